package tests

import (
	"math"
	"math/rand"
	"slices"
	"testing"

	"loop.example/g00656/impl"
)

const (
	maxLeaps    = 30
	firstLeapAt = 86400
	lastLeapAt  = 4000000000
	betweenLeap = 172800
	halfADay    = 43200
	noCount     = -1000
	noSmear     = -1000000000
)

func leap(at int64, add int64) impl.Leap {
	return impl.Leap{At: at, Add: add}
}

// manyLeaps lie as near to each other as they may.
func manyLeaps(count int) []impl.Leap {
	var l []impl.Leap
	for i := range int64(count) {
		l = append(l, leap(firstLeapAt+i*betweenLeap, []int64{1, 1, -1}[i%3]))
	}
	return l
}

// someLeaps are in part as near as they may be, and in part far from each other.
func someLeaps(r *rand.Rand, count int) []impl.Leap {
	var l []impl.Leap
	at := firstLeapAt + r.Int63n(3)
	for range count {
		l = append(l, leap(at, 1-2*r.Int63n(2)))
		at += betweenLeap
		if r.Intn(2) == 0 {
			at += r.Int63n(100000000)
		}
	}
	return l
}

// edgeTimes are all those at which something may change, and one more and one less.
func edgeTimes(l []impl.Leap) []int64 {
	times := []int64{0, 1, 2, lastLeapAt - 1, lastLeapAt}
	for _, x := range l {
		for _, from := range []int64{-betweenLeap, -2 * halfADay, -halfADay, 0, halfADay, 2 * halfADay, betweenLeap} {
			for more := int64(-2); more <= 2; more++ {
				if at := x.At + from + more; at >= 0 && at <= lastLeapAt {
					times = append(times, at)
				}
			}
		}
	}
	return times
}

// countAt, smearAt and nextOf are what chapter 14 says of right leaps, told without the program.
func countAt(l []impl.Leap, t int64) int64 {
	sum := int64(0)
	for i := len(l) - 1; i >= 0; i-- {
		if t >= l[i].At {
			sum += l[i].Add
		}
	}
	return sum
}

func smearAt(l []impl.Leap, t int64) int64 {
	sum := int64(0)
	for _, x := range l {
		begins := x.At - halfADay
		switch {
		case t <= begins:
		case t >= begins+86400:
			sum += x.Add * 1000000
		default:
			come := (t - begins) * 1000000
			sum += x.Add * ((come - come%86400) / 86400)
		}
	}
	return sum
}

func nextOf(l []impl.Leap, t int64) (impl.Leap, bool) {
	at := slices.IndexFunc(l, func(x impl.Leap) bool { return x.At > t })
	if at < 0 {
		return impl.Leap{}, false
	}
	return l[at], true
}

func checkLeaps(t *testing.T, l []impl.Leap, at int64) {
	t.Helper()
	if n := impl.LeapAt(l, at); n != countAt(l, at) {
		t.Fatalf("%v at %d: %d", l, at, n)
	}
	if n := impl.Smeared(l, at); n != smearAt(l, at) {
		t.Fatalf("%v at %d: %d is smeared", l, at, n)
	}
	want, found := nextOf(l, at)
	if x, ok := impl.NextLeap(l, at); ok != found || x != want {
		t.Fatalf("%v at %d: %v, %v is next", l, at, x, ok)
	}
}

func noLeaps(t *testing.T, l []impl.Leap, at int64) {
	t.Helper()
	if n := impl.LeapAt(l, at); n != noCount {
		t.Errorf("%v at %d: %d", l, at, n)
	}
	if n := impl.Smeared(l, at); n != noSmear {
		t.Errorf("%v at %d: %d is smeared", l, at, n)
	}
	if x, ok := impl.NextLeap(l, at); ok || x != (impl.Leap{}) {
		t.Errorf("%v at %d: %v, %v is next", l, at, x, ok)
	}
}

// wrongLeaps have one too many, one number past its bounds at each place, or lie too near to each other.
func wrongLeaps() [][]impl.Leap {
	long := manyLeaps(maxLeaps + 1)
	l := [][]impl.Leap{long, manyLeaps(100), {leap(0, 0)}, {leap(100000, 1), leap(-100000, 1)}}
	for _, count := range []int{1, 2, 3, maxLeaps} {
		for at := range count {
			for _, wrong := range []int64{-2, 0, 2, 3, math.MinInt64, math.MaxInt64} {
				x := manyLeaps(count)
				x[at].Add = wrong
				l = append(l, x)
			}
			for _, wrong := range []int64{firstLeapAt - 1, 0, -1, lastLeapAt + 1, math.MinInt64, math.MinInt64 + firstLeapAt, math.MaxInt64} {
				x := manyLeaps(count)
				x[at].At = wrong
				l = append(l, x)
			}
		}
		for at := 1; at < count; at++ {
			for _, gap := range []int64{betweenLeap - 1, halfADay, 1, 0, -1, -betweenLeap, -betweenLeap - 1} {
				x := manyLeaps(count)
				for i := range x[at:] {
					x[at+i].At += 10 * betweenLeap
				}
				x[at-1].At = x[at].At - gap
				if x[at-1].At >= firstLeapAt {
					l = append(l, x)
				}
			}
		}
	}
	return l
}

func TestLeapsOk(t *testing.T) {
	for i, l := range [][]impl.Leap{
		nil, {}, {leap(firstLeapAt, 1)}, {leap(firstLeapAt, -1)}, {leap(lastLeapAt, 1)}, {leap(lastLeapAt, -1)}, {leap(firstLeapAt+1, 1)}, {leap(lastLeapAt-1, -1)},
		{leap(100000, 1), leap(272800, 1)}, {leap(100000, 1), leap(272801, -1)}, {leap(100000, -1), leap(272800, -1), leap(445600, 1)},
		{leap(firstLeapAt, 1), leap(lastLeapAt, 1)}, {leap(lastLeapAt-betweenLeap, 1), leap(lastLeapAt, -1)},
		manyLeaps(maxLeaps - 1), manyLeaps(maxLeaps),
	} {
		if !impl.LeapsOk(l) {
			t.Error(i, l)
		}
	}
	for i, l := range wrongLeaps() {
		if impl.LeapsOk(l) {
			t.Error(i, l)
		}
	}
	if impl.LeapsOk([]impl.Leap{leap(100000, 1), leap(272799, 1)}) || impl.LeapsOk([]impl.Leap{leap(lastLeapAt-betweenLeap+1, 1), leap(lastLeapAt, 1)}) {
		t.Error("two that are too near are right")
	}
}

func TestLeapAtByHand(t *testing.T) {
	one := []impl.Leap{leap(100000, 1)}
	two := []impl.Leap{leap(100000, 1), leap(300000, -1)}
	down := []impl.Leap{leap(firstLeapAt, -1), leap(500000, -1), leap(lastLeapAt, -1)}
	for i, x := range []struct {
		l    []impl.Leap
		t    int64
		want int64
	}{
		{nil, 0, 0}, {nil, 100000, 0}, {nil, lastLeapAt, 0},
		{one, 0, 0}, {one, 99999, 0}, {one, 100000, 1}, {one, 100001, 1}, {one, lastLeapAt, 1},
		{two, 99999, 0}, {two, 100000, 1}, {two, 299999, 1}, {two, 300000, 0}, {two, 300001, 0},
		{down, 86399, 0}, {down, 86400, -1}, {down, 499999, -1}, {down, 500000, -2}, {down, lastLeapAt - 1, -2}, {down, lastLeapAt, -3},
		{manyLeaps(maxLeaps), lastLeapAt, 10}, {manyLeaps(maxLeaps), firstLeapAt + 28*betweenLeap, 11}, {manyLeaps(maxLeaps), firstLeapAt + 29*betweenLeap - 1, 11},
	} {
		if n := impl.LeapAt(x.l, x.t); n != x.want {
			t.Error(i, n)
		}
	}
}

func TestSmearedByHand(t *testing.T) {
	up, down := []impl.Leap{leap(100000, 1)}, []impl.Leap{leap(100000, -1)}
	// A quotient is cut: below 0 it is told nearer to nought, too.
	for at, want := range map[int64]int64{0: 0, 56799: 0, 56800: 0, 56801: 11, 56802: 23, 99999: 499988, 100000: 500000, 100001: 500011, 143198: 999976, 143199: 999988, 143200: 1000000, 143201: 1000000, lastLeapAt: 1000000} {
		if n := impl.Smeared(up, at); n != want {
			t.Error(at, n)
		}
		if n := impl.Smeared(down, at); n != -want {
			t.Error(at, n)
		}
	}
	near := []impl.Leap{leap(100000, 1), leap(272800, 1), leap(445600, -1)}
	for at, want := range map[int64]int64{143200: 1000000, 186400: 1000000, 229600: 1000000, 229601: 1000011, 272800: 1500000, 316000: 2000000, 402400: 2000000, 402401: 1999989, 445600: 1500000, 488799: 1000012, 488800: 1000000} {
		if n := impl.Smeared(near, at); n != want {
			t.Error(at, n)
		}
	}
	if n := impl.Smeared(nil, 100000); n != 0 {
		t.Error(n)
	}
	edges := []impl.Leap{leap(firstLeapAt, 1), leap(lastLeapAt, -1)}
	for at, want := range map[int64]int64{0: 0, 43200: 0, 43201: 11, 86400: 500000, 129600: 1000000, lastLeapAt - halfADay: 1000000, lastLeapAt: 500000} {
		if n := impl.Smeared(edges, at); n != want {
			t.Error(at, n)
		}
	}
}

func TestNextLeapByHand(t *testing.T) {
	l := []impl.Leap{leap(100000, 1), leap(300000, -1), leap(lastLeapAt, 1)}
	for at, want := range map[int64]impl.Leap{0: l[0], 99999: l[0], 100000: l[1], 100001: l[1], 299999: l[1], 300000: l[2], lastLeapAt - 1: l[2]} {
		if x, ok := impl.NextLeap(l, at); !ok || x != want {
			t.Error(at, x, ok)
		}
	}
	if x, ok := impl.NextLeap(l, lastLeapAt); ok || x != (impl.Leap{}) {
		t.Error(x, ok)
	}
	for _, at := range []int64{300000, 300001, lastLeapAt} {
		if x, ok := impl.NextLeap(l[:2], at); ok || x != (impl.Leap{}) {
			t.Error(at, x, ok)
		}
	}
	if x, ok := impl.NextLeap(nil, 0); ok || x != (impl.Leap{}) {
		t.Error(x, ok)
	}
}

func TestLeaps(t *testing.T) {
	r := rand.New(rand.NewSource(140))
	for _, count := range []int{0, 1, 2, 3, 10, maxLeaps - 1, maxLeaps} {
		for range 10 {
			l := someLeaps(r, count)
			for _, at := range edgeTimes(l) {
				checkLeaps(t, l, at)
			}
			for range 300 {
				checkLeaps(t, l, r.Int63n(lastLeapAt+1))
				if count > 0 {
					checkLeaps(t, l, l[r.Intn(count)].At-firstLeapAt+r.Int63n(betweenLeap))
				}
			}
		}
	}
}

func TestSmearedOfEachSecond(t *testing.T) {
	for _, add := range []int64{1, -1} {
		l := []impl.Leap{leap(firstLeapAt, add)}
		for at := range int64(2 * firstLeapAt) {
			if n := impl.Smeared(l, at); n != smearAt(l, at) {
				t.Fatal(at, n)
			}
		}
	}
}

func TestLeapsRefuse(t *testing.T) {
	for _, l := range wrongLeaps() {
		for _, at := range []int64{-1, 0, 5, 100000, lastLeapAt, lastLeapAt + 1} {
			noLeaps(t, l, at)
		}
	}
	for _, count := range []int{0, 1, 2, maxLeaps} {
		for _, at := range []int64{-1, -2, lastLeapAt + 1, lastLeapAt + 2, math.MinInt64, math.MinInt64 + lastLeapAt, math.MaxInt64 - halfADay, math.MaxInt64} {
			noLeaps(t, manyLeaps(count), at)
		}
		for _, at := range []int64{0, lastLeapAt} {
			checkLeaps(t, manyLeaps(count), at)
		}
	}
}

// Promise 14, asked of the program alone.
func TestALeapCountsFromItsSecondOn(t *testing.T) {
	r := rand.New(rand.NewSource(141))
	for range 200 {
		l := someLeaps(r, r.Intn(maxLeaps+1))
		if !impl.LeapsOk(l) {
			t.Fatal(l)
		}
		for i, x := range l {
			ahead, at := impl.LeapAt(l, x.At-1), impl.LeapAt(l, x.At)
			if at-ahead != x.Add || at != impl.LeapAt(l[:i+1], lastLeapAt) || ahead != impl.LeapAt(l[:i], lastLeapAt) {
				t.Fatal(l, i, ahead, at)
			}
			if next, ok := impl.NextLeap(l, x.At-1); !ok || next != x {
				t.Fatal(l, i, next, ok)
			}
		}
	}
}

// Promise 14, as well: half a day from any leap, and farther away.
func TestSmearedIsWhatCounts(t *testing.T) {
	r := rand.New(rand.NewSource(142))
	asked := 0
	for range 300 {
		l := someLeaps(r, r.Intn(maxLeaps+1))
		times := edgeTimes(l)
		for range 100 {
			times = append(times, r.Int63n(lastLeapAt+1))
		}
		for _, at := range times {
			if slices.ContainsFunc(l, func(x impl.Leap) bool { return at > x.At-halfADay && at < x.At+halfADay }) {
				continue
			}
			asked++
			if n := impl.Smeared(l, at); n != 1000000*impl.LeapAt(l, at) {
				t.Fatal(l, at, n)
			}
		}
	}
	if asked < 10000 {
		t.Error("too few:", asked)
	}
}

// A second ahead of the end of a smear something is left of it, and a second behind its beginning something has come.
func TestSmearedInBetween(t *testing.T) {
	r := rand.New(rand.NewSource(143))
	for range 200 {
		l := someLeaps(r, 1+r.Intn(maxLeaps))
		for i, x := range l {
			from, to := 1000000*impl.LeapAt(l[:i], lastLeapAt), 1000000*impl.LeapAt(l[:i+1], lastLeapAt)
			last := from
			for at := x.At - halfADay + 1; at < x.At+halfADay; at += 1 + r.Int63n(9000) {
				n := impl.Smeared(l, at)
				if (n-last)*x.Add <= 0 || (to-n)*x.Add <= 0 {
					t.Fatal(l, i, at, n)
				}
				last = n
			}
			if n := impl.Smeared(l, x.At); n != (from+to)/2 {
				t.Fatal(l, i, n)
			}
		}
	}
}

func TestLeapsAreOnlyRead(t *testing.T) {
	r := rand.New(rand.NewSource(144))
	lists := append(wrongLeaps(), someLeaps(r, 0), someLeaps(r, 5), someLeaps(r, maxLeaps))
	for _, x := range lists {
		room := append(slices.Clone(x), leap(7, 8), leap(9, 10))
		ahead := slices.Clone(room)
		l := room[:len(x)]
		for _, at := range []int64{-1, 0, 100000, 1000000, lastLeapAt, lastLeapAt + 1} {
			ok, count, smear := impl.LeapsOk(l), impl.LeapAt(l, at), impl.Smeared(l, at)
			next, found := impl.NextLeap(l, at)
			if impl.LeapsOk(l) != ok || impl.LeapAt(l, at) != count || impl.Smeared(l, at) != smear {
				t.Fatal(l, at)
			}
			if again, still := impl.NextLeap(l, at); again != next || still != found {
				t.Fatal(l, at, again, still)
			}
		}
		if !slices.Equal(room, ahead) {
			t.Fatal(ahead, room)
		}
	}
}
