package tests

import (
	"math/rand"
	"slices"
	"testing"

	"loop.example/g00656/impl"
)

// someFilter has rising times, and few delays, so that the least one is there more than once.
func someFilter(r *rand.Rand, count int) []impl.Sample {
	l := []impl.Sample{}
	at := r.Int63n(1000)
	for range count {
		l = append(l, impl.Sample{Offset: r.Int63n(401) - 200, Delay: 10 + r.Int63n(4), Disp: r.Int63n(50), At: at})
		at += 1 + r.Int63n(100)
	}
	return l
}

// wrongFilters are too long, have one number past its bounds, or do not rise at one place.
func wrongFilters() [][]impl.Sample {
	r := rand.New(rand.NewSource(9))
	l := [][]impl.Sample{someFilter(r, impl.MaxSamples+1), someFilter(r, 20)}
	for _, count := range []int{1, 2, 8} {
		for place := range count {
			for _, f := range sampleFields() {
				for _, x := range []int64{f.low - 1, f.high + 1} {
					wrong := someFilter(r, count)
					*f.at(&wrong[place]) = x
					l = append(l, wrong)
				}
			}
		}
	}
	for place := 1; place < 8; place++ {
		same := someFilter(r, 8)
		same[place].At = same[place-1].At
		back := someFilter(r, 8)
		back[place], back[place-1] = back[place-1], back[place]
		l = append(l, same, back)
	}
	return l
}

func TestFilterOk(t *testing.T) {
	r := rand.New(rand.NewSource(10))
	if !impl.FilterOk(nil) || !impl.FilterOk([]impl.Sample{}) {
		t.Error("none")
	}
	for count := range impl.MaxSamples + 1 {
		if l := someFilter(r, count); !impl.FilterOk(l) {
			t.Errorf("%+v is not right", l)
		}
	}
	if !impl.FilterOk([]impl.Sample{{At: 0}, {At: 1}, {At: impl.MaxTime}}) {
		t.Error("the first time and the last one")
	}
	for _, l := range wrongFilters() {
		if impl.FilterOk(l) {
			t.Errorf("%+v is right", l)
		}
	}
}

func TestFilterAdd(t *testing.T) {
	r := rand.New(rand.NewSource(11))
	for count := range impl.MaxSamples + 1 {
		all := someFilter(r, count+1)
		l, s := all[:count:count], all[count]
		want := all
		if count == impl.MaxSamples {
			want = all[1:]
		}
		if n, ok := impl.FilterAdd(l, s); !ok || !slices.Equal(n, want) || !impl.FilterOk(n) {
			t.Errorf("%+v and %+v: %+v, %v", l, s, n, ok)
		}
	}
}

// From none on, one by one: the last eight are kept, whatever came ahead of them.
func TestFilterAddKeepsTheLastEight(t *testing.T) {
	all := someFilter(rand.New(rand.NewSource(12)), 40)
	l := []impl.Sample(nil)
	for i, s := range all {
		n, ok := impl.FilterAdd(l, s)
		if !ok || !slices.Equal(n, all[max(0, i+1-8):i+1]) {
			t.Fatalf("%d: %+v, %v", i, n, ok)
		}
		l = n
	}
}

func TestFilterAddRefuses(t *testing.T) {
	no := func(l []impl.Sample, s impl.Sample) {
		t.Helper()
		if n, ok := impl.FilterAdd(l, s); ok || len(n) != 0 {
			t.Errorf("%+v and %+v: %+v, %v", l, s, n, ok)
		}
	}
	r := rand.New(rand.NewSource(13))
	for _, count := range []int{1, 7, 8} {
		l := someFilter(r, count)
		for _, at := range []int64{l[count-1].At, l[count-1].At - 1, l[0].At, 0} {
			no(l, impl.Sample{At: at})
		}
		if n, ok := impl.FilterAdd(l, impl.Sample{At: l[count-1].At + 1}); !ok || n[len(n)-1].At != l[count-1].At+1 {
			t.Error(n, ok)
		}
	}
	for _, s := range wrongSamples() {
		no(nil, s)
		no(someFilter(r, 3), s)
		no(someFilter(r, 8), s)
	}
	for _, l := range wrongFilters() {
		no(l, impl.Sample{At: impl.MaxTime})
	}
}

// What is given and the spare room behind it stay as they were, and what is answered is new memory.
func TestFilterAddLeavesWhatIsGiven(t *testing.T) {
	for _, count := range []int{0, 1, 7, 8} {
		room := someFilter(rand.New(rand.NewSource(14)), 20)
		before := slices.Clone(room)
		n, ok := impl.FilterAdd(room[:count], room[19])
		if !ok || !slices.Equal(room, before) {
			t.Fatalf("%+v was %+v", room, before)
		}
		for i := range n {
			n[i] = impl.Sample{Offset: -1}
		}
		if !slices.Equal(room, before) {
			t.Fatalf("%d: what was given is in what is answered", count)
		}
		clear(room)
		for _, s := range n {
			if s.Offset != -1 {
				t.Fatalf("%d: what is answered is in what was given", count)
			}
		}
	}
}

func TestBestOfByHand(t *testing.T) {
	a := impl.Sample{Offset: 1, Delay: 30, Disp: 9, At: 1}
	b := impl.Sample{Offset: 2, Delay: 20, Disp: 8, At: 2}
	c := impl.Sample{Offset: 3, Delay: 20, Disp: 90, At: 3}
	d := impl.Sample{Offset: 4, Delay: 21, Disp: 0, At: 4}
	for _, x := range []struct {
		list []impl.Sample
		want impl.Sample
	}{
		{[]impl.Sample{a}, a},
		{[]impl.Sample{a, b}, b},
		{[]impl.Sample{b, c}, c},
		{[]impl.Sample{a, b, c, d}, c},
		{[]impl.Sample{a, b, d}, b},
		{[]impl.Sample{a, d}, d},
		{[]impl.Sample{{At: 0}, {At: 7}}, impl.Sample{At: 7}},
		{[]impl.Sample{{Delay: maxDelay, At: 0}}, impl.Sample{Delay: maxDelay}},
	} {
		if s, ok := impl.BestOf(x.list); !ok || s != x.want {
			t.Errorf("%+v: %+v, %v", x.list, s, ok)
		}
	}
}

func TestBestOfNone(t *testing.T) {
	for _, l := range append(wrongFilters(), nil, []impl.Sample{}) {
		if s, ok := impl.BestOf(l); ok || s != (impl.Sample{}) {
			t.Errorf("%+v: %+v", l, s)
		}
	}
}

// No delay is less than the best one's, and those behind it have a greater one.
func TestNoDelayIsLessThanTheBest(t *testing.T) {
	r := rand.New(rand.NewSource(15))
	for range 5000 {
		l := someFilter(r, 1+r.Intn(8))
		best, ok := impl.BestOf(l)
		if !ok || !slices.Contains(l, best) {
			t.Fatalf("%+v: %+v, %v", l, best, ok)
		}
		for _, s := range l {
			if s.Delay < best.Delay || s.At > best.At && s.Delay == best.Delay {
				t.Fatalf("%+v: %+v, not %+v", l, s, best)
			}
		}
	}
}

// offsets are samples of these offsets, of which that at place best has the least delay.
func offsets(best int, list ...int64) []impl.Sample {
	l := []impl.Sample{}
	for i, x := range list {
		l = append(l, impl.Sample{Offset: x, Delay: 5, At: int64(i)})
	}
	l[best].Delay = 4
	return l
}

func TestJitterOfByHand(t *testing.T) {
	for _, x := range []struct {
		list []impl.Sample
		want int64
	}{
		{nil, 0},
		{offsets(0, 77), 0},
		{offsets(0, 10, 13), 3},
		{offsets(1, 10, 13), 3},
		{offsets(0, -10, 13), 23},
		{offsets(0, -10, -13), 3},
		// 3 and 4 by two, and 3 and 3 and 2 by three: cut.
		{offsets(0, 0, 3, -4), 3},
		{offsets(0, 0, 3, -3), 3},
		{offsets(1, 3, 0, 3, 2), 2},
		{offsets(0, 0, 1, 0), 0},
		{offsets(0, 0, 1, 1), 1},
		{offsets(7, 0, 0, 0, 0, 0, 0, 0, 6), 6},
		{offsets(6, 0, 0, 0, 0, 0, 0, 0, 6), 0},
		{offsets(0, maxOffset, -maxOffset, -maxOffset, -maxOffset, -maxOffset, -maxOffset, -maxOffset, -maxOffset), 2 * maxOffset},
	} {
		if n := impl.JitterOf(x.list); n != x.want {
			t.Errorf("%+v: %d, not %d", x.list, n, x.want)
		}
	}
	for _, l := range wrongFilters() {
		if n := impl.JitterOf(l); n != -1 {
			t.Errorf("%+v: %d", l, n)
		}
	}
}

// jitter is what chapter 4 says of a right filter, told without the program.
func jitter(l []impl.Sample) int64 {
	best := slices.MinFunc(l, func(a impl.Sample, b impl.Sample) int {
		if a.Delay != b.Delay {
			return int(a.Delay - b.Delay)
		}
		return int(b.At - a.At)
	})
	sum := int64(0)
	for _, s := range l {
		if s.Offset > best.Offset {
			sum += s.Offset - best.Offset
		} else {
			sum += best.Offset - s.Offset
		}
	}
	if len(l) > 1 {
		sum /= int64(len(l) - 1)
	}
	return sum
}

func TestJitterOf(t *testing.T) {
	r := rand.New(rand.NewSource(16))
	for range 5000 {
		l := someFilter(r, 1+r.Intn(8))
		if n := impl.JitterOf(l); n != jitter(l) {
			t.Fatalf("%+v: %d, not %d", l, n, jitter(l))
		}
	}
}

// Samples of one offset have no jitter, whatever else they have.
func TestOneOffsetNoJitter(t *testing.T) {
	r := rand.New(rand.NewSource(17))
	for range 2000 {
		l := someFilter(r, 1+r.Intn(8))
		offset := r.Int63n(2*maxOffset+1) - maxOffset
		for i := range l {
			l[i].Offset = offset
		}
		if n := impl.JitterOf(l); n != 0 {
			t.Fatalf("%+v: %d", l, n)
		}
	}
}

func TestPopcornByHand(t *testing.T) {
	check := func(l []impl.Sample, s impl.Sample, want bool) {
		t.Helper()
		if impl.Popcorn(l, s) != want {
			t.Errorf("%+v and %+v: %v", l, s, !want)
		}
	}
	// Jitters of 25 about 70, of none and of one about -8 and of two about 0: three of them at least are wanted.
	for _, x := range []struct {
		list  []impl.Sample
		best  int64
		apart int64
	}{
		{offsets(0, 70, 95), 70, 75},
		{offsets(1, 45, 70, 95), 70, 75},
		{offsets(0, -8, -8), -8, 3},
		{offsets(1, -9, -8, -7), -8, 3},
		{offsets(0, 0, 2), 0, 6},
		{offsets(0, 0, 2, -3), 0, 6},
	} {
		for _, d := range []int64{0, 1, 2, 3, x.apart - 1, x.apart} {
			check(x.list, impl.Sample{Offset: x.best + d}, false)
			check(x.list, impl.Sample{Offset: x.best - d, At: 99}, false)
		}
		for _, d := range []int64{x.apart + 1, x.apart + 2, 1000, maxOffset - 100} {
			check(x.list, impl.Sample{Offset: x.best + d}, true)
			check(x.list, impl.Sample{Offset: x.best - d, At: 99}, true)
		}
	}
	full := offsets(3, 10, -10, 10, 0, -10, 10, -10, 10)
	check(full, impl.Sample{Offset: 30}, false)
	check(full, impl.Sample{Offset: -31}, true)
	far := offsets(0, maxOffset, -maxOffset)
	check(far, impl.Sample{Offset: -maxOffset}, false)
}

func TestPopcornWantsRightSamples(t *testing.T) {
	far := impl.Sample{Offset: maxOffset}
	if impl.Popcorn(nil, far) || impl.Popcorn(offsets(0, 0), far) || !impl.Popcorn(offsets(0, 0, 0), far) {
		t.Error("two at least")
	}
	for _, l := range wrongFilters() {
		if impl.Popcorn(l, far) || impl.Popcorn(l, impl.Sample{Offset: -maxOffset, At: impl.MaxTime}) {
			t.Errorf("%+v", l)
		}
	}
	for _, s := range wrongSamples() {
		if impl.Popcorn(offsets(0, 0, 0), s) {
			t.Errorf("%+v", s)
		}
	}
}

// Asking a filter changes nothing in it, and the same filter gives the same answers.
func TestFiltersAreOnlyRead(t *testing.T) {
	r := rand.New(rand.NewSource(18))
	for range 200 {
		l := someFilter(r, 2+r.Intn(7))
		before := slices.Clone(l)
		best, _ := impl.BestOf(l)
		far := impl.Sample{Offset: 5000}
		n, spike := impl.JitterOf(l), impl.Popcorn(l, far)
		again, _ := impl.BestOf(l)
		if !slices.Equal(l, before) || again != best || impl.JitterOf(l) != n || impl.Popcorn(l, far) != spike || !impl.FilterOk(l) {
			t.Fatalf("%+v was %+v", l, before)
		}
	}
}
