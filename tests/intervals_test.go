package tests

import (
	"math"
	"math/rand"
	"slices"
	"testing"

	"loop.example/g00656/impl"
)

const (
	maxPlace     = 4000000000000
	maxIntervals = 20
)

// spans are intervals, each told by its Low and its High.
func spans(list ...[2]int64) []impl.Interval {
	l := []impl.Interval{}
	for _, x := range list {
		l = append(l, impl.Interval{Low: x[0], High: x[1]})
	}
	return l
}

func copies(i impl.Interval, count int) []impl.Interval {
	return slices.Repeat([]impl.Interval{i}, count)
}

// someIntervals lie on few places, so that many touch, have one place alone, or are the same.
func someIntervals(r *rand.Rand, count int) []impl.Interval {
	l := []impl.Interval{}
	places := 1 + r.Int63n(40)
	for range count {
		low := r.Int63n(places) - places/2
		l = append(l, impl.Interval{Low: low, High: low + r.Int63n(1+r.Int63n(places))})
	}
	return l
}

// wrongIntervals have an end one past its bound, or far past it, or Low above High.
func wrongIntervals() []impl.Interval {
	return spans(
		[2]int64{-maxPlace - 1, 0},
		[2]int64{0, maxPlace + 1},
		[2]int64{-maxPlace - 1, -maxPlace - 1},
		[2]int64{maxPlace + 1, maxPlace + 1},
		[2]int64{-maxPlace - 1, maxPlace},
		[2]int64{-maxPlace, maxPlace + 1},
		[2]int64{math.MinInt64, 0},
		[2]int64{0, math.MaxInt64},
		[2]int64{math.MinInt64, math.MaxInt64},
		[2]int64{1, 0},
		[2]int64{0, -1},
		[2]int64{-4, -5},
		[2]int64{maxPlace, maxPlace - 1},
		[2]int64{-maxPlace + 1, -maxPlace},
		[2]int64{maxPlace, -maxPlace},
		[2]int64{math.MaxInt64, math.MinInt64},
	)
}

// wrongLists have one interval too many, or one that is not right at one place.
func wrongLists() [][]impl.Interval {
	right := impl.Interval{Low: -5, High: 5}
	l := [][]impl.Interval{copies(right, maxIntervals+1), copies(right, 40)}
	for _, wrong := range wrongIntervals() {
		for _, count := range []int{1, 2, 3, maxIntervals} {
			for _, place := range []int{0, count / 2, count - 1} {
				list := copies(right, count)
				list[place] = wrong
				l = append(l, list)
			}
		}
	}
	return l
}

// has is whether an interval has a place, told without the program.
func has(i impl.Interval, x int64) bool {
	return x >= i.Low && x <= i.High
}

func depth(l []impl.Interval, x int64) int64 {
	n := int64(0)
	for _, i := range l {
		if has(i, x) {
			n++
		}
	}
	return n
}

// agreed goes through the places one by one; it is for a right list with few places.
func agreed(l []impl.Interval) (impl.Interval, []int64) {
	if len(l) == 0 {
		return impl.Interval{}, nil
	}
	from, to := int64(math.MaxInt64), int64(math.MinInt64)
	for _, i := range l {
		from, to = min(from, i.Low), max(to, i.High)
	}
	least := from
	for x := from; x <= to; x++ {
		if depth(l, x) > depth(l, least) {
			least = x
		}
	}
	end := int64(math.MaxInt64)
	places := []int64{}
	for place, i := range l {
		if has(i, least) {
			places = append(places, int64(place))
			end = min(end, i.High)
		}
	}
	return impl.Interval{Low: least, High: end}, places
}

func TestIntervalOk(t *testing.T) {
	for _, i := range spans(
		[2]int64{0, 0}, [2]int64{-1, 1}, [2]int64{3, 4}, [2]int64{-4, -3},
		[2]int64{-maxPlace, maxPlace}, [2]int64{-maxPlace, -maxPlace}, [2]int64{maxPlace, maxPlace},
		[2]int64{-maxPlace + 1, maxPlace - 1}, [2]int64{-maxPlace, 0}, [2]int64{0, maxPlace},
	) {
		if !impl.IntervalOk(i) {
			t.Errorf("%+v is not right", i)
		}
	}
	for _, i := range wrongIntervals() {
		if impl.IntervalOk(i) {
			t.Errorf("%+v is right", i)
		}
	}
}

func TestIntervalOfByHand(t *testing.T) {
	for _, x := range []struct {
		offset, delay, disp int64
		low, high           int64
	}{
		{0, 0, 0, 0, 0},
		{-7, 0, 0, -7, -7},
		{200, 800, 1, -201, 601},
		{-200, 800, 1, -601, 201},
		// An odd delay: the half goes up to a whole number.
		{10, 1, 0, 9, 11},
		{10, 2, 0, 9, 11},
		{10, 3, 0, 8, 12},
		{-10, 3, 5, -17, -3},
		{0, 0, 4, -4, 4},
		{maxOffset, maxDelay, maxDisp, 500000000000 - maxDisp, 1500000000000 + maxDisp},
		{-maxOffset, maxDelay, maxDisp, -1500000000000 - maxDisp, -500000000000 + maxDisp},
	} {
		s := impl.Sample{Offset: x.offset, Delay: x.delay, Disp: x.disp, At: 77}
		i, ok := impl.IntervalOf(s)
		if !ok || i != (impl.Interval{Low: x.low, High: x.high}) || !impl.IntervalOk(i) {
			t.Errorf("%+v: %+v, %v", s, i, ok)
		}
	}
}

func TestIntervalOfRefuses(t *testing.T) {
	for _, s := range wrongSamples() {
		if i, ok := impl.IntervalOf(s); ok || i != (impl.Interval{}) {
			t.Errorf("%+v: %+v, %v", s, i, ok)
		}
	}
}

func TestDepthByHand(t *testing.T) {
	l := spans([2]int64{0, 10}, [2]int64{8, 20}, [2]int64{5, 9}, [2]int64{30, 40}, [2]int64{20, 20})
	for _, x := range [][2]int64{
		{-1, 0}, {0, 1}, {4, 1}, {5, 2}, {7, 2}, {8, 3}, {9, 3}, {10, 2}, {11, 1}, {19, 1}, {20, 2}, {21, 0},
		{29, 0}, {30, 1}, {40, 1}, {41, 0}, {math.MinInt64, 0}, {math.MaxInt64, 0},
	} {
		if n := impl.Depth(l, x[0]); n != x[1] {
			t.Errorf("at %d: %d, not %d", x[0], n, x[1])
		}
	}
	if n := impl.Depth(nil, 0); n != 0 {
		t.Error("none", n)
	}
	for count := range int64(maxIntervals + 1) {
		if n := impl.Depth(copies(impl.Interval{Low: 3, High: 3}, int(count)), 3); n != count {
			t.Error(count, n)
		}
	}
	wide := spans([2]int64{-maxPlace, maxPlace})
	for _, x := range [][2]int64{{-maxPlace - 1, 0}, {-maxPlace, 1}, {0, 1}, {maxPlace, 1}, {maxPlace + 1, 0}} {
		if n := impl.Depth(wide, x[0]); n != x[1] {
			t.Error(x, n)
		}
	}
}

func TestAgreedByHand(t *testing.T) {
	for _, x := range []struct {
		name   string
		list   []impl.Interval
		want   [2]int64
		places []int64
	}{
		{"one", spans([2]int64{-3, 8}), [2]int64{-3, 8}, []int64{0}},
		{"one place alone", spans([2]int64{-3, -3}), [2]int64{-3, -3}, []int64{0}},
		{"all of the bounds", spans([2]int64{-maxPlace, maxPlace}), [2]int64{-maxPlace, maxPlace}, []int64{0}},
		{"the first bound", spans([2]int64{-maxPlace, -maxPlace}), [2]int64{-maxPlace, -maxPlace}, []int64{0}},
		{"the last bound", spans([2]int64{maxPlace, maxPlace}), [2]int64{maxPlace, maxPlace}, []int64{0}},
		{"below nought", spans([2]int64{-9, -4}, [2]int64{-6, -2}), [2]int64{-6, -4}, []int64{0, 1}},
		{"at nought", spans([2]int64{0, 0}, [2]int64{5, 6}), [2]int64{0, 0}, []int64{0}},
		{"all but one", spans([2]int64{0, 10}, [2]int64{8, 20}, [2]int64{5, 9}, [2]int64{30, 40}), [2]int64{8, 9}, []int64{0, 1, 2}},
		{"one within the other", spans([2]int64{0, 10}, [2]int64{4, 6}), [2]int64{4, 6}, []int64{0, 1}},
		{"the same three times", spans([2]int64{4, 6}, [2]int64{4, 6}, [2]int64{4, 6}), [2]int64{4, 6}, []int64{0, 1, 2}},
		{"they touch in one place", spans([2]int64{0, 5}, [2]int64{5, 9}), [2]int64{5, 5}, []int64{0, 1}},
		{"they touch, the later one first", spans([2]int64{5, 9}, [2]int64{0, 5}), [2]int64{5, 5}, []int64{0, 1}},
		{"they do not touch by one", spans([2]int64{0, 4}, [2]int64{5, 9}), [2]int64{0, 4}, []int64{0}},
		{"they do not touch, the later one first", spans([2]int64{5, 9}, [2]int64{0, 4}), [2]int64{0, 4}, []int64{1}},
		{"a chain", spans([2]int64{0, 5}, [2]int64{5, 9}, [2]int64{9, 12}), [2]int64{5, 5}, []int64{0, 1}},
		{"three touch where one has that place alone", spans([2]int64{0, 5}, [2]int64{5, 5}, [2]int64{5, 9}), [2]int64{5, 5}, []int64{0, 1, 2}},
		{"one place alone at the end of another", spans([2]int64{0, 5}, [2]int64{5, 5}), [2]int64{5, 5}, []int64{0, 1}},
		{"one place alone at the start of another", spans([2]int64{5, 8}, [2]int64{5, 5}), [2]int64{5, 5}, []int64{0, 1}},
		{"two places of one depth", spans([2]int64{30, 40}, [2]int64{0, 10}, [2]int64{35, 36}, [2]int64{10, 12}), [2]int64{10, 10}, []int64{1, 3}},
		{"two places of one depth, the wide one later", spans([2]int64{0, 3}, [2]int64{2, 3}, [2]int64{10, 90}, [2]int64{10, 90}), [2]int64{2, 3}, []int64{0, 1}},
		{"two places within one interval", spans([2]int64{0, 100}, [2]int64{60, 70}, [2]int64{20, 30}), [2]int64{20, 30}, []int64{0, 2}},
		{"the later place is deeper", spans([2]int64{0, 10}, [2]int64{0, 10}, [2]int64{20, 30}, [2]int64{25, 30}, [2]int64{30, 31}), [2]int64{30, 30}, []int64{2, 3, 4}},
		{"one ends ahead of the deepest place", spans([2]int64{0, 3}, [2]int64{0, 50}, [2]int64{10, 40}, [2]int64{20, 30}), [2]int64{20, 30}, []int64{1, 2, 3}},
		{"many end at once", spans([2]int64{1, 9}, [2]int64{2, 9}, [2]int64{3, 9}), [2]int64{3, 9}, []int64{0, 1, 2}},
		{"twenty", copies(impl.Interval{Low: -2, High: 7}, maxIntervals), [2]int64{-2, 7}, places(maxIntervals)},
	} {
		i, n := impl.Agreed(x.list)
		if i != (impl.Interval{Low: x.want[0], High: x.want[1]}) || n != int64(len(x.places)) {
			t.Errorf("%s: %+v, %d", x.name, i, n)
		}
		if l := impl.Chimers(x.list); !slices.Equal(l, x.places) {
			t.Errorf("%s: %v", x.name, l)
		}
	}
}

// places are 0 .. count - 1.
func places(count int) []int64 {
	l := []int64{}
	for place := range int64(count) {
		l = append(l, place)
	}
	return l
}

func TestTwentyThatDiffer(t *testing.T) {
	l := []impl.Interval{}
	for n := range int64(maxIntervals) {
		l = append(l, impl.Interval{Low: -100 + n, High: 100 - 2*n})
	}
	if i, n := impl.Agreed(l); i != (impl.Interval{Low: -81, High: 62}) || n != maxIntervals {
		t.Error(i, n)
	}
	if i, ok := impl.Majority(l); !ok || i != (impl.Interval{Low: -81, High: 62}) {
		t.Error(i, ok)
	}
	if c := impl.Chimers(l); !slices.Equal(c, places(maxIntervals)) {
		t.Error(c)
	}
}

func noIntervals(t *testing.T, l []impl.Interval) {
	t.Helper()
	if i, n := impl.Agreed(l); i != (impl.Interval{}) || n != 0 {
		t.Errorf("%+v: %+v, %d", l, i, n)
	}
	if c := impl.Chimers(l); len(c) != 0 {
		t.Errorf("%+v: %v", l, c)
	}
	if i, ok := impl.Majority(l); ok || i != (impl.Interval{}) {
		t.Errorf("%+v: %+v", l, i)
	}
}

func TestNoIntervals(t *testing.T) {
	noIntervals(t, nil)
	noIntervals(t, []impl.Interval{})
}

func TestWrongIntervals(t *testing.T) {
	for _, l := range wrongLists() {
		noIntervals(t, l)
		for _, x := range []int64{0, 5, 6, -maxPlace, maxPlace + 1, math.MinInt64, math.MaxInt64} {
			if n := impl.Depth(l, x); n != -1 {
				t.Errorf("%+v at %d: %d", l, x, n)
			}
		}
	}
}

// Of every count: half of them are not enough, one more is.
func TestMajority(t *testing.T) {
	for count := 1; count <= maxIntervals; count++ {
		for same := 1; same <= count; same++ {
			l := copies(impl.Interval{Low: -4, High: 6}, same)
			for n := range int64(count - same) {
				l = append(l, impl.Interval{Low: 100 + 10*n, High: 105 + 10*n})
			}
			slices.Reverse(l)
			want := impl.Interval{}
			if same > count-same {
				want = impl.Interval{Low: -4, High: 6}
			}
			if i, ok := impl.Majority(l); i != want || ok != (same > count-same) {
				t.Errorf("%d of %d: %+v, %v", same, count, i, ok)
			}
			if _, n := impl.Agreed(l); n != int64(same) {
				t.Errorf("%d of %d: %d", same, count, n)
			}
		}
	}
}

func checkIntervals(t *testing.T, l []impl.Interval) {
	t.Helper()
	want, chimers := agreed(l)
	most := int64(len(chimers))
	if i, n := impl.Agreed(l); i != want || n != most {
		t.Fatalf("%+v: %+v, %d, not %+v, %d", l, i, n, want, most)
	}
	if c := impl.Chimers(l); !slices.Equal(c, chimers) {
		t.Fatalf("%+v: %v, not %v", l, c, chimers)
	}
	right := 2*most > int64(len(l))
	if !right {
		want = impl.Interval{}
	}
	if i, ok := impl.Majority(l); i != want || ok != right {
		t.Fatalf("%+v: %+v, %v", l, i, ok)
	}
}

// All lists of three intervals on four places, and of two on five.
func TestAllSmallIntervals(t *testing.T) {
	all := func(count int64) []impl.Interval {
		l := []impl.Interval{}
		for low := range count {
			for high := low; high < count; high++ {
				l = append(l, impl.Interval{Low: low - 1, High: high - 1})
			}
		}
		return l
	}
	for _, a := range all(4) {
		for _, b := range all(4) {
			for _, c := range all(4) {
				checkIntervals(t, []impl.Interval{a, b, c})
			}
		}
	}
	for _, a := range all(5) {
		for _, b := range all(5) {
			checkIntervals(t, []impl.Interval{a, b})
		}
	}
}

func TestManyIntervals(t *testing.T) {
	r := rand.New(rand.NewSource(20))
	for range 5000 {
		l := someIntervals(r, r.Intn(maxIntervals+1))
		checkIntervals(t, l)
		for x := int64(-45); x <= 90; x += 1 + r.Int63n(4) {
			if n := impl.Depth(l, x); n != depth(l, x) {
				t.Fatalf("%+v at %d: %d", l, x, n)
			}
		}
	}
}

// Promise 5, asked of the program alone: nowhere do more lie, and each of those that agree has all of it.
func TestNowhereDoMoreLieThanWhereTheyAgree(t *testing.T) {
	r := rand.New(rand.NewSource(21))
	for range 5000 {
		l := someIntervals(r, 1+r.Intn(maxIntervals))
		i, most := impl.Agreed(l)
		for x := int64(-25); x <= 65; x++ {
			n := impl.Depth(l, x)
			if n > most || x < i.Low && n == most || has(i, x) && n != most {
				t.Fatalf("%+v: %+v, %d, but at %d there are %d", l, i, most, x, n)
			}
		}
		chimers := impl.Chimers(l)
		if int64(len(chimers)) != most {
			t.Fatalf("%+v: %v, not %d", l, chimers, most)
		}
		end := int64(math.MaxInt64)
		for _, place := range chimers {
			if !has(l[place], i.Low) || !has(l[place], i.High) {
				t.Fatalf("%+v: %+v is not in that at %d", l, i, place)
			}
			end = min(end, l[place].High)
		}
		if i.High != end {
			t.Fatalf("%+v: %+v, not up to %d", l, i, end)
		}
	}
}

// In what order the intervals stand is nothing to where they agree.
func TestAgreedInAnyOrder(t *testing.T) {
	r := rand.New(rand.NewSource(22))
	for range 500 {
		l := someIntervals(r, 1+r.Intn(maxIntervals))
		i, n := impl.Agreed(l)
		r.Shuffle(len(l), func(a int, b int) { l[a], l[b] = l[b], l[a] })
		if j, m := impl.Agreed(l); j != i || m != n {
			t.Fatalf("%+v: %+v, %d, and %+v, %d", l, i, n, j, m)
		}
	}
}

// Asking changes nothing, neither in the list nor in the spare room behind it, and what is answered is new memory.
func TestIntervalsAreOnlyRead(t *testing.T) {
	r := rand.New(rand.NewSource(23))
	for range 200 {
		room := someIntervals(r, 40)
		before := slices.Clone(room)
		l := room[:r.Intn(maxIntervals+1)]
		impl.Depth(l, 3)
		i, n := impl.Agreed(l)
		m, ok := impl.Majority(l)
		c := impl.Chimers(l)
		kept := slices.Clone(c)
		again := impl.Chimers(l)
		for place := range c {
			c[place] = -1
		}
		if !slices.Equal(again, kept) || !slices.Equal(impl.Chimers(l), kept) {
			t.Fatalf("%+v: %v, then %v", l, kept, again)
		}
		j, k := impl.Agreed(l)
		o, right := impl.Majority(l)
		if !slices.Equal(room, before) || i != j || n != k || m != o || ok != right {
			t.Fatalf("%+v was %+v", room, before)
		}
	}
}
