package tests

import (
	"math"
	"math/rand"
	"strings"
	"testing"

	"loop.example/g00656/impl"
)

const (
	maxGap   = 100000
	someSecs = 64
	farthest = impl.Step - 1
)

// going has a value of its own in each field, so that two that are exchanged are seen.
var going = impl.Clock{State: impl.CkSlew, Offset: -4321, Freq: -76, Poll: 6, Calm: 2}

type clockField struct {
	name string
	at   func(c *impl.Clock) *int64
	low  int64
	high int64
}

func clockFields() []clockField {
	return []clockField{
		{"State", func(c *impl.Clock) *int64 { return &c.State }, impl.CkStart, impl.CkSpike},
		{"Offset", func(c *impl.Clock) *int64 { return &c.Offset }, -farthest, farthest},
		{"Freq", func(c *impl.Clock) *int64 { return &c.Freq }, -impl.MaxFreq, impl.MaxFreq},
		{"Poll", func(c *impl.Clock) *int64 { return &c.Poll }, impl.MinPoll, impl.MaxPoll},
		{"Calm", func(c *impl.Clock) *int64 { return &c.Calm }, 0, 3},
	}
}

// wrongClocks have one number past its bounds each, by one or by so much that sums would wrap.
func wrongClocks() []impl.Clock {
	l := []impl.Clock{{}}
	for _, f := range clockFields() {
		for _, x := range []int64{f.low - 1, f.high + 1, math.MinInt64, math.MaxInt64} {
			c := going
			*f.at(&c) = x
			l = append(l, c)
		}
	}
	return l
}

// edgeClocks are all that have each number at a bound, or one that is neither bound.
func edgeClocks() []impl.Clock {
	l := []impl.Clock{{}}
	for _, f := range clockFields() {
		all := []impl.Clock{}
		for _, c := range l {
			for _, x := range []int64{f.low, *f.at(&going), f.high} {
				*f.at(&c) = x
				all = append(all, c)
			}
		}
		l = all
	}
	return l
}

func someClock(r *rand.Rand) impl.Clock {
	c := impl.Clock{}
	for _, f := range clockFields() {
		*f.at(&c) = f.low + r.Int63n(f.high-f.low+1)
	}
	return c
}

// edgeOffsets are those about each bound that chapter 7 names, on either side.
func edgeOffsets() []int64 {
	l := []int64{0}
	for _, x := range []int64{1, 15, 16, 500, 1000, 1024, 10000, impl.Step, maxOffset - 1} {
		for _, d := range []int64{-1, 0, 1} {
			l = append(l, x+d, -x-d)
		}
	}
	return l
}

func someOffset(r *rand.Rand) int64 {
	size := int64(1) << r.Intn(40)
	return max(-maxOffset, min(maxOffset, r.Int63n(2*size)-size+r.Int63n(2)))
}

func someGap(r *rand.Rand) int64 {
	return min(maxGap, 1+r.Int63n(1<<r.Intn(18)))
}

// adjusted is what chapter 7 says of a right call, told without the program.
func adjusted(c impl.Clock, offset int64, gap int64) (impl.Clock, int64) {
	size := max(offset, -offset)
	if size >= 128000 && c.State == 1 {
		return impl.Clock{State: 2, Offset: c.Offset, Freq: c.Freq, Poll: c.Poll, Calm: c.Calm}, 0
	}
	if size >= 128000 {
		return impl.Clock{State: 1, Freq: c.Freq, Poll: 4}, offset
	}
	more := size / 16 / gap
	if offset < 0 {
		more = -more
	}
	next := impl.Clock{State: 1, Offset: offset, Freq: min(500, max(-500, c.Freq+more)), Poll: c.Poll, Calm: c.Calm}
	switch {
	case size >= 10000:
		next.Poll, next.Calm = max(4, c.Poll-1), 0
	case size < 1000 && c.Calm == 3:
		next.Poll, next.Calm = min(10, c.Poll+1), 0
	case size < 1000:
		next.Calm = c.Calm + 1
	}
	return next, 0
}

// afterwards checks an answer of Adjusted as it is wanted, and that it is right and the same again.
func afterwards(t *testing.T, c impl.Clock, offset int64, gap int64, want impl.Clock, step int64) {
	t.Helper()
	for range 2 {
		n, told, ok := impl.Adjusted(c, offset, gap)
		if !ok || n != want || told != step || !impl.ClockOk(n) {
			t.Fatalf("%+v by %d in %d: %+v, %d, %v, not %+v, %d", c, offset, gap, n, told, ok, want, step)
		}
	}
}

func TestClockOk(t *testing.T) {
	for _, f := range clockFields() {
		for _, x := range []int64{f.low, f.low + 1, f.high - 1, f.high} {
			c := going
			*f.at(&c) = x
			if !impl.ClockOk(c) {
				t.Errorf("%s: %+v is not right", f.name, c)
			}
		}
	}
	for _, c := range edgeClocks() {
		if !impl.ClockOk(c) {
			t.Errorf("%+v is not right", c)
		}
	}
	for _, c := range wrongClocks() {
		if impl.ClockOk(c) {
			t.Errorf("%+v is right", c)
		}
	}
}

func TestAdjustedFreq(t *testing.T) {
	for _, x := range []struct{ freq, offset, gap, want int64 }{
		{0, 0, 1, 0},
		{9, 0, someSecs, 9},
		{0, 2048, someSecs, 2},
		{0, 2047, someSecs, 1},
		{0, 1023, someSecs, 0},
		{0, 1024, someSecs, 1},
		{0, 15, 1, 0},
		{0, 16, 1, 1},
		// Cut, and not down, below nought.
		{0, -15, 1, 0},
		{0, -16, 1, -1},
		{0, -31, 1, -1},
		{0, -1023, someSecs, 0},
		{0, -1024, someSecs, -1},
		{0, -2047, someSecs, -1},
		{7, -1023, someSecs, 7},
		{7, -2047, someSecs, 6},
		{-3, 1023, someSecs, -3},
		{-3, 5120, someSecs, 2},
		// The quotient alone is cut, not the sum.
		{1, -31, 1, 0},
		{2, -31, 1, 1},
		// Met, passed by one, and left alone where it is at MaxFreq.
		{498, 16, 1, 499},
		{499, 16, 1, 500},
		{499, 32, 1, 500},
		{500, 16, 1, 500},
		{500, 15, 1, 500},
		{500, -16, 1, 499},
		{-498, -16, 1, -499},
		{-499, -16, 1, -500},
		{-499, -32, 1, -500},
		{-500, -16, 1, -500},
		{-500, -15, 1, -500},
		{-500, 16, 1, -499},
		{-500, 16000, 1, 500},
		{-500, 15999, 1, 499},
		{500, -16000, 1, -500},
		{500, -15999, 1, -499},
		{0, farthest, 1, 500},
		{0, -farthest, 1, -500},
		{500, farthest, 1, 500},
		{-500, -farthest, 1, -500},
		// The greatest gap: not even the greatest of the small offsets counts.
		{5, farthest, maxGap, 5},
		{5, -farthest, maxGap, 5},
		{5, farthest, 7999, 6},
		{5, farthest, 8000, 5},
		{5, -farthest, 7999, 4},
		{5, -farthest, 8000, 5},
	} {
		c := going
		c.Freq = x.freq
		if n, told, ok := impl.Adjusted(c, x.offset, x.gap); !ok || told != 0 || n.Freq != x.want || n.Offset != x.offset || n.State != impl.CkSlew {
			t.Errorf("%+v: %+v, %d, %v", x, n, told, ok)
		}
	}
}

// Poll and Calm as they are told of an offset of that size, on either side.
func TestAdjustedPollAndCalm(t *testing.T) {
	for _, x := range []struct{ offset, poll, calm, wantPoll, wantCalm int64 }{
		{0, 6, 0, 6, 1},
		{1, 6, 1, 6, 2},
		{999, 6, 0, 6, 1},
		{999, 6, 2, 6, 3},
		{999, 6, 3, 7, 0},
		{0, 6, 3, 7, 0},
		{0, 4, 3, 5, 0},
		{0, 9, 3, 10, 0},
		{0, 10, 3, 10, 0},
		{999, 10, 3, 10, 0},
		{0, 10, 2, 10, 3},
		{1000, 6, 0, 6, 0},
		{1000, 6, 2, 6, 2},
		{1000, 6, 3, 6, 3},
		{1000, 10, 3, 10, 3},
		{1000, 4, 1, 4, 1},
		{9999, 6, 0, 6, 0},
		{9999, 6, 3, 6, 3},
		{9999, 4, 2, 4, 2},
		{10000, 6, 0, 5, 0},
		{10000, 6, 3, 5, 0},
		{10000, 10, 2, 9, 0},
		{10000, 5, 1, 4, 0},
		{10000, 4, 3, 4, 0},
		{10001, 4, 0, 4, 0},
		{farthest, 6, 3, 5, 0},
		{farthest, 4, 3, 4, 0},
	} {
		c := going
		c.Poll, c.Calm = x.poll, x.calm
		for _, offset := range []int64{x.offset, -x.offset} {
			want := impl.Clock{State: impl.CkSlew, Offset: offset, Freq: going.Freq, Poll: x.wantPoll, Calm: x.wantCalm}
			afterwards(t, c, offset, maxGap, want, 0)
		}
	}
}

func TestAdjustedInEachState(t *testing.T) {
	for _, offset := range []int64{0, 999, 1000, 9999, 10000, farthest, -999, -farthest} {
		want, _ := adjusted(going, offset, someSecs)
		for _, state := range []int64{impl.CkStart, impl.CkSlew, impl.CkSpike} {
			c := going
			c.State = state
			afterwards(t, c, offset, someSecs, want, 0)
		}
	}
	for _, size := range []int64{impl.Step, impl.Step + 1, 1000000, maxOffset} {
		for _, offset := range []int64{size, -size} {
			for _, gap := range []int64{1, someSecs, maxGap} {
				c := going
				spike := going
				spike.State = impl.CkSpike
				afterwards(t, c, offset, gap, spike, 0)
				stepped := impl.Clock{State: impl.CkSlew, Freq: going.Freq, Poll: impl.MinPoll}
				for _, state := range []int64{impl.CkStart, impl.CkSpike} {
					c.State = state
					afterwards(t, c, offset, gap, stepped, offset)
				}
			}
		}
	}
}

func TestAdjustedAtTheEdges(t *testing.T) {
	for _, c := range edgeClocks() {
		for _, offset := range edgeOffsets() {
			for _, gap := range []int64{1, 2, someSecs, maxGap - 1, maxGap} {
				want, step := adjusted(c, offset, gap)
				afterwards(t, c, offset, gap, want, step)
			}
		}
	}
}

func TestAdjusted(t *testing.T) {
	r := rand.New(rand.NewSource(40))
	for range 50000 {
		c, offset, gap := someClock(r), someOffset(r), someGap(r)
		want, step := adjusted(c, offset, gap)
		afterwards(t, c, offset, gap, want, step)
	}
}

func notAdjusted(t *testing.T, c impl.Clock, offset int64, gap int64) {
	t.Helper()
	if n, told, ok := impl.Adjusted(c, offset, gap); ok || told != 0 || n != (impl.Clock{}) {
		t.Errorf("%+v by %d in %d: %+v, %d, %v", c, offset, gap, n, told, ok)
	}
}

func TestAdjustedRefuses(t *testing.T) {
	wrongGaps := []int64{0, -1, -someSecs, maxGap + 1, math.MinInt64, math.MaxInt64, 1 << 60, -1 << 60}
	wrongOffsets := []int64{maxOffset + 1, -maxOffset - 1, math.MinInt64, math.MinInt64 + 1, math.MaxInt64}
	for _, state := range []int64{impl.CkStart, impl.CkSlew, impl.CkSpike} {
		c := going
		c.State = state
		for _, offset := range wrongOffsets {
			for _, gap := range []int64{1, someSecs, maxGap, 0, maxGap + 1} {
				notAdjusted(t, c, offset, gap)
			}
		}
		for _, gap := range wrongGaps {
			for _, offset := range []int64{0, 5, -farthest, impl.Step, -maxOffset} {
				notAdjusted(t, c, offset, gap)
			}
		}
	}
	for _, c := range wrongClocks() {
		for _, offset := range []int64{0, 5, -farthest, impl.Step, -maxOffset, math.MinInt64} {
			notAdjusted(t, c, offset, someSecs)
			notAdjusted(t, c, offset, 0)
		}
	}
}

func someGreat(r *rand.Rand) int64 {
	size := min(maxOffset, impl.Step+r.Int63n(1<<r.Intn(40)))
	return size * (2*r.Int63n(2) - 1)
}

// Promise 7, asked of the program alone: a great offset that is there twice is stepped, by the second one.
func TestGreatTwiceIsStepped(t *testing.T) {
	r := rand.New(rand.NewSource(41))
	for range 5000 {
		c := someClock(r)
		c.State = impl.CkSlew
		once, told, ok := impl.Adjusted(c, someGreat(r), someGap(r))
		if !ok || told != 0 || once.State != impl.CkSpike {
			t.Fatalf("%+v: %+v, %d, %v", c, once, told, ok)
		}
		great := someGreat(r)
		want := impl.Clock{State: impl.CkSlew, Freq: c.Freq, Poll: impl.MinPoll}
		if twice, told, ok := impl.Adjusted(once, great, someGap(r)); !ok || told != great || twice != want {
			t.Fatalf("%+v by %d: %+v, %d, %v", once, great, twice, told, ok)
		}
	}
}

// A great offset that is there once leaves nothing behind: what follows is as if it had not been.
func TestGreatOnceLeavesNothingBehind(t *testing.T) {
	r := rand.New(rand.NewSource(42))
	for range 5000 {
		c := someClock(r)
		c.State = impl.CkSlew
		once, _, _ := impl.Adjusted(c, someGreat(r), someGap(r))
		rest := r.Int63n(100)
		kept, slewedKept, _ := impl.Slewed(once, rest)
		plain, slewedPlain, _ := impl.Slewed(c, rest)
		small, gap := r.Int63n(2*impl.Step-1)-farthest, someGap(r)
		with, told, ok := impl.Adjusted(kept, small, gap)
		without, _, right := impl.Adjusted(plain, small, gap)
		if !ok || !right || with != without || told != 0 || slewedKept != slewedPlain {
			t.Fatalf("%+v by %d: %+v with a spike, %+v without", c, small, with, without)
		}
	}
}

func TestSlewedByHand(t *testing.T) {
	for _, x := range []struct{ offset, freq, gap, wantOffset, wantTold int64 }{
		{0, 0, 0, 0, 0},
		{0, 0, maxGap, 0, 0},
		{0, 7, 10, 0, 70},
		{0, -7, 10, 0, -70},
		// A gap of nought: nothing is slewed.
		{farthest, 500, 0, farthest, 0},
		{-farthest, -500, 0, -farthest, 0},
		{1, 0, 0, 1, 0},
		{1, 0, 1, 0, 1},
		{-1, 0, 1, 0, -1},
		// Just used up, one second ahead of it, and one millionth on either side.
		{499, 0, 1, 0, 499},
		{500, 0, 1, 0, 500},
		{501, 0, 1, 1, 500},
		{-499, 0, 1, 0, -499},
		{-500, 0, 1, 0, -500},
		{-501, 0, 1, -1, -500},
		{5000, 0, 9, 500, 4500},
		{5000, 0, 10, 0, 5000},
		{5000, 0, 11, 0, 5000},
		{-5000, 0, 9, -500, -4500},
		{-5000, 0, 10, 0, -5000},
		{farthest, 0, 255, 499, 127500},
		{farthest, 0, 256, 0, farthest},
		// What is told has both together, of either sign.
		{5000, 3, 4, 3000, 2012},
		{5000, -3, 4, 3000, 1988},
		{-5000, 3, 4, -3000, -1988},
		{-5000, -3, 4, -3000, -2012},
		{2000, -500, 4, 0, 0},
		{-farthest, -500, 100, -77999, -100000},
		{-77999, -500, 300, 0, -227999},
		{farthest, 500, maxGap, 0, 50127999},
		{-farthest, -500, maxGap, 0, -50127999},
		{farthest, -500, maxGap, 0, farthest - 50000000},
	} {
		for _, state := range []int64{impl.CkStart, impl.CkSlew, impl.CkSpike} {
			c := impl.Clock{State: state, Offset: x.offset, Freq: x.freq, Poll: 6, Calm: 2}
			want := c
			want.Offset = x.wantOffset
			if n, told, ok := impl.Slewed(c, x.gap); !ok || told != x.wantTold || n != want {
				t.Errorf("%+v: %+v, %d, %v", x, n, told, ok)
			}
		}
	}
}

// What is slewed is less and less, never beyond nought, and in the end all of it has been told.
func TestSlewedLessAndLess(t *testing.T) {
	r := rand.New(rand.NewSource(43))
	for _, c := range append(edgeClocks(), someClock(r), someClock(r), someClock(r)) {
		start, sum := c.Offset, int64(0)
		for range 300 {
			gap := r.Int63n(4)
			n, told, ok := impl.Slewed(c, gap)
			nearer := told - c.Freq*gap
			want := c
			want.Offset = c.Offset - nearer
			if !ok || n != want || !nearerToNought(c.Offset, n.Offset, impl.MaxFreq*gap) {
				t.Fatalf("%+v in %d: %+v, %d, %v", c, gap, n, told, ok)
			}
			sum += nearer
			c = n
		}
		if c.Offset != 0 || sum != start {
			t.Fatalf("%d of %d, and %d is left", sum, start, c.Offset)
		}
	}
}

// nearerToNought tells whether n is on the side of before, or nought, and nearer by most, or all that there is.
func nearerToNought(before int64, n int64, most int64) bool {
	if before < 0 {
		before, n = -before, -n
	}
	return n >= 0 && before-n == min(before, most)
}

// Two gaps one behind the other slew as much as both at once.
func TestSlewedInParts(t *testing.T) {
	r := rand.New(rand.NewSource(44))
	for range 5000 {
		c, a, b := someClock(r), r.Int63n(400), r.Int63n(400)
		first, toldFirst, _ := impl.Slewed(c, a)
		then, toldThen, _ := impl.Slewed(first, b)
		both, told, ok := impl.Slewed(c, a+b)
		if !ok || both != then || told != toldFirst+toldThen {
			t.Fatalf("%+v in %d and %d: %+v, %+v", c, a, b, both, then)
		}
	}
}

func TestSlewedRefuses(t *testing.T) {
	no := func(c impl.Clock, gap int64) {
		t.Helper()
		if n, told, ok := impl.Slewed(c, gap); ok || told != 0 || n != (impl.Clock{}) {
			t.Errorf("%+v in %d: %+v, %d, %v", c, gap, n, told, ok)
		}
	}
	for _, gap := range []int64{-1, -maxGap, maxGap + 1, math.MinInt64, math.MaxInt64, 1 << 60} {
		no(going, gap)
		no(impl.Clock{Poll: 4}, gap)
	}
	for _, c := range wrongClocks() {
		no(c, 0)
		no(c, 1)
		no(c, maxGap)
		no(c, -1)
	}
}

func TestClockTextByHand(t *testing.T) {
	for s, c := range map[string]impl.Clock{
		"0 0 0 4 0":           {Poll: 4},
		"1 -4321 -76 6 2":     going,
		"2 127999 500 10 3":   {State: 2, Offset: 127999, Freq: 500, Poll: 10, Calm: 3},
		"0 -127999 -500 4 0":  {Offset: -127999, Freq: -500, Poll: 4},
		"1 10 100 10 1":       {State: 1, Offset: 10, Freq: 100, Poll: 10, Calm: 1},
		"1 -127999 -500 10 3": {State: 1, Offset: -127999, Freq: -500, Poll: 10, Calm: 3},
	} {
		if got := impl.ClockText(c); got != s {
			t.Errorf("%+v: %q, not %q", c, got, s)
		}
		if got, ok := impl.ReadClock(s); !ok || got != c {
			t.Errorf("%q: %+v, %v", s, got, ok)
		}
	}
	for _, c := range wrongClocks() {
		if s := impl.ClockText(c); s != "" {
			t.Errorf("%+v: %q", c, s)
		}
	}
}

func TestClockComesBack(t *testing.T) {
	r := rand.New(rand.NewSource(45))
	l := edgeClocks()
	for range 20000 {
		l = append(l, someClock(r))
	}
	for _, c := range l {
		s := impl.ClockText(c)
		if got, ok := impl.ReadClock(s); !ok || got != c {
			t.Fatalf("%q: %+v, %v, not %+v", s, got, ok, c)
		}
	}
}

func noClock(t *testing.T, s string) {
	t.Helper()
	if c, ok := impl.ReadClock(s); ok || c != (impl.Clock{}) {
		t.Errorf("%q: %+v, %v", s, c, ok)
	}
}

func TestReadClockRefuses(t *testing.T) {
	for _, s := range []string{
		"", " ", "    ", "1", "1 ", "clock", "a b c d e",
		"0 0 0 4", "1 5 5 6", "0 0 0 4 0 0", "1 5 5 6 2 ", " 1 5 5 6 2", "1 5 5 6 2\n", "1 5 5 6 2 2",
		"15 5 6 2", "1 55 6 2", "1 5 5 62", "1  5 5 6 2", "1 5 5 6  2", "1 5  5 6 2",
		"1\t5 5 6 2", "1,5,5,6,2", "1 5 5 6\x002", "1 5 5 6 2\x00", "1 5 5 6\u00a02",
		"3 5 5 6 2", "-1 5 5 6 2",
		"1 128000 5 6 2", "1 -128000 5 6 2", "1 5 501 6 2", "1 5 -501 6 2",
		"1 5 5 3 2", "1 5 5 11 2", "1 5 5 6 4", "1 5 5 6 -1",
		"1 1000000000000000 5 6 2", "1 9999999999999999 5 6 2", "1 10000000000000000 5 6 2", "1 -9223372036854775808 5 6 2",
		// What would be right again if it wrapped: 2 to the 64th more than 5, -5, 6 and 1.
		"1 18446744073709551621 5 6 2", "1 5 18446744073709551611 6 2", "1 5 5 18446744073709551622 2", "18446744073709551617 5 5 6 2",
		"1 5.0 5 6 2", "1 5e0 5 6 2", "1 0x5 5 6 2", "0b1 5 5 6 2", "1 0o5 5 6 2", "1 1_0 5 6 2", "1 - 5 6 2", "1 5- 5 6 2", "1 --5 5 6 2", "1 \u0665 5 6 2", "1 \uff15 5 6 2",
	} {
		noClock(t, s)
	}
}

// Each of the five numbers with something ahead of it or behind it that is not in decimal.
func TestReadClockRefusesEachNumber(t *testing.T) {
	words := strings.Fields("1 7 -8 6 2")
	for place, word := range words {
		bad := []string{"", "x", "-", "+" + word, "-" + word, "0" + word, "-0" + word, "000000000000000000" + word, word + "x", word + ".", " " + word, word + " ", "-0", "00", "+0", "-00"}
		if strings.HasPrefix(word, "-") {
			bad = append(bad, "-0"+word[1:], "- "+word[1:], "\u2212"+word[1:])
		}
		for _, x := range bad {
			if x == "-7" {
				continue // An Offset may be below nought.
			}
			l := append([]string{}, words...)
			l[place] = x
			noClock(t, strings.Join(l, " "))
		}
		noClock(t, strings.Join(append(append([]string{}, words[:place]...), words[place+1:]...), " "))
	}
}

// A text that is read is always the text of what it was read as.
func TestReadClockReadsOnlyTexts(t *testing.T) {
	r := rand.New(rand.NewSource(46))
	letters := " -0123456789+\t\n_."
	read := 0
	for range 50000 {
		s := []byte(impl.ClockText(someClock(r)))
		for range 1 + r.Intn(2) {
			at := r.Intn(len(s))
			x := letters[r.Intn(len(letters))]
			switch r.Intn(3) {
			case 0:
				s[at] = x
			case 1:
				s = append(s[:at:at], append([]byte{x}, s[at:]...)...)
			case 2:
				s = append(s[:at:at], s[at+1:]...)
			}
		}
		c, ok := impl.ReadClock(string(s))
		if ok {
			read++
		}
		if ok && (!impl.ClockOk(c) || impl.ClockText(c) != string(s)) || !ok && c != (impl.Clock{}) {
			t.Fatalf("%q: %+v, %v", s, c, ok)
		}
	}
	if read < 1000 {
		t.Error("too few are read:", read)
	}
}
