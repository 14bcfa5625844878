package tests

import (
	"math"
	"math/big"
	"math/rand"
	"testing"

	"loop.example/g00656/impl"
)

const (
	maxOffset = 1000000000000
	maxDelay  = 1000000000000
	maxDisp   = 16000000
)

// taken has a value of its own in each field, so that two that are exchanged are seen.
var taken = impl.Sample{Offset: -70, Delay: 500, Disp: 9, At: 5 * second}

type sampleField struct {
	name string
	at   func(s *impl.Sample) *int64
	low  int64
	high int64
}

func sampleFields() []sampleField {
	return []sampleField{
		{"Offset", func(s *impl.Sample) *int64 { return &s.Offset }, -maxOffset, maxOffset},
		{"Delay", func(s *impl.Sample) *int64 { return &s.Delay }, 0, maxDelay},
		{"Disp", func(s *impl.Sample) *int64 { return &s.Disp }, 0, maxDisp},
		{"At", func(s *impl.Sample) *int64 { return &s.At }, 0, impl.MaxTime},
	}
}

// wrongSamples have one number past its bounds each, by one or by so much that sums would wrap.
func wrongSamples() []impl.Sample {
	l := []impl.Sample{}
	for _, f := range sampleFields() {
		for _, x := range []int64{f.low - 1, f.high + 1, math.MinInt64, math.MaxInt64} {
			s := taken
			*f.at(&s) = x
			l = append(l, s)
		}
	}
	return l
}

func TestSampleOk(t *testing.T) {
	for _, f := range sampleFields() {
		for _, x := range []int64{f.low, f.low + 1, f.high - 1, f.high} {
			s := taken
			*f.at(&s) = x
			if !impl.SampleOk(s) {
				t.Errorf("%s: %+v is not right", f.name, s)
			}
		}
	}
	for _, s := range wrongSamples() {
		if impl.SampleOk(s) {
			t.Errorf("%+v is right", s)
		}
	}
	if !impl.SampleOk(impl.Sample{}) {
		t.Error("the zero value is not right")
	}
}

func TestSampleOfByHand(t *testing.T) {
	last := int64(impl.MaxTime)
	// 15 times this by 1000000 is one less than the greatest Disp, so that with the 1 it is met.
	long := int64(1066666600000)
	for _, x := range []struct {
		ways [4]int64
		want impl.Sample
	}{
		{[4]int64{0, 0, 0, 0}, impl.Sample{Disp: 1}},
		{[4]int64{last, last, last, last}, impl.Sample{Disp: 1, At: last}},
		{[4]int64{1000, 1600, 1700, 1900}, impl.Sample{Offset: 200, Delay: 800, Disp: 1, At: 1900}},
		{[4]int64{10, 7, 7, 10}, impl.Sample{Offset: -3, Disp: 1, At: 10}},
		// Odd sums: of 1 the half is 0, of -1 it is -1, of 3 and -3 they are 1 and -2.
		{[4]int64{0, 1, 1, 1}, impl.Sample{Offset: 0, Delay: 1, Disp: 1, At: 1}},
		{[4]int64{0, 0, 0, 1}, impl.Sample{Offset: -1, Delay: 1, Disp: 1, At: 1}},
		{[4]int64{0, 2, 2, 1}, impl.Sample{Offset: 1, Delay: 1, Disp: 1, At: 1}},
		{[4]int64{3, 2, 2, 4}, impl.Sample{Offset: -2, Delay: 1, Disp: 1, At: 4}},
		{[4]int64{3, 2, 2, 3}, impl.Sample{Offset: -1, Disp: 1, At: 3}},
		// A delay of nought: all of the time was spent there.
		{[4]int64{100, 900, 950, 150}, impl.Sample{Offset: 800, Disp: 1, At: 150}},
		// Disp is one more where 15 times the seconds pass a whole number.
		{[4]int64{0, 0, 0, 66666}, impl.Sample{Offset: -33333, Delay: 66666, Disp: 1, At: 66666}},
		{[4]int64{0, 0, 0, 66667}, impl.Sample{Offset: -33334, Delay: 66667, Disp: 2, At: 66667}},
		{[4]int64{7, 7, 7, 2000007}, impl.Sample{Offset: -1000000, Delay: 2000000, Disp: 31, At: 2000007}},
		// Disp next to its greatest, at it, and held there.
		{[4]int64{0, 0, long - 1, long - 1}, impl.Sample{Disp: maxDisp - 1, At: long - 1}},
		{[4]int64{0, 0, long, long}, impl.Sample{Disp: maxDisp, At: long}},
		{[4]int64{0, 0, long + 66667, long + 66667}, impl.Sample{Disp: maxDisp, At: long + 66667}},
		{[4]int64{0, 0, last, last}, impl.Sample{Disp: maxDisp, At: last}},
	} {
		w := x.ways
		if s, ok := impl.SampleOf(w[0], w[1], w[2], w[3]); !ok || s != x.want {
			t.Errorf("%v: %+v, %v", w, s, ok)
		}
	}
}

func noSample(t *testing.T, w [4]int64) {
	t.Helper()
	if s, ok := impl.SampleOf(w[0], w[1], w[2], w[3]); ok || s != (impl.Sample{}) {
		t.Errorf("%v: %+v, %v", w, s, ok)
	}
}

func TestSampleOfRefuses(t *testing.T) {
	for place := range 4 {
		for _, x := range wrongTimes {
			w := [4]int64{second, second, second, second}
			w[place] = x
			noSample(t, w)
			noSample(t, [4]int64{x, x, x, x})
		}
	}
	// Each one past a bound where nothing else is wrong.
	noSample(t, [4]int64{-1, 0, 0, 5})
	noSample(t, [4]int64{0, -1, 0, 5})
	noSample(t, [4]int64{impl.MaxTime - 5, impl.MaxTime, impl.MaxTime + 1, impl.MaxTime})
	noSample(t, [4]int64{impl.MaxTime - 5, impl.MaxTime, impl.MaxTime, impl.MaxTime + 1})
	noSample(t, [4]int64{5, 6, 6, 4})
	noSample(t, [4]int64{5, 6, 5, 7})
	noSample(t, [4]int64{impl.MaxTime, 0, 0, 0})
	noSample(t, [4]int64{0, impl.MaxTime, 0, impl.MaxTime})
	// A delay of -1: it was kept there longer than it was away.
	noSample(t, [4]int64{5, 6, 9, 7})
	noSample(t, [4]int64{0, 0, 1, 0})
}

// The bounds of what is told, each met and passed by one; an odd sum goes down.
func TestSampleOfBounds(t *testing.T) {
	for _, x := range []struct {
		ways [4]int64
		want impl.Sample
	}{
		{[4]int64{0, maxOffset, maxOffset, 0}, impl.Sample{Offset: maxOffset, Disp: 1}},
		{[4]int64{0, maxOffset + 1, maxOffset + 1, 1}, impl.Sample{Offset: maxOffset, Delay: 1, Disp: 1, At: 1}},
		{[4]int64{maxOffset, 0, 0, maxOffset}, impl.Sample{Offset: -maxOffset, Disp: 1, At: maxOffset}},
		{[4]int64{0, 0, 0, maxDelay}, impl.Sample{Offset: -maxDelay / 2, Delay: maxDelay, Disp: 1 + maxDelay*15/second, At: maxDelay}},
		{[4]int64{0, 0, 1, maxDelay + 1}, impl.Sample{Offset: -maxDelay / 2, Delay: maxDelay, Disp: 1 + maxDelay*15/second, At: maxDelay + 1}},
	} {
		w := x.ways
		if s, ok := impl.SampleOf(w[0], w[1], w[2], w[3]); !ok || s != x.want {
			t.Errorf("%v: %+v, %v", w, s, ok)
		}
	}
	noSample(t, [4]int64{0, maxOffset + 1, maxOffset + 1, 0})
	noSample(t, [4]int64{maxOffset + 1, 0, 0, maxOffset + 1})
	noSample(t, [4]int64{maxOffset, 0, 0, maxOffset + 1})
	noSample(t, [4]int64{0, 0, 0, maxDelay + 1})
	noSample(t, [4]int64{0, 0, 0, impl.MaxTime})
	noSample(t, [4]int64{0, impl.MaxTime, impl.MaxTime, impl.MaxTime})
	noSample(t, [4]int64{impl.MaxTime, 0, 0, impl.MaxTime})
}

// sample is what chapter 3 says of four times, told without the program and without a bound.
func sample(w [4]int64) (impl.Sample, bool) {
	n := [4]*big.Int{}
	for i, t := range w {
		if t < 0 || t > impl.MaxTime {
			return impl.Sample{}, false
		}
		n[i] = big.NewInt(t)
	}
	away := new(big.Int).Sub(n[3], n[0])
	kept := new(big.Int).Sub(n[2], n[1])
	if away.Sign() < 0 || kept.Sign() < 0 || away.Cmp(kept) < 0 {
		return impl.Sample{}, false
	}
	sum := new(big.Int).Sub(new(big.Int).Add(n[1], n[2]), new(big.Int).Add(n[0], n[3]))
	// Div goes down here, as the divisors are above 0.
	offset := sum.Div(sum, big.NewInt(2)).Int64()
	disp := new(big.Int).Div(new(big.Int).Mul(away, big.NewInt(15)), big.NewInt(second)).Int64() + 1
	s := impl.Sample{Offset: offset, Delay: new(big.Int).Sub(away, kept).Int64(), Disp: min(disp, maxDisp), At: w[3]}
	if s.Delay > maxDelay || offset > maxOffset || offset < -maxOffset {
		return impl.Sample{}, false
	}
	return s, true
}

func TestSampleOfEverywhere(t *testing.T) {
	check := func(w [4]int64) {
		t.Helper()
		want, right := sample(w)
		if s, ok := impl.SampleOf(w[0], w[1], w[2], w[3]); ok != right || s != want {
			t.Fatalf("%v: %+v, %v", w, s, ok)
		}
	}
	for n := range int64(6 * 6 * 6 * 6) {
		check([4]int64{n % 6, n / 6 % 6, n / 36 % 6, n / 216})
	}
	r := rand.New(rand.NewSource(6))
	for range 50000 {
		size := int64(1) << r.Intn(52)
		w := [4]int64{}
		for i := range w {
			w[i] = min(r.Int63n(size), impl.MaxTime) + r.Int63n(10)
		}
		check(w)
	}
}

// walked is a question and its answer where the other clock is ahead by so much.
func walked(start int64, ahead int64, out int64, kept int64, back int64) [4]int64 {
	return [4]int64{start, start + out + ahead, start + out + ahead + kept, start + out + kept + back}
}

// However the ways are: the offset is wrong by half of both at most, up to a whole number, so that Reach has what is true.
func TestOffsetIsWithinHalfOfTheWays(t *testing.T) {
	near := func(start int64, ahead int64, out int64, kept int64, back int64) {
		t.Helper()
		w := walked(start, ahead, out, kept, back)
		s, ok := impl.SampleOf(w[0], w[1], w[2], w[3])
		wrong := max(s.Offset-ahead, ahead-s.Offset)
		if !ok || s.Delay != out+back || wrong > (out+back+1)/2 || impl.Reach(s) < wrong {
			t.Fatalf("%d ahead, ways %d and %d: %+v, %v", ahead, out, back, s, ok)
		}
	}
	for out := range int64(8) {
		for back := range int64(8) {
			for ahead := int64(-5); ahead <= 5; ahead++ {
				near(1000, ahead, out, 3, back)
			}
		}
	}
	r := rand.New(rand.NewSource(7))
	for range 20000 {
		size := int64(1) << r.Intn(38)
		ahead := r.Int63n(2*size) - size
		out, back := r.Int63n(size), r.Int63n(size)
		if r.Intn(3) == 0 {
			out = 0
		} else if r.Intn(3) == 0 {
			back = 0
		}
		near(size+r.Int63n(1<<50), ahead, out, r.Int63n(1<<40), back)
	}
}

func TestAgedByHand(t *testing.T) {
	for _, x := range []struct{ disp, age, want int64 }{
		{9, 0, 9},
		{9, 1, 24},
		{9, 999999, 24},
		{9, second, 24},
		{9, second + 1, 39},
		{9, 2 * second, 39},
		{9, 2*second + 1, 54},
		{0, 3600 * second, 54000},
		{maxDisp - 15, 0, maxDisp - 15},
		{maxDisp - 16, 1, maxDisp - 1},
		{maxDisp - 15, 1, maxDisp},
		{maxDisp - 14, 1, maxDisp},
		{maxDisp, 0, maxDisp},
		{maxDisp, 1, maxDisp},
		{0, 1066666 * second, maxDisp - 10},
		{0, 1066666*second + 1, maxDisp},
		{10, 1066666 * second, maxDisp},
		{0, impl.MaxTime - taken.At, maxDisp},
	} {
		s := taken
		s.Disp = x.disp
		want := s
		want.Disp, want.At = x.want, s.At+x.age
		if a, ok := impl.Aged(s, s.At+x.age); !ok || a != want {
			t.Errorf("%+v after %d: %+v, %v", s, x.age, a, ok)
		}
	}
}

func TestAgedRefuses(t *testing.T) {
	no := func(s impl.Sample, now int64) {
		t.Helper()
		if a, ok := impl.Aged(s, now); ok || a != (impl.Sample{}) {
			t.Errorf("%+v at %d: %+v", s, now, a)
		}
	}
	no(taken, taken.At-1)
	no(taken, 0)
	for _, now := range wrongTimes {
		no(taken, now)
	}
	for _, s := range wrongSamples() {
		no(s, taken.At+1)
		no(s, s.At)
		no(s, impl.MaxTime)
		no(s, math.MaxInt64)
	}
}

// As time goes on a sample is told less surely, and what it has within its reach it keeps.
func TestAgedIsLessSure(t *testing.T) {
	r := rand.New(rand.NewSource(8))
	for range 2000 {
		s := impl.Sample{Offset: r.Int63n(100) - 50, Delay: r.Int63n(1000), Disp: r.Int63n(maxDisp + 1), At: r.Int63n(impl.MaxTime / 2)}
		before := s
		for range 20 {
			now := before.At + r.Int63n(1<<r.Intn(42)+1)
			a, ok := impl.Aged(s, now)
			if !ok || !impl.SampleOk(a) || impl.Reach(a) < impl.Reach(before) || a.Offset != s.Offset || a.Delay != s.Delay || a.At != now {
				t.Fatalf("%+v, %+v, %+v, %v", s, before, a, ok)
			}
			if now-before.At >= second && before.Disp < maxDisp && a.Disp <= before.Disp {
				t.Fatalf("%+v, %+v: as sure as ahead of it", before, a)
			}
			before = a
		}
	}
}

func TestReach(t *testing.T) {
	for _, x := range []struct{ delay, disp, want int64 }{
		{0, 0, 0},
		{1, 0, 1},
		{2, 0, 1},
		{3, 0, 2},
		{4, 0, 2},
		{0, 1, 1},
		{3, 1, 3},
		{800, 1, 401},
		{801, 16, 417},
		{maxDelay - 1, maxDisp, maxDelay/2 + maxDisp},
		{maxDelay, maxDisp, maxDelay/2 + maxDisp},
	} {
		s := taken
		s.Delay, s.Disp = x.delay, x.disp
		if n := impl.Reach(s); n != x.want {
			t.Errorf("%+v: %d", s, n)
		}
	}
	for _, s := range wrongSamples() {
		if n := impl.Reach(s); n != -1 {
			t.Errorf("%+v: %d", s, n)
		}
	}
}
