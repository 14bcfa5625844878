package tests

import (
	"math"
	"math/rand"
	"slices"
	"testing"

	"loop.example/g00656/impl"
)

const (
	maxRegister = 255
	maxAnswers  = 1000
)

var wrongRegisters = []int64{-1, -2, -128, -255, -256, 256, 257, 383, 384, 511, 512, 1 << 32, 1<<32 + 1, math.MinInt64, math.MinInt64 + 1, math.MaxInt64}

// lastOf is the register of the last eight of some answers, with noughts ahead of them, told without the program.
func lastOf(answers []bool) int64 {
	n := int64(0)
	for back, value := 1, int64(1); back <= 8 && back <= len(answers); back, value = back+1, value*2 {
		if answers[len(answers)-back] {
			n += value
		}
	}
	return n
}

// heldIn is the other way: the eight answers of a register, the oldest first.
func heldIn(n int64) []bool {
	var answers []bool
	for value := int64(128); value > 0; value /= 2 {
		answers = append(answers, n >= value)
		if n >= value {
			n -= value
		}
	}
	return answers
}

func onesOf(n int64) int64 {
	ones := int64(0)
	for _, got := range heldIn(n) {
		if got {
			ones++
		}
	}
	return ones
}

func someAnswers(r *rand.Rand, count int) []bool {
	l := make([]bool, count)
	for i := range l {
		l[i] = r.Intn(2) == 1
	}
	return l
}

func TestShiftedByHand(t *testing.T) {
	for _, x := range []struct {
		n    int64
		got  bool
		want int64
	}{
		{0, false, 0}, {0, true, 1},
		{1, false, 2}, {1, true, 3},
		{2, false, 4}, {5, true, 11},
		{127, false, 254}, {127, true, 255},
		{128, false, 0}, {128, true, 1},
		{129, false, 2}, {200, true, 145},
		{254, false, 252}, {254, true, 253},
		{255, false, 254}, {255, true, 255},
	} {
		if n := impl.Shifted(x.n, x.got); n != x.want {
			t.Error(x, n)
		}
	}
}

func TestShifted(t *testing.T) {
	for n := range int64(maxRegister + 1) {
		for _, got := range []bool{false, true} {
			if x := impl.Shifted(n, got); x != lastOf(append(heldIn(n), got)) {
				t.Error(n, got, x)
			}
		}
	}
}

func TestShiftedAllByHand(t *testing.T) {
	const o, l = false, true
	for i, x := range []struct {
		n    int64
		l    []bool
		want int64
	}{
		{0, nil, 0}, {1, nil, 1}, {127, nil, 127}, {128, []bool{}, 128}, {255, nil, 255},
		{0, []bool{l}, 1}, {0, []bool{o}, 0}, {128, []bool{o}, 0}, {255, []bool{l}, 255},
		{0, []bool{l, o, l, l}, 11}, {255, []bool{o, o, o, l}, 241},
		{0, []bool{l, o, o, o, o, o, o, o}, 128}, {255, []bool{o, l, o, o, o, o, l, l}, 67},
		{255, []bool{o, o, o, o, o, o, o, o}, 0}, {1, []bool{o, o, o, o, o, o, o}, 128},
		{0, []bool{l, l, o, o, o, o, o, o, o}, 128}, {255, []bool{l, o, o, o, o, o, o, o, o}, 0}, {0, []bool{o, l, l, l, l, l, l, l, l}, 255},
	} {
		if n := impl.ShiftedAll(x.n, x.l); n != x.want {
			t.Error(i, n)
		}
	}
}

func TestShiftedAll(t *testing.T) {
	r := rand.New(rand.NewSource(130))
	for _, count := range []int{0, 1, 2, 3, 7, 8, 9, 16, 100, maxAnswers - 1, maxAnswers} {
		for n := range int64(maxRegister + 1) {
			l := someAnswers(r, count)
			if x := impl.ShiftedAll(n, l); x != lastOf(append(heldIn(n), l...)) {
				t.Fatal(n, l, x)
			}
		}
	}
}

func TestShiftedRefuses(t *testing.T) {
	for _, n := range wrongRegisters {
		for _, got := range []bool{false, true} {
			if x := impl.Shifted(n, got); x != -1 {
				t.Error(n, got, x)
			}
		}
		for _, count := range []int{0, 1, 8, 9, maxAnswers, maxAnswers + 1} {
			if x := impl.ShiftedAll(n, make([]bool, count)); x != -1 {
				t.Error(n, count, x)
			}
		}
	}
	for _, count := range []int{maxAnswers + 1, maxAnswers + 2, 100000} {
		for _, n := range []int64{0, 1, 127, 128, 255} {
			if x := impl.ShiftedAll(n, make([]bool, count)); x != -1 {
				t.Error(n, count, x)
			}
		}
	}
}

func TestOnes(t *testing.T) {
	for n, want := range map[int64]int64{0: 0, 1: 1, 2: 1, 3: 2, 10: 2, 85: 4, 127: 7, 128: 1, 129: 2, 254: 7, 255: 8} {
		if x := impl.Ones(n); x != want {
			t.Error(n, x)
		}
	}
	for n := range int64(maxRegister + 1) {
		if x := impl.Ones(n); x != onesOf(n) {
			t.Error(n, x)
		}
	}
	for _, n := range wrongRegisters {
		if x := impl.Ones(n); x != -1 {
			t.Error(n, x)
		}
	}
}

func TestReachable(t *testing.T) {
	for n := range int64(maxRegister + 1) {
		if impl.Reachable(n) != (n > 0) {
			t.Error(n)
		}
	}
	for _, n := range wrongRegisters {
		if impl.Reachable(n) {
			t.Error(n)
		}
	}
}

func TestPollForByHand(t *testing.T) {
	for _, x := range [][3]int64{
		{0, 4, 5}, {0, 5, 6}, {0, 9, 10}, {0, 10, 10},
		{1, 4, 4}, {128, 5, 4}, {128, 10, 9}, {3, 7, 6},
		{7, 4, 4}, {7, 5, 4}, {224, 6, 5}, {73, 10, 9},
		{15, 4, 4}, {15, 5, 5}, {240, 9, 9}, {85, 10, 10},
		{31, 4, 4}, {127, 6, 6}, {255, 4, 4}, {255, 7, 7}, {255, 10, 10},
	} {
		if n := impl.PollFor(x[0], x[1]); n != x[2] {
			t.Error(x, n)
		}
	}
}

func TestPollFor(t *testing.T) {
	for n := range int64(maxRegister + 1) {
		for poll := int64(4); poll <= 10; poll++ {
			want := poll
			if ones := onesOf(n); ones == 0 && poll < 10 {
				want = poll + 1
			} else if ones > 0 && ones < 4 && poll > 4 {
				want = poll - 1
			}
			if x := impl.PollFor(n, poll); x != want {
				t.Error(n, poll, x)
			}
		}
	}
}

func TestPollForRefuses(t *testing.T) {
	wrongPolls := []int64{3, 2, 0, -1, 11, 12, 260, math.MinInt64, math.MaxInt64}
	for _, poll := range wrongPolls {
		for n := range int64(maxRegister + 1) {
			if x := impl.PollFor(n, poll); x != -1 {
				t.Error(n, poll, x)
			}
		}
	}
	for _, n := range wrongRegisters {
		for poll := int64(4); poll <= 10; poll++ {
			if x := impl.PollFor(n, poll); x != -1 {
				t.Error(n, poll, x)
			}
		}
		for _, poll := range wrongPolls {
			if x := impl.PollFor(n, poll); x != -1 {
				t.Error(n, poll, x)
			}
		}
	}
}

// Promise 13, asked of the program alone: behind eight answers nothing else is in a register, whatever was in it.
func TestARegisterHasTheLastEight(t *testing.T) {
	for last := range int64(maxRegister + 1) {
		for n := range int64(maxRegister + 1) {
			if x := impl.ShiftedAll(n, heldIn(last)); x != last {
				t.Fatal(n, last, x)
			}
		}
	}
	r := rand.New(rand.NewSource(131))
	for range 2000 {
		l := someAnswers(r, r.Intn(40))
		n := int64(0)
		for i, got := range l {
			n = impl.Shifted(n, got)
			if n != impl.ShiftedAll(0, l[:i+1]) || n != impl.ShiftedAll(0, l[max(0, i-7):i+1]) {
				t.Fatal(l[:i+1], n)
			}
			if impl.Ones(n) != onesOf(lastOf(l[:i+1])) || impl.Reachable(n) != slices.Contains(l[max(0, i-7):i+1], true) {
				t.Fatal(l[:i+1], n, impl.Ones(n))
			}
		}
	}
}

// Promise 13, as well.
func TestAPollChangesByOneAtMost(t *testing.T) {
	r := rand.New(rand.NewSource(132))
	for range 500 {
		n, poll := int64(r.Intn(maxRegister+1)), int64(4+r.Intn(7))
		for range 100 {
			n = impl.Shifted(n, r.Intn(5) == 0)
			next := impl.PollFor(n, poll)
			if next < 4 || next > 10 || next > poll+1 || next < poll-1 || next < poll && !impl.Reachable(n) || next > poll && impl.Reachable(n) {
				t.Fatal(n, poll, next)
			}
			poll = next
		}
	}
}

func TestAnswersAreOnlyRead(t *testing.T) {
	r := rand.New(rand.NewSource(133))
	for _, count := range []int{0, 1, 8, 9, 500, maxAnswers, maxAnswers + 1} {
		for _, n := range []int64{0, 255, 256} {
			l := someAnswers(r, count+5)
			ahead := slices.Clone(l)
			first := impl.ShiftedAll(n, l[:count])
			if again := impl.ShiftedAll(n, l[:count]); again != first || !slices.Equal(l, ahead) {
				t.Error(count, n, first, again)
			}
		}
	}
}
