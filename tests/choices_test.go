package tests

import (
	"cmp"
	"math"
	"math/big"
	"math/rand"
	"slices"
	"testing"

	"loop.example/g00656/impl"
)

const (
	maxPeers  = 20
	maxPeerId = 1000
)

// someone has a delay of nought, so that its Reach is its Disp.
func someone(id int64, stratum int64, offset int64, reach int64) impl.Peer {
	return impl.Peer{Id: id, Stratum: stratum, S: impl.Sample{Offset: offset, Disp: reach, At: 5}}
}

// somePeers have few strata and reaches, and few offsets more often than not, so that there are many of one kind.
func somePeers(r *rand.Rand, count int) []impl.Peer {
	l := []impl.Peer{}
	id := int64(0)
	far := 1 + r.Int63n(1<<r.Intn(11))
	for range count {
		id += 1 + r.Int63n(5)
		s := impl.Sample{Offset: r.Int63n(2*far) - far, Delay: r.Int63n(40), Disp: r.Int63n(12), At: r.Int63n(100)}
		if r.Intn(4) == 0 {
			s.Disp += r.Int63n(1200000)
		}
		l = append(l, impl.Peer{Id: id, Stratum: 1 + r.Int63n(3), S: s})
	}
	return l
}

// wrongPeers are one too many, have one number past its bounds, or Ids that do not rise.
func wrongPeers() [][]impl.Peer {
	r := rand.New(rand.NewSource(30))
	l := [][]impl.Peer{somePeers(r, maxPeers+1), somePeers(r, 40)}
	for _, count := range []int{1, 2, maxPeers} {
		for place := range count {
			l = append(l, wrongAt(r, count, place)...)
		}
		for place := 1; place < count; place++ {
			same, back := somePeers(r, count), somePeers(r, count)
			same[place].Id = same[place-1].Id
			back[place], back[place-1] = back[place-1], back[place]
			l = append(l, same, back)
		}
	}
	return l
}

func wrongAt(r *rand.Rand, count int, place int) [][]impl.Peer {
	l := [][]impl.Peer{}
	add := func(change func(p *impl.Peer)) {
		peers := somePeers(r, count)
		change(&peers[place])
		l = append(l, peers)
	}
	for _, id := range []int64{0, -1, maxPeerId + 1, math.MinInt64, math.MaxInt64} {
		add(func(p *impl.Peer) { p.Id = id })
	}
	for _, stratum := range []int64{0, -1, 16, math.MinInt64, math.MaxInt64} {
		add(func(p *impl.Peer) { p.Stratum = stratum })
	}
	for _, s := range wrongSamples() {
		add(func(p *impl.Peer) { p.S = s })
	}
	return l
}

func reach(p impl.Peer) int64 {
	return p.S.Delay/2 + p.S.Delay%2 + p.S.Disp
}

// inRank is what chapter 6 says of right peers, told without the program, as are the next ones.
func inRank(l []impl.Peer) []impl.Peer {
	return slices.SortedFunc(slices.Values(l), func(a impl.Peer, b impl.Peer) int {
		return cmp.Or(cmp.Compare(a.Stratum, b.Stratum), cmp.Compare(reach(a), reach(b)), cmp.Compare(a.Id, b.Id))
	})
}

func whoIsLeft(l []impl.Peer, least int64) []impl.Peer {
	if least < 1 {
		return nil
	}
	left := inRank(l)
	for int64(len(left)) > least {
		worst, most := 0, int64(-1)
		for i, p := range left {
			sum := int64(0)
			for _, q := range left {
				sum += max(p.S.Offset-q.S.Offset, q.S.Offset-p.S.Offset)
			}
			if sum >= most {
				worst, most = i, sum
			}
		}
		left = append(left[:worst:worst], left[worst+1:]...)
	}
	return left
}

func together(l []impl.Peer) int64 {
	sum, count := new(big.Int), int64(0)
	for _, p := range l {
		times := max(1, 1000-reach(p)/1000)
		sum.Add(sum, new(big.Int).Mul(big.NewInt(p.S.Offset), big.NewInt(times)))
		count += times
	}
	// Div goes down here, as the count is above 0.
	return sum.Div(sum, big.NewInt(count)).Int64()
}

func TestPeersOk(t *testing.T) {
	right := func(l []impl.Peer) {
		t.Helper()
		if !impl.PeersOk(l) {
			t.Errorf("%+v is not right", l)
		}
	}
	right(nil)
	right([]impl.Peer{})
	r := rand.New(rand.NewSource(31))
	for count := range maxPeers + 1 {
		right(somePeers(r, count))
	}
	right([]impl.Peer{someone(1, 1, 0, 0), someone(2, 15, 0, 0), someone(maxPeerId-1, 14, 0, 0), someone(maxPeerId, 1, 0, 0)})
	for _, f := range sampleFields() {
		for _, x := range []int64{f.low, f.high} {
			p := someone(7, 3, 4, 5)
			*f.at(&p.S) = x
			right([]impl.Peer{p})
		}
	}
	for _, l := range wrongPeers() {
		if impl.PeersOk(l) {
			t.Errorf("%+v is right", l)
		}
	}
}

func idsOf(l []impl.Peer) []int64 {
	ids := []int64{}
	for _, p := range l {
		ids = append(ids, p.Id)
	}
	return ids
}

func TestRankedByHand(t *testing.T) {
	delayed := someone(5, 2, 0, 10)
	delayed.S.Delay = 3
	for _, x := range []struct {
		name string
		list []impl.Peer
		want []int64
	}{
		{"none", nil, []int64{}},
		{"one", []impl.Peer{someone(9, 15, 3, 4)}, []int64{9}},
		{"by Stratum", []impl.Peer{someone(1, 3, 0, 1), someone(2, 1, 0, 9), someone(3, 2, 0, 0)}, []int64{2, 3, 1}},
		{"of one stratum by Reach", []impl.Peer{someone(1, 2, 0, 9), someone(2, 2, 0, 7), someone(3, 2, 0, 8)}, []int64{2, 3, 1}},
		{"of one reach by Id", []impl.Peer{someone(1, 2, 9, 7), someone(2, 2, 8, 7), someone(3, 2, 7, 7)}, []int64{1, 2, 3}},
		{"Stratum ahead of Reach ahead of Id", []impl.Peer{someone(1, 2, 0, 5), someone(2, 1, 0, 9), someone(3, 2, 0, 4), someone(4, 1, 0, 9)}, []int64{2, 4, 3, 1}},
		// Half of 3, up, and 10: 12, so between 11 and 13, and behind 12 of a lower Id.
		{"Reach is of Delay and Disp", []impl.Peer{someone(1, 2, 0, 13), someone(2, 2, 0, 11), someone(3, 2, 0, 12), delayed, someone(6, 2, 0, 12)}, []int64{2, 3, 5, 6, 1}},
		{"Delays that differ may have one reach", []impl.Peer{
			{Id: 1, Stratum: 1, S: impl.Sample{Delay: 4}},
			{Id: 2, Stratum: 1, S: impl.Sample{Delay: 3}},
			{Id: 3, Stratum: 1, S: impl.Sample{Delay: 2}},
		}, []int64{3, 1, 2}},
	} {
		if ids := idsOf(impl.Ranked(x.list)); !slices.Equal(ids, x.want) {
			t.Errorf("%s: %v", x.name, ids)
		}
	}
}

func TestRanked(t *testing.T) {
	r := rand.New(rand.NewSource(32))
	for range 3000 {
		l := somePeers(r, r.Intn(maxPeers+1))
		if got := impl.Ranked(l); !slices.Equal(got, inRank(l)) {
			t.Fatalf("%+v: %+v", l, got)
		}
	}
}

// far are peers of these offsets, ranked as they stand.
func far(list ...int64) []impl.Peer {
	l := []impl.Peer{}
	for i, x := range list {
		l = append(l, someone(int64(i+1), 1, x, 0))
	}
	return l
}

func TestSurvivorsByHand(t *testing.T) {
	back := []impl.Peer{someone(1, 2, 0, 0), someone(2, 1, 10, 0)}
	for _, x := range []struct {
		name  string
		list  []impl.Peer
		least int64
		want  []int64
	}{
		{"none of none", nil, 3, []int64{}},
		{"one of one", far(5), 1, []int64{1}},
		{"fewer than are to be left", far(5, 900, -900), 4, []int64{1, 2, 3}},
		{"as many as are to be left", far(5, 900, -900), 3, []int64{1, 2, 3}},
		{"as many as you like", far(5, 900, -900), math.MaxInt64, []int64{1, 2, 3}},
		{"the one that is far goes", far(5, 900, 7), 2, []int64{1, 3}},
		{"below nought, too", far(5, -900, 7), 2, []int64{1, 3}},
		{"two are as far from each other: the last one goes", far(5, 7), 1, []int64{1}},
		{"the last one as they are ranked", back, 1, []int64{2}},
		{"they stand as they are ranked", back, 2, []int64{2, 1}},
		{"all of one offset: the last ones go", far(4, 4, 4, 4), 2, []int64{1, 2}},
		{"the outer two are as far: the last one goes", far(0, 10, 20), 2, []int64{1, 2}},
		// 54, 42, 37, 48, 51 at first, and without the first one 38, 28, 28, 30: those that are left count alone.
		{"five to four", far(0, 4, 9, 20, 21), 4, []int64{2, 3, 4, 5}},
		{"five to three", far(0, 4, 9, 20, 21), 3, []int64{3, 4, 5}},
		{"five to two", far(0, 4, 9, 20, 21), 2, []int64{4, 5}},
		{"five to one", far(0, 4, 9, 20, 21), 1, []int64{4}},
		// 39, 20 and 21 apart together, though the first and the last one are as far from each other.
		{"all together, not the farthest one alone", far(0, 19, 20), 2, []int64{2, 3}},
		{"none are to be left", far(5, 7), 0, []int64{}},
		{"less than none", far(5, 7), -1, []int64{}},
		{"far less than none", far(5, 7), math.MinInt64, []int64{}},
	} {
		if ids := idsOf(impl.Survivors(x.list, x.least)); !slices.Equal(ids, x.want) {
			t.Errorf("%s: %v", x.name, ids)
		}
	}
}

// Sums of the greatest ways do not wrap: one is as far from the 19 others as can be.
func TestSurvivorsFarApart(t *testing.T) {
	l := far(slices.Repeat([]int64{maxOffset}, maxPeers)...)
	l[7].S.Offset = -maxOffset
	if ids := idsOf(impl.Survivors(l, maxPeers-1)); slices.Contains(ids, 8) || len(ids) != maxPeers-1 {
		t.Error(ids)
	}
}

func TestSurvivors(t *testing.T) {
	r := rand.New(rand.NewSource(33))
	for range 3000 {
		l := somePeers(r, r.Intn(maxPeers+1))
		least := r.Int63n(maxPeers+3) - 1
		if got := impl.Survivors(l, least); !slices.Equal(got, whoIsLeft(l, least)) {
			t.Fatalf("%+v, %d: %+v", l, least, got)
		}
	}
}

func TestCombinedByHand(t *testing.T) {
	for _, x := range []struct {
		name string
		list []impl.Peer
		want int64
	}{
		{"one", far(77), 77},
		{"one below nought", far(-77), -77},
		{"two", far(10, 20), 15},
		{"cut", far(0, 1), 0},
		{"down below nought", far(0, -1), -1},
		{"down below nought by a third", far(0, 0, -1), -1},
		{"no lower than is told", far(-2, -2), -2},
		{"about nought", far(-7, 7), 0},
		{"a Reach of less than a thousand", []impl.Peer{someone(1, 1, 0, 999), someone(2, 1, 2000, 0)}, 1000},
		// 999 times 0 and 1000 times 1999: the mean is 1000 only when the first counts 999 times.
		{"a Reach of a thousand", []impl.Peer{someone(1, 1, 0, 1000), someone(2, 1, 1999, 0)}, 1000},
		{"a Reach next to two thousand", []impl.Peer{someone(1, 1, 0, 1999), someone(2, 1, 1999, 0)}, 1000},
		{"a Reach of two thousand", []impl.Peer{someone(1, 1, 0, 2000), someone(2, 1, 999, 0)}, 500},
		// 2 times 1002 by 1002, then 1001 by 1001.
		{"it counts twice", []impl.Peer{someone(1, 1, 1002, 998999), someone(2, 1, 0, 0)}, 2},
		{"it counts once", []impl.Peer{someone(1, 1, 1001, 999000), someone(2, 1, 0, 0)}, 1},
		{"next to nought it counts once", []impl.Peer{someone(1, 1, 1001, 999999), someone(2, 1, 0, 0)}, 1},
		{"at nought it counts once", []impl.Peer{someone(1, 1, 1001, 1000000), someone(2, 1, 0, 0)}, 1},
		{"below nought it counts once", []impl.Peer{someone(1, 1, 1001, maxDisp), someone(2, 1, 0, 0)}, 1},
		{"of the greatest Reach one counts once", []impl.Peer{
			{Id: 1, Stratum: 1, S: impl.Sample{Offset: 1001, Delay: maxDelay, Disp: maxDisp}},
			{Id: 2, Stratum: 15},
		}, 1},
		{"all count once", []impl.Peer{someone(1, 1, 10, maxDisp), someone(2, 1, 21, maxDisp)}, 15},
		{"once, below nought", []impl.Peer{someone(1, 1, -1, 5000000), someone(2, 1, 0, 0)}, -1},
		{"the greatest", far(slices.Repeat([]int64{maxOffset}, maxPeers)...), maxOffset},
		{"the least", far(slices.Repeat([]int64{-maxOffset}, maxPeers)...), -maxOffset},
	} {
		if n, ok := impl.Combined(x.list); !ok || n != x.want {
			t.Errorf("%s: %d, %v", x.name, n, ok)
		}
	}
	for _, l := range [][]impl.Peer{nil, {}} {
		if n, ok := impl.Combined(l); ok || n != 0 {
			t.Error("none", n, ok)
		}
	}
}

func TestCombined(t *testing.T) {
	r := rand.New(rand.NewSource(34))
	for range 3000 {
		l := somePeers(r, 1+r.Intn(maxPeers))
		if n, ok := impl.Combined(l); !ok || n != together(l) {
			t.Fatalf("%+v: %d, %v", l, n, ok)
		}
	}
}

// What is put together lies between the least and the greatest offset, those at the bounds, too.
func TestCombinedIsBetween(t *testing.T) {
	r := rand.New(rand.NewSource(35))
	for range 3000 {
		l := somePeers(r, 1+r.Intn(maxPeers))
		size := int64(1) << r.Intn(39)
		least, greatest := int64(math.MaxInt64), int64(math.MinInt64)
		for i := range l {
			l[i].S.Offset = max(-maxOffset, min(maxOffset, 2*(r.Int63n(2*size)-size)))
			least, greatest = min(least, l[i].S.Offset), max(greatest, l[i].S.Offset)
		}
		if n, ok := impl.Combined(l); !ok || n < least || n > greatest {
			t.Fatalf("%+v: %d is not %d .. %d", l, n, least, greatest)
		}
	}
}

func TestChosenByHand(t *testing.T) {
	for _, x := range []struct {
		name   string
		list   []impl.Peer
		offset int64
		id     int64
	}{
		{"one", []impl.Peer{someone(8, 3, -5, 0)}, -5, 8},
		{"two that agree", []impl.Peer{someone(1, 2, 0, 10), someone(2, 1, 7, 10)}, 3, 2},
		{"they touch in one place", []impl.Peer{someone(1, 1, 0, 10), someone(2, 1, 20, 10)}, 10, 1},
		{"of one place alone", []impl.Peer{someone(1, 1, 5, 0), someone(2, 1, 5, 0), someone(3, 1, 6, 0)}, 5, 1},
		{"down below nought", []impl.Peer{someone(1, 1, -3, 10), someone(2, 1, -4, 11)}, -4, 1},
		{"who is alone has no say, of whatever stratum", []impl.Peer{someone(1, 1, 9000, 0), someone(2, 5, 0, 10), someone(3, 5, 4, 9)}, 2, 3},
		{"one more than half", []impl.Peer{someone(1, 1, 0, 5), someone(2, 1, 4, 5), someone(3, 2, 2, 5), someone(4, 1, 900, 5), someone(5, 1, 800, 5)}, 2, 1},
		// Of 30, 20, 0, 10 the last one of the farthest goes: 0, whose Id is the least.
		{"the first of the ranked, not of the Ids", []impl.Peer{someone(1, 2, 0, 100), someone(2, 1, 20, 100), someone(3, 1, 30, 50), someone(4, 2, 10, 100), someone(5, 1, 9000, 50)}, 20, 3},
		// 100 is the farthest from the others, so who ranks first is not left.
		{"the first of the ranked is not left", []impl.Peer{someone(1, 1, 100, 200), someone(2, 2, 0, 200), someone(3, 3, 2, 200), someone(4, 4, 4, 200)}, 2, 2},
		// 1 and 2, a thousand times each, and 2001 once: 5001 by 2001.
		{"who is unsure has little say", []impl.Peer{someone(1, 1, 1, 500), someone(2, 1, 2, 500), someone(3, 1, 2001, 5000000)}, 2, 1},
	} {
		if n, id, ok := impl.Chosen(x.list); !ok || n != x.offset || id != x.id {
			t.Errorf("%s: %d, %d, %v", x.name, n, id, ok)
		}
	}
}

// Three are left of four to twenty, and all of one to three.
func TestChosenThreeAtMost(t *testing.T) {
	for count := 1; count <= maxPeers; count++ {
		l := []impl.Peer{}
		for n := range int64(count) {
			l = append(l, someone(n+1, 1, 1<<n, maxDisp))
		}
		left := int64(0)
		for n := range min(3, count) {
			left += 1 << n
		}
		// The farthest goes each time, which is the last one: 1, 2 and 4 are left.
		if offset, id, ok := impl.Chosen(l); !ok || offset != left/int64(min(3, count)) || id != 1 {
			t.Errorf("%d: %d, %d, %v", count, offset, id, ok)
		}
	}
}

func noneChosen(t *testing.T, l []impl.Peer) {
	t.Helper()
	if n, id, ok := impl.Chosen(l); ok || n != 0 || id != 0 {
		t.Errorf("%+v: %d, %d, %v", l, n, id, ok)
	}
}

func TestNoneChosen(t *testing.T) {
	noneChosen(t, nil)
	noneChosen(t, []impl.Peer{})
	noneChosen(t, []impl.Peer{someone(1, 1, 0, 10), someone(2, 1, 1000, 10)})
	noneChosen(t, []impl.Peer{someone(1, 1, 0, 10), someone(2, 1, 21, 10)})
	noneChosen(t, []impl.Peer{someone(1, 1, 0, 5), someone(2, 1, 4, 5), someone(4, 1, 900, 5), someone(5, 1, 800, 5)})
	noneChosen(t, far(0, 0, 1, 1))
	noneChosen(t, far(0, 10, 20, 30, 40))
}

func TestWrongPeers(t *testing.T) {
	for _, l := range wrongPeers() {
		if got := impl.Ranked(l); len(got) != 0 {
			t.Errorf("%+v: %+v", l, got)
		}
		for _, least := range []int64{-1, 0, 1, 3, 99} {
			if got := impl.Survivors(l, least); len(got) != 0 {
				t.Errorf("%+v, %d: %+v", l, least, got)
			}
		}
		if n, ok := impl.Combined(l); ok || n != 0 {
			t.Errorf("%+v: %d", l, n)
		}
		noneChosen(t, l)
	}
}

// agreeing are those of right peers whose intervals lie where most of all do, when these are more than half.
func agreeing(l []impl.Peer) []impl.Peer {
	var best []impl.Peer
	least := int64(math.MaxInt64)
	for _, start := range l {
		x := start.S.Offset - reach(start)
		var here []impl.Peer
		for _, p := range l {
			if max(p.S.Offset-x, x-p.S.Offset) <= reach(p) {
				here = append(here, p)
			}
		}
		if len(here) > len(best) || len(here) == len(best) && x < least {
			best, least = here, x
		}
	}
	if 2*len(best) <= len(l) {
		return nil
	}
	return best
}

func TestChosen(t *testing.T) {
	r := rand.New(rand.NewSource(36))
	count := map[bool]int{}
	for range 8000 {
		l := somePeers(r, r.Intn(maxPeers+1))
		left := whoIsLeft(agreeing(l), 3)
		n, id, ok := impl.Chosen(l)
		count[ok]++
		if len(left) == 0 {
			if ok || n != 0 || id != 0 {
				t.Fatalf("%+v: %d, %d, %v", l, n, id, ok)
			}
		} else if !ok || n != together(left) || id != left[0].Id {
			t.Fatalf("%+v: %d, %d, %v", l, n, id, ok)
		}
	}
	if count[true] < 1000 || count[false] < 1000 {
		t.Error("too few of one kind:", count)
	}
}

// Promise 6, asked of the program alone: who is chosen agrees, and what is told lies between offsets of those that do.
func TestChosenIsOneOfThoseThatAgree(t *testing.T) {
	r := rand.New(rand.NewSource(37))
	for range 3000 {
		l := somePeers(r, 1+r.Intn(maxPeers))
		intervals := []impl.Interval{}
		for _, p := range l {
			i, _ := impl.IntervalOf(p.S)
			intervals = append(intervals, i)
		}
		n, id, ok := impl.Chosen(l)
		if _, most := impl.Majority(intervals); ok != most {
			t.Fatalf("%+v: %v, %v", l, ok, most)
		}
		if !ok {
			continue
		}
		agrees := false
		least, greatest := int64(math.MaxInt64), int64(math.MinInt64)
		for _, place := range impl.Chimers(intervals) {
			agrees = agrees || l[place].Id == id
			least, greatest = min(least, l[place].S.Offset), max(greatest, l[place].S.Offset)
		}
		if !agrees || n < least || n > greatest {
			t.Fatalf("%+v: %d, %d", l, n, id)
		}
	}
}

// Asking changes nothing, neither in the list nor in the spare room behind it, and what is answered is new memory.
func TestPeersAreOnlyRead(t *testing.T) {
	r := rand.New(rand.NewSource(38))
	for range 300 {
		room := somePeers(r, 40)
		before := slices.Clone(room)
		l := room[:r.Intn(maxPeers+1)]
		ranked, left := impl.Ranked(l), impl.Survivors(l, 3)
		together, right := impl.Combined(l)
		offset, id, ok := impl.Chosen(l)
		wantRanked, wantLeft := slices.Clone(ranked), slices.Clone(left)
		for i := range ranked {
			ranked[i] = impl.Peer{}
		}
		if !slices.Equal(room, before) || !slices.Equal(left, wantLeft) {
			t.Fatalf("%+v was %+v", room, before)
		}
		for i := range left {
			left[i] = impl.Peer{}
		}
		againTogether, againRight := impl.Combined(l)
		againOffset, againId, againOk := impl.Chosen(l)
		if againTogether != together || againRight != right || againOffset != offset || againId != id || againOk != ok {
			t.Fatalf("%+v: answers differ", l)
		}
		if !slices.Equal(impl.Ranked(l), wantRanked) || !slices.Equal(impl.Survivors(l, 3), wantLeft) || !slices.Equal(room, before) {
			t.Fatalf("%+v: answers differ", l)
		}
		ranked = impl.Ranked(l)
		clear(room)
		if !slices.Equal(ranked, wantRanked) {
			t.Fatalf("%+v is in what was given", ranked)
		}
	}
}
