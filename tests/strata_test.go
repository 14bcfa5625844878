package tests

import (
	"math"
	"math/rand"
	"runtime"
	"slices"
	"testing"
	"time"

	"loop.example/g00656/impl"
)

const (
	noRef       = -1
	lastStratum = 15
)

func source(peers ...int64) impl.Node {
	return impl.Node{Source: true, Peers: peers, Ref: noRef, Stratum: 1}
}

func lost(peers ...int64) impl.Node {
	return impl.Node{Peers: peers, Ref: noRef, Stratum: impl.Far}
}

func follower(ref int64, stratum int64, peers ...int64) impl.Node {
	return impl.Node{Peers: peers, Ref: ref, Stratum: stratum}
}

// chain has a source at one end, and each other one has the one next to it, on that side, as its peer.
func chain(count int) []impl.Node {
	l := []impl.Node{source()}
	for at := 1; at < count; at++ {
		l = append(l, lost(int64(at-1)))
	}
	return l
}

// chainBack is a chain with its source behind all others, so that each round brings it but one hop on.
func chainBack(count int) []impl.Node {
	l := []impl.Node{}
	for at := 1; at < count; at++ {
		l = append(l, lost(int64(at)))
	}
	return append(l, source())
}

// standings are all that is right for one of these peers that is no source.
func standings(peers ...int64) []impl.Node {
	l := []impl.Node{lost(peers...)}
	for _, ref := range peers {
		for stratum := int64(2); stratum <= lastStratum; stratum++ {
			l = append(l, follower(ref, stratum, peers...))
		}
	}
	return l
}

// someNodes follow whatever they may. Of some lists none is a source, and of some all have few peers.
func someNodes(r *rand.Rand, count int) []impl.Node {
	l := []impl.Node{}
	sources, peers := 2+r.Intn(9), 1+r.Intn(6)
	if r.Intn(4) == 0 {
		sources = 1000
	}
	for at := range count {
		n := lost()
		for place := range count {
			if place != at && r.Intn(1+peers) == 0 {
				n.Peers = append(n.Peers, int64(place))
			}
		}
		if r.Intn(sources) == 0 {
			n.Source, n.Stratum = true, 1
		} else if len(n.Peers) > 0 && r.Intn(5) > 0 {
			n.Ref = n.Peers[r.Intn(len(n.Peers))]
			n.Stratum = 2 + r.Int63n(14)
		}
		l = append(l, n)
	}
	return l
}

func sameNode(a impl.Node, b impl.Node) bool {
	return a.Source == b.Source && a.Ref == b.Ref && a.Stratum == b.Stratum && slices.Equal(a.Peers, b.Peers)
}

func sameNodes(a []impl.Node, b []impl.Node) bool {
	return slices.EqualFunc(a, b, sameNode)
}

func copyOf(l []impl.Node) []impl.Node {
	n := slices.Clone(l)
	for i := range n {
		n[i].Peers = slices.Clone(n[i].Peers)
	}
	return n
}

// ticked is what chapter 8 says of right nodes, told without the program, as are the next ones.
func ticked(l []impl.Node, at int) impl.Node {
	n := l[at]
	if n.Source {
		return n
	}
	n.Ref, n.Stratum = noRef, impl.Far
	for _, place := range slices.Backward(n.Peers) {
		if s := l[place].Stratum; s < lastStratum && s < n.Stratum {
			n.Ref, n.Stratum = place, s+1
		}
	}
	return n
}

func inTurn(l []impl.Node) []impl.Node {
	n := copyOf(l)
	for at := range n {
		n[at] = ticked(n, at)
	}
	return n
}

func inTheEnd(l []impl.Node) ([]impl.Node, int64) {
	for changed := int64(0); ; changed++ {
		n := inTurn(l)
		if sameNodes(n, l) {
			return n, changed
		}
		l = n
	}
}

func inRing(l []impl.Node) bool {
	for at := range l {
		passed := map[int64]bool{}
		for place := int64(at); place != noRef; place = l[place].Ref {
			if passed[place] {
				return true
			}
			passed[place] = true
		}
	}
	return false
}

// hopsApart goes out from the sources, so many hops at a time.
func hopsApart(l []impl.Node) []int64 {
	hops := slices.Repeat([]int64{-1}, len(l))
	for far := range int64(len(l)) {
		for at, n := range l {
			near := slices.ContainsFunc(n.Peers, func(place int64) bool { return far > 0 && hops[place] == far-1 })
			if hops[at] < 0 && (n.Source && far == 0 || near && !n.Source) {
				hops[at] = far
			}
		}
	}
	return hops
}

// checkNodes holds all that is told of right nodes against what chapter 8 says, and asks promise 8.
func checkNodes(t *testing.T, l []impl.Node) {
	t.Helper()
	if !impl.NodesOk(l) {
		t.Fatalf("%+v are not right", l)
	}
	for at := range l {
		if n, ok := impl.TickOf(l, int64(at)); !ok || !sameNode(n, ticked(l, at)) {
			t.Fatalf("%+v at %d: %+v, %v", l, at, n, ok)
		}
	}
	if n, ok := impl.RoundOf(l); !ok || !sameNodes(n, inTurn(l)) || !impl.NodesOk(n) {
		t.Fatalf("%+v: %+v, %v", l, n, ok)
	}
	want, changed := inTheEnd(l)
	n, rounds, ok := impl.Settled(l)
	if !ok || !sameNodes(n, want) || rounds != changed || !impl.NodesOk(n) {
		t.Fatalf("%+v: %+v, %d, %v, not %+v, %d", l, n, rounds, ok, want, changed)
	}
	if impl.Loops(l) != inRing(l) {
		t.Fatalf("%+v: %v", l, impl.Loops(l))
	}
	if hops := impl.HopsOf(l); !slices.Equal(hops, hopsApart(l)) {
		t.Fatalf("%+v: %v", l, hops)
	}
	standsByHops(t, l)
}

// standsByHops is promise 8, asked of the program alone.
func standsByHops(t *testing.T, l []impl.Node) {
	t.Helper()
	n, _, _ := impl.Settled(l)
	if impl.Loops(n) {
		t.Fatalf("%+v: %+v goes round", l, n)
	}
	for at, far := range impl.HopsOf(l) {
		want := far + 1
		if far < 0 {
			want = impl.Far
		}
		lone := far <= 0 && n[at].Ref == noRef
		next := far > 0 && n[n[at].Ref].Stratum == far
		if n[at].Stratum != want || !lone && !next {
			t.Fatalf("%+v: %+v at %d, which is %d hops away", l, n, at, far)
		}
	}
}

func TestNodesByHand(t *testing.T) {
	checkNodes(t, nil)
	checkNodes(t, []impl.Node{})
	checkNodes(t, []impl.Node{source()})
	checkNodes(t, []impl.Node{lost()})
	checkNodes(t, []impl.Node{lost(1), lost(0)})
	checkNodes(t, []impl.Node{source(1), source(0)})
	checkNodes(t, chain(impl.MaxNodes))
	checkNodes(t, chainBack(impl.MaxNodes))
	all := []impl.Node{}
	for at := range int64(impl.MaxNodes) {
		peers := []int64{}
		for place := range int64(impl.MaxNodes) {
			if place != at {
				peers = append(peers, place)
			}
		}
		all = append(all, follower(peers[at%11], 2+at, peers...))
	}
	checkNodes(t, all)
	all[7] = source(all[7].Peers...)
	checkNodes(t, all)
}

func TestNodes(t *testing.T) {
	r := rand.New(rand.NewSource(50))
	for range 6000 {
		checkNodes(t, someNodes(r, r.Intn(impl.MaxNodes+1)))
	}
}

// Each Ref and each Stratum that is right, in two, in rings of three, and in three of which each has both others.
func TestRingsWithoutASource(t *testing.T) {
	lostAll := func(l []impl.Node) {
		t.Helper()
		n, _, ok := impl.Settled(l)
		if !ok || len(n) != len(l) {
			t.Fatalf("%+v: %+v, %v", l, n, ok)
		}
		for at := range l {
			if !sameNode(n[at], lost(l[at].Peers...)) {
				t.Fatalf("%+v: %+v", l, n)
			}
		}
	}
	for _, a := range standings(1) {
		for _, b := range standings(0) {
			checkNodes(t, []impl.Node{a, b})
			lostAll([]impl.Node{a, b})
		}
	}
	for _, peers := range [][][]int64{{{1}, {2}, {0}}, {{2}, {0}, {1}}, {{1, 2}, {0, 2}, {0, 1}}} {
		for _, a := range standings(peers[0]...) {
			for _, b := range standings(peers[1]...) {
				for _, c := range standings(peers[2]...) {
					lostAll([]impl.Node{a, b, c})
				}
			}
		}
	}
}

// A ring with a source beside it ends up below the source, whichever of the ring has it as a peer.
func TestRingsBesideASource(t *testing.T) {
	for _, a := range standings(1) {
		for _, b := range standings(0, 2, 3) {
			for _, c := range standings(0) {
				checkNodes(t, []impl.Node{a, b, c, source()})
			}
		}
	}
}

func TestTickOfByHand(t *testing.T) {
	pair := func(a int64, b int64, n impl.Node) []impl.Node {
		l := []impl.Node{n}
		for _, stratum := range []int64{a, b} {
			switch stratum {
			case 1:
				l = append(l, source())
			case impl.Far:
				l = append(l, lost())
			default:
				l = append(l, follower(0, stratum, 0))
			}
		}
		return l
	}
	for _, x := range []struct {
		name         string
		list         []impl.Node
		ref, stratum int64
	}{
		{"a source, as it is", pair(1, 1, source(1, 2)), noRef, 1},
		{"no peer", pair(1, 2, lost()), noRef, impl.Far},
		{"one peer", pair(1, 1, lost(2)), 2, 2},
		{"the least", pair(5, 3, lost(1, 2)), 2, 4},
		{"the least is the first", pair(3, 5, lost(1, 2)), 1, 4},
		{"of two that are alike the first", pair(4, 4, lost(1, 2)), 1, 5},
		{"the first, whatever it followed", pair(4, 4, follower(2, 5, 1, 2)), 1, 5},
		{"two sources", pair(1, 1, follower(2, 2, 1, 2)), 1, 2},
		{"a higher one behind a lower one", pair(1, 2, follower(2, 3, 1, 2)), 1, 2},
		{"who is no peer does not count", pair(1, 9, follower(2, 3, 2)), 2, 10},
		{"its own stratum does not count", pair(9, 9, follower(2, 2, 1, 2)), 1, 10},
		{"a peer of 14", pair(14, 15, lost(1, 2)), 1, 15},
		{"a peer of 14 behind one of 15", pair(15, 14, lost(1, 2)), 2, 15},
		{"peers of 15", pair(15, 15, follower(1, 9, 1, 2)), noRef, impl.Far},
		{"peers of 15 and Far", pair(15, impl.Far, follower(1, 9, 1, 2)), noRef, impl.Far},
		{"peers of Far", pair(impl.Far, impl.Far, follower(2, 15, 1, 2)), noRef, impl.Far},
		{"a peer of Far ahead of a source", pair(impl.Far, 1, lost(1, 2)), 2, 2},
		{"a peer behind a peer of Far", pair(impl.Far, 8, lost(1, 2)), 2, 9},
	} {
		want := x.list[0]
		want.Ref, want.Stratum = x.ref, x.stratum
		if !impl.NodesOk(x.list) {
			t.Errorf("%s: is not right", x.name)
		}
		if n, ok := impl.TickOf(x.list, 0); !ok || !sameNode(n, want) {
			t.Errorf("%s: %+v, %v", x.name, n, ok)
		}
	}
}

func noTick(t *testing.T, l []impl.Node, at int64) {
	t.Helper()
	if n, ok := impl.TickOf(l, at); ok || !sameNode(n, impl.Node{}) {
		t.Errorf("%+v at %d: %+v, %v", l, at, n, ok)
	}
}

func TestTickOfNoSuchNode(t *testing.T) {
	for _, count := range []int{0, 1, 3, impl.MaxNodes} {
		l := chain(max(count, 1))[:count]
		for _, at := range []int64{-1, -2, int64(count), int64(count) + 1, impl.MaxNodes, 1 << 32, -1 << 32, math.MinInt64, math.MaxInt64} {
			noTick(t, l, at)
		}
	}
}

func strata(l []impl.Node) []int64 {
	list := []int64{}
	for _, n := range l {
		list = append(list, n.Stratum)
	}
	return list
}

// Those ahead have changed already, so a chain is told all along in one round, or by one hop in each, as it lies.
func TestRoundOfByHand(t *testing.T) {
	for _, x := range []struct {
		name string
		list []impl.Node
		want [][]int64
	}{
		{"from the first one on", chain(4), [][]int64{{1, 2, 3, 4}, {1, 2, 3, 4}}},
		{"to the last one", chainBack(4), [][]int64{{16, 16, 2, 1}, {16, 3, 2, 1}, {4, 3, 2, 1}, {4, 3, 2, 1}}},
		{"from the middle", []impl.Node{lost(1), source(), lost(1), lost(2, 4), lost(0)}, [][]int64{{2, 1, 2, 3, 3}, {2, 1, 2, 3, 3}}},
		{"two without a source", []impl.Node{follower(1, 2, 1), follower(0, 3, 0)}, [][]int64{{4, 5}, {6, 7}, {8, 9}, {10, 11}, {12, 13}, {14, 15}, {16, 16}}},
		{"two, the other way", []impl.Node{follower(1, 3, 1), follower(0, 2, 0)}, [][]int64{{3, 4}, {5, 6}, {7, 8}, {9, 10}, {11, 12}, {13, 14}, {15, 16}, {16, 16}}},
		{"three that go round backward", []impl.Node{follower(1, 2, 1), follower(2, 2, 2), follower(0, 2, 0)}, [][]int64{{3, 3, 4}, {4, 5, 5}, {6, 6, 7}}},
		{"one that is lost stops them", []impl.Node{follower(1, 2, 1), lost(0)}, [][]int64{{16, 16}, {16, 16}}},
		{"one that was lost goes on", []impl.Node{lost(1), follower(0, 2, 0)}, [][]int64{{3, 4}, {5, 6}}},
	} {
		l := x.list
		for i, want := range x.want {
			n, ok := impl.RoundOf(l)
			if !ok || !slices.Equal(strata(n), want) {
				t.Errorf("%s: %v, %v in round %d", x.name, strata(n), ok, i)
			}
			l = n
		}
	}
}

func TestSettledByHand(t *testing.T) {
	threeBack := []impl.Node{follower(1, 2, 1), follower(2, 2, 2), follower(0, 2, 0)}
	// They go up by one in each round, and by one more as what the last one had ahead of the others comes round to them.
	twelveBack := []impl.Node{}
	for at := range int64(impl.MaxNodes) {
		next := (at + 1) % impl.MaxNodes
		twelveBack = append(twelveBack, follower(next, 2, next))
	}
	for _, x := range []struct {
		name   string
		list   []impl.Node
		strata []int64
		rounds int64
	}{
		{"none", nil, []int64{}, 0},
		{"one source", []impl.Node{source()}, []int64{1}, 0},
		{"one without peers", []impl.Node{lost()}, []int64{16}, 0},
		{"one that is lost beside its source", []impl.Node{source(), lost(0)}, []int64{1, 2}, 1},
		{"nothing changes", []impl.Node{source(), follower(0, 2, 0), follower(1, 3, 1), lost()}, []int64{1, 2, 3, 16}, 0},
		{"all are lost already", []impl.Node{lost(1), lost(0)}, []int64{16, 16}, 0},
		{"a Ref alone changes", []impl.Node{source(), source(), follower(1, 2, 0, 1)}, []int64{1, 1, 2}, 1},
		{"a Stratum alone changes", []impl.Node{source(), follower(0, 9, 0)}, []int64{1, 2}, 1},
		{"a chain", chain(12), []int64{1, 2, 3, 4, 5, 6, 7, 8, 9, 10, 11, 12}, 1},
		{"a chain back", chainBack(12), []int64{12, 11, 10, 9, 8, 7, 6, 5, 4, 3, 2, 1}, 11},
		{"two", []impl.Node{follower(1, 2, 1), follower(0, 3, 0)}, []int64{16, 16}, 7},
		{"two, the other way", []impl.Node{follower(1, 3, 1), follower(0, 2, 0)}, []int64{16, 16}, 8},
		{"three back", threeBack, []int64{16, 16, 16}, 10},
		{"twelve back", twelveBack, slices.Repeat([]int64{16}, 12), 13},
		{"a way that is longer than it was thought", []impl.Node{source(), follower(2, 2, 2), follower(3, 2, 3), lost(0)}, []int64{1, 4, 3, 2}, 3},
	} {
		checkNodes(t, x.list)
		if n, rounds, ok := impl.Settled(x.list); !ok || rounds != x.rounds || !slices.Equal(strata(n), x.strata) {
			t.Errorf("%s: %v, %d, %v", x.name, strata(n), rounds, ok)
		}
	}
}

// Settled is RoundOf, as often as something changes, and what is settled stays so.
func TestSettledIsRounds(t *testing.T) {
	r := rand.New(rand.NewSource(51))
	most := int64(0)
	for range 2000 {
		start := someNodes(r, r.Intn(impl.MaxNodes+1))
		n, rounds, _ := impl.Settled(start)
		l := start
		for i := range rounds {
			next, ok := impl.RoundOf(l)
			if !ok || sameNodes(next, l) {
				t.Fatalf("%+v: %+v, %v in round %d of %d", start, next, ok, i, rounds)
			}
			l = next
		}
		again, more, ok := impl.Settled(n)
		if last, _ := impl.RoundOf(l); !sameNodes(l, n) || !sameNodes(last, n) || !ok || more != 0 || !sameNodes(again, n) {
			t.Fatalf("%+v: %+v, %+v, %d, %v", start, n, again, more, ok)
		}
		most = max(most, rounds)
	}
	if most < 10 {
		t.Error("too few rounds:", most)
	}
}

func TestLoopsByHand(t *testing.T) {
	for _, x := range []struct {
		name string
		list []impl.Node
		want bool
	}{
		{"none", nil, false},
		{"one", []impl.Node{lost()}, false},
		{"peers of each other that follow none", []impl.Node{lost(1), lost(0)}, false},
		{"one follows one that follows none", []impl.Node{lost(1), follower(0, 3, 0)}, false},
		{"two follow each other", []impl.Node{follower(1, 3, 1), follower(0, 2, 0)}, true},
		{"below a source", []impl.Node{source(1), follower(0, 2, 0, 2), follower(1, 3, 0, 1)}, false},
		{"who goes round is not below the source it has as a peer", []impl.Node{source(), follower(2, 4, 0, 2), follower(1, 3, 0, 1)}, true},
		{"three, of which the last two go round", []impl.Node{follower(1, 4, 1), follower(2, 4, 2), follower(1, 4, 1)}, true},
		{"three follow each other", []impl.Node{follower(2, 4, 2), follower(0, 4, 0), follower(1, 4, 1)}, true},
	} {
		if impl.Loops(x.list) != x.want || inRing(x.list) != x.want {
			t.Errorf("%s: %v", x.name, impl.Loops(x.list))
		}
	}
	long, _, _ := impl.Settled(chainBack(impl.MaxNodes))
	if impl.Loops(long) {
		t.Error("a chain of all ends")
	}
	long[impl.MaxNodes-1] = follower(0, 9, 0)
	if !impl.Loops(long) {
		t.Error("a ring of all does not end")
	}
}

func TestHopsOfByHand(t *testing.T) {
	for _, x := range []struct {
		name string
		list []impl.Node
		want []int64
	}{
		{"none", nil, []int64{}},
		{"a source", []impl.Node{source()}, []int64{0}},
		{"no source", []impl.Node{lost(1), follower(0, 2, 0)}, []int64{-1, -1}},
		{"a chain", chain(12), []int64{0, 1, 2, 3, 4, 5, 6, 7, 8, 9, 10, 11}},
		{"a chain back", chainBack(12), []int64{11, 10, 9, 8, 7, 6, 5, 4, 3, 2, 1, 0}},
		{"the nearer of two", []impl.Node{source(), lost(0), lost(1), lost(2, 4), lost(0)}, []int64{0, 1, 2, 2, 1}},
		{"one that none reaches", []impl.Node{source(), lost(), lost(0, 1), lost(1)}, []int64{0, -1, 1, -1}},
		{"whom the source has as a peer does not come to it", []impl.Node{source(1), lost()}, []int64{0, -1}},
		{"a source that has a source as a peer", []impl.Node{source(1), source()}, []int64{0, 0}},
		{"Refs and Strata are nothing to it", []impl.Node{source(), follower(2, 15, 0, 2), follower(1, 15, 1)}, []int64{0, 1, 2}},
	} {
		if hops := impl.HopsOf(x.list); !slices.Equal(hops, x.want) {
			t.Errorf("%s: %v", x.name, hops)
		}
	}
}

// wrongNodes are too many, or have one thing that is not right, at each place.
func wrongNodes() [][]impl.Node {
	l := [][]impl.Node{chain(impl.MaxNodes + 1), chainBack(40), make([]impl.Node, impl.MaxNodes+1), {{}}, {source(), {}}}
	for _, count := range []int{1, 2, 3, impl.MaxNodes} {
		for at := range count {
			for _, n := range wrongAtPlace(int64(at), int64(count)) {
				nodes := chain(count)
				nodes[at] = n
				l = append(l, nodes)
			}
		}
	}
	return l
}

func wrongAtPlace(at int64, count int64) []impl.Node {
	l := []impl.Node{source(at), lost(at), follower(at, 5, at), {Source: true, Ref: 0, Stratum: 1}}
	for _, place := range []int64{-1, -2, count, count + 1, math.MinInt64, math.MaxInt64} {
		l = append(l, source(place), lost(place), follower(place, 5, place), follower(place, 5))
	}
	for _, stratum := range []int64{0, -1, 1, 2, lastStratum, impl.Far + 1, math.MinInt64, math.MaxInt64} {
		l = append(l, follower(noRef, stratum))
		if stratum != 1 {
			l = append(l, impl.Node{Source: true, Ref: noRef, Stratum: stratum})
		}
	}
	l = append(l, impl.Node{Source: true, Ref: noRef, Stratum: impl.Far}, follower(-2, impl.Far))
	if count > 1 {
		l = append(l, wrongWithPeer((at+1)%count)...)
	}
	if count > 2 {
		l = append(l, wrongWithPeers(at, (at+1)%count, (at+2)%count)...)
	}
	return l
}

func wrongWithPeer(peer int64) []impl.Node {
	l := []impl.Node{lost(peer, peer), follower(peer, 5, peer, peer), source(peer, peer), {Source: true, Peers: []int64{peer}, Ref: peer, Stratum: 1}}
	for _, stratum := range []int64{1, 0, -1, impl.Far, impl.Far + 1, math.MinInt64, math.MaxInt64} {
		l = append(l, follower(peer, stratum, peer))
	}
	for _, stratum := range []int64{2, 5, lastStratum} {
		l = append(l, follower(noRef, stratum, peer), impl.Node{Source: true, Peers: []int64{peer}, Ref: peer, Stratum: stratum})
	}
	return append(l, follower(peer, 5), follower(peer, impl.Far))
}

func wrongWithPeers(at int64, a int64, b int64) []impl.Node {
	low, high := min(a, b), max(a, b)
	own := []int64{low, high, at}
	slices.Sort(own)
	return []impl.Node{
		lost(high, low), source(high, low), follower(low, 5, high, low),
		lost(low, low, high), lost(low, high, high), lost(low, high, low),
		lost(own...), follower(low, 5, own...), source(own...),
		follower(low, 5, high), follower(high, 5, low), follower(at, 5, low, high),
	}
}

func TestWrongNodes(t *testing.T) {
	for _, l := range wrongNodes() {
		if impl.NodesOk(l) || impl.Loops(l) {
			t.Errorf("%+v", l)
		}
		for _, at := range []int64{0, int64(len(l)) - 1, int64(len(l)), -1} {
			noTick(t, l, at)
		}
		if n, ok := impl.RoundOf(l); ok || len(n) != 0 {
			t.Errorf("%+v: %+v, %v", l, n, ok)
		}
		if n, rounds, ok := impl.Settled(l); ok || len(n) != 0 || rounds != 0 {
			t.Errorf("%+v: %+v, %d, %v", l, n, rounds, ok)
		}
		if hops := impl.HopsOf(l); len(hops) != 0 {
			t.Errorf("%+v: %v", l, hops)
		}
	}
	// Two that go round, and one that is not right.
	if impl.Loops([]impl.Node{follower(1, 2, 1), follower(0, 2, 0), {}}) {
		t.Error("a ring in a list that is not right")
	}
}

// roomy are right nodes with spare room behind the list and behind each of its Peers.
func roomy(r *rand.Rand, count int) []impl.Node {
	l := append(someNodes(r, count), source(7), source(8))
	for at := range l {
		l[at].Peers = append(l[at].Peers, -7, -8)
	}
	return l
}

func cut(room []impl.Node) []impl.Node {
	l := room[: len(room)-2 : len(room)]
	for at := range l {
		l[at].Peers = l[at].Peers[:len(l[at].Peers)-2]
	}
	return l
}

// whole has the spare room, too.
func whole(room []impl.Node) []impl.Node {
	l := slices.Clone(room)
	for at := range l {
		l[at].Peers = slices.Clone(l[at].Peers[:cap(l[at].Peers)])
	}
	return l
}

func spoil(l []impl.Node) {
	for at := range l {
		full := l[at].Peers[:cap(l[at].Peers)]
		for i := range full {
			full[i] = -99
		}
		l[at] = impl.Node{}
	}
}

// Asking changes nothing, neither in the lists nor in the spare room behind them, and what is answered is new memory.
func TestNodesAreOnlyRead(t *testing.T) {
	r := rand.New(rand.NewSource(52))
	for range 300 {
		count := 1 + r.Intn(impl.MaxNodes)
		room := roomy(r, count)
		l := cut(room)
		before := whole(room)
		at := r.Int63n(int64(count))
		n, _ := impl.TickOf(l, at)
		round, _ := impl.RoundOf(l)
		end, _, _ := impl.Settled(l)
		hops := impl.HopsOf(l)
		wantRound, wantEnd, wantHops := copyOf(round), copyOf(end), slices.Clone(hops)
		loops := impl.Loops(l)
		spoil([]impl.Node{n})
		clear(hops)
		if !sameNodes(whole(room), before) || !sameNodes(round, wantRound) || !sameNodes(end, wantEnd) {
			t.Fatalf("%+v was %+v", room, before)
		}
		spoil(round)
		if !sameNodes(whole(room), before) || !sameNodes(end, wantEnd) {
			t.Fatalf("%+v was %+v", room, before)
		}
		spoil(end)
		round, _ = impl.RoundOf(l)
		end, _, _ = impl.Settled(l)
		if !sameNodes(whole(room), before) || !sameNodes(round, wantRound) || !sameNodes(end, wantEnd) {
			t.Fatalf("%+v was %+v", room, before)
		}
		if !slices.Equal(impl.HopsOf(l), wantHops) || impl.Loops(l) != loops {
			t.Fatalf("%+v: answers differ", l)
		}
		spoil(room)
		if !sameNodes(round, wantRound) || !sameNodes(end, wantEnd) {
			t.Fatalf("%+v and %+v are in what was given", round, end)
		}
	}
}

// Nodes may be given with one list of Peers for all; those that are answered have one each, and nothing behind it is another's.
func TestPeersOfOneListAreParted(t *testing.T) {
	shared := []int64{0}
	l := []impl.Node{source(), {Peers: shared, Ref: -1, Stratum: impl.Far}, {Peers: shared, Ref: -1, Stratum: impl.Far}}
	apart := func(n []impl.Node) {
		t.Helper()
		n[1].Peers[0] = 77
		_ = append(n[1].Peers, 78)
		if len(n[2].Peers) != 1 || n[2].Peers[0] != 0 || shared[0] != 0 {
			t.Errorf("%+v", n)
		}
	}
	round, _ := impl.RoundOf(l)
	apart(round)
	end, _, _ := impl.Settled(l)
	apart(end)
	same, _, _ := impl.Settled(l[:1])
	if len(same) != 1 || len(same[0].Peers) != 0 {
		t.Errorf("%+v", same)
	}
}

// Whoever hands on the ticks is done with the call: none of them is left behind.
func TestNoGoroutineIsLeft(t *testing.T) {
	before := runtime.NumGoroutine()
	r := rand.New(rand.NewSource(53))
	for range 500 {
		l := someNodes(r, r.Intn(impl.MaxNodes+1))
		impl.RoundOf(l)
		impl.Settled(l)
		impl.TickOf(l, 0)
	}
	for range 200 {
		if runtime.NumGoroutine() <= before {
			return
		}
		time.Sleep(10 * time.Millisecond)
	}
	t.Errorf("%d goroutines, %d before", runtime.NumGoroutine(), before)
}
