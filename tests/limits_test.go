package tests

import (
	"math"
	"math/rand"
	"slices"
	"testing"

	"loop.example/g00656/impl"
)

const (
	maxClients  = 50
	maxClientId = 1000
	maxSeconds  = 1000000000
	maxScore    = 20
	maxIds      = 200
	maxIdGap    = 1000000
)

func limiter(list ...impl.Client) impl.Limiter {
	return impl.Limiter{Clients: list}
}

func sameLimiter(a impl.Limiter, b impl.Limiter) bool {
	return slices.Equal(a.Clients, b.Clients)
}

// full has as many clients as there may be, of the Ids 2, 4 .. 100.
func full() impl.Limiter {
	l := impl.Limiter{}
	for id := int64(2); id <= 2*maxClients; id += 2 {
		l.Clients = append(l.Clients, impl.Client{Id: id, Last: 1000 + id%7, Score: id % 21})
	}
	return l
}

// someLimiter has Ids and times that are near each other, so that many come again and are forgotten at one time.
func someLimiter(r *rand.Rand, count int) impl.Limiter {
	l := impl.Limiter{}
	id := int64(0)
	for range count {
		id += 1 + r.Int63n(3)
		l.Clients = append(l.Clients, impl.Client{Id: id, Last: r.Int63n(40), Score: r.Int63n(maxScore + 1)})
	}
	return l
}

// came is what chapter 9 says of a right limiter, told without the program, as are the next ones.
func came(l impl.Limiter, id int64, now int64) (impl.Limiter, int64, bool) {
	if id < 1 || id > maxClientId || now < 0 || now > maxSeconds {
		return impl.Limiter{}, 0, false
	}
	n := impl.Limiter{Clients: slices.Clone(l.Clients)}
	at, found := 0, false
	for at < len(n.Clients) && n.Clients[at].Id < id {
		at++
	}
	found = at < len(n.Clients) && n.Clients[at].Id == id
	if !found {
		n.Clients = slices.Insert(n.Clients, at, impl.Client{Id: id, Last: now})
	}
	c := &n.Clients[at]
	if now < c.Last || len(n.Clients) > maxClients {
		return impl.Limiter{}, 0, false
	}
	for ; c.Last < now && c.Score > 0; c.Last++ {
		c.Score--
	}
	c.Last = now
	c.Score += 4
	if c.Score > maxScore {
		c.Score = maxScore
		return n, 1, true
	}
	return n, 0, true
}

func cameAll(l impl.Limiter, ids []int64, start int64, gap int64) (impl.Limiter, []int64) {
	codes := []int64{}
	for i, id := range ids {
		n, told, ok := came(l, id, start+gap*int64(i))
		if ok {
			l = n
		} else {
			told = 2
		}
		codes = append(codes, told)
	}
	return l, codes
}

func forgotten(l impl.Limiter, now int64) impl.Limiter {
	n := impl.Limiter{}
	for _, c := range l.Clients {
		if c.Last+c.Score > now {
			n.Clients = append(n.Clients, c)
		}
	}
	return n
}

// wrongLimiters have one too many, one number past its bounds at each place, or Ids that do not rise.
func wrongLimiters() []impl.Limiter {
	long := full()
	long.Clients = append(long.Clients, impl.Client{Id: maxClientId})
	l := []impl.Limiter{long, someLimiter(rand.New(rand.NewSource(60)), 300)}
	for _, count := range []int{1, 2, 5, maxClients} {
		for at := range count {
			for _, c := range wrongClients() {
				wrong := limiter(full().Clients[:count]...)
				if c.Id == 0 {
					c.Id = wrong.Clients[at].Id
				}
				wrong.Clients[at] = c
				l = append(l, wrong)
			}
		}
		for at := 1; at < count; at++ {
			same, back := limiter(full().Clients[:count]...), limiter(full().Clients[:count]...)
			same.Clients[at].Id = same.Clients[at-1].Id
			back.Clients[at], back.Clients[at-1] = back.Clients[at-1], back.Clients[at]
			l = append(l, same, back)
		}
	}
	for _, id := range []int64{0, -1, math.MinInt64} {
		l = append(l, limiter(impl.Client{Id: id}), limiter(impl.Client{Id: id}, impl.Client{Id: 5}))
	}
	return l
}

// wrongClients with an Id of 0 are to be given one that is right.
func wrongClients() []impl.Client {
	return []impl.Client{
		{Id: -1}, {Id: maxClientId + 1}, {Id: math.MinInt64}, {Id: math.MaxInt64},
		{Last: -1}, {Last: maxSeconds + 1}, {Last: math.MinInt64}, {Last: math.MaxInt64},
		{Score: -1}, {Score: maxScore + 1}, {Score: math.MinInt64}, {Score: math.MaxInt64},
	}
}

func TestLimiterOk(t *testing.T) {
	right := func(l impl.Limiter) {
		t.Helper()
		if !impl.LimiterOk(l) {
			t.Errorf("%+v is not right", l)
		}
	}
	right(impl.Limiter{})
	right(limiter([]impl.Client{}...))
	right(full())
	right(limiter(impl.Client{Id: 1}, impl.Client{Id: 2}, impl.Client{Id: maxClientId - 1}, impl.Client{Id: maxClientId}))
	right(limiter(impl.Client{Id: 1, Last: maxSeconds, Score: maxScore}))
	right(limiter(impl.Client{Id: 1, Last: maxSeconds}, impl.Client{Id: 2, Score: maxScore}))
	r := rand.New(rand.NewSource(61))
	for count := range maxClients + 1 {
		right(someLimiter(r, count))
	}
	for _, l := range wrongLimiters() {
		if impl.LimiterOk(l) {
			t.Errorf("%+v is right", l)
		}
	}
}

func TestCameByHand(t *testing.T) {
	two := limiter(impl.Client{Id: 5, Last: 100, Score: 7}, impl.Client{Id: 9, Last: 300, Score: 20})
	one := func(last int64, score int64) impl.Limiter {
		return limiter(impl.Client{Id: 7, Last: last, Score: score})
	}
	for _, x := range []struct {
		name          string
		before        impl.Limiter
		id, now, told int64
		want          impl.Limiter
	}{
		{"a new one where there is none", impl.Limiter{}, 7, 10, 0, one(10, 4)},
		{"a new one, of the first Id, at 0", impl.Limiter{}, 1, 0, 0, limiter(impl.Client{Id: 1, Score: 4})},
		{"a new one, of the last Id, at last", impl.Limiter{}, maxClientId, maxSeconds, 0, limiter(impl.Client{Id: maxClientId, Last: maxSeconds, Score: 4})},
		{"a new one ahead", two, 4, 0, 0, limiter(impl.Client{Id: 4, Last: 0, Score: 4}, two.Clients[0], two.Clients[1])},
		{"a new one between", two, 6, 50, 0, limiter(two.Clients[0], impl.Client{Id: 6, Last: 50, Score: 4}, two.Clients[1])},
		{"a new one behind", two, 10, 500, 0, limiter(two.Clients[0], two.Clients[1], impl.Client{Id: 10, Last: 500, Score: 4})},
		{"the first of two", two, 5, 103, 0, limiter(impl.Client{Id: 5, Last: 103, Score: 8}, two.Clients[1])},
		{"the second of two", two, 9, 303, 1, limiter(two.Clients[0], impl.Client{Id: 9, Last: 303, Score: 20})},
		{"at Last", one(100, 7), 7, 100, 0, one(100, 11)},
		{"a second later", one(100, 7), 7, 101, 0, one(101, 10)},
		{"a second ahead of what it needs to run out", one(100, 7), 7, 106, 0, one(106, 5)},
		{"it has just run out", one(100, 7), 7, 107, 0, one(107, 4)},
		{"it has run out for a second", one(100, 7), 7, 108, 0, one(108, 4)},
		{"it has run out for long", one(0, 20), 7, maxSeconds, 0, one(maxSeconds, 4)},
		{"just 20", one(100, 16), 7, 100, 0, one(100, 20)},
		{"one more than 20", one(100, 17), 7, 100, 1, one(100, 20)},
		{"four more than 20", one(100, 20), 7, 100, 1, one(100, 20)},
		{"three seconds later one more than 20", one(100, 20), 7, 103, 1, one(103, 20)},
		{"four seconds later just 20", one(100, 20), 7, 104, 0, one(104, 20)},
		{"five seconds later 19", one(100, 20), 7, 105, 0, one(105, 19)},
		{"at the last second of all", one(maxSeconds, 3), 7, maxSeconds, 0, one(maxSeconds, 7)},
		{"a score of nought", one(100, 0), 7, 100, 0, one(100, 4)},
	} {
		if n, told, ok := impl.Came(x.before, x.id, x.now); !ok || told != x.told || !sameLimiter(n, x.want) {
			t.Errorf("%s: %+v, %d, %v", x.name, n, told, ok)
		}
	}
}

func notCame(t *testing.T, l impl.Limiter, id int64, now int64) {
	t.Helper()
	if n, told, ok := impl.Came(l, id, now); ok || told != 0 || len(n.Clients) != 0 {
		t.Errorf("%+v, %d at %d: %+v, %d, %v", l, id, now, n, told, ok)
	}
}

func TestCameRefuses(t *testing.T) {
	for _, l := range []impl.Limiter{{}, limiter(impl.Client{Id: 7, Last: 100, Score: 3}), full()} {
		for _, id := range []int64{0, -1, -7, maxClientId + 1, math.MinInt64, math.MaxInt64} {
			notCame(t, l, id, 5000)
		}
		for _, now := range []int64{-1, maxSeconds + 1, math.MinInt64, math.MaxInt64} {
			notCame(t, l, 7, now)
			notCame(t, l, 8, now)
		}
	}
	for _, now := range []int64{99, 98, 0} {
		notCame(t, limiter(impl.Client{Id: 7, Last: 100, Score: 3}), 7, now)
	}
	notCame(t, limiter(impl.Client{Id: 7, Last: maxSeconds}), 7, maxSeconds-1)
	for _, l := range wrongLimiters() {
		notCame(t, l, 4, 5000)
		notCame(t, l, 999, maxSeconds)
		notCame(t, l, 0, -1)
	}
}

// With 50 there is no room for a new one, wherever it would stand, but each of the 50 may come.
func TestCameWhereItIsFull(t *testing.T) {
	for _, id := range []int64{1, 3, 51, 99, 101, maxClientId} {
		notCame(t, full(), id, 5000)
	}
	for at, c := range full().Clients {
		want := full()
		want.Clients[at] = impl.Client{Id: c.Id, Last: 5000, Score: 4}
		if n, told, ok := impl.Came(full(), c.Id, 5000); !ok || told != 0 || !sameLimiter(n, want) {
			t.Errorf("%d: %+v, %d, %v", c.Id, n, told, ok)
		}
	}
	for at := range maxClients {
		l := full()
		l.Clients = slices.Delete(l.Clients, at, at+1)
		id := int64(2*at + 1)
		if n, told, ok := impl.Came(l, id, 7); !ok || told != 0 || len(n.Clients) != maxClients || n.Clients[at] != (impl.Client{Id: id, Last: 7, Score: 4}) {
			t.Errorf("%d: %+v, %d, %v", id, n, told, ok)
		}
	}
}

func TestCame(t *testing.T) {
	r := rand.New(rand.NewSource(62))
	count := map[int64]int{}
	for range 20000 {
		l := someLimiter(r, r.Intn(5))
		if r.Intn(4) == 0 {
			l = someLimiter(r, maxClients-r.Intn(2))
		}
		id, now := r.Int63n(20), r.Int63n(70)-1
		if len(l.Clients) > 0 && r.Intn(2) == 0 {
			c := l.Clients[r.Intn(len(l.Clients))]
			id, now = c.Id, c.Last+r.Int63n(8)-1
		}
		want, code, right := came(l, id, now)
		n, told, ok := impl.Came(l, id, now)
		if ok != right || told != code || !sameLimiter(n, want) || ok && !impl.LimiterOk(n) {
			t.Fatalf("%+v, %d at %d: %+v, %d, %v", l, id, now, n, told, ok)
		}
		if !ok {
			told = 2
		}
		count[told]++
	}
	if count[0] < 1000 || count[1] < 300 || count[2] < 1000 {
		t.Error("too few of one kind:", count)
	}
}

// Each Score with each number of seconds behind Last.
func TestCameOfEachScore(t *testing.T) {
	for score := range int64(maxScore + 1) {
		for gap := range int64(30) {
			l := limiter(impl.Client{Id: 7, Last: 100, Score: score})
			want, code, _ := came(l, 7, 100+gap)
			if n, told, ok := impl.Came(l, 7, 100+gap); !ok || told != code || !sameLimiter(n, want) {
				t.Errorf("%d, %d seconds later: %+v, %d, %v", score, gap, n, told, ok)
			}
		}
	}
}

func TestCameAllByHand(t *testing.T) {
	seven := impl.Client{Id: 7, Last: 100, Score: 3}
	for _, x := range []struct {
		name       string
		before     impl.Limiter
		ids        []int64
		start, gap int64
		codes      []int64
		want       impl.Limiter
	}{
		{"none", limiter(seven), nil, 100, 1, []int64{}, limiter(seven)},
		{"none of none", impl.Limiter{}, []int64{}, 100, 1, []int64{}, impl.Limiter{}},
		{"none, at no time", limiter(seven), nil, math.MinInt64, 0, []int64{}, limiter(seven)},
		{"all at once", impl.Limiter{}, []int64{7, 7, 7, 7, 7, 7, 7}, 100, 0, []int64{0, 0, 0, 0, 0, 1, 1}, limiter(impl.Client{Id: 7, Last: 100, Score: 20})},
		{"each second", impl.Limiter{}, []int64{7, 7, 7, 7, 7, 7, 7, 7}, 100, 1, []int64{0, 0, 0, 0, 0, 0, 1, 1}, limiter(impl.Client{Id: 7, Last: 107, Score: 20})},
		{"the greatest gap", impl.Limiter{}, []int64{7, 8, 7}, 0, maxIdGap, []int64{0, 0, 0}, limiter(impl.Client{Id: 7, Last: 2 * maxIdGap, Score: 4}, impl.Client{Id: 8, Last: maxIdGap, Score: 4})},
		{"what is false changes nothing", limiter(seven), []int64{0, 7, -1, 1001, 8}, 100, 0, []int64{2, 0, 2, 2, 0}, limiter(impl.Client{Id: 7, Last: 100, Score: 7}, impl.Client{Id: 8, Last: 100, Score: 4})},
		{"a second goes by where it is false, too", limiter(seven), []int64{0, 0, 7}, 100, 1, []int64{2, 2, 0}, limiter(impl.Client{Id: 7, Last: 102, Score: 5})},
		{"ahead of Last, and then at it", limiter(seven), []int64{7, 7, 7}, 98, 1, []int64{2, 2, 0}, limiter(impl.Client{Id: 7, Last: 100, Score: 7})},
		{"from below 0 on", impl.Limiter{}, []int64{7, 7, 7, 7}, -2, 1, []int64{2, 2, 0, 0}, limiter(impl.Client{Id: 7, Last: 1, Score: 7})},
		{"beyond the last time", impl.Limiter{}, []int64{7, 7, 7, 7}, maxSeconds - 1, 1, []int64{0, 0, 2, 2}, limiter(impl.Client{Id: 7, Last: maxSeconds, Score: 7})},
		{"beyond it at once", limiter(seven), []int64{7, 8}, maxSeconds + 1, 0, []int64{2, 2}, limiter(seven)},
		{"beyond it by the greatest gap", impl.Limiter{}, []int64{7, 7, 7}, maxSeconds, maxIdGap, []int64{0, 2, 2}, limiter(impl.Client{Id: 7, Last: maxSeconds, Score: 4})},
		{"far beyond", limiter(seven), []int64{7, 8}, math.MaxInt64, maxIdGap, []int64{2, 2}, limiter(seven)},
		{"far below", limiter(seven), []int64{7, 8}, math.MinInt64, maxIdGap, []int64{2, 2}, limiter(seven)},
		{"others come in between", impl.Limiter{}, []int64{9, 3, 9, 3, 6}, 10, 2, []int64{0, 0, 0, 0, 0}, limiter(impl.Client{Id: 3, Last: 16, Score: 4}, impl.Client{Id: 6, Last: 18, Score: 4}, impl.Client{Id: 9, Last: 14, Score: 4})},
	} {
		if n, codes := impl.CameAll(x.before, x.ids, x.start, x.gap); !slices.Equal(codes, x.codes) || !sameLimiter(n, x.want) {
			t.Errorf("%s: %+v, %v", x.name, n, codes)
		}
	}
}

// Of 60 that are new the first 50 are answered, and the others are not there.
func TestCameAllUntilItIsFull(t *testing.T) {
	ids := []int64{}
	for id := int64(60); id >= 1; id-- {
		ids = append(ids, id)
	}
	n, codes := impl.CameAll(impl.Limiter{}, ids, 0, 1)
	want := append(slices.Repeat([]int64{0}, 50), slices.Repeat([]int64{2}, 10)...)
	if !slices.Equal(codes, want) || len(n.Clients) != maxClients || n.Clients[0].Id != 11 || n.Clients[49].Id != 60 {
		t.Error(n, codes)
	}
	again, codes := impl.CameAll(n, []int64{10, 11, 61, 60}, 60, 0)
	if !slices.Equal(codes, []int64{2, 0, 2, 0}) || len(again.Clients) != maxClients {
		t.Error(again, codes)
	}
}

func TestCameAllMostIds(t *testing.T) {
	n, codes := impl.CameAll(impl.Limiter{}, slices.Repeat([]int64{1}, maxIds), 0, maxIdGap)
	if len(codes) != maxIds || slices.Max(codes) != 0 || !sameLimiter(n, limiter(impl.Client{Id: 1, Last: 199 * maxIdGap, Score: 4})) {
		t.Error(n, codes)
	}
	noneCame(t, impl.Limiter{}, slices.Repeat([]int64{1}, maxIds+1), 0, 1)
	noneCame(t, full(), slices.Repeat([]int64{0}, 1000), -1, 0)
}

func noneCame(t *testing.T, l impl.Limiter, ids []int64, start int64, gap int64) {
	t.Helper()
	if n, codes := impl.CameAll(l, ids, start, gap); len(n.Clients) != 0 || len(codes) != 0 {
		t.Errorf("%+v, %v at %d, %d: %+v, %v", l, ids, start, gap, n, codes)
	}
}

func TestCameAllRefuses(t *testing.T) {
	for _, gap := range []int64{-1, maxIdGap + 1, math.MinInt64, math.MaxInt64} {
		noneCame(t, full(), []int64{2, 4}, 5000, gap)
		noneCame(t, full(), nil, 5000, gap)
	}
	for _, l := range wrongLimiters() {
		noneCame(t, l, []int64{2, 4}, 5000, 1)
		noneCame(t, l, nil, 5000, 1)
	}
}

func TestCameAll(t *testing.T) {
	r := rand.New(rand.NewSource(63))
	for range 3000 {
		l := someLimiter(r, r.Intn(maxClients+1))
		ids := []int64{}
		last := 1 + r.Int63n(1<<r.Intn(8))
		for range r.Intn(maxIds + 1) {
			ids = append(ids, r.Int63n(last+2))
		}
		start, gap := r.Int63n(60)-5, r.Int63n(6)
		if r.Intn(5) == 0 {
			start = maxSeconds - r.Int63n(400)
		}
		want, right := cameAll(l, ids, start, gap)
		n, codes := impl.CameAll(l, ids, start, gap)
		if !slices.Equal(codes, right) || !sameLimiter(n, want) || !impl.LimiterOk(n) {
			t.Fatalf("%+v, %v at %d, %d: %+v, %v", l, ids, start, gap, n, codes)
		}
	}
}

func TestForgottenByHand(t *testing.T) {
	one := limiter(impl.Client{Id: 7, Last: 100, Score: 8})
	three := limiter(impl.Client{Id: 1, Last: 90, Score: 20}, impl.Client{Id: 7, Last: 100, Score: 8}, impl.Client{Id: 1000, Last: 109, Score: 0})
	for _, x := range []struct {
		name   string
		before impl.Limiter
		now    int64
		want   impl.Limiter
	}{
		{"none", impl.Limiter{}, 0, impl.Limiter{}},
		{"none at last", impl.Limiter{}, maxSeconds, impl.Limiter{}},
		{"a second ahead", one, 107, one},
		{"just then", one, 108, impl.Limiter{}},
		{"a second later", one, 109, impl.Limiter{}},
		{"long after", one, maxSeconds, impl.Limiter{}},
		{"at Last", one, 100, one},
		{"ahead of Last", one, 99, one},
		{"far ahead of Last", one, 0, one},
		{"a score of nought ahead of Last", limiter(impl.Client{Id: 7, Last: 1}), 0, limiter(impl.Client{Id: 7, Last: 1})},
		{"a score of nought at Last", limiter(impl.Client{Id: 7, Last: 1}), 1, impl.Limiter{}},
		{"a score of nought at 0", limiter(impl.Client{Id: 7}), 0, impl.Limiter{}},
		{"a score of one at 0", limiter(impl.Client{Id: 7, Score: 1}), 0, limiter(impl.Client{Id: 7, Score: 1})},
		{"beyond the last time", limiter(impl.Client{Id: 7, Last: maxSeconds, Score: 1}), maxSeconds, limiter(impl.Client{Id: 7, Last: maxSeconds, Score: 1})},
		{"at the last time", limiter(impl.Client{Id: 7, Last: maxSeconds - 5, Score: 5}), maxSeconds, impl.Limiter{}},
		{"all stay", three, 107, three},
		{"the one between goes", three, 108, limiter(three.Clients[0], three.Clients[2])},
		{"the first one stays", three, 109, limiter(three.Clients[0])},
		{"all go", three, 110, impl.Limiter{}},
	} {
		if n, ok := impl.Forgotten(x.before, x.now); !ok || !sameLimiter(n, x.want) {
			t.Errorf("%s: %+v, %v", x.name, n, ok)
		}
	}
}

func TestForgottenRefuses(t *testing.T) {
	no := func(l impl.Limiter, now int64) {
		t.Helper()
		if n, ok := impl.Forgotten(l, now); ok || len(n.Clients) != 0 {
			t.Errorf("%+v at %d: %+v, %v", l, now, n, ok)
		}
	}
	for _, now := range []int64{-1, maxSeconds + 1, math.MinInt64, math.MaxInt64} {
		no(impl.Limiter{}, now)
		no(full(), now)
	}
	for _, l := range wrongLimiters() {
		no(l, 0)
		no(l, 1010)
		no(l, maxSeconds)
	}
}

func TestForgotten(t *testing.T) {
	r := rand.New(rand.NewSource(64))
	for range 5000 {
		l := someLimiter(r, r.Intn(maxClients+1))
		now := r.Int63n(65)
		if n, ok := impl.Forgotten(l, now); !ok || !sameLimiter(n, forgotten(l, now)) || !impl.LimiterOk(n) {
			t.Fatalf("%+v at %d: %+v, %v", l, now, n, ok)
		}
	}
}

// Promise 9, asked of the program alone: each fourth second, or more seldom, whatever there was, and whoever else comes.
func TestEachFourthSecondIsAnswered(t *testing.T) {
	r := rand.New(rand.NewSource(65))
	for range 300 {
		l := someLimiter(r, r.Intn(40))
		id := 1 + r.Int63n(150)
		now := int64(40)
		for _, c := range l.Clients {
			if c.Id == id {
				now = max(now, c.Last+4)
			}
		}
		for range 60 {
			n, told, ok := impl.Came(l, id, now)
			if !ok || told != 0 {
				t.Fatalf("%+v, %d at %d: %+v, %d, %v", l, id, now, n, told, ok)
			}
			other := l.Clients
			l = n
			for i := 0; i < len(other) && i < 3; i++ {
				who := other[r.Intn(len(other))].Id
				if m, _, ok := impl.Came(l, who, now); ok && who != id {
					l = m
				}
			}
			now += 4 + r.Int63n(2)*r.Int63n(10)
		}
	}
	start := limiter(impl.Client{Id: 9, Last: 0, Score: 20})
	if _, codes := impl.CameAll(start, slices.Repeat([]int64{9}, maxIds), 4, 4); len(codes) != maxIds || slices.Max(codes) != 0 {
		t.Error(codes)
	}
	// Who comes each third second is refused in the end.
	if _, codes := impl.CameAll(impl.Limiter{}, slices.Repeat([]int64{9}, maxIds), 4, 3); slices.Max(codes) != 1 {
		t.Error(codes)
	}
}

// Who is forgotten had no score left: from then on all are told what they would have been told.
func TestForgottenHadNoScoreLeft(t *testing.T) {
	r := rand.New(rand.NewSource(66))
	gone := 0
	for range 2000 {
		l := someLimiter(r, r.Intn(20))
		now := r.Int63n(65)
		left, _ := impl.Forgotten(l, now)
		gone += len(l.Clients) - len(left.Clients)
		ids := []int64{}
		for _, c := range l.Clients {
			ids = append(ids, c.Id, c.Id)
			kept := slices.Contains(left.Clients, c)
			n, _, ok := impl.Came(l, c.Id, now)
			at := slices.IndexFunc(n.Clients, func(c2 impl.Client) bool { return c2.Id == c.Id })
			if fresh := ok && n.Clients[at].Score == 4; !kept && !fresh {
				t.Fatalf("%+v at %d: %+v is forgotten", l, now, c)
			}
		}
		r.Shuffle(len(ids), func(a int, b int) { ids[a], ids[b] = ids[b], ids[a] })
		_, codes := impl.CameAll(l, ids, now, 0)
		if _, told := impl.CameAll(left, ids, now, 0); !slices.Equal(codes, told) {
			t.Fatalf("%+v at %d: %v, and %v without %+v", l, now, codes, told, left)
		}
	}
	if gone < 1000 {
		t.Error("too few are forgotten:", gone)
	}
}

// CameAll is Came, one by one.
func TestCameAllIsCame(t *testing.T) {
	r := rand.New(rand.NewSource(67))
	for range 500 {
		start := someLimiter(r, r.Intn(maxClients+1))
		ids := []int64{}
		for range r.Intn(30) {
			ids = append(ids, r.Int63n(12))
		}
		gap := r.Int63n(4)
		n, codes := impl.CameAll(start, ids, 30, gap)
		l := start
		for i, id := range ids {
			m, told, ok := impl.Came(l, id, 30+gap*int64(i))
			if !ok {
				m, told = l, 2
			}
			if codes[i] != told {
				t.Fatalf("%+v, %v, %d: %v", start, ids, gap, codes)
			}
			l = m
		}
		if !sameLimiter(l, n) || len(codes) != len(ids) {
			t.Fatalf("%+v, %v, %d: %+v, %+v", start, ids, gap, n, l)
		}
	}
}

// Asking changes nothing, neither in the lists nor in the spare room behind them, and what is answered is new memory.
func TestLimitersAreOnlyRead(t *testing.T) {
	r := rand.New(rand.NewSource(68))
	for range 300 {
		room := someLimiter(r, maxClients+10).Clients
		l := limiter(room[:1+r.Intn(maxClients)]...)
		roomIds := []int64{3, 5, 7, 9, 11, 13}
		ids := roomIds[:4]
		before := slices.Clone(room)
		id := l.Clients[0].Id
		one, told, _ := impl.Came(l, id, 50)
		all, codes := impl.CameAll(l, ids, 50, 1)
		left, _ := impl.Forgotten(l, 20)
		wantOne, wantAll, wantLeft, wantCodes := slices.Clone(one.Clients), slices.Clone(all.Clients), slices.Clone(left.Clients), slices.Clone(codes)
		for _, x := range [][]impl.Client{one.Clients, all.Clients, left.Clients} {
			clear(x[:cap(x)])
		}
		clear(codes)
		same, code, _ := impl.Came(l, id, 50)
		again, then := impl.CameAll(l, ids, 50, 1)
		still, _ := impl.Forgotten(l, 20)
		if !slices.Equal(room, before) || !slices.Equal(roomIds, []int64{3, 5, 7, 9, 11, 13}) || code != told || !slices.Equal(then, wantCodes) {
			t.Fatalf("%+v was %+v", room, before)
		}
		clear(room)
		clear(roomIds)
		if !slices.Equal(same.Clients, wantOne) || !slices.Equal(again.Clients, wantAll) || !slices.Equal(still.Clients, wantLeft) || !slices.Equal(then, wantCodes) {
			t.Fatalf("%+v, %+v or %+v is in what was given", same, again, still)
		}
	}
}
