package tests

import (
	"fmt"
	"go/ast"
	"go/parser"
	"go/token"
	"maps"
	"math"
	"math/rand"
	"path/filepath"
	"reflect"
	"runtime"
	"slices"
	"strings"
	"sync"
	"testing"

	"loop.example/g00656/impl"
)

// call is a function of the document, and arguments for it.
type call struct {
	name string
	of   reflect.Value
	args []reflect.Value
}

func callOf(f any, args ...any) call {
	c := call{of: reflect.ValueOf(f)}
	name := runtime.FuncForPC(c.of.Pointer()).Name()
	c.name = name[strings.LastIndex(name, ".")+1:]
	for i, x := range args {
		// A bare number is an int here, and a bare nil has no type.
		v := reflect.Zero(c.of.Type().In(i))
		if x != nil {
			v = reflect.ValueOf(x).Convert(v.Type())
		}
		c.args = append(c.args, v)
	}
	return c
}

// each has one call of each function for each argument.
func each[T any](list []T, functions ...any) []call {
	var calls []call
	for _, x := range list {
		for _, f := range functions {
			calls = append(calls, callOf(f, x))
		}
	}
	return calls
}

// few are some of a list, as the tests of each chapter ask all of it.
func few[T any](r *rand.Rand, list []T) []T {
	r.Shuffle(len(list), func(i int, j int) { list[i], list[j] = list[j], list[i] })
	return list[:min(len(list), 25)]
}

func inOrder[T any](named map[string]T) []T {
	var list []T
	for _, name := range slices.Sorted(maps.Keys(named)) {
		list = append(list, named[name])
	}
	return list
}

func someWords(r *rand.Rand) []string {
	return []string{"", " ", "x", someText(r, 4), someText(r, 8), someText(r, 48), someText(r, 80), someText(r, 200)}
}

func stampCalls(r *rand.Rand) []call {
	times := append([]int64{0, 1, second, impl.MaxTime, r.Int63n(impl.MaxTime)}, wrongTimes...)
	words := append(someWords(r), word(maxShortParts+1))
	for range 20 {
		times = append(times, r.Int63n(maxShort))
		words = append(words, stamp(r.Int63n(impl.MaxTime)), word(uint64(r.Int63n(maxShortParts))))
	}
	calls := each(times, impl.SecondsOf, impl.StampBytes, impl.ShortBytes)
	return append(calls, each(words, impl.ReadStamp, impl.ReadShort)...)
}

func packetCalls(r *rand.Rand) []call {
	packets := []impl.Packet{{}, sent, question}
	for _, f := range packetFields() {
		wrong := somePacket(r)
		*f.at(&wrong) = f.high + 1
		packets = append(packets, wrong, somePacket(r))
	}
	calls := each(packets, impl.PacketOk, impl.PacketBytes)
	calls = append(calls, each(append(someWords(r), sentBytes[1:]), impl.ReadPacket)...)
	for _, p := range packets {
		bytes := impl.PacketBytes(p)
		calls = append(calls, callOf(impl.ReadPacket, bytes), callOf(impl.ReadMac, bytes+tag("key", bytes), "key"))
		answer, _ := impl.Answered(question, 1+r.Int63n(15), r.Int63n(second), second)
		calls = append(calls, callOf(impl.Answered, p, 2, 5, 6), callOf(impl.Answered, question, p.Stratum, p.Recv, p.Xmit))
		calls = append(calls, callOf(impl.Fits, question, answer), callOf(impl.Fits, p, answer), callOf(impl.Fits, question, p))
		calls = append(calls, callOf(impl.Asked, p.Xmit, p.Poll), callOf(impl.MacText, p, "key"), callOf(impl.MacText, p, keyOf(maxTagged+1)))
	}
	tagged := sentBytes + tag("key", sentBytes)
	return append(calls, callOf(impl.ReadMac, tagged, "key"), callOf(impl.ReadMac, tagged, "other"), callOf(impl.ReadMac, tagged[1:], "key"))
}

func sampleCalls(r *rand.Rand) []call {
	samples := append(few(r, wrongSamples()), someFilter(r, 25)...)
	calls := each(samples, impl.SampleOk, impl.Reach, impl.IntervalOf, impl.SampleText)
	for _, s := range samples {
		at := r.Int63n(2000)
		calls = append(calls, callOf(impl.Aged, s, at), callOf(impl.SampleOf, at, s.Offset, s.Offset+s.Disp, at+s.Delay))
		for count := range impl.MaxSamples + 2 {
			l := someFilter(r, count)
			calls = append(calls, callOf(impl.FilterAdd, l, s), callOf(impl.Popcorn, l, s))
		}
	}
	for _, l := range append(few(r, wrongFilters()), nil, someFilter(r, 1), someFilter(r, 7), someFilter(r, 8)) {
		calls = append(calls, callOf(impl.FilterAdd, l, taken), callOf(impl.Popcorn, l, taken))
		calls = append(calls, each([][]impl.Sample{l}, impl.FilterOk, impl.BestOf, impl.JitterOf)...)
	}
	words := append(someWords(r), "0 0 0 -1", "5 6 7", "05 6 7 8")
	for _, s := range samples {
		words = append(words, sampleText(s))
	}
	return append(calls, each(words, impl.ReadSample)...)
}

func intervalCalls(r *rand.Rand) []call {
	calls := each(append(wrongIntervals(), someIntervals(r, 9)...), impl.IntervalOk)
	for _, l := range append(few(r, wrongLists()), nil, someIntervals(r, 1), someIntervals(r, 5), someIntervals(r, maxIntervals)) {
		calls = append(calls, each([][]impl.Interval{l}, impl.Agreed, impl.Chimers, impl.Majority)...)
		calls = append(calls, callOf(impl.Depth, l, r.Int63n(9)-4), callOf(impl.Depth, l, math.MinInt64))
	}
	return calls
}

func peerCalls(r *rand.Rand) []call {
	var calls []call
	for _, l := range append(few(r, wrongPeers()), nil, somePeers(r, 1), somePeers(r, 2), somePeers(r, 5), somePeers(r, maxPeers)) {
		calls = append(calls, each([][]impl.Peer{l}, impl.PeersOk, impl.Ranked, impl.Combined, impl.Chosen)...)
		for _, least := range []int64{math.MinInt64, 0, 1, 3, maxPeers, math.MaxInt64} {
			calls = append(calls, callOf(impl.Survivors, l, least))
		}
	}
	return calls
}

func clockCalls(r *rand.Rand) []call {
	clocks := append(few(r, wrongClocks()), few(r, edgeClocks())...)
	calls := each(clocks, impl.ClockOk, impl.ClockText)
	for _, c := range clocks {
		calls = append(calls, callOf(impl.ReadClock, fmt.Sprint(c.State, c.Offset, c.Freq, c.Poll, c.Calm)))
		for _, gap := range []int64{math.MinInt64, -1, 0, 1, maxGap, maxGap + 1} {
			calls = append(calls, callOf(impl.Slewed, c, gap), callOf(impl.Adjusted, c, someOffset(r), gap), callOf(impl.Adjusted, c, math.MaxInt64, gap))
		}
	}
	return append(calls, each(append(someWords(r), "1 5 5 6", "1 5 501 6 2", "1 5 5 6 2 "), impl.ReadClock)...)
}

func nodeCalls(r *rand.Rand) []call {
	var calls []call
	ring := []impl.Node{follower(1, 5, 1), follower(0, 5, 0)}
	for _, l := range append(few(r, wrongNodes()), nil, ring, chainBack(impl.MaxNodes), someNodes(r, 1), someNodes(r, 5), someNodes(r, 9), someNodes(r, impl.MaxNodes)) {
		calls = append(calls, each([][]impl.Node{l}, impl.NodesOk, impl.RoundOf, impl.Settled, impl.Loops, impl.HopsOf)...)
		for _, at := range []int64{math.MinInt64, -1, 0, 4, int64(len(l)) - 1, int64(len(l)), math.MaxInt64} {
			calls = append(calls, callOf(impl.TickOf, l, at))
		}
	}
	return calls
}

func limiterCalls(r *rand.Rand) []call {
	var calls []call
	for _, l := range append(few(r, wrongLimiters()), impl.Limiter{}, full(), someLimiter(r, 1), someLimiter(r, 5), someLimiter(r, maxClients)) {
		calls = append(calls, callOf(impl.LimiterOk, l))
		for _, now := range []int64{-1, 0, 20, 45, 2000, maxSeconds, maxSeconds + 1} {
			calls = append(calls, callOf(impl.Forgotten, l, now), callOf(impl.Came, l, r.Int63n(20), now), callOf(impl.Came, l, maxClientId, now))
			calls = append(calls, callOf(impl.CameAll, l, []int64{1, 2, 3, 2, 0, 1, 99, 3, 3, 3, 3, 3}, now, r.Int63n(3)))
		}
		calls = append(calls, callOf(impl.CameAll, l, nil, 0, 0), callOf(impl.CameAll, l, nil, 0, -1), callOf(impl.CameAll, l, make([]int64, 201), 0, 1))
	}
	return calls
}

func diskCalls(r *rand.Rand) []call {
	disks := []impl.Disk{someDisk(r, 0), someDisk(r, 1), someDisk(r, 6), stored(3), tornStore(2), diskOf(nil, puts(impl.MaxOps)...)}
	disks = append(disks, few(r, inOrder(wrongDisks()))...)
	calls := each(disks, impl.DiskOk, impl.Sync, impl.StoreView)
	ops := append(few(r, inOrder(wrongForms())), putOp("a", ""), putOp("log", "xyz"), dropOp("a"), dropOp("log"), moveOp("a", "b"), moveOp("log", "a"))
	long := strings.Repeat("x", impl.MaxBytes+1)
	for _, d := range disks {
		for _, op := range ops {
			calls = append(calls, callOf(impl.Do, d, op))
		}
		for _, f := range d.Live {
			calls = append(calls, callOf(impl.ReadFile, d, f.Name))
		}
		all := allPlaces(len(d.Ops))
		for _, keep := range [][]int64{nil, all, all[len(all)/2:], {0}, {-1}, {1, 0}, {int64(len(all))}} {
			calls = append(calls, callOf(impl.Crash, d, keep, 1), callOf(impl.Crash, d, keep, math.MaxInt64), callOf(impl.Crash, d, keep, -1))
		}
		for _, name := range []string{"", "a", "log", "none", strings.Repeat("n", 97)} {
			calls = append(calls, callOf(impl.ReadFile, d, name), callOf(impl.Replace, d, name, "y"), callOf(impl.Replace, d, name, long))
		}
	}
	return calls
}

func storeCalls(r *rand.Rand) []call {
	words := append(someWords(r), strings.Repeat("x", 100001))
	for count := range 20 {
		frames := framed("") + framed(someText(r, count)) + framed("c")
		words = append(words, frames, frames+"torn")
	}
	calls := each(words, impl.FrameOf, impl.TakeFrames)
	disks := []impl.Disk{{}, someDisk(r, 4), stored(0), stored(3), tornStore(2), diskOf(stored(1).Safe, putOp("log", entry(1, inStore(2)[1])), putOp("log", "x"))}
	disks = append(disks, few(r, inOrder(wrongDisks()))[:5]...)
	for _, d := range disks {
		list := []impl.Act{{}, {Kind: 5}, act(impl.AcNew), act(impl.AcOpen), addAct(1), addAct(100)}
		for range 9 {
			list = append(list, someAct(r, d, 100+r.Int63n(100)))
		}
		for _, a := range append(slices.Clone(list), impl.Act{Kind: impl.AcCrash, Keep: allPlaces(len(d.Ops)), Torn: 9, Power: 1 + r.Int63n(5)}) {
			calls = append(calls, callOf(impl.StoreDo, d, a))
		}
		calls = append(calls, callOf(impl.StorePlay, d, list), callOf(impl.StorePlay, d, list[2:]), callOf(impl.StorePlay, d, nil))
	}
	return calls
}

func tagCalls(r *rand.Rand) []call {
	var calls []call
	for _, count := range []int{0, 3, 55, 56, 64, 65, maxTagged, maxTagged + 1, 5000} {
		text := someText(r, count)
		calls = append(calls, callOf(impl.Sha256, text), callOf(impl.Hmac, "key", text), callOf(impl.Hmac, text, "text"))
	}
	return calls
}

func registerCalls(r *rand.Rand) []call {
	registers := append([]int64{0, 1, 128, maxRegister}, wrongRegisters...)
	for range 20 {
		registers = append(registers, r.Int63n(maxRegister+1))
	}
	calls := each(registers, impl.Ones, impl.Reachable)
	for _, n := range registers {
		calls = append(calls, callOf(impl.Shifted, n, true), callOf(impl.Shifted, n, false))
		for _, poll := range []int64{math.MinInt64, 3, 4, 7, 10, 11} {
			calls = append(calls, callOf(impl.PollFor, n, poll))
		}
		for _, count := range []int{0, 1, 7, 8, 9, maxAnswers, maxAnswers + 1} {
			calls = append(calls, callOf(impl.ShiftedAll, n, someAnswers(r, count)))
		}
	}
	return calls
}

func leapCalls(r *rand.Rand) []call {
	var calls []call
	for _, l := range append(few(r, wrongLeaps()), nil, someLeaps(r, 1), someLeaps(r, 5), someLeaps(r, 20), manyLeaps(maxLeaps)) {
		calls = append(calls, callOf(impl.LeapsOk, l))
		for _, at := range append(few(r, edgeTimes(l)), -1, lastLeapAt+1) {
			calls = append(calls, callOf(impl.LeapAt, l, at), callOf(impl.Smeared, l, at), callOf(impl.NextLeap, l, at))
		}
	}
	return calls
}

func scriptCalls(r *rand.Rand) []call {
	texts := append(someWords(r), "clock\n", "clock", strings.Repeat("\n", 41))
	for range 20 {
		texts = append(texts, ended(someScript(r, r.Intn(42))))
	}
	return each(texts, impl.RunScript)
}

// allCalls are calls of each function that the document has, with arguments that are right and with such as are not.
func allCalls(seed int64) []call {
	r := rand.New(rand.NewSource(seed))
	return slices.Concat(
		stampCalls(r), packetCalls(r), sampleCalls(r), intervalCalls(r), peerCalls(r), clockCalls(r), nodeCalls(r), limiterCalls(r),
		diskCalls(r), storeCalls(r), tagCalls(r), registerCalls(r), leapCalls(r), scriptCalls(r),
	)
}

// spare is what stands in the room behind a list, or is written into one: nothing that is right.
func spare(of reflect.Type) reflect.Value {
	v := reflect.New(of).Elem()
	switch of.Kind() {
	case reflect.Int64:
		v.SetInt(-99)
	case reflect.Bool:
		v.SetBool(true)
	case reflect.String:
		v.SetString("room")
	case reflect.Slice:
		v.Set(reflect.Append(v, spare(of.Elem())))
	case reflect.Struct:
		for i := range v.NumField() {
			v.Field(i).Set(spare(of.Field(i).Type))
		}
	}
	return v
}

// copied is new memory all through, with so much room behind each list; without any, a list of none is nil.
func copied(v reflect.Value, room int) reflect.Value {
	n := reflect.New(v.Type()).Elem()
	switch v.Kind() {
	case reflect.Slice:
		for i := range v.Len() {
			n.Set(reflect.Append(n, copied(v.Index(i), room)))
		}
		n.SetCap(n.Len())
		for range room {
			n.Set(reflect.Append(n, spare(v.Type().Elem())))
		}
		n.Set(n.Slice3(0, v.Len(), n.Len()))
	case reflect.Struct:
		for i := range v.NumField() {
			n.Field(i).Set(copied(v.Field(i), room))
		}
	case reflect.String:
		n.SetString(strings.Clone(v.String()))
	default:
		n.Set(v)
	}
	return n
}

func copiedAll(list []reflect.Value, room int) []reflect.Value {
	var n []reflect.Value
	for _, v := range list {
		n = append(n, copied(v, room))
	}
	return n
}

// allLists are all lists in a value, those in lists, too, each with the room behind it.
func allLists(v reflect.Value) []reflect.Value {
	var lists []reflect.Value
	switch v.Kind() {
	case reflect.Slice:
		if v.Cap() == 0 {
			return nil
		}
		v = v.Slice(0, v.Cap())
		lists = append(lists, v)
		for i := range v.Len() {
			lists = append(lists, allLists(v.Index(i))...)
		}
	case reflect.Struct:
		for i := range v.NumField() {
			lists = append(lists, allLists(v.Field(i))...)
		}
	}
	return lists
}

func listsOf(values ...[]reflect.Value) []reflect.Value {
	var lists []reflect.Value
	for _, l := range values {
		for _, v := range l {
			lists = append(lists, allLists(v)...)
		}
	}
	return lists
}

// spoilt has something else written into all lists of some values, and into the room behind them.
func spoilt(values []reflect.Value) {
	for _, list := range listsOf(values) {
		for i := range list.Len() {
			list.Index(i).Set(spare(list.Type().Elem()))
		}
	}
}

// shared tells whether two of some lists have memory in common.
func shared(lists []reflect.Value) bool {
	slices.SortFunc(lists, func(a reflect.Value, b reflect.Value) int {
		if a.Pointer() < b.Pointer() {
			return -1
		}
		return 1
	})
	for i := 1; i < len(lists); i++ {
		ahead := lists[i-1]
		if ahead.Pointer()+uintptr(ahead.Len())*ahead.Type().Elem().Size() > lists[i].Pointer() {
			return true
		}
	}
	return false
}

// told has all of some values in words; an empty list and nil are told alike.
func told(values []reflect.Value) string {
	s := ""
	for _, v := range values {
		s += fmt.Sprintf("%+v;", v)
	}
	return s
}

// rooms has the room behind each list in words, too.
func rooms(values []reflect.Value) string {
	return told(values) + told(listsOf(values))
}

// sameAgain asks a call several times, with room behind its lists and without any. In between all that it answered is written into,
// and, in the end, all that it was given.
func sameAgain(t *testing.T, c call) string {
	t.Helper()
	given := copiedAll(c.args, 3)
	before := rooms(given)
	first := c.of.Call(given)
	want := told(first)
	if shared(listsOf(first, given)) {
		t.Fatalf("%s: memory of %.500s is there twice", c.name, want)
	}
	spoilt(first)
	again := c.of.Call(given)
	bare := c.of.Call(copiedAll(c.args, 0))
	if told(again) != want || told(bare) != want {
		t.Fatalf("%s of %.500s: %.500s, %.500s, and %.500s", c.name, told(c.args), want, told(again), told(bare))
	}
	if after := rooms(given); after != before {
		t.Fatalf("%s: %.500s has become %.500s", c.name, before, after)
	}
	spoilt(given)
	if told(again) != want {
		t.Fatalf("%s: %.500s is in what was given", c.name, want)
	}
	return want
}

// Promise 16, asked of the program alone: the same arguments give the same answers, and nothing is written into an argument.
func TestEachFunctionIsTheSameAgain(t *testing.T) {
	for seed := range int64(3) {
		answers := map[string]map[string]bool{}
		for _, c := range allCalls(160 + seed) {
			if answers[c.name] == nil {
				answers[c.name] = map[string]bool{}
			}
			answers[c.name][sameAgain(t, c)] = true
		}
		for name, l := range answers {
			if len(l) < 2 {
				t.Errorf("%s has but one answer", name)
			}
		}
	}
}

// Whatever is asked ahead of it, or at the same time, a call has the answer that it had.
func TestEachFunctionIsTheSameInAnyOrder(t *testing.T) {
	calls := allCalls(163)
	var want []string
	for _, c := range calls {
		want = append(want, told(c.of.Call(c.args)))
	}
	var wait sync.WaitGroup
	for worker := range int64(4) {
		wait.Go(func() {
			for _, i := range rand.New(rand.NewSource(164 + worker)).Perm(len(calls)) {
				if got := told(calls[i].of.Call(calls[i].args)); got != want[i] {
					t.Errorf("%s of %.500s: %.500s, not %.500s", calls[i].name, told(calls[i].args), got, want[i])
					return
				}
			}
		})
	}
	wait.Wait()
}

// exported are the functions of the program that others may call.
func exported(t *testing.T) []string {
	t.Helper()
	files, err := filepath.Glob("../impl/*.go")
	if err != nil || len(files) == 0 {
		t.Fatal(files, err)
	}
	var names []string
	for _, file := range files {
		parsed, err := parser.ParseFile(token.NewFileSet(), file, nil, 0)
		if err != nil {
			t.Fatal(err)
		}
		for _, d := range parsed.Decls {
			if f, ok := d.(*ast.FuncDecl); ok && f.Recv == nil && f.Name.IsExported() {
				names = append(names, f.Name.Name)
			}
		}
	}
	slices.Sort(names)
	return names
}

// A function that has no calls here would be one that promise 16 is not asked of.
func TestEachFunctionIsCalled(t *testing.T) {
	names := map[string]bool{}
	for _, c := range allCalls(160) {
		names[c.name] = true
	}
	if called, all := slices.Sorted(maps.Keys(names)), exported(t); !slices.Equal(called, all) {
		t.Errorf("%v are called, of %v", called, all)
	}
}
