package tests

import (
	"encoding/binary"
	"fmt"
	"hash/crc32"
	"math"
	"math/rand"
	"slices"
	"strings"
	"testing"

	"loop.example/g00656/impl"
)

const (
	maxStored     = 200
	maxFrameBytes = 100000
	allSteps      = -1
)

// framed is the frame of any data, told without the program, as are the next ones.
func framed(data string) string {
	b := binary.BigEndian.AppendUint32(nil, uint32(len(data)))
	b = binary.LittleEndian.AppendUint32(b, crc32.ChecksumIEEE([]byte(data)))
	return string(b) + data
}

func sampleText(s impl.Sample) string {
	return fmt.Sprintf("%d %d %d %d", s.Offset, s.Delay, s.Disp, s.At)
}

func entry(ahead int, s impl.Sample) string {
	return framed(fmt.Sprintf("%d %s", ahead, sampleText(s)))
}

func logOf(l []impl.Sample) string {
	log := ""
	for i, s := range l {
		log += entry(i, s)
	}
	return log
}

// countedOf goes by what each next entry has to be, of which there is one text alone.
func countedOf(log string) ([]impl.Sample, string) {
	l, counted := []impl.Sample{}, ""
	for len(l) < maxStored && len(log) >= len(counted)+8 {
		rest := log[len(counted):]
		end := 8 + int(binary.BigEndian.Uint32([]byte(rest)))
		if end > len(rest) {
			break
		}
		ahead, s := 0, impl.Sample{}
		fmt.Sscanf(rest[8:end], "%d %d %d %d %d", &ahead, &s.Offset, &s.Delay, &s.Disp, &s.At)
		if entry(len(l), s) != rest[:end] || !impl.SampleOk(s) || len(l) > 0 && s.At <= l[len(l)-1].At {
			break
		}
		l = append(l, s)
		counted += rest[:end]
	}
	return l, counted
}

// runner makes steps as long as nothing refuses one and there is power.
type runner struct {
	d     impl.Disk
	power int64
	code  int64
}

func (r *runner) did(op impl.DOp) {
	r.step(func() (impl.Disk, int64) { return didOp(r.d, op) })
}

func (r *runner) sync() {
	r.step(func() (impl.Disk, int64) { return impl.Disk{Live: r.d.Live, Safe: r.d.Live}, impl.DkOk })
}

func (r *runner) step(f func() (impl.Disk, int64)) {
	if r.code != impl.StOk {
		return
	}
	if r.power == 0 {
		r.code = impl.StPower
		return
	}
	r.power--
	next, code := f()
	if code != impl.DkOk {
		r.code = impl.StFull
		return
	}
	r.d = next
}

func actedOn(d impl.Disk, a impl.Act) (impl.Disk, int64) {
	r := &runner{d: d, power: a.Power}
	if a.Kind == impl.AcCrash {
		left, ok := impl.Disk{}, false
		if a.Torn >= 0 && placesOk(a.Keep, len(d.Ops)) {
			left, ok = crashed(d, a.Keep, a.Torn)
		}
		if !ok {
			return d, impl.StForm
		}
		d, r.d, a.Kind = left, left, impl.AcOpen
	}
	files := knownOf(d.Live)
	log, found := files["log"]
	l, counted := countedOf(log)
	switch {
	case a.Kind < 1 || a.Kind > 3:
		r.code = impl.StForm
	case a.Kind == impl.AcNew && found:
		r.code = impl.StForm
	case a.Kind == impl.AcNew:
		r.did(putOp("log", ""))
		r.sync()
	case !found:
		r.code = impl.StNone
	case a.Kind == impl.AcAdd:
		r.code = codeOfAdd(a.S, log, l, counted)
		r.did(putOp("log", entry(len(l), a.S)))
		if a.Sync {
			r.sync()
		}
	case counted != log:
		if _, found := files["log.new"]; found {
			r.did(dropOp("log.new"))
		}
		r.did(putOp("log.new", counted))
		r.sync()
		r.did(moveOp("log.new", "log"))
		r.sync()
	}
	if r.code != impl.StOk && r.code != impl.StPower {
		return d, r.code
	}
	return r.d, r.code
}

func codeOfAdd(s impl.Sample, log string, l []impl.Sample, counted string) int64 {
	switch {
	case !impl.SampleOk(s):
		return impl.StForm
	case counted != log:
		return impl.StTorn
	case len(l) > 0 && s.At <= l[len(l)-1].At:
		return impl.StNot
	case len(l) >= maxStored:
		return impl.StFull
	}
	return impl.StOk
}

func placesOk(keep []int64, count int) bool {
	last := int64(-1)
	for _, place := range keep {
		if place <= last || place >= int64(count) {
			return false
		}
		last = place
	}
	return true
}

// inStore are as many samples, of which each is later than the one ahead.
func inStore(count int) []impl.Sample {
	l := []impl.Sample{}
	for i := range int64(count) {
		l = append(l, impl.Sample{Offset: 7 - 3*i, Delay: 2 * i, Disp: i, At: 10 * (i + 1)})
	}
	return l
}

// stored has as many samples safe.
func stored(count int) impl.Disk {
	return diskOf(filed("log", logOf(inStore(count))))
}

// tornStore has as many samples safe, and behind them something that is no frame.
func tornStore(count int) impl.Disk {
	return diskOf(filed("log", logOf(inStore(count))+"torn"))
}

func act(kind int64) impl.Act {
	return impl.Act{Kind: kind, Power: allSteps}
}

func addAct(at int64) impl.Act {
	return impl.Act{Kind: impl.AcAdd, S: impl.Sample{Offset: -at, At: at}, Power: allSteps}
}

func withPower(a impl.Act, power int64) impl.Act {
	a.Power = power
	return a
}

// does asks the program and what chapter 11 says, and wants that code of both.
func does(t *testing.T, name string, d impl.Disk, a impl.Act, code int64) impl.Disk {
	t.Helper()
	want, right := actedOn(d, a)
	got, c := impl.StoreDo(d, a)
	if right != code || c != code || !sameDisk(got, want) || !impl.DiskOk(got) {
		t.Errorf("%s, %+v: %d, not %d, %+v", name, a, c, code, got)
	}
	if kept := code != impl.StOk && code != impl.StPower && a.Kind != impl.AcCrash; kept && !sameDisk(got, d) {
		t.Errorf("%s, %+v: the disk is not as it was: %+v", name, a, got)
	}
	return got
}

func sees(t *testing.T, d impl.Disk, want []impl.Sample) {
	t.Helper()
	if l, code := impl.StoreView(d); code != impl.StOk || !slices.Equal(l, want) {
		t.Errorf("%v, %d, not %v", l, code, want)
	}
}

func TestSampleTextByHand(t *testing.T) {
	for s, x := range map[string]impl.Sample{
		"0 0 0 0":      {},
		"-70 500 9 12": {Offset: -70, Delay: 500, Disp: 9, At: 12},
		"-1 0 0 0":     {Offset: -1},
		"1000000000000 1000000000000 16000000 4000000000000000": {Offset: maxOffset, Delay: maxDelay, Disp: maxDisp, At: impl.MaxTime},
		"-1000000000000 0 0 4000000000000000":                   {Offset: -maxOffset, At: impl.MaxTime},
		"10 100 1000 100000":                                    {Offset: 10, Delay: 100, Disp: 1000, At: 100000},
	} {
		if got := impl.SampleText(x); got != s {
			t.Errorf("%+v: %q, not %q", x, got, s)
		}
		if got, ok := impl.ReadSample(s); !ok || got != x {
			t.Errorf("%q: %+v, %v", s, got, ok)
		}
	}
	for _, s := range wrongSamples() {
		if got := impl.SampleText(s); got != "" {
			t.Errorf("%+v: %q", s, got)
		}
		noSampleRead(t, sampleText(s))
	}
}

func noSampleRead(t *testing.T, s string) {
	t.Helper()
	if got, ok := impl.ReadSample(s); ok || got != (impl.Sample{}) {
		t.Errorf("%q: %+v, %v", s, got, ok)
	}
}

func TestReadSampleRefuses(t *testing.T) {
	for _, s := range []string{
		"", " ", "   ", "1", "1 2", "1 2 3", "1 2 3 ", " 1 2 3", "1 2 3 4 5", "1 2 3 4 ", " 1 2 3 4", "1 2 3 4\n", "1  2 3 4", "1 2 3  4",
		"1\t2 3 4", "1,2,3,4", "a b c d", "1 2 3 4\x00", "1 2 3\x004", "1 2 3 4 0",
		"1000000000001 2 3 4", "-1000000000001 2 3 4", "1 1000000000001 3 4", "1 -1 3 4", "1 2 16000001 4", "1 2 -1 4", "1 2 3 4000000000000001", "1 2 3 -1",
		"1 2 3 9999999999999999", "1 2 3 10000000000000000", "1 2 3 99999999999999999999", "1 2 3 18446744073709551620", "18446744073709551617 2 3 4",
	} {
		noSampleRead(t, s)
	}
	words := []string{"-70", "500", "9", "12"}
	for place, word := range words {
		for _, x := range []string{"", "x", "-", "+" + word, "--70", "0" + word, "-0", "00", "+0", "-070", "0000000000000000" + word, word + "x", word + ".0", word + "e0", "0x1", "1_0", " " + word, word + " ", "\u0661"} {
			l := slices.Clone(words)
			l[place] = x
			noSampleRead(t, strings.Join(l, " "))
		}
		noSampleRead(t, strings.Join(slices.Delete(slices.Clone(words), place, place+1), " "))
	}
}

func TestSampleComesBackFromItsText(t *testing.T) {
	r := rand.New(rand.NewSource(110))
	for range 20000 {
		s := impl.Sample{}
		for _, f := range sampleFields() {
			size := f.high - f.low + 1
			*f.at(&s) = f.low + r.Int63n(size)
			if r.Intn(3) == 0 {
				*f.at(&s) = []int64{f.low, f.high, 0, max(f.low, -1), 9, 10}[r.Intn(6)]
			}
		}
		text := impl.SampleText(s)
		if got, ok := impl.ReadSample(text); !ok || got != s || text != sampleText(s) {
			t.Fatalf("%+v: %q, %+v, %v", s, text, got, ok)
		}
	}
}

func TestFrameByHand(t *testing.T) {
	for data, want := range map[string]string{
		"":          "\x00\x00\x00\x00\x00\x00\x00\x00",
		"abc":       "\x00\x00\x00\x03\xc2\x41\x24\x35abc",
		"123456789": "\x00\x00\x00\x09\x26\x39\xf4\xcb123456789",
		"\x00":      "\x00\x00\x00\x01\x8d\xef\x02\xd2\x00",
		"\xff":      "\x00\x00\x00\x01\x00\x00\x00\xff\xff",
	} {
		if got := impl.FrameOf(data); got != want {
			t.Errorf("%q: %q, not %q", data, got, want)
		}
		if l, end := impl.TakeFrames(want); !slices.Equal(l, []string{data}) || end != int64(len(want)) {
			t.Errorf("%q: %q, %d", want, l, end)
		}
	}
}

func TestFrameOf(t *testing.T) {
	r := rand.New(rand.NewSource(111))
	for _, count := range []int{0, 1, 7, 8, 255, 256, 257, 65535, 65536, 99999, maxFrameBytes} {
		b := make([]byte, count)
		r.Read(b)
		if got := impl.FrameOf(string(b)); got != framed(string(b)) {
			t.Errorf("%d bytes: %d bytes", count, len(got))
		}
		if l, end := impl.TakeFrames(framed(string(b))); len(l) != 1 || l[0] != string(b) || end != int64(count)+8 {
			t.Errorf("%d bytes: %d frames, %d", count, len(l), end)
		}
	}
	for _, count := range []int{maxFrameBytes + 1, maxFrameBytes + 2, 1 << 20} {
		data := strings.Repeat("x", count)
		if got := impl.FrameOf(data); got != "" {
			t.Errorf("%d bytes: %d bytes", count, len(got))
		}
		framesAre(t, framed(data))
		framesAre(t, framed("a")+framed(data), "a")
	}
	for x := range 256 {
		data := string([]byte{byte(x)})
		if got := impl.FrameOf(data); got != framed(data) {
			t.Errorf("%q: %q", data, got)
		}
	}
}

// framesAre wants these frames, and that they end where they do.
func framesAre(t *testing.T, s string, want ...string) {
	t.Helper()
	end := int64(0)
	for _, data := range want {
		end += int64(len(data)) + 8
	}
	if l, e := impl.TakeFrames(s); !slices.Equal(l, want) || e != end {
		t.Errorf("%d bytes: %d frames, not %d, to %d, not %d", len(s), len(l), len(want), e, end)
	}
}

func TestTakeFrames(t *testing.T) {
	framesAre(t, "")
	framesAre(t, "x")
	framesAre(t, "no frame at all")
	framesAre(t, "\x00\x00\x00\x00\x00\x00\x00")
	framesAre(t, "\x00\x00\x00\x00\x00\x00\x00\x00\x00", "")
	framesAre(t, framed("a")+framed("")+framed("b"), "a", "", "b")
	framesAre(t, framed("a")+"x"+framed("b"), "a")
	framesAre(t, "x"+framed("a"))
	framesAre(t, framed(framed("a")), framed("a"))
	framesAre(t, strings.Repeat("\x00", 8*25000), slices.Repeat([]string{""}, 25000)...)
	framesAre(t, strings.Repeat(framed("frame"), 3000)+"\x00", slices.Repeat([]string{"frame"}, 3000)...)
	framesAre(t, "\xff\xff\xff\xff"+framed("abc")[4:])
	framesAre(t, "\x80\x00\x00\x03"+framed("abc")[4:])
}

// A frame that is cut at each of its bytes, and one of which each bit is turned.
func TestTakeFramesOfWhatIsTorn(t *testing.T) {
	last := framed("the last one")
	for cut := range len(last) {
		framesAre(t, framed("a")+framed("bc")+last[:cut], "a", "bc")
		framesAre(t, last[:cut])
		// What is behind the cut does not begin a frame where the first one ends.
		framesAre(t, framed("a")+last[:cut]+"\xff"+last[cut:], "a")
	}
	for bit := range 8 * len(last) {
		b := []byte(last)
		b[bit/8] ^= 1 << (bit % 8)
		framesAre(t, framed("a")+string(b)+framed("b"), "a")
	}
	for _, count := range []int{0, 1, 2, 4, 5, 100000, 100001} {
		wrong := string(binary.BigEndian.AppendUint32(nil, uint32(count))) + framed("abc")[4:]
		framesAre(t, wrong)
		framesAre(t, framed("a")+wrong+strings.Repeat("x", 100100), "a")
	}
	// The CRC-32 with the highest byte first is another one.
	b := []byte(framed("abc"))
	slices.Reverse(b[4:8])
	framesAre(t, string(b))
}

func TestTakeFramesOfAny(t *testing.T) {
	r := rand.New(rand.NewSource(112))
	for range 2000 {
		want, s := []string{}, ""
		for range r.Intn(6) {
			b := make([]byte, r.Intn(20))
			r.Read(b)
			want = append(want, string(b))
			s += framed(string(b))
		}
		framesAre(t, s, want...)
		framesAre(t, s+framed("cut")[:r.Intn(11)], want...)
	}
}

func TestStoreView(t *testing.T) {
	for _, count := range []int{0, 1, 2, 199, maxStored} {
		sees(t, stored(count), inStore(count))
		sees(t, tornStore(count), inStore(count))
	}
	sees(t, diskOf(filed("log", logOf(inStore(201)))), inStore(maxStored))
	sees(t, diskOf(filed("log", logOf(inStore(250)))), inStore(maxStored))
	// What is seen counts, whether it is safe or not.
	sees(t, diskOf(filed("log", logOf(inStore(1))), putOp("log", entry(1, inStore(2)[1]))), inStore(2))
	sees(t, diskOf(nil, putOp("log", "")), nil)
	sees(t, diskOf(filed("a", logOf(inStore(1))), moveOp("a", "log")), inStore(1))
	for name, d := range map[string]impl.Disk{
		"no file":                 {},
		"other files":             diskOf(filed("LOG", "", "lo", "", "log.new", logOf(inStore(2)), "log2", "")),
		"a log that is gone":      diskOf(filed("log", logOf(inStore(2))), dropOp("log")),
		"one with another name":   diskOf(filed("log", logOf(inStore(2))), moveOp("log", "log.new")),
		"60 files without a log ": diskOf(manyFiles(60, 9)),
	} {
		if l, code := impl.StoreView(d); code != impl.StNone || len(l) != 0 {
			t.Errorf("%s: %v, %d", name, l, code)
		}
	}
	for name, d := range wrongDisks() {
		if l, code := impl.StoreView(d); code != impl.StDisk || len(l) != 0 {
			t.Errorf("%s: %v, %d", name, l, code)
		}
	}
}

// wrongEntries do not count behind two samples that do, of which the last one is at 20.
func wrongEntries() map[string]string {
	third := inStore(3)[2]
	l := map[string]string{
		"a number that was there":    entry(1, third),
		"a number that is left out":  entry(3, third),
		"the first number":           entry(0, third),
		"At as the one ahead":        entry(2, impl.Sample{At: 20}),
		"At ahead of the one ahead":  entry(2, impl.Sample{At: 19}),
		"At ahead of all":            entry(2, impl.Sample{At: 0}),
		"no number":                  framed(sampleText(third)),
		"a number and no sample":     framed("2 "),
		"a number alone":             framed("2"),
		"nothing":                    framed(""),
		"a blank alone":              framed(" "),
		"two blanks":                 framed("2  " + sampleText(third)),
		"a blank ahead":              framed(" 2 " + sampleText(third)),
		"a blank behind":             framed("2 " + sampleText(third) + " "),
		"one number more":            framed("2 " + sampleText(third) + " 1"),
		"one number less":            framed("2 1 2 30"),
		"noughts ahead of a number":  framed("02 " + sampleText(third)),
		"a sign ahead of a number":   framed("+2 " + sampleText(third)),
		"a number below nought":      framed("-2 " + sampleText(third)),
		"a number that would wrap":   framed("18446744073709551618 " + sampleText(third)),
		"noughts ahead in a sample":  framed("2 1 2 3 030"),
		"words":                      framed("2 a b c d"),
		"a letter for a number":      framed("b " + sampleText(third)),
		"no frame":                   "2 " + sampleText(third),
		"a frame with a wrong CRC":   framed("2 " + sampleText(third))[:8] + "2 " + sampleText(inStore(4)[3]),
		"a frame that is cut":        entry(2, third)[:len(entry(2, third))-1],
		"a frame that is too long":   framed("2 " + sampleText(third) + strings.Repeat(" ", maxFrameBytes)),
		"one byte":                   "\x00",
		"a frame with another's end": entry(2, third)[:12],
	}
	for i, s := range wrongSamples() {
		l[fmt.Sprintf("no sample, %d", i)] = entry(2, s)
	}
	return l
}

func TestWhatDoesNotCount(t *testing.T) {
	fourth := inStore(4)[3]
	for name, wrong := range wrongEntries() {
		for _, behind := range []string{"", entry(2, fourth), entry(3, fourth), wrong[:min(len(wrong), 40)]} {
			if name == "a frame with another's end" && behind != "" {
				continue
			}
			log := logOf(inStore(2)) + wrong + behind
			if l, counted := countedOf(log); len(l) != 2 || counted != logOf(inStore(2)) {
				t.Fatalf("%s: %v are asked for", name, l)
			}
			d := diskOf(filed("log", log))
			sees(t, d, inStore(2))
			does(t, name, d, addAct(99), impl.StTorn)
			opened := does(t, name, d, act(impl.AcOpen), impl.StOk)
			if !sameDisk(opened, stored(2)) {
				t.Errorf("%s: %+v", name, opened)
			}
			sees(t, does(t, name, opened, addAct(99), impl.StOk), append(inStore(2), addAct(99).S))
		}
	}
	// The first one of all may be at 0, and its number is 0.
	sees(t, diskOf(filed("log", entry(0, impl.Sample{}))), []impl.Sample{{}})
	sees(t, diskOf(filed("log", entry(1, impl.Sample{}))), nil)
	sees(t, diskOf(filed("log", "x"+entry(0, impl.Sample{}))), nil)
}

func TestAcNew(t *testing.T) {
	a := act(impl.AcNew)
	d := does(t, "no file", impl.Disk{}, a, impl.StOk)
	if !sameDisk(d, stored(0)) {
		t.Errorf("%+v", d)
	}
	sees(t, d, nil)
	other := diskOf(filed("a", "x"), putOp("log.new", "y"), putOp("b", ""))
	d = does(t, "other files", other, a, impl.StOk)
	if !sameDisk(d, diskOf(filed("a", "x", "b", "", "log", "", "log.new", "y"))) {
		t.Errorf("%+v", d)
	}
	does(t, "a log that is gone", diskOf(filed("log", "x"), dropOp("log")), a, impl.StOk)
	for _, there := range []impl.Disk{stored(0), stored(1), stored(maxStored), tornStore(3), diskOf(nil, putOp("log", ""))} {
		does(t, "a log that is there", there, a, impl.StForm)
		does(t, "a log that is there, without power", there, withPower(a, 0), impl.StForm)
	}
	does(t, "60 files", diskOf(manyFiles(60, 0)), a, impl.StFull)
	does(t, "59 files", diskOf(manyFiles(59, 0)), a, impl.StOk)
	puts200 := slices.Repeat([]impl.DOp{putOp("a", "x")}, impl.MaxOps)
	does(t, "200 ops", diskOf(nil, puts200...), a, impl.StFull)
	does(t, "199 ops", diskOf(nil, puts200[1:]...), a, impl.StOk)
	does(t, "200 ops, and power for one", diskOf(nil, puts200...), withPower(a, 1), impl.StFull)
	does(t, "200 ops, without power", diskOf(nil, puts200...), withPower(a, 0), impl.StPower)
	does(t, "200000 bytes", diskOf(filed("a", strings.Repeat("x", impl.MaxBytes))), a, impl.StOk)
}

func TestAcNewWithPower(t *testing.T) {
	a := act(impl.AcNew)
	d := does(t, "0", diskOf(filed("a", "x")), withPower(a, 0), impl.StPower)
	if !sameDisk(d, diskOf(filed("a", "x"))) {
		t.Errorf("%+v", d)
	}
	d = does(t, "1", diskOf(filed("a", "x")), withPower(a, 1), impl.StPower)
	if !sameDisk(d, diskOf(filed("a", "x"), putOp("log", ""))) {
		t.Errorf("%+v", d)
	}
	for _, power := range []int64{2, 3, 100, math.MaxInt64, -1, -2, math.MinInt64} {
		d = does(t, "enough", diskOf(filed("a", "x")), withPower(a, power), impl.StOk)
		if !sameDisk(d, diskOf(filed("a", "x", "log", ""))) {
			t.Errorf("%+v", d)
		}
	}
}

func TestAcAdd(t *testing.T) {
	for _, count := range []int{0, 1, 2, 10, 11, 100, 199} {
		at := int64(10*count + 1)
		d := does(t, "an add", stored(count), addAct(at), impl.StOk)
		one := putOp("log", entry(count, addAct(at).S))
		if !sameDisk(d, diskOf(filed("log", logOf(inStore(count))), one)) {
			t.Errorf("%d: %+v", count, d)
		}
		sees(t, d, append(inStore(count), addAct(at).S))
		a := addAct(at)
		a.Sync = true
		d = does(t, "an add with a Sync", stored(count), a, impl.StOk)
		if !sameDisk(d, diskOf(filed("log", logOf(inStore(count))+one.Data))) {
			t.Errorf("%d: %+v", count, d)
		}
	}
	bounds := impl.Act{Kind: impl.AcAdd, S: impl.Sample{Offset: -maxOffset, Delay: maxDelay, Disp: maxDisp, At: impl.MaxTime}, Power: allSteps}
	d := does(t, "at its bounds", stored(2), bounds, impl.StOk)
	sees(t, d, append(inStore(2), bounds.S))
	does(t, "behind the last time", d, bounds, impl.StNot)
	sees(t, does(t, "at 0", stored(0), addAct(0), impl.StOk), []impl.Sample{{}})
}

func TestAcAddRefuses(t *testing.T) {
	two := stored(2)
	for _, s := range wrongSamples() {
		wrong := impl.Act{Kind: impl.AcAdd, S: s, Power: allSteps}
		does(t, "no sample", two, wrong, impl.StForm)
		does(t, "no sample, a torn log", tornStore(2), wrong, impl.StForm)
		does(t, "no sample, a full log", stored(maxStored), wrong, impl.StForm)
		does(t, "no sample, no log", impl.Disk{}, wrong, impl.StNone)
		does(t, "no sample, no power", two, withPower(wrong, 0), impl.StForm)
	}
	does(t, "no log", impl.Disk{}, addAct(1), impl.StNone)
	does(t, "no log, no power", impl.Disk{}, withPower(addAct(1), 0), impl.StNone)
	does(t, "a log that is gone", diskOf(filed("log", "", "log.new", ""), dropOp("log")), addAct(1), impl.StNone)
	for _, at := range []int64{0, 1, 19, 20} {
		does(t, "not later", two, addAct(at), impl.StNot)
		does(t, "not later, no power", two, withPower(addAct(at), 0), impl.StNot)
		does(t, "not later, a torn log", tornStore(2), addAct(at), impl.StTorn)
	}
	does(t, "later", two, addAct(21), impl.StOk)
	does(t, "a torn log", tornStore(0), addAct(1), impl.StTorn)
	does(t, "a torn log, no power", tornStore(2), withPower(addAct(99), 0), impl.StTorn)
	does(t, "200 samples", stored(maxStored), addAct(2001), impl.StFull)
	does(t, "200 samples, no power", stored(maxStored), withPower(addAct(2001), 0), impl.StFull)
	does(t, "200 samples, not later", stored(maxStored), addAct(2000), impl.StNot)
	does(t, "200 samples, a torn log", tornStore(maxStored), addAct(2001), impl.StTorn)
	does(t, "201 frames", diskOf(filed("log", logOf(inStore(201)))), addAct(9999), impl.StTorn)
	does(t, "199 samples", stored(199), addAct(2001), impl.StOk)
}

// An add that a step refuses leaves the disk as it was, with a Sync, too.
func TestAcAddWhereItIsFull(t *testing.T) {
	a := addAct(99)
	size := len(entry(2, a.S))
	log := logOf(inStore(2))
	for _, sync := range []bool{false, true} {
		a.Sync = sync
		some := slices.Repeat([]impl.DOp{putOp("a", "")}, impl.MaxOps)
		does(t, "200 ops", diskOf(filed("log", log), some...), a, impl.StFull)
		does(t, "200 ops, no power", diskOf(filed("log", log), some...), withPower(a, 0), impl.StPower)
		does(t, "199 ops", diskOf(filed("log", log), some[1:]...), a, impl.StOk)
		room := impl.MaxBytes - len(log) - size
		does(t, "200000 bytes", diskOf(filed("a", strings.Repeat("x", room), "log", log)), a, impl.StOk)
		does(t, "200001 bytes", diskOf(filed("a", strings.Repeat("x", room+1), "log", log)), a, impl.StFull)
		does(t, "60 files", diskOf(append(manyFiles(59, 0), impl.File{Name: "log", Data: log})), a, impl.StOk)
	}
}

func TestAcAddWithPower(t *testing.T) {
	a := addAct(99)
	before, put := stored(2), putOp("log", entry(2, a.S))
	not := before
	seen := diskOf(before.Safe, put)
	safe := diskOf(seen.Live)
	for _, x := range []struct {
		sync  bool
		power int64
		code  int64
		want  impl.Disk
	}{
		{false, 0, impl.StPower, not}, {false, 1, impl.StOk, seen}, {false, 2, impl.StOk, seen}, {false, -1, impl.StOk, seen},
		{true, 0, impl.StPower, not}, {true, 1, impl.StPower, seen}, {true, 2, impl.StOk, safe}, {true, 3, impl.StOk, safe},
		{true, -1, impl.StOk, safe}, {true, math.MinInt64, impl.StOk, safe}, {true, math.MaxInt64, impl.StOk, safe},
	} {
		a.Sync = x.sync
		if d := does(t, "an add", before, withPower(a, x.power), x.code); !sameDisk(d, x.want) {
			t.Errorf("%v, %d: %+v", x.sync, x.power, d)
		}
	}
}

// A log that is good needs no step, whatever else is on the disk.
func TestAcOpenOfAGoodLog(t *testing.T) {
	for _, d := range []impl.Disk{
		stored(0), stored(1), stored(maxStored),
		diskOf(filed("log", logOf(inStore(2)), "log.new", "stale")),
		diskOf(filed("log", ""), putOp("log", logOf(inStore(2))), putOp("a", "x")),
		diskOf(filed("log", ""), puts0(impl.MaxOps)...),
		diskOf(append(manyFiles(59, 0), impl.File{Name: "log"})),
	} {
		for _, power := range []int64{0, 1, 5, -1} {
			if got := does(t, "a good log", d, withPower(act(impl.AcOpen), power), impl.StOk); !sameDisk(got, d) {
				t.Errorf("%+v is not %+v", got, d)
			}
		}
	}
}

// puts0 are as many ops that put nothing into a file.
func puts0(count int) []impl.DOp {
	return slices.Repeat([]impl.DOp{putOp("a", "")}, count)
}

// Each number of steps of an open, with a log.new that is there, safe or not, and without one.
func TestAcOpenWithPower(t *testing.T) {
	log, good := logOf(inStore(2))+"torn", logOf(inStore(2))
	put, drop, move := putOp("log.new", good), dropOp("log.new"), moveOp("log.new", "log")
	both := filed("log", log, "log.new", good)
	for _, x := range []struct {
		name string
		d    impl.Disk
		want []impl.Disk
	}{
		{"without log.new", diskOf(filed("log", log)), []impl.Disk{
			diskOf(filed("log", log)), diskOf(filed("log", log), put), diskOf(both), diskOf(both, move), stored(2),
		}},
		{"with log.new", diskOf(filed("log", log, "log.new", "stale")), []impl.Disk{
			diskOf(filed("log", log, "log.new", "stale")), diskOf(filed("log", log, "log.new", "stale"), drop),
			diskOf(filed("log", log, "log.new", "stale"), drop, put), diskOf(both), diskOf(both, move), stored(2),
		}},
		{"with one that is not safe", diskOf(filed("log", log), putOp("log.new", "x")), []impl.Disk{
			diskOf(filed("log", log), putOp("log.new", "x")), diskOf(filed("log", log), putOp("log.new", "x"), drop),
			diskOf(filed("log", log), putOp("log.new", "x"), drop, put), diskOf(both), diskOf(both, move), stored(2),
		}},
		{"a torn end that is not safe", diskOf(filed("log", good), putOp("log", "torn")), []impl.Disk{
			diskOf(filed("log", good), putOp("log", "torn")), diskOf(filed("log", good), putOp("log", "torn"), put), diskOf(both), diskOf(both, move), stored(2),
		}},
	} {
		for power, want := range x.want {
			code := int64(impl.StPower)
			if power == len(x.want)-1 {
				code = impl.StOk
			}
			if got := does(t, x.name, x.d, withPower(act(impl.AcOpen), int64(power)), code); !sameDisk(got, want) {
				t.Errorf("%s, %d: %+v, not %+v", x.name, power, got, want)
			}
		}
		for _, power := range []int64{6, math.MaxInt64, -1, math.MinInt64} {
			if got := does(t, x.name, x.d, withPower(act(impl.AcOpen), power), impl.StOk); !sameDisk(got, stored(2)) {
				t.Errorf("%s, %d: %+v", x.name, power, got)
			}
		}
	}
}

func TestAcOpenRefuses(t *testing.T) {
	a := act(impl.AcOpen)
	does(t, "no log", impl.Disk{}, a, impl.StNone)
	does(t, "no log, no power", impl.Disk{}, withPower(a, 0), impl.StNone)
	does(t, "log.new alone", diskOf(filed("log.new", logOf(inStore(2)))), a, impl.StNone)
	good := logOf(inStore(2))
	torn := impl.File{Name: "log", Data: good + "torn"}
	does(t, "60 files", diskOf(append(manyFiles(59, 0), torn)), a, impl.StFull)
	does(t, "60 files, no power", diskOf(append(manyFiles(59, 0), torn)), withPower(a, 0), impl.StPower)
	does(t, "59 files", diskOf(append(manyFiles(58, 0), torn)), a, impl.StOk)
	does(t, "60 files with log.new", diskOf(append(manyFiles(58, 0), torn, impl.File{Name: "log.new"})), a, impl.StOk)
	room := impl.MaxBytes - 2*len(good) - len("torn")
	fill := func(bytes int) impl.File { return impl.File{Name: "a", Data: strings.Repeat("x", bytes)} }
	does(t, "200000 bytes", diskOf([]impl.File{fill(room), torn}), a, impl.StOk)
	does(t, "200001 bytes", diskOf([]impl.File{fill(room + 1), torn}), a, impl.StFull)
	does(t, "200001 bytes with log.new", diskOf([]impl.File{fill(room - 6), torn, {Name: "log.new", Data: "7 more"}}), a, impl.StOk)
	does(t, "200001 bytes behind a remove", diskOf([]impl.File{fill(room + 1), torn, {Name: "log.new", Data: "7 more"}}), a, impl.StFull)
	for _, x := range []struct {
		new  string
		ops  int
		code int64
	}{{"", 200, impl.StFull}, {"", 199, impl.StOk}, {"stale", 200, impl.StFull}, {"stale", 199, impl.StFull}, {"stale", 198, impl.StOk}} {
		files := []impl.File{torn}
		if x.new != "" {
			files = append(files, impl.File{Name: "log.new", Data: x.new})
		}
		does(t, fmt.Sprint(x.ops, " ops"), diskOf(files, puts0(x.ops)...), a, x.code)
	}
}

func TestAcCrashByHand(t *testing.T) {
	first := inStore(4)
	d := stored(1)
	for _, s := range first[1:] {
		d = does(t, "an add", d, impl.Act{Kind: impl.AcAdd, S: s, Power: allSteps}, impl.StOk)
	}
	size := int64(len(entry(3, first[3])))
	for _, x := range []struct {
		name string
		keep []int64
		torn int64
		want int
	}{
		{"none", nil, 0, 1},
		{"the first", []int64{0}, size, 2},
		{"the second alone", []int64{1}, size, 1},
		{"the third alone", []int64{2}, size, 1},
		{"the first and the third", []int64{0, 2}, size, 2},
		{"the first and the second", []int64{0, 1}, size, 3},
		{"all", []int64{0, 1, 2}, size, 4},
		{"all, and beyond", []int64{0, 1, 2}, math.MaxInt64, 4},
		{"all but the last byte", []int64{0, 1, 2}, size - 1, 3},
		{"all but the last frame's data", []int64{0, 1, 2}, 8, 3},
		{"one byte of the last frame", []int64{0, 1, 2}, 1, 3},
		{"nothing of the last frame", []int64{0, 1, 2}, 0, 3},
	} {
		a := impl.Act{Kind: impl.AcCrash, Keep: x.keep, Torn: x.torn, Power: allSteps}
		got := does(t, x.name, d, a, impl.StOk)
		if !sameDisk(got, stored(x.want)) {
			t.Errorf("%s: %+v", x.name, got)
		}
		sees(t, does(t, x.name, got, addAct(99), impl.StOk), append(inStore(x.want), addAct(99).S))
	}
}

// What a log was torn to, is gone, or never was; where the answer is a refusal the disk is as it was behind Crash.
func TestAcCrashBehindCrash(t *testing.T) {
	a := act(impl.AcCrash)
	keep := func(l ...int64) impl.Act {
		return impl.Act{Kind: impl.AcCrash, Keep: l, Torn: 9, Power: allSteps}
	}
	same := func(name string, got impl.Disk, want impl.Disk) {
		t.Helper()
		if !sameDisk(got, want) {
			t.Errorf("%s: %+v, not %+v", name, got, want)
		}
	}
	same("torn", does(t, "torn", tornStore(2), a, impl.StOk), stored(2))
	same("torn to nothing", does(t, "torn to nothing", tornStore(0), a, impl.StOk), stored(0))
	same("torn by what was kept", does(t, "torn", diskOf(stored(2).Safe, putOp("log", "torn")), keep(0), impl.StOk), stored(2))
	same("never there", does(t, "never there", impl.Disk{}, a, impl.StNone), impl.Disk{})
	same("never safe", does(t, "never safe", diskOf(nil, putOp("log", ""), putOp("a", "x")), keep(1), impl.StNone), diskOf(filed("a", "x")))
	same("there by what was kept", does(t, "kept", diskOf(nil, putOp("log", "")), keep(0), impl.StOk), stored(0))
	same("gone", does(t, "gone", diskOf(stored(2).Safe, dropOp("log")), keep(0), impl.StNone), impl.Disk{})
	same("not gone", does(t, "not gone", diskOf(stored(2).Safe, dropOp("log")), a, impl.StOk), stored(2))
	same("gone, no power", does(t, "gone", diskOf(stored(2).Safe, dropOp("log")), withPower(keep(0), 0), impl.StNone), impl.Disk{})
	files := append(manyFiles(59, 0), tornStore(2).Safe...)
	same("60 files", does(t, "60 files", diskOf(files, puts0(0)...), a, impl.StFull), diskOf(files))
	cleared := diskOf(files, dropOp("fAa"), putOp("log", "more"))
	same("60 files, again", does(t, "60 files, again", cleared, keep(1), impl.StFull), diskOf(append(manyFiles(59, 0), impl.File{Name: "log", Data: logOf(inStore(2)) + "tornmore"})))
	same("59 files, again", does(t, "59 files, again", cleared, keep(0), impl.StOk), diskOf(append(manyFiles(59, 0)[1:], stored(2).Safe...)))
	same("what was asked for besides", does(t, "other fields", stored(2), impl.Act{Kind: impl.AcCrash, S: impl.Sample{At: -1}, Sync: true, Power: 0}, impl.StOk), stored(2))
}

func TestAcCrashRefuses(t *testing.T) {
	d := diskOf(tornStore(2).Safe, putOp("a", "x"), dropOp("a"), putOp("log", "y"))
	for _, keep := range [][]int64{{-1}, {3}, {0, 0}, {1, 0}, {0, 1, 2, 3}, {math.MaxInt64}, {math.MinInt64}} {
		a := impl.Act{Kind: impl.AcCrash, Keep: keep, Torn: 9, Power: allSteps}
		does(t, "keep", d, a, impl.StForm)
		does(t, "keep, no power", d, withPower(a, 0), impl.StForm)
		if got, _ := impl.StoreDo(d, a); !sameDisk(got, d) {
			t.Errorf("%v: %+v", keep, got)
		}
		does(t, "keep, no log", impl.Disk{}, a, impl.StForm)
	}
	for _, torn := range []int64{-1, math.MinInt64} {
		does(t, "torn", d, impl.Act{Kind: impl.AcCrash, Torn: torn, Power: allSteps}, impl.StForm)
		does(t, "torn, no log", impl.Disk{}, impl.Act{Kind: impl.AcCrash, Torn: torn, Power: allSteps}, impl.StForm)
	}
	full := strings.Repeat("x", impl.MaxBytes-100)
	bytes := diskOf(stored(1).Safe, putOp("a", full), dropOp("a"), putOp("b", full))
	does(t, "too many bytes", bytes, impl.Act{Kind: impl.AcCrash, Keep: []int64{0, 2}, Torn: 9999, Power: allSteps}, impl.StForm)
	does(t, "not too many", bytes, impl.Act{Kind: impl.AcCrash, Keep: []int64{0, 2}, Torn: 1, Power: allSteps}, impl.StOk)
}

func TestAcCrashWithPower(t *testing.T) {
	d := diskOf(tornStore(2).Safe, putOp("log.new", "stale"), putOp("a", "x"))
	for _, keep := range subsets(2) {
		steps := int64(4)
		if slices.Contains(keep, 0) {
			steps = 5 // There is a log.new to be removed.
		}
		for power := range int64(7) {
			code := int64(impl.StPower)
			if power >= steps {
				code = impl.StOk
			}
			does(t, "a crash", d, impl.Act{Kind: impl.AcCrash, Keep: keep, Torn: 3, Power: power}, code)
		}
	}
}

func TestStoreDoRefuses(t *testing.T) {
	for _, kind := range []int64{0, -1, 5, 6, math.MinInt64, math.MaxInt64, 1 + 1<<32} {
		for _, d := range []impl.Disk{{}, stored(2), tornStore(2), diskOf(nil, puts0(200)...)} {
			a := act(kind)
			a.S = impl.Sample{At: 99}
			does(t, "no Kind", d, a, impl.StForm)
			does(t, "no Kind, no power", d, withPower(a, 0), impl.StForm)
		}
	}
	for name, d := range wrongDisks() {
		for kind := range int64(6) {
			a := act(kind)
			if got, code := impl.StoreDo(d, a); code != impl.StDisk || !noDisk(got) {
				t.Errorf("%s, %d: %+v, %d", name, kind, got, code)
			}
		}
	}
}

// someAct mostly adds; what else there is in an act does not matter.
func someAct(r *rand.Rand, d impl.Disk, at int64) impl.Act {
	a := impl.Act{Kind: impl.AcAdd, S: impl.Sample{Offset: r.Int63n(9) - 4, At: at}, Sync: r.Intn(3) == 0, Power: r.Int63n(9) - 1}
	switch r.Intn(12) {
	case 0:
		a.Kind = r.Int63n(6)
	case 1:
		a.Kind = impl.AcNew
	case 2:
		a.Kind = impl.AcOpen
	case 3, 4, 5:
		a.Kind = impl.AcCrash
		for place := range int64(len(d.Ops)) {
			if r.Intn(4) > 0 {
				a.Keep = append(a.Keep, place)
			}
		}
		a.Torn = r.Int63n(24)
	case 6:
		a.S.At = r.Int63n(at+2) - 1
	}
	if r.Intn(60) == 0 {
		a.Keep, a.Torn = append(a.Keep, r.Int63n(4)), r.Int63n(9)-4
	}
	return a
}

func TestStoreDo(t *testing.T) {
	r := rand.New(rand.NewSource(113))
	count := map[int64]int{}
	for range 400 {
		d := impl.Disk{}
		if r.Intn(3) == 0 {
			d = someDisk(r, r.Intn(4))
		}
		for at := range int64(40) {
			if r.Intn(20) == 0 {
				op := []impl.DOp{putOp("log", "x"), dropOp("log"), putOp("log.new", "y"), moveOp("log", "a"), moveOp("a", "log")}[r.Intn(5)]
				d, _ = didOp(d, op)
			}
			a := someAct(r, d, at+1)
			want, code := actedOn(d, a)
			got, c := impl.StoreDo(d, a)
			if c != code || !sameDisk(got, want) || !impl.DiskOk(got) {
				t.Fatalf("%+v, %+v: %+v, %d, not %d", d, a, got, c, code)
			}
			if l, counted := impl.StoreView(got); counted == impl.StOk {
				log, _ := impl.ReadFile(got, "log")
				if m, _ := countedOf(log); !slices.Equal(l, m) {
					t.Fatalf("%q: %v, not %v", log, l, m)
				}
			}
			count[c]++
			d = got
		}
	}
	for _, code := range []int64{impl.StOk, impl.StNone, impl.StForm, impl.StPower, impl.StTorn, impl.StNot} {
		if count[code] < 100 {
			t.Errorf("too few of %d: %v", code, count)
		}
	}
}

func TestStorePlay(t *testing.T) {
	r := rand.New(rand.NewSource(114))
	for range 300 {
		start := someDisk(r, r.Intn(4))
		list, want, codes := []impl.Act{}, start, []int64{}
		for at := range r.Int63n(30) {
			a := someAct(r, want, at)
			code := int64(0)
			want, code = actedOn(want, a)
			list, codes = append(list, a), append(codes, code)
		}
		d, got := impl.StorePlay(start, list)
		if !slices.Equal(got, codes) || !sameDisk(d, want) {
			t.Fatalf("%+v, %+v: %+v, %v, not %v", start, list, d, got, codes)
		}
	}
	for name, d := range wrongDisks() {
		if got, codes := impl.StorePlay(d, []impl.Act{act(impl.AcNew), addAct(1)}); !noDisk(got) || len(codes) != 0 {
			t.Errorf("%s: %+v, %v", name, got, codes)
		}
		if got, codes := impl.StorePlay(d, nil); !noDisk(got) || len(codes) != 0 {
			t.Errorf("%s: %+v, %v", name, got, codes)
		}
	}
	if d, codes := impl.StorePlay(tornStore(2), nil); !sameDisk(d, tornStore(2)) || len(codes) != 0 {
		t.Error(d, codes)
	}
}

// As many samples as there may be, and more; then all of it is gone but what was safe.
func TestStorePlayOfALongLog(t *testing.T) {
	list := []impl.Act{act(impl.AcNew)}
	for _, s := range inStore(203) {
		list = append(list, impl.Act{Kind: impl.AcAdd, S: s, Sync: s.At%1000 == 0, Power: allSteps})
	}
	d, codes := impl.StorePlay(impl.Disk{}, list)
	want := append(slices.Repeat([]int64{impl.StOk}, 201), impl.StFull, impl.StFull, impl.StFull)
	if !slices.Equal(codes, want) || !sameDisk(d, stored(maxStored)) {
		t.Error(codes)
	}
	d, codes = impl.StorePlay(impl.Disk{}, append(list[:190:190], act(impl.AcCrash)))
	if codes[190] != impl.StOk || !sameDisk(d, stored(100)) {
		t.Error(codes)
	}
}

// Promise 11, asked of the program alone: whatever is kept of what was not safe, and however often power is lost, and
// between whichever steps, what is there begins with what was safe, and goes on with some first ones of the others.
func TestWhatIsThereBehindALossOfPower(t *testing.T) {
	for safe := range 3 {
		for since := range 4 {
			for _, files := range [][]impl.File{nil, filed("log.new", logOf(inStore(6)))} {
				d := diskOf(append(filed("log", logOf(inStore(safe))), files...))
				for _, s := range inStore(safe + since)[safe:] {
					d, _ = impl.StoreDo(d, impl.Act{Kind: impl.AcAdd, S: s, Power: allSteps})
				}
				sees(t, d, inStore(safe+since))
				losePower(t, d, 2, safe, safe+since)
			}
		}
	}
}

// losePower loses power in each way, as often as told, at least that many samples being there in the end, and at most.
func losePower(t *testing.T, d impl.Disk, times int, least int, most int) {
	for _, keep := range subsets(len(d.Ops)) {
		for _, torn := range []int64{0, 1, 7, 8, 9, 15, 99} {
			for power := range int64(6) {
				left, code := impl.StoreDo(d, impl.Act{Kind: impl.AcCrash, Keep: keep, Torn: torn, Power: power})
				l, told := impl.StoreView(left)
				if told != impl.StOk || len(l) < least || len(l) > most || !slices.Equal(l, inStore(len(l))) {
					t.Fatalf("%+v, %v, %d, %d: %v, %d", d, keep, torn, power, l, told)
				}
				if code == impl.StPower && times > 1 {
					// What a loss of power left is safe, so the next one leaves just that.
					losePower(t, left, times-1, len(l), len(l))
				}
				opened, code := impl.StoreDo(left, act(impl.AcOpen))
				again, told := impl.StoreView(opened)
				if code != impl.StOk || told != impl.StOk || !slices.Equal(again, l) {
					t.Fatalf("%+v, %v, %d, %d: %v, and then %v, %d", d, keep, torn, power, l, again, code)
				}
			}
		}
	}
}

// The same for any play: adds that are synced or not, each with any power, and losses of power in between.
func TestWhatIsThereBehindAnyPlay(t *testing.T) {
	r := rand.New(rand.NewSource(115))
	lost := 0
	for range 1500 {
		d, _ := impl.StoreDo(impl.Disk{}, act(impl.AcNew))
		all, safe := []impl.Sample{}, 0
		for at := range int64(20) {
			a := someAct(r, d, at)
			before := all
			got, code := impl.StoreDo(d, a)
			l, told := impl.StoreView(got)
			if told != impl.StOk {
				t.Fatalf("%+v, %+v: %d", d, a, told)
			}
			if a.Kind == impl.AcCrash && code != impl.StForm {
				if len(l) < safe || len(l) > len(before) || !slices.Equal(l, before[:len(l)]) {
					t.Fatalf("%+v, %+v: %v of %v, %d", d, a, l, before, safe)
				}
				lost += len(before) - len(l)
				safe = len(l)
			} else if len(l) < len(before) || len(l) > len(before)+1 || !slices.Equal(l[:len(before)], before) {
				t.Fatalf("%+v, %+v: %v behind %v", d, a, l, before)
			}
			if code == impl.StOk && a.Kind == impl.AcAdd && a.Sync {
				safe = len(l)
			}
			all, d = l, got
		}
	}
	if lost < 1000 {
		t.Error("too few samples are lost:", lost)
	}
}

// A new log that is not yet safe may be gone, but none is there with samples in it.
func TestWhatIsThereOfANewLog(t *testing.T) {
	for power := range int64(3) {
		d, _ := impl.StoreDo(diskOf(filed("a", "x")), withPower(act(impl.AcNew), power))
		for _, keep := range subsets(len(d.Ops)) {
			left, code := impl.StoreDo(d, impl.Act{Kind: impl.AcCrash, Keep: keep, Power: allSteps})
			l, told := impl.StoreView(left)
			there := power == 2 || len(keep) == 1
			if there && (code != impl.StOk || told != impl.StOk) || !there && (code != impl.StNone || told != impl.StNone) || len(l) != 0 {
				t.Errorf("%d, %v: %v, %d, %d", power, keep, l, code, told)
			}
		}
	}
}

func TestStoresAreOnlyRead(t *testing.T) {
	unsafe := diskOf(stored(1).Safe, putOp("log", entry(1, inStore(2)[1])), putOp("log", "x"))
	for _, start := range []impl.Disk{stored(2), tornStore(2), unsafe, {}} {
		for power := int64(-1); power < 7; power++ {
			room := []int64{0, 1, 2}
			keep := impl.Act{Kind: impl.AcCrash, Keep: room[:min(1, len(start.Ops))], Torn: 5, Power: power}
			list := []impl.Act{act(impl.AcNew), withPower(act(impl.AcOpen), power), addAct(99), addAct(20), keep, {Kind: 9}, addAct(500)}
			before := fmt.Sprint(list)
			onlyRead(t, start, func(d impl.Disk) []impl.Disk {
				return storeAnswers(d, list[:6])
			})
			if fmt.Sprint(list) != before || !slices.Equal(room, []int64{0, 1, 2}) {
				t.Fatal(list, room)
			}
		}
	}
}

// storeAnswers are the disks of each act, those of all of them, and one whose file tells what StoreView and StorePlay do.
func storeAnswers(d impl.Disk, acts []impl.Act) []impl.Disk {
	var l []impl.Disk
	for _, a := range acts {
		got, _ := impl.StoreDo(d, a)
		l = append(l, got)
	}
	all, codes := impl.StorePlay(d, acts)
	none, _ := impl.StorePlay(d, nil)
	samples, code := impl.StoreView(d)
	text := fmt.Sprint(samples, code, codes)
	clear(samples[:cap(samples)])
	clear(codes[:cap(codes)])
	return append(l, all, none, impl.Disk{Live: filed("told", text)})
}
