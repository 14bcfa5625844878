package tests

import (
	"maps"
	"math"
	"math/rand"
	"slices"
	"strings"
	"testing"

	"loop.example/g00656/impl"
)

const maxNameBytes = 100

func putOp(name string, data string) impl.DOp {
	return impl.DOp{Kind: impl.DkAppend, Name: name, Data: data}
}

func moveOp(name string, to string) impl.DOp {
	return impl.DOp{Kind: impl.DkRename, Name: name, To: to}
}

func dropOp(name string) impl.DOp {
	return impl.DOp{Kind: impl.DkRemove, Name: name}
}

// filed are files of these names and data, in turn.
func filed(words ...string) []impl.File {
	l := []impl.File{}
	for i := 0; i < len(words); i += 2 {
		l = append(l, impl.File{Name: words[i], Data: words[i+1]})
	}
	return l
}

// manyFiles have as many bytes each, under names that rise.
func manyFiles(count int, bytes int) []impl.File {
	l := []impl.File{}
	for i := range count {
		l = append(l, impl.File{Name: "f" + string(rune('A'+i/26)) + string(rune('a'+i%26)), Data: strings.Repeat("x", bytes)})
	}
	return l
}

// known has files as chapter 10 speaks of them, told without the program, as are the functions that take it.
type known map[string]string

func knownOf(l []impl.File) known {
	k := known{}
	for _, f := range l {
		k[f.Name] = f.Data
	}
	return k
}

func (k known) list() []impl.File {
	l := []impl.File{}
	for _, name := range slices.Sorted(maps.Keys(k)) {
		l = append(l, impl.File{Name: name, Data: k[name]})
	}
	return l
}

func (k known) right() bool {
	sum := 0
	for _, data := range k {
		sum += len(data)
	}
	return len(k) <= impl.MaxFiles && sum <= impl.MaxBytes
}

// after tells whether the op found its file.
func (k known) after(op impl.DOp) bool {
	data, found := k[op.Name]
	if op.Kind == impl.DkAppend {
		k[op.Name] = data + op.Data
		return true
	}
	if found {
		delete(k, op.Name)
	}
	if found && op.Kind == impl.DkRename {
		k[op.To] = data
	}
	return found
}

func formed(op impl.DOp) bool {
	named := func(s string) bool { return len(s) >= 1 && len(s) <= maxNameBytes }
	switch op.Kind {
	case impl.DkAppend:
		return named(op.Name) && op.To == ""
	case impl.DkRename:
		return named(op.Name) && named(op.To) && op.Data == ""
	case impl.DkRemove:
		return named(op.Name) && op.To == "" && op.Data == ""
	}
	return false
}

func didOp(d impl.Disk, op impl.DOp) (impl.Disk, int64) {
	k := knownOf(d.Live)
	switch {
	case !formed(op):
		return d, impl.DkForm
	case !k.after(op):
		return d, impl.DkNone
	case len(d.Ops) >= impl.MaxOps || !k.right():
		return d, impl.DkFull
	}
	return impl.Disk{Live: k.list(), Safe: d.Safe, Ops: append(slices.Clone(d.Ops), op)}, impl.DkOk
}

func crashed(d impl.Disk, keep []int64, torn int64) (impl.Disk, bool) {
	k := knownOf(d.Safe)
	for i, place := range keep {
		op := d.Ops[place]
		if i == len(keep)-1 && torn < int64(len(op.Data)) {
			op.Data = op.Data[:torn]
		}
		k.after(op)
	}
	if !k.right() {
		return impl.Disk{}, false
	}
	return impl.Disk{Live: k.list(), Safe: k.list()}, true
}

func replaced(d impl.Disk, name string, data string) (impl.Disk, int64) {
	ops := []impl.DOp{dropOp(name + ".new"), putOp(name+".new", data), moveOp(name+".new", name)}
	if _, found := knownOf(d.Live)[name+".new"]; !found {
		ops = ops[1:]
	}
	now := d
	for _, op := range ops {
		next, code := didOp(now, op)
		if code != impl.DkOk {
			return d, code
		}
		now = next
	}
	return now, impl.DkOk
}

// diskOf has those files safe, and the ops, each of which must be right, done on them.
func diskOf(safe []impl.File, ops ...impl.DOp) impl.Disk {
	k := knownOf(safe)
	for _, op := range ops {
		if !formed(op) || !k.after(op) || !k.right() {
			panic("a test's disk is not right")
		}
	}
	return impl.Disk{Live: k.list(), Safe: slices.Clone(safe), Ops: slices.Clone(ops)}
}

func sameDisk(a impl.Disk, b impl.Disk) bool {
	return slices.Equal(a.Live, b.Live) && slices.Equal(a.Safe, b.Safe) && slices.Equal(a.Ops, b.Ops)
}

func noDisk(d impl.Disk) bool {
	return sameDisk(d, impl.Disk{})
}

func cloneDisk(d impl.Disk) impl.Disk {
	return impl.Disk{Live: slices.Clone(d.Live), Safe: slices.Clone(d.Safe), Ops: slices.Clone(d.Ops)}
}

// someOp has few names, so that many are found, and is not of its form at times.
func someOp(r *rand.Rand) impl.DOp {
	names := []string{"a", "b", "a.new", "b.new", "c"}
	op := impl.DOp{Kind: 1 + r.Int63n(3), Name: names[r.Intn(len(names))]}
	switch op.Kind {
	case impl.DkAppend:
		op.Data = strings.Repeat(string(rune('p'+r.Intn(9))), r.Intn(4))
	case impl.DkRename:
		op.To = names[r.Intn(len(names))]
	}
	switch r.Intn(40) {
	case 0:
		op.Kind = r.Int63n(7) - 1
	case 1:
		op.To = []string{"", "c", strings.Repeat("n", 100), strings.Repeat("n", 101)}[r.Intn(4)]
	case 2:
		op.Data = []string{"", "d"}[r.Intn(2)]
	case 3:
		op.Name = []string{"", strings.Repeat("n", 100), strings.Repeat("n", 101)}[r.Intn(3)]
	}
	return op
}

func someDisk(r *rand.Rand, ops int) impl.Disk {
	d := impl.Disk{}
	for len(d.Ops) < r.Intn(6) {
		d, _ = didOp(d, someOp(r))
	}
	d = impl.Disk{Live: d.Live, Safe: d.Live}
	for range 20 * ops {
		if len(d.Ops) == ops {
			break
		}
		d, _ = didOp(d, someOp(r))
	}
	return cloneDisk(d)
}

// subsets are all lists of places of so many, rising.
func subsets(count int) [][]int64 {
	l := [][]int64{}
	for bits := range 1 << count {
		keep := []int64{}
		for place := range count {
			if bits>>place&1 == 1 {
				keep = append(keep, int64(place))
			}
		}
		l = append(l, keep)
	}
	return l
}

func allPlaces(count int) []int64 {
	l := []int64{}
	for place := range count {
		l = append(l, int64(place))
	}
	return l
}

// puts are as many ops, each of which puts a byte behind the log.
func puts(count int) []impl.DOp {
	return slices.Repeat([]impl.DOp{putOp("log", "x")}, count)
}

// wrongFiles are lists that no disk may have, neither as Live nor as Safe.
func wrongFiles() map[string][]impl.File {
	return map[string][]impl.File{
		"a name of no byte":             filed("", "x"),
		"a name of no byte, of more":    filed("", "x", "a", "y"),
		"a name of 101 bytes":           filed(strings.Repeat("n", 101), "x"),
		"a last name of 101 bytes":      filed("a", "", strings.Repeat("n", 101), "x"),
		"runes of more than 100 bytes":  filed(strings.Repeat("é", 51), "x"),
		"a name that is there twice":    filed("a", "x", "a", "x"),
		"two that are twice at the end": filed("a", "x", "b", "x", "b", "y"),
		"names that fall":               filed("b", "x", "a", "x"),
		"names that fall at the end":    filed("a", "x", "c", "x", "b", "x"),
		"as runes they rise, not so":    filed("\xff", "x", "é", "x"),
		"61 files":                      manyFiles(61, 0),
		"200 files":                     manyFiles(200, 1),
		"200001 bytes":                  filed("a", strings.Repeat("x", 200001)),
		"200001 bytes in two":           filed("a", strings.Repeat("x", 200000), "b", "y"),
		"200001 bytes in 60":            append(manyFiles(59, 3000), impl.File{Name: "g", Data: strings.Repeat("x", 23001)}),
	}
}

// wrongDisks are those with one thing that is not as chapter 10 says.
func wrongDisks() map[string]impl.Disk {
	l := map[string]impl.Disk{
		"Live is what was not done":        {Live: filed("a", "x")},
		"Live is without what is safe":     {Safe: filed("a", "x")},
		"Live has other data":              {Live: filed("a", "y"), Safe: filed("a", "x")},
		"Live has another name":            {Live: filed("b", "x"), Safe: filed("a", "x")},
		"Live has one more":                {Live: filed("a", "x", "b", ""), Safe: filed("a", "x")},
		"Live has one less":                {Live: filed("a", "x"), Safe: filed("a", "x", "b", "")},
		"Live is as ahead of the op":       {Ops: []impl.DOp{putOp("a", "")}},
		"Live is without the second op":    {Live: filed("a", "x"), Ops: []impl.DOp{putOp("a", "x"), putOp("a", "y")}},
		"Live has the ops in another turn": {Live: filed("a", "yx"), Ops: []impl.DOp{putOp("a", "x"), putOp("a", "y")}},
		"Live still has what is gone":      {Live: filed("a", "x"), Safe: filed("a", "x"), Ops: []impl.DOp{dropOp("a")}},
		"a remove that finds none":         {Ops: []impl.DOp{dropOp("a")}},
		"a rename that finds none":         {Ops: []impl.DOp{moveOp("a", "b")}},
		"a rename that finds none of two":  {Live: filed("b", "x"), Safe: filed("b", "x"), Ops: []impl.DOp{moveOp("a", "b")}},
		"a second remove":                  {Safe: filed("a", "x"), Ops: []impl.DOp{dropOp("a"), dropOp("a")}},
		"a remove behind a rename":         {Live: filed("b", "x"), Safe: filed("a", "x"), Ops: []impl.DOp{moveOp("a", "b"), dropOp("a")}},
		"201 ops":                          {Live: filed("log", strings.Repeat("x", 201)), Ops: puts(201)},
		"too many bytes in between":        {Safe: filed("a", strings.Repeat("x", 200000)), Live: filed("a", strings.Repeat("x", 200000)), Ops: []impl.DOp{putOp("b", "y"), dropOp("b")}},
		"too many bytes in one op":         {Ops: []impl.DOp{putOp("b", strings.Repeat("x", 200001)), dropOp("b")}},
		"too many files in between":        {Safe: manyFiles(60, 0), Live: manyFiles(60, 0), Ops: []impl.DOp{putOp("g", ""), dropOp("g")}},
	}
	for name, files := range wrongFiles() {
		l["both: "+name] = impl.Disk{Live: files, Safe: files}
		l["Live: "+name] = impl.Disk{Live: files, Safe: filed("a", "x")}
		l["Safe: "+name] = impl.Disk{Live: filed("a", "x"), Safe: files}
	}
	// A remove of all leaves files that are right, but the ones that were safe were not.
	l["Safe alone"] = impl.Disk{Safe: filed("a", "x", "a", "x"), Ops: []impl.DOp{dropOp("a")}}
	l["Safe alone, too long"] = impl.Disk{Safe: filed("a", strings.Repeat("x", 200001)), Ops: []impl.DOp{dropOp("a")}}
	for name, op := range wrongForms() {
		l["an op: "+name] = impl.Disk{Live: filed("a", "x"), Safe: filed("a", "x"), Ops: []impl.DOp{op}}
		// As what it would be if its form were not asked.
		k := knownOf(filed("a", "x"))
		k.after(op)
		l["an op that is done: "+name] = impl.Disk{Live: k.list(), Safe: filed("a", "x"), Ops: []impl.DOp{op}}
	}
	return l
}

func wrongForms() map[string]impl.DOp {
	long := strings.Repeat("n", 101)
	l := map[string]impl.DOp{
		"an append with To":                   {Kind: impl.DkAppend, Name: "a", To: "b", Data: "x"},
		"an append with its own name":         {Kind: impl.DkAppend, Name: "a", To: "a"},
		"a rename with Data":                  {Kind: impl.DkRename, Name: "a", To: "b", Data: "x"},
		"a rename to no name":                 {Kind: impl.DkRename, Name: "a"},
		"a rename to 101 bytes":               {Kind: impl.DkRename, Name: "a", To: long},
		"a remove with To":                    {Kind: impl.DkRemove, Name: "a", To: "b"},
		"a remove with Data":                  {Kind: impl.DkRemove, Name: "a", Data: "x"},
		"the zero value":                      {},
		"a rename of no name to one":          {Kind: impl.DkRename, To: "b"},
		"a rename of 101 bytes":               {Kind: impl.DkRename, Name: long, To: "b"},
		"a rename of 51 runes with 102 bytes": {Kind: impl.DkRename, Name: "a", To: strings.Repeat("é", 51)},
	}
	for _, kind := range []int64{0, -1, 4, 5, math.MinInt64, math.MaxInt64, 1 + 1<<32} {
		l["a Kind that is none: "+string(rune('A'+len(l)))] = impl.DOp{Kind: kind, Name: "a"}
	}
	for _, kind := range []int64{impl.DkAppend, impl.DkRename, impl.DkRemove} {
		to := ""
		if kind == impl.DkRename {
			to = "b"
		}
		l["no name: "+string(rune('A'+len(l)))] = impl.DOp{Kind: kind, To: to}
		l["101 bytes: "+string(rune('A'+len(l)))] = impl.DOp{Kind: kind, Name: long, To: to}
	}
	return l
}

// rightDisks are at the bounds, or have an op of each Kind.
func rightDisks() map[string]impl.Disk {
	full := strings.Repeat("x", impl.MaxBytes)
	wide := append(manyFiles(59, 3000), impl.File{Name: "g", Data: strings.Repeat("x", 23000)})
	return map[string]impl.Disk{
		"the zero value":                  {},
		"lists that are empty":            {Live: []impl.File{}, Safe: []impl.File{}, Ops: []impl.DOp{}},
		"60 files":                        diskOf(manyFiles(60, 0)),
		"60 files that were put":          diskOf(manyFiles(59, 0), putOp("g", "")),
		"59 files":                        diskOf(manyFiles(59, 7)),
		"names of 1 and of 100 bytes":     diskOf(filed("n", "x", strings.Repeat("n", 100), "y")),
		"an op with a name of 100 bytes":  diskOf(nil, putOp(strings.Repeat("n", 100), "y")),
		"a rename to 100 bytes":           diskOf(filed("n", "x"), moveOp("n", strings.Repeat("n", 100))),
		"any bytes as names":              diskOf(filed("\x00", "a", "\x00\x00", "b", "\n", "e", " ", "b", "..", "d", "/", "c", "A", "", "a", "", "aa", "", "b", "", "é", "f", "\xff", "g")),
		"200000 bytes":                    diskOf(filed("a", full)),
		"200000 bytes in 60":              diskOf(wide),
		"199999 bytes, and one more":      diskOf(filed("a", full[1:]), putOp("b", "y")),
		"200000 bytes, again and again":   diskOf(nil, putOp("b", full), dropOp("b"), putOp("b", full), moveOp("b", "a"), dropOp("a"), putOp("b", full)),
		"200 ops":                         diskOf(nil, puts(200)...),
		"199 ops":                         diskOf(filed("a", "x"), puts(199)...),
		"an append to what is there":      diskOf(filed("a", "x"), putOp("a", "y")),
		"an append of nothing":            diskOf(filed("a", "x"), putOp("a", "")),
		"an append of nothing to none":    diskOf(filed("a", "x"), putOp("b", "")),
		"a rename":                        diskOf(filed("a", "x"), moveOp("a", "b")),
		"a rename onto one that is there": diskOf(filed("a", "x", "b", "yy"), moveOp("a", "b")),
		"a rename onto its own name":      diskOf(filed("a", "x", "b", "yy"), moveOp("a", "a")),
		"a remove":                        diskOf(filed("a", "x", "b", "yy"), dropOp("a")),
		"a remove of all":                 diskOf(filed("a", "x"), dropOp("a")),
		"ops that leave what was there":   diskOf(filed("a", "x"), putOp("b", "x"), moveOp("b", "a")),
	}
}

func TestDiskOk(t *testing.T) {
	for name, d := range rightDisks() {
		if !impl.DiskOk(d) {
			t.Errorf("%s: it is not right", name)
		}
	}
	for name, d := range wrongDisks() {
		if impl.DiskOk(d) {
			t.Errorf("%s: it is right", name)
		}
	}
	r := rand.New(rand.NewSource(100))
	for range 3000 {
		d := someDisk(r, r.Intn(12))
		if !impl.DiskOk(d) {
			t.Fatalf("%+v is not right", d)
		}
		other := someDisk(r, 2)
		if right := slices.Equal(other.Live, d.Live); impl.DiskOk(impl.Disk{Live: other.Live, Safe: d.Safe, Ops: d.Ops}) != right {
			t.Fatalf("%+v with %+v is right, or not", d, other.Live)
		}
	}
}

// A Live that is not what the ops make, one bit of which is turned, is that of no right disk.
func TestDiskOkAsksEachByte(t *testing.T) {
	d := diskOf(filed("a", "xy", "b", "z"), putOp("b", "w"), moveOp("a", "c"), putOp("d", "v"))
	for i := range d.Live {
		for at := range len(d.Live[i].Data) {
			wrong := cloneDisk(d)
			data := []byte(wrong.Live[i].Data)
			data[at] ^= 1
			wrong.Live[i].Data = string(data)
			if impl.DiskOk(wrong) {
				t.Errorf("%+v is right", wrong)
			}
		}
		wrong := cloneDisk(d)
		wrong.Live = slices.Delete(wrong.Live, i, i+1)
		if impl.DiskOk(wrong) {
			t.Errorf("%+v is right", wrong)
		}
	}
}

func TestDoByHand(t *testing.T) {
	two := filed("a", "xx", "b", "y")
	for _, x := range []struct {
		name string
		op   impl.DOp
		want []impl.File
	}{
		{"an append that finds its file", putOp("a", "z"), filed("a", "xxz", "b", "y")},
		{"an append of nothing that finds it", putOp("a", ""), two},
		{"an append that finds none", putOp("ab", "z"), filed("a", "xx", "ab", "z", "b", "y")},
		{"an append ahead", putOp("A", "z"), filed("A", "z", "a", "xx", "b", "y")},
		{"an append behind", putOp("c", "z"), filed("a", "xx", "b", "y", "c", "z")},
		{"an append of nothing that finds none", putOp("c", ""), filed("a", "xx", "b", "y", "c", "")},
		{"an append of any bytes", putOp("\x00\xff", "\x00\n\xff"), filed("\x00\xff", "\x00\n\xff", "a", "xx", "b", "y")},
		{"a name of one byte", putOp(" ", "z"), filed(" ", "z", "a", "xx", "b", "y")},
		{"a name of 100 bytes", putOp(strings.Repeat("n", 100), "z"), filed("a", "xx", "b", "y", strings.Repeat("n", 100), "z")},
		{"a rename", moveOp("a", "c"), filed("b", "y", "c", "xx")},
		{"a rename to 100 bytes", moveOp("a", strings.Repeat("n", 100)), filed("b", "y", strings.Repeat("n", 100), "xx")},
		{"a rename ahead", moveOp("b", "A"), filed("A", "y", "a", "xx")},
		{"a rename onto one that is there", moveOp("a", "b"), filed("b", "xx")},
		{"a rename onto one that is ahead", moveOp("b", "a"), filed("a", "y")},
		{"a rename onto its own name", moveOp("a", "a"), two},
		{"a remove", dropOp("a"), filed("b", "y")},
		{"a remove of the last one", dropOp("b"), filed("a", "xx")},
	} {
		d, code := impl.Do(diskOf(two), x.op)
		if code != impl.DkOk || !sameDisk(d, impl.Disk{Live: x.want, Safe: two, Ops: []impl.DOp{x.op}}) || !impl.DiskOk(d) {
			t.Errorf("%s: %+v, %d", x.name, d, code)
		}
	}
	d, code := impl.Do(impl.Disk{}, putOp("a", ""))
	if code != impl.DkOk || !sameDisk(d, impl.Disk{Live: filed("a", ""), Ops: []impl.DOp{putOp("a", "")}}) {
		t.Error(d, code)
	}
	d, code = impl.Do(d, dropOp("a"))
	if code != impl.DkOk || !sameDisk(d, impl.Disk{Ops: []impl.DOp{putOp("a", ""), dropOp("a")}}) {
		t.Error(d, code)
	}
}

func notDone(t *testing.T, d impl.Disk, op impl.DOp, code int64) {
	t.Helper()
	if got, c := impl.Do(d, op); c != code || !sameDisk(got, d) {
		t.Errorf("%d, not %d, and %d files, %d safe, %d ops", c, code, len(got.Live), len(got.Safe), len(got.Ops))
	}
}

func TestDoRefuses(t *testing.T) {
	two := diskOf(filed("a", "xx", "b", "y"), putOp("c", "z"))
	for name, op := range wrongForms() {
		if d, code := impl.Do(two, op); code != impl.DkForm || !sameDisk(d, two) {
			t.Errorf("%s: %+v, %d", name, d, code)
		}
	}
	notDone(t, two, dropOp("d"), impl.DkNone)
	notDone(t, two, dropOp("aa"), impl.DkNone)
	notDone(t, two, moveOp("d", "a"), impl.DkNone)
	notDone(t, two, moveOp("d", "d"), impl.DkNone)
	notDone(t, impl.Disk{}, dropOp("a"), impl.DkNone)
	notDone(t, diskOf(filed("a", ""), dropOp("a")), dropOp("a"), impl.DkNone)
	notDone(t, diskOf(filed("a", ""), moveOp("a", "b")), moveOp("a", "b"), impl.DkNone)
	notDone(t, diskOf(manyFiles(60, 0)), putOp("g", ""), impl.DkFull)
	notDone(t, diskOf(filed("a", strings.Repeat("x", impl.MaxBytes))), putOp("a", "y"), impl.DkFull)
	notDone(t, diskOf(filed("a", strings.Repeat("x", impl.MaxBytes))), putOp("b", "y"), impl.DkFull)
	notDone(t, diskOf(filed("a", "xx")), putOp("b", strings.Repeat("x", impl.MaxBytes-1)), impl.DkFull)
	notDone(t, impl.Disk{}, putOp("b", strings.Repeat("x", impl.MaxBytes+1)), impl.DkFull)
	for name, d := range wrongDisks() {
		for _, op := range []impl.DOp{putOp("a", "x"), dropOp("a"), moveOp("a", "b"), dropOp("zz"), {}} {
			if got, code := impl.Do(d, op); code != impl.DkDisk || !noDisk(got) {
				t.Errorf("%s: %+v, %d", name, got, code)
			}
		}
	}
}

// With 200 ops, or as many files or bytes as there may be, there are still ops that are refused for another reason, and
// some that are done.
func TestDoWhereItIsFull(t *testing.T) {
	long := diskOf(filed("a", ""), puts(200)...)
	for _, op := range []impl.DOp{putOp("log", "x"), putOp("a", ""), dropOp("a"), dropOp("log"), moveOp("a", "b"), moveOp("a", "a")} {
		notDone(t, long, op, impl.DkFull)
	}
	notDone(t, long, dropOp("b"), impl.DkNone)
	notDone(t, long, moveOp("b", "a"), impl.DkNone)
	notDone(t, long, putOp("", ""), impl.DkForm)
	notDone(t, diskOf(manyFiles(60, 0)), moveOp("g", "h"), impl.DkNone)
	for name, x := range map[string]struct {
		d  impl.Disk
		op impl.DOp
	}{
		"the 200th op":                  {diskOf(nil, puts(199)...), putOp("log", "x")},
		"the 60th file":                 {diskOf(manyFiles(59, 0)), putOp("g", "")},
		"more to one of 60":             {diskOf(manyFiles(60, 0)), putOp("fAa", "x")},
		"another name for one of 60":    {diskOf(manyFiles(60, 0)), moveOp("fAa", "g")},
		"one of 60 goes":                {diskOf(manyFiles(60, 0)), dropOp("fAa")},
		"the 200000th byte":             {diskOf(filed("a", strings.Repeat("x", impl.MaxBytes-1))), putOp("b", "y")},
		"200000 bytes at once":          {diskOf(filed("a", "")), putOp("a", strings.Repeat("x", impl.MaxBytes))},
		"nothing behind 200000 bytes":   {diskOf(filed("a", strings.Repeat("x", impl.MaxBytes))), putOp("b", "")},
		"another name for 200000 bytes": {diskOf(filed("a", strings.Repeat("x", impl.MaxBytes))), moveOp("a", "b")},
	} {
		want, _ := didOp(x.d, x.op)
		if d, code := impl.Do(x.d, x.op); code != impl.DkOk || !sameDisk(d, want) || !impl.DiskOk(d) {
			t.Errorf("%s: %d", name, code)
		}
	}
}

func TestDo(t *testing.T) {
	r := rand.New(rand.NewSource(101))
	count := map[int64]int{}
	for range 300 {
		d := someDisk(r, r.Intn(5))
		for range 60 {
			op := someOp(r)
			want, code := didOp(d, op)
			got, c := impl.Do(d, op)
			if c != code || !sameDisk(got, want) || !impl.DiskOk(got) {
				t.Fatalf("%+v, %+v: %+v, %d, not %d", d, op, got, c, code)
			}
			count[c]++
			d = got
		}
	}
	if count[impl.DkOk] < 5000 || count[impl.DkForm] < 200 || count[impl.DkNone] < 1000 {
		t.Error("too few of one code:", count)
	}
}

func TestSync(t *testing.T) {
	for name, d := range rightDisks() {
		if got := impl.Sync(d); !sameDisk(got, impl.Disk{Live: d.Live, Safe: d.Live}) || !impl.DiskOk(got) {
			t.Errorf("%s: it is not as it was seen", name)
		}
	}
	for name, d := range wrongDisks() {
		if got := impl.Sync(d); !noDisk(got) {
			t.Errorf("%s: %+v", name, got)
		}
	}
}

func TestCrashByHand(t *testing.T) {
	safe := filed("a", "x", "b", "yy")
	d := diskOf(safe, putOp("a", "123"), moveOp("a", "c"), dropOp("b"), putOp("d", "4567"), putOp("a", "89"))
	for _, x := range []struct {
		name string
		keep []int64
		torn int64
		want []impl.File
	}{
		{"none", nil, 0, safe},
		{"none, by an empty list", []int64{}, 9, safe},
		{"all", []int64{0, 1, 2, 3, 4}, 9, d.Live},
		{"all, to the last byte", []int64{0, 1, 2, 3, 4}, 2, d.Live},
		{"all but the last byte", []int64{0, 1, 2, 3, 4}, 1, filed("a", "8", "c", "x123", "d", "4567")},
		{"all but the last bytes", []int64{0, 1, 2, 3, 4}, 0, filed("a", "", "c", "x123", "d", "4567")},
		{"an append to one that is there, torn at 0", []int64{0}, 0, safe},
		{"torn within it", []int64{0}, 2, filed("a", "x12", "b", "yy")},
		{"torn just behind it", []int64{0}, 3, filed("a", "x123", "b", "yy")},
		{"torn beyond", []int64{0}, 4, filed("a", "x123", "b", "yy")},
		{"torn far beyond", []int64{0}, math.MaxInt64, filed("a", "x123", "b", "yy")},
		{"an append to none, torn at 0", []int64{3}, 0, filed("a", "x", "b", "yy", "d", "")},
		{"an append to none, torn within it", []int64{3}, 3, filed("a", "x", "b", "yy", "d", "456")},
		{"only the last one is torn", []int64{0, 3}, 1, filed("a", "x123", "b", "yy", "d", "4")},
		{"the last one is a rename", []int64{0, 1}, 0, filed("b", "yy", "c", "x123")},
		{"the last one is a remove", []int64{0, 2}, 1, filed("a", "x123")},
		{"a rename without what was put ahead", []int64{1}, 0, filed("b", "yy", "c", "x")},
		{"the append behind it to what is still there", []int64{4}, 9, filed("a", "x89", "b", "yy")},
		{"without a rename in between", []int64{0, 4}, 1, filed("a", "x1238", "b", "yy")},
		{"some", []int64{1, 2, 4}, 9, filed("a", "89", "c", "x")},
	} {
		if got, ok := impl.Crash(d, x.keep, x.torn); !ok || !sameDisk(got, impl.Disk{Live: x.want, Safe: x.want}) || !impl.DiskOk(got) {
			t.Errorf("%s: %+v, %v", x.name, got, ok)
		}
	}
}

// A rename or a remove whose file was put by an op that was not kept does nothing, not even to what it would be put onto.
func TestCrashWhereNoFileIsFound(t *testing.T) {
	safe := filed("to", "old")
	d := diskOf(safe, putOp("a", "x"), moveOp("a", "to"), putOp("b", "y"), dropOp("b"), putOp("a", "z"), moveOp("a", "a"))
	for _, x := range []struct {
		keep []int64
		want []impl.File
	}{
		{[]int64{1}, safe},
		{[]int64{3}, safe},
		{[]int64{5}, safe},
		{[]int64{1, 3, 5}, safe},
		{[]int64{1, 2, 3}, safe},
		{[]int64{1, 3, 4}, filed("a", "z", "to", "old")},
		{[]int64{1, 4, 5}, filed("a", "z", "to", "old")},
		{[]int64{0, 1}, filed("to", "x")},
		{[]int64{0, 3}, filed("a", "x", "to", "old")},
		{[]int64{0, 4, 5}, filed("a", "xz", "to", "old")},
	} {
		if got, ok := impl.Crash(d, x.keep, 9); !ok || !sameDisk(got, impl.Disk{Live: x.want, Safe: x.want}) {
			t.Errorf("%v: %+v, %v", x.keep, got, ok)
		}
	}
}

// Where a remove is not kept there may be too much, but only at the end.
func TestCrashWhereItIsFull(t *testing.T) {
	full := strings.Repeat("x", impl.MaxBytes)
	bytes := diskOf(nil, putOp("a", full), dropOp("a"), putOp("b", full), dropOp("b"), putOp("c", "yz"), dropOp("c"))
	files := diskOf(manyFiles(59, 0), putOp("g", ""), dropOp("g"), putOp("h", "x"), moveOp("h", "i"), dropOp("i"))
	again := diskOf(filed("a", full), dropOp("a"), putOp("a", full), moveOp("a", "b"), putOp("a", ""), moveOp("b", "a"))
	for _, x := range []struct {
		name string
		d    impl.Disk
		keep []int64
		torn int64
		ok   bool
	}{
		{"200000 bytes", bytes, []int64{0}, impl.MaxBytes, true},
		{"two of them", bytes, []int64{0, 2}, impl.MaxBytes, false},
		{"two of them, the last one torn at 0", bytes, []int64{0, 2}, 0, true},
		{"two of them, the last one torn at 1", bytes, []int64{0, 2}, 1, false},
		{"two of them, and one goes", bytes, []int64{0, 2, 3}, 0, true},
		{"two of them, and more, and one goes", bytes, []int64{0, 2, 3, 4}, 1, false},
		{"two of them, and nothing more, and one goes", bytes, []int64{0, 2, 3, 4}, 0, true},
		{"60 files", files, []int64{0}, 0, true},
		{"61 files", files, []int64{0, 2}, 0, false},
		{"61 files, and another name", files, []int64{0, 2, 3}, 0, false},
		{"61 files in between", files, []int64{0, 2, 3, 4}, 0, true},
		{"60 files, one of them later", files, []int64{2}, 1, true},
		{"twice the bytes in one file", again, []int64{1}, math.MaxInt64, false},
		{"one byte more in one file", again, []int64{1}, 1, false},
		{"as many in one file", again, []int64{1}, 0, true},
		{"twice the bytes in between", again, []int64{1, 2, 3, 4}, 0, false},
		{"put onto what was empty", again, []int64{0, 1, 2, 3, 4}, 0, true},
	} {
		want, ok := crashed(x.d, x.keep, x.torn)
		if got, gotOk := impl.Crash(x.d, x.keep, x.torn); ok != x.ok || gotOk != ok || !sameDisk(got, want) {
			t.Errorf("%s: %v, not %v, with %d files", x.name, gotOk, ok, len(got.Live))
		}
	}
}

func notCrashed(t *testing.T, d impl.Disk, keep []int64, torn int64) {
	t.Helper()
	if got, ok := impl.Crash(d, keep, torn); ok || !noDisk(got) {
		t.Errorf("%v, %d: %+v, %v", keep, torn, got, ok)
	}
}

func TestCrashRefuses(t *testing.T) {
	d := diskOf(filed("a", "x"), putOp("a", "y"), putOp("b", "z"), dropOp("a"))
	for _, keep := range [][]int64{
		{-1}, {3}, {4}, {0, 3}, {-1, 0}, {0, 0}, {2, 2}, {1, 0}, {0, 2, 1}, {0, 1, 1}, {0, 1, 2, 2}, {0, 1, 2, 3}, {2, 1, 0},
		{math.MinInt64}, {math.MaxInt64}, {0, math.MaxInt64}, {math.MinInt64, 0}, {1 << 32}, {-1, -1},
	} {
		notCrashed(t, d, keep, 0)
		notCrashed(t, d, keep, 9)
	}
	for _, torn := range []int64{-1, -2, math.MinInt64} {
		for _, keep := range [][]int64{nil, {0}, {2}, {0, 1, 2}} {
			notCrashed(t, d, keep, torn)
		}
	}
	notCrashed(t, impl.Disk{}, []int64{0}, 0)
	notCrashed(t, diskOf(filed("a", "x")), []int64{0}, 0)
	notCrashed(t, diskOf(nil, puts(200)...), []int64{200}, 0)
	for _, d := range wrongDisks() {
		notCrashed(t, d, nil, 0)
		notCrashed(t, d, allPlaces(len(d.Ops)), 9)
	}
	if got, ok := impl.Crash(diskOf(nil, puts(200)...), []int64{199}, 0); !ok || len(got.Live) != 1 || got.Live[0].Data != "" {
		t.Error(got, ok)
	}
}

// Each subset of some ops, torn at each place.
func TestCrash(t *testing.T) {
	r := rand.New(rand.NewSource(102))
	for range 60 {
		d := someDisk(r, 1+r.Intn(7))
		for _, keep := range subsets(len(d.Ops)) {
			for torn := range int64(5) {
				want, right := crashed(d, keep, torn)
				if got, ok := impl.Crash(d, keep, torn); ok != right || !sameDisk(got, want) || !impl.DiskOk(got) {
					t.Fatalf("%+v, %v, %d: %+v, %v", d, keep, torn, got, ok)
				}
			}
		}
	}
}

func TestReadFile(t *testing.T) {
	d := diskOf(filed("a", "x", "b", "y", "c", ""), putOp("a", "z"), dropOp("b"), putOp("d", "\x00\xff"))
	for name, want := range map[string]string{"a": "xz", "c": "", "d": "\x00\xff"} {
		if data, ok := impl.ReadFile(d, name); !ok || data != want {
			t.Errorf("%s: %q, %v", name, data, ok)
		}
	}
	for _, name := range []string{"", "b", "A", "aa", "e", "\x00", strings.Repeat("n", 100), strings.Repeat("n", 101)} {
		if data, ok := impl.ReadFile(d, name); ok || data != "" {
			t.Errorf("%q: %q, %v", name, data, ok)
		}
	}
	for name, wrong := range wrongDisks() {
		for _, file := range []string{"a", "b", "log", ""} {
			if data, ok := impl.ReadFile(wrong, file); ok || data != "" {
				t.Errorf("%s: %q, %v", name, data, ok)
			}
		}
	}
	for _, f := range manyFiles(60, 3) {
		if data, ok := impl.ReadFile(diskOf(manyFiles(60, 3)), f.Name); !ok || data != f.Data {
			t.Errorf("%s: %q, %v", f.Name, data, ok)
		}
	}
}

func TestReplaceByHand(t *testing.T) {
	put, move, drop := putOp("a.new", "z"), moveOp("a.new", "a"), dropOp("a.new")
	for _, x := range []struct {
		name string
		safe []impl.File
		want []impl.File
		ops  []impl.DOp
	}{
		{"without the file", nil, filed("a", "z"), []impl.DOp{put, move}},
		{"with the file", filed("a", "xx"), filed("a", "z"), []impl.DOp{put, move}},
		{"with its new one", filed("a.new", "yy"), filed("a", "z"), []impl.DOp{drop, put, move}},
		{"with both", filed("a", "xx", "a.new", "yy"), filed("a", "z"), []impl.DOp{drop, put, move}},
		{"with others", filed("A", "1", "a", "xx", "b.new", "2"), filed("A", "1", "a", "z", "b.new", "2"), []impl.DOp{put, move}},
		{"with what is new of its new one", filed("a.new.new", "1"), filed("a", "z", "a.new.new", "1"), []impl.DOp{put, move}},
	} {
		d, code := impl.Replace(diskOf(x.safe), "a", "z")
		if code != impl.DkOk || !sameDisk(d, impl.Disk{Live: x.want, Safe: x.safe, Ops: x.ops}) || !impl.DiskOk(d) {
			t.Errorf("%s: %+v, %d", x.name, d, code)
		}
	}
	d, code := impl.Replace(impl.Disk{}, "a", "")
	if data, ok := impl.ReadFile(d, "a"); code != impl.DkOk || !ok || data != "" || len(d.Live) != 1 {
		t.Error(d, code)
	}
	long := strings.Repeat("n", 96)
	d, code = impl.Replace(impl.Disk{}, long, "z")
	if data, ok := impl.ReadFile(d, long); code != impl.DkOk || !ok || data != "z" {
		t.Error(d, code)
	}
	d, code = impl.Replace(diskOf(filed("a.new", "yy")), "a.new", "z")
	if code != impl.DkOk || !slices.Equal(d.Live, filed("a.new", "z")) || len(d.Ops) != 2 {
		t.Error(d, code)
	}
}

func notReplaced(t *testing.T, d impl.Disk, name string, data string, code int64) {
	t.Helper()
	if _, want := replaced(d, name, data); want != code {
		t.Errorf("%d is asked for, not %d", want, code)
	}
	if got, c := impl.Replace(d, name, data); c != code || !sameDisk(got, d) {
		t.Errorf("%d, not %d, and %d files, %d safe, %d ops", c, code, len(got.Live), len(got.Safe), len(got.Ops))
	}
}

// Refused at each of its three steps, with what was done ahead of it gone again.
func TestReplaceRefuses(t *testing.T) {
	both := filed("log", "", "log.new", "y")
	fullTo := func(bytes int) string { return strings.Repeat("x", bytes) }
	notReplaced(t, diskOf(both, puts(200)...), "log", "z", impl.DkFull)
	notReplaced(t, diskOf(both, puts(199)...), "log", "z", impl.DkFull)
	notReplaced(t, diskOf(both, puts(198)...), "log", "z", impl.DkFull)
	notReplaced(t, diskOf(nil, puts(200)...), "log", "z", impl.DkFull)
	notReplaced(t, diskOf(nil, puts(199)...), "log", "z", impl.DkFull)
	for _, d := range []impl.Disk{diskOf(both, puts(197)...), diskOf(nil, puts(198)...)} {
		want, _ := replaced(d, "log", "z")
		if got, code := impl.Replace(d, "log", "z"); code != impl.DkOk || !sameDisk(got, want) || len(got.Ops) != impl.MaxOps {
			t.Error(got, code)
		}
	}
	// The second one: too many bytes or files, or a name that is too long.
	notReplaced(t, diskOf(filed("a", fullTo(100001))), "a", fullTo(100000), impl.DkFull)
	notReplaced(t, diskOf(filed("a", fullTo(100001), "a.new", fullTo(50))), "a", fullTo(100000), impl.DkFull)
	notReplaced(t, diskOf(nil), "a", fullTo(impl.MaxBytes+1), impl.DkFull)
	notReplaced(t, diskOf(manyFiles(60, 0)), "fAa", "z", impl.DkFull)
	notReplaced(t, diskOf(manyFiles(60, 0)), "g", "", impl.DkFull)
	for _, count := range []int{97, 100, 101, 1000} {
		notReplaced(t, diskOf(filed("a", "x")), strings.Repeat("n", count), "z", impl.DkForm)
	}
	notReplaced(t, diskOf(filed(strings.Repeat("n", 100), "x")), strings.Repeat("n", 100), "z", impl.DkForm)
	notReplaced(t, diskOf(filed(strings.Repeat("n", 100), "x")), strings.Repeat("n", 97), "z", impl.DkForm)
	// The third one: ".new" is a name, but nothing is renamed to none.
	notReplaced(t, diskOf(filed("a", "x")), "", "z", impl.DkForm)
	notReplaced(t, diskOf(filed(".new", "x")), "", "z", impl.DkForm)
	notReplaced(t, diskOf(nil), "", fullTo(impl.MaxBytes+1), impl.DkFull)
	// With what goes ahead there is room again.
	d := diskOf(filed("a", fullTo(100000), "a.new", fullTo(100000)))
	want, _ := replaced(d, "a", fullTo(100000))
	if got, code := impl.Replace(d, "a", fullTo(100000)); code != impl.DkOk || !sameDisk(got, want) {
		t.Error(code)
	}
	for name, wrong := range wrongDisks() {
		for _, file := range []string{"a", "log", "", strings.Repeat("n", 200)} {
			if got, code := impl.Replace(wrong, file, "z"); code != impl.DkDisk || !noDisk(got) {
				t.Errorf("%s: %+v, %d", name, got, code)
			}
		}
	}
}

func TestReplace(t *testing.T) {
	r := rand.New(rand.NewSource(103))
	for range 2000 {
		d := someDisk(r, r.Intn(8))
		name := []string{"a", "b", "c", "d", "a.new", ""}[r.Intn(6)]
		data := strings.Repeat("w", r.Intn(4))
		want, code := replaced(d, name, data)
		if got, c := impl.Replace(d, name, data); c != code || !sameDisk(got, want) || !impl.DiskOk(got) {
			t.Fatalf("%+v, %s: %+v, %d", d, name, got, c)
		}
	}
}

// Promise 10, asked of the program alone: all ops, whole, leave what was seen, and none what was synced.
func TestCrashLeavesWhatWasSeenOrSynced(t *testing.T) {
	r := rand.New(rand.NewSource(104))
	for range 2000 {
		d := impl.Sync(someDisk(r, r.Intn(4)))
		safe := slices.Clone(d.Live)
		for range r.Intn(20) {
			op := someOp(r)
			ahead, _ := impl.ReadFile(d, op.Name)
			next, code := impl.Do(d, op)
			data, found := impl.ReadFile(next, op.Name)
			if code == impl.DkOk && op.Kind == impl.DkAppend && (!found || data != ahead+op.Data) {
				t.Fatalf("%+v is not seen: %q", op, data)
			}
			if moved, _ := impl.ReadFile(next, op.To); code == impl.DkOk && op.Kind == impl.DkRename && (moved != ahead || found != (op.Name == op.To)) {
				t.Fatalf("%+v is not seen: %q", op, moved)
			}
			if code == impl.DkOk && op.Kind == impl.DkRemove && found {
				t.Fatalf("%+v is not seen: %q", op, data)
			}
			d = next
		}
		seen, ok := impl.Crash(d, allPlaces(len(d.Ops)), math.MaxInt64)
		if !ok || !sameDisk(seen, impl.Disk{Live: d.Live, Safe: d.Live}) {
			t.Fatalf("%+v: %+v, %v", d, seen, ok)
		}
		for _, torn := range []int64{0, 1, math.MaxInt64} {
			synced, ok := impl.Crash(d, nil, torn)
			if !ok || !sameDisk(synced, impl.Disk{Live: safe, Safe: safe}) {
				t.Fatalf("%+v: %+v, %v", d, synced, ok)
			}
		}
	}
}

// Promise 10, as well: the old one or the new one, whichever of the ops of Replace are kept, and wherever one is torn.
func TestReplaceLeavesTheOldOrTheNew(t *testing.T) {
	r := rand.New(rand.NewSource(105))
	old, fresh := 0, 0
	for range 500 {
		d := impl.Sync(someDisk(r, r.Intn(6)))
		name := []string{"a", "b", "c", "d"}[r.Intn(4)]
		if _, found := impl.ReadFile(d, name+".new"); found {
			continue
		}
		ahead, was := impl.ReadFile(d, name)
		e, code := impl.Replace(d, name, "fresh")
		if code != impl.DkOk {
			t.Fatal(code)
		}
		for _, keep := range subsets(len(e.Ops)) {
			for torn := range int64(7) {
				left, ok := impl.Crash(e, keep, torn)
				data, is := impl.ReadFile(left, name)
				if !ok || !(is && data == "fresh") && (is != was || data != ahead) {
					t.Fatalf("%+v, %v, %d: %+v, %v", d, keep, torn, left, ok)
				}
				if is && data == "fresh" {
					fresh++
				} else {
					old++
				}
			}
		}
	}
	if old < 1000 || fresh < 500 {
		t.Error("too few of one kind:", old, fresh)
	}
}

// roomyDisk is d in lists with room behind them, which has something in it.
func roomyDisk(d impl.Disk) impl.Disk {
	live := append(slices.Clone(d.Live), filed("room", "1", "room", "2")...)
	safe := append(slices.Clone(d.Safe), filed("room", "3", "room", "4")...)
	ops := append(slices.Clone(d.Ops), dropOp("room"), dropOp("room"))
	return impl.Disk{Live: live[:len(d.Live)], Safe: safe[:len(d.Safe)], Ops: ops[:len(d.Ops)]}
}

// wholeDisk is a roomy disk with its room.
func wholeDisk(d impl.Disk) impl.Disk {
	return impl.Disk{Live: d.Live[:len(d.Live)+2], Safe: d.Safe[:len(d.Safe)+2], Ops: d.Ops[:len(d.Ops)+2]}
}

// spoilDisk writes into all of a disk, with what room there is behind it.
func spoilDisk(d impl.Disk) {
	clear(d.Live[:cap(d.Live)])
	clear(d.Safe[:cap(d.Safe)])
	clear(d.Ops[:cap(d.Ops)])
}

// answersOf are the disks of a call of each function that answers one, refusals, too.
func answersOf(d impl.Disk, keep []int64) []impl.Disk {
	done, _ := impl.Do(d, putOp("a", "z"))
	none, _ := impl.Do(d, dropOp("none"))
	wrong, _ := impl.Do(d, impl.DOp{})
	full, _ := impl.Do(d, putOp("a", strings.Repeat("x", impl.MaxBytes+1)))
	crash, _ := impl.Crash(d, keep, 1)
	fresh, _ := impl.Replace(d, "a", "z")
	refused, _ := impl.Replace(d, "", "z")
	return []impl.Disk{done, none, wrong, full, impl.Sync(d), crash, fresh, refused}
}

// onlyRead asks twice, all that was answered being spoilt in between, and all that was given afterwards: nothing is written
// into what is given, nor into the room behind it, and what is answered is new memory, of which no two lists share any.
func onlyRead(t *testing.T, start impl.Disk, answers func(d impl.Disk) []impl.Disk) {
	t.Helper()
	d := roomyDisk(start)
	first := answers(d)
	var want []impl.Disk
	for _, x := range first {
		want = append(want, cloneDisk(x))
	}
	for i, x := range first {
		clear(x.Live[:cap(x.Live)])
		if !slices.Equal(x.Safe, want[i].Safe) {
			t.Fatalf("%d: two lists share memory", i)
		}
		spoilDisk(x)
	}
	again := answers(d)
	if whole := wholeDisk(d); !sameDisk(whole, wholeDisk(roomyDisk(start))) {
		t.Fatalf("%+v has become %+v", start, whole)
	}
	spoilDisk(d)
	for i := range again {
		if !sameDisk(again[i], want[i]) {
			t.Fatalf("%d: %+v is not %+v", i, again[i], want[i])
		}
	}
}

func TestDisksAreOnlyRead(t *testing.T) {
	r := rand.New(rand.NewSource(106))
	for range 300 {
		room := []int64{0, 7, 8}
		onlyRead(t, someDisk(r, 1+r.Intn(6)), func(d impl.Disk) []impl.Disk {
			return answersOf(d, room[:min(1, len(d.Ops))])
		})
		if !slices.Equal(room, []int64{0, 7, 8}) {
			t.Fatal(room)
		}
	}
}
