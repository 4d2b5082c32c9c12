package tests

import (
	"fmt"
	"maps"
	"math"
	"math/rand"
	"slices"
	"strings"
	"testing"

	"loop.example/g00214/impl"
)

func TestP6Limits(t *testing.T) {
	if impl.MaxFiles != 60 || impl.MaxBytes != 200000 || impl.MaxOps != 200 {
		t.Error(impl.MaxFiles, impl.MaxBytes, impl.MaxOps)
	}
	if impl.DkAppend != 1 || impl.DkRename != 2 || impl.DkRemove != 3 {
		t.Error(impl.DkAppend, impl.DkRename, impl.DkRemove)
	}
	if impl.DkOk != 0 || impl.DkDisk != 1 || impl.DkForm != 2 || impl.DkNone != 3 || impl.DkFull != 4 {
		t.Error(impl.DkOk, impl.DkDisk, impl.DkForm, impl.DkNone, impl.DkFull)
	}
}

func behind(name string, data string) impl.DOp {
	return impl.DOp{Kind: 1, Name: name, Data: data}
}

func rename(name string, to string) impl.DOp {
	return impl.DOp{Kind: 2, Name: name, To: to}
}

func remove(name string) impl.DOp {
	return impl.DOp{Kind: 3, Name: name}
}

// filesIn are files told by name, data, name, data ..
func filesIn(words ...string) []impl.File {
	var files []impl.File
	for i := 0; i < len(words); i += 2 {
		files = append(files, impl.File{Name: words[i], Data: words[i+1]})
	}
	return files
}

// manyFiles are so many files, with a byte each.
func manyFiles(size int) []impl.File {
	var files []impl.File
	for i := range size {
		files = append(files, impl.File{Name: fmt.Sprintf("file%03d", i), Data: "x"})
	}
	return files
}

// stepByHand does op on files, told by name, and tells whether it found what it needs.
func stepByHand(files map[string]string, op impl.DOp) bool {
	data, there := files[op.Name]
	switch op.Kind {
	case impl.DkAppend:
		files[op.Name] = data + op.Data
		return true
	case impl.DkRename:
		if there {
			delete(files, op.Name)
			files[op.To] = data
		}
	case impl.DkRemove:
		delete(files, op.Name)
	}
	return there
}

func namesByHand(files []impl.File) map[string]string {
	names := map[string]string{}
	for _, file := range files {
		names[file.Name] = file.Data
	}
	return names
}

func filesByHand(names map[string]string) []impl.File {
	var files []impl.File
	for _, name := range slices.Sorted(maps.Keys(names)) {
		files = append(files, impl.File{Name: name, Data: names[name]})
	}
	return files
}

// diskByHand is a disk whose ops make what is seen, by what they say, right or not.
func diskByHand(safe []impl.File, ops ...impl.DOp) impl.Disk {
	names := namesByHand(safe)
	for _, op := range ops {
		stepByHand(names, op)
	}
	return impl.Disk{Live: filesByHand(names), Safe: safe, Ops: ops}
}

// leftByHand is what a loss of power leaves of d.
func leftByHand(d impl.Disk, keep []int64, torn int64) impl.Disk {
	names := namesByHand(d.Safe)
	for i, place := range keep {
		op := d.Ops[place]
		if i == len(keep)-1 && int64(len(op.Data)) > torn {
			op.Data = op.Data[:torn]
		}
		stepByHand(names, op)
	}
	return synced(filesByHand(names))
}

func synced(files []impl.File) impl.Disk {
	return impl.Disk{Live: files, Safe: files}
}

func sameDisk(a impl.Disk, b impl.Disk) bool {
	return slices.Equal(a.Live, b.Live) && slices.Equal(a.Safe, b.Safe) && slices.Equal(a.Ops, b.Ops)
}

func copiedDisk(d impl.Disk) impl.Disk {
	return impl.Disk{Live: slices.Clone(d.Live), Safe: slices.Clone(d.Safe), Ops: slices.Clone(d.Ops)}
}

// notRight holds each function to what it says of a disk that is not right.
func notRight(t *testing.T, word string, d impl.Disk) {
	t.Helper()
	if impl.DiskOk(d) {
		t.Errorf("%s: right", word)
	}
	if got, code := impl.Do(d, behind("a", "")); code != impl.DkDisk || !sameDisk(got, impl.Disk{}) {
		t.Errorf("%s: Do is %.200v, %d", word, got, code)
	}
	if got, code := impl.Do(d, impl.DOp{}); code != impl.DkDisk || !sameDisk(got, impl.Disk{}) {
		t.Errorf("%s: Do of no kind is %.200v, %d", word, got, code)
	}
	if got := impl.Sync(d); !sameDisk(got, impl.Disk{}) {
		t.Errorf("%s: Sync is %.200v", word, got)
	}
	if got, ok := impl.Crash(d, nil, 0); ok || !sameDisk(got, impl.Disk{}) {
		t.Errorf("%s: Crash is %.200v", word, got)
	}
	for _, file := range append(filesIn("a", "", "none", ""), slices.Concat(d.Live, d.Safe)...) {
		if got, ok := impl.ReadFile(d, file.Name); ok || got != "" {
			t.Errorf("%s: ReadFile is %.200q", word, got)
		}
	}
	for _, name := range []string{"a", "", strings.Repeat("n", 101)} {
		if got, code := impl.Replace(d, name, "data"); code != impl.DkDisk || !sameDisk(got, impl.Disk{}) {
			t.Errorf("%s: Replace of %.20q is %.200v, %d", word, name, got, code)
		}
	}
}

// right holds a disk that is right to what it leaves with all kept, and with none.
func right(t *testing.T, word string, d impl.Disk) {
	t.Helper()
	if !impl.DiskOk(d) {
		t.Fatalf("%s: not right", word)
	}
	all := make([]int64, len(d.Ops))
	for i := range all {
		all[i] = int64(i)
	}
	if got, ok := impl.Crash(d, all, math.MaxInt64); !ok || !sameDisk(got, synced(d.Live)) {
		t.Errorf("%s: all kept it is %.200v, %v", word, got, ok)
	}
	if got, ok := impl.Crash(d, nil, 0); !ok || !sameDisk(got, synced(d.Safe)) {
		t.Errorf("%s: none kept it is %.200v, %v", word, got, ok)
	}
	if got := impl.Sync(d); !sameDisk(got, synced(d.Live)) {
		t.Errorf("%s: synced it is %.200v", word, got)
	}
	for _, file := range d.Live {
		if got, ok := impl.ReadFile(d, file.Name); !ok || got != file.Data {
			t.Errorf("%s: %q is %.200q, %v", word, file.Name, got, ok)
		}
	}
}

func TestP6NamesHave1To100Bytes(t *testing.T) {
	for _, size := range []int{0, 1, 2, 99, 100, 101, 500} {
		name := strings.Repeat("\xff", size)
		disks := []impl.Disk{
			synced(filesIn(name, "data")),
			synced(filesIn(name, "")),
			diskByHand(filesIn(name, "data"), behind(name, "more")),
			diskByHand(filesIn(name, "data"), remove(name)),
			diskByHand(filesIn(name, "data"), rename(name, "z")),
			diskByHand(filesIn("a", "data"), rename("a", name)),
			diskByHand(filesIn("a", "data"), rename("a", name), rename(name, "b")),
			diskByHand(nil, behind(name, "")),
			diskByHand(nil, behind(name, "data"), remove(name)),
		}
		for i, d := range disks {
			word := fmt.Sprint("a name of ", size, " bytes, disk ", i)
			if size >= 1 && size <= 100 {
				right(t, word, d)
			} else {
				notRight(t, word, d)
			}
		}
	}
}

func TestP6ListsOfFilesRise(t *testing.T) {
	for i, files := range [][]impl.File{
		filesIn(),
		filesIn("a", "", "b", "", "c", ""),
		filesIn("a", "1", "a\x00", "1", "aa", "1", "b", "1", "\xff", "1"),
	} {
		right(t, fmt.Sprint("rising ", i), synced(files))
	}
	for i, files := range [][]impl.File{
		filesIn("b", "", "a", ""),
		filesIn("a", "", "a", ""),
		filesIn("a", "1", "a", "2"),
		filesIn("a", "", "b", "", "b", ""),
		filesIn("a", "", "c", "", "b", ""),
		filesIn("aa", "", "a", ""),
		filesIn("\xff", "", "a", ""),
	} {
		word := fmt.Sprint("not rising ", i)
		notRight(t, word, synced(files))
		sorted := filesByHand(namesByHand(files))
		notRight(t, word+", what is seen", impl.Disk{Live: files, Safe: sorted})
		notRight(t, word+", what is safe", impl.Disk{Live: sorted, Safe: files})
	}
}

func TestP6AtMost60Files(t *testing.T) {
	right(t, "60 files", synced(manyFiles(60)))
	notRight(t, "61 files", synced(manyFiles(61)))
	right(t, "one more is 60", diskByHand(manyFiles(59), behind("z", "")))
	notRight(t, "one more is 61", diskByHand(manyFiles(60), behind("z", "")))
	right(t, "out of 60 one is renamed", diskByHand(manyFiles(60), rename("file007", "z")))
	right(t, "one goes, another comes", diskByHand(manyFiles(60), remove("file007"), behind("z", "")))
	notRight(t, "61 only on the way", diskByHand(manyFiles(60), behind("z", ""), remove("file007")))
	for size := range 62 {
		d := synced(manyFiles(min(size, 60)))
		got, code := impl.Do(d, behind("z", ""))
		if size < 60 && (code != impl.DkOk || len(got.Live) != size+1) {
			t.Error(size, code)
		}
		if size >= 60 && (code != impl.DkFull || !sameDisk(got, d)) {
			t.Error(size, code)
		}
	}
	full := synced(manyFiles(60))
	for _, op := range []impl.DOp{behind("file000", "more"), rename("file000", "file001"), rename("file000", "z"), remove("file059")} {
		if _, code := impl.Do(full, op); code != impl.DkOk {
			t.Errorf("%v: %d", op, code)
		}
	}
}

func TestP6AtMost200000Bytes(t *testing.T) {
	half, whole := strings.Repeat("h", 100000), strings.Repeat("w", 200000)
	right(t, "one file", synced(filesIn("a", whole)))
	right(t, "two files", synced(filesIn("a", half, "b", half)))
	notRight(t, "one file", synced(filesIn("a", whole+"x")))
	notRight(t, "two files", synced(filesIn("a", half, "b", half+"x")))
	right(t, "an append", diskByHand(filesIn("a", half), behind("b", half)))
	notRight(t, "an append", diskByHand(filesIn("a", half), behind("b", half+"x")))
	right(t, "bytes come and go", diskByHand(filesIn("a", whole), remove("a"), behind("b", whole), rename("b", "a"), remove("a"), behind("c", whole)))
	notRight(t, "too many only on the way", diskByHand(filesIn("a", whole), behind("b", "x"), remove("a")))
	right(t, "a file goes under another one", diskByHand(filesIn("a", half, "b", half), rename("a", "b"), behind("c", half)))
	right(t, "a file is renamed to itself", diskByHand(filesIn("a", half), rename("a", "a"), behind("c", half)))
	notRight(t, "a file is renamed to itself", diskByHand(filesIn("a", half), rename("a", "a"), behind("c", half+"x")))
	d := synced(filesIn("a", half, "b", half[1:]))
	for _, name := range []string{"a", "b", "c"} {
		if got, code := impl.Do(d, behind(name, "x")); code != impl.DkOk || !impl.DiskOk(got) {
			t.Error(name, code)
		}
		if got, code := impl.Do(d, behind(name, "xy")); code != impl.DkFull || !sameDisk(got, d) {
			t.Error(name, code)
		}
	}
	names := impl.Disk{}
	for i := range 60 {
		names, _ = impl.Do(names, behind(fmt.Sprintf("%0100d", i), half[:3333]))
	}
	if got, code := impl.Do(names, behind("z", "")); code != impl.DkFull || len(got.Live) != 60 {
		t.Error("names are no data", code, len(got.Live))
	}
}

func TestP6AtMost200Ops(t *testing.T) {
	ops := slices.Repeat([]impl.DOp{behind("a", "x"), rename("a", "b"), remove("b"), behind("a", "")}, 51)
	right(t, "200 ops", diskByHand(nil, ops[:200]...))
	notRight(t, "201 ops", diskByHand(nil, ops[:201]...))
	notRight(t, "204 ops", diskByHand(nil, ops...))
	d := impl.Disk{}
	for i, op := range ops[:201] {
		next, code := impl.Do(d, op)
		if want := diskByHand(nil, ops[:i+1]...); i < 200 && (code != impl.DkOk || !sameDisk(next, want)) {
			t.Fatal(i, code)
		}
		if i == 200 && (code != impl.DkFull || !sameDisk(next, d)) {
			t.Error("201 ops", code)
		}
		d = next
	}
	if _, code := impl.Do(impl.Sync(d), ops[0]); code != impl.DkOk {
		t.Error("behind Sync", code)
	}
}

func TestP6OpsMakeWhatIsSeen(t *testing.T) {
	safe := filesIn("a", "1", "b", "2")
	ops := []impl.DOp{behind("c", "3"), rename("a", "d"), behind("b", "4"), remove("c"), behind("a", "")}
	d := diskByHand(safe, ops...)
	right(t, "all", d)
	if want := filesIn("a", "", "b", "24", "d", "1"); !slices.Equal(d.Live, want) {
		t.Fatal(d.Live)
	}
	for i := range d.Live {
		other := copiedDisk(d)
		other.Live[i].Data += "x"
		notRight(t, "other data", other)
		other = copiedDisk(d)
		other.Live = slices.Delete(other.Live, i, i+1)
		notRight(t, "a file less", other)
		other = copiedDisk(d)
		other.Live[i].Name += "\x00"
		notRight(t, "another name", other)
	}
	for _, name := range []string{"A", "aa", "z"} {
		other := copiedDisk(d)
		other.Live = filesByHand(namesByHand(append(other.Live, impl.File{Name: name})))
		notRight(t, "a file more", other)
	}
	for i := range ops {
		other := copiedDisk(d)
		other.Ops = slices.Delete(other.Ops, i, i+1)
		notRight(t, "an op less", other)
	}
	for i := range safe {
		other := copiedDisk(d)
		other.Safe[i].Data += "x"
		notRight(t, "other safe data", other)
	}
	notRight(t, "seen but not made", impl.Disk{Live: safe})
	notRight(t, "safe but not seen", impl.Disk{Safe: safe})
	notRight(t, "the empty file of no op", impl.Disk{Live: filesIn("a", "")})
}

// oddOps have not the form of their kind.
func oddOps() []impl.DOp {
	long := strings.Repeat("n", 101)
	ops := []impl.DOp{
		{},
		{Name: "a"},
		{Kind: 1},
		{Kind: 2},
		{Kind: 3},
		{Kind: 2, Name: "a"},
		{Kind: 2, To: "a"},
		{Kind: 1, Data: "x"},
		{Kind: 1, Name: long},
		{Kind: 3, Name: long},
		{Kind: 2, Name: long, To: "a"},
		{Kind: 2, Name: "a", To: long},
		{Kind: 1, Name: "a", To: "b"},
		{Kind: 1, Name: "a", To: "a", Data: "x"},
		{Kind: 3, Name: "a", To: "b"},
		{Kind: 3, Name: "a", To: "a"},
		{Kind: 2, Name: "a", To: "b", Data: "x"},
		{Kind: 3, Name: "a", Data: "x"},
		{Kind: 3, Name: "a", To: "b", Data: "x"},
	}
	for _, kind := range []int64{math.MinInt64, -1, 0, 4, 5, 1 + 1<<32, 2 + 1<<8, math.MaxInt64} {
		ops = append(ops, impl.DOp{Kind: kind, Name: "a"}, impl.DOp{Kind: kind, Name: "a", To: "b"}, impl.DOp{Kind: kind, Name: "a", Data: "x"})
	}
	return ops
}

func TestP6OpsHaveTheFormOfTheirKind(t *testing.T) {
	for _, d := range []impl.Disk{{}, synced(filesIn("a", "1", "b", "2")), diskByHand(filesIn("b", "2"), behind("a", "1"))} {
		for _, op := range oddOps() {
			if got, code := impl.Do(d, op); code != impl.DkForm || !sameDisk(got, d) {
				t.Errorf("%.80v: %.200v, %d", op, got, code)
			}
		}
	}
	for _, op := range oddOps() {
		safe := filesIn("a", "1", "b", "2")
		word := fmt.Sprintf("%.80v", op)
		notRight(t, word+" as it does", diskByHand(safe, op))
		notRight(t, word+" doing nothing", impl.Disk{Live: safe, Safe: safe, Ops: []impl.DOp{op}})
		notRight(t, word+" behind others", diskByHand(safe, behind("a", ""), op, behind("c", "")))
	}
}

func TestP6OpsFindTheirFile(t *testing.T) {
	d := diskByHand(filesIn("a", "1"), behind("b", "2"))
	for _, op := range []impl.DOp{rename("c", "d"), rename("c", "a"), rename("c", "c"), remove("c"), remove("a\x00")} {
		if got, code := impl.Do(d, op); code != impl.DkNone || !sameDisk(got, d) {
			t.Errorf("%v: %v, %d", op, got, code)
		}
		other := copiedDisk(d)
		other.Ops = append(other.Ops, op)
		notRight(t, fmt.Sprint(op), other)
		notRight(t, fmt.Sprint(op), impl.Disk{Ops: []impl.DOp{op}})
	}
}

func TestP6TheFirstFaultIsTold(t *testing.T) {
	full := diskByHand(manyFiles(60), slices.Repeat([]impl.DOp{behind("file000", "")}, 200)...)
	right(t, "60 files, 200 ops", full)
	for _, c := range []struct {
		op   impl.DOp
		code int64
	}{
		{impl.DOp{Kind: 4, Name: "none"}, impl.DkForm},
		{impl.DOp{Kind: 2, Name: "none"}, impl.DkForm},
		{impl.DOp{Kind: 3, Name: "none", Data: "x"}, impl.DkForm},
		{impl.DOp{Kind: 1, Name: "z", To: "a"}, impl.DkForm},
		{rename("none", "a"), impl.DkNone},
		{remove("none"), impl.DkNone},
		{behind("z", ""), impl.DkFull},
		{behind("file000", ""), impl.DkFull},
		{rename("file000", "file000"), impl.DkFull},
		{remove("file000"), impl.DkFull},
	} {
		if got, code := impl.Do(full, c.op); code != c.code || !sameDisk(got, full) {
			t.Errorf("%v: %d, not %d", c.op, code, c.code)
		}
	}
}

func TestP6WhatIsDoneIsSeen(t *testing.T) {
	safe := filesIn("a", "1", "b", "2")
	for _, c := range []struct {
		op   impl.DOp
		want []impl.File
	}{
		{behind("a", "x"), filesIn("a", "1x", "b", "2")},
		{behind("a", ""), filesIn("a", "1", "b", "2")},
		{behind("c", "x"), filesIn("a", "1", "b", "2", "c", "x")},
		{behind("aa", ""), filesIn("a", "1", "aa", "", "b", "2")},
		{behind("A", "\x00\xff"), filesIn("A", "\x00\xff", "a", "1", "b", "2")},
		{rename("a", "a"), safe},
		{rename("a", "b"), filesIn("b", "1")},
		{rename("b", "a"), filesIn("a", "2")},
		{rename("a", "c"), filesIn("b", "2", "c", "1")},
		{remove("a"), filesIn("b", "2")},
		{remove("b"), filesIn("a", "1")},
	} {
		want := impl.Disk{Live: c.want, Safe: safe, Ops: []impl.DOp{c.op}}
		if got, code := impl.Do(synced(safe), c.op); code != impl.DkOk || !sameDisk(got, want) {
			t.Errorf("%v: %v, %d", c.op, got, code)
		}
	}
}

// someOp is of a right form, and often finds its file.
func someOp(r *rand.Rand) impl.DOp {
	names := []string{"a", "b", "c", "d", "a.new"}
	name := names[r.Intn(len(names))]
	switch r.Intn(5) {
	case 0:
		return rename(name, names[r.Intn(len(names))])
	case 1:
		return remove(name)
	}
	return behind(name, "0123456789"[:r.Intn(5)])
}

func TestP6DisksOfManyOps(t *testing.T) {
	r := rand.New(rand.NewSource(6))
	for range 60 {
		d := impl.Disk{}
		for range 40 {
			if r.Intn(12) == 0 {
				d = impl.Sync(d)
			}
			op := someOp(r)
			names := namesByHand(d.Live)
			want, wanted := copiedDisk(d), int64(impl.DkNone)
			if stepByHand(names, op) {
				want.Live, want.Ops = filesByHand(names), append(want.Ops, op)
				wanted = impl.DkOk
			}
			got, code := impl.Do(d, op)
			if code != wanted || !sameDisk(got, want) {
				t.Fatalf("%v, %v: %v, %d", d, op, got, code)
			}
			right(t, "on the way", got)
			if _, there := impl.ReadFile(got, "e"); there {
				t.Fatal("a file that nobody made")
			}
			d = got
		}
	}
}

func TestP6WhateverIsKept(t *testing.T) {
	r := rand.New(rand.NewSource(16))
	for range 40 {
		d := impl.Disk{}
		for len(d.Ops) < 8 {
			d, _ = impl.Do(d, someOp(r))
			if len(d.Ops) == 3 && len(d.Safe) == 0 {
				d = impl.Sync(d)
			}
		}
		for set := range 1 << len(d.Ops) {
			var keep []int64
			for place := range d.Ops {
				if set>>place&1 == 1 {
					keep = append(keep, int64(place))
				}
			}
			for _, torn := range []int64{0, 1, 3, 4, 5, math.MaxInt64} {
				want := leftByHand(d, keep, torn)
				if got, ok := impl.Crash(d, keep, torn); !ok || !sameDisk(got, want) {
					t.Fatalf("%v, %v, %d: %v, %v, not %v", d, keep, torn, got, ok, want)
				}
			}
		}
	}
}

func TestP6TheLastAppendIsTorn(t *testing.T) {
	d := diskByHand(filesIn("a", "1"), behind("a", "23"), behind("b", "456"), rename("b", "c"))
	for _, c := range []struct {
		keep []int64
		torn int64
		want []impl.File
	}{
		{[]int64{0}, 0, filesIn("a", "1")},
		{[]int64{0}, 1, filesIn("a", "12")},
		{[]int64{0}, 2, filesIn("a", "123")},
		{[]int64{0}, 3, filesIn("a", "123")},
		{[]int64{1}, 0, filesIn("a", "1", "b", "")},
		{[]int64{1}, 2, filesIn("a", "1", "b", "45")},
		{[]int64{1}, 3, filesIn("a", "1", "b", "456")},
		{[]int64{1}, 4, filesIn("a", "1", "b", "456")},
		{[]int64{0, 1}, 0, filesIn("a", "123", "b", "")},
		{[]int64{0, 1}, math.MaxInt64, filesIn("a", "123", "b", "456")},
		{[]int64{0, 1, 2}, 0, filesIn("a", "123", "c", "456")},
		{[]int64{1, 2}, 1, filesIn("a", "1", "c", "456")},
		{[]int64{2}, 0, filesIn("a", "1")},
		{[]int64{0, 2}, 1, filesIn("a", "123")},
		{nil, 0, filesIn("a", "1")},
		{nil, 5, filesIn("a", "1")},
	} {
		if got, ok := impl.Crash(d, c.keep, c.torn); !ok || !sameDisk(got, synced(c.want)) {
			t.Errorf("%v, %d: %v, %v", c.keep, c.torn, got, ok)
		}
	}
}

func TestP6WhatIsKeptHasPlacesThatRise(t *testing.T) {
	d := diskByHand(filesIn("a", "1"), behind("a", "2"), behind("b", "3"), behind("c", "4"))
	none := func(keep []int64, torn int64) {
		t.Helper()
		if got, ok := impl.Crash(d, keep, torn); ok || !sameDisk(got, impl.Disk{}) {
			t.Errorf("%v, %d: %v, %v", keep, torn, got, ok)
		}
	}
	for _, keep := range [][]int64{{0, 0}, {1, 0}, {0, 2, 1}, {0, 1, 1}, {2, 2}, {3}, {-1}, {-1, 0}, {0, 3}, {0, 1, 2, 3}, {math.MaxInt64}, {math.MinInt64}, {1 << 32}} {
		none(keep, 0)
		none(keep, 1)
	}
	for _, keep := range [][]int64{nil, {}, {0}, {0, 1, 2}} {
		none(keep, -1)
		none(keep, math.MinInt64)
		if _, ok := impl.Crash(d, keep, 0); !ok {
			t.Error(keep)
		}
	}
	d = synced(filesIn("a", "1"))
	none([]int64{0}, 0)
	none([]int64{-1}, 0)
}

func TestP6OpsWhoseFileWasNotKeptDoNothing(t *testing.T) {
	d := diskByHand(filesIn("a", "1"), behind("b", "2"), rename("b", "c"), behind("c", "3"), rename("c", "a"), remove("a"), behind("a", "4"))
	for _, c := range []struct {
		keep []int64
		want []impl.File
	}{
		{[]int64{1}, filesIn("a", "1")},
		{[]int64{1, 2}, filesIn("a", "1", "c", "3")},
		{[]int64{0, 3}, filesIn("a", "1", "b", "2")},
		{[]int64{3}, filesIn("a", "1")},
		{[]int64{1, 3}, filesIn("a", "1")},
		{[]int64{0, 1, 3}, filesIn("a", "2")},
		{[]int64{4}, nil},
		{[]int64{1, 3, 4, 5}, filesIn("a", "4")},
		{[]int64{3, 5}, filesIn("a", "14")},
		{[]int64{0, 2, 4}, filesIn("b", "2", "c", "3")},
	} {
		if got, ok := impl.Crash(d, c.keep, 9); !ok || !sameDisk(got, synced(c.want)) {
			t.Errorf("%v: %v, %v", c.keep, got, ok)
		}
	}
}

func TestP6TooManyAtTheEndOrOnlyOnTheWay(t *testing.T) {
	files := diskByHand(manyFiles(60), remove("file000"), behind("y", ""), remove("file001"), behind("z", ""), rename("z", "y"))
	whole := strings.Repeat("w", 200000)
	bytes := diskByHand(filesIn("a", whole), remove("a"), behind("b", whole[:150000]), remove("b"), behind("c", whole[:100000]))
	for _, c := range []struct {
		d    impl.Disk
		keep []int64
		torn int64
		ok   bool
	}{
		{files, []int64{1}, 0, false},
		{files, []int64{1, 2}, 0, true},
		{files, []int64{0, 1}, 0, true},
		{files, []int64{1, 3}, 0, false},
		{files, []int64{1, 2, 3}, 0, false},
		{files, []int64{1, 2, 3, 4}, 0, true},
		{files, []int64{0, 1, 3}, 0, false},
		{files, []int64{0, 3, 4}, 0, true},
		{bytes, []int64{1}, 0, true},
		{bytes, []int64{1}, 1, false},
		{bytes, []int64{1, 2}, 0, true},
		{bytes, []int64{0, 1, 3}, 50000, true},
		{bytes, []int64{0, 1, 3}, 50001, false},
		{bytes, []int64{0, 1, 3}, math.MaxInt64, false},
		{bytes, []int64{1, 2, 3}, 0, true},
		{bytes, []int64{1, 2, 3}, 1, false},
	} {
		right(t, "ahead of it", c.d)
		want := impl.Disk{}
		if c.ok {
			want = leftByHand(c.d, c.keep, c.torn)
		}
		if got, ok := impl.Crash(c.d, c.keep, c.torn); ok != c.ok || !sameDisk(got, want) {
			t.Errorf("%v, %d: %v", c.keep, c.torn, ok)
		}
	}
	grown := diskByHand(nil, slices.Repeat([]impl.DOp{behind("a", whole), remove("a")}, 100)...)
	var appends []int64
	for place := int64(0); place < 200; place += 2 {
		appends = append(appends, place)
	}
	if _, ok := impl.Crash(grown, appends, math.MaxInt64); ok {
		t.Error("a hundred times as many bytes")
	}
	if got, ok := impl.Crash(grown, append(appends, 199), 0); !ok || !sameDisk(got, impl.Disk{}) {
		t.Error("a hundred times as many bytes on the way", ok)
	}
}

func TestP6FilesAreReadAsTheyAreSeen(t *testing.T) {
	d := diskByHand(filesIn("a", "1", "b", "2", "c", ""), behind("a", "x"), remove("b"), rename("c", "d"))
	for _, c := range []struct {
		name string
		data string
		ok   bool
	}{
		{"a", "1x", true},
		{"b", "", false},
		{"c", "", false},
		{"d", "", true},
		{"", "", false},
		{"A", "", false},
		{"a\x00", "", false},
		{"z", "", false},
		{strings.Repeat("a", 101), "", false},
	} {
		if data, ok := impl.ReadFile(d, c.name); data != c.data || ok != c.ok {
			t.Errorf("%q is %q, %v", c.name, data, ok)
		}
	}
	if data, ok := impl.ReadFile(impl.Disk{}, "a"); ok || data != "" {
		t.Error("no files", data)
	}
}

func TestP6AFileIsReplaced(t *testing.T) {
	for _, c := range []struct {
		safe []impl.File
		name string
		data string
		ops  []impl.DOp
	}{
		{nil, "a", "new", []impl.DOp{behind("a.new", "new"), rename("a.new", "a")}},
		{nil, "a", "", []impl.DOp{behind("a.new", ""), rename("a.new", "a")}},
		{filesIn("a", "old"), "a", "new", []impl.DOp{behind("a.new", "new"), rename("a.new", "a")}},
		{filesIn("a", "old", "a.new", "x"), "a", "new", []impl.DOp{remove("a.new"), behind("a.new", "new"), rename("a.new", "a")}},
		{filesIn("a.new", "x"), "a", "", []impl.DOp{remove("a.new"), behind("a.new", ""), rename("a.new", "a")}},
		{filesIn("a", "old", "b.new", "x"), "a", "new", []impl.DOp{behind("a.new", "new"), rename("a.new", "a")}},
		{filesIn("a", "old"), "a.new", "new", []impl.DOp{behind("a.new.new", "new"), rename("a.new.new", "a.new")}},
		{nil, strings.Repeat("n", 96), "new", []impl.DOp{behind(strings.Repeat("n", 96)+".new", "new"), rename(strings.Repeat("n", 96)+".new", strings.Repeat("n", 96))}},
	} {
		want := diskByHand(c.safe, c.ops...)
		got, code := impl.Replace(synced(c.safe), c.name, c.data)
		if code != impl.DkOk || !sameDisk(got, want) {
			t.Errorf("%q of %v: %v, %d", c.name, c.safe, got, code)
		}
		right(t, c.name, got)
		if data, ok := impl.ReadFile(got, c.name); !ok || data != c.data {
			t.Errorf("%q of %v: %q, %v", c.name, c.safe, data, ok)
		}
	}
	d := diskByHand(filesIn("a", "old"), behind("a.new", "x"), behind("b", "y"))
	want := diskByHand(filesIn("a", "old"), behind("a.new", "x"), behind("b", "y"), remove("a.new"), behind("a.new", "new"), rename("a.new", "a"))
	if got, code := impl.Replace(d, "a", "new"); code != impl.DkOk || !sameDisk(got, want) {
		t.Error("behind other ops", got, code)
	}
}

func TestP6AReplaceThatIsRefusedLeavesTheDisk(t *testing.T) {
	whole := strings.Repeat("w", 200000)
	ops := func(size int) []impl.DOp { return slices.Repeat([]impl.DOp{behind("a", "")}, size) }
	sixty := append(manyFiles(59), filesIn("z.new", "x")...)
	for _, c := range []struct {
		word string
		d    impl.Disk
		name string
		data string
		code int64
	}{
		{"no name", synced(filesIn("a", "1")), "", "new", impl.DkForm},
		{"no name, a file .new", synced(filesIn(".new", "1")), "", "new", impl.DkForm},
		{"no name, no ops left for it", diskByHand(nil, ops(199)...), "", "", impl.DkForm},
		{"no name, no ops left at all", diskByHand(nil, ops(200)...), "", "", impl.DkFull},
		{"a name of 97 bytes", impl.Disk{}, strings.Repeat("n", 97), "new", impl.DkForm},
		{"a name of 97 bytes that is there", synced(filesIn(strings.Repeat("n", 97), "1")), strings.Repeat("n", 97), "new", impl.DkForm},
		{"a name of 101 bytes", impl.Disk{}, strings.Repeat("n", 101), "new", impl.DkForm},
		{"200 ops", diskByHand(nil, ops(200)...), "b", "new", impl.DkFull},
		{"199 ops", diskByHand(nil, ops(199)...), "b", "new", impl.DkFull},
		{"200 ops, the first is a removal", diskByHand(filesIn("b.new", "x"), ops(200)...), "b", "new", impl.DkFull},
		{"199 ops, the first is a removal", diskByHand(filesIn("b.new", "x"), ops(199)...), "b", "new", impl.DkFull},
		{"198 ops, the first is a removal", diskByHand(filesIn("b.new", "x"), ops(198)...), "b", "new", impl.DkFull},
		{"60 files", synced(manyFiles(60)), "file000", "new", impl.DkFull},
		{"too many bytes for both", synced(filesIn("a", whole[1:])), "a", "xy", impl.DkFull},
		{"too many bytes behind a removal", synced(filesIn("a", whole[2:], "a.new", "x")), "a", "xyz", impl.DkFull},
		{"too many bytes at once", impl.Disk{}, "a", whole + "x", impl.DkFull},
	} {
		right(t, c.word, c.d)
		if got, code := impl.Replace(c.d, c.name, c.data); code != c.code || !sameDisk(got, c.d) {
			t.Errorf("%s: %d, not %d, %.100v", c.word, code, c.code, got)
		}
	}
	for _, c := range []struct {
		word string
		d    impl.Disk
		name string
		data string
	}{
		{"198 ops", diskByHand(nil, ops(198)...), "b", "new"},
		{"197 ops, the first is a removal", diskByHand(filesIn("b.new", "x"), ops(197)...), "b", "new"},
		{"59 files", synced(manyFiles(59)), "file000", "new"},
		{"60 files with that which goes", synced(sixty), "z", "new"},
		{"as many bytes as there may be", synced(filesIn("a", whole[1:])), "a", "x"},
		{"as many behind a removal", synced(filesIn("a", whole[2:], "a.new", "x")), "a", "xy"},
		{"as many at once", impl.Disk{}, "a", whole},
	} {
		got, code := impl.Replace(c.d, c.name, c.data)
		if data, ok := impl.ReadFile(got, c.name); code != impl.DkOk || !ok || data != c.data {
			t.Errorf("%s: %d", c.word, code)
		}
	}
}

func TestP6AReplacedFileIsTheOldOneOrTheNewOne(t *testing.T) {
	others := filesIn("b", "2", "b.new", "3", "x", "4")
	for _, old := range []string{"", "o", "old", "older and longer"} {
		for _, data := range []string{"", "n", "new", "new and longer yet"} {
			d := synced(filesByHand(namesByHand(append(filesIn("a", old), others...))))
			changed, code := impl.Replace(d, "a", data)
			if code != impl.DkOk || len(changed.Ops) != 2 {
				t.Fatal(changed, code)
			}
			for _, keep := range [][]int64{nil, {0}, {1}, {0, 1}} {
				for torn := range int64(len(data) + 2) {
					left, ok := impl.Crash(changed, keep, torn)
					got, there := impl.ReadFile(left, "a")
					want := old
					if len(keep) == 2 {
						want = data
					}
					if !ok || !there || got != want {
						t.Errorf("%q, %q, %v, %d: %q, %v, %v", old, data, keep, torn, got, there, ok)
					}
					for _, other := range others {
						if got, _ := impl.ReadFile(left, other.Name); got != other.Data {
							t.Errorf("%v, %v is %q", keep, other, got)
						}
					}
				}
			}
		}
	}
}

func TestP6WhereThereIsNoFileYetItIsNoneOrTheNewOne(t *testing.T) {
	changed, code := impl.Replace(synced(filesIn("b", "2")), "a", "new")
	if code != impl.DkOk {
		t.Fatal(code)
	}
	for _, keep := range [][]int64{nil, {0}, {1}, {0, 1}} {
		left, ok := impl.Crash(changed, keep, 1)
		got, there := impl.ReadFile(left, "a")
		if whole := len(keep) == 2; !ok || there != whole || whole && got != "new" {
			t.Errorf("%v: %q, %v, %v", keep, got, there, ok)
		}
	}
}

// roomy is d with room behind each list, in which marks stand.
func roomy(d impl.Disk) (impl.Disk, func() bool) {
	live := append(slices.Clone(d.Live), filesIn("mark", "live", "mark", "live")...)
	safe := append(slices.Clone(d.Safe), filesIn("mark", "safe", "mark", "safe")...)
	ops := append(slices.Clone(d.Ops), behind("mark", "op"), behind("mark", "op"))
	before := copiedDisk(impl.Disk{Live: live, Safe: safe, Ops: ops})
	same := func() bool {
		return sameDisk(before, impl.Disk{Live: live, Safe: safe, Ops: ops})
	}
	return impl.Disk{Live: live[:len(d.Live)], Safe: safe[:len(d.Safe)], Ops: ops[:len(d.Ops)]}, same
}

// spoilt writes into each place of a disk's lists, and into the room behind them.
func spoilt(d impl.Disk, live bool, safe bool) {
	files := func(list []impl.File) {
		list = list[:cap(list)]
		for i := range list {
			list[i] = impl.File{Name: "spoilt", Data: "spoilt"}
		}
	}
	if live {
		files(d.Live)
	}
	if safe {
		files(d.Safe)
	}
	ops := d.Ops[:cap(d.Ops)]
	for i := range ops {
		ops[i] = remove("spoilt")
	}
}

func TestP6AnswersAreNewMemory(t *testing.T) {
	ops := make([]impl.DOp, 0, 8)
	d, same := roomy(diskByHand(filesIn("a", "1", "b", "2"), append(ops, behind("a", "x"), behind("c", "3"), rename("b", "d"))...))
	keep := append(make([]int64, 0, 4), 0, 2)
	answers := []func() impl.Disk{
		func() impl.Disk { got, _ := impl.Do(d, behind("a", "y")); return got },
		func() impl.Disk { got, _ := impl.Do(d, rename("a", "c")); return got },
		func() impl.Disk { got, _ := impl.Do(d, impl.DOp{}); return got },
		func() impl.Disk { got, _ := impl.Do(d, remove("none")); return got },
		func() impl.Disk { got, _ := impl.Do(d, behind("a", strings.Repeat("w", 200000))); return got },
		func() impl.Disk { return impl.Sync(d) },
		func() impl.Disk { got, _ := impl.Crash(d, keep, 1); return got },
		func() impl.Disk { got, _ := impl.Crash(d, nil, 0); return got },
		func() impl.Disk { got, _ := impl.Replace(d, "a", "y"); return got },
		func() impl.Disk { got, _ := impl.Replace(d, "", "y"); return got },
	}
	for i, answer := range answers {
		first, second, third := answer(), answer(), answer()
		if !sameDisk(first, second) || !sameDisk(first, third) || len(first.Live) == 0 {
			t.Fatalf("%d: %v, %v", i, first, second)
		}
		spoilt(first, true, true)
		if !same() || !slices.Equal(keep[:4], []int64{0, 2, 0, 0}) {
			t.Fatalf("%d: an argument was written into", i)
		}
		if !sameDisk(answer(), second) {
			t.Fatalf("%d: an answer was kept", i)
		}
		safe := slices.Clone(second.Safe)
		spoilt(second, true, false)
		if !slices.Equal(second.Safe, safe) {
			t.Fatalf("%d: what is seen and what is safe share a list", i)
		}
		live := slices.Clone(third.Live)
		spoilt(third, false, true)
		if !slices.Equal(third.Live, live) {
			t.Fatalf("%d: what is safe and what is seen share a list", i)
		}
	}
}

func TestP6EmptyListsAreAsNone(t *testing.T) {
	empty := impl.Disk{Live: []impl.File{}, Safe: []impl.File{}, Ops: []impl.DOp{}}
	for _, d := range []impl.Disk{{}, empty} {
		right(t, "no files", d)
		if got, code := impl.Do(d, behind("a", "")); code != impl.DkOk || !sameDisk(got, diskByHand(nil, behind("a", ""))) {
			t.Error(got, code)
		}
		if got, code := impl.Do(d, remove("a")); code != impl.DkNone || !sameDisk(got, d) {
			t.Error(got, code)
		}
		if got, ok := impl.Crash(d, []int64{}, 0); !ok || !sameDisk(got, d) {
			t.Error(got, ok)
		}
	}
}
