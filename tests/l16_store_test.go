package tests

import (
	"fmt"
	"maps"
	"math"
	"math/rand"
	"slices"
	"strings"
	"sync"
	"testing"
	"unsafe"

	"loop.example/g00214/impl"
)

func TestP16Limits(t *testing.T) {
	codes := []int64{impl.StOk, impl.StDisk, impl.StNone, impl.StBad, impl.StThere, impl.StTorn, impl.StFull, impl.StPower, impl.StForm}
	if !slices.Equal(codes, []int64{0, 1, 2, 3, 4, 5, 6, 7, 8}) {
		t.Error(codes)
	}
	kinds := []int64{impl.AcNew, impl.AcWrite, impl.AcFlush, impl.AcCompact, impl.AcOpen, impl.AcCrash}
	if !slices.Equal(kinds, []int64{1, 2, 3, 4, 5, 6}) {
		t.Error(kinds)
	}
}

func TestP16FileNames(t *testing.T) {
	for _, c := range []struct {
		word string
		n    int64
		want string
	}{
		{"", 7, ""}, {"l", 7, "l-7"}, {"log", 7, "log-7"}, {"table", 12, "table-12"}, {"-", 0, "--0"}, {"\x00", 3, "\x00-3"},
		{strings.Repeat("w", 19), 7, strings.Repeat("w", 19) + "-7"}, {strings.Repeat("w", 20), 7, strings.Repeat("w", 20) + "-7"},
		{strings.Repeat("w", 20), 1000000, strings.Repeat("w", 20) + "-1000000"}, {strings.Repeat("w", 21), 7, ""}, {strings.Repeat("w", 1000), 7, ""},
		// Bytes are counted, not letters.
		{strings.Repeat("ü", 10), 1, strings.Repeat("ü", 10) + "-1"}, {strings.Repeat("ü", 11), 1, ""},
		{"log", math.MinInt64, ""}, {"log", -10, ""}, {"log", -1, ""}, {"log", 0, "log-0"}, {"log", 1, "log-1"}, {"log", 9, "log-9"}, {"log", 10, "log-10"}, {"log", 100, "log-100"},
		{"log", 123456, "log-123456"}, {"log", 999999, "log-999999"}, {"log", 1000000, "log-1000000"}, {"log", 1000001, ""}, {"log", 1 << 32, ""}, {"log", 1<<32 + 5, ""}, {"log", math.MaxInt64, ""},
		{"", -1, ""}, {"", 1000001, ""}, {strings.Repeat("w", 21), -1, ""},
	} {
		if got := impl.FileName(c.word, c.n); got != c.want {
			t.Errorf("%.30q, %d: %q, not %q", c.word, c.n, got, c.want)
		}
	}
}

// A storeDraft is what the files of a store have, right or not.
type storeDraft struct {
	version impl.Version
	files   map[string]string
}

// bareStore has a manifest alone.
func bareStore(v impl.Version) storeDraft {
	return storeDraft{version: v, files: map[string]string{}}
}

// draftOfStore has a table of each row, the newest first, all of level 0, and a
// log of the number behind them.
func draftOfStore(seq int64, log string, rows ...[]impl.Entry) storeDraft {
	many := int64(len(rows))
	s := bareStore(versionOf(2*many+2, seq, 2*many+1))
	for i, row := range rows {
		num := 2 * (many - int64(i))
		s.version.Files = append(s.version.Files, meta(num, 0, row[0].Key.User, row[len(row)-1].Key.User, int64(len(row))))
		s.files[fmt.Sprint("table-", num)], _ = impl.TableOf(row, shape(4, 60, num%3))
	}
	s.files[fmt.Sprint("log-", 2*many+1)] = log
	return s
}

// with is the draft with other files, told by name, data, name, data ..
func (s storeDraft) with(words ...string) storeDraft {
	s.files = maps.Clone(s.files)
	for i := 0; i < len(words); i += 2 {
		s.files[words[i]] = words[i+1]
	}
	return s
}

func (s storeDraft) without(name string) storeDraft {
	s.files = maps.Clone(s.files)
	delete(s.files, name)
	return s
}

// disk has the draft's files, and its manifest unless there is another one among them.
func (s storeDraft) disk() impl.Disk {
	files := maps.Clone(s.files)
	if _, there := files["manifest"]; !there {
		files["manifest"] = sectionByHand(versionByHand(s.version))
	}
	return synced(filesByHand(files))
}

// unsynced is d as if what is seen had been made out of nothing by one op a file,
// files of the last names first.
func unsynced(d impl.Disk) impl.Disk {
	var ops []impl.DOp
	for _, file := range slices.Backward(d.Live) {
		ops = append(ops, behind(file.Name, file.Data))
	}
	return diskByHand(nil, ops...)
}

// batchLog is a log of batches, the first one with the number seq, each later one
// with the next number that is free.
func batchLog(seq int64, batches ...[]impl.Op) string {
	var records []string
	for _, ops := range batches {
		records = append(records, batchByHand(impl.Batch{Seq: seq, Ops: ops}))
		seq += int64(len(ops))
	}
	data, _ := logOf(records...)
	return data
}

// fewBatches cross the ends of blocks, put and delete.
func fewBatches() [][]impl.Op {
	return [][]impl.Op{{set("a", "1"), set("b", "2")}, {del("a")}, {set("c", someText(90)), set("a", "3"), del("none")}, {set("b", "")}}
}

// fewTables have the numbers 1 .. 8, the newest first.
func fewTables() [][]impl.Entry {
	return [][]impl.Entry{
		valued("new", gone("a", 8), put("d", 7)),
		valued("mid", put("a", 6), gone("c", 5), put("e", 4)),
		valued("old", put("b", 3), put("c", 2), put("d", 1)),
	}
}

// eachUser is a row of size users, one entry each, from the number seq on.
func eachUser(size int, seq int64, value string) []impl.Entry {
	var row []impl.Entry
	for i := range size {
		row = append(row, impl.Entry{Key: put(fmt.Sprintf("user%04d", i), seq+int64(i)), Value: value})
	}
	return row
}

// inTables is a draft whose tables have so many entries, in as many tables as it takes.
func inTables(size int, log string) storeDraft {
	var rows [][]impl.Entry
	for begin := 0; begin < size; begin += 100 {
		rows = append(rows, eachUser(min(100, size-begin), int64(begin+1), "v"))
	}
	return draftOfStore(int64(size), log, rows...)
}

// manyTables is a draft of so many tables of an entry each.
func manyTables(many int, log string) storeDraft {
	var rows [][]impl.Entry
	for i := range many {
		rows = append(rows, valued("v", put(fmt.Sprint("user", i%7), int64(many-i))))
	}
	return draftOfStore(int64(many), log, rows...)
}

// A namedDisk is a disk, and what there is about it.
type namedDisk struct {
	word string
	disk impl.Disk
}

// tornLogs are logs that are not good to their end, behind the number 8.
func tornLogs() map[string]string {
	good := batchLog(9, fewBatches()...)
	records, _ := readByHand(good)
	logs := map[string]string{
		"a byte alone":                  "x",
		"a nought alone":                "\x00",
		"a byte behind":                 good + "x",
		"noughts behind":                good + zeros(10),
		"a record that is no batch":     impl.WriteLog(0, "record"),
		"an empty record":               impl.WriteLog(0, ""),
		"a batch without ops":           impl.WriteLog(0, "\x09\x00"),
		"a batch with a byte more":      impl.WriteLog(0, records[0]+"\x00"),
		"a batch of the last number":    batchLog(8, fewBatches()...),
		"a batch of a number too great": batchLog(10, fewBatches()...),
		"a batch of number 0":           batchLog(0, fewBatches()...),
		"no batch, then good ones":      good[:len(impl.WriteLog(0, records[0]))] + impl.WriteLog(int64(len(impl.WriteLog(0, records[0]))), "record") + batchLog(11, fewBatches()[1:]...),
		"21 ops":                        impl.WriteLog(0, batchByHand(impl.Batch{Seq: 9, Ops: manyOps(21)})),
	}
	for i := 1; i < len(records); i++ {
		other := slices.Clone(records)
		other[i] = batchByHand(impl.Batch{Seq: 9, Ops: fewBatches()[0]})
		logs[fmt.Sprint("batch ", i, " of an older number")], _ = logOf(other...)
		other = slices.Delete(slices.Clone(records), i, i+1)
		if i < len(records)-1 {
			logs[fmt.Sprint("batch ", i, " left out")], _ = logOf(other...)
		}
		other = slices.Insert(slices.Clone(records), i, "record")
		logs[fmt.Sprint("no batch ahead of ", i)], _ = logOf(other...)
		logs[fmt.Sprint("batch ", i, " twice")], _ = logOf(slices.Insert(slices.Clone(records), i, records[i])...)
	}
	return logs
}

// storesByHand are right disks with stores that are not broken.
func storesByHand() []namedDisk {
	good, tables := batchLog(9, fewBatches()...), draftOfStore(8, "", fewTables()...)
	bare := bareStore(versionOf(2, 0, 1))
	logged := tables.with("log-7", good)
	list := []namedDisk{
		{"new", bare.disk()},
		{"of Next 1 and log 0", bareStore(versionOf(1, 0, 0)).disk()},
		{"a log 0", bareStore(versionOf(1, 0, 0)).with("log-0", batchLog(1, fewBatches()...)).disk()},
		{"an empty log", bare.with("log-1", "").disk()},
		{"a log", bare.with("log-1", batchLog(1, fewBatches()...)).disk()},
		{"a log alone, of a later number", bareStore(versionOf(9, 8, 4)).with("log-4", good).disk()},
		{"tables", tables.disk()},
		{"tables, no log", tables.without("log-7").disk()},
		{"tables and a log", logged.disk()},
		{"tables and a log, not synced", unsynced(logged.disk())},
		{"Seq above all that the tables have", draftOfStore(40, batchLog(41, fewBatches()...), fewTables()...).disk()},
		{"a batch of the greatest size", bare.with("log-1", batchLog(1, manyOps(20), slices.Repeat([]impl.Op{set(strings.Repeat("u", 40), strings.Repeat("v", 200))}, 20))).disk()},
		{"deletions alone in tables", draftOfStore(8, good, valued("", gone("a", 8), gone("b", 7)), valued("", gone("a", 6))).disk()},
		{"all deleted in tables", draftOfStore(8, good, valued("", gone("a", 8), gone("b", 7)), valued("v", put("a", 6), put("b", 1))).disk()},
		{"deletions alone in the log", bare.with("log-1", batchLog(1, []impl.Op{del("a"), del("b")}, []impl.Op{del("a")})).disk()},
		{"one Seq of two users, and of two kinds", draftOfStore(8, good, valued("v", put("a", 8), put("b", 8)), valued("w", gone("a", 8), put("c", 8))).disk()},
		{"Seq 0 in a table", draftOfStore(0, batchLog(1, fewBatches()...), valued("v", put("a", 0), gone("b", 0))).disk()},
		{"files that nobody asks for", logged.with("a", "1", "lo", "", "log-6", good, "log-70", good, "manifest.old", "x", "table-1", "x", "table-20", "", "zz", "2", "log-07", "x").disk()},
		{"what an act before left", logged.with("manifest.new", "some bytes", "table-8", "some more", "log-9", batchLog(9, []impl.Op{set("x", "y")})).disk()},
		{"what an act before left, not synced", unsynced(logged.with("manifest.new", "some bytes", "table-8", "some more", "log-9", batchLog(9, []impl.Op{set("x", "y")})).disk())},
		{"each of them alone, the first", logged.with("manifest.new", "").disk()},
		{"each of them alone, the second", logged.with("table-8", "").disk()},
		{"each of them alone, the third", logged.with("log-9", "").disk()},
		{"ops that come to nothing", diskByHand(logged.disk().Live, behind("z", "1"), rename("z", "y"), remove("y"))},
	}
	levels := tables
	levels.version.Files = []impl.Meta{meta(2, 0, "b", "d", 3), meta(4, 1, "a", "e", 3), meta(6, 3, "a", "d", 2)}
	other := tables
	other.version.Files = []impl.Meta{meta(6, 0, "x", "z", 77), meta(4, 2, "\x00", "\x00", 1), meta(2, 2, "q", "r", 400)}
	list = append(list, namedDisk{"tables of several levels", levels.with("log-7", good).disk()}, namedDisk{"a manifest that tells other users than the tables", other.with("log-7", good).disk()})
	for _, word := range slices.Sorted(maps.Keys(tornLogs())) {
		list = append(list, namedDisk{"torn: " + word, tables.with("log-7", tornLogs()[word]).disk()})
	}
	list = append(list,
		namedDisk{"torn, no tables, no good batch", bare.with("log-1", "x").disk()},
		namedDisk{"torn, no tables", bare.with("log-1", batchLog(1, fewBatches()...)+"x").disk()},
		namedDisk{"torn, and files that an act before left", tables.with("log-7", good+"x", "manifest.new", "m", "table-8", "t", "log-9", "l", "other", "o").disk()},
		namedDisk{"torn, and files that an act before left, not synced", unsynced(tables.with("log-7", good+"x", "manifest.new", "m", "table-8", "t", "log-9", "l", "other", "o").disk())},
	)
	return append(list, storesAtLimits()...)
}

// storesAtLimits have as much of something as there may be, or nearly.
func storesAtLimits() []namedDisk {
	batch := []impl.Op{set("x", "1"), del("y"), set("z", "3")}
	var list []namedDisk
	for _, many := range []int{380, 381, 396, 397, 398, 400} {
		list = append(list,
			namedDisk{fmt.Sprint(many, " entries in tables"), inTables(many, "").disk()},
			namedDisk{fmt.Sprint(many, " entries in tables, a batch of 3"), inTables(many, batchLog(int64(many+1), batch)).disk()},
		)
	}
	var batches [][]impl.Op
	for range 20 {
		batches = append(batches, manyOps(20))
	}
	list = append(list,
		namedDisk{"400 entries in the log", bareStore(versionOf(2, 0, 1)).with("log-1", batchLog(1, batches...)).disk()},
		namedDisk{"400 entries in the log, and a batch", bareStore(versionOf(2, 0, 1)).with("log-1", batchLog(1, append(batches, batch)...)).disk()},
		namedDisk{"600 batches", bareStore(versionOf(2, 0, 1)).with("log-1", batchLog(1, slices.Repeat([][]impl.Op{{set("a", "x")}}, 600)...)).disk()},
		namedDisk{"too much for a table", bareStore(versionOf(2, 0, 1)).with("log-1", wideLog(1, 15)).disk()},
		namedDisk{"too much for a table, torn", bareStore(versionOf(2, 0, 1)).with("log-1", wideLog(1, 15)+"x", "other", "o", "table-2", "t").disk()},
		namedDisk{"too much for a table, torn, nothing else", bareStore(versionOf(2, 0, 1)).with("log-1", wideLog(1, 15)+"x").disk()},
		namedDisk{"too much for one table", draftOfStore(300, "", splitWide(2, 150)...).disk()},
	)
	for _, many := range []int{20, 21, 29, 30} {
		log := batchLog(int64(many+1), batch)
		list = append(list, namedDisk{fmt.Sprint(many, " tables"), manyTables(many, log).disk()}, namedDisk{fmt.Sprint(many, " tables, torn"), manyTables(many, log+"x").disk()})
	}
	for _, next := range []int64{999997, 999998, 999999, 1000000} {
		s := draftOfStore(8, batchLog(9, batch), fewTables()...)
		s.version.Next = next
		list = append(list, namedDisk{fmt.Sprint("Next ", next), s.disk()}, namedDisk{fmt.Sprint("Next ", next, ", torn"), s.with("log-7", batchLog(9, batch)+"x").disk()},
			namedDisk{fmt.Sprint("Next ", next, ", torn, and files"), s.with("log-7", "x", fmt.Sprint("table-", next), "t", fmt.Sprint("log-", next+1), "l", "b", "").disk()})
		s.version.Log = next - 1
		list = append(list, namedDisk{fmt.Sprint("log ", next-1), s.with(fmt.Sprint("log-", next-1), batchLog(9, batch)).disk()})
	}
	for _, seq := range []int64{impl.MaxSeq - 23, impl.MaxSeq - 22, impl.MaxSeq - 21, impl.MaxSeq - 20, impl.MaxSeq - 1, impl.MaxSeq} {
		s := draftOfStore(seq, "", valued("v", put("a", seq), put("b", 5)))
		list = append(list, namedDisk{fmt.Sprint("Seq ", seq), s.disk()}, namedDisk{fmt.Sprint("Seq ", seq, " and a log"), s.with("log-3", batchLog(seq+1, batch)).disk()},
			namedDisk{fmt.Sprint("Seq ", seq, " and a torn log"), s.with("log-3", batchLog(seq+1, batch, batch)+"x").disk()})
	}
	few := draftOfStore(8, batchLog(9, batch), fewTables()...)
	for _, many := range []int{58, 59, 60} {
		s := few
		for i := len(s.disk().Live); i < many; i++ {
			s = s.with(fmt.Sprintf("file%02d", i), "x")
		}
		list = append(list, namedDisk{fmt.Sprint(many, " files"), s.disk()}, namedDisk{fmt.Sprint(many, " files with manifest.new"), s.without("file10").with("manifest.new", "x").disk()},
			namedDisk{fmt.Sprint(many, " files, torn"), s.with("log-7", batchLog(9, batch)+"x").disk()})
	}
	for _, spare := range []int{0, 1, 40, 60, 200, 300, 400} {
		list = append(list, namedDisk{fmt.Sprint("room for ", spare, " bytes"), packedStore(few, spare).disk()})
	}
	for _, many := range []int{190, 195, 197, 198, 199, 200} {
		for word, s := range map[string]storeDraft{"": few, " and files": few.with("b", "1", "c", "2", "table-8", "x"), " and a torn log": few.with("log-7", "x")} {
			list = append(list, namedDisk{fmt.Sprint(many, " ops", word), diskByHand(s.disk().Live, slices.Repeat([]impl.DOp{behind("other", "")}, many)...)})
		}
	}
	slices.SortFunc(list, func(a, b namedDisk) int { return strings.Compare(a.word, b.word) })
	return list
}

// wideLog is a log of so many batches of 20 entries of the greatest size.
func wideLog(seq int64, many int) string {
	var batches [][]impl.Op
	for i := range many {
		var ops []impl.Op
		for j := range 20 {
			ops = append(ops, set(fmt.Sprintf("%02d%02d%s", i, j, strings.Repeat("u", 36)), strings.Repeat("v", 200)))
		}
		batches = append(batches, ops)
	}
	return batchLog(seq, batches...)
}

// splitWide is so many rows of so many entries of the greatest size.
func splitWide(many int, size int) [][]impl.Entry {
	var rows [][]impl.Entry
	for i := range many {
		rows = append(rows, eachUser(size, int64((many-i-1)*size+1), strings.Repeat("v", 200)))
	}
	return rows
}

// brokenStores have a manifest, but are broken.
func brokenStores() []namedDisk {
	tables := draftOfStore(8, batchLog(9, fewBatches()...), fewTables()...)
	manifest := sectionByHand(versionByHand(tables.version))
	turned := []byte(manifest)
	turned[3] ^= 1
	list := []namedDisk{
		{"an empty manifest", tables.with("manifest", "").disk()},
		{"a manifest of some bytes", tables.with("manifest", "manifest").disk()},
		{"a manifest with a byte more", tables.with("manifest", manifest+"\x00").disk()},
		{"a manifest with a byte ahead", tables.with("manifest", "\x00"+manifest).disk()},
		{"a manifest with a byte less", tables.with("manifest", manifest[:len(manifest)-1]).disk()},
		{"a manifest twice", tables.with("manifest", manifest+manifest).disk()},
		{"a manifest with a bit turned over", tables.with("manifest", string(turned)).disk()},
		{"a manifest of a version that is not right", tables.with("manifest", sectionByHand(versionByHand(versionOf(2, 0, 2)))).disk()},
		{"a manifest of no files and none else", synced(filesIn("manifest", "x"))},
		{"a table whose newest is above Seq", draftOfStore(7, "", fewTables()...).disk()},
		{"a table whose deletion alone is above Seq", draftOfStore(7, "", valued("v", gone("a", 8), put("b", 2))).disk()},
		{"an older table with one above Seq", draftOfStore(8, "", fewTables()[0], valued("v", put("a", 2), put("b", 9)), fewTables()[2]).disk()},
		{"Seq 0 and an entry of 1", draftOfStore(0, "", valued("v", put("a", 1))).disk()},
		{"a Key in two tables", draftOfStore(8, "", valued("v", put("a", 5)), valued("v", put("a", 5))).disk()},
		{"a Key in two tables, other values", draftOfStore(8, "", valued("v", put("a", 8), put("b", 3)), valued("w", put("a", 2), put("b", 3))).disk()},
		{"a deletion in two tables", draftOfStore(8, "", valued("v", gone("a", 5), put("c", 1)), valued("v", put("b", 4)), valued("v", gone("a", 5))).disk()},
		{"401 entries in tables", inTables(401, "").disk()},
		{"401 entries in tables and a log", inTables(401, batchLog(402, fewBatches()...)).disk()},
		{"500 entries in tables", inTables(500, "").disk()},
	}
	for _, num := range []string{"2", "4", "6"} {
		text := tables.files["table-"+num]
		list = append(list,
			namedDisk{"no table " + num, tables.without("table-" + num).disk()},
			namedDisk{"no table " + num + ", but one like it", tables.without("table-"+num).with("table-0"+num, text, "table-1"+num, text).disk()},
			namedDisk{"an empty table " + num, tables.with("table-"+num, "").disk()},
			namedDisk{"a table " + num + " with a byte more", tables.with("table-"+num, text+"\x00").disk()},
			namedDisk{"a table " + num + " with a byte less", tables.with("table-"+num, text[:len(text)-1]).disk()},
			namedDisk{"a table " + num + " of other bytes", tables.with("table-"+num, strings.Repeat("x", len(text))).disk()},
		)
	}
	return list
}

// withoutManifest have none.
func withoutManifest() []namedDisk {
	tables := draftOfStore(8, batchLog(9, fewBatches()...), fewTables()...)
	left := slices.DeleteFunc(tables.disk().Live, func(f impl.File) bool { return f.Name == "manifest" })
	manifest := sectionByHand(versionByHand(tables.version))
	return []namedDisk{
		{"nothing at all", impl.Disk{}},
		{"empty lists", impl.Disk{Live: []impl.File{}, Safe: []impl.File{}, Ops: []impl.DOp{}}},
		{"a file", synced(filesIn("a", "1"))},
		{"all but the manifest", synced(left)},
		{"a manifest.new", synced(filesIn("Manifest", manifest, "manifest.new", manifest, "manifests", manifest))},
		{"a manifest that was removed", diskByHand(tables.disk().Live, remove("manifest"))},
		{"a manifest that was renamed", diskByHand(tables.disk().Live, rename("manifest", "a"), behind("z", "1"))},
		{"60 files", synced(manyFiles(60))},
		{"60 files, one manifest.new", synced(append(manyFiles(59), filesIn("manifest.new", "x")...))},
		{"200 ops, no file", diskByHand(nil, slices.Repeat([]impl.DOp{behind("a", "1"), remove("a")}, 100)...)},
		{"200 ops, a file", diskByHand(filesIn("a", "1"), slices.Repeat([]impl.DOp{behind("a", "")}, 200)...)},
		{"199 ops, two files", diskByHand(filesIn("a", "1", "b", "2"), slices.Repeat([]impl.DOp{behind("a", "")}, 199)...)},
		{"198 ops, two files", diskByHand(filesIn("a", "1", "b", "2"), slices.Repeat([]impl.DOp{behind("a", "")}, 198)...)},
		{"all bytes that there may be", synced(filesIn("a", strings.Repeat("w", 200000)))},
	}
}

// wrongDisks are not right, but have all that a store has.
func wrongDisks() []namedDisk {
	d := draftOfStore(8, batchLog(9, fewBatches()...), fewTables()...).disk()
	files := d.Live
	other := slices.Clone(files)
	other[0].Data += "x"
	swapped := slices.Clone(files)
	swapped[3], swapped[4] = swapped[4], swapped[3]
	list := []namedDisk{
		{"seen but not made", impl.Disk{Live: files}},
		{"safe but not seen", impl.Disk{Safe: files}},
		{"safe is other data", impl.Disk{Live: files, Safe: other}},
		{"a file less is safe", impl.Disk{Live: files, Safe: files[:4]}},
		{"an op that is not seen", impl.Disk{Live: files, Safe: files, Ops: []impl.DOp{behind("a", "")}}},
		{"files that do not rise", synced(swapped)},
		{"a file twice", synced(slices.Insert(slices.Clone(files), 2, files[2]))},
		{"a name of no bytes", synced(append(filesIn("", "x"), files...))},
		{"a name of 101 bytes", synced(append(slices.Clone(files), filesIn(strings.Repeat("z", 101), "x")...))},
		{"61 files", synced(append(manyFiles(56), files...))},
		{"too many bytes", synced(append(slices.Clone(files), filesIn("z", strings.Repeat("w", 200000))...))},
		{"201 ops", diskByHand(files, slices.Repeat([]impl.DOp{behind("other", "")}, 201)...)},
		{"an op that finds no file", impl.Disk{Live: files, Safe: files, Ops: []impl.DOp{remove("none")}}},
		{"no store either", impl.Disk{Live: filesIn("a", "1")}},
	}
	for i, op := range oddOps() {
		list = append(list, namedDisk{fmt.Sprint("odd op ", i), impl.Disk{Live: files, Safe: files, Ops: []impl.DOp{op}}})
	}
	return list
}

// A stored is what is told of a store by looks at its disk.
type stored struct {
	version impl.Version
	tables  []impl.Entry
	log     []impl.Entry
	last    int64
	size    int
	good    bool
}

// storedByHand is the store on a right disk, and the code of StoreView.
func storedByHand(d impl.Disk) (stored, int64) {
	files := namesByHand(d.Live)
	if _, there := files["manifest"]; !there {
		return stored{}, impl.StNone
	}
	v, ok := versionRead(files["manifest"])
	if !ok {
		return stored{}, impl.StBad
	}
	s := stored{version: v, last: v.Seq}
	keys := map[impl.Key]int{}
	for _, f := range v.Files {
		row, ok := impl.ReadTable(files[fmt.Sprint("table-", f.Num)])
		if !ok {
			return stored{}, impl.StBad
		}
		for _, e := range row {
			keys[e.Key]++
			if keys[e.Key] > 1 || e.Key.Seq > v.Seq || len(keys) > 400 {
				return stored{}, impl.StBad
			}
		}
		s.tables = append(s.tables, row...)
	}
	sortByHand(s.tables)
	log := files[fmt.Sprint("log-", v.Log)]
	records, _ := readByHand(log)
	_, ends := logOf(records...)
	end := 0
	for i, record := range records {
		b, ok := impl.ReadBatch(record)
		if !ok || b.Seq != s.last+1 || len(s.tables)+len(s.log)+len(b.Ops) > 400 {
			break
		}
		for _, op := range b.Ops {
			s.last++
			s.log = append(s.log, impl.Entry{Key: impl.Key{User: op.User, Seq: s.last, Kind: op.Kind}, Value: op.Value})
		}
		end = ends[i]
	}
	sortByHand(s.log)
	s.size, s.good = len(log), end == len(log)
	return s, impl.StOk
}

func (s stored) all() []impl.Entry {
	row := slices.Concat(s.tables, s.log)
	sortByHand(row)
	return row
}

// pairsOf is a view, whatever the code.
func pairsOf(d impl.Disk) []impl.Pair {
	pairs, _, _ := impl.StoreView(d)
	return pairs
}

// holdView holds what is told of the store on a right disk to looks by hand.
func holdView(t *testing.T, word string, d impl.Disk) int64 {
	t.Helper()
	s, code := storedByHand(d)
	var want []impl.Pair
	if code == impl.StOk {
		want = visibleByHand(s.all(), s.last)
	}
	got, last, gotCode := impl.StoreView(d)
	if gotCode != code || last != s.last || !slices.Equal(got, want) {
		t.Fatalf("%s: %d, %d, %s, not %d, %d, %s", word, gotCode, last, brief(got), code, s.last, brief(want))
	}
	users := []string{"", "a", "b", "c", "none", "user0000", "user0399", strings.Repeat("u", 40), strings.Repeat("u", 41)}
	for i, e := range s.all() {
		if i%40 == 0 {
			users = append(users, e.Key.User, e.Key.User+"\x00")
		}
	}
	for _, user := range users {
		wantCode, wantValue := gotByHand(s.all(), user, s.last)
		if wantCode == impl.GtGone {
			wantCode = impl.GtNone
		}
		if code != impl.StOk {
			wantCode = impl.GtBad
		}
		if gotCode, value := impl.StoreGet(d, user); gotCode != wantCode || value != wantValue {
			t.Fatalf("%s: %q is %d, %.50q, not %d, %.50q", word, user, gotCode, value, wantCode, wantValue)
		}
	}
	return code
}

func TestP16WhatAStoreHas(t *testing.T) {
	for _, c := range storesByHand() {
		if code := holdView(t, c.word, c.disk); code != impl.StOk {
			t.Errorf("%s: %d", c.word, code)
		}
	}
	for _, c := range brokenStores() {
		if code := holdView(t, c.word, c.disk); code != impl.StBad {
			t.Errorf("%s: %d", c.word, code)
		}
	}
	for _, c := range withoutManifest() {
		if code := holdView(t, c.word, c.disk); code != impl.StNone {
			t.Errorf("%s: %d", c.word, code)
		}
	}
}

func TestP16ViewsThatAreTold(t *testing.T) {
	tables, good := draftOfStore(8, "", fewTables()...), batchLog(9, fewBatches()...)
	below := pairsIn("b", "old", "d", "new", "e", "mid")
	for _, c := range []struct {
		word string
		d    impl.Disk
		last int64
		want []impl.Pair
	}{
		{"a new one", bareStore(versionOf(2, 0, 1)).disk(), 0, nil},
		{"tables", tables.disk(), 8, below},
		{"tables without a log", tables.without("log-7").disk(), 8, below},
		{"a log of another number", tables.without("log-7").with("log-6", good, "log-8", good).disk(), 8, below},
		{"all", tables.with("log-7", good).disk(), 15, pairsIn("a", "3", "b", "", "c", someText(90), "d", "new", "e", "mid")},
		{"one batch", tables.with("log-7", batchLog(9, fewBatches()[:1]...)).disk(), 10, pairsIn("a", "1", "b", "2", "d", "new", "e", "mid")},
		{"two batches", tables.with("log-7", batchLog(9, fewBatches()[:2]...)).disk(), 11, pairsIn("b", "2", "d", "new", "e", "mid")},
		{"an older batch", tables.with("log-7", batchLog(8, fewBatches()...)).disk(), 8, below},
		{"Seq above the tables, batches of the table's next number", draftOfStore(12, good, fewTables()...).disk(), 12, below},
		{"Seq above the tables", draftOfStore(12, batchLog(13, []impl.Op{del("e")}), fewTables()...).disk(), 13, pairsIn("b", "old", "d", "new")},
		{"a batch that makes 400", inTables(397, batchLog(398, []impl.Op{set("x", "1"), del("user0000"), set("z", "3")})).disk(), 400, append(pairsOf(inTables(397, "").disk())[1:], pairsIn("x", "1", "z", "3")...)},
		{"a batch that makes 401", inTables(398, batchLog(399, []impl.Op{set("x", "1"), del("user0000"), set("z", "3")})).disk(), 398, pairsOf(inTables(398, "").disk())},
		{"a batch behind one that makes 401", inTables(398, batchLog(399, []impl.Op{set("x", "1")}, []impl.Op{set("y", "1"), set("z", "1")}, []impl.Op{set("w", "1")})).disk(), 399, append(pairsOf(inTables(398, "").disk()), pairsIn("x", "1")...)},
	} {
		if got, last, code := impl.StoreView(c.d); code != impl.StOk || last != c.last || !slices.Equal(got, c.want) {
			t.Errorf("%s: %d, %d, %s, not %d, %s", c.word, code, last, brief(got), c.last, brief(c.want))
		}
		for _, p := range c.want {
			if code, value := impl.StoreGet(c.d, p.User); code != impl.GtFound || value != p.Value {
				t.Errorf("%s: %q is %d, %q", c.word, p.User, code, value)
			}
		}
	}
}

func TestP16LogsThatAreCut(t *testing.T) {
	tables, good := draftOfStore(8, "", fewTables()...), batchLog(9, fewBatches()...)
	var records []string
	for i, ops := range fewBatches() {
		records = append(records, batchByHand(impl.Batch{Seq: 9 + []int64{0, 2, 3, 6}[i], Ops: ops}))
	}
	whole, ends := logOf(records...)
	if whole != good {
		t.Fatal("the test is wrong")
	}
	for cut := range len(good) + 1 {
		many, _ := firstOf(ends, cut)
		d := tables.with("log-7", good[:cut]).disk()
		holdView(t, fmt.Sprint("cut at ", cut), d)
		want, _, _ := impl.StoreView(tables.with("log-7", batchLog(9, fewBatches()[:many]...)).disk())
		if got, last, _ := impl.StoreView(d); last != []int64{8, 10, 11, 14, 15}[many] || !slices.Equal(got, want) {
			t.Errorf("cut at %d: %d, %s", cut, last, brief(got))
		}
		// Just behind a record the log is good to its end.
		wantCode := int64(impl.StTorn)
		if cut == 0 || slices.Contains(ends, cut) {
			wantCode = impl.StOk
		}
		for _, a := range []impl.Act{writing(set("x", "y")), acting(impl.AcFlush), acting(impl.AcCompact)} {
			if _, code := impl.StoreDo(d, a); code != wantCode {
				t.Errorf("cut at %d, kind %d: %d, not %d", cut, a.Kind, code, wantCode)
			}
		}
		opened, code := impl.StoreDo(d, acting(impl.AcOpen))
		if code != impl.StOk || !slices.Equal(pairsOf(opened), want) {
			t.Errorf("cut at %d, opened: %d, %s", cut, code, brief(pairsOf(opened)))
		}
		if _, code := impl.StoreDo(opened, writing(set("x", "y"))); code != impl.StOk {
			t.Errorf("cut at %d, opened and written: %d", cut, code)
		}
	}
}

func acting(kind int64) impl.Act {
	return impl.Act{Kind: kind, Shape: shape(4, 60, 2), Power: -1}
}

func writing(ops ...impl.Op) impl.Act {
	return impl.Act{Kind: impl.AcWrite, Ops: ops, Power: -1}
}

func sure(ops ...impl.Op) impl.Act {
	return impl.Act{Kind: impl.AcWrite, Ops: ops, Sync: true, Power: -1}
}

func crashing(torn int64, keep ...int64) impl.Act {
	return impl.Act{Kind: impl.AcCrash, Shape: shape(4, 60, 2), Power: -1, Keep: keep, Torn: torn}
}

func powered(a impl.Act, power int64) impl.Act {
	a.Power = power
	return a
}

// Among the steps that a planner tells these are no ops: a Sync, and where it
// shows that the act is refused.
const (
	syncStep = 0
	fullStep = -1
)

// A planner tells all steps of an act ahead of the first one, as it keeps by hand
// which files are there.
type planner struct {
	names map[string]bool
	steps []impl.DOp
}

func plannerOn(d impl.Disk) *planner {
	p := &planner{names: map[string]bool{}}
	for _, f := range d.Live {
		p.names[f.Name] = true
	}
	return p
}

func (p *planner) sync() {
	p.steps = append(p.steps, impl.DOp{Kind: syncStep})
}

func (p *planner) put(name string, data string) {
	p.steps = append(p.steps, behind(name, data))
	p.names[name] = true
}

func (p *planner) remove(name string) {
	p.steps = append(p.steps, remove(name))
	delete(p.names, name)
}

func (p *planner) gone(name string) {
	if p.names[name] {
		p.remove(name)
		p.sync()
	}
}

func (p *planner) switched(v impl.Version) {
	p.gone("manifest.new")
	p.put("manifest.new", sectionByHand(versionByHand(v)))
	p.steps = append(p.steps, rename("manifest.new", "manifest"))
	delete(p.names, "manifest.new")
	p.sync()
}

func (p *planner) swept(v impl.Version) {
	stay := map[string]bool{"manifest": true, fmt.Sprint("log-", v.Log): true}
	for _, f := range v.Files {
		stay[fmt.Sprint("table-", f.Num)] = true
	}
	for _, name := range slices.Sorted(maps.Keys(p.names)) {
		if !stay[name] {
			p.remove(name)
		}
	}
}

// table plans a table of row at that level for the version v of s, of which the rest is told.
func (p *planner) table(s stored, v impl.Version, row []impl.Entry, level int64, shape impl.Shape) {
	num := s.version.Next
	v.Next = num + 2
	text := ""
	if len(row) > 0 {
		fresh := meta(num, level, row[0].Key.User, row[len(row)-1].Key.User, int64(len(row)))
		// At level 0 no number is greater, at MaxLevel there is no other file.
		v.Files = append([]impl.Meta{fresh}, v.Files...)
		text, _ = impl.TableOf(row, shape)
	}
	if len(row) > 0 && text == "" || !versionRight(v) {
		p.steps = append(p.steps, impl.DOp{Kind: fullStep})
		return
	}
	if len(row) > 0 {
		p.gone(fmt.Sprint("table-", num))
		p.put(fmt.Sprint("table-", num), text)
	}
	if v.Log != s.version.Log {
		p.gone(fmt.Sprint("log-", v.Log))
	}
	p.sync()
	p.switched(v)
	p.swept(v)
}

func (p *planner) flushed(s stored, shape impl.Shape) {
	p.table(s, versionOf(0, s.last, s.version.Next+1, s.version.Files...), s.log, 0, shape)
}

// plannedByHand is the disk with which an act on a right disk begins, its steps,
// and the code when there are none as it is refused.
func plannedByHand(d impl.Disk, a impl.Act) (impl.Disk, []impl.DOp, int64) {
	shaped := a.Kind == impl.AcFlush || a.Kind == impl.AcCompact || a.Kind == impl.AcOpen || a.Kind == impl.AcCrash
	if a.Kind < 1 || a.Kind > 6 || shaped && !impl.ShapeOk(a.Shape) {
		return d, nil, impl.StForm
	}
	if a.Kind == impl.AcCrash {
		left, ok := impl.Crash(d, a.Keep, a.Torn)
		if !ok {
			return d, nil, impl.StForm
		}
		d = left
	}
	p := plannerOn(d)
	if a.Kind == impl.AcNew {
		if p.names["manifest"] {
			return d, nil, impl.StThere
		}
		for _, f := range d.Live {
			p.remove(f.Name)
		}
		p.sync()
		p.switched(versionOf(2, 0, 1))
		return d, p.steps, impl.StOk
	}
	s, code := storedByHand(d)
	if code == impl.StOk {
		code = p.planned(s, a)
	}
	return d, p.steps, code
}

// planned plans an act on a store.
func (p *planner) planned(s stored, a impl.Act) int64 {
	switch a.Kind {
	case impl.AcWrite:
		batch := impl.Batch{Seq: s.last + 1, Ops: a.Ops}
		if len(a.Ops) < 1 || len(a.Ops) > 20 || s.last > 1000000000000-21 || slices.ContainsFunc(a.Ops, func(op impl.Op) bool { return !opFine(op) }) {
			return impl.StForm
		}
		if !s.good {
			return impl.StTorn
		}
		if len(s.all())+len(a.Ops) > 400 {
			return impl.StFull
		}
		p.put(fmt.Sprint("log-", s.version.Log), writtenByHand(int64(s.size), batchByHand(batch)))
		if a.Sync {
			p.sync()
		}
		return impl.StOk
	case impl.AcOpen, impl.AcCrash:
		p.swept(s.version)
		if !s.good {
			p.flushed(s, a.Shape)
		}
		return impl.StOk
	}
	if !s.good {
		return impl.StTorn
	}
	if a.Kind == impl.AcFlush && len(s.log) > 0 {
		p.flushed(s, a.Shape)
	}
	if a.Kind == impl.AcCompact && len(s.version.Files) > 0 {
		p.table(s, versionOf(0, s.version.Seq, s.version.Log), compactedByHand(s.tables, nil, true), 3, a.Shape)
	}
	return impl.StOk
}

func roomOn(d impl.Disk) bool {
	size := 0
	for _, f := range d.Live {
		size += len(f.Data)
	}
	return len(d.Live) <= 60 && len(d.Ops) <= 200 && size <= 200000
}

// doneByHand is what StoreDo is to answer for a right disk, and the disk with which the act began.
func doneByHand(d impl.Disk, a impl.Act) (impl.Disk, impl.Disk, int64) {
	start, steps, code := plannedByHand(d, a)
	if code != impl.StOk {
		return start, start, code
	}
	now := start
	for i, op := range steps {
		if op.Kind == fullStep {
			return start, start, impl.StFull
		}
		if int64(i) == a.Power {
			return now, start, impl.StPower
		}
		if op.Kind == syncStep {
			now = synced(now.Live)
			continue
		}
		now = diskByHand(now.Safe, append(slices.Clone(now.Ops), op)...)
		if !roomOn(now) {
			return start, start, impl.StFull
		}
	}
	return now, start, impl.StOk
}

func holdDone(t *testing.T, word string, d impl.Disk, a impl.Act) (impl.Disk, int64) {
	t.Helper()
	want, start, wantCode := doneByHand(d, a)
	got, code := impl.StoreDo(d, a)
	if code != wantCode || !sameDisk(got, want) {
		t.Fatalf("%s, %s: %d, %s, not %d, %s", word, brief(a), code, brief(got), wantCode, brief(want))
	}
	if !impl.DiskOk(got) {
		t.Fatalf("%s, %s: it leaves a disk that is not right", word, brief(a))
	}
	if a.Kind != impl.AcNew && a.Kind != impl.AcWrite {
		holdSameView(t, fmt.Sprintf("%s, %s", word, brief(a)), start, got)
	}
	return got, code
}

// holdSameView wants of both that they have the same.
func holdSameView(t *testing.T, word string, had impl.Disk, has impl.Disk) {
	t.Helper()
	before, beforeSeq, beforeCode := impl.StoreView(had)
	now, seq, code := impl.StoreView(has)
	if code != beforeCode || seq != beforeSeq || !slices.Equal(now, before) {
		t.Fatalf("%s: it had %d, %d, %s, and has %d, %d, %s", word, beforeCode, beforeSeq, brief(before), code, seq, brief(now))
	}
}

// holdAtEachPower does an act with each power up to what it wants, and with more.
func holdAtEachPower(t *testing.T, word string, d impl.Disk, a impl.Act) {
	t.Helper()
	whole, wholeCode := holdDone(t, word, d, powered(a, -1))
	for _, power := range []int64{math.MinInt64, -2, 300, math.MaxInt64} {
		if got, code := impl.StoreDo(d, powered(a, power)); code != wholeCode || !sameDisk(got, whole) {
			t.Fatalf("%s, %s with power %d: %d, %s", word, brief(a), power, code, brief(got))
		}
	}
	for power := int64(0); ; power++ {
		got, code := holdDone(t, word, d, powered(a, power))
		if code == impl.StPower {
			continue
		}
		if code != wholeCode || !sameDisk(got, whole) {
			t.Fatalf("%s, %s with power %d: %d, %s", word, brief(a), power, code, brief(got))
		}
		if more, code := holdDone(t, word, d, powered(a, power+1)); code != wholeCode || !sameDisk(more, whole) {
			t.Fatalf("%s, %s with power %d: %d", word, brief(a), power+1, code)
		}
		return
	}
}

func TestP16ActsOnEachStore(t *testing.T) {
	acts := []impl.Act{
		acting(impl.AcNew), acting(impl.AcFlush), acting(impl.AcCompact), acting(impl.AcOpen), crashing(0), crashing(5),
		writing(set("a", "x")), sure(set("b", "y"), del("a")), {Kind: impl.AcWrite, Ops: manyOps(20), Power: -1},
	}
	for _, c := range slices.Concat(storesByHand(), brokenStores(), withoutManifest()) {
		for _, a := range acts {
			if len(c.disk.Live) > 20 {
				// Of an act with so many steps a few powers are told elsewhere.
				holdDone(t, c.word, c.disk, a)
				for _, power := range []int64{0, 1, 2, 3, 20, 30} {
					holdDone(t, c.word, c.disk, powered(a, power))
				}
				continue
			}
			holdAtEachPower(t, c.word, c.disk, a)
		}
	}
}

func TestP16ShapesOfTables(t *testing.T) {
	d := draftOfStore(8, batchLog(9, fewBatches()...), fewTables()...).disk()
	torn := draftOfStore(8, batchLog(9, fewBatches()...)+"x", fewTables()...).disk()
	for _, p := range rightShapes() {
		for _, kind := range []int64{impl.AcFlush, impl.AcCompact} {
			got, code := holdDone(t, "right", d, impl.Act{Kind: kind, Shape: p, Power: -1})
			text, _ := impl.ReadFile(got, "table-8")
			if told, _, _, ok := impl.TableProps(text); code != impl.StOk || !ok || told != p {
				t.Errorf("kind %d, %v: %d, %v, %v", kind, p, code, told, ok)
			}
		}
		got, code := holdDone(t, "right", torn, impl.Act{Kind: impl.AcOpen, Shape: p, Power: -1})
		text, _ := impl.ReadFile(got, "table-8")
		if told, _, _, ok := impl.TableProps(text); code != impl.StOk || !ok || told != p {
			t.Errorf("opened, %v: %d, %v, %v", p, code, told, ok)
		}
	}
	bare, _ := impl.StoreDo(impl.Disk{}, acting(impl.AcNew))
	broken := d
	broken.Live = filesIn("manifest", "x")
	broken.Safe = broken.Live
	for _, p := range wrongShapes() {
		// Whatever else there is about the disk, and whether a table would be made or not.
		for _, disk := range []impl.Disk{d, torn, bare, broken, {}} {
			for _, kind := range []int64{impl.AcFlush, impl.AcCompact, impl.AcOpen, impl.AcCrash} {
				for _, power := range []int64{-1, 0} {
					if got, code := impl.StoreDo(disk, impl.Act{Kind: kind, Shape: p, Power: power, Keep: []int64{77}}); code != impl.StForm || !sameDisk(got, disk) {
						t.Errorf("kind %d, %v: %d", kind, p, code)
					}
				}
			}
		}
		if _, code := impl.StoreDo(d, impl.Act{Kind: impl.AcWrite, Ops: []impl.Op{set("a", "x")}, Shape: p, Power: -1}); code != impl.StOk {
			t.Errorf("written, %v: %d", p, code)
		}
		if _, code := impl.StoreDo(impl.Disk{}, impl.Act{Kind: impl.AcNew, Shape: p, Power: -1}); code != impl.StOk {
			t.Errorf("new, %v: %d", p, code)
		}
	}
}

func TestP16KindsThatAreNone(t *testing.T) {
	for _, kind := range []int64{math.MinInt64, -6, -1, 0, 7, 8, 256 + 2, 1<<32 + 2, math.MaxInt64} {
		for _, c := range slices.Concat(storesByHand()[:12], brokenStores()[:3], withoutManifest()) {
			a := impl.Act{Kind: kind, Ops: []impl.Op{set("a", "x")}, Sync: true, Shape: shape(4, 60, 2), Power: -1}
			for _, power := range []int64{-1, 0, 5} {
				if got, code := impl.StoreDo(c.disk, powered(a, power)); code != impl.StForm || !sameDisk(got, c.disk) {
					t.Errorf("%s, kind %d: %d", c.word, kind, code)
				}
			}
		}
	}
}

func TestP16WrongDisksAreRefused(t *testing.T) {
	acts := []impl.Act{acting(impl.AcNew), writing(set("a", "x")), sure(), acting(impl.AcFlush), acting(impl.AcCompact), acting(impl.AcOpen), crashing(0), crashing(-1, 5), acting(0), acting(7), {Kind: impl.AcFlush, Power: -1}}
	for _, c := range wrongDisks() {
		if impl.DiskOk(c.disk) {
			t.Fatal(c.word, "is right")
		}
		if pairs, seq, code := impl.StoreView(c.disk); code != impl.StDisk || seq != 0 || len(pairs) != 0 {
			t.Errorf("%s: %d, %d, %s", c.word, code, seq, brief(pairs))
		}
		for _, user := range []string{"a", "d", "", "none"} {
			if code, value := impl.StoreGet(c.disk, user); code != impl.GtBad || value != "" {
				t.Errorf("%s: %q is %d, %q", c.word, user, code, value)
			}
		}
		for _, a := range acts {
			for _, power := range []int64{-1, 0, 1} {
				if got, code := impl.StoreDo(c.disk, powered(a, power)); code != impl.StDisk || !sameDisk(got, impl.Disk{}) {
					t.Errorf("%s, %s: %d, %s", c.word, brief(a), code, brief(got))
				}
			}
		}
		for many := range len(acts) {
			if got, codes := impl.StorePlay(c.disk, acts[:many]); len(codes) != 0 || !sameDisk(got, impl.Disk{}) {
				t.Errorf("%s, %d acts: %v, %s", c.word, many, codes, brief(got))
			}
		}
	}
}

// stepsOf tells the steps of an act by what each more of power does.
func stepsOf(t *testing.T, d impl.Disk, a impl.Act) string {
	t.Helper()
	var steps []string
	last := d
	if a.Kind == impl.AcCrash {
		last, _ = impl.Crash(d, a.Keep, a.Torn)
	}
	for power := int64(0); ; power++ {
		now, code := impl.StoreDo(d, powered(a, power))
		if power > 0 {
			step := "sync"
			if many := len(now.Ops); many > 0 && many == len(last.Ops)+1 {
				op := now.Ops[many-1]
				step = strings.TrimSpace([]string{"", "append", "rename", "remove"}[op.Kind] + " " + op.Name + " " + op.To)
			} else if !sameDisk(now, synced(last.Live)) {
				t.Fatalf("with power %d: %s behind %s", power, brief(now), brief(last))
			}
			steps = append(steps, step)
		} else if !sameDisk(now, last) {
			t.Fatalf("without power: %s", brief(now))
		}
		if last = now; code != impl.StPower {
			if code != impl.StOk {
				t.Fatalf("with power %d: %d", power, code)
			}
			// The last one was the same with all power.
			return strings.Join(steps, ", ")
		}
	}
}

func TestP16StepsInTheirOrder(t *testing.T) {
	bare, logged := bareStore(versionOf(2, 0, 1)), batchLog(1, fewBatches()...)
	tables, good := draftOfStore(8, "", fewTables()...), batchLog(9, fewBatches()...)
	const switched = "append manifest.new, rename manifest.new manifest, sync"
	for _, c := range []struct {
		word string
		d    impl.Disk
		a    impl.Act
		want string
	}{
		{"new on an empty disk", impl.Disk{}, acting(impl.AcNew), "sync, " + switched},
		{"new with other files", synced(filesIn("a", "1", "log-1", "2", "manifest.new", "3", "z", "")), acting(impl.AcNew), "remove a, remove log-1, remove manifest.new, remove z, sync, " + switched},
		{"written", bare.disk(), writing(set("a", "x")), "append log-1"},
		{"written and synced", bare.disk(), sure(set("a", "x")), "append log-1, sync"},
		{"a flush", bare.with("log-1", logged).disk(), acting(impl.AcFlush), "append table-2, sync, " + switched + ", remove log-1"},
		{"a flush with tables", tables.with("log-7", good).disk(), acting(impl.AcFlush), "append table-8, sync, " + switched + ", remove log-7"},
		{"a flush of nothing", tables.disk(), acting(impl.AcFlush), ""},
		{"a flush with what is left over", bare.with("log-1", logged, "a", "", "log-3", "x", "manifest.new", "y", "table-2", "z", "zz", "").disk(), acting(impl.AcFlush),
			"remove table-2, sync, append table-2, remove log-3, sync, sync, remove manifest.new, sync, " + switched + ", remove a, remove log-1, remove zz"},
		{"a flush with a log left over", bare.with("log-1", logged, "log-3", "x").disk(), acting(impl.AcFlush), "append table-2, remove log-3, sync, sync, " + switched + ", remove log-1"},
		{"a flush with a table left over", bare.with("log-1", logged, "table-2", "x").disk(), acting(impl.AcFlush), "remove table-2, sync, append table-2, sync, " + switched + ", remove log-1"},
		{"compacted", tables.with("log-7", good, "log-9", "x").disk(), acting(impl.AcCompact), "append table-8, sync, " + switched + ", remove log-9, remove table-2, remove table-4, remove table-6"},
		{"compacted with what is left over", tables.with("log-7", good, "manifest.new", "", "table-8", "").disk(), acting(impl.AcCompact),
			"remove table-8, sync, append table-8, sync, remove manifest.new, sync, " + switched + ", remove table-2, remove table-4, remove table-6"},
		{"compacted to nothing", draftOfStore(8, "", valued("", gone("a", 8)), valued("v", put("a", 6))).with("table-6", "x").disk(), acting(impl.AcCompact), "sync, " + switched + ", remove table-2, remove table-4, remove table-6"},
		{"compacted, no tables", bare.with("log-1", logged).disk(), acting(impl.AcCompact), ""},
		{"opened", tables.with("log-7", good).disk(), acting(impl.AcOpen), ""},
		{"opened with what is left over", tables.with("log-7", good, "log-9", "x", "manifest.new", "y", "table-8", "z", "a", "").disk(), acting(impl.AcOpen), "remove a, remove log-9, remove manifest.new, remove table-8"},
		{"opened, the log torn", tables.with("log-7", good+"x").disk(), acting(impl.AcOpen), "append table-8, sync, " + switched + ", remove log-7"},
		{"opened, the log torn, with what is left over", tables.with("log-7", good+"x", "log-9", "x", "manifest.new", "y", "table-8", "z", "a", "").disk(), acting(impl.AcOpen),
			"remove a, remove log-9, remove manifest.new, remove table-8, append table-8, sync, " + switched + ", remove log-7"},
		{"opened, no good batch in the log", tables.with("log-7", "x", "log-9", "x").disk(), acting(impl.AcOpen), "remove log-9, sync, " + switched + ", remove log-7"},
		{"a crash", diskByHand(tables.disk().Live, behind("log-7", good)), crashing(1000, 0), ""},
		{"a crash that tears the log", diskByHand(tables.disk().Live, behind("log-7", good), behind("a", "b")), crashing(90, 0), "append table-8, sync, " + switched + ", remove log-7"},
		{"a crash that leaves a file", diskByHand(tables.disk().Live, behind("log-7", good), behind("a", "b")), crashing(1, 1), "remove a"},
	} {
		if got := stepsOf(t, c.d, c.a); got != c.want {
			t.Errorf("%s: %s, not %s", c.word, got, c.want)
		}
	}
}

// manifestOf is the version of the manifest that is seen on d.
func manifestOf(d impl.Disk) impl.Version {
	text, _ := impl.ReadFile(d, "manifest")
	v, _ := impl.ReadVersion(text)
	return v
}

func TestP16VersionsThatAreSwitchedTo(t *testing.T) {
	tables, good := draftOfStore(8, "", fewTables()...), batchLog(9, fewBatches()...)
	old := tables.version.Files
	for _, c := range []struct {
		word string
		d    impl.Disk
		kind int64
		want impl.Version
	}{
		{"new", synced(filesIn("a", "x")), impl.AcNew, versionOf(2, 0, 1)},
		{"a flush", tables.with("log-7", good).disk(), impl.AcFlush, versionOf(10, 15, 9, append([]impl.Meta{meta(8, 0, "a", "none", 7)}, old...)...)},
		{"a flush of one user", draftOfStore(8, batchLog(9, []impl.Op{set("x", "1"), del("x")}), fewTables()...).disk(), impl.AcFlush, versionOf(10, 10, 9, append([]impl.Meta{meta(8, 0, "x", "x", 2)}, old...)...)},
		{"a flush of nothing", tables.disk(), impl.AcFlush, tables.version},
		{"compacted", tables.with("log-7", good).disk(), impl.AcCompact, versionOf(10, 8, 7, meta(8, 3, "b", "e", 3))},
		{"compacted, one table", draftOfStore(8, good, fewTables()[0]).disk(), impl.AcCompact, versionOf(6, 8, 3, meta(4, 3, "d", "d", 1))},
		{"compacted to nothing", draftOfStore(8, good, valued("", gone("a", 8), gone("b", 7))).disk(), impl.AcCompact, versionOf(6, 8, 3)},
		{"compacted, no tables", bareStore(versionOf(2, 0, 1)).disk(), impl.AcCompact, versionOf(2, 0, 1)},
		{"opened", tables.with("log-7", good).disk(), impl.AcOpen, tables.version},
		{"opened, the log torn", tables.with("log-7", good+"x").disk(), impl.AcOpen, versionOf(10, 15, 9, append([]impl.Meta{meta(8, 0, "a", "none", 7)}, old...)...)},
		{"opened, no good batch in the log", tables.with("log-7", "x"+good).disk(), impl.AcOpen, versionOf(10, 8, 9, old...)},
	} {
		got, code := impl.StoreDo(c.d, acting(c.kind))
		if v := manifestOf(got); code != impl.StOk || !sameVersion(v, c.want) {
			t.Errorf("%s: %d, %v, not %v", c.word, code, v, c.want)
		}
	}
}

// A codeCase is an act, and the code that it is to tell.
type codeCase struct {
	word string
	d    impl.Disk
	a    impl.Act
	code int64
}

func holdCodes(t *testing.T, cases []codeCase) {
	t.Helper()
	for _, c := range cases {
		got, code := holdDone(t, c.word, c.d, c.a)
		if code != c.code {
			t.Errorf("%s: %d, not %d", c.word, code, c.code)
		}
		if code != impl.StOk && code != impl.StPower && !sameDisk(got, c.d) {
			t.Errorf("%s: %s", c.word, brief(got))
		}
	}
}

// busyDisk has the files of a store, and another one, for which so many ops were done.
func busyDisk(many int, s storeDraft) impl.Disk {
	return diskByHand(s.disk().Live, slices.Repeat([]impl.DOp{behind("other", "")}, many)...)
}

// packedStore is s with so few bytes left on its disk.
func packedStore(s storeDraft, spare int) storeDraft {
	used := 0
	for _, f := range s.disk().Live {
		used += len(f.Data)
	}
	return s.with("other", strings.Repeat("w", 200000-used-spare))
}

func TestP16CodesOfNewStoresAndBatches(t *testing.T) {
	tables, full := draftOfStore(8, "", fewTables()...), inTables(399, "")
	torn, packed := tables.with("log-7", batchLog(9, fewBatches()...)+"x"), packedStore(tables.with("log-7", batchLog(9, fewBatches()...)), 30)
	holdCodes(t, []codeCase{
		{"new, a store is there", tables.disk(), acting(impl.AcNew), impl.StThere},
		{"new, a manifest that is none is there", synced(filesIn("manifest", "")), acting(impl.AcNew), impl.StThere},
		{"new, a store is there, and no power", tables.disk(), powered(acting(impl.AcNew), 0), impl.StThere},
		{"new, too many ops to remove a file", diskByHand(filesIn("a", ""), slices.Repeat([]impl.DOp{behind("a", "")}, 200)...), acting(impl.AcNew), impl.StFull},
		{"new, too many ops to remove two", diskByHand(filesIn("a", "", "b", ""), slices.Repeat([]impl.DOp{behind("a", "")}, 199)...), acting(impl.AcNew), impl.StFull},
		{"written, no store", impl.Disk{}, writing(set("a", "x")), impl.StNone},
		{"written, no store and no ops", impl.Disk{}, writing(), impl.StNone},
		{"written, a broken store and no ops", tables.without("table-2").disk(), writing(), impl.StBad},
		{"written, no ops", tables.disk(), writing(), impl.StForm},
		{"written, 20 ops", tables.disk(), writing(manyOps(20)...), impl.StOk},
		{"written, 21 ops", tables.disk(), writing(manyOps(21)...), impl.StForm},
		{"written, 21 ops, and torn", torn.disk(), writing(manyOps(21)...), impl.StForm},
		{"written, torn and full", full.with("log-9", "x").disk(), writing(manyOps(2)...), impl.StTorn},
		{"written, 399 and 1", full.disk(), writing(manyOps(1)...), impl.StOk},
		{"written, 399 and 2", full.disk(), writing(manyOps(2)...), impl.StFull},
		{"written, 399 and 2, and no power", full.disk(), powered(writing(manyOps(2)...), 0), impl.StFull},
		{"written, 398 in tables, 1 in the log, and 2", inTables(398, batchLog(399, []impl.Op{del("x")})).disk(), writing(manyOps(2)...), impl.StFull},
		{"written, 200 ops of the disk", busyDisk(200, tables), writing(set("a", "x")), impl.StFull},
		{"written, 199 ops of the disk", busyDisk(199, tables), sure(set("a", "x")), impl.StOk},
		{"written, 200 ops of the disk, and no power", busyDisk(200, tables), powered(writing(set("a", "x")), 0), impl.StPower},
		{"written, too many bytes", packed.disk(), writing(set("a", strings.Repeat("v", 30))), impl.StFull},
		{"written, no more power than for it", tables.disk(), powered(sure(set("a", "x")), 1), impl.StPower},
		{"written without Sync, no more power than for it", tables.disk(), powered(writing(set("a", "x")), 1), impl.StOk},
	})
}

func TestP16CodesOfTablesAndCrashes(t *testing.T) {
	tables, good := draftOfStore(8, "", fewTables()...), batchLog(9, fewBatches()...)
	torn, packed := tables.with("log-7", good+"x"), packedStore(tables.with("log-7", good), 30)
	late := tables
	late.version.Next = 999999
	wide, less := bareStore(versionOf(2, 0, 1)).with("log-1", wideLog(1, 15)), bareStore(versionOf(2, 0, 1)).with("log-1", wideLog(1, 11))
	files := tables.with("log-7", good).disk().Live
	crowded := synced(append(manyFiles(60-len(files)), files...))
	holdCodes(t, []codeCase{
		{"a flush, torn", torn.disk(), acting(impl.AcFlush), impl.StTorn},
		{"a flush, torn, and no entries", tables.with("log-7", "x").disk(), acting(impl.AcFlush), impl.StTorn},
		{"a flush of nothing without power", tables.disk(), powered(acting(impl.AcFlush), 0), impl.StOk},
		{"a flush, no number left", late.with("log-7", good).disk(), acting(impl.AcFlush), impl.StFull},
		{"a flush, no number left, and no power", late.with("log-7", good).disk(), powered(acting(impl.AcFlush), 0), impl.StFull},
		{"a flush, 30 tables", manyTables(30, batchLog(31, fewBatches()...)).disk(), acting(impl.AcFlush), impl.StFull},
		{"a flush, 29 tables", manyTables(29, batchLog(30, fewBatches()...)).disk(), acting(impl.AcFlush), impl.StOk},
		{"a flush, too much for a table", wide.disk(), acting(impl.AcFlush), impl.StFull},
		{"a flush, too much for a table, and no power", wide.disk(), powered(acting(impl.AcFlush), 0), impl.StFull},
		{"a flush, less for a table of another shape", less.disk(), impl.Act{Kind: impl.AcFlush, Shape: shape(16, 4000, 0), Power: -1}, impl.StOk},
		{"a flush, the same for a table of small blocks", less.disk(), impl.Act{Kind: impl.AcFlush, Shape: shape(1, 20, 0), Power: -1}, impl.StFull},
		{"a flush, 60 files", crowded, acting(impl.AcFlush), impl.StFull},
		{"a flush, too many bytes", packed.disk(), acting(impl.AcFlush), impl.StFull},
		{"a flush, 200 ops of the disk", busyDisk(200, tables.with("log-7", good)), acting(impl.AcFlush), impl.StFull},
		{"a flush, 199 ops of the disk", busyDisk(199, tables.with("log-7", good)), acting(impl.AcFlush), impl.StOk},
		{"compacted, torn", torn.disk(), acting(impl.AcCompact), impl.StTorn},
		{"compacted, torn, no tables", bareStore(versionOf(2, 0, 1)).with("log-1", "x").disk(), acting(impl.AcCompact), impl.StTorn},
		{"compacted, no tables, and no power", bareStore(versionOf(2, 0, 1)).disk(), powered(acting(impl.AcCompact), 0), impl.StOk},
		{"compacted, 30 tables", manyTables(30, "").disk(), acting(impl.AcCompact), impl.StOk},
		{"compacted, no number left", late.disk(), acting(impl.AcCompact), impl.StFull},
		{"compacted, too much for a table", draftOfStore(1<<39, "", wideRow(150, 200), eachUser(150, 1, strings.Repeat("v", 200))).disk(), acting(impl.AcCompact), impl.StFull},
		{"opened, 200 ops of the disk", busyDisk(200, tables), acting(impl.AcOpen), impl.StFull},
		{"opened, 200 ops of the disk, and nothing to do", diskByHand(tables.disk().Live, slices.Repeat([]impl.DOp{behind("log-7", "")}, 200)...), acting(impl.AcOpen), impl.StOk},
		{"opened, torn, 199 ops and a file to remove", busyDisk(199, torn), acting(impl.AcOpen), impl.StFull},
		{"opened, torn, 198 ops and a file to remove", busyDisk(198, torn), acting(impl.AcOpen), impl.StOk},
		{"opened, torn, no number left", late.with("log-7", "x").disk(), acting(impl.AcOpen), impl.StFull},
		{"opened, torn, no number left, no power for what goes first", late.with("log-7", "x", "a", "").disk(), powered(acting(impl.AcOpen), 0), impl.StPower},
		{"opened, torn, too much for a table", wide.with("log-1", wideLog(1, 15)+"x", "a", "b").disk(), acting(impl.AcOpen), impl.StFull},
		{"a crash, no store", impl.Disk{}, crashing(0), impl.StNone},
		{"a crash, a broken store", tables.without("table-4").disk(), crashing(0), impl.StBad},
		{"a crash, no store, no form", impl.Disk{}, crashing(-1), impl.StForm},
		{"a crash, a broken store, no form", tables.without("table-4").disk(), crashing(0, 0), impl.StForm},
		{"a crash of nothing without power", tables.disk(), powered(crashing(0), 0), impl.StOk},
	})
}

func TestP16BatchesThatAreWritten(t *testing.T) {
	bare, _ := impl.StoreDo(impl.Disk{}, acting(impl.AcNew))
	tables := draftOfStore(8, batchLog(9, fewBatches()...), fewTables()...).disk()
	for _, d := range []impl.Disk{bare, tables} {
		for _, b := range append(rightBatches(), wrongBatches()...) {
			for _, sync := range []bool{false, true} {
				a := impl.Act{Kind: impl.AcWrite, Ops: b.Ops, Sync: sync, Power: -1}
				got, code := holdDone(t, "a batch", d, a)
				// The number of an act's batch is that of the store, whatever b's was.
				if fine := impl.BatchOk(impl.Batch{Seq: 1, Ops: b.Ops}); fine != (code == impl.StOk) || !fine && code != impl.StForm {
					t.Fatalf("%s: %d", brief(b), code)
				}
				if code == impl.StOk && (len(got.Ops) == 0) != sync {
					t.Fatalf("%s, %v: %d ops", brief(b), sync, len(got.Ops))
				}
			}
		}
	}
	for seq := int64(impl.MaxSeq - 24); seq <= impl.MaxSeq; seq++ {
		d := draftOfStore(seq, "", valued("v", put("a", seq))).disk()
		for _, size := range []int{1, 2, 20} {
			want := int64(impl.StForm)
			if seq+1 <= impl.MaxSeq-20 {
				want = impl.StOk
			}
			if _, code := holdDone(t, "late", d, writing(manyOps(size)...)); code != want {
				t.Errorf("%d ops behind %d: %d", size, seq, code)
			}
		}
	}
}

func TestP16WrittenOneByOne(t *testing.T) {
	now, _ := impl.StoreDo(impl.Disk{}, acting(impl.AcNew))
	state := map[string]string{}
	r := rand.New(rand.NewSource(71))
	for last := int64(0); last < 400; {
		var ops []impl.Op
		for range 1 + r.Intn(6) {
			ops = append(ops, dbOp(r))
		}
		next, code := holdDone(t, "one by one", now, impl.Act{Kind: impl.AcWrite, Ops: ops, Sync: len(now.Ops) > 8, Power: -1})
		if full := last+int64(len(ops)) > 400; full {
			if code != impl.StFull {
				t.Fatal(last, code)
			}
			continue
		}
		for _, op := range ops {
			doByHand(state, op)
		}
		last += int64(len(ops))
		pairs, seq, _ := impl.StoreView(next)
		if code != impl.StOk || seq != last || !slices.Equal(pairs, pairsByHand(state)) {
			t.Fatalf("behind %v: %d, %d, %s", ops, code, seq, brief(pairs))
		}
		now = next
	}
	// Flushed and compacted there is room again.
	now, _ = holdDone(t, "full", now, acting(impl.AcFlush))
	if _, code := holdDone(t, "flushed", now, writing(set("a", "x"))); code != impl.StFull {
		t.Error(code)
	}
	now, _ = holdDone(t, "flushed", now, acting(impl.AcCompact))
	if _, code := holdDone(t, "compacted", now, writing(manyOps(20)...)); code != impl.StOk || !slices.Equal(pairsOf(now), pairsByHand(state)) {
		t.Error(code)
	}
}

func pairsByHand(state map[string]string) []impl.Pair {
	var pairs []impl.Pair
	for _, user := range slices.Sorted(maps.Keys(state)) {
		pairs = append(pairs, impl.Pair{User: user, Value: state[user]})
	}
	return pairs
}

func TestP16CrashesOfAllForms(t *testing.T) {
	tables := draftOfStore(8, batchLog(9, fewBatches()...), fewTables()...).disk()
	d, _ := impl.StorePlay(tables, []impl.Act{writing(set("a", "new")), writing(del("b"), set("f", "6")), writing(set("a", "newer"))})
	if len(d.Ops) != 3 {
		t.Fatal(len(d.Ops))
	}
	for _, keep := range [][]int64{{0, 0}, {1, 0}, {3}, {-1}, {0, 3}, {0, 1, 2, 3}, {2, 1, 0}, {math.MinInt64}, {math.MaxInt64}, {1 << 32}} {
		for _, torn := range []int64{0, 5, math.MaxInt64} {
			if got, code := holdDone(t, "wrong", d, crashing(torn, keep...)); code != impl.StForm || !sameDisk(got, d) {
				t.Errorf("%v: %d", keep, code)
			}
		}
	}
	for _, keep := range [][]int64{nil, {}, {0}, {1}, {2}, {0, 1}, {0, 2}, {1, 2}, {0, 1, 2}} {
		for _, torn := range []int64{-1, math.MinInt64} {
			if got, code := holdDone(t, "wrong", d, crashing(torn, keep...)); code != impl.StForm || !sameDisk(got, d) {
				t.Errorf("%v, %d: %d", keep, torn, code)
			}
		}
		for torn := range int64(len(d.Ops[2].Data) + 3) {
			got, code := holdDone(t, "right", d, crashing(torn, keep...))
			want := 0
			for want < len(keep) && keep[want] == int64(want) && (want < len(keep)-1 || torn >= int64(len(d.Ops[want].Data))) {
				want++
			}
			if _, seq, _ := impl.StoreView(got); code != impl.StOk || seq != []int64{15, 16, 18, 19}[want] {
				t.Errorf("%v, %d: %d, %d", keep, torn, code, seq)
			}
			if _, code := holdDone(t, "behind it", got, writing(set("z", "z"))); code != impl.StOk {
				t.Errorf("%v, %d, written: %d", keep, torn, code)
			}
		}
	}
	// What is kept of another op than an append is whole.
	d, _ = impl.Do(tables, rename("manifest", "other"))
	if got, code := holdDone(t, "renamed", d, crashing(0, 0)); code != impl.StNone || !sameDisk(got, synced(d.Live)) {
		t.Error("renamed", code)
	}
	if got, code := holdDone(t, "not renamed", d, crashing(0)); code != impl.StOk || !sameDisk(got, tables) {
		t.Error("not renamed", code)
	}
	// What comes behind it is refused: the disk is as the crash left it.
	late := draftOfStore(8, "", fewTables()...)
	late.version.Next = 999999
	d, _ = impl.StorePlay(late.with("other", "x").disk(), []impl.Act{writing(set("a", "new")), writing(set("b", "new"))})
	for torn := range int64(len(d.Ops[1].Data) + 2) {
		left, _ := impl.Crash(d, []int64{0, 1}, torn)
		got, code := holdDone(t, "no number left", d, crashing(torn, 0, 1))
		if whole := torn == 0 || torn >= int64(len(d.Ops[1].Data)); whole != (code == impl.StOk) || !whole && (code != impl.StFull || !sameDisk(got, left)) {
			t.Errorf("no number left, torn at %d: %d, %s", torn, code, brief(got))
		}
	}
	// There would be too many files behind it.
	many := synced(append(manyFiles(60-len(tables.Live)), tables.Live...))
	many, _ = impl.Do(many, remove("file000"))
	many, _ = impl.Do(many, behind("fresh", "x"))
	if got, code := holdDone(t, "too many files", many, crashing(0, 1)); code != impl.StForm || !sameDisk(got, many) {
		t.Error("too many files", code)
	}
}

// A journal is the batches that were written, and how many of them are sure to stay.
type journal struct {
	batches [][]impl.Op
	sure    int
}

// hold wants of the store on d that it has what a beginning of the batches made,
// with all that are sure, and tells how many it has.
func (j journal) hold(t *testing.T, word string, d impl.Disk) int {
	t.Helper()
	pairs, seq, code := impl.StoreView(d)
	if code != impl.StOk {
		t.Fatalf("%s: %d, %s", word, code, brief(d))
	}
	state, last := map[string]string{}, int64(0)
	for many := 0; ; many++ {
		if last == seq && many >= j.sure && slices.Equal(pairs, pairsByHand(state)) {
			return many
		}
		if many == len(j.batches) || last > seq {
			t.Fatalf("%s: %d, %s is made by no beginning of %s, of which %d are sure", word, seq, brief(pairs), brief(j.batches), j.sure)
		}
		for _, op := range j.batches[many] {
			doByHand(state, op)
			last++
		}
	}
}

// eachLoss visits what may be kept of the ops of d: none, each one alone, all,
// and each choice where these are few; torn at each place.
func eachLoss(d impl.Disk, visit func(keep []int64, torn int64)) {
	chosen := [][]int64{nil}
	all := make([]int64, len(d.Ops))
	for i := range d.Ops {
		all[i] = int64(i)
		chosen = append(chosen, []int64{int64(i)})
	}
	if len(all) > 1 {
		chosen = append(chosen, all)
	}
	for set := 0; len(all) <= 5 && set < 1<<len(all); set++ {
		var keep []int64
		for i := range all {
			if set>>i&1 == 1 {
				keep = append(keep, int64(i))
			}
		}
		if len(keep) > 1 && len(keep) < len(all) {
			chosen = append(chosen, keep)
		}
	}
	for _, keep := range chosen {
		visit(keep, 0)
		if len(keep) > 0 {
			for torn := range int64(len(d.Ops[keep[len(keep)-1]].Data)) {
				visit(keep, torn+1)
			}
		}
	}
}

// made does acts on a new store.
func made(t *testing.T, acts ...impl.Act) impl.Disk {
	t.Helper()
	d, codes := impl.StorePlay(impl.Disk{}, append([]impl.Act{acting(impl.AcNew)}, acts...))
	for i, code := range codes {
		if code != impl.StOk {
			t.Fatalf("act %d: %d", i, code)
		}
	}
	return d
}

// lossCases are acts at whose steps power is lost, each behind others, and the
// batches of the act with those ahead of it.
func lossCases(t *testing.T) []struct {
	word string
	d    impl.Disk
	a    impl.Act
	j    journal
} {
	b := fewBatches()
	b[2] = b[2][1:]
	plain := impl.Shape{Every: 16, Size: 4000}
	small := func(kind int64) impl.Act { return impl.Act{Kind: kind, Shape: plain, Power: -1} }
	flush, compact, open := small(impl.AcFlush), small(impl.AcCompact), small(impl.AcOpen)
	torn := impl.Act{Kind: impl.AcCrash, Shape: plain, Power: -1, Keep: []int64{0}, Torn: 5}
	return []struct {
		word string
		d    impl.Disk
		a    impl.Act
		j    journal
	}{
		{"written", made(t, sure(b[0]...)), writing(b[1]...), journal{b[:2], 1}},
		{"written behind others", made(t, sure(b[0]...), writing(b[1]...), writing(b[2]...)), writing(b[3]...), journal{b, 1}},
		{"written and synced", made(t, writing(b[0]...), writing(b[1]...)), sure(b[2]...), journal{b[:3], 0}},
		{"a flush of what is synced", made(t, sure(b[0]...), sure(b[1]...)), flush, journal{b[:2], 2}},
		{"a flush of what is not synced", made(t, sure(b[0]...), writing(b[1]...), writing(b[3]...)), flush, journal{[][]impl.Op{b[0], b[1], b[3]}, 1}},
		{"a second flush", made(t, writing(b[0]...), flush, writing(b[1]...)), flush, journal{b[:2], 1}},
		{"compacted", made(t, writing(b[0]...), flush, writing(b[1]...), flush, writing(b[3]...)), compact, journal{[][]impl.Op{b[0], b[1], b[3]}, 2}},
		{"compacted to nothing", made(t, writing(b[1]...), flush, sure(b[0]...)), compact, journal{[][]impl.Op{b[1], b[0]}, 2}},
		{"compacted, one table", made(t, writing(b[0]...), flush), compact, journal{b[:1], 1}},
		{"opened", made(t, sure(b[0]...), flush, writing(b[1]...)), open, journal{b[:2], 1}},
		{"a crash that tears the log", made(t, sure(b[0]...), writing(b[1]...)), torn, journal{b[:1], 1}},
		{"a crash that tears the first record", made(t, writing(b[0]...)), torn, journal{nil, 0}},
		{"a crash that tears the log behind a flush", made(t, writing(b[0]...), flush, writing(b[1]...)), crashingPlain(1000, 0), journal{b[:1], 1}},
		{"a crash that tears the log behind a flush, in the middle", made(t, writing(b[0]...), flush, writing(b[1]...)), crashingPlain(3, 0, 1), journal{b[:1], 1}},
	}
}

func crashingPlain(torn int64, keep ...int64) impl.Act {
	return impl.Act{Kind: impl.AcCrash, Shape: impl.Shape{Every: 16, Size: 4000}, Power: -1, Keep: keep, Torn: torn}
}

func TestP16PowerLostBehindEachStep(t *testing.T) {
	for _, c := range lossCases(t) {
		for power := int64(0); ; power++ {
			e, code := holdDone(t, c.word, c.d, powered(c.a, power))
			eachLoss(e, func(keep []int64, torn int64) {
				word := fmt.Sprint(c.word, ", power ", power, ", kept ", keep, " to ", torn)
				left, code := impl.StoreDo(e, crashingPlain(torn, keep...))
				if code != impl.StOk {
					t.Fatal(word, code)
				}
				has := c.j.hold(t, word, left)
				if power == 0 && has > len(c.j.batches)-1 && c.a.Kind == impl.AcWrite {
					t.Fatal(word, "has what was not written")
				}
				if _, code := impl.StoreDo(left, writing(set("x", "y"))); code != impl.StOk {
					t.Fatal(word, "can't be written into:", code)
				}
			})
			if code != impl.StPower {
				done := c.j
				if c.a.Kind == impl.AcFlush || c.a.Sync {
					done.sure = len(done.batches)
				}
				eachLoss(e, func(keep []int64, torn int64) {
					left, _ := impl.StoreDo(e, crashingPlain(torn, keep...))
					done.hold(t, fmt.Sprint(c.word, " to its end, kept ", keep, " to ", torn), left)
				})
				break
			}
		}
	}
}

func TestP16PowerLostInNewStores(t *testing.T) {
	for _, d := range []impl.Disk{{}, synced(filesIn("a", "1", "log-1", batchLog(1, fewBatches()...), "manifest.new", "x", "table-2", "2"))} {
		for power := int64(0); ; power++ {
			e, code := holdDone(t, "new", d, powered(acting(impl.AcNew), power))
			there := false
			eachLoss(e, func(keep []int64, torn int64) {
				left, crashed := impl.StoreDo(e, crashing(torn, keep...))
				pairs, seq, view := impl.StoreView(left)
				if crashed != view || view != impl.StOk && view != impl.StNone || seq != 0 || len(pairs) != 0 {
					t.Fatalf("power %d, kept %v to %d: %d, %d, %d, %s", power, keep, torn, crashed, view, seq, brief(pairs))
				}
				there = there || view == impl.StOk
				if code == impl.StOk && view != impl.StOk {
					t.Fatalf("kept %v to %d: it is gone", keep, torn)
				}
				// Where there is none yet one can be made.
				if again, code := impl.StoreDo(left, acting(impl.AcNew)); view == impl.StNone && (code != impl.StOk || holdView(t, "again", again) != impl.StOk) {
					t.Fatalf("power %d, kept %v to %d, again: %d", power, keep, torn, code)
				}
			})
			if code == impl.StOk {
				if !there {
					t.Error("there is none")
				}
				break
			}
		}
	}
}

func TestP16PowerLostInCrashes(t *testing.T) {
	b := fewBatches()
	j := journal{[][]impl.Op{b[0], b[1], b[3]}, 2}
	d := made(t, sure(b[0]...), writing(b[1]...), acting(impl.AcFlush), writing(b[3]...), writing(b[2]...))
	half, _ := impl.StoreDo(d, powered(acting(impl.AcFlush), 4))
	for _, disk := range []impl.Disk{d, half} {
		for _, first := range []impl.Act{crashingPlain(5, 1), crashingPlain(7, 0, 1), crashingPlain(5), crashingPlain(0, 2), crashingPlain(20, 1, 2)} {
			if len(first.Keep) > 0 && first.Keep[len(first.Keep)-1] >= int64(len(disk.Ops)) {
				continue
			}
			for power := int64(0); ; power++ {
				e, code := holdDone(t, "a crash", disk, powered(first, power))
				many := j
				many.batches = [][]impl.Op{b[0], b[1], b[3], b[2]}
				many.batches = many.batches[:many.hold(t, "a crash", e)]
				many.sure = len(many.batches)
				for i := range len(e.Ops) + 1 {
					var keep []int64
					for place := range int64(i) {
						keep = append(keep, place)
					}
					for _, torn := range []int64{0, 1, 10, 50, 1000} {
						for _, again := range []int64{0, 1, 2, 3, -1} {
							left, _ := impl.StoreDo(e, powered(crashingPlain(torn, keep...), again))
							many.hold(t, fmt.Sprint("a crash, power ", power, ", and another one"), left)
						}
					}
				}
				if code != impl.StPower {
					break
				}
			}
		}
	}
}

// A storePlayer plays with a store that loses power, and keeps what was written.
type storePlayer struct {
	disk impl.Disk
	j    journal
	r    *rand.Rand
}

// crash loses power, perhaps again on the way back, until the store is open.
func (p *storePlayer) crash(t *testing.T) {
	t.Helper()
	for power := int64(p.r.Intn(3)); ; power += int64(p.r.Intn(4)) {
		var keep []int64
		few := p.r.Intn(4)
		for i := range p.disk.Ops {
			if p.r.Intn(4) >= few {
				keep = append(keep, int64(i))
			}
		}
		torn := int64(p.r.Intn(80))
		if p.r.Intn(2) == 0 {
			torn = math.MaxInt64
		}
		next, code := holdDone(t, "play", p.disk, powered(impl.Act{Kind: impl.AcCrash, Shape: someShape(p.r), Keep: keep, Torn: torn}, power))
		p.disk = next
		p.j.batches = p.j.batches[:p.j.hold(t, "play", next)]
		p.j.sure = len(p.j.batches)
		if code == impl.StOk {
			return
		}
		if code != impl.StPower {
			t.Fatal("a crash", code)
		}
	}
}

func someShape(r *rand.Rand) impl.Shape {
	return shape(1+r.Int63n(16), 20+r.Int63n(100), r.Int63n(3))
}

// someAct is an act that is often short of power.
func (p *storePlayer) someAct() impl.Act {
	a := impl.Act{Power: -1, Shape: someShape(p.r)}
	if p.r.Intn(3) == 0 {
		a.Power = int64(p.r.Intn(9))
	}
	switch choice := p.r.Intn(12); {
	case choice < 7:
		a.Kind, a.Sync = impl.AcWrite, p.r.Intn(3) == 0
		for range 1 + p.r.Intn(4) {
			a.Ops = append(a.Ops, dbOp(p.r))
		}
	case choice < 9:
		a.Kind = impl.AcFlush
	case choice < 10:
		a.Kind = impl.AcCompact
	default:
		a.Kind = impl.AcOpen
	}
	return a
}

func (p *storePlayer) act(t *testing.T) {
	t.Helper()
	a := p.someAct()
	before := p.disk
	next, code := holdDone(t, "play", before, a)
	p.disk = next
	if a.Kind == impl.AcWrite && !sameDisk(before, next) {
		p.j.batches = append(p.j.batches, a.Ops)
	}
	if code == impl.StOk && (a.Kind == impl.AcFlush || a.Sync) {
		p.j.sure = len(p.j.batches)
	}
	if p.j.hold(t, "play", next) != len(p.j.batches) {
		t.Fatalf("%s leaves fewer batches", brief(a))
	}
	if code == impl.StPower || p.r.Intn(8) == 0 {
		p.crash(t)
	}
}

func TestP16PlaysThatLosePower(t *testing.T) {
	for seed := range int64(60) {
		p := storePlayer{disk: made(t), r: rand.New(rand.NewSource(500 + seed))}
		for range 80 {
			p.act(t)
		}
	}
}

// someActs are of each kind, right and wrong, with power and without.
func someActs(r *rand.Rand, many int) []impl.Act {
	var acts []impl.Act
	p := storePlayer{r: r}
	for range many {
		a := p.someAct()
		switch r.Intn(8) {
		case 0:
			a = impl.Act{Kind: impl.AcCrash, Shape: someShape(r), Power: int64(r.Intn(9)) - 1, Torn: r.Int63n(60) - 1}
			for i := range int64(6) {
				if r.Intn(2) == 0 {
					a.Keep = append(a.Keep, i)
				}
			}
		case 1:
			a.Kind, a.Power = r.Int63n(9)-1, -1
		case 2:
			a.Shape.Every = r.Int63n(20) - 1
		}
		acts = append(acts, a)
	}
	return acts
}

func TestP16ActsInTwoPieces(t *testing.T) {
	seen := map[int64]int{}
	for seed := range int64(30) {
		r := rand.New(rand.NewSource(800 + seed))
		d := []impl.Disk{{}, made(t), made(t, writing(set("a", "1")), acting(impl.AcFlush)), draftOfStore(8, batchLog(9, fewBatches()...)+"x", fewTables()...).disk()}[seed%4]
		acts := append([]impl.Act{acting(impl.AcNew)}, someActs(r, 14)...)
		whole, codes := impl.StorePlay(d, acts)
		now := d
		for i, a := range acts {
			next, code := holdDone(t, "one by one", now, a)
			if i >= len(codes) || codes[i] != code {
				t.Fatalf("act %d: %v, not %d", i, codes, code)
			}
			seen[code]++
			now = next
		}
		if len(codes) != len(acts) || !sameDisk(whole, now) {
			t.Fatalf("%d codes of %d acts: %s, not %s", len(codes), len(acts), brief(whole), brief(now))
		}
		for cut := range len(acts) + 1 {
			first, firstCodes := impl.StorePlay(d, acts[:cut])
			second, secondCodes := impl.StorePlay(first, acts[cut:])
			if !sameDisk(second, whole) || !slices.Equal(append(firstCodes, secondCodes...), codes) {
				t.Fatalf("cut at %d: %v, %v, not %v", cut, firstCodes, secondCodes, codes)
			}
		}
		if none, codes := impl.StorePlay(d, nil); len(codes) != 0 || !sameDisk(none, d) {
			t.Fatal("no acts", codes)
		}
	}
	for _, code := range []int64{impl.StOk, impl.StThere, impl.StTorn, impl.StPower, impl.StForm} {
		if seen[code] == 0 {
			t.Error("never told:", code)
		}
	}
}

func TestP16LogsThatPowerTook(t *testing.T) {
	// The log of a version that did not stay lies there when its number comes again.
	for keep := range int64(4) {
		d := made(t, sure(set("a", "1")))
		d, code := impl.StoreDo(d, powered(acting(impl.AcFlush), 4))
		if code != impl.StPower {
			t.Fatal(code)
		}
		d, code = impl.StoreDo(d, writing(set("b", "2")))
		if code != impl.StOk || len(d.Ops) != 3 {
			t.Fatal(code, d.Ops)
		}
		var kept []int64
		if keep < 3 {
			kept = []int64{keep}
		}
		d, _ = impl.StoreDo(d, powered(crashing(1000, kept...), 0))
		j := journal{[][]impl.Op{{set("a", "1")}, {set("b", "2")}}, 1}
		if j.hold(t, "lost", d) != 1 {
			t.Error("the version stayed")
		}
		for _, a := range []impl.Act{acting(impl.AcFlush), sure(set("c", "3")), acting(impl.AcFlush), sure(set("d", "4")), acting(impl.AcCompact), acting(impl.AcOpen)} {
			if d, code = holdDone(t, "behind it", d, a); code != impl.StOk {
				t.Fatalf("%s: %d", brief(a), code)
			}
		}
		if got := pairsOf(d); !slices.Equal(got, pairsIn("a", "1", "c", "3", "d", "4")) {
			t.Error(keep, got)
		}
	}
}

// actAnswers are answers of StoreDo and StorePlay: done, refused, without power.
func actAnswers(d impl.Disk, ops []impl.Op, keep []int64) []func() impl.Disk {
	var list []func() impl.Disk
	acts := []impl.Act{
		writing(ops...), sure(ops...), writing(), acting(impl.AcNew), acting(impl.AcFlush), powered(acting(impl.AcFlush), 0), powered(acting(impl.AcFlush), 3), acting(impl.AcCompact), powered(acting(impl.AcCompact), 4),
		acting(impl.AcOpen), powered(acting(impl.AcOpen), 1), crashing(5, keep...), crashing(0), crashing(-1), powered(crashing(1000, keep...), 0), acting(9),
	}
	for _, a := range acts {
		list = append(list,
			func() impl.Disk { got, _ := impl.StoreDo(d, a); return got },
			func() impl.Disk { got, _ := impl.StorePlay(d, []impl.Act{a}); return got },
		)
	}
	return append(list,
		func() impl.Disk { got, _ := impl.StorePlay(d, nil); return got },
		func() impl.Disk { got, _ := impl.StorePlay(d, acts); return got },
	)
}

func TestP16AnswersAreNewMemory(t *testing.T) {
	base := draftOfStore(8, batchLog(9, fewBatches()...), fewTables()...).with("other", "o").disk()
	logged, _ := impl.StorePlay(base, []impl.Act{writing(set("a", "new")), writing(set("b", "new"))})
	d, same := roomy(logged)
	ops := append([]impl.Op{set("x", "y"), del("a")}, set("room", "1"), set("room", "2"))[:2]
	keep := append(make([]int64, 0, 4), 0, 1)
	for i, answer := range actAnswers(d, ops, keep) {
		first, second, third := answer(), answer(), answer()
		if !sameDisk(first, second) || !sameDisk(first, third) || len(first.Live) == 0 {
			t.Fatalf("%d: %s, %s", i, brief(first), brief(second))
		}
		spoilt(first, true, true)
		if !same() || !slices.Equal(keep[:4], []int64{0, 1, 0, 0}) || !slices.Equal(ops[:4], []impl.Op{set("x", "y"), del("a"), set("room", "1"), set("room", "2")}) {
			t.Fatalf("%d: an argument was written into", i)
		}
		if !sameDisk(answer(), second) {
			t.Fatalf("%d: an answer was kept", i)
		}
		safe := slices.Clone(second.Safe)
		spoilt(second, true, false)
		if !slices.Equal(second.Safe, safe) {
			t.Fatalf("%d: what is seen and what is safe share a list", i)
		}
		live := slices.Clone(third.Live)
		spoilt(third, false, true)
		if !slices.Equal(third.Live, live) {
			t.Fatalf("%d: what is safe and what is seen share a list", i)
		}
	}
	pairs, _, _ := impl.StoreView(d)
	for i := range pairs[:cap(pairs)] {
		pairs[:cap(pairs)][i] = impl.Pair{User: "spoilt"}
	}
	codes := []impl.Act{acting(9), acting(impl.AcOpen)}
	_, told := impl.StorePlay(d, codes)
	told[0] = 77
	if _, again := impl.StorePlay(d, codes); !same() || again[0] != impl.StForm || slices.Contains(pairsOf(d), impl.Pair{User: "spoilt"}) {
		t.Error("an argument was written into, or an answer was kept")
	}
}

// textsOnDisk counts where in memory the texts of d begin.
func textsOnDisk(d impl.Disk) map[*byte]int {
	places := map[*byte]int{}
	for _, f := range slices.Concat(d.Live, d.Safe) {
		places[unsafe.StringData(f.Name)]++
		places[unsafe.StringData(f.Data)]++
	}
	for _, op := range d.Ops {
		for _, text := range []string{op.Name, op.To, op.Data} {
			places[unsafe.StringData(text)]++
		}
	}
	delete(places, unsafe.StringData(""))
	delete(places, nil)
	return places
}

func TestP16TextsAreNewToo(t *testing.T) {
	base := draftOfStore(8, batchLog(9, fewBatches()...), fewTables()...).with("other", "o data").disk()
	d, _ := impl.StorePlay(base, []impl.Act{writing(set("a", "new one")), writing(set("b", "new one"))})
	ops := []impl.Op{set("xx", "yy"), del("aa")}
	old := textsOnDisk(d)
	for _, op := range ops {
		old[unsafe.StringData(op.User)]++
	}
	for i, answer := range actAnswers(d, ops, []int64{0, 1}) {
		for place, times := range textsOnDisk(answer()) {
			if old[place] > 0 || times > 1 {
				t.Errorf("answer %d has a text that is not its own", i)
			}
		}
	}
}

func TestP16AnswersHangOnNoOtherCall(t *testing.T) {
	d := draftOfStore(8, batchLog(9, fewBatches()...), fewTables()...).with("other", "o").disk()
	acts := []impl.Act{writing(set("a", "x")), acting(impl.AcFlush), powered(acting(impl.AcCompact), 3), crashing(9), acting(9), acting(impl.AcCompact)}
	want, wantCodes := impl.StorePlay(d, acts)
	pairs, seq, _ := impl.StoreView(d)
	var group sync.WaitGroup
	same := make([]bool, 16)
	for i := range same {
		group.Go(func() {
			same[i] = true
			for range 10 {
				got, codes := impl.StorePlay(d, acts)
				view, last, _ := impl.StoreView(d)
				code, value := impl.StoreGet(d, "a")
				_, broken := impl.StoreDo(synced(filesIn("manifest", "x")), acting(impl.AcOpen))
				same[i] = same[i] && sameDisk(got, want) && slices.Equal(codes, wantCodes) && slices.Equal(view, pairs) && last == seq && code == impl.GtFound && value == "3" && broken == impl.StBad
			}
		})
	}
	group.Wait()
	if slices.Contains(same, false) {
		t.Error(same)
	}
}
