package tests

import (
	"fmt"
	"go/ast"
	"go/parser"
	"go/token"
	"math"
	"math/rand"
	"os"
	"path/filepath"
	"reflect"
	"runtime"
	"slices"
	"strings"
	"sync"
	"testing"
	"unsafe"

	"loop.example/g00214/impl"
)

// A use is a function of the program with arguments for it.
type use struct {
	name string
	call reflect.Value
	args []reflect.Value
}

// uses are many of them, with right arguments and with wrong ones.
type uses struct{ right, wrong []use }

func (u *uses) all() []use {
	return slices.Concat(u.right, u.wrong)
}

func (u *uses) good(f any, args ...any) {
	u.right = append(u.right, useOf(f, args))
}

func (u *uses) bad(f any, args ...any) {
	u.wrong = append(u.wrong, useOf(f, args))
}

func useOf(f any, args []any) use {
	call := reflect.ValueOf(f)
	_, name, _ := strings.Cut(runtime.FuncForPC(call.Pointer()).Name(), "impl.")
	made := use{name: name, call: call}
	for i, arg := range args {
		wanted := call.Type().In(i)
		if arg == nil {
			made.args = append(made.args, reflect.Zero(wanted))
			continue
		}
		made.args = append(made.args, reflect.ValueOf(arg).Convert(wanted))
	}
	return made
}

// spare is how much room there is behind each list of an argument.
const spare = 3

// fresh is v in new memory, with room behind each list in which marks stand.
func fresh(v reflect.Value) reflect.Value {
	switch v.Kind() {
	case reflect.String:
		return reflect.ValueOf(strings.Clone(v.String())).Convert(v.Type())
	case reflect.Slice:
		size := v.Len()
		list := reflect.MakeSlice(v.Type(), size+spare, size+spare)
		for i := range size {
			list.Index(i).Set(fresh(v.Index(i)))
		}
		for i := range spare {
			list.Index(size + i).Set(mark(v.Type().Elem()))
		}
		return list.Slice(0, size)
	case reflect.Struct:
		made := reflect.New(v.Type()).Elem()
		for i := range v.NumField() {
			made.Field(i).Set(fresh(v.Field(i)))
		}
		return made
	}
	return v
}

// mark is a value that no answer has.
func mark(of reflect.Type) reflect.Value {
	made := reflect.New(of).Elem()
	switch of.Kind() {
	case reflect.Int64:
		made.SetInt(-770077)
	case reflect.String:
		made.SetString("a mark")
	case reflect.Slice:
		made.Set(reflect.Append(made, mark(of.Elem())))
	case reflect.Struct:
		for i := range of.NumField() {
			made.Field(i).Set(mark(of.Field(i).Type))
		}
	}
	return made
}

// spoil writes marks into each place of each list of v, and into the room behind it.
func spoil(v reflect.Value) {
	switch v.Kind() {
	case reflect.Slice:
		whole := v.Slice(0, v.Cap())
		for i := range whole.Len() {
			spoil(whole.Index(i))
			whole.Index(i).Set(mark(v.Type().Elem()))
		}
	case reflect.Struct:
		for i := range v.NumField() {
			spoil(v.Field(i))
		}
	}
}

// tell writes down all of v; what stands in the room behind its lists only where that is asked for.
func tell(b *strings.Builder, v reflect.Value, room bool) {
	switch v.Kind() {
	case reflect.Slice:
		fmt.Fprintf(b, "%d[", v.Len())
		if room {
			v = v.Slice(0, v.Cap())
		}
		for i := range v.Len() {
			tell(b, v.Index(i), room)
		}
		b.WriteString("]")
	case reflect.Struct:
		b.WriteString("{")
		for i := range v.NumField() {
			tell(b, v.Field(i), room)
		}
		b.WriteString("}")
	case reflect.String:
		fmt.Fprintf(b, "%d:%s,", v.Len(), v.String())
	default:
		fmt.Fprintf(b, "%v,", v)
	}
}

func told(values []reflect.Value, room bool) string {
	var b strings.Builder
	for _, v := range values {
		tell(&b, v, room)
	}
	return b.String()
}

// A span is memory from one place up to another one.
type span struct{ from, to uintptr }

func (s span) meets(others []span) bool {
	return slices.ContainsFunc(others, func(o span) bool { return s.from < o.to && o.from < s.to })
}

// A hold is all memory that a value has: that of its lists, with the room behind them, and that of its texts.
type hold struct{ lists, texts []span }

func (h *hold) take(v reflect.Value) {
	switch v.Kind() {
	case reflect.Slice:
		if size := uintptr(v.Cap()) * v.Type().Elem().Size(); size > 0 {
			from := uintptr(v.UnsafePointer())
			h.lists = append(h.lists, span{from, from + size})
		}
		for i := range v.Len() {
			h.take(v.Index(i))
		}
	case reflect.Struct:
		for i := range v.NumField() {
			h.take(v.Field(i))
		}
	case reflect.String:
		if text := v.String(); text != "" {
			from := uintptr(unsafe.Pointer(unsafe.StringData(text)))
			h.texts = append(h.texts, span{from, from + uintptr(len(text))})
		}
	}
}

func holdOf(values []reflect.Value) hold {
	var h hold
	for _, v := range values {
		h.take(v)
	}
	return h
}

// sharedBy tells what an answer shares that it must not, or "".
func sharedBy(args []reflect.Value, answer []reflect.Value) string {
	given, got := holdOf(args), holdOf(answer)
	slices.SortFunc(got.lists, func(a span, b span) int { return int(a.from) - int(b.from) })
	for i, s := range got.lists {
		if i > 0 && s.meets(got.lists[i-1:i]) {
			return "two lists of an answer share memory"
		}
		if s.meets(given.lists) {
			return "a list of an answer shares memory with an argument"
		}
	}
	for _, s := range got.texts {
		if s.meets(given.texts) {
			return "a text of an answer shares memory with an argument"
		}
	}
	return ""
}

// answer is what u answers, written down.
func (u use) answer() string {
	return told(u.call.Call(u.args), false)
}

// holdSame calls u again and again, and is what it answers, written down.
func (u use) holdSame(t *testing.T) string {
	t.Helper()
	var args []reflect.Value
	for _, arg := range u.args {
		args = append(args, fresh(arg))
	}
	before := told(args, true)
	first, second := u.call.Call(args), u.call.Call(args)
	want := told(first, false)
	fault := sharedBy(args, first)
	switch {
	case told(second, false) != want:
		fault = "a second answer is another one"
	case told(args, true) != before:
		fault = "an argument is written into"
	}
	for _, v := range first {
		spoil(v)
	}
	switch {
	case told(args, true) != before:
		fault = "what is written into an answer is seen in an argument"
	case told(second, false) != want:
		fault = "what is written into an answer is seen in another one"
	case told(u.call.Call(args), false) != want:
		fault = "what is written into an answer is seen in a later one"
	}
	for _, v := range args {
		spoil(v)
	}
	if told(second, false) != want {
		fault = "what is written into an argument is seen in an answer"
	}
	if fault != "" {
		t.Errorf("%s: %s: %q", u.name, fault, brief(before))
	}
	return want
}

func (u *uses) ofBytes() {
	for _, n := range numbers() {
		u.good(impl.PutVar, n)
		u.good(impl.TakeVar, impl.PutVar(n)+"behind")
		u.good(impl.PutFixed, uint32(n))
		u.good(impl.TakeFixed, impl.PutFixed(uint32(n))+"behind")
	}
	for _, text := range []string{"", "a", "123456789", someText(300), "\x00\xff"} {
		u.good(impl.Crc, text)
		u.good(impl.CrcByTable, text)
		u.good(impl.PutText, text)
		u.good(impl.TakeText, impl.PutText(text)+"behind")
		u.good(impl.SharedWith, text, "12345")
	}
	for _, text := range []string{"", "\x80", "\x80\x00", strings.Repeat("\xff", 9) + "\x02", strings.Repeat("\xff", 20), "\x05abcd", impl.PutVar(60001) + zeros(60001)} {
		u.bad(impl.TakeVar, text)
		u.bad(impl.TakeFixed, text[:min(len(text), 3)])
		u.bad(impl.TakeText, text)
	}
}

func (u *uses) ofKeys() {
	keys := orderedKeys()
	for _, k := range keys {
		u.good(impl.KeyOk, k)
		u.good(impl.KeyText, k)
		u.good(impl.ReadKey, impl.KeyText(k))
		u.good(impl.KeyCmp, k, keys[3])
		u.good(impl.EntryOk, impl.Entry{Key: k, Value: "value"})
		u.good(impl.SeekEntry, rowOf(keys...), k)
	}
	for _, k := range wrongKeys() {
		u.bad(impl.KeyOk, k)
		u.bad(impl.KeyText, k)
		u.bad(impl.ReadKey, k.User)
		u.bad(impl.KeyCmp, k, keys[3])
		u.bad(impl.KeyCmp, keys[3], k)
		u.bad(impl.EntryOk, impl.Entry{Key: k, Value: "value"})
		u.bad(impl.SeekEntry, rowOf(keys...), k)
	}
}

func (u *uses) ofFilters() {
	users := []string{"a", "b", "b", "\x00", strings.Repeat("u", 40)}
	for _, list := range [][]string{nil, users, usersOf("user", 400), oddUsers(5, 100)} {
		u.good(impl.UsersOk, list)
		u.good(impl.HllOf, list)
		for _, n := range []int64{0, 1, 2} {
			u.good(impl.BloomOf, list, n+1)
			u.good(impl.RibbonOf, list, n)
			u.good(impl.FilterOf, list, n)
			u.bad(impl.BloomOf, list, n-2)
			u.bad(impl.RibbonOf, list, n-3)
			u.bad(impl.FilterOf, list, n+3)
		}
	}
	for _, list := range [][]string{{""}, {"a", ""}, {strings.Repeat("u", 41)}, usersOf("user", 401)} {
		u.bad(impl.UsersOk, list)
		u.bad(impl.HllOf, list)
		u.bad(impl.BloomOf, list, 10)
		u.bad(impl.RibbonOf, list, 1)
		u.bad(impl.FilterOf, list, 2)
	}
	for _, f := range rightFilters() {
		u.good(impl.FilterOk, f)
		u.good(impl.FilterText, f)
		u.good(impl.ReadFilter, impl.FilterText(f))
		u.bad(impl.ReadFilter, impl.FilterText(f)+"x")
		for _, user := range append(users, "") {
			u.good(impl.BloomMay, f, user)
			u.good(impl.RibbonMay, f, user)
			u.good(impl.FilterMay, f, user)
			u.good(impl.Hash, uint32(f.Seed), user)
		}
	}
	for _, f := range wrongFilters() {
		u.bad(impl.FilterOk, f)
		u.bad(impl.FilterText, f)
		u.bad(impl.BloomMay, f, "a")
		u.bad(impl.RibbonMay, f, "a")
		u.bad(impl.FilterMay, f, "a")
	}
}

func (u *uses) ofCounters() {
	for _, h := range someRegisters() {
		u.good(impl.HllOk, h)
		u.good(impl.HllCount, h)
		u.good(impl.HllAdd, h, "a")
		u.bad(impl.HllAdd, h, "")
		u.bad(impl.HllAdd, h, strings.Repeat("u", 41))
		for _, other := range someRegisters()[:3] {
			u.good(impl.HllMerge, h, other)
		}
	}
	for _, h := range noRegisters() {
		u.bad(impl.HllOk, h)
		u.bad(impl.HllCount, h)
		u.bad(impl.HllAdd, h, "a")
		u.bad(impl.HllMerge, h, someRegisters()[0])
		u.bad(impl.HllMerge, someRegisters()[0], h)
	}
}

// someDisks are right disks, with and without ops.
func someDisks() []impl.Disk {
	files := filesIn("a", "1", "b", "2", "c.new", "3")
	return []impl.Disk{
		{}, synced(files), synced(manyFiles(60)), diskByHand(nil, behind("a", "x"), behind("a", "y")),
		diskByHand(files, behind("a", "x"), rename("b", "d"), remove("c.new"), behind("c.new", "y"), behind("z", "")),
		diskByHand(files, slices.Repeat([]impl.DOp{behind("a", "x")}, 200)...),
	}
}

func (u *uses) ofDisks() {
	ops := []impl.DOp{behind("a", "more"), behind("fresh", ""), rename("a", "d"), rename("a", "a"), rename("none", "a"), remove("b"), remove("none"), behind("a", someText(200000))}
	for _, d := range someDisks() {
		u.good(impl.DiskOk, d)
		u.good(impl.Sync, d)
		for _, op := range ops {
			u.good(impl.Do, d, op)
		}
		for _, op := range []impl.DOp{{}, {Kind: 4, Name: "a"}, behind("", "x"), rename("a", ""), {Kind: impl.DkRemove, Name: "a", Data: "x"}} {
			u.bad(impl.Do, d, op)
		}
		for _, keep := range [][]int64{nil, {0}, {1}, {0, 1}, {1, 3, 4}, {0, 199}} {
			u.good(impl.Crash, d, keep, 1)
			u.bad(impl.Crash, d, keep, -1)
			u.bad(impl.Crash, d, append([]int64{7, 7}, keep...), 1)
		}
		for _, name := range []string{"a", "c", "none", ""} {
			u.good(impl.ReadFile, d, name)
			u.good(impl.Replace, d, name, "data")
			u.bad(impl.Replace, d, name, someText(200001))
		}
	}
	for _, c := range wrongDisks() {
		u.bad(impl.DiskOk, c.disk)
		u.bad(impl.Sync, c.disk)
		u.bad(impl.Do, c.disk, ops[0])
		u.bad(impl.Crash, c.disk, nil, 0)
		u.bad(impl.ReadFile, c.disk, "manifest")
		u.bad(impl.Replace, c.disk, "a", "data")
	}
}

func (u *uses) ofLogs() {
	for i, records := range someLogs() {
		log, _ := logOf(records...)
		u.good(impl.ReadLog, log)
		u.bad(impl.ReadLog, log+"x")
		u.bad(impl.ReadLog, log[:len(log)/2])
		for _, record := range records {
			u.good(impl.WriteLog, i, record)
			u.bad(impl.WriteLog, -1-i, record)
		}
	}
	u.bad(impl.WriteLog, 0, someText(8001))
	for _, b := range rightBatches() {
		u.good(impl.BatchOk, b)
		u.good(impl.BatchText, b)
		u.good(impl.BatchEntries, b)
		u.good(impl.ReadBatch, impl.BatchText(b))
		u.bad(impl.ReadBatch, impl.BatchText(b)+"x")
	}
	for _, b := range wrongBatches() {
		u.bad(impl.BatchOk, b)
		u.bad(impl.BatchText, b)
		u.bad(impl.BatchEntries, b)
		u.bad(impl.ReadBatch, batchByHand(b))
	}
}

func (u *uses) ofRow(row []impl.Entry, ask func(any, ...any)) {
	ask(impl.EntriesOk, row)
	ask(impl.SeekEntry, row, put("b", 5))
	ask(impl.MemPut, row, impl.Entry{Key: put("b", 5), Value: "value"})
	ask(impl.MemBytes, row)
	ask(impl.MemUsers, row)
	ask(impl.BlockOf, row, 3)
	ask(impl.TableOf, row, shape(3, 60, 2))
	ask(impl.SplitRun, row, 2)
	ask(impl.RunsOk, runsOf(row))
	ask(impl.MergeRuns, runsOf(row, nil))
	for _, seq := range []int64{0, 5, impl.MaxSeq} {
		ask(impl.MemGet, row, "a", seq)
		ask(impl.Visible, row, seq)
		ask(impl.Scan, row, seq, "a", "")
		ask(impl.Scan, row, seq, "a", "c")
		ask(impl.ScanBack, row, seq, "", "b")
		ask(impl.Needed, row, []int64{seq})
		ask(impl.Compacted, row, []int64{seq}, true)
		ask(impl.Compacted, row, []int64{seq}, false)
	}
	// Neither of these has anything to ask for in a right row.
	u.bad(impl.MemPut, row, impl.Entry{Key: put("", 5)})
	u.bad(impl.SeekEntry, row, put("", 5))
	u.bad(impl.BlockOf, row, 17)
	u.bad(impl.TableOf, row, shape(3, 60, 3))
	u.bad(impl.SplitRun, row, 0)
	u.bad(impl.Needed, row, []int64{2, 1})
	u.bad(impl.Compacted, row, []int64{2, 1}, true)
	u.bad(impl.MergeRuns, slices.Repeat(runsOf(row), 21))
}

func (u *uses) ofRows() {
	rows := manyRows()
	for _, row := range append(rows[:len(rows):len(rows)], nil) {
		u.ofRow(row, u.good)
	}
	for _, row := range oddRows() {
		u.ofRow(row, u.bad)
	}
	r := rand.New(rand.NewSource(18))
	for range 20 {
		runs := someRuns(r)
		u.good(impl.RunsOk, runs)
		u.good(impl.MergeRuns, runs)
	}
	for _, snaps := range rightSnaps() {
		u.good(impl.SnapsOk, snaps)
		u.good(impl.Needed, rows[len(rows)-1], snaps)
	}
	for _, snaps := range wrongSnaps() {
		u.bad(impl.SnapsOk, snaps)
		u.bad(impl.Needed, rows[0], snaps)
	}
}

func (u *uses) ofTexts(block string, table string, ask func(any, ...any)) {
	ask(impl.ReadBlock, block)
	ask(impl.BlockSeek, block, put("b", 5))
	ask(impl.ReadTable, table)
	ask(impl.TableProps, table)
	ask(impl.TableMay, table, "b")
	ask(impl.MergeTables, []string{table, table})
	for _, user := range []string{"a", "b", "none", ""} {
		ask(impl.TableGet, table, user, 6)
	}
}

func (u *uses) ofTables(t *testing.T) {
	rows, shapes := someTables()
	for i, row := range rows {
		block := blockByHand(row, i+1)
		table := tableByHand(row, shapes[i])
		u.ofTexts(block, table, u.good)
		u.ofTexts(block[1:], table[1:], u.bad)
		u.ofTexts("", "", u.bad)
		u.bad(impl.BlockSeek, block, put("", 5))
	}
	u.good(impl.MergeTables, tablesOf(t, rows...))
	for _, p := range rightShapes() {
		u.good(impl.ShapeOk, p)
		u.good(impl.TableOf, rows[len(rows)-1], p)
	}
	for _, p := range wrongShapes() {
		u.bad(impl.ShapeOk, p)
		u.bad(impl.TableOf, rows[0], p)
	}
}

func (u *uses) ofCaches() {
	ofCache := func(c impl.Cache, ask func(any, ...any)) {
		ask(impl.CacheOk, c)
		ask(impl.CacheUsed, c)
		names := []string{"fresh"}
		for _, s := range c.Slots[:min(len(c.Slots), 3)] {
			names = append(names, s.Name)
		}
		for _, name := range names {
			ask(impl.CacheGet, c, name)
			ask(impl.CachePut, c, name, 5)
			ask(impl.CacheFree, c, name)
			u.bad(impl.CachePut, c, name, 0)
		}
		u.bad(impl.CacheGet, c, "")
		u.bad(impl.CacheFree, c, "")
	}
	for _, c := range rightCaches() {
		ofCache(c, u.good)
	}
	for _, c := range wrongCaches() {
		ofCache(c, u.bad)
	}
}

func (u *uses) ofVersions() {
	r := rand.New(rand.NewSource(181))
	// The edits are such as may be done on the version from.
	ofVersion := func(v impl.Version, from impl.Version, ask func(any, ...any)) {
		ask(impl.VersionOk, v)
		ask(impl.VersionText, v)
		ask(impl.PickLevel, v)
		ask(impl.Apply, v, same(v))
		var edits []impl.Edit
		for level := range int64(4) {
			ask(impl.Overlapping, v, level, "a", "z")
			edits = append(edits, someEdit(r, from))
			ask(impl.Apply, v, edits[level])
		}
		ask(impl.Replay, v, nil)
		ask(impl.Replay, v, edits)
		u.bad(impl.Apply, v, impl.Edit{Next: v.Next, Seq: v.Seq, Log: v.Log, Cuts: []int64{-1}})
		u.bad(impl.Replay, v, []impl.Edit{same(v), {}})
		u.bad(impl.Overlapping, v, 9, "z", "a")
	}
	for _, v := range rightVersions() {
		ofVersion(v, v, u.good)
		text := impl.VersionText(v)
		u.good(impl.ReadVersion, text)
		u.bad(impl.ReadVersion, text+"x")
	}
	for _, v := range wrongVersions() {
		ofVersion(v, rightVersions()[2], u.bad)
	}
}

func (u *uses) ofEngines() {
	ofEngine := func(d impl.Db, ask func(any, ...any)) {
		ask(impl.DbOk, d)
		ask(impl.DbFlush, d)
		ask(impl.DbCompact, d)
		ask(impl.DbSnap, d)
		ask(impl.DbWrite, d, []impl.Op{set("a", "x"), del("b")})
		u.bad(impl.DbWrite, d, []impl.Op{set("a", "x"), del("")})
		u.bad(impl.DbWrite, d, nil)
		for _, at := range append([]int64{-1}, d.Snaps[:min(len(d.Snaps), 2)]...) {
			ask(impl.DbGet, d, "a", at)
			ask(impl.DbScan, d, at, "", "")
			ask(impl.DbScan, d, at, "a", "b")
			ask(impl.DbFree, d, at)
		}
		u.bad(impl.DbGet, d, "a", -2)
		u.bad(impl.DbScan, d, -2, "a", "b")
		u.bad(impl.DbFree, d, -2)
	}
	for _, c := range rightDbs() {
		ofEngine(c.db, u.good)
	}
	for _, c := range wrongDbs() {
		ofEngine(c.db, u.bad)
	}
}

func (u *uses) ofStores() {
	acts := []impl.Act{
		writing(set("a", "x"), del("b")), sure(set("b", "y")), acting(impl.AcNew), acting(impl.AcFlush), powered(acting(impl.AcFlush), 3), acting(impl.AcCompact), powered(acting(impl.AcCompact), 4),
		acting(impl.AcOpen), powered(acting(impl.AcOpen), 1), crashing(5), crashing(3, 0), powered(crashing(9, 0), 2),
	}
	wrong := []impl.Act{{}, {Kind: impl.AcFlush}, {Kind: 7, Shape: shape(4, 60, 2)}, writing(), writing(del("")), crashing(-1), crashing(0, 9, 9)}
	ofStore := func(d impl.Disk, ask func(any, ...any)) {
		ask(impl.StoreView, d)
		ask(impl.StoreGet, d, "a")
		ask(impl.StoreGet, d, "none")
		ask(impl.StorePlay, d, nil)
		ask(impl.StorePlay, d, acts)
		for _, a := range acts {
			ask(impl.StoreDo, d, a)
		}
		for _, a := range wrong {
			u.bad(impl.StoreDo, d, a)
		}
		u.bad(impl.StorePlay, d, wrong)
	}
	for _, c := range storesByHand() {
		ofStore(c.disk, u.good)
		ofStore(unsynced(c.disk), u.good)
	}
	for _, c := range slices.Concat(brokenStores(), withoutManifest(), wrongDisks()) {
		ofStore(c.disk, u.bad)
	}
	for _, n := range []int64{0, 1, 1000000} {
		u.good(impl.FileName, "log", n)
		u.bad(impl.FileName, "", n)
		u.bad(impl.FileName, "log", -1-n)
		u.bad(impl.FileName, "log", math.MaxInt64-n)
	}
}

func (u *uses) ofScripts() {
	for _, lines := range longScripts() {
		u.good(impl.RunScript, script(lines...))
		u.bad(impl.RunScript, script(lines...)+"x")
		u.bad(impl.RunScript, strings.ReplaceAll(script(lines...), " ", "\t"))
	}
	for _, text := range []string{"x", "\n\r", strings.Repeat("\n", 61), strings.Repeat(" ", 6000) + "\n", "\x00\xff\n"} {
		u.bad(impl.RunScript, text)
	}
}

// allUses has each exported function of the program.
func allUses(t *testing.T) *uses {
	u := &uses{}
	u.ofBytes()
	u.ofKeys()
	u.ofFilters()
	u.ofCounters()
	u.ofDisks()
	u.ofLogs()
	u.ofRows()
	u.ofTables(t)
	u.ofCaches()
	u.ofVersions()
	u.ofEngines()
	u.ofStores()
	u.ofScripts()
	return u
}

// exported are the names of the functions that the program hands out, read off its files.
func exported(t *testing.T) []string {
	t.Helper()
	files, _ := filepath.Glob("../impl/*.go")
	var names []string
	for _, file := range files {
		text, err := os.ReadFile(file)
		if err != nil {
			t.Fatal(err)
		}
		parsed, err := parser.ParseFile(token.NewFileSet(), file, text, 0)
		if err != nil {
			t.Fatal(err)
		}
		for _, d := range parsed.Decls {
			if f, ok := d.(*ast.FuncDecl); ok && f.Recv == nil && f.Name.IsExported() {
				names = append(names, f.Name.Name)
			}
		}
	}
	return names
}

func TestP18EachFunctionIsCalled(t *testing.T) {
	many := func(list []use) map[string]int {
		names := map[string]int{}
		for _, u := range list {
			names[u.name]++
		}
		return names
	}
	u := allUses(t)
	right, wrong := many(u.right), many(u.wrong)
	names := exported(t)
	if len(names) < 80 || !slices.Contains(names, "RunScript") {
		t.Errorf("%d functions: %q", len(names), names)
	}
	// To these nothing that is handed in is wrong.
	plain := []string{"PutVar", "PutFixed", "PutText", "Crc", "CrcByTable", "Hash", "SharedWith"}
	for _, name := range names {
		if right[name] == 0 || wrong[name] == 0 != slices.Contains(plain, name) {
			t.Errorf("%s is called at %d right arguments and %d wrong ones", name, right[name], wrong[name])
		}
	}
}

func TestP18TheSameAnswersAndArguments(t *testing.T) {
	u := allUses(t)
	list := u.all()
	want := make([]string, len(list))
	for i, u := range list {
		want[i] = u.holdSame(t)
	}
	// Whatever was called ahead of it, or is called at the same time.
	for i, u := range slices.Backward(list) {
		if got := u.answer(); got != want[i] {
			t.Errorf("%s, called behind others: %q, not %q", u.name, brief(got), brief(want[i]))
		}
	}
	var group sync.WaitGroup
	for worker := range 8 {
		group.Go(func() {
			// Each of them is called by two workers, which go through them in two ways.
			for i := worker / 2; i < len(list); i += 4 {
				at := i
				if worker%2 == 1 {
					at = len(list) - 1 - i
				}
				if got := list[at].answer(); got != want[at] {
					t.Errorf("%s, called at the same time as others: %q, not %q", list[at].name, brief(got), brief(want[at]))
				}
			}
		})
	}
	group.Wait()
}
