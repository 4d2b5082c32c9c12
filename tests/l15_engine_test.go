package tests

import (
	"fmt"
	"maps"
	"math"
	"math/rand"
	"slices"
	"strings"
	"sync"
	"testing"
	"unsafe"

	"loop.example/g00214/impl"
)

func TestP15Limits(t *testing.T) {
	if impl.DbFine != 0 || impl.DbWrong != 1 || impl.DbForm != 2 || impl.DbFull != 3 || impl.DbNone != 4 {
		t.Error(impl.DbFine, impl.DbWrong, impl.DbForm, impl.DbFull, impl.DbNone)
	}
}

// brief is the beginning of what a test tells of v.
func brief(v any) string {
	return fmt.Sprintf("%.600s", fmt.Sprint(v))
}

// dbOf sorts the rows, so that they are right whatever the order in which they are told.
func dbOf(seq int64, mem []impl.Entry, runs []impl.Run, snaps ...int64) impl.Db {
	sortByHand(mem)
	for _, run := range runs {
		sortByHand(run.Entries)
	}
	return impl.Db{Seq: seq, Mem: mem, Runs: runs, Snaps: snaps}
}

// spread is a row of so many users, the first one with the number first.
func spread(size int, first int64) []impl.Entry {
	var keys []impl.Key
	for i := range size {
		keys = append(keys, put(fmt.Sprintf("user%04d", (i*7)%401), first+int64(i)))
	}
	row := rowOf(keys...)
	sortByHand(row)
	return row
}

// manyRuns are so many runs, the first one with the number 1, each later one with one more.
func manyRuns(many int) []impl.Run {
	var runs []impl.Run
	for i := range many {
		runs = append(runs, impl.Run{Entries: rowOf(put(fmt.Sprint("r", i%3), int64(i+1)))})
	}
	return runs
}

// A namedDb is an engine, and what there is about it.
type namedDb struct {
	word string
	db   impl.Db
}

func rightDbs() []namedDb {
	list := []namedDb{
		{"nothing at all", impl.Db{}},
		{"empty lists", impl.Db{Mem: []impl.Entry{}, Runs: []impl.Run{}, Snaps: []int64{}}},
		{"a number alone", dbOf(1, nil, nil)},
		{"MaxSeq alone", dbOf(impl.MaxSeq, nil, nil)},
		{"Seq 0, an entry of 0", dbOf(0, rowOf(put("a", 0)), nil)},
		{"Seq 0, an entry of 0 in a run", dbOf(0, nil, runsOf(rowOf(gone("a", 0))), 0)},
		{"Seq just that of the newest in Mem", dbOf(9, rowOf(put("a", 9), gone("b", 8)), runsOf(rowOf(put("a", 7))))},
		{"Seq just that of the newest in a run", dbOf(9, nil, runsOf(rowOf(put("a", 2)), rowOf(put("a", 9), put("b", 1))))},
		{"Seq above all", dbOf(10, rowOf(put("a", 9)), runsOf(rowOf(put("a", 7))))},
		{"an entry of MaxSeq", dbOf(impl.MaxSeq, rowOf(put("a", impl.MaxSeq)), runsOf(rowOf(put("a", impl.MaxSeq-1))), impl.MaxSeq-1, impl.MaxSeq)},
		{"Mem just above the runs", dbOf(8, rowOf(put("z", 6), put("a", 5)), runsOf(rowOf(put("a", 4), put("z", 1)), rowOf(put("b", 3))))},
		{"runs that are mixed", dbOf(20, rowOf(put("a", 20)), runsOf(rowOf(put("a", 1), put("b", 9)), rowOf(put("a", 5), put("b", 2)), rowOf(put("c", 15))))},
		{"an older run first", dbOf(5, nil, runsOf(rowOf(put("a", 1)), rowOf(put("a", 5))))},
		{"empty runs", dbOf(5, rowOf(put("a", 5)), runsOf(nil, rowOf(put("a", 4)), nil))},
		{"deletions alone", dbOf(5, nil, runsOf(rowOf(gone("a", 4), gone("b", 3)), rowOf(gone("a", 2))))},
		{"one user in all", dbOf(9, rowOf(gone("a", 9), put("a", 7)), runsOf(rowOf(put("a", 6), gone("a", 2)), rowOf(put("a", 4), put("a", 3))), 0, 3, 5, 8)},
		{"a snapshot at Seq", dbOf(9, rowOf(put("a", 9)), nil, 9)},
		{"a snapshot at 0", dbOf(9, rowOf(put("a", 9)), nil, 0)},
		{"snapshots at all", dbOf(3, rowOf(put("a", 3)), runsOf(rowOf(put("a", 2), gone("a", 1))), 0, 1, 2, 3)},
		{"the greatest texts", dbOf(4, []impl.Entry{{Key: put(strings.Repeat("\xff", 40), 4), Value: strings.Repeat("v", 200)}}, []impl.Run{{Entries: []impl.Entry{{Key: put("\x00", 3)}}}})},
	}
	for _, many := range []int{0, 1, 2, 17, 18, 19, 20} {
		runs := manyRuns(many)
		list = append(list,
			namedDb{fmt.Sprint(many, " runs"), dbOf(30, nil, runs, 3, 7)},
			namedDb{fmt.Sprint(many, " runs and Mem"), dbOf(30, rowOf(put("r0", 29), gone("m", 28)), manyRuns(many), 3, 28, 30)},
			namedDb{fmt.Sprint(many, " empty runs"), dbOf(30, rowOf(put("r0", 29)), make([]impl.Run, many))},
		)
	}
	for _, size := range []int{1, 2, 380, 381, 399, 400} {
		list = append(list,
			namedDb{fmt.Sprint(size, " in Mem"), dbOf(1000, spread(size, 0), nil, 5, 100)},
			namedDb{fmt.Sprint(size, " in a run"), dbOf(1000, nil, runsOf(spread(size, 1)), 5, 100)},
			namedDb{fmt.Sprint(size, " in both"), dbOf(int64(size), spread(size-size/2, int64(size/2)+1), runsOf(spread(size/2, 1)), int64(size)/2)},
			namedDb{fmt.Sprint(size, " in Mem and 20 runs"), dbOf(500, spread(size/21, 450), dealt(spread(size-size/21, 1), 20, func(place int) int { return place % 20 }), 9, 99)},
		)
	}
	for _, snaps := range rightSnaps() {
		last := int64(0)
		if len(snaps) > 0 {
			last = snaps[len(snaps)-1]
		}
		list = append(list, namedDb{fmt.Sprint("snapshots ", snaps), impl.Db{Seq: last, Snaps: snaps}})
		if last >= 9 {
			list = append(list, namedDb{fmt.Sprint("entries and snapshots ", snaps), dbOf(last, rowOf(put("a", 9), gone("b", 7)), runsOf(rowOf(put("b", 5), put("a", 3))), snaps...)})
		}
	}
	return list
}

func wrongDbs() []namedDb {
	list := []namedDb{
		{"Seq -1", impl.Db{Seq: -1}},
		{"the least Seq", impl.Db{Seq: math.MinInt64}},
		{"Seq MaxSeq + 1", impl.Db{Seq: impl.MaxSeq + 1}},
		{"the greatest Seq", impl.Db{Seq: math.MaxInt64}},
		{"Seq -1 and all else", dbOf(-1, rowOf(put("a", 3)), runsOf(rowOf(put("a", 2))), 1)},
		{"Seq MaxSeq + 1 and all else", dbOf(impl.MaxSeq+1, rowOf(put("a", 3)), runsOf(rowOf(put("a", 2))), 1)},
		{"Seq one below the newest in Mem", dbOf(8, rowOf(put("a", 9), put("b", 2)), nil)},
		{"Seq one below a deletion in Mem", dbOf(8, rowOf(put("b", 2), gone("c", 9)), nil)},
		{"Seq one below the newest in a run", dbOf(8, nil, runsOf(rowOf(put("a", 2)), rowOf(put("b", 1), put("a", 9))))},
		{"Seq 0, an entry of 1", dbOf(0, rowOf(put("a", 1)), nil)},
		{"Seq 0, an entry of 1 in a run", dbOf(0, nil, runsOf(rowOf(put("a", 1))))},
		{"Seq one below MaxSeq", dbOf(impl.MaxSeq-1, rowOf(put("a", impl.MaxSeq)), nil)},
		{"one Seq twice in Mem, of two users", dbOf(9, rowOf(put("a", 5), put("b", 5)), nil)},
		{"one Seq twice in Mem, others between", dbOf(9, rowOf(put("a", 5), put("b", 7), put("c", 4), gone("d", 5)), nil)},
		{"one Seq twice in Mem, of one user", dbOf(9, rowOf(put("a", 5), gone("a", 5)), nil)},
		{"one Seq twice in a run, of two users", dbOf(9, nil, runsOf(rowOf(put("a", 5), put("b", 5))))},
		{"one Seq twice in a run, of one user", dbOf(9, nil, runsOf(nil, rowOf(put("a", 5), gone("a", 5))))},
		{"one Seq in two runs", dbOf(9, nil, runsOf(rowOf(put("a", 5)), rowOf(put("b", 5))))},
		{"one Seq in two runs, not next to each other", dbOf(9, nil, runsOf(rowOf(put("a", 5), put("c", 1)), rowOf(put("a", 2)), rowOf(put("b", 5))))},
		{"one Key in two runs", dbOf(9, nil, runsOf(rowOf(put("a", 5)), rowOf(put("a", 5))))},
		{"one Seq in Mem and a run", dbOf(9, rowOf(put("a", 5)), runsOf(rowOf(put("b", 5))))},
		{"one Seq in Mem and a run, among others", dbOf(9, rowOf(put("a", 5), put("b", 8)), runsOf(rowOf(put("b", 3)), rowOf(put("c", 5), put("d", 2))))},
		{"one Key in Mem and a run", dbOf(9, rowOf(put("a", 5)), runsOf(rowOf(put("a", 5))))},
		{"Seq 0 twice", dbOf(9, rowOf(put("a", 0)), runsOf(rowOf(put("b", 0))))},
		{"Mem below a run", dbOf(9, rowOf(put("a", 4)), runsOf(rowOf(put("b", 5))))},
		{"Mem below the last run alone", dbOf(9, rowOf(put("a", 4)), runsOf(rowOf(put("b", 3)), rowOf(put("b", 5))))},
		{"some of Mem below a run", dbOf(9, rowOf(put("a", 8), put("b", 4), put("c", 7)), runsOf(rowOf(put("b", 5), put("b", 2))))},
		{"Mem between the entries of a run", dbOf(9, rowOf(put("a", 4)), runsOf(rowOf(put("b", 5), put("b", 3))))},
		{"Mem of 0 below a run", dbOf(9, rowOf(put("a", 0)), runsOf(rowOf(put("b", 1))))},
		{"a snapshot one above Seq", dbOf(9, rowOf(put("a", 9)), nil, 10)},
		{"a snapshot one above Seq, others below", dbOf(9, nil, nil, 3, 9, 10)},
		{"a snapshot of 1, Seq 0", impl.Db{Snaps: []int64{1}}},
		{"a snapshot of MaxSeq", impl.Db{Seq: impl.MaxSeq - 1, Snaps: []int64{impl.MaxSeq}}},
		{"two snapshots alike", dbOf(9, nil, nil, 4, 4)},
		{"snapshots that fall", dbOf(9, nil, nil, 4, 3)},
		{"a snapshot of -1", dbOf(9, nil, nil, -1)},
		{"21 runs", dbOf(30, nil, manyRuns(21))},
		{"21 runs and Mem", dbOf(30, rowOf(put("a", 25)), manyRuns(21))},
		{"21 empty runs", impl.Db{Runs: make([]impl.Run, 21)}},
		{"1000 empty runs", impl.Db{Runs: make([]impl.Run, 1000)}},
		{"401 in Mem", dbOf(1000, spread(401, 1), nil)},
		{"401 in a run", dbOf(1000, nil, runsOf(spread(401, 1)))},
		{"401 in runs", dbOf(1000, nil, runsOf(spread(200, 1), spread(201, 300)))},
		{"400 in Mem, 1 in a run", dbOf(1000, spread(400, 2), runsOf(rowOf(put("a", 1))))},
		{"1 in Mem, 400 in a run", dbOf(1000, rowOf(put("a", 900)), runsOf(spread(400, 2)))},
		{"201 in Mem, 200 in runs", dbOf(1000, spread(201, 300), runsOf(spread(100, 1), spread(100, 150)))},
		{"400 in Mem, 400 in a run", dbOf(1000, spread(400, 500), runsOf(spread(400, 1)))},
	}
	for i, row := range oddRows() {
		word := fmt.Sprint("odd row ", i)
		list = append(list,
			namedDb{word + " in Mem", impl.Db{Seq: impl.MaxSeq, Mem: row}},
			namedDb{word + " in a run", impl.Db{Seq: impl.MaxSeq, Runs: runsOf(row)}},
			namedDb{word + " in the last run", impl.Db{Seq: impl.MaxSeq, Mem: rowOf(put("q", impl.MaxSeq)), Runs: runsOf(nil, rowOf(put("c", 90)), row)}},
		)
	}
	for _, snaps := range wrongSnaps() {
		list = append(list,
			namedDb{"snapshots " + brief(snaps), impl.Db{Seq: impl.MaxSeq, Snaps: snaps}},
			namedDb{"entries and snapshots " + brief(snaps), dbOf(impl.MaxSeq, rowOf(put("a", 5)), runsOf(rowOf(put("a", 2))), snaps...)},
		)
	}
	return list
}

// rightByHand holds each entry against each other one.
func rightByHand(d impl.Db) bool {
	var mem, old []impl.Entry
	mem = append(mem, d.Mem...)
	fine := impl.EntriesOk(d.Mem) && len(d.Runs) <= 20 && d.Seq >= 0 && d.Seq <= 1000000000000 && len(d.Snaps) <= 20
	for _, run := range d.Runs {
		fine = fine && impl.EntriesOk(run.Entries)
		old = append(old, run.Entries...)
	}
	all := slices.Concat(mem, old)
	for i, e := range all {
		fine = fine && e.Key.Seq <= d.Seq
		for j, o := range all {
			fine = fine && (i == j || e.Key.Seq != o.Key.Seq)
			fine = fine && (i >= len(mem) || j < len(mem) || e.Key.Seq > o.Key.Seq)
		}
	}
	for i, a := range d.Snaps {
		fine = fine && a >= 0 && a <= d.Seq
		for _, b := range d.Snaps[:i] {
			fine = fine && b < a
		}
	}
	return fine && len(all) <= 400
}

func TestP15RightAndWrongEngines(t *testing.T) {
	for _, c := range rightDbs() {
		if !impl.DbOk(c.db) || !rightByHand(c.db) {
			t.Errorf("%s: it is right (%v)", c.word, rightByHand(c.db))
		}
	}
	for _, c := range wrongDbs() {
		if impl.DbOk(c.db) || rightByHand(c.db) {
			t.Errorf("%s: it is not right (%v)", c.word, rightByHand(c.db))
		}
	}
}

// oddDb is a small engine that is about as often right as not.
func oddDb(r *rand.Rand) impl.Db {
	d := impl.Db{Seq: int64(r.Intn(8)) + 4}
	seqs := r.Perm(int(d.Seq) + 1)
	for i, seq := range seqs[:r.Intn(len(seqs)+1)] {
		k := put(string(rune('a'+r.Intn(3))), int64(seq))
		k.Kind = int64(r.Intn(2))
		if r.Intn(30) == 0 {
			k.Seq += int64(r.Intn(3)) - 1
		}
		if i%4 == 0 {
			d.Runs = append(d.Runs, impl.Run{})
		}
		if to := r.Intn(len(d.Runs) + 1); seq > int(d.Seq)/2 || to == len(d.Runs) && r.Intn(8) == 0 {
			d.Mem = append(d.Mem, rowOf(k)...)
		} else {
			to = min(to, len(d.Runs)-1)
			d.Runs[to].Entries = append(d.Runs[to].Entries, rowOf(k)...)
		}
	}
	for seq := range d.Seq + 2 {
		if r.Intn(4) == 0 && (seq <= d.Seq || r.Intn(4) == 0) {
			d.Snaps = append(d.Snaps, seq)
		}
	}
	return dbOf(d.Seq, d.Mem, d.Runs, d.Snaps...)
}

func TestP15EnginesOfAllKinds(t *testing.T) {
	r := rand.New(rand.NewSource(61))
	right := 0
	for range 40000 {
		d := oddDb(r)
		want := rightByHand(d)
		if impl.DbOk(d) != want {
			t.Fatalf("%v: right is %v", d, want)
		}
		if want {
			right++
		} else if r.Intn(20) == 0 {
			holdRefused(t, "odd", d)
		}
	}
	if right < 10000 || right > 38000 {
		t.Error("right ones:", right)
	}
}

func sameRuns(a []impl.Run, b []impl.Run) bool {
	return slices.EqualFunc(a, b, func(a, b impl.Run) bool { return slices.Equal(a.Entries, b.Entries) })
}

func sameDb(a impl.Db, b impl.Db) bool {
	return a.Seq == b.Seq && slices.Equal(a.Mem, b.Mem) && sameRuns(a.Runs, b.Runs) && slices.Equal(a.Snaps, b.Snaps)
}

func holdDb(t *testing.T, word string, got impl.Db, code int64, want impl.Db, wantCode int64) impl.Db {
	t.Helper()
	if code != wantCode || !sameDb(got, want) {
		t.Fatalf("%s: %d, %s, not %d, %s", word, code, brief(got), wantCode, brief(want))
	}
	return got
}

// holdRefused asks each function about an engine that is not right.
func holdRefused(t *testing.T, word string, d impl.Db) {
	t.Helper()
	for _, ops := range [][]impl.Op{nil, {set("a", "x")}, manyOps(20), manyOps(21)} {
		got, code := impl.DbWrite(d, ops)
		holdDb(t, word+" written", got, code, impl.Db{}, impl.DbWrong)
	}
	for _, at := range []int64{-1, 0, 1, 4, 5, 9, d.Seq, math.MinInt64, math.MaxInt64} {
		for _, user := range []string{"a", "b", "", strings.Repeat("u", 41)} {
			if code, value := impl.DbGet(d, user, at); code != impl.GtBad || value != "" {
				t.Fatalf("%s: %q as of %d is %d, %q", word, user, at, code, value)
			}
		}
		if pairs, code := impl.DbScan(d, at, "", ""); code != impl.DbWrong || len(pairs) != 0 {
			t.Fatalf("%s: as of %d %d, %s", word, at, code, brief(pairs))
		}
		got, code := impl.DbFree(d, at)
		holdDb(t, word+" freed", got, code, impl.Db{}, impl.DbWrong)
	}
	got, code := impl.DbFlush(d)
	holdDb(t, word+" flushed", got, code, impl.Db{}, impl.DbWrong)
	got, code = impl.DbCompact(d)
	holdDb(t, word+" compacted", got, code, impl.Db{}, impl.DbWrong)
	got, at, code := impl.DbSnap(d)
	if holdDb(t, word+" with a snapshot", got, code, impl.Db{}, impl.DbWrong); at != 0 {
		t.Fatalf("%s: a snapshot at %d", word, at)
	}
}

func TestP15WrongEnginesAreRefused(t *testing.T) {
	for _, c := range wrongDbs() {
		holdRefused(t, c.word, c.db)
	}
}

// allByHand puts the entries of all rows into one.
func allByHand(d impl.Db) []impl.Entry {
	row := slices.Clone(d.Mem)
	for _, run := range d.Runs {
		row = append(row, run.Entries...)
	}
	sortByHand(row)
	return row
}

// opFine is what a batch asks of an op.
func opFine(op impl.Op) bool {
	if len(op.User) < 1 || len(op.User) > 40 || len(op.Value) > 200 {
		return false
	}
	return op.Kind == impl.KdPut || op.Kind == impl.KdDelete && op.Value == ""
}

func dbWrittenByHand(d impl.Db, ops []impl.Op) (impl.Db, int64) {
	if len(ops) == 0 || len(ops) > 20 || d.Seq > 1000000000000-21 || slices.ContainsFunc(ops, func(op impl.Op) bool { return !opFine(op) }) {
		return d, impl.DbForm
	}
	if len(allByHand(d))+len(ops) > 400 {
		return d, impl.DbFull
	}
	now := d
	now.Mem = slices.Clone(d.Mem)
	for _, op := range ops {
		now.Seq++
		now.Mem = append(now.Mem, impl.Entry{Key: impl.Key{User: op.User, Seq: now.Seq, Kind: op.Kind}, Value: op.Value})
	}
	sortByHand(now.Mem)
	return now, impl.DbFine
}

func holdWritten(t *testing.T, word string, d impl.Db, ops []impl.Op) impl.Db {
	t.Helper()
	want, wantCode := dbWrittenByHand(d, ops)
	got, code := impl.DbWrite(d, ops)
	holdDb(t, fmt.Sprintf("%s, %s written", word, brief(ops)), got, code, want, wantCode)
	if !impl.DbOk(got) {
		t.Fatalf("%s: %s written leave it wrong", word, brief(ops))
	}
	return got
}

func holdFlushed(t *testing.T, word string, d impl.Db) impl.Db {
	t.Helper()
	want, wantCode := d, int64(impl.DbFine)
	switch {
	case len(d.Mem) == 0:
		wantCode = impl.DbNone
	case len(d.Runs) > 18:
		wantCode = impl.DbFull
	default:
		want.Runs = append(runsOf(d.Mem), d.Runs...)
		want.Mem = nil
	}
	got, code := impl.DbFlush(d)
	holdDb(t, word+" flushed", got, code, want, wantCode)
	holdSameReads(t, word+" flushed", d, got)
	return got
}

func holdDbCompacted(t *testing.T, word string, d impl.Db) impl.Db {
	t.Helper()
	want, wantCode := d, int64(impl.DbNone)
	if len(d.Runs) > 0 {
		want.Runs, wantCode = nil, impl.DbFine
		if left := compactedByHand(mergedByHand(d.Runs), d.Snaps, true); len(left) > 0 {
			want.Runs = runsOf(left)
		}
	}
	got, code := impl.DbCompact(d)
	holdDb(t, word+" compacted", got, code, want, wantCode)
	holdSameReads(t, word+" compacted", d, got)
	return got
}

func holdSnapped(t *testing.T, word string, d impl.Db) impl.Db {
	t.Helper()
	want, wantAt, wantCode := d, d.Seq, int64(impl.DbFine)
	if !slices.Contains(d.Snaps, d.Seq) {
		if want.Snaps = append(slices.Clone(d.Snaps), d.Seq); len(want.Snaps) > 20 {
			want, wantAt, wantCode = d, 0, impl.DbFull
		}
	}
	got, at, code := impl.DbSnap(d)
	if holdDb(t, word+" with a snapshot", got, code, want, wantCode); at != wantAt {
		t.Fatalf("%s: a snapshot at %d, not %d", word, at, wantAt)
	}
	if !impl.DbOk(got) {
		t.Fatalf("%s: a snapshot leaves it wrong", word)
	}
	return got
}

func holdDbFreed(t *testing.T, word string, d impl.Db, at int64) impl.Db {
	t.Helper()
	want, wantCode := d, int64(impl.DbNone)
	want.Snaps = nil
	for _, seq := range d.Snaps {
		if seq == at {
			wantCode = impl.DbFine
		} else {
			want.Snaps = append(want.Snaps, seq)
		}
	}
	got, code := impl.DbFree(d, at)
	holdDb(t, fmt.Sprintf("%s, %d freed", word, at), got, code, want, wantCode)
	if !impl.DbOk(got) {
		t.Fatalf("%s: freeing %d leaves it wrong", word, at)
	}
	return got
}

// holdDbReads asks for user, and for all between the bounds, by plain looks at all entries.
func holdDbReads(t *testing.T, word string, d impl.Db, user string, at int64, from string, to string) {
	t.Helper()
	row, seq := allByHand(d), at
	wantCode, wantValue, wantPairs, scanCode := int64(impl.GtBad), "", []impl.Pair(nil), int64(impl.DbNone)
	if at == -1 {
		seq = d.Seq
	}
	if at == -1 || slices.Contains(d.Snaps, at) {
		wantPairs, scanCode = betweenByHand(visibleByHand(row, seq), from, to), impl.DbFine
		if wantCode, wantValue = gotByHand(row, user, seq); wantCode == impl.GtGone {
			wantCode = impl.GtNone
		}
	}
	if code, value := impl.DbGet(d, user, at); code != wantCode || value != wantValue {
		t.Fatalf("%s: %q as of %d is %d, %q, not %d, %q", word, user, at, code, value, wantCode, wantValue)
	}
	if pairs, code := impl.DbScan(d, at, from, to); code != scanCode || !slices.Equal(pairs, wantPairs) {
		t.Fatalf("%s: %q to %q as of %d: %d, %s, not %d, %s", word, from, to, at, code, brief(pairs), scanCode, brief(wantPairs))
	}
}

// holdSameReads wants of both that they are right and read alike, as of now and of each snapshot.
func holdSameReads(t *testing.T, word string, had impl.Db, has impl.Db) {
	t.Helper()
	if !impl.DbOk(has) {
		t.Fatalf("%s: it is not right: %s", word, brief(has))
	}
	users := impl.MemUsers(allByHand(had))
	for _, at := range append([]int64{-1}, had.Snaps...) {
		before, _ := impl.DbScan(had, at, "", "")
		if now, code := impl.DbScan(has, at, "", ""); code != impl.DbFine || !slices.Equal(before, now) {
			t.Fatalf("%s: as of %d it had %s, and has %s (%d)", word, at, brief(before), brief(now), code)
		}
		for i, user := range users {
			if len(users) > 30 && i%17 > 0 {
				continue
			}
			oldCode, oldValue := impl.DbGet(had, user, at)
			if code, value := impl.DbGet(has, user, at); code != oldCode || value != oldValue {
				t.Fatalf("%s: %q as of %d was %d, %q, and is %d, %q", word, user, at, oldCode, oldValue, code, value)
			}
		}
	}
}

func TestP15BatchesOfAllKinds(t *testing.T) {
	batches := [][]impl.Op{
		nil, {},
		{set("a", "x")}, {del("a")}, {set("a", "")}, {del("none")}, {set("\x00", "\x00")},
		{set("a", "1"), set("a", "2"), set("a", "3")}, {set("a", "1"), del("a")}, {del("a"), set("a", "1")}, {del("a"), del("a")},
		{set("b", "1"), set("a", "2"), del("c"), set("b", "3"), set("", "4")},
		{{}}, {{Kind: impl.KdPut}}, {{Kind: 2, User: "a"}}, {{Kind: -1, User: "a"}}, {{Kind: impl.KdDelete, User: "a", Value: "x"}},
		{set("a", "1"), {Kind: 2, User: "a"}}, {{Kind: math.MinInt64, User: "a"}, set("a", "1")}, {{Kind: 256, User: "a"}}, {{Kind: 1<<32 + 1, User: "a"}},
		{set(strings.Repeat("u", 40), strings.Repeat("v", 200))}, {set(strings.Repeat("u", 41), "v")}, {set("u", strings.Repeat("v", 201))},
		{del(strings.Repeat("u", 40))}, {del(strings.Repeat("u", 41))}, {del("")},
		{set("u", "v"), set("u", strings.Repeat("v", 201))}, {set(strings.Repeat("u", 41), "v"), set("u", "v")},
		manyOps(1), manyOps(2), manyOps(19), manyOps(20), manyOps(21), manyOps(22), manyOps(500),
		slices.Repeat([]impl.Op{set("a", "x")}, 20), slices.Repeat([]impl.Op{del("a")}, 21), append(manyOps(19), set("", "x")), append(manyOps(20), set("", "x")),
	}
	for _, c := range rightDbs() {
		for _, ops := range batches {
			holdWritten(t, c.word, c.db, ops)
		}
	}
}

func TestP15NumbersOfBatches(t *testing.T) {
	for _, d := range []impl.Db{{}, dbOf(0, rowOf(put("a", 0)), runsOf(nil)), dbOf(0, nil, runsOf(rowOf(put("a", 0))), 0)} {
		for size := 1; size <= 20; size++ {
			if got := holdWritten(t, "first", d, manyOps(size)); got.Seq != int64(size) || len(got.Mem) != size+len(d.Mem) {
				t.Error(size, got)
			}
		}
	}
	for seq := int64(impl.MaxSeq - 45); seq <= impl.MaxSeq; seq++ {
		for _, d := range []impl.Db{dbOf(seq, nil, nil), dbOf(seq, rowOf(put("a", seq)), runsOf(rowOf(put("a", 5))), seq), dbOf(seq, nil, runsOf(rowOf(put("a", seq), put("b", 0))))} {
			for _, size := range []int{1, 2, 19, 20, 21} {
				got := holdWritten(t, "last", d, manyOps(size))
				// A batch's first number is at most MaxSeq - MaxBatch, however few ops it has.
				if fine := seq+1 <= impl.MaxSeq-20 && size <= 20; fine != (got.Seq == seq+int64(size)) || !fine && got.Seq != seq {
					t.Errorf("%d ops at %d: %d", size, seq, got.Seq)
				}
			}
		}
	}
}

func TestP15HowManyEntries(t *testing.T) {
	for size := 376; size <= 400; size++ {
		for word, d := range map[string]impl.Db{
			"in Mem":     dbOf(1000, spread(size, 1), nil, 7, 200),
			"in a run":   dbOf(1000, nil, runsOf(spread(size, 1)), 7, 200),
			"in both":    dbOf(1000, spread(190, 500), runsOf(spread(size-190, 1)), 7, 200),
			"in 20 runs": dbOf(1000, spread(5, 900), dealt(spread(size-5, 1), 20, func(place int) int { return place / 20 }), 7, 200),
		} {
			for _, many := range []int{1, 2, 3, 19, 20} {
				want := int64(impl.DbFine)
				if size+many > 400 {
					want = impl.DbFull
				}
				if got := holdWritten(t, word, d, manyOps(many)); (got.Seq == d.Seq) != (want == impl.DbFull) {
					t.Errorf("%d %s and %d: %d", size, word, many, got.Seq)
				}
			}
			// What is not right is told ahead of what is too much.
			for _, ops := range [][]impl.Op{nil, manyOps(21), append(manyOps(19), del(""))} {
				if got, code := impl.DbWrite(d, ops); code != impl.DbForm || !sameDb(got, d) {
					t.Errorf("%d %s: %d", size, word, code)
				}
			}
		}
	}
	// The same user again takes an entry more.
	full := dbOf(400, spread(400, 1), nil)
	if _, code := impl.DbWrite(full, []impl.Op{set("user0001", "x")}); code != impl.DbFull {
		t.Error(code)
	}
	if _, code := impl.DbWrite(full, []impl.Op{del("user0001")}); code != impl.DbFull {
		t.Error(code)
	}
}

func TestP15OpsOneByOne(t *testing.T) {
	r := rand.New(rand.NewSource(62))
	for _, c := range rightDbs() {
		if c.db.Seq > impl.MaxSeq-50 || len(allByHand(c.db)) > 380 {
			continue
		}
		var ops []impl.Op
		for range 1 + r.Intn(20) {
			ops = append(ops, dbOp(r))
		}
		whole, code := impl.DbWrite(c.db, ops)
		single, at := c.db, 1+r.Intn(len(ops))
		for _, op := range ops {
			single = holdWritten(t, c.word, single, []impl.Op{op})
		}
		if code != impl.DbFine || !sameDb(whole, single) {
			t.Fatalf("%s: %v are %d, %s, one by one %s", c.word, ops, code, brief(whole), brief(single))
		}
		if at < len(ops) {
			halves := holdWritten(t, c.word, holdWritten(t, c.word, c.db, ops[:at]), ops[at:])
			if !sameDb(halves, whole) {
				t.Fatalf("%s: %v in two parts: %s", c.word, ops, brief(halves))
			}
		}
		state := stateOf(c.db, -1)
		for _, op := range ops {
			doByHand(state, op)
		}
		if has := stateOf(whole, -1); !maps.Equal(has, state) {
			t.Fatalf("%s: behind %v it has %v, not %v", c.word, ops, has, state)
		}
		for _, at := range c.db.Snaps {
			if had, has := stateOf(c.db, at), stateOf(whole, at); !maps.Equal(had, has) {
				t.Fatalf("%s: %v change what the snapshot %d has", c.word, ops, at)
			}
		}
	}
}

func dbOp(r *rand.Rand) impl.Op {
	user := fmt.Sprint("r", r.Intn(6))
	if r.Intn(3) == 0 {
		return del(user)
	}
	return set(user, fmt.Sprint("value ", r.Intn(1000)))
}

func doByHand(state map[string]string, op impl.Op) {
	if op.Kind == impl.KdDelete {
		delete(state, op.User)
	} else {
		state[op.User] = op.Value
	}
}

// stateOf is what is scanned as of at; nil when there is no such.
func stateOf(d impl.Db, at int64) map[string]string {
	pairs, code := impl.DbScan(d, at, "", "")
	if code != impl.DbFine {
		return nil
	}
	state := map[string]string{}
	for _, p := range pairs {
		state[p.User] = p.Value
	}
	return state
}

func TestP15WhatIsRead(t *testing.T) {
	d := dbOf(10,
		rowOf(gone("a", 10), put("b", 9), put("ab", 8)),
		runsOf(rowOf(put("a", 2), gone("c", 7), put("e", 0)), nil, rowOf(put("a", 5), put("c", 1), gone("b", 6), put("d", 4))),
		0, 1, 2, 5, 7, 9)
	for i := range d.Mem {
		d.Mem[i].Value = strings.Repeat("m", int(d.Mem[i].Key.Kind))
	}
	for at, want := range map[int64][]impl.Pair{
		-1: pairsIn("ab", "m", "b", "m", "d", "value of d", "e", "value of e"),
		9:  pairsIn("a", "value of a", "ab", "m", "b", "m", "d", "value of d", "e", "value of e"),
		7:  pairsIn("a", "value of a", "d", "value of d", "e", "value of e"),
		5:  pairsIn("a", "value of a", "c", "value of c", "d", "value of d", "e", "value of e"),
		2:  pairsIn("a", "value of a", "c", "value of c", "e", "value of e"),
		1:  pairsIn("c", "value of c", "e", "value of e"),
		0:  pairsIn("e", "value of e"),
	} {
		if got, code := impl.DbScan(d, at, "", ""); code != impl.DbFine || !slices.Equal(got, want) {
			t.Errorf("as of %d: %d, %v, not %v", at, code, got, want)
		}
		for _, user := range []string{"a", "ab", "b", "c", "d", "e"} {
			wantCode, wantValue := int64(impl.GtNone), ""
			for _, p := range want {
				if p.User == user {
					wantCode, wantValue = impl.GtFound, p.Value
				}
			}
			if code, value := impl.DbGet(d, user, at); code != wantCode || value != wantValue {
				t.Errorf("%q as of %d: %d, %q, not %d, %q", user, at, code, value, wantCode, wantValue)
			}
		}
	}
	// The last number is a snapshot only where it was made one.
	for _, at := range []int64{math.MinInt64, -2, 3, 4, 6, 8, 10, 11, impl.MaxSeq, math.MaxInt64} {
		if got, code := impl.DbScan(d, at, "", ""); code != impl.DbNone || len(got) != 0 {
			t.Errorf("as of %d: %d, %v", at, code, got)
		}
		if code, value := impl.DbGet(d, "d", at); code != impl.GtBad || value != "" {
			t.Errorf("as of %d: %d, %q", at, code, value)
		}
	}
}

func TestP15ReadsOfAllKinds(t *testing.T) {
	r := rand.New(rand.NewSource(63))
	for _, c := range rightDbs() {
		ats := []int64{math.MinInt64, -2, -1, 0, 1, 5, c.db.Seq - 1, c.db.Seq, c.db.Seq + 1, impl.MaxSeq, math.MaxInt64}
		for _, at := range c.db.Snaps {
			ats = append(ats, at-1, at, at+1)
		}
		row := allByHand(c.db)
		users := []string{"", "a", "none", strings.Repeat("u", 40), strings.Repeat("u", 41), "\xff"}
		for _, user := range impl.MemUsers(row) {
			if r.Intn(1+len(row)) < 8 {
				users = append(users, user, user+"\x00")
			}
		}
		for _, at := range ats {
			for i, user := range users {
				holdDbReads(t, c.word, c.db, user, at, users[r.Intn(len(users))], users[i])
			}
		}
	}
}

func TestP15BoundsOfAScan(t *testing.T) {
	d := dbOf(9, rowOf(put("b", 9), gone("c", 8)), runsOf(rowOf(put("a", 7), put("c", 2)), rowOf(put("d", 4))), 7)
	bounds := []string{"", "\x00", "a", "a\x00", "b", "bb", "c", "c\x00", "d", "d\x00", "z", strings.Repeat("z", 100)}
	for _, at := range []int64{-1, 7, 9} {
		for _, from := range bounds {
			for _, to := range bounds {
				holdDbReads(t, "bounds", d, from, at, from, to)
			}
		}
	}
	if got, _ := impl.DbScan(d, -1, "b", "d"); !slices.Equal(got, pairsIn("b", "value of b")) {
		t.Error(got)
	}
	if got, _ := impl.DbScan(d, 7, "b", "d"); !slices.Equal(got, pairsIn("c", "value of c")) {
		t.Error(got)
	}
}

func TestP15FlushedAndCompacted(t *testing.T) {
	for _, c := range rightDbs() {
		flushed := holdFlushed(t, c.word, c.db)
		compacted := holdDbCompacted(t, c.word, c.db)
		both := holdDbCompacted(t, c.word+" flushed", flushed)
		holdFlushed(t, c.word+" compacted", compacted)
		if again := holdDbCompacted(t, c.word+" again", both); !sameDb(again, both) {
			t.Errorf("%s: compacted again it is %s", c.word, brief(again))
		}
		if len(c.db.Runs) < 19 && (len(both.Mem) > 0 || len(both.Runs) > 1) {
			t.Errorf("%s: %d in Mem and %d runs", c.word, len(both.Mem), len(both.Runs))
		}
	}
}

func TestP15FlushingIntoManyRuns(t *testing.T) {
	for many := range 21 {
		for _, runs := range [][]impl.Run{manyRuns(many), make([]impl.Run, many)} {
			for _, mem := range [][]impl.Entry{nil, {}, rowOf(put("a", 30)), rowOf(gone("a", 29), put("b", 30))} {
				d := dbOf(30, mem, runs, 4)
				got, code := impl.DbFlush(d)
				want := int64(impl.DbFine)
				switch {
				case len(mem) == 0:
					want = impl.DbNone
				case many >= 19:
					want = impl.DbFull
				}
				if code != want || (code == impl.DbFine) != (len(got.Runs) == many+1) || code != impl.DbFine && !sameDb(got, d) {
					t.Errorf("%d runs, %d in Mem: %d, %d runs", many, len(mem), code, len(got.Runs))
				}
				if code == impl.DbFine && (len(got.Mem) != 0 || !slices.Equal(got.Runs[0].Entries, mem) || !sameRuns(got.Runs[1:], runs)) {
					t.Errorf("%d runs, %d in Mem: %v", many, len(mem), got)
				}
			}
		}
	}
}

func TestP15CompactingDeletions(t *testing.T) {
	for _, c := range []struct {
		word string
		db   impl.Db
		want []impl.Entry
	}{
		{"deletions alone", dbOf(9, nil, runsOf(rowOf(gone("a", 5), gone("b", 4)), rowOf(gone("a", 2)))), nil},
		{"deletions alone, with snapshots", dbOf(9, nil, runsOf(rowOf(gone("a", 5), gone("b", 4)), rowOf(gone("a", 2))), 2, 4, 5, 9), nil},
		{"deletions alone, and Mem", dbOf(9, rowOf(put("a", 9), gone("b", 8)), runsOf(rowOf(gone("a", 5)))), nil},
		{"empty runs", dbOf(9, rowOf(put("a", 9)), make([]impl.Run, 3), 4), nil},
		{"all deleted", dbOf(9, nil, runsOf(rowOf(gone("a", 5)), rowOf(put("a", 3)))), nil},
		{"a snapshot between", dbOf(9, nil, runsOf(rowOf(gone("a", 5)), rowOf(put("a", 3))), 4), rowOf(gone("a", 5), put("a", 3))},
		{"a snapshot just at the put", dbOf(9, nil, runsOf(rowOf(gone("a", 5)), rowOf(put("a", 3))), 3), rowOf(gone("a", 5), put("a", 3))},
		{"a snapshot just at the deletion", dbOf(9, nil, runsOf(rowOf(gone("a", 5)), rowOf(put("a", 3))), 5), nil},
		{"a snapshot ahead of both", dbOf(9, nil, runsOf(rowOf(gone("a", 5)), rowOf(put("a", 3))), 2), nil},
		{"an older put first", dbOf(9, nil, runsOf(rowOf(put("a", 3)), rowOf(gone("a", 5)))), nil},
		{"one user in all runs", dbOf(9, nil, runsOf(rowOf(put("a", 3)), rowOf(put("a", 5)), rowOf(put("a", 4)))), rowOf(put("a", 5))},
		// The deletion stands in Mem, which is not compacted, and the put below it stays.
		{"the deletion in Mem", dbOf(9, rowOf(gone("a", 9)), runsOf(rowOf(put("a", 3)))), rowOf(put("a", 3))},
		{"the put that Mem hides", dbOf(9, rowOf(put("a", 9)), runsOf(rowOf(put("a", 5)), rowOf(put("a", 3))), 3), rowOf(put("a", 5), put("a", 3))},
	} {
		got := holdDbCompacted(t, c.word, c.db)
		var runs []impl.Run
		if len(c.want) > 0 {
			runs = runsOf(c.want)
		}
		if !sameRuns(got.Runs, runs) || !slices.Equal(got.Mem, c.db.Mem) {
			t.Errorf("%s: %v", c.word, got)
		}
	}
	none := dbOf(9, rowOf(put("a", 9)), nil, 4)
	if got, code := impl.DbCompact(none); code != impl.DbNone || !sameDb(got, none) {
		t.Error(code, got)
	}
	if got, code := impl.DbCompact(impl.Db{}); code != impl.DbNone || !sameDb(got, impl.Db{}) {
		t.Error(code, got)
	}
}

func TestP15SnapshotsAreMadeAndFreed(t *testing.T) {
	for _, c := range rightDbs() {
		once := holdSnapped(t, c.word, c.db)
		if twice := holdSnapped(t, c.word+" again", once); !sameDb(once, twice) && len(c.db.Snaps) < 20 {
			t.Errorf("%s: %v, %v", c.word, once.Snaps, twice.Snaps)
		}
		for _, at := range []int64{math.MinInt64, -1, 0, 1, 4, c.db.Seq - 1, c.db.Seq, c.db.Seq + 1, math.MaxInt64} {
			holdDbFreed(t, c.word, c.db, at)
		}
		for _, at := range c.db.Snaps {
			left := holdDbFreed(t, c.word, c.db, at)
			if _, code := impl.DbFree(left, at); code != impl.DbNone {
				t.Errorf("%s: %d freed twice is %d", c.word, at, code)
			}
			if _, code := impl.DbScan(left, at, "", ""); code != impl.DbNone {
				t.Errorf("%s: %d is freed, %d", c.word, at, code)
			}
			if code, _ := impl.DbGet(left, "a", at); code != impl.GtBad {
				t.Errorf("%s: %d is freed, %d", c.word, at, code)
			}
		}
		all := once
		for _, at := range once.Snaps {
			all = holdDbFreed(t, c.word, all, at)
		}
		if len(all.Snaps) != 0 || all.Seq != c.db.Seq || !slices.Equal(all.Mem, c.db.Mem) || !sameRuns(all.Runs, c.db.Runs) {
			t.Errorf("%s: all freed: %s", c.word, brief(all))
		}
	}
}

func TestP15TwentySnapshots(t *testing.T) {
	var d impl.Db
	for i := range int64(25) {
		d = holdWritten(t, "many", d, []impl.Op{set("a", fmt.Sprint(i))})
		next, at, code := impl.DbSnap(d)
		if fine := i < 20; fine != (code == impl.DbFine) || fine != (at == i+1) || !fine && (code != impl.DbFull || at != 0 || !sameDb(next, d)) {
			t.Fatal(i, at, code)
		}
		again, at, code := impl.DbSnap(next)
		if i < 20 && (code != impl.DbFine || at != i+1 || !sameDb(again, next)) {
			t.Fatal(i, at, code)
		}
		d = next
	}
	for at := int64(1); at <= 20; at++ {
		if code, value := impl.DbGet(d, "a", at); code != impl.GtFound || value != fmt.Sprint(at-1) {
			t.Error(at, code, value)
		}
	}
	d = holdDbFreed(t, "many", d, 7)
	if d = holdSnapped(t, "many", d); len(d.Snaps) != 20 || d.Snaps[19] != 25 {
		t.Error(d.Snaps)
	}
	// With all of them held each is there once; the one that is freed is gone.
	d = holdDbCompacted(t, "many", holdFlushed(t, "many", d))
	if len(d.Runs[0].Entries) != 20 {
		t.Error(len(d.Runs[0].Entries))
	}
	d = holdDbCompacted(t, "many", holdDbFreed(t, "many", d, 3))
	if len(d.Runs[0].Entries) != 19 || slices.ContainsFunc(d.Runs[0].Entries, func(e impl.Entry) bool { return e.Key.Seq == 3 || e.Key.Seq == 7 }) {
		t.Error(d.Runs)
	}
	for _, at := range slices.Clone(d.Snaps) {
		d = holdDbFreed(t, "many", d, at)
	}
	if d = holdDbCompacted(t, "many", d); len(d.Runs[0].Entries) != 1 || d.Runs[0].Entries[0].Value != "24" {
		t.Error(d.Runs)
	}
}

func TestP15EachShortEngine(t *testing.T) {
	keys := []func(int64) impl.Key{
		nil,
		func(seq int64) impl.Key { return put("a", seq) },
		func(seq int64) impl.Key { return gone("a", seq) },
		func(seq int64) impl.Key { return put("b", seq) },
		func(seq int64) impl.Key { return gone("b", seq) },
	}
	for word := range 125 {
		for parted := int64(0); parted <= 3; parted++ {
			for some := range 16 {
				d := impl.Db{Seq: 3, Runs: make([]impl.Run, 2)}
				for i, choice := range []int{word % 5, word / 5 % 5, word / 25} {
					seq := int64(i + 1)
					switch {
					case choice == 0:
					case seq > parted:
						d.Mem = append(d.Mem, rowOf(keys[choice](seq))...)
					default:
						to := &d.Runs[(i+some)%2]
						to.Entries = append(to.Entries, rowOf(keys[choice](seq))...)
					}
					if some>>i%2 == 1 {
						d.Snaps = append(d.Snaps, seq)
					}
				}
				if some>>3 == 1 {
					d.Snaps = append([]int64{0}, d.Snaps...)
				}
				d = dbOf(d.Seq, d.Mem, d.Runs, d.Snaps...)
				holdDbCompacted(t, "short", holdFlushed(t, "short", d))
				holdDbCompacted(t, "short", d)
				for at := int64(-1); at <= 4; at++ {
					holdDbReads(t, "short", d, "a", at, "", "")
					holdDbReads(t, "short", d, "b", at, "b", "")
				}
			}
		}
	}
}

// A player plays with an engine, and keeps by hand what was there at each snapshot.
type player struct {
	db    impl.Db
	now   map[string]string
	held  map[int64]map[string]string
	freed []int64
}

func (p *player) hold(t *testing.T) {
	t.Helper()
	if got := stateOf(p.db, -1); !maps.Equal(got, p.now) {
		t.Fatalf("it has %v, not %v: %s", got, p.now, brief(p.db))
	}
	for at, state := range p.held {
		if got := stateOf(p.db, at); got == nil || !maps.Equal(got, state) {
			t.Fatalf("as of %d it has %v, not %v: %s", at, got, state, brief(p.db))
		}
	}
	for _, at := range p.freed {
		if _, there := p.held[at]; !there && stateOf(p.db, at) != nil {
			t.Fatalf("%d was freed: %s", at, brief(p.db))
		}
	}
}

func (p *player) write(t *testing.T, r *rand.Rand) {
	t.Helper()
	var ops []impl.Op
	for range r.Intn(22) {
		ops = append(ops, dbOp(r))
	}
	fine := len(ops) > 0 && len(ops) <= 20 && len(allByHand(p.db))+len(ops) <= 400
	if p.db = holdWritten(t, "play", p.db, ops); fine {
		for _, op := range ops {
			doByHand(p.now, op)
		}
	}
}

func (p *player) snap(t *testing.T) {
	t.Helper()
	if p.db = holdSnapped(t, "play", p.db); slices.Contains(p.db.Snaps, p.db.Seq) {
		p.held[p.db.Seq] = maps.Clone(p.now)
	}
}

func (p *player) free(t *testing.T, at int64) {
	t.Helper()
	p.db = holdDbFreed(t, "play", p.db, at)
	delete(p.held, at)
	p.freed = append(p.freed, at)
}

func TestP15Plays(t *testing.T) {
	for seed := range int64(40) {
		r := rand.New(rand.NewSource(1000 + seed))
		p := player{now: map[string]string{}, held: map[int64]map[string]string{}}
		// Some plays flush much, so that the runs grow many, some seldom compact, so that the entries do.
		flushes, compacts := 1+r.Intn(6), r.Intn(3)
		for range 150 {
			switch choice := r.Intn(6 + flushes + compacts); {
			case choice < 3:
				p.write(t, r)
			case choice == 3:
				p.snap(t)
			case choice == 4 && len(p.db.Snaps) > 0:
				p.free(t, p.db.Snaps[r.Intn(len(p.db.Snaps))])
			case choice == 5:
				p.free(t, r.Int63n(p.db.Seq+2))
			case choice < 6+flushes:
				p.db = holdFlushed(t, "play", p.db)
			default:
				p.db = holdDbCompacted(t, "play", p.db)
			}
			p.hold(t)
		}
	}
}

// withRoom is an engine of which each list has something in the room behind it.
func withRoom() impl.Db {
	rest := rowOf(put("y", 99), gone("z", 98))
	roomy := func(keys ...impl.Key) []impl.Entry {
		return append(rowOf(keys...), rest...)[:len(keys)]
	}
	runs := append(runsOf(roomy(gone("a", 5), put("b", 4)), roomy(put("a", 3)), nil), runsOf(rest)...)[:3]
	return impl.Db{Seq: 9, Mem: roomy(put("a", 9), put("c", 8)), Runs: runs, Snaps: append([]int64{3, 4, 7}, 77, 78)[:3]}
}

// wholeOf is all that lies in the lists of d, and in the room behind them.
func wholeOf(d impl.Db) string {
	text := fmt.Sprint(d.Seq, d.Mem[:cap(d.Mem)], d.Snaps[:cap(d.Snaps)])
	for _, run := range d.Runs[:cap(d.Runs)] {
		text += fmt.Sprint(run.Entries[:cap(run.Entries)])
	}
	return text
}

// spoilers write into one list of d each, and into the room behind it.
func spoilers(d impl.Db) []func() {
	list := []func(){
		func() { spoilRow(d.Mem) },
		func() {
			for i := range d.Snaps[:cap(d.Snaps)] {
				d.Snaps[:cap(d.Snaps)][i] = -5
			}
		},
	}
	for _, run := range d.Runs {
		list = append(list, func() { spoilRow(run.Entries) })
	}
	return append(list, func() {
		for i := range d.Runs[:cap(d.Runs)] {
			d.Runs[:cap(d.Runs)][i] = impl.Run{Entries: rowOf(put("spoilt", 1))}
		}
	})
}

func spoilRow(row []impl.Entry) {
	for i := range row[:cap(row)] {
		row[:cap(row)][i] = impl.Entry{Value: "spoilt"}
	}
}

func TestP15EnginesStayAsTheyAre(t *testing.T) {
	ops := append([]impl.Op{set("b", "new"), del("a")}, set("room", "x"))[:2]
	full := withRoom()
	full.Runs = append(manyRuns(19), runsOf(rowOf(put("x", 7)))...)[:19]
	full.Seq, full.Mem = 50, append(rowOf(put("a", 50)), rowOf(put("x", 7))...)[:1]
	full.Snaps = append(risingSnaps(20, 0, 2), 77)[:20]
	for i, change := range []func(impl.Db) impl.Db{
		func(d impl.Db) impl.Db { got, _ := impl.DbWrite(d, ops); return got },
		func(d impl.Db) impl.Db { got, _ := impl.DbWrite(d, nil); return got },
		func(d impl.Db) impl.Db { got, _ := impl.DbFlush(d); return got },
		func(d impl.Db) impl.Db { got, _ := impl.DbCompact(d); return got },
		func(d impl.Db) impl.Db { got, _, _ := impl.DbSnap(d); return got },
		func(d impl.Db) impl.Db { got, _ := impl.DbFree(d, 4); return got },
		func(d impl.Db) impl.Db { got, _ := impl.DbFree(d, 5); return got },
		func(d impl.Db) impl.Db { impl.DbGet(d, "a", -1); impl.DbScan(d, 4, "", ""); return impl.Db{} },
	} {
		for j, d := range []impl.Db{withRoom(), full} {
			before := wholeOf(d)
			want := change(d)
			for place := range spoilers(want) {
				got, other := change(d), change(d)
				spoilers(got)[place]()
				if wholeOf(d) != before {
					t.Fatalf("change %d, engine %d, list %d: an argument was written into", i, j, place)
				}
				if !sameDb(other, want) || !sameDb(change(d), want) {
					t.Fatalf("change %d, engine %d, list %d: an answer was kept", i, j, place)
				}
				// What is written into one list is in no other one.
				lists := func(d impl.Db) []string {
					list := []string{fmt.Sprint(d.Mem), fmt.Sprint(d.Snaps)}
					for _, run := range d.Runs {
						list = append(list, fmt.Sprint(run.Entries))
					}
					return list
				}
				for k, list := range lists(got) {
					if k < len(lists(want)) && k != place && place < len(lists(want)) && list != lists(want)[k] {
						t.Fatalf("change %d, engine %d: list %d is in list %d", i, j, place, k)
					}
				}
			}
		}
	}
	if len(ops) != 2 || ops[:3][2] != set("room", "x") || ops[0] != set("b", "new") {
		t.Error(ops[:3])
	}
	d := withRoom()
	first, _ := impl.DbScan(d, -1, "", "")
	second, _ := impl.DbScan(d, -1, "", "")
	for i := range first[:cap(first)] {
		first[:cap(first)][i] = impl.Pair{User: "spoilt"}
	}
	if want := visibleByHand(allByHand(d), 9); !slices.Equal(second, want) || wholeOf(d) != wholeOf(withRoom()) {
		t.Error(second, want)
	}
}

// textsIn counts where in memory the texts of d begin.
func textsIn(d impl.Db) map[*byte]int {
	places := map[*byte]int{}
	for _, e := range allByHand(d) {
		places[unsafe.StringData(e.Key.User)]++
		if e.Value != "" {
			places[unsafe.StringData(e.Value)]++
		}
	}
	return places
}

func TestP15TextsAreNewToo(t *testing.T) {
	d := withRoom()
	ops := []impl.Op{set("b", "new"), del("a")}
	old := textsIn(d)
	for _, op := range ops {
		old[unsafe.StringData(op.User)]++
		old[unsafe.StringData(op.Value)]++
	}
	var answers [6]impl.Db
	answers[0], _ = impl.DbWrite(d, ops)
	answers[1], _ = impl.DbWrite(d, nil)
	answers[2], _ = impl.DbFlush(d)
	answers[3], _ = impl.DbCompact(d)
	answers[4], _, _ = impl.DbSnap(d)
	answers[5], _ = impl.DbFree(d, 4)
	for i, answer := range answers {
		for place, times := range textsIn(answer) {
			if old[place] > 0 || times > 1 {
				t.Errorf("answer %d has a text that is not its own", i)
			}
		}
	}
	_, value := impl.DbGet(d, "b", -1)
	pairs, _ := impl.DbScan(d, -1, "", "")
	for _, text := range []string{value, pairs[0].User, pairs[0].Value} {
		if text == "" || old[unsafe.StringData(text)] > 0 {
			t.Errorf("%q is not the answer's own", text)
		}
	}
}

func TestP15AnswersHangOnNoOtherCall(t *testing.T) {
	d := dbOf(400, spread(100, 300), runsOf(spread(100, 1), spread(100, 150)), 20, 120, 200, 350)
	wants := [4]impl.Db{}
	wants[0], _ = impl.DbWrite(d, manyOps(20))
	wants[1], _ = impl.DbFlush(d)
	wants[2], _ = impl.DbCompact(d)
	wants[3], _, _ = impl.DbSnap(d)
	pairs, _ := impl.DbScan(d, 120, "", "")
	var group sync.WaitGroup
	same := make([]bool, 16)
	for i := range same {
		group.Go(func() {
			same[i] = true
			for range 20 {
				written, _ := impl.DbWrite(d, manyOps(20))
				flushed, _ := impl.DbFlush(d)
				compacted, _ := impl.DbCompact(d)
				snapped, _, _ := impl.DbSnap(d)
				scanned, _ := impl.DbScan(d, 120, "", "")
				_, code := impl.DbWrite(impl.Db{Seq: -1}, nil)
				same[i] = same[i] && sameDb(written, wants[0]) && sameDb(flushed, wants[1]) && sameDb(compacted, wants[2]) && sameDb(snapped, wants[3]) && slices.Equal(scanned, pairs) && code == impl.DbWrong
			}
		})
	}
	group.Wait()
	if slices.Contains(same, false) {
		t.Error(same)
	}
}
