package tests

import (
	"fmt"
	"math"
	"math/rand"
	"slices"
	"sync"
	"testing"

	"loop.example/g00214/impl"
)

func TestP14Limits(t *testing.T) {
	if impl.MaxSnaps != 20 {
		t.Error(impl.MaxSnaps)
	}
}

// risingSnaps are so many, from first on, each by step above the one ahead.
func risingSnaps(many int, first int64, step int64) []int64 {
	var snaps []int64
	for i := range int64(many) {
		snaps = append(snaps, first+i*step)
	}
	return snaps
}

func rightSnaps() [][]int64 {
	return [][]int64{
		nil, {}, {0}, {1}, {impl.MaxSeq}, {impl.MaxSeq - 1}, {0, 1}, {0, impl.MaxSeq}, {impl.MaxSeq - 1, impl.MaxSeq}, {3, 5, 8, 200, 201}, {1 << 32, 1<<32 + 1},
		risingSnaps(19, 0, 1), risingSnaps(20, 0, 1), risingSnaps(20, 7, 60), risingSnaps(20, impl.MaxSeq-19, 1), risingSnaps(20, 0, impl.MaxSeq/19),
	}
}

func wrongSnaps() [][]int64 {
	list := [][]int64{
		{-1}, {math.MinInt64}, {impl.MaxSeq + 1}, {math.MaxInt64}, {-1, 0}, {-1, 5}, {0, impl.MaxSeq + 1}, {5, impl.MaxSeq, impl.MaxSeq + 1}, {5, math.MaxInt64},
		{0, 0}, {5, 5}, {impl.MaxSeq, impl.MaxSeq}, {1, 0}, {6, 5}, {impl.MaxSeq, 0}, {3, 5, 5, 8}, {3, 8, 5, 9}, {3, 5, 8, 8}, {3, 5, 9, 8}, {3, 3, 5, 8}, {5, 3, 8, 9},
		{0, -1}, {5, math.MinInt64}, {5, 1<<32 + 5, 6},
		risingSnaps(21, 0, 1), risingSnaps(22, 0, 1), risingSnaps(1000, 0, 1), risingSnaps(21, 7, 60), risingSnaps(20, -1, 1), risingSnaps(20, impl.MaxSeq-18, 1),
		make([]int64, 20), make([]int64, 21), risingSnaps(20, 19, -1),
	}
	for place := range 19 {
		alike, falling := risingSnaps(20, 10, 2), risingSnaps(20, 10, 2)
		alike[place+1] = alike[place]
		falling[place+1] = falling[place] - 1
		list = append(list, alike, falling)
	}
	return list
}

func TestP14Snaps(t *testing.T) {
	for _, snaps := range rightSnaps() {
		if !impl.SnapsOk(snaps) {
			t.Error(snaps, "are right")
		}
	}
	for _, snaps := range wrongSnaps() {
		if impl.SnapsOk(snaps) {
			t.Error(snaps, "are not right")
		}
	}
}

// lookedAtByHand is the place of what is looked at of user as of seq, -1 where nothing is.
func lookedAtByHand(row []impl.Entry, user string, seq int64) int {
	return slices.IndexFunc(row, func(e impl.Entry) bool { return e.Key.User == user && e.Key.Seq <= seq })
}

func neededByHand(row []impl.Entry, snaps []int64) []int64 {
	var places []int64
	for place, e := range row {
		for _, seq := range append(slices.Clone(snaps), impl.MaxSeq) {
			if lookedAtByHand(row, e.Key.User, seq) == place {
				places = append(places, int64(place))
				break
			}
		}
	}
	return places
}

// bottomByHand takes one KdDelete after the other, until each that is left hides something.
func bottomByHand(row []impl.Entry) []impl.Entry {
	left := slices.Clone(row)
	for {
		idle := slices.IndexFunc(left, func(e impl.Entry) bool {
			return e.Key.Kind == impl.KdDelete && !slices.ContainsFunc(left, func(o impl.Entry) bool { return o.Key.User == e.Key.User && o.Key.Seq < e.Key.Seq })
		})
		if idle < 0 {
			return left
		}
		left = slices.Delete(left, idle, idle+1)
	}
}

func compactedByHand(row []impl.Entry, snaps []int64, bottom bool) []impl.Entry {
	var left []impl.Entry
	for _, place := range neededByHand(row, snaps) {
		left = append(left, row[place])
	}
	if bottom {
		return bottomByHand(left)
	}
	return left
}

func holdCompacted(t *testing.T, row []impl.Entry, snaps []int64, bottom bool) []impl.Entry {
	t.Helper()
	if got, want := impl.Needed(row, snaps), neededByHand(row, snaps); !slices.Equal(got, want) {
		t.Fatalf("%.500v by %v needs %v, not %v", row, snaps, got, want)
	}
	got := impl.Compacted(row, snaps, bottom)
	if want := compactedByHand(row, snaps, bottom); !slices.Equal(got, want) {
		t.Fatalf("%.500v by %v, %v: %.500v, not %.500v", row, snaps, bottom, got, want)
	}
	if !impl.EntriesOk(got) {
		t.Fatalf("%.500v is no right row", got)
	}
	if again := impl.Compacted(got, snaps, bottom); !slices.Equal(again, got) {
		t.Fatalf("%.500v by %v, %v, compacted again: %.500v", got, snaps, bottom, again)
	}
	return got
}

// holdReads asks both rows for all that was to be seen as of now and of each snapshot.
func holdReads(t *testing.T, row []impl.Entry, now []impl.Entry, snaps []int64, bottom bool) {
	t.Helper()
	users := impl.MemUsers(row)
	for _, seq := range append(slices.Clone(snaps), impl.MaxSeq) {
		if had, has := impl.Visible(row, seq), impl.Visible(now, seq); !slices.Equal(had, has) {
			t.Fatalf("%.500v by %v, %v, as of %d: %.500v, not %.500v", row, snaps, bottom, seq, has, had)
		}
		for _, user := range users {
			wantCode, wantValue := gotByHand(row, user, seq)
			code, value := gotByHand(now, user, seq)
			// At the bottom what was deleted may be as if it had never been there.
			if bottom && wantCode == impl.GtGone && code == impl.GtNone {
				wantCode = impl.GtNone
			}
			if code != wantCode || value != wantValue {
				t.Fatalf("%.500v by %v, %v: %q as of %d is %d, %q, not %d, %q", row, snaps, bottom, user, seq, code, value, wantCode, wantValue)
			}
		}
	}
}

// holdLost wants of each entry that is gone that nobody asks for it.
func holdLost(t *testing.T, row []impl.Entry, now []impl.Entry, snaps []int64, bottom bool) {
	t.Helper()
	for place, e := range row {
		if slices.Contains(now, e) {
			continue
		}
		asked := slices.Contains(impl.Needed(row, snaps), int64(place))
		older := slices.ContainsFunc(now, func(o impl.Entry) bool { return o.Key.User == e.Key.User && o.Key.Seq < e.Key.Seq })
		if asked && (!bottom || e.Key.Kind == impl.KdPut || older) {
			t.Fatalf("%.500v by %v, %v has lost %v", row, snaps, bottom, e)
		}
	}
	for _, e := range now {
		if !slices.Contains(row, e) {
			t.Fatalf("%.500v by %v, %v has won %v", row, snaps, bottom, e)
		}
	}
}

func holdAllOfCompaction(t *testing.T, row []impl.Entry, snaps []int64) {
	t.Helper()
	for _, bottom := range []bool{false, true} {
		now := holdCompacted(t, row, snaps, bottom)
		holdReads(t, row, now, snaps, bottom)
		holdLost(t, row, now, snaps, bottom)
	}
}

func TestP14AnswersOfOneRow(t *testing.T) {
	row := []impl.Entry{
		{Key: put("a", 9), Value: "nine"}, {Key: gone("a", 7)}, {Key: put("a", 4), Value: "four"}, {Key: gone("a", 4)}, {Key: put("a", 2), Value: "two"},
		{Key: gone("b", 8)}, {Key: put("b", 3), Value: "three"},
		{Key: gone("c", 6)}, {Key: gone("c", 5)}, {Key: gone("c", 1)},
		{Key: put("d", 0), Value: "d"},
	}
	for _, c := range []struct {
		snaps  []int64
		needed []int64
		bottom []int64
	}{
		{nil, []int64{0, 5, 7, 10}, []int64{0, 10}},
		{[]int64{impl.MaxSeq}, []int64{0, 5, 7, 10}, []int64{0, 10}},
		{[]int64{10}, []int64{0, 5, 7, 10}, []int64{0, 10}},
		{[]int64{9}, []int64{0, 5, 7, 10}, []int64{0, 10}},
		{[]int64{8}, []int64{0, 1, 5, 7, 10}, []int64{0, 10}},
		{[]int64{7}, []int64{0, 1, 5, 6, 7, 10}, []int64{0, 5, 6, 10}},
		{[]int64{6}, []int64{0, 2, 5, 6, 7, 10}, []int64{0, 2, 5, 6, 10}},
		{[]int64{5}, []int64{0, 2, 5, 6, 7, 8, 10}, []int64{0, 2, 5, 6, 10}},
		{[]int64{4}, []int64{0, 2, 5, 6, 7, 9, 10}, []int64{0, 2, 5, 6, 10}},
		{[]int64{3}, []int64{0, 4, 5, 6, 7, 9, 10}, []int64{0, 4, 5, 6, 10}},
		{[]int64{2}, []int64{0, 4, 5, 7, 9, 10}, []int64{0, 4, 10}},
		{[]int64{1}, []int64{0, 5, 7, 9, 10}, []int64{0, 10}},
		{[]int64{0}, []int64{0, 5, 7, 10}, []int64{0, 10}},
		{[]int64{2, 7}, []int64{0, 1, 4, 5, 6, 7, 9, 10}, []int64{0, 1, 4, 5, 6, 10}},
		{[]int64{4, 5, 6}, []int64{0, 2, 5, 6, 7, 8, 9, 10}, []int64{0, 2, 5, 6, 10}},
		{[]int64{2, 8, 100}, []int64{0, 1, 4, 5, 7, 9, 10}, []int64{0, 1, 4, 10}},
		{risingSnaps(20, 0, 1), []int64{0, 1, 2, 4, 5, 6, 7, 8, 9, 10}, []int64{0, 1, 2, 4, 5, 6, 10}},
	} {
		if got := impl.Needed(row, c.snaps); !slices.Equal(got, c.needed) {
			t.Errorf("%v: %v, not %v", c.snaps, got, c.needed)
		}
		for bottom, places := range map[bool][]int64{false: c.needed, true: c.bottom} {
			var want []impl.Entry
			for _, place := range places {
				want = append(want, row[place])
			}
			if got := impl.Compacted(row, c.snaps, bottom); !slices.Equal(got, want) {
				t.Errorf("%v, %v: %v, not %v", c.snaps, bottom, got, want)
			}
		}
		holdAllOfCompaction(t, row, c.snaps)
	}
}

func TestP14DeletionsAtTheBottom(t *testing.T) {
	for _, c := range []struct {
		word   string
		row    []impl.Entry
		snaps  []int64
		above  []int
		bottom []int
	}{
		{"nothing older", rowOf(gone("b", 5)), nil, []int{0}, nil},
		{"nothing older, a snapshot needs it", rowOf(gone("b", 5)), []int64{5}, []int{0}, nil},
		{"nothing older, of its user alone", rowOf(put("a", 1), gone("b", 5), put("c", 1)), nil, []int{0, 1, 2}, []int{0, 2}},
		{"an older put that a snapshot needs", rowOf(gone("b", 5), put("b", 3)), []int64{3}, []int{0, 1}, []int{0, 1}},
		{"an older put that a snapshot between needs", rowOf(gone("b", 5), put("b", 3)), []int64{4}, []int{0, 1}, []int{0, 1}},
		{"an older put, the snapshot just at the deletion", rowOf(gone("b", 5), put("b", 3)), []int64{5}, []int{0}, nil},
		{"an older put, the snapshot one below it", rowOf(gone("b", 5), put("b", 3)), []int64{2}, []int{0}, nil},
		{"an older put that nobody needs", rowOf(gone("b", 5), put("b", 3)), nil, []int{0}, nil},
		{"an older deletion that nobody needs", rowOf(gone("b", 5), gone("b", 3)), nil, []int{0}, nil},
		{"an older deletion that a snapshot needs", rowOf(gone("b", 5), gone("b", 3)), []int64{4}, []int{0, 1}, nil},
		{"older deletions, and a put that is needed below them", rowOf(gone("b", 5), gone("b", 4), put("b", 3)), []int64{3, 4}, []int{0, 1, 2}, []int{0, 1, 2}},
		{"older deletions, and a put that nobody needs below them", rowOf(gone("b", 5), gone("b", 4), put("b", 3)), []int64{4}, []int{0, 1}, nil},
		{"a put above, a deletion that a snapshot needs", rowOf(put("b", 5), gone("b", 3)), []int64{3}, []int{0, 1}, []int{0}},
		{"a put between two deletions", rowOf(gone("b", 7), put("b", 5), gone("b", 3)), []int64{3, 6}, []int{0, 1, 2}, []int{0, 1}},
		{"a put between two deletions, the upper one needed by a snapshot", rowOf(gone("b", 7), put("b", 5), gone("b", 3)), []int64{4, 8}, []int{0, 2}, nil},
		{"a put and a deletion of one Seq", rowOf(put("b", 5), gone("b", 5)), []int64{5}, []int{0}, []int{0}},
		{"a put and a deletion of one Seq below a deletion", rowOf(gone("b", 6), put("b", 5), gone("b", 5)), []int64{5}, []int{0, 1}, []int{0, 1}},
		{"the user ahead has a put, the one behind too", rowOf(put("a", 9), put("a", 3), gone("b", 8), put("c", 7), put("c", 2)), []int64{3}, []int{0, 1, 2, 3, 4}, []int{0, 1, 3, 4}},
	} {
		for bottom, places := range map[bool][]int{false: c.above, true: c.bottom} {
			var want []impl.Entry
			for _, place := range places {
				want = append(want, c.row[place])
			}
			if got := impl.Compacted(c.row, c.snaps, bottom); !slices.Equal(got, want) {
				t.Errorf("%s, %v: %v, not %v", c.word, bottom, got, want)
			}
		}
		holdAllOfCompaction(t, c.row, c.snaps)
	}
}

func TestP14EachShortRow(t *testing.T) {
	keys := append(keysOf(3, "a"), keysOf(2, "b")...)
	for word := range 1 << len(keys) {
		row := valued("x", chosen(keys, word)...)
		for some := range 1 << 4 {
			var snaps []int64
			for seq := range int64(4) {
				if some>>seq%2 == 1 {
					snaps = append(snaps, seq)
				}
			}
			holdAllOfCompaction(t, row, snaps)
		}
	}
	for first := range 256 {
		user := string([]byte{byte(first)})
		holdAllOfCompaction(t, rowOf(gone(user, 5), put(user, 3)), nil)
		holdAllOfCompaction(t, rowOf(gone(user, 5), put(user, 3)), []int64{4})
	}
}

// snapsFor are right snapshots, most of them where what is looked at of row changes.
func snapsFor(r *rand.Rand, row []impl.Entry) []int64 {
	var snaps []int64
	for range r.Intn(21) {
		seq := int64(r.Intn(1300))
		if len(row) > 0 && r.Intn(4) > 0 {
			seq = row[r.Intn(len(row))].Key.Seq + int64(r.Intn(3)) - 1
		}
		snaps = append(snaps, min(max(seq, 0), impl.MaxSeq))
	}
	slices.Sort(snaps)
	return slices.Compact(snaps)
}

func TestP14RowsOfAllKinds(t *testing.T) {
	r := rand.New(rand.NewSource(51))
	rows := append(manyRows(), nil, []impl.Entry{})
	for range 100 {
		rows = append(rows, mixedRow(r, 1+r.Intn(60)))
	}
	for _, row := range rows {
		holdCompacted(t, row, nil, false)
		holdAllOfCompaction(t, row, snapsFor(r, row))
	}
	for _, row := range rows[:30] {
		for _, snaps := range rightSnaps() {
			holdCompacted(t, row, snaps, false)
			holdCompacted(t, row, snaps, true)
		}
	}
	long := longRow(400)
	if got := impl.Needed(long, nil); len(got) != 400 || got[0] != 0 || got[399] != 399 {
		t.Error(got)
	}
	var one []impl.Entry
	for i := range int64(400) {
		one = append(one, impl.Entry{Key: put("a", 400-i)})
	}
	if got := impl.Needed(one, risingSnaps(20, 20, 20)); len(got) != 20 || got[0] != 0 || got[19] != 380 {
		t.Error(got)
	}
}

func TestP14NothingIsLeftOfWrongArguments(t *testing.T) {
	none := func(word string, row []impl.Entry, snaps []int64) {
		t.Helper()
		if got := impl.Needed(row, snaps); len(got) != 0 {
			t.Errorf("%s, %v: %v are needed", word, snaps, got)
		}
		for _, bottom := range []bool{false, true} {
			if got := impl.Compacted(row, snaps, bottom); len(got) != 0 {
				t.Errorf("%s, %v, %v: %.300v", word, snaps, bottom, got)
			}
		}
	}
	for i, row := range oddRows() {
		word := fmt.Sprint("odd row ", i)
		for _, snaps := range rightSnaps() {
			none(word, row, snaps)
		}
		none(word, row, []int64{5, 5})
		for _, most := range []int64{math.MinInt64, -1, 0, 1, 2, 400, 401, math.MaxInt64} {
			if got := impl.SplitRun(row, most); len(got) != 0 {
				t.Errorf("%s in pieces of %d: %d", word, most, len(got))
			}
		}
	}
	for _, snaps := range wrongSnaps() {
		for _, row := range [][]impl.Entry{nil, {}, rowOf(put("a", 5)), rowOf(gone("a", 5), put("a", 3), put("b", 1)), longRow(400)} {
			none("right row", row, snaps)
		}
	}
}

// piecesByHand puts all of one user behind the other, as long as a piece has too few.
func piecesByHand(row []impl.Entry, most int64) []impl.Run {
	var runs []impl.Run
	for begin := 0; begin < len(row); {
		end := begin
		for end < len(row) && int64(end-begin) < most {
			user := row[end].Key.User
			for end < len(row) && row[end].Key.User == user {
				end++
			}
		}
		runs = append(runs, impl.Run{Entries: row[begin:end]})
		begin = end
	}
	return runs
}

func holdPieces(t *testing.T, row []impl.Entry, most int64) []impl.Run {
	t.Helper()
	got := impl.SplitRun(row, most)
	if want := piecesByHand(row, most); !slices.EqualFunc(got, want, func(a, b impl.Run) bool { return slices.Equal(a.Entries, b.Entries) }) {
		t.Fatalf("%.500v in pieces of %d: %.500v, not %.500v", row, most, got, want)
	}
	var whole []impl.Entry
	pieces := map[string]int{}
	for i, run := range got {
		if len(run.Entries) == 0 || i+1 < len(got) && int64(len(run.Entries)) < most {
			t.Fatalf("%.500v in pieces of %d: piece %d has %d", row, most, i, len(run.Entries))
		}
		whole = append(whole, run.Entries...)
		for _, user := range impl.MemUsers(run.Entries) {
			pieces[user]++
		}
	}
	if !slices.Equal(whole, row) {
		t.Fatalf("%.500v in pieces of %d: %.500v together", row, most, whole)
	}
	for user, many := range pieces {
		if many > 1 {
			t.Fatalf("%.500v in pieces of %d: %q is in %d", row, most, user, many)
		}
	}
	return got
}

func TestP14PiecesAreTheRow(t *testing.T) {
	r := rand.New(rand.NewSource(52))
	for _, row := range append(manyRows(), nil, []impl.Entry{}) {
		size := int64(len(row))
		mosts := []int64{1, 2, 3, 4, 5, 7, 16, 100, 399, 400, 401, 1 << 32, math.MaxInt64, size - 1, size, size + 1, 1 + r.Int63n(size+1)}
		for _, most := range mosts {
			if most < 1 {
				continue
			}
			if pieces := holdPieces(t, row, most); most >= size && size > 0 && len(pieces) != 1 {
				t.Errorf("%d entries in pieces of %d: %d", size, most, len(pieces))
			}
		}
		for _, most := range []int64{math.MinInt64, -400, -1, 0} {
			if got := impl.SplitRun(row, most); len(got) != 0 {
				t.Errorf("%d entries in pieces of %d: %d", size, most, len(got))
			}
		}
	}
	keys := append(keysOf(2, "a", "b"), keysOf(1, "c")...)
	for word := range 1 << len(keys) {
		row := rowOf(chosen(keys, word)...)
		sortByHand(row)
		for most := int64(1); most <= int64(len(row))+1; most++ {
			holdPieces(t, row, most)
		}
	}
}

func TestP14PiecesOfOneRow(t *testing.T) {
	row := rowOf(put("a", 9), put("a", 7), put("a", 5), put("b", 8), gone("c", 4), put("c", 4), put("c", 3), put("d", 1))
	sortByHand(row)
	for most, want := range map[int64][]int{
		1: {3, 1, 3, 1}, 2: {3, 4, 1}, 3: {3, 4, 1}, 4: {4, 4}, 5: {7, 1}, 6: {7, 1}, 7: {7, 1}, 8: {8}, 9: {8}, math.MaxInt64: {8},
		0: nil, -1: nil, math.MinInt64: nil,
	} {
		var sizes []int
		for _, run := range impl.SplitRun(row, most) {
			sizes = append(sizes, len(run.Entries))
		}
		if !slices.Equal(sizes, want) {
			t.Errorf("pieces of %d: %v, not %v", most, sizes, want)
		}
	}
	for _, row := range [][]impl.Entry{rowOf(put("a", 1)), rowOf(put("a", 9), put("a", 7), put("a", 5)), longRow(1)} {
		for most := int64(1); most < 5; most++ {
			if got := holdPieces(t, row, most); len(got) != 1 {
				t.Error(most, got)
			}
		}
	}
	if got := holdPieces(t, longRow(400), 1); len(got) != 400 {
		t.Error(len(got))
	}
}

func TestP14MergedPiecesAreTheRow(t *testing.T) {
	r := rand.New(rand.NewSource(53))
	for range 100 {
		row := mixedRow(r, 1+r.Intn(100))
		snaps := snapsFor(r, row)
		pieces := impl.SplitRun(row, int64(len(row)/20+1))
		if len(pieces) <= 20 {
			if got := holdMerged(t, "pieces", pieces); !slices.Equal(got, row) {
				t.Fatalf("%v, not %v", got, row)
			}
		}
		// As no user is in two pieces, each can be compacted on its own.
		for _, bottom := range []bool{false, true} {
			var parts []impl.Entry
			for _, run := range pieces {
				parts = append(parts, impl.Compacted(run.Entries, snaps, bottom)...)
			}
			if whole := impl.Compacted(row, snaps, bottom); !slices.Equal(parts, whole) {
				t.Fatalf("%v by %v, %v: %v, not %v", row, snaps, bottom, parts, whole)
			}
		}
	}
}

func TestP14RowsAndSnapsStayAsTheyAre(t *testing.T) {
	room := append(rowOf(gone("a", 5), put("a", 4), put("b", 3), put("b", 2), gone("c", 1)), rowOf(put("m", 9), gone("n", 1))...)
	snapRoom := []int64{2, 4, 77, 78}
	row, snaps := room[:5], snapRoom[:2]
	before, snapsBefore := slices.Clone(room), slices.Clone(snapRoom)
	asBefore := func() bool { return slices.Equal(room, before) && slices.Equal(snapRoom, snapsBefore) }
	for _, bottom := range []bool{false, true} {
		first, second := impl.Compacted(row, snaps, bottom), impl.Compacted(row, snaps, bottom)
		for i := range first[:cap(first)] {
			first[:cap(first)][i] = impl.Entry{Value: "spoilt"}
		}
		if !asBefore() || !slices.Equal(second, compactedByHand(row, snaps, bottom)) || !slices.Equal(second, impl.Compacted(row, snaps, bottom)) {
			t.Error(room, second)
		}
	}
	first, second := impl.Needed(row, snaps), impl.Needed(row, snaps)
	for i := range first[:cap(first)] {
		first[:cap(first)][i] = 77
	}
	if !asBefore() || !slices.Equal(second, []int64{0, 1, 2, 3, 4}) || !slices.Equal(second, impl.Needed(row, snaps)) {
		t.Error(room, second)
	}
	for most := int64(1); most < 7; most++ {
		want := piecesByHand(slices.Clone(row), most)
		for place := range want {
			pieces, again := impl.SplitRun(row, most), impl.SplitRun(row, most)
			entries := pieces[place].Entries
			for i := range entries[:cap(entries)] {
				entries[:cap(entries)][i] = impl.Entry{Value: "spoilt"}
			}
			// What is written into one piece, or behind it, is in no other one.
			for other := range want {
				if other != place && !slices.Equal(pieces[other].Entries, want[other].Entries) || !slices.Equal(again[other].Entries, want[other].Entries) {
					t.Errorf("pieces of %d: %d in %d", most, place, other)
				}
			}
			for i := range pieces[:cap(pieces)] {
				pieces[:cap(pieces)][i] = impl.Run{}
			}
			if !asBefore() {
				t.Fatal("an argument was written into", room)
			}
			holdPieces(t, row, most)
		}
	}
}

func TestP14AnswersHangOnNoOtherCall(t *testing.T) {
	r := rand.New(rand.NewSource(54))
	row := mixedRow(r, 300)
	snaps := snapsFor(r, row)
	needed, compacted, pieces := neededByHand(row, snaps), compactedByHand(row, snaps, true), piecesByHand(row, 9)
	var group sync.WaitGroup
	same := make([]bool, 16)
	for i := range same {
		group.Go(func() {
			same[i] = true
			for range 30 {
				same[i] = same[i] && slices.Equal(impl.Needed(row, snaps), needed) && slices.Equal(impl.Compacted(row, snaps, true), compacted)
				same[i] = same[i] && len(impl.SplitRun(row, 9)) == len(pieces) && len(impl.Needed(row[1:], []int64{-1})) == 0
			}
		})
	}
	group.Wait()
	if slices.Contains(same, false) {
		t.Error(same)
	}
}
