package tests

import (
	"fmt"
	"math"
	"math/rand"
	"slices"
	"strings"
	"sync"
	"testing"

	"loop.example/g00214/impl"
)

func TestP8Limits(t *testing.T) {
	if impl.GtNone != 0 || impl.GtFound != 1 || impl.GtGone != 2 {
		t.Error(impl.GtNone, impl.GtFound, impl.GtGone)
	}
}

// mixedRow is a right row of so many entries: users with many numbers, gaps
// between them, deletes, and both kinds with one number.
func mixedRow(r *rand.Rand, size int) []impl.Entry {
	var row []impl.Entry
	for len(row) < size {
		k := put(fmt.Sprintf("u%d", r.Intn(1+size/4)), int64(r.Intn(3*size)))
		if r.Intn(3) == 0 {
			k.Kind = impl.KdDelete
		}
		if slices.ContainsFunc(row, func(e impl.Entry) bool { return e.Key == k }) {
			continue
		}
		e := impl.Entry{Key: k}
		if k.Kind == impl.KdPut {
			e.Value = fmt.Sprintf("%s at %d", k.User, k.Seq)
		}
		row = append(row, e)
	}
	sortByHand(row)
	return row
}

func sortByHand(row []impl.Entry) {
	slices.SortFunc(row, func(a, b impl.Entry) int { return int(impl.KeyCmp(a.Key, b.Key)) })
}

func holdPut(t *testing.T, row []impl.Entry, e impl.Entry) []impl.Entry {
	t.Helper()
	want := append(slices.Clone(row), e)
	sortByHand(want)
	got, ok := impl.MemPut(row, e)
	if !ok || !slices.Equal(got, want) {
		t.Fatalf("%v put into %d entries: %v, %d entries: %v", e, len(row), ok, len(got), got)
	}
	return got
}

func notPut(t *testing.T, row []impl.Entry, e impl.Entry) {
	t.Helper()
	if got, ok := impl.MemPut(row, e); ok || len(got) != 0 {
		t.Fatalf("%v put into %d entries: %v, %d entries", e, len(row), ok, len(got))
	}
}

func TestP8WhatIsPutIsThereAndAllElse(t *testing.T) {
	r := rand.New(rand.NewSource(10))
	for _, size := range []int{1, 2, 3, 4, 5, 8, 9, 16, 17, 33, 100, 255, 256, 257, 399, 400} {
		all := mixedRow(r, size)
		for range 3 {
			var row []impl.Entry
			for _, place := range r.Perm(size) {
				row = holdPut(t, row, all[place])
			}
			if !slices.Equal(row, all) || !impl.EntriesOk(row) {
				t.Fatalf("%d entries in any order: %v", size, row)
			}
		}
		for place, e := range all {
			without := slices.Delete(slices.Clone(all), place, place+1)
			if got := holdPut(t, without, e); !slices.Equal(got, all) {
				t.Fatalf("%v: %v", e, got)
			}
			notPut(t, all, e)
		}
	}
	all := rowOf(orderedKeys()...)
	for place, e := range all {
		holdPut(t, slices.Delete(slices.Clone(all), place, place+1), e)
	}
}

func TestP8ARowHas400Entries(t *testing.T) {
	e := impl.Entry{Key: put("user0100x", 7), Value: "x"}
	for _, size := range []int{0, 1, 398, 399} {
		for _, at := range []impl.Entry{e, {Key: put("a", 7)}, {Key: gone("z", 7)}} {
			holdPut(t, longRow(size), at)
		}
	}
	full := holdPut(t, longRow(399), e)
	if len(full) != 400 {
		t.Error(len(full))
	}
	notPut(t, full, e)
	for _, row := range [][]impl.Entry{full, longRow(400), longRow(401), longRow(500)} {
		notPut(t, row, impl.Entry{Key: put("a", 7)})
		notPut(t, row, impl.Entry{Key: put("user0200x", 7)})
		notPut(t, row, impl.Entry{Key: gone("z", 7)})
		notPut(t, row, row[200])
	}
}

func TestP8AKeyIsThereOnce(t *testing.T) {
	row := rowOf(put("a", 5), put("a", 3), gone("a", 3), gone("b", 1))
	for _, e := range row {
		notPut(t, row, e)
	}
	// Another Value doesn't part them, another field of the Key does.
	notPut(t, row, impl.Entry{Key: put("a", 5), Value: "another"})
	notPut(t, row, impl.Entry{Key: put("a", 3)})
	for _, k := range []impl.Key{gone("a", 5), put("a", 4), gone("a", 4), put("b", 1), put("b", 0), gone("b", 2), put("aa", 5), put("A", 5)} {
		holdPut(t, row, impl.Entry{Key: k})
	}
}

// oddRows are rows that are not right.
func oddRows() [][]impl.Entry {
	rows := [][]impl.Entry{
		longRow(401),
		longRow(1000),
		rowOf(put("a", 1), put("a", 1)),
		rowOf(put("a", 1), put("a", 2)),
		rowOf(gone("a", 1), put("a", 1)),
		rowOf(put("b", 1), put("a", 1)),
		rowOf(put("a", 5), put("b", 5), put("a", 3)),
		{{Key: put("a", 5), Value: strings.Repeat("v", 201)}},
		{{Key: gone("a", 5), Value: "x"}},
		{{Key: put("a", 5)}, {Key: put("b", 5)}, {Key: gone("c", 5), Value: "x"}},
	}
	for _, k := range wrongKeys() {
		rows = append(rows, []impl.Entry{{Key: k}}, []impl.Entry{{Key: put("\x00", 1)}, {Key: k}})
	}
	return rows
}

func TestP8RowsThatAreNotRight(t *testing.T) {
	for i, row := range oddRows() {
		notPut(t, row, impl.Entry{Key: put("c", 9)})
		notPut(t, row, impl.Entry{Key: put("", 9)})
		for _, e := range append(row[:1:1], impl.Entry{Key: put("a", 5)}) {
			for _, seq := range []int64{-1, 0, e.Key.Seq, impl.MaxSeq, math.MaxInt64} {
				if code, value := impl.MemGet(row, e.Key.User, seq); code != impl.GtNone || value != "" {
					t.Errorf("row %d: %q as of %d is %d, %q", i, e.Key.User, seq, code, value)
				}
			}
		}
		if got := impl.MemBytes(row); got != -1 {
			t.Errorf("row %d has %d bytes", i, got)
		}
		if got := impl.MemUsers(row); len(got) != 0 {
			t.Errorf("row %d has users %q", i, got)
		}
	}
}

func TestP8EntriesThatAreNotRight(t *testing.T) {
	wrong := []impl.Entry{
		{},
		{Key: put("c", 9), Value: strings.Repeat("v", 201)},
		{Key: gone("c", 9), Value: "x"},
	}
	for _, k := range wrongKeys() {
		wrong = append(wrong, impl.Entry{Key: k}, impl.Entry{Key: k, Value: "x"})
	}
	for _, e := range wrong {
		for _, row := range [][]impl.Entry{nil, {}, rowOf(put("a", 5), put("a", 3)), longRow(399), longRow(400)} {
			notPut(t, row, e)
		}
	}
	for _, row := range [][]impl.Entry{nil, {}} {
		holdPut(t, row, impl.Entry{Key: put("c", 9), Value: strings.Repeat("v", 200)})
		holdPut(t, row, impl.Entry{Key: gone(strings.Repeat("c", 40), impl.MaxSeq)})
		holdPut(t, row, impl.Entry{Key: put("c", 0)})
	}
}

// gotByHand goes through a row from its first entry on.
func gotByHand(row []impl.Entry, user string, seq int64) (int64, string) {
	for _, e := range row {
		if e.Key.User == user && e.Key.Seq <= seq {
			if e.Key.Kind == impl.KdDelete {
				return 2, ""
			}
			return 1, e.Value
		}
	}
	return 0, ""
}

func holdGet(t *testing.T, row []impl.Entry, user string, seq int64) {
	t.Helper()
	code, value := impl.MemGet(row, user, seq)
	if wantCode, wantValue := gotByHand(row, user, seq); code != wantCode || value != wantValue {
		t.Fatalf("%q as of %d, of %d entries: %d, %q, not %d, %q", user, seq, len(row), code, value, wantCode, wantValue)
	}
}

func TestP8WhatIsGotIsTheNewestNotAboveTheNumber(t *testing.T) {
	r := rand.New(rand.NewSource(11))
	rows := [][]impl.Entry{nil, {}, rowOf(orderedKeys()...), longRow(400), longRow(1)}
	for _, size := range []int{1, 2, 3, 7, 40, 255, 256, 257, 399, 400} {
		rows = append(rows, mixedRow(r, size))
	}
	for _, row := range rows {
		for _, user := range []string{"", "u", "u0", "u1", "a", "zz", "\x00", "\xff", strings.Repeat("\xff", 40), strings.Repeat("\xff", 41), strings.Repeat("u", 1000)} {
			for _, seq := range []int64{math.MinInt64, -1, 0, 1, 100, impl.MaxSeq - 1, impl.MaxSeq, impl.MaxSeq + 1, math.MaxInt64} {
				holdGet(t, row, user, seq)
			}
		}
		for _, e := range row {
			for _, seq := range []int64{e.Key.Seq - 1, e.Key.Seq, e.Key.Seq + 1, 0, impl.MaxSeq} {
				holdGet(t, row, e.Key.User, seq)
				holdGet(t, row, e.Key.User+"\x00", seq)
				holdGet(t, row, e.Key.User[1:], seq)
			}
		}
	}
}

func TestP8AnswersOfOneRow(t *testing.T) {
	row := []impl.Entry{
		{Key: gone("a", 9)}, {Key: put("a", 7), Value: "seven"}, {Key: put("a", 4), Value: "four"}, {Key: gone("a", 4)}, {Key: gone("a", 2)},
		{Key: put("b", 0), Value: ""},
	}
	for _, c := range []struct {
		user  string
		seq   int64
		code  int64
		value string
	}{
		{"a", 10, 2, ""}, {"a", 9, 2, ""}, {"a", 8, 1, "seven"}, {"a", 7, 1, "seven"}, {"a", 6, 1, "four"}, {"a", 4, 1, "four"},
		{"a", 3, 2, ""}, {"a", 2, 2, ""}, {"a", 1, 0, ""}, {"a", 0, 0, ""}, {"a", -1, 0, ""}, {"a", math.MinInt64, 0, ""}, {"a", math.MaxInt64, 2, ""},
		{"b", 0, 1, ""}, {"b", -1, 0, ""}, {"b", 9, 1, ""},
		{"", 9, 0, ""}, {"A", 9, 0, ""}, {"aa", 9, 0, ""}, {"c", 9, 0, ""},
	} {
		if code, value := impl.MemGet(row, c.user, c.seq); code != c.code || value != c.value {
			t.Errorf("%q as of %d: %d, %q", c.user, c.seq, code, value)
		}
	}
}

func TestP8WhatWasPutIsGot(t *testing.T) {
	r := rand.New(rand.NewSource(12))
	for range 20 {
		row := mixedRow(r, 1+r.Intn(300))
		e := impl.Entry{Key: put(fmt.Sprintf("u%d", r.Intn(90)), int64(1000+r.Intn(9))), Value: "new"}
		if r.Intn(2) == 0 {
			e = impl.Entry{Key: gone(e.Key.User, e.Key.Seq)}
		}
		now := holdPut(t, row, e)
		for _, other := range append(slices.Clone(row), e) {
			for _, seq := range []int64{other.Key.Seq, e.Key.Seq - 1, e.Key.Seq, e.Key.Seq + 1} {
				holdGet(t, now, other.Key.User, seq)
				code, value := impl.MemGet(now, other.Key.User, seq)
				wantCode, wantValue := impl.MemGet(row, other.Key.User, seq)
				if other.Key.User == e.Key.User && seq >= e.Key.Seq {
					wantCode, wantValue = 2-e.Key.Kind, e.Value
				}
				if code != wantCode || value != wantValue {
					t.Fatalf("%v, then %q as of %d: %d, %q", e, other.Key.User, seq, code, value)
				}
			}
		}
	}
}

func TestP8BytesAndUsers(t *testing.T) {
	value := strings.Repeat("v", 200)
	user := strings.Repeat("u", 40)
	for _, c := range []struct {
		row   []impl.Entry
		bytes int64
		users []string
	}{
		{nil, 0, nil},
		{[]impl.Entry{}, 0, nil},
		{[]impl.Entry{{Key: put("a", 1)}}, 25, []string{"a"}},
		{[]impl.Entry{{Key: gone("a", 1)}}, 25, []string{"a"}},
		{[]impl.Entry{{Key: put(user, 1), Value: value}}, 264, []string{user}},
		{[]impl.Entry{{Key: put("a", 2), Value: "xy"}, {Key: put("a", 1), Value: "z"}}, 53, []string{"a"}},
		{[]impl.Entry{{Key: gone("a", 2)}, {Key: put("a", 1)}, {Key: put("ab", 1)}, {Key: gone("b", 5)}, {Key: gone("b", 4)}}, 126, []string{"a", "ab", "b"}},
		{longRow(400), 400 * (8 + 10 + 24), nil},
	} {
		if got := impl.MemBytes(c.row); got != c.bytes {
			t.Errorf("%d entries have %d bytes, not %d", len(c.row), got, c.bytes)
		}
		if got := impl.MemUsers(c.row); len(c.row) < 400 && !slices.Equal(got, c.users) {
			t.Errorf("%d entries have users %q", len(c.row), got)
		}
	}
	var most []impl.Entry
	for i := range 400 {
		most = append(most, impl.Entry{Key: put(fmt.Sprintf("%040d", i), 1), Value: value})
	}
	if got := impl.MemBytes(most); got != 400*264 {
		t.Error(got)
	}
	r := rand.New(rand.NewSource(13))
	for range 30 {
		row := mixedRow(r, 1+r.Intn(400))
		var users []string
		for _, e := range row {
			users = append(users, e.Key.User)
		}
		slices.Sort(users)
		if got := impl.MemUsers(row); !slices.Equal(got, slices.Compact(users)) {
			t.Fatalf("%q", got)
		}
	}
}

func TestP8RowsStayAsTheyAre(t *testing.T) {
	room := append(rowOf(put("a", 5), put("b", 3), gone("c", 1)), rowOf(put("m", 9), gone("n", 1))...)
	before := slices.Clone(room)
	row := room[:3]
	for _, k := range []impl.Key{put("A", 1), put("b", 2), gone("z", 1)} {
		e := impl.Entry{Key: k}
		first, _ := impl.MemPut(row, e)
		second, _ := impl.MemPut(row, e)
		spoil := first[:cap(first)]
		for i := range spoil {
			spoil[i] = impl.Entry{Value: "spoilt"}
		}
		if again := holdPut(t, row, e); !slices.Equal(again, second) {
			t.Error("an answer was kept", again)
		}
	}
	users := impl.MemUsers(row)
	users = users[:cap(users)]
	for i := range users {
		users[i] = "spoilt"
	}
	impl.MemGet(row, "b", 3)
	impl.MemBytes(row)
	if !slices.Equal(room, before) || !slices.Equal(impl.MemUsers(row), []string{"a", "b", "c"}) {
		t.Error(room)
	}
}

func TestP8AnswersHangOnNoOtherCall(t *testing.T) {
	row := mixedRow(rand.New(rand.NewSource(14)), 300)
	e := impl.Entry{Key: put("u7", 5000), Value: "x"}
	want := holdPut(t, row, e)
	var group sync.WaitGroup
	same := make([]bool, 16)
	for i := range same {
		group.Go(func() {
			same[i] = true
			for range 30 {
				got, ok := impl.MemPut(row, e)
				code, value := impl.MemGet(got, "u7", 6000)
				same[i] = same[i] && ok && slices.Equal(got, want) && code == impl.GtFound && value == "x"
			}
		})
	}
	group.Wait()
	if slices.Contains(same, false) {
		t.Error(same)
	}
}
