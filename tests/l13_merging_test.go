package tests

import (
	"fmt"
	"maps"
	"math"
	"math/rand"
	"runtime"
	"slices"
	"strings"
	"sync"
	"testing"
	"time"

	"loop.example/g00214/impl"
)

func TestP13Limits(t *testing.T) {
	if impl.MaxRuns != 20 {
		t.Error(impl.MaxRuns)
	}
}

func runsOf(rows ...[]impl.Entry) []impl.Run {
	var runs []impl.Run
	for _, row := range rows {
		runs = append(runs, impl.Run{Entries: row})
	}
	return runs
}

// valued is a row of the keys, in order; each that is put has this value.
func valued(value string, keys ...impl.Key) []impl.Entry {
	row := rowOf(keys...)
	for i := range row {
		row[i].Value = value[:len(value)*int(row[i].Key.Kind)]
	}
	sortByHand(row)
	return row
}

// mergedByHand lets the runs write over each other from the last to the first.
func mergedByHand(runs []impl.Run) []impl.Entry {
	values := map[impl.Key]string{}
	for _, run := range slices.Backward(runs) {
		for _, e := range run.Entries {
			values[e.Key] = e.Value
		}
	}
	var row []impl.Entry
	for k, value := range values {
		row = append(row, impl.Entry{Key: k, Value: value})
	}
	sortByHand(row)
	return row
}

func holdMerged(t *testing.T, word string, runs []impl.Run) []impl.Entry {
	t.Helper()
	if !impl.RunsOk(runs) {
		t.Fatalf("%s: %d runs are right", word, len(runs))
	}
	got, ok := impl.MergeRuns(runs)
	if want := mergedByHand(runs); !ok || !slices.Equal(got, want) {
		t.Fatalf("%s: %d runs are %v, %.500v, not %.500v", word, len(runs), ok, got, want)
	}
	if !impl.EntriesOk(got) {
		t.Fatalf("%s: %.500v is no right row", word, got)
	}
	return got
}

func notMerged(t *testing.T, word string, runs []impl.Run) {
	t.Helper()
	if impl.RunsOk(runs) {
		t.Errorf("%s: %d runs are not right", word, len(runs))
	}
	if got, ok := impl.MergeRuns(runs); ok || len(got) != 0 {
		t.Errorf("%s: %d runs are %v, %.300v", word, len(runs), ok, got)
	}
}

func TestP13HowManyRuns(t *testing.T) {
	for _, many := range []int{0, 1, 2, 3, 7, 8, 19, 20, 21, 22, 40, 1000} {
		empty := make([]impl.Run, many)
		hold := holdMerged
		if many > 20 {
			hold = func(t *testing.T, word string, runs []impl.Run) []impl.Entry {
				notMerged(t, word, runs)
				return nil
			}
		}
		hold(t, "all empty", empty)
		turns := make([]impl.Run, many)
		for i := range min(400, 5*many) {
			turns[i%many].Entries = append(turns[i%many].Entries, longRow(i + 1)[i])
		}
		hold(t, "in turns", turns)
		for place := range min(many, 25) {
			one := slices.Clone(empty)
			one[place] = impl.Run{Entries: rowOf(put("a", 5), gone("a", 5), put("b", 0))}
			hold(t, "one among empty ones", one)
			one = slices.Clone(turns)
			one[place] = impl.Run{Entries: []impl.Entry{}}
			hold(t, "an empty one among others", one)
		}
	}
	for _, runs := range [][]impl.Run{nil, {}, {{}}, {{Entries: []impl.Entry{}}}, make([]impl.Run, 20)} {
		if got, ok := impl.MergeRuns(runs); !ok || len(got) != 0 || !impl.RunsOk(runs) {
			t.Error(runs, got, ok)
		}
	}
}

// dealt deals a row out to many runs, as deal says for each place.
func dealt(row []impl.Entry, many int, deal func(int) int) []impl.Run {
	runs := make([]impl.Run, many)
	for place, e := range row {
		to := deal(place)
		runs[to].Entries = append(runs[to].Entries, e)
	}
	return runs
}

func TestP13HowManyEntries(t *testing.T) {
	for _, size := range []int{0, 1, 2, 399, 400, 401, 402, 800} {
		row := longRow(size)
		for _, many := range []int{1, 2, 3, 19, 20} {
			for word, deal := range map[string]func(int) int{
				"in turns":            func(place int) int { return place % many },
				"one behind another":  func(place int) int { return place * many / size },
				"one ahead of others": func(place int) int { return many - 1 - place*many/size },
				"nearly all in one":   func(place int) int { return min(place, many-1) },
				"all in the last one": func(place int) int { return many - 1 },
				"all in the first":    func(place int) int { return 0 },
			} {
				runs := dealt(row, many, deal)
				if size > 400 {
					notMerged(t, word, runs)
					continue
				}
				if got := holdMerged(t, word, runs); !slices.Equal(got, row) {
					t.Errorf("%d entries %s in %d runs are %.300v", size, word, many, got)
				}
			}
		}
	}
	// What counts is how many there are ahead of merging, whatever becomes one.
	holdMerged(t, "200 twice", runsOf(longRow(200), longRow(200)))
	notMerged(t, "201 and 200", runsOf(longRow(201), longRow(200)))
	notMerged(t, "200 and 201", runsOf(longRow(200), longRow(201)))
	notMerged(t, "400 and 1", runsOf(longRow(400), longRow(1)))
	notMerged(t, "400, nothing and 1", runsOf(longRow(400), nil, longRow(1)))
	all, more := make([]impl.Run, 20), make([]impl.Run, 20)
	for i := range all {
		all[i].Entries, more[i].Entries = longRow(20), longRow(20+i/19)
	}
	holdMerged(t, "20 in each of 20", all)
	notMerged(t, "20 in each of 20, 21 in the last", more)
}

func TestP13RunsThatAreNotRight(t *testing.T) {
	for i, row := range oddRows() {
		word := fmt.Sprint("odd row ", i)
		right := rowOf(put("a", 7), gone("b", 3))
		notMerged(t, word, runsOf(row))
		notMerged(t, word+" first", runsOf(row, right))
		notMerged(t, word+" last", runsOf(right, row))
		notMerged(t, word+" among others", runsOf(nil, right, row, right, nil))
		notMerged(t, word+" behind 19", append(make([]impl.Run, 19), impl.Run{Entries: row}))
		notMerged(t, word+" ahead of 19", append(runsOf(row), make([]impl.Run, 19)...))
		notMerged(t, word+" twice", runsOf(row, row))
	}
}

func TestP13OneKeyInSeveralRuns(t *testing.T) {
	keys := []impl.Key{put("a", 5), put("a", 4), gone("a", 4), gone("a", 2), put("b", 9), put("c", 0)}
	one, two, three := valued("one", keys...), valued("two", keys...), valued("three", keys...)
	for _, c := range []struct {
		runs []impl.Run
		want []impl.Entry
	}{
		{runsOf(one, two), one}, {runsOf(two, one), two}, {runsOf(nil, two, nil, one), two}, {runsOf(three, one, two), three}, {runsOf(one, one), one},
		{runsOf(one[:1], two), append(slices.Clone(one[:1]), two[1:]...)},
		{runsOf(two, one[5:]), two},
		{runsOf(one[5:], two), append(slices.Clone(two[:5]), one[5])},
		{runsOf(one[1:2], two[:2], three), append([]impl.Entry{two[0], one[1]}, three[2:]...)},
		{runsOf(one[4:], two[:5], three), append(slices.Clone(two[:4]), one[4:]...)},
	} {
		if got := holdMerged(t, "one Key", c.runs); !slices.Equal(got, c.want) {
			t.Errorf("%v: %v, not %v", c.runs, got, c.want)
		}
	}
	for first := range 20 {
		all := make([]impl.Run, 20)
		for i := range all {
			if i >= first {
				all[i].Entries = valued(fmt.Sprint("run ", i), keys...)
			}
		}
		if got := holdMerged(t, "in all", all); got[0].Value != fmt.Sprint("run ", first) || len(got) != len(keys) {
			t.Error(first, got)
		}
	}
	// What is another Key stays beside it: of another user, Seq or Kind.
	for _, k := range []impl.Key{gone("a", 5), put("a", 6), put("a", 3), put("a\x00", 5), put("A", 5), put("b", 5), gone("b", 5)} {
		for _, runs := range [][]impl.Run{runsOf(one[:1], rowOf(k)), runsOf(rowOf(k), one[:1])} {
			if got := holdMerged(t, "another Key", runs); len(got) != 2 {
				t.Error(k, got)
			}
		}
	}
}

func TestP13RunsInAnyPlaces(t *testing.T) {
	low, high := rowOf(put("a", 9), gone("a", 3), put("b", 1)), rowOf(put("b", 0), put("m", 7), gone("m", 7), put("z", 2))
	turns, others := rowOf(put("a", 1), put("c", 1), put("e", 1)), rowOf(put("b", 2), put("d", 2), put("f", 2))
	for _, runs := range [][]impl.Run{runsOf(low, high), runsOf(high, low), runsOf(turns, others), runsOf(others, turns), runsOf(high, turns, low, others), runsOf(turns, nil, high)} {
		size := 0
		for _, run := range runs {
			size += len(run.Entries)
		}
		if got := holdMerged(t, "places", runs); len(got) != size {
			t.Error(runs, got)
		}
	}
	if got := holdMerged(t, "one ahead of the other", runsOf(high, low)); !slices.Equal(got, slices.Concat(low, high)) {
		t.Error(got)
	}
	want := rowOf(put("a", 1), put("b", 2), put("c", 1), put("d", 2), put("e", 1), put("f", 2))
	if got := holdMerged(t, "in turns", runsOf(others, turns)); !slices.Equal(got, want) {
		t.Error(got)
	}
}

// chosen are the keys whose bit is 1 in word.
func chosen(keys []impl.Key, word int) []impl.Key {
	var some []impl.Key
	for place, k := range keys {
		if word>>place%2 == 1 {
			some = append(some, k)
		}
	}
	return some
}

func TestP13EachChoiceOfThreeRuns(t *testing.T) {
	keys := []impl.Key{put("a", 2), gone("a", 2), put("a", 1), put("b", 2)}
	for word := range 1 << 12 {
		holdMerged(t, "few", runsOf(valued("one", chosen(keys, word)...), valued("two", chosen(keys, word>>4)...), valued("three", chosen(keys, word>>8)...)))
	}
}

// someRuns have some of the entries of one row each, with values of their own.
func someRuns(r *rand.Rand) []impl.Run {
	runs := make([]impl.Run, r.Intn(21))
	all := mixedRow(r, 1+r.Intn(120))
	left := 400
	for i := range runs {
		share := 1 + r.Intn(12)
		for _, e := range all {
			if left == 0 || r.Intn(share) > 0 {
				continue
			}
			if e.Key.Kind == impl.KdPut {
				e.Value = fmt.Sprint("run ", i)
			}
			runs[i].Entries = append(runs[i].Entries, e)
			left--
		}
	}
	return runs
}

func TestP13MergedRunsHaveAllInOrder(t *testing.T) {
	r := rand.New(rand.NewSource(41))
	for range 1000 {
		runs := someRuns(r)
		row := holdMerged(t, "some", runs)
		values := map[impl.Key]string{}
		for _, e := range row {
			values[e.Key] = e.Value
		}
		earlier := map[impl.Key]bool{}
		for i, run := range runs {
			for _, e := range run.Entries {
				if value, there := values[e.Key]; !there || !earlier[e.Key] && value != e.Value {
					t.Fatalf("%v of run %d: %q, %v", e, i, value, there)
				}
				earlier[e.Key] = true
			}
		}
		if len(earlier) != len(row) || len(values) != len(row) {
			t.Fatal(len(earlier), len(values), len(row))
		}
		// Some of them merged first are the same runs.
		at := r.Intn(len(runs) + 1)
		parts := runsOf(holdMerged(t, "the first ones", runs[:at]), holdMerged(t, "the others", runs[at:]))
		if again := holdMerged(t, "in two parts", parts); !slices.Equal(again, row) || !slices.Equal(holdMerged(t, "again", runsOf(row)), row) {
			t.Fatalf("%v merged at %d are %v", runs, at, again)
		}
	}
	for i, row := range manyRows() {
		for many := 1; many <= 20; many++ {
			runs := dealt(row, many, func(int) int { return r.Intn(many) })
			if got := holdMerged(t, "dealt", runs); !slices.Equal(got, row) {
				t.Fatalf("row %d in %d runs: %.300v", i, many, got)
			}
		}
	}
}

func pairsIn(words ...string) []impl.Pair {
	var pairs []impl.Pair
	for i := 0; i < len(words); i += 2 {
		pairs = append(pairs, impl.Pair{User: words[i], Value: words[i+1]})
	}
	return pairs
}

// visibleByHand asks for each user of the row on its own.
func visibleByHand(row []impl.Entry, seq int64) []impl.Pair {
	users := map[string]bool{}
	for _, e := range row {
		users[e.Key.User] = true
	}
	var pairs []impl.Pair
	for _, user := range slices.Sorted(maps.Keys(users)) {
		if code, value := gotByHand(row, user, seq); code == impl.GtFound {
			pairs = append(pairs, impl.Pair{User: user, Value: value})
		}
	}
	return pairs
}

func betweenByHand(pairs []impl.Pair, from string, to string) []impl.Pair {
	var some []impl.Pair
	for _, p := range pairs {
		behind := strings.Compare(p.User, from) >= 0
		ahead := strings.Compare(p.User, to) < 0
		if behind && (ahead || len(to) == 0) {
			some = append(some, p)
		}
	}
	return some
}

func holdVisible(t *testing.T, row []impl.Entry, seq int64) []impl.Pair {
	t.Helper()
	got, want := impl.Visible(row, seq), visibleByHand(row, seq)
	if !slices.Equal(got, want) {
		t.Fatalf("%.500v as of %d: %.500v, not %.500v", row, seq, got, want)
	}
	return got
}

// holdScan wants what is visible between the bounds; visible is what is visible at all.
func holdScan(t *testing.T, row []impl.Entry, visible []impl.Pair, seq int64, from string, to string) []impl.Pair {
	t.Helper()
	want := betweenByHand(visible, from, to)
	got := impl.Scan(row, seq, from, to)
	if !slices.Equal(got, want) {
		t.Fatalf("%.500v as of %d from %q to %q: %.500v, not %.500v", row, seq, from, to, got, want)
	}
	back := impl.ScanBack(row, seq, from, to)
	slices.Reverse(want)
	if !slices.Equal(back, want) {
		t.Fatalf("%.500v as of %d from %q to %q backward: %.500v, not %.500v", row, seq, from, to, back, want)
	}
	return got
}

func spokenRow() []impl.Entry {
	return []impl.Entry{
		{Key: gone("a", 8)}, {Key: put("a", 5), Value: "five"}, {Key: put("a", 2), Value: "two"},
		{Key: put("ab", impl.MaxSeq), Value: "last"}, {Key: gone("ab", 7)}, {Key: gone("ab", 4)}, {Key: put("ab", 4), Value: ""},
		{Key: put("b", 6), Value: "six"}, {Key: gone("b", 6)}, {Key: gone("b", 1)}, {Key: put("b", 1), Value: "hidden"},
		{Key: put("c", 0), Value: "c"},
		{Key: gone("d", 0)},
	}
}

func TestP13AnswersOfOneRow(t *testing.T) {
	row := spokenRow()
	sortByHand(row)
	if row[5].Key.Kind != impl.KdPut || row[9].Key.Kind != impl.KdPut {
		t.Fatal("of one Seq KdPut stands first", row)
	}
	for seq, want := range map[int64][]impl.Pair{
		math.MinInt64: nil, -1: nil,
		0: pairsIn("c", "c"), 1: pairsIn("b", "hidden", "c", "c"), 2: pairsIn("a", "two", "b", "hidden", "c", "c"), 3: pairsIn("a", "two", "b", "hidden", "c", "c"),
		4: pairsIn("a", "two", "ab", "", "b", "hidden", "c", "c"), 5: pairsIn("a", "five", "ab", "", "b", "hidden", "c", "c"),
		6: pairsIn("a", "five", "ab", "", "b", "six", "c", "c"), 7: pairsIn("a", "five", "b", "six", "c", "c"),
		8: pairsIn("b", "six", "c", "c"), 9: pairsIn("b", "six", "c", "c"), impl.MaxSeq - 1: pairsIn("b", "six", "c", "c"),
		impl.MaxSeq: pairsIn("ab", "last", "b", "six", "c", "c"), impl.MaxSeq + 1: pairsIn("ab", "last", "b", "six", "c", "c"), math.MaxInt64: pairsIn("ab", "last", "b", "six", "c", "c"),
	} {
		if got := impl.Visible(row, seq); !slices.Equal(got, want) {
			t.Errorf("as of %d: %v, not %v", seq, got, want)
		}
	}
	for _, c := range []struct {
		from string
		to   string
		want []impl.Pair
	}{
		{"", "", pairsIn("a", "five", "ab", "", "b", "hidden", "c", "c")},
		{"a", "c\x00", pairsIn("a", "five", "ab", "", "b", "hidden", "c", "c")},
		{"", "c", pairsIn("a", "five", "ab", "", "b", "hidden")}, {"a\x00", "", pairsIn("ab", "", "b", "hidden", "c", "c")},
		{"a", "a\x00", pairsIn("a", "five")}, {"a", "a", nil}, {"a", "ab", pairsIn("a", "five")}, {"a", "ab\x00", pairsIn("a", "five", "ab", "")},
		{"ab", "b", pairsIn("ab", "")}, {"ab\x00", "b", nil}, {"ab\x00", "b\x00", pairsIn("b", "hidden")}, {"b", "a", nil}, {"c", "a", nil}, {"c", "b\xff", nil},
		{"c", "", pairsIn("c", "c")}, {"c\x00", "", nil}, {"", "a", nil}, {"", "a\x00", pairsIn("a", "five")}, {"\xff", "", nil}, {"", "\xff", pairsIn("a", "five", "ab", "", "b", "hidden", "c", "c")},
		{"", "\x00", nil}, {"\x00", "", pairsIn("a", "five", "ab", "", "b", "hidden", "c", "c")}, {"\xff", "\x00", nil},
	} {
		if got := impl.Scan(row, 5, c.from, c.to); !slices.Equal(got, c.want) {
			t.Errorf("from %q to %q: %v, not %v", c.from, c.to, got, c.want)
		}
		back := impl.ScanBack(row, 5, c.from, c.to)
		slices.Reverse(back)
		if !slices.Equal(back, c.want) {
			t.Errorf("from %q to %q backward: %v reversed, not %v", c.from, c.to, back, c.want)
		}
	}
}

// seqsAt are the numbers at which what is seen of row may change, and some beyond
// all; of a long row those of some of its entries.
func seqsAt(r *rand.Rand, row []impl.Entry) []int64 {
	seqs := []int64{math.MinInt64, -1, 0, 1, impl.MaxSeq - 1, impl.MaxSeq, impl.MaxSeq + 1, math.MaxInt64}
	for _, e := range row {
		if r.Intn(len(row)) < 12 {
			seqs = append(seqs, e.Key.Seq-1, e.Key.Seq, e.Key.Seq+1)
		}
	}
	return seqs
}

func TestP13VisibleAreTheUsersThatAreFound(t *testing.T) {
	r := rand.New(rand.NewSource(42))
	for _, row := range append(manyRows(), nil, []impl.Entry{}) {
		for _, seq := range seqsAt(r, row) {
			visible := holdVisible(t, row, seq)
			values := map[string]string{}
			for _, p := range visible {
				values[p.User] = p.Value
			}
			if !slices.IsSortedFunc(visible, func(a, b impl.Pair) int { return strings.Compare(a.User, b.User) }) || len(values) != len(visible) {
				t.Fatalf("as of %d: %.500v", seq, visible)
			}
			for _, user := range append(impl.MemUsers(row), "", "none") {
				if r.Intn(1+len(row)) > 20 {
					continue
				}
				code, value := impl.MemGet(row, user, seq)
				seen, there := values[user]
				if there != (code == impl.GtFound) || seen != value {
					t.Fatalf("%q as of %d: %q, %v, but got is %d, %q", user, seq, seen, there, code, value)
				}
			}
		}
	}
}

// keysOf are all keys of these users and of the numbers from 0 on.
func keysOf(seqs int64, users ...string) []impl.Key {
	var keys []impl.Key
	for _, user := range users {
		for seq := range seqs {
			keys = append(keys, put(user, seq), gone(user, seq))
		}
	}
	return keys
}

func TestP13EachShortRow(t *testing.T) {
	keys := keysOf(3, "a", "b")
	for word := range 1 << len(keys) {
		row := valued(fmt.Sprint("value ", word), chosen(keys, word)...)
		for seq := int64(-1); seq <= 3; seq++ {
			holdVisible(t, row, seq)
		}
	}
	for first := range 256 {
		user := string([]byte{byte(first)})
		if got := holdVisible(t, rowOf(put(user, 5), put(user, 3)), 4); len(got) != 1 {
			t.Errorf("%q: %v", user, got)
		}
	}
	keys = keysOf(2, "a", "b")
	bounds := []string{"", "\x00", "a", "a\x00", "b", "b\x00", "c"}
	for word := range 1 << len(keys) {
		row := rowOf(chosen(keys, word)...)
		sortByHand(row)
		for seq := int64(-1); seq <= 2; seq++ {
			visible := visibleByHand(row, seq)
			for _, from := range bounds {
				for _, to := range bounds {
					holdScan(t, row, visible, seq, from, to)
				}
			}
		}
	}
}

// boundsAt are texts just at users of row, one byte behind them or ahead, and beyond all.
func boundsAt(r *rand.Rand, row []impl.Entry) []string {
	bounds := []string{"", "\x00", "\xff", strings.Repeat("\xff", 41), strings.Repeat("u", 1000)}
	for _, e := range row {
		if user := e.Key.User; r.Intn(len(row)) < 3 {
			bounds = append(bounds, user, user+"\x00", user[:len(user)-1], user+strings.Repeat("\x00", 40))
		}
	}
	return bounds
}

func TestP13WhatIsScannedIsVisibleBetweenItsBounds(t *testing.T) {
	r := rand.New(rand.NewSource(43))
	for _, row := range append(manyRows(), nil, []impl.Entry{}) {
		for _, seq := range []int64{-1, 0, 100, int64(r.Intn(500)), impl.MaxSeq, impl.MaxSeq + 1} {
			visible := visibleByHand(row, seq)
			bounds := boundsAt(r, row)
			for _, from := range bounds {
				for _, to := range bounds {
					holdScan(t, row, visible, seq, from, to)
				}
			}
			if all := holdScan(t, row, visible, seq, "", ""); !slices.Equal(all, impl.Visible(row, seq)) {
				t.Fatalf("%.300v", all)
			}
		}
	}
}

func TestP13WhatIsScannedInParts(t *testing.T) {
	r := rand.New(rand.NewSource(44))
	for _, row := range manyRows() {
		for _, seq := range []int64{0, int64(r.Intn(500)), impl.MaxSeq} {
			bounds := boundsAt(r, row)
			slices.Sort(bounds)
			bounds = slices.Compact(bounds)
			for range 20 {
				// As an end "" is behind all, so that no part may end there but the last one.
				first := r.Intn(len(bounds))
				mid := max(first+r.Intn(len(bounds)-first), 1)
				from, to := bounds[first], bounds[mid+r.Intn(len(bounds)-mid)]
				parts := slices.Concat(impl.Scan(row, seq, from, bounds[mid]), impl.Scan(row, seq, bounds[mid], to))
				if whole := impl.Scan(row, seq, from, to); !slices.Equal(parts, whole) {
					t.Fatalf("%q, %q, %q: %.300v, not %.300v", from, bounds[mid], to, parts, whole)
				}
				back := slices.Concat(impl.ScanBack(row, seq, bounds[mid], ""), impl.ScanBack(row, seq, from, bounds[mid]))
				if whole := impl.ScanBack(row, seq, from, ""); !slices.Equal(back, whole) {
					t.Fatalf("%q, %q backward: %.300v, not %.300v", from, bounds[mid], back, whole)
				}
			}
		}
	}
}

func TestP13NothingIsSeenOfRowsThatAreNotRight(t *testing.T) {
	for i, row := range oddRows() {
		for _, seq := range []int64{-1, 0, row[0].Key.Seq, 5, impl.MaxSeq, math.MaxInt64} {
			if got := impl.Visible(row, seq); len(got) != 0 {
				t.Errorf("row %d as of %d: %.300v", i, seq, got)
			}
			for _, bounds := range [][2]string{{"", ""}, {"", "z"}, {"a", ""}, {"a", "b"}, {row[0].Key.User, ""}} {
				if got := impl.Scan(row, seq, bounds[0], bounds[1]); len(got) != 0 {
					t.Errorf("row %d as of %d, %q: %.300v", i, seq, bounds, got)
				}
				if got := impl.ScanBack(row, seq, bounds[0], bounds[1]); len(got) != 0 {
					t.Errorf("row %d as of %d, %q backward: %.300v", i, seq, bounds, got)
				}
			}
		}
	}
}

// tablesOf are the tables of rows, each of another shape.
func tablesOf(t *testing.T, rows ...[]impl.Entry) []string {
	t.Helper()
	var tables []string
	for i, row := range rows {
		table, ok := impl.TableOf(row, shape(1+int64(i)%16, 20+int64(i)*30, int64(i)%3))
		if !ok {
			t.Fatalf("row %d has no table", i)
		}
		tables = append(tables, table)
	}
	return tables
}

func notMergedTables(t *testing.T, word string, tables []string) {
	t.Helper()
	if got, ok := impl.MergeTables(tables); ok || len(got) != 0 {
		t.Errorf("%s: %d tables are %v, %.300v", word, len(tables), ok, got)
	}
}

func TestP13MergedTablesAreTheirMergedRows(t *testing.T) {
	for _, tables := range [][]string{nil, {}} {
		if got, ok := impl.MergeTables(tables); !ok || len(got) != 0 {
			t.Error(got, ok)
		}
	}
	r := rand.New(rand.NewSource(45))
	for range 60 {
		runs := slices.DeleteFunc(someRuns(r), func(run impl.Run) bool { return len(run.Entries) == 0 })
		var rows [][]impl.Entry
		for _, run := range runs {
			rows = append(rows, run.Entries)
		}
		tables := tablesOf(t, rows...)
		for range 3 {
			if got, ok := impl.MergeTables(tables); !ok || !slices.Equal(got, mergedByHand(runs)) {
				t.Fatalf("%d tables: %v, %.300v", len(tables), ok, got)
			}
		}
		for place := range tables {
			for _, none := range []string{"", "x", tables[place][1:], tables[place] + "\x00"} {
				notMergedTables(t, "one is none", append(append(slices.Clone(tables[:place]), none), tables[place+1:]...))
			}
		}
		notMergedTables(t, "one more is none", append(slices.Clone(tables), ""))
	}
	one := tablesOf(t, longRow(20))
	for _, many := range []int{1, 2, 19, 20} {
		if got, ok := impl.MergeTables(slices.Repeat(one, many)); !ok || !slices.Equal(got, longRow(20)) {
			t.Error(many, ok, got)
		}
	}
	small := tablesOf(t, longRow(1))
	notMergedTables(t, "21", slices.Repeat(small, 21))
	notMergedTables(t, "100000", slices.Repeat(small, 100000))
	if got, ok := impl.MergeTables(tablesOf(t, longRow(399), rowOf(put("z", 1)))); !ok || len(got) != 400 {
		t.Error(ok, len(got))
	}
	notMergedTables(t, "401 entries", tablesOf(t, longRow(400), rowOf(put("z", 1))))
	notMergedTables(t, "none but such", []string{"", "", ""})
}

func TestP13NoReaderIsLeft(t *testing.T) {
	tables := tablesOf(t, longRow(5), longRow(9), rowOf(put("z", 1)))
	before := runtime.NumGoroutine()
	for range 50 {
		impl.MergeTables(tables)
		impl.MergeTables(append(tables[:1:1], "none", tables[2]))
		impl.MergeTables(slices.Repeat(tables, 7))
	}
	// One that has answered may still need a moment to be gone.
	for range 100 {
		if runtime.NumGoroutine() <= before {
			return
		}
		time.Sleep(10 * time.Millisecond)
	}
	t.Error(before, runtime.NumGoroutine())
}

func TestP13RunsStayAsTheyAre(t *testing.T) {
	room := append(rowOf(put("a", 5), put("b", 3), gone("c", 1)), rowOf(put("m", 9), gone("n", 1))...)
	other := append(valued("other", put("a", 5), put("a", 4), put("d", 3)), rowOf(put("x", 9), gone("y", 1))...)
	runs := append(runsOf(room[:3], other[:3]), runsOf(rowOf(put("q", 7)))...)
	roomBefore, otherBefore, lastBefore := slices.Clone(room), slices.Clone(other), slices.Clone(runs[2].Entries)
	asBefore := func() bool {
		return slices.Equal(room, roomBefore) && slices.Equal(other, otherBefore) && slices.Equal(runs[2].Entries, lastBefore) && len(runs[0].Entries) == 3 && len(runs[1].Entries) == 3
	}
	for _, some := range [][]impl.Run{runs[:2], runs[:1], runs} {
		first, _ := impl.MergeRuns(some)
		second, _ := impl.MergeRuns(some)
		for i := range first[:cap(first)] {
			first[:cap(first)][i] = impl.Entry{Value: "spoilt"}
		}
		if !asBefore() {
			t.Fatal("an argument was written into")
		}
		if third := holdMerged(t, "again", some); !slices.Equal(second, third) {
			t.Fatal("an answer was kept", third)
		}
	}
	want := pairsIn("a", "value of a", "b", "value of b")
	backward := slices.Clone(want)
	slices.Reverse(backward)
	for i, answer := range []func() []impl.Pair{
		func() []impl.Pair { return impl.Visible(room[:3], 9) },
		func() []impl.Pair { return impl.Scan(room[:3], 9, "a", "c") },
		func() []impl.Pair { return impl.ScanBack(room[:3], 9, "", "") },
	} {
		first, second := answer(), answer()
		for place := range first[:cap(first)] {
			first[:cap(first)][place] = impl.Pair{User: "spoilt"}
		}
		right := want
		if i == 2 {
			right = backward
		}
		if !slices.Equal(second, right) || !slices.Equal(answer(), right) || !asBefore() {
			t.Errorf("%d: %v", i, second)
		}
	}
}

func TestP13AnswersHangOnNoOtherCall(t *testing.T) {
	r := rand.New(rand.NewSource(46))
	runs := someRuns(r)
	for len(runs) < 5 {
		runs = someRuns(r)
	}
	row := mergedByHand(runs)
	want := visibleByHand(row, 60)
	halves := [][]impl.Entry{row[:len(row)/2], row[len(row)/2:]}
	tables := tablesOf(t, halves...)
	var group sync.WaitGroup
	same := make([]bool, 16)
	for i := range same {
		group.Go(func() {
			same[i] = true
			for range 30 {
				got, ok := impl.MergeRuns(runs)
				merged, fine := impl.MergeTables(tables)
				same[i] = same[i] && ok && fine && slices.Equal(got, row) && slices.Equal(merged, row) && slices.Equal(impl.Visible(got, 60), want)
			}
		})
	}
	group.Wait()
	if slices.Contains(same, false) {
		t.Error(same)
	}
}
