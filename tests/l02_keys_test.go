package tests

import (
	"fmt"
	"math"
	"math/rand"
	"slices"
	"strings"
	"testing"

	"loop.example/g00214/impl"
)

func put(user string, seq int64) impl.Key {
	return impl.Key{User: user, Seq: seq, Kind: impl.KdPut}
}

func gone(user string, seq int64) impl.Key {
	return impl.Key{User: user, Seq: seq, Kind: impl.KdDelete}
}

// orderedKeys are right keys in the order that the document asks for: by user,
// the newest first, of one Seq KdPut first.
func orderedKeys() []impl.Key {
	users := []string{
		"\x00", "\x00\x00", "A", "a", "a\x00", "aa", "ab", "b", "\x7f", "\x80", "\xff",
		"\xff" + strings.Repeat("a", impl.MaxUser-1),
		strings.Repeat("\xff", impl.MaxUser-1),
		strings.Repeat("\xff", impl.MaxUser),
	}
	seqs := []int64{impl.MaxSeq, impl.MaxSeq - 1, 1 << 33, 1<<32 + 1, 1 << 32, 1 << 31, 1<<31 - 1, 256, 255, 2, 1, 0}
	var list []impl.Key
	for _, user := range users {
		for _, seq := range seqs {
			list = append(list, put(user, seq), gone(user, seq))
		}
	}
	return list
}

func wrongKeys() []impl.Key {
	return []impl.Key{
		{},
		put("", 1), gone("", 1),
		put(strings.Repeat("u", impl.MaxUser+1), 1), put(strings.Repeat("u", 1000), 1),
		put("a", -1), gone("a", -1), put("a", math.MinInt64),
		put("a", impl.MaxSeq+1), gone("a", impl.MaxSeq+1), put("a", math.MaxInt64),
		{User: "a", Seq: 1, Kind: -1}, {User: "a", Seq: 1, Kind: 2}, {User: "a", Seq: 1, Kind: math.MaxInt64},
		{User: "a", Seq: 1, Kind: math.MinInt64},
	}
}

func TestP2Limits(t *testing.T) {
	got := []int64{impl.MaxUser, impl.MaxValue, impl.MaxEntries, impl.MaxSeq, impl.KdDelete, impl.KdPut}
	if !slices.Equal(got, []int64{40, 200, 400, 1000000000000, 0, 1}) {
		t.Error(got)
	}
}

func TestP2KeysThatAreRight(t *testing.T) {
	for _, k := range orderedKeys() {
		if !impl.KeyOk(k) {
			t.Errorf("%#v is right", k)
		}
	}
	for _, k := range wrongKeys() {
		if impl.KeyOk(k) {
			t.Errorf("%#v is not right", k)
		}
	}
}

func TestP2KeysAreInOrder(t *testing.T) {
	keys := orderedKeys()
	for i, a := range keys {
		for j, b := range keys {
			want := int64(0)
			if i < j {
				want = -1
			}
			if i > j {
				want = 1
			}
			if got := impl.KeyCmp(a, b); got != want {
				t.Fatalf("KeyCmp(%#v, %#v) is %d", a, b, got)
			}
		}
	}
}

func TestP2WrongKeysHaveNoOrder(t *testing.T) {
	wrong := wrongKeys()
	for _, k := range wrong {
		for _, right := range []impl.Key{put("a", 1), gone("z", 0), put("\x00", impl.MaxSeq)} {
			if impl.KeyCmp(k, right) != 0 || impl.KeyCmp(right, k) != 0 {
				t.Errorf("%#v, %#v", k, right)
			}
		}
		for _, other := range wrong {
			if impl.KeyCmp(k, other) != 0 {
				t.Errorf("%#v, %#v", k, other)
			}
		}
	}
}

func TestP2KeysComeBackFromTheirBytes(t *testing.T) {
	seen := map[string]int{}
	for i, k := range orderedKeys() {
		s := impl.KeyText(k)
		if len(s) != len(k.User)+8 || s[:len(k.User)] != k.User {
			t.Fatalf("KeyText(%#v) is %q", k, s)
		}
		if back, ok := impl.ReadKey(s); !ok || back != k {
			t.Fatalf("ReadKey(%q) is %#v, %v", s, back, ok)
		}
		if j, ok := seen[s]; ok {
			t.Fatalf("keys %d and %d have one text", i, j)
		}
		seen[s] = i
	}
	for _, k := range wrongKeys() {
		if s := impl.KeyText(k); s != "" {
			t.Errorf("KeyText(%#v) is %q", k, s)
		}
	}
}

func TestP2BytesOfKeys(t *testing.T) {
	texts := map[string]impl.Key{
		"a\x00\x00\x00\x00\x00\x00\x00\x00": gone("a", 0),
		"a\x01\x00\x00\x00\x00\x00\x00\x00": put("a", 0),
		"b\x02\x01\x00\x00\x00\x00\x00\x00": gone("b", 129),
		"c\x00\x00\x00\x80\x00\x00\x00\x00": gone("c", 1<<30),
		"c\x01\x00\x00\x00\x01\x00\x00\x00": put("c", 1<<31),
		"d\x01\x20\x4a\xa9\xd1\x01\x00\x00": put("d", impl.MaxSeq),
	}
	for s, k := range texts {
		if got := impl.KeyText(k); got != s {
			t.Errorf("KeyText(%#v) is %q", k, got)
		}
		if got, ok := impl.ReadKey(s); !ok || got != k {
			t.Errorf("ReadKey(%q) is %#v, %v", s, got, ok)
		}
	}
}

func TestP2TextsThatAreNoKeys(t *testing.T) {
	number := "\x0b\x00\x00\x00\x00\x00\x00\x00"
	user := strings.Repeat("u", impl.MaxUser)
	if k, ok := impl.ReadKey(user + number); !ok || k != put(user, 5) {
		t.Error("a user of most bytes", k, ok)
	}
	wrong := []string{
		"", "a", "abcdefgh"[:7], number, number[1:],
		user + "u" + number,
		strings.Repeat("u", 1000) + number,
		"d\x02\x20\x4a\xa9\xd1\x01\x00\x00", "d\x03\x20\x4a\xa9\xd1\x01\x00\x00",
		"d\x01\x00\x00\x00\x00\x00\x00\x80", "d\xff\xff\xff\xff\xff\xff\xff\x7f",
		"d\xff\xff\xff\xff\xff\xff\xff\xff",
	}
	for _, s := range wrong {
		if k, ok := impl.ReadKey(s); ok || k != (impl.Key{}) {
			t.Errorf("ReadKey(%q) is %#v, %v", s, k, ok)
		}
	}
}

func TestP2WhatIsReadHasJustItsBytes(t *testing.T) {
	r := rand.New(rand.NewSource(5))
	taken := 0
	for range 50000 {
		data := make([]byte, r.Intn(60))
		r.Read(data)
		for i := range data {
			if i+2 >= len(data) || i+3 == len(data) && r.Intn(2) == 0 {
				data[i] = 0
			}
		}
		s := string(data)
		k, ok := impl.ReadKey(s)
		if ok && (impl.KeyText(k) != s || !impl.KeyOk(k)) || !ok && k != (impl.Key{}) {
			t.Fatalf("ReadKey(%q) is %#v, %v", s, k, ok)
		}
		if ok {
			taken++
		}
	}
	if taken == 0 {
		t.Error("no key was read")
	}
}

func TestP2Entries(t *testing.T) {
	most := strings.Repeat("v", impl.MaxValue)
	right := []impl.Entry{
		{Key: put("a", 1)},
		{Key: put("a", 1), Value: "v"},
		{Key: put("a", 1), Value: most},
		{Key: gone("a", 1)},
	}
	for _, e := range right {
		if !impl.EntryOk(e) || !impl.EntriesOk([]impl.Entry{e}) {
			t.Errorf("%#v is right", e)
		}
	}
	wrong := []impl.Entry{
		{},
		{Key: put("a", 1), Value: most + "v"},
		{Key: gone("a", 1), Value: "v"},
		{Key: gone("a", 1), Value: most},
		{Key: gone("a", 1), Value: "\x00"},
	}
	for _, k := range wrongKeys() {
		wrong = append(wrong, impl.Entry{Key: k}, impl.Entry{Key: k, Value: "v"})
	}
	for _, e := range wrong {
		if impl.EntryOk(e) || impl.EntriesOk([]impl.Entry{e}) {
			t.Errorf("%#v is not right", e)
		}
	}
}

// rowOf is a row of the keys, each put with a value.
func rowOf(keys ...impl.Key) []impl.Entry {
	var row []impl.Entry
	for _, k := range keys {
		e := impl.Entry{Key: k}
		if k.Kind == impl.KdPut {
			e.Value = "value of " + k.User[:1]
		}
		row = append(row, e)
	}
	return row
}

// longRow has so many users in order, each once.
func longRow(size int) []impl.Entry {
	var keys []impl.Key
	for i := range size {
		keys = append(keys, put(fmt.Sprintf("user%04d", i), int64(i)))
	}
	return rowOf(keys...)
}

func TestP2RowsThatAreRight(t *testing.T) {
	right := [][]impl.Entry{
		nil,
		{},
		rowOf(put("a", 3), put("a", 2), gone("a", 2), gone("a", 1), put("a", 0), put("aa", 9)),
		rowOf(orderedKeys()...),
		longRow(impl.MaxEntries - 1),
		longRow(impl.MaxEntries),
	}
	for i, row := range right {
		if !impl.EntriesOk(row) {
			t.Errorf("row %d is right", i)
		}
	}
}

func TestP2RowsThatAreNotRight(t *testing.T) {
	wrong := [][]impl.Entry{
		longRow(impl.MaxEntries + 1),
		rowOf(put("a", 1), put("a", 1)),
		rowOf(gone("a", 1), gone("a", 1)),
		rowOf(put("a", 1), put("a", 2)),
		rowOf(gone("a", 1), put("a", 1)),
		rowOf(put("b", 1), put("a", 1)),
		rowOf(put("aa", 1), put("a", 1)),
		rowOf(put("a", 1), put("b", 1), put("a", 0)),
		rowOf(put("a", 1), put("b", 1), put("b", 1)),
	}
	// Both are of one Key, so another Value doesn't part them.
	wrong = append(wrong, []impl.Entry{{Key: put("a", 1), Value: "x"}, {Key: put("a", 1), Value: "y"}})
	for place := range 3 {
		row := rowOf(put("a", 1), put("b", 1), put("c", 1))
		row[place].Value = strings.Repeat("v", impl.MaxValue+1)
		wrong = append(wrong, row)
		row = rowOf(put("a", 1), put("b", 1), put("c", 1))
		row[place].Key.Kind = 2
		wrong = append(wrong, row)
	}
	for i, row := range wrong {
		if impl.EntriesOk(row) {
			t.Errorf("row %d is not right", i)
		}
		if got := impl.SeekEntry(row, put("a", 1)); got != -1 {
			t.Errorf("row %d is not right, SeekEntry is %d", i, got)
		}
	}
}

func TestP2WhatIsSoughtPartsTheRow(t *testing.T) {
	all := orderedKeys()
	var some []impl.Key
	for i, k := range all {
		if i%3 == 1 || i%7 == 2 {
			some = append(some, k)
		}
	}
	rows := [][]impl.Entry{nil, rowOf(all...), rowOf(some...), rowOf(some[0]), longRow(impl.MaxEntries)}
	for _, row := range rows {
		for _, k := range all {
			place := impl.SeekEntry(row, k)
			if place < 0 || place > int64(len(row)) {
				t.Fatalf("SeekEntry of %#v is %d", k, place)
			}
			for i, e := range row {
				if ahead := impl.KeyCmp(e.Key, k) == -1; ahead != (int64(i) < place) {
					t.Fatalf("SeekEntry of %#v is %d, entry %d is %#v", k, place, i, e.Key)
				}
			}
		}
	}
}

func TestP2PlacesInARow(t *testing.T) {
	row := rowOf(put("a", 5), put("a", 3), gone("a", 3), put("b", 1))
	places := map[impl.Key]int64{
		put("A", 0):           0,
		put("a", impl.MaxSeq): 0,
		put("a", 5):           0,
		gone("a", 5):          1,
		put("a", 4):           1,
		put("a", 3):           1,
		gone("a", 3):          2,
		put("a", 2):           3,
		put("aa", 9):          3,
		put("b", 1):           3,
		gone("b", 1):          4,
		put("c", 0):           4,
	}
	for k, want := range places {
		if got := impl.SeekEntry(row, k); got != want {
			t.Errorf("SeekEntry of %#v is %d, not %d", k, got, want)
		}
	}
	if impl.SeekEntry(nil, put("a", 1)) != 0 {
		t.Error("in no row nothing stands ahead")
	}
	for _, k := range wrongKeys() {
		if impl.SeekEntry(row, k) != -1 || impl.SeekEntry(nil, k) != -1 {
			t.Errorf("%#v is not right", k)
		}
	}
}

func TestP2RowsStayAsTheyAre(t *testing.T) {
	room := append(rowOf(put("a", 5), put("b", 3)), rowOf(put("a", 9), gone("c", 1))...)
	before := slices.Clone(room)
	for size := range len(room) + 1 {
		impl.EntriesOk(room[:size])
		impl.SeekEntry(room[:size], put("b", 4))
	}
	if !slices.Equal(room, before) {
		t.Error(room)
	}
}
