package tests

import (
	"encoding/binary"
	"fmt"
	"math"
	"math/rand"
	"slices"
	"strings"
	"sync"
	"testing"

	"loop.example/g00214/impl"
)

func TestP9Limits(t *testing.T) {
	if impl.MaxEvery != 16 {
		t.Error(impl.MaxEvery)
	}
}

// sharedByHand tries from the longest beginning down.
func sharedByHand(a string, b string) int {
	for size := min(len(a), len(b)); ; size-- {
		if strings.HasPrefix(b, a[:size]) {
			return size
		}
	}
}

func TestP9WhatTextsHaveInCommon(t *testing.T) {
	long := someText(70000)
	for _, c := range []struct {
		a, b string
		want int64
	}{
		{"", "", 0}, {"", "a", 0}, {"", long, 0},
		{"a", "a", 1}, {"a", "b", 0}, {"a", "ab", 1}, {"ab", "abc", 2}, {"abc", "abd", 2}, {"abc", "xbc", 0},
		{"\x00", "\x00\x00", 1}, {"\x00", "", 0}, {"\xff\xfe", "\xff\xff", 1}, {"\x80a", "\x80b", 1},
		// The same byte ahead of another one, of letters that take two.
		{"\u00e4", "\u00f6", 1}, {"\u00e4x", "\u00e4y", 2},
		{"aaaa", "aaaaaa", 4}, {"abab", "baba", 0},
		{long, long, 70000}, {long, long + "x", 70000}, {long[:69999] + "\x00", long, 69999}, {"\x00" + long, long, 0},
	} {
		if got := impl.SharedWith(c.a, c.b); got != c.want {
			t.Errorf("%.20q and %.20q: %d, not %d", c.a, c.b, got, c.want)
		}
		if got := impl.SharedWith(c.b, c.a); got != c.want {
			t.Errorf("%.20q and %.20q: %d, not %d", c.b, c.a, got, c.want)
		}
	}
	r := rand.New(rand.NewSource(20))
	for range 5000 {
		a, b := make([]byte, r.Intn(12)), make([]byte, r.Intn(12))
		for i := range a {
			a[i] = "ab"[r.Intn(1+r.Intn(2))]
		}
		for i := range b {
			b[i] = "ab"[r.Intn(1+r.Intn(2))]
		}
		if got := impl.SharedWith(string(a), string(b)); got != int64(sharedByHand(string(a), string(b))) {
			t.Fatalf("%q and %q: %d", a, b, got)
		}
	}
}

func keyByHand(k impl.Key) string {
	return k.User + string(binary.LittleEndian.AppendUint64(nil, uint64(2*k.Seq+k.Kind)))
}

func varByHand(n uint64) string {
	return string(binary.AppendUvarint(nil, n))
}

func textByHand(s string) string {
	return varByHand(uint64(len(s))) + s
}

func fixedByHand(x int) string {
	return string(binary.LittleEndian.AppendUint32(nil, uint32(x)))
}

// A piece is an entry as it stands in a block.
type piece struct {
	shared uint64
	rest   string
	value  string
}

func (p piece) text() string {
	return varByHand(p.shared) + textByHand(p.rest) + textByHand(p.value)
}

func piecesOf(row []impl.Entry, every int) []piece {
	var pieces []piece
	for i, e := range row {
		shared := 0
		if i%every != 0 {
			shared = sharedByHand(keyByHand(row[i-1].Key), keyByHand(e.Key))
		}
		pieces = append(pieces, piece{uint64(shared), keyByHand(e.Key)[shared:], e.Value})
	}
	return pieces
}

// joined is the block of pieces by every, whatever they are.
func joined(pieces []piece, every int) string {
	var entries []byte
	places := ""
	for i, p := range pieces {
		if i%every == 0 {
			places += fixedByHand(len(entries))
		}
		entries = append(entries, p.text()...)
	}
	return string(entries) + places + fixedByHand(len(places)/4) + fixedByHand(every)
}

// blockByHand is the block of row by every, be they right or not.
func blockByHand(row []impl.Entry, every int) string {
	return joined(piecesOf(row, every), every)
}

// takenByHand takes texts and numbers apart, and remembers what was not there.
type takenByHand struct {
	rest  string
	short bool
}

func (in *takenByHand) number() uint64 {
	n, size := binary.Uvarint([]byte(in.rest[:min(10, len(in.rest))]))
	if size <= 0 {
		in.rest, in.short = "", true
		return 0
	}
	in.rest = in.rest[size:]
	return n
}

func (in *takenByHand) bytes(size uint64) string {
	if size > uint64(len(in.rest)) {
		in.rest, in.short = "", true
		return ""
	}
	taken := in.rest[:size]
	in.rest = in.rest[size:]
	return taken
}

// blockRead is the row whose block s is; false when there is none.
func blockRead(s string) ([]impl.Entry, bool) {
	if len(s) < 8 || len(s) > 60000 {
		return nil, false
	}
	every := binary.LittleEndian.Uint32([]byte(s[len(s)-4:]))
	places := uint64(binary.LittleEndian.Uint32([]byte(s[len(s)-8:])))
	if every < 1 || every > 16 || 4*places > uint64(len(s)-8) {
		return nil, false
	}
	in := takenByHand{rest: s[:uint64(len(s)-8)-4*places]}
	var row []impl.Entry
	ahead := ""
	for in.rest != "" && len(row) < 401 {
		shared := in.number()
		if shared > uint64(len(ahead)) {
			return nil, false
		}
		text := ahead[:shared] + in.bytes(in.number())
		value := in.bytes(in.number())
		k, ok := impl.ReadKey(text)
		if in.short || !ok {
			return nil, false
		}
		row = append(row, impl.Entry{Key: k, Value: value})
		ahead = text
	}
	if len(row) == 0 || !impl.EntriesOk(row) || blockByHand(row, int(every)) != s {
		return nil, false
	}
	return row, true
}

func holdBlockRead(t *testing.T, word string, s string) bool {
	t.Helper()
	row, ok := impl.ReadBlock(s)
	want, there := blockRead(s)
	if ok != there || !slices.Equal(row, want) {
		t.Fatalf("%s: ReadBlock(%.200q) is %.200v, %v, not %.200v, %v", word, s, row, ok, want, there)
	}
	k := put("key", 5)
	place, found := impl.BlockSeek(s, k)
	if found != ok || ok && place != impl.SeekEntry(want, k) || !ok && place != 0 {
		t.Fatalf("%s: BlockSeek(%.200q) is %d, %v", word, s, place, found)
	}
	return ok
}

// notABlock is said of what is known to be none, without a look at it.
func notABlock(t *testing.T, word string, s string) {
	t.Helper()
	if row, ok := impl.ReadBlock(s); ok || row != nil {
		t.Errorf("%s: ReadBlock(%.200q) is %.200v, %v", word, s, row, ok)
	}
	if place, ok := impl.BlockSeek(s, put("key", 5)); ok || place != 0 {
		t.Errorf("%s: BlockSeek(%.200q) is %d, %v", word, s, place, ok)
	}
}

func noBlock(t *testing.T, word string, row []impl.Entry, every int64) {
	t.Helper()
	if s, ok := impl.BlockOf(row, every); ok || s != "" {
		t.Errorf("%s, every %d: %.200q, %v", word, every, s, ok)
	}
}

// usersRow has the users, in order, each put once with the value.
func usersRow(value string, users ...string) []impl.Entry {
	var row []impl.Entry
	for i, user := range users {
		row = append(row, impl.Entry{Key: put(user, int64(i)), Value: value})
	}
	sortByHand(row)
	return row
}

// fewRows are short right rows; manyRows are right rows of all kinds.
func fewRows() [][]impl.Entry {
	user := strings.Repeat("u", 40)
	return [][]impl.Entry{
		{{Key: put("a", 0)}},
		{{Key: gone("a", 0)}},
		{{Key: put("\xff", impl.MaxSeq), Value: strings.Repeat("v", 200)}},
		{{Key: put(user, 7), Value: "x"}},
		// One text is the beginning of the other one, up to where the number begins or beyond it.
		usersRow("x", "a", "aa", "aaa", "aaaa", "aaaaa"),
		usersRow("", "a\x00", "a\x00\x00", "a\x00\x00\x00\x00\x00\x00\x00\x00", "a\x01\x00\x00\x00\x00\x00\x00\x00"),
		// Nothing in common, and all but the last byte of a user.
		usersRow("y", "a", "b", "c", "d"),
		usersRow("z", user, user[1:]+"v", user[1:]+"w", user[1:]),
		rowOf(put("a", 1<<39), put("a", 1<<39-1), gone("a", 1<<39-1), put("a", 255), put("a", 1), put("a", 0), gone("a", 0)),
		rowOf(gone("a", 9), gone("a", 7), put("key", 6), put("key", 5), gone("key", 5), put("key1", 3), gone("kez", 3)),
	}
}

func manyRows() [][]impl.Entry {
	r := rand.New(rand.NewSource(21))
	rows := append(fewRows(), rowOf(orderedKeys()...))
	for _, size := range []int{1, 2, 3, 4, 5, 7, 8, 9, 14, 15, 16, 17, 18, 31, 32, 33, 47, 48, 49, 399, 400} {
		rows = append(rows, longRow(size), mixedRow(r, size))
	}
	odd := oddUsers(22, 200)
	slices.Sort(odd)
	return append(rows, usersRow("odd", slices.Compact(odd)...))
}

func TestP9RowsComeBackFromTheirBlocks(t *testing.T) {
	for i, row := range manyRows() {
		anew, _ := impl.BlockOf(row, 1)
		for every := int64(1); every <= 16; every++ {
			s, ok := impl.BlockOf(row, every)
			if want := blockByHand(row, int(every)); !ok || s != want {
				t.Fatalf("row %d, every %d: %.300q, %v, not %.300q", i, every, s, ok, want)
			}
			if len(s) > len(anew) {
				t.Errorf("row %d, every %d: %d bytes, %d when each entry begins anew", i, every, len(s), len(anew))
			}
			if back, ok := impl.ReadBlock(s); !ok || !slices.Equal(back, row) {
				t.Fatalf("row %d, every %d: %v, %.300v", i, every, ok, back)
			}
		}
	}
}

func TestP9BytesOfBlocks(t *testing.T) {
	row := []impl.Entry{{Key: put("ab", 3), Value: "x"}, {Key: gone("ab", 3)}, {Key: put("b", 200), Value: "yz"}}
	first, number := "\x00\x0aab\x07\x00\x00\x00\x00\x00\x00\x00\x01x", "\x91\x01\x00\x00\x00\x00\x00\x00"
	gone := "\x02\x08\x06\x00\x00\x00\x00\x00\x00\x00\x00"
	last := "\x00\x09b" + number + "\x02yz"
	anew := "\x00\x0aab\x06\x00\x00\x00\x00\x00\x00\x00\x00"
	zero, one, two, three := "\x00\x00\x00\x00", "\x01\x00\x00\x00", "\x02\x00\x00\x00", "\x03\x00\x00\x00"
	for every, want := range map[int64]string{
		1:  first + anew + last + zero + "\x0e\x00\x00\x00" + "\x1b\x00\x00\x00" + three + one,
		2:  first + gone + last + zero + "\x19\x00\x00\x00" + two + two,
		3:  first + gone + last + zero + one + three,
		16: first + gone + last + zero + one + "\x10\x00\x00\x00",
	} {
		if got, ok := impl.BlockOf(row, every); !ok || got != want {
			t.Errorf("every %d: %q, %v, not %q", every, got, ok, want)
		}
		if back, ok := impl.ReadBlock(want); !ok || !slices.Equal(back, row) {
			t.Errorf("every %d: %v, %v", every, back, ok)
		}
	}
}

func TestP9NoBlocksOfWrongArguments(t *testing.T) {
	for _, every := range []int64{math.MinInt64, -16, -1, 0, 17, 18, 1 << 32, 1<<32 + 1, math.MaxInt64} {
		for i, row := range manyRows() {
			noBlock(t, fmt.Sprint("row ", i), row, every)
		}
		noBlock(t, "no row", nil, every)
	}
	for every := int64(1); every <= 16; every++ {
		noBlock(t, "no row", nil, every)
		noBlock(t, "an empty row", []impl.Entry{}, every)
		for i, row := range oddRows() {
			noBlock(t, fmt.Sprint("odd row ", i), row, every)
		}
	}
}

// wideRow has so many entries, of users that have little in common, with values of so many bytes.
func wideRow(size int, value int) []impl.Entry {
	var row []impl.Entry
	for i := range size {
		user := string([]byte{byte(i / 256), byte(i)}) + strings.Repeat("u", 38)
		row = append(row, impl.Entry{Key: put(user, 1<<39), Value: strings.Repeat("v", value)})
	}
	return row
}

// filledRow is a wide row of size entries, with values so short that length tells just so many bytes.
func filledRow(t *testing.T, size int, bytes int, length func([]impl.Entry) int) []impl.Entry {
	t.Helper()
	row := wideRow(size, 200)
	// A value of 128 bytes or more has a length of two, so one byte less is one byte less in all.
	for i := size - 1; i >= 0; i-- {
		spare := length(row) - bytes
		if spare < 0 {
			t.Fatalf("%d entries are too few for %d bytes", size, bytes)
		}
		row[i].Value = strings.Repeat("v", 200-min(spare, 72))
		if spare <= 72 {
			break
		}
	}
	if got := length(row); got != bytes {
		t.Fatalf("%d entries have %d bytes, not %d", size, got, bytes)
	}
	return row
}

func TestP9ABlockHasAtMost60000Bytes(t *testing.T) {
	for _, every := range []int{1, 2, 15, 16} {
		for _, bytes := range []int{59999, 60000, 60001, 60002} {
			row := filledRow(t, 280, bytes, func(row []impl.Entry) int { return len(blockByHand(row, every)) })
			want := blockByHand(row, every)
			if bytes > 60000 {
				noBlock(t, "too long", row, int64(every))
				notABlock(t, "too long", want)
				continue
			}
			if s, ok := impl.BlockOf(row, int64(every)); !ok || s != want {
				t.Fatalf("every %d, %d bytes: %d bytes, %v", every, bytes, len(s), ok)
			}
			if back, ok := impl.ReadBlock(want); !ok || !slices.Equal(back, row) {
				t.Fatalf("every %d, %d bytes: %d entries, %v", every, bytes, len(back), ok)
			}
			if place, ok := impl.BlockSeek(want, row[200].Key); !ok || place != 200 {
				t.Fatalf("every %d, %d bytes: %d, %v", every, bytes, place, ok)
			}
		}
	}
	// Too long when each entry begins anew, but not when they share.
	row := filledRow(t, 280, 60001, func(row []impl.Entry) int { return len(blockByHand(row, 1)) })
	noBlock(t, "anew", row, 1)
	if _, ok := impl.BlockOf(row, 2); !ok {
		t.Error("a block that is shorter, as it shares")
	}
}

func TestP9AKeyIsSoughtAsInTheRow(t *testing.T) {
	for i, row := range manyRows() {
		keys := []impl.Key{put("\x00", impl.MaxSeq), gone(strings.Repeat("\xff", 40), 0), put("user0100", 50), gone("u1", 7), put("key", 5)}
		for j, e := range row {
			if j%7 < 2 || j > len(row)-3 {
				keys = append(keys, e.Key, put(e.Key.User, 0), gone(e.Key.User, impl.MaxSeq), put(e.Key.User[:1], 9))
			}
		}
		s, ok := impl.BlockOf(row, int64(1+i%16))
		if !ok {
			t.Fatal(i)
		}
		for _, k := range keys {
			ahead := int64(0)
			for ahead < int64(len(row)) && impl.KeyCmp(row[ahead].Key, k) == -1 {
				ahead++
			}
			if place, ok := impl.BlockSeek(s, k); !ok || place != ahead {
				t.Fatalf("row %d: %v at %d, %v, not %d", i, k, place, ok, ahead)
			}
		}
		for _, k := range wrongKeys() {
			if place, ok := impl.BlockSeek(s, k); ok || place != 0 {
				t.Fatalf("row %d: %v at %d, %v", i, k, place, ok)
			}
			if place, ok := impl.BlockSeek(s[1:], k); ok || place != 0 {
				t.Fatalf("no block: %v at %d, %v", k, place, ok)
			}
		}
	}
}

func TestP9WhatIsReadAsABlockHasJustItsBytes(t *testing.T) {
	for i, row := range append(fewRows(), longRow(16), longRow(17), longRow(33)) {
		for _, every := range []int{1, 2, 3, 15, 16} {
			word := fmt.Sprint("row ", i, ", every ", every)
			s := blockByHand(row, every)
			for cut := range len(s) {
				notABlock(t, word+" cut", s[:cut])
				if cut > 0 {
					holdBlockRead(t, word+" cut ahead", s[cut:])
				}
			}
			for _, more := range []string{"\x00", "\x01", "x", "\xff", fixedByHand(every), s} {
				notABlock(t, word+" and more", s+more)
				holdBlockRead(t, word+" behind more", more+s)
			}
			turned := []byte(s)
			for bit := range 8 * len(s) {
				turned[bit/8] ^= 1 << (bit % 8)
				holdBlockRead(t, word+" turned", string(turned))
				turned[bit/8] ^= 1 << (bit % 8)
			}
		}
	}
}

func TestP9TextsThatAreNoBlocks(t *testing.T) {
	none := fixedByHand(0)
	for _, s := range []string{
		"", "\x00", "x", someText(7), zeros(7), zeros(8), zeros(12), zeros(100), zeros(70000), someText(70000),
		strings.Repeat("\xff", 8), strings.Repeat("\xff", 100), strings.Repeat("\xff", 61000),
		// Blocks of no entry, with no place, one, or two.
		none + fixedByHand(1), none + fixedByHand(1) + fixedByHand(1), none + none + fixedByHand(2) + fixedByHand(16),
		// Places that are more than there is room for.
		fixedByHand(1) + fixedByHand(1), none + fixedByHand(2) + fixedByHand(1), none + fixedByHand(math.MaxUint32) + fixedByHand(1),
		none + fixedByHand(1<<30) + fixedByHand(1), none + fixedByHand(1<<30+1) + fixedByHand(1), none + fixedByHand(1<<31) + fixedByHand(1),
		strings.Repeat("\x00\x01", 10000) + none + fixedByHand(1) + fixedByHand(16),
	} {
		notABlock(t, "none", s)
	}
	r := rand.New(rand.NewSource(23))
	edges := "\x00\x01\x02\x09\x0aab\x80\x10"
	for range 20000 {
		data := make([]byte, r.Intn(60))
		for i := range data {
			data[i] = edges[r.Intn(len(edges))]
		}
		holdBlockRead(t, "any", string(data)+fixedByHand(0)+fixedByHand(1)+fixedByHand(1+r.Intn(3)))
	}
}

func TestP9AnEntrySharesJustWhatItHasInCommon(t *testing.T) {
	for i, row := range append(fewRows(), longRow(18)) {
		for _, every := range []int{1, 2, 3, 16} {
			for place, p := range piecesOf(row, every) {
				text := keyByHand(row[place].Key)
				ahead := ""
				if place > 0 {
					ahead = keyByHand(row[place-1].Key)
				}
				for shared := range uint64(len(ahead) + 3) {
					if shared == p.shared {
						continue
					}
					pieces := piecesOf(row, every)
					word := fmt.Sprintf("row %d, every %d, entry %d shares %d, not %d", i, every, place, shared, p.shared)
					// The text stays the same where it has all that is shared, else it is another one.
					pieces[place] = piece{shared, text[min(shared, uint64(len(text))):], p.value}
					if same := ahead[:min(shared, uint64(len(ahead)))] + pieces[place].rest; same == text || shared > uint64(len(ahead)) {
						notABlock(t, word, joined(pieces, every))
					}
					holdBlockRead(t, word, joined(pieces, every))
					pieces[place].rest = p.rest
					holdBlockRead(t, word+", all else as it is", joined(pieces, every))
				}
				for _, shared := range []uint64{128, 1 << 31, 1 << 32, 1 << 62, 1<<63 - 1, 1 << 63, math.MaxUint64} {
					pieces := piecesOf(row, every)
					pieces[place].shared = shared
					notABlock(t, "far too much", joined(pieces, every))
				}
			}
		}
	}
}

func TestP9PlacesAreThoseWhereEntriesBeginAnew(t *testing.T) {
	for i, row := range append(fewRows(), longRow(17), longRow(33)) {
		for every := 1; every <= 16; every++ {
			s := blockByHand(row, every)
			many := (len(row) + every - 1) / every
			entries := s[:len(s)-4*many-8]
			var places []int
			for place := range many {
				places = append(places, int(binary.LittleEndian.Uint32([]byte(s[len(entries)+4*place:]))))
			}
			withPlaces := func(places []int, many int) string {
				text := entries
				for _, place := range places {
					text += fixedByHand(place)
				}
				return text + fixedByHand(many) + fixedByHand(every)
			}
			if withPlaces(places, many) != s {
				t.Fatal("the test is wrong")
			}
			word := fmt.Sprint("row ", i, ", every ", every)
			for place := range places {
				for _, by := range []int{-1, 1, 256, 1 << 31} {
					other := slices.Clone(places)
					other[place] += by
					notABlock(t, word+": another place", withPlaces(other, many))
				}
				notABlock(t, word+": a place less", withPlaces(slices.Delete(slices.Clone(places), place, place+1), many-1))
				notABlock(t, word+": a place twice", withPlaces(slices.Insert(slices.Clone(places), place, places[place]), many+1))
			}
			notABlock(t, word+": a place more", withPlaces(append(slices.Clone(places), len(entries)), many+1))
			if many > 1 {
				slices.Reverse(places)
				notABlock(t, word+": the other way round", withPlaces(places, many))
				slices.Reverse(places)
			}
			for _, other := range []int{0, many - 1, many + 1, many + 256, len(entries) / 4, 1 << 30, math.MaxUint32} {
				if other != many {
					notABlock(t, word+": another count", withPlaces(places, other))
				}
			}
		}
	}
}

func TestP9ABlockIsByTheEveryThatItTells(t *testing.T) {
	for i, row := range append(fewRows(), longRow(15), longRow(16), longRow(17), longRow(400)) {
		for every := 1; every <= 16; every++ {
			s := blockByHand(row, every)
			for _, other := range []int{0, 1, 2, 3, 4, 5, 6, 7, 8, 9, 10, 11, 12, 13, 14, 15, 16, 17, 32, 256 + every, 1<<16 + every, 1<<31 + every, math.MaxUint32} {
				// Where just the first entry begins anew by both, both blocks are the same but for their end.
				want := other == every || len(row) <= min(every, other) && other <= 16
				turned := s[:len(s)-4] + fixedByHand(other)
				if ok := holdBlockRead(t, fmt.Sprint("row ", i, ", every ", every, " told as ", other), turned); ok != want {
					t.Fatalf("row %d, every %d told as %d: %v", i, every, other, ok)
				}
			}
		}
	}
}

func TestP9GroupsThatAreNotNeeded(t *testing.T) {
	for i, row := range fewRows() {
		for _, every := range []int{1, 2, 16} {
			pieces := piecesOf(row, every)
			for place := range pieces {
				for number := range 3 {
					for _, tail := range []string{"\x80\x00", "\x80\x80\x00"} {
						entries, places := "", ""
						for j, p := range pieces {
							if j%every == 0 {
								places += fixedByHand(len(entries))
							}
							numbers := []string{varByHand(p.shared), varByHand(uint64(len(p.rest))), varByHand(uint64(len(p.value)))}
							if j == place {
								last := numbers[number]
								numbers[number] = last[:len(last)-1] + string([]byte{last[len(last)-1] | 0x80}) + tail[1:]
							}
							entries += numbers[0] + numbers[1] + p.rest + numbers[2] + p.value
						}
						notABlock(t, fmt.Sprint("row ", i, ", entry ", place, ", number ", number), entries+places+fixedByHand(len(places)/4)+fixedByHand(every))
					}
				}
			}
		}
	}
}

// inBytes tells whether the bytes of the keys of a row, right or not, are not those of other keys.
func inBytes(row []impl.Entry) bool {
	for _, e := range row {
		if e.Key.Kind < 0 || e.Key.Kind > 1 || e.Key.Seq < 0 || e.Key.Seq > 1<<50 {
			return false
		}
	}
	return true
}

func TestP9BlocksOfRowsThatAreNotRight(t *testing.T) {
	for i, row := range append(oddRows(), nil, append(longRow(400), impl.Entry{Key: put("z", 1)})) {
		if !inBytes(row) {
			continue
		}
		for every := 1; every <= 16; every++ {
			notABlock(t, fmt.Sprint("odd row ", i, ", every ", every), blockByHand(row, every))
		}
	}
	full := longRow(400)
	if back, ok := impl.ReadBlock(blockByHand(full, 16)); !ok || !slices.Equal(back, full) {
		t.Error("400 entries", ok)
	}
	most := "d" + "\x02\x20\x4a\xa9\xd1\x01\x00\x00"
	notABlock(t, "a Seq that is too great", joined([]piece{{0, most, ""}}, 1))
	for _, rest := range []string{"", "a", "12345678", strings.Repeat("u", 41) + "\x01\x00\x00\x00\x00\x00\x00\x00"} {
		notABlock(t, "no key", joined([]piece{{0, rest, ""}}, 1))
		notABlock(t, "no key behind one", joined([]piece{{0, "\x00" + zeros(8), ""}, {0, rest, ""}}, 1))
	}
}

func TestP9RowsAndBlocksStayAsTheyAre(t *testing.T) {
	room := append(rowOf(put("a", 5), put("b", 3), gone("c", 1)), rowOf(put("m", 9), gone("n", 1))...)
	before := slices.Clone(room)
	s, _ := impl.BlockOf(room[:3], 2)
	first, _ := impl.ReadBlock(s)
	spoil := first[:cap(first)]
	for i := range spoil {
		spoil[i] = impl.Entry{Value: "spoilt"}
	}
	if again, ok := impl.ReadBlock(s); !ok || !slices.Equal(again, before[:3]) {
		t.Error(again)
	}
	impl.BlockSeek(s, put("b", 3))
	if again, ok := impl.BlockOf(room[:3], 2); !ok || again != s || !slices.Equal(room, before) {
		t.Errorf("%q, %v", again, room)
	}
}

func TestP9AnswersHangOnNoOtherCall(t *testing.T) {
	rows := manyRows()[10:20]
	var group sync.WaitGroup
	same := make([]bool, 16)
	for i := range same {
		group.Go(func() {
			same[i] = true
			for _, row := range rows {
				s, ok := impl.BlockOf(row, int64(1+i))
				back, fine := impl.ReadBlock(s)
				same[i] = same[i] && ok && fine && s == blockByHand(row, 1+i) && slices.Equal(back, row)
			}
		})
	}
	group.Wait()
	if slices.Contains(same, false) {
		t.Error(same)
	}
}
