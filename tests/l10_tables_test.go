package tests

import (
	"encoding/binary"
	"fmt"
	"hash/crc32"
	"math"
	"math/rand"
	"slices"
	"sort"
	"strings"
	"sync"
	"testing"

	"loop.example/g00214/impl"
)

func TestP10Limits(t *testing.T) {
	if impl.Magic != 1279478321 || impl.MinBlock != 20 || impl.MaxBlock != 4000 || impl.GtBad != 3 {
		t.Error(impl.Magic, impl.MinBlock, impl.MaxBlock, impl.GtBad)
	}
}

func shape(every int64, size int64, kind int64) impl.Shape {
	return impl.Shape{Every: every, Size: size, Kind: kind}
}

// rightShapes have each limit, and something between.
func rightShapes() []impl.Shape {
	var shapes []impl.Shape
	for kind := range int64(3) {
		for _, every := range []int64{1, 2, 15, 16} {
			for _, size := range []int64{20, 21, 60, 300, 3999, 4000} {
				shapes = append(shapes, shape(every, size, kind))
			}
		}
	}
	return shapes
}

func wrongShapes() []impl.Shape {
	shapes := []impl.Shape{{}}
	for _, every := range []int64{math.MinInt64, -1, 0, 17, 1<<32 + 1, math.MaxInt64} {
		shapes = append(shapes, shape(every, 20, 0), shape(every, 4000, 2))
	}
	for _, size := range []int64{math.MinInt64, -20, -1, 0, 1, 19, 4001, 1<<32 + 20, math.MaxInt64} {
		shapes = append(shapes, shape(1, size, 0), shape(16, size, 2))
	}
	for _, kind := range []int64{math.MinInt64, -1, 3, 4, 1 << 32, 1<<32 + 1, math.MaxInt64} {
		shapes = append(shapes, shape(1, 20, kind), shape(16, 4000, kind))
	}
	return shapes
}

func TestP10ShapesThatAreRight(t *testing.T) {
	for _, p := range rightShapes() {
		if !impl.ShapeOk(p) {
			t.Errorf("%v is right", p)
		}
	}
	for _, p := range wrongShapes() {
		if impl.ShapeOk(p) {
			t.Errorf("%v is not right", p)
		}
	}
}

// What is told of the users of a row is kept, as it takes long to tell.
var (
	filtersSeen   = map[string]impl.Filter{}
	registersSeen = map[string]string{}
	seenLock      sync.Mutex
)

func usersByHand(row []impl.Entry) []string {
	var users []string
	for _, e := range row {
		if len(users) == 0 || users[len(users)-1] != e.Key.User {
			users = append(users, e.Key.User)
		}
	}
	return users
}

func filterByHand(users []string, kind int64) impl.Filter {
	seenLock.Lock()
	defer seenLock.Unlock()
	name := fmt.Sprintf("%d%q", kind, users)
	if f, ok := filtersSeen[name]; ok || kind == 0 {
		return f
	}
	bits, _ := bloomByHand(users, 6, max(8, (10*len(users)+7)/8))
	f := impl.Filter{Kind: 1, Probes: 6, Bits: bits}
	for seed := int64(3); seed >= 0 && kind == 2; seed-- {
		if bits, ok := ribbonByHand(users, seed); ok {
			f = impl.Filter{Kind: 2, Seed: seed, Bits: bits}
		}
	}
	filtersSeen[name] = f
	return f
}

func countersByHand(users []string) string {
	seenLock.Lock()
	defer seenLock.Unlock()
	name := fmt.Sprintf("%q", users)
	if _, ok := registersSeen[name]; !ok {
		registersSeen[name] = registersByHand(users)
	}
	return registersSeen[name]
}

// sectionByHand is the section of text, with its own sum.
func sectionByHand(text string) string {
	return textByHand(text) + fixedByHand(int(crc32.Checksum([]byte(text), castagnoli)))
}

// partsByHand parts row as blocks of that size ask for.
func partsByHand(row []impl.Entry, every int, size int) [][]impl.Entry {
	var parts [][]impl.Entry
	for begin := 0; begin < len(row); {
		end := begin + 1
		for end < len(row) && len(blockByHand(row[begin:end], every)) < size {
			end++
		}
		parts = append(parts, row[begin:end])
		begin = end
	}
	return parts
}

// A tableDraft is what the sections of a table have, right or not.
type tableDraft struct {
	blocks     []string
	lasts      []string
	filter     string
	properties string
}

func propertiesByHand(entries int, registers string, p impl.Shape) string {
	return varByHand(uint64(entries)) + registers + varByHand(uint64(p.Every)) + varByHand(uint64(p.Size)) + varByHand(uint64(p.Kind))
}

func filterText(f impl.Filter) string {
	return varByHand(uint64(f.Kind)) + varByHand(uint64(f.Seed)) + varByHand(uint64(f.Probes)) + textByHand(f.Bits)
}

// draftOf is the draft of the row in these parts.
func draftOf(parts [][]impl.Entry, p impl.Shape) tableDraft {
	users := usersByHand(slices.Concat(parts...))
	draft := tableDraft{
		filter:     filterText(filterByHand(users, p.Kind)),
		properties: propertiesByHand(len(slices.Concat(parts...)), countersByHand(users), p),
	}
	for _, part := range parts {
		draft.blocks = append(draft.blocks, blockByHand(part, int(p.Every)))
		draft.lasts = append(draft.lasts, keyByHand(part[len(part)-1].Key))
	}
	return draft
}

// places are those at which the blocks begin, and the one behind them.
func (d tableDraft) places() []int {
	places := []int{0}
	for i, block := range d.blocks {
		places = append(places, places[i]+len(sectionByHand(block)))
	}
	return places
}

func (d tableDraft) index() string {
	text := ""
	for i, last := range d.lasts {
		text += varByHand(uint64(d.places()[i])) + textByHand(last)
	}
	return text
}

// textWith is the table with this index.
func (d tableDraft) textWith(index string) string {
	var text strings.Builder
	for _, block := range d.blocks {
		text.WriteString(sectionByHand(block))
	}
	places := ""
	for _, part := range []string{index, d.filter, d.properties} {
		places += fixedByHand(text.Len())
		text.WriteString(sectionByHand(part))
	}
	return text.String() + places + fixedByHand(1279478321)
}

func (d tableDraft) text() string {
	return d.textWith(d.index())
}

// tableByHand is the table of row and p, whatever its length.
func tableByHand(row []impl.Entry, p impl.Shape) string {
	return draftOf(partsByHand(row, int(p.Every), int(p.Size)), p).text()
}

func sectionAt(s string, place int) (string, int, bool) {
	if place > len(s) {
		return "", 0, false
	}
	in := takenByHand{rest: s[place:]}
	text := in.bytes(in.number())
	sum := in.bytes(4)
	return text, len(s) - len(in.rest), !in.short && sum == fixedByHand(int(crc32.Checksum([]byte(text), castagnoli)))
}

// tableRead is the row and the shape whose table s is; false when there is none.
func tableRead(s string) ([]impl.Entry, impl.Shape, bool) {
	if len(s) < 16 || len(s) > 60000 || !strings.HasSuffix(s, fixedByHand(1279478321)) {
		return nil, impl.Shape{}, false
	}
	index := int(binary.LittleEndian.Uint32([]byte(s[len(s)-16:])))
	properties := int(binary.LittleEndian.Uint32([]byte(s[len(s)-8:])))
	var row []impl.Entry
	for place := 0; place < index; {
		block, behind, ok := sectionAt(s, place)
		part, there := blockRead(block)
		if !ok || !there {
			return nil, impl.Shape{}, false
		}
		row = append(row, part...)
		place = behind
	}
	text, _, ok := sectionAt(s, properties)
	in := takenByHand{rest: text}
	in.number()
	in.bytes(64)
	p := impl.Shape{Every: int64(in.number()), Size: int64(in.number()), Kind: int64(in.number())}
	if !ok || in.short || len(row) == 0 || !impl.EntriesOk(row) || !impl.ShapeOk(p) || tableByHand(row, p) != s {
		return nil, impl.Shape{}, false
	}
	return row, p, true
}

// notATable is said of what is known to be none.
func notATable(t *testing.T, word string, s string) {
	t.Helper()
	if row, ok := impl.ReadTable(s); ok || row != nil {
		t.Errorf("%s: ReadTable(%.300q) is %.200v, %v", word, s, row, ok)
	}
	for _, user := range []string{"", "a", "user0001", strings.Repeat("u", 41)} {
		if code, value := impl.TableGet(s, user, impl.MaxSeq); code != 3 || value != "" {
			t.Errorf("%s: %q of %.300q is %d, %q", word, user, s, code, value)
		}
		if !impl.TableMay(s, user) {
			t.Errorf("%s: %q is denied of %.300q", word, user, s)
		}
	}
	if p, many, count, ok := impl.TableProps(s); ok || p != (impl.Shape{}) || many != 0 || count != 0 {
		t.Errorf("%s: %.300q has %v, %d, %d, %v", word, s, p, many, count, ok)
	}
}

// holdTable holds what is told of s to the row and the shape whose table it is.
func holdTable(t *testing.T, word string, s string, row []impl.Entry, p impl.Shape) {
	t.Helper()
	if back, ok := impl.ReadTable(s); !ok || !slices.Equal(back, row) {
		t.Fatalf("%s: %d entries, %v, not %d", word, len(back), ok, len(row))
	}
	users := usersByHand(row)
	shape, many, count, ok := impl.TableProps(s)
	if want := countByHand(countersByHand(users)); !ok || shape != p || many != int64(len(row)) || count != want {
		t.Fatalf("%s: %v, %d, %d, %v, not %v, %d, %d", word, shape, many, count, ok, p, len(row), want)
	}
	for _, user := range users[:min(len(users), 5)] {
		if !impl.TableMay(s, user) {
			t.Fatalf("%s: %q is denied", word, user)
		}
	}
	last := row[len(row)-1].Key
	code, value := impl.TableGet(s, last.User, last.Seq)
	if wantCode, wantValue := gotByHand(row, last.User, last.Seq); code != wantCode || value != wantValue {
		t.Fatalf("%s: %q is %d, %q", word, last.User, code, value)
	}
}

// holdTableRead holds what is told of s, which may be a table or none.
func holdTableRead(t *testing.T, word string, s string) bool {
	t.Helper()
	row, p, ok := tableRead(s)
	if ok {
		holdTable(t, word, s, row, p)
	} else if back, there := impl.ReadTable(s); there || back != nil {
		t.Fatalf("%s: ReadTable(%.300q) is %.200v, %v", word, s, back, there)
	}
	return ok
}

func noTable(t *testing.T, word string, row []impl.Entry, p impl.Shape) {
	t.Helper()
	if s, ok := impl.TableOf(row, p); ok || s != "" {
		t.Errorf("%s, %v: %.200q, %v", word, p, s, ok)
	}
}

func TestP10RowsComeBackFromTheirTables(t *testing.T) {
	for i, row := range manyRows() {
		for j, p := range rightShapes() {
			if len(row) > 100 && (i+j)%5 != 0 {
				continue
			}
			word := fmt.Sprint("row ", i, ", ", p)
			want := tableByHand(row, p)
			if len(want) > 60000 {
				noTable(t, word, row, p)
				notATable(t, word, want)
				continue
			}
			s, ok := impl.TableOf(row, p)
			if !ok || s != want {
				t.Fatalf("%s: %.300q, %v, not %.300q", word, s, ok, want)
			}
			holdTable(t, word, s, row, p)
		}
	}
}

func TestP10BytesOfATable(t *testing.T) {
	row := []impl.Entry{{Key: put("ab", 3), Value: "x"}, {Key: gone("ab", 3)}, {Key: put("b", 200), Value: "yz"}}
	first := "\x00\x0aab\x07\x00\x00\x00\x00\x00\x00\x00\x01x"
	gone := "\x0aab\x06\x00\x00\x00\x00\x00\x00\x00"
	last := "\x09b\x91\x01\x00\x00\x00\x00\x00\x00"
	end := zeros(4) + "\x01\x00\x00\x00" + "\x02\x00\x00\x00"
	registers := registersByHand([]string{"ab", "b"})
	for _, c := range []struct {
		size   int64
		blocks []string
		index  string
		behind string
	}{
		// The block of the first entry has 26 bytes: of Size 26 it is full, of Size 27 it takes one entry more.
		{26, []string{first + end, "\x00" + gone + "\x00" + "\x00" + last + "\x02yz" + end}, "\x00" + first[1:12] + "\x1f" + last, "\x4b\x00\x00\x00\x67\x00\x00\x00\x70\x00\x00\x00"},
		{27, []string{first + "\x02\x08" + gone[3:] + "\x00" + end, "\x00" + last + "\x02yz" + end}, "\x00" + gone + "\x2a" + last, "\x49\x00\x00\x00\x65\x00\x00\x00\x6e\x00\x00\x00"},
	} {
		want := ""
		for _, text := range append(c.blocks, c.index, zeros(4), "\x03"+registers+"\x02"+varByHand(uint64(c.size))+"\x00") {
			want += sectionByHand(text)
		}
		want += c.behind + "1JCL"
		if got, ok := impl.TableOf(row, shape(2, c.size, 0)); !ok || got != want {
			t.Errorf("size %d: %q, %v, not %q", c.size, got, ok, want)
		}
		holdTable(t, "by hand", want, row, shape(2, c.size, 0))
	}
}

func TestP10NoTablesOfWrongArguments(t *testing.T) {
	for i, row := range manyRows() {
		for _, p := range wrongShapes() {
			noTable(t, fmt.Sprint("row ", i), row, p)
		}
	}
	for _, p := range append(rightShapes(), wrongShapes()...) {
		noTable(t, "no row", nil, p)
		noTable(t, "an empty row", []impl.Entry{}, p)
		for i, row := range oddRows() {
			noTable(t, fmt.Sprint("odd row ", i), row, p)
		}
	}
}

// evenRow has so many entries that have 23 bytes each in a block when each begins anew.
func evenRow(size int) []impl.Entry {
	var row []impl.Entry
	for i := range size {
		row = append(row, impl.Entry{Key: put(fmt.Sprintf("u%03d", i), 5), Value: "four"})
	}
	return row
}

func TestP10BlocksEndWhereTheyHaveSizeBytes(t *testing.T) {
	// Of n such entries a block has 23 n + 8 bytes: of four 100.
	for _, c := range []struct {
		entries int
		size    int64
		parts   []int
	}{
		{1, 20, []int{1}}, {1, 31, []int{1}}, {1, 32, []int{1}}, {1, 4000, []int{1}},
		{2, 31, []int{1, 1}}, {2, 32, []int{2}}, {3, 32, []int{2, 1}}, {3, 54, []int{2, 1}}, {3, 55, []int{3}},
		{4, 99, []int{4}}, {4, 100, []int{4}}, {4, 101, []int{4}}, {5, 99, []int{4, 1}}, {5, 100, []int{4, 1}}, {5, 101, []int{5}},
		{8, 100, []int{4, 4}}, {8, 77, []int{3, 3, 2}}, {9, 100, []int{4, 4, 1}}, {10, 101, []int{5, 5}}, {11, 101, []int{5, 5, 1}},
		{173, 3987, []int{173}}, {174, 3987, []int{173, 1}}, {346, 3987, []int{173, 173}}, {346, 3988, []int{174, 172}},
		{174, 4000, []int{174}}, {175, 4000, []int{174, 1}}, {400, 4000, []int{174, 174, 52}}, {348, 4000, []int{174, 174}},
	} {
		row := evenRow(c.entries)
		var parts [][]impl.Entry
		for rest := row; len(rest) > 0; rest = rest[c.parts[len(parts)-1]:] {
			parts = append(parts, rest[:c.parts[len(parts)]])
		}
		for kind := range int64(2) {
			p := shape(1, c.size, kind)
			want := draftOf(parts, p)
			if block := want.blocks[0]; len(block) != 23*c.parts[0]+8 {
				t.Fatal("the test is wrong", len(block))
			}
			s, ok := impl.TableOf(row, p)
			if !ok || s != want.text() {
				t.Errorf("%d entries, %v: %d bytes, %v, not %d", c.entries, p, len(s), ok, len(want.text()))
			}
			holdTable(t, fmt.Sprint(c.entries, " entries, ", p), want.text(), row, p)
		}
	}
}

// filledTable is a row whose table has just so many bytes. What is tried is the
// value of the last entry alone, so that no block ends elsewhere for it.
func filledTable(t *testing.T, p impl.Shape, bytes int) []impl.Entry {
	t.Helper()
	rowOf := func(size int, value int) []impl.Entry {
		row := wideRow(size, value)
		row[size-1].Value = strings.Repeat("v", 200)
		return row
	}
	for value := 200; value >= 128; value-- {
		size := 1 + sort.Search(400, func(i int) bool { return len(tableByHand(rowOf(i+1, value), p)) >= bytes })
		row := rowOf(size, value)
		spare := len(tableByHand(row, p)) - bytes
		if spare >= 0 && spare <= 72 {
			row[size-1].Value = strings.Repeat("v", 200-spare)
			return row
		}
	}
	t.Fatal("no such row")
	return nil
}

func TestP10ATableHasAtMost60000Bytes(t *testing.T) {
	for _, p := range []impl.Shape{shape(1, 4000, 0), shape(16, 4000, 1), shape(4, 300, 2), shape(16, 20, 0)} {
		for _, bytes := range []int{59999, 60000, 60001} {
			row := filledTable(t, p, bytes)
			want := tableByHand(row, p)
			word := fmt.Sprint(p, ", ", bytes, " bytes")
			if len(want) != bytes {
				t.Fatal(word, len(want))
			}
			if bytes > 60000 {
				noTable(t, word, row, p)
				notATable(t, word, want)
				continue
			}
			if s, ok := impl.TableOf(row, p); !ok || s != want {
				t.Fatalf("%s: %d bytes, %v", word, len(s), ok)
			}
			holdTable(t, word, want, row, p)
		}
	}
	// The row of a table that is far too long may have a table of another shape.
	row := wideRow(220, 200)
	noTable(t, "small blocks", row, shape(1, 20, 0))
	notATable(t, "small blocks", tableByHand(row, shape(1, 20, 0)))
	if s, ok := impl.TableOf(row, shape(16, 4000, 0)); !ok || len(s) < 50000 {
		t.Error("great blocks", len(s), ok)
	}
	noTable(t, "all bytes that there are", wideRow(400, 200), shape(16, 4000, 0))
}

func TestP10WhatIsGotIsWhatTheRowHas(t *testing.T) {
	user := strings.Repeat("u", 40)
	rows := append(fewRows(), rowOf(orderedKeys()...), mixedRow(rand.New(rand.NewSource(30)), 300), []impl.Entry{
		{Key: gone("a", 9)}, {Key: put("a", 7), Value: "seven"}, {Key: put("a", 4), Value: "four"}, {Key: gone("a", 4)}, {Key: gone("a", 2)},
		{Key: put("b", 0), Value: ""}, {Key: gone(user, 8)}, {Key: put(user, 3), Value: "x"},
	})
	for i, row := range rows {
		p := shape(int64(1+i), int64(20+30*i), int64(i%3))
		s, ok := impl.TableOf(row, p)
		if !ok {
			t.Fatal(i)
		}
		hold := func(user string, seq int64) {
			t.Helper()
			code, value := impl.TableGet(s, user, seq)
			if wantCode, wantValue := gotByHand(row, user, seq); code != wantCode || value != wantValue {
				t.Fatalf("row %d: %q as of %d is %d, %q, not %d, %q", i, user, seq, code, value, wantCode, wantValue)
			}
		}
		for j, e := range row {
			if len(row) > 100 && j%9 > 1 {
				continue
			}
			for _, seq := range []int64{e.Key.Seq - 1, e.Key.Seq, e.Key.Seq + 1, 0, impl.MaxSeq} {
				hold(e.Key.User, seq)
			}
			hold(e.Key.User+"\x00", e.Key.Seq)
			hold(e.Key.User[1:], e.Key.Seq)
		}
		for _, user := range []string{"", "a", "zz", "\x00", "\xff", user, user + "u", strings.Repeat("u", 1000)} {
			for _, seq := range []int64{math.MinInt64, -1, 0, 5, impl.MaxSeq, impl.MaxSeq + 1, math.MaxInt64} {
				hold(user, seq)
			}
		}
	}
}

func TestP10TheFilterNeverSaysNoOfWhatIsThere(t *testing.T) {
	for i, row := range manyRows() {
		if len(row) > 20 && i%4 != 0 {
			continue
		}
		users := usersByHand(row)
		for kind := range int64(3) {
			s, ok := impl.TableOf(row, shape(16, 300, kind))
			if !ok {
				t.Fatal(i, kind)
			}
			for _, user := range users {
				if !impl.TableMay(s, user) {
					t.Fatalf("row %d, kind %d: %q", i, kind, user)
				}
			}
			f := filterByHand(users, kind)
			denied := 0
			for _, user := range append(usersOf("other", 100), "", strings.Repeat("u", 41)) {
				may := impl.TableMay(s, user)
				if may != impl.FilterMay(f, user) {
					t.Fatalf("row %d, kind %d: %q", i, kind, user)
				}
				if !may {
					denied++
				}
			}
			if (denied > 80) != (kind != 0) {
				t.Errorf("row %d, kind %d: %d of others are denied", i, kind, denied)
			}
		}
	}
}

func TestP10AnotherFilterThanTheOneAskedFor(t *testing.T) {
	for _, size := range []int{8, 40, 120} {
		for _, c := range []struct {
			seeds      []int64
			kind, seed int64
		}{
			{[]int64{0, 1, 2, 3}, 1, 0}, {[]int64{0, 1, 2}, 2, 3}, {[]int64{0}, 2, 1},
		} {
			users := slices.Compact(slices.Sorted(slices.Values(oddAt(size, c.seeds...))))
			users = append(users, usersOf("more", size-len(users))...)
			row := usersRow("x", users...)
			f := filterByHand(usersByHand(row), 2)
			if f.Kind != c.kind || c.kind == 2 && f.Seed < c.seed {
				t.Fatalf("the test is wrong: %d users, %v: %#v", len(users), c.seeds, f)
			}
			p := shape(3, 100, 2)
			s, ok := impl.TableOf(row, p)
			if want := tableByHand(row, p); !ok || s != want {
				t.Fatalf("%d users, %v: %.200q, %v, not %.200q", size, c.seeds, s, ok, want)
			}
			holdTable(t, "another filter", s, row, p)
			for _, user := range users {
				if !impl.TableMay(s, user) {
					t.Errorf("%q is denied", user)
				}
			}
			draft := draftOf(partsByHand(row, 3, 100), p)
			draft.filter = zeros(4)
			notATable(t, "no filter where one is asked for", draft.text())
		}
	}
}

// someTables are rows and shapes of tables that are short enough to turn each bit over.
func someTables() ([][]impl.Entry, []impl.Shape) {
	rows := [][]impl.Entry{
		{{Key: gone("a", 0)}},
		{{Key: put("a", 9), Value: "x"}, {Key: gone("a", 4)}, {Key: put("b", 7)}},
		rowOf(gone("a", 9), gone("a", 7), put("key", 6), put("key", 5), gone("key", 5), put("key1", 3), gone("kez", 3)),
		evenRow(5),
		longRow(9),
		longRow(24),
	}
	shapes := []impl.Shape{shape(1, 20, 1), shape(2, 26, 0), shape(3, 60, 2), shape(1, 100, 2), shape(16, 4000, 1), shape(2, 100, 2)}
	return rows, shapes
}

func TestP10WhatIsReadAsATableIsJustThatTable(t *testing.T) {
	rows, shapes := someTables()
	for i, row := range rows {
		p := shapes[i]
		s := tableByHand(row, p)
		word := fmt.Sprint("row ", i)
		holdTable(t, word, s, row, p)
		for cut := range len(s) {
			notATable(t, word+" cut", s[:cut])
			if cut > 0 {
				notATable(t, word+" cut ahead", s[cut:])
				notATable(t, word+" without a byte", s[:cut-1]+s[cut:])
			}
		}
		for _, more := range []string{"\x00", "x", "\xff", zeros(4), s[len(s)-16:], s} {
			notATable(t, word+" and more", s+more)
			notATable(t, word+" behind more", more+s)
			notATable(t, word+" with more ahead of its places", s[:len(s)-16]+more+s[len(s)-16:])
		}
		turned := []byte(s)
		for bit := range 8 * len(s) {
			turned[bit/8] ^= 1 << (bit % 8)
			notATable(t, word+" turned", string(turned))
			turned[bit/8] ^= 1 << (bit % 8)
		}
	}
}

// turnedOver visits text with each of its bits turned over, one at a time.
func turnedOver(text string, visit func(string)) {
	turned := []byte(text)
	for bit := range 8 * len(text) {
		turned[bit/8] ^= 1 << (bit % 8)
		visit(string(turned))
		turned[bit/8] ^= 1 << (bit % 8)
	}
}

func TestP10BitsTurnedOverWhoseSumsAreRight(t *testing.T) {
	rows, shapes := someTables()
	for i, row := range rows {
		p := shapes[i]
		draft := draftOf(partsByHand(row, int(p.Every), int(p.Size)), p)
		turnedOver(draft.index(), func(index string) { notATable(t, "index", draft.textWith(index)) })
		other := draft
		turnedOver(draft.filter, func(filter string) {
			other.filter = filter
			notATable(t, "filter", other.text())
		})
		other = draft
		turnedOver(draft.properties, func(properties string) {
			other.properties = properties
			holdTableRead(t, "properties", other.text())
		})
		for place := range draft.blocks {
			other = draft
			other.blocks = slices.Clone(draft.blocks)
			turnedOver(draft.blocks[place], func(block string) {
				other.blocks[place] = block
				holdTableRead(t, "block", other.text())
			})
		}
	}
}

func TestP10BlocksOfOtherParts(t *testing.T) {
	for _, row := range [][]impl.Entry{evenRow(9), longRow(12)} {
		for _, p := range []impl.Shape{shape(1, 100, 0), shape(2, 60, 1), shape(16, 100, 2)} {
			right := partsByHand(row, int(p.Every), int(p.Size))
			if draftOf(right, p).text() != tableByHand(row, p) || len(right) < 2 {
				t.Fatal("the test is wrong", len(right))
			}
			for first := 1; first < len(row); first++ {
				for second := first; second < len(row); second++ {
					parts := [][]impl.Entry{row[:first], row[first:]}
					if second > first {
						parts = [][]impl.Entry{row[:first], row[first:second], row[second:]}
					}
					same := slices.EqualFunc(parts, right, func(a, b []impl.Entry) bool { return len(a) == len(b) })
					if s := draftOf(parts, p).text(); !same {
						notATable(t, fmt.Sprint(p, " in parts at ", first, " and ", second), s)
					}
				}
			}
			notATable(t, "all in one", draftOf([][]impl.Entry{row}, p).text())
			var each [][]impl.Entry
			for place := range row {
				each = append(each, row[place:place+1])
			}
			notATable(t, "each alone", draftOf(each, p).text())
			// A block that has nothing, or is told by another every.
			for place := range len(right) + 1 {
				draft := draftOf(right, p)
				for _, block := range []string{"", fixedByHand(0) + fixedByHand(int(p.Every)), fixedByHand(0) + fixedByHand(1) + fixedByHand(int(p.Every)), "x"} {
					other := draft
					other.blocks = slices.Insert(slices.Clone(draft.blocks), place, block)
					other.lasts = slices.Insert(slices.Clone(draft.lasts), place, draft.lasts[min(place, len(draft.lasts)-1)])
					notATable(t, "a block that is none", other.text())
					other.lasts = draft.lasts
					notATable(t, "a block that is none, not in the index", other.text())
				}
				if place == len(right) {
					continue
				}
				for every := 1; every <= 16; every++ {
					other := draft
					other.blocks = slices.Clone(draft.blocks)
					other.blocks[place] = blockByHand(right[place], every)
					if every != int(p.Every) {
						notATable(t, "a block by another every", other.text())
					}
				}
			}
		}
	}
}

func TestP10AnIndexOfOtherBlocks(t *testing.T) {
	row := longRow(12)
	p := shape(2, 60, 1)
	right := partsByHand(row, 2, 60)
	draft := draftOf(right, p)
	places := draft.places()
	index := func(places []int, lasts []string) string {
		text := ""
		for i, last := range lasts {
			text += varByHand(uint64(places[i])) + textByHand(last)
		}
		return text
	}
	if draft.textWith(index(places, draft.lasts)) != tableByHand(row, p) {
		t.Fatal("the test is wrong")
	}
	for i := range right {
		for _, by := range []int{-1, 1, 128, 1 << 32} {
			other := slices.Clone(places)
			other[i] += by
			notATable(t, "another place", draft.textWith(index(other, draft.lasts)))
		}
		for _, k := range []impl.Key{right[i][0].Key, put("a", 1), gone(right[i][len(right[i])-1].Key.User, 3)} {
			other := slices.Clone(draft.lasts)
			other[i] = keyByHand(k)
			notATable(t, "another key", draft.textWith(index(places, other)))
		}
		for _, last := range []string{"", "x", draft.lasts[i] + "x", draft.lasts[i][1:], someText(70)} {
			other := slices.Clone(draft.lasts)
			other[i] = last
			notATable(t, "no key", draft.textWith(index(places, other)))
		}
		notATable(t, "one less", draft.textWith(index(slices.Delete(slices.Clone(places), i, i+1), slices.Delete(slices.Clone(draft.lasts), i, i+1))))
		notATable(t, "one twice", draft.textWith(index(slices.Insert(slices.Clone(places), i, places[i]), slices.Insert(slices.Clone(draft.lasts), i, draft.lasts[i]))))
	}
	whole := draft.index()
	for _, text := range []string{"", whole[1:], whole[:len(whole)-1], whole + "\x00", whole + "x", whole + whole, "\x80" + whole, "\x80\x00" + whole[1:]} {
		notATable(t, "another index", draft.textWith(text))
	}
	slices.Reverse(draft.lasts)
	notATable(t, "the other way round", draft.textWith(index(places, draft.lasts)))
}

func TestP10FiltersAndPropertiesOfOtherRows(t *testing.T) {
	row := longRow(24)
	users := usersByHand(row)
	for _, p := range []impl.Shape{shape(2, 100, 0), shape(2, 100, 1), shape(2, 100, 2), shape(16, 4000, 2)} {
		draft := draftOf(partsByHand(row, int(p.Every), int(p.Size)), p)
		holdTable(t, "as it is", draft.text(), row, p)
		other := draft
		few, _ := impl.BloomOf(users, 9)
		filters := []impl.Filter{few}
		for kind := range int64(3) {
			filters = append(filters, filterByHand(users, kind), filterByHand(users[1:], kind), filterByHand(append(slices.Clone(users), "x"), kind))
		}
		for seed := range int64(4) {
			if bits, ok := ribbonByHand(users, seed); ok {
				filters = append(filters, impl.Filter{Kind: 2, Seed: seed, Bits: bits})
			}
		}
		texts := []string{"", "x", draft.filter + "\x00", draft.filter[1:], draft.filter[:len(draft.filter)-1], "\x80" + draft.filter}
		for _, f := range filters {
			texts = append(texts, filterText(f))
		}
		for _, text := range texts {
			if other.filter = text; text != draft.filter {
				notATable(t, fmt.Sprint("another filter, ", p), other.text())
			}
		}
		other = draft
		registers := countersByHand(users)
		texts = []string{"", "x", draft.properties + "\x00", draft.properties + "x", draft.properties[1:], draft.properties[:len(draft.properties)-1], "\x98\x00" + draft.properties[1:],
			draft.properties[:len(draft.properties)-1] + string([]byte{byte(p.Kind) | 0x80, 0})}
		for _, entries := range []int{0, 1, 23, 25, 400, 24 + 1<<32} {
			texts = append(texts, propertiesByHand(entries, registers, p))
		}
		for _, registers := range []string{"", zeros(64), registers[1:], registers + "\x00", someBytes(64, 58), someBytes(64, 255), countersByHand(users[1:])} {
			texts = append(texts, propertiesByHand(24, registers, p))
		}
		for _, q := range append(wrongShapes(), shape(p.Every%16+1, p.Size, p.Kind), shape(p.Every, 20, p.Kind), shape(p.Every, 2000, p.Kind)) {
			texts = append(texts, propertiesByHand(24, registers, q))
		}
		for _, text := range texts {
			other.properties = text
			// All 24 entries are in one block by Size 4000 and by 2000.
			if text != propertiesByHand(24, registers, shape(16, 2000, 2)) {
				notATable(t, fmt.Sprint("other properties, ", p), other.text())
			}
		}
		for kind := range int64(3) {
			other.properties = propertiesByHand(24, registers, shape(p.Every, p.Size, kind))
			if kind != p.Kind {
				notATable(t, fmt.Sprint("another kind, ", p), other.text())
			}
		}
	}
}

func TestP10OneRowMayHaveTheBlocksOfMoreThanOneSize(t *testing.T) {
	row := evenRow(8)
	// Three entries have 77 bytes, four have 100: blocks of four are those of Size 78 to 100.
	for size := int64(20); size <= 200; size++ {
		draft := draftOf([][]impl.Entry{row[:4], row[4:]}, shape(1, size, 1))
		s := draft.text()
		if ok := holdTableRead(t, "two blocks of four", s); ok != (size >= 78 && size <= 100) {
			t.Errorf("size %d: %v", size, ok)
		}
	}
}

func TestP10SectionsAndPlaces(t *testing.T) {
	row := longRow(12)
	p := shape(2, 60, 1)
	draft := draftOf(partsByHand(row, 2, 60), p)
	s := draft.text()
	blocks := s[:draft.places()[len(draft.blocks)]]
	sections := []string{sectionByHand(draft.index()), sectionByHand(draft.filter), sectionByHand(draft.properties)}
	// table has sections in that order, their places as told.
	table := func(order []int, told []int, gaps [4]string) string {
		text := blocks + gaps[0]
		places := [3]int{}
		for i, part := range order {
			places[part] = len(text)
			text += sections[part] + gaps[1+i]
		}
		for _, part := range told {
			text += fixedByHand(places[part])
		}
		return text + "1JCL"
	}
	if table([]int{0, 1, 2}, []int{0, 1, 2}, [4]string{}) != s {
		t.Fatal("the test is wrong")
	}
	for _, order := range [][]int{{0, 1, 2}, {0, 2, 1}, {1, 0, 2}, {1, 2, 0}, {2, 0, 1}, {2, 1, 0}} {
		for _, told := range [][]int{{0, 1, 2}, {0, 2, 1}, {1, 0, 2}, {1, 2, 0}, {2, 0, 1}, {2, 1, 0}, {0, 0, 0}, {2, 2, 2}, {0, 1, 1}, {0, 1}, {0, 1, 2, 2}, {}} {
			for gap := range 5 {
				gaps := [4]string{}
				for _, text := range []string{"", "\x00", zeros(5), sectionByHand(""), sections[0], sections[2]} {
					if gap > 0 {
						gaps[gap-1] = text
					}
					if other := table(order, told, gaps); other != s {
						notATable(t, fmt.Sprint("sections in the order ", order, " told as ", told), other)
					}
				}
			}
		}
	}
	end := len(s) - 16
	for place := range 4 {
		was := int(binary.LittleEndian.Uint32([]byte(s[end+4*place:])))
		for _, other := range []int{0, 1, was - 1, was + 1, end, len(s), len(s) + 1, was + 1<<31, math.MaxUint32, 1 << 31} {
			if other != was {
				notATable(t, "another place", s[:end+4*place]+fixedByHand(other)+s[end+4*place+4:])
			}
		}
	}
	for _, other := range []string{"LCJ1", zeros(4), "1JCM", "\xff\xff\xff\xff"} {
		notATable(t, "another end", s[:len(s)-4]+other)
	}
	notATable(t, "twice", s+s)
	notATable(t, "the end alone", s[end:])
	notATable(t, "no block", draft.textWith("")[len(blocks):])
	// A length by one more group than it needs, all places right.
	first := sectionByHand(draft.blocks[0])
	if len(draft.blocks[0]) > 127 {
		t.Fatal("the test is wrong")
	}
	moved := tableDraft{blocks: draft.blocks[1:], filter: draft.filter, properties: draft.properties}
	long := string([]byte{first[0] | 0x80, 0}) + first[1:]
	index := "\x00" + textByHand(draft.lasts[0])
	for i, last := range draft.lasts[1:] {
		index += varByHand(uint64(draft.places()[i+1]+1)) + textByHand(last)
	}
	rest := moved.textWith(index)
	places := ""
	for place := range 3 {
		places += fixedByHand(int(binary.LittleEndian.Uint32([]byte(rest[len(rest)-16+4*place:]))) + len(long))
	}
	notATable(t, "a group that is not needed", long+rest[:len(rest)-16]+places+"1JCL")
}

func TestP10TablesOfRowsAndShapesThatAreNotRight(t *testing.T) {
	p := shape(2, 60, 1)
	swapped := longRow(12)
	right := partsByHand(swapped, 2, 60)
	notATable(t, "blocks in another order", draftOf([][]impl.Entry{right[1], right[0]}, p).text())
	notATable(t, "a block twice", draftOf([][]impl.Entry{right[0], right[0]}, p).text())
	notATable(t, "an entry twice", tableByHand([]impl.Entry{swapped[0], swapped[0], swapped[1]}, p))
	notATable(t, "401 entries", tableByHand(longRow(401), p))
	holdTable(t, "400 entries", tableByHand(longRow(400), p), longRow(400), p)
	for i, row := range oddRows() {
		if inBytes(row) {
			notATable(t, fmt.Sprint("odd row ", i), tableByHand(row, p))
		}
	}
	row := longRow(12)
	for _, p := range []impl.Shape{shape(17, 60, 1), shape(18, 60, 1), shape(2, 19, 1), shape(2, 1, 1), shape(2, 0, 1), shape(16, 4001, 1), shape(16, 5000, 0)} {
		notATable(t, "a shape that is not right", tableByHand(row, p))
	}
	for _, kind := range []int64{3, -1, 1 << 32} {
		draft := draftOf(partsByHand(row, 2, 60), p)
		draft.properties = propertiesByHand(12, countersByHand(usersByHand(row)), shape(2, 60, kind))
		for wanted := range int64(3) {
			draft.filter = filterText(filterByHand(usersByHand(row), wanted))
			notATable(t, "a kind that is none", draft.text())
		}
	}
	empty := tableDraft{filter: zeros(4), properties: propertiesByHand(0, zeros(64), shape(2, 60, 0))}
	notATable(t, "no entry", empty.text())
	empty.blocks, empty.lasts = []string{fixedByHand(0) + fixedByHand(2)}, []string{""}
	notATable(t, "a block without an entry", empty.text())
}

func TestP10BytesThatAreNoTable(t *testing.T) {
	for _, s := range []string{"", "x", "1JCL", zeros(15), zeros(12) + "1JCL", zeros(16), zeros(1000), zeros(1000) + "1JCL", someText(60000), someText(61000) + "1JCL", strings.Repeat("\xff", 12) + "1JCL",
		fixedByHand(1) + fixedByHand(2) + fixedByHand(3) + "1JCL", fixedByHand(12) + fixedByHand(12) + fixedByHand(12) + "1JCL", blockByHand(longRow(3), 2), strings.Repeat("1JCL", 20)} {
		notATable(t, "none", s)
	}
	r := rand.New(rand.NewSource(31))
	s := tableByHand(longRow(12), shape(2, 60, 1))
	for range 3000 {
		data := []byte(s)
		for range 1 + r.Intn(4) {
			begin, end := r.Intn(len(data)), r.Intn(len(data))
			copy(data[begin:], data[end:end+r.Intn(min(20, len(data)-end))])
		}
		holdTableRead(t, "any", string(data))
		r.Read(data[:r.Intn(len(data))])
		holdTableRead(t, "any", string(data))
	}
}

func TestP10RowsAndTablesStayAsTheyAre(t *testing.T) {
	room := append(rowOf(put("a", 5), put("b", 3), gone("c", 1)), rowOf(put("m", 9), gone("n", 1))...)
	before := slices.Clone(room)
	p := shape(2, 20, 2)
	s, _ := impl.TableOf(room[:3], p)
	first, _ := impl.ReadTable(s)
	spoil := first[:cap(first)]
	for i := range spoil {
		spoil[i] = impl.Entry{Value: "spoilt"}
	}
	holdTable(t, "again", s, before[:3], p)
	if again, ok := impl.TableOf(room[:3], p); !ok || again != s || !slices.Equal(room, before) {
		t.Errorf("%q, %v", again, room)
	}
}

func TestP10AnswersHangOnNoOtherCall(t *testing.T) {
	rows := manyRows()[4:24]
	want := map[int]string{}
	for i, row := range rows {
		want[i] = tableByHand(row, shape(3, 60, int64(i%3)))
	}
	var group sync.WaitGroup
	same := make([]bool, 16)
	for i := range same {
		group.Go(func() {
			same[i] = true
			for j, row := range rows {
				s, ok := impl.TableOf(row, shape(3, 60, int64(j%3)))
				back, fine := impl.ReadTable(s)
				_, none := impl.ReadTable(s[1:])
				same[i] = same[i] && ok && fine && !none && s == want[j] && slices.Equal(back, row)
			}
		})
	}
	group.Wait()
	if slices.Contains(same, false) {
		t.Error(same)
	}
}
