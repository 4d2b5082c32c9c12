package tests

import (
	"encoding/binary"
	"fmt"
	"hash/crc32"
	"math"
	"math/rand"
	"slices"
	"strings"
	"testing"

	"loop.example/g00214/impl"
)

func TestP7Limits(t *testing.T) {
	if impl.LogBlock != 64 || impl.MaxRecord != 8000 || impl.MaxRecords != 500 || impl.MaxBatch != 20 {
		t.Error(impl.LogBlock, impl.MaxRecord, impl.MaxRecords, impl.MaxBatch)
	}
	if impl.LgFull != 1 || impl.LgFirst != 2 || impl.LgMiddle != 3 || impl.LgLast != 4 {
		t.Error(impl.LgFull, impl.LgFirst, impl.LgMiddle, impl.LgLast)
	}
}

var castagnoli = crc32.MakeTable(crc32.Castagnoli)

// fragment is one of that kind with that piece.
func fragment(kind byte, piece string) string {
	body := string([]byte{byte(len(piece)), kind}) + piece
	return string(binary.LittleEndian.AppendUint32(nil, crc32.Checksum([]byte(body), castagnoli))) + body
}

func zeros(size int) string {
	return strings.Repeat("\x00", size)
}

// someText is a text of so many bytes that does not begin anew after a few.
func someText(size int) string {
	var text strings.Builder
	for i := 0; text.Len() < size; i++ {
		fmt.Fprintf(&text, "%d,", i)
	}
	return text.String()[:size]
}

// writtenByHand is what WriteLog is to answer.
func writtenByHand(at int64, record string) string {
	text := ""
	left := 64 - int(at%64)
	for ; left < 7; left = 64 {
		text += zeros(left)
	}
	var pieces []string
	for {
		size := min(left-6, len(record))
		pieces = append(pieces, record[:size])
		if record = record[size:]; record == "" {
			break
		}
		left = 64
	}
	for i, piece := range pieces {
		kinds := [2][2]byte{{3, 4}, {2, 1}}
		first, last := 0, 0
		if i == 0 {
			first = 1
		}
		if i == len(pieces)-1 {
			last = 1
		}
		text += fragment(kinds[first][last], piece)
	}
	return text
}

// logOf is a log of the records, and the place behind each.
func logOf(records ...string) (string, []int) {
	data, ends := "", []int(nil)
	for _, record := range records {
		data += impl.WriteLog(int64(len(data)), record)
		ends = append(ends, len(data))
	}
	return data, ends
}

// readByHand is what ReadLog is to answer.
func readByHand(data string) ([]string, int64) {
	var records []string
	open, isOpen := "", false
	at, end := 0, 0
	for len(records) < 500 {
		left := 64 - at%64
		if left < 7 {
			if !strings.HasPrefix(data[at:], zeros(left)) {
				break
			}
			at += left
			continue
		}
		if len(data) < at+6 || int(data[at+4]) > left-6 || len(data) < at+6+int(data[at+4]) {
			break
		}
		kind, piece := data[at+5], data[at+6:at+6+int(data[at+4])]
		at += 6 + len(piece)
		full := at%64 == 0
		if data[at-6-len(piece):at] != fragment(kind, piece) || len(open)+len(piece) > 8000 {
			break
		}
		if kind == 1 && !isOpen {
			records, end = append(records, piece), at
		} else if kind == 2 && !isOpen && full {
			open, isOpen = piece, true
		} else if kind == 3 && isOpen && full {
			open += piece
		} else if kind == 4 && isOpen && piece != "" {
			records, end = append(records, open+piece), at
			open, isOpen = "", false
		} else {
			break
		}
	}
	return records, int64(end)
}

// holdRead holds ReadLog to what is told by hand, and to what WriteLog makes of it.
func holdRead(t *testing.T, word string, data string) ([]string, int64) {
	t.Helper()
	records, place := impl.ReadLog(data)
	wantRecords, wantPlace := readByHand(data)
	if !slices.Equal(records, wantRecords) || place != wantPlace {
		t.Fatalf("%s: %d records to %d, not %d to %d: %.300q", word, len(records), place, len(wantRecords), wantPlace, data)
	}
	if again, _ := logOf(records...); int64(len(again)) != place || data[:place] != again {
		t.Fatalf("%s: %d records have other bytes: %.300q", word, len(records), data)
	}
	return records, place
}

func TestP7WhatIsWritten(t *testing.T) {
	places := []int64{57, 58, 63, 64, 1 << 31, 1<<31 + 57, 1<<32 + 58, 1 << 40, math.MaxInt64, math.MaxInt64 - 1, math.MaxInt64 - 6, math.MaxInt64 - 7}
	for at := range int64(200) {
		places = append(places, at)
	}
	sizes := []int{7941, 7942, 7943, 7999, 8000}
	for size := range 190 {
		sizes = append(sizes, size)
	}
	for _, at := range places {
		for _, size := range sizes {
			record := someText(size)
			if got, want := impl.WriteLog(at, record), writtenByHand(at, record); got != want {
				t.Fatalf("at %d, %d bytes: %.300q, not %.300q", at, size, got, want)
			}
		}
	}
}

func TestP7BytesOfLogs(t *testing.T) {
	whole, more := someText(58), someText(59)
	for _, c := range []struct {
		at     int64
		record string
		want   string
	}{
		{0, "", "\xd1\xf4\x0a\x03\x00\x01"},
		{0, "abc", fragment(1, "abc")},
		{0, whole[:57], fragment(1, whole[:57])},
		{0, whole, fragment(1, whole)},
		{0, more, fragment(2, more[:58]) + fragment(4, more[58:])},
		{57, "", fragment(1, "")},
		{57, "a", fragment(1, "a")},
		{57, "ab", fragment(2, "a") + fragment(4, "b")},
		{58, "", zeros(6) + fragment(1, "")},
		{58, "a", zeros(6) + fragment(1, "a")},
		{63, "", zeros(1) + fragment(1, "")},
		{63, more, zeros(1) + fragment(2, more[:58]) + fragment(4, more[58:])},
		{64, whole, fragment(1, whole)},
		{57, more, fragment(2, more[:1]) + fragment(4, more[1:])},
		{57, more + "x", fragment(2, more[:1]) + fragment(3, more[1:]) + fragment(4, "x")},
		{6400000058, "a", zeros(6) + fragment(1, "a")},
		{math.MaxInt64, "a", zeros(1) + fragment(1, "a")},
		{math.MaxInt64 - 6, "ab", fragment(2, "a") + fragment(4, "b")},
	} {
		if got := impl.WriteLog(c.at, c.record); got != c.want {
			t.Errorf("at %d, %q: %q, not %q", c.at, c.record, got, c.want)
		}
	}
}

func TestP7WhatIsNotWritten(t *testing.T) {
	for _, at := range []int64{-1, -6, -7, -64, math.MinInt64, math.MinInt64 + 1} {
		for _, record := range []string{"", "a", someText(8000), someText(8001)} {
			if got := impl.WriteLog(at, record); got != "" {
				t.Errorf("at %d: %.20q", at, got)
			}
		}
	}
	for _, at := range []int64{0, 1, 57, 58, 63, 64, math.MaxInt64} {
		for _, size := range []int{8001, 8002, 8064, 100000} {
			if got := impl.WriteLog(at, someText(size)); got != "" {
				t.Errorf("at %d, %d bytes: %.20q", at, size, got)
			}
		}
		if got := impl.WriteLog(at, someText(8000)); len(got) < 8000+6*138 {
			t.Errorf("at %d, 8000 bytes: %d", at, len(got))
		}
	}
}

// someLogs are lists of records of all kinds.
func someLogs() [][]string {
	lists := [][]string{
		nil, {""}, {"", "", ""}, slices.Repeat([]string{""}, 30), slices.Repeat([]string{"a"}, 30),
		{someText(57)}, {someText(58)}, {someText(59)}, {someText(58), someText(58), ""}, {someText(52), "", "x"},
		{"abc", someText(100), "", someText(116), "x"},
		{someText(116), someText(174), someText(117), someText(175)},
	}
	// Logs of one record whose end is at each place of a block, and one more behind it.
	for size := range 70 {
		lists = append(lists, []string{someText(size), "more"}, []string{someText(size), ""}, []string{someText(size), someText(60)})
	}
	r := rand.New(rand.NewSource(7))
	for range 60 {
		var list []string
		for range r.Intn(8) {
			list = append(list, someText(r.Intn(1+r.Intn(150))))
		}
		lists = append(lists, list)
	}
	return lists
}

func TestP7RecordsComeBack(t *testing.T) {
	lists := append(someLogs(), []string{someText(8000)}, []string{"a", someText(7999), someText(8000), "", someText(7942)}, slices.Repeat([]string{someText(8000)}, 20))
	for _, list := range lists {
		data, _ := logOf(list...)
		records, place := holdRead(t, "written", data)
		if !slices.Equal(records, list) || place != int64(len(data)) {
			t.Fatalf("%.200q: %.200q, %d of %d", list, records, place, len(data))
		}
	}
}

// firstOf is how many records end at or ahead of a place, and where they do.
func firstOf(ends []int, place int) (int, int64) {
	many := 0
	for many < len(ends) && ends[many] <= place {
		many++
	}
	if many == 0 {
		return 0, 0
	}
	return many, int64(ends[many-1])
}

func TestP7ALogThatIsCutHasTheFirstFew(t *testing.T) {
	for _, list := range someLogs() {
		data, ends := logOf(list...)
		for cut := range len(data) + 1 {
			many, end := firstOf(ends, cut)
			records, place := holdRead(t, "cut", data[:cut])
			if !slices.Equal(records, list[:many]) || place != end {
				t.Fatalf("%q cut at %d: %q, %d", list, cut, records, place)
			}
		}
	}
}

// lengths are the places of a log's bytes that tell a length.
func lengths(data string) map[int]bool {
	places := map[int]bool{}
	for at := 0; at < len(data); at += 6 + int(data[at+4]) {
		if left := 64 - at%64; left < 7 {
			at += left
		}
		places[at+4] = true
	}
	return places
}

func TestP7OneBitTurnedOverBringsNoOtherRecord(t *testing.T) {
	for i, list := range someLogs() {
		if i > 12 && i%7 != 0 {
			continue
		}
		data, ends := logOf(list...)
		long := lengths(data)
		turned := []byte(data)
		for bit := range 8 * len(data) {
			turned[bit/8] ^= 1 << (bit % 8)
			many, end := firstOf(ends, bit/8)
			records, place := holdRead(t, "turned", string(turned))
			if len(records) < many || !slices.Equal(records[:many], list[:many]) {
				t.Fatalf("%q: bit %d took what stands ahead: %q", list, bit, records)
			}
			if !long[bit/8] && (len(records) != many || place != end) {
				t.Fatalf("%q: bit %d brought %q", list, bit, records)
			}
			turned[bit/8] ^= 1 << (bit % 8)
		}
	}
}

// A readCase is what is told of data.
type readCase struct {
	data    string
	records []string
	place   int64
}

func holdCases(t *testing.T, cases []readCase) {
	t.Helper()
	for i, c := range cases {
		records, place := holdRead(t, fmt.Sprint("case ", i), c.data)
		if !slices.Equal(records, c.records) || place != c.place {
			t.Errorf("case %d, %q: %q, %d", i, c.data, records, place)
		}
	}
}

func TestP7FragmentsThatEndALog(t *testing.T) {
	a, b := someText(58), someText(60)[2:]
	badSum := "\x00" + fragment(1, "abc")[1:]
	holdCases(t, []readCase{
		{"", nil, 0},
		{zeros(5), nil, 0}, {zeros(6), nil, 0}, {zeros(64), nil, 0}, {zeros(200), nil, 0},
		{strings.Repeat("\xff", 64), nil, 0},
		// Each kind alone, and what is none.
		{fragment(0, "abc"), nil, 0}, {fragment(1, "abc"), []string{"abc"}, 9}, {fragment(5, "abc"), nil, 0}, {fragment(255, "abc"), nil, 0}, {fragment(129, "abc"), nil, 0},
		{fragment(3, a), nil, 0}, {fragment(4, a), nil, 0}, {fragment(4, ""), nil, 0}, {fragment(2, a), nil, 0}, {fragment(0, a), nil, 0},
		{fragment(1, "x") + fragment(0, "abc") + fragment(1, "y"), []string{"x"}, 7},
		{fragment(1, "x") + fragment(5, "") + fragment(1, "y"), []string{"x"}, 7},
		// Sums.
		{badSum, nil, 0}, {fragment(1, "x") + badSum + fragment(1, "y"), []string{"x"}, 7},
		{fragment(2, a) + fragment(4, "y")[:6] + "z", nil, 0},
		// Within an open record, or outside.
		{fragment(2, a) + fragment(4, "y"), []string{a + "y"}, 71},
		{fragment(2, a) + fragment(1, "y"), nil, 0},
		{fragment(2, a) + fragment(1, b), nil, 0},
		{fragment(2, a) + fragment(2, b) + fragment(4, "y"), nil, 0},
		{fragment(2, a) + fragment(3, b) + fragment(4, "y"), []string{a + b + "y"}, 135},
		{fragment(2, a) + fragment(3, b) + fragment(1, "y"), nil, 0},
		{fragment(2, a) + fragment(4, b) + fragment(4, "y"), []string{a + b}, 128},
		{fragment(2, a) + fragment(4, b) + fragment(3, a) + fragment(4, "y"), []string{a + b}, 128},
		{fragment(2, a) + fragment(4, b) + fragment(1, "y"), []string{a + b, "y"}, 135},
		{fragment(2, a) + fragment(4, b) + fragment(2, a) + fragment(4, "y"), []string{a + b, a + "y"}, 128 + 71},
		{fragment(1, "x") + fragment(4, "y"), []string{"x"}, 7},
		{fragment(1, a) + fragment(3, b) + fragment(4, "y"), []string{a}, 64},
		// First and middle ones that do not fill their block.
		{fragment(2, a[:57]) + fragment(4, "y"), nil, 0}, {fragment(2, a[:57]) + "\x00" + fragment(4, "y"), nil, 0}, {fragment(2, "") + fragment(4, "y"), nil, 0},
		{fragment(2, a) + fragment(3, b[:57]) + fragment(4, "y"), nil, 0}, {fragment(2, a) + fragment(3, b[:57]) + "\x00" + fragment(4, "y"), nil, 0},
		{fragment(2, a) + fragment(3, "") + fragment(4, "y"), nil, 0},
		{fragment(1, a[:51]) + fragment(2, "z") + fragment(4, "y"), []string{a[:51], "zy"}, 71},
		{fragment(1, a[:50]) + fragment(2, "z") + fragment(4, "y"), []string{a[:50]}, 56},
		{fragment(1, a[:50]) + fragment(2, "z") + "\x00" + fragment(4, "y"), []string{a[:50]}, 56},
		// Last ones without a byte, with one, with as many as there is room for.
		{fragment(2, a) + fragment(4, ""), nil, 0}, {fragment(1, "x") + fragment(2, a[:51]) + fragment(4, "") + fragment(1, "y"), []string{"x"}, 7},
		{fragment(2, a) + fragment(4, b), []string{a + b}, 128}, {fragment(2, a) + fragment(4, b[:57]), []string{a + b[:57]}, 127},
	})
}

func TestP7BlocksThatEndALog(t *testing.T) {
	a := someText(58)
	holdCases(t, []readCase{
		// Fragments beyond the end of their block, or of the data.
		{fragment(1, a+"z"), nil, 0}, {fragment(1, a+"z") + fragment(1, "y"), nil, 0}, {fragment(1, someText(255)), nil, 0},
		{fragment(1, "x") + fragment(1, a), []string{"x"}, 7}, {fragment(1, a[:51]) + fragment(1, "zy"), []string{a[:51]}, 57},
		{fragment(2, a+"z") + fragment(4, "y"), nil, 0}, {fragment(2, someText(122)) + fragment(4, "y"), nil, 0},
		{fragment(2, a) + fragment(4, a+"z"), nil, 0}, {fragment(2, a) + fragment(3, someText(122)) + fragment(4, "y"), nil, 0},
		{fragment(1, "abc")[:8], nil, 0}, {fragment(1, "")[:5], nil, 0}, {fragment(1, "x") + fragment(1, "abc")[:8], []string{"x"}, 7},
		// 7 bytes are left, and 6.
		{fragment(1, a[:51]) + fragment(1, ""), []string{a[:51], ""}, 63}, {fragment(1, a[:51]) + fragment(1, "z"), []string{a[:51], "z"}, 64},
		{fragment(1, a[:52]) + fragment(1, ""), []string{a[:52]}, 58}, {fragment(1, a[:52]) + zeros(6) + fragment(1, ""), []string{a[:52], ""}, 70},
		{fragment(1, a[:51]) + zeros(7) + fragment(1, ""), []string{a[:51]}, 57},
		// What is left of a block is not 0, or not all there.
		{fragment(1, a[:52]) + "\x00\x00\x00\x00\x00\x01" + fragment(1, ""), []string{a[:52]}, 58},
		{fragment(1, a[:52]) + "\x80\x00\x00\x00\x00\x00" + fragment(1, ""), []string{a[:52]}, 58},
		{fragment(1, a[:52]) + "\x00\x00\x00\x00\x00 " + fragment(1, ""), []string{a[:52]}, 58},
		{fragment(1, a[:57]) + "\x00" + fragment(1, ""), []string{a[:57], ""}, 70}, {fragment(1, a[:57]) + "0" + fragment(1, ""), []string{a[:57]}, 63},
		{fragment(1, a[:52]) + zeros(5) + fragment(1, ""), []string{a[:52]}, 58}, {fragment(1, a[:52]) + zeros(5), []string{a[:52]}, 58},
		{fragment(1, a[:52]) + zeros(6), []string{a[:52]}, 58}, {fragment(1, a[:52]) + zeros(7), []string{a[:52]}, 58},
		{fragment(1, a[:57]) + "\x00", []string{a[:57]}, 63}, {fragment(1, a[:57]), []string{a[:57]}, 63},
		{fragment(1, a[:57]) + "\x00\x00" + fragment(1, ""), []string{a[:57]}, 63},
		// The place is the one behind the last whole record.
		{fragment(1, "x") + fragment(2, a[:51]), []string{"x"}, 7}, {fragment(1, "x") + fragment(2, a[:51]) + fragment(3, a) + fragment(4, "y")[:6], []string{"x"}, 7},
		{fragment(1, a) + fragment(2, a) + fragment(3, a) + fragment(3, a), []string{a}, 64},
	})
}

func TestP7BytesAtTheEndOfABlock(t *testing.T) {
	for left := 1; left <= 6; left++ {
		begin := fragment(1, someText(58-left))
		for place := range left {
			for b := 1; b < 256; b++ {
				gap := []byte(zeros(left))
				gap[place] = byte(b)
				if records, end := holdRead(t, "a gap", begin+string(gap)+fragment(1, "y")); len(records) != 1 || end != int64(64-left) {
					t.Fatalf("%q: %q, %d", gap, records, end)
				}
			}
		}
	}
}

func TestP7ARecordHasAtMost8000Bytes(t *testing.T) {
	a := someText(58)
	most := fragment(1, "x") + fragment(2, a[:51])
	for range 137 {
		most += fragment(3, a)
	}
	// 51 and 137 times 58 bytes are 7997.
	for _, c := range []struct {
		tail string
		many int
	}{
		{fragment(4, "yz"), 2}, {fragment(4, "xyz"), 2}, {fragment(4, "wxyz"), 1}, {fragment(4, a), 1}, {fragment(3, a) + fragment(4, "y"), 1}, {fragment(3, a), 1}, {"", 1},
	} {
		records, place := holdRead(t, "long", most+c.tail+fragment(1, "behind"))
		if c.many == 1 && (len(records) != 1 || place != 7) {
			t.Errorf("%.9q: %d records, %d", c.tail, len(records), place)
		}
		if c.many == 2 && (len(records) != 3 || len(records[1]) != 7991+len(c.tail)) {
			t.Errorf("%.9q: %d records, %d", c.tail, len(records), place)
		}
	}
	whole, _ := logOf(someText(8000), "x", someText(8000))
	if records, place := holdRead(t, "two", whole); len(records) != 3 || place != int64(len(whole)) {
		t.Error(len(records), place)
	}
	endless := fragment(2, a) + strings.Repeat(fragment(3, a), 3000) + fragment(4, "y")
	if records, place := holdRead(t, "endless", endless); len(records) != 0 || place != 0 {
		t.Error(len(records), place)
	}
}

func TestP7ALogHasAtMost500Records(t *testing.T) {
	for _, many := range []int{499, 500, 501, 502, 1000} {
		var list []string
		for i := range many {
			list = append(list, someText(i%80))
		}
		for _, tail := range []string{"", "rubbish", zeros(70)} {
			data, ends := logOf(list...)
			records, place := holdRead(t, "many", data+tail)
			if want := min(many, 500); !slices.Equal(records, list[:want]) || place != int64(ends[want-1]) {
				t.Errorf("%d written: %d, %d", many, len(records), place)
			}
		}
	}
	data, _ := logOf(slices.Repeat([]string{"x"}, 500)...)
	for _, tail := range []string{fragment(2, someText(28)), fragment(1, ""), fragment(4, "y")} {
		if records, place := holdRead(t, "many", data+tail); len(records) != 500 || place != int64(len(data)) {
			t.Errorf("%q behind 500: %d, %d", tail, len(records), place)
		}
	}
}

// oddLog is made of fragments that mostly may stand where they do.
func oddLog(r *rand.Rand) string {
	data, open := "", false
	slip := func() bool { return r.Intn(25) == 0 }
	for range r.Intn(12) {
		left := 64 - len(data)%64
		if left < 7 && !slip() {
			data += zeros(left)
			left = 64
		}
		kind, size := byte(1), r.Intn(max(left-5, 1))
		if r.Intn(2) == 0 {
			kind, size = 2, max(left-6, 0)
		}
		if open {
			kind += 2
			if kind == 3 {
				kind, size = 4, max(size, 1)
			} else {
				kind = 3
			}
		}
		if slip() {
			kind = byte(r.Intn(6))
		}
		if slip() {
			size = r.Intn(70)
		}
		made := []byte(fragment(kind, someText(size)))
		if slip() {
			made[r.Intn(len(made))] ^= 1 << r.Intn(8)
		}
		data += string(made)
		open = kind == 2 || kind == 3
	}
	if slip() {
		return data[:r.Intn(len(data)+1)]
	}
	return data
}

func TestP7WhatIsReadHasJustItsBytes(t *testing.T) {
	r := rand.New(rand.NewSource(8))
	many := map[int]int{}
	for range 100000 {
		data := oddLog(r)
		records, place := holdRead(t, "odd", data)
		many[len(records)]++
		if place == int64(len(data)) {
			many[-1]++
		}
	}
	for _, size := range []int{-1, 0, 1, 2, 5, 9} {
		if many[size] < 100 {
			t.Error(size, many)
		}
	}
	for range 20000 {
		data := make([]byte, r.Intn(200))
		r.Read(data)
		holdRead(t, "rubbish", string(data))
	}
}

func TestP7RecordsAreNewMemory(t *testing.T) {
	data, _ := logOf("a", someText(100), "")
	first, _ := impl.ReadLog(data)
	before := slices.Clone(first)
	spare := first[:cap(first)]
	for i := range spare {
		spare[i] = "spoilt"
	}
	if again, _ := impl.ReadLog(data); !slices.Equal(again, before) {
		t.Error(again)
	}
	if impl.WriteLog(9, "abc") != impl.WriteLog(9, "abc") {
		t.Error("two answers")
	}
}

func set(user string, value string) impl.Op {
	return impl.Op{Kind: impl.KdPut, User: user, Value: value}
}

func del(user string) impl.Op {
	return impl.Op{Kind: impl.KdDelete, User: user}
}

func sameBatch(a impl.Batch, b impl.Batch) bool {
	return a.Seq == b.Seq && slices.Equal(a.Ops, b.Ops)
}

// manyOps are so many ops, put and deleted, some of one user.
func manyOps(size int) []impl.Op {
	var ops []impl.Op
	for i := range size {
		user := fmt.Sprintf("user%d", i*7%11)
		if i%3 == 1 {
			ops = append(ops, del(user))
		} else {
			ops = append(ops, set(user, someText(i)))
		}
	}
	return ops
}

func rightBatches() []impl.Batch {
	user, value := strings.Repeat("u", 40), strings.Repeat("v", 200)
	list := []impl.Batch{
		{Seq: 300, Ops: []impl.Op{set("b", "x"), del("a")}},
		{Seq: 5, Ops: []impl.Op{set("a", "1"), set("a", "2"), del("a"), set("a", "3")}},
		{Seq: 5, Ops: []impl.Op{set("c", ""), set("\x00", "\x00"), set("\xff", "\xff"), set("", "x")}[:3]},
		{Seq: 9, Ops: slices.Repeat([]impl.Op{set(user, value)}, 20)},
		{Seq: 9, Ops: slices.Repeat([]impl.Op{del(user)}, 20)},
	}
	for _, seq := range []int64{1, 2, 127, 128, 16383, 16384, 1 << 31, 1 << 32, impl.MaxSeq - 21, impl.MaxSeq - 20} {
		for _, size := range []int{1, 2, 3, 19, 20} {
			list = append(list, impl.Batch{Seq: seq, Ops: manyOps(size)})
		}
	}
	return list
}

func wrongBatches() []impl.Batch {
	ops := manyOps(3)
	list := []impl.Batch{
		{}, {Seq: 1}, {Seq: 1, Ops: []impl.Op{}},
		{Seq: 1, Ops: manyOps(21)}, {Seq: 1, Ops: manyOps(22)}, {Seq: 1, Ops: manyOps(148)}, {Seq: 1, Ops: manyOps(276)},
	}
	for _, seq := range []int64{-1, 0, math.MinInt64, impl.MaxSeq - 19, impl.MaxSeq - 3, impl.MaxSeq, impl.MaxSeq + 1, math.MaxInt64 - 1, math.MaxInt64} {
		list = append(list, impl.Batch{Seq: seq, Ops: ops}, impl.Batch{Seq: seq, Ops: ops[:1]})
	}
	wrong := []impl.Op{
		set("", "x"), del(""), set(strings.Repeat("u", 41), "x"), del(strings.Repeat("u", 41)),
		set("a", strings.Repeat("v", 201)), {Kind: impl.KdDelete, User: "a", Value: "x"}, {Kind: impl.KdDelete, User: "a", Value: "\x00"},
	}
	for _, kind := range []int64{-1, 2, 3, 255, 256, 257, 1 << 32, 1<<32 + 1, math.MinInt64, math.MaxInt64} {
		wrong = append(wrong, impl.Op{Kind: kind, User: "a"}, impl.Op{Kind: kind, User: "a", Value: "x"})
	}
	for _, op := range wrong {
		list = append(list, impl.Batch{Seq: 7, Ops: []impl.Op{op}})
		for place := range 4 {
			list = append(list, impl.Batch{Seq: 7, Ops: slices.Insert(slices.Clone(ops), place, op)})
		}
		list = append(list, impl.Batch{Seq: 7, Ops: append(manyOps(19), op)})
	}
	return list
}

// batchByHand is the text of a batch by what the document says, right or not.
func batchByHand(b impl.Batch) string {
	text := binary.AppendUvarint(nil, uint64(b.Seq))
	text = binary.AppendUvarint(text, uint64(len(b.Ops)))
	for _, op := range b.Ops {
		text = append(text, byte(op.Kind))
		text = append(binary.AppendUvarint(text, uint64(len(op.User))), op.User...)
		text = append(binary.AppendUvarint(text, uint64(len(op.Value))), op.Value...)
	}
	return string(text)
}

func TestP7BatchesComeBack(t *testing.T) {
	for i, b := range rightBatches() {
		if !impl.BatchOk(b) {
			t.Fatalf("%d is right: %v", i, b)
		}
		s := impl.BatchText(b)
		if s != batchByHand(b) {
			t.Fatalf("%d: %q", i, s)
		}
		if back, ok := impl.ReadBatch(s); !ok || !sameBatch(back, b) {
			t.Fatalf("%d: %v, %v", i, back, ok)
		}
	}
	b := impl.Batch{Seq: 300, Ops: []impl.Op{set("b", "x"), del("a")}}
	if s := impl.BatchText(b); s != "\xac\x02\x02\x01\x01b\x01x\x00\x01a\x00" {
		t.Errorf("%q", s)
	}
}

func TestP7BatchesThatAreNotRight(t *testing.T) {
	for i, b := range wrongBatches() {
		if impl.BatchOk(b) {
			t.Errorf("%d is right: %v", i, b)
		}
		if s := impl.BatchText(b); s != "" {
			t.Errorf("%d has a text: %q", i, s)
		}
		if row := impl.BatchEntries(b); len(row) != 0 {
			t.Errorf("%d has entries: %v", i, row)
		}
		fits := b.Seq >= 0
		for _, op := range b.Ops {
			fits = fits && op.Kind >= 0 && op.Kind < 256
		}
		if fits {
			notABatch(t, batchByHand(b))
		}
	}
}

func notABatch(t *testing.T, s string) {
	t.Helper()
	if b, ok := impl.ReadBatch(s); ok || !sameBatch(b, impl.Batch{}) {
		t.Errorf("ReadBatch(%.100q) is %v, %v", s, b, ok)
	}
}

func TestP7TextsThatAreNoBatches(t *testing.T) {
	for _, b := range rightBatches() {
		s := impl.BatchText(b)
		for cut := range len(s) {
			notABatch(t, s[:cut])
		}
		notABatch(t, "\x00"+s)
		for _, tail := range []string{"\x00", "x", "\x01\x01a\x00", s} {
			notABatch(t, s+tail)
		}
	}
	for _, s := range []string{
		"", "\x01", "\x01\x00", "\x00\x01\x01\x01a\x00",
		// Groups that are not needed, of each number.
		"\x85\x00\x01\x01\x01a\x01x", "\x05\x81\x00\x01\x01a\x01x", "\x05\x01\x81\x00\x01a\x01x", "\x05\x01\x01\x81\x00a\x01x", "\x05\x01\x01\x01a\x81\x00x",
		// More ops are told than there are, or fewer.
		"\x05\x02\x01\x01a\x01x", "\x05\x00\x01\x01a\x01x", "\x05\x15\x01\x01a\x01x", "\x05\x01\x01\x01a\x01x\x01\x01a\x01x",
		// A kind that is none, a delete with a value, no user.
		"\x05\x01\x02\x01a\x01x", "\x05\x01\xff\x01a\x01x", "\x05\x01\x00\x01a\x01x", "\x05\x01\x01\x00\x01x",
		// Numbers that are far too great.
		"\xff\xff\xff\xff\xff\xff\xff\xff\xff\x01\x01\x01\x01a\x01x", "\xff\xff\xff\xff\xff\xff\xff\xff\x7f\x01\x01\x01a\x01x", "\x85\x80\x80\x80\x80\x80\x80\x80\x80\x01\x01\x01\x01a\x01x",
		"\x05\xff\xff\xff\xff\xff\xff\xff\xff\xff\x01\x01\x01a\x01x", "\x05\xff\xff\xff\xff\xff\xff\xff\xff\x7f\x01\x01a\x01x", "\x05\x81\x80\x80\x80\x80\x80\x80\x80\x80\x01\x01\x01a\x01x",
		"\x05\x01\x01\xff\xff\xff\xff\xff\xff\xff\xff\xff\x01a\x01x",
	} {
		notABatch(t, s)
	}
	if b, ok := impl.ReadBatch("\x05\x01\x01\x01a\x01x"); !ok || !sameBatch(b, impl.Batch{Seq: 5, Ops: []impl.Op{set("a", "x")}}) {
		t.Error(b, ok)
	}
}

func TestP7WhatIsReadAsABatchHasJustItsBytes(t *testing.T) {
	taken := 0
	hold := func(s string) {
		b, ok := impl.ReadBatch(s)
		if ok && (!impl.BatchOk(b) || batchByHand(b) != s) || !ok && !sameBatch(b, impl.Batch{}) {
			t.Fatalf("ReadBatch(%q) is %v, %v", s, b, ok)
		}
		if ok {
			taken++
		}
	}
	for _, b := range rightBatches() {
		data := []byte(impl.BatchText(b))
		for bit := range 8 * min(len(data), 300) {
			data[bit/8] ^= 1 << (bit % 8)
			hold(string(data))
			data[bit/8] ^= 1 << (bit % 8)
		}
	}
	r := rand.New(rand.NewSource(9))
	edges := "\x00\x01\x01\x01\x02\x03a\x80"
	for range 200000 {
		data := make([]byte, r.Intn(20))
		for i := range data {
			data[i] = edges[r.Intn(len(edges))]
		}
		hold(string(data))
	}
	if taken < 1000 {
		t.Error("few batches were read:", taken)
	}
}

func TestP7EntriesOfABatchAreARightRow(t *testing.T) {
	for i, b := range rightBatches() {
		row := impl.BatchEntries(b)
		if !impl.EntriesOk(row) || len(row) != len(b.Ops) {
			t.Fatalf("%d: %v", i, row)
		}
		for place, op := range b.Ops {
			want := impl.Entry{Key: impl.Key{User: op.User, Seq: b.Seq + int64(place), Kind: op.Kind}, Value: op.Value}
			if !slices.Contains(row, want) {
				t.Fatalf("%d: %v is not in %v", i, want, row)
			}
		}
	}
	b := impl.Batch{Seq: 5, Ops: []impl.Op{set("b", "1"), set("a", "2"), del("b"), set("c", ""), set("b", "3")}}
	want := []impl.Entry{
		{Key: put("a", 6), Value: "2"},
		{Key: put("b", 9), Value: "3"}, {Key: gone("b", 7)}, {Key: put("b", 5), Value: "1"},
		{Key: put("c", 8)},
	}
	if row := impl.BatchEntries(b); !slices.Equal(row, want) {
		t.Error(row)
	}
}

func TestP7BatchesStayAsTheyAre(t *testing.T) {
	room := append(manyOps(5), set("mark", "1"), set("mark", "2"))
	before := slices.Clone(room)
	b := impl.Batch{Seq: 5, Ops: room[:5]}
	text := impl.BatchText(b)
	row, rowAgain := impl.BatchEntries(b), impl.BatchEntries(b)
	back, _ := impl.ReadBatch(text)
	backAgain, _ := impl.ReadBatch(text)
	impl.BatchOk(b)
	row, back.Ops = row[:cap(row)], back.Ops[:cap(back.Ops)]
	for i := range row {
		row[i] = impl.Entry{Value: "spoilt"}
	}
	for i := range back.Ops {
		back.Ops[i] = set("spoilt", "")
	}
	if !slices.Equal(room, before) {
		t.Error("an argument was written into", room)
	}
	if !slices.Equal(rowAgain, impl.BatchEntries(b)) || !sameBatch(backAgain, b) || impl.BatchText(b) != text {
		t.Error("an answer was kept")
	}
}
