package tests

import (
	"encoding/binary"
	"hash/crc32"
	"math"
	"math/rand"
	"strings"
	"sync"
	"testing"

	"loop.example/g00214/impl"
)

// behinds stand behind what is taken; some of them look like more of it.
var behinds = []string{"", "\x00", "\x80", "\x01", "abc", "\xff\xff\xff\xff\xff\xff\xff\xff\xff\xff\xff"}

func TestP1Limits(t *testing.T) {
	if impl.MaxText != 60000 {
		t.Error(impl.MaxText)
	}
}

// numbers are those at each power of two, and some in between.
func numbers() []uint64 {
	list := []uint64{0, math.MaxUint64}
	for bit := range 64 {
		n := uint64(1) << bit
		list = append(list, n-1, n, n+1)
	}
	r := rand.New(rand.NewSource(1))
	for range 2000 {
		list = append(list, r.Uint64()>>r.Intn(64))
	}
	return list
}

func TestP1NumbersComeBack(t *testing.T) {
	for _, n := range numbers() {
		s := impl.PutVar(n)
		if s != string(binary.AppendUvarint(nil, n)) {
			t.Fatalf("PutVar(%d) is %q", n, s)
		}
		for _, behind := range behinds {
			if back, rest, ok := impl.TakeVar(s + behind); !ok || back != n || rest != behind {
				t.Fatalf("TakeVar(%q) is %d, %q, %v", s+behind, back, rest, ok)
			}
		}
	}
}

func TestP1GroupsAreAsFewAsHoldTheNumber(t *testing.T) {
	for groups := 1; groups <= 10; groups++ {
		least := uint64(1) << (7 * (groups - 1))
		most := least<<7 - 1
		if groups == 1 {
			least = 0
		}
		if groups == 10 {
			most = math.MaxUint64
		}
		if len(impl.PutVar(least)) != groups || len(impl.PutVar(most)) != groups {
			t.Errorf("%d groups: %q, %q", groups, impl.PutVar(least), impl.PutVar(most))
		}
	}
}

func TestP1NumbersThatAreNone(t *testing.T) {
	nines := strings.Repeat("\xff", 9)
	wrong := []string{
		"",
		"\x80",
		"\x80\x00", "\x81\x00", "\xff\x00", "\x80\x80\x00", "\xff\xff\x00",
		strings.Repeat("\x80", 9) + "\x00",
		nines + "\x00",
		nines + "\x02", nines + "\x03", nines + "\x7f",
		nines, nines + "\xff", nines + "\x81",
		nines + "\xff\x01", nines + "\x81\x01", nines + "\x80\x00",
		strings.Repeat("\x80", 10) + "\x01",
		strings.Repeat("\x80", 100),
	}
	for _, s := range wrong {
		if n, rest, ok := impl.TakeVar(s); ok || n != 0 || rest != "" {
			t.Errorf("TakeVar(%q) is %d, %q, %v", s, n, rest, ok)
		}
	}
	right := map[string]uint64{
		"\x00\x00":                             0,
		"\x7f":                                 127,
		"\x80\x01":                             128,
		nines + "\x01":                         math.MaxUint64,
		strings.Repeat("\x80", 9) + "\x01":     1 << 63,
		strings.Repeat("\xff", 8) + "\x7f":     1<<63 - 1,
		strings.Repeat("\x80", 9) + "\x01\x80": 1 << 63,
	}
	for s, n := range right {
		if back, _, ok := impl.TakeVar(s); !ok || back != n {
			t.Errorf("TakeVar(%q) is %d, %v", s, back, ok)
		}
	}
}

// shortTexts calls visit with each text of up to two bytes, and with texts of
// up to twelve bytes that are near the ends of the groups.
func shortTexts(visit func(string)) {
	visit("")
	for a := range 256 {
		visit(string([]byte{byte(a)}))
		for b := range 256 {
			visit(string([]byte{byte(a), byte(b)}))
		}
	}
	edges := "\x00\x01\x02\x03\x7f\x80\x81\xff"
	r := rand.New(rand.NewSource(2))
	for range 50000 {
		data := make([]byte, r.Intn(13))
		for i := range data {
			data[i] = edges[r.Intn(len(edges))]
			if i+3 < len(data) {
				data[i] |= 0x80
			}
		}
		visit(string(data))
	}
}

func TestP1WhatIsTakenHasJustItsBytes(t *testing.T) {
	shortTexts(func(s string) {
		if n, rest, ok := impl.TakeVar(s); ok && impl.PutVar(n)+rest != s {
			t.Fatalf("TakeVar(%q) is %d, %q", s, n, rest)
		}
		if x, rest, ok := impl.TakeFixed(s); ok && impl.PutFixed(x)+rest != s {
			t.Fatalf("TakeFixed(%q) is %d, %q", s, x, rest)
		}
		if text, rest, ok := impl.TakeText(s); ok && impl.PutText(text)+rest != s {
			t.Fatalf("TakeText(%q) is %q, %q", s, text, rest)
		}
	})
}

// The library reads groups that are not needed, too; else both must agree.
func TestP1TakeVarTellsWhatTheLibraryTells(t *testing.T) {
	shortTexts(func(s string) {
		want, size := binary.Uvarint([]byte(s))
		wantOk := size > 0 && len(binary.AppendUvarint(nil, want)) == size
		n, rest, ok := impl.TakeVar(s)
		if ok != wantOk || ok && (n != want || rest != s[size:]) || !ok && (n != 0 || rest != "") {
			t.Fatalf("TakeVar(%q) is %d, %q, %v", s, n, rest, ok)
		}
	})
}

func TestP1FixedComeBack(t *testing.T) {
	for _, n := range numbers() {
		for _, x := range []uint32{uint32(n), uint32(n >> 32)} {
			s := impl.PutFixed(x)
			if s != string(binary.LittleEndian.AppendUint32(nil, x)) {
				t.Fatalf("PutFixed(%d) is %q", x, s)
			}
			for _, behind := range behinds {
				if back, rest, ok := impl.TakeFixed(s + behind); !ok || back != x || rest != behind {
					t.Fatalf("TakeFixed(%q) is %d, %q, %v", s+behind, back, rest, ok)
				}
			}
		}
	}
	for _, s := range []string{"", "a", "ab", "abc", "\x00\x00\x00"} {
		if x, rest, ok := impl.TakeFixed(s); ok || x != 0 || rest != "" {
			t.Errorf("TakeFixed(%q) is %d, %q, %v", s, x, rest, ok)
		}
	}
}

func TestP1TextsComeBack(t *testing.T) {
	for _, size := range []int{0, 1, 2, 127, 128, 129, 16383, 16384, impl.MaxText - 1, impl.MaxText} {
		text := strings.Repeat("\x80k", size/2+1)[:size]
		s := impl.PutText(text)
		if s != impl.PutVar(uint64(size))+text {
			t.Fatalf("%d bytes: PutText begins with %q", size, s[:min(len(s), 12)])
		}
		for _, behind := range behinds {
			if back, rest, ok := impl.TakeText(s + behind); !ok || back != text || rest != behind {
				t.Fatalf("%d bytes and %q behind: %d bytes, %q, %v", size, behind, len(back), rest, ok)
			}
		}
		for cut := range min(len(s), 20) {
			if back, rest, ok := impl.TakeText(s[:len(s)-cut-1]); ok || back != "" || rest != "" {
				t.Fatalf("%d bytes, %d are not there: %d bytes, %q, %v", size, cut+1, len(back), rest, ok)
			}
		}
	}
}

func TestP1TextsThatAreNone(t *testing.T) {
	tooLong := strings.Repeat("x", impl.MaxText+1)
	if impl.PutText(tooLong) != impl.PutVar(impl.MaxText+1)+tooLong {
		t.Error("PutText knows no limit")
	}
	wrong := []string{
		"", "\x01", "\x02a", "\x80", "\x80\x00", "\x81\x00a",
		impl.PutText(tooLong),
		impl.PutText(tooLong) + "more",
		impl.PutVar(1<<31) + "a", impl.PutVar(1<<32) + "a", impl.PutVar(1<<32+1) + "a",
		impl.PutVar(1<<63) + "a", impl.PutVar(1<<63+1) + "a", impl.PutVar(math.MaxUint64) + "a",
	}
	for _, s := range wrong {
		if text, rest, ok := impl.TakeText(s); ok || text != "" || rest != "" {
			t.Errorf("TakeText(%.20q) is %.20q, %.20q, %v", s, text, rest, ok)
		}
	}
}

func TestP1SumsAreThoseOfTheLibrary(t *testing.T) {
	if impl.Crc("123456789") != 0xe3069283 || impl.Crc("") != 0 {
		t.Error(impl.Crc("123456789"), impl.Crc(""))
	}
	table := crc32.MakeTable(crc32.Castagnoli)
	r := rand.New(rand.NewSource(3))
	for size := range 600 {
		data := make([]byte, size)
		r.Read(data)
		if impl.Crc(string(data)) != crc32.Checksum(data, table) {
			t.Fatalf("%q", data)
		}
	}
}

func TestP1OneBitTurnedOverHasAnotherSum(t *testing.T) {
	r := rand.New(rand.NewSource(4))
	for _, size := range []int{1, 2, 3, 4, 5, 8, 57, 64, 300} {
		data := make([]byte, size)
		r.Read(data)
		sum := impl.Crc(string(data))
		for bit := range 8 * size {
			data[bit/8] ^= 1 << (bit % 8)
			if impl.Crc(string(data)) == sum {
				t.Fatalf("bit %d of %d bytes", bit, size)
			}
			data[bit/8] ^= 1 << (bit % 8)
		}
	}
}

// sameBothWays holds the sum that is worked out bit by bit against the one by the table.
func sameBothWays(t *testing.T, data string) {
	t.Helper()
	if plain, byTable := impl.Crc(data), impl.CrcByTable(data); plain != byTable {
		t.Fatalf("of %.40q Crc is %x, CrcByTable %x", data, plain, byTable)
	}
}

func TestP1BothWaysToASumTellTheSame(t *testing.T) {
	if impl.CrcByTable("123456789") != 0xe3069283 || impl.CrcByTable("") != 0 {
		t.Error(impl.CrcByTable("123456789"), impl.CrcByTable(""))
	}
	sameBothWays(t, "")
	for one := range 256 {
		sameBothWays(t, string([]byte{byte(one)}))
		sameBothWays(t, string([]byte{0, byte(one)}))
		sameBothWays(t, string([]byte{byte(one), 0xff}))
	}
	r := rand.New(rand.NewSource(5))
	for _, size := range []int{3, 4, 7, 8, 57, 63, 64, 65, 300, 4000, impl.MaxText} {
		data := make([]byte, size)
		sameBothWays(t, string(data))
		for range 10 {
			r.Read(data)
			sameBothWays(t, string(data))
		}
	}
}

func TestP1SumsAreTheSameWhoeverAsksFirst(t *testing.T) {
	var group sync.WaitGroup
	sums := make([]uint32, 32)
	for i := range sums {
		group.Go(func() {
			sums[i] = impl.Crc("123456789")
			if i%2 == 1 {
				sums[i] = impl.CrcByTable("123456789")
			}
		})
	}
	group.Wait()
	for i, sum := range sums {
		if sum != 0xe3069283 {
			t.Errorf("sum %d is %x", i, sum)
		}
	}
}
