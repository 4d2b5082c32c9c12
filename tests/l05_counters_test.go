package tests

import (
	"fmt"
	"math/big"
	"math/rand"
	"slices"
	"strings"
	"testing"

	"loop.example/g00214/impl"
)

func TestP5Limits(t *testing.T) {
	if impl.HllRegs != 64 || impl.HllMost != 58 {
		t.Error(impl.HllRegs, impl.HllMost)
	}
}

// registerByHand is the register that user comes to, and the rank, read off
// the bits of the hash as they are written down.
func registerByHand(user string) (int, byte) {
	digits := fmt.Sprintf("%064b", hashByHand(7, user))
	var place int
	fmt.Sscanf(digits[58:], "%b", &place)
	upper := digits[:58]
	zeros := len(upper) - len(strings.TrimRight(upper, "0"))
	return place, byte(min(zeros+1, 58))
}

func registersByHand(users []string) string {
	text := make([]byte, 64)
	for _, user := range users {
		place, rank := registerByHand(user)
		text[place] = max(text[place], rank)
	}
	return string(text)
}

// highUsers come to one register each with a rank that few users have. The
// last one has no bit of 1 at all in what its rank is counted in.
var highUsers = []struct {
	user  string
	place int
	rank  byte
}{
	{"fzglkclwgdwvveqalmjslfnsaasvm", 10, 16},
	{"txrxnpytaqespldprwmrjwiaavtjb", 3, 31},
	{"txnxjsdbppfqnmtcktwcfwojnuizw", 7, 32},
	{"dyhuiddzwtgnlnyxihjjzahlbgxvc", 12, 33},
	{"pdplahxpoiuoyeeeqbcagxzhogswd", 3, 39},
	{"cedgrmudlsltwhgzvipkspnwrontm", 9, 40},
	{"uewpinoglepemjretelgablvzfwkp", 1, 41},
	{"pdzeunocinhjgonmhchqejcnwjrnv", 3, 56},
	{"daxgqqqurrlewoxcfxqucounlbnpc", 31, 57},
	{"cbyywezbpzklwrxeqnijqocdwpvou", 16, 58},
	{"cnxtmolsnyueigtwzioavgvrfaeeb", 7, 58},
}

func TestP5RanksOfAllHeights(t *testing.T) {
	lowest := strings.Repeat("\x00", 64)
	for _, c := range highUsers {
		want := []byte(lowest)
		want[c.place] = c.rank
		if got := impl.HllAdd(lowest, c.user); got != string(want) {
			t.Errorf("%q: %q, not %q", c.user, got, want)
		}
		if got := impl.HllOf([]string{c.user}); got != string(want) {
			t.Errorf("%q alone: %q, not %q", c.user, got, want)
		}
	}
	if place, rank := registerByHand("cnxtmolsnyueigtwzioavgvrfaeeb"); hashByHand(7, "cnxtmolsnyueigtwzioavgvrfaeeb") != 7 || place != 7 || rank != 58 {
		t.Error("a user without a bit of 1", place, rank)
	}
	ranks := map[byte]bool{}
	for _, user := range usersOf("rank", 3000) {
		place, rank := registerByHand(user)
		ranks[rank] = true
		want := []byte(lowest)
		want[place] = rank
		if got := impl.HllAdd(lowest, user); got != string(want) {
			t.Fatalf("%q: %q, not %q", user, got, want)
		}
	}
	for rank := byte(1); rank < 9; rank++ {
		if !ranks[rank] {
			t.Error("no user of rank", rank)
		}
	}
}

func TestP5RegistersHaveTheGreatestRankOfTheirUsers(t *testing.T) {
	for _, size := range []int{0, 1, 2, 3, 10, 63, 64, 65, 200, 399, 400} {
		for _, users := range [][]string{usersOf("user", size), oddUsers(int64(size), size)} {
			want := registersByHand(users)
			if got := impl.HllOf(users); got != want {
				t.Fatalf("of %d users: %q, not %q", size, got, want)
			}
			slices.Reverse(users)
			if got := impl.HllOf(users); got != want {
				t.Fatalf("of %d users from the last one on: %q, not %q", size, got, want)
			}
		}
	}
	if impl.HllOf(nil) != strings.Repeat("\x00", 64) || impl.HllOf([]string{}) != impl.HllOf(nil) {
		t.Errorf("%q", impl.HllOf(nil))
	}
}

func TestP5UsersOfRegistersAreRight(t *testing.T) {
	none := impl.HllOf(nil)
	for _, size := range []int{0, 1, 2, 39, 40, 41, 100} {
		user := strings.Repeat("u", size)
		ok := size >= 1 && size <= 40
		want := ""
		if ok {
			want = registersByHand([]string{user})
		}
		if got := impl.HllAdd(none, user); got != want {
			t.Errorf("a user of %d bytes: %q", size, got)
		}
		if got := impl.HllOf([]string{user}); got != want {
			t.Errorf("a list with a user of %d bytes: %q", size, got)
		}
		for place := range 3 {
			users := slices.Insert([]string{"a", "b"}, place, user)
			if got := impl.HllOf(users); (got != "") != ok {
				t.Errorf("a user of %d bytes at %d: %q", size, place, got)
			}
		}
	}
	for _, size := range []int{401, 402, 1000} {
		if got := impl.HllOf(usersOf("u", size)); got != "" {
			t.Errorf("of %d users: %q", size, got)
		}
	}
}

// noRegisters are texts that are none.
func noRegisters() []string {
	list := []string{"", "x", someBytes(63, 0), someBytes(65, 0), someBytes(128, 0), someBytes(63, 58), someBytes(65, 58), someBytes(64, 59), someBytes(64, 0xff)}
	for place := range 64 {
		for _, b := range []byte{59, 60, 64, 127, 128, 255} {
			h := []byte(someBytes(64, 0))
			h[place] = b
			list = append(list, string(h))
		}
	}
	return list
}

// someRegisters are right ones of all kinds.
func someRegisters() []string {
	r := rand.New(rand.NewSource(5))
	list := []string{impl.HllOf(nil)}
	for rank := range byte(59) {
		list = append(list, someBytes(64, rank))
		one := []byte(someBytes(64, 0))
		one[r.Intn(64)] = rank
		list = append(list, string(one))
	}
	for most := 1; most <= 58; most++ {
		for zeros := range 4 {
			h := make([]byte, 64)
			for i := range h {
				if r.Intn(4) >= zeros {
					h[i] = byte(r.Intn(most + 1))
				}
			}
			list = append(list, string(h))
		}
	}
	for _, size := range []int{1, 5, 40, 100, 200, 400} {
		list = append(list, impl.HllOf(oddUsers(int64(size), size)))
	}
	return list
}

func TestP5RegistersAre64BytesOfAtMost58(t *testing.T) {
	right := impl.HllOf([]string{"a"})
	for _, h := range noRegisters() {
		if impl.HllOk(h) {
			t.Errorf("%q is right", h)
		}
		if got := impl.HllAdd(h, "a"); got != "" {
			t.Errorf("%q and a user: %q", h, got)
		}
		if impl.HllMerge(h, right) != "" || impl.HllMerge(right, h) != "" || impl.HllMerge(h, h) != "" {
			t.Errorf("%q is put together with others", h)
		}
		if got := impl.HllCount(h); got != -1 {
			t.Errorf("%q counts %d", h, got)
		}
	}
	for _, h := range someRegisters() {
		if !impl.HllOk(h) || impl.HllAdd(h, "a") == "" || impl.HllMerge(h, right) == "" || impl.HllCount(h) < 0 {
			t.Errorf("%q is not right", h)
		}
	}
}

func TestP5PutTogetherTheyAreThoseOfBothLists(t *testing.T) {
	lists := [][]string{nil, {"a"}, {"a", "a"}, usersOf("few", 20), usersOf("many", 199), oddUsers(11, 200), oddUsers(12, 60)}
	for _, first := range lists {
		for _, second := range lists {
			a, b := impl.HllOf(first), impl.HllOf(second)
			want := impl.HllOf(slices.Concat(first, second))
			if got := impl.HllMerge(a, b); got != want {
				t.Fatalf("%d and %d users: %q, not %q", len(first), len(second), got, want)
			}
			if got := impl.HllMerge(b, a); got != want {
				t.Fatalf("%d and %d users the other way round: %q, not %q", len(first), len(second), got, want)
			}
			for _, part := range []string{a, b, want} {
				if got := impl.HllMerge(want, part); got != want {
					t.Fatalf("%d and %d users once more: %q, not %q", len(first), len(second), got, want)
				}
			}
		}
	}
}

func TestP5EachRegisterIsTheGreaterOne(t *testing.T) {
	list := someRegisters()
	for i, a := range list {
		for _, b := range list[max(0, i-20):] {
			want := []byte(a)
			for k := range want {
				want[k] = max(want[k], b[k])
			}
			if got := impl.HllMerge(a, b); got != string(want) {
				t.Fatalf("%q and %q: %q", a, b, got)
			}
		}
	}
}

func TestP5OneUserMoreLowersNone(t *testing.T) {
	users := append(usersOf("more", 60), "cbyywezbpzklwrxeqnijqocdwpvou", "uewpinoglepemjretelgablvzfwkp")
	for _, h := range someRegisters() {
		for _, user := range users {
			place, rank := registerByHand(user)
			want := []byte(h)
			want[place] = max(want[place], rank)
			got := impl.HllAdd(h, user)
			if got != string(want) {
				t.Fatalf("%q and %q: %q, not %q", h, user, got, want)
			}
			if again := impl.HllAdd(got, user); again != got {
				t.Fatalf("%q and %q twice: %q", h, user, again)
			}
		}
	}
}

// countByHand works HllCount out in whole numbers of any greatness.
func countByHand(h string) int64 {
	sum := new(big.Int)
	zeros := int64(0)
	for _, r := range []byte(h) {
		sum.Add(sum, new(big.Int).Lsh(big.NewInt(1), uint(40-min(r, 40))))
		if r == 0 {
			zeros++
		}
	}
	raw := new(big.Int).Lsh(big.NewInt(709*4096), 40)
	raw.Div(raw, sum.Mul(sum, big.NewInt(1000)))
	if zeros == 0 || raw.Cmp(big.NewInt(160)) > 0 {
		return raw.Int64()
	}
	few := int64(0)
	for k := int64(64); k > zeros; k-- {
		few += 64000 / k
	}
	return few / 1000
}

// mixed is registers of which so many have a rank each, all others the last one.
func mixed(ranks ...int) string {
	var h []byte
	for i := 0; i+1 < len(ranks); i += 2 {
		h = append(h, someBytes(ranks[i], byte(ranks[i+1]))...)
	}
	return string(h)
}

func TestP5CountsOfFewAndOfMany(t *testing.T) {
	cases := []struct {
		h    string
		want int64
	}{
		{mixed(64, 0), 0},
		{mixed(63, 0, 1, 1), 1},
		{mixed(63, 0, 1, 58), 1},
		{mixed(62, 0, 2, 1), 2},
		{mixed(32, 0, 32, 1), 43},
		{mixed(18, 0, 46, 9), 79},
		{mixed(18, 0, 46, 11), 161},
		{mixed(1, 0, 35, 1, 28, 12), 239},
		{mixed(1, 0, 63, 1), 239},
		{mixed(1, 0, 34, 1, 29, 8), 239},
		{mixed(1, 0, 34, 1, 29, 40), 161},
		{mixed(64, 1), 90},
		{mixed(64, 2), 181},
		{mixed(64, 3), 363},
		{mixed(28, 1, 32, 3, 4, 6), 160},
		{mixed(28, 1, 32, 3, 4, 7), 161},
		{mixed(64, 39), 45376 << 39 / 1000},
		{mixed(64, 40), 45376 << 40 / 1000},
		{mixed(64, 41), 45376 << 40 / 1000},
		{mixed(64, 58), 45376 << 40 / 1000},
		{mixed(63, 40, 1, 41), 45376 << 40 / 1000},
		{mixed(1, 0, 63, 58), 2904},
	}
	for _, c := range cases {
		if got, want := impl.HllCount(c.h), countByHand(c.h); got != want {
			t.Errorf("%q counts %d, not %d", c.h, got, want)
		}
		if got := impl.HllCount(c.h); got != c.want {
			t.Errorf("%q counts %d, not %d", c.h, got, c.want)
		}
	}
}

func TestP5CountsOfAllKinds(t *testing.T) {
	for _, h := range someRegisters() {
		if got, want := impl.HllCount(h), countByHand(h); got != want {
			t.Fatalf("%q counts %d, not %d", h, got, want)
		}
	}
	for zeros := range 65 {
		for rank := 1; rank <= 58; rank++ {
			for half := 0; half <= 64-zeros; half += 8 {
				h := mixed(zeros, 0, half, rank, 64-zeros-half, 1+rank%9)
				if got, want := impl.HllCount(h), countByHand(h); got != want {
					t.Fatalf("%q counts %d, not %d", h, got, want)
				}
			}
		}
	}
	if got := impl.HllCount(impl.HllOf(usersOf("user", 400))); got < 300 || got > 500 {
		t.Error("400 users count", got)
	}
}

func TestP5UsersOfCountersAreNotWrittenInto(t *testing.T) {
	users := append(make([]string, 0, 20), "c", "a", "b", "a")
	spare := users[:20]
	before := slices.Clone(spare)
	first := impl.HllOf(users)
	if second := impl.HllOf(users); !slices.Equal(spare, before) || first != second {
		t.Error(spare, first, second)
	}
}
