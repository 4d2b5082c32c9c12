package tests

import (
	"fmt"
	"math"
	"math/big"
	"math/rand"
	"slices"
	"strings"
	"testing"

	"loop.example/g00214/impl"
)

func TestP3Limits(t *testing.T) {
	if impl.MaxProbes != 30 || impl.MaxBits != 8000 {
		t.Error(impl.MaxProbes, impl.MaxBits)
	}
	if impl.FtNone != 0 || impl.FtBloom != 1 || impl.FtRibbon != 2 {
		t.Error(impl.FtNone, impl.FtBloom, impl.FtRibbon)
	}
}

var twoTo64 = new(big.Int).Lsh(big.NewInt(1), 64)

// bigOf is a number of any greatness, told in decimal.
func bigOf(digits string) *big.Int {
	n, ok := new(big.Int).SetString(digits, 10)
	if !ok {
		panic(digits)
	}
	return n
}

// hashByHand works Hash out in whole numbers that do not wrap.
func hashByHand(seed uint32, s string) uint64 {
	mod := func(n *big.Int) *big.Int { return n.Mod(n, twoTo64) }
	h := mod(new(big.Int).Mul(big.NewInt(int64(seed)), bigOf("11400714819323198485")))
	h.Xor(h, bigOf("14695981039346656037"))
	for _, b := range []byte(s) {
		h.Xor(h, big.NewInt(int64(b)))
		h = mod(h.Mul(h, big.NewInt(1099511628211)))
	}
	h.Xor(h, new(big.Int).Rsh(h, 30))
	h = mod(h.Mul(h, bigOf("13787848793156543929")))
	h.Xor(h, new(big.Int).Rsh(h, 27))
	h = mod(h.Mul(h, bigOf("10723151780598845931")))
	h.Xor(h, new(big.Int).Rsh(h, 31))
	return h.Uint64()
}

// usersOf is so many users, each another one.
func usersOf(word string, size int) []string {
	users := make([]string, size)
	for i := range users {
		users[i] = fmt.Sprint(word, i)
	}
	return users
}

// oddUsers are of bytes and lengths of all kinds, a few of them alike.
func oddUsers(seed int64, size int) []string {
	r := rand.New(rand.NewSource(seed))
	users := make([]string, size)
	for i := range users {
		name := make([]byte, 1+r.Intn(impl.MaxUser))
		r.Read(name)
		users[i] = string(name)
		if i > 0 && r.Intn(10) == 0 {
			users[i] = users[r.Intn(i)]
		}
	}
	return users
}

func TestP3HashWrapsAt64Bits(t *testing.T) {
	texts := append(usersOf("user", 200), oddUsers(1, 200)...)
	texts = append(texts, "", "\x00", "\x00\x00", "\xff", "a", "b", strings.Repeat("\xfe", 300))
	for _, seed := range []uint32{0, 1, 2, 3, 7, 1 << 31, math.MaxUint32} {
		for _, text := range texts {
			if got, want := impl.Hash(seed, text), hashByHand(seed, text); got != want {
				t.Fatalf("Hash(%d, %q) is %d, not %d", seed, text, got, want)
			}
		}
	}
}

func TestP3UsersHaveBytesAndAreNotTooMany(t *testing.T) {
	for _, size := range []int{0, 1, 399, 400, 401, 1000} {
		if impl.UsersOk(usersOf("u", size)) != (size <= 400) {
			t.Error(size)
		}
		same := slices.Repeat([]string{"same"}, size)
		if impl.UsersOk(same) != (size <= 400) {
			t.Error("alike", size)
		}
	}
	for _, size := range []int{0, 1, 2, 39, 40, 41, 100} {
		user := strings.Repeat("\xff", size)
		ok := size >= 1 && size <= 40
		for _, users := range [][]string{{user}, {user, "z", "a"}, {"z", user, "a"}, {"z", "a", user}} {
			if impl.UsersOk(users) != ok {
				t.Errorf("%.50q", users)
			}
			if _, got := impl.BloomOf(users, 10); got != ok {
				t.Errorf("BloomOf of %.50q is %v", users, got)
			}
		}
	}
	if !impl.UsersOk(nil) || !impl.UsersOk([]string{}) {
		t.Error("no users")
	}
}

// bloomByHand sets the bits of users one by one, and tells whether a sum went beyond 64 bits.
func bloomByHand(users []string, probes int, size int) (string, bool) {
	text := make([]byte, size)
	beyond := false
	for _, user := range users {
		h := hashByHand(0, user)
		g := new(big.Int).SetUint64(h/(1<<33) + h%(1<<33)*(1<<31))
		for i := range probes {
			sum := new(big.Int).Mul(g, big.NewInt(int64(i)))
			sum.Add(sum, new(big.Int).SetUint64(h))
			beyond = beyond || sum.Cmp(twoTo64) >= 0
			sum.Mod(sum, twoTo64)
			bit := sum.Mod(sum, big.NewInt(int64(8*size))).Int64()
			text[bit/8] |= 1 << (bit % 8)
		}
	}
	return string(text), beyond
}

var bloomSizes = []struct {
	users, per, size, probes int
}{
	{0, 1, 8, 1},
	{0, 20, 8, 13},
	{1, 1, 8, 1},
	{1, 2, 8, 1},
	{1, 3, 8, 2},
	{1, 10, 8, 6},
	{3, 20, 8, 13},
	{4, 20, 10, 13},
	{5, 13, 9, 8},
	{6, 10, 8, 6},
	{7, 9, 8, 6},
	{7, 10, 9, 6},
	{8, 8, 8, 5},
	{9, 8, 9, 5},
	{64, 1, 8, 1},
	{65, 1, 9, 1},
	{72, 1, 9, 1},
	{73, 1, 10, 1},
	{100, 12, 150, 8},
	{399, 20, 998, 13},
	{400, 1, 50, 1},
	{400, 19, 950, 13},
	{400, 20, 1000, 13},
}

func TestP3FiltersHaveJustTheBitsOfTheirUsers(t *testing.T) {
	beyond := false
	for _, c := range bloomSizes {
		for _, users := range [][]string{usersOf("user", c.users), oddUsers(2, c.users)} {
			bits, past := bloomByHand(users, c.probes, c.size)
			beyond = beyond || past
			want := impl.Filter{Kind: 1, Probes: int64(c.probes), Bits: bits}
			got, ok := impl.BloomOf(users, int64(c.per))
			if !ok || got != want {
				t.Fatalf("of %d users, %d for each: %#v, %v, not %#v", c.users, c.per, got, ok, want)
			}
			if !impl.FilterOk(got) {
				t.Errorf("%#v is not right", got)
			}
		}
	}
	if !beyond {
		t.Error("no sum went beyond 64 bits")
	}
}

func TestP3NoUserOfAFilterIsDenied(t *testing.T) {
	for _, size := range []int{0, 1, 2, 7, 64, 65, 399, 400} {
		for per := int64(1); per <= 20; per++ {
			users := oddUsers(int64(size)+per, size)
			f, ok := impl.BloomOf(users, per)
			if !ok {
				t.Fatal(size, per)
			}
			for _, user := range users {
				if !impl.BloomMay(f, user) || !impl.FilterMay(f, user) {
					t.Fatalf("%q of %d users, %d for each", user, size, per)
				}
			}
		}
	}
}

func TestP3OthersAreDeniedWhereABitIsNotSet(t *testing.T) {
	users := usersOf("user", 300)
	f, _ := impl.BloomOf(users, 10)
	denied := 0
	for _, other := range append(usersOf("other", 2000), "", strings.Repeat("u", 41), strings.Repeat("u", 5000)) {
		bits, _ := bloomByHand([]string{other}, int(f.Probes), len(f.Bits))
		all := true
		for i := range bits {
			all = all && f.Bits[i]&bits[i] == bits[i]
		}
		if impl.BloomMay(f, other) != all || impl.FilterMay(f, other) != all {
			t.Fatalf("%.50q", other)
		}
		if !all {
			denied++
		}
	}
	if denied < 1900 {
		t.Error("a filter that denies so seldom", denied)
	}
}

func TestP3EachBitOfAUserCounts(t *testing.T) {
	for _, probes := range []int{1, 2, 6, 29, 30} {
		for _, size := range []int{1, 2, 8, 9, 999, 1000} {
			for _, user := range []string{"", "a", "user", "\xff\x00", strings.Repeat("long", 20)} {
				bits, _ := bloomByHand([]string{user}, probes, size)
				f := impl.Filter{Kind: 1, Probes: int64(probes), Bits: bits}
				if !impl.BloomMay(f, user) {
					t.Fatalf("%q, %d probes, %d bytes", user, probes, size)
				}
				for bit := range 8 * size {
					if bits[bit/8]>>(bit%8)&1 == 0 {
						continue
					}
					less := []byte(bits)
					less[bit/8] ^= 1 << (bit % 8)
					f.Bits = string(less)
					if impl.BloomMay(f, user) || impl.FilterMay(f, user) {
						t.Fatalf("%q, %d probes, %d bytes, bit %d", user, probes, size, bit)
					}
				}
			}
		}
	}
}

func TestP3OrderAndUsersThatAreAlikeChangeNoBit(t *testing.T) {
	users := usersOf("user", 150)
	want, _ := impl.BloomOf(users, 10)
	mixed := slices.Clone(users)
	rand.New(rand.NewSource(3)).Shuffle(len(mixed), func(i, j int) { mixed[i], mixed[j] = mixed[j], mixed[i] })
	if got, _ := impl.BloomOf(mixed, 10); got != want {
		t.Error("order")
	}
	twice, _ := impl.BloomOf(append(users, users...), 5)
	half, _ := bloomByHand(users, 3, len(want.Bits))
	if twice.Bits != half || twice.Probes != 3 {
		t.Error("alike")
	}
}

func TestP3FiltersOfWrongArgumentsAreNone(t *testing.T) {
	none := func(users []string, per int64) {
		if f, ok := impl.BloomOf(users, per); ok || f != (impl.Filter{}) {
			t.Errorf("BloomOf(%.60q, %d) is %#v, %v", users, per, f, ok)
		}
	}
	for _, per := range []int64{math.MinInt64, -1, 0, 21, 22, math.MaxInt64} {
		none(nil, per)
		none([]string{"a"}, per)
		none(usersOf("u", 400), per)
	}
	none(usersOf("u", 401), 10)
	none([]string{""}, 10)
	none([]string{"a", strings.Repeat("u", 41)}, 10)
	none([]string{"a", "", "b"}, 0)
}

func TestP3OtherFiltersDenyNobody(t *testing.T) {
	zeros := strings.Repeat("\x00", 1001)
	others := []impl.Filter{
		{},
		{Kind: 2, Bits: zeros[:20]},
		{Kind: 1},
		{Kind: 1, Probes: 1},
		{Kind: 1, Bits: zeros[:8]},
		{Kind: 1, Probes: -1, Bits: zeros[:8]},
		{Kind: 1, Probes: 31, Bits: zeros[:8]},
		{Kind: 1, Probes: 1, Bits: zeros},
		{Kind: 1, Probes: 1, Seed: 1, Bits: zeros[:8]},
		{Kind: 1, Probes: 1, Seed: -1, Bits: zeros[:8]},
		{Kind: 0, Probes: 1, Bits: zeros[:8]},
		{Kind: 3, Probes: 1, Bits: zeros[:8]},
		{Kind: -1, Probes: 1, Bits: zeros[:8]},
		{Kind: 1 + 1<<32, Probes: 1, Bits: zeros[:8]},
	}
	for _, f := range others {
		if !impl.BloomMay(f, "user") || !impl.BloomMay(f, "") {
			t.Errorf("%#v", f)
		}
	}
	if impl.BloomMay(impl.Filter{Kind: 1, Probes: 30, Bits: zeros[:1000]}, "user") || impl.BloomMay(impl.Filter{Kind: 1, Probes: 1, Bits: zeros[:1]}, "user") {
		t.Error("a right filter without bits")
	}
}

func TestP3UsersAreNotWrittenInto(t *testing.T) {
	users := append(make([]string, 0, 20), "c", "a", "b", "a")
	spare := users[:20]
	before := slices.Clone(spare)
	impl.UsersOk(users)
	first, _ := impl.BloomOf(users, 10)
	second, _ := impl.BloomOf(users, 10)
	if !slices.Equal(spare, before) || first != second {
		t.Error(spare, first, second)
	}
}
