package tests

import (
	"fmt"
	"math"
	"math/rand"
	"slices"
	"strings"
	"testing"

	"loop.example/g00214/impl"
)

func TestP4Limits(t *testing.T) {
	if impl.MaxSeeds != 4 || impl.MaxRows != 600 || impl.RibbonGap != 20 {
		t.Error(impl.MaxSeeds, impl.MaxRows, impl.RibbonGap)
	}
}

// A dense equation names each byte of a ribbon that it puts together.
type dense struct {
	names []bool
	sum   byte
}

func denseOf(user string, seed int64, size int) dense {
	h := hashByHand(uint32(seed), user)
	place := int((h >> 32) % uint64(size-15))
	names := make([]bool, size)
	for i := range 16 {
		names[place+i] = i == 0 || h>>i&1 == 1
	}
	return dense{names, byte((h >> 16) % 128)}
}

func (d *dense) add(e dense) {
	for i := range d.names {
		d.names[i] = d.names[i] != e.names[i]
	}
	d.sum ^= e.sum
}

// ribbonByHand solves the equations of users all at once, byte by byte: a byte
// that no equation settles is 0. It is false when they are at odds.
func ribbonByHand(users []string, seed int64) (string, bool) {
	size := len(users) + len(users)/4 + 20
	rows := make([]dense, len(users))
	for i, user := range users {
		rows[i] = denseOf(user, seed, size)
	}
	settled := 0
	var places []int
	for place := range size {
		first := slices.IndexFunc(rows[settled:], func(d dense) bool { return d.names[place] })
		if first < 0 {
			continue
		}
		rows[settled], rows[settled+first] = rows[settled+first], rows[settled]
		for i := range rows {
			if i != settled && rows[i].names[place] {
				rows[i].add(rows[settled])
			}
		}
		places = append(places, place)
		settled++
	}
	text := make([]byte, size)
	for i, row := range rows {
		if i < settled {
			text[places[i]] = row.sum
		} else if row.sum != 0 {
			return "", false
		}
	}
	return string(text), true
}

func sameRibbon(t *testing.T, users []string, seed int64) bool {
	t.Helper()
	text, there := ribbonByHand(users, seed)
	want := impl.Filter{}
	if there {
		want = impl.Filter{Kind: 2, Seed: seed, Bits: text}
	}
	got, ok := impl.RibbonOf(users, seed)
	if ok != there || got != want {
		t.Fatalf("of %d users, seed %d: %#v, %v, not %#v", len(users), seed, got, ok, want)
	}
	for _, user := range users {
		if ok && !(impl.RibbonMay(got, user) && impl.FilterMay(got, user)) {
			t.Fatalf("%q of %d users, seed %d", user, len(users), seed)
		}
	}
	return ok
}

func TestP4RibbonsHoldTheEquationsOfTheirUsers(t *testing.T) {
	for _, size := range []int{0, 1, 2, 3, 4, 5, 7, 8, 9, 20, 50, 99, 100, 101, 200, 301, 399, 400} {
		there := 0
		for seed := range int64(4) {
			for _, users := range [][]string{usersOf("user", size), oddUsers(int64(size), size)} {
				if sameRibbon(t, users, seed) {
					there++
				}
			}
		}
		if there == 0 {
			t.Error("no ribbon at all of", size)
		}
	}
}

// alikeIn looks for two users with one place and one row in a ribbon of size
// bytes; of one sum, or of two.
func alikeIn(word string, seed int64, size int, sumToo bool) []string {
	type row struct{ place, bits uint64 }
	seen := map[row][]string{}
	sumOf := func(user string) uint64 { return hashByHand(uint32(seed), user) >> 16 % 128 }
	for i := 0; ; i++ {
		user := fmt.Sprint(word, i)
		h := hashByHand(uint32(seed), user)
		key := row{h >> 32 % uint64(size-15), h%65536 | 1}
		for _, other := range seen[key] {
			if (sumOf(other) == sumOf(user)) == sumToo {
				return []string{other, user}
			}
		}
		seen[key] = append(seen[key], user)
	}
}

func TestP4RowsThatComeToNothing(t *testing.T) {
	for seed := range int64(4) {
		same := alikeIn("same", seed, 22, true)
		if !sameRibbon(t, same, seed) {
			t.Errorf("seed %d: %q have one equation", seed, same)
		}
		odd := alikeIn("odd", seed, 22, false)
		if sameRibbon(t, odd, seed) {
			t.Errorf("seed %d: %q are at odds", seed, odd)
		}
		slices.Reverse(odd)
		if sameRibbon(t, odd, seed) {
			t.Errorf("seed %d: %q are at odds", seed, odd)
		}
		one := slices.Repeat([]string{"one"}, 400)
		if !sameRibbon(t, one, seed) {
			t.Errorf("seed %d: users that are alike", seed)
		}
		if !sameRibbon(t, append([]string{"other"}, one[1:]...), seed) {
			t.Errorf("seed %d: users that are alike behind another one", seed)
		}
	}
}

func TestP4RowsThatComeToNothingAmongMany(t *testing.T) {
	// Behind so many users the rows of the two are put together with others first.
	same, odd := alikeIn("same", 2, 520, true), alikeIn("odd", 2, 520, false)
	for round := range 5 {
		users := usersOf(fmt.Sprint("round", round, "-"), 398)
		if !sameRibbon(t, append(users, same...), 2) {
			t.Errorf("%q have one equation", same)
		}
		if sameRibbon(t, append(users, odd...), 2) {
			t.Errorf("%q are at odds", odd)
		}
	}
}

func TestP4TheLastByteIsSettledToo(t *testing.T) {
	// Two users at the last place, whose rows differ in the last bit alone.
	for seed := range int64(4) {
		seen := map[uint64][]string{}
		for i := 0; ; i++ {
			user := fmt.Sprint("last", i)
			h := hashByHand(uint32(seed), user)
			if h>>32%7 != 6 {
				continue
			}
			row := h%65536 | 1
			if other := seen[row^1<<15]; other != nil && (hashByHand(uint32(seed), other[0])>>16^h>>16)%128 != 0 {
				users := []string{other[0], user}
				sameRibbon(t, users, seed)
				if f, ok := impl.RibbonOf(users, seed); !ok || f.Bits[21] == 0 {
					t.Errorf("%q: %#v, %v", users, f, ok)
				}
				break
			}
			seen[row] = append(seen[row], user)
		}
	}
}

func TestP4OrderChangesNoRibbon(t *testing.T) {
	users := usersOf("user", 120)
	want, ok := impl.RibbonOf(users, 1)
	if !ok {
		t.Fatal("no ribbon")
	}
	r := rand.New(rand.NewSource(7))
	for range 20 {
		r.Shuffle(len(users), func(i, j int) { users[i], users[j] = users[j], users[i] })
		if got, ok := impl.RibbonOf(users, 1); !ok || got != want {
			t.Fatalf("%#v, not %#v", got, want)
		}
	}
}

func TestP4AUserMayBeThereWhereTheEquationHolds(t *testing.T) {
	r := rand.New(rand.NewSource(8))
	yes, no := 0, 0
	for _, size := range []int{20, 21, 22, 35, 36, 100, 599, 600} {
		for seed := range int64(4) {
			text := make([]byte, size)
			for i := range text {
				text[i] = byte(r.Intn(128))
			}
			f := impl.Filter{Kind: 2, Seed: seed, Bits: string(text)}
			for _, user := range append(usersOf("user", 300), "", strings.Repeat("u", 41)) {
				d := denseOf(user, seed, size)
				sum := d.sum
				for i, named := range d.names {
					if named {
						sum ^= text[i]
					}
				}
				if impl.RibbonMay(f, user) != (sum == 0) || impl.FilterMay(f, user) != (sum == 0) {
					t.Fatalf("%#v, %q", f, user)
				}
				if sum == 0 {
					yes++
				} else {
					no++
				}
			}
		}
	}
	if yes == 0 || no == 0 {
		t.Error(yes, no)
	}
}

func TestP4RibbonsOfWrongArgumentsAreNone(t *testing.T) {
	none := func(users []string, seed int64) {
		if f, ok := impl.RibbonOf(users, seed); ok || f != (impl.Filter{}) {
			t.Errorf("RibbonOf(%.60q, %d) is %#v, %v", users, seed, f, ok)
		}
	}
	for _, seed := range []int64{math.MinInt64, -1, 4, 5, 1 << 32, math.MaxInt64} {
		none(nil, seed)
		none([]string{"a"}, seed)
	}
	for seed := range int64(4) {
		none(usersOf("u", 401), seed)
		none(slices.Repeat([]string{"u"}, 401), seed)
		none([]string{""}, seed)
		none([]string{"a", strings.Repeat("u", 41)}, seed)
		if _, ok := impl.RibbonOf([]string{"a", strings.Repeat("u", 40)}, seed); !ok {
			t.Error("a user of 40 bytes")
		}
	}
}

// oddAt is users that are at odds in a ribbon of each of seeds. They are as many
// as size says, so that the ribbon is as long as it was when they were sought.
func oddAt(size int, seeds ...int64) []string {
	var users []string
	for _, seed := range seeds {
		users = append(users, alikeIn(fmt.Sprint("odd", seed, "-"), seed, size+size/4+20, false)...)
	}
	for len(users) < size {
		users = append(users, users[0])
	}
	return users
}

func TestP4TheFirstSeedThatHasARibbon(t *testing.T) {
	cases := []struct {
		seeds []int64
		first int64
	}{
		{nil, 0},
		{[]int64{1, 2, 3}, 0},
		{[]int64{0}, 1},
		{[]int64{0, 2}, 1},
		{[]int64{0, 1}, 2},
		{[]int64{0, 1, 2}, 3},
	}
	for _, c := range cases {
		users := usersOf("user", 8)
		if c.seeds != nil {
			users = oddAt(8, c.seeds...)
		}
		want, ok := ribbonByHand(users, c.first)
		if !ok {
			t.Fatalf("%q: there is no ribbon", users)
		}
		got, ok := impl.FilterOf(users, 2)
		if !ok || got != (impl.Filter{Kind: 2, Seed: c.first, Bits: want}) {
			t.Errorf("%v: %#v, %v", c.seeds, got, ok)
		}
		for _, user := range users {
			if !impl.FilterMay(got, user) {
				t.Errorf("%q", user)
			}
		}
	}
}

func TestP4AFilterOfBitsWhereNoSeedHasARibbon(t *testing.T) {
	users := oddAt(8, 0, 1, 2, 3)
	for seed := range int64(4) {
		if sameRibbon(t, users, seed) {
			t.Fatalf("%q has a ribbon", users)
		}
	}
	bits, _ := bloomByHand(users, 6, 10)
	f, ok := impl.FilterOf(users, 2)
	if !ok || f != (impl.Filter{Kind: 1, Probes: 6, Bits: bits}) {
		t.Errorf("%#v, %v", f, ok)
	}
	for _, user := range users {
		if !impl.FilterMay(f, user) {
			t.Errorf("%q", user)
		}
	}
}

func TestP4EachKindOfFilterThatIsAskedFor(t *testing.T) {
	for _, size := range []int{0, 1, 7, 100, 400} {
		users := oddUsers(int64(size)+50, size)
		if f, ok := impl.FilterOf(users, 0); !ok || f != (impl.Filter{}) {
			t.Errorf("none: %#v, %v", f, ok)
		}
		bits, _ := bloomByHand(users, 6, max(8, (10*size+7)/8))
		if f, ok := impl.FilterOf(users, 1); !ok || f != (impl.Filter{Kind: 1, Probes: 6, Bits: bits}) {
			t.Errorf("bits: %#v, %v", f, ok)
		}
		for kind := range int64(3) {
			f, ok := impl.FilterOf(users, kind)
			if !ok || !impl.FilterOk(f) {
				t.Errorf("%#v, %v", f, ok)
			}
			for _, user := range users {
				if !impl.FilterMay(f, user) {
					t.Fatalf("%q of %#v", user, f)
				}
			}
			if back, ok := impl.ReadFilter(impl.FilterText(f)); !ok || back != f {
				t.Errorf("%#v comes back as %#v, %v", f, back, ok)
			}
		}
	}
}

func TestP4FiltersOfWrongUsersOrKindsAreNone(t *testing.T) {
	none := func(users []string, kind int64) {
		if f, ok := impl.FilterOf(users, kind); ok || f != (impl.Filter{}) {
			t.Errorf("FilterOf(%.60q, %d) is %#v, %v", users, kind, f, ok)
		}
	}
	for kind := range int64(3) {
		none(usersOf("u", 401), kind)
		none([]string{""}, kind)
		none([]string{"a", strings.Repeat("u", 41)}, kind)
	}
	for _, kind := range []int64{math.MinInt64, -1, 3, 1 << 32, 1<<32 + 1, math.MaxInt64} {
		none(nil, kind)
		none([]string{"a"}, kind)
	}
}

func someBytes(size int, b byte) string {
	return strings.Repeat(string([]byte{b}), size)
}

func rightFilters() []impl.Filter {
	return []impl.Filter{
		{},
		{Kind: 1, Probes: 1, Bits: "\x00"},
		{Kind: 1, Probes: 1, Bits: "\xff"},
		{Kind: 1, Probes: 30, Bits: someBytes(8, 0x80)},
		{Kind: 1, Probes: 6, Bits: someBytes(127, 1)},
		{Kind: 1, Probes: 6, Bits: someBytes(128, 1)},
		{Kind: 1, Probes: 30, Bits: someBytes(1000, 255)},
		{Kind: 2, Bits: someBytes(20, 0)},
		{Kind: 2, Seed: 1, Bits: someBytes(20, 127)},
		{Kind: 2, Seed: 2, Bits: someBytes(21, 3)},
		{Kind: 2, Seed: 3, Bits: someBytes(599, 127)},
		{Kind: 2, Seed: 3, Bits: someBytes(600, 127)},
	}
}

func wrongFilters() []impl.Filter {
	ribbon := someBytes(20, 5)
	list := []impl.Filter{
		{Seed: 1},
		{Seed: -1},
		{Probes: 1},
		{Probes: -1},
		{Bits: "\x00"},
		{Kind: -1},
		{Kind: 3},
		{Kind: 3, Probes: 1, Bits: ribbon},
		{Kind: 1 << 32},
		{Kind: math.MinInt64},
		{Kind: math.MaxInt64},
		{Kind: 1},
		{Kind: 1, Probes: 1},
		{Kind: 1, Bits: "\x00"},
		{Kind: 1, Probes: -1, Bits: "\x00"},
		{Kind: 1, Probes: 31, Bits: "\x00"},
		{Kind: 1, Probes: 1 << 40, Bits: "\x00"},
		{Kind: 1, Probes: 1, Bits: someBytes(1001, 0)},
		{Kind: 1, Probes: 1, Seed: 1, Bits: "\x00"},
		{Kind: 1, Probes: 1, Seed: -1, Bits: "\x00"},
		{Kind: 2},
		{Kind: 2, Bits: someBytes(19, 5)},
		{Kind: 2, Bits: someBytes(601, 5)},
		{Kind: 2, Seed: -1, Bits: ribbon},
		{Kind: 2, Seed: 4, Bits: ribbon},
		{Kind: 2, Seed: 1 << 32, Bits: ribbon},
		{Kind: 2, Probes: 1, Bits: ribbon},
		{Kind: 2, Probes: -1, Bits: ribbon},
	}
	for place := range ribbon {
		for _, b := range []byte{128, 129, 255} {
			bits := []byte(ribbon)
			bits[place] = b
			list = append(list, impl.Filter{Kind: 2, Seed: 1, Bits: string(bits)})
		}
	}
	return list
}

func TestP4RightFiltersComeBackFromTheirBytes(t *testing.T) {
	for _, f := range rightFilters() {
		text := fmt.Sprintf("%c%c%c", f.Kind, f.Seed, f.Probes)
		size := len(f.Bits)
		if size < 128 {
			text += string([]byte{byte(size)})
		} else {
			text += string([]byte{byte(size%128) + 128, byte(size / 128)})
		}
		text += f.Bits
		if !impl.FilterOk(f) || impl.FilterText(f) != text {
			t.Errorf("%#v: %v, %q", f, impl.FilterOk(f), impl.FilterText(f))
		}
		if back, ok := impl.ReadFilter(text); !ok || back != f {
			t.Errorf("%q is %#v, %v", text, back, ok)
		}
	}
}

func TestP4WrongFiltersHaveNoTextAndDenyNobody(t *testing.T) {
	for _, f := range wrongFilters() {
		if impl.FilterOk(f) || impl.FilterText(f) != "" {
			t.Errorf("%#v: %v, %q", f, impl.FilterOk(f), impl.FilterText(f))
		}
		for _, user := range append(usersOf("user", 20), "") {
			if !impl.RibbonMay(f, user) || !impl.BloomMay(f, user) || !impl.FilterMay(f, user) {
				t.Errorf("%#v denies %q", f, user)
			}
		}
	}
	for _, f := range rightFilters() {
		if f.Kind != impl.FtRibbon && !impl.RibbonMay(f, "user") {
			t.Errorf("%#v is no ribbon", f)
		}
	}
}

func notRead(t *testing.T, text string) {
	t.Helper()
	if f, ok := impl.ReadFilter(text); ok || f != (impl.Filter{}) {
		t.Errorf("%q is %#v, %v", text, f, ok)
	}
}

func TestP4TextsOfNoRightFilterAreNotRead(t *testing.T) {
	for _, f := range wrongFilters() {
		notRead(t, impl.PutVar(uint64(f.Kind))+impl.PutVar(uint64(f.Seed))+impl.PutVar(uint64(f.Probes))+impl.PutText(f.Bits))
	}
	for _, f := range rightFilters() {
		text := impl.FilterText(f)
		for size := range len(text) {
			notRead(t, text[:size])
		}
		for _, behind := range []string{"\x00", "\x80", "x", text} {
			notRead(t, text+behind)
		}
		notRead(t, "\x00"+text)
		for place := range 3 {
			more := string([]byte{text[place] | 0x80, 0})
			notRead(t, text[:place]+more+text[place+1:])
		}
	}
	notRead(t, "\x01\x00\x01\x81\x00\xff")
	notRead(t, "\x01\x00\x01\x02\xff")
	notRead(t, "\x01\x00\x01"+someBytes(9, 0xff)+"\x01\xff")
	notRead(t, "\x01\x00"+someBytes(9, 0xff)+"\x02\x01\xff")
	notRead(t, someBytes(11, 0x80)+"\x01")
}

func TestP4UsersOfRibbonsAreNotWrittenInto(t *testing.T) {
	users := append(make([]string, 0, 20), "c", "a", "b", "a")
	spare := users[:20]
	before := slices.Clone(spare)
	for kind := range int64(3) {
		first, _ := impl.FilterOf(users, kind)
		second, _ := impl.FilterOf(users, kind)
		if first != second {
			t.Error(first, second)
		}
	}
	impl.RibbonOf(users, 0)
	if !slices.Equal(spare, before) {
		t.Error(spare)
	}
}
