package tests

import (
	"fmt"
	"math"
	"math/rand"
	"slices"
	"strings"
	"sync"
	"testing"

	"loop.example/g00214/impl"
)

func TestP11Limits(t *testing.T) {
	if impl.MaxSlots != 40 || impl.MaxSize != 100000 {
		t.Error(impl.MaxSlots, impl.MaxSize)
	}
}

func slot(name string, size int64, pins int64) impl.Slot {
	return impl.Slot{Name: name, Size: size, Pins: pins}
}

func cacheOf(most int64, slots ...impl.Slot) impl.Cache {
	return impl.Cache{Most: most, Slots: slots}
}

// manySlots are alike but for their names.
func manySlots(many int, size int64, pins int64) []impl.Slot {
	var slots []impl.Slot
	for i := range many {
		slots = append(slots, slot(fmt.Sprintf("s%02d", i), size, pins))
	}
	return slots
}

// changed is slots with another one at place.
func changed(slots []impl.Slot, place int, now impl.Slot) []impl.Slot {
	slots = slices.Clone(slots)
	slots[place] = now
	return slots
}

func sameCache(a impl.Cache, b impl.Cache) bool {
	return a.Most == b.Most && slices.Equal(a.Slots, b.Slots)
}

func rightCaches() []impl.Cache {
	long := strings.Repeat("n", 40)
	list := []impl.Cache{
		{}, {Slots: []impl.Slot{}}, cacheOf(100000),
		cacheOf(0, slot("a", 1, 1)), cacheOf(0, slot("a", 100000, 100000)), cacheOf(0, manySlots(40, 100000, 100000)...),
		cacheOf(1, slot("a", 1, 0)), cacheOf(100000, slot("a", 100000, 0)), cacheOf(100000, slot("a", 1, 0)),
		cacheOf(100000, slot(long, 1, 0), slot(long[1:], 1, 0), slot("\x00", 1, 0), slot("\xff", 1, 1), slot("A", 1, 2), slot("a", 1, 100000)),
		// Together they are just Most, with slots that nobody holds.
		cacheOf(10, slot("a", 4, 0), slot("b", 6, 1)), cacheOf(10, slot("a", 4, 1), slot("b", 6, 0)), cacheOf(10, slot("a", 4, 0), slot("b", 6, 0)),
		cacheOf(100000, manySlots(40, 2500, 0)...), cacheOf(40, manySlots(40, 1, 0)...), cacheOf(41, manySlots(40, 1, 0)...), cacheOf(39, manySlots(39, 1, 0)...),
		// They are above Most, but all are held.
		cacheOf(9, slot("a", 4, 1), slot("b", 6, 1)), cacheOf(1, slot("a", 100000, 1), slot("b", 100000, 3), slot("c", 100000, 1)), cacheOf(39, manySlots(40, 1, 1)...),
		cacheOf(99999, manySlots(40, 2500, 1)...),
	}
	return append(list, cacheOf(100000, changed(manySlots(40, 2500, 1), 20, slot("x", 2500, 0))...), cacheOf(100000, changed(manySlots(40, 2500, 100000), 39, slot("x", 1, 0))...))
}

func wrongCaches() []impl.Cache {
	few := []impl.Slot{slot("a", 4, 0), slot("b", 1, 1), slot("c", 5, 2)}
	var list []impl.Cache
	for _, most := range []int64{math.MinInt64, -100000, -1, 100001, 1 << 32, 1<<32 + 10, math.MaxInt64} {
		list = append(list, cacheOf(most), cacheOf(most, few...), cacheOf(most, manySlots(3, 1, 1)...))
	}
	for _, many := range []int{41, 42, 80, 1000} {
		list = append(list, cacheOf(100000, manySlots(many, 1, 0)...), cacheOf(0, manySlots(many, 1, 1)...), cacheOf(100000, manySlots(many, 1, 1)...))
	}
	wrong := []impl.Slot{{}, slot("", 1, 1), slot(strings.Repeat("n", 41), 1, 1), slot(strings.Repeat("n", 1000), 1, 1)}
	for _, size := range []int64{math.MinInt64, -4, -1, 0, 100001, 1<<32 + 1, math.MaxInt64 - 9, math.MaxInt64} {
		wrong = append(wrong, slot("w", size, 0), slot("w", size, 1))
	}
	for _, pins := range []int64{math.MinInt64, -1, 100001, 1 << 32, 1<<32 + 1, math.MaxInt64} {
		wrong = append(wrong, slot("w", 1, pins))
	}
	for _, one := range wrong {
		list = append(list, cacheOf(10, one), cacheOf(0, one), cacheOf(100000, append(manySlots(39, 1, 1), one)...))
		for place := range 4 {
			list = append(list, cacheOf(100000, slices.Insert(slices.Clone(few), place, one)...))
		}
	}
	// A name stands twice, in slots that are alike or not.
	list = append(list, cacheOf(10, slot("a", 1, 1), slot("a", 1, 1)), cacheOf(10, slot("a", 1, 0), slot("b", 1, 1), slot("a", 2, 3)))
	for place := range 39 {
		list = append(list, cacheOf(100, changed(manySlots(40, 1, 0), 39, slot(fmt.Sprintf("s%02d", place), 2, 1))...))
	}
	// Together they are above Most, and nobody holds one of them.
	list = append(list, cacheOf(0, slot("a", 1, 0)), cacheOf(99999, slot("a", 100000, 0)), cacheOf(9, few...), cacheOf(39, manySlots(40, 1, 0)...))
	for place := range 40 {
		list = append(list, cacheOf(99999, changed(manySlots(40, 2500, 1), place, slot("x", 2500, 0))...))
		list = append(list, cacheOf(100000, changed(manySlots(40, 100000, 100000), place, slot("x", 1, 0))...))
	}
	return list
}

func holdNoCache(t *testing.T, word string, got impl.Cache, ok bool) {
	t.Helper()
	if ok || !sameCache(got, impl.Cache{}) {
		t.Errorf("%s: %.200v, %v", word, got, ok)
	}
}

func TestP11CachesThatAreRight(t *testing.T) {
	for i, c := range rightCaches() {
		var sum int64
		for _, one := range c.Slots {
			sum += one.Size
		}
		if got := impl.CacheUsed(c); !impl.CacheOk(c) || got != sum {
			t.Errorf("%d is right: %.200v, %d", i, c, got)
		}
	}
	for i, c := range wrongCaches() {
		if got := impl.CacheUsed(c); impl.CacheOk(c) || got != -1 {
			t.Errorf("%d is not right: %.200v, %d", i, c, got)
		}
		names := []string{"", "a", "z", strings.Repeat("n", 41)}
		for _, one := range c.Slots[:min(len(c.Slots), 4)] {
			names = append(names, one.Name)
		}
		for _, name := range names {
			got, ok := impl.CacheGet(c, name)
			holdNoCache(t, fmt.Sprintf("%d: got %q", i, name), got, ok)
			got, ok = impl.CacheFree(c, name)
			holdNoCache(t, fmt.Sprintf("%d: freed %q", i, name), got, ok)
			for _, size := range []int64{-1, 0, 1, 100000, 100001} {
				got, ok = impl.CachePut(c, name, size)
				holdNoCache(t, fmt.Sprintf("%d: put %q of %d", i, name, size), got, ok)
			}
		}
	}
}

func placeOf(slots []impl.Slot, name string) int {
	return slices.IndexFunc(slots, func(one impl.Slot) bool { return one.Name == name })
}

// leftOf is what is left of slots once those went that must go.
func leftOf(most int64, slots []impl.Slot) []impl.Slot {
	for {
		var sum int64
		last := -1
		for place, one := range slots {
			sum += one.Size
			if one.Pins == 0 {
				last = place
			}
		}
		if sum <= most || last < 0 {
			return slots
		}
		slots = slices.Delete(slots, last, last+1)
	}
}

func getByHand(c impl.Cache, name string) (impl.Cache, bool) {
	place := placeOf(c.Slots, name)
	if place < 0 || c.Slots[place].Pins == 100000 {
		return c, false
	}
	found := c.Slots[place]
	found.Pins++
	slots := []impl.Slot{found}
	slots = append(slots, c.Slots[:place]...)
	return cacheOf(c.Most, append(slots, c.Slots[place+1:]...)...), true
}

func putByHand(c impl.Cache, name string, size int64) (impl.Cache, bool) {
	if name == "" || len(name) > 40 || size < 1 || size > 100000 || placeOf(c.Slots, name) >= 0 {
		return c, false
	}
	slots := leftOf(c.Most, append([]impl.Slot{slot(name, size, 1)}, c.Slots...))
	if len(slots) > 40 {
		return c, false
	}
	return cacheOf(c.Most, slots...), true
}

func freeByHand(c impl.Cache, name string) (impl.Cache, bool) {
	place := placeOf(c.Slots, name)
	if place < 0 || c.Slots[place].Pins == 0 {
		return c, false
	}
	slots := slices.Clone(c.Slots)
	slots[place].Pins--
	return cacheOf(c.Most, leftOf(c.Most, slots)...), true
}

func holdCache(t *testing.T, word string, c impl.Cache, got impl.Cache, ok bool, want impl.Cache, fine bool) {
	t.Helper()
	if ok != fine || !sameCache(got, want) {
		t.Fatalf("%s of %.300v: %.300v, %v, not %.300v, %v", word, c, got, ok, want, fine)
	}
	if !impl.CacheOk(got) {
		t.Fatalf("%s of %.300v is not right: %.300v", word, c, got)
	}
}

// holdGot holds a right cache to what the document says of a slot that is got.
func holdGot(t *testing.T, c impl.Cache, name string) (impl.Cache, bool) {
	t.Helper()
	got, ok := impl.CacheGet(c, name)
	want, fine := getByHand(c, name)
	holdCache(t, "get "+name, c, got, ok, want, fine)
	return got, ok
}

func holdHeld(t *testing.T, c impl.Cache, name string, size int64) (impl.Cache, bool) {
	t.Helper()
	got, ok := impl.CachePut(c, name, size)
	want, fine := putByHand(c, name, size)
	holdCache(t, fmt.Sprintf("put %s %d", name, size), c, got, ok, want, fine)
	return got, ok
}

func holdFreed(t *testing.T, c impl.Cache, name string) (impl.Cache, bool) {
	t.Helper()
	got, ok := impl.CacheFree(c, name)
	want, fine := freeByHand(c, name)
	holdCache(t, "free "+name, c, got, ok, want, fine)
	return got, ok
}

func holdAllOf(t *testing.T, c impl.Cache) {
	t.Helper()
	names := []string{"", "z", "aa", strings.Repeat("n", 40), strings.Repeat("n", 41), strings.Repeat("z", 40), strings.Repeat("z", 41), strings.Repeat("z", 1000)}
	for _, one := range c.Slots {
		names = append(names, one.Name)
	}
	for _, name := range names {
		holdGot(t, c, name)
		holdFreed(t, c, name)
		for _, size := range []int64{math.MinInt64, -1, 0, 1, 2, 3, 5, 100, 2500, 2501, 99999, 100000, 100001, math.MaxInt64} {
			holdHeld(t, c, name, size)
		}
	}
}

func TestP11EachRightCache(t *testing.T) {
	for _, c := range rightCaches() {
		holdAllOf(t, c)
	}
}

// smallCaches visits each cache of up to three slots with few sizes and pins, right or not.
func smallCaches(visit func(impl.Cache)) {
	for most := range int64(7) {
		for many := range 4 {
			for code := range 1 << (4 * many) {
				var slots []impl.Slot
				for place := range many {
					part := code >> (4 * place)
					slots = append(slots, slot(string(rune('a'+place)), int64(1+part&3), int64(part>>2&3)))
				}
				visit(cacheOf(most, slots...))
			}
		}
	}
}

func TestP11EachSmallCache(t *testing.T) {
	right, wrong := 0, 0
	smallCaches(func(c impl.Cache) {
		if len(leftOf(c.Most, slices.Clone(c.Slots))) != len(c.Slots) {
			wrong++
			if impl.CacheOk(c) || impl.CacheUsed(c) != -1 {
				t.Fatalf("%v is not right", c)
			}
			return
		}
		right++
		if !impl.CacheOk(c) {
			t.Fatalf("%v is right", c)
		}
		for _, name := range []string{"a", "b", "c", "d"} {
			holdGot(t, c, name)
			holdFreed(t, c, name)
		}
		for size := range int64(8) {
			holdHeld(t, c, "d", size)
			holdHeld(t, c, "b", size)
		}
	})
	if right < 5000 || wrong < 5000 {
		t.Error(right, wrong)
	}
}

type cacheCase struct {
	word string
	got  impl.Cache
	ok   bool
	want impl.Cache
	fine bool
}

func putCase(word string, c impl.Cache, name string, size int64, want impl.Cache, fine bool) cacheCase {
	got, ok := impl.CachePut(c, name, size)
	return cacheCase{word, got, ok, want, fine}
}

func freeCase(word string, c impl.Cache, name string, want impl.Cache, fine bool) cacheCase {
	got, ok := impl.CacheFree(c, name)
	return cacheCase{word, got, ok, want, fine}
}

func getCase(word string, c impl.Cache, name string, want impl.Cache, fine bool) cacheCase {
	got, ok := impl.CacheGet(c, name)
	return cacheCase{word, got, ok, want, fine}
}

func holdCaches(t *testing.T, cases []cacheCase) {
	t.Helper()
	for _, c := range cases {
		if c.ok != c.fine || !sameCache(c.got, c.want) {
			t.Errorf("%s: %.200v, %v, not %.200v, %v", c.word, c.got, c.ok, c.want, c.fine)
		}
	}
}

func TestP11WhatIsPutIsFirstAndHeld(t *testing.T) {
	a, b, c := slot("a", 3, 0), slot("b", 3, 2), slot("c", 4, 0)
	three := cacheOf(10, a, b, c)
	fresh := func(size int64) impl.Slot { return slot("d", size, 1) }
	full, none := manySlots(40, 1, 0), cacheOf(0)
	held := changed(manySlots(40, 1, 1), 17, slot("x", 5, 0))
	holdCaches(t, []cacheCase{
		putCase("into none", none, "d", 1, cacheOf(0, fresh(1)), true),
		putCase("just as much as there may be", cacheOf(14, a, b, c), "d", 4, cacheOf(14, fresh(4), a, b, c), true),
		putCase("one above it", cacheOf(13, a, b, c), "d", 4, cacheOf(13, fresh(4), a, b), true),
		putCase("one must go", three, "d", 4, cacheOf(10, fresh(4), a, b), true),
		putCase("two must go", three, "d", 5, cacheOf(10, fresh(5), b), true),
		putCase("all that can must go", three, "d", 8, cacheOf(10, fresh(8), b), true),
		putCase("it is greater than all", three, "d", 100000, cacheOf(10, fresh(100000), b), true),
		putCase("none can go", cacheOf(1, b), "d", 1, cacheOf(1, fresh(1), b), true),
		putCase("the last small one goes, and the next one", cacheOf(10, slot("a", 9, 0), slot("b", 1, 0)), "d", 2, cacheOf(10, fresh(2)), true),
		putCase("only the last one goes", cacheOf(10, slot("a", 1, 0), slot("b", 9, 0)), "d", 2, cacheOf(10, fresh(2), slot("a", 1, 0)), true),
		putCase("there already", three, "b", 1, three, false),
		putCase("no name", three, "", 1, three, false),
		putCase("a name too long", three, strings.Repeat("d", 41), 1, three, false),
		putCase("no size", three, "d", 0, three, false),
		putCase("too great", three, "d", 100001, three, false),
		putCase("one of 40 goes", cacheOf(40, full...), "d", 1, cacheOf(40, append([]impl.Slot{fresh(1)}, full[:39]...)...), true),
		putCase("none of 40 goes", cacheOf(41, full...), "d", 1, cacheOf(41, full...), false),
		putCase("one of 40 goes, as it is greater", cacheOf(41, full...), "d", 2, cacheOf(41, append([]impl.Slot{fresh(2)}, full[:39]...)...), true),
		putCase("all of 40 go", cacheOf(41, full...), "d", 41, cacheOf(41, fresh(41)), true),
		putCase("none of 40 can go", cacheOf(0, manySlots(40, 1, 1)...), "d", 1, cacheOf(0, manySlots(40, 1, 1)...), false),
		putCase("one of 40 can go", cacheOf(44, held...), "d", 1, cacheOf(44, append([]impl.Slot{fresh(1)}, slices.Delete(slices.Clone(held), 17, 18)...)...), true),
		putCase("one of 40 can go, but need not", cacheOf(45, held...), "d", 1, cacheOf(45, held...), false),
		putCase("the fortieth", cacheOf(40, full[:39]...), "d", 1, cacheOf(40, append([]impl.Slot{fresh(1)}, full[:39]...)...), true),
	})
}

func TestP11WhatIsGotIsFirstAndHeld(t *testing.T) {
	a, b, c := slot("a", 3, 0), slot("b", 3, 99999), slot("c", 4, 100000)
	three := cacheOf(10, a, b, c)
	above := cacheOf(0, slot("a", 3, 1), b)
	holdCaches(t, []cacheCase{
		getCase("the first", three, "a", cacheOf(10, slot("a", 3, 1), b, c), true),
		getCase("held once more", three, "b", cacheOf(10, slot("b", 3, 100000), a, c), true),
		getCase("held by as many as can", three, "c", three, false),
		getCase("the last", cacheOf(10, b, a), "a", cacheOf(10, slot("a", 3, 1), b), true),
		getCase("where there is too much", above, "b", cacheOf(0, slot("b", 3, 100000), slot("a", 3, 1)), true),
		getCase("the only one", cacheOf(3, a), "a", cacheOf(3, slot("a", 3, 1)), true),
		getCase("none", three, "d", three, false),
		getCase("no name", three, "", three, false),
		getCase("a name too long", three, strings.Repeat("a", 41), three, false),
		getCase("nothing there", cacheOf(7), "a", cacheOf(7), false),
	})
}

func TestP11WhatIsLetGoOf(t *testing.T) {
	a, b, c := slot("a", 3, 1), slot("b", 3, 2), slot("c", 4, 1)
	above, just := cacheOf(9, a, b, c), cacheOf(10, a, slot("i", 1, 0), b, slot("j", 1, 0))
	holdCaches(t, []cacheCase{
		freeCase("it goes itself, from the first place", above, "a", cacheOf(9, b, c), true),
		freeCase("from the last place", above, "c", cacheOf(9, a, b), true),
		freeCase("somebody else holds it", above, "b", cacheOf(9, a, slot("b", 3, 1), c), true),
		freeCase("though all is still too much", cacheOf(0, a, b, c), "a", cacheOf(0, b, c), true),
		freeCase("there is no other", cacheOf(0, a), "a", cacheOf(0), true),
		freeCase("just as much as there may be", cacheOf(10, a, b, c), "a", cacheOf(10, slot("a", 3, 0), b, c), true),
		freeCase("nothing goes, as there is room", just, "a", cacheOf(10, slot("a", 3, 0), slot("i", 1, 0), b, slot("j", 1, 0)), true),
		freeCase("held by as many as can", cacheOf(0, slot("a", 1, 100000)), "a", cacheOf(0, slot("a", 1, 99999)), true),
		freeCase("nobody holds it", just, "i", just, false),
		freeCase("none", above, "d", above, false),
		freeCase("no name", above, "", above, false),
		freeCase("a name too long", above, strings.Repeat("a", 41), above, false),
		freeCase("nothing there", cacheOf(7), "a", cacheOf(7), false),
	})
}

// heldStay tells whether all that is held in c is in now, with as many pins but for the one that was asked for.
func heldStay(c impl.Cache, now impl.Cache, asked string) bool {
	for _, one := range c.Slots {
		place := placeOf(now.Slots, one.Name)
		if one.Name != asked && one.Pins > 0 && (place < 0 || now.Slots[place] != one) {
			return false
		}
	}
	return true
}

// goneRightly tells whether what went was the last that nobody held, and only as long as there was too much.
func goneRightly(c impl.Cache, now impl.Cache) bool {
	var sum, last int64
	for _, one := range now.Slots {
		sum += one.Size
	}
	idle := 0
	for _, one := range slices.Backward(c.Slots) {
		switch {
		case placeOf(now.Slots, one.Name) < 0:
			last = one.Size
			if idle > 0 {
				return false
			}
		case one.Pins == 0 && now.Slots[placeOf(now.Slots, one.Name)].Pins == 0:
			idle++
		}
	}
	return last == 0 || sum+last > now.Most
}

func TestP11ALongWalk(t *testing.T) {
	for seed := range int64(6) {
		r := rand.New(rand.NewSource(seed))
		c := cacheOf(int64(20 * (seed + 1)))
		done := [6]int{}
		for range 6000 {
			name := fmt.Sprintf("n%d", r.Intn(60))
			if len(c.Slots) > 0 && r.Intn(3) > 0 {
				name = c.Slots[r.Intn(len(c.Slots))].Name
			}
			what := r.Intn(3)
			now, ok := c, false
			switch what {
			case 0:
				now, ok = holdGot(t, c, name)
			case 1:
				now, ok = holdHeld(t, c, name, int64(1+r.Intn(8)))
			case 2:
				now, ok = holdFreed(t, c, name)
			}
			if ok {
				done[what]++
			} else if done[3+what]++; !sameCache(now, c) {
				t.Fatalf("refused, but %v is %v", c, now)
			}
			if ok && what < 2 && (now.Slots[0].Name != name || now.Slots[0].Pins < 1) {
				t.Fatalf("%s is not first and held: %v", name, now)
			}
			if !heldStay(c, now, name) || !goneRightly(c, now) {
				t.Fatalf("%v, %s: %v", c, name, now)
			}
			c = now
		}
		if slices.Min(done[:]) < 100 {
			t.Error(done)
		}
	}
}

func TestP11CachesStayAsTheyAre(t *testing.T) {
	room := []impl.Slot{slot("a", 3, 0), slot("b", 3, 2), slot("c", 4, 100000), slot("mark", 1, 1), slot("mark", 2, 2)}
	before := slices.Clone(room)
	c := cacheOf(10, room[:3]...)
	answers := []func() impl.Cache{
		func() impl.Cache { got, _ := impl.CacheGet(c, "a"); return got },
		func() impl.Cache { got, _ := impl.CacheGet(c, "b"); return got },
		func() impl.Cache { got, _ := impl.CacheGet(c, "c"); return got },
		func() impl.Cache { got, _ := impl.CacheGet(c, "z"); return got },
		func() impl.Cache { got, _ := impl.CachePut(c, "z", 1); return got },
		func() impl.Cache { got, _ := impl.CachePut(c, "z", 0); return got },
		func() impl.Cache { got, _ := impl.CachePut(c, "a", 1); return got },
		func() impl.Cache { got, _ := impl.CacheFree(c, "b"); return got },
		func() impl.Cache { got, _ := impl.CacheFree(c, "a"); return got },
		func() impl.Cache { got, _ := impl.CacheFree(c, "z"); return got },
	}
	for i, answer := range answers {
		first, second := answer(), answer()
		spoil := first.Slots[:cap(first.Slots)]
		for place := range spoil {
			spoil[place] = slot("spoilt", 7, 7)
		}
		if !slices.Equal(room, before) {
			t.Fatalf("%d: the argument was written into: %v", i, room)
		}
		if third := answer(); !sameCache(second, third) {
			t.Fatalf("%d: an answer was kept: %v, %v", i, second, third)
		}
	}
	full := cacheOf(41, append(manySlots(40, 1, 0), slot("mark", 1, 1))[:40]...)
	got, ok := impl.CachePut(full, "z", 1)
	if ok || !sameCache(got, full) || &got.Slots[0] == &full.Slots[0] {
		t.Error(got, ok)
	}
}

func TestP11AnswersHangOnNoOtherCall(t *testing.T) {
	c := cacheOf(60, manySlots(40, 1, 0)...)
	want, _ := putByHand(c, "z", 40)
	got, _ := getByHand(c, "s31")
	var group sync.WaitGroup
	same := make([]bool, 16)
	for i := range same {
		group.Go(func() {
			same[i] = true
			for range 100 {
				left, ok := impl.CachePut(c, "z", 40)
				first, fine := impl.CacheGet(c, "s31")
				_, refused := impl.CacheFree(c, "s31")
				same[i] = same[i] && ok && fine && !refused && sameCache(left, want) && sameCache(first, got)
			}
		})
	}
	group.Wait()
	if slices.Contains(same, false) {
		t.Error(same)
	}
}
