package tests

import (
	"fmt"
	"math"
	"math/rand"
	"slices"
	"strings"
	"sync"
	"testing"

	"loop.example/g00214/impl"
)

func TestP12Limits(t *testing.T) {
	if impl.MaxTables != 30 || impl.MaxLevel != 3 || impl.MaxNumber != 1000000 {
		t.Error(impl.MaxTables, impl.MaxLevel, impl.MaxNumber)
	}
}

func meta(num int64, level int64, first string, last string, count int64) impl.Meta {
	return impl.Meta{Num: num, Level: level, First: first, Last: last, Count: count}
}

func versionOf(next int64, seq int64, log int64, files ...impl.Meta) impl.Version {
	return impl.Version{Files: files, Next: next, Seq: seq, Log: log}
}

func sameVersion(a impl.Version, b impl.Version) bool {
	return a.Next == b.Next && a.Seq == b.Seq && a.Log == b.Log && slices.Equal(a.Files, b.Files)
}

// manyMetas are of one level, in order, with the numbers from 1 on.
func manyMetas(many int, level int64) []impl.Meta {
	var files []impl.Meta
	for i := range int64(many) {
		user := fmt.Sprintf("u%02d", i)
		num := i + 1
		if level == 0 {
			num = int64(many) - i
		}
		files = append(files, meta(num, level, user, user, 1+i%400))
	}
	return files
}

// fewMetas have each level, and users at which one file ends just ahead of the next one.
func fewMetas() []impl.Meta {
	return []impl.Meta{
		meta(9, 0, "b", "y", 3), meta(4, 0, "a", "z", 400), meta(1, 0, "c", "c", 1),
		meta(7, 1, "a", "b", 20), meta(8, 1, "b\x00", "c", 1),
		meta(2, 2, "a", "a", 7),
		meta(3, 3, "\x00", "m", 5), meta(6, 3, "n", "n", 5), meta(5, 3, "z", "\xff", 5),
	}
}

func rightVersions() []impl.Version {
	long := strings.Repeat("u", 40)
	list := []impl.Version{
		versionOf(1, 0, 0), {Files: []impl.Meta{}, Next: 1}, versionOf(2, 0, 0), versionOf(2, 0, 1),
		versionOf(1000000, impl.MaxSeq, 999999), versionOf(1000000, impl.MaxSeq-1, 0),
		versionOf(2, 5, 0, meta(1, 0, "a", "a", 1)), versionOf(1000000, 5, 7, meta(999999, 3, "a", "b", 400)),
		// The log's number may be that of a table: the document keeps only tables apart.
		versionOf(2, 5, 1, meta(1, 2, "\x00", long, 400)), versionOf(2, 5, 1, meta(1, 1, long, long, 1)),
		versionOf(2, 5, 1, meta(1, 0, strings.Repeat("\xff", 40), strings.Repeat("\xff", 40), 1)),
		versionOf(10, 1234567, 9, fewMetas()...), versionOf(300, 0, 128, fewMetas()...),
		versionOf(3, 0, 0, meta(1, 1, "a", "b", 1), meta(2, 1, "b\x00", "c", 1)),
		versionOf(3, 0, 0, meta(2, 1, "a", "az", 1), meta(1, 1, "b", "b", 1)),
		versionOf(3, 0, 0, meta(2, 0, "a", "z", 1), meta(1, 0, "a", "z", 1)),
		versionOf(3, 0, 0, meta(2, 0, "x", "z", 1), meta(1, 1, "a", "b", 1)),
		versionOf(3, 0, 0, meta(1, 0, "x", "z", 1), meta(2, 1, "a", "z", 1)),
		versionOf(3, 0, 0, meta(2, 1, "a", "z", 1), meta(1, 2, "a", "z", 1)),
	}
	for level := range int64(4) {
		list = append(list, versionOf(31, 9, 4, manyMetas(30, level)...), versionOf(1000000, 9, 4, manyMetas(29, level)...))
	}
	return list
}

// wrongMetas are wrong in a version whose Next is 10.
func wrongMetas() []impl.Meta {
	long := strings.Repeat("u", 41)
	list := []impl.Meta{{}, meta(5, 1, "b", "a", 1), meta(5, 0, "a\x00", "a", 1), meta(5, 0, "b", "B", 1)}
	for _, num := range []int64{math.MinInt64, -1, 0, 10, 11, 1000000, 1 << 32, 1<<32 + 5, math.MaxInt64} {
		list = append(list, meta(num, 0, "a", "b", 1), meta(num, 3, "a", "b", 1))
	}
	for _, level := range []int64{math.MinInt64, -1, 4, 5, 1 << 32, 1<<32 + 1, math.MaxInt64} {
		list = append(list, meta(5, level, "a", "b", 1))
	}
	for _, word := range []string{"", long, strings.Repeat("u", 1000)} {
		list = append(list, meta(5, 1, word, "v", 1), meta(5, 1, "a", word, 1), meta(5, 0, word, word, 1))
	}
	for _, count := range []int64{math.MinInt64, -1, 0, 401, 1<<32 + 1, math.MaxInt64} {
		list = append(list, meta(5, 0, "a", "b", count), meta(5, 2, "a", "b", count))
	}
	return list
}

func wrongVersions() []impl.Version {
	few := fewMetas()
	list := []impl.Version{{}, {Files: few}}
	for _, next := range []int64{math.MinInt64, -1, 0, 1000001, 1<<32 + 10, math.MaxInt64} {
		list = append(list, versionOf(next, 0, 0), versionOf(next, 0, 0, few...), versionOf(next, 0, next-1))
	}
	for _, seq := range []int64{math.MinInt64, -1, impl.MaxSeq + 1, math.MaxInt64} {
		list = append(list, versionOf(10, seq, 0), versionOf(10, seq, 0, few...))
	}
	for _, log := range []int64{math.MinInt64, -1, 10, 11, 1 << 32, math.MaxInt64} {
		list = append(list, versionOf(10, 0, log), versionOf(10, 0, log, few...))
	}
	list = append(list, versionOf(1, 0, 1), versionOf(1000000, 0, 1000000), versionOf(9, 0, 0, few...))
	for level := range int64(4) {
		list = append(list, versionOf(1000000, 0, 0, manyMetas(31, level)...), versionOf(1000000, 0, 0, manyMetas(61, level)...))
	}
	for _, one := range wrongMetas() {
		list = append(list, versionOf(10, 0, 0, one), versionOf(10, 0, 0, meta(6, 0, "a", "b", 1), one), versionOf(10, 0, 0, one, meta(6, 3, "x", "z", 1)))
	}
	for place := range few {
		for other := range place {
			swapped := slices.Clone(few)
			swapped[place], swapped[other] = swapped[other], swapped[place]
			alike := slices.Clone(few)
			alike[place].Num = alike[other].Num
			list = append(list, versionOf(10, 0, 0, swapped...), versionOf(10, 0, 0, alike...))
		}
		list = append(list, versionOf(20, 0, 0, slices.Insert(slices.Clone(few), place, few[place])...))
	}
	for level := range int64(3) {
		level++
		list = append(list,
			versionOf(10, 0, 0, meta(1, level, "a", "b", 1), meta(2, level, "b", "c", 1)),
			versionOf(10, 0, 0, meta(1, level, "a", "z", 1), meta(2, level, "b", "c", 1)),
			versionOf(10, 0, 0, meta(1, level, "a", "b", 1), meta(2, level, "a", "b", 1)),
			versionOf(10, 0, 0, meta(2, level, "c", "d", 1), meta(1, level, "a", "b", 1)),
			versionOf(10, 0, 0, meta(1, level, "a", "b", 1), meta(2, level-1, "c", "d", 1)),
			versionOf(10, 0, 0, meta(1, level, "a", "b", 1), meta(1, level, "c", "d", 1)),
			versionOf(10, 0, 0, meta(1, level-1, "a", "b", 1), meta(1, level, "c", "d", 1)),
		)
	}
	return append(list,
		versionOf(10, 0, 0, meta(1, 0, "a", "b", 1), meta(2, 0, "c", "d", 1)),
		versionOf(10, 0, 0, meta(2, 0, "a", "b", 1), meta(2, 0, "c", "d", 1)),
		versionOf(10, 0, 0, meta(3, 0, "a", "b", 1), meta(1, 0, "c", "d", 1), meta(2, 0, "e", "f", 1)),
	)
}

// above tells whether f must stand ahead of g; neither way round where both can't be of one version.
func above(f impl.Meta, g impl.Meta) bool {
	if f.Level != g.Level {
		return f.Level < g.Level
	}
	if f.Level == 0 {
		return f.Num > g.Num
	}
	return f.Last < g.First
}

func within(n int64, least int64, most int64) bool {
	return n >= least && n <= most
}

func metaRight(f impl.Meta, next int64) bool {
	sizes := within(int64(len(f.First)), 1, 40) && within(int64(len(f.Last)), 1, 40)
	return sizes && within(f.Num, 1, next-1) && within(f.Level, 0, 3) && within(f.Count, 1, 400) && f.First <= f.Last
}

func versionRight(v impl.Version) bool {
	if len(v.Files) > 30 || !within(v.Next, 1, 1000000) || !within(v.Seq, 0, 1000000000000) || !within(v.Log, 0, v.Next-1) {
		return false
	}
	for i, f := range v.Files {
		for _, ahead := range v.Files[:i] {
			if ahead.Num == f.Num || !above(ahead, f) {
				return false
			}
		}
		if !metaRight(f, v.Next) {
			return false
		}
	}
	return true
}

// applyByHand puts each file behind as many as must stand ahead of it.
func applyByHand(v impl.Version, e impl.Edit) (impl.Version, bool) {
	if !versionRight(v) || e.Next < v.Next || e.Seq < v.Seq || e.Log < v.Log || len(e.Adds) > 30 {
		return impl.Version{}, false
	}
	left := slices.Clone(v.Files)
	for _, cut := range e.Cuts {
		before := len(left)
		left = slices.DeleteFunc(left, func(f impl.Meta) bool { return f.Num == cut })
		if len(left) == before {
			return impl.Version{}, false
		}
	}
	left = append(left, e.Adds...)
	files := make([]impl.Meta, len(left))
	for _, f := range left {
		place := 0
		for _, other := range left {
			if above(other, f) {
				place++
			}
		}
		if place < len(files) {
			files[place] = f
		}
	}
	out := versionOf(e.Next, e.Seq, e.Log, files...)
	if !versionRight(out) {
		return impl.Version{}, false
	}
	return out, true
}

// holdApply holds an edit to the document, and tells whether it was done.
func holdApply(t *testing.T, v impl.Version, e impl.Edit) (impl.Version, bool) {
	t.Helper()
	got, ok := impl.Apply(v, e)
	want, fine := applyByHand(v, e)
	if ok != fine || !sameVersion(got, want) {
		t.Fatalf("%v to %v: %v, %v, not %v, %v", e, v, got, ok, want, fine)
	}
	return got, ok
}

func done(t *testing.T, word string, v impl.Version, e impl.Edit) {
	t.Helper()
	if got, ok := holdApply(t, v, e); !ok {
		t.Errorf("%s: %v to %v: %v", word, e, v, got)
	}
}

func refused(t *testing.T, word string, v impl.Version, e impl.Edit) {
	t.Helper()
	if got, ok := holdApply(t, v, e); ok {
		t.Errorf("%s: %v to %v: %v", word, e, v, got)
	}
}

// same is the edit that changes nothing.
func same(v impl.Version) impl.Edit {
	return impl.Edit{Next: v.Next, Seq: v.Seq, Log: v.Log}
}

func notAVersion(t *testing.T, word string, v impl.Version) {
	t.Helper()
	if impl.VersionOk(v) {
		t.Errorf("%s is right: %v", word, v)
	}
	later := impl.Edit{Next: 1000000, Seq: impl.MaxSeq, Log: 999999}
	for _, e := range []impl.Edit{{}, same(v), later, {Adds: manyMetas(2, 1), Next: 1000000, Seq: impl.MaxSeq, Log: 999999}} {
		if got, ok := impl.Apply(v, e); ok || !sameVersion(got, impl.Version{}) {
			t.Errorf("%s: edited to %v", word, got)
		}
		if len(v.Files) > 0 {
			e.Cuts = []int64{v.Files[len(v.Files)-1].Num}
			if got, ok := impl.Apply(v, e); ok || !sameVersion(got, impl.Version{}) {
				t.Errorf("%s: edited to %v", word, got)
			}
		}
		for _, list := range [][]impl.Edit{nil, {}, {e}, {e, e}} {
			if got, many := impl.Replay(v, list); many != -1 || !sameVersion(got, impl.Version{}) {
				t.Errorf("%s: replayed to %v, %d", word, got, many)
			}
		}
	}
	if s := impl.VersionText(v); s != "" {
		t.Errorf("%s has the text %q", word, s)
	}
	for _, level := range []int64{-1, 0, 1, 2, 3, 4} {
		if nums := impl.Overlapping(v, level, "", strings.Repeat("\xff", 50)); len(nums) != 0 {
			t.Errorf("%s has %v of level %d", word, nums, level)
		}
	}
	if level, ok := impl.PickLevel(v); ok || level != 0 {
		t.Errorf("%s: picked %d, %v", word, level, ok)
	}
}

func TestP12VersionsThatAreRight(t *testing.T) {
	for i, v := range rightVersions() {
		if !versionRight(v) || !impl.VersionOk(v) {
			t.Errorf("%d is right: %v", i, v)
		}
		if got, ok := impl.Apply(v, same(v)); !ok || !sameVersion(got, v) {
			t.Errorf("%d: no change makes %v, %v", i, got, ok)
		}
		if got, many := impl.Replay(v, nil); many != 0 || !sameVersion(got, v) {
			t.Errorf("%d: no edits make %v, %d", i, got, many)
		}
	}
	for i, v := range wrongVersions() {
		if versionRight(v) {
			t.Fatalf("%d is right: %v", i, v)
		}
		notAVersion(t, fmt.Sprint("version ", i), v)
	}
}

func TestP12EditsWhoseNumbersRise(t *testing.T) {
	v := versionOf(10, 500, 7, fewMetas()...)
	for _, next := range []int64{math.MinInt64, 0, 9, 10, 11, 999999, 1000000, 1000001, math.MaxInt64} {
		for _, seq := range []int64{math.MinInt64, 0, 499, 500, 501, impl.MaxSeq, impl.MaxSeq + 1, math.MaxInt64} {
			for _, log := range []int64{math.MinInt64, 0, 6, 7, 8, 9, 10, 11, 999999, 1000000, math.MaxInt64} {
				_, ok := holdApply(t, v, impl.Edit{Next: next, Seq: seq, Log: log})
				if fine := within(next, 10, 1000000) && within(seq, 500, impl.MaxSeq) && within(log, 7, next-1); ok != fine {
					t.Errorf("%d, %d, %d: %v", next, seq, log, ok)
				}
			}
		}
	}
}

func TestP12WhatIsAddedAndCut(t *testing.T) {
	v := versionOf(10, 500, 7, fewMetas()...)
	edit := func(cuts []int64, adds ...impl.Meta) impl.Edit {
		return impl.Edit{Adds: adds, Cuts: cuts, Next: 12, Seq: 501, Log: 8}
	}
	add := meta(10, 0, "a", "b", 1)
	done(t, "a new one", v, edit(nil, add))
	done(t, "the greatest number", v, edit(nil, meta(11, 0, "a", "b", 1)))
	refused(t, "a number above it", v, edit(nil, meta(12, 0, "a", "b", 1)))
	refused(t, "number 0", v, edit(nil, meta(0, 0, "a", "b", 1)))
	done(t, "all is cut", v, edit([]int64{1, 2, 3, 4, 5, 6, 7, 8, 9}))
	done(t, "all is cut, in any order", v, edit([]int64{5, 9, 1, 4, 3, 2, 8, 7, 6}, add))
	refused(t, "one more is cut", v, edit([]int64{1, 2, 3, 4, 5, 6, 7, 8, 9, 10}))
	refused(t, "one is cut twice", v, edit([]int64{4, 4}))
	refused(t, "one is cut twice, apart", v, edit([]int64{4, 9, 1, 4}))
	refused(t, "what is none is cut", v, edit([]int64{10}))
	refused(t, "what is none is cut last", v, edit([]int64{1, 2, 0}))
	refused(t, "what is only added is cut", v, edit([]int64{10}, add))
	done(t, "cut and added", v, edit([]int64{9}, meta(9, 0, "a", "b", 1)))
	done(t, "cut and added at another level", v, edit([]int64{9}, meta(9, 1, "d", "e", 1)))
	done(t, "cut and added just as it was", v, edit([]int64{7}, fewMetas()[3]))
	refused(t, "there already", v, edit(nil, meta(9, 0, "a", "b", 1)))
	refused(t, "there already, another level", v, edit(nil, meta(9, 1, "x", "y", 1)))
	refused(t, "there already, as it is", v, edit(nil, fewMetas()[3]))
	refused(t, "added twice", v, edit(nil, add, add))
	refused(t, "two of one number", v, edit(nil, add, meta(10, 2, "x", "y", 1)))
	refused(t, "two tables at b", v, edit(nil, meta(10, 1, "Z", "a", 1)))
	refused(t, "two tables at c", v, edit(nil, meta(10, 1, "c", "d", 1)))
	done(t, "just behind c", v, edit(nil, meta(10, 1, "c\x00", "d", 1)))
	done(t, "just ahead of a", v, edit(nil, meta(10, 1, "Z", "Z\xff", 1)))
	refused(t, "two tables at b\x00, one of them cut", v, edit([]int64{8}, meta(10, 1, "b", "c", 1)))
	done(t, "both of them cut", v, edit([]int64{8, 7}, meta(10, 1, "b", "c", 1)))
	done(t, "two that are added, side by side", v, edit(nil, meta(10, 2, "c", "d", 1), meta(11, 2, "b", "bz", 1)))
	refused(t, "two that are added, at one user", v, edit(nil, meta(10, 2, "c", "d", 1), meta(11, 2, "b", "c", 1)))
	done(t, "two of level 0 at one user", v, edit(nil, meta(10, 0, "c", "d", 1), meta(11, 0, "b", "c", 1)))
	for _, one := range wrongMetas() {
		if one.Num < 10 || one.Num > 11 {
			refused(t, "wrong", versionOf(10, 500, 7), edit(nil, one))
			refused(t, "wrong", versionOf(10, 500, 7), edit(nil, add, one))
			refused(t, "wrong", versionOf(10, 500, 7), edit(nil, one, add))
		}
	}
}

func TestP12NumbersBelowNextMayBeAdded(t *testing.T) {
	v := versionOf(10, 0, 0, meta(5, 0, "a", "b", 1))
	done(t, "between", v, impl.Edit{Adds: []impl.Meta{meta(3, 0, "a", "b", 1), meta(8, 0, "a", "b", 1)}, Next: 10})
}

func TestP12AtMost30Tables(t *testing.T) {
	for level := range int64(4) {
		for _, there := range []int{0, 1, 15, 29, 30} {
			v := versionOf(31, 0, 0, manyMetas(there, level)...)
			nums := make([]int64, there)
			for i := range nums {
				nums[i] = int64(i + 1)
			}
			for _, added := range []int{0, 1, 15, 29, 30, 31, 32, 90} {
				var adds []impl.Meta
				for i := range added {
					user := fmt.Sprintf("v%02d", i)
					adds = append(adds, meta(int64(100+i), level, user, user, 1))
				}
				for _, cut := range []int{0, there / 2, there} {
					_, ok := holdApply(t, v, impl.Edit{Adds: adds, Cuts: nums[:cut], Next: 1000})
					if ok != (there-cut+added <= 30) {
						t.Errorf("%d files, %d cut, %d added: %v", there, cut, added, ok)
					}
				}
			}
		}
	}
	refused(t, "31, with no table at the end", versionOf(1, 0, 0), impl.Edit{Adds: make([]impl.Meta, 31), Next: 2})
}

// ordersOf visits each order of list.
func ordersOf(list []impl.Meta, visit func([]impl.Meta)) {
	if len(list) < 2 {
		visit(slices.Clone(list))
		return
	}
	for i := range list {
		rest := slices.Delete(slices.Clone(list), i, i+1)
		ordersOf(rest, func(order []impl.Meta) { visit(append(order, list[i])) })
	}
}

func TestP12AddsInAnyOrder(t *testing.T) {
	few := fewMetas()
	want := versionOf(10, 0, 0, few...)
	orders := 0
	for _, places := range [][]int{{0, 1, 2, 3, 4, 5}, {3, 4, 5, 6, 7, 8}, {0, 2, 3, 5, 7, 8}} {
		var adds []impl.Meta
		left := slices.Clone(few)
		for _, place := range slices.Backward(places) {
			adds = append(adds, few[place])
			left = slices.Delete(left, place, place+1)
		}
		ordersOf(adds, func(order []impl.Meta) {
			orders++
			got, ok := impl.Apply(versionOf(10, 0, 0, left...), impl.Edit{Adds: order, Next: 10})
			if !ok || !sameVersion(got, want) {
				t.Fatalf("%v: %v, %v", order, got, ok)
			}
		})
	}
	if orders != 3*720 {
		t.Error(orders)
	}
	r := rand.New(rand.NewSource(1))
	for range 300 {
		for _, want := range [][]impl.Meta{manyMetas(30, 2), slices.Concat(manyMetas(30, 0)[20:], manyMetas(30, 2)[10:])} {
			adds := slices.Clone(want)
			r.Shuffle(len(adds), func(i int, j int) { adds[i], adds[j] = adds[j], adds[i] })
			if got, ok := impl.Apply(versionOf(1, 0, 0), impl.Edit{Adds: adds, Next: 31}); !ok || !sameVersion(got, versionOf(31, 0, 0, want...)) {
				t.Fatalf("%v: %v, %v", adds, got, ok)
			}
		}
	}
	// Where two can't stand side by side no order helps.
	clash := []impl.Meta{meta(1, 1, "a", "c", 1), meta(2, 1, "b", "d", 1), meta(3, 1, "e", "f", 1), meta(4, 1, "g", "h", 1)}
	ordersOf(clash, func(order []impl.Meta) {
		refused(t, "clash", versionOf(1, 0, 0), impl.Edit{Adds: order, Next: 31})
	})
}

// someMeta is mostly right in a version whose Next is next.
func someMeta(r *rand.Rand, next int64) impl.Meta {
	users := []string{"a", "b", "c", "d", "e", "f", "g", "h"}
	first := r.Intn(len(users))
	last := min(first+r.Intn(3), len(users)-1)
	f := meta(1+r.Int63n(next), r.Int63n(4), users[first], users[last], 1+r.Int63n(90))
	switch r.Intn(40) {
	case 0:
		f.First, f.Last = f.Last, f.First
	case 1:
		f.Level = 4
	case 2:
		f.Count = 0
	}
	return f
}

// someEdit is mostly one that v takes.
func someEdit(r *rand.Rand, v impl.Version) impl.Edit {
	e := impl.Edit{Next: v.Next + r.Int63n(4), Seq: v.Seq + r.Int63n(3), Log: v.Log + r.Int63n(2)}
	for _, f := range v.Files {
		if r.Intn(4) == 0 {
			e.Cuts = append(e.Cuts, f.Num)
		}
	}
	r.Shuffle(len(e.Cuts), func(i int, j int) { e.Cuts[i], e.Cuts[j] = e.Cuts[j], e.Cuts[i] })
	for range r.Intn(3) {
		e.Adds = append(e.Adds, someMeta(r, e.Next+1))
	}
	switch r.Intn(30) {
	case 0:
		e.Cuts = append(e.Cuts, 1+r.Int63n(v.Next))
	case 1:
		e.Seq = v.Seq - 1
	case 2:
		e.Log = v.Log - 1
	case 3:
		e.Next = v.Next - 1
	}
	return e
}

// holdEdited holds what Apply promises of an edit that was done.
func holdEdited(t *testing.T, v impl.Version, e impl.Edit, got impl.Version) {
	t.Helper()
	if !impl.VersionOk(got) || got.Next != e.Next || got.Seq != e.Seq || got.Log != e.Log {
		t.Fatalf("%v to %v: %v", e, v, got)
	}
	for _, f := range e.Adds {
		if !slices.Contains(got.Files, f) {
			t.Fatalf("%v was not added: %v", f, got)
		}
	}
	for _, f := range v.Files {
		cut := slices.Contains(e.Cuts, f.Num)
		if slices.Contains(got.Files, f) == cut && !slices.Contains(e.Adds, f) {
			t.Fatalf("%v was cut, %v: %v", f, cut, got)
		}
	}
	if len(got.Files) != len(v.Files)-len(e.Cuts)+len(e.Adds) {
		t.Fatalf("%v to %v has more: %v", e, v, got)
	}
	for level := range int64(4) {
		for _, user := range []string{"a", "b", "c", "d", "e", "f", "g", "h"} {
			if nums := impl.Overlapping(got, level, user, user); level > 0 && len(nums) > 1 {
				t.Fatalf("%q is in %v of %v", user, nums, got)
			}
		}
	}
}

func TestP12ManyEdits(t *testing.T) {
	r := rand.New(rand.NewSource(2))
	did, not := 0, 0
	for range 400 {
		v := versionOf(1+r.Int63n(3), r.Int63n(9), 0)
		for range 40 {
			e := someEdit(r, v)
			got, ok := holdApply(t, v, e)
			if !ok {
				not++
				continue
			}
			did++
			holdEdited(t, v, e, got)
			v = got
		}
	}
	if did < 3000 || not < 3000 {
		t.Error(did, not)
	}
}

// someEdits are edits of v, what v is behind all that are done, and how many these are: all, or all up to one that is refused.
func someEdits(r *rand.Rand, v impl.Version) ([]impl.Edit, impl.Version, int) {
	var list []impl.Edit
	for range 1 + r.Intn(9) {
		e := someEdit(r, v)
		next, ok := applyByHand(v, e)
		if ok {
			list = append(list, e)
			v = next
		} else if r.Intn(3) == 0 {
			// Behind the one that is refused stands one that would not be.
			return append(list, e, impl.Edit{Next: 1000000, Seq: impl.MaxSeq, Log: 999999}), v, len(list)
		}
	}
	return list, v, len(list)
}

func TestP12EditsInTwoPieces(t *testing.T) {
	r := rand.New(rand.NewSource(3))
	whole := 0
	for range 1500 {
		v := versionOf(1+r.Int63n(3), r.Int63n(9), 0)
		list, want, most := someEdits(r, v)
		if most == len(list) {
			whole++
		}
		got, many := impl.Replay(v, list)
		if many != int64(most) || !sameVersion(got, want) {
			t.Fatalf("%v to %v: %v, %d, not %v, %d", list, v, got, many, want, most)
		}
		for cut := range len(list) + 1 {
			half, first := impl.Replay(v, list[:cut])
			if first != int64(min(cut, most)) {
				t.Fatalf("%v to %v: %d", list[:cut], v, first)
			}
			if cut > most {
				continue
			}
			if rest, more := impl.Replay(half, list[cut:]); first+more != many || !sameVersion(rest, got) {
				t.Fatalf("%v to %v: %v, %d", list[cut:], half, rest, more)
			}
		}
	}
	if whole < 200 || whole > 1300 {
		t.Error(whole)
	}
}

func TestP12ReplayStopsAtTheFirstThatIsRefused(t *testing.T) {
	v := versionOf(2, 3, 1, meta(1, 0, "a", "b", 1))
	good := impl.Edit{Next: 5, Seq: 3, Log: 1, Cuts: []int64{1}, Adds: []impl.Meta{meta(4, 1, "a", "b", 1)}}
	bad := impl.Edit{Next: 5, Seq: 2, Log: 1}
	last := impl.Edit{Next: 9, Seq: 9, Log: 8}
	after := versionOf(5, 3, 1, meta(4, 1, "a", "b", 1))
	for _, c := range []struct {
		list []impl.Edit
		want impl.Version
		many int64
	}{
		{nil, v, 0}, {[]impl.Edit{}, v, 0}, {[]impl.Edit{bad}, v, 0}, {[]impl.Edit{bad, good}, v, 0}, {[]impl.Edit{bad, last, last}, v, 0},
		{[]impl.Edit{good}, after, 1}, {[]impl.Edit{good, bad}, after, 1}, {[]impl.Edit{good, good}, after, 1}, {[]impl.Edit{good, bad, last}, after, 1},
		{[]impl.Edit{good, last}, versionOf(9, 9, 8, after.Files...), 2}, {[]impl.Edit{good, last, last, last}, versionOf(9, 9, 8, after.Files...), 4},
	} {
		if got, many := impl.Replay(v, c.list); many != c.many || !sameVersion(got, c.want) {
			t.Errorf("%v: %v, %d", c.list, got, many)
		}
	}
}

// versionByHand is what the section of v's text has, be v right or not.
func versionByHand(v impl.Version) string {
	text := varByHand(uint64(v.Next)) + varByHand(uint64(v.Seq)) + varByHand(uint64(v.Log)) + varByHand(uint64(len(v.Files)))
	for _, f := range v.Files {
		text += metaByHand(f)
	}
	return text
}

func metaByHand(f impl.Meta) string {
	return varByHand(uint64(f.Num)) + varByHand(uint64(f.Level)) + textByHand(f.First) + textByHand(f.Last) + varByHand(uint64(f.Count))
}

// versionRead is the right version whose text s is; false when there is none.
func versionRead(s string) (impl.Version, bool) {
	text, behind, ok := sectionAt(s, 0)
	if !ok || behind != len(s) {
		return impl.Version{}, false
	}
	in := takenByHand{rest: text}
	v := versionOf(int64(in.number()), int64(in.number()), int64(in.number()))
	for range min(in.number(), 40) {
		f := impl.Meta{Num: int64(in.number()), Level: int64(in.number())}
		f.First = in.bytes(in.number())
		f.Last = in.bytes(in.number())
		f.Count = int64(in.number())
		v.Files = append(v.Files, f)
	}
	if in.short || in.rest != "" || !versionRight(v) || sectionByHand(versionByHand(v)) != s {
		return impl.Version{}, false
	}
	return v, true
}

func holdVersionRead(t *testing.T, word string, s string) bool {
	t.Helper()
	got, ok := impl.ReadVersion(s)
	want, fine := versionRead(s)
	if ok != fine || !sameVersion(got, want) {
		t.Fatalf("%s: ReadVersion(%.300q) is %.300v, %v, not %.300v, %v", word, s, got, ok, want, fine)
	}
	if ok && impl.VersionText(got) != s {
		t.Fatalf("%s: %.300q is read, but not written", word, s)
	}
	return ok
}

// notAVersionText is said of what is known to be none, without a look at it.
func notAVersionText(t *testing.T, word string, s string) {
	t.Helper()
	if got, ok := impl.ReadVersion(s); ok || !sameVersion(got, impl.Version{}) {
		t.Errorf("%s: ReadVersion(%.300q) is %.300v, %v", word, s, got, ok)
	}
}

func TestP12VersionsComeBackFromTheirBytes(t *testing.T) {
	for i, v := range rightVersions() {
		s := impl.VersionText(v)
		if s != sectionByHand(versionByHand(v)) {
			t.Errorf("%d: %q", i, s)
		}
		if back, ok := impl.ReadVersion(s); !ok || !sameVersion(back, v) {
			t.Errorf("%d: %v, %v", i, back, ok)
		}
	}
	for i, v := range wrongVersions() {
		notAVersionText(t, fmt.Sprint("version ", i), sectionByHand(versionByHand(v)))
	}
	r := rand.New(rand.NewSource(4))
	for range 300 {
		v := versionOf(1, 0, 0)
		for range 20 {
			if next, ok := impl.Apply(v, someEdit(r, v)); ok {
				v = next
			}
		}
		if s := impl.VersionText(v); s != sectionByHand(versionByHand(v)) || !holdVersionRead(t, "edited", s) {
			t.Fatalf("%v: %q", v, s)
		}
	}
}

func TestP12BytesOfAVersion(t *testing.T) {
	text := "\xac\x02\x80\x01\x05\x02\x07\x00\x01a\x02bc\x90\x03\xc8\x01\x03\x01d\x01d\x01"
	v := versionOf(300, 128, 5, meta(7, 0, "a", "bc", 400), meta(200, 3, "d", "d", 1))
	if s := impl.VersionText(v); s != sectionByHand(text) {
		t.Errorf("%q", s)
	}
	if back, ok := impl.ReadVersion("\x17" + text + impl.PutFixed(impl.Crc(text))); !ok || !sameVersion(back, v) {
		t.Error(back, ok)
	}
}

func TestP12BytesThatAreNoVersion(t *testing.T) {
	for _, s := range []string{"", "\x00", "\x04", sectionByHand(""), sectionByHand("\x01"), sectionByHand("\x01\x00"), sectionByHand("\x01\x00\x00"), strings.Repeat("\x00", 9), strings.Repeat("\xff", 20)} {
		notAVersionText(t, "short", s)
	}
	for i, v := range rightVersions() {
		word := fmt.Sprint("version ", i)
		s := impl.VersionText(v)
		text := versionByHand(v)
		for cut := range len(s) {
			notAVersionText(t, word+" cut", s[:cut])
		}
		for cut := range len(text) {
			notAVersionText(t, word+" cut, its sum right", sectionByHand(text[:cut]))
			notAVersionText(t, word+" from behind", s[cut+1:])
		}
		for _, more := range []string{"\x00", "\x01", "\xff", "x", s} {
			notAVersionText(t, word+" and more", s+more)
			notAVersionText(t, word+" behind more", more+s)
			notAVersionText(t, word+" and more, its sum right", sectionByHand(text+more))
		}
		turnedOver(s, func(turned string) { notAVersionText(t, word+" turned", turned) })
		notAVersionText(t, word+" without its sum", s[:len(s)-4])
		notAVersionText(t, word+" without its length", s[len(varByHand(uint64(len(text)))):])
		notAVersionText(t, word+" of another sum", textByHand(text)+fixedByHand(0))
		size := varByHand(uint64(len(text)))
		padded := size[:len(size)-1] + string([]byte{size[len(size)-1] | 0x80, 0})
		notAVersionText(t, word+" whose length has a group too many", padded+s[len(size):])
	}
}

func TestP12BitsTurnedOverWhoseSumIsRight(t *testing.T) {
	read, not := 0, 0
	for _, v := range rightVersions() {
		turnedOver(versionByHand(v), func(text string) {
			if holdVersionRead(t, "turned", sectionByHand(text)) {
				read++
			} else {
				not++
			}
		})
	}
	if read < 100 || not < 100 {
		t.Error(read, not)
	}
}

// fieldsOf are the pieces of a version's text, with true where one is a number.
func fieldsOf(v impl.Version) ([]string, []bool) {
	var fields []string
	var numbers []bool
	add := func(field string, number bool) {
		fields = append(fields, field)
		numbers = append(numbers, number)
	}
	for _, n := range []int64{v.Next, v.Seq, v.Log, int64(len(v.Files))} {
		add(varByHand(uint64(n)), true)
	}
	for _, f := range v.Files {
		add(varByHand(uint64(f.Num)), true)
		add(varByHand(uint64(f.Level)), true)
		for _, user := range []string{f.First, f.Last} {
			add(varByHand(uint64(len(user))), true)
			add(user, false)
		}
		add(varByHand(uint64(f.Count)), true)
	}
	return fields, numbers
}

func TestP12NumbersThatAreWrittenOtherwise(t *testing.T) {
	for i, v := range rightVersions() {
		fields, numbers := fieldsOf(v)
		if text := strings.Join(fields, ""); text != versionByHand(v) {
			t.Fatalf("%d: %q", i, text)
		}
		for place, field := range fields {
			if !numbers[place] {
				continue
			}
			with := func(now string) string {
				changed := slices.Clone(fields)
				changed[place] = now
				return sectionByHand(strings.Join(changed, ""))
			}
			word := fmt.Sprintf("version %d, field %d", i, place)
			more := field[:len(field)-1] + string([]byte{field[len(field)-1] | 0x80})
			notAVersionText(t, word+", a group more", with(more+"\x00"))
			notAVersionText(t, word+", two groups more", with(more+"\x80\x00"))
			notAVersionText(t, word+", ten groups", with(more+strings.Repeat("\x80", 9-len(field))+"\x00"))
			notAVersionText(t, word+", no last group", with(strings.Repeat("\xff", 10)))
			n, _, _ := impl.TakeVar(field)
			for _, great := range []uint64{31, 41, 401, 60001, 1000001, impl.MaxSeq + 1, 1<<32 + n, 1<<62 + n, 1<<63 - 1, 1 << 63, 1<<63 + n, math.MaxUint64} {
				if great != n {
					holdVersionRead(t, word+fmt.Sprint(", ", great), with(varByHand(great)))
				}
			}
			for _, great := range []uint64{impl.MaxSeq + 1, 1<<62 + n, 1<<63 - 1, 1 << 63, 1<<63 + n, math.MaxUint64} {
				notAVersionText(t, word+fmt.Sprint(", ", great), with(varByHand(great)))
			}
		}
	}
}

func TestP12FilesThatAreMoreOrLessThanTold(t *testing.T) {
	for level := range int64(4) {
		files := manyMetas(40, level)
		for many := range 41 {
			body := ""
			for _, f := range files[len(files)-many:] {
				body += metaByHand(f)
			}
			for _, told := range []int{0, 1, many - 1, many, many + 1, 30, 31, 32, 128, 1 << 20} {
				s := sectionByHand("\x64\x00\x00" + varByHand(uint64(max(told, 0))) + body)
				if read := holdVersionRead(t, "files", s); read != (max(told, 0) == many && many <= 30) {
					t.Errorf("%d files, %d are told: %v", many, told, read)
				}
			}
		}
	}
}

func TestP12BytesOfAnyKind(t *testing.T) {
	r := rand.New(rand.NewSource(5))
	versions := rightVersions()
	for range 30000 {
		text := []byte(versionByHand(versions[r.Intn(len(versions))]))
		for range 1 + r.Intn(3) {
			text[r.Intn(len(text))] = byte(r.Intn(256))
			begin, end := r.Intn(len(text)), r.Intn(len(text))
			if r.Intn(3) == 0 {
				copy(text[begin:], text[end:end+r.Intn(min(9, len(text)-end))])
			}
		}
		holdVersionRead(t, "any", sectionByHand(string(text)))
		holdVersionRead(t, "any", string(text))
	}
	// A text may be so long that no section has it, or far longer than a version's.
	for _, size := range []int{59990, 60000, 60001, 1 << 20} {
		notAVersionText(t, "long", sectionByHand(versionByHand(versions[0])+strings.Repeat("\x00", size)))
	}
}

func TestP12OverlappingFiles(t *testing.T) {
	v := versionOf(10, 0, 0,
		meta(9, 0, "d", "f", 1), meta(7, 0, "b", "h", 1), meta(2, 0, "f", "g", 1),
		meta(5, 1, "b", "d", 1), meta(3, 1, "f", "h", 1), meta(4, 1, "j", "j", 1), meta(8, 3, "a", "z", 1))
	for _, c := range []struct {
		level int64
		from  string
		to    string
		want  []int64
	}{
		{0, "a", "z", []int64{9, 7, 2}}, {0, "", "z", []int64{9, 7, 2}}, {0, "f", "f", []int64{9, 7, 2}}, {0, "g", "g", []int64{7, 2}}, {0, "b", "c", []int64{7}},
		{0, "f\x00", "z", []int64{7, 2}}, {0, "h", "z", []int64{7}}, {0, "h\x00", "z", nil}, {0, "", "a\xff", nil}, {0, "", "", nil},
		{1, "a", "z", []int64{5, 3, 4}}, {1, "d", "f", []int64{5, 3}}, {1, "d\x00", "e\xff", nil}, {1, "d\x00", "f", []int64{3}}, {1, "d", "e\xff", []int64{5}},
		{1, "", "b", []int64{5}}, {1, "", "a\xff", nil}, {1, "j", "j", []int64{4}}, {1, "j", "k", []int64{4}}, {1, "j\x00", "k", nil}, {1, "i", "j", []int64{4}}, {1, "i", "i\xff", nil},
		// From above to: a file that has both still overlaps.
		{1, "c", "b", []int64{5}}, {1, "d", "b", []int64{5}}, {1, "d\x00", "b", nil}, {1, "d", "a\xff", nil}, {1, "z", "a", nil}, {1, "f", "d", nil}, {0, "f", "d", []int64{9, 7}}, {3, "z", "a", []int64{8}},
		{2, "a", "z", nil}, {3, "m", "m", []int64{8}}, {3, "", strings.Repeat("z", 100), []int64{8}}, {3, strings.Repeat("z", 100), strings.Repeat("z", 100), nil},
		{-1, "a", "z", nil}, {4, "a", "z", nil}, {1 << 32, "a", "z", nil}, {math.MinInt64, "a", "z", nil}, {math.MaxInt64, "a", "z", nil},
	} {
		if got := impl.Overlapping(v, c.level, c.from, c.to); !slices.Equal(got, c.want) {
			t.Errorf("level %d, %q to %q: %v, not %v", c.level, c.from, c.to, got, c.want)
		}
	}
}

func TestP12OneTableOfALevelCanHaveAUser(t *testing.T) {
	for _, v := range rightVersions() {
		for _, f := range v.Files {
			for _, user := range []string{f.First, f.Last, f.First + "\x00", "a", "b", "m", ""} {
				for level := range int64(4) {
					var want []int64
					for _, other := range v.Files {
						if other.Level == level && strings.Compare(other.First, user) < 1 && strings.Compare(user, other.Last) < 1 {
							want = append(want, other.Num)
						}
					}
					got := impl.Overlapping(v, level, user, user)
					if !slices.Equal(got, want) || level > 0 && len(got) > 1 {
						t.Errorf("%q of level %d: %v, not %v", user, level, got, want)
					}
				}
			}
		}
	}
}

func TestP12TheLevelThatIsPicked(t *testing.T) {
	// countsOf is a version with so many files of level 0, and so many entries of the others.
	countsOf := func(files int, counts ...int64) impl.Version {
		v := versionOf(1000, 0, 0, manyMetas(files, 0)...)
		num := int64(100)
		for i, count := range counts {
			for part := range int64(2) {
				user := fmt.Sprint(part)
				if size := count/2 + part*(count%2); size > 0 {
					v.Files = append(v.Files, meta(num, int64(i+1), user, user, size))
				}
				num++
			}
		}
		return v
	}
	for _, c := range []struct {
		v     impl.Version
		level int64
		ok    bool
	}{
		{countsOf(0), 0, false}, {countsOf(3), 0, false}, {countsOf(4), 0, true}, {countsOf(5), 0, true}, {countsOf(30), 0, true},
		{countsOf(3, 20), 0, false}, {countsOf(3, 21), 1, true}, {countsOf(4, 21, 201), 0, true}, {countsOf(4, 20, 200), 0, true}, {countsOf(3, 800), 1, true},
		{countsOf(0, 20, 200), 0, false}, {countsOf(0, 20, 201), 2, true}, {countsOf(0, 21, 201), 1, true}, {countsOf(0, 0, 201), 2, true}, {countsOf(3, 0, 200), 0, false},
		{countsOf(0, 20, 200, 800), 0, false}, {countsOf(3, 20, 200, 201), 0, false}, {countsOf(0, 0, 21), 0, false}, {countsOf(0, 0, 0, 21), 0, false}, {countsOf(3, 19, 199, 800), 0, false},
		{versionOf(2, 0, 0, meta(1, 1, "a", "a", 21)), 1, true}, {versionOf(2, 0, 0, meta(1, 2, "a", "a", 201)), 2, true},
		{versionOf(1, 0, 0), 0, false}, {versionOf(0, 0, 0), 0, false},
	} {
		if level, ok := impl.PickLevel(c.v); level != c.level || ok != c.ok || !versionRight(c.v) && c.ok {
			t.Errorf("%v: %d, %v, not %d, %v", c.v, level, ok, c.level, c.ok)
		}
	}
}

func TestP12VersionsStayAsTheyAre(t *testing.T) {
	// There is room for whatever could be put behind a list.
	marks := slices.Repeat([]impl.Meta{meta(77, 0, "mark", "mark", 7)}, 20)
	files := append(fewMetas(), marks...)
	adds := append([]impl.Meta{meta(12, 1, "y", "z", 1), meta(11, 0, "x", "x", 1), meta(10, 1, "d", "e", 1)}, marks...)
	cuts := append([]int64{9, 1, 4}, make([]int64, 20)...)
	v := versionOf(10, 5, 2, files[:len(fewMetas())]...)
	e := impl.Edit{Adds: adds[:3], Cuts: cuts[:3], Next: 20, Seq: 6, Log: 3}
	edits := []impl.Edit{e, {Next: 1}, {Next: 99}}
	filesBefore, addsBefore, cutsBefore := slices.Clone(files), slices.Clone(adds), slices.Clone(cuts)
	answers := []func() impl.Version{
		func() impl.Version { got, _ := impl.Apply(v, e); return got },
		func() impl.Version { got, _ := impl.Apply(v, same(v)); return got },
		func() impl.Version { got, _ := impl.Replay(v, edits[:2]); return got },
		func() impl.Version { got, _ := impl.Replay(v, edits[1:2]); return got },
		func() impl.Version { got, _ := impl.Replay(v, nil); return got },
		func() impl.Version { got, _ := impl.ReadVersion(impl.VersionText(v)); return got },
	}
	for i, answer := range answers {
		first, second := answer(), answer()
		if len(first.Files) == 0 || !sameVersion(first, second) {
			t.Fatalf("%d: %v, %v", i, first, second)
		}
		spoil := first.Files[:cap(first.Files)]
		for place := range spoil {
			spoil[place] = meta(7, 7, "spoilt", "spoilt", 7)
		}
		if !slices.Equal(files, filesBefore) || !slices.Equal(adds, addsBefore) || !slices.Equal(cuts, cutsBefore) {
			t.Fatalf("%d: an argument was written into", i)
		}
		if third := answer(); !sameVersion(second, third) {
			t.Fatalf("%d: an answer was kept: %v, %v", i, second, third)
		}
	}
	nums := impl.Overlapping(v, 0, "a", "z")
	again := impl.Overlapping(v, 0, "a", "z")
	for i := range nums[:cap(nums)] {
		nums[:cap(nums)][i] = 7
	}
	if !slices.Equal(again, []int64{9, 4, 1}) || !slices.Equal(again, impl.Overlapping(v, 0, "a", "z")) {
		t.Error(again)
	}
}

func TestP12AnswersHangOnNoOtherCall(t *testing.T) {
	v := versionOf(10, 5, 2, fewMetas()...)
	e := impl.Edit{Adds: []impl.Meta{meta(12, 1, "y", "z", 1), meta(10, 1, "d", "e", 1)}, Cuts: []int64{9, 6}, Next: 20, Seq: 6, Log: 3}
	want, _ := applyByHand(v, e)
	var group sync.WaitGroup
	fine := make([]bool, 16)
	for i := range fine {
		group.Go(func() {
			fine[i] = true
			for range 100 {
				got, ok := impl.Apply(v, e)
				back, read := impl.ReadVersion(impl.VersionText(got))
				_, none := impl.Apply(got, e)
				fine[i] = fine[i] && ok && read && !none && sameVersion(got, want) && sameVersion(back, want)
			}
		})
	}
	group.Wait()
	if slices.Contains(fine, false) {
		t.Error(fine)
	}
}
