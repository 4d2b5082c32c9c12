package impl

import (
	"cmp"
	"slices"
	"strings"
)

const (
	MaxUser    = 40
	MaxValue   = 200
	MaxSeq     = 1000000000000
	MaxEntries = 400
	KdDelete   = 0
	KdPut      = 1
)

type Key struct {
	User string
	Seq  int64
	Kind int64
}

type Entry struct {
	Key   Key
	Value string
}

// numberSize is how many bytes of a key's text stand behind its user.
const numberSize = 2 * fixedSize

func KeyOk(k Key) bool {
	return userOk(k.User) && k.Seq >= 0 && k.Seq <= MaxSeq && (k.Kind == KdDelete || k.Kind == KdPut)
}

func userOk(user string) bool {
	return len(user) >= 1 && len(user) <= MaxUser
}

func KeyCmp(a Key, b Key) int64 {
	if !KeyOk(a) || !KeyOk(b) {
		return 0
	}
	return int64(keyOrder(a, b))
}

// keyOrder is the order of right keys, which it does not check once more.
func keyOrder(a Key, b Key) int {
	// Seq and Kind are held against each other the other way round: the newest stands first.
	return cmp.Or(
		cmp.Compare(a.User, b.User),
		cmp.Compare(b.Seq, a.Seq),
		cmp.Compare(b.Kind, a.Kind),
	)
}

func KeyText(k Key) string {
	if !KeyOk(k) {
		return ""
	}
	n := uint64(2*k.Seq + k.Kind)
	return k.User + PutFixed(uint32(n)) + PutFixed(uint32(n>>32))
}

func ReadKey(s string) (Key, bool) {
	size := len(s) - numberSize
	if size < 1 || size > MaxUser {
		return Key{}, false
	}
	low, _ := fixedAt(s[size:])
	high, _ := fixedAt(s[size+fixedSize:])
	n := uint64(high)<<32 | uint64(low)
	k := Key{User: strings.Clone(s[:size]), Seq: int64(n >> 1), Kind: int64(n & 1)}
	if !KeyOk(k) {
		return Key{}, false
	}
	return k, true
}

func EntryOk(e Entry) bool {
	return KeyOk(e.Key) && len(e.Value) <= MaxValue && (e.Key.Kind == KdPut || e.Value == "")
}

func EntriesOk(list []Entry) bool {
	if len(list) > MaxEntries {
		return false
	}
	for i, e := range list {
		if !EntryOk(e) {
			return false
		}
		if i > 0 && keyOrder(list[i-1].Key, e.Key) >= 0 {
			return false
		}
	}
	return true
}

func SeekEntry(list []Entry, k Key) int64 {
	if !EntriesOk(list) || !KeyOk(k) {
		return -1
	}
	place, _ := slices.BinarySearchFunc(list, k, func(e Entry, k Key) int { return keyOrder(e.Key, k) })
	return int64(place)
}

func copyEntry(e Entry) Entry {
	return Entry{
		Key:   Key{User: strings.Clone(e.Key.User), Seq: e.Key.Seq, Kind: e.Key.Kind},
		Value: strings.Clone(e.Value),
	}
}

func copyRow(list []Entry) []Entry {
	var fresh []Entry
	for _, e := range list {
		fresh = append(fresh, copyEntry(e))
	}
	return fresh
}
