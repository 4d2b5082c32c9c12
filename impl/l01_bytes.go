package impl

import (
	"math"
	"strings"
	"sync"
)

const MaxText = 60000

const (
	groupBits  = 7
	groupMask  = 1<<groupBits - 1
	moreGroups = 1 << groupBits
	maxGroups  = 10
	fixedSize  = 4
	crcPoly    = 0x82f63b78
)

// The table is the same for every call, so it is kept once made. Only
// CrcByTable reads it: what all else answers hangs on nothing that is kept.
var (
	crcOnce  sync.Once
	crcWords [256]uint32
)

func PutVar(n uint64) string {
	var groups [maxGroups]byte
	last := 0
	for n >= moreGroups {
		groups[last] = byte(n) | moreGroups
		n >>= groupBits
		last++
	}
	groups[last] = byte(n)
	return string(groups[:last+1])
}

func TakeVar(s string) (uint64, string, bool) {
	n, size := varAt(s)
	if size == 0 {
		return 0, "", false
	}
	return n, strings.Clone(s[size:]), true
}

// varAt tells the number that s begins with and how many bytes it has, 0 bytes
// when there is none. It copies nothing, so that a long text can be read by it
// piece by piece.
func varAt(s string) (uint64, int) {
	var n uint64
	for i := range min(len(s), maxGroups) {
		group := uint64(s[i] & groupMask)
		// Nine groups hold 63 bits, which leaves one bit to the tenth.
		if i == maxGroups-1 && group > 1 {
			return 0, 0
		}
		n |= group << (groupBits * i)
		if s[i] >= moreGroups {
			continue
		}
		if group == 0 && i > 0 {
			return 0, 0
		}
		return n, i + 1
	}
	return 0, 0
}

func PutFixed(x uint32) string {
	return string([]byte{byte(x), byte(x >> 8), byte(x >> 16), byte(x >> 24)})
}

func TakeFixed(s string) (uint32, string, bool) {
	x, ok := fixedAt(s)
	if !ok {
		return 0, "", false
	}
	return x, strings.Clone(s[fixedSize:]), true
}

// fixedAt is TakeFixed without a copy of what stands behind.
func fixedAt(s string) (uint32, bool) {
	if len(s) < fixedSize {
		return 0, false
	}
	return uint32(s[0]) | uint32(s[1])<<8 | uint32(s[2])<<16 | uint32(s[3])<<24, true
}

func Crc(data string) uint32 {
	register := ^uint32(0)
	for i := range len(data) {
		register = crcMoved(register ^ uint32(data[i]))
	}
	return ^register
}

// crcMoved is the register once it was moved eight times.
func crcMoved(register uint32) uint32 {
	for range 8 {
		fallen := register & 1
		register >>= 1
		if fallen == 1 {
			register ^= crcPoly
		}
	}
	return register
}

// CrcByTable is Crc by a step for each byte, not eight: for long data, and to
// hold the one way against the other.
func CrcByTable(data string) uint32 {
	crcOnce.Do(func() { crcWords = makeCrcWords() })
	register := ^uint32(0)
	for i := range len(data) {
		register = crcWords[byte(register)^data[i]] ^ register>>8
	}
	return ^register
}

// makeCrcWords tells what eight moves make of each lowest byte; the upper bytes
// of a register are only moved by them, so the table needs no more words.
func makeCrcWords() [256]uint32 {
	var words [256]uint32
	for low := range words {
		words[low] = crcMoved(uint32(low))
	}
	return words
}

func PutText(s string) string {
	return PutVar(uint64(len(s))) + s
}

func TakeText(s string) (string, string, bool) {
	begin, end, ok := textAt(s)
	if !ok {
		return "", "", false
	}
	return strings.Clone(s[begin:end]), strings.Clone(s[end:]), true
}

// textAt tells where the text that s begins with stands in it, without a copy.
func textAt(s string) (int, int, bool) {
	n, begin := varAt(s)
	// The number is held against the limits ahead of any sum: it may be too great for an int.
	if begin == 0 || n > MaxText || n > uint64(len(s)-begin) {
		return 0, 0, false
	}
	return begin, begin + int(n), true
}

// A reader takes one thing behind the other from the beginning of rest. What is
// not there is told as zero, and the reader remembers that it was missing, so
// that a caller asks once, at the end.
type reader struct {
	rest    string
	missing bool
}

// number is a number of PutVar that an int64 holds.
func (r *reader) number() int64 {
	n, size := varAt(r.rest)
	if size == 0 || n > math.MaxInt64 {
		r.lose()
		return 0
	}
	r.rest = r.rest[size:]
	return int64(n)
}

// single is one byte.
func (r *reader) single() byte {
	if r.rest == "" {
		r.lose()
		return 0
	}
	b := r.rest[0]
	r.rest = r.rest[1:]
	return b
}

// text is a copy of a text of PutText.
func (r *reader) text() string {
	begin, end, ok := textAt(r.rest)
	if !ok {
		r.lose()
		return ""
	}
	text := strings.Clone(r.rest[begin:end])
	r.rest = r.rest[end:]
	return text
}

// lose leaves nothing to read, so that all that is asked behind it is missing too.
func (r *reader) lose() {
	*r = reader{missing: true}
}

// done tells whether all was there and nothing is left.
func (r *reader) done() bool {
	return !r.missing && r.rest == ""
}
