package tests

import (
	"fmt"
	"math/rand"
	"regexp"
	"slices"
	"strconv"
	"strings"
	"sync"
	"testing"

	"loop.example/g00214/impl"
)

func TestP17Limits(t *testing.T) {
	if impl.MaxScript != 60 || impl.MaxLines != 6000 {
		t.Error(impl.MaxScript, impl.MaxLines)
	}
}

// What a line is like that says more than "what", its words one blank apart.
var (
	poweredForm = lineForm(`(?:new|flush|compact|open)(?: N)?`)
	putForm     = lineForm(`(?:put|sync)(?: U U){1,20}`)
	delForm     = lineForm(`del(?: U){1,20}`)
	crashForm   = lineForm(`crash N N`)
	getForm     = lineForm(`get U`)
	scanForm    = lineForm(`scan(?: U){0,2}`)
	seqForm     = lineForm(`seq`)
	filesForm   = lineForm(`files`)
	manyBlanks  = regexp.MustCompile(`\x20+`)
)

func lineForm(form string) *regexp.Regexp {
	form = strings.NewReplacer("U", `[a-z0-9]{1,12}`, "N", `(?:0|[1-9][0-9]{0,2}|1000)`).Replace(form)
	return regexp.MustCompile(`\A(?:` + form + `)\z`)
}

// A scribe tells by hand what lines say, one behind the other.
type scribe struct{ disk impl.Disk }

func (s *scribe) done(a impl.Act) string {
	left, _, code := doneByHand(s.disk, a)
	s.disk = left
	if code != impl.StOk {
		return fmt.Sprint("no ", code)
	}
	return "ok"
}

// line is told of words that are one blank apart.
func (s *scribe) line(line string) string {
	words := strings.Split(line, " ")
	switch {
	case poweredForm.MatchString(line):
		a := acting(map[string]int64{"new": impl.AcNew, "flush": impl.AcFlush, "compact": impl.AcCompact, "open": impl.AcOpen}[words[0]])
		if len(words) > 1 {
			a.Power = numberByHand(words[1])
		}
		return s.done(a)
	case putForm.MatchString(line):
		a := impl.Act{Kind: impl.AcWrite, Sync: words[0] == "sync", Power: -1}
		for i := 1; i < len(words); i += 2 {
			a.Ops = append(a.Ops, set(words[i], words[i+1]))
		}
		return s.done(a)
	case delForm.MatchString(line):
		a := impl.Act{Kind: impl.AcWrite, Power: -1}
		for _, user := range words[1:] {
			a.Ops = append(a.Ops, del(user))
		}
		return s.done(a)
	case crashForm.MatchString(line):
		a := crashing(numberByHand(words[2]))
		for i := range s.disk.Ops {
			if int64(i) < numberByHand(words[1]) {
				a.Keep = append(a.Keep, int64(i))
			}
		}
		return s.done(a)
	case filesForm.MatchString(line):
		for _, f := range s.disk.Live {
			line += " " + f.Name
		}
		return line
	case getForm.MatchString(line), scanForm.MatchString(line), seqForm.MatchString(line):
		return s.asked(words)
	}
	return "what"
}

// asked is what a line says that asks what the store has.
func (s *scribe) asked(words []string) string {
	has, code := storedByHand(s.disk)
	if code != impl.StOk {
		return fmt.Sprint("no ", code)
	}
	pairs := visibleByHand(has.all(), has.last)
	switch words[0] {
	case "seq":
		return fmt.Sprint("seq ", has.last)
	case "get":
		for _, p := range pairs {
			if p.User == words[1] {
				return "is " + p.Value
			}
		}
		return "none"
	}
	bounds := append(slices.Clone(words[1:]), "", "")
	said := "scan"
	for _, p := range betweenByHand(pairs, bounds[0], bounds[1]) {
		said += " " + p.User + "=" + p.Value
	}
	return said
}

func numberByHand(word string) int64 {
	n, _ := strconv.Atoi(word)
	return int64(n)
}

func saidByHand(text string) string {
	lines := strings.Split(text, "\n")
	// Behind the last line feed there is no line, so that nothing may stand there.
	last := len(lines) - 1
	if lines[last] != "" || last > 60 || len(text) > 6000 {
		return "too long\n"
	}
	s := &scribe{}
	said := ""
	for _, line := range lines[:last] {
		line = strings.Trim(manyBlanks.ReplaceAllString(line, " "), " ")
		if line != "" {
			said += s.line(line) + "\n"
		}
	}
	return said
}

// holdSaid holds what a script says to what is told by hand.
func holdSaid(t *testing.T, text string) string {
	t.Helper()
	want := saidByHand(text)
	got := impl.RunScript(text)
	if got != want {
		t.Fatalf("%q says\n%q, not\n%q", brief(text), brief(got), brief(want))
	}
	return got
}

// script is lines, each ended.
func script(lines ...string) string {
	return strings.Join(append(slices.Clone(lines), ""), "\n")
}

// said is the answers of the lines of a script.
func said(t *testing.T, lines ...string) []string {
	t.Helper()
	answers := strings.SplitAfter(holdSaid(t, script(lines...)), "\n")
	if answers[len(answers)-1] != "" {
		t.Fatalf("%q: its last answer is not ended", lines)
	}
	return answers[:len(answers)-1]
}

// lastSaid is the answer of the last line, without its line feed.
func lastSaid(t *testing.T, lines ...string) string {
	t.Helper()
	answers := said(t, lines...)
	return strings.TrimSuffix(answers[len(answers)-1], "\n")
}

// spokenScripts are scripts and what they say, one answer a line with words.
func spokenScripts() [][2][]string {
	return [][2][]string{
		{
			{"new", "put a 1", "get a", "put a 2 b 3", "get a", "get b", "get c", "seq", "scan", "files"},
			{"ok", "ok", "is 1", "ok", "is 2", "is 3", "none", "seq 3", "scan a=2 b=3", "files log-1 manifest"},
		},
		{
			{"new", "put b 2 a 1 ab 3", "del ab", "del x", "get ab", "scan", "scan a", "scan b", "scan a b", "scan ab b", "scan b a", "seq"},
			{"ok", "ok", "ok", "ok", "none", "scan a=1 b=2", "scan a=1 b=2", "scan b=2", "scan a=1", "scan", "scan", "seq 5"},
		},
		{
			{"new", "put a 1 a 2 a 3", "get a", "seq", "del a b c", "scan", "seq", "put a a", "get a"},
			{"ok", "ok", "is 3", "seq 3", "ok", "scan", "seq 6", "ok", "is a"},
		},
		{
			{"new", "put a 1", "crash 0 0", "scan", "put a 1", "crash 1 0", "scan", "put a 1", "crash 1 1000", "scan", "sync a 2", "crash 0 0", "scan"},
			{"ok", "ok", "ok", "scan", "ok", "ok", "scan", "ok", "ok", "scan a=1", "ok", "ok", "scan a=2"},
		},
		{
			{"new", "flush", "compact", "open", "files", "put a 1", "flush", "files", "put a 2 b 2", "flush", "files", "compact", "files", "scan", "seq"},
			{"ok", "ok", "ok", "ok", "files manifest", "ok", "ok", "files manifest table-2", "ok", "ok", "files manifest table-2 table-4", "ok", "files manifest table-6", "scan a=2 b=2", "seq 3"},
		},
		{
			{"new", "sync a 1", "flush 0", "files", "flush 1", "files", "crash 0 0", "files", "get a"},
			{"ok", "ok", "no 7", "files log-1 manifest", "no 7", "files log-1 manifest table-2", "ok", "files log-1 manifest", "is 1"},
		},
		{
			{"new 0", "files", "new 1", "new 2", "files", "new 3", "files", "new", "new 4", "open 0", "flush 0", "compact 0", "files"},
			{"no 7", "files", "no 7", "no 7", "files manifest.new", "no 7", "files manifest.new", "ok", "no 4", "ok", "ok", "ok", "files manifest"},
		},
		{
			{"", "   ", "new", "", " ", "  put   a  1 ", "get a   ", "      scan", ""},
			{"ok", "ok", "is 1", "scan a=1"},
		},
		{
			{"new", "put 123456789012 abcdefghijkl", "scan", "put 0 z", "scan", "scan 1", "scan 0 00", "get 0"},
			{"ok", "ok", "scan 123456789012=abcdefghijkl", "ok", "scan 0=z 123456789012=abcdefghijkl", "scan 123456789012=abcdefghijkl", "scan 0=z", "is z"},
		},
		{
			{"new", "put new flush", "put put put", "scan scan", "get get", "get new", "del del", "scan", "sync seq files", "seq seq", "files files"},
			{"ok", "ok", "ok", "scan", "none", "is flush", "ok", "scan new=flush put=put", "ok", "what", "what"},
		},
		{
			{"New", "NEW", "news", "ne", "n ew", "new new", "new -1", "new 1 2", "put", "put a", "put a b c", "sync", "del", "get", "get a b", "crash", "crash 1", "crash 1 2 3", "scan a b c", "seq a", "files a", "what", "ok", "no 1", "files"},
			append(slices.Repeat([]string{"what"}, 24), "files"),
		},
	}
}

func TestP17ScriptsThatAreSpoken(t *testing.T) {
	for _, c := range spokenScripts() {
		if got := holdSaid(t, script(c[0]...)); got != script(c[1]...) {
			t.Errorf("%q says\n%q, not\n%q", c[0], got, c[1])
		}
	}
}

func TestP17TooLong(t *testing.T) {
	lines := func(many int, line string) string { return strings.Repeat(line+"\n", many) }
	// A script of so many bytes, of one line that is none and a good one.
	bytes := func(many int) string { return strings.Repeat("x", many-7) + "\nfiles\n" }
	for _, c := range []struct {
		text string
		want string
	}{
		{"", ""}, {"\n", ""}, {" \n", ""}, {"\n\n", ""}, {lines(60, ""), ""}, {lines(61, ""), "too long\n"}, {lines(59, " ") + "files\n", "files\n"}, {lines(60, " ") + "files\n", "too long\n"},
		{"files\n" + lines(59, ""), "files\n"}, {"files\n" + lines(60, ""), "too long\n"}, {lines(30, "files\n"), lines(30, "files")}, {lines(30, "files\n") + "\n", "too long\n"},
		{lines(59, "files"), lines(59, "files")}, {lines(60, "files"), lines(60, "files")}, {lines(61, "files"), "too long\n"}, {lines(1000, "files"), "too long\n"}, {lines(60, "x"), lines(60, "what")}, {lines(61, "x"), "too long\n"},
		{bytes(5999), "what\nfiles\n"}, {bytes(6000), "what\nfiles\n"}, {bytes(6001), "too long\n"}, {bytes(100000), "too long\n"},
		{strings.Repeat(" ", 5999) + "\n", ""}, {strings.Repeat(" ", 6000) + "\n", "too long\n"}, {strings.Repeat(" ", 6000), "too long\n"}, {strings.Repeat(" ", 6001), "too long\n"},
		{lines(60, strings.Repeat(" ", 94)+"files"), lines(60, "files")}, {lines(59, strings.Repeat(" ", 94)+"files") + strings.Repeat(" ", 95) + "files\n", "too long\n"},
		{lines(6000, ""), "too long\n"}, {lines(6001, ""), "too long\n"},
		// Bytes are counted, not letters.
		{strings.Repeat("ü", 2999) + "x\n", "what\n"}, {strings.Repeat("ü", 3000) + "\n", "too long\n"},
		{" ", "too long\n"}, {"x", "too long\n"}, {"new", "too long\n"}, {"seq\r", "too long\n"}, {"\x00", "too long\n"}, {"files\nfiles", "too long\n"}, {"files\n\nfiles\n ", "too long\n"}, {"files\n\r", "too long\n"}, {"files\n\nnew", "too long\n"},
		{lines(60, "files") + " ", "too long\n"}, {lines(59, "files") + "files", "too long\n"}, {lines(60, "files") + "files", "too long\n"},
	} {
		if got := holdSaid(t, c.text); got != c.want {
			t.Errorf("%q (%d) says %q, not %q", brief(c.text), len(c.text), got, c.want)
		}
	}
}

func TestP17Blanks(t *testing.T) {
	for _, c := range spokenScripts() {
		want := script(c[1]...)
		for _, gap := range []string{" ", "  ", strings.Repeat(" ", 20)} {
			wide := strings.ReplaceAll(script(c[0]...), " ", gap)
			for _, text := range []string{wide, strings.ReplaceAll(wide, "\n", gap+"\n"), gap + strings.ReplaceAll(wide, "\n", "\n"+gap) + "\n", strings.ReplaceAll(wide, "\n", "\n"+gap+"\n\n"), strings.ReplaceAll(wide, "\n", gap+"\n"+gap+"\n")} {
				if got := holdSaid(t, text); strings.Count(text, "\n") <= 60 && got != want {
					t.Errorf("%q says\n%q, not\n%q", text, got, want)
				}
			}
		}
	}
}

// oddBytes are what might be held to be a blank, a letter, a digit or the end of a line.
func oddBytes() []string {
	list := []string{"é", "ü", "ß", "ａ", "１", "٣", "²", "\u00a0", "\u0085", "\u2003", "\u2028", "\u200b", "\u3000", "\ufeff", "\r\n", "\n\r"}
	for b := range 256 {
		list = append(list, string([]byte{byte(b)}))
	}
	return list
}

func TestP17OddBytes(t *testing.T) {
	good := map[string]bool{" ": true, "\n": true}
	for _, line := range []string{"put a b", "get b", "scan", "crash 1 0", "flush 9"} {
		for _, odd := range oddBytes() {
			for place := range len(line) + 1 {
				into := "new\nput b c\n" + line[:place] + odd + line[place:] + "\nscan\nfiles\n"
				got := holdSaid(t, into)
				digit := len(odd) == 1 && (odd[0] >= '0' && odd[0] <= '9' || odd[0] >= 'a' && odd[0] <= 'z')
				if !digit && !good[odd] && !strings.Contains(got, "what\n") {
					t.Errorf("%q says %q", into, got)
				}
				if place < len(line) {
					holdSaid(t, "new\nput b c\n"+line[:place]+odd+line[place+1:]+"\nscan\nfiles\n")
				}
			}
		}
	}
	for _, odd := range oddBytes() {
		if got := holdSaid(t, odd+"\n"); !good[odd] && strings.Trim(got, "\n") != "what" {
			t.Errorf("%q alone says %q", odd, got)
		}
		if got := holdSaid(t, "files\n"+odd); got != "too long\n" && odd != "\n" && odd != "\r\n" {
			t.Errorf("%q at the end says %q", odd, got)
		}
	}
}

func TestP17WordsOfEachLine(t *testing.T) {
	least := map[string]int{"put": 2, "sync": 2, "del": 1, "crash": 2, "get": 1}
	most := map[string]int{"new": 1, "flush": 1, "compact": 1, "open": 1, "put": 40, "sync": 40, "del": 20, "crash": 2, "get": 1, "scan": 2}
	for _, verb := range []string{"new", "flush", "compact", "open", "put", "sync", "del", "crash", "get", "scan", "seq", "files"} {
		for many := range most[verb] + 3 {
			line := verb + strings.Repeat(" 1", many)
			odd := (verb == "put" || verb == "sync") && many%2 == 1
			fine := many >= least[verb] && many <= most[verb] && !odd
			for _, ahead := range [][]string{nil, {"new"}, {"new", "put a b 1 c"}, {"new", "put a b", "flush", "put 1 c"}} {
				got := lastSaid(t, append(ahead, line)...)
				if fine == (got == "what") {
					t.Errorf("%q behind %q says %q", line, ahead, got)
				}
				// A line that is none does nothing.
				if !fine {
					asked := []string{"scan", "seq", "files"}
					with := said(t, slices.Concat(ahead, []string{line}, asked)...)
					without := said(t, slices.Concat(ahead, asked)...)
					if !slices.Equal(with[len(ahead)+1:], without[len(ahead):]) {
						t.Errorf("%q behind %q: %q, not %q", line, ahead, with, without)
					}
				}
			}
		}
	}
}

func TestP17Names(t *testing.T) {
	good := []string{"a", "z", "0", "9", "ab", "a0", "0a", "00", "01", "abcdefghijk", "abcdefghijkl", "000000000000", "mnopqrstuvwx", "yz0123456789"}
	wrong := []string{
		"A", "Z", "aB", "Ba", "abcdefghijklm", "0000000000000", strings.Repeat("a", 100), "-", "_", "a-", "-a", "a_b", "a.b", "a=b", "a,", "a/", "a:", "`", "{", "@", "[", "~", "!", "é", "aé", "éa", "ａ", "٣",
		"a\t", "\ta", "a\tb", "a\r", "\x00", "a\x00", "\x80", "\xff", "a\xff", "\xc3", "abcdefghijkL", "Abcdefghijkl", "abcdefghijk\x00", "a\vb", "a\u00a0b",
	}
	for _, line := range []string{"put U v", "put v U", "put a b U v", "put a b v U", "sync U v", "sync v U", "sync a b v U", "del U", "del a U", "del U a", "get U", "scan U", "scan U zz", "scan a U", "scan U U"} {
		for i, name := range append(good, wrong...) {
			asked := strings.ReplaceAll(line, "U", name)
			got := said(t, "new", "put v w", asked, "scan", "get v", "seq")
			if bad := i >= len(good); bad != (got[2] == "what\n") {
				t.Errorf("%q says %q", asked, got)
			}
		}
		// A name of no bytes is none, so that there is a word too few.
		few := strings.ReplaceAll(line, "U", "")
		if got := lastSaid(t, "new", few); (got == "what") != (few[:3] != "sca" && few != "del a " && few != "del  a") {
			t.Errorf("%q says %q", few, got)
		}
	}
	// A name that is put is the one that is told.
	for _, name := range good {
		if got := said(t, "new", "put "+name+" x y "+name, "get "+name, "get y", "scan"); got[2] != "is x\n" || got[3] != "is "+name+"\n" || !strings.Contains(got[4], " "+name+"=x") || !strings.Contains(got[4], " y="+name) {
			t.Errorf("%q: %q", name, got)
		}
	}
}

func TestP17Numbers(t *testing.T) {
	good := []string{"0", "1", "2", "3", "8", "9", "10", "11", "19", "90", "99", "100", "101", "909", "990", "999", "1000"}
	wrong := []string{
		"1001", "1009", "1010", "1100", "2000", "9999", "00", "01", "09", "000", "001", "010", "0000", "0001", "0010", "0999", "01000", "10000", "99999", "00000", "00001", "18446744073709551616", "18446744073709551617", strings.Repeat("1", 500), strings.Repeat("0", 500) + "1",
		"-0", "-1", "-1000", "+0", "+1", "1-", "1+", "a", "1a", "a1", "0a", "0x1", "0b1", "0o1", "1e2", "1e0", "1.0", "1.", ".1", "1_0", "1_000", "1,000", "x", "ten", "nan", "inf", "²", "１", "٣", "1\t", "\t1", "1\r", "1\x00", "\x001", "1\xff", "\xff",
	}
	for _, line := range []string{"new N", "flush N", "compact N", "open N", "crash N 0", "crash 0 N", "crash 1 N", "crash N N"} {
		for i, word := range append(good, wrong...) {
			asked := strings.ReplaceAll(line, "N", word)
			got := said(t, "new", "put a 1", "flush", "put a 2", "put a 3", asked, "get a", "files")
			if bad := i >= len(good); bad != (got[5] == "what\n") {
				t.Errorf("%q says %q", asked, got)
			}
		}
	}
	if got := lastSaid(t, "new", "crash 1 x"); got != "what" {
		t.Error(got)
	}
}

// listed is a line of a word and of so many pieces made of their places.
func listed(word string, many int, piece func(int) string) string {
	for i := range many {
		word += " " + piece(i)
	}
	return word
}

func TestP17BatchesThatAreWritten(t *testing.T) {
	pair := func(i int) string { return fmt.Sprintf("u%d v%d", 10+i, i) }
	alike := func(i int) string { return fmt.Sprint("u15 v", i) }
	has := func(i int) string { return fmt.Sprintf("u%d=v%d", 10+i, i) }
	for many := 1; many < 24; many++ {
		for _, word := range []string{"put", "sync"} {
			want := []string{"ok", fmt.Sprint("seq ", many), listed("scan", many, has), "ok", "scan", "ok", fmt.Sprintf("is v%d", many-1), "what"}
			if word == "sync" {
				want[4] = want[2]
			}
			if many > 20 {
				want = []string{"what", "seq 0", "scan", "ok", "scan", "what", "none", "what"}
			}
			whole := listed(word, many, pair)
			// A value too few.
			short := whole[:strings.LastIndex(whole, " ")]
			if got := said(t, "new", whole, "seq", "scan", "crash 0 0", "scan", listed(word, many, alike), "get u15", short); !slices.Equal(got[1:], strings.SplitAfter(script(want...), "\n")[:8]) {
				t.Errorf("%s of %d: %q, not %q", word, many, got, want)
			}
		}
	}
}

func TestP17BatchesThatDelete(t *testing.T) {
	pair := func(i int) string { return fmt.Sprintf("u%d v%d", 10+i, i) }
	user := func(i int) string { return fmt.Sprint("u", 10+i) }
	for many := 1; many < 24; many++ {
		line := listed("del", many, user)
		got := said(t, "new", listed("sync", 20, pair), line, "scan", "seq", "crash 0 0", "scan", "seq")
		want, left, seq := "ok\n", 20-many, fmt.Sprintf("seq %d\n", 20+many)
		if many > 20 {
			want, left, seq = "what\n", 20, "seq 20\n"
		}
		// It is not synced.
		if got[2] != want || strings.Count(got[3], "=") != left || got[4] != seq || strings.Count(got[6], "=") != 20 || got[7] != "seq 20\n" {
			t.Errorf("del of %d: %q", many, got)
		}
		// None of them is there.
		if got := said(t, "new", line, "scan", line); got[1] != want || got[2] != "scan\n" || got[3] != want {
			t.Errorf("del of %d that are not there: %q", many, got)
		}
	}
	if got := said(t, "new", "put a 1 b 2", "del a a a", "seq", "scan"); got[2] != "ok\n" || got[3] != "seq 5\n" || got[4] != "scan b=2\n" {
		t.Error(got)
	}
}

// eachLine has each line of the table.
func eachLine() []string {
	return []string{
		"new", "new 0", "new 5", "flush", "flush 0", "flush 5", "compact", "compact 0", "compact 5", "open", "open 0", "open 5", "put a 1", "put a 1 b 2", "sync a 3", "sync b 4 c 5", "del a", "del b x",
		"crash 0 0", "crash 1 0", "crash 1 9", "crash 1000 1000", "get a", "get x", "scan", "scan a", "scan b", "scan a b", "seq", "files", "", "  ", "fly",
	}
}

func TestP17AheadOfNew(t *testing.T) {
	codes := map[string]string{"new": "ok", "new 0": "no 7", "new 5": "ok", "files": "files", "fly": "what"}
	for _, line := range eachLine() {
		want := codes[line]
		if want == "" {
			want = "no 2"
		}
		if strings.TrimSpace(line) == "" {
			continue
		}
		if got := lastSaid(t, line); got != want {
			t.Errorf("%q says %q, not %q", line, got, want)
		}
		for _, other := range eachLine() {
			holdSaid(t, script(line, other, "files", "new", "files", "scan"))
			holdSaid(t, script("new", line, "new", other, "seq", "scan", "files"))
		}
	}
	if got := said(t, "new", "new", "new 0", "put a 1", "new", "get a"); !slices.Equal(got, []string{"ok\n", "no 4\n", "no 4\n", "ok\n", "no 4\n", "is 1\n"}) {
		t.Error(got)
	}
}

func TestP17TwoLinesBehindEachOther(t *testing.T) {
	for _, ahead := range [][]string{{"new"}, {"new", "sync a x"}, {"new", "put a x b y", "flush", "put b z"}, {"new", "put c x", "flush", "put a y", "flush", "del c", "flush 4"}} {
		for _, line := range eachLine() {
			for _, other := range eachLine() {
				holdSaid(t, script(slices.Concat(ahead, []string{line, "files", other, "scan", "seq", "files"})...))
			}
		}
	}
}

func TestP17EachPower(t *testing.T) {
	cases := [][]string{
		{"new"}, {"put a 1", "new 2", "new"}, {"new 3", "new"}, {"new 2", "crash 1 5", "new"},
		{"new", "put a 1", "flush"}, {"new", "sync a 1", "put b 2", "flush"}, {"new", "put a 1", "flush", "del a", "flush"}, {"new", "flush"}, {"new", "put a 1", "flush 2", "flush"}, {"new", "put a 1", "flush 5", "flush"},
		{"new", "put a 1", "flush", "put a 2", "flush", "compact"}, {"new", "put a 1", "flush", "del a", "flush", "put b 3", "compact"}, {"new", "put a 1", "compact"}, {"new", "put a 1", "flush", "compact 3", "compact"},
		{"new", "open"}, {"new", "put a 1", "flush 2", "open"}, {"new", "put a 1", "flush", "put b 1", "flush", "compact 6", "open"}, {"new", "put a 1", "flush 5", "open"},
	}
	for _, lines := range cases {
		ahead, verb := lines[:len(lines)-1], lines[len(lines)-1]
		whole := said(t, append(slices.Clone(lines), "files", "scan", "seq")...)
		power := 0
		for ; ; power++ {
			got := said(t, append(slices.Clone(ahead), fmt.Sprint(verb, " ", power), "files", "scan", "seq")...)
			if got[len(ahead)] == whole[len(ahead)] {
				break
			}
			if got[len(ahead)] != "no 7\n" {
				t.Fatalf("%q with power %d: %q", lines, power, got)
			}
			// Power is lost then, and what was done is opened; or else the act is done anew.
			holdSaid(t, script(append(slices.Clone(ahead), fmt.Sprint(verb, " ", power), "crash 0 0", "files", "scan", "put z z", verb, "files", "scan")...))
			holdSaid(t, script(append(slices.Clone(ahead), fmt.Sprint(verb, " ", power), "crash 1 3", "files", "scan", "put z z", "open", "files", "scan")...))
			for again := range 4 {
				holdSaid(t, script(append(slices.Clone(ahead), fmt.Sprint(verb, " ", power), fmt.Sprint(verb, " ", again), "files", "scan", "open", "files", "scan")...))
			}
		}
		for _, more := range []int{power, power + 1, 1000} {
			if got := said(t, append(slices.Clone(ahead), fmt.Sprint(verb, " ", more), "files", "scan", "seq")...); !slices.Equal(got, whole) {
				t.Errorf("%q with power %d: %q, not %q", lines, more, got, whole)
			}
		}
	}
	// What is told of a power holds for its line alone.
	if got := said(t, "new 1", "new", "put a 1", "flush 1", "flush", "compact 2", "compact", "get a"); !slices.Equal(got, strings.SplitAfter("no 7\nok\nok\nno 7\nok\nno 7\nok\nis 1\n", "\n")[:8]) {
		t.Error(got)
	}
}

func TestP17Crashes(t *testing.T) {
	ahead := []string{"new", "sync a 1", "put a 2", "put b 3 c 4", "del a"}
	left := []string{"scan a=1\n", "scan a=2\n", "scan a=2 b=3 c=4\n", "scan b=3 c=4\n"}
	for keep := range 6 {
		for torn := range 40 {
			got := said(t, append(slices.Clone(ahead), fmt.Sprint("crash ", keep, " ", torn), "scan", "seq", "files")...)
			// The last one kept counts if it is whole.
			whole := min(keep, 3)
			least := max(whole-1, 0)
			if got[6] != left[least] && got[6] != left[whole] || torn == 0 && got[6] != left[least] || torn == 39 && got[6] != left[whole] {
				t.Errorf("%d kept, torn at %d: %q", keep, torn, got)
			}
			if got[5] != "ok\n" {
				t.Errorf("%d kept, torn at %d: %q", keep, torn, got)
			}
		}
	}
	for _, keep := range []string{"3", "4", "9", "10", "100", "999", "1000"} {
		if got := said(t, append(slices.Clone(ahead), "crash "+keep+" 1000", "scan", "crash "+keep+" 0", "scan")...); got[6] != "scan b=3 c=4\n" || got[8] != got[6] {
			t.Errorf("%s kept of 3: %q", keep, got)
		}
	}
	// Ops of acts that lost their power are kept or lost like all others.
	for power := range 10 {
		for keep := range 8 {
			for _, torn := range []int{0, 1, 5, 20, 1000} {
				for _, word := range []string{"flush", "compact"} {
					got := said(t, "new", "put a 1 b 2", "flush", "put a 3", "sync c 4", fmt.Sprint(word, " ", power), fmt.Sprint("crash ", keep, " ", torn), "scan", "put d 5", "flush", "compact", "scan", "files")
					if got[6] != "ok\n" || got[7] != "scan a=3 b=2 c=4\n" || got[11] != "scan a=3 b=2 c=4 d=5\n" {
						t.Fatalf("%s %d, crash %d %d: %q", word, power, keep, torn, got)
					}
				}
			}
		}
	}
	// Of a store that was not made to its end nothing may be left, and then nothing is opened.
	for power := range 6 {
		for keep := range 4 {
			for _, torn := range []int{0, 1, 5, 1000} {
				holdSaid(t, script(fmt.Sprint("new ", power), fmt.Sprint("crash ", keep, " ", torn), "files", "seq", "scan", "get a", "new", "files", "put a 1", "scan"))
			}
		}
	}
}

func TestP17UsersThatAreGot(t *testing.T) {
	ahead := []string{"new", "put a 1 b 2 ab 3 a0 4", "put b 5", "del ab", "put c 6", "del c", "put c 7", "put d 8", "del d"}
	want := map[string]string{"a": "is 1", "b": "is 5", "c": "is 7", "a0": "is 4", "ab": "none", "d": "none", "x": "none", "aa": "none", "abc": "none", "0": "none", "bb": "none"}
	// The second step of a flush is a Sync.
	for _, moved := range [][]string{nil, {"flush"}, {"flush", "compact"}, {"crash 1000 1000"}, {"flush 2", "crash 0 0"}, {"flush 4"}} {
		lines := append(slices.Clone(ahead), moved...)
		for user, value := range want {
			if got := lastSaid(t, append(slices.Clone(lines), "get "+user)...); got != value {
				t.Errorf("%q behind %q: %q, not %q", user, moved, got, value)
			}
		}
	}
}

func TestP17Scans(t *testing.T) {
	users := []string{"0", "00", "1", "9", "a", "a0", "aa", "ab", "b", "ba", "z", "zz", "zzzzzzzzzzzz"}
	bounds := append([]string{"000", "5", "a1", "aaa", "c", "y", "zzz", "000000000000"}, users...)
	held := func(i int) string { return users[i] + " " + users[len(users)-1-i] }
	ahead := []string{"new", listed("put", len(users), held), "del aa b"}
	var all []string
	for i, user := range users {
		if user != "aa" && user != "b" {
			all = append(all, strings.Replace(held(i), " ", "=", 1))
		}
	}
	if got := lastSaid(t, append(slices.Clone(ahead), "scan")...); got != "scan "+strings.Join(all, " ") {
		t.Error(got)
	}
	between := func(from string, to string) string {
		line := "scan"
		for _, pair := range all {
			user, _, _ := strings.Cut(pair, "=")
			if user >= from && (to == "" || user < to) {
				line += " " + pair
			}
		}
		return line
	}
	for _, from := range bounds {
		if got := lastSaid(t, append(slices.Clone(ahead), "scan "+from)...); got != between(from, "") {
			t.Errorf("from %s: %q", from, got)
		}
		for _, to := range bounds {
			if got := lastSaid(t, append(slices.Clone(ahead), "flush", "scan "+from+" "+to)...); got != between(from, to) || from >= to && got != "scan" {
				t.Errorf("from %s to %s: %q", from, to, got)
			}
		}
	}
}

// longScripts are scripts that use each line of the table, with and without power lost.
func longScripts() [][]string {
	list := [][]string{
		{"new", "put a 1 b 2", "flush", "sync c 3", "del a", "flush 3", "crash 1 5", "put d 4 a 5", "crash 1 1000", "compact", "put e 1", "flush", "compact 4", "open", "crash 0 0", "scan", "seq", "files", "get a", "fly", "", "open 1"},
		{"put a 1", "open", "new 2", "crash 1 0", "flush", "new", "new", "put b b", "flush 5", "put c c", "flush 4", "crash 3 9", "sync x y", "del x", "flush", "flush", "compact", "compact 0", "compact 1"},
		{"new 4", "put k v", "put k w", "put l x", "crash 2 9", "put l y", "crash 1 3", "  ", "del k", "flush", "del l", "flush", "compact", "files", "put k k", "open", "flush 0", "flush 1", "flush 2", "flush 3", "flush 4", "flush 5", "flush 6", "flush 7"},
	}
	for _, c := range spokenScripts() {
		list = append(list, c[0])
	}
	r := rand.New(rand.NewSource(1710))
	for range 40 {
		list = append(list, someScript(r, 20))
	}
	return list
}

// someScript is so many lines, most of them of the table.
func someScript(r *rand.Rand, many int) []string {
	user := func() string { return []string{"a", "b", "c", "d", "e", "ab", "a0", "zzzzzzzzzzzz"}[r.Intn(8)] }
	power := func() string { return []string{"", "", "", fmt.Sprint(" ", r.Intn(9))}[r.Intn(4)] }
	value := func() string { return fmt.Sprint("v", r.Intn(100)) }
	pair := func(int) string { return user() + " " + value() }
	single := func(int) string { return user() }
	var lines []string
	if r.Intn(8) > 0 {
		lines = append(lines, "new")
	}
	for len(lines) < many {
		line := ""
		switch r.Intn(16) {
		case 0:
			line = "new" + power()
		case 1, 2:
			line = "flush" + power()
		case 3:
			line = "compact" + power()
		case 4:
			line = "open" + power()
		case 5, 6, 7, 8:
			line = listed("put", 1+r.Intn(4), pair)
		case 9:
			line = listed("sync", 1+r.Intn(2), pair)
		case 10:
			line = listed("del", 1+r.Intn(3), single)
		case 11:
			line = fmt.Sprintf("crash %d %d", r.Intn(6), r.Intn(30))
		case 12:
			line = "get " + user()
		case 13:
			line = listed("scan", r.Intn(3), single)
		case 14:
			line = []string{"seq", "files"}[r.Intn(2)]
		case 15:
			line = []string{"", "  ", "fly", "put a", "get A", "crash 01 2", "flush -1", "new\t"}[r.Intn(8)]
		}
		lines = append(lines, line)
	}
	return lines
}

func TestP17SomeScripts(t *testing.T) {
	r := rand.New(rand.NewSource(171))
	for range 300 {
		holdSaid(t, script(someScript(r, 5+r.Intn(56))...))
	}
}

func TestP17SeqAndFilesBehindEachLine(t *testing.T) {
	for _, lines := range longScripts() {
		var asked []string
		for _, line := range lines[:min(len(lines), 20)] {
			asked = append(asked, line, "seq", "files")
		}
		holdSaid(t, script(asked...))
	}
}

func TestP17WhatWasSaidStaysSaid(t *testing.T) {
	for _, lines := range longScripts() {
		whole := holdSaid(t, script(lines...))
		ends := 0
		for many := range len(lines) + 1 {
			first := impl.RunScript(script(lines[:many]...))
			if !strings.HasPrefix(whole, first) {
				t.Fatalf("%q: its first %d lines say %q, and all %q", lines, many, first, whole)
			}
			if many > 0 && strings.Trim(lines[many-1], " ") != "" {
				ends++
			}
			if strings.Count(first, "\n") != ends {
				t.Fatalf("%q: its first %d lines say %q", lines, many, first)
			}
			// A last line that is not ended takes all of it away.
			if many > 0 && len(lines[many-1]) > 0 {
				if got := impl.RunScript(strings.TrimSuffix(script(lines[:many]...), "\n")); got != "too long\n" {
					t.Fatalf("%q, not ended: %q", lines[:many], got)
				}
			}
		}
		// So it does when the lines behind it are as many as there may be, or one more.
		more := script(lines...) + strings.Repeat("get a\n", 60-len(lines))
		if got := impl.RunScript(more); !strings.HasPrefix(got, whole) || strings.Count(got, "\n") != ends+60-len(lines) {
			t.Fatalf("%q: %q", lines, got)
		}
		if got := impl.RunScript(more + "\n"); got != "too long\n" {
			t.Fatalf("%q: %q", lines, got)
		}
		room := script(lines...)
		room += strings.Repeat(" ", 6000-len(room)-len("seq\n")) + "seq\n"
		if got := impl.RunScript(room); !strings.HasPrefix(got, whole) || strings.Count(got, "\n") != ends+1 {
			t.Fatalf("%q: %q", lines, got)
		}
		if got := impl.RunScript(" " + room); got != "too long\n" {
			t.Fatalf("%q: %q", lines, got)
		}
	}
}

// askingLines change nothing, be they of the table or not.
func askingLines() []string {
	return []string{"get a", "get none", "scan", "scan a", "scan b a", "seq", "files", "", " ", "what", "put a", "del A", "crash 1", "crash 01 1", "flush 1001", "new x", "scan a b c", "seq 1", "files 1", "\x00", "sync", "get", "open 0 0"}
}

func TestP17LinesThatAskChangeNothing(t *testing.T) {
	for _, lines := range longScripts() {
		lines = lines[:min(len(lines), 24)]
		want := impl.RunScript(script(lines...))
		for _, ask := range askingLines() {
			with := []string{ask}
			for _, line := range lines {
				with = append(with, line, ask)
			}
			got := ""
			answers := said(t, with...)
			for i, line := range with {
				if strings.Trim(line, " ") == "" {
					continue
				}
				if i%2 == 1 {
					got += answers[0]
				}
				answers = answers[1:]
			}
			if got != want {
				t.Fatalf("%q, asked %q between its lines, says\n%q, not\n%q", lines, ask, got, want)
			}
		}
	}
}

func TestP17AStoreThatIsFull(t *testing.T) {
	pair := func(at int) func(int) string {
		return func(i int) string { return fmt.Sprintf("%d %d", at+i, i) }
	}
	lines := []string{"new"}
	for i := range 19 {
		lines = append(lines, listed("put", 20, pair(100+20*i)))
	}
	lines = append(lines, listed("put", 19, pair(500)))
	full := func(more ...string) []string { return said(t, append(slices.Clone(lines), more...)...)[len(lines):] }
	for i, answer := range said(t, lines...) {
		if answer != "ok\n" {
			t.Fatalf("line %d: %q", i, answer)
		}
	}
	for _, c := range []struct {
		more []string
		want []string
	}{
		{[]string{"seq", "put x 1 y 2", "seq", "put x 1", "seq", "put y 1", "sync y 1", "del a", "get x", "get y"}, []string{"seq 399", "no 6", "seq 399", "ok", "seq 400", "no 6", "no 6", "no 6", "is 1", "none"}},
		{[]string{"put x 1", "flush", "put y 1", "del 100", "compact", "put y 1", "seq", "get x"}, []string{"ok", "ok", "no 6", "no 6", "ok", "no 6", "seq 400", "is 1"}},
		{[]string{"put 100 1", "flush", "del 101", "compact", "del 101", "put y 1", "seq", "get 100", "get 101"}, []string{"ok", "ok", "no 6", "ok", "ok", "no 6", "seq 401", "is 1", "none"}},
		{[]string{"del 100", "flush", "put x 1", "compact", "put x 1 y 2 z 3", "put x 1 y 2", "seq", "get 100", "get y"}, []string{"ok", "ok", "no 6", "ok", "no 6", "ok", "seq 402", "none", "is 2"}},
		// A batch that is none is no line, however full the store is.
		{[]string{"put x 1", "put x", "del", "flush 0", "put x 1", "crash 1000 1000", "put x 1", "seq"}, []string{"ok", "what", "what", "no 7", "no 6", "ok", "no 6", "seq 400"}},
		{[]string{"put x 1", "put y 1", "crash 19 1000", "put y 1", "put z 1", "seq"}, []string{"ok", "no 6", "ok", "ok", "ok", "seq 382"}},
	} {
		if got := full(c.more...); strings.Join(got, "") != script(c.want...) {
			t.Errorf("%q: %q, not %q", c.more, got, c.want)
		}
	}
}

func TestP17AnswersHangOnNoOtherCall(t *testing.T) {
	lists := longScripts()
	var group sync.WaitGroup
	same := make([]bool, 8)
	for i := range same {
		group.Go(func() {
			same[i] = true
			for at := range lists {
				lines := lists[(at+i)%len(lists)]
				same[i] = same[i] && impl.RunScript(script(lines...)) == saidByHand(script(lines...))
			}
		})
	}
	group.Wait()
	if slices.Contains(same, false) {
		t.Error(same)
	}
}

func TestP17AnyText(t *testing.T) {
	r := rand.New(rand.NewSource(1717))
	pieces := []string{"new", "put", "sync", "del", "crash", "get", "scan", "seq", "files", "flush", "compact", "open", " ", " ", " ", "\n", "\n", "a", "b", "1", "0", "01", "1000", "1001", "A", "\t", "\r", "\x00", "é", "\xff", "-", "  ", "\n\n", "new\n", "put a 1\n"}
	for range 4000 {
		text := []string{"", "new\n", "new\nput a b\n"}[r.Intn(3)]
		for range r.Intn(40) {
			text += pieces[r.Intn(len(pieces))]
		}
		if r.Intn(5) > 0 {
			text += "\n"
		}
		holdSaid(t, text)
	}
}
