package safe

import (
	"regexp"
	"slices"
	"strings"
	"testing"
	"unicode/utf8"

	"blindfold/api"
	"blindfold/escape"
	"blindfold/pinned"
)

// pieces are what strings are made of here: runes with escapes of their own,
// unsafe ones of one to four bytes, safe ones, what escapes are made of, and
// bytes that begin, go on with, or break encodings.
var pieces = []string{
	"\n", "\"", "\\", "\t", "\r", "\x1b", "\u009f", "\u202e", "\U000e0001", "a", "\u4e00",
	"n", "x", "u{", "}", "41", "\xe4", "\xb8", "\xff",
}

// samples are all concatenations of up to most of the pieces.
func samples(most int) []string {
	all := []string{""}
	from := 0
	for range most {
		to := len(all)
		for _, s := range all[from:to] {
			for _, p := range pieces {
				all = append(all, s+p)
			}
		}
		from = to
	}
	return all
}

// units divides s, by the library's decoder, which takes each byte of an
// incomplete encoding by itself.
func units(s string) []string {
	var l []string
	for s != "" {
		_, n := utf8.DecodeRuneInString(s)
		l = append(l, s[:n])
		s = s[n:]
	}
	return l
}

// wrong returns what makes the unit u unsafe, as the chapter defines it.
func wrong(u string) api.Errno {
	r, _ := utf8.DecodeRuneInString(u)
	switch {
	case !utf8.ValidString(u):
		return api.ErrUtf
	case r != 10 && pinned.IsUnsafe(r):
		return api.ErrChar
	}
	return api.OK
}

// first is First as the chapter defines it.
func first(s string) int {
	at := 0
	for _, u := range units(s) {
		if wrong(u) != api.OK {
			return at
		}
		at += len(u)
	}
	return at
}

// scrub is Scrub as the chapter defines it.
func scrub(s string) string {
	out := ""
	for _, u := range units(s) {
		if u != "\"" && u != "\n" {
			quoted := escape.Quote(u)
			u = quoted[1 : len(quoted)-1]
		}
		out += u
	}
	return out
}

// shape is how an escape looks that begins a string.
var shape = regexp.MustCompile(`^\\(["\\tnr]|x[0-9a-fA-F]{2}|u\{[0-9a-fA-F]{1,6}\})`)

// result is what Unscrub answers.
type result struct {
	s string
	f api.Fault
}

func unscrubbed(s string) result {
	out, f := Unscrub(s)
	return result{out, f}
}

// fault is an Unscrub that fails.
func fault(e api.Errno, at int) result {
	return result{f: api.Fault{E: e, At: at}}
}

// unscrub is Unscrub as the chapter defines it.
func unscrub(s string) result {
	out := ""
	for at := 0; at < len(s); {
		u := units(s[at:])[0]
		if e := wrong(u); e != api.OK {
			return fault(e, at)
		}
		plain := u
		if u == "\\" {
			u = shape.FindString(s[at:])
			var f api.Fault
			plain, _, f = escape.Unquote("\""+u+"\"", 0)
			if u == "" || f.E != api.OK {
				return fault(api.ErrEscape, at)
			}
		}
		out += plain
		at += len(u)
	}
	return result{s: out}
}

// The chapter's example.
func TestExamples(t *testing.T) {
	if got := Scrub("\x0a\x1b\x0a"); got != "\x0a\\u{1b}\x0a" {
		t.Errorf("Scrub of a, 1b and a is %q", got)
	}
}

// P6.1: the first unit that makes a string unsafe, by hand.
func TestFirst(t *testing.T) {
	cases := []struct {
		s  string
		at int
	}{
		{"", 0},
		{"abc", 3},
		{"\x1b", 0},
		{"ab\x1b", 2},
		{"ab\x1b\x1b", 2},
		{"a\x00", 1},
		{"a\x7f", 1},
		// The line end is safe, other controls of lines and tabs are not.
		{"\n", 1},
		{"a\nb\n", 4},
		{"a\n\r", 2},
		{"a\tb", 1},
		{"a\vb", 1},
		{"a\fb", 1},
		{"\u0085", 0},
		{"a\u2028b", 1},
		{"a\u2029b", 1},
		// A table of each kind, at an index that counts bytes.
		{"\u00e9\u009b", 2},
		{"\u4e00\u202e", 3},
		{"\U0001f600\ufeff", 4},
		{"\u4e00\u00e9\U000e0001\x1b", 5},
		// Safe, though they have no width, are wide, or look like escapes.
		{"a\u0301", 3},
		{"\u4e00\u00a0\ufffd\U0001f600", 12},
		{`"\n\x1b\z`, 9},
		// Bytes that are not well-formed.
		{"\xff", 0},
		{"a\xff\x1b", 1},
		{"a\x1b\xff", 1},
		{"a\x80", 1},
		{"a\x9b", 1},
		{"\u4e00\xe4\xb8", 3},
		{"a\xe4\xb8a", 1},
		{"a\xc0\x8a", 1},
		{"a\xed\xa0\x80", 1},
		{"a\xf4\x90\x80\x80", 1},
		{strings.Repeat("\n\u4e00", 20000), 80000},
		{strings.Repeat("\n\u4e00", 20000) + "\xe4", 80000},
	}
	for _, c := range cases {
		if got := First(c.s); got != c.at {
			t.Errorf("First(%q) = %d, want %d", c.s, got, c.at)
		}
		if got := Is(c.s); got != (c.at == len(c.s)) {
			t.Errorf("Is(%q) = %t, want %t", c.s, got, !got)
		}
	}
}

// P6.1: every scalar, and every byte that stands alone, behind a letter.
func TestFirstOfAll(t *testing.T) {
	check := func(u string) {
		s := "a" + u
		if got, want := First(s), first(s); got != want {
			t.Fatalf("First(%q) = %d, want %d", s, got, want)
		}
		if got, want := Is(s), wrong(u) == api.OK; got != want {
			t.Fatalf("Is(%q) = %t, want %t", s, got, want)
		}
	}
	for r := range rune(api.MaxRune + 1) {
		if utf8.ValidRune(r) {
			check(string(r))
		}
	}
	for b := range 256 {
		check(string([]byte{byte(b)}))
	}
}

// P6.1: all short strings.
func TestFirstEverywhere(t *testing.T) {
	for _, s := range samples(4) {
		want := first(s)
		if got := First(s); got != want {
			t.Fatalf("First(%q) = %d, want %d", s, got, want)
		}
		if got := Is(s); got != (want == len(s)) {
			t.Fatalf("Is(%q) = %t, want %t", s, got, !got)
		}
	}
}

// P6.2: units as they are written, quotes and line ends unchanged, by hand.
func TestScrub(t *testing.T) {
	cases := []struct{ s, want string }{
		{"", ""},
		{"abc", "abc"},
		{"a\nb\n", "a\nb\n"},
		{`say "hi"`, `say "hi"`},
		{`a\b`, `a\\b`},
		{`\n`, `\\n`},
		{`\"`, `\\"`},
		{`\\`, `\\\\`},
		{"a\tb\rc", `a\tb\rc`},
		{"\r\n", "\\r\n"},
		{"\x00\x1b[31m\x7f", `\u{0}\u{1b}[31m\u{7f}`},
		{"\u009b\u00ad\u202eab\u2028", `\u{9b}\u{ad}\u{202e}ab\u{2028}`},
		{"\ufeff\U000e0001", `\u{feff}\u{e0001}`},
		{"\u00e9\u4e00\u0301\ufffd\U0001f600", "\u00e9\u4e00\u0301\ufffd\U0001f600"},
		// Two digits for each byte that is not well-formed.
		{"\xff1", `\xff1`},
		{"\x80\x9b", `\x80\x9b`},
		{"\xe4\xb8", `\xe4\xb8`},
		{"\xe4\xb8\n", "\\xe4\\xb8\n"},
		{"\xe4\"\xb8", `\xe4"\xb8`},
		{"\xe4\xb8\x80", "\u4e00"},
		{"\xed\xa0\x80", `\xed\xa0\x80`},
		{strings.Repeat("\xff\n", 20000), strings.Repeat("\\xff\n", 20000)},
	}
	for _, c := range cases {
		if got := Scrub(c.s); got != c.want {
			t.Errorf("Scrub(%q) = %q, want %q", c.s, got, c.want)
		}
	}
}

// P6.2: all short strings.
func TestScrubEverywhere(t *testing.T) {
	for _, s := range samples(4) {
		if got, want := Scrub(s), scrub(s); got != want {
			t.Fatalf("Scrub(%q) = %q, want %q", s, got, want)
		}
	}
}

// P6.2: escapes are replaced, other units stay, by hand.
func TestUnscrub(t *testing.T) {
	cases := []struct{ s, want string }{
		{"", ""},
		{"abc", "abc"},
		{"a\nb\n", "a\nb\n"},
		{`say "hi"`, `say "hi"`},
		{`"`, `"`},
		// Escapes that Scrub doesn't write are replaced too.
		{`\"\\\t\n\r`, "\"\\\t\n\r"},
		{`\x41\x0a\u{41}\u{00000A}`, "A\nA\n"},
		{`\xFf\u{1B}\u{1b}`, "\xff\x1b\x1b"},
		{`\u{10ffff}\u{0}`, "\U0010ffff\x00"},
		{`\u{d7ff}\u{e000}`, "\ud7ff\ue000"},
		// What an escape denotes is not taken for a part of another one.
		{`\\n`, `\n`},
		{`\\\n`, "\\\n"},
		{`\x5cn`, `\n`},
		{`\u{5c}\u{5c}`, `\\`},
		{`\x411`, "A1"},
		// Bytes that escapes denote may form an encoding together, or none.
		{`\xe4\xb8\x80`, "\u4e00"},
		{`\xe4b8\xff`, "\xe4b8\xff"},
		{`\xed\xa0\x80`, "\xed\xa0\x80"},
		{"\u00e9\u4e00\u0301\ufffd\U0001f600", "\u00e9\u4e00\u0301\ufffd\U0001f600"},
		{"\\u{7f}\n\"", "\x7f\n\""},
		{strings.Repeat(`\xff`, 20000), strings.Repeat("\xff", 20000)},
	}
	for _, c := range cases {
		if got, want := unscrubbed(c.s), (result{s: c.want}); got != want {
			t.Errorf("Unscrub(%q) = %v, want %v", c.s, got, want)
		}
	}
}

// P6.2: each fault, where it is, which of several comes first, and that nothing
// else is returned with it.
func TestUnscrubFaults(t *testing.T) {
	cases := []struct {
		s  string
		e  api.Errno
		at int
	}{
		{`\`, api.ErrEscape, 0},
		{`ab\`, api.ErrEscape, 2},
		{`ab\z`, api.ErrEscape, 2},
		{`\\\`, api.ErrEscape, 2},
		{`\n\N`, api.ErrEscape, 2},
		{"\u4e00\\0", api.ErrEscape, 3},
		{"\\\n", api.ErrEscape, 0},
		{`\x4`, api.ErrEscape, 0},
		{`\x4g`, api.ErrEscape, 0},
		{`\X41`, api.ErrEscape, 0},
		{`\u41`, api.ErrEscape, 0},
		{`\u{}`, api.ErrEscape, 0},
		{`\u{41`, api.ErrEscape, 0},
		{`\u{0000041}`, api.ErrEscape, 0},
		{`\u{d800}`, api.ErrEscape, 0},
		{`\u{dfff}`, api.ErrEscape, 0},
		{`\u{110000}`, api.ErrEscape, 0},
		{"\\\xff", api.ErrEscape, 0},
		{"\\\x1b", api.ErrEscape, 0},
		{"\xff", api.ErrUtf, 0},
		{"ab\x80", api.ErrUtf, 2},
		{"ab\xe4\xb8", api.ErrUtf, 2},
		{"\xe4\xb8a", api.ErrUtf, 0},
		{"\u4e00\x9b", api.ErrUtf, 3},
		{"\xc0\x8a", api.ErrUtf, 0},
		{"\xed\xa0\x80", api.ErrUtf, 0},
		// The bytes of an escape don't complete an encoding.
		{"\xe4\\xb8\\x80", api.ErrUtf, 0},
		{"\\xe4\xb8\x80", api.ErrUtf, 4},
		{"\x1b", api.ErrChar, 0},
		{"a\tb", api.ErrChar, 1},
		{"a\r\n", api.ErrChar, 1},
		{"a\n\u0085", api.ErrChar, 2},
		{"a\u2028", api.ErrChar, 1},
		{"\\x41\u202e", api.ErrChar, 4},
		{"\u4e00\ufeff", api.ErrChar, 3},
		{"\U000e0001", api.ErrChar, 0},
		// The first one from the beginning counts.
		{"a\\z\xff\x1b", api.ErrEscape, 1},
		{"a\xff\\z\x1b", api.ErrUtf, 1},
		{"a\x1b\\z\xff", api.ErrChar, 1},
		{"a\x1b\xff\\z", api.ErrChar, 1},
		{strings.Repeat("\n\u4e00", 20000) + "\\", api.ErrEscape, 80000},
	}
	for _, c := range cases {
		if got, want := unscrubbed(c.s), fault(c.e, c.at); got != want {
			t.Errorf("Unscrub(%q) = %v, want %v", c.s, got, want)
		}
	}
}

// P6.2: every scalar, and every byte that stands alone.
func TestUnscrubOfAll(t *testing.T) {
	check := func(s string) {
		if got, want := unscrubbed(s), unscrub(s); got != want {
			t.Fatalf("Unscrub(%q) = %v, want %v", s, got, want)
		}
	}
	for r := range rune(api.MaxRune + 1) {
		if utf8.ValidRune(r) {
			check(string(r))
		}
	}
	for b := range 256 {
		check(string([]byte{byte(b)}))
		check(`\` + string([]byte{byte(b)}))
	}
}

// P6.2: all short strings, and the same ones behind a backslash.
func TestUnscrubEverywhere(t *testing.T) {
	for _, s := range samples(4) {
		for _, s := range []string{s, `\` + s} {
			if got, want := unscrubbed(s), unscrub(s); got != want {
				t.Fatalf("Unscrub(%q) = %v, want %v", s, got, want)
			}
		}
	}
}

// keeps checks what P6.3 says of s, against the chapter's definition of a safe
// string and against Is.
func keeps(t *testing.T, s string) {
	t.Helper()
	scrubbed := Scrub(s)
	if first(scrubbed) != len(scrubbed) || !Is(scrubbed) {
		t.Fatalf("Scrub(%q) = %q is not safe", s, scrubbed)
	}
	if got, want := unscrubbed(scrubbed), (result{s: s}); got != want {
		t.Fatalf("Unscrub(%q) = %v, want %v", scrubbed, got, want)
	}
	calm := first(s) == len(s) && !strings.Contains(s, `\`)
	if calm && scrubbed != s {
		t.Fatalf("Scrub(%q) = %q, want it unchanged", s, scrubbed)
	}
}

// P6.3: what Scrub writes is safe, Unscrub recovers the string, and a safe
// string without backslashes stays as it is.
func TestScrubKeepsAll(t *testing.T) {
	for r := range rune(api.MaxRune + 1) {
		if utf8.ValidRune(r) {
			keeps(t, string(r))
		}
	}
	for n := range 0x10000 {
		keeps(t, string([]byte{byte(n >> 8), byte(n)}))
	}
	all := samples(4)
	for _, s := range all {
		keeps(t, s)
	}
	keeps(t, strings.Join(all[:1000], ""))
	slices.Reverse(all)
	keeps(t, strings.Join(all[:1000], "\n"))
}
