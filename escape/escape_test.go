package escape

import (
	"fmt"
	"math"
	"regexp"
	"strconv"
	"strings"
	"testing"
	"unicode/utf8"

	"blindfold/api"
	"blindfold/cells"
	"blindfold/pinned"
)

// extremes are the indices at which sums and differences may wrap.
var extremes = []int{math.MinInt, math.MinInt + 1, math.MinInt32, -2, -1, math.MaxInt32, math.MaxInt - 1, math.MaxInt}

// plain are pieces of strings to be quoted: those with escapes of their own,
// unsafe runes of one to four bytes, safe ones, what looks like an escape, and
// bytes that begin, go on with, or break encodings.
var plain = []string{`"`, `\`, "\t", "\n", "\x1b", "\u009f", "\u202e", "\U000e0001", "a", "\u00e9", "\u4e00", "\U0001f600", "x1", "\xe4", "\xb8", "\xff"}

// quoted are pieces of texts to be parsed: what escapes are made of, and units
// that stand for themselves or must not stand there.
var quoted = []string{`"`, `\`, "t", "n", "x", "u", "{", "}", "0", "4", "A", "f", "g", "\x1b", "\u202e", "\u4e00", "\xe4", "\x80", "\xff"}

// joined are all concatenations of up to most pieces.
func joined(pieces []string, most int) []string {
	all := []string{""}
	from := 0
	for range most {
		to := len(all)
		for _, s := range all[from:to] {
			for _, p := range pieces {
				all = append(all, s+p)
			}
		}
		from = to
	}
	return all
}

// bad reports whether s begins with a byte that is not well-formed, by the
// library's decoder.
func bad(s string) bool {
	r, n := utf8.DecodeRuneInString(s)
	return r == utf8.RuneError && n <= 1
}

// write returns the first unit of s as the chapter says that it is written, and
// its length.
func write(s string) (string, int) {
	if bad(s) {
		return fmt.Sprintf(`\x%02x`, s[0]), 1
	}
	r, n := utf8.DecodeRuneInString(s)
	switch {
	case r == '"':
		return `\"`, 1
	case r == '\\':
		return `\\`, 1
	case r == 9:
		return `\t`, 1
	case r == 10:
		return `\n`, 1
	case r == 13:
		return `\r`, 1
	case pinned.IsUnsafe(r):
		return fmt.Sprintf(`\u{%x}`, r), n
	}
	return s[:n], n
}

// writeAll returns s as a quoted string.
func writeAll(s string) string {
	q := `"`
	for s != "" {
		out, n := write(s)
		q += out
		s = s[n:]
	}
	return q + `"`
}

// The forms that an escape may have.
var (
	short  = regexp.MustCompile(`^\\["\\tnr]`)
	byByte = regexp.MustCompile(`^\\x([0-9a-fA-F]{2})`)
	byRune = regexp.MustCompile(`^\\u\{([0-9a-fA-F]{1,6})\}`)
)

// read returns what the escape that begins q denotes, and its length.
func read(q string) (string, int, bool) {
	if m := short.FindString(q); m != "" {
		return map[byte]string{'"': `"`, '\\': `\`, 't': "\t", 'n': "\n", 'r': "\r"}[m[1]], 2, true
	}
	if m := byByte.FindStringSubmatch(q); m != nil {
		n, _ := strconv.ParseUint(m[1], 16, 8)
		return string([]byte{byte(n)}), 4, true
	}
	if m := byRune.FindStringSubmatch(q); m != nil {
		n, _ := strconv.ParseUint(m[1], 16, 32)
		if n <= 0x10ffff && utf8.ValidRune(rune(n)) {
			return string(rune(n)), len(m[0]), true
		}
	}
	return "", 0, false
}

// parsed is what Unquote answers.
type parsed struct {
	s   string
	end int
	f   api.Fault
}

func unquote(q string, at int) parsed {
	s, end, f := Unquote(q, at)
	return parsed{s, end, f}
}

// fault is a parse that fails.
func fault(e api.Errno, at int) parsed {
	return parsed{f: api.Fault{E: e, At: at}}
}

// parse is Unquote as the chapter defines it.
func parse(q string, at int) parsed {
	if at < 0 || at > len(q) {
		return fault(api.ErrArg, 0)
	}
	if at == len(q) {
		return fault(api.ErrEnd, len(q))
	}
	if q[at] != '"' {
		return fault(api.ErrToken, at)
	}
	s := ""
	for at++; at < len(q); {
		r, n := utf8.DecodeRuneInString(q[at:])
		switch {
		case r == '"':
			return parsed{s, at + 1, api.Fault{}}
		case r == '\\':
			out, bytes, ok := read(q[at:])
			if !ok {
				return fault(api.ErrEscape, at)
			}
			s += out
			at += bytes
		case bad(q[at:]):
			return fault(api.ErrUtf, at)
		case pinned.IsUnsafe(r):
			return fault(api.ErrChar, at)
		default:
			s += q[at : at+n]
			at += n
		}
	}
	return fault(api.ErrEnd, len(q))
}

// The chapter's examples.
func TestExamples(t *testing.T) {
	if q := Quote("\x1b\xff"); q != `"\u{1b}\xff"` {
		t.Errorf("Quote of 1b and ff is %s", q)
	}
}

// P5.1: the digits of a number, in lower case, without leading zeros.
func TestHex(t *testing.T) {
	cases := []struct {
		n    uint32
		want string
	}{
		{0, "0"}, {1, "1"}, {9, "9"}, {10, "a"}, {15, "f"}, {16, "10"}, {0x1b, "1b"}, {0x2af, "2af"},
		{0x100, "100"}, {0x10ffff, "10ffff"}, {0xfedcba98, "fedcba98"}, {0x76543210, "76543210"},
		{0x80000000, "80000000"}, {math.MaxUint32, "ffffffff"},
	}
	for _, c := range cases {
		if got := Hex(c.n); got != c.want {
			t.Errorf("Hex(%d) = %q, want %q", c.n, got, c.want)
		}
	}
	for n := range uint32(api.MaxRune) {
		if got := Hex(n); got != strconv.FormatUint(uint64(n), 16) {
			t.Fatalf("Hex(%d) = %q", n, got)
		}
	}
}

// P5.1: a unit as it is written, by hand.
func TestUnit(t *testing.T) {
	cases := []struct {
		s     string
		at    int
		out   string
		bytes int
	}{
		{"a", 0, "a", 1},
		{"ab", 1, "b", 1},
		{`"`, 0, `\"`, 1},
		{`\`, 0, `\\`, 1},
		{`'`, 0, `'`, 1},
		{"\t", 0, `\t`, 1},
		{"\n", 0, `\n`, 1},
		{"\r", 0, `\r`, 1},
		{"\x00", 0, `\u{0}`, 1},
		{"\x08", 0, `\u{8}`, 1},
		{"\x0b", 0, `\u{b}`, 1},
		{"\x1b", 0, `\u{1b}`, 1},
		{"\x7f", 0, `\u{7f}`, 1},
		{"\u0080", 0, `\u{80}`, 2},
		{"\u00a0", 0, "\u00a0", 2},
		{"\u00ad", 0, `\u{ad}`, 2},
		{"\u00e9", 0, "\u00e9", 2},
		{"a\u202eb", 1, `\u{202e}`, 3},
		{"\u2028", 0, `\u{2028}`, 3},
		{"\ufeff", 0, `\u{feff}`, 3},
		{"\U000e0001", 0, `\u{e0001}`, 4},
		{"\u0301", 0, "\u0301", 2},
		{"\U0001f600", 0, "\U0001f600", 4},
		// The scalar fffd itself is well-formed and safe.
		{"\ufffd", 0, "\ufffd", 3},
		// Two digits each, byte by byte.
		{"\xff", 0, `\xff`, 1},
		{"\x80", 0, `\x80`, 1},
		{"\xe4\xb8", 0, `\xe4`, 1},
		{"\xe4\xb8", 1, `\xb8`, 1},
		{"\u4e00", 1, `\xb8`, 1},
		{"\xc0\x8a", 0, `\xc0`, 1},
		{"\xed\xa0\x80", 0, `\xed`, 1},
		{"\xf4\x90\x80\x80", 0, `\xf4`, 1},
		// What is escaped already is escaped again.
		{`\n`, 0, `\\`, 1},
		{`\n`, 1, `n`, 1},
		{"", 0, "", 0},
		{"a", 1, "", 0},
		{"a", 2, "", 0},
	}
	for _, c := range cases {
		if out, bytes := Unit(c.s, c.at); out != c.out || bytes != c.bytes {
			t.Errorf("Unit(%q, %d) = %q, %d, want %q, %d", c.s, c.at, out, bytes, c.out, c.bytes)
		}
	}
}

// P5.1: every scalar, and every byte that stands alone.
func TestUnitOfAll(t *testing.T) {
	for r := range rune(api.MaxRune + 1) {
		if !utf8.ValidRune(r) {
			continue
		}
		out, bytes := Unit(string(r), 0)
		if want, n := write(string(r)); out != want || bytes != n {
			t.Fatalf("Unit of %x = %q, %d, want %q, %d", r, out, bytes, want, n)
		}
	}
	for b := range 256 {
		s := string([]byte{byte(b)})
		out, bytes := Unit(s, 0)
		if want, n := write(s); out != want || bytes != n {
			t.Fatalf("Unit of the byte %x = %q, %d, want %q, %d", b, out, bytes, want, n)
		}
	}
}

// P5.1: each index of all short strings, and indices that are outside.
func TestUnitEverywhere(t *testing.T) {
	for _, s := range joined(plain, 3) {
		for at := range len(s) {
			out, bytes := Unit(s, at)
			if want, n := write(s[at:]); out != want || bytes != n {
				t.Fatalf("Unit(%q, %d) = %q, %d, want %q, %d", s, at, out, bytes, want, n)
			}
		}
		for _, at := range append([]int{len(s), len(s) + 1}, extremes...) {
			if out, bytes := Unit(s, at); out != "" || bytes != 0 {
				t.Fatalf("Unit(%q, %d) = %q, %d, want nothing", s, at, out, bytes)
			}
		}
	}
}

// P5.1: escapes, and what is none, by hand.
func TestOne(t *testing.T) {
	cases := []struct {
		q     string
		out   string
		bytes int
		ok    bool
	}{
		{`\"`, `"`, 2, true},
		{`\\`, `\`, 2, true},
		{`\t`, "\t", 2, true},
		{`\n`, "\n", 2, true},
		{`\r`, "\r", 2, true},
		{`\nn`, "\n", 2, true},
		{`\x41`, "A", 4, true},
		{`\x412`, "A", 4, true},
		{`\x00`, "\x00", 4, true},
		{`\xfF`, "\xff", 4, true},
		{`\xFf`, "\xff", 4, true},
		{`\u{0}`, "\x00", 5, true},
		{`\u{41}`, "A", 6, true},
		{`\u{41}}`, "A", 6, true},
		{`\u{000041}`, "A", 10, true},
		{`\u{4E00}`, "\u4e00", 8, true},
		{`\u{4e00}`, "\u4e00", 8, true},
		{`\u{aBcDe}`, "\U000abcde", 9, true},
		{`\u{e9}`, "\u00e9", 6, true},
		{`\u{d7ff}`, "\ud7ff", 8, true},
		{`\u{e000}`, "\ue000", 8, true},
		{`\u{10ffff}`, "\U0010ffff", 10, true},
		// An incomplete one, and one that is no scalar or has too many digits.
		{``, "", 0, false},
		{`\`, "", 0, false},
		{`\x`, "", 0, false},
		{`\x4`, "", 0, false},
		{`\x4"`, "", 0, false},
		{`\x4g`, "", 0, false},
		{`\xg4`, "", 0, false},
		{`\u`, "", 0, false},
		{`\u41`, "", 0, false},
		{`\u41}`, "", 0, false},
		{`\u{`, "", 0, false},
		{`\u{}`, "", 0, false},
		{`\u{41`, "", 0, false},
		{`\u{41"}`, "", 0, false},
		{`\u{ 41}`, "", 0, false},
		{`\u{+41}`, "", 0, false},
		{`\u{-1}`, "", 0, false},
		{`\u{4_1}`, "", 0, false},
		{`\u{0x41}`, "", 0, false},
		{`\u{0000041}`, "", 0, false},
		{`\u{00000041}`, "", 0, false},
		{`\u{d800}`, "", 0, false},
		{`\u{dfff}`, "", 0, false},
		{`\u{110000}`, "", 0, false},
		{`\u{ffffff}`, "", 0, false},
		{`\u{100000041}`, "", 0, false},
		// Digits are those from 0 to 9 and from a to f alone.
		{"\\u{4\u0661}", "", 0, false},
		{"\\u{\uff14}", "", 0, false},
		{"\\x\u00e9", "", 0, false},
		{"\\x\xff\xff", "", 0, false},
		{"\\u{\xff}", "", 0, false},
		// Letters that denote nothing, in upper case too.
		{`\T`, "", 0, false},
		{`\N`, "", 0, false},
		{`\X41`, "", 0, false},
		{`\U{41}`, "", 0, false},
		{`\a`, "", 0, false},
		{`\0`, "", 0, false},
		{`\'`, "", 0, false},
		{`\/`, "", 0, false},
		{`\ `, "", 0, false},
		{"\\\n", "", 0, false},
		{"\\\u4e00", "", 0, false},
		{"\\\xff", "", 0, false},
		{`n`, "", 0, false},
		{`/n`, "", 0, false},
		{`"n`, "", 0, false},
	}
	for _, c := range cases {
		for _, before := range []string{"", "a", `\`, "\xff"} {
			at := len(before)
			if out, bytes, ok := One(before+c.q, at); out != c.out || bytes != c.bytes || ok != c.ok {
				t.Errorf("One(%q, %d) = %q, %d, %t, want %q, %d, %t", before+c.q, at, out, bytes, ok, c.out, c.bytes, c.ok)
			}
		}
	}
}

// P5.1: every number in braces, with and without leading zeros, in both cases;
// and every two bytes behind an x, and every byte behind a backslash.
func TestOneOfAll(t *testing.T) {
	for n := range 0x120000 {
		for _, form := range []string{`\u{%x}`, `\u{%06X}`} {
			q := fmt.Sprintf(form, n)
			out, bytes, ok := One(q, 0)
			want := ""
			long := 0
			if utf8.ValidRune(rune(n)) {
				want, long = string(rune(n)), len(q)
			}
			if out != want || bytes != long || ok != (long > 0) {
				t.Fatalf("One(%q, 0) = %q, %d, %t", q, out, bytes, ok)
			}
		}
	}
	for n := range 0x10000 {
		two := []byte{byte(n >> 8), byte(n)}
		for _, q := range []string{`\x` + string(two), `\` + string(two) + "41"} {
			out, bytes, ok := One(q, 0)
			if want, long, is := read(q); out != want || bytes != long || ok != is {
				t.Fatalf("One(%q, 0) = %q, %d, %t, want %q, %d, %t", q, out, bytes, ok, want, long, is)
			}
		}
	}
}

// P5.1: each index of all short texts, and indices that are outside.
func TestOneEverywhere(t *testing.T) {
	for _, q := range joined(quoted, 3) {
		q = `\` + q
		for at := range len(q) {
			out, bytes, ok := One(q, at)
			if want, n, is := read(q[at:]); out != want || bytes != n || ok != is {
				t.Fatalf("One(%q, %d) = %q, %d, %t, want %q, %d, %t", q, at, out, bytes, ok, want, n, is)
			}
		}
		for _, at := range append([]int{len(q), len(q) + 1}, extremes...) {
			if out, bytes, ok := One(q, at); out != "" || bytes != 0 || ok {
				t.Fatalf("One(%q, %d) = %q, %d, %t, want nothing", q, at, out, bytes, ok)
			}
		}
	}
	for _, at := range append([]int{0, 1}, extremes...) {
		if out, bytes, ok := One("", at); out != "" || bytes != 0 || ok {
			t.Errorf("One of nothing at %d = %q, %d, %t", at, out, bytes, ok)
		}
	}
}

// P5.1: a quoted string is a quote, the written units, and a quote.
func TestQuote(t *testing.T) {
	cases := []struct{ s, want string }{
		{"", `""`},
		{"abc", `"abc"`},
		{`say "hi"`, `"say \"hi\""`},
		{`a\b`, `"a\\b"`},
		{"a\tb\nc\rd", `"a\tb\nc\rd"`},
		{"\x1b[31m", `"\u{1b}[31m"`},
		{"\u00e9\u4e00\u0301", "\"\u00e9\u4e00\u0301\""},
		{"\u202eab", `"\u{202e}ab"`},
		// A digit behind an escape is not taken for one of it.
		{"\xff1", `"\xff1"`},
		{"\xe4\xb8", `"\xe4\xb8"`},
		{"\xe4\xb8a", `"\xe4\xb8a"`},
		{"\xe4\xb8\x80", "\"\u4e00\""},
		{"\x00\x80", `"\u{0}\x80"`},
		{strings.Repeat("\xff", 20000), `"` + strings.Repeat(`\xff`, 20000) + `"`},
	}
	for _, c := range cases {
		if got := Quote(c.s); got != c.want {
			t.Errorf("Quote(%q) = %s, want %s", c.s, got, c.want)
		}
	}
	for _, s := range joined(plain, 4) {
		if got, want := Quote(s), writeAll(s); got != want {
			t.Fatalf("Quote(%q) = %s, want %s", s, got, want)
		}
	}
}

// P5.1: the columns of the quoted string, its quotes and escapes with it.
func TestColumns(t *testing.T) {
	cases := []struct {
		s    string
		want int
	}{
		{"", 2}, {"abc", 5}, {"\n", 4}, {`"`, 4}, {`\`, 4}, {"\u4e00", 4}, {"\n\u4e00", 6},
		{"\u0301", 2}, {"a\u0301", 3}, {"\xff", 6}, {"\xe4\xb8", 10}, {"\x1b", 8}, {"\u202e", 10},
		// It takes no columns itself, but its escape does.
		{"\u200b", 10},
	}
	for _, c := range cases {
		if got := Columns(c.s); got != c.want {
			t.Errorf("Columns(%q) = %d, want %d", c.s, got, c.want)
		}
	}
	for _, s := range joined(plain, 3) {
		if got, want := Columns(s), cells.Width(writeAll(s)); got != want {
			t.Fatalf("Columns(%q) = %d, want %d", s, got, want)
		}
	}
}

// P5.2: what quoted strings denote, and the index behind them.
func TestUnquote(t *testing.T) {
	cases := []struct {
		q   string
		at  int
		s   string
		end int
	}{
		{`""`, 0, "", 2},
		{`"abc"`, 0, "abc", 5},
		{`"abc"def"`, 0, "abc", 5},
		{`"" `, 0, "", 2},
		{`x"ab"`, 1, "ab", 5},
		{`"a" "b"`, 4, "b", 7},
		{`"a" "b"`, 2, " ", 5},
		{`"\"\\\t\n\r"`, 0, "\"\\\t\n\r", 12},
		{`"\u{41}\x42"`, 0, "AB", 12},
		{`"\u{1B}\xfF"`, 0, "\x1b\xff", 12},
		{`"\x411"`, 0, "A1", 7},
		// Bytes that escapes denote may form an encoding together, or none.
		{`"\xe4\xb8\x80"`, 0, "\u4e00", 14},
		{`"\xe4b8"`, 0, "\xe4b8", 8},
		{"\"\u00e9\u4e00\u0301\ufffd\U0001f600\"", 0, "\u00e9\u4e00\u0301\ufffd\U0001f600", 16},
		// Behind the closing quote and ahead of the opening one anything may stand.
		{"\xff\x1b\"a\"\xff\x1b", 2, "a", 5},
		// An index within an encoding is no matter.
		{"\u4e00\"a\"", 3, "a", 6},
	}
	for _, c := range cases {
		if got, want := unquote(c.q, c.at), (parsed{c.s, c.end, api.Fault{}}); got != want {
			t.Errorf("Unquote(%q, %d) = %v, want %v", c.q, c.at, got, want)
		}
	}
}

// P5.2: each fault, where it is, and which of several comes first.
func TestUnquoteFaults(t *testing.T) {
	cases := []struct {
		q  string
		at int
		f  api.Fault
	}{
		{``, 1, api.Fault{E: api.ErrArg}},
		{``, -1, api.Fault{E: api.ErrArg}},
		{`"a"`, 4, api.Fault{E: api.ErrArg}},
		{`"a"`, -1, api.Fault{E: api.ErrArg}},
		{"\xff", math.MinInt, api.Fault{E: api.ErrArg}},
		{"\xff", math.MaxInt, api.Fault{E: api.ErrArg}},
		{``, 0, api.Fault{E: api.ErrEnd}},
		{`"a"`, 3, api.Fault{E: api.ErrEnd, At: 3}},
		{`a`, 0, api.Fault{E: api.ErrToken}},
		{`ab"`, 1, api.Fault{E: api.ErrToken, At: 1}},
		{"\xff", 0, api.Fault{E: api.ErrToken}},
		{"a\x1b", 1, api.Fault{E: api.ErrToken, At: 1}},
		{`\"a"`, 0, api.Fault{E: api.ErrToken}},
		{`"`, 0, api.Fault{E: api.ErrEnd, At: 1}},
		{`"ab`, 0, api.Fault{E: api.ErrEnd, At: 3}},
		{`"a"`, 2, api.Fault{E: api.ErrEnd, At: 3}},
		{`"ab\"`, 0, api.Fault{E: api.ErrEnd, At: 5}},
		{`"ab\\`, 0, api.Fault{E: api.ErrEnd, At: 5}},
		{`"ab\q"`, 0, api.Fault{E: api.ErrEscape, At: 3}},
		{`z"ab\q"`, 1, api.Fault{E: api.ErrEscape, At: 4}},
		// A backslash that ends the text begins no escape.
		{`"ab\`, 0, api.Fault{E: api.ErrEscape, At: 3}},
		{`"\x4`, 0, api.Fault{E: api.ErrEscape, At: 1}},
		{`"\x4"`, 0, api.Fault{E: api.ErrEscape, At: 1}},
		{`"\u{d800}"`, 0, api.Fault{E: api.ErrEscape, At: 1}},
		{`"\u{0000041}"`, 0, api.Fault{E: api.ErrEscape, At: 1}},
		{"\"\\\xff\"", 0, api.Fault{E: api.ErrEscape, At: 1}},
		{"\"\\\x1b\"", 0, api.Fault{E: api.ErrEscape, At: 1}},
		{"\"a\xff\"", 0, api.Fault{E: api.ErrUtf, At: 2}},
		{"\"a\xe4\xb8\"", 0, api.Fault{E: api.ErrUtf, At: 2}},
		{"\"\xe4\xb8", 0, api.Fault{E: api.ErrUtf, At: 1}},
		{"\"\xed\xa0\x80\"", 0, api.Fault{E: api.ErrUtf, At: 1}},
		{"\"a\tb\"", 0, api.Fault{E: api.ErrChar, At: 2}},
		{"\"\n\"", 0, api.Fault{E: api.ErrChar, At: 1}},
		{"\"\r\"", 0, api.Fault{E: api.ErrChar, At: 1}},
		{"\"\x1b\"", 0, api.Fault{E: api.ErrChar, At: 1}},
		{"\"\u00e9\u0080\"", 0, api.Fault{E: api.ErrChar, At: 3}},
		{"\"\u202e\"", 0, api.Fault{E: api.ErrChar, At: 1}},
		{"\"\ufeff", 0, api.Fault{E: api.ErrChar, At: 1}},
		// Unit by unit: what stands first counts, whatever follows.
		{"\"\xff\x1b\\q", 0, api.Fault{E: api.ErrUtf, At: 1}},
		{"\"\x1b\xff\\q", 0, api.Fault{E: api.ErrChar, At: 1}},
		{"\"\\q\x1b\xff", 0, api.Fault{E: api.ErrEscape, At: 1}},
	}
	for _, c := range cases {
		if got, want := unquote(c.q, c.at), (parsed{f: c.f}); got != want {
			t.Errorf("Unquote(%q, %d) = %v, want %v", c.q, c.at, got, want)
		}
	}
}

// P5.2: all short texts, behind an opening quote, from each index in and
// outside them.
func TestUnquoteEverywhere(t *testing.T) {
	for _, q := range joined(quoted, 4) {
		q = `"` + q
		if got, want := unquote(q, 0), parse(q, 0); got != want {
			t.Fatalf("Unquote(%q, 0) = %v, want %v", q, got, want)
		}
	}
	for _, q := range joined(quoted, 3) {
		for at := -1; at <= len(q)+1; at++ {
			if got, want := unquote(q, at), parse(q, at); got != want {
				t.Fatalf("Unquote(%q, %d) = %v, want %v", q, at, got, want)
			}
		}
		for _, at := range extremes {
			if got, want := unquote(q, at), fault(api.ErrArg, 0); got != want {
				t.Fatalf("Unquote(%q, %d) = %v, want %v", q, at, got, want)
			}
		}
	}
}

// P5.2: every scalar stands for itself, or must not stand there.
func TestUnquoteOfAll(t *testing.T) {
	for r := range rune(api.MaxRune + 1) {
		if !utf8.ValidRune(r) {
			continue
		}
		q := `"` + string(r) + `"`
		if got, want := unquote(q, 0), parse(q, 0); got != want {
			t.Fatalf("Unquote(%q, 0) = %v, want %v", q, got, want)
		}
	}
}

// P5.2: canonical is the whole of what Quote would write, nothing else.
func TestCanonical(t *testing.T) {
	cases := []struct {
		q    string
		want bool
	}{
		{`""`, true},
		{`"A"`, true},
		{`"\"\\\t\n\r\u{1b}\xff"`, true},
		{"\"\u00e9\u4e00\"", true},
		{`"\u{202e}"`, true},
		{`"\xe4\xb8"`, true},
		{`"\xe4\xb8a"`, true},
		// Escapes of what needs none, or needs another one.
		{`"\x41"`, false},
		{`"\u{41}"`, false},
		{`"\x1b"`, false},
		{`"\u{9}"`, false},
		{`"\x09"`, false},
		{`"\u{22}"`, false},
		{`"\u{ff}"`, false},
		{`"\xe4\xb8\x80"`, false},
		// Leading zeros, and digits in upper case.
		{`"\u{01b}"`, false},
		{`"\u{1B}"`, false},
		{`"\xFF"`, false},
		// Text ahead of or behind it.
		{`"A" `, false},
		{` "A"`, false},
		{`"A""`, false},
		{`"A""B"`, false},
		// What is no quoted string.
		{``, false},
		{`"`, false},
		{`A`, false},
		{`"A`, false},
		{`A"`, false},
		{`"\q"`, false},
		{"\"\xff\"", false},
		{"\"\x1b\"", false},
		{"\"\n\"", false},
	}
	for _, c := range cases {
		if got := Canonical(c.q); got != c.want {
			t.Errorf("Canonical(%q) = %t", c.q, got)
		}
	}
	for _, q := range joined(quoted, 4) {
		for _, q := range []string{q, `"` + q + `"`} {
			p := parse(q, 0)
			want := p.f.E == api.OK && p.end == len(q) && writeAll(p.s) == q
			if got := Canonical(q); got != want {
				t.Fatalf("Canonical(%q) = %t", q, got)
			}
		}
	}
}

// sources are strings of all kinds: short ones of all pieces, all scalars
// together, all bytes together, and every two bytes.
func sources() []string {
	all := joined(plain, 4)
	var runes, bytes strings.Builder
	for r := range rune(api.MaxRune + 1) {
		if utf8.ValidRune(r) {
			runes.WriteRune(r)
		}
	}
	for b := range 256 {
		bytes.WriteByte(byte(b))
	}
	for n := range 0x10000 {
		all = append(all, string([]byte{byte(n >> 8), byte(n)}))
	}
	return append(all, runes.String(), bytes.String())
}

// P5.3: every string is recovered from its quoted form, which is canonical.
func TestRecovered(t *testing.T) {
	for _, s := range sources() {
		q := Quote(s)
		if got, end, f := Unquote(q, 0); got != s || end != len(q) || f != (api.Fault{}) {
			t.Fatalf("Unquote(%.80q, 0) = %.80q, %d, %v", q, got, end, f)
		}
		if !Canonical(q) {
			t.Fatalf("%.80q is not canonical", q)
		}
		if got, end, f := Unquote("\xff"+q+"\xff", 1); got != s || end != len(q)+1 || f != (api.Fault{}) {
			t.Fatalf("Unquote(%.80q, 1) = %.80q, %d, %v", q, got, end, f)
		}
	}
}

// P5.4: a quoted string is well-formed and contains no unsafe rune.
func TestHarmless(t *testing.T) {
	for _, s := range sources() {
		q := Quote(s)
		if !utf8.ValidString(q) {
			t.Fatalf("Quote(%.80q) = %.80q is not well-formed", s, q)
		}
		for _, r := range q {
			if pinned.IsUnsafe(r) {
				t.Fatalf("Quote(%.80q) = %.80q contains %x", s, q, r)
			}
		}
	}
}
