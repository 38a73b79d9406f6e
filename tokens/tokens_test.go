package tokens

import (
	"math"
	"math/rand"
	"regexp"
	"slices"
	"strconv"
	"strings"
	"testing"
	"unicode/utf8"

	"blindfold/api"
	"blindfold/digits"
	"blindfold/escape"
	"blindfold/pinned"
)

// long is a name that is as long as a name may be.
var long = strings.Repeat("z_9b", 8)

// pieces are what texts are made of here: what tokens and comments begin with,
// go on with and end with, all blanks, and what may stand nowhere, or only
// between quotes or in a comment.
var pieces = []string{
	"a", "_", "7", "0", "-", ".", "{", "\"", "\\", "n", ";",
	"\t", "\n", "\r", " ", "A", "\u4e00", "\x1b", "\u202e", "\xe4", "\xb8", long,
}

// samples are all concatenations of up to most of the pieces.
func samples(most int) []string {
	all := []string{""}
	from := 0
	for range most {
		to := len(all)
		for _, s := range all[from:to] {
			for _, p := range pieces {
				all = append(all, s+p)
			}
		}
		from = to
	}
	return all
}

// random is a text of n pieces, of which most are such that a token may follow.
func random(source *rand.Rand, n int) string {
	often := []string{"ab", "a_1", "-12", "0", "305", "\"x\\n\"", "\"\"", "..", "=", "~", " ", "\n", "; r.\n", ";\t\u00e9\n"}
	var s strings.Builder
	for range n {
		if source.Intn(40) == 0 {
			s.WriteString(pieces[source.Intn(len(pieces))])
			continue
		}
		s.WriteString(often[source.Intn(len(often))])
	}
	return s.String()
}

// scalars calls do for every rune that has an encoding.
func scalars(do func(r rune)) {
	for r := range rune(api.MaxRune + 1) {
		if utf8.ValidRune(r) {
			do(r)
		}
	}
}

// The tokens, by what they are.
func name(at int, s string) api.Token {
	return api.Token{Kind: api.TName, At: at, End: at + len(s), Text: s}
}
func mark(at int, s string) api.Token {
	return api.Token{Kind: api.TMark, At: at, End: at + len(s), Text: s}
}
func number(at, end, n int) api.Token {
	return api.Token{Kind: api.TInt, At: at, End: end, N: n}
}
func text(at, end int, s string) api.Token {
	return api.Token{Kind: api.TText, At: at, End: end, Text: s}
}
func ending(at int) api.Token { return api.Token{Kind: api.TEnd, At: at, End: at} }

// list is a list of tokens.
func list(l ...api.Token) []api.Token { return l }

// markList are the marks, as the chapter lists them.
var markList = []string{"{", "}", "[", "]", "(", ")", ",", ":", "=", "<", ">", "@", "+", "#", "~", "*", ".."}

// markAt is Mark as the chapter defines it.
func markAt(s string, at int) string {
	if at >= 0 && at <= len(s) {
		for _, m := range markList {
			if strings.HasPrefix(s[at:], m) {
				return m
			}
		}
	}
	return ""
}

// isBlank is Blank as the chapter defines it.
func isBlank(c byte) bool { return slices.Contains([]byte{9, 10, 13, 32}, c) }

// oneName is the longest sequence of name characters that begins a text.
var oneName = regexp.MustCompile(`\A[a-z][a-z0-9_]*`)

// readComment returns the index after the comment at index at.
func readComment(s string, at int) (int, api.Fault) {
	for at < len(s) && s[at] != 10 {
		r, n := utf8.DecodeRuneInString(s[at:])
		if r == utf8.RuneError && n == 1 {
			return 0, api.Fault{E: api.ErrUtf, At: at}
		}
		if r != 9 && pinned.IsUnsafe(r) {
			return 0, api.Fault{E: api.ErrChar, At: at}
		}
		at += n
	}
	return at, api.Fault{}
}

// readToken returns the token at index at.
func readToken(s string, at int) (api.Token, api.Fault) {
	if w := oneName.FindString(s[at:]); len(w) > 32 {
		return api.Token{}, api.Fault{E: api.ErrName, At: at}
	} else if w != "" {
		return name(at, w), api.Fault{}
	}
	if strings.IndexByte("-0123456789", s[at]) >= 0 {
		n, end, f := digits.Take(s, at)
		return number(at, end, n), f
	}
	if s[at] == '"' {
		denoted, end, f := escape.Unquote(s, at)
		return text(at, end, denoted), f
	}
	if m := markAt(s, at); m != "" {
		return mark(at, m), api.Fault{}
	}
	if r, n := utf8.DecodeRuneInString(s[at:]); r == utf8.RuneError && n == 1 {
		return api.Token{}, api.Fault{E: api.ErrUtf, At: at}
	}
	return api.Token{}, api.Fault{E: api.ErrChar, At: at}
}

// read is Scan as the chapter defines it.
func read(s string) ([]api.Token, api.Fault) {
	if len(s) > 65536 {
		return nil, api.Fault{E: api.ErrSize, At: 65536}
	}
	var l []api.Token
	for at := 0; at < len(s); {
		var f api.Fault
		if isBlank(s[at]) {
			at++
		} else if s[at] == 59 {
			at, f = readComment(s, at)
		} else {
			var one api.Token
			one, f = readToken(s, at)
			l = append(l, one)
			at = one.End
		}
		if f.E != api.OK {
			return nil, f
		}
	}
	return append(l, ending(len(s))), api.Fault{}
}

// What may stand ahead of a token, and behind the last one.
var (
	ahead  = regexp.MustCompile(`\A(?:[\t\n\r ]|;[^\n]*\n)*\z`)
	behind = regexp.MustCompile(`\A(?:[\t\n\r ]|;[^\n]*\n)*(?:;[^\n]*)?\z`)
)

// check tells whether what Scan answers to s is what the chapter says, and has
// the chapter's properties; it returns whether s has no fault.
func check(t *testing.T, s string) bool {
	t.Helper()
	got, f := Scan(s)
	if want, fault := read(s); !slices.Equal(got, want) || f != fault {
		t.Fatalf("Scan(%.80q) = %.200v, %v, want %.200v, %v", s, got, f, want, fault)
	}
	if f != (api.Fault{}) {
		if got != nil {
			t.Fatalf("Scan(%.80q) = %.200v beside a fault", s, got)
		}
		return false
	}
	at := 0
	for i, one := range got {
		last := i == len(got)-1
		if one.At < at || one.End < one.At || one.End > len(s) || last != (one.End == one.At) || last != (one.Kind == api.TEnd) {
			t.Fatalf("Scan(%.80q): the token %d, %v, is out of its place", s, i, one)
		}
		between := s[at:one.At]
		if !ahead.MatchString(between) && !(last && behind.MatchString(between)) {
			t.Fatalf("Scan(%.80q): ahead of the token %d stands %q", s, i, between)
		}
		at = one.End
	}
	if at != len(s) {
		t.Fatalf("Scan(%.80q) ends at %d", s, at)
	}
	return true
}

// The chapter's example.
func TestExamples(t *testing.T) {
	got, f := Scan("a:-1")
	if want := list(name(0, "a"), mark(1, ":"), number(2, 4, -1), ending(4)); !slices.Equal(got, want) || f != (api.Fault{}) {
		t.Errorf("Scan of a:-1 = %v, %v", got, f)
	}
}

// P13.1: which bytes are blanks.
func TestBlank(t *testing.T) {
	for n := range 256 {
		if got, want := Blank(byte(n)), isBlank(byte(n)); got != want {
			t.Errorf("Blank(%d) = %t", n, got)
		}
	}
}

// P13.1: the mark at an index, by hand.
func TestMark(t *testing.T) {
	cases := []struct {
		s    string
		at   int
		want string
	}{
		{"{", 0, "{"},
		{"a}b", 1, "}"},
		{"a}b", 0, ""},
		{"a}b", 2, ""},
		{"[](),:=<>@+#~*", 0, "["},
		{"[](),:=<>@+#~*", 13, "*"},
		// Two dots are one mark, wherever the first one stands.
		{"..", 0, ".."},
		{"0..9", 1, ".."},
		{"..", 1, ""},
		{".", 0, ""},
		{". .", 0, ""},
		{"a.b", 1, ""},
		{"...", 0, ".."},
		{"...", 1, ".."},
		{"...", 2, ""},
		{"....", 2, ".."},
		// No other mark is of two characters.
		{"{{", 0, "{"},
		{"<>", 0, "<"},
		{":=", 0, ":"},
		// What begins other tokens, or comments, or stands nowhere.
		{"a", 0, ""},
		{"0", 0, ""},
		{"-", 0, ""},
		{"\"", 0, ""},
		{";", 0, ""},
		{" ", 0, ""},
		{"_", 0, ""},
		{"!?%&|/\\'`^$", 0, ""},
		{"\x00", 0, ""},
		{"\xff", 0, ""},
		{"\u4e00{", 3, "{"},
		// It counts what stands at the index, and not what is ahead of it.
		{"\"{\"", 1, "{"},
		{";{", 1, "{"},
		{"\xff{", 1, "{"},
		// Outside.
		{"", 0, ""},
		{"{", 1, ""},
		{"{", -1, ""},
		{"..", 2, ""},
		{"{", math.MaxInt, ""},
		{"{", math.MinInt, ""},
		{"{", math.MaxInt32 + 1, ""},
		{"{", math.MinInt32, ""},
		{"{{", 1 << 32, ""},
	}
	for _, c := range cases {
		if got := Mark(c.s, c.at); got != c.want {
			t.Errorf("Mark(%q, %d) = %q, want %q", c.s, c.at, got, c.want)
		}
	}
}

// P13.1: all texts of two bytes, every scalar, and all short texts, at each
// index in and outside them.
func TestMarkEverywhere(t *testing.T) {
	hold := func(s string) {
		for at := -1; at <= len(s)+1; at++ {
			if got, want := Mark(s, at), markAt(s, at); got != want {
				t.Fatalf("Mark(%q, %d) = %q, want %q", s, at, got, want)
			}
		}
	}
	for n := range 0x10000 {
		hold(string([]byte{byte(n >> 8), byte(n)}))
	}
	scalars(func(r rune) { hold(string(r)) })
	for _, s := range samples(3) {
		hold(s)
	}
}

// P13.2: the tokens of texts, by hand.
func TestScan(t *testing.T) {
	cases := []struct {
		s    string
		want []api.Token
	}{
		{"", list(ending(0))},
		{" ", list(ending(1))},
		{"\t\n\r ", list(ending(4))},
		// Names, which take all name characters that follow.
		{"a", list(name(0, "a"), ending(1))},
		{" ab_1\n", list(name(1, "ab_1"), ending(6))},
		{"a b\tc\rd\ne", list(name(0, "a"), name(2, "b"), name(4, "c"), name(6, "d"), name(8, "e"), ending(9))},
		{"z__", list(name(0, "z__"), ending(3))},
		{long, list(name(0, long), ending(32))},
		{long + " a", list(name(0, long), name(33, "a"), ending(34))},
		{"true levels", list(name(0, "true"), name(5, "levels"), ending(11))},
		// Numbers.
		{"0", list(number(0, 1, 0), ending(1))},
		{"305", list(number(0, 3, 305), ending(3))},
		{"-17", list(number(0, 3, -17), ending(3))},
		{"1-2", list(number(0, 1, 1), number(1, 3, -2), ending(3))},
		{"9223372036854775807", list(number(0, 19, math.MaxInt), ending(19))},
		{"-9223372036854775808", list(number(0, 20, math.MinInt), ending(20))},
		// What follows a token need not be separated from it.
		{"12ab", list(number(0, 2, 12), name(2, "ab"), ending(4))},
		{"a-1", list(name(0, "a"), number(1, 3, -1), ending(3))},
		{"a\"b\"c", list(name(0, "a"), text(1, 4, "b"), name(4, "c"), ending(5))},
		{"\"\"\"\"", list(text(0, 2, ""), text(2, 4, ""), ending(4))},
		{"1\"2\"-3", list(number(0, 1, 1), text(1, 4, "2"), number(4, 6, -3), ending(6))},
		// Quoted strings: what they denote, and what is in them unchanged.
		{`""`, list(text(0, 2, ""), ending(2))},
		{`"a b"`, list(text(0, 5, "a b"), ending(5))},
		{`"\"\\\t\n\r\x1b\u{4e00}"`, list(text(0, 24, "\"\\\t\n\r\x1b\u4e00"), ending(24))},
		{`"\xff"`, list(text(0, 6, "\xff"), ending(6))},
		{`"; {1"`, list(text(0, 6, "; {1"), ending(6))},
		{"\"\u4e00\"", list(text(0, 5, "\u4e00"), ending(5))},
		// Marks.
		{"{}[](),:", list(mark(0, "{"), mark(1, "}"), mark(2, "["), mark(3, "]"), mark(4, "("), mark(5, ")"), mark(6, ","), mark(7, ":"), ending(8))},
		{"=<>@+#~*", list(mark(0, "="), mark(1, "<"), mark(2, ">"), mark(3, "@"), mark(4, "+"), mark(5, "#"), mark(6, "~"), mark(7, "*"), ending(8))},
		{"..", list(mark(0, ".."), ending(2))},
		{"....", list(mark(0, ".."), mark(2, ".."), ending(4))},
		{"0..9", list(number(0, 1, 0), mark(1, ".."), number(3, 4, 9), ending(4))},
		{"<***>", list(mark(0, "<"), mark(1, "*"), mark(2, "*"), mark(3, "*"), mark(4, ">"), ending(5))},
		{"+1", list(mark(0, "+"), number(1, 2, 1), ending(2))},
		// Comments, which end ahead of a line end or with the text.
		{";", list(ending(1))},
		{"; {a 1 \"x % .", list(ending(13))},
		{"a;b\nc", list(name(0, "a"), name(4, "c"), ending(5))},
		{"a;b", list(name(0, "a"), ending(3))},
		{"a;\n", list(name(0, "a"), ending(3))},
		{";\n;\n\n;", list(ending(6))},
		{";;a\nb;;", list(name(4, "b"), ending(7))},
		{"a;\tb\t\nc", list(name(0, "a"), name(6, "c"), ending(7))},
		{"1;\u00e9\u4e00\U0001f600\n2", list(number(0, 1, 1), number(12, 13, 2), ending(13))},
		{"1;\u0301\n", list(number(0, 1, 1), ending(5))},
		{"1;2\n..", list(number(0, 1, 1), mark(4, ".."), ending(6))},
		// A part of the whole.
		{"pin: int(0..9999) @hi #4 ~floor(1000)", list(
			name(0, "pin"), mark(3, ":"), name(5, "int"), mark(8, "("), number(9, 10, 0), mark(10, ".."), number(12, 16, 9999), mark(16, ")"),
			mark(18, "@"), name(19, "hi"), mark(22, "#"), number(23, 24, 4), mark(25, "~"), name(26, "floor"), mark(31, "("), number(32, 36, 1000), mark(36, ")"), ending(37))},
	}
	for _, c := range cases {
		got, f := Scan(c.s)
		if !slices.Equal(got, c.want) || f != (api.Fault{}) {
			t.Errorf("Scan(%q) = %v, %v, want %v", c.s, got, f, c.want)
		}
	}
}

// P13.2: what Scan does not take, by hand.
func TestScanFaults(t *testing.T) {
	cases := []struct {
		s  string
		e  api.Errno
		at int
	}{
		// In comments.
		{";\xff", api.ErrUtf, 1},
		{"a ;b\xe4\xb8", api.ErrUtf, 4},
		{";\xe4\xb8\n", api.ErrUtf, 1},
		{";\u4e00\x80", api.ErrUtf, 4},
		{";\xed\xa0\x80", api.ErrUtf, 1},
		{";\x1b", api.ErrChar, 1},
		{"a;b\r\n", api.ErrChar, 3},
		{"a;b\v", api.ErrChar, 3},
		{";\x00", api.ErrChar, 1},
		{";\x7f", api.ErrChar, 1},
		{";\u4e00\u0085", api.ErrChar, 4},
		{";\u202e", api.ErrChar, 1},
		{";\u00ad", api.ErrChar, 1},
		{";\u2028", api.ErrChar, 1},
		{";\ufeff", api.ErrChar, 1},
		{";\U000e0001", api.ErrChar, 1},
		{";a\n;\t\x1b", api.ErrChar, 5},
		// At letters.
		{long + "a", api.ErrName, 0},
		{long + "_", api.ErrName, 0},
		{long + "0", api.ErrName, 0},
		{"a," + long + long, api.ErrName, 2},
		{"1" + long + "a", api.ErrName, 1},
		// At digits and at a -.
		{"-", api.ErrEnd, 1},
		{"a -", api.ErrEnd, 3},
		{"--1", api.ErrForm, 1},
		{"- 1", api.ErrForm, 1},
		{"a:-a", api.ErrForm, 3},
		{"-;", api.ErrForm, 1},
		{"-\n", api.ErrForm, 1},
		{"007", api.ErrForm, 0},
		{"a 00", api.ErrForm, 2},
		{"-0", api.ErrForm, 0},
		{" -01", api.ErrForm, 1},
		{"9223372036854775808", api.ErrNumber, 0},
		{"(-9223372036854775809", api.ErrNumber, 1},
		{"1..99999999999999999999", api.ErrNumber, 3},
		// At quotes.
		{"\"", api.ErrEnd, 1},
		{"a \"b", api.ErrEnd, 4},
		{`a "b\"`, api.ErrEnd, 6},
		{`a "b\q"`, api.ErrEscape, 4},
		{`"\`, api.ErrEscape, 1},
		{`{"\u{d800}"`, api.ErrEscape, 2},
		{"\"a\xff\"", api.ErrUtf, 2},
		{"a:\"\xe4\xb8\"", api.ErrUtf, 3},
		{"\"a\nb\"", api.ErrChar, 2},
		{"\"a\tb\"", api.ErrChar, 2},
		{"a:\"\u202e\"", api.ErrChar, 3},
		{"\"a\" \"", api.ErrEnd, 5},
		// Where no token begins.
		{"\xff", api.ErrUtf, 0},
		{"a\xff", api.ErrUtf, 1},
		{"a \xe4\xb8", api.ErrUtf, 2},
		{"1\x80", api.ErrUtf, 1},
		{"\xed\xa0\x80", api.ErrUtf, 0},
		{"\xc3", api.ErrUtf, 0},
		{"ab %", api.ErrChar, 3},
		{"A", api.ErrChar, 0},
		{"aB", api.ErrChar, 1},
		{"_a", api.ErrChar, 0},
		{"1_", api.ErrChar, 1},
		{"a!b", api.ErrChar, 1},
		{"a?", api.ErrChar, 1},
		{"'a'", api.ErrChar, 0},
		{"\\", api.ErrChar, 0},
		{".", api.ErrChar, 0},
		{"a.b", api.ErrChar, 1},
		{"...", api.ErrChar, 2},
		{". .", api.ErrChar, 0},
		{"1.5", api.ErrChar, 1},
		{"a\x00", api.ErrChar, 1},
		{"a\x1b", api.ErrChar, 1},
		{"a\vb", api.ErrChar, 1},
		{"a\fb", api.ErrChar, 1},
		{"a\u00a0b", api.ErrChar, 1},
		{"\u00e9", api.ErrChar, 0},
		{"a\u4e00", api.ErrChar, 1},
		{"a\u202e", api.ErrChar, 1},
		{"\ufeffa", api.ErrChar, 0},
		{"\ufffd", api.ErrChar, 0},
		// The first one from the beginning, whatever follows.
		{"% \xff", api.ErrChar, 0},
		{"\xff %", api.ErrUtf, 0},
		{";\x1b\xff", api.ErrChar, 1},
		{";\xff\x1b", api.ErrUtf, 1},
		{";\x1b\n\xff", api.ErrChar, 1},
		{"\x1b;\xff", api.ErrChar, 0},
		{"-\xff", api.ErrForm, 1},
		{"-\x1b", api.ErrForm, 1},
		{"00\xff", api.ErrForm, 0},
		{long + "a\xff", api.ErrName, 0},
		{"\xff" + long + "a", api.ErrUtf, 0},
		{"\"a\\q\" %", api.ErrEscape, 2},
		{"% \"a\\q\"", api.ErrChar, 0},
		{"\"a;\xff", api.ErrUtf, 3},
		{"\"a;\x1b\xff", api.ErrChar, 3},
		{"00 \"", api.ErrForm, 0},
		{"\" 00", api.ErrEnd, 4},
	}
	for _, c := range cases {
		want := api.Fault{E: c.e, At: c.at}
		if got, f := Scan(c.s); got != nil || f != want {
			t.Errorf("Scan(%.80q) = %v, %v, want %v", c.s, got, f, want)
		}
	}
}

// P13.2, P13.3: all texts of two bytes, all short texts, and random long ones.
func TestScanEverything(t *testing.T) {
	source := rand.New(rand.NewSource(13))
	texts := samples(4)
	for n := range 0x10000 {
		texts = append(texts, string([]byte{byte(n >> 8), byte(n)}))
	}
	for range 5000 {
		texts = append(texts, random(source, source.Intn(60)))
	}
	right := 0
	for _, s := range texts {
		if check(t, s) {
			right++
		}
	}
	if right < len(texts)/100 || right > len(texts)*99/100 {
		t.Errorf("%d of %d texts are right", right, len(texts))
	}
}

// P13.2: every scalar where a token may begin, in a comment, and in quotes.
func TestScanOfAll(t *testing.T) {
	scalars(func(r rune) {
		check(t, "a"+string(r))
		check(t, "a;"+string(r)+"\nb")
		check(t, "\""+string(r)+"\"")
	})
}

// P13.2: texts that are as long as they may be, or longer, of which nothing else
// is told.
func TestSize(t *testing.T) {
	cases := []struct {
		s      string
		tokens int
		f      api.Fault
	}{
		{strings.Repeat(" ", 65536), 1, api.Fault{}},
		{strings.Repeat("{", 65536), 65537, api.Fault{}},
		{strings.Repeat("..", 32768), 32769, api.Fault{}},
		{strings.Repeat("a ", 32768), 32769, api.Fault{}},
		{strings.Repeat(";\n", 32768), 1, api.Fault{}},
		{";" + strings.Repeat("\u00e9", 32767) + "a", 1, api.Fault{}},
		{"\"" + strings.Repeat("x", 65534) + "\"", 2, api.Fault{}},
		{strings.Repeat("\"", 65536), 32769, api.Fault{}},
		{strings.Repeat(" ", 65535) + "%", 0, api.Fault{E: api.ErrChar, At: 65535}},
		{strings.Repeat(" ", 65535) + "-", 0, api.Fault{E: api.ErrEnd, At: 65536}},
		{";" + strings.Repeat(".", 65534) + "\xff", 0, api.Fault{E: api.ErrUtf, At: 65535}},
		{strings.Repeat("a", 65536), 0, api.Fault{E: api.ErrName}},
		{strings.Repeat("9", 65536), 0, api.Fault{E: api.ErrNumber}},
		{"\"" + strings.Repeat("x", 65535), 0, api.Fault{E: api.ErrEnd, At: 65536}},
		{strings.Repeat(" ", 65537), 0, api.Fault{E: api.ErrSize, At: 65536}},
		{strings.Repeat("{", 70000), 0, api.Fault{E: api.ErrSize, At: 65536}},
		{"%" + strings.Repeat(" ", 65536), 0, api.Fault{E: api.ErrSize, At: 65536}},
		{"\xff" + strings.Repeat("a", 65536), 0, api.Fault{E: api.ErrSize, At: 65536}},
		{";" + strings.Repeat("\x1b", 65536), 0, api.Fault{E: api.ErrSize, At: 65536}},
		{strings.Repeat("00", 1<<20), 0, api.Fault{E: api.ErrSize, At: 65536}},
	}
	for _, c := range cases {
		got, f := Scan(c.s)
		if len(got) != c.tokens || f != c.f {
			t.Errorf("Scan(%.20q of %d) = %d tokens, %v, want %d, %v", c.s, len(c.s), len(got), f, c.tokens, c.f)
		}
		check(t, c.s)
	}
}

// put is the text of a token, in the form that the lower layers give it.
func put(one api.Token) string {
	switch one.Kind {
	case api.TInt:
		return strconv.Itoa(one.N)
	case api.TText:
		return escape.Quote(one.Text)
	}
	return one.Text
}

// P13.2, P13.3: blanks and comments tell nothing: what is between the tokens may
// be other blanks and comments, and the tokens are the same but for their
// places.
func TestBetween(t *testing.T) {
	source := rand.New(rand.NewSource(31))
	gaps := []string{" ", "\n", "\t", "\r\n", ";\n", " ; a 1 \"\n ", ";;\t\u4e00\n\t"}
	for range 5000 {
		got, f := Scan(random(source, source.Intn(30)))
		if f != (api.Fault{}) {
			continue
		}
		var s strings.Builder
		var want []api.Token
		for _, one := range got {
			s.WriteString(gaps[source.Intn(len(gaps))])
			one.At = s.Len()
			s.WriteString(put(one))
			one.End = s.Len()
			want = append(want, one)
		}
		if again, f := Scan(s.String()); !slices.Equal(again, want) || f != (api.Fault{}) {
			t.Fatalf("Scan(%q) = %v, %v, want %v", s.String(), again, f, want)
		}
	}
}

// R3, R4: no two answers share memory, and each call answers the same.
func TestMemory(t *testing.T) {
	const s = "a: \"x\\n\" ; r\n-12.."
	want := list(name(0, "a"), mark(1, ":"), text(3, 8, "x\n"), number(13, 16, -12), mark(16, ".."), ending(18))
	first, _ := Scan(s)
	second, _ := Scan(s)
	for _, got := range [][]api.Token{first, second} {
		if !slices.Equal(got, want) {
			t.Errorf("Scan(%q) = %v, want %v", s, got, want)
		}
		_ = append(got, api.Token{Kind: 9})
		clear(got)
	}
	if third, _ := Scan(s); !slices.Equal(third, want) {
		t.Errorf("Scan(%q) = %v, want %v", s, third, want)
	}
}
