package cells

import (
	"math"
	"slices"
	"strings"
	"testing"
	"unicode/utf8"

	"blindfold/api"
	"blindfold/pinned"
	"blindfold/ranges"
)

// outside are no runes of any table: negative ones and those that are too great.
var outside = []rune{math.MinInt32, -0x110000, -0x4e00, -0x301, -1, 0x110000, 0x204e00, math.MaxInt32}

// extremes are the indices and columns at which sums and differences may wrap.
var extremes = []int{math.MinInt, math.MinInt + 1, math.MinInt32, math.MaxInt32, math.MaxInt - 1, math.MaxInt}

// pieces are scalars of each number of columns, one to four bytes long, the
// byte that separates lines, and bytes that begin, go on with, or break
// encodings: those of 4e00 apart, and one that no encoding contains.
var pieces = []string{"a", "\n", "\u00e9", "\u0301", "\u4e00", "\U0001f600", "\U000e0101", "\xe4", "\xb8", "\xff"}

// samples are all concatenations of up to four pieces.
func samples() []string {
	all := []string{""}
	from := 0
	for range 4 {
		to := len(all)
		for _, s := range all[from:to] {
			for _, p := range pieces {
				all = append(all, s+p)
			}
		}
		from = to
	}
	return all
}

// unit is what the chapter calls so: its columns and its length.
type unit struct{ columns, bytes int }

// first returns the first unit of s, which is not empty, as the chapter defines
// it. The library's decoder takes one byte where s is not well-formed.
func first(s string) unit {
	r, n := utf8.DecodeRuneInString(s)
	switch {
	case r == utf8.RuneError && n == 1:
		return unit{1, 1}
	case pinned.IsWide(r):
		return unit{2, n}
	case pinned.IsZero(r):
		return unit{0, n}
	}
	return unit{1, n}
}

// units divides s into its units.
func units(s string) []unit {
	var l []unit
	for s != "" {
		u := first(s)
		l = append(l, u)
		s = s[u.bytes:]
	}
	return l
}

// sum adds up the columns and the lengths of units.
func sum(l []unit) unit {
	var all unit
	for _, u := range l {
		all.columns += u.columns
		all.bytes += u.bytes
	}
	return all
}

// The chapter's examples.
func TestExamples(t *testing.T) {
	if w := Width("a\u0301"); w != 1 {
		t.Errorf("Width of a and 301 is %d", w)
	}
}

// P4.1: a rune takes 2 columns in Wide, 0 in Zero, 1 elsewhere; every rune, and
// those that are none, are asked.
func TestRune(t *testing.T) {
	want := make([]int, api.MaxRune+1)
	for r := range want {
		want[r] = 1
	}
	mark := func(s ranges.Set, columns int) {
		for _, one := range s.Ranges() {
			for r := one.Lo; r <= one.Hi; r++ {
				want[r] = columns
			}
		}
	}
	mark(pinned.Wide(), 2)
	mark(pinned.Zero(), 0)
	for r, columns := range want {
		if got := Rune(rune(r)); got != columns {
			t.Fatalf("Rune(%x) = %d, want %d", r, got, columns)
		}
	}
	for _, r := range outside {
		if got := Rune(r); got != 1 {
			t.Errorf("Rune(%x) = %d, want 1", r, got)
		}
	}
}

// P4.1: some runes of each kind, written out.
func TestRuneByHand(t *testing.T) {
	cases := []struct {
		r       rune
		columns int
	}{
		{0, 1}, {'\t', 1}, {'\n', 1}, {0x1b, 1}, {' ', 1}, {'a', 1}, {0x7f, 1}, {0x9f, 1}, {0xe9, 1},
		{0x2ff, 1}, {0x300, 0}, {0x301, 0}, {0x36f, 0}, {0x370, 1},
		{0x10ff, 1}, {0x1100, 2}, {0x115f, 2}, {0x1160, 0}, {0x200b, 0}, {0x202e, 0}, {0xfeff, 0},
		{0x4dff, 1}, {0x4e00, 2}, {0xff01, 2}, {0xd800, 1}, {0xdfff, 1}, {0xfffd, 1},
		{0x1f600, 2}, {0xe01ef, 0}, {0x3fffd, 2}, {0x3fffe, 1}, {0x10ffff, 1},
	}
	for _, c := range cases {
		if got := Rune(c.r); got != c.columns {
			t.Errorf("Rune(%x) = %d, want %d", c.r, got, c.columns)
		}
	}
}

// P4.1: the unit at an index is the encoding that begins there, or one byte.
func TestUnit(t *testing.T) {
	cases := []struct {
		s  string
		at int
		unit
	}{
		{"a", 0, unit{1, 1}},
		{"ab", 1, unit{1, 1}},
		{"\n", 0, unit{1, 1}},
		{"\u00e9", 0, unit{1, 2}},
		{"a\u0301", 1, unit{0, 2}},
		{"\u4e00", 0, unit{2, 3}},
		{"\U0001f600", 0, unit{2, 4}},
		{"\U000e0101", 0, unit{0, 4}},
		// A byte within an encoding begins none.
		{"\u4e00", 1, unit{1, 1}},
		{"\u4e00", 2, unit{1, 1}},
		// Incomplete prefixes of two and three bytes are units byte by byte.
		{"\xe4\xb8", 0, unit{1, 1}},
		{"\xe4\xb8", 1, unit{1, 1}},
		{"\xe4\xb8a", 0, unit{1, 1}},
		{"\xf0\x9f\x98", 0, unit{1, 1}},
		{"\xf0\x9f\x98\n", 0, unit{1, 1}},
		// Bytes that begin no encoding: a surrogate, a long form, a great rune.
		{"\xed\xa0\x80", 0, unit{1, 1}},
		{"\xcc", 0, unit{1, 1}},
		{"\xc1\x81", 0, unit{1, 1}},
		{"\xf4\x90\x80\x80", 0, unit{1, 1}},
		{"\xff", 0, unit{1, 1}},
		// The scalar fffd itself is well-formed.
		{"\ufffd", 0, unit{1, 3}},
	}
	for _, c := range cases {
		if columns, bytes := Unit(c.s, c.at); (unit{columns, bytes}) != c.unit {
			t.Errorf("Unit(%q, %d) = %d, %d, want %v", c.s, c.at, columns, bytes, c.unit)
		}
	}
}

// P4.1: each index of each sample, and indices that are outside.
func TestUnitEverywhere(t *testing.T) {
	for _, s := range samples() {
		for at := range len(s) {
			if columns, bytes := Unit(s, at); (unit{columns, bytes}) != first(s[at:]) {
				t.Fatalf("Unit(%q, %d) = %d, %d, want %v", s, at, columns, bytes, first(s[at:]))
			}
		}
		for _, at := range append([]int{-1, len(s), len(s) + 1}, extremes...) {
			if columns, bytes := Unit(s, at); columns != 0 || bytes != 0 {
				t.Fatalf("Unit(%q, %d) = %d, %d, want 0, 0", s, at, columns, bytes)
			}
		}
	}
}

// P4.1: a string takes the sum of the columns of its units.
func TestWidth(t *testing.T) {
	cases := []struct {
		s       string
		columns int
	}{
		{"", 0}, {"abc", 3}, {"a\nb", 3}, {"\u0301", 0}, {"\u4e00\u4e00", 4}, {"a\u0301\u4e00", 3},
		{"\xff\xc3", 2}, {"\xe4\xb8", 2}, {"\xe4\xb8\xe4\xb8\x80", 4}, {"\xf0\x9f\x98a", 4}, {"\xed\xa0\x80", 3},
		{strings.Repeat("\u4e00", 5000), 10000},
	}
	for _, c := range cases {
		if got := Width(c.s); got != c.columns {
			t.Errorf("Width(%q) = %d, want %d", c.s, got, c.columns)
		}
	}
	for _, s := range samples() {
		if got, want := Width(s), sum(units(s)).columns; got != want {
			t.Fatalf("Width(%q) = %d, want %d", s, got, want)
		}
	}
}

// P4.2: the head is the longest sequence of units that takes at most the
// columns, zero-width ones behind it too; the rest follows it.
func TestCut(t *testing.T) {
	cases := []struct {
		s          string
		most       int
		head, rest string
	}{
		{"", 0, "", ""},
		{"", 5, "", ""},
		{"abc", 0, "", "abc"},
		{"abc", 2, "ab", "c"},
		{"abc", 3, "abc", ""},
		{"abc", 4, "abc", ""},
		{"abc", -1, "", "abc"},
		// A wide rune that doesn't fit ends the head, though later units would fit.
		{"a\u4e00b", 2, "a", "\u4e00b"},
		{"a\u4e00b", 3, "a\u4e00", "b"},
		{"\u4e00", 1, "", "\u4e00"},
		// Units of no columns belong to the head when no columns are left.
		{"ab\u0301c", 2, "ab\u0301", "c"},
		{"ab\u0301\u0302", 2, "ab\u0301\u0302", ""},
		{"\u0301a", 0, "\u0301", "a"},
		// A negative number of columns leaves the head empty even so.
		{"\u0301a", -1, "", "\u0301a"},
		{"\u0301", math.MinInt, "", "\u0301"},
		// Bytes that are not well-formed are cut apart.
		{"\xe4\xb8", 1, "\xe4", "\xb8"},
		{"\xff\xc3a", 2, "\xff\xc3", "a"},
	}
	for _, c := range cases {
		if head, rest := Cut(c.s, c.most); head != c.head || rest != c.rest {
			t.Errorf("Cut(%q, %d) = %q, %q, want %q, %q", c.s, c.most, head, rest, c.head, c.rest)
		}
	}
}

// longest returns the length of the longest sequence of units, of all of them,
// that takes at most most columns.
func longest(l []unit, most int) int {
	if most < 0 {
		return 0
	}
	best := 0
	for n := range len(l) + 1 {
		if head := sum(l[:n]); head.columns <= most {
			best = max(best, head.bytes)
		}
	}
	return best
}

// P4.2: each sample is cut at each number of columns.
func TestCutEverywhere(t *testing.T) {
	for _, s := range samples() {
		l := units(s)
		mosts := slices.Clone(extremes)
		for most := -2; most <= sum(l).columns+2; most++ {
			mosts = append(mosts, most)
		}
		for _, most := range mosts {
			n := longest(l, most)
			if head, rest := Cut(s, most); head != s[:n] || rest != s[n:] {
				t.Fatalf("Cut(%q, %d) = %q, %q, want %q, %q", s, most, head, rest, s[:n], s[n:])
			}
		}
	}
}

// P4.3: head and rest together are the string, and the unit that follows the
// head would exceed the columns.
func TestCutKeepsAll(t *testing.T) {
	for _, s := range samples() {
		for most := range 10 {
			head, rest := Cut(s, most)
			if head+rest != s {
				t.Fatalf("Cut(%q, %d) = %q, %q", s, most, head, rest)
			}
			if Width(head) > most {
				t.Fatalf("Cut(%q, %d): the head %q takes too much", s, most, head)
			}
			if rest == "" {
				continue
			}
			if columns, _ := Unit(rest, 0); Width(head)+columns <= most {
				t.Fatalf("Cut(%q, %d): the head %q may be longer", s, most, head)
			}
		}
	}
}

// P4.2: as many spaces as are needed, none where there are columns enough.
func TestPad(t *testing.T) {
	cases := []struct {
		s     string
		least int
		want  string
	}{
		{"", 0, ""},
		{"", 2, "  "},
		{"a", 3, "a  "},
		{"abc", 3, "abc"},
		{"abcd", 3, "abcd"},
		{"a", -1, "a"},
		{"\u4e00", 3, "\u4e00 "},
		{"a\u0301", 2, "a\u0301 "},
		{"\u0301", 1, "\u0301 "},
		{"\xff", 2, "\xff "},
		// The spaces break no encoding, and count beside an incomplete prefix.
		{"\xe4\xb8", 3, "\xe4\xb8 "},
		// All lines count together.
		{"a\n", 3, "a\n "},
	}
	for _, c := range cases {
		if got := Pad(c.s, c.least); got != c.want {
			t.Errorf("Pad(%q, %d) = %q, want %q", c.s, c.least, got, c.want)
		}
	}
	for _, s := range samples() {
		for least := -1; least <= 10; least++ {
			want := s + strings.Repeat(" ", max(0, least-sum(units(s)).columns))
			if got := Pad(s, least); got != want {
				t.Fatalf("Pad(%q, %d) = %q, want %q", s, least, got, want)
			}
		}
	}
}

// P4.2: more than MaxWidth columns count as MaxWidth, and no number wraps.
func TestPadBounds(t *testing.T) {
	long := strings.Repeat("\u4e00", 501)
	for _, least := range []int{999, 1000, 1001, math.MaxInt32, math.MaxInt - 1, math.MaxInt} {
		want := min(least, 1000)
		if got := Pad("\u4e00", least); got != "\u4e00"+strings.Repeat(" ", want-2) {
			t.Errorf("Pad to %d columns has %d bytes", least, len(got))
		}
		if got := Pad(long, least); got != long {
			t.Errorf("Pad to %d columns adds %d bytes to 1002 columns", least, len(got)-len(long))
		}
	}
	for _, least := range []int{math.MinInt, math.MinInt + 1, math.MinInt32, -1, 0} {
		for _, s := range []string{"", "a", "\u0301", long} {
			if got := Pad(s, least); got != s {
				t.Errorf("Pad to %d columns adds %d bytes", least, len(got)-len(s))
			}
		}
	}
}

// P4.2: the widest line counts; the byte 10 separates lines and takes nothing.
func TestWidest(t *testing.T) {
	cases := []struct {
		s       string
		columns int
	}{
		{"", 0}, {"\n", 0}, {"\n\n\n", 0}, {"abc", 3}, {"abc\n", 3}, {"\nabc", 3},
		{"abc\nd", 3}, {"a\nbcd", 3}, {"a\nbcd\nef", 3}, {"ab\n\u4e00\u4e00\nc", 4},
		{"\u0301\n\u0301", 0}, {"a\rb", 3}, {"a\u2028b", 2}, {"a\u0085b", 3},
		{"\xe4\xb8\n\x80", 2}, {"\xff\xff\xff\na", 3},
	}
	for _, c := range cases {
		if got := Widest(c.s); got != c.columns {
			t.Errorf("Widest(%q) = %d, want %d", c.s, got, c.columns)
		}
	}
	for _, s := range samples() {
		want := 0
		for _, line := range strings.Split(s, "\n") {
			want = max(want, sum(units(line)).columns)
		}
		if got := Widest(s); got != want {
			t.Fatalf("Widest(%q) = %d, want %d", s, got, want)
		}
	}
}
