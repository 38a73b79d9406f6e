package utf

import (
	"math"
	"slices"
	"strings"
	"testing"
	"unicode/utf8"
)

// edges are the scalars and their encodings at which the chapter's rules change.
var edges = []struct {
	r rune
	b string
}{
	{0, "\x00"}, {'A', "A"}, {0x7f, "\x7f"},
	{0x80, "\xc2\x80"}, {0xe9, "\xc3\xa9"}, {0x7ff, "\xdf\xbf"},
	{0x800, "\xe0\xa0\x80"}, {0xfff, "\xe0\xbf\xbf"}, {0x1000, "\xe1\x80\x80"}, {0x20ac, "\xe2\x82\xac"},
	{0xd7ff, "\xed\x9f\xbf"}, {0xe000, "\xee\x80\x80"}, {0xfffd, "\xef\xbf\xbd"}, {0xffff, "\xef\xbf\xbf"},
	{0x10000, "\xf0\x90\x80\x80"}, {0x1f600, "\xf0\x9f\x98\x80"}, {0x3ffff, "\xf0\xbf\xbf\xbf"},
	{0x40000, "\xf1\x80\x80\x80"}, {0x100000, "\xf4\x80\x80\x80"}, {0x10ffff, "\xf4\x8f\xbf\xbf"},
}

// outside are runes that are not scalars.
var outside = []rune{-1, -0x80, math.MinInt32, 0xd800, 0xd801, 0xdbff, 0xdc00, 0xdfff, 0x110000, 0x1fffff, 0x200000, math.MaxInt32}

// telling has a byte on each side of each border that an encoding has.
var telling = []byte("\x00A\x7f\x80\x8f\x90\x9f\xa0\xbf\xc0\xc1\xc2\xdf\xe0\xe1\xec\xed\xee\xef\xf0\xf1\xf3\xf4\xf5\xff")

// defined is the chapter's definition of a scalar.
func defined(r int) bool {
	return r >= 0 && r <= 0x10ffff && (r < 0xd800 || r > 0xdfff)
}

// encoding is the chapter's definition of an encoding, in its own arithmetic.
func encoding(r int) string {
	switch {
	case r < 0x80:
		return string([]byte{byte(r)})
	case r < 0x800:
		return string([]byte{byte(0xc0 + r/64), byte(0x80 + r%64)})
	case r < 0x10000:
		return string([]byte{byte(0xe0 + r/4096), byte(0x80 + r/64%64), byte(0x80 + r%64)})
	}
	return string([]byte{byte(0xf0 + r/262144), byte(0x80 + r/4096%64), byte(0x80 + r/64%64), byte(0x80 + r%64)})
}

// model decodes by the definitions alone: it knows every encoding's proper prefixes.
type model struct{ proper map[string]bool }

func newModel() model {
	m := model{map[string]bool{}}
	for r := range 0x110000 {
		if !defined(r) {
			continue
		}
		for e := encoding(r); len(e) > 1; {
			e = e[:len(e)-1]
			m.proper[e] = true
		}
	}
	return m
}

// decode does what Decode shall do at the beginning of b, which is not empty.
func (m model) decode(b string) (rune, int, bool) {
	r, n := utf8.DecodeRuneInString(b)
	if n > 1 || r != utf8.RuneError {
		return r, n, true
	}
	n = 1
	for i := 1; i <= len(b) && i <= 4; i++ {
		if m.proper[b[:i]] {
			n = i
		}
	}
	return 0, n, false
}

// divide does what Runes, Bad and Count shall do.
func (m model) divide(b string) (l []rune, bad, count int) {
	bad = -1
	at := 0
	for at < len(b) {
		r, n, ok := m.decode(b[at:])
		if !ok && bad < 0 {
			bad = at
		}
		if bad < 0 {
			l = append(l, r)
		}
		count++
		at += n
	}
	if bad < 0 {
		bad = len(b)
	}
	return l, bad, count
}

// sequences calls each with every sequence of up to n telling bytes.
func sequences(n int, each func(string)) {
	var grow func(b []byte)
	grow = func(b []byte) {
		each(string(b))
		if len(b) == n {
			return
		}
		for _, c := range telling {
			grow(append(b, c))
		}
	}
	grow(make([]byte, 0, n))
}

// expectDecode checks one call of Decode.
func expectDecode(t *testing.T, b string, at int, r rune, n int, ok bool) {
	t.Helper()
	gotR, gotN, gotOk := Decode(b, at)
	if gotR != r || gotN != n || gotOk != ok {
		t.Fatalf("Decode(%q, %d) = %x, %d, %t; want %x, %d, %t", b, at, gotR, gotN, gotOk, r, n, ok)
	}
}

// P1.1: Scalar, for every rune around the scalars and for the extreme ones.
func TestScalar(t *testing.T) {
	for r := -0x1000; r < 0x111000; r++ {
		if got := Scalar(rune(r)); got != defined(r) {
			t.Fatalf("Scalar(%x) = %t", r, got)
		}
	}
	for _, e := range edges {
		if !Scalar(e.r) {
			t.Errorf("Scalar(%x) = false", e.r)
		}
	}
	for _, r := range outside {
		if Scalar(r) {
			t.Errorf("Scalar(%x) = true", r)
		}
	}
}

// P1.1: Encode.
func TestEncode(t *testing.T) {
	for _, e := range edges {
		if got := Encode(e.r); got != e.b {
			t.Errorf("Encode(%x) = %x, want %x", e.r, got, e.b)
		}
	}
	for r := range 0x110000 {
		want := ""
		if defined(r) {
			want = encoding(r)
		}
		if got := Encode(rune(r)); got != want {
			t.Fatalf("Encode(%x) = %x, want %x", r, got, want)
		}
	}
	for _, r := range outside {
		if got := Encode(r); got != "" {
			t.Errorf("Encode(%x) = %x, want nothing", r, got)
		}
	}
}

// P1.1: Decode of every scalar, whatever stands before and after it.
func TestDecodeScalars(t *testing.T) {
	for _, e := range edges {
		expectDecode(t, e.b, 0, e.r, len(e.b), true)
	}
	for r := range 0x110000 {
		if !defined(r) {
			continue
		}
		e := encoding(r)
		expectDecode(t, e, 0, rune(r), len(e), true)
		expectDecode(t, "\xf0\x90"+e+"\xbf", 2, rune(r), len(e), true)
	}
}

// P1.1: Decode where b is not well-formed.
func TestDecodeIncomplete(t *testing.T) {
	for _, c := range []struct {
		b string
		n int
	}{
		{"\xc3A", 1}, {"\xc2", 1}, {"\xdf\x7f", 1}, {"\xdf\xc0", 1}, // the chapter's example first
		{"\xe2", 1}, {"\xe2\x82", 2}, {"\xe2\x82A", 2}, {"\xe2\x82\xe2\x82\xac", 2}, {"\xe2A\x82", 1},
		{"\xf0", 1}, {"\xf0\x9f", 2}, {"\xf0\x9f\x98", 3}, {"\xf0\x9f\x98A", 3}, {"\xf0\x9fA\x80", 2}, {"\xf0A\x98\x80", 1},
		{"\xf4\x8f\xbf\xc0", 3}, {"\xe0\xa0", 2}, {"\xed\x9f", 2}, {"\xf0\x90", 2}, {"\xf4\x8f", 2},
		{"\xed\xa0\x80", 1}, {"\xed\xbf\xbf", 1}, // surrogates
		{"\xc0\x80", 1}, {"\xc1\xbf", 1}, {"\xe0\x80\x80", 1}, {"\xe0\x9f\xbf", 1}, {"\xf0\x80\x80\x80", 1}, {"\xf0\x8f\xbf\xbf", 1}, // too long
		{"\xf4\x90\x80\x80", 1}, {"\xf5\x80\x80\x80", 1}, {"\xf8\x88\x80\x80\x80", 1}, {"\xff", 1}, {"\xfe\x80", 1}, // too great
		{"\x80", 1}, {"\xbf\xbf", 1}, {"\x80A", 1},
	} {
		expectDecode(t, c.b, 0, 0, c.n, false)
		expectDecode(t, "A"+c.b, 1, 0, c.n, false)
	}
	expectDecode(t, "\xe2\x82\xac", 1, 0, 1, false)
	expectDecode(t, "\xe2\x82\xac", 2, 0, 1, false)
}

// P1.1: Decode of every sequence of bytes that can tell two rules apart.
func TestDecodeSequences(t *testing.T) {
	m := newModel()
	sequences(4, func(b string) {
		if b != "" {
			r, n, ok := m.decode(b)
			expectDecode(t, b, 0, r, n, ok)
		}
	})
}

// P1.1: Decode at an index outside the string.
func TestDecodeOutside(t *testing.T) {
	for _, b := range []string{"", "A", "\xff", "\xc3\xa9", "\xf0\x9f\x98", strings.Repeat("\xc3\xa9", 100)} {
		for _, at := range []int{-1, -2, -len(b) - 1, math.MinInt, len(b), len(b) + 1, math.MaxInt - 1, math.MaxInt} {
			expectDecode(t, b, at, 0, 0, false)
		}
	}
}

// expectParts checks Runes, Bad, Valid and Count of one string.
func expectParts(t *testing.T, b string, l []rune, bad, count int) {
	t.Helper()
	runes, at := Runes(b)
	if !slices.Equal(runes, l) || at != bad {
		t.Fatalf("Runes(%q) = %x, %d; want %x, %d", b, runes, at, l, bad)
	}
	if got := Bad(b); got != bad {
		t.Fatalf("Bad(%q) = %d, want %d", b, got, bad)
	}
	if got := Valid(b); got != (bad == len(b)) {
		t.Fatalf("Valid(%q) = %t", b, got)
	}
	if got := Count(b); got != count {
		t.Fatalf("Count(%q) = %d, want %d", b, got, count)
	}
}

// P1.2: Bad, Valid, Count and Runes.
func TestParts(t *testing.T) {
	for _, c := range []struct {
		b          string
		l          []rune
		bad, count int
	}{
		{"", nil, 0, 0},
		{"ab", []rune{'a', 'b'}, 2, 2},
		{"a\x00b", []rune{'a', 0, 'b'}, 3, 3},
		{"a\xc3\xa9\xe2\x82\xac\xf0\x9f\x98\x80", []rune{'a', 0xe9, 0x20ac, 0x1f600}, 10, 4},
		{"\xef\xbf\xbdz", []rune{0xfffd, 'z'}, 4, 2}, // the replacement character is a scalar like any other
		{"ab\xff", []rune{'a', 'b'}, 2, 3},
		{"\xffab", nil, 0, 3},
		{"\xe2\x82A\xff", nil, 0, 3},
		{"a\xe2\x82", []rune{'a'}, 1, 2},
		{"\xc3\xa9\xf0\x9f\x98", []rune{0xe9}, 2, 2},
		{"\xf0\x9f\x98\xf0\x9f\x98\x80", nil, 0, 2},
		{"\xed\xa0\x80", nil, 0, 3},
		{"x\xed\xbf\xbfy", []rune{'x'}, 1, 5},
		{"\xf4\x90\x80\x80", nil, 0, 4},
		{"a\xc3b\xc3\xa9", []rune{'a'}, 1, 4},
	} {
		expectParts(t, c.b, c.l, c.bad, c.count)
	}
}

// P1.2: the same for all that telling bytes can make, after a scalar and before one.
func TestPartsOfSequences(t *testing.T) {
	m := newModel()
	sequences(3, func(s string) {
		for _, b := range []string{s, "\xe2\x82\xac" + s + "\xc3\xa9"} {
			l, bad, count := m.divide(b)
			expectParts(t, b, l, bad, count)
		}
	})
}

// P1.2: long strings.
func TestPartsOfLongStrings(t *testing.T) {
	const n = 100000
	good := strings.Repeat("\xc3\xa9", n)
	want := slices.Repeat([]rune{0xe9}, n)
	expectParts(t, good, want, 2*n, n)
	expectParts(t, good+"\x80", want, 2*n, n+1)
	expectParts(t, strings.Repeat("\xf0\x9f\x98", n), nil, 0, n)
}

// expectRound checks that the scalars l and the bytes of their encodings turn into each other.
func expectRound(t *testing.T, l []rune) {
	t.Helper()
	var b strings.Builder
	for _, r := range l {
		b.WriteString(Encode(r))
	}
	got, at := Runes(b.String())
	if !slices.Equal(got, l) || at != b.Len() {
		t.Fatalf("the encodings of %x decode to %x up to %d of %d", l, got, at, b.Len())
	}
}

// P1.3: a concatenation of encodings decodes to the same scalars.
func TestConcatenations(t *testing.T) {
	var all []rune
	for r := range rune(0x110000) {
		if Scalar(r) {
			all = append(all, r)
		}
	}
	expectRound(t, all)
	slices.Reverse(all)
	expectRound(t, all)
	expectRound(t, nil)
	for _, x := range edges {
		for _, y := range edges {
			for _, z := range edges {
				expectRound(t, []rune{x.r, y.r, z.r})
			}
		}
	}
}

// P1.3: decoded scalars encode to the same bytes.
func TestDecodedEncodeAgain(t *testing.T) {
	sequences(4, func(s string) {
		l, at := Runes(s)
		again := ""
		for _, r := range l {
			again += Encode(r)
		}
		if again != s[:at] {
			t.Fatalf("%x decodes to %x, which encodes to %x", s[:at], l, again)
		}
		if r, n, ok := Decode(s, 0); ok && Encode(r) != s[:n] {
			t.Fatalf("%x decodes to %x, which encodes to %x", s[:n], r, Encode(r))
		}
	})
}

// R3 and R4: what Runes returns is new memory, and it returns the same again.
func TestRunesAreNewMemory(t *testing.T) {
	const b = "a\xc3\xa9b\xff"
	first, _ := Runes(b)
	for i := range first {
		first[i] = 'x'
	}
	_ = append(first, 'x')
	expectParts(t, b, []rune{'a', 0xe9, 'b'}, 4, 4)
}
