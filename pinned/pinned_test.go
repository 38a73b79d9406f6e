package pinned

import (
	"math"
	"slices"
	"strconv"
	"strings"
	"testing"

	"blindfold/api"
	"blindfold/ranges"
)

// outside are no runes of any table: negative ones and those that are too great.
var outside = []rune{math.MinInt32, -0x110000, -0x4e00, -0x1b, -2, -1, 0x110000, 0x110001, 0x204e00, math.MaxInt32}

// tables are the four tables of unsafe runes, with what Kind calls them.
var tables = []struct {
	kind int
	text string
}{{Control, chapterControl}, {Bidi, chapterBidi}, {Format, chapterFormat}, {Separator, chapterSeparator}}

// members tells of each rune from 0 to 10ffff whether some text, a table as the
// chapter writes it, contains it.
func members(t *testing.T, texts ...string) []bool {
	t.Helper()
	has := make([]bool, 0x110000)
	for _, text := range texts {
		for _, one := range strings.Split(text, ", ") {
			lo, hi, found := strings.Cut(one, "-")
			if !found {
				hi = lo
			}
			for r := number(t, lo); r <= number(t, hi); r++ {
				has[r] = true
			}
		}
	}
	return has
}

// number reads a hexadecimal number of the chapter.
func number(t *testing.T, text string) int {
	t.Helper()
	n, err := strconv.ParseUint(text, 16, 21)
	if err != nil {
		t.Fatal(err)
	}
	return int(n)
}

// runs lists the fewest ranges that contain exactly the members.
func runs(has []bool) []api.Range {
	var l []api.Range
	for r, in := range has {
		switch {
		case !in:
		case r > 0 && has[r-1]:
			l[len(l)-1].Hi = rune(r)
		default:
			l = append(l, api.Range{Lo: rune(r), Hi: rune(r)})
		}
	}
	return l
}

// unsafes tells of each rune whether it is in one of the four tables.
func unsafes(t *testing.T) []bool {
	t.Helper()
	return members(t, chapterControl, chapterBidi, chapterFormat, chapterSeparator)
}

func TestExamples(t *testing.T) {
	if !IsWide(0x4e00) {
		t.Error("4e00 is not wide")
	}
	if k := Kind(0x1b); k != Control {
		t.Errorf("1b is of kind %d", k)
	}
}

func TestConstants(t *testing.T) {
	if got := []int{Plain, Control, Bidi, Format, Separator}; !slices.Equal(got, []int{0, 1, 2, 3, 4}) {
		t.Error(got)
	}
}

// P3.1: IsWide, IsZero and IsUnsafe, of every rune.
func TestMembership(t *testing.T) {
	asked := []struct {
		name string
		is   func(rune) bool
		want []bool
	}{
		{"IsWide", IsWide, members(t, chapterWide)},
		{"IsZero", IsZero, members(t, chapterZero)},
		{"IsUnsafe", IsUnsafe, unsafes(t)},
	}
	for _, a := range asked {
		for r, want := range a.want {
			if a.is(rune(r)) != want {
				t.Errorf("%s of %x: %v", a.name, r, !want)
			}
		}
		for _, r := range outside {
			if a.is(r) {
				t.Errorf("%s of %d: true", a.name, r)
			}
		}
	}
}

// P3.1: Kind, of every rune.
func TestKind(t *testing.T) {
	want := make([]int, 0x110000)
	for _, table := range tables {
		for r, in := range members(t, table.text) {
			if in {
				want[r] = table.kind
			}
		}
	}
	for r, kind := range want {
		if k := Kind(rune(r)); k != kind {
			t.Errorf("%x is of kind %d, want %d", r, k, kind)
		}
	}
	for _, r := range outside {
		if k := Kind(r); k != Plain {
			t.Errorf("%d is of kind %d", r, k)
		}
	}
}

// P3.1 at borders that other tables of characters draw elsewhere, or at which
// one table of the chapter passes into another; by hand, for the chapter's text
// in these tests might be copied wrongly.
func TestBorders(t *testing.T) {
	borders := []struct {
		r          rune
		wide, zero bool
		kind       int
	}{
		{0, false, false, Control}, {'\t', false, false, Control}, {'\n', false, false, Control},
		{0x1f, false, false, Control}, {' ', false, false, Plain}, {'~', false, false, Plain},
		{0x7f, false, false, Control}, {0x9f, false, false, Control}, {0xa0, false, false, Plain},
		{0xad, false, false, Format}, {0xe9, false, false, Plain}, {0x2ff, false, false, Plain},
		{0x300, false, true, Plain}, {0x36f, false, true, Plain}, {0x370, false, false, Plain},
		{0x61c, false, false, Bidi}, {0x10ff, false, false, Plain}, {0x1100, true, false, Plain},
		{0x115f, true, false, Plain}, {0x1160, false, true, Plain}, {0x180d, false, true, Plain},
		{0x180e, false, false, Format}, {0x200a, false, false, Plain}, {0x200b, false, true, Format},
		{0x200d, false, true, Format}, {0x200e, false, true, Bidi}, {0x200f, false, true, Bidi},
		{0x2010, false, false, Plain}, {0x2028, false, true, Separator}, {0x2029, false, true, Separator},
		{0x202a, false, true, Bidi}, {0x202e, false, true, Bidi}, {0x202f, false, false, Plain},
		{0x2064, false, true, Format}, {0x2065, false, true, Plain}, {0x2066, false, true, Bidi},
		{0x2069, false, true, Bidi}, {0x206a, false, true, Format}, {0x206f, false, true, Format},
		{0x2070, false, false, Plain}, {0x3029, true, false, Plain}, {0x302a, false, true, Plain},
		{0x302d, false, true, Plain}, {0x302e, true, false, Plain}, {0x303f, false, false, Plain},
		{0x3099, false, true, Plain}, {0x309b, true, false, Plain}, {0x4dc0, false, false, Plain},
		{0xd800, false, false, Plain}, {0xfe0f, false, true, Plain}, {0xfe10, true, false, Plain},
		{0xfeff, false, true, Format}, {0xfffd, false, false, Plain}, {0x1d172, false, false, Plain},
		{0x1d173, false, true, Format}, {0x1d17a, false, true, Format}, {0x1d17b, false, true, Plain},
		{0x1f600, true, false, Plain}, {0x2fffd, true, false, Plain}, {0x2fffe, false, false, Plain},
		{0x3fffd, true, false, Plain}, {0x3fffe, false, false, Plain}, {0xe0001, false, true, Format},
		{0xe0002, false, false, Plain}, {0xe01ef, false, true, Plain}, {0x10ffff, false, false, Plain},
	}
	for _, b := range borders {
		if IsWide(b.r) != b.wide || IsZero(b.r) != b.zero || Kind(b.r) != b.kind || IsUnsafe(b.r) != (b.kind != Plain) {
			t.Errorf("%x: wide %v, zero %v, kind %d, unsafe %v", b.r, IsWide(b.r), IsZero(b.r), Kind(b.r), IsUnsafe(b.r))
		}
	}
}

// P3.2: the sets, by their ranges and by the number of their runes, which was
// counted on the chapter's page and not by these tests.
func TestSets(t *testing.T) {
	sets := []struct {
		name  string
		set   ranges.Set
		want  []bool
		count int
	}{
		{"Wide", Wide(), members(t, chapterWide), 181934},
		{"Zero", Zero(), members(t, chapterZero), 1183},
		{"Unsafe", Unsafe(), unsafes(t), 219},
	}
	for _, s := range sets {
		if got, want := s.set.Ranges(), runs(s.want); !slices.Equal(got, want) {
			t.Errorf("%s has the ranges %x, want %x", s.name, got, want)
		}
		if s.set.Count() != s.count {
			t.Errorf("%s has %d runes, want %d", s.name, s.set.Count(), s.count)
		}
		for _, r := range outside {
			if s.set.Has(r) {
				t.Errorf("%s has %d", s.name, r)
			}
		}
	}
}

// P3.2: the sets are those of exactly the runes of which the functions are true.
func TestSetsAgree(t *testing.T) {
	wide, zero, unsafe := Wide(), Zero(), Unsafe()
	for r := range rune(0x110000) {
		if wide.Has(r) != IsWide(r) || zero.Has(r) != IsZero(r) || unsafe.Has(r) != IsUnsafe(r) {
			t.Errorf("%x: Wide %v, Zero %v, Unsafe %v", r, wide.Has(r), zero.Has(r), unsafe.Has(r))
		}
	}
}

// P3.3: no rune is both wide and of no width.
func TestWideOrZero(t *testing.T) {
	for r := range rune(0x110000) {
		if IsWide(r) && IsZero(r) {
			t.Errorf("%x is both", r)
		}
	}
	if both := Wide().Both(Zero()); both.Count() != 0 {
		t.Errorf("both: %x", both.Ranges())
	}
}

// P3.3: an unsafe rune is in exactly one of the four tables, any other in none.
func TestOneTable(t *testing.T) {
	control, bidi, format, separator := controlTable(), bidiTable(), formatTable(), separatorTable()
	for r := range rune(0x110000) {
		in := 0
		for _, table := range [][]span{control[:], bidi[:], format[:], separator[:]} {
			if slices.ContainsFunc(table, func(s span) bool { return s.Lo <= r && r <= s.Hi }) {
				in++
			}
		}
		if in > 1 || (in == 1) != IsUnsafe(r) {
			t.Errorf("%x is in %d tables, unsafe: %v", r, in, IsUnsafe(r))
		}
	}
}

// What bisection relies on: the spans of a table are not empty, increase and do
// not overlap.
func TestIncreasing(t *testing.T) {
	zero, wide, format := zeroTable(), wideTable(), formatTable()
	control, bidi, separator := controlTable(), bidiTable(), separatorTable()
	for i, table := range [][]span{zero[:], wide[:], control[:], bidi[:], format[:], separator[:]} {
		last := rune(-1)
		for _, s := range table {
			if s.Lo <= last || s.Hi < s.Lo {
				t.Errorf("table %d: %x after %x", i, s, last)
			}
			last = s.Hi
		}
	}
}

// R3 and R4: what is done to an answer reaches no later one.
func TestMemory(t *testing.T) {
	for i, sets := range []func() ranges.Set{Wide, Zero, Unsafe} {
		before := sets().Ranges()
		kept := sets()
		clear(sets().Ranges())
		clear(kept.Ranges())
		_ = append(sets().Ranges(), api.Range{Lo: 0, Hi: 0x10ffff})
		_ = sets().Join(ranges.New([]api.Range{{Lo: 0, Hi: 0x10ffff}}))
		if !slices.Equal(sets().Ranges(), before) || !slices.Equal(kept.Ranges(), before) || len(before) == 0 {
			t.Errorf("set %d changed: %x", i, sets().Ranges())
		}
	}
	if !IsWide(0x4e00) || !IsZero(0x301) || Kind(0x1b) != Control {
		t.Error("a table changed")
	}
}
