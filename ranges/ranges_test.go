package ranges

import (
	"math"
	"math/rand"
	"slices"
	"testing"

	"blindfold/api"
)

// bounds lie around both ends of the runes, around a border in between that
// means nothing to a set (the surrogates), and at the extremes of the type.
var bounds = []rune{
	math.MinInt32, -2, -1, 0, 1, 2, 3, 4, 5,
	0xd7ff, 0xd800, 0xdfff, 0xe000,
	0x10fffd, 0x10fffe, 0x10ffff, 0x110000, 0x110001, math.MaxInt32,
}

// probes are the runes at which a set made of the bounds may change.
func probes() []rune {
	var l []rune
	for _, b := range bounds {
		l = append(l, b)
		if b > math.MinInt32 {
			l = append(l, b-1)
		}
		if b < math.MaxInt32 {
			l = append(l, b+1)
		}
	}
	return l
}

// every lists the ranges between any two bounds, the empty ones too.
func every() []api.Range {
	var l []api.Range
	for _, lo := range bounds {
		for _, hi := range bounds {
			l = append(l, api.Range{Lo: lo, Hi: hi})
		}
	}
	return l
}

// contains is the chapter's definition of what New makes of l.
func contains(l []api.Range, r rune) bool {
	if r < 0 || r > 0x10ffff {
		return false
	}
	for _, g := range l {
		if g.Lo <= r && r <= g.Hi {
			return true
		}
	}
	return false
}

// count adds up what the ranges of l contain.
func count(l []api.Range) int {
	n := 0
	for _, g := range l {
		n += int(g.Hi) - int(g.Lo) + 1
	}
	return n
}

// fewest reports whether l is increasing, has no empty range, and leaves a
// rune out between any two: no smaller number of ranges contains the same.
func fewest(l []api.Range) bool {
	for i, g := range l {
		if g.Lo > g.Hi || g.Lo < 0 || g.Hi > 0x10ffff {
			return false
		}
		if i > 0 && int(g.Lo)-int(l[i-1].Hi) < 2 {
			return false
		}
	}
	return true
}

// check holds s against has, at the probes, by all that a set tells.
func check(t *testing.T, what any, s Set, has func(rune) bool, at []rune) {
	t.Helper()
	l := s.Ranges()
	if !fewest(l) {
		t.Fatalf("%v: ranges %v", what, l)
	}
	if s.Count() != count(l) {
		t.Fatalf("%v: count %d of %v", what, s.Count(), l)
	}
	for _, r := range at {
		if s.Has(r) != has(r) || contains(l, r) != has(r) {
			t.Fatalf("%v: has %x: %v, ranges %v, want %v", what, r, s.Has(r), l, has(r))
		}
	}
}

func TestExample(t *testing.T) {
	s := New([]api.Range{{Lo: 3, Hi: 5}, {Lo: 1, Hi: 2}, {Lo: 9, Hi: 7}})
	if l := s.Ranges(); !slices.Equal(l, []api.Range{{Lo: 1, Hi: 5}}) || s.Count() != 5 {
		t.Errorf("%v, %d runes", l, s.Count())
	}
}

// P2.1, with every list of up to two ranges.
func TestNewPairs(t *testing.T) {
	at := probes()
	for _, a := range every() {
		one := []api.Range{a}
		check(t, one, New(one), func(r rune) bool { return contains(one, r) }, at)
		for _, b := range every() {
			two := []api.Range{a, b}
			check(t, two, New(two), func(r rune) bool { return contains(two, r) }, at)
		}
	}
}

// P2.1, with longer lists: the order, what is twice, and one range inside of others.
func TestNewLong(t *testing.T) {
	rnd := rand.New(rand.NewSource(2))
	all, at := every(), probes()
	for n := range 3000 {
		var l []api.Range
		for range n % 12 {
			l = append(l, all[rnd.Intn(len(all))])
		}
		check(t, l, New(l), func(r rune) bool { return contains(l, r) }, at)
	}
}

// P2.1: every rune by itself, in a set with a great many ranges.
func TestEveryRune(t *testing.T) {
	var l []api.Range
	for r := rune(0x10ffff); r >= 0; r -= 7 {
		l = append(l, api.Range{Lo: r, Hi: r + r%3})
	}
	want := make([]bool, 0x110000)
	total := 0
	for _, g := range l {
		for r := g.Lo; r <= min(g.Hi, 0x10ffff); r++ {
			want[r] = true
			total++
		}
	}
	s := New(l)
	if s.Count() != total || len(s.Ranges()) != len(l) {
		t.Fatalf("%d runes in %d ranges, want %d in %d", s.Count(), len(s.Ranges()), total, len(l))
	}
	for r, w := range want {
		if s.Has(rune(r)) != w {
			t.Fatalf("has %x: %v", r, !w)
		}
	}
}

// P2.1: the zero Set is empty, as is a set of no range or of empty ones.
func TestEmpty(t *testing.T) {
	full := New([]api.Range{{Lo: math.MinInt32, Hi: math.MaxInt32}})
	if l := full.Ranges(); !slices.Equal(l, []api.Range{{Lo: 0, Hi: 0x10ffff}}) || full.Count() != 0x110000 {
		t.Errorf("all: %v, %d", l, full.Count())
	}
	none := []Set{{}, New(nil), New([]api.Range{}), New([]api.Range{{Lo: 1, Hi: 0}, {Lo: -5, Hi: -1}, {Lo: 0x110000, Hi: 0x110009}})}
	for i, e := range none {
		check(t, i, e, func(rune) bool { return false }, probes())
		for _, o := range none {
			for _, s := range []Set{e.Join(o), e.Both(o), e.Less(o)} {
				check(t, i, s, func(rune) bool { return false }, probes())
			}
		}
		in := func(r rune) bool { return 0 <= r && r <= 0x10ffff }
		check(t, i, full.Join(e), in, probes())
		check(t, i, e.Join(full), in, probes())
		check(t, i, full.Less(e), in, probes())
		for _, s := range []Set{full.Both(e), e.Both(full), e.Less(full), full.Less(full)} {
			check(t, i, s, func(rune) bool { return false }, probes())
		}
	}
}

// sets lists sets of every shape around the bounds, and what they are made of.
func sets() [][]api.Range {
	rnd := rand.New(rand.NewSource(3))
	all := every()
	var l [][]api.Range
	for n := range 250 {
		var one []api.Range
		for range n % 6 {
			one = append(one, all[rnd.Intn(len(all))])
		}
		l = append(l, one)
	}
	for _, b := range bounds {
		l = append(l, []api.Range{{Lo: b, Hi: b}}, []api.Range{{Lo: b, Hi: math.MaxInt32}}, []api.Range{{Lo: math.MinInt32, Hi: b}})
	}
	return l
}

// P2.2: union, intersection and difference, by membership.
func TestOperations(t *testing.T) {
	at, l := probes(), sets()
	for _, a := range l {
		for _, b := range l {
			s, u := New(a), New(b)
			what := [][]api.Range{a, b}
			check(t, what, s.Join(u), func(r rune) bool { return contains(a, r) || contains(b, r) }, at)
			check(t, what, s.Both(u), func(r rune) bool { return contains(a, r) && contains(b, r) }, at)
			check(t, what, s.Less(u), func(r rune) bool { return contains(a, r) && !contains(b, r) }, at)
		}
	}
}

// P2.3: sets of the runes 0 to 7 (and of the last 8), made of single runes in
// several orders and by each operation, have the ranges that their runes have.
func TestSameRanges(t *testing.T) {
	for _, base := range []rune{0, 0xd7fc, 0x10fff8} {
		for bits := range 256 {
			want := New(singles(base, bits)).Ranges()
			back := singles(base, bits)
			slices.Reverse(back)
			grown, cut := Set{}, New([]api.Range{{Lo: base, Hi: base + 7}})
			for i := range rune(8) {
				one := New([]api.Range{{Lo: base + i, Hi: base + i}})
				if bits>>i&1 == 1 {
					grown = one.Join(grown)
				} else {
					cut = cut.Less(one)
				}
			}
			masked := New([]api.Range{{Lo: 0, Hi: 0x10ffff}}).Both(grown)
			for i, s := range []Set{New(back), New(append(back, back...)), New(want), grown, cut, masked} {
				if !slices.Equal(s.Ranges(), want) {
					t.Fatalf("%x, %b, way %d: %v, want %v", base, bits, i, s.Ranges(), want)
				}
			}
		}
	}
}

// singles lists the runes from base on whose bits are set, each as a range.
func singles(base rune, bits int) []api.Range {
	var l []api.Range
	for i := range rune(8) {
		if bits>>i&1 == 1 {
			l = append(l, api.Range{Lo: base + i, Hi: base + i})
		}
	}
	return l
}

// R3: neither arguments nor answers share memory with a set, and arguments stay
// as they are, beyond their length too.
func TestMemory(t *testing.T) {
	given := []api.Range{{Lo: 8, Hi: 9}, {Lo: 5, Hi: 1}, {Lo: 1, Hi: 3}, {Lo: 2, Hi: 4}, {Lo: 70, Hi: 80}}
	before := slices.Clone(given)
	s := New(given[:4])
	if !slices.Equal(given, before) {
		t.Errorf("New changed its argument: %v", given)
	}
	want := []api.Range{{Lo: 1, Hi: 4}, {Lo: 8, Hi: 9}}
	u := New([]api.Range{{Lo: 0, Hi: 100}})
	derived := []Set{s.Join(Set{}), Set{}.Join(s), s.Both(u), u.Both(s), s.Less(Set{})}
	clear(given)
	clear(s.Ranges())
	_ = append(s.Ranges(), api.Range{Lo: 50, Hi: 60})
	clear(s.Join(u).Ranges())
	for i, d := range append(derived, s) {
		if !slices.Equal(d.Ranges(), want) {
			t.Errorf("set %d: %v", i, d.Ranges())
		}
		clear(d.Ranges())
	}
	if !slices.Equal(s.Ranges(), want) || !slices.Equal(u.Ranges(), []api.Range{{Lo: 0, Hi: 100}}) {
		t.Errorf("%v, %v", s.Ranges(), u.Ranges())
	}
}
