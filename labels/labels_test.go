package labels

import (
	"math"
	"math/rand"
	"regexp"
	"slices"
	"strconv"
	"strings"
	"testing"

	"blindfold/api"
	"blindfold/lattice"
)

// outside are numbers far from those of all levels; among them those whose low
// bits are a level's.
var outside = []int{math.MinInt, math.MinInt + 1, -1 << 32, -256, -33, -32, -31, -2, -1, 32, 33, 64, 65, 256, 1 << 32, 1<<32 + 1, math.MaxInt - 1, math.MaxInt}

// long is one character longer than a name.
const long = "a23456789012345678901234567890123"

// made is the lattice of the levels, with the pairs written as "lo<hi".
func made(t *testing.T, levels, pairs string) *lattice.Lattice {
	t.Helper()
	var order []api.Pair
	for _, p := range strings.Fields(pairs) {
		lo, hi, _ := strings.Cut(p, "<")
		order = append(order, api.Pair{Lo: api.Word{Name: lo}, Hi: api.Word{Name: hi}})
	}
	l, f := lattice.Build(words(strings.Fields(levels)...), order)
	if f != (api.Fault{}) {
		t.Fatalf("Build of %s, %s: %v", levels, pairs, f)
	}
	return l
}

// words are the names, each at a place of its own that is not in proportion to
// its index.
func words(list ...string) []api.Word {
	var l []api.Word
	at := 7
	for _, name := range list {
		at += 3 + len(name)%5
		l = append(l, api.Word{Name: name, At: at})
	}
	return l
}

// fields are the words of a text with spaces between them.
func fields(text string) []api.Word {
	return words(strings.Fields(text)...)
}

// diamond is the chapter's example: low 0, a 1, b 2, high 3.
func diamond(t *testing.T) *lattice.Lattice {
	t.Helper()
	return made(t, "low a b high", "low<a low<b a<high b<high")
}

// turned is the diamond in another order: high 0, b 1, low 2, a 3.
func turned(t *testing.T) *lattice.Lattice {
	t.Helper()
	return made(t, "high b low a", "low<a low<b a<high b<high")
}

// scrambled is a text of n names, of which the one at i is named by i, in an
// order that is not that of their numbers. The factor has no divisor in common
// with the numbers of levels for which it is used.
func scrambled(n int, name func(i int) string) string {
	var list []string
	for i := range n {
		list = append(list, name((i*7+5)%n))
	}
	return strings.Join(list, " ")
}

// called is a name by its number.
func called(i int) string { return "n" + strconv.Itoa(i) }

// chain is n levels, each below the next.
func chain(t *testing.T, n int) *lattice.Lattice {
	t.Helper()
	var pairs []string
	for i := range n - 1 {
		pairs = append(pairs, called(i)+"<"+called(i+1))
	}
	return made(t, scrambled(n, called), strings.Join(pairs, " "))
}

// fan is a bottom n0 and a top n1 with n - 2 levels between them that are apart.
func fan(t *testing.T, n int) *lattice.Lattice {
	t.Helper()
	pairs := []string{"n0<n1"}
	for i := 2; i < n; i++ {
		pairs = append(pairs, "n0<"+called(i), called(i)+"<n1")
	}
	return made(t, scrambled(n, called), strings.Join(pairs, " "))
}

// cube is all sets of up to bits numbers, by inclusion.
func cube(t *testing.T, bits int) *lattice.Lattice {
	t.Helper()
	var pairs []string
	for set := range 1 << bits {
		for bit := range bits {
			if more := set | 1<<bit; more != set {
				pairs = append(pairs, called(set)+"<"+called(more))
			}
		}
	}
	return made(t, scrambled(1<<bits, called), strings.Join(pairs, " "))
}

// small are lattices of few levels: the bottom and the top of some are neither
// their first nor their last level.
func small(t *testing.T) []*lattice.Lattice {
	t.Helper()
	return []*lattice.Lattice{
		made(t, "only", ""), made(t, "lo hi", "lo<hi"), made(t, "hi lo", "lo<hi"), diamond(t), turned(t), chain(t, 5), fan(t, 5),
		made(t, "d c b a o", "o<a a<b o<c b<d c<d"),
	}
}

// great are lattices of as many levels as there may be, and one of 8.
func great(t *testing.T) []*lattice.Lattice {
	t.Helper()
	return []*lattice.Lattice{cube(t, 3), cube(t, 5), chain(t, 32), fan(t, 32)}
}

// lists are all lists of up to most of the numbers of the levels of l and of two
// that are none.
func lists(l *lattice.Lattice, most int) [][]int {
	all := [][]int{nil}
	from := 0
	for range most {
		to := len(all)
		for _, list := range all[from:to] {
			for a := -1; a <= l.Len(); a++ {
				all = append(all, append(slices.Clone(list), a))
			}
		}
		from = to
	}
	return all
}

// existing are those numbers that are levels of l.
func existing(l *lattice.Lattice, levels []int) []int {
	var kept []int
	for _, a := range levels {
		if 0 <= a && a < l.Len() {
			kept = append(kept, a)
		}
	}
	return kept
}

// denoted is the join of the levels: the level that all of them are at most, and
// that is at most every other such level. Of no levels it is the bottom.
func denoted(l *lattice.Lattice, levels []int) int {
	above := func(c int) bool {
		return !slices.ContainsFunc(existing(l, levels), func(a int) bool { return !l.Leq(a, c) })
	}
	for c := range l.Len() {
		least := above(c)
		for d := range l.Len() {
			least = least && (!above(d) || l.Leq(c, d))
		}
		if least {
			return c
		}
	}
	return -1
}

// highest are the maximal levels of a list: those below no different level in
// it, each once, in increasing order.
func highest(l *lattice.Lattice, levels []int) []int {
	var kept []int
	for a := range l.Len() {
		below := func(b int) bool { return b != a && l.Leq(a, b) }
		if slices.Contains(levels, a) && !slices.ContainsFunc(existing(l, levels), below) {
			kept = append(kept, a)
		}
	}
	return kept
}

// namesOf are the names of those numbers that are levels.
func namesOf(l *lattice.Lattice, levels []int) []string {
	var list []string
	for _, a := range existing(l, levels) {
		list = append(list, l.Name(a))
	}
	return list
}

// begun is how a name begins a string, be it as long as it may.
var begun = regexp.MustCompile(`\A[a-z][a-z0-9_]*`)

// read is Parse as the chapter defines it, for a lattice that is not nil.
func read(l *lattice.Lattice, s string) ([]int, api.Fault) {
	var levels []int
	for at := 0; ; at++ {
		name := begun.FindString(s[at:])
		level := slices.Index(l.Names(), name)
		switch {
		case len(name) < 1 || len(name) > 32:
			return nil, api.Fault{E: api.ErrName, At: at}
		case level < 0:
			return nil, api.Fault{E: api.ErrLevel, At: at}
		}
		levels = append(levels, level)
		at += len(name)
		switch {
		case at == len(s):
			return highest(l, levels), api.Fault{}
		case s[at] != '+':
			return nil, api.Fault{E: api.ErrToken, At: at}
		}
	}
}

// check holds all that is told of a list against the chapter's definitions.
func check(t *testing.T, l *lattice.Lattice, levels []int) {
	t.Helper()
	maximal := highest(l, levels)
	if got := Highest(l, levels); !slices.Equal(got, maximal) {
		t.Fatalf("of %q: Highest(%v) = %v, want %v", l.Names(), levels, got, maximal)
	}
	text := strings.Join(namesOf(l, maximal), "+")
	if got := Text(l, levels); got != text {
		t.Fatalf("of %q: Text(%v) = %q, want %q", l.Names(), levels, got, text)
	}
	list := namesOf(l, levels)
	level := denoted(l, levels)
	if got, f := Of(l, words(list...)); got != level || f != (api.Fault{}) {
		t.Fatalf("of %q: Of(%q) = %d, %v, want %d", l.Names(), list, got, f, level)
	}
	for observer := -1; observer <= l.Len(); observer++ {
		want := observer >= 0 && observer < l.Len()
		for _, a := range existing(l, levels) {
			want = want && l.Leq(a, observer)
		}
		if got := Sees(l, observer, words(list...)); got != want {
			t.Fatalf("of %q: Sees(%d, %q) = %t", l.Names(), observer, list, got)
		}
	}
	if len(list) == 0 {
		return
	}
	if got, f := Parse(l, strings.Join(list, "+")); !slices.Equal(got, maximal) || f != (api.Fault{}) {
		t.Fatalf("of %q: Parse of %q = %v, %v, want %v", l.Names(), list, got, f, maximal)
	}
}

// The chapter's examples.
func TestExamples(t *testing.T) {
	l := diamond(t)
	if got := Highest(l, []int{0, 1, 0}); !slices.Equal(got, []int{1}) {
		t.Errorf("Highest of low, a, low = %v, want a", got)
	}
	if got := Highest(l, []int{1, 2}); !slices.Equal(got, []int{1, 2}) {
		t.Errorf("Highest of a, b = %v, want both", got)
	}
}

// P12.1: the level that names denote, by hand.
func TestOf(t *testing.T) {
	cases := []struct {
		words string
		// In the diamond and in the one that is numbered otherwise.
		level, turned int
	}{
		{"", 0, 2},
		{"low", 0, 2},
		{"a", 1, 3},
		{"b", 2, 1},
		{"high", 3, 0},
		{"low low", 0, 2},
		{"a a a", 1, 3},
		{"low a", 1, 3},
		{"a low", 1, 3},
		{"a b", 3, 0},
		{"b a", 3, 0},
		{"a high", 3, 0},
		{"high b low", 3, 0},
		{"low b low b", 2, 1},
		{"low a b", 3, 0},
	}
	for _, c := range cases {
		if got, f := Of(diamond(t), fields(c.words)); got != c.level || f != (api.Fault{}) {
			t.Errorf("Of(%s) = %d, %v, want %d", c.words, got, f, c.level)
		}
		if got, f := Of(turned(t), fields(c.words)); got != c.turned || f != (api.Fault{}) {
			t.Errorf("turned: Of(%s) = %d, %v, want %d", c.words, got, f, c.turned)
		}
	}
	if got, f := Of(turned(t), []api.Word{}); got != 2 || f != (api.Fault{}) {
		t.Errorf("Of no words = %d, %v, want the bottom", got, f)
	}
}

// P12.1: the first word that is not a level, by hand, wherever it says that it
// stands.
func TestOfFaults(t *testing.T) {
	cases := []struct {
		words []string
		wrong int
	}{
		{[]string{"x"}, 0},
		{[]string{""}, 0},
		{[]string{"A"}, 0},
		{[]string{"a "}, 0},
		{[]string{"aa"}, 0},
		{[]string{"lo"}, 0},
		{[]string{"lowe"}, 0},
		{[]string{"a+b"}, 0},
		{[]string{"high\x00"}, 0},
		{[]string{"\xff"}, 0},
		{[]string{long}, 0},
		{[]string{"a", "x"}, 1},
		{[]string{"x", "a"}, 0},
		{[]string{"x", "y"}, 0},
		{[]string{"a", "y", "b", "x"}, 1},
		{[]string{"high", "high", "?", "high"}, 2},
		{[]string{"a", "b", "low", "high", ""}, 4},
	}
	for _, c := range cases {
		for _, l := range []*lattice.Lattice{diamond(t), turned(t)} {
			for _, at := range []int{100, math.MinInt, -1, 0, 1, math.MaxInt} {
				given := words(c.words...)
				given[c.wrong].At = at
				if level, f := Of(l, given); level != 0 || f != (api.Fault{E: api.ErrLevel, At: at}) {
					t.Errorf("Of(%q) = %d, %v, want ErrLevel at %d", c.words, level, f, at)
				}
			}
		}
		for observer := -1; observer <= 4; observer++ {
			if Sees(diamond(t), observer, words(c.words...)) {
				t.Errorf("Sees(%d, %q)", observer, c.words)
			}
		}
	}
}

// P12.1: which observers see which words, by hand.
func TestSees(t *testing.T) {
	cases := []struct {
		words string
		// The observers who see them, in the diamond.
		seen []int
	}{
		{"", []int{0, 1, 2, 3}},
		{"low", []int{0, 1, 2, 3}},
		{"low low", []int{0, 1, 2, 3}},
		{"a", []int{1, 3}},
		{"a low", []int{1, 3}},
		{"low a a", []int{1, 3}},
		{"b", []int{2, 3}},
		{"a b", []int{3}},
		{"b low a", []int{3}},
		{"high", []int{3}},
		{"high low", []int{3}},
	}
	l := diamond(t)
	for _, c := range cases {
		for observer := range 4 {
			if got := Sees(l, observer, fields(c.words)); got != slices.Contains(c.seen, observer) {
				t.Errorf("Sees(%d, %s) = %t", observer, c.words, got)
			}
		}
		for _, observer := range append([]int{4, 5, 31}, outside...) {
			if Sees(l, observer, fields(c.words)) {
				t.Errorf("Sees(%d, %s), where the observer does not exist", observer, c.words)
			}
		}
	}
}

// P12.2: the maximal levels of lists and their text, by hand; numbers that are
// not levels are ignored.
func TestHighestAndText(t *testing.T) {
	cases := []struct {
		levels, highest []int
		text            string
	}{
		{nil, nil, ""},
		{[]int{}, nil, ""},
		{[]int{0}, []int{0}, "low"},
		{[]int{0, 0, 0}, []int{0}, "low"},
		{[]int{3}, []int{3}, "high"},
		{[]int{1, 0}, []int{1}, "a"},
		{[]int{1, 2}, []int{1, 2}, "a+b"},
		{[]int{2, 1}, []int{1, 2}, "a+b"},
		{[]int{2, 1, 2, 1, 1}, []int{1, 2}, "a+b"},
		{[]int{2, 0, 1}, []int{1, 2}, "a+b"},
		{[]int{0, 2, 1, 9}, []int{1, 2}, "a+b"},
		{[]int{2, 1, 3}, []int{3}, "high"},
		{[]int{3, 2, 1, 0}, []int{3}, "high"},
		{[]int{4}, nil, ""},
		{[]int{-1}, nil, ""},
		{[]int{-1, 0, 4}, []int{0}, "low"},
		{[]int{4, 5, 31, 1}, []int{1}, "a"},
		{outside, nil, ""},
		{append(slices.Clone(outside), 2), []int{2}, "b"},
		{append([]int{2, 1}, outside...), []int{1, 2}, "a+b"},
	}
	for _, c := range cases {
		if got := Highest(diamond(t), c.levels); !slices.Equal(got, c.highest) {
			t.Errorf("Highest(%v) = %v, want %v", c.levels, got, c.highest)
		}
		if got := Text(diamond(t), c.levels); got != c.text {
			t.Errorf("Text(%v) = %q, want %q", c.levels, got, c.text)
		}
	}
	// The names are in the order of the levels' numbers and not in their own.
	if got := Text(turned(t), []int{3, 1, 2}); got != "b+a" {
		t.Errorf("turned: Text of a, b and low = %q, want b+a", got)
	}
}

// P12.2: the levels of texts, by hand.
func TestParse(t *testing.T) {
	cases := []struct {
		s    string
		want []int
	}{
		{"low", []int{0}},
		{"high", []int{3}},
		{"low+low", []int{0}},
		{"low+b+a", []int{1, 2}},
		{"b+a", []int{1, 2}},
		{"a+b+a+b", []int{1, 2}},
		{"low+a+low", []int{1}},
		{"a+high", []int{3}},
		{"high+low+a+b", []int{3}},
	}
	for _, c := range cases {
		if got, f := Parse(diamond(t), c.s); !slices.Equal(got, c.want) || f != (api.Fault{}) {
			t.Errorf("Parse(%q) = %v, %v, want %v", c.s, got, f, c.want)
		}
	}
}

// P12.2: what Parse does not take, by hand, name by name.
func TestParseFaults(t *testing.T) {
	cases := []struct {
		s  string
		e  api.Errno
		at int
	}{
		// No name.
		{"", api.ErrName, 0},
		{"+", api.ErrName, 0},
		{"+a", api.ErrName, 0},
		{" a", api.ErrName, 0},
		{"1", api.ErrName, 0},
		{"_a", api.ErrName, 0},
		{"A", api.ErrName, 0},
		{"\xff", api.ErrName, 0},
		{"\u00e9", api.ErrName, 0},
		{long, api.ErrName, 0},
		{long + "+a", api.ErrName, 0},
		{strings.Repeat("a", 300), api.ErrName, 0},
		{"a+", api.ErrName, 2},
		{"a++b", api.ErrName, 2},
		{"a+ b", api.ErrName, 2},
		{"a+1", api.ErrName, 2},
		{"a+B", api.ErrName, 2},
		{"low+b+", api.ErrName, 6},
		{"low+b+" + long, api.ErrName, 6},
		// No level.
		{"x", api.ErrLevel, 0},
		{"lo", api.ErrLevel, 0},
		{"lowe", api.ErrLevel, 0},
		{"a_", api.ErrLevel, 0},
		{"a1+b", api.ErrLevel, 0},
		{long[:32], api.ErrLevel, 0},
		{"a+x", api.ErrLevel, 2},
		{"a+b+lo+high", api.ErrLevel, 4},
		{"a+true", api.ErrLevel, 2},
		// Neither the end nor a +.
		{"a ", api.ErrToken, 1},
		{"a b", api.ErrToken, 1},
		{"a-b", api.ErrToken, 1},
		{"aB", api.ErrToken, 1},
		{"a\x00", api.ErrToken, 1},
		{"a\xff", api.ErrToken, 1},
		{"a\n", api.ErrToken, 1},
		{"a,+b", api.ErrToken, 1},
		{"a +b", api.ErrToken, 1},
		{"low+high\u00e9", api.ErrToken, 8},
		{"a+b.", api.ErrToken, 3},
		// The first name first, whatever else is wrong.
		{"x+", api.ErrLevel, 0},
		{"x ", api.ErrLevel, 0},
		{"+x", api.ErrName, 0},
		{"a x", api.ErrToken, 1},
		{"a -+x+", api.ErrToken, 1},
		{"a+x-", api.ErrLevel, 2},
		{"a++x", api.ErrName, 2},
		{"x+" + long, api.ErrLevel, 0},
		{long + "x ", api.ErrName, 0},
	}
	for _, c := range cases {
		want := api.Fault{E: c.e, At: c.at}
		if got, f := Parse(diamond(t), c.s); len(got) != 0 || f != want {
			t.Errorf("Parse(%.80q) = %v, %v, want %v", c.s, got, f, want)
		}
	}
}

// P12.2: all short texts of names that begin others, and of what may stand
// beside them.
func TestParseEverything(t *testing.T) {
	l := made(t, "ab a_1 a "+long[:32], "a<ab a<a_1 ab<"+long[:32]+" a_1<"+long[:32])
	texts := []string{""}
	from := 0
	for range 5 {
		to := len(texts)
		for _, s := range texts[from:to] {
			for _, p := range []string{"a", "b", "_1", "+", "1", "A", " ", "-", "\xff", long[:32]} {
				texts = append(texts, s+p)
			}
		}
		from = to
	}
	right := 0
	for _, s := range texts {
		got, f := Parse(l, s)
		want, fault := read(l, s)
		if !slices.Equal(got, want) || f != fault {
			t.Fatalf("Parse(%q) = %v, %v, want %v, %v", s, got, f, want, fault)
		}
		if f == (api.Fault{}) {
			right++
		}
	}
	if right == 0 || right == len(texts) {
		t.Errorf("%d of %d texts are right", right, len(texts))
	}
}

// P12.2: which lists denote a level that is at most another's, by hand; numbers
// that are not levels are ignored.
func TestUnder(t *testing.T) {
	cases := []struct {
		a, b []int
		want bool
	}{
		{nil, nil, true},
		{nil, []int{0}, true},
		{nil, []int{2}, true},
		{[]int{0}, nil, true},
		{[]int{1}, nil, false},
		{[]int{1}, []int{0}, false},
		{[]int{0}, []int{1}, true},
		{[]int{1}, []int{1}, true},
		{[]int{1}, []int{2}, false},
		{[]int{2}, []int{1}, false},
		{[]int{1}, []int{1, 2}, true},
		{[]int{3}, []int{1, 2}, true},
		{[]int{3}, []int{2, 0, 1}, true},
		{[]int{3}, []int{2, 2, 0}, false},
		{[]int{1, 2}, []int{3}, true},
		{[]int{1, 2}, []int{1}, false},
		{[]int{1, 2}, []int{2}, false},
		{[]int{0, 1}, []int{1}, true},
		{[]int{4}, []int{0}, true},
		{[]int{0}, []int{4}, true},
		{[]int{1}, []int{4}, false},
		{[]int{-1, 4}, nil, true},
		{[]int{1, 9}, []int{-1, 1}, true},
		{[]int{9, 1}, []int{-1, 2}, false},
		{outside, nil, true},
		{outside, outside, true},
		{append(slices.Clone(outside), 1), outside, false},
		{outside, append(slices.Clone(outside), 1), true},
	}
	for _, c := range cases {
		if got := Under(diamond(t), c.a, c.b); got != c.want {
			t.Errorf("Under(%v, %v) = %t", c.a, c.b, got)
		}
	}
	// Here the bottom is not the level 0.
	if l := turned(t); Under(l, []int{0}, nil) || !Under(l, nil, []int{2}) || !Under(l, []int{2, 7}, nil) {
		t.Errorf("turned: Under tells otherwise of the bottom")
	}
}

// P12.1, P12.2: all short lists of the levels of small lattices, in each order
// and with each of them twice, and of 8 levels.
func TestEveryList(t *testing.T) {
	for _, l := range append(small(t), cube(t, 3)) {
		for _, levels := range lists(l, 4) {
			check(t, l, levels)
		}
		short := lists(l, 2)
		for _, a := range short {
			for _, b := range short {
				if got, want := Under(l, a, b), l.Leq(denoted(l, a), denoted(l, b)); got != want {
					t.Fatalf("of %q: Under(%v, %v) = %t", l.Names(), a, b, got)
				}
			}
		}
	}
}

// random is a random list of levels of l and of a few numbers that are none.
func random(source *rand.Rand, l *lattice.Lattice) []int {
	list := make([]int, source.Intn(9))
	for i := range list {
		list[i] = source.Intn(l.Len())
		if source.Intn(6) == 0 {
			list[i] = outside[source.Intn(len(outside))]
		}
	}
	return list
}

// P12.1, P12.2: random lists of the levels of great lattices.
func TestManyLevels(t *testing.T) {
	source := rand.New(rand.NewSource(12))
	for _, l := range great(t) {
		for range 1500 {
			a, b := random(source, l), random(source, l)
			check(t, l, a)
			if got, want := Under(l, a, b), l.Leq(denoted(l, a), denoted(l, b)); got != want {
				t.Fatalf("of %q: Under(%v, %v) = %t", l.Names(), a, b, got)
			}
		}
		var all []int
		for a := range l.Len() {
			all = append(all, l.Len()-1-a)
		}
		check(t, l, all)
	}
	l := fan(t, 32)
	var apart []int
	for a := range l.Len() {
		if a != l.Top() {
			apart = append(apart, a)
		}
	}
	if got := Highest(l, apart); len(got) != 30 || slices.Contains(got, l.Bottom()) {
		t.Errorf("Highest of 30 levels apart and the bottom = %v", got)
	}
}

// P12.1, P12.2: lists and texts that are long.
func TestLong(t *testing.T) {
	const many = 300000
	l := diamond(t)
	list := fields(strings.Repeat("low a ", many))
	if level, f := Of(l, list); level != 1 || f != (api.Fault{}) {
		t.Errorf("Of = %d, %v", level, f)
	}
	if !Sees(l, 1, list) || Sees(l, 2, list) {
		t.Errorf("Sees tells otherwise than that a is seen by 1 and not by 2")
	}
	list[2*many-1].Name = "x"
	if level, f := Of(l, list); level != 0 || f != (api.Fault{E: api.ErrLevel, At: list[2*many-1].At}) {
		t.Errorf("Of with a wrong word at last = %d, %v", level, f)
	}
	levels := slices.Repeat([]int{0, 7, 2, -3, 1}, many)
	if got := Highest(l, levels); !slices.Equal(got, []int{1, 2}) || Text(l, levels) != "a+b" {
		t.Errorf("Highest = %v", got)
	}
	if !Under(l, levels, []int{3}) || Under(l, levels, []int{2}) {
		t.Errorf("Under tells otherwise than that a and b are under 3 and not under 2")
	}
	text := strings.Repeat("low+b+", many)
	if got, f := Parse(l, text+"a"); !slices.Equal(got, []int{1, 2}) || f != (api.Fault{}) {
		t.Errorf("Parse = %v, %v", got, f)
	}
	if got, f := Parse(l, text); len(got) != 0 || f != (api.Fault{E: api.ErrName, At: len(text)}) {
		t.Errorf("Parse without a last name = %v, %v", got, f)
	}
	if got, f := Parse(l, strings.Repeat("b", 1000000)); len(got) != 0 || f != (api.Fault{E: api.ErrName}) {
		t.Errorf("Parse of a name too long = %v, %v", got, f)
	}
}

// P12.3: an observer sees a label exactly if its level is at most the
// observer's; the maximal levels denote the same level, and are recovered from
// their text.
func TestRecovered(t *testing.T) {
	source := rand.New(rand.NewSource(3))
	for _, l := range append(small(t), great(t)...) {
		for range 500 {
			levels := random(source, l)
			list := words(namesOf(l, levels)...)
			level, _ := Of(l, list)
			for observer := range l.Len() {
				if Sees(l, observer, list) != l.Leq(level, observer) {
					t.Fatalf("of %q: Sees(%d, %v), of level %d", l.Names(), observer, list, level)
				}
			}
			maximal := Highest(l, levels)
			if again, _ := Of(l, words(namesOf(l, maximal)...)); again != level {
				t.Fatalf("of %q: %v denote %d, %v denote %d", l.Names(), levels, level, maximal, again)
			}
			if !Under(l, levels, maximal) || !Under(l, maximal, levels) {
				t.Fatalf("of %q: %v and %v are not under each other", l.Names(), levels, maximal)
			}
			if got := Highest(l, maximal); !slices.Equal(got, maximal) {
				t.Fatalf("of %q: Highest(%v) = %v", l.Names(), maximal, got)
			}
			if len(maximal) == 0 {
				continue
			}
			if got, f := Parse(l, Text(l, levels)); !slices.Equal(got, maximal) || f != (api.Fault{}) {
				t.Fatalf("of %q: Parse(%q) = %v, %v, want %v", l.Names(), Text(l, levels), got, f, maximal)
			}
		}
	}
}

// P12.1, P12.2: of a nil lattice, ahead of all else that is wrong.
func TestNil(t *testing.T) {
	arg := api.Fault{E: api.ErrArg}
	for _, list := range [][]api.Word{nil, {}, fields("a"), words("", "?")} {
		if level, f := Of(nil, list); level != 0 || f != arg {
			t.Errorf("Of(nil, %v) = %d, %v", list, level, f)
		}
		for _, observer := range append([]int{0, 1}, outside...) {
			if Sees(nil, observer, list) {
				t.Errorf("Sees(nil, %d, %v)", observer, list)
			}
		}
	}
	for _, s := range []string{"", "a", "+", "?", "a+", long} {
		if levels, f := Parse(nil, s); len(levels) != 0 || f != arg {
			t.Errorf("Parse(nil, %q) = %v, %v", s, levels, f)
		}
	}
	for _, levels := range [][]int{nil, {}, {0}, {0, 1}, outside} {
		if got := Highest(nil, levels); len(got) != 0 || Text(nil, levels) != "" {
			t.Errorf("Highest(nil, %v) = %v, Text %q", levels, got, Text(nil, levels))
		}
		if Under(nil, levels, levels) || Under(nil, nil, levels) || Under(nil, levels, nil) {
			t.Errorf("Under(nil, ..) of %v", levels)
		}
	}
}

// R1, P12.1, P12.2: a lattice that Build did not make is not nil and has no
// levels.
func TestZero(t *testing.T) {
	l := &lattice.Lattice{}
	// The join of no words is the bottom, as that of the lattice is.
	if level, f := Of(l, nil); level != l.Bottom() || f != (api.Fault{}) {
		t.Errorf("Of no words = %d, %v", level, f)
	}
	if level, f := Of(l, []api.Word{{Name: "a", At: 5}}); level != 0 || f != (api.Fault{E: api.ErrLevel, At: 5}) {
		t.Errorf("Of = %d, %v", level, f)
	}
	if levels, f := Parse(l, "a"); len(levels) != 0 || f != (api.Fault{E: api.ErrLevel}) {
		t.Errorf("Parse = %v, %v", levels, f)
	}
	if levels, f := Parse(l, ""); len(levels) != 0 || f != (api.Fault{E: api.ErrName}) {
		t.Errorf("Parse of nothing = %v, %v", levels, f)
	}
	for _, a := range append([]int{0, 1}, outside...) {
		levels := []int{a, 0}
		if got := Highest(l, levels); len(got) != 0 || Text(l, levels) != "" || Under(l, levels, levels) || Under(l, nil, nil) {
			t.Errorf("it has a level in %v", levels)
		}
		if Sees(l, a, nil) || Sees(l, a, fields("a")) {
			t.Errorf("Sees(%d)", a)
		}
	}
}

// R3: no function changes its argument, also beyond its length, and no two
// answers share memory.
func TestMemory(t *testing.T) {
	l := diamond(t)
	list := fields("low b a high x")
	levels := []int{2, 0, 1, 9, 3, 3}
	sameWords, sameLevels := slices.Clone(list), slices.Clone(levels)
	Of(l, list[:3])
	Of(l, list)
	Sees(l, 3, list[:3])
	Text(l, levels[:3])
	Under(l, levels[:3], levels[:2])
	first, second := Highest(l, levels[:3]), Highest(l, levels[:3])
	third, _ := Parse(l, "b+a")
	fourth, _ := Parse(l, "b+a")
	for _, got := range [][]int{first, second, third, fourth} {
		if !slices.Equal(got, []int{1, 2}) {
			t.Errorf("the levels are %v", got)
		}
		_ = append(got, 7)
		clear(got)
	}
	if !slices.Equal(list, sameWords) || !slices.Equal(levels, sameLevels) {
		t.Errorf("the arguments became %v, %v", list, levels)
	}
	if !slices.Equal(l.Names(), []string{"low", "a", "b", "high"}) {
		t.Errorf("the lattice's levels became %q", l.Names())
	}
}
