package lattice

import (
	"math"
	"math/bits"
	"math/rand"
	"slices"
	"strconv"
	"strings"
	"testing"

	"blindfold/api"
)

// outside are numbers far from those of all levels; among them those whose low
// bits are a level's.
var outside = []int{math.MinInt, math.MinInt + 1, math.MinInt32, -256, -65, -33, -32, -2, -1, 32, 33, 64, 127, 128, 255, 256, 1 << 16, 1 << 32, 1<<32 + 1, math.MaxInt - 1, math.MaxInt}

// relation tells which level leads to which by a pair or, once it is closed,
// which level is at most which.
type relation [][]bool

// empty is no pairs on n levels.
func empty(n int) relation {
	m := make(relation, n)
	for a := range m {
		m[a] = make([]bool, n)
	}
	return m
}

// related is what the pairs say on n levels.
func related(n int, pairs [][2]int) relation {
	m := empty(n)
	for _, p := range pairs {
		m[p[0]][p[1]] = true
	}
	return m
}

// pairs are the pairs of m.
func (m relation) pairs() [][2]int {
	var l [][2]int
	for a, row := range m {
		for b, has := range row {
			if has {
				l = append(l, [2]int{a, b})
			}
		}
	}
	return l
}

// close is which level is at most which: the same one, and all to which a chain
// of pairs leads.
func (m relation) close() relation {
	c := empty(len(m))
	for a := range m {
		c[a][a] = true
		for ends := []int{a}; len(ends) > 0; ends = ends[1:] {
			for b, has := range m[ends[0]] {
				if has && !c[a][b] {
					c[a][b] = true
					ends = append(ends, b)
				}
			}
		}
	}
	return c
}

// turn is m with each pair reversed.
func (m relation) turn() relation {
	c := empty(len(m))
	for _, p := range m.pairs() {
		c[p[1]][p[0]] = true
	}
	return c
}

// join is the join in the closed m, or -1: the level that both are at most, and
// that is at most every other such level.
func (m relation) join(a, b int) int {
	for c := range m {
		least := m[a][c] && m[b][c]
		for d := range m {
			least = least && (!m[a][d] || !m[b][d] || m[c][d])
		}
		if least {
			return c
		}
	}
	return -1
}

// wrong is what keeps the closed m from being a lattice, and the least level
// with which; or OK.
func (m relation) wrong() (api.Errno, int) {
	for a := range m {
		for b := range m {
			if a != b && m[a][b] && m[b][a] {
				return api.ErrLoop, a
			}
		}
	}
	turned := m.turn()
	for a := range m {
		for b := range a {
			if m.join(a, b) < 0 || turned.join(a, b) < 0 {
				return api.ErrBound, a
			}
		}
	}
	return api.OK, 0
}

// named are the names of n levels.
func named(n int) []string {
	l := make([]string, n)
	for i := range l {
		l[i] = "l" + strconv.Itoa(i)
	}
	return l
}

// text is levels and their order with the place of each word in it, where each
// word is at a place of its own that is not in proportion to its index.
func text(levels []string, pairs [][2]string) ([]api.Word, []api.Pair) {
	at := 7
	word := func(name string) api.Word {
		at += 3 + len(name)%5
		return api.Word{Name: name, At: at}
	}
	var l []api.Word
	for _, name := range levels {
		l = append(l, word(name))
	}
	var order []api.Pair
	for _, p := range pairs {
		lo := word(p[0])
		order = append(order, api.Pair{Lo: lo, Hi: word(p[1])})
	}
	return l, order
}

// textOf is the text of n levels and these pairs of them.
func textOf(n int, pairs [][2]int) ([]api.Word, []api.Pair) {
	levels := named(n)
	var words [][2]string
	for _, p := range pairs {
		words = append(words, [2]string{levels[p[0]], levels[p[1]]})
	}
	return text(levels, words)
}

// made is the lattice of n levels and these pairs.
func made(t *testing.T, n int, pairs [][2]int) *Lattice {
	t.Helper()
	l, f := Build(textOf(n, pairs))
	if l == nil || f != (api.Fault{}) {
		t.Fatalf("Build of %d levels, %v = %v, %v", n, pairs, l, f)
	}
	return l
}

// holds holds all that l tells against its names and its order, also of numbers
// that are not levels.
func holds(t *testing.T, l *Lattice, list []string, order relation) {
	t.Helper()
	if l.Len() != len(list) || !slices.Equal(l.Names(), list) {
		t.Fatalf("%d levels %q, want %q", l.Len(), l.Names(), list)
	}
	turned := order.turn()
	top, bottom := -1, -1
	for a, name := range list {
		if got := l.Name(a); got != name {
			t.Fatalf("Name(%d) of %q = %q", a, list, got)
		}
		if i, ok := l.Find(name); i != a || !ok {
			t.Fatalf("Find(%q) of %q = %d, %t", name, list, i, ok)
		}
		var below []int
		for b := range list {
			if got := l.Leq(a, b); got != order[a][b] {
				t.Fatalf("of %v: Leq(%d, %d) = %t", order.pairs(), a, b, got)
			}
			if got, want := l.Join(a, b), order.join(a, b); got != want {
				t.Fatalf("of %v: Join(%d, %d) = %d, want %d", order.pairs(), a, b, got, want)
			}
			if got, want := l.Meet(a, b), turned.join(a, b); got != want {
				t.Fatalf("of %v: Meet(%d, %d) = %d, want %d", order.pairs(), a, b, got, want)
			}
			if order[b][a] {
				below = append(below, b)
			}
		}
		if got := l.Sees(a); !slices.Equal(got, below) {
			t.Fatalf("of %v: Sees(%d) = %v, want %v", order.pairs(), a, got, below)
		}
		if len(below) == len(list) {
			top = a
		}
		if !slices.Contains(order[a], false) {
			bottom = a
		}
	}
	if l.Top() != top || l.Bottom() != bottom {
		t.Fatalf("of %v: Top = %d, Bottom = %d, want %d, %d", order.pairs(), l.Top(), l.Bottom(), top, bottom)
	}
	holdsOutside(t, l)
}

// holdsOutside asks l of numbers that are not levels.
func holdsOutside(t *testing.T, l *Lattice) {
	t.Helper()
	n := l.Len()
	for _, w := range append([]int{n, n + 1, 31}, outside...) {
		if 0 <= w && w < n {
			continue
		}
		if name := l.Name(w); name != "" {
			t.Fatalf("of %d levels: Name(%d) = %q", n, w, name)
		}
		if seen := l.Sees(w); len(seen) != 0 {
			t.Fatalf("of %d levels: Sees(%d) = %v", n, w, seen)
		}
		for _, a := range []int{-1, 0, n - 1, n, w} {
			if l.Leq(a, w) || l.Leq(w, a) {
				t.Fatalf("of %d levels: Leq of %d and %d", n, a, w)
			}
			for _, got := range []int{l.Join(a, w), l.Join(w, a), l.Meet(a, w), l.Meet(w, a)} {
				if got != -1 {
					t.Fatalf("of %d levels: a join or meet of %d and %d: %d", n, a, w, got)
				}
			}
		}
	}
}

// check builds from these pairs and holds what comes out against the chapter's
// definitions. It reports whether there is a lattice.
func check(t *testing.T, n int, pairs [][2]int) bool {
	t.Helper()
	levels, order := textOf(n, pairs)
	closed := related(n, pairs).close()
	l, f := Build(levels, order)
	e, least := closed.wrong()
	if e != api.OK {
		if want := (api.Fault{E: e, At: levels[least].At}); l != nil || f != want {
			t.Fatalf("Build of %d levels, %v = %v, %v, want %v", n, pairs, l, f, want)
		}
		return false
	}
	if l == nil || f != (api.Fault{}) {
		t.Fatalf("Build of %d levels, %v = %v, %v", n, pairs, l, f)
	}
	holds(t, l, named(n), closed)
	return true
}

// renumbered are the pairs with level a called to[a].
func renumbered(pairs [][2]int, to []int) [][2]int {
	var l [][2]int
	for _, p := range pairs {
		l = append(l, [2]int{to[p[0]], to[p[1]]})
	}
	return l
}

// permutations are all lists of the numbers from 0 to n - 1.
func permutations(n int) [][]int {
	all := [][]int{nil}
	for range n {
		var longer [][]int
		for _, l := range all {
			for a := range n {
				if !slices.Contains(l, a) {
					longer = append(longer, append(slices.Clone(l), a))
				}
			}
		}
		all = longer
	}
	return all
}

// upward yields all sets of pairs from a lesser to a greater one of n levels.
func upward(n int, yield func([][2]int)) {
	var all [][2]int
	for b := range n {
		for a := range b {
			all = append(all, [2]int{a, b})
		}
	}
	for set := range 1 << len(all) {
		var pairs [][2]int
		for i, p := range all {
			if set>>i&1 != 0 {
				pairs = append(pairs, p)
			}
		}
		yield(pairs)
	}
}

// subsets are the pairs of which the first set is contained in the second one.
func subsets(sets []uint) [][2]int {
	var pairs [][2]int
	for a := range sets {
		for b := range sets {
			if a != b && sets[a]&^sets[b] == 0 {
				pairs = append(pairs, [2]int{a, b})
			}
		}
	}
	return pairs
}

// steps are the pairs that no chain of other pairs stands for, so that there are
// fewer of them than Build takes.
func steps(n int, pairs [][2]int) [][2]int {
	m := related(n, pairs)
	for _, p := range pairs {
		m[p[0]][p[1]] = false
		if !m.close()[p[0]][p[1]] {
			m[p[0]][p[1]] = true
		}
	}
	return m.pairs()
}

// diamond is the chapter's example: low, a, b, high.
func diamond() ([]api.Word, []api.Pair) {
	return text([]string{"low", "a", "b", "high"}, [][2]string{{"low", "a"}, {"low", "b"}, {"a", "high"}, {"b", "high"}})
}

// The chapter's example.
func TestExample(t *testing.T) {
	l, f := Build(diamond())
	if f != (api.Fault{}) {
		t.Fatalf("Build: %v", f)
	}
	if got := l.Join(1, 2); got != 3 {
		t.Errorf("Join of a and b = %d, want 3", got)
	}
}

// P11.2: what the chapter's example tells, by hand.
func TestDiamond(t *testing.T) {
	l, _ := Build(diamond())
	joins := [4][4]int{{0, 1, 2, 3}, {1, 1, 3, 3}, {2, 3, 2, 3}, {3, 3, 3, 3}}
	meets := [4][4]int{{0, 0, 0, 0}, {0, 1, 0, 1}, {0, 0, 2, 2}, {0, 1, 2, 3}}
	sees := [4][]int{{0}, {0, 1}, {0, 2}, {0, 1, 2, 3}}
	leq := [4][4]bool{{true, true, true, true}, {false, true, false, true}, {false, false, true, true}, {false, false, false, true}}
	for a := range 4 {
		for b := range 4 {
			if l.Join(a, b) != joins[a][b] || l.Meet(a, b) != meets[a][b] || l.Leq(a, b) != leq[a][b] {
				t.Errorf("of %d and %d: Join %d, Meet %d, Leq %t", a, b, l.Join(a, b), l.Meet(a, b), l.Leq(a, b))
			}
		}
		if got := l.Sees(a); !slices.Equal(got, sees[a]) {
			t.Errorf("Sees(%d) = %v, want %v", a, got, sees[a])
		}
	}
	if l.Len() != 4 || l.Top() != 3 || l.Bottom() != 0 {
		t.Errorf("Len %d, Top %d, Bottom %d", l.Len(), l.Top(), l.Bottom())
	}
	if got := l.Names(); !slices.Equal(got, []string{"low", "a", "b", "high"}) {
		t.Errorf("Names = %q", got)
	}
	for i, name := range []string{"low", "a", "b", "high"} {
		if at, ok := l.Find(name); at != i || !ok || l.Name(i) != name {
			t.Errorf("Find(%q) = %d, %t, Name(%d) = %q", name, at, ok, i, l.Name(i))
		}
	}
	for _, name := range []string{"", "lo", "low ", "lowe", "Low", "c", "hig", "high\x00", "\xff"} {
		if at, ok := l.Find(name); at != 0 || ok {
			t.Errorf("Find(%q) = %d, %t", name, at, ok)
		}
	}
	holdsOutside(t, l)
}

// long is one character longer than a name.
const long = "a23456789012345678901234567890123"

// many are n levels, these ones first.
func many(n int, levels ...string) []string {
	for len(levels) < n {
		levels = append(levels, "n"+strconv.Itoa(len(levels)))
	}
	return levels
}

// repeat are n pairs, these ones first.
func repeat(n int, pairs ...[2]string) [][2]string {
	for len(pairs) < n {
		pairs = append(pairs, [2]string{"n1", "n0"})
	}
	return pairs
}

// faulty is what Build does not take, and why.
type faulty struct {
	what   string
	levels []string
	pairs  [][2]string
	want   api.Errno
	// level is the level at which the fault is or, if pair is not -1, pair is the
	// word of the pairs.
	level, pair int
}

// fails holds the fault of c against the one that is wanted.
func (c faulty) fails(t *testing.T) {
	t.Helper()
	levels, order := text(c.levels, c.pairs)
	want := api.Fault{E: c.want}
	switch {
	case c.pair < 0:
		want.At = levels[c.level].At
	case c.pair%2 == 0:
		want.At = order[c.pair/2].Lo.At
	default:
		want.At = order[c.pair/2].Hi.At
	}
	if l, f := Build(levels, order); l != nil || f != want {
		t.Errorf("%s: Build(%.80q, %.80q) = %v, %v, want %v", c.what, c.levels, c.pairs, l, f, want)
	}
}

// P11.1: too many levels or pairs, which is told ahead of all that is wrong with
// them.
func TestTooMany(t *testing.T) {
	cases := []faulty{
		{"33 levels", many(33), nil, api.ErrMany, 32, -1},
		{"34 levels", many(34), nil, api.ErrMany, 32, -1},
		{"1000 levels", many(1000), nil, api.ErrMany, 32, -1},
		{"257 pairs", []string{"n0", "n1"}, repeat(257), api.ErrMany, -1, 2 * 256},
		{"258 pairs", []string{"n0", "n1"}, repeat(258), api.ErrMany, -1, 2 * 256},
		{"1000 pairs", []string{"n0", "n1"}, repeat(1000), api.ErrMany, -1, 2 * 256},
		{"too many of both", many(33), repeat(257), api.ErrMany, 32, -1},
		{"too many levels, wrong ones", many(33, "A", "", "x", "x"), nil, api.ErrMany, 32, -1},
		{"too many pairs, wrong levels", []string{"A", "x", "x"}, repeat(257), api.ErrMany, -1, 2 * 256},
		{"too many pairs, wrong ones", []string{"n0", "n1"}, repeat(257, [2]string{"x", "y"}), api.ErrMany, -1, 2 * 256},
	}
	for _, c := range cases {
		c.fails(t)
	}
}

// P11.1: names that are none and names that are there twice, by hand, the first
// level first, and ahead of what is wrong with the pairs.
func TestWrongNames(t *testing.T) {
	cases := []faulty{
		{"no name", []string{"A"}, nil, api.ErrName, 0, -1},
		{"no name", []string{""}, nil, api.ErrName, 0, -1},
		{"no name", []string{"a", "9"}, nil, api.ErrName, 1, -1},
		{"no name", []string{"a", "_a"}, nil, api.ErrName, 1, -1},
		{"no name", []string{"a", "b ", "c"}, nil, api.ErrName, 1, -1},
		{"no name", []string{"a", "\u00e9"}, nil, api.ErrName, 1, -1},
		{"no name", []string{"a", "b\xff"}, nil, api.ErrName, 1, -1},
		{"no name", []string{"a", long}, nil, api.ErrName, 1, -1},
		{"no names", []string{"a", "B", "C"}, nil, api.ErrName, 1, -1},
		{"no name, at last", append(many(31), "A"), nil, api.ErrName, 31, -1},
		{"twice", []string{"a", "a"}, nil, api.ErrTwice, 1, -1},
		{"twice", []string{"a", "b", "c", "b", "a"}, nil, api.ErrTwice, 3, -1},
		{"twice, at last", append(many(31), "n30"), nil, api.ErrTwice, 31, -1},
		{"twice, then no name", []string{"a", "a", "A"}, nil, api.ErrTwice, 1, -1},
		{"no name, then twice", []string{"a", "A", "a"}, nil, api.ErrName, 1, -1},
		{"no name twice", []string{"a", "A", "A"}, nil, api.ErrName, 1, -1},
		{"no name, then it twice", []string{"a", "a", "A", "A"}, nil, api.ErrTwice, 1, -1},
		{"twice, a pair wrong", []string{"a", "a"}, [][2]string{{"x", "a"}}, api.ErrTwice, 1, -1},
		{"no name, in a pair too", []string{"A"}, [][2]string{{"A", "x"}}, api.ErrName, 0, -1},
	}
	for _, c := range cases {
		c.fails(t)
	}
}

// P11.1: words of pairs that are not levels, by hand, the first word first, and
// ahead of loops and missing joins.
func TestWrongPairs(t *testing.T) {
	cases := []faulty{
		{"no level", []string{"a"}, [][2]string{{"b", "a"}}, api.ErrLevel, -1, 0},
		{"no level", []string{"a"}, [][2]string{{"a", "b"}}, api.ErrLevel, -1, 1},
		{"no levels", []string{"a"}, [][2]string{{"b", "c"}}, api.ErrLevel, -1, 0},
		{"no level and no name", []string{"a"}, [][2]string{{"a", ""}}, api.ErrLevel, -1, 1},
		{"no level and no name", []string{"a"}, [][2]string{{"A", "a"}}, api.ErrLevel, -1, 0},
		{"no level and no name", []string{"a"}, [][2]string{{"a", long}}, api.ErrLevel, -1, 1},
		{"no level, in the second pair", []string{"a", "b"}, [][2]string{{"a", "b"}, {"a", "c"}}, api.ErrLevel, -1, 3},
		{"no level, Hi and then Lo", []string{"a", "b"}, [][2]string{{"a", "c"}, {"c", "a"}}, api.ErrLevel, -1, 1},
		{"no level, at last", []string{"n0", "n1"}, append(repeat(255), [2]string{"n0", "x"}), api.ErrLevel, -1, 511},
		{"no level, and a loop", []string{"a", "b"}, [][2]string{{"a", "b"}, {"b", "a"}, {"x", "a"}}, api.ErrLevel, -1, 4},
		{"no level, and no join", []string{"a", "b"}, [][2]string{{"a", "x"}}, api.ErrLevel, -1, 1},
	}
	for _, c := range cases {
		c.fails(t)
	}
}

// P11.1: loops, and joins and meets that are missing, by hand, at the least level
// concerned.
func TestNoLattice(t *testing.T) {
	cases := []faulty{
		{"loop", []string{"a", "b"}, [][2]string{{"a", "b"}, {"b", "a"}}, api.ErrLoop, 0, -1},
		{"loop at the least level in it", []string{"a", "b", "c", "d"}, [][2]string{{"d", "a"}, {"c", "b"}, {"b", "d"}, {"d", "c"}}, api.ErrLoop, 1, -1},
		{"two loops", []string{"a", "b", "c", "d", "e"}, [][2]string{{"e", "d"}, {"d", "e"}, {"c", "b"}, {"b", "c"}}, api.ErrLoop, 1, -1},
		{"loop, and no join ahead of it", []string{"a", "b", "c", "d"}, [][2]string{{"c", "d"}, {"d", "c"}}, api.ErrLoop, 2, -1},
		{"no join and no meet", []string{"a", "b"}, nil, api.ErrBound, 1, -1},
		{"no join and no meet", []string{"a", "b"}, [][2]string{{"a", "a"}, {"b", "b"}}, api.ErrBound, 1, -1},
		{"no join", []string{"a", "b", "c"}, [][2]string{{"a", "b"}, {"a", "c"}}, api.ErrBound, 2, -1},
		{"no meet", []string{"a", "b", "c"}, [][2]string{{"b", "a"}, {"c", "a"}}, api.ErrBound, 2, -1},
		{"no join, at an earlier level", []string{"b", "c", "a"}, [][2]string{{"a", "b"}, {"a", "c"}}, api.ErrBound, 1, -1},
		{"no meet, at an earlier level", []string{"b", "c", "a"}, [][2]string{{"b", "a"}, {"c", "a"}}, api.ErrBound, 1, -1},
		{"two joins", []string{"o", "a", "b", "c", "d", "z"}, [][2]string{{"o", "a"}, {"o", "b"}, {"a", "c"}, {"a", "d"}, {"b", "c"}, {"b", "d"}, {"c", "z"}, {"d", "z"}}, api.ErrBound, 2, -1},
		{"two meets first", []string{"o", "c", "d", "a", "b", "z"}, [][2]string{{"o", "a"}, {"o", "b"}, {"a", "c"}, {"a", "d"}, {"b", "c"}, {"b", "d"}, {"c", "z"}, {"d", "z"}}, api.ErrBound, 2, -1},
		{"a level apart, at last", []string{"a", "b", "c"}, [][2]string{{"a", "b"}}, api.ErrBound, 2, -1},
		{"a level apart, at first", []string{"c", "a", "b"}, [][2]string{{"a", "b"}}, api.ErrBound, 1, -1},
		{"31 levels apart", many(31), nil, api.ErrBound, 1, -1},
		{"32 levels apart", many(32), nil, api.ErrBound, 1, -1},
	}
	for _, c := range cases {
		c.fails(t)
	}
}

// P11.1: without levels nothing else is told.
func TestNoLevels(t *testing.T) {
	_, order := textOf(2, [][2]int{{0, 1}})
	for _, levels := range [][]api.Word{nil, {}} {
		for _, pairs := range [][]api.Pair{nil, {}, order, make([]api.Pair, 300)} {
			if l, f := Build(levels, pairs); l != nil || f != (api.Fault{E: api.ErrMissing}) {
				t.Errorf("Build(%v, %d pairs) = %v, %v", levels, len(pairs), l, f)
			}
		}
	}
}

// P11.1: a fault is where its word says that it stands, wherever that is.
func TestPlaces(t *testing.T) {
	for _, at := range []int{math.MinInt, -1, 0, 1, 65536, math.MaxInt} {
		good := api.Word{Name: "a", At: 5}
		other := api.Word{Name: "b", At: at}
		none := api.Word{Name: "x", At: at}
		thirtyThree := make([]api.Word, 33)
		thirtyThree[32].At = at
		pairs := make([]api.Pair, 257)
		pairs[256].Lo.At = at
		cases := []struct {
			levels []api.Word
			order  []api.Pair
			want   api.Errno
		}{
			{thirtyThree, nil, api.ErrMany},
			{[]api.Word{good}, pairs, api.ErrMany},
			{[]api.Word{good, {Name: "?", At: at}}, nil, api.ErrName},
			{[]api.Word{good, {Name: "a", At: at}}, nil, api.ErrTwice},
			{[]api.Word{good}, []api.Pair{{Lo: none, Hi: good}}, api.ErrLevel},
			{[]api.Word{good}, []api.Pair{{Lo: good, Hi: none}}, api.ErrLevel},
			{[]api.Word{other, good}, []api.Pair{{Lo: good, Hi: other}, {Lo: other, Hi: good}}, api.ErrLoop},
			{[]api.Word{good, other}, nil, api.ErrBound},
		}
		for _, c := range cases {
			if l, f := Build(c.levels, c.order); l != nil || f != (api.Fault{E: c.want, At: at}) {
				t.Errorf("at %d: Build = %v, %v, want %v", at, l, f, c.want)
			}
		}
	}
}

// P11.1: as many levels and pairs as there may be, and names as long.
func TestLimits(t *testing.T) {
	var chain [][2]int
	for a := range 31 {
		chain = append(chain, [2]int{a, a + 1})
	}
	for n := 1; n <= 32; n++ {
		check(t, n, chain[:n-1])
	}
	full := slices.Clone(chain)
	for len(full) < 256 {
		full = append(full, [2]int{len(full) % 7, 31 - len(full)%11})
	}
	check(t, 32, full)
	check(t, 32, slices.Repeat(chain[:1], 256))
	check(t, 1, slices.Repeat([][2]int{{0, 0}}, 256))
	longest := strings.Repeat("a", 32)
	levels := []string{longest, longest[1:], "z_9", "a"}
	l, f := Build(text(levels, [][2]string{{"a", longest}, {longest, "z_9"}, {"z_9", longest[1:]}}))
	if f != (api.Fault{}) {
		t.Fatalf("Build of %q: %v", levels, f)
	}
	holds(t, l, levels, related(4, [][2]int{{3, 0}, {0, 2}, {2, 1}}).close())
}

// P11.1, P11.2, R5: a nil lattice, and one that Build did not make, have no
// levels.
func TestEmpty(t *testing.T) {
	for i, l := range []*Lattice{nil, {}} {
		if l.Len() != 0 || len(l.Names()) != 0 || l.Top() != -1 || l.Bottom() != -1 {
			t.Errorf("lattice %d: Len %d, Names %q, Top %d, Bottom %d", i, l.Len(), l.Names(), l.Top(), l.Bottom())
		}
		for _, name := range []string{"", "a", "low"} {
			if at, ok := l.Find(name); at != 0 || ok {
				t.Errorf("lattice %d: Find(%q) = %d, %t", i, name, at, ok)
			}
		}
		if l.Name(0) != "" || l.Leq(0, 0) || l.Join(0, 0) != -1 || l.Meet(0, 0) != -1 || len(l.Sees(0)) != 0 {
			t.Errorf("lattice %d: it has a level 0", i)
		}
		holdsOutside(t, l)
	}
}

// P11.1, P11.2: a lattice of one level.
func TestOne(t *testing.T) {
	for _, pairs := range [][][2]int{nil, {{0, 0}}} {
		l := made(t, 1, pairs)
		holds(t, l, []string{"l0"}, relation{{true}})
		if l.Top() != 0 || l.Bottom() != 0 || l.Join(0, 0) != 0 || l.Meet(0, 0) != 0 || !l.Leq(0, 0) {
			t.Errorf("of one level: Top %d, Bottom %d", l.Top(), l.Bottom())
		}
	}
}

// P11.1, P11.2: all pairs of up to four levels, also of a level with itself.
func TestEveryOrder(t *testing.T) {
	for n := 1; n <= 4; n++ {
		lattices := 0
		for set := range 1 << (n * n) {
			m := empty(n)
			for i := range n * n {
				m[i/n][i%n] = set>>i&1 != 0
			}
			if check(t, n, m.pairs()) {
				lattices++
			}
		}
		if lattices == 0 {
			t.Errorf("no lattice of %d levels", n)
		}
	}
}

// P11.1, P11.2: all orders of five levels, however they are numbered, and those
// of six that have a top and a bottom: with fewer levels these two alone make a
// lattice.
func TestEveryNumbering(t *testing.T) {
	numberings := permutations(5)
	upward(5, func(pairs [][2]int) {
		for _, to := range numberings {
			check(t, 5, renumbered(pairs, to))
		}
	})
	numberings = permutations(6)
	counts := map[bool]int{}
	upward(4, func(inner [][2]int) {
		pairs := [][2]int{{4, 0}, {4, 1}, {4, 2}, {4, 3}, {0, 5}, {1, 5}, {2, 5}, {3, 5}}
		pairs = append(pairs, inner...)
		for _, to := range numberings {
			counts[check(t, 6, renumbered(pairs, to))]++
		}
	})
	if counts[true] == 0 || counts[false] == 0 {
		t.Errorf("lattices and others: %v", counts)
	}
}

// family is a random family of sets of up to six numbers that has 2 to 32 sets,
// the full one among them, and contains what each two of its sets share: by
// inclusion it is a lattice.
func family(source *rand.Rand) []uint {
	of := 1 + source.Intn(6)
	sets := []uint{1<<of - 1}
	most := 2 + source.Intn(31)
	for range 60 {
		more := slices.Clone(sets)
		added := uint(source.Intn(1 << of))
		for _, s := range append(sets, 1<<of-1) {
			if !slices.Contains(more, s&added) {
				more = append(more, s&added)
			}
		}
		if len(more) <= most {
			sets = more
		}
	}
	source.Shuffle(len(sets), func(a, b int) { sets[a], sets[b] = sets[b], sets[a] })
	return sets
}

// P11.1, P11.2: lattices of many levels, told by pairs between neighbours and by
// some more, and what becomes of them with a pair less or more.
func TestMany(t *testing.T) {
	source := rand.New(rand.NewSource(11))
	sizes := map[int]int{}
	for range 1500 {
		sets := family(source)
		n := len(sets)
		sizes[n]++
		all := subsets(sets)
		pairs := steps(n, all)
		for len(all) > 0 && len(pairs) < min(256, len(all)) && source.Intn(4) > 0 {
			pairs = append(pairs, all[source.Intn(len(all))])
		}
		source.Shuffle(len(pairs), func(a, b int) { pairs[a], pairs[b] = pairs[b], pairs[a] })
		if !check(t, n, pairs) {
			t.Fatalf("no lattice of the sets %b", sets)
		}
		if len(pairs) > 0 {
			at := source.Intn(len(pairs))
			check(t, n, slices.Delete(slices.Clone(pairs), at, at+1))
			check(t, n, slices.Insert(slices.Delete(slices.Clone(pairs), at, at+1), at, [2]int{source.Intn(n), source.Intn(n)}))
		}
	}
	if sizes[32] == 0 || sizes[31] == 0 || sizes[2] == 0 {
		t.Errorf("how many lattices of which size: %v", sizes)
	}
}

// P11.1: sparse and dense random pairs on many levels.
func TestRandomPairs(t *testing.T) {
	source := rand.New(rand.NewSource(111))
	for range 3000 {
		n := 1 + source.Intn(32)
		rank := source.Perm(n)
		var pairs [][2]int
		for range source.Intn(min(257, n*n)) {
			a, b := source.Intn(n), source.Intn(n)
			if rank[a] > rank[b] && source.Intn(200) > 0 {
				a, b = b, a
			}
			pairs = append(pairs, [2]int{a, b})
		}
		check(t, n, pairs)
	}
}

// P11.2: lattices whose joins and meets are known without any order: the sets of
// five numbers, and the greater and lesser ones of two numbers.
func TestKnown(t *testing.T) {
	var cube, grid [][2]int
	for a := range 32 {
		for i := range 5 {
			if a>>i&1 == 0 {
				cube = append(cube, [2]int{a, a | 1<<i})
			}
		}
		if a/8 < 3 {
			grid = append(grid, [2]int{a, a + 8})
		}
		if a%8 < 7 {
			grid = append(grid, [2]int{a, a + 1})
		}
	}
	sets, numbers := made(t, 32, cube), made(t, 32, grid)
	for a := range 32 {
		if got := len(sets.Sees(a)); got != 1<<bits.OnesCount(uint(a)) {
			t.Errorf("the set %b sees %d sets", a, got)
		}
		for b := range 32 {
			if sets.Join(a, b) != a|b || sets.Meet(a, b) != a&b || sets.Leq(a, b) != (a&^b == 0) {
				t.Fatalf("of the sets %b and %b: Join %b, Meet %b", a, b, sets.Join(a, b), sets.Meet(a, b))
			}
			join, meet := 8*max(a/8, b/8)+max(a%8, b%8), 8*min(a/8, b/8)+min(a%8, b%8)
			if numbers.Join(a, b) != join || numbers.Meet(a, b) != meet || numbers.Leq(a, b) != (join == b) {
				t.Fatalf("of %d and %d: Join %d, Meet %d, want %d, %d", a, b, numbers.Join(a, b), numbers.Meet(a, b), join, meet)
			}
		}
	}
	if sets.Top() != 31 || sets.Bottom() != 0 || numbers.Top() != 31 || numbers.Bottom() != 0 {
		t.Errorf("Top and Bottom are not the last and the first level")
	}
}

// P11.3: the laws, told by the package alone.
func TestLaws(t *testing.T) {
	source := rand.New(rand.NewSource(113))
	for range 150 {
		sets := family(source)
		l := made(t, len(sets), steps(len(sets), subsets(sets)))
		for a := range sets {
			for b := range sets {
				join, meet := l.Join(a, b), l.Meet(a, b)
				if join != l.Join(b, a) || meet != l.Meet(b, a) {
					t.Fatalf("of %b: %d and %d do not commute", sets, a, b)
				}
				if l.Join(a, meet) != a || l.Meet(a, join) != a {
					t.Fatalf("of %b: %d does not absorb %d", sets, a, b)
				}
				if leq := l.Leq(a, b); leq != (join == b) || leq != (meet == a) || leq != slices.Contains(l.Sees(b), a) {
					t.Fatalf("of %b: Leq(%d, %d) = %t, Join %d, Meet %d", sets, a, b, leq, join, meet)
				}
				for c := range sets {
					if l.Join(join, c) != l.Join(a, l.Join(b, c)) || l.Meet(meet, c) != l.Meet(a, l.Meet(b, c)) {
						t.Fatalf("of %b: %d, %d and %d do not associate", sets, a, b, c)
					}
				}
			}
			if !l.Leq(a, l.Top()) || !l.Leq(l.Bottom(), a) {
				t.Fatalf("of %b: %d is not between Bottom and Top", sets, a)
			}
		}
	}
}

// R3: Build changes no argument, also beyond its length, and neither what it was
// given nor what a lattice answers shares memory with the lattice.
func TestMemory(t *testing.T) {
	levels, order := diamond()
	levels = append(levels, api.Word{Name: "more", At: 90}, api.Word{Name: "low", At: 91})
	order = append(order, api.Pair{Lo: levels[4], Hi: levels[5]})
	levelsBefore, orderBefore := slices.Clone(levels), slices.Clone(order)
	l, f := Build(levels[:4], order[:4])
	if f != (api.Fault{}) {
		t.Fatalf("Build: %v", f)
	}
	if !slices.Equal(levels, levelsBefore) || !slices.Equal(order, orderBefore) {
		t.Errorf("the arguments became %v, %v", levels, order)
	}
	clear(levels)
	clear(order)
	list := l.Names()
	_ = append(list, "more")
	clear(list)
	seen := l.Sees(3)
	_ = append(seen, 7)
	clear(seen)
	copied := *l
	want := related(4, [][2]int{{0, 1}, {0, 2}, {1, 3}, {2, 3}}).close()
	holds(t, l, []string{"low", "a", "b", "high"}, want)
	*l = Lattice{}
	holds(t, &copied, []string{"low", "a", "b", "high"}, want)
}
