package rel

import (
	"math"
	"math/rand"
	"slices"
	"testing"
)

// outside are numbers far from those of all elements; among them those whose
// low bits are an element's.
var outside = []int{math.MinInt, math.MinInt + 1, math.MinInt32, -65, -64, -2, -1, 64, 65, 127, 128, 256, 1 << 32, 1<<32 + 1, math.MaxInt - 1, math.MaxInt}

// matrix tells a relation by its pairs.
type matrix [][]bool

// empty is the matrix of no pairs on n elements.
func empty(n int) matrix {
	m := make(matrix, n)
	for a := range m {
		m[a] = make([]bool, n)
	}
	return m
}

// pairs are the pairs of m.
func (m matrix) pairs() [][2]int {
	var l [][2]int
	for a, row := range m {
		for b, has := range row {
			if has {
				l = append(l, [2]int{a, b})
			}
		}
	}
	return l
}

// matrixOf is the matrix of these pairs.
func matrixOf(n int, pairs [][2]int) matrix {
	m := empty(n)
	for _, p := range pairs {
		m[p[0]][p[1]] = true
	}
	return m
}

// closure is the closure of m as the chapter defines it: from each element
// along all chains of pairs.
func (m matrix) closure() matrix {
	c := empty(len(m))
	for a := range m {
		c[a][a] = true
		for chains := []int{a}; len(chains) > 0; {
			last := chains[0]
			chains = chains[1:]
			for b, has := range m[last] {
				if has && !c[a][b] {
					c[a][b] = true
					chains = append(chains, b)
				}
			}
		}
	}
	return c
}

// loop is the least element that is part of a loop, or -1.
func (m matrix) loop() int {
	c := m.closure()
	for a := range c {
		for b := range c {
			if a != b && c[a][b] && c[b][a] {
				return a
			}
		}
	}
	return -1
}

// follows reports whether each element of l comes after all others that lead to
// it, where c is the closure.
func follows(l []int, c matrix) bool {
	for i, later := range l {
		for _, earlier := range l[:i] {
			if c[later][earlier] {
				return false
			}
		}
	}
	return true
}

// order is the order of m: where the least element is chosen first wherever
// there is a choice, what comes out is the first of all lists that are an order.
func (m matrix) order(all [][]int) []int {
	c := m.closure()
	for _, l := range all {
		if follows(l, c) {
			return l
		}
	}
	return nil
}

// chosen is the order of m, chosen element by element, for relations of which
// not all lists can be tried.
func (m matrix) chosen() []int {
	c := m.closure()
	var l []int
	for range m {
		for a := range m {
			late := slices.Contains(l, a)
			for b := range m {
				late = late || a != b && c[b][a] && !slices.Contains(l, b)
			}
			if !late {
				l = append(l, a)
				break
			}
		}
	}
	return l
}

// permutations are all lists of the numbers from 0 to n - 1, the first one first.
func permutations(n int) [][]int {
	all := [][]int{nil}
	for range n {
		var longer [][]int
		for _, l := range all {
			for a := range n {
				if !slices.Contains(l, a) {
					longer = append(longer, append(slices.Clone(l), a))
				}
			}
		}
		all = longer
	}
	return all
}

// matrices yields all relations on n elements.
func matrices(n int, yield func(matrix)) {
	for bits := range 1 << (n * n) {
		m := empty(n)
		for i := range n * n {
			m[i/n][i%n] = bits>>i&1 != 0
		}
		yield(m)
	}
}

// made is the relation of these pairs.
func made(t *testing.T, n int, pairs [][2]int) *Rel {
	t.Helper()
	r, ok := New(n, pairs)
	if r == nil || !ok {
		t.Fatalf("New(%d, %v) = %v, %t", n, pairs, r, ok)
	}
	return r
}

// holds holds the elements and pairs of r against m, also outside of it.
func holds(t *testing.T, what string, r *Rel, m matrix) {
	t.Helper()
	if r.Len() != len(m) {
		t.Fatalf("%s of %v: %d elements, want %d", what, m.pairs(), r.Len(), len(m))
	}
	for a := -1; a <= len(m); a++ {
		for b := -1; b <= len(m); b++ {
			inside := min(a, b) >= 0 && max(a, b) < len(m)
			if got, want := r.Has(a, b), inside && m[a][b]; got != want {
				t.Fatalf("%s of %v: Has(%d, %d) = %t, want %t", what, m.pairs(), a, b, got, want)
			}
		}
	}
}

// check holds all that is told of the relation m against the chapter's
// definitions; order is its order, if it has no loop.
func check(t *testing.T, m matrix, order []int) {
	t.Helper()
	r := made(t, len(m), m.pairs())
	holds(t, "New", r, m)
	closure := r.Close()
	holds(t, "Close", closure, m.closure())
	holds(t, "Close of Close", closure.Close(), m.closure())
	holds(t, "New after Close", r, m)
	wantLoop := m.loop()
	for _, each := range []*Rel{r, closure} {
		loop, has := each.Loop()
		if has != (wantLoop >= 0) || loop != max(wantLoop, 0) {
			t.Fatalf("Loop of %v = %d, %t, want %d", m.pairs(), loop, has, wantLoop)
		}
		got, ok := each.Order()
		if wantLoop >= 0 {
			order = nil
		}
		if ok != (wantLoop < 0) || !slices.Equal(got, order) {
			t.Fatalf("Order of %v = %v, %t, want %v", m.pairs(), got, ok, order)
		}
	}
}

// The chapter's example.
func TestExample(t *testing.T) {
	order, ok := made(t, 3, [][2]int{{0, 2}, {2, 1}}).Order()
	if !ok || !slices.Equal(order, []int{0, 2, 1}) {
		t.Errorf("Order of (0, 2), (2, 1) = %v, %t", order, ok)
	}
}

// P10.1: which relations there are, and that each has its pairs and no others.
func TestNew(t *testing.T) {
	for n := range 65 {
		holds(t, "New", made(t, n, nil), empty(n))
		holds(t, "New", made(t, n, [][2]int{}), empty(n))
	}
	for n := 1; n <= 64; n++ {
		for _, p := range [][2]int{{0, 0}, {0, n - 1}, {n - 1, 0}, {n - 1, n - 1}, {n / 2, n / 3}} {
			holds(t, "New", made(t, n, [][2]int{p}), matrixOf(n, [][2]int{p}))
			holds(t, "New", made(t, n, [][2]int{p, p, {0, n / 2}, p}), matrixOf(n, [][2]int{p, {0, n / 2}}))
		}
	}
}

// P10.1: numbers of elements of which there is no relation.
func TestNewCount(t *testing.T) {
	for _, n := range outside {
		if n == 64 {
			continue
		}
		for _, l := range [][][2]int{nil, {}, {{0, 0}}, {{0, 1}, {1, 0}}, {{n, n}}} {
			if r, ok := New(n, l); r != nil || ok {
				t.Errorf("New(%d, %v) = %v, %t, want none", n, l, r, ok)
			}
		}
	}
}

// P10.1: numbers in pairs that are no elements, on both sides and at each place.
func TestNewPairs(t *testing.T) {
	for n := range 65 {
		var good [][2]int
		for a := range n {
			good = append(good, [2]int{a, n - 1 - a})
		}
		for _, w := range append([]int{n, n + 1, n + 64}, outside...) {
			if 0 <= w && w < n {
				continue
			}
			for _, wrong := range [][2]int{{w, 0}, {0, w}, {w, n - 1}, {n - 1, w}, {w, w}} {
				for _, at := range []int{0, n / 2, n} {
					l := slices.Insert(slices.Clone(good), at, wrong)
					if r, ok := New(n, l); r != nil || ok {
						t.Fatalf("New(%d, %v) = %v, %t, want none", n, l, r, ok)
					}
				}
			}
		}
	}
}

// P10.1: no pair has a number that is no element, also in a closure.
func TestHasOutside(t *testing.T) {
	for n := range 65 {
		full := empty(n)
		for a := range n {
			for b := range n {
				full[a][b] = true
			}
		}
		r := made(t, n, full.pairs())
		holds(t, "New", r, full)
		for _, each := range []*Rel{r, r.Close(), made(t, n, nil).Close()} {
			for _, w := range append([]int{n, n + 1, 63}, outside...) {
				if 0 <= w && w < n {
					continue
				}
				for _, a := range []int{0, 1, n - 1, n, w} {
					if each.Has(a, w) || each.Has(w, a) {
						t.Fatalf("of %d elements: Has of %d and %d", n, a, w)
					}
				}
			}
		}
	}
}

// P10.2: closures, loops and orders by hand.
func TestByHand(t *testing.T) {
	cases := []struct {
		n     int
		pairs [][2]int
		// added are the pairs of the closure beside those given and (a, a).
		added [][2]int
		loop  int
		order []int
	}{
		{0, nil, nil, -1, nil},
		{1, nil, nil, -1, []int{0}},
		// An element's pair with itself is no loop.
		{1, [][2]int{{0, 0}}, nil, -1, []int{0}},
		{3, [][2]int{{1, 1}, {2, 2}, {2, 0}}, nil, -1, []int{1, 2, 0}},
		{2, [][2]int{{0, 1}}, nil, -1, []int{0, 1}},
		{2, [][2]int{{1, 0}}, nil, -1, []int{1, 0}},
		{2, [][2]int{{0, 1}, {1, 0}}, nil, 0, nil},
		{3, [][2]int{{0, 2}, {2, 1}}, [][2]int{{0, 1}}, -1, []int{0, 2, 1}},
		{3, [][2]int{{1, 2}, {2, 1}}, nil, 1, nil},
		// The least element of the loop, and not one that leads to it or to
		// which it leads.
		{5, [][2]int{{0, 2}, {2, 3}, {3, 4}, {4, 2}, {4, 1}}, [][2]int{{0, 3}, {0, 4}, {0, 1}, {2, 4}, {2, 1}, {3, 2}, {3, 1}, {4, 3}}, 2, nil},
		// Two loops, the one with the greater element first.
		{4, [][2]int{{3, 2}, {2, 3}, {1, 0}, {0, 1}}, nil, 0, nil},
		{5, [][2]int{{4, 3}, {3, 4}, {1, 2}, {2, 1}}, nil, 1, nil},
		// The least of those that may come next is not the one that became free
		// last.
		{4, [][2]int{{3, 0}}, nil, -1, []int{1, 2, 3, 0}},
		{5, [][2]int{{2, 0}, {3, 1}}, nil, -1, []int{2, 0, 3, 1, 4}},
		{5, [][2]int{{4, 0}, {0, 3}, {1, 3}}, [][2]int{{4, 3}}, -1, []int{1, 2, 4, 0, 3}},
		// It waits for all that lead to it, not just for one.
		{4, [][2]int{{1, 0}, {3, 0}}, nil, -1, []int{1, 2, 3, 0}},
	}
	for _, c := range cases {
		r := made(t, c.n, c.pairs)
		m := matrixOf(c.n, append(slices.Clone(c.pairs), c.added...))
		for a := range m {
			m[a][a] = true
		}
		holds(t, "Close", r.Close(), m)
		if loop, ok := r.Loop(); ok != (c.loop >= 0) || loop != max(c.loop, 0) {
			t.Errorf("Loop of %v = %d, %t, want %d", c.pairs, loop, ok, c.loop)
		}
		if order, ok := r.Order(); ok != (c.loop < 0) || !slices.Equal(order, c.order) {
			t.Errorf("Order of %v = %v, %t, want %v", c.pairs, order, ok, c.order)
		}
	}
}

// P10.1, P10.2, P10.3: all relations on up to four elements.
func TestEveryRelation(t *testing.T) {
	for n := range 5 {
		all := permutations(n)
		matrices(n, func(m matrix) { check(t, m, m.order(all)) })
	}
}

// P10.1, P10.2, P10.3: chains through all elements of a relation, from the first
// to the last, back, and in jumps, and the loops that one more pair makes.
func TestChains(t *testing.T) {
	for _, n := range []int{2, 3, 31, 32, 33, 62, 63, 64} {
		for _, step := range []int{1, n - 1, n/2 + 1 + n/2%2, 37} {
			m := empty(n)
			at := 0
			var chain []int
			for !slices.Contains(chain, at) {
				if len(chain) > 0 {
					m[chain[len(chain)-1]][at] = true
				}
				chain = append(chain, at)
				at = (at + step) % n
			}
			check(t, m, m.chosen())
			for _, back := range []int{0, len(chain) / 2, len(chain) - 1} {
				closed := matrixOf(n, m.pairs())
				closed[chain[len(chain)-1]][chain[back]] = true
				check(t, closed, closed.chosen())
			}
		}
	}
}

// P10.1, P10.2, P10.3: relations on many elements, thin and dense, with loops
// and without.
func TestMany(t *testing.T) {
	source := rand.New(rand.NewSource(10))
	for range 1200 {
		n := 1 + source.Intn(64)
		ranks := source.Perm(n)
		m := empty(n)
		for range source.Intn(3*n + 1) {
			a, b := source.Intn(n), source.Intn(n)
			if ranks[a] > ranks[b] {
				a, b = b, a
			}
			m[a][b] = true
		}
		check(t, m, m.chosen())
		for range 1 + source.Intn(3) {
			m[source.Intn(n)][source.Intn(n)] = true
		}
		check(t, m, m.chosen())
	}
}

// P10.3: the closure of a closure is the same, and no pair leads from a later
// element of an order to an earlier one, told by the package alone.
func TestProperties(t *testing.T) {
	source := rand.New(rand.NewSource(103))
	for range 1000 {
		n := source.Intn(65)
		var l [][2]int
		for range source.Intn(n + 1) {
			l = append(l, [2]int{source.Intn(n), source.Intn(n)})
		}
		r := made(t, n, l)
		once := r.Close()
		if twice := once.Close(); *twice != *once {
			t.Fatalf("the closure of %v has another closure", l)
		}
		order, ok := r.Order()
		if _, loop := r.Loop(); loop == ok {
			t.Fatalf("of %v: a loop %t, an order %t", l, loop, ok)
		}
		for i, later := range order {
			for _, earlier := range order[:i] {
				if r.Has(later, earlier) || once.Has(later, earlier) {
					t.Fatalf("in the order %v of %v, %d leads to %d", order, l, later, earlier)
				}
			}
		}
		if sorted := slices.Sorted(slices.Values(order)); ok && (len(sorted) != n || len(slices.Compact(sorted)) != n) {
			t.Fatalf("the order %v of %v does not list all elements", order, l)
		}
	}
}

// P10.1, P10.2, R5: a nil relation, one that New did not make, and one of no
// elements.
func TestEmpty(t *testing.T) {
	for i, r := range []*Rel{nil, {}, made(t, 0, nil)} {
		if r.Len() != 0 {
			t.Errorf("relation %d: %d elements", i, r.Len())
		}
		for _, a := range append([]int{0, 1, 63}, outside...) {
			if r.Has(a, a) || r.Has(0, a) || r.Has(a, 0) {
				t.Errorf("relation %d: a pair with %d", i, a)
			}
		}
		if loop, ok := r.Loop(); loop != 0 || ok {
			t.Errorf("relation %d: Loop = %d, %t", i, loop, ok)
		}
		if order, ok := r.Order(); len(order) != 0 || !ok {
			t.Errorf("relation %d: Order = %v, %t", i, order, ok)
		}
		if c := r.Close(); (c == nil) != (r == nil) || c.Len() != 0 || c.Has(0, 0) {
			t.Errorf("relation %d: Close = %v", i, c)
		}
	}
}

// R3: New changes no argument, also beyond its length, and nothing that a
// relation answers shares memory with it, its argument or another answer.
func TestMemory(t *testing.T) {
	given := [][2]int{{0, 2}, {2, 1}, {1, 0}, {5, 5}}
	before := slices.Clone(given)
	r := made(t, 3, given[:2])
	if !slices.Equal(given, before) {
		t.Errorf("the argument became %v", given)
	}
	clear(given)
	want := matrixOf(3, before[:2])
	closure := r.Close()
	copied := *closure
	order, _ := r.Order()
	clear(order)
	_ = append(order[:0], 7, 8)
	if again, ok := r.Order(); !ok || !slices.Equal(again, []int{0, 2, 1}) {
		t.Errorf("Order = %v, %t", again, ok)
	}
	holds(t, "New", r, want)
	*closure.Close() = Rel{}
	holds(t, "Close", closure, want.closure())
	*closure = Rel{}
	holds(t, "New", r, want)
	holds(t, "a copy", &copied, want.closure())
	*r = Rel{}
	holds(t, "a copy", &copied, want.closure())
}
