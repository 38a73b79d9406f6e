package resolve

import (
	"math"
	"math/rand"
	"reflect"
	"slices"
	"strings"
	"testing"

	"blindfold/api"
	"blindfold/kinds"
	"blindfold/lattice"
)

// The model: the chapter's definitions, written without the package's functions.

// listing is all types in a schema in order, Refs included.
type listing struct {
	s     api.Schema
	types []api.Type
	// kids are the places in types of what each type contains, -1 for a Bare part.
	kids [][]int
	// firsts are the places of the named types and of the root.
	firsts []int
}

func list(s api.Schema) *listing {
	l := &listing{s: s}
	for _, t := range wholes(s) {
		l.firsts = append(l.firsts, l.add(t))
	}
	return l
}

// wholes is the types of the named types, and the root.
func wholes(s api.Schema) []api.Type {
	var l []api.Type
	for _, n := range s.Types {
		l = append(l, n.Type)
	}
	return append(l, s.Root)
}

func (l *listing) add(t api.Type) int {
	place := len(l.types)
	l.types = append(l.types, t)
	l.kids = append(l.kids, nil)
	for _, p := range t.Parts {
		kid := -1
		if !p.Bare {
			kid = l.add(p.Type)
		}
		l.kids[place] = append(l.kids[place], kid)
	}
	return place
}

// named is the place of the type with a name, or -1.
func (l *listing) named(name string) int {
	for i, n := range l.s.Types {
		if n.Name.Name == name {
			return l.firsts[i]
		}
	}
	return -1
}

// node is the node of the type at a place, or -1 if Refs lead on forever.
func (l *listing) node(place int) int {
	for range 100 {
		if l.types[place].Kind != api.Ref {
			before := 0
			for _, t := range l.types[:place] {
				if t.Kind != api.Ref {
					before++
				}
			}
			return before
		}
		place = l.named(l.types[place].Name.Name)
	}
	return -1
}

// nodes is all nodes; the lattice is that of the schema's levels.
func (l *listing) nodes(levels *lattice.Lattice) []Node {
	var all []Node
	for place, t := range l.types {
		if t.Kind == api.Ref {
			continue
		}
		n := Node{Kind: t.Kind, At: t.At, Lo: t.Lo, Hi: t.Hi, Most: t.Most}
		for _, w := range t.Names {
			n.Names = append(n.Names, w.Name)
		}
		for i, p := range t.Parts {
			e := Edge{Name: p.Name.Name, At: p.Name.At, Bare: p.Bare, To: -1, Wide: p.Wide}
			if p.Wide == 0 {
				e.Wide = 3
			}
			if !p.Bare {
				e.To = l.node(l.kids[place][i])
			}
			e.Label, e.Seen = denoted(levels, p.Label), denoted(levels, p.Coarse.Label)
			e.Coarse, e.N, e.CoarseAt = p.Coarse.Kind, p.Coarse.N, p.Coarse.At
			n.Edges = append(n.Edges, e)
		}
		all = append(all, n)
	}
	return all
}

// denoted is the least of the levels that all words are at most.
func denoted(l *lattice.Lattice, words []api.Word) int {
	above := func(a int) bool {
		return !slices.ContainsFunc(words, func(w api.Word) bool {
			b, _ := l.Find(w.Name)
			return !l.Leq(b, a)
		})
	}
	for a := range l.Len() {
		least := above(a)
		for b := range l.Len() {
			least = least && (!above(b) || l.Leq(a, b))
		}
		if least {
			return a
		}
	}
	return -1
}

// faults collects the faults of a schema in the order of the chapter.
type faults struct{ list []api.Fault }

func (f *faults) add(wrong bool, e api.Errno, at int) {
	if wrong {
		f.list = append(f.list, api.Fault{E: e, At: at})
	}
}

// first is the fault that Build must return.
func first(s api.Schema) api.Fault {
	f := &faults{}
	_, fault := lattice.Build(s.Levels, s.Order)
	f.add(fault.E != 0, fault.E, fault.At)
	// Behind a fault of one of these, the others may mean nothing.
	for _, collect := range []func(api.Schema){f.names, f.kinds, f.words, f.loops} {
		if len(f.list) > 0 {
			return f.list[0]
		}
		collect(s)
	}
	return append(f.list, api.Fault{})[0]
}

func (f *faults) names(s api.Schema) {
	if len(s.Types) >= 65 {
		f.add(true, api.ErrMany, s.Types[64].Name.At)
	}
	seen := map[string]bool{}
	for _, n := range s.Types {
		f.add(!nameText(n.Name.Name), api.ErrName, n.Name.At)
		f.add(seen[n.Name.Name], api.ErrTwice, n.Name.At)
		seen[n.Name.Name] = true
	}
}

func nameText(s string) bool {
	if len(s) < 1 || len(s) > 32 || s[0] < 'a' || s[0] > 'z' {
		return false
	}
	return strings.Trim(s, "abcdefghijklmnopqrstuvwxyz0123456789_") == ""
}

func (f *faults) kinds(s api.Schema) {
	total := 0
	for _, t := range wholes(s) {
		fault := kinds.Right(t)
		f.add(fault.E != 0, fault.E, fault.At)
		total += kinds.Count(t)
		f.add(total > 512, api.ErrMany, t.At)
	}
}

func (f *faults) words(s api.Schema) {
	l := list(s)
	for _, t := range l.types {
		f.add(t.Kind == api.Ref && l.named(t.Name.Name) < 0, api.ErrMissing, t.Name.At)
		for _, p := range t.Parts {
			for _, w := range slices.Concat(p.Label, p.Coarse.Label) {
				isLevel := slices.ContainsFunc(s.Levels, func(l api.Word) bool { return l.Name == w.Name })
				f.add(!isLevel, api.ErrLevel, w.At)
			}
		}
	}
}

func (f *faults) loops(s api.Schema) {
	l := list(s)
	for i, n := range s.Types {
		f.add(l.node(l.firsts[i]) < 0, api.ErrLoop, n.Name.At)
	}
}

// compare holds Build and all methods of what it returns against the model, and
// returns the plan and the fault.
func compare(t *testing.T, s api.Schema) (*Plan, api.Fault) {
	t.Helper()
	want := first(s)
	p, f := Build(s)
	if f != want {
		t.Fatalf("%+v: the fault is %v, want %v", s, f, want)
	}
	if f.E != 0 {
		if p != nil {
			t.Fatalf("%+v: a plan with the fault %v", s, f)
		}
		return nil, f
	}
	if p == nil {
		t.Fatalf("%+v: no plan", s)
	}
	levels, _ := lattice.Build(s.Levels, s.Order)
	if !reflect.DeepEqual(p.Lattice(), levels) {
		t.Fatalf("%+v: another lattice: %q", s, p.Lattice().Names())
	}
	l := list(s)
	compareNodes(t, p, l.nodes(levels))
	if got, want := p.Root(), l.node(l.firsts[len(s.Types)]); got != want {
		t.Fatalf("%+v: Root = %d, want %d", s, got, want)
	}
	for i, n := range s.Types {
		if got, ok := p.Find(n.Name.Name); got != l.node(l.firsts[i]) || !ok {
			t.Fatalf("%+v: Find(%q) = %d, %v", s, n.Name.Name, got, ok)
		}
	}
	for _, name := range []string{"", "A", "nosuch", "a b", "bool", "lo", "\xff", strings.Repeat("n", 33)} {
		if l.named(name) >= 0 {
			continue
		}
		if got, ok := p.Find(name); got != 0 || ok {
			t.Fatalf("%+v: Find(%q) = %d, %v", s, name, got, ok)
		}
	}
	return p, f
}

// compareNodes asks that these are all nodes, and that their edges lead to nodes.
func compareNodes(t *testing.T, p *Plan, want []Node) {
	t.Helper()
	if p.Len() != len(want) {
		t.Fatalf("%d nodes, want %d", p.Len(), len(want))
	}
	for i, n := range want {
		got, ok := p.Node(i)
		if !reflect.DeepEqual(plain(got), plain(n)) || !reflect.DeepEqual(positions(got), positions(n)) || !ok {
			t.Fatalf("node %d is\n%+v, %v, want\n%+v", i, got, ok, n)
		}
		for _, e := range got.Edges {
			if e.Bare != (e.To == -1) || e.To < -1 || e.To >= p.Len() {
				t.Fatalf("node %d: an edge leads to %d", i, e.To)
			}
		}
	}
	for _, i := range []int{-1, -2, len(want), len(want) + 1, math.MinInt, math.MaxInt} {
		if got, ok := p.Node(i); !reflect.DeepEqual(got, Node{}) || ok {
			t.Fatalf("node %d is %+v, %v", i, got, ok)
		}
	}
}

// everywhere applies do to what v points to and to all that it contains, each with
// the name of the field in which it stands.
func everywhere[T any](v *T, do func(x reflect.Value, field string)) {
	walk(reflect.ValueOf(v).Elem(), "", do)
}

func walk(v reflect.Value, field string, do func(v reflect.Value, field string)) {
	do(v, field)
	switch v.Kind() {
	case reflect.Struct:
		for i := range v.NumField() {
			walk(v.Field(i), v.Type().Field(i).Name, do)
		}
	case reflect.Slice:
		for i := range v.Len() {
			walk(v.Index(i), "", do)
		}
	}
}

// duplicate returns a copy of v that shares nothing with it.
func duplicate[T any](v T) T {
	everywhere(&v, func(x reflect.Value, _ string) {
		if x.Kind() == reflect.Slice && !x.IsNil() {
			fresh := reflect.MakeSlice(x.Type(), x.Len(), x.Len())
			reflect.Copy(fresh, x)
			x.Set(fresh)
		}
	})
	return v
}

func isPosition(field string) bool { return field == "At" || field == "CoarseAt" }

// plain returns a copy of v with all positions 0 and all empty slices nil.
func plain[T any](v T) T {
	c := duplicate(v)
	everywhere(&c, func(x reflect.Value, field string) {
		switch {
		case isPosition(field):
			x.SetInt(0)
		case x.Kind() == reflect.Slice && x.Len() == 0:
			x.SetZero()
		}
	})
	return c
}

// positions is all positions in v.
func positions[T any](v T) []int {
	var l []int
	everywhere(&v, func(x reflect.Value, field string) {
		if isPosition(field) {
			l = append(l, int(x.Int()))
		}
	})
	return l
}

// placed returns a copy of v with positions that all differ, none of which is 0.
func placed[T any](v T) T {
	v = duplicate(v)
	at := 0
	everywhere(&v, func(x reflect.Value, field string) {
		if isPosition(field) {
			at += 3
			x.SetInt(int64(at))
		}
	})
	return v
}

// generator makes random schemas.
type generator struct{ *rand.Rand }

func (g generator) pick(list ...int) int { return list[g.Intn(len(list))] }

// some returns n different ones of the names.
func (g generator) some(n int, list []string) []api.Word {
	var words []api.Word
	for _, i := range g.Perm(len(list))[:min(n, len(list))] {
		words = append(words, api.Word{Name: list[i]})
	}
	return words
}

// schema makes a schema whose only possible fault is an ErrLoop.
func (g generator) schema() api.Schema {
	s := api.Schema{}
	s.Levels, s.Order = g.levels()
	// Levels, types and parts may have the same names.
	types := g.some(g.Intn(6), strings.Fields("t u v lo a b type n_1"))
	m := maker{g, texts(s.Levels), texts(types)}
	for _, w := range types {
		s.Types = append(s.Types, api.Named{Name: w, Type: m.anyType(g.Intn(4))})
	}
	s.Root = m.anyType(g.Intn(4))
	return placed(s)
}

// levels makes a chain, or a diamond with a chain above it, with the levels in any
// order.
func (g generator) levels() ([]api.Word, []api.Pair) {
	list := g.some(1+g.Intn(6), strings.Fields("lo hi a b c d"))
	order := [][2]int{}
	for i := 1; i < len(list); i++ {
		order = append(order, [2]int{i - 1, i})
	}
	if len(list) > 3 && g.Intn(2) == 0 {
		order = append([][2]int{{0, 1}, {0, 2}, {1, 3}, {2, 3}}, order[3:]...)
	}
	var pairs []api.Pair
	for _, p := range order {
		pairs = append(pairs, api.Pair{Lo: list[p[0]], Hi: list[p[1]]})
	}
	g.Shuffle(len(list), func(i, j int) { list[i], list[j] = list[j], list[i] })
	g.Shuffle(len(pairs), func(i, j int) { pairs[i], pairs[j] = pairs[j], pairs[i] })
	return list, pairs
}

// maker makes types with these levels and types.
type maker struct {
	generator
	levels, types []string
}

// anyType makes a type that contains others depth times.
func (m maker) anyType(depth int) api.Type {
	t := api.Type{Kind: 1 + m.Intn(9)}
	if depth == 0 {
		t.Kind = m.pick(api.Bool, api.Int, api.Text, api.Enum, api.Ref)
	}
	if t.Kind == api.Ref && len(m.types) == 0 {
		t.Kind = api.Bool
	}
	switch t.Kind {
	case api.Int:
		t.Lo = m.pick(math.MinInt, -40, 0, 7)
		t.Hi = t.Lo + m.pick(0, 1, 9)
	case api.Text:
		t.Most = m.pick(0, 20, 4096)
	case api.Enum:
		t.Names = m.some(1+m.Intn(4), strings.Fields("x y z lo t"))
	case api.List:
		t.Most = m.pick(0, 20, 1024)
		t.Parts = []api.Part{{Type: m.anyType(depth - 1)}}
	case api.Opt:
		t.Parts = []api.Part{{Type: m.anyType(depth - 1)}}
	case api.Record, api.Union:
		for _, w := range m.some(m.Intn(4)+t.Kind-api.Record, strings.Fields("f g h lo t")) {
			t.Parts = append(t.Parts, m.part(w, t.Kind, depth-1))
		}
	case api.Ref:
		t.Name = m.some(1, m.types)[0]
	}
	return t
}

func (m maker) part(name api.Word, kind, depth int) api.Part {
	if kind == api.Union && m.Intn(3) == 0 {
		return api.Part{Name: name, Bare: true}
	}
	p := api.Part{Name: name, Type: m.anyType(depth), Label: m.label(), Wide: m.pick(0, 0, 1, 3, 64)}
	p.Coarse.Kind = m.pick(0, api.Floor, api.First, api.Count)
	switch p.Coarse.Kind {
	case api.Floor:
		p.Coarse.N = m.pick(1, 1000, math.MaxInt)
	case api.First:
		p.Coarse.N = m.pick(0, 1, 4096)
	}
	if p.Coarse.Kind > 0 {
		p.Coarse.Label = m.label()
	}
	return p
}

func (m maker) label() []api.Word {
	var words []api.Word
	for range m.pick(0, 0, 1, 1, 2, 3) {
		words = append(words, m.some(1, m.levels)...)
	}
	return words
}

// spoil changes one thing somewhere in v.
func spoil[T any](g generator, v *T) {
	count := 0
	everywhere(v, func(reflect.Value, string) { count++ })
	n := g.Intn(count)
	everywhere(v, func(x reflect.Value, _ string) {
		if n--; n == -1 {
			change(g, x)
		}
	})
}

func change(g generator, x reflect.Value) {
	switch x.Kind() {
	case reflect.Int:
		x.SetInt(int64(g.pick(math.MinInt, -1, 0, 1, 2, 3, 9, 10, 64, 65, 1025, 4097, math.MaxInt)))
	case reflect.Bool:
		x.SetBool(!x.Bool())
	case reflect.String:
		x.SetString([]string{"", "lo", "a", "b", "t", "u", "A", "a b", strings.Repeat("n", 33)}[g.Intn(9)])
	case reflect.Slice:
		if g.Intn(2) == 0 {
			x.SetZero()
		} else {
			x.Set(reflect.Append(x, reflect.Zero(x.Type().Elem())))
		}
	}
}
