package resolve

import (
	"fmt"
	"math"
	"math/rand"
	"reflect"
	"slices"
	"strings"
	"testing"

	"blindfold/api"
	"blindfold/lattice"
	"blindfold/syntax"
	"blindfold/unparse"
)

// Short forms of schemas.

func word(name string) api.Word { return api.Word{Name: name} }

func boolean() api.Type            { return api.Type{Kind: api.Bool} }
func ref(name string) api.Type     { return api.Type{Kind: api.Ref, Name: word(name)} }
func opt(t api.Type) api.Type      { return api.Type{Kind: api.Opt, Parts: []api.Part{{Type: t}}} }
func empty() api.Type              { return api.Type{Kind: api.Int, Lo: 1} }
func union(p ...api.Part) api.Type { return api.Type{Kind: api.Union, Parts: p} }

// fields is a record of n fields of this type, and has n + 1 types if that has
// one.
func fields(n int, t api.Type) api.Type {
	r := api.Type{Kind: api.Record}
	for i := range n {
		r.Parts = append(r.Parts, api.Part{Name: word(fmt.Sprint("f", i)), Type: t})
	}
	return r
}

// schema has one level, types named t0, t1, .., and positions that all differ.
func schema(root api.Type, types ...api.Type) api.Schema {
	s := api.Schema{Levels: []api.Word{word("a")}, Root: root}
	for i, t := range types {
		s.Types = append(s.Types, api.Named{Name: word(fmt.Sprint("t", i)), Type: t})
	}
	return placed(s)
}

// parse is the schema with the text, from which the mark ^ is removed, and the
// place of that mark.
func parse(t *testing.T, text string) (api.Schema, int) {
	t.Helper()
	before, after, _ := strings.Cut(text, "^")
	s, f := syntax.Parse(before + after)
	if f.E != 0 {
		t.Fatalf("%q: %v", text, f)
	}
	return s, len(before)
}

// build is the plan of the schema with the text.
func build(t *testing.T, text string) *Plan {
	t.Helper()
	s, _ := parse(t, text)
	p, f := compare(t, s)
	if f.E != 0 {
		t.Fatalf("%q: %v", text, f)
	}
	return p
}

// fails asks for a fault of s.
func fails(t *testing.T, what string, s api.Schema, e api.Errno, at int) {
	t.Helper()
	if _, f := compare(t, s); f != (api.Fault{E: e, At: at}) {
		t.Errorf("%s: %v, want %v at %d", what, f, e, at)
	}
}

// builds asks for n nodes and no fault.
func builds(t *testing.T, what string, s api.Schema, n int) {
	t.Helper()
	if p, f := compare(t, s); f.E != 0 || p.Len() != n {
		t.Errorf("%s: %d nodes, %v", what, p.Len(), f)
	}
}

// shape is the nodes of a plan, each with its kind and where its edges lead.
func shape(p *Plan) string {
	var l []string
	for i := range p.Len() {
		n, _ := p.Node(i)
		var to []int
		for _, e := range n.Edges {
			to = append(to, e.To)
		}
		l = append(l, fmt.Sprintf("%d%v", n.Kind, to))
	}
	return strings.Join(l, " ")
}

// The chapter's example: a type t that is an Opt of t.
func TestExample(t *testing.T) {
	p := build(t, "levels {a} type t = opt(ref(t)) root ref(t)")
	n, ok := p.Node(0)
	if !ok || p.Len() != 1 || p.Root() != 0 || n.Kind != api.Opt || len(n.Edges) != 1 || n.Edges[0].To != 0 {
		t.Errorf("node 0 of %d is %+v", p.Len(), n)
	}
	if i, ok := p.Find("t"); i != 0 || !ok {
		t.Errorf("Find = %d, %v", i, ok)
	}
}

// P18.2: the types in order are numbered without Refs, and Refs lead to the nodes
// of their types.
func TestNumbers(t *testing.T) {
	cases := []struct {
		text, shape string
		root        int
		named       []int
	}{
		{"root bool", "1[]", 0, nil},
		{"type t0 = bool root int(0..1)", "1[] 2[]", 1, []int{0}},
		{"type t0 = bool root ref(t0)", "1[]", 0, []int{0}},
		{"type t0 = ref(t1) type t1 = bool root text(1)", "1[] 3[]", 1, []int{0, 0}},
		{"type t0 = ref(t2) type t1 = ref(t0) type t2 = enum(x) root ref(t1)", "4[]", 0, []int{0, 0, 0}},
		{"type t0 = bool type t1 = text(1) type t2 = ref(t1) root opt(ref(t2))", "1[] 3[] 6[1]", 2, []int{0, 1, 1}},
		// A type may be named before the type to which it leads.
		{"type t0 = opt(ref(t1)) type t1 = list(ref(t0), 3) root ref(t1)", "6[1] 5[0]", 1, []int{0, 1}},
		{"type t0 = opt(ref(t1)) type t1 = opt(opt(bool)) root bool", "6[1] 6[2] 6[3] 1[] 1[]", 4, []int{0, 1}},
		// Each type comes before those in it, and these part by part.
		{"root record{a: opt(bool), b: list(text(1), 2), c: int(0..0)}", "7[1 3 5] 6[2] 1[] 5[4] 3[] 2[]", 0, nil},
		{"root record{a: record{b: record{c: bool}, d: bool}, e: bool}", "7[1 5] 7[2 4] 7[3] 1[] 1[] 1[]", 0, nil},
		{"root union{p, a(bool), q, b(union{r}), s}", "8[-1 1 -1 2 -1] 1[] 8[-1]", 0, nil},
		{"root record{}", "7[]", 0, nil},
		// The node of the root is not always the last one, nor a new one.
		{"type t0 = record{a: ref(t1), b: bool, c: ref(t0)} type t1 = union{p, q(ref(t1))} root opt(ref(t1))", "7[2 1 0] 1[] 8[-1 2] 6[2]", 3, []int{0, 2}},
		{"type t0 = bool type t1 = record{a: ref(t0), b: opt(ref(t1))} type t2 = ref(t1) root ref(t2)", "1[] 7[0 2] 6[1]", 1, []int{0, 1, 1}},
		// A name of a type is not that of a level, nor of a field.
		{"type a = opt(ref(a)) root record{a: ref(a) @a}", "6[0] 7[0]", 1, nil},
	}
	for _, c := range cases {
		p := build(t, "levels {a} "+c.text)
		if shape(p) != c.shape || p.Root() != c.root {
			t.Errorf("%s: %s, root %d", c.text, shape(p), p.Root())
		}
		for i, want := range c.named {
			if got, ok := p.Find(fmt.Sprint("t", i)); got != want || !ok {
				t.Errorf("%s: t%d is %d, %v, want %d", c.text, i, got, ok, want)
			}
		}
		if got, ok := p.Find(fmt.Sprint("t", len(c.named))); got != 0 || ok {
			t.Errorf("%s: one type too many: %d, %v", c.text, got, ok)
		}
	}
}

// full has each kind of type and everything that a part may have, and a bottom
// that is not the first level.
const full = `levels {hi, b, lo, a} order {lo < a < hi, lo < b < hi}
type t = enum(x, y)
root record{
 n: int(-1..5) @b+a #4 ~floor(2) @a,
 s: text(9) ~first(3),
 l: list(ref(t), 7) @a+lo ~count @lo+a,
 u: union{p, q(bool) #64} @lo,
 o: opt(record{}) @hi #3
}`

// P18.2: all that a node and an edge have.
func TestNodes(t *testing.T) {
	p := build(t, full)
	at := func(text string) int { return strings.Index(full, text) }
	const hi, lo, a = 0, 2, 3
	want := []Node{
		{Kind: api.Enum, At: at("enum"), Names: []string{"x", "y"}},
		{Kind: api.Record, At: at("record{\n"), Edges: []Edge{
			{Name: "n", At: at("n: "), To: 2, Label: hi, Wide: 4, Coarse: api.Floor, N: 2, Seen: a, CoarseAt: at("floor")},
			{Name: "s", At: at("s: text"), To: 3, Label: lo, Wide: 3, Coarse: api.First, N: 3, Seen: lo, CoarseAt: at("first")},
			{Name: "l", At: at("l: list"), To: 4, Label: a, Wide: 3, Coarse: api.Count, Seen: a, CoarseAt: at("count")},
			{Name: "u", At: at("u: union"), To: 5, Label: lo, Wide: 3, Seen: lo},
			{Name: "o", At: at("o: opt"), To: 7, Label: hi, Wide: 3, Seen: lo},
		}},
		{Kind: api.Int, At: at("int"), Lo: -1, Hi: 5},
		{Kind: api.Text, At: at("text"), Most: 9},
		{Kind: api.List, At: at("list"), Most: 7, Edges: []Edge{{To: 0, Label: lo, Wide: 3, Seen: lo}}},
		{Kind: api.Union, At: at("union"), Edges: []Edge{
			{Name: "p", At: at("p, "), Bare: true, To: -1, Label: lo, Wide: 3, Seen: lo},
			{Name: "q", At: at("q(bool"), To: 6, Label: lo, Wide: 64, Seen: lo},
		}},
		{Kind: api.Bool, At: at("bool")},
		{Kind: api.Opt, At: at("opt"), Edges: []Edge{{To: 8, Label: lo, Wide: 3, Seen: lo}}},
		{Kind: api.Record, At: at("record{}")},
	}
	compareNodes(t, p, want)
	if p.Root() != 1 {
		t.Errorf("Root = %d", p.Root())
	}
	if got := p.Lattice().Names(); !slices.Equal(got, []string{"hi", "b", "lo", "a"}) || p.Lattice().Bottom() != lo {
		t.Errorf("the levels are %q", got)
	}
}

// P18.2: a part that syntax does not make so has the position of its Name, and
// that of its Coarse, all the same.
func TestPositionsByHand(t *testing.T) {
	s := schema(boolean(), opt(boolean()), union(api.Part{Name: word("p"), Bare: true}))
	s.Types[0].Type.Parts[0].Name.At = 500
	s.Types[0].Type.Parts[0].Coarse.At = 600
	s.Types[1].Type.At = 700
	s.Types[1].Type.Parts[0].Name.At = -800
	s.Types[1].Type.Parts[0].Coarse.At = math.MinInt
	s.Types[1].Type.Parts[0].Type.At = 900
	p, f := compare(t, s)
	if f.E != 0 {
		t.Fatal(f)
	}
	first, _ := p.Node(0)
	third, _ := p.Node(2)
	if e := first.Edges[0]; e.At != 500 || e.CoarseAt != 600 {
		t.Errorf("the edge is %+v", e)
	}
	if e := third.Edges[0]; third.At != 700 || e.At != -800 || e.CoarseAt != math.MinInt {
		t.Errorf("the node is %+v", third)
	}
}

// P18.1: each fault, at the mark ^, also where later ones are.
func TestFaultsByHand(t *testing.T) {
	cases := map[string]api.Errno{
		// The fault of the lattice.
		"levels {a, ^a} root bool":                                           api.ErrTwice,
		"levels {a, b} order {a < ^x} root bool":                             api.ErrLevel,
		"levels {c, ^a, b} order {a < b < a} root bool":                      api.ErrLoop,
		"levels {a, ^b} type t = int(1..0) type t = ref(x) root opt(ref(y))": api.ErrBound,

		// Names of types.
		"levels {a} type t = bool type ^t = bool root bool":                              api.ErrTwice,
		"levels {a} type t = bool type u = bool type ^u = bool type t = bool root bool":  api.ErrTwice,
		"levels {a} type t = int(1..0) type u = ref(x) type ^t = ref(t) root enum(x, x)": api.ErrTwice,

		// Types by themselves, in order, and the root last.
		"levels {a} root ^int(1..0)":                                            api.ErrRange,
		"levels {a} root opt(enum(x, ^x))":                                      api.ErrTwice,
		"levels {a} type t = record{a: ^text(4097)} root bool":                  api.ErrRange,
		"levels {a} type t = ^int(1..0) type u = enum(x, x) root text(-1)":      api.ErrRange,
		"levels {a} type t = bool type u = enum(x, ^x) root int(1..0)":          api.ErrTwice,
		"levels {a} type t = ref(x) type u = ref(u) root ^int(1..0)":            api.ErrRange,
		"levels {a} type t = record{a: bool @z} root record{a: bool, ^a: bool}": api.ErrTwice,
		"levels {a} root record{^a: bool #65}":                                  api.ErrRange,

		// Names of types that do not exist.
		"levels {a} root ref(^t)":                                          api.ErrMissing,
		"levels {a} root ref(^a)":                                          api.ErrMissing,
		"levels {a} type t = ref(^u) root bool":                            api.ErrMissing,
		"levels {a} type t = bool root record{a: ref(t), b: opt(ref(^u))}": api.ErrMissing,
		"levels {a} type t = union{p, q(list(ref(^u), 1))} root ref(x)":    api.ErrMissing,
		"levels {a} type t = opt(ref(^x)) root record{a: bool @z}":         api.ErrMissing,
		"levels {a} type t = ref(t) type u = ref(^x) root bool":            api.ErrMissing,
		"levels {a} type t = ref(t) root record{a: ref(^x), b: ref(y)}":    api.ErrMissing,

		// Names of levels that do not exist.
		"levels {a} root record{x: bool @^z}":                               api.ErrLevel,
		"levels {a} root record{x: bool @a+^z+y}":                           api.ErrLevel,
		"levels {a} root record{x: bool ~count @a+a+^z}":                    api.ErrLevel,
		"levels {a} root union{p, q(bool) @^q}":                             api.ErrLevel,
		"levels {a} type t = bool root record{x: bool @^t}":                 api.ErrLevel,
		"levels {a} root record{x: bool @^y ~count @z}":                     api.ErrLevel,
		"levels {a} root record{x: bool ~count @^y, y: bool @z}":            api.ErrLevel,
		"levels {a} root record{x: bool @a, y: bool @^z ~count @y}":         api.ErrLevel,
		"levels {a} type t = record{x: bool @^z} root record{x: bool @y}":   api.ErrLevel,
		"levels {a} type t = bool type u = record{x: bool @^z} root ref(x)": api.ErrLevel,
		"levels {a} type t = ref(t) root opt(opt(record{x: bool @^z}))":     api.ErrLevel,

		// The parts of a type come before the types in them.
		"levels {a} root record{x: ref(x), y: bool @^z}":                       api.ErrLevel,
		"levels {a} root record{x: record{x: bool @y} @^z}":                    api.ErrLevel,
		"levels {a} root record{x: record{x: bool @y}, y: bool ~count @^z}":    api.ErrLevel,
		"levels {a} root record{x: record{x: ref(x), y: bool @^y}, y: ref(x)}": api.ErrLevel,
		"levels {a} root record{x: opt(ref(^x)), y: record{x: bool @z}}":       api.ErrMissing,

		// Refs that lead to no other type.
		"levels {a} type ^t = ref(t) root bool":                                           api.ErrLoop,
		"levels {a} type ^t = ref(t) root ref(t)":                                         api.ErrLoop,
		"levels {a} type ^t = ref(u) type u = ref(t) root bool":                           api.ErrLoop,
		"levels {a} type ^t = ref(u) type u = ref(u) root bool":                           api.ErrLoop,
		"levels {a} type ^t = ref(u) type u = ref(v) type v = ref(u) root bool":           api.ErrLoop,
		"levels {a} type t = bool type u = ref(t) type ^v = ref(v) root ref(u)":           api.ErrLoop,
		"levels {a} type t = opt(ref(v)) type ^u = ref(v) type v = ref(u) root opt(bool)": api.ErrLoop,
	}
	for text, e := range cases {
		s, at := parse(t, text)
		fails(t, text, s, e, at)
	}
}

// P18.1: types that contain themselves, but not from Ref to Ref only.
func TestNoLoops(t *testing.T) {
	for _, text := range []string{
		"type t = opt(ref(t)) root bool",
		"type t = ref(u) type u = opt(ref(t)) root ref(t)",
		"type t = ref(u) type u = ref(v) type v = record{a: ref(t), b: ref(u), c: ref(v)} root ref(t)",
		"type t = union{a(ref(t))} root list(ref(t), 0)",
	} {
		build(t, "levels {a} "+text)
	}
	// The longest way from Ref to Ref that ends, with its end first and last.
	var forth, back []api.Type
	for i := range 63 {
		forth = append(forth, ref(fmt.Sprint("t", i+1)))
		back = append(back, ref(fmt.Sprint("t", i)))
	}
	builds(t, "a way to the last", schema(ref("t0"), append(forth, boolean())...), 1)
	builds(t, "a way to the first", schema(ref("t63"), append([]api.Type{boolean()}, back...)...), 1)
	s := schema(ref("t0"), append(forth, ref("t0"))...)
	fails(t, "a long loop", s, api.ErrLoop, s.Types[0].Name.At)
	s = schema(ref("t0"), append([]api.Type{boolean(), ref("t63")}, back[1:]...)...)
	fails(t, "a long loop but for the first", s, api.ErrLoop, s.Types[1].Name.At)
}

// P18.1: what is no name of a type, one by one, ahead of all that comes later.
func TestWrongNames(t *testing.T) {
	wrong := []string{"", "A", "1", "_a", "a-", "a ", " a", "a b", "a\n", "\xff", "\u00e9", "a\u00e9", strings.Repeat("n", 33)}
	for _, name := range wrong {
		for i := range 3 {
			s := schema(ref("x"), boolean(), empty(), ref("t2"))
			s.Types[i].Name.Name = name
			fails(t, fmt.Sprintf("%q at %d", name, i), s, api.ErrName, s.Types[i].Name.At)
		}
		s := schema(boolean(), boolean(), boolean(), boolean())
		s.Types[1].Name.Name, s.Types[2].Name.Name = name, name
		fails(t, fmt.Sprintf("%q twice", name), s, api.ErrName, s.Types[1].Name.At)
		s.Types[1].Name.Name = s.Types[0].Name.Name
		fails(t, fmt.Sprintf("%q behind one that is twice", name), s, api.ErrTwice, s.Types[1].Name.At)
		s.Types[0].Name.Name = name
		fails(t, fmt.Sprintf("%q twice, and first", name), s, api.ErrName, s.Types[0].Name.At)
	}
	for _, name := range []string{"z", "a1", "a_", "a", "ref", "type", strings.Repeat("n", 32)} {
		s := schema(ref(name), boolean(), opt(boolean()))
		s.Types[1].Name.Name = name
		builds(t, name, s, 3)
	}
}

// P18.1: a Ref that is no name at all is the fault of its type, not a missing one.
func TestWrongRef(t *testing.T) {
	s := schema(opt(ref("")), boolean())
	fails(t, "a Ref without a name", s, api.ErrName, s.Root.Parts[0].Type.Name.At)
	s = schema(boolean(), ref("T"))
	fails(t, "a Ref with a wrong name", s, api.ErrName, s.Types[0].Type.Name.At)
}

// P18.1: no levels at all, and schemas without types or without anything.
func TestNothing(t *testing.T) {
	fails(t, "nothing", api.Schema{}, api.ErrMissing, 0)
	fails(t, "empty lists", api.Schema{Levels: []api.Word{}, Order: []api.Pair{}, Types: []api.Named{}}, api.ErrMissing, 0)
	fails(t, "no root", schema(api.Type{}), api.ErrType, schema(api.Type{}).Root.At)
	fails(t, "an empty type", schema(boolean(), api.Type{}), api.ErrType, schema(boolean(), api.Type{}).Types[0].Type.At)
	builds(t, "only a root", schema(boolean()), 1)
}

// P18.1: 64 types are not too many, but a 65th is, whatever the names are.
func TestManyTypes(t *testing.T) {
	types := slices.Repeat([]api.Type{boolean()}, 66)
	builds(t, "63 types", schema(boolean(), types[:63]...), 64)
	builds(t, "64 types", schema(boolean(), types[:64]...), 65)
	for _, n := range []int{65, 66} {
		s := schema(empty(), types[:n]...)
		fails(t, fmt.Sprint(n, " types"), s, api.ErrMany, s.Types[64].Name.At)
		s.Types[0].Name.Name, s.Types[1].Name.Name, s.Types[64].Name.Name = "", "t2", "A"
		fails(t, fmt.Sprint(n, " types with faults"), s, api.ErrMany, s.Types[64].Name.At)
		s.Levels = append(s.Levels, s.Levels[0])
		fails(t, fmt.Sprint(n, " types and a level that is twice"), s, api.ErrTwice, s.Levels[1].At)
	}
}

// P18.1: 512 types in all are not too many, but one more is, at the named type or
// the root with which there are too many. Refs count, named types as such do not.
func TestManyNodes(t *testing.T) {
	eight := slices.Repeat([]api.Type{fields(63, boolean())}, 8)
	s := schema(boolean(), eight[:7]...)
	builds(t, "449 types", s, 449)
	s = schema(fields(63, boolean()), eight[:7]...)
	builds(t, "512 types, with the root", s, 512)
	s = schema(fields(64, boolean()), eight[:7]...)
	fails(t, "513 types, with the root", s, api.ErrMany, s.Root.At)
	s = schema(boolean(), eight...)
	fails(t, "512 types and a root", s, api.ErrMany, s.Root.At)
	s = schema(boolean(), append(eight, boolean())...)
	fails(t, "513 types and a root", s, api.ErrMany, s.Types[8].Type.At)

	refs := slices.Repeat([]api.Type{fields(63, ref("t0"))}, 8)
	builds(t, "512 types, Refs most of them", schema(refs[0], refs[:7]...), 8)
	s = schema(ref("t0"), refs...)
	fails(t, "512 types and a Ref", s, api.ErrMany, s.Root.At)
	s = schema(boolean(), append(refs[:8:8], ref("t0"))...)
	fails(t, "512 types and a named Ref", s, api.ErrMany, s.Types[8].Type.At)

	// The kinds of a type come before their number, and this before later types.
	s = schema(empty(), append(eight[:8:8], empty())...)
	fails(t, "512 types and a faulty one", s, api.ErrRange, s.Types[8].Type.At)
	s = schema(empty(), append(eight[:8:8], boolean(), empty())...)
	fails(t, "513 types and a faulty one", s, api.ErrMany, s.Types[8].Type.At)
	s = schema(ref("x"), append(eight[:8:8], ref("x"))...)
	fails(t, "513 types and a missing one", s, api.ErrMany, s.Types[8].Type.At)
	bare := schema(boolean(), append(eight[:7:7], fields(61, boolean()), union(api.Part{Name: word("p"), Bare: true}))...)
	fields62 := schema(boolean(), append(eight[:7:7], fields(62, boolean()), union(api.Part{Name: word("p"), Bare: true}))...)
	builds(t, "512 types and a Bare part", bare, 512)
	fails(t, "513 types and a Bare part", fields62, api.ErrMany, fields62.Root.At)
}

// P18.1: a single type of 513 types is its own fault, at the last of them.
func TestManyInOne(t *testing.T) {
	large := func(last int) api.Type {
		whole := fields(8, fields(63, boolean()))
		whole.Parts[7].Type = fields(last, boolean())
		return whole
	}
	builds(t, "512 types in one", schema(large(62)), 512)
	s := schema(large(63))
	fails(t, "513 types in one", s, api.ErrMany, s.Root.Parts[7].Type.Parts[62].Type.At)
	s = schema(boolean(), boolean(), large(63))
	fails(t, "513 types in the second one", s, api.ErrMany, s.Types[1].Type.Parts[7].Type.Parts[62].Type.At)
}

// P18.1: types within each other, up to the greatest depth and beyond, also as deep
// as the document allows.
func TestDepth(t *testing.T) {
	deep := boolean()
	for range 23 {
		deep = opt(deep)
	}
	builds(t, "24 levels", schema(deep, deep), 48)
	s := schema(boolean(), opt(deep))
	last := s.Types[0].Type
	for range 24 {
		last = last.Parts[0].Type
	}
	fails(t, "25 levels", s, api.ErrDepth, last.At)
	for range 1 << 16 {
		deep = opt(deep)
	}
	for _, s := range []api.Schema{
		{Levels: []api.Word{word("a")}, Root: deep},
		{Levels: []api.Word{word("a")}, Types: []api.Named{{Name: word("t"), Type: deep}}, Root: ref("x")},
	} {
		if p, f := Build(s); p != nil || f != (api.Fault{E: api.ErrDepth}) {
			t.Errorf("a very deep type: %v", f)
		}
	}
}

// P18.2: the level of a label is the join of its words, and the bottom without
// words.
func TestLabels(t *testing.T) {
	const head = "levels {hi, b, lo, a} order {lo < a < hi, lo < b < hi} root "
	cases := map[string]int{"": 2, "hi": 0, "b": 1, "lo": 2, "a": 3, "a+b": 0, "b+a": 0, "lo+a": 3, "b+lo": 1, "a+a": 3, "lo+lo": 2, "lo+b+hi": 0, "a+lo+b": 0}
	for text, want := range cases {
		label := ""
		if text != "" {
			label = "@" + text
		}
		p := build(t, head+"record{x: bool "+label+" ~count, y: bool ~count "+label+", z: bool @hi ~floor(2) "+label+"}")
		n, _ := p.Node(0)
		x, y, z := n.Edges[0], n.Edges[1], n.Edges[2]
		if x.Label != want || x.Seen != 2 || y.Label != 2 || y.Seen != want || z.Label != 0 || z.Seen != want {
			t.Errorf("%q: %+v, want %d", text, n.Edges, want)
		}
	}
}

// P18.2, R5: a nil plan, and one that Build did not make.
func TestNoPlan(t *testing.T) {
	var none *Plan
	if none.Lattice() != nil || none.Len() != 0 || none.Root() != -1 {
		t.Errorf("a nil plan: %v, %d, %d", none.Lattice(), none.Len(), none.Root())
	}
	zero := &Plan{}
	if zero.Lattice() != nil || zero.Len() != 0 || zero.Root() != 0 {
		t.Errorf("a zero plan: %v, %d, %d", zero.Lattice(), zero.Len(), zero.Root())
	}
	for _, p := range []*Plan{none, zero} {
		for _, i := range []int{-1, 0, 1, math.MinInt, math.MaxInt} {
			if n, ok := p.Node(i); ok || !reflect.DeepEqual(n, Node{}) {
				t.Errorf("Node(%d) = %+v, %v", i, n, ok)
			}
		}
		for _, name := range []string{"", "t", "a"} {
			if i, ok := p.Find(name); i != 0 || ok {
				t.Errorf("Find(%q) = %d, %v", name, i, ok)
			}
		}
	}
	if !reflect.DeepEqual(zero, &Plan{}) {
		t.Error("a zero plan is changed")
	}
}

// P18.1, P18.2, P18.3: random schemas, right ones and others with up to three
// things changed, against the model.
func TestRandom(t *testing.T) {
	g := generator{rand.New(rand.NewSource(18))}
	count := map[api.Errno]int{}
	for n := range 20000 {
		s := g.schema()
		if f := first(s); f.E != 0 && f.E != api.ErrLoop {
			t.Fatalf("%+v: %v", s, f)
		}
		for range n % 4 {
			spoil(g, &s)
		}
		before := duplicate(s)
		_, f := compare(t, s)
		count[f.E]++
		if !reflect.DeepEqual(s, before) {
			t.Fatalf("%+v: is changed", before)
		}
	}
	for _, e := range []api.Errno{0, api.ErrMissing, api.ErrLevel, api.ErrName, api.ErrTwice, api.ErrRange, api.ErrForm, api.ErrType, api.ErrLoop, api.ErrBound} {
		if count[e] < 20 {
			t.Errorf("only %d with the fault %d", count[e], e)
		}
	}
}

// P18.3: positions influence only positions, whatever they are; so a schema that is
// written and parsed again has the same plan but for them.
func TestPositions(t *testing.T) {
	g := generator{rand.New(rand.NewSource(183))}
	for n := range 3000 {
		s := g.schema()
		for range n % 2 {
			spoil(g, &s)
		}
		p, f := Build(s)
		others := []api.Schema{placed(s), plain(s), unparse.Strip(s)}
		everywhere(&s, func(x reflect.Value, field string) {
			if isPosition(field) {
				x.SetInt(int64(g.pick(math.MinInt, -1, 0, 1, 7, math.MaxInt)))
			}
		})
		others = append(others, s)
		if parsed, f := syntax.Parse(unparse.Format(s)); f.E == 0 {
			others = append(others, parsed)
		}
		for _, other := range others {
			q, again := compare(t, other)
			if again.E != f.E || describe(p) != describe(q) {
				t.Fatalf("%+v: %v, then %v:\n%s\n%s", s, f, again, describe(p), describe(q))
			}
		}
	}
}

// describe is all of a plan but its positions.
func describe(p *Plan) string {
	var text strings.Builder
	fmt.Fprint(&text, p.Len(), p.Root(), p.Lattice().Names())
	for i := range p.Len() {
		n, _ := p.Node(i)
		fmt.Fprintf(&text, "\n%+v", plain(n))
	}
	for _, name := range strings.Fields("t u v lo a b type n_1 f") {
		i, ok := p.Find(name)
		fmt.Fprint(&text, "\n", name, i, ok)
	}
	return text.String()
}

// spacious gives each slice of s room, which is filled with its elements.
func spacious(s api.Schema) api.Schema {
	everywhere(&s, func(x reflect.Value, _ string) {
		if x.Kind() == reflect.Slice {
			room := reflect.MakeSlice(x.Type(), 2*x.Len(), 2*x.Len())
			reflect.Copy(room, x)
			reflect.Copy(room.Slice(x.Len(), 2*x.Len()), x)
			x.Set(room.Slice(0, x.Len()))
		}
	})
	return s
}

// stretched returns a copy of s with its slices as long as they have room.
func stretched(s api.Schema) api.Schema {
	everywhere(&s, func(x reflect.Value, _ string) {
		if x.Kind() == reflect.Slice {
			fresh := reflect.MakeSlice(x.Type(), x.Cap(), x.Cap())
			reflect.Copy(fresh, x.Slice(0, x.Cap()))
			x.Set(fresh)
		}
	})
	return s
}

// scribble changes all that the slices of v contain, in place.
func scribble[T any](v T) {
	inside := func(y reflect.Value, _ string) {
		switch y.Kind() {
		case reflect.Int:
			y.SetInt(-99)
		case reflect.String:
			y.SetString("scribble")
		}
	}
	everywhere(&v, func(x reflect.Value, _ string) {
		if x.Kind() == reflect.Slice {
			for i := range x.Len() {
				walk(x.Index(i), "", inside)
			}
		}
	})
}

// R3: Build does not change its argument, not even beyond the length of a slice,
// and does not retain it.
func TestArgument(t *testing.T) {
	parsed, _ := parse(t, full)
	given := spacious(parsed)
	before := stretched(given)
	p, _ := compare(t, given)
	if !reflect.DeepEqual(stretched(given), before) {
		t.Error("the argument is changed")
	}
	want := describe(p)
	scribble(given)
	if got := describe(p); got != want {
		t.Errorf("the argument is retained: %s, then %s", want, got)
	}
}

// P18.2, R3: a node is new memory, as the next one asked for is.
func TestNewMemory(t *testing.T) {
	p := build(t, full)
	want := describe(p)
	var nodes []Node
	for range 2 {
		for i := range p.Len() {
			n, _ := p.Node(i)
			nodes = append(nodes, n)
		}
	}
	for i, n := range nodes {
		_ = append(n.Names, "more")
		_ = append(n.Edges, Edge{})
		other := duplicate(nodes)
		scribble(n)
		other[i] = n
		if !reflect.DeepEqual(nodes, other) {
			t.Fatalf("node %d shares memory with another one", i)
		}
	}
	if got := describe(p); got != want {
		t.Errorf("the plan is %s, then %s", want, got)
	}
	p.Lattice().Names()[0] = "scribble"
	if got := describe(p); got != want {
		t.Errorf("the plan is %s, then %s", want, got)
	}
}

// R4: a plan depends only on its schema, not on what was built before, and the
// plans of two schemas do not depend on each other.
func TestAgain(t *testing.T) {
	g := generator{rand.New(rand.NewSource(4))}
	var schemas []api.Schema
	var plans []*Plan
	var texts []string
	for len(schemas) < 200 {
		s := g.schema()
		if p, f := Build(s); f.E == 0 {
			schemas, plans, texts = append(schemas, s), append(plans, p), append(texts, describe(p))
		}
	}
	for _, i := range g.Perm(200) {
		p, f := Build(schemas[i])
		if f.E != 0 || describe(p) != texts[i] || describe(plans[i]) != texts[i] {
			t.Errorf("%s, then %v %s", texts[i], f, describe(p))
		}
	}
}

// P18.1: the lattice is that of the schema's levels and order, for each shape of
// it.
func TestLattice(t *testing.T) {
	for text, bottom := range map[string]string{
		"levels {a}":                                             "a",
		"levels {b, a} order {a < b}":                            "a",
		"levels {a, b} order {a < b, a < b}":                     "a",
		"levels {hi, b, lo, a} order {lo < a < hi, lo < b < hi}": "lo",
	} {
		p := build(t, text+" root bool")
		s, _ := parse(t, text+" root bool")
		want, _ := lattice.Build(s.Levels, s.Order)
		got := p.Lattice()
		if !slices.Equal(got.Names(), want.Names()) || got.Name(got.Bottom()) != bottom {
			t.Errorf("%s: %q with the bottom %q", text, got.Names(), got.Name(got.Bottom()))
		}
		for a := range want.Len() {
			for b := range want.Len() {
				if got.Leq(a, b) != want.Leq(a, b) || got.Join(a, b) != want.Join(a, b) {
					t.Errorf("%s: %d and %d", text, a, b)
				}
			}
		}
	}
}
