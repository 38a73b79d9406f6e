package checked

import (
	"fmt"
	"math"
	"reflect"
	"slices"
	"strings"
	"testing"

	"blindfold/api"
	"blindfold/resolve"
	"blindfold/syntax"
	"blindfold/unparse"
)

// Short forms of words and types.

func word(name string) api.Word { return api.Word{Name: name} }

func boolean() api.Type        { return api.Type{Kind: api.Bool} }
func ref(name string) api.Type { return api.Type{Kind: api.Ref, Name: word(name)} }

// record is a Record with the fields a, b, ..
func record(types ...api.Type) api.Type {
	r := api.Type{Kind: api.Record}
	for i, t := range types {
		r.Parts = append(r.Parts, api.Part{Name: word(string(rune('a' + i))), Type: t})
	}
	return r
}

// levels is a chain of levels, the bottom first.
func levels(s api.Schema, names ...string) api.Schema {
	for i, name := range names {
		s.Levels = append(s.Levels, word(name))
		if i > 0 {
			s.Order = append(s.Order, api.Pair{Lo: word(names[i-1]), Hi: word(name)})
		}
	}
	return s
}

// marked is the text without the mark ^, and the place of that mark.
func marked(text string) (string, int) {
	before, after, _ := strings.Cut(text, "^")
	return before + after, len(before)
}

// contents is all that a plan tells.
func contents(p *resolve.Plan) string {
	if p == nil {
		return "no plan"
	}
	var l []string
	for i := range p.Len() {
		n, _ := p.Node(i)
		l = append(l, fmt.Sprintf("%+v", n))
	}
	for _, i := range p.Lattice().Names() {
		l = append(l, i)
		for _, k := range p.Lattice().Names() {
			a, _ := p.Lattice().Find(i)
			b, _ := p.Lattice().Find(k)
			l = append(l, fmt.Sprint(p.Lattice().Leq(a, b)))
		}
	}
	return strings.Join(append(l, fmt.Sprint(p.Root())), "\n")
}

// text calls Text, asks that it returns either a plan alone or a stage and a fault,
// and asks Of whether it finds the same in the schema.
func text(t *testing.T, s string) (*resolve.Plan, int, api.Fault) {
	t.Helper()
	p, stage, f := Text(s)
	if (p != nil) != (f == api.Fault{}) || (p != nil) != (stage == 0) || (f.E == 0) != (f == api.Fault{}) {
		t.Fatalf("Text(%q) = %v, %d, %v", s, p, stage, f)
	}
	if schema, wrong := syntax.Parse(s); wrong.E == 0 {
		q, n, g := Of(schema)
		if contents(q) != contents(p) || n != stage || g != f {
			t.Fatalf("Of the schema of %q = %s, %d, %v, want %s, %d, %v", s, contents(q), n, g, contents(p), stage, f)
		}
	}
	return p, stage, f
}

const (
	// chain is three levels, the bottom first.
	chain = "levels {lo, mid, hi} order {lo < mid < hi} "
	// diamond is levels in which the top comes first and the bottom last.
	diamond = "levels {hi, a, b, lo} order {lo < a < hi, lo < b < hi} "
)

// The chapter's example.
func TestExample(t *testing.T) {
	p, stage, f := Text("root(1)")
	if p != nil || stage != Syntax || f.E == 0 {
		t.Errorf("Text = %v, %d, %v", p, stage, f)
	}
}

// The numbers of the stages.
func TestStages(t *testing.T) {
	if got := []int{Syntax, Resolve, Inhabit, Effect}; !slices.Equal(got, []int{1, 2, 3, 4}) {
		t.Errorf("the stages are %v", got)
	}
}

// P21.1: texts without a fault have a plan.
func TestFine(t *testing.T) {
	for _, s := range []string{
		"levels {a} root bool",
		"levels {a} order {} type t = opt(ref(t)) root ref(t)",
		chain + "root record{}",
		chain + "root record{x: int(0..9) @mid ~floor(2), y: text(9) @hi ~first(3) @mid}",
		chain + "root union{n, x(list(bool, 4)) @hi #7 ~count}",
		chain + "type t = record{x: ref(u), next: opt(ref(t)) @hi} type u = enum(p, q) root ref(t)",
		diamond + "root record{x: int(0..9) @a+b ~floor(2) @b}",
		diamond + "type t = list(ref(t), 0) root ref(t)",
		"levels{a};all that matters\nroot\tbool",
	} {
		p, stage, f := text(t, s)
		if p == nil {
			t.Errorf("%s: %d, %v", s, stage, f)
			continue
		}
		schema, _ := syntax.Parse(s)
		want, _ := resolve.Build(schema)
		if !reflect.DeepEqual(p, want) {
			t.Errorf("%s: the plan is %s", s, contents(p))
		}
	}
}

// P21.1: the plan is that of the text, node by node.
func TestPlan(t *testing.T) {
	s := chain + "type t = bool root record{x: int(3..9) @hi #4 ~floor(5) @mid, y: ref(t)}"
	p, stage, f := Text(s)
	if stage != 0 || f != (api.Fault{}) {
		t.Fatalf("Text: %d, %v", stage, f)
	}
	at := func(part string) int { return strings.Index(s, part) }
	want := []resolve.Node{
		{Kind: api.Bool, At: at("bool")},
		{Kind: api.Record, At: at("record"), Edges: []resolve.Edge{
			{Name: "x", At: at("x:"), To: 2, Label: 2, Wide: 4, Coarse: api.Floor, N: 5, Seen: 1, CoarseAt: at("floor")},
			{Name: "y", At: at("y:"), To: 0, Wide: 3},
		}},
		{Kind: api.Int, At: at("int"), Lo: 3, Hi: 9},
	}
	if p.Len() != len(want) || p.Root() != 1 {
		t.Fatalf("%d nodes, the root is %d", p.Len(), p.Root())
	}
	for i, n := range want {
		if got, _ := p.Node(i); fmt.Sprintf("%+v", got) != fmt.Sprintf("%+v", n) {
			t.Errorf("node %d is %+v, want %+v", i, got, n)
		}
	}
	if got := p.Lattice().Names(); !slices.Equal(got, []string{"lo", "mid", "hi"}) {
		t.Errorf("the levels are %q", got)
	}
}

// P21.1: faults of each stage, at the mark; P2: they are those of the layers below.
func TestFaults(t *testing.T) {
	for _, c := range []struct {
		text  string
		stage int
		e     api.Errno
	}{
		{"^", Syntax, api.ErrEnd},
		{"^root bool", Syntax, api.ErrToken},
		{"^root(1)", Syntax, api.ErrToken},
		{"^\xff", Syntax, api.ErrUtf},
		{"levels {a} ^% root bool", Syntax, api.ErrChar},
		{"levels {a} root int(0..^01)", Syntax, api.ErrForm},
		{"levels {a} root \"a^", Syntax, api.ErrEnd},
		{"levels {a}^", Syntax, api.ErrEnd},
		{"levels {^}", Syntax, api.ErrToken},
		{"levels {a} root ^lump", Syntax, api.ErrName},
		{"levels {a} root record{x: bool ~^lump}", Syntax, api.ErrName},
		{"levels {a} root bool ^root", Syntax, api.ErrToken},
		{"levels {a} root ref(t) ^type t = bool", Syntax, api.ErrToken},
		{"levels {a} root " + strings.Repeat("opt(", 24) + "^bool" + strings.Repeat(")", 24), Syntax, api.ErrDepth},
		{strings.Repeat(" ", api.MaxText) + "^ ", Syntax, api.ErrSize},

		{"levels {a, ^a} root bool", Resolve, api.ErrTwice},
		{"levels {a, b} order {a < ^c} root bool", Resolve, api.ErrLevel},
		{"levels {^a, b} order {a < b < a} root bool", Resolve, api.ErrLoop},
		{"levels {a, ^b} root bool", Resolve, api.ErrBound},
		{"levels {a} type t = bool type ^t = bool root bool", Resolve, api.ErrTwice},
		{"levels {a} root ^int(1..0)", Resolve, api.ErrRange},
		{"levels {a} root enum(x, ^x)", Resolve, api.ErrTwice},
		{"levels {a} root ref(^t)", Resolve, api.ErrMissing},
		{"levels {a} root record{x: bool @a+^b}", Resolve, api.ErrLevel},
		{"levels {a} root record{x: list(bool, 3) @a ~count @^b}", Resolve, api.ErrLevel},
		{"levels {a} type ^t = ref(t) root bool", Resolve, api.ErrLoop},
		{"levels {a} type t = bool type ^u = ref(v) type v = ref(u) root ref(t)", Resolve, api.ErrLoop},

		{"levels {a} type t = ^record{x: ref(t)} root bool", Inhabit, api.ErrLoop},
		{"levels {a} type t = ^union{x(ref(t))} root opt(ref(t))", Inhabit, api.ErrLoop},
		{"levels {a} type t = bool type u = ^record{x: record{y: ref(u)}} root ref(t)", Inhabit, api.ErrLoop},

		{chain + "root record{x: bool @hi ~^count}", Effect, api.ErrType},
		{chain + "root record{x: int(0..9) @hi ~^first(3)}", Effect, api.ErrType},
		{chain + "root union{x(int(0..9)) @lo ~^floor(3)}", Effect, api.ErrFlow},
		{chain + "root opt(list(record{x: text(9) @mid ~^first(3) @hi}, 0))", Effect, api.ErrFlow},
		{diamond + "root record{x: text(9) @a ~^first(3) @b}", Effect, api.ErrFlow},
	} {
		s, at := marked(c.text)
		p, stage, f := text(t, s)
		if p != nil || stage != c.stage || f != (api.Fault{E: c.e, At: at}) {
			t.Errorf("%.200s: %d, %v, want %d, %v at %d", c.text, stage, f, c.stage, c.e, at)
		}
	}
}

// P21.1: the first stage that has a fault counts, wherever the faults of later
// stages are.
func TestFirstStage(t *testing.T) {
	const (
		effects = "type e = record{x: bool @hi ~count} "
		inhabit = "type i = ^record{x: ref(i)} "
		resolve = "type r = ref(^nosuch) "
	)
	plain := strings.NewReplacer("^", "")
	for _, c := range []struct {
		text  string
		stage int
		e     api.Errno
	}{
		{effects + inhabit + "root bool", Inhabit, api.ErrLoop},
		{inhabit + effects + "root bool", Inhabit, api.ErrLoop},
		{effects + plain.Replace(inhabit) + resolve + "root bool", Resolve, api.ErrMissing},
		{resolve + plain.Replace(inhabit) + effects + "root bool", Resolve, api.ErrMissing},
		{effects + resolve + plain.Replace(inhabit) + "root bool", Resolve, api.ErrMissing},
		{effects + plain.Replace(resolve+inhabit) + "root ^lump", Syntax, api.ErrName},
		{effects + plain.Replace(resolve+inhabit) + "root bool ^%", Syntax, api.ErrChar},
	} {
		s, at := marked(chain + c.text)
		p, stage, f := text(t, s)
		if p != nil || stage != c.stage || f != (api.Fault{E: c.e, At: at}) {
			t.Errorf("%s: %d, %v, want %d, %v at %d", c.text, stage, f, c.stage, c.e, at)
		}
	}
}

// P21.1: Of begins with the stage Resolve, and reports positions as the schema has
// them; R1: whatever the schema contains.
func TestOf(t *testing.T) {
	deep := boolean()
	for range 100000 {
		deep = api.Type{Kind: api.Opt, Parts: []api.Part{{Type: deep}}}
	}
	wrongAt := record(boolean())
	wrongAt.Parts[0].Coarse = api.Coarse{Kind: api.Count, At: math.MinInt}
	endless := record(ref("t"))
	endless.At = math.MaxInt
	for i, c := range []struct {
		s     api.Schema
		stage int
		f     api.Fault
	}{
		{api.Schema{}, Resolve, api.Fault{E: api.ErrMissing}},
		{api.Schema{Root: boolean()}, Resolve, api.Fault{E: api.ErrMissing}},
		{levels(api.Schema{}, "a"), Resolve, api.Fault{E: api.ErrType}},
		{levels(api.Schema{Root: boolean()}, "A"), Resolve, api.Fault{E: api.ErrName}},
		{levels(api.Schema{Root: boolean()}, ""), Resolve, api.Fault{E: api.ErrName}},
		{levels(api.Schema{Root: ref("\xff")}, "a"), Resolve, api.Fault{E: api.ErrName}},
		{levels(api.Schema{Root: api.Type{Kind: math.MinInt, At: -3}}, "a"), Resolve, api.Fault{E: api.ErrType, At: -3}},
		{levels(api.Schema{Root: deep}, "a"), Resolve, api.Fault{E: api.ErrDepth}},
		{levels(api.Schema{Types: []api.Named{{Name: word("t"), Type: endless}}, Root: boolean()}, "a"), Inhabit, api.Fault{E: api.ErrLoop, At: math.MaxInt}},
		{levels(api.Schema{Root: wrongAt}, "a"), Effect, api.Fault{E: api.ErrType, At: math.MinInt}},
		{levels(api.Schema{Root: boolean()}, "a"), 0, api.Fault{}},
		{levels(api.Schema{Root: record(boolean(), ref("t")), Types: []api.Named{{Name: word("t"), Type: boolean()}}}, "a", "b"), 0, api.Fault{}},
	} {
		p, stage, f := Of(c.s)
		if (p == nil) != (c.stage > 0) || stage != c.stage || f != c.f {
			t.Errorf("case %d: %s, %d, %v, want %d, %v", i, contents(p), stage, f, c.stage, c.f)
		}
	}
}

// P21.2: levels by their names, and the bottom, wherever it stands in the lattice.
func TestObserver(t *testing.T) {
	for _, c := range []struct {
		head, name string
		want       int
	}{
		{"levels {a} ", "a", 0},
		{"levels {a} ", "", 0},
		{chain, "lo", 0},
		{chain, "mid", 1},
		{chain, "hi", 2},
		{chain, "", 0},
		{"levels {b, a} order {a < b} ", "", 1},
		{"levels {b, a} order {a < b} ", "b", 0},
		{diamond, "hi", 0},
		{diamond, "a", 1},
		{diamond, "b", 2},
		{diamond, "lo", 3},
		{diamond, "", 3},
		{"levels {hi, lo, mid} order {lo < mid < hi} ", "", 1},
		// Some names have other meanings elsewhere.
		{"levels {root, levels, bool} order {root < bool < levels} ", "bool", 2},
	} {
		p, stage, f := Text(c.head + "root bool")
		if stage != 0 {
			t.Fatalf("%s: %d, %v", c.head, stage, f)
		}
		if got, f := Observer(p, c.name); got != c.want || f != (api.Fault{}) {
			t.Errorf("%s: Observer(%q) = %d, %v, want %d", c.head, c.name, got, f, c.want)
		}
	}
}

// P21.2: names that no level has, those of types and parts among them.
func TestNoObserver(t *testing.T) {
	p, _, _ := Text(chain + "type t = bool root record{x: enum(y) @hi}")
	long := strings.Repeat("n", 33)
	for _, name := range []string{"t", "x", "y", "root", "bool", "l", "lo ", " lo", "LO", "lo+mid", "hi\x00", "\xff", " ", "0", long, strings.Repeat("lo", 1<<20)} {
		if got, f := Observer(p, name); got != 0 || f != (api.Fault{E: api.ErrLevel}) {
			t.Errorf("Observer(%.50q) = %d, %v", name, got, f)
		}
	}
}

// P21.2: a nil plan; R5: a plan that no function created has no levels, so it has
// no bottom either.
func TestNoPlan(t *testing.T) {
	for _, name := range []string{"", "lo", "\xff", "no name"} {
		if got, f := Observer(nil, name); got != 0 || f != (api.Fault{E: api.ErrArg}) {
			t.Errorf("Observer(nil, %q) = %d, %v", name, got, f)
		}
		if got, f := Observer(&resolve.Plan{}, name); got != 0 || f != (api.Fault{E: api.ErrLevel}) {
			t.Errorf("Observer of a zero plan, %q = %d, %v", name, got, f)
		}
	}
}

// R3: Of neither changes the schema nor keeps anything of it.
func TestMemory(t *testing.T) {
	parse := func() api.Schema {
		s, f := syntax.Parse(chain + "type t = enum(p, q) root record{x: ref(t), y: int(0..9) @hi+mid ~floor(2) @lo+mid}")
		if f.E != 0 {
			t.Fatal(f)
		}
		return s
	}
	s := parse()
	// What lies beyond the length must stay as it is, too.
	s.Levels = slices.Grow(s.Levels, 5)
	s.Types = slices.Grow(s.Types, 5)
	p, stage, f := Of(s)
	if stage != 0 {
		t.Fatal(stage, f)
	}
	if !reflect.DeepEqual(s, parse()) {
		t.Errorf("the schema is now %+v", s)
	}
	for _, w := range s.Levels[:cap(s.Levels)][len(s.Levels):] {
		if w != (api.Word{}) {
			t.Errorf("beyond the levels there is now %v", w)
		}
	}
	before := contents(p)
	s.Levels[0].Name = "changed"
	s.Order[0].Lo.Name = "changed"
	s.Types[0].Name.Name = "changed"
	s.Types[0].Type.Names[0].Name = "changed"
	s.Root.Parts[0].Name.Name = "changed"
	s.Root.Parts[1].Label[0].Name = "changed"
	s.Root.Parts[1].Type.Hi = 0
	if contents(p) != before {
		t.Errorf("the plan is now %s", contents(p))
	}
	if i, found := p.Find("t"); i != 0 || !found {
		t.Errorf("Find = %d, %v", i, found)
	}
	if i, f := Observer(p, "lo"); i != 0 || f.E != 0 {
		t.Errorf("Observer = %d, %v", i, f)
	}
}

// R4: a call leaves nothing behind that a later one could find.
func TestAgain(t *testing.T) {
	fine, wrong := chain+"type t = bool root ref(t)", chain+"root record{x: bool @hi ~count}"
	for range 3 {
		if p, stage, f := text(t, fine); p == nil || p.Len() != 1 {
			t.Errorf("%s: %d, %v", fine, stage, f)
		}
		if p, stage, _ := text(t, wrong); p != nil || stage != Effect {
			t.Errorf("%s: %s, %d", wrong, contents(p), stage)
		}
		if p, stage, _ := Of(api.Schema{}); p != nil || stage != Resolve {
			t.Errorf("Of no schema: %s, %d", contents(p), stage)
		}
	}
}

// P21.3: the schema parsed from the text of one without a fault has the same plan,
// but for positions.
func TestOwnText(t *testing.T) {
	for _, s := range []api.Schema{
		levels(api.Schema{Root: boolean()}, "a"),
		levels(api.Schema{Root: ref("t"), Types: []api.Named{{Name: word("t"), Type: api.Type{Kind: api.Opt, Parts: []api.Part{{Type: ref("t")}}}}}}, "a", "b"),
		levels(api.Schema{Root: api.Type{Kind: api.Int, Lo: math.MinInt, Hi: math.MaxInt}}, "a"),
		// Words of the grammar as names.
		levels(api.Schema{Root: ref("root"), Types: []api.Named{
			{Name: word("root"), Type: record(ref("type"), ref("int"))},
			{Name: word("type"), Type: boolean()},
			{Name: word("int"), Type: api.Type{Kind: api.Enum, Names: []api.Word{word("bool"), word("ref")}}},
		}}, "order", "levels", "count"),
		// As deep as possible.
		levels(api.Schema{Root: nested(api.MaxDepth)}, "a"),
		// As many levels as possible, with names as long as possible.
		levels(api.Schema{Root: boolean()}, longNames()...),
	} {
		p, stage, f := Of(s)
		if p == nil {
			t.Fatalf("%+v: %d, %v", s, stage, f)
		}
		own, stage, f := text(t, unparse.Format(s))
		if own == nil {
			t.Fatalf("%q: %d, %v", unparse.Format(s), stage, f)
		}
		if plain(own) != plain(p) {
			t.Errorf("%q: the plan is %s, want %s", unparse.Format(s), plain(own), plain(p))
		}
	}
}

// P21.3 reaches as far as P17.3: a text of more than 65536 bytes is no schema, but the
// schema whose text it is has a plan nevertheless.
func TestOwnTextTooLong(t *testing.T) {
	s := levels(api.Schema{}, longNames()...)
	s.Root = api.Type{Kind: api.Record}
	for i := range api.MaxParts {
		s.Root.Parts = append(s.Root.Parts, api.Part{Name: word(fmt.Sprint("p", i)), Type: boolean(), Label: s.Levels})
	}
	if p, stage, f := Of(s); p == nil {
		t.Errorf("Of: %d, %v", stage, f)
	}
	if p, stage, f := Text(unparse.Format(s)); p != nil || stage != Syntax || f != (api.Fault{E: api.ErrSize, At: api.MaxText}) {
		t.Errorf("Text: %s, %d, %v", contents(p), stage, f)
	}
}

// nested is a Bool within as many Opts as make it this deep.
func nested(depth int) api.Type {
	t := boolean()
	for range depth - 1 {
		t = api.Type{Kind: api.Opt, Parts: []api.Part{{Type: t}}}
	}
	return t
}

func longNames() []string {
	var l []string
	for i := range api.MaxLevels {
		l = append(l, fmt.Sprintf("n%031d", i))
	}
	return l
}

// plain is the contents of a plan with all positions 0.
func plain(p *resolve.Plan) string {
	var l []string
	for i := range p.Len() {
		n, _ := p.Node(i)
		n.At = 0
		for k := range n.Edges {
			n.Edges[k].At, n.Edges[k].CoarseAt = 0, 0
		}
		l = append(l, fmt.Sprintf("%+v", n))
	}
	return strings.Join(append(l, fmt.Sprint(p.Lattice().Names(), p.Root())), "\n")
}
