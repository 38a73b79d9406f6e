package unparse

import (
	"fmt"
	"math"
	"math/rand"
	"reflect"
	"slices"
	"strings"
	"testing"

	"blindfold/api"
	"blindfold/syntax"
)

// Short forms of schemas.

func word(name string) api.Word { return api.Word{Name: name} }

// words is the names in the text, which has a blank between each two of them.
func words(text string) []api.Word {
	var l []api.Word
	for _, name := range strings.Fields(text) {
		l = append(l, word(name))
	}
	return l
}

func numbered(n int) []api.Word {
	var l []api.Word
	for i := range n {
		l = append(l, word(fmt.Sprintf("n%d", i)))
	}
	return l
}

func boolean() api.Type { return api.Type{Kind: api.Bool} }

func opt(t api.Type) api.Type { return api.Type{Kind: api.Opt, Parts: []api.Part{{Type: t}}} }

func list64(t api.Type) api.Type {
	return api.Type{Kind: api.List, Most: 64, Parts: []api.Part{{Type: t}}}
}

func record(p ...api.Part) api.Type { return api.Type{Kind: api.Record, Parts: p} }
func union(p ...api.Part) api.Type  { return api.Type{Kind: api.Union, Parts: p} }

func part(name string, t api.Type) api.Part { return api.Part{Name: word(name), Type: t} }
func bare(name string) api.Part             { return api.Part{Name: word(name), Bare: true} }

func secret(p api.Part, label string) api.Part    { p.Label = words(label); return p }
func wide(p api.Part, n int) api.Part             { p.Wide = n; return p }
func coarse(p api.Part, kind, n int) api.Part     { p.Coarse.Kind, p.Coarse.N = kind, n; return p }
func coarseFor(p api.Part, label string) api.Part { p.Coarse.Label = words(label); return p }

func deep(n int) api.Type { return chain(n, opt, boolean()) }

// chain is t within n - 1 types that f makes.
func chain(n int, f func(api.Type) api.Type, t api.Type) api.Type {
	for range n - 1 {
		t = f(t)
	}
	return t
}

// small is a printable schema with one level and this root.
func small(root api.Type) api.Schema {
	return api.Schema{Levels: words("a"), Root: root}
}

// P17.1: the text of each kind of type, and the chapter's example.
func TestTypeByHand(t *testing.T) {
	b, f := boolean(), part("a", boolean())
	n32 := strings.Repeat("n", 32)
	cases := map[string]api.Type{
		"opt(bool)":   opt(b), // the chapter's example
		"bool":        b,
		"int(0..0)":   {Kind: api.Int},
		"int(-1..5)":  {Kind: api.Int, Lo: -1, Hi: 5},
		"int(-7..-7)": {Kind: api.Int, Lo: -7, Hi: -7},
		"int(-9223372036854775808..9223372036854775807)": {Kind: api.Int, Lo: math.MinInt64, Hi: math.MaxInt64},
		"text(0)":             {Kind: api.Text},
		"text(4096)":          {Kind: api.Text, Most: 4096},
		"enum(x)":             {Kind: api.Enum, Names: words("x")},
		"enum(x, y, z)":       {Kind: api.Enum, Names: words("x y z")},
		"enum(type, bool)":    {Kind: api.Enum, Names: words("type bool")},
		"list(bool, 0)":       {Kind: api.List, Parts: []api.Part{{Type: b}}},
		"list(opt(bool), 64)": list64(opt(b)),
		"opt(list(bool, 64))": opt(list64(b)),
		"ref(t)":              {Kind: api.Ref, Name: word("t")},
		"ref(" + n32 + ")":    {Kind: api.Ref, Name: word(n32)},
		"record{}":            record(),
		"record{a: bool}":     record(f),
		"record{a: bool, b: opt(bool), c: record{}}": record(f, part("b", opt(b)), part("c", record())),
		"union{a}":             union(bare("a")),
		"union{a(bool)}":       union(f),
		"union{p, a(bool), q}": union(bare("p"), f, bare("q")),

		"record{a: bool @x}":                          record(secret(f, "x")),
		"record{a: bool @y+x+y}":                      record(secret(f, "y x y")),
		"record{a: bool #1}":                          record(wide(f, 1)),
		"record{a: bool #64, b: bool}":                record(wide(f, 64), part("b", b)),
		"record{a: bool ~floor(1)}":                   record(coarse(f, api.Floor, 1)),
		"record{a: bool ~floor(9223372036854775807)}": record(coarse(f, api.Floor, math.MaxInt64)),
		"record{a: bool ~first(0)}":                   record(coarse(f, api.First, 0)),
		"record{a: bool ~first(4096)}":                record(coarse(f, api.First, 4096)),
		"record{a: bool ~count}":                      record(coarse(f, api.Count, 0)),
		"record{a: bool ~count @x+y}":                 record(coarseFor(coarse(f, api.Count, 0), "x y")),
		"record{a: bool ~floor(2) @x, b: bool}":       record(coarseFor(coarse(f, api.Floor, 2), "x"), part("b", b)),
		"record{a: bool @y #4 ~first(3) @x+z}":        record(coarseFor(coarse(wide(secret(f, "y"), 4), api.First, 3), "x z")),
		"union{p, a(bool) @y+x #4 ~first(3) @z, q}":   union(bare("p"), coarseFor(coarse(wide(secret(f, "y x"), 4), api.First, 3), "z"), bare("q")),
		"union{a(union{a(bool) @x}) #2}":              union(wide(part("a", union(secret(f, "x"))), 2)),
		"record{a: record{a: bool @x} @y}":            record(secret(part("a", record(secret(f, "x"))), "y")),

		// The grammar's words are names like any other: no space belongs to them.
		"record{order: bool @root+type, type: bool, root: ref(order)}": record(secret(part("order", b), "root type"), part("type", b),
			part("root", api.Type{Kind: api.Ref, Name: word("order")})),
		"union{levels, root(bool), type}": union(bare("levels"), part("root", b), bare("type")),
	}
	for want, given := range cases {
		for _, c := range []api.Type{given, placed(given)} {
			if got := Type(c); got != want {
				t.Errorf("Type is %q, want %q", got, want)
			}
			if got, full := Format(small(c)), "levels {a} order {} root "+want; got != full {
				t.Errorf("Format is %q, want %q", got, full)
			}
		}
		if got := typeText(given); got != want {
			t.Errorf("the model says %q, want %q", got, want)
		}
	}
}

// faulty is types with a fault of each sort, here and there in a type.
func faulty() []api.Type {
	b, f := boolean(), part("a", boolean())
	list := []api.Type{
		{},
		{Kind: 10},
		{Kind: -1},
		{Kind: math.MinInt},
		{Kind: math.MaxInt},
		{Kind: api.Bool, Lo: 1},
		{Kind: api.Bool, Names: words("x")},
		{Kind: api.Int, Lo: 1},
		{Kind: api.Text, Most: -1},
		{Kind: api.Text, Most: 4097},
		{Kind: api.Enum},
		{Kind: api.Enum, Names: words("x x")},
		{Kind: api.Enum, Names: []api.Word{word("x"), word("")}},
		{Kind: api.Enum, Names: numbered(65)},
		{Kind: api.List},
		{Kind: api.List, Parts: []api.Part{{Type: b}, {Type: b}}},
		{Kind: api.List, Most: 1025, Parts: []api.Part{{Type: b}}},
		{Kind: api.List, Parts: []api.Part{f}},
		{Kind: api.Opt},
		{Kind: api.Opt, Parts: []api.Part{secret(api.Part{Type: b}, "x")}},
		{Kind: api.Ref},
		{Kind: api.Ref, Name: word("A")},
		union(),
		record(f, f),
		record(part("", b)),
		record(part(strings.Repeat("n", 33), b)),
		record(bare("a")),
		record(wide(f, -1)),
		record(wide(f, 65)),
		record(coarse(f, 0, 1)),
		record(coarse(f, 4, 0)),
		record(coarse(f, api.Floor, 0)),
		record(coarse(f, api.First, 4097)),
		record(coarse(f, api.Count, 1)),
		record(coarseFor(f, "x")),
		record(secret(f, "x -")),
		record(coarseFor(coarse(f, api.Count, 0), "X")),
		union(wide(bare("a"), 1)),
		deep(25),
		record(numberedFields(65, b)...),
	}
	for _, t := range slices.Clone(list) {
		list = append(list, opt(t), list64(t), record(f, part("b", t)), union(part("b", t), f))
	}
	return list
}

func numberedFields(n int, t api.Type) []api.Part {
	var l []api.Part
	for _, w := range numbered(n) {
		l = append(l, api.Part{Name: w, Type: t})
	}
	return l
}

// P17.1: a type with a fault has no text, wherever it is, nor has its schema.
func TestFaultyTypes(t *testing.T) {
	for i, given := range faulty() {
		for _, c := range []api.Type{given, placed(given)} {
			if got := Type(c); got != "" {
				t.Errorf("type %d: Type is %.100q", i, got)
			}
			none(t, fmt.Sprint("root ", i), small(c))
			s := small(boolean())
			s.Types = []api.Named{{Name: word("t"), Type: boolean()}, {Name: word("u"), Type: c}}
			none(t, fmt.Sprint("type ", i), s)
			slices.Reverse(s.Types)
			none(t, fmt.Sprint("first type ", i), s)
		}
	}
}

// none asks that s is not printable.
func none(t *testing.T, what string, s api.Schema) {
	t.Helper()
	if Right(s) || printable(s) {
		t.Errorf("%s: is printable", what)
	}
	if got := Format(s); got != "" {
		t.Errorf("%s: Format is %.100q", what, got)
	}
}

// P17.1: the names that must be names, one by one, and the levels that must be.
func TestWrongNames(t *testing.T) {
	none(t, "nothing", api.Schema{})
	none(t, "no levels", api.Schema{Root: boolean()})
	none(t, "an empty list of levels", api.Schema{Levels: []api.Word{}, Root: boolean()})
	none(t, "no root", api.Schema{Levels: words("a")})
	whole := func() api.Schema {
		return api.Schema{
			Levels: words("a b c"),
			Order:  []api.Pair{{Lo: word("a"), Hi: word("b")}, {Lo: word("b"), Hi: word("c")}},
			Types:  []api.Named{{Name: word("t"), Type: boolean()}, {Name: word("u"), Type: boolean()}},
			Root:   boolean(),
		}
	}
	if got, want := Format(whole()), "levels {a, b, c} order {a < b, b < c} type t = bool type u = bool root bool"; got != want {
		t.Errorf("Format is %q, want %q", got, want)
	}
	places := []func(s *api.Schema) *api.Word{
		func(s *api.Schema) *api.Word { return &s.Levels[0] },
		func(s *api.Schema) *api.Word { return &s.Levels[2] },
		func(s *api.Schema) *api.Word { return &s.Order[0].Lo },
		func(s *api.Schema) *api.Word { return &s.Order[0].Hi },
		func(s *api.Schema) *api.Word { return &s.Order[1].Lo },
		func(s *api.Schema) *api.Word { return &s.Order[1].Hi },
		func(s *api.Schema) *api.Word { return &s.Types[0].Name },
		func(s *api.Schema) *api.Word { return &s.Types[1].Name },
	}
	wrong := []string{"", "A", "1", "_a", "a-", "a ", " a", "a b", "a\n", "a;", "\xff", "\u00e9", "a\u00e9", strings.Repeat("n", 33)}
	right := []string{"z", "a1", "a_", "order", "bool", strings.Repeat("n", 32)}
	for i, place := range places {
		for _, name := range wrong {
			s := whole()
			place(&s).Name = name
			none(t, fmt.Sprintf("%q at place %d", name, i), s)
		}
		for _, name := range right {
			s := whole()
			place(&s).Name = name
			if !Right(s) || Format(s) != formatted(s) {
				t.Errorf("%q at place %d: Format is %q", name, i, Format(s))
			}
		}
	}
}

// P17.1: texts of schemas.
func TestFormatByHand(t *testing.T) {
	b := boolean()
	cases := map[string]api.Schema{
		"levels {a} order {} root bool":           {Levels: words("a"), Root: b},
		"levels {a, b, c} order {} root record{}": {Levels: words("a b c"), Root: record()},
		"levels {a, b} order {a < b} type t = enum(x, y) type u = opt(ref(t)) root ref(u)": {
			Levels: words("a b"),
			Order:  []api.Pair{{Lo: word("a"), Hi: word("b")}},
			Types: []api.Named{
				{Name: word("t"), Type: api.Type{Kind: api.Enum, Names: words("x y")}},
				{Name: word("u"), Type: opt(api.Type{Kind: api.Ref, Name: word("t")})},
			},
			Root: api.Type{Kind: api.Ref, Name: word("u")},
		},
		// Each pair is a chain of its own.
		"levels {a, b, c} order {a < b, b < c, a < b} root bool": {
			Levels: words("a b c"),
			Order:  []api.Pair{{Lo: word("a"), Hi: word("b")}, {Lo: word("b"), Hi: word("c")}, {Lo: word("a"), Hi: word("b")}},
			Root:   b,
		},
		// The grammar's words are names like any other: no space belongs to them.
		"levels {levels, order, root, type} order {type < root, order < levels} type type = bool type root = bool root ref(root)": {
			Levels: words("levels order root type"),
			Order:  []api.Pair{{Lo: word("type"), Hi: word("root")}, {Lo: word("order"), Hi: word("levels")}},
			Types:  []api.Named{{Name: word("type"), Type: b}, {Name: word("root"), Type: b}},
			Root:   api.Type{Kind: api.Ref, Name: word("root")},
		},
		// What chapter 18 checks keeps no schema from being printed.
		"levels {a, a} order {x < y, a < a} type t = bool type t = ref(t) root record{a: ref(u) @z}": {
			Levels: words("a a"),
			Order:  []api.Pair{{Lo: word("x"), Hi: word("y")}, {Lo: word("a"), Hi: word("a")}},
			Types:  []api.Named{{Name: word("t"), Type: b}, {Name: word("t"), Type: api.Type{Kind: api.Ref, Name: word("t")}}},
			Root:   record(secret(part("a", api.Type{Kind: api.Ref, Name: word("u")}), "z")),
		},
		// The schema of the document's ten examples.
		"levels {lo, hi} order {lo < hi} root record{user: text(20), pin: int(0..9999) @hi #4 ~floor(1000), deep: record{k: bool @hi}}": {
			Levels: words("lo hi"),
			Order:  []api.Pair{{Lo: word("lo"), Hi: word("hi")}},
			Root: record(
				part("user", api.Type{Kind: api.Text, Most: 20}),
				coarse(wide(secret(part("pin", api.Type{Kind: api.Int, Hi: 9999}), "hi"), 4), api.Floor, 1000),
				part("deep", record(secret(part("k", b), "hi"))),
			),
		},
	}
	for want, given := range cases {
		for _, s := range []api.Schema{given, placed(given)} {
			compare(t, s)
			if got := Format(s); got != want || !Right(s) {
				t.Errorf("Format is %q, want %q", got, want)
			}
		}
	}
}

// P17.1: a schema may have more of everything than a plan may.
func TestManyOfAll(t *testing.T) {
	s := small(boolean())
	s.Levels = numbered(500)
	for _, w := range numbered(500) {
		s.Order = append(s.Order, api.Pair{Lo: w, Hi: w})
		s.Types = append(s.Types, api.Named{Name: w, Type: record(numberedFields(64, boolean())...)})
	}
	compare(t, s)
	text := Format(s)
	if !strings.HasSuffix(text, "type n499 = "+Type(s.Types[499].Type)+" root bool") || len(text) < 300000 {
		t.Errorf("Format has %d bytes", len(text))
	}
	if _, f := syntax.Parse(text); f != (api.Fault{E: api.ErrSize, At: 65536}) {
		t.Errorf("too long a text: %v", f)
	}
}

// P17.1: a type of 512 types with the longest names and labels.
func TestLongestType(t *testing.T) {
	label := strings.Join(slices.Repeat([]string{strings.Repeat("n", 32)}, 32), " ")
	full := func(n int) []api.Part {
		l := numberedFields(n, boolean())
		for i := range l {
			l[i] = coarseFor(coarse(wide(secret(l[i], label), 64), api.First, 4096), label)
		}
		return l
	}
	given := full(7)
	for i := range given {
		given[i].Type = record(full(64)...)
	}
	whole := record(append(given, part("m", record(full(55)...)))...)
	text := Type(whole)
	if text != typeText(whole) || len(text) < 512*2*1000 {
		t.Errorf("Type has %d bytes", len(text))
	}
	if got := Type(opt(whole)); got != "" {
		t.Errorf("513 types: Type has %d bytes", len(got))
	}
}

// compare asks all functions of the package for s, and holds P17.3 for it.
func compare(t *testing.T, s api.Schema) {
	t.Helper()
	before := duplicate(s)
	want := formatted(s)
	if Right(s) != printable(s) || Right(s) != (want != "") {
		t.Fatalf("%+v: Right is %v", s, Right(s))
	}
	if got := Format(s); got != want {
		t.Fatalf("%+v: Format is\n%.1000q, want\n%.1000q", s, got, want)
	}
	if got, want := Type(s.Root), typeText(s.Root); got != want {
		t.Fatalf("%+v: Type is\n%.1000q, want\n%.1000q", s.Root, got, want)
	}
	stripped := Strip(s)
	if !reflect.DeepEqual(plain(stripped), plain(s)) || positions(stripped) != 0 {
		t.Fatalf("%+v: Strip is\n%+v", s, stripped)
	}
	if !Same(s, stripped) || !Same(stripped, s) || !Same(s, s) {
		t.Fatalf("%+v: not the same as itself without positions", s)
	}
	if Format(stripped) != want || Right(stripped) != Right(s) {
		t.Fatalf("%+v: Strip changes the text", s)
	}
	if !reflect.DeepEqual(before, s) {
		t.Fatalf("%+v: is changed", s)
	}
	if want != "" && len(want) <= 65536 {
		recovered(t, s)
	}
}

// recovered holds P17.3 for s, and for its root alone.
func recovered(t *testing.T, s api.Schema) {
	t.Helper()
	text := Format(s)
	got, f := syntax.Parse(text)
	if f != (api.Fault{}) || !Same(got, s) || !equal(got, s) {
		t.Fatalf("%+v:\n%.1000q is\n%+v, %v", s, text, got, f)
	}
	if again := Format(got); again != text {
		t.Fatalf("%.1000q: is formatted as\n%.1000q", text, again)
	}
	root, f := syntax.Type(Type(s.Root))
	if f != (api.Fault{}) || !equal(root, s.Root) || Type(root) != Type(s.Root) {
		t.Fatalf("%+v:\n%.1000q is\n%+v, %v", s.Root, Type(s.Root), root, f)
	}
}

// P17.1, P17.2, P17.3: random schemas, printable ones and others with up to three
// things changed, against the model.
func TestRandom(t *testing.T) {
	g := generator{rand.New(rand.NewSource(17))}
	right := 0
	for n := range 20000 {
		s := g.schema()
		if !printable(s) {
			t.Fatalf("%+v: is not printable", s)
		}
		for range n % 4 {
			s = duplicate(s)
			spoil(g, &s)
		}
		compare(t, s)
		if printable(s) {
			right++
		}
	}
	if right < 8000 || right > 15000 {
		t.Errorf("%d of 20000 are printable", right)
	}
}

// P17.3: other texts that denote the same schema have the same canonical text,
// which is all there is of them.
func TestCanonical(t *testing.T) {
	want := "levels {a, b, c} order {a < b, b < c} type t = enum(x, y) root record{n: int(-1..5) @b+a #4 ~floor(2) @a, u: union{p, q(ref(t)) ~count}, l: list(text(9), 3)}"
	for _, s := range []string{
		want,
		"levels{a,b,c}order{a<b<c}type t=enum(x,y)root record{n:int(-1..5)@b+a#4~floor(2)@a,u:union{p,q(ref(t))~count},l:list(text(9),3)}",
		"levels { a , b , c } order { a < b , b < c } type t = enum ( x , y ) root record { n : int ( -1 .. 5 ) @ b + a # 4 ~ floor ( 2 ) @ a , u : union { p , q ( ref ( t ) ) # 0 ~ count } , l : list ( text ( 9 ) , 3 ) }",
		"; first\n" + strings.ReplaceAll(want, " ", "\t; a comment {\n") + ";",
	} {
		got, f := syntax.Parse(s)
		if f != (api.Fault{}) || Format(got) != want {
			t.Errorf("%q, %v: Format is %q", s, f, Format(got))
		}
	}
	without, _ := syntax.Parse("levels{a}root bool")
	if got := Format(without); got != "levels {a} order {} root bool" {
		t.Errorf("without an order: Format is %q", got)
	}
}

// P17.3: a text of 65536 bytes is the longest one that is recovered; longer ones
// are written all the same.
func TestLongestText(t *testing.T) {
	for over := range 40 {
		s := small(boolean())
		rest := 65536 - 20 + over - len(Format(s))
		for rest > 34 {
			s.Levels = append(s.Levels, word(strings.Repeat("n", 1+rest%3)))
			rest -= 3 + rest%3
		}
		s.Levels = append(s.Levels, word(strings.Repeat("z", rest-2)))
		text := Format(s)
		if len(text) != 65536-20+over {
			t.Fatalf("%d bytes", len(text))
		}
		compare(t, s)
		got, f := syntax.Parse(text)
		want := api.Fault{}
		if over > 20 {
			want = api.Fault{E: api.ErrSize, At: 65536}
		}
		if f != want || Same(got, s) != (over <= 20) {
			t.Errorf("%d bytes: %v", len(text), f)
		}
	}
}

// P17.1, P17.3: types that contain each other in 24 levels are written and
// recovered; one more is a fault.
func TestDepth(t *testing.T) {
	around := []func(api.Type) api.Type{
		opt, list64,
		func(t api.Type) api.Type { return record(part("a", boolean()), secret(part("b", t), "x")) },
		func(t api.Type) api.Type { return union(bare("p"), wide(part("q", t), 1)) },
	}
	for _, wrap := range around {
		least := chain(24, wrap, boolean())
		compare(t, small(least))
		if Type(least) == "" || Format(small(least)) == "" {
			t.Error("24 levels are not written")
		}
		none(t, "25 levels", small(wrap(least)))
		if got := Type(wrap(least)); got != "" {
			t.Errorf("25 levels: Type is %q", got)
		}
	}
}

// R1: types that are nested as deep as the document allows, of which nothing is
// written.
func TestVeryDeep(t *testing.T) {
	long := small(deep(1 << 16))
	long.Types = []api.Named{{Name: word("t"), Type: long.Root}}
	none(t, "a long chain", long)
	if Type(long.Root) != "" {
		t.Error("a long chain is written")
	}
	other := long
	other.Root = deep(1<<16 + 1)
	if stripped := Strip(long); !Same(long, stripped) || Same(stripped, other) || Same(other, long) {
		t.Error("a long chain is not told from another one")
	}
}

// rich has every field set, in all places, and is not printable.
func rich() api.Schema {
	inner := api.Type{Kind: api.Int, Lo: 1, Hi: 2, Most: 3, Names: numbered(2), Name: word("in")}
	inner.Parts = []api.Part{part("p", api.Type{Kind: api.Ref, Name: word("r")})}
	p := coarseFor(coarse(wide(secret(part("f", inner), "x y"), 5), api.First, 7), "x y")
	q := p
	q.Bare = true
	outer := record(p, part("g", inner), q, bare("h"))
	outer.Names, outer.Name, outer.Lo, outer.Most = numbered(1), word("out"), -1, 9
	return placed(api.Schema{
		Levels: words("a b"),
		Order:  []api.Pair{{Lo: word("a"), Hi: word("b")}, {Lo: word("c"), Hi: word("d")}},
		Types:  []api.Named{{Name: word("t"), Type: outer}, {Name: word("u"), Type: inner}},
		Root:   outer,
	})
}

// P17.2: Same tells every field of every part of a schema, but no position.
func TestSame(t *testing.T) {
	r := rich()
	changed, fields := changes(r)
	if len(changed) < 200 {
		t.Fatalf("only %d changes", len(changed))
	}
	for i, c := range changed {
		want := fields[i] == "At"
		if Same(r, c) != want || Same(c, r) != want || !Same(c, c) || equal(r, c) != want {
			t.Errorf("change %d, of %s: Same is not %v", i, fields[i], want)
		}
	}
}

// P17.2: Same tells lists that are longer, or in another order, but not nil from
// empty ones.
func TestSameLists(t *testing.T) {
	s := rich()
	swapped := []func(s *api.Schema){
		func(s *api.Schema) { slices.Reverse(s.Levels) },
		func(s *api.Schema) { slices.Reverse(s.Order) },
		func(s *api.Schema) { s.Order[0].Lo, s.Order[0].Hi = s.Order[0].Hi, s.Order[0].Lo },
		func(s *api.Schema) { slices.Reverse(s.Types) },
		func(s *api.Schema) { slices.Reverse(s.Root.Parts) },
		func(s *api.Schema) { s.Types[0].Type, s.Types[1].Type = s.Types[1].Type, s.Types[0].Type },
		func(s *api.Schema) { s.Types[0].Type, s.Root = api.Type{}, api.Type{} },
		func(s *api.Schema) { s.Levels = s.Levels[:1] },
		func(s *api.Schema) { s.Order = s.Order[:1] },
		func(s *api.Schema) { s.Types = s.Types[:1] },
		func(s *api.Schema) { s.Levels = append(s.Levels, s.Levels[1]) },
	}
	for i, swap := range swapped {
		c := duplicate(s)
		swap(&c)
		if Same(s, c) || Same(c, s) {
			t.Errorf("change %d is not told", i)
		}
	}
	empty := api.Schema{Levels: []api.Word{}, Order: []api.Pair{}, Types: []api.Named{}, Root: api.Type{Names: []api.Word{}, Parts: []api.Part{}}}
	if !Same(api.Schema{}, empty) || !Same(empty, api.Schema{}) {
		t.Error("nil and empty lists differ")
	}
}

// P17.2: Same of random schemas that differ in one thing, or in none.
func TestRandomSame(t *testing.T) {
	g := generator{rand.New(rand.NewSource(172))}
	same := 0
	for range 5000 {
		a := g.schema()
		b := duplicate(a)
		for range g.Intn(2) {
			spoil(g, &b)
		}
		b = placed(b)
		want := equal(a, b)
		for _, pair := range [][2]api.Schema{{a, b}, {b, a}, {Strip(a), b}, {a, Strip(b)}, {Strip(a), Strip(b)}} {
			if Same(pair[0], pair[1]) != want {
				t.Fatalf("%+v, %+v: Same is not %v", pair[0], pair[1], want)
			}
		}
		if want {
			same++
		}
	}
	if same < 2000 || same > 4500 {
		t.Errorf("%d of 5000 pairs are the same", same)
	}
}

// P17.2: Strip changes all positions and nothing else, whatever the schema is.
func TestStrip(t *testing.T) {
	r := rich()
	if got := Strip(r); !reflect.DeepEqual(got, plain(r)) {
		t.Errorf("Strip is %+v, want %+v", got, plain(r))
	}
	changed, _ := changes(r)
	for i, c := range changed {
		if got := Strip(c); !reflect.DeepEqual(plain(got), plain(c)) || positions(got) != 0 {
			t.Errorf("change %d: Strip is %+v", i, got)
		}
	}
	if got := Strip(api.Schema{}); !reflect.DeepEqual(plain(got), api.Schema{}) {
		t.Errorf("Strip of nothing is %+v", got)
	}
}

// spacious gives each slice of s room, which is filled with its elements.
func spacious(s api.Schema) api.Schema {
	everywhere(&s, func(x reflect.Value, _ string) {
		if x.Kind() == reflect.Slice {
			room := reflect.MakeSlice(x.Type(), 2*x.Len(), 2*x.Len())
			reflect.Copy(room, x)
			reflect.Copy(room.Slice(x.Len(), 2*x.Len()), x)
			x.Set(room.Slice(0, x.Len()))
		}
	})
	return s
}

// stretched returns a copy of s with its slices as long as they have room.
func stretched(s api.Schema) api.Schema {
	everywhere(&s, func(x reflect.Value, _ string) {
		if x.Kind() == reflect.Slice {
			fresh := reflect.MakeSlice(x.Type(), x.Cap(), x.Cap())
			reflect.Copy(fresh, x.Slice(0, x.Cap()))
			x.Set(fresh)
		}
	})
	return s
}

// scribble changes all that the slices of s contain, in place.
func scribble(s api.Schema) {
	inside := func(y reflect.Value, _ string) {
		switch y.Kind() {
		case reflect.Int:
			y.SetInt(-99)
		case reflect.String:
			y.SetString("scribble")
		}
	}
	everywhere(&s, func(x reflect.Value, _ string) {
		if x.Kind() == reflect.Slice {
			for i := range x.Len() {
				walk(x.Index(i), "", inside)
			}
		}
	})
}

// R3: no function changes its arguments, not even beyond the length of a slice,
// and what Strip returns shares no memory with them nor within itself.
func TestMemory(t *testing.T) {
	full, _ := syntax.Parse("levels{a,b}order{a<b,b<a}type t=enum(x,y)root record{n:int(-1..5)@b+a#4~floor(2)@a+b,u:union{p,q(ref(t))~count}}")
	for _, given := range []api.Schema{spacious(rich()), spacious(full)} {
		before := stretched(given)
		Right(given)
		Format(given)
		Type(given.Root)
		Same(given, given)
		stripped := Strip(given)
		if !reflect.DeepEqual(stretched(given), before) {
			t.Error("an argument is changed")
		}
		copied := duplicate(stripped)
		scribble(stripped)
		if !reflect.DeepEqual(stretched(given), before) {
			t.Error("the result shares memory with the argument")
		}
		stripped = Strip(given)
		noShared(t, given, stripped)
		scribble(given)
		if !reflect.DeepEqual(stripped, copied) {
			t.Error("the result retains the argument")
		}
	}
}

// noShared tells if two slices of the schemas overlap, with all their room.
func noShared(t *testing.T, schemas ...api.Schema) {
	t.Helper()
	var used [][2]uintptr
	for i := range schemas {
		everywhere(&schemas[i], func(x reflect.Value, _ string) {
			if x.Kind() == reflect.Slice && x.Cap() > 0 {
				used = append(used, [2]uintptr{x.Pointer(), x.Pointer() + uintptr(x.Cap())*x.Type().Elem().Size()})
			}
		})
	}
	slices.SortFunc(used, func(a, b [2]uintptr) int { return int(a[0]) - int(b[0]) })
	for i := 1; i < len(used); i++ {
		if used[i][0] < used[i-1][1] {
			t.Error("two slices share memory")
		}
	}
}

// R4: a result depends only on the argument, not on what was asked before.
func TestAgain(t *testing.T) {
	g := generator{rand.New(rand.NewSource(4))}
	var schemas []api.Schema
	var texts []string
	for range 200 {
		s := g.schema()
		if g.Intn(3) == 0 {
			spoil(g, &s)
		}
		schemas = append(schemas, s)
		texts = append(texts, Format(s)+"|"+Type(s.Root))
	}
	for _, i := range g.Perm(200) {
		if got := Format(schemas[i]) + "|" + Type(schemas[i].Root); got != texts[i] {
			t.Errorf("%q, then %q", texts[i], got)
		}
	}
}
