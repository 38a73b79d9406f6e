package inhabit

import (
	"fmt"
	"math"
	"math/rand"
	"reflect"
	"slices"
	"strings"
	"testing"

	"blindfold/api"
	"blindfold/resolve"
	"blindfold/syntax"
)

// Short forms of types.

func word(name string) api.Word { return api.Word{Name: name} }

func boolean() api.Type        { return api.Type{Kind: api.Bool} }
func ref(name string) api.Type { return api.Type{Kind: api.Ref, Name: word(name)} }

// whole is an Int from lo to hi.
func whole(lo, hi int) api.Type { return api.Type{Kind: api.Int, Lo: lo, Hi: hi} }

// parts is a Record or a Union with a part of each of these types.
func parts(kind int, types ...api.Type) api.Type {
	r := api.Type{Kind: kind}
	for i, t := range types {
		r.Parts = append(r.Parts, api.Part{Name: word(fmt.Sprint("p", i)), Type: t})
	}
	return r
}

// repeated is n times this type.
func repeated(n int, t api.Type) []api.Type { return slices.Repeat([]api.Type{t}, n) }

// at is the type with another position.
func at(place int, t api.Type) api.Type {
	t.At = place
	return t
}

// plan is the plan of types named t0, t1, .., and the root.
func plan(t *testing.T, root api.Type, types ...api.Type) *resolve.Plan {
	t.Helper()
	s := api.Schema{Levels: []api.Word{word("a")}, Root: root}
	for i, typ := range types {
		s.Types = append(s.Types, api.Named{Name: word(fmt.Sprint("t", i)), Type: typ})
	}
	p, f := resolve.Build(s)
	if f.E != 0 {
		t.Fatal(f)
	}
	return p
}

// parse is the plan of the schema with the text, from which the mark ^ is removed,
// and the place of that mark.
func parse(t *testing.T, text string) (*resolve.Plan, int) {
	t.Helper()
	before, after, _ := strings.Cut(text, "^")
	s, f := syntax.Parse(before + after)
	if f.E != 0 {
		t.Fatalf("%q: %v", text, f)
	}
	p, f := resolve.Build(s)
	if f.E != 0 {
		t.Fatalf("%q: %v", text, f)
	}
	return p, len(before)
}

// summary is the depths of all nodes, with a mark + behind those of nodes with at
// least two values.
func summary(depths []int, several []bool) string {
	var l []string
	for i, d := range depths {
		text := fmt.Sprint(d)
		if several[i] {
			text += "+"
		}
		l = append(l, text)
	}
	return strings.Join(l, " ")
}

// The chapter's examples: a record that contains itself, and one that contains an
// Opt of itself.
func TestExamples(t *testing.T) {
	p, place := parse(t, "levels {a} type t = ^record{x: ref(t)} root ref(t)")
	if got := Depths(p); !slices.Equal(got, []int{0}) {
		t.Errorf("itself: Depths = %v", got)
	}
	if got := Several(p); !slices.Equal(got, []bool{false}) {
		t.Errorf("itself: Several = %v", got)
	}
	if got := Check(p); got != (api.Fault{E: api.ErrLoop, At: place}) {
		t.Errorf("itself: Check = %v", got)
	}
	p, _ = parse(t, "levels {a} type t = record{x: opt(ref(t))} root ref(t)")
	if got := Depths(p); !slices.Equal(got, []int{2, 1}) {
		t.Errorf("an Opt of itself: Depths = %v", got)
	}
	if got := Several(p); !slices.Equal(got, []bool{true, true}) {
		t.Errorf("an Opt of itself: Several = %v", got)
	}
	if got := Check(p); got != (api.Fault{}) {
		t.Errorf("an Opt of itself: Check = %v", got)
	}
}

// P19.1: types of each kind, with no, one and several values.
func TestByHand(t *testing.T) {
	cases := map[string]string{
		// Types that contain none.
		"root bool":                 "1+",
		"root int(3..3)":            "1",
		"root int(3..4)":            "1+",
		"root int(-1..0)":           "1+",
		"root int(-5..-5)":          "1",
		"root int(0..0)":            "1",
		"root text(0)":              "1",
		"root text(1)":              "1+",
		"root text(4096)":           "1+",
		"root enum(x)":              "1",
		"root enum(x, y)":           "1+",
		"root enum(x, y, z)":        "1+",
		"root record{}":             "1",
		"root union{p}":             "1",
		"root union{p, q}":          "1+",
		"root union{p, q, r}":       "1+",
		"type t = bool root ref(t)": "1+",

		// A List may be empty, and an Opt nothing.
		"root opt(bool)":                                          "1+ 1+",
		"root opt(int(1..1))":                                     "1+ 1",
		"root list(bool, 0)":                                      "1 1+",
		"root list(bool, 1)":                                      "1+ 1+",
		"root list(enum(x), 0)":                                   "1 1",
		"root list(enum(x), 1)":                                   "1+ 1",
		"root list(enum(x), 1024)":                                "1+ 1",
		"root list(list(bool, 0), 1)":                             "1+ 1 1+",
		"root list(list(bool, 1), 0)":                             "1 1+ 1+",
		"type t = record{a: ref(t)} root opt(ref(t))":             "0 1",
		"type t = record{a: ref(t)} root list(ref(t), 0)":         "0 1",
		"type t = record{a: ref(t)} root list(ref(t), 3)":         "0 1",
		"type t = record{a: ref(t)} root opt(opt(ref(t)))":        "0 1+ 1",
		"type t = record{a: ref(t)} root list(opt(ref(t)), 1)":    "0 1+ 1",
		"type t = opt(ref(t)) root bool":                          "1+ 1+",
		"type t = list(ref(t), 0) root bool":                      "1 1+",
		"type t = list(ref(t), 1) root bool":                      "1+ 1+",
		"type t = opt(ref(u)) type u = list(ref(t), 0) root bool": "1+ 1 1+",

		// A Record needs a value for each field, a Union for one tag.
		"root record{a: bool}":                                     "2+ 1+",
		"root record{a: enum(x)}":                                  "2 1",
		"root record{a: enum(x), b: int(1..1), c: text(0)}":        "2 1 1 1",
		"root record{a: enum(x), b: int(1..2), c: text(0)}":        "2+ 1 1+ 1",
		"root record{a: bool, b: bool}":                            "2+ 1+ 1+",
		"root record{a: record{b: bool}, c: bool}":                 "3+ 2+ 1+ 1+",
		"root record{c: enum(x), a: record{b: record{}}}":          "3 1 2 1",
		"root record{a: record{}, b: record{}}":                    "2 1 1",
		"type t = record{a: bool, b: ref(t)} root bool":            "0 1+ 1+",
		"type t = record{a: ref(t), b: bool} root bool":            "0 1+ 1+",
		"type t = record{a: bool, b: ref(t), c: bool} root ref(t)": "0 1+ 1+",
		"root union{a(bool)}":                                      "2+ 1+",
		"root union{a(enum(x))}":                                   "2 1",
		"root union{a(enum(x)), b(enum(x))}":                       "2+ 1 1",
		"root union{a(enum(x)), b}":                                "1+ 1",
		"root union{b, a(enum(x))}":                                "1+ 1",
		"root union{a(record{b: bool}), c(bool)}":                  "2+ 2+ 1+ 1+",
		"root union{c(enum(x)), a(record{b: enum(x)})}":            "2+ 1 2 1",
		"root union{a(record{b: record{c: enum(x)}})}":             "4 3 2 1",
		"type t = union{a(ref(t))} root bool":                      "0 1+",
		"type t = union{a(ref(t)), b(ref(t))} root bool":           "0 1+",
		"type t = union{a(ref(t)), b} root bool":                   "1+ 1+",
		"type t = union{a(ref(t)), b(enum(x))} root bool":          "2+ 1 1+",
		"type t = union{a(enum(x)), b(ref(t))} root bool":          "2+ 1 1+",

		// What has no value adds none.
		"type t = record{a: ref(t)} root union{a, b(ref(t))}":          "0 1",
		"type t = record{a: ref(t)} root union{b(ref(t)), a}":          "0 1",
		"type t = record{a: ref(t)} root union{a(ref(t)), b(enum(x))}": "0 2 1",
		"type t = record{a: ref(t)} root union{a(ref(t)), b(bool)}":    "0 2+ 1+",
		"type t = record{a: ref(t)} root union{a(ref(t)), b(ref(t))}":  "0 0",
		"type t = record{a: ref(t)} root record{a: bool, b: ref(t)}":   "0 0 1+",
		"type t = record{a: ref(t)} root record{a: opt(ref(t))}":       "0 2 1",

		// Types that contain each other.
		"type t = record{a: ref(u)} type u = record{a: ref(t)} root bool":                                        "0 0 1+",
		"type t = record{a: ref(u)} type u = union{a(ref(t))} root ref(u)":                                       "0 0",
		"type t = record{a: ref(u)} type u = union{a(ref(t)), b} root bool":                                      "2+ 1+ 1+",
		"type t = union{a(ref(u)), b(ref(v))} type u = record{a: ref(v)} type v = record{} root bool":            "2+ 2 1 1+",
		"type t = union{a(ref(u))} type u = union{a(ref(t)), b(ref(v))} type v = record{a: enum(x)} root ref(t)": "4+ 3+ 2 1",
		"type t = record{a: ref(u), b: ref(v)} type u = record{a: ref(v)} type v = enum(x) root bool":            "3 2 1 1+",
		"type t = list(ref(u), 4) type u = record{a: ref(t)} root bool":                                          "1+ 2+ 1+",
		"type t = list(ref(u), 0) type u = record{a: ref(t)} root bool":                                          "1 2 1+",

		// A tree has no single value, but the first of its values has no depth more
		// than it needs.
		"type t = union{node(record{l: ref(t), r: ref(t)}), leaf(int(1..1))} root ref(t)": "2+ 3+ 1",
		"type t = record{l: ref(t), r: union{z, s(ref(t))}} root bool":                    "0 1 1+",

		// The numbers of Refs are those of their types.
		"type t = ref(u) type u = enum(x) root record{a: ref(t), b: bool, c: ref(u)}": "1 2+ 1+",
	}
	for text, want := range cases {
		p, _ := parse(t, "levels {a} "+text)
		depths, several, _ := compare(t, p)
		if got := summary(depths, several); got != want {
			t.Errorf("%s: %s, want %s", text, got, want)
		}
	}
}

// P19.1: numbers at the ends of the ints, between which there are more than an int
// can tell.
func TestExtremeInts(t *testing.T) {
	cases := []struct {
		lo, hi  int
		several bool
	}{
		{math.MinInt, math.MaxInt, true}, {math.MinInt, math.MinInt, false}, {math.MaxInt, math.MaxInt, false},
		{math.MinInt, math.MinInt + 1, true}, {math.MaxInt - 1, math.MaxInt, true}, {-1, math.MaxInt, true},
		{math.MinInt, 0, true}, {math.MinInt, 1, true}, {-2, math.MaxInt, true},
	}
	for _, c := range cases {
		_, several, _ := compare(t, plan(t, whole(c.lo, c.hi)))
		if several[0] != c.several {
			t.Errorf("%d to %d: %v", c.lo, c.hi, several[0])
		}
	}
}

// P19.1: so many parts that their numbers of values, multiplied, are more than an int
// can tell.
func TestManyParts(t *testing.T) {
	void := parts(api.Record, ref("t0"))
	cases := []struct {
		what  string
		root  api.Type
		first string
	}{
		{"64 bools in a record", parts(api.Record, repeated(64, boolean())...), "2+"},
		{"64 bools in a union", parts(api.Union, repeated(64, boolean())...), "2+"},
		{"64 times one value in a record", parts(api.Record, repeated(64, whole(1, 1))...), "2"},
		{"64 times one value in a union", parts(api.Union, repeated(64, whole(1, 1))...), "2+"},
		{"63 bools and a loop in a record", parts(api.Record, append(repeated(63, boolean()), ref("t0"))...), "0"},
		{"a loop and 63 bools in a record", parts(api.Record, append(repeated(1, ref("t0")), repeated(63, boolean())...)...), "0"},
		{"63 loops and a bool in a union", parts(api.Union, append(repeated(63, ref("t0")), boolean())...), "2+"},
		{"63 loops and one value in a union", parts(api.Union, append(repeated(63, ref("t0")), whole(1, 1))...), "2"},
		{"64 loops in a union", parts(api.Union, repeated(64, ref("t0"))...), "0"},
	}
	for _, c := range cases {
		depths, several, _ := compare(t, plan(t, c.root, void))
		if got := summary(depths[1:2], several[1:2]); got != c.first {
			t.Errorf("%s: %s, want %s", c.what, got, c.first)
		}
	}
}

// nested is the text of a type, in n records.
func nested(n int, text string) string {
	return strings.Repeat("record{x: ", n) + text + strings.Repeat("}", n)
}

// chain is 64 named types of 7 records each, and a Ref to the next type in these;
// the last one is 6 records with last in them.
func chain(last string) []string {
	var list []string
	for i := range api.MaxTypes - 1 {
		list = append(list, fmt.Sprintf("type t%d = %s", i, nested(7, fmt.Sprintf("ref(t%d)", i+1))))
	}
	return append(list, "type t63 = "+nested(6, last))
}

// P19.1: the longest ways to a value, towards later and towards earlier nodes, and
// as long a way to none.
func TestLongWays(t *testing.T) {
	for last, want := range map[string]string{"bool": "448+ 7+", "int(1..1)": "448 7", "ref(t9)": "0 0", "ref(t63)": "0 0"} {
		list := chain(last)
		for range 2 {
			p, _ := parse(t, "levels {a} "+strings.Join(list, " ")+" root ref(t0)")
			depths, several, _ := compare(t, p)
			var ends []string
			for _, name := range []string{"t0", "t63"} {
				i, _ := p.Find(name)
				ends = append(ends, summary(depths[i:i+1], several[i:i+1]))
			}
			if got := strings.Join(ends, " "); got != want {
				t.Errorf("%s: %s, want %s", last, got, want)
			}
			slices.Reverse(list)
		}
	}
}

// P19.1: of several ways to a value the shortest one counts, wherever its nodes
// stand.
func TestShortestWay(t *testing.T) {
	for _, tags := range []string{
		"a(ref(l)), b(ref(s))",
		"a(ref(s)), b(ref(l))",
		"a(ref(l)), b(ref(s)), c(ref(l))",
		"a(ref(u)), b(ref(l)), c(ref(s))",
		"a(ref(n)), b(ref(s)), c(ref(l)), d(ref(u))",
	} {
		list := []string{
			"type l = " + nested(9, "enum(k)"), "type s = " + nested(2, "enum(k)"),
			"type u = union{" + tags + "}", "type n = record{x: ref(n)}",
		}
		// Every type stands first, and behind every other one.
		for range 2 {
			for range list {
				p, _ := parse(t, "levels {a} "+strings.Join(list, " ")+" root bool")
				u, _ := p.Find("u")
				if depths, _, _ := compare(t, p); depths[u] != 4 {
					t.Errorf("%s: node %d of %v", list, u, depths)
				}
				list = append(list[1:], list[0])
			}
			slices.Reverse(list)
		}
	}
}

// P19.1, P19.2, R5: no plan, and one that no function created.
func TestNoPlan(t *testing.T) {
	for _, p := range []*resolve.Plan{nil, {}} {
		if got := Depths(p); len(got) != 0 {
			t.Errorf("%v: Depths = %v", p, got)
		}
		if got := Several(p); len(got) != 0 {
			t.Errorf("%v: Several = %v", p, got)
		}
	}
	if got := Check(nil); got != (api.Fault{E: api.ErrArg}) {
		t.Errorf("Check(nil) = %v", got)
	}
	// A zero plan is not nil and has no node without a value.
	if got := Check(&resolve.Plan{}); got != (api.Fault{}) {
		t.Errorf("Check of a zero plan = %v", got)
	}
}

// P19.2: the fault stands at the first node that has no value, at the mark ^; the
// root need not lead to it.
func TestCheckByHand(t *testing.T) {
	for _, text := range []string{
		"type t = ^record{x: ref(t)} root bool",
		"type t = ^record{x: ref(t)} root ref(t)",
		"type t = bool type u = ^union{a(ref(u))} root ref(t)",
		"type t = opt(ref(u)) type u = ^record{x: ref(u)} root ref(t)",
		"type t = ^record{x: ref(u)} type u = record{x: ref(t)} root bool",
		"type t = ref(u) type u = ^record{x: ref(t)} root bool",
		"type t = record{x: opt(^record{y: bool, z: ref(u)})} type u = union{p(ref(u))} root bool",
		"type t = ^record{x: opt(record{y: ref(t)}), z: ref(t)} root bool",
		"type t = opt(^record{x: opt(bool), y: ref(u)}) type u = record{x: list(bool, 3), y: ref(u)} root bool",
		"type t = union{p, q(^record{x: ref(u)})} type u = record{x: ref(u)} root ref(u)",
		"type t = list(^record{x: list(ref(t), 0), y: ref(u)}, 5) type u = record{x: ref(u)} root ref(u)",
	} {
		p, place := parse(t, "levels {a} "+text)
		if _, _, f := compare(t, p); f != (api.Fault{E: api.ErrLoop, At: place}) {
			t.Errorf("%s: %v, want a loop at %d", text, f, place)
		}
	}
	for _, text := range []string{
		"root bool",
		"type t = opt(ref(t)) root bool",
		"type t = list(ref(t), 0) root record{}",
		"type t = union{p, q(ref(t))} root record{a: ref(t), b: list(ref(t), 9)}",
	} {
		p, _ := parse(t, "levels {a} "+text)
		if _, _, f := compare(t, p); f != (api.Fault{}) {
			t.Errorf("%s: %v", text, f)
		}
	}
}

// P19.2: the first node is the one with the least number, whatever the positions
// are.
func TestCheckPositions(t *testing.T) {
	for _, places := range [][2]int{{900, 5}, {5, 900}, {-7, -8}, {0, 3}, {math.MinInt, 1}, {math.MaxInt, math.MinInt}} {
		p := plan(t, at(1, boolean()), at(2, boolean()), at(places[0], parts(api.Record, ref("t1"))), at(places[1], parts(api.Record, ref("t2"))))
		if _, _, f := compare(t, p); f != (api.Fault{E: api.ErrLoop, At: places[0]}) {
			t.Errorf("%v: %v", places, f)
		}
	}
}

// P19.1, P19.2, P19.3: random schemas, many of them with types without values.
func TestRandom(t *testing.T) {
	g := rand.New(rand.NewSource(19))
	seen := map[string]int{}
	for range 30000 {
		p, f := resolve.Build(maker{Rand: g}.schema())
		if f.E != 0 {
			seen[fmt.Sprint("fault ", f.E)]++
			continue
		}
		depths, several, f := compare(t, p)
		seen[fmt.Sprint("check ", f.E)]++
		for i, d := range depths {
			seen[fmt.Sprintf("depth %d %v", min(d, 6), several[i])]++
		}
	}
	for _, what := range []string{
		"check 0", "check 11", "depth 0 false", "depth 1 false", "depth 1 true", "depth 2 false", "depth 2 true",
		"depth 3 false", "depth 3 true", "depth 4 false", "depth 4 true", "depth 5 true", "depth 6 true",
	} {
		if seen[what] < 100 {
			t.Errorf("%s: only %d times", what, seen[what])
		}
	}
	// A fault of Build is only that of a loop of Refs.
	for what := range seen {
		if strings.HasPrefix(what, "fault") && what != "fault 11" {
			t.Errorf("%s: %d times", what, seen[what])
		}
	}
}

// R3: results are new memory, and the plan stays as it is.
func TestMemory(t *testing.T) {
	p, _ := parse(t, "levels {a} type t = record{x: ref(t)} type u = record{x: opt(ref(u))} root enum(k)")
	nodes := nodesIn(p)
	for range 2 {
		depths, several := Depths(p), Several(p)
		if !slices.Equal(depths, []int{0, 2, 1, 1}) || !slices.Equal(several, []bool{false, true, true, false}) {
			t.Fatalf("%v, %v", depths, several)
		}
		for i := range depths {
			depths[i], several[i] = 7, !several[i]
		}
		if f := Check(p); f.E != api.ErrLoop || f.At != nodes[0].At {
			t.Fatalf("Check = %v", f)
		}
	}
	if !reflect.DeepEqual(nodesIn(p), nodes) {
		t.Errorf("the plan is %+v now", nodesIn(p))
	}
}
