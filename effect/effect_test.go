package effect

import (
	"fmt"
	"math"
	"math/bits"
	"math/rand"
	"reflect"
	"slices"
	"strings"
	"testing"

	"blindfold/api"
	"blindfold/paths"
	"blindfold/resolve"
	"blindfold/syntax"
)

// Short forms of types and words.

func word(name string) api.Word { return api.Word{Name: name} }

func words(names ...string) []api.Word {
	var list []api.Word
	for _, name := range names {
		list = append(list, word(name))
	}
	return list
}

func boolean() api.Type        { return api.Type{Kind: api.Bool} }
func ref(name string) api.Type { return api.Type{Kind: api.Ref, Name: word(name)} }

// parse is the plan of the schema with the text, from which the mark ^ is removed,
// and the place of that mark.
func parse(t *testing.T, text string) (*resolve.Plan, int) {
	t.Helper()
	before, after, _ := strings.Cut(text, "^")
	s, f := syntax.Parse(before + after)
	if f.E != 0 {
		t.Fatalf("%q: %v", text, f)
	}
	p, f := resolve.Build(s)
	if f.E != 0 {
		t.Fatalf("%q: %v", text, f)
	}
	return p, len(before)
}

// path is the steps with these texts, one behind the other, whatever their number is.
func path(t *testing.T, text ...string) []api.Step {
	t.Helper()
	var l []api.Step
	for _, s := range text {
		steps, f := paths.Parse(s)
		if f.E != 0 {
			t.Fatalf("%q: %v", s, f)
		}
		l = append(l, steps...)
	}
	return l
}

// walked is what Walk returns, with the name of the level.
func walked(p *resolve.Plan, l []api.Step) string {
	node, level, ok := Walk(p, l)
	if !ok {
		return fmt.Sprint(node, level)
	}
	return fmt.Sprint(node, " ", p.Lattice().Name(level))
}

// reached is the names of the levels of each node, with - for a node without levels.
func reached(p *resolve.Plan) string {
	var all []string
	for _, levels := range Reach(p) {
		text := "-"
		var list []string
		for _, level := range levels {
			list = append(list, p.Lattice().Name(level))
		}
		if len(list) > 0 {
			text = strings.Join(list, ",")
		}
		all = append(all, text)
	}
	return strings.Join(all, " ")
}

const (
	// chain is three levels, the bottom first.
	chain = "levels {lo, mid, hi} order {lo < mid < hi} "
	// diamond is levels in which the top comes first and the bottom last.
	diamond = "levels {hi, a, b, lo} order {lo < a < hi, lo < b < hi} "
)

// The chapter's example: x labelled high in the root.
func TestExample(t *testing.T) {
	p, _ := parse(t, "levels {low, high} order {low < high} root record{x: bool @high}")
	if node, level, ok := Walk(p, path(t, ".x")); node != 1 || level != 1 || !ok {
		t.Errorf("Walk = %d, %d, %v", node, level, ok)
	}
	if got := reached(p); got != "low high" {
		t.Errorf("Reach = %s", got)
	}
	if f := Check(p); f != (api.Fault{}) {
		t.Errorf("Check = %v", f)
	}
}

// P20.1: coarse views of each kind, of parts of the right kind and strictly below
// their labels.
func TestCheckFine(t *testing.T) {
	for _, text := range []string{
		chain + "root bool",
		chain + "root record{x: bool @hi, y: int(0..9)}",
		chain + "root record{x: int(0..9) @mid ~floor(2)}",
		chain + "root record{x: int(0..9) @hi ~floor(2) @mid}",
		chain + "root record{x: int(0..9) @lo+mid ~floor(2) @lo}",
		chain + "root record{x: text(9) @mid ~first(0)}",
		chain + "root record{x: text(9) @hi ~first(4096) @lo+mid}",
		chain + "root record{x: list(bool, 9) @mid ~count}",
		chain + "root record{x: list(int(0..9), 0) @hi ~count @mid}",
		chain + "root union{x(int(0..9)) @hi ~floor(2) @mid, y}",
		chain + "root union{y, x(text(2)) @hi ~first(1), z(list(bool, 2)) @mid ~count}",
		diamond + "root record{x: int(0..9) @a ~floor(2)}",
		diamond + "root record{x: int(0..9) @b ~floor(2) @lo}",
		diamond + "root record{x: int(0..9) @hi ~floor(2) @a}",
		diamond + "root record{x: int(0..9) @a+b ~floor(2) @b}",
		// A Ref stands for the type to which it leads, even from Ref to Ref.
		chain + "type t = int(0..9) root record{x: ref(t) @hi ~floor(2)}",
		chain + "type t = ref(u) type u = text(4) root record{x: ref(t) @hi ~first(2)}",
		chain + "type t = ref(u) type u = list(ref(t), 4) root record{x: ref(t) @hi ~count}",
		// What stands around the part does not matter.
		chain + "root record{x: record{y: int(0..9) @mid ~floor(2)} @hi}",
		chain + "root opt(list(record{y: int(0..9) @mid ~floor(2)}, 0))",
	} {
		p, _ := parse(t, text)
		if _, f := compare(t, p, map[string]int{}); f != (api.Fault{}) {
			t.Errorf("%s: %v", text, f)
		}
	}
}

// P20.1: the first coarse view that is wrong is that with the mark ^.
func TestCheckWrong(t *testing.T) {
	cases := map[string]api.Errno{
		// Of another kind.
		"root record{x: bool @hi ~^count}":                                 api.ErrType,
		"root record{x: bool @hi ~^floor(2)}":                              api.ErrType,
		"root record{x: bool @hi ~^first(2)}":                              api.ErrType,
		"root record{x: int(0..9) @hi ~^first(2)}":                         api.ErrType,
		"root record{x: int(0..9) @hi ~^count}":                            api.ErrType,
		"root record{x: text(9) @hi ~^floor(2)}":                           api.ErrType,
		"root record{x: text(9) @hi ~^count}":                              api.ErrType,
		"root record{x: enum(k) @hi ~^floor(2)}":                           api.ErrType,
		"root record{x: enum(k) @hi ~^first(2)}":                           api.ErrType,
		"root record{x: list(int(0..9), 9) @hi ~^floor(2)}":                api.ErrType,
		"root record{x: list(text(9), 9) @hi ~^first(2)}":                  api.ErrType,
		"root record{x: opt(int(0..9)) @hi ~^floor(2)}":                    api.ErrType,
		"root record{x: opt(text(9)) @hi ~^first(2)}":                      api.ErrType,
		"root record{x: opt(list(bool, 9)) @hi ~^count}":                   api.ErrType,
		"root record{x: record{y: int(0..9)} @hi ~^floor(2)}":              api.ErrType,
		"root record{x: union{y, z} @hi ~^count}":                          api.ErrType,
		"root union{y, x(bool) @hi ~^count}":                               api.ErrType,
		"type t = bool root record{x: ref(t) @hi ~^count}":                 api.ErrType,
		"type t = ref(u) type u = text(3) root record{x: ref(t) ~^count}":  api.ErrType,
		"type t = record{x: ref(t) @hi ~^count} root bool":                 api.ErrType,
		"type t = record{x: ref(u) @hi ~^count} type u = bool root ref(t)": api.ErrType,

		// Seen not strictly below.
		"root record{x: int(0..9) ~^floor(2)}":                                 api.ErrFlow,
		"root record{x: int(0..9) @lo ~^floor(2)}":                             api.ErrFlow,
		"root record{x: int(0..9) @lo ~^floor(2) @lo}":                         api.ErrFlow,
		"root record{x: int(0..9) ~^floor(2) @hi}":                             api.ErrFlow,
		"root record{x: int(0..9) @hi ~^floor(2) @hi}":                         api.ErrFlow,
		"root record{x: int(0..9) @a ~^floor(2) @a}":                           api.ErrFlow,
		"root record{x: int(0..9) @a ~^floor(2) @hi}":                          api.ErrFlow,
		"root record{x: int(0..9) @a ~^floor(2) @b}":                           api.ErrFlow,
		"root record{x: int(0..9) @b ~^floor(2) @a}":                           api.ErrFlow,
		"root record{x: int(0..9) @hi ~^floor(2) @a+b}":                        api.ErrFlow,
		"root record{x: int(0..9) @a+b ~^floor(2) @hi}":                        api.ErrFlow,
		"root record{x: text(9) @a ~^first(2) @b}":                             api.ErrFlow,
		"root record{x: text(9) ~^first(2)}":                                   api.ErrFlow,
		"root record{x: list(bool, 9) @b ~^count @hi}":                         api.ErrFlow,
		"root record{x: list(bool, 9) ~^count}":                                api.ErrFlow,
		"root union{y, x(text(9)) @a ~^first(2) @a}":                           api.ErrFlow,
		"type t = ref(u) type u = int(0..1) root record{x: ref(t) ~^floor(2)}": api.ErrFlow,

		// The kind comes ahead of the levels.
		"root record{x: bool ~^count}":                 api.ErrType,
		"root record{x: text(3) @a ~^floor(2) @b}":     api.ErrType,
		"root union{x(opt(text(3))) @a ~^first(2) @a}": api.ErrType,

		// The first one in the order of the nodes, and of the edges of each; all that
		// a node itself has comes ahead of what the nodes in it have.
		"root record{x: int(0..9) ~^floor(2), y: bool @hi ~count}":                                     api.ErrFlow,
		"root record{x: bool @hi ~^count, y: int(0..9) ~floor(2)}":                                     api.ErrType,
		"root record{w: int(0..9) @hi ~floor(2), x: bool, y: bool ~^count, z: text(2) ~first(1)}":      api.ErrType,
		"root record{x: record{y: bool ~count}, z: int(0..9) ~^floor(2)}":                              api.ErrFlow,
		"root record{x: record{y: bool ~^count}, z: int(0..9) @hi ~floor(2)}":                          api.ErrType,
		"root record{x: opt(record{y: bool ~^count}), z: union{v(text(2)) ~first(1)}}":                 api.ErrType,
		"root record{x: opt(record{y: record{z: text(1) ~first(0)}, z: text(1) ~^first(0)})}":          api.ErrFlow,
		"type t = record{x: int(0..9) ~^floor(2)} root record{x: bool ~count}":                         api.ErrFlow,
		"type t = record{x: ref(u)} type u = record{x: bool ~^count} root record{x: int(0..9)}":        api.ErrType,
		"type t = record{x: int(0..9) @a ~floor(2)} root record{x: ref(t) @hi ~^count, y: ref(t)}":     api.ErrType,
		"type u = record{x: bool ~^count} type t = record{x: text(3) ~first(1)} root union{x(ref(t))}": api.ErrType,
	}
	for text, want := range cases {
		p, at := parse(t, diamond+text)
		if _, f := compare(t, p, map[string]int{}); f != (api.Fault{E: want, At: at}) {
			t.Errorf("%s: %v, want %v at %d", text, f, want, at)
		}
	}
}

// P20.1: the first one is the one with the least numbers of node and edge, whatever
// the positions are.
func TestCheckPositions(t *testing.T) {
	coarse := func(name string, at int) api.Part {
		return api.Part{Name: word(name), Type: boolean(), Coarse: api.Coarse{Kind: api.Count, At: at}}
	}
	for _, at := range [][2]int{{900, 5}, {5, 900}, {-7, -8}, {0, 3}, {math.MinInt, 1}, {math.MaxInt, math.MinInt}} {
		one := api.Type{Kind: api.Record, At: 3, Parts: []api.Part{coarse("x", at[0]), coarse("y", at[1])}}
		two := api.Type{Kind: api.Record, Parts: []api.Part{coarse("x", at[1])}}
		p, _ := resolve.Build(api.Schema{Levels: words("a"), Types: []api.Named{{Name: word("t"), Type: one}}, Root: two})
		if _, f := compare(t, p, map[string]int{}); f != (api.Fault{E: api.ErrType, At: at[0]}) {
			t.Errorf("%v: %v", at, f)
		}
	}
}

// P20.2: the levels of all nodes.
func TestReachByHand(t *testing.T) {
	cases := map[string]string{
		chain + "root bool":                                    "lo",
		chain + "type t = bool root int(0..9)":                 "- lo",
		chain + "type t = bool root ref(t)":                    "lo",
		chain + "root opt(bool)":                               "lo lo",
		chain + "root list(bool, 3)":                           "lo lo",
		chain + "root record{x: bool, y: bool @mid}":           "lo lo mid",
		chain + "root union{x, y(bool) @mid, z}":               "lo mid",
		chain + "root union{x(bool) @mid, y(text(3)) @mid+hi}": "lo mid hi",
		chain + "root record{x: record{y: bool} @mid}":         "lo mid mid",
		chain + "root record{x: record{y: bool @mid} @hi}":     "lo hi hi",
		chain + "root record{x: record{y: bool @hi} @mid}":     "lo mid hi",
		chain + "root record{x: opt(list(bool, 3)) @mid}":      "lo mid mid mid",
		// What a part shows in its place does not matter, nor whether a list may have items.
		chain + "root record{x: int(0..9) @hi ~floor(2) @mid}": "lo hi",
		chain + "root record{x: list(bool, 0) @hi ~count}":     "lo hi hi",
		// The bottom is not always the first level, and levels come by their numbers.
		diamond + "root bool":                             "lo",
		diamond + "root record{x: bool, y: bool @a+b}":    "lo lo hi",
		diamond + "root record{x: record{y: bool @a} @b}": "lo b hi",
		diamond + "type t = bool root record{x: ref(t), y: ref(t) @b, z: ref(t) @a, u: ref(t) @a+b}": "hi,a,b,lo lo",
		diamond + "type t = bool root record{x: ref(t) @b, y: record{z: ref(t) @b} @a}":              "hi,b lo a",
		// A type that contains itself.
		diamond + "type t = record{x: opt(ref(t)) @a} root ref(t)":                                                     "a,lo a",
		diamond + "type t = record{x: opt(ref(t))} root record{y: ref(t) @b}":                                          "b b lo",
		diamond + "type t = union{x(ref(u)) @a, y} type u = list(ref(t), 3) root ref(t)":                               "a,lo a",
		diamond + "type t = union{x(ref(t)) @a, y(ref(t)) @b, z} root ref(t)":                                          "hi,a,b,lo",
		diamond + "type t = union{x(ref(t)) @a, y(ref(t)) @b, z} root record{w: ref(t) @b}":                            "hi,b lo",
		diamond + "type t = record{x: ref(t) @a} root bool":                                                            "- lo",
		diamond + "type t = record{x: ref(t) @a} root ref(t)":                                                          "a,lo",
		chain + "type t = union{x(ref(u)) @mid, y} type u = union{x(ref(t)) @hi, y} root record{z: ref(t), w: ref(u)}": "lo,hi lo,mid,hi lo",
		// Only some of the named types are in the root.
		chain + "type t = opt(ref(u)) type u = record{x: bool @mid} type v = list(ref(u), 1) root record{w: ref(v) @hi}": "- hi hi hi lo",
	}
	for text, want := range cases {
		p, _ := parse(t, text)
		compare(t, p, map[string]int{})
		if got := reached(p); got != want {
			t.Errorf("%s: %s, want %s", text, got, want)
		}
	}
}

// P20.2: nodes 0 to 4 are t, its opt, its union, a bool of that and the list u; nodes
// 5 to 7 are the root, a list that is empty, and an int.
const big = diamond + `
	type t = record{o: opt(ref(u)) @a, c: union{bare, full(bool) @b, again(ref(t))}}
	type u = list(ref(t), 3)
	root record{t: ref(t), u: ref(u) @b, none: list(int(0..9), 0), bare: ref(t) @a}`

// P20.2: paths into all kinds of nodes, and steps that lead nowhere.
func TestWalkByHand(t *testing.T) {
	p, _ := parse(t, big)
	compare(t, p, map[string]int{})
	cases := map[string]string{
		"":                         "5 lo",
		".t":                       "0 lo",
		".t.o":                     "1 a",
		".t.o?":                    "4 a",
		".t.o?[0]":                 "0 a",
		".t.o?[2]":                 "0 a",
		".t.o?[]":                  "0 a",
		".t.o?[].c":                "2 a",
		".t.o?[1].c!full":          "3 hi",
		".t.c!full":                "3 b",
		".t.c!again":               "0 lo",
		".t.c!again.c!full":        "3 b",
		".t.c!again.c!again.o?":    "4 a",
		".u":                       "4 b",
		".u[0]":                    "0 b",
		".u[].o?[].c!again":        "0 hi",
		".none":                    "6 lo",
		".bare":                    "0 a",
		".bare.c":                  "2 a",
		".bare.o?[2].c!again.o?[]": "0 a",

		// Nothing has the name, or only something of another node.
		".x": "-1 -1", ".o": "-1 -1", ".t.t": "-1 -1", ".t.c!x": "-1 -1", ".t.c!o": "-1 -1", ".x.x": "-1 -1",
		// A Bare tag has no content.
		".t.c!bare": "-1 -1", ".t.c!bare!bare": "-1 -1",
		// Fields and tags are not each other.
		"!t": "-1 -1", ".t!c": "-1 -1", ".t.c.full": "-1 -1", ".t.c.bare": "-1 -1", ".t.c.again": "-1 -1",
		// A list that has no such item, or none.
		".u[3]": "-1 -1", ".u[4]": "-1 -1", ".u[9223372036854775807]": "-1 -1", ".none[0]": "-1 -1", ".none[1]": "-1 -1", ".none[]": "-1 -1",
		// Kinds of nodes without such a step.
		"[0]": "-1 -1", "[]": "-1 -1", "?": "-1 -1", ".t[0]": "-1 -1", ".t[]": "-1 -1", ".t?": "-1 -1",
		".u?": "-1 -1", ".u.t": "-1 -1", ".u!t": "-1 -1", ".t.o[0]": "-1 -1", ".t.o[]": "-1 -1", ".t.o.t": "-1 -1", ".t.o!t": "-1 -1",
		".t.c?": "-1 -1", ".t.c[0]": "-1 -1", ".t.c[]": "-1 -1",
		".t.c!full.x": "-1 -1", ".t.c!full?": "-1 -1", ".t.c!full[]": "-1 -1", ".t.c!full[0]": "-1 -1", ".t.c!full!x": "-1 -1",
		// What follows a step that leads nowhere leads nowhere.
		".x.t": "-1 -1", "?.t": "-1 -1", ".u[3].c": "-1 -1", ".none[].t": "-1 -1", "!t.c": "-1 -1",
	}
	for text, want := range cases {
		if got := walked(p, path(t, text)); got != want {
			t.Errorf("%q: %s, want %s", text, got, want)
		}
	}
}

// P20.2: steps that are none, first, in the middle and last, where a step that is one
// would lead on.
func TestWrongSteps(t *testing.T) {
	p, _ := parse(t, big)
	cases := map[string][]api.Step{
		".t": {
			{Kind: api.SField, Name: "t", N: 1}, {Kind: api.SField, Name: "t", N: -1}, {Kind: api.SField, Name: "t", N: math.MinInt},
			{Kind: 0, Name: "t"}, {Kind: 6, Name: "t"}, {Kind: -1, Name: "t"}, {Kind: api.SField}, {Kind: api.SField, Name: "T"},
			{Kind: api.SField, Name: "t\x00"}, {Kind: api.SField, Name: " t"},
		},
		".t.c!again": {
			{Kind: api.STag, Name: "again", N: 1}, {Kind: api.STag, Name: "again", N: -1}, {Kind: api.STag}, {Kind: 6, Name: "again"}, {Kind: 10, Name: "again"},
		},
		".t.o?": {
			{Kind: api.SSome, Name: "o"}, {Kind: api.SSome, N: 1}, {Kind: api.SSome, N: -1}, {Kind: 0}, {Kind: 9}, {Kind: -4},
		},
		".u[]": {
			{Kind: api.SAll, N: 1}, {Kind: api.SAll, N: 2}, {Kind: api.SAll, N: -1}, {Kind: api.SAll, Name: "u"}, {Kind: 0}, {Kind: 8},
		},
		".u[1]": {
			{Kind: api.SItem, N: -1}, {Kind: api.SItem, N: math.MinInt}, {Kind: api.SItem, N: 1, Name: "u"}, {Kind: 0, N: 1}, {Kind: 7, N: 1},
		},
	}
	tails := map[string]string{".t": ".o?", ".t.c!again": ".c", ".t.o?": "[0]", ".u[]": ".c!full", ".u[1]": ".o"}
	for text, wrong := range cases {
		head := path(t, text)
		if _, _, ok := Walk(p, append(slices.Clone(head), path(t, tails[text])...)); !ok {
			t.Errorf("%s%s: leads nowhere", text, tails[text])
		}
		head = head[:len(head)-1]
		for _, s := range wrong {
			for _, tail := range []string{"", tails[text]} {
				l := append(append(slices.Clone(head), s), path(t, tail)...)
				if got := walked(p, l); got != "-1 -1" {
					t.Errorf("%v: %s", l, got)
				}
			}
		}
	}
}

// P20.2: more steps than a path has are followed as well, up to the first wrong one.
func TestManySteps(t *testing.T) {
	p, _ := parse(t, diamond+"type t = record{x: opt(ref(t)) @a, y: opt(ref(t)) @b} root ref(t)")
	for _, n := range []int{31, 32, 33, 64, 65, 5000} {
		l := path(t, slices.Repeat([]string{".x?"}, n)...)
		if got := walked(p, l); got != "0 a" {
			t.Errorf("%d times .x?: %s", n, got)
		}
		if got := walked(p, append(l, path(t, ".y")...)); got != "2 hi" {
			t.Errorf("%d times .x?, .y: %s", n, got)
		}
		for _, s := range []api.Step{{Kind: api.SField, Name: "z"}, {Kind: api.SField, Name: "x", N: 1}, {Kind: api.SSome}} {
			if got := walked(p, append(slices.Clone(l), s)); got != "-1 -1" {
				t.Errorf("%d times .x?, %v: %s", n, s, got)
			}
		}
		l[len(l)/2].N = 1
		if got := walked(p, l); got != "-1 -1" {
			t.Errorf("%d times .x?, a wrong one among them: %s", n, got)
		}
	}
}

// cube is the text of the 32 sets of 5 levels, in an order that is not theirs: level
// sN has a bit for each of the 5, and a set is below all that have a bit more.
func cube() string {
	var levels, order []string
	for i := range 32 {
		set := i * 11 % 32
		levels = append(levels, fmt.Sprint("s", set))
		for bit := 1; bit < 32; bit *= 2 {
			if set&bit == 0 {
				order = append(order, fmt.Sprintf("s%d < s%d", set, set|bit))
			}
		}
	}
	return "levels {" + strings.Join(levels, ", ") + "} order {" + strings.Join(order, ", ") + "} "
}

// P20.2, P20.3: as many levels as there may be, all of which a type reaches in itself.
func TestAllLevels(t *testing.T) {
	var fields []string
	for i := range 5 {
		fields = append(fields, fmt.Sprintf("f%d: opt(ref(t)) @s%d", i, 1<<i))
	}
	p, _ := parse(t, cube()+"type t = record{"+strings.Join(fields, ", ")+"} root ref(t)")
	reach, _ := compare(t, p, map[string]int{})
	if !slices.Equal(reach[0], numbers(32)) {
		t.Errorf("t stands under %v", reach[0])
	}
	for i := range 5 {
		var want []int
		for level := range 32 {
			if level*11%32&(1<<i) > 0 {
				want = append(want, level)
			}
		}
		if !slices.Equal(reach[i+1], want) || len(want) != 16 {
			t.Errorf("field %d stands under %v, want %v", i, reach[i+1], want)
		}
	}
	for set := range 32 {
		var l []api.Step
		for i := range 5 {
			if set&(1<<i) > 0 {
				l = append(l, path(t, fmt.Sprintf(".f%d?", i))...)
			}
		}
		if got := walked(p, l); got != fmt.Sprint("0 s", set) || len(l) != 2*bits.OnesCount(uint(set)) {
			t.Errorf("%v: %s", l, got)
		}
	}
}

// P20.2: many nodes, each under as many levels as there may be.
func TestAllPositions(t *testing.T) {
	// A record in 450 opts, whose 5 fields lead to the first of these.
	var fields []string
	for i := range 5 {
		fields = append(fields, fmt.Sprintf("f%d: ref(t0) @s%d", i, 1<<i))
	}
	var types []string
	for i := range 30 {
		deep := strings.Repeat("opt(", 15)
		types = append(types, fmt.Sprintf("type t%d = %sref(t%d)%s", i, deep, i+1, strings.Repeat(")", 15)))
	}
	text := cube() + strings.Join(types, " ") + " type t30 = record{" + strings.Join(fields, ", ") + "} root ref(t0)"
	p, _ := parse(t, text)
	if p.Len() != 451 {
		t.Fatalf("%d nodes", p.Len())
	}
	for i, levels := range Reach(p) {
		if !slices.Equal(levels, numbers(32)) {
			t.Fatalf("node %d stands under %v", i, levels)
		}
	}
	round := append(slices.Repeat([]string{"?"}, 450), ".f2")
	if got := walked(p, path(t, round...)); got != "0 s4" {
		t.Errorf("a round: %s", got)
	}
}

// P20.1, P20.2, R1, R5: no plan, and one that no function created. Neither has a
// position to which no steps could lead.
func TestNoPlan(t *testing.T) {
	for _, p := range []*resolve.Plan{nil, {}} {
		if got := Reach(p); len(got) != 0 {
			t.Errorf("%v: Reach = %v", p, got)
		}
		for _, l := range [][]api.Step{nil, {}, {{}}, {{Kind: api.SField, Name: "x"}}, {{Kind: api.SItem}}, {{Kind: api.SAll}}, {{Kind: api.SSome}}, {{Kind: api.STag, Name: "x"}}} {
			if node, level, ok := Walk(p, l); node != -1 || level != -1 || ok {
				t.Errorf("%v: Walk(%v) = %d, %d, %v", p, l, node, level, ok)
			}
		}
	}
	if got := Check(nil); got != (api.Fault{E: api.ErrArg}) {
		t.Errorf("Check(nil) = %v", got)
	}
	// A zero plan is not nil and has no coarse view.
	if got := Check(&resolve.Plan{}); got != (api.Fault{}) {
		t.Errorf("Check of a zero plan = %v", got)
	}
}

// P20.1, P20.2, P20.3: random schemas.
func TestRandom(t *testing.T) {
	g := rand.New(rand.NewSource(20))
	seen := map[string]int{}
	for range 5000 {
		m := &maker{Rand: g}
		p, f := resolve.Build(m.schema())
		if f.E != 0 {
			seen[fmt.Sprint("fault ", f.E)]++
			continue
		}
		compare(t, p, seen)
	}
	for _, what := range []string{
		"check 0", "check 14", "check 18", "0 levels", "1 levels", "2 levels", "3 levels", "not walkable",
		"step 1 true", "step 2 true", "step 3 true", "step 4 true", "step 5 true",
		"step 1 false", "step 2 false", "step 3 false", "step 4 false", "step 5 false", "step 0 false", "step 6 false",
	} {
		if seen[what] < 100 {
			t.Errorf("%s: only %d times", what, seen[what])
		}
	}
	if seen["4 levels"] < 10 {
		t.Errorf("4 levels: only %d times", seen["4 levels"])
	}
	// A fault of Build is only that of a loop of Refs.
	for what := range seen {
		if strings.HasPrefix(what, "fault") && what != "fault 11" {
			t.Errorf("%s: %d times", what, seen[what])
		}
	}
}

// R3: results are new memory that is not shared, and plan and path stay as they are.
func TestMemory(t *testing.T) {
	p, _ := parse(t, big)
	nodes := nodesIn(p)
	for range 2 {
		reach := Reach(p)
		if got := reached(p); got != "hi,a,b,lo hi,a hi,a,b,lo hi,b hi,a,b lo lo lo" {
			t.Fatalf("Reach = %s", got)
		}
		for i := range reach {
			before := fmt.Sprint(reach[i+1:])
			for k := range reach[i] {
				reach[i][k] = 7
			}
			_ = append(reach[i], 7, 7, 7, 7)
			if got := fmt.Sprint(reach[i+1:]); got != before {
				t.Fatalf("level lists share memory: %s, want %s", got, before)
			}
		}
	}
	room := path(t, ".t.o?[0].c!full")
	l := room[:3]
	before := slices.Clone(room)
	if got := walked(p, l); got != "4 a" || !slices.Equal(room, before) {
		t.Errorf("Walk = %s, the path is %v now", got, room)
	}
	if !reflect.DeepEqual(nodesIn(p), nodes) {
		t.Errorf("the plan is %+v now", nodesIn(p))
	}
}
