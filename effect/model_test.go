package effect

import (
	"fmt"
	"math"
	"math/rand"
	"reflect"
	"slices"
	"strings"
	"testing"

	"blindfold/api"
	"blindfold/lattice"
	"blindfold/paths"
	"blindfold/resolve"
)

// The model: the chapter's definitions, written without the package's functions.

// least is the level that both a and b are at most, and that is at most every other
// such level.
func least(l *lattice.Lattice, a, b int) int {
	for c := range l.Len() {
		fits := l.Leq(a, c) && l.Leq(b, c)
		for d := range l.Len() {
			fits = fits && (!(l.Leq(a, d) && l.Leq(b, d)) || l.Leq(c, d))
		}
		if fits {
			return c
		}
	}
	return -1
}

// lowest is the level that is at most all levels.
func lowest(l *lattice.Lattice) int {
	for a := range l.Len() {
		if !slices.ContainsFunc(numbers(l.Len()), func(b int) bool { return !l.Leq(a, b) }) {
			return a
		}
	}
	return -1
}

func numbers(n int) []int {
	var all []int
	for i := range n {
		all = append(all, i)
	}
	return all
}

func nodesIn(p *resolve.Plan) []resolve.Node {
	var all []resolve.Node
	for i := range p.Len() {
		n, _ := p.Node(i)
		all = append(all, n)
	}
	return all
}

// place is a position, and a path that leads to it, unless there is only a way
// through items of lists that have none.
type place struct {
	node, level int
	path        []api.Step
	walkable    bool
}

// placesIn is all positions of a plan, each once, walkable if that is possible.
func placesIn(p *resolve.Plan) []place {
	nodes, l := nodesIn(p), p.Lattice()
	list := []place{{p.Root(), lowest(l), nil, true}}
	known := func(n place) bool {
		return slices.ContainsFunc(list, func(o place) bool {
			return o.node == n.node && o.level == n.level && (o.walkable || !n.walkable)
		})
	}
	for i := 0; i < len(list); i++ {
		from := list[i]
		n := nodes[from.node]
		for k, e := range n.Edges {
			if e.Bare {
				continue
			}
			next := place{e.To, least(l, from.level, e.Label), nil, from.walkable}
			if n.Kind == api.List && n.Most == 0 {
				next.walkable = false
			}
			if !known(next) {
				next.path = append(slices.Clone(from.path), stepsInto(n, k)[0])
				list = append(list, next)
			}
		}
	}
	return slices.DeleteFunc(list, func(n place) bool {
		return !n.walkable && slices.ContainsFunc(list, func(o place) bool {
			return o.walkable && o.node == n.node && o.level == n.level
		})
	})
}

// stepsInto is steps that follow edge k of n, if that is possible.
func stepsInto(n resolve.Node, k int) []api.Step {
	switch n.Kind {
	case api.Record:
		return []api.Step{{Kind: api.SField, Name: n.Edges[k].Name}}
	case api.Union:
		return []api.Step{{Kind: api.STag, Name: n.Edges[k].Name}}
	case api.List:
		return []api.Step{{Kind: api.SAll}, {Kind: api.SItem}, {Kind: api.SItem, N: n.Most - 1}, {Kind: api.SItem, N: n.Most / 2}}
	}
	return []api.Step{{Kind: api.SSome}}
}

// isStep reports whether s has a text, and is the step with that text.
func isStep(s api.Step) bool {
	texts := map[int]string{
		api.SField: "." + s.Name, api.SItem: fmt.Sprintf("[%d]", s.N), api.SAll: "[]", api.SSome: "?", api.STag: "!" + s.Name,
	}
	l, f := paths.Parse(texts[s.Kind])
	return f.E == 0 && len(l) == 1 && l[0] == s
}

// after is the position after a step from a position, or false.
func after(p *resolve.Plan, node, level int, s api.Step) (int, int, bool) {
	n, _ := p.Node(node)
	if isStep(s) {
		for _, e := range n.Edges {
			follows := false
			switch n.Kind {
			case api.Record:
				follows = s.Kind == api.SField && s.Name == e.Name
			case api.Union:
				follows = s.Kind == api.STag && s.Name == e.Name && !e.Bare
			case api.List:
				follows = (s.Kind == api.SItem || s.Kind == api.SAll) && s.N < n.Most
			case api.Opt:
				follows = s.Kind == api.SSome
			}
			if follows {
				return e.To, least(p.Lattice(), level, e.Label), true
			}
		}
	}
	return -1, -1, false
}

// firstFault is the fault that Check must return.
func firstFault(p *resolve.Plan) api.Fault {
	required := map[int]int{api.Floor: api.Int, api.First: api.Text, api.Count: api.List}
	nodes := nodesIn(p)
	var list []api.Fault
	for _, n := range nodes {
		for _, e := range n.Edges {
			if e.Coarse == 0 {
				continue
			}
			if nodes[e.To].Kind != required[e.Coarse] {
				list = append(list, api.Fault{E: api.ErrType, At: e.CoarseAt})
			}
			if p.Lattice().Leq(e.Label, e.Seen) || !p.Lattice().Leq(e.Seen, e.Label) {
				list = append(list, api.Fault{E: api.ErrFlow, At: e.CoarseAt})
			}
		}
	}
	return append(list, api.Fault{})[0]
}

// odd is steps that are none, or that lead nowhere in most nodes.
func odd(name string) []api.Step {
	return []api.Step{
		{}, {Kind: -1}, {Kind: 6}, {Kind: math.MinInt}, {Kind: math.MaxInt}, {Kind: 6, Name: name},
		{Kind: api.SField}, {Kind: api.SField, Name: "A"}, {Kind: api.SField, Name: strings.Repeat("n", 33)},
		{Kind: api.SField, Name: "nosuch"}, {Kind: api.SField, Name: name}, {Kind: api.SField, Name: name, N: 1},
		{Kind: api.SField, Name: name, N: -1}, {Kind: api.SField, Name: name + " "},
		{Kind: api.STag}, {Kind: api.STag, Name: "nosuch"}, {Kind: api.STag, Name: name}, {Kind: api.STag, Name: name, N: 1},
		{Kind: api.STag, Name: strings.ToUpper(name)}, {Kind: api.STag, Name: name, N: math.MinInt},
		{Kind: api.SItem}, {Kind: api.SItem, N: -1}, {Kind: api.SItem, N: math.MinInt}, {Kind: api.SItem, N: math.MaxInt},
		{Kind: api.SItem, N: 1023}, {Kind: api.SItem, N: 1024}, {Kind: api.SItem, Name: name},
		{Kind: api.SAll}, {Kind: api.SAll, N: 1}, {Kind: api.SAll, N: -1}, {Kind: api.SAll, Name: name},
		{Kind: api.SSome}, {Kind: api.SSome, N: 1}, {Kind: api.SSome, N: -1}, {Kind: api.SSome, Name: name},
	}
}

// tried is all steps that are tried behind a path to n.
func tried(n resolve.Node) []api.Step {
	var all []api.Step
	for k, e := range n.Edges {
		all = append(all, stepsInto(n, k)...)
		if e.Name != "" {
			all = append(all, odd(e.Name)...)
		}
	}
	all = append(all, api.Step{Kind: api.SItem, N: n.Most}, api.Step{Kind: api.SItem, N: n.Most + 1})
	return append(all, odd("f")...)
}

// compare holds all functions against the model, and counts in seen what it sees.
func compare(t *testing.T, p *resolve.Plan, seen map[string]int) ([][]int, api.Fault) {
	t.Helper()
	nodes, places := nodesIn(p), placesIn(p)
	want := make([][]int, len(nodes))
	for _, at := range places {
		want[at.node] = append(want[at.node], at.level)
	}
	for i := range want {
		slices.Sort(want[i])
		seen[fmt.Sprintf("%d levels", min(len(want[i]), 4))]++
	}
	got := Reach(p)
	if !slices.EqualFunc(got, want, slices.Equal) {
		t.Fatalf("%+v:\nReach = %v, want %v", nodes, got, want)
	}
	fault := firstFault(p)
	if f := Check(p); f != fault {
		t.Fatalf("%+v:\nCheck = %v, want %v", nodes, f, fault)
	}
	seen[fmt.Sprintf("check %d", fault.E)]++
	for _, at := range places {
		compareWalks(t, p, at, got, seen)
	}
	if !reflect.DeepEqual(nodesIn(p), nodes) {
		t.Fatalf("the plan is %+v now, it was %+v", nodesIn(p), nodes)
	}
	return got, fault
}

// compareWalks walks to a position, and one step more; reach is what Reach returns.
func compareWalks(t *testing.T, p *resolve.Plan, at place, reach [][]int, seen map[string]int) {
	t.Helper()
	if !at.walkable {
		seen["not walkable"]++
		if node, level, ok := Walk(p, at.path); node != -1 || level != -1 || ok {
			t.Fatalf("%+v:\nWalk(%v) = %d, %d, %v", nodesIn(p), at.path, node, level, ok)
		}
		return
	}
	if node, level, ok := Walk(p, at.path); node != at.node || level != at.level || !ok {
		t.Fatalf("%+v:\nWalk(%v) = %d, %d, %v, want %v", nodesIn(p), at.path, node, level, ok, at)
	}
	n, _ := p.Node(at.node)
	for _, s := range tried(n) {
		path := append(slices.Clone(at.path), s)
		before := slices.Clone(path)
		node, level, ok := after(p, at.node, at.level, s)
		if a, b, c := Walk(p, path); a != node || b != level || c != ok {
			t.Fatalf("%+v:\nWalk(%v) = %d, %d, %v, want %d, %d, %v", nodesIn(p), path, a, b, c, node, level, ok)
		}
		if !slices.Equal(path, before) {
			t.Fatalf("the path is %v now, it was %v", path, before)
		}
		seen[fmt.Sprintf("step %d %v", s.Kind, ok)]++
		// No step leads on from where there is none.
		if a, b, c := Walk(p, append(path, api.Step{Kind: api.SSome})); !ok && (a != -1 || b != -1 || c) {
			t.Fatalf("%+v:\nWalk(%v, ?) = %d, %d, %v", nodesIn(p), path, a, b, c)
		}
		// P20.3, by what the package itself returns.
		if ok && (!p.Lattice().Leq(at.level, level) || !slices.Contains(reach[node], level)) {
			t.Fatalf("%+v:\nWalk(%v) = %d, %d, in level %d; Reach = %v", nodesIn(p), path, node, level, at.level, reach)
		}
	}
}

// maker makes random types with these levels and named types.
type maker struct {
	*rand.Rand
	levels []api.Word
	types  []string
}

func (m *maker) pick(list ...int) int { return list[m.Intn(len(list))] }

// schema makes a schema with up to 5 named types.
func (m *maker) schema() api.Schema {
	s := api.Schema{}
	s.Levels, s.Order = m.order()
	m.levels = s.Levels
	for i := range m.Intn(7) {
		m.types = append(m.types, fmt.Sprint("t", i))
	}
	for _, name := range m.types {
		s.Types = append(s.Types, api.Named{Name: word(name), Type: m.anyType(m.Intn(3))})
	}
	s.Root = m.anyType(m.Intn(4))
	return s
}

// order makes a chain, or a diamond with a chain above it, with the levels in any
// order, so that the bottom may have any number.
func (m *maker) order() ([]api.Word, []api.Pair) {
	list := words("a", "b", "c", "d", "e", "f")[:1+m.Intn(6)]
	m.Shuffle(len(list), func(i, j int) { list[i], list[j] = list[j], list[i] })
	var pairs []api.Pair
	for i := 1; i < len(list); i++ {
		pairs = append(pairs, api.Pair{Lo: list[i-1], Hi: list[i]})
	}
	if len(list) > 3 && m.Intn(3) > 0 {
		pairs = append([]api.Pair{{Lo: list[0], Hi: list[1]}, {Lo: list[0], Hi: list[2]}, {Lo: list[1], Hi: list[3]}, {Lo: list[2], Hi: list[3]}}, pairs[3:]...)
	}
	list = slices.Clone(list)
	m.Shuffle(len(list), func(i, j int) { list[i], list[j] = list[j], list[i] })
	return list, pairs
}

// anyType makes a type that contains others depth times.
func (m *maker) anyType(depth int) api.Type {
	t := api.Type{Kind: m.pick(api.List, api.Opt, api.Record, api.Record, api.Union, api.Union), At: m.Intn(100)}
	if depth <= 0 {
		t.Kind = m.pick(api.Bool, api.Int, api.Text, api.Enum, api.Ref, api.Ref, api.Ref)
	}
	switch t.Kind {
	case api.Text:
		t.Most = m.Intn(9)
	case api.Enum:
		t.Names = words("x", "f")
	case api.Ref:
		if len(m.types) == 0 {
			return boolean()
		}
		return ref(m.types[m.Intn(len(m.types))])
	case api.List:
		t.Most = m.pick(0, 1, 2, 3, 1024)
		t.Parts = []api.Part{{Type: m.anyType(depth - 1)}}
	case api.Opt:
		t.Parts = []api.Part{{Type: m.anyType(depth - 1)}}
	case api.Record, api.Union:
		for _, i := range m.Perm(4)[:m.Intn(4)+t.Kind-api.Record] {
			t.Parts = append(t.Parts, m.part(t.Kind, string("fghk"[i]), depth-1))
		}
	}
	return t
}

func (m *maker) part(kind int, name string, depth int) api.Part {
	p := api.Part{Name: word(name), Bare: kind == api.Union && m.Intn(3) == 0}
	if p.Bare {
		return p
	}
	p.Type, p.Label = m.anyType(depth), m.label()
	if m.Intn(4) > 0 {
		return p
	}
	p.Coarse = api.Coarse{Kind: 1 + m.Intn(3), At: m.Intn(100), Label: m.label()}
	// Most coarse views are of the right kind.
	if fitting, found := map[int]int{api.Int: api.Floor, api.Text: api.First, api.List: api.Count}[p.Type.Kind]; found {
		p.Coarse.Kind = fitting
	} else if m.Intn(3) > 0 {
		p.Coarse = api.Coarse{}
	}
	if p.Coarse.Kind == api.Floor {
		p.Coarse.N = 1 + m.Intn(9)
	}
	return p
}

func (m *maker) label() []api.Word {
	var label []api.Word
	for range m.pick(0, 0, 1, 1, 2) {
		label = append(label, m.levels[m.Intn(len(m.levels))])
	}
	return label
}
