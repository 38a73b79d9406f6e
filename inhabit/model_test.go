package inhabit

import (
	"fmt"
	"math"
	"math/rand"
	"reflect"
	"slices"
	"testing"

	"blindfold/api"
	"blindfold/resolve"
)

// The model: the values themselves, as the chapter's definitions make them, a few of
// each node.

// value is a finite tree: its text, which no other value of its node has, and its
// depth.
type value struct {
	text  string
	depth int
}

// most is how many values of a node are kept. It is more than two, which would do.
const most = 3

// tree is the value that contains these.
func tree(label string, kids ...value) value {
	v := value{label + "(", 1}
	for _, k := range kids {
		v.text += k.text + ","
		v.depth = max(v.depth, k.depth+1)
	}
	v.text += ")"
	return v
}

// valuesOf is some values of each node, the least deep ones first: at least two of
// them, if a node has that many.
func valuesOf(nodes []resolve.Node) [][]value {
	lists := make([][]value, len(nodes))
	for changed := true; changed; {
		changed = false
		before := slices.Clone(lists)
		for i, n := range nodes {
			for _, v := range made(n, before) {
				if len(lists[i]) < most && !slices.Contains(lists[i], v) {
					lists[i] = append(slices.Clone(lists[i]), v)
					changed = true
				}
			}
		}
	}
	return lists
}

// made is values of n that contain the values in lists.
func made(n resolve.Node, lists [][]value) []value {
	var all []value
	leaf := func(label any) { all = append(all, tree(fmt.Sprintf("%v", label))) }
	switch n.Kind {
	case api.Bool:
		leaf(false)
		leaf(true)
	case api.Int:
		for k := n.Lo; len(all) < most; k++ {
			leaf(k)
			if k == n.Hi {
				break
			}
		}
	case api.Text:
		for k := 0; k <= min(n.Most, most); k++ {
			leaf(fmt.Sprintf("%*s", k, ""))
		}
	case api.Enum:
		for _, name := range n.Names {
			leaf(name)
		}
	case api.List:
		for k := 0; k <= min(n.Most, most); k++ {
			all = append(all, records("list", make([]resolve.Edge, k), func(resolve.Edge) []value { return lists[n.Edges[0].To] })...)
		}
	case api.Opt:
		leaf("none")
		for _, v := range lists[n.Edges[0].To] {
			all = append(all, tree("some", v))
		}
	case api.Record:
		all = records("record", n.Edges, func(e resolve.Edge) []value { return lists[e.To] })
	case api.Union:
		for _, e := range n.Edges {
			if e.Bare {
				leaf(e.Name)
				continue
			}
			for _, v := range lists[e.To] {
				all = append(all, tree(e.Name, v))
			}
		}
	}
	return all
}

// records is values with a value for each edge, which are those that of returns.
func records(label string, edges []resolve.Edge, of func(e resolve.Edge) []value) []value {
	rows := [][]value{nil}
	for _, e := range edges {
		var longer [][]value
		for _, row := range rows {
			for _, v := range of(e) {
				longer = append(longer, append(slices.Clone(row), v))
			}
		}
		rows = longer[:min(len(longer), most)]
	}
	var all []value
	for _, row := range rows {
		all = append(all, tree(label, row...))
	}
	return all
}

// compare holds all functions against the model, and returns what they return.
func compare(t *testing.T, p *resolve.Plan) ([]int, []bool, api.Fault) {
	t.Helper()
	nodes := nodesIn(p)
	depths, several := make([]int, len(nodes)), make([]bool, len(nodes))
	want := api.Fault{}
	for i, list := range valuesOf(nodes) {
		several[i] = len(list) > 1
		for _, v := range list {
			if depths[i] == 0 || v.depth < depths[i] {
				depths[i] = v.depth
			}
		}
		if len(list) == 0 && want.E == 0 {
			want = api.Fault{E: api.ErrLoop, At: nodes[i].At}
		}
	}
	if got := Depths(p); !slices.Equal(got, depths) {
		t.Fatalf("%+v:\nDepths = %v, want %v", nodes, got, depths)
	}
	if got := Several(p); !slices.Equal(got, several) {
		t.Fatalf("%+v:\nSeveral = %v, want %v", nodes, got, several)
	}
	if got := Check(p); got != want {
		t.Fatalf("%+v:\nCheck = %v, want %v", nodes, got, want)
	}
	compareEdges(t, nodes, depths)
	if !reflect.DeepEqual(nodesIn(p), nodes) {
		t.Fatalf("the plan is %+v now, it was %+v", nodesIn(p), nodes)
	}
	return depths, several, want
}

// compareEdges is P19.3: which edges must lead to nodes that have values.
func compareEdges(t *testing.T, nodes []resolve.Node, depths []int) {
	t.Helper()
	none := func(e resolve.Edge) bool { return !e.Bare && depths[e.To] == 0 }
	one := func(e resolve.Edge) bool { return !none(e) }
	for i, n := range nodes {
		want := true
		switch n.Kind {
		case api.Record:
			want = !slices.ContainsFunc(n.Edges, none)
		case api.Union:
			want = slices.ContainsFunc(n.Edges, one)
		}
		if got := depths[i] > 0; got != want {
			t.Fatalf("%+v:\nnode %d has a value: %v, want %v", nodes, i, got, want)
		}
	}
}

func nodesIn(p *resolve.Plan) []resolve.Node {
	var all []resolve.Node
	for i := range p.Len() {
		n, _ := p.Node(i)
		all = append(all, n)
	}
	return all
}

// maker makes random types that contain Refs to these, with positions that are not
// in order.
type maker struct {
	*rand.Rand
	names []string
}

func (m maker) pick(list ...int) int { return list[m.Intn(len(list))] }

// schema makes a schema with up to 9 types.
func (m maker) schema() api.Schema {
	s := api.Schema{Levels: []api.Word{word("a")}}
	for i := range 1 + m.Intn(9) {
		m.names = append(m.names, fmt.Sprint("t", i))
	}
	for _, name := range m.names {
		s.Types = append(s.Types, api.Named{Name: word(name), Type: m.anyType(m.Intn(3))})
	}
	s.Root = m.anyType(m.Intn(3))
	return s
}

// anyType makes a type that contains others depth times, mostly a Record or a Union,
// as the others always have a value.
func (m maker) anyType(depth int) api.Type {
	if depth == 0 && m.Intn(4) > 0 {
		return ref(m.names[m.Intn(len(m.names))])
	}
	t := m.leaf()
	if depth > 0 {
		t = api.Type{Kind: m.pick(api.List, api.Opt, api.Record, api.Record, api.Record, api.Union, api.Union, api.Union)}
	}
	t.At = m.Intn(100)
	switch t.Kind {
	case api.List:
		t.Most = m.pick(0, 1, 2, 1024)
		t.Parts = []api.Part{{Type: m.anyType(depth - 1)}}
	case api.Opt:
		t.Parts = []api.Part{{Type: m.anyType(depth - 1)}}
	case api.Record, api.Union:
		for i := range m.pick(0, 1, 1, 2, 3) + t.Kind - api.Record {
			t.Parts = append(t.Parts, m.part(t.Kind, word(fmt.Sprint("p", i)), depth))
		}
	}
	return t
}

func (m maker) part(kind int, name api.Word, depth int) api.Part {
	if kind == api.Union && m.Intn(6) == 0 {
		return api.Part{Name: name, Bare: true}
	}
	return api.Part{Name: name, Type: m.anyType(m.Intn(depth))}
}

// leaf makes a type that contains none, often one with a single value.
func (m maker) leaf() api.Type {
	t := api.Type{Kind: m.pick(api.Bool, api.Int, api.Int, api.Text, api.Text, api.Enum, api.Enum)}
	switch t.Kind {
	case api.Int:
		t.Lo = m.pick(math.MinInt, -1, 0, math.MaxInt)
		t.Hi = m.pick(t.Lo, t.Lo, max(t.Lo, t.Lo+1), math.MaxInt)
	case api.Text:
		t.Most = m.pick(0, 0, 1, 4096)
	case api.Enum:
		t.Names = []api.Word{word("x"), word("y"), word("z")}[:1+m.pick(0, 0, 1, 2)]
	}
	return t
}
