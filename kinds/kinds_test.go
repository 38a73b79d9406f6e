package kinds

import (
	"fmt"
	"math"
	"math/rand"
	"reflect"
	"slices"
	"strings"
	"testing"

	"blindfold/api"
)

// The model: the chapter's definitions, written without the package's functions.

// model collects all faults of a type in the order of the chapter; those behind
// the first one mean nothing.
type model struct {
	faults []api.Fault
	number int
}

func (m *model) add(wrong bool, e api.Errno, at int) {
	if wrong {
		m.faults = append(m.faults, api.Fault{E: e, At: at})
	}
}

// first is what Right must answer.
func first(t api.Type) api.Fault {
	m := &model{}
	m.visit(t, 1)
	if len(m.faults) == 0 {
		return api.Fault{}
	}
	return m.faults[0]
}

func (m *model) visit(t api.Type, depth int) {
	m.number++
	m.add(depth > 24, api.ErrDepth, t.At)
	m.add(m.number >= 513, api.ErrMany, t.At)
	m.add(!strings.ContainsRune("123456789", rune('0'+t.Kind)), api.ErrType, t.At)
	m.foreign(t)
	if len(m.faults) > 0 {
		return
	}
	switch t.Kind {
	case 2:
		m.add(t.Lo > t.Hi, api.ErrRange, t.At)
	case 3:
		m.add(t.Most < 0 || t.Most > 4096, api.ErrRange, t.At)
	case 4:
		m.add(len(t.Names) == 0, api.ErrMissing, t.At)
		if len(t.Names) > 64 {
			m.add(true, api.ErrMany, t.Names[64].At)
		}
		m.names(t.Names, func(int) {})
	case 5, 6:
		var one, rest api.Part
		if len(t.Parts) == 1 {
			one, rest = t.Parts[0], t.Parts[0]
			rest.Type = api.Type{}
		}
		m.add(len(t.Parts) != 1 || !equal(rest, api.Part{}), api.ErrForm, t.At)
		m.add(t.Kind == 5 && (t.Most < 0 || t.Most > 1024), api.ErrRange, t.At)
		m.visit(one.Type, depth+1)
	case 7, 8:
		m.add(t.Kind == 8 && len(t.Parts) == 0, api.ErrMissing, t.At)
		if len(t.Parts) > 64 {
			m.add(true, api.ErrMany, t.Parts[64].Name.At)
		}
		var words []api.Word
		for _, p := range t.Parts {
			words = append(words, p.Name)
		}
		m.names(words, func(i int) { m.part(t.Parts[i], t.Kind, depth) })
	case 9:
		m.names([]api.Word{t.Name}, func(int) {})
	}
}

// foreign asks field by field to which kinds it belongs.
func (m *model) foreign(t api.Type) {
	kinds := func(list ...int) bool { return slices.Contains(list, t.Kind) }
	m.add(t.Lo != 0 && !kinds(2), api.ErrForm, t.At)
	m.add(t.Hi != 0 && !kinds(2), api.ErrForm, t.At)
	m.add(t.Most != 0 && !kinds(3, 5), api.ErrForm, t.At)
	m.add(len(t.Names) > 0 && !kinds(4), api.ErrForm, t.At)
	m.add(len(t.Parts) > 0 && !kinds(5, 6, 7, 8), api.ErrForm, t.At)
	m.add(t.Name.Name != "" && !kinds(9), api.ErrForm, t.At)
}

// names asks each word whether it is a name and new, and then what more there is
// to ask.
func (m *model) names(words []api.Word, more func(i int)) {
	seen := map[string]bool{}
	for i, w := range words {
		m.add(!isName(w.Name), api.ErrName, w.At)
		m.add(seen[w.Name], api.ErrTwice, w.At)
		seen[w.Name] = true
		more(i)
	}
}

func isName(s string) bool {
	if len(s) < 1 || len(s) > 32 || s[0] < 'a' || s[0] > 'z' {
		return false
	}
	return strings.Trim(s, "abcdefghijklmnopqrstuvwxyz0123456789_") == ""
}

func (m *model) part(p api.Part, kind, depth int) {
	has := p.Bare && (len(p.Label) > 0 || p.Wide != 0 || !equal(p.Coarse, api.Coarse{}) || !equal(p.Type, api.Type{}))
	m.add(p.Bare && (kind == 7 || has), api.ErrForm, p.Name.At)
	m.add(p.Wide < 0 || p.Wide > 64, api.ErrRange, p.Name.At)
	m.label(p.Label)
	c := p.Coarse
	m.add(c.Kind == 0 && c.N != 0, api.ErrForm, p.Name.At)
	m.add(c.Kind == 0 && len(c.Label) != 0, api.ErrForm, p.Name.At)
	m.add(c.Kind < 0 || c.Kind > 3, api.ErrType, c.At)
	m.add(c.Kind == 1 && !(c.N > 0), api.ErrRange, c.At)
	m.add(c.Kind == 2 && !(c.N >= 0 && c.N <= 4096), api.ErrRange, c.At)
	m.add(c.Kind == 3 && c.N != 0, api.ErrRange, c.At)
	m.label(c.Label)
	if !p.Bare {
		m.visit(p.Type, depth+1)
	}
}

func (m *model) label(words []api.Word) {
	for i, w := range words {
		m.add(i+1 == 33, api.ErrMany, w.At)
		m.add(!isName(w.Name), api.ErrName, w.At)
	}
}

// listed returns the depths of the types in t, in order.
func listed(t api.Type, depth int) []int {
	l := []int{depth}
	for _, p := range t.Parts {
		if !p.Bare {
			l = append(l, listed(p.Type, depth+1)...)
		}
	}
	return l
}

// plain returns v with all fields At set to 0 and all empty slices nil; the copy
// shares nothing with v.
func plain[T any](v T) T {
	c := duplicate(v)
	walk(reflect.ValueOf(&c).Elem(), "", func(x reflect.Value, field string) {
		switch {
		case field == "At":
			x.SetInt(0)
		case x.Kind() == reflect.Slice && x.Len() == 0:
			x.SetZero()
		}
	})
	return c
}

// equal is Same for all structs.
func equal[T any](a, b T) bool {
	return reflect.DeepEqual(plain(a), plain(b))
}

// walk applies do to v and to all that it contains, each with the name of the
// field in which it stands.
func walk(v reflect.Value, field string, do func(v reflect.Value, field string)) {
	do(v, field)
	switch v.Kind() {
	case reflect.Struct:
		for i := range v.NumField() {
			walk(v.Field(i), v.Type().Field(i).Name, do)
		}
	case reflect.Slice:
		for i := range v.Len() {
			walk(v.Index(i), "", do)
		}
	}
}

// duplicate returns a copy of v that shares nothing with it; nil and empty slices
// remain what they are.
func duplicate[T any](v T) T {
	walk(reflect.ValueOf(&v).Elem(), "", func(x reflect.Value, _ string) {
		if x.Kind() == reflect.Slice && !x.IsNil() {
			fresh := reflect.MakeSlice(x.Type(), x.Len(), x.Len())
			reflect.Copy(fresh, x)
			x.Set(fresh)
		}
	})
	return v
}

// placed returns t with positions that all differ.
func placed(t api.Type) api.Type {
	t = duplicate(t)
	at := 0
	walk(reflect.ValueOf(&t).Elem(), "", func(x reflect.Value, field string) {
		if field == "At" {
			at += 3
			x.SetInt(int64(at))
		}
	})
	return t
}

// Short forms of types.

func word(name string, at int) api.Word { return api.Word{Name: name, At: at} }

func words(n int) []api.Word {
	var l []api.Word
	for i := range n {
		l = append(l, word(fmt.Sprintf("n%d", i), 100+i))
	}
	return l
}

func parts(n int, t api.Type) []api.Part {
	var l []api.Part
	for _, w := range words(n) {
		l = append(l, api.Part{Name: w, Type: t})
	}
	return l
}

func boolean() api.Type { return api.Type{Kind: api.Bool} }

func list(most int, t api.Type) api.Type {
	return api.Type{Kind: api.List, Most: most, Parts: []api.Part{{Type: t}}}
}

func opt(t api.Type) api.Type {
	return api.Type{Kind: api.Opt, Parts: []api.Part{{Type: t}}}
}

func record(p ...api.Part) api.Type { return api.Type{Kind: api.Record, At: 1, Parts: p} }
func union(p ...api.Part) api.Type  { return api.Type{Kind: api.Union, At: 1, Parts: p} }

func field(name string, at int, t api.Type) api.Part {
	return api.Part{Name: word(name, at), Type: t}
}

func deep(n int, at int) api.Type {
	t := api.Type{Kind: api.Bool, At: at}
	for range n - 1 {
		t = opt(t)
	}
	return t
}

// check asks for one type what Right must answer, of which the model must be of
// the same opinion.
func check(t *testing.T, what string, given api.Type, want api.Fault) {
	t.Helper()
	if got := Right(given); got != want {
		t.Errorf("%s: Right is %v, want %v", what, got, want)
	}
	if got := first(given); got != want {
		t.Errorf("%s: the model says %v, want %v", what, got, want)
	}
}

func none() api.Fault                           { return api.Fault{} }
func fault(e api.Errno, at int) api.Fault       { return api.Fault{E: e, At: at} }
func marked(p api.Part, c api.Coarse) api.Part  { p.Coarse = c; return p }
func wide(p api.Part, n int) api.Part           { p.Wide = n; return p }
func bare(p api.Part) api.Part                  { p.Bare = true; return p }
func secret(p api.Part, l ...api.Word) api.Part { p.Label = l; return p }

// P15.1: types without a fault, of each kind and with each limit reached.
func TestRightTakes(t *testing.T) {
	f := field("a", 7, boolean())
	thirtyTwo := words(32)
	for i, given := range []api.Type{
		{Kind: api.Bool},
		{Kind: api.Int},
		{Kind: api.Int, Lo: 5, Hi: 5},
		{Kind: api.Int, Lo: math.MinInt, Hi: math.MaxInt},
		{Kind: api.Text},
		{Kind: api.Text, Most: 4096},
		{Kind: api.Enum, Names: words(1)},
		{Kind: api.Enum, Names: words(64)},
		{Kind: api.Enum, Names: []api.Word{{Name: strings.Repeat("z", 32)}}},
		list(0, boolean()),
		list(1024, boolean()),
		opt(boolean()),
		{Kind: api.Record},
		record(f),
		{Kind: api.Record, Parts: parts(64, boolean())},
		union(f),
		union(bare(field("a", 7, api.Type{}))),
		{Kind: api.Union, Parts: parts(64, boolean())},
		{Kind: api.Ref, Name: word("a", 5)},
		record(wide(f, 0)),
		record(wide(f, 64)),
		record(secret(f, thirtyTwo...)),
		record(secret(f, word("a", 1), word("a", 2))),
		record(marked(f, api.Coarse{Kind: api.Floor, N: 1})),
		record(marked(f, api.Coarse{Kind: api.Floor, N: math.MaxInt})),
		record(marked(f, api.Coarse{Kind: api.First, N: 0})),
		record(marked(f, api.Coarse{Kind: api.First, N: 4096})),
		record(marked(f, api.Coarse{Kind: api.Count, N: 0})),
		union(marked(f, api.Coarse{Kind: api.Count, Label: thirtyTwo})),
		record(field("a", 1, union(f)), field("b", 2, opt(record(f)))),
		deep(24, 9),
	} {
		check(t, fmt.Sprint("type ", i), given, none())
	}
}

// P15.1: the faults that stand at a type, and the chapter's example.
func TestRightOfOneType(t *testing.T) {
	check(t, "the example", api.Type{Kind: api.Int, Lo: 1, Hi: 0}, fault(api.ErrRange, 0))
	a := []api.Word{word("a", 40)}
	for _, c := range []struct {
		what string
		t    api.Type
		e    api.Errno
	}{
		{"no kind", api.Type{}, api.ErrType},
		{"the kind after the last", api.Type{Kind: 10}, api.ErrType},
		{"a negative kind", api.Type{Kind: -1}, api.ErrType},
		{"an extreme kind", api.Type{Kind: math.MinInt}, api.ErrType},
		{"Lo from above Hi", api.Type{Kind: api.Int, Lo: math.MaxInt, Hi: math.MinInt}, api.ErrRange},
		{"a text below 0", api.Type{Kind: api.Text, Most: -1}, api.ErrRange},
		{"a text too long", api.Type{Kind: api.Text, Most: 4097}, api.ErrRange},
		{"an enum without names", api.Type{Kind: api.Enum}, api.ErrMissing},
		{"an enum with an empty list", api.Type{Kind: api.Enum, Names: []api.Word{}}, api.ErrMissing},
		{"a list of nothing", api.Type{Kind: api.List}, api.ErrForm},
		{"an opt of nothing", api.Type{Kind: api.Opt}, api.ErrForm},
		{"a list below 0", list(-1, boolean()), api.ErrRange},
		{"a list too long", list(1025, boolean()), api.ErrRange},
		{"a union without parts", api.Type{Kind: api.Union}, api.ErrMissing},
		{"a form ahead of a range", api.Type{Kind: api.List, Most: -1}, api.ErrForm},
		{"a foreign field ahead of a range", api.Type{Kind: api.Int, Lo: 1, Names: a}, api.ErrForm},
		{"a kind ahead of a foreign field", api.Type{Kind: 10, Names: a}, api.ErrType},
	} {
		c.t.At = 17
		check(t, c.what, c.t, fault(c.e, 17))
	}
}

// P15.1: each field is foreign to the kinds to which it does not belong, but
// positions and empty lists are not considered.
func TestForeignFields(t *testing.T) {
	good := []api.Type{{}, {Kind: api.Bool}, {Kind: api.Int}, {Kind: api.Text}, {Kind: api.Enum, Names: words(1)},
		list(3, boolean()), opt(boolean()), record(parts(1, boolean())...), union(parts(1, boolean())...), {Kind: api.Ref, Name: word("a", 2)}}
	fields := []struct {
		what    string
		set     func(t *api.Type)
		belongs []int
	}{
		{"Lo", func(t *api.Type) { t.Lo = -1 }, []int{api.Int}},
		{"Hi", func(t *api.Type) { t.Hi = 1 }, []int{api.Int}},
		{"Most", func(t *api.Type) { t.Most = 1 }, []int{api.Text, api.List}},
		{"Names", func(t *api.Type) { t.Names = []api.Word{{Name: "x"}} }, []int{api.Enum}},
		{"an empty name", func(t *api.Type) { t.Names = append(t.Names, api.Word{}) }, nil},
		{"Parts", func(t *api.Type) { t.Parts = []api.Part{{Name: word("x", 0), Type: boolean()}} }, []int{api.Record, api.Union}},
		{"an empty part", func(t *api.Type) { t.Parts = []api.Part{{}} }, nil},
		{"Name", func(t *api.Type) { t.Name.Name = "x" }, []int{api.Ref}},
		{"no name", func(t *api.Type) { t.Name.Name = "%" }, nil},
	}
	for kind := api.Bool; kind <= api.Ref; kind++ {
		for _, f := range fields {
			given := duplicate(good[kind])
			given.At = 17
			f.set(&given)
			if f.belongs == nil || slices.Contains(f.belongs, kind) {
				if f.belongs != nil {
					check(t, fmt.Sprint(f.what, " of ", kind), given, none())
				}
				continue
			}
			check(t, fmt.Sprint(f.what, " of ", kind), given, fault(api.ErrForm, 17))
		}
		given := duplicate(good[kind])
		given.At, given.Name.At = -5, 12
		check(t, fmt.Sprint("positions of ", kind), given, none())
	}
	for kind := api.Bool; kind <= api.Text; kind++ {
		empty := api.Type{Kind: kind, Names: []api.Word{}, Parts: []api.Part{}}
		check(t, fmt.Sprint("empty lists of ", kind), empty, none())
		check(t, "an empty name", api.Type{Kind: kind, At: 4, Names: []api.Word{{}}}, fault(api.ErrForm, 4))
		check(t, "an empty part", api.Type{Kind: kind, At: 4, Parts: []api.Part{{}}}, fault(api.ErrForm, 4))
		check(t, "no name", api.Type{Kind: kind, At: 4, Name: word("%", 1)}, fault(api.ErrForm, 4))
	}
}

// P15.1: what a list or an opt is of has only a Type.
func TestElement(t *testing.T) {
	b := boolean()
	for _, kind := range []int{api.List, api.Opt} {
		of := func(p ...api.Part) api.Type { return api.Type{Kind: kind, At: 17, Parts: p} }
		for i, p := range []api.Part{
			{Type: b, Name: word("a", 0)},
			{Type: b, Bare: true},
			{Bare: true},
			{Type: b, Label: words(1)},
			{Type: b, Wide: 1},
			{Type: b, Wide: -1},
			{Type: b, Coarse: api.Coarse{Kind: api.Count}},
			{Type: b, Coarse: api.Coarse{N: 1}},
			{Type: b, Coarse: api.Coarse{Label: words(1)}},
		} {
			check(t, fmt.Sprint("part ", i), of(p), fault(api.ErrForm, 17))
		}
		check(t, "two parts", of(api.Part{Type: b}, api.Part{Type: b}), fault(api.ErrForm, 17))
		check(t, "only positions", of(api.Part{Type: b, Name: word("", 3), Coarse: api.Coarse{At: 4}}), none())
		check(t, "empty lists", of(api.Part{Type: b, Label: []api.Word{}, Coarse: api.Coarse{Label: []api.Word{}}}), none())
		check(t, "a type of no kind", of(api.Part{Type: api.Type{At: 5}}), fault(api.ErrType, 5))
		check(t, "a type with a fault", of(api.Part{Type: api.Type{Kind: api.Union, At: 5}}), fault(api.ErrMissing, 5))
	}
	check(t, "the list ahead of its element", list(1025, api.Type{Kind: api.Union, At: 5}), fault(api.ErrRange, 0))
}

// P15.1: the names of an enum, of which the number comes first.
func TestEnum(t *testing.T) {
	enum := func(l ...api.Word) api.Type { return api.Type{Kind: api.Enum, At: 2, Names: l} }
	check(t, "65 names", enum(words(65)...), fault(api.ErrMany, 164))
	check(t, "66 names", enum(words(66)...), fault(api.ErrMany, 164))
	many := words(65)
	many[0].Name = ""
	check(t, "65 names, one wrong", enum(many...), fault(api.ErrMany, 164))
	for _, s := range []string{"", "A", "1", "_a", "a-", "a ", "\xff", strings.Repeat("a", 33)} {
		check(t, fmt.Sprintf("%q", s), enum(word("a", 3), word(s, 8)), fault(api.ErrName, 8))
	}
	check(t, "twice", enum(word("a", 3), word("b", 5), word("a", 9), word("b", 11)), fault(api.ErrTwice, 9))
	check(t, "three times", enum(word("a", 3), word("a", 5), word("a", 9)), fault(api.ErrTwice, 5))
	check(t, "twice, then wrong", enum(word("a", 3), word("a", 5), word("", 9)), fault(api.ErrTwice, 5))
	check(t, "wrong, then twice", enum(word("a", 3), word("", 5), word("a", 9)), fault(api.ErrName, 5))
	check(t, "wrong twice", enum(word("", 3), word("", 5)), fault(api.ErrName, 3))
	last := words(64)
	last[63].Name = "n0"
	check(t, "the last one again", enum(last...), fault(api.ErrTwice, 163))
}

// P15.1: the name of a ref.
func TestRef(t *testing.T) {
	for _, s := range []string{"", "A", "a.b", strings.Repeat("a", 33)} {
		check(t, fmt.Sprintf("%q", s), api.Type{Kind: api.Ref, At: 3, Name: word(s, 8)}, fault(api.ErrName, 8))
	}
	check(t, "of itself", record(field("a", 1, api.Type{Kind: api.Ref, Name: word("a", 8)})), none())
}

// P15.1: the parts of a record and of a union.
func TestParts(t *testing.T) {
	for _, kind := range []int{api.Record, api.Union} {
		of := func(p ...api.Part) api.Type { return api.Type{Kind: kind, At: 2, Parts: p} }
		bad := api.Type{Kind: api.Union, At: 50}
		many := parts(65, bad)
		many[0].Name.Name = ""
		check(t, "65 parts", of(many...), fault(api.ErrMany, 164))
		check(t, "66 parts", of(parts(66, boolean())...), fault(api.ErrMany, 164))
		check(t, "no name", of(wide(field("A", 7, bad), 65)), fault(api.ErrName, 7))
		check(t, "no name twice", of(field("", 7, boolean()), field("", 9, boolean())), fault(api.ErrName, 7))
		again := wide(bare(field("a", 9, bad)), 65)
		check(t, "twice", of(field("a", 7, boolean()), again), fault(api.ErrTwice, 9))
		check(t, "a type ahead of the next part", of(field("a", 7, bad), again), fault(api.ErrMissing, 50))
		check(t, "the second type", of(field("a", 7, boolean()), field("b", 9, bad)), fault(api.ErrMissing, 50))
		check(t, "a type of no kind", of(field("a", 7, api.Type{At: 8})), fault(api.ErrType, 8))
		f := field("a", 7, bad)
		check(t, "too wide", of(secret(wide(f, 65), word("", 9))), fault(api.ErrRange, 7))
		check(t, "a negative width", of(wide(f, -1)), fault(api.ErrRange, 7))
		check(t, "the label ahead of the coarse view", of(marked(secret(f, word("a", 8), word("", 9)), api.Coarse{N: 1})), fault(api.ErrName, 9))
	}
}

// P15.1: bare parts.
func TestBare(t *testing.T) {
	b := bare(field("a", 7, api.Type{}))
	check(t, "of a record", record(b), fault(api.ErrForm, 7))
	check(t, "of a union", union(b), none())
	check(t, "and others", union(field("b", 1, boolean()), b), none())
	typed := func(given api.Type) api.Part { p := b; p.Type = given; return p }
	for i, p := range []api.Part{
		secret(b, word("x", 1)),
		wide(b, 1),
		wide(b, 65),
		marked(b, api.Coarse{Kind: api.Count}),
		marked(b, api.Coarse{N: 1}),
		marked(b, api.Coarse{Label: words(1)}),
		typed(boolean()),
		typed(api.Type{Lo: 1}),
		typed(api.Type{Hi: 1}),
		typed(api.Type{Most: 1}),
		typed(api.Type{Names: make([]api.Word, 1)}),
		typed(api.Type{Parts: make([]api.Part, 1)}),
		typed(api.Type{Name: word("x", 0)}),
	} {
		check(t, fmt.Sprint("part ", i), union(p), fault(api.ErrForm, 7))
	}
	check(t, "positions", union(marked(typed(api.Type{At: 3, Name: word("", 4)}), api.Coarse{At: 5})), none())
	check(t, "empty lists", union(secret(typed(api.Type{Names: []api.Word{}, Parts: []api.Part{}}), []api.Word{}...)), none())
	var l []api.Part
	for _, p := range parts(64, api.Type{}) {
		l = append(l, bare(p))
	}
	check(t, "64 bare parts", union(l...), none())
}

// P15.1: labels, of which each word is asked in order.
func TestLabel(t *testing.T) {
	f := field("a", 7, api.Type{Kind: api.Union, At: 50})
	wrong := words(33)
	wrong[5].Name = "A"
	last := words(33)
	last[32].Name = "A"
	for _, c := range []struct {
		what  string
		label []api.Word
		want  api.Fault
	}{
		{"33 words", words(33), fault(api.ErrMany, 132)},
		{"40 words", words(40), fault(api.ErrMany, 132)},
		{"a wrong one ahead of the 33rd", wrong, fault(api.ErrName, 105)},
		{"the 33rd wrong", last, fault(api.ErrMany, 132)},
		{"no name", []api.Word{word("", 3)}, fault(api.ErrName, 3)},
		{"the 32nd wrong", append(words(31), word("A", 3), word("b", 4)), fault(api.ErrName, 3)},
		{"right", words(32), fault(api.ErrMissing, 50)},
	} {
		for _, coarse := range []api.Coarse{{}, {Kind: api.Floor, N: 3, Label: words(3)}} {
			check(t, c.what, record(marked(secret(f, c.label...), coarse)), c.want)
		}
		check(t, c.what, union(marked(f, api.Coarse{Kind: api.Count, Label: c.label})), c.want)
		check(t, c.what, union(marked(secret(f, words(32)...), api.Coarse{Kind: api.First, Label: c.label})), c.want)
	}
}

// P15.1: coarse views.
func TestCoarse(t *testing.T) {
	f := field("a", 7, api.Type{Kind: api.Union, At: 50})
	wrong := []api.Word{word("", 90)}
	for i, c := range []struct {
		coarse api.Coarse
		want   api.Fault
	}{
		{api.Coarse{N: 1}, fault(api.ErrForm, 7)},
		{api.Coarse{N: -1}, fault(api.ErrForm, 7)},
		{api.Coarse{Label: wrong}, fault(api.ErrForm, 7)},
		{api.Coarse{At: 9, Label: []api.Word{}}, fault(api.ErrMissing, 50)},
		{api.Coarse{Kind: 4, At: 9, Label: wrong}, fault(api.ErrType, 9)},
		{api.Coarse{Kind: -1, At: 9}, fault(api.ErrType, 9)},
		{api.Coarse{Kind: math.MaxInt, At: 9, N: 1}, fault(api.ErrType, 9)},
		{api.Coarse{Kind: api.Floor, At: 9, Label: wrong}, fault(api.ErrRange, 9)},
		{api.Coarse{Kind: api.Floor, At: 9, N: -1}, fault(api.ErrRange, 9)},
		{api.Coarse{Kind: api.Floor, At: 9, N: math.MinInt}, fault(api.ErrRange, 9)},
		{api.Coarse{Kind: api.Floor, At: 9, N: 4097}, fault(api.ErrMissing, 50)},
		{api.Coarse{Kind: api.First, At: 9, N: -1, Label: wrong}, fault(api.ErrRange, 9)},
		{api.Coarse{Kind: api.First, At: 9, N: 4097}, fault(api.ErrRange, 9)},
		{api.Coarse{Kind: api.First, At: 9, N: 4096, Label: wrong}, fault(api.ErrName, 90)},
		{api.Coarse{Kind: api.Count, At: 9, N: 1, Label: wrong}, fault(api.ErrRange, 9)},
		{api.Coarse{Kind: api.Count, At: 9, N: -1}, fault(api.ErrRange, 9)},
		{api.Coarse{Kind: api.Count, At: 9, Label: wrong}, fault(api.ErrName, 90)},
	} {
		check(t, fmt.Sprint("record ", i), record(marked(f, c.coarse)), c.want)
		check(t, fmt.Sprint("union ", i), union(marked(f, c.coarse)), c.want)
	}
}

// P15.1: the depth is asked ahead of all else.
func TestDepthFault(t *testing.T) {
	check(t, "25 deep", deep(25, 9), fault(api.ErrDepth, 9))
	check(t, "26 deep", deep(26, 9), fault(api.ErrDepth, 0))
	for _, n := range []int{24, 25} {
		given := api.Type{Kind: 10, At: 6}
		for i := range n - 1 {
			switch i % 4 {
			case 0:
				given = list(1, given)
			case 1:
				given = opt(given)
			case 2:
				given = record(field("a", 1, boolean()), field("b", 2, given))
			default:
				given = union(bare(field("a", 1, api.Type{})), field("b", 2, given))
			}
		}
		want := fault(api.ErrType, 6)
		if n == 25 {
			want = fault(api.ErrDepth, 6)
		}
		check(t, fmt.Sprint("a wrong one ", n, " deep"), given, want)
	}
	long := boolean()
	for range 1 << 16 {
		long = opt(long)
	}
	if got := Right(long); got != fault(api.ErrDepth, 0) {
		t.Errorf("Right of a long chain is %v", got)
	}
	if Count(long) != 1<<16+1 || Depth(long) != 1<<16+1 || !Same(long, Strip(long)) {
		t.Error("a long chain is miscounted")
	}
}

// P15.1: the 513th type is one too many, counted over all of the type.
func TestManyFault(t *testing.T) {
	// full has 1 + 7 * (1 + 64) = 456 types, and n parts more.
	full := func(n int, more api.Type) api.Type {
		l := parts(7, record(parts(64, boolean())...))
		for i := range n {
			l = append(l, field(fmt.Sprint("m", i), 70, more))
		}
		return record(l...)
	}
	more := api.Type{Kind: api.Bool, At: 60}
	if n := Count(full(56, more)); n != 512 {
		t.Fatalf("%d types", n)
	}
	check(t, "512 types", full(56, more), none())
	check(t, "513 types", full(57, more), fault(api.ErrMany, 60))
	l := full(56, more).Parts
	check(t, "a bare part of a record", record(append(l, bare(field("x", 8, api.Type{})))...), fault(api.ErrForm, 8))
	check(t, "bare tags are no types", union(append(l, bare(field("x", 8, api.Type{})))...), none())
	check(t, "the 513th wrong", record(append(l, field("x", 8, api.Type{Kind: 10, At: 9}))...), fault(api.ErrMany, 9))
	check(t, "a name ahead of the 513th", record(append(l, field("m0", 8, more))...), fault(api.ErrTwice, 8))
	twin := record(parts(2, record(parts(60, record(parts(9, more)...))...))...)
	check(t, "in the second branch", twin, fault(api.ErrMany, 1))
	if n := Count(record(parts(7, full(0, more))...)); n != 1+7*456 {
		t.Errorf("%d types", n)
	}
	// The 513th type is 25 deep as well: 489 types are ahead of the chain.
	both := record(append(parts(7, record(parts(64, boolean())...)), field("a", 1, record(parts(32, boolean())...)), field("b", 2, deep(24, 9)))...)
	if n := Count(both); n != 513 {
		t.Errorf("%d types, want 513", n)
	}
	check(t, "depth and number", both, fault(api.ErrDepth, 9))
}

// P15.2: Count and Depth of types that Right takes and of others.
func TestCountAndDepth(t *testing.T) {
	for i, c := range []struct {
		t            api.Type
		count, depth int
	}{
		{api.Type{}, 1, 1},
		{boolean(), 1, 1},
		{api.Type{Kind: api.Enum, Names: words(9)}, 1, 1},
		{opt(boolean()), 2, 2},
		{record(), 1, 1},
		{record(parts(3, boolean())...), 4, 2},
		{record(field("a", 0, opt(opt(boolean()))), field("b", 0, boolean())), 5, 4},
		{record(field("b", 0, boolean()), field("a", 0, opt(opt(boolean())))), 5, 4},
		{union(bare(field("a", 0, api.Type{})), field("b", 0, boolean())), 2, 2},
		{union(bare(field("a", 0, opt(boolean())))), 1, 1},
		{api.Type{Kind: api.Int, Parts: parts(2, boolean())}, 3, 2},
		{api.Type{Kind: -4, Parts: []api.Part{{}, {}}}, 3, 2},
		{api.Type{Kind: api.Ref, Name: word("a", 0)}, 1, 1},
		{deep(30, 0), 30, 30},
	} {
		if got := Count(c.t); got != c.count {
			t.Errorf("type %d: Count is %d, want %d", i, got, c.count)
		}
		if got := Depth(c.t); got != c.depth {
			t.Errorf("type %d: Depth is %d, want %d", i, got, c.depth)
		}
	}
}

// rich has every field set, in all places.
func rich() api.Type {
	inner := api.Type{Kind: api.Int, Lo: 1, Hi: 2, Most: 3, Names: words(2), Name: word("in", 4)}
	inner.Parts = []api.Part{{Name: word("p", 1), Type: api.Type{Kind: api.Ref, Name: word("r", 6)}}}
	p := secret(wide(field("f", 3, inner), 5), words(2)...)
	p.Coarse = api.Coarse{Kind: 2, N: 7, At: 8, Label: words(2)}
	return placed(api.Type{Kind: api.Record, Lo: -1, Hi: -2, Most: 9, Names: words(1), Name: word("out", 4),
		Parts: []api.Part{p, bare(field("g", 9, inner)), bare(p)}})
}

// changes returns v with each thing in it changed, each with the field's name.
func changes(v api.Type) (changed []api.Type, fields []string) {
	count := 0
	walk(reflect.ValueOf(&v).Elem(), "", func(reflect.Value, string) { count++ })
	for n := range count {
		c, i, name := duplicate(v), -1, ""
		walk(reflect.ValueOf(&c).Elem(), "", func(x reflect.Value, field string) {
			if i++; i != n {
				return
			}
			name = field
			switch x.Kind() {
			case reflect.Int:
				x.SetInt(x.Int() + 1)
			case reflect.Bool:
				x.SetBool(!x.Bool())
			case reflect.String:
				x.SetString(x.String() + "z")
			case reflect.Slice:
				x.Set(reflect.Append(x, reflect.Zero(x.Type().Elem())))
			default:
				name = ""
			}
		})
		if name != "" {
			changed, fields = append(changed, c), append(fields, name)
		}
	}
	return changed, fields
}

// P15.2: Same tells every field of every part of a type, but no position, and not
// nil from empty lists.
func TestSame(t *testing.T) {
	r := rich()
	changed, fields := changes(r)
	if len(changed) < 100 {
		t.Fatalf("only %d changes", len(changed))
	}
	for i, c := range changed {
		want := fields[i] == "At"
		if Same(r, c) != want || Same(c, r) != want || !Same(c, c) {
			t.Errorf("change %d, of %s: Same is not %v", i, fields[i], want)
		}
	}
	for _, pair := range [][2]api.Type{
		{record(field("a", 0, boolean()), field("b", 0, opt(boolean()))), record(field("b", 0, opt(boolean())), field("a", 0, boolean()))},
		{{Kind: api.Enum, Names: []api.Word{word("a", 1), word("b", 2)}}, {Kind: api.Enum, Names: []api.Word{word("b", 1), word("a", 2)}}},
		{record(parts(2, boolean())...), record(parts(3, boolean())...)},
		{union(secret(field("a", 0, boolean()), word("a", 0), word("a", 0))), union(secret(field("a", 0, boolean()), word("a", 0)))},
	} {
		if Same(pair[0], pair[1]) || Same(pair[1], pair[0]) {
			t.Errorf("%v is the same as %v", pair[0], pair[1])
		}
	}
	empty := api.Type{Names: []api.Word{}, Parts: []api.Part{}}
	if !Same(api.Type{}, empty) || !Same(empty, api.Type{}) {
		t.Error("nil and empty lists differ")
	}
	listless := record(api.Part{Label: []api.Word{}, Coarse: api.Coarse{Label: []api.Word{}}, Type: empty})
	if !Same(listless, record(api.Part{})) || Same(listless, record()) {
		t.Error("nil and empty lists of parts differ")
	}
}

// P15.2: Strip changes all positions and nothing else.
func TestStrip(t *testing.T) {
	r := rich()
	if got := Strip(r); !reflect.DeepEqual(got, plain(r)) {
		t.Errorf("Strip is %v, want %v", got, plain(r))
	}
	changed, _ := changes(r)
	for i, c := range changed {
		if got := Strip(c); !reflect.DeepEqual(plain(got), plain(c)) || positions(got) != 0 {
			t.Errorf("change %d: Strip is %v", i, got)
		}
	}
	if got := Strip(api.Type{}); !reflect.DeepEqual(got, api.Type{}) {
		t.Errorf("Strip of nothing is %v", got)
	}
}

// positions counts the positions of t that are not 0.
func positions(t api.Type) int {
	n := 0
	walk(reflect.ValueOf(&t).Elem(), "", func(x reflect.Value, field string) {
		if field == "At" && x.Int() != 0 {
			n++
		}
	})
	return n
}

// compare asks all functions of the package for t.
func compare(t *testing.T, given api.Type) {
	t.Helper()
	depths := listed(given, 1)
	stripped := Strip(given)
	got := []any{Right(given), Count(given), Depth(given), Same(given, stripped), Same(stripped, given), Right(stripped).E, positions(stripped)}
	want := []any{first(given), len(depths), slices.Max(depths), true, true, first(given).E, 0}
	if !slices.Equal(got, want) {
		t.Fatalf("%+v: %v, want %v", given, got, want)
	}
	if !reflect.DeepEqual(plain(stripped), plain(given)) {
		t.Fatalf("%+v: Strip is %+v", given, stripped)
	}
}

// generator makes random types.
type generator struct{ *rand.Rand }

func (g generator) name() string {
	return []string{"a", "b", "c", "d", "e", "f", "g", "a1", "_", "A", ""}[min(10, g.Intn(8+g.Intn(6)/5*20))]
}

func (g generator) word() api.Word { return api.Word{Name: g.name(), At: g.Intn(9)} }

func (g generator) label() []api.Word {
	var l []api.Word
	for g.Intn(3) == 0 {
		l = append(l, g.word())
	}
	return l
}

func (g generator) number() int {
	l := []int{0, 0, 0, 0, 0, 1, -1, 3, 64, 65, 1024, 1025, 4096, 4097, math.MaxInt, math.MinInt}
	return l[g.Intn(4+g.Intn(2)*12)]
}

// right makes a type that has no fault, as far as this is easy.
func (g generator) right(depth int) api.Type {
	kind := 1 + g.Intn(9)
	if depth == 0 {
		kind = []int{api.Bool, api.Int, api.Text, api.Enum, api.Ref}[g.Intn(5)]
	}
	t := api.Type{Kind: kind}
	switch kind {
	case api.Int:
		t.Lo, t.Hi = g.Intn(5)-2, 2+g.Intn(3)
	case api.Text:
		t.Most = g.Intn(4097)
	case api.Enum:
		t.Names = words(1 + g.Intn(4))
	case api.List, api.Opt:
		t.Parts = []api.Part{{Type: g.right(depth - 1)}}
		t.Most = g.Intn(1025) * (api.Opt - kind)
	case api.Record, api.Union:
		for _, p := range parts(g.Intn(4)+kind-api.Record, api.Type{}) {
			t.Parts = append(t.Parts, g.part(p, kind, depth-1))
		}
	case api.Ref:
		t.Name.Name = "r"
	}
	return t
}

func (g generator) part(p api.Part, kind, depth int) api.Part {
	if kind == api.Union && g.Intn(3) == 0 {
		return bare(p)
	}
	p.Type = g.right(depth)
	p.Label = words(g.Intn(3))
	p.Wide = g.Intn(65) * g.Intn(2)
	p.Coarse.Kind = g.Intn(4)
	if p.Coarse.Kind > 0 {
		p.Coarse.Label = words(g.Intn(3))
	}
	switch p.Coarse.Kind {
	case api.Floor:
		p.Coarse.N = 1 + g.Intn(9999)
	case api.First:
		p.Coarse.N = g.Intn(4097)
	}
	return p
}

// spoil changes one thing somewhere in t.
func (g generator) spoil(t *api.Type) {
	count := 0
	walk(reflect.ValueOf(t).Elem(), "", func(reflect.Value, string) { count++ })
	n, i := g.Intn(count), 0
	walk(reflect.ValueOf(t).Elem(), "", func(x reflect.Value, field string) {
		if i++; i != n+1 {
			return
		}
		g.change(x, field)
	})
}

func (g generator) change(x reflect.Value, field string) {
	switch {
	case field == "Kind":
		x.SetInt(int64(g.Intn(12) - 1))
	case x.Kind() == reflect.Int:
		x.SetInt(int64(g.number()))
	case x.Kind() == reflect.Bool:
		x.SetBool(!x.Bool())
	case x.Kind() == reflect.String:
		x.SetString(g.name())
	case field == "Parts":
		switch {
		case x.Len() > 0 && g.Intn(2) == 0:
			x.Set(reflect.ValueOf(api.Type{}.Parts))
		case x.Len() > 0:
			x.Set(reflect.Append(x, x.Index(g.Intn(x.Len()))))
		default:
			x.Set(reflect.ValueOf([]api.Part{{Name: g.word(), Type: boolean()}}))
		}
	case x.Kind() == reflect.Slice:
		l := words([]int{0, 1, 2, 31, 32, 33, 64, 65}[g.Intn(8)])
		if len(l) > 0 && g.Intn(2) == 0 {
			l[g.Intn(len(l))] = g.word()
		}
		x.Set(reflect.ValueOf(l))
	}
}

// P15.1, P15.2, P15.3: random types, right ones and others with up to three
// things changed, against the model; each error occurs often.
func TestRandomTypes(t *testing.T) {
	g := generator{rand.New(rand.NewSource(15))}
	seen := map[api.Errno]int{}
	for n := range 20000 {
		given := g.right(g.Intn(5))
		if n%4 > 0 {
			given = duplicate(given)
		}
		for range n % 4 {
			g.spoil(&given)
		}
		given = placed(given)
		compare(t, given)
		seen[first(given).E]++
	}
	for _, e := range []api.Errno{api.OK, api.ErrMany, api.ErrName, api.ErrTwice, api.ErrType, api.ErrMissing, api.ErrForm, api.ErrRange} {
		if seen[e] < 20 {
			t.Errorf("error %d occurs %d times only", e, seen[e])
		}
	}
}

// P15.1: random types of about 512 types, and of about 24 levels.
func TestRandomLimits(t *testing.T) {
	g := generator{rand.New(rand.NewSource(16))}
	seen := map[api.Errno]int{}
	for n := range 150 {
		given := record()
		for i := range 5 + g.Intn(4) {
			kids := record(parts(55+g.Intn(10), boolean())...)
			for range g.Intn(25) {
				if g.Intn(2) == 0 {
					kids = opt(kids)
				} else {
					kids = record(field("a", 1, kids))
				}
			}
			given.Parts = append(given.Parts, field(fmt.Sprint("f", i), 1, kids))
		}
		if n%4 == 0 {
			given = duplicate(given)
			g.spoil(&given)
		}
		given = placed(given)
		compare(t, given)
		seen[first(given).E]++
	}
	for _, e := range []api.Errno{api.OK, api.ErrMany, api.ErrDepth} {
		if seen[e] < 5 {
			t.Errorf("error %d occurs %d times only", e, seen[e])
		}
	}
}

// P15.3: Strip changes neither of two types so that Same tells otherwise, and no
// fault but its position.
func TestStripChangesNothing(t *testing.T) {
	g := generator{rand.New(rand.NewSource(17))}
	for range 3000 {
		a := g.right(3)
		b := duplicate(a)
		for range g.Intn(2) {
			g.spoil(&b)
		}
		a, b = placed(a), placed(b)
		same := equal(a, b)
		for _, pair := range [][2]api.Type{{a, b}, {b, a}, {Strip(a), b}, {a, Strip(b)}, {Strip(a), Strip(b)}} {
			if Same(pair[0], pair[1]) != same {
				t.Fatalf("%+v, %+v: Same is not %v", pair[0], pair[1], same)
			}
		}
		if Right(b).E != Right(Strip(b)).E {
			t.Fatalf("%+v: Strip changes the fault", b)
		}
	}
}

// spacious gives each slice of t room, which is filled with its elements.
func spacious(t api.Type) api.Type {
	walk(reflect.ValueOf(&t).Elem(), "", func(x reflect.Value, _ string) {
		if x.Kind() == reflect.Slice {
			room := reflect.MakeSlice(x.Type(), 2*x.Len(), 2*x.Len())
			reflect.Copy(room, x)
			reflect.Copy(room.Slice(x.Len(), 2*x.Len()), x)
			x.Set(room.Slice(0, x.Len()))
		}
	})
	return t
}

// stretched returns a copy of t with its slices as long as they have room.
func stretched(t api.Type) api.Type {
	walk(reflect.ValueOf(&t).Elem(), "", func(x reflect.Value, _ string) {
		if x.Kind() == reflect.Slice {
			fresh := reflect.MakeSlice(x.Type(), x.Cap(), x.Cap())
			reflect.Copy(fresh, x.Slice(0, x.Cap()))
			x.Set(fresh)
		}
	})
	return t
}

// scribble changes all that the slices of t contain, in place.
func scribble(t api.Type) {
	inside := func(y reflect.Value, _ string) {
		switch y.Kind() {
		case reflect.Int:
			y.SetInt(-99)
		case reflect.String:
			y.SetString("scribble")
		}
	}
	walk(reflect.ValueOf(&t).Elem(), "", func(x reflect.Value, _ string) {
		if x.Kind() == reflect.Slice {
			for i := range x.Len() {
				walk(x.Index(i), "", inside)
			}
		}
	})
}

// R3: no function changes its arguments, not even beyond the length of a slice,
// and what Strip returns shares no memory with them nor within itself.
func TestMemory(t *testing.T) {
	given := spacious(rich())
	before := stretched(given)
	Right(given)
	Count(given)
	Depth(given)
	Same(given, given)
	stripped := Strip(given)
	if !reflect.DeepEqual(stretched(given), before) {
		t.Error("an argument is changed")
	}
	copied := duplicate(stripped)
	scribble(stripped)
	if !reflect.DeepEqual(stretched(given), before) {
		t.Error("the result shares memory with the argument")
	}
	stripped = Strip(given)
	scribble(given)
	if !reflect.DeepEqual(stripped, copied) {
		t.Error("the result retains the argument")
	}
	noShared(t, given, Strip(given))
}

// noShared tells if two slices of the values overlap.
func noShared(t *testing.T, values ...api.Type) {
	t.Helper()
	seen := map[uintptr]bool{}
	for i := range values {
		walk(reflect.ValueOf(&values[i]).Elem(), "", func(x reflect.Value, _ string) {
			if x.Kind() != reflect.Slice || x.Cap() == 0 {
				return
			}
			if seen[x.Pointer()] {
				t.Error("two slices share memory")
			}
			seen[x.Pointer()] = true
		})
	}
}

// R1, R4: answers hang on the arguments alone, whatever was asked before.
func TestAgain(t *testing.T) {
	large := record(parts(8, record(parts(64, boolean())...))...)
	for range 3 {
		if got := Right(large); got.E != api.ErrMany {
			t.Errorf("521 types: %v", got)
		}
		if got := Right(boolean()); got != none() {
			t.Errorf("one type after them: %v", got)
		}
	}
}
