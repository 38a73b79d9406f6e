package unparse

import (
	"math"
	"math/rand"
	"reflect"
	"slices"
	"strconv"
	"strings"

	"blindfold/api"
	"blindfold/kinds"
)

// The model: the chapter's definitions, written without the package's functions.

// printable is what Right must answer.
func printable(s api.Schema) bool {
	words := slices.Clone(s.Levels)
	types := []api.Type{s.Root}
	for _, pair := range s.Order {
		words = append(words, pair.Lo, pair.Hi)
	}
	for _, n := range s.Types {
		words = append(words, n.Name)
		types = append(types, n.Type)
	}
	return len(s.Levels) >= 1 &&
		!slices.ContainsFunc(words, func(w api.Word) bool { return !nameText(w.Name) }) &&
		!slices.ContainsFunc(types, func(t api.Type) bool { return kinds.Right(t) != api.Fault{} })
}

func nameText(s string) bool {
	if len(s) < 1 || len(s) > 32 || s[0] < 'a' || s[0] > 'z' {
		return false
	}
	return strings.Trim(s, "abcdefghijklmnopqrstuvwxyz0123456789_") == ""
}

// token is a token of a text. A quoted one stands in the grammar itself, and is
// no NAME and no INT.
type token struct {
	text   string
	quoted bool
}

// line is the tokens of a text.
type line []token

func (l *line) quote(texts ...string) {
	for _, s := range texts {
		*l = append(*l, token{s, true})
	}
}

func (l *line) name(w api.Word) { *l = append(*l, token{text: w.Name}) }
func (l *line) number(n int)    { *l = append(*l, token{text: strconv.Itoa(n)}) }

func (l *line) names(mark string, words []api.Word) {
	for i, w := range words {
		l.comma(i, mark)
		l.name(w)
	}
}

// comma puts the mark ahead of all elements but the first one.
func (l *line) comma(i int, mark string) {
	if i > 0 {
		l.quote(mark)
	}
}

func (l *line) schema(s api.Schema) {
	l.quote("levels", "{")
	l.names(",", s.Levels)
	l.quote("}", "order", "{")
	for i, pair := range s.Order {
		l.comma(i, ",")
		l.names("<", []api.Word{pair.Lo, pair.Hi})
	}
	l.quote("}")
	for _, n := range s.Types {
		l.quote("type")
		l.name(n.Name)
		l.quote("=")
		l.anyType(n.Type)
	}
	l.quote("root")
	l.anyType(s.Root)
}

func (l *line) anyType(t api.Type) {
	l.quote([]string{"bool", "int", "text", "enum", "list", "opt", "record", "union", "ref"}[t.Kind-1])
	switch t.Kind {
	case 1:
		return
	case 7, 8:
		l.quote("{")
		l.parts(t)
		l.quote("}")
		return
	}
	l.quote("(")
	switch t.Kind {
	case 2:
		l.number(t.Lo)
		l.quote("..")
		l.number(t.Hi)
	case 3:
		l.number(t.Most)
	case 4:
		l.names(",", t.Names)
	case 5:
		l.anyType(t.Parts[0].Type)
		l.quote(",")
		l.number(t.Most)
	case 6:
		l.anyType(t.Parts[0].Type)
	case 9:
		l.name(t.Name)
	}
	l.quote(")")
}

func (l *line) parts(t api.Type) {
	for i, p := range t.Parts {
		l.comma(i, ",")
		l.name(p.Name)
		switch {
		case t.Kind == 7:
			l.quote(":")
			l.anyType(p.Type)
		case !p.Bare:
			l.quote("(")
			l.anyType(p.Type)
			l.quote(")")
		}
		l.label(p.Label)
		if p.Wide != 0 {
			l.quote("#")
			l.number(p.Wide)
		}
		l.coarse(p.Coarse)
	}
}

func (l *line) label(words []api.Word) {
	if len(words) > 0 {
		l.quote("@")
		l.names("+", words)
	}
}

func (l *line) coarse(c api.Coarse) {
	if c.Kind == 0 {
		return
	}
	l.quote("~", []string{"floor", "first", "count"}[c.Kind-1])
	if c.Kind != 3 {
		l.quote("(")
		l.number(c.N)
		l.quote(")")
	}
	l.label(c.Label)
}

// String is the text of the tokens, with the spaces that the chapter lists.
func (l line) String() string {
	var text strings.Builder
	for i, t := range l {
		if i > 0 && (isOne(l[i-1], ", : levels order type root < =") || isOne(t, "order type root @ # ~ < =")) {
			text.WriteString(" ")
		}
		text.WriteString(t.text)
	}
	return text.String()
}

// isOne reports whether t is one of the grammar's words and marks in the list.
func isOne(t token, list string) bool {
	return t.quoted && slices.Contains(strings.Fields(list), t.text)
}

// formatted is what Format must answer.
func formatted(s api.Schema) string {
	if !printable(s) {
		return ""
	}
	var l line
	l.schema(s)
	return l.String()
}

// typeText is what Type must answer.
func typeText(t api.Type) string {
	if (kinds.Right(t) != api.Fault{}) {
		return ""
	}
	var l line
	l.anyType(t)
	return l.String()
}

// walk applies do to v and to all that it contains, each with the name of the
// field in which it stands.
func walk(v reflect.Value, field string, do func(v reflect.Value, field string)) {
	do(v, field)
	switch v.Kind() {
	case reflect.Struct:
		for i := range v.NumField() {
			walk(v.Field(i), v.Type().Field(i).Name, do)
		}
	case reflect.Slice:
		for i := range v.Len() {
			walk(v.Index(i), "", do)
		}
	}
}

// everywhere is walk for all of what v points to.
func everywhere[T any](v *T, do func(x reflect.Value, field string)) {
	walk(reflect.ValueOf(v).Elem(), "", do)
}

// duplicate returns a copy of v that shares nothing with it; nil and empty slices
// remain what they are.
func duplicate[T any](v T) T {
	everywhere(&v, func(x reflect.Value, _ string) {
		if x.Kind() == reflect.Slice && !x.IsNil() {
			fresh := reflect.MakeSlice(x.Type(), x.Len(), x.Len())
			reflect.Copy(fresh, x)
			x.Set(fresh)
		}
	})
	return v
}

// plain returns v with all fields At set to 0 and all empty slices nil; the copy
// shares nothing with v.
func plain[T any](v T) T {
	c := duplicate(v)
	everywhere(&c, func(x reflect.Value, field string) {
		switch {
		case field == "At":
			x.SetInt(0)
		case x.Kind() == reflect.Slice && x.Len() == 0:
			x.SetZero()
		}
	})
	return c
}

// equal is what Same must answer.
func equal[T any](a, b T) bool {
	return reflect.DeepEqual(plain(a), plain(b))
}

// placed returns v with positions that all differ, none of which is 0.
func placed[T any](v T) T {
	v = duplicate(v)
	at := 0
	everywhere(&v, func(x reflect.Value, field string) {
		if field == "At" {
			at += 3
			x.SetInt(int64(at))
		}
	})
	return v
}

// positions counts the positions in v that are not 0.
func positions[T any](v T) int {
	n := 0
	everywhere(&v, func(x reflect.Value, field string) {
		if field == "At" && x.Int() != 0 {
			n++
		}
	})
	return n
}

// generator makes random schemas.
type generator struct{ *rand.Rand }

// names returns n different names, the words of the grammar among them.
func (g generator) names(n int) []api.Word {
	list := strings.Fields(`levels order type root bool int text enum list opt ref record union floor first count
		a b c lo hi x_9 a_ z0 ` + strings.Repeat("n", 32))
	var words []api.Word
	for _, i := range g.Perm(len(list))[:n] {
		words = append(words, api.Word{Name: list[i], At: g.Intn(99)})
	}
	return words
}

func (g generator) name() api.Word { return g.names(1)[0] }

func (g generator) pick(list ...int) int { return list[g.Intn(len(list))] }

// schema makes a schema that is printable.
func (g generator) schema() api.Schema {
	s := api.Schema{Levels: g.names(1 + g.Intn(4)), Root: g.anyType(g.Intn(4))}
	for range g.Intn(4) {
		s.Order = append(s.Order, api.Pair{Lo: g.name(), Hi: g.name()})
	}
	for range g.Intn(4) {
		s.Types = append(s.Types, api.Named{Name: g.name(), Type: g.anyType(g.Intn(3))})
	}
	return s
}

// anyType makes a type that has no fault, and contains others depth times.
func (g generator) anyType(depth int) api.Type {
	t := api.Type{Kind: 1 + g.Intn(9), At: g.Intn(99)}
	if depth == 0 {
		t.Kind = g.pick(api.Bool, api.Int, api.Text, api.Enum, api.Ref)
	}
	switch t.Kind {
	case api.Int:
		t.Lo = g.pick(math.MinInt, -40, -1, 0, 1, 7)
		t.Hi = t.Lo + g.pick(0, 1, 9)
		if g.Intn(3) == 0 {
			t.Hi = math.MaxInt
		}
	case api.Text:
		t.Most = g.pick(0, 1, 20, 4096)
	case api.Enum:
		t.Names = g.names(1 + g.Intn(4))
	case api.List:
		t.Most = g.pick(0, 1, 20, 1024)
		t.Parts = []api.Part{{Type: g.anyType(depth - 1)}}
	case api.Opt:
		t.Parts = []api.Part{{Type: g.anyType(depth - 1)}}
	case api.Record, api.Union:
		for _, name := range g.names(g.Intn(4) + t.Kind - api.Record) {
			t.Parts = append(t.Parts, g.part(name, t.Kind, depth-1))
		}
	case api.Ref:
		t.Name = g.name()
	}
	return t
}

func (g generator) part(name api.Word, kind, depth int) api.Part {
	p := api.Part{Name: name, Bare: kind == api.Union && g.Intn(3) == 0}
	if p.Bare {
		return p
	}
	p.Type = g.anyType(depth)
	p.Label = g.names(g.pick(0, 0, 1, 2, 3))
	p.Wide = g.pick(0, 0, 1, 4, 64)
	p.Coarse = api.Coarse{Kind: g.pick(0, api.Floor, api.First, api.Count), At: g.Intn(99)}
	switch p.Coarse.Kind {
	case api.Floor:
		p.Coarse.N = g.pick(1, 2, 1000, math.MaxInt)
	case api.First:
		p.Coarse.N = g.pick(0, 1, 4096)
	}
	if p.Coarse.Kind > 0 {
		p.Coarse.Label = g.names(g.pick(0, 0, 1, 2))
	}
	return p
}

// spoil changes one thing somewhere in v.
func spoil[T any](g generator, v *T) {
	count := 0
	everywhere(v, func(reflect.Value, string) { count++ })
	n := g.Intn(count)
	everywhere(v, func(x reflect.Value, _ string) {
		if n--; n == -1 {
			change(g, x)
		}
	})
}

func change(g generator, x reflect.Value) {
	switch x.Kind() {
	case reflect.Int:
		x.SetInt(int64(g.pick(math.MinInt, -1, 0, 1, 2, 3, 9, 10, 64, 65, 1025, 4097, math.MaxInt)))
	case reflect.Bool:
		x.SetBool(!x.Bool())
	case reflect.String:
		x.SetString([]string{"", "a", "b", "A", "1", "_", "a b", "\xff", strings.Repeat("n", 33)}[g.Intn(9)])
	case reflect.Slice:
		if g.Intn(2) == 0 {
			x.SetZero()
		} else {
			x.Set(reflect.Append(x, reflect.Zero(x.Type().Elem())))
		}
	}
}

// changes returns v with each thing in it changed, each with the field's name.
func changes[T any](v T) (changed []T, fields []string) {
	count := 0
	everywhere(&v, func(reflect.Value, string) { count++ })
	for n := range count {
		c, i, name := duplicate(v), -1, ""
		everywhere(&c, func(x reflect.Value, field string) {
			if i++; i != n {
				return
			}
			name = field
			switch x.Kind() {
			case reflect.Int:
				x.SetInt(x.Int() + 1)
			case reflect.Bool:
				x.SetBool(!x.Bool())
			case reflect.String:
				x.SetString(x.String() + "z")
			case reflect.Slice:
				x.Set(reflect.Append(x, reflect.Zero(x.Type().Elem())))
			default:
				name = ""
			}
		})
		if name != "" {
			changed, fields = append(changed, c), append(fields, name)
		}
	}
	return changed, fields
}
