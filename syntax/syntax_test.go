package syntax

import (
	"fmt"
	"math"
	"math/rand"
	"reflect"
	"slices"
	"strconv"
	"strings"
	"testing"

	"blindfold/api"
	"blindfold/kinds"
	"blindfold/tokens"
)

// rules are the rules of the grammar that the texts of Parse and of Type follow.
var rules = []string{"schema", "alone"}

// parse is Parse or Type, by that rule.
func parse(rule, s string) (any, api.Fault) {
	if rule == "alone" {
		return Type(s)
	}
	return Parse(s)
}

// vocabulary is a token of each kind and all that the grammar distinguishes.
var vocabulary = strings.Fields(`levels order type root bool int text enum list opt ref record union floor first count
	a zz true { } [ ] ( ) , : = < > @ + # ~ * .. 7 -1 "a" "bool" "{"`)

// holds compares the fault of the text with that of the model, and asks for
// nothing but zero values together with it.
func holds(t *testing.T, rule, s string) api.Fault {
	t.Helper()
	list, want := tokens.Scan(s)
	if want.E == api.OK {
		want = chapter.fault(rule, list)
	}
	got, f := parse(rule, s)
	if f != want {
		t.Fatalf("%s %.200q: %v, want %v", rule, s, f, want)
	}
	if f.E != api.OK && !reflect.ValueOf(got).IsZero() {
		t.Fatalf("%s %.200q: %v beside the fault %v", rule, s, got, f)
	}
	return f
}

// sameResult compares a result with what it must be; nil and empty slices are
// equivalent.
func sameResult(t *testing.T, s string, got, want any, f api.Fault) {
	t.Helper()
	if f != (api.Fault{}) || !reflect.DeepEqual(got, want) && fmt.Sprint(got) != fmt.Sprint(want) {
		t.Fatalf("%.300q:\n %+v, %v\nwant\n %+v", s, got, f, want)
	}
}

// writer makes random texts of the grammar, together with what they denote.
type writer struct {
	random *rand.Rand
	blanks bool // whether there are blanks and comments also where none are needed
	text   strings.Builder
	tokens []string
}

// gap is what may stand between two tokens.
func (w *writer) gap() string {
	gaps := []string{" ", "\n", "\t", "\r", "\r\n  ", ";\n", "; a { \u00e9 \u4e00 \"\t\n", ";;\n;}\n ", " ; type t = bool\n"}
	return gaps[w.random.Intn(len(gaps))]
}

// put writes a token and returns its position.
func (w *writer) put(token string) int {
	switch {
	case w.blanks && w.random.Intn(3) > 0:
		w.text.WriteString(w.gap())
	case len(w.tokens) > 0 && merge(w.tokens[len(w.tokens)-1], token):
		w.text.WriteString(" ")
	}
	at := w.text.Len()
	w.text.WriteString(token)
	w.tokens = append(w.tokens, token)
	return at
}

// merge reports whether two tokens may be another one if nothing is between them.
func merge(a, b string) bool {
	return nameByte(a[len(a)-1]) && nameByte(b[0])
}

func nameByte(c byte) bool {
	return c >= 'a' && c <= 'z' || c >= '0' && c <= '9' || c == '_'
}

// all returns the text, with something behind the last token perhaps.
func (w *writer) all() string {
	if w.blanks {
		w.text.WriteString(w.gap() + []string{"", ";", "; the end"}[w.random.Intn(3)])
	}
	return w.text.String()
}

func (w *writer) name() api.Word {
	list := append([]string{"a", "b", "lo", "hi", "x_9", strings.Repeat("n", 32)}, vocabulary[:19]...)
	name := list[w.random.Intn(len(list))]
	at := w.put(name)
	return api.Word{Name: name, At: at}
}

func (w *writer) number() int {
	list := []int{0, 1, -1, 5, 64, 65, 4096, -40, math.MaxInt, math.MinInt}
	n := list[w.random.Intn(len(list))]
	w.put(strconv.Itoa(n))
	return n
}

// some calls one as often as there are elements, with the mark between each two.
func (w *writer) some(least int, mark string, one func()) {
	for i := range least + w.random.Intn(4) {
		if i > 0 {
			w.put(mark)
		}
		one()
	}
}

func (w *writer) names(least int, mark string) []api.Word {
	var words []api.Word
	w.some(least, mark, func() { words = append(words, w.name()) })
	return words
}

func (w *writer) schema() api.Schema {
	var s api.Schema
	w.put("levels")
	w.put("{")
	s.Levels = w.names(1, ",")
	w.put("}")
	if w.random.Intn(3) > 0 {
		w.put("order")
		w.put("{")
		w.some(0, ",", func() {
			words := w.names(2, "<")
			for i := range words[1:] {
				s.Order = append(s.Order, api.Pair{Lo: words[i], Hi: words[i+1]})
			}
		})
		w.put("}")
	}
	for range w.random.Intn(3) {
		w.put("type")
		name := w.name()
		w.put("=")
		s.Types = append(s.Types, api.Named{Name: name, Type: w.anyType(1 + w.random.Intn(3))})
	}
	w.put("root")
	s.Root = w.anyType(1 + w.random.Intn(4))
	return s
}

// anyType writes a type that has the depth at most.
func (w *writer) anyType(depth int) api.Type {
	kind := []int{1, 2, 3, 4, 5, 6, 7, 8, 9}[w.random.Intn(9)]
	if depth == 1 && slices.Contains([]int{5, 6, 7, 8}, kind) {
		kind = 9
	}
	t := api.Type{Kind: kind, At: w.put(strings.Fields("bool int text enum list opt record union ref")[kind-1])}
	if kind == 1 {
		return t
	}
	ends := []string{"(", ")"}
	if kind == 7 || kind == 8 {
		ends = []string{"{", "}"}
	}
	w.put(ends[0])
	w.content(&t, depth)
	w.put(ends[1])
	return t
}

func (w *writer) content(t *api.Type, depth int) {
	switch t.Kind {
	case 2:
		t.Lo = w.number()
		w.put("..")
		t.Hi = w.number()
	case 3:
		t.Most = w.number()
	case 4:
		t.Names = w.names(1, ",")
	case 5:
		t.Parts = []api.Part{{Type: w.anyType(depth - 1)}}
		w.put(",")
		t.Most = w.number()
	case 6:
		t.Parts = []api.Part{{Type: w.anyType(depth - 1)}}
	case 7:
		w.some(0, ",", func() { t.Parts = append(t.Parts, w.field(depth-1)) })
	case 8:
		w.some(1, ",", func() { t.Parts = append(t.Parts, w.tag(depth-1)) })
	case 9:
		t.Name = w.name()
	}
}

func (w *writer) field(depth int) api.Part {
	p := api.Part{Name: w.name()}
	w.put(":")
	p.Type = w.anyType(depth)
	w.marks(&p)
	return p
}

func (w *writer) tag(depth int) api.Part {
	p := api.Part{Name: w.name()}
	if w.random.Intn(3) == 0 {
		p.Bare = true
		return p
	}
	w.put("(")
	p.Type = w.anyType(depth)
	w.put(")")
	w.marks(&p)
	return p
}

func (w *writer) marks(p *api.Part) {
	p.Label = w.label()
	if w.random.Intn(2) == 0 {
		w.put("#")
		p.Wide = w.number()
	}
	if w.random.Intn(2) == 0 {
		return
	}
	w.put("~")
	kind := 1 + w.random.Intn(3)
	p.Coarse = api.Coarse{Kind: kind, At: w.put([]string{"floor", "first", "count"}[kind-1])}
	if kind != 3 {
		w.put("(")
		p.Coarse.N = w.number()
		w.put(")")
	}
	p.Coarse.Label = w.label()
}

func (w *writer) label() []api.Word {
	if w.random.Intn(2) == 0 {
		return nil
	}
	w.put("@")
	return w.names(1, "+")
}

// write makes a random text of the rule, with what it denotes.
func write(random *rand.Rand, rule string) (w *writer, text string, denoted any) {
	w = &writer{random: random, blanks: random.Intn(2) == 0}
	if rule == "alone" {
		denoted = w.anyType(1 + random.Intn(5))
	} else {
		denoted = w.schema()
	}
	return w, w.all(), denoted
}

// P16.1: what random texts of the grammar denote, and at which positions.
func TestRandom(t *testing.T) {
	random := rand.New(rand.NewSource(16))
	for _, rule := range rules {
		for range 20000 {
			_, s, want := write(random, rule)
			got, f := parse(rule, s)
			sameResult(t, s, got, want, f)
			holds(t, rule, s)
		}
	}
}

func word(name string, at int) api.Word { return api.Word{Name: name, At: at} }

// P16.1: each alternative of the grammar of types, with its positions.
func TestTypeByHand(t *testing.T) {
	flag := func(at int) api.Type { return api.Type{Kind: api.Bool, At: at} }
	cases := []struct {
		s    string
		want api.Type
	}{
		{"int(0..9)", api.Type{Kind: api.Int, Hi: 9}},
		{"bool", flag(0)},
		{" ;;\n bool ", flag(5)},
		{"int(-9223372036854775808..-1)", api.Type{Kind: api.Int, Lo: math.MinInt64, Hi: -1}},
		{"text(20)", api.Type{Kind: api.Text, Most: 20}},
		{" enum(x, bool)", api.Type{Kind: api.Enum, At: 1, Names: []api.Word{word("x", 6), word("bool", 9)}}},
		{"list(bool, 3)", api.Type{Kind: api.List, Most: 3, Parts: []api.Part{{Type: flag(5)}}}},
		{"opt(opt(bool))", api.Type{Kind: api.Opt, Parts: []api.Part{{Type: api.Type{Kind: api.Opt, At: 4, Parts: []api.Part{{Type: flag(8)}}}}}}},
		{"ref(t)", api.Type{Kind: api.Ref, Name: word("t", 4)}},
		{"record{}", api.Type{Kind: api.Record}},
		{"record{a:bool}", api.Type{Kind: api.Record, Parts: []api.Part{{Name: word("a", 7), Type: flag(9)}}}},
		{"record{a:bool@x+y+x,b:bool#7}", api.Type{Kind: api.Record, Parts: []api.Part{
			{Name: word("a", 7), Type: flag(9), Label: []api.Word{word("x", 14), word("y", 16), word("x", 18)}},
			{Name: word("b", 20), Type: flag(22), Wide: 7},
		}}},
		{"record{a:bool~floor(5)@x,b:bool~first(0),c:bool~count}", api.Type{Kind: api.Record, Parts: []api.Part{
			{Name: word("a", 7), Type: flag(9), Coarse: api.Coarse{Kind: api.Floor, N: 5, At: 14, Label: []api.Word{word("x", 23)}}},
			{Name: word("b", 25), Type: flag(27), Coarse: api.Coarse{Kind: api.First, At: 32}},
			{Name: word("c", 41), Type: flag(43), Coarse: api.Coarse{Kind: api.Count, At: 48}},
		}}},
		{"record{a:bool @y #4 ~count @z}", api.Type{Kind: api.Record, Parts: []api.Part{
			{Name: word("a", 7), Type: flag(9), Label: []api.Word{word("y", 15)}, Wide: 4, Coarse: api.Coarse{Kind: api.Count, At: 21, Label: []api.Word{word("z", 28)}}},
		}}},
		{"union{p,q(bool)@x#1~count,r}", api.Type{Kind: api.Union, Parts: []api.Part{
			{Name: word("p", 6), Bare: true},
			{Name: word("q", 8), Type: flag(10), Label: []api.Word{word("x", 16)}, Wide: 1, Coarse: api.Coarse{Kind: api.Count, At: 20}},
			{Name: word("r", 26), Bare: true},
		}}},
		// The words of the grammar are names like any other.
		{"record{bool:bool@at+type~first(1)@first}", api.Type{Kind: api.Record, Parts: []api.Part{
			{Name: word("bool", 7), Type: flag(12), Label: []api.Word{word("at", 17), word("type", 20)}, Coarse: api.Coarse{Kind: api.First, N: 1, At: 25, Label: []api.Word{word("first", 34)}}},
		}}},
		{"union{union,record(bool)}", api.Type{Kind: api.Union, Parts: []api.Part{
			{Name: word("union", 6), Bare: true},
			{Name: word("record", 12), Type: flag(19)},
		}}},
		{"ref(ref)", api.Type{Kind: api.Ref, Name: word("ref", 4)}},
	}
	for _, c := range cases {
		got, f := Type(c.s)
		sameResult(t, c.s, got, c.want, f)
	}
}

// P16.1: levels, chains, named types and the root, with their positions.
func TestParseByHand(t *testing.T) {
	a, b, c := word("a", 8), word("b", 11), word("c", 14)
	pair := func(lo string, at int, hi string, end int) api.Pair {
		return api.Pair{Lo: word(lo, at), Hi: word(hi, end)}
	}
	flag := func(at int) api.Type { return api.Type{Kind: api.Bool, At: at} }
	cases := []struct {
		s    string
		want api.Schema
	}{
		{"levels {a} root bool", api.Schema{Levels: []api.Word{a}, Root: flag(16)}},
		{"levels {a} order {} root bool", api.Schema{Levels: []api.Word{a}, Root: flag(25)}},
		{"levels {a, b, c} order {a < b < c} root bool", api.Schema{
			Levels: []api.Word{a, b, c},
			Order:  []api.Pair{pair("a", 24, "b", 28), pair("b", 28, "c", 32)},
			Root:   flag(40),
		}},
		{"levels{a}order{a<b,c<d<e<f,a<a}root bool", api.Schema{
			Levels: []api.Word{word("a", 7)},
			Order: []api.Pair{
				pair("a", 15, "b", 17), pair("c", 19, "d", 21), pair("d", 21, "e", 23), pair("e", 23, "f", 25), pair("a", 27, "a", 29),
			},
			Root: flag(36),
		}},
		{"levels {a} type t = bool type u = ref(t) root ref(u)", api.Schema{
			Levels: []api.Word{a},
			Types: []api.Named{
				{Name: word("t", 16), Type: flag(20)},
				{Name: word("u", 30), Type: api.Type{Kind: api.Ref, At: 34, Name: word("t", 38)}},
			},
			Root: api.Type{Kind: api.Ref, At: 46, Name: word("u", 50)},
		}},
		{"levels{levels,order}order{order<root}type type=bool type root=bool root bool", api.Schema{
			Levels: []api.Word{word("levels", 7), word("order", 14)},
			Order:  []api.Pair{pair("order", 26, "root", 32)},
			Types:  []api.Named{{Name: word("type", 42), Type: flag(47)}, {Name: word("root", 57), Type: flag(62)}},
			Root:   flag(72),
		}},
		// The schema of the document's ten examples.
		{"levels {lo, hi} order {lo < hi} root record{user: text(20), pin: int(0..9999) @hi #4 ~floor(1000), deep: record{k: bool @hi}}", api.Schema{
			Levels: []api.Word{word("lo", 8), word("hi", 12)},
			Order:  []api.Pair{pair("lo", 23, "hi", 28)},
			Root: api.Type{Kind: api.Record, At: 37, Parts: []api.Part{
				{Name: word("user", 44), Type: api.Type{Kind: api.Text, At: 50, Most: 20}},
				{Name: word("pin", 60), Type: api.Type{Kind: api.Int, At: 65, Hi: 9999}, Label: []api.Word{word("hi", 79)}, Wide: 4, Coarse: api.Coarse{Kind: api.Floor, N: 1000, At: 86}},
				{Name: word("deep", 99), Type: api.Type{Kind: api.Record, At: 105, Parts: []api.Part{
					{Name: word("k", 112), Type: flag(115), Label: []api.Word{word("hi", 121)}},
				}}},
			}},
		}},
	}
	for _, c := range cases {
		got, f := Parse(c.s)
		sameResult(t, c.s, got, c.want, f)
	}
}

// byHand asks for the error of each text, which is at the place where | stands in
// it.
func byHand(t *testing.T, rule string, texts map[string]api.Errno) {
	t.Helper()
	for marked, e := range texts {
		before, behind, _ := strings.Cut(marked, "|")
		want := api.Fault{E: e, At: len(before)}
		if f := holds(t, rule, before+behind); f != want {
			t.Errorf("%s %q: %v, want %v", rule, marked, f, want)
		}
	}
}

// P16.1: each fault of a type.
func TestTypeFaults(t *testing.T) {
	byHand(t, "alone", map[string]api.Errno{
		"|":                           api.ErrEnd,
		" ; bool|":                    api.ErrEnd,
		"|lump":                       api.ErrName,
		"|boole":                      api.ErrName,
		"|floor(1)":                   api.ErrName,
		"|type":                       api.ErrName,
		"|7":                          api.ErrToken,
		"|\"bool\"":                   api.ErrToken,
		"|{a: bool}":                  api.ErrToken,
		"bool |x":                     api.ErrToken,
		"bool |bool":                  api.ErrToken,
		"bool |@a":                    api.ErrToken,
		"bool|()":                     api.ErrToken,
		"int|":                        api.ErrEnd,
		"int |7":                      api.ErrToken,
		"int(|":                       api.ErrEnd,
		"int(|)":                      api.ErrToken,
		"int(|a..2)":                  api.ErrToken,
		"int(1|)":                     api.ErrToken,
		"int(1|,2)":                   api.ErrToken,
		"int(1..|)":                   api.ErrToken,
		"int(1..|":                    api.ErrEnd,
		"int(1..2|":                   api.ErrEnd,
		"int(1..2|..3)":               api.ErrToken,
		"int(1..2)|)":                 api.ErrToken,
		"text|{3}":                    api.ErrToken,
		"text(|)":                     api.ErrToken,
		"text(|\"3\")":                api.ErrToken,
		"text(3|..4)":                 api.ErrToken,
		"enum(|)":                     api.ErrToken,
		"enum(|1)":                    api.ErrToken,
		"enum(a|":                     api.ErrEnd,
		"enum(a,|":                    api.ErrEnd,
		"enum(a,|)":                   api.ErrToken,
		"enum(a |b)":                  api.ErrToken,
		"enum|{a}":                    api.ErrToken,
		"list(|)":                     api.ErrToken,
		"list(|lump, 1)":              api.ErrName,
		"list(bool|)":                 api.ErrToken,
		"list(bool,|":                 api.ErrEnd,
		"list(bool,|a)":               api.ErrToken,
		"list(bool,1|,1)":             api.ErrToken,
		"opt(|)":                      api.ErrToken,
		"opt(|lump)":                  api.ErrName,
		"opt(bool|,1)":                api.ErrToken,
		"opt(bool|":                   api.ErrEnd,
		"opt|{bool}":                  api.ErrToken,
		"ref(|)":                      api.ErrToken,
		"ref(|1)":                     api.ErrToken,
		"ref(|\"t\")":                 api.ErrToken,
		"ref(t|,u)":                   api.ErrToken,
		"ref |t":                      api.ErrToken,
		"record|":                     api.ErrEnd,
		"record|(a: bool)":            api.ErrToken,
		"record{|":                    api.ErrEnd,
		"record{|,}":                  api.ErrToken,
		"record{a|}":                  api.ErrToken,
		"record{a|(bool)}":            api.ErrToken,
		"record{a|=bool}":             api.ErrToken,
		"record{a:|}":                 api.ErrToken,
		"record{a:|":                  api.ErrEnd,
		"record{a:|a}":                api.ErrName,
		"record{a: int(|01..2)}":      api.ErrForm, // of tokens.Scan
		"record{a: bool,|}":           api.ErrToken,
		"record{a: bool |b: bool}":    api.ErrToken,
		"record{a: bool|":             api.ErrEnd,
		"record{|\"a\": bool}":        api.ErrToken,
		"record{a: bool @|}":          api.ErrToken,
		"record{a: bool @|":           api.ErrEnd,
		"record{a: bool @|1}":         api.ErrToken,
		"record{a: bool @x+|}":        api.ErrToken,
		"record{a: bool @x |y}":       api.ErrToken,
		"record{a: bool @x |@y}":      api.ErrToken,
		"record{a: bool #|}":          api.ErrToken,
		"record{a: bool #|x}":         api.ErrToken,
		"record{a: bool #1 |#1}":      api.ErrToken,
		"record{a: bool #1 |@x}":      api.ErrToken,
		"record{a: bool ~|}":          api.ErrToken,
		"record{a: bool ~|":           api.ErrEnd,
		"record{a: bool ~|1}":         api.ErrToken,
		"record{a: bool ~|bool}":      api.ErrName,
		"record{a: bool ~|counts}":    api.ErrName,
		"record{a: bool ~floor|}":     api.ErrToken,
		"record{a: bool ~floor(|)}":   api.ErrToken,
		"record{a: bool ~floor(1|..}": api.ErrToken,
		"record{a: bool ~first|":      api.ErrEnd,
		"record{a: bool ~first(|x)}":  api.ErrToken,
		"record{a: bool ~count|(1)}":  api.ErrToken,
		"record{a: bool ~count |#1}":  api.ErrToken,
		"record{a: bool ~count@|}":    api.ErrToken,
		"record{a: bool ~count |~":    api.ErrToken,
		"record{a: bool ~count@x|@x}": api.ErrToken,
		"union{|}":                    api.ErrToken,
		"union{|":                     api.ErrEnd,
		"union|(a)":                   api.ErrToken,
		"union{a|":                    api.ErrEnd,
		"union{a,|}":                  api.ErrToken,
		"union{a|:bool}":              api.ErrToken,
		"union{a|@x}":                 api.ErrToken, // a Bare tag has no marks
		"union{a|#1}":                 api.ErrToken,
		"union{a|~count}":             api.ErrToken,
		"union{a(|)}":                 api.ErrToken,
		"union{a(|a)}":                api.ErrName,
		"union{a(bool|@x)}":           api.ErrToken,
		"union{a(bool|":               api.ErrEnd,
		"union{a(bool)|(bool)}":       api.ErrToken,
	})
}

// P16.1: each fault of a schema outside its types, and what is between them.
func TestParseFaults(t *testing.T) {
	byHand(t, "schema", map[string]api.Errno{
		"|":                                     api.ErrEnd,
		"|root bool":                            api.ErrToken,
		"|{a} root bool":                        api.ErrToken,
		"|root(1)":                              api.ErrToken,
		"|bool":                                 api.ErrToken,
		"|lump":                                 api.ErrToken, // no type must begin here
		"|\"levels\" {a} root bool":             api.ErrToken,
		"levels|":                               api.ErrEnd,
		"levels |a":                             api.ErrToken,
		"levels {|":                             api.ErrEnd,
		"levels {|} root bool":                  api.ErrToken,
		"levels {a|":                            api.ErrEnd,
		"levels {a |b}":                         api.ErrToken,
		"levels {a,|} root bool":                api.ErrToken,
		"levels {a|<b} root bool":               api.ErrToken,
		"levels {a}|":                           api.ErrEnd,
		"levels {a} |lump":                      api.ErrToken,
		"levels {a} |levels {a}":                api.ErrToken,
		"levels {a} |bool":                      api.ErrToken,
		"levels {a}|, root bool":                api.ErrToken,
		"levels {a} order|":                     api.ErrEnd,
		"levels {a} order |root bool":           api.ErrToken,
		"levels {a} order {|":                   api.ErrEnd,
		"levels {a} order {|,}":                 api.ErrToken,
		"levels {a} order {|7}":                 api.ErrToken,
		"levels {a} order {a|}":                 api.ErrToken,
		"levels {a} order {a|,b<c}":             api.ErrToken,
		"levels {a} order {a<|}":                api.ErrToken,
		"levels {a} order {a<b<|}":              api.ErrToken,
		"levels {a} order {a<b,|}":              api.ErrToken,
		"levels {a} order {a<b|>c}":             api.ErrToken,
		"levels {a} order {a<b|":                api.ErrEnd,
		"levels {a} order {} |order {}":         api.ErrToken,
		"levels {a} type|":                      api.ErrEnd,
		"levels {a} type |= bool":               api.ErrToken,
		"levels {a} type t|":                    api.ErrEnd,
		"levels {a} type t |: bool":             api.ErrToken,
		"levels {a} type t |bool":               api.ErrToken,
		"levels {a} type t =|":                  api.ErrEnd,
		"levels {a} type t = |t root bool":      api.ErrName,
		"levels {a} type t = |root bool":        api.ErrName,
		"levels {a} type t = bool|":             api.ErrEnd,
		"levels {a} type t = bool|, u = bool":   api.ErrToken,
		"levels {a} type t = bool |@a":          api.ErrToken,
		"levels {a} type t = bool |order {}":    api.ErrToken,
		"levels {a} root|":                      api.ErrEnd,
		"levels {a} root |= bool":               api.ErrToken,
		"levels {a} root |root":                 api.ErrName,
		"levels {a} root |7":                    api.ErrToken,
		"levels {a} root bool ;\n|root bool":    api.ErrToken,
		"levels {a} root bool |type t = bool":   api.ErrToken,
		"levels {a} root bool|}":                api.ErrToken,
		"levels {a} root bool |@a":              api.ErrToken,
		"levels {a} root record{a: |lump} @ @ ": api.ErrName,
	})
}

// P16.1: the fault of tokens.Scan, wherever it is, comes before the grammar's.
func TestScanFaults(t *testing.T) {
	texts := map[string]api.Errno{
		"root root |%":            api.ErrChar,
		"bool bool ;|\x1b":        api.ErrChar,
		") |\xff":                 api.ErrUtf,
		"lump(|007)":              api.ErrForm,
		"lump -|":                 api.ErrEnd,
		"int(|-01..2)":            api.ErrForm,
		"|99999999999999999999":   api.ErrNumber,
		"( \"a|":                  api.ErrEnd,
		"( \"a|\\q\"":             api.ErrEscape,
		"int(0|.5)":               api.ErrChar,
		"levels {a} root |Bool":   api.ErrChar,
		"lump |" + long('n', 33):  api.ErrName,
		") " + long(' ', 65534):   api.ErrToken,
		long(' ', 65536) + "|) )": api.ErrSize,
		long(')', 65536) + "| ":   api.ErrSize,
		long('b', 65536) + "|b":   api.ErrSize,
	}
	for _, rule := range rules {
		for marked, e := range texts {
			if !strings.Contains(marked, "|") {
				marked = "|" + marked
			}
			byHand(t, rule, map[string]api.Errno{marked: e})
		}
	}
}

func long(c byte, n int) string { return strings.Repeat(string(c), n) }

// around are what may stand on both sides of a type that another one contains; the
// last one contains more types.
var around = [][2]string{
	{"opt(", ")"}, {"list(", ",2)"}, {"record{a:", "@a#1}"}, {"union{a(", ")~count}"}, {"union{a,b(", "),c}"}, {"record{a:bool,b:", ",c:bool}"},
}

// P16.1: 24 types may contain each other; the 25th is a fault at its first token,
// whatever that is.
func TestDepth(t *testing.T) {
	random := rand.New(rand.NewSource(24))
	beside := [][3]string{
		{"alone", "", ""},
		{"schema", "levels {a} root ", ""},
		{"schema", "levels {a} type t = ", " root bool"},
		{"schema", "levels {a} type t = opt(opt(bool)) root ", ""},
	}
	for range 100 {
		first, last := "", ""
		for range 23 {
			pair := around[random.Intn(len(around))]
			first, last = first+pair[0], pair[1]+last
		}
		pair := around[random.Intn(len(around)-1)]
		for _, side := range beside {
			least, deeper := side[1]+first, side[1]+first+pair[0]
			for _, inner := range []string{"bool", "int(1..2)", "text(1)", "enum(a)", "ref(a)", "record{}", "union{a,b}"} {
				atMost(t, side[0], least+inner+last+side[2])
				byHand(t, side[0], map[string]api.Errno{deeper + "|" + inner + pair[1] + last + side[2]: api.ErrDepth})
			}
			byHand(t, side[0], map[string]api.Errno{
				deeper + "|": api.ErrDepth, deeper + " ; \n |lump": api.ErrDepth, deeper + "|)": api.ErrDepth, deeper + "|7": api.ErrDepth,
				deeper + "|opt(": api.ErrDepth, deeper + "|\"a\"": api.ErrDepth, deeper + "|int(,": api.ErrDepth, deeper + "bool |%": api.ErrChar,
			})
		}
	}
}

// atMost asks that the text has no fault, and that its types have the depth 24.
func atMost(t *testing.T, rule, s string) {
	t.Helper()
	if f := holds(t, rule, s); f != (api.Fault{}) {
		t.Fatalf("%s %q: %v", rule, s, f)
	}
	depth := 0
	if rule == "alone" {
		got, _ := Type(s)
		depth = kinds.Depth(got)
	} else {
		got, _ := Parse(s)
		depth = kinds.Depth(got.Root)
		for _, named := range got.Types {
			depth = max(depth, kinds.Depth(named.Type))
		}
	}
	if depth != 24 {
		t.Fatalf("%s %q: depth %d", rule, s, depth)
	}
}

// P16.1: the depth counts the types that contain a type, not those beside it.
func TestDepthBeside(t *testing.T) {
	first := strings.Repeat("opt(", 22)
	deep := first + "bool" + strings.Repeat(")", 22)
	atMost(t, "alone", "record{a: "+deep+", b: "+deep+", c: bool, d: "+deep+"}")
	atMost(t, "alone", "union{a, b("+deep+"), c, d("+deep+")}")
	atMost(t, "schema", "levels {a} type t = opt("+deep+") type u = opt("+deep+") root opt("+deep+")")
	byHand(t, "alone", map[string]api.Errno{
		"record{a: " + deep + ", b: opt(" + first + "|bool":    api.ErrDepth,
		"record{a: " + deep + ", b: " + deep + "|":             api.ErrEnd,
		"record{a: " + deep + ", b: " + deep + ", c: |lump}":   api.ErrName,
		"record{a: " + deep + ", b: " + deep + ", c: bool} |a": api.ErrToken,
	})
}

// P16.1: behind all short beginnings of a text, whatever tokens it may go on with,
// all tokens of the vocabulary, and the end.
func TestEveryContinuation(t *testing.T) {
	everyContinuation(t, "alone", "", 7)
	everyContinuation(t, "schema", "", 6)
	everyContinuation(t, "schema", "levels { a }", 6)
	everyContinuation(t, "schema", "levels { a , b } order { a < b } type t = bool", 3)
	everyContinuation(t, "alone", "record { a : bool", 6)
	everyContinuation(t, "alone", "union { a ( bool )", 6)
	everyContinuation(t, "alone", strings.Repeat("opt ( ", 23), 4)
}

// everyContinuation goes on with each token that can stand behind s, the number of
// times, though of the names and numbers that stand where any may only with one.
func everyContinuation(t *testing.T, rule, s string, times int) {
	t.Helper()
	list, _ := tokens.Scan(s)
	now := chapter.start(rule)
	for _, token := range list[:len(list)-1] {
		now, _ = chapter.after(now, token)
	}
	holds(t, rule, s)
	anyName := slices.ContainsFunc(now.ways, func(w *stack) bool { return w.top.text == "NAME" })
	for _, word := range vocabulary {
		longer := s + " " + word
		next, _ := tokens.Scan(word)
		if _, e := chapter.after(now, next[0]); e != api.OK {
			holds(t, rule, longer)
			holds(t, rule, longer+" "+word+" } bool")
			continue
		}
		isOther := anyName && next[0].Kind == api.TName && word != "a" && word != "bool" || word == "-1"
		if times > 0 && !isOther {
			everyContinuation(t, rule, longer, times-1)
		} else {
			holds(t, rule, longer)
		}
	}
}

// P16.1: texts of the grammar in which a few tokens were removed, added, replaced
// or exchanged.
func TestChanged(t *testing.T) {
	random := rand.New(rand.NewSource(161))
	right := 0
	for _, rule := range rules {
		for range 30000 {
			w, _, _ := write(random, rule)
			list := w.tokens
			for range 1 + random.Intn(2) {
				list = changed(random, list)
			}
			if holds(t, rule, strings.Join(list, " ")).E == api.OK {
				right++
			}
		}
	}
	if right < 1000 || right > 30000 {
		t.Errorf("%d of 60000 changed texts have no fault", right)
	}
}

// changed returns the tokens with a change at random.
func changed(random *rand.Rand, list []string) []string {
	if len(list) == 0 {
		return list
	}
	i, j := random.Intn(len(list)), random.Intn(len(list))
	word := vocabulary[random.Intn(len(vocabulary))]
	list = slices.Clone(list)
	switch random.Intn(5) {
	case 0:
		return slices.Delete(list, i, i+1)
	case 1:
		return slices.Insert(list, i, word)
	case 2:
		list[i] = word
	case 3:
		list[i], list[j] = list[j], list[i]
	case 4:
		return list[:i]
	}
	return list
}

// P1, P16.1: all concatenations of a few pieces, as tokens or not.
func TestPieces(t *testing.T) {
	pieces := strings.Split("bool|int|(|)|{|}|,|..|7|-|:|a|union|\"|;|\n|%|\xff|\u00e9|@|~", "|")
	var every func(s string, more int)
	every = func(s string, more int) {
		holds(t, "schema", s)
		holds(t, "alone", s)
		if more > 0 {
			for _, piece := range pieces {
				every(s+piece, more-1)
			}
		}
	}
	every("", 3)
	random := rand.New(rand.NewSource(1))
	for range 20000 {
		s := ""
		for range random.Intn(30) {
			s += pieces[random.Intn(len(pieces))]
		}
		holds(t, "schema", "levels{a}root "+s)
		holds(t, "alone", s)
	}
}

// P16.2: what other chapters check is no fault here.
func TestNotChecked(t *testing.T) {
	types := []string{
		"int(1..0)", "text(-1)", "text(4097)", "list(bool,-1)", "list(bool,1025)",
		"enum(a,a)", "enum(" + strings.Repeat("a,", 64) + "a)",
		"record{a:bool,a:bool}", "record{" + strings.Repeat("a:bool,", 600) + "a:bool}",
		"union{a,a(bool),a}", "union{" + strings.Repeat("a,", 600) + "a}",
		"record{a:bool#-5}", "record{a:bool#65}", "record{a:bool#0}",
		"record{a:bool~floor(0)}", "record{a:bool~floor(-1)}", "record{a:bool~first(-1)}", "record{a:bool~first(4097)}",
		"record{a:bool~floor(7)}", "record{a:int(0..1)~count}", "record{a:text(1)~floor(3)}",
		"record{a:bool@x+x}", "record{a:bool@" + strings.Repeat("x+", 40) + "x}", "record{a:bool~count@" + strings.Repeat("x+", 40) + "x}",
		"ref(nothing)",
	}
	for _, s := range types {
		if _, f := Type(s); f != (api.Fault{}) {
			t.Errorf("%.40q: %v", s, f)
		}
		if _, f := Parse("levels{a}root " + s); f != (api.Fault{}) {
			t.Errorf("%.40q as a root: %v", s, f)
		}
	}
	schemas := []string{
		"levels{a,a}root bool", "levels{a,b}root bool", "levels{" + strings.Repeat("a,", 100) + "a}root bool",
		"levels{a}order{a<a}root bool", "levels{a}order{a<b<a}root bool", "levels{a}order{x<y}root bool",
		"levels{a}order{" + strings.Repeat("a<a,", 300) + "a<a}root bool", "levels{a}order{" + strings.Repeat("a<", 300) + "a}root bool",
		"levels{a}type t=ref(t)root ref(t)", "levels{a}type t=bool type t=bool root ref(u)",
		"levels{a}" + strings.Repeat("type t=bool ", 100) + "root bool",
		"levels{a}type t=record{a:ref(t)}root ref(t)",
	}
	for _, s := range schemas {
		if _, f := Parse(s); f != (api.Fault{}) {
			t.Errorf("%.40q: %v", s, f)
		}
	}
}

// P1, P16.1: texts of 65536 bytes with as much of one thing as possible.
func TestLongest(t *testing.T) {
	fill := func(first, again, last string) string {
		n := (65536 - len(first) - len(last)) / len(again)
		s := first + strings.Repeat(again, n) + last
		return s + strings.Repeat(" ", 65536-len(s))
	}
	count := func(what string, got int, f api.Fault, s, again string) {
		t.Helper()
		if want := strings.Count(s, again); got < want || got > want+2 || f != (api.Fault{}) {
			t.Errorf("%s: %d, %v, want %d", what, got, f, want)
		}
	}
	s := fill("levels{", "a,", "a}root bool")
	got, f := Parse(s)
	count("levels", len(got.Levels), f, s, "a,")
	s = fill("levels{a}order{", "a<", "a}root bool")
	got, f = Parse(s)
	count("a chain", len(got.Order), f, s, "a<")
	s = fill("levels{a}order{", "a<a,", "a<a}root bool")
	got, f = Parse(s)
	count("chains", len(got.Order), f, s, "a<a,")
	s = fill("levels{a}", "type t=bool ", "root bool")
	got, f = Parse(s)
	count("types", len(got.Types), f, s, "type")
	s = fill("levels{a}root record{", "a:bool,", "a:bool}")
	got, f = Parse(s)
	count("fields", len(got.Root.Parts), f, s, "bool,")
	s = fill("union{", "a,", "a}")
	one, f := Type(s)
	count("tags", len(one.Parts), f, s, "a,")
	s = fill("enum(", "a,", "a)")
	one, f = Type(s)
	count("names", len(one.Names), f, s, "a,")
	s = fill("record{a:bool@", "a+", "a}")
	one, f = Type(s)
	count("a label", len(one.Parts[0].Label), f, s, "a+")
	byHand(t, "alone", map[string]api.Errno{
		"record{" + strings.Repeat("a:bool,", 9361) + "|":   api.ErrEnd,
		strings.Repeat("opt(", 24) + "|" + long('(', 65440): api.ErrDepth,
	})
}

// walk applies do to v and to all that it contains.
func walk(v reflect.Value, do func(v reflect.Value)) {
	do(v)
	switch v.Kind() {
	case reflect.Struct:
		for i := range v.NumField() {
			walk(v.Field(i), do)
		}
	case reflect.Slice:
		for i := range v.Len() {
			walk(v.Index(i), do)
		}
	}
}

// numbered returns what was parsed, with the numbers of tokens, from 1, in place
// of positions.
func numbered[T any](t *testing.T, result T, s string) T {
	t.Helper()
	list, _ := tokens.Scan(s)
	walk(reflect.ValueOf(&result).Elem(), func(v reflect.Value) {
		if v.Kind() != reflect.Struct || v.IsZero() || !v.FieldByName("At").IsValid() {
			return
		}
		i := slices.IndexFunc(list, func(token api.Token) bool { return token.At == int(v.FieldByName("At").Int()) })
		if i < 0 {
			t.Fatalf("%q: %v stands where no token begins", s, v)
		}
		v.FieldByName("At").SetInt(int64(i) + 1)
	})
	return result
}

// P16.3: blanks and comments between tokens change only positions, those of faults
// with them.
func TestBlanks(t *testing.T) {
	random := rand.New(rand.NewSource(163))
	for _, rule := range rules {
		for range 5000 {
			w, _, _ := write(random, rule)
			list := w.tokens
			if random.Intn(2) == 0 {
				list = changed(random, list)
			}
			var results []string
			for range 3 {
				again := &writer{random: random, blanks: random.Intn(3) > 0}
				for _, token := range list {
					again.put(token)
				}
				results = append(results, outcome(t, rule, again.all()))
			}
			if results[0] != results[1] || results[0] != results[2] {
				t.Fatalf("%q: %q", list, results)
			}
		}
	}
}

// outcome tells the result and the fault of a text, with numbers of tokens in
// place of positions.
func outcome(t *testing.T, rule, s string) string {
	t.Helper()
	list, f := tokens.Scan(s)
	if f.E != api.OK {
		t.Fatalf("Scan(%q): %v", s, f)
	}
	var result string
	if rule == "alone" {
		got, fault := Type(s)
		result, f = fmt.Sprint(numbered(t, got, s)), fault
	} else {
		got, fault := Parse(s)
		result, f = fmt.Sprint(numbered(t, got, s)), fault
	}
	i := slices.IndexFunc(list, func(token api.Token) bool { return token.At == f.At })
	return result + " " + strconv.Itoa(int(f.E)) + " " + strconv.Itoa(i*min(int(f.E), 1))
}

// R3: no two slices of a result share memory, not even beyond their lengths.
func TestMemory(t *testing.T) {
	random := rand.New(rand.NewSource(3))
	texts := []string{"levels{a,b,c}order{a<b<c<a,b<c,a<b<c}type t=enum(a,b)root record{a:bool@a+b~count@a+b,b:union{p(bool)@a,q},c:list(record{},1)}"}
	for range 2000 {
		_, s, _ := write(random, "schema")
		texts = append(texts, s)
	}
	for _, s := range texts {
		got, _ := Parse(s)
		var used [][2]uintptr
		walk(reflect.ValueOf(got), func(v reflect.Value) {
			if v.Kind() == reflect.Slice && v.Cap() > 0 {
				used = append(used, [2]uintptr{v.Pointer(), v.Pointer() + uintptr(v.Cap())*v.Type().Elem().Size()})
			}
		})
		slices.SortFunc(used, func(a, b [2]uintptr) int { return int(a[0]) - int(b[0]) })
		for i := 1; i < len(used); i++ {
			if used[i][0] < used[i-1][1] {
				t.Fatalf("%q: two slices share memory", s)
			}
		}
	}
}

// R4: a result depends only on the text, not on what was parsed before, nor on
// what became of that.
func TestAgain(t *testing.T) {
	const s = "levels{a,b}order{a<b}root record{a:enum(x,y)@a+b#4~floor(2)@b}"
	first, _ := Parse(s)
	want := fmt.Sprint(first)
	if _, f := Parse(s + "}"); f.E != api.ErrToken {
		t.Errorf("%v", f)
	}
	first.Levels[0].Name = "changed"
	first.Root.Parts[0].Label[1].At = -1
	first.Root.Parts[0].Type.Names[0] = api.Word{}
	if second, f := Parse(s); fmt.Sprint(second) != want || f != (api.Fault{}) {
		t.Errorf("%v, %v, want %v", second, f, want)
	}
}
