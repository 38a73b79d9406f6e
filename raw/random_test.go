package raw

import (
	"math"
	"math/rand"
	"reflect"
	"slices"
	"strconv"
	"strings"
	"testing"

	"blindfold/api"
	"blindfold/tokens"
)

// writer makes random texts of the grammar, together with what they denote.
type writer struct {
	random *rand.Rand
	blanks bool // whether there are blanks and comments also where none are needed
	text   strings.Builder
	tokens []string
	left   int // how many values there may still be
}

// gap is what may stand between two tokens.
func (w *writer) gap() string {
	gaps := []string{" ", "\n", "\t", "\r", "\r\n  ", ";\n", "; a { \u00e9 \u4e00 \"\t\n", ";;\n;}\n ", " ; a: 1\n"}
	return gaps[w.random.Intn(len(gaps))]
}

// put writes a token and returns its position.
func (w *writer) put(token string) int {
	switch {
	case w.blanks && w.random.Intn(3) > 0:
		w.text.WriteString(w.gap())
	case len(w.tokens) > 0 && merge(w.tokens[len(w.tokens)-1], token):
		w.text.WriteString(" ")
	}
	at := w.text.Len()
	w.text.WriteString(token)
	w.tokens = append(w.tokens, token)
	return at
}

// merge reports whether two tokens may be another one, or none, if nothing is
// between them.
func merge(a, b string) bool {
	inName := func(c byte) bool {
		return c >= 'a' && c <= 'z' || c >= '0' && c <= '9' || c == '_'
	}
	return inName(a[len(a)-1]) && inName(b[0])
}

// all returns the text, with something behind the last token perhaps.
func (w *writer) all() string {
	if w.blanks {
		w.text.WriteString(w.gap() + []string{"", ";", "; the end"}[w.random.Intn(3)])
	}
	return w.text.String()
}

func (w *writer) name() (string, int) {
	all := []string{"a", "b", "true", "false", "none", "some", "x_9", strings.Repeat("n", 32)}
	s := all[w.random.Intn(len(all))]
	return s, w.put(s)
}

// value writes a value that has the depth at most.
func (w *writer) value(depth int) api.Raw {
	w.left--
	kind := 1 + w.random.Intn(6)
	if depth == 1 || w.left <= 0 {
		kind = 1 + w.random.Intn(3)
	}
	v := api.Raw{Kind: kind}
	switch kind {
	case 1:
		v.S, v.At = w.name()
	case 2:
		all := []int{0, 1, -1, 9, 4711, -40, math.MaxInt, math.MinInt}
		v.N = all[w.random.Intn(len(all))]
		v.At = w.put(strconv.Itoa(v.N))
	case 3:
		quoted := []string{`""`, `"a"`, `"\x41\u{41}"`, `"[1, {a: \"}]"`, "\"\u4e00;\"", `"\xff\n\\"`}
		denoted := []string{"", "a", "AA", `[1, {a: "}]`, "\u4e00;", "\xff\n\\"}
		i := w.random.Intn(len(quoted))
		v.S, v.At = denoted[i], w.put(quoted[i])
	case 4:
		v.At = w.put("[")
		w.some(func() { v.Kids = append(v.Kids, w.value(depth-1)) })
		w.put("]")
	case 5:
		v.At = w.put("{")
		w.some(func() { w.field(&v, depth) })
		w.put("}")
	case 6:
		v.S, v.At = w.name()
		w.put("(")
		v.Kids = []api.Raw{w.value(depth - 1)}
		w.put(")")
	}
	return v
}

func (w *writer) field(v *api.Raw, depth int) {
	s, at := w.name()
	w.put(":")
	v.Keys = append(v.Keys, word(s, at))
	v.Kids = append(v.Kids, w.value(depth-1))
}

// some calls one as often as there are elements, with a comma between each two.
func (w *writer) some(one func()) {
	for i := range w.random.Intn(5) {
		if i > 0 {
			w.put(",")
		}
		one()
	}
}

// write makes a random text, with what it denotes.
func write(random *rand.Rand) (*writer, api.Raw) {
	w := &writer{random: random, blanks: random.Intn(2) == 0, left: random.Intn(60)}
	v := w.value(1 + random.Intn(24))
	return w, v
}

// P22.1, P22.2, P22.3: what random texts of the grammar denote, and at which
// positions.
func TestRandom(t *testing.T) {
	random := rand.New(rand.NewSource(222))
	deepest := 0
	for range 20000 {
		w, want := write(random)
		denotes(t, w.all(), want)
		deepest = max(deepest, Depth(want))
	}
	if deepest < 12 {
		t.Errorf("no value is deeper than %d", deepest)
	}
}

// changed returns the tokens with up to three of them dropped, replaced, swapped or
// added.
func changed(random *rand.Rand, list []string) []string {
	list = slices.Clone(list)
	for range 1 + random.Intn(3) {
		i := random.Intn(len(list) + 1)
		token := vocabulary[random.Intn(len(vocabulary))]
		switch n := random.Intn(4); {
		case n == 0 || i == len(list):
			list = slices.Insert(list, i, token)
		case n == 1:
			list = slices.Delete(list, i, i+1)
		case n == 2:
			list[i] = token
		default:
			k := random.Intn(len(list))
			list[i], list[k] = list[k], list[i]
		}
	}
	return list
}

// P22.1: the faults of random texts that are almost right, and of their beginnings.
func TestChanged(t *testing.T) {
	random := rand.New(rand.NewSource(223))
	count := map[api.Errno]int{}
	for range 30000 {
		w, _ := write(random)
		list := changed(random, w.tokens)
		if random.Intn(3) == 0 {
			list = list[:random.Intn(len(list)+1)]
		}
		again := &writer{random: random, blanks: random.Intn(2) == 0}
		for _, token := range list {
			again.put(token)
		}
		_, f := holds(t, again.all())
		count[f.E]++
	}
	if count[api.OK] < 500 || count[api.ErrEnd] < 500 || count[api.ErrToken] < 5000 {
		t.Errorf("%v", count)
	}
}

// numbered returns v with the numbers of tokens in place of positions.
func numbered(v api.Raw, list []api.Token) api.Raw {
	number := func(at int) int {
		return slices.IndexFunc(list, func(token api.Token) bool { return token.At == at })
	}
	v.At = number(v.At)
	for i := range v.Keys {
		v.Keys[i].At = number(v.Keys[i].At)
	}
	for i := range v.Kids {
		v.Kids[i] = numbered(v.Kids[i], list)
	}
	return v
}

// P22.1: positions are those of tokens, so that blanks and comments change nothing
// else.
func TestBlanks(t *testing.T) {
	random := rand.New(rand.NewSource(224))
	for range 5000 {
		w, _ := write(random)
		var results []api.Raw
		for _, blanks := range []bool{false, true} {
			again := &writer{random: random, blanks: blanks}
			for _, token := range w.tokens {
				again.put(token)
			}
			s := again.all()
			list, _ := tokens.Scan(s)
			v, _ := holds(t, s)
			results = append(results, numbered(v, list))
		}
		if !reflect.DeepEqual(results[0], results[1]) {
			t.Fatalf("%q: %v", w.tokens, results)
		}
	}
}
