package raw

import (
	"fmt"
	"math"
	"math/rand"
	"reflect"
	"slices"
	"strings"
	"testing"

	"blindfold/api"
)

// vocabulary is a token of each kind, all marks, and tokens that look like others.
var vocabulary = strings.Fields(`a none 7 -1 "a" "[" [ ] { } ( ) , : = < > @ + # ~ * ..`)

// Short forms of values.

func word(name string, at int) api.Word    { return api.Word{Name: name, At: at} }
func name(s string, at int) api.Raw        { return api.Raw{Kind: 1, S: s, At: at} }
func number(n, at int) api.Raw             { return api.Raw{Kind: 2, N: n, At: at} }
func text(s string, at int) api.Raw        { return api.Raw{Kind: 3, S: s, At: at} }
func list(at int, kids ...api.Raw) api.Raw { return api.Raw{Kind: 4, At: at, Kids: kids} }
func call(s string, at int, kid api.Raw) api.Raw {
	return api.Raw{Kind: 6, S: s, At: at, Kids: []api.Raw{kid}}
}
func record(at int, keys []api.Word, kids ...api.Raw) api.Raw {
	return api.Raw{Kind: 5, At: at, Keys: keys, Kids: kids}
}

// denotes asks whether the text denotes the value.
func denotes(t *testing.T, s string, want api.Raw) {
	t.Helper()
	v, f := holds(t, s)
	if f != (api.Fault{}) || !reflect.DeepEqual(v, want) && fmt.Sprint(v) != fmt.Sprint(want) {
		t.Fatalf("%.300q:\n %.300s, %v\nwant\n %.300s", s, fmt.Sprint(v), f, fmt.Sprint(want))
	}
}

// The chapter's example.
func TestExample(t *testing.T) {
	v, f := Parse("{a: [1]}")
	if f != (api.Fault{}) || Count(v) != 3 {
		t.Errorf("%v, %v contains %d values", v, f, Count(v))
	}
}

// P22.1: each alternative of the grammar, with its positions.
func TestByHand(t *testing.T) {
	keys := func(words ...api.Word) []api.Word { return words }
	for s, want := range map[string]api.Raw{
		"0":                       number(0, 0),
		" -17 ":                   number(-17, 1),
		"9223372036854775807":     number(math.MaxInt64, 0),
		"-9223372036854775808":    number(math.MinInt64, 0),
		`""`:                      text("", 0),
		`"a"`:                     text("a", 0),
		`;;` + "\n" + ` "\x41\n"`: text("A\n", 4),
		`"[1]"`:                   text("[1]", 0),
		"true":                    name("true", 0),
		"none":                    name("none", 0),
		" a_9 ; b":                name("a_9", 1),
		"some(1)":                 call("some", 0, number(1, 5)),
		"a (b( \"c\") )":          call("a", 0, call("b", 3, text("c", 6))),
		"a({})":                   call("a", 0, record(2, nil)),
		"[]":                      list(0),
		" [ ] ":                   list(1),
		"[a]":                     list(0, name("a", 1)),
		"[[],[[]]]":               list(0, list(1), list(4, list(5))),
		"[1, \"x\", y, z(2)]":     list(0, number(1, 1), text("x", 4), name("y", 9), call("z", 12, number(2, 14))),
		"{}":                      record(0, nil),
		"{ }":                     record(0, nil),
		"{a:b}":                   record(0, keys(word("a", 1)), name("b", 3)),
		"{a: {b: {}}}":            record(0, keys(word("a", 1)), record(4, keys(word("b", 5)), record(8, nil))),
		"{b:1,a:2}":               record(0, keys(word("b", 1), word("a", 5)), number(1, 3), number(2, 7)),
		"{a:1,a:1}":               record(0, keys(word("a", 1), word("a", 5)), number(1, 3), number(1, 7)),
		"{a: [1], b: some(a)}":    record(0, keys(word("a", 1), word("b", 9)), list(4, number(1, 5)), call("some", 12, name("a", 17))),
		"{true:true,none:[true]}": record(0, keys(word("true", 1), word("none", 11)),
			name("true", 6), list(16, name("true", 17))),
		// The value of the document's ten examples.
		`{user: "a", pin: 4711, deep: {k: true}}`: record(0, keys(word("user", 1), word("pin", 12), word("deep", 23)),
			text("a", 7), number(4711, 17), record(29, keys(word("k", 30)), name("true", 33))),
	} {
		denotes(t, s, want)
	}
}

// byHand asks for the error of each text, which is at the place where | stands in
// it.
func byHand(t *testing.T, texts map[string]api.Errno) {
	t.Helper()
	for marked, e := range texts {
		before, behind, _ := strings.Cut(marked, "|")
		want := api.Fault{E: e, At: len(before)}
		if _, f := holds(t, before+behind); f != want {
			t.Errorf("%.200q: %v, want %v", marked, f, want)
		}
	}
}

// P22.1: each fault but those of depth and number.
func TestFaults(t *testing.T) {
	byHand(t, map[string]api.Errno{
		"|":                  api.ErrEnd,
		"  ; a\n |":          api.ErrEnd,
		"|]":                 api.ErrToken,
		"|}":                 api.ErrToken,
		"|)":                 api.ErrToken,
		"|(1)":               api.ErrToken,
		"|,":                 api.ErrToken,
		"|: a":               api.ErrToken,
		"|..":                api.ErrToken,
		"|<***>":             api.ErrToken,
		"|= 1":               api.ErrToken,
		"1 |2":               api.ErrToken,
		"1|(2)":              api.ErrToken,
		"1|..2":              api.ErrToken,
		"1|,":                api.ErrToken,
		"1|a":                api.ErrToken,
		"\"a\" |\"b\"":       api.ErrToken,
		"\"a\"|(1)":          api.ErrToken,
		"a |b":               api.ErrToken,
		"a|: b":              api.ErrToken,
		"a|)":                api.ErrToken,
		"a|[1]":              api.ErrToken,
		"a|{}":               api.ErrToken,
		"a(|":                api.ErrEnd,
		"a(|)":               api.ErrToken,
		"a(|,)":              api.ErrToken,
		"a(1|":               api.ErrEnd,
		"a(1|, 2)":           api.ErrToken,
		"a(1|]":              api.ErrToken,
		"a(b|":               api.ErrEnd,
		"a(b|: 1)":           api.ErrToken,
		"a(1)|)":             api.ErrToken,
		"a(1)|(1)":           api.ErrToken,
		"[|":                 api.ErrEnd,
		"[|,":                api.ErrToken,
		"[|}":                api.ErrToken,
		"[|)":                api.ErrToken,
		"[|: 1]":             api.ErrToken,
		"[1|":                api.ErrEnd,
		"[1,|":               api.ErrEnd,
		"[1,|]":              api.ErrToken,
		"[1,|,2]":            api.ErrToken,
		"[1 |2]":             api.ErrToken,
		"[1|}":               api.ErrToken,
		"[1|)":               api.ErrToken,
		"[a|: 1]":            api.ErrToken,
		"[1]|]":              api.ErrToken,
		"[1] |[1]":           api.ErrToken,
		"[]|, []":            api.ErrToken,
		"[[1]|":              api.ErrEnd,
		"{|":                 api.ErrEnd,
		"{|,}":               api.ErrToken,
		"{|]":                api.ErrToken,
		"{|1: 2}":            api.ErrToken,
		"{|\"a\": 2}":        api.ErrToken,
		"{|{}: 2}":           api.ErrToken,
		"{a|":                api.ErrEnd,
		"{a|}":               api.ErrToken,
		"{a |1}":             api.ErrToken,
		"{a|(1): 2}":         api.ErrToken,
		"{a |= 2}":           api.ErrToken,
		"{a|, b: 1}":         api.ErrToken,
		"{a:|":               api.ErrEnd,
		"{a:|}":              api.ErrToken,
		"{a:|,}":             api.ErrToken,
		"{a:|: 1}":           api.ErrToken,
		"{a: 1|":             api.ErrEnd,
		"{a: 1|]":            api.ErrToken,
		"{a: 1 |b: 2}":       api.ErrToken,
		"{a: b|: 2}":         api.ErrToken,
		"{a: 1,|":            api.ErrEnd,
		"{a: 1,|}":           api.ErrToken,
		"{a: 1,|,b: 2}":      api.ErrToken,
		"{a: 1, |2}":         api.ErrToken,
		"{a: 1, b|":          api.ErrEnd,
		"{a: 1, b|}":         api.ErrToken,
		"{a: 1}|}":           api.ErrToken,
		"{} |{}":             api.ErrToken,
		"{a: |<***>}":        api.ErrToken,
		"{a: |<~4000>}":      api.ErrToken,
		"{a: [b(|]), c: 1":   api.ErrToken,
		"{a: [b(1), c|: 1}]": api.ErrToken,
	})
}

// P22.1: the faults of tokens.Scan, which come ahead of all others.
func TestScanFaults(t *testing.T) {
	big := strings.Repeat(" ", 65536)
	byHand(t, map[string]api.Errno{
		"|%":                           api.ErrChar,
		") ] 1 2 |%":                   api.ErrChar,
		"[1,] |\xff":                   api.ErrUtf,
		"|\u00e9":                      api.ErrChar,
		"|Ab":                          api.ErrChar,
		"{a: |007}":                    api.ErrForm,
		"{a} -|x":                      api.ErrForm,
		"{a: |9223372036854775808}":    api.ErrNumber,
		"\"ab|\\q\"":                   api.ErrEscape,
		"[\"ab|":                       api.ErrEnd,
		"[\"ab|\n\"]":                  api.ErrChar,
		"|" + strings.Repeat("n", 33):  api.ErrName,
		"a ; |\xff":                    api.ErrUtf,
		strings.Repeat("[", 25) + "|!": api.ErrChar,
		"[" + strings.Repeat("1,", 5000) + "|\x00": api.ErrChar,
		big + "|1":            api.ErrSize,
		"% " + big[2:] + "| ": api.ErrSize,
		") " + big[2:] + "| ": api.ErrSize,
	})
	denotes(t, big[1:]+"1", number(1, 65535))
}

// tried is the texts that explore has asked for.
type tried struct {
	t      *testing.T
	random *rand.Rand
	words  []string
	count  map[api.Errno]int
}

// explore asks for all texts of up to n more words behind s, but not further behind
// a word that cannot stand where it is: there, what follows changes nothing.
func (e *tried) explore(s string, n int) {
	e.t.Helper()
	for _, w := range e.words {
		longer := s + w + " "
		_, f := holds(e.t, longer)
		e.count[f.E]++
		switch {
		case f.E != api.OK && f.At == len(s):
			more := longer + e.words[e.random.Intn(len(e.words))] + " " + e.words[e.random.Intn(len(e.words))]
			if _, again := holds(e.t, more); again != f {
				e.t.Fatalf("%q: %v, but %v behind %q", more, again, f, longer)
			}
		case n > 1:
			e.explore(longer, n-1)
		}
	}
}

// P22.1: all texts of up to 5 words of the vocabulary, and of up to 8 of fewer words.
func TestShort(t *testing.T) {
	for n, words := range map[int][]string{
		5: vocabulary,
		8: {"a", "1", "[", "]", "{", "}", "(", ")", ",", ":"},
	} {
		e := &tried{t: t, random: rand.New(rand.NewSource(22)), words: words, count: map[api.Errno]int{}}
		e.explore("", n)
		if e.count[api.OK] < 80 || e.count[api.ErrEnd] < 500 || e.count[api.ErrToken] < 4000 {
			t.Errorf("%d: %v", n, e.count)
		}
	}
}

// pieces are all that a text may have in it.
var pieces = append(slices.Clone(vocabulary), " ", "\n", ";", "\"", "\\", "..", ".", "-", "0", "00", "\xff", "\xe2\x82", "\u00e9", "\u202e", "A", "%", "\x00", "\x1b", "{a:", "[1,", "f(", "a:1,")

// P22.1, P1: any pieces, with or without blanks between them.
func TestPieces(t *testing.T) {
	random := rand.New(rand.NewSource(221))
	for range 100000 {
		var l []string
		for range random.Intn(12) {
			l = append(l, pieces[random.Intn(len(pieces))])
		}
		holds(t, strings.Join(l, []string{"", " "}[random.Intn(2)]))
	}
	for range 20000 {
		b := make([]byte, random.Intn(12))
		for i := range b {
			b[i] = byte(random.Intn(256))
		}
		holds(t, string(b))
	}
}
