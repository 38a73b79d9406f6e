package syntax

import (
	"slices"
	"strings"

	"blindfold/api"
)

// The grammar, as the chapter writes it.
const chapterGrammar = `
    schema = "levels" "{" NAME { "," NAME } "}" [ "order" "{" [ chain { "," chain } ] "}" ] { "type" NAME "=" type } "root" type end
    chain  = NAME "<" NAME { "<" NAME }
    type   = "bool" | "int" "(" INT ".." INT ")" | "text" "(" INT ")" | "enum" "(" NAME { "," NAME } ")"
           | "list" "(" type "," INT ")" | "opt" "(" type ")" | "ref" "(" NAME ")"
           | "record" "{" [ field { "," field } ] "}" | "union" "{" tag { "," tag } "}"
    field  = NAME ":" type marks
    tag    = NAME [ "(" type ")" marks ]
    marks  = [ "@" label ] [ "#" INT ] [ "~" coarse ]
    label  = NAME { "+" NAME }
    coarse = ( "floor" "(" INT ")" | "first" "(" INT ")" | "count" ) [ "@" label ]
`

// Kinds of expressions of the grammar.
const (
	symbol   = iota // a quoted word, NAME, INT, end, or the name of a rule
	sequence        // all of its kids
	choice          // one of its kids
	option          // its only kid, or nothing
	repeat          // its only kid, as often as one likes
	leave           // nothing: a type ends here
)

// expression is a part of the grammar.
type expression struct {
	kind int
	text string
	kids []*expression
}

// grammar is the rules by name, read from the chapter's text.
type grammar map[string]*expression

// chapter is the grammar of the chapter.
var chapter = readGrammar()

// readGrammar also adds a rule for a text that is all of a type.
func readGrammar() grammar {
	g := grammar{}
	r := &reader{}
	for line := range strings.Lines(chapterGrammar) {
		words := strings.Fields(line)
		if len(words) > 1 && words[1] == "=" {
			r.words = append(r.words, "rule")
		}
		r.words = append(r.words, words...)
	}
	for r.found("rule") {
		name := r.next()
		r.next()
		g[name] = r.choice()
	}
	g["alone"] = &expression{kind: sequence, kids: []*expression{{text: "type"}, {text: "end"}}}
	return g
}

// reader reads the rules of the grammar, which are divided by the word rule.
type reader struct {
	words []string
}

func (r *reader) peek() string {
	if len(r.words) == 0 {
		return "rule"
	}
	return r.words[0]
}

func (r *reader) next() string {
	word := r.words[0]
	r.words = r.words[1:]
	return word
}

func (r *reader) found(word string) bool {
	if len(r.words) == 0 || r.words[0] != word {
		return false
	}
	r.next()
	return true
}

func (r *reader) choice() *expression {
	e := &expression{kind: choice, kids: []*expression{r.sequence()}}
	for r.found("|") {
		e.kids = append(e.kids, r.sequence())
	}
	return e
}

func (r *reader) sequence() *expression {
	e := &expression{kind: sequence}
	for !slices.Contains([]string{"rule", "|", "]", "}", ")"}, r.peek()) {
		e.kids = append(e.kids, r.one())
	}
	return e
}

func (r *reader) one() *expression {
	switch word := r.next(); word {
	case "[", "{", "(":
		inner := r.choice()
		r.next()
		kind := map[string]int{"[": option, "{": repeat, "(": choice}[word]
		return &expression{kind: kind, kids: []*expression{inner}}
	default:
		return &expression{text: word}
	}
}

// stack is the expressions that are still to come.
type stack struct {
	top  *expression
	rest *stack
}

// depth is the number of types that have begun and not ended.
func (s *stack) depth() int {
	n := 0
	for ; s != nil; s = s.rest {
		if s.top.kind == leave {
			n++
		}
	}
	return n
}

// state is all the ways in which a text may go on, and what the chapter asks to
// know of the next token.
type state struct {
	ways           []*stack // each with a quoted word, NAME, INT or end on top
	begins, tooFar bool     // a type or a coarse must begin, or a type that is too deep
}

// start is the state ahead of all that the rule stands for.
func (g grammar) start(rule string) state {
	var s state
	g.expand(&s, &stack{top: &expression{text: rule}})
	return s
}

// expand adds the ways to s that come from the top of w, whatever it is.
func (g grammar) expand(s *state, w *stack) {
	if w == nil {
		return
	}
	switch w.top.kind {
	case leave:
		g.expand(s, w.rest)
	case sequence:
		rest := w.rest
		for i := range w.top.kids {
			rest = &stack{w.top.kids[len(w.top.kids)-1-i], rest}
		}
		g.expand(s, rest)
	case choice:
		for _, kid := range w.top.kids {
			g.expand(s, &stack{kid, w.rest})
		}
	case option:
		g.expand(s, &stack{w.top.kids[0], w.rest})
		g.expand(s, w.rest)
	case repeat:
		g.expand(s, &stack{w.top.kids[0], w})
		g.expand(s, w.rest)
	default:
		g.expandSymbol(s, w)
	}
}

func (g grammar) expandSymbol(s *state, w *stack) {
	rule := g[w.top.text]
	rest := w.rest
	switch w.top.text {
	case "type":
		s.begins = true
		s.tooFar = s.tooFar || rest.depth() >= 24
		rest = &stack{&expression{kind: leave}, rest}
	case "coarse":
		s.begins = true
	}
	if rule == nil {
		s.ways = append(s.ways, w)
		return
	}
	g.expand(s, &stack{rule, rest})
}

// after is the state behind the token, or the error if it cannot stand there.
func (g grammar) after(s state, t api.Token) (state, api.Errno) {
	if s.tooFar {
		return state{}, api.ErrDepth
	}
	var next state
	stands := false
	for _, w := range s.ways {
		if fitting(w.top.text, t) {
			stands = true
			g.expand(&next, w.rest)
		}
	}
	switch {
	case stands:
		return next, api.OK
	case t.Kind == api.TEnd:
		return state{}, api.ErrEnd
	case t.Kind == api.TName && s.begins:
		return state{}, api.ErrName
	}
	return state{}, api.ErrToken
}

// fitting reports whether the token is what the word of the grammar denotes.
func fitting(word string, t api.Token) bool {
	switch word {
	case "NAME":
		return t.Kind == api.TName
	case "INT":
		return t.Kind == api.TInt
	case "end":
		return t.Kind == api.TEnd
	}
	return (t.Kind == api.TName || t.Kind == api.TMark) && `"`+t.Text+`"` == word
}

// fault is the fault of the tokens, the last of which is a TEnd.
func (g grammar) fault(rule string, list []api.Token) api.Fault {
	s := g.start(rule)
	for _, t := range list {
		next, e := g.after(s, t)
		if e != api.OK {
			return api.Fault{E: e, At: t.At}
		}
		s = next
	}
	return api.Fault{}
}
