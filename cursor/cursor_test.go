package cursor

import (
	"fmt"
	"math"
	"math/rand"
	"slices"
	"strings"
	"testing"

	"blindfold/api"
	"blindfold/tokens"
)

// stepper is what a cursor and its model do.
type stepper interface {
	Peek() api.Token
	Next() api.Token
	Mark(m string) bool
	Word(name string) bool
	Take(kind int) (api.Token, bool)
	Need(m string) bool
	Fail(e api.Errno)
	FailAt(e api.Errno, at int)
	Enter() bool
	Leave()
	Depth() int
	Fault() api.Fault
}

// model is a cursor as the chapter defines it.
type model struct {
	list   []api.Token
	index  int
	depth  int
	failed bool
	fault  api.Fault
}

func (m *model) Peek() api.Token {
	if m.failed {
		return api.Token{Kind: api.TEnd, At: m.fault.At, End: m.fault.At}
	}
	return m.list[m.index]
}

func (m *model) Next() api.Token {
	t := m.Peek()
	if !m.failed && m.index < len(m.list)-1 {
		m.index++
	}
	return t
}

func (m *model) Mark(s string) bool {
	if m.failed || m.Peek().Kind != api.TMark || m.Peek().Text != s {
		return false
	}
	m.index++
	return true
}

func (m *model) Word(s string) bool {
	if m.failed || m.Peek().Kind != api.TName || m.Peek().Text != s {
		return false
	}
	m.index++
	return true
}

func (m *model) Take(kind int) (api.Token, bool) {
	t := m.Peek()
	if m.failed || t.Kind == api.TEnd || t.Kind != kind {
		return api.Token{}, false
	}
	m.index++
	return t, true
}

func (m *model) Need(s string) bool {
	if m.Mark(s) {
		return true
	}
	if m.Peek().Kind == api.TEnd {
		m.Fail(api.ErrEnd)
	} else {
		m.Fail(api.ErrToken)
	}
	return false
}

func (m *model) Fail(e api.Errno) { m.FailAt(e, m.Peek().At) }

func (m *model) FailAt(e api.Errno, at int) {
	if e != api.OK && !m.failed {
		m.failed, m.fault = true, api.Fault{E: e, At: at}
	}
}

func (m *model) Enter() bool {
	if m.depth == 24 {
		m.Fail(api.ErrDepth)
		return false
	}
	m.depth++
	return true
}

func (m *model) Leave() {
	if m.depth > 0 {
		m.depth--
	}
}

func (m *model) Depth() int       { return m.depth }
func (m *model) Fault() api.Fault { return m.fault }

// operation is a call, and what it answers.
type operation struct {
	name string
	do   func(s stepper) any
}

// taken is what Take answers.
type taken struct {
	token api.Token
	ok    bool
}

// steps are the operations that do not let a cursor fail.
func steps() []operation {
	l := []operation{
		{"Peek", func(s stepper) any { return s.Peek() }},
		{"Next", func(s stepper) any { return s.Next() }},
		{"Enter", func(s stepper) any { return s.Enter() }},
		{"Leave", func(s stepper) any { s.Leave(); return nil }},
		{"Depth", func(s stepper) any { return s.Depth() }},
		{"Fault", func(s stepper) any { return s.Fault() }},
		{"Fail(OK)", func(s stepper) any { s.Fail(api.OK); return nil }},
		{"FailAt(OK, 3)", func(s stepper) any { s.FailAt(api.OK, 3); return nil }},
	}
	for _, text := range []string{"", "{", "..", "a", "b"} {
		l = append(l,
			operation{fmt.Sprintf("Mark(%q)", text), func(s stepper) any { return s.Mark(text) }},
			operation{fmt.Sprintf("Word(%q)", text), func(s stepper) any { return s.Word(text) }})
	}
	for kind := -1; kind <= 5; kind++ {
		l = append(l, operation{fmt.Sprintf("Take(%d)", kind), func(s stepper) any {
			token, ok := s.Take(kind)
			return taken{token, ok}
		}})
	}
	return l
}

// fails are the operations that let a cursor fail, or may do so.
func fails() []operation {
	var l []operation
	for _, m := range []string{"", "{", "..", "a"} {
		l = append(l, operation{fmt.Sprintf("Need(%q)", m), func(s stepper) any { return s.Need(m) }})
	}
	for _, e := range []api.Errno{api.ErrName, -1, 99} {
		l = append(l, operation{fmt.Sprintf("Fail(%d)", e), func(s stepper) any { s.Fail(e); return nil }})
	}
	for _, at := range []int{0, 2, -1, math.MaxInt} {
		l = append(l, operation{fmt.Sprintf("FailAt(ErrRange, %d)", at), func(s stepper) any { s.FailAt(api.ErrRange, at); return nil }})
	}
	return l
}

// pieces are tokens of all kinds, some of which have the text of others.
var pieces = []string{"a", "b", "{", "..", "7", "-1", "\"a\"", "\"{\"", "\"\""}

// made is a cursor at the first token of s.
func made(t *testing.T, s string) *Cursor {
	t.Helper()
	c, f := New(s)
	if c == nil || f != (api.Fault{}) {
		t.Fatalf("New(%q) = %v, %v", s, c, f)
	}
	return c
}

// scanned are the tokens of s.
func scanned(t *testing.T, s string) []api.Token {
	t.Helper()
	list, f := tokens.Scan(s)
	if f != (api.Fault{}) {
		t.Fatalf("Scan(%q): %v", s, f)
	}
	return list
}

// play does the operations one after the other with a cursor on s and with its
// model, which must answer and be the same after each.
func play(t *testing.T, s string, list []api.Token, sequence []operation) {
	t.Helper()
	c, m := made(t, s), &model{list: list}
	for i, o := range sequence {
		got, want := o.do(c), o.do(m)
		if got != want || c.Peek() != m.Peek() || c.Depth() != m.Depth() || c.Fault() != m.Fault() {
			var names []string
			for _, each := range sequence[:i+1] {
				names = append(names, each.name)
			}
			t.Fatalf("%q: %s: %v, at %v, depth %d, fault %v, want %v, at %v, depth %d, fault %v", s, strings.Join(names, " "),
				got, c.Peek(), c.Depth(), c.Fault(), want, m.Peek(), m.Depth(), m.Fault())
		}
	}
}

// stands tells whether a cursor is as it should be.
func stands(t *testing.T, c *Cursor, at api.Token, depth int, f api.Fault) {
	t.Helper()
	if c.Peek() != at || c.Depth() != depth || c.Fault() != f {
		t.Errorf("at %v, depth %d, fault %v, want %v, %d, %v", c.Peek(), c.Depth(), c.Fault(), at, depth, f)
	}
}

// ending is the TEnd at an index.
func ending(at int) api.Token { return api.Token{Kind: api.TEnd, At: at, End: at} }

// The chapter's example.
func TestExamples(t *testing.T) {
	c := made(t, "a b")
	if !c.Word("a") || c.Need(",") {
		t.Error("a b: Word(a) or Need(,)")
	}
	stands(t, c, ending(2), 0, api.Fault{E: api.ErrToken, At: 2})
}

// P14.1: a cursor stands at the first token, has not failed, and is not deep.
func TestNew(t *testing.T) {
	cases := []struct {
		s    string
		want api.Token
	}{
		{"", ending(0)},
		{" ; r\n", ending(5)},
		{"a b", api.Token{Kind: api.TName, At: 0, End: 1, Text: "a"}},
		{" {", api.Token{Kind: api.TMark, At: 1, End: 2, Text: "{"}},
		{";\n-40", api.Token{Kind: api.TInt, At: 2, End: 5, N: -40}},
		{"0", api.Token{Kind: api.TInt, At: 0, End: 1}},
		{`"\x41"a`, api.Token{Kind: api.TText, At: 0, End: 6, Text: "A"}},
		{"..9", api.Token{Kind: api.TMark, At: 0, End: 2, Text: ".."}},
		{strings.Repeat(" ", 65536), ending(65536)},
	}
	for _, c := range cases {
		stands(t, made(t, c.s), c.want, 0, api.Fault{})
	}
}

// P14.1: the fault of a text that has one, wherever it stands, and no cursor.
func TestNewFaults(t *testing.T) {
	cases := []struct {
		s string
		f api.Fault
	}{
		{"%", api.Fault{E: api.ErrChar}},
		{"a b %", api.Fault{E: api.ErrChar, At: 4}},
		{"a \xff", api.Fault{E: api.ErrUtf, At: 2}},
		{"a ;\x1b", api.Fault{E: api.ErrChar, At: 3}},
		{"a -", api.Fault{E: api.ErrEnd, At: 3}},
		{"{ 007", api.Fault{E: api.ErrForm, At: 2}},
		{"99999999999999999999", api.Fault{E: api.ErrNumber}},
		{`a "\q"`, api.Fault{E: api.ErrEscape, At: 3}},
		{`a "b`, api.Fault{E: api.ErrEnd, At: 4}},
		{"a " + strings.Repeat("b", 33), api.Fault{E: api.ErrName, At: 2}},
		{strings.Repeat(" ", 65537), api.Fault{E: api.ErrSize, At: 65536}},
	}
	for _, c := range cases {
		if _, f := tokens.Scan(c.s); f != c.f {
			t.Errorf("Scan(%.20q): %v, want %v", c.s, f, c.f)
		}
		if got, f := New(c.s); got != nil || f != c.f {
			t.Errorf("New(%.20q) = %v, %v, want %v", c.s, got, f, c.f)
		}
	}
}

// P14.1, P14.3: Next goes from token to token and stays at the end; Peek stays
// everywhere.
func TestNext(t *testing.T) {
	for _, s := range []string{"", "a", "a:-1", " {k: \"x\"} ; r\n", "levels {lo, hi} order {lo < hi} root text(3)", strings.Repeat("{", 65536)} {
		c := made(t, s)
		for i, want := range scanned(t, s) {
			if c.Peek() != want || c.Peek() != want {
				t.Fatalf("%.40q: Peek at token %d = %v, want %v", s, i, c.Peek(), want)
			}
			if got := c.Next(); got != want {
				t.Fatalf("%.40q: Next at token %d = %v, want %v", s, i, got, want)
			}
		}
		for range 3 {
			if got := c.Next(); got != ending(len(s)) {
				t.Errorf("%.40q: Next at the end = %v", s, got)
			}
		}
		stands(t, c, ending(len(s)), 0, api.Fault{})
	}
}

// P14.1: what each kind of token is accepted as, and what it is not.
func TestAccept(t *testing.T) {
	cases := []struct {
		s          string
		kind       int
		mark, word string
	}{
		{"a z", api.TName, "", "a"},
		{"true z", api.TName, "", "true"},
		{"{ z", api.TMark, "{", ""},
		{".. z", api.TMark, "..", ""},
		{"7 z", api.TInt, "", ""},
		{"0 z", api.TInt, "", ""},
		{`"a" z`, api.TText, "", ""},
		{`"{" z`, api.TText, "", ""},
		{`"" z`, api.TText, "", ""},
		{" ", api.TEnd, "", ""},
	}
	texts := []string{"", "a", "aa", "true", "tru", "{", "{{", "}", "..", ".", "7", "0", " a", "\"a\"", "\xff", "A"}
	for _, each := range cases {
		list := scanned(t, each.s)
		// holds tells whether a cursor accepted what it should, and advanced if so.
		holds := func(what string, c *Cursor, got, want bool) {
			t.Helper()
			if got != want {
				t.Errorf("%q: %s = %t", each.s, what, got)
			}
			if want {
				stands(t, c, list[1], 0, api.Fault{})
				return
			}
			stands(t, c, list[0], 0, api.Fault{})
		}
		for _, text := range texts {
			c := made(t, each.s)
			holds(fmt.Sprintf("Mark(%q)", text), c, c.Mark(text), text != "" && text == each.mark)
			c = made(t, each.s)
			holds(fmt.Sprintf("Word(%q)", text), c, c.Word(text), text != "" && text == each.word)
		}
		for _, kind := range []int{math.MinInt, -1, 0, 1, 2, 3, 4, 5, math.MaxInt} {
			c := made(t, each.s)
			token, ok := c.Take(kind)
			holds(fmt.Sprintf("Take(%d)", kind), c, ok, kind != api.TEnd && kind == each.kind)
			if ok && token != list[0] || !ok && token != (api.Token{}) {
				t.Errorf("%q: Take(%d) = %v, %t", each.s, kind, token, ok)
			}
		}
	}
}

// P14.1: the fault of Need is at the token that is not the mark, and at the end
// of the text if there is none.
func TestNeed(t *testing.T) {
	cases := []struct {
		s    string
		skip int
		m    string
		f    api.Fault
	}{
		{"a  }", 1, "{", api.Fault{E: api.ErrToken, At: 3}},
		{"a \"}\"", 1, "}", api.Fault{E: api.ErrToken, At: 2}},
		{"a ..", 1, ".", api.Fault{E: api.ErrToken, At: 2}},
		{"a 1", 1, "1", api.Fault{E: api.ErrToken, At: 2}},
		{"{ a", 1, "a", api.Fault{E: api.ErrToken, At: 2}},
		{"{ ; }\n ", 1, "}", api.Fault{E: api.ErrEnd, At: 7}},
		{"a", 1, "", api.Fault{E: api.ErrEnd, At: 1}},
		{"a", 9, "}", api.Fault{E: api.ErrEnd, At: 1}},
		{"a }", 1, "}", api.Fault{}},
		{"a 0..9", 2, "..", api.Fault{}},
	}
	for _, each := range cases {
		c := made(t, each.s)
		for range each.skip {
			c.Next()
		}
		if got, want := c.Need(each.m), each.f.E == api.OK; got != want || c.Fault() != each.f {
			t.Errorf("%q: Need(%q) = %t, %v, want %t, %v", each.s, each.m, got, c.Fault(), want, each.f)
		}
	}
}

// P14.2: Fail fails at the beginning of the token at which the cursor stands.
func TestFail(t *testing.T) {
	const s = "a  {-40 \"x\" "
	for i, token := range scanned(t, s) {
		for e := api.Errno(-2); e <= api.ErrRange+2; e++ {
			c := made(t, s)
			for range i {
				c.Next()
			}
			c.Fail(e)
			if e == api.OK {
				stands(t, c, token, 0, api.Fault{})
				continue
			}
			stands(t, c, ending(token.At), 0, api.Fault{E: e, At: token.At})
		}
	}
}

// P14.2: FailAt fails wherever it is told to, also outside the text.
func TestFailAt(t *testing.T) {
	for _, at := range []int{0, 1, 2, 3, 4, 65536, 65537, -1, math.MaxInt, math.MinInt, math.MaxInt32 + 1} {
		for _, skip := range []int{0, 1, 2} {
			c := made(t, "a b")
			for range skip {
				c.Next()
			}
			stood := c.Peek()
			c.FailAt(api.OK, at)
			stands(t, c, stood, 0, api.Fault{})
			c.FailAt(api.ErrRange, at)
			stands(t, c, ending(at), 0, api.Fault{E: api.ErrRange, At: at})
			if got := c.Next(); got != ending(at) {
				t.Errorf("Next of a cursor that failed at %d = %v", at, got)
			}
			stands(t, c, ending(at), 0, api.Fault{E: api.ErrRange, At: at})
		}
	}
}

// P14.2, P14.3: whatever let it fail, a failed cursor keeps the first fault and
// accepts nothing, but its depth changes as that of others.
func TestFailed(t *testing.T) {
	ways := []struct {
		name string
		fail func(c *Cursor)
		f    api.Fault
	}{
		{"Fail", func(c *Cursor) { c.Fail(api.ErrTwice) }, api.Fault{E: api.ErrTwice, At: 2}},
		{"FailAt", func(c *Cursor) { c.FailAt(api.ErrTwice, 5) }, api.Fault{E: api.ErrTwice, At: 5}},
		{"FailAt a token", func(c *Cursor) { c.FailAt(api.ErrTwice, 2) }, api.Fault{E: api.ErrTwice, At: 2}},
		{"FailAt 0", func(c *Cursor) { c.FailAt(api.ErrArg, 0) }, api.Fault{E: api.ErrArg}},
		{"Need", func(c *Cursor) { c.Need("}") }, api.Fault{E: api.ErrToken, At: 2}},
		{"Need at the end", func(c *Cursor) { c.Next(); c.Next(); c.Need("}") }, api.Fault{E: api.ErrEnd, At: 5}},
		{"Enter", func(c *Cursor) {
			for range 25 {
				c.Enter()
			}
			for range 24 {
				c.Leave()
			}
		}, api.Fault{E: api.ErrDepth, At: 2}},
	}
	for _, way := range ways {
		c := made(t, "a { b")
		c.Word("a")
		way.fail(c)
		for range 3 {
			stands(t, c, ending(way.f.At), 0, way.f)
			if c.Mark("{") || c.Mark("") || c.Word("b") || c.Word("") || c.Word("a") || c.Need("{") || c.Need("") {
				t.Errorf("%s: a mark or a word is accepted", way.name)
			}
			for kind := -1; kind <= 5; kind++ {
				if token, ok := c.Take(kind); token != (api.Token{}) || ok {
					t.Errorf("%s: Take(%d) = %v, %t", way.name, kind, token, ok)
				}
			}
			if got := c.Next(); got != ending(way.f.At) {
				t.Errorf("%s: Next = %v", way.name, got)
			}
			c.Fail(api.ErrName)
			c.Fail(api.OK)
			c.FailAt(api.ErrName, 4)
			c.FailAt(api.OK, 0)
			stands(t, c, ending(way.f.At), 0, way.f)
			for depth := range 24 {
				if !c.Enter() || c.Depth() != depth+1 {
					t.Errorf("%s: Enter at depth %d: depth %d", way.name, depth, c.Depth())
				}
			}
			if c.Enter() {
				t.Errorf("%s: Enter at depth 24", way.name)
			}
			stands(t, c, ending(way.f.At), 24, way.f)
			for range 30 {
				c.Leave()
			}
		}
	}
}

// P14.2: the depth goes from 0 to 24, whatever is left and entered between.
func TestDepth(t *testing.T) {
	c := made(t, "x { y")
	first := c.Peek()
	c.Leave()
	stands(t, c, first, 0, api.Fault{})
	for round := range 3 {
		for depth := range 24 {
			if !c.Enter() {
				t.Errorf("round %d: Enter at depth %d", round, depth)
			}
			stands(t, c, first, depth+1, api.Fault{})
		}
		for depth := range 24 {
			c.Leave()
			stands(t, c, first, 23-depth, api.Fault{})
		}
		for range 3 {
			c.Leave()
		}
		stands(t, c, first, 0, api.Fault{})
	}
	for range 24 {
		c.Enter()
	}
	// At depth 24 tokens are accepted as elsewhere.
	if !c.Word("x") || c.Enter() || c.Mark("{") || c.Word("y") {
		t.Error("at depth 24: Word(x), Enter, Mark({) or Word(y)")
	}
	stands(t, c, ending(2), 24, api.Fault{E: api.ErrDepth, At: 2})
	c.Leave()
	if !c.Enter() || c.Enter() {
		t.Error("at depth 23: Enter")
	}
	stands(t, c, ending(2), 24, api.Fault{E: api.ErrDepth, At: 2})
}

// P14.2, R5: a cursor that New did not make has no token, and nothing changes
// it; that of a nil cursor is a fault.
func TestNoCursor(t *testing.T) {
	for _, c := range []*Cursor{nil, {}} {
		f := api.Fault{}
		if c == nil {
			f = api.Fault{E: api.ErrArg}
		}
		for _, each := range append(steps(), fails()...) {
			switch got := each.do(c); {
			case each.name == "Fault":
				if got != f {
					t.Errorf("%v: Fault = %v", c, got)
				}
			case got != nil && got != (api.Token{}) && got != (taken{}) && got != false && got != 0:
				t.Errorf("%v: %s = %v", c, each.name, got)
			}
			stands(t, c, api.Token{}, 0, f)
		}
		for range 30 {
			if c.Enter() {
				t.Errorf("%v: Enter", c)
			}
		}
		stands(t, c, api.Token{}, 0, f)
	}
}

// P14.1, P14.2: all short sequences of operations on all short texts.
func TestEverySequence(t *testing.T) {
	all := append(steps(), fails()...)
	texts := []string{""}
	for _, a := range pieces {
		texts = append(texts, a)
		for _, b := range pieces {
			texts = append(texts, a+" "+b)
		}
	}
	for _, s := range texts {
		list := scanned(t, s)
		for _, a := range all {
			for _, b := range all {
				play(t, s, list, []operation{a, b})
			}
		}
	}
	for _, s := range []string{"a { 7", "{ a", "\"a\" b", ".. ..", "-1"} {
		list := scanned(t, s)
		for _, a := range all {
			for _, b := range all {
				for _, c := range all {
					play(t, s, list, []operation{a, b, c})
				}
			}
		}
	}
}

// P14.1, P14.2: long random sequences of operations, most of which do not let
// the cursor fail.
func TestLongSequences(t *testing.T) {
	source := rand.New(rand.NewSource(14))
	often, seldom := steps(), fails()
	deeper := operation{"Enter", func(s stepper) any { return s.Enter() }}
	for range 5000 {
		var text []string
		for range source.Intn(40) {
			text = append(text, pieces[source.Intn(len(pieces))])
		}
		s := strings.Join(text, " ")
		var sequence []operation
		for range 200 {
			switch source.Intn(100) {
			case 0:
				sequence = append(sequence, seldom[source.Intn(len(seldom))])
			case 1:
				sequence = append(sequence, slices.Repeat([]operation{deeper}, source.Intn(30))...)
			default:
				sequence = append(sequence, often[source.Intn(len(often))])
			}
		}
		play(t, s, scanned(t, s), sequence)
	}
}

// P14.3: what is accepted are the tokens of the text from the first on, none
// left out and none twice, up to the one at which the cursor fails.
func TestOrder(t *testing.T) {
	source := rand.New(rand.NewSource(143))
	for range 2000 {
		var text []string
		for range source.Intn(30) {
			text = append(text, pieces[source.Intn(len(pieces))])
		}
		s := strings.Join(text, "\n")
		list := scanned(t, s)
		c := made(t, s)
		stop := source.Intn(len(list))
		var got []api.Token
		for range 40 * len(list) {
			if len(got) == stop {
				c.Fail(api.ErrType)
			}
			stood := c.Peek()
			ok := false
			switch source.Intn(4) {
			case 0:
				ok = c.Mark(pieces[source.Intn(len(pieces))])
			case 1:
				ok = c.Word(pieces[source.Intn(len(pieces))])
			case 2:
				_, ok = c.Take(source.Intn(5))
			default:
				ok = c.Next().Kind != api.TEnd
			}
			if ok {
				got = append(got, stood)
			}
		}
		if !slices.Equal(got, list[:stop]) {
			t.Fatalf("%q: accepted %v, want %v", s, got, list[:stop])
		}
		stands(t, c, ending(list[stop].At), 0, api.Fault{E: api.ErrType, At: list[stop].At})
	}
}

// R4: cursors of one text do not know of each other.
func TestApart(t *testing.T) {
	const s = "a { 7"
	first, second := made(t, s), made(t, s)
	start := first.Peek()
	first.Enter()
	first.Next()
	first.Fail(api.ErrName)
	stands(t, second, start, 0, api.Fault{})
	if !second.Word("a") || !second.Need("{") {
		t.Error("the second cursor does not stand at its own tokens")
	}
	stands(t, first, ending(2), 1, api.Fault{E: api.ErrName, At: 2})
	stands(t, made(t, s), start, 0, api.Fault{})
}

// The section Ways: operations are methods, which callers pass as values.
func TestMethodValues(t *testing.T) {
	c := made(t, "a , b , c")
	// each accepts elements with commas between them.
	each := func(element, comma func(string) bool, texts ...string) bool {
		for i, text := range texts {
			if i > 0 && !comma(",") || !element(text) {
				return false
			}
		}
		return true
	}
	if !each(c.Word, c.Need, "a", "b", "c") {
		t.Error("a , b , c is not accepted")
	}
	stands(t, c, ending(9), 0, api.Fault{})
}
