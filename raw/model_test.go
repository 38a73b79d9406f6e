package raw

import (
	"fmt"
	"reflect"
	"slices"
	"strings"
	"testing"

	"blindfold/api"
	"blindfold/tokens"
)

// The first model tells the fault of a list of tokens, without recursion: a stack of
// symbols is still to come, and a table says what a symbol stands for at a token.

const other = "other" // any token that the row does not name
const leave = "leave" // nothing: a value ends here

// table is the grammar of the chapter. A symbol that it does not have is a token.
var table = map[string]map[string]string{
	"value": {
		"INT":  "INT",
		"TEXT": "TEXT",
		"NAME": "NAME argument",
		"[":    "[ items",
		"{":    "{ fields",
	},
	"argument": {"(": "( value )", other: ""},
	"items":    {"]": "]", other: "value moreItems"},
	"fields":   {"}": "}", other: "NAME : value moreFields"},

	"moreItems":  {",": ", value moreItems", other: "]"},
	"moreFields": {",": ", NAME : value moreFields", other: "}"},
}

// class is what the grammar calls the token.
func class(token api.Token) string {
	switch token.Kind {
	case api.TEnd:
		return "end"
	case api.TName:
		return "NAME"
	case api.TInt:
		return "INT"
	case api.TText:
		return "TEXT"
	}
	return token.Text
}

// model is what is known behind some tokens.
type model struct {
	stack         []string // the symbols still to come, the next one last
	values, depth int      // how many there are, and the greatest depth
	inside        int      // how many of them have not ended
	fault         api.Fault
}

// newModel is the model of the tokens, the last of which is a TEnd.
func newModel(list []api.Token) *model {
	m := &model{stack: []string{"end", "value"}}
	for _, token := range list {
		if e := m.accept(class(token)); e != api.OK {
			m.fault = api.Fault{E: e, At: token.At}
			break
		}
	}
	return m
}

func (m *model) pop() string {
	symbol := m.stack[len(m.stack)-1]
	m.stack = m.stack[:len(m.stack)-1]
	return symbol
}

// push puts the symbols on the stack, the first one last.
func (m *model) push(symbols string) {
	list := strings.Fields(symbols)
	slices.Reverse(list)
	m.stack = append(m.stack, list...)
}

// accept is the error at a token of the class.
func (m *model) accept(token string) api.Errno {
	for {
		symbol := m.pop()
		row, isRule := table[symbol]
		switch {
		case symbol == leave:
			m.inside--
			continue
		case symbol == "value":
			if e := m.begin(); e != api.OK {
				return e
			}
		case !isRule && symbol == token:
			return api.OK
		}
		next, found := row[token]
		if !found {
			next, found = row[other]
		}
		switch {
		case !found && token == "end":
			return api.ErrEnd
		case !found:
			return api.ErrToken
		}
		m.push(next)
	}
}

// begin is the error of a value that begins, whatever it is.
func (m *model) begin() api.Errno {
	switch {
	case m.inside >= 24:
		return api.ErrDepth
	case m.values >= 4096:
		return api.ErrMany
	}
	m.values++
	m.inside++
	m.depth = max(m.depth, m.inside)
	m.stack = append(m.stack, leave)
	return api.OK
}

// The second model writes what was parsed as tokens again. As the grammar is not
// ambiguous, no other value has these tokens.

// anywhere is the At of a token whose position a value does not tell.
const anywhere = -1

func mark(text string) api.Token {
	return api.Token{Kind: api.TMark, At: anywhere, Text: text}
}

// spell is the tokens of v.
func spell(v api.Raw) []api.Token {
	first := api.Token{At: v.At}
	switch v.Kind {
	case api.RWord, api.RCall:
		first.Kind, first.Text = api.TName, v.S
	case api.RInt:
		first.Kind, first.N = api.TInt, v.N
	case api.RText:
		first.Kind, first.Text = api.TText, v.S
	case api.RList:
		first.Kind, first.Text = api.TMark, "["
	case api.RRecord:
		first.Kind, first.Text = api.TMark, "{"
	}
	list := []api.Token{first}
	if v.Kind == api.RCall {
		list = append(list, mark("("))
	}
	for i, kid := range v.Kids {
		if i > 0 {
			list = append(list, mark(","))
		}
		if v.Kind == api.RRecord {
			list = append(list, api.Token{Kind: api.TName, At: v.Keys[i].At, Text: v.Keys[i].Name}, mark(":"))
		}
		list = append(list, spell(kid)...)
	}
	if last := map[int]string{api.RCall: ")", api.RList: "]", api.RRecord: "}"}[v.Kind]; last != "" {
		list = append(list, mark(last))
	}
	return list
}

// wrongField tells a field of v, or of a value in it, that does not belong to it.
func wrongField(v api.Raw) string {
	kids, keys := 0, 0
	switch v.Kind {
	case api.RWord, api.RText, api.RInt:
	case api.RCall:
		kids = 1
	case api.RList:
		kids = len(v.Kids)
	case api.RRecord:
		kids, keys = len(v.Kids), len(v.Kids)
	default:
		return fmt.Sprint("a Kind ", v.Kind)
	}
	hasText := v.Kind == api.RWord || v.Kind == api.RText || v.Kind == api.RCall
	switch {
	case len(v.Kids) != kids:
		return fmt.Sprintf("%d Kids of a Kind %d", len(v.Kids), v.Kind)
	case len(v.Keys) != keys:
		return fmt.Sprintf("%d Keys of a Kind %d", len(v.Keys), v.Kind)
	case v.N != 0 && v.Kind != api.RInt:
		return fmt.Sprintf("an N of a Kind %d", v.Kind)
	case v.S != "" && !hasText:
		return fmt.Sprintf("an S of a Kind %d", v.Kind)
	}
	for _, kid := range v.Kids {
		if wrong := wrongField(kid); wrong != "" {
			return wrong
		}
	}
	return ""
}

// sameTokens reports whether the tokens are those of the text, the last of which is
// a TEnd.
func sameTokens(spelled, scanned []api.Token) bool {
	return slices.EqualFunc(spelled, scanned[:len(scanned)-1], func(a, b api.Token) bool {
		return a.Kind == b.Kind && a.Text == b.Text && a.N == b.N && (a.At == b.At || a.At == anywhere)
	})
}

// positions is those of v, of its keys, and of the values in it, in their order.
func positions(v api.Raw) []int {
	list := []int{v.At}
	for i, kid := range v.Kids {
		if i < len(v.Keys) {
			list = append(list, v.Keys[i].At)
		}
		list = append(list, positions(kid)...)
	}
	return list
}

// increasing reports whether each number is greater than the one before it.
func increasing(list []int) bool {
	for i := range list {
		if i > 0 && list[i] <= list[i-1] {
			return false
		}
	}
	return true
}

// holds asks of the text all that the models tell (P22.1, P22.2), and P22.3.
func holds(t *testing.T, s string) (api.Raw, api.Fault) {
	t.Helper()
	list, want := tokens.Scan(s)
	m := newModel(list)
	if want.E == api.OK {
		want = m.fault
	}
	v, f := Parse(s)
	if f != want {
		t.Fatalf("%.200q: %v, want %v", s, f, want)
	}
	if f.E != api.OK {
		if !reflect.ValueOf(v).IsZero() {
			t.Fatalf("%.200q: %.300s beside the fault %v", s, fmt.Sprint(v), f)
		}
		return v, f
	}
	switch wrong := wrongField(v); {
	case wrong != "":
		t.Fatalf("%.200q: %s: %.300s", s, wrong, fmt.Sprint(v))
	case !sameTokens(spell(v), list):
		t.Fatalf("%.200q: other tokens than those of %.300s", s, fmt.Sprint(v))
	case Count(v) != m.values || Depth(v) != m.depth:
		t.Fatalf("%.200q: Count %d, Depth %d, want %d, %d", s, Count(v), Depth(v), m.values, m.depth)
	case Count(v) > 4096 || Depth(v) > 24 || !increasing(positions(v)):
		t.Fatalf("%.200q: Count %d, Depth %d, positions %.300s", s, Count(v), Depth(v), fmt.Sprint(positions(v)))
	}
	return v, f
}
