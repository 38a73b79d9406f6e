package raw

import (
	"math/rand"
	"strings"
	"testing"

	"blindfold/api"
	"blindfold/tokens"
)

// openers are what may stand ahead of a value that another one contains, each with
// what may stand behind it.
var openers = [][2]string{
	{"[", "]"}, {"{a:", "}"}, {"f(", ")"}, {"[1,", "]"}, {"{a:1,b:", ",c:[]}"}, {"[[[]],", ",{}]"},
}

// nest is n openers, and what closes them. An opener with a number below 0 is any
// one.
func nest(random *rand.Rand, opener, n int) (before, behind string) {
	for range n {
		i := opener
		if i < 0 {
			i = random.Intn(len(openers))
		}
		before += openers[i][0]
		behind = openers[i][1] + behind
	}
	return before, behind
}

// P22.1: each kind of value and each token in 0 to 26 others.
func TestDepths(t *testing.T) {
	random := rand.New(rand.NewSource(24))
	inner := append([]string{"", " ", "[]", "{}", "f(1)", "[2]", "{a:1}", "{a:", "[a,"}, vocabulary...)
	for opener := -1; opener < len(openers); opener++ {
		for n := range 27 {
			for _, in := range inner {
				before, behind := nest(random, opener, n)
				holds(t, before+in)
				_, f := holds(t, before+in+behind)
				if n >= 25 && f.E != api.ErrDepth {
					t.Fatalf("%s%s%s: %v", before, in, behind, f)
				}
			}
		}
	}
}

// deep is what opens or closes a value, repeated as often as values may contain one
// another, less the number.
func deep(s string, less int) string {
	return strings.Repeat(s, 24-less)
}

// P22.1, P22.3: values of depth 24, which are fine, and at the first token of one of
// depth 25, whatever it is, the fault.
func TestDepthByHand(t *testing.T) {
	for _, s := range []string{
		deep("[", 0) + deep("]", 0),
		deep("[", 1) + "1" + deep("]", 1),
		deep("{a:", 1) + "{}" + deep("}", 1),
		deep("f(", 1) + "f" + deep(")", 1),
		deep("[", 1) + "[],{},a,1,\"\"" + deep("]", 1),
		"[" + strings.Repeat(deep("[", 1)+deep("]", 1)+",", 100) + deep("[", 1) + deep("]", 0),
		"{a:" + deep("f(", 2) + "1" + deep(")", 2) + ",b:" + deep("[", 1) + deep("]", 1) + "}",
	} {
		v, f := holds(t, s)
		if f != (api.Fault{}) || Depth(v) != 24 {
			t.Errorf("%s: %v, depth %d", s, f, Depth(v))
		}
	}
	byHand(t, map[string]api.Errno{
		deep("[", 0) + "|1" + deep("]", 0):           api.ErrDepth,
		deep("[", 0) + "|a":                          api.ErrDepth,
		deep("[", 0) + "|\"\"":                       api.ErrDepth,
		deep("[", 0) + "|[]" + deep("]", 0):          api.ErrDepth,
		deep("[", 0) + "|{}" + deep("]", 0):          api.ErrDepth,
		deep("[", 0) + "  |f(1)" + deep("]", 0):      api.ErrDepth,
		deep("{a:", 0) + "|1" + deep("}", 0):         api.ErrDepth,
		deep("{a:", 1) + "{a: ;\n|b}" + deep("}", 1): api.ErrDepth,
		deep("f(", 0) + "|1" + deep(")", 0):          api.ErrDepth,
		deep("f(", 0) + "|f(" + deep(")", 0):         api.ErrDepth,
		deep("[", 0) + "|" + deep("[", 0):            api.ErrDepth,

		// No value can begin with these tokens, but one would have to.
		deep("[", 0) + "|":            api.ErrDepth,
		deep("[", 0) + "|,":           api.ErrDepth,
		deep("[", 0) + "|}":           api.ErrDepth,
		deep("{a:", 0) + "|":          api.ErrDepth,
		deep("{a:", 0) + "|}":         api.ErrDepth,
		deep("f(", 0) + " |":          api.ErrDepth,
		deep("f(", 0) + "|)":          api.ErrDepth,
		deep("[", 1) + "f(|" + "]":    api.ErrDepth,
		deep("f(", 1) + "{a:|,":       api.ErrDepth,
		deep("{a:", 1) + "[|" + "= ]": api.ErrDepth,

		// No value would have to begin here.
		deep("[", 0) + "]|":                           api.ErrEnd,
		deep("[", 0) + "]|1":                          api.ErrToken,
		deep("[", 1) + "{|":                           api.ErrEnd,
		deep("[", 1) + "{|1":                          api.ErrToken,
		deep("[", 1) + "{a|}":                         api.ErrToken,
		deep("[", 1) + "a|":                           api.ErrEnd,
		deep("[", 1) + "a|{":                          api.ErrToken,
		deep("[", 1) + "1,|]":                         api.ErrToken,
		deep("[", 1) + "1,|":                          api.ErrEnd,
		deep("f(", 1) + "|)":                          api.ErrToken,
		deep("[", 0) + deep("]", 0) + "|]":            api.ErrToken,
		"[ |) " + deep("[", 0):                        api.ErrToken,
		"[" + deep("[", 1) + deep("]", 1) + "," + "|": api.ErrEnd,
	})
}

// P22.1, P22.3: 4096 values, which are fine, and at the first token of one more,
// whatever it is, the fault.
func TestManyByHand(t *testing.T) {
	ones := func(n int) string { return strings.Repeat("1,", n) }
	for _, s := range []string{
		"[" + ones(4094) + "1]",
		"[" + ones(4094) + "[]]",
		"[" + ones(4094) + "{}]",
		"[" + ones(4093) + "f(a)]",
		"[" + ones(4093) + "{a:1}]",
		"{" + strings.Repeat("a:1,", 4094) + "a:1}",
		"[" + strings.Repeat("f(1),", 2047) + "f]",
		"[" + strings.Repeat("[[]],", 2047) + "{}]",
		"[" + strings.Repeat("[],{},\"\",", 1364) + "[[[]]]]",
	} {
		v, f := holds(t, s)
		if f != (api.Fault{}) || Count(v) != 4096 {
			t.Errorf("%.20s: %v, %d values", s, f, Count(v))
		}
	}
	byHand(t, map[string]api.Errno{
		"[" + ones(4095) + "|1]":                                api.ErrMany,
		"[" + ones(4095) + "|a":                                 api.ErrMany,
		"[" + ones(4095) + "  |[]]":                             api.ErrMany,
		"[" + ones(4095) + "|" + ones(4095) + "1]":              api.ErrMany,
		"[" + ones(4094) + "[|1]]":                              api.ErrMany,
		"[" + ones(4094) + "f(|1)]":                             api.ErrMany,
		"[" + ones(4094) + "{a:|1}]":                            api.ErrMany,
		"{" + strings.Repeat("a:1,", 4095) + "a:|1}":            api.ErrMany,
		"[" + strings.Repeat("f(1),", 2047) + "f(|1)]":          api.ErrMany,
		"{" + strings.Repeat("a:[],", 2047*2) + "a:[|1]}":       api.ErrMany,
		deep("[", 2) + ones(4096-22) + "|1":                     api.ErrMany,
		deep("[", 2) + ones(4096-22-1) + "[|" + deep("[", 0):    api.ErrMany,
		"[" + strings.Repeat("[1],", 2047) + "1,|" + ones(5000): api.ErrMany,

		// No value can begin with these tokens, but one would have to.
		"[" + ones(4095) + "|":       api.ErrMany,
		"[" + ones(4095) + "|]":      api.ErrMany,
		"[" + ones(4095) + "|,":      api.ErrMany,
		"[" + ones(4094) + "[|)":     api.ErrMany,
		"[" + ones(4094) + "[ |":     api.ErrMany,
		"[" + ones(4094) + "f(|)]":   api.ErrMany,
		"[" + ones(4094) + "{a:|}]":  api.ErrMany,
		"[" + ones(4094) + "{a: |= ": api.ErrMany,

		// No value would have to begin here.
		"[" + ones(4094) + "1|":                     api.ErrEnd,
		"[" + ones(4094) + "1|}":                    api.ErrToken,
		"[" + ones(4094) + "1]|1":                   api.ErrToken,
		"[" + ones(4094) + "[]|":                    api.ErrEnd,
		"[" + ones(4094) + "{|1}]":                  api.ErrToken,
		"[" + ones(4094) + "{a|}]":                  api.ErrToken,
		"{" + strings.Repeat("a:1,", 4095) + "|}":   api.ErrToken,
		"{" + strings.Repeat("a:1,", 4095) + "a|}":  api.ErrToken,
		"{" + strings.Repeat("a:1,", 4095) + "|":    api.ErrEnd,
		"[" + ones(4093) + "|]":                     api.ErrToken,
		"[" + ones(4094) + "|":                      api.ErrEnd,
		"[" + strings.Repeat("f(1),", 2047) + "f(|": api.ErrMany,
	})
}

// P22.1: a value that is too deep as well as one too many, and the first of several
// faults.
func TestDepthAheadOfMany(t *testing.T) {
	ones := func(n int) string { return strings.Repeat("1,", n) }
	byHand(t, map[string]api.Errno{
		"[" + ones(4072) + deep("[", 1) + "|1":                api.ErrDepth,
		"[" + ones(4072) + deep("[", 1) + "|":                 api.ErrDepth,
		"[" + ones(4072) + deep("[", 1) + "|)":                api.ErrDepth,
		"[" + ones(4071) + deep("[", 1) + "|1":                api.ErrDepth,
		"[" + ones(4073) + deep("[", 2) + "|[1":               api.ErrMany,
		"[" + ones(4073) + deep("f(", 2) + "|f(1":             api.ErrMany,
		"[" + deep("[", 1) + "|[" + ones(5000):                api.ErrDepth,
		"[" + ones(5) + "1 |1" + ones(5000):                   api.ErrToken,
		"[" + ones(4094) + "1 |1" + deep("[", 0) + "[":        api.ErrToken,
		"[" + deep("{a:", 1) + "|{}" + deep("}", 1) + ", 1 2": api.ErrDepth,
	})
}

// P22.1: each token about where there are 4096 values, among any values.
func TestManyAmongOthers(t *testing.T) {
	random := rand.New(rand.NewSource(4096))
	count := map[api.Errno]int{}
	for range 400 {
		before, _ := nest(random, -1, random.Intn(25))
		s := "[" + strings.Repeat([]string{"1,", "[2],", "f(a),", "{},"}[random.Intn(4)], 1+random.Intn(2000))
		s += before
		scanned, _ := tokens.Scan(s)
		if missing := 4096 - newModel(scanned).values + random.Intn(5) - 2; missing > 0 {
			s = "[" + strings.Repeat("1,", missing) + s
		}
		_, f := holds(t, s+vocabulary[random.Intn(len(vocabulary))])
		count[f.E]++
	}
	if count[api.ErrMany] < 50 || count[api.ErrEnd] < 20 || count[api.ErrDepth] < 5 || count[api.ErrToken] < 20 {
		t.Errorf("%v", count)
	}
}

// P1: the longest texts.
func TestLong(t *testing.T) {
	fill := func(s string) string { return strings.Repeat(s, 65536/len(s)) }
	byHand(t, map[string]api.Errno{
		deep("[", 0) + "|" + fill("[")[24:]:                   api.ErrDepth,
		deep("f(", 0) + "|" + fill("f(")[48:]:                 api.ErrDepth,
		"|" + fill("]"):                                       api.ErrToken,
		"1 |" + fill("1 ")[2:]:                                api.ErrToken,
		"a|" + fill(",")[1:]:                                  api.ErrToken,
		"[" + fill("1,")[:2*4095] + "|" + fill("1,")[2*4096:]: api.ErrMany,
		fill("\n") + "|":                                      api.ErrEnd,
		fill(";") + "|":                                       api.ErrEnd,
		deep("[", 0) + "]|" + fill("}")[25:]:                  api.ErrToken,
		fill(" ") + "|" + "1":                                 api.ErrSize,
	})
	denotes(t, fill(" ")[:65534]+"[]", list(65534))
	long := `"` + strings.Repeat("x", 65534) + `"`
	denotes(t, long, text(long[1:65535], 0))
	words := "{" + strings.Repeat("nnnnnnnnn:12,\n", 4094) + "n:1}"
	if v, f := holds(t, words); f != (api.Fault{}) || len(v.Keys) != 4095 || len(v.Kids) != 4095 {
		t.Errorf("%v, %d keys", f, len(v.Keys))
	}
}
