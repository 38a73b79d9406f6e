package paths

import (
	"math"
	"math/big"
	"regexp"
	"slices"
	"strconv"
	"strings"
	"testing"

	"blindfold/api"
)

// Steps by what they select.
func field(name string) api.Step { return api.Step{Kind: api.SField, Name: name} }
func tag(name string) api.Step   { return api.Step{Kind: api.STag, Name: name} }
func item(n int) api.Step        { return api.Step{Kind: api.SItem, N: n} }

var (
	all  = api.Step{Kind: api.SAll}
	some = api.Step{Kind: api.SSome}
)

// path is a list of steps.
func path(l ...api.Step) []api.Step { return l }

// many is a path of n steps of the same kind.
func many(n int, s api.Step) []api.Step { return slices.Repeat(path(s), n) }

// rightSteps are steps, with the ends of what their fields may hold.
var rightSteps = []api.Step{
	field("a"), field("b"), field("z_9"), field(strings.Repeat("a", 32)),
	item(0), item(5), item(10), item(math.MaxInt),
	all, some,
	tag("a"), tag("b"), tag("true"), tag("z" + strings.Repeat("_", 31)),
}

// wrongSteps are structs that are no steps.
var wrongSteps = []api.Step{
	{}, {Kind: -1}, {Kind: 6}, {Kind: 6, Name: "a"}, {Name: "a"}, {N: 1}, {Kind: math.MinInt}, {Kind: math.MaxInt}, {Kind: 1 << 32, Name: "a"}, {Kind: 257, Name: "a"},
	{Kind: api.SField}, {Kind: api.SField, Name: "A"}, {Kind: api.SField, Name: "1"}, {Kind: api.SField, Name: "_a"}, {Kind: api.SField, Name: "a.b"},
	{Kind: api.SField, Name: "a "}, {Kind: api.SField, Name: "a\xff"}, {Kind: api.SField, Name: strings.Repeat("a", 33)},
	{Kind: api.SField, N: 1, Name: "a"}, {Kind: api.SField, N: -1, Name: "a"},
	{Kind: api.SItem, N: -1}, {Kind: api.SItem, N: math.MinInt}, {Kind: api.SItem, Name: "a"}, {Kind: api.SItem, N: 3, Name: "a"},
	{Kind: api.SAll, N: 1}, {Kind: api.SAll, N: -1}, {Kind: api.SAll, Name: "a"},
	{Kind: api.SSome, N: 1}, {Kind: api.SSome, N: -1}, {Kind: api.SSome, Name: "a"},
	{Kind: api.STag}, {Kind: api.STag, Name: "A"}, {Kind: api.STag, Name: "1"}, {Kind: api.STag, Name: "a!"}, {Kind: api.STag, Name: strings.Repeat("a", 33)},
	{Kind: api.STag, N: 1, Name: "a"}, {Kind: api.STag, N: -1, Name: "a"},
}

// short are the structs that short lists are made of here, some of them no
// steps.
var short = []api.Step{
	field("a"), field("b"), item(0), item(7), all, some, tag("a"), tag("ab"),
	{}, {Kind: api.SField}, {Kind: api.SItem, N: -1}, {Kind: api.SItem, N: 7, Name: "a"}, {Kind: api.SAll, N: 7}, {Kind: api.SAll, Name: "a"}, {Kind: 6, N: 7},
}

// pieces are what texts are made of here: what steps are made of, and the
// characters beside it.
var pieces = []string{".", "!", "?", "[", "]", "-", "0", "7", "a", "_", "B", "9223372036854775807", strings.Repeat("z", 32), " ", "\xff", "/"}

// lists are all lists of up to most of the elements.
func lists[E any](most int, elements []E) [][]E {
	every := [][]E{nil}
	from := 0
	for range most {
		to := len(every)
		for _, l := range every[from:to] {
			for _, e := range elements {
				every = append(every, append(slices.Clone(l), e))
			}
		}
		from = to
	}
	return every
}

// parsed is what Parse answers, its steps told as a string, so that two answers
// can be compared.
type parsed struct {
	steps string
	f     api.Fault
}

// told is all that a list of steps holds, whether they are steps or not.
func told(l []api.Step) string {
	var out strings.Builder
	for _, s := range l {
		out.WriteString(strconv.Itoa(s.Kind) + " " + strconv.Itoa(s.N) + " " + strconv.Quote(s.Name) + ";")
	}
	return out.String()
}

func parse(s string) parsed {
	l, f := Parse(s)
	return parsed{told(l), f}
}

// fault is a Parse that fails.
func fault(e api.Errno, at int) parsed {
	return parsed{f: api.Fault{E: e, At: at}}
}

// How steps and what is in them begin a text, be it as long as it may.
var (
	oneName  = regexp.MustCompile(`\A[a-z][a-z0-9_]*`)
	oneIndex = regexp.MustCompile(`\A(-?)([0-9]*)`)
)

// readName is what follows the dot or the ! that ends at index at.
func readName(s string, at int) (name string, e api.Errno) {
	name = oneName.FindString(s[at:])
	if len(name) < 1 || len(name) > 32 {
		return "", api.ErrName
	}
	return name, api.OK
}

// readIndex is what follows the bracket that ends at index at: the number, the
// index after the brackets, and the fault.
func readIndex(s string, at int) (n, end int, f api.Fault) {
	m := oneIndex.FindStringSubmatch(s[at:])
	sign, digits := m[1], m[2]
	first, end := at+len(sign), at+len(m[0])
	switch {
	case first == len(s):
		return 0, 0, api.Fault{E: api.ErrEnd, At: first}
	case digits == "":
		return 0, 0, api.Fault{E: api.ErrForm, At: first}
	case digits[0] == '0' && (len(digits) > 1 || sign != ""):
		return 0, 0, api.Fault{E: api.ErrForm, At: at}
	}
	b, _ := new(big.Int).SetString(m[0], 10)
	switch {
	case !b.IsInt64():
		return 0, 0, api.Fault{E: api.ErrNumber, At: at}
	case b.Sign() < 0:
		return 0, 0, api.Fault{E: api.ErrRange, At: at}
	case end == len(s) || s[end] != ']':
		return 0, 0, api.Fault{E: api.ErrToken, At: end}
	}
	return int(b.Int64()), end + 1, api.Fault{}
}

// read is Parse as the chapter defines it.
func read(s string) parsed {
	var l []api.Step
	for at := 0; at < len(s); {
		if len(l) == 64 {
			return fault(api.ErrMany, at)
		}
		switch c := s[at]; {
		case c == '.' || c == '!':
			name, e := readName(s, at+1)
			if e != api.OK {
				return fault(e, at+1)
			}
			kind := map[byte]int{'.': 1, '!': 5}[c]
			l = append(l, api.Step{Kind: kind, Name: name})
			at += 1 + len(name)
		case c == '?':
			l = append(l, api.Step{Kind: 4})
			at++
		case strings.HasPrefix(s[at:], "[]"):
			l = append(l, api.Step{Kind: 3})
			at += 2
		case c == '[':
			n, end, f := readIndex(s, at+1)
			if f != (api.Fault{}) {
				return parsed{f: f}
			}
			l = append(l, api.Step{Kind: 2, N: n})
			at = end
		default:
			return fault(api.ErrToken, at)
		}
	}
	return parsed{steps: told(l)}
}

// The chapter's example.
func TestExample(t *testing.T) {
	want := path(field("a"), item(3), some, tag("b"))
	l, f := Parse(".a[3]?!b")
	if !slices.Equal(l, want) || f != (api.Fault{}) {
		t.Errorf("Parse of .a[3]?!b = %v, %v", l, f)
	}
	if got := Format(want); got != ".a[3]?!b" {
		t.Errorf("Format = %q", got)
	}
}

// P9.1: what is a path and what is not, by its steps.
func TestRight(t *testing.T) {
	if !Right(nil) || !Right(path()) {
		t.Error("no steps are no path")
	}
	for _, s := range rightSteps {
		for _, l := range [][]api.Step{path(s), path(some, s), path(s, item(1)), many(64, s)} {
			if !Right(l) {
				t.Errorf("Right(%v) = false", l)
			}
		}
	}
	for _, s := range wrongSteps {
		for _, l := range [][]api.Step{path(s), path(some, s), path(s, item(1)), path(all, s, all), append(many(63, all), s)} {
			if Right(l) {
				t.Errorf("Right(%v) = true", l)
			}
			if got := Format(l); got != "" {
				t.Errorf("Format(%v) = %q", l, got)
			}
		}
	}
}

// P9.1: the number of steps that a path has at most.
func TestRightLengths(t *testing.T) {
	for n := range 300 {
		l := many(n, field("a"))
		want := n <= 64
		if got := Right(l); got != want {
			t.Errorf("Right of %d steps = %t, want %t", n, got, want)
		}
		text := strings.Repeat(".a", n)
		if !want {
			if got, want := parse(text), fault(api.ErrMany, 128); got != want {
				t.Errorf("Parse of %d steps = %v, want %v", n, got, want)
			}
			text = ""
		}
		if got := Format(l); got != text {
			t.Errorf("Format of %d steps = %q, want %q", n, got, text)
		}
	}
}

// texts are paths and their texts, by hand.
var texts = []struct {
	l []api.Step
	s string
}{
	{nil, ""},
	{path(field("a")), ".a"},
	{path(field("z_9")), ".z_9"},
	{path(item(0)), "[0]"},
	{path(item(3)), "[3]"},
	{path(item(10)), "[10]"},
	{path(item(1234567890)), "[1234567890]"},
	{path(item(math.MaxInt)), "[9223372036854775807]"},
	{path(all), "[]"},
	{path(some), "?"},
	{path(tag("b")), "!b"},
	{path(field("a"), field("a")), ".a.a"},
	{path(field("a"), tag("a")), ".a!a"},
	{path(some, some), "??"},
	{path(all, all), "[][]"},
	{path(item(1), all, item(2)), "[1][][2]"},
	{path(tag("b"), some, all, item(3), field("a")), "!b?[][3].a"},
	{path(field(strings.Repeat("a", 32)), tag(strings.Repeat("b", 32))), "." + strings.Repeat("a", 32) + "!" + strings.Repeat("b", 32)},
	{many(64, some), strings.Repeat("?", 64)},
	{many(64, item(77)), strings.Repeat("[77]", 64)},
}

// P9.1: the text of a path, and the path of a text.
func TestTexts(t *testing.T) {
	for _, c := range texts {
		if got := Format(c.l); got != c.s {
			t.Errorf("Format(%v) = %q, want %q", c.l, got, c.s)
		}
		if got, want := parse(c.s), (parsed{steps: told(c.l)}); got != want {
			t.Errorf("Parse(%q) = %v, want %v", c.s, got, want)
		}
	}
}

// P9.1: each fault, where it is, which of several comes first, and that no
// steps are returned with it.
func TestFaults(t *testing.T) {
	full := strings.Repeat("?", 64)
	long := strings.Repeat("a", 33)
	cases := []struct {
		s  string
		e  api.Errno
		at int
	}{
		// No step begins so.
		{"a", api.ErrToken, 0},
		{" ", api.ErrToken, 0},
		{" .a", api.ErrToken, 0},
		{".a ", api.ErrToken, 2},
		{".a x", api.ErrToken, 2},
		{".aB", api.ErrToken, 2},
		{".a-b", api.ErrToken, 2},
		{"]", api.ErrToken, 0},
		{"[]]", api.ErrToken, 2},
		{"[3]]", api.ErrToken, 3},
		{"?a", api.ErrToken, 1},
		{"[3]a", api.ErrToken, 3},
		{"$", api.ErrToken, 0},
		{"*", api.ErrToken, 0},
		{"\x00", api.ErrToken, 0},
		{".a\n", api.ErrToken, 2},
		{"\xff", api.ErrToken, 0},
		{"?\uff0e", api.ErrToken, 1},
		{".a\u00e9", api.ErrToken, 2},
		// There is not a name.
		{".", api.ErrName, 1},
		{"!", api.ErrName, 1},
		{"?.", api.ErrName, 2},
		{"..a", api.ErrName, 1},
		{".!a", api.ErrName, 1},
		{"!?", api.ErrName, 1},
		{".a.B", api.ErrName, 3},
		{".1", api.ErrName, 1},
		{"._a", api.ErrName, 1},
		{". a", api.ErrName, 1},
		{".[3]", api.ErrName, 1},
		{"!\xff", api.ErrName, 1},
		{".\u00e9", api.ErrName, 1},
		{"." + long, api.ErrName, 1},
		{"!" + long, api.ErrName, 1},
		{"?." + long + ".b", api.ErrName, 2},
		{"." + strings.Repeat("a", 60000), api.ErrName, 1},
		// The name ends with the longest sequence, and what follows begins a step.
		{"." + strings.Repeat("a", 32) + "A", api.ErrToken, 33},
		// The fault of digits.Take.
		{"[", api.ErrEnd, 1},
		{"?[", api.ErrEnd, 2},
		{"[-", api.ErrEnd, 2},
		{"[a", api.ErrForm, 1},
		{"[ ]", api.ErrForm, 1},
		{"[[", api.ErrForm, 1},
		{"[+1]", api.ErrForm, 1},
		{"[*]", api.ErrForm, 1},
		{"[-]", api.ErrForm, 2},
		{"[--1]", api.ErrForm, 2},
		{"[007]", api.ErrForm, 1},
		{"[-0]", api.ErrForm, 1},
		{"[-07]", api.ErrForm, 1},
		{"?[\xff]", api.ErrForm, 2},
		{"[\uff11]", api.ErrForm, 1},
		{"[9223372036854775808]", api.ErrNumber, 1},
		{"??[-9223372036854775809]", api.ErrNumber, 3},
		{"[18446744073709551616]", api.ErrNumber, 1},
		{"[9223372036854775808", api.ErrNumber, 1},
		// The number is negative, closed or not.
		{"[-1]", api.ErrRange, 1},
		{"[-1", api.ErrRange, 1},
		{"[-1x", api.ErrRange, 1},
		{".a[-9223372036854775808]", api.ErrRange, 3},
		// No closing bracket.
		{"[3", api.ErrToken, 2},
		{"[0", api.ErrToken, 2},
		{"[3.a", api.ErrToken, 2},
		{"[3 ]", api.ErrToken, 2},
		{"[3-", api.ErrToken, 2},
		{"[3[", api.ErrToken, 2},
		{"[0x1]", api.ErrToken, 2},
		{".a[12?]", api.ErrToken, 5},
		{"[9223372036854775807", api.ErrToken, 20},
		{"[3\xff", api.ErrToken, 2},
		// The 65th step, whatever it is.
		{full + "?", api.ErrMany, 64},
		{full + "x", api.ErrMany, 64},
		{full + ".", api.ErrMany, 64},
		{full + "[", api.ErrMany, 64},
		{full + "\xff", api.ErrMany, 64},
		{full + "[-1]", api.ErrMany, 64},
		{full + full, api.ErrMany, 64},
		{full + strings.Repeat("[", 60000), api.ErrMany, 64},
		{strings.Repeat(".ab", 64) + ".ab", api.ErrMany, 192},
		// What is wrong in an earlier step comes first.
		{full[1:] + ".", api.ErrName, 64},
		{full[1:] + "x" + full, api.ErrToken, 63},
		{".?" + full, api.ErrName, 1},
		{"[-1]x", api.ErrRange, 1},
	}
	for _, c := range cases {
		if got, want := parse(c.s), fault(c.e, c.at); got != want {
			t.Errorf("Parse(%.80q) = %v, want %v", c.s, got, want)
		}
	}
}

// P9.1, P9.3: all short texts. Those that are parsed are the texts of their
// paths, so no two of them have the same path.
func TestParseEverywhere(t *testing.T) {
	for _, l := range lists(4, pieces) {
		s := strings.Join(l, "")
		for _, s := range []string{s, "." + s, "[" + s} {
			got, want := parse(s), read(s)
			if got != want {
				t.Fatalf("Parse(%q) = %v, want %v", s, got, want)
			}
			if got.f.E != api.OK {
				continue
			}
			l, _ := Parse(s)
			if !Right(l) || Format(l) != s {
				t.Fatalf("Parse(%q) = %v, whose text is %q", s, l, Format(l))
			}
		}
	}
}

// P9.1: texts of about as many steps as there may be.
func TestParseNearTheMost(t *testing.T) {
	for steps := 60; steps <= 66; steps++ {
		for _, step := range []string{".a", "!ab", "?", "[]", "[12]"} {
			for _, end := range append(pieces, "", ".a", "[]", "[1", "??") {
				s := strings.Repeat(step, steps) + end
				if got, want := parse(s), read(s); got != want {
					t.Errorf("Parse(%q) = %v, want %v", s, got, want)
				}
			}
		}
	}
}

// P9.1: every byte, and every two bytes, as the beginning of a step and within
// one.
func TestParseOfAll(t *testing.T) {
	for n := range 0x10000 {
		two := string([]byte{byte(n >> 8), byte(n)})
		for _, s := range []string{two[1:], two, "." + two, ".a" + two, "!" + two, "[" + two, "[1" + two, two + "]", "?" + two} {
			if got, want := parse(s), read(s); got != want {
				t.Fatalf("Parse(%q) = %v, want %v", s, got, want)
			}
		}
	}
}

// match is Match as the chapter defines it.
func match(pattern, path []api.Step) bool {
	if len(pattern) != len(path) {
		return false
	}
	for i, s := range path {
		if s != pattern[i] && (s.Kind != api.SItem || pattern[i].Kind != api.SAll) {
			return false
		}
	}
	return true
}

// compare is Compare as the chapter defines it.
func compare(a, b []api.Step) int {
	for i := 0; i < len(a) && i < len(b); i++ {
		x, y := a[i], b[i]
		switch {
		case x == y:
			continue
		case x.Kind < y.Kind, x.Kind == y.Kind && x.N < y.N, x.Kind == y.Kind && x.N == y.N && x.Name < y.Name:
			return -1
		}
		return 1
	}
	switch {
	case len(a) < len(b):
		return -1
	case len(a) > len(b):
		return 1
	}
	return 0
}

// P9.2: what a pattern stands for, by hand.
func TestMatch(t *testing.T) {
	cases := []struct {
		pattern, path string
		want          bool
	}{
		{"", "", true},
		{".a", ".a", true},
		{".a[].c", ".a[7].c", true},
		{".a[].c", ".a[].c", true},
		{".a[7].c", ".a[7].c", true},
		{"[][]", "[0][1]", true},
		{"[][1]", "[0][1]", true},
		{"[0][]", "[0][1]", true},
		{"[]", "[9223372036854775807]", true},
		{"?!b", "?!b", true},
		{".a[7].c", ".a[].c", false},
		{"[7]", "[]", false},
		{"[0]", "[]", false},
		{"[7]", "[8]", false},
		{"[][1]", "[0][2]", false},
		{"[]", "?", false},
		{"[]", ".a", false},
		{"?", "[0]", false},
		{".a", ".b", false},
		{".a", "!a", false},
		{".a", ".ab", false},
		{".a[].c", ".a[7].d", false},
		{".a[].c", ".b[7].c", false},
		// The lengths differ.
		{"", ".a", false},
		{".a", "", false},
		{"[]", "[0][1]", false},
		{"[][]", "[0]", false},
		{".a[]", ".a", false},
		{".a", ".a[0]", false},
		{"[]", "", false},
	}
	for _, c := range cases {
		pattern, _ := Parse(c.pattern)
		path, _ := Parse(c.path)
		if got := Match(pattern, path); got != c.want {
			t.Errorf("Match(%s, %s) = %t", c.pattern, c.path, got)
		}
	}
}

// P9.2: what a path begins with, by hand.
func TestBegins(t *testing.T) {
	cases := []struct {
		path, head string
		want       bool
	}{
		{"", "", true},
		{".a", "", true},
		{".a", ".a", true},
		{".a[7].c", ".a[7]", true},
		{".a[7].c", ".a[7].c", true},
		{"[][]", "[]", true},
		{"", ".a", false},
		{".a", ".a.a", false},
		{".a[7]", ".a[7].c", false},
		{".a[7].c", "[7]", false},
		{".a[7].c", ".a[8]", false},
		{".a[7].c", ".b", false},
		{".ab", ".a", false},
		{"!a", ".a", false},
		// All items stand for themselves only.
		{"[7]", "[]", false},
		{"[]", "[7]", false},
		{"[]", "[0]", false},
	}
	for _, c := range cases {
		path, _ := Parse(c.path)
		head, _ := Parse(c.head)
		if got := Begins(path, head); got != c.want {
			t.Errorf("Begins(%s, %s) = %t", c.path, c.head, got)
		}
	}
}

// P9.2: paths in increasing order, by hand: each one against each.
func TestCompare(t *testing.T) {
	order := []string{
		"", ".a", ".a.a", ".a[0]", ".a?", ".a_", ".aa", ".ab", ".b", ".b.a",
		"[0]", "[0].z", "[0]!z", "[1]", "[2]", "[2]?", "[10]", "[9223372036854775807]",
		"[]", "[].a", "[][0]", "[][]", "?", "?.a", "??", "?!a", "!a", "!a.a", "!a!a", "!b",
	}
	for i, a := range order {
		for j, b := range order {
			x, _ := Parse(a)
			y, _ := Parse(b)
			want := 0
			switch {
			case i < j:
				want = -1
			case i > j:
				want = 1
			}
			if got := Compare(x, y); got != want {
				t.Errorf("Compare(%s, %s) = %d, want %d", a, b, got, want)
			}
		}
	}
}

// P9.2: a step is compared by its kind ahead of its number, and by that ahead of
// its name, whether it is a step or not.
func TestCompareFields(t *testing.T) {
	order := []api.Step{
		{Kind: math.MinInt, N: 9, Name: "z"}, {Kind: -1, N: 9, Name: "z"}, {N: math.MinInt, Name: "z"}, {N: -1, Name: "z"},
		{}, {Name: "a"}, {Name: "a\x00"}, {Name: "aa"}, {Name: "b"}, {Name: "\xff"}, {N: 1}, {N: 1, Name: "a"}, {N: 2}, {N: math.MaxInt, Name: "z"},
		{Kind: 1}, {Kind: 1, Name: "a"}, {Kind: 1, N: 1}, {Kind: 2, N: -1}, {Kind: 2}, {Kind: 2, N: 3, Name: "a"}, {Kind: 2, N: 3, Name: "b"},
		{Kind: 3, N: -5}, {Kind: 6}, {Kind: math.MaxInt, N: math.MinInt},
	}
	for i, a := range order {
		for j, b := range order {
			want := 0
			switch {
			case i < j:
				want = -1
			case i > j:
				want = 1
			}
			for _, l := range [][2][]api.Step{{path(a), path(b)}, {path(all, a), path(all, b)}} {
				if got := Compare(l[0], l[1]); got != want {
					t.Errorf("Compare(%v, %v) = %d, want %d", l[0], l[1], got, want)
				}
			}
			if i == j {
				continue
			}
			// The first step that differs decides, whatever follows.
			x, y := path(a, tag("z"), all), path(b, field("a"))
			if got := Compare(x, y); got != want {
				t.Errorf("Compare(%v, %v) = %d, want %d", x, y, got, want)
			}
		}
	}
}

// P9.2: each two short lists, of steps and others.
func TestPairs(t *testing.T) {
	every := append(lists(2, short), lists(3, short[:4])...)
	for _, a := range every {
		for _, b := range every {
			if got, want := Match(a, b), match(a, b); got != want {
				t.Fatalf("Match(%v, %v) = %t, want %t", a, b, got, want)
			}
			if got, want := Begins(a, b), len(a) >= len(b) && slices.Equal(a[:len(b)], b); got != want {
				t.Fatalf("Begins(%v, %v) = %t, want %t", a, b, got, want)
			}
			if got, want := Compare(a, b), compare(a, b); got != want {
				t.Fatalf("Compare(%v, %v) = %d, want %d", a, b, got, want)
			}
		}
	}
}

// P9.2, P1: lists that are longer than a path are matched and compared as well.
func TestLongLists(t *testing.T) {
	for _, n := range []int{64, 65, 1000, 100000} {
		l, pattern := many(n, item(7)), many(n, all)
		if !Match(l, l) || !Match(pattern, l) || Match(l, pattern) || Match(pattern, l[1:]) {
			t.Errorf("Match of %d steps", n)
		}
		if !Begins(l, l) || !Begins(l, l[1:]) || Begins(l[1:], l) || Begins(l, pattern) {
			t.Errorf("Begins of %d steps", n)
		}
		if Compare(l, l) != 0 || Compare(l, l[1:]) != 1 || Compare(l[1:], l) != -1 || Compare(l, pattern) != -1 || Compare(pattern[1:], l) != 1 {
			t.Errorf("Compare of %d steps", n)
		}
	}
}

// P9.3: a path is recovered from its text, different paths have different
// texts, and a path matches itself and begins with itself.
func TestRecovered(t *testing.T) {
	every := lists(3, rightSteps)
	for n := range 65 {
		l := many(n, field("b"))
		for i := range l {
			l[i] = rightSteps[i*i%len(rightSteps)]
		}
		if n > 3 {
			every = append(every, l)
		}
	}
	seen := map[string][]api.Step{}
	for _, l := range every {
		s := Format(l)
		if !Right(l) || s == "" && len(l) > 0 {
			t.Fatalf("Format(%v) = %q", l, s)
		}
		if other, again := seen[s]; again {
			t.Fatalf("the text of %v and of %v is %q", l, other, s)
		}
		seen[s] = l
		back, f := Parse(s)
		if !slices.Equal(back, l) || f != (api.Fault{}) {
			t.Fatalf("Parse(%q) = %v, %v, want %v", s, back, f, l)
		}
		if !Match(l, l) || !Begins(l, l) || Compare(l, l) != 0 {
			t.Fatalf("%v: Match %t, Begins %t, Compare %d with itself", l, Match(l, l), Begins(l, l), Compare(l, l))
		}
	}
}

// R3: no function changes its arguments, also beyond their length, and a path
// that was parsed belongs to the caller.
func TestMemory(t *testing.T) {
	given := path(field("a"), all, item(3), tag("b"), some, api.Step{Kind: 9})
	before := slices.Clone(given)
	Right(given[:2])
	Format(given[:2])
	Match(given[:2], given[1:3])
	Begins(given[:3], given[:1])
	Compare(given[:2], given[:3])
	if !slices.Equal(given, before) {
		t.Errorf("the argument became %v", given)
	}
	l, _ := Parse(".a[3]")
	clear(l[:cap(l)])
	if got, want := parse(".a[3]"), (parsed{steps: told(path(field("a"), item(3)))}); got != want {
		t.Errorf("Parse = %v, want %v", got, want)
	}
}
