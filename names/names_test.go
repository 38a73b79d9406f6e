package names

import (
	"math"
	"regexp"
	"slices"
	"strconv"
	"strings"
	"testing"
)

// extremes are indices far outside of every string.
var extremes = []int{math.MinInt, math.MinInt + 1, math.MinInt32, -2, math.MaxInt32, math.MaxInt - 1, math.MaxInt}

// pieces are what strings are made of here: name characters, the characters
// beside them, and characters of more than one byte.
var pieces = []string{"a", "z", "0", "9", "_", "A", "-", ".", "`", "{", "\x00", "\u00e9", "\xff"}

// words are what lists are made of here: names and other strings, prefixes of
// others, and strings whose order depends on bytes without a sign.
var words = []string{"", "a", "ab", "b", "B", "a\x00", "\u4e00", "\xff"}

// samples are all concatenations of up to most of the pieces.
func samples(most int) []string {
	all := []string{""}
	from := 0
	for range most {
		to := len(all)
		for _, s := range all[from:to] {
			for _, p := range pieces {
				all = append(all, s+p)
			}
		}
		from = to
	}
	return all
}

// lists are all lists of up to most of the words.
func lists(most int) [][]string {
	all := [][]string{nil}
	from := 0
	for range most {
		to := len(all)
		for _, l := range all[from:to] {
			for _, w := range words {
				all = append(all, append(slices.Clone(l), w))
			}
		}
		from = to
	}
	return all
}

// valid is what a name is.
var valid = regexp.MustCompile(`\A[a-z][a-z0-9_]{0,31}\z`)

// begun is how a name begins a string, be it as long as it may.
var begun = regexp.MustCompile(`\A[a-z][a-z0-9_]*`)

// taken is what Take answers.
type taken struct {
	name string
	end  int
}

func take(s string, at int) taken {
	name, end := Take(s, at)
	return taken{name, end}
}

// read is Take as the chapter defines it.
func read(s string, at int) taken {
	if at < 0 || at > len(s)-1 {
		return taken{}
	}
	name := begun.FindString(s[at:])
	return taken{name, at + len(name)}
}

// twice is Twice as the chapter defines it.
func twice(l []string) int {
	for i, s := range l {
		if slices.Contains(l[:i], s) {
			return i
		}
	}
	return -1
}

// less is the chapter's order of strings.
func less(a, b string) bool {
	for i := range min(len(a), len(b)) {
		if a[i] != b[i] {
			return a[i] < b[i]
		}
	}
	return len(a) < len(b)
}

// distinct are the strings of l, each one once, in the chapter's order.
func distinct(l []string) []string {
	var kept []string
	for _, s := range l {
		at := 0
		for at < len(kept) && less(kept[at], s) {
			at++
		}
		if at == len(kept) || kept[at] != s {
			kept = slices.Insert(kept, at, s)
		}
	}
	return kept
}

// check holds the table of l against the chapter's definitions, and looks up
// each of the strings looked.
func check(t *testing.T, l, looked []string) {
	t.Helper()
	table, want := New(l), distinct(l)
	if got := table.Sorted(); !slices.Equal(got, want) {
		t.Fatalf("Sorted of %q = %q, want %q", l, got, want)
	}
	if got := table.Len(); got != len(want) {
		t.Fatalf("Len of %q = %d, want %d", l, got, len(want))
	}
	for _, s := range looked {
		first := slices.Index(l, s)
		at, ok := table.Find(s)
		if ok != (first >= 0) || at != max(first, 0) {
			t.Fatalf("Find(%q) in %q = %d, %t, want %d", s, l, at, ok, first)
		}
	}
}

// The chapter's example.
func TestExample(t *testing.T) {
	if got := Twice([]string{"a", "b", "a"}); got != 2 {
		t.Errorf("Twice of a, b, a = %d, want 2", got)
	}
}

// P8.1: what is a name and what is not, by hand.
func TestRight(t *testing.T) {
	right := []string{
		"a", "z", "ab", "a0", "a9", "a_", "a__", "z_9", "a_1", "true", "x0123456789",
		strings.Repeat("a", 31), strings.Repeat("a", 32), "a" + strings.Repeat("_", 31), "z" + strings.Repeat("9", 31),
	}
	for _, s := range right {
		if !Right(s) {
			t.Errorf("Right(%q) = false", s)
		}
	}
	wrong := []string{
		// No letter comes first.
		"", "0", "9", "_", "1a", "9z", "_a", "__", " a", "-a", ".a", "\x00a",
		// Letters of other kinds.
		"A", "Z", "Aa", "aA", "aZ", "\u00e9", "a\u00e9", "\u0430", "a\uff41", "\uff41", "a\u0661",
		// The characters beside the name characters.
		"`", "{", "a`", "a{", "a/", "a:", "a^", "a@", "a[", "a\x7f",
		"a ", "a\n", "a\x00", "a b", "a-b", "a.b", "\n", "a\xff", "\xff", "a\xe1",
		// Too long.
		strings.Repeat("a", 33), strings.Repeat("a", 64), "a" + strings.Repeat("_", 32), strings.Repeat("a", 288), strings.Repeat("a", 100000),
		strings.Repeat("a", 32) + "-", strings.Repeat("a", 31) + "A", "1" + strings.Repeat("a", 31),
	}
	for _, s := range wrong {
		if Right(s) {
			t.Errorf("Right(%.80q) = true", s)
		}
	}
}

// P8.1: every length near the limit, and where a byte wraps around.
func TestRightLengths(t *testing.T) {
	for n := range 600 {
		s := strings.Repeat("b", n)
		if got, want := Right(s), 1 <= n && n <= 32; got != want {
			t.Errorf("Right of %d letters = %t, want %t", n, got, want)
		}
		if got, want := take(s, 0), (taken{s, n}); got != want {
			t.Errorf("Take of %d letters = %v, want %v", n, got, want)
		}
	}
}

// P8.1: every byte, and every two bytes, by themselves and within a name.
func TestRightOfAll(t *testing.T) {
	for n := range 0x10000 {
		two := []byte{byte(n >> 8), byte(n)}
		for _, s := range []string{string(two), string(two[1:]), "m" + string(two), string(two) + "m", strings.Repeat("m", 30) + string(two)} {
			if got, want := Right(s), valid.MatchString(s); got != want {
				t.Fatalf("Right(%q) = %t, want %t", s, got, want)
			}
			if got, want := take(s, 0), read(s, 0); got != want {
				t.Fatalf("Take(%q, 0) = %v, want %v", s, got, want)
			}
		}
	}
}

// P8.1: the name characters from an index on, and the index after them, by hand.
func TestTake(t *testing.T) {
	long := strings.Repeat("a_9", 30000)
	cases := []struct {
		s    string
		at   int
		name string
		end  int
	}{
		{"a", 0, "a", 1},
		{"ab9_", 0, "ab9_", 4},
		{"x.ab9-", 2, "ab9", 5},
		{"ab cd", 0, "ab", 2},
		{"ab cd", 3, "cd", 5},
		{"aB", 0, "a", 1},
		{"a\u00e9", 0, "a", 1},
		{"a\xff", 0, "a", 1},
		{"a\x00b", 0, "a", 1},
		{"\u00e9a", 2, "a", 3},
		{"\xffa", 1, "a", 2},
		// What stands ahead of the index is no matter.
		{"abc", 1, "bc", 3},
		{"abc", 2, "c", 3},
		{"1a", 1, "a", 2},
		{"_a", 1, "a", 2},
		// Longer than a name may be.
		{strings.Repeat("a", 33), 0, strings.Repeat("a", 33), 33},
		{"." + strings.Repeat("a", 300), 1, strings.Repeat("a", 300), 301},
		{long, 0, long, 90000},
		{long + "-b", 3, long[3:], 90000},
		// No letter at the index.
		{"1a", 0, "", 0},
		{"_a", 0, "", 0},
		{"Aa", 0, "", 0},
		{" a", 0, "", 0},
		{"a1b", 1, "", 1},
		{"a_b", 1, "", 1},
		{"ab-c", 2, "", 2},
		{"`", 0, "", 0},
		{"a{", 1, "", 1},
		{"a\u00e9b", 1, "", 1},
		{"a\u00e9b", 2, "", 2},
		{"a\xffb", 1, "", 1},
		{"ab\n", 2, "", 2},
		// No index of the string.
		{"", 0, "", 0},
		{"", 1, "", 0},
		{"", -1, "", 0},
		{"abc", 3, "", 0},
		{"abc", 4, "", 0},
		{"abc", -1, "", 0},
		{"abc", math.MinInt, "", 0},
		{"abc", math.MaxInt, "", 0},
	}
	for _, c := range cases {
		if got, want := take(c.s, c.at), (taken{c.name, c.end}); got != want {
			t.Errorf("Take(%.80q, %d) = %.80v, want %.80v", c.s, c.at, got, want)
		}
	}
}

// P8.1: all short strings, at each index in and outside them.
func TestTakeEverywhere(t *testing.T) {
	for _, s := range samples(4) {
		if got, want := Right(s), valid.MatchString(s); got != want {
			t.Fatalf("Right(%q) = %t, want %t", s, got, want)
		}
		for at := -1; at <= len(s)+1; at++ {
			if got, want := take(s, at), read(s, at); got != want {
				t.Fatalf("Take(%q, %d) = %v, want %v", s, at, got, want)
			}
		}
		for _, at := range extremes {
			if got := take(s, at); got != (taken{}) {
				t.Fatalf("Take(%q, %d) = %v, want nothing", s, at, got)
			}
		}
	}
}

// P8.1: the first element that equals an earlier one, by hand.
func TestTwice(t *testing.T) {
	cases := []struct {
		l    []string
		want int
	}{
		{nil, -1},
		{[]string{}, -1},
		{[]string{""}, -1},
		{[]string{"a"}, -1},
		{[]string{"", ""}, 1},
		{[]string{"a", "a"}, 1},
		{[]string{"a", "b"}, -1},
		{[]string{"b", "a"}, -1},
		{[]string{"a", "a", "a"}, 1},
		{[]string{"b", "a", "b", "a"}, 2},
		{[]string{"a", "b", "b", "a"}, 2},
		{[]string{"b", "a", "a", "b"}, 2},
		{[]string{"z", "y", "x", "w", "z"}, 4},
		{[]string{"c", "b", "a", "a", "b", "c"}, 3},
		{[]string{"a", "c", "b", "c", "a"}, 3},
		// The least index and not the least string.
		{[]string{"z", "z", "a", "a"}, 1},
		{[]string{"a", "z", "z", "a"}, 2},
		// Strings that are alike and not equal.
		{[]string{"a", "A", "a ", " a", "", "a\x00", "aa", "\u00e9", "e\u0301", "\xe9"}, -1},
		{[]string{"\xff", "\ufffd", "\xfe", "\xff"}, 3},
		{[]string{"not a name", "!", "not a name"}, 2},
	}
	for _, c := range cases {
		if got := Twice(c.l); got != c.want {
			t.Errorf("Twice(%q) = %d, want %d", c.l, got, c.want)
		}
	}
}

// P8.1: all short lists.
func TestTwiceEverywhere(t *testing.T) {
	for _, l := range lists(6) {
		if got, want := Twice(l), twice(l); got != want {
			t.Fatalf("Twice(%q) = %d, want %d", l, got, want)
		}
	}
}

// P8.1, P8.2: lists of many strings, with one of them twice at each distance.
func TestMany(t *testing.T) {
	const most = 40000
	l := make([]string, most)
	for i := range l {
		// The factor has no divisor in common with most, so no string is twice.
		l[i] = "n" + strconv.Itoa(i*7919%most)
	}
	if got := Twice(l); got != -1 {
		t.Errorf("Twice = %d, want -1", got)
	}
	table := New(l)
	if got := table.Len(); got != most {
		t.Errorf("Len = %d, want %d", got, most)
	}
	for i, s := range l {
		if at, ok := table.Find(s); at != i || !ok {
			t.Fatalf("Find(%q) = %d, %t, want %d", s, at, ok, i)
		}
	}
	for _, i := range []int{1, 2, 777, most / 2, most - 2, most - 1} {
		for _, from := range []int{0, i / 2, i - 1} {
			again := slices.Clone(l)
			again[i] = l[from]
			if got := Twice(again); got != i {
				t.Errorf("Twice, with the string at %d again at %d, = %d", from, i, got)
			}
			table := New(again)
			if at, ok := table.Find(l[from]); at != from || !ok || table.Len() != most-1 {
				t.Errorf("Find of what is at %d and %d = %d, %t, Len %d", from, i, at, ok, table.Len())
			}
			if at, ok := table.Find(l[i]); at != 0 || ok {
				t.Errorf("Find of what is no more at %d = %d, %t", i, at, ok)
			}
		}
	}
}

// P8.2: what a table tells, by hand.
func TestTable(t *testing.T) {
	cases := []struct {
		l, sorted []string
		first     []int
		missing   []string
	}{
		{nil, nil, nil, []string{"", "a"}},
		{[]string{}, nil, nil, []string{"", "a"}},
		{[]string{""}, []string{""}, []int{0}, []string{"a", "\x00"}},
		{[]string{"b", "a", "b"}, []string{"a", "b"}, []int{1, 0}, []string{"", "c", "aa", "ab", "A"}},
		{[]string{"c", "c", "a", "a", "c"}, []string{"a", "c"}, []int{2, 0}, []string{"b", "d", ""}},
		// A proper prefix is less.
		{[]string{"ab", "a", "abc", "", "b"}, []string{"", "a", "ab", "abc", "b"}, []int{3, 1, 0, 2, 4}, []string{"abcd", "ac", "aa", "bb"}},
		// The order is that of bytes: not of case, of numbers, or of UTF-16.
		{[]string{"a", "Z", "_", "0", "{"}, []string{"0", "Z", "_", "a", "{"}, []int{3, 1, 2, 0, 4}, []string{"A", "z", "1"}},
		{[]string{"n10", "n9", "n1"}, []string{"n1", "n10", "n9"}, []int{2, 0, 1}, []string{"n", "n2"}},
		{[]string{"\U00010000", "\uffff", "\xff", "\x7f", "\x80"}, []string{"\x7f", "\x80", "\uffff", "\U00010000", "\xff"}, []int{3, 4, 1, 0, 2}, []string{"\ufffd", "\xf0"}},
		// Strings that are alike and not equal.
		{[]string{"e\u0301", "\u00e9", "a\x00", "a"}, []string{"a", "a\x00", "e\u0301", "\u00e9"}, []int{3, 2, 0, 1}, []string{"e", "a\x00\x00", "\xc3"}},
		// They need not be names.
		{[]string{"not a name", strings.Repeat("x", 33), "1"}, []string{"1", "not a name", strings.Repeat("x", 33)}, []int{2, 0, 1}, []string{strings.Repeat("x", 32), strings.Repeat("x", 34), "not"}},
	}
	for _, c := range cases {
		table := New(c.l)
		if got := table.Sorted(); !slices.Equal(got, c.sorted) {
			t.Errorf("Sorted of %q = %q, want %q", c.l, got, c.sorted)
		}
		if got := table.Len(); got != len(c.sorted) {
			t.Errorf("Len of %q = %d, want %d", c.l, got, len(c.sorted))
		}
		for n, s := range c.sorted {
			if at, ok := table.Find(s); at != c.first[n] || !ok {
				t.Errorf("Find(%q) in %q = %d, %t, want %d", s, c.l, at, ok, c.first[n])
			}
		}
		for _, s := range c.missing {
			if at, ok := table.Find(s); at != 0 || ok {
				t.Errorf("Find(%q) in %q = %d, %t, want none", s, c.l, at, ok)
			}
		}
	}
}

// P8.2: the tables of all short lists.
func TestTableEverywhere(t *testing.T) {
	looked := append(slices.Clone(words), "A", "aa", "a\x01", "c", "\x00", "\xfe", "\xff\xff")
	for _, l := range lists(5) {
		check(t, l, looked)
	}
}

// P8.2, R5: a nil table and one that New did not make are empty.
func TestEmpty(t *testing.T) {
	for i, table := range []*Table{nil, {}, New(nil), New([]string{})} {
		if table.Len() != 0 || len(table.Sorted()) != 0 {
			t.Errorf("table %d: %d strings, %q", i, table.Len(), table.Sorted())
		}
		for _, s := range words {
			if at, ok := table.Find(s); at != 0 || ok {
				t.Errorf("table %d: Find(%q) = %d, %t", i, s, at, ok)
			}
		}
	}
}

// P8.3: every string of a list is found, at an index at which it stands.
func TestFound(t *testing.T) {
	all := append(lists(4), samples(3), strings.Split(strings.Repeat("the quick brown fox jumps over the lazy dog ", 50), " "))
	for _, l := range all {
		table := New(l)
		for _, s := range l {
			at, ok := table.Find(s)
			if !ok || at < 0 || at >= len(l) || l[at] != s {
				t.Fatalf("Find(%q) in %.200q = %d, %t", s, l, at, ok)
			}
		}
	}
}

// R3: no function changes its argument, also beyond its length, and a table
// shares no memory with it or with what it answers.
func TestMemory(t *testing.T) {
	given := []string{"d", "b", "d", "a", "c", "b"}
	before := slices.Clone(given)
	table := New(given[:4])
	Twice(given[:4])
	if !slices.Equal(given, before) {
		t.Errorf("the argument became %q", given)
	}
	want := []string{"a", "b", "d"}
	clear(given)
	clear(table.Sorted())
	_ = append(table.Sorted(), "e")
	if got := table.Sorted(); !slices.Equal(got, want) || table.Len() != 3 {
		t.Errorf("Sorted = %q, Len = %d", got, table.Len())
	}
	for _, s := range want {
		if at, ok := table.Find(s); !ok || before[at] != s {
			t.Errorf("Find(%q) = %d, %t", s, at, ok)
		}
	}
}
