package digits

import (
	"math"
	"math/big"
	"regexp"
	"slices"
	"strconv"
	"strings"
	"testing"

	"blindfold/api"
)

// extremes are the ints at which sums, differences and products may wrap.
var extremes = []int{math.MinInt, math.MinInt + 1, math.MinInt32, math.MaxInt32, math.MaxInt - 1, math.MaxInt}

// numbers are all ints of up to three digits, and those near powers of 2 and of
// 10 and near their negatives, from math.MinInt to math.MaxInt.
func numbers() []int {
	var all []int
	for n := -999; n <= 999; n++ {
		all = append(all, n)
	}
	for _, base := range []int64{2, 10} {
		for power := range int64(64) {
			p := new(big.Int).Exp(big.NewInt(base), big.NewInt(power), nil)
			for near := int64(-3); near <= 3; near++ {
				b := new(big.Int).Add(p, big.NewInt(near))
				all = appendInt(all, b)
				all = appendInt(all, b.Neg(b))
			}
		}
	}
	slices.Sort(all)
	return slices.Compact(all)
}

// appendInt appends b if it is an int.
func appendInt(l []int, b *big.Int) []int {
	if n, ok := narrow(b); ok {
		return append(l, n)
	}
	return l
}

// narrow returns b as an int, or 0 and false if it is none.
func narrow(b *big.Int) (int, bool) {
	n, err := strconv.Atoi(b.String())
	if err != nil {
		return 0, false
	}
	return n, true
}

// taken is what Take answers.
type taken struct {
	n, end int
	f      api.Fault
}

func take(s string, at int) taken {
	n, end, f := Take(s, at)
	return taken{n, end, f}
}

// fault is a Take that fails.
func fault(e api.Errno, at int) taken {
	return taken{f: api.Fault{E: e, At: at}}
}

// parsed is what Parse answers.
type parsed struct {
	n int
	f api.Fault
}

func parse(s string) parsed {
	n, f := Parse(s)
	return parsed{n, f}
}

// looks is how a number begins a string, its sign apart from its digits.
var looks = regexp.MustCompile(`^(-?)([0-9]*)`)

// read is Take as the chapter defines it.
func read(s string, at int) taken {
	if at < 0 || at > len(s) {
		return fault(api.ErrArg, 0)
	}
	m := looks.FindStringSubmatch(s[at:])
	sign, digits := m[1], m[2]
	first := at + len(sign)
	switch {
	case first == len(s):
		return fault(api.ErrEnd, len(s))
	case digits == "":
		return fault(api.ErrForm, first)
	case digits[0] == '0' && (len(digits) > 1 || sign != ""):
		return fault(api.ErrForm, at)
	}
	b, _ := new(big.Int).SetString(sign+digits, 10)
	n, ok := narrow(b)
	if !ok {
		return fault(api.ErrNumber, at)
	}
	return taken{n: n, end: at + len(m[0])}
}

// readAll is Parse as the chapter defines it.
func readAll(s string) parsed {
	r := read(s, 0)
	if r.f == (api.Fault{}) && r.end != len(s) {
		return parsed{f: api.Fault{E: api.ErrForm, At: r.end}}
	}
	return parsed{r.n, r.f}
}

// pieces are what strings are made of here: the sign, digits, and characters of
// one byte and of more, among them ones beside the digits and the sign.
var pieces = []string{"-", "0", "1", "9", "922337203685477580", "7", "8", "a", "+", "/", ":", "\uff11", "\xff"}

// samples are all concatenations of up to most of the pieces.
func samples(most int) []string {
	all := []string{""}
	from := 0
	for range most {
		to := len(all)
		for _, s := range all[from:to] {
			for _, p := range pieces {
				all = append(all, s+p)
			}
		}
		from = to
	}
	return all
}

// The chapter's examples.
func TestExamples(t *testing.T) {
	if got := Put(-40); got != "-40" {
		t.Errorf("Put(-40) = %q", got)
	}
	if got, want := parse("007"), (parsed{f: api.Fault{E: api.ErrForm}}); got != want {
		t.Errorf("Parse of 007 = %v, want %v", got, want)
	}
}

// P7.1: the text of a number and its columns, by hand.
func TestPut(t *testing.T) {
	cases := []struct {
		n    int
		want string
	}{
		{0, "0"}, {1, "1"}, {9, "9"}, {10, "10"}, {11, "11"}, {100, "100"}, {907, "907"}, {1234567890, "1234567890"},
		{-1, "-1"}, {-9, "-9"}, {-10, "-10"}, {-40, "-40"}, {-1000, "-1000"}, {-1234567890, "-1234567890"},
		{999999999999999999, "999999999999999999"},
		{1000000000000000000, "1000000000000000000"},
		{math.MaxInt - 1, "9223372036854775806"},
		{math.MaxInt, "9223372036854775807"},
		{-math.MaxInt, "-9223372036854775807"},
		{math.MinInt, "-9223372036854775808"},
	}
	for _, c := range cases {
		if got := Put(c.n); got != c.want {
			t.Errorf("Put(%d) = %q, want %q", c.n, got, c.want)
		}
		if got := Columns(c.n); got != len(c.want) {
			t.Errorf("Columns(%d) = %d, want %d", c.n, got, len(c.want))
		}
	}
}

// P7.1: the text and the columns of many numbers, against the library's.
func TestPutOfMany(t *testing.T) {
	for _, n := range numbers() {
		want := strconv.Itoa(n)
		if got := Put(n); got != want {
			t.Errorf("Put(%s) = %q", want, got)
		}
		if got := Columns(n); got != len(want) {
			t.Errorf("Columns(%s) = %d, want %d", want, got, len(want))
		}
	}
}

// P7.1: the number at an index, and the index after it, by hand.
func TestTake(t *testing.T) {
	cases := []struct {
		s         string
		at, n, to int
	}{
		{"0", 0, 0, 1},
		{"7", 0, 7, 1},
		{"-7", 0, -7, 2},
		{"1234567890", 0, 1234567890, 10},
		{"10", 0, 10, 2},
		{"-10", 0, -10, 3},
		// The longest sequence of digits, and what follows is no matter.
		{"a-17b", 1, -17, 4},
		{"12 34", 0, 12, 2},
		{"12-34", 0, 12, 2},
		{"12.5", 0, 12, 2},
		{"1_000", 0, 1, 1},
		{"1e3", 0, 1, 1},
		{"0x10", 0, 0, 1},
		{"0-", 0, 0, 1},
		{"0 0", 0, 0, 1},
		{"12\uff13", 0, 12, 2},
		{"12\u0663", 0, 12, 2},
		{"12\xff", 0, 12, 2},
		{"-5-", 0, -5, 2},
		// Neither is what stands ahead of the index, be it a sign or a digit.
		{"1234", 2, 34, 4},
		{"-17", 1, 17, 3},
		{"--17", 1, -17, 4},
		{"00", 1, 0, 2},
		{"007", 2, 7, 3},
		{"\uff117", 3, 7, 4},
		{"\xff7", 1, 7, 2},
		{"9223372036854775807", 0, math.MaxInt, 19},
		{"-9223372036854775807", 0, -math.MaxInt, 20},
		{"-9223372036854775808", 0, math.MinInt, 20},
		{"9223372036854775807-", 0, math.MaxInt, 19},
		// With one digit less it is an int.
		{"19223372036854775808", 10, 6854775808, 20},
	}
	for _, c := range cases {
		if got, want := take(c.s, c.at), (taken{n: c.n, end: c.to}); got != want {
			t.Errorf("Take(%q, %d) = %v, want %v", c.s, c.at, got, want)
		}
	}
}

// P7.1: each fault, where it is, which of several comes first, and that nothing
// else is returned with it.
func TestTakeFaults(t *testing.T) {
	cases := []struct {
		s    string
		at   int
		e    api.Errno
		here int
	}{
		{"", 1, api.ErrArg, 0},
		{"", -1, api.ErrArg, 0},
		{"12", 3, api.ErrArg, 0},
		{"12", -1, api.ErrArg, 0},
		{"-", 2, api.ErrArg, 0},
		{"", math.MinInt, api.ErrArg, 0},
		{"12", math.MinInt, api.ErrArg, 0},
		{"12", math.MaxInt, api.ErrArg, 0},
		{"", 0, api.ErrEnd, 0},
		{"12", 2, api.ErrEnd, 2},
		{"a", 1, api.ErrEnd, 1},
		{"-", 1, api.ErrEnd, 1},
		{"-", 0, api.ErrEnd, 1},
		{"12-", 2, api.ErrEnd, 3},
		{"--", 1, api.ErrEnd, 2},
		{"a", 0, api.ErrForm, 0},
		{"12a", 2, api.ErrForm, 2},
		{"-a", 0, api.ErrForm, 1},
		{"12-a", 2, api.ErrForm, 3},
		{"--1", 0, api.ErrForm, 1},
		{"- 1", 0, api.ErrForm, 1},
		{"-+1", 0, api.ErrForm, 1},
		{"+1", 0, api.ErrForm, 0},
		{" 1", 0, api.ErrForm, 0},
		{".5", 0, api.ErrForm, 0},
		{"_1", 0, api.ErrForm, 0},
		// The characters beside the digits, and digits of other scripts.
		{"/", 0, api.ErrForm, 0},
		{":", 0, api.ErrForm, 0},
		{"\x00", 0, api.ErrForm, 0},
		{"\uff11", 0, api.ErrForm, 0},
		{"\u0661", 0, api.ErrForm, 0},
		{"\u22121", 0, api.ErrForm, 0},
		{"\uff0d1", 0, api.ErrForm, 0},
		{"\xb1", 0, api.ErrForm, 0},
		{"-\xff", 0, api.ErrForm, 1},
		// Leading zeros, and a zero with a sign.
		{"00", 0, api.ErrForm, 0},
		{"007", 0, api.ErrForm, 0},
		{"a07", 1, api.ErrForm, 1},
		{"-0", 0, api.ErrForm, 0},
		{"-00", 0, api.ErrForm, 0},
		{"-07", 0, api.ErrForm, 0},
		{"12-0", 2, api.ErrForm, 2},
		{"12-0a", 2, api.ErrForm, 2},
		{"09223372036854775808", 0, api.ErrForm, 0},
		{"-09223372036854775809", 0, api.ErrForm, 0},
		{"a" + strings.Repeat("0", 60000), 1, api.ErrForm, 1},
		// Not an int: just above or below it, where 64 bits wrap around, and far off.
		{"9223372036854775808", 0, api.ErrNumber, 0},
		{"-9223372036854775809", 0, api.ErrNumber, 0},
		{"9223372036854775809", 0, api.ErrNumber, 0},
		{"9223372036854775810", 0, api.ErrNumber, 0},
		{"-9223372036854775810", 0, api.ErrNumber, 0},
		{"10000000000000000000", 0, api.ErrNumber, 0},
		{"-10000000000000000000", 0, api.ErrNumber, 0},
		{"18446744073709551615", 0, api.ErrNumber, 0},
		{"18446744073709551616", 0, api.ErrNumber, 0},
		{"18446744073709551617", 0, api.ErrNumber, 0},
		{"-18446744073709551617", 0, api.ErrNumber, 0},
		{"92233720368547758070", 0, api.ErrNumber, 0},
		{"340282366920938463463374607431768211457", 0, api.ErrNumber, 0},
		{"ab9223372036854775808", 2, api.ErrNumber, 2},
		{"ab-9223372036854775809c", 2, api.ErrNumber, 2},
		{"a-1" + strings.Repeat("0", 60000), 1, api.ErrNumber, 1},
	}
	for _, c := range cases {
		if got, want := take(c.s, c.at), fault(c.e, c.here); got != want {
			t.Errorf("Take(%.80q, %d) = %v, want %v", c.s, c.at, got, want)
		}
	}
}

// P7.1: all short strings, at each index in and outside them.
func TestTakeEverywhere(t *testing.T) {
	for _, s := range samples(4) {
		for at := -1; at <= len(s)+1; at++ {
			if got, want := take(s, at), read(s, at); got != want {
				t.Fatalf("Take(%q, %d) = %v, want %v", s, at, got, want)
			}
		}
		for _, at := range extremes {
			if got, want := take(s, at), fault(api.ErrArg, 0); got != want {
				t.Fatalf("Take(%q, %d) = %v, want %v", s, at, got, want)
			}
		}
	}
}

// P7.1: every two bytes, as the beginning of a number, its second character,
// and what follows it.
func TestTakeOfAll(t *testing.T) {
	for n := range 0x10000 {
		s := string([]byte{byte(n >> 8), byte(n)})
		for _, s := range []string{s, "-" + s, "5" + s} {
			if got, want := take(s, 0), read(s, 0); got != want {
				t.Fatalf("Take(%q, 0) = %v, want %v", s, got, want)
			}
		}
	}
}

// P7.1: every last digit at the ends of the ints and where 64 bits wrap around.
func TestTakeAtTheEnds(t *testing.T) {
	for bits := range uint(140) {
		for near := int64(-12); near <= 12; near++ {
			b := new(big.Int).Lsh(big.NewInt(1), bits)
			b.Add(b, big.NewInt(near))
			for _, s := range []string{b.String(), "-" + b.String()} {
				if got, want := take(s, 0), read(s, 0); got != want {
					t.Errorf("Take(%q, 0) = %v, want %v", s, got, want)
				}
			}
		}
	}
}

// P7.1: all of a string is a number, or there is a fault, by hand.
func TestParse(t *testing.T) {
	cases := []struct {
		s    string
		n    int
		e    api.Errno
		here int
	}{
		{"0", 0, api.OK, 0},
		{"12", 12, api.OK, 0},
		{"-40", -40, api.OK, 0},
		{"9223372036854775807", math.MaxInt, api.OK, 0},
		{"-9223372036854775808", math.MinInt, api.OK, 0},
		{"", 0, api.ErrEnd, 0},
		{"-", 0, api.ErrEnd, 1},
		{"x", 0, api.ErrForm, 0},
		{"-x", 0, api.ErrForm, 1},
		{"+1", 0, api.ErrForm, 0},
		{" 1", 0, api.ErrForm, 0},
		{"\xff", 0, api.ErrForm, 0},
		{"007", 0, api.ErrForm, 0},
		{"-0", 0, api.ErrForm, 0},
		{"9223372036854775808", 0, api.ErrNumber, 0},
		{"-9223372036854775809", 0, api.ErrNumber, 0},
		// Something follows.
		{"12x", 0, api.ErrForm, 2},
		{"-12 ", 0, api.ErrForm, 3},
		{"1 2", 0, api.ErrForm, 1},
		{"1-2", 0, api.ErrForm, 1},
		{"0x10", 0, api.ErrForm, 1},
		{"1_000", 0, api.ErrForm, 1},
		{"1e3", 0, api.ErrForm, 1},
		{"1.0", 0, api.ErrForm, 1},
		{"1\n", 0, api.ErrForm, 1},
		{"1\x00", 0, api.ErrForm, 1},
		{"1\uff12", 0, api.ErrForm, 1},
		{"1\xff", 0, api.ErrForm, 1},
		{"9223372036854775807x", 0, api.ErrForm, 19},
		// The fault of Take comes first.
		{"007x", 0, api.ErrForm, 0},
		{"-0x", 0, api.ErrForm, 0},
		{"9223372036854775808x", 0, api.ErrNumber, 0},
	}
	for _, c := range cases {
		if got, want := parse(c.s), (parsed{c.n, api.Fault{E: c.e, At: c.here}}); got != want {
			t.Errorf("Parse(%q) = %v, want %v", c.s, got, want)
		}
	}
}

// P7.1: all short strings.
func TestParseEverywhere(t *testing.T) {
	for _, s := range samples(4) {
		if got, want := parse(s), readAll(s); got != want {
			t.Fatalf("Parse(%q) = %v, want %v", s, got, want)
		}
	}
}

// P7.2: the multiple that is not above a number, or none, by hand.
func TestFloor(t *testing.T) {
	cases := []struct {
		n, unit, want int
		ok            bool
	}{
		{0, 1, 0, true}, {0, 5, 0, true}, {7, 1, 7, true}, {-7, 1, -7, true},
		{7, 5, 5, true}, {5, 5, 5, true}, {4, 5, 0, true}, {9, 5, 5, true}, {10, 5, 10, true},
		{-1, 5, -5, true}, {-4, 5, -5, true}, {-5, 5, -5, true}, {-6, 5, -10, true}, {-7, 5, -10, true}, {-10, 5, -10, true},
		{4711, 1000, 4000, true}, {-4711, 1000, -5000, true}, {3, 1000, 0, true}, {-3, 1000, -1000, true},
		// A unit below 1, even where a multiple of it were at hand.
		{0, 0, 0, false}, {7, 0, 0, false}, {10, -5, 0, false}, {-10, -5, 0, false}, {-7, -1, 0, false},
		{math.MinInt, -1, 0, false}, {math.MinInt, 0, 0, false},
		{math.MinInt, math.MinInt, 0, false}, {math.MaxInt, math.MinInt, 0, false},
		// At the ends of the ints.
		{math.MaxInt, 1, math.MaxInt, true},
		{math.MaxInt, 2, math.MaxInt - 1, true},
		{math.MaxInt, 10, math.MaxInt - 7, true},
		{math.MaxInt, math.MaxInt, math.MaxInt, true},
		{math.MaxInt - 1, math.MaxInt, 0, true},
		{-1, math.MaxInt, -math.MaxInt, true},
		{-math.MaxInt, math.MaxInt, -math.MaxInt, true},
		{math.MinInt, 1, math.MinInt, true},
		{math.MinInt, 2, math.MinInt, true},
		{math.MinInt, 1 << 62, math.MinInt, true},
		{math.MinInt + 8, 10, math.MinInt + 8, true},
		// The multiple is not an int.
		{math.MinInt, 3, 0, false},
		{math.MinInt, 10, 0, false},
		{math.MinInt + 7, 10, 0, false},
		{math.MinInt, math.MaxInt, 0, false},
		{math.MinInt + 1, math.MaxInt - 1, 0, false},
	}
	for _, c := range cases {
		if got, ok := Floor(c.n, c.unit); got != c.want || ok != c.ok {
			t.Errorf("Floor(%d, %d) = %d, %t, want %d, %t", c.n, c.unit, got, ok, c.want, c.ok)
		}
	}
}

// P7.2: small numbers, by looking for the multiple from the number down.
func TestFloorOfSmall(t *testing.T) {
	for n := -200; n <= 200; n++ {
		for unit := 1; unit <= 50; unit++ {
			want := n
			for want%unit != 0 {
				want--
			}
			if got, ok := Floor(n, unit); got != want || !ok {
				t.Errorf("Floor(%d, %d) = %d, %t, want %d, true", n, unit, got, ok, want)
			}
		}
		for unit := -50; unit <= 0; unit++ {
			if got, ok := Floor(n, unit); got != 0 || ok {
				t.Errorf("Floor(%d, %d) = %d, %t, want 0, false", n, unit, got, ok)
			}
		}
	}
}

// far are the numbers of all sizes, fewer of them than numbers returns.
func far() []int {
	l := []int{-7, -1, 0, 1, 7}
	for _, n := range numbers() {
		if n < -999 || n > 999 {
			l = append(l, n)
		}
	}
	return l
}

// P7.2: floors of numbers of all sizes, computed without a bound.
func TestFloorOfMany(t *testing.T) {
	all := far()
	for _, n := range all {
		for _, unit := range all {
			if unit < 1 {
				continue
			}
			// The library's Div rounds down if the divisor is positive.
			b := new(big.Int).Div(big.NewInt(int64(n)), big.NewInt(int64(unit)))
			want, is := narrow(b.Mul(b, big.NewInt(int64(unit))))
			if got, ok := Floor(n, unit); got != want || ok != is {
				t.Fatalf("Floor(%d, %d) = %d, %t, want %d, %t", n, unit, got, ok, want, is)
			}
		}
	}
}

// P7.2: sums, or none, by hand.
func TestAdd(t *testing.T) {
	cases := []struct {
		a, b, want int
		ok         bool
	}{
		{0, 0, 0, true}, {2, 3, 5, true}, {-2, 3, 1, true}, {2, -3, -1, true}, {-2, -3, -5, true},
		{math.MaxInt, 0, math.MaxInt, true},
		{math.MaxInt - 1, 1, math.MaxInt, true},
		{math.MaxInt, -1, math.MaxInt - 1, true},
		{math.MaxInt, 1, 0, false},
		{math.MaxInt - 1, 2, 0, false},
		{math.MaxInt, math.MaxInt, 0, false},
		{math.MinInt, 0, math.MinInt, true},
		{math.MinInt + 1, -1, math.MinInt, true},
		{math.MinInt, 1, math.MinInt + 1, true},
		{math.MinInt, -1, 0, false},
		{math.MinInt + 1, -2, 0, false},
		{math.MinInt, math.MinInt, 0, false},
		{math.MinInt, math.MaxInt, -1, true},
		{-math.MaxInt, math.MaxInt, 0, true},
	}
	for _, c := range cases {
		for _, p := range [][2]int{{c.a, c.b}, {c.b, c.a}} {
			if got, ok := Add(p[0], p[1]); got != c.want || ok != c.ok {
				t.Errorf("Add(%d, %d) = %d, %t, want %d, %t", p[0], p[1], got, ok, c.want, c.ok)
			}
		}
	}
}

// P7.2: sums of numbers of all sizes, computed without a bound.
func TestAddOfMany(t *testing.T) {
	all := far()
	for _, a := range all {
		for _, b := range all {
			want, is := narrow(new(big.Int).Add(big.NewInt(int64(a)), big.NewInt(int64(b))))
			if got, ok := Add(a, b); got != want || ok != is {
				t.Fatalf("Add(%d, %d) = %d, %t, want %d, %t", a, b, got, ok, want, is)
			}
		}
	}
}

// P7.3: a number is recovered from its text, alone and within a string.
func TestRecovered(t *testing.T) {
	for _, n := range numbers() {
		s := Put(n)
		if got, want := parse(s), (parsed{n: n}); got != want {
			t.Errorf("Parse(%q) = %v, want %v", s, got, want)
		}
		within := "5-" + s + "-5"
		if got, want := take(within, 2), (taken{n: n, end: 2 + len(s)}); got != want {
			t.Errorf("Take(%q, 2) = %v, want %v", within, got, want)
		}
	}
}

// P7.3: different numbers have different texts, and what Parse accepts is the
// text of the number.
func TestDifferent(t *testing.T) {
	of := map[string]int{}
	for _, n := range numbers() {
		s := Put(n)
		if other, ok := of[s]; ok {
			t.Errorf("%q is the text of %d and of %d", s, other, n)
		}
		of[s] = n
	}
	for _, s := range samples(4) {
		if n, f := Parse(s); f == (api.Fault{}) && Put(n) != s {
			t.Fatalf("Parse(%q) = %d, whose text is %q", s, n, Put(n))
		}
	}
}
