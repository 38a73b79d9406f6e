package raw

import (
	"fmt"
	"math"
	"math/rand"
	"reflect"
	"slices"
	"testing"

	"blindfold/api"
)

// P22.2: values that no text denotes are counted as others are.
func TestCountAndDepth(t *testing.T) {
	some := func(n int) []api.Raw { return make([]api.Raw, n) }
	for _, c := range []struct {
		v            api.Raw
		count, depth int
	}{
		{api.Raw{}, 1, 1},
		{api.Raw{Kind: -1, At: math.MinInt, N: math.MaxInt, S: "\xff"}, 1, 1},
		{number(7, 0), 1, 1},
		{name("a", 0), 1, 1},
		{text("[1]", 0), 1, 1},
		{list(0), 1, 1},
		{list(0, number(1, 1)), 2, 2},
		{list(0, number(1, 1), number(2, 3)), 3, 2},
		{call("f", 0, list(2)), 2, 2},
		{call("f", 0, list(2, list(3), list(6, name("a", 7)))), 5, 4},
		{record(0, nil), 1, 1},
		{record(0, []api.Word{word("a", 1)}, list(3, number(1, 4))), 3, 3},
		{record(0, []api.Word{word("a", 1), word("b", 3)}), 1, 1},
		{record(0, nil, list(3, number(1, 4))), 3, 3},
		{api.Raw{Kind: 1, Kids: some(3)}, 4, 2},
		{api.Raw{Kind: 2, Kids: some(1)}, 2, 2},
		{api.Raw{Kind: 3, Kids: some(2)}, 3, 2},
		{api.Raw{Kind: 6, Kids: some(2)}, 3, 2},
		{api.Raw{Kind: 6}, 1, 1},
		{api.Raw{Kind: math.MaxInt, Kids: some(5)}, 6, 2},
		{api.Raw{Kind: 4, Kids: some(5000)}, 5001, 2},
		{list(0, list(1), list(2, list(3, list(4))), list(5, list(6))), 7, 4},
	} {
		if n, d := Count(c.v), Depth(c.v); n != c.count || d != c.depth {
			t.Errorf("%+v: %d, %d, want %d, %d", c.v, n, d, c.count, c.depth)
		}
	}
}

// P22.2: no limit of texts holds for what is counted.
func TestCountAndDepthOfMuch(t *testing.T) {
	v := api.Raw{Kind: 4}
	for range 1<<16 - 1 {
		v = list(0, v)
	}
	if n, d := Count(v), Depth(v); n != 1<<16 || d != 1<<16 {
		t.Errorf("deep: %d, %d", n, d)
	}
	if v := (api.Raw{Kids: make([]api.Raw, 1000000)}); Count(v) != 1000001 || Depth(v) != 2 {
		t.Errorf("wide: %d, %d", Count(v), Depth(v))
	}
}

// randomTree is any value with the number of values, and its depth.
func randomTree(random *rand.Rand, n int) (api.Raw, int) {
	v := api.Raw{Kind: random.Intn(9) - 1, At: random.Intn(100) - 50, Keys: make([]api.Word, random.Intn(3))}
	depth := 1
	for n--; n > 0; {
		in := 1 + random.Intn(n)
		kid, d := randomTree(random, in)
		v.Kids = append(v.Kids, kid)
		depth = max(depth, d+1)
		n -= in
	}
	return v, depth
}

// P22.2, R3: random values, which are not changed.
func TestCountAndDepthOfRandom(t *testing.T) {
	random := rand.New(rand.NewSource(2))
	for range 3000 {
		n := 1 + random.Intn(200)
		v, depth := randomTree(random, n)
		before := fmt.Sprint(v)
		if Count(v) != n || Depth(v) != depth || fmt.Sprint(v) != before {
			t.Fatalf("%v: %d, %d, want %d, %d", v, Count(v), Depth(v), n, depth)
		}
	}
}

// spans is the memory of all slices in v, from the first byte to that behind the
// capacity.
func spans(v api.Raw) [][2]uintptr {
	var all [][2]uintptr
	for _, s := range []reflect.Value{reflect.ValueOf(v.Keys), reflect.ValueOf(v.Kids)} {
		if s.Cap() > 0 {
			all = append(all, [2]uintptr{s.Pointer(), s.Pointer() + uintptr(s.Cap())*s.Type().Elem().Size()})
		}
	}
	for _, kid := range v.Kids {
		all = append(all, spans(kid)...)
	}
	return all
}

// R3: no two slices of a result share memory, not even beyond their lengths.
func TestMemory(t *testing.T) {
	random := rand.New(rand.NewSource(3))
	texts := []string{"{a: [1, 2, 3, [4], [5]], b: f({a: 1, b: g(2), c: []}), c: [[1], [2], [f(3)]]}"}
	for range 2000 {
		w, _ := write(random)
		texts = append(texts, w.all())
	}
	for _, s := range texts {
		v, _ := Parse(s)
		used := spans(v)
		slices.SortFunc(used, func(a, b [2]uintptr) int { return int(a[0]) - int(b[0]) })
		for i := 1; i < len(used); i++ {
			if used[i][0] < used[i-1][1] {
				t.Fatalf("%q: two slices share memory", s)
			}
		}
	}
}

// R4: a result depends only on the text, not on what was parsed before, nor on what
// became of that.
func TestAgain(t *testing.T) {
	const s = "{a: [1, b], c: f(\"x\")}"
	first, _ := Parse(s)
	want, _ := Parse(s)
	Parse(s + "}")
	first.Keys[0].Name = "changed"
	first.Kids[0].Kids[1] = api.Raw{}
	first.Kids[1].Kids[0].S = "changed"
	if again, f := Parse(s); !reflect.DeepEqual(again, want) || f != (api.Fault{}) || reflect.DeepEqual(again, first) {
		t.Errorf("%v, %v, want %v", again, f, want)
	}
}
