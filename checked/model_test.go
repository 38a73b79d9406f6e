package checked

import (
	"fmt"
	"math/rand"
	"slices"
	"strings"
	"testing"

	"blindfold/api"
	"blindfold/effect"
	"blindfold/inhabit"
	"blindfold/resolve"
	"blindfold/syntax"
	"blindfold/unparse"
)

// The first model: texts into which faults are planted, each at the mark ^ of its
// piece. That with the lowest rank, and the first in the text among these, is the one
// that Text must find.

type piece struct {
	text  string
	rank  int
	stage int
	e     api.Errno
}

// heads are levels, the first of which are fine.
var heads = []piece{
	{"levels {lo, hi} order {lo < hi} ", 99, 0, 0},
	{"levels {top, hi, lo, low} order {low < lo < top, low < hi < top} ", 99, 0, 0},
	{"levels {hi, lo, bottom} order {lo < hi, bottom < lo} ", 99, 0, 0},
	{"levels {lo, ^hi} ", 2, Resolve, api.ErrBound},
	{"levels {lo, hi, ^lo} order {lo < hi} ", 2, Resolve, api.ErrTwice},
	{"levels {^hi, lo} order {lo < hi, hi < lo} ", 2, Resolve, api.ErrLoop},
	{"levels {lo, hi} order {lo < hi < ^no} ", 2, Resolve, api.ErrLevel},
	{"levels {lo, hi} ^, order {lo < hi} ", 1, Syntax, api.ErrToken},
}

// types are types to which the name N is given.
var types = []piece{
	{"type N = bool ", 99, 0, 0},
	{"type N = opt(ref(N)) ", 99, 0, 0},
	{"type N = list(ref(N), 0) ", 99, 0, 0},
	{"type N = record{x: int(0..9) @hi ~floor(3), y: opt(ref(N)) @lo} ", 99, 0, 0},
	{"type N = union{x(text(9)) @hi+lo #7 ~first(3), y, z(ref(N)) @hi} ", 99, 0, 0},

	{"type N = text(^\xff) ", 0, Syntax, api.ErrUtf},
	{"type N = ^% ", 0, Syntax, api.ErrChar},
	{"type N = int(0..^00) ", 0, Syntax, api.ErrForm},
	{"type N = ^lump ", 1, Syntax, api.ErrName},
	{"type N = record{x: ^} ", 1, Syntax, api.ErrToken},
	{"type N = record{x: bool ~^most} ", 1, Syntax, api.ErrName},
	{"type N = list(bool^) ", 1, Syntax, api.ErrToken},

	{"type N = bool type ^N = bool ", 3, Resolve, api.ErrTwice},
	{"type N = record{x: ^text(4097)} ", 4, Resolve, api.ErrRange},
	{"type N = enum(x, ^x) ", 4, Resolve, api.ErrTwice},
	{"type N = record{x: bool, ^x: bool} ", 4, Resolve, api.ErrTwice},
	{"type N = record{x: int(0..9) @hi ~^floor(0)} ", 4, Resolve, api.ErrRange},
	{"type N = opt(ref(^nosuch)) ", 5, Resolve, api.ErrMissing},
	{"type N = record{x: bool @hi+^nosuch} ", 5, Resolve, api.ErrLevel},
	{"type N = record{x: int(0..9) @hi ~floor(2) @^nosuch} ", 5, Resolve, api.ErrLevel},
	{"type ^N = ref(N) ", 6, Resolve, api.ErrLoop},
	{"type ^N = ref(N_2) type N_2 = ref(N) ", 6, Resolve, api.ErrLoop},

	{"type N = ^record{x: ref(N)} ", 7, Inhabit, api.ErrLoop},
	{"type N = opt(^union{x(record{y: ref(N_2)})}) type N_2 = union{x(record{y: ref(N_2)})} ", 7, Inhabit, api.ErrLoop},
	{"type N = record{x: opt(bool), y: list(^record{z: ref(N_2)}, 3)} type N_2 = record{z: ref(N_2)} ", 7, Inhabit, api.ErrLoop},

	{"type N = record{x: bool @hi ~^count} ", 8, Effect, api.ErrType},
	{"type N = opt(union{n, x(ref(N)) @hi ~^first(3)}) ", 8, Effect, api.ErrType},
	{"type N = record{x: int(0..9) @lo ~^floor(3) @hi} ", 8, Effect, api.ErrFlow},
	{"type N = record{x: text(9) @hi ~^first(3) @hi} ", 8, Effect, api.ErrFlow},
	{"type N = record{x: list(ref(N), 3) @hi ~^count @hi+lo} ", 8, Effect, api.ErrFlow},
}

// roots are the ends of texts.
var roots = []piece{
	{"root record{x: bool @hi, y: opt(int(0..9))}", 99, 0, 0},
	{"root text(0)", 99, 0, 0},
	{"root ^\"\"", 1, Syntax, api.ErrToken},
	{"root bool ^bool", 1, Syntax, api.ErrToken},
	{"type wrong = ^record{a: ref(wrong)} root bool", 7, Inhabit, api.ErrLoop},
	{"root record{a: bool @hi ~^first(0)}", 8, Effect, api.ErrType},
}

// assemble is the text of the pieces, the piece whose fault counts, and the place of
// that fault.
func assemble(pieces []piece) (string, piece, int) {
	all := ""
	worst, at := piece{rank: 99}, 0
	for i, p := range pieces {
		s, mark := marked(strings.ReplaceAll(p.text, "N", fmt.Sprint("n", i)))
		if p.rank < worst.rank {
			worst, at = p, len(all)+mark
		}
		all += s
	}
	return all, worst, at
}

// randomPieces is a head, some types and a root, none with a rank below the least one.
func randomPieces(r *rand.Rand, least int) []piece {
	allowed := func(list []piece) []piece {
		return slices.DeleteFunc(slices.Clone(list), func(p piece) bool { return p.rank < least })
	}
	pick := func(list []piece) piece { return list[r.Intn(len(list))] }
	l := []piece{pick(allowed(heads))}
	if r.Intn(3) > 0 {
		l[0] = heads[r.Intn(3)]
	}
	for range r.Intn(6) {
		l = append(l, pick(allowed(types)))
	}
	root := roots[r.Intn(2)]
	if r.Intn(3) == 0 {
		root = pick(allowed(roots))
	}
	return append(l, root)
}

// P21.1, P21.3: faults of all stages in one text.
func TestPlanted(t *testing.T) {
	r := rand.New(rand.NewSource(21))
	seen := map[string]int{}
	for range 6000 {
		s, want, at := assemble(randomPieces(r, r.Intn(12)))
		p, stage, f := text(t, s)
		if want.e == 0 {
			at = 0
		}
		if (p == nil) != (want.e > 0) || stage != want.stage || f != (api.Fault{E: want.e, At: at}) {
			t.Fatalf("%q: %d, %v, want %d, %v at %d", s, stage, f, want.stage, want.e, at)
		}
		seen[fmt.Sprint("rank ", want.rank)]++
		if p != nil {
			comparePlans(t, s, p)
			compareObservers(t, s, p)
		}
	}
	for rank := range 9 {
		if key := fmt.Sprint("rank ", rank); seen[key] < 50 {
			t.Errorf("%d texts with %s", seen[key], key)
		}
	}
	if seen["rank 99"] < 50 {
		t.Errorf("%d texts without a fault", seen["rank 99"])
	}
}

// comparePlans asks that the schema with the text s, which has this plan, is without
// fault when it is parsed from its own text, with the same plan.
func comparePlans(t *testing.T, s string, p *resolve.Plan) {
	t.Helper()
	schema, _ := syntax.Parse(s)
	own, stage, f := text(t, unparse.Format(schema))
	if own == nil {
		t.Fatalf("%q: its own text has the fault %d, %v", s, stage, f)
	}
	if plain(own) != plain(p) {
		t.Fatalf("%q: the plan of its own text is %s", s, plain(own))
	}
	again, _, _ := Of(unparse.Strip(schema))
	if again == nil || plain(again) != plain(p) {
		t.Fatalf("%q: the plan without positions is %s", s, contents(again))
	}
}

// compareObservers asks for the levels in the text s, and for the one that all others
// see.
func compareObservers(t *testing.T, s string, p *resolve.Plan) {
	t.Helper()
	schema, _ := syntax.Parse(s)
	for i, w := range schema.Levels {
		if got, f := Observer(p, w.Name); got != i || f != (api.Fault{}) {
			t.Fatalf("%q: Observer(%q) = %d, %v", s, w.Name, got, f)
		}
	}
	bottom, f := Observer(p, "")
	for i := range schema.Levels {
		if !p.Lattice().Leq(bottom, i) || f != (api.Fault{}) {
			t.Fatalf("%q: the bottom is %d, %v", s, bottom, f)
		}
	}
	for _, name := range []string{"no", "n1", "x", "hi ", "H"} {
		if got, f := Observer(p, name); got != 0 || f != (api.Fault{E: api.ErrLevel}) {
			t.Fatalf("%q: Observer(%q) = %d, %v", s, name, got, f)
		}
	}
}

// The second model: the chapter's list of stages, written out.
func expected(s string) (int, api.Fault) {
	schema, f := syntax.Parse(s)
	if f.E != 0 {
		return 1, f
	}
	return expectedOf(schema)
}

func expectedOf(s api.Schema) (int, api.Fault) {
	p, f := resolve.Build(s)
	if f.E != 0 {
		return 2, f
	}
	if f := inhabit.Check(p); f.E != 0 {
		return 3, f
	}
	if f := effect.Check(p); f.E != 0 {
		return 4, f
	}
	return 0, api.Fault{}
}

// P21.1: texts from which bytes or tokens are taken, or to which some are added.
func TestDamaged(t *testing.T) {
	r := rand.New(rand.NewSource(22))
	seen := map[int]int{}
	tokens := strings.Fields("levels order type root bool int text enum list opt record union ref { } ( ) , : .. = < @ # ~ + ; floor first count lo hi x n1 0 9 -1 \"\" \x80 %")
	for range 6000 {
		s, _, _ := assemble(randomPieces(r, r.Intn(12)))
		for range r.Intn(3) {
			i := r.Intn(len(s) + 1)
			k := i + r.Intn(min(8, len(s)+1-i))
			s = s[:i] + tokens[r.Intn(len(tokens))] + s[k:]
		}
		wantStage, want := expected(s)
		p, stage, f := text(t, s)
		if (p == nil) != (want.E > 0) || stage != wantStage || f != want {
			t.Fatalf("%q: %d, %v, want %d, %v", s, stage, f, wantStage, want)
		}
		seen[stage]++
	}
	for stage := range 5 {
		if seen[stage] < 200 {
			t.Errorf("%d texts whose fault is of stage %d", seen[stage], stage)
		}
	}
}

// P21.1: schemas that no text has.
func TestStrange(t *testing.T) {
	r := rand.New(rand.NewSource(23))
	seen := map[int]int{}
	for range 6000 {
		s := strange(r)
		wantStage, want := expectedOf(s)
		p, stage, f := Of(s)
		if (p == nil) != (want.E > 0) || stage != wantStage || f != want {
			t.Fatalf("%+v: %d, %v, want %d, %v", s, stage, f, wantStage, want)
		}
		seen[stage]++
	}
	for stage := range 5 {
		if seen[stage] < 200 && stage != Syntax {
			t.Errorf("%d schemas whose fault is of stage %d", seen[stage], stage)
		}
	}
	if seen[Syntax] > 0 {
		t.Errorf("%d schemas whose fault is of stage Syntax", seen[Syntax])
	}
}

// strange is a schema with any positions, some fields of which are replaced.
func strange(r *rand.Rand) api.Schema {
	s, _, _ := assemble(randomPieces(r, 4+r.Intn(6)))
	schema, _ := syntax.Parse(s)
	for i := range schema.Types {
		damage(r, &schema.Types[i].Type)
	}
	damage(r, &schema.Root)
	if r.Intn(20) == 0 {
		schema.Levels = nil
	}
	return schema
}

// damage changes the positions in t, and now and then something else.
func damage(r *rand.Rand, t *api.Type) {
	t.At = r.Intn(100) - 50
	if r.Intn(40) == 0 {
		switch r.Intn(6) {
		case 0:
			t.Kind = r.Intn(12) - 1
		case 1:
			t.Lo = 10
		case 2:
			t.Most = -1
		case 3:
			t.Names = append(t.Names, word("Z"))
		case 4:
			t.Parts = nil
		case 5:
			t.Name = word("n1")
		}
	}
	for i := range t.Parts {
		p := &t.Parts[i]
		p.Name.At, p.Coarse.At = r.Intn(100)-50, r.Intn(100)-50
		if r.Intn(40) == 0 {
			p.Coarse.Kind = r.Intn(6) - 1
		}
		damage(r, &p.Type)
	}
}
