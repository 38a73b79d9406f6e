/- Layer 15: a type that came in, none of its lists too great to be made anew. -/
import Derived.Test.YtpepomnkoghjpaaTypA
import Derived.Test.YtpepomnkoghjpaaSiz
set_option maxRecDepth 100000
set_option linter.unusedVariables false
namespace Go.Proofs.Ytpepomnkoghjpaa.Kin
open Go.RowKit Go.Lib Go.Deep Go.ChangeShapes Go.WideShapes Go.Proofs.Ytpepomnkoghjpaa.Nam Go.Proofs.Ytpepomnkoghjpaa.Lat

def LimH (h : TH) : Prop := GoodH h ∧ h.names.length * 24 ≤ 140737488355328
def LimL (p : PH) : Prop := GoodL p ∧ p.label.length * 24 ≤ 140737488355328 ∧ p.cl.length * 24 ≤ 140737488355328
def LimN (n : Nat) : Prop := n * 224 ≤ 140737488355328
theorem all_good : ∀ {f : Ft}, f.All LimH LimL → f.All GoodH GoodL
  | .nil, _ => trivial
  | .cons _ _ _ _, h => ⟨h.1.1, h.2.1.1, h.2.2.1, all_good h.2.2.2.1, all_good h.2.2.2.2⟩
theorem words_inS {G : Type} {enc' : TypeId × Value → G} {W : World} {bs f : Nat} {v : Value} (h : TrS enc' Try.prog W bs f 22 [v]) :
    ∃ xs : List Wr, RdW W v xs ∧ (∀ x ∈ xs, GoodW x) ∧ xs.length ≤ maxLen ∧ xs.length * 24 ≤ 140737488355328 := by
  obtain ⟨A, len, cap, e, -, -, hb, -⟩ := TrS.slice Try.underlying22 h
  obtain ⟨x, hx, -⟩ := h
  obtain ⟨xs, rd, g, l⟩ := words_in hx
  obtain ⟨A', c', e', -, -⟩ := rd.op
  rw [e'] at e
  simp only [Value.slice.injEq] at e
  obtain ⟨-, e2, -⟩ := e
  have hbw : Try.prog.bytesOf 25 = 24 := by kernel_rfl
  rw [hbw, ← e2] at hb
  have := reachBytes_lt
  exact ⟨xs, rd, g, l, by omega⟩
section
variable {G : Type} {enc' : TypeId × Value → G} {W : World} {bs : Nat}
theorem node_typS (f : Nat) (cs : List Value) (hT : TrS enc' Try.prog W bs f 27 cs) (hl : cs.length = 9) :
    ∃ h v f', hdT W cs h v ∧ LimH h ∧ f' < f ∧ TrS enc' Try.prog W bs f' 23 [v] := by
  obtain ⟨n, rfl, hf⟩ := TrS.struct Try.underlying27 hT
  match cs, hl with
  | [v0, v1, v2, v3, v4, v5, v6, v7, v8], _ =>
    have g0 := hf 0 _ rfl
    have g1 := hf 1 _ rfl
    have g2 := hf 2 _ rfl
    have g3 := hf 3 _ rfl
    have g4 := hf 4 _ rfl
    have g5 := hf 5 _ rfl
    have g6 := hf 6 _ rfl
    have g7 := hf 7 _ rfl
    have c3 : Try.prog.cellsOf 3 = 1 := by kernel_rfl
    have c5 : Try.prog.cellsOf 22 = 1 := by kernel_rfl
    have c6 : Try.prog.cellsOf 23 = 1 := by kernel_rfl
    have c7 : Try.prog.cellsOf 25 = 2 := by kernel_rfl
    have c9 : Try.prog.cellsOf 9 = 1 := by kernel_rfl
    simp [c3, c5, c6, c7] at g0 g1 g2 g3 g4 g5 g6 g7
    obtain ⟨y0, g0, -⟩ := g0
    obtain ⟨y1, g1, -⟩ := g1
    obtain ⟨y2, g2, -⟩ := g2
    obtain ⟨y3, g3, -⟩ := g3
    obtain ⟨y4, g4, -⟩ := g4
    obtain ⟨y7, g7, -⟩ := g7
    obtain ⟨n0, h0, -, w0⟩ := DataW.trod_int Try.underlying3 g0
    obtain ⟨n1, h1, -, w1⟩ := DataW.trod_int Try.underlying3 g1
    obtain ⟨n2, h2, -, w2⟩ := DataW.trod_int Try.underlying3 g2
    obtain ⟨n3, h3, -, w3⟩ := DataW.trod_int Try.underlying3 g3
    obtain ⟨n4, h4, -, w4⟩ := DataW.trod_int Try.underlying3 g4
    obtain ⟨ns, rn, qn, ln, bn⟩ := words_inS g5
    obtain ⟨zs, m', rfl, -, -, hzs, hk⟩ := DataW.trod_struct Try.underlying25 g7
    match zs, hzs with
    | [z0, z1], _ =>
      have k0 := hk 0 _ rfl
      have k1 := hk 1 _ rfl
      simp [c3, c9] at k0 k1
      obtain ⟨s7, h7, -, w7⟩ := DataW.trod_string Try.underlying9 k0
      obtain ⟨n8, h8, -, w8⟩ := DataW.trod_int Try.underlying3 k1
      simp at h0 h1 h2 h3 h4 h7 h8
      subst h0 h1 h2 h3 h4 h7 h8
      exact ⟨⟨n0, n1, n2, n3, n4, ns, s7, n8⟩, v6, _, ⟨v5, rfl, rn⟩, ⟨⟨wf64 w0, wf64 w1, wf64 w2, wf64 w3, wf64 w4, qn, w7, wf64 w8, ln⟩, bn⟩, Nat.lt_succ_self _, g6⟩
theorem elem_typS (f : Nat) (cs : List Value) (hT : TrS enc' Try.prog W bs f 52 cs) (hl : cs.length = 9 + 9) :
    ∃ l ps ts f', cs = ps ++ ts ∧ ps.length = 9 ∧ ts.length = 9 ∧ plT W ps l ∧ LimL l ∧ f' ≤ f ∧ TrS enc' Try.prog W bs f' 27 ts := by
  obtain ⟨n, rfl, hf⟩ := TrS.struct Try.underlying52 hT
  match cs, hl with
  | [v0, v1, v2, v3, v4, v5, v6, v7, v8, u0, u1, u2, u3, u4, u5, u6, u7, u8], _ =>
    have g0 := hf 0 _ rfl
    have g1 := hf 1 _ rfl
    have g2 := hf 2 _ rfl
    have g3 := hf 3 _ rfl
    have g4 := hf 4 _ rfl
    have g5 := hf 5 _ rfl
    have c3 : Try.prog.cellsOf 3 = 1 := by kernel_rfl
    have cb : Try.prog.cellsOf 4 = 1 := by kernel_rfl
    have c5 : Try.prog.cellsOf 22 = 1 := by kernel_rfl
    have c7 : Try.prog.cellsOf 25 = 2 := by kernel_rfl
    have c9 : Try.prog.cellsOf 9 = 1 := by kernel_rfl
    have cc : Try.prog.cellsOf 50 = 4 := by kernel_rfl
    have ct : Try.prog.cellsOf 27 = 9 := by kernel_rfl
    simp [c3, cb, c5, c7, cc, ct] at g0 g1 g2 g3 g4 g5
    obtain ⟨m4, -, hc⟩ := TrS.struct Try.underlying50 g4
    obtain ⟨y0, g0, -⟩ := g0
    obtain ⟨y1, g1, -⟩ := g1
    obtain ⟨y3, g3, -⟩ := g3
    obtain ⟨b1, h1, -⟩ := DataW.trod_bool Try.underlying4 g1
    obtain ⟨ls, rl, ql, ll, bl'⟩ := words_inS g2
    obtain ⟨n3, h3, -, w3⟩ := DataW.trod_int Try.underlying3 g3
    obtain ⟨zs, m', -, -, -, hzs, hk⟩ := DataW.trod_struct Try.underlying25 g0
    match zs, hzs with
    | [z0, z1], _ =>
      have k0 := hk 0 _ rfl
      have k1 := hk 1 _ rfl
      have j0 := hc 0 _ rfl
      have j1 := hc 1 _ rfl
      have j2 := hc 2 _ rfl
      have j3 := hc 3 _ rfl
      simp [c3, c5, c9] at k0 k1 j0 j1 j2 j3
      obtain ⟨q0, j0, -⟩ := j0
      obtain ⟨q1, j1, -⟩ := j1
      obtain ⟨q2, j2, -⟩ := j2
      obtain ⟨s0, e0, -, q0⟩ := DataW.trod_string Try.underlying9 k0
      obtain ⟨n1, e1, -, q1⟩ := DataW.trod_int Try.underlying3 k1
      obtain ⟨c0, d0, -, r0⟩ := DataW.trod_int Try.underlying3 j0
      obtain ⟨c1, d1, -, r1⟩ := DataW.trod_int Try.underlying3 j1
      obtain ⟨c2, d2, -, r2⟩ := DataW.trod_int Try.underlying3 j2
      obtain ⟨ms, rm, qm, lm, bm⟩ := words_inS j3
      simp at h1 h3 e0 e1 d0 d1 d2
      subst h1 h3 e0 e1 d0 d1 d2
      exact ⟨⟨s0, n1, b1, ls, n3, c0, c1, c2, ms⟩, [_, _, _, _, _, _, _, _, _], _, _, rfl, rfl, rfl, ⟨v3, v8, rfl, rl, rm⟩, ⟨⟨q0, wf64 q1, ql, wf64 w3, wf64 r0, wf64 r1, wf64 r2, qm, ll, lm⟩, bl', bm⟩, Nat.le_succ _, g5⟩
end
theorem arg_typ_s {H : Type} {enc' : TypeId × Value → H} {W : World} {base : Nat} {v : Value} {d : DataW H} {p : List MemPlace} (hv : Value.okWide Try.prog W .any base 27 v)
    (h : DataW.Trod enc' Try.prog W 0 (fun _ => true) true 27 v d p) (hs : ∀ n ∈ d.weights Try.prog 27, n ≤ reachBytes) : ∃ q : Ty, v = tyV q.1 q.2.2.1 q.2.2.2 ∧ RdY W q.1 q.2.1 q.2.2.1 q.2.2.2 ∧ LimH q.1 ∧ q.2.1.All LimH LimL ∧ (q.2.1.len ≤ maxLen ∧ LimN q.2.1.len) ∧ q.2.1.AllB LimN := by
  unfold Value.okWide at hv
  rw [Try.underlying27] at hv
  obtain ⟨cs, rfl, hs', ts, ht, -, hc⟩ := hv
  have c2 : Try.prog.cellsOf 27 = 9 := by kernel_rfl
  rw [c2] at hs'
  obtain ⟨fuel, hf⟩ := h
  obtain ⟨l⟩ := cs
  have hT : TrS enc' Try.prog W 0 fuel 27 l := ⟨_, hf, hs⟩
  have hbp : Try.prog.bytesOf 52 = 224 := by kernel_rfl
  obtain ⟨h, gh, fo, ln, hn, ga, gb⟩ := arg_treeT (k := 9) (pre := 9) (hd := hdT) (pl := plT) (P := Try.prog) (W := W) (bs := 0) (TrS enc' Try.prog W 0) LimN (tT := 27) (tE := 52) (tS := 23) (by kernel_rfl) (by decide) LimH LimL
    (fun f v h => by
      obtain ⟨A, len, cap, e, h1, h2, hb, h3⟩ := TrS.slice Try.underlying23 h
      rw [hbp] at hb
      have := reachBytes_lt
      exact ⟨A, len, cap, e, h1, h2, by unfold LimN; omega, h3⟩) node_typS elem_typS (fuel + 1) fuel (Nat.lt_succ_self fuel) l hT (by simpa using hs')
  obtain ⟨nv, pv, e, hy⟩ := RdY.node hn
  subst e
  exact ⟨(h, fo, nv, pv), rfl, hy, gh, ga, ln, gb⟩
end Go.Proofs.Ytpepomnkoghjpaa.Kin
