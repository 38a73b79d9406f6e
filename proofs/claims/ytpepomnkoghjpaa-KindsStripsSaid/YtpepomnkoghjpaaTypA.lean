/- Layer 15: types in memory: read, kept, opened as an argument. -/
import Derived.Test.YtpepomnkoghjpaaKinS
import Derived.Test.YtpepomnkoghjpaaWrdA
import Derived.Test.YtpepomnkoghjpaaTreB
set_option maxRecDepth 100000
set_option linter.unusedVariables false
namespace Go.Proofs.Ytpepomnkoghjpaa.Kin
open Go.RowKit Go.Lib Go.Deep Go.ChangeShapes Go.WideShapes Go.Proofs.Ytpepomnkoghjpaa.Nam Go.Proofs.Ytpepomnkoghjpaa.Lat

/-- The cells of a type: what stands at it; its slice of parts. -/
def hdT (w : World) (cs : List Value) (h : TH) (v : Value) : Prop :=
  ∃ nv, cs = [.int .i64 h.kind, .int .i64 h.at_, .int .i64 h.lo, .int .i64 h.hi, .int .i64 h.most, nv, v, .string h.name, .int .i64 h.nat] ∧ RdW w nv h.names
/-- The cells of a part ahead of its type. -/
def plT (w : World) (cs : List Value) (p : PH) : Prop :=
  ∃ lv cv, cs = [.string p.name, .int .i64 p.at_, .bool p.bare, lv, .int .i64 p.wide, .int .i64 p.ck, .int .i64 p.cn, .int .i64 p.cat, cv] ∧ RdW w lv p.label ∧ RdW w cv p.cl
theorem hdT.kp {w w' : World} {cs : List Value} {h : TH} {v : Value} (q : Kp w w') (x : hdT w cs h v) : hdT w' cs h v := by
  obtain ⟨nv, e, r⟩ := x
  exact ⟨nv, e, r.kp q⟩
theorem plT.kp {w w' : World} {cs : List Value} {p : PH} (q : Kp w w') (x : plT w cs p) : plT w' cs p := by
  obtain ⟨lv, cv, e, r, s⟩ := x
  exact ⟨lv, cv, e, r.kp q, s.kp q⟩
abbrev RdP (w : World) (v : Value) (f : Ft) : Prop := RdSl 9 9 hdT plT w v f
/-- A type as a value: its names and its parts are slices. -/
abbrev tyV (h : TH) (nv pv : Value) : Value := .agg #[.int .i64 h.kind, .int .i64 h.at_, .int .i64 h.lo, .int .i64 h.hi, .int .i64 h.most, nv, pv, .string h.name, .int .i64 h.nat]
structure RdY (w : World) (h : TH) (f : Ft) (nv pv : Value) : Prop where
  n : RdW w nv h.names
  p : RdP w pv f
theorem RdY.kp {w w' : World} {h : TH} {f : Ft} {nv pv : Value} (q : Kp w w') (x : RdY w h f nv pv) : RdY w' h f nv pv := ⟨x.n.kp q, RdSl.kp (hd := hdT) (pl := plT) (fun _ _ _ _ _ q h => hdT.kp q h) (fun _ _ _ _ q h => plT.kp q h) q x.p⟩
theorem RdY.below {w w' : World} {h : TH} {f : Ft} {nv pv : Value} (x : RdY w h f nv pv) (b : Below w.heap.size w w') : RdY w' h f nv pv := x.kp (Kp.of_below b)
theorem RdY.node {w : World} {h : TH} {f : Ft} {ts : List Value} (x : RdNd 9 9 hdT plT w ts h f) : ∃ nv pv, ts = [.int .i64 h.kind, .int .i64 h.at_, .int .i64 h.lo, .int .i64 h.hi, .int .i64 h.most, nv, pv, .string h.name, .int .i64 h.nat] ∧ RdY w h f nv pv := by
  obtain ⟨-, v, ⟨nv, e, r⟩, s⟩ := x
  exact ⟨nv, v, e, r, s⟩
/-- A part that stands at an index. -/
theorem RdP.part {w : World} {A : Option Addr} {n c : Nat} {f : Ft} (h : RdP w (.slice A n c) f) {i : Nat} {p : PH} {x : TH} {kids rest : Ft} (e : f.drop i = .cons p x kids rest) :
    ∃ g o lv cv nv pv, A = some ⟨g, o, none⟩ ∧ g < w.heap.size ∧ RdW w lv p.label ∧ RdW w cv p.cl ∧ RdY w x kids nv pv ∧
      ∀ j v, [Value.string p.name, .int .i64 p.at_, .bool p.bare, lv, .int .i64 p.wide, .int .i64 p.ck, .int .i64 p.cn, .int .i64 p.cat, cv, .int .i64 x.kind, .int .i64 x.at_, .int .i64 x.lo, .int .i64 x.hi, .int .i64 x.most, nv, pv, .string x.name, .int .i64 x.nat][j]? = some v → w.cell? ⟨g, o + i * 18 + j, none⟩ = some v := by
  obtain ⟨g, o, rfl, hg, ps, ts, -, hc, ⟨lv, cv, rfl, hl, hv⟩, hn⟩ := h.at_ rfl e
  obtain ⟨nv, pv, rfl, hy⟩ := RdY.node hn
  exact ⟨g, o, lv, cv, nv, pv, rfl, hg, hl, hv, hy, hc⟩
theorem RdP.len {w : World} {A : Option Addr} {n c : Nat} {f : Ft} (h : RdP w (.slice A n c) f) : n = f.len ∧ n ≤ c := by
  obtain ⟨A', c', e, hn, -⟩ := h
  simp only [Value.slice.injEq] at e
  obtain ⟨-, rfl, rfl⟩ := e
  exact ⟨rfl, hn⟩
theorem RdP.sl {w : World} {v : Value} {f : Ft} (h : RdP w v f) : ∃ A c, v = .slice A f.len c ∧ f.len ≤ c := by
  obtain ⟨A, c, e, hn, -⟩ := h
  exact ⟨A, c, e, hn⟩
def I64 (x : Int) : Prop := -9223372036854775808 ≤ x ∧ x ≤ 9223372036854775807
def GoodH (h : TH) : Prop := I64 h.kind ∧ I64 h.at_ ∧ I64 h.lo ∧ I64 h.hi ∧ I64 h.most ∧ (∀ x ∈ h.names, GoodW x) ∧ h.name.size ≤ maxLen ∧ I64 h.nat ∧ h.names.length ≤ maxLen
def GoodL (p : PH) : Prop := p.name.size ≤ maxLen ∧ I64 p.at_ ∧ (∀ x ∈ p.label, GoodW x) ∧ I64 p.wide ∧ I64 p.ck ∧ I64 p.cn ∧ I64 p.cat ∧ (∀ x ∈ p.cl, GoodW x) ∧ p.label.length ≤ maxLen ∧ p.cl.length ≤ maxLen
section
variable {G : Type} {enc' : TypeId × Value → G} {W : World} {bs : Nat}
theorem node_typ (f : Nat) (cs : List Value) (x : DataW G × List MemPlace) (hx : DataW.trod enc' Try.prog W bs (fun _ => true) true f 27 cs = some x) (hl : cs.length = 9) :
    ∃ h v f' y, hdT W cs h v ∧ GoodH h ∧ f' < f ∧ DataW.trod enc' Try.prog W bs (fun _ => true) true f' 23 [v] = some y := by
  obtain ⟨ys, m, rfl, -, -, hys, hf⟩ := DataW.trod_struct Try.underlying27 hx
  match ys, hys, cs, hl with
  | [y0, y1, y2, y3, y4, y5, y6, y7], _, [v0, v1, v2, v3, v4, v5, v6, v7, v8], _ =>
    have g0 := hf 0 _ rfl
    have g1 := hf 1 _ rfl
    have g2 := hf 2 _ rfl
    have g3 := hf 3 _ rfl
    have g4 := hf 4 _ rfl
    have g5 := hf 5 _ rfl
    have g6 := hf 6 _ rfl
    have g7 := hf 7 _ rfl
    have c3 : Try.prog.cellsOf 3 = 1 := by kernel_rfl
    have c5 : Try.prog.cellsOf 22 = 1 := by kernel_rfl
    have c6 : Try.prog.cellsOf 23 = 1 := by kernel_rfl
    have c7 : Try.prog.cellsOf 25 = 2 := by kernel_rfl
    have c9 : Try.prog.cellsOf 9 = 1 := by kernel_rfl
    simp [c3, c5, c6, c7] at g0 g1 g2 g3 g4 g5 g6 g7
    obtain ⟨n0, h0, -, w0⟩ := DataW.trod_int Try.underlying3 g0
    obtain ⟨n1, h1, -, w1⟩ := DataW.trod_int Try.underlying3 g1
    obtain ⟨n2, h2, -, w2⟩ := DataW.trod_int Try.underlying3 g2
    obtain ⟨n3, h3, -, w3⟩ := DataW.trod_int Try.underlying3 g3
    obtain ⟨n4, h4, -, w4⟩ := DataW.trod_int Try.underlying3 g4
    obtain ⟨ns, rn, qn, ln⟩ := words_in g5
    obtain ⟨zs, m', rfl, -, -, hzs, hk⟩ := DataW.trod_struct Try.underlying25 g7
    match zs, hzs with
    | [z0, z1], _ =>
      have k0 := hk 0 _ rfl
      have k1 := hk 1 _ rfl
      simp [c3, c9] at k0 k1
      obtain ⟨s7, h7, -, w7⟩ := DataW.trod_string Try.underlying9 k0
      obtain ⟨n8, h8, -, w8⟩ := DataW.trod_int Try.underlying3 k1
      simp at h0 h1 h2 h3 h4 h7 h8
      subst h0 h1 h2 h3 h4 h7 h8
      exact ⟨⟨n0, n1, n2, n3, n4, ns, s7, n8⟩, v6, _, _, ⟨v5, rfl, rn⟩, ⟨wf64 w0, wf64 w1, wf64 w2, wf64 w3, wf64 w4, qn, w7, wf64 w8, ln⟩, Nat.lt_succ_self _, g6⟩
theorem elem_typ (f : Nat) (cs : List Value) (x : DataW G × List MemPlace) (hx : DataW.trod enc' Try.prog W bs (fun _ => true) true f 52 cs = some x) (hl : cs.length = 9 + 9) :
    ∃ l ps ts f' y, cs = ps ++ ts ∧ ps.length = 9 ∧ ts.length = 9 ∧ plT W ps l ∧ GoodL l ∧ f' ≤ f ∧ DataW.trod enc' Try.prog W bs (fun _ => true) true f' 27 ts = some y := by
  obtain ⟨ys, m, rfl, -, -, hys, hf⟩ := DataW.trod_struct Try.underlying52 hx
  match ys, hys, cs, hl with
  | [y0, y1, y2, y3, y4, y5], _, [v0, v1, v2, v3, v4, v5, v6, v7, v8, u0, u1, u2, u3, u4, u5, u6, u7, u8], _ =>
    have g0 := hf 0 _ rfl
    have g1 := hf 1 _ rfl
    have g2 := hf 2 _ rfl
    have g3 := hf 3 _ rfl
    have g4 := hf 4 _ rfl
    have g5 := hf 5 _ rfl
    have c3 : Try.prog.cellsOf 3 = 1 := by kernel_rfl
    have cb : Try.prog.cellsOf 4 = 1 := by kernel_rfl
    have c5 : Try.prog.cellsOf 22 = 1 := by kernel_rfl
    have c7 : Try.prog.cellsOf 25 = 2 := by kernel_rfl
    have c9 : Try.prog.cellsOf 9 = 1 := by kernel_rfl
    have cc : Try.prog.cellsOf 50 = 4 := by kernel_rfl
    have ct : Try.prog.cellsOf 27 = 9 := by kernel_rfl
    simp [c3, cb, c5, c7, cc, ct] at g0 g1 g2 g3 g4 g5
    obtain ⟨b1, h1, -⟩ := DataW.trod_bool Try.underlying4 g1
    obtain ⟨ls, rl, ql, ll⟩ := words_in g2
    obtain ⟨n3, h3, -, w3⟩ := DataW.trod_int Try.underlying3 g3
    obtain ⟨zs, m', -, -, -, hzs, hk⟩ := DataW.trod_struct Try.underlying25 g0
    obtain ⟨xs, m2, -, -, -, hxs, hc⟩ := DataW.trod_struct Try.underlying50 g4
    match zs, hzs, xs, hxs with
    | [z0, z1], _, [x0, x1, x2, x3], _ =>
      have k0 := hk 0 _ rfl
      have k1 := hk 1 _ rfl
      have j0 := hc 0 _ rfl
      have j1 := hc 1 _ rfl
      have j2 := hc 2 _ rfl
      have j3 := hc 3 _ rfl
      simp [c3, c5, c9] at k0 k1 j0 j1 j2 j3
      obtain ⟨s0, e0, -, q0⟩ := DataW.trod_string Try.underlying9 k0
      obtain ⟨n1, e1, -, q1⟩ := DataW.trod_int Try.underlying3 k1
      obtain ⟨c0, d0, -, r0⟩ := DataW.trod_int Try.underlying3 j0
      obtain ⟨c1, d1, -, r1⟩ := DataW.trod_int Try.underlying3 j1
      obtain ⟨c2, d2, -, r2⟩ := DataW.trod_int Try.underlying3 j2
      obtain ⟨ms, rm, qm, lm⟩ := words_in j3
      simp at h1 h3 e0 e1 d0 d1 d2
      subst h1 h3 e0 e1 d0 d1 d2
      exact ⟨⟨s0, n1, b1, ls, n3, c0, c1, c2, ms⟩, [_, _, _, _, _, _, _, _, _], _, _, _, rfl, rfl, rfl, ⟨v3, v8, rfl, rl, rm⟩, ⟨q0, wf64 q1, ql, wf64 w3, wf64 r0, wf64 r1, wf64 r2, qm, ll, lm⟩, Nat.le_succ _, g5⟩
theorem typ_in {f : Nat} {cs : List Value} {x : DataW G × List MemPlace} (hx : DataW.trod enc' Try.prog W bs (fun _ => true) true f 27 cs = some x) (hl : cs.length = 9) :
    ∃ h, GoodH h ∧ ∃ fo : Ft, fo.len ≤ maxLen ∧ RdNd 9 9 hdT plT W cs h fo ∧ fo.All GoodH GoodL :=
  arg_tree (k := 9) (pre := 9) (hd := hdT) (pl := plT) Try.underlying23 (by kernel_rfl) (by decide) GoodH GoodL node_typ elem_typ (f + 1) f (Nat.lt_succ_self f) cs x hx hl
end
/-- A type that came in: what stands at it, its parts; its two slices. -/
abbrev Ty := TH × Ft × Value × Value
theorem arg_typ {H : Type} {enc' : TypeId × Value → H} {W : World} {base : Nat} {v : Value} {d : DataW H} {p : List MemPlace} (hv : Value.okWide Try.prog W .any base 27 v)
    (h : DataW.Trod enc' Try.prog W 0 (fun _ => true) true 27 v d p) : ∃ q : Ty, v = tyV q.1 q.2.2.1 q.2.2.2 ∧ RdY W q.1 q.2.1 q.2.2.1 q.2.2.2 ∧ GoodH q.1 ∧ q.2.1.All GoodH GoodL ∧ q.2.1.len ≤ maxLen := by
  unfold Value.okWide at hv
  rw [Try.underlying27] at hv
  obtain ⟨cs, rfl, hs, ts, ht, -, hc⟩ := hv
  have c2 : Try.prog.cellsOf 27 = 9 := by kernel_rfl
  rw [c2] at hs
  obtain ⟨fuel, hf⟩ := h
  obtain ⟨l⟩ := cs
  obtain ⟨h, gh, fo, ln, hn, ga⟩ := typ_in (cs := l) hf (by simpa using hs)
  obtain ⟨nv, pv, e, hy⟩ := RdY.node hn
  subst e
  exact ⟨(h, fo, nv, pv), rfl, hy, gh, ga, ln⟩
end Go.Proofs.Ytpepomnkoghjpaa.Kin
