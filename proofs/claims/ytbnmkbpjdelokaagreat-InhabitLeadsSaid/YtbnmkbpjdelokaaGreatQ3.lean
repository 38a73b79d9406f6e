import Derived.Test.YtbnmkbpjdelokaaGreatQ2
import Derived.Test.YtbnmkbpjdelokaaGreatQ0
import Derived.Test.YtbnmkbpjdelokaaGreatQ1
import Derived.Deep.Cut
set_option linter.unusedVariables false
set_option maxRecDepth 100000
set_option maxHeartbeats 4000000
namespace Go.Proofs.YtbnmkbpjdelokaaGreat.Kin
open Go.RowKit Go.Lib Go.Deep Go.ChangeShapes Go.WideShapes Nam Lat
def hdT (w : World) (cs : List Value) (h : TH) (v : Value) : Prop :=
  ∃ nv, cs = [.int .i64 h.kind, .int .i64 h.at_, .int .i64 h.lo, .int .i64 h.hi, .int .i64 h.most, nv, v, .string h.name, .int .i64 h.nat] ∧ RdW w nv h.names
def plT (w : World) (cs : List Value) (p : PH) : Prop :=
  ∃ lv cv, cs = [.string p.name, .int .i64 p.at_, .bool p.bare, lv, .int .i64 p.wide, .int .i64 p.ck, .int .i64 p.cn, .int .i64 p.cat, cv] ∧ RdW w lv p.label ∧ RdW w cv p.cl
theorem hdT.kp {w w' : World} {cs : List Value} {h : TH} {v : Value} (q : Kp w w') (x : hdT w cs h v) : hdT w' cs h v := by
  obtain ⟨nv, e, r⟩ := x
  exact ⟨nv, e, r.kp q⟩
theorem plT.kp {w w' : World} {cs : List Value} {p : PH} (q : Kp w w') (x : plT w cs p) : plT w' cs p := by
  obtain ⟨lv, cv, e, r, s⟩ := x
  exact ⟨lv, cv, e, r.kp q, s.kp q⟩
abbrev RdP (w : World) (v : Value) (f : Ft) : Prop := RdSl 9 9 hdT plT w v f
abbrev tyV (h : TH) (nv pv : Value) : Value := .agg #[.int .i64 h.kind, .int .i64 h.at_, .int .i64 h.lo, .int .i64 h.hi, .int .i64 h.most, nv, pv, .string h.name, .int .i64 h.nat]
structure RdY (w : World) (h : TH) (f : Ft) (nv pv : Value) : Prop where
  n : RdW w nv h.names
  p : RdP w pv f
theorem RdY.kp {w w' : World} {h : TH} {f : Ft} {nv pv : Value} (q : Kp w w') (x : RdY w h f nv pv) : RdY w' h f nv pv := ⟨x.n.kp q, RdSl.kp (hd := hdT) (pl := plT) (fun _ _ _ _ _ q h => hdT.kp q h) (fun _ _ _ _ q h => plT.kp q h) q x.p⟩
theorem RdY.below {w w' : World} {h : TH} {f : Ft} {nv pv : Value} (x : RdY w h f nv pv) (b : Below w.heap.size w w') : RdY w' h f nv pv := x.kp (Kp.of_below b)
theorem RdY.node {w : World} {h : TH} {f : Ft} {ts : List Value} (x : RdNd 9 9 hdT plT w ts h f) : ∃ nv pv, ts = [.int .i64 h.kind, .int .i64 h.at_, .int .i64 h.lo, .int .i64 h.hi, .int .i64 h.most, nv, pv, .string h.name, .int .i64 h.nat] ∧ RdY w h f nv pv := by
  obtain ⟨-, v, ⟨nv, e, r⟩, s⟩ := x
  exact ⟨nv, v, e, r, s⟩
theorem RdP.part {w : World} {A : Option Addr} {n c : Nat} {f : Ft} (h : RdP w (.slice A n c) f) {i : Nat} {p : PH} {x : TH} {kids rest : Ft} (e : f.drop i = .cons p x kids rest) :
    ∃ g o lv cv nv pv, A = some ⟨g, o, none⟩ ∧ g < w.heap.size ∧ RdW w lv p.label ∧ RdW w cv p.cl ∧ RdY w x kids nv pv ∧
      ∀ j v, [Value.string p.name, .int .i64 p.at_, .bool p.bare, lv, .int .i64 p.wide, .int .i64 p.ck, .int .i64 p.cn, .int .i64 p.cat, cv, .int .i64 x.kind, .int .i64 x.at_, .int .i64 x.lo, .int .i64 x.hi, .int .i64 x.most, nv, pv, .string x.name, .int .i64 x.nat][j]? = some v → w.cell? ⟨g, o + i * 18 + j, none⟩ = some v := by
  obtain ⟨g, o, rfl, hg, ps, ts, -, hc, ⟨lv, cv, rfl, hl, hv⟩, hn⟩ := h.at_ rfl e
  obtain ⟨nv, pv, rfl, hy⟩ := RdY.node hn
  exact ⟨g, o, lv, cv, nv, pv, rfl, hg, hl, hv, hy, hc⟩
theorem RdP.sl {w : World} {v : Value} {f : Ft} (h : RdP w v f) : ∃ A c, v = .slice A f.len c ∧ f.len ≤ c := by
  obtain ⟨A, c, e, hn, -⟩ := h
  exact ⟨A, c, e, hn⟩
def I64 (x : Int) : Prop := -9223372036854775808 ≤ x ∧ x ≤ 9223372036854775807
def GoodH (h : TH) : Prop := I64 h.kind ∧ I64 h.at_ ∧ I64 h.lo ∧ I64 h.hi ∧ I64 h.most ∧ (∀ x ∈ h.names, GoodW x) ∧ h.name.size ≤ maxLen ∧ I64 h.nat ∧ h.names.length ≤ maxLen
def GoodL (p : PH) : Prop := p.name.size ≤ maxLen ∧ I64 p.at_ ∧ (∀ x ∈ p.label, GoodW x) ∧ I64 p.wide ∧ I64 p.ck ∧ I64 p.cn ∧ I64 p.cat ∧ (∀ x ∈ p.cl, GoodW x) ∧ p.label.length ≤ maxLen ∧ p.cl.length ≤ maxLen
section
variable {G : Type} {enc' : TypeId × Value → G} {W : World} {bs : Nat}
theorem node_typ (f : Nat) (cs : List Value) (x : DataW G × List MemPlace) (hx : DataW.trod enc' Tryz.prog W bs (fun _ => true) true f 29 cs = some x) (hl : cs.length = 9) :
    ∃ h v f' y, hdT W cs h v ∧ GoodH h ∧ f' < f ∧ DataW.trod enc' Tryz.prog W bs (fun _ => true) true f' 25 [v] = some y := by
  obtain ⟨ys, m, rfl, -, -, hys, hf⟩ := DataW.trod_struct Tryz.underlying29 hx
  match ys, hys, cs, hl with
  | [y0, y1, y2, y3, y4, y5, y6, y7], _, [v0, v1, v2, v3, v4, v5, v6, v7, v8], _ =>
    have g0 := hf 0 _ rfl
    have g1 := hf 1 _ rfl
    have g2 := hf 2 _ rfl
    have g3 := hf 3 _ rfl
    have g4 := hf 4 _ rfl
    have g5 := hf 5 _ rfl
    have g6 := hf 6 _ rfl
    have g7 := hf 7 _ rfl
    have c3 : Tryz.prog.cellsOf 3 = 1 := by kernel_rfl
    have c5 : Tryz.prog.cellsOf 22 = 1 := by kernel_rfl
    have c6 : Tryz.prog.cellsOf 25 = 1 := by kernel_rfl
    have c7 : Tryz.prog.cellsOf 27 = 2 := by kernel_rfl
    have c9 : Tryz.prog.cellsOf 9 = 1 := by kernel_rfl
    simp [c3, c5, c6, c7] at g0 g1 g2 g3 g4 g5 g6 g7
    obtain ⟨n0, h0, -, w0⟩ := DataW.trod_int Tryz.underlying3 g0
    obtain ⟨n1, h1, -, w1⟩ := DataW.trod_int Tryz.underlying3 g1
    obtain ⟨n2, h2, -, w2⟩ := DataW.trod_int Tryz.underlying3 g2
    obtain ⟨n3, h3, -, w3⟩ := DataW.trod_int Tryz.underlying3 g3
    obtain ⟨n4, h4, -, w4⟩ := DataW.trod_int Tryz.underlying3 g4
    obtain ⟨ns, rn, qn, ln⟩ := words_in g5
    obtain ⟨zs, m', rfl, -, -, hzs, hk⟩ := DataW.trod_struct Tryz.underlying27 g7
    match zs, hzs with
    | [z0, z1], _ =>
      have k0 := hk 0 _ rfl
      have k1 := hk 1 _ rfl
      simp [c3, c9] at k0 k1
      obtain ⟨s7, h7, -, w7⟩ := DataW.trod_string Tryz.underlying9 k0
      obtain ⟨n8, h8, -, w8⟩ := DataW.trod_int Tryz.underlying3 k1
      simp at h0 h1 h2 h3 h4 h7 h8
      subst h0 h1 h2 h3 h4 h7 h8
      exact ⟨⟨n0, n1, n2, n3, n4, ns, s7, n8⟩, v6, _, _, ⟨v5, rfl, rn⟩, ⟨wf64 w0, wf64 w1, wf64 w2, wf64 w3, wf64 w4, qn, w7, wf64 w8, ln⟩, Nat.lt_succ_self _, g6⟩
theorem elem_typ (f : Nat) (cs : List Value) (x : DataW G × List MemPlace) (hx : DataW.trod enc' Tryz.prog W bs (fun _ => true) true f 78 cs = some x) (hl : cs.length = 9 + 9) :
    ∃ l ps ts f' y, cs = ps ++ ts ∧ ps.length = 9 ∧ ts.length = 9 ∧ plT W ps l ∧ GoodL l ∧ f' ≤ f ∧ DataW.trod enc' Tryz.prog W bs (fun _ => true) true f' 29 ts = some y := by
  obtain ⟨ys, m, rfl, -, -, hys, hf⟩ := DataW.trod_struct Tryz.underlying78 hx
  match ys, hys, cs, hl with
  | [y0, y1, y2, y3, y4, y5], _, [v0, v1, v2, v3, v4, v5, v6, v7, v8, u0, u1, u2, u3, u4, u5, u6, u7, u8], _ =>
    have g0 := hf 0 _ rfl
    have g1 := hf 1 _ rfl
    have g2 := hf 2 _ rfl
    have g3 := hf 3 _ rfl
    have g4 := hf 4 _ rfl
    have g5 := hf 5 _ rfl
    have c3 : Tryz.prog.cellsOf 3 = 1 := by kernel_rfl
    have cb : Tryz.prog.cellsOf 4 = 1 := by kernel_rfl
    have c5 : Tryz.prog.cellsOf 22 = 1 := by kernel_rfl
    have c7 : Tryz.prog.cellsOf 27 = 2 := by kernel_rfl
    have c9 : Tryz.prog.cellsOf 9 = 1 := by kernel_rfl
    have cc : Tryz.prog.cellsOf 76 = 4 := by kernel_rfl
    have ct : Tryz.prog.cellsOf 29 = 9 := by kernel_rfl
    simp [c3, cb, c5, c7, cc, ct] at g0 g1 g2 g3 g4 g5
    obtain ⟨b1, h1, -⟩ := DataW.trod_bool Tryz.underlying4 g1
    obtain ⟨ls, rl, ql, ll⟩ := words_in g2
    obtain ⟨n3, h3, -, w3⟩ := DataW.trod_int Tryz.underlying3 g3
    obtain ⟨zs, m', -, -, -, hzs, hk⟩ := DataW.trod_struct Tryz.underlying27 g0
    obtain ⟨xs, m2, -, -, -, hxs, hc⟩ := DataW.trod_struct Tryz.underlying76 g4
    match zs, hzs, xs, hxs with
    | [z0, z1], _, [x0, x1, x2, x3], _ =>
      have k0 := hk 0 _ rfl
      have k1 := hk 1 _ rfl
      have j0 := hc 0 _ rfl
      have j1 := hc 1 _ rfl
      have j2 := hc 2 _ rfl
      have j3 := hc 3 _ rfl
      simp [c3, c5, c9] at k0 k1 j0 j1 j2 j3
      obtain ⟨s0, e0, -, q0⟩ := DataW.trod_string Tryz.underlying9 k0
      obtain ⟨n1, e1, -, q1⟩ := DataW.trod_int Tryz.underlying3 k1
      obtain ⟨c0, d0, -, r0⟩ := DataW.trod_int Tryz.underlying3 j0
      obtain ⟨c1, d1, -, r1⟩ := DataW.trod_int Tryz.underlying3 j1
      obtain ⟨c2, d2, -, r2⟩ := DataW.trod_int Tryz.underlying3 j2
      obtain ⟨ms, rm, qm, lm⟩ := words_in j3
      simp at h1 h3 e0 e1 d0 d1 d2
      subst h1 h3 e0 e1 d0 d1 d2
      exact ⟨⟨s0, n1, b1, ls, n3, c0, c1, c2, ms⟩, [_, _, _, _, _, _, _, _, _], _, _, _, rfl, rfl, rfl, ⟨v3, v8, rfl, rl, rm⟩, ⟨q0, wf64 q1, ql, wf64 w3, wf64 r0, wf64 r1, wf64 r2, qm, ll, lm⟩, Nat.le_succ _, g5⟩
theorem typ_in {f : Nat} {cs : List Value} {x : DataW G × List MemPlace} (hx : DataW.trod enc' Tryz.prog W bs (fun _ => true) true f 29 cs = some x) (hl : cs.length = 9) :
    ∃ h, GoodH h ∧ ∃ fo : Ft, fo.len ≤ maxLen ∧ RdNd 9 9 hdT plT W cs h fo ∧ fo.All GoodH GoodL :=
  arg_tree (k := 9) (pre := 9) (hd := hdT) (pl := plT) Tryz.underlying25 (by kernel_rfl) (by decide) GoodH GoodL node_typ elem_typ (f + 1) f (Nat.lt_succ_self f) cs x hx hl
end
abbrev Ty := TH × Ft × Value × Value
end Go.Proofs.YtbnmkbpjdelokaaGreat.Kin
namespace Go.Proofs.YtbnmkbpjdelokaaGreat
open Go.RowKit Go.Lib
structure BW (W : World) where
  w : World
  b : Below W.heap.size W w
instance (W : World) : Nonempty (BW W) := ⟨⟨W, Below.refl _ _⟩⟩
theorem BW.cell {W : World} (x : BW W) {g o : Nat} (h : g < W.heap.size) {u : Value} (hc : W.cell? ⟨g, o, none⟩ = some u) : x.w.cell? ⟨g, o, none⟩ = some u := (x.b.cell (p := ⟨g, o, none⟩) h).trans hc
end Go.Proofs.YtbnmkbpjdelokaaGreat
namespace Go.Proofs.YtbnmkbpjdelokaaGreat.Nam
open Go.RowKit Go.Lib Utf
theorem isE_pos {s : ByteArray} (h : 0 < s.size) : s.toList.isEmpty = false := by
  have : s.toList.length = s.size := by rw [ba_toList]; simp
  cases e : s.toList with
  | nil => rw [e] at this; simp at this; omega
  | cons a l => rfl
theorem isE_nil {s : ByteArray} (h : s.size = 0) : s.toList.isEmpty = true := by
  have : s.toList.length = s.size := by rw [ba_toList]; simp
  cases e : s.toList with
  | nil => rfl
  | cons a l => rw [e] at this; simp at this; omega
theorem letter_calls (c : Nat) (w : World) (R : Ending → World → Prop) (hR : Hid (R (.returned (.bool (decide (isSmall c)))) w)) : Calls Tryz.prog 146 #[.int .u8 c] w R := by
  by_cases h1 : 97 ≤ c
  · by_cases h2 : c ≤ 122
    · rw [decide_eq_true (show isSmall c from ⟨h1, h2⟩)] at hR
      go_enter Tryz.func146, Tryz.ntmps146
      go_wp2_with fail
      exact retB hR.out (decide_eq_true (by omega)).symm
    · rw [decide_eq_false (show ¬ isSmall c from fun h => h2 h.2)] at hR
      go_enter Tryz.func146, Tryz.ntmps146
      go_wp2_with fail
      exact retB hR.out (decide_eq_false (by omega)).symm
  · rw [decide_eq_false (show ¬ isSmall c from fun h => h1 h.1)] at hR
    go_enter Tryz.func146, Tryz.ntmps146
    go_wp2_with fail
    exact hR.out
theorem sign_calls (c : Nat) (w : World) (R : Ending → World → Prop) (hR : Hid (R (.returned (.bool (decide (isSign c)))) w)) : Calls Tryz.prog 156 #[.int .u8 c] w R := by
  have cL := fun R hR => letter_calls c w R hR
  by_cases h0 : isSmall c
  · rw [decide_eq_true (show isSign c from .inl h0)] at hR
    rw [decide_eq_true h0] at cL
    replace cL := Lib.hid cL
    clear h0
    go_enter Tryz.func156, Tryz.ntmps156
    go_wp2_with fail
    refine cL.out _ (Lib.hid ?_)
    go_wp2_with fail
    exact hR.out
  · rw [decide_eq_false h0] at cL
    replace cL := Lib.hid cL
    by_cases h1 : 48 ≤ c
    · by_cases h2 : c ≤ 57
      · rw [decide_eq_true (show isSign c from .inr (.inr ⟨h1, h2⟩))] at hR
        clear h0
        go_enter Tryz.func156, Tryz.ntmps156
        go_wp2_with fail
        refine cL.out _ (Lib.hid ?_)
        go_wp2_with fail
        exact hR.out
      · by_cases h3 : c = 95
        · rw [decide_eq_true (show isSign c from .inr (.inl h3))] at hR
          subst h3
          clear h0
          go_enter Tryz.func156, Tryz.ntmps156
          go_wp2_with fail
          refine cL.out _ (Lib.hid ?_)
          go_wp2_with fail
          exact hR.out
        · rw [decide_eq_false (show ¬ isSign c from fun h => h.elim h0 (fun h => h.elim h3 (fun h => h2 h.2)))] at hR
          have h4 : ((c : Int) == 95) = false := by simp; omega
          have h5 : decide ((c : Int) ≤ 57) = false := decide_eq_false (by omega)
          clear h0
          go_enter Tryz.func156, Tryz.ntmps156
          go_wp2_with fail
          refine cL.out _ (Lib.hid ?_)
          go_wp2_with fail
          exact hR.out
    · have h3 : ¬ c = 95 := by omega
      rw [decide_eq_false (show ¬ isSign c from fun h => h.elim h0 (fun h => h.elim h3 (fun h => h1 h.1)))] at hR
      have h4 : ((c : Int) == 95) = false := by simp; omega
      clear h0
      go_enter Tryz.func156, Tryz.ntmps156
      go_wp2_with fail
      refine cL.out _ (Lib.hid ?_)
      go_wp2_with fail
      exact hR.out
theorem behind_calls (s : ByteArray) (k : Nat) (hk : k ≤ s.size) (hs : s.size ≤ maxLen) (w : World) (R : Ending → World → Prop)
    (hR : Hid (R (.returned (.int .i64 (k + runF s k : Nat))) w)) : Calls Tryz.prog 147 #[.string s, .int .i64 k] w R := by
  obtain ⟨V, hV⟩ : ∃ V, k + runF s k = V := ⟨_, rfl⟩
  rw [hV] at hR
  replace hs : s.size ≤ 9223372036854775807 := hs
  go_enter Tryz.func147, Tryz.ntmps147
  go_wp2_with fail
  go_loopg [1] (s.size - k) (fun g a wr => ∃ j : Nat, wr = w ∧ a = .int .i64 j ∧ j ≤ s.size ∧ g = s.size - j ∧ Hid (j + runF s j = V))
  case atStart => exact ⟨k, rfl, rfl, hk, rfl, Lib.hid hV⟩
  case round =>
    obtain ⟨j, rfl, rfl, c1, c2, c3⟩ := hrel
    have e := c3.out
    clear c3 hV
    by_cases hj : j < s.size
    · have hg := byN_get s j hj
      have hbl := byN_lt s j
      have cS := fun R hR => sign_calls (byN s j) wr R hR
      by_cases h1 : isSign (byN s j)
      · rw [runF_step hj h1] at e
        rw [decide_eq_true h1] at cS
        replace cS := Lib.hid cS
        clear h1
        generalize byN s j = c at *
        go_wp2_with fail
        refine cS.out _ (Lib.hid ?_)
        go_wp2_with fail
        go_roundg (gk - 1)
        case measure => omega
        case rel => exact ⟨j + 1, rfl, by go_num, by omega, by omega, Lib.hid (by omega)⟩
      · rw [runF_stop hj h1, Nat.add_zero] at e
        subst e
        rw [decide_eq_false h1] at cS
        replace cS := Lib.hid cS
        clear h1
        generalize byN s j = c at *
        go_wp2_with fail
        refine cS.out _ (Lib.hid ?_)
        go_wp2_with fail
        exact hR.out
    · rw [runF_end (by omega), Nat.add_zero] at e
      subst e
      go_wp2_with fail
      exact hR.out
def takS (s : ByteArray) (a : Int) : ByteArray × Int := if 0 ≤ a ∧ a < s.size then (s.extract a.toNat (a.toNat + sigS s a.toNat), (a.toNat + sigS s a.toNat : Nat)) else (⟨#[]⟩, 0)
theorem takS_nat {s : ByteArray} {k : Nat} (h : k < s.size) : takS s k = (s.extract k (k + sigS s k), ((k + sigS s k : Nat) : Int)) := by unfold takS; rw [if_pos (by omega)]; rfl
theorem take_calls (s : ByteArray) (a : Int) (hs : s.size ≤ maxLen) (w : World) (R : Ending → World → Prop)
    (hR : Hid (R (.returned (.tuple #[.string (takS s a).1, .int .i64 (takS s a).2])) w)) : Calls Tryz.prog 123 #[.string s, .int .i64 a] w R := by
  replace hs : s.size ≤ 9223372036854775807 := hs
  by_cases h0 : a < 0
  · unfold takS at hR
    rw [if_neg (by omega)] at hR
    simp only at hR
    go_enter Tryz.func123, Tryz.ntmps123
    go_wp2_with fail
    exact hR.out
  · by_cases h1 : (s.size : Int) ≤ a
    · unfold takS at hR
      rw [if_neg (by omega)] at hR
      simp only at hR
      go_enter Tryz.func123, Tryz.ntmps123
      go_wp2_with fail
      exact hR.out
    · obtain ⟨k, rfl⟩ : ∃ k : Nat, a = k := ⟨a.toNat, by omega⟩
      have hk : k < s.size := by omega
      rw [takS_nat hk] at hR
      simp only at hR
      have hg := byN_get s k hk
      have hb := byN_lt s k
      have cL := fun R hR => letter_calls (byN s k) w R hR
      have cB := Lib.hid fun R hR => behind_calls s k (by omega) hs w R hR
      have hl := sig_len hk
      by_cases h2 : isSmall (byN s k)
      · have e : sigS s k = runF s k := by unfold sigS; rw [if_pos ⟨hk, h2⟩]
        rw [e] at hR hl
        rw [decide_eq_true h2] at cL
        replace cL := Lib.hid cL
        clear h2 e
        generalize byN s k = c at *
        generalize runF s k = m at *
        go_enter Tryz.func123, Tryz.ntmps123
        go_wp2_with fail
        refine cL.out _ (Lib.hid ?_)
        go_wp2_with fail
        refine cB.out _ (Lib.hid ?_)
        go_wp2_with fail
        exact hR.out
      · have e : sigS s k = 0 := by unfold sigS; rw [if_neg (fun h => h2 h.2)]
        rw [e] at hR
        simp only [Nat.add_zero] at hR
        rw [show s.extract k k = ByteArray.empty from ByteArray.extract_same] at hR
        rw [decide_eq_false h2] at cL
        replace cL := Lib.hid cL
        clear h2 e hl cB
        generalize byN s k = c at *
        go_enter Tryz.func123, Tryz.ntmps123
        go_wp2_with fail
        refine cL.out _ (Lib.hid ?_)
        go_wp2_with fail
        exact hR.out
theorem right_calls (s : ByteArray) (hs : s.size ≤ maxLen) (w : World) (R : Ending → World → Prop) (hR : Hid (R (.returned (.bool (rightS s))) w)) : Calls Tryz.prog 81 #[.string s] w R := by
  have cT := fun R hR => take_calls s 0 hs w R hR
  replace hs : s.size ≤ 9223372036854775807 := hs
  unfold rightS at hR
  by_cases h0 : 0 < s.size
  · have hl := sig_len h0
    rw [show takS s 0 = takS s (0 : Nat) from rfl, takS_nat h0] at cT
    simp only at cT
    have hz : (s.extract 0 (0 + sigS s 0)).size = sigS s 0 := by rw [ByteArray.size_extract]; omega
    generalize sigS s 0 = m at *
    generalize s.extract 0 (0 + m) = n at *
    replace cT := Lib.hid cT
    by_cases h1 : 0 < m
    · have hE := isE_pos (s := n) (by omega)
      by_cases h2 : m = s.size
      · by_cases h3 : s.size ≤ 32
        · rw [decide_eq_true ⟨h0, h3, h2⟩] at hR
          subst h2
          have e : ((n.size : Int) == (s.size : Int)) = true := by simp; omega
          go_enter Tryz.func81, Tryz.ntmps81
          go_wp2_with fail
          refine cT.out _ (Lib.hid ?_)
          go_wp2_with fail
          exact retB hR.out (decide_eq_true (by omega)).symm
        · rw [decide_eq_false (fun h => h3 h.2.1)] at hR
          subst h2
          have e : ((n.size : Int) == (s.size : Int)) = true := by simp; omega
          go_enter Tryz.func81, Tryz.ntmps81
          go_wp2_with fail
          refine cT.out _ (Lib.hid ?_)
          go_wp2_with fail
          exact retB hR.out (decide_eq_false (by omega)).symm
      · rw [decide_eq_false (fun h => h2 h.2.2)] at hR
        have e : ((n.size : Int) == (s.size : Int)) = false := by simp; omega
        go_enter Tryz.func81, Tryz.ntmps81
        go_wp2_with fail
        refine cT.out _ (Lib.hid ?_)
        go_wp2_with fail
        exact hR.out
    · have hE := isE_nil (s := n) (by omega)
      rw [decide_eq_false (fun h => by omega)] at hR
      go_enter Tryz.func81, Tryz.ntmps81
      go_wp2_with fail
      refine cT.out _ (Lib.hid ?_)
      go_wp2_with fail
      exact hR.out
  · rw [decide_eq_false (fun h => h0 h.1)] at hR
    unfold takS at cT
    rw [if_neg (by omega)] at cT
    simp only at cT
    replace cT := Lib.hid cT
    go_enter Tryz.func81, Tryz.ntmps81
    go_wp2_with fail
    refine cT.out _ (Lib.hid ?_)
    go_wp2_with fail
    exact hR.out
end Go.Proofs.YtbnmkbpjdelokaaGreat.Nam
namespace Go.Proofs.YtbnmkbpjdelokaaGreat.Kin
open Go.RowKit Go.Lib Utf Nam Lat
theorem sq_t {a b : ByteArray} (h : a = b) : (a.toList == b.toList) = true := by rw [h]; simp
theorem sq_f {a b : ByteArray} (h : a ≠ b) : (a.toList == b.toList) = false := by rw [bl_inj, decide_eq_false (fun e => h (bl_ext e))]
theorem nms_tail {a b : List Wr} (h : a.length = b.length) (i : Nat) (hi : i < a.length) : (nms (a.drop i) = nms (b.drop i)) ↔ ((wN a i).1 = (wN b i).1 ∧ nms (a.drop (i + 1)) = nms (b.drop (i + 1))) := by
  have ea : a.drop i = wN a i :: a.drop (i + 1) := by rw [wN_get hi]; exact List.drop_eq_getElem_cons hi
  have eb : b.drop i = wN b i :: b.drop (i + 1) := by rw [wN_get (by omega)]; exact List.drop_eq_getElem_cons (by omega)
  rw [ea, eb]
  simp [nms]
abbrev ptL (p : PH) (lv cv : Value) (h : TH) (nv pv : Value) : List Value := [.string p.name, .int .i64 p.at_, .bool p.bare, lv, .int .i64 p.wide, .int .i64 p.ck, .int .i64 p.cn, .int .i64 p.cat, cv, .int .i64 h.kind, .int .i64 h.at_, .int .i64 h.lo, .int .i64 h.hi, .int .i64 h.most, nv, pv, .string h.name, .int .i64 h.nat]
abbrev ptV (p : PH) (lv cv : Value) (h : TH) (nv pv : Value) : Value := .agg (ptL p lv cv h nv pv).toArray
structure PB (w : World) (B : Nat) (p : PH) (lv cv : Value) : Prop where
  lt : B < w.heap.size
  k2 : w.cell? ⟨B, 2, none⟩ = some (.bool p.bare)
  k3 : w.cell? ⟨B, 3, none⟩ = some lv
  k4 : w.cell? ⟨B, 4, none⟩ = some (.int .i64 p.wide)
  k5 : w.cell? ⟨B, 5, none⟩ = some (.int .i64 p.ck)
  k6 : w.cell? ⟨B, 6, none⟩ = some (.int .i64 p.cn)
  k8 : w.cell? ⟨B, 8, none⟩ = some cv
end Go.Proofs.YtbnmkbpjdelokaaGreat.Kin
namespace Go.Proofs.YtbnmkbpjdelokaaGreat
open Go.RowKit Go.Lib
section
variable {P : Program} {md : Region.Mode} {ops : Array Oper} {Q : Exit → Act → World → Prop} {C : World → Prop}
def YC (P : Program) (ops : Array Oper) (C : World → Prop) (o : Oper) (v : Value) (a : Act) : Prop :=
  (Region.wanted o (yielded ops a.tmps) = true ∧ ∀ w, C w → (execOp a.eval o).run P w = .ok (.value v) w) ∨ (Region.wanted o (yielded ops a.tmps) = false ∧ v = undef)
theorem YC.same {o : Oper} {v : Value} {a b : Act} (h : YC P ops C o v a) (he : execOp b.eval o = execOp a.eval o) (hw : Region.wanted o (yielded ops b.tmps) = Region.wanted o (yielded ops a.tmps)) : YC P ops C o v b := by
  unfold YC; rw [he, hw]; exact h
theorem wpOp_keep {j : Nat} {oj : Oper} (hj : ops[j]? = some oj) {Z : Act → Prop} {K : Act → World → Prop} {a : Act} {w : World} (hz : ∀ b : Act, b = a ∨ (∃ d, b = { a with defers := d :: a.defers }) → ∀ u, Z (b.put oj.dst u)) (h : wpOp P ops Q j K a w) :
    wpOp P ops Q j (fun b w' => Z b ∧ K b w') a w := by
  have z0 := hz a (.inl rfl)
  unfold wpOp at h ⊢
  simp only [hj] at h ⊢
  split
  · next hw =>
    rw [if_pos hw] at h
    refine h.imp (fun h => ?_) id
    unfold Oper.wp at h ⊢
    generalize (execOp a.eval oj).run P w = r at *
    cases r with
    | halt x w' => cases x <;> exact h
    | ok n w' =>
      cases n <;> simp only [Oper.upon] at h ⊢
      case value u => exact ⟨z0 u, h⟩
      case skip => exact ⟨z0 _, h⟩
      case defer d => exact ⟨hz _ (.inr ⟨d, rfl⟩) _, h⟩
      case enter f args => exact Calls.mono h fun e w'' he => by cases e <;> first | exact ⟨z0 _, he⟩ | exact he
      case row r args => exact Rows.mono h fun u w'' he => ⟨z0 _, he⟩
  · next hw =>
    rw [if_neg hw] at h
    exact ⟨z0 _, h⟩
theorem wpOp_behind {j : Nat} {oi oj : Oper} {v : Value} (hj : ops[j]? = some oj) (hap : oi.apart ops oj = true) (hsi : ∀ cs b, oi.op ≠ .select cs b) (hsj : ∀ cs b, oj.op ≠ .select cs b)
    (hQ : ∀ c a w, Q (.panic c) (a.put oi.dst v) w → Q (.panic c) a w) {K : Act → World → Prop} {a : Act} {w : World} (hy : YC P ops C oi v a) (h : wpOp P ops Q j K (a.put oi.dst v) w) :
    wpOp P ops Q j (fun b w' => YC P ops C oi v b ∧ K (b.put oi.dst v) w') a w := by
  obtain ⟨h1, h2, h3⟩ := Oper.apart_spec hap
  let ok : Oper := { oi with op := .assign (.const v), guard := none }
  have hap' : ok.apart ops oj = true := by
    unfold Oper.apart at hap ⊢
    rw [Bool.and_eq_true] at hap ⊢
    refine ⟨hap.1, ?_⟩
    cases hd : oj.dst with
    | none => rfl
    | some d => simp [ok, Oper.looksAt, Op.operands]
  have hyk : Yields P ops ok v a := .inl ⟨by simp [ok, Region.wanted], fun w => by simp [ok, execOp, Act.eval, Sem.run_pure]⟩
  have := wpOp_put (oi := ok) hj hap' (fun cs b => by simp [ok]) hsj hQ hyk h
  refine wpOp_keep hj (fun b hb u => ?_) (wpOp_mono (fun b w' hb => hb.2) this)
  rcases hb with rfl | ⟨d, rfl⟩
  · exact hy.same (execOp_put oi hsi _ _ u h3) (wanted_put oi _ _ u h3)
  · exact (hy.same rfl rfl : YC P ops C oi v _).same (execOp_put oi hsi _ _ u h3) (wanted_put oi _ _ u h3)
theorem YC.wpOp {i : Nat} {o : Oper} {v : Value} {a : Act} {w : World} (hi : ops[i]? = some o) (hy : YC P ops C o v a) (hw : C w) {K : Act → World → Prop} (h : K (a.put o.dst v) w) : wpOp P ops Q i K a w := by
  unfold Go.wpOp
  simp only [hi]
  rcases hy with ⟨hg, hv⟩ | ⟨hg, rfl⟩
  · rw [if_pos hg]
    exact .inl (by unfold Oper.wp; rw [hv w hw]; exact h)
  · rw [if_neg (by rw [hg]; exact Bool.false_ne_true)]
    exact h
def anyC (P : Program) (md : Region.Mode) (ops : Array Oper) (C : World → Prop) (Q : Exit → Act → World → Prop) : Nat → Array Bool → Act → World → Prop
  | 0, l, a, w => Region.ready md ops l = [] ∧ Q .normal a w
  | f + 1, l, a, w => (Region.ready md ops l = [] → Q .normal a w) ∧ ∀ i ∈ Region.ready md ops l, wpOp P ops Q i (fun b w' => C w' ∧ anyC P md ops C Q f (l.setIfInBounds i true) b w') a w
def stillB (o : Oper) : Bool := match o.op with
  | .move _ | .assign _ | .pick _ _ _ | .load _ _ | .binOp _ _ _ _ _ | .unOp _ _ _ | .indexAddr _ _ _ | .fieldAddr _ _ _ | .build _ _ | .extract _ _ | .field _ _ _ => true
  | _ => false
theorem still_value {o : Oper} (h : stillB o = true) {ρ : Operand → Value} {w w' : World} {n : Next} (hr : (execOp ρ o).run P w = .ok n w') : ∃ u, n = .value u := by
  have key : ∀ {α : Type} (m : Sem α) (g : α → Value) {w w' : World} {n : Next}, (do pure (Next.value (g (← m))) : Sem Next).run P w = .ok n w' → ∃ u, n = .value u := fun m g w w' n h => by
    rw [Sem.run_bind] at h
    cases hm : m.run P w with
    | ok u w1 => rw [hm] at h; simp [Result.andThen, Sem.run_pure] at h; exact ⟨_, h.1.symm⟩
    | halt x w1 => rw [hm] at h; simp [Result.andThen] at h
  unfold stillB at h
  unfold execOp at hr
  cases hop : o.op <;> simp only [hop] at h hr <;> first
    | exact key _ _ hr
    | (simp only [Sem.run_pure] at hr; cases hr; exact ⟨_, rfl⟩)
    | cases h
def pickO (ops : Array Oper) (l : List Nat) : List Oper := l.filterMap (ops[·]?)
def quietB (md : Region.Mode) (ops : Array Oper) : List Nat → Array Bool → Option (Array Bool)
  | [], l => some l
  | i :: qs, l => match ops[i]? with
    | none => none
    | some o => if (Region.ready md ops l).contains i && Region.free md ops l i && stillB o then quietB md ops qs (l.setIfInBounds i true) else none
def mixP (P : Program) (ops : Array Oper) (C : World → Prop) (Q : Exit → Act → World → Prop) : List (List Nat × Nat) → List Nat → Act → World → Prop
  | [], last, a, w => wpQuiet P ops C (fun b => Q .normal b w) (pickO ops last) a
  | (qs, k) :: rest, last, a, w => wpQuiet P ops C (fun b => wpOp P ops Q k (fun b' w' => C w' ∧ mixP P ops C Q rest last b' w') b w) (pickO ops qs) a
def mixB (md : Region.Mode) (ops : Array Oper) : List (List Nat × Nat) → List Nat → Array Bool → Bool
  | [], last, l => match quietB md ops last l with
    | some l' => (Region.ready md ops l').isEmpty
    | none => false
  | (qs, k) :: rest, last, l => match quietB md ops qs l with
    | some l' => decide (Region.ready md ops l' = [k]) && mixB md ops rest last (l'.setIfInBounds k true)
    | none => false
def mixN : List (List Nat × Nat) → List Nat → Nat
  | [], last => last.length
  | (qs, _) :: rest, last => qs.length + (mixN rest last + 1)
end
end Go.Proofs.YtbnmkbpjdelokaaGreat
