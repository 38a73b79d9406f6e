import Derived.Test.YtncijmodlhijoaaGreatQ2
import Derived.Test.YtncijmodlhijoaaGreatQ0
import Derived.Test.YtncijmodlhijoaaGreatQ1
import Derived.Deep.Cut
set_option linter.unusedVariables false
set_option maxRecDepth 100000
set_option maxHeartbeats 4000000
namespace Go.Proofs.YtncijmodlhijoaaGreat.Kin
open Go.RowKit Go.Lib Go.Deep Go.ChangeShapes Go.WideShapes Nam Lat
def hdT (w : World) (cs : List Value) (h : TH) (v : Value) : Prop :=
  ∃ nv, cs = [.int .i64 h.kind, .int .i64 h.at_, .int .i64 h.lo, .int .i64 h.hi, .int .i64 h.most, nv, v, .string h.name, .int .i64 h.nat] ∧ RdW w nv h.names
def plT (w : World) (cs : List Value) (p : PH) : Prop :=
  ∃ lv cv, cs = [.string p.name, .int .i64 p.at_, .bool p.bare, lv, .int .i64 p.wide, .int .i64 p.ck, .int .i64 p.cn, .int .i64 p.cat, cv] ∧ RdW w lv p.label ∧ RdW w cv p.cl
theorem hdT.kp {w w' : World} {cs : List Value} {h : TH} {v : Value} (q : Kp w w') (x : hdT w cs h v) : hdT w' cs h v := by
  obtain ⟨nv, e, r⟩ := x
  exact ⟨nv, e, r.kp q⟩
theorem plT.kp {w w' : World} {cs : List Value} {p : PH} (q : Kp w w') (x : plT w cs p) : plT w' cs p := by
  obtain ⟨lv, cv, e, r, s⟩ := x
  exact ⟨lv, cv, e, r.kp q, s.kp q⟩
abbrev RdP (w : World) (v : Value) (f : Ft) : Prop := RdSl 9 9 hdT plT w v f
abbrev tyV (h : TH) (nv pv : Value) : Value := .agg #[.int .i64 h.kind, .int .i64 h.at_, .int .i64 h.lo, .int .i64 h.hi, .int .i64 h.most, nv, pv, .string h.name, .int .i64 h.nat]
structure RdY (w : World) (h : TH) (f : Ft) (nv pv : Value) : Prop where
  n : RdW w nv h.names
  p : RdP w pv f
theorem RdY.kp {w w' : World} {h : TH} {f : Ft} {nv pv : Value} (q : Kp w w') (x : RdY w h f nv pv) : RdY w' h f nv pv := ⟨x.n.kp q, RdSl.kp (hd := hdT) (pl := plT) (fun _ _ _ _ _ q h => hdT.kp q h) (fun _ _ _ _ q h => plT.kp q h) q x.p⟩
theorem RdY.below {w w' : World} {h : TH} {f : Ft} {nv pv : Value} (x : RdY w h f nv pv) (b : Below w.heap.size w w') : RdY w' h f nv pv := x.kp (Kp.of_below b)
theorem RdY.node {w : World} {h : TH} {f : Ft} {ts : List Value} (x : RdNd 9 9 hdT plT w ts h f) : ∃ nv pv, ts = [.int .i64 h.kind, .int .i64 h.at_, .int .i64 h.lo, .int .i64 h.hi, .int .i64 h.most, nv, pv, .string h.name, .int .i64 h.nat] ∧ RdY w h f nv pv := by
  obtain ⟨-, v, ⟨nv, e, r⟩, s⟩ := x
  exact ⟨nv, v, e, r, s⟩
theorem RdP.part {w : World} {A : Option Addr} {n c : Nat} {f : Ft} (h : RdP w (.slice A n c) f) {i : Nat} {p : PH} {x : TH} {kids rest : Ft} (e : f.drop i = .cons p x kids rest) :
    ∃ g o lv cv nv pv, A = some ⟨g, o, none⟩ ∧ g < w.heap.size ∧ RdW w lv p.label ∧ RdW w cv p.cl ∧ RdY w x kids nv pv ∧
      ∀ j v, [Value.string p.name, .int .i64 p.at_, .bool p.bare, lv, .int .i64 p.wide, .int .i64 p.ck, .int .i64 p.cn, .int .i64 p.cat, cv, .int .i64 x.kind, .int .i64 x.at_, .int .i64 x.lo, .int .i64 x.hi, .int .i64 x.most, nv, pv, .string x.name, .int .i64 x.nat][j]? = some v → w.cell? ⟨g, o + i * 18 + j, none⟩ = some v := by
  obtain ⟨g, o, rfl, hg, ps, ts, -, hc, ⟨lv, cv, rfl, hl, hv⟩, hn⟩ := h.at_ rfl e
  obtain ⟨nv, pv, rfl, hy⟩ := RdY.node hn
  exact ⟨g, o, lv, cv, nv, pv, rfl, hg, hl, hv, hy, hc⟩
theorem RdP.sl {w : World} {v : Value} {f : Ft} (h : RdP w v f) : ∃ A c, v = .slice A f.len c ∧ f.len ≤ c := by
  obtain ⟨A, c, e, hn, -⟩ := h
  exact ⟨A, c, e, hn⟩
def I64 (x : Int) : Prop := -9223372036854775808 ≤ x ∧ x ≤ 9223372036854775807
def GoodH (h : TH) : Prop := I64 h.kind ∧ I64 h.at_ ∧ I64 h.lo ∧ I64 h.hi ∧ I64 h.most ∧ (∀ x ∈ h.names, GoodW x) ∧ h.name.size ≤ maxLen ∧ I64 h.nat ∧ h.names.length ≤ maxLen
def GoodL (p : PH) : Prop := p.name.size ≤ maxLen ∧ I64 p.at_ ∧ (∀ x ∈ p.label, GoodW x) ∧ I64 p.wide ∧ I64 p.ck ∧ I64 p.cn ∧ I64 p.cat ∧ (∀ x ∈ p.cl, GoodW x) ∧ p.label.length ≤ maxLen ∧ p.cl.length ≤ maxLen
section
variable {G : Type} {enc' : TypeId × Value → G} {W : World} {bs : Nat}
end
abbrev Ty := TH × Ft × Value × Value
end Go.Proofs.YtncijmodlhijoaaGreat.Kin
namespace Go.Proofs.YtncijmodlhijoaaGreat
open Go.RowKit Go.Lib
structure BW (W : World) where
  w : World
  b : Below W.heap.size W w
instance (W : World) : Nonempty (BW W) := ⟨⟨W, Below.refl _ _⟩⟩
theorem BW.cell {W : World} (x : BW W) {g o : Nat} (h : g < W.heap.size) {u : Value} (hc : W.cell? ⟨g, o, none⟩ = some u) : x.w.cell? ⟨g, o, none⟩ = some u := (x.b.cell (p := ⟨g, o, none⟩) h).trans hc
end Go.Proofs.YtncijmodlhijoaaGreat
namespace Go.Proofs.YtncijmodlhijoaaGreat.Nam
open Go.RowKit Go.Lib Utf
theorem isE_pos {s : ByteArray} (h : 0 < s.size) : s.toList.isEmpty = false := by
  have : s.toList.length = s.size := by rw [ba_toList]; simp
  cases e : s.toList with
  | nil => rw [e] at this; simp at this; omega
  | cons a l => rfl
theorem isE_nil {s : ByteArray} (h : s.size = 0) : s.toList.isEmpty = true := by
  have : s.toList.length = s.size := by rw [ba_toList]; simp
  cases e : s.toList with
  | nil => rfl
  | cons a l => rw [e] at this; simp at this; omega
theorem letter_calls (c : Nat) (w : World) (R : Ending → World → Prop) (hR : Hid (R (.returned (.bool (decide (isSmall c)))) w)) : Calls Tryz.prog 262 #[.int .u8 c] w R := by
  by_cases h1 : 97 ≤ c
  · by_cases h2 : c ≤ 122
    · rw [decide_eq_true (show isSmall c from ⟨h1, h2⟩)] at hR
      go_enter Tryz.func262, Tryz.ntmps262
      go_wp2_with fail
      exact retB hR.out (decide_eq_true (by omega)).symm
    · rw [decide_eq_false (show ¬ isSmall c from fun h => h2 h.2)] at hR
      go_enter Tryz.func262, Tryz.ntmps262
      go_wp2_with fail
      exact retB hR.out (decide_eq_false (by omega)).symm
  · rw [decide_eq_false (show ¬ isSmall c from fun h => h1 h.1)] at hR
    go_enter Tryz.func262, Tryz.ntmps262
    go_wp2_with fail
    exact hR.out
theorem sign_calls (c : Nat) (w : World) (R : Ending → World → Prop) (hR : Hid (R (.returned (.bool (decide (isSign c)))) w)) : Calls Tryz.prog 300 #[.int .u8 c] w R := by
  have cL := fun R hR => letter_calls c w R hR
  by_cases h0 : isSmall c
  · rw [decide_eq_true (show isSign c from .inl h0)] at hR
    rw [decide_eq_true h0] at cL
    replace cL := Lib.hid cL
    clear h0
    go_enter Tryz.func300, Tryz.ntmps300
    go_wp2_with fail
    refine cL.out _ (Lib.hid ?_)
    go_wp2_with fail
    exact hR.out
  · rw [decide_eq_false h0] at cL
    replace cL := Lib.hid cL
    by_cases h1 : 48 ≤ c
    · by_cases h2 : c ≤ 57
      · rw [decide_eq_true (show isSign c from .inr (.inr ⟨h1, h2⟩))] at hR
        clear h0
        go_enter Tryz.func300, Tryz.ntmps300
        go_wp2_with fail
        refine cL.out _ (Lib.hid ?_)
        go_wp2_with fail
        exact hR.out
      · by_cases h3 : c = 95
        · rw [decide_eq_true (show isSign c from .inr (.inl h3))] at hR
          subst h3
          clear h0
          go_enter Tryz.func300, Tryz.ntmps300
          go_wp2_with fail
          refine cL.out _ (Lib.hid ?_)
          go_wp2_with fail
          exact hR.out
        · rw [decide_eq_false (show ¬ isSign c from fun h => h.elim h0 (fun h => h.elim h3 (fun h => h2 h.2)))] at hR
          have h4 : ((c : Int) == 95) = false := by simp; omega
          have h5 : decide ((c : Int) ≤ 57) = false := decide_eq_false (by omega)
          clear h0
          go_enter Tryz.func300, Tryz.ntmps300
          go_wp2_with fail
          refine cL.out _ (Lib.hid ?_)
          go_wp2_with fail
          exact hR.out
    · have h3 : ¬ c = 95 := by omega
      rw [decide_eq_false (show ¬ isSign c from fun h => h.elim h0 (fun h => h.elim h3 (fun h => h1 h.1)))] at hR
      have h4 : ((c : Int) == 95) = false := by simp; omega
      clear h0
      go_enter Tryz.func300, Tryz.ntmps300
      go_wp2_with fail
      refine cL.out _ (Lib.hid ?_)
      go_wp2_with fail
      exact hR.out
theorem behind_calls (s : ByteArray) (k : Nat) (hk : k ≤ s.size) (hs : s.size ≤ maxLen) (w : World) (R : Ending → World → Prop)
    (hR : Hid (R (.returned (.int .i64 (k + runF s k : Nat))) w)) : Calls Tryz.prog 263 #[.string s, .int .i64 k] w R := by
  obtain ⟨V, hV⟩ : ∃ V, k + runF s k = V := ⟨_, rfl⟩
  rw [hV] at hR
  replace hs : s.size ≤ 9223372036854775807 := hs
  go_enter Tryz.func263, Tryz.ntmps263
  go_wp2_with fail
  go_loopg [1] (s.size - k) (fun g a wr => ∃ j : Nat, wr = w ∧ a = .int .i64 j ∧ j ≤ s.size ∧ g = s.size - j ∧ Hid (j + runF s j = V))
  case atStart => exact ⟨k, rfl, rfl, hk, rfl, Lib.hid hV⟩
  case round =>
    obtain ⟨j, rfl, rfl, c1, c2, c3⟩ := hrel
    have e := c3.out
    clear c3 hV
    by_cases hj : j < s.size
    · have hg := byN_get s j hj
      have hbl := byN_lt s j
      have cS := fun R hR => sign_calls (byN s j) wr R hR
      by_cases h1 : isSign (byN s j)
      · rw [runF_step hj h1] at e
        rw [decide_eq_true h1] at cS
        replace cS := Lib.hid cS
        clear h1
        generalize byN s j = c at *
        go_wp2_with fail
        refine cS.out _ (Lib.hid ?_)
        go_wp2_with fail
        go_roundg (gk - 1)
        case measure => omega
        case rel => exact ⟨j + 1, rfl, by go_num, by omega, by omega, Lib.hid (by omega)⟩
      · rw [runF_stop hj h1, Nat.add_zero] at e
        subst e
        rw [decide_eq_false h1] at cS
        replace cS := Lib.hid cS
        clear h1
        generalize byN s j = c at *
        go_wp2_with fail
        refine cS.out _ (Lib.hid ?_)
        go_wp2_with fail
        exact hR.out
    · rw [runF_end (by omega), Nat.add_zero] at e
      subst e
      go_wp2_with fail
      exact hR.out
def takS (s : ByteArray) (a : Int) : ByteArray × Int := if 0 ≤ a ∧ a < s.size then (s.extract a.toNat (a.toNat + sigS s a.toNat), (a.toNat + sigS s a.toNat : Nat)) else (⟨#[]⟩, 0)
theorem takS_nat {s : ByteArray} {k : Nat} (h : k < s.size) : takS s k = (s.extract k (k + sigS s k), ((k + sigS s k : Nat) : Int)) := by unfold takS; rw [if_pos (by omega)]; rfl
theorem take_calls (s : ByteArray) (a : Int) (hs : s.size ≤ maxLen) (w : World) (R : Ending → World → Prop)
    (hR : Hid (R (.returned (.tuple #[.string (takS s a).1, .int .i64 (takS s a).2])) w)) : Calls Tryz.prog 193 #[.string s, .int .i64 a] w R := by
  replace hs : s.size ≤ 9223372036854775807 := hs
  by_cases h0 : a < 0
  · unfold takS at hR
    rw [if_neg (by omega)] at hR
    simp only at hR
    go_enter Tryz.func193, Tryz.ntmps193
    go_wp2_with fail
    exact hR.out
  · by_cases h1 : (s.size : Int) ≤ a
    · unfold takS at hR
      rw [if_neg (by omega)] at hR
      simp only at hR
      go_enter Tryz.func193, Tryz.ntmps193
      go_wp2_with fail
      exact hR.out
    · obtain ⟨k, rfl⟩ : ∃ k : Nat, a = k := ⟨a.toNat, by omega⟩
      have hk : k < s.size := by omega
      rw [takS_nat hk] at hR
      simp only at hR
      have hg := byN_get s k hk
      have hb := byN_lt s k
      have cL := fun R hR => letter_calls (byN s k) w R hR
      have cB := Lib.hid fun R hR => behind_calls s k (by omega) hs w R hR
      have hl := sig_len hk
      by_cases h2 : isSmall (byN s k)
      · have e : sigS s k = runF s k := by unfold sigS; rw [if_pos ⟨hk, h2⟩]
        rw [e] at hR hl
        rw [decide_eq_true h2] at cL
        replace cL := Lib.hid cL
        clear h2 e
        generalize byN s k = c at *
        generalize runF s k = m at *
        go_enter Tryz.func193, Tryz.ntmps193
        go_wp2_with fail
        refine cL.out _ (Lib.hid ?_)
        go_wp2_with fail
        refine cB.out _ (Lib.hid ?_)
        go_wp2_with fail
        exact hR.out
      · have e : sigS s k = 0 := by unfold sigS; rw [if_neg (fun h => h2 h.2)]
        rw [e] at hR
        simp only [Nat.add_zero] at hR
        rw [show s.extract k k = ByteArray.empty from ByteArray.extract_same] at hR
        rw [decide_eq_false h2] at cL
        replace cL := Lib.hid cL
        clear h2 e hl cB
        generalize byN s k = c at *
        go_enter Tryz.func193, Tryz.ntmps193
        go_wp2_with fail
        refine cL.out _ (Lib.hid ?_)
        go_wp2_with fail
        exact hR.out
theorem right_calls (s : ByteArray) (hs : s.size ≤ maxLen) (w : World) (R : Ending → World → Prop) (hR : Hid (R (.returned (.bool (rightS s))) w)) : Calls Tryz.prog 115 #[.string s] w R := by
  have cT := fun R hR => take_calls s 0 hs w R hR
  replace hs : s.size ≤ 9223372036854775807 := hs
  unfold rightS at hR
  by_cases h0 : 0 < s.size
  · have hl := sig_len h0
    rw [show takS s 0 = takS s (0 : Nat) from rfl, takS_nat h0] at cT
    simp only at cT
    have hz : (s.extract 0 (0 + sigS s 0)).size = sigS s 0 := by rw [ByteArray.size_extract]; omega
    generalize sigS s 0 = m at *
    generalize s.extract 0 (0 + m) = n at *
    replace cT := Lib.hid cT
    by_cases h1 : 0 < m
    · have hE := isE_pos (s := n) (by omega)
      by_cases h2 : m = s.size
      · by_cases h3 : s.size ≤ 32
        · rw [decide_eq_true ⟨h0, h3, h2⟩] at hR
          subst h2
          have e : ((n.size : Int) == (s.size : Int)) = true := by simp; omega
          go_enter Tryz.func115, Tryz.ntmps115
          go_wp2_with fail
          refine cT.out _ (Lib.hid ?_)
          go_wp2_with fail
          exact retB hR.out (decide_eq_true (by omega)).symm
        · rw [decide_eq_false (fun h => h3 h.2.1)] at hR
          subst h2
          have e : ((n.size : Int) == (s.size : Int)) = true := by simp; omega
          go_enter Tryz.func115, Tryz.ntmps115
          go_wp2_with fail
          refine cT.out _ (Lib.hid ?_)
          go_wp2_with fail
          exact retB hR.out (decide_eq_false (by omega)).symm
      · rw [decide_eq_false (fun h => h2 h.2.2)] at hR
        have e : ((n.size : Int) == (s.size : Int)) = false := by simp; omega
        go_enter Tryz.func115, Tryz.ntmps115
        go_wp2_with fail
        refine cT.out _ (Lib.hid ?_)
        go_wp2_with fail
        exact hR.out
    · have hE := isE_nil (s := n) (by omega)
      rw [decide_eq_false (fun h => by omega)] at hR
      go_enter Tryz.func115, Tryz.ntmps115
      go_wp2_with fail
      refine cT.out _ (Lib.hid ?_)
      go_wp2_with fail
      exact hR.out
  · rw [decide_eq_false (fun h => h0 h.1)] at hR
    unfold takS at cT
    rw [if_neg (by omega)] at cT
    simp only at cT
    replace cT := Lib.hid cT
    go_enter Tryz.func115, Tryz.ntmps115
    go_wp2_with fail
    refine cT.out _ (Lib.hid ?_)
    go_wp2_with fail
    exact hR.out
end Go.Proofs.YtncijmodlhijoaaGreat.Nam
namespace Go.Proofs.YtncijmodlhijoaaGreat.Kin
open Go.RowKit Go.Lib Utf Nam Lat
theorem sq_t {a b : ByteArray} (h : a = b) : (a.toList == b.toList) = true := by rw [h]; simp
theorem sq_f {a b : ByteArray} (h : a ≠ b) : (a.toList == b.toList) = false := by rw [bl_inj, decide_eq_false (fun e => h (bl_ext e))]
theorem nms_tail {a b : List Wr} (h : a.length = b.length) (i : Nat) (hi : i < a.length) : (nms (a.drop i) = nms (b.drop i)) ↔ ((wN a i).1 = (wN b i).1 ∧ nms (a.drop (i + 1)) = nms (b.drop (i + 1))) := by
  have ea : a.drop i = wN a i :: a.drop (i + 1) := by rw [wN_get hi]; exact List.drop_eq_getElem_cons hi
  have eb : b.drop i = wN b i :: b.drop (i + 1) := by rw [wN_get (by omega)]; exact List.drop_eq_getElem_cons (by omega)
  rw [ea, eb]
  simp [nms]
abbrev ptL (p : PH) (lv cv : Value) (h : TH) (nv pv : Value) : List Value := [.string p.name, .int .i64 p.at_, .bool p.bare, lv, .int .i64 p.wide, .int .i64 p.ck, .int .i64 p.cn, .int .i64 p.cat, cv, .int .i64 h.kind, .int .i64 h.at_, .int .i64 h.lo, .int .i64 h.hi, .int .i64 h.most, nv, pv, .string h.name, .int .i64 h.nat]
abbrev ptV (p : PH) (lv cv : Value) (h : TH) (nv pv : Value) : Value := .agg (ptL p lv cv h nv pv).toArray
structure PB (w : World) (B : Nat) (p : PH) (lv cv : Value) : Prop where
  lt : B < w.heap.size
  k2 : w.cell? ⟨B, 2, none⟩ = some (.bool p.bare)
  k3 : w.cell? ⟨B, 3, none⟩ = some lv
  k4 : w.cell? ⟨B, 4, none⟩ = some (.int .i64 p.wide)
  k5 : w.cell? ⟨B, 5, none⟩ = some (.int .i64 p.ck)
  k6 : w.cell? ⟨B, 6, none⟩ = some (.int .i64 p.cn)
  k8 : w.cell? ⟨B, 8, none⟩ = some cv
end Go.Proofs.YtncijmodlhijoaaGreat.Kin
