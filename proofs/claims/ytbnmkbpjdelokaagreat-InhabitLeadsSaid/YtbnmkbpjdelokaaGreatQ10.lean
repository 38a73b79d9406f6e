import Derived.Test.YtbnmkbpjdelokaaGreatQ7
import Derived.Test.YtbnmkbpjdelokaaGreatQ9
import Derived.Test.YtbnmkbpjdelokaaGreatQ1
import Derived.Lib.Bytealg
import Derived.Lib.Small
import Derived.Test.YtbnmkbpjdelokaaGreatProg
import Derived.Shelf.SlSortCmp.Whole1
import Derived.Shelf.SlSortCmp.NoneTotal
import Derived.Shelf.SlicesE.Clone
import Derived.Shelf.Spec.SearchS
import Derived.Shelf.Small.Strs
import Derived.Shelf.Small.Wraps
set_option linter.unusedVariables false
set_option maxRecDepth 100000
set_option maxHeartbeats 4000000
namespace Go.Proofs.YtbnmkbpjdelokaaGreat.Lat
open Go.RowKit Go.Lib Rel Nam
theorem faultat_calls (s : ByteArray) (z e : Int) (w : World) (R : Ending → World → Prop) (hR : Hid (∀ w', Below w.heap.size w w' → R (.returned (.agg #[.int .i64 e, .int .i64 z])) w')) : Calls Tryz.prog 76 #[.agg #[.string s, .int .i64 z], .int .i64 e] w R := by
  go_enter Tryz.func76, Tryz.ntmps76
  go_wp2_with fail
  refine bodyPost_ret (v := .agg #[.int .i64 e, .int .i64 z]) ?_ rfl (hR.out _ ?_)
  · simp [results, Tryz.results76, go_sem]
  · exact ((Below.refl _ _).alloc (Nat.le_refl _) _).alloc (by simp) _
structure Flt (w : World) (H : Nat) (W : World) : Prop where
  nb : Below H w W
  lt : H < W.heap.size
  c0 : W.cell? ⟨H, 0, none⟩ = some (.int .i64 0)
  c1 : W.cell? ⟨H, 1, none⟩ = some (.int .i64 0)
  f0 : W.frozen? ⟨H, 0, none⟩ = false
  f1 : W.frozen? ⟨H, 1, none⟩ = false
theorem Flt.new (w : World) : Flt w w.heap.size (w.alloc (.cells #[.int .i64 0, .int .i64 0] 37)) := by
  obtain ⟨c0, c1, f0, f1⟩ := fault_new w
  exact ⟨(Below.refl _ _).alloc (Nat.le_refl _) _, by simp, c0, c1, f0, f1⟩
theorem Flt.below {w W W' : World} {H : Nat} (h : Flt w H W) (hb : Below W.heap.size W W') : Flt w H W' :=
  ⟨h.nb.trans (hb.mono (Nat.le_of_lt h.lt)), Nat.lt_of_lt_of_le h.lt hb.size, (hb.cell (p := ⟨H, 0, none⟩) h.lt).trans h.c0, (hb.cell (p := ⟨H, 1, none⟩) h.lt).trans h.c1, (hb.frozen (p := ⟨H, 0, none⟩) h.lt).trans h.f0, (hb.frozen (p := ⟨H, 1, none⟩) h.lt).trans h.f1⟩
theorem Flt.told {w W : World} {H : Nat} (h : Flt w H W) (e z : Value) : Below H w ((W.setCell ⟨H, 0, none⟩ e).setCell ⟨H, 1, none⟩ z) ∧ ((W.setCell ⟨H, 0, none⟩ e).setCell ⟨H, 1, none⟩ z).cell? ⟨H, 0, none⟩ = some e ∧ ((W.setCell ⟨H, 0, none⟩ e).setCell ⟨H, 1, none⟩ z).cell? ⟨H, 1, none⟩ = some z :=
  ⟨(h.nb.setCell (p := ⟨H, 0, none⟩) (Nat.le_refl _) e).setCell (p := ⟨H, 1, none⟩) (Nat.le_refl _) z, st_fault H W e z h.c0 h.c1⟩
def cntS (ws : List Wr) (ps : List Pr) : Int × Int := if ws.length = 0 then (15, 0) else if 32 < ws.length then (8, (wN ws 32).2) else if 256 < ps.length then (8, (pN ps 256).1.2) else (0, 0)
theorem latcounts_calls (ws : List Wr) (ps : List Pr) (vw vp : Value) (w : World) (hw : RdW w vw ws) (hp : RdPr w vp ps) (R : Ending → World → Prop)
    (hR : Hid (∀ w', Below w.heap.size w w' → R (.returned (.agg #[.int .i64 (cntS ws ps).1, .int .i64 (cntS ws ps).2])) w')) : Calls Tryz.prog 70 #[vw, vp] w R := by
  obtain ⟨Aw, cw, rfl, hcw, hrw⟩ := hw.op
  obtain ⟨Ap, cp, rfl, hcp, hrp⟩ := hp.op
  have T := Flt.new w
  replace hrw := Lib.hid hrw
  replace hrp := Lib.hid hrp
  clear hw hp
  go_enter Tryz.func70, Tryz.ntmps70
  go_upto_region 1 with fail
  generalize w.alloc (.cells #[.int .i64 0, .int .i64 0] 37) = W0 at *
  generalize hHH : w.heap.size = H at *
  replace hHH := Lib.hid hHH
  by_cases h0 : ws.length = 0
  · have e : cntS ws ps = (15, 0) := if_pos h0
    rw [e] at hR
    obtain ⟨nf, s0, s1⟩ := T.told (.int .i64 15) (.int .i64 0)
    have c0 := T.c0
    have c1 := T.c1
    have f0 := T.f0
    have f1 := T.f1
    replace nf := Lib.hid nf
    replace s0 := Lib.hid s0
    replace s1 := Lib.hid s1
    clear T e
    go_wp2_with fail
    replace s0 := s0.out
    replace s1 := s1.out
    clear c0 c1 f0 f1
    generalize (W0.setCell ⟨H, 0, none⟩ _).setCell ⟨H, 1, none⟩ _ = Wz at *
    refine bodyPost_ret ?_ rfl (hR.out _ nf.out)
    simp [results, Tryz.results70, go_sem, s0, s1]
  by_cases h1 : 32 < ws.length
  · have e : cntS ws ps = (8, (wN ws 32).2) := by unfold cntS; rw [if_neg h0, if_pos h1]
    rw [e] at hR
    obtain ⟨g, o, rfl, hg, hca⟩ := hrw.out (by omega)
    obtain ⟨x0, x1⟩ := hca 32 h1
    have e0 := (T.nb.cell (p := ⟨g, o + 32 * 2, none⟩) (by have := hHH.out; simp only; omega)).trans x0
    have e1 := (T.nb.cell (p := ⟨g, o + 32 * 2 + 1, none⟩) (by have := hHH.out; simp only; omega)).trans x1
    clear hca x0 x1 e
    generalize (wN ws 32).1 = s at *
    generalize (wN ws 32).2 = z at *
    have i1 : (32 : Int) < (ws.length : Int) := by omega
    have i2 : 32 < ws.length := by omega
    replace T := Lib.hid T
    go_wp2_with fail
    refine faultat_calls s z 8 _ _ (Lib.hid fun w3 n3 => ?_)
    have T3 := T.out.below n3
    obtain ⟨nf, s0, s1⟩ := T3.told (.int .i64 8) (.int .i64 z)
    have c0 := T3.c0
    have c1 := T3.c1
    have f0 := T3.f0
    have f1 := T3.f1
    replace nf := Lib.hid nf
    replace s0 := Lib.hid s0
    replace s1 := Lib.hid s1
    clear T3 n3 T e0 e1
    go_wp2_with fail
    replace s0 := s0.out
    replace s1 := s1.out
    clear c0 c1 f0 f1
    generalize (w3.setCell ⟨H, 0, none⟩ _).setCell ⟨H, 1, none⟩ _ = Wz at *
    refine bodyPost_ret ?_ rfl (hR.out _ nf.out)
    simp [results, Tryz.results70, go_sem, s0, s1]
  by_cases h2 : 256 < ps.length
  · have e : cntS ws ps = (8, (pN ps 256).1.2) := by unfold cntS; rw [if_neg h0, if_neg h1, if_pos h2]
    rw [e] at hR
    obtain ⟨g, o, rfl, hg, hca⟩ := hrp.out (by omega)
    obtain ⟨x0, x1, -, -⟩ := hca 256 h2
    have e0 := (T.nb.cell (p := ⟨g, o + 256 * 4, none⟩) (by have := hHH.out; simp only; omega)).trans x0
    have e1 := (T.nb.cell (p := ⟨g, o + 256 * 4 + 1, none⟩) (by have := hHH.out; simp only; omega)).trans x1
    clear hca x0 x1 e
    generalize (pN ps 256).1.1 = s at *
    generalize (pN ps 256).1.2 = z at *
    have i1 : (256 : Int) < (ps.length : Int) := by omega
    have i2 : 256 < ps.length := by omega
    replace T := Lib.hid T
    go_wp2_with fail
    refine faultat_calls s z 8 _ _ (Lib.hid fun w3 n3 => ?_)
    have T3 := T.out.below n3
    obtain ⟨nf, s0, s1⟩ := T3.told (.int .i64 8) (.int .i64 z)
    have c0 := T3.c0
    have c1 := T3.c1
    have f0 := T3.f0
    have f1 := T3.f1
    replace nf := Lib.hid nf
    replace s0 := Lib.hid s0
    replace s1 := Lib.hid s1
    clear T3 n3 T e0 e1
    go_wp2_with fail
    replace s0 := s0.out
    replace s1 := s1.out
    clear c0 c1 f0 f1
    generalize (w3.setCell ⟨H, 0, none⟩ _).setCell ⟨H, 1, none⟩ _ = Wz at *
    refine bodyPost_ret ?_ rfl (hR.out _ nf.out)
    simp [results, Tryz.results70, go_sem, s0, s1]
  · have e : cntS ws ps = (0, 0) := by unfold cntS; rw [if_neg h0, if_neg h1, if_neg h2]
    rw [e] at hR
    obtain ⟨nf, s0, s1⟩ := T.told (.int .i64 0) (.int .i64 0)
    have c0 := T.c0
    have c1 := T.c1
    have f0 := T.f0
    have f1 := T.f1
    replace nf := Lib.hid nf
    replace s0 := Lib.hid s0
    replace s1 := Lib.hid s1
    clear T e
    go_wp2_with fail
    replace s0 := s0.out
    replace s1 := s1.out
    clear c0 c1 f0 f1
    generalize (W0.setCell ⟨H, 0, none⟩ _).setCell ⟨H, 1, none⟩ _ = Wz at *
    refine bodyPost_ret ?_ rfl (hR.out _ nf.out)
    simp [results, Tryz.results70, go_sem, s0, s1]
end Go.Proofs.YtbnmkbpjdelokaaGreat.Lat
namespace Go.Proofs.YtbnmkbpjdelokaaGreat.Nam
open Go.Lib Utf
theorem cmpB : ∀ (a b : List UInt8), (compareBytes a b < 0 ↔ Go.Op.bytesLess a b = true) ∧ (compareBytes a b = 0 ↔ a = b) ∧ -1 ≤ compareBytes a b ∧ compareBytes a b ≤ 1
  | [], [] => by simp [compareBytes, Go.Op.bytesLess]
  | [], b :: y => by simp [compareBytes, Go.Op.bytesLess]
  | a :: x, [] => by simp [compareBytes, Go.Op.bytesLess]
  | a :: x, b :: y => by
    have ih := cmpB x y
    rw [less_cons, compareBytes]
    simp only [UInt8.lt_iff_toNat_lt]
    by_cases h1 : a.toNat < b.toNat
    · rw [if_pos h1]
      refine ⟨⟨fun _ => .inl h1, fun _ => by omega⟩, ⟨fun h => by omega, fun h => ?_⟩, by omega, by omega⟩
      simp at h; rw [h.1] at h1; omega
    · rw [if_neg h1]
      by_cases h2 : b.toNat < a.toNat
      · rw [if_pos h2]
        refine ⟨⟨fun h => by omega, fun h => ?_⟩, ⟨fun h => by omega, fun h => ?_⟩, by omega, by omega⟩
        · rcases h with h | ⟨h, -⟩
          · omega
          · rw [h] at h2; omega
        · simp at h; rw [h.1] at h2; omega
      · rw [if_neg h2]
        have e : a = b := UInt8.toNat_inj.1 (by omega)
        subst e
        refine ⟨?_, ?_, ih.2.2⟩
        · rw [ih.1]
          exact ⟨fun h => .inr ⟨rfl, h⟩, fun h => h.elim (fun h => by omega) (fun h => h.2)⟩
        · rw [ih.2.1]; simp
def cmpS (a b : ByteArray) : Int := compareBytes a.data.toList b.data.toList
theorem cmpS_lt (a b : ByteArray) : cmpS a b < 0 ↔ lt a b = true := by
  unfold cmpS lt
  rw [(cmpB _ _).1, ba_toList, ba_toList]
theorem cmpS_eq (a b : ByteArray) : cmpS a b = 0 ↔ a = b := by
  unfold cmpS
  rw [(cmpB _ _).2.1]
  exact ⟨fun h => ByteArray.ext (Array.ext' h), fun h => by rw [h]⟩
def at_ (xs : List ByteArray) (i : Nat) : ByteArray := xs.getD i ByteArray.empty
theorem at_some {xs : List ByteArray} {i : Nat} (h : i < xs.length) : xs[i]? = some (at_ xs i) := by unfold at_; simp [List.getD, List.getElem?_eq_getElem h]
theorem at_get {xs : List ByteArray} {i : Nat} (h : i < xs.length) : at_ xs i = xs[i] := by unfold at_; simp [List.getD, List.getElem?_eq_getElem h]
theorem at_mem {ds : List ByteArray} {k : Nat} (h : k < ds.length) : at_ ds k ∈ ds := List.mem_of_getElem? (at_some h)
def bef (xs : List ByteArray) (i j : Nat) : Prop := lt (at_ xs i) (at_ xs j) = true ∨ (at_ xs i = at_ xs j ∧ i < j)
def cmpI (xs : List ByteArray) (i j : Nat) : Int := if cmpS (at_ xs i) (at_ xs j) = 0 then compareInt i j else cmpS (at_ xs i) (at_ xs j)
theorem cmpI_lt (xs : List ByteArray) (i j : Nat) : cmpI xs i j < 0 ↔ bef xs i j := by
  unfold cmpI bef
  by_cases h : cmpS (at_ xs i) (at_ xs j) = 0
  · rw [if_pos h]
    have h2 := (cmpS_eq _ _).1 h
    rw [h2, lt_irr]
    unfold compareInt
    constructor
    · intro q
      by_cases h3 : (i : Int) < j
      · exact .inr ⟨rfl, by omega⟩
      · rw [if_neg h3] at q; split at q <;> omega
    · rintro (q | ⟨-, q⟩)
      · cases q
      · rw [if_pos (by omega)]; omega
  · rw [if_neg h, cmpS_lt]
    exact ⟨.inl, fun q => q.elim id fun q => absurd ((cmpS_eq _ _).2 q.1) h⟩
theorem bef_irr (xs : List ByteArray) (i : Nat) : ¬ bef xs i i := by
  rintro (h | h)
  · rw [lt_irr] at h; cases h
  · omega
theorem bef_trans {xs : List ByteArray} {i j k : Nat} (h : bef xs i j) (g : bef xs j k) : bef xs i k := by
  rcases h with h | ⟨h1, h2⟩ <;> rcases g with g | ⟨g1, g2⟩
  · exact .inl (lt_trans h g)
  · exact .inl (g1 ▸ h)
  · exact .inl (h1 ▸ g)
  · exact .inr ⟨h1.trans g1, by omega⟩
theorem bef_tri {xs : List ByteArray} {i j : Nat} (h : ¬ bef xs i j) (g : ¬ bef xs j i) : i = j := by
  have h1 : lt (at_ xs i) (at_ xs j) = false := by
    cases e : lt (at_ xs i) (at_ xs j)
    · rfl
    · exact absurd (.inl e) h
  have h2 : lt (at_ xs j) (at_ xs i) = false := by
    cases e : lt (at_ xs j) (at_ xs i)
    · rfl
    · exact absurd (.inl e) g
  have e := lt_tri h1 h2
  rcases Nat.lt_trichotomy i j with q | q | q
  · exact absurd (.inr ⟨e, q⟩) h
  · exact q
  · exact absurd (.inr ⟨e.symm, q⟩) g
def Ixs (xs : List ByteArray) (ix : List Nat) : Prop := ix.Perm (List.range xs.length) ∧ ix.Pairwise (bef xs)
theorem Ixs.len {xs : List ByteArray} {ix : List Nat} (h : Ixs xs ix) : ix.length = xs.length := by rw [h.1.length_eq, List.length_range]
theorem Ixs.lt {xs : List ByteArray} {ix : List Nat} (h : Ixs xs ix) {k : Nat} (hk : k < ix.length) : ix.getD k 0 < xs.length := by
  have : ix.getD k 0 ∈ List.range xs.length := h.1.mem_iff.1 (by simp [List.getD, List.getElem?_eq_getElem hk])
  simpa using this
theorem Ixs.bef {xs : List ByteArray} {ix : List Nat} (h : Ixs xs ix) {a b : Nat} (hab : a < b) (hb : b < ix.length) : bef xs (ix.getD a 0) (ix.getD b 0) := by
  have := List.pairwise_iff_getElem.1 h.2 a b (by omega) hb hab
  simpa [List.getD, List.getElem?_eq_getElem hb, List.getElem?_eq_getElem (show a < ix.length by omega)] using this
theorem Ixs.pos {xs : List ByteArray} {ix : List Nat} (h : Ixs xs ix) {i : Nat} (hi : i < xs.length) : ∃ k, k < ix.length ∧ ix.getD k 0 = i := by
  obtain ⟨k, hk, e⟩ := List.getElem_of_mem (h.1.mem_iff.2 (List.mem_range.2 hi))
  exact ⟨k, hk, by simp [List.getD, List.getElem?_eq_getElem hk, e]⟩
def dup (xs : List ByteArray) (i : Nat) : Prop := at_ xs i ∈ xs.take i
theorem dup_iff {xs : List ByteArray} {i : Nat} (hi : i ≤ xs.length) : dup xs i ↔ ∃ j, j < i ∧ at_ xs j = at_ xs i := by
  unfold dup
  rw [List.mem_take_iff_getElem]
  constructor
  · rintro ⟨j, hj, e⟩
    exact ⟨j, by omega, by rw [← e]; unfold at_; simp [List.getD, List.getElem?_eq_getElem (show j < xs.length by omega)]⟩
  · rintro ⟨j, hj, e⟩
    exact ⟨j, by omega, by rw [← e]; unfold at_; simp [List.getD, List.getElem?_eq_getElem (show j < xs.length by omega)]⟩
theorem Ixs.dup {xs : List ByteArray} {ix : List Nat} (h : Ixs xs ix) {k : Nat} (hk : k < ix.length) : dup xs (ix.getD k 0) ↔ 0 < k ∧ at_ xs (ix.getD (k - 1) 0) = at_ xs (ix.getD k 0) := by
  rw [dup_iff (Nat.le_of_lt (h.lt hk))]
  constructor
  · rintro ⟨j, hj, e⟩
    obtain ⟨m, hm, rfl⟩ := h.pos (Nat.lt_trans hj (h.lt hk))
    have hb : Nam.bef xs (ix.getD m 0) (ix.getD k 0) := .inr ⟨e, hj⟩
    have hmk : m < k := by
      rcases Nat.lt_trichotomy m k with q | q | q
      · exact q
      · subst q; exact absurd hb (bef_irr _ _)
      · exact absurd (bef_trans hb (h.bef q hm)) (bef_irr _ _)
    refine ⟨by omega, ?_⟩
    rcases Nat.eq_or_lt_of_le (show m ≤ k - 1 by omega) with q | q
    · rw [← q, e]
    · have b1 := h.bef q (show k - 1 < ix.length by omega)
      have b2 := h.bef (show k - 1 < k by omega) hk
      rcases b2 with b2 | b2
      · rcases b1 with b1 | b1
        · have := lt_trans b1 b2
          rw [e, lt_irr] at this; cases this
        · rw [← b1.1, e, lt_irr] at b2; cases b2
      · exact b2.1
  · rintro ⟨h0, e⟩
    refine ⟨_, ?_, e⟩
    rcases h.bef (show k - 1 < k by omega) hk with q | q
    · rw [e, lt_irr] at q; cases q
    · exact q.2
def Least (xs : List ByteArray) (ix : List Nat) (k m : Nat) : Prop := (∀ j, j < k → Nam.dup xs (ix.getD j 0) → m ≤ ix.getD j 0) ∧ (m = xs.length ∨ (m < xs.length ∧ Nam.dup xs m))
theorem Least.start (xs : List ByteArray) (ix : List Nat) : Least xs ix 0 xs.length := ⟨fun j h => by omega, .inl rfl⟩
theorem Least.skip {xs : List ByteArray} {ix : List Nat} {k m : Nat} (h : Least xs ix k m) (hd : ¬ Nam.dup xs (ix.getD k 0)) : Least xs ix (k + 1) m := by
  refine ⟨fun j hj q => ?_, h.2⟩
  rcases Nat.eq_or_lt_of_le (Nat.le_of_lt_succ hj) with e | hj
  · subst e; exact absurd q hd
  · exact h.1 j hj q
theorem Least.take {xs : List ByteArray} {ix : List Nat} {k m : Nat} (h : Least xs ix k m) (hi : ix.getD k 0 < xs.length) (hd : Nam.dup xs (ix.getD k 0)) : Least xs ix (k + 1) (min m (ix.getD k 0)) := by
  refine ⟨fun j hj q => ?_, ?_⟩
  · rcases Nat.eq_or_lt_of_le (Nat.le_of_lt_succ hj) with e | hj
    · subst e; exact Nat.min_le_right _ _
    · exact Nat.le_trans (Nat.min_le_left _ _) (h.1 j hj q)
  · rcases Nat.le_total m (ix.getD k 0) with q | q
    · rw [Nat.min_eq_left q]; exact h.2
    · rw [Nat.min_eq_right q]; exact .inr ⟨hi, hd⟩
theorem Least.fin {xs : List ByteArray} {ix : List Nat} {m : Nat} (hx : Ixs xs ix) (h : Least xs ix ix.length m) : m ≤ xs.length ∧ twiS xs = if m = xs.length then -1 else (m : Int) := by
  have hall : ∀ i, i < xs.length → Nam.dup xs i → m ≤ i := fun i hi hd => by
    obtain ⟨k, hk, rfl⟩ := hx.pos hi
    exact h.1 k hk hd
  rcases h.2 with e | ⟨hl, hd⟩
  · subst e
    refine ⟨Nat.le_refl _, ?_⟩
    rw [if_pos rfl]
    exact twi_none fun j hj hm => by have := hall j hj hm; omega
  · refine ⟨Nat.le_of_lt hl, ?_⟩
    rw [if_neg (by omega)]
    exact twi_is hl hd fun j hj hm => by have := hall j (by omega) hm; omega
structure Dist (xs : List ByteArray) (ix : List Nat) (k : Nat) (ds : List ByteArray) : Prop where
  inc : Inc ds
  mem : ∀ x, x ∈ ds ↔ ∃ j, j < k ∧ at_ xs (ix.getD j 0) = x
  last : (k = 0 ∧ ds = []) ∨ (0 < k ∧ ∃ c, ds = c ++ [at_ xs (ix.getD (k - 1) 0)])
  len : ds.length ≤ k
theorem Dist.start (xs : List ByteArray) (ix : List Nat) : Dist xs ix 0 [] := ⟨List.Pairwise.nil, fun x => by simp, .inl ⟨rfl, rfl⟩, Nat.le_refl _⟩
theorem Dist.skip {xs : List ByteArray} {ix : List Nat} {k : Nat} {ds : List ByteArray} (h : Dist xs ix k ds) (h0 : 0 < k) (e : at_ xs (ix.getD (k - 1) 0) = at_ xs (ix.getD k 0)) : Dist xs ix (k + 1) ds := by
  refine ⟨h.inc, fun x => ?_, .inr ⟨by omega, ?_⟩, by have := h.len; omega⟩
  · rw [h.mem]
    constructor
    · rintro ⟨j, hj, q⟩; exact ⟨j, by omega, q⟩
    · rintro ⟨j, hj, q⟩
      rcases Nat.eq_or_lt_of_le (Nat.le_of_lt_succ hj) with e2 | hj
      · subst e2; exact ⟨j - 1, by omega, e.trans q⟩
      · exact ⟨j, hj, q⟩
  · rcases h.last with q | ⟨-, c, q⟩
    · omega
    · exact ⟨c, by rw [q, e, Nat.add_sub_cancel]⟩
theorem Dist.put {xs : List ByteArray} {ix : List Nat} {k : Nat} {ds : List ByteArray} (hx : Ixs xs ix) (hk : k < ix.length) (h : Dist xs ix k ds) (e : ¬ (0 < k ∧ at_ xs (ix.getD (k - 1) 0) = at_ xs (ix.getD k 0))) :
    Dist xs ix (k + 1) (ds ++ [at_ xs (ix.getD k 0)]) ∧ findS xs (at_ xs (ix.getD k 0)) = (ix.getD k 0 : Nat) := by
  have hlt : ∀ x ∈ ds, lt x (at_ xs (ix.getD k 0)) = true := by
    intro x hm
    obtain ⟨j, hj, rfl⟩ := (h.mem x).1 hm
    rcases hx.bef (show k - 1 < k by omega) hk with q | q
    · rcases Nat.eq_or_lt_of_le (show j ≤ k - 1 by omega) with e2 | hj2
      · rw [e2]; exact q
      · rcases hx.bef hj2 (show k - 1 < ix.length by omega) with r | r
        · exact lt_trans r q
        · rw [r.1]; exact q
    · exact absurd ⟨by omega, q.1⟩ e
  refine ⟨⟨?_, fun x => ?_, .inr ⟨by omega, ds, by rw [Nat.add_sub_cancel]⟩, by have := h.len; simp; omega⟩, ?_⟩
  · refine List.pairwise_append.2 ⟨h.inc, List.pairwise_singleton _ _, fun a ha b hb => ?_⟩
    rw [List.mem_singleton.1 hb]
    exact hlt a ha
  · rw [List.mem_append, h.mem, List.mem_singleton]
    constructor
    · rintro (⟨j, hj, q⟩ | q)
      · exact ⟨j, by omega, q⟩
      · exact ⟨k, by omega, q.symm⟩
    · rintro ⟨j, hj, q⟩
      rcases Nat.eq_or_lt_of_le (Nat.le_of_lt_succ hj) with e2 | hj
      · subst e2; exact .inr q.symm
      · exact .inl ⟨j, hj, q⟩
  · have hn : ¬ Nam.dup xs (ix.getD k 0) := fun q => e ((hx.dup hk).1 q)
    have hl := hx.lt hk
    refine find_is (at_some hl) fun j hj q => hn ((dup_iff (Nat.le_of_lt hl)).2 ⟨j, hj, ?_⟩)
    unfold at_ at q ⊢
    rw [List.getD, q]; rfl
theorem Dist.fin {xs : List ByteArray} {ix : List Nat} {ds : List ByteArray} (hx : Ixs xs ix) (h : Dist xs ix ix.length ds) : ds = sortS xs := by
  refine sort_is h.inc fun x => ?_
  rw [h.mem]
  constructor
  · rintro ⟨j, hj, rfl⟩
    exact at_mem (hx.lt hj)
  · intro hm
    obtain ⟨i, hi, e⟩ := List.getElem_of_mem hm
    obtain ⟨k, hk, rfl⟩ := hx.pos hi
    exact ⟨k, hk, (at_get hi).trans e⟩
theorem inc_split {ds : List ByteArray} (h : Inc ds) (x : ByteArray) : ∃ k, k ≤ ds.length ∧ (∀ t, t < k → lt (at_ ds t) x = true) ∧ (∀ t, k ≤ t → t < ds.length → lt (at_ ds t) x = false) := by
  induction ds with
  | nil => exact ⟨0, Nat.le_refl _, fun t h => by omega, fun t h g => by simp at g⟩
  | cons d ds ih =>
    have h' := List.pairwise_cons.1 h
    cases e : lt d x
    · refine ⟨0, Nat.zero_le _, fun t h => by omega, fun t _ ht => ?_⟩
      cases t with
      | zero => exact e
      | succ t =>
        have hm : at_ (d :: ds) (t + 1) ∈ ds := by unfold at_; simp at ht ⊢; simp [List.getElem?_eq_getElem ht]
        cases e2 : lt (at_ (d :: ds) (t + 1)) x
        · rfl
        · rw [lt_trans (h'.1 _ hm) e2] at e; cases e
    · obtain ⟨k, h1, h2, h3⟩ := ih h'.2
      refine ⟨k + 1, by simp; omega, fun t ht => ?_, fun t h4 h5 => ?_⟩
      · cases t with
        | zero => exact e
        | succ t => exact h2 t (by omega)
      · cases t with
        | zero => omega
        | succ t => exact h3 t (by omega) (by simpa using h5)
theorem split_mem {ds : List ByteArray} {x : ByteArray} {k : Nat} (h2 : ∀ t, t < k → lt (at_ ds t) x = true) (h3 : ∀ t, k ≤ t → t < ds.length → lt (at_ ds t) x = false) (hi : Inc ds) : x ∈ ds ↔ k < ds.length ∧ at_ ds k = x := by
  constructor
  · intro hm
    obtain ⟨t, ht, e⟩ := List.getElem_of_mem hm
    have e' : at_ ds t = x := by unfold at_; simp [List.getD, List.getElem?_eq_getElem ht, e]
    have hk : k ≤ t := by
      refine Nat.le_of_not_lt fun q => ?_
      have := h2 t q
      rw [e', lt_irr] at this; cases this
    rcases Nat.eq_or_lt_of_le hk with q | q
    · subst q; exact ⟨ht, e'⟩
    · have h4 := h3 k (Nat.le_refl _) (by omega)
      have h5 := List.pairwise_iff_getElem.1 hi k t (by omega) ht q
      have e6 : at_ ds k = ds[k] := by unfold at_; simp [List.getD, List.getElem?_eq_getElem (show k < ds.length by omega)]
      rw [e, ← e6, h4] at h5; cases h5
  · rintro ⟨h, rfl⟩; exact at_mem h
theorem Ixs.of_sorted {xs : List ByteArray} {ix : List Nat} (hp : ix.Perm (List.range xs.length)) (hs : ∀ i j, i < j → j < ix.length → ¬ Nam.bef xs (ix.getD j 0) (ix.getD i 0)) : Ixs xs ix := by
  refine ⟨hp, List.pairwise_iff_getElem.2 fun i j hi hj hij => ?_⟩
  have h := hs i j hij hj
  simp only [List.getD, List.getElem?_eq_getElem hi, List.getElem?_eq_getElem hj, Option.getD_some] at h
  refine Classical.byContradiction fun g => ?_
  have e := bef_tri g h
  have hn : ix.Nodup := hp.nodup_iff.2 List.nodup_range
  exact absurd e (List.pairwise_iff_getElem.1 hn i j hi hj hij)
end Go.Proofs.YtbnmkbpjdelokaaGreat.Nam
namespace Go.Proofs.YtbnmkbpjdelokaaGreat
open Go.Shelf
def sortInt_ren : Go.Shelf.Ren := ⟨fun | 6 => 124 | 15 => 149 | 14 => 148 | 28 => 165 | 29 => 166 | 20 => 157 | 21 => 158 | 22 => 159 | 23 => 160 | 24 => 161 | 25 => 162 | 26 => 163 | 27 => 164 | 46 => 173 | 47 => 174 | 48 => 175 | 49 => 176 | 50 => 177 | 57 => 187 | n => n, fun | 22 => 41 | 24 => 3 | 25 => 192 | 3 => 3 | 39 => 202 | 0 => 0 | 53 => 185 | 55 => 175 | 4 => 4 | 46 => 216 | 45 => 215 | 50 => 69 | 5 => 5 | 9 => 9 | 66 => 226 | 70 => 230 | 76 => 235 | 77 => 105 | n => n, fun | n => n⟩
theorem sortInt : Go.Proofs.SlLaysF.n6 Tryz.prog sortInt_ren := {
  mixed := by kernel_rfl
  f6 := ⟨Tryz.f124.name, by decide, Tryz.func124.trans (congrArg some (by kernel_rfl))⟩
  f14 := ⟨Tryz.f148.name, by decide, Tryz.func148.trans (congrArg some (by kernel_rfl))⟩
  f15 := Tryz.func149.trans (congrArg some (by kernel_rfl))
  f20 := ⟨Tryz.f157.name, by decide, Tryz.func157.trans (congrArg some (by kernel_rfl))⟩
  f21 := ⟨Tryz.f158.name, by decide, Tryz.func158.trans (congrArg some (by kernel_rfl))⟩
  f22 := ⟨Tryz.f159.name, by decide, Tryz.func159.trans (congrArg some (by kernel_rfl))⟩
  f23 := ⟨Tryz.f160.name, by decide, Tryz.func160.trans (congrArg some (by kernel_rfl))⟩
  f24 := ⟨Tryz.f161.name, by decide, Tryz.func161.trans (congrArg some (by kernel_rfl))⟩
  f25 := ⟨Tryz.f162.name, by decide, Tryz.func162.trans (congrArg some (by kernel_rfl))⟩
  f26 := ⟨Tryz.f163.name, by decide, Tryz.func163.trans (congrArg some (by kernel_rfl))⟩
  f27 := ⟨Tryz.f164.name, by decide, Tryz.func164.trans (congrArg some (by kernel_rfl))⟩
  f28 := Tryz.func165.trans (congrArg some (by kernel_rfl))
  f29 := Tryz.func166.trans (congrArg some (by kernel_rfl))
  f46 := ⟨Tryz.f173.name, by decide, Tryz.func173.trans (congrArg some (by kernel_rfl))⟩
  f47 := Tryz.func174.trans (congrArg some (by kernel_rfl))
  f48 := Tryz.func175.trans (congrArg some (by kernel_rfl))
  f49 := ⟨Tryz.f176.name, by decide, Tryz.func176.trans (congrArg some (by kernel_rfl))⟩
  f50 := ⟨Tryz.f177.name, by decide, Tryz.func177.trans (congrArg some (by kernel_rfl))⟩
  f57 := ⟨Tryz.f187.name, by decide, Tryz.func187.trans (congrArg some (by kernel_rfl))⟩
  t0 := Tryz.underlying0
  a0 := Tryz.isAgg0
  z0 := Tryz.sizeOf0
  v0 := Tryz.zeroValue0
  t3 := Tryz.underlying3
  a3 := Tryz.isAgg3
  z3 := Tryz.sizeOf3
  v3 := Tryz.zeroValue3
  t4 := Tryz.underlying4
  a4 := Tryz.isAgg4
  z4 := Tryz.sizeOf4
  v4 := Tryz.zeroValue4
  t5 := Tryz.underlying5
  a5 := Tryz.isAgg5
  z5 := Tryz.sizeOf5
  v5 := Tryz.zeroValue5
  t9 := Tryz.underlying9
  a9 := Tryz.isAgg9
  z9 := Tryz.sizeOf9
  v9 := Tryz.zeroValue9
  t22 := Tryz.underlying41
  a22 := Tryz.isAgg41
  z22 := Tryz.sizeOf41
  v22 := Tryz.zeroValue41
  a24 := Tryz.isAgg3
  z24 := Tryz.sizeOf3
  t25 := Tryz.underlying192
  a25 := Tryz.isAgg192
  z25 := Tryz.sizeOf192
  v25 := Tryz.zeroValue192
  t39 := Tryz.underlying202
  a39 := Tryz.isAgg202
  z39 := Tryz.sizeOf202
  v39 := Tryz.zeroValue202
  t45 := Tryz.underlying215
  a45 := Tryz.isAgg215
  z45 := Tryz.sizeOf215
  v45 := Tryz.zeroValue215
  t46 := Tryz.underlying216
  a46 := Tryz.isAgg216
  z46 := Tryz.sizeOf216
  v46 := Tryz.zeroValue216
  t50 := Tryz.underlying69
  a50 := Tryz.isAgg69
  z50 := Tryz.sizeOf69
  v50 := Tryz.zeroValue69
  t53 := Tryz.underlying185
  a53 := Tryz.isAgg185
  z53 := Tryz.sizeOf185
  v53 := Tryz.zeroValue185
  t55 := Tryz.underlying175
  a55 := Tryz.isAgg175
  z55 := Tryz.sizeOf175
  v55 := Tryz.zeroValue175
  t66 := Tryz.underlying226
  a66 := Tryz.isAgg226
  z66 := Tryz.sizeOf226
  v66 := Tryz.zeroValue226
  t70 := Tryz.underlying230
  a70 := Tryz.isAgg230
  z70 := Tryz.sizeOf230
  v70 := Tryz.zeroValue230
  t76 := Tryz.underlying235
  a76 := Tryz.isAgg235
  z76 := Tryz.sizeOf235
  v76 := Tryz.zeroValue235
  t77 := Tryz.underlying105
  a77 := Tryz.isAgg105
  z77 := Tryz.sizeOf105
  v77 := Tryz.zeroValue105 }
def cloneStr_ren : Go.Shelf.Ren := ⟨fun | 41 => 54 | n => n, fun | 22 => 52 | 23 => 9 | 4 => 4 | n => n, fun | n => n⟩
theorem cloneStr : Go.Proofs.SlLaysE0.n41 Tryz.prog cloneStr_ren := {
  mixed := by kernel_rfl
  f41 := ⟨Tryz.f54.name, by decide, Tryz.func54.trans (congrArg some (by kernel_rfl))⟩
  t4 := Tryz.underlying4
  a4 := Tryz.isAgg4
  z4 := Tryz.sizeOf4
  v4 := Tryz.zeroValue4
  t22 := Tryz.underlying52
  a22 := Tryz.isAgg52
  z22 := Tryz.sizeOf52
  v22 := Tryz.zeroValue52 }
def searchStr_ren : Go.Shelf.Ren := ⟨fun | 26 => 111 | 33 => 144 | 34 => 145 | 38 => 155 | n => n, fun | 24 => 52 | 9 => 9 | 3 => 3 | 4 => 4 | 40 => 202 | 0 => 0 | n => n, fun | n => n⟩
theorem searchStr : Go.Proofs.Lays2.n26 Tryz.prog searchStr_ren := {
  mixed := by kernel_rfl
  f26 := Tryz.func111.trans (congrArg some (by kernel_rfl))
  f33 := Tryz.func144.trans (congrArg some (by kernel_rfl))
  f34 := Tryz.func145.trans (congrArg some (by kernel_rfl))
  f38 := Tryz.func155.trans (congrArg some (by kernel_rfl))
  t0 := Tryz.underlying0
  a0 := Tryz.isAgg0
  z0 := Tryz.sizeOf0
  v0 := Tryz.zeroValue0
  t3 := Tryz.underlying3
  a3 := Tryz.isAgg3
  z3 := Tryz.sizeOf3
  v3 := Tryz.zeroValue3
  t4 := Tryz.underlying4
  a4 := Tryz.isAgg4
  z4 := Tryz.sizeOf4
  v4 := Tryz.zeroValue4
  t9 := Tryz.underlying9
  a9 := Tryz.isAgg9
  z9 := Tryz.sizeOf9
  v9 := Tryz.zeroValue9
  t24 := Tryz.underlying52
  a24 := Tryz.isAgg52
  z24 := Tryz.sizeOf52
  v24 := Tryz.zeroValue52
  t40 := Tryz.underlying202
  a40 := Tryz.isAgg202
  z40 := Tryz.sizeOf202
  v40 := Tryz.zeroValue202 }
def compStr_ren : Go.Shelf.Ren := ⟨fun | 106 => 127 | 213 => 150 | 265 => 167 | n => n, fun | 9 => 9 | 3 => 3 | n => n, fun | n => n⟩
theorem compStr : Go.Proofs.Lays.n106 Tryz.prog compStr_ren := {
  mixed := by kernel_rfl
  f106 := Tryz.func127.trans (congrArg some (by kernel_rfl))
  f213 := Tryz.func150.trans (congrArg some (by kernel_rfl))
  f265 := Tryz.func167.trans (congrArg some (by kernel_rfl))
  t3 := Tryz.underlying3
  a3 := Tryz.isAgg3
  z3 := Tryz.sizeOf3
  v3 := Tryz.zeroValue3
  t9 := Tryz.underlying9
  a9 := Tryz.isAgg9
  z9 := Tryz.sizeOf9
  v9 := Tryz.zeroValue9 }
def compInt_ren : Go.Shelf.Ren := ⟨fun | 122 => 128 | 215 => 151 | n => n, fun | 3 => 3 | 4 => 4 | n => n, fun | n => n⟩
theorem compInt : Go.Proofs.Lays.n122 Tryz.prog compInt_ren := {
  mixed := by kernel_rfl
  f122 := Tryz.func128.trans (congrArg some (by kernel_rfl))
  f215 := Tryz.func151.trans (congrArg some (by kernel_rfl))
  t3 := Tryz.underlying3
  a3 := Tryz.isAgg3
  z3 := Tryz.sizeOf3
  v3 := Tryz.zeroValue3
  t4 := Tryz.underlying4
  a4 := Tryz.isAgg4
  z4 := Tryz.sizeOf4
  v4 := Tryz.zeroValue4 }
end Go.Proofs.YtbnmkbpjdelokaaGreat
