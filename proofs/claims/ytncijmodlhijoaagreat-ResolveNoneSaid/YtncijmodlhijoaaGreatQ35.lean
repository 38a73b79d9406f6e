import Derived.Test.YtncijmodlhijoaaGreatQ31
import Derived.Test.YtncijmodlhijoaaGreatQ34
import Derived.Test.YtncijmodlhijoaaGreatQ30
import Derived.StillTailTactics
set_option linter.unusedVariables false
set_option maxRecDepth 100000
set_option maxHeartbeats 4000000
namespace Go.Proofs.YtncijmodlhijoaaGreat.Lat
open Go.RowKit Go.Lib Rel Nam
def seenS (F : Nat → Nat → Bool) (n : Nat) (a : Int) (K : Nat) : List Nat := if 0 ≤ a ∧ a < n then seesF F a.toNat K else []
def fldS (J : Nat → Nat → Nat) : Nat → Nat
  | 0 => 0
  | k + 1 => J (fldS J k) k
theorem fld_lt {n : Nat} {J : Nat → Nat → Nat} (h0 : 0 < n) (hJ : ∀ a b, a < n → b < n → J a b < n) : ∀ k, k ≤ n → fldS J k < n
  | 0, _ => h0
  | k + 1, h => hJ _ _ (fld_lt h0 hJ k (by omega)) h
theorem fld_top {n : Nat} {F : Nat → Nat → Bool} (h : Latt n F) : ∀ k, k ≤ n → ∀ a, a < k → F a (fldS (jn n F) k) = true
  | 0, _, a, ha => by omega
  | k + 1, hk, a, ha => by
    have l1 := fld_lt h.pos (fun a b => h.jn_lt) k (by omega)
    obtain ⟨j0, j1, j2, -⟩ := h.jn_best l1 (show k < n by omega)
    rcases Nat.eq_or_lt_of_le (Nat.le_of_lt_succ ha) with e | q
    · subst e; exact j2
    · exact h.ord.trans _ _ _ (by omega) l1 j0 (fld_top h k (by omega) a q) j1
theorem latfoldM_calls (nm : List ByteArray) (p : Nat) (w : World) (h : LevP w p nm) (J : Nat → Nat → Nat) (h0 : 0 < nm.length) (hJ : ∀ a b, a < nm.length → b < nm.length → J a b < nm.length)
    (hN : Hid (∀ (a b : Nat), a < nm.length → b < nm.length → ∀ R : Ending → World → Prop, Hid (R (.returned (.int .i64 (J a b : Nat))) w) → Calls Tryz.prog 357 #[.pointer (some ⟨p, 0, none⟩), .int .i64 (a : Nat), .int .i64 (b : Nat)] w R)) (R : Ending → World → Prop)
    (hR : Hid (R (.returned (.int .i64 (fldS J nm.length : Nat))) w)) : Calls Tryz.prog 356 #[.pointer (some ⟨p, 0, none⟩), .func (.func 357) #[.pointer (some ⟨p, 0, none⟩)] #[]] w R := by
  have cL := Lib.hid fun R hR => latlenx_calls nm p w h R hR
  have hlt : nm.length ≤ 32 := by obtain ⟨v1, v2, -, -, -, -, -, -, h6⟩ := h; exact h6
  have hF := Lib.hid fun k hk => fld_lt h0 hJ k hk
  have hS := Lib.hid fun k => show fldS J (k + 1) = J (fldS J k) k from rfl
  clear h hJ
  generalize nm.length = n at *
  have q0 : ((n : Int) == 0) = false := by simp; omega
  replace q0 := Lib.hid q0
  go_enter Tryz.func356, Tryz.ntmps356
  go_wp2_with fail
  refine cL.out _ (Lib.hid ?_)
  replace q0 := q0.out
  go_wp2_with fail
  refine cL.out _ (Lib.hid ?_)
  replace q0 := Lib.hid q0
  go_wp2_with fail
  go_loopg [5, 12] n (fun g s i wr => ∃ K : Nat, s = .int .i64 (fldS J K : Nat) ∧ i = .int .i64 K ∧ K + g = n ∧ wr = w)
  case atStart => exact ⟨0, rfl, rfl, by omega, rfl⟩
  case round =>
    obtain ⟨K, rfl, rfl, c1, rfl⟩ := hrel
    by_cases hK : K < n
    · have cN := Lib.hid (hN.out (fldS J K) K (hF.out K (by omega)) hK)
      have e := Lib.hid (hS.out K)
      generalize J (fldS J K) K = z at *
      generalize fldS J K = y at *
      clear cL hF hS
      go_wp2_with fail
      refine cN.out _ (Lib.hid ?_)
      go_wp2_with fail
      go_roundg (gk - 1)
      case measure => omega
      case rel => exact ⟨K + 1, by rw [e.out], by go_num, by omega, rfl⟩
    · obtain rfl : K = n := by omega
      clear cL hF hS
      go_wp2_with fail
      exact hR.out
theorem latbottomx_calls (nm : List ByteArray) (F : Nat → Nat → Bool) (v : Value) (w : World) (h : LatP w v nm F) (R : Ending → World → Prop) (hR : Hid (∀ (t : Nat), t < nm.length → (∀ a, a < nm.length → F t a = true) → R (.returned (.int .i64 t)) w)) : Calls Tryz.prog 340 #[v] w R := by
  have hL := h.latt.1.flip
  have cJ := Lib.hid fun (a b : Nat) (ha : a < nm.length) (hb : b < nm.length) (R : Ending → World → Prop) (hR : Hid (R (.returned (.int .i64 (jn nm.length (flp F) a b : Nat))) w)) => latmeetx_calls nm F v w h a b R (by rw [if_pos ⟨by omega, by omega, by omega, by omega⟩, Int.toNat_natCast, Int.toNat_natCast, hL.jn_eq ha hb]; exact hR)
  obtain ⟨p, rfl, hv, -⟩ := h
  have cF := Lib.hid fun R hR => latfoldM_calls nm p w hv (jn nm.length (flp F)) hL.pos (fun a b => hL.jn_lt) cJ R hR
  have fin := Lib.hid (hR.out _ (fld_lt hL.pos (fun a b => hL.jn_lt) nm.length (Nat.le_refl _)) (fld_top hL nm.length (Nat.le_refl _)))
  clear hv hL cJ
  generalize fldS (jn nm.length (flp F)) nm.length = t at *
  go_enter Tryz.func340, Tryz.ntmps340
  go_wp2_with fail
  refine cF.out _ (Lib.hid ?_)
  go_wp2_with fail
  exact fin.out
section
variable (nm : List ByteArray) (F : Nat → Nat → Bool) (v : Value) (w : World) (h : LatP w v nm F) (R : Ending → World → Prop)
include h
theorem latfind_calls (s : ByteArray) (hs : s.size ≤ maxLen) (hR : Hid (∀ w', Below w.heap.size w w' → R (.returned (.tuple #[.int .i64 (if findS nm s < 0 then 0 else findS nm s), .bool (decide (0 ≤ findS nm s))])) w')) : Calls Tryz.prog 184 #[v, .string s] w R := by
  obtain ⟨p, rfl, hv, -⟩ := h
  refine latfindx_calls nm p w hv s R (Lib.hid fun nq => ?_)
  have := hR.out _ (below_drewN (Below.refl _ _) nq)
  by_cases q : findS nm s < 0
  · rw [if_pos q, decide_eq_false (by omega)] at this
    rw [fin_no q]; exact this
  · rw [if_neg q, decide_eq_true (by omega)] at this
    rw [fin_yes q]; exact this
end
end Go.Proofs.YtncijmodlhijoaaGreat.Lat
namespace Go.Proofs.YtncijmodlhijoaaGreat.Lab
open Go.RowKit Go.Lib Rel Nam Lat
section
variable {n : Nat} {F : Nat → Nat → Bool}
theorem lub_nil (h : Latt n F) {t : Nat} (ht : t < n) (hb : ∀ a, a < n → F t a = true) : lubN n F [] = t := by
  have := lub_is h (l := []) ht (lub_iff.2 ⟨rfl, fun d hd _ => hb d hd⟩)
  unfold lubN
  rw [this]; rfl
theorem lub_snoc (h : Latt n F) {l : List Nat} (hl : ∀ a ∈ l, a < n) {a : Nat} (ha : a < n) : lubN n F (l ++ [a]) = jn n F (lubN n F l) a := by
  obtain ⟨-, h1, h2, h3⟩ := lub_nat h hl
  obtain ⟨j0, j1, j2, j3⟩ := h.jn_best h1 ha
  have e := lub_is h (l := l ++ [a]) j0 (lub_iff.2 ⟨by
    rw [over_snoc, Bool.and_eq_true]
    exact ⟨over_iff.2 fun x hx => h.ord.trans _ _ _ (hl x hx) h1 j0 (over_iff.1 h2 x hx) j1, j2⟩, fun d hd ho => by
    rw [over_snoc, Bool.and_eq_true] at ho
    exact j3 d hd (h3 d hd ho.1) ho.2⟩)
  have e2 : lubN n F (l ++ [a]) = (lubZ n F (l ++ [a])).toNat := rfl
  rw [e2, e]; rfl
theorem lub_step (h : Latt n F) {xs : List Int} {K : Nat} (hK : K < xs.length) : lubN n F (lvS n (xs.take (K + 1))) = if 0 ≤ zN xs K ∧ zN xs K < n then jn n F (lubN n F (lvS n (xs.take K))) (zN xs K).toNat else lubN n F (lvS n (xs.take K)) := by
  rw [lv_take hK]
  split
  · exact lub_snoc h lvS_lt (by omega)
  · rw [List.append_nil]
end
theorem labislev_calls (nm : List ByteArray) (F : Nat → Nat → Bool) (v : Value) (w : World) (h : LatP w v nm F) (a : Int) (b : Bool) (hb : b = decide (0 ≤ a ∧ a < nm.length)) (R : Ending → World → Prop) (hR : Hid (R (.returned (.bool b)) w)) : Calls Tryz.prog 341 #[v, .int .i64 a] w R := by
  obtain ⟨p, rfl, hv, -⟩ := h
  have cL := Lib.hid fun R hR => latlenx_calls nm p w hv R hR
  clear hv
  by_cases h0 : 0 ≤ a
  · by_cases h1 : a < nm.length
    · obtain rfl : b = true := by rw [hb]; exact decide_eq_true ⟨h0, h1⟩
      clear hb
      go_enter Tryz.func341, Tryz.ntmps341
      go_wp2_with fail
      refine cL.out _ (Lib.hid ?_)
      go_wp2_with fail
      exact hR.out
    · obtain rfl : b = false := by rw [hb]; exact decide_eq_false (fun h => h1 h.2)
      clear hb
      go_enter Tryz.func341, Tryz.ntmps341
      go_wp2_with fail
      refine cL.out _ (Lib.hid ?_)
      go_wp2_with fail
      exact retB hR.out (decide_eq_false (by omega)).symm
  · obtain rfl : b = false := by rw [hb]; exact decide_eq_false (fun h => h0 h.1)
    clear hb
    go_enter Tryz.func341, Tryz.ntmps341
    go_wp2_with fail
    exact hR.out
theorem labjoin_calls (nm : List ByteArray) (F : Nat → Nat → Bool) (v : Value) (w : World) (h : LatP w v nm F) (xs : List Int) (vx : Value) (hx : RdZ w vx xs) (hxl : xs.length ≤ 1000000) (R : Ending → World → Prop)
    (hR : Hid (R (.returned (.int .i64 (lubN nm.length F (lvS nm.length xs) : Nat))) w)) : Calls Tryz.prog 312 #[v, vx] w R := by
  obtain ⟨hL, h32⟩ := h.latt
  have cB := Lib.hid fun R hR => latbottomx_calls nm F v w h R hR
  have cI := Lib.hid fun a b hb R hR => labislev_calls nm F v w h a b hb R hR
  have cJ := Lib.hid fun (a b : Nat) (ha : a < nm.length) (hb : b < nm.length) (R : Ending → World → Prop) (hR : Hid (R (.returned (.int .i64 (jn nm.length F a b : Nat))) w)) => latjoinx_calls nm F v w h a b R (by rw [if_pos ⟨by omega, by omega, by omega, by omega⟩, Int.toNat_natCast, Int.toNat_natCast, hL.jn_eq ha hb]; exact hR)
  have h0 := Lib.hid fun t (ht : t < nm.length) hb => lub_nil hL ht hb
  have hs := Lib.hid fun K (hK : K < xs.length) => lub_step (n := nm.length) (F := F) hL hK
  have hlt := Lib.hid fun K => (lub_nat hL (lvS_lt (n := nm.length) (xs := xs.take K))).2.1
  have hz : lvS nm.length (xs.take 0) = [] := rfl
  obtain ⟨p, rfl⟩ := h.ptr
  obtain ⟨A, c, rfl, -, hr⟩ := hx.op
  replace hr := Lib.hid hr
  obtain ⟨Z, hZ⟩ : ∃ Z : Nat → Nat, Z = fun K => lubN nm.length F (lvS nm.length (xs.take K)) := ⟨_, rfl⟩
  have hs2 := Lib.hid fun K (hK : K < xs.length) => show Z (K + 1) = if 0 ≤ zN xs K ∧ zN xs K < nm.length then jn nm.length F (Z K) (zN xs K).toNat else Z K by rw [hZ]; exact hs.out K hK
  have hlt2 := Lib.hid fun K => show Z K < nm.length by rw [hZ]; exact hlt.out K
  have h02 := Lib.hid fun t (ht : t < nm.length) hb => show Z 0 = t by rw [hZ]; exact h0.out t ht hb
  have hfin : lubN nm.length F (lvS nm.length xs) = Z xs.length := by rw [hZ]; simp only [List.take_length]
  rw [hfin] at hR
  clear h hx hL h0 hs hlt hz hZ hfin
  generalize nm.length = n at *
  go_enter Tryz.func312, Tryz.ntmps312
  go_wp2_with fail
  refine cB.out _ (Lib.hid fun t ht hb => ?_)
  have e0 := Lib.hid (h02.out t ht hb)
  clear hb h02 cB
  go_wp2_with fail
  go_loopg [5, 12] xs.length (fun g s i wr => ∃ K : Nat, s = .int .i64 (Z K : Nat) ∧ i = .int .i64 K ∧ K + g = xs.length ∧ wr = w)
  case atStart => exact ⟨0, by rw [e0.out], rfl, by omega, rfl⟩
  case round =>
    clear e0
    obtain ⟨K, rfl, rfl, c1, rfl⟩ := hrel
    by_cases hK : K < xs.length
    · obtain ⟨g, o, rfl, hg, hca⟩ := hr.out (by omega)
      have x0 := hca K hK
      have h1 := hs2.out K hK
      have h2 := hlt2.out K
      have i0 : (0 : Int) ≤ (K : Int) := by omega
      have i1 : (K : Int) < (xs.length : Int) := by omega
      clear hca
      generalize zN xs K = x at *
      by_cases q : 0 ≤ x ∧ x < n
      · rw [if_pos q] at h1
        have cI2 := Lib.hid (cI.out x true (decide_eq_true q).symm)
        obtain ⟨a, rfl⟩ : ∃ a : Nat, x = a := ⟨x.toNat, by omega⟩
        rw [Int.toNat_natCast] at h1
        have cJ2 := Lib.hid (cJ.out (Z K) a h2 (by omega))
        replace h1 := Lib.hid h1
        generalize jn n F (Z K) a = y at *
        generalize Z K = z at *
        clear q cJ cI hs2 hlt2
        go_wp2_with fail
        refine cI2.out _ (Lib.hid ?_)
        go_wp2_with fail
        refine cJ2.out _ (Lib.hid ?_)
        go_wp2_with fail
        go_roundg (gk - 1)
        case measure => omega
        case rel => exact ⟨K + 1, by rw [h1.out], by go_num, by omega, rfl⟩
      · rw [if_neg q] at h1
        have cI2 := Lib.hid (cI.out x false (decide_eq_false q).symm)
        replace h1 := Lib.hid h1
        clear q cJ cI hs2 hlt2
        go_wp2_with fail
        refine cI2.out _ (Lib.hid ?_)
        go_wp2_with fail
        go_roundg (gk - 1)
        case measure => omega
        case rel => exact ⟨K + 1, by rw [h1.out], by go_num, by omega, rfl⟩
    · obtain rfl : K = xs.length := by omega
      clear cI cJ hs2 hlt2
      go_wp2_with fail
      exact hR.out
end Go.Proofs.YtncijmodlhijoaaGreat.Lab
namespace Go.Proofs.YtncijmodlhijoaaGreat.Lab
open Go.RowKit Go.Lib Rel Nam Lat Go.ChangeShapes Go.WideShapes
def inK (l : List Nat) (K J : Nat) : Bool := (l.take J).contains K
def abK (F : Nat → Nat → Bool) (l : List Nat) (K J : Nat) : Bool := (l.take J).any fun a => a != K && F K a
theorem getD_at {l : List Nat} {J : Nat} (h : J < l.length) : l.take (J + 1) = l.take J ++ [l.getD J 0] := by
  rw [List.take_succ_eq_append_getElem h]
  congr 2
  rw [List.getD, List.getElem?_eq_getElem h]; rfl
end Go.Proofs.YtncijmodlhijoaaGreat.Lab
namespace Go.Proofs.YtncijmodlhijoaaGreat.Lab
open Go.RowKit Go.Lib Utf Rel Nam Lat Pat Go.ChangeShapes Go.WideShapes
def ofAt (nm : List ByteArray) (qs : List Wr) (i : Nat) : Option (Int × Int) := if findS nm (wN qs i).1 < 0 then some (17, (wN qs i).2) else none
def fndL (nm : List ByteArray) (qs : List Wr) : List Nat := qs.map fun x => (findS nm x.1).toNat
theorem fnd_len (nm : List ByteArray) (qs : List Wr) : (fndL nm qs).length = qs.length := by simp [fndL]
theorem fnd_lt {nm : List ByteArray} {qs : List Wr} (h : ∀ j, j < qs.length → ofAt nm qs j = none) : ∀ a ∈ fndL nm qs, a < nm.length := fun a ha => by
  obtain ⟨x, hx, rfl⟩ := List.mem_map.1 ha
  obtain ⟨i, hi, rfl⟩ := List.getElem_of_mem hx
  have h1 := h i hi
  unfold ofAt at h1
  rw [wN_get hi] at h1
  have h2 := find_lt nm qs[i].1
  split at h1
  · cases h1
  · omega
end Go.Proofs.YtncijmodlhijoaaGreat.Lab
