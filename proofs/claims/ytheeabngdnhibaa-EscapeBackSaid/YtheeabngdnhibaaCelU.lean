/- The code's Rune, Unit, Width, Cut. -/
import Derived.Test.YtheeabngdnhibaaCelR
set_option linter.unusedVariables false
namespace Go.Proofs.Ytheeabngdnhibaa.Cel
open Go.RowKit Go.Lib Go.Proofs.Ytheeabngdnhibaa.Utf Go.Proofs.Ytheeabngdnhibaa.Ran

theorem bdq {B : Nat} {a w : World} (h : Below B a w) (n : Nat) : Below B a (w.drewN n) := ⟨h.os, h.tape, h.output, h.size, h.block⟩
theorem rune_calls (r : Int) (w : World) (R : Ending → World → Prop)
    (hR : Hid (∀ w', Below w.heap.size w w' → R (.returned (.int .i64 (sizeS r))) w')) : Calls Try.prog 63 #[.int .i32 r] w R := by
  have hk : sizeS r = if hasB wideT r then 2 else if hasB zeroT r then 0 else 1 := rfl
  go_enter Try.func63, Try.ntmps63
  go_wp2_with fail
  refine isWide_calls r _ _ (fun w1 n1 => ?_)
  cases h1 : hasB wideT r
  · rw [h1, if_neg Bool.false_ne_true] at hk
    go_wp2_with fail
    refine isZero_calls r _ _ (fun w2 n2 => ?_)
    replace n2 := n1.trans (n2.mono n1.size)
    cases h2 : hasB zeroT r
    · rw [h2, if_neg Bool.false_ne_true] at hk
      rw [hk] at hR
      go_wp2_with fail
      exact hR.out _ n2
    · rw [h2, if_pos rfl] at hk
      rw [hk] at hR
      go_wp2_with fail
      exact hR.out _ n2
  · rw [h1, if_pos rfl] at hk
    rw [hk] at hR
    go_wp2_with fail
    exact hR.out _ n1

/-- The unit at any index: nothing outside the string. -/
def unitV (s : ByteArray) (i : Int) : Int × Nat := if i < 0 ∨ (s.size : Int) ≤ i then (0, 0) else unitS s i.toNat
theorem unitV_in {s : ByteArray} {i : Nat} (h : i < s.size) : unitV s i = unitS s i := by unfold unitV; rw [if_neg (by omega)]; rfl
set_option maxRecDepth 100000 in
theorem unit_calls (s : ByteArray) (i : Int) (w : World) (hs : s.size ≤ 1000000) (R : Ending → World → Prop)
    (hR : Hid (∀ w', Below w.heap.size w w' → R (.returned (.tuple #[.int .i64 (unitV s i).1, .int .i64 ((unitV s i).2 : Nat)])) w')) : Calls Try.prog 49 #[.string s, .int .i64 i] w R := by
  by_cases ho : i < 0 ∨ (s.size : Int) ≤ i
  · have hu : unitV s i = (0, 0) := if_pos ho
    rw [hu] at hR
    rcases ho with h | h
    · go_enter Try.func49, Try.ntmps49
      go_wp2_with fail
      exact hR.out _ (Below.refl _ _)
    · by_cases h0 : i < 0
      · go_enter Try.func49, Try.ntmps49
        go_wp2_with fail
        exact hR.out _ (Below.refl _ _)
      · go_enter Try.func49, Try.ntmps49
        go_wp2_with fail
        exact hR.out _ (Below.refl _ _)
  · obtain ⟨k, rfl⟩ : ∃ k : Nat, i = k := ⟨i.toNat, by omega⟩
    have hi : k < s.size := by omega
    rw [unitV_in hi] at hR
    clear ho
    have hd := decS_spec s k hi
    have hu : unitS s k = if (decS s k).2.2 then (sizeS (decS s k).1, (decS s k).2.1.toNat) else (1, 1) := rfl
    have c1 := fun (W : World) R hR => dec_calls s k W (by unfold maxLen; omega) R hR
    generalize decS s k = d at *
    obtain ⟨r, n, ok⟩ := d
    simp only at hd hu c1
    replace c1 := Lib.hid c1
    replace hu := Lib.hid hu
    go_enter Try.func49, Try.ntmps49
    go_wp2_with fail
    refine c1.out _ _ (fun q1 => ?_)
    have n1 : Below w.heap.size w (w.drewN q1) := bdq (Below.refl w.heap.size w) q1
    generalize w.drewN q1 = w1 at *
    cases ok
    · replace hu := hu.out
      rw [if_neg Bool.false_ne_true] at hu
      rw [hu] at hR
      go_wp2_with fail
      exact hR.out _ n1
    · replace hu := hu.out
      rw [if_pos rfl] at hu
      rw [hu] at hR
      replace hR := Lib.hid hR.out
      go_wp2_with fail
      refine rune_calls r _ _ (fun w2 n2 => ?_)
      go_wp2_with fail
      exact ret2i (hR.out _ (n1.trans (n2.mono n1.size))) rfl (by omega)

theorem ext_all (s : ByteArray) : s.extract 0 s.size = s := by simp
theorem ext_ext {s : ByteArray} {a n : Nat} : (s.extract a s.size).extract n (s.size - a) = s.extract (a + n) s.size := by
  rw [ByteArray.extract_extract]; congr 1; omega
theorem unit0 {s : ByteArray} {a : Nat} (h : a < s.size) : unitV (s.extract a s.size) 0 = unitS s a := by
  have hz : (s.extract a s.size).size = s.size - a := by rw [ByteArray.size_extract]; omega
  have := unitV_in (s := s.extract a s.size) (i := 0) (by omega)
  rw [show ((0 : Nat) : Int) = 0 from rfl] at this
  rw [this, unit_suffix (by omega) (by omega), Nat.add_zero]
set_option maxRecDepth 100000 in
theorem wid_calls (s : ByteArray) (w : World) (hs : s.size ≤ 1000000) (R : Ending → World → Prop)
    (hR : Hid (∀ w', Below w.heap.size w w' → R (.returned (.int .i64 (widS s))) w')) : Calls Try.prog 30 #[.string s] w R := by
  go_enter Try.func30, Try.ntmps30
  go_wp2_with fail
  go_loopg [0, 3] s.size (fun k x c wr => ∃ (a : Nat) (C : Int), Below w.heap.size w wr ∧ x = .string (s.extract a s.size) ∧ c = .int .i64 C ∧ a + k = s.size ∧ 0 ≤ C ∧ C ≤ 2 * a ∧ Hid (C + widF s a = widS s))
  case atStart => exact ⟨0, 0, Below.refl _ _, by rw [ext_all], rfl, by omega, by omega, by omega, Lib.hid (by unfold widS; omega)⟩
  case round =>
    obtain ⟨a, C, hbel, rfl, rfl, c1, c2, c3, c4⟩ := hrel
    have hsz := hbel.size
    have hz : (s.extract a s.size).size = s.size - a := by rw [ByteArray.size_extract]; omega
    by_cases hK : a < s.size
    · have e := c4.out
      rw [widF_step s a hK, ← Int.add_assoc] at e
      have hb := unit_bd s a hK
      have cU := fun (W : World) R hR => unit_calls (s.extract a s.size) 0 W (by omega) R hR
      rw [unit0 hK] at cU
      clear c4
      replace e := Lib.hid e
      generalize unitS s a = u at *
      obtain ⟨c, n⟩ := u
      simp only at hb cU e
      have hE := isE_pos (s := s.extract a s.size) (by omega)
      have hX := @ext_ext s a n
      generalize s.extract a s.size = x at *
      replace cU := Lib.hid cU
      go_wp2_with fail
      refine cU.out _ _ (fun w2 n2 => ?_)
      have nb := hbel.trans (n2.mono hsz)
      go_wp2_with fail
      go_roundg (gk - n)
      case measure => omega
      case rel => exact ⟨a + n, C + c, nb, rfl, by go_num, by omega, by omega, by omega, e⟩
    · have hE := isE_nil (s := s.extract a s.size) (by omega)
      have e := c4.out
      rw [widF_end s a (by omega)] at e
      clear c4
      replace e := Lib.hid e
      generalize s.extract a s.size = x at *
      go_wp2_with fail
      exact retI (hR.out _ hbel) (by have := e.out; omega)

theorem wf64 {n : Int} (h : (Lit.int .i64 n).wf = true) : -9223372036854775808 ≤ n ∧ n ≤ 9223372036854775807 := by
  simp only [Lit.wf, Bool.and_eq_true, decide_eq_true_eq] at h
  exact ⟨Int.le_trans (by decide) h.1, Int.le_trans h.2 (by decide)⟩
end Go.Proofs.Ytheeabngdnhibaa.Cel
