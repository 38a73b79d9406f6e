/- The code of layer 10: what a relation is in memory; bit, Len, isElement. -/
import Derived.Test.YtoeianacjnlepaaRelD
import Derived.Test.YtoeianacjnlepaaRelT
import Derived.Laws.Shifts
set_option maxRecDepth 100000
set_option linter.unusedVariables false
namespace Go.Proofs.Ytoeianacjnlepaa.Rel
open Go.RowKit Go.Lib

/-- A pointer to a relation on n things that contains the pairs P: its number of things, and its rows. -/
def RelP (w : World) (v : Value) (n : Nat) (P : List (Nat × Nat)) : Prop :=
  ∃ (p : Nat) (f : Nat → Nat), v = .pointer (some ⟨p, 0, none⟩) ∧ p < w.heap.size ∧ w.cell? ⟨p, 0, none⟩ = some (.int .i64 n) ∧ (∀ a, a < 64 → w.cell? ⟨p, 1 + a, none⟩ = some (.int .u64 (f a : Nat))) ∧ Rows P f
theorem RelP.below {w w' : World} {v : Value} {n : Nat} {P : List (Nat × Nat)} (h : RelP w v n P) (hb : Below w.heap.size w w') : RelP w' v n P := by
  obtain ⟨p, f, rfl, hp, h0, h1, h2⟩ := h
  exact ⟨p, f, rfl, Nat.lt_of_lt_of_le hp hb.size, (hb.cell (p := ⟨p, 0, none⟩) hp).trans h0, fun a ha => (hb.cell (p := ⟨p, 1 + a, none⟩) hp).trans (h1 a ha), h2⟩
theorem RelP.ptr {w : World} {v : Value} {n : Nat} {P : List (Nat × Nat)} (h : RelP w v n P) : ∃ p, v = .pointer (some ⟨p, 0, none⟩) := by
  obtain ⟨p, f, rfl, -⟩ := h
  exact ⟨p, rfl⟩

theorem wrap_bit {a : Nat} (h : a < 64) : IntKind.u64.wrap (2 ^ a) = ((bitN a : Nat) : Int) := by
  have h1 := bit_wd h
  unfold Wd at h1
  rw [IntKind.wrap_u64, show ((2 : Int) ^ a) = ((bitN a : Nat) : Int) by unfold bitN; simp]
  omega

set_option maxHeartbeats 400000 in
theorem bit_calls (a : Nat) (ha : a < 64) (w : World) (R : Ending → World → Prop) (hR : Hid (R (.returned (.int .u64 (bitN a : Nat))) w)) : Calls Try.prog 48 #[.int .i64 a] w R := by
  have e := wrap_bit ha
  have hm : min a 64 = a := by omega
  have h0 : (0 : Int) ≤ (a : Int) := by omega
  go_enter Try.func48, Try.ntmps48
  go_wp2_with fail
  exact hR.out

set_option maxHeartbeats 400000 in
theorem rellenx_calls (n : Nat) (P : List (Nat × Nat)) (v : Value) (w : World) (h : RelP w v n P) (R : Ending → World → Prop) (hR : Hid (R (.returned (.int .i64 n)) w)) : Calls Try.prog 49 #[v] w R := by
  obtain ⟨p, f, rfl, hp, h0, -⟩ := h
  go_enter Try.func49, Try.ntmps49
  go_wp2_with fail
  exact hR.out
set_option maxHeartbeats 400000 in
theorem rellennonex_calls (w : World) (R : Ending → World → Prop) (hR : Hid (R (.returned (.int .i64 0)) w)) : Calls Try.prog 49 #[.pointer none] w R := by
  go_enter Try.func49, Try.ntmps49
  go_wp2_with fail
  exact hR.out
set_option maxHeartbeats 400000 in
theorem relelem_calls (n : Nat) (P : List (Nat × Nat)) (v : Value) (w : World) (h : RelP w v n P) (a : Int) (b : Bool) (hb : b = decide (0 ≤ a ∧ a < n)) (R : Ending → World → Prop) (hR : Hid (R (.returned (.bool b)) w)) : Calls Try.prog 47 #[v, .int .i64 a] w R := by
  have cL := Lib.hid fun R hR => rellenx_calls n P v w h R hR
  obtain ⟨p, rfl⟩ := h.ptr
  clear h
  by_cases h0 : 0 ≤ a
  · by_cases h1 : a < n
    · obtain rfl : b = true := by rw [hb]; exact decide_eq_true ⟨h0, h1⟩
      clear hb
      go_enter Try.func47, Try.ntmps47
      go_wp2_with fail
      refine cL.out _ (Lib.hid ?_)
      go_wp2_with fail
      exact hR.out
    · obtain rfl : b = false := by rw [hb]; exact decide_eq_false (fun h => h1 h.2)
      clear hb
      go_enter Try.func47, Try.ntmps47
      go_wp2_with fail
      refine cL.out _ (Lib.hid ?_)
      go_wp2_with fail
      exact retB hR.out (decide_eq_false (by omega)).symm
  · obtain rfl : b = false := by rw [hb]; exact decide_eq_false (fun h => h0 h.1)
    clear hb
    go_enter Try.func47, Try.ntmps47
    go_wp2_with fail
    exact hR.out
set_option maxHeartbeats 400000 in
theorem relelemnone_calls (w : World) (a : Int) (R : Ending → World → Prop) (hR : Hid (R (.returned (.bool false)) w)) : Calls Try.prog 47 #[.pointer none, .int .i64 a] w R := by
  by_cases h0 : 0 ≤ a
  · go_enter Try.func47, Try.ntmps47
    go_wp2_with fail
    refine rellennonex_calls _ _ (Lib.hid ?_)
    go_wp2_with fail
    exact retB hR.out (decide_eq_false (by omega)).symm
  · go_enter Try.func47, Try.ntmps47
    go_wp2_with fail
    exact hR.out
end Go.Proofs.Ytoeianacjnlepaa.Rel
