/- The code's Rune, Unit, Width, Cut. -/
import Derived.Test.YtmchgimbfdeaiaaGreatZCelR
set_option maxRecDepth 100000
set_option linter.unusedVariables false
namespace Go.Proofs.YtmchgimbfdeaiaaGreat.Cel
open Go.RowKit Go.Lib Go.Proofs.YtmchgimbfdeaiaaGreat.Utf Go.Proofs.YtmchgimbfdeaiaaGreat.Ran

theorem bdq {B : Nat} {a w : World} (h : Below B a w) (n : Nat) : Below B a (w.drewN n) := ⟨h.os, h.tape, h.output, h.size, h.block⟩
/-- The unit at any index: nothing outside the string. -/
def unitV (s : ByteArray) (i : Int) : Int × Nat := if i < 0 ∨ (s.size : Int) ≤ i then (0, 0) else unitS s i.toNat
theorem unitV_in {s : ByteArray} {i : Nat} (h : i < s.size) : unitV s i = unitS s i := by unfold unitV; rw [if_neg (by omega)]; rfl
theorem ext_all (s : ByteArray) : s.extract 0 s.size = s := by simp
theorem ext_ext {s : ByteArray} {a n : Nat} : (s.extract a s.size).extract n (s.size - a) = s.extract (a + n) s.size := by
  rw [ByteArray.extract_extract]; congr 1; omega
theorem unit0 {s : ByteArray} {a : Nat} (h : a < s.size) : unitV (s.extract a s.size) 0 = unitS s a := by
  have hz : (s.extract a s.size).size = s.size - a := by rw [ByteArray.size_extract]; omega
  have := unitV_in (s := s.extract a s.size) (i := 0) (by omega)
  rw [show ((0 : Nat) : Int) = 0 from rfl] at this
  rw [this, unit_suffix (by omega) (by omega), Nat.add_zero]
theorem wf64 {n : Int} (h : (Lit.int .i64 n).wf = true) : -9223372036854775808 ≤ n ∧ n ≤ 9223372036854775807 := by
  simp only [Lit.wf, Bool.and_eq_true, decide_eq_true_eq] at h
  exact ⟨Int.le_trans (by decide) h.1, Int.le_trans h.2 (by decide)⟩
end Go.Proofs.YtmchgimbfdeaiaaGreat.Cel
