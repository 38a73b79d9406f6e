/- The reference's Unquote. -/
import Derived.Test.YtmchgimbfdeaiaaZEscO
import Derived.Test.YtmchgimbfdeaiaaZEscF
set_option maxRecDepth 100000
set_option linter.unusedVariables false
namespace Go.Proofs.Ytmchgimbfdeaiaa.Esc
open Go.RowKit Go.Lib Go.Proofs.Ytmchgimbfdeaiaa.Utf Go.Proofs.Ytmchgimbfdeaiaa.Ran Go.Proofs.Ytmchgimbfdeaiaa.Cel Go.Proofs.Ytmchgimbfdeaiaa.Bld

theorem oneP_in {q : ByteArray} {j : Nat} (hj : j < q.size) : oneP q j = oneL ((bl q).drop j) := by
  unfold oneP
  split
  · rw [bl_drop hj, List.drop_eq_nil_of_le (by rw [bl_length]; omega)]; rfl
  · rfl
theorem oneP_not {q : ByteArray} {j : Nat} (hj : j < q.size) (h : byN q j ≠ 92) : oneP q j = ([], 0) := by
  rw [oneP_in hj, bl_drop hj]
  by_cases h2 : j + 1 < q.size
  · rw [bl_drop h2, oneL_other (by omega)]
  · rw [List.drop_eq_nil_of_le (by rw [bl_length]; omega)]; rfl
end Go.Proofs.Ytmchgimbfdeaiaa.Esc
