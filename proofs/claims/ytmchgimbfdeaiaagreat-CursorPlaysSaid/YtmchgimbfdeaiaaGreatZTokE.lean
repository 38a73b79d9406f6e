/- Layer 13: the chapter's example, lives; the law TokensMarks walked. -/
import Derived.Test.YtmchgimbfdeaiaaGreatG11
import Derived.Test.YtmchgimbfdeaiaaGreatG8
import Derived.Test.YtmchgimbfdeaiaaGreatFltK
set_option maxRecDepth 100000
set_option linter.unusedVariables false
namespace Go.Proofs.YtmchgimbfdeaiaaGreat.Tok
open Go.RowKit Go.Lib Go.Proofs.YtmchgimbfdeaiaaGreat.Utf Go.Proofs.YtmchgimbfdeaiaaGreat.Ran Go.Proofs.YtmchgimbfdeaiaaGreat.Dig Go.Proofs.YtmchgimbfdeaiaaGreat.Nam Go.Proofs.YtmchgimbfdeaiaaGreat.Pat

theorem wfU8 {n : Int} (h : (Lit.int .u8 n).wf = true) : 0 ≤ n ∧ n < 256 := by
  simp only [Lit.wf, Bool.and_eq_true, decide_eq_true_eq] at h
  exact ⟨Int.le_trans (by decide) h.1, Int.lt_of_le_of_lt h.2 (by decide)⟩
def exT : List Tk := [(1, 0, 1, ⟨#[97]⟩, 0), (4, 1, 2, ⟨#[58]⟩, 0), (2, 2, 4, ByteArray.empty, -1), (0, 4, 4, ByteArray.empty, 0)]
theorem ex_scan : scnS ⟨#[97, 58, 45, 49]⟩ = (some exT, 0, 0) := by kernel_rfl
end Go.Proofs.YtmchgimbfdeaiaaGreat.Tok
