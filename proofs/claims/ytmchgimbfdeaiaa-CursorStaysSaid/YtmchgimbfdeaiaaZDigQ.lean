/- The reference's Take. -/
import Derived.Test.YtmchgimbfdeaiaaZDigR
import Derived.Test.YtmchgimbfdeaiaaG10
import Derived.Deep.DeepCutAuto
import Derived.Deep.CutBlock
set_option maxRecDepth 100000
set_option linter.unusedVariables false
namespace Go.Proofs.Ytmchgimbfdeaiaa.Dig
open Go.RowKit Go.Lib Go.Proofs.Ytmchgimbfdeaiaa.Utf

/-- The greatest digits. -/
def mostS (neg : Bool) : ByteArray := if neg then ⟨#[57, 50, 50, 51, 51, 55, 50, 48, 51, 54, 56, 53, 52, 55, 55, 53, 56, 48, 56]⟩ else ⟨#[57, 50, 50, 51, 51, 55, 50, 48, 51, 54, 56, 53, 52, 55, 55, 53, 56, 48, 55]⟩
theorem most_ok (neg : Bool) : Dg (bl (mostS neg)) ∧ (bl (mostS neg)).length = 19 ∧ valN (bl (mostS neg)) = lowN neg ∧ (mostS neg).size = 19 := by
  cases neg
  · refine ⟨fun x hx => ?_, by decide, by decide, by decide⟩
    have : ∀ x ∈ bl (mostS false), 48 ≤ x ∧ x ≤ 57 := by decide
    exact this x hx
  · refine ⟨fun x hx => ?_, by decide, by decide, by decide⟩
    have : ∀ x ∈ bl (mostS true), 48 ≤ x ∧ x ≤ 57 := by decide
    exact this x hx

end Go.Proofs.Ytmchgimbfdeaiaa.Dig
