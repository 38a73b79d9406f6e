/- Join. -/
import Derived.Test.YtcgknfpcpjiciaaRanJ
set_option linter.unusedVariables false
namespace Go.Proofs.Ytcgknfpcpjiciaa.Ran
open Go.RowKit Go.Lib

theorem RdN.len {w : World} {b : Nat} {v : Value} {l : List Rg} (h : RdN w b v l) : ∃ A c, v = .slice A l.length c := by
  rcases h.cases with ⟨rfl, rfl⟩ | ⟨g, o, c, rfl, -⟩ <;> exact ⟨_, _, rfl⟩
end Go.Proofs.Ytcgknfpcpjiciaa.Ran
