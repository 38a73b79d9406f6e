/- Small lemmas of my own that the walks of this seat use: results of a walk behind an abstract post, and a new block of bytes turned into a string. -/
import Derived.Test.YtbochlbgjnmgjaaGreatChecked
import Derived.WalkKit
import Derived.WalkSpells
import Derived.WalkLawsBesides
import Derived.Lib.Hide
import Derived.Deep.QuietTactic
import Derived.BigQuiet
import Derived.Deep.LoopGhost
import Derived.Deep.RegionHeld3
import Derived.Deep.RegionWith
import Derived.Deep.DeepMust
import Derived.Lib.Bytes
set_option maxRecDepth 100000
set_option linter.unusedVariables false
namespace Go.Proofs.YtbochlbgjnmgjaaGreat
open Go.RowKit Go.Lib

section
variable {R : Ending → World → Prop} {w : World}
theorem retB {a b : Bool} (h : R (.returned (.bool a)) w) (e : a = b) : R (.returned (.bool b)) w := e ▸ h
end

@[simp] theorem intOf_int (k : IntKind) (n : Int) : intOf (.int k n) = n := rfl

theorem wf64 {n : Int} (h : (Lit.int .i64 n).wf = true) : -9223372036854775808 ≤ n ∧ n ≤ 9223372036854775807 := by
  simp only [Lit.wf, Bool.and_eq_true, decide_eq_true_eq] at h
  exact ⟨Int.le_trans (by decide) h.1, Int.le_trans h.2 (by decide)⟩
end Go.Proofs.YtbochlbgjnmgjaaGreat
