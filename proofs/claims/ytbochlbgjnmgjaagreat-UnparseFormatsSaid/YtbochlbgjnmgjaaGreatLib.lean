/- Small lemmas of my own that the walks of this seat use: results of a walk behind an abstract post, and a new block of bytes turned into a string. -/
import Derived.Test.YtbochlbgjnmgjaaGreatChecked
import Derived.WalkKit
import Derived.WalkSpells
import Derived.WalkLawsBesides
import Derived.Lib.Hide
import Derived.Deep.QuietTactic
import Derived.BigQuiet
import Derived.Deep.LoopGhost
import Derived.Deep.RegionHeld3
import Derived.Deep.RegionWith
import Derived.Deep.DeepMust
import Derived.Lib.Bytes
set_option maxRecDepth 100000
set_option linter.unusedVariables false
namespace Go.Proofs.YtbochlbgjnmgjaaGreat
open Go.RowKit Go.Lib

section
variable {R : Ending → World → Prop} {w : World}
theorem retB {a b : Bool} (h : R (.returned (.bool a)) w) (e : a = b) : R (.returned (.bool b)) w := e ▸ h
theorem retI {k : IntKind} {a b : Int} (h : R (.returned (.int k a)) w) (e : a = b) : R (.returned (.int k b)) w := e ▸ h
theorem retS {a b : ByteArray} (h : R (.returned (.string a)) w) (e : a = b) : R (.returned (.string b)) w := e ▸ h
end

@[simp] theorem intOf_int (k : IntKind) (n : Int) : intOf (.int k n) = n := rfl

/-- What a function of three results hands back. -/
theorem ret3 {R : Ending → World → Prop} {w : World} {a b c a' b' c' : Value} (h : R (.returned (.tuple #[a, b, c])) w) (e1 : a = a') (e2 : b = b') (e3 : c = c') :
    R (.returned (.tuple #[a', b', c'])) w := by subst e1 e2 e3; exact h
theorem ret3e {R : Ending → World → Prop} {w : World} {k1 k2 : IntKind} {d : Int × Int × Bool} {a b : Int} {c : Bool}
    (h : R (.returned (.tuple #[.int k1 d.1, .int k2 d.2.1, .bool d.2.2])) w) (e : (a, b, c) = d) : R (.returned (.tuple #[.int k1 a, .int k2 b, .bool c])) w := by subst e; exact h
theorem vI {k : IntKind} {a b : Int} (e : a = b) : Value.int k a = .int k b := e ▸ rfl
theorem vB {a b : Bool} (e : a = b) : Value.bool a = .bool b := e ▸ rfl

theorem wf64 {n : Int} (h : (Lit.int .i64 n).wf = true) : -9223372036854775808 ≤ n ∧ n ≤ 9223372036854775807 := by
  simp only [Lit.wf, Bool.and_eq_true, decide_eq_true_eq] at h
  exact ⟨Int.le_trans (by decide) h.1, Int.le_trans h.2 (by decide)⟩
end Go.Proofs.YtbochlbgjnmgjaaGreat
