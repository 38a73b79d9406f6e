/- The code's written, Unit, Quote, Columns. -/
import Derived.Test.YtmchgimbfdeaiaaGreatZEscA
import Derived.Test.YtmchgimbfdeaiaaGreatG10
set_option maxRecDepth 100000
set_option linter.unusedVariables false
namespace Go.Proofs.YtmchgimbfdeaiaaGreat.Esc
open Go.RowKit Go.Lib Go.Proofs.YtmchgimbfdeaiaaGreat.Utf Go.Proofs.YtmchgimbfdeaiaaGreat.Ran Go.Proofs.YtmchgimbfdeaiaaGreat.Cel Go.Proofs.YtmchgimbfdeaiaaGreat.Bld

/-- The unit at any index as it is written. -/
def unP (s : ByteArray) (i : Int) : ByteArray × Nat := if i < 0 ∨ (s.size : Int) ≤ i then (ByteArray.empty, 0) else unS s i.toNat
theorem unP_in {s : ByteArray} {i : Nat} (h : i < s.size) : unP s i = unS s i := by unfold unP; rw [if_neg (by omega)]; rfl
theorem ret2si {R : Ending → World → Prop} {w : World} {a a' : ByteArray} {b b' : Int} (h : R (.returned (.tuple #[.string a, .int .i64 b])) w) (e1 : a = a') (e2 : b = b') :
    R (.returned (.tuple #[.string a', .int .i64 b'])) w := by subst e1 e2; exact h
end Go.Proofs.YtmchgimbfdeaiaaGreat.Esc
