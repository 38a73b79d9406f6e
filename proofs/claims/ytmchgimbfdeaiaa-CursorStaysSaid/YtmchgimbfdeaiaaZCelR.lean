/- The reference's Unit, Width, Cut, Lines, Widest. -/
import Derived.Test.YtmchgimbfdeaiaaG5
import Derived.Test.YtmchgimbfdeaiaaZPinR
set_option maxRecDepth 100000
set_option linter.unusedVariables false
namespace Go.Proofs.Ytmchgimbfdeaiaa.Cel
open Go.RowKit Go.Lib Go.Proofs.Ytmchgimbfdeaiaa.Utf Go.Proofs.Ytmchgimbfdeaiaa.Ran

theorem ret2i {R : Ending → World → Prop} {w : World} {a b c d : Int} (h : R (.returned (.tuple #[.int .i64 a, .int .i64 b])) w) (e1 : a = c) (e2 : b = d) : R (.returned (.tuple #[.int .i64 c, .int .i64 d])) w := by subst e1 e2; exact h
theorem isE_pos {s : ByteArray} (h : 0 < s.size) : s.toList.isEmpty = false := by
  have : s.toList.length = s.size := by rw [ba_toList]; simp
  cases e : s.toList with
  | nil => rw [e] at this; simp at this; omega
  | cons a l => rfl
theorem isE_nil {s : ByteArray} (h : s.size = 0) : s.toList.isEmpty = true := by
  have : s.toList.length = s.size := by rw [ba_toList]; simp
  cases e : s.toList with
  | nil => rfl
  | cons a l => rw [e] at this; simp at this; omega

def cutS (s : ByteArray) (most : Int) : Nat := cutF s 0 most
end Go.Proofs.Ytmchgimbfdeaiaa.Cel
