/- The reference's Hex, Unit, Quote, hex. -/
import Derived.Test.YthelhplcijhioaaGreatZEscA
import Derived.Test.YthelhplcijhioaaGreatG9
set_option maxRecDepth 100000
set_option linter.unusedVariables false
namespace Go.Proofs.YthelhplcijhioaaGreat.Esc
open Go.RowKit Go.Lib Go.Proofs.YthelhplcijhioaaGreat.Utf Go.Proofs.YthelhplcijhioaaGreat.Ran Go.Proofs.YthelhplcijhioaaGreat.Cel

def digs : ByteArray := ⟨#[48, 49, 50, 51, 52, 53, 54, 55, 56, 57, 97, 98, 99, 100, 101, 102]⟩
theorem digs_at {d : Nat} (h : d < 16) : digs.extract d (d + 1) = strOfNums [(dg d : Int)] :=
  (by decide +kernel : ∀ d : Fin 16, digs.extract d.val (d.val + 1) = strOfNums [(dg d.val : Int)]) ⟨d, h⟩
theorem digs_size : digs.size = 16 := rfl
theorem hex_two {c : Nat} (h : 16 ≤ c) : hexB (c / 16) ++ hexB (c % 16) = hexB c := by
  rw [hexB_ge (by omega : ¬ c < 16), hexB_lt (by omega : c % 16 < 16)]
theorem bad_ge {s : ByteArray} {j : Nat} (hj : j < s.size) (h : ¬ (decS s j).2.2 = true) : 16 ≤ byN s j := by
  refine Nat.le_of_not_lt fun h9 => h ?_
  have h10 : leadL (byN s j) = (((1 : Nat) : Int), 0, 0) := by unfold leadL; rw [if_pos (by omega)]; rfl
  rw [decS_in hj h10 (by omega)]
  rfl
theorem ret2si' {R : Ending → World → Prop} {w : World} {a a' : ByteArray} {b b' : Int} (h : R (.returned (.tuple #[.string a, .int .i64 b])) w) (e1 : a = a') (e2 : b = b') :
    R (.returned (.tuple #[.string a', .int .i64 b'])) w := by subst e1 e2; exact h
end Go.Proofs.YthelhplcijhioaaGreat.Esc
