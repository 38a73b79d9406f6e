/- A new block of bytes turned into a string. -/
import Derived.Test.YtbochlbgjnmgjaaGreatLib
set_option maxRecDepth 100000
set_option linter.unusedVariables false
namespace Go.Proofs.YtbochlbgjnmgjaaGreat
open Go.RowKit Go.Lib

def isU8 : Value → Bool | .int .u8 _ => true | _ => false
def allU8 : List Value → Bool | [] => true | v :: l => isU8 v && allU8 l
@[simp] theorem allU8_nil : allU8 [] = true := rfl
@[simp] theorem allU8_cons (n : Int) (l : List Value) : allU8 (.int .u8 n :: l) = allU8 l := by simp [allU8, isU8]
theorem allU8_get : ∀ (l : List Value), allU8 l = true → ∀ i, i < l.length → l[i]? = some (.int .u8 ((l.map intOf).getD i 0))
  | [], _, i, h => by simp at h
  | v :: l, h, i, hi => by
    simp only [allU8, Bool.and_eq_true] at h
    cases i with
    | zero =>
      match v, h.1 with
      | .int .u8 n, _ => simp
    | succ i =>
      have := allU8_get l h.2 i (by simpa using hi)
      simpa using this

end Go.Proofs.YtbochlbgjnmgjaaGreat
