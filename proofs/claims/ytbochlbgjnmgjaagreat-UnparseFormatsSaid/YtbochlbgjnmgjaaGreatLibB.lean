/- A new block of bytes turned into a string. -/
import Derived.Test.YtbochlbgjnmgjaaGreatLib
set_option maxRecDepth 100000
set_option linter.unusedVariables false
namespace Go.Proofs.YtbochlbgjnmgjaaGreat
open Go.RowKit Go.Lib

def isU8 : Value → Bool | .int .u8 _ => true | _ => false
def allU8 : List Value → Bool | [] => true | v :: l => isU8 v && allU8 l
@[simp] theorem allU8_nil : allU8 [] = true := rfl
@[simp] theorem allU8_cons (n : Int) (l : List Value) : allU8 (.int .u8 n :: l) = allU8 l := by simp [allU8, isU8]
theorem allU8_get : ∀ (l : List Value), allU8 l = true → ∀ i, i < l.length → l[i]? = some (.int .u8 ((l.map intOf).getD i 0))
  | [], _, i, h => by simp at h
  | v :: l, h, i, hi => by
    simp only [allU8, Bool.and_eq_true] at h
    cases i with
    | zero =>
      match v, h.1 with
      | .int .u8 n, _ => simp
    | succ i =>
      have := allU8_get l h.2 i (by simpa using hi)
      simpa using this

theorem run_conv_new {P : Program} (src dst e : TypeId) (hs : P.underlying src = some (.slice e)) (he : P.underlying e = some (.int .u8)) (hd : P.underlying dst = some .string)
    (w : World) (cs : Array Value) (T : TypeId) (n cap : Nat) (h : allU8 (cs.toList.take n) = true) (hn : n ≤ cs.size) :
    (convert src dst (.slice (some ⟨w.heap.size, 0, none⟩) n cap)).run P (w.alloc (.cells cs T)) = .ok (.string (strOfNums ((cs.toList.take n).map intOf))) (w.alloc (.cells cs T)) := by
  refine run_convert_bytes_arg (P := P) _ src e hs he w.heap.size 0 n cap _ (by simp; omega) ?_ dst hd
  intro i hi
  have h1 := allU8_get _ h i (by simp; omega)
  rw [List.getElem?_take_of_lt hi] at h1
  rw [Nat.zero_add, World.cell?_alloc_new, ← Array.getElem?_toList, h1]

theorem cvB : ∀ (w : World) (cs : Array Value) (T : TypeId) (n cap b : Nat), b = w.heap.size → allU8 (cs.toList.take n) = true → n ≤ cs.size →
    (convert 90 9 (.slice (some ⟨b, 0, none⟩) n cap)).run Tryz.prog (w.alloc (.cells cs T)) = .ok (.string (strOfNums ((cs.toList.take n).map intOf))) (w.alloc (.cells cs T)) :=
  fun w cs T n cap b hb h1 h2 => hb ▸ run_conv_new _ _ _ Tryz.underlying90 Tryz.underlying5 Tryz.underlying9 w cs T n cap h1 h2

end Go.Proofs.YtbochlbgjnmgjaaGreat
