/- Small lemmas of my own that the walks of this seat use: results of a walk behind an abstract post, and a new block of bytes turned into a string. -/
import Derived.Test.YtafipbmcepbpjaaChecked
import Derived.WalkKit
import Derived.WalkSpells
import Derived.WalkLawsBesides
import Derived.Lib.Hide
import Derived.Deep.QuietTactic
import Derived.BigQuiet
import Derived.Deep.LoopGhost
import Derived.Deep.RegionHeld3
import Derived.Deep.RegionWith
import Derived.Deep.DeepMust
import Derived.Lib.Bytes
set_option linter.unusedVariables false
namespace Go.Proofs.Ytafipbmcepbpjaa
open Go.RowKit Go.Lib

section
variable {R : Ending → World → Prop} {w : World}
theorem retB {a b : Bool} (h : R (.returned (.bool a)) w) (e : a = b) : R (.returned (.bool b)) w := e ▸ h
theorem retI {k : IntKind} {a b : Int} (h : R (.returned (.int k a)) w) (e : a = b) : R (.returned (.int k b)) w := e ▸ h
theorem retS {a b : ByteArray} (h : R (.returned (.string a)) w) (e : a = b) : R (.returned (.string b)) w := e ▸ h
end

def isU8 : Value → Bool | .int .u8 _ => true | _ => false
def allU8 : List Value → Bool | [] => true | v :: l => isU8 v && allU8 l
@[simp] theorem allU8_nil : allU8 [] = true := rfl
@[simp] theorem allU8_cons (n : Int) (l : List Value) : allU8 (.int .u8 n :: l) = allU8 l := by simp [allU8, isU8]
@[simp] theorem intOf_int (k : IntKind) (n : Int) : intOf (.int k n) = n := rfl

theorem allU8_get : ∀ (l : List Value), allU8 l = true → ∀ i, i < l.length → l[i]? = some (.int .u8 ((l.map intOf).getD i 0))
  | [], _, i, h => by simp at h
  | v :: l, h, i, hi => by
    simp only [allU8, Bool.and_eq_true] at h
    cases i with
    | zero =>
      match v, h.1 with
      | .int .u8 n, _ => simp
    | succ i =>
      have := allU8_get l h.2 i (by simpa using hi)
      simpa using this

theorem run_conv_new {P : Program} (src dst e : TypeId) (hs : P.underlying src = some (.slice e)) (he : P.underlying e = some (.int .u8)) (hd : P.underlying dst = some .string)
    (w : World) (cs : Array Value) (T : TypeId) (n cap : Nat) (h : allU8 (cs.toList.take n) = true) (hn : n ≤ cs.size) :
    (convert src dst (.slice (some ⟨w.heap.size, 0, none⟩) n cap)).run P (w.alloc (.cells cs T)) = .ok (.string (strOfNums ((cs.toList.take n).map intOf))) (w.alloc (.cells cs T)) := by
  refine run_convert_bytes_arg (P := P) _ src e hs he w.heap.size 0 n cap _ (by simp; omega) ?_ dst hd
  intro i hi
  have h1 := allU8_get _ h i (by simp; omega)
  rw [List.getElem?_take_of_lt hi] at h1
  rw [Nat.zero_add, World.cell?_alloc_new, ← Array.getElem?_toList, h1]

theorem cvB : ∀ (w : World) (cs : Array Value) (T : TypeId) (n cap b : Nat), b = w.heap.size → allU8 (cs.toList.take n) = true → n ≤ cs.size →
    (convert 44 9 (.slice (some ⟨b, 0, none⟩) n cap)).run Try.prog (w.alloc (.cells cs T)) = .ok (.string (strOfNums ((cs.toList.take n).map intOf))) (w.alloc (.cells cs T)) :=
  fun w cs T n cap b hb h1 h2 => hb ▸ run_conv_new _ _ _ Try.underlying44 Try.underlying5 Try.underlying9 w cs T n cap h1 h2

/-- What a function of three results hands back. -/
theorem ret3 {R : Ending → World → Prop} {w : World} {a b c a' b' c' : Value} (h : R (.returned (.tuple #[a, b, c])) w) (e1 : a = a') (e2 : b = b') (e3 : c = c') :
    R (.returned (.tuple #[a', b', c'])) w := by subst e1 e2 e3; exact h
theorem ret3e {R : Ending → World → Prop} {w : World} {k1 k2 : IntKind} {d : Int × Int × Bool} {a b : Int} {c : Bool}
    (h : R (.returned (.tuple #[.int k1 d.1, .int k2 d.2.1, .bool d.2.2])) w) (e : (a, b, c) = d) : R (.returned (.tuple #[.int k1 a, .int k2 b, .bool c])) w := by subst e; exact h
theorem vI {k : IntKind} {a b : Int} (e : a = b) : Value.int k a = .int k b := e ▸ rfl
theorem vB {a b : Bool} (e : a = b) : Value.bool a = .bool b := e ▸ rfl

end Go.Proofs.Ytafipbmcepbpjaa
