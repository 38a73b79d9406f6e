/- A slice of strings as a list; the reference's Find, Twice, Same. -/
import Derived.Test.YtbochlbgjnmgjaaGreatNamS
import Derived.Test.YtbochlbgjnmgjaaGreatOwn
import Derived.SliceStrings
import Derived.Deep.AppendLies
set_option maxRecDepth 100000
set_option linter.unusedVariables false
namespace Go.Proofs.YtbochlbgjnmgjaaGreat.Nam
open Go.RowKit Go.Lib Go.Proofs.YtbochlbgjnmgjaaGreat.Utf Go.ChangeShapes Go.WideShapes

def sv (l : List ByteArray) : List Value := l.map Value.string
theorem sv_len (l : List ByteArray) : (sv l).length = l.length := by simp [sv]
theorem sv_append (l m : List ByteArray) : sv (l ++ m) = sv l ++ sv m := by simp [sv]
theorem sv_get (l : List ByteArray) (k : Nat) (h : k < l.length) : (sv l)[k]? = some (.string (l.getD k ByteArray.empty)) := by simp [sv, List.getD, List.getElem?_eq_getElem h]
/-- A slice that reads as a list of strings. -/
def RdS (w : World) (v : Value) (l : List ByteArray) : Prop := RdAt w v 1 (sv l)
theorem RdS.below {w w' : World} {v : Value} {l : List ByteArray} (h : RdS w v l) (hb : Below w.heap.size w w') : RdS w' v l := RdAt.below h hb
theorem RdS.open {w : World} {v : Value} {l : List ByteArray} (h : RdS w v l) : ∃ (A : Option Addr) (c : Nat), v = .slice A l.length c ∧ l.length ≤ c ∧
    (0 < l.length → ∃ g o, A = some ⟨g, o, none⟩ ∧ g < w.heap.size ∧ ∀ k, k < l.length → w.cell? ⟨g, o + k, none⟩ = some (.string (l.getD k ByteArray.empty))) := by
  obtain ⟨A, n, c, rfl, hl, hn, hc⟩ := h
  rw [sv_len] at hl
  obtain rfl : n = l.length := by omega
  refine ⟨A, c, rfl, hn, fun h0 => ?_⟩
  obtain ⟨g, o, rfl, hg, hc⟩ := hc (by rw [sv_len]; omega)
  exact ⟨g, o, rfl, hg, fun k hk => hc _ _ (sv_get l k hk)⟩
theorem RdS.of_own {w : World} {base : Nat} {e : TypeId} {n : Nat} {v : Value} {l : List ByteArray} (h : w.ownsRow base e 1 v n (sv l)) : RdS w v l := RdAt.of_own h
/- What is kept behind an append, an alloc, a store. -/
theorem alloc_keep {W : World} {o : Obj} {g x : Nat} {u : Value} (hg : g < W.heap.size) (hc : W.cell? ⟨g, x, none⟩ = some u) : ((W.alloc o).drew).cell? ⟨g, x, none⟩ = some u := (((Below.refl W.heap.size W).alloc (Nat.le_refl _) o).cell (p := ⟨g, x, none⟩) hg).trans hc
theorem seq_t {a b : ByteArray} (h : a = b) : (a.toList == b.toList) = true := by rw [seq_iff]; exact decide_eq_true h
theorem seq_f {a b : ByteArray} (h : ¬ a = b) : (a.toList == b.toList) = false := by rw [seq_iff]; exact decide_eq_false h
theorem take_succS (xs : List ByteArray) (k : Nat) (h : k < xs.length) : xs.take (k + 1) = xs.take k ++ [xs.getD k ByteArray.empty] := by
  rw [List.take_add_one, List.getD, List.getElem?_eq_getElem h]; rfl

end Go.Proofs.YtbochlbgjnmgjaaGreat.Nam
