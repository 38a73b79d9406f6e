/- A slice of indices as a list. -/
import Derived.Test.YtpepomnkoghjpaaNamT
import Derived.Test.YtpepomnkoghjpaaNamB
set_option maxRecDepth 100000
set_option linter.unusedVariables false
namespace Go.Proofs.Ytpepomnkoghjpaa.Nam
open Go.RowKit Go.Lib Go.Proofs.Ytpepomnkoghjpaa.Utf

def iv (ix : List Nat) : List Value := ix.map fun i => .int .i64 (i : Nat)
theorem iv_len (l : List Nat) : (iv l).length = l.length := by simp [iv]
theorem iv_append (l m : List Nat) : iv (l ++ m) = iv l ++ iv m := by simp [iv]
theorem iv_get (l : List Nat) (k : Nat) (h : k < l.length) : (iv l)[k]? = some (.int .i64 (l.getD k 0 : Nat)) := by simp [iv, List.getD, List.getElem?_eq_getElem h]
/-- A slice that reads as a list of indices. -/
def RdI (w : World) (v : Value) (l : List Nat) : Prop := RdAt w v 1 (iv l)
theorem RdI.below {w w' : World} {v : Value} {l : List Nat} (h : RdI w v l) (hb : Below w.heap.size w w') : RdI w' v l := RdAt.below h hb
theorem RdI.open {w : World} {v : Value} {l : List Nat} (h : RdI w v l) : ∃ (A : Option Addr) (c : Nat), v = .slice A l.length c ∧ l.length ≤ c ∧
    (0 < l.length → ∃ g o, A = some ⟨g, o, none⟩ ∧ g < w.heap.size ∧ ∀ k, k < l.length → w.cell? ⟨g, o + k, none⟩ = some (.int .i64 (l.getD k 0 : Nat))) := by
  obtain ⟨A, n, c, rfl, hl, hn, hc⟩ := h
  rw [iv_len] at hl
  obtain rfl : n = l.length := by omega
  refine ⟨A, c, rfl, hn, fun h0 => ?_⟩
  obtain ⟨g, o, rfl, hg, hc⟩ := hc (by rw [iv_len]; omega)
  exact ⟨g, o, rfl, hg, fun k hk => hc _ _ (iv_get l k hk)⟩
theorem RdI.of_own {w : World} {base : Nat} {e : TypeId} {n : Nat} {v : Value} {l : List Nat} (h : w.ownsRow base e 1 v n (iv l)) : RdI w v l := RdAt.of_own h
theorem RdI.none0 (w : World) (A : Option Addr) (c : Nat) : RdI w (.slice A 0 c) [] := ⟨A, 0, c, rfl, rfl, Nat.zero_le _, fun h => absurd h (by simp [iv])⟩

theorem cell_new1 (W : World) (v : Value) (T : TypeId) : (W.alloc (.cells #[v] T)).cell? ⟨W.heap.size, 0, none⟩ = some v := by rw [World.cell?_alloc_new]; rfl
theorem infoInt : (Try.prog.info? 3).map (fun i => (i.zero, i.size, i.bytes)) = some (some (.int .i64 0), 1, 8) := by kernel_rfl
end Go.Proofs.Ytpepomnkoghjpaa.Nam
