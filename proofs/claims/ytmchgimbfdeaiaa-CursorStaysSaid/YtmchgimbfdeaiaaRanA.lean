/- What a slice of ranges reads as, and the contracts of layer 2's small functions. -/
import Derived.Test.YtmchgimbfdeaiaaOwn
import Derived.Test.YtmchgimbfdeaiaaRanS
set_option maxRecDepth 100000
set_option linter.unusedVariables false
namespace Go.Proofs.Ytmchgimbfdeaiaa.Ran
open Go.RowKit Go.Lib

def enc (g : Rg) : List Value := [.int .i32 g.1, .int .i32 g.2]
def flat (l : List Rg) : List Value := l.flatMap enc
theorem flat_len (l : List Rg) : (flat l).length = l.length * 2 := by
  induction l with
  | nil => rfl
  | cons g l ih => rw [show flat (g :: l) = .int .i32 g.1 :: .int .i32 g.2 :: flat l from rfl]; simp [ih]; omega
theorem flat_append (l m : List Rg) : flat (l ++ m) = flat l ++ flat m := by unfold flat; rw [List.flatMap_append]
theorem flat_get : ∀ (l : List Rg) (k : Nat), k < l.length → (flat l)[k * 2]? = some (.int .i32 (l.getD k (0, 0)).1) ∧ (flat l)[k * 2 + 1]? = some (.int .i32 (l.getD k (0, 0)).2)
  | [], k, h => by simp at h
  | g :: l, 0, h => by simp [flat, enc]
  | g :: l, k + 1, h => by
    have := flat_get l k (by simpa using h)
    rw [show flat (g :: l) = .int .i32 g.1 :: .int .i32 g.2 :: flat l from rfl, show (k + 1) * 2 = k * 2 + 1 + 1 by omega]
    simpa using this
/-- A slice that reads as a list of ranges. -/
def RdR (w : World) (v : Value) (l : List Rg) : Prop := RdAt w v 2 (flat l)
theorem RdR.below {w w' : World} {v : Value} {l : List Rg} (h : RdR w v l) (hb : Below w.heap.size w w') : RdR w' v l := RdAt.below h hb
theorem RdR.open {w : World} {v : Value} {l : List Rg} (h : RdR w v l) : ∃ (A : Option Addr) (c : Nat), v = .slice A l.length c ∧ l.length ≤ c ∧
    (0 < l.length → ∃ g o, A = some ⟨g, o, none⟩ ∧ g < w.heap.size ∧ ∀ k, k < l.length → w.cell? ⟨g, o + k * 2, none⟩ = some (.int .i32 (l.getD k (0, 0)).1) ∧ w.cell? ⟨g, o + k * 2 + 1, none⟩ = some (.int .i32 (l.getD k (0, 0)).2)) := by
  obtain ⟨A, n, c, rfl, hl, hn, hc⟩ := h
  rw [flat_len] at hl
  obtain rfl : n = l.length := by omega
  refine ⟨A, c, rfl, hn, fun h0 => ?_⟩
  obtain ⟨g, o, rfl, hg, hc⟩ := hc (by rw [flat_len]; omega)
  refine ⟨g, o, rfl, hg, fun k hk => ?_⟩
  have := flat_get l k hk
  exact ⟨hc _ _ this.1, by have := hc _ _ this.2; rwa [← Nat.add_assoc] at this⟩
theorem RdR.of_own {w : World} {base : Nat} {e : TypeId} {n : Nat} {v : Value} {l : List Rg} (h : w.ownsRow base e 2 v n (flat l)) : RdR w v l := RdAt.of_own h


/-- Each bound is a rune as Go keeps it: 32 bits. -/
def Fit (l : List Rg) : Prop := ∀ k, k < l.length → -2147483648 ≤ (l.getD k (0, 0)).1 ∧ (l.getD k (0, 0)).1 ≤ 2147483647 ∧ -2147483648 ≤ (l.getD k (0, 0)).2 ∧ (l.getD k (0, 0)).2 ≤ 2147483647
theorem Fit.of_can {l : List Rg} (h : Can 0 l) : Fit l := fun k hk => by have := can_get h hk; omega

end Go.Proofs.Ytmchgimbfdeaiaa.Ran
