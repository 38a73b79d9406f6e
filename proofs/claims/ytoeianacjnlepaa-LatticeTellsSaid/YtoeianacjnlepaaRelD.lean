/- The reference's Order. -/
import Derived.Test.YtoeianacjnlepaaRelC
set_option maxRecDepth 100000
set_option linter.unusedVariables false
namespace Go.Proofs.Ytoeianacjnlepaa.Rel
open Go.RowKit Go.Lib

def ivR (o : List Nat) : List Value := o.map fun i => .int .i64 (i : Nat)
theorem ivR_len (o : List Nat) : (ivR o).length = o.length := by simp [ivR]
theorem ivR_at {w : World} {v : Value} {o : List Nat} (h : RdAt w v 1 (ivR o)) : ∃ (A : Option Addr) (c : Nat), v = .slice A o.length c ∧ o.length ≤ c ∧ (0 < o.length → ∃ g p, A = some ⟨g, p, none⟩ ∧ g < w.heap.size ∧ ∀ i, i < o.length → w.cell? ⟨g, p + i, none⟩ = some (.int .i64 (o.getD i 0 : Nat))) := by
  obtain ⟨A, n, c, rfl, hl, hn, hc⟩ := h
  rw [ivR_len] at hl
  obtain rfl : n = o.length := by omega
  refine ⟨A, c, rfl, hn, fun h0 => ?_⟩
  obtain ⟨g, p, rfl, hg, hc⟩ := hc (by rw [ivR_len]; omega)
  exact ⟨g, p, rfl, hg, fun i hi => hc i _ (by simp [ivR, List.getD, List.getElem?_eq_getElem hi])⟩
theorem infoIntR : (Try.prog.info? 3).map (fun i => (i.zero, i.size, i.bytes)) = some (some (.int .i64 0), 1, 8) := by kernel_rfl
theorem vB' {x y : Bool} (h : x = y) : Value.bool x = .bool y := by rw [h]

end Go.Proofs.Ytoeianacjnlepaa.Rel
