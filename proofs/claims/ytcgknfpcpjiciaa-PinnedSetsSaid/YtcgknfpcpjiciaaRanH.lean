/- rest and Less. -/
import Derived.Test.YtcgknfpcpjiciaaRanG
set_option linter.unusedVariables false
namespace Go.Proofs.Ytcgknfpcpjiciaa.Ran
open Go.RowKit Go.Lib

theorem drop_cons (xs : List Rg) (K : Nat) (h : K < xs.length) : xs.drop K = xs.getD K (0, 0) :: xs.drop (K + 1) := by
  rw [List.drop_eq_getElem_cons h]; simp [List.getD, List.getElem?_eq_getElem h]

/-- A box that was laid ahead of an append stands as it did. -/
theorem box_kept {W w3 : World} {o : Obj} {base : Nat} {e : TypeId} {size n : Nat} {v u : Value} {xs : List Value} {j : Nat} (hown : W.ownsRow base e size v n xs) (hg : (W.alloc o).grownBy w3 v.ownBlock)
    (h : (W.alloc o).cell? ⟨W.heap.size, j, none⟩ = some u) : w3.cell? ⟨W.heap.size, j, none⟩ = some u := by
  rw [World.cell?_of_block (a := ⟨W.heap.size, j, none⟩) (hg.block W.heap.size (by simp) (fun e => absurd (hown.lt _ e.symm).2 (by simp)))]
  exact h

end Go.Proofs.Ytcgknfpcpjiciaa.Ran
