/- A fault's block of the call's own, before it is told; a box of two cells. -/
import Derived.Test.YthelhplcijhioaaGreatOwn
set_option maxRecDepth 100000
set_option linter.unusedVariables false
namespace Go.Proofs.YthelhplcijhioaaGreat
open Go.RowKit Go.Lib

structure Flk (w : World) (H : Nat) (W : World) : Prop where
  nb : Below H w W
  lt : H < W.heap.size
  c0 : W.cell? ⟨H, 0, none⟩ = some (.int .i64 0)
  c1 : W.cell? ⟨H, 1, none⟩ = some (.int .i64 0)
  f0 : W.frozen? ⟨H, 0, none⟩ = false
  f1 : W.frozen? ⟨H, 1, none⟩ = false
theorem box_two' (w : World) (a b : Value) (t : TypeId) : (w.alloc (.cells #[a, b] t)).cell? ⟨w.heap.size, 0, none⟩ = some a ∧ (w.alloc (.cells #[a, b] t)).cell? ⟨w.heap.size, 1, none⟩ = some b := by
  have q1 := heap_alloc_new w (.cells #[a, b] t)
  exact ⟨by rw [Lib.cell_of_heap q1]; rfl, by rw [Lib.cell_of_heap q1]; rfl⟩
theorem Flk.new (w : World) : Flk w w.heap.size (w.alloc (.cells #[.int .i64 0, .int .i64 0] 35)) := by
  have q1 := heap_alloc_new w (.cells #[.int .i64 0, .int .i64 0] 35)
  exact ⟨(Below.refl _ _).alloc (Nat.le_refl _) _, by simp, by rw [Lib.cell_of_heap q1]; rfl, by rw [Lib.cell_of_heap q1]; rfl, Lib.frozen_of_heap q1 0, Lib.frozen_of_heap q1 1⟩
theorem Flk.below {w W W' : World} {H : Nat} (h : Flk w H W) (hb : Below W.heap.size W W') : Flk w H W' :=
  ⟨h.nb.trans (hb.mono (Nat.le_of_lt h.lt)), Nat.lt_of_lt_of_le h.lt hb.size, (hb.cell (p := ⟨H, 0, none⟩) h.lt).trans h.c0, (hb.cell (p := ⟨H, 1, none⟩) h.lt).trans h.c1, (hb.frozen (p := ⟨H, 0, none⟩) h.lt).trans h.f0, (hb.frozen (p := ⟨H, 1, none⟩) h.lt).trans h.f1⟩
theorem Flk.below1 {w W W' : World} {H : Nat} (h : Flk w H W) (hb : Below (H + 1) W W') : Flk w H W' :=
  ⟨h.nb.trans (hb.mono (Nat.le_succ H)), Nat.lt_of_lt_of_le h.lt hb.size, (hb.cell (p := ⟨H, 0, none⟩) (Nat.lt_succ_self H)).trans h.c0, (hb.cell (p := ⟨H, 1, none⟩) (Nat.lt_succ_self H)).trans h.c1, (hb.frozen (p := ⟨H, 0, none⟩) (Nat.lt_succ_self H)).trans h.f0, (hb.frozen (p := ⟨H, 1, none⟩) (Nat.lt_succ_self H)).trans h.f1⟩
theorem Flk.told {w W : World} {H : Nat} (h : Flk w H W) (e z : Value) : Below H w ((W.setCell ⟨H, 0, none⟩ e).setCell ⟨H, 1, none⟩ z) ∧ ((W.setCell ⟨H, 0, none⟩ e).setCell ⟨H, 1, none⟩ z).cell? ⟨H, 0, none⟩ = some e ∧ ((W.setCell ⟨H, 0, none⟩ e).setCell ⟨H, 1, none⟩ z).cell? ⟨H, 1, none⟩ = some z :=
  ⟨(h.nb.setCell (p := ⟨H, 0, none⟩) (Nat.le_refl _) e).setCell (p := ⟨H, 1, none⟩) (Nat.le_refl _) z,
    (World.cell?_setCell_other _ _ _ _ (by simp)).trans (World.cell?_setCell_same _ _ _ h.c0), World.cell?_setCell_same _ _ _ ((World.cell?_setCell_other _ _ _ _ (by simp)).trans h.c1)⟩
end Go.Proofs.YthelhplcijhioaaGreat
