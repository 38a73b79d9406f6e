/- Layer 13: the reference's one. -/
import Derived.Test.YtmchgimbfdeaiaaG8
import Derived.Test.YtmchgimbfdeaiaaZNamA
import Derived.Test.YtmchgimbfdeaiaaZDigQ
import Derived.Test.YtmchgimbfdeaiaaZEscP
import Derived.Test.YtmchgimbfdeaiaaG3
import Derived.StillTailTactics
import Derived.Great.BuildSlice
import Derived.Laws.CopyOwn
set_option maxRecDepth 100000
set_option linter.unusedVariables false
namespace Go.Proofs.Ytmchgimbfdeaiaa.Tok
open Go.RowKit Go.Lib Go.Proofs.Ytmchgimbfdeaiaa.Utf Go.Proofs.Ytmchgimbfdeaiaa.Ran Go.Proofs.Ytmchgimbfdeaiaa.Cel Go.Proofs.Ytmchgimbfdeaiaa.Esc Go.Proofs.Ytmchgimbfdeaiaa.Dig Go.Proofs.Ytmchgimbfdeaiaa.Nam Go.Proofs.Ytmchgimbfdeaiaa.Pat

theorem all_list {l : List Value} (h : l.all (·.oneCell') = true) : l.toArray.all (·.oneCell') = true := by simpa using h
theorem heap_two (w : World) (a b : Obj) : ((w.alloc a).alloc b).heap[w.heap.size]? = some a ∧ ((w.alloc a).alloc b).heap[w.heap.size + 1]? = some b := by
  constructor
  · show ((w.heap.push a).push b)[w.heap.size]? = some a
    rw [Array.getElem?_push, if_neg (by simp), Array.getElem?_push_size]
  · show ((w.heap.push a).push b)[w.heap.size + 1]? = some b
    rw [show w.heap.size + 1 = (w.heap.push a).size by simp, Array.getElem?_push_size]
/-- The blocks of a token and of a fault, of the call's own. -/
structure Tkb (w : World) (H : Nat) (W : World) : Prop where
  nb : Below H w W
  lt : H + 1 < W.heap.size
  r0 : W.heap[H]? = some (.cells #[.int .i64 0, .int .i64 0, .int .i64 0, .string ⟨#[]⟩, .int .i64 0] 27 (0, 0))
  r1 : W.heap[H + 1]? = some (.cells #[.int .i64 0, .int .i64 0] 35 (0, 0))
theorem Tkb.new (w : World) : Tkb w w.heap.size ((w.alloc (.cells #[.int .i64 0, .int .i64 0, .int .i64 0, .string ⟨#[]⟩, .int .i64 0] 27)).alloc (.cells #[.int .i64 0, .int .i64 0] 35)) := by
  have b1 := (Below.refl w.heap.size w).alloc (Nat.le_refl _) (.cells #[.int .i64 0, .int .i64 0, .int .i64 0, .string ⟨#[]⟩, .int .i64 0] 27)
  have b2 := b1.alloc b1.size (.cells #[.int .i64 0, .int .i64 0] 35)
  obtain ⟨q1, q2⟩ := heap_two w (.cells #[.int .i64 0, .int .i64 0, .int .i64 0, .string ⟨#[]⟩, .int .i64 0] 27) (.cells #[.int .i64 0, .int .i64 0] 35)
  exact ⟨b2, by simp, q1, q2⟩
theorem Tkb.below {w W W' : World} {H : Nat} (h : Tkb w H W) (hb : Below W.heap.size W W') : Tkb w H W' :=
  have l1 : H < W.heap.size := Nat.lt_of_succ_lt h.lt
  ⟨h.nb.trans (hb.mono (Nat.le_of_lt l1)), Nat.lt_of_lt_of_le h.lt hb.size, (hb.block H l1).trans h.r0, (hb.block (H + 1) h.lt).trans h.r1⟩
theorem Tkb.row {w W : World} {H : Nat} (h : Tkb w H W) (C D : Array Value) (hC : C.size = 5) : Below H w ((W.setRow H C).setRow (H + 1) D) ∧
    W.heap[H]? = some (.cells #[.int .i64 0, .int .i64 0, .int .i64 0, .string ⟨#[]⟩, .int .i64 0] 27 (0, 0)) ∧
    (W.setRow H C).heap[H + 1]? = some (.cells #[.int .i64 0, .int .i64 0] 35 (0, 0)) ∧
    (∀ j, ((W.setRow H C).setRow (H + 1) D).cell? ⟨H, j, none⟩ = C[j]?) ∧ (∀ j, ((W.setRow H C).setRow (H + 1) D).cell? ⟨H + 1, j, none⟩ = D[j]?) := by
  have r1 := (setRow_other W H (H + 1) C (by omega)).trans h.r1
  refine ⟨below_setRow (below_setRow h.nb (Nat.le_refl _) C) (Nat.le_succ _) D, h.r0, r1, fun j => ?_, fun j => cell_setRow_same _ _ j _ D _ _ r1⟩
  exact (cell_setRow_other _ _ D _ (by simp)).trans (cell_setRow_same _ _ j _ C _ _ h.r0)
theorem Tkb.told {w W : World} {H : Nat} (h : Tkb w H W) (a0 a1 a2 a3 a4 b0 b1 : Value) : Below H w ((W.setRow H #[a0, a1, a2, a3, a4]).setRow (H + 1) #[b0, b1]) ∧
    W.heap[H]? = some (.cells #[.int .i64 0, .int .i64 0, .int .i64 0, .string ⟨#[]⟩, .int .i64 0] 27 (0, 0)) ∧
    (W.setRow H #[a0, a1, a2, a3, a4]).heap[H + 1]? = some (.cells #[.int .i64 0, .int .i64 0] 35 (0, 0)) ∧
    ((W.setRow H #[a0, a1, a2, a3, a4]).setRow (H + 1) #[b0, b1]).cell? ⟨H, 0, none⟩ = some a0 ∧ ((W.setRow H #[a0, a1, a2, a3, a4]).setRow (H + 1) #[b0, b1]).cell? ⟨H, 1, none⟩ = some a1 ∧
    ((W.setRow H #[a0, a1, a2, a3, a4]).setRow (H + 1) #[b0, b1]).cell? ⟨H, 2, none⟩ = some a2 ∧ ((W.setRow H #[a0, a1, a2, a3, a4]).setRow (H + 1) #[b0, b1]).cell? ⟨H, 3, none⟩ = some a3 ∧
    ((W.setRow H #[a0, a1, a2, a3, a4]).setRow (H + 1) #[b0, b1]).cell? ⟨H, 4, none⟩ = some a4 ∧ ((W.setRow H #[a0, a1, a2, a3, a4]).setRow (H + 1) #[b0, b1]).cell? ⟨H + 1, 0, none⟩ = some b0 ∧
    ((W.setRow H #[a0, a1, a2, a3, a4]).setRow (H + 1) #[b0, b1]).cell? ⟨H + 1, 1, none⟩ = some b1 := by
  obtain ⟨h1, h2, h3, h4, h5⟩ := h.row #[a0, a1, a2, a3, a4] #[b0, b1] rfl
  exact ⟨h1, h2, h3, h4 0, h4 1, h4 2, h4 3, h4 4, h5 0, h5 1⟩
theorem Tkb.cells {w W : World} {H : Nat} (h : Tkb w H W) : W.cell? ⟨H, 0, none⟩ = some (.int .i64 0) ∧ W.cell? ⟨H, 1, none⟩ = some (.int .i64 0) ∧ W.cell? ⟨H, 2, none⟩ = some (.int .i64 0) ∧ W.cell? ⟨H, 3, none⟩ = some (.string ⟨#[]⟩) ∧ W.cell? ⟨H, 4, none⟩ = some (.int .i64 0) ∧
    W.cell? ⟨H + 1, 0, none⟩ = some (.int .i64 0) ∧ W.cell? ⟨H + 1, 1, none⟩ = some (.int .i64 0) ∧ (∀ j, W.frozen? ⟨H, j, none⟩ = false) ∧ (∀ j, W.frozen? ⟨H + 1, j, none⟩ = false) := by
  refine ⟨?_, ?_, ?_, ?_, ?_, ?_, ?_, fun j => Lib.frozen_of_heap h.r0 j, fun j => Lib.frozen_of_heap h.r1 j⟩
  · rw [Lib.cell_of_heap h.r0]; rfl
  · rw [Lib.cell_of_heap h.r0]; rfl
  · rw [Lib.cell_of_heap h.r0]; rfl
  · rw [Lib.cell_of_heap h.r0]; rfl
  · rw [Lib.cell_of_heap h.r0]; rfl
  · rw [Lib.cell_of_heap h.r1]; rfl
  · rw [Lib.cell_of_heap h.r1]; rfl
theorem seven {H : Nat} {w W : World} (nb : Below H w W) (a0 a1 a2 a3 a4 b0 b1 : Value) : Below H w (((((((W.setCell ⟨H, 0, none⟩ a0).setCell ⟨H, 1, none⟩ a1).setCell ⟨H, 2, none⟩ a2).setCell ⟨H, 3, none⟩ a3).setCell ⟨H, 4, none⟩ a4).setCell ⟨H + 1, 0, none⟩ b0).setCell ⟨H + 1, 1, none⟩ b1) :=
  ((((((nb.setCell (p := ⟨H, 0, none⟩) (Nat.le_refl _) _).setCell (p := ⟨H, 1, none⟩) (Nat.le_refl _) _).setCell (p := ⟨H, 2, none⟩) (Nat.le_refl _) _).setCell (p := ⟨H, 3, none⟩) (Nat.le_refl _) _).setCell (p := ⟨H, 4, none⟩) (Nat.le_refl _) _).setCell (p := ⟨H + 1, 0, none⟩) (Nat.le_succ _) _).setCell (p := ⟨H + 1, 1, none⟩) (Nat.le_succ _) _
theorem box_f (w : World) (a b : Value) (t : TypeId) : (w.alloc (.cells #[a, b] t)).cell? ⟨w.heap.size, 0, none⟩ = some a ∧ (w.alloc (.cells #[a, b] t)).cell? ⟨w.heap.size, 1, none⟩ = some b := by
  have q1 := heap_alloc_new w (.cells #[a, b] t)
  exact ⟨by rw [Lib.cell_of_heap q1]; rfl, by rw [Lib.cell_of_heap q1]; rfl⟩
theorem tkS_nat {s : ByteArray} {i : Nat} (h : i < s.size) : tkS s i = tkN s i := by unfold tkS; rw [if_neg (by omega)]; rfl
theorem unqS_nat {s : ByteArray} {i : Nat} (h : i < s.size) (h2 : byN s i = 34) : unqS s i = unqF s (i + 1) ByteArray.empty := by
  unfold unqS
  rw [if_neg (by omega), if_neg (by omega), Int.toNat_natCast, if_neg (by omega)]
theorem tk_ok {s : ByteArray} {i : Nat} (h : (tkN s i).2.2.1 = 0) : (tkN s i).2.2.2 = 0 := by
  have key : ∀ (neg : Bool) (D : List Int) (c : Nat) (e : Bool) (i f : Int), (tkC neg D c e i f).2.2.1 = 0 → (tkC neg D c e i f).2.2.2 = 0 := by
    intro neg D c e i f
    unfold tkC
    (repeat' split) <;> simp
  rw [tkN_c] at h ⊢
  split at h
  · rw [if_pos (by assumption)]; exact key _ _ _ _ _ _ h
  · rw [if_neg (by assumption)]; exact key _ _ _ _ _ _ h
theorem unq_ok {s : ByteArray} : ∀ (k i : Nat) (acc : ByteArray), s.size - i ≤ k → (unqF s i acc).2.2.1 = 0 → (unqF s i acc).2.2.2 = 0
  | 0, i, acc, h, h0 => by rw [unqF_end acc (by omega)] at h0; simp at h0
  | k + 1, i, acc, h, h0 => by
    by_cases hi : i < s.size
    · have hb := den_bd s i hi
      rw [unqF_step acc hi] at h0 ⊢
      by_cases h3 : byN s i = 34
      · rw [if_pos h3]
      rw [if_neg h3] at h0 ⊢
      by_cases h4 : (denS s i).1 ≠ 0
      · rw [if_pos h4] at h0; exact absurd h0 h4
      · rw [if_neg h4] at h0 ⊢
        have h5 := hb.2.2.2.1 (by omega)
        exact unq_ok k _ _ (by omega) h0
    · rw [unqF_end acc (by omega)] at h0; simp at h0
end Go.Proofs.Ytmchgimbfdeaiaa.Tok
