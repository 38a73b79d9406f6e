/- The code's Parse; lives. -/
import Derived.Test.YtcnnaaemkamcbaaDigC
set_option linter.unusedVariables false
namespace Go.Proofs.Ytcnnaaemkamcbaa.Dig
open Go.RowKit Go.Lib Go.Proofs.Ytcnnaaemkamcbaa.Utf

/-- What Parse hands back. -/
def paT (t : Int × Int × Int) : Value := .tuple #[.int .i64 t.1, .agg #[.int .i64 t.2.1, .int .i64 t.2.2]]
set_option maxRecDepth 100000 in
theorem parse_calls (s : ByteArray) (w : World) (hs : s.size ≤ 1000000000000000) (R : Ending → World → Prop)
    (hR : Hid (∀ w', Below w.heap.size w w' → R (.returned (paT (paS s))) w')) : Calls Try.prog 9 #[.string s] w R := by
  have cT := fun (W : World) R hR => take_calls s 0 (by decide) W hs R hR
  unfold paS at hR
  generalize tkS s 0 = t at *
  obtain ⟨n, e, E, A⟩ := t
  simp only at hR cT
  unfold tkT at cT
  obtain ⟨w0, hw0⟩ : ∃ w0, w0 = w.alloc (.cells #[.int .i64 0, .int .i64 0] 25) := ⟨_, rfl⟩
  have z0 : w0.heap.size = w.heap.size + 1 := by rw [hw0]; simp
  have h0 : w0.heap[w.heap.size]? = some (.cells #[.int .i64 0, .int .i64 0] 25 (0, 0)) := by rw [hw0]; exact Array.getElem?_push_size
  have b0 : Below w.heap.size w w0 := by rw [hw0]; exact (Below.refl _ _).alloc (Nat.le_refl _) _
  have fin : ∀ W : World, Below (w.heap.size + 1) w0 W → W.cell? ⟨w.heap.size, 0, none⟩ = some (.int .i64 0) ∧ W.cell? ⟨w.heap.size, 1, none⟩ = some (.int .i64 0) ∧ W.frozen? ⟨w.heap.size, 0, none⟩ = false ∧ W.frozen? ⟨w.heap.size, 1, none⟩ = false ∧ Below w.heap.size w W := fun W hW => by
    have hh : W.heap[w.heap.size]? = some (.cells #[.int .i64 0, .int .i64 0] 25 (0, 0)) := by rw [hW.block _ (by omega)]; exact h0
    exact ⟨by rw [Lib.cell_of_heap hh]; rfl, by rw [Lib.cell_of_heap hh]; rfl, Lib.frozen_of_heap hh 0, Lib.frozen_of_heap hh 1, b0.trans (hW.mono (by omega))⟩
  replace fin := Lib.hid fin
  clear h0 b0
  replace cT := Lib.hid cT
  by_cases hE : E ≠ 0
  · rw [if_pos hE] at hR
    have hE1 : (E == 0) = false := by simpa using hE
    have hE2 : (E != 0) = true := by simpa using hE
    go_enter Try.func9, Try.ntmps9
    go_wp2_with fail
    refine cT.out _ _ (Lib.hid fun w1 n1 => ?_)
    rw [← hw0, z0] at n1
    have n2 : Below (w.heap.size + 1) w0 (w1.alloc (.cells #[.int .i64 E, .int .i64 A] 25)) := n1.alloc (by have := n1.size; omega) _
    obtain ⟨c0, c1, g0, g1, n4⟩ := fin.out _ n1
    obtain ⟨d0, d1, k0, k1, n5⟩ := fin.out _ n2
    clear fin
    have hlt : w.heap.size < w1.heap.size := by have := n1.size; omega
    go_wp2_with fail
    have e0 : (w1.alloc (.cells #[.int .i64 E, .int .i64 A] 25)).cell? ⟨w1.heap.size, 0, none⟩ = some (.int .i64 E) := by rw [World.cell?_alloc_new]; rfl
    have e1 : (w1.alloc (.cells #[.int .i64 E, .int .i64 A] 25)).cell? ⟨w1.heap.size, 1, none⟩ = some (.int .i64 A) := by rw [World.cell?_alloc_new]; rfl
    clear c0 c1 g0 g1 n4 n2 n1
    generalize w1.alloc (.cells #[.int .i64 E, .int .i64 A] 25) = W2 at *
    generalize w1.heap.size = g at *
    go_region
    go_wp2_with fail
    refine bodyPost_ret ?_ rfl (hR.out _ ((n5.setCell (p := ⟨w.heap.size, 0, none⟩) (Nat.le_refl _) _).setCell (p := ⟨w.heap.size, 1, none⟩) (Nat.le_refl _) _).drew)
    simp [results, Try.results9, go_sem, paT, d0, d1]
  · rw [if_neg hE] at hR
    have hE0 : E = 0 := by omega
    subst hE0
    by_cases he : e < s.size
    · rw [if_pos he] at hR
      go_enter Try.func9, Try.ntmps9
      go_wp2_with fail
      refine cT.out _ _ (Lib.hid fun w1 n1 => ?_)
      rw [← hw0, z0] at n1
      have n2 : Below (w.heap.size + 1) w0 (w1.alloc (.cells #[.int .i64 0, .int .i64 A] 25)) := n1.alloc (by have := n1.size; omega) _
      obtain ⟨c0, c1, g0, g1, n4⟩ := fin.out _ n1
      obtain ⟨d0, d1, k0, k1, n5⟩ := fin.out _ n2
      clear fin
      have hlt : w.heap.size < w1.heap.size := by have := n1.size; omega
      go_wp2_with fail
      refine bodyPost_ret ?_ rfl (hR.out _ (((n4.setCell (p := ⟨w.heap.size, 0, none⟩) (Nat.le_refl _) _).setCell (p := ⟨w.heap.size, 1, none⟩) (Nat.le_refl _) _).alloc (by simpa [World.setCell] using Nat.le_of_lt hlt) _))
      simp [results, Try.results9, go_sem, paT, c0, c1, hlt]
    · rw [if_neg he] at hR
      go_enter Try.func9, Try.ntmps9
      go_wp2_with fail
      refine cT.out _ _ (Lib.hid fun w1 n1 => ?_)
      rw [← hw0, z0] at n1
      have n2 : Below (w.heap.size + 1) w0 (w1.alloc (.cells #[.int .i64 0, .int .i64 A] 25)) := n1.alloc (by have := n1.size; omega) _
      obtain ⟨c0, c1, g0, g1, n4⟩ := fin.out _ n1
      obtain ⟨d0, d1, k0, k1, n5⟩ := fin.out _ n2
      clear fin
      have hlt : w.heap.size < w1.heap.size := by have := n1.size; omega
      go_wp2_with fail
      refine bodyPost_ret ?_ rfl (hR.out _ (((n4.setCell (p := ⟨w.heap.size, 0, none⟩) (Nat.le_refl _) _).setCell (p := ⟨w.heap.size, 1, none⟩) (Nat.le_refl _) _).alloc (by simpa [World.setCell] using Nat.le_of_lt hlt) _))
      simp [results, Try.results9, go_sem, paT, c0, c1, hlt]

theorem pa007 : paS ⟨#[48, 48, 55]⟩ = (0, 19, 0) := by
  have d0 : dgs ⟨#[48, 48, 55]⟩ 0 = [48, 48, 55] := by decide
  have b0 : byN ⟨#[48, 48, 55]⟩ 0 = 48 := by decide
  have hz : (⟨#[48, 48, 55]⟩ : ByteArray).size = 3 := rfl
  unfold paS
  have ht : tkS ⟨#[48, 48, 55]⟩ 0 = (0, 0, 19, 0) := by
    unfold tkS
    rw [hz, if_neg (by omega), show (0 : Int).toNat = 0 from rfl]
    unfold tkN
    simp only [hz, b0, d0]
    rfl
  rw [ht]
  rfl
theorem putm40 : putS (-40) = ⟨#[45, 52, 48]⟩ := by
  have e : decL 40 = [52, 48] := by rw [decL_ge (by decide), decL_lt (by decide)]; rfl
  have e2 : putL (-40) = [45, 52, 48] := by
    unfold putL
    rw [if_pos (by decide), show ((-40 : Int)).natAbs = 40 from rfl, e]
  unfold putS
  rw [e2]
  rfl
set_option maxRecDepth 100000 in
theorem lives7_calls (w : World) (R : Ending → World → Prop) (hR : Hid (∀ w', Below w.heap.size w w' → R (.returned (.bool true)) w')) : Calls Try.prog 6 #[] w R := by
  have c1 := fun (W : World) R hR => parse_calls ⟨#[48, 48, 55]⟩ W (by decide) R hR
  rw [pa007] at c1
  have c2 := fun (W : World) R hR => put_calls (-40) (by decide) (by decide) W R hR
  rw [putm40] at c2
  unfold paT at c1
  replace c1 := Lib.hid c1
  replace c2 := Lib.hid c2
  go_enter Try.func6, Try.ntmps6
  go_wp2_with fail
  refine c1.out _ _ (Lib.hid fun w1 n1 => ?_)
  have n2 := n1.alloc n1.size (.cells #[.int .i64 19, .int .i64 0] 25)
  have e0 : (w1.alloc (.cells #[.int .i64 19, .int .i64 0] 25)).cell? ⟨w1.heap.size, 0, none⟩ = some (.int .i64 19) := by rw [World.cell?_alloc_new]; rfl
  have e1 : (w1.alloc (.cells #[.int .i64 19, .int .i64 0] 25)).cell? ⟨w1.heap.size, 1, none⟩ = some (.int .i64 0) := by rw [World.cell?_alloc_new]; rfl
  have hlt : w1.heap.size < (w1.alloc (.cells #[.int .i64 19, .int .i64 0] 25)).heap.size := by simp
  replace e0 := Lib.hid e0
  replace e1 := Lib.hid e1
  replace n2 := Lib.hid n2
  replace hlt := Lib.hid hlt
  go_wp2_with fail
  generalize w1.alloc (.cells #[.int .i64 19, .int .i64 0] 25) = W2 at *
  refine c2.out _ _ (Lib.hid fun w3 n3 => ?_)
  have f0 := (n3.cell (p := ⟨w1.heap.size, 0, none⟩) hlt.out).trans e0.out
  have f1 := (n3.cell (p := ⟨w1.heap.size, 1, none⟩) hlt.out).trans e1.out
  replace n3 := n2.out.trans (n3.mono n2.out.size)
  go_wp2_with fail
  exact hR.out _ n3
end Go.Proofs.Ytcnnaaemkamcbaa.Dig
