/- Less. -/
import Derived.Test.YtdikcogacopajaaRanH
import Derived.Deep.RegionWith
set_option linter.unusedVariables false
namespace Go.Proofs.Ytdikcogacopajaa.Ran
open Go.RowKit Go.Lib

set_option maxRecDepth 100000 in
set_option maxHeartbeats 4000000 in
theorem less_calls (xs ys : List Rg) (va vb : Value) (w : World) (hx : RdR w va xs) (hy : RdR w vb ys) (hlx : xs.length ≤ 557056) (hc : Can 0 ys) (R : Ending → World → Prop)
    (hR : Hid (∀ v' w', RdN w' w.heap.size v' (bothS xs (restGo 0 ys)) → Below w.heap.size w w' → R (.returned (.agg #[v'])) w')) :
    Calls Try.prog 17 #[.agg #[va], .agg #[vb]] w R := by
  have hl := can_len0 hc
  have hl2 := restGo_len ys 0
  replace hc := Lib.hid hc
  obtain ⟨A, ca, rfl, -, -⟩ := hx.open
  obtain ⟨B, cb, rfl, -, -⟩ := hy.open
  have hB0 : Below w.heap.size w (((w.alloc (.cells #[.slice A xs.length ca] 25)).alloc (.cells #[.slice B ys.length cb] 25)).alloc (.cells #[.slice none 0 0] 25)) :=
    (((Below.refl _ _).alloc (Nat.le_refl _) _).alloc (by simp) _).alloc (by simp; omega) _
  have k0 : (((w.alloc (.cells #[.slice A xs.length ca] 25)).alloc (.cells #[.slice B ys.length cb] 25)).alloc (.cells #[.slice none 0 0] 25)).cell? ⟨w.heap.size + 1 + 1, 0, none⟩ = some (.slice none 0 0) := by
    rw [show w.heap.size + 1 + 1 = ((w.alloc (.cells #[.slice A xs.length ca] 25)).alloc (.cells #[.slice B ys.length cb] 25)).heap.size by simp, World.cell?_alloc_new]; rfl
  have k1 : (((w.alloc (.cells #[.slice A xs.length ca] 25)).alloc (.cells #[.slice B ys.length cb] 25)).alloc (.cells #[.slice none 0 0] 25)).frozen? ⟨w.heap.size + 1 + 1, 0, none⟩ = false := by
    rw [show w.heap.size + 1 + 1 = ((w.alloc (.cells #[.slice A xs.length ca] 25)).alloc (.cells #[.slice B ys.length cb] 25)).heap.size by simp]; exact frozen_new _ _ _ _
  have k2 : (((w.alloc (.cells #[.slice A xs.length ca] 25)).alloc (.cells #[.slice B ys.length cb] 25)).alloc (.cells #[.slice none 0 0] 25)).cell? ⟨w.heap.size, 0, none⟩ = some (.slice A xs.length ca) := by
    have b : Below (w.heap.size + 1) (w.alloc (.cells #[.slice A xs.length ca] 25)) (((w.alloc (.cells #[.slice A xs.length ca] 25)).alloc (.cells #[.slice B ys.length cb] 25)).alloc (.cells #[.slice none 0 0] 25)) := ((Below.refl _ _).alloc (by simp) _).alloc (by simp) _
    rw [b.cell (p := ⟨w.heap.size, 0, none⟩) (by simp), World.cell?_alloc_new]; rfl
  have k3 : (((w.alloc (.cells #[.slice A xs.length ca] 25)).alloc (.cells #[.slice B ys.length cb] 25)).alloc (.cells #[.slice none 0 0] 25)).cell? ⟨w.heap.size + 1, 0, none⟩ = some (.slice B ys.length cb) := by
    have b : Below (w.heap.size + 1 + 1) ((w.alloc (.cells #[.slice A xs.length ca] 25)).alloc (.cells #[.slice B ys.length cb] 25)) (((w.alloc (.cells #[.slice A xs.length ca] 25)).alloc (.cells #[.slice B ys.length cb] 25)).alloc (.cells #[.slice none 0 0] 25)) := (Below.refl _ _).alloc (by simp) _
    rw [b.cell (p := ⟨w.heap.size + 1, 0, none⟩) (by simp), show w.heap.size + 1 = (w.alloc (.cells #[.slice A xs.length ca] 25)).heap.size by simp, World.cell?_alloc_new]; rfl
  have hz : (((w.alloc (.cells #[.slice A xs.length ca] 25)).alloc (.cells #[.slice B ys.length cb] 25)).alloc (.cells #[.slice none 0 0] 25)).heap.size = w.heap.size + 1 + 1 + 1 := by simp
  have hx2 := hx.below hB0
  have hy2 := hy.below hB0
  replace hx2 := Lib.hid hx2
  replace hy2 := Lib.hid hy2
  clear hx hy
  go_enter Try.func17, Try.ntmps17
  go_wp2_with fail
  generalize ((w.alloc (.cells #[.slice A xs.length ca] 25)).alloc (.cells #[.slice B ys.length cb] 25)).alloc (.cells #[.slice none 0 0] 25) = W0 at *
  have hb0 : w.heap.size + 1 + 1 < W0.heap.size := by omega
  have hb1 : w.heap.size + 1 < W0.heap.size := by omega
  have hb2 : w.heap.size < W0.heap.size := by omega
  have hP : w.heap.size ≤ w.heap.size + 1 + 1 := by omega
  replace hz := Lib.hid hz
  replace hB0 := Lib.hid hB0
  go_region_with (first
    | (go_at_call 28
       go_loud (refine rest_calls ys _ _ (hy2.out.below (by first | exact (Below.refl _ _).drew | exact Below.refl _ _)) hc.out _ (fun v1 w1 r1 b1 => ?_))
       have b3 : Below W0.heap.size W0 w1 := (by first | exact Below.trans ((Below.refl _ _).drew) b1 | exact b1)
       have f2 := (b3.cell (p := ⟨w.heap.size, 0, none⟩) hb2).trans k2
       have s1 := b3.size
       clear b1)
    | (go_at_call 16
       go_loud (refine both_calls xs (restGo 0 ys) _ _ _ (hx2.out.below (by assumption)) r1.1 (by omega) (by omega) _ (fun v2 w2 r2 b2 => ?_))
       have b4 : Below W0.heap.size W0 w2 := b3.trans (b2.mono s1)
       have f0 := (b4.cell (p := ⟨w.heap.size + 1 + 1, 0, none⟩) hb0).trans k0
       have f1 := (b4.frozen (p := ⟨w.heap.size + 1 + 1, 0, none⟩) hb0).trans k1
       obtain ⟨A2, c2', rfl, -⟩ : ∃ A c, v2 = .slice A (bothS xs (restGo 0 ys)).length c ∧ True := (by obtain ⟨A, c, h, -⟩   := r2.1.open; exact ⟨A, c, h, trivial⟩)
       have r3 : RdN (w2.setCell ⟨w.heap.size + 1 + 1, 0, none⟩ (.slice A2 (bothS xs (restGo 0 ys)).length c2')) w.heap.size (.slice A2 (bothS xs (restGo 0 ys)).length c2') (bothS xs (restGo 0 ys)) :=
         (r2.setCell (p := ⟨w.heap.size + 1 + 1, 0, none⟩) (Nat.lt_of_lt_of_le hb0 s1) _).mono (Nat.le_trans hP (Nat.le_of_lt (Nat.lt_of_lt_of_le hb0 s1)))
       have r4 := Lib.hid (hR.out _ _ r3 ((hB0.out.trans (b4.mono hB0.out.size)).setCell (p := ⟨w.heap.size + 1 + 1, 0, none⟩) hP _))
       clear b2 r3))
  all_goals
    go_wp2_with fail
    exact bodyPost_ret (v := .agg #[.slice A2 (bothS xs (restGo 0 ys)).length c2']) (by simp [results, Try.results17, go_sem, f0]) rfl r4.out
end Go.Proofs.Ytdikcogacopajaa.Ran
