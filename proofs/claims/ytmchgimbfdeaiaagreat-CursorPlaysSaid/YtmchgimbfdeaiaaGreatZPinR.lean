/- The reference's Size and Kind; the chapter's examples. -/
import Derived.Test.YtmchgimbfdeaiaaGreatG9
set_option maxRecDepth 100000
set_option linter.unusedVariables false
namespace Go.Proofs.YtmchgimbfdeaiaaGreat.Ran
open Go.RowKit Go.Lib
set_option maxRecDepth 1000000
theorem refSize_calls (r : Int) (w : World) (R : Ending → World → Prop)
    (hR : Hid (∀ w', Below w.heap.size w w' → R (.returned (.int .i64 (sizeS r))) w')) : Calls Tryz.prog 41 #[.int .i32 r] w R := by
  have hk : sizeS r = if hasB wideT r then 2 else if hasB zeroT r then 0 else 1 := rfl
  go_enter Tryz.func41, Tryz.ntmps41
  go_wp2_with fail
  refine refWide_calls _ _ (fun v w1 r1 n1 => ?_)
  replace r1 := Lib.hid r1
  go_wp2_with fail
  refine hasR_calls wideT r _ _ r1.out (of_decide_eq_true (by kernel_rfl)) _ ?_
  rw [in_can can_wide]
  cases h1 : hasB wideT r
  · rw [h1, if_neg Bool.false_ne_true] at hk
    go_wp2_with fail
    refine refZero_calls _ _ (fun v w2 r2 n2 => ?_)
    replace r2 := Lib.hid r2
    replace n2 := n1.trans (n2.mono n1.size)
    go_wp2_with fail
    refine hasR_calls zeroT r _ _ r2.out (of_decide_eq_true (by kernel_rfl)) _ ?_
    rw [in_can can_zero]
    cases h2 : hasB zeroT r
    · rw [h2, if_neg Bool.false_ne_true] at hk
      rw [hk] at hR
      go_wp2_with fail
      exact hR.out _ n2
    · rw [h2, if_pos rfl] at hk
      rw [hk] at hR
      go_wp2_with fail
      exact hR.out _ n2
  · rw [h1, if_pos rfl] at hk
    rw [hk] at hR
    go_wp2_with fail
    exact hR.out _ n1
set_option maxHeartbeats 1000000 in
theorem refKind_calls (r : Int) (w : World) (R : Ending → World → Prop)
    (hR : Hid (∀ w', Below w.heap.size w w' → R (.returned (.int .i64 (kindS r))) w')) : Calls Tryz.prog 16 #[.int .i32 r] w R := by
  have hk := kind_eq r
  by_cases h0 : 0 ≤ r ∧ r < 32 ∨ 126 < r ∧ r < 160
  · rw [if_pos h0] at hk
    rw [hk] at hR
    clear hk
    rcases h0 with ⟨a, b⟩ | ⟨a, b⟩
    · go_enter Tryz.func16, Tryz.ntmps16
      go_wp2_with fail
      exact hR.out _ (Below.refl _ _)
    · have c : ¬ r < 32 := by omega
      go_enter Tryz.func16, Tryz.ntmps16
      go_wp2_with fail
      exact hR.out _ (Below.refl _ _)
  · rw [if_neg h0] at hk
    replace hk := Lib.hid hk
    have h1 : r < 0 ∨ (32 ≤ r ∧ r ≤ 126) ∨ 160 ≤ r := by omega
    clear h0
    have hs : r = 8232 ∨ r = 8233 ∨ ¬ (r = 8232 ∨ r = 8233) := by omega
    rcases h1 with a | ⟨a, b⟩ | a <;> (
      go_enter Tryz.func16, Tryz.ntmps16
      go_wp2_with fail
      refine refbidi_calls _ _ (fun v w1 r1 n1 => ?_)
      replace r1 := Lib.hid r1
      go_wp2_with fail
      refine hasR_calls bidiT r _ _ r1.out (of_decide_eq_true (by kernel_rfl)) _ ?_
      rw [in_can can_bidi]
      cases h1 : hasB bidiT r
      · replace hk := hk.out
        rw [h1, if_neg Bool.false_ne_true] at hk
        replace hk := Lib.hid hk
        go_wp2_with fail
        refine refformat_calls _ _ (fun v w2 r2 n2 => ?_)
        replace r2 := Lib.hid r2
        replace n2 := n1.trans (n2.mono n1.size)
        go_wp2_with fail
        refine hasR_calls formatT r _ _ r2.out (of_decide_eq_true (by kernel_rfl)) _ ?_
        rw [in_can can_format]
        cases h2 : hasB formatT r
        · replace hk := hk.out
          rw [h2, if_neg Bool.false_ne_true] at hk
          rcases hs with h3 | h3 | h3
          · rw [if_pos (Or.inl h3)] at hk
            rw [hk] at hR
            go_wp2_with fail
            exact hR.out _ n2
          · rw [if_pos (Or.inr h3)] at hk
            rw [hk] at hR
            have h4 : ¬ r = 8232 := by omega
            go_wp2_with fail
            exact hR.out _ n2
          · rw [if_neg h3] at hk
            rw [hk] at hR
            have h4 : (r == 8232) = false := by simp; omega
            have h5 : (r == 8233) = false := by simp; omega
            go_wp2_with fail
            exact hR.out _ n2
        · replace hk := hk.out
          rw [h2, if_pos rfl] at hk
          rw [hk] at hR
          go_wp2_with fail
          exact hR.out _ n2
      · replace hk := hk.out
        rw [h1, if_pos rfl] at hk
        rw [hk] at hR
        go_wp2_with fail
        exact hR.out _ n1)
end Go.Proofs.YtmchgimbfdeaiaaGreat.Ran
