/- The reference's Size and Kind; the chapter's examples. -/
import Derived.Test.YtmlhhhilhdjknaaPinK
set_option linter.unusedVariables false
namespace Go.Proofs.Ytmlhhhilhdjknaa.Ran
open Go.RowKit Go.Lib
set_option maxRecDepth 1000000
theorem refSize_calls (r : Int) (w : World) (R : Ending → World → Prop)
    (hR : Hid (∀ w', Below w.heap.size w w' → R (.returned (.int .i64 (sizeS r))) w')) : Calls Try.prog 12 #[.int .i32 r] w R := by
  have hk : sizeS r = if hasB wideT r then 2 else if hasB zeroT r then 0 else 1 := rfl
  go_enter Try.func12, Try.ntmps12
  go_wp2_with fail
  refine refWide_calls _ _ (fun v w1 r1 n1 => ?_)
  replace r1 := Lib.hid r1
  go_wp2_with fail
  refine hasR_calls wideT r _ _ r1.out (of_decide_eq_true (by kernel_rfl)) _ ?_
  rw [in_can can_wide]
  cases h1 : hasB wideT r
  · rw [h1, if_neg Bool.false_ne_true] at hk
    go_wp2_with fail
    refine refZero_calls _ _ (fun v w2 r2 n2 => ?_)
    replace r2 := Lib.hid r2
    replace n2 := n1.trans (n2.mono n1.size)
    go_wp2_with fail
    refine hasR_calls zeroT r _ _ r2.out (of_decide_eq_true (by kernel_rfl)) _ ?_
    rw [in_can can_zero]
    cases h2 : hasB zeroT r
    · rw [h2, if_neg Bool.false_ne_true] at hk
      rw [hk] at hR
      go_wp2_with fail
      exact hR.out _ n2
    · rw [h2, if_pos rfl] at hk
      rw [hk] at hR
      go_wp2_with fail
      exact hR.out _ n2
  · rw [h1, if_pos rfl] at hk
    rw [hk] at hR
    go_wp2_with fail
    exact hR.out _ n1
end Go.Proofs.Ytmlhhhilhdjknaa.Ran
