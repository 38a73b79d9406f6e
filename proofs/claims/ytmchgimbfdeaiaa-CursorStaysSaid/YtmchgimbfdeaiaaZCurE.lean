/- Layer 14: the chapter's example, lives; the law CursorNone walked. -/
import Derived.Test.YtmchgimbfdeaiaaG12
import Derived.Test.YtmchgimbfdeaiaaFltK
set_option maxRecDepth 100000
set_option linter.unusedVariables false
namespace Go.Proofs.Ytmchgimbfdeaiaa.Cur
open Go.RowKit Go.Lib Go.Proofs.Ytmchgimbfdeaiaa.Utf Go.Proofs.Ytmchgimbfdeaiaa.Tok

def exC : List Tk := [(1, 0, 1, ⟨#[97]⟩, 0), (1, 2, 3, ⟨#[98]⟩, 0), (0, 3, 3, ByteArray.empty, 0)]
theorem ex_cur : scnS ⟨#[97, 32, 98]⟩ = (some exC, 0, 0) := by kernel_rfl
theorem ex1 : hasS (exC, 0, 0, 0) 1 ⟨#[97]⟩ false = true := by kernel_rfl
theorem ex2 : hasS (takeS (exC, 0, 0, 0) 1 ⟨#[97]⟩ false) 4 ⟨#[44]⟩ false = false := by kernel_rfl
theorem ex3 : (needS (takeS (exC, 0, 0, 0) 1 ⟨#[97]⟩ false) ⟨#[44]⟩).2.2 = (4, 2) := by
  unfold needS
  rw [ex2, if_neg (by simp)]
  kernel_rfl
theorem grown_b {w w' : World} {p base : Nat} (g : w.grownBy w' (some p)) (hb : base ≤ w.heap.size) (hp : base ≤ p) : Below base w w' := grown_below g hb (fun k e => by cases e; exact hp)
set_option maxRecDepth 100000 in
set_option maxHeartbeats 1000000 in
theorem lives14_calls (w : World) (R : Ending → World → Prop) (hR : Hid (∀ w', Below w.heap.size w w' → R (.returned (.bool true)) w')) : Calls Try.prog 17 #[] w R := by
  go_enter Try.func17, Try.ntmps17
  go_wp2_with fail
  refine curnew_calls _ (by decide) _ _ (Lib.hid fun l p w1 h1 hp cp n1 => ?_) (Lib.hid fun e z w1 h1 n1 => ?_)
  · rw [ex_cur] at h1
    simp only [Prod.mk.injEq, Option.some.injEq, and_true] at h1
    subst h1
    have bA := (Below.refl w1.heap.size w1).alloc (Nat.le_refl _) (.cells #[.int .i64 0, .int .i64 0] 35)
    obtain ⟨k0, k1⟩ := box_two' w1 (.int .i64 0) (.int .i64 0) 35
    have n2 := n1.trans (bA.mono n1.size)
    have c2 := Lib.hid (cp.below bA)
    have n2' := Lib.hid n2
    have hs2 := n2.size
    clear bA n1 cp n2
    go_wp2_with fail
    generalize w1.alloc (.cells #[.int .i64 0, .int .i64 0] 35) = W2 at *
    clear k0 k1
    refine curword_calls _ p _ _ c2.out _ (Lib.hid fun w3 c3 g3 => ?_)
    rw [ex1]
    have n3 := Lib.hid (n2'.out.trans (grown_b g3 hs2 hp))
    have c3' := Lib.hid c3
    have hs3 := Nat.le_trans hs2 g3.size
    clear c2 g3 c3 n2'
    go_wp2_with fail
    refine curneed_calls _ p _ _ c3'.out _ (Lib.hid fun w4 c4 g4 => ?_)
    rw [ex2]
    have n4 := Lib.hid (n3.out.trans (grown_b g4 hs3 hp))
    have c4' := Lib.hid c4
    clear c3' g4 c4 n3
    go_wp2_with fail
    refine curfault_calls _ p _ c4'.out _ (Lib.hid fun w5 n5 => ?_)
    rw [ex3]
    have n6 := Lib.hid (n4.out.trans (n5.mono n4.out.size))
    clear n5 n4 c4'
    go_wp2_with fail
    exact hR.out _ n6.out
  · rw [ex_cur] at h1; simp at h1
set_option maxRecDepth 100000 in
set_option maxHeartbeats 2000000 in
theorem none14_walk (s : ByteArray) (n : Int) (w : World) (R : Ending → World → Prop) (hR : Hid (∀ w', Below w.heap.size w w' → R (.returned (.bool true)) w')) : Calls Try.prog 3 #[.string s, .int .i64 n] w R := by
  have tz : tkV zT = .agg #[.int .i64 0, .int .i64 0, .int .i64 0, .string ⟨#[]⟩, .int .i64 0] := rfl
  go_enter Try.func3, Try.ntmps3
  go_wp2_with fail
  refine curfailN_calls _ _ _ (Lib.hid fun w1 n1 => ?_)
  replace n1 := Lib.hid n1
  go_wp2_with fail
  refine curfailatN_calls _ _ _ _ (Lib.hid fun w2 n2 => ?_)
  have m2 := Lib.hid (n1.out.trans (n2.mono n1.out.size))
  clear n1 n2
  go_wp2_with fail
  refine curleaveN_calls _ _ (Lib.hid fun w3 n3 => ?_)
  have m3 := Lib.hid (m2.out.trans (n3.mono m2.out.size))
  clear m2 n3
  go_wp2_with fail
  refine curtakeN_calls _ _ _ (Lib.hid fun w4 n4 => ?_)
  rw [tz]
  have m4 := Lib.hid (m3.out.trans ((n4.alloc n4.size (.cells #[.int .i64 0, .int .i64 0, .int .i64 0, .string ⟨#[]⟩, .int .i64 0] 27)).mono m3.out.size))
  clear m3 n4
  go_wp2_with fail
  generalize w4.alloc (.cells #[.int .i64 0, .int .i64 0, .int .i64 0, .string ⟨#[]⟩, .int .i64 0] 27) = W5 at *
  refine curpeekN_calls _ _ (Lib.hid fun w6 n6 => ?_)
  rw [tz]
  have m6 := Lib.hid (m4.out.trans (n6.mono m4.out.size))
  clear m4 n6
  go_wp2_with fail
  refine curnextN_calls _ _ (Lib.hid fun w7 n7 => ?_)
  rw [tz]
  have m7 := Lib.hid (m6.out.trans (n7.mono m6.out.size))
  clear m6 n7
  go_wp2_with fail
  refine curmarkN_calls _ _ _ (Lib.hid fun w8 n8 => ?_)
  have m8 := Lib.hid (m7.out.trans (n8.mono m7.out.size))
  clear m7 n8
  go_wp2_with fail
  refine curwordN_calls _ _ _ (Lib.hid fun w9 n9 => ?_)
  have m9 := Lib.hid (m8.out.trans (n9.mono m8.out.size))
  clear m8 n9
  go_wp2_with fail
  refine curneedN_calls _ _ _ (Lib.hid fun w10 n10 => ?_)
  have m10 := Lib.hid (m9.out.trans (n10.mono m9.out.size))
  clear m9 n10
  go_wp2_with fail
  refine curenterN_calls _ _ (Lib.hid fun w11 n11 => ?_)
  have m11 := Lib.hid (m10.out.trans (n11.mono m10.out.size))
  clear m10 n11
  go_wp2_with fail
  refine curdepthN_calls _ _ (Lib.hid fun w12 n12 => ?_)
  have m12 := Lib.hid (m11.out.trans (n12.mono m11.out.size))
  clear m11 n12
  go_wp2_with fail
  refine curfaultN_calls _ _ (Lib.hid fun w13 n13 => ?_)
  have m13 := Lib.hid (m12.out.trans (n13.mono m12.out.size))
  clear m12 n13
  go_wp2_with fail
  refine lives14_calls _ _ (Lib.hid fun w14 n14 => ?_)
  have m14 := Lib.hid (m13.out.trans (n14.mono m13.out.size))
  clear m13 n14
  go_wp2_with fail
  exact hR.out _ m14.out
end Go.Proofs.Ytmchgimbfdeaiaa.Cur
