/- The walk of the law PinnedApart. -/
import Derived.Test.YtcgknfpcpjiciaaPinN
import Derived.Test.YtcgknfpcpjiciaaPinR
import Derived.Test.YtcgknfpcpjiciaaRanG
set_option linter.unusedVariables false
namespace Go.Proofs.Ytcgknfpcpjiciaa.Ran
open Go.RowKit Go.Lib

set_option maxRecDepth 1000000
theorem both_none : bothS wideT zeroT = [] := can_unique _ _ 0 (both_can can_wide can_zero) trivial fun r => by
  rw [both_has can_wide can_zero, hasB_nil]
  have := wide_zero r
  cases h1 : hasB wideT r <;> cases h2 : hasB zeroT r <;> simp_all
theorem key_apart (T : List Rg) (h : apartB [(32, 126)] T = true) (r : Int) (h1 : 32 ≤ r) (h2 : r ≤ 126) : hasB T r = false := by
  have := apart_of_B h r
  have e : hasB [(32, 126)] r = true := by simp [hasB]; omega
  cases h3 : hasB T r
  · rfl
  · exact absurd ⟨e, h3⟩ this
theorem key_wide (r : Int) (h1 : 32 ≤ r) (h2 : r ≤ 126) : hasB wideT r = false := key_apart _ (by kernel_rfl) r h1 h2
theorem key_zero (r : Int) (h1 : 32 ≤ r) (h2 : r ≤ 126) : hasB zeroT r = false := key_apart _ (by kernel_rfl) r h1 h2
theorem key_kind (r : Int) (h1 : 32 ≤ r) (h2 : r ≤ 126) : decide (kindS r ≠ 0) = false := by rw [← unsafe_has]; exact key_apart _ (by kernel_rfl) r h1 h2

set_option maxHeartbeats 4000000 in
theorem apart_walk (r : Int) (w : World) (R : Ending → World → Prop)
    (hR : Hid (∀ w', Below w.heap.size w w' → R (.returned (.bool true)) w')) : Calls Try.prog 5 #[.int .i32 r] w R := by
  have c1 := fun (W : World) R hR => isWide_calls r W R hR
  have c2 := fun (W : World) R hR => isZero_calls r W R hR
  have c4 := fun (W : World) R hR => isUnsafe_calls r W R hR
  have cB := fun (va vb : Value) (W : World) (h1 : RdR W va wideT) (h2 : RdR W vb zeroT) R hR => (both_none ▸ both_calls wideT zeroT va vb W h1 h2 (of_decide_eq_true (by kernel_rfl)) (of_decide_eq_true (by kernel_rfl)) R) hR
  have hw := wide_zero r
  have ka : (32 ≤ r ∧ r ≤ 126 ∧ hasB wideT r = false ∧ hasB zeroT r = false ∧ decide (kindS r ≠ 0) = false) ∨ r < 32 ∨ 126 < r := by
    by_cases h1 : 32 ≤ r
    · by_cases h2 : r ≤ 126
      · exact .inl ⟨h1, h2, key_wide r h1 h2, key_zero r h1 h2, key_kind r h1 h2⟩
      · exact .inr (.inr (by omega))
    · exact .inr (.inl (by omega))
  generalize hasB wideT r = a at *
  generalize hasB zeroT r = b at *
  generalize decide (kindS r ≠ 0) = d at *
  replace c1 := Lib.hid c1
  replace c2 := Lib.hid c2
  replace c4 := Lib.hid c4
  replace cB := Lib.hid cB
  have cc : ∀ v w, RdR w v [] → ∀ (R : Ending → World → Prop), Hid (∀ w', Below w.heap.size w w' → R (.returned (.int .i64 0)) w') → Calls Try.prog 22 #[.agg #[v]] w R :=
    fun v w h R hR => count_calls [] v w h trivial R hR
  replace cc := Lib.hid cc
  rcases ka with ⟨q1, q2, rfl, rfl, rfl⟩ | q | q
  · clear hw
    go_enter Try.func5, Try.ntmps5
    go_wp2_with fail
    refine c1.out _ _ (fun x1 m1 => ?_)
    go_wp2_with fail
    refine c4.out _ _ (fun x2 m2 => ?_)
    replace m2 := m1.trans (m2.mono m1.size)
    clear m1
    go_wp2_with fail
    refine c1.out _ _ (fun x3 m3 => ?_)
    replace m3 := m2.trans (m3.mono m2.size)
    clear m2
    go_wp2_with fail
    refine c2.out _ _ (fun x4 m4 => ?_)
    replace m4 := m3.trans (m4.mono m3.size)
    clear m3
    go_wp2_with fail
    refine setWide_calls _ _ (fun v5 x5 r5 m5 => ?_)
    replace m5 := m4.trans (m5.mono m4.size)
    obtain ⟨A5, l5, rfl⟩ := r5.len
    replace r5 := Lib.hid r5
    clear m4
    go_wp2_with fail
    refine setZero_calls _ _ (fun v6 x6 r6 m6 => ?_)
    replace r5 := Lib.hid (r5.out.below m6)
    replace m6 := m5.trans (m6.mono m5.size)
    obtain ⟨A6, l6, rfl⟩ := r6.len
    replace r6 := Lib.hid r6
    clear m5
    go_wp2_with fail
    refine cB.out _ _ _ r5.out.1 r6.out.1 _ (fun v7 x7 r7 m7 => ?_)
    replace m7 := m6.trans (m7.mono m6.size)
    obtain ⟨A7, l7, rfl⟩ := r7.len
    replace r7 := Lib.hid r7
    clear m6 r5 r6
    go_wp2_with fail
    refine cc.out _ _ r7.out.1 _ (fun x8 m8 => ?_)
    replace m8 := m7.trans (m8.mono m7.size)
    clear m7 r7
    go_wp2_with fail
    refine lives3_calls _ _ (fun x9 m9 => ?_)
    replace m9 := m8.trans (m9.mono m8.size)
    clear m8
    go_wp2_with fail
    exact hR.out _ m9
  · cases a
    · clear hw
      go_enter Try.func5, Try.ntmps5
      go_wp2_with fail
      refine c1.out _ _ (fun x1 m1 => ?_)
      go_wp2_with fail
      refine setWide_calls _ _ (fun v5 x5 r5 m5 => ?_)
      replace m5 := m1.trans (m5.mono m1.size)
      obtain ⟨A5, l5, rfl⟩ := r5.len
      replace r5 := Lib.hid r5
      clear m1
      go_wp2_with fail
      refine setZero_calls _ _ (fun v6 x6 r6 m6 => ?_)
      replace r5 := Lib.hid (r5.out.below m6)
      replace m6 := m5.trans (m6.mono m5.size)
      obtain ⟨A6, l6, rfl⟩ := r6.len
      replace r6 := Lib.hid r6
      clear m5
      go_wp2_with fail
      refine cB.out _ _ _ r5.out.1 r6.out.1 _ (fun v7 x7 r7 m7 => ?_)
      replace m7 := m6.trans (m7.mono m6.size)
      obtain ⟨A7, l7, rfl⟩ := r7.len
      replace r7 := Lib.hid r7
      clear m6 r5 r6
      go_wp2_with fail
      refine cc.out _ _ r7.out.1 _ (fun x8 m8 => ?_)
      replace m8 := m7.trans (m8.mono m7.size)
      clear m7 r7
      go_wp2_with fail
      refine lives3_calls _ _ (fun x9 m9 => ?_)
      replace m9 := m8.trans (m9.mono m8.size)
      clear m8
      go_wp2_with fail
      exact hR.out _ m9
    · obtain rfl : b = false := by cases b <;> simp_all
      clear hw
      go_enter Try.func5, Try.ntmps5
      go_wp2_with fail
      refine c1.out _ _ (fun x1 m1 => ?_)
      go_wp2_with fail
      refine c2.out _ _ (fun x2 m2 => ?_)
      replace m2 := m1.trans (m2.mono m1.size)
      clear m1
      go_wp2_with fail
      refine setWide_calls _ _ (fun v5 x5 r5 m5 => ?_)
      replace m5 := m2.trans (m5.mono m2.size)
      obtain ⟨A5, l5, rfl⟩ := r5.len
      replace r5 := Lib.hid r5
      clear m2
      go_wp2_with fail
      refine setZero_calls _ _ (fun v6 x6 r6 m6 => ?_)
      replace r5 := Lib.hid (r5.out.below m6)
      replace m6 := m5.trans (m6.mono m5.size)
      obtain ⟨A6, l6, rfl⟩ := r6.len
      replace r6 := Lib.hid r6
      clear m5
      go_wp2_with fail
      refine cB.out _ _ _ r5.out.1 r6.out.1 _ (fun v7 x7 r7 m7 => ?_)
      replace m7 := m6.trans (m7.mono m6.size)
      obtain ⟨A7, l7, rfl⟩ := r7.len
      replace r7 := Lib.hid r7
      clear m6 r5 r6
      go_wp2_with fail
      refine cc.out _ _ r7.out.1 _ (fun x8 m8 => ?_)
      replace m8 := m7.trans (m8.mono m7.size)
      clear m7 r7
      go_wp2_with fail
      refine lives3_calls _ _ (fun x9 m9 => ?_)
      replace m9 := m8.trans (m9.mono m8.size)
      clear m8
      go_wp2_with fail
      exact hR.out _ m9
  · cases a
    · clear hw
      go_enter Try.func5, Try.ntmps5
      go_wp2_with fail
      refine c1.out _ _ (fun x1 m1 => ?_)
      go_wp2_with fail
      refine setWide_calls _ _ (fun v5 x5 r5 m5 => ?_)
      replace m5 := m1.trans (m5.mono m1.size)
      obtain ⟨A5, l5, rfl⟩ := r5.len
      replace r5 := Lib.hid r5
      clear m1
      go_wp2_with fail
      refine setZero_calls _ _ (fun v6 x6 r6 m6 => ?_)
      replace r5 := Lib.hid (r5.out.below m6)
      replace m6 := m5.trans (m6.mono m5.size)
      obtain ⟨A6, l6, rfl⟩ := r6.len
      replace r6 := Lib.hid r6
      clear m5
      go_wp2_with fail
      refine cB.out _ _ _ r5.out.1 r6.out.1 _ (fun v7 x7 r7 m7 => ?_)
      replace m7 := m6.trans (m7.mono m6.size)
      obtain ⟨A7, l7, rfl⟩ := r7.len
      replace r7 := Lib.hid r7
      clear m6 r5 r6
      go_wp2_with fail
      refine cc.out _ _ r7.out.1 _ (fun x8 m8 => ?_)
      replace m8 := m7.trans (m8.mono m7.size)
      clear m7 r7
      go_wp2_with fail
      refine lives3_calls _ _ (fun x9 m9 => ?_)
      replace m9 := m8.trans (m9.mono m8.size)
      clear m8
      go_wp2_with fail
      exact hR.out _ m9
    · obtain rfl : b = false := by cases b <;> simp_all
      clear hw
      go_enter Try.func5, Try.ntmps5
      go_wp2_with fail
      refine c1.out _ _ (fun x1 m1 => ?_)
      go_wp2_with fail
      refine c2.out _ _ (fun x2 m2 => ?_)
      replace m2 := m1.trans (m2.mono m1.size)
      clear m1
      go_wp2_with fail
      refine setWide_calls _ _ (fun v5 x5 r5 m5 => ?_)
      replace m5 := m2.trans (m5.mono m2.size)
      obtain ⟨A5, l5, rfl⟩ := r5.len
      replace r5 := Lib.hid r5
      clear m2
      go_wp2_with fail
      refine setZero_calls _ _ (fun v6 x6 r6 m6 => ?_)
      replace r5 := Lib.hid (r5.out.below m6)
      replace m6 := m5.trans (m6.mono m5.size)
      obtain ⟨A6, l6, rfl⟩ := r6.len
      replace r6 := Lib.hid r6
      clear m5
      go_wp2_with fail
      refine cB.out _ _ _ r5.out.1 r6.out.1 _ (fun v7 x7 r7 m7 => ?_)
      replace m7 := m6.trans (m7.mono m6.size)
      obtain ⟨A7, l7, rfl⟩ := r7.len
      replace r7 := Lib.hid r7
      clear m6 r5 r6
      go_wp2_with fail
      refine cc.out _ _ r7.out.1 _ (fun x8 m8 => ?_)
      replace m8 := m7.trans (m8.mono m7.size)
      clear m7 r7
      go_wp2_with fail
      refine lives3_calls _ _ (fun x9 m9 => ?_)
      replace m9 := m8.trans (m9.mono m8.size)
      clear m8
      go_wp2_with fail
      exact hR.out _ m9
end Go.Proofs.Ytcgknfpcpjiciaa.Ran
