/- The walk of the law PinnedTells. -/
import Derived.Test.YtcgknfpcpjiciaaPinR
import Derived.Deep.RegionHeld3
set_option linter.unusedVariables false
namespace Go.Proofs.Ytcgknfpcpjiciaa.Ran
open Go.RowKit Go.Lib
set_option maxRecDepth 1000000
set_option maxHeartbeats 2000000 in
theorem tells_walk (r : Int) (w : World) (R : Ending → World → Prop)
    (hR : Hid (∀ w', Below w.heap.size w w' → R (.returned (.bool true)) w')) : Calls Try.prog 3 #[.int .i32 r] w R := by
  have z1 := size_wide r
  have z2 := size_zero r
  have c1 := fun (W : World) R hR => isWide_calls r W R hR
  have c2 := fun (W : World) R hR => isZero_calls r W R hR
  have c3 := fun (W : World) R hR => kind_calls3 r W R hR
  have c4 := fun (W : World) R hR => isUnsafe_calls r W R hR
  have c5 := fun (W : World) R hR => refSize_calls r W R hR
  have c6 := fun (W : World) R hR => refKind_calls r W R hR
  rw [← z1] at c1
  rw [← z2] at c2
  clear z1 z2
  have b1 := size_bd r
  have b2 := kind_bd r
  generalize sizeS r = n at *
  generalize kindS r = k at *
  have d1 : ∃ a, a = decide (n = 2) := ⟨_, rfl⟩
  have d2 : ∃ a, a = decide (n = 0) := ⟨_, rfl⟩
  have d3 : ∃ a, a = decide (k ≠ 0) := ⟨_, rfl⟩
  obtain ⟨d1, e1⟩ := d1
  obtain ⟨d2, e2⟩ := d2
  obtain ⟨d3, e3⟩ := d3
  rw [← e1] at c1
  rw [← e2] at c2
  rw [← e3] at c4
  replace c1 := Lib.hid c1
  replace c2 := Lib.hid c2
  replace c3 := Lib.hid c3
  replace c4 := Lib.hid c4
  replace c5 := Lib.hid c5
  replace c6 := Lib.hid c6
  have n012 : n = 0 ∨ n = 1 ∨ n = 2 := by omega
  by_cases k0 : k = 0
  · subst k0
    obtain rfl : d3 = false := by rw [e3]; rfl
    rcases n012 with rfl | rfl | rfl <;> (
      subst e1 e2
      clear e3
      simp only [show (decide ((0 : Int) = 2)) = false from rfl, show (decide ((0 : Int) = 0)) = true from rfl, show (decide ((1 : Int) = 2)) = false from rfl, show (decide ((1 : Int) = 0)) = false from rfl, show (decide ((2 : Int) = 2)) = true from rfl, show (decide ((2 : Int) = 0)) = false from rfl] at c1 c2
      go_enter Try.func3, Try.ntmps3
      go_wp2_with fail
      refine c5.out _ _ (fun w1 n1 => ?_)
      go_wp2_with fail
      refine c6.out _ _ (fun w2 n2 => ?_)
      replace n2 := n1.trans (n2.mono n1.size)
      clear n1
      go_wp2_with fail
      refine c1.out _ _ (fun w3 n3 => ?_)
      replace n3 := n2.trans (n3.mono n2.size)
      clear n2
      go_wp2_with fail
      refine c2.out _ _ (fun w4 n4 => ?_)
      replace n4 := n3.trans (n4.mono n3.size)
      clear n3
      go_wp2_with fail
      refine c3.out _ _ (fun w5 n5 => ?_)
      replace n5 := n4.trans (n5.mono n4.size)
      clear n4
      go_wp2_with fail
      refine c4.out _ _ (fun w6 n6 => ?_)
      replace n6 := n5.trans (n6.mono n5.size)
      clear n5
      go_wp2_with fail
      refine lives3_calls _ _ (fun w7 n7 => ?_)
      replace n7 := n6.trans (n7.mono n6.size)
      clear n6
      go_wp2_with fail
      exact hR.out _ n7)
  · obtain rfl : d3 = true := by rw [e3]; simpa using k0
    have k1 : (k != 0) = true := by simpa using k0
    rcases n012 with rfl | rfl | rfl <;> (
      subst e1 e2
      clear e3
      simp only [show (decide ((0 : Int) = 2)) = false from rfl, show (decide ((0 : Int) = 0)) = true from rfl, show (decide ((1 : Int) = 2)) = false from rfl, show (decide ((1 : Int) = 0)) = false from rfl, show (decide ((2 : Int) = 2)) = true from rfl, show (decide ((2 : Int) = 0)) = false from rfl] at c1 c2
      go_enter Try.func3, Try.ntmps3
      go_wp2_with fail
      refine c5.out _ _ (fun w1 n1 => ?_)
      go_wp2_with fail
      refine c6.out _ _ (fun w2 n2 => ?_)
      replace n2 := n1.trans (n2.mono n1.size)
      clear n1
      go_wp2_with fail
      refine c1.out _ _ (fun w3 n3 => ?_)
      replace n3 := n2.trans (n3.mono n2.size)
      clear n2
      go_wp2_with fail
      refine c2.out _ _ (fun w4 n4 => ?_)
      replace n4 := n3.trans (n4.mono n3.size)
      clear n3
      go_wp2_with fail
      refine c3.out _ _ (fun w5 n5 => ?_)
      replace n5 := n4.trans (n5.mono n4.size)
      clear n4
      go_wp2_with fail
      refine c4.out _ _ (fun w6 n6 => ?_)
      replace n6 := n5.trans (n6.mono n5.size)
      clear n5
      go_wp2_with fail
      refine lives3_calls _ _ (fun w7 n7 => ?_)
      replace n7 := n6.trans (n7.mono n6.size)
      clear n6
      go_wp2_with fail
      exact hR.out _ n7)
end Go.Proofs.Ytcgknfpcpjiciaa.Ran
