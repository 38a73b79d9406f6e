/- The code's isWrong and Right. -/
import Derived.Test.YtjcmljdkegpjbaaPatA
import Derived.Test.YtjcmljdkegpjbaaNamB
import Derived.Laws.StructEq
set_option linter.unusedVariables false
namespace Go.Proofs.Ytjcmljdkegpjbaa.Pat
open Go.RowKit Go.Lib Go.Proofs.Ytjcmljdkegpjbaa.Utf Go.Proofs.Ytjcmljdkegpjbaa.Nam Go.Proofs.Ytjcmljdkegpjbaa.Dig

set_option maxRecDepth 100000 in
set_option maxHeartbeats 2000000 in
theorem wrong_calls (x : St) (hx : GoodS x) (w : World) (R : Ending → World → Prop)
    (hR : Hid (∀ w', Below w.heap.size w w' → R (.returned (.bool (decide (¬ RightSt x)))) w')) : Calls Try.prog 20 #[stV x] w R := by
  obtain ⟨k, n, nm⟩ := x
  obtain ⟨b1, b2, b3⟩ := hx
  simp only at b1 b2 b3
  have hbad : ¬ RightSt (k, n, nm) → decide (¬ RightSt (k, n, nm)) = true := fun h => decide_eq_true h
  have hgood : RightSt (k, n, nm) → decide (¬ RightSt (k, n, nm)) = false := fun h => decide_eq_false (fun q => q h)
  generalize decide (¬ RightSt (k, n, nm)) = V at *
  rw [right_iff] at hbad hgood
  unfold stV
  simp only
  have nW := Lib.hid ((Below.refl w.heap.size w).alloc (Nat.le_refl _) (.cells #[.int .i64 k, .int .i64 n, .string nm] 36))
  have cR := fun (W : World) R hR => right_calls nm b3 W R hR
  by_cases hk1 : k < 1 ∨ 5 < k
  · rw [hbad (fun h => by omega)] at hR
    clear hbad hgood cR
    have k1 : (k == 1) = false := by simp; omega
    have k2 : (k == 2) = false := by simp; omega
    have k3 : (k == 3) = false := by simp; omega
    have k4 : (k == 4) = false := by simp; omega
    have k5 : (k == 5) = false := by simp; omega
    clear hk1
    go_enter Try.func20, Try.ntmps20
    go_wp2_with fail
    exact hR.out _ nW.out
  have hk : k = 1 ∨ k = 5 ∨ k = 2 ∨ k = 3 ∨ k = 4 := by omega
  clear hk1
  rcases hk with rfl | rfl | rfl | rfl | rfl
  iterate 2
    · by_cases hn : n = 0
      · subst hn
        cases hb : rightS nm
        · rw [hbad (fun h => by have := h.2.2.2.1 (by decide); rw [hb] at this; cases this)] at hR
          rw [hb] at cR
          replace cR := Lib.hid cR
          clear hbad hgood hb
          go_enter Try.func20, Try.ntmps20
          go_wp2_with fail
          refine cR.out _ _ (Lib.hid ?_)
          go_wp2_with fail
          exact hR.out _ nW.out
        · have := rightS_pos hb
          rw [hgood ⟨by decide, by decide, ⟨fun _ => by omega, fun _ => by decide⟩, fun _ => hb, fun _ => rfl, by decide⟩] at hR
          rw [hb] at cR
          replace cR := Lib.hid cR
          clear hbad hgood hb this
          go_enter Try.func20, Try.ntmps20
          go_wp2_with fail
          refine cR.out _ _ (Lib.hid ?_)
          go_wp2_with fail
          exact hR.out _ nW.out
      · rw [hbad (fun h => hn (h.2.2.2.2.1 (by decide)))] at hR
        have hn' : (n != 0) = true := by simpa using hn
        clear hbad hgood cR
        go_enter Try.func20, Try.ntmps20
        go_wp2_with fail
        exact hR.out _ nW.out
  · clear cR
    by_cases hn : n < 0
    · rw [hbad (fun h => by omega)] at hR
      clear hbad hgood
      go_enter Try.func20, Try.ntmps20
      go_wp2_with fail
      exact hR.out _ nW.out
    · by_cases hz : nm.size = 0
      · have hE := isE_nil hz
        rw [hgood ⟨by decide, by decide, ⟨fun h => by omega, fun h => absurd hz h⟩, fun h => by omega, fun h => absurd rfl h, by omega⟩] at hR
        clear hbad hgood
        go_enter Try.func20, Try.ntmps20
        go_wp2_with fail
        exact hR.out _ nW.out
      · have hE := isE_pos (s := nm) (by omega)
        rw [hbad (fun h => by have := h.2.2.1.2 hz; omega)] at hR
        clear hbad hgood
        go_enter Try.func20, Try.ntmps20
        go_wp2_with fail
        exact hR.out _ nW.out
  all_goals
    clear cR
    by_cases hn : n = 0
    · subst hn
      by_cases hz : nm.size = 0
      · rw [hgood ⟨by decide, by decide, ⟨fun h => by omega, fun h => absurd hz h⟩, fun h => by omega, fun h => rfl, by omega⟩] at hR
        obtain rfl := size0 hz
        clear hbad hgood
        go_enter Try.func20, Try.ntmps20
        go_wp2_with fail
        exact hR.out _ nW.out
      · have hE := isE_pos (s := nm) (by omega)
        rw [hbad (fun h => by have := h.2.2.1.2 hz; omega)] at hR
        clear hbad hgood
        go_enter Try.func20, Try.ntmps20
        go_wp2_with fail
        exact hR.out _ nW.out
    · rw [hbad (fun h => hn (h.2.2.2.2.1 (by decide)))] at hR
      have hn' : (n != 0) = true := by simpa using hn
      have hn2 : (n == 0) = false := by simpa using hn
      clear hbad hgood
      go_enter Try.func20, Try.ntmps20
      go_wp2_with fail
      exact hR.out _ nW.out
end Go.Proofs.Ytjcmljdkegpjbaa.Pat
