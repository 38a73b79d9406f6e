/- The code's Right: slices.ContainsFunc at isWrong. -/
import Derived.Test.YtjcmljdkegpjbaaPatF
set_option linter.unusedVariables false
namespace Go.Proofs.Ytjcmljdkegpjbaa.Pat
open Go.RowKit Go.Lib Go.Proofs.Ytjcmljdkegpjbaa.Utf Go.Proofs.Ytjcmljdkegpjbaa.Nam Go.Proofs.Ytjcmljdkegpjbaa.Dig

set_option maxRecDepth 100000 in
set_option maxHeartbeats 2000000 in
theorem index_calls (xs : List St) (v : Value) (w : World) (hx : RdP w v xs) (hg : ∀ x ∈ xs, GoodS x) (hl : xs.length ≤ 1000000) (R : Ending → World → Prop)
    (hR : Hid (∀ w' V, Below w.heap.size w w' → ((0 : Int) ≤ V ↔ ¬ ∀ x ∈ xs, RightSt x) → R (.returned (.int .i64 V)) w')) : Calls Try.prog 34 #[v, .func (.func 20) #[] #[]] w R := by
  obtain ⟨A, c, rfl, hlc, hr⟩ := hx.op
  replace hr := Lib.hid hr
  clear hx
  go_enter Try.func34, Try.ntmps34
  go_wp2_with fail
  go_loopg [5, 8] xs.length (fun k s5 i wr => ∃ (K : Nat), Below w.heap.size w wr ∧ i = .int .i64 K ∧ K + k = xs.length ∧ Hid (∀ j, j < K → RightSt (stN xs j)))
  case atStart => exact ⟨0, Below.refl _ _, rfl, by omega, Lib.hid fun j h => by omega⟩
  case round =>
    obtain ⟨K, hbel, rfl, c1, c2⟩ := hrel
    have hsz := hbel.size
    by_cases hK : K < xs.length
    · obtain ⟨g, o, rfl, hg1, hca⟩ := hr.out (by omega)
      obtain ⟨a0, a1, a2⟩ := hca K hK
      have e0 := (hbel.cell (p := ⟨g, o + K * 3, none⟩) hg1).trans a0
      have e1 := (hbel.cell (p := ⟨g, o + K * 3 + 1, none⟩) hg1).trans a1
      have e2 := (hbel.cell (p := ⟨g, o + K * 3 + 2, none⟩) hg1).trans a2
      have cW := fun (W : World) R hR => wrong_calls (stN xs K) (hg _ (stN_mem hK)) W R hR
      have hbad : ¬ RightSt (stN xs K) → ¬ ∀ x ∈ xs, RightSt x := fun h q => h (q _ (stN_mem hK))
      have hgood : RightSt (stN xs K) → ∀ j, j < K + 1 → RightSt (stN xs j) := fun h j hj => by
        rcases Nat.eq_or_lt_of_le (Nat.le_of_lt_succ hj) with e | q
        · subst e; exact h
        · exact c2.out j q
      clear hca a0 a1 a2 c2
      generalize stN xs K = x at *
      obtain ⟨k, n, nm⟩ := x
      unfold stV at cW
      simp only at e0 e1 e2 cW
      by_cases h : RightSt (k, n, nm)
      · have q := Lib.hid (hgood h)
        rw [decide_eq_false (fun q => q h)] at cW
        replace cW := Lib.hid cW
        clear hbad hgood h
        go_wp2_with fail
        refine cW.out _ _ (Lib.hid fun w1 n1 => ?_)
        have n2 := Lib.hid (hbel.trans (n1.mono hsz))
        clear n1
        go_wp2_with fail
        go_roundg (gk - 1)
        case measure => omega
        case rel => exact ⟨K + 1, n2.out, by go_num, by omega, q⟩
      · have q := Lib.hid (hbad h)
        rw [decide_eq_true h] at cW
        replace cW := Lib.hid cW
        clear hbad hgood h
        go_wp2_with fail
        refine cW.out _ _ (Lib.hid fun w1 n1 => ?_)
        have n2 := Lib.hid (hbel.trans (n1.mono hsz))
        clear n1
        go_wp2_with fail
        exact hR.out _ _ n2.out ⟨fun _ => q.out, fun _ => by omega⟩
    · have e : ∀ x ∈ xs, RightSt x := fun x hx => by
        obtain ⟨i, hi, e⟩ := List.getElem_of_mem hx
        rw [← e, ← stN_get hi]
        exact c2.out i (by omega)
      replace e := Lib.hid e
      clear c2
      go_wp2_with fail
      exact hR.out _ _ hbel ⟨fun h => by omega, fun h => absurd e.out h⟩

theorem contains_calls (xs : List St) (v : Value) (w : World) (hx : RdP w v xs) (hg : ∀ x ∈ xs, GoodS x) (hl : xs.length ≤ 1000000) (R : Ending → World → Prop)
    (hR : Hid (∀ w', Below w.heap.size w w' → R (.returned (.bool (decide (¬ ∀ x ∈ xs, RightSt x)))) w')) : Calls Try.prog 19 #[v, .func (.func 20) #[] #[]] w R := by
  have cI := fun (W : World) hx R hR => index_calls xs v W hx hg hl R hR
  have hx' := Lib.hid hx
  obtain ⟨D, hD⟩ : ∃ D, decide (¬ ∀ x ∈ xs, RightSt x) = D := ⟨_, rfl⟩
  rw [hD] at hR
  replace hD := Lib.hid hD
  obtain ⟨A, c, rfl, hlc, hr⟩ := hx.op
  clear hx hr hg
  replace cI := Lib.hid cI
  go_enter Try.func19, Try.ntmps19
  go_wp2_with fail
  refine cI.out _ hx'.out _ (Lib.hid fun w1 V n1 hV => ?_)
  have e : D = decide (0 ≤ V) := by rw [← hD.out]; exact decide_eq_decide.2 hV.symm
  rw [e] at hR
  clear e hV hD
  go_wp2_with fail
  exact hR.out _ n1

theorem right_steps (xs : List St) (v : Value) (w : World) (hx : RdP w v xs) (hg : ∀ x ∈ xs, GoodS x) (R : Ending → World → Prop)
    (hR : Hid (∀ w', Below w.heap.size w w' → R (.returned (.bool (decide (RightP xs)))) w')) : Calls Try.prog 9 #[v] w R := by
  by_cases h64 : xs.length ≤ 64
  · have cC := fun (W : World) hx R hR => contains_calls xs v W hx hg (by omega) R hR
    have e : decide (RightP xs) = !decide (¬ ∀ x ∈ xs, RightSt x) := by
      by_cases q : ∀ x ∈ xs, RightSt x
      · rw [decide_eq_true ⟨h64, q⟩, decide_eq_false (fun h => h q)]; rfl
      · rw [decide_eq_false (fun h => q h.2), decide_eq_true q]; rfl
    rw [e] at hR
    have hx' := Lib.hid hx
    generalize decide (¬ ∀ x ∈ xs, RightSt x) = V at *
    obtain ⟨A, c, rfl, hlc, hr⟩ := hx.op
    clear hx hr hg e
    replace cC := Lib.hid cC
    cases V
    all_goals
      go_enter Try.func9, Try.ntmps9
      go_wp2_with fail
      refine cC.out _ hx'.out _ (Lib.hid fun w1 n1 => ?_)
      go_wp2_with fail
      exact hR.out _ n1
  · rw [decide_eq_false (fun h => h64 h.1)] at hR
    obtain ⟨A, c, rfl, hlc, hr⟩ := hx.op
    clear hx hr hg
    go_enter Try.func9, Try.ntmps9
    go_wp2_with fail
    exact hR.out _ (Below.refl _ _)
end Go.Proofs.Ytjcmljdkegpjbaa.Pat
