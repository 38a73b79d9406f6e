/- IsWide, IsZero, Kind, IsUnsafe. -/
import Derived.Test.YtikcblnemdbjnaaPinW
set_option linter.unusedVariables false
namespace Go.Proofs.Ytikcblnemdbjnaa.Ran
open Go.RowKit Go.Lib
set_option maxRecDepth 1000000
theorem zv17 : ∃ Z : Array Value, (∀ w, (zeroValue 81).run Try.prog w = .ok (.agg Z) w) ∧ Z.size = 34 := ⟨Array.replicate 34 (.int .i32 0), (zero_of_info (n := 34) (by kernel_rfl)).1, by simp⟩
theorem zv4 : ∃ Z : Array Value, (∀ w, (zeroValue 79).run Try.prog w = .ok (.agg Z) w) ∧ Z.size = 8 := ⟨Array.replicate 8 (.int .i32 0), (zero_of_info (n := 8) (by kernel_rfl)).1, by simp⟩
theorem zv2 : ∃ Z : Array Value, (∀ w, (zeroValue 77).run Try.prog w = .ok (.agg Z) w) ∧ Z.size = 4 := ⟨Array.replicate 4 (.int .i32 0), (zero_of_info (n := 4) (by kernel_rfl)).1, by simp⟩
theorem zv1 : ∃ Z : Array Value, (∀ w, (zeroValue 83).run Try.prog w = .ok (.agg Z) w) ∧ Z.size = 2 := ⟨Array.replicate 2 (.int .i32 0), (zero_of_info (n := 2) (by kernel_rfl)).1, by simp⟩
theorem kind_calls3 (r : Int) (w : World) (R : Ending → World → Prop)
    (hR : Hid (∀ w', Below w.heap.size w w' → R (.returned (.int .i64 (kindS r))) w')) : Calls Try.prog 45 #[.int .i32 r] w R := by
  obtain ⟨Z1, hZ1, hZs1⟩ := zv2
  obtain ⟨Z2, hZ2, hZs2⟩ := zv4
  obtain ⟨Z3, hZ3, hZs3⟩ := zv17
  obtain ⟨Z4, hZ4, hZs4⟩ := zv1
  go_enter Try.func45, Try.ntmps45
  go_wp2_with fail
  refine controlTable_calls _ _ (fun C1 w1 hC1 n1 => ?_)
  replace hC1 := Lib.hid hC1
  go_wp2_with fail
  refine bidiTable_calls _ _ (fun C2 w2 hC2 n2 => ?_)
  replace hC2 := Lib.hid hC2
  replace n2 := n1.trans (n2.mono n1.size)
  clear n1
  go_wp2_with fail
  refine formatTable_calls _ _ (fun C3 w3 hC3 n3 => ?_)
  replace hC3 := Lib.hid hC3
  replace n3 := n2.trans (n3.mono n2.size)
  clear n2
  go_wp2_with fail
  refine separatorTable_calls _ _ (fun C4 w4 hC4 n4 => ?_)
  replace hC4 := Lib.hid hC4
  replace n4 := n3.trans (n4.mono n3.size)
  clear n3
  have s1 : C1.size = 4 := by rw [hC1.out]; kernel_rfl
  have s2 : C2.size = 8 := by rw [hC2.out]; kernel_rfl
  have s3 : C3.size = 34 := by rw [hC3.out]; kernel_rfl
  have s4 : C4.size = 2 := by rw [hC4.out]; kernel_rfl
  obtain ⟨W1, W2, W3, W4, e1, e2, e3, e4, nW, x1, x2, x3, x4⟩ := four_rows (P := Try.prog) w4 Z1 Z2 Z3 Z4 C1 C2 C3 C4 77 79 81 83 (by omega) (by omega) (by omega) (by omega)
    (by rw [hC1.out]; exact flat_all _) (by rw [hC2.out]; exact flat_all _) (by rw [hC3.out]; exact flat_all _) (by rw [hC4.out]; exact flat_all _)
  replace x1 := Lib.hid (rdR_row (T := controlT) (n := 2) x1 hC1.out (by kernel_rfl))
  replace x2 := Lib.hid (rdR_row (T := bidiT) (n := 4) x2 hC2.out (by kernel_rfl))
  replace x3 := Lib.hid (rdR_row (T := formatT) (n := 17) x3 hC3.out (by kernel_rfl))
  replace x4 := Lib.hid (rdR_row (T := separatorT) (n := 1) x4 hC4.out (by kernel_rfl))
  clear hC1 hC2 hC3 hC4
  replace nW := n4.trans (nW.mono n4.size)
  clear n4
  have hk : kindS r = if hasB controlT r then 1 else if hasB bidiT r then 2 else if hasB formatT r then 3 else if hasB separatorT r then 4 else 0 := rfl
  go_wp2_with fail
  refine within_calls controlT r _ _ x1.out can_control _ (fun w5 n5 => ?_)
  cases h1 : hasB controlT r
  · rw [h1, if_neg Bool.false_ne_true] at hk
    go_wp2_with fail
    refine within_calls bidiT r _ _ (x2.out.below n5) can_bidi _ (fun w6 n6 => ?_)
    replace n6 := n5.trans (n6.mono n5.size)
    cases h2 : hasB bidiT r
    · rw [h2, if_neg Bool.false_ne_true] at hk
      go_wp2_with fail
      refine within_calls formatT r _ _ (x3.out.below n6) can_format _ (fun w7 n7 => ?_)
      replace n7 := n6.trans (n7.mono n6.size)
      cases h3 : hasB formatT r
      · rw [h3, if_neg Bool.false_ne_true] at hk
        go_wp2_with fail
        refine within_calls separatorT r _ _ (x4.out.below n7) can_separator _ (fun w8 n8 => ?_)
        replace n8 := n7.trans (n8.mono n7.size)
        cases h4 : hasB separatorT r
        · rw [h4, if_neg Bool.false_ne_true] at hk
          rw [hk] at hR
          go_wp2_with fail
          exact hR.out _ (nW.trans (n8.mono nW.size))
        · rw [h4, if_pos rfl] at hk
          rw [hk] at hR
          go_wp2_with fail
          exact hR.out _ (nW.trans (n8.mono nW.size))
      · rw [h3, if_pos rfl] at hk
        rw [hk] at hR
        go_wp2_with fail
        exact hR.out _ (nW.trans (n7.mono nW.size))
    · rw [h2, if_pos rfl] at hk
      rw [hk] at hR
      go_wp2_with fail
      exact hR.out _ (nW.trans (n6.mono nW.size))
  · rw [h1, if_pos rfl] at hk
    rw [hk] at hR
    go_wp2_with fail
    exact hR.out _ (nW.trans (n5.mono nW.size))
theorem isUnsafe_calls (r : Int) (w : World) (R : Ending → World → Prop)
    (hR : Hid (∀ w', Below w.heap.size w w' → R (.returned (.bool (decide (kindS r ≠ 0)))) w')) : Calls Try.prog 27 #[.int .i32 r] w R := by
  obtain ⟨k, hk⟩ : ∃ k, k = kindS r := ⟨_, rfl⟩
  have kc := fun (W : World) R hR => kind_calls3 r W R hR
  have kb := kind_bd r
  rw [← hk] at hR kc kb
  clear hk
  replace kc := Lib.hid kc
  go_enter Try.func27, Try.ntmps27
  go_wp2_with fail
  refine kc.out _ _ (fun w1 n1 => ?_)
  by_cases h : k = 0
  · go_wp2_with fail
    exact retB (hR.out _ n1) (by simp [h])
  · go_wp2_with fail
    exact retB (hR.out _ n1) (by simp [h])
end Go.Proofs.Ytikcblnemdbjnaa.Ran
