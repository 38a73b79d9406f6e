/- The set Unsafe. -/
import Derived.Test.YtcgknfpcpjiciaaPinN
set_option linter.unusedVariables false
namespace Go.Proofs.Ytcgknfpcpjiciaa.Ran
open Go.RowKit Go.Lib

theorem in_unsafe (r : Int) : inB unsafeT r = hasB unsafeT r := by
  unfold inB
  cases e : hasB unsafeT r
  · simp
  · have : 0 ≤ r ∧ r ≤ 1114111 := by
      unfold unsafeT at e
      rw [hasB_append, hasB_append, hasB_append] at e
      simp only [Bool.or_eq_true] at e
      rcases e with ((e | e) | e) | e
      · exact can_control.low e
      · exact can_bidi.low e
      · exact can_format.low e
      · exact can_separator.low e
    simp; omega
theorem rdN0 {w : World} {g n : Nat} {l : List Rg} (h : RdR w (.slice (some ⟨g, 0, none⟩) n n) l) : RdN w 0 (.slice (some ⟨g, 0, none⟩) n n) l := ⟨h, .inr ⟨_, _, _, _, rfl, Nat.zero_le _⟩⟩

set_option maxRecDepth 1000000 in
set_option maxHeartbeats 4000000 in
theorem setUnsafe_calls (w : World) (R : Ending → World → Prop)
    (hR : Hid (∀ v' l w', RdN w' w.heap.size v' l → Can 0 l → (∀ r, hasB l r = hasB unsafeT r) → Below w.heap.size w w' → R (.returned (.agg #[v'])) w')) : Calls Try.prog 16 #[] w R := by
  obtain ⟨Z1, hZ1, hZs1⟩ := zv2
  obtain ⟨Z2, hZ2, hZs2⟩ := zv4
  obtain ⟨Z3, hZ3, hZs3⟩ := zv17
  obtain ⟨Z4, hZ4, hZs4⟩ := zv1
  have b0 : Below w.heap.size w (w.alloc (.cells #[.slice none 0 0] 27)) := (Below.refl _ _).alloc (Nat.le_refl _) _
  have k0 := cellNew w (.slice none 0 0) 27
  have k1 := frozen_new w #[.slice none 0 0] 27 0
  have zz : (w.alloc (.cells #[.slice none 0 0] 27)).heap.size = w.heap.size + 1 := by simp
  go_enter Try.func16, Try.ntmps16
  go_wp2_with fail
  generalize w.alloc (.cells #[.slice none 0 0] 27) = wa at *
  refine controlTable_calls _ _ (fun C1 w1 hC1 n1 => ?_)
  replace hC1 := Lib.hid hC1
  go_wp2_with fail
  refine bidiTable_calls _ _ (fun C2 w2 hC2 n2 => ?_)
  replace hC2 := Lib.hid hC2
  replace n2 := n1.trans (n2.mono n1.size)
  clear n1
  go_wp2_with fail
  refine formatTable_calls _ _ (fun C3 w3 hC3 n3 => ?_)
  replace hC3 := Lib.hid hC3
  replace n3 := n2.trans (n3.mono n2.size)
  clear n2
  go_wp2_with fail
  refine separatorTable_calls _ _ (fun C4 w4 hC4 n4 => ?_)
  replace hC4 := Lib.hid hC4
  replace n4 := n3.trans (n4.mono n3.size)
  clear n3
  have s1 : C1.size = 4 := by rw [hC1.out]; kernel_rfl
  have s2 : C2.size = 8 := by rw [hC2.out]; kernel_rfl
  have s3 : C3.size = 34 := by rw [hC3.out]; kernel_rfl
  have s4 : C4.size = 2 := by rw [hC4.out]; kernel_rfl
  obtain ⟨W1, W2, W3, W4, e1, e2, e3, e4, nW, x1, x2, x3, x4⟩ := four_rows (P := Try.prog) w4 Z1 Z2 Z3 Z4 C1 C2 C3 C4 43 45 47 49 (by omega) (by omega) (by omega) (by omega)
    (by rw [hC1.out]; exact flat_all _) (by rw [hC2.out]; exact flat_all _) (by rw [hC3.out]; exact flat_all _) (by rw [hC4.out]; exact flat_all _)
  replace x1 := Lib.hid (rdN0 (rdR_row (T := controlT) (n := 2) x1 hC1.out (by kernel_rfl)))
  replace x2 := Lib.hid (rdN0 (rdR_row (T := bidiT) (n := 4) x2 hC2.out (by kernel_rfl)))
  replace x3 := Lib.hid (rdN0 (rdR_row (T := formatT) (n := 17) x3 hC3.out (by kernel_rfl)))
  replace x4 := Lib.hid (rdN0 (rdR_row (T := separatorT) (n := 1) x4 hC4.out (by kernel_rfl)))
  clear hC1 hC2 hC3 hC4
  replace nW := n4.trans (nW.mono n4.size)
  clear n4
  have g0 := Lib.hid ((nW.cell (p := ⟨w.heap.size, 0, none⟩) (by simp only; omega)).trans k0)
  have g1 := Lib.hid ((nW.frozen (p := ⟨w.heap.size, 0, none⟩) (by simp only; omega)).trans k1)
  have gz : w.heap.size < W4.heap.size := by have := nW.size; omega
  replace nW := Lib.hid (b0.trans (nW.mono b0.size))
  clear k0 k1 b0
  go_wp2_with fail
  go_region_held3 (fun w' => Below w.heap.size w w')
    (first
      | exact nW.out.drew
      | exact mS
      | exact mC
      | exact (nW.out.drew).alloc (Nat.le_of_lt gz) _
      | exact mS.setCell (p := ⟨w.heap.size, 0, none⟩) (Nat.le_refl _) _
      | trace_state)
    (first
      | (go_at_call 38
         go_loud (refine concat4_calls controlT bidiT formatT separatorT _ _ _ _ _ _ (by simp) ((cell_of_row _ _ 0 _ _ (0, 0) (heap_alloc_last _ _)).trans rfl) ((cell_of_row _ _ 1 _ _ (0, 0) (heap_alloc_last _ _)).trans rfl) ((cell_of_row _ _ 2 _ _ (0, 0) (heap_alloc_last _ _)).trans rfl) ((cell_of_row _ _ 3 _ _ (0, 0) (heap_alloc_last _ _)).trans rfl) (x1.out.below (((Below.refl W4.heap.size W4).drew).alloc (Nat.le_refl _) _)) (x2.out.below (((Below.refl W4.heap.size W4).drew).alloc (Nat.le_refl _) _)) (x3.out.below (((Below.refl W4.heap.size W4).drew).alloc (Nat.le_refl _) _)) (x4.out.below (((Below.refl W4.heap.size W4).drew).alloc (Nat.le_refl _) _)) (of_decide_eq_true (by kernel_rfl)) _ (fun v5 w5 r5 n5 => ?_))
         have nC : Below W4.heap.size W4 w5 := Below.trans (((Below.refl W4.heap.size W4).drew).alloc (Nat.le_refl _) _) (n5.mono (by simp))
         have mC := nW.out.trans (nC.mono nW.out.size)
         obtain ⟨A5, c5, rfl⟩ := r5.len)
      | (go_at_call 35
         go_loud (refine set_calls unsafeT _ w5 r5.1 (of_decide_eq_true (by kernel_rfl)) _ (fun v6 l w6 r6 cn hs n6 => ?_))
         have nS : Below W4.heap.size W4 w6 := nC.trans (n6.mono nC.size)
         have mS := nW.out.trans (nS.mono nW.out.size)
         have f0 := (nS.cell (p := ⟨w.heap.size, 0, none⟩) gz).trans g0.out
         have f1 := (nS.frozen (p := ⟨w.heap.size, 0, none⟩) gz).trans g1.out
         obtain ⟨A6, c6, rfl⟩ := r6.len))
  have z5 : w.heap.size < w5.heap.size := Nat.lt_of_lt_of_le gz nC.size
  have r7 := Lib.hid ((r6.setCell (p := ⟨w.heap.size, 0, none⟩) z5 (.slice A6 l.length c6)).mono (Nat.le_of_lt z5))
  have n7 := Lib.hid (mS.setCell (p := ⟨w.heap.size, 0, none⟩) (Nat.le_refl _) (.slice A6 l.length c6))
  have hs7 := Lib.hid (fun r => (hs r).trans (in_unsafe r))
  replace cn := Lib.hid cn
  clear hs r6 r5 nC nS mC mS n5 n6
  go_wp2_with fail
  exact bodyPost_ret (v := .agg #[.slice A6 l.length c6]) (by simp [results, Try.results16, go_sem, f0]) rfl (hR.out _ _ _ r7.out cn.out hs7.out n7.out)
end Go.Proofs.Ytcgknfpcpjiciaa.Ran
