/- The walk of the law PinnedSets. -/
import Derived.Test.YtcgknfpcpjiciaaPinU
import Derived.Test.YtcgknfpcpjiciaaPinR
import Derived.Test.YtcgknfpcpjiciaaRanB
import Derived.Test.YtcgknfpcpjiciaaRanC
set_option linter.unusedVariables false
namespace Go.Proofs.Ytcgknfpcpjiciaa.Ran
open Go.RowKit Go.Lib

theorem rdN_any {w : World} {v : Value} {l : List Rg} (h : RdR w v l) (h0 : 0 < l.length) : RdN w 0 v l := by
  obtain ⟨A, c, rfl, h1, h2⟩ := h.open
  obtain ⟨g, o, rfl, -⟩ := h2 h0
  exact ⟨h, .inr ⟨_, _, _, _, rfl, Nat.zero_le _⟩⟩
theorem inB_unsafeR (r : Int) : inB unsafeR r = hasB unsafeT r := by
  have := in_unsafe r
  unfold inB at this ⊢
  rw [unsafeR_has]; exact this

set_option maxRecDepth 1000000 in
set_option maxHeartbeats 1000000 in
theorem refUnsafe_calls (w : World) (R : Ending → World → Prop)
    (hR : Hid (∀ v w', RdR w' v unsafeR → Below w.heap.size w w' → R (.returned v) w')) : Calls Try.prog 20 #[] w R := by
  have o0 := World.ownsRow_lit (base := w.heap.size) (e := 54) (size := 2) w #[.int .i32 0, .int .i32 31, .int .i32 127, .int .i32 159, .int .i32 8232, .int .i32 8233] 3 (Nat.le_refl _) (by unfold maxLen; omega) rfl
  have b0 : Below w.heap.size w (w.alloc (.cells #[.int .i32 0, .int .i32 31, .int .i32 127, .int .i32 159, .int .i32 8232, .int .i32 8233] 54)) := (Below.refl _ _).alloc (Nat.le_refl _) _
  have o1 : (w.alloc (.cells #[.int .i32 0, .int .i32 31, .int .i32 127, .int .i32 159, .int .i32 8232, .int .i32 8233] 54)).ownsRow w.heap.size 54 2 (.slice (some ⟨w.heap.size, 0, none⟩) 3 3) ([(0, 31), (127, 159), (8232, 8233)] : List Rg).length (flat [(0, 31), (127, 159), (8232, 8233)]) := o0
  clear o0
  go_enter Try.func20, Try.ntmps20
  go_wp2_with fail
  generalize w.alloc (.cells #[.int .i32 0, .int .i32 31, .int .i32 127, .int .i32 159, .int .i32 8232, .int .i32 8233] 54) = wa at *
  refine refbidi_calls _ _ (fun v1 w1 r1 n1 => ?_)
  have m1 := b0.trans (n1.mono b0.size)
  have s1 := m1.size
  have o2 := own_below o1 n1
  replace r1 := Lib.hid (rdN_any r1 (of_decide_eq_true (by kernel_rfl)))
  go_wp2_with (at_builtin; go_loud (refine appRg w1 rfl _ _ rfl w.heap.size 0 _ _ [(0, 31), (127, 159), (8232, 8233)] bidiT rfl o2 rfl r1.out s1 (of_decide_eq_true (by kernel_rfl)) ?_); intro v2 w2 o3 n2)
  have m2 := m1.trans n2
  have s2 := m2.size
  refine refformat_calls _ _ (fun v3 w3 r3 n3 => ?_)
  have m3 := m2.trans (n3.mono s2)
  have s3 := m3.size
  have o4 := own_below o3 n3
  replace r3 := Lib.hid (rdN_any r3 (of_decide_eq_true (by kernel_rfl)))
  go_wp2_with (at_builtin; go_loud (refine appRg w3 rfl _ _ rfl w.heap.size 0 _ _ ([(0, 31), (127, 159), (8232, 8233)] ++ bidiT) formatT rfl o4 rfl r3.out s3 (of_decide_eq_true (by kernel_rfl)) ?_); intro v4 w4 o5 n4)
  exact hR.out _ _ (RdR.of_own o5) (m3.trans n4)

set_option maxRecDepth 1000000 in
set_option maxHeartbeats 4000000 in
theorem sets_walk (r : Int) (w : World) (R : Ending → World → Prop)
    (hR : Hid (∀ w', Below w.heap.size w w' → R (.returned (.bool true)) w')) : Calls Try.prog 4 #[.int .i32 r] w R := by
  have z1 := size_wide r
  have z2 := size_zero r
  have z3 := unsafe_has r
  have c1 := fun (v : Value) (W : World) (h : RdR W v wideT) R hR => has_calls wideT r v W h can_wide R hR
  have c2 := fun (v : Value) (W : World) (h : RdR W v zeroT) R hR => has_calls zeroT r v W h can_zero R hR
  have c3 := fun (v : Value) (W : World) (l : List Rg) (h : RdR W v l) (hc : Can 0 l) (hh : ∀ r, hasB l r = hasB unsafeT r) R hR => (hh r ▸ has_calls l r v W h hc R) hR
  have c5 := fun (W : World) R hR => refSize_calls r W R hR
  have c6 := fun (W : World) R hR => refKind_calls r W R hR
  rw [← z1] at c1
  rw [← z2] at c2
  rw [z3] at c3
  clear z1 z2 z3
  have b1 := size_bd r
  have b2 := kind_bd r
  generalize sizeS r = n at *
  generalize kindS r = k at *
  have d1 : ∃ a, a = decide (n = 2) := ⟨_, rfl⟩
  have d2 : ∃ a, a = decide (n = 0) := ⟨_, rfl⟩
  have d3 : ∃ a, a = decide (k ≠ 0) := ⟨_, rfl⟩
  obtain ⟨d1, e1⟩ := d1
  obtain ⟨d2, e2⟩ := d2
  obtain ⟨d3, e3⟩ := d3
  rw [← e1] at c1
  rw [← e2] at c2
  rw [← e3] at c3
  have n012 : n = 0 ∨ n = 1 ∨ n = 2 := by omega
  have kk : (k = 0 ∧ d3 = false ∧ (k != 0) = false) ∨ (k ≠ 0 ∧ d3 = true ∧ (k != 0) = true) := by
    by_cases k0 : k = 0
    · exact .inl ⟨k0, by rw [e3]; simpa using k0, by simpa using k0⟩
    · exact .inr ⟨k0, by rw [e3]; simpa using k0, by simpa using k0⟩
  clear e3
  have dd : (n = 0 ∧ d1 = false ∧ d2 = true) ∨ (n = 1 ∧ d1 = false ∧ d2 = false) ∨ (n = 2 ∧ d1 = true ∧ d2 = false) := by
    subst e1 e2
    rcases n012 with rfl | rfl | rfl <;> simp
  clear e1 e2 n012 b1 b2
  replace c1 := Lib.hid c1
  replace c2 := Lib.hid c2
  replace c3 := Lib.hid c3
  replace c5 := Lib.hid c5
  replace c6 := Lib.hid c6
  rcases dd with ⟨rfl, rfl, rfl⟩ | ⟨rfl, rfl, rfl⟩ | ⟨rfl, rfl, rfl⟩ <;> rcases kk with ⟨k0, rfl, k1⟩ | ⟨k0, rfl, k1⟩ <;> (
    go_enter Try.func4, Try.ntmps4
    go_wp2_with fail
    refine c5.out _ _ (fun w1 n1 => ?_)
    go_wp2_with fail
    refine setWide_calls _ _ (fun v2 w2 r2 n2 => ?_)
    replace n2 := n1.trans (n2.mono n1.size)
    obtain ⟨A2, l2, rfl⟩ := r2.len
    replace r2 := Lib.hid r2
    clear n1
    go_wp2_with fail
    refine c1.out _ _ r2.out.1 _ (fun w3 n3 => ?_)
    replace n3 := n2.trans (n3.mono n2.size)
    clear n2 r2
    go_wp2_with fail
    refine setZero_calls _ _ (fun v4 w4 r4 n4 => ?_)
    replace n4 := n3.trans (n4.mono n3.size)
    obtain ⟨A4, l4, rfl⟩ := r4.len
    replace r4 := Lib.hid r4
    clear n3
    go_wp2_with fail
    refine c2.out _ _ r4.out.1 _ (fun w5 n5 => ?_)
    replace n5 := n4.trans (n5.mono n4.size)
    clear n4 r4
    go_wp2_with fail
    refine setUnsafe_calls _ _ (fun v6 U w6 r6 hU hu n6 => ?_)
    replace n6 := n5.trans (n6.mono n5.size)
    obtain ⟨A6, l6, rfl⟩ := r6.len
    replace r6 := Lib.hid r6
    replace hU := Lib.hid hU
    replace hu := Lib.hid hu
    clear n5
    go_wp2_with fail
    refine c3.out _ _ U r6.out.1 hU.out hu.out _ (fun w7 n7 => ?_)
    replace n7 := n6.trans (n7.mono n6.size)
    clear n6 r6 hU hu
    go_wp2_with fail
    refine c6.out _ _ (fun w8 n8 => ?_)
    replace n8 := n7.trans (n8.mono n7.size)
    clear n7
    go_wp2_with fail
    refine setUnsafe_calls _ _ (fun v9 V w9 r9 hV hv n9 => ?_)
    replace n9 := n8.trans (n9.mono n8.size)
    have hVl := can_len0 hV
    obtain ⟨A9, l9, rfl⟩ := r9.len
    replace r9 := Lib.hid r9
    replace hV := Lib.hid hV
    replace hv := Lib.hid hv
    clear n8
    go_wp2_with fail
    refine ranges_calls V _ _ _ r9.out (by omega) _ (fun v10 w10 r10 n10 => ?_)
    replace n10 := n9.trans (n10.mono n9.size)
    replace r10 := Lib.hid r10
    clear n9 r9
    go_wp2_with fail
    refine refUnsafe_calls _ _ (fun v11 w11 r11 n11 => ?_)
    replace r10 := Lib.hid (r10.out.below n11)
    replace n11 := n10.trans (n11.mono n10.size)
    replace r11 := Lib.hid r11
    clear n10
    go_wp2_with fail
    refine new_calls unsafeR _ _ r11.out (of_decide_eq_true (by kernel_rfl)) _ (fun v12 T w12 r12 hT ht n12 => ?_)
    replace r10 := Lib.hid (r10.out.below n12)
    replace n12 := n11.trans (n12.mono n11.size)
    obtain rfl : T = V := can_unique T V 0 hT hV.out fun r => by rw [ht r, hv.out r, inB_unsafeR]
    obtain ⟨A12, l12, rfl⟩ := r12.len
    replace r12 := Lib.hid r12
    clear n11 ht hT r11
    go_wp2_with fail
    refine ranges_calls T _ _ _ r12.out (by omega) _ (fun v13 w13 r13 n13 => ?_)
    replace r10 := Lib.hid (r10.out.below n13)
    replace n13 := n12.trans (n13.mono n12.size)
    replace r13 := Lib.hid r13
    clear n12 r12
    go_wp2_with fail
    refine same_calls T T _ _ _ r10.out.1 r13.out.1 (by omega) (by omega) _ (fun nq => ?_)
    rw [decide_eq_true rfl]
    replace n13 := bdN n13 nq
    clear r10 r13
    generalize w13.drewN nq = w14 at *
    go_wp2_with fail
    refine lives3_calls _ _ (fun w15 n15 => ?_)
    replace n15 := n13.trans (n15.mono n13.size)
    clear n13
    go_wp2_with fail
    exact hR.out _ n15)
end Go.Proofs.Ytcgknfpcpjiciaa.Ran
