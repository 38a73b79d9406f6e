import Derived.Test.YtncijmodlhijoaaGreatQ32
import Derived.IntWalk
import Derived.Test.YtncijmodlhijoaaGreatQ3
import Derived.Laws.RangeAny
import Derived.Lib.OthersKept
set_option linter.unusedVariables false
set_option maxRecDepth 100000
set_option maxHeartbeats 4000000
namespace Go.Proofs.YtncijmodlhijoaaGreat.Ran
open Go.RowKit Go.Lib
theorem within1_calls (T : List Rg) (r : Int) (k : Nat) (tv : Value) (w : World) (p2 p3 : Nat) (hx : RdR w tv T) (hk : k < T.length) (hT : T.length ≤ 1000000)
  (h2 : w.cell? ⟨p2, 0, none⟩ = some tv) (h3 : w.cell? ⟨p3, 0, none⟩ = some (.int .i32 r)) (R : Ending → World → Prop)
  (hR : Hid (∀ w', Below w.heap.size w w' → R (.returned (.bool (decide (r ≤ (T.getD k (0, 0)).2)))) w')) :
  Calls Tryz.prog 359 #[.int .i64 k, .pointer (some ⟨p2, 0, none⟩), .pointer (some ⟨p3, 0, none⟩)] w R := by
 obtain ⟨A, c, rfl, hlc, hr⟩ := hx.open
 obtain ⟨g, o, rfl, hg, hca⟩ := hr (by omega)
 obtain ⟨e0, e1⟩ := hca k hk
 clear hca hr hx e0
 generalize (T.getD k (0, 0)).2 = Y at *
 by_cases t : r ≤ Y
 ·rw [decide_eq_true t] at hR
  go_enter Tryz.func359, Tryz.ntmps359
  go_wp2_with fail
  go_quiet (fail)
  go_wp2_with fail
  exact hR.out _ (bdN (Below.refl _ _) _)
 ·rw [decide_eq_false t] at hR
  go_enter Tryz.func359, Tryz.ntmps359
  go_wp2_with fail
  go_quiet (fail)
  go_wp2_with fail
  exact retB (hR.out _ (bdN (Below.refl _ _) _)) (decide_eq_false (by omega)).symm
theorem searchW_calls (T : List Rg) (r : Int) (tv : Value) (w : World) (p2 p3 : Nat) (hx : RdR w tv T) (hc : Can 0 T)
  (h2 : w.cell? ⟨p2, 0, none⟩ = some tv) (h3 : w.cell? ⟨p3, 0, none⟩ = some (.int .i32 r)) (b2 : p2 < w.heap.size) (b3 : p3 < w.heap.size) (R : Ending → World → Prop)
  (hR : Hid (∀ (i : Nat) w', i ≤ T.length → hasB T r = (decide (i < T.length) && decide ((T.getD i (0, 0)).1 ≤ r)) → Below w.heap.size w w' → R (.returned (.int .i64 i)) w')) :
  Calls Tryz.prog 358 #[.int .i64 T.length, .func (.func 359) #[] #[.pointer (some ⟨p2, 0, none⟩), .pointer (some ⟨p3, 0, none⟩)]] w R := by
 have hl := can_len0 hc
 have hC := Lib.hid hc
 clear hc
 have hF := fun (W : World) (hb : Below w.heap.size w W) (k : Nat) (hk : k < T.length) R hR => within1_calls T r k tv W p2 p3 (hx.below hb) hk (by omega) ((hb.cell (p := ⟨p2, 0, none⟩) b2).trans h2) ((hb.cell (p := ⟨p3, 0, none⟩) b3).trans h3) R hR
 replace hF := Lib.hid hF
 clear hx h2 h3
 go_enter Tryz.func358, Tryz.ntmps358
 go_wp2_with fail
 go_loopg [5, 6] T.length (fun k i j wr => ∃ (I J : Nat), Below w.heap.size w wr ∧ i = .int .i64 I ∧ j = .int .i64 J ∧ I ≤ J ∧ J ≤ T.length ∧ J - I ≤ k ∧
  Hid ((∀ k, k < I → (T.getD k (0, 0)).2 < r) ∧ (∀ k, J ≤ k → k < T.length → r ≤ (T.getD k (0, 0)).2)))
 case atStart => exact ⟨0, T.length, Below.refl _ _, rfl, rfl, by omega, by omega, by omega, fun k h => by omega, fun k h1 h2 => by omega⟩
 case round =>
  obtain ⟨I, J, hbel, rfl, rfl, c1, c2, c3, c4⟩ := hrel
  have hsz := hbel.size
  by_cases hK : I < J
  ·obtain ⟨k, rfl⟩ : ∃ k, gk = k + 1 := ⟨gk - 1, by omega⟩
   obtain ⟨M, hM⟩ : ∃ M : Nat, ((I : Int) + J) / 2 = M := ⟨(I + J) / 2, by omega⟩
   have m1 : I ≤ M := by omega
   have m2 : M < J := by omega
   have lo : (T.getD M (0, 0)).2 < r → ∀ k, k < M + 1 → (T.getD k (0, 0)).2 < r := by
    intro h k hk
    by_cases t : k = M
    ·subst t; exact h
    ·have a := can_lt hC.out k M (by omega) (by omega)
     have b := (can_get hC.out (show M < T.length by omega)).2.1
     omega
   have up : r ≤ (T.getD M (0, 0)).2 → ∀ k, M ≤ k → k < T.length → r ≤ (T.getD k (0, 0)).2 := by
    intro h k hk hk2
    by_cases t : k = M
    ·subst t; exact h
    ·have a := can_lt hC.out M k (by omega) (by omega)
     have b := (can_get hC.out hk2).2.1
     omega
   have hf := fun (W : World) (hb : Below w.heap.size w W) R hR => hF.out W hb M (by omega) R hR
   generalize (T.getD M (0, 0)).2 = Y at *
   replace lo := Lib.hid lo
   replace up := Lib.hid up
   replace hf := Lib.hid hf
   by_cases t : r ≤ Y
   ·rw [decide_eq_true t] at hf
    go_wp2_with fail
    refine hf.out _ hbel _ (fun w1 h1 => ?_)
    have hb1 := hbel.trans (h1.mono hsz)
    go_wp2_with fail
    go_roundg k
    case measure => omega
    case rel => exact ⟨I, M, hb1, rfl, by go_num, by omega, by omega, by omega, c4.out.1, up.out t⟩
   ·rw [decide_eq_false t] at hf
    go_wp2_with fail
    refine hf.out _ hbel _ (fun w1 h1 => ?_)
    have hb1 := hbel.trans (h1.mono hsz)
    go_wp2_with fail
    go_roundg k
    case measure => omega
    case rel => exact ⟨M + 1, J, hb1, by go_num, rfl, by omega, by omega, by omega, lo.out (by omega), c4.out.2⟩
  ·obtain rfl : I = J := by omega
   have hB := hasB_at hC.out I c2 c4.out.1 c4.out.2
   replace hB := Lib.hid hB
   clear c4
   go_wp2_with fail
   exact hR.out I _ c2 hB.out hbel
theorem within_calls (T : List Rg) (r : Int) (tv : Value) (w : World) (hx : RdR w tv T) (hc : Can 0 T) (R : Ending → World → Prop)
  (hR : Hid (∀ w', Below w.heap.size w w' → R (.returned (.bool (hasB T r))) w')) : Calls Tryz.prog 347 #[tv, .int .i32 r] w R := by
 obtain ⟨A, c, rfl, hlc, hr⟩ := hx.open
 have hl := can_len0 hc
 have hmf : ∀ (fn : Fn) (first cap : Array Value) (w : World), (Instr.makeFunc fn first cap).run Tryz.prog w = .ok (.func fn first cap) w := fun _ _ _ _ => rfl
 have b5 := ((Below.refl w.heap.size w).alloc (Nat.le_refl _) (.cells #[.slice A T.length c] 390)).alloc (by simp) (.cells #[.int .i32 r] 21)
 have k5 := cellNew2 w (.slice A T.length c) (.int .i32 r) 390 21
 have k6 : ((w.alloc (.cells #[.slice A T.length c] 390)).alloc (.cells #[.int .i32 r] 21)).cell? ⟨w.heap.size + 1, 0, none⟩ = some (.int .i32 r) := by
  rw [show w.heap.size + 1 = (w.alloc (.cells #[.slice A T.length c] 390)).heap.size by simp]; exact cellNew _ _ _
 have zz : ((w.alloc (.cells #[.slice A T.length c] 390)).alloc (.cells #[.int .i32 r] 21)).heap.size = w.heap.size + 1 + 1 := by simp
 have hx5 := hx.below b5
 replace hr := Lib.hid hr
 replace hx5 := Lib.hid hx5
 replace hc := Lib.hid hc
 clear hx
 go_enter Tryz.func347, Tryz.ntmps347
 go_wp2_with fail
 generalize (w.alloc (.cells #[.slice A T.length c] 390)).alloc (.cells #[.int .i32 r] 21) = w3 at *
 have z5 : w.heap.size < w3.heap.size := by omega
 have z6 : w.heap.size + 1 < w3.heap.size := by omega
 go_loud (refine searchW_calls T r _ _ _ _ hx5.out hc.out k5 k6 z5 z6 _ (fun i w1 c1 c2 n1 => ?_))
 have k7 := (n1.cell (p := ⟨w.heap.size, 0, none⟩) z5).trans k5
 have k8 := (n1.cell (p := ⟨w.heap.size + 1, 0, none⟩) z6).trans k6
 have nn := b5.trans (n1.mono b5.size)
 clear k5 k6
 by_cases hi : i < T.length
 ·rw [decide_eq_true hi, Bool.true_and] at c2
  obtain ⟨g, o, rfl, hg, hca⟩ := hr.out (by omega)
  obtain ⟨e0, e1⟩ := hca i hi
  have e2 := (nn.cell (p := ⟨g, o + i * 2, none⟩) hg).trans e0
  clear hca e0 e1
  generalize (T.getD i (0, 0)).1 = X at *
  by_cases t : X ≤ r
  ·rw [c2, decide_eq_true t] at hR
   go_wp2_with fail
   go_quiet (fail)
   go_wp2_with fail
   exact hR.out _ (bdN nn _)
  ·rw [c2, decide_eq_false t] at hR
   go_wp2_with fail
   go_quiet (fail)
   go_wp2_with fail
   exact retB (hR.out _ (bdN nn _)) (decide_eq_false (by omega)).symm
 ·rw [decide_eq_false hi, Bool.false_and] at c2
  rw [c2] at hR
  go_wp2_with fail
  go_quiet (fail)
  go_wp2_with fail
  exact hR.out _ (bdN nn _)
theorem zv17 : ∃ Z : Array Value, (∀ w, (zeroValue 385).run Tryz.prog w = .ok (.agg Z) w) ∧ Z.size = 34 := ⟨Array.replicate 34 (.int .i32 0), (zero_of_info (n := 34) (by kernel_rfl)).1, by simp⟩
theorem zv4 : ∃ Z : Array Value, (∀ w, (zeroValue 383).run Tryz.prog w = .ok (.agg Z) w) ∧ Z.size = 8 := ⟨Array.replicate 8 (.int .i32 0), (zero_of_info (n := 8) (by kernel_rfl)).1, by simp⟩
theorem zv2 : ∃ Z : Array Value, (∀ w, (zeroValue 381).run Tryz.prog w = .ok (.agg Z) w) ∧ Z.size = 4 := ⟨Array.replicate 4 (.int .i32 0), (zero_of_info (n := 4) (by kernel_rfl)).1, by simp⟩
theorem zv1 : ∃ Z : Array Value, (∀ w, (zeroValue 387).run Tryz.prog w = .ok (.agg Z) w) ∧ Z.size = 2 := ⟨Array.replicate 2 (.int .i32 0), (zero_of_info (n := 2) (by kernel_rfl)).1, by simp⟩
theorem kind_calls3 (r : Int) (w : World) (R : Ending → World → Prop)
  (hR : Hid (∀ w', Below w.heap.size w w' → R (.returned (.int .i64 (kindS r))) w')) : Calls Tryz.prog 315 #[.int .i32 r] w R := by
 obtain ⟨Z1, hZ1, hZs1⟩ := zv2
 obtain ⟨Z2, hZ2, hZs2⟩ := zv4
 obtain ⟨Z3, hZ3, hZs3⟩ := zv17
 obtain ⟨Z4, hZ4, hZs4⟩ := zv1
 go_enter Tryz.func315, Tryz.ntmps315
 go_wp2_with fail
 refine controlTable_calls _ _ (fun C1 w1 hC1 n1 => ?_)
 replace hC1 := Lib.hid hC1
 go_wp2_with fail
 refine bidiTable_calls _ _ (fun C2 w2 hC2 n2 => ?_)
 replace hC2 := Lib.hid hC2
 replace n2 := n1.trans (n2.mono n1.size)
 clear n1
 go_wp2_with fail
 refine formatTable_calls _ _ (fun C3 w3 hC3 n3 => ?_)
 replace hC3 := Lib.hid hC3
 replace n3 := n2.trans (n3.mono n2.size)
 clear n2
 go_wp2_with fail
 refine separatorTable_calls _ _ (fun C4 w4 hC4 n4 => ?_)
 replace hC4 := Lib.hid hC4
 replace n4 := n3.trans (n4.mono n3.size)
 clear n3
 have s1 : C1.size = 4 := by rw [hC1.out]; kernel_rfl
 have s2 : C2.size = 8 := by rw [hC2.out]; kernel_rfl
 have s3 : C3.size = 34 := by rw [hC3.out]; kernel_rfl
 have s4 : C4.size = 2 := by rw [hC4.out]; kernel_rfl
 obtain ⟨W1, W2, W3, W4, e1, e2, e3, e4, nW, x1, x2, x3, x4⟩ := four_rows (P := Tryz.prog) w4 Z1 Z2 Z3 Z4 C1 C2 C3 C4 381 383 385 387 (by omega) (by omega) (by omega) (by omega)
  (by rw [hC1.out]; exact flat_all _) (by rw [hC2.out]; exact flat_all _) (by rw [hC3.out]; exact flat_all _) (by rw [hC4.out]; exact flat_all _)
 replace x1 := Lib.hid (rdR_row (T := controlT) (n := 2) x1 hC1.out (by kernel_rfl))
 replace x2 := Lib.hid (rdR_row (T := bidiT) (n := 4) x2 hC2.out (by kernel_rfl))
 replace x3 := Lib.hid (rdR_row (T := formatT) (n := 17) x3 hC3.out (by kernel_rfl))
 replace x4 := Lib.hid (rdR_row (T := separatorT) (n := 1) x4 hC4.out (by kernel_rfl))
 clear hC1 hC2 hC3 hC4
 replace nW := n4.trans (nW.mono n4.size)
 clear n4
 have hk : kindS r = if hasB controlT r then 1 else if hasB bidiT r then 2 else if hasB formatT r then 3 else if hasB separatorT r then 4 else 0 := rfl
 go_wp2_with fail
 refine within_calls controlT r _ _ x1.out can_control _ (fun w5 n5 => ?_)
 cases h1 : hasB controlT r
 ·rw [h1, if_neg Bool.false_ne_true] at hk
  go_wp2_with fail
  refine within_calls bidiT r _ _ (x2.out.below n5) can_bidi _ (fun w6 n6 => ?_)
  replace n6 := n5.trans (n6.mono n5.size)
  cases h2 : hasB bidiT r
  ·rw [h2, if_neg Bool.false_ne_true] at hk
   go_wp2_with fail
   refine within_calls formatT r _ _ (x3.out.below n6) can_format _ (fun w7 n7 => ?_)
   replace n7 := n6.trans (n7.mono n6.size)
   cases h3 : hasB formatT r
   ·rw [h3, if_neg Bool.false_ne_true] at hk
    go_wp2_with fail
    refine within_calls separatorT r _ _ (x4.out.below n7) can_separator _ (fun w8 n8 => ?_)
    replace n8 := n7.trans (n8.mono n7.size)
    cases h4 : hasB separatorT r
    ·rw [h4, if_neg Bool.false_ne_true] at hk
     rw [hk] at hR
     go_wp2_with fail
     exact hR.out _ (nW.trans (n8.mono nW.size))
    ·rw [h4, if_pos rfl] at hk
     rw [hk] at hR
     go_wp2_with fail
     exact hR.out _ (nW.trans (n8.mono nW.size))
   ·rw [h3, if_pos rfl] at hk
    rw [hk] at hR
    go_wp2_with fail
    exact hR.out _ (nW.trans (n7.mono nW.size))
  ·rw [h2, if_pos rfl] at hk
   rw [hk] at hR
   go_wp2_with fail
   exact hR.out _ (nW.trans (n6.mono nW.size))
 ·rw [h1, if_pos rfl] at hk
  rw [hk] at hR
  go_wp2_with fail
  exact hR.out _ (nW.trans (n5.mono nW.size))
theorem isUnsafe_calls (r : Int) (w : World) (R : Ending → World → Prop)
  (hR : Hid (∀ w', Below w.heap.size w w' → R (.returned (.bool (decide (kindS r ≠ 0)))) w')) : Calls Tryz.prog 272 #[.int .i32 r] w R := by
 obtain ⟨k, hk⟩ : ∃ k, k = kindS r := ⟨_, rfl⟩
 have kc := fun (W : World) R hR => kind_calls3 r W R hR
 have kb := kind_bd r
 rw [← hk] at hR kc kb
 clear hk
 replace kc := Lib.hid kc
 go_enter Tryz.func272, Tryz.ntmps272
 go_wp2_with fail
 refine kc.out _ _ (fun w1 n1 => ?_)
 by_cases h : k = 0
 ·go_wp2_with fail
  exact retB (hR.out _ n1) (by simp [h])
 ·go_wp2_with fail
  exact retB (hR.out _ n1) (by simp [h])
theorem refSize_calls (r : Int) (w : World) (R : Ending → World → Prop)
  (hR : Hid (∀ w', Below w.heap.size w w' → R (.returned (.int .i64 (sizeS r))) w')) : Calls Tryz.prog 239 #[.int .i32 r] w R := by
 have hk : sizeS r = if hasB wideT r then 2 else if hasB zeroT r then 0 else 1 := rfl
 go_enter Tryz.func239, Tryz.ntmps239
 go_wp2_with fail
 refine refWide_calls _ _ (fun v w1 r1 n1 => ?_)
 replace r1 := Lib.hid r1
 go_wp2_with fail
 refine hasR_calls wideT r _ _ r1.out (of_decide_eq_true (by kernel_rfl)) _ ?_
 rw [in_can can_wide]
 cases h1 : hasB wideT r
 ·rw [h1, if_neg Bool.false_ne_true] at hk
  go_wp2_with fail
  refine refZero_calls _ _ (fun v w2 r2 n2 => ?_)
  replace r2 := Lib.hid r2
  replace n2 := n1.trans (n2.mono n1.size)
  go_wp2_with fail
  refine hasR_calls zeroT r _ _ r2.out (of_decide_eq_true (by kernel_rfl)) _ ?_
  rw [in_can can_zero]
  cases h2 : hasB zeroT r
  ·rw [h2, if_neg Bool.false_ne_true] at hk
   rw [hk] at hR
   go_wp2_with fail
   exact hR.out _ n2
  ·rw [h2, if_pos rfl] at hk
   rw [hk] at hR
   go_wp2_with fail
   exact hR.out _ n2
 ·rw [h1, if_pos rfl] at hk
  rw [hk] at hR
  go_wp2_with fail
  exact hR.out _ n1
theorem refKind_calls (r : Int) (w : World) (R : Ending → World → Prop)
  (hR : Hid (∀ w', Below w.heap.size w w' → R (.returned (.int .i64 (kindS r))) w')) : Calls Tryz.prog 138 #[.int .i32 r] w R := by
 have hk := kind_eq r
 by_cases h0 : 0 ≤ r ∧ r < 32 ∨ 126 < r ∧ r < 160
 ·rw [if_pos h0] at hk
  rw [hk] at hR
  clear hk
  rcases h0 with ⟨a, b⟩ | ⟨a, b⟩
  ·go_enter Tryz.func138, Tryz.ntmps138
   go_wp2_with fail
   exact hR.out _ (Below.refl _ _)
  ·have c : ¬ r < 32 := by omega
   go_enter Tryz.func138, Tryz.ntmps138
   go_wp2_with fail
   exact hR.out _ (Below.refl _ _)
 ·rw [if_neg h0] at hk
  replace hk := Lib.hid hk
  have h1 : r < 0 ∨ (32 ≤ r ∧ r ≤ 126) ∨ 160 ≤ r := by omega
  clear h0
  have hs : r = 8232 ∨ r = 8233 ∨ ¬ (r = 8232 ∨ r = 8233) := by omega
  rcases h1 with a | ⟨a, b⟩ | a <;> (
   go_enter Tryz.func138, Tryz.ntmps138
   go_wp2_with fail
   refine refbidi_calls _ _ (fun v w1 r1 n1 => ?_)
   replace r1 := Lib.hid r1
   go_wp2_with fail
   refine hasR_calls bidiT r _ _ r1.out (of_decide_eq_true (by kernel_rfl)) _ ?_
   rw [in_can can_bidi]
   cases h1 : hasB bidiT r
   ·replace hk := hk.out
    rw [h1, if_neg Bool.false_ne_true] at hk
    replace hk := Lib.hid hk
    go_wp2_with fail
    refine refformat_calls _ _ (fun v w2 r2 n2 => ?_)
    replace r2 := Lib.hid r2
    replace n2 := n1.trans (n2.mono n1.size)
    go_wp2_with fail
    refine hasR_calls formatT r _ _ r2.out (of_decide_eq_true (by kernel_rfl)) _ ?_
    rw [in_can can_format]
    cases h2 : hasB formatT r
    ·replace hk := hk.out
     rw [h2, if_neg Bool.false_ne_true] at hk
     rcases hs with h3 | h3 | h3
     ·rw [if_pos (Or.inl h3)] at hk
      rw [hk] at hR
      go_wp2_with fail
      exact hR.out _ n2
     ·rw [if_pos (Or.inr h3)] at hk
      rw [hk] at hR
      have h4 : ¬ r = 8232 := by omega
      go_wp2_with fail
      exact hR.out _ n2
     ·rw [if_neg h3] at hk
      rw [hk] at hR
      have h4 : (r == 8232) = false := by simp; omega
      have h5 : (r == 8233) = false := by simp; omega
      go_wp2_with fail
      exact hR.out _ n2
    ·replace hk := hk.out
     rw [h2, if_pos rfl] at hk
     rw [hk] at hR
     go_wp2_with fail
     exact hR.out _ n2
   ·replace hk := hk.out
    rw [h1, if_pos rfl] at hk
    rw [hk] at hR
    go_wp2_with fail
    exact hR.out _ n1)
end Go.Proofs.YtncijmodlhijoaaGreat.Ran
namespace Go.Proofs.YtncijmodlhijoaaGreat.Cel
open Go.RowKit Go.Lib Utf Ran
theorem ret2i {R : Ending → World → Prop} {w : World} {a b c d : Int} (h : R (.returned (.tuple #[.int .i64 a, .int .i64 b])) w) (e1 : a = c) (e2 : b = d) : R (.returned (.tuple #[.int .i64 c, .int .i64 d])) w := by subst e1 e2; exact h
theorem refUnit_calls (s : ByteArray) (i : Nat) (w : World) (hs : s.size ≤ 1000000) (hi : i < s.size) (R : Ending → World → Prop)
  (hR : Hid (∀ w', Below w.heap.size w w' → R (.returned (.tuple #[.int .i64 (unitS s i).1, .int .i64 ((unitS s i).2 : Nat)])) w')) : Calls Tryz.prog 139 #[.string s, .int .i64 i] w R := by
 have hd := decS_spec s i hi
 have hu : unitS s i = if (decS s i).2.2 then (sizeS (decS s i).1, (decS s i).2.1.toNat) else (1, 1) := rfl
 have c1 := fun (W : World) R hR => refdec_calls s i W (by unfold maxLen; omega) R hR
 rw [decR_eq] at c1
 generalize decS s i = d at *
 obtain ⟨r, n, ok⟩ := d
 simp only at hd hu c1
 replace c1 := Lib.hid c1
 replace hu := Lib.hid hu
 go_enter Tryz.func139, Tryz.ntmps139
 go_wp2_with fail
 refine c1.out _ _ (fun w1 n1 => ?_)
 cases ok
 ·replace hu := hu.out
  rw [if_neg Bool.false_ne_true] at hu
  rw [hu] at hR
  go_wp2_with fail
  exact hR.out _ n1
 ·replace hu := hu.out
  rw [if_pos rfl] at hu
  rw [hu] at hR
  replace hR := Lib.hid hR.out
  go_wp2_with fail
  refine refSize_calls r _ _ (fun w2 n2 => ?_)
  go_wp2_with fail
  exact ret2i (hR.out _ (n1.trans (n2.mono n1.size))) rfl (by omega)
theorem isE_pos {s : ByteArray} (h : 0 < s.size) : s.toList.isEmpty = false := by
 have : s.toList.length = s.size := by rw [ba_toList]; simp
 cases e : s.toList with
 | nil => rw [e] at this; simp at this; omega
 | cons a l => rfl
theorem isE_nil {s : ByteArray} (h : s.size = 0) : s.toList.isEmpty = true := by
 have : s.toList.length = s.size := by rw [ba_toList]; simp
 cases e : s.toList with
 | nil => rfl
 | cons a l => rw [e] at this; simp at this; omega
def cutS (s : ByteArray) (most : Int) : Nat := cutF s 0 most
theorem bdq {B : Nat} {a w : World} (h : Below B a w) (n : Nat) : Below B a (w.drewN n) := ⟨h.os, h.tape, h.output, h.size, h.block⟩
def unitV (s : ByteArray) (i : Int) : Int × Nat := if i < 0 ∨ (s.size : Int) ≤ i then (0, 0) else unitS s i.toNat
end Go.Proofs.YtncijmodlhijoaaGreat.Cel
namespace Go.Proofs.YtncijmodlhijoaaGreat.Esc
open Go.RowKit Go.Lib Utf Ran Cel
theorem value_calls (r : Int) (w : World) (hr : -2147483648 ≤ r ∧ r ≤ 2147483647) (R : Ending → World → Prop) (hR : Hid (R (.returned (.tuple #[.int .u32 (if valD r < 0 then 0 else valD r), .bool (decide (0 ≤ valD r))])) w)) :
  Calls Tryz.prog 369 #[.int .i32 r] w R := by
 have hc : (48 ≤ r ∧ r < 58 ∧ valD r = r - 48) ∨ (¬ (48 ≤ r ∧ r < 58) ∧ 65 ≤ r ∧ r < 71 ∧ valD r = r - 55) ∨ (¬ (48 ≤ r ∧ r < 58) ∧ ¬ (65 ≤ r ∧ r < 71) ∧ 97 ≤ r ∧ r < 103 ∧ valD r = r - 87) ∨
   (¬ (48 ≤ r ∧ r < 58) ∧ ¬ (65 ≤ r ∧ r < 71) ∧ ¬ (97 ≤ r ∧ r < 103) ∧ valD r = -1) := by unfold valD; (repeat' split) <;> omega
 have key : ∀ (a : Int) (b : Bool), R (.returned (.tuple #[.int .u32 a, .bool b])) w → ∀ a' b', a' = a → b' = b → R (.returned (.tuple #[.int .u32 a', .bool b'])) w := by intro a b h a' b' e1 e2; subst e1 e2; exact h
 replace key := Lib.hid (key _ _ hR.out)
 clear hR
 generalize valD r = v at *
 rcases hc with ⟨h1, h2, h3⟩ | ⟨h0, h1, h2, h3⟩ | ⟨h0, h0', h1, h2, h3⟩ | ⟨h0, h0', h0'', h3⟩
 ·go_enter Tryz.func369, Tryz.ntmps369
  go_wp2_with fail
  exact key.out _ _ (by rw [if_neg (by omega)]; omega) (by simp; omega)
 ·go_enter Tryz.func369, Tryz.ntmps369
  go_wp2_with fail
  exact key.out _ _ (by rw [if_neg (by omega)]; omega) (by simp; omega)
 ·go_enter Tryz.func369, Tryz.ntmps369
  go_wp2_with fail
  exact key.out _ _ (by rw [if_neg (by omega)]; omega) (by simp; omega)
 ·go_enter Tryz.func369, Tryz.ntmps369
  go_wp2_with fail
  all_goals exact key.out _ _ (by rw [if_pos (by omega)]) (by simp; omega)
end Go.Proofs.YtncijmodlhijoaaGreat.Esc
