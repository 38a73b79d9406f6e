/- The laws' walks of layer 10. -/
import Derived.Test.YtpmpgagggenfiaaRelX
set_option linter.unusedVariables false
namespace Go.Proofs.Ytpmpgagggenfiaa.Rel
open Go.RowKit Go.Lib

theorem ex_right : RightQ 3 [(0, 2), (2, 1)] := by decide
theorem ex_ord : ordS 3 (ld 3 (toN [(0, 2), (2, 1)])) = [0, 2, 1] := by decide +kernel
theorem ex_loop : loopS 3 (ld 3 (toN [(0, 2), (2, 1)])) = -1 := by decide +kernel
theorem ivR_at {w : World} {v : Value} {o : List Nat} (h : RdAt w v 1 (ivR o)) : ∃ (A : Option Addr) (c : Nat), v = .slice A o.length c ∧ o.length ≤ c ∧ (0 < o.length → ∃ g p, A = some ⟨g, p, none⟩ ∧ g < w.heap.size ∧ ∀ i, i < o.length → w.cell? ⟨g, p + i, none⟩ = some (.int .i64 (o.getD i 0 : Nat))) := by
  obtain ⟨A, n, c, rfl, hl, hn, hc⟩ := h
  rw [ivR_len] at hl
  obtain rfl : n = o.length := by omega
  refine ⟨A, c, rfl, hn, fun h0 => ?_⟩
  obtain ⟨g, p, rfl, hg, hc⟩ := hc (by rw [ivR_len]; omega)
  exact ⟨g, p, rfl, hg, fun i hi => hc i _ (by simp [ivR, List.getD, List.getElem?_eq_getElem hi])⟩

set_option maxRecDepth 100000 in
set_option maxHeartbeats 1000000 in
theorem lives10_calls (w : World) (R : Ending → World → Prop) (hR : Hid (∀ w', Below w.heap.size w w' → R (.returned (.bool true)) w')) : Calls Try.prog 6 #[] w R := by
  have b1 := (Below.refl w.heap.size w).alloc (Nat.le_refl _) (.cells #[.int .i64 0, .int .i64 2, .int .i64 2, .int .i64 1] 23)
  have h1 : RdQ (w.alloc (.cells #[.int .i64 0, .int .i64 2, .int .i64 2, .int .i64 1] 23)) (.slice (some ⟨w.heap.size, 0, none⟩) 2 2) [(0, 2), (2, 1)] :=
    ⟨_, 2, 2, rfl, rfl, Nat.le_refl _, fun _ => ⟨w.heap.size, 0, rfl, by simp, fun j u hj => by
      have := cells_new w #[.int .i64 0, .int .i64 2, .int .i64 2, .int .i64 1] 23 j u hj
      rwa [show (⟨w.heap.size, 0, none⟩ : Addr).add j = ⟨w.heap.size, 0 + j, none⟩ by unfold Addr.add; split <;> simp_all] at this⟩⟩
  have cN := Lib.hid fun R hR hR2 => relnew_calls 3 (by decide) _ _ _ h1 (by simp [GoodQ]) (by unfold maxLen; decide) R hR hR2
  replace b1 := Lib.hid b1
  clear h1
  go_enter Try.func6, Try.ntmps6
  go_wp2_with fail
  refine cN.out _ (Lib.hid fun v1 w1 _ r1 n1 => ?_) (Lib.hid fun w1 h _ => absurd ex_right h)
  have n2 := Lib.hid (b1.out.trans (n1.mono b1.out.size))
  have cO := Lib.hid fun R hR hR2 => relorder_calls 3 (toN [(0, 2), (2, 1)]) (toN_in (n := 3) ex_right) (by decide) v1 w1 r1 R hR hR2
  rw [ex_ord, ex_loop] at cO
  obtain ⟨p, rfl⟩ := r1.ptr
  clear n1 r1
  go_wp2_with fail
  refine cO.out _ (Lib.hid fun v3 w3 _ r3 n3 => ?_) (Lib.hid fun A c w3 h _ => absurd h (by decide))
  have n4 := Lib.hid (n2.out.trans (n3.mono n2.out.size))
  obtain ⟨A, c, rfl, hc, hr⟩ := ivR_at r3
  obtain ⟨g, o, rfl, hg, hca⟩ := hr (by decide)
  have e0 := hca 0 (by decide)
  have e1 := hca 1 (by decide)
  have e2 := hca 2 (by decide)
  simp only [List.getD, List.getElem?_cons_zero, List.getElem?_cons_succ, Option.getD_some, Nat.add_zero] at e0 e1 e2
  rw [show ([0, 2, 1] : List Nat).length = 3 from rfl] at hc ⊢
  clear hca hr r3 n3 n2
  go_wp2_with fail
  exact hR.out _ n4.out

theorem loop_cases {n : Nat} {f : Nat → Nat → Bool} : loopS n f = -1 ∨ ∃ m : Nat, m < n ∧ loopS n f = m := by
  rcases least_cases n (inLoop n f) with ⟨h, -⟩ | ⟨m, h, -, -, h2⟩
  · exact .inl h
  · exact .inr ⟨m, h, h2⟩
set_option maxRecDepth 100000 in
set_option maxHeartbeats 2000000 in
theorem orders10_walk (n : Int) (hn : -9223372036854775808 ≤ n ∧ n ≤ 9223372036854775807) (xs : List Pq) (v : Value) (w : World) (hx : RdQ w v xs) (hg : ∀ x ∈ xs, GoodQ x) (R : Ending → World → Prop)
    (hR : Hid (∀ w', Below w.heap.size w w' → R (.returned (.bool true)) w')) : Calls Try.prog 4 #[.int .i64 n, v] w R := by
  have cL := Lib.hid fun (W : World) R hR => lives10_calls W R hR
  obtain ⟨A, c, rfl, hlc, -⟩ := hx.op
  by_cases h300 : 300 < xs.length
  · clear hx
    go_enter Try.func4, Try.ntmps4
    go_wp2_with fail
    refine cL.out _ _ (Lib.hid fun w1 n1 => ?_)
    go_wp2_with fail
    exact hR.out _ n1
  have cQ := fun R hR => refright_pairs n xs _ w hx (by unfold maxLen; omega) R hR
  by_cases hr : RightQ n xs
  · rw [decide_eq_true hr] at cQ
    obtain ⟨N, rfl⟩ : ∃ N : Nat, n = N := ⟨n.toNat, by have := hr.1; omega⟩
    have hN : N ≤ 64 := by have := hr.1; omega
    have hP := toN_in hr
    have cN := fun (W : World) (hb : Below w.heap.size w W) R hR => relnew_calls N hn xs _ W (hx.below hb) hg (by unfold maxLen; omega) R hR (Lib.hid fun _ h => absurd hr h)
    rw [Int.toNat_natCast] at cN
    have cD := fun (W : World) (hb : Below w.heap.size w W) R hR => leads_calls N xs _ W (hx.below hb) hr (by unfold maxLen; omega) R hR
    have cO := fun (W : World) v h R hR => refloop_calls N (ldR N (toN xs)) v W h hN R hR
    have cR := fun (W : World) v h R hR => reforder_calls N (ldR N (toN xs)) v W h hN R hR
    have cA := fun (W : World) v h R hR => relloop_calls N (toN xs) hP hN v W h R hR
    have cB := fun (W : World) v h R hR hR2 => relorder_calls N (toN xs) hP hN v W h R hR hR2
    rw [show (fun a b => on (ldR N (toN xs) a) b) = ld N (toN xs) from rfl] at cO cR
    have hlen : loopS N (ld N (toN xs)) = -1 → (ordS N (ld N (toN xs))).length = N := fun h => ord_len hP (loop_none.1 h)
    have hlc := loop_cases (n := N) (f := ld N (toN xs))
    generalize ordS N (ld N (toN xs)) = o at *
    generalize loopS N (ld N (toN xs)) = k at *
    generalize hM : ldR N (toN xs) = M at *
    replace cQ := Lib.hid cQ
    replace cN := Lib.hid cN
    replace cD := Lib.hid cD
    replace cO := Lib.hid cO
    replace cR := Lib.hid cR
    replace hM := Lib.hid hM
    clear hx hr
    rcases hlc with rfl | ⟨m, hm, rfl⟩
    · have hl := hlen rfl
      replace cA := Lib.hid cA
      replace cB := Lib.hid cB
      clear hlen
      go_enter Try.func4, Try.ntmps4
      go_wp2_with fail
      refine cQ.out _ (Lib.hid fun w1 n1 => ?_)
      replace n1 := Lib.hid n1
      go_wp2_with fail
      refine cN.out _ n1.out _ (Lib.hid fun tv w2 _ t2 n2 => ?_)
      have n3 := Lib.hid (n1.out.trans (n2.mono n1.out.size))
      replace t2 := Lib.hid t2
      clear n1 n2
      obtain ⟨p, rfl⟩ := t2.out.ptr
      go_wp2_with fail
      refine cD.out _ n3.out _ (Lib.hid fun mv w4 m4 n4 => ?_)
      have n5 := Lib.hid (n3.out.trans (n4.mono n3.out.size))
      have t5 := Lib.hid (t2.out.below n4)
      replace m4 := Lib.hid m4
      clear n3 n4 t2
      go_wp2_with fail
      refine cA.out _ _ t5.out _ (Lib.hid fun w6 n6 => ?_)
      have n7 := Lib.hid (n5.out.trans (n6.mono n5.out.size))
      have t7 := Lib.hid (t5.out.below n6)
      have m7 := Lib.hid (m4.out.below n6)
      clear n5 n6 t5 m4
      go_wp2_with fail
      refine cO.out _ _ m7.out _ (Lib.hid ?_)
      go_wp2_with fail
      refine cB.out _ _ t7.out _ (Lib.hid fun ov w8 _ r8 n8 => ?_) (Lib.hid fun _ _ _ h _ => absurd h (by decide))
      have n9 := Lib.hid (n7.out.trans (n8.mono n7.out.size))
      have m9 := Lib.hid (m7.out.below n8)
      obtain ⟨A1, c1, rfl, hc1, -⟩ := ivR_at r8
      replace r8 := Lib.hid r8
      clear n7 n8 t7 m7
      go_wp2_with fail
      refine cR.out _ _ m9.out _ (Lib.hid fun rv w10 r10 n10 => ?_)
      have n11 := Lib.hid (n9.out.trans (n10.mono n9.out.size))
      have r11 := Lib.hid (r8.out.below n10)
      obtain ⟨A2, c2, rfl, hc2, hca2⟩ := ivR_at r10
      obtain ⟨A3, c3, e3, -, hca1⟩ := ivR_at r11.out
      simp only [Value.slice.injEq] at e3
      obtain ⟨rfl, -, rfl⟩ := e3
      replace hca1 := Lib.hid hca1
      replace hca2 := Lib.hid hca2
      clear n9 n10 r8 r10 r11 m9
      have hq : ((o.length : Int) != (N : Int)) = false := by simp; omega
      go_wp2_with fail
      go_loopg [14] N (fun g i wr => ∃ (K q : Nat), wr = w10.drewN q ∧ i = .int .i64 K ∧ K + g = N)
      case atStart => exact ⟨0, 0, rfl, rfl, by omega⟩
      case round =>
        obtain ⟨K, q, rfl, rfl, d1⟩ := hrel
        by_cases hK : K < N
        · obtain ⟨g1, o1, rfl, -, f1⟩ := hca1.out (by omega)
          obtain ⟨g2, o2, rfl, -, f2⟩ := hca2.out (by omega)
          have e1 := f1 K (by omega)
          have e2 := f2 K (by omega)
          have hi0 : (0 : Int) ≤ (K : Int) := by omega
          have hi1 : (K : Int) < (o.length : Int) := by omega
          clear f1 f2
          generalize o.getD K 0 = x at *
          go_wp2_with fail
          go_quiet (fail)
          go_wp2_with fail
          go_roundg (gk - 1)
          case measure => omega
          case rel => exact ⟨K + 1, _, rfl, by go_num, by omega⟩
        · go_wp2_with fail
          refine cL.out _ _ (Lib.hid fun w12 n12 => ?_)
          have n13 := Lib.hid ((below_drewN n11.out q).trans (n12.mono n11.out.size))
          go_wp2_with fail
          exact hR.out _ n13.out
    · have e1 : (if (m : Int) < 0 then (0 : Int) else (m : Int)) = (m : Int) := if_neg (by omega)
      rw [e1] at cA
      have e2 : decide (0 ≤ (m : Int)) = true := decide_eq_true (by omega)
      rw [e2] at cA
      replace cA := Lib.hid cA
      replace cB := Lib.hid cB
      clear hlen e1 e2
      go_enter Try.func4, Try.ntmps4
      go_wp2_with fail
      refine cQ.out _ (Lib.hid fun w1 n1 => ?_)
      replace n1 := Lib.hid n1
      go_wp2_with fail
      refine cN.out _ n1.out _ (Lib.hid fun tv w2 _ t2 n2 => ?_)
      have n3 := Lib.hid (n1.out.trans (n2.mono n1.out.size))
      replace t2 := Lib.hid t2
      clear n1 n2
      obtain ⟨p, rfl⟩ := t2.out.ptr
      go_wp2_with fail
      refine cD.out _ n3.out _ (Lib.hid fun mv w4 m4 n4 => ?_)
      have n5 := Lib.hid (n3.out.trans (n4.mono n3.out.size))
      have t5 := Lib.hid (t2.out.below n4)
      replace m4 := Lib.hid m4
      clear n3 n4 t2
      go_wp2_with fail
      refine cA.out _ _ t5.out _ (Lib.hid fun w6 n6 => ?_)
      have n7 := Lib.hid (n5.out.trans (n6.mono n5.out.size))
      have t7 := Lib.hid (t5.out.below n6)
      have m7 := Lib.hid (m4.out.below n6)
      clear n5 n6 t5 m4
      go_wp2_with fail
      refine cO.out _ _ m7.out _ (Lib.hid ?_)
      go_wp2_with fail
      refine cB.out _ _ t7.out _ (Lib.hid fun _ _ h => absurd h (by omega)) (Lib.hid fun A5 c5 w8 _ n8 => ?_)
      have n9 := Lib.hid (n7.out.trans (n8.mono n7.out.size))
      clear n7 n8 t7 m7
      have hm0 : (0 : Int) ≤ (m : Int) := by omega
      go_wp2_with fail
      refine cL.out _ _ (Lib.hid fun w12 n12 => ?_)
      have n13 := Lib.hid (n9.out.trans (n12.mono n9.out.size))
      go_wp2_with fail
      exact hR.out _ n13.out
  · rw [decide_eq_false hr] at cQ
    replace cQ := Lib.hid cQ
    clear hx hr
    go_enter Try.func4, Try.ntmps4
    go_wp2_with fail
    refine cQ.out _ (Lib.hid fun w1 n1 => ?_)
    replace n1 := Lib.hid n1
    go_wp2_with fail
    refine cL.out _ _ (Lib.hid fun w2 n2 => ?_)
    have n3 := Lib.hid (n1.out.trans (n2.mono n1.out.size))
    go_wp2_with fail
    exact hR.out _ n3.out
end Go.Proofs.Ytpmpgagggenfiaa.Rel
