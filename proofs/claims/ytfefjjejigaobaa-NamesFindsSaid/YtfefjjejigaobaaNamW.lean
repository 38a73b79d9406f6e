/- The laws' walks of layer 8. -/
import Derived.Test.YtfefjjejigaobaaNamA
import Derived.Test.YtfefjjejigaobaaNamE
import Derived.Test.YtfefjjejigaobaaNamH
set_option linter.unusedVariables false
namespace Go.Proofs.Ytfefjjejigaobaa.Nam
open Go.RowKit Go.Lib Go.Proofs.Ytfefjjejigaobaa.Utf

theorem example_twice : twiS [⟨#[97]⟩, ⟨#[98]⟩, ⟨#[97]⟩] = 2 := by
  refine twi_is (m := 2) (by decide) (by simp) fun j hj => ?_
  obtain rfl | rfl : j = 0 ∨ j = 1 := by omega
  · simp
  · simp
theorem example_right : rightS ⟨#[97, 95, 49]⟩ = true := by decide +kernel
theorem lives8_calls (w : World) (R : Ending → World → Prop) (hR : Hid (∀ w', Below w.heap.size w w' → R (.returned (.bool true)) w')) : Calls Try.prog 9 #[] w R := by
  have b1 := (Below.refl w.heap.size w).alloc (Nat.le_refl _) (.cells #[.string ⟨#[97]⟩, .string ⟨#[98]⟩, .string ⟨#[97]⟩] 9)
  have h1 : RdS (w.alloc (.cells #[.string ⟨#[97]⟩, .string ⟨#[98]⟩, .string ⟨#[97]⟩] 9)) (.slice (some ⟨w.heap.size, 0, none⟩) 3 3) [⟨#[97]⟩, ⟨#[98]⟩, ⟨#[97]⟩] :=
    ⟨_, 3, 3, rfl, rfl, Nat.le_refl _, fun _ => ⟨w.heap.size, 0, rfl, by simp, fun j u hj => by
      have := cells_new w #[.string ⟨#[97]⟩, .string ⟨#[98]⟩, .string ⟨#[97]⟩] 9 j u hj
      rwa [show (⟨w.heap.size, 0, none⟩ : Addr).add j = ⟨w.heap.size, 0 + j, none⟩ by unfold Addr.add; split <;> simp_all] at this⟩⟩
  have cT := Lib.hid fun R hR => twice_calls _ _ _ (by decide) h1 R hR
  rw [example_twice] at cT
  have cR := fun (W : World) R hR => right_calls ⟨#[97, 95, 49]⟩ (by unfold maxLen; decide) W R hR
  rw [example_right] at cR
  replace cR := Lib.hid cR
  replace b1 := Lib.hid b1
  clear h1
  go_enter Try.func9, Try.ntmps9
  go_wp2_with fail
  refine cT.out _ (Lib.hid fun w1 n1 => ?_)
  have n2 := b1.out.trans (n1.mono b1.out.size)
  replace n2 := Lib.hid n2
  clear n1
  go_wp2_with fail
  refine cR.out _ _ (Lib.hid ?_)
  go_wp2_with fail
  exact hR.out _ n2.out

set_option maxHeartbeats 1000000 in
theorem tells8_walk (s : ByteArray) (a : Int) (hs : s.size ≤ maxLen) (ha : -9223372036854775808 ≤ a ∧ a ≤ 9223372036854775807) (w : World) (R : Ending → World → Prop)
    (hR : Hid (∀ w', Below w.heap.size w w' → R (.returned (.bool true)) w')) : Calls Try.prog 3 #[.string s, .int .i64 a] w R := by
  have cL := Lib.hid fun (W : World) R hR => lives8_calls W R hR
  have cR := fun R hR => right_calls s hs w R hR
  have cQ := fun R hR => refright_calls s hs w R hR
  have cT := fun R hR => take_calls s a hs w R hR
  generalize rightS s = b at *
  replace cR := Lib.hid cR
  replace cQ := Lib.hid cQ
  have hbb : (b != b) = false := by simp
  by_cases h : 0 ≤ a ∧ a < s.size
  · obtain ⟨k, rfl⟩ : ∃ k : Nat, a = k := ⟨a.toNat, by omega⟩
    have hk : k < s.size := by omega
    rw [takS_nat hk] at cT
    simp only at cT
    have hl := sig_len hk
    have cS := Lib.hid fun (W : World) R hR => signs_calls s k hk hs W R hR
    replace hs : s.size ≤ 9223372036854775807 := hs
    generalize sigS s k = m at *
    replace cT := Lib.hid cT
    go_enter Try.func3, Try.ntmps3
    go_wp2_with fail
    refine cT.out _ (Lib.hid ?_)
    go_wp2_with fail
    refine cR.out _ (Lib.hid ?_)
    go_wp2_with fail
    refine cQ.out _ (Lib.hid ?_)
    go_wp2_with fail
    refine cS.out _ _ (Lib.hid ?_)
    go_wp2_with fail
    refine cL.out _ _ (Lib.hid fun w1 n1 => ?_)
    go_wp2_with fail
    exact hR.out _ n1
  · have e : takS s a = (⟨#[]⟩, 0) := by unfold takS; rw [if_neg h]
    rw [e] at cT
    simp only at cT
    replace cT := Lib.hid cT
    have hs' : s.size ≤ 9223372036854775807 := hs
    clear e
    rcases (by omega : a < 0 ∨ (0 ≤ a ∧ (s.size : Int) ≤ a)) with h1 | ⟨h1, h2⟩
    all_goals
      clear h
      go_enter Try.func3, Try.ntmps3
      go_wp2_with fail
      refine cT.out _ (Lib.hid ?_)
      go_wp2_with fail
      refine cR.out _ (Lib.hid ?_)
      go_wp2_with fail
      refine cQ.out _ (Lib.hid ?_)
      go_wp2_with fail
      refine cL.out _ _ (Lib.hid fun w1 n1 => ?_)
      go_wp2_with fail
      exact hR.out _ n1

theorem twi_bd (l : List ByteArray) : -1 ≤ twiS l ∧ twiS l ≤ l.length := by
  rcases twi_cases l with ⟨h, -⟩ | ⟨m, h, -, -, h2⟩ <;> omega
theorem find_bd (l : List ByteArray) (s : ByteArray) : -1 ≤ findS l s ∧ findS l s ≤ l.length := by
  rcases find_cases l s with ⟨h, -⟩ | ⟨m, h, -, -, h2⟩ <;> omega
set_option maxRecDepth 100000 in
set_option maxHeartbeats 2000000 in
theorem finds8_walk (xs : List ByteArray) (s : ByteArray) (v : Value) (w : World) (hx : RdS w v xs) (R : Ending → World → Prop)
    (hR : Hid (∀ w', Below w.heap.size w w' → R (.returned (.bool true)) w')) : Calls Try.prog 4 #[v, .string s] w R := by
  have cL := Lib.hid fun (W : World) R hR => lives8_calls W R hR
  obtain ⟨A, c, rfl, hlc, -⟩ := hx.open
  by_cases h150 : 150 < xs.length
  · clear hx
    go_enter Try.func4, Try.ntmps4
    go_wp2_with fail
    refine cL.out _ _ (Lib.hid fun w1 n1 => ?_)
    go_wp2_with fail
    exact hR.out _ n1
  have hl := sort_len xs
  have hfb := find_bd xs s
  have htb := twi_bd xs
  have cN := Lib.hid fun R hR => new_calls xs _ w (by omega) hx R hR
  have cF := fun (W : World) v h R hR => find_calls xs s v W (by omega) h R hR
  have cK := fun (W : World) (hb : Below w.heap.size w W) R hR => reffind_calls xs s _ W (hx.below hb) (by omega) R hR
  have cS := Lib.hid fun (W : World) (hb : Below w.heap.size w W) R hR => refsorted_calls xs _ W (by omega) (hx.below hb) R hR
  have cT := Lib.hid fun (W : World) v h R hR => tsorted_calls xs v W (by omega) h R hR
  have cE := fun (W : World) va vb ha hb R hR => refsame_calls (sortS xs) (sortS xs) va vb W ha hb (by omega) (by omega) R hR
  have cC := Lib.hid fun (W : World) v h R hR => len_calls xs v W h R hR
  have cW := fun (W : World) (hb : Below w.heap.size w W) R hR => twice_calls xs _ W (by omega) (hx.below hb) R hR
  have cV := fun (W : World) (hb : Below w.heap.size w W) R hR => reftwice_calls xs _ W (hx.below hb) (by omega) R hR
  rw [decide_eq_true rfl] at cE
  unfold finS at cF
  generalize findS xs s = f at *
  generalize twiS xs = T at *
  generalize hS : sortS xs = S at *
  have hfin : ∃ i ok, (if f < 0 then ((0 : Int), false) else (f, true)) = (i, ok) ∧ ((ok = false ∧ f < 0 ∧ (i != 0) = false) ∨ (ok = true ∧ 0 ≤ f ∧ (i != f) = false)) := by
    by_cases h : f < 0
    · exact ⟨0, false, by rw [if_pos h], .inl ⟨rfl, h, rfl⟩⟩
    · exact ⟨f, true, by rw [if_neg h], .inr ⟨rfl, by omega, by simp⟩⟩
  obtain ⟨i, ok, e1, e5⟩ := hfin
  rw [e1] at cF
  simp only at cF
  clear e1 hfb htb hx
  replace cF := Lib.hid cF
  replace cK := Lib.hid cK
  replace cE := Lib.hid cE
  replace cW := Lib.hid cW
  replace cV := Lib.hid cV
  rcases e5 with ⟨rfl, e2, e3⟩ | ⟨rfl, e2, e3⟩
  all_goals
    go_enter Try.func4, Try.ntmps4
    go_wp2_with fail
    refine cN.out _ (Lib.hid fun tv w1 t1 n1 => ?_)
    replace t1 := Lib.hid t1
    replace n1 := Lib.hid n1
    go_wp2_with fail
    refine cF.out _ _ t1.out _ (Lib.hid fun q1 => ?_)
    have n2 := Lib.hid (below_drewN n1.out q1)
    have t2 := Lib.hid (t1.out.below (below_drewN (Below.refl _ _) q1))
    clear n1 t1
    generalize w1.drewN q1 = w2 at *
    go_wp2_with fail
    refine cK.out _ n2.out _ (Lib.hid ?_)
    go_wp2_with fail
    refine findnone_calls _ _ _ (Lib.hid ?_)
    go_wp2_with fail
    refine lennone_calls _ _ (Lib.hid ?_)
    go_wp2_with fail
    refine sortednone_calls _ _ (Lib.hid ?_)
    go_wp2_with fail
    refine cS.out _ n2.out _ (Lib.hid fun v3 w3 r3 n3 => ?_)
    have n4 := Lib.hid (n2.out.trans (n3.mono n2.out.size))
    have t4 := Lib.hid (t2.out.below n3)
    replace r3 := Lib.hid r3
    clear n2 t2 n3
    obtain ⟨A3, c3, e3', -, -⟩ := r3.out.open
    subst e3'
    go_wp2_with fail
    refine cT.out _ _ t4.out _ (Lib.hid fun v5 w5 r5 n5 => ?_)
    have n6 := Lib.hid (n4.out.trans (n5.mono n4.out.size))
    have t6 := Lib.hid (t4.out.below n5)
    have r6 := Lib.hid (r3.out.below n5)
    replace r5 := Lib.hid r5
    clear n4 t4 n5 r3
    go_wp2_with fail
    refine cE.out _ _ _ r5.out r6.out _ (Lib.hid fun q7 => ?_)
    have n8 := Lib.hid (below_drewN n6.out q7)
    have t8 := Lib.hid (t6.out.below (below_drewN (Below.refl _ _) q7))
    clear n6 t6 r6 r5
    generalize w5.drewN q7 = w8 at *
    go_wp2_with fail
    refine cC.out _ _ t8.out _ (Lib.hid ?_)
    go_wp2_with fail
    refine cW.out _ n8.out _ (Lib.hid fun w9 n9 => ?_)
    have n10 := Lib.hid (n8.out.trans (n9.mono n8.out.size))
    clear n8 n9 t8
    go_wp2_with fail
    refine cV.out _ n10.out _ (Lib.hid ?_)
    go_wp2_with fail
    refine cL.out _ _ (Lib.hid fun w11 n11 => ?_)
    have n12 := Lib.hid (n10.out.trans (n11.mono n10.out.size))
    clear n10 n11
    go_wp2_with fail
    exact hR.out _ n12.out

set_option maxRecDepth 100000 in
set_option maxHeartbeats 2000000 in
theorem there8_walk (xs : List ByteArray) (v : Value) (w : World) (hx : RdS w v xs) (R : Ending → World → Prop)
    (hR : Hid (∀ w', Below w.heap.size w w' → R (.returned (.bool true)) w')) : Calls Try.prog 5 #[v] w R := by
  have cL := Lib.hid fun (W : World) R hR => lives8_calls W R hR
  obtain ⟨A, c, rfl, hlc, hr⟩ := hx.open
  replace hr := Lib.hid hr
  by_cases h300 : 300 < xs.length
  · clear hx
    go_enter Try.func5, Try.ntmps5
    go_wp2_with fail
    refine cL.out _ _ (Lib.hid fun w1 n1 => ?_)
    go_wp2_with fail
    exact hR.out _ n1
  have hl := sort_len xs
  have htb := twi_bd xs
  have cN := Lib.hid fun R hR => new_calls xs _ w (by omega) hx R hR
  have cF := Lib.hid fun (W : World) v x h R hR => find_calls xs x v W (by omega) h R hR
  have cT := Lib.hid fun (W : World) v h R hR => tsorted_calls xs v W (by omega) h R hR
  have cC := Lib.hid fun (W : World) v h R hR => len_calls xs v W h R hR
  have cW := fun (W : World) (hb : Below w.heap.size w W) R hR => twice_calls xs _ W (by omega) (hx.below hb) R hR
  have cV := fun (W : World) v h R hR => twice_calls (sortS xs) v W (by omega) h R hR
  rw [sorted_twice] at cV
  have hct := count_twice xs
  generalize twiS xs = T at *
  generalize hS : sortS xs = S at *
  have hq : (decide (T < 0) == ((S.length : Int) == (xs.length : Int))) = true := by
    rw [hct]
    by_cases h : S.length = xs.length
    · rw [decide_eq_true h, h]; simp
    · rw [decide_eq_false h]; simp; omega
  replace cW := Lib.hid cW
  replace cV := Lib.hid cV
  clear hct htb
  go_enter Try.func5, Try.ntmps5
  go_wp2_with fail
  refine cN.out _ (Lib.hid fun tv w1 t1 n1 => ?_)
  replace t1 := Lib.hid t1
  replace n1 := Lib.hid n1
  replace hq := Lib.hid hq
  replace hx := Lib.hid hx
  go_wp2_with fail
  go_loopg [4] xs.length (fun k i wr => ∃ (K q : Nat), wr = w1.drewN q ∧ i = .int .i64 K ∧ K + k = xs.length)
  case atStart => exact ⟨0, 0, rfl, rfl, by omega⟩
  case round =>
    obtain ⟨K, q, rfl, rfl, c1⟩ := hrel
    have n2 := Lib.hid (below_drewN n1.out q)
    have t2 := Lib.hid (t1.out.below (below_drewN (Below.refl _ _) q))
    by_cases hK : K < xs.length
    · obtain ⟨g, o, rfl, hg, hca⟩ := hr.out (by omega)
      have e0 : w1.cell? ⟨g, o + K, none⟩ = _ := (n2.out.cell (p := ⟨g, o + K, none⟩) hg).trans (hca K hK)
      have hsome := getD_at hK
      have cG := fun (W : World) h R hR => cF.out W tv (xs.getD K ByteArray.empty) h R hR
      rcases find_cases xs (xs.getD K ByteArray.empty) with ⟨-, h⟩ | ⟨m, hm1, hm2, hm3, hm4⟩
      · exact absurd (List.mem_of_getElem? hsome) h
      · have hmK : m ≤ K := Nat.le_of_not_lt fun h => hm3 K h hsome
        unfold finS at cG
        rw [hm4, if_neg (by omega)] at cG
        simp only at cG
        have e1 : w1.cell? ⟨g, o + m, none⟩ = _ := (n2.out.cell (p := ⟨g, o + m, none⟩) hg).trans (hca m hm1)
        have hi0 : (0 : Int) ≤ (m : Int) := by omega
        have hi1 : (m : Int) < (xs.length : Int) := by omega
        have hi2 : ¬ (K : Int) < (m : Int) := by omega
        have hi3 : (K : Int) < (xs.length : Int) := by omega
        have hi4 : (0 : Int) ≤ (K : Int) := by omega
        have hse : xs.getD m ByteArray.empty = xs.getD K ByteArray.empty := by
          rw [getD_at hm1] at hm2; exact Option.some.inj hm2
        rw [hse] at e1
        have hsq : ((xs.getD K ByteArray.empty).toList == (xs.getD K ByteArray.empty).toList) = true := by simp
        clear hca hm2 hm3 hm4 hsome hse
        generalize xs.getD K ByteArray.empty = x at *
        replace cG := Lib.hid cG
        go_wp2_with fail
        refine cG.out _ t2.out _ (Lib.hid fun q3 => ?_)
        go_wp2_with fail
        go_quiet (fail)
        go_wp2_with fail
        go_roundg (gk - 1)
        case measure => omega
        case rel => exact ⟨K + 1, _, rfl, by go_num, by omega⟩
    · generalize w1.drewN q = w2 at *
      go_wp2_with fail
      refine cW.out _ n2.out _ (Lib.hid fun w3 n3 => ?_)
      have n4 := Lib.hid (n2.out.trans (n3.mono n2.out.size))
      have t4 := Lib.hid (t2.out.below n3)
      clear n2 t2 n3
      go_wp2_with fail
      refine cC.out _ _ t4.out _ (Lib.hid ?_)
      replace hq := hq.out
      go_wp2_with fail
      refine cT.out _ _ t4.out _ (Lib.hid fun v5 w5 r5 n5 => ?_)
      have n6 := Lib.hid (n4.out.trans (n5.mono n4.out.size))
      replace r5 := Lib.hid r5
      clear n4 n5 t4
      go_wp2_with fail
      refine cV.out _ _ r5.out _ (Lib.hid fun w7 n7 => ?_)
      have n8 := Lib.hid (n6.out.trans (n7.mono n6.out.size))
      clear n6 n7 r5
      go_wp2_with fail
      refine cL.out _ _ (Lib.hid fun w9 n9 => ?_)
      have n10 := Lib.hid (n8.out.trans (n9.mono n8.out.size))
      clear n8 n9
      go_wp2_with fail
      exact hR.out _ n10.out
end Go.Proofs.Ytfefjjejigaobaa.Nam
