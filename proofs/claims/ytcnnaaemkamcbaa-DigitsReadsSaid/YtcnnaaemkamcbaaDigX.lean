/- DigitsReckons, DigitsBack: the laws' walks. -/
import Derived.Test.YtcnnaaemkamcbaaDigE
import Derived.Test.YtcnnaaemkamcbaaDigP
import Derived.Test.YtcnnaaemkamcbaaDigF
import Derived.Test.YtcnnaaemkamcbaaDigW
set_option linter.unusedVariables false
namespace Go.Proofs.Ytcnnaaemkamcbaa.Dig
open Go.RowKit Go.Lib Go.Proofs.Ytcnnaaemkamcbaa.Utf

set_option maxRecDepth 100000 in
set_option maxHeartbeats 1000000 in
theorem reckons_walk7 (n m : Int) (hn : -9223372036854775808 ≤ n ∧ n ≤ 9223372036854775807) (hm : -9223372036854775808 ≤ m ∧ m ≤ 9223372036854775807) (w : World) (R : Ending → World → Prop)
    (hR : Hid (∀ w', Below w.heap.size w w' → R (.returned (.bool true)) w')) : Calls Try.prog 4 #[.int .i64 n, .int .i64 m] w R := by
  have cL := fun (W : World) R hR => lives7_calls W R hR
  have cF := fun (W : World) R hR => floor_calls n m W hn hm R hR
  have cG := fun (W : World) R hR => reffloor_calls n m W hn hm R hR
  have cA := fun (W : World) R hR => add_calls n m W hn hm R hR
  have cP := fun (W : World) R hR => put_calls n hn.1 hn.2 W R hR
  have cC := fun (W : World) R hR => columns_calls n hn.1 hn.2 W R hR
  have cQ := fun (W : World) R hR => refput_calls n.natAbs n (Nat.le_refl _) hn.1 hn.2 W R hR
  generalize putS n = p at *
  generalize floS n m = f at *
  obtain ⟨f1, f2⟩ := f
  unfold addS at cA
  simp only at cF cG
  replace cL := Lib.hid cL
  replace cF := Lib.hid cF
  replace cG := Lib.hid cG
  replace cP := Lib.hid cP
  replace cC := Lib.hid cC
  replace cQ := Lib.hid cQ
  by_cases hov : -9223372036854775808 ≤ n + m ∧ n + m ≤ 9223372036854775807
  · simp only [if_pos hov] at cA
    replace cA := Lib.hid cA
    rcases Int.lt_trichotomy m 0 with h | h | h
    · have h1 : ¬ (0 < m) := by omega
      have h2 : ¬ (n < -9223372036854775808 - m) := by omega
      go_enter Try.func4, Try.ntmps4
      go_wp2_with fail
      refine cF.out _ _ (Lib.hid ?_)
      go_wp2_with fail
      refine cG.out _ _ (Lib.hid ?_)
      go_wp2_with fail
      refine cA.out _ _ (Lib.hid ?_)
      go_wp2_with fail
      all_goals try (first | exact absurd (show (!decide (n < -9223372036854775808 - m)) = false by assumption) (by simp; omega) | exact absurd (show (!decide (9223372036854775807 - m < n)) = false by assumption) (by simp; omega) | exact absurd (show (!decide (n < -9223372036854775808 - m)) = true by assumption) (by simp; omega) | exact absurd (show (!decide (9223372036854775807 - m < n)) = true by assumption) (by simp; omega))
      refine cP.out _ _ (Lib.hid fun w1 n1 => ?_)
      go_wp2_with fail
      refine cQ.out _ _ (Lib.hid fun w2 n2 => ?_)
      replace n2 := n1.trans (n2.mono n1.size)
      go_wp2_with fail
      refine cC.out _ _ (Lib.hid fun w3 n3 => ?_)
      replace n3 := n2.trans (n3.mono n2.size)
      go_wp2_with fail
      refine cQ.out _ _ (Lib.hid fun w4 n4 => ?_)
      replace n4 := n3.trans (n4.mono n3.size)
      go_wp2_with fail
      refine cL.out _ _ (Lib.hid fun w5 n5 => ?_)
      replace n5 := n4.trans (n5.mono n4.size)
      go_wp2_with fail
      exact hR.out _ n5
    · subst h
      go_enter Try.func4, Try.ntmps4
      go_wp2_with fail
      refine cF.out _ _ (Lib.hid ?_)
      go_wp2_with fail
      refine cG.out _ _ (Lib.hid ?_)
      go_wp2_with fail
      refine cA.out _ _ (Lib.hid ?_)
      go_wp2_with fail
      all_goals try (first | exact absurd (show (!decide (n < -9223372036854775808 - m)) = false by assumption) (by simp; omega) | exact absurd (show (!decide (9223372036854775807 - m < n)) = false by assumption) (by simp; omega) | exact absurd (show (!decide (n < -9223372036854775808 - m)) = true by assumption) (by simp; omega) | exact absurd (show (!decide (9223372036854775807 - m < n)) = true by assumption) (by simp; omega))
      refine cP.out _ _ (Lib.hid fun w1 n1 => ?_)
      go_wp2_with fail
      refine cQ.out _ _ (Lib.hid fun w2 n2 => ?_)
      replace n2 := n1.trans (n2.mono n1.size)
      go_wp2_with fail
      refine cC.out _ _ (Lib.hid fun w3 n3 => ?_)
      replace n3 := n2.trans (n3.mono n2.size)
      go_wp2_with fail
      refine cQ.out _ _ (Lib.hid fun w4 n4 => ?_)
      replace n4 := n3.trans (n4.mono n3.size)
      go_wp2_with fail
      refine cL.out _ _ (Lib.hid fun w5 n5 => ?_)
      replace n5 := n4.trans (n5.mono n4.size)
      go_wp2_with fail
      exact hR.out _ n5
    · have h1 : ¬ (m < 0) := by omega
      have h2 : ¬ (9223372036854775807 - m < n) := by omega
      go_enter Try.func4, Try.ntmps4
      go_wp2_with fail
      refine cF.out _ _ (Lib.hid ?_)
      go_wp2_with fail
      refine cG.out _ _ (Lib.hid ?_)
      go_wp2_with fail
      refine cA.out _ _ (Lib.hid ?_)
      go_wp2_with fail
      all_goals try (first | exact absurd (show (!decide (n < -9223372036854775808 - m)) = false by assumption) (by simp; omega) | exact absurd (show (!decide (9223372036854775807 - m < n)) = false by assumption) (by simp; omega) | exact absurd (show (!decide (n < -9223372036854775808 - m)) = true by assumption) (by simp; omega) | exact absurd (show (!decide (9223372036854775807 - m < n)) = true by assumption) (by simp; omega))
      refine cP.out _ _ (Lib.hid fun w1 n1 => ?_)
      go_wp2_with fail
      refine cQ.out _ _ (Lib.hid fun w2 n2 => ?_)
      replace n2 := n1.trans (n2.mono n1.size)
      go_wp2_with fail
      refine cC.out _ _ (Lib.hid fun w3 n3 => ?_)
      replace n3 := n2.trans (n3.mono n2.size)
      go_wp2_with fail
      refine cQ.out _ _ (Lib.hid fun w4 n4 => ?_)
      replace n4 := n3.trans (n4.mono n3.size)
      go_wp2_with fail
      refine cL.out _ _ (Lib.hid fun w5 n5 => ?_)
      replace n5 := n4.trans (n5.mono n4.size)
      go_wp2_with fail
      exact hR.out _ n5
  · simp only [if_neg hov] at cA
    replace cA := Lib.hid cA
    rcases Int.lt_trichotomy m 0 with h | h | h
    · have h1 : ¬ (0 < m) := by omega
      have h2 : n < -9223372036854775808 - m := by omega
      clear hov
      go_enter Try.func4, Try.ntmps4
      go_wp2_with fail
      refine cF.out _ _ (Lib.hid ?_)
      go_wp2_with fail
      refine cG.out _ _ (Lib.hid ?_)
      go_wp2_with fail
      refine cA.out _ _ (Lib.hid ?_)
      go_wp2_with fail
      all_goals try (first | exact absurd (show (!decide (n < -9223372036854775808 - m)) = false by assumption) (by simp; omega) | exact absurd (show (!decide (9223372036854775807 - m < n)) = false by assumption) (by simp; omega) | exact absurd (show (!decide (n < -9223372036854775808 - m)) = true by assumption) (by simp; omega) | exact absurd (show (!decide (9223372036854775807 - m < n)) = true by assumption) (by simp; omega))
      refine cP.out _ _ (Lib.hid fun w1 n1 => ?_)
      go_wp2_with fail
      refine cQ.out _ _ (Lib.hid fun w2 n2 => ?_)
      replace n2 := n1.trans (n2.mono n1.size)
      go_wp2_with fail
      refine cC.out _ _ (Lib.hid fun w3 n3 => ?_)
      replace n3 := n2.trans (n3.mono n2.size)
      go_wp2_with fail
      refine cQ.out _ _ (Lib.hid fun w4 n4 => ?_)
      replace n4 := n3.trans (n4.mono n3.size)
      go_wp2_with fail
      refine cL.out _ _ (Lib.hid fun w5 n5 => ?_)
      replace n5 := n4.trans (n5.mono n4.size)
      go_wp2_with fail
      exact hR.out _ n5
    · omega
    · have h1 : ¬ (m < 0) := by omega
      have h2 : 9223372036854775807 - m < n := by omega
      clear hov
      go_enter Try.func4, Try.ntmps4
      go_wp2_with fail
      refine cF.out _ _ (Lib.hid ?_)
      go_wp2_with fail
      refine cG.out _ _ (Lib.hid ?_)
      go_wp2_with fail
      refine cA.out _ _ (Lib.hid ?_)
      go_wp2_with fail
      all_goals try (first | exact absurd (show (!decide (n < -9223372036854775808 - m)) = false by assumption) (by simp; omega) | exact absurd (show (!decide (9223372036854775807 - m < n)) = false by assumption) (by simp; omega) | exact absurd (show (!decide (n < -9223372036854775808 - m)) = true by assumption) (by simp; omega) | exact absurd (show (!decide (9223372036854775807 - m < n)) = true by assumption) (by simp; omega))
      refine cP.out _ _ (Lib.hid fun w1 n1 => ?_)
      go_wp2_with fail
      refine cQ.out _ _ (Lib.hid fun w2 n2 => ?_)
      replace n2 := n1.trans (n2.mono n1.size)
      go_wp2_with fail
      refine cC.out _ _ (Lib.hid fun w3 n3 => ?_)
      replace n3 := n2.trans (n3.mono n2.size)
      go_wp2_with fail
      refine cQ.out _ _ (Lib.hid fun w4 n4 => ?_)
      replace n4 := n3.trans (n4.mono n3.size)
      go_wp2_with fail
      refine cL.out _ _ (Lib.hid fun w5 n5 => ?_)
      replace n5 := n4.trans (n5.mono n4.size)
      go_wp2_with fail
      exact hR.out _ n5

theorem pa_zero (s : ByteArray) : (paS s).2.1 = 0 → (paS s).2.2 = 0 := by
  unfold paS
  simp only
  split
  · exact fun h => (tk_zero s 0).2 h
  · split <;> simp
set_option maxRecDepth 100000 in
set_option maxHeartbeats 1000000 in
theorem back_walk7 (n : Int) (s : ByteArray) (hn : -9223372036854775808 ≤ n ∧ n ≤ 9223372036854775807) (hs : s.size ≤ 900000000000000) (w : World) (R : Ending → World → Prop)
    (hR : Hid (∀ w', Below w.heap.size w w' → R (.returned (.bool true)) w')) : Calls Try.prog 5 #[.int .i64 n, .string s] w R := by
  have cL := fun (W : World) R hR => lives7_calls W R hR
  have cP := fun (W : World) R hR => put_calls n hn.1 hn.2 W R hR
  have hpz := put_size n hn.1 hn.2
  have cA := fun (W : World) R hR => parse_calls (putS n) W (by omega) R hR
  rw [parse_put n hn.1 hn.2] at cA
  have hx : (⟨#[120]⟩ : ByteArray).size = 1 := rfl
  have ht := take_put n hn.1 hn.2 (⟨#[120]⟩ ++ s) (fun x hx => by
    rw [bl_append] at hx
    have : (bl ⟨#[120]⟩ : List Int) = [120] := by decide
    rw [this] at hx
    simp at hx
    omega)
  rw [← ByteArray.append_assoc] at ht
  have cT := fun (W : World) R hR => take_calls (putS n ++ ⟨#[120]⟩ ++ s) 0 (by decide) W (by rw [ByteArray.size_append, ByteArray.size_append, hx]; omega) R hR
  rw [ht] at cT
  have cB := fun (W : World) R hR => parse_calls s W (by omega) R hR
  have hback := put_parse s
  have cQ := fun (h : (paS s).2 = (0, 0)) (W : World) R hR => put_calls (paS s).1 (hback h).2.1 (hback h).2.2 W R hR
  generalize putS n = p at *
  unfold paT at cA cB
  unfold tkT at cT
  simp only at cA cT
  replace cL := Lib.hid cL
  replace cP := Lib.hid cP
  replace cA := Lib.hid cA
  replace cT := Lib.hid cT
  obtain ⟨X, hX⟩ : ∃ X : ByteArray, X = ⟨#[120]⟩ := ⟨_, rfl⟩
  clear hx ht
  have pz : ((p.size : Nat) : Int) ≤ 1000 := by omega
  go_enter Try.func5, Try.ntmps5
  go_wp2_with fail
  refine cP.out _ _ (Lib.hid fun w1 n1 => ?_)
  go_wp2_with fail
  refine cA.out _ _ (Lib.hid fun w2 b2 => ?_)
  replace b2 := n1.trans (b2.mono n1.size)
  have x2 := Lib.hid (Box.new w2 0 0)
  replace b2 := Lib.hid (b2.alloc b2.size (.cells #[.int .i64 0, .int .i64 0] 25))
  go_wp2_with fail
  generalize w2.alloc (.cells #[.int .i64 0, .int .i64 0] 25) = W2 at *
  generalize w2.heap.size = g2 at *
  refine cT.out _ _ (Lib.hid fun w3 b3 => ?_)
  replace x2 := x2.out.keep b3
  replace b3 := b2.out.trans (b3.mono b2.out.size)
  have x3 := Lib.hid (Box.new w3 0 0)
  replace x2 := x2.keep ((Below.refl _ _).alloc (Nat.le_refl _) (.cells #[.int .i64 0, .int .i64 0] 25))
  replace b3 := Lib.hid (b3.alloc b3.size (.cells #[.int .i64 0, .int .i64 0] 25))
  clear b2
  go_upto_region 4 with fail
  generalize hW3 : w3.alloc (.cells #[.int .i64 0, .int .i64 0] 25) = W3 at *
  generalize hg3 : w3.heap.size = g3 at *
  clear hW3 hg3
  obtain ⟨y20, y21, y22⟩ := x2
  obtain ⟨y30, y31, y32⟩ := x3.out
  clear x3
  have hpa := pa_zero s
  generalize paS s = t at *
  obtain ⟨x, E, A⟩ := t
  simp only at cB hback cQ hpa
  replace cB := Lib.hid cB
  by_cases hE : E = 0
  · obtain rfl := hE
    obtain rfl : A = 0 := hpa rfl
    have hb := (hback rfl).1
    replace cQ := cQ rfl
    rw [hb] at cQ
    replace cQ := Lib.hid cQ
    clear hback hpa hb
    go_wp2_with fail
    refine cB.out _ _ (Lib.hid fun w4 b4 => ?_)
    replace b4 := b3.out.trans (b4.mono b3.out.size)
    replace b4 := Lib.hid (b4.alloc b4.size (.cells #[.int .i64 0, .int .i64 0] 25))
    clear b3 y20 y21 y22 y30 y31 y32
    go_wp2_with fail
    refine cQ.out _ _ (Lib.hid fun w5 b5 => ?_)
    replace b5 := b4.out.trans (b5.mono b4.out.size)
    go_wp2_with fail
    refine cL.out _ _ (Lib.hid fun w6 b6 => ?_)
    replace b6 := b5.trans (b6.mono b5.size)
    go_wp2_with fail
    exact hR.out _ b6
  · have hE1 : (E == 0) = false := by simpa using hE
    have hE2 : (E != 0) = true := by simpa using hE
    clear hback hpa cQ
    go_wp2_with fail
    refine cB.out _ _ (Lib.hid fun w4 b4 => ?_)
    replace b4 := b3.out.trans (b4.mono b3.out.size)
    replace b4 := Lib.hid (b4.alloc b4.size (.cells #[.int .i64 E, .int .i64 A] 25))
    clear b3 y20 y21 y22 y30 y31 y32
    go_wp2_with fail
    refine cL.out _ _ (Lib.hid fun w6 b6 => ?_)
    replace b6 := b4.out.trans (b6.mono b4.out.size)
    go_wp2_with fail
    exact hR.out _ b6
end Go.Proofs.Ytcnnaaemkamcbaa.Dig
