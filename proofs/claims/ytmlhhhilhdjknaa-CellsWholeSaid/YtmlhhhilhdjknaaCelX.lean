/- The walk of the law CellsWhole. -/
import Derived.Test.YtmlhhhilhdjknaaCelU
import Derived.Test.YtmlhhhilhdjknaaCelL
set_option linter.unusedVariables false
namespace Go.Proofs.Ytmlhhhilhdjknaa.Cel
open Go.RowKit Go.Lib Go.Proofs.Ytmlhhhilhdjknaa.Utf Go.Proofs.Ytmlhhhilhdjknaa.Ran

theorem parts_of {s : ByteArray} {b : Nat} (hb : b ≤ s.size) : s.extract 0 b ++ s.extract b s.size = s := by
  apply ByteArray.ext
  apply Array.ext'
  simp [ByteArray.data_extract]
theorem unitV_end {s : ByteArray} {b : Nat} (hb : s.size ≤ b) : unitV (s.extract b s.size) 0 = (0, 0) := by
  have hz : (s.extract b s.size).size = s.size - b := by rw [ByteArray.size_extract]; omega
  unfold unitV
  rw [if_pos (by omega)]
set_option maxRecDepth 100000 in
set_option maxHeartbeats 2000000 in
theorem whole_walk (s : ByteArray) (m : Int) (w : World) (R : Ending → World → Prop) (hs : s.size ≤ maxLen) (hm : -9223372036854775808 ≤ m ∧ m ≤ 9223372036854775807)
    (hR : Hid (∀ w', Below w.heap.size w w' → R (.returned (.bool true)) w')) : Calls Try.prog 5 #[.string s, .int .i64 m] w R := by
  unfold maxLen at hs
  by_cases h6 : 3000 < s.size ∨ m < 0
  · have h7 : 3000 < s.size ∨ (¬ 3000 < s.size ∧ m < 0) := by omega
    clear h6
    rcases h7 with h | ⟨h, h'⟩ <;> (
      go_enter Try.func5, Try.ntmps5
      go_wp2_with fail
      refine lives4_calls _ _ (fun w1 n1 => ?_)
      go_wp2_with fail
      exact hR.out _ n1)
  · have hs3 : ¬ 3000 < s.size := by omega
    have hm0 : ¬ m < 0 := by omega
    clear h6
    have cC := fun (W : World) R hR => cut_calls s m W (by omega) hm R hR
    have cL := fun (W : World) R hR => lives4_calls W R hR
    have hb := cutF_bd s _ 0 m (Nat.le_refl _) (by omega)
    rw [Nat.zero_add] at hb
    have hd := wid_head s (cutF s 0 m) hb _ 0 m (Nat.le_refl _) (Nat.zero_add _) (by omega)
    have hc := cut_whole s _ 0 m (Nat.le_refl _) (by omega) (by omega)
    rw [Nat.zero_add] at hc
    change cutS s m ≤ s.size at hb
    change widS (s.extract 0 (cutS s m)) = widS s - widF s (cutS s m) at hd
    change widS s - widF s (cutS s m) ≤ m ∧ (cutS s m < s.size → m - (widS s - widF s (cutS s m)) < (unitS s (cutS s m)).1) at hc
    generalize cutS s m = b at *
    have cW := fun (W : World) R hR => wid_calls s W (by omega) R hR
    have cH := fun (W : World) R hR => wid_calls (s.extract 0 b) W (by rw [ByteArray.size_extract]; omega) R hR
    have cT := fun (W : World) R hR => wid_calls (s.extract b s.size) W (by rw [ByteArray.size_extract]; omega) R hR
    have cU := fun (W : World) R hR => unit_calls (s.extract b s.size) 0 W (by rw [ByteArray.size_extract]; omega) R hR
    rw [hd] at cH
    rw [widS_suffix hb] at cT
    have hz : (s.extract b s.size).size = s.size - b := by rw [ByteArray.size_extract]; omega
    have hHz : (s.extract 0 b).size = b := by rw [ByteArray.size_extract]; omega
    have hw := wid_bd s
    have hwb := widF_bd s _ b (Nat.le_refl _)
    have hp := parts_of hb
    have hpl : (s.extract 0 b ++ s.extract b s.size).toList = s.toList := by rw [hp]
    clear hd hp
    by_cases hK : b < s.size
    · have hE := isE_pos (s := s.extract b s.size) (by omega)
      rw [unit0 hK] at cU
      replace hc := And.intro hc.1 (hc.2 hK)
      have hu := unit_bd s b hK
      generalize unitS s b = u at *
      obtain ⟨c, n⟩ := u
      simp only at hu hc cU
      generalize widS s = V at *
      generalize widF s b = X at *
      generalize s.extract 0 b = H at *
      generalize s.extract b s.size = T at *
      replace cC := Lib.hid cC
      replace cW := Lib.hid cW
      replace cH := Lib.hid cH
      replace cT := Lib.hid cT
      replace cU := Lib.hid cU
      replace cL := Lib.hid cL
      go_enter Try.func5, Try.ntmps5
      go_wp2_with fail
      refine cC.out _ _ (fun w1 n1 => ?_)
      go_wp2_with fail
      refine cH.out _ _ (fun w2 n2 => ?_)
      replace n2 := n1.trans (n2.mono n1.size)
      go_wp2_with fail
      refine cT.out _ _ (fun w3 n3 => ?_)
      replace n3 := n2.trans (n3.mono n2.size)
      go_wp2_with fail
      refine cW.out _ _ (fun w4 n4 => ?_)
      replace n4 := n3.trans (n4.mono n3.size)
      go_wp2_with fail
      refine cU.out _ _ (fun w5 n5 => ?_)
      replace n5 := n4.trans (n5.mono n4.size)
      go_wp2_with fail
      refine cL.out _ _ (fun w6 n6 => ?_)
      replace n6 := n5.trans (n6.mono n5.size)
      go_wp2_with fail
      exact hR.out _ n6
    · have hbz : b = s.size := by omega
      have hE := isE_nil (s := s.extract b s.size) (by omega)
      rw [unitV_end (by omega)] at cU
      replace hc := hc.1
      simp only at cU
      generalize widS s = V at *
      generalize widF s b = X at *
      generalize s.extract 0 b = H at *
      generalize s.extract b s.size = T at *
      replace cC := Lib.hid cC
      replace cW := Lib.hid cW
      replace cH := Lib.hid cH
      replace cT := Lib.hid cT
      replace cU := Lib.hid cU
      replace cL := Lib.hid cL
      go_enter Try.func5, Try.ntmps5
      go_wp2_with fail
      refine cC.out _ _ (fun w1 n1 => ?_)
      go_wp2_with fail
      refine cH.out _ _ (fun w2 n2 => ?_)
      replace n2 := n1.trans (n2.mono n1.size)
      go_wp2_with fail
      refine cT.out _ _ (fun w3 n3 => ?_)
      replace n3 := n2.trans (n3.mono n2.size)
      go_wp2_with fail
      refine cW.out _ _ (fun w4 n4 => ?_)
      replace n4 := n3.trans (n4.mono n3.size)
      go_wp2_with fail
      refine cU.out _ _ (fun w5 n5 => ?_)
      replace n5 := n4.trans (n5.mono n4.size)
      go_wp2_with fail
      refine cL.out _ _ (fun w6 n6 => ?_)
      replace n6 := n5.trans (n6.mono n5.size)
      go_wp2_with fail
      exact hR.out _ n6
end Go.Proofs.Ytmlhhhilhdjknaa.Cel
