/- The walks of the laws CellsWidths, CellsCuts. -/
import Derived.Test.YtmlhhhilhdjknaaCelV
set_option linter.unusedVariables false
namespace Go.Proofs.Ytmlhhhilhdjknaa.Cel
open Go.RowKit Go.Lib Go.Proofs.Ytmlhhhilhdjknaa.Utf Go.Proofs.Ytmlhhhilhdjknaa.Ran

set_option maxRecDepth 100000 in
set_option maxHeartbeats 1000000 in
theorem widths_walk (s : ByteArray) (i r : Int) (w : World) (R : Ending → World → Prop) (hs : s.size ≤ maxLen)
    (hR : Hid (∀ w', Below w.heap.size w w' → R (.returned (.bool true)) w')) : Calls Try.prog 3 #[.string s, .int .i64 i, .int .i32 r] w R := by
  unfold maxLen at hs
  by_cases h6 : 600 < s.size
  · go_enter Try.func3, Try.ntmps3
    go_wp2_with fail
    refine lives4_calls _ _ (fun w1 n1 => ?_)
    go_wp2_with fail
    exact hR.out _ n1
  · have cU := fun (W : World) R hR => unit_calls s i W (by omega) R hR
    have cW := fun (W : World) R hR => wid_calls s W (by omega) R hR
    have cV := fun (W : World) R hR => refWid_calls _ s W (Nat.le_refl _) (by omega) R hR
    have cS := fun (W : World) R hR => rune_calls r W R hR
    have cT := fun (W : World) R hR => refSize_calls r W R hR
    have cX := fun (W : World) R hR => widest_calls s W (by omega) R hR
    have cY := fun (W : World) R hR => refWidest_calls s W (by omega) R hR
    have cL := fun (W : World) R hR => lives4_calls W R hR
    generalize widS s = a1 at *
    generalize sizeS r = a2 at *
    generalize widestS s = a3 at *
    replace cW := Lib.hid cW
    replace cV := Lib.hid cV
    replace cS := Lib.hid cS
    replace cT := Lib.hid cT
    replace cX := Lib.hid cX
    replace cY := Lib.hid cY
    replace cL := Lib.hid cL
    by_cases ho : i < 0 ∨ (s.size : Int) ≤ i
    · have hu : unitV s i = (0, 0) := if_pos ho
      rw [hu] at cU
      simp only at cU
      replace cU := Lib.hid cU
      have ho2 : i < 0 ∨ (¬ i < 0 ∧ (s.size : Int) ≤ i) := by omega
      clear ho hu
      rcases ho2 with h | ⟨h, h'⟩ <;> (
        go_enter Try.func3, Try.ntmps3
        go_wp2_with fail
        refine cU.out _ _ (fun w1 n1 => ?_)
        go_wp2_with fail
        refine cW.out _ _ (fun w2 n2 => ?_)
        replace n2 := n1.trans (n2.mono n1.size)
        go_wp2_with fail
        refine cV.out _ _ (fun w3 n3 => ?_)
        replace n3 := n2.trans (n3.mono n2.size)
        go_wp2_with fail
        refine cS.out _ _ (fun w4 n4 => ?_)
        replace n4 := n3.trans (n4.mono n3.size)
        go_wp2_with fail
        refine cT.out _ _ (fun w5 n5 => ?_)
        replace n5 := n4.trans (n5.mono n4.size)
        go_wp2_with fail
        refine cX.out _ _ (fun w6 n6 => ?_)
        replace n6 := n5.trans (n6.mono n5.size)
        go_wp2_with fail
        refine cY.out _ _ (fun w7 n7 => ?_)
        replace n7 := n6.trans (n7.mono n6.size)
        go_wp2_with fail
        refine cL.out _ _ (fun w8 n8 => ?_)
        replace n8 := n7.trans (n8.mono n7.size)
        go_wp2_with fail
        exact hR.out _ n8)
    · obtain ⟨k, rfl⟩ : ∃ k : Nat, i = k := ⟨i.toNat, by omega⟩
      have hk : k < s.size := by omega
      have hb := unit_bd s k hk
      have cB := fun (W : World) R hR => refUnit_calls s k W (by omega) hk R hR
      rw [unitV_in hk] at cU
      generalize unitS s k = u at *
      obtain ⟨c, n⟩ := u
      simp only at cU cB hb
      replace cU := Lib.hid cU
      replace cB := Lib.hid cB
      clear ho
      go_enter Try.func3, Try.ntmps3
      go_wp2_with fail
      refine cU.out _ _ (fun w0 n0 => ?_)
      go_wp2_with fail
      refine cB.out _ _ (fun w1 n1 => ?_)
      replace n1 := n0.trans (n1.mono n0.size)
      go_wp2_with fail
      refine cW.out _ _ (fun w2 n2 => ?_)
      replace n2 := n1.trans (n2.mono n1.size)
      go_wp2_with fail
      refine cV.out _ _ (fun w3 n3 => ?_)
      replace n3 := n2.trans (n3.mono n2.size)
      go_wp2_with fail
      refine cS.out _ _ (fun w4 n4 => ?_)
      replace n4 := n3.trans (n4.mono n3.size)
      go_wp2_with fail
      refine cT.out _ _ (fun w5 n5 => ?_)
      replace n5 := n4.trans (n5.mono n4.size)
      go_wp2_with fail
      refine cX.out _ _ (fun w6 n6 => ?_)
      replace n6 := n5.trans (n6.mono n5.size)
      go_wp2_with fail
      refine cY.out _ _ (fun w7 n7 => ?_)
      replace n7 := n6.trans (n7.mono n6.size)
      go_wp2_with fail
      refine cL.out _ _ (fun w8 n8 => ?_)
      replace n8 := n7.trans (n8.mono n7.size)
      go_wp2_with fail
      exact hR.out _ n8

theorem byN_append_left {a b : ByteArray} {i : Nat} (h : i < a.size) : byN (a ++ b) i = byN a i := by
  unfold byN
  congr 1
  have h' : i < a.data.toList.length := by simpa using h
  simp [List.getD, List.getElem?_append_left h']
theorem byN_append_right {a b : ByteArray} {i : Nat} : byN (a ++ b) (a.size + i) = byN b i := by
  unfold byN
  congr 1
  rw [ByteArray.data_append, Array.toList_append, show a.size = a.data.toList.length by simp]
  simp only [List.getD]
  rw [List.getElem?_append_right (by omega), Nat.add_sub_cancel_left]

theorem pad_facts (s : ByteArray) (m : Int) : (padS s m).size = s.size + (min m 1000 - widS s).toNat ∧ (padS s m).extract 0 s.size = s ∧ ∀ i, s.size ≤ i → i < (padS s m).size → byN (padS s m) i = 32 := by
  have hz : (padS s m).size = s.size + (min m 1000 - widS s).toNat := by unfold padS; rw [ByteArray.size_append, blk_size]
  refine ⟨hz, ?_, fun i h1 h2 => ?_⟩
  · unfold padS
    apply ByteArray.ext
    apply Array.ext'
    simp [ByteArray.data_extract]
    rw [List.take_of_length_le (by simp)]
  · rw [hz] at h2
    unfold padS
    obtain ⟨j, rfl⟩ : ∃ j, i = s.size + j := ⟨i - s.size, by omega⟩
    rw [byN_append_right]
    unfold byN
    rw [blk_list]
    simp [List.getD]
    rw [List.getElem?_replicate, if_pos (by omega)]
    rfl

set_option maxRecDepth 100000 in
set_option maxHeartbeats 2000000 in
theorem cuts_walk (s : ByteArray) (m : Int) (w : World) (R : Ending → World → Prop) (hs : s.size ≤ maxLen) (hm : -9223372036854775808 ≤ m ∧ m ≤ 9223372036854775807)
    (hR : Hid (∀ w', Below w.heap.size w w' → R (.returned (.bool true)) w')) : Calls Try.prog 4 #[.string s, .int .i64 m] w R := by
  unfold maxLen at hs
  by_cases h6 : 600 < s.size
  · go_enter Try.func4, Try.ntmps4
    go_wp2_with fail
    refine lives4_calls _ _ (fun w1 n1 => ?_)
    go_wp2_with fail
    exact hR.out _ n1
  · have cC := fun (W : World) R hR => cut_calls s m W (by omega) hm R hR
    have cD := fun (W : World) R hR => refCut_calls _ s m W (Nat.le_refl _) (by omega) hm.2 R hR
    have cP := fun (W : World) R hR => pad_calls s m W (by omega) hm R hR
    have cV := fun (W : World) R hR => refWid_calls _ s W (Nat.le_refl _) (by omega) R hR
    have cL := fun (W : World) R hR => lives4_calls W R hR
    have hb := cutF_bd s _ 0 m (Nat.le_refl _) (by omega)
    rw [Nat.zero_add] at hb
    change cutS s m ≤ s.size at hb
    obtain ⟨p1, p2, p3⟩ := pad_facts s m
    have hw := wid_bd s
    generalize padS s m = p at *
    generalize widS s = V at *
    generalize cutS s m = b at *
    obtain ⟨H, hH⟩ : ∃ H, s.extract 0 b = H := ⟨_, rfl⟩
    obtain ⟨T, hT⟩ : ∃ T, s.extract b s.size = T := ⟨_, rfl⟩
    rw [hH, hT] at cC
    replace cC := Lib.hid cC
    replace cD := Lib.hid cD
    replace cP := Lib.hid cP
    replace cV := Lib.hid cV
    replace cL := Lib.hid cL
    replace p3 := Lib.hid p3
    have hg := byN_get p
    have hM : (m > 1000 ∧ min m 1000 = 1000) ∨ (¬ m > 1000 ∧ min m 1000 = m) := by omega
    rcases hM with ⟨hM, e⟩ | ⟨hM, e⟩
    · have hV : (1000 > V ∧ (p.size : Int) = s.size + (1000 - V)) ∨ (¬ 1000 > V ∧ p.size = s.size) := by omega
      clear e p1
      rcases hV with ⟨hV, e⟩ | ⟨hV, e⟩ <;> (
        have hge : s.size ≤ p.size ∧ p.size ≤ 2000 := by omega
        replace e := Lib.hid e
        go_enter Try.func4, Try.ntmps4
        go_wp2_with fail
        refine cC.out _ _ (fun w1 n1 => ?_)
        go_wp2_with fail
        refine cD.out _ _ (fun w2 n2 => ?_)
        replace n2 := n1.trans (n2.mono n1.size)
        go_wp2_with fail
        refine cP.out _ _ (fun w3 n3 => ?_)
        replace n3 := n2.trans (n3.mono n2.size)
        go_wp2_with fail
        go_loopg [10] (p.size - s.size) (fun k i wr => ∃ K : Nat, wr = w3 ∧ i = .int .i64 K ∧ s.size ≤ K ∧ K + k = p.size)
        case atStart => exact ⟨s.size, rfl, rfl, by omega, by omega⟩
        case round =>
          obtain ⟨K, rfl, rfl, c1, c2⟩ := hrel
          by_cases hK : K < p.size
          · have h32 := p3.out K c1 hK
            go_wp2_with fail
            go_roundg (gk - 1)
            case measure => omega
            case rel => exact ⟨K + 1, rfl, by go_num, by omega, by omega⟩
          · clear hg
            have e1 := e.out
            go_wp2_with fail
            refine cV.out _ _ (fun w4 n4 => ?_)
            replace n4 := n3.trans (n4.mono n3.size)
            go_wp2_with fail
            refine cL.out _ _ (fun w5 n5 => ?_)
            replace n5 := n4.trans (n5.mono n4.size)
            go_wp2_with fail
            exact hR.out _ n5)
    · have hV : (m > V ∧ (p.size : Int) = s.size + (m - V)) ∨ (¬ m > V ∧ p.size = s.size) := by omega
      clear e p1
      rcases hV with ⟨hV, e⟩ | ⟨hV, e⟩ <;> (
        have hge : s.size ≤ p.size ∧ p.size ≤ 2000 := by omega
        replace e := Lib.hid e
        go_enter Try.func4, Try.ntmps4
        go_wp2_with fail
        refine cC.out _ _ (fun w1 n1 => ?_)
        go_wp2_with fail
        refine cD.out _ _ (fun w2 n2 => ?_)
        replace n2 := n1.trans (n2.mono n1.size)
        go_wp2_with fail
        refine cP.out _ _ (fun w3 n3 => ?_)
        replace n3 := n2.trans (n3.mono n2.size)
        go_wp2_with fail
        go_loopg [10] (p.size - s.size) (fun k i wr => ∃ K : Nat, wr = w3 ∧ i = .int .i64 K ∧ s.size ≤ K ∧ K + k = p.size)
        case atStart => exact ⟨s.size, rfl, rfl, by omega, by omega⟩
        case round =>
          obtain ⟨K, rfl, rfl, c1, c2⟩ := hrel
          by_cases hK : K < p.size
          · have h32 := p3.out K c1 hK
            go_wp2_with fail
            go_roundg (gk - 1)
            case measure => omega
            case rel => exact ⟨K + 1, rfl, by go_num, by omega, by omega⟩
          · clear hg
            have e1 := e.out
            go_wp2_with fail
            refine cV.out _ _ (fun w4 n4 => ?_)
            replace n4 := n3.trans (n4.mono n3.size)
            go_wp2_with fail
            refine cL.out _ _ (fun w5 n5 => ?_)
            replace n5 := n4.trans (n5.mono n4.size)
            go_wp2_with fail
            exact hR.out _ n5)
end Go.Proofs.Ytmlhhhilhdjknaa.Cel
