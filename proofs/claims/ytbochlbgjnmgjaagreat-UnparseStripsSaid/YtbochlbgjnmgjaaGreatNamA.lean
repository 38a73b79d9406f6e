/- The characters of a name: isLetter, isNameCharacter, behind, Take, Right; the reference's Signs, Right. -/
import Derived.Test.YtbochlbgjnmgjaaGreatNamS
import Derived.Test.YtbochlbgjnmgjaaGreatLib
set_option maxRecDepth 100000
set_option linter.unusedVariables false
namespace Go.Proofs.YtbochlbgjnmgjaaGreat.Nam
open Go.RowKit Go.Lib Go.Proofs.YtbochlbgjnmgjaaGreat.Utf

theorem isE_pos {s : ByteArray} (h : 0 < s.size) : s.toList.isEmpty = false := by
  have : s.toList.length = s.size := by rw [ba_toList]; simp
  cases e : s.toList with
  | nil => rw [e] at this; simp at this; omega
  | cons a l => rfl
theorem isE_nil {s : ByteArray} (h : s.size = 0) : s.toList.isEmpty = true := by
  have : s.toList.length = s.size := by rw [ba_toList]; simp
  cases e : s.toList with
  | nil => rfl
  | cons a l => rw [e] at this; simp at this; omega

theorem letter_calls (c : Nat) (w : World) (R : Ending → World → Prop) (hR : Hid (R (.returned (.bool (decide (isSmall c)))) w)) : Calls Tryz.prog 214 #[.int .u8 c] w R := by
  by_cases h1 : 97 ≤ c
  · by_cases h2 : c ≤ 122
    · rw [decide_eq_true (show isSmall c from ⟨h1, h2⟩)] at hR
      go_enter Tryz.func214, Tryz.ntmps214
      go_wp2_with fail
      exact retB hR.out (decide_eq_true (by omega)).symm
    · rw [decide_eq_false (show ¬ isSmall c from fun h => h2 h.2)] at hR
      go_enter Tryz.func214, Tryz.ntmps214
      go_wp2_with fail
      exact retB hR.out (decide_eq_false (by omega)).symm
  · rw [decide_eq_false (show ¬ isSmall c from fun h => h1 h.1)] at hR
    go_enter Tryz.func214, Tryz.ntmps214
    go_wp2_with fail
    exact hR.out

theorem sign_calls (c : Nat) (w : World) (R : Ending → World → Prop) (hR : Hid (R (.returned (.bool (decide (isSign c)))) w)) : Calls Tryz.prog 236 #[.int .u8 c] w R := by
  have cL := fun R hR => letter_calls c w R hR
  by_cases h0 : isSmall c
  · rw [decide_eq_true (show isSign c from .inl h0)] at hR
    rw [decide_eq_true h0] at cL
    replace cL := Lib.hid cL
    clear h0
    go_enter Tryz.func236, Tryz.ntmps236
    go_wp2_with fail
    refine cL.out _ (Lib.hid ?_)
    go_wp2_with fail
    exact hR.out
  · rw [decide_eq_false h0] at cL
    replace cL := Lib.hid cL
    by_cases h1 : 48 ≤ c
    · by_cases h2 : c ≤ 57
      · rw [decide_eq_true (show isSign c from .inr (.inr ⟨h1, h2⟩))] at hR
        clear h0
        go_enter Tryz.func236, Tryz.ntmps236
        go_wp2_with fail
        refine cL.out _ (Lib.hid ?_)
        go_wp2_with fail
        exact hR.out
      · by_cases h3 : c = 95
        · rw [decide_eq_true (show isSign c from .inr (.inl h3))] at hR
          subst h3
          clear h0
          go_enter Tryz.func236, Tryz.ntmps236
          go_wp2_with fail
          refine cL.out _ (Lib.hid ?_)
          go_wp2_with fail
          exact hR.out
        · rw [decide_eq_false (show ¬ isSign c from fun h => h.elim h0 (fun h => h.elim h3 (fun h => h2 h.2)))] at hR
          have h4 : ((c : Int) == 95) = false := by simp; omega
          have h5 : decide ((c : Int) ≤ 57) = false := decide_eq_false (by omega)
          clear h0
          go_enter Tryz.func236, Tryz.ntmps236
          go_wp2_with fail
          refine cL.out _ (Lib.hid ?_)
          go_wp2_with fail
          exact hR.out
    · have h3 : ¬ c = 95 := by omega
      rw [decide_eq_false (show ¬ isSign c from fun h => h.elim h0 (fun h => h.elim h3 (fun h => h1 h.1)))] at hR
      have h4 : ((c : Int) == 95) = false := by simp; omega
      clear h0
      go_enter Tryz.func236, Tryz.ntmps236
      go_wp2_with fail
      refine cL.out _ (Lib.hid ?_)
      go_wp2_with fail
      exact hR.out

theorem behind_calls (s : ByteArray) (k : Nat) (hk : k ≤ s.size) (hs : s.size ≤ maxLen) (w : World) (R : Ending → World → Prop)
    (hR : Hid (R (.returned (.int .i64 (k + runF s k : Nat))) w)) : Calls Tryz.prog 215 #[.string s, .int .i64 k] w R := by
  obtain ⟨V, hV⟩ : ∃ V, k + runF s k = V := ⟨_, rfl⟩
  rw [hV] at hR
  replace hs : s.size ≤ 9223372036854775807 := hs
  go_enter Tryz.func215, Tryz.ntmps215
  go_wp2_with fail
  go_loopg [1] (s.size - k) (fun g a wr => ∃ j : Nat, wr = w ∧ a = .int .i64 j ∧ j ≤ s.size ∧ g = s.size - j ∧ Hid (j + runF s j = V))
  case atStart => exact ⟨k, rfl, rfl, hk, rfl, Lib.hid hV⟩
  case round =>
    obtain ⟨j, rfl, rfl, c1, c2, c3⟩ := hrel
    have e := c3.out
    clear c3 hV
    by_cases hj : j < s.size
    · have hg := byN_get s j hj
      have hbl := byN_lt s j
      have cS := fun R hR => sign_calls (byN s j) wr R hR
      by_cases h1 : isSign (byN s j)
      · rw [runF_step hj h1] at e
        rw [decide_eq_true h1] at cS
        replace cS := Lib.hid cS
        clear h1
        generalize byN s j = c at *
        go_wp2_with fail
        refine cS.out _ (Lib.hid ?_)
        go_wp2_with fail
        go_roundg (gk - 1)
        case measure => omega
        case rel => exact ⟨j + 1, rfl, by go_num, by omega, by omega, Lib.hid (by omega)⟩
      · rw [runF_stop hj h1, Nat.add_zero] at e
        subst e
        rw [decide_eq_false h1] at cS
        replace cS := Lib.hid cS
        clear h1
        generalize byN s j = c at *
        go_wp2_with fail
        refine cS.out _ (Lib.hid ?_)
        go_wp2_with fail
        exact hR.out
    · rw [runF_end (by omega), Nat.add_zero] at e
      subst e
      go_wp2_with fail
      exact hR.out

/-- What Take hands back. -/
def takS (s : ByteArray) (a : Int) : ByteArray × Int := if 0 ≤ a ∧ a < s.size then (s.extract a.toNat (a.toNat + sigS s a.toNat), (a.toNat + sigS s a.toNat : Nat)) else (⟨#[]⟩, 0)
theorem takS_nat {s : ByteArray} {k : Nat} (h : k < s.size) : takS s k = (s.extract k (k + sigS s k), ((k + sigS s k : Nat) : Int)) := by unfold takS; rw [if_pos (by omega)]; rfl
theorem take_calls (s : ByteArray) (a : Int) (hs : s.size ≤ maxLen) (w : World) (R : Ending → World → Prop)
    (hR : Hid (R (.returned (.tuple #[.string (takS s a).1, .int .i64 (takS s a).2])) w)) : Calls Tryz.prog 178 #[.string s, .int .i64 a] w R := by
  replace hs : s.size ≤ 9223372036854775807 := hs
  by_cases h0 : a < 0
  · unfold takS at hR
    rw [if_neg (by omega)] at hR
    simp only at hR
    go_enter Tryz.func178, Tryz.ntmps178
    go_wp2_with fail
    exact hR.out
  · by_cases h1 : (s.size : Int) ≤ a
    · unfold takS at hR
      rw [if_neg (by omega)] at hR
      simp only at hR
      go_enter Tryz.func178, Tryz.ntmps178
      go_wp2_with fail
      exact hR.out
    · obtain ⟨k, rfl⟩ : ∃ k : Nat, a = k := ⟨a.toNat, by omega⟩
      have hk : k < s.size := by omega
      rw [takS_nat hk] at hR
      simp only at hR
      have hg := byN_get s k hk
      have hb := byN_lt s k
      have cL := fun R hR => letter_calls (byN s k) w R hR
      have cB := Lib.hid fun R hR => behind_calls s k (by omega) hs w R hR
      have hl := sig_len hk
      by_cases h2 : isSmall (byN s k)
      · have e : sigS s k = runF s k := by unfold sigS; rw [if_pos ⟨hk, h2⟩]
        rw [e] at hR hl
        rw [decide_eq_true h2] at cL
        replace cL := Lib.hid cL
        clear h2 e
        generalize byN s k = c at *
        generalize runF s k = m at *
        go_enter Tryz.func178, Tryz.ntmps178
        go_wp2_with fail
        refine cL.out _ (Lib.hid ?_)
        go_wp2_with fail
        refine cB.out _ (Lib.hid ?_)
        go_wp2_with fail
        exact hR.out
      · have e : sigS s k = 0 := by unfold sigS; rw [if_neg (fun h => h2 h.2)]
        rw [e] at hR
        simp only [Nat.add_zero] at hR
        rw [show s.extract k k = ByteArray.empty from ByteArray.extract_same] at hR
        rw [decide_eq_false h2] at cL
        replace cL := Lib.hid cL
        clear h2 e hl cB
        generalize byN s k = c at *
        go_enter Tryz.func178, Tryz.ntmps178
        go_wp2_with fail
        refine cL.out _ (Lib.hid ?_)
        go_wp2_with fail
        exact hR.out

theorem right_calls (s : ByteArray) (hs : s.size ≤ maxLen) (w : World) (R : Ending → World → Prop) (hR : Hid (R (.returned (.bool (rightS s))) w)) : Calls Tryz.prog 110 #[.string s] w R := by
  have cT := fun R hR => take_calls s 0 hs w R hR
  replace hs : s.size ≤ 9223372036854775807 := hs
  unfold rightS at hR
  by_cases h0 : 0 < s.size
  · have hl := sig_len h0
    rw [show takS s 0 = takS s (0 : Nat) from rfl, takS_nat h0] at cT
    simp only at cT
    have hz : (s.extract 0 (0 + sigS s 0)).size = sigS s 0 := by rw [ByteArray.size_extract]; omega
    generalize sigS s 0 = m at *
    generalize s.extract 0 (0 + m) = n at *
    replace cT := Lib.hid cT
    by_cases h1 : 0 < m
    · have hE := isE_pos (s := n) (by omega)
      by_cases h2 : m = s.size
      · by_cases h3 : s.size ≤ 32
        · rw [decide_eq_true ⟨h0, h3, h2⟩] at hR
          subst h2
          have e : ((n.size : Int) == (s.size : Int)) = true := by simp; omega
          go_enter Tryz.func110, Tryz.ntmps110
          go_wp2_with fail
          refine cT.out _ (Lib.hid ?_)
          go_wp2_with fail
          exact retB hR.out (decide_eq_true (by omega)).symm
        · rw [decide_eq_false (fun h => h3 h.2.1)] at hR
          subst h2
          have e : ((n.size : Int) == (s.size : Int)) = true := by simp; omega
          go_enter Tryz.func110, Tryz.ntmps110
          go_wp2_with fail
          refine cT.out _ (Lib.hid ?_)
          go_wp2_with fail
          exact retB hR.out (decide_eq_false (by omega)).symm
      · rw [decide_eq_false (fun h => h2 h.2.2)] at hR
        have e : ((n.size : Int) == (s.size : Int)) = false := by simp; omega
        go_enter Tryz.func110, Tryz.ntmps110
        go_wp2_with fail
        refine cT.out _ (Lib.hid ?_)
        go_wp2_with fail
        exact hR.out
    · have hE := isE_nil (s := n) (by omega)
      rw [decide_eq_false (fun h => by omega)] at hR
      go_enter Tryz.func110, Tryz.ntmps110
      go_wp2_with fail
      refine cT.out _ (Lib.hid ?_)
      go_wp2_with fail
      exact hR.out
  · rw [decide_eq_false (fun h => h0 h.1)] at hR
    unfold takS at cT
    rw [if_neg (by omega)] at cT
    simp only at cT
    replace cT := Lib.hid cT
    go_enter Tryz.func110, Tryz.ntmps110
    go_wp2_with fail
    refine cT.out _ (Lib.hid ?_)
    go_wp2_with fail
    exact hR.out

end Go.Proofs.YtbochlbgjnmgjaaGreat.Nam
