import Derived.Test.YthelhplcijhioaaGreatG6
import Derived.Test.YthelhplcijhioaaGreatLib
/- The characters of a name: isLetter, isNameCharacter, behind, Take, Right; the reference's Signs, Right. -/
set_option maxRecDepth 100000
set_option linter.unusedVariables false
namespace Go.Proofs.YthelhplcijhioaaGreat.Nam
open Go.RowKit Go.Lib Go.Proofs.YthelhplcijhioaaGreat.Utf

theorem isE_pos {s : ByteArray} (h : 0 < s.size) : s.toList.isEmpty = false := by
  have : s.toList.length = s.size := by rw [ba_toList]; simp
  cases e : s.toList with
  | nil => rw [e] at this; simp at this; omega
  | cons a l => rfl
theorem isE_nil {s : ByteArray} (h : s.size = 0) : s.toList.isEmpty = true := by
  have : s.toList.length = s.size := by rw [ba_toList]; simp
  cases e : s.toList with
  | nil => rfl
  | cons a l => rw [e] at this; simp at this; omega

theorem letter_calls (c : Nat) (w : World) (R : Ending → World → Prop) (hR : Hid (R (.returned (.bool (decide (isSmall c)))) w)) : Calls Tryz.prog 144 #[.int .u8 c] w R := by
  by_cases h1 : 97 ≤ c
  · by_cases h2 : c ≤ 122
    · rw [decide_eq_true (show isSmall c from ⟨h1, h2⟩)] at hR
      go_enter Tryz.func144, Tryz.ntmps144
      go_wp2_with fail
      exact retB hR.out (decide_eq_true (by omega)).symm
    · rw [decide_eq_false (show ¬ isSmall c from fun h => h2 h.2)] at hR
      go_enter Tryz.func144, Tryz.ntmps144
      go_wp2_with fail
      exact retB hR.out (decide_eq_false (by omega)).symm
  · rw [decide_eq_false (show ¬ isSmall c from fun h => h1 h.1)] at hR
    go_enter Tryz.func144, Tryz.ntmps144
    go_wp2_with fail
    exact hR.out

theorem sign_calls (c : Nat) (w : World) (R : Ending → World → Prop) (hR : Hid (R (.returned (.bool (decide (isSign c)))) w)) : Calls Tryz.prog 154 #[.int .u8 c] w R := by
  have cL := fun R hR => letter_calls c w R hR
  by_cases h0 : isSmall c
  · rw [decide_eq_true (show isSign c from .inl h0)] at hR
    rw [decide_eq_true h0] at cL
    replace cL := Lib.hid cL
    clear h0
    go_enter Tryz.func154, Tryz.ntmps154
    go_wp2_with fail
    refine cL.out _ (Lib.hid ?_)
    go_wp2_with fail
    exact hR.out
  · rw [decide_eq_false h0] at cL
    replace cL := Lib.hid cL
    by_cases h1 : 48 ≤ c
    · by_cases h2 : c ≤ 57
      · rw [decide_eq_true (show isSign c from .inr (.inr ⟨h1, h2⟩))] at hR
        clear h0
        go_enter Tryz.func154, Tryz.ntmps154
        go_wp2_with fail
        refine cL.out _ (Lib.hid ?_)
        go_wp2_with fail
        exact hR.out
      · by_cases h3 : c = 95
        · rw [decide_eq_true (show isSign c from .inr (.inl h3))] at hR
          subst h3
          clear h0
          go_enter Tryz.func154, Tryz.ntmps154
          go_wp2_with fail
          refine cL.out _ (Lib.hid ?_)
          go_wp2_with fail
          exact hR.out
        · rw [decide_eq_false (show ¬ isSign c from fun h => h.elim h0 (fun h => h.elim h3 (fun h => h2 h.2)))] at hR
          have h4 : ((c : Int) == 95) = false := by simp; omega
          have h5 : decide ((c : Int) ≤ 57) = false := decide_eq_false (by omega)
          clear h0
          go_enter Tryz.func154, Tryz.ntmps154
          go_wp2_with fail
          refine cL.out _ (Lib.hid ?_)
          go_wp2_with fail
          exact hR.out
    · have h3 : ¬ c = 95 := by omega
      rw [decide_eq_false (show ¬ isSign c from fun h => h.elim h0 (fun h => h.elim h3 (fun h => h1 h.1)))] at hR
      have h4 : ((c : Int) == 95) = false := by simp; omega
      clear h0
      go_enter Tryz.func154, Tryz.ntmps154
      go_wp2_with fail
      refine cL.out _ (Lib.hid ?_)
      go_wp2_with fail
      exact hR.out

theorem behind_calls (s : ByteArray) (k : Nat) (hk : k ≤ s.size) (hs : s.size ≤ maxLen) (w : World) (R : Ending → World → Prop)
    (hR : Hid (R (.returned (.int .i64 (k + runF s k : Nat))) w)) : Calls Tryz.prog 145 #[.string s, .int .i64 k] w R := by
  obtain ⟨V, hV⟩ : ∃ V, k + runF s k = V := ⟨_, rfl⟩
  rw [hV] at hR
  replace hs : s.size ≤ 9223372036854775807 := hs
  go_enter Tryz.func145, Tryz.ntmps145
  go_wp2_with fail
  go_loopg [1] (s.size - k) (fun g a wr => ∃ j : Nat, wr = w ∧ a = .int .i64 j ∧ j ≤ s.size ∧ g = s.size - j ∧ Hid (j + runF s j = V))
  case atStart => exact ⟨k, rfl, rfl, hk, rfl, Lib.hid hV⟩
  case round =>
    obtain ⟨j, rfl, rfl, c1, c2, c3⟩ := hrel
    have e := c3.out
    clear c3 hV
    by_cases hj : j < s.size
    · have hg := byN_get s j hj
      have hbl := byN_lt s j
      have cS := fun R hR => sign_calls (byN s j) wr R hR
      by_cases h1 : isSign (byN s j)
      · rw [runF_step hj h1] at e
        rw [decide_eq_true h1] at cS
        replace cS := Lib.hid cS
        clear h1
        generalize byN s j = c at *
        go_wp2_with fail
        refine cS.out _ (Lib.hid ?_)
        go_wp2_with fail
        go_roundg (gk - 1)
        case measure => omega
        case rel => exact ⟨j + 1, rfl, by go_num, by omega, by omega, Lib.hid (by omega)⟩
      · rw [runF_stop hj h1, Nat.add_zero] at e
        subst e
        rw [decide_eq_false h1] at cS
        replace cS := Lib.hid cS
        clear h1
        generalize byN s j = c at *
        go_wp2_with fail
        refine cS.out _ (Lib.hid ?_)
        go_wp2_with fail
        exact hR.out
    · rw [runF_end (by omega), Nat.add_zero] at e
      subst e
      go_wp2_with fail
      exact hR.out

/-- What Take hands back. -/
def takS (s : ByteArray) (a : Int) : ByteArray × Int := if 0 ≤ a ∧ a < s.size then (s.extract a.toNat (a.toNat + sigS s a.toNat), (a.toNat + sigS s a.toNat : Nat)) else (⟨#[]⟩, 0)
theorem takS_nat {s : ByteArray} {k : Nat} (h : k < s.size) : takS s k = (s.extract k (k + sigS s k), ((k + sigS s k : Nat) : Int)) := by unfold takS; rw [if_pos (by omega)]; rfl
theorem take_calls (s : ByteArray) (a : Int) (hs : s.size ≤ maxLen) (w : World) (R : Ending → World → Prop)
    (hR : Hid (R (.returned (.tuple #[.string (takS s a).1, .int .i64 (takS s a).2])) w)) : Calls Tryz.prog 125 #[.string s, .int .i64 a] w R := by
  replace hs : s.size ≤ 9223372036854775807 := hs
  by_cases h0 : a < 0
  · unfold takS at hR
    rw [if_neg (by omega)] at hR
    simp only at hR
    go_enter Tryz.func125, Tryz.ntmps125
    go_wp2_with fail
    exact hR.out
  · by_cases h1 : (s.size : Int) ≤ a
    · unfold takS at hR
      rw [if_neg (by omega)] at hR
      simp only at hR
      go_enter Tryz.func125, Tryz.ntmps125
      go_wp2_with fail
      exact hR.out
    · obtain ⟨k, rfl⟩ : ∃ k : Nat, a = k := ⟨a.toNat, by omega⟩
      have hk : k < s.size := by omega
      rw [takS_nat hk] at hR
      simp only at hR
      have hg := byN_get s k hk
      have hb := byN_lt s k
      have cL := fun R hR => letter_calls (byN s k) w R hR
      have cB := Lib.hid fun R hR => behind_calls s k (by omega) hs w R hR
      have hl := sig_len hk
      by_cases h2 : isSmall (byN s k)
      · have e : sigS s k = runF s k := by unfold sigS; rw [if_pos ⟨hk, h2⟩]
        rw [e] at hR hl
        rw [decide_eq_true h2] at cL
        replace cL := Lib.hid cL
        clear h2 e
        generalize byN s k = c at *
        generalize runF s k = m at *
        go_enter Tryz.func125, Tryz.ntmps125
        go_wp2_with fail
        refine cL.out _ (Lib.hid ?_)
        go_wp2_with fail
        refine cB.out _ (Lib.hid ?_)
        go_wp2_with fail
        exact hR.out
      · have e : sigS s k = 0 := by unfold sigS; rw [if_neg (fun h => h2 h.2)]
        rw [e] at hR
        simp only [Nat.add_zero] at hR
        rw [show s.extract k k = ByteArray.empty from ByteArray.extract_same] at hR
        rw [decide_eq_false h2] at cL
        replace cL := Lib.hid cL
        clear h2 e hl cB
        generalize byN s k = c at *
        go_enter Tryz.func125, Tryz.ntmps125
        go_wp2_with fail
        refine cL.out _ (Lib.hid ?_)
        go_wp2_with fail
        exact hR.out

theorem right_calls (s : ByteArray) (hs : s.size ≤ maxLen) (w : World) (R : Ending → World → Prop) (hR : Hid (R (.returned (.bool (rightS s))) w)) : Calls Tryz.prog 126 #[.string s] w R := by
  have cT := fun R hR => take_calls s 0 hs w R hR
  replace hs : s.size ≤ 9223372036854775807 := hs
  unfold rightS at hR
  by_cases h0 : 0 < s.size
  · have hl := sig_len h0
    rw [show takS s 0 = takS s (0 : Nat) from rfl, takS_nat h0] at cT
    simp only at cT
    have hz : (s.extract 0 (0 + sigS s 0)).size = sigS s 0 := by rw [ByteArray.size_extract]; omega
    generalize sigS s 0 = m at *
    generalize s.extract 0 (0 + m) = n at *
    replace cT := Lib.hid cT
    by_cases h1 : 0 < m
    · have hE := isE_pos (s := n) (by omega)
      by_cases h2 : m = s.size
      · by_cases h3 : s.size ≤ 32
        · rw [decide_eq_true ⟨h0, h3, h2⟩] at hR
          subst h2
          have e : ((n.size : Int) == (s.size : Int)) = true := by simp; omega
          go_enter Tryz.func126, Tryz.ntmps126
          go_wp2_with fail
          refine cT.out _ (Lib.hid ?_)
          go_wp2_with fail
          exact retB hR.out (decide_eq_true (by omega)).symm
        · rw [decide_eq_false (fun h => h3 h.2.1)] at hR
          subst h2
          have e : ((n.size : Int) == (s.size : Int)) = true := by simp; omega
          go_enter Tryz.func126, Tryz.ntmps126
          go_wp2_with fail
          refine cT.out _ (Lib.hid ?_)
          go_wp2_with fail
          exact retB hR.out (decide_eq_false (by omega)).symm
      · rw [decide_eq_false (fun h => h2 h.2.2)] at hR
        have e : ((n.size : Int) == (s.size : Int)) = false := by simp; omega
        go_enter Tryz.func126, Tryz.ntmps126
        go_wp2_with fail
        refine cT.out _ (Lib.hid ?_)
        go_wp2_with fail
        exact hR.out
    · have hE := isE_nil (s := n) (by omega)
      rw [decide_eq_false (fun h => by omega)] at hR
      go_enter Tryz.func126, Tryz.ntmps126
      go_wp2_with fail
      refine cT.out _ (Lib.hid ?_)
      go_wp2_with fail
      exact hR.out
  · rw [decide_eq_false (fun h => h0 h.1)] at hR
    unfold takS at cT
    rw [if_neg (by omega)] at cT
    simp only at cT
    replace cT := Lib.hid cT
    go_enter Tryz.func126, Tryz.ntmps126
    go_wp2_with fail
    refine cT.out _ (Lib.hid ?_)
    go_wp2_with fail
    exact hR.out

theorem small_sign {c : Nat} (h : isSmall c) : isSign c := .inl h
set_option maxHeartbeats 1000000 in
theorem signs_calls (s : ByteArray) (k : Nat) (hk : k < s.size) (hs : s.size ≤ maxLen) (w : World) (R : Ending → World → Prop)
    (hR : Hid (R (.returned (.int .i64 (sigS s k : Nat))) w)) : Calls Tryz.prog 79 #[.string s, .int .i64 k] w R := by
  obtain ⟨V, hV⟩ : ∃ V, sigS s k = V := ⟨_, rfl⟩
  rw [hV] at hR
  replace hs : s.size ≤ 9223372036854775807 := hs
  go_enter Tryz.func79, Tryz.ntmps79
  go_wp2_with fail
  go_loopg [5, 6] (s.size - k) (fun g n a wr => ∃ j m : Nat, wr = w ∧ n = .int .i64 m ∧ a = .int .i64 j ∧ j ≤ s.size ∧ g = s.size - j ∧ m ≤ j ∧ Hid ((m = 0 → j = k) ∧ (0 < m → m + runF s j = V)))
  case atStart => exact ⟨k, 0, rfl, rfl, rfl, by omega, rfl, by omega, Lib.hid ⟨fun _ => rfl, fun h => by omega⟩⟩
  case round =>
    obtain ⟨j, m, rfl, rfl, rfl, c1, c2, c4, c3⟩ := hrel
    obtain ⟨e1, e2⟩ := c3.out
    clear c3
    by_cases hj : j < s.size
    · have hg := byN_get s j hj
      have hbl := byN_lt s j
      by_cases hm : m = 0
      · subst hm
        obtain rfl := e1 rfl
        clear e1 e2
        unfold sigS at hV
        by_cases hsm : isSmall (byN s j)
        · rw [if_pos ⟨hj, hsm⟩, runF_step hj (small_sign hsm)] at hV
          obtain ⟨h1, h2⟩ := hsm
          replace hV := Lib.hid hV
          generalize byN s j = c at *
          go_wp2_with fail
          go_roundg (gk - 1)
          case measure => omega
          case rel => exact ⟨j + 1, 1, rfl, by go_num, by go_num, by omega, by omega, by omega, Lib.hid ⟨fun h => by omega, fun _ => by have := hV.out; omega⟩⟩
        · rw [if_neg (fun h => hsm h.2)] at hV
          subst hV
          by_cases h1 : 97 ≤ byN s j
          · have h2 : decide (((byN s j : Nat) : Int) ≤ 122) = false := decide_eq_false (fun h => hsm ⟨h1, by omega⟩)
            clear hsm
            generalize byN s j = c at *
            go_wp2_with fail
            exact hR.out
          · clear hsm
            generalize byN s j = c at *
            go_wp2_with fail
            exact hR.out
      · have e := e2 (by omega)
        have hm0 : ((m : Int) == 0) = false := by simp; omega
        clear e1 e2 hV
        by_cases hsm : isSmall (byN s j)
        · rw [runF_step hj (small_sign hsm)] at e
          obtain ⟨h1, h2⟩ := hsm
          generalize byN s j = c at *
          go_wp2_with fail
          go_roundg (gk - 1)
          case measure => omega
          case rel => exact ⟨j + 1, m + 1, rfl, by go_num, by go_num, by omega, by omega, by omega, Lib.hid ⟨fun h => by omega, fun _ => by omega⟩⟩
        · have hn : (97 ≤ byN s j ∧ 122 < byN s j) ∨ byN s j < 97 := by
            unfold isSmall at hsm; omega
          by_cases h3 : byN s j = 95
          · rw [runF_step hj (.inr (.inl h3))] at e
            have h4 : (((byN s j : Nat) : Int) != 95) = false := by simp; omega
            have h5 : byN s j < 97 := by omega
            clear hn hsm
            generalize byN s j = c at *
            go_wp2_with fail
            go_roundg (gk - 1)
            case measure => omega
            case rel => exact ⟨j + 1, m + 1, rfl, by go_num, by go_num, by omega, by omega, by omega, Lib.hid ⟨fun h => by omega, fun _ => by omega⟩⟩
          · have h4 : (((byN s j : Nat) : Int) != 95) = true := by simp; omega
            by_cases h5 : 48 ≤ byN s j ∧ byN s j ≤ 57
            · rw [runF_step hj (.inr (.inr h5))] at e
              obtain ⟨h6, h7⟩ := h5
              clear hn hsm
              generalize byN s j = c at *
              go_wp2_with fail
              go_roundg (gk - 1)
              case measure => omega
              case rel => exact ⟨j + 1, m + 1, rfl, by go_num, by go_num, by omega, by omega, by omega, Lib.hid ⟨fun h => by omega, fun _ => by omega⟩⟩
            · rw [runF_stop hj (fun h => h.elim hsm (fun h => h.elim h3 h5)), Nat.add_zero] at e
              subst e
              have h6 : byN s j < 48 ∨ (48 ≤ byN s j ∧ 57 < byN s j) := by omega
              have d1 : ∀ c : Nat, 122 < c → decide ((c : Int) ≤ 122) = false := fun c h => decide_eq_false (by omega)
              have d2 : ∀ c : Nat, 57 < c → decide (57 < (c : Int)) = true := fun c h => decide_eq_true (by omega)
              replace d1 := Lib.hid d1
              replace d2 := Lib.hid d2
              clear h5 hsm
              generalize byN s j = c at *
              rcases hn with ⟨n1, n2⟩ | n1 <;> rcases h6 with h6 | ⟨h6, h7⟩ <;> try omega
              · have q1 := d1.out c n2
                have q2 := d2.out c h7
                go_wp2_with fail
                exact hR.out
              · go_wp2_with fail
                exact hR.out
              · have q2 := d2.out c h7
                go_wp2_with fail
                exact hR.out
    · have e : m = V := by
        by_cases hm : m = 0
        · have := e1 hm; omega
        · have := e2 (by omega)
          rw [runF_end (by omega)] at this
          omega
      subst e
      clear e1 e2
      go_wp2_with fail
      exact hR.out

end Go.Proofs.YthelhplcijhioaaGreat.Nam

/- Add, Floor; the code's behind, value; HasPrefix of one byte. -/
set_option maxRecDepth 100000
set_option linter.unusedVariables false
namespace Go.Proofs.YthelhplcijhioaaGreat.Dig
open Go.RowKit Go.Lib Go.Proofs.YthelhplcijhioaaGreat.Utf

/-- What Add hands back. -/
def addS (a b : Int) : Int × Bool := if -9223372036854775808 ≤ a + b ∧ a + b ≤ 9223372036854775807 then (a + b, true) else (0, false)
/-- What Floor hands back. -/
def floS (n u : Int) : Int × Bool := if u < 1 then (0, false) else addS n (-(n % u))

theorem behind_calls (s : ByteArray) (k : Nat) (hk : k ≤ s.size) (w : World) (hs : s.size ≤ 1000000000000000) (R : Ending → World → Prop)
    (hR : Hid (∀ w', Below w.heap.size w w' → R (.returned (.int .i64 (k + (dgs s k).length : Nat))) w')) : Calls Tryz.prog 128 #[.string s, .int .i64 k] w R := by
  obtain ⟨V, hV⟩ : ∃ V, k + (dgs s k).length = V := ⟨_, rfl⟩
  rw [hV] at hR
  go_enter Tryz.func128, Tryz.ntmps128
  go_wp2_with fail
  go_loopg [1] (s.size - k) (fun g a wr => ∃ j : Nat, Below w.heap.size w wr ∧ a = .int .i64 j ∧ j ≤ s.size ∧ g = s.size - j ∧ Hid (j + (dgs s j).length = V))
  case atStart => exact ⟨k, Below.refl _ _, rfl, hk, rfl, Lib.hid hV⟩
  case round =>
    obtain ⟨j, bel, rfl, c1, c2, c3⟩ := hrel
    have e := c3.out
    clear c3 hV
    by_cases hj : j < s.size
    · have hg := byN_get s j hj
      have hbl := byN_lt s j
      by_cases h1 : 48 ≤ byN s j
      · by_cases h2 : byN s j ≤ 57
        · rw [dgs_step hj ⟨h1, h2⟩, List.length_cons] at e
          generalize byN s j = c at *
          go_wp2_with fail
          go_roundg (gk - 1)
          case measure => omega
          case rel => exact ⟨j + 1, bel, by go_num, by omega, by omega, Lib.hid (by omega)⟩
        · rw [dgs_stop hj (fun h => h2 h.2), List.length_nil, Nat.add_zero] at e
          subst e
          generalize byN s j = c at *
          go_wp2_with fail
          exact hR.out _ bel
      · rw [dgs_stop hj (fun h => h1 h.1), List.length_nil, Nat.add_zero] at e
        subst e
        generalize byN s j = c at *
        go_wp2_with fail
        exact hR.out _ bel
    · rw [dgs_end (by omega), List.length_nil, Nat.add_zero] at e
      subst e
      go_wp2_with fail
      exact hR.out _ bel

theorem tdiv_low {A : Int} {d : Nat} (h : (d : Int) ≤ A) : (-A + (48 + (d : Int) - 48)).tdiv 10 = -((A - d) / 10) := by
  rw [show -A + (48 + (d : Int) - 48) = -(A - d) by omega, Int.neg_tdiv, Int.tdiv_eq_ediv_of_nonneg (by omega)]
/-- What value hands back. -/
def lowN (neg : Bool) : Nat := if neg then 9223372036854775808 else 9223372036854775807
def valR (l : List Int) (neg : Bool) : Int × Bool := if lowN neg < valN l then (0, false) else (if neg then -(valN l : Int) else (valN l : Int), true)
theorem valA_mono : ∀ (l : List Int) (a : Nat), a ≤ valA a l
  | [], a => Nat.le_refl _
  | x :: l, a => by have := valA_mono l (10 * a + (x - 48).toNat); rw [valA_cons]; omega
set_option maxRecDepth 100000 in
theorem value_calls (s : ByteArray) (neg : Bool) (hd : Dg (bl s)) (w : World) (hs : s.size ≤ 1000000000000000) (R : Ending → World → Prop)
    (hR : Hid (∀ w', Below w.heap.size w w' → R (.returned (.tuple #[.int .i64 (valR (bl s) neg).1, .bool (valR (bl s) neg).2])) w')) : Calls Tryz.prog 129 #[.string s, .bool neg] w R := by
  obtain ⟨M, hM⟩ : ∃ M, lowN neg = M := ⟨_, rfl⟩
  obtain ⟨V, hV⟩ : ∃ V, valA 0 (bl s) = V := ⟨_, rfl⟩
  unfold valR valN at hR
  rw [hM, hV] at hR
  have hdd := Lib.hid hd
  clear hd
  cases neg
  · have hM1 : M = 9223372036854775807 := by rw [← hM]; rfl
    clear hM
    subst hM1
    simp only [Bool.false_eq_true, if_false] at hR
    go_enter Tryz.func129, Tryz.ntmps129
    go_wp2_with fail
    go_loopg [4, 12] s.size (fun g n a wr => ∃ (j : Nat) (x : Nat), Below w.heap.size w wr ∧ n = .int .i64 (-(x : Int)) ∧ a = .int .i64 j ∧ j + g = s.size ∧ x ≤ 9223372036854775807 ∧ Hid (valA x ((bl s).drop j) = V))
    case atStart => exact ⟨0, 0, Below.refl _ _, rfl, rfl, by omega, by omega, Lib.hid (by rw [List.drop_zero]; exact hV)⟩
    case round =>
      obtain ⟨j, x, bel, rfl, rfl, c1, c2, c3⟩ := hrel
      have e := c3.out
      clear c3 hV
      by_cases hj : j < s.size
      · have hg := byN_get s j hj
        rw [bl_drop hj, valA_cons] at e
        have hc := hdd.out (byN s j : Int) (by rw [← List.drop_zero (l := bl s)] ; exact List.mem_of_mem_drop (i := j) (by rw [List.drop_zero, bl_drop hj]; exact List.mem_cons_self))
        obtain ⟨d, hdq⟩ : ∃ d : Nat, byN s j = 48 + d := ⟨byN s j - 48, by omega⟩
        rw [hdq] at hg hc e
        have hd9 : d ≤ 9 := by omega
        rw [show (((48 + d : Nat) : Int) - 48).toNat = d by omega] at e
        have hT := tdiv_low (A := 9223372036854775807) (d := d) (by omega)
        by_cases hb : 9223372036854775807 < 10 * x + d
        · have := valA_mono ((bl s).drop (j + 1)) (10 * x + d)
          rw [e] at this
          rw [if_pos (by omega)] at hR
          simp only at hR
          have hL : -(x : Int) < (-9223372036854775807 + (48 + (d : Int) - 48)).tdiv 10 := by rw [hT]; omega
          clear e hdq hc hT
          go_wp2_with fail
          exact hR.out _ bel
        · replace e := Lib.hid e
          have hL : ¬ -(x : Int) < (-9223372036854775807 + (48 + (d : Int) - 48)).tdiv 10 := by rw [hT]; omega
          clear hdq hc hT
          go_wp2_with fail
          go_roundg (gk - 1)
          case measure => omega
          case rel => exact ⟨j + 1, 10 * x + d, bel, by go_num, by go_num, by omega, by omega, e⟩
      · rw [List.drop_eq_nil_of_le (by rw [bl_length]; omega)] at e
        replace e : x = V := e
        subst e
        rw [if_neg (by omega)] at hR
        simp only at hR
        go_wp2_with fail
        exact hR.out _ bel
  · have hM1 : M = 9223372036854775808 := by rw [← hM]; rfl
    clear hM
    subst hM1
    simp only [if_true] at hR
    go_enter Tryz.func129, Tryz.ntmps129
    go_wp2_with fail
    go_loopg [4, 12] s.size (fun g n a wr => ∃ (j : Nat) (x : Nat), Below w.heap.size w wr ∧ n = .int .i64 (-(x : Int)) ∧ a = .int .i64 j ∧ j + g = s.size ∧ x ≤ 9223372036854775808 ∧ Hid (valA x ((bl s).drop j) = V))
    case atStart => exact ⟨0, 0, Below.refl _ _, rfl, rfl, by omega, by omega, Lib.hid (by rw [List.drop_zero]; exact hV)⟩
    case round =>
      obtain ⟨j, x, bel, rfl, rfl, c1, c2, c3⟩ := hrel
      have e := c3.out
      clear c3 hV
      by_cases hj : j < s.size
      · have hg := byN_get s j hj
        rw [bl_drop hj, valA_cons] at e
        have hc := hdd.out (byN s j : Int) (by rw [← List.drop_zero (l := bl s)] ; exact List.mem_of_mem_drop (i := j) (by rw [List.drop_zero, bl_drop hj]; exact List.mem_cons_self))
        obtain ⟨d, hdq⟩ : ∃ d : Nat, byN s j = 48 + d := ⟨byN s j - 48, by omega⟩
        rw [hdq] at hg hc e
        have hd9 : d ≤ 9 := by omega
        rw [show (((48 + d : Nat) : Int) - 48).toNat = d by omega] at e
        have hT := tdiv_low (A := 9223372036854775808) (d := d) (by omega)
        by_cases hb : 9223372036854775808 < 10 * x + d
        · have := valA_mono ((bl s).drop (j + 1)) (10 * x + d)
          rw [e] at this
          rw [if_pos (by omega)] at hR
          simp only at hR
          have hL : -(x : Int) < (-9223372036854775808 + (48 + (d : Int) - 48)).tdiv 10 := by rw [hT]; omega
          clear e hdq hc hT
          go_wp2_with fail
          exact hR.out _ bel
        · replace e := Lib.hid e
          have hL : ¬ -(x : Int) < (-9223372036854775808 + (48 + (d : Int) - 48)).tdiv 10 := by rw [hT]; omega
          clear hdq hc hT
          go_wp2_with fail
          go_roundg (gk - 1)
          case measure => omega
          case rel => exact ⟨j + 1, 10 * x + d, bel, by go_num, by go_num, by omega, by omega, e⟩
      · rw [List.drop_eq_nil_of_le (by rw [bl_length]; omega)] at e
        replace e : x = V := e
        subst e
        rw [if_neg (by omega)] at hR
        simp only at hR
        go_wp2_with fail
        exact hR.out _ bel
/- strings.HasPrefix of one byte -/
theorem bl_head1 {x : ByteArray} (h : 1 ≤ x.size) : bl (x.extract 0 1) = [(byN x 0 : Int)] := by
  have h0 := bl_get x 0 (by omega)
  rw [bl_extract, List.drop_zero, List.take_one, List.head?_eq_getElem?, h0]
  rfl
theorem head_eq {x : ByteArray} (h : 1 ≤ x.size) (c : UInt8) : ((x.extract 0 1).toList == (⟨#[c]⟩ : ByteArray).toList) = decide (byN x 0 = c.toNat) := by
  rw [bl_inj, bl_head1 h]
  have : bl ⟨#[c]⟩ = [(c.toNat : Int)] := rfl
  rw [this]
  simp
  omega
theorem haspre_calls (c : UInt8) (x : ByteArray) (w : World) (hs : x.size ≤ 1000000000000000) (R : Ending → World → Prop) (hR : Hid (R (.returned (.bool (decide (1 ≤ x.size ∧ byN x 0 = c.toNat)))) w)) :
    Calls Tryz.prog 146 #[.string x, .string ⟨#[c]⟩] w R := by
  have hh := fun h : 1 ≤ x.size => head_eq h c
  obtain ⟨b, hb⟩ : ∃ b : ByteArray, b = ⟨#[c]⟩ := ⟨_, rfl⟩
  have hbz : b.size = 1 := by subst hb; rfl
  rw [← hb] at hh ⊢
  clear hb
  by_cases h1 : 1 ≤ x.size
  · have h2 := hh h1
    clear hh
    simp only [h1, true_and] at hR
    have h5 : (1 : Int) ≤ (x.size : Int) := by omega
    generalize decide (byN x 0 = c.toNat) = d at *
    cases d
    · go_enter Tryz.func146, Tryz.ntmps146
      go_wp2_with fail
      exact hR.out
    · go_enter Tryz.func146, Tryz.ntmps146
      go_wp2_with fail
      exact hR.out
  · clear hh
    rw [decide_eq_false (fun h => h1 h.1)] at hR
    have h0 : x.size = 0 := by omega
    go_enter Tryz.func146, Tryz.ntmps146
    go_wp2_with fail
    exact hR.out
theorem hasprefix_calls (c : UInt8) (x : ByteArray) (w : World) (hs : x.size ≤ 1000000000000000) (R : Ending → World → Prop) (hR : Hid (R (.returned (.bool (decide (1 ≤ x.size ∧ byN x 0 = c.toNat)))) w)) :
    Calls Tryz.prog 127 #[.string x, .string ⟨#[c]⟩] w R := by
  have cH := fun (W : World) R hR => haspre_calls c x W hs R hR
  generalize decide (1 ≤ x.size ∧ byN x 0 = c.toNat) = d at *
  replace cH := Lib.hid cH
  obtain ⟨b, hb⟩ : ∃ b : ByteArray, b = ⟨#[c]⟩ := ⟨_, rfl⟩
  rw [← hb] at cH ⊢
  clear hb
  go_enter Tryz.func127, Tryz.ntmps127
  go_wp2_with fail
  refine cH.out _ _ (Lib.hid ?_)
  go_wp2_with fail
  exact hR.out
end Go.Proofs.YthelhplcijhioaaGreat.Dig
