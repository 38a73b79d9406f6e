/- The code of layer 13: Blank, kind, strings.IndexByte and HasPrefix at what they are asked, Mark. -/
import Derived.Test.YthelhplcijhioaaGreatG8
import Derived.Test.YthelhplcijhioaaGreatIxbH
import Derived.Test.YthelhplcijhioaaGreatZCutV
import Derived.Test.YthelhplcijhioaaGreatG25
set_option maxRecDepth 100000
set_option linter.unusedVariables false
namespace Go.Proofs.YthelhplcijhioaaGreat.Tok
open Go.Shelf Go.RowKit Go.Lib Go.Proofs.YthelhplcijhioaaGreat.Utf Go.Proofs.YthelhplcijhioaaGreat.Ran Go.Proofs.YthelhplcijhioaaGreat.Cel Go.Proofs.YthelhplcijhioaaGreat.Esc Go.Proofs.YthelhplcijhioaaGreat.Dig Go.Proofs.YthelhplcijhioaaGreat.Nam Go.Proofs.YthelhplcijhioaaGreat.Pat

theorem blank_calls (c : Nat) (hc : c < 256) (w : World) (R : Ending → World → Prop)
    (hR : Hid (∀ w', Below w.heap.size w w' → R (.returned (.bool (blankB c))) w')) : Calls Tryz.prog 60 #[.int .u8 c] w R := by
  have fin := hR.out w (Below.refl _ _)
  clear hR
  unfold blankB at fin
  by_cases h0 : c = 9
  · subst h0
    replace fin := Lib.hid fin
    go_enter Tryz.func60, Tryz.ntmps60
    go_wp2_with fail
    exact fin.out
  by_cases h1 : c = 10
  · subst h1
    replace fin := Lib.hid fin
    go_enter Tryz.func60, Tryz.ntmps60
    go_wp2_with fail
    exact fin.out
  by_cases h2 : c = 13
  · subst h2
    replace fin := Lib.hid fin
    go_enter Tryz.func60, Tryz.ntmps60
    go_wp2_with fail
    exact fin.out
  by_cases h3 : c = 32
  · subst h3
    replace fin := Lib.hid fin
    go_enter Tryz.func60, Tryz.ntmps60
    go_wp2_with fail
    exact fin.out
  rw [decide_eq_false (by omega)] at fin
  replace fin := Lib.hid fin
  have q0 : ((c : Int) == 9) = false := by simp; omega
  have q1 : ((c : Int) == 10) = false := by simp; omega
  have q2 : ((c : Int) == 13) = false := by simp; omega
  have q3 : ((c : Int) == 32) = false := by simp; omega
  clear h0 h1 h2 h3
  go_enter Tryz.func60, Tryz.ntmps60
  go_wp2_with fail
  exact fin.out

/-- The kind of the token that a byte begins. -/
def kindN (c : Nat) : Int := if 97 ≤ c ∧ c ≤ 122 then 1 else if c = 45 ∨ (48 ≤ c ∧ c ≤ 57) then 2 else if c = 34 then 3 else 4
theorem tkind_calls (c : Nat) (w : World) (R : Ending → World → Prop)
    (hR : Hid (R (.returned (.int .i64 (kindN c))) w)) : Calls Tryz.prog 104 #[.int .u8 c] w R := by
  unfold kindN at hR
  by_cases h0 : 97 ≤ c ∧ c ≤ 122
  · rw [if_pos h0] at hR
    obtain ⟨a1, a2⟩ := h0
    go_enter Tryz.func104, Tryz.ntmps104
    go_wp2_with fail
    exact hR.out
  rw [if_neg h0] at hR
  have a0 : c < 97 ∨ 122 < c := by omega
  by_cases h1 : c = 45 ∨ (48 ≤ c ∧ c ≤ 57)
  · rw [if_pos h1] at hR
    rcases h1 with rfl | ⟨b1, b2⟩
    · clear h0 a0
      go_enter Tryz.func104, Tryz.ntmps104
      go_wp2_with fail
      exact hR.out
    · have q0 : ((c : Int) == 45) = false := by simp; omega
      have q1 : decide (97 ≤ c) = false := decide_eq_false (by omega)
      have q2 : ¬ 97 ≤ c := by omega
      clear h0 a0
      go_enter Tryz.func104, Tryz.ntmps104
      go_wp2_with fail
      exact hR.out
  · rw [if_neg h1] at hR
    by_cases h2 : c = 34
    · rw [if_pos h2] at hR
      subst h2
      clear h0 h1 a0
      go_enter Tryz.func104, Tryz.ntmps104
      go_wp2_with fail
      exact hR.out
    · rw [if_neg h2] at hR
      have q0 : ((c : Int) == 45) = false := by simp; omega
      have q3 : ((c : Int) == 34) = false := by simp; omega
      by_cases b0 : 48 ≤ c
      · have b1 : ¬ c ≤ 57 := by omega
        rcases a0 with a0 | a0
        · have q2 : ¬ 97 ≤ c := by omega
          clear h0 h1 h2
          go_enter Tryz.func104, Tryz.ntmps104
          go_wp2_with fail
          exact hR.out
        · have q2 : 97 ≤ c := by omega
          have q4 : ¬ c ≤ 122 := by omega
          clear h0 h1 h2
          go_enter Tryz.func104, Tryz.ntmps104
          go_wp2_with fail
          exact hR.out
      · have q2 : ¬ 97 ≤ c := by omega
        clear h0 h1 h2 a0
        go_enter Tryz.func104, Tryz.ntmps104
        go_wp2_with fail
        exact hR.out

theorem ib_iff (A : ByteArray) (c : Nat) (hc : c < 256) : 0 ≤ indexByte A.data.toList (c : Int).toNat.toUInt8 ↔ ∃ j, j < A.size ∧ byN A j = c := by
  have e : ((c : Int).toNat.toUInt8).toNat = c := by
    rw [Int.toNat_natCast]
    simp [Nat.toUInt8]
    omega
  generalize (c : Int).toNat.toUInt8 = u at *
  subst e
  have hge := indexByte_ge A.data.toList u
  constructor
  · intro h
    obtain ⟨o, ho⟩ : ∃ o : Nat, indexByte A.data.toList u = o := ⟨(indexByte A.data.toList u).toNat, by omega⟩
    obtain ⟨h1, h2⟩ := indexByte_some ho
    have hlt : o < A.size := by
      have := (List.getElem?_eq_some_iff.1 h1).1
      simpa using this
    exact ⟨o, hlt, (Cut.mem_byN hlt u).1 h1⟩
  · rintro ⟨j, hj, e⟩
    by_cases h : indexByte A.data.toList u = -1
    · exact absurd ((Cut.mem_byN hj u).2 e) (indexByte_none h j)
    · omega
theorem ixb_calls (c : Nat) (hc : c < 256) (w : World) (R : Ending → World → Prop)
    (hR : Hid (∀ z : Int, decide (0 ≤ z) = markL.contains c → R (.returned (.int .i64 z)) w)) : Calls Tryz.prog 149 #[.string ⟨#[123, 125, 91, 93, 40, 41, 44, 58, 61, 60, 62, 64, 43, 35, 126, 42]⟩, .int .u8 c] w R := by
  have := Any.strings_IndexByte (ρ := YthelhplcijhioaaGreat.ixbL_ren) YthelhplcijhioaaGreat.ixbL allM (c : Int) w
  have h2 := ib_iff allM c hc
  refine Calls.mono this ?_
  rintro e w' ⟨rfl, rfl⟩
  refine hR.out _ ?_
  rw [Bool.eq_iff_iff, decide_eq_true_iff, h2, markL_mem]
  constructor
  · rintro ⟨j, hj, e⟩
    exact ⟨j, hj, (allM_at j hj).symm.trans e⟩
  · rintro ⟨j, hj, e⟩
    exact ⟨j, hj, (allM_at j hj).trans e⟩

theorem head2_eq {x : ByteArray} (h : 2 ≤ x.size) : ((x.extract 0 2).toList == (⟨#[46, 46]⟩ : ByteArray).toList) = decide (byN x 0 = 46 ∧ byN x 1 = 46) := by
  rw [bl_inj]
  have e : bl (x.extract 0 2) = [(byN x 0 : Int), (byN x 1 : Int)] := by
    rw [bl_extract, List.drop_take, bl_drop (by omega : 0 < x.size), bl_drop (by omega : 0 + 1 < x.size)]
    rfl
  have : bl ⟨#[46, 46]⟩ = [46, 46] := rfl
  rw [e, this, Bool.eq_iff_iff, decide_eq_true_iff, decide_eq_true_iff]
  simp only [List.cons.injEq, and_true]
  omega
theorem haspre2_calls (x : ByteArray) (w : World) (hs : x.size ≤ maxLen) (R : Ending → World → Prop) (hR : Hid (R (.returned (.bool (decide (2 ≤ x.size ∧ byN x 0 = 46 ∧ byN x 1 = 46)))) w)) :
    Calls Tryz.prog 146 #[.string x, .string ⟨#[46, 46]⟩] w R := by
  replace hs : x.size ≤ 9223372036854775807 := hs
  have hh := fun h : 2 ≤ x.size => head2_eq h
  obtain ⟨b, hb⟩ : ∃ b : ByteArray, b = ⟨#[46, 46]⟩ := ⟨_, rfl⟩
  have hbz : b.size = 2 := by subst hb; rfl
  rw [← hb] at hh ⊢
  clear hb
  by_cases h1 : 2 ≤ x.size
  · have h2 := hh h1
    clear hh
    simp only [h1, true_and] at hR
    have h5 : (2 : Int) ≤ (x.size : Int) := by omega
    generalize decide (byN x 0 = 46 ∧ byN x 1 = 46) = d at *
    cases d
    · go_enter Tryz.func146, Tryz.ntmps146
      go_wp2_with fail
      exact hR.out
    · go_enter Tryz.func146, Tryz.ntmps146
      go_wp2_with fail
      exact hR.out
  · clear hh
    rw [decide_eq_false (fun h => h1 h.1)] at hR
    have h0 : x.size < 2 := by omega
    go_enter Tryz.func146, Tryz.ntmps146
    go_wp2_with fail
    exact hR.out
theorem hasprefix2_calls (x : ByteArray) (w : World) (hs : x.size ≤ maxLen) (R : Ending → World → Prop) (hR : Hid (R (.returned (.bool (decide (2 ≤ x.size ∧ byN x 0 = 46 ∧ byN x 1 = 46)))) w)) :
    Calls Tryz.prog 127 #[.string x, .string ⟨#[46, 46]⟩] w R := by
  have cH := fun (W : World) R hR => haspre2_calls x W hs R hR
  generalize decide (2 ≤ x.size ∧ byN x 0 = 46 ∧ byN x 1 = 46) = d at *
  replace cH := Lib.hid cH
  obtain ⟨b, hb⟩ : ∃ b : ByteArray, b = ⟨#[46, 46]⟩ := ⟨_, rfl⟩
  rw [← hb] at cH ⊢
  clear hb
  go_enter Tryz.func127, Tryz.ntmps127
  go_wp2_with fail
  refine cH.out _ _ (Lib.hid ?_)
  go_wp2_with fail
  exact hR.out

set_option maxRecDepth 100000 in
set_option maxHeartbeats 1000000 in
theorem mark_calls (s : ByteArray) (i : Int) (hs : s.size ≤ maxLen) (hi : -9223372036854775808 ≤ i ∧ i ≤ 9223372036854775807) (w : World) (R : Ending → World → Prop)
    (hR : Hid (∀ w', Below w.heap.size w w' → R (.returned (.string (markS s i))) w')) : Calls Tryz.prog 133 #[.string s, .int .i64 i] w R := by
  have hsM := hs
  replace hs : s.size ≤ 9223372036854775807 := hs
  have fin := hR.out w (Below.refl _ _)
  clear hR
  by_cases h0 : i < 0
  · rw [mark_out (.inl h0)] at fin
    replace fin := Lib.hid fin
    go_enter Tryz.func133, Tryz.ntmps133
    go_wp2_with fail
    exact fin.out
  by_cases h1 : (s.size : Int) ≤ i
  · rw [mark_out (.inr h1)] at fin
    replace fin := Lib.hid fin
    go_enter Tryz.func133, Tryz.ntmps133
    go_wp2_with fail
    exact fin.out
  obtain ⟨k, rfl⟩ : ∃ k : Nat, i = k := ⟨i.toNat, by omega⟩
  have hk : k < s.size := by omega
  have hg := byN_get s k hk
  have hbl := byN_lt s k
  have cI := Lib.hid fun R hR => ixb_calls (byN s k) hbl w R hR
  have xz : (s.extract k s.size).size = s.size - k := by rw [ByteArray.size_extract]; omega
  have cP := fun R hR => hasprefix2_calls (s.extract k s.size) w (by unfold maxLen; omega) R hR
  rw [markS_nat] at fin
  have key : markL.contains (byN s k) = false → (.string (s.extract k (k + markN s k)) : Value) = if decide (2 ≤ (s.extract k s.size).size ∧ byN (s.extract k s.size) 0 = 46 ∧ byN (s.extract k s.size) 1 = 46) = true then .string ⟨#[46, 46]⟩ else .string ⟨#[]⟩ := fun h => by
    by_cases h2 : byN s k = 46
    · by_cases h3 : k + 1 < s.size ∧ byN s (k + 1) = 46
      · obtain ⟨e1, e2⟩ := mark_dots h2 h3.1 h3.2
        rw [e1, e2, if_pos]
        rw [byN_ext s k s.size 0 (by omega) (Nat.le_refl _), byN_ext s k s.size 1 (by omega) (Nat.le_refl _)]
        exact decide_eq_true ⟨by omega, h2, h3.2⟩
      · rw [mark_dot h2 h3, ext_nil, if_neg]
        intro q
        obtain ⟨a, b, c⟩ := of_decide_eq_true q
        rw [byN_ext s k s.size 1 (by omega) (Nat.le_refl _)] at c
        exact h3 ⟨by omega, c⟩
    · rw [mark_one hk h2, h, if_neg (by simp), ext_nil, if_neg]
      intro q
      obtain ⟨a, b, c⟩ := of_decide_eq_true q
      rw [byN_ext s k s.size 0 (by omega) (Nat.le_refl _)] at b
      exact h2 b
  have key2 : markL.contains (byN s k) = true → markN s k = 1 := fun h => by
    rw [mark_one hk (fun e => by rw [e] at h; revert h; decide), h, if_pos rfl]
  by_cases hm : markL.contains (byN s k) = true
  · rw [key2 hm] at fin
    rw [hm] at cI
    clear key key2 hm cP xz
    generalize byN s k = c at *
    replace fin := Lib.hid fin
    go_enter Tryz.func133, Tryz.ntmps133
    go_wp2_with fail
    refine cI.out _ (Lib.hid fun z hz => ?_)
    have hz' : 0 ≤ z := of_decide_eq_true hz
    clear hz
    go_wp2_with fail
    exact fin.out
  · have hm' : markL.contains (byN s k) = false := by simpa using hm
    rw [key hm'] at fin
    rw [hm'] at cI
    clear key key2 hm hm'
    generalize byN s k = c at *
    generalize decide (2 ≤ (s.extract k s.size).size ∧ byN (s.extract k s.size) 0 = 46 ∧ byN (s.extract k s.size) 1 = 46) = d at *
    replace cP := Lib.hid cP
    cases d
    · replace fin := Lib.hid fin
      go_enter Tryz.func133, Tryz.ntmps133
      go_wp2_with fail
      refine cI.out _ (Lib.hid fun z hz => ?_)
      have hz' : ¬ 0 ≤ z := of_decide_eq_false hz
      clear hz
      go_wp2_with fail
      refine cP.out _ (Lib.hid ?_)
      go_wp2_with fail
      exact fin.out
    · replace fin := Lib.hid fin
      go_enter Tryz.func133, Tryz.ntmps133
      go_wp2_with fail
      refine cI.out _ (Lib.hid fun z hz => ?_)
      have hz' : ¬ 0 ≤ z := of_decide_eq_false hz
      clear hz
      go_wp2_with fail
      refine cP.out _ (Lib.hid ?_)
      go_wp2_with fail
      exact fin.out
end Go.Proofs.YthelhplcijhioaaGreat.Tok
