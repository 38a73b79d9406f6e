/- The plain mathematics of a number at any index of a string. No Go here. -/
import Derived.Test.YtlijjbcamkhhaaaDigS
set_option maxRecDepth 100000
set_option linter.unusedVariables false
namespace Go.Proofs.Ytlijjbcamkhhaaa.Dig
open Go.Lib Go.Proofs.Ytlijjbcamkhhaaa.Utf

theorem putL_len (n : Int) : 0 < (putL n).length := by
  unfold putL
  split
  · simp
  · obtain ⟨x, l, e, -⟩ := dec_cons n.toNat
    rw [e]; simp
/-- A number is read at an index at which its text stands, whatever stands behind that is no digit. -/
theorem take_at {s : ByteArray} {i : Nat} (n : Int) (h1 : -9223372036854775808 ≤ n) (h2 : n ≤ 9223372036854775807) {r : List Int} (h : (bl s).drop i = putL n ++ r) (hr : ∀ x, r.head? = some x → ¬ (48 ≤ x ∧ x ≤ 57)) :
    tkN s i = (n, ((i + (putL n).length : Nat) : Int), 0, 0) := by
  have hz := size_drop h
  have hp := putL_len n
  unfold putL at h hz hp ⊢
  by_cases hn : n < 0
  · rw [if_pos hn] at h hz hp ⊢
    obtain ⟨x, l, e, h0⟩ := dec_cons n.natAbs
    have hv := val_dec n.natAbs
    have hb0 : byN s i = 45 := by
      have := byN_head (q := s) (i := i) (c := 45) (l := decL n.natAbs ++ r) (by rw [h]; rfl)
      omega
    have hdr : (bl s).drop (i + 1) = decL n.natAbs ++ r := by
      have := drop_next (q := s) (i := i) (p := [45]) (l := decL n.natAbs ++ r) (by rw [h]; rfl)
      exact this
    have hd : dgs s (i + 1) = decL n.natAbs := dgs_of (r := r) hdr (dec_dg _) hr
    have hb1 : (byN s (i + 1) : Int) = x := byN_head (q := s) (i := i + 1) (c := x) (l := l ++ r) (by rw [hdr, e]; rfl)
    have hs0 : i < s.size := by omega
    unfold tkN
    simp only [hs0, hb0, true_and, if_true, hd]
    rw [if_neg (by rw [e]; simp), if_neg, if_neg (by rw [hv]; omega), hv]
    · simp only [List.length_cons, Prod.mk.injEq, and_true]
      constructor
      · omega
      · omega
    · rintro ⟨a, -⟩
      have := (h0 (by omega)).1
      omega
  · rw [if_neg hn] at h hz hp ⊢
    obtain ⟨x, l, e, h0⟩ := dec_cons n.toNat
    have hv := val_dec n.toNat
    have hxd := dec_dg n.toNat x (by rw [e]; exact List.mem_cons_self)
    have hb0 : (byN s i : Int) = x := byN_head (q := s) (i := i) (c := x) (l := l ++ r) (by rw [h, e]; rfl)
    have hd : dgs s i = decL n.toNat := dgs_of (r := r) h (dec_dg _) hr
    have hneg : ¬ byN s i = 45 := by omega
    unfold tkN
    simp only [hneg, and_false, if_false, hd, or_false]
    rw [if_neg (by rw [e]; simp), if_neg, if_neg (by rw [hv]; omega), hv]
    · simp only [Prod.mk.injEq, and_true]
      omega
    · rintro ⟨a, b⟩
      rw [e, (h0 (by omega)).2] at b
      simp at b
/-- Where a number is read, its text stands. -/
theorem take_text {s : ByteArray} {i : Nat} (hi : i ≤ s.size) (h : (tkN s i).2.2.1 = 0) : ∃ r, (bl s).drop i = putL (tkN s i).1 ++ r ∧ (tkN s i).2.1 = ((i + (putL (tkN s i).1).length : Nat) : Int) ∧ -9223372036854775808 ≤ (tkN s i).1 ∧ (tkN s i).1 ≤ 9223372036854775807 ∧ i + (putL (tkN s i).1).length ≤ s.size := by
  unfold tkN at h ⊢
  simp only at h ⊢
  by_cases hneg : i < s.size ∧ byN s i = 45
  · simp only [hneg, and_self, if_true, or_true, and_true] at h ⊢
    obtain ⟨hz, h45⟩ := hneg
    have hl := dgs_len (s := s) (i := i + 1) (by omega)
    obtain ⟨r, hr⟩ := dgs_pre s (i + 1)
    have hdg := dgs_dg s (i + 1)
    generalize dgs s (i + 1) = l at *
    by_cases hnil : l = []
    · rw [if_pos hnil] at h; simp only at h; split at h <;> omega
    rw [if_neg hnil] at h ⊢
    by_cases h48 : byN s (i + 1) = 48
    · rw [if_pos h48] at h; simp at h
    rw [if_neg h48] at h ⊢
    by_cases hbig : 9223372036854775808 < valN l
    · rw [if_pos hbig] at h; simp at h
    rw [if_neg hbig] at h ⊢
    simp only
    obtain ⟨x, m, rfl⟩ : ∃ x m, l = x :: m := by cases l with | nil => exact absurd rfl hnil | cons x m => exact ⟨x, m, rfl⟩
    have hx := byN_head (l := m ++ r) hr
    have hxd := hdg x List.mem_cons_self
    have hge := val_ge (l := m) hxd (by omega)
    have hp : 1 ≤ 10 ^ m.length := Nat.one_le_pow _ _ (by decide)
    have e : putL (-(valN (x :: m) : Int)) = 45 :: x :: m := by
      unfold putL
      rw [if_pos (by omega), show (-(valN (x :: m) : Int)).natAbs = valN (x :: m) by omega, dec_val _ m (Nat.le_refl _) x hdg (fun e => by omega)]
    rw [e]
    refine ⟨r, ?_, ?_, by omega, by omega, ?_⟩
    · rw [bl_drop hz, h45, hr]; rfl
    · simp only [List.length_cons] at hl ⊢; omega
    · simp only [List.length_cons] at hl ⊢; omega
  · simp only [hneg, if_false, or_false] at h ⊢
    have hl := dgs_len (s := s) (i := i) (by omega)
    obtain ⟨r, hr⟩ := dgs_pre s i
    have hdg := dgs_dg s i
    generalize dgs s i = l at *
    by_cases hnil : l = []
    · rw [if_pos hnil] at h; simp only at h; split at h <;> omega
    rw [if_neg hnil] at h ⊢
    by_cases h48 : byN s i = 48 ∧ 1 < l.length
    · rw [if_pos h48] at h; simp at h
    rw [if_neg h48] at h ⊢
    by_cases hbig : 9223372036854775807 < valN l
    · rw [if_pos hbig] at h; simp at h
    rw [if_neg hbig] at h ⊢
    simp only
    obtain ⟨x, m, rfl⟩ : ∃ x m, l = x :: m := by cases l with | nil => exact absurd rfl hnil | cons x m => exact ⟨x, m, rfl⟩
    have hx := byN_head (l := m ++ r) hr
    have e : putL (valN (x :: m) : Int) = x :: m := by
      unfold putL
      rw [if_neg (by omega), Int.toNat_natCast, dec_val _ m (Nat.le_refl _) x hdg (fun e => ?_)]
      by_cases hm : m = []
      · exact hm
      · exact absurd ⟨by omega, by have := List.length_pos_iff.2 hm; rw [List.length_cons]; omega⟩ h48
    rw [e]
    exact ⟨r, hr, rfl, by omega, by omega, hl⟩
theorem putL_inj {a b : Int} (ha : -9223372036854775808 ≤ a) (ha2 : a ≤ 9223372036854775807) (hb : -9223372036854775808 ≤ b) (hb2 : b ≤ 9223372036854775807) (h : putL a = putL b) : a = b := by
  have h1 := take_at (s := putS a) (i := 0) (r := []) a ha ha2 (by rw [List.drop_zero, bl_put, List.append_nil]) (by simp)
  have h2 := take_at (s := putS a) (i := 0) (r := []) b hb hb2 (by rw [List.drop_zero, bl_put, List.append_nil, h]) (by simp)
  rw [h1] at h2
  exact congrArg Prod.fst h2
theorem decL_bd : ∀ (j m : Nat), m < 10 ^ (j + 1) → (decL m).length ≤ j + 1
  | 0, m, h => by rw [decL_lt (by simpa using h)]; simp
  | j + 1, m, h => by
    by_cases h10 : m < 10
    · rw [decL_lt h10]; simp
    · have := decL_bd j (m / 10) (by rw [Nat.pow_succ] at h; omega)
      rw [decL_ge h10]; simp; omega
theorem putL_bd {n : Int} (h1 : -9223372036854775808 ≤ n) (h2 : n ≤ 9223372036854775807) : (putL n).length ≤ 20 := by
  unfold putL
  split
  · have := decL_bd 18 n.natAbs (by omega)
    simp; omega
  · have := decL_bd 18 n.toNat (by omega)
    omega
end Go.Proofs.Ytlijjbcamkhhaaa.Dig
