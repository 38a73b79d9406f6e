/- The reference's Floor. -/
import Derived.Test.YtcnnaaemkamcbaaDigA
set_option linter.unusedVariables false
namespace Go.Proofs.Ytcnnaaemkamcbaa.Dig
open Go.RowKit Go.Lib Go.Proofs.Ytcnnaaemkamcbaa.Utf

/-- Truncated division against the multiple that is not above. -/
theorem floor_cases (n u : Int) (hu : 0 < u) : (n.tdiv u * u ≤ n ∧ n.tdiv u * u = n - n % u) ∨ (n < n.tdiv u * u ∧ (n.tdiv u - 1) * u = n - n % u ∧ n < 0) := by
  have h1 : n % u = n - n / u * u := by have := Int.mul_ediv_add_emod n u; rw [Int.mul_comm] at this; omega
  have h2 := Int.emod_nonneg n (b := u) (by omega)
  by_cases h : 0 ≤ n ∨ u ∣ n
  · have e : n.tdiv u = n / u := by
      rw [Int.tdiv_eq_ediv]; simp [h]
    rw [e]
    left
    omega
  · have e : n.tdiv u = n / u + 1 := by
      rw [Int.tdiv_eq_ediv, if_neg h, Int.sign_eq_one_of_pos hu]
    have h3 : n % u ≠ 0 := fun q => h (.inr (Int.dvd_of_emod_eq_zero q))
    have h4 := Int.emod_lt_of_pos n hu
    rw [e, show n / u + 1 - 1 = n / u by omega, Int.add_mul, Int.one_mul]
    right
    omega
theorem tdiv_abs (n u : Int) (hu : 0 < u) : (n.tdiv u).natAbs ≤ n.natAbs := by rw [Int.natAbs_tdiv]; exact Nat.div_le_self _ _
theorem tdiv_mul_abs (n u : Int) (hu : 0 < u) : (n.tdiv u * u).natAbs ≤ n.natAbs := by
  rw [Int.natAbs_mul, Int.natAbs_tdiv]; exact Nat.div_mul_le_self _ _
theorem tdiv_npos (n u : Int) (hu : 0 < u) (hn : n < 0) : n.tdiv u ≤ 0 := by
  have := Int.tdiv_nonneg (a := -n) (b := u) (by omega) (by omega)
  rw [Int.neg_tdiv] at this
  omega
theorem low_tdiv (u : Int) (hu : 0 < u) : (-9223372036854775808 : Int).tdiv u = -(9223372036854775808 / u) := by
  rw [Int.neg_tdiv, Int.tdiv_eq_ediv_of_nonneg (by decide)]
/-- The multiple is no int. -/
theorem low_iff (q u X : Int) (hu : 0 < u) (hq : q * u = X) : q < (-9223372036854775808 : Int).tdiv u ↔ X < -9223372036854775808 := by
  rw [low_tdiv u hu]
  have h1 := Int.mul_ediv_add_emod 9223372036854775808 u
  have h2 := Int.emod_nonneg 9223372036854775808 (b := u) (by omega)
  have h3 := Int.emod_lt_of_pos 9223372036854775808 hu
  generalize (9223372036854775808 : Int) / u = D at *
  generalize (9223372036854775808 : Int) % u = M at *
  constructor
  · intro h
    have : q * u ≤ (-D - 1) * u := Int.mul_le_mul_of_nonneg_right (by omega) (by omega)
    rw [hq, Int.sub_mul, Int.neg_mul, Int.one_mul, Int.mul_comm D u] at this
    omega
  · intro h
    rcases Int.lt_or_le q (-D) with h4 | h4
    · exact h4
    · have : (-D) * u ≤ q * u := Int.mul_le_mul_of_nonneg_right h4 (by omega)
      rw [hq, Int.neg_mul, Int.mul_comm D u] at this
      omega
set_option maxRecDepth 100000 in
theorem reffloor_calls (n u : Int) (w : World) (ha : -9223372036854775808 ≤ n ∧ n ≤ 9223372036854775807) (hb : -9223372036854775808 ≤ u ∧ u ≤ 9223372036854775807) (R : Ending → World → Prop)
    (hR : Hid (R (.returned (.tuple #[.int .i64 (floS n u).1, .bool (floS n u).2])) w)) : Calls Try.prog 11 #[.int .i64 n, .int .i64 u] w R := by
  unfold floS at hR
  by_cases h : u < 1
  · rw [if_pos h] at hR
    simp only at hR
    go_enter Try.func11, Try.ntmps11
    go_wp2_with fail
    exact hR.out
  · rw [if_neg h] at hR
    have hu : 0 < u := by omega
    have hu0 : ¬ u = 0 := by omega
    have hu1 : 1 ≤ u := by omega
    have m1 := Int.emod_nonneg n (b := u) (by omega)
    have m2 := Int.emod_lt_of_pos n hu
    have hc := floor_cases n u hu
    have ht := tdiv_abs n u hu
    have hm := tdiv_mul_abs n u hu
    have hp := tdiv_npos n u hu
    have hlb : -9223372036854775808 ≤ (-9223372036854775808 : Int).tdiv u ∧ (-9223372036854775808 : Int).tdiv u ≤ 0 := by
      have := tdiv_abs (-9223372036854775808) u hu
      have h2 := low_tdiv u hu
      have h3 := Int.ediv_nonneg (a := 9223372036854775808) (b := u) (by decide) (by omega)
      omega
    have hl := fun q X => low_iff q u X hu
    rw [Int.neg_tdiv] at hlb hl
    unfold addS at hR
    obtain ⟨X, hX⟩ : ∃ X, n - n % u = X := ⟨_, rfl⟩
    rw [show n + -(n % u) = X by omega] at hR
    rw [hX] at hc
    obtain ⟨T, hT⟩ : ∃ T, n.tdiv u = T := ⟨_, rfl⟩
    obtain ⟨D, hDD⟩ : ∃ D, (9223372036854775808 : Int).tdiv u = D := ⟨_, rfl⟩
    rw [hT] at hc ht hm hp
    rw [hDD] at hlb hl
    have hXn : X ≤ n := by omega
    have p0 : -9223372036854775808 ≤ T ∧ T ≤ 9223372036854775807 := by
      by_cases q : n < 0
      · have := hp q; omega
      · omega
    clear m1 m2 hX
    rcases hc with ⟨h1, h2⟩ | ⟨h1, h2, h3⟩
    · have hD : ¬ T < -D := fun q => by have := (hl T X h2).1 q; omega
      rw [if_pos (by omega)] at hR
      simp only at hR
      rw [← h2] at hR hXn
      have p1 : -9223372036854775808 ≤ T * u ∧ T * u ≤ 9223372036854775807 := by omega
      clear hl ht h2 hm hp
      go_enter Try.func11, Try.ntmps11
      go_wp2_with fail
      exact hR.out
    · replace hp := hp h3
      have p2 : (-T) * 1 ≤ (-T) * u := Int.mul_le_mul_of_nonneg_left (by omega) (by omega)
      rw [Int.neg_mul, Int.neg_mul, Int.mul_one] at p2
      have p1 : -9223372036854775808 ≤ T * u ∧ T * u ≤ 9223372036854775807 := by omega
      have p3 : -9223372036854775808 ≤ T - 1 ∧ T - 1 ≤ 9223372036854775807 := by omega
      by_cases ov : X < -9223372036854775808
      · have hD : T - 1 < -D := (hl (T - 1) X h2).2 ov
        rw [if_neg (by omega)] at hR
        simp only at hR
        clear hl hm ht h2 p2
        go_enter Try.func11, Try.ntmps11
        go_wp2_with fail
        exact hR.out
      · have hD : ¬ T - 1 < -D := fun q => ov ((hl (T - 1) X h2).1 q)
        rw [if_pos (by omega)] at hR
        simp only at hR
        rw [← h2] at hR
        have p4 : -9223372036854775808 ≤ (T - 1) * u ∧ (T - 1) * u ≤ 9223372036854775807 := by omega
        clear hl hm ht h2 p2
        go_enter Try.func11, Try.ntmps11
        go_wp2_with fail
        exact hR.out
end Go.Proofs.Ytcnnaaemkamcbaa.Dig
