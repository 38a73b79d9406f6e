/- Columns of strings, plainly: units, width, cut, lines. No Go here. -/
import Derived.Test.YtikcblnemdbjnaaUtfM
import Derived.Test.YtikcblnemdbjnaaPinS
set_option linter.unusedVariables false
namespace Go.Proofs.Ytikcblnemdbjnaa.Cel
open Go.Lib Go.Proofs.Ytikcblnemdbjnaa.Utf Go.Proofs.Ytikcblnemdbjnaa.Ran

/-- A part of a string that decodes a scalar at i: so does the whole. -/
theorem decGo_part {s : ByteArray} {a b i L : Nat} (hb : b ≤ s.size) (ha : a ≤ b) : ∀ (k n : Nat) (lo hi r : Int), n ≤ b - a - i → i ≤ b - a → n + k = L →
    ((decGo (s.extract a b) i L k n lo hi r).2.2 = true → decGo s (a + i) L k n lo hi r = decGo (s.extract a b) i L k n lo hi r) ∧
    (a + i + L ≤ b → decGo (s.extract a b) i L k n lo hi r = decGo s (a + i) L k n lo hi r) ∧
    (b = s.size → decGo (s.extract a b) i L k n lo hi r = decGo s (a + i) L k n lo hi r)
  | 0, n, lo, hi, r, h1, h2, h3 => ⟨fun _ => rfl, fun _ => rfl, fun _ => rfl⟩
  | k + 1, n, lo, hi, r, h1, h2, h3 => by
    have hz : (s.extract a b).size = b - a := by rw [ByteArray.size_extract]; omega
    by_cases hn : n < b - a - i
    · have hby : byN (s.extract a b) (i + n) = byN s (a + i + n) := by rw [byN_ext s a b (i + n) (by omega) hb, Nat.add_assoc]
      have e1 : ¬ n = (s.extract a b).size - i := by omega
      have e2 : ¬ n = s.size - (a + i) := by omega
      by_cases hc : (byN s (a + i + n) : Int) < lo ∨ hi < (byN s (a + i + n) : Int)
      · have x1 : decGo (s.extract a b) i L (k + 1) n lo hi r = (0, (n : Int), false) := go_bad (.inr (by rw [hby]; exact hc))
        have x2 : decGo s (a + i) L (k + 1) n lo hi r = (0, (n : Int), false) := go_bad (.inr hc)
        rw [x1, x2]; exact ⟨fun _ => rfl, fun _ => rfl, fun _ => rfl⟩
      · have x1 : decGo (s.extract a b) i L (k + 1) n lo hi r = decGo (s.extract a b) i L k (n + 1) 128 191 (r * 64 + ((byN s (a + i + n) : Int) - 128)) := by
          rw [go_ok (by rw [hby]; rintro (h | h); exact e1 h; exact hc h), hby]
        have x2 : decGo s (a + i) L (k + 1) n lo hi r = decGo s (a + i) L k (n + 1) 128 191 (r * 64 + ((byN s (a + i + n) : Int) - 128)) := go_ok (by rintro (h | h); exact e2 h; exact hc h)
        rw [x1, x2]
        exact decGo_part hb ha k (n + 1) _ _ _ (by omega) h2 (by omega)
    · have e1 : n = (s.extract a b).size - i := by omega
      have x1 : decGo (s.extract a b) i L (k + 1) n lo hi r = (0, (n : Int), false) := go_bad (.inl e1)
      rw [x1]
      refine ⟨fun h => by simp at h, fun h => by omega, fun h => ?_⟩
      exact (go_bad (.inl (by omega))).symm
theorem decGo_len {s : ByteArray} {i L : Nat} : ∀ (k n : Nat) (lo hi r : Int), (decGo s i L k n lo hi r).2.2 = true → (decGo s i L k n lo hi r).2.1 = L
  | 0, n, lo, hi, r, h => rfl
  | k + 1, n, lo, hi, r, h => by
    by_cases hc : n = s.size - i ∨ (byN s (i + n) : Int) < lo ∨ hi < (byN s (i + n) : Int)
    · rw [go_bad hc] at h; simp at h
    · rw [go_ok hc] at h ⊢; exact decGo_len k (n + 1) _ _ _ h
theorem dec_part {s : ByteArray} {a b i : Nat} (hb : b ≤ s.size) (ha : a ≤ b) (hi : i < b - a) :
    ((decS (s.extract a b) i).2.2 = true → decS s (a + i : Nat) = decS (s.extract a b) i) ∧
    ((decS s (a + i : Nat)).2.2 = true → (a + i : Int) + (decS s (a + i : Nat)).2.1 ≤ b → decS (s.extract a b) i = decS s (a + i : Nat)) ∧
    (b = s.size → decS (s.extract a b) i = decS s (a + i : Nat)) := by
  have hz : (s.extract a b).size = b - a := by rw [ByteArray.size_extract]; omega
  have hby : byN (s.extract a b) i = byN s (a + i) := byN_ext s a b i (by omega) hb
  rcases leadL_cases (byN s (a + i)) (by omega) (by have := byN_lt s (a + i); omega) with h0 | ⟨L, lo, hi', hl, b1, b2, -⟩
  · have x1 : decS (s.extract a b) i = (0, 1, false) := by
      unfold decS; rw [if_neg (by omega)]; simp only [Int.toNat_natCast, hby]; rw [if_pos h0]
    have x2 : decS s (a + i : Nat) = (0, 1, false) := by
      unfold decS; rw [if_neg (by omega)]; simp only [Int.toNat_natCast]; rw [if_pos h0]
    rw [x1, x2]; exact ⟨fun _ => rfl, fun _ _ => rfl, fun _ => rfl⟩
  · have x1 := decS_in (s := s.extract a b) (i := i) (L := L) (lo := lo) (hi' := hi') (by omega) (by rw [hby]; exact hl) b1
    have x2 := decS_in (s := s) (i := a + i) (L := L) (lo := lo) (hi' := hi') (by omega) hl b1
    rw [x1, x2, hby]
    obtain ⟨p1, p2, p3⟩ := decGo_part (s := s) (a := a) (b := b) (i := i) (L := L) hb ha (L - 1) 1 lo hi' ((byN s (a + i) : Int) - markL L) (by omega) (by omega) (by omega)
    refine ⟨p1, fun h1 h2 => ?_, p3⟩
    rw [decGo_len _ _ _ _ _ h1] at h2
    exact p2 (by omega)

/-- The columns and the bytes of the unit at i. -/
def unitS (s : ByteArray) (i : Nat) : Int × Nat := if (decS s i).2.2 then (sizeS (decS s i).1, (decS s i).2.1.toNat) else (1, 1)
theorem unit_bd (s : ByteArray) (i : Nat) (hi : i < s.size) : 0 ≤ (unitS s i).1 ∧ (unitS s i).1 ≤ 2 ∧ 1 ≤ (unitS s i).2 ∧ (unitS s i).2 ≤ 4 ∧ i + (unitS s i).2 ≤ s.size := by
  have h := decS_spec s i hi
  have h2 := size_bd (decS s i).1
  unfold unitS
  split
  · refine ⟨h2.1, h2.2, ?_, ?_, ?_⟩ <;> simp only <;> omega
  · exact ⟨by decide, by decide, by decide, by decide, by simp only; omega⟩
theorem unit_suffix {s : ByteArray} {a i : Nat} (ha : a ≤ s.size) (hi : i < s.size - a) : unitS (s.extract a s.size) i = unitS s (a + i) := by
  unfold unitS; rw [(dec_part (Nat.le_refl _) ha hi).2.2 rfl]
/-- In a part that ends behind the unit, the unit is the same. -/
theorem unit_part {s : ByteArray} {a b i : Nat} (hb : b ≤ s.size) (ha : a ≤ b) (hi : i < b - a) (h : a + i + (unitS s (a + i)).2 ≤ b) : unitS (s.extract a b) i = unitS s (a + i) := by
  obtain ⟨p1, p2, -⟩ := dec_part (s := s) hb ha hi
  by_cases h1 : (decS s (a + i : Nat)).2.2 = true
  · have hd := decS_spec s (a + i) (by omega)
    have e : unitS s (a + i) = (sizeS (decS s (a + i : Nat)).1, (decS s (a + i : Nat)).2.1.toNat) := by unfold unitS; rw [if_pos h1]
    rw [e] at h
    have := p2 h1 (by simp only at h; omega)
    unfold unitS; rw [this]
  · have h2 : ¬ (decS (s.extract a b) i).2.2 = true := fun h => h1 (by rw [p1 h]; exact h)
    unfold unitS; rw [if_neg h1, if_neg h2]

def widGo (s : ByteArray) : Nat → Nat → Int
  | 0, _ => 0
  | k + 1, i => if i < s.size then (unitS s i).1 + widGo s k (i + (unitS s i).2) else 0
/-- The columns from i on. -/
def widF (s : ByteArray) (i : Nat) : Int := widGo s (s.size - i) i
theorem widGo_fuel (s : ByteArray) : ∀ (k i : Nat), s.size - i ≤ k → widGo s k i = widF s i
  | 0, i, h => by unfold widF; rw [show s.size - i = 0 by omega]
  | k + 1, i, h => by
    unfold widF
    by_cases hi : i < s.size
    · have hb := unit_bd s i hi
      obtain ⟨m, hm⟩ : ∃ m, s.size - i = m + 1 := ⟨s.size - i - 1, by omega⟩
      rw [hm, widGo, widGo, if_pos hi, if_pos hi, widGo_fuel s k _ (by omega), widGo_fuel s m _ (by omega)]
    · rw [show s.size - i = 0 by omega, widGo, widGo, if_neg hi]
theorem widF_end (s : ByteArray) (i : Nat) (h : s.size ≤ i) : widF s i = 0 := by unfold widF; rw [show s.size - i = 0 by omega, widGo]
theorem widF_step (s : ByteArray) (i : Nat) (h : i < s.size) : widF s i = (unitS s i).1 + widF s (i + (unitS s i).2) := by
  have hb := unit_bd s i h
  have := widGo_fuel s (s.size - i + 1) i (by omega)
  rw [← this, widGo, if_pos h, widGo_fuel s _ _ (by omega)]
theorem widF_bd (s : ByteArray) : ∀ (k i : Nat), s.size - i ≤ k → 0 ≤ widF s i ∧ widF s i ≤ 2 * ((s.size - i : Nat) : Int)
  | 0, i, h => by rw [widF_end s i (by omega)]; omega
  | k + 1, i, h => by
    by_cases hi : i < s.size
    · have hb := unit_bd s i hi
      have := widF_bd s k (i + (unitS s i).2) (by omega)
      rw [widF_step s i hi]; omega
    · rw [widF_end s i (by omega)]; omega
theorem widF_suffix {s : ByteArray} {a : Nat} (ha : a ≤ s.size) : ∀ (k i : Nat), s.size - a - i ≤ k → widF (s.extract a s.size) i = widF s (a + i)
  | k, i, h => by
    have hz : (s.extract a s.size).size = s.size - a := by rw [ByteArray.size_extract]; omega
    by_cases hi : i < s.size - a
    · cases k with
      | zero => omega
      | succ k =>
        have hb := unit_bd s (a + i) (by omega)
        rw [widF_step _ i (by omega), widF_step s (a + i) (by omega), unit_suffix ha hi, widF_suffix ha k _ (by omega), Nat.add_assoc]
    · rw [widF_end _ i (by omega), widF_end s _ (by omega)]
def widS (s : ByteArray) : Int := widF s 0
theorem widS_suffix {s : ByteArray} {a : Nat} (ha : a ≤ s.size) : widS (s.extract a s.size) = widF s a := widF_suffix ha _ 0 (Nat.le_refl _)

def cutGo (s : ByteArray) : Nat → Nat → Int → Nat
  | 0, _, _ => 0
  | k + 1, i, most => if i < s.size ∧ 0 ≤ most then (if most < (unitS s i).1 then 0 else (unitS s i).2 + cutGo s k (i + (unitS s i).2) (most - (unitS s i).1)) else 0
/-- How many bytes have the first units, from i on, that take at most so many columns. -/
def cutF (s : ByteArray) (i : Nat) (most : Int) : Nat := cutGo s (s.size - i) i most
theorem cutGo_fuel (s : ByteArray) : ∀ (k i : Nat) (most : Int), s.size - i ≤ k → cutGo s k i most = cutF s i most
  | 0, i, most, h => by unfold cutF; rw [show s.size - i = 0 by omega]
  | k + 1, i, most, h => by
    unfold cutF
    by_cases hi : i < s.size
    · have hb := unit_bd s i hi
      obtain ⟨m, hm⟩ : ∃ m, s.size - i = m + 1 := ⟨s.size - i - 1, by omega⟩
      rw [hm, cutGo, cutGo, cutGo_fuel s k _ _ (by omega), cutGo_fuel s m _ _ (by omega)]
    · rw [show s.size - i = 0 by omega, cutGo, cutGo, if_neg (fun h => hi h.1)]
theorem cutF_none (s : ByteArray) (i : Nat) (most : Int) (h : s.size ≤ i ∨ most < 0) : cutF s i most = 0 := by
  rw [← cutGo_fuel s (s.size - i + 1) i most (by omega), cutGo, if_neg (by omega)]
theorem cutF_step (s : ByteArray) (i : Nat) (most : Int) (h : i < s.size) (h0 : 0 ≤ most) :
    cutF s i most = if most < (unitS s i).1 then 0 else (unitS s i).2 + cutF s (i + (unitS s i).2) (most - (unitS s i).1) := by
  have hb := unit_bd s i h
  rw [← cutGo_fuel s (s.size - i + 1) i most (by omega), cutGo, if_pos ⟨h, h0⟩, cutGo_fuel s _ _ _ (by omega)]
theorem cutF_suffix {s : ByteArray} {a : Nat} (ha : a ≤ s.size) : ∀ (k i : Nat) (most : Int), s.size - a - i ≤ k → cutF (s.extract a s.size) i most = cutF s (a + i) most
  | k, i, most, h => by
    have hz : (s.extract a s.size).size = s.size - a := by rw [ByteArray.size_extract]; omega
    by_cases hi : i < s.size - a ∧ 0 ≤ most
    · cases k with
      | zero => omega
      | succ k =>
        have hb := unit_bd s (a + i) (by omega)
        rw [cutF_step _ i most (by omega) hi.2, cutF_step s (a + i) most (by omega) hi.2, unit_suffix ha hi.1, cutF_suffix ha k _ _ (by omega), Nat.add_assoc]
    · rw [cutF_none _ i most (by omega), cutF_none s _ most (by omega)]
theorem cutF_bd (s : ByteArray) : ∀ (k i : Nat) (most : Int), s.size - i ≤ k → i ≤ s.size → i + cutF s i most ≤ s.size
  | k, i, most, h, hi0 => by
    by_cases hi : i < s.size ∧ 0 ≤ most
    · cases k with
      | zero => omega
      | succ k =>
        have hb := unit_bd s i hi.1
        rw [cutF_step s i most hi.1 hi.2]
        split
        · omega
        · have := cutF_bd s k (i + (unitS s i).2) (most - (unitS s i).1) (by omega) (by omega)
          omega
    · rw [cutF_none s i most (by omega)]; omega
/-- What a cut is: the columns before it and after it; the unit behind it is too wide. -/
theorem cut_whole (s : ByteArray) : ∀ (k i : Nat) (most : Int), s.size - i ≤ k → i ≤ s.size → 0 ≤ most →
    widF s i - widF s (i + cutF s i most) ≤ most ∧ (i + cutF s i most < s.size → most - (widF s i - widF s (i + cutF s i most)) < (unitS s (i + cutF s i most)).1)
  | k, i, most, h, hi0, h0 => by
    by_cases hi : i < s.size
    · cases k with
      | zero => omega
      | succ k =>
        have hb := unit_bd s i hi
        rw [cutF_step s i most hi h0]
        by_cases hw : most < (unitS s i).1
        · rw [if_pos hw, Nat.add_zero]
          refine ⟨by omega, fun _ => by omega⟩
        · rw [if_neg hw, ← Nat.add_assoc]
          have := cut_whole s k (i + (unitS s i).2) (most - (unitS s i).1) (by omega) (by omega) (by omega)
          rw [widF_step s i hi]
          refine ⟨by omega, fun hlt => ?_⟩
          have := this.2 hlt
          omega
    · rw [cutF_none s i most (by omega), Nat.add_zero]
      exact ⟨by omega, fun hlt => absurd hlt (by omega)⟩
/-- The columns of the part before a cut. -/
theorem wid_head (s : ByteArray) (b : Nat) (hb : b ≤ s.size) : ∀ (k i : Nat) (most : Int), s.size - i ≤ k → i + cutF s i most = b → i ≤ b → widF (s.extract 0 b) i = widF s i - widF s b
  | k, i, most, h, hc, hib => by
    have hz : (s.extract 0 b).size = b := by rw [ByteArray.size_extract]; omega
    by_cases hi : i < b
    · cases k with
      | zero => omega
      | succ k =>
        by_cases h0 : 0 ≤ most
        · have hs : i < s.size := by omega
          have hbd := unit_bd s i hs
          rw [cutF_step s i most hs h0] at hc
          by_cases hw : most < (unitS s i).1
          · rw [if_pos hw] at hc; omega
          · rw [if_neg hw, ← Nat.add_assoc] at hc
            have hu : unitS (s.extract 0 b) i = unitS s i := by
              have := unit_part (s := s) (a := 0) (b := b) (i := i) hb (by omega) (by omega) (by rw [Nat.zero_add]; omega)
              rwa [Nat.zero_add] at this
            rw [widF_step _ i (by omega), widF_step s i hs, hu, wid_head s b hb k _ _ (by omega) hc (by omega)]
            omega
        · rw [cutF_none s i most (by omega)] at hc; omega
    · obtain rfl : i = b := by omega
      rw [widF_end _ i (by omega)]; omega

/-- The lines from index 'from' on, looked for from i on. -/
def linGo (s : ByteArray) : Nat → Nat → Nat → List ByteArray
  | 0, _, a => [s.extract a s.size]
  | k + 1, i, a => if i < s.size then (if byN s i = 10 then s.extract a i :: linGo s k (i + 1) (i + 1) else linGo s k (i + 1) a) else [s.extract a s.size]
def linS (s : ByteArray) : List ByteArray := linGo s s.size 0 0
def maxW (l : List ByteArray) : Int := l.foldl (fun m x => if widS x > m then widS x else m) 0
def widestS (s : ByteArray) : Int := maxW (linS s)
theorem maxW_snoc (l : List ByteArray) (x : ByteArray) : maxW (l ++ [x]) = if widS x > maxW l then widS x else maxW l := by unfold maxW; rw [List.foldl_append]; rfl
theorem linGo_len (s : ByteArray) : ∀ k i a, (linGo s k i a).length ≤ k + 1
  | 0, i, a => by simp [linGo]
  | k + 1, i, a => by
    rw [linGo]
    split
    · split
      · have := linGo_len s k (i + 1) (i + 1); simp; omega
      · have := linGo_len s k (i + 1) a; omega
    · simp
theorem linGo_size (s : ByteArray) : ∀ k i a, ∀ x ∈ linGo s k i a, x.size ≤ s.size
  | 0, i, a, x, h => by simp [linGo] at h; subst h; rw [ByteArray.size_extract]; omega
  | k + 1, i, a, x, h => by
    rw [linGo] at h
    split at h
    · split at h
      · rcases List.mem_cons.1 h with rfl | h
        · rw [ByteArray.size_extract]; omega
        · exact linGo_size s k _ _ x h
      · exact linGo_size s k _ _ x h
    · simp at h; subst h; rw [ByteArray.size_extract]; omega
end Go.Proofs.Ytikcblnemdbjnaa.Cel
