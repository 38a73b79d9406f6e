/- Add, Floor; the code's behind, value; HasPrefix of one byte. -/
import Derived.Test.YtmchgimbfdeaiaaGreatG6
import Derived.Test.YtmchgimbfdeaiaaGreatLib
set_option maxRecDepth 100000
set_option linter.unusedVariables false
namespace Go.Proofs.YtmchgimbfdeaiaaGreat.Dig
open Go.RowKit Go.Lib Go.Proofs.YtmchgimbfdeaiaaGreat.Utf

/-- What Add hands back. -/
def addS (a b : Int) : Int × Bool := if -9223372036854775808 ≤ a + b ∧ a + b ≤ 9223372036854775807 then (a + b, true) else (0, false)
/-- What Floor hands back. -/
def floS (n u : Int) : Int × Bool := if u < 1 then (0, false) else addS n (-(n % u))

theorem behind_calls (s : ByteArray) (k : Nat) (hk : k ≤ s.size) (w : World) (hs : s.size ≤ 1000000000000000) (R : Ending → World → Prop)
    (hR : Hid (∀ w', Below w.heap.size w w' → R (.returned (.int .i64 (k + (dgs s k).length : Nat))) w')) : Calls Tryz.prog 65 #[.string s, .int .i64 k] w R := by
  obtain ⟨V, hV⟩ : ∃ V, k + (dgs s k).length = V := ⟨_, rfl⟩
  rw [hV] at hR
  go_enter Tryz.func65, Tryz.ntmps65
  go_wp2_with fail
  go_loopg [1] (s.size - k) (fun g a wr => ∃ j : Nat, Below w.heap.size w wr ∧ a = .int .i64 j ∧ j ≤ s.size ∧ g = s.size - j ∧ Hid (j + (dgs s j).length = V))
  case atStart => exact ⟨k, Below.refl _ _, rfl, hk, rfl, Lib.hid hV⟩
  case round =>
    obtain ⟨j, bel, rfl, c1, c2, c3⟩ := hrel
    have e := c3.out
    clear c3 hV
    by_cases hj : j < s.size
    · have hg := byN_get s j hj
      have hbl := byN_lt s j
      by_cases h1 : 48 ≤ byN s j
      · by_cases h2 : byN s j ≤ 57
        · rw [dgs_step hj ⟨h1, h2⟩, List.length_cons] at e
          generalize byN s j = c at *
          go_wp2_with fail
          go_roundg (gk - 1)
          case measure => omega
          case rel => exact ⟨j + 1, bel, by go_num, by omega, by omega, Lib.hid (by omega)⟩
        · rw [dgs_stop hj (fun h => h2 h.2), List.length_nil, Nat.add_zero] at e
          subst e
          generalize byN s j = c at *
          go_wp2_with fail
          exact hR.out _ bel
      · rw [dgs_stop hj (fun h => h1 h.1), List.length_nil, Nat.add_zero] at e
        subst e
        generalize byN s j = c at *
        go_wp2_with fail
        exact hR.out _ bel
    · rw [dgs_end (by omega), List.length_nil, Nat.add_zero] at e
      subst e
      go_wp2_with fail
      exact hR.out _ bel

theorem tdiv_low {A : Int} {d : Nat} (h : (d : Int) ≤ A) : (-A + (48 + (d : Int) - 48)).tdiv 10 = -((A - d) / 10) := by
  rw [show -A + (48 + (d : Int) - 48) = -(A - d) by omega, Int.neg_tdiv, Int.tdiv_eq_ediv_of_nonneg (by omega)]
/-- What value hands back. -/
def lowN (neg : Bool) : Nat := if neg then 9223372036854775808 else 9223372036854775807
def valR (l : List Int) (neg : Bool) : Int × Bool := if lowN neg < valN l then (0, false) else (if neg then -(valN l : Int) else (valN l : Int), true)
theorem valA_mono : ∀ (l : List Int) (a : Nat), a ≤ valA a l
  | [], a => Nat.le_refl _
  | x :: l, a => by have := valA_mono l (10 * a + (x - 48).toNat); rw [valA_cons]; omega
set_option maxRecDepth 100000 in
theorem value_calls (s : ByteArray) (neg : Bool) (hd : Dg (bl s)) (w : World) (hs : s.size ≤ 1000000000000000) (R : Ending → World → Prop)
    (hR : Hid (∀ w', Below w.heap.size w w' → R (.returned (.tuple #[.int .i64 (valR (bl s) neg).1, .bool (valR (bl s) neg).2])) w')) : Calls Tryz.prog 66 #[.string s, .bool neg] w R := by
  obtain ⟨M, hM⟩ : ∃ M, lowN neg = M := ⟨_, rfl⟩
  obtain ⟨V, hV⟩ : ∃ V, valA 0 (bl s) = V := ⟨_, rfl⟩
  unfold valR valN at hR
  rw [hM, hV] at hR
  have hdd := Lib.hid hd
  clear hd
  cases neg
  · have hM1 : M = 9223372036854775807 := by rw [← hM]; rfl
    clear hM
    subst hM1
    simp only [Bool.false_eq_true, if_false] at hR
    go_enter Tryz.func66, Tryz.ntmps66
    go_wp2_with fail
    go_loopg [4, 12] s.size (fun g n a wr => ∃ (j : Nat) (x : Nat), Below w.heap.size w wr ∧ n = .int .i64 (-(x : Int)) ∧ a = .int .i64 j ∧ j + g = s.size ∧ x ≤ 9223372036854775807 ∧ Hid (valA x ((bl s).drop j) = V))
    case atStart => exact ⟨0, 0, Below.refl _ _, rfl, rfl, by omega, by omega, Lib.hid (by rw [List.drop_zero]; exact hV)⟩
    case round =>
      obtain ⟨j, x, bel, rfl, rfl, c1, c2, c3⟩ := hrel
      have e := c3.out
      clear c3 hV
      by_cases hj : j < s.size
      · have hg := byN_get s j hj
        rw [bl_drop hj, valA_cons] at e
        have hc := hdd.out (byN s j : Int) (by rw [← List.drop_zero (l := bl s)] ; exact List.mem_of_mem_drop (i := j) (by rw [List.drop_zero, bl_drop hj]; exact List.mem_cons_self))
        obtain ⟨d, hdq⟩ : ∃ d : Nat, byN s j = 48 + d := ⟨byN s j - 48, by omega⟩
        rw [hdq] at hg hc e
        have hd9 : d ≤ 9 := by omega
        rw [show (((48 + d : Nat) : Int) - 48).toNat = d by omega] at e
        have hT := tdiv_low (A := 9223372036854775807) (d := d) (by omega)
        by_cases hb : 9223372036854775807 < 10 * x + d
        · have := valA_mono ((bl s).drop (j + 1)) (10 * x + d)
          rw [e] at this
          rw [if_pos (by omega)] at hR
          simp only at hR
          have hL : -(x : Int) < (-9223372036854775807 + (48 + (d : Int) - 48)).tdiv 10 := by rw [hT]; omega
          clear e hdq hc hT
          go_wp2_with fail
          exact hR.out _ bel
        · replace e := Lib.hid e
          have hL : ¬ -(x : Int) < (-9223372036854775807 + (48 + (d : Int) - 48)).tdiv 10 := by rw [hT]; omega
          clear hdq hc hT
          go_wp2_with fail
          go_roundg (gk - 1)
          case measure => omega
          case rel => exact ⟨j + 1, 10 * x + d, bel, by go_num, by go_num, by omega, by omega, e⟩
      · rw [List.drop_eq_nil_of_le (by rw [bl_length]; omega)] at e
        replace e : x = V := e
        subst e
        rw [if_neg (by omega)] at hR
        simp only at hR
        go_wp2_with fail
        exact hR.out _ bel
  · have hM1 : M = 9223372036854775808 := by rw [← hM]; rfl
    clear hM
    subst hM1
    simp only [if_true] at hR
    go_enter Tryz.func66, Tryz.ntmps66
    go_wp2_with fail
    go_loopg [4, 12] s.size (fun g n a wr => ∃ (j : Nat) (x : Nat), Below w.heap.size w wr ∧ n = .int .i64 (-(x : Int)) ∧ a = .int .i64 j ∧ j + g = s.size ∧ x ≤ 9223372036854775808 ∧ Hid (valA x ((bl s).drop j) = V))
    case atStart => exact ⟨0, 0, Below.refl _ _, rfl, rfl, by omega, by omega, Lib.hid (by rw [List.drop_zero]; exact hV)⟩
    case round =>
      obtain ⟨j, x, bel, rfl, rfl, c1, c2, c3⟩ := hrel
      have e := c3.out
      clear c3 hV
      by_cases hj : j < s.size
      · have hg := byN_get s j hj
        rw [bl_drop hj, valA_cons] at e
        have hc := hdd.out (byN s j : Int) (by rw [← List.drop_zero (l := bl s)] ; exact List.mem_of_mem_drop (i := j) (by rw [List.drop_zero, bl_drop hj]; exact List.mem_cons_self))
        obtain ⟨d, hdq⟩ : ∃ d : Nat, byN s j = 48 + d := ⟨byN s j - 48, by omega⟩
        rw [hdq] at hg hc e
        have hd9 : d ≤ 9 := by omega
        rw [show (((48 + d : Nat) : Int) - 48).toNat = d by omega] at e
        have hT := tdiv_low (A := 9223372036854775808) (d := d) (by omega)
        by_cases hb : 9223372036854775808 < 10 * x + d
        · have := valA_mono ((bl s).drop (j + 1)) (10 * x + d)
          rw [e] at this
          rw [if_pos (by omega)] at hR
          simp only at hR
          have hL : -(x : Int) < (-9223372036854775808 + (48 + (d : Int) - 48)).tdiv 10 := by rw [hT]; omega
          clear e hdq hc hT
          go_wp2_with fail
          exact hR.out _ bel
        · replace e := Lib.hid e
          have hL : ¬ -(x : Int) < (-9223372036854775808 + (48 + (d : Int) - 48)).tdiv 10 := by rw [hT]; omega
          clear hdq hc hT
          go_wp2_with fail
          go_roundg (gk - 1)
          case measure => omega
          case rel => exact ⟨j + 1, 10 * x + d, bel, by go_num, by go_num, by omega, by omega, e⟩
      · rw [List.drop_eq_nil_of_le (by rw [bl_length]; omega)] at e
        replace e : x = V := e
        subst e
        rw [if_neg (by omega)] at hR
        simp only at hR
        go_wp2_with fail
        exact hR.out _ bel
/- strings.HasPrefix of one byte -/
theorem bl_head1 {x : ByteArray} (h : 1 ≤ x.size) : bl (x.extract 0 1) = [(byN x 0 : Int)] := by
  have h0 := bl_get x 0 (by omega)
  rw [bl_extract, List.drop_zero, List.take_one, List.head?_eq_getElem?, h0]
  rfl
theorem head_eq {x : ByteArray} (h : 1 ≤ x.size) (c : UInt8) : ((x.extract 0 1).toList == (⟨#[c]⟩ : ByteArray).toList) = decide (byN x 0 = c.toNat) := by
  rw [bl_inj, bl_head1 h]
  have : bl ⟨#[c]⟩ = [(c.toNat : Int)] := rfl
  rw [this]
  simp
  omega
theorem haspre_calls (c : UInt8) (x : ByteArray) (w : World) (hs : x.size ≤ 1000000000000000) (R : Ending → World → Prop) (hR : Hid (R (.returned (.bool (decide (1 ≤ x.size ∧ byN x 0 = c.toNat)))) w)) :
    Calls Tryz.prog 79 #[.string x, .string ⟨#[c]⟩] w R := by
  have hh := fun h : 1 ≤ x.size => head_eq h c
  obtain ⟨b, hb⟩ : ∃ b : ByteArray, b = ⟨#[c]⟩ := ⟨_, rfl⟩
  have hbz : b.size = 1 := by subst hb; rfl
  rw [← hb] at hh ⊢
  clear hb
  by_cases h1 : 1 ≤ x.size
  · have h2 := hh h1
    clear hh
    simp only [h1, true_and] at hR
    have h5 : (1 : Int) ≤ (x.size : Int) := by omega
    generalize decide (byN x 0 = c.toNat) = d at *
    cases d
    · go_enter Tryz.func79, Tryz.ntmps79
      go_wp2_with fail
      exact hR.out
    · go_enter Tryz.func79, Tryz.ntmps79
      go_wp2_with fail
      exact hR.out
  · clear hh
    rw [decide_eq_false (fun h => h1 h.1)] at hR
    have h0 : x.size = 0 := by omega
    go_enter Tryz.func79, Tryz.ntmps79
    go_wp2_with fail
    exact hR.out
theorem hasprefix_calls (c : UInt8) (x : ByteArray) (w : World) (hs : x.size ≤ 1000000000000000) (R : Ending → World → Prop) (hR : Hid (R (.returned (.bool (decide (1 ≤ x.size ∧ byN x 0 = c.toNat)))) w)) :
    Calls Tryz.prog 64 #[.string x, .string ⟨#[c]⟩] w R := by
  have cH := fun (W : World) R hR => haspre_calls c x W hs R hR
  generalize decide (1 ≤ x.size ∧ byN x 0 = c.toNat) = d at *
  replace cH := Lib.hid cH
  obtain ⟨b, hb⟩ : ∃ b : ByteArray, b = ⟨#[c]⟩ := ⟨_, rfl⟩
  rw [← hb] at cH ⊢
  clear hb
  go_enter Tryz.func64, Tryz.ntmps64
  go_wp2_with fail
  refine cH.out _ _ (Lib.hid ?_)
  go_wp2_with fail
  exact hR.out
end Go.Proofs.YtmchgimbfdeaiaaGreat.Dig
