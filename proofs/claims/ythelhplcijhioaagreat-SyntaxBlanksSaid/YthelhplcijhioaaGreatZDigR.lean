/- The reference's Put, isDigit, great, Take, Floor. -/
import Derived.Test.YthelhplcijhioaaGreatG25
import Derived.Test.YthelhplcijhioaaGreatLibB
set_option maxRecDepth 100000
set_option linter.unusedVariables false
namespace Go.Proofs.YthelhplcijhioaaGreat.Dig
open Go.RowKit Go.Lib Go.Proofs.YthelhplcijhioaaGreat.Utf

theorem isdigit_calls (c : Nat) (hc : c < 256) (w : World) (R : Ending → World → Prop) (hR : Hid (R (.returned (.bool (decide (48 ≤ c ∧ c ≤ 57)))) w)) :
    Calls Tryz.prog 116 #[.int .u8 c] w R := by
  by_cases h1 : 48 ≤ c
  · by_cases h2 : c ≤ 57
    · rw [decide_eq_true ⟨h1, h2⟩] at hR
      go_enter Tryz.func116, Tryz.ntmps116
      go_wp2_with fail
      exact retB hR.out (by simp; try omega)
    · rw [decide_eq_false (fun h => h2 h.2)] at hR
      go_enter Tryz.func116, Tryz.ntmps116
      go_wp2_with fail
      exact retB hR.out (by simp; try omega)
  · rw [decide_eq_false (fun h => h1 h.1)] at hR
    go_enter Tryz.func116, Tryz.ntmps116
    go_wp2_with fail
    exact retB hR.out (by simp; try omega)

/-- The order of strings, as the model has it. -/
theorem less_bl : ∀ (x y : List UInt8), Go.Op.bytesLess x y = lessL (x.map fun b => (b.toNat : Int)) (y.map fun b => (b.toNat : Int))
  | _, [] => by simp [Go.Op.bytesLess, lessL]
  | [], _ :: _ => rfl
  | a :: x, b :: y => by
    have h1 : decide (a < b) = decide ((a.toNat : Int) < b.toNat) := by rw [decide_eq_decide, UInt8.lt_iff_toNat_lt]; omega
    have h2 : (a == b) = decide ((a.toNat : Int) = b.toNat) := by
      rw [Bool.eq_iff_iff, beq_iff_eq, decide_eq_true_iff]
      exact ⟨fun h => by rw [h], fun h => UInt8.toNat_inj.1 (by omega)⟩
    simp only [Go.Op.bytesLess, List.map_cons, lessL, less_bl x y, h1, h2]
theorem gtr_bl (x y : ByteArray) : (!(Go.Op.bytesLess x.toList y.toList || (x.toList == y.toList))) = !(lessL (bl x) (bl y) || decide (bl x = bl y)) := by
  rw [less_bl, bl_inj, ba_toList, ba_toList]; rfl
theorem val_inj : ∀ {x y : List Int}, x.length = y.length → Dg x → Dg y → valN x = valN y → x = y
  | [], [], _, _, _, _ => rfl
  | [], _ :: _, h, _, _, _ => by simp at h
  | _ :: _, [], h, _, _, _ => by simp at h
  | a :: x, b :: y, h, hx, hy, e => by
    simp only [List.length_cons, Nat.add_right_cancel_iff] at h
    have hx' : Dg x := fun z hz => hx z (List.mem_cons_of_mem _ hz)
    have hy' : Dg y := fun z hz => hy z (List.mem_cons_of_mem _ hz)
    have ha := hx a List.mem_cons_self
    have hb := hy b List.mem_cons_self
    have lx := val_lt hx'
    have ly := val_lt hy'
    rw [valN_cons, valN_cons, h] at e
    rw [h] at lx
    have hab : (a - 48).toNat = (b - 48).toNat := by
      rcases Nat.lt_trichotomy (a - 48).toNat (b - 48).toNat with q | q | q
      · have : ((a - 48).toNat + 1) * 10 ^ y.length ≤ (b - 48).toNat * 10 ^ y.length := Nat.mul_le_mul_right _ (by omega)
        rw [Nat.add_mul, Nat.one_mul] at this
        omega
      · exact q
      · have : ((b - 48).toNat + 1) * 10 ^ y.length ≤ (a - 48).toNat * 10 ^ y.length := Nat.mul_le_mul_right _ (by omega)
        rw [Nat.add_mul, Nat.one_mul] at this
        omega
    rw [hab] at e
    rw [val_inj h hx' hy' (by omega), show a = b by omega]

/-- Digits with no 0 ahead, against as many as an int may have. -/
theorem great_val {x y : List Int} (hx : Dg x) (hy : Dg y) (hy19 : y.length = 19) (hyv : 10 ^ 18 ≤ valN y) (h0 : ∀ c m, x = c :: m → c = 48 → m = []) :
    (if x.length ≠ y.length then decide (y.length < x.length) else !(lessL x y || decide (x = y))) = decide (valN y < valN x) := by
  have ly := val_lt hy
  rw [hy19] at ly
  by_cases h : x.length = y.length
  · rw [if_neg (fun e => e h), less_val x y h hx hy]
    by_cases e : x = y
    · subst e; simp
    · have hne : valN x ≠ valN y := fun q => e (val_inj h hx hy q)
      rw [decide_eq_false e, Bool.or_false]
      by_cases q : valN x < valN y
      · rw [decide_eq_true q, decide_eq_false (by omega)]; rfl
      · rw [decide_eq_false q, decide_eq_true (by omega)]; rfl
  · rw [if_pos h]
    have lx := val_lt hx
    by_cases q : y.length < x.length
    · rw [decide_eq_true q]
      cases x with
      | nil => simp at q
      | cons c m =>
        rw [hy19, List.length_cons] at q
        have hc : c ≠ 48 := fun e => by rw [h0 c m rfl e] at q; simp at q
        have h1 := val_ge (l := m) (hx c List.mem_cons_self) hc
        have h2 : 10 ^ 19 ≤ 10 ^ m.length := Nat.pow_le_pow_right (by decide) (by omega)
        rw [decide_eq_true (by omega)]
    · rw [decide_eq_false q]
      have h2 : 10 ^ x.length ≤ 10 ^ 18 := Nat.pow_le_pow_right (by decide) (by omega)
      rw [decide_eq_false (by omega)]

set_option maxRecDepth 100000 in
theorem great_calls (s y : ByteArray) (w : World) (hs : s.size ≤ 1000000000000000) (hy : y.size = 19) (R : Ending → World → Prop)
    (hR : Hid (R (.returned (.bool (if (bl s).length ≠ (bl y).length then decide ((bl y).length < (bl s).length) else !(lessL (bl s) (bl y) || decide (bl s = bl y))))) w)) :
    Calls Tryz.prog 117 #[.string s, .string y] w R := by
  rw [← gtr_bl, bl_length, bl_length] at hR
  by_cases h : s.size = y.size
  · rw [if_neg (fun e => e h)] at hR
    go_enter Tryz.func117, Tryz.ntmps117
    go_wp2_with fail
    exact retB hR.out (by simp)
  · rw [if_pos h] at hR
    go_enter Tryz.func117, Tryz.ntmps117
    go_wp2_with fail
    exact retB hR.out (by simp; try omega)
end Go.Proofs.YthelhplcijhioaaGreat.Dig
