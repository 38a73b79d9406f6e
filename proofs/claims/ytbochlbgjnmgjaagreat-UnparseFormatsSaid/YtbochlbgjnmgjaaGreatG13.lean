import Derived.Test.YtbochlbgjnmgjaaGreatG7
import Derived.Test.YtbochlbgjnmgjaaGreatLibB
/- The reference's Put, isDigit, great, Take, Floor. -/
set_option maxRecDepth 100000
set_option linter.unusedVariables false
namespace Go.Proofs.YtbochlbgjnmgjaaGreat.Dig
open Go.RowKit Go.Lib Go.Proofs.YtbochlbgjnmgjaaGreat.Utf

theorem isdigit_calls (c : Nat) (hc : c < 256) (w : World) (R : Ending → World → Prop) (hR : Hid (R (.returned (.bool (decide (48 ≤ c ∧ c ≤ 57)))) w)) :
    Calls Tryz.prog 200 #[.int .u8 c] w R := by
  by_cases h1 : 48 ≤ c
  · by_cases h2 : c ≤ 57
    · rw [decide_eq_true ⟨h1, h2⟩] at hR
      go_enter Tryz.func200, Tryz.ntmps200
      go_wp2_with fail
      exact retB hR.out (by simp; try omega)
    · rw [decide_eq_false (fun h => h2 h.2)] at hR
      go_enter Tryz.func200, Tryz.ntmps200
      go_wp2_with fail
      exact retB hR.out (by simp; try omega)
  · rw [decide_eq_false (fun h => h1 h.1)] at hR
    go_enter Tryz.func200, Tryz.ntmps200
    go_wp2_with fail
    exact retB hR.out (by simp; try omega)

/-- The order of strings, as the model has it. -/
theorem less_bl : ∀ (x y : List UInt8), Go.Op.bytesLess x y = lessL (x.map fun b => (b.toNat : Int)) (y.map fun b => (b.toNat : Int))
  | _, [] => by simp [Go.Op.bytesLess, lessL]
  | [], _ :: _ => rfl
  | a :: x, b :: y => by
    have h1 : decide (a < b) = decide ((a.toNat : Int) < b.toNat) := by rw [decide_eq_decide, UInt8.lt_iff_toNat_lt]; omega
    have h2 : (a == b) = decide ((a.toNat : Int) = b.toNat) := by
      rw [Bool.eq_iff_iff, beq_iff_eq, decide_eq_true_iff]
      exact ⟨fun h => by rw [h], fun h => UInt8.toNat_inj.1 (by omega)⟩
    simp only [Go.Op.bytesLess, List.map_cons, lessL, less_bl x y, h1, h2]
theorem gtr_bl (x y : ByteArray) : (!(Go.Op.bytesLess x.toList y.toList || (x.toList == y.toList))) = !(lessL (bl x) (bl y) || decide (bl x = bl y)) := by
  rw [less_bl, bl_inj, ba_toList, ba_toList]; rfl
theorem val_inj : ∀ {x y : List Int}, x.length = y.length → Dg x → Dg y → valN x = valN y → x = y
  | [], [], _, _, _, _ => rfl
  | [], _ :: _, h, _, _, _ => by simp at h
  | _ :: _, [], h, _, _, _ => by simp at h
  | a :: x, b :: y, h, hx, hy, e => by
    simp only [List.length_cons, Nat.add_right_cancel_iff] at h
    have hx' : Dg x := fun z hz => hx z (List.mem_cons_of_mem _ hz)
    have hy' : Dg y := fun z hz => hy z (List.mem_cons_of_mem _ hz)
    have ha := hx a List.mem_cons_self
    have hb := hy b List.mem_cons_self
    have lx := val_lt hx'
    have ly := val_lt hy'
    rw [valN_cons, valN_cons, h] at e
    rw [h] at lx
    have hab : (a - 48).toNat = (b - 48).toNat := by
      rcases Nat.lt_trichotomy (a - 48).toNat (b - 48).toNat with q | q | q
      · have : ((a - 48).toNat + 1) * 10 ^ y.length ≤ (b - 48).toNat * 10 ^ y.length := Nat.mul_le_mul_right _ (by omega)
        rw [Nat.add_mul, Nat.one_mul] at this
        omega
      · exact q
      · have : ((b - 48).toNat + 1) * 10 ^ y.length ≤ (a - 48).toNat * 10 ^ y.length := Nat.mul_le_mul_right _ (by omega)
        rw [Nat.add_mul, Nat.one_mul] at this
        omega
    rw [hab] at e
    rw [val_inj h hx' hy' (by omega), show a = b by omega]

/-- Digits with no 0 ahead, against as many as an int may have. -/
theorem great_val {x y : List Int} (hx : Dg x) (hy : Dg y) (hy19 : y.length = 19) (hyv : 10 ^ 18 ≤ valN y) (h0 : ∀ c m, x = c :: m → c = 48 → m = []) :
    (if x.length ≠ y.length then decide (y.length < x.length) else !(lessL x y || decide (x = y))) = decide (valN y < valN x) := by
  have ly := val_lt hy
  rw [hy19] at ly
  by_cases h : x.length = y.length
  · rw [if_neg (fun e => e h), less_val x y h hx hy]
    by_cases e : x = y
    · subst e; simp
    · have hne : valN x ≠ valN y := fun q => e (val_inj h hx hy q)
      rw [decide_eq_false e, Bool.or_false]
      by_cases q : valN x < valN y
      · rw [decide_eq_true q, decide_eq_false (by omega)]; rfl
      · rw [decide_eq_false q, decide_eq_true (by omega)]; rfl
  · rw [if_pos h]
    have lx := val_lt hx
    by_cases q : y.length < x.length
    · rw [decide_eq_true q]
      cases x with
      | nil => simp at q
      | cons c m =>
        rw [hy19, List.length_cons] at q
        have hc : c ≠ 48 := fun e => by rw [h0 c m rfl e] at q; simp at q
        have h1 := val_ge (l := m) (hx c List.mem_cons_self) hc
        have h2 : 10 ^ 19 ≤ 10 ^ m.length := Nat.pow_le_pow_right (by decide) (by omega)
        rw [decide_eq_true (by omega)]
    · rw [decide_eq_false q]
      have h2 : 10 ^ x.length ≤ 10 ^ 18 := Nat.pow_le_pow_right (by decide) (by omega)
      rw [decide_eq_false (by omega)]

set_option maxRecDepth 100000 in
theorem great_calls (s y : ByteArray) (w : World) (hs : s.size ≤ 1000000000000000) (hy : y.size = 19) (R : Ending → World → Prop)
    (hR : Hid (R (.returned (.bool (if (bl s).length ≠ (bl y).length then decide ((bl y).length < (bl s).length) else !(lessL (bl s) (bl y) || decide (bl s = bl y))))) w)) :
    Calls Tryz.prog 201 #[.string s, .string y] w R := by
  rw [← gtr_bl, bl_length, bl_length] at hR
  by_cases h : s.size = y.size
  · rw [if_neg (fun e => e h)] at hR
    go_enter Tryz.func201, Tryz.ntmps201
    go_wp2_with fail
    exact retB hR.out (by simp)
  · rw [if_pos h] at hR
    go_enter Tryz.func201, Tryz.ntmps201
    go_wp2_with fail
    exact retB hR.out (by simp; try omega)
end Go.Proofs.YtbochlbgjnmgjaaGreat.Dig

/- The reference's Put, Floor. -/
set_option maxRecDepth 100000
set_option linter.unusedVariables false
namespace Go.Proofs.YtbochlbgjnmgjaaGreat.Dig
open Go.RowKit Go.Lib Go.Proofs.YtbochlbgjnmgjaaGreat.Utf

theorem strOf_app2 (a b : List Int) : strOfNums (a ++ b) = strOfNums a ++ strOfNums b := by
  apply ByteArray.ext
  apply Array.ext'
  rw [strOfNums_data, ByteArray.data_append, Array.toList_append, strOfNums_data, strOfNums_data, List.map_append]
theorem tdivA (c : Int) : (c.tdiv 10).natAbs = c.natAbs / 10 := by rw [Int.natAbs_tdiv]; rfl
theorem tmodA (c : Int) : (c.tmod 10).natAbs = c.natAbs % 10 := by rw [Int.natAbs_tmod]; rfl
theorem tdivN {c : Int} (h : c < 0) : c.tdiv 10 ≤ 0 := by
  have := Int.tdiv_nonneg (a := -c) (b := 10) (by omega) (by decide)
  rw [Int.neg_tdiv] at this
  omega
theorem tmodN {c : Int} (h : c < 0) : c.tmod 10 ≤ 0 := by
  have := Int.tmod_nonneg (a := -c) 10 (by omega)
  rw [Int.neg_tmod] at this
  omega
/-- The text of a number by parts. -/
theorem put_neg1 {n : Int} (h : n < 0) (h2 : -10 < n) : (⟨#[45]⟩ : ByteArray) ++ putS (-n) = putS n := by
  unfold putS putL
  rw [if_neg (by omega), if_pos h, show (-n).toNat = n.natAbs by omega]
  exact (strOf_app2 [45] _).symm
theorem put_neg {n : Int} (h : ¬ -10 < n) : putS (n.tdiv 10) ++ putS (-(n.tmod 10)) = putS n := by
  have h1 := tdivA n
  have h2 := tmodA n
  have h3 := tdivN (c := n) (by omega)
  have h4 := tmodN (c := n) (by omega)
  unfold putS putL
  rw [if_pos (by omega : n.tdiv 10 < 0), if_neg (by omega : ¬ -(n.tmod 10) < 0), if_pos (by omega : n < 0), h1, show (-(n.tmod 10)).toNat = n.natAbs % 10 by omega,
    decL_ge (n := n.natAbs) (by omega), decL_lt (n := n.natAbs % 10) (by omega), ← List.cons_append, strOf_app2]
theorem put_pos {n : Int} (h : ¬ n < 10) : putS (n / 10) ++ putS (n % 10) = putS n := by
  unfold putS putL
  rw [if_neg (by omega : ¬ n / 10 < 0), if_neg (by omega : ¬ n % 10 < 0), if_neg (by omega : ¬ n < 0), show (n / 10).toNat = n.toNat / 10 by omega, show (n % 10).toNat = n.toNat % 10 by omega,
    decL_ge (n := n.toNat) (by omega), decL_lt (n := n.toNat % 10) (by omega), strOf_app2]
theorem put_one {n : Int} (h : 0 ≤ n) (h2 : n < 10) : putS n = strOfNums [48 + n] := by
  unfold putS putL
  rw [if_neg (by omega), decL_lt (by omega), show (n.toNat : Int) = n by omega]
theorem put_size (n : Int) (h1 : -9223372036854775808 ≤ n) (h2 : n ≤ 9223372036854775807) : (putS n).size ≤ 1000 := by
  have key : ∀ (k m : Nat), m ≤ k → ∀ j, m < 10 ^ (j + 1) → (decL m).length ≤ j + 1 := by
    intro k
    induction k with
    | zero => intro m hm j _; rw [decL_lt (by omega)]; simp
    | succ k ih =>
      intro m hm j hj
      by_cases h : m < 10
      · rw [decL_lt h]; simp
      · cases j with
        | zero => omega
        | succ j =>
          rw [decL_ge h, List.length_append]
          have := ih (m / 10) (by omega) j (by rw [Nat.pow_succ] at hj; omega)
          simp
          omega
  unfold putS putL
  rw [strOfNums_size]
  split
  · have := key _ n.natAbs (Nat.le_refl _) 20 (by omega)
    rw [List.length_cons]; omega
  · have := key _ n.toNat (Nat.le_refl _) 20 (by omega)
    omega

theorem refput_one (n : Int) (h : 0 ≤ n) (h2 : n < 10) (w : World) (R : Ending → World → Prop)
    (hR : Hid (∀ w', Below w.heap.size w w' → R (.returned (.string (putS n))) w')) : Calls Tryz.prog 106 #[.int .i64 n] w R := by
  rw [put_one h h2] at hR
  have cv := cvB
  go_enter Tryz.func106, Tryz.ntmps106
  go_wp2_with fail
  exact retS (hR.out _ ((Below.refl _ _).alloc (Nat.le_refl _) _)) (by simp)
set_option maxRecDepth 100000 in
set_option maxHeartbeats 1000000 in
theorem refput_calls : ∀ (k : Nat) (n : Int), n.natAbs ≤ k → -9223372036854775808 ≤ n → n ≤ 9223372036854775807 → ∀ (w : World) (R : Ending → World → Prop)
    (hR : Hid (∀ w', Below w.heap.size w w' → R (.returned (.string (putS n))) w')), Calls Tryz.prog 106 #[.int .i64 n] w R := by
  intro k
  induction k with
  | zero =>
    intro n hk h1 h2 w R hR
    obtain rfl : n = 0 := by omega
    exact refput_one 0 (by omega) (by omega) w R hR
  | succ k ih =>
    intro n hk h1 h2 w R hR
    by_cases hn : n < 0
    · by_cases h10 : -10 < n
      · rw [← put_neg1 hn h10] at hR
        have c1 := fun (W : World) R hR => refput_one (-n) (by omega) (by omega) W R hR
        have hz := put_size (-n) (by omega) (by omega)
        generalize putS (-n) = p at *
        replace c1 := Lib.hid c1
        clear ih
        go_enter Tryz.func106, Tryz.ntmps106
        go_wp2_with fail
        refine c1.out _ _ (Lib.hid fun w1 n1 => ?_)
        go_wp2_with fail
        exact hR.out _ n1
      · have a1 := tdivA n
        have a2 := tmodA n
        have a3 := tdivN hn
        have a4 := tmodN hn
        rw [← put_neg h10] at hR
        have c1 := fun (W : World) R hR => ih (n.tdiv 10) (by omega) (by omega) (by omega) W R hR
        have c2 := fun (W : World) R hR => ih (-(n.tmod 10)) (by omega) (by omega) (by omega) W R hR
        have hz := put_size (n.tdiv 10) (by omega) (by omega)
        have hy := put_size (-(n.tmod 10)) (by omega) (by omega)
        generalize putS (n.tdiv 10) = p at *
        generalize putS (-(n.tmod 10)) = q at *
        replace c1 := Lib.hid c1
        replace c2 := Lib.hid c2
        clear ih a1
        go_enter Tryz.func106, Tryz.ntmps106
        go_wp2_with fail
        refine c1.out _ _ (Lib.hid fun w1 n1 => ?_)
        go_wp2_with fail
        refine c2.out _ _ (Lib.hid fun w2 n2 => ?_)
        replace n2 := n1.trans (n2.mono n1.size)
        go_wp2_with fail
        exact hR.out _ n2
    · by_cases h10 : n < 10
      · exact refput_one n (by omega) h10 w R hR
      · rw [← put_pos h10] at hR
        have c1 := fun (W : World) R hR => ih (n / 10) (by omega) (by omega) (by omega) W R hR
        have c2 := fun (W : World) R hR => ih (n % 10) (by omega) (by omega) (by omega) W R hR
        have hz := put_size (n / 10) (by omega) (by omega)
        have hy := put_size (n % 10) (by omega) (by omega)
        generalize putS (n / 10) = p at *
        generalize putS (n % 10) = q at *
        replace c1 := Lib.hid c1
        replace c2 := Lib.hid c2
        clear ih
        go_enter Tryz.func106, Tryz.ntmps106
        go_wp2_with fail
        refine c1.out _ _ (Lib.hid fun w1 n1 => ?_)
        go_wp2_with fail
        refine c2.out _ _ (Lib.hid fun w2 n2 => ?_)
        replace n2 := n1.trans (n2.mono n1.size)
        go_wp2_with fail
        exact hR.out _ n2
end Go.Proofs.YtbochlbgjnmgjaaGreat.Dig
