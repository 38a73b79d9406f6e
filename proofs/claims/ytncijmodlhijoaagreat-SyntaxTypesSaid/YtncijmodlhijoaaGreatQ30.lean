import Derived.Test.YtncijmodlhijoaaGreatQ4
import Derived.Test.YtncijmodlhijoaaGreatQ0
import Derived.Test.YtncijmodlhijoaaGreatProg
import Derived.Shelf.Strings.BuilderK
import Derived.Lib.FrozenHead2
import Derived.Lib.OthersKept
import Derived.Deep.WholeRow
set_option linter.unusedVariables false
set_option maxRecDepth 100000
set_option maxHeartbeats 4000000
namespace Go.Proofs.YtncijmodlhijoaaGreat.Dig
open Go.RowKit Go.Lib Utf
def addS (a b : Int) : Int × Bool := if -9223372036854775808 ≤ a + b ∧ a + b ≤ 9223372036854775807 then (a + b, true) else (0, false)
def floS (n u : Int) : Int × Bool := if u < 1 then (0, false) else addS n (-(n % u))
theorem behind_calls (s : ByteArray) (k : Nat) (hk : k ≤ s.size) (w : World) (hs : s.size ≤ 1000000000000000) (R : Ending → World → Prop)
  (hR : Hid (∀ w', Below w.heap.size w w' → R (.returned (.int .i64 (k + (dgs s k).length : Nat))) w')) : Calls Tryz.prog 317 #[.string s, .int .i64 k] w R := by
 obtain ⟨V, hV⟩ : ∃ V, k + (dgs s k).length = V := ⟨_, rfl⟩
 rw [hV] at hR
 go_enter Tryz.func317, Tryz.ntmps317
 go_wp2_with fail
 go_loopg [1] (s.size - k) (fun g a wr => ∃ j : Nat, Below w.heap.size w wr ∧ a = .int .i64 j ∧ j ≤ s.size ∧ g = s.size - j ∧ Hid (j + (dgs s j).length = V))
 case atStart => exact ⟨k, Below.refl _ _, rfl, hk, rfl, Lib.hid hV⟩
 case round =>
  obtain ⟨j, bel, rfl, c1, c2, c3⟩ := hrel
  have e := c3.out
  clear c3 hV
  by_cases hj : j < s.size
  ·have hg := byN_get s j hj
   have hbl := byN_lt s j
   by_cases h1 : 48 ≤ byN s j
   ·by_cases h2 : byN s j ≤ 57
    ·rw [dgs_step hj ⟨h1, h2⟩, List.length_cons] at e
     generalize byN s j = c at *
     go_wp2_with fail
     go_roundg (gk - 1)
     case measure => omega
     case rel => exact ⟨j + 1, bel, by go_num, by omega, by omega, Lib.hid (by omega)⟩
    ·rw [dgs_stop hj (fun h => h2 h.2), List.length_nil, Nat.add_zero] at e
     subst e
     generalize byN s j = c at *
     go_wp2_with fail
     exact hR.out _ bel
   ·rw [dgs_stop hj (fun h => h1 h.1), List.length_nil, Nat.add_zero] at e
    subst e
    generalize byN s j = c at *
    go_wp2_with fail
    exact hR.out _ bel
  ·rw [dgs_end (by omega), List.length_nil, Nat.add_zero] at e
   subst e
   go_wp2_with fail
   exact hR.out _ bel
theorem tdiv_low {A : Int} {d : Nat} (h : (d : Int) ≤ A) : (-A + (48 + (d : Int) - 48)).tdiv 10 = -((A - d) / 10) := by
 rw [show -A + (48 + (d : Int) - 48) = -(A - d) by omega, Int.neg_tdiv, Int.tdiv_eq_ediv_of_nonneg (by omega)]
def lowN (neg : Bool) : Nat := if neg then 9223372036854775808 else 9223372036854775807
def valR (l : List Int) (neg : Bool) : Int × Bool := if lowN neg < valN l then (0, false) else (if neg then -(valN l : Int) else (valN l : Int), true)
theorem valA_mono : ∀ (l : List Int) (a : Nat), a ≤ valA a l
 | [], a => Nat.le_refl _
 | x :: l, a => by have := valA_mono l (10 * a + (x - 48).toNat); rw [valA_cons]; omega
theorem value_calls (s : ByteArray) (neg : Bool) (hd : Dg (bl s)) (w : World) (hs : s.size ≤ 1000000000000000) (R : Ending → World → Prop)
  (hR : Hid (∀ w', Below w.heap.size w w' → R (.returned (.tuple #[.int .i64 (valR (bl s) neg).1, .bool (valR (bl s) neg).2])) w')) : Calls Tryz.prog 318 #[.string s, .bool neg] w R := by
 obtain ⟨M, hM⟩ : ∃ M, lowN neg = M := ⟨_, rfl⟩
 obtain ⟨V, hV⟩ : ∃ V, valA 0 (bl s) = V := ⟨_, rfl⟩
 unfold valR valN at hR
 rw [hM, hV] at hR
 have hdd := Lib.hid hd
 clear hd
 cases neg
 ·have hM1 : M = 9223372036854775807 := by rw [← hM]; rfl
  clear hM
  subst hM1
  simp only [Bool.false_eq_true, if_false] at hR
  go_enter Tryz.func318, Tryz.ntmps318
  go_wp2_with fail
  go_loopg [4, 12] s.size (fun g n a wr => ∃ (j : Nat) (x : Nat), Below w.heap.size w wr ∧ n = .int .i64 (-(x : Int)) ∧ a = .int .i64 j ∧ j + g = s.size ∧ x ≤ 9223372036854775807 ∧ Hid (valA x ((bl s).drop j) = V))
  case atStart => exact ⟨0, 0, Below.refl _ _, rfl, rfl, by omega, by omega, Lib.hid (by rw [List.drop_zero]; exact hV)⟩
  case round =>
   obtain ⟨j, x, bel, rfl, rfl, c1, c2, c3⟩ := hrel
   have e := c3.out
   clear c3 hV
   by_cases hj : j < s.size
   ·have hg := byN_get s j hj
    rw [bl_drop hj, valA_cons] at e
    have hc := hdd.out (byN s j : Int) (by rw [← List.drop_zero (l := bl s)] ; exact List.mem_of_mem_drop (i := j) (by rw [List.drop_zero, bl_drop hj]; exact List.mem_cons_self))
    obtain ⟨d, hdq⟩ : ∃ d : Nat, byN s j = 48 + d := ⟨byN s j - 48, by omega⟩
    rw [hdq] at hg hc e
    have hd9 : d ≤ 9 := by omega
    rw [show (((48 + d : Nat) : Int) - 48).toNat = d by omega] at e
    have hT := tdiv_low (A := 9223372036854775807) (d := d) (by omega)
    by_cases hb : 9223372036854775807 < 10 * x + d
    ·have := valA_mono ((bl s).drop (j + 1)) (10 * x + d)
     rw [e] at this
     rw [if_pos (by omega)] at hR
     simp only at hR
     have hL : -(x : Int) < (-9223372036854775807 + (48 + (d : Int) - 48)).tdiv 10 := by rw [hT]; omega
     clear e hdq hc hT
     go_wp2_with fail
     exact hR.out _ bel
    ·replace e := Lib.hid e
     have hL : ¬ -(x : Int) < (-9223372036854775807 + (48 + (d : Int) - 48)).tdiv 10 := by rw [hT]; omega
     clear hdq hc hT
     go_wp2_with fail
     go_roundg (gk - 1)
     case measure => omega
     case rel => exact ⟨j + 1, 10 * x + d, bel, by go_num, by go_num, by omega, by omega, e⟩
   ·rw [List.drop_eq_nil_of_le (by rw [bl_length]; omega)] at e
    replace e : x = V := e
    subst e
    rw [if_neg (by omega)] at hR
    simp only at hR
    go_wp2_with fail
    exact hR.out _ bel
 ·have hM1 : M = 9223372036854775808 := by rw [← hM]; rfl
  clear hM
  subst hM1
  simp only [if_true] at hR
  go_enter Tryz.func318, Tryz.ntmps318
  go_wp2_with fail
  go_loopg [4, 12] s.size (fun g n a wr => ∃ (j : Nat) (x : Nat), Below w.heap.size w wr ∧ n = .int .i64 (-(x : Int)) ∧ a = .int .i64 j ∧ j + g = s.size ∧ x ≤ 9223372036854775808 ∧ Hid (valA x ((bl s).drop j) = V))
  case atStart => exact ⟨0, 0, Below.refl _ _, rfl, rfl, by omega, by omega, Lib.hid (by rw [List.drop_zero]; exact hV)⟩
  case round =>
   obtain ⟨j, x, bel, rfl, rfl, c1, c2, c3⟩ := hrel
   have e := c3.out
   clear c3 hV
   by_cases hj : j < s.size
   ·have hg := byN_get s j hj
    rw [bl_drop hj, valA_cons] at e
    have hc := hdd.out (byN s j : Int) (by rw [← List.drop_zero (l := bl s)] ; exact List.mem_of_mem_drop (i := j) (by rw [List.drop_zero, bl_drop hj]; exact List.mem_cons_self))
    obtain ⟨d, hdq⟩ : ∃ d : Nat, byN s j = 48 + d := ⟨byN s j - 48, by omega⟩
    rw [hdq] at hg hc e
    have hd9 : d ≤ 9 := by omega
    rw [show (((48 + d : Nat) : Int) - 48).toNat = d by omega] at e
    have hT := tdiv_low (A := 9223372036854775808) (d := d) (by omega)
    by_cases hb : 9223372036854775808 < 10 * x + d
    ·have := valA_mono ((bl s).drop (j + 1)) (10 * x + d)
     rw [e] at this
     rw [if_pos (by omega)] at hR
     simp only at hR
     have hL : -(x : Int) < (-9223372036854775808 + (48 + (d : Int) - 48)).tdiv 10 := by rw [hT]; omega
     clear e hdq hc hT
     go_wp2_with fail
     exact hR.out _ bel
    ·replace e := Lib.hid e
     have hL : ¬ -(x : Int) < (-9223372036854775808 + (48 + (d : Int) - 48)).tdiv 10 := by rw [hT]; omega
     clear hdq hc hT
     go_wp2_with fail
     go_roundg (gk - 1)
     case measure => omega
     case rel => exact ⟨j + 1, 10 * x + d, bel, by go_num, by go_num, by omega, by omega, e⟩
   ·rw [List.drop_eq_nil_of_le (by rw [bl_length]; omega)] at e
    replace e : x = V := e
    subst e
    rw [if_neg (by omega)] at hR
    simp only at hR
    go_wp2_with fail
    exact hR.out _ bel
theorem bl_head1 {x : ByteArray} (h : 1 ≤ x.size) : bl (x.extract 0 1) = [(byN x 0 : Int)] := by
 have h0 := bl_get x 0 (by omega)
 rw [bl_extract, List.drop_zero, List.take_one, List.head?_eq_getElem?, h0]
 rfl
theorem head_eq {x : ByteArray} (h : 1 ≤ x.size) (c : UInt8) : ((x.extract 0 1).toList == (⟨#[c]⟩ : ByteArray).toList) = decide (byN x 0 = c.toNat) := by
 rw [bl_inj, bl_head1 h]
 have : bl ⟨#[c]⟩ = [(c.toNat : Int)] := rfl
 rw [this]
 simp
 omega
theorem haspre_calls (c : UInt8) (x : ByteArray) (w : World) (hs : x.size ≤ 1000000000000000) (R : Ending → World → Prop) (hR : Hid (R (.returned (.bool (decide (1 ≤ x.size ∧ byN x 0 = c.toNat)))) w)) :
  Calls Tryz.prog 348 #[.string x, .string ⟨#[c]⟩] w R := by
 have hh := fun h : 1 ≤ x.size => head_eq h c
 obtain ⟨b, hb⟩ : ∃ b : ByteArray, b = ⟨#[c]⟩ := ⟨_, rfl⟩
 have hbz : b.size = 1 := by subst hb; rfl
 rw [← hb] at hh ⊢
 clear hb
 by_cases h1 : 1 ≤ x.size
 ·have h2 := hh h1
  clear hh
  simp only [h1, true_and] at hR
  have h5 : (1 : Int) ≤ (x.size : Int) := by omega
  generalize decide (byN x 0 = c.toNat) = d at *
  cases d
  ·go_enter Tryz.func348, Tryz.ntmps348
   go_wp2_with fail
   exact hR.out
  ·go_enter Tryz.func348, Tryz.ntmps348
   go_wp2_with fail
   exact hR.out
 ·clear hh
  rw [decide_eq_false (fun h => h1 h.1)] at hR
  have h0 : x.size = 0 := by omega
  go_enter Tryz.func348, Tryz.ntmps348
  go_wp2_with fail
  exact hR.out
theorem hasprefix_calls (c : UInt8) (x : ByteArray) (w : World) (hs : x.size ≤ 1000000000000000) (R : Ending → World → Prop) (hR : Hid (R (.returned (.bool (decide (1 ≤ x.size ∧ byN x 0 = c.toNat)))) w)) :
  Calls Tryz.prog 316 #[.string x, .string ⟨#[c]⟩] w R := by
 have cH := fun (W : World) R hR => haspre_calls c x W hs R hR
 generalize decide (1 ≤ x.size ∧ byN x 0 = c.toNat) = d at *
 replace cH := Lib.hid cH
 obtain ⟨b, hb⟩ : ∃ b : ByteArray, b = ⟨#[c]⟩ := ⟨_, rfl⟩
 rw [← hb] at cH ⊢
 clear hb
 go_enter Tryz.func316, Tryz.ntmps316
 go_wp2_with fail
 refine cH.out _ _ (Lib.hid ?_)
 go_wp2_with fail
 exact hR.out
theorem isdigit_calls (c : Nat) (hc : c < 256) (w : World) (R : Ending → World → Prop) (hR : Hid (R (.returned (.bool (decide (48 ≤ c ∧ c ≤ 57)))) w)) :
  Calls Tryz.prog 285 #[.int .u8 c] w R := by
 by_cases h1 : 48 ≤ c
 ·by_cases h2 : c ≤ 57
  ·rw [decide_eq_true ⟨h1, h2⟩] at hR
   go_enter Tryz.func285, Tryz.ntmps285
   go_wp2_with fail
   exact retB hR.out (by simp; try omega)
  ·rw [decide_eq_false (fun h => h2 h.2)] at hR
   go_enter Tryz.func285, Tryz.ntmps285
   go_wp2_with fail
   exact retB hR.out (by simp; try omega)
 ·rw [decide_eq_false (fun h => h1 h.1)] at hR
  go_enter Tryz.func285, Tryz.ntmps285
  go_wp2_with fail
  exact retB hR.out (by simp; try omega)
theorem less_bl : ∀ (x y : List UInt8), Go.Op.bytesLess x y = lessL (x.map fun b => (b.toNat : Int)) (y.map fun b => (b.toNat : Int))
 | _, [] => by simp [Go.Op.bytesLess, lessL]
 | [], _ :: _ => rfl
 | a :: x, b :: y => by
  have h1 : decide (a < b) = decide ((a.toNat : Int) < b.toNat) := by rw [decide_eq_decide, UInt8.lt_iff_toNat_lt]; omega
  have h2 : (a == b) = decide ((a.toNat : Int) = b.toNat) := by
   rw [Bool.eq_iff_iff, beq_iff_eq, decide_eq_true_iff]
   exact ⟨fun h => by rw [h], fun h => UInt8.toNat_inj.1 (by omega)⟩
  simp only [Go.Op.bytesLess, List.map_cons, lessL, less_bl x y, h1, h2]
theorem gtr_bl (x y : ByteArray) : (!(Go.Op.bytesLess x.toList y.toList || (x.toList == y.toList))) = !(lessL (bl x) (bl y) || decide (bl x = bl y)) := by
 rw [less_bl, bl_inj, ba_toList, ba_toList]; rfl
theorem val_inj : ∀ {x y : List Int}, x.length = y.length → Dg x → Dg y → valN x = valN y → x = y
 | [], [], _, _, _, _ => rfl
 | [], _ :: _, h, _, _, _ => by simp at h
 | _ :: _, [], h, _, _, _ => by simp at h
 | a :: x, b :: y, h, hx, hy, e => by
  simp only [List.length_cons, Nat.add_right_cancel_iff] at h
  have hx' : Dg x := fun z hz => hx z (List.mem_cons_of_mem _ hz)
  have hy' : Dg y := fun z hz => hy z (List.mem_cons_of_mem _ hz)
  have ha := hx a List.mem_cons_self
  have hb := hy b List.mem_cons_self
  have lx := val_lt hx'
  have ly := val_lt hy'
  rw [valN_cons, valN_cons, h] at e
  rw [h] at lx
  have hab : (a - 48).toNat = (b - 48).toNat := by
   rcases Nat.lt_trichotomy (a - 48).toNat (b - 48).toNat with q | q | q
   ·have : ((a - 48).toNat + 1) * 10 ^ y.length ≤ (b - 48).toNat * 10 ^ y.length := Nat.mul_le_mul_right _ (by omega)
    rw [Nat.add_mul, Nat.one_mul] at this
    omega
   ·exact q
   ·have : ((b - 48).toNat + 1) * 10 ^ y.length ≤ (a - 48).toNat * 10 ^ y.length := Nat.mul_le_mul_right _ (by omega)
    rw [Nat.add_mul, Nat.one_mul] at this
    omega
  rw [hab] at e
  rw [val_inj h hx' hy' (by omega), show a = b by omega]
theorem great_val {x y : List Int} (hx : Dg x) (hy : Dg y) (hy19 : y.length = 19) (hyv : 10 ^ 18 ≤ valN y) (h0 : ∀ c m, x = c :: m → c = 48 → m = []) :
  (if x.length ≠ y.length then decide (y.length < x.length) else !(lessL x y || decide (x = y))) = decide (valN y < valN x) := by
 have ly := val_lt hy
 rw [hy19] at ly
 by_cases h : x.length = y.length
 ·rw [if_neg (fun e => e h), less_val x y h hx hy]
  by_cases e : x = y
  ·subst e; simp
  ·have hne : valN x ≠ valN y := fun q => e (val_inj h hx hy q)
   rw [decide_eq_false e, Bool.or_false]
   by_cases q : valN x < valN y
   ·rw [decide_eq_true q, decide_eq_false (by omega)]; rfl
   ·rw [decide_eq_false q, decide_eq_true (by omega)]; rfl
 ·rw [if_pos h]
  have lx := val_lt hx
  by_cases q : y.length < x.length
  ·rw [decide_eq_true q]
   cases x with
   | nil => simp at q
   | cons c m =>
    rw [hy19, List.length_cons] at q
    have hc : c ≠ 48 := fun e => by rw [h0 c m rfl e] at q; simp at q
    have h1 := val_ge (l := m) (hx c List.mem_cons_self) hc
    have h2 : 10 ^ 19 ≤ 10 ^ m.length := Nat.pow_le_pow_right (by decide) (by omega)
    rw [decide_eq_true (by omega)]
  ·rw [decide_eq_false q]
   have h2 : 10 ^ x.length ≤ 10 ^ 18 := Nat.pow_le_pow_right (by decide) (by omega)
   rw [decide_eq_false (by omega)]
theorem great_calls (s y : ByteArray) (w : World) (hs : s.size ≤ 1000000000000000) (hy : y.size = 19) (R : Ending → World → Prop)
  (hR : Hid (R (.returned (.bool (if (bl s).length ≠ (bl y).length then decide ((bl y).length < (bl s).length) else !(lessL (bl s) (bl y) || decide (bl s = bl y))))) w)) :
  Calls Tryz.prog 286 #[.string s, .string y] w R := by
 rw [← gtr_bl, bl_length, bl_length] at hR
 by_cases h : s.size = y.size
 ·rw [if_neg (fun e => e h)] at hR
  go_enter Tryz.func286, Tryz.ntmps286
  go_wp2_with fail
  exact retB hR.out (by simp)
 ·rw [if_pos h] at hR
  go_enter Tryz.func286, Tryz.ntmps286
  go_wp2_with fail
  exact retB hR.out (by simp; try omega)
end Go.Proofs.YtncijmodlhijoaaGreat.Dig
namespace Go.Proofs.YtncijmodlhijoaaGreat
open Go.Shelf
def stL_ren : Go.Shelf.Ren := ⟨fun | 169 => 84 | n => n, fun | 70 => 160 | 9 => 9 | 0 => 0 | 72 => 163 | 37 => 161 | 127 => 251 | 3 => 3 | 5 => 5 | n => n, fun | n => n⟩
theorem stL : Go.Proofs.Lays.n169 Tryz.prog stL_ren := {
 mixed := by kernel_rfl
 f169 := Tryz.func84.trans (congrArg some (by kernel_rfl))
 t0 := Tryz.underlying0
 a0 := Tryz.isAgg0
 z0 := Tryz.sizeOf0
 v0 := Tryz.zeroValue0
 t3 := Tryz.underlying3
 a3 := Tryz.isAgg3
 z3 := Tryz.sizeOf3
 v3 := Tryz.zeroValue3
 t9 := Tryz.underlying9
 a9 := Tryz.isAgg9
 z9 := Tryz.sizeOf9
 v9 := Tryz.zeroValue9
 t37 := Tryz.underlying161
 a37 := Tryz.isAgg161
 z37 := Tryz.sizeOf161
 v37 := Tryz.zeroValue161
 t70 := Tryz.underlying160
 a70 := Tryz.isAgg160
 z70 := Tryz.sizeOf160
 v70 := Tryz.zeroValue160
 t72 := Tryz.underlying163
 a72 := Tryz.isAgg163
 z72 := Tryz.sizeOf163
 v72 := Tryz.zeroValue163
 t127 := Tryz.underlying251
 a127 := Tryz.isAgg251
 z127 := Tryz.sizeOf251
 v127 := Tryz.zeroValue251 }
end Go.Proofs.YtncijmodlhijoaaGreat
namespace Go.Proofs.YtncijmodlhijoaaGreat.Bld
open Go.Shelf Go.RowKit Go.Lib
def Bld (B b : Nat) (x : ByteArray) (w : World) : Prop := Lib.IsBuilderF 163 5 B b (Lib.strCells x) w
theorem szB : (Tryz.prog.info? 163).map (·.size) = some 2 := by kernel_rfl
theorem liB : liesAt Tryz.prog Tryz.prog.depth 163 (2 / Tryz.prog.cellsOf 163) 0 163 1 = true := by kernel_rfl
theorem inB : (Tryz.prog.info? 5).map (fun i => (i.zero, i.size, i.bytes)) = some (some (.int .u8 0), 1, 1) := by kernel_rfl
theorem neB : 163 ≠ 5 := by decide
theorem stX : Builder.Extra Tryz.prog YtncijmodlhijoaaGreat.stL_ren where
 sizeBuilder := by kernel_rfl
 liesBuilder := by kernel_rfl
 t5 := Tryz.underlying5
 a5 := Tryz.isAgg5
 z5 := Tryz.sizeOf5
 v5 := Tryz.zeroValue5
 infoByte := by kernel_rfl
 cellsByte := by kernel_rfl
 sizeByte := by kernel_rfl
 neB5 := by decide
theorem Bld.below {B b : Nat} {x : ByteArray} {w w' : World} (h : Bld B b x w) (hb : Below w.heap.size w w') : Bld B b x w' := by
 have key : ∀ p, Lib.BuilderAtF 163 5 B b p (Lib.strCells x) w → Lib.BuilderAtF 163 5 B b p (Lib.strCells x) w' := by
  intro p hp
  have hlt := hp.lt
  obtain ⟨hB, v, hbk, hown, hne⟩ := hp
  refine ⟨hB, v, by rw [hb.block b hlt]; exact hbk, hown.kept (row := none) ⟨hb.os, hb.tape, hb.output, hb.size, fun k hk _ => hb.block k hk⟩ ?_, hne⟩
  cases hv : v.ownBlock <;> simp
 rcases h with h | h
 ·exact .inl (key _ h)
 ·exact .inr (key _ h)
theorem Bld.fresh (w : World) : Bld w.heap.size w.heap.size ByteArray.empty (w.alloc (.cells #[.pointer none, .slice none 0 0] 163)) := Lib.IsBuilderF.of (Lib.fresh_isBuilder 163 5 w)
theorem check_calls (B b : Nat) (bs : List Value) (w : World) (h : Lib.IsBuilderF 163 5 B b bs w) :
  Calls Tryz.prog 299 #[.pointer (some ⟨b, 0, none⟩)] w fun e w' => e = .returned (.tuple #[]) ∧ (Lib.BuilderAtF 163 5 B b (.pointer (some ⟨b, 0, none⟩)) bs w' ∧ Below B w w' ∧ Lib.OthersKept 5 (some b) w w') := by
 obtain ⟨j, hj, hjs⟩ := Option.map_eq_some_iff.1 szB
 rcases h with h | h
 ·have h0 := h.cell0
  have hsh := h.shape
  have hfz := h.frozen0
  have fin : Lib.BuilderAtF 163 5 B b (.pointer (some ⟨b, 0, none⟩)) bs (w.setCell ⟨b, 0, none⟩ (.pointer (some ⟨b, 0, none⟩))) ∧ Below B w (w.setCell ⟨b, 0, none⟩ (.pointer (some ⟨b, 0, none⟩))) ∧
    Lib.OthersKept 5 (some b) w (w.setCell ⟨b, 0, none⟩ (.pointer (some ⟨b, 0, none⟩))) :=
   ⟨h.used _, (Below.refl B w).setCell (p := ⟨b, 0, none⟩) h.1 _, (Lib.OthersKept.refl _ _ w).setCell ⟨b, 0, none⟩ rfl _⟩
  clear h
  replace fin := Lib.hid fin
  go_enter Tryz.func299, Tryz.ntmps299
  go_wp2
  rw [Lib.run_to_unsafe w ⟨b, 0, none⟩ Tryz.underlying160 Tryz.underlying371 hj (by rw [hjs]; decide) hsh (Nat.zero_lt_succ 1)]
  simp only [Result.andThen]
  rw [Oper.upon_value]
  go_wp2
  rw [run_callFunc_extern Tryz.func334 (by kernel_rfl) (by kernel_rfl) (by kernel_rfl) (e := Extern.AbiNoEscape.same) (by kernel_rfl)]
  rw [Lib.run_noEscape]
  simp only [Result.andThen]
  rw [Oper.upon_value]
  go_wp2
  rw [Lib.run_from_unsafe w ⟨b, 0, none⟩ Tryz.underlying371 Tryz.underlying160 hj hsh liB]
  simp only [Result.andThen]
  rw [Oper.upon_value]
  go_wp2
  go_end0
  exact ⟨rfl, fin.out⟩
 ·have h0 := h.cell0
  have fin : Lib.BuilderAtF 163 5 B b (.pointer (some ⟨b, 0, none⟩)) bs w ∧ Below B w w ∧ Lib.OthersKept 5 (some b) w w := ⟨h, Below.refl B _, Lib.OthersKept.refl _ _ _⟩
  clear h
  replace fin := Lib.hid fin
  go_enter Tryz.func299, Tryz.ntmps299
  go_wp2
  rw [Lib.run_neq_ptr_same w _ Tryz.underlying160 hj]
  go_wp2
  go_end0
  exact ⟨rfl, fin.out⟩
theorem strCells_app (x y : ByteArray) : Lib.strCells (x ++ y) = Lib.strCells x ++ Lib.strCells y := by simp [Lib.strCells]
theorem wstr_calls (B b : Nat) (x s : ByteArray) (w : World) (h : Bld B b x w) (hlen : x.size + s.size ≤ 1000000000) (hBw : B ≤ w.heap.size) (R : Ending → World → Prop)
  (hR : Hid (∀ w', Bld B b (x ++ s) w' → Below B w w' → Lib.OthersKept 5 (some b) w w' → R (.returned (.tuple #[.int .i64 s.size, .nilIface])) w')) :
  Calls Tryz.prog 258 #[.pointer (some ⟨b, 0, none⟩), .string s] w R := by
 obtain ⟨i0, hi, hz0, hz1, hz2⟩ := info_parts inB
 unfold Bld at hR h
 rw [strCells_app] at hR
 rw [← Lib.strCells_length x] at hlen
 generalize Lib.strCells x = bs at *
 go_enter Tryz.func258, Tryz.ntmps258
 go_wp2_with (go_at_call 299; refine (check_calls B b bs _ h).mono ?_)
 rintro e w1 ⟨rfl, h1, hb1, hk1⟩
 obtain ⟨hB, v, hbk, hown, hne⟩ := h1
 have c0 : w1.cell? ⟨b, 0, none⟩ = some (.pointer (some ⟨b, 0, none⟩)) := by rw [Lib.cell_of_heap hbk]; rfl
 have c1 : w1.cell? ⟨b, 1, none⟩ = some v := by rw [Lib.cell_of_heap hbk]; rfl
 go_wp2_with (at_builtin; refine Lib.wpList_append_own_stringF _ rfl _ _ 161 9 rfl B 5 i0 Tryz.underlying161 Tryz.underlying9 hi hz0 hz1 hz2 _ _ _ rfl hown s rfl ?c3 ?c4 ?c5 ?_)
 case c3 => unfold maxLen; omega
 case c4 => omega
 case c5 => have := hb1.size; omega
 intro v' w2 hown' hgrow _
 have hlt : b < w1.heap.size := by
  rcases Nat.lt_or_ge b w1.heap.size with h' | h'
  ·exact h'
  ·simp [Array.getElem?_eq_none h'] at hbk
 have hb2 : w2.heap[b]? = some (.cells #[.pointer (some ⟨b, 0, none⟩), v] 163 (0, 0)) := by
  rw [hgrow.block b hlt (fun e => hne e.symm)]
  exact hbk
 have d0 : w2.cell? ⟨b, 0, none⟩ = some (.pointer (some ⟨b, 0, none⟩)) := by rw [Lib.cell_of_heap hb2]; rfl
 have d1 : w2.cell? ⟨b, 1, none⟩ = some v := by rw [Lib.cell_of_heap hb2]; rfl
 have f1 : w2.frozen? ⟨b, 1, none⟩ = false := Lib.frozen_of_heap hb2 1
 obtain ⟨ao, n', cap, rfl⟩ : ∃ ao n' cap, v' = .slice ao n' cap := by
  rcases hown'.2 with ⟨hv, _⟩ | ⟨g, cap, cur, fz, hv, _⟩
  ·exact ⟨_, _, _, hv⟩
  ·exact ⟨_, _, _, hv⟩
 go_wp2
 refine hR.out _ (.inr ?_) ?_ ((hk1.grown hgrow (Lib.ownsRowF_kind hown)).setCell ⟨b, 1, none⟩ rfl _)
 ·exact Lib.BuilderAtF.put (T := 163) (e := 5) hB hb2 (bs' := bs ++ Lib.strCells s) (by simpa [Lib.strCells_length] using hown') neB
 ·exact (hb1.grown hgrow (by have := hb1.size; omega) (fun k hk => (hown.lt k hk).1)).setCell (p := ⟨b, 1, none⟩) hB _
theorem bstr_calls (B b : Nat) (x : ByteArray) (w : World) (h : Bld B b x w) (hBw : B ≤ w.heap.size) (R : Ending → World → Prop)
  (hR : Hid (∀ w', Bld B b x w' → Below B w w' → Lib.OthersKept 5 (some b) w w' → R (.returned (.string x)) w')) :
  Calls Tryz.prog 84 #[.pointer (some ⟨b, 0, none⟩)] w R := by
 have := Any.Builder_String_any_k (ρ := YtncijmodlhijoaaGreat.stL_ren) YtncijmodlhijoaaGreat.stL stX B b x.data.toList w h hBw
 refine this.mono ?_
 rintro e w' ⟨rfl, h1, h2, h3⟩
 exact hR.out w' h1 h2 h3
end Go.Proofs.YtncijmodlhijoaaGreat.Bld
namespace Go.Proofs.YtncijmodlhijoaaGreat.Dig
open Go.RowKit Go.Lib Utf Bld
def Arr (w : World) (g : Nat) (l : List Int) : Prop := ∃ cs : Array Value, w.heap[g]? = some (.cells cs 340 (0, 0)) ∧ cs.size = 19 ∧ cs.all (·.oneCell') = true ∧ ∀ (j : Nat) (x : Int), l[j]? = some x → cs[j]? = some (Value.int .u8 x)
def sgn (n : Int) : List Int := if n < 0 then [45] else []
def PutAt (g : Nat) (C : Array Value) (b : Nat) (X : ByteArray) (w : World) : Prop := Bld b b X w ∧ w.heap[g]? = some (.cells C 340 (0, 0))
end Go.Proofs.YtncijmodlhijoaaGreat.Dig
namespace Go.Proofs.YtncijmodlhijoaaGreat.Dig
open Go.RowKit Go.Lib Utf
def tkT (t : Int × Int × Int × Int) : Value := .tuple #[.int .i64 t.1, .int .i64 t.2.1, .agg #[.int .i64 t.2.2.1, .int .i64 t.2.2.2]]
def tkG (s : ByteArray) (a f : Nat) (neg : Bool) : Int × Int × Int × Int :=
 if dgs s f = [] then (0, 0, if f = s.size then 5 else 19, f)
 else if byN s f = 48 ∧ (1 < (dgs s f).length ∨ neg = true) then (0, 0, 19, a)
 else if lowN neg < valN (dgs s f) then (0, 0, 13, a)
 else (if neg then -(valN (dgs s f) : Int) else (valN (dgs s f) : Int), (f + (dgs s f).length : Nat), 0, 0)
theorem tkN_eq (s : ByteArray) (a : Nat) : tkN s a = tkG s a (if a < s.size ∧ byN s a = 45 then a + 1 else a) (decide (a < s.size ∧ byN s a = 45)) := by
 unfold tkN tkG lowN
 by_cases h : a < s.size ∧ byN s a = 45
 ·simp only [h, and_self, decide_true, if_true, or_true]
 ·simp only [h, decide_false, if_false, Bool.false_eq_true]
theorem take_calls (s : ByteArray) (i : Int) (hi : -9223372036854775808 ≤ i ∧ i ≤ 9223372036854775807) (w : World) (hs : s.size ≤ 1000000000000000) (R : Ending → World → Prop)
  (hR : Hid (∀ w', Below w.heap.size w w' → R (.returned (tkT (tkS s i))) w')) : Calls Tryz.prog 275 #[.string s, .int .i64 i] w R := by
 unfold tkS at hR
 by_cases hb : i < 0 ∨ (s.size : Int) < i
 ·rw [if_pos hb] at hR
  rcases hb with hb | hb
  ·go_enter Tryz.func275, Tryz.ntmps275
   go_wp2_with fail
   refine bodyPost_ret ?_ rfl (hR.out _ ((Below.refl w.heap.size w).alloc (Nat.le_refl _) _))
   simp [results, Tryz.results275, go_sem, tkT]
  ·have hb2 : ¬ i < 0 := by omega
   go_enter Tryz.func275, Tryz.ntmps275
   go_wp2_with fail
   refine bodyPost_ret ?_ rfl (hR.out _ ((Below.refl w.heap.size w).alloc (Nat.le_refl _) _))
   simp [results, Tryz.results275, go_sem, tkT]
 ·rw [if_neg hb] at hR
  obtain ⟨a, rfl⟩ : ∃ a : Nat, i = a := ⟨i.toNat, by omega⟩
  rw [Int.toNat_natCast, tkN_eq] at hR
  have ha : a ≤ s.size := by omega
  clear hb hi
  have hxz : (s.extract a s.size).size = s.size - a := by rw [ByteArray.size_extract]; omega
  have hpre : decide (1 ≤ (s.extract a s.size).size ∧ byN (s.extract a s.size) 0 = (45 : UInt8).toNat) = decide (a < s.size ∧ byN s a = 45) := by
   rw [hxz]
   by_cases h : a < s.size
   ·rw [byN_ext s a s.size 0 (by omega) (Nat.le_refl _), Nat.add_zero]
    simp only [h, true_and, show 1 ≤ s.size - a by omega]
    rfl
   ·rw [decide_eq_false (fun e => by omega), decide_eq_false (fun e => h e.1)]
  have cH := fun (W : World) R hR => hasprefix_calls 45 (s.extract a s.size) W (by omega) R hR
  rw [hpre] at cH
  obtain ⟨f, hf⟩ : ∃ f, (if a < s.size ∧ byN s a = 45 then a + 1 else a) = f := ⟨_, rfl⟩
  rw [hf] at hR
  obtain ⟨neg, hneg⟩ : ∃ neg, decide (a < s.size ∧ byN s a = 45) = neg := ⟨_, rfl⟩
  rw [hneg] at hR cH
  have hf2 : f = (if neg then a + 1 else a) := by rw [← hf, ← hneg]; by_cases h : a < s.size ∧ byN s a = 45 <;> simp [h]
  have hfs : f ≤ s.size := by
   rw [← hf]; split <;> omega
  clear hf hneg hpre
  have cB := fun (W : World) R hR => behind_calls s f hfs W hs R hR
  have hl := dgs_len hfs
  have hx2 : (s.extract f (f + (dgs s f).length)).size = (dgs s f).length := by rw [ByteArray.size_extract]; omega
  have cV := fun (W : World) R hR => value_calls (s.extract f (f + (dgs s f).length)) neg (by rw [dgs_ext hfs]; exact dgs_dg s f) W (by omega) R hR
  rw [dgs_ext hfs] at cV
  have hend : f = s.size → dgs s f = [] := fun e => dgs_end (by omega)
  have hg := fun h : f < s.size => byN_get s f h
  have hb8 := byN_lt s f
  unfold tkG at hR
  unfold valR at cV
  obtain ⟨w0, hw0⟩ : ∃ w0, w0 = w.alloc (.cells #[.int .i64 0, .int .i64 0] 35) := ⟨_, rfl⟩
  have z0 : w0.heap.size = w.heap.size + 1 := by rw [hw0]; simp
  have h0 : w0.heap[w.heap.size]? = some (.cells #[.int .i64 0, .int .i64 0] 35 (0, 0)) := by rw [hw0]; exact Array.getElem?_push_size
  have b0 : Below w.heap.size w w0 := by rw [hw0]; exact (Below.refl _ _).alloc (Nat.le_refl _) _
  have fin : ∀ W : World, Below (w.heap.size + 1) w0 W → W.cell? ⟨w.heap.size, 0, none⟩ = some (.int .i64 0) ∧ W.cell? ⟨w.heap.size, 1, none⟩ = some (.int .i64 0) ∧ W.frozen? ⟨w.heap.size, 0, none⟩ = false ∧ W.frozen? ⟨w.heap.size, 1, none⟩ = false ∧ Below w.heap.size w W := fun W hW => by
   have hh : W.heap[w.heap.size]? = some (.cells #[.int .i64 0, .int .i64 0] 35 (0, 0)) := by rw [hW.block _ (by omega)]; exact h0
   exact ⟨by rw [Lib.cell_of_heap hh]; rfl, by rw [Lib.cell_of_heap hh]; rfl, Lib.frozen_of_heap hh 0, Lib.frozen_of_heap hh 1, b0.trans (hW.mono (by omega))⟩
  replace fin := Lib.hid fin
  clear h0 b0
  generalize dgs s f = L at *
  replace cH := Lib.hid cH
  replace cB := Lib.hid cB
  by_cases hL : L = []
  ·rw [if_pos hL] at hR
   subst hL
   rw [List.length_nil, Nat.add_zero] at cB
   clear cV hx2 hend
   by_cases hfe : f = s.size
   ·rw [if_pos hfe] at hR
    replace hfe : s.size ≤ f := by omega
    cases neg
    ·simp only [Bool.false_eq_true, if_false] at hf2
     subst hf2
     go_enter Tryz.func275, Tryz.ntmps275
     go_wp2_with fail
     refine cH.out _ _ (Lib.hid ?_)
     go_wp2_with fail
     refine cB.out _ _ (Lib.hid fun w1 n1 => ?_)
     rw [← hw0, z0] at n1
     obtain ⟨c0, c1, g0, g1, n4⟩ := fin.out w1 n1
     clear fin
     go_wp2_with fail
     refine bodyPost_ret ?_ rfl (hR.out _ ((n4.setCell (p := ⟨w.heap.size, 0, none⟩) (Nat.le_refl _) _).setCell (p := ⟨w.heap.size, 1, none⟩) (Nat.le_refl _) _))
     simp [results, Tryz.results275, go_sem, tkT, c0, c1]
    ·simp only [if_true] at hf2
     subst hf2
     have hfa : ((a + 1 : Nat) : Int) = (a : Int) + 1 := by omega
     simp only [hfa] at cB hR
     go_enter Tryz.func275, Tryz.ntmps275
     go_wp2_with fail
     refine cH.out _ _ (Lib.hid ?_)
     go_wp2_with fail
     refine cB.out _ _ (Lib.hid fun w1 n1 => ?_)
     rw [← hw0, z0] at n1
     obtain ⟨c0, c1, g0, g1, n4⟩ := fin.out w1 n1
     clear fin
     go_wp2_with fail
     refine bodyPost_ret ?_ rfl (hR.out _ ((n4.setCell (p := ⟨w.heap.size, 0, none⟩) (Nat.le_refl _) _).setCell (p := ⟨w.heap.size, 1, none⟩) (Nat.le_refl _) _))
     simp [results, Tryz.results275, go_sem, tkT, c0, c1]
   ·rw [if_neg hfe] at hR
    cases neg
    ·simp only [Bool.false_eq_true, if_false] at hf2
     subst hf2
     go_enter Tryz.func275, Tryz.ntmps275
     go_wp2_with fail
     refine cH.out _ _ (Lib.hid ?_)
     go_wp2_with fail
     refine cB.out _ _ (Lib.hid fun w1 n1 => ?_)
     rw [← hw0, z0] at n1
     obtain ⟨c0, c1, g0, g1, n4⟩ := fin.out w1 n1
     clear fin
     go_wp2_with fail
     refine bodyPost_ret ?_ rfl (hR.out _ ((n4.setCell (p := ⟨w.heap.size, 0, none⟩) (Nat.le_refl _) _).setCell (p := ⟨w.heap.size, 1, none⟩) (Nat.le_refl _) _))
     simp [results, Tryz.results275, go_sem, tkT, c0, c1]
    ·simp only [if_true] at hf2
     subst hf2
     have hfa : ((a + 1 : Nat) : Int) = (a : Int) + 1 := by omega
     simp only [hfa] at cB hR
     go_enter Tryz.func275, Tryz.ntmps275
     go_wp2_with fail
     refine cH.out _ _ (Lib.hid ?_)
     go_wp2_with fail
     refine cB.out _ _ (Lib.hid fun w1 n1 => ?_)
     rw [← hw0, z0] at n1
     obtain ⟨c0, c1, g0, g1, n4⟩ := fin.out w1 n1
     clear fin
     go_wp2_with fail
     refine bodyPost_ret ?_ rfl (hR.out _ ((n4.setCell (p := ⟨w.heap.size, 0, none⟩) (Nat.le_refl _) _).setCell (p := ⟨w.heap.size, 1, none⟩) (Nat.le_refl _) _))
     simp [results, Tryz.results275, go_sem, tkT, c0, c1]
  ·rw [if_neg hL] at hR
   have hf3 : f < s.size := by
    rcases Nat.lt_or_ge f s.size with h | h
    ·exact h
    ·exact absurd (hend (by omega)) hL
   replace hg := hg hf3
   have hl1 : 1 ≤ L.length := List.length_pos_iff.2 hL
   obtain ⟨E, hE⟩ : ∃ E, f + L.length = E := ⟨_, rfl⟩
   rw [hE] at cB hx2 hl
   simp only [hE] at cV hR
   have hfE : f < E := by omega
   clear hend hL
   by_cases h48 : byN s f = 48 ∧ (1 < L.length ∨ neg = true)
   ·rw [if_pos h48] at hR
    obtain ⟨h48, hor⟩ := h48
    clear cV
    cases neg
    ·have hlen : f + 1 < E := by
      rcases hor with h | h
      ·omega
      ·cases h
     simp only [Bool.false_eq_true, if_false] at hf2
     subst hf2
     go_enter Tryz.func275, Tryz.ntmps275
     go_wp2_with fail
     refine cH.out _ _ (Lib.hid ?_)
     go_wp2_with fail
     refine cB.out _ _ (Lib.hid fun w1 n1 => ?_)
     rw [← hw0, z0] at n1
     obtain ⟨c0, c1, g0, g1, n4⟩ := fin.out w1 n1
     clear fin
     go_wp2_with fail
     refine bodyPost_ret ?_ rfl (hR.out _ ((n4.setCell (p := ⟨w.heap.size, 0, none⟩) (Nat.le_refl _) _).setCell (p := ⟨w.heap.size, 1, none⟩) (Nat.le_refl _) _))
     simp [results, Tryz.results275, go_sem, tkT, c0, c1]
    ·simp only [if_true] at hf2
     subst hf2
     have hfa : ((a + 1 : Nat) : Int) = (a : Int) + 1 := by omega
     simp only [hfa] at cB hR
     go_enter Tryz.func275, Tryz.ntmps275
     go_wp2_with fail
     refine cH.out _ _ (Lib.hid ?_)
     go_wp2_with fail
     refine cB.out _ _ (Lib.hid fun w1 n1 => ?_)
     rw [← hw0, z0] at n1
     obtain ⟨c0, c1, g0, g1, n4⟩ := fin.out w1 n1
     clear fin
     go_wp2_with fail
     refine bodyPost_ret ?_ rfl (hR.out _ ((n4.setCell (p := ⟨w.heap.size, 0, none⟩) (Nat.le_refl _) _).setCell (p := ⟨w.heap.size, 1, none⟩) (Nat.le_refl _) _))
     simp [results, Tryz.results275, go_sem, tkT, c0, c1]
   ·rw [if_neg h48] at hR
    by_cases hbig : lowN neg < valN L
    ·rw [if_pos hbig] at hR
     rw [if_pos hbig] at cV
     simp only at cV hR
     replace cV := Lib.hid cV
     clear hbig
     cases neg
     ·simp only [Bool.false_eq_true, if_false] at hf2
      subst hf2
      by_cases h0 : byN s f = 48
      ·have hlen : E ≤ f + 1 := by
        have : ¬ 1 < L.length := fun h => h48 ⟨h0, .inl h⟩
        omega
       clear h48
       go_enter Tryz.func275, Tryz.ntmps275
       go_wp2_with fail
       refine cH.out _ _ (Lib.hid ?_)
       go_wp2_with fail
       refine cB.out _ _ (Lib.hid fun w1 n1 => ?_)
       rw [← hw0, z0] at n1
       go_wp2_with fail
       refine cV.out _ _ (Lib.hid fun w2 n2 => ?_)
       replace n2 := n1.trans (n2.mono (by have := n1.size; omega))
       obtain ⟨c0, c1, g0, g1, n4⟩ := fin.out w2 n2
       clear fin
       go_wp2_with fail
       refine bodyPost_ret ?_ rfl (hR.out _ ((n4.setCell (p := ⟨w.heap.size, 0, none⟩) (Nat.le_refl _) _).setCell (p := ⟨w.heap.size, 1, none⟩) (Nat.le_refl _) _))
       simp [results, Tryz.results275, go_sem, tkT, c0, c1]
      ·clear h48
       go_enter Tryz.func275, Tryz.ntmps275
       go_wp2_with fail
       refine cH.out _ _ (Lib.hid ?_)
       go_wp2_with fail
       refine cB.out _ _ (Lib.hid fun w1 n1 => ?_)
       rw [← hw0, z0] at n1
       go_wp2_with fail
       refine cV.out _ _ (Lib.hid fun w2 n2 => ?_)
       replace n2 := n1.trans (n2.mono (by have := n1.size; omega))
       obtain ⟨c0, c1, g0, g1, n4⟩ := fin.out w2 n2
       clear fin
       go_wp2_with fail
       refine bodyPost_ret ?_ rfl (hR.out _ ((n4.setCell (p := ⟨w.heap.size, 0, none⟩) (Nat.le_refl _) _).setCell (p := ⟨w.heap.size, 1, none⟩) (Nat.le_refl _) _))
       simp [results, Tryz.results275, go_sem, tkT, c0, c1]
     ·have h0 : ¬ byN s f = 48 := fun h => h48 ⟨h, .inr rfl⟩
      clear h48
      simp only [if_true] at hf2
      subst hf2
      have hfa : ((a + 1 : Nat) : Int) = (a : Int) + 1 := by omega
      simp only [hfa] at cB hR
      go_enter Tryz.func275, Tryz.ntmps275
      go_wp2_with fail
      refine cH.out _ _ (Lib.hid ?_)
      go_wp2_with fail
      refine cB.out _ _ (Lib.hid fun w1 n1 => ?_)
      rw [← hw0, z0] at n1
      go_wp2_with fail
      refine cV.out _ _ (Lib.hid fun w2 n2 => ?_)
      replace n2 := n1.trans (n2.mono (by have := n1.size; omega))
      obtain ⟨c0, c1, g0, g1, n4⟩ := fin.out w2 n2
      clear fin
      go_wp2_with fail
      refine bodyPost_ret ?_ rfl (hR.out _ ((n4.setCell (p := ⟨w.heap.size, 0, none⟩) (Nat.le_refl _) _).setCell (p := ⟨w.heap.size, 1, none⟩) (Nat.le_refl _) _))
      simp [results, Tryz.results275, go_sem, tkT, c0, c1]
    ·rw [if_neg hbig] at hR
     rw [if_neg hbig] at cV
     simp only at cV hR
     have hv : (lowN neg : Int) ≤ 9223372036854775808 := by unfold lowN; split <;> omega
     have hvb : valN L ≤ lowN neg := by omega
     generalize valN L = V at *
     clear hbig
     replace cV := Lib.hid cV
     cases neg
     ·simp only [Bool.false_eq_true, if_false] at hf2
      subst hf2
      by_cases h0 : byN s f = 48
      ·have hlen : E ≤ f + 1 := by
        have : ¬ 1 < L.length := fun h => h48 ⟨h0, .inl h⟩
        omega
       clear h48
       go_enter Tryz.func275, Tryz.ntmps275
       go_wp2_with fail
       refine cH.out _ _ (Lib.hid ?_)
       go_wp2_with fail
       refine cB.out _ _ (Lib.hid fun w1 n1 => ?_)
       rw [← hw0, z0] at n1
       go_wp2_with fail
       refine cV.out _ _ (Lib.hid fun w2 n2 => ?_)
       replace n2 := n1.trans (n2.mono (by have := n1.size; omega))
       obtain ⟨c0, c1, g0, g1, n4⟩ := fin.out w2 n2
       clear fin
       go_wp2_with fail
       refine bodyPost_ret ?_ rfl (hR.out _ ((n4.setCell (p := ⟨w.heap.size, 0, none⟩) (Nat.le_refl _) _).setCell (p := ⟨w.heap.size, 1, none⟩) (Nat.le_refl _) _))
       simp [results, Tryz.results275, go_sem, tkT, c0, c1]
      ·clear h48
       go_enter Tryz.func275, Tryz.ntmps275
       go_wp2_with fail
       refine cH.out _ _ (Lib.hid ?_)
       go_wp2_with fail
       refine cB.out _ _ (Lib.hid fun w1 n1 => ?_)
       rw [← hw0, z0] at n1
       go_wp2_with fail
       refine cV.out _ _ (Lib.hid fun w2 n2 => ?_)
       replace n2 := n1.trans (n2.mono (by have := n1.size; omega))
       obtain ⟨c0, c1, g0, g1, n4⟩ := fin.out w2 n2
       clear fin
       go_wp2_with fail
       refine bodyPost_ret ?_ rfl (hR.out _ ((n4.setCell (p := ⟨w.heap.size, 0, none⟩) (Nat.le_refl _) _).setCell (p := ⟨w.heap.size, 1, none⟩) (Nat.le_refl _) _))
       simp [results, Tryz.results275, go_sem, tkT, c0, c1]
     ·have h0 : ¬ byN s f = 48 := fun h => h48 ⟨h, .inr rfl⟩
      clear h48
      simp only [if_true] at hf2
      subst hf2
      have hfa : ((a + 1 : Nat) : Int) = (a : Int) + 1 := by omega
      simp only [hfa] at cB hR
      go_enter Tryz.func275, Tryz.ntmps275
      go_wp2_with fail
      refine cH.out _ _ (Lib.hid ?_)
      go_wp2_with fail
      refine cB.out _ _ (Lib.hid fun w1 n1 => ?_)
      rw [← hw0, z0] at n1
      go_wp2_with fail
      refine cV.out _ _ (Lib.hid fun w2 n2 => ?_)
      replace n2 := n1.trans (n2.mono (by have := n1.size; omega))
      obtain ⟨c0, c1, g0, g1, n4⟩ := fin.out w2 n2
      clear fin
      go_wp2_with fail
      refine bodyPost_ret ?_ rfl (hR.out _ ((n4.setCell (p := ⟨w.heap.size, 0, none⟩) (Nat.le_refl _) _).setCell (p := ⟨w.heap.size, 1, none⟩) (Nat.le_refl _) _))
      simp [results, Tryz.results275, go_sem, tkT, c0, c1]
end Go.Proofs.YtncijmodlhijoaaGreat.Dig
