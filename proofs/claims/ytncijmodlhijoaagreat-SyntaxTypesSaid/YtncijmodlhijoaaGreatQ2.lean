import Derived.Test.YtncijmodlhijoaaGreatQ1
import Derived.Test.YtncijmodlhijoaaGreatQ0
import Derived.Maps.AppendAt
import Derived.OpenShut
import Derived.Lib.Bytes
set_option linter.unusedVariables false
set_option maxRecDepth 100000
set_option maxHeartbeats 4000000
set_option linter.unusedSectionVars false
namespace Go.Proofs.YtncijmodlhijoaaGreat.Utf
open Go.RowKit Go.Lib
theorem encL_range (r : Int) : ∀ x ∈ encL r, 0 ≤ x ∧ x < 256 := by
 intro x hx
 unfold encL at hx
 split at hx
 ·rename_i hs
  unfold scalarB at hs
  simp only [decide_eq_true_eq] at hs
  split at hx
  ·simp at hx; omega
  split at hx
  ·simp at hx; omega
  split at hx
  ·simp at hx; omega
  ·simp at hx; omega
 ·simp at hx
theorem bl_encS (r : Int) : bl (encS r) = encL r := bl_strOfNums _ (encL_range r)
theorem enc1 (a : Int) (h0 : 0 ≤ a) (h1 : a < 256) : (scalarB a = true ∧ encL a = [a]) ↔ a < 128 := by
 unfold encL scalarB
 constructor
 ·rintro ⟨h, e⟩
  rw [if_pos h] at e
  simp only [decide_eq_true_eq] at h
  split at e
  ·assumption
  split at e
  ·simp at e
  ·omega
 ·intro h
  have hs : 0 ≤ a ∧ a ≤ 1114111 ∧ ¬(55296 ≤ a ∧ a ≤ 57343) := by omega
  simp [hs, h]
theorem enc2 (a b : Int) (h0 : 0 ≤ a) (h1 : a < 256) (h2 : 0 ≤ b) (h3 : b < 256) :
  (scalarB ((a - 128 - 64) * 64 + (b - 128)) = true ∧ encL ((a - 128 - 64) * 64 + (b - 128)) = [a, b]) ↔ 194 ≤ a ∧ a < 224 ∧ 128 ≤ b ∧ b ≤ 191 := by
 generalize hr : (a - 128 - 64) * 64 + (b - 128) = r
 unfold encL scalarB
 constructor
 ·rintro ⟨h, e⟩
  rw [if_pos h] at e
  simp only [decide_eq_true_eq] at h
  split at e
  ·simp at e
  split at e
  ·simp at e; omega
  split at e
  ·simp at e
  ·simp at e
 ·intro h
  have hs : 0 ≤ r ∧ r ≤ 1114111 ∧ ¬(55296 ≤ r ∧ r ≤ 57343) := by omega
  rw [if_pos (decide_eq_true hs), if_neg (by omega), if_pos (by omega)]
  refine ⟨decide_eq_true hs, ?_⟩
  simp; omega
theorem enc3 (a b c : Int) (h0 : 0 ≤ a) (h1 : a < 256) (h2 : 0 ≤ b) (h3 : b < 256) (h4 : 0 ≤ c) (h5 : c < 256) :
  (scalarB ((a - 128 - 96) * 4096 + (b - 128) * 64 + (c - 128)) = true ∧ encL ((a - 128 - 96) * 4096 + (b - 128) * 64 + (c - 128)) = [a, b, c]) ↔
   224 ≤ a ∧ a < 240 ∧ 128 ≤ b ∧ b ≤ 191 ∧ (a = 224 → 160 ≤ b) ∧ (a = 237 → b ≤ 159) ∧ 128 ≤ c ∧ c ≤ 191 := by
 generalize hr : (a - 128 - 96) * 4096 + (b - 128) * 64 + (c - 128) = r
 unfold encL scalarB
 constructor
 ·rintro ⟨h, e⟩
  rw [if_pos h] at e
  simp only [decide_eq_true_eq] at h
  split at e
  ·simp at e
  split at e
  ·simp at e
  split at e
  ·simp at e; omega
  ·simp at e
 ·intro h
  have hs : 0 ≤ r ∧ r ≤ 1114111 ∧ ¬(55296 ≤ r ∧ r ≤ 57343) := by omega
  rw [if_pos (decide_eq_true hs), if_neg (by omega), if_neg (by omega), if_pos (by omega)]
  refine ⟨decide_eq_true hs, ?_⟩
  simp; omega
theorem enc4 (a b c d : Int) (h0 : 0 ≤ a) (h1 : a < 256) (h2 : 0 ≤ b) (h3 : b < 256) (h4 : 0 ≤ c) (h5 : c < 256) (h6 : 0 ≤ d) (h7 : d < 256) :
  (scalarB ((a - 128 - 112) * 262144 + (b - 128) * 4096 + (c - 128) * 64 + (d - 128)) = true ∧ encL ((a - 128 - 112) * 262144 + (b - 128) * 4096 + (c - 128) * 64 + (d - 128)) = [a, b, c, d]) ↔
   240 ≤ a ∧ a < 245 ∧ 128 ≤ b ∧ b ≤ 191 ∧ (a = 240 → 144 ≤ b) ∧ (a = 244 → b ≤ 143) ∧ 128 ≤ c ∧ c ≤ 191 ∧ 128 ≤ d ∧ d ≤ 191 := by
 generalize hr : (a - 128 - 112) * 262144 + (b - 128) * 4096 + (c - 128) * 64 + (d - 128) = r
 unfold encL scalarB
 constructor
 ·rintro ⟨h, e⟩
  rw [if_pos h] at e
  simp only [decide_eq_true_eq] at h
  split at e
  ·simp at e
  split at e
  ·simp at e
  split at e
  ·simp at e
  ·simp at e; omega
 ·intro h
  have hs : 0 ≤ r ∧ r ≤ 1114111 ∧ ¬(55296 ≤ r ∧ r ≤ 57343) := by omega
  rw [if_pos (decide_eq_true hs), if_neg (by omega), if_neg (by omega), if_neg (by omega)]
  refine ⟨decide_eq_true hs, ?_⟩
  simp; omega
def begL (n : Int) (p : List Int) : Prop := p.length < (encL n).length ∧ (encL n).take p.length = p
theorem beginsB_iff (n : Int) (p : ByteArray) : beginsB n p = true ↔ begL n (bl p) := by
 unfold beginsB begL
 have h : (encS n).size = (encL n).length := by rw [← bl_length, bl_encS]
 rw [bl_inj, bl_extract, bl_encS, bl_length, h]
 simp
theorem beg2 (n a b : Int) : begL n [a, b] ↔ (0 ≤ n ∧ n ≤ 1114111 ∧ ¬(55296 ≤ n ∧ n ≤ 57343)) ∧ ((2048 ≤ n ∧ n < 65536 ∧ 224 + n / 4096 = a ∧ 128 + n / 64 % 64 = b) ∨ (65536 ≤ n ∧ 240 + n / 262144 = a ∧ 128 + n / 4096 % 64 = b)) := by
 unfold begL encL scalarB
 by_cases hs : 0 ≤ n ∧ n ≤ 1114111 ∧ ¬(55296 ≤ n ∧ n ≤ 57343)
 ·rw [if_pos (decide_eq_true hs)]
  (repeat' split) <;> simp <;> omega
 ·rw [if_neg (fun h => hs (of_decide_eq_true h))]
  simp; omega
theorem beg3 (n a b c : Int) : begL n [a, b, c] ↔ (0 ≤ n ∧ n ≤ 1114111 ∧ ¬(55296 ≤ n ∧ n ≤ 57343)) ∧ 65536 ≤ n ∧ 240 + n / 262144 = a ∧ 128 + n / 4096 % 64 = b ∧ 128 + n / 64 % 64 = c := by
 unfold begL encL scalarB
 by_cases hs : 0 ≤ n ∧ n ≤ 1114111 ∧ ¬(55296 ≤ n ∧ n ≤ 57343)
 ·rw [if_pos (decide_eq_true hs)]
  (repeat' split) <;> simp <;> omega
 ·rw [if_neg (fun h => hs (of_decide_eq_true h))]
  simp; omega
theorem bl_extB (p : ByteArray) (c : Int) (hc : 0 ≤ c ∧ c < 256) (j : Nat) : bl (extB p c j) = bl p ++ List.replicate j c := by
 induction j with
 | zero => simp [extB]
 | succ j ih =>
  rw [extB, bl_append, ih, bl_strOfNums [c] (by simpa using hc), List.append_assoc, List.replicate_succ']
theorem reck3 {s : ByteArray} {a b c : Int} (h : bl s = [a, b, c]) : reckS s = (a - 128 - 96) * 4096 + (b - 128) * 64 + (c - 128) := by
 have hz : s.size = 3 := by rw [← bl_length, h]; rfl
 have e0 : (byN s 0 : Int) = a := byN_of_bl (by rw [h]; rfl)
 have e1 : (byN s 1 : Int) = b := byN_of_bl (by rw [h]; rfl)
 have e2 : (byN s 2 : Int) = c := byN_of_bl (by rw [h]; rfl)
 unfold reckS
 rw [if_neg (by omega), if_neg (by omega), if_pos hz]
 simp only [e0, e1, e2]
theorem reck4 {s : ByteArray} {a b c d : Int} (h : bl s = [a, b, c, d]) : reckS s = (a - 128 - 112) * 262144 + (b - 128) * 4096 + (c - 128) * 64 + (d - 128) := by
 have hz : s.size = 4 := by rw [← bl_length, h]; rfl
 have e0 : (byN s 0 : Int) = a := byN_of_bl (by rw [h]; rfl)
 have e1 : (byN s 1 : Int) = b := byN_of_bl (by rw [h]; rfl)
 have e2 : (byN s 2 : Int) = c := byN_of_bl (by rw [h]; rfl)
 have e3 : (byN s 3 : Int) = d := byN_of_bl (by rw [h]; rfl)
 unfold reckS
 rw [if_neg (by omega), if_neg (by omega), if_neg (by omega)]
 simp only [e0, e1, e2, e3]
theorem reck2 {s : ByteArray} {a b : Int} (h : bl s = [a, b]) : reckS s = (a - 128 - 64) * 64 + (b - 128) := by
 have hz : s.size = 2 := by rw [← bl_length, h]; rfl
 have e0 : (byN s 0 : Int) = a := byN_of_bl (by rw [h]; rfl)
 have e1 : (byN s 1 : Int) = b := byN_of_bl (by rw [h]; rfl)
 unfold reckS
 rw [if_neg (by omega), if_pos hz]
 simp only [e0, e1]
theorem reck1 {s : ByteArray} {a : Int} (h : bl s = [a]) : reckS s = a := by
 have hz : s.size = 1 := by rw [← bl_length, h]; rfl
 have e0 : (byN s 0 : Int) = a := byN_of_bl (by rw [h]; rfl)
 unfold reckS
 rw [if_pos hz]
 simp only [e0]; omega
theorem left2 {p : ByteArray} {a b : Int} (h : bl p = [a, b]) (h0 : 0 ≤ a) (h1 : a < 256) (h2 : 0 ≤ b) (h3 : b < 256) :
  leftS p = true ↔ 224 ≤ a ∧ a < 245 ∧ 128 ≤ b ∧ b ≤ 191 ∧ (a = 224 → 160 ≤ b) ∧ (a = 237 → b ≤ 159) ∧ (a = 240 → 144 ≤ b) ∧ (a = 244 → b ≤ 143) := by
 have hz : p.size = 2 := by rw [← bl_length, h]; rfl
 have e1 := reck3 (s := extB p 128 1) (a := a) (b := b) (c := 128) (by rw [bl_extB _ _ (by decide), h]; rfl)
 have e2 := reck3 (s := extB p 191 1) (a := a) (b := b) (c := 191) (by rw [bl_extB _ _ (by decide), h]; rfl)
 have e3 := reck4 (s := extB p 128 2) (a := a) (b := b) (c := 128) (d := 128) (by rw [bl_extB _ _ (by decide), h]; rfl)
 have e4 := reck4 (s := extB p 191 2) (a := a) (b := b) (c := 191) (d := 191) (by rw [bl_extB _ _ (by decide), h]; rfl)
 have e : leftS p = (beginsB (reckS (extB p 128 1)) p || beginsB (reckS (extB p 191 1)) p || (beginsB (reckS (extB p 128 2)) p || beginsB (reckS (extB p 191 2)) p)) := by
  simp [leftS, leftGo, hz]
 rw [e, e1, e2, e3, e4]
 simp only [Bool.or_eq_true, beginsB_iff, h, beg2]
 constructor
 ·rintro ((h | h) | h | h)
  all_goals
   obtain ⟨⟨g1, g2, g3⟩, ⟨g4, g5, g6, g7⟩ | ⟨g4, g5, g6⟩⟩ := h
   all_goals omega
 ·intro h
  by_cases ha : a < 240
  ·refine Or.inl (Or.inl ?_)
   omega
  ·refine Or.inr (Or.inl ?_)
   omega
theorem left3 {p : ByteArray} {a b c : Int} (h : bl p = [a, b, c]) (h0 : 0 ≤ a) (h1 : a < 256) (h2 : 0 ≤ b) (h3 : b < 256) (h4 : 0 ≤ c) (h5 : c < 256) :
  leftS p = true ↔ 240 ≤ a ∧ a < 245 ∧ 128 ≤ b ∧ b ≤ 191 ∧ (a = 240 → 144 ≤ b) ∧ (a = 244 → b ≤ 143) ∧ 128 ≤ c ∧ c ≤ 191 := by
 have hz : p.size = 3 := by rw [← bl_length, h]; rfl
 have e3 := reck4 (s := extB p 128 1) (a := a) (b := b) (c := c) (d := 128) (by rw [bl_extB _ _ (by decide), h]; rfl)
 have e4 := reck4 (s := extB p 191 1) (a := a) (b := b) (c := c) (d := 191) (by rw [bl_extB _ _ (by decide), h]; rfl)
 have e : leftS p = (beginsB (reckS (extB p 128 1)) p || beginsB (reckS (extB p 191 1)) p) := by
  simp [leftS, leftGo, hz]
 rw [e, e3, e4]
 simp only [Bool.or_eq_true, beginsB_iff, h, beg3]
 omega
theorem seg (s : ByteArray) (i n : Nat) (h : i + n ≤ s.size) : bl ((s.extract i s.size).extract 0 n) = (List.range n).map fun k => (byN s (i + k) : Int) := by
 have hz : (s.extract i s.size).size = s.size - i := by rw [ByteArray.size_extract]; omega
 apply List.ext_getElem?
 intro k
 by_cases hk : k < n
 ·have h1 : k < ((s.extract i s.size).extract 0 n).size := by rw [ByteArray.size_extract]; omega
  rw [bl_get _ _ h1, byN_ext _ _ _ _ (by omega) (by omega), byN_ext _ _ _ _ (by omega) (by omega)]
  simp [hk]
 ·rw [List.getElem?_eq_none, List.getElem?_eq_none]
  ·simp; omega
  ·rw [bl_length, ByteArray.size_extract]; omega
def W2 (a b : Int) : Prop := 194 ≤ a ∧ a < 224 ∧ 128 ≤ b ∧ b ≤ 191
def W3 (a b c : Int) : Prop := 224 ≤ a ∧ a < 240 ∧ 128 ≤ b ∧ b ≤ 191 ∧ (a = 224 → 160 ≤ b) ∧ (a = 237 → b ≤ 159) ∧ 128 ≤ c ∧ c ≤ 191
def W4 (a b c d : Int) : Prop := 240 ≤ a ∧ a < 245 ∧ 128 ≤ b ∧ b ≤ 191 ∧ (a = 240 → 144 ≤ b) ∧ (a = 244 → b ≤ 143) ∧ 128 ≤ c ∧ c ≤ 191 ∧ 128 ≤ d ∧ d ≤ 191
def V2 (a b : Int) : Prop := 224 ≤ a ∧ a < 245 ∧ 128 ≤ b ∧ b ≤ 191 ∧ (a = 224 → 160 ≤ b) ∧ (a = 237 → b ≤ 159) ∧ (a = 240 → 144 ≤ b) ∧ (a = 244 → b ≤ 143)
def V3 (a b c : Int) : Prop := 240 ≤ a ∧ a < 245 ∧ 128 ≤ b ∧ b ≤ 191 ∧ (a = 240 → 144 ≤ b) ∧ (a = 244 → b ≤ 143) ∧ 128 ≤ c ∧ c ≤ 191
def CB (t : ByteArray) (n : Nat) : Bool := scalarB (reckS (t.extract 0 n)) && (encS (reckS (t.extract 0 n))).toList == (t.extract 0 n).toList
theorem CB_iff {t : ByteArray} {n : Nat} {l : List Int} {r : Int} (h : bl (t.extract 0 n) = l) (hr : reckS (t.extract 0 n) = r) : CB t n = true ↔ (scalarB r = true ∧ encL r = l) := by
 unfold CB
 rw [bl_inj, bl_encS, h, hr]; simp
theorem find_step (t : ByteArray) (k n : Nat) (h1 : n < 5) (h2 : n ≤ t.size) : refFind t (k + 1) n = if CB t n = true then some (reckS (t.extract 0 n), n) else refFind t k (n + 1) := by
 rw [refFind, if_pos ⟨h1, h2⟩]; rfl
theorem find_stop (t : ByteArray) (k n : Nat) (h2 : ¬ (n < 5 ∧ n ≤ t.size)) : refFind t k n = none := by
 cases k with
 | zero => rfl
 | succ k => rw [refFind, if_neg h2]
section
variable (s : ByteArray) (i : Nat) (hi : i < s.size)
include hi
theorem fz : (s.extract i s.size).size = s.size - i := by rw [ByteArray.size_extract]; omega
theorem sg1 : bl ((s.extract i s.size).extract 0 1) = [(byN s i : Int)] := by rw [seg s i 1 (by omega)]; rfl
theorem sg2 (h : 2 ≤ s.size - i) : bl ((s.extract i s.size).extract 0 2) = [(byN s i : Int), (byN s (i + 1) : Int)] := by rw [seg s i 2 (by omega)]; rfl
theorem sg3 (h : 3 ≤ s.size - i) : bl ((s.extract i s.size).extract 0 3) = [(byN s i : Int), (byN s (i + 1) : Int), (byN s (i + 2) : Int)] := by rw [seg s i 3 (by omega)]; rfl
theorem sg4 (h : 4 ≤ s.size - i) : bl ((s.extract i s.size).extract 0 4) = [(byN s i : Int), (byN s (i + 1) : Int), (byN s (i + 2) : Int), (byN s (i + 3) : Int)] := by rw [seg s i 4 (by omega)]; rfl
theorem bd (k : Nat) : 0 ≤ (byN s (i + k) : Int) ∧ (byN s (i + k) : Int) < 256 := by have := byN_lt s (i + k); omega
theorem bd0 : 0 ≤ (byN s i : Int) ∧ (byN s i : Int) < 256 := by have := byN_lt s i; omega
theorem cb1 : CB (s.extract i s.size) 1 = true ↔ (byN s i : Int) < 128 :=
 (CB_iff (sg1 s i hi) (reck1 (sg1 s i hi))).trans (enc1 _ (bd0 s i hi).1 (bd0 s i hi).2)
theorem cb2 (h : 2 ≤ s.size - i) : CB (s.extract i s.size) 2 = true ↔ W2 (byN s i) (byN s (i + 1)) :=
 (CB_iff (sg2 s i hi h) (reck2 (sg2 s i hi h))).trans (enc2 _ _ (bd0 s i hi).1 (bd0 s i hi).2 (bd s i hi 1).1 (bd s i hi 1).2)
theorem cb3 (h : 3 ≤ s.size - i) : CB (s.extract i s.size) 3 = true ↔ W3 (byN s i) (byN s (i + 1)) (byN s (i + 2)) :=
 (CB_iff (sg3 s i hi h) (reck3 (sg3 s i hi h))).trans (enc3 _ _ _ (bd0 s i hi).1 (bd0 s i hi).2 (bd s i hi 1).1 (bd s i hi 1).2 (bd s i hi 2).1 (bd s i hi 2).2)
theorem cb4 (h : 4 ≤ s.size - i) : CB (s.extract i s.size) 4 = true ↔ W4 (byN s i) (byN s (i + 1)) (byN s (i + 2)) (byN s (i + 3)) :=
 (CB_iff (sg4 s i hi h) (reck4 (sg4 s i hi h))).trans (enc4 _ _ _ _ (bd0 s i hi).1 (bd0 s i hi).2 (bd s i hi 1).1 (bd s i hi 1).2 (bd s i hi 2).1 (bd s i hi 2).2 (bd s i hi 3).1 (bd s i hi 3).2)
theorem lb2 (h : 2 ≤ s.size - i) : leftS ((s.extract i s.size).extract 0 2) = true ↔ V2 (byN s i) (byN s (i + 1)) :=
 left2 (sg2 s i hi h) (bd0 s i hi).1 (bd0 s i hi).2 (bd s i hi 1).1 (bd s i hi 1).2
theorem lb3 (h : 3 ≤ s.size - i) : leftS ((s.extract i s.size).extract 0 3) = true ↔ V3 (byN s i) (byN s (i + 1)) (byN s (i + 2)) :=
 left3 (sg3 s i hi h) (bd0 s i hi).1 (bd0 s i hi).2 (bd s i hi 1).1 (bd s i hi 1).2 (bd s i hi 2).1 (bd s i hi 2).2
theorem F1 (h : (byN s i : Int) < 128) : refFind (s.extract i s.size) 4 1 = some ((byN s i : Int), 1) := by
 have hz := fz s i hi
 rw [find_step _ _ _ (by omega) (by omega), if_pos ((cb1 s i hi).2 h), reck1 (sg1 s i hi)]
theorem Fa (h : ¬ (byN s i : Int) < 128) : refFind (s.extract i s.size) 4 1 = refFind (s.extract i s.size) 3 2 := by
 have hz := fz s i hi
 rw [find_step _ _ _ (by omega) (by omega), if_neg (fun e => h ((cb1 s i hi).1 e))]
theorem F2 (z : 2 ≤ s.size - i) (h : W2 (byN s i) (byN s (i + 1))) : refFind (s.extract i s.size) 4 1 = some (((byN s i : Int) - 128 - 64) * 64 + ((byN s (i + 1) : Int) - 128), 2) := by
 have hz := fz s i hi
 rw [Fa s i hi (by unfold W2 at h; omega), find_step _ _ _ (by omega) (by omega), if_pos ((cb2 s i hi z).2 h), reck2 (sg2 s i hi z)]
theorem Fb (h : ¬ (byN s i : Int) < 128) (h2 : ¬ W2 (byN s i) (byN s (i + 1))) (z : 2 ≤ s.size - i) : refFind (s.extract i s.size) 4 1 = refFind (s.extract i s.size) 2 3 := by
 have hz := fz s i hi
 rw [Fa s i hi h, find_step _ _ _ (by omega) (by omega), if_neg (fun e => h2 ((cb2 s i hi z).1 e))]
theorem F3 (z : 3 ≤ s.size - i) (h : W3 (byN s i) (byN s (i + 1)) (byN s (i + 2))) :
  refFind (s.extract i s.size) 4 1 = some (((byN s i : Int) - 128 - 96) * 4096 + ((byN s (i + 1) : Int) - 128) * 64 + ((byN s (i + 2) : Int) - 128), 3) := by
 have hz := fz s i hi
 rw [Fb s i hi (by unfold W3 at h; omega) (by unfold W3 at h; unfold W2; omega) (by omega), find_step _ _ _ (by omega) (by omega), if_pos ((cb3 s i hi z).2 h), reck3 (sg3 s i hi z)]
theorem Fc (h : ¬ (byN s i : Int) < 128) (h2 : ¬ W2 (byN s i) (byN s (i + 1))) (h3 : ¬ W3 (byN s i) (byN s (i + 1)) (byN s (i + 2))) (z : 3 ≤ s.size - i) : refFind (s.extract i s.size) 4 1 = refFind (s.extract i s.size) 1 4 := by
 have hz := fz s i hi
 rw [Fb s i hi h h2 (by omega), find_step _ _ _ (by omega) (by omega), if_neg (fun e => h3 ((cb3 s i hi z).1 e))]
theorem F4 (z : 4 ≤ s.size - i) (h : W4 (byN s i) (byN s (i + 1)) (byN s (i + 2)) (byN s (i + 3))) :
  refFind (s.extract i s.size) 4 1 = some (((byN s i : Int) - 128 - 112) * 262144 + ((byN s (i + 1) : Int) - 128) * 4096 + ((byN s (i + 2) : Int) - 128) * 64 + ((byN s (i + 3) : Int) - 128), 4) := by
 have hz := fz s i hi
 rw [Fc s i hi (by unfold W4 at h; omega) (by unfold W4 at h; unfold W2; omega) (by unfold W4 at h; unfold W3; omega) (by omega), find_step _ _ _ (by omega) (by omega), if_pos ((cb4 s i hi z).2 h), reck4 (sg4 s i hi z)]
theorem Fn (h : ¬ (byN s i : Int) < 128) (h2 : 2 ≤ s.size - i → ¬ W2 (byN s i) (byN s (i + 1))) (h3 : 3 ≤ s.size - i → ¬ W3 (byN s i) (byN s (i + 1)) (byN s (i + 2)))
  (h4 : 4 ≤ s.size - i → ¬ W4 (byN s i) (byN s (i + 1)) (byN s (i + 2)) (byN s (i + 3))) : refFind (s.extract i s.size) 4 1 = none := by
 have hz := fz s i hi
 by_cases z2 : 2 ≤ s.size - i
 rotate_left
 ·rw [Fa s i hi h, find_stop _ _ _ (by omega)]
 by_cases z3 : 3 ≤ s.size - i
 rotate_left
 ·rw [Fb s i hi h (h2 z2) z2, find_stop _ _ _ (by omega)]
 by_cases z4 : 4 ≤ s.size - i
 rotate_left
 ·rw [Fc s i hi h (h2 z2) (h3 z3) z3, find_stop _ _ _ (by omega)]
 rw [Fc s i hi h (h2 z2) (h3 z3) z3, find_step _ _ _ (by omega) (by omega), if_neg (fun e => h4 z4 ((cb4 s i hi z4).1 e)), find_stop _ _ _ (by omega)]
theorem many_eq : refMany (s.extract i s.size) 3 2 1 =
  if 3 ≤ s.size - i ∧ leftS ((s.extract i s.size).extract 0 3) = true then 3 else if 2 ≤ s.size - i ∧ leftS ((s.extract i s.size).extract 0 2) = true then 2 else 1 := by
 have hz := fz s i hi
 rw [refMany]
 by_cases z2 : 2 ≤ s.size - i
 ·rw [if_pos (c := 2 < 4 ∧ 2 ≤ (s.extract i s.size).size) (by omega), refMany]
  by_cases z3 : 3 ≤ s.size - i
  ·rw [if_pos (c := 2 + 1 < 4 ∧ 2 + 1 ≤ (s.extract i s.size).size) (by omega), refMany, if_neg (c := 2 + 1 + 1 < 4 ∧ 2 + 1 + 1 ≤ (s.extract i s.size).size) (by omega)]
   simp only [z2, z3, true_and]
  ·rw [if_neg (c := 2 + 1 < 4 ∧ 2 + 1 ≤ (s.extract i s.size).size) (by omega)]
   simp only [z2, z3, false_and, if_false, true_and]
 ·rw [if_neg (c := 2 < 4 ∧ 2 ≤ (s.extract i s.size).size) (by omega), if_neg (by omega), if_neg (by omega)]
theorem M3 (z : 3 ≤ s.size - i) (h : V3 (byN s i) (byN s (i + 1)) (byN s (i + 2))) : refMany (s.extract i s.size) 3 2 1 = 3 := by
 rw [many_eq s i hi, if_pos ⟨z, (lb3 s i hi z).2 h⟩]
theorem M2 (z : 2 ≤ s.size - i) (h : V2 (byN s i) (byN s (i + 1))) (h3 : 3 ≤ s.size - i → ¬ V3 (byN s i) (byN s (i + 1)) (byN s (i + 2))) : refMany (s.extract i s.size) 3 2 1 = 2 := by
 rw [many_eq s i hi, if_neg (fun e => h3 e.1 ((lb3 s i hi e.1).1 e.2)), if_pos ⟨z, (lb2 s i hi z).2 h⟩]
theorem M1 (h2 : 2 ≤ s.size - i → ¬ V2 (byN s i) (byN s (i + 1))) : refMany (s.extract i s.size) 3 2 1 = 1 := by
 rw [many_eq s i hi, if_neg (fun e => h2 (by omega) (by have := (lb3 s i hi e.1).1 e.2; unfold V3 at this; unfold V2; omega)), if_neg (fun e => h2 e.1 ((lb2 s i hi e.1).1 e.2))]
end
theorem decR_in {s : ByteArray} {i : Nat} (hi : i < s.size) : decR s i = match refFind (s.extract i s.size) 4 1 with
  | some (r, n) => (r, (n : Int), true)
  | none => (0, (refMany (s.extract i s.size) 3 2 1 : Int), false) := by unfold decR; rw [if_neg (by omega)]; rfl
theorem decS_in {s : ByteArray} {i L : Nat} {lo hi' : Int} (hi : i < s.size) (hl : leadL (byN s i) = ((L : Int), lo, hi')) (h1 : 1 ≤ L) :
  decS s i = decGo s i L (L - 1) 1 lo hi' ((byN s i : Int) - markL L) := by
 unfold decS
 rw [if_neg (by omega)]
 simp only [Int.toNat_natCast, hl]
 rw [if_neg (by omega)]
theorem go_bad {s : ByteArray} {i L k n : Nat} {lo hi r : Int} (h : n = s.size - i ∨ (byN s (i + n) : Int) < lo ∨ hi < (byN s (i + n) : Int)) : decGo s i L (k + 1) n lo hi r = (0, (n : Int), false) := by rw [decGo, if_pos h]
theorem go_ok {s : ByteArray} {i L k n : Nat} {lo hi r : Int} (h : ¬ (n = s.size - i ∨ (byN s (i + n) : Int) < lo ∨ hi < (byN s (i + n) : Int))) :
  decGo s i L (k + 1) n lo hi r = decGo s i L k (n + 1) 128 191 (r * 64 + ((byN s (i + n) : Int) - 128)) := by rw [decGo, if_neg h]
theorem lead2 (c : Int) (h : 194 ≤ c ∧ c < 224) : leadL c = (((2 : Nat) : Int), 128, 191) := by
 unfold leadL; rw [if_neg (by omega), if_neg (by omega), if_pos (by omega)]; rfl
theorem lead3 (c : Int) (h : 224 ≤ c ∧ c < 240) : leadL c = (((3 : Nat) : Int), if c = 224 then 160 else 128, if c = 237 then 159 else 191) := by
 unfold leadL; rw [if_neg (by omega), if_neg (by omega), if_neg (by omega)]
 by_cases h1 : c = 224
 ·rw [if_pos h1, if_pos h1, if_neg (by omega)]; rfl
 rw [if_neg h1, if_neg h1]
 by_cases h2 : c = 237
 ·rw [if_pos h2, if_pos h2]; rfl
 rw [if_neg h2, if_neg h2, if_pos (by omega)]; rfl
theorem lead4 (c : Int) (h : 240 ≤ c ∧ c < 245) : leadL c = (((4 : Nat) : Int), if c = 240 then 144 else 128, if c = 244 then 143 else 191) := by
 unfold leadL; rw [if_neg (by omega), if_neg (by omega), if_neg (by omega), if_neg (by omega), if_neg (by omega), if_neg (by omega)]
 by_cases h1 : c = 240
 ·rw [if_pos h1, if_pos h1, if_neg (by omega)]; rfl
 rw [if_neg h1, if_neg h1]
 by_cases h2 : c = 244
 ·rw [if_neg (by omega), if_pos h2, if_pos h2]; rfl
 rw [if_pos (by omega), if_neg h2]; rfl
theorem lead0 (c : Int) (h : 128 ≤ c ∧ c < 194 ∨ 245 ≤ c) : leadL c = (0, 0, 0) := by
 unfold leadL
 rcases h with h | h
 ·rw [if_neg (by omega), if_pos (by omega)]
 ·rw [if_neg (by omega), if_neg (by omega), if_neg (by omega), if_neg (by omega), if_neg (by omega), if_neg (by omega), if_neg (by omega), if_neg (by omega), if_neg (by omega)]
theorem decR_eq (s : ByteArray) (i : Int) : decR s i = decS s i := by
 by_cases h : i < 0 ∨ (s.size : Int) ≤ i
 ·unfold decR decS; rw [if_pos h, if_pos h]
 obtain ⟨i, rfl⟩ := Int.eq_ofNat_of_zero_le (by omega : 0 ≤ i)
 have hi : i < s.size := by omega
 clear h
 rw [decR_in hi]
 have b0 := bd0 s i hi
 have b1 := bd s i hi 1
 have b2 := bd s i hi 2
 have b3 := bd s i hi 3
 by_cases c1 : (byN s i : Int) < 128
 ·rw [F1 s i hi c1, decS_in (L := 1) (lo := 0) (hi' := 0) hi (by unfold leadL; rw [if_pos c1]; rfl) (by omega)]
  simp [decGo, markL]
 by_cases c2 : (byN s i : Int) < 194 ∨ 245 ≤ (byN s i : Int)
 ·rw [Fn s i hi c1 (fun _ h => by unfold W2 at h; omega) (fun _ h => by unfold W3 at h; omega) (fun _ h => by unfold W4 at h; omega), M1 s i hi (fun _ h => by unfold V2 at h; omega)]
  unfold decS
  rw [if_neg (by omega)]
  simp only [Int.toNat_natCast, lead0 _ (by omega : 128 ≤ (byN s i : Int) ∧ (byN s i : Int) < 194 ∨ 245 ≤ (byN s i : Int))]
  rfl
 by_cases c3 : (byN s i : Int) < 224
 ·rw [decS_in hi (lead2 _ (by omega)) (by omega)]
  by_cases g : 1 = s.size - i ∨ (byN s (i + 1) : Int) < 128 ∨ 191 < (byN s (i + 1) : Int)
  ·rw [Fn s i hi c1 (fun _ h => by unfold W2 at h; omega) (fun _ h => by unfold W3 at h; omega) (fun _ h => by unfold W4 at h; omega), M1 s i hi (fun _ h => by unfold V2 at h; omega), go_bad g]
  ·rw [F2 s i hi (by omega) (by unfold W2; omega), go_ok g]
   simp [decGo, markL]; omega
 by_cases c4 : (byN s i : Int) < 240
 ·rw [decS_in hi (lead3 _ (by omega)) (by omega)]
  generalize hlo : (if (byN s i : Int) = 224 then 160 else 128 : Int) = lo
  generalize hhi : (if (byN s i : Int) = 237 then 159 else 191 : Int) = up
  have hlo1 : ((byN s i : Int) = 224 → lo = 160) ∧ (¬ (byN s i : Int) = 224 → lo = 128) := by subst hlo; constructor <;> intro h <;> simp [h]
  have hhi1 : ((byN s i : Int) = 237 → up = 159) ∧ (¬ (byN s i : Int) = 237 → up = 191) := by subst hhi; constructor <;> intro h <;> simp [h]
  clear hlo hhi
  by_cases g : 1 = s.size - i ∨ (byN s (i + 1) : Int) < lo ∨ up < (byN s (i + 1) : Int)
  ·rw [Fn s i hi c1 (fun _ h => by unfold W2 at h; omega) (fun _ h => by unfold W3 at h; omega) (fun _ h => by unfold W4 at h; omega), M1 s i hi (fun _ h => by unfold V2 at h; omega), go_bad g]
  rw [go_ok g]
  by_cases g2 : 2 = s.size - i ∨ (byN s (i + 2) : Int) < 128 ∨ 191 < (byN s (i + 2) : Int)
  ·rw [Fn s i hi c1 (fun _ h => by unfold W2 at h; omega) (fun _ h => by unfold W3 at h; omega) (fun _ h => by unfold W4 at h; omega), M2 s i hi (by omega) (by unfold V2; omega) (fun _ h => by unfold V3 at h; omega), go_bad g2]
  ·rw [F3 s i hi (by omega) (by unfold W3; omega), go_ok g2]
   simp [decGo, markL]; omega
 ·rw [decS_in hi (lead4 _ (by omega)) (by omega)]
  generalize hlo : (if (byN s i : Int) = 240 then 144 else 128 : Int) = lo
  generalize hhi : (if (byN s i : Int) = 244 then 143 else 191 : Int) = up
  have hlo1 : ((byN s i : Int) = 240 → lo = 144) ∧ (¬ (byN s i : Int) = 240 → lo = 128) := by subst hlo; constructor <;> intro h <;> simp [h]
  have hhi1 : ((byN s i : Int) = 244 → up = 143) ∧ (¬ (byN s i : Int) = 244 → up = 191) := by subst hhi; constructor <;> intro h <;> simp [h]
  clear hlo hhi
  by_cases g : 1 = s.size - i ∨ (byN s (i + 1) : Int) < lo ∨ up < (byN s (i + 1) : Int)
  ·rw [Fn s i hi c1 (fun _ h => by unfold W2 at h; omega) (fun _ h => by unfold W3 at h; omega) (fun _ h => by unfold W4 at h; omega), M1 s i hi (fun _ h => by unfold V2 at h; omega), go_bad g]
  rw [go_ok g]
  by_cases g2 : 2 = s.size - i ∨ (byN s (i + 2) : Int) < 128 ∨ 191 < (byN s (i + 2) : Int)
  ·rw [Fn s i hi c1 (fun _ h => by unfold W2 at h; omega) (fun _ h => by unfold W3 at h; omega) (fun _ h => by unfold W4 at h; omega), M2 s i hi (by omega) (by unfold V2; omega) (fun _ h => by unfold V3 at h; omega), go_bad g2]
  rw [go_ok g2]
  by_cases g3 : 3 = s.size - i ∨ (byN s (i + 3) : Int) < 128 ∨ 191 < (byN s (i + 3) : Int)
  ·rw [Fn s i hi c1 (fun _ h => by unfold W2 at h; omega) (fun _ h => by unfold W3 at h; omega) (fun _ h => by unfold W4 at h; omega), M3 s i hi (by omega) (by unfold V3; omega), go_bad g3]
  ·rw [F4 s i hi (by omega) (by unfold W4; omega), go_ok g3]
   simp [decGo, markL]; omega
end Go.Proofs.YtncijmodlhijoaaGreat.Utf
namespace Go.Proofs.YtncijmodlhijoaaGreat
open Go.RowKit Go.Lib
theorem grown_step {W w' : World} {o : Obj} {row : Option Nat} (h : (W.alloc o).grownBy w' row) : W.grownBy w' row where
 os := h.os
 tape := h.tape
 output := h.output
 size := Nat.le_trans (by simp) h.size
 block k hk hr := (h.block k (by simp; omega) hr).trans (Below.heap_alloc W o k hk)
theorem grown_below {W w' : World} {row : Option Nat} {base : Nat} (h : W.grownBy w' row) (hb : base ≤ W.heap.size) (hr : ∀ k, row = some k → base ≤ k) : Below base W w' :=
 ⟨h.os, h.tape, h.output, h.size, fun k hk => h.block k (by omega) (fun e => by have := hr k e.symm; omega)⟩
def RdAt (w : World) (v : Value) (size : Nat) (xs : List Value) : Prop :=
 ∃ (A : Option Addr) (n c : Nat), v = .slice A n c ∧ xs.length = n * size ∧ n ≤ c ∧ (0 < xs.length → ∃ g o, A = some ⟨g, o, none⟩ ∧ g < w.heap.size ∧ ∀ j u, xs[j]? = some u → w.cell? ⟨g, o + j, none⟩ = some u)
theorem RdAt.of_own {w : World} {base : Nat} {e : TypeId} {size n : Nat} {v : Value} {xs : List Value} (h : w.ownsRow base e size v n xs) : RdAt w v size xs := by
 obtain ⟨hl, ⟨rfl, rfl⟩ | ⟨g, cap, cur, rfl, hb, hg, hn, hm, hc, ht⟩⟩ := h
 ·exact ⟨none, 0, 0, rfl, hl, Nat.le_refl _, fun h => absurd h (by omega)⟩
 ·refine ⟨_, n, cap, rfl, hl, hn, fun _ => ⟨g, 0, rfl, ?_, fun j u hj => ?_⟩⟩
  ·rcases Nat.lt_or_ge g w.heap.size with h | h
   ·exact h
   ·rw [Array.getElem?_eq_none h] at hg; cases hg
  ·have := World.ownsRow.cells (w := w) (base := base) (e := e) (size := size) (n := n) (xs := xs) ⟨hl, .inr ⟨g, cap, cur, rfl, hb, hg, hn, hm, hc, ht⟩⟩ (g := g) rfl j u hj
   have e1 : (⟨g, 0, none⟩ : Addr).add j = ⟨g, 0 + j, none⟩ := by unfold Addr.add; split <;> simp_all
   rw [e1] at this
   exact this
theorem RdAt.below {w w' : World} {v : Value} {size : Nat} {xs : List Value} (h : RdAt w v size xs) (hb : Below w.heap.size w w') : RdAt w' v size xs := by
 obtain ⟨A, n, c, rfl, hl, hn, hr⟩ := h
 refine ⟨A, n, c, rfl, hl, hn, fun h0 => ?_⟩
 obtain ⟨g, o, rfl, hg, hc⟩ := hr h0
 exact ⟨g, o, rfl, Nat.lt_of_lt_of_le hg hb.size, fun j u hj => by rw [hb.cell (p := ⟨g, o + j, none⟩) hg]; exact hc j u hj⟩
theorem cells_new (W : World) (us : Array Value) (t : TypeId) : ∀ j u, us.toList[j]? = some u → (W.alloc (.cells us t)).cell? ((⟨W.heap.size, 0, none⟩ : Addr).add j) = some u := by
 intro j u hj
 have e1 : (⟨W.heap.size, 0, none⟩ : Addr).add j = ⟨W.heap.size, j, none⟩ := by unfold Addr.add; split <;> simp_all
 rw [e1, World.cell?_alloc_new, ← Array.getElem?_toList, hj]
theorem appK {P : Program} {ops : Array Oper} {rest : List Oper} {o : Oper} {a : Act} {Q : Exit → Act → World → Prop} (W : World) (us : Array Value) (k : Nat) (e : TypeId) (hgd : o.guard = none) (s x : Operand) (t : TypeId)
  (ho : o.op = .call { callee := .builtin .append, args := #[s, x], argTypes := #[t, t] })
  (base : Nat) (i : TypeInfo) (z : Value) (bytes : Nat) (ht : P.underlying t = some (.slice e)) (hi : P.info? e = some i) (hz : i.zero = some z) (hsize : i.size = k) (hby : i.bytes = bytes) (hzs : z.cells.size = k) (hk : 0 < k) (hus : us.size = k)
  (v : Value) (n : Nat) (xs : List Value) (hs : a.eval s = v) (hown : W.ownsRow base e k v n xs) (b : Nat) (hx : a.eval x = .slice (some ⟨b, 0, none⟩) 1 1) (hbb : b = W.heap.size) (h1 : ∀ u ∈ us.toList, u.oneCell' = true)
  (h63 : n + 1 ≤ maxLen) (hbytes : (n + 1) * bytes ≤ 140737488355328) (hbase : base ≤ W.heap.size)
  (h : ∀ v' w', w'.ownsRow base e k v' (n + 1) (xs ++ us.toList) → W.grownBy w' v.ownBlock → Below base W w' → wpList P ops Q rest (a.put o.dst v') w') :
  wpList P ops Q (o :: rest) a (W.alloc (.cells us e)) := by
 subst hbb
 refine wpList_append_own _ hgd s x t ho base e i z k bytes ht hi hz hsize hby hzs hk v n xs hs (hown.alloc _) ⟨W.heap.size, 0, none⟩ 1 1 us.toList hx (by simp [hus]) (cells_new _ _ _)
  h1 h63 hbytes (by simp; omega) ?_
 intro v' w' hw' hg _
 have hg' := grown_step hg
 exact h v' w' hw' hg' (grown_below hg' hbase (fun k hk => (hown.lt k hk).1))
theorem own_below {B : Nat} {e : TypeId} {k : Nat} {v : Value} {n : Nat} {xs : List Value} {w w' : World} (h : w.ownsRow B e k v n xs) (hb : Below w.heap.size w w') : w'.ownsRow B e k v n xs :=
 h.kept ⟨hb.os, hb.tape, hb.output, hb.size, fun j hj _ => hb.block j hj⟩ (row := none) (by cases hv : v.ownBlock <;> simp)
end Go.Proofs.YtncijmodlhijoaaGreat
namespace Go.Proofs.YtncijmodlhijoaaGreat.Utf
open Go.RowKit Go.Lib
def runesGo (s : ByteArray) : Nat → Nat → List Int
 | 0, _ => []
 | k + 1, i => if i < s.size then (if (decS s i).2.2 then (decS s i).1 :: runesGo s k (i + (decS s i).2.1.toNat) else []) else []
def runesS (s : ByteArray) : List Int := runesGo s s.size 0
def runeV (l : List Int) : List Value := l.map (Value.int .i32)
def keptL (l : List Int) : List Int := l.filter scalarB
def encCat (l : List Int) : List Int := (l.map encL).flatten
theorem encL_len (r : Int) : (encL r).length ≤ 4 := by unfold encL; (repeat' split) <;> simp
end Go.Proofs.YtncijmodlhijoaaGreat.Utf
namespace Go.Proofs.YtncijmodlhijoaaGreat.Ran
abbrev Rg := Int × Int
def hasB (l : List Rg) (r : Int) : Bool := l.any fun g => decide (g.1 ≤ r) && decide (r ≤ g.2)
def inB (l : List Rg) (r : Int) : Bool := decide (0 ≤ r) && decide (r ≤ 1114111) && hasB l r
def Can : Int → List Rg → Prop
 | _, [] => True
 | lo, g :: l => lo ≤ g.1 ∧ g.1 ≤ g.2 ∧ g.2 ≤ 1114111 ∧ Can (g.2 + 2) l
def nxt : Int → List Rg → Int
 | lo, [] => lo
 | _, g :: l => nxt (g.2 + 2) l
@[simp] theorem hasB_nil (r : Int) : hasB [] r = false := rfl
theorem hasB_cons (g : Rg) (l : List Rg) (r : Int) : hasB (g :: l) r = (decide (g.1 ≤ r) && decide (r ≤ g.2) || hasB l r) := rfl
theorem hasB_append (l m : List Rg) (r : Int) : hasB (l ++ m) r = (hasB l r || hasB m r) := by unfold hasB; rw [List.any_append]
theorem hasB_iff {l : List Rg} {r : Int} : hasB l r = true ↔ ∃ g ∈ l, g.1 ≤ r ∧ r ≤ g.2 := by simp [hasB]
theorem Can.low {r : Int} : ∀ {l : List Rg} {lo : Int}, Can lo l → hasB l r = true → lo ≤ r ∧ r ≤ 1114111
 | [], _, _, h => by simp at h
 | g :: l, lo, ⟨a, b, c, d⟩, h => by
  rw [hasB_cons] at h
  simp only [Bool.or_eq_true, Bool.and_eq_true, decide_eq_true_eq] at h
  rcases h with h | h
  ·omega
  ·have := Can.low d h; omega
theorem can_len : ∀ (l : List Rg) (lo : Int), Can lo l → lo ≤ 1114113 → 2 * (l.length : Int) ≤ 1114113 - lo
 | [], lo, _, h => by simp; omega
 | g :: l, lo, ⟨a, b, c, d⟩, h => by
  have := can_len l _ d (by omega)
  simp; omega
theorem can_len0 {l : List Rg} (h : Can 0 l) : l.length ≤ 557056 := by have := can_len l 0 h (by omega); omega
theorem can_sorted : ∀ {l : List Rg} {lo : Int}, Can lo l → ∀ g ∈ l, lo ≤ g.1 ∧ g.1 ≤ g.2 ∧ g.2 ≤ 1114111
 | [], _, _, g, h => by simp at h
 | x :: l, lo, ⟨a, b, c, d⟩, g, h => by
  rcases List.mem_cons.1 h with rfl | h
  ·exact ⟨a, b, c⟩
  ·have := can_sorted d g h; omega
theorem can_get {l : List Rg} {lo : Int} (h : Can lo l) {k : Nat} (hk : k < l.length) : lo ≤ (l.getD k (0, 0)).1 ∧ (l.getD k (0, 0)).1 ≤ (l.getD k (0, 0)).2 ∧ (l.getD k (0, 0)).2 ≤ 1114111 := by
 have := can_sorted h l[k] (List.getElem_mem hk)
 simpa [List.getD, List.getElem?_eq_getElem hk] using this
theorem can_lt : ∀ {l : List Rg} {lo : Int}, Can lo l → ∀ i j, i < j → j < l.length → (l.getD i (0, 0)).2 + 1 < (l.getD j (0, 0)).1
 | [], _, _, i, j, _, h => by simp at h
 | x :: l, lo, ⟨a, b, c, d⟩, i, j, hij, hj => by
  obtain ⟨j, rfl⟩ : ∃ k, j = k + 1 := ⟨j - 1, by omega⟩
  have hj' : j < l.length := by simpa using hj
  cases i with
  | zero => have := (can_get d hj').1; simp at this ⊢; omega
  | succ i => simpa using can_lt d i j (by omega) hj'
theorem hasB_at {l : List Rg} {lo r : Int} (h : Can lo l) (i : Nat) (hi : i ≤ l.length) (h1 : ∀ k, k < i → (l.getD k (0, 0)).2 < r) (h2 : ∀ k, i ≤ k → k < l.length → r ≤ (l.getD k (0, 0)).2) :
  hasB l r = (decide (i < l.length) && decide ((l.getD i (0, 0)).1 ≤ r)) := by
 rw [Bool.eq_iff_iff, hasB_iff]
 simp only [Bool.and_eq_true, decide_eq_true_eq]
 constructor
 ·rintro ⟨g, hg, h3, h4⟩
  obtain ⟨k, hk, rfl⟩ := List.getElem_of_mem hg
  have e : l.getD k (0, 0) = l[k] := by simp [List.getD, List.getElem?_eq_getElem hk]
  have hik : i ≤ k := by
   by_cases t : i ≤ k
   ·exact t
   ·have := h1 k (by omega); rw [e] at this; omega
  refine ⟨by omega, ?_⟩
  by_cases t : i = k
  ·subst t; rw [e]; exact h3
  ·have a := can_lt h i k (by omega) hk
   have b := h2 i (Nat.le_refl _) (by omega)
   rw [e] at a; omega
 ·rintro ⟨h3, h4⟩
  refine ⟨l[i], List.getElem_mem h3, ?_⟩
  have e : l.getD i (0, 0) = l[i] := by simp [List.getD, List.getElem?_eq_getElem h3]
  have := h2 i (Nat.le_refl _) h3
  rw [e] at h4 this
  exact ⟨h4, this⟩
def clip (g : Rg) : Rg := (max g.1 0, min g.2 1114111)
def okG (g : Rg) : Bool := decide (g.1 ≤ g.2)
def keptG (l : List Rg) : List Rg := (l.map clip).filter okG
def stepM (acc : List Rg) (g : Rg) : List Rg :=
 match acc.getLast? with
 | none => [g]
 | some h => if h.2 + 1 < g.1 then acc ++ [g] else acc.dropLast ++ [(h.1, max h.2 g.2)]
def bothS : List Rg → List Rg → List Rg
 | [], _ => []
 | _ :: _, [] => []
 | g :: a, h :: b => (if max g.1 h.1 ≤ min g.2 h.2 then [(max g.1 h.1, min g.2 h.2)] else []) ++ (if g.2 < h.2 then bothS a (h :: b) else bothS (g :: a) b)
termination_by a b => a.length + b.length
def restGo : Int → List Rg → List Rg
 | next, [] => if next ≤ 1114111 then [(next, 1114111)] else []
 | next, g :: l => (if next < g.1 then [(next, g.1 - 1)] else []) ++ restGo (g.2 + 1) l
def countS : List Rg → Int
 | [] => 0
 | g :: l => g.2 - g.1 + 1 + countS l
def cnt (p : Int → Bool) : Int → Nat → Int
 | _, 0 => 0
 | lo, n + 1 => (if p lo then 1 else 0) + cnt p (lo + 1) n
theorem take_succ (xs : List Rg) (K : Nat) (h : K < xs.length) : xs.take (K + 1) = xs.take K ++ [xs.getD K (0, 0)] := by
 rw [List.take_succ_eq_append_getElem h]; simp [List.getD, List.getElem?_eq_getElem h]
def stepN (start out : Int) (g : Rg) : Int :=
 if start ≤ g.2 + 1 ∧ g.2 + 1 < (if start ≤ g.1 ∧ g.1 < out then g.1 else out) then g.2 + 1 else (if start ≤ g.1 ∧ g.1 < out then g.1 else out)
def nextS (l : List Rg) (start : Int) : Int := l.foldl (stepN start) 1114112
def kindB (a b : List Rg) (how : Int) (r : Int) : Bool :=
 if how = 1 then inB a r || inB b r else if how = 2 then inB a r && inB b r else inB a r && !inB b r
structure Upto (K : Int → Bool) (at_ : Int) (out : List Rg) : Prop where
 can : Can 0 out
 nx : nxt 0 out ≤ at_ + 1
 has : ∀ r, hasB out r = (decide (r < at_) && K r)
end Go.Proofs.YtncijmodlhijoaaGreat.Ran
