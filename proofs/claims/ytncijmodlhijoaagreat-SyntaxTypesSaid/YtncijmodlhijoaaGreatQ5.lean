import Derived.Test.YtncijmodlhijoaaGreatQ4
set_option linter.unusedVariables false
set_option maxRecDepth 100000
set_option maxHeartbeats 4000000
namespace Go.Proofs.YtncijmodlhijoaaGreat.Tok
open Go.Lib Utf Ran Cel Esc Dig Nam Pat
section
variable {s : ByteArray} {a : Nat}
theorem byN_tail {i : Nat} (hi : a + i < s.size) : byN (s.extract a s.size) i = byN s (a + i) := byN_ext s a s.size i (by omega) (Nat.le_refl _)
theorem dec_tail {i : Nat} (hi : a + i < s.size) : decS (s.extract a s.size) i = decS s (a + i : Nat) := (dec_part (Nat.le_refl _) (by omega) (by omega)).2.2 rfl
theorem sig_tail (ha : a ≤ s.size) (i : Nat) : sigS (s.extract a s.size) i = sigS s (a + i) := by
 have hz := part_size (a := a) (Nat.le_refl s.size)
 unfold sigS
 by_cases hi : a + i < s.size
 ·rw [byN_tail hi]
  unfold runF
  rw [bl_tail]
  by_cases h : isSmall (byN s (a + i))
  ·rw [if_pos ⟨by omega, h⟩, if_pos ⟨hi, h⟩]
  ·rw [if_neg (fun q => h q.2), if_neg (fun q => h q.2)]
 ·rw [if_neg (fun q => by omega), if_neg (fun q => hi q.1)]
theorem dgs_tail (i : Nat) : dgs (s.extract a s.size) i = dgs s (a + i) := by unfold dgs; rw [bl_tail]
theorem den_tail {i : Nat} (hi : a + i < s.size) : denS (s.extract a s.size) i = denS s (a + i) := by
 have hb := den_bd s (a + i) hi
 have hd := decS_spec s (a + i) hi
 unfold denS at hb ⊢
 rw [byN_tail hi, bl_tail, dec_tail hi]
 by_cases h1 : byN s (a + i) = 92
 ·rw [if_pos h1, if_pos h1]
 ·rw [if_neg h1] at hb
  rw [if_neg h1, if_neg h1]
  by_cases h2 : (decS s (a + i : Nat)).2.2 = false
  ·rw [if_pos h2, if_pos h2]
  ·rw [if_neg h2] at hb
   rw [if_neg h2, if_neg h2]
   by_cases h3 : kindS (decS s (a + i : Nat)).1 ≠ 0
   ·rw [if_pos h3, if_pos h3]
   ·rw [if_neg h3] at hb
    simp only at hb
    rw [if_neg h3, if_neg h3, part_part (by omega), Nat.add_assoc]
def shQ {α : Type} (a : Nat) (t : α × Int × Int × Int) : α × Int × Int × Int := if t.2.2.1 = 0 then (t.1, t.2.1 + a, 0, 0) else (t.1, t.2.1, t.2.2.1, t.2.2.2 + a)
theorem shQ_ok {α : Type} (a : Nat) (x : α) (y : Int) : shQ a (x, y, (0 : Int), (0 : Int)) = (x, y + a, 0, 0) := if_pos rfl
theorem shQ_bad {α : Type} (a : Nat) (x : α) (y e z : Int) (h : e ≠ 0) : shQ a (x, y, e, z) = (x, y, e, z + a) := if_neg h
def tkC (neg : Bool) (D : List Int) (c : Nat) (e : Bool) (i f : Int) : Int × Int × Int × Int :=
 if D = [] then (0, 0, if e = true then 5 else 19, f)
 else if c = 48 ∧ (1 < D.length ∨ neg = true) then (0, 0, 19, i)
 else if neg = true then (if 9223372036854775808 < valN D then (0, 0, 13, i) else (-(valN D : Int), f + D.length, 0, 0))
 else (if 9223372036854775807 < valN D then (0, 0, 13, i) else ((valN D : Int), f + D.length, 0, 0))
theorem tkN_c (s : ByteArray) (i : Nat) : tkN s i = if i < s.size ∧ byN s i = 45 then tkC true (dgs s (i + 1)) (byN s (i + 1)) (decide (i + 1 = s.size)) i (i + 1 : Nat) else tkC false (dgs s i) (byN s i) (decide (i = s.size)) i i := by
 unfold tkN tkC
 by_cases h : i < s.size ∧ byN s i = 45
 ·simp [h]
 ·simp [h]
theorem tkC_sh (neg : Bool) (D : List Int) (c : Nat) (e : Bool) (i f : Int) (a : Nat) : tkC neg D c e (i + a) (f + a) = shQ a (tkC neg D c e i f) := by
 unfold tkC
 by_cases h1 : D = []
 ·rw [if_pos h1, if_pos h1, shQ_bad _ _ _ _ _ (by split <;> decide)]
 rw [if_neg h1, if_neg h1]
 by_cases h2 : c = 48 ∧ (1 < D.length ∨ neg = true)
 ·rw [if_pos h2, if_pos h2, shQ_bad _ _ _ _ _ (by decide)]
 rw [if_neg h2, if_neg h2]
 by_cases h3 : neg = true
 ·rw [if_pos h3, if_pos h3]
  by_cases h4 : 9223372036854775808 < valN D
  ·rw [if_pos h4, if_pos h4, shQ_bad _ _ _ _ _ (by decide)]
  ·rw [if_neg h4, if_neg h4, shQ_ok]
   simp only [Prod.mk.injEq, true_and, and_true]; omega
 ·rw [if_neg h3, if_neg h3]
  by_cases h4 : 9223372036854775807 < valN D
  ·rw [if_pos h4, if_pos h4, shQ_bad _ _ _ _ _ (by decide)]
  ·rw [if_neg h4, if_neg h4, shQ_ok]
   simp only [Prod.mk.injEq, true_and, and_true]; omega
theorem tkN_tail (i : Nat) (hi : a + i < s.size) : tkN s (a + i) = shQ a (tkN (s.extract a s.size) i) := by
 have hz := part_size (a := a) (Nat.le_refl s.size)
 rw [tkN_c, tkN_c, hz, byN_tail hi]
 by_cases hn : byN s (a + i) = 45
 ·rw [if_pos ⟨hi, hn⟩, if_pos ⟨by omega, hn⟩, ← tkC_sh, dgs_tail, ← Nat.add_assoc]
  have e1 : ((a + i : Nat) : Int) = (i : Int) + a := by omega
  have e2 : ((a + i + 1 : Nat) : Int) = ((i + 1 : Nat) : Int) + a := by omega
  have e3 : decide (a + i + 1 = s.size) = decide (i + 1 = s.size - a) := decide_eq_decide.2 ⟨fun h => by omega, fun h => by omega⟩
  rw [e1, e2, e3]
  by_cases hf : a + (i + 1) < s.size
  ·rw [byN_tail hf, ← Nat.add_assoc]
  ·rw [dgs_end (by omega)]
   unfold tkC
   rw [if_pos rfl, if_pos rfl]
 ·rw [if_neg (fun q => hn q.2), if_neg (fun q => hn q.2), ← tkC_sh, dgs_tail]
  have e1 : ((a + i : Nat) : Int) = (i : Int) + a := by omega
  have e3 : decide (a + i = s.size) = decide (i = s.size - a) := decide_eq_decide.2 ⟨fun h => by omega, fun h => by omega⟩
  rw [e1, e3]
theorem unqF_tail (ha : a ≤ s.size) : ∀ (k i : Nat) (acc : ByteArray), s.size - (a + i) ≤ k → a + i ≤ s.size → unqF s (a + i) acc = shQ a (unqF (s.extract a s.size) i acc)
 | 0, i, acc, h, h2 => by
  have hz := part_size (a := a) (Nat.le_refl s.size)
  rw [unqF_end acc (by omega), unqF_end acc (by omega)]
  rw [hz, shQ_bad _ _ _ _ _ (by decide)]
  simp only [Prod.mk.injEq, true_and]; omega
 | k + 1, i, acc, h, h2 => by
  have hz := part_size (a := a) (Nat.le_refl s.size)
  by_cases hi : a + i < s.size
  ·rw [unqF_step acc hi, unqF_step acc (show i < (s.extract a s.size).size by omega), byN_tail hi, den_tail hi]
   have hb := den_bd s (a + i) hi
   by_cases h3 : byN s (a + i) = 34
   ·rw [if_pos h3, if_pos h3, shQ_ok]
    simp only [Prod.mk.injEq, true_and, and_true]; omega
   rw [if_neg h3, if_neg h3]
   by_cases h4 : (denS s (a + i)).1 ≠ 0
   ·rw [if_pos h4, if_pos h4, shQ_bad _ _ _ _ _ h4]
    simp only [Prod.mk.injEq, true_and]; omega
   ·rw [if_neg h4, if_neg h4]
    have h5 := hb.2.2.2.1 (by omega)
    rw [Nat.add_assoc]
    exact unqF_tail ha k (i + (denS s (a + i)).2.2) _ (by omega) (by omega)
  ·rw [unqF_end acc (by omega), unqF_end acc (by omega)]
   rw [hz, shQ_bad _ _ _ _ _ (by decide)]
   simp only [Prod.mk.injEq, true_and]; omega
theorem mark_tail {i : Nat} (hi : a + i < s.size) : markN (s.extract a s.size) i = markN s (a + i) := by
 have hz := part_size (a := a) (Nat.le_refl s.size)
 unfold markN
 rw [hz, byN_tail hi, if_neg (show ¬ s.size - a ≤ i by omega), if_neg (show ¬ s.size ≤ a + i by omega)]
 by_cases h : byN s (a + i) = 46
 ·rw [if_pos h, if_pos h]
  by_cases h1 : a + (i + 1) < s.size
  ·rw [byN_tail h1, ← Nat.add_assoc]
   by_cases h2 : byN s (a + i + 1) = 46
   ·rw [if_pos ⟨by omega, h2⟩, if_pos ⟨by omega, h2⟩]
   ·rw [if_neg (fun q => h2 q.2), if_neg (fun q => h2 q.2)]
  ·rw [if_neg (fun q => by omega), if_neg (fun q => by omega)]
 ·rw [if_neg h, if_neg h]
def mvT (a : Int) (t : Tk) : Tk := (t.1, t.2.1 + a, t.2.2.1 + a, t.2.2.2)
def mvR (a : Int) (t : Tk × Int × Int) : Tk × Int × Int := if t.2.1 = 0 then (mvT a t.1, 0, 0) else (t.1, t.2.1, t.2.2 + a)
theorem mvR_bad (a : Int) (t : Tk) (e z : Int) (h : e ≠ 0) : mvR a (t, e, z) = (t, e, z + a) := if_neg h
theorem tok_tail {i : Nat} (hi : a + i < s.size) : tokS s (a + i) = mvR a (tokS (s.extract a s.size) i) := by
 have ha : a ≤ s.size := by omega
 have e1 : ((a + i : Nat) : Int) = (i : Int) + a := by omega
 unfold tokS
 rw [sig_tail ha, byN_tail hi, mark_tail hi, dec_tail hi]
 have hz := part_size (a := a) (Nat.le_refl s.size)
 by_cases h1 : 0 < sigS s (a + i)
 ·rw [if_pos h1, if_pos h1]
  have := sig_len hi
  by_cases h : 32 < sigS s (a + i)
  ·rw [if_pos h, if_pos h, mvR_bad _ _ _ _ (by decide)]
   simp only [Prod.mk.injEq, true_and]; omega
  ·rw [if_neg h, if_neg h]
   unfold mvR mvT
   rw [if_pos rfl, part_part (by omega), Nat.add_assoc]
   simp only [Prod.mk.injEq, true_and, and_true]; omega
 rw [if_neg h1, if_neg h1]
 by_cases h2 : byN s (a + i) = 45 ∨ (48 ≤ byN s (a + i) ∧ byN s (a + i) ≤ 57)
 ·rw [if_pos h2, if_pos h2, tkN_tail i hi]
  generalize tkN (s.extract a s.size) i = T
  unfold shQ
  by_cases h : T.2.2.1 = 0
  ·rw [if_pos h, if_neg (by simp), if_neg (by omega)]
   unfold mvR mvT
   rw [if_pos rfl]
   simp only [Prod.mk.injEq, true_and, and_true]; omega
  ·rw [if_neg h, if_pos (by simpa using h), if_pos h]
   unfold mvR
   rw [if_neg h]
 rw [if_neg h2, if_neg h2]
 by_cases h3 : byN s (a + i) = 34
 ·rw [if_pos h3, if_pos h3, Nat.add_assoc, unqF_tail ha _ (i + 1) _ (Nat.le_refl _) (by omega)]
  generalize unqF (s.extract a s.size) (i + 1) ByteArray.empty = T
  unfold shQ
  by_cases h : T.2.2.1 = 0
  ·rw [if_pos h, if_neg (by simp), if_neg (by omega)]
   unfold mvR mvT
   rw [if_pos rfl]
   simp only [Prod.mk.injEq, true_and, and_true]; omega
  ·rw [if_neg h, if_pos (by simpa using h), if_pos h]
   unfold mvR
   rw [if_neg h]
 rw [if_neg h3, if_neg h3]
 by_cases h4 : 0 < markN s (a + i)
 ·have := mark_len (s := s) (i := a + i) (by omega)
  rw [if_pos h4, if_pos h4]
  unfold mvR mvT
  rw [if_pos rfl, part_part (by omega), Nat.add_assoc]
  simp only [Prod.mk.injEq, true_and, and_true]; omega
 rw [if_neg h4, if_neg h4]
 by_cases h5 : (decS s (a + i : Nat)).2.2 = false
 ·rw [if_pos h5, if_pos h5, mvR_bad _ _ _ _ (by decide)]
  simp only [Prod.mk.injEq, true_and]; omega
 ·rw [if_neg h5, if_neg h5, mvR_bad _ _ _ _ (by decide)]
  simp only [Prod.mk.injEq, true_and]; omega
end
theorem fi_take {l : List Int} {m : Nat} (h : fi l < m) : fi (l.take m) = fi l := by
 by_cases hl : fi l < l.length
 ·refine fi_hit (o := fi l) ?_ fun j hj => ?_
  ·rw [List.getElem?_take_of_lt h]
   have := List.findIdx_getElem (w := hl)
   have h2 := List.getElem?_eq_getElem hl
   rw [h2]
   unfold fi
   simpa using this
  ·rw [List.getElem?_take_of_lt (by omega)]
   intro q
   have hj2 : j < l.length := by omega
   have := List.not_of_lt_findIdx (p := fun x : Int => x == 125) (xs := l) (i := j) hj
   rw [List.getElem?_eq_getElem hj2] at q
   simp at this q
   exact this q
 ·have : l.length ≤ m := by
   have := List.findIdx_le_length (p := fun x : Int => x == 125) (xs := l)
   unfold fi at h hl
   omega
  rw [List.take_of_length_le this]
theorem uni_pre {l : List Int} {m k : Nat} {r : Int} (h : uniS l = some (r, k)) (hm : k + 2 ≤ m) : uniS (l.take m) = some (r, k) := by
 have hl := (uni_len h).1
 unfold uniS at h ⊢
 have e1 : (l.take m).head? = l.head? := by
  cases l with
  | nil => simp at hl
  | cons x l => obtain ⟨m, rfl⟩ : ∃ q, m = q + 1 := ⟨m - 1, by omega⟩; rfl
 rw [e1]
 by_cases h1 : l.head? = some 123
 ·rw [if_pos h1] at h ⊢
  have e2 : ((l.take m).drop 1).take 7 = ((l.drop 1).take 7).take (m - 1) := by
   rw [List.drop_take, List.take_take, List.take_take, Nat.min_comm]
  rw [e2]
  generalize (l.drop 1).take 7 = X at *
  split at h
  next h2 =>
   simp only [Option.some.injEq, Prod.mk.injEq] at h
   obtain ⟨h3, h4⟩ := h
   rw [h4] at h2 h3
   have e3 : fi (X.take (m - 1)) = k := by rw [fi_take (by omega), h4]
   rw [e3, List.take_take, show min k (m - 1) = k by omega, List.length_take, if_pos ⟨by omega, h2.2⟩, h3]
  next => cases h
 ·rw [if_neg h1] at h; cases h
theorem oneL_eq (b c : Int) (l : List Int) : oneL (b :: c :: l) = (if b ≠ 92 then ([], 0)
  else if c = 34 ∨ c = 92 then ([c], 2) else if c = 116 then ([9], 2) else if c = 110 then ([10], 2) else if c = 114 then ([13], 2)
  else if c = 120 then (if 2 ≤ l.length ∧ 0 ≤ hexV (l.take 2) then ([hexV (l.take 2)], 4) else ([], 0))
  else if c = 117 then (match uniS l with | some (r, k) => (encL r, k + 4) | none => ([], 0))
  else ([], 0)) := by rw [oneL]; rfl
theorem one_pre {l : List Int} {m : Nat} (h : (oneL l).2 ≠ 0) (hm : (oneL l).2 ≤ m) : oneL (l.take m) = oneL l := by
 match l, h, hm with
 | [], h, _ => simp [oneL] at h
 | [x], h, _ => simp [oneL] at h
 | b :: c :: l, h, hm =>
  have h2 : (oneL (b :: c :: l)).2 = 0 ∨ 2 ≤ (oneL (b :: c :: l)).2 := by
   rw [oneL_eq]
   (repeat' split) <;> simp
  obtain ⟨m, rfl⟩ : ∃ q, m = q + 2 := ⟨m - 2, by omega⟩
  rw [show (b :: c :: l).take (m + 2) = b :: c :: l.take m from rfl]
  rw [oneL_eq] at h hm
  rw [oneL_eq, oneL_eq]
  clear h2
  by_cases h0 : b ≠ 92
  ·rw [if_pos h0] at h; simp at h
  rw [if_neg h0] at h hm
  rw [if_neg h0, if_neg h0]
  by_cases h1 : c = 34 ∨ c = 92
  ·rw [if_pos h1, if_pos h1]
  rw [if_neg h1] at h hm
  rw [if_neg h1, if_neg h1]
  by_cases h3 : c = 116
  ·rw [if_pos h3, if_pos h3]
  rw [if_neg h3] at h hm
  rw [if_neg h3, if_neg h3]
  by_cases h4 : c = 110
  ·rw [if_pos h4, if_pos h4]
  rw [if_neg h4] at h hm
  rw [if_neg h4, if_neg h4]
  by_cases h5 : c = 114
  ·rw [if_pos h5, if_pos h5]
  rw [if_neg h5] at h hm
  rw [if_neg h5, if_neg h5]
  by_cases h6 : c = 120
  ·rw [if_pos h6] at h hm
   rw [if_pos h6, if_pos h6]
   by_cases h7 : 2 ≤ l.length ∧ 0 ≤ hexV (l.take 2)
   ·rw [if_pos h7] at hm
    simp only at hm
    rw [List.take_take, show min 2 m = 2 by omega, List.length_take, if_pos ⟨by omega, h7.2⟩, if_pos h7]
   ·rw [if_neg h7] at h; simp at h
  rw [if_neg h6] at h hm
  rw [if_neg h6, if_neg h6]
  by_cases h7 : c = 117
  ·rw [if_pos h7] at h hm
   rw [if_pos h7, if_pos h7]
   cases hu : uniS l with
   | none => rw [hu] at h; simp at h
   | some x =>
    obtain ⟨r, k⟩ := x
    rw [hu] at hm
    simp only at hm
    rw [uni_pre hu (by omega)]
  ·rw [if_neg h7] at h; simp at h
section
variable {s : ByteArray} {e : Nat}
theorem pre_size (he : e ≤ s.size) : (s.extract 0 e).size = e := by rw [part_size he]; omega
theorem byN_pre {i : Nat} (he : e ≤ s.size) (hi : i < e) : byN (s.extract 0 e) i = byN s i := by have := byN_ext s 0 e i (by omega) he; rwa [Nat.zero_add] at this
theorem pre_part {i j : Nat} (h : j ≤ e) : (s.extract 0 e).extract i j = s.extract i j := by
 have := part_part (s := s) (a := 0) (b := e) (i := i) (j := j) (by omega)
 simpa using this
theorem dec_pre {i : Nat} (he : e ≤ s.size) (hi : i < e) (h : (decS s (i : Nat)).2.2 = true) (hl : i + (decS s (i : Nat)).2.1.toNat ≤ e) : decS (s.extract 0 e) i = decS s (i : Nat) := by
 have h1 := (dec_part (s := s) (a := 0) (b := e) (i := i) he (by omega) (by omega)).2.1
 have hd := decS_spec s i (by omega)
 rw [Nat.zero_add] at h1
 exact h1 h (by omega)
theorem den_pre {i : Nat} (he : e ≤ s.size) (hi : i < e) (h0 : (denS s i).1 = 0) (hl : i + (denS s i).2.2 ≤ e) : denS (s.extract 0 e) i = denS s i := by
 unfold denS at h0 hl ⊢
 rw [byN_pre he hi]
 have hb : (bl (s.extract 0 e)).drop i = ((bl s).drop i).take (e - i) := by have := bl_part s 0 e i; rwa [Nat.zero_add] at this
 by_cases h1 : byN s i = 92
 ·rw [if_pos h1] at h0 hl
  rw [if_pos h1, if_pos h1, hb]
  by_cases h2 : (oneL ((bl s).drop i)).2 = 0
  ·rw [if_pos h2] at h0; simp at h0
  ·rw [if_neg h2] at hl
   simp only at hl
   rw [one_pre h2 (by omega)]
 ·rw [if_neg h1] at h0 hl
  rw [if_neg h1, if_neg h1]
  by_cases h2 : (decS s (i : Nat)).2.2 = false
  ·rw [if_pos h2] at h0; simp at h0
  ·rw [if_neg h2] at h0 hl
   by_cases h3 : kindS (decS s (i : Nat)).1 ≠ 0
   ·rw [if_pos h3] at h0; simp at h0
   ·rw [if_neg h3] at hl
    simp only at hl
    rw [dec_pre he hi (by simpa using h2) hl, pre_part hl]
theorem unqF_pre (he : e ≤ s.size) : ∀ (k i : Nat) (acc : ByteArray), s.size - i ≤ k → (unqF s i acc).2.2.1 = 0 → (unqF s i acc).2.1 = e → unqF (s.extract 0 e) i acc = unqF s i acc
 | 0, i, acc, h, h0, h1 => by rw [unqF_end acc (by omega)] at h0; simp at h0
 | k + 1, i, acc, h, h0, h1 => by
  by_cases hi : i < s.size
  ·have hb := den_bd s i hi
   have hbd := unqF_bd (s := s) (k + 1) i acc h (by omega)
   have hie : i < e := by have := (hbd.1 h0).1; omega
   rw [unqF_step acc hi] at h0 h1 ⊢
   rw [unqF_step acc (show i < (s.extract 0 e).size by rw [pre_size he]; exact hie), byN_pre he hie]
   by_cases h3 : byN s i = 34
   ·rw [if_pos h3, if_pos h3]
   rw [if_neg h3] at h0 h1 ⊢
   rw [if_neg h3]
   by_cases h4 : (denS s i).1 ≠ 0
   ·rw [if_pos h4] at h0; exact absurd h0 h4
   ·rw [if_neg h4] at h0 h1 ⊢
    have h5 := hb.2.2.2.1 (by omega)
    have hbd2 := unqF_bd (s := s) k (i + (denS s i).2.2) (acc ++ (denS s i).2.1) (by omega) (by omega)
    have := (hbd2.1 h0).1
    rw [den_pre he hie (by omega) (by omega), if_neg h4]
    exact unqF_pre he k _ _ (by omega) h0 h1
  ·rw [unqF_end acc (by omega)] at h0; simp at h0
end
theorem small_sign' {c : Nat} (h : isSmall c) : isSign c := .inl h
theorem tkN_pre {s : ByteArray} {e : Nat} (h0 : 0 < s.size) (he : e ≤ s.size) (he0 : 0 < e) (h : (tkN s 0).2.2.1 = 0) (hx : (tkN s 0).2.1 = e) : tkN (s.extract 0 e) 0 = tkN s 0 := by
 have hz := pre_size he
 have hd : ∀ f, f + (dgs s f).length = e → dgs (s.extract 0 e) f = dgs s f := fun f hf => by
  unfold dgs
  have hb : (bl (s.extract 0 e)).drop f = ((bl s).drop f).take (e - f) := by have := bl_part s 0 e f; rwa [Nat.zero_add] at this
  rw [hb, take_while]
  refine List.take_of_length_le ?_
  unfold dgs at hf
  omega
 have key : ∀ (neg : Bool) (f : Nat) (e1 e2 : Bool), (tkC neg (dgs s f) (byN s f) e1 0 f).2.2.1 = 0 → (tkC neg (dgs s f) (byN s f) e1 0 f).2.1 = e → tkC neg (dgs (s.extract 0 e) f) (byN (s.extract 0 e) f) e2 0 f = tkC neg (dgs s f) (byN s f) e1 0 f := by
  intro neg f e1 e2 q1 q2
  unfold tkC at q1 q2 ⊢
  by_cases h1 : dgs s f = []
  ·rw [if_pos h1] at q1
   cases e1 <;> simp at q1
  rw [if_neg h1] at q1 q2 ⊢
  have hl := List.length_pos_iff.2 h1
  by_cases h2 : byN s f = 48 ∧ (1 < (dgs s f).length ∨ neg = true)
  ·rw [if_pos h2] at q1; simp at q1
  rw [if_neg h2] at q1 q2 ⊢
  have hf : f + (dgs s f).length = e := by
   by_cases h3 : neg = true
   ·rw [if_pos h3] at q1 q2
    by_cases h4 : 9223372036854775808 < valN (dgs s f)
    ·rw [if_pos h4] at q1; simp at q1
    ·rw [if_neg h4] at q2; simp only at q2; omega
   ·rw [if_neg h3] at q1 q2
    by_cases h4 : 9223372036854775807 < valN (dgs s f)
    ·rw [if_pos h4] at q1; simp at q1
    ·rw [if_neg h4] at q2; simp only at q2; omega
  rw [hd f hf, byN_pre he (by omega), if_neg h1, if_neg h2]
 rw [tkN_c] at h hx
 rw [tkN_c, tkN_c, hz, byN_pre he he0]
 by_cases hn : byN s 0 = 45
 ·rw [if_pos ⟨h0, hn⟩] at h hx
  rw [if_pos ⟨he0, hn⟩, if_pos ⟨h0, hn⟩]
  exact key true (0 + 1) _ _ h hx
 ·rw [if_neg (fun q => hn q.2)] at h hx
  rw [if_neg (fun q => hn q.2), if_neg (fun q => hn q.2)]
  have e1 : byN s 0 = byN (s.extract 0 e) 0 := (byN_pre he he0).symm
  have := key false 0 _ (decide (0 = e)) h hx
  rw [← e1] at this
  exact this
theorem mark_pre {s : ByteArray} (h0 : 0 < s.size) (h : 0 < markN s 0) : markN (s.extract 0 (markN s 0)) 0 = markN s 0 := by
 have hl := mark_len (s := s) (i := 0) (by omega)
 have he : markN s 0 ≤ s.size := by omega
 have hz := pre_size he
 have hb := byN_pre (i := 0) he h
 have hb1 : 1 < markN s 0 → byN (s.extract 0 (markN s 0)) 1 = byN s 1 := fun q => byN_pre he q
 have e : markN s 0 = if byN s 0 = 46 then (if 0 + 1 < s.size ∧ byN s (0 + 1) = 46 then 2 else 0) else if markL.contains (byN s 0) then 1 else 0 := by
  rw [markN, if_neg (by omega)]
 generalize markN s 0 = m at *
 unfold markN
 rw [hz, if_neg (by omega), hb]
 by_cases h1 : byN s 0 = 46
 ·rw [if_pos h1] at e ⊢
  by_cases h2 : 0 + 1 < s.size ∧ byN s (0 + 1) = 46
  ·rw [if_pos h2] at e
   rw [if_pos ⟨by omega, by rw [Nat.zero_add, hb1 (by omega)]; exact h2.2⟩, e]
  ·rw [if_neg h2] at e; omega
 ·rw [if_neg h1] at e ⊢
  exact e.symm
theorem sig_pos {s : ByteArray} {i : Nat} : 0 < sigS s i ↔ i < s.size ∧ isSmall (byN s i) := by
 unfold sigS
 constructor
 ·intro h
  split at h
  ·assumption
  ·omega
 ·intro h
  rw [if_pos h]
  rw [runF_step h.1 (small_sign' h.2)]
  omega
theorem sig_pre {s : ByteArray} (h0 : 0 < sigS s 0) : sigS (s.extract 0 (sigS s 0)) 0 = sigS s 0 := by
 obtain ⟨h1, h2⟩ := sig_pos.1 h0
 have hl := sig_len h1
 have he : sigS s 0 ≤ s.size := by omega
 have e1 : sigS s 0 = runF s 0 := by unfold sigS; rw [if_pos ⟨h1, h2⟩]
 have e2 : sigS (s.extract 0 (sigS s 0)) 0 = runF (s.extract 0 (sigS s 0)) 0 := by
  rw [sigS, if_pos ⟨by rw [pre_size he]; exact h0, by rw [byN_pre he h0]; exact h2⟩]
 rw [e2]
 have hb : (bl (s.extract 0 (sigS s 0))).drop 0 = ((bl s).drop 0).take (sigS s 0) := by have := bl_part s 0 (sigS s 0) 0; simpa using this
 unfold runF at e1 ⊢
 rw [hb, take_while, List.length_take, ← e1, Nat.min_self]
theorem tok_pre {s : ByteArray} (h0 : 0 < s.size) (h : (tokS s 0).2.1 = 0) {e : Nat} (he : (tokS s 0).1.2.2.1 = e) : tokS (s.extract 0 e) 0 = tokS s 0 := by
 have hbd := (tok_bd h0).1 h
 rw [he] at hbd
 have hes : e ≤ s.size := by omega
 have he0 : 0 < e := by omega
 have hz := pre_size hes
 unfold tokS at h he ⊢
 by_cases h1 : 0 < sigS s 0
 ·rw [if_pos h1] at h he
  by_cases h2 : 32 < sigS s 0
  ·rw [if_pos h2] at h; simp at h
  ·rw [if_neg h2] at he
   simp only [Nat.zero_add] at he
   obtain rfl : sigS s 0 = e := by omega
   rw [sig_pre h1, if_pos h1, if_pos h1, if_neg h2, if_neg h2, Nat.zero_add, pre_part (Nat.le_refl _)]
 have g1 : ¬ 0 < sigS (s.extract 0 e) 0 := fun q => by
  have := sig_pos.1 q
  rw [byN_pre hes he0] at this
  exact h1 (sig_pos.2 ⟨h0, this.2⟩)
 rw [if_neg h1] at h he
 rw [if_neg g1, if_neg h1, byN_pre hes he0]
 by_cases h2 : byN s 0 = 45 ∨ (48 ≤ byN s 0 ∧ byN s 0 ≤ 57)
 ·rw [if_pos h2] at h he
  rw [if_pos h2, if_pos h2]
  by_cases h3 : (tkN s 0).2.2.1 ≠ 0
  ·rw [if_pos h3] at h; exact absurd h h3
  ·rw [if_neg h3] at he
   simp only at he
   have : tkN (s.extract 0 e) 0 = tkN s 0 := tkN_pre h0 hes he0 (by omega) he
   rw [this]
 rw [if_neg h2] at h he
 rw [if_neg h2, if_neg h2]
 by_cases h3 : byN s 0 = 34
 ·rw [if_pos h3] at h he
  rw [if_pos h3, if_pos h3]
  by_cases h4 : (unqF s (0 + 1) ByteArray.empty).2.2.1 ≠ 0
  ·rw [if_pos h4] at h; exact absurd h h4
  ·rw [if_neg h4] at he
   simp only at he
   rw [unqF_pre hes _ (0 + 1) _ (Nat.le_refl _) (by omega) he]
 rw [if_neg h3] at h he
 rw [if_neg h3, if_neg h3]
 by_cases h4 : 0 < markN s 0
 ·rw [if_pos h4] at he
  simp only [Nat.zero_add] at he
  obtain rfl : markN s 0 = e := by omega
  have : markN (s.extract 0 (markN s 0)) 0 = markN s 0 := mark_pre h0 h4
  rw [this, if_pos h4, if_pos h4, Nat.zero_add, pre_part (Nat.le_refl _)]
 rw [if_neg h4] at h
 split at h <;> simp at h
abbrev Sc := Option (List Tk) × Int × Int
def preT (l : List Tk) (x : Sc) : Sc := (x.1.map (l ++ ·), x.2)
theorem pre_nil (x : Sc) : preT [] x = x := by
 obtain ⟨o, e⟩ := x
 unfold preT
 cases o <;> rfl
theorem pre_pre (l m : List Tk) (x : Sc) : preT l (preT m x) = preT (l ++ m) x := by
 obtain ⟨o, e⟩ := x
 unfold preT
 cases o <;> simp
theorem pre_none (l : List Tk) (e : Int × Int) : preT l (none, e) = (none, e) := rfl
def endT (s : ByteArray) : Tk := (0, s.size, s.size, ByteArray.empty, 0)
def inB (c : Nat) (b : Bool) : Bool := (b && !decide (c = 10)) || decide (c = 59)
def scnF (s : ByteArray) : Nat → Nat → Bool → Sc
  | 0, _, _ => (none, 0, 0)
  | k + 1, i, b =>
    if i < s.size then
      (if inB (byN s i) b = false then
        (if blankB (byN s i) = true then scnF s k (i + 1) false
         else if (tokS s i).2.1 ≠ 0 then (none, (tokS s i).2) else preT [(tokS s i).1] (scnF s k (tokS s i).1.2.2.1.toNat false))
       else if (decS s i).2.2 = false then (none, 2, i)
       else if (decS s i).1 ≠ 9 ∧ kindS (decS s i).1 ≠ 0 then (none, 3, i)
       else scnF s k (i + (decS s i).2.1.toNat) true)
    else (some [endT s], 0, 0)
def scnI (s : ByteArray) (i : Nat) (b : Bool) : Sc := scnF s (s.size + 1 - i) i b
theorem scnF_fuel (s : ByteArray) : ∀ (k i : Nat) (b : Bool), s.size < i + k → i ≤ s.size → scnF s k i b = scnI s i b
 | 0, i, b, h, h2 => by omega
 | k + 1, i, b, h, h2 => by
  unfold scnI
  by_cases hi : i < s.size
  ·obtain ⟨m, hm⟩ : ∃ m, s.size + 1 - i = m + 1 := ⟨s.size - i, by omega⟩
   have hd := decS_spec s i hi
   have ht := tok_bd hi
   rw [hm, scnF, scnF, if_pos hi, if_pos hi]
   by_cases h1 : inB (byN s i) b = false
   ·rw [if_pos h1, if_pos h1]
    by_cases h3 : blankB (byN s i) = true
    ·rw [if_pos h3, if_pos h3, scnF_fuel s k _ _ (by omega) (by omega), scnF_fuel s m _ _ (by omega) (by omega)]
    ·rw [if_neg h3, if_neg h3]
     by_cases h4 : (tokS s i).2.1 ≠ 0
     ·rw [if_pos h4, if_pos h4]
     ·have := ht.1 (by omega)
      rw [if_neg h4, if_neg h4, scnF_fuel s k _ _ (by omega) (by omega), scnF_fuel s m _ _ (by omega) (by omega)]
   ·rw [if_neg h1, if_neg h1]
    by_cases h3 : (decS s i).2.2 = false
    ·rw [if_pos h3, if_pos h3]
    rw [if_neg h3, if_neg h3]
    by_cases h4 : (decS s i).1 ≠ 9 ∧ kindS (decS s i).1 ≠ 0
    ·rw [if_pos h4, if_pos h4]
    ·rw [if_neg h4, if_neg h4, scnF_fuel s k _ _ (by omega) (by omega), scnF_fuel s m _ _ (by omega) (by omega)]
  ·obtain ⟨m, hm⟩ : ∃ m, s.size + 1 - i = m + 1 := ⟨s.size - i, by omega⟩
   rw [hm, scnF, scnF, if_neg hi, if_neg hi]
theorem scn_end {s : ByteArray} {i : Nat} (b : Bool) (h : i = s.size) : scnI s i b = (some [endT s], 0, 0) := by
 subst h
 unfold scnI
 rw [show s.size + 1 - s.size = 0 + 1 by omega, scnF, if_neg (by omega)]
theorem scn_step {s : ByteArray} {i : Nat} (b : Bool) (h : i < s.size) : scnI s i b =
    if inB (byN s i) b = false then
      (if blankB (byN s i) = true then scnI s (i + 1) false
       else if (tokS s i).2.1 ≠ 0 then (none, (tokS s i).2) else preT [(tokS s i).1] (scnI s (tokS s i).1.2.2.1.toNat false))
     else if (decS s i).2.2 = false then (none, 2, (i : Int))
     else if (decS s i).1 ≠ 9 ∧ kindS (decS s i).1 ≠ 0 then (none, 3, (i : Int))
     else scnI s (i + (decS s i).2.1.toNat) true := by
  have hd := decS_spec s i h
  have ht := tok_bd h
  have e : scnI s i b = scnF s (s.size + 2) i b := (scnF_fuel s (s.size + 2) i b (by omega) (by omega)).symm
  rw [e, scnF, if_pos h]
  by_cases h1 : inB (byN s i) b = false
  · rw [if_pos h1, if_pos h1]
    by_cases h3 : blankB (byN s i) = true
    · rw [if_pos h3, if_pos h3, scnF_fuel s _ _ _ (by omega) (by omega)]
    · rw [if_neg h3, if_neg h3]
      by_cases h4 : (tokS s i).2.1 ≠ 0
      · rw [if_pos h4, if_pos h4]
      · have := ht.1 (by omega)
        rw [if_neg h4, if_neg h4, scnF_fuel s _ _ _ (by omega) (by omega)]
  · rw [if_neg h1, if_neg h1]
    by_cases h3 : (decS s i).2.2 = false
    · rw [if_pos h3, if_pos h3]
    rw [if_neg h3, if_neg h3]
    by_cases h4 : (decS s i).1 ≠ 9 ∧ kindS (decS s i).1 ≠ 0
    · rw [if_pos h4, if_pos h4]
    · rw [if_neg h4, if_neg h4, scnF_fuel s _ _ _ (by omega) (by omega)]
def scnS (s : ByteArray) : Sc := if 65536 < s.size then (none, 7, 65536) else scnI s 0 false
inductive Gap (s : ByteArray) : Nat → Bool → Nat → Prop
 | nil (i : Nat) (b : Bool) : Gap s i b i
 | blank (i : Nat) (b : Bool) (j : Nat) : i < s.size → inB (byN s i) b = false → blankB (byN s i) = true → Gap s (i + 1) false j → Gap s i b j
 | com (i : Nat) (b : Bool) (j : Nat) : i < s.size → inB (byN s i) b = true → (decS s (i : Nat)).2.2 = true → ¬ ((decS s (i : Nat)).1 ≠ 9 ∧ kindS (decS s (i : Nat)).1 ≠ 0) → Gap s (i + (decS s (i : Nat)).2.1.toNat) true j → Gap s i b j
theorem Gap.le {s : ByteArray} {i j : Nat} {b : Bool} (h : Gap s i b j) : i ≤ j := by
 induction h with
 | nil i b => exact Nat.le_refl _
 | blank i b j h1 h2 h3 h4 ih => omega
 | com i b j h1 h2 h3 h4 h5 ih => omega
theorem Gap.alone {s : ByteArray} {a i j : Nat} {b : Bool} (h : Gap s i b j) (hj : j ≤ s.size) (ha : a ≤ i) : scnI (s.extract a j) (i - a) b = (some [endT (s.extract a j)], 0, 0) := by
 induction h with
 | nil i b => exact scn_end _ (by rw [part_size hj])
 | blank i b j h1 h2 h3 h4 ih =>
  have hij := h4.le
  have hz := part_size (a := a) hj
  have hb : byN (s.extract a j) (i - a) = byN s i := by rw [byN_ext s a j (i - a) (by omega) hj, show a + (i - a) = i by omega]
  rw [scn_step b (by omega), hb, if_pos h2, if_pos h3, show i - a + 1 = i + 1 - a by omega]
  exact ih hj (by omega)
 | com i b j h1 h2 h3 h4 h5 ih =>
  have hij := h5.le
  have hz := part_size (a := a) hj
  have hd := decS_spec s i h1
  have hlt : i < j := by omega
  have hb : byN (s.extract a j) (i - a) = byN s i := by rw [byN_ext s a j (i - a) (by omega) hj, show a + (i - a) = i by omega]
  have hde : decS (s.extract a j) ((i - a : Nat) : Int) = decS s (i : Nat) := by
   have := (dec_part (s := s) (a := a) (b := j) (i := i - a) hj (by omega) (by omega)).2.1
   rw [show a + (i - a) = i by omega] at this
   exact this h3 (by omega)
  rw [scn_step b (by omega), hb, if_neg (by rw [h2]; simp), hde, if_neg (by rw [h3]; simp), if_neg h4, show i - a + (decS s (i : Nat)).2.1.toNat = i + (decS s (i : Nat)).2.1.toNat - a by omega]
  exact ih hj (by omega)
theorem scn_cases {s : ByteArray} : ∀ (k i : Nat) (b : Bool) (l : List Tk) (e : Int × Int), s.size - i ≤ k → i ≤ s.size → scnI s i b = (some l, e) → e = (0, 0) ∧ ((l = [endT s] ∧ Gap s i b s.size) ∨
  ∃ (j : Nat) (l' : List Tk), l = (tokS s j).1 :: l' ∧ Gap s i b j ∧ j < s.size ∧ blankB (byN s j) = false ∧ byN s j ≠ 59 ∧ (tokS s j).2.1 = 0 ∧ scnI s (tokS s j).1.2.2.1.toNat false = (some l', 0, 0))
 | 0, i, b, l, e, h, h2, hs => by
  rw [scn_end b (by omega)] at hs
  simp only [Prod.mk.injEq, Option.some.injEq] at hs
  obtain ⟨rfl, rfl⟩ := hs
  exact ⟨rfl, .inl ⟨rfl, by rw [show i = s.size by omega]; exact .nil _ _⟩⟩
 | k + 1, i, b, l, e, h, h2, hs => by
  by_cases hi : i < s.size
  ·have hd := decS_spec s i hi
   rw [scn_step b hi] at hs
   by_cases h1 : inB (byN s i) b = false
   ·rw [if_pos h1] at hs
    by_cases h3 : blankB (byN s i) = true
    ·rw [if_pos h3] at hs
     obtain ⟨he, hc⟩ := scn_cases k (i + 1) false l e (by omega) (by omega) hs
     refine ⟨he, ?_⟩
     rcases hc with ⟨q1, q2⟩ | ⟨j, l', q1, q2, q3⟩
     ·exact .inl ⟨q1, .blank i b _ hi h1 h3 q2⟩
     ·exact .inr ⟨j, l', q1, .blank i b _ hi h1 h3 q2, q3⟩
    ·rw [if_neg h3] at hs
     by_cases h4 : (tokS s i).2.1 ≠ 0
     ·rw [if_pos h4] at hs; simp at hs
     ·rw [if_neg h4] at hs
      have ht := (tok_bd hi).1 (by omega)
      cases hx : scnI s (tokS s i).1.2.2.1.toNat false with
      | mk o e2 =>
       rw [hx] at hs
       unfold preT at hs
       cases o with
       | none => simp at hs
       | some l' =>
        simp only [Option.map_some, Prod.mk.injEq, Option.some.injEq, List.singleton_append] at hs
        obtain ⟨rfl, rfl⟩ := hs
        have he := (scn_cases k _ false l' e2 (by omega) (by omega) hx).1
        subst he
        exact ⟨rfl, .inr ⟨i, l', rfl, .nil i b, hi, by simpa using h3, by unfold inB at h1; simp at h1; exact h1.2, by omega, hx⟩⟩
   ·rw [if_neg h1] at hs
    by_cases h3 : (decS s i).2.2 = false
    ·rw [if_pos h3] at hs; simp at hs
    rw [if_neg h3] at hs
    by_cases h4 : (decS s i).1 ≠ 9 ∧ kindS (decS s i).1 ≠ 0
    ·rw [if_pos h4] at hs; simp at hs
    ·rw [if_neg h4] at hs
     obtain ⟨he, hc⟩ := scn_cases k _ true l e (by omega) (by omega) hs
     refine ⟨he, ?_⟩
     have h1' : inB (byN s i) b = true := by simpa using h1
     have h3' : (decS s (i : Nat)).2.2 = true := by simpa using h3
     rcases hc with ⟨q1, q2⟩ | ⟨j, l', q1, q2, q3⟩
     ·exact .inl ⟨q1, .com i b _ hi h1' h3' h4 q2⟩
     ·exact .inr ⟨j, l', q1, .com i b _ hi h1' h3' h4 q2, q3⟩
  ·rw [scn_end b (by omega)] at hs
   simp only [Prod.mk.injEq, Option.some.injEq] at hs
   obtain ⟨rfl, rfl⟩ := hs
   exact ⟨rfl, .inl ⟨rfl, by rw [show i = s.size by omega]; exact .nil _ _⟩⟩
theorem scn_fault {s : ByteArray} : ∀ (k i : Nat) (b : Bool) (e z : Int), s.size - i ≤ k → i ≤ s.size → scnI s i b = (none, e, z) → 0 < e ∧ e ≤ 19 ∧ 0 ≤ z ∧ z ≤ s.size
 | 0, i, b, e, z, h, h2, hs => by
  rw [scn_end b (by omega)] at hs; simp at hs
 | k + 1, i, b, e, z, h, h2, hs => by
  by_cases hi : i < s.size
  ·have hd := decS_spec s i hi
   rw [scn_step b hi] at hs
   by_cases h1 : inB (byN s i) b = false
   ·rw [if_pos h1] at hs
    by_cases h3 : blankB (byN s i) = true
    ·rw [if_pos h3] at hs
     exact scn_fault k (i + 1) false e z (by omega) (by omega) hs
    ·rw [if_neg h3] at hs
     by_cases h4 : (tokS s i).2.1 ≠ 0
     ·have ht := (tok_bd hi).2 h4
      rw [if_pos h4] at hs
      simp only [Prod.mk.injEq, true_and] at hs
      have e1 := congrArg Prod.fst hs
      have e2 := congrArg Prod.snd hs
      simp only at e1 e2
      omega
     ·rw [if_neg h4] at hs
      have ht := (tok_bd hi).1 (by omega)
      cases hx : scnI s (tokS s i).1.2.2.1.toNat false with
      | mk o e2 =>
       rw [hx] at hs
       unfold preT at hs
       cases o with
       | some l' => simp at hs
       | none =>
        simp only [Option.map_none, Prod.mk.injEq, true_and] at hs
        subst hs
        exact scn_fault k _ false e z (by omega) (by omega) hx
   ·rw [if_neg h1] at hs
    by_cases h3 : (decS s i).2.2 = false
    ·rw [if_pos h3] at hs
     simp only [Prod.mk.injEq, true_and] at hs
     omega
    rw [if_neg h3] at hs
    by_cases h4 : (decS s i).1 ≠ 9 ∧ kindS (decS s i).1 ≠ 0
    ·rw [if_pos h4] at hs
     simp only [Prod.mk.injEq, true_and] at hs
     omega
    ·rw [if_neg h4] at hs
     exact scn_fault k _ true e z (by omega) (by omega) hs
  ·rw [scn_end b (by omega)] at hs; simp at hs
def mvS (a : Nat) (x : Sc) : Sc := match x.1 with
 | some l => (some (l.map (mvT a)), x.2)
 | none => (none, x.2.1, x.2.2 + a)
theorem mv_pre (a : Nat) (l : List Tk) (x : Sc) : mvS a (preT l x) = preT (l.map (mvT a)) (mvS a x) := by
 obtain ⟨o, e⟩ := x
 unfold mvS preT
 cases o <;> simp
theorem scn_tail {s : ByteArray} {a : Nat} (ha : a ≤ s.size) : ∀ (k i : Nat) (b : Bool), s.size - (a + i) ≤ k → a + i ≤ s.size → scnI s (a + i) b = mvS a (scnI (s.extract a s.size) i b)
 | 0, i, b, h, h2 => by
  have hz := part_size (a := a) (Nat.le_refl s.size)
  rw [scn_end b (by omega), scn_end b (by omega)]
  unfold mvS endT mvT
  simp only [List.map_cons, List.map_nil, Prod.mk.injEq, Option.some.injEq, List.cons.injEq, and_true, true_and]
  omega
 | k + 1, i, b, h, h2 => by
  have hz := part_size (a := a) (Nat.le_refl s.size)
  by_cases hi : a + i < s.size
  ·have hd := decS_spec s (a + i) hi
   rw [scn_step b hi, scn_step b (show i < (s.extract a s.size).size by omega), byN_tail hi, dec_tail hi]
   by_cases h1 : inB (byN s (a + i)) b = false
   ·rw [if_pos h1, if_pos h1]
    by_cases h3 : blankB (byN s (a + i)) = true
    ·rw [if_pos h3, if_pos h3, Nat.add_assoc]
     exact scn_tail ha k (i + 1) false (by omega) (by omega)
    ·rw [if_neg h3, if_neg h3]
     have ht := tok_tail hi
     have hb1 := tok_bd (s := s.extract a s.size) (i := i) (by omega)
     rw [hz] at hb1
     rw [ht]
     generalize tokS (s.extract a s.size) i = T at *
     unfold mvR
     by_cases h4 : T.2.1 = 0
     ·have hb := hb1.1 h4
      rw [if_pos h4, if_neg (by simp), if_neg (by omega), mv_pre]
      simp only [List.map_cons, List.map_nil]
      have e1 : (mvT a T.1).2.2.1.toNat = a + T.1.2.2.1.toNat := by unfold mvT; simp only; omega
      rw [e1, scn_tail ha k T.1.2.2.1.toNat false (by omega) (by omega)]
     ·rw [if_neg h4, if_pos (by simpa using h4), if_pos h4]
      rfl
   ·rw [if_neg h1, if_neg h1]
    by_cases h3 : (decS s (a + i : Nat)).2.2 = false
    ·rw [if_pos h3, if_pos h3]
     unfold mvS
     simp only [Prod.mk.injEq, true_and]; omega
    rw [if_neg h3, if_neg h3]
    by_cases h4 : (decS s (a + i : Nat)).1 ≠ 9 ∧ kindS (decS s (a + i : Nat)).1 ≠ 0
    ·rw [if_pos h4, if_pos h4]
     unfold mvS
     simp only [Prod.mk.injEq, true_and]; omega
    ·rw [if_neg h4, if_neg h4, Nat.add_assoc]
     exact scn_tail ha k _ true (by omega) (by omega)
  ·rw [scn_end b (by omega), scn_end b (by omega)]
   unfold mvS endT mvT
   simp only [List.map_cons, List.map_nil, Prod.mk.injEq, Option.some.injEq, List.cons.injEq, and_true, true_and]
   omega
theorem scn_alone {s : ByteArray} {j : Nat} (hj : j < s.size) (hb : blankB (byN s j) = false) (hc : byN s j ≠ 59) (h : (tokS s j).2.1 = 0) :
  scnI (s.extract j (tokS s j).1.2.2.1.toNat) 0 false = (some [((tokS s j).1.1, 0, (tokS s j).1.2.2.1 - j, (tokS s j).1.2.2.2), endT (s.extract j (tokS s j).1.2.2.1.toNat)], 0, 0) := by
 have ht := (tok_bd hj).1 h
 have h1 := tok_tail (s := s) (a := j) (i := 0) (by omega)
 rw [Nat.add_zero] at h1
 have hz := part_size (a := j) (Nat.le_refl s.size)
 obtain ⟨T, hT⟩ : ∃ T, tokS (s.extract j s.size) 0 = T := ⟨_, rfl⟩
 rw [hT] at h1
 have hT0 : T.2.1 = 0 := by
  by_cases q : T.2.1 = 0
  ·exact q
  ·unfold mvR at h1
   rw [if_neg q] at h1
   rw [h1] at h
   exact absurd h q
 have hT2 : T.2.2 = 0 := by
  have := (tok_bd (s := s.extract j s.size) (i := 0) (by omega)).1 (by rw [hT]; exact hT0)
  rw [hT] at this
  exact this.1
 unfold mvR at h1
 rw [if_pos hT0] at h1
 obtain ⟨e, he⟩ : ∃ e : Nat, T.1.2.2.1 = e := ⟨T.1.2.2.1.toNat, by
  have := (tok_bd (s := s.extract j s.size) (i := 0) (by omega)).1 (by rw [hT]; exact hT0)
  rw [hT] at this
  omega⟩
 have hbd := (tok_bd (s := s.extract j s.size) (i := 0) (by omega)).1 (by rw [hT]; exact hT0)
 rw [hT, he] at hbd
 have hp := tok_pre (s := s.extract j s.size) (by omega) (by rw [hT]; exact hT0) (e := e) (by rw [hT]; exact he)
 have e1 : (tokS s j).1.2.2.1.toNat = j + e := by rw [h1]; unfold mvT; simp only; omega
 have e2 : (s.extract j s.size).extract 0 e = s.extract j (j + e) := by rw [part_part (by omega), Nat.add_zero]
 rw [e2, hT] at hp
 rw [e1]
 have hz2 := part_size (s := s) (a := j) (b := j + e) (by omega)
 have hb0 : byN (s.extract j (j + e)) 0 = byN s j := by rw [byN_ext s j (j + e) 0 (by omega) (by omega), Nat.add_zero]
 rw [scn_step false (by omega), hb0, if_pos (by unfold inB; simp [hc]), if_neg (by rw [hb]; simp), hp, if_neg (by omega), he, Int.toNat_natCast, scn_end false (by omega)]
 unfold preT
 simp only [Option.map_some, List.singleton_append, Prod.mk.injEq, Option.some.injEq, List.cons.injEq, and_true]
 rw [h1]
 unfold mvT
 obtain ⟨⟨k, a, z, x, n⟩, q⟩ := T
 simp only [Prod.mk.injEq, and_true, true_and] at he hbd ⊢
 omega
end Go.Proofs.YtncijmodlhijoaaGreat.Tok
