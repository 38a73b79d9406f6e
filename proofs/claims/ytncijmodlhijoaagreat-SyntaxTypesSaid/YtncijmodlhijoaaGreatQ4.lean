import Derived.Test.YtncijmodlhijoaaGreatQ3
import Derived.Test.YtncijmodlhijoaaGreatQ0
import GoSem.Op.String
set_option linter.unusedVariables false
set_option maxRecDepth 100000
set_option maxHeartbeats 4000000
namespace Go.Proofs.YtncijmodlhijoaaGreat.Saf
open Go.Lib Utf Ran Cel Esc
def badU (s : ByteArray) (i : Nat) : Int := if (decS s i).2.2 = false then 2 else if (decS s i).1 ≠ 10 ∧ kindS (decS s i).1 ≠ 0 then 3 else 0
def firGo (s : ByteArray) : Nat → Nat → Nat
 | 0, i => i
 | k + 1, i => if i < s.size ∧ badU s i = 0 then firGo s k (i + (decS s i).2.1.toNat) else i
def firF (s : ByteArray) (i : Nat) : Nat := firGo s (s.size - i) i
def firS (s : ByteArray) : Nat := firF s 0
def scU (s : ByteArray) (i : Nat) : ByteArray × Nat := if byN s i = 10 ∨ byN s i = 34 then (s.extract i (i + 1), 1) else unS s i
theorem ascii_dec {s : ByteArray} {i : Nat} (hi : i < s.size) (h : byN s i < 128) : decS s i = ((byN s i : Int), 1, true) := by
 have h10 : leadL (byN s i) = (((1 : Nat) : Int), 0, 0) := by unfold leadL; rw [if_pos (by omega)]; rfl
 rw [decS_in hi h10 (by omega)]
 simp [decGo, markL]
def scGo (s : ByteArray) : Nat → Nat → ByteArray
 | 0, _ => ByteArray.empty
 | k + 1, i => if i < s.size then (scU s i).1 ++ scGo s k (i + (scU s i).2) else ByteArray.empty
def scF (s : ByteArray) (i : Nat) : ByteArray := scGo s (s.size - i) i
def scrubS (s : ByteArray) : ByteArray := scF s 0
theorem sc_size {s : ByteArray} {i : Nat} (hi : i < s.size) : (scU s i).1.size ≤ 10 := by
 unfold scU
 split
 ·simp only; rw [ByteArray.size_extract]; omega
 ·exact wr_size hi
def undU (q : ByteArray) (i : Nat) : Int × ByteArray × Nat :=
 if byN q i = 92 then
  (if (oneL ((bl q).drop i)).2 = 0 then (16, ByteArray.empty, 0) else (0, strOfNums (oneL ((bl q).drop i)).1, (oneL ((bl q).drop i)).2))
 else if badU q i ≠ 0 then (badU q i, ByteArray.empty, 0)
 else (0, q.extract i (i + (decS q i).2.1.toNat), (decS q i).2.1.toNat)
def usGo (q : ByteArray) : Nat → Nat → ByteArray → ByteArray × Int × Int
 | 0, _, acc => (acc, 0, 0)
 | k + 1, i, acc =>
  if i < q.size then (if (undU q i).1 ≠ 0 then (ByteArray.empty, (undU q i).1, (i : Int)) else usGo q k (i + (undU q i).2.2) (acc ++ (undU q i).2.1))
  else (acc, 0, 0)
def usF (q : ByteArray) (i : Nat) (acc : ByteArray) : ByteArray × Int × Int := usGo q (q.size - i) i acc
def unscrubS (q : ByteArray) : ByteArray × Int × Int := usF q 0 ByteArray.empty
def SfN (l : List Int) : Prop := ∀ x ∈ l, scalarB x = true ∧ (kindS x = 0 ∨ x = 10)
end Go.Proofs.YtncijmodlhijoaaGreat.Saf
namespace Go.Proofs.YtncijmodlhijoaaGreat.Nam
open Go.Lib Utf
def lt (a b : ByteArray) : Bool := Go.Op.bytesLess a.toList b.toList
def findF (s : ByteArray) : List ByteArray → Nat → Int
 | [], _ => -1
 | x :: l, i => if x = s then i else findF s l (i + 1)
def findS (l : List ByteArray) (s : ByteArray) : Int := findF s l 0
noncomputable instance memDec (x : ByteArray) (l : List ByteArray) : Decidable (x ∈ l) := Classical.propDecidable _
noncomputable def twiF (l : List ByteArray) : Nat → Nat → Int
 | 0, _ => -1
 | k + 1, i => if l.getD i ByteArray.empty ∈ l.take i then i else twiF l k (i + 1)
noncomputable def twiS (l : List ByteArray) : Int := twiF l l.length 0
def Inc (l : List ByteArray) : Prop := l.Pairwise fun a b => lt a b = true
def insS (s : ByteArray) : List ByteArray → List ByteArray
 | [] => [s]
 | x :: l => if lt s x = true then s :: x :: l else if s = x then x :: l else x :: insS s l
def sortS (l : List ByteArray) : List ByteArray := l.foldr insS []
def isSmall (c : Nat) : Prop := 97 ≤ c ∧ c ≤ 122
def isSign (c : Nat) : Prop := (97 ≤ c ∧ c ≤ 122) ∨ c = 95 ∨ (48 ≤ c ∧ c ≤ 57)
instance (c : Nat) : Decidable (isSmall c) := by unfold isSmall; infer_instance
instance (c : Nat) : Decidable (isSign c) := by unfold isSign; infer_instance
def runF (s : ByteArray) (i : Nat) : Nat := (((bl s).drop i).takeWhile fun x => decide (isSign x.toNat)).length
def sigS (s : ByteArray) (i : Nat) : Nat := if i < s.size ∧ isSmall (byN s i) then runF s i else 0
theorem runF_step {s : ByteArray} {i : Nat} (h : i < s.size) (hd : isSign (byN s i)) : runF s i = runF s (i + 1) + 1 := by
 unfold runF
 rw [bl_drop h, List.takeWhile_cons_of_pos (by simpa using hd), List.length_cons]
theorem runF_stop {s : ByteArray} {i : Nat} (h : i < s.size) (hd : ¬ isSign (byN s i)) : runF s i = 0 := by
 unfold runF
 rw [bl_drop h, List.takeWhile_cons_of_neg (by simpa using hd)]
 rfl
theorem runF_end {s : ByteArray} {i : Nat} (h : s.size ≤ i) : runF s i = 0 := by
 unfold runF
 rw [List.drop_eq_nil_of_le (by rw [bl_length]; exact h)]
 rfl
theorem runF_len (s : ByteArray) (i : Nat) (h : i ≤ s.size) : i + runF s i ≤ s.size := by
 have := (List.takeWhile_prefix (l := (bl s).drop i) fun x => decide (isSign x.toNat)).length_le
 rw [List.length_drop, bl_length] at this
 unfold runF
 omega
theorem sig_len {s : ByteArray} {i : Nat} (h : i < s.size) : i + sigS s i ≤ s.size := by
 have := runF_len s i (by omega)
 unfold sigS
 split <;> omega
def rightS (s : ByteArray) : Bool := decide (0 < s.size ∧ s.size ≤ 32 ∧ sigS s 0 = s.size)
end Go.Proofs.YtncijmodlhijoaaGreat.Nam
namespace Go.Proofs.YtncijmodlhijoaaGreat.Dig
open Go.Lib Utf
def decL (n : Nat) : List Int := if n < 10 then [48 + (n : Int)] else decL (n / 10) ++ [48 + ((n % 10 : Nat) : Int)]
termination_by n
decreasing_by omega
def Dg (l : List Int) : Prop := ∀ x ∈ l, 48 ≤ x ∧ x ≤ 57
theorem dg_range {l : List Int} (h : Dg l) : ∀ x ∈ l, 0 ≤ x ∧ x < 256 := fun x hx => by have := h x hx; omega
def valA (a : Nat) (l : List Int) : Nat := l.foldl (fun a x => 10 * a + (x - 48).toNat) a
def valN (l : List Int) : Nat := valA 0 l
theorem valA_cons (a : Nat) (x : Int) (l : List Int) : valA a (x :: l) = valA (10 * a + (x - 48).toNat) l := rfl
theorem valA_eq : ∀ (l : List Int) (a : Nat), valA a l = a * 10 ^ l.length + valN l
 | [], a => by simp [valA, valN]
 | x :: l, a => by
  unfold valN
  rw [valA_cons, valA_cons, valA_eq l, valA_eq l (10 * 0 + _), List.length_cons, Nat.pow_succ]
  rw [Nat.add_mul, Nat.add_mul, Nat.mul_zero, Nat.zero_mul, Nat.zero_add, Nat.mul_comm 10 a, Nat.mul_assoc, Nat.mul_comm 10, Nat.add_assoc]
theorem valN_cons (x : Int) (l : List Int) : valN (x :: l) = (x - 48).toNat * 10 ^ l.length + valN l := by
 unfold valN
 rw [valA_cons, valA_eq, Nat.mul_zero, Nat.zero_add]
 rfl
theorem val_lt : ∀ {l : List Int}, Dg l → valN l < 10 ^ l.length
 | [], _ => by decide
 | x :: l, h => by
  have h1 := val_lt (l := l) fun y hy => h y (List.mem_cons_of_mem _ hy)
  have h2 := h x List.mem_cons_self
  rw [valN_cons, List.length_cons, Nat.pow_succ]
  have : (x - 48).toNat * 10 ^ l.length ≤ 9 * 10 ^ l.length := Nat.mul_le_mul_right _ (by omega)
  omega
theorem val_ge {x : Int} {l : List Int} (h : 48 ≤ x ∧ x ≤ 57) (h0 : x ≠ 48) : 10 ^ l.length ≤ valN (x :: l) := by
 rw [valN_cons]
 have : 1 * 10 ^ l.length ≤ (x - 48).toNat * 10 ^ l.length := Nat.mul_le_mul_right _ (by omega)
 omega
def lessL : List Int → List Int → Bool
 | _, [] => false
 | [], _ :: _ => true
 | a :: x, b :: y => decide (a < b) || (decide (a = b) && lessL x y)
theorem less_val : ∀ (x y : List Int), x.length = y.length → Dg x → Dg y → (lessL x y = decide (valN x < valN y))
 | [], [], _, _, _ => rfl
 | [], _ :: _, h, _, _ => by simp at h
 | _ :: _, [], h, _, _ => by simp at h
 | a :: x, b :: y, h, hx, hy => by
  simp only [List.length_cons, Nat.add_right_cancel_iff] at h
  have hx' : Dg x := fun z hz => hx z (List.mem_cons_of_mem _ hz)
  have hy' : Dg y := fun z hz => hy z (List.mem_cons_of_mem _ hz)
  have ih := less_val x y h hx' hy'
  have ha := hx a List.mem_cons_self
  have hb := hy b List.mem_cons_self
  have lx := val_lt hx'
  have ly := val_lt hy'
  rw [lessL, ih, valN_cons, valN_cons, h]
  rw [h] at lx
  by_cases h1 : a < b
  ·have : ((a - 48).toNat + 1) * 10 ^ y.length ≤ (b - 48).toNat * 10 ^ y.length := Nat.mul_le_mul_right _ (by omega)
   rw [Nat.add_mul, Nat.one_mul] at this
   rw [decide_eq_true h1, Bool.true_or, decide_eq_true (by omega)]
  ·by_cases h2 : a = b
   ·subst h2
    rw [decide_eq_false h1, Bool.false_or, decide_eq_true rfl, Bool.true_and]
    simp
   ·have : ((b - 48).toNat + 1) * 10 ^ y.length ≤ (a - 48).toNat * 10 ^ y.length := Nat.mul_le_mul_right _ (by omega)
    rw [Nat.add_mul, Nat.one_mul] at this
    rw [decide_eq_false h1, decide_eq_false h2, Bool.false_and, Bool.false_or, decide_eq_false (by omega)]
def putL (n : Int) : List Int := if n < 0 then 45 :: decL n.natAbs else decL n.toNat
def putS (n : Int) : ByteArray := strOfNums (putL n)
def isDB (x : Int) : Bool := decide (48 ≤ x ∧ x ≤ 57)
def dgs (s : ByteArray) (i : Nat) : List Int := ((bl s).drop i).takeWhile isDB
theorem dgs_step {s : ByteArray} {i : Nat} (h : i < s.size) (hd : 48 ≤ byN s i ∧ byN s i ≤ 57) : dgs s i = (byN s i : Int) :: dgs s (i + 1) := by
 unfold dgs
 rw [bl_drop h, List.takeWhile_cons_of_pos (by unfold isDB; simp; omega)]
theorem dgs_stop {s : ByteArray} {i : Nat} (h : i < s.size) (hd : ¬ (48 ≤ byN s i ∧ byN s i ≤ 57)) : dgs s i = [] := by
 unfold dgs
 rw [bl_drop h, List.takeWhile_cons_of_neg (by unfold isDB; simp; omega)]
theorem dgs_end {s : ByteArray} {i : Nat} (h : s.size ≤ i) : dgs s i = [] := by
 unfold dgs
 rw [List.drop_eq_nil_of_le (by rw [bl_length]; exact h)]
 rfl
theorem dgs_dg (s : ByteArray) (i : Nat) : Dg (dgs s i) := fun x hx => by
 have := List.all_takeWhile (p := isDB) (l := (bl s).drop i)
 rw [List.all_eq_true] at this
 have := this x hx
 unfold isDB at this
 simpa using this
theorem dgs_pre (s : ByteArray) (i : Nat) : ∃ r, (bl s).drop i = dgs s i ++ r := by
 obtain ⟨r, h⟩ := List.takeWhile_prefix (l := (bl s).drop i) isDB
 exact ⟨r, h.symm⟩
theorem dgs_len {s : ByteArray} {i : Nat} (h : i ≤ s.size) : i + (dgs s i).length ≤ s.size := by
 obtain ⟨r, e⟩ := dgs_pre s i
 have := congrArg List.length e
 rw [List.length_drop, bl_length, List.length_append] at this
 omega
theorem dgs_ext {s : ByteArray} {i : Nat} (h : i ≤ s.size) : bl (s.extract i (i + (dgs s i).length)) = dgs s i := by
 obtain ⟨r, e⟩ := dgs_pre s i
 rw [bl_extract, List.drop_take, e, show i + (dgs s i).length - i = (dgs s i).length by omega, List.take_left]
def tkN (s : ByteArray) (a : Nat) : Int × Int × Int × Int :=
 let neg := a < s.size ∧ byN s a = 45
 let f := if neg then a + 1 else a
 if dgs s f = [] then (0, 0, if f = s.size then 5 else 19, f)
 else if byN s f = 48 ∧ (1 < (dgs s f).length ∨ neg) then (0, 0, 19, a)
 else if neg then (if 9223372036854775808 < valN (dgs s f) then (0, 0, 13, a) else (-(valN (dgs s f) : Int), (f + (dgs s f).length : Nat), 0, 0))
 else (if 9223372036854775807 < valN (dgs s f) then (0, 0, 13, a) else ((valN (dgs s f) : Int), (f + (dgs s f).length : Nat), 0, 0))
def tkS (s : ByteArray) (i : Int) : Int × Int × Int × Int := if i < 0 ∨ (s.size : Int) < i then (0, 0, 1, 0) else tkN s i.toNat
def paS (s : ByteArray) : Int × Int × Int :=
 let t := tkS s 0
 if t.2.2.1 ≠ 0 then (0, t.2.2) else if t.2.1 < s.size then (0, 19, t.2.1) else (t.1, 0, 0)
end Go.Proofs.YtncijmodlhijoaaGreat.Dig
namespace Go.Proofs.YtncijmodlhijoaaGreat.Pat
open Go.Lib Utf Nam Dig
abbrev St := Int × Int × ByteArray
def Named (x : St) : Prop := x.1 = 1 ∨ x.1 = 5
instance (x : St) : Decidable (Named x) := by unfold Named; infer_instance
def RightSt (x : St) : Prop := 1 ≤ x.1 ∧ x.1 ≤ 5 ∧ (Named x ↔ x.2.2.size ≠ 0) ∧ (Named x → rightS x.2.2 = true) ∧ (x.1 ≠ 2 → x.2.1 = 0) ∧ 0 ≤ x.2.1
instance (x : St) : Decidable (RightSt x) := by unfold RightSt; infer_instance
def RightP (l : List St) : Prop := l.length ≤ 64 ∧ ∀ x ∈ l, RightSt x
instance (l : List St) : Decidable (RightP l) := by unfold RightP; infer_instance
theorem rightS_pos {nm : ByteArray} (h : rightS nm = true) : 0 < nm.size ∧ nm.size ≤ 32 ∧ sigS nm 0 = nm.size := by unfold rightS at h; simpa using h
def txt (x : St) : List Int := if x.1 = 1 then 46 :: bl x.2.2 else if x.1 = 2 then 91 :: (putL x.2.1 ++ [93]) else if x.1 = 3 then [91, 93] else if x.1 = 4 then [63] else if x.1 = 5 then 33 :: bl x.2.2 else []
def fmtL (l : List St) : List Int := l.flatMap txt
def fmtS (l : List St) : ByteArray := if RightP l then strOfNums (fmtL l) else ⟨#[]⟩
theorem sig_run {s : ByteArray} {j : Nat} (h : j < s.size) (h2 : isSmall (byN s j)) : sigS s j = runF s j := by unfold sigS; rw [if_pos ⟨h, h2⟩]
theorem sig_zero {s : ByteArray} {j : Nat} (h : s.size ≤ j) : sigS s j = 0 := by unfold sigS; rw [if_neg (by omega)]
theorem right_cut {s : ByteArray} {j : Nat} (h0 : 0 < sigS s j) (h1 : sigS s j ≤ 32) : rightS (s.extract j (j + sigS s j)) = true ∧ (s.extract j (j + sigS s j)).size = sigS s j := by
 have hj : j < s.size := Nat.lt_of_not_le fun h => by rw [sig_zero h] at h0; omega
 have hl := sig_len hj
 have hz : (s.extract j (j + sigS s j)).size = sigS s j := by rw [ByteArray.size_extract]; omega
 have hc : isSmall (byN s j) ∧ sigS s j = runF s j := by
  by_cases hc : j < s.size ∧ isSmall (byN s j)
  ·exact ⟨hc.2, by unfold sigS; rw [if_pos hc]⟩
  ·unfold sigS at h0; rw [if_neg hc] at h0; omega
 refine ⟨?_, hz⟩
 unfold rightS
 rw [decide_eq_true_iff, hz]
 refine ⟨h0, h1, ?_⟩
 have e0 : byN (s.extract j (j + sigS s j)) 0 = byN s j := by rw [byN_ext _ _ _ _ (by omega) hl, Nat.add_zero]
 have hb : bl (s.extract j (j + sigS s j)) = ((bl s).drop j).takeWhile fun x => decide (isSign x.toNat) := by
  have h4 := List.takeWhile_prefix (l := (bl s).drop j) fun x => decide (isSign x.toNat)
  obtain ⟨r, h5⟩ := h4
  rw [bl_extract, List.drop_take, show j + sigS s j - j = sigS s j by omega]
  conv => lhs; rw [← h5]
  rw [hc.2]
  exact List.take_left' rfl
 rw [sig_run (by omega) (by rw [e0]; exact hc.1)]
 have hr : runF (s.extract j (j + sigS s j)) 0 = (bl (s.extract j (j + sigS s j))).length := by
  unfold runF
  rw [List.drop_zero, hb]
  congr 1
  have hall := List.all_takeWhile (p := fun x : Int => decide (isSign x.toNat)) (l := (bl s).drop j)
  rw [List.all_eq_true] at hall
  have := List.takeWhile_append_of_pos (l₂ := []) hall
  simpa using this
 rw [hr, bl_length, hz]
def stpS (s : ByteArray) (i : Nat) : St × Int × Int × Int :=
 if byN s i = 46 ∨ byN s i = 33 then
  (if sigS s (i + 1) < 1 ∨ 32 < sigS s (i + 1) then ((0, 0, ⟨#[]⟩), 0, 9, ((i + 1 : Nat) : Int))
   else ((if byN s i = 33 then 5 else 1, 0, s.extract (i + 1) (i + 1 + sigS s (i + 1))), ((i + 1 + sigS s (i + 1) : Nat) : Int), 0, 0))
 else if byN s i = 63 then ((4, 0, ⟨#[]⟩), ((i + 1 : Nat) : Int), 0, 0)
 else if byN s i ≠ 91 then ((0, 0, ⟨#[]⟩), 0, 4, (i : Int))
 else if i + 1 < s.size ∧ byN s (i + 1) = 93 then ((3, 0, ⟨#[]⟩), ((i + 2 : Nat) : Int), 0, 0)
 else if (tkN s (i + 1)).2.2.1 ≠ 0 then ((0, 0, ⟨#[]⟩), 0, (tkN s (i + 1)).2.2.1, (tkN s (i + 1)).2.2.2)
 else if (tkN s (i + 1)).1 < 0 then ((0, 0, ⟨#[]⟩), 0, 20, ((i + 1 : Nat) : Int))
 else if (s.size : Int) ≤ (tkN s (i + 1)).2.1 ∨ byN s (tkN s (i + 1)).2.1.toNat ≠ 93 then ((0, 0, ⟨#[]⟩), 0, 4, (tkN s (i + 1)).2.1)
 else ((2, (tkN s (i + 1)).1, ⟨#[]⟩), (tkN s (i + 1)).2.1 + 1, 0, 0)
def Behind (r : List Int) : Prop := ∀ x, r.head? = some x → x = 46 ∨ x = 91 ∨ x = 63 ∨ x = 33
def parF (s : ByteArray) : Nat → Nat → List St → List St × Int × Int
 | 0, i, acc => (acc, 0, 0)
 | f + 1, i, acc => if i < s.size then (if 63 < acc.length then ([], 8, (i : Int)) else if (stpS s i).2.2.1 ≠ 0 then ([], (stpS s i).2.2.1, (stpS s i).2.2.2) else parF s f (stpS s i).2.1.toNat (acc ++ [(stpS s i).1])) else (acc, 0, 0)
def parS (s : ByteArray) : List St × Int × Int := parF s (s.size + 1) 0 []
end Go.Proofs.YtncijmodlhijoaaGreat.Pat
namespace Go.Proofs.YtncijmodlhijoaaGreat.Tok
open Go.Lib Utf Ran Cel Esc Dig Nam Pat
theorem take_while {α : Type} (p : α → Bool) : ∀ (l : List α) (m : Nat), (l.take m).takeWhile p = (l.takeWhile p).take m
 | [], m => by simp
 | x :: l, 0 => by simp
 | x :: l, m + 1 => by
  rw [List.take_succ_cons]
  by_cases h : p x = true
  ·rw [List.takeWhile_cons_of_pos h, List.takeWhile_cons_of_pos h, List.take_succ_cons, take_while p l m]
  ·rw [List.takeWhile_cons_of_neg h, List.takeWhile_cons_of_neg h]; simp
theorem bl_part (s : ByteArray) (a b i : Nat) : (bl (s.extract a b)).drop i = ((bl s).drop (a + i)).take (b - (a + i)) := by
 rw [bl_extract, List.drop_drop, List.drop_take]
theorem bl_tail {s : ByteArray} {a : Nat} (i : Nat) : (bl (s.extract a s.size)).drop i = (bl s).drop (a + i) := by rw [bl_from, List.drop_drop]
theorem part_size {s : ByteArray} {a b : Nat} (h : b ≤ s.size) : (s.extract a b).size = b - a := by rw [ByteArray.size_extract]; omega
theorem part_part {s : ByteArray} {a b i j : Nat} (h : a + j ≤ b) : (s.extract a b).extract i j = s.extract (a + i) (a + j) := by
 rw [ByteArray.extract_extract]; congr 1; omega
abbrev Tk := Int × Int × Int × ByteArray × Int
def zT : Tk := (0, 0, 0, ByteArray.empty, 0)
def blankB (c : Nat) : Bool := decide (c = 9 ∨ c = 10 ∨ c = 13 ∨ c = 32)
def markL : List Nat := [123, 125, 91, 93, 40, 41, 44, 58, 61, 60, 62, 64, 43, 35, 126, 42]
def markN (s : ByteArray) (i : Nat) : Nat := if s.size ≤ i then 0 else if byN s i = 46 then (if i + 1 < s.size ∧ byN s (i + 1) = 46 then 2 else 0) else if markL.contains (byN s i) then 1 else 0
def markS (s : ByteArray) (i : Int) : ByteArray := if i < 0 then ⟨#[]⟩ else s.extract i.toNat (i.toNat + markN s i.toNat)
theorem mark_len {s : ByteArray} {i : Nat} (h : i ≤ s.size) : i + markN s i ≤ s.size := by
 unfold markN
 (repeat' split) <;> omega
def tokS (s : ByteArray) (i : Nat) : Tk × Int × Int :=
 if 0 < sigS s i then (if 32 < sigS s i then (zT, 9, i) else ((1, i, (i + sigS s i : Nat), s.extract i (i + sigS s i), 0), 0, 0))
 else if byN s i = 45 ∨ (48 ≤ byN s i ∧ byN s i ≤ 57) then (if (tkN s i).2.2.1 ≠ 0 then (zT, (tkN s i).2.2) else ((2, i, (tkN s i).2.1, ByteArray.empty, (tkN s i).1), 0, 0))
 else if byN s i = 34 then (if (unqF s (i + 1) ByteArray.empty).2.2.1 ≠ 0 then (zT, (unqF s (i + 1) ByteArray.empty).2.2) else ((3, i, (unqF s (i + 1) ByteArray.empty).2.1, (unqF s (i + 1) ByteArray.empty).1, 0), 0, 0))
 else if 0 < markN s i then ((4, i, (i + markN s i : Nat), s.extract i (i + markN s i), 0), 0, 0)
 else if (decS s i).2.2 = false then (zT, 2, i) else (zT, 3, i)
theorem tkN_bd {s : ByteArray} {i : Nat} (hi : i < s.size) : ((tkN s i).2.2.1 = 0 → i < (tkN s i).2.1 ∧ (tkN s i).2.1 ≤ s.size) ∧ ((tkN s i).2.2.1 ≠ 0 → (tkN s i).1 = 0 ∧ (tkN s i).2.1 = 0 ∧ 0 ≤ (tkN s i).2.2.2 ∧ (tkN s i).2.2.2 ≤ s.size ∧ 0 < (tkN s i).2.2.1 ∧ (tkN s i).2.2.1 ≤ 19) := by
 have key : ∀ f : Nat, f ≤ s.size → i ≤ f → dgs s f ≠ [] → i < f + (dgs s f).length ∧ f + (dgs s f).length ≤ s.size := fun f h1 h2 h3 => by
  have := dgs_len h1
  have := List.length_pos_iff.2 h3
  omega
 unfold tkN
 simp only
 by_cases hn : i < s.size ∧ byN s i = 45
 ·simp only [if_pos hn]
  by_cases h1 : dgs s (i + 1) = []
  ·rw [if_pos h1]
   by_cases h2 : i + 1 = s.size
   ·rw [if_pos h2]; simp; omega
   ·rw [if_neg h2]; simp; omega
  ·have := key (i + 1) (by omega) (by omega) h1
   rw [if_neg h1]
   (repeat' split) <;> simp <;> omega
 ·simp only [if_neg hn]
  by_cases h1 : dgs s i = []
  ·rw [if_pos h1]
   by_cases h2 : i = s.size
   ·rw [if_pos h2]; simp; omega
   ·rw [if_neg h2]; simp; omega
  ·have := key i (by omega) (by omega) h1
   rw [if_neg h1]
   (repeat' split) <;> simp <;> omega
theorem unqF_bd {s : ByteArray} : ∀ (k i : Nat) (acc : ByteArray), s.size - i ≤ k → i ≤ s.size →
  ((unqF s i acc).2.2.1 = 0 → (i : Int) < (unqF s i acc).2.1 ∧ (unqF s i acc).2.1 ≤ s.size) ∧ ((unqF s i acc).2.2.1 ≠ 0 → (unqF s i acc).1 = ByteArray.empty ∧ (unqF s i acc).2.1 = 0 ∧ 0 ≤ (unqF s i acc).2.2.2 ∧ (unqF s i acc).2.2.2 ≤ s.size ∧ 0 < (unqF s i acc).2.2.1 ∧ (unqF s i acc).2.2.1 ≤ 19)
 | 0, i, acc, h, h2 => by
  rw [unqF_end acc (by omega)]
  simp
 | k + 1, i, acc, h, h2 => by
  by_cases hi : i < s.size
  ·rw [unqF_step acc hi]
   have hb := den_bd s i hi
   by_cases h3 : byN s i = 34
   ·rw [if_pos h3]; simp; omega
   rw [if_neg h3]
   by_cases h4 : (denS s i).1 ≠ 0
   ·rw [if_pos h4]
    refine ⟨fun h => absurd h h4, fun _ => ⟨rfl, rfl, by simp only; omega, by simp only; omega, by simp only; omega, by simp only; omega⟩⟩
   ·rw [if_neg h4]
    have h5 := hb.2.2.2.1 (by omega)
    have := unqF_bd (s := s) k (i + (denS s i).2.2) (acc ++ (denS s i).2.1) (by omega) (by omega)
    exact ⟨fun h => by have := this.1 h; omega, this.2⟩
  ·rw [unqF_end acc (by omega)]
   simp
theorem tok_bd {s : ByteArray} {i : Nat} (hi : i < s.size) : ((tokS s i).2.1 = 0 → (tokS s i).2.2 = 0 ∧ 1 ≤ (tokS s i).1.1 ∧ (tokS s i).1.1 ≤ 4 ∧ (tokS s i).1.2.1 = i ∧ i < (tokS s i).1.2.2.1 ∧ (tokS s i).1.2.2.1 ≤ s.size) ∧ ((tokS s i).2.1 ≠ 0 → (tokS s i).1 = zT ∧ 0 ≤ (tokS s i).2.2 ∧ (tokS s i).2.2 ≤ s.size ∧ 0 < (tokS s i).2.1 ∧ (tokS s i).2.1 ≤ 19) := by
 unfold tokS
 by_cases h1 : 0 < sigS s i
 ·have := sig_len hi
  rw [if_pos h1]
  split <;> simp <;> omega
 rw [if_neg h1]
 by_cases h2 : byN s i = 45 ∨ (48 ≤ byN s i ∧ byN s i ≤ 57)
 ·rw [if_pos h2]
  have hb := tkN_bd hi
  by_cases h : (tkN s i).2.2.1 ≠ 0
  ·rw [if_pos h]
   have := hb.2 h
   exact ⟨fun e => absurd e h, fun _ => ⟨rfl, this.2.2⟩⟩
  ·rw [if_neg h]
   have := hb.1 (by omega)
   exact ⟨fun _ => ⟨rfl, by simp only; omega, by simp only; omega, rfl, this⟩, fun e => absurd rfl e⟩
 rw [if_neg h2]
 by_cases h3 : byN s i = 34
 ·rw [if_pos h3]
  have hb := unqF_bd (s := s) _ (i + 1) ByteArray.empty (Nat.le_refl _) (by omega)
  by_cases h : (unqF s (i + 1) ByteArray.empty).2.2.1 ≠ 0
  ·rw [if_pos h]
   have := hb.2 h
   exact ⟨fun e => absurd e h, fun _ => ⟨rfl, this.2.2⟩⟩
  ·rw [if_neg h]
   have := hb.1 (by omega)
   refine ⟨fun _ => ⟨rfl, by simp only; omega, by simp only; omega, rfl, ?_, this.2⟩, fun e => absurd rfl e⟩
   simp only; omega
 rw [if_neg h3]
 by_cases h4 : 0 < markN s i
 ·rw [if_pos h4]
  have := mark_len (s := s) (i := i) (by omega)
  simp; omega
 rw [if_neg h4]
 split <;> simp <;> omega
end Go.Proofs.YtncijmodlhijoaaGreat.Tok
