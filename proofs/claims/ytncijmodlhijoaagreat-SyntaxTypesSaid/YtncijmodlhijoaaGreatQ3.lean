import Derived.Test.YtncijmodlhijoaaGreatQ2
import Derived.Deep.DeepMust
import Derived.Lib.Hide
set_option linter.unusedVariables false
set_option maxRecDepth 100000
set_option maxHeartbeats 4000000
namespace Go.Proofs.YtncijmodlhijoaaGreat.Ran
open Go.Lib
def zeroT : List Rg := [(768, 879), (1155, 1161), (1425, 1469), (1471, 1471), (1473, 1474), (1476, 1477), (1479, 1479), (1552, 1562), (1611, 1631), (1648, 1648), (1750, 1756), (1759, 1764), (1767, 1768),
 (1770, 1773), (1809, 1809), (1840, 1866), (1958, 1968), (2027, 2035), (2070, 2073), (2075, 2083), (2085, 2087), (2089, 2093), (2137, 2139), (2259, 2273), (2275, 2306), (2362, 2362),
 (2364, 2364), (2369, 2376), (2381, 2381), (2385, 2391), (2402, 2403), (2433, 2433), (2492, 2492), (2497, 2500), (2509, 2509), (2561, 2562), (2620, 2620), (2625, 2626), (2631, 2632),
 (2635, 2637), (3633, 3633), (3636, 3642), (3655, 3662), (3761, 3761), (3764, 3772), (3784, 3789), (4448, 4607), (4957, 4959), (5906, 5908), (6068, 6069), (6071, 6077), (6155, 6157),
 (6832, 6846), (7616, 7673), (7675, 7679), (8203, 8207), (8232, 8238), (8288, 8303), (8400, 8432), (12330, 12333), (12441, 12442), (42607, 42610), (42612, 42621), (42654, 42655),
 (42736, 42737), (43232, 43249), (64286, 64286), (65024, 65039), (65056, 65071), (65279, 65279), (65529, 65531), (66045, 66045), (68097, 68099), (68101, 68102), (68108, 68111),
 (119143, 119145), (119155, 119170), (119173, 119179), (119210, 119213), (917505, 917505), (917536, 917631), (917760, 917999)]
def wideT : List Rg := [(4352, 4447), (8986, 8987), (9001, 9002), (9193, 9196), (9200, 9200), (9203, 9203), (9725, 9726), (9748, 9749), (9800, 9811), (9855, 9855), (9875, 9875), (9889, 9889), (9898, 9899),
 (9917, 9918), (9924, 9925), (9934, 9934), (9940, 9940), (9962, 9962), (9970, 9971), (9973, 9973), (9978, 9978), (9981, 9981), (9989, 9989), (9994, 9995), (10024, 10024),
 (10060, 10060), (10062, 10062), (10067, 10069), (10071, 10071), (10133, 10135), (10160, 10160), (10175, 10175), (11035, 11036), (11088, 11088), (11093, 11093), (11904, 11929),
 (11931, 12019), (12032, 12245), (12272, 12283), (12288, 12329), (12334, 12350), (12353, 12438), (12443, 12543), (12549, 12591), (12593, 12686), (12688, 12730), (12736, 12771),
 (12784, 12830), (12832, 12871), (12880, 19903), (19968, 42124), (42128, 42182), (43360, 43388), (44032, 55203), (63744, 64255), (65040, 65049), (65072, 65106), (65108, 65126),
 (65128, 65131), (65281, 65376), (65504, 65510), (94176, 94179), (94208, 100343), (100352, 101106), (110592, 110878), (110928, 110930), (110948, 110951), (110960, 111355),
 (126980, 126980), (127183, 127183), (127374, 127374), (127377, 127386), (127488, 127490), (127504, 127547), (127552, 127560), (127568, 127569), (127584, 127589), (127744, 127776),
 (127789, 127797), (127799, 127868), (127870, 127891), (127904, 127946), (127951, 127955), (127968, 127984), (127988, 127988), (127992, 128062), (128064, 128064), (128066, 128252),
 (128255, 128317), (128331, 128334), (128336, 128359), (128378, 128378), (128405, 128406), (128420, 128420), (128507, 128591), (128640, 128709), (128716, 128716), (128720, 128722),
 (128725, 128727), (128747, 128748), (128756, 128764), (128992, 129003), (129292, 129338), (129340, 129349), (129351, 129400), (129402, 129483), (129485, 129535), (129648, 129652),
 (129656, 129658), (129664, 129670), (129680, 129704), (129712, 129718), (129728, 129730), (129744, 129750), (131072, 196605), (196608, 262141)]
def controlT : List Rg := [(0, 31), (127, 159)]
def bidiT : List Rg := [(1564, 1564), (8206, 8207), (8234, 8238), (8294, 8297)]
def formatT : List Rg := [(173, 173), (1536, 1541), (1757, 1757), (1807, 1807), (2274, 2274), (6158, 6158), (8203, 8205), (8288, 8292), (8298, 8303), (65279, 65279), (65529, 65531), (69821, 69821),
 (69837, 69837), (113824, 113827), (119155, 119162), (917505, 917505), (917536, 917631)]
def separatorT : List Rg := [(8232, 8233)]
def canB : Int → List Rg → Bool
 | _, [] => true
 | lo, g :: l => decide (lo ≤ g.1) && decide (g.1 ≤ g.2) && decide (g.2 ≤ 1114111) && canB (g.2 + 2) l
theorem can_of_B : ∀ (l : List Rg) (lo : Int), canB lo l = true → Can lo l
 | [], _, _ => trivial
 | g :: l, lo, h => by
  simp only [canB, Bool.and_eq_true, decide_eq_true_eq] at h
  exact ⟨h.1.1.1, h.1.1.2, h.1.2, can_of_B l _ h.2⟩
def apartB (l m : List Rg) : Bool := l.all fun g => m.all fun h => decide (g.2 < h.1) || decide (h.2 < g.1)
theorem can_zero : Can 0 zeroT := can_of_B _ _ (by kernel_rfl)
theorem can_wide : Can 0 wideT := can_of_B _ _ (by kernel_rfl)
theorem can_control : Can 0 controlT := can_of_B _ _ (by kernel_rfl)
theorem can_bidi : Can 0 bidiT := can_of_B _ _ (by kernel_rfl)
theorem can_format : Can 0 formatT := can_of_B _ _ (by kernel_rfl)
theorem can_separator : Can 0 separatorT := can_of_B _ _ (by kernel_rfl)
theorem in_can {l : List Rg} (h : Can 0 l) (r : Int) : inB l r = hasB l r := by
 unfold inB
 cases e : hasB l r
 ·simp
 ·have := h.low e; simp; omega
def kindS (r : Int) : Int := if hasB controlT r then 1 else if hasB bidiT r then 2 else if hasB formatT r then 3 else if hasB separatorT r then 4 else 0
def sizeS (r : Int) : Int := if hasB wideT r then 2 else if hasB zeroT r then 0 else 1
def unsafeT : List Rg := controlT ++ bidiT ++ formatT ++ separatorT
def unsafeR : List Rg := [(0, 31), (127, 159), (8232, 8233)] ++ bidiT ++ formatT
theorem control_has (r : Int) : hasB controlT r = (decide (0 ≤ r ∧ r ≤ 31) || decide (127 ≤ r ∧ r ≤ 159)) := by simp [controlT, hasB]
theorem separator_has (r : Int) : hasB separatorT r = (decide (r = 8232) || decide (r = 8233)) := by
 rw [Bool.eq_iff_iff]; simp [separatorT, hasB]; omega
theorem kind_eq (r : Int) : kindS r = if 0 ≤ r ∧ r < 32 ∨ 126 < r ∧ r < 160 then 1 else if hasB bidiT r then 2 else if hasB formatT r then 3 else if r = 8232 ∨ r = 8233 then 4 else 0 := by
 unfold kindS
 rw [control_has, separator_has]
 by_cases h1 : 0 ≤ r ∧ r < 32 ∨ 126 < r ∧ r < 160
 ·rw [if_pos h1, if_pos (by simp; omega)]
 ·rw [if_neg h1, if_neg (by simp; omega)]
  by_cases h2 : r = 8232 ∨ r = 8233
  ·simp only [if_pos h2, show (decide (r = 8232) || decide (r = 8233)) = true by simpa using h2, if_true]
  ·simp only [if_neg h2, show (decide (r = 8232) || decide (r = 8233)) = false by simpa using h2, if_false, Bool.false_eq_true]
theorem kind_bd (r : Int) : 0 ≤ kindS r ∧ kindS r ≤ 4 := by unfold kindS; (repeat' split) <;> omega
end Go.Proofs.YtncijmodlhijoaaGreat.Ran
namespace Go.Proofs.YtncijmodlhijoaaGreat.Esc
open Go.Lib Utf Ran
def dg (d : Nat) : Nat := if d < 10 then 48 + d else 87 + d
def hexB (n : Nat) : ByteArray := if n < 16 then strOfNums [(dg n : Int)] else hexB (n / 16) ++ strOfNums [(dg (n % 16) : Int)]
termination_by n
decreasing_by omega
def hexL (n : Nat) : List Int := if n < 16 then [(dg n : Int)] else hexL (n / 16) ++ [(dg (n % 16) : Int)]
termination_by n
decreasing_by omega
theorem dg_bd {d : Nat} (h : d < 16) : (48 ≤ dg d ∧ dg d ≤ 57) ∨ (97 ≤ dg d ∧ dg d ≤ 102) := by unfold dg; split <;> omega
theorem dg_range {d : Nat} (h : d < 16) : ∀ x ∈ [(dg d : Int)], 0 ≤ x ∧ x < 256 := by
 intro x hx
 simp only [List.mem_singleton] at hx
 have := dg_bd h
 omega
theorem hexB_lt {n : Nat} (h : n < 16) : hexB n = strOfNums [(dg n : Int)] := by rw [hexB, if_pos h]
theorem hexB_ge {n : Nat} (h : ¬ n < 16) : hexB n = hexB (n / 16) ++ strOfNums [(dg (n % 16) : Int)] := by rw [hexB, if_neg h]
theorem hexL_lt {n : Nat} (h : n < 16) : hexL n = [(dg n : Int)] := by rw [hexL, if_pos h]
theorem hexL_ge {n : Nat} (h : ¬ n < 16) : hexL n = hexL (n / 16) ++ [(dg (n % 16) : Int)] := by rw [hexL, if_neg h]
theorem bl_hexB : ∀ (k n : Nat), n ≤ k → bl (hexB n) = hexL n
 | k, n, hk => by
  by_cases h : n < 16
  ·rw [hexB_lt h, hexL_lt h, bl_strOfNums _ (dg_range h)]
  ·cases k with
   | zero => omega
   | succ k => rw [hexB_ge h, hexL_ge h, bl_append, bl_hexB k (n / 16) (by omega), bl_strOfNums _ (dg_range (by omega))]
theorem bl_hex (n : Nat) : bl (hexB n) = hexL n := bl_hexB n n (Nat.le_refl _)
theorem hexL_len : ∀ (m n : Nat), n < 16 ^ (m + 1) → 1 ≤ (hexL n).length ∧ (hexL n).length ≤ m + 1
 | m, n, h => by
  by_cases h1 : n < 16
  ·rw [hexL_lt h1]; simp
  ·cases m with
   | zero => omega
   | succ m =>
    have := hexL_len m (n / 16) (by rw [Nat.div_lt_iff_lt_mul (by omega)]; rw [Nat.pow_succ] at h; exact h)
    rw [hexL_ge h1, List.length_append, List.length_singleton]
    omega
def valD (c : Int) : Int := if 48 ≤ c ∧ c < 58 then c - 48 else if 65 ≤ c ∧ c < 71 then c - 55 else if 97 ≤ c ∧ c < 103 then c - 87 else -1
def numF : Int → List Int → Int
 | n, [] => n
 | n, c :: l => if valD c < 0 then -1 else numF (16 * n + valD c) l
def hexV (l : List Int) : Int := if l.length < 1 ∨ 6 < l.length then -1 else numF 0 l
theorem valD_bd (c : Int) : -1 ≤ valD c ∧ valD c ≤ 15 := by unfold valD; (repeat' split) <;> omega
theorem numF_bd : ∀ (l : List Int) (n : Int) (m : Nat), 0 ≤ n → n < 16 ^ m → numF n l < 16 ^ (m + l.length) ∧ (numF n l < 0 → numF n l = -1)
 | [], n, m, h0, h => ⟨by simpa [numF] using h, fun h => by simp only [numF] at h; omega⟩
 | c :: l, n, m, h0, h => by
  rw [numF]
  have hb := valD_bd c
  by_cases hc : valD c < 0
  ·rw [if_pos hc]
   have : (0 : Int) < 16 ^ (m + (c :: l).length) := Int.pow_pos (by decide)
   exact ⟨by omega, fun _ => rfl⟩
  ·rw [if_neg hc]
   have := numF_bd l (16 * n + valD c) (m + 1) (by omega) (by rw [Int.pow_succ]; omega)
   rw [List.length_cons, show m + (l.length + 1) = m + 1 + l.length by omega]
   exact this
theorem hexV_bd (l : List Int) : -1 ≤ hexV l ∧ hexV l < 16777216 ∧ (hexV l < 0 → hexV l = -1) ∧ (l.length ≤ 2 → hexV l < 256) := by
 unfold hexV
 by_cases h : l.length < 1 ∨ 6 < l.length
 ·rw [if_pos h]; omega
 ·rw [if_neg h]
  have h1 := numF_bd l 0 0 (by omega) (by decide)
  rw [Nat.zero_add] at h1
  have h6 : (16 : Int) ^ l.length ≤ 16 ^ 6 := by exact_mod_cast Nat.pow_le_pow_right (by omega) (by omega : l.length ≤ 6)
  have e6 : (16 : Int) ^ 6 = 16777216 := by decide
  refine ⟨?_, by omega, h1.2, fun h2 => ?_⟩
  ·by_cases h0 : numF 0 l < 0
   ·rw [h1.2 h0]; omega
   ·omega
  ·have h3 : (16 : Int) ^ l.length ≤ 16 ^ 2 := by exact_mod_cast Nat.pow_le_pow_right (by omega) h2
   have e2 : (16 : Int) ^ 2 = 256 := by decide
   omega
def fi (l : List Int) : Nat := l.findIdx (fun x => x == 125)
theorem fi_hit {l : List Int} {o : Nat} (h : l[o]? = some 125) (hn : ∀ j, j < o → l[j]? ≠ some 125) : fi l = o := by
 unfold fi
 have ho : o < l.length := (List.getElem?_eq_some_iff.1 h).1
 rw [List.findIdx_eq ho]
 refine ⟨by simpa using (List.getElem?_eq_some_iff.1 h).2, fun j hj => ?_⟩
 have := hn j hj
 rw [List.getElem?_eq_getElem (by omega)] at this
 simpa using this
theorem fi_none {l : List Int} (hn : ∀ j, j < l.length → l[j]? ≠ some 125) : fi l = l.length := by
 unfold fi
 refine List.findIdx_eq_length_of_false fun x hx => ?_
 obtain ⟨j, hj, rfl⟩ := List.mem_iff_getElem.1 hx
 have := hn j hj
 rw [List.getElem?_eq_getElem hj] at this
 simpa using this
def uniS (l : List Int) : Option (Int × Nat) :=
 if l.head? = some 123 then
  (if fi ((l.drop 1).take 7) < ((l.drop 1).take 7).length ∧ 0 ≤ hexV (((l.drop 1).take 7).take (fi ((l.drop 1).take 7))) ∧ scalarB (hexV (((l.drop 1).take 7).take (fi ((l.drop 1).take 7)))) = true then
   some (hexV (((l.drop 1).take 7).take (fi ((l.drop 1).take 7))), fi ((l.drop 1).take 7)) else none)
 else none
def oneL : List Int → List Int × Nat
 | b :: c :: l =>
  if b ≠ 92 then ([], 0)
  else if c = 34 ∨ c = 92 then ([c], 2) else if c = 116 then ([9], 2) else if c = 110 then ([10], 2) else if c = 114 then ([13], 2)
  else if c = 120 then (if 2 ≤ l.length ∧ 0 ≤ hexV (l.take 2) then ([hexV (l.take 2)], 4) else ([], 0))
  else if c = 117 then (match uniS l with | some (r, k) => (encL r, k + 4) | none => ([], 0))
  else ([], 0)
 | _ => ([], 0)
theorem uni_len {l : List Int} {r : Int} {k : Nat} (h : uniS l = some (r, k)) : k + 2 ≤ l.length ∧ k ≤ 6 ∧ scalarB r = true := by
 unfold uniS at h
 by_cases h1 : l.head? = some 123
 ·rw [if_pos h1] at h
  split at h
  next h2 =>
   simp only [Option.some.injEq, Prod.mk.injEq] at h
   obtain ⟨h3, h4⟩ := h
   have h5 := h2.1
   have h6 := h2.2.2
   rw [h3] at h6
   rw [h4, List.length_take, List.length_drop] at h5
   exact ⟨by omega, by omega, h6⟩
  next => cases h
 ·rw [if_neg h1] at h; cases h
theorem one_len (l : List Int) : (oneL l).2 ≤ l.length ∧ (oneL l).2 ≤ 10 ∧ (oneL l).1.length ≤ 4 ∧ (∀ x ∈ (oneL l).1, 0 ≤ x → x < 256 → 0 ≤ x ∧ x < 256) := by
 refine ⟨?_, ?_, ?_, fun x _ h1 h2 => ⟨h1, h2⟩⟩ <;> (
  unfold oneL
  split
  ·next b c l =>
   try simp only [List.length_cons]
   (repeat' split) <;> first
    | (simp; done)
    | (simp; omega)
    | (next r k h => have h9 := uni_len h; have h8 := encL_len r; simp only; omega)
  ·simp)
def denS (q : ByteArray) (i : Nat) : Int × ByteArray × Nat :=
 if byN q i = 92 then
  (if (oneL ((bl q).drop i)).2 = 0 then (16, ByteArray.empty, 0) else (0, strOfNums (oneL ((bl q).drop i)).1, (oneL ((bl q).drop i)).2))
 else if (decS q i).2.2 = false then (2, ByteArray.empty, 0)
 else if kindS (decS q i).1 ≠ 0 then (3, ByteArray.empty, 0)
 else (0, q.extract i (i + (decS q i).2.1.toNat), (decS q i).2.1.toNat)
theorem den_bd (q : ByteArray) (i : Nat) (hi : i < q.size) : 0 ≤ (denS q i).1 ∧ (denS q i).1 ≤ 16 ∧ i + (denS q i).2.2 ≤ q.size ∧ ((denS q i).1 = 0 → 1 ≤ (denS q i).2.2) ∧ (denS q i).2.2 ≤ 10 ∧ (denS q i).2.1.size ≤ 4 := by
 have hd := decS_spec q i hi
 have ho := one_len ((bl q).drop i)
 rw [List.length_drop, bl_length] at ho
 unfold denS
 split
 ·split
  ·simp; omega
  ·simp only; rw [strOfNums_size]; omega
 ·split
  ·simp; omega
  ·split
   ·simp; omega
   ·simp only; rw [ByteArray.size_extract]; omega
def unqGo (q : ByteArray) : Nat → Nat → ByteArray → ByteArray × Int × Int × Int
  | 0, _, _ => (ByteArray.empty, 0, 5, q.size)
  | k + 1, i, acc =>
    if i < q.size then
      (if byN q i = 34 then (acc, (i : Int) + 1, 0, 0)
       else if (denS q i).1 ≠ 0 then (ByteArray.empty, 0, (denS q i).1, i)
       else unqGo q k (i + (denS q i).2.2) (acc ++ (denS q i).2.1))
    else (ByteArray.empty, 0, 5, q.size)
def unqF (q : ByteArray) (i : Nat) (acc : ByteArray) : ByteArray × Int × Int × Int := unqGo q (q.size - i) i acc
theorem unqGo_fuel (q : ByteArray) : ∀ (k i : Nat) (acc : ByteArray), q.size - i ≤ k → unqGo q k i acc = unqF q i acc
 | 0, i, acc, h => by unfold unqF; rw [show q.size - i = 0 by omega]
 | k + 1, i, acc, h => by
  unfold unqF
  by_cases hi : i < q.size
  ·obtain ⟨m, hm⟩ : ∃ m, q.size - i = m + 1 := ⟨q.size - i - 1, by omega⟩
   have hb := den_bd q i hi
   rw [hm, unqGo, unqGo, if_pos hi, if_pos hi]
   by_cases h3 : byN q i = 34
   ·rw [if_pos h3, if_pos h3]
   rw [if_neg h3, if_neg h3]
   by_cases h4 : (denS q i).1 ≠ 0
   ·rw [if_pos h4, if_pos h4]
   rw [if_neg h4, if_neg h4]
   have h5 : 1 ≤ (denS q i).2.2 := hb.2.2.2.1 (by omega)
   rw [unqGo_fuel q k _ _ (by omega), unqGo_fuel q m _ _ (by omega)]
  ·rw [show q.size - i = 0 by omega, unqGo, unqGo, if_neg hi]
theorem unqF_end {q : ByteArray} {i : Nat} (acc : ByteArray) (h : q.size ≤ i) : unqF q i acc = (ByteArray.empty, 0, 5, (q.size : Int)) := by unfold unqF; rw [show q.size - i = 0 by omega, unqGo]
theorem unqF_step {q : ByteArray} {i : Nat} (acc : ByteArray) (h : i < q.size) :
  unqF q i acc = if byN q i = 34 then (acc, (i : Int) + 1, 0, 0) else if (denS q i).1 ≠ 0 then (ByteArray.empty, 0, (denS q i).1, (i : Int)) else unqF q (i + (denS q i).2.2) (acc ++ (denS q i).2.1) := by
 have hb := den_bd q i h
 rw [← unqGo_fuel q (q.size - i + 1) i acc (by omega), unqGo, if_pos h]
 by_cases h3 : byN q i = 34
 ·rw [if_pos h3, if_pos h3]
 rw [if_neg h3, if_neg h3]
 by_cases h4 : (denS q i).1 ≠ 0
 ·rw [if_pos h4, if_pos h4]
 rw [if_neg h4, if_neg h4, unqGo_fuel q _ _ _ (by have := hb.2.2.2.1 (by omega); omega)]
def unqS (q : ByteArray) (i : Int) : ByteArray × Int × Int × Int :=
 if i < 0 ∨ (q.size : Int) < i then (ByteArray.empty, 0, 1, 0)
 else if i = q.size then (ByteArray.empty, 0, 5, q.size)
 else if byN q i.toNat ≠ 34 then (ByteArray.empty, 0, 4, i)
 else unqF q (i.toNat + 1) ByteArray.empty
def wrU (r : Int) (p : ByteArray) : ByteArray :=
 if r = 34 ∨ r = 92 then ⟨#[92]⟩ ++ p else if r = 9 then ⟨#[92, 116]⟩ else if r = 10 then ⟨#[92, 110]⟩ else if r = 13 then ⟨#[92, 114]⟩
 else if kindS r ≠ 0 then ⟨#[92, 117, 123]⟩ ++ hexB r.toNat ++ ⟨#[125]⟩ else p
def unS (s : ByteArray) (i : Nat) : ByteArray × Nat :=
 if (decS s i).2.2 = true then (wrU (decS s i).1 (s.extract i (i + (decS s i).2.1.toNat)), (decS s i).2.1.toNat) else (⟨#[92, 120]⟩ ++ hexB (byN s i), 1)
def quGo (s : ByteArray) : Nat → Nat → ByteArray
 | 0, _ => ByteArray.empty
 | k + 1, i => if i < s.size then (unS s i).1 ++ quGo s k (i + (unS s i).2) else ByteArray.empty
def quF (s : ByteArray) (i : Nat) : ByteArray := quGo s (s.size - i) i
def quoteS (s : ByteArray) : ByteArray := ⟨#[34]⟩ ++ quF s 0 ++ ⟨#[34]⟩
theorem find_some (t : ByteArray) : ∀ (k n : Nat) (r : Int) (m : Nat), refFind t k n = some (r, m) → CB t m = true ∧ r = reckS (t.extract 0 m) ∧ m ≤ t.size
 | 0, n, r, m, h => by rw [find_stop t 0 n (by simp [refFind] at h)] at h; cases h
 | k + 1, n, r, m, h => by
  by_cases h1 : n < 5 ∧ n ≤ t.size
  ·rw [find_step t k n h1.1 h1.2] at h
   by_cases h2 : CB t n = true
   ·rw [if_pos h2] at h
    simp only [Option.some.injEq, Prod.mk.injEq] at h
    obtain ⟨h3, rfl⟩ := h
    exact ⟨h2, h3.symm, h1.2⟩
   ·rw [if_neg h2] at h
    exact find_some t k (n + 1) r m h
  ·rw [find_stop t (k + 1) n h1] at h; cases h
theorem ext_in {s : ByteArray} {i n : Nat} (h : i + n ≤ s.size) : (s.extract i s.size).extract 0 n = s.extract i (i + n) := by
 rw [ByteArray.extract_extract]; congr 1 <;> omega
theorem dec_ok {s : ByteArray} {i : Nat} (hi : i < s.size) (h : (decS s i).2.2 = true) :
  scalarB (decS s i).1 = true ∧ bl (s.extract i (i + (decS s i).2.1.toNat)) = encL (decS s i).1 ∧ (decS s i).2.1.toNat = (encL (decS s i).1).length := by
 rw [← decR_eq] at h ⊢
 have hz : (s.extract i s.size).size = s.size - i := by rw [ByteArray.size_extract]; omega
 rw [decR_in hi] at h ⊢
 split at h
 next r n e =>
  obtain ⟨h1, h2, h3⟩ := find_some _ _ _ _ _ e
  simp only [Int.toNat_natCast]
  unfold CB at h1
  rw [← h2, Bool.and_eq_true, bl_inj, decide_eq_true_eq, bl_encS, ext_in (by omega)] at h1
  refine ⟨h1.1, h1.2.symm, ?_⟩
  rw [h1.2, bl_length, ByteArray.size_extract]
  omega
 next => simp at h
def Sf (l : List Int) : Prop := ∀ x ∈ l, scalarB x = true ∧ kindS x = 0
theorem wr_size {s : ByteArray} {j : Nat} (hj : j < s.size) : (unS s j).1.size ≤ 10 := by
 by_cases hok : (decS s j).2.2 = true
 ·obtain ⟨hs, he, hn⟩ := dec_ok hj hok
  have hd := decS_spec s j hj
  have hu : (unS s j).1 = wrU (decS s j).1 (s.extract j (j + (decS s j).2.1.toNat)) := by unfold unS; rw [if_pos hok]
  rw [hu]
  have hb := hs
  unfold scalarB at hb
  simp only [decide_eq_true_eq] at hb
  have hl := hexL_len 5 (decS s j).1.toNat (by omega)
  have hz : (s.extract j (j + (decS s j).2.1.toNat)).size ≤ 4 := by rw [ByteArray.size_extract]; omega
  generalize (decS s j).1 = r at *
  generalize s.extract j (j + (decS s j).2.1.toNat) = p at *
  unfold wrU
  by_cases h1 : r = 34 ∨ r = 92
  ·rw [if_pos h1, ByteArray.size_append]; show 1 + _ ≤ _; omega
  rw [if_neg h1]
  by_cases h2 : r = 9
  ·rw [if_pos h2]; decide
  rw [if_neg h2]
  by_cases h3 : r = 10
  ·rw [if_pos h3]; decide
  rw [if_neg h3]
  by_cases h4 : r = 13
  ·rw [if_pos h4]; decide
  rw [if_neg h4]
  by_cases h5 : kindS r ≠ 0
  ·rw [if_pos h5, ByteArray.size_append, ByteArray.size_append, ← bl_length (hexB _), bl_hex]
   show 3 + _ + 1 ≤ _
   omega
  ·rw [if_neg h5]; omega
 ·have hu : (unS s j).1 = ⟨#[92, 120]⟩ ++ hexB (byN s j) := by unfold unS; rw [if_neg hok]
  have hl := hexL_len 1 (byN s j) (by have := byN_lt s j; omega)
  rw [hu, ByteArray.size_append, ← bl_length (hexB _), bl_hex]
  show 2 + _ ≤ _
  omega
end Go.Proofs.YtncijmodlhijoaaGreat.Esc
namespace Go.Proofs.YtncijmodlhijoaaGreat.Cel
open Go.Lib Utf Ran
theorem decGo_part {s : ByteArray} {a b i L : Nat} (hb : b ≤ s.size) (ha : a ≤ b) : ∀ (k n : Nat) (lo hi r : Int), n ≤ b - a - i → i ≤ b - a → n + k = L →
  ((decGo (s.extract a b) i L k n lo hi r).2.2 = true → decGo s (a + i) L k n lo hi r = decGo (s.extract a b) i L k n lo hi r) ∧
  (a + i + L ≤ b → decGo (s.extract a b) i L k n lo hi r = decGo s (a + i) L k n lo hi r) ∧
  (b = s.size → decGo (s.extract a b) i L k n lo hi r = decGo s (a + i) L k n lo hi r)
 | 0, n, lo, hi, r, h1, h2, h3 => ⟨fun _ => rfl, fun _ => rfl, fun _ => rfl⟩
 | k + 1, n, lo, hi, r, h1, h2, h3 => by
  have hz : (s.extract a b).size = b - a := by rw [ByteArray.size_extract]; omega
  by_cases hn : n < b - a - i
  ·have hby : byN (s.extract a b) (i + n) = byN s (a + i + n) := by rw [byN_ext s a b (i + n) (by omega) hb, Nat.add_assoc]
   have e1 : ¬ n = (s.extract a b).size - i := by omega
   have e2 : ¬ n = s.size - (a + i) := by omega
   by_cases hc : (byN s (a + i + n) : Int) < lo ∨ hi < (byN s (a + i + n) : Int)
   ·have x1 : decGo (s.extract a b) i L (k + 1) n lo hi r = (0, (n : Int), false) := go_bad (.inr (by rw [hby]; exact hc))
    have x2 : decGo s (a + i) L (k + 1) n lo hi r = (0, (n : Int), false) := go_bad (.inr hc)
    rw [x1, x2]; exact ⟨fun _ => rfl, fun _ => rfl, fun _ => rfl⟩
   ·have x1 : decGo (s.extract a b) i L (k + 1) n lo hi r = decGo (s.extract a b) i L k (n + 1) 128 191 (r * 64 + ((byN s (a + i + n) : Int) - 128)) := by
     rw [go_ok (by rw [hby]; rintro (h | h); exact e1 h; exact hc h), hby]
    have x2 : decGo s (a + i) L (k + 1) n lo hi r = decGo s (a + i) L k (n + 1) 128 191 (r * 64 + ((byN s (a + i + n) : Int) - 128)) := go_ok (by rintro (h | h); exact e2 h; exact hc h)
    rw [x1, x2]
    exact decGo_part hb ha k (n + 1) _ _ _ (by omega) h2 (by omega)
  ·have e1 : n = (s.extract a b).size - i := by omega
   have x1 : decGo (s.extract a b) i L (k + 1) n lo hi r = (0, (n : Int), false) := go_bad (.inl e1)
   rw [x1]
   refine ⟨fun h => by simp at h, fun h => by omega, fun h => ?_⟩
   exact (go_bad (.inl (by omega))).symm
theorem decGo_len {s : ByteArray} {i L : Nat} : ∀ (k n : Nat) (lo hi r : Int), (decGo s i L k n lo hi r).2.2 = true → (decGo s i L k n lo hi r).2.1 = L
 | 0, n, lo, hi, r, h => rfl
 | k + 1, n, lo, hi, r, h => by
  by_cases hc : n = s.size - i ∨ (byN s (i + n) : Int) < lo ∨ hi < (byN s (i + n) : Int)
  ·rw [go_bad hc] at h; simp at h
  ·rw [go_ok hc] at h ⊢; exact decGo_len k (n + 1) _ _ _ h
theorem dec_part {s : ByteArray} {a b i : Nat} (hb : b ≤ s.size) (ha : a ≤ b) (hi : i < b - a) :
  ((decS (s.extract a b) i).2.2 = true → decS s (a + i : Nat) = decS (s.extract a b) i) ∧
  ((decS s (a + i : Nat)).2.2 = true → (a + i : Int) + (decS s (a + i : Nat)).2.1 ≤ b → decS (s.extract a b) i = decS s (a + i : Nat)) ∧
  (b = s.size → decS (s.extract a b) i = decS s (a + i : Nat)) := by
 have hz : (s.extract a b).size = b - a := by rw [ByteArray.size_extract]; omega
 have hby : byN (s.extract a b) i = byN s (a + i) := byN_ext s a b i (by omega) hb
 rcases leadL_cases (byN s (a + i)) (by omega) (by have := byN_lt s (a + i); omega) with h0 | ⟨L, lo, hi', hl, b1, b2, -⟩
 ·have x1 : decS (s.extract a b) i = (0, 1, false) := by
   unfold decS; rw [if_neg (by omega)]; simp only [Int.toNat_natCast, hby]; rw [if_pos h0]
  have x2 : decS s (a + i : Nat) = (0, 1, false) := by
   unfold decS; rw [if_neg (by omega)]; simp only [Int.toNat_natCast]; rw [if_pos h0]
  rw [x1, x2]; exact ⟨fun _ => rfl, fun _ _ => rfl, fun _ => rfl⟩
 ·have x1 := decS_in (s := s.extract a b) (i := i) (L := L) (lo := lo) (hi' := hi') (by omega) (by rw [hby]; exact hl) b1
  have x2 := decS_in (s := s) (i := a + i) (L := L) (lo := lo) (hi' := hi') (by omega) hl b1
  rw [x1, x2, hby]
  obtain ⟨p1, p2, p3⟩ := decGo_part (s := s) (a := a) (b := b) (i := i) (L := L) hb ha (L - 1) 1 lo hi' ((byN s (a + i) : Int) - markL L) (by omega) (by omega) (by omega)
  refine ⟨p1, fun h1 h2 => ?_, p3⟩
  rw [decGo_len _ _ _ _ _ h1] at h2
  exact p2 (by omega)
def unitS (s : ByteArray) (i : Nat) : Int × Nat := if (decS s i).2.2 then (sizeS (decS s i).1, (decS s i).2.1.toNat) else (1, 1)
def widGo (s : ByteArray) : Nat → Nat → Int
 | 0, _ => 0
 | k + 1, i => if i < s.size then (unitS s i).1 + widGo s k (i + (unitS s i).2) else 0
def widF (s : ByteArray) (i : Nat) : Int := widGo s (s.size - i) i
def widS (s : ByteArray) : Int := widF s 0
def cutGo (s : ByteArray) : Nat → Nat → Int → Nat
 | 0, _, _ => 0
 | k + 1, i, most => if i < s.size ∧ 0 ≤ most then (if most < (unitS s i).1 then 0 else (unitS s i).2 + cutGo s k (i + (unitS s i).2) (most - (unitS s i).1)) else 0
def cutF (s : ByteArray) (i : Nat) (most : Int) : Nat := cutGo s (s.size - i) i most
def linGo (s : ByteArray) : Nat → Nat → Nat → List ByteArray
 | 0, _, a => [s.extract a s.size]
 | k + 1, i, a => if i < s.size then (if byN s i = 10 then s.extract a i :: linGo s k (i + 1) (i + 1) else linGo s k (i + 1) a) else [s.extract a s.size]
def linS (s : ByteArray) : List ByteArray := linGo s s.size 0 0
def maxW (l : List ByteArray) : Int := l.foldl (fun m x => if widS x > m then widS x else m) 0
def widestS (s : ByteArray) : Int := maxW (linS s)
end Go.Proofs.YtncijmodlhijoaaGreat.Cel
