/- The plain mathematics of layer 5: how units are written and quoted, and what escapes denote. No Go here. -/
import Derived.Test.YtikcblnemdbjnaaUtfJ
import Derived.Test.YtikcblnemdbjnaaPinS
set_option linter.unusedVariables false
namespace Go.Proofs.Ytikcblnemdbjnaa.Esc
open Go.Lib Go.Proofs.Ytikcblnemdbjnaa.Utf Go.Proofs.Ytikcblnemdbjnaa.Ran

theorem bl_ext {a b : ByteArray} (h : bl a = bl b) : a = b := by
  have h1 : (a.toList == b.toList) = true := by rw [bl_inj]; simpa using h
  have h2 : a.toList = b.toList := by simpa using h1
  rw [ba_toList, ba_toList] at h2
  exact ByteArray.ext (Array.ext' h2)

/-- A hexadecimal digit. -/
def dg (d : Nat) : Nat := if d < 10 then 48 + d else 87 + d
def hexB (n : Nat) : ByteArray := if n < 16 then strOfNums [(dg n : Int)] else hexB (n / 16) ++ strOfNums [(dg (n % 16) : Int)]
termination_by n
decreasing_by omega
def hexL (n : Nat) : List Int := if n < 16 then [(dg n : Int)] else hexL (n / 16) ++ [(dg (n % 16) : Int)]
termination_by n
decreasing_by omega
theorem dg_bd {d : Nat} (h : d < 16) : (48 ≤ dg d ∧ dg d ≤ 57) ∨ (97 ≤ dg d ∧ dg d ≤ 102) := by unfold dg; split <;> omega
theorem dg_range {d : Nat} (h : d < 16) : ∀ x ∈ [(dg d : Int)], 0 ≤ x ∧ x < 256 := by
  intro x hx
  simp only [List.mem_singleton] at hx
  have := dg_bd h
  omega
theorem hexB_lt {n : Nat} (h : n < 16) : hexB n = strOfNums [(dg n : Int)] := by rw [hexB, if_pos h]
theorem hexB_ge {n : Nat} (h : ¬ n < 16) : hexB n = hexB (n / 16) ++ strOfNums [(dg (n % 16) : Int)] := by rw [hexB, if_neg h]
theorem hexL_lt {n : Nat} (h : n < 16) : hexL n = [(dg n : Int)] := by rw [hexL, if_pos h]
theorem hexL_ge {n : Nat} (h : ¬ n < 16) : hexL n = hexL (n / 16) ++ [(dg (n % 16) : Int)] := by rw [hexL, if_neg h]
theorem bl_hexB : ∀ (k n : Nat), n ≤ k → bl (hexB n) = hexL n
  | k, n, hk => by
    by_cases h : n < 16
    · rw [hexB_lt h, hexL_lt h, bl_strOfNums _ (dg_range h)]
    · cases k with
      | zero => omega
      | succ k => rw [hexB_ge h, hexL_ge h, bl_append, bl_hexB k (n / 16) (by omega), bl_strOfNums _ (dg_range (by omega))]
theorem bl_hex (n : Nat) : bl (hexB n) = hexL n := bl_hexB n n (Nat.le_refl _)
theorem hexL_mem : ∀ (k n : Nat), n ≤ k → ∀ x ∈ hexL n, (48 ≤ x ∧ x ≤ 57) ∨ (97 ≤ x ∧ x ≤ 102)
  | k, n, hk, x, hx => by
    by_cases h : n < 16
    · rw [hexL_lt h, List.mem_singleton] at hx
      have := dg_bd h
      omega
    · cases k with
      | zero => omega
      | succ k =>
        rw [hexL_ge h, List.mem_append, List.mem_singleton] at hx
        rcases hx with hx | hx
        · exact hexL_mem k (n / 16) (by omega) x hx
        · have := dg_bd (d := n % 16) (by omega)
          omega
theorem hexL_len : ∀ (m n : Nat), n < 16 ^ (m + 1) → 1 ≤ (hexL n).length ∧ (hexL n).length ≤ m + 1
  | m, n, h => by
    by_cases h1 : n < 16
    · rw [hexL_lt h1]; simp
    · cases m with
      | zero => omega
      | succ m =>
        have := hexL_len m (n / 16) (by rw [Nat.div_lt_iff_lt_mul (by omega)]; rw [Nat.pow_succ] at h; exact h)
        rw [hexL_ge h1, List.length_append, List.length_singleton]
        omega
theorem hexL_len2 {n : Nat} (h : 16 ≤ n) (h2 : n < 256) : (hexL n).length = 2 := by
  rw [hexL_ge (by omega), hexL_lt (by omega)]; rfl

/-- The number of a digit, of digits; -1: none. -/
def valD (c : Int) : Int := if 48 ≤ c ∧ c < 58 then c - 48 else if 65 ≤ c ∧ c < 71 then c - 55 else if 97 ≤ c ∧ c < 103 then c - 87 else -1
def numF : Int → List Int → Int
  | n, [] => n
  | n, c :: l => if valD c < 0 then -1 else numF (16 * n + valD c) l
def hexV (l : List Int) : Int := if l.length < 1 ∨ 6 < l.length then -1 else numF 0 l
theorem valD_bd (c : Int) : -1 ≤ valD c ∧ valD c ≤ 15 := by unfold valD; (repeat' split) <;> omega
theorem valD_dg {d : Nat} (h : d < 16) : valD (dg d) = d := by
  unfold valD dg
  by_cases h1 : d < 10
  · rw [if_pos h1, if_pos (by omega)]; omega
  · rw [if_neg h1, if_neg (by omega), if_neg (by omega), if_pos (by omega)]; omega
theorem numF_hex : ∀ (k n : Nat), n ≤ k → ∀ m, numF 0 (hexL n ++ m) = numF n m
  | k, n, hk, m => by
    by_cases h : n < 16
    · rw [hexL_lt h, List.singleton_append, numF, valD_dg h, if_neg (by omega)]
      congr 1
      omega
    · cases k with
      | zero => omega
      | succ k =>
        rw [hexL_ge h, List.append_assoc, numF_hex k (n / 16) (by omega), List.singleton_append, numF, valD_dg (by omega), if_neg (by omega)]
        congr 1
        omega
theorem hexV_hex {n : Nat} (h : n < 16 ^ 6) : hexV (hexL n) = n := by
  have hl := hexL_len 5 n h
  have := numF_hex n n (Nat.le_refl _) []
  rw [List.append_nil] at this
  unfold hexV
  rw [if_neg (by omega), this]
  rfl
theorem numF_bd : ∀ (l : List Int) (n : Int) (m : Nat), 0 ≤ n → n < 16 ^ m → numF n l < 16 ^ (m + l.length) ∧ (numF n l < 0 → numF n l = -1)
  | [], n, m, h0, h => ⟨by simpa [numF] using h, fun h => by simp only [numF] at h; omega⟩
  | c :: l, n, m, h0, h => by
    rw [numF]
    have hb := valD_bd c
    by_cases hc : valD c < 0
    · rw [if_pos hc]
      have : (0 : Int) < 16 ^ (m + (c :: l).length) := Int.pow_pos (by decide)
      exact ⟨by omega, fun _ => rfl⟩
    · rw [if_neg hc]
      have := numF_bd l (16 * n + valD c) (m + 1) (by omega) (by rw [Int.pow_succ]; omega)
      rw [List.length_cons, show m + (l.length + 1) = m + 1 + l.length by omega]
      exact this
theorem hexV_bd (l : List Int) : -1 ≤ hexV l ∧ hexV l < 16777216 ∧ (hexV l < 0 → hexV l = -1) ∧ (l.length ≤ 2 → hexV l < 256) := by
  unfold hexV
  by_cases h : l.length < 1 ∨ 6 < l.length
  · rw [if_pos h]; omega
  · rw [if_neg h]
    have h1 := numF_bd l 0 0 (by omega) (by decide)
    rw [Nat.zero_add] at h1
    have h6 : (16 : Int) ^ l.length ≤ 16 ^ 6 := by exact_mod_cast Nat.pow_le_pow_right (by omega) (by omega : l.length ≤ 6)
    have e6 : (16 : Int) ^ 6 = 16777216 := by decide
    refine ⟨?_, by omega, h1.2, fun h2 => ?_⟩
    · by_cases h0 : numF 0 l < 0
      · rw [h1.2 h0]; omega
      · omega
    · have h3 : (16 : Int) ^ l.length ≤ 16 ^ 2 := by exact_mod_cast Nat.pow_le_pow_right (by omega) h2
      have e2 : (16 : Int) ^ 2 = 256 := by decide
      omega

/-- The first closing brace. -/
def fi (l : List Int) : Nat := l.findIdx (fun x => x == 125)
theorem fi_hit {l : List Int} {o : Nat} (h : l[o]? = some 125) (hn : ∀ j, j < o → l[j]? ≠ some 125) : fi l = o := by
  unfold fi
  have ho : o < l.length := (List.getElem?_eq_some_iff.1 h).1
  rw [List.findIdx_eq ho]
  refine ⟨by simpa using (List.getElem?_eq_some_iff.1 h).2, fun j hj => ?_⟩
  have := hn j hj
  rw [List.getElem?_eq_getElem (by omega)] at this
  simpa using this
theorem fi_none {l : List Int} (hn : ∀ j, j < l.length → l[j]? ≠ some 125) : fi l = l.length := by
  unfold fi
  refine List.findIdx_eq_length_of_false fun x hx => ?_
  obtain ⟨j, hj, rfl⟩ := List.mem_iff_getElem.1 hx
  have := hn j hj
  rw [List.getElem?_eq_getElem hj] at this
  simpa using this

/-- What stands behind a 'u': the rune and how many digits it has. -/
def uniS (l : List Int) : Option (Int × Nat) :=
  if l.head? = some 123 then
    (if fi ((l.drop 1).take 7) < ((l.drop 1).take 7).length ∧ 0 ≤ hexV (((l.drop 1).take 7).take (fi ((l.drop 1).take 7))) ∧ scalarB (hexV (((l.drop 1).take 7).take (fi ((l.drop 1).take 7)))) = true then
      some (hexV (((l.drop 1).take 7).take (fi ((l.drop 1).take 7))), fi ((l.drop 1).take 7)) else none)
  else none
/-- What an escape at the beginning of l denotes, and its length; 0: none. -/
def oneL : List Int → List Int × Nat
  | b :: c :: l =>
    if b ≠ 92 then ([], 0)
    else if c = 34 ∨ c = 92 then ([c], 2) else if c = 116 then ([9], 2) else if c = 110 then ([10], 2) else if c = 114 then ([13], 2)
    else if c = 120 then (if 2 ≤ l.length ∧ 0 ≤ hexV (l.take 2) then ([hexV (l.take 2)], 4) else ([], 0))
    else if c = 117 then (match uniS l with | some (r, k) => (encL r, k + 4) | none => ([], 0))
    else ([], 0)
  | _ => ([], 0)
theorem uni_len {l : List Int} {r : Int} {k : Nat} (h : uniS l = some (r, k)) : k + 2 ≤ l.length ∧ k ≤ 6 ∧ scalarB r = true := by
  unfold uniS at h
  by_cases h1 : l.head? = some 123
  · rw [if_pos h1] at h
    split at h
    next h2 =>
      simp only [Option.some.injEq, Prod.mk.injEq] at h
      obtain ⟨h3, h4⟩ := h
      have h5 := h2.1
      have h6 := h2.2.2
      rw [h3] at h6
      rw [h4, List.length_take, List.length_drop] at h5
      exact ⟨by omega, by omega, h6⟩
    next => cases h
  · rw [if_neg h1] at h; cases h
theorem one_len (l : List Int) : (oneL l).2 ≤ l.length ∧ (oneL l).2 ≤ 10 ∧ (oneL l).1.length ≤ 4 ∧ (∀ x ∈ (oneL l).1, 0 ≤ x → x < 256 → 0 ≤ x ∧ x < 256) := by
  refine ⟨?_, ?_, ?_, fun x _ h1 h2 => ⟨h1, h2⟩⟩ <;> (
    unfold oneL
    split
    · next b c l =>
      try simp only [List.length_cons]
      (repeat' split) <;> first
        | (simp; done)
        | (simp; omega)
        | (next r k h => have h9 := uni_len h; have h8 := encL_len r; simp only; omega)
    · simp)

/-- What stands at index i within quotes: a fault, or what it denotes and its length. -/
def denS (q : ByteArray) (i : Nat) : Int × ByteArray × Nat :=
  if byN q i = 92 then
    (if (oneL ((bl q).drop i)).2 = 0 then (16, ByteArray.empty, 0) else (0, strOfNums (oneL ((bl q).drop i)).1, (oneL ((bl q).drop i)).2))
  else if (decS q i).2.2 = false then (2, ByteArray.empty, 0)
  else if kindS (decS q i).1 ≠ 0 then (3, ByteArray.empty, 0)
  else (0, q.extract i (i + (decS q i).2.1.toNat), (decS q i).2.1.toNat)
theorem den_bd (q : ByteArray) (i : Nat) (hi : i < q.size) : 0 ≤ (denS q i).1 ∧ (denS q i).1 ≤ 16 ∧ i + (denS q i).2.2 ≤ q.size ∧ ((denS q i).1 = 0 → 1 ≤ (denS q i).2.2) ∧ (denS q i).2.2 ≤ 10 ∧ (denS q i).2.1.size ≤ 4 := by
  have hd := decS_spec q i hi
  have ho := one_len ((bl q).drop i)
  rw [List.length_drop, bl_length] at ho
  unfold denS
  split
  · split
    · simp; omega
    · simp only; rw [strOfNums_size]; omega
  · split
    · simp; omega
    · split
      · simp; omega
      · simp only; rw [ByteArray.size_extract]; omega
def unqGo (q : ByteArray) : Nat → Nat → ByteArray → ByteArray × Int × Int × Int
  | 0, _, _ => (ByteArray.empty, 0, 5, q.size)
  | k + 1, i, acc =>
    if i < q.size then
      (if byN q i = 34 then (acc, (i : Int) + 1, 0, 0)
       else if (denS q i).1 ≠ 0 then (ByteArray.empty, 0, (denS q i).1, i)
       else unqGo q k (i + (denS q i).2.2) (acc ++ (denS q i).2.1))
    else (ByteArray.empty, 0, 5, q.size)
def unqF (q : ByteArray) (i : Nat) (acc : ByteArray) : ByteArray × Int × Int × Int := unqGo q (q.size - i) i acc
theorem unqGo_fuel (q : ByteArray) : ∀ (k i : Nat) (acc : ByteArray), q.size - i ≤ k → unqGo q k i acc = unqF q i acc
  | 0, i, acc, h => by unfold unqF; rw [show q.size - i = 0 by omega]
  | k + 1, i, acc, h => by
    unfold unqF
    by_cases hi : i < q.size
    · obtain ⟨m, hm⟩ : ∃ m, q.size - i = m + 1 := ⟨q.size - i - 1, by omega⟩
      have hb := den_bd q i hi
      rw [hm, unqGo, unqGo, if_pos hi, if_pos hi]
      by_cases h3 : byN q i = 34
      · rw [if_pos h3, if_pos h3]
      rw [if_neg h3, if_neg h3]
      by_cases h4 : (denS q i).1 ≠ 0
      · rw [if_pos h4, if_pos h4]
      rw [if_neg h4, if_neg h4]
      have h5 : 1 ≤ (denS q i).2.2 := hb.2.2.2.1 (by omega)
      rw [unqGo_fuel q k _ _ (by omega), unqGo_fuel q m _ _ (by omega)]
    · rw [show q.size - i = 0 by omega, unqGo, unqGo, if_neg hi]
theorem unqF_end {q : ByteArray} {i : Nat} (acc : ByteArray) (h : q.size ≤ i) : unqF q i acc = (ByteArray.empty, 0, 5, (q.size : Int)) := by unfold unqF; rw [show q.size - i = 0 by omega, unqGo]
theorem unqF_step {q : ByteArray} {i : Nat} (acc : ByteArray) (h : i < q.size) :
    unqF q i acc = if byN q i = 34 then (acc, (i : Int) + 1, 0, 0) else if (denS q i).1 ≠ 0 then (ByteArray.empty, 0, (denS q i).1, (i : Int)) else unqF q (i + (denS q i).2.2) (acc ++ (denS q i).2.1) := by
  have hb := den_bd q i h
  rw [← unqGo_fuel q (q.size - i + 1) i acc (by omega), unqGo, if_pos h]
  by_cases h3 : byN q i = 34
  · rw [if_pos h3, if_pos h3]
  rw [if_neg h3, if_neg h3]
  by_cases h4 : (denS q i).1 ≠ 0
  · rw [if_pos h4, if_pos h4]
  rw [if_neg h4, if_neg h4, unqGo_fuel q _ _ _ (by have := hb.2.2.2.1 (by omega); omega)]
def unqS (q : ByteArray) (i : Int) : ByteArray × Int × Int × Int :=
  if i < 0 ∨ (q.size : Int) < i then (ByteArray.empty, 0, 1, 0)
  else if i = q.size then (ByteArray.empty, 0, 5, q.size)
  else if byN q i.toNat ≠ 34 then (ByteArray.empty, 0, 4, i)
  else unqF q (i.toNat + 1) ByteArray.empty

/-- A unit as it is written, and its length. -/
def wrU (r : Int) (p : ByteArray) : ByteArray :=
  if r = 34 ∨ r = 92 then ⟨#[92]⟩ ++ p else if r = 9 then ⟨#[92, 116]⟩ else if r = 10 then ⟨#[92, 110]⟩ else if r = 13 then ⟨#[92, 114]⟩
  else if kindS r ≠ 0 then ⟨#[92, 117, 123]⟩ ++ hexB r.toNat ++ ⟨#[125]⟩ else p
def unS (s : ByteArray) (i : Nat) : ByteArray × Nat :=
  if (decS s i).2.2 = true then (wrU (decS s i).1 (s.extract i (i + (decS s i).2.1.toNat)), (decS s i).2.1.toNat) else (⟨#[92, 120]⟩ ++ hexB (byN s i), 1)
theorem un_bd {s : ByteArray} {i : Nat} (hi : i < s.size) : 1 ≤ (unS s i).2 ∧ (unS s i).2 ≤ 4 ∧ i + (unS s i).2 ≤ s.size := by
  have hd := decS_spec s i hi
  unfold unS
  split
  · simp only; omega
  · simp only; omega
def quGo (s : ByteArray) : Nat → Nat → ByteArray
  | 0, _ => ByteArray.empty
  | k + 1, i => if i < s.size then (unS s i).1 ++ quGo s k (i + (unS s i).2) else ByteArray.empty
def quF (s : ByteArray) (i : Nat) : ByteArray := quGo s (s.size - i) i
theorem quGo_fuel (s : ByteArray) : ∀ (k i : Nat), s.size - i ≤ k → quGo s k i = quF s i
  | 0, i, h => by unfold quF; rw [show s.size - i = 0 by omega]
  | k + 1, i, h => by
    unfold quF
    by_cases hi : i < s.size
    · obtain ⟨m, hm⟩ : ∃ m, s.size - i = m + 1 := ⟨s.size - i - 1, by omega⟩
      have hb := un_bd hi
      rw [hm, quGo, quGo, if_pos hi, if_pos hi, quGo_fuel s k _ (by omega), quGo_fuel s m _ (by omega)]
    · rw [show s.size - i = 0 by omega, quGo, quGo, if_neg hi]
theorem quF_end {s : ByteArray} {i : Nat} (h : s.size ≤ i) : quF s i = ByteArray.empty := by unfold quF; rw [show s.size - i = 0 by omega, quGo]
theorem quF_step {s : ByteArray} {i : Nat} (h : i < s.size) : quF s i = (unS s i).1 ++ quF s (i + (unS s i).2) := by
  have hb := un_bd h
  rw [← quGo_fuel s (s.size - i + 1) i (by omega), quGo, if_pos h, quGo_fuel s _ _ (by omega)]
def quoteS (s : ByteArray) : ByteArray := ⟨#[34]⟩ ++ quF s 0 ++ ⟨#[34]⟩

/-! ### What is decoded is what is encoded -/
theorem find_some (t : ByteArray) : ∀ (k n : Nat) (r : Int) (m : Nat), refFind t k n = some (r, m) → CB t m = true ∧ r = reckS (t.extract 0 m) ∧ m ≤ t.size
  | 0, n, r, m, h => by rw [find_stop t 0 n (by simp [refFind] at h)] at h; cases h
  | k + 1, n, r, m, h => by
    by_cases h1 : n < 5 ∧ n ≤ t.size
    · rw [find_step t k n h1.1 h1.2] at h
      by_cases h2 : CB t n = true
      · rw [if_pos h2] at h
        simp only [Option.some.injEq, Prod.mk.injEq] at h
        obtain ⟨h3, rfl⟩ := h
        exact ⟨h2, h3.symm, h1.2⟩
      · rw [if_neg h2] at h
        exact find_some t k (n + 1) r m h
    · rw [find_stop t (k + 1) n h1] at h; cases h
theorem ext_in {s : ByteArray} {i n : Nat} (h : i + n ≤ s.size) : (s.extract i s.size).extract 0 n = s.extract i (i + n) := by
  rw [ByteArray.extract_extract]; congr 1 <;> omega
theorem dec_ok {s : ByteArray} {i : Nat} (hi : i < s.size) (h : (decS s i).2.2 = true) :
    scalarB (decS s i).1 = true ∧ bl (s.extract i (i + (decS s i).2.1.toNat)) = encL (decS s i).1 ∧ (decS s i).2.1.toNat = (encL (decS s i).1).length := by
  rw [← decR_eq] at h ⊢
  have hz : (s.extract i s.size).size = s.size - i := by rw [ByteArray.size_extract]; omega
  rw [decR_in hi] at h ⊢
  split at h
  next r n e =>
    obtain ⟨h1, h2, h3⟩ := find_some _ _ _ _ _ e
    simp only [Int.toNat_natCast]
    unfold CB at h1
    rw [← h2, Bool.and_eq_true, bl_inj, decide_eq_true_eq, bl_encS, ext_in (by omega)] at h1
    refine ⟨h1.1, h1.2.symm, ?_⟩
    rw [h1.2, bl_length, ByteArray.size_extract]
    omega
  next => simp at h

theorem encL_ascii {c : Int} (h : 0 ≤ c ∧ c < 128) : encL c = [c] ∧ scalarB c = true := by
  have hs : scalarB c = true := by unfold scalarB; simp; omega
  refine ⟨?_, hs⟩
  unfold encL
  rw [hs, if_pos rfl, if_pos h.2]
theorem encL_high {r : Int} (hs : scalarB r = true) (h : ¬ r < 128) : ∀ x ∈ encL r, 128 ≤ x ∧ x < 256 := by
  intro x hx
  have hb := hs
  unfold scalarB at hb
  simp only [decide_eq_true_eq] at hb
  unfold encL at hx
  rw [hs, if_pos rfl, if_neg h] at hx
  (repeat' split at hx) <;> simp only [List.mem_cons, List.not_mem_nil, or_false] at hx <;> omega
theorem byN_head {q : ByteArray} {i : Nat} {c : Int} {l : List Int} (h : (bl q).drop i = c :: l) : (byN q i : Int) = c := by
  apply byN_of_bl
  rw [← List.head?_drop, h]; rfl
theorem drop_next {q : ByteArray} {i : Nat} {p l : List Int} (h : (bl q).drop i = p ++ l) : (bl q).drop (i + p.length) = l := by
  rw [← List.drop_drop, h, List.drop_left]
theorem one_byte {c : Nat} (h1 : 16 ≤ c) (h2 : c < 256) (rest : List Int) : oneL (92 :: 120 :: (hexL c ++ rest)) = ([(c : Int)], 4) := by
  have hl := hexL_len2 h1 h2
  have ht : (hexL c ++ rest).take 2 = hexL c := by rw [← hl, List.take_left]
  have hv : hexV (hexL c) = c := hexV_hex (by omega)
  rw [oneL, if_neg (by decide), if_neg (by decide), if_neg (by decide), if_neg (by decide), if_neg (by decide), if_pos rfl, ht, hv, if_pos ⟨by rw [List.length_append]; omega, by omega⟩]
theorem one_rune {r : Int} (hs : scalarB r = true) (rest : List Int) : oneL (92 :: 117 :: (123 :: (hexL r.toNat ++ 125 :: rest))) = (encL r, (hexL r.toNat).length + 4) := by
  have hb := hs
  unfold scalarB at hb
  simp only [decide_eq_true_eq] at hb
  have hl := hexL_len 5 r.toNat (by omega)
  have hv : hexV (hexL r.toNat) = r := by rw [hexV_hex (by omega)]; omega
  have ht : (hexL r.toNat ++ 125 :: rest).take 7 = hexL r.toNat ++ (125 :: rest).take (7 - (hexL r.toNat).length) := by
    rw [List.take_append, List.take_of_length_le (by omega)]
  obtain ⟨m, hm⟩ : ∃ m, 7 - (hexL r.toNat).length = m + 1 := ⟨6 - (hexL r.toNat).length, by omega⟩
  rw [hm, List.take_succ_cons] at ht
  have hf : fi (hexL r.toNat ++ 125 :: rest.take m) = (hexL r.toNat).length := by
    refine fi_hit (by simp) fun j hj => ?_
    rw [List.getElem?_append_left hj, List.getElem?_eq_getElem hj]
    have := hexL_mem _ r.toNat (Nat.le_refl _) _ (List.getElem_mem hj)
    intro e
    simp only [Option.some.injEq] at e
    omega
  have hu : uniS (123 :: (hexL r.toNat ++ 125 :: rest)) = some (r, (hexL r.toNat).length) := by
    unfold uniS
    rw [List.head?_cons, if_pos rfl, List.drop_one, List.tail_cons, ht, hf, List.take_left, hv, if_pos]
    exact ⟨by rw [List.length_append, List.length_cons]; omega, by omega, hs⟩
  rw [oneL, if_neg (by decide), if_neg (by decide), if_neg (by decide), if_neg (by decide), if_neg (by decide), if_neg (by decide), if_pos rfl, hu]

theorem den_of_one {q : ByteArray} {i : Nat} {l : List Int} {o : List Int} {n : Nat} (h : (bl q).drop i = 92 :: l) (ho : oneL (92 :: l) = (o, n)) (hn : n ≠ 0) : denS q i = (0, strOfNums o, n) ∧ byN q i ≠ 34 := by
  have h1 := byN_head h
  have h2 : byN q i = 92 := by omega
  unfold denS
  rw [if_pos h2, h, ho, if_neg hn]
  exact ⟨rfl, by omega⟩
theorem str_eq {l : List Int} {b : ByteArray} (hr : ∀ x ∈ l, 0 ≤ x ∧ x < 256) (h : bl b = l) : strOfNums l = b := bl_ext (by rw [bl_strOfNums _ hr, h])
theorem bl_one (s : ByteArray) (i : Nat) (hi : i < s.size) : bl (s.extract i (i + 1)) = [(byN s i : Int)] := by
  rw [bl_extract, List.drop_take, show i + 1 - i = 1 by omega]
  have h := bl_get s i hi
  rw [List.take_one, List.head?_drop, h]
  rfl
theorem byte_range (s : ByteArray) (i : Nat) : ∀ x ∈ [(byN s i : Int)], 0 ≤ x ∧ x < 256 := by
  intro x hx
  have := byN_lt s i
  simp only [List.mem_singleton] at hx
  omega
/-- A unit of s as it is written denotes that unit, wherever it stands. -/
theorem den_write {s q : ByteArray} {j i : Nat} {rest : List Int} (hj : j < s.size) (h : (bl q).drop i = bl (unS s j).1 ++ rest) :
    denS q i = (0, s.extract j (j + (unS s j).2), (unS s j).1.size) ∧ byN q i ≠ 34 := by
  by_cases hok : (decS s j).2.2 = true
  · obtain ⟨hs, he, hn⟩ := dec_ok hj hok
    have hd := decS_spec s j hj
    have hu : unS s j = (wrU (decS s j).1 (s.extract j (j + (decS s j).2.1.toNat)), (decS s j).2.1.toNat) := by unfold unS; rw [if_pos hok]
    rw [hu] at h ⊢
    simp only at h ⊢
    have hn1 : 1 ≤ (decS s j).2.1.toNat := by omega
    generalize (decS s j).1 = r at *
    generalize (decS s j).2.1.toNat = n at *
    generalize hp : s.extract j (j + n) = p at *
    have hpz : p.size = n := by rw [← bl_length, he, hn]
    clear hu
    unfold wrU at h ⊢
    by_cases h1 : r = 34 ∨ r = 92
    · rw [if_pos h1] at h ⊢
      have ha := (encL_ascii (c := r) (by omega)).1
      rw [ha] at he hn
      rw [bl_append, he] at h
      have h' : (bl q).drop i = 92 :: r :: rest := h
      have := den_of_one h' (o := [r]) (n := 2) (by rw [oneL, if_neg (by decide), if_pos h1]) (by decide)
      refine ⟨?_, this.2⟩
      rw [this.1, str_eq (by intro x hx; simp only [List.mem_singleton] at hx; omega) he, ByteArray.size_append, hpz, hn]
      rfl
    rw [if_neg h1] at h ⊢
    by_cases h2 : r = 9
    · subst h2
      rw [if_pos rfl] at h ⊢
      have := den_of_one (l := 116 :: rest) h (o := [9]) (n := 2) (by rw [oneL, if_neg (by decide), if_neg (by decide), if_pos rfl]) (by decide)
      refine ⟨?_, this.2⟩
      rw [this.1, str_eq (by decide) (he.trans (by decide))]
      rfl
    rw [if_neg h2] at h ⊢
    by_cases h3 : r = 10
    · subst h3
      rw [if_pos rfl] at h ⊢
      have := den_of_one (l := 110 :: rest) h (o := [10]) (n := 2) (by rw [oneL, if_neg (by decide), if_neg (by decide), if_neg (by decide), if_pos rfl]) (by decide)
      refine ⟨?_, this.2⟩
      rw [this.1, str_eq (by decide) (he.trans (by decide))]
      rfl
    rw [if_neg h3] at h ⊢
    by_cases h4 : r = 13
    · subst h4
      rw [if_pos rfl] at h ⊢
      have := den_of_one (l := 114 :: rest) h (o := [13]) (n := 2) (by rw [oneL, if_neg (by decide), if_neg (by decide), if_neg (by decide), if_neg (by decide), if_pos rfl]) (by decide)
      refine ⟨?_, this.2⟩
      rw [this.1, str_eq (by decide) (he.trans (by decide))]
      rfl
    rw [if_neg h4] at h ⊢
    by_cases h5 : kindS r ≠ 0
    · rw [if_pos h5] at h ⊢
      rw [bl_append, bl_append, bl_hex] at h
      have h' : (bl q).drop i = 92 :: 117 :: (123 :: (hexL r.toNat ++ 125 :: rest)) := by rw [h]; simp [bl]
      have := den_of_one h' (one_rune hs rest) (by omega)
      refine ⟨?_, this.2⟩
      rw [this.1, str_eq (encL_range r) he, ByteArray.size_append, ByteArray.size_append, ← bl_length (hexB _), bl_hex]
      congr 2
      show _ = 3 + _ + 1
      omega
    · rw [if_neg h5] at h ⊢
      rw [he] at h
      have hde := (dec_enc hs h).1
      have hq : byN q i ≠ 92 ∧ byN q i ≠ 34 := by
        by_cases h6 : r < 128
        · have h0 : 0 ≤ r := by unfold scalarB at hs; simp at hs; omega
          rw [(encL_ascii ⟨h0, h6⟩).1] at h
          have := byN_head h
          omega
        · obtain ⟨x, l, hx⟩ : ∃ x l, encL r = x :: l := by
            cases hx : encL r with
            | nil => rw [hx] at hn; simp at hn; omega
            | cons x l => exact ⟨x, l, rfl⟩
          have h7 := encL_high hs h6 x (by rw [hx]; exact List.mem_cons_self)
          rw [hx] at h
          have := byN_head h
          omega
      refine ⟨?_, hq.2⟩
      unfold denS
      rw [if_neg hq.1, hde, if_neg (by simp), if_neg h5]
      simp only [Int.toNat_natCast, Prod.mk.injEq, true_and]
      rw [← hn, hpz]
      refine ⟨bl_ext ?_, rfl⟩
      rw [bl_extract, List.drop_take, h, show i + n - i = n by omega, hn, List.take_left, he]
  · have hu : unS s j = (⟨#[92, 120]⟩ ++ hexB (byN s j), 1) := by unfold unS; rw [if_neg hok]
    rw [hu] at h ⊢
    simp only at h ⊢
    have hb := byN_lt s j
    have h8 : 16 ≤ byN s j := by
      refine Nat.le_of_not_lt fun h9 => hok ?_
      have h10 : leadL (byN s j) = (((1 : Nat) : Int), 0, 0) := by unfold leadL; rw [if_pos (by omega)]; rfl
      rw [decS_in hj h10 (by omega)]
      rfl
    rw [bl_append, bl_hex] at h
    have := den_of_one (l := 120 :: (hexL (byN s j) ++ rest)) h (one_byte h8 hb rest) (by decide)
    refine ⟨?_, this.2⟩
    rw [this.1, str_eq (byte_range s j) (bl_one s j hj), ByteArray.size_append, ← bl_length (hexB _), bl_hex, hexL_len2 h8 hb]
    rfl
theorem ext_join {s : ByteArray} {a b c : Nat} (h1 : a ≤ b) (h2 : b ≤ c) (h3 : c ≤ s.size) : s.extract a b ++ s.extract b c = s.extract a c := by
  rw [ByteArray.extract_append_extract]
  congr 1 <;> omega
theorem unq_back (s q : ByteArray) (rest : List Int) : ∀ (k j i : Nat) (acc : ByteArray), s.size - j ≤ k → j ≤ s.size → (bl q).drop i = bl (quF s j) ++ 34 :: rest →
    unqF q i acc = (acc ++ s.extract j s.size, (i : Int) + (quF s j).size + 1, 0, 0)
  | k, j, i, acc, hk, hj, h => by
    have hiq : i < q.size := by
      have := congrArg List.length h
      rw [List.length_drop, bl_length, List.length_append, List.length_cons] at this
      omega
    by_cases hj' : j < s.size
    · cases k with
      | zero => omega
      | succ k =>
        rw [quF_step hj', bl_append, List.append_assoc] at h
        obtain ⟨hd, h34⟩ := den_write hj' h
        have hb := un_bd hj'
        have hnx := drop_next h
        rw [bl_length] at hnx
        rw [unqF_step acc hiq, if_neg h34, hd, if_neg (by simp)]
        simp only
        rw [unq_back s q rest k _ _ _ (by omega) (by omega) hnx, ByteArray.append_assoc, ext_join (by omega) (by omega) (Nat.le_refl _), quF_step hj', ByteArray.size_append]
        congr 2
        omega
    · rw [quF_end (by omega)] at h ⊢
      have h34 : byN q i = 34 := by have := byN_head (l := rest) (c := 34) h; omega
      rw [unqF_step acc hiq, if_pos h34]
      have : s.extract j s.size = ByteArray.empty := by
        apply bl_ext
        rw [bl_extract, List.drop_eq_nil_of_le (by rw [List.length_take, bl_length]; omega)]
        rfl
      rw [this, ByteArray.append_empty]
      simp
/-- A quoted string is read as what it denotes, wherever it stands and whatever follows. -/
theorem unq_quote (s a b : ByteArray) : unqS (a ++ quoteS s ++ b) (a.size : Nat) = (s, (a.size : Int) + (quoteS s).size, 0, 0) := by
  have hz : (quoteS s).size = (quF s 0).size + 2 := by unfold quoteS; rw [ByteArray.size_append, ByteArray.size_append]; show 1 + _ + 1 = _; omega
  have hq : bl (quoteS s) = 34 :: (bl (quF s 0) ++ [34]) := by unfold quoteS; rw [bl_append, bl_append]; rfl
  have h0 : (bl (a ++ quoteS s ++ b)).drop a.size = 34 :: (bl (quF s 0) ++ 34 :: bl b) := by
    rw [bl_append, bl_append, List.append_assoc, ← bl_length a, List.drop_left, hq]
    simp
  have h1 : (bl (a ++ quoteS s ++ b)).drop (a.size + 1) = bl (quF s 0) ++ 34 :: bl b := by
    have := drop_next (p := [34]) h0
    exact this
  have h34 : byN (a ++ quoteS s ++ b) a.size = 34 := by have := byN_head h0; omega
  unfold unqS
  have hz2 : (a ++ quoteS s ++ b).size = a.size + (quoteS s).size + b.size := by rw [ByteArray.size_append, ByteArray.size_append]
  rw [if_neg (by omega), if_neg (by omega), Int.toNat_natCast, if_neg (by omega), unq_back s _ _ s.size 0 _ _ (by omega) (by omega) h1, ByteArray.empty_append]
  rw [hz]
  exact Prod.ext (by simp) (Prod.ext (by simp only; omega) rfl)
theorem unq_quote0 (s : ByteArray) : unqS (quoteS s) 0 = (s, ((quoteS s).size : Int), 0, 0) := by
  have := unq_quote s ByteArray.empty ByteArray.empty
  rw [ByteArray.empty_append, ByteArray.append_empty] at this
  simpa using this

/-! ### A quoted string is safe -/
def Sf (l : List Int) : Prop := ∀ x ∈ l, scalarB x = true ∧ kindS x = 0
theorem kind_ascii {c : Int} (h0 : 32 ≤ c) (h1 : c ≤ 126) : kindS c = 0 := by
  have h : ∀ k : Fin 127, 32 ≤ k.val → kindS (k.val : Int) = 0 := by decide +kernel
  have := h ⟨c.toNat, by omega⟩ (by show 32 ≤ c.toNat; omega)
  simp only at this
  rwa [Int.toNat_of_nonneg (by omega)] at this
theorem encCat_ascii {p : List Int} (h : ∀ x ∈ p, 32 ≤ x ∧ x ≤ 126) : encCat p = p ∧ Sf p := by
  constructor
  · unfold encCat
    induction p with
    | nil => rfl
    | cons a p ih =>
      have := h a List.mem_cons_self
      rw [List.map_cons, List.flatten_cons, ih (fun x hx => h x (List.mem_cons_of_mem _ hx)), (encL_ascii (c := a) (by omega)).1]
      rfl
  · intro x hx
    have := h x hx
    exact ⟨(encL_ascii (c := x) (by omega)).2, kind_ascii this.1 this.2⟩
theorem encCat_append (a b : List Int) : encCat (a ++ b) = encCat a ++ encCat b := by unfold encCat; simp
theorem hexL_ascii (n : Nat) : ∀ x ∈ hexL n, 32 ≤ x ∧ x ≤ 126 := fun x hx => by have := hexL_mem n n (Nat.le_refl _) x hx; omega
theorem un_safe {s : ByteArray} {j : Nat} (hj : j < s.size) : ∃ l, bl (unS s j).1 = encCat l ∧ Sf l := by
  have asc : ∀ p : List Int, (∀ x ∈ p, 32 ≤ x ∧ x ≤ 126) → ∃ l, p = encCat l ∧ Sf l := fun p hp => ⟨p, (encCat_ascii hp).1.symm, (encCat_ascii hp).2⟩
  by_cases hok : (decS s j).2.2 = true
  · obtain ⟨hs, he, hn⟩ := dec_ok hj hok
    have hu : (unS s j).1 = wrU (decS s j).1 (s.extract j (j + (decS s j).2.1.toNat)) := by unfold unS; rw [if_pos hok]
    rw [hu]
    generalize (decS s j).1 = r at *
    generalize s.extract j (j + (decS s j).2.1.toNat) = p at *
    unfold wrU
    by_cases h1 : r = 34 ∨ r = 92
    · rw [if_pos h1, bl_append, he, (encL_ascii (c := r) (by omega)).1]
      refine asc _ ?_
      show ∀ x ∈ [92, r], _
      intro x hx
      simp only [List.mem_cons, List.not_mem_nil, or_false] at hx
      omega
    rw [if_neg h1]
    by_cases h2 : r = 9
    · rw [if_pos h2]; exact asc [92, 116] (by decide)
    rw [if_neg h2]
    by_cases h3 : r = 10
    · rw [if_pos h3]; exact asc [92, 110] (by decide)
    rw [if_neg h3]
    by_cases h4 : r = 13
    · rw [if_pos h4]; exact asc [92, 114] (by decide)
    rw [if_neg h4]
    by_cases h5 : kindS r ≠ 0
    · rw [if_pos h5, bl_append, bl_append, bl_hex]
      refine asc _ ?_
      intro x hx
      simp only [List.mem_append] at hx
      rcases hx with (hx | hx) | hx
      · exact (by decide : ∀ x ∈ bl ⟨#[92, 117, 123]⟩, 32 ≤ x ∧ x ≤ 126) x hx
      · exact hexL_ascii _ x hx
      · exact (by decide : ∀ x ∈ bl ⟨#[125]⟩, 32 ≤ x ∧ x ≤ 126) x hx
    · rw [if_neg h5]
      refine ⟨[r], by rw [he]; simp [encCat], fun x hx => ?_⟩
      simp only [List.mem_singleton] at hx
      subst hx
      exact ⟨hs, by omega⟩
  · have hu : (unS s j).1 = ⟨#[92, 120]⟩ ++ hexB (byN s j) := by unfold unS; rw [if_neg hok]
    rw [hu, bl_append, bl_hex]
    refine asc _ ?_
    intro x hx
    simp only [List.mem_append] at hx
    rcases hx with hx | hx
    · exact (by decide : ∀ x ∈ bl ⟨#[92, 120]⟩, 32 ≤ x ∧ x ≤ 126) x hx
    · exact hexL_ascii _ x hx
theorem qu_safe (s : ByteArray) : ∀ (k j : Nat), s.size - j ≤ k → ∃ l, bl (quF s j) = encCat l ∧ Sf l
  | k, j, hk => by
    by_cases hj : j < s.size
    · cases k with
      | zero => omega
      | succ k =>
        have hb := un_bd hj
        obtain ⟨l, hl, sl⟩ := un_safe hj
        obtain ⟨m, hm, sm⟩ := qu_safe s k (j + (unS s j).2) (by omega)
        refine ⟨l ++ m, by rw [quF_step hj, bl_append, hl, hm, encCat_append], fun x hx => ?_⟩
        rcases List.mem_append.1 hx with h | h
        · exact sl x h
        · exact sm x h
    · exact ⟨[], by rw [quF_end (by omega)]; rfl, fun x hx => by simp at hx⟩
theorem kept_all {l : List Int} (h : Sf l) : keptL l = l := by
  unfold keptL
  exact List.filter_eq_self.2 fun x hx => (h x hx).1
theorem quote_safe (s : ByteArray) : badS (quoteS s) = (quoteS s).size ∧ (∀ x ∈ runesS (quoteS s), kindS x = 0) ∧ 2 ≤ (runesS (quoteS s)).length := by
  obtain ⟨l, hl, sl⟩ := qu_safe s s.size 0 (by omega)
  have hq : bl (quoteS s) = encCat (34 :: (l ++ [34])) := by
    unfold quoteS
    rw [bl_append, bl_append, hl, show (34 :: (l ++ [34]) : List Int) = [34] ++ l ++ [34] by simp, encCat_append, encCat_append]
    rfl
  have sq : Sf (34 :: (l ++ [34])) := by
    intro x hx
    have h34 : scalarB 34 = true ∧ kindS 34 = 0 := ⟨by decide, kind_ascii (by decide) (by decide)⟩
    simp only [List.mem_cons, List.mem_append, List.not_mem_nil, or_false] at hx
    rcases hx with rfl | hx | rfl
    · exact h34
    · exact sl x hx
    · exact h34
  obtain ⟨h1, h2, -⟩ := back_all (quoteS s) (34 :: (l ++ [34])) 0 (quoteS s).size (by rw [List.drop_zero, hq]) (by omega) (by omega)
  have hr : runesS (quoteS s) = 34 :: (l ++ [34]) := by unfold runesS; rw [h2, kept_all sq]
  rw [hr]
  exact ⟨h1, fun x hx => (sq x hx).2, by simp⟩
theorem wr_size {s : ByteArray} {j : Nat} (hj : j < s.size) : (unS s j).1.size ≤ 10 := by
  by_cases hok : (decS s j).2.2 = true
  · obtain ⟨hs, he, hn⟩ := dec_ok hj hok
    have hd := decS_spec s j hj
    have hu : (unS s j).1 = wrU (decS s j).1 (s.extract j (j + (decS s j).2.1.toNat)) := by unfold unS; rw [if_pos hok]
    rw [hu]
    have hb := hs
    unfold scalarB at hb
    simp only [decide_eq_true_eq] at hb
    have hl := hexL_len 5 (decS s j).1.toNat (by omega)
    have hz : (s.extract j (j + (decS s j).2.1.toNat)).size ≤ 4 := by rw [ByteArray.size_extract]; omega
    generalize (decS s j).1 = r at *
    generalize s.extract j (j + (decS s j).2.1.toNat) = p at *
    unfold wrU
    by_cases h1 : r = 34 ∨ r = 92
    · rw [if_pos h1, ByteArray.size_append]; show 1 + _ ≤ _; omega
    rw [if_neg h1]
    by_cases h2 : r = 9
    · rw [if_pos h2]; decide
    rw [if_neg h2]
    by_cases h3 : r = 10
    · rw [if_pos h3]; decide
    rw [if_neg h3]
    by_cases h4 : r = 13
    · rw [if_pos h4]; decide
    rw [if_neg h4]
    by_cases h5 : kindS r ≠ 0
    · rw [if_pos h5, ByteArray.size_append, ByteArray.size_append, ← bl_length (hexB _), bl_hex]
      show 3 + _ + 1 ≤ _
      omega
    · rw [if_neg h5]; omega
  · have hu : (unS s j).1 = ⟨#[92, 120]⟩ ++ hexB (byN s j) := by unfold unS; rw [if_neg hok]
    have hl := hexL_len 1 (byN s j) (by have := byN_lt s j; omega)
    rw [hu, ByteArray.size_append, ← bl_length (hexB _), bl_hex]
    show 2 + _ ≤ _
    omega
theorem qu_size (s : ByteArray) : ∀ (k j : Nat), s.size - j ≤ k → (quF s j).size ≤ 10 * (s.size - j)
  | k, j, hk => by
    by_cases hj : j < s.size
    · cases k with
      | zero => omega
      | succ k =>
        have hb := un_bd hj
        have h1 := wr_size hj
        have h2 := qu_size s k (j + (unS s j).2) (by omega)
        rw [quF_step hj, ByteArray.size_append]
        omega
    · rw [quF_end (by omega)]; show 0 ≤ _; omega
theorem quote_size (s : ByteArray) : (quoteS s).size ≤ 10 * s.size + 2 := by
  have := qu_size s _ 0 (Nat.le_refl _)
  unfold quoteS
  rw [ByteArray.size_append, ByteArray.size_append]
  show 1 + _ + 1 ≤ _
  omega
end Go.Proofs.Ytikcblnemdbjnaa.Esc
