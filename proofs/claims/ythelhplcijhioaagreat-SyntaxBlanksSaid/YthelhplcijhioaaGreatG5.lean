import Derived.Test.YthelhplcijhioaaGreatG4
import Derived.Test.YthelhplcijhioaaGreatG22
import Derived.Test.YthelhplcijhioaaGreatG3
/- The plain mathematics of layer 5: how units are written and quoted, and what escapes denote. No Go here. -/
set_option maxRecDepth 100000
set_option linter.unusedVariables false
namespace Go.Proofs.YthelhplcijhioaaGreat.Esc
open Go.Lib Go.Proofs.YthelhplcijhioaaGreat.Utf Go.Proofs.YthelhplcijhioaaGreat.Ran

/-- A hexadecimal digit. -/
def dg (d : Nat) : Nat := if d < 10 then 48 + d else 87 + d
def hexB (n : Nat) : ByteArray := if n < 16 then strOfNums [(dg n : Int)] else hexB (n / 16) ++ strOfNums [(dg (n % 16) : Int)]
termination_by n
decreasing_by omega
def hexL (n : Nat) : List Int := if n < 16 then [(dg n : Int)] else hexL (n / 16) ++ [(dg (n % 16) : Int)]
termination_by n
decreasing_by omega
theorem dg_bd {d : Nat} (h : d < 16) : (48 ≤ dg d ∧ dg d ≤ 57) ∨ (97 ≤ dg d ∧ dg d ≤ 102) := by unfold dg; split <;> omega
theorem dg_range {d : Nat} (h : d < 16) : ∀ x ∈ [(dg d : Int)], 0 ≤ x ∧ x < 256 := by
  intro x hx
  simp only [List.mem_singleton] at hx
  have := dg_bd h
  omega
theorem hexB_lt {n : Nat} (h : n < 16) : hexB n = strOfNums [(dg n : Int)] := by rw [hexB, if_pos h]
theorem hexB_ge {n : Nat} (h : ¬ n < 16) : hexB n = hexB (n / 16) ++ strOfNums [(dg (n % 16) : Int)] := by rw [hexB, if_neg h]
theorem hexL_lt {n : Nat} (h : n < 16) : hexL n = [(dg n : Int)] := by rw [hexL, if_pos h]
theorem hexL_ge {n : Nat} (h : ¬ n < 16) : hexL n = hexL (n / 16) ++ [(dg (n % 16) : Int)] := by rw [hexL, if_neg h]
theorem bl_hexB : ∀ (k n : Nat), n ≤ k → bl (hexB n) = hexL n
  | k, n, hk => by
    by_cases h : n < 16
    · rw [hexB_lt h, hexL_lt h, bl_strOfNums _ (dg_range h)]
    · cases k with
      | zero => omega
      | succ k => rw [hexB_ge h, hexL_ge h, bl_append, bl_hexB k (n / 16) (by omega), bl_strOfNums _ (dg_range (by omega))]
theorem bl_hex (n : Nat) : bl (hexB n) = hexL n := bl_hexB n n (Nat.le_refl _)
theorem hexL_mem : ∀ (k n : Nat), n ≤ k → ∀ x ∈ hexL n, (48 ≤ x ∧ x ≤ 57) ∨ (97 ≤ x ∧ x ≤ 102)
  | k, n, hk, x, hx => by
    by_cases h : n < 16
    · rw [hexL_lt h, List.mem_singleton] at hx
      have := dg_bd h
      omega
    · cases k with
      | zero => omega
      | succ k =>
        rw [hexL_ge h, List.mem_append, List.mem_singleton] at hx
        rcases hx with hx | hx
        · exact hexL_mem k (n / 16) (by omega) x hx
        · have := dg_bd (d := n % 16) (by omega)
          omega
theorem hexL_len : ∀ (m n : Nat), n < 16 ^ (m + 1) → 1 ≤ (hexL n).length ∧ (hexL n).length ≤ m + 1
  | m, n, h => by
    by_cases h1 : n < 16
    · rw [hexL_lt h1]; simp
    · cases m with
      | zero => omega
      | succ m =>
        have := hexL_len m (n / 16) (by rw [Nat.div_lt_iff_lt_mul (by omega)]; rw [Nat.pow_succ] at h; exact h)
        rw [hexL_ge h1, List.length_append, List.length_singleton]
        omega
theorem hexL_len2 {n : Nat} (h : 16 ≤ n) (h2 : n < 256) : (hexL n).length = 2 := by
  rw [hexL_ge (by omega), hexL_lt (by omega)]; rfl

/-- The number of a digit, of digits; -1: none. -/
def valD (c : Int) : Int := if 48 ≤ c ∧ c < 58 then c - 48 else if 65 ≤ c ∧ c < 71 then c - 55 else if 97 ≤ c ∧ c < 103 then c - 87 else -1
def numF : Int → List Int → Int
  | n, [] => n
  | n, c :: l => if valD c < 0 then -1 else numF (16 * n + valD c) l
def hexV (l : List Int) : Int := if l.length < 1 ∨ 6 < l.length then -1 else numF 0 l
theorem valD_bd (c : Int) : -1 ≤ valD c ∧ valD c ≤ 15 := by unfold valD; (repeat' split) <;> omega
theorem valD_dg {d : Nat} (h : d < 16) : valD (dg d) = d := by
  unfold valD dg
  by_cases h1 : d < 10
  · rw [if_pos h1, if_pos (by omega)]; omega
  · rw [if_neg h1, if_neg (by omega), if_neg (by omega), if_pos (by omega)]; omega
theorem numF_hex : ∀ (k n : Nat), n ≤ k → ∀ m, numF 0 (hexL n ++ m) = numF n m
  | k, n, hk, m => by
    by_cases h : n < 16
    · rw [hexL_lt h, List.singleton_append, numF, valD_dg h, if_neg (by omega)]
      congr 1
      omega
    · cases k with
      | zero => omega
      | succ k =>
        rw [hexL_ge h, List.append_assoc, numF_hex k (n / 16) (by omega), List.singleton_append, numF, valD_dg (by omega), if_neg (by omega)]
        congr 1
        omega
theorem hexV_hex {n : Nat} (h : n < 16 ^ 6) : hexV (hexL n) = n := by
  have hl := hexL_len 5 n h
  have := numF_hex n n (Nat.le_refl _) []
  rw [List.append_nil] at this
  unfold hexV
  rw [if_neg (by omega), this]
  rfl
theorem numF_bd : ∀ (l : List Int) (n : Int) (m : Nat), 0 ≤ n → n < 16 ^ m → numF n l < 16 ^ (m + l.length) ∧ (numF n l < 0 → numF n l = -1)
  | [], n, m, h0, h => ⟨by simpa [numF] using h, fun h => by simp only [numF] at h; omega⟩
  | c :: l, n, m, h0, h => by
    rw [numF]
    have hb := valD_bd c
    by_cases hc : valD c < 0
    · rw [if_pos hc]
      have : (0 : Int) < 16 ^ (m + (c :: l).length) := Int.pow_pos (by decide)
      exact ⟨by omega, fun _ => rfl⟩
    · rw [if_neg hc]
      have := numF_bd l (16 * n + valD c) (m + 1) (by omega) (by rw [Int.pow_succ]; omega)
      rw [List.length_cons, show m + (l.length + 1) = m + 1 + l.length by omega]
      exact this
theorem hexV_bd (l : List Int) : -1 ≤ hexV l ∧ hexV l < 16777216 ∧ (hexV l < 0 → hexV l = -1) ∧ (l.length ≤ 2 → hexV l < 256) := by
  unfold hexV
  by_cases h : l.length < 1 ∨ 6 < l.length
  · rw [if_pos h]; omega
  · rw [if_neg h]
    have h1 := numF_bd l 0 0 (by omega) (by decide)
    rw [Nat.zero_add] at h1
    have h6 : (16 : Int) ^ l.length ≤ 16 ^ 6 := by exact_mod_cast Nat.pow_le_pow_right (by omega) (by omega : l.length ≤ 6)
    have e6 : (16 : Int) ^ 6 = 16777216 := by decide
    refine ⟨?_, by omega, h1.2, fun h2 => ?_⟩
    · by_cases h0 : numF 0 l < 0
      · rw [h1.2 h0]; omega
      · omega
    · have h3 : (16 : Int) ^ l.length ≤ 16 ^ 2 := by exact_mod_cast Nat.pow_le_pow_right (by omega) h2
      have e2 : (16 : Int) ^ 2 = 256 := by decide
      omega

/-- The first closing brace. -/
def fi (l : List Int) : Nat := l.findIdx (fun x => x == 125)
theorem fi_hit {l : List Int} {o : Nat} (h : l[o]? = some 125) (hn : ∀ j, j < o → l[j]? ≠ some 125) : fi l = o := by
  unfold fi
  have ho : o < l.length := (List.getElem?_eq_some_iff.1 h).1
  rw [List.findIdx_eq ho]
  refine ⟨by simpa using (List.getElem?_eq_some_iff.1 h).2, fun j hj => ?_⟩
  have := hn j hj
  rw [List.getElem?_eq_getElem (by omega)] at this
  simpa using this
theorem fi_none {l : List Int} (hn : ∀ j, j < l.length → l[j]? ≠ some 125) : fi l = l.length := by
  unfold fi
  refine List.findIdx_eq_length_of_false fun x hx => ?_
  obtain ⟨j, hj, rfl⟩ := List.mem_iff_getElem.1 hx
  have := hn j hj
  rw [List.getElem?_eq_getElem hj] at this
  simpa using this

/-- What stands behind a 'u': the rune and how many digits it has. -/
def uniS (l : List Int) : Option (Int × Nat) :=
  if l.head? = some 123 then
    (if fi ((l.drop 1).take 7) < ((l.drop 1).take 7).length ∧ 0 ≤ hexV (((l.drop 1).take 7).take (fi ((l.drop 1).take 7))) ∧ scalarB (hexV (((l.drop 1).take 7).take (fi ((l.drop 1).take 7)))) = true then
      some (hexV (((l.drop 1).take 7).take (fi ((l.drop 1).take 7))), fi ((l.drop 1).take 7)) else none)
  else none
/-- What an escape at the beginning of l denotes, and its length; 0: none. -/
def oneL : List Int → List Int × Nat
  | b :: c :: l =>
    if b ≠ 92 then ([], 0)
    else if c = 34 ∨ c = 92 then ([c], 2) else if c = 116 then ([9], 2) else if c = 110 then ([10], 2) else if c = 114 then ([13], 2)
    else if c = 120 then (if 2 ≤ l.length ∧ 0 ≤ hexV (l.take 2) then ([hexV (l.take 2)], 4) else ([], 0))
    else if c = 117 then (match uniS l with | some (r, k) => (encL r, k + 4) | none => ([], 0))
    else ([], 0)
  | _ => ([], 0)
theorem uni_len {l : List Int} {r : Int} {k : Nat} (h : uniS l = some (r, k)) : k + 2 ≤ l.length ∧ k ≤ 6 ∧ scalarB r = true := by
  unfold uniS at h
  by_cases h1 : l.head? = some 123
  · rw [if_pos h1] at h
    split at h
    next h2 =>
      simp only [Option.some.injEq, Prod.mk.injEq] at h
      obtain ⟨h3, h4⟩ := h
      have h5 := h2.1
      have h6 := h2.2.2
      rw [h3] at h6
      rw [h4, List.length_take, List.length_drop] at h5
      exact ⟨by omega, by omega, h6⟩
    next => cases h
  · rw [if_neg h1] at h; cases h
theorem one_len (l : List Int) : (oneL l).2 ≤ l.length ∧ (oneL l).2 ≤ 10 ∧ (oneL l).1.length ≤ 4 ∧ (∀ x ∈ (oneL l).1, 0 ≤ x → x < 256 → 0 ≤ x ∧ x < 256) := by
  refine ⟨?_, ?_, ?_, fun x _ h1 h2 => ⟨h1, h2⟩⟩ <;> (
    unfold oneL
    split
    · next b c l =>
      try simp only [List.length_cons]
      (repeat' split) <;> first
        | (simp; done)
        | (simp; omega)
        | (next r k h => have h9 := uni_len h; have h8 := encL_len r; simp only; omega)
    · simp)

/-- What stands at index i within quotes: a fault, or what it denotes and its length. -/
def denS (q : ByteArray) (i : Nat) : Int × ByteArray × Nat :=
  if byN q i = 92 then
    (if (oneL ((bl q).drop i)).2 = 0 then (16, ByteArray.empty, 0) else (0, strOfNums (oneL ((bl q).drop i)).1, (oneL ((bl q).drop i)).2))
  else if (decS q i).2.2 = false then (2, ByteArray.empty, 0)
  else if kindS (decS q i).1 ≠ 0 then (3, ByteArray.empty, 0)
  else (0, q.extract i (i + (decS q i).2.1.toNat), (decS q i).2.1.toNat)
theorem den_bd (q : ByteArray) (i : Nat) (hi : i < q.size) : 0 ≤ (denS q i).1 ∧ (denS q i).1 ≤ 16 ∧ i + (denS q i).2.2 ≤ q.size ∧ ((denS q i).1 = 0 → 1 ≤ (denS q i).2.2) ∧ (denS q i).2.2 ≤ 10 ∧ (denS q i).2.1.size ≤ 4 := by
  have hd := decS_spec q i hi
  have ho := one_len ((bl q).drop i)
  rw [List.length_drop, bl_length] at ho
  unfold denS
  split
  · split
    · simp; omega
    · simp only; rw [strOfNums_size]; omega
  · split
    · simp; omega
    · split
      · simp; omega
      · simp only; rw [ByteArray.size_extract]; omega
def unqGo (q : ByteArray) : Nat → Nat → ByteArray → ByteArray × Int × Int × Int
  | 0, _, _ => (ByteArray.empty, 0, 5, q.size)
  | k + 1, i, acc =>
    if i < q.size then
      (if byN q i = 34 then (acc, (i : Int) + 1, 0, 0)
       else if (denS q i).1 ≠ 0 then (ByteArray.empty, 0, (denS q i).1, i)
       else unqGo q k (i + (denS q i).2.2) (acc ++ (denS q i).2.1))
    else (ByteArray.empty, 0, 5, q.size)
def unqF (q : ByteArray) (i : Nat) (acc : ByteArray) : ByteArray × Int × Int × Int := unqGo q (q.size - i) i acc
theorem unqGo_fuel (q : ByteArray) : ∀ (k i : Nat) (acc : ByteArray), q.size - i ≤ k → unqGo q k i acc = unqF q i acc
  | 0, i, acc, h => by unfold unqF; rw [show q.size - i = 0 by omega]
  | k + 1, i, acc, h => by
    unfold unqF
    by_cases hi : i < q.size
    · obtain ⟨m, hm⟩ : ∃ m, q.size - i = m + 1 := ⟨q.size - i - 1, by omega⟩
      have hb := den_bd q i hi
      rw [hm, unqGo, unqGo, if_pos hi, if_pos hi]
      by_cases h3 : byN q i = 34
      · rw [if_pos h3, if_pos h3]
      rw [if_neg h3, if_neg h3]
      by_cases h4 : (denS q i).1 ≠ 0
      · rw [if_pos h4, if_pos h4]
      rw [if_neg h4, if_neg h4]
      have h5 : 1 ≤ (denS q i).2.2 := hb.2.2.2.1 (by omega)
      rw [unqGo_fuel q k _ _ (by omega), unqGo_fuel q m _ _ (by omega)]
    · rw [show q.size - i = 0 by omega, unqGo, unqGo, if_neg hi]
theorem unqF_end {q : ByteArray} {i : Nat} (acc : ByteArray) (h : q.size ≤ i) : unqF q i acc = (ByteArray.empty, 0, 5, (q.size : Int)) := by unfold unqF; rw [show q.size - i = 0 by omega, unqGo]
theorem unqF_step {q : ByteArray} {i : Nat} (acc : ByteArray) (h : i < q.size) :
    unqF q i acc = if byN q i = 34 then (acc, (i : Int) + 1, 0, 0) else if (denS q i).1 ≠ 0 then (ByteArray.empty, 0, (denS q i).1, (i : Int)) else unqF q (i + (denS q i).2.2) (acc ++ (denS q i).2.1) := by
  have hb := den_bd q i h
  rw [← unqGo_fuel q (q.size - i + 1) i acc (by omega), unqGo, if_pos h]
  by_cases h3 : byN q i = 34
  · rw [if_pos h3, if_pos h3]
  rw [if_neg h3, if_neg h3]
  by_cases h4 : (denS q i).1 ≠ 0
  · rw [if_pos h4, if_pos h4]
  rw [if_neg h4, if_neg h4, unqGo_fuel q _ _ _ (by have := hb.2.2.2.1 (by omega); omega)]
def unqS (q : ByteArray) (i : Int) : ByteArray × Int × Int × Int :=
  if i < 0 ∨ (q.size : Int) < i then (ByteArray.empty, 0, 1, 0)
  else if i = q.size then (ByteArray.empty, 0, 5, q.size)
  else if byN q i.toNat ≠ 34 then (ByteArray.empty, 0, 4, i)
  else unqF q (i.toNat + 1) ByteArray.empty

/-- A unit as it is written, and its length. -/
def wrU (r : Int) (p : ByteArray) : ByteArray :=
  if r = 34 ∨ r = 92 then ⟨#[92]⟩ ++ p else if r = 9 then ⟨#[92, 116]⟩ else if r = 10 then ⟨#[92, 110]⟩ else if r = 13 then ⟨#[92, 114]⟩
  else if kindS r ≠ 0 then ⟨#[92, 117, 123]⟩ ++ hexB r.toNat ++ ⟨#[125]⟩ else p
def unS (s : ByteArray) (i : Nat) : ByteArray × Nat :=
  if (decS s i).2.2 = true then (wrU (decS s i).1 (s.extract i (i + (decS s i).2.1.toNat)), (decS s i).2.1.toNat) else (⟨#[92, 120]⟩ ++ hexB (byN s i), 1)
theorem un_bd {s : ByteArray} {i : Nat} (hi : i < s.size) : 1 ≤ (unS s i).2 ∧ (unS s i).2 ≤ 4 ∧ i + (unS s i).2 ≤ s.size := by
  have hd := decS_spec s i hi
  unfold unS
  split
  · simp only; omega
  · simp only; omega
def quGo (s : ByteArray) : Nat → Nat → ByteArray
  | 0, _ => ByteArray.empty
  | k + 1, i => if i < s.size then (unS s i).1 ++ quGo s k (i + (unS s i).2) else ByteArray.empty
def quF (s : ByteArray) (i : Nat) : ByteArray := quGo s (s.size - i) i
theorem quGo_fuel (s : ByteArray) : ∀ (k i : Nat), s.size - i ≤ k → quGo s k i = quF s i
  | 0, i, h => by unfold quF; rw [show s.size - i = 0 by omega]
  | k + 1, i, h => by
    unfold quF
    by_cases hi : i < s.size
    · obtain ⟨m, hm⟩ : ∃ m, s.size - i = m + 1 := ⟨s.size - i - 1, by omega⟩
      have hb := un_bd hi
      rw [hm, quGo, quGo, if_pos hi, if_pos hi, quGo_fuel s k _ (by omega), quGo_fuel s m _ (by omega)]
    · rw [show s.size - i = 0 by omega, quGo, quGo, if_neg hi]
theorem quF_end {s : ByteArray} {i : Nat} (h : s.size ≤ i) : quF s i = ByteArray.empty := by unfold quF; rw [show s.size - i = 0 by omega, quGo]
theorem quF_step {s : ByteArray} {i : Nat} (h : i < s.size) : quF s i = (unS s i).1 ++ quF s (i + (unS s i).2) := by
  have hb := un_bd h
  rw [← quGo_fuel s (s.size - i + 1) i (by omega), quGo, if_pos h, quGo_fuel s _ _ (by omega)]
def quoteS (s : ByteArray) : ByteArray := ⟨#[34]⟩ ++ quF s 0 ++ ⟨#[34]⟩

/-! ### What is decoded is what is encoded -/
theorem find_some (t : ByteArray) : ∀ (k n : Nat) (r : Int) (m : Nat), refFind t k n = some (r, m) → CB t m = true ∧ r = reckS (t.extract 0 m) ∧ m ≤ t.size
  | 0, n, r, m, h => by rw [find_stop t 0 n (by simp [refFind] at h)] at h; cases h
  | k + 1, n, r, m, h => by
    by_cases h1 : n < 5 ∧ n ≤ t.size
    · rw [find_step t k n h1.1 h1.2] at h
      by_cases h2 : CB t n = true
      · rw [if_pos h2] at h
        simp only [Option.some.injEq, Prod.mk.injEq] at h
        obtain ⟨h3, rfl⟩ := h
        exact ⟨h2, h3.symm, h1.2⟩
      · rw [if_neg h2] at h
        exact find_some t k (n + 1) r m h
    · rw [find_stop t (k + 1) n h1] at h; cases h
theorem ext_in {s : ByteArray} {i n : Nat} (h : i + n ≤ s.size) : (s.extract i s.size).extract 0 n = s.extract i (i + n) := by
  rw [ByteArray.extract_extract]; congr 1 <;> omega
theorem dec_ok {s : ByteArray} {i : Nat} (hi : i < s.size) (h : (decS s i).2.2 = true) :
    scalarB (decS s i).1 = true ∧ bl (s.extract i (i + (decS s i).2.1.toNat)) = encL (decS s i).1 ∧ (decS s i).2.1.toNat = (encL (decS s i).1).length := by
  rw [← decR_eq] at h ⊢
  have hz : (s.extract i s.size).size = s.size - i := by rw [ByteArray.size_extract]; omega
  rw [decR_in hi] at h ⊢
  split at h
  next r n e =>
    obtain ⟨h1, h2, h3⟩ := find_some _ _ _ _ _ e
    simp only [Int.toNat_natCast]
    unfold CB at h1
    rw [← h2, Bool.and_eq_true, bl_inj, decide_eq_true_eq, bl_encS, ext_in (by omega)] at h1
    refine ⟨h1.1, h1.2.symm, ?_⟩
    rw [h1.2, bl_length, ByteArray.size_extract]
    omega
  next => simp at h

theorem encL_ascii {c : Int} (h : 0 ≤ c ∧ c < 128) : encL c = [c] ∧ scalarB c = true := by
  have hs : scalarB c = true := by unfold scalarB; simp; omega
  refine ⟨?_, hs⟩
  unfold encL
  rw [hs, if_pos rfl, if_pos h.2]
theorem encL_high {r : Int} (hs : scalarB r = true) (h : ¬ r < 128) : ∀ x ∈ encL r, 128 ≤ x ∧ x < 256 := by
  intro x hx
  have hb := hs
  unfold scalarB at hb
  simp only [decide_eq_true_eq] at hb
  unfold encL at hx
  rw [hs, if_pos rfl, if_neg h] at hx
  (repeat' split at hx) <;> simp only [List.mem_cons, List.not_mem_nil, or_false] at hx <;> omega
theorem one_byte {c : Nat} (h1 : 16 ≤ c) (h2 : c < 256) (rest : List Int) : oneL (92 :: 120 :: (hexL c ++ rest)) = ([(c : Int)], 4) := by
  have hl := hexL_len2 h1 h2
  have ht : (hexL c ++ rest).take 2 = hexL c := by rw [← hl, List.take_left]
  have hv : hexV (hexL c) = c := hexV_hex (by omega)
  rw [oneL, if_neg (by decide), if_neg (by decide), if_neg (by decide), if_neg (by decide), if_neg (by decide), if_pos rfl, ht, hv, if_pos ⟨by rw [List.length_append]; omega, by omega⟩]
theorem one_rune {r : Int} (hs : scalarB r = true) (rest : List Int) : oneL (92 :: 117 :: (123 :: (hexL r.toNat ++ 125 :: rest))) = (encL r, (hexL r.toNat).length + 4) := by
  have hb := hs
  unfold scalarB at hb
  simp only [decide_eq_true_eq] at hb
  have hl := hexL_len 5 r.toNat (by omega)
  have hv : hexV (hexL r.toNat) = r := by rw [hexV_hex (by omega)]; omega
  have ht : (hexL r.toNat ++ 125 :: rest).take 7 = hexL r.toNat ++ (125 :: rest).take (7 - (hexL r.toNat).length) := by
    rw [List.take_append, List.take_of_length_le (by omega)]
  obtain ⟨m, hm⟩ : ∃ m, 7 - (hexL r.toNat).length = m + 1 := ⟨6 - (hexL r.toNat).length, by omega⟩
  rw [hm, List.take_succ_cons] at ht
  have hf : fi (hexL r.toNat ++ 125 :: rest.take m) = (hexL r.toNat).length := by
    refine fi_hit (by simp) fun j hj => ?_
    rw [List.getElem?_append_left hj, List.getElem?_eq_getElem hj]
    have := hexL_mem _ r.toNat (Nat.le_refl _) _ (List.getElem_mem hj)
    intro e
    simp only [Option.some.injEq] at e
    omega
  have hu : uniS (123 :: (hexL r.toNat ++ 125 :: rest)) = some (r, (hexL r.toNat).length) := by
    unfold uniS
    rw [List.head?_cons, if_pos rfl, List.drop_one, List.tail_cons, ht, hf, List.take_left, hv, if_pos]
    exact ⟨by rw [List.length_append, List.length_cons]; omega, by omega, hs⟩
  rw [oneL, if_neg (by decide), if_neg (by decide), if_neg (by decide), if_neg (by decide), if_neg (by decide), if_neg (by decide), if_pos rfl, hu]

theorem den_of_one {q : ByteArray} {i : Nat} {l : List Int} {o : List Int} {n : Nat} (h : (bl q).drop i = 92 :: l) (ho : oneL (92 :: l) = (o, n)) (hn : n ≠ 0) : denS q i = (0, strOfNums o, n) ∧ byN q i ≠ 34 := by
  have h1 := byN_head h
  have h2 : byN q i = 92 := by omega
  unfold denS
  rw [if_pos h2, h, ho, if_neg hn]
  exact ⟨rfl, by omega⟩
theorem str_eq {l : List Int} {b : ByteArray} (hr : ∀ x ∈ l, 0 ≤ x ∧ x < 256) (h : bl b = l) : strOfNums l = b := bl_ext (by rw [bl_strOfNums _ hr, h])
theorem byte_range (s : ByteArray) (i : Nat) : ∀ x ∈ [(byN s i : Int)], 0 ≤ x ∧ x < 256 := by
  intro x hx
  have := byN_lt s i
  simp only [List.mem_singleton] at hx
  omega
/-- A unit of s as it is written denotes that unit, wherever it stands. -/
theorem den_write {s q : ByteArray} {j i : Nat} {rest : List Int} (hj : j < s.size) (h : (bl q).drop i = bl (unS s j).1 ++ rest) :
    denS q i = (0, s.extract j (j + (unS s j).2), (unS s j).1.size) ∧ byN q i ≠ 34 := by
  by_cases hok : (decS s j).2.2 = true
  · obtain ⟨hs, he, hn⟩ := dec_ok hj hok
    have hd := decS_spec s j hj
    have hu : unS s j = (wrU (decS s j).1 (s.extract j (j + (decS s j).2.1.toNat)), (decS s j).2.1.toNat) := by unfold unS; rw [if_pos hok]
    rw [hu] at h ⊢
    simp only at h ⊢
    have hn1 : 1 ≤ (decS s j).2.1.toNat := by omega
    generalize (decS s j).1 = r at *
    generalize (decS s j).2.1.toNat = n at *
    generalize hp : s.extract j (j + n) = p at *
    have hpz : p.size = n := by rw [← bl_length, he, hn]
    clear hu
    unfold wrU at h ⊢
    by_cases h1 : r = 34 ∨ r = 92
    · rw [if_pos h1] at h ⊢
      have ha := (encL_ascii (c := r) (by omega)).1
      rw [ha] at he hn
      rw [bl_append, he] at h
      have h' : (bl q).drop i = 92 :: r :: rest := h
      have := den_of_one h' (o := [r]) (n := 2) (by rw [oneL, if_neg (by decide), if_pos h1]) (by decide)
      refine ⟨?_, this.2⟩
      rw [this.1, str_eq (by intro x hx; simp only [List.mem_singleton] at hx; omega) he, ByteArray.size_append, hpz, hn]
      rfl
    rw [if_neg h1] at h ⊢
    by_cases h2 : r = 9
    · subst h2
      rw [if_pos rfl] at h ⊢
      have := den_of_one (l := 116 :: rest) h (o := [9]) (n := 2) (by rw [oneL, if_neg (by decide), if_neg (by decide), if_pos rfl]) (by decide)
      refine ⟨?_, this.2⟩
      rw [this.1, str_eq (by decide) (he.trans (by decide))]
      rfl
    rw [if_neg h2] at h ⊢
    by_cases h3 : r = 10
    · subst h3
      rw [if_pos rfl] at h ⊢
      have := den_of_one (l := 110 :: rest) h (o := [10]) (n := 2) (by rw [oneL, if_neg (by decide), if_neg (by decide), if_neg (by decide), if_pos rfl]) (by decide)
      refine ⟨?_, this.2⟩
      rw [this.1, str_eq (by decide) (he.trans (by decide))]
      rfl
    rw [if_neg h3] at h ⊢
    by_cases h4 : r = 13
    · subst h4
      rw [if_pos rfl] at h ⊢
      have := den_of_one (l := 114 :: rest) h (o := [13]) (n := 2) (by rw [oneL, if_neg (by decide), if_neg (by decide), if_neg (by decide), if_neg (by decide), if_pos rfl]) (by decide)
      refine ⟨?_, this.2⟩
      rw [this.1, str_eq (by decide) (he.trans (by decide))]
      rfl
    rw [if_neg h4] at h ⊢
    by_cases h5 : kindS r ≠ 0
    · rw [if_pos h5] at h ⊢
      rw [bl_append, bl_append, bl_hex] at h
      have h' : (bl q).drop i = 92 :: 117 :: (123 :: (hexL r.toNat ++ 125 :: rest)) := by rw [h]; simp [bl]
      have := den_of_one h' (one_rune hs rest) (by omega)
      refine ⟨?_, this.2⟩
      rw [this.1, str_eq (encL_range r) he, ByteArray.size_append, ByteArray.size_append, ← bl_length (hexB _), bl_hex]
      congr 2
      show _ = 3 + _ + 1
      omega
    · rw [if_neg h5] at h ⊢
      rw [he] at h
      have hde := (dec_enc hs h).1
      have hq : byN q i ≠ 92 ∧ byN q i ≠ 34 := by
        by_cases h6 : r < 128
        · have h0 : 0 ≤ r := by unfold scalarB at hs; simp at hs; omega
          rw [(encL_ascii ⟨h0, h6⟩).1] at h
          have := byN_head h
          omega
        · obtain ⟨x, l, hx⟩ : ∃ x l, encL r = x :: l := by
            cases hx : encL r with
            | nil => rw [hx] at hn; simp at hn; omega
            | cons x l => exact ⟨x, l, rfl⟩
          have h7 := encL_high hs h6 x (by rw [hx]; exact List.mem_cons_self)
          rw [hx] at h
          have := byN_head h
          omega
      refine ⟨?_, hq.2⟩
      unfold denS
      rw [if_neg hq.1, hde, if_neg (by simp), if_neg h5]
      simp only [Int.toNat_natCast, Prod.mk.injEq, true_and]
      rw [← hn, hpz]
      refine ⟨bl_ext ?_, rfl⟩
      rw [bl_extract, List.drop_take, h, show i + n - i = n by omega, hn, List.take_left, he]
  · have hu : unS s j = (⟨#[92, 120]⟩ ++ hexB (byN s j), 1) := by unfold unS; rw [if_neg hok]
    rw [hu] at h ⊢
    simp only at h ⊢
    have hb := byN_lt s j
    have h8 : 16 ≤ byN s j := by
      refine Nat.le_of_not_lt fun h9 => hok ?_
      have h10 : leadL (byN s j) = (((1 : Nat) : Int), 0, 0) := by unfold leadL; rw [if_pos (by omega)]; rfl
      rw [decS_in hj h10 (by omega)]
      rfl
    rw [bl_append, bl_hex] at h
    have := den_of_one (l := 120 :: (hexL (byN s j) ++ rest)) h (one_byte h8 hb rest) (by decide)
    refine ⟨?_, this.2⟩
    rw [this.1, str_eq (byte_range s j) (bl_one s j hj), ByteArray.size_append, ← bl_length (hexB _), bl_hex, hexL_len2 h8 hb]
    rfl
theorem unq_back (s q : ByteArray) (rest : List Int) : ∀ (k j i : Nat) (acc : ByteArray), s.size - j ≤ k → j ≤ s.size → (bl q).drop i = bl (quF s j) ++ 34 :: rest →
    unqF q i acc = (acc ++ s.extract j s.size, (i : Int) + (quF s j).size + 1, 0, 0)
  | k, j, i, acc, hk, hj, h => by
    have hiq : i < q.size := by
      have := congrArg List.length h
      rw [List.length_drop, bl_length, List.length_append, List.length_cons] at this
      omega
    by_cases hj' : j < s.size
    · cases k with
      | zero => omega
      | succ k =>
        rw [quF_step hj', bl_append, List.append_assoc] at h
        obtain ⟨hd, h34⟩ := den_write hj' h
        have hb := un_bd hj'
        have hnx := drop_next h
        rw [bl_length] at hnx
        rw [unqF_step acc hiq, if_neg h34, hd, if_neg (by simp)]
        simp only
        rw [unq_back s q rest k _ _ _ (by omega) (by omega) hnx, ByteArray.append_assoc, ext_join (by omega) (by omega) (Nat.le_refl _), quF_step hj', ByteArray.size_append]
        congr 2
        omega
    · rw [quF_end (by omega)] at h ⊢
      have h34 : byN q i = 34 := by have := byN_head (l := rest) (c := 34) h; omega
      rw [unqF_step acc hiq, if_pos h34]
      have : s.extract j s.size = ByteArray.empty := by
        apply bl_ext
        rw [bl_extract, List.drop_eq_nil_of_le (by rw [List.length_take, bl_length]; omega)]
        rfl
      rw [this, ByteArray.append_empty]
      simp
/-- A quoted string is read as what it denotes, wherever it stands and whatever follows. -/
theorem unq_quote (s a b : ByteArray) : unqS (a ++ quoteS s ++ b) (a.size : Nat) = (s, (a.size : Int) + (quoteS s).size, 0, 0) := by
  have hz : (quoteS s).size = (quF s 0).size + 2 := by unfold quoteS; rw [ByteArray.size_append, ByteArray.size_append]; show 1 + _ + 1 = _; omega
  have hq : bl (quoteS s) = 34 :: (bl (quF s 0) ++ [34]) := by unfold quoteS; rw [bl_append, bl_append]; rfl
  have h0 : (bl (a ++ quoteS s ++ b)).drop a.size = 34 :: (bl (quF s 0) ++ 34 :: bl b) := by
    rw [bl_append, bl_append, List.append_assoc, ← bl_length a, List.drop_left, hq]
    simp
  have h1 : (bl (a ++ quoteS s ++ b)).drop (a.size + 1) = bl (quF s 0) ++ 34 :: bl b := by
    have := drop_next (p := [34]) h0
    exact this
  have h34 : byN (a ++ quoteS s ++ b) a.size = 34 := by have := byN_head h0; omega
  unfold unqS
  have hz2 : (a ++ quoteS s ++ b).size = a.size + (quoteS s).size + b.size := by rw [ByteArray.size_append, ByteArray.size_append]
  rw [if_neg (by omega), if_neg (by omega), Int.toNat_natCast, if_neg (by omega), unq_back s _ _ s.size 0 _ _ (by omega) (by omega) h1, ByteArray.empty_append]
  rw [hz]
  exact Prod.ext (by simp) (Prod.ext (by simp only; omega) rfl)
theorem unq_quote0 (s : ByteArray) : unqS (quoteS s) 0 = (s, ((quoteS s).size : Int), 0, 0) := by
  have := unq_quote s ByteArray.empty ByteArray.empty
  rw [ByteArray.empty_append, ByteArray.append_empty] at this
  simpa using this

/-! ### A quoted string is safe -/
def Sf (l : List Int) : Prop := ∀ x ∈ l, scalarB x = true ∧ kindS x = 0
theorem kind_ascii {c : Int} (h0 : 32 ≤ c) (h1 : c ≤ 126) : kindS c = 0 := by
  have h : ∀ k : Fin 127, 32 ≤ k.val → kindS (k.val : Int) = 0 := by decide +kernel
  have := h ⟨c.toNat, by omega⟩ (by show 32 ≤ c.toNat; omega)
  simp only at this
  rwa [Int.toNat_of_nonneg (by omega)] at this
theorem encCat_ascii {p : List Int} (h : ∀ x ∈ p, 32 ≤ x ∧ x ≤ 126) : encCat p = p ∧ Sf p := by
  constructor
  · unfold encCat
    induction p with
    | nil => rfl
    | cons a p ih =>
      have := h a List.mem_cons_self
      rw [List.map_cons, List.flatten_cons, ih (fun x hx => h x (List.mem_cons_of_mem _ hx)), (encL_ascii (c := a) (by omega)).1]
      rfl
  · intro x hx
    have := h x hx
    exact ⟨(encL_ascii (c := x) (by omega)).2, kind_ascii this.1 this.2⟩
theorem encCat_append (a b : List Int) : encCat (a ++ b) = encCat a ++ encCat b := by unfold encCat; simp
theorem hexL_ascii (n : Nat) : ∀ x ∈ hexL n, 32 ≤ x ∧ x ≤ 126 := fun x hx => by have := hexL_mem n n (Nat.le_refl _) x hx; omega
theorem un_safe {s : ByteArray} {j : Nat} (hj : j < s.size) : ∃ l, bl (unS s j).1 = encCat l ∧ Sf l := by
  have asc : ∀ p : List Int, (∀ x ∈ p, 32 ≤ x ∧ x ≤ 126) → ∃ l, p = encCat l ∧ Sf l := fun p hp => ⟨p, (encCat_ascii hp).1.symm, (encCat_ascii hp).2⟩
  by_cases hok : (decS s j).2.2 = true
  · obtain ⟨hs, he, hn⟩ := dec_ok hj hok
    have hu : (unS s j).1 = wrU (decS s j).1 (s.extract j (j + (decS s j).2.1.toNat)) := by unfold unS; rw [if_pos hok]
    rw [hu]
    generalize (decS s j).1 = r at *
    generalize s.extract j (j + (decS s j).2.1.toNat) = p at *
    unfold wrU
    by_cases h1 : r = 34 ∨ r = 92
    · rw [if_pos h1, bl_append, he, (encL_ascii (c := r) (by omega)).1]
      refine asc _ ?_
      show ∀ x ∈ [92, r], _
      intro x hx
      simp only [List.mem_cons, List.not_mem_nil, or_false] at hx
      omega
    rw [if_neg h1]
    by_cases h2 : r = 9
    · rw [if_pos h2]; exact asc [92, 116] (by decide)
    rw [if_neg h2]
    by_cases h3 : r = 10
    · rw [if_pos h3]; exact asc [92, 110] (by decide)
    rw [if_neg h3]
    by_cases h4 : r = 13
    · rw [if_pos h4]; exact asc [92, 114] (by decide)
    rw [if_neg h4]
    by_cases h5 : kindS r ≠ 0
    · rw [if_pos h5, bl_append, bl_append, bl_hex]
      refine asc _ ?_
      intro x hx
      simp only [List.mem_append] at hx
      rcases hx with (hx | hx) | hx
      · exact (by decide : ∀ x ∈ bl ⟨#[92, 117, 123]⟩, 32 ≤ x ∧ x ≤ 126) x hx
      · exact hexL_ascii _ x hx
      · exact (by decide : ∀ x ∈ bl ⟨#[125]⟩, 32 ≤ x ∧ x ≤ 126) x hx
    · rw [if_neg h5]
      refine ⟨[r], by rw [he]; simp [encCat], fun x hx => ?_⟩
      simp only [List.mem_singleton] at hx
      subst hx
      exact ⟨hs, by omega⟩
  · have hu : (unS s j).1 = ⟨#[92, 120]⟩ ++ hexB (byN s j) := by unfold unS; rw [if_neg hok]
    rw [hu, bl_append, bl_hex]
    refine asc _ ?_
    intro x hx
    simp only [List.mem_append] at hx
    rcases hx with hx | hx
    · exact (by decide : ∀ x ∈ bl ⟨#[92, 120]⟩, 32 ≤ x ∧ x ≤ 126) x hx
    · exact hexL_ascii _ x hx
theorem qu_safe (s : ByteArray) : ∀ (k j : Nat), s.size - j ≤ k → ∃ l, bl (quF s j) = encCat l ∧ Sf l
  | k, j, hk => by
    by_cases hj : j < s.size
    · cases k with
      | zero => omega
      | succ k =>
        have hb := un_bd hj
        obtain ⟨l, hl, sl⟩ := un_safe hj
        obtain ⟨m, hm, sm⟩ := qu_safe s k (j + (unS s j).2) (by omega)
        refine ⟨l ++ m, by rw [quF_step hj, bl_append, hl, hm, encCat_append], fun x hx => ?_⟩
        rcases List.mem_append.1 hx with h | h
        · exact sl x h
        · exact sm x h
    · exact ⟨[], by rw [quF_end (by omega)]; rfl, fun x hx => by simp at hx⟩
theorem kept_all {l : List Int} (h : Sf l) : keptL l = l := by
  unfold keptL
  exact List.filter_eq_self.2 fun x hx => (h x hx).1
theorem quote_safe (s : ByteArray) : badS (quoteS s) = (quoteS s).size ∧ (∀ x ∈ runesS (quoteS s), kindS x = 0) ∧ 2 ≤ (runesS (quoteS s)).length := by
  obtain ⟨l, hl, sl⟩ := qu_safe s s.size 0 (by omega)
  have hq : bl (quoteS s) = encCat (34 :: (l ++ [34])) := by
    unfold quoteS
    rw [bl_append, bl_append, hl, show (34 :: (l ++ [34]) : List Int) = [34] ++ l ++ [34] by simp, encCat_append, encCat_append]
    rfl
  have sq : Sf (34 :: (l ++ [34])) := by
    intro x hx
    have h34 : scalarB 34 = true ∧ kindS 34 = 0 := ⟨by decide, kind_ascii (by decide) (by decide)⟩
    simp only [List.mem_cons, List.mem_append, List.not_mem_nil, or_false] at hx
    rcases hx with rfl | hx | rfl
    · exact h34
    · exact sl x hx
    · exact h34
  obtain ⟨h1, h2, -⟩ := back_all (quoteS s) (34 :: (l ++ [34])) 0 (quoteS s).size (by rw [List.drop_zero, hq]) (by omega) (by omega)
  have hr : runesS (quoteS s) = 34 :: (l ++ [34]) := by unfold runesS; rw [h2, kept_all sq]
  rw [hr]
  exact ⟨h1, fun x hx => (sq x hx).2, by simp⟩
theorem wr_size {s : ByteArray} {j : Nat} (hj : j < s.size) : (unS s j).1.size ≤ 10 := by
  by_cases hok : (decS s j).2.2 = true
  · obtain ⟨hs, he, hn⟩ := dec_ok hj hok
    have hd := decS_spec s j hj
    have hu : (unS s j).1 = wrU (decS s j).1 (s.extract j (j + (decS s j).2.1.toNat)) := by unfold unS; rw [if_pos hok]
    rw [hu]
    have hb := hs
    unfold scalarB at hb
    simp only [decide_eq_true_eq] at hb
    have hl := hexL_len 5 (decS s j).1.toNat (by omega)
    have hz : (s.extract j (j + (decS s j).2.1.toNat)).size ≤ 4 := by rw [ByteArray.size_extract]; omega
    generalize (decS s j).1 = r at *
    generalize s.extract j (j + (decS s j).2.1.toNat) = p at *
    unfold wrU
    by_cases h1 : r = 34 ∨ r = 92
    · rw [if_pos h1, ByteArray.size_append]; show 1 + _ ≤ _; omega
    rw [if_neg h1]
    by_cases h2 : r = 9
    · rw [if_pos h2]; decide
    rw [if_neg h2]
    by_cases h3 : r = 10
    · rw [if_pos h3]; decide
    rw [if_neg h3]
    by_cases h4 : r = 13
    · rw [if_pos h4]; decide
    rw [if_neg h4]
    by_cases h5 : kindS r ≠ 0
    · rw [if_pos h5, ByteArray.size_append, ByteArray.size_append, ← bl_length (hexB _), bl_hex]
      show 3 + _ + 1 ≤ _
      omega
    · rw [if_neg h5]; omega
  · have hu : (unS s j).1 = ⟨#[92, 120]⟩ ++ hexB (byN s j) := by unfold unS; rw [if_neg hok]
    have hl := hexL_len 1 (byN s j) (by have := byN_lt s j; omega)
    rw [hu, ByteArray.size_append, ← bl_length (hexB _), bl_hex]
    show 2 + _ ≤ _
    omega
theorem qu_size (s : ByteArray) : ∀ (k j : Nat), s.size - j ≤ k → (quF s j).size ≤ 10 * (s.size - j)
  | k, j, hk => by
    by_cases hj : j < s.size
    · cases k with
      | zero => omega
      | succ k =>
        have hb := un_bd hj
        have h1 := wr_size hj
        have h2 := qu_size s k (j + (unS s j).2) (by omega)
        rw [quF_step hj, ByteArray.size_append]
        omega
    · rw [quF_end (by omega)]; show 0 ≤ _; omega
theorem quote_size (s : ByteArray) : (quoteS s).size ≤ 10 * s.size + 2 := by
  have := qu_size s _ 0 (Nat.le_refl _)
  unfold quoteS
  rw [ByteArray.size_append, ByteArray.size_append]
  show 1 + _ + 1 ≤ _
  omega
end Go.Proofs.YthelhplcijhioaaGreat.Esc

/- Columns of strings, plainly: units, width, cut, lines. No Go here. -/
set_option maxRecDepth 100000
set_option linter.unusedVariables false
namespace Go.Proofs.YthelhplcijhioaaGreat.Cel
open Go.Lib Go.Proofs.YthelhplcijhioaaGreat.Utf Go.Proofs.YthelhplcijhioaaGreat.Ran

/-- A part of a string that decodes a scalar at i: so does the whole. -/
theorem decGo_part {s : ByteArray} {a b i L : Nat} (hb : b ≤ s.size) (ha : a ≤ b) : ∀ (k n : Nat) (lo hi r : Int), n ≤ b - a - i → i ≤ b - a → n + k = L →
    ((decGo (s.extract a b) i L k n lo hi r).2.2 = true → decGo s (a + i) L k n lo hi r = decGo (s.extract a b) i L k n lo hi r) ∧
    (a + i + L ≤ b → decGo (s.extract a b) i L k n lo hi r = decGo s (a + i) L k n lo hi r) ∧
    (b = s.size → decGo (s.extract a b) i L k n lo hi r = decGo s (a + i) L k n lo hi r)
  | 0, n, lo, hi, r, h1, h2, h3 => ⟨fun _ => rfl, fun _ => rfl, fun _ => rfl⟩
  | k + 1, n, lo, hi, r, h1, h2, h3 => by
    have hz : (s.extract a b).size = b - a := by rw [ByteArray.size_extract]; omega
    by_cases hn : n < b - a - i
    · have hby : byN (s.extract a b) (i + n) = byN s (a + i + n) := by rw [byN_ext s a b (i + n) (by omega) hb, Nat.add_assoc]
      have e1 : ¬ n = (s.extract a b).size - i := by omega
      have e2 : ¬ n = s.size - (a + i) := by omega
      by_cases hc : (byN s (a + i + n) : Int) < lo ∨ hi < (byN s (a + i + n) : Int)
      · have x1 : decGo (s.extract a b) i L (k + 1) n lo hi r = (0, (n : Int), false) := go_bad (.inr (by rw [hby]; exact hc))
        have x2 : decGo s (a + i) L (k + 1) n lo hi r = (0, (n : Int), false) := go_bad (.inr hc)
        rw [x1, x2]; exact ⟨fun _ => rfl, fun _ => rfl, fun _ => rfl⟩
      · have x1 : decGo (s.extract a b) i L (k + 1) n lo hi r = decGo (s.extract a b) i L k (n + 1) 128 191 (r * 64 + ((byN s (a + i + n) : Int) - 128)) := by
          rw [go_ok (by rw [hby]; rintro (h | h); exact e1 h; exact hc h), hby]
        have x2 : decGo s (a + i) L (k + 1) n lo hi r = decGo s (a + i) L k (n + 1) 128 191 (r * 64 + ((byN s (a + i + n) : Int) - 128)) := go_ok (by rintro (h | h); exact e2 h; exact hc h)
        rw [x1, x2]
        exact decGo_part hb ha k (n + 1) _ _ _ (by omega) h2 (by omega)
    · have e1 : n = (s.extract a b).size - i := by omega
      have x1 : decGo (s.extract a b) i L (k + 1) n lo hi r = (0, (n : Int), false) := go_bad (.inl e1)
      rw [x1]
      refine ⟨fun h => by simp at h, fun h => by omega, fun h => ?_⟩
      exact (go_bad (.inl (by omega))).symm
theorem decGo_len {s : ByteArray} {i L : Nat} : ∀ (k n : Nat) (lo hi r : Int), (decGo s i L k n lo hi r).2.2 = true → (decGo s i L k n lo hi r).2.1 = L
  | 0, n, lo, hi, r, h => rfl
  | k + 1, n, lo, hi, r, h => by
    by_cases hc : n = s.size - i ∨ (byN s (i + n) : Int) < lo ∨ hi < (byN s (i + n) : Int)
    · rw [go_bad hc] at h; simp at h
    · rw [go_ok hc] at h ⊢; exact decGo_len k (n + 1) _ _ _ h
theorem dec_part {s : ByteArray} {a b i : Nat} (hb : b ≤ s.size) (ha : a ≤ b) (hi : i < b - a) :
    ((decS (s.extract a b) i).2.2 = true → decS s (a + i : Nat) = decS (s.extract a b) i) ∧
    ((decS s (a + i : Nat)).2.2 = true → (a + i : Int) + (decS s (a + i : Nat)).2.1 ≤ b → decS (s.extract a b) i = decS s (a + i : Nat)) ∧
    (b = s.size → decS (s.extract a b) i = decS s (a + i : Nat)) := by
  have hz : (s.extract a b).size = b - a := by rw [ByteArray.size_extract]; omega
  have hby : byN (s.extract a b) i = byN s (a + i) := byN_ext s a b i (by omega) hb
  rcases leadL_cases (byN s (a + i)) (by omega) (by have := byN_lt s (a + i); omega) with h0 | ⟨L, lo, hi', hl, b1, b2, -⟩
  · have x1 : decS (s.extract a b) i = (0, 1, false) := by
      unfold decS; rw [if_neg (by omega)]; simp only [Int.toNat_natCast, hby]; rw [if_pos h0]
    have x2 : decS s (a + i : Nat) = (0, 1, false) := by
      unfold decS; rw [if_neg (by omega)]; simp only [Int.toNat_natCast]; rw [if_pos h0]
    rw [x1, x2]; exact ⟨fun _ => rfl, fun _ _ => rfl, fun _ => rfl⟩
  · have x1 := decS_in (s := s.extract a b) (i := i) (L := L) (lo := lo) (hi' := hi') (by omega) (by rw [hby]; exact hl) b1
    have x2 := decS_in (s := s) (i := a + i) (L := L) (lo := lo) (hi' := hi') (by omega) hl b1
    rw [x1, x2, hby]
    obtain ⟨p1, p2, p3⟩ := decGo_part (s := s) (a := a) (b := b) (i := i) (L := L) hb ha (L - 1) 1 lo hi' ((byN s (a + i) : Int) - markL L) (by omega) (by omega) (by omega)
    refine ⟨p1, fun h1 h2 => ?_, p3⟩
    rw [decGo_len _ _ _ _ _ h1] at h2
    exact p2 (by omega)

/-- The columns and the bytes of the unit at i. -/
def unitS (s : ByteArray) (i : Nat) : Int × Nat := if (decS s i).2.2 then (sizeS (decS s i).1, (decS s i).2.1.toNat) else (1, 1)
theorem unit_bd (s : ByteArray) (i : Nat) (hi : i < s.size) : 0 ≤ (unitS s i).1 ∧ (unitS s i).1 ≤ 2 ∧ 1 ≤ (unitS s i).2 ∧ (unitS s i).2 ≤ 4 ∧ i + (unitS s i).2 ≤ s.size := by
  have h := decS_spec s i hi
  have h2 := size_bd (decS s i).1
  unfold unitS
  split
  · refine ⟨h2.1, h2.2, ?_, ?_, ?_⟩ <;> simp only <;> omega
  · exact ⟨by decide, by decide, by decide, by decide, by simp only; omega⟩
theorem unit_suffix {s : ByteArray} {a i : Nat} (ha : a ≤ s.size) (hi : i < s.size - a) : unitS (s.extract a s.size) i = unitS s (a + i) := by
  unfold unitS; rw [(dec_part (Nat.le_refl _) ha hi).2.2 rfl]
/-- In a part that ends behind the unit, the unit is the same. -/
theorem unit_part {s : ByteArray} {a b i : Nat} (hb : b ≤ s.size) (ha : a ≤ b) (hi : i < b - a) (h : a + i + (unitS s (a + i)).2 ≤ b) : unitS (s.extract a b) i = unitS s (a + i) := by
  obtain ⟨p1, p2, -⟩ := dec_part (s := s) hb ha hi
  by_cases h1 : (decS s (a + i : Nat)).2.2 = true
  · have hd := decS_spec s (a + i) (by omega)
    have e : unitS s (a + i) = (sizeS (decS s (a + i : Nat)).1, (decS s (a + i : Nat)).2.1.toNat) := by unfold unitS; rw [if_pos h1]
    rw [e] at h
    have := p2 h1 (by simp only at h; omega)
    unfold unitS; rw [this]
  · have h2 : ¬ (decS (s.extract a b) i).2.2 = true := fun h => h1 (by rw [p1 h]; exact h)
    unfold unitS; rw [if_neg h1, if_neg h2]

def widGo (s : ByteArray) : Nat → Nat → Int
  | 0, _ => 0
  | k + 1, i => if i < s.size then (unitS s i).1 + widGo s k (i + (unitS s i).2) else 0
/-- The columns from i on. -/
def widF (s : ByteArray) (i : Nat) : Int := widGo s (s.size - i) i
theorem widGo_fuel (s : ByteArray) : ∀ (k i : Nat), s.size - i ≤ k → widGo s k i = widF s i
  | 0, i, h => by unfold widF; rw [show s.size - i = 0 by omega]
  | k + 1, i, h => by
    unfold widF
    by_cases hi : i < s.size
    · have hb := unit_bd s i hi
      obtain ⟨m, hm⟩ : ∃ m, s.size - i = m + 1 := ⟨s.size - i - 1, by omega⟩
      rw [hm, widGo, widGo, if_pos hi, if_pos hi, widGo_fuel s k _ (by omega), widGo_fuel s m _ (by omega)]
    · rw [show s.size - i = 0 by omega, widGo, widGo, if_neg hi]
theorem widF_end (s : ByteArray) (i : Nat) (h : s.size ≤ i) : widF s i = 0 := by unfold widF; rw [show s.size - i = 0 by omega, widGo]
theorem widF_step (s : ByteArray) (i : Nat) (h : i < s.size) : widF s i = (unitS s i).1 + widF s (i + (unitS s i).2) := by
  have hb := unit_bd s i h
  have := widGo_fuel s (s.size - i + 1) i (by omega)
  rw [← this, widGo, if_pos h, widGo_fuel s _ _ (by omega)]
theorem widF_bd (s : ByteArray) : ∀ (k i : Nat), s.size - i ≤ k → 0 ≤ widF s i ∧ widF s i ≤ 2 * ((s.size - i : Nat) : Int)
  | 0, i, h => by rw [widF_end s i (by omega)]; omega
  | k + 1, i, h => by
    by_cases hi : i < s.size
    · have hb := unit_bd s i hi
      have := widF_bd s k (i + (unitS s i).2) (by omega)
      rw [widF_step s i hi]; omega
    · rw [widF_end s i (by omega)]; omega
theorem widF_suffix {s : ByteArray} {a : Nat} (ha : a ≤ s.size) : ∀ (k i : Nat), s.size - a - i ≤ k → widF (s.extract a s.size) i = widF s (a + i)
  | k, i, h => by
    have hz : (s.extract a s.size).size = s.size - a := by rw [ByteArray.size_extract]; omega
    by_cases hi : i < s.size - a
    · cases k with
      | zero => omega
      | succ k =>
        have hb := unit_bd s (a + i) (by omega)
        rw [widF_step _ i (by omega), widF_step s (a + i) (by omega), unit_suffix ha hi, widF_suffix ha k _ (by omega), Nat.add_assoc]
    · rw [widF_end _ i (by omega), widF_end s _ (by omega)]
def widS (s : ByteArray) : Int := widF s 0
theorem widS_suffix {s : ByteArray} {a : Nat} (ha : a ≤ s.size) : widS (s.extract a s.size) = widF s a := widF_suffix ha _ 0 (Nat.le_refl _)

def cutGo (s : ByteArray) : Nat → Nat → Int → Nat
  | 0, _, _ => 0
  | k + 1, i, most => if i < s.size ∧ 0 ≤ most then (if most < (unitS s i).1 then 0 else (unitS s i).2 + cutGo s k (i + (unitS s i).2) (most - (unitS s i).1)) else 0
/-- How many bytes have the first units, from i on, that take at most so many columns. -/
def cutF (s : ByteArray) (i : Nat) (most : Int) : Nat := cutGo s (s.size - i) i most
theorem cutGo_fuel (s : ByteArray) : ∀ (k i : Nat) (most : Int), s.size - i ≤ k → cutGo s k i most = cutF s i most
  | 0, i, most, h => by unfold cutF; rw [show s.size - i = 0 by omega]
  | k + 1, i, most, h => by
    unfold cutF
    by_cases hi : i < s.size
    · have hb := unit_bd s i hi
      obtain ⟨m, hm⟩ : ∃ m, s.size - i = m + 1 := ⟨s.size - i - 1, by omega⟩
      rw [hm, cutGo, cutGo, cutGo_fuel s k _ _ (by omega), cutGo_fuel s m _ _ (by omega)]
    · rw [show s.size - i = 0 by omega, cutGo, cutGo, if_neg (fun h => hi h.1)]
theorem cutF_none (s : ByteArray) (i : Nat) (most : Int) (h : s.size ≤ i ∨ most < 0) : cutF s i most = 0 := by
  rw [← cutGo_fuel s (s.size - i + 1) i most (by omega), cutGo, if_neg (by omega)]
theorem cutF_step (s : ByteArray) (i : Nat) (most : Int) (h : i < s.size) (h0 : 0 ≤ most) :
    cutF s i most = if most < (unitS s i).1 then 0 else (unitS s i).2 + cutF s (i + (unitS s i).2) (most - (unitS s i).1) := by
  have hb := unit_bd s i h
  rw [← cutGo_fuel s (s.size - i + 1) i most (by omega), cutGo, if_pos ⟨h, h0⟩, cutGo_fuel s _ _ _ (by omega)]
theorem cutF_suffix {s : ByteArray} {a : Nat} (ha : a ≤ s.size) : ∀ (k i : Nat) (most : Int), s.size - a - i ≤ k → cutF (s.extract a s.size) i most = cutF s (a + i) most
  | k, i, most, h => by
    have hz : (s.extract a s.size).size = s.size - a := by rw [ByteArray.size_extract]; omega
    by_cases hi : i < s.size - a ∧ 0 ≤ most
    · cases k with
      | zero => omega
      | succ k =>
        have hb := unit_bd s (a + i) (by omega)
        rw [cutF_step _ i most (by omega) hi.2, cutF_step s (a + i) most (by omega) hi.2, unit_suffix ha hi.1, cutF_suffix ha k _ _ (by omega), Nat.add_assoc]
    · rw [cutF_none _ i most (by omega), cutF_none s _ most (by omega)]
theorem cutF_bd (s : ByteArray) : ∀ (k i : Nat) (most : Int), s.size - i ≤ k → i ≤ s.size → i + cutF s i most ≤ s.size
  | k, i, most, h, hi0 => by
    by_cases hi : i < s.size ∧ 0 ≤ most
    · cases k with
      | zero => omega
      | succ k =>
        have hb := unit_bd s i hi.1
        rw [cutF_step s i most hi.1 hi.2]
        split
        · omega
        · have := cutF_bd s k (i + (unitS s i).2) (most - (unitS s i).1) (by omega) (by omega)
          omega
    · rw [cutF_none s i most (by omega)]; omega
/-- What a cut is: the columns before it and after it; the unit behind it is too wide. -/
theorem cut_whole (s : ByteArray) : ∀ (k i : Nat) (most : Int), s.size - i ≤ k → i ≤ s.size → 0 ≤ most →
    widF s i - widF s (i + cutF s i most) ≤ most ∧ (i + cutF s i most < s.size → most - (widF s i - widF s (i + cutF s i most)) < (unitS s (i + cutF s i most)).1)
  | k, i, most, h, hi0, h0 => by
    by_cases hi : i < s.size
    · cases k with
      | zero => omega
      | succ k =>
        have hb := unit_bd s i hi
        rw [cutF_step s i most hi h0]
        by_cases hw : most < (unitS s i).1
        · rw [if_pos hw, Nat.add_zero]
          refine ⟨by omega, fun _ => by omega⟩
        · rw [if_neg hw, ← Nat.add_assoc]
          have := cut_whole s k (i + (unitS s i).2) (most - (unitS s i).1) (by omega) (by omega) (by omega)
          rw [widF_step s i hi]
          refine ⟨by omega, fun hlt => ?_⟩
          have := this.2 hlt
          omega
    · rw [cutF_none s i most (by omega), Nat.add_zero]
      exact ⟨by omega, fun hlt => absurd hlt (by omega)⟩
/-- The columns of the part before a cut. -/
theorem wid_head (s : ByteArray) (b : Nat) (hb : b ≤ s.size) : ∀ (k i : Nat) (most : Int), s.size - i ≤ k → i + cutF s i most = b → i ≤ b → widF (s.extract 0 b) i = widF s i - widF s b
  | k, i, most, h, hc, hib => by
    have hz : (s.extract 0 b).size = b := by rw [ByteArray.size_extract]; omega
    by_cases hi : i < b
    · cases k with
      | zero => omega
      | succ k =>
        by_cases h0 : 0 ≤ most
        · have hs : i < s.size := by omega
          have hbd := unit_bd s i hs
          rw [cutF_step s i most hs h0] at hc
          by_cases hw : most < (unitS s i).1
          · rw [if_pos hw] at hc; omega
          · rw [if_neg hw, ← Nat.add_assoc] at hc
            have hu : unitS (s.extract 0 b) i = unitS s i := by
              have := unit_part (s := s) (a := 0) (b := b) (i := i) hb (by omega) (by omega) (by rw [Nat.zero_add]; omega)
              rwa [Nat.zero_add] at this
            rw [widF_step _ i (by omega), widF_step s i hs, hu, wid_head s b hb k _ _ (by omega) hc (by omega)]
            omega
        · rw [cutF_none s i most (by omega)] at hc; omega
    · obtain rfl : i = b := by omega
      rw [widF_end _ i (by omega)]; omega

/-- The lines from index 'from' on, looked for from i on. -/
def linGo (s : ByteArray) : Nat → Nat → Nat → List ByteArray
  | 0, _, a => [s.extract a s.size]
  | k + 1, i, a => if i < s.size then (if byN s i = 10 then s.extract a i :: linGo s k (i + 1) (i + 1) else linGo s k (i + 1) a) else [s.extract a s.size]
def linS (s : ByteArray) : List ByteArray := linGo s s.size 0 0
def maxW (l : List ByteArray) : Int := l.foldl (fun m x => if widS x > m then widS x else m) 0
def widestS (s : ByteArray) : Int := maxW (linS s)
theorem maxW_snoc (l : List ByteArray) (x : ByteArray) : maxW (l ++ [x]) = if widS x > maxW l then widS x else maxW l := by unfold maxW; rw [List.foldl_append]; rfl
theorem linGo_len (s : ByteArray) : ∀ k i a, (linGo s k i a).length ≤ k + 1
  | 0, i, a => by simp [linGo]
  | k + 1, i, a => by
    rw [linGo]
    split
    · split
      · have := linGo_len s k (i + 1) (i + 1); simp; omega
      · have := linGo_len s k (i + 1) a; omega
    · simp
theorem linGo_size (s : ByteArray) : ∀ k i a, ∀ x ∈ linGo s k i a, x.size ≤ s.size
  | 0, i, a, x, h => by simp [linGo] at h; subst h; rw [ByteArray.size_extract]; omega
  | k + 1, i, a, x, h => by
    rw [linGo] at h
    split at h
    · split at h
      · rcases List.mem_cons.1 h with rfl | h
        · rw [ByteArray.size_extract]; omega
        · exact linGo_size s k _ _ x h
      · exact linGo_size s k _ _ x h
    · simp at h; subst h; rw [ByteArray.size_extract]; omega
end Go.Proofs.YthelhplcijhioaaGreat.Cel

/- The plain mathematics of layer 6: what is safe for a terminal, scrubbing and its reverse. No Go here. -/
set_option maxRecDepth 100000
set_option linter.unusedVariables false
namespace Go.Proofs.YthelhplcijhioaaGreat.Saf
open Go.Lib Go.Proofs.YthelhplcijhioaaGreat.Utf Go.Proofs.YthelhplcijhioaaGreat.Ran Go.Proofs.YthelhplcijhioaaGreat.Cel Go.Proofs.YthelhplcijhioaaGreat.Esc

/-- What keeps the unit at index i from a terminal; 0: nothing. -/
def badU (s : ByteArray) (i : Nat) : Int := if (decS s i).2.2 = false then 2 else if (decS s i).1 ≠ 10 ∧ kindS (decS s i).1 ≠ 0 then 3 else 0
def firGo (s : ByteArray) : Nat → Nat → Nat
  | 0, i => i
  | k + 1, i => if i < s.size ∧ badU s i = 0 then firGo s k (i + (decS s i).2.1.toNat) else i
def firF (s : ByteArray) (i : Nat) : Nat := firGo s (s.size - i) i
def firS (s : ByteArray) : Nat := firF s 0
theorem step_bd {s : ByteArray} {i : Nat} (hi : i < s.size) : 1 ≤ (decS s i).2.1.toNat ∧ (decS s i).2.1.toNat ≤ 4 ∧ i + (decS s i).2.1.toNat ≤ s.size := by
  have := decS_spec s i hi
  omega
theorem firGo_fuel (s : ByteArray) : ∀ (k i : Nat), s.size - i ≤ k → firGo s k i = firF s i
  | 0, i, h => by unfold firF; rw [show s.size - i = 0 by omega]
  | k + 1, i, h => by
    unfold firF
    by_cases hi : i < s.size
    · obtain ⟨m, hm⟩ : ∃ m, s.size - i = m + 1 := ⟨s.size - i - 1, by omega⟩
      have hb := step_bd hi
      rw [hm, firGo, firGo]
      by_cases h0 : badU s i = 0
      · rw [if_pos ⟨hi, h0⟩, if_pos ⟨hi, h0⟩, firGo_fuel s k _ (by omega), firGo_fuel s m _ (by omega)]
      · rw [if_neg (fun e => h0 e.2), if_neg (fun e => h0 e.2)]
    · rw [show s.size - i = 0 by omega, firGo, firGo, if_neg (fun e => hi e.1)]
theorem firF_end {s : ByteArray} {i : Nat} (h : s.size ≤ i) : firF s i = i := by unfold firF; rw [show s.size - i = 0 by omega, firGo]
theorem firF_step {s : ByteArray} {i : Nat} (h : i < s.size) : firF s i = if badU s i = 0 then firF s (i + (decS s i).2.1.toNat) else i := by
  have hb := step_bd h
  rw [← firGo_fuel s (s.size - i + 1) i (by omega), firGo]
  by_cases h0 : badU s i = 0
  · rw [if_pos ⟨h, h0⟩, if_pos h0, firGo_fuel s _ _ (by omega)]
  · rw [if_neg (fun e => h0 e.2), if_neg h0]
theorem firF_bd (s : ByteArray) : ∀ (k i : Nat), s.size - i ≤ k → i ≤ s.size → i ≤ firF s i ∧ firF s i ≤ s.size
  | k, i, h, hi => by
    by_cases h1 : i < s.size
    · have hb := step_bd h1
      rw [firF_step h1]
      split
      · cases k with
        | zero => omega
        | succ k => have := firF_bd s k (i + (decS s i).2.1.toNat) (by omega) (by omega); omega
      · omega
    · rw [firF_end (by omega)]; omega
theorem unit_step {s : ByteArray} {i : Nat} (h : badU s i = 0) : (unitS s i).2 = (decS s i).2.1.toNat := by
  unfold badU at h
  unfold unitS
  split
  · rfl
  · next hk => rw [if_pos (by simpa using hk)] at h; omega

/-- A unit as it is scrubbed, and its length. -/
def scU (s : ByteArray) (i : Nat) : ByteArray × Nat := if byN s i = 10 ∨ byN s i = 34 then (s.extract i (i + 1), 1) else unS s i
theorem ascii_dec {s : ByteArray} {i : Nat} (hi : i < s.size) (h : byN s i < 128) : decS s i = ((byN s i : Int), 1, true) := by
  have h10 : leadL (byN s i) = (((1 : Nat) : Int), 0, 0) := by unfold leadL; rw [if_pos (by omega)]; rfl
  rw [decS_in hi h10 (by omega)]
  simp [decGo, markL]
theorem sc_bd {s : ByteArray} {i : Nat} (hi : i < s.size) : 1 ≤ (scU s i).2 ∧ (scU s i).2 ≤ 4 ∧ i + (scU s i).2 ≤ s.size := by
  have := un_bd hi
  unfold scU
  split
  · simp only; omega
  · exact this
theorem sc_len {s : ByteArray} {i : Nat} (hi : i < s.size) : (scU s i).2 = (unS s i).2 := by
  unfold scU
  split
  · next h =>
    unfold unS
    rw [ascii_dec hi (by omega), if_pos rfl]
    rfl
  · rfl
def scGo (s : ByteArray) : Nat → Nat → ByteArray
  | 0, _ => ByteArray.empty
  | k + 1, i => if i < s.size then (scU s i).1 ++ scGo s k (i + (scU s i).2) else ByteArray.empty
def scF (s : ByteArray) (i : Nat) : ByteArray := scGo s (s.size - i) i
def scrubS (s : ByteArray) : ByteArray := scF s 0
theorem scGo_fuel (s : ByteArray) : ∀ (k i : Nat), s.size - i ≤ k → scGo s k i = scF s i
  | 0, i, h => by unfold scF; rw [show s.size - i = 0 by omega]
  | k + 1, i, h => by
    unfold scF
    by_cases hi : i < s.size
    · obtain ⟨m, hm⟩ : ∃ m, s.size - i = m + 1 := ⟨s.size - i - 1, by omega⟩
      have hb := sc_bd hi
      rw [hm, scGo, scGo, if_pos hi, if_pos hi, scGo_fuel s k _ (by omega), scGo_fuel s m _ (by omega)]
    · rw [show s.size - i = 0 by omega, scGo, scGo, if_neg hi]
theorem scF_end {s : ByteArray} {i : Nat} (h : s.size ≤ i) : scF s i = ByteArray.empty := by unfold scF; rw [show s.size - i = 0 by omega, scGo]
theorem scF_step {s : ByteArray} {i : Nat} (h : i < s.size) : scF s i = (scU s i).1 ++ scF s (i + (scU s i).2) := by
  have hb := sc_bd h
  rw [← scGo_fuel s (s.size - i + 1) i (by omega), scGo, if_pos h, scGo_fuel s _ _ (by omega)]
theorem sc_size {s : ByteArray} {i : Nat} (hi : i < s.size) : (scU s i).1.size ≤ 10 := by
  unfold scU
  split
  · simp only; rw [ByteArray.size_extract]; omega
  · exact wr_size hi
theorem scF_size (s : ByteArray) : ∀ (k j : Nat), s.size - j ≤ k → (scF s j).size ≤ 10 * (s.size - j)
  | k, j, hk => by
    by_cases hj : j < s.size
    · cases k with
      | zero => omega
      | succ k =>
        have hb := sc_bd hj
        have h1 := sc_size hj
        have h2 := scF_size s k (j + (scU s j).2) (by omega)
        rw [scF_step hj, ByteArray.size_append]
        omega
    · rw [scF_end (by omega)]; show 0 ≤ _; omega

/-- What stands at index i of a scrubbed text: a fault, or what it denotes and its length. -/
def undU (q : ByteArray) (i : Nat) : Int × ByteArray × Nat :=
  if byN q i = 92 then
    (if (oneL ((bl q).drop i)).2 = 0 then (16, ByteArray.empty, 0) else (0, strOfNums (oneL ((bl q).drop i)).1, (oneL ((bl q).drop i)).2))
  else if badU q i ≠ 0 then (badU q i, ByteArray.empty, 0)
  else (0, q.extract i (i + (decS q i).2.1.toNat), (decS q i).2.1.toNat)
theorem und_bd (q : ByteArray) (i : Nat) (hi : i < q.size) : 0 ≤ (undU q i).1 ∧ (undU q i).1 ≤ 16 ∧ i + (undU q i).2.2 ≤ q.size ∧ ((undU q i).1 = 0 → 1 ≤ (undU q i).2.2) ∧ (undU q i).2.2 ≤ 10 ∧ (undU q i).2.1.size ≤ 4 := by
  have hd := step_bd hi
  have ho := one_len ((bl q).drop i)
  rw [List.length_drop, bl_length] at ho
  have hb : 0 ≤ badU q i ∧ badU q i ≤ 3 := by unfold badU; (repeat' split) <;> omega
  unfold undU
  split
  · split
    · simp; omega
    · simp only; rw [strOfNums_size]; omega
  · split
    · next h => simp; omega
    · simp only; rw [ByteArray.size_extract]; omega
def usGo (q : ByteArray) : Nat → Nat → ByteArray → ByteArray × Int × Int
  | 0, _, acc => (acc, 0, 0)
  | k + 1, i, acc =>
    if i < q.size then (if (undU q i).1 ≠ 0 then (ByteArray.empty, (undU q i).1, (i : Int)) else usGo q k (i + (undU q i).2.2) (acc ++ (undU q i).2.1))
    else (acc, 0, 0)
def usF (q : ByteArray) (i : Nat) (acc : ByteArray) : ByteArray × Int × Int := usGo q (q.size - i) i acc
def unscrubS (q : ByteArray) : ByteArray × Int × Int := usF q 0 ByteArray.empty
theorem usGo_fuel (q : ByteArray) : ∀ (k i : Nat) (acc : ByteArray), q.size - i ≤ k → usGo q k i acc = usF q i acc
  | 0, i, acc, h => by unfold usF; rw [show q.size - i = 0 by omega]
  | k + 1, i, acc, h => by
    unfold usF
    by_cases hi : i < q.size
    · obtain ⟨m, hm⟩ : ∃ m, q.size - i = m + 1 := ⟨q.size - i - 1, by omega⟩
      have hb := und_bd q i hi
      rw [hm, usGo, usGo, if_pos hi, if_pos hi]
      by_cases h4 : (undU q i).1 ≠ 0
      · rw [if_pos h4, if_pos h4]
      rw [if_neg h4, if_neg h4]
      have h5 : 1 ≤ (undU q i).2.2 := hb.2.2.2.1 (by omega)
      rw [usGo_fuel q k _ _ (by omega), usGo_fuel q m _ _ (by omega)]
    · rw [show q.size - i = 0 by omega, usGo, usGo, if_neg hi]
theorem usF_end {q : ByteArray} {i : Nat} (acc : ByteArray) (h : q.size ≤ i) : usF q i acc = (acc, 0, 0) := by unfold usF; rw [show q.size - i = 0 by omega, usGo]
theorem usF_step {q : ByteArray} {i : Nat} (acc : ByteArray) (h : i < q.size) :
    usF q i acc = if (undU q i).1 ≠ 0 then (ByteArray.empty, (undU q i).1, (i : Int)) else usF q (i + (undU q i).2.2) (acc ++ (undU q i).2.1) := by
  have hb := und_bd q i h
  rw [← usGo_fuel q (q.size - i + 1) i acc (by omega), usGo, if_pos h]
  by_cases h4 : (undU q i).1 ≠ 0
  · rw [if_pos h4, if_pos h4]
  rw [if_neg h4, if_neg h4, usGo_fuel q _ _ _ (by have := hb.2.2.2.1 (by omega); omega)]

/-- Where quoted text is read well, so is scrubbed text. -/
theorem und_of_den {q : ByteArray} {i : Nat} {p : ByteArray} {n : Nat} (h : denS q i = (0, p, n)) : undU q i = (0, p, n) := by
  unfold denS at h
  unfold undU
  by_cases h1 : byN q i = 92
  · rw [if_pos h1] at h ⊢
    by_cases h2 : (oneL ((bl q).drop i)).2 = 0
    · rw [if_pos h2] at h; simp at h
    · rw [if_neg h2] at h ⊢; exact h
  rw [if_neg h1] at h ⊢
  by_cases h2 : (decS q i).2.2 = false
  · rw [if_pos h2] at h; simp at h
  rw [if_neg h2] at h
  by_cases h3 : kindS (decS q i).1 ≠ 0
  · rw [if_pos h3] at h; simp at h
  rw [if_neg h3] at h
  have hb : badU q i = 0 := by unfold badU; rw [if_neg h2, if_neg (fun e => h3 e.2)]
  rw [if_neg (by omega)]
  exact h
theorem und_write {s q : ByteArray} {j i : Nat} {rest : List Int} (hj : j < s.size) (h : (bl q).drop i = bl (scU s j).1 ++ rest) :
    undU q i = (0, s.extract j (j + (scU s j).2), (scU s j).1.size) := by
  unfold scU at h ⊢
  by_cases h1 : byN s j = 10 ∨ byN s j = 34
  · rw [if_pos h1] at h ⊢
    simp only at h ⊢
    rw [bl_one s j hj, List.singleton_append] at h
    have hq := byN_head h
    have hi : i < q.size := by
      have := congrArg List.length h
      rw [List.length_drop, bl_length, List.length_cons] at this
      omega
    have hd : decS q i = ((byN q i : Int), 1, true) := ascii_dec hi (by omega)
    have hx : q.extract i (i + 1) = s.extract j (j + 1) := bl_ext (by rw [bl_one q i hi, bl_one s j hj, hq])
    have hz : (s.extract j (j + 1)).size = 1 := by rw [ByteArray.size_extract]; omega
    have hk : ¬ ((byN q i : Int) ≠ 10 ∧ kindS (byN q i : Int) ≠ 0) := by
      rintro ⟨a, b⟩
      have h34 : (byN q i : Int) = 34 := by omega
      rw [h34] at b
      exact b (kind_ascii (by decide) (by decide))
    have hb : badU q i = 0 := by
      unfold badU
      rw [hd, if_neg (show ¬ (true = false) by decide), if_neg hk]
    unfold undU
    rw [if_neg (by omega), if_neg (by omega), hd, hz]
    show (0, q.extract i (i + 1), 1) = _
    rw [hx]
  · rw [if_neg h1] at h ⊢
    exact und_of_den (den_write hj h).1
theorem wr_pos {s : ByteArray} {j : Nat} (hj : j < s.size) : 1 ≤ (unS s j).1.size := by
  have hb := step_bd hj
  have hz : (s.extract j (j + (decS s j).2.1.toNat)).size = (decS s j).2.1.toNat := by rw [ByteArray.size_extract]; omega
  unfold unS
  split
  · simp only
    generalize s.extract j (j + (decS s j).2.1.toNat) = p at *
    unfold wrU
    split
    · rw [ByteArray.size_append]; show 1 ≤ 1 + _; omega
    · split
      · decide
      · split
        · decide
        · split
          · decide
          · split
            · rw [ByteArray.size_append, ByteArray.size_append]; show 1 ≤ 3 + _ + 1; omega
            · omega
  · simp only
    rw [ByteArray.size_append]; show 1 ≤ 2 + _; omega
theorem sc_pos {s : ByteArray} {j : Nat} (hj : j < s.size) : 1 ≤ (scU s j).1.size := by
  unfold scU
  split
  · simp only; rw [ByteArray.size_extract]; omega
  · exact wr_pos hj
theorem us_back (s q : ByteArray) : ∀ (k j i : Nat) (acc : ByteArray), s.size - j ≤ k → j ≤ s.size → (bl q).drop i = bl (scF s j) → i ≤ q.size →
    usF q i acc = (acc ++ s.extract j s.size, 0, 0)
  | k, j, i, acc, hk, hj, h, hiq => by
    by_cases hj' : j < s.size
    · cases k with
      | zero => omega
      | succ k =>
        rw [scF_step hj', bl_append] at h
        have hd := und_write hj' h
        have hb := sc_bd hj'
        have hnx := drop_next h
        rw [bl_length] at hnx
        have hp := sc_pos hj'
        have hi2 : i < q.size := by
          have := congrArg List.length h
          rw [List.length_drop, bl_length, List.length_append, bl_length] at this
          omega
        have hnq : i + (scU s j).1.size ≤ q.size := by
          have := congrArg List.length h
          rw [List.length_drop, bl_length, List.length_append, bl_length] at this
          omega
        rw [usF_step acc hi2, hd, if_neg (by simp)]
        simp only
        rw [us_back s q k _ _ _ (by omega) (by omega) hnx hnq, ByteArray.append_assoc, ext_join (by omega) (by omega) (Nat.le_refl _)]
    · rw [scF_end (by omega)] at h
      have hi2 : q.size ≤ i := by
        have := congrArg List.length h
        rw [List.length_drop, bl_length] at this
        have h0 : (bl ByteArray.empty).length = 0 := rfl
        omega
      have : s.extract j s.size = ByteArray.empty := by
        apply bl_ext
        rw [bl_extract, List.drop_eq_nil_of_le (by rw [List.length_take, bl_length]; omega)]
        rfl
      rw [usF_end acc hi2, this, ByteArray.append_empty]
theorem unscrub_scrub (s : ByteArray) : unscrubS (scrubS s) = (s, 0, 0) := by
  unfold unscrubS
  rw [us_back s (scrubS s) s.size 0 0 _ (by omega) (by omega) (by rw [List.drop_zero]; rfl) (by omega), ByteArray.empty_append]
  simp

/-! ### What is scrubbed is safe, has as many line ends; what is safe and has no backslash stays -/
def SfN (l : List Int) : Prop := ∀ x ∈ l, scalarB x = true ∧ (kindS x = 0 ∨ x = 10)
theorem sc_safe {s : ByteArray} {j : Nat} (hj : j < s.size) : ∃ l, bl (scU s j).1 = encCat l ∧ SfN l := by
  unfold scU
  split
  · next h =>
    refine ⟨[(byN s j : Int)], ?_, ?_⟩
    · simp only
      rw [bl_one s j hj]
      unfold encCat
      rw [List.map_cons, (encL_ascii (c := (byN s j : Int)) (by omega)).1]
      rfl
    · intro x hx
      simp only [List.mem_singleton] at hx
      subst hx
      refine ⟨(encL_ascii (c := (byN s j : Int)) (by omega)).2, ?_⟩
      rcases h with h | h
      · right; omega
      · left; rw [h]; exact kind_ascii (by decide) (by decide)
  · obtain ⟨l, h1, h2⟩ := un_safe hj
    exact ⟨l, h1, fun x hx => ⟨(h2 x hx).1, .inl (h2 x hx).2⟩⟩
theorem scF_safe (s : ByteArray) : ∀ (k j : Nat), s.size - j ≤ k → ∃ l, bl (scF s j) = encCat l ∧ SfN l
  | k, j, hk => by
    by_cases hj : j < s.size
    · cases k with
      | zero => omega
      | succ k =>
        have hb := sc_bd hj
        obtain ⟨l, hl, sl⟩ := sc_safe hj
        obtain ⟨m, hm, sm⟩ := scF_safe s k (j + (scU s j).2) (by omega)
        refine ⟨l ++ m, by rw [scF_step hj, bl_append, hl, hm, encCat_append], fun x hx => ?_⟩
        rcases List.mem_append.1 hx with h | h
        · exact sl x h
        · exact sm x h
    · exact ⟨[], by rw [scF_end (by omega)]; rfl, fun x hx => by simp at hx⟩
theorem fir_all (q : ByteArray) : ∀ (l : List Int) (i : Nat), (bl q).drop i = encCat l → SfN l → i ≤ q.size → firF q i = q.size
  | [], i, h, hs, hi => by
    have : q.size ≤ i := by
      have := congrArg List.length h
      rw [List.length_drop, bl_length] at this
      have h0 : (encCat []).length = 0 := rfl
      omega
    rw [firF_end this]; omega
  | x :: l, i, h, hs, hi => by
    have e : encCat (x :: l) = encL x ++ encCat l := by simp [encCat]
    rw [e] at h
    obtain ⟨h1, h2⟩ := hs x List.mem_cons_self
    obtain ⟨d1, d2⟩ := dec_enc h1 h
    have hz := size_drop h
    have hi2 : i < q.size := by omega
    have hb : badU q i = 0 := by
      unfold badU
      rw [d1]
      simp only
      rw [if_neg (by decide), if_neg]
      rintro ⟨a, b⟩
      rcases h2 with h2 | h2
      · exact b h2
      · exact a h2
    rw [firF_step hi2, if_pos hb, d1]
    simp only [Int.toNat_natCast]
    exact fir_all q l _ (drop_next h) (fun y hy => hs y (List.mem_cons_of_mem _ hy)) (by omega)
theorem scrub_safe (s : ByteArray) : firS (scrubS s) = (scrubS s).size := by
  obtain ⟨l, hl, sl⟩ := scF_safe s s.size 0 (by omega)
  exact fir_all (scrubS s) l 0 (by rw [List.drop_zero]; exact hl) sl (by omega)

theorem enc_no10 {x : Int} (hs : scalarB x = true) (h : x ≠ 10) : ∀ y ∈ encL x, y ≠ 10 := by
  intro y hy
  by_cases h1 : x < 128
  · have h0 : 0 ≤ x := by unfold scalarB at hs; simp at hs; omega
    rw [(encL_ascii ⟨h0, h1⟩).1, List.mem_singleton] at hy
    omega
  · have := encL_high hs h1 y hy
    omega
theorem cat_no10 : ∀ {l : List Int}, Sf l → ∀ y ∈ encCat l, y ≠ 10
  | [], _, y, hy => by simp [encCat] at hy
  | x :: l, h, y, hy => by
    have e : encCat (x :: l) = encL x ++ encCat l := by simp [encCat]
    rw [e, List.mem_append] at hy
    obtain ⟨h1, h2⟩ := h x List.mem_cons_self
    rcases hy with hy | hy
    · refine enc_no10 h1 (fun e => ?_) y hy
      rw [e] at h2
      exact absurd h2 (by decide +kernel)
    · exact cat_no10 (fun z hz => h z (List.mem_cons_of_mem _ hz)) y hy
theorem sc_count {s : ByteArray} {j : Nat} (hj : j < s.size) : (bl (scU s j).1).count 10 = (bl (s.extract j (j + (scU s j).2))).count 10 := by
  unfold scU
  split
  · rfl
  · next h =>
    have hl : (bl (unS s j).1).count 10 = 0 := by
      obtain ⟨l, h1, h2⟩ := un_safe hj
      rw [h1, List.count_eq_zero]
      exact fun hm => cat_no10 h2 _ hm rfl
    have hr : (bl (s.extract j (j + (unS s j).2))).count 10 = 0 := by
      rw [List.count_eq_zero]
      intro hm
      by_cases hok : (decS s j).2.2 = true
      · obtain ⟨hs, he, hn⟩ := dec_ok hj hok
        have hu : (unS s j).2 = (decS s j).2.1.toNat := by unfold unS; rw [if_pos hok]
        rw [hu, he] at hm
        refine enc_no10 hs (fun e => ?_) _ hm rfl
        rw [e] at he
        have hb := step_bd hj
        have h2 : (bl s).drop j = encL 10 ++ (bl s).drop (j + (decS s j).2.1.toNat) := by
          rw [← he, bl_extract, List.drop_take, show j + (decS s j).2.1.toNat - j = (decS s j).2.1.toNat by omega, ← List.drop_drop, List.take_append_drop]
        have := byN_head (l := (bl s).drop (j + (decS s j).2.1.toNat)) (c := 10) h2
        omega
      · have hu : (unS s j).2 = 1 := by unfold unS; rw [if_neg hok]
        rw [hu, bl_one s j hj, List.mem_singleton] at hm
        omega
    rw [hl, hr]
theorem scF_count (s : ByteArray) : ∀ (k j : Nat), s.size - j ≤ k → (bl (scF s j)).count 10 = ((bl s).drop j).count 10
  | k, j, hk => by
    by_cases hj : j < s.size
    · cases k with
      | zero => omega
      | succ k =>
        have hb := sc_bd hj
        have e : (bl s).drop j = bl (s.extract j (j + (scU s j).2)) ++ (bl s).drop (j + (scU s j).2) := by
          rw [bl_extract, List.drop_take, show j + (scU s j).2 - j = (scU s j).2 by omega, ← List.drop_drop, List.take_append_drop]
        rw [scF_step hj, bl_append, List.count_append, scF_count s k _ (by omega), sc_count hj, e, List.count_append]
    · rw [scF_end (by omega), List.drop_eq_nil_of_le (by rw [bl_length]; omega)]; rfl
theorem scrub_count (s : ByteArray) : (bl (scrubS s)).count 10 = (bl s).count 10 := by
  have := scF_count s s.size 0 (by omega)
  rw [List.drop_zero] at this
  exact this
theorem sc_same {s : ByteArray} {j : Nat} (hj : j < s.size) (h0 : badU s j = 0) (h92 : byN s j ≠ 92) : (scU s j).1 = s.extract j (j + (scU s j).2) ∧ (scU s j).2 = (decS s j).2.1.toNat := by
  have hok : (decS s j).2.2 = true := by
    unfold badU at h0
    cases h : (decS s j).2.2
    · rw [if_pos h] at h0; omega
    · rfl
  obtain ⟨hs, he, hn⟩ := dec_ok hj hok
  have hb := step_bd hj
  have hdrop : (bl s).drop j = encL (decS s j).1 ++ (bl s).drop (j + (decS s j).2.1.toNat) := by
    rw [← he, bl_extract, List.drop_take, show j + (decS s j).2.1.toNat - j = (decS s j).2.1.toNat by omega, ← List.drop_drop, List.take_append_drop]
  have hr : ∀ c : Int, 0 ≤ c → c < 128 → (decS s j).1 = c → (byN s j : Int) = c := fun c c0 c1 e => by
    rw [e, (encL_ascii ⟨c0, c1⟩).1] at hdrop
    exact byN_head (l := (bl s).drop (j + (decS s j).2.1.toNat)) hdrop
  unfold scU
  by_cases h1 : byN s j = 10 ∨ byN s j = 34
  · rw [if_pos h1, ascii_dec hj (by omega)]
    exact ⟨rfl, rfl⟩
  · rw [if_neg h1]
    unfold unS
    rw [if_pos hok]
    refine ⟨?_, rfl⟩
    simp only
    unfold badU at h0
    rw [hok, if_neg (by decide)] at h0
    have n10 : (decS s j).1 ≠ 10 := fun e => by have := hr 10 (by decide) (by decide) e; omega
    have hk : kindS (decS s j).1 = 0 := by
      by_cases h : kindS (decS s j).1 = 0
      · exact h
      · rw [if_pos ⟨n10, h⟩] at h0; omega
    have n34 : (decS s j).1 ≠ 34 := fun e => by have := hr 34 (by decide) (by decide) e; omega
    have n92 : (decS s j).1 ≠ 92 := fun e => by have := hr 92 (by decide) (by decide) e; omega
    have n9 : (decS s j).1 ≠ 9 := fun e => by rw [e] at hk; exact absurd hk (by decide +kernel)
    have n13 : (decS s j).1 ≠ 13 := fun e => by rw [e] at hk; exact absurd hk (by decide +kernel)
    unfold wrU
    rw [if_neg (fun e => e.elim n34 n92), if_neg n9, if_neg n10, if_neg n13, if_neg (fun e => e hk)]
theorem scF_same (s : ByteArray) (h92 : (bl s).count 92 = 0) : ∀ (k j : Nat), s.size - j ≤ k → j ≤ s.size → firF s j = s.size → scF s j = s.extract j s.size
  | k, j, hk, hjs, hf => by
    by_cases hj : j < s.size
    · cases k with
      | zero => omega
      | succ k =>
        have hb := sc_bd hj
        rw [firF_step hj] at hf
        have h0 : badU s j = 0 := by
          by_cases h : badU s j = 0
          · exact h
          · rw [if_neg h] at hf; omega
        rw [if_pos h0] at hf
        have hne : byN s j ≠ 92 := fun e => by
          rw [List.count_eq_zero] at h92
          refine h92 (List.mem_of_getElem? (i := j) ?_)
          rw [bl_get s j hj, e]; rfl
        obtain ⟨e1, e2⟩ := sc_same hj h0 hne
        rw [← e2] at hf
        rw [scF_step hj, e1, scF_same s h92 k _ (by omega) (by omega) hf, ext_join (by omega) (by omega) (Nat.le_refl _)]
    · rw [scF_end (by omega)]
      apply bl_ext
      rw [bl_extract, List.drop_eq_nil_of_le (by rw [List.length_take, bl_length]; omega)]
      rfl
theorem scrub_same {s : ByteArray} (h1 : firS s = s.size) (h2 : (bl s).count 92 = 0) : scrubS s = s := by
  have := scF_same s h2 s.size 0 (by omega) (by omega) h1
  unfold scrubS
  rw [this]
  simp
end Go.Proofs.YthelhplcijhioaaGreat.Saf
