import Derived.Test.YthelhplcijhioaaGreatG1
import GoSem.Op.String
/- The plain mathematics of layer 8: the order of strings, the least place of a string in a list, the first that stands twice, the distinct strings in increasing order. No Go here. -/
set_option maxRecDepth 100000
set_option linter.unusedVariables false
namespace Go.Proofs.YthelhplcijhioaaGreat.Nam
open Go.Lib Go.Proofs.YthelhplcijhioaaGreat.Utf

/- The order of bytes. -/
theorem less_irr : ∀ (a : List UInt8), Go.Op.bytesLess a a = false
  | [] => rfl
  | a :: x => by
    simp only [Go.Op.bytesLess, less_irr x, Bool.and_false, Bool.or_false]
    exact decide_eq_false (UInt8.lt_irrefl a)
theorem less_cons (a b : UInt8) (x y : List UInt8) : Go.Op.bytesLess (a :: x) (b :: y) = true ↔ a.toNat < b.toNat ∨ (a = b ∧ Go.Op.bytesLess x y = true) := by
  simp only [Go.Op.bytesLess, Bool.or_eq_true, decide_eq_true_eq, Bool.and_eq_true, beq_iff_eq, UInt8.lt_iff_toNat_lt]
theorem less_trans : ∀ {a b c : List UInt8}, Go.Op.bytesLess a b = true → Go.Op.bytesLess b c = true → Go.Op.bytesLess a c = true
  | _, [], _, h, _ => by simp [Go.Op.bytesLess] at h
  | _, _ :: _, [], _, h => by simp [Go.Op.bytesLess] at h
  | [], _ :: _, _ :: _, _, _ => rfl
  | a :: x, b :: y, c :: z, h1, h2 => by
    rw [less_cons] at h1 h2 ⊢
    rcases h1 with h1 | ⟨rfl, h1⟩
    · rcases h2 with h2 | ⟨rfl, h2⟩
      · exact .inl (by omega)
      · exact .inl h1
    · rcases h2 with h2 | ⟨rfl, h2⟩
      · exact .inl h2
      · exact .inr ⟨rfl, less_trans h1 h2⟩
theorem less_tri : ∀ {a b : List UInt8}, Go.Op.bytesLess a b = false → Go.Op.bytesLess b a = false → a = b
  | [], [], _, _ => rfl
  | [], _ :: _, h, _ => by simp [Go.Op.bytesLess] at h
  | _ :: _, [], _, h => by simp [Go.Op.bytesLess] at h
  | a :: x, b :: y, h1, h2 => by
    have g1 := mt (less_cons a b x y).2 (by rw [h1]; decide)
    have g2 := mt (less_cons b a y x).2 (by rw [h2]; decide)
    have e : a = b := UInt8.toNat_inj.1 (by omega)
    subst e
    have q1 : Go.Op.bytesLess x y = false := by
      cases h : Go.Op.bytesLess x y
      · rfl
      · exact absurd (.inr ⟨rfl, h⟩) g1
    have q2 : Go.Op.bytesLess y x = false := by
      cases h : Go.Op.bytesLess y x
      · rfl
      · exact absurd (.inr ⟨rfl, h⟩) g2
    rw [less_tri q1 q2]
/-- A string is less than another. -/
def lt (a b : ByteArray) : Bool := Go.Op.bytesLess a.toList b.toList
theorem lt_irr (a : ByteArray) : lt a a = false := less_irr _
theorem lt_trans {a b c : ByteArray} (h : lt a b = true) (k : lt b c = true) : lt a c = true := less_trans h k
theorem str_ext {a b : ByteArray} (h : a.toList = b.toList) : a = b := by
  rw [ba_toList, ba_toList] at h
  exact ByteArray.ext (Array.ext' h)
theorem lt_tri {a b : ByteArray} (h : lt a b = false) (k : lt b a = false) : a = b := str_ext (less_tri h k)
theorem lt_asymm {a b : ByteArray} (h : lt a b = true) : lt b a = false := by
  cases k : lt b a
  · rfl
  · exact absurd (lt_trans h k) (by rw [lt_irr]; decide)
theorem lt_ne {a b : ByteArray} (h : lt a b = true) : a ≠ b := fun e => by subst e; rw [lt_irr] at h; cases h
theorem seq_iff (a b : ByteArray) : (a.toList == b.toList) = decide (a = b) := by
  rw [Bool.eq_iff_iff, beq_iff_eq, decide_eq_true_iff]
  exact ⟨str_ext, fun h => by rw [h]⟩

/-- The least place of a string, -1 if it has none. -/
def findF (s : ByteArray) : List ByteArray → Nat → Int
  | [], _ => -1
  | x :: l, i => if x = s then i else findF s l (i + 1)
def findS (l : List ByteArray) (s : ByteArray) : Int := findF s l 0
theorem findF_cases (s : ByteArray) : ∀ (l : List ByteArray) (i : Nat), (findF s l i = -1 ∧ s ∉ l) ∨ ∃ k, k < l.length ∧ l[k]? = some s ∧ (∀ j, j < k → l[j]? ≠ some s) ∧ findF s l i = (i + k : Nat)
  | [], i => .inl ⟨rfl, by simp⟩
  | x :: l, i => by
    by_cases h : x = s
    · exact .inr ⟨0, by simp, by simp [h], fun j hj => by omega, by rw [findF, if_pos h]; simp⟩
    · rcases findF_cases s l (i + 1) with ⟨h1, h2⟩ | ⟨k, h1, h2, h3, h4⟩
      · exact .inl ⟨by rw [findF, if_neg h, h1], by rw [List.mem_cons]; exact fun q => q.elim (fun e => h e.symm) h2⟩
      · refine .inr ⟨k + 1, by simp; omega, by simpa using h2, fun j hj => ?_, by rw [findF, if_neg h, h4]; congr 1; omega⟩
        cases j with
        | zero => simpa using h
        | succ j => simpa using h3 j (by omega)
theorem find_cases (l : List ByteArray) (s : ByteArray) : (findS l s = -1 ∧ s ∉ l) ∨ ∃ k : Nat, k < l.length ∧ l[k]? = some s ∧ (∀ j, j < k → l[j]? ≠ some s) ∧ findS l s = k := by
  rcases findF_cases s l 0 with h | ⟨k, h1, h2, h3, h4⟩
  · exact .inl h
  · exact .inr ⟨k, h1, h2, h3, by rw [findS, h4]; simp⟩
/-- What the least place is. -/
theorem find_is {l : List ByteArray} {s : ByteArray} {k : Nat} (h : l[k]? = some s) (h2 : ∀ j, j < k → l[j]? ≠ some s) : findS l s = k := by
  rcases find_cases l s with ⟨_, h1⟩ | ⟨m, _, h3, h4, h5⟩
  · exact absurd (List.mem_of_getElem? h) h1
  · rcases Nat.lt_trichotomy k m with q | q | q
    · exact absurd h (h4 k q)
    · rw [h5, q]
    · exact absurd h3 (h2 m q)
theorem find_none {l : List ByteArray} {s : ByteArray} (h : s ∉ l) : findS l s = -1 := by
  rcases find_cases l s with h1 | ⟨m, _, h3, _⟩
  · exact h1.1
  · exact absurd (List.mem_of_getElem? h3) h

noncomputable instance memDec (x : ByteArray) (l : List ByteArray) : Decidable (x ∈ l) := Classical.propDecidable _
/-- The least place of an element that stands ahead of it too; -1 if there is none. -/
noncomputable def twiF (l : List ByteArray) : Nat → Nat → Int
  | 0, _ => -1
  | k + 1, i => if l.getD i ByteArray.empty ∈ l.take i then i else twiF l k (i + 1)
noncomputable def twiS (l : List ByteArray) : Int := twiF l l.length 0
theorem twiF_cases (l : List ByteArray) : ∀ (k i : Nat), (twiF l k i = -1 ∧ ∀ j, i ≤ j → j < i + k → l.getD j ByteArray.empty ∉ l.take j) ∨
    ∃ m, i ≤ m ∧ m < i + k ∧ l.getD m ByteArray.empty ∈ l.take m ∧ (∀ j, i ≤ j → j < m → l.getD j ByteArray.empty ∉ l.take j) ∧ twiF l k i = m
  | 0, i => .inl ⟨rfl, fun j h1 h2 => by omega⟩
  | k + 1, i => by
    by_cases h : l.getD i ByteArray.empty ∈ l.take i
    · exact .inr ⟨i, Nat.le_refl _, by omega, h, fun j h1 h2 => by omega, by rw [twiF, if_pos h]⟩
    · rcases twiF_cases l k (i + 1) with ⟨h1, h2⟩ | ⟨m, h1, h2, h3, h4, h5⟩
      · refine .inl ⟨by rw [twiF, if_neg h, h1], fun j q1 q2 => ?_⟩
        rcases Nat.eq_or_lt_of_le q1 with e | q3
        · subst e; exact h
        · exact h2 j q3 (by omega)
      · refine .inr ⟨m, by omega, by omega, h3, fun j q1 q2 => ?_, by rw [twiF, if_neg h, h5]⟩
        rcases Nat.eq_or_lt_of_le q1 with e | q3
        · subst e; exact h
        · exact h4 j q3 q2
/-- What the first that stands twice is. -/
theorem twi_is {l : List ByteArray} {m : Nat} (hm : m < l.length) (h : l.getD m ByteArray.empty ∈ l.take m) (h2 : ∀ j, j < m → l.getD j ByteArray.empty ∉ l.take j) : twiS l = m := by
  rcases twiF_cases l l.length 0 with ⟨_, h1⟩ | ⟨k, _, h3, h4, h5, h6⟩
  · exact absurd h (h1 m (by omega) (by omega))
  · rw [twiS, h6]
    rcases Nat.lt_trichotomy k m with q | q | q
    · exact absurd h4 (h2 k q)
    · rw [q]
    · exact absurd h (h5 m (by omega) q)
theorem twi_none {l : List ByteArray} (h : ∀ j, j < l.length → l.getD j ByteArray.empty ∉ l.take j) : twiS l = -1 := by
  rcases twiF_cases l l.length 0 with h1 | ⟨k, _, h3, h4, _⟩
  · exact h1.1
  · exact absurd h4 (h k (by omega))
theorem twi_cases (l : List ByteArray) : (twiS l = -1 ∧ ∀ j, j < l.length → l.getD j ByteArray.empty ∉ l.take j) ∨
    ∃ m : Nat, m < l.length ∧ l.getD m ByteArray.empty ∈ l.take m ∧ (∀ j, j < m → l.getD j ByteArray.empty ∉ l.take j) ∧ twiS l = m := by
  rcases twiF_cases l l.length 0 with ⟨h1, h2⟩ | ⟨k, _, h3, h4, h5, h6⟩
  · exact .inl ⟨h1, fun j hj => h2 j (by omega) (by omega)⟩
  · exact .inr ⟨k, by omega, h4, fun j hj => h5 j (by omega) hj, h6⟩

/-- Strictly increasing. -/
def Inc (l : List ByteArray) : Prop := l.Pairwise fun a b => lt a b = true
theorem Inc.nodup {l : List ByteArray} (h : Inc l) : l.Nodup := h.imp fun h => lt_ne h
/-- Increasing lists with the same elements are the same. -/
theorem inc_unique : ∀ {a b : List ByteArray}, Inc a → Inc b → (∀ x, x ∈ a ↔ x ∈ b) → a = b
  | [], [], _, _, _ => rfl
  | [], y :: b, _, _, h => absurd ((h y).2 List.mem_cons_self) (by simp)
  | x :: a, [], _, _, h => absurd ((h x).1 List.mem_cons_self) (by simp)
  | x :: a, y :: b, ha, hb, h => by
    have ha' := List.pairwise_cons.1 ha
    have hb' := List.pairwise_cons.1 hb
    have e : x = y := by
      rcases List.mem_cons.1 ((h x).1 List.mem_cons_self) with e | hx
      · exact e
      · rcases List.mem_cons.1 ((h y).2 List.mem_cons_self) with e | hy
        · exact e.symm
        · have h1 := hb'.1 x hx
          have h2 := ha'.1 y hy
          rw [lt_asymm h1] at h2
          cases h2
    subst e
    rw [inc_unique ha'.2 hb'.2 fun z => ⟨fun hz => ?_, fun hz => ?_⟩]
    · rcases List.mem_cons.1 ((h z).1 (List.mem_cons_of_mem _ hz)) with e | q
      · subst e; exact absurd (ha'.1 z hz) (by rw [lt_irr]; decide)
      · exact q
    · rcases List.mem_cons.1 ((h z).2 (List.mem_cons_of_mem _ hz)) with e | q
      · subst e; exact absurd (hb'.1 z hz) (by rw [lt_irr]; decide)
      · exact q

/-- A string put where it belongs. -/
def insS (s : ByteArray) : List ByteArray → List ByteArray
  | [] => [s]
  | x :: l => if lt s x = true then s :: x :: l else if s = x then x :: l else x :: insS s l
theorem ins_mem (s : ByteArray) : ∀ (l : List ByteArray) (x : ByteArray), x ∈ insS s l ↔ x = s ∨ x ∈ l
  | [], x => by simp [insS]
  | y :: l, x => by
    rw [insS]
    split
    · simp
    · split
      · next h => subst h; simp
      · simp only [List.mem_cons, ins_mem s l x]
        constructor <;> (intro h; rcases h with h | h | h <;> simp [h])
theorem ins_inc (s : ByteArray) : ∀ {l : List ByteArray}, Inc l → Inc (insS s l)
  | [], _ => List.pairwise_singleton _ _
  | y :: l, h => by
    have h' := List.pairwise_cons.1 h
    rw [insS]
    split
    · next q =>
      refine List.pairwise_cons.2 ⟨fun z hz => ?_, h⟩
      rcases List.mem_cons.1 hz with e | hz
      · subst e; exact q
      · exact lt_trans q (h'.1 z hz)
    · next q =>
      split
      · exact h
      · next q2 =>
        refine List.pairwise_cons.2 ⟨fun z hz => ?_, ins_inc s h'.2⟩
        rcases (ins_mem s l z).1 hz with e | hz
        · subst e
          cases k : lt y z
          · exact absurd (lt_tri (by simpa using q) k) q2
          · rfl
        · exact h'.1 z hz
theorem ins_len (s : ByteArray) : ∀ (l : List ByteArray), (insS s l).length ≤ l.length + 1
  | [] => by simp [insS]
  | y :: l => by
    have := ins_len s l
    rw [insS]
    split
    · simp
    · split <;> simp <;> omega
/-- The distinct strings of a list, in increasing order. -/
def sortS (l : List ByteArray) : List ByteArray := l.foldr insS []
theorem sort_inc : ∀ (l : List ByteArray), Inc (sortS l)
  | [] => List.Pairwise.nil
  | x :: l => ins_inc x (sort_inc l)
theorem sort_mem : ∀ (l : List ByteArray) (x : ByteArray), x ∈ sortS l ↔ x ∈ l
  | [], x => by simp [sortS]
  | y :: l, x => by
    rw [show sortS (y :: l) = insS y (sortS l) from rfl, ins_mem, sort_mem l x, List.mem_cons]
theorem sort_is {l m : List ByteArray} (h : Inc m) (hm : ∀ x, x ∈ m ↔ x ∈ l) : m = sortS l := inc_unique h (sort_inc l) fun x => by rw [hm, sort_mem]
theorem sort_len : ∀ (l : List ByteArray), (sortS l).length ≤ l.length
  | [] => Nat.le_refl _
  | x :: l => by
    have h1 := ins_len x (sortS l)
    have h2 := sort_len l
    rw [show sortS (x :: l) = insS x (sortS l) from rfl, List.length_cons]
    omega
/-- No string stands twice where the distinct ones are as many. -/
theorem nodup_twi {l : List ByteArray} : l.Nodup ↔ twiS l = -1 := by
  rcases twi_cases l with ⟨h1, h2⟩ | ⟨m, h1, h2, _, h4⟩
  · refine ⟨fun _ => h1, fun _ => ?_⟩
    rw [List.Nodup, List.pairwise_iff_getElem]
    intro i j hi hj hij e
    refine h2 j hj ?_
    rw [List.getD_eq_getElem?_getD, List.getElem?_eq_getElem hj, Option.getD_some, ← e]
    exact List.mem_take_iff_getElem.2 ⟨i, by omega, rfl⟩
  · refine ⟨fun hn => ?_, fun e => by omega⟩
    rw [List.getD_eq_getElem?_getD, List.getElem?_eq_getElem h1, Option.getD_some] at h2
    obtain ⟨i, hi, e⟩ := List.mem_take_iff_getElem.1 h2
    rw [List.Nodup, List.pairwise_iff_getElem] at hn
    exact absurd e (hn i m (by omega) h1 (by omega))
theorem sort_nodup {l : List ByteArray} (h : l.Nodup) : (sortS l).length = l.length :=
  ((List.perm_ext_iff_of_nodup (sort_inc l).nodup h).2 (sort_mem l)).length_eq
theorem sort_twice : ∀ {l : List ByteArray}, (sortS l).length = l.length → l.Nodup
  | [], _ => List.nodup_nil
  | x :: l, h => by
    have h1 := ins_len x (sortS l)
    have h2 := sort_len l
    rw [show sortS (x :: l) = insS x (sortS l) from rfl, List.length_cons] at h
    refine List.nodup_cons.2 ⟨fun hx => ?_, sort_twice (by omega)⟩
    have e : insS x (sortS l) = sortS l := inc_unique (ins_inc x (sort_inc l)) (sort_inc l) fun z => by
      rw [ins_mem]
      exact ⟨fun q => q.elim (fun e => by subst e; exact (sort_mem l z).2 hx) id, .inr⟩
    rw [e] at h
    omega
theorem count_twice (l : List ByteArray) : decide (twiS l < 0) = decide ((sortS l).length = l.length) := by
  rw [decide_eq_decide]
  constructor
  · intro h
    rcases twi_cases l with ⟨h1, _⟩ | ⟨m, _, _, _, h4⟩
    · exact sort_nodup (nodup_twi.2 h1)
    · omega
  · intro h
    rw [nodup_twi.1 (sort_twice h)]
    decide
theorem sorted_twice (l : List ByteArray) : twiS (sortS l) = -1 := nodup_twi.1 (sort_inc l).nodup

/- The characters of a name at a place. -/
def isSmall (c : Nat) : Prop := 97 ≤ c ∧ c ≤ 122
def isSign (c : Nat) : Prop := (97 ≤ c ∧ c ≤ 122) ∨ c = 95 ∨ (48 ≤ c ∧ c ≤ 57)
instance (c : Nat) : Decidable (isSmall c) := by unfold isSmall; infer_instance
instance (c : Nat) : Decidable (isSign c) := by unfold isSign; infer_instance
/-- How many characters of a name stand from an index on. -/
def runF (s : ByteArray) (i : Nat) : Nat := (((bl s).drop i).takeWhile fun x => decide (isSign x.toNat)).length
def sigS (s : ByteArray) (i : Nat) : Nat := if i < s.size ∧ isSmall (byN s i) then runF s i else 0
theorem runF_step {s : ByteArray} {i : Nat} (h : i < s.size) (hd : isSign (byN s i)) : runF s i = runF s (i + 1) + 1 := by
  unfold runF
  rw [bl_drop h, List.takeWhile_cons_of_pos (by simpa using hd), List.length_cons]
theorem runF_stop {s : ByteArray} {i : Nat} (h : i < s.size) (hd : ¬ isSign (byN s i)) : runF s i = 0 := by
  unfold runF
  rw [bl_drop h, List.takeWhile_cons_of_neg (by simpa using hd)]
  rfl
theorem runF_end {s : ByteArray} {i : Nat} (h : s.size ≤ i) : runF s i = 0 := by
  unfold runF
  rw [List.drop_eq_nil_of_le (by rw [bl_length]; exact h)]
  rfl
theorem runF_len (s : ByteArray) (i : Nat) (h : i ≤ s.size) : i + runF s i ≤ s.size := by
  have := (List.takeWhile_prefix (l := (bl s).drop i) fun x => decide (isSign x.toNat)).length_le
  rw [List.length_drop, bl_length] at this
  unfold runF
  omega
theorem sig_len {s : ByteArray} {i : Nat} (h : i < s.size) : i + sigS s i ≤ s.size := by
  have := runF_len s i (by omega)
  unfold sigS
  split <;> omega
/-- Is it a name? -/
def rightS (s : ByteArray) : Bool := decide (0 < s.size ∧ s.size ≤ 32 ∧ sigS s 0 = s.size)
end Go.Proofs.YthelhplcijhioaaGreat.Nam

/- The plain mathematics of layer 7: the text of a number, and the number that stands in a text. No Go here. -/
set_option maxRecDepth 100000
set_option linter.unusedVariables false
namespace Go.Proofs.YthelhplcijhioaaGreat.Dig
open Go.Lib Go.Proofs.YthelhplcijhioaaGreat.Utf

/-- The digits of a number. -/
def decL (n : Nat) : List Int := if n < 10 then [48 + (n : Int)] else decL (n / 10) ++ [48 + ((n % 10 : Nat) : Int)]
termination_by n
decreasing_by omega
theorem decL_lt {n : Nat} (h : n < 10) : decL n = [48 + (n : Int)] := by rw [decL, if_pos h]
theorem decL_ge {n : Nat} (h : ¬ n < 10) : decL n = decL (n / 10) ++ [48 + ((n % 10 : Nat) : Int)] := by rw [decL, if_neg h]
/-- Digits all. -/
def Dg (l : List Int) : Prop := ∀ x ∈ l, 48 ≤ x ∧ x ≤ 57
theorem decL_dg : ∀ (k n : Nat), n ≤ k → Dg (decL n)
  | k, n, hk, x, hx => by
    by_cases h : n < 10
    · rw [decL_lt h, List.mem_singleton] at hx; omega
    · cases k with
      | zero => omega
      | succ k =>
        rw [decL_ge h, List.mem_append, List.mem_singleton] at hx
        rcases hx with hx | hx
        · exact decL_dg k (n / 10) (by omega) x hx
        · omega
theorem dec_dg (n : Nat) : Dg (decL n) := decL_dg n n (Nat.le_refl _)
theorem dg_range {l : List Int} (h : Dg l) : ∀ x ∈ l, 0 ≤ x ∧ x < 256 := fun x hx => by have := h x hx; omega
/-- The number that digits write. -/
def valA (a : Nat) (l : List Int) : Nat := l.foldl (fun a x => 10 * a + (x - 48).toNat) a
def valN (l : List Int) : Nat := valA 0 l
theorem valA_cons (a : Nat) (x : Int) (l : List Int) : valA a (x :: l) = valA (10 * a + (x - 48).toNat) l := rfl
theorem valA_append (a : Nat) (l m : List Int) : valA a (l ++ m) = valA (valA a l) m := by unfold valA; rw [List.foldl_append]
theorem valN_snoc (l : List Int) (x : Int) : valN (l ++ [x]) = 10 * valN l + (x - 48).toNat := by unfold valN; rw [valA_append]; rfl
theorem valA_eq : ∀ (l : List Int) (a : Nat), valA a l = a * 10 ^ l.length + valN l
  | [], a => by simp [valA, valN]
  | x :: l, a => by
    unfold valN
    rw [valA_cons, valA_cons, valA_eq l, valA_eq l (10 * 0 + _), List.length_cons, Nat.pow_succ]
    rw [Nat.add_mul, Nat.add_mul, Nat.mul_zero, Nat.zero_mul, Nat.zero_add, Nat.mul_comm 10 a, Nat.mul_assoc, Nat.mul_comm 10, Nat.add_assoc]
theorem valN_cons (x : Int) (l : List Int) : valN (x :: l) = (x - 48).toNat * 10 ^ l.length + valN l := by
  unfold valN
  rw [valA_cons, valA_eq, Nat.mul_zero, Nat.zero_add]
  rfl
theorem val_lt : ∀ {l : List Int}, Dg l → valN l < 10 ^ l.length
  | [], _ => by decide
  | x :: l, h => by
    have h1 := val_lt (l := l) fun y hy => h y (List.mem_cons_of_mem _ hy)
    have h2 := h x List.mem_cons_self
    rw [valN_cons, List.length_cons, Nat.pow_succ]
    have : (x - 48).toNat * 10 ^ l.length ≤ 9 * 10 ^ l.length := Nat.mul_le_mul_right _ (by omega)
    omega
theorem val_ge {x : Int} {l : List Int} (h : 48 ≤ x ∧ x ≤ 57) (h0 : x ≠ 48) : 10 ^ l.length ≤ valN (x :: l) := by
  rw [valN_cons]
  have : 1 * 10 ^ l.length ≤ (x - 48).toNat * 10 ^ l.length := Nat.mul_le_mul_right _ (by omega)
  omega
theorem val_decL : ∀ (k n : Nat), n ≤ k → valN (decL n) = n
  | k, n, hk => by
    by_cases h : n < 10
    · rw [decL_lt h, valN_cons]; simp [valN, valA]; omega
    · cases k with
      | zero => omega
      | succ k => rw [decL_ge h, valN_snoc, val_decL k (n / 10) (by omega)]; omega
theorem val_dec (n : Nat) : valN (decL n) = n := val_decL n n (Nat.le_refl _)
theorem dec_head : ∀ (k n : Nat), n ≤ k → ∃ x l, decL n = x :: l ∧ (x = 48 → n = 0 ∧ l = [])
  | k, n, hk => by
    by_cases h : n < 10
    · exact ⟨_, [], decL_lt h, fun e => ⟨by omega, rfl⟩⟩
    · cases k with
      | zero => omega
      | succ k =>
        obtain ⟨x, l, e, h0⟩ := dec_head k (n / 10) (by omega)
        refine ⟨x, l ++ _, by rw [decL_ge h, e, List.cons_append], fun e2 => ?_⟩
        have := (h0 e2).1
        omega
theorem dec_cons (n : Nat) : ∃ x l, decL n = x :: l ∧ (x = 48 → n = 0 ∧ l = []) := dec_head n n (Nat.le_refl _)
/-- Digits with no 0 ahead are their number's. -/
theorem dec_val : ∀ (k : Nat) (l : List Int), l.length ≤ k → ∀ x, Dg (x :: l) → (x = 48 → l = []) → decL (valN (x :: l)) = x :: l
  | k, l, hk, x, hd, h0 => by
    rcases List.eq_nil_or_concat l with rfl | ⟨m, y, rfl⟩
    · have := hd x List.mem_cons_self
      rw [valN_cons, show valN [] = 0 from rfl, decL_lt (by simp; omega)]
      simp
      omega
    · cases k with
      | zero => simp at hk
      | succ k =>
        rw [List.concat_eq_append] at *
        have hx := hd x List.mem_cons_self
        have hy := hd y (by simp)
        have h1 : x ≠ 48 := fun e => by have := h0 e; simp at this
        have hg := val_ge (l := m) hx h1
        have h2 : 1 ≤ 10 ^ m.length := Nat.one_le_pow _ _ (by decide)
        have e : x :: (m ++ [y]) = (x :: m) ++ [y] := rfl
        have ih := dec_val k m (by simp at hk; omega) x (fun z hz => hd z (by rw [e]; exact List.mem_append_left _ hz)) (fun e => absurd e h1)
        rw [e, valN_snoc, decL_ge (by omega)]
        rw [show (10 * valN (x :: m) + (y - 48).toNat) / 10 = valN (x :: m) by omega, ih]
        congr 2
        omega

/-- Strings of as many digits are in the order of their numbers. -/
def lessL : List Int → List Int → Bool
  | _, [] => false
  | [], _ :: _ => true
  | a :: x, b :: y => decide (a < b) || (decide (a = b) && lessL x y)
theorem less_val : ∀ (x y : List Int), x.length = y.length → Dg x → Dg y → (lessL x y = decide (valN x < valN y))
  | [], [], _, _, _ => rfl
  | [], _ :: _, h, _, _ => by simp at h
  | _ :: _, [], h, _, _ => by simp at h
  | a :: x, b :: y, h, hx, hy => by
    simp only [List.length_cons, Nat.add_right_cancel_iff] at h
    have hx' : Dg x := fun z hz => hx z (List.mem_cons_of_mem _ hz)
    have hy' : Dg y := fun z hz => hy z (List.mem_cons_of_mem _ hz)
    have ih := less_val x y h hx' hy'
    have ha := hx a List.mem_cons_self
    have hb := hy b List.mem_cons_self
    have lx := val_lt hx'
    have ly := val_lt hy'
    rw [lessL, ih, valN_cons, valN_cons, h]
    rw [h] at lx
    by_cases h1 : a < b
    · have : ((a - 48).toNat + 1) * 10 ^ y.length ≤ (b - 48).toNat * 10 ^ y.length := Nat.mul_le_mul_right _ (by omega)
      rw [Nat.add_mul, Nat.one_mul] at this
      rw [decide_eq_true h1, Bool.true_or, decide_eq_true (by omega)]
    · by_cases h2 : a = b
      · subst h2
        rw [decide_eq_false h1, Bool.false_or, decide_eq_true rfl, Bool.true_and]
        simp
      · have : ((b - 48).toNat + 1) * 10 ^ y.length ≤ (a - 48).toNat * 10 ^ y.length := Nat.mul_le_mul_right _ (by omega)
        rw [Nat.add_mul, Nat.one_mul] at this
        rw [decide_eq_false h1, decide_eq_false h2, Bool.false_and, Bool.false_or, decide_eq_false (by omega)]

/-- The text of a number. -/
def putL (n : Int) : List Int := if n < 0 then 45 :: decL n.natAbs else decL n.toNat
def putS (n : Int) : ByteArray := strOfNums (putL n)
theorem putL_range (n : Int) : ∀ x ∈ putL n, 0 ≤ x ∧ x < 256 := by
  intro x hx
  unfold putL at hx
  split at hx
  · rcases List.mem_cons.1 hx with rfl | h
    · omega
    · exact dg_range (dec_dg _) x h
  · exact dg_range (dec_dg _) x hx
theorem bl_put (n : Int) : bl (putS n) = putL n := bl_strOfNums _ (putL_range n)

/-- The longest sequence of digits at an index. -/
def isDB (x : Int) : Bool := decide (48 ≤ x ∧ x ≤ 57)
def dgs (s : ByteArray) (i : Nat) : List Int := ((bl s).drop i).takeWhile isDB
theorem dgs_step {s : ByteArray} {i : Nat} (h : i < s.size) (hd : 48 ≤ byN s i ∧ byN s i ≤ 57) : dgs s i = (byN s i : Int) :: dgs s (i + 1) := by
  unfold dgs
  rw [bl_drop h, List.takeWhile_cons_of_pos (by unfold isDB; simp; omega)]
theorem dgs_stop {s : ByteArray} {i : Nat} (h : i < s.size) (hd : ¬ (48 ≤ byN s i ∧ byN s i ≤ 57)) : dgs s i = [] := by
  unfold dgs
  rw [bl_drop h, List.takeWhile_cons_of_neg (by unfold isDB; simp; omega)]
theorem dgs_end {s : ByteArray} {i : Nat} (h : s.size ≤ i) : dgs s i = [] := by
  unfold dgs
  rw [List.drop_eq_nil_of_le (by rw [bl_length]; exact h)]
  rfl
theorem dgs_dg (s : ByteArray) (i : Nat) : Dg (dgs s i) := fun x hx => by
  have := List.all_takeWhile (p := isDB) (l := (bl s).drop i)
  rw [List.all_eq_true] at this
  have := this x hx
  unfold isDB at this
  simpa using this
theorem dgs_pre (s : ByteArray) (i : Nat) : ∃ r, (bl s).drop i = dgs s i ++ r := by
  obtain ⟨r, h⟩ := List.takeWhile_prefix (l := (bl s).drop i) isDB
  exact ⟨r, h.symm⟩
theorem dgs_len {s : ByteArray} {i : Nat} (h : i ≤ s.size) : i + (dgs s i).length ≤ s.size := by
  obtain ⟨r, e⟩ := dgs_pre s i
  have := congrArg List.length e
  rw [List.length_drop, bl_length, List.length_append] at this
  omega
theorem dgs_ext {s : ByteArray} {i : Nat} (h : i ≤ s.size) : bl (s.extract i (i + (dgs s i).length)) = dgs s i := by
  obtain ⟨r, e⟩ := dgs_pre s i
  rw [bl_extract, List.drop_take, e, show i + (dgs s i).length - i = (dgs s i).length by omega, List.take_left]
theorem dgs_of {s : ByteArray} {i : Nat} {l r : List Int} (h : (bl s).drop i = l ++ r) (hl : Dg l) (hr : ∀ x, r.head? = some x → ¬ (48 ≤ x ∧ x ≤ 57)) : dgs s i = l := by
  unfold dgs
  rw [h, List.takeWhile_append_of_pos (fun x hx => by have := hl x hx; unfold isDB; simpa using this)]
  cases r with
  | nil => simp
  | cons y r => rw [List.takeWhile_cons_of_neg (by have := hr y rfl; unfold isDB; simpa using this), List.append_nil]

/-- What Take answers: the number, the index behind it, the error, its place. -/
def tkN (s : ByteArray) (a : Nat) : Int × Int × Int × Int :=
  let neg := a < s.size ∧ byN s a = 45
  let f := if neg then a + 1 else a
  if dgs s f = [] then (0, 0, if f = s.size then 5 else 19, f)
  else if byN s f = 48 ∧ (1 < (dgs s f).length ∨ neg) then (0, 0, 19, a)
  else if neg then (if 9223372036854775808 < valN (dgs s f) then (0, 0, 13, a) else (-(valN (dgs s f) : Int), (f + (dgs s f).length : Nat), 0, 0))
  else (if 9223372036854775807 < valN (dgs s f) then (0, 0, 13, a) else ((valN (dgs s f) : Int), (f + (dgs s f).length : Nat), 0, 0))
def tkS (s : ByteArray) (i : Int) : Int × Int × Int × Int := if i < 0 ∨ (s.size : Int) < i then (0, 0, 1, 0) else tkN s i.toNat
/-- What Parse answers. -/
def paS (s : ByteArray) : Int × Int × Int :=
  let t := tkS s 0
  if t.2.2.1 ≠ 0 then (0, t.2.2) else if t.2.1 < s.size then (0, 19, t.2.1) else (t.1, 0, 0)

/-- A number is read from its text, whatever stands behind that is no digit. -/
theorem take_put (n : Int) (h1 : -9223372036854775808 ≤ n) (h2 : n ≤ 9223372036854775807) (r : ByteArray) (hr : ∀ x, (bl r).head? = some x → ¬ (48 ≤ x ∧ x ≤ 57)) :
    tkS (putS n ++ r) 0 = (n, (((putS n).size : Nat) : Int), 0, 0) := by
  have hbl : bl (putS n ++ r) = putL n ++ bl r := by rw [bl_append, bl_put]
  have hz : (putS n).size = (putL n).length := by rw [← bl_length, bl_put]
  unfold tkS
  rw [if_neg (by omega), show (0 : Int).toNat = 0 from rfl]
  unfold putL at hbl hz
  by_cases hn : n < 0
  · rw [if_pos hn] at hbl hz
    obtain ⟨x, l, e, h0⟩ := dec_cons n.natAbs
    have hv := val_dec n.natAbs
    have hb0 : byN (putS n ++ r) 0 = 45 := by
      have := byN_head (q := putS n ++ r) (i := 0) (c := 45) (l := decL n.natAbs ++ bl r) (by rw [List.drop_zero, hbl]; rfl)
      omega
    have hd : dgs (putS n ++ r) 1 = decL n.natAbs := dgs_of (r := bl r) (by rw [hbl]; rfl) (dec_dg _) hr
    have hb1 : (byN (putS n ++ r) 1 : Int) = x := byN_head (q := putS n ++ r) (i := 1) (c := x) (l := l ++ bl r) (by rw [hbl, e]; rfl)
    have hs0 : 0 < (putS n ++ r).size := by rw [ByteArray.size_append, hz, List.length_cons]; omega
    unfold tkN
    simp only [hs0, hb0, true_and, if_true, Nat.zero_add, hd]
    rw [if_neg (by rw [e]; simp), if_neg, if_neg (by rw [hv]; omega), hv, hz]
    · simp only [List.length_cons, Prod.mk.injEq, and_true]
      constructor
      · omega
      · omega
    · rintro ⟨a, -⟩
      have := (h0 (by omega)).1
      omega
  · rw [if_neg hn] at hbl hz
    obtain ⟨x, l, e, h0⟩ := dec_cons n.toNat
    have hv := val_dec n.toNat
    have hxd := dec_dg n.toNat x (by rw [e]; exact List.mem_cons_self)
    have hb0 : (byN (putS n ++ r) 0 : Int) = x := byN_head (q := putS n ++ r) (i := 0) (c := x) (l := l ++ bl r) (by rw [List.drop_zero, hbl, e]; rfl)
    have hd : dgs (putS n ++ r) 0 = decL n.toNat := dgs_of (r := bl r) (by rw [List.drop_zero, hbl]) (dec_dg _) hr
    have hneg : ¬ byN (putS n ++ r) 0 = 45 := by omega
    unfold tkN
    simp only [hneg, and_false, if_false, Nat.zero_add, hd, or_false]
    rw [if_neg (by rw [e]; simp), if_neg, if_neg (by rw [hv]; omega), hv, hz]
    · simp only [Prod.mk.injEq, and_true]
      omega
    · rintro ⟨a, b⟩
      rw [e, (h0 (by omega)).2] at b
      simp at b
theorem parse_put (n : Int) (h1 : -9223372036854775808 ≤ n) (h2 : n ≤ 9223372036854775807) : paS (putS n) = (n, 0, 0) := by
  have h := take_put n h1 h2 ByteArray.empty (fun x hx => by simp [bl] at hx)
  rw [ByteArray.append_empty] at h
  unfold paS
  simp only [h]
  rw [if_neg (by decide), if_neg (by omega)]
/-- A text that is a number is that number's. -/
theorem put_parse (s : ByteArray) (h : (paS s).2 = (0, 0)) : putS (paS s).1 = s ∧ -9223372036854775808 ≤ (paS s).1 ∧ (paS s).1 ≤ 9223372036854775807 := by
  unfold paS at h ⊢
  simp only at h ⊢
  have ht : tkS s 0 = tkN s 0 := if_neg (by omega)
  rw [ht] at h ⊢
  by_cases h1 : (tkN s 0).2.2.1 ≠ 0
  · rw [if_pos h1] at h
    exact absurd (congrArg Prod.fst h) h1
  rw [if_neg h1] at h ⊢
  by_cases h2 : (tkN s 0).2.1 < s.size
  · rw [if_pos h2] at h; simp at h
  rw [if_neg h2]
  simp only
  have h3 : (tkN s 0).2.2.1 = 0 := by omega
  clear h h1 ht
  unfold tkN at h3 h2 ⊢
  simp only [Nat.zero_add] at h3 h2 ⊢
  by_cases hneg : 0 < s.size ∧ byN s 0 = 45
  · simp only [hneg, and_self, if_true, or_true, and_true] at h3 h2 ⊢
    obtain ⟨hz, h45⟩ := hneg
    have hl := dgs_len (s := s) (i := 1) (by omega)
    obtain ⟨r, hr⟩ := dgs_pre s 1
    have hdg := dgs_dg s 1
    generalize dgs s 1 = l at *
    by_cases hnil : l = []
    · rw [if_pos hnil] at h3; simp only at h3; split at h3 <;> omega
    rw [if_neg hnil] at h3 h2 ⊢
    by_cases h48 : byN s 1 = 48
    · rw [if_pos h48] at h3; simp at h3
    rw [if_neg h48] at h3 h2 ⊢
    by_cases hbig : 9223372036854775808 < valN l
    · rw [if_pos hbig] at h3; simp at h3
    rw [if_neg hbig] at h2 ⊢
    simp only at h2 ⊢
    have hr0 : r = [] := by
      have := congrArg List.length hr
      rw [List.length_drop, bl_length, List.length_append] at this
      exact List.length_eq_zero_iff.1 (by omega)
    rw [hr0, List.append_nil] at hr
    obtain ⟨x, m, rfl⟩ : ∃ x m, l = x :: m := by cases l with | nil => exact absurd rfl hnil | cons x m => exact ⟨x, m, rfl⟩
    have hx := byN_head hr
    have hxd := hdg x List.mem_cons_self
    have hge := val_ge (l := m) hxd (by omega)
    have hp : 1 ≤ 10 ^ m.length := Nat.one_le_pow _ _ (by decide)
    refine ⟨?_, by omega, by omega⟩
    apply bl_ext
    rw [bl_put]
    unfold putL
    rw [if_pos (by omega), show (-(valN (x :: m) : Int)).natAbs = valN (x :: m) by omega, dec_val _ m (Nat.le_refl _) x hdg (fun e => by omega)]
    rw [← List.drop_zero (l := bl s), bl_drop hz, h45, hr]
    rfl
  · simp only [hneg, if_false, or_false] at h3 h2 ⊢
    have hl := dgs_len (s := s) (i := 0) (by omega)
    obtain ⟨r, hr⟩ := dgs_pre s 0
    have hdg := dgs_dg s 0
    generalize dgs s 0 = l at *
    by_cases hnil : l = []
    · rw [if_pos hnil] at h3; simp only at h3; split at h3 <;> omega
    rw [if_neg hnil] at h3 h2 ⊢
    by_cases h48 : byN s 0 = 48 ∧ 1 < l.length
    · rw [if_pos h48] at h3; simp at h3
    rw [if_neg h48] at h3 h2 ⊢
    by_cases hbig : 9223372036854775807 < valN l
    · rw [if_pos hbig] at h3; simp at h3
    rw [if_neg hbig] at h2 ⊢
    simp only at h2 ⊢
    have hr0 : r = [] := by
      have := congrArg List.length hr
      rw [List.length_drop, bl_length, List.length_append] at this
      exact List.length_eq_zero_iff.1 (by omega)
    rw [hr0, List.append_nil] at hr
    obtain ⟨x, m, rfl⟩ : ∃ x m, l = x :: m := by cases l with | nil => exact absurd rfl hnil | cons x m => exact ⟨x, m, rfl⟩
    have hx := byN_head hr
    refine ⟨?_, by omega, by omega⟩
    apply bl_ext
    rw [bl_put]
    unfold putL
    rw [if_neg (by omega), Int.toNat_natCast, dec_val _ m (Nat.le_refl _) x hdg (fun e => ?_), ← hr, List.drop_zero]
    by_cases hm : m = []
    · exact hm
    · exact absurd ⟨by omega, by have := List.length_pos_iff.2 hm; rw [List.length_cons]; omega⟩ h48
end Go.Proofs.YthelhplcijhioaaGreat.Dig

/- The plain mathematics of a number at any index of a string. No Go here. -/
set_option maxRecDepth 100000
set_option linter.unusedVariables false
namespace Go.Proofs.YthelhplcijhioaaGreat.Dig
open Go.Lib Go.Proofs.YthelhplcijhioaaGreat.Utf

theorem putL_len (n : Int) : 0 < (putL n).length := by
  unfold putL
  split
  · simp
  · obtain ⟨x, l, e, -⟩ := dec_cons n.toNat
    rw [e]; simp
/-- A number is read at an index at which its text stands, whatever stands behind that is no digit. -/
theorem take_at {s : ByteArray} {i : Nat} (n : Int) (h1 : -9223372036854775808 ≤ n) (h2 : n ≤ 9223372036854775807) {r : List Int} (h : (bl s).drop i = putL n ++ r) (hr : ∀ x, r.head? = some x → ¬ (48 ≤ x ∧ x ≤ 57)) :
    tkN s i = (n, ((i + (putL n).length : Nat) : Int), 0, 0) := by
  have hz := size_drop h
  have hp := putL_len n
  unfold putL at h hz hp ⊢
  by_cases hn : n < 0
  · rw [if_pos hn] at h hz hp ⊢
    obtain ⟨x, l, e, h0⟩ := dec_cons n.natAbs
    have hv := val_dec n.natAbs
    have hb0 : byN s i = 45 := by
      have := byN_head (q := s) (i := i) (c := 45) (l := decL n.natAbs ++ r) (by rw [h]; rfl)
      omega
    have hdr : (bl s).drop (i + 1) = decL n.natAbs ++ r := by
      have := drop_next (q := s) (i := i) (p := [45]) (l := decL n.natAbs ++ r) (by rw [h]; rfl)
      exact this
    have hd : dgs s (i + 1) = decL n.natAbs := dgs_of (r := r) hdr (dec_dg _) hr
    have hb1 : (byN s (i + 1) : Int) = x := byN_head (q := s) (i := i + 1) (c := x) (l := l ++ r) (by rw [hdr, e]; rfl)
    have hs0 : i < s.size := by omega
    unfold tkN
    simp only [hs0, hb0, true_and, if_true, hd]
    rw [if_neg (by rw [e]; simp), if_neg, if_neg (by rw [hv]; omega), hv]
    · simp only [List.length_cons, Prod.mk.injEq, and_true]
      constructor
      · omega
      · omega
    · rintro ⟨a, -⟩
      have := (h0 (by omega)).1
      omega
  · rw [if_neg hn] at h hz hp ⊢
    obtain ⟨x, l, e, h0⟩ := dec_cons n.toNat
    have hv := val_dec n.toNat
    have hxd := dec_dg n.toNat x (by rw [e]; exact List.mem_cons_self)
    have hb0 : (byN s i : Int) = x := byN_head (q := s) (i := i) (c := x) (l := l ++ r) (by rw [h, e]; rfl)
    have hd : dgs s i = decL n.toNat := dgs_of (r := r) h (dec_dg _) hr
    have hneg : ¬ byN s i = 45 := by omega
    unfold tkN
    simp only [hneg, and_false, if_false, hd, or_false]
    rw [if_neg (by rw [e]; simp), if_neg, if_neg (by rw [hv]; omega), hv]
    · simp only [Prod.mk.injEq, and_true]
      omega
    · rintro ⟨a, b⟩
      rw [e, (h0 (by omega)).2] at b
      simp at b
/-- Where a number is read, its text stands. -/
theorem take_text {s : ByteArray} {i : Nat} (hi : i ≤ s.size) (h : (tkN s i).2.2.1 = 0) : ∃ r, (bl s).drop i = putL (tkN s i).1 ++ r ∧ (tkN s i).2.1 = ((i + (putL (tkN s i).1).length : Nat) : Int) ∧ -9223372036854775808 ≤ (tkN s i).1 ∧ (tkN s i).1 ≤ 9223372036854775807 ∧ i + (putL (tkN s i).1).length ≤ s.size := by
  unfold tkN at h ⊢
  simp only at h ⊢
  by_cases hneg : i < s.size ∧ byN s i = 45
  · simp only [hneg, and_self, if_true, or_true, and_true] at h ⊢
    obtain ⟨hz, h45⟩ := hneg
    have hl := dgs_len (s := s) (i := i + 1) (by omega)
    obtain ⟨r, hr⟩ := dgs_pre s (i + 1)
    have hdg := dgs_dg s (i + 1)
    generalize dgs s (i + 1) = l at *
    by_cases hnil : l = []
    · rw [if_pos hnil] at h; simp only at h; split at h <;> omega
    rw [if_neg hnil] at h ⊢
    by_cases h48 : byN s (i + 1) = 48
    · rw [if_pos h48] at h; simp at h
    rw [if_neg h48] at h ⊢
    by_cases hbig : 9223372036854775808 < valN l
    · rw [if_pos hbig] at h; simp at h
    rw [if_neg hbig] at h ⊢
    simp only
    obtain ⟨x, m, rfl⟩ : ∃ x m, l = x :: m := by cases l with | nil => exact absurd rfl hnil | cons x m => exact ⟨x, m, rfl⟩
    have hx := byN_head (l := m ++ r) hr
    have hxd := hdg x List.mem_cons_self
    have hge := val_ge (l := m) hxd (by omega)
    have hp : 1 ≤ 10 ^ m.length := Nat.one_le_pow _ _ (by decide)
    have e : putL (-(valN (x :: m) : Int)) = 45 :: x :: m := by
      unfold putL
      rw [if_pos (by omega), show (-(valN (x :: m) : Int)).natAbs = valN (x :: m) by omega, dec_val _ m (Nat.le_refl _) x hdg (fun e => by omega)]
    rw [e]
    refine ⟨r, ?_, ?_, by omega, by omega, ?_⟩
    · rw [bl_drop hz, h45, hr]; rfl
    · simp only [List.length_cons] at hl ⊢; omega
    · simp only [List.length_cons] at hl ⊢; omega
  · simp only [hneg, if_false, or_false] at h ⊢
    have hl := dgs_len (s := s) (i := i) (by omega)
    obtain ⟨r, hr⟩ := dgs_pre s i
    have hdg := dgs_dg s i
    generalize dgs s i = l at *
    by_cases hnil : l = []
    · rw [if_pos hnil] at h; simp only at h; split at h <;> omega
    rw [if_neg hnil] at h ⊢
    by_cases h48 : byN s i = 48 ∧ 1 < l.length
    · rw [if_pos h48] at h; simp at h
    rw [if_neg h48] at h ⊢
    by_cases hbig : 9223372036854775807 < valN l
    · rw [if_pos hbig] at h; simp at h
    rw [if_neg hbig] at h ⊢
    simp only
    obtain ⟨x, m, rfl⟩ : ∃ x m, l = x :: m := by cases l with | nil => exact absurd rfl hnil | cons x m => exact ⟨x, m, rfl⟩
    have hx := byN_head (l := m ++ r) hr
    have e : putL (valN (x :: m) : Int) = x :: m := by
      unfold putL
      rw [if_neg (by omega), Int.toNat_natCast, dec_val _ m (Nat.le_refl _) x hdg (fun e => ?_)]
      by_cases hm : m = []
      · exact hm
      · exact absurd ⟨by omega, by have := List.length_pos_iff.2 hm; rw [List.length_cons]; omega⟩ h48
    rw [e]
    exact ⟨r, hr, rfl, by omega, by omega, hl⟩
theorem putL_inj {a b : Int} (ha : -9223372036854775808 ≤ a) (ha2 : a ≤ 9223372036854775807) (hb : -9223372036854775808 ≤ b) (hb2 : b ≤ 9223372036854775807) (h : putL a = putL b) : a = b := by
  have h1 := take_at (s := putS a) (i := 0) (r := []) a ha ha2 (by rw [List.drop_zero, bl_put, List.append_nil]) (by simp)
  have h2 := take_at (s := putS a) (i := 0) (r := []) b hb hb2 (by rw [List.drop_zero, bl_put, List.append_nil, h]) (by simp)
  rw [h1] at h2
  exact congrArg Prod.fst h2
theorem decL_bd : ∀ (j m : Nat), m < 10 ^ (j + 1) → (decL m).length ≤ j + 1
  | 0, m, h => by rw [decL_lt (by simpa using h)]; simp
  | j + 1, m, h => by
    by_cases h10 : m < 10
    · rw [decL_lt h10]; simp
    · have := decL_bd j (m / 10) (by rw [Nat.pow_succ] at h; omega)
      rw [decL_ge h10]; simp; omega
theorem putL_bd {n : Int} (h1 : -9223372036854775808 ≤ n) (h2 : n ≤ 9223372036854775807) : (putL n).length ≤ 20 := by
  unfold putL
  split
  · have := decL_bd 18 n.natAbs (by omega)
    simp; omega
  · have := decL_bd 18 n.toNat (by omega)
    omega
end Go.Proofs.YthelhplcijhioaaGreat.Dig

/- The plain mathematics of layer 9: steps, their text, and the path that stands in a text. No Go here. -/
set_option maxRecDepth 100000
set_option linter.unusedVariables false
namespace Go.Proofs.YthelhplcijhioaaGreat.Pat
open Go.Lib Go.Proofs.YthelhplcijhioaaGreat.Utf Go.Proofs.YthelhplcijhioaaGreat.Nam Go.Proofs.YthelhplcijhioaaGreat.Dig

/-- A step: its kind, its number, its name. -/
abbrev St := Int × Int × ByteArray
def Named (x : St) : Prop := x.1 = 1 ∨ x.1 = 5
instance (x : St) : Decidable (Named x) := by unfold Named; infer_instance
def RightSt (x : St) : Prop := 1 ≤ x.1 ∧ x.1 ≤ 5 ∧ (Named x ↔ x.2.2.size ≠ 0) ∧ (Named x → rightS x.2.2 = true) ∧ (x.1 ≠ 2 → x.2.1 = 0) ∧ 0 ≤ x.2.1
instance (x : St) : Decidable (RightSt x) := by unfold RightSt; infer_instance
def RightP (l : List St) : Prop := l.length ≤ 64 ∧ ∀ x ∈ l, RightSt x
instance (l : List St) : Decidable (RightP l) := by unfold RightP; infer_instance
theorem size0 {a : ByteArray} (h : a.size = 0) : a = ⟨#[]⟩ := by
  have : a.data.size = 0 := h
  exact ByteArray.ext (Array.eq_empty_of_size_eq_zero this)
/-- What steps there are. -/
theorem right_cases {x : St} (h : RightSt x) : (∃ nm, x = (1, 0, nm) ∧ rightS nm = true) ∨ (∃ n, x = (2, n, ⟨#[]⟩) ∧ 0 ≤ n) ∨ x = (3, 0, ⟨#[]⟩) ∨ x = (4, 0, ⟨#[]⟩) ∨ (∃ nm, x = (5, 0, nm) ∧ rightS nm = true) := by
  obtain ⟨k, n, nm⟩ := x
  obtain ⟨h1, h2, h3, h4, h5, h6⟩ := h
  unfold Named at h3 h4
  simp only at h1 h2 h3 h4 h5 h6
  have hk : k = 1 ∨ k = 2 ∨ k = 3 ∨ k = 4 ∨ k = 5 := by omega
  rcases hk with rfl | rfl | rfl | rfl | rfl
  · exact .inl ⟨nm, by rw [h5 (by decide)], h4 (.inl rfl)⟩
  · exact .inr (.inl ⟨n, by rw [size0 (a := nm) (by omega)], h6⟩)
  · exact .inr (.inr (.inl (by rw [h5 (by decide), size0 (a := nm) (by omega)])))
  · exact .inr (.inr (.inr (.inl (by rw [h5 (by decide), size0 (a := nm) (by omega)]))))
  · exact .inr (.inr (.inr (.inr ⟨nm, by rw [h5 (by decide)], h4 (.inr rfl)⟩)))
theorem rightS_pos {nm : ByteArray} (h : rightS nm = true) : 0 < nm.size ∧ nm.size ≤ 32 ∧ sigS nm 0 = nm.size := by unfold rightS at h; simpa using h
theorem right_named {k : Int} {nm : ByteArray} (hk : k = 1 ∨ k = 5) (h : rightS nm = true) : RightSt (k, 0, nm) := by
  have := rightS_pos h
  refine ⟨?_, ?_, ⟨fun _ => ?_, fun _ => hk⟩, fun _ => h, fun _ => rfl, Int.le_refl _⟩
  · simp only; omega
  · simp only; omega
  · simp only; omega
theorem right_item {n : Int} (h : 0 ≤ n) : RightSt (2, n, ⟨#[]⟩) := ⟨by show (1 : Int) ≤ 2; decide, by show (2 : Int) ≤ 5; decide, ⟨fun h => by unfold Named at h; simp at h, fun h => absurd rfl h⟩, fun h => by unfold Named at h; simp at h, fun h => absurd rfl h, h⟩
theorem right_all : RightSt (3, 0, ⟨#[]⟩) := ⟨by decide, by decide, ⟨fun h => by unfold Named at h; simp at h, fun h => absurd rfl h⟩, fun h => by unfold Named at h; simp at h, fun _ => rfl, Int.le_refl _⟩
theorem right_some : RightSt (4, 0, ⟨#[]⟩) := ⟨by decide, by decide, ⟨fun h => by unfold Named at h; simp at h, fun h => absurd rfl h⟩, fun h => by unfold Named at h; simp at h, fun _ => rfl, Int.le_refl _⟩

/-- The text of a step. -/
def txt (x : St) : List Int := if x.1 = 1 then 46 :: bl x.2.2 else if x.1 = 2 then 91 :: (putL x.2.1 ++ [93]) else if x.1 = 3 then [91, 93] else if x.1 = 4 then [63] else if x.1 = 5 then 33 :: bl x.2.2 else []
def fmtL (l : List St) : List Int := l.flatMap txt
theorem fmtL_cons (x : St) (l : List St) : fmtL (x :: l) = txt x ++ fmtL l := rfl
theorem fmtL_append (l m : List St) : fmtL (l ++ m) = fmtL l ++ fmtL m := by unfold fmtL; rw [List.flatMap_append]
def fmtS (l : List St) : ByteArray := if RightP l then strOfNums (fmtL l) else ⟨#[]⟩
theorem txt_range {x : St} : ∀ y ∈ txt x, 0 ≤ y ∧ y < 256 := by
  intro y hy
  unfold txt at hy
  split at hy
  · rcases List.mem_cons.1 hy with rfl | hy
    · decide
    · exact bl_mem hy
  · split at hy
    · rcases List.mem_cons.1 hy with rfl | hy
      · decide
      · rcases List.mem_append.1 hy with hy | hy
        · exact putL_range _ y hy
        · rw [List.mem_singleton] at hy; omega
    · split at hy
      · simp at hy; omega
      · split at hy
        · simp at hy; omega
        · split at hy
          · rcases List.mem_cons.1 hy with rfl | hy
            · decide
            · exact bl_mem hy
          · simp at hy
theorem fmtL_range (l : List St) : ∀ y ∈ fmtL l, 0 ≤ y ∧ y < 256 := fun y hy => by
  obtain ⟨x, -, hx⟩ := List.mem_flatMap.1 hy
  exact txt_range y hx
theorem bl_fmt {l : List St} (h : RightP l) : bl (fmtS l) = fmtL l := by unfold fmtS; rw [if_pos h, bl_strOfNums _ (fmtL_range l)]
theorem txt_head {x : St} (h : RightSt x) : ∃ c t, txt x = c :: t ∧ (c = 46 ∨ c = 91 ∨ c = 63 ∨ c = 33) := by
  rcases right_cases h with ⟨nm, rfl, -⟩ | ⟨n, rfl, -⟩ | rfl | rfl | ⟨nm, rfl, -⟩
  · exact ⟨46, bl nm, rfl, .inl rfl⟩
  · exact ⟨91, _, rfl, .inr (.inl rfl)⟩
  · exact ⟨91, [93], rfl, .inr (.inl rfl)⟩
  · exact ⟨63, [], rfl, .inr (.inr (.inl rfl))⟩
  · exact ⟨33, bl nm, rfl, .inr (.inr (.inr rfl))⟩

/-- A name stands at an index, and nothing that would lengthen it behind. -/
theorem sig_of {s nm : ByteArray} {j : Nat} {r : List Int} (hn : rightS nm = true) (h : (bl s).drop j = bl nm ++ r) (hr : ∀ x, r.head? = some x → ¬ isSign x.toNat) : sigS s j = nm.size := by
  obtain ⟨h0, h1, h2⟩ := rightS_pos hn
  have hz := size_drop h
  rw [bl_length] at hz
  have hsm : isSmall (byN nm 0) ∧ runF nm 0 = nm.size := by
    unfold sigS at h2
    by_cases hc : 0 < nm.size ∧ isSmall (byN nm 0)
    · rw [if_pos hc] at h2; exact ⟨hc.2, h2⟩
    · rw [if_neg hc] at h2; omega
  have e0 : byN s j = byN nm 0 := by
    have := byN_drop (j := 0) h (bl_get nm 0 h0)
    rw [Nat.add_zero] at this
    omega
  unfold sigS
  rw [if_pos ⟨by omega, by rw [e0]; exact hsm.1⟩]
  have hall : ∀ x ∈ bl nm, decide (isSign x.toNat) = true := by
    have h3 := hsm.2
    unfold runF at h3
    rw [List.drop_zero] at h3
    have h4 := List.takeWhile_prefix (l := bl nm) fun x => decide (isSign x.toNat)
    have h5 := h4.eq_of_length (by rw [h3, bl_length])
    intro x hx
    rw [← h5] at hx
    have := List.all_takeWhile (p := fun x : Int => decide (isSign x.toNat)) (l := bl nm)
    rw [List.all_eq_true] at this
    exact this x hx
  unfold runF
  rw [h, List.takeWhile_append_of_pos hall]
  cases r with
  | nil => simp [bl_length]
  | cons y r => rw [List.takeWhile_cons_of_neg (by simpa using hr y rfl), List.append_nil, bl_length]
theorem sig_run {s : ByteArray} {j : Nat} (h : j < s.size) (h2 : isSmall (byN s j)) : sigS s j = runF s j := by unfold sigS; rw [if_pos ⟨h, h2⟩]
theorem sig_zero {s : ByteArray} {j : Nat} (h : s.size ≤ j) : sigS s j = 0 := by unfold sigS; rw [if_neg (by omega)]
theorem sig_le {s : ByteArray} {j : Nat} (h : j ≤ s.size) : j + sigS s j ≤ s.size := by
  rcases Nat.eq_or_lt_of_le h with e | h
  · rw [sig_zero (by omega)]; omega
  · exact sig_len h
/-- The characters of a name, cut out, are a name, if they are not too many. -/
theorem right_cut {s : ByteArray} {j : Nat} (h0 : 0 < sigS s j) (h1 : sigS s j ≤ 32) : rightS (s.extract j (j + sigS s j)) = true ∧ (s.extract j (j + sigS s j)).size = sigS s j := by
  have hj : j < s.size := Nat.lt_of_not_le fun h => by rw [sig_zero h] at h0; omega
  have hl := sig_len hj
  have hz : (s.extract j (j + sigS s j)).size = sigS s j := by rw [ByteArray.size_extract]; omega
  have hc : isSmall (byN s j) ∧ sigS s j = runF s j := by
    by_cases hc : j < s.size ∧ isSmall (byN s j)
    · exact ⟨hc.2, by unfold sigS; rw [if_pos hc]⟩
    · unfold sigS at h0; rw [if_neg hc] at h0; omega
  refine ⟨?_, hz⟩
  unfold rightS
  rw [decide_eq_true_iff, hz]
  refine ⟨h0, h1, ?_⟩
  have e0 : byN (s.extract j (j + sigS s j)) 0 = byN s j := by rw [byN_ext _ _ _ _ (by omega) hl, Nat.add_zero]
  have hb : bl (s.extract j (j + sigS s j)) = ((bl s).drop j).takeWhile fun x => decide (isSign x.toNat) := by
    have h4 := List.takeWhile_prefix (l := (bl s).drop j) fun x => decide (isSign x.toNat)
    obtain ⟨r, h5⟩ := h4
    rw [bl_extract, List.drop_take, show j + sigS s j - j = sigS s j by omega]
    conv => lhs; rw [← h5]
    rw [hc.2]
    exact List.take_left' rfl
  rw [sig_run (by omega) (by rw [e0]; exact hc.1)]
  have hr : runF (s.extract j (j + sigS s j)) 0 = (bl (s.extract j (j + sigS s j))).length := by
    unfold runF
    rw [List.drop_zero, hb]
    congr 1
    have hall := List.all_takeWhile (p := fun x : Int => decide (isSign x.toNat)) (l := (bl s).drop j)
    rw [List.all_eq_true] at hall
    have := List.takeWhile_append_of_pos (l₂ := []) hall
    simpa using this
  rw [hr, bl_length, hz]

/-- The step at an index, the index behind it, the error, its place. -/
def stpS (s : ByteArray) (i : Nat) : St × Int × Int × Int :=
  if byN s i = 46 ∨ byN s i = 33 then
    (if sigS s (i + 1) < 1 ∨ 32 < sigS s (i + 1) then ((0, 0, ⟨#[]⟩), 0, 9, ((i + 1 : Nat) : Int))
      else ((if byN s i = 33 then 5 else 1, 0, s.extract (i + 1) (i + 1 + sigS s (i + 1))), ((i + 1 + sigS s (i + 1) : Nat) : Int), 0, 0))
  else if byN s i = 63 then ((4, 0, ⟨#[]⟩), ((i + 1 : Nat) : Int), 0, 0)
  else if byN s i ≠ 91 then ((0, 0, ⟨#[]⟩), 0, 4, (i : Int))
  else if i + 1 < s.size ∧ byN s (i + 1) = 93 then ((3, 0, ⟨#[]⟩), ((i + 2 : Nat) : Int), 0, 0)
  else if (tkN s (i + 1)).2.2.1 ≠ 0 then ((0, 0, ⟨#[]⟩), 0, (tkN s (i + 1)).2.2.1, (tkN s (i + 1)).2.2.2)
  else if (tkN s (i + 1)).1 < 0 then ((0, 0, ⟨#[]⟩), 0, 20, ((i + 1 : Nat) : Int))
  else if (s.size : Int) ≤ (tkN s (i + 1)).2.1 ∨ byN s (tkN s (i + 1)).2.1.toNat ≠ 93 then ((0, 0, ⟨#[]⟩), 0, 4, (tkN s (i + 1)).2.1)
  else ((2, (tkN s (i + 1)).1, ⟨#[]⟩), (tkN s (i + 1)).2.1 + 1, 0, 0)
/-- What may stand behind a step of a path. -/
def Behind (r : List Int) : Prop := ∀ x, r.head? = some x → x = 46 ∨ x = 91 ∨ x = 63 ∨ x = 33
theorem Behind.sign {r : List Int} (h : Behind r) : ∀ x, r.head? = some x → ¬ isSign x.toNat := fun x hx hs => by
  rcases h x hx with rfl | rfl | rfl | rfl <;> revert hs <;> decide
theorem behind_fmt {l : List St} (h : ∀ x ∈ l, RightSt x) : Behind (fmtL l) := fun x hx => by
  cases l with
  | nil => simp [fmtL] at hx
  | cons y l =>
    obtain ⟨c, t, e, hc⟩ := txt_head (h y List.mem_cons_self)
    rw [fmtL_cons, e] at hx
    simp at hx
    subst hx; exact hc
/-- A step is read at an index at which its text stands. -/
theorem stp_txt {s : ByteArray} {i : Nat} {x : St} {r : List Int} (hx : RightSt x) (hb : x.2.1 ≤ 9223372036854775807) (h : (bl s).drop i = txt x ++ r) (hr : Behind r) : stpS s i = (x, ((i + (txt x).length : Nat) : Int), 0, 0) := by
  have hz := size_drop h
  have nameStep : ∀ (k c : Int) (nm : ByteArray), rightS nm = true → (bl s).drop i = (c :: bl nm) ++ r → sigS s (i + 1) = nm.size ∧ s.extract (i + 1) (i + 1 + nm.size) = nm ∧ (byN s i : Int) = c := by
    intro k c nm hn h
    have hd : (bl s).drop (i + 1) = bl nm ++ r := drop_next (p := [c]) h
    refine ⟨sig_of hn hd hr.sign, ?_, byN_head h⟩
    apply bl_ext
    rw [bl_extract, List.drop_take, hd, show i + 1 + nm.size - (i + 1) = (bl nm).length by rw [bl_length]; omega, List.take_left]
  rcases right_cases hx with ⟨nm, rfl, hn⟩ | ⟨n, rfl, hn⟩ | rfl | rfl | ⟨nm, rfl, hn⟩
  · obtain ⟨e1, e2, e3⟩ := nameStep 1 46 nm hn h
    have e4 : byN s i = 46 := by omega
    have := rightS_pos hn
    unfold stpS
    rw [if_pos (.inl e4), e1, if_neg (by omega), e2, e4, if_neg (by decide)]
    simp [txt, bl_length]
    omega
  · have h' : (bl s).drop i = 91 :: (putL n ++ ([93] ++ r)) := by rw [h]; simp [txt]
    have e3 : byN s i = 91 := by have := byN_head h'; omega
    have hd : (bl s).drop (i + 1) = putL n ++ ([93] ++ r) := drop_next (p := [91]) h'
    have ht := take_at n (by omega) hb hd (fun x hx => by simp at hx; omega)
    have hp := putL_len n
    have hd2 : (bl s).drop (i + 1 + (putL n).length) = 93 :: r := drop_next hd
    have e5 := byN_head hd2
    have hz2 : i + 1 + (putL n).length < s.size := by
      have := congrArg List.length hd2
      rw [List.length_drop, bl_length, List.length_cons] at this
      omega
    have e6 : ¬ (i + 1 < s.size ∧ byN s (i + 1) = 93) := by
      rintro ⟨-, h6⟩
      obtain ⟨c, t, e7⟩ : ∃ c t, putL n = c :: t := by cases e : putL n with | nil => rw [e] at hp; simp at hp | cons c t => exact ⟨c, t, rfl⟩
      have h8 := byN_head (by rw [hd, e7]; rfl : (bl s).drop (i + 1) = c :: (t ++ ([93] ++ r)))
      unfold putL at e7
      rw [if_neg (by omega)] at e7
      have := dec_dg n.toNat c (by rw [e7]; exact List.mem_cons_self)
      omega
    unfold stpS
    rw [if_neg (by omega), if_neg (by omega), if_neg (by omega), if_neg e6, ht]
    simp only
    rw [if_neg (by simp), if_neg (by omega), if_neg (by
      intro q
      rcases q with q | q
      · omega
      · rw [Int.toNat_natCast] at q; omega)]
    simp [txt]
    omega
  · have e3 : byN s i = 91 := by have := byN_head (c := 91) (l := [93] ++ r) h; omega
    have hd : (bl s).drop (i + 1) = 93 :: r := drop_next (p := [91]) (l := 93 :: r) h
    have e4 : byN s (i + 1) = 93 := by have := byN_head hd; omega
    have hz2 : i + 1 < s.size := by
      have := congrArg List.length hd
      rw [List.length_drop, bl_length, List.length_cons] at this
      omega
    unfold stpS
    rw [if_neg (by omega), if_neg (by omega), if_neg (by omega), if_pos ⟨hz2, e4⟩]
    rfl
  · have e3 : byN s i = 63 := by have := byN_head (c := 63) (l := r) h; omega
    unfold stpS
    rw [if_neg (by omega), if_pos e3]
    rfl
  · obtain ⟨e1, e2, e3⟩ := nameStep 5 33 nm hn h
    have e4 : byN s i = 33 := by omega
    have := rightS_pos hn
    unfold stpS
    rw [if_pos (.inr e4), e1, if_neg (by omega), e2, e4, if_pos rfl]
    simp [txt, bl_length]
    omega
/-- Where a step is read, its text stands. -/
theorem stp_ok {s : ByteArray} {i : Nat} (hi : i < s.size) (h : (stpS s i).2.2.1 = 0) : RightSt (stpS s i).1 ∧ (stpS s i).1.2.1 ≤ 9223372036854775807 ∧ (stpS s i).2.1 = ((i + (txt (stpS s i).1).length : Nat) : Int) ∧ i + (txt (stpS s i).1).length ≤ s.size ∧ 0 < (txt (stpS s i).1).length ∧
    ((bl s).drop i = txt (stpS s i).1 ++ (bl s).drop (i + (txt (stpS s i).1).length)) ∧ (stpS s i).2.2.2 = 0 := by
  have fin : ∀ {x : St} {r : List Int}, RightSt x → (bl s).drop i = txt x ++ r → i + (txt x).length ≤ s.size ∧ 0 < (txt x).length ∧ (bl s).drop i = txt x ++ (bl s).drop (i + (txt x).length) := by
    intro x r hx e
    have := size_drop e
    obtain ⟨c, t, e2, -⟩ := txt_head hx
    refine ⟨by omega, by rw [e2]; simp, ?_⟩
    rw [← List.drop_drop, e, List.drop_left]
  unfold stpS at h ⊢
  by_cases c1 : byN s i = 46 ∨ byN s i = 33
  · rw [if_pos c1] at h ⊢
    by_cases c2 : sigS s (i + 1) < 1 ∨ 32 < sigS s (i + 1)
    · rw [if_pos c2] at h; simp at h
    rw [if_neg c2] at ⊢
    obtain ⟨h1, h2⟩ := right_cut (s := s) (j := i + 1) (by omega) (by omega)
    have hl := sig_le (s := s) (j := i + 1) (by omega)
    simp only
    have hb : (bl s).drop i = (byN s i : Int) :: (bl (s.extract (i + 1) (i + 1 + sigS s (i + 1))) ++ (bl s).drop (i + 1 + sigS s (i + 1))) := by
      rw [bl_drop hi]
      congr 1
      rw [bl_extract, List.drop_take, show i + 1 + sigS s (i + 1) - (i + 1) = sigS s (i + 1) by omega]
      exact (List.take_append_drop (sigS s (i + 1)) _).symm.trans (by rw [List.drop_drop])
    by_cases c3 : byN s i = 33
    · rw [if_pos c3]
      have hx := right_named (k := 5) (.inr rfl) h1
      have ht : txt (5, 0, s.extract (i + 1) (i + 1 + sigS s (i + 1))) = 33 :: bl (s.extract (i + 1) (i + 1 + sigS s (i + 1))) := rfl
      have e : (bl s).drop i = txt (5, 0, s.extract (i + 1) (i + 1 + sigS s (i + 1))) ++ (bl s).drop (i + 1 + sigS s (i + 1)) := by rw [hb, ht, c3]; rfl
      refine ⟨hx, by decide, ?_, (fin hx e).1, (fin hx e).2.1, (fin hx e).2.2, by first | rfl | trivial⟩
      rw [ht, List.length_cons, bl_length, h2]; omega
    · rw [if_neg c3]
      have c4 : byN s i = 46 := c1.resolve_right c3
      have hx := right_named (k := 1) (.inl rfl) h1
      have ht : txt (1, 0, s.extract (i + 1) (i + 1 + sigS s (i + 1))) = 46 :: bl (s.extract (i + 1) (i + 1 + sigS s (i + 1))) := rfl
      have e : (bl s).drop i = txt (1, 0, s.extract (i + 1) (i + 1 + sigS s (i + 1))) ++ (bl s).drop (i + 1 + sigS s (i + 1)) := by rw [hb, ht, c4]; rfl
      refine ⟨hx, by decide, ?_, (fin hx e).1, (fin hx e).2.1, (fin hx e).2.2, by first | rfl | trivial⟩
      rw [ht, List.length_cons, bl_length, h2]; omega
  · rw [if_neg c1] at h ⊢
    by_cases c2 : byN s i = 63
    · rw [if_pos c2]
      have e : (bl s).drop i = txt (4, 0, ⟨#[]⟩) ++ (bl s).drop (i + 1) := by rw [bl_drop hi, c2]; rfl
      exact ⟨right_some, by show (0 : Int) ≤ 9223372036854775807; decide, rfl, (fin right_some e).1, (fin right_some e).2.1, (fin right_some e).2.2, rfl⟩
    · rw [if_neg c2] at h ⊢
      by_cases c3 : byN s i ≠ 91
      · rw [if_pos c3] at h; simp at h
      rw [if_neg c3] at h ⊢
      have c3' : byN s i = 91 := Decidable.not_not.1 c3
      by_cases c4 : i + 1 < s.size ∧ byN s (i + 1) = 93
      · rw [if_pos c4]
        have e : (bl s).drop i = txt (3, 0, ⟨#[]⟩) ++ (bl s).drop (i + 1 + 1) := by rw [bl_drop hi, bl_drop c4.1, c3', c4.2]; rfl
        exact ⟨right_all, by show (0 : Int) ≤ 9223372036854775807; decide, rfl, (fin right_all e).1, (fin right_all e).2.1, (fin right_all e).2.2, rfl⟩
      rw [if_neg c4] at h ⊢
      by_cases c5 : (tkN s (i + 1)).2.2.1 ≠ 0
      · rw [if_pos c5] at h; exact absurd h c5
      rw [if_neg c5] at h ⊢
      obtain ⟨r, e1, e2, e3, e4, e5⟩ := take_text (s := s) (i := i + 1) (by omega) (Decidable.not_not.1 c5)
      by_cases c6 : (tkN s (i + 1)).1 < 0
      · rw [if_pos c6] at h; simp at h
      rw [if_neg c6] at h ⊢
      by_cases c7 : (s.size : Int) ≤ (tkN s (i + 1)).2.1 ∨ byN s (tkN s (i + 1)).2.1.toNat ≠ 93
      · rw [if_pos c7] at h; simp at h
      rw [if_neg c7]
      have c8 : ¬ (s.size : Int) ≤ (tkN s (i + 1)).2.1 := fun q => c7 (.inl q)
      have c9 : byN s (tkN s (i + 1)).2.1.toNat = 93 := Decidable.not_not.1 fun q => c7 (.inr q)
      simp only
      rw [e2, Int.toNat_natCast] at c9
      have hx := right_item (n := (tkN s (i + 1)).1) (by omega)
      have hr : r = (bl s).drop (i + 1 + (putL (tkN s (i + 1)).1).length) := (drop_next e1).symm
      have e : (bl s).drop i = txt (2, (tkN s (i + 1)).1, ⟨#[]⟩) ++ (bl s).drop (i + 1 + (putL (tkN s (i + 1)).1).length + 1) := by
        rw [bl_drop hi, c3', e1, hr, bl_drop (by omega), c9]
        simp [txt]
      refine ⟨hx, e4, ?_, (fin hx e).1, (fin hx e).2.1, (fin hx e).2.2, trivial⟩
      rw [e2]
      simp [txt]
      omega

/-- The path from an index on. -/
def parF (s : ByteArray) : Nat → Nat → List St → List St × Int × Int
  | 0, i, acc => (acc, 0, 0)
  | f + 1, i, acc => if i < s.size then (if 63 < acc.length then ([], 8, (i : Int)) else if (stpS s i).2.2.1 ≠ 0 then ([], (stpS s i).2.2.1, (stpS s i).2.2.2) else parF s f (stpS s i).2.1.toNat (acc ++ [(stpS s i).1])) else (acc, 0, 0)
def parS (s : ByteArray) : List St × Int × Int := parF s (s.size + 1) 0 []
theorem parF_end {s : ByteArray} {f i : Nat} {acc : List St} (h : s.size ≤ i) : parF s f i acc = (acc, 0, 0) := by
  cases f with
  | zero => rfl
  | succ f => rw [parF, if_neg (by omega)]
theorem parF_many {s : ByteArray} {f i : Nat} {acc : List St} (h : i < s.size) (hf : s.size < f + i) (ha : 63 < acc.length) : parF s f i acc = ([], 8, (i : Int)) := by
  cases f with
  | zero => omega
  | succ f => rw [parF, if_pos h, if_pos ha]
theorem parF_bad {s : ByteArray} {f i : Nat} {acc : List St} (h : i < s.size) (hf : s.size < f + i) (ha : ¬ 63 < acc.length) (hb : (stpS s i).2.2.1 ≠ 0) : parF s f i acc = ([], (stpS s i).2.2.1, (stpS s i).2.2.2) := by
  cases f with
  | zero => omega
  | succ f => rw [parF, if_pos h, if_neg ha, if_pos hb]
theorem parF_fuel {s : ByteArray} : ∀ {f g i : Nat} {acc : List St}, s.size < f + i → s.size < g + i → parF s f i acc = parF s g i acc
  | 0, g, i, acc, hf, hg => by rw [parF_end (by omega), parF_end (by omega)]
  | f + 1, 0, i, acc, hf, hg => by rw [parF_end (by omega), parF_end (by omega)]
  | f + 1, g + 1, i, acc, hf, hg => by
    rw [parF, parF]
    by_cases h : i < s.size
    · rw [if_pos h, if_pos h]
      by_cases h1 : 63 < acc.length
      · rw [if_pos h1, if_pos h1]
      · rw [if_neg h1, if_neg h1]
        by_cases h2 : (stpS s i).2.2.1 ≠ 0
        · rw [if_pos h2, if_pos h2]
        · rw [if_neg h2, if_neg h2]
          obtain ⟨-, -, e, -, h3, -⟩ := stp_ok h (Decidable.not_not.1 h2)
          exact parF_fuel (by rw [e]; omega) (by rw [e]; omega)
    · rw [if_neg h, if_neg h]
theorem parF_step {s : ByteArray} {f i : Nat} {acc : List St} (h : i < s.size) (hf : s.size < f + i) (ha : ¬ 63 < acc.length) (hb : (stpS s i).2.2.1 = 0) : parF s f i acc = parF s f (stpS s i).2.1.toNat (acc ++ [(stpS s i).1]) := by
  obtain ⟨-, -, e, -, h3, -⟩ := stp_ok h hb
  cases f with
  | zero => omega
  | succ f =>
    rw [parF, if_pos h, if_neg ha, if_neg (by omega)]
    exact parF_fuel (by rw [e]; omega) (by rw [e]; omega)
theorem par_text {s : ByteArray} {f : Nat} : ∀ (m : List St) {i : Nat} {acc : List St}, s.size < f + i → (bl s).drop i = fmtL m → (∀ x ∈ m, RightSt x ∧ x.2.1 ≤ 9223372036854775807) → acc.length + m.length ≤ 64 → parF s f i acc = (acc ++ m, 0, 0)
  | [], i, acc, hf, h, hm, hl => by
    have : s.size ≤ i := by
      have := congrArg List.length h
      rw [List.length_drop, bl_length] at this
      simp [fmtL] at this; omega
    rw [parF_end this, List.append_nil]
  | x :: m, i, acc, hf, h, hm, hl => by
    obtain ⟨hx, hb⟩ := hm x List.mem_cons_self
    rw [fmtL_cons] at h
    have e := stp_txt hx hb h (behind_fmt fun y hy => (hm y (List.mem_cons_of_mem _ hy)).1)
    obtain ⟨c, t, e2, -⟩ := txt_head hx
    have hz := size_drop h
    have hp : 0 < (txt x).length := by rw [e2]; simp
    simp only [List.length_cons] at hl
    rw [parF_step (by omega) hf (by omega) (by rw [e]), e]
    simp only
    rw [Int.toNat_natCast, par_text m (by omega) (drop_next h) (fun y hy => hm y (List.mem_cons_of_mem _ hy)) (by simp; omega)]
    simp
/-- A path is recovered from its text. -/
theorem par_fmt {l : List St} (h : RightP l) (hb : ∀ x ∈ l, x.2.1 ≤ 9223372036854775807) : parS (fmtS l) = (l, 0, 0) := by
  unfold parS
  rw [par_text l (by omega) (by rw [List.drop_zero, bl_fmt h]) (fun x hx => ⟨h.2 x hx, hb x hx⟩) (by simpa using h.1)]
  rfl
theorem par_back {s : ByteArray} : ∀ (f : Nat) {i : Nat} {acc l : List St}, s.size < f + i → i ≤ s.size → acc.length ≤ 64 → parF s f i acc = (l, 0, 0) → ∃ m, l = acc ++ m ∧ (bl s).drop i = fmtL m ∧ (∀ x ∈ m, RightSt x ∧ x.2.1 ≤ 9223372036854775807) ∧ l.length ≤ 64
  | 0, i, acc, l, hf, hi, ha, h => by omega
  | f + 1, i, acc, l, hf, hi, ha, h => by
    by_cases hlt : i < s.size
    · by_cases h1 : 63 < acc.length
      · rw [parF_many hlt hf h1] at h; simp at h
      · by_cases h2 : (stpS s i).2.2.1 ≠ 0
        · rw [parF_bad hlt hf h1 h2] at h
          exact absurd (congrArg (fun q => q.2.1) h) h2
        · rw [parF, if_pos hlt, if_neg h1, if_neg h2] at h
          obtain ⟨q1, q2, q3, q4, q5, q6, -⟩ := stp_ok hlt (Decidable.not_not.1 h2)
          rw [q3, Int.toNat_natCast] at h
          obtain ⟨m, e1, e2, e3, e4⟩ := par_back f (by omega) (by omega) (by simp; omega) h
          refine ⟨(stpS s i).1 :: m, by rw [e1]; simp, by rw [q6, e2, fmtL_cons], fun x hx => ?_, e4⟩
          rcases List.mem_cons.1 hx with rfl | hx
          · exact ⟨q1, q2⟩
          · exact e3 x hx
    · rw [parF_end (by omega)] at h
      simp only [Prod.mk.injEq, and_true] at h
      subst h
      exact ⟨[], by simp, by rw [List.drop_eq_nil_of_le (by rw [bl_length]; omega)]; rfl, by simp, ha⟩
/-- A text that is a path's is that path's. -/
theorem fmt_par {s : ByteArray} {l : List St} (h : parS s = (l, 0, 0)) : RightP l ∧ fmtS l = s ∧ ∀ x ∈ l, x.2.1 ≤ 9223372036854775807 := by
  obtain ⟨m, e1, e2, e3, e4⟩ := par_back _ (by omega) (Nat.zero_le _) (by simp) h
  rw [List.nil_append] at e1
  subst e1
  have hr : RightP l := ⟨e4, fun x hx => (e3 x hx).1⟩
  refine ⟨hr, ?_, fun x hx => (e3 x hx).2⟩
  apply bl_ext
  rw [bl_fmt hr, ← e2, List.drop_zero]
theorem par_len {s : ByteArray} : ∀ (f : Nat) {i : Nat} {acc : List St}, acc.length ≤ 64 → (parF s f i acc).1.length ≤ 64
  | 0, i, acc, ha => ha
  | f + 1, i, acc, ha => by
    rw [parF]
    split
    · split
      · simp
      · split
        · simp
        · exact par_len f (by simp; omega)
    · exact ha
end Go.Proofs.YthelhplcijhioaaGreat.Pat
