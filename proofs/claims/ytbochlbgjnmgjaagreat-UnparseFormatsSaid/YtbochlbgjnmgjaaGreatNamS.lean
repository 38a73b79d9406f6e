/- The plain mathematics of layer 8: the order of strings, the least place of a string in a list, the first that stands twice, the distinct strings in increasing order. No Go here. -/
import Derived.Test.YtbochlbgjnmgjaaGreatBytS
import GoSem.Op.String
set_option maxRecDepth 100000
set_option linter.unusedVariables false
namespace Go.Proofs.YtbochlbgjnmgjaaGreat.Nam
open Go.Lib Go.Proofs.YtbochlbgjnmgjaaGreat.Utf

/- The order of bytes. -/
theorem less_irr : ∀ (a : List UInt8), Go.Op.bytesLess a a = false
  | [] => rfl
  | a :: x => by
    simp only [Go.Op.bytesLess, less_irr x, Bool.and_false, Bool.or_false]
    exact decide_eq_false (UInt8.lt_irrefl a)
theorem less_cons (a b : UInt8) (x y : List UInt8) : Go.Op.bytesLess (a :: x) (b :: y) = true ↔ a.toNat < b.toNat ∨ (a = b ∧ Go.Op.bytesLess x y = true) := by
  simp only [Go.Op.bytesLess, Bool.or_eq_true, decide_eq_true_eq, Bool.and_eq_true, beq_iff_eq, UInt8.lt_iff_toNat_lt]
theorem less_trans : ∀ {a b c : List UInt8}, Go.Op.bytesLess a b = true → Go.Op.bytesLess b c = true → Go.Op.bytesLess a c = true
  | _, [], _, h, _ => by simp [Go.Op.bytesLess] at h
  | _, _ :: _, [], _, h => by simp [Go.Op.bytesLess] at h
  | [], _ :: _, _ :: _, _, _ => rfl
  | a :: x, b :: y, c :: z, h1, h2 => by
    rw [less_cons] at h1 h2 ⊢
    rcases h1 with h1 | ⟨rfl, h1⟩
    · rcases h2 with h2 | ⟨rfl, h2⟩
      · exact .inl (by omega)
      · exact .inl h1
    · rcases h2 with h2 | ⟨rfl, h2⟩
      · exact .inl h2
      · exact .inr ⟨rfl, less_trans h1 h2⟩
theorem less_tri : ∀ {a b : List UInt8}, Go.Op.bytesLess a b = false → Go.Op.bytesLess b a = false → a = b
  | [], [], _, _ => rfl
  | [], _ :: _, h, _ => by simp [Go.Op.bytesLess] at h
  | _ :: _, [], _, h => by simp [Go.Op.bytesLess] at h
  | a :: x, b :: y, h1, h2 => by
    have g1 := mt (less_cons a b x y).2 (by rw [h1]; decide)
    have g2 := mt (less_cons b a y x).2 (by rw [h2]; decide)
    have e : a = b := UInt8.toNat_inj.1 (by omega)
    subst e
    have q1 : Go.Op.bytesLess x y = false := by
      cases h : Go.Op.bytesLess x y
      · rfl
      · exact absurd (.inr ⟨rfl, h⟩) g1
    have q2 : Go.Op.bytesLess y x = false := by
      cases h : Go.Op.bytesLess y x
      · rfl
      · exact absurd (.inr ⟨rfl, h⟩) g2
    rw [less_tri q1 q2]
/-- A string is less than another. -/
def lt (a b : ByteArray) : Bool := Go.Op.bytesLess a.toList b.toList
theorem lt_irr (a : ByteArray) : lt a a = false := less_irr _
theorem lt_trans {a b c : ByteArray} (h : lt a b = true) (k : lt b c = true) : lt a c = true := less_trans h k
theorem str_ext {a b : ByteArray} (h : a.toList = b.toList) : a = b := by
  rw [ba_toList, ba_toList] at h
  exact ByteArray.ext (Array.ext' h)
theorem lt_tri {a b : ByteArray} (h : lt a b = false) (k : lt b a = false) : a = b := str_ext (less_tri h k)
theorem lt_asymm {a b : ByteArray} (h : lt a b = true) : lt b a = false := by
  cases k : lt b a
  · rfl
  · exact absurd (lt_trans h k) (by rw [lt_irr]; decide)
theorem lt_ne {a b : ByteArray} (h : lt a b = true) : a ≠ b := fun e => by subst e; rw [lt_irr] at h; cases h
theorem seq_iff (a b : ByteArray) : (a.toList == b.toList) = decide (a = b) := by
  rw [Bool.eq_iff_iff, beq_iff_eq, decide_eq_true_iff]
  exact ⟨str_ext, fun h => by rw [h]⟩

/-- The least place of a string, -1 if it has none. -/
def findF (s : ByteArray) : List ByteArray → Nat → Int
  | [], _ => -1
  | x :: l, i => if x = s then i else findF s l (i + 1)
def findS (l : List ByteArray) (s : ByteArray) : Int := findF s l 0
theorem findF_cases (s : ByteArray) : ∀ (l : List ByteArray) (i : Nat), (findF s l i = -1 ∧ s ∉ l) ∨ ∃ k, k < l.length ∧ l[k]? = some s ∧ (∀ j, j < k → l[j]? ≠ some s) ∧ findF s l i = (i + k : Nat)
  | [], i => .inl ⟨rfl, by simp⟩
  | x :: l, i => by
    by_cases h : x = s
    · exact .inr ⟨0, by simp, by simp [h], fun j hj => by omega, by rw [findF, if_pos h]; simp⟩
    · rcases findF_cases s l (i + 1) with ⟨h1, h2⟩ | ⟨k, h1, h2, h3, h4⟩
      · exact .inl ⟨by rw [findF, if_neg h, h1], by rw [List.mem_cons]; exact fun q => q.elim (fun e => h e.symm) h2⟩
      · refine .inr ⟨k + 1, by simp; omega, by simpa using h2, fun j hj => ?_, by rw [findF, if_neg h, h4]; congr 1; omega⟩
        cases j with
        | zero => simpa using h
        | succ j => simpa using h3 j (by omega)
theorem find_cases (l : List ByteArray) (s : ByteArray) : (findS l s = -1 ∧ s ∉ l) ∨ ∃ k : Nat, k < l.length ∧ l[k]? = some s ∧ (∀ j, j < k → l[j]? ≠ some s) ∧ findS l s = k := by
  rcases findF_cases s l 0 with h | ⟨k, h1, h2, h3, h4⟩
  · exact .inl h
  · exact .inr ⟨k, h1, h2, h3, by rw [findS, h4]; simp⟩
/-- What the least place is. -/
theorem find_is {l : List ByteArray} {s : ByteArray} {k : Nat} (h : l[k]? = some s) (h2 : ∀ j, j < k → l[j]? ≠ some s) : findS l s = k := by
  rcases find_cases l s with ⟨_, h1⟩ | ⟨m, _, h3, h4, h5⟩
  · exact absurd (List.mem_of_getElem? h) h1
  · rcases Nat.lt_trichotomy k m with q | q | q
    · exact absurd h (h4 k q)
    · rw [h5, q]
    · exact absurd h3 (h2 m q)
theorem find_none {l : List ByteArray} {s : ByteArray} (h : s ∉ l) : findS l s = -1 := by
  rcases find_cases l s with h1 | ⟨m, _, h3, _⟩
  · exact h1.1
  · exact absurd (List.mem_of_getElem? h3) h

noncomputable instance memDec (x : ByteArray) (l : List ByteArray) : Decidable (x ∈ l) := Classical.propDecidable _
/-- The least place of an element that stands ahead of it too; -1 if there is none. -/
noncomputable def twiF (l : List ByteArray) : Nat → Nat → Int
  | 0, _ => -1
  | k + 1, i => if l.getD i ByteArray.empty ∈ l.take i then i else twiF l k (i + 1)
noncomputable def twiS (l : List ByteArray) : Int := twiF l l.length 0
theorem twiF_cases (l : List ByteArray) : ∀ (k i : Nat), (twiF l k i = -1 ∧ ∀ j, i ≤ j → j < i + k → l.getD j ByteArray.empty ∉ l.take j) ∨
    ∃ m, i ≤ m ∧ m < i + k ∧ l.getD m ByteArray.empty ∈ l.take m ∧ (∀ j, i ≤ j → j < m → l.getD j ByteArray.empty ∉ l.take j) ∧ twiF l k i = m
  | 0, i => .inl ⟨rfl, fun j h1 h2 => by omega⟩
  | k + 1, i => by
    by_cases h : l.getD i ByteArray.empty ∈ l.take i
    · exact .inr ⟨i, Nat.le_refl _, by omega, h, fun j h1 h2 => by omega, by rw [twiF, if_pos h]⟩
    · rcases twiF_cases l k (i + 1) with ⟨h1, h2⟩ | ⟨m, h1, h2, h3, h4, h5⟩
      · refine .inl ⟨by rw [twiF, if_neg h, h1], fun j q1 q2 => ?_⟩
        rcases Nat.eq_or_lt_of_le q1 with e | q3
        · subst e; exact h
        · exact h2 j q3 (by omega)
      · refine .inr ⟨m, by omega, by omega, h3, fun j q1 q2 => ?_, by rw [twiF, if_neg h, h5]⟩
        rcases Nat.eq_or_lt_of_le q1 with e | q3
        · subst e; exact h
        · exact h4 j q3 q2
/-- What the first that stands twice is. -/
theorem twi_is {l : List ByteArray} {m : Nat} (hm : m < l.length) (h : l.getD m ByteArray.empty ∈ l.take m) (h2 : ∀ j, j < m → l.getD j ByteArray.empty ∉ l.take j) : twiS l = m := by
  rcases twiF_cases l l.length 0 with ⟨_, h1⟩ | ⟨k, _, h3, h4, h5, h6⟩
  · exact absurd h (h1 m (by omega) (by omega))
  · rw [twiS, h6]
    rcases Nat.lt_trichotomy k m with q | q | q
    · exact absurd h4 (h2 k q)
    · rw [q]
    · exact absurd h (h5 m (by omega) q)
theorem twi_none {l : List ByteArray} (h : ∀ j, j < l.length → l.getD j ByteArray.empty ∉ l.take j) : twiS l = -1 := by
  rcases twiF_cases l l.length 0 with h1 | ⟨k, _, h3, h4, _⟩
  · exact h1.1
  · exact absurd h4 (h k (by omega))
theorem twi_cases (l : List ByteArray) : (twiS l = -1 ∧ ∀ j, j < l.length → l.getD j ByteArray.empty ∉ l.take j) ∨
    ∃ m : Nat, m < l.length ∧ l.getD m ByteArray.empty ∈ l.take m ∧ (∀ j, j < m → l.getD j ByteArray.empty ∉ l.take j) ∧ twiS l = m := by
  rcases twiF_cases l l.length 0 with ⟨h1, h2⟩ | ⟨k, _, h3, h4, h5, h6⟩
  · exact .inl ⟨h1, fun j hj => h2 j (by omega) (by omega)⟩
  · exact .inr ⟨k, by omega, h4, fun j hj => h5 j (by omega) hj, h6⟩

/-- Strictly increasing. -/
def Inc (l : List ByteArray) : Prop := l.Pairwise fun a b => lt a b = true
theorem Inc.nodup {l : List ByteArray} (h : Inc l) : l.Nodup := h.imp fun h => lt_ne h
/-- Increasing lists with the same elements are the same. -/
theorem inc_unique : ∀ {a b : List ByteArray}, Inc a → Inc b → (∀ x, x ∈ a ↔ x ∈ b) → a = b
  | [], [], _, _, _ => rfl
  | [], y :: b, _, _, h => absurd ((h y).2 List.mem_cons_self) (by simp)
  | x :: a, [], _, _, h => absurd ((h x).1 List.mem_cons_self) (by simp)
  | x :: a, y :: b, ha, hb, h => by
    have ha' := List.pairwise_cons.1 ha
    have hb' := List.pairwise_cons.1 hb
    have e : x = y := by
      rcases List.mem_cons.1 ((h x).1 List.mem_cons_self) with e | hx
      · exact e
      · rcases List.mem_cons.1 ((h y).2 List.mem_cons_self) with e | hy
        · exact e.symm
        · have h1 := hb'.1 x hx
          have h2 := ha'.1 y hy
          rw [lt_asymm h1] at h2
          cases h2
    subst e
    rw [inc_unique ha'.2 hb'.2 fun z => ⟨fun hz => ?_, fun hz => ?_⟩]
    · rcases List.mem_cons.1 ((h z).1 (List.mem_cons_of_mem _ hz)) with e | q
      · subst e; exact absurd (ha'.1 z hz) (by rw [lt_irr]; decide)
      · exact q
    · rcases List.mem_cons.1 ((h z).2 (List.mem_cons_of_mem _ hz)) with e | q
      · subst e; exact absurd (hb'.1 z hz) (by rw [lt_irr]; decide)
      · exact q

/-- A string put where it belongs. -/
def insS (s : ByteArray) : List ByteArray → List ByteArray
  | [] => [s]
  | x :: l => if lt s x = true then s :: x :: l else if s = x then x :: l else x :: insS s l
theorem ins_mem (s : ByteArray) : ∀ (l : List ByteArray) (x : ByteArray), x ∈ insS s l ↔ x = s ∨ x ∈ l
  | [], x => by simp [insS]
  | y :: l, x => by
    rw [insS]
    split
    · simp
    · split
      · next h => subst h; simp
      · simp only [List.mem_cons, ins_mem s l x]
        constructor <;> (intro h; rcases h with h | h | h <;> simp [h])
theorem ins_inc (s : ByteArray) : ∀ {l : List ByteArray}, Inc l → Inc (insS s l)
  | [], _ => List.pairwise_singleton _ _
  | y :: l, h => by
    have h' := List.pairwise_cons.1 h
    rw [insS]
    split
    · next q =>
      refine List.pairwise_cons.2 ⟨fun z hz => ?_, h⟩
      rcases List.mem_cons.1 hz with e | hz
      · subst e; exact q
      · exact lt_trans q (h'.1 z hz)
    · next q =>
      split
      · exact h
      · next q2 =>
        refine List.pairwise_cons.2 ⟨fun z hz => ?_, ins_inc s h'.2⟩
        rcases (ins_mem s l z).1 hz with e | hz
        · subst e
          cases k : lt y z
          · exact absurd (lt_tri (by simpa using q) k) q2
          · rfl
        · exact h'.1 z hz
theorem ins_len (s : ByteArray) : ∀ (l : List ByteArray), (insS s l).length ≤ l.length + 1
  | [] => by simp [insS]
  | y :: l => by
    have := ins_len s l
    rw [insS]
    split
    · simp
    · split <;> simp <;> omega
/-- The distinct strings of a list, in increasing order. -/
def sortS (l : List ByteArray) : List ByteArray := l.foldr insS []
theorem sort_inc : ∀ (l : List ByteArray), Inc (sortS l)
  | [] => List.Pairwise.nil
  | x :: l => ins_inc x (sort_inc l)
theorem sort_mem : ∀ (l : List ByteArray) (x : ByteArray), x ∈ sortS l ↔ x ∈ l
  | [], x => by simp [sortS]
  | y :: l, x => by
    rw [show sortS (y :: l) = insS y (sortS l) from rfl, ins_mem, sort_mem l x, List.mem_cons]
theorem sort_is {l m : List ByteArray} (h : Inc m) (hm : ∀ x, x ∈ m ↔ x ∈ l) : m = sortS l := inc_unique h (sort_inc l) fun x => by rw [hm, sort_mem]
theorem sort_len : ∀ (l : List ByteArray), (sortS l).length ≤ l.length
  | [] => Nat.le_refl _
  | x :: l => by
    have h1 := ins_len x (sortS l)
    have h2 := sort_len l
    rw [show sortS (x :: l) = insS x (sortS l) from rfl, List.length_cons]
    omega
/-- No string stands twice where the distinct ones are as many. -/
theorem nodup_twi {l : List ByteArray} : l.Nodup ↔ twiS l = -1 := by
  rcases twi_cases l with ⟨h1, h2⟩ | ⟨m, h1, h2, _, h4⟩
  · refine ⟨fun _ => h1, fun _ => ?_⟩
    rw [List.Nodup, List.pairwise_iff_getElem]
    intro i j hi hj hij e
    refine h2 j hj ?_
    rw [List.getD_eq_getElem?_getD, List.getElem?_eq_getElem hj, Option.getD_some, ← e]
    exact List.mem_take_iff_getElem.2 ⟨i, by omega, rfl⟩
  · refine ⟨fun hn => ?_, fun e => by omega⟩
    rw [List.getD_eq_getElem?_getD, List.getElem?_eq_getElem h1, Option.getD_some] at h2
    obtain ⟨i, hi, e⟩ := List.mem_take_iff_getElem.1 h2
    rw [List.Nodup, List.pairwise_iff_getElem] at hn
    exact absurd e (hn i m (by omega) h1 (by omega))
theorem sort_nodup {l : List ByteArray} (h : l.Nodup) : (sortS l).length = l.length :=
  ((List.perm_ext_iff_of_nodup (sort_inc l).nodup h).2 (sort_mem l)).length_eq
theorem sort_twice : ∀ {l : List ByteArray}, (sortS l).length = l.length → l.Nodup
  | [], _ => List.nodup_nil
  | x :: l, h => by
    have h1 := ins_len x (sortS l)
    have h2 := sort_len l
    rw [show sortS (x :: l) = insS x (sortS l) from rfl, List.length_cons] at h
    refine List.nodup_cons.2 ⟨fun hx => ?_, sort_twice (by omega)⟩
    have e : insS x (sortS l) = sortS l := inc_unique (ins_inc x (sort_inc l)) (sort_inc l) fun z => by
      rw [ins_mem]
      exact ⟨fun q => q.elim (fun e => by subst e; exact (sort_mem l z).2 hx) id, .inr⟩
    rw [e] at h
    omega
theorem count_twice (l : List ByteArray) : decide (twiS l < 0) = decide ((sortS l).length = l.length) := by
  rw [decide_eq_decide]
  constructor
  · intro h
    rcases twi_cases l with ⟨h1, _⟩ | ⟨m, _, _, _, h4⟩
    · exact sort_nodup (nodup_twi.2 h1)
    · omega
  · intro h
    rw [nodup_twi.1 (sort_twice h)]
    decide
theorem sorted_twice (l : List ByteArray) : twiS (sortS l) = -1 := nodup_twi.1 (sort_inc l).nodup

/- The characters of a name at a place. -/
def isSmall (c : Nat) : Prop := 97 ≤ c ∧ c ≤ 122
def isSign (c : Nat) : Prop := (97 ≤ c ∧ c ≤ 122) ∨ c = 95 ∨ (48 ≤ c ∧ c ≤ 57)
instance (c : Nat) : Decidable (isSmall c) := by unfold isSmall; infer_instance
instance (c : Nat) : Decidable (isSign c) := by unfold isSign; infer_instance
/-- How many characters of a name stand from an index on. -/
def runF (s : ByteArray) (i : Nat) : Nat := (((bl s).drop i).takeWhile fun x => decide (isSign x.toNat)).length
def sigS (s : ByteArray) (i : Nat) : Nat := if i < s.size ∧ isSmall (byN s i) then runF s i else 0
theorem runF_step {s : ByteArray} {i : Nat} (h : i < s.size) (hd : isSign (byN s i)) : runF s i = runF s (i + 1) + 1 := by
  unfold runF
  rw [bl_drop h, List.takeWhile_cons_of_pos (by simpa using hd), List.length_cons]
theorem runF_stop {s : ByteArray} {i : Nat} (h : i < s.size) (hd : ¬ isSign (byN s i)) : runF s i = 0 := by
  unfold runF
  rw [bl_drop h, List.takeWhile_cons_of_neg (by simpa using hd)]
  rfl
theorem runF_end {s : ByteArray} {i : Nat} (h : s.size ≤ i) : runF s i = 0 := by
  unfold runF
  rw [List.drop_eq_nil_of_le (by rw [bl_length]; exact h)]
  rfl
theorem runF_len (s : ByteArray) (i : Nat) (h : i ≤ s.size) : i + runF s i ≤ s.size := by
  have := (List.takeWhile_prefix (l := (bl s).drop i) fun x => decide (isSign x.toNat)).length_le
  rw [List.length_drop, bl_length] at this
  unfold runF
  omega
theorem sig_len {s : ByteArray} {i : Nat} (h : i < s.size) : i + sigS s i ≤ s.size := by
  have := runF_len s i (by omega)
  unfold sigS
  split <;> omega
/-- Is it a name? -/
def rightS (s : ByteArray) : Bool := decide (0 < s.size ∧ s.size ≤ 32 ∧ sigS s 0 = s.size)
end Go.Proofs.YtbochlbgjnmgjaaGreat.Nam
