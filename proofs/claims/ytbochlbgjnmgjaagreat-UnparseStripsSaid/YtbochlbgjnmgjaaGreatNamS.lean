/- The plain mathematics of layer 8: the order of strings, the least place of a string in a list, the first that stands twice, the distinct strings in increasing order. No Go here. -/
import Derived.Test.YtbochlbgjnmgjaaGreatBytS
import GoSem.Op.String
set_option maxRecDepth 100000
set_option linter.unusedVariables false
namespace Go.Proofs.YtbochlbgjnmgjaaGreat.Nam
open Go.Lib Go.Proofs.YtbochlbgjnmgjaaGreat.Utf

/- The order of bytes. -/
theorem less_irr : ∀ (a : List UInt8), Go.Op.bytesLess a a = false
  | [] => rfl
  | a :: x => by
    simp only [Go.Op.bytesLess, less_irr x, Bool.and_false, Bool.or_false]
    exact decide_eq_false (UInt8.lt_irrefl a)
theorem less_cons (a b : UInt8) (x y : List UInt8) : Go.Op.bytesLess (a :: x) (b :: y) = true ↔ a.toNat < b.toNat ∨ (a = b ∧ Go.Op.bytesLess x y = true) := by
  simp only [Go.Op.bytesLess, Bool.or_eq_true, decide_eq_true_eq, Bool.and_eq_true, beq_iff_eq, UInt8.lt_iff_toNat_lt]
theorem less_trans : ∀ {a b c : List UInt8}, Go.Op.bytesLess a b = true → Go.Op.bytesLess b c = true → Go.Op.bytesLess a c = true
  | _, [], _, h, _ => by simp [Go.Op.bytesLess] at h
  | _, _ :: _, [], _, h => by simp [Go.Op.bytesLess] at h
  | [], _ :: _, _ :: _, _, _ => rfl
  | a :: x, b :: y, c :: z, h1, h2 => by
    rw [less_cons] at h1 h2 ⊢
    rcases h1 with h1 | ⟨rfl, h1⟩
    · rcases h2 with h2 | ⟨rfl, h2⟩
      · exact .inl (by omega)
      · exact .inl h1
    · rcases h2 with h2 | ⟨rfl, h2⟩
      · exact .inl h2
      · exact .inr ⟨rfl, less_trans h1 h2⟩
theorem less_tri : ∀ {a b : List UInt8}, Go.Op.bytesLess a b = false → Go.Op.bytesLess b a = false → a = b
  | [], [], _, _ => rfl
  | [], _ :: _, h, _ => by simp [Go.Op.bytesLess] at h
  | _ :: _, [], _, h => by simp [Go.Op.bytesLess] at h
  | a :: x, b :: y, h1, h2 => by
    have g1 := mt (less_cons a b x y).2 (by rw [h1]; decide)
    have g2 := mt (less_cons b a y x).2 (by rw [h2]; decide)
    have e : a = b := UInt8.toNat_inj.1 (by omega)
    subst e
    have q1 : Go.Op.bytesLess x y = false := by
      cases h : Go.Op.bytesLess x y
      · rfl
      · exact absurd (.inr ⟨rfl, h⟩) g1
    have q2 : Go.Op.bytesLess y x = false := by
      cases h : Go.Op.bytesLess y x
      · rfl
      · exact absurd (.inr ⟨rfl, h⟩) g2
    rw [less_tri q1 q2]
/-- A string is less than another. -/
def lt (a b : ByteArray) : Bool := Go.Op.bytesLess a.toList b.toList
theorem lt_irr (a : ByteArray) : lt a a = false := less_irr _
theorem lt_trans {a b c : ByteArray} (h : lt a b = true) (k : lt b c = true) : lt a c = true := less_trans h k
theorem str_ext {a b : ByteArray} (h : a.toList = b.toList) : a = b := by
  rw [ba_toList, ba_toList] at h
  exact ByteArray.ext (Array.ext' h)
theorem lt_tri {a b : ByteArray} (h : lt a b = false) (k : lt b a = false) : a = b := str_ext (less_tri h k)
theorem seq_iff (a b : ByteArray) : (a.toList == b.toList) = decide (a = b) := by
  rw [Bool.eq_iff_iff, beq_iff_eq, decide_eq_true_iff]
  exact ⟨str_ext, fun h => by rw [h]⟩

/-- The least place of a string, -1 if it has none. -/
def findF (s : ByteArray) : List ByteArray → Nat → Int
  | [], _ => -1
  | x :: l, i => if x = s then i else findF s l (i + 1)
def findS (l : List ByteArray) (s : ByteArray) : Int := findF s l 0
noncomputable instance memDec (x : ByteArray) (l : List ByteArray) : Decidable (x ∈ l) := Classical.propDecidable _
/-- The least place of an element that stands ahead of it too; -1 if there is none. -/
noncomputable def twiF (l : List ByteArray) : Nat → Nat → Int
  | 0, _ => -1
  | k + 1, i => if l.getD i ByteArray.empty ∈ l.take i then i else twiF l k (i + 1)
noncomputable def twiS (l : List ByteArray) : Int := twiF l l.length 0
theorem twiF_cases (l : List ByteArray) : ∀ (k i : Nat), (twiF l k i = -1 ∧ ∀ j, i ≤ j → j < i + k → l.getD j ByteArray.empty ∉ l.take j) ∨
    ∃ m, i ≤ m ∧ m < i + k ∧ l.getD m ByteArray.empty ∈ l.take m ∧ (∀ j, i ≤ j → j < m → l.getD j ByteArray.empty ∉ l.take j) ∧ twiF l k i = m
  | 0, i => .inl ⟨rfl, fun j h1 h2 => by omega⟩
  | k + 1, i => by
    by_cases h : l.getD i ByteArray.empty ∈ l.take i
    · exact .inr ⟨i, Nat.le_refl _, by omega, h, fun j h1 h2 => by omega, by rw [twiF, if_pos h]⟩
    · rcases twiF_cases l k (i + 1) with ⟨h1, h2⟩ | ⟨m, h1, h2, h3, h4, h5⟩
      · refine .inl ⟨by rw [twiF, if_neg h, h1], fun j q1 q2 => ?_⟩
        rcases Nat.eq_or_lt_of_le q1 with e | q3
        · subst e; exact h
        · exact h2 j q3 (by omega)
      · refine .inr ⟨m, by omega, by omega, h3, fun j q1 q2 => ?_, by rw [twiF, if_neg h, h5]⟩
        rcases Nat.eq_or_lt_of_le q1 with e | q3
        · subst e; exact h
        · exact h4 j q3 q2
/-- What the first that stands twice is. -/
theorem twi_is {l : List ByteArray} {m : Nat} (hm : m < l.length) (h : l.getD m ByteArray.empty ∈ l.take m) (h2 : ∀ j, j < m → l.getD j ByteArray.empty ∉ l.take j) : twiS l = m := by
  rcases twiF_cases l l.length 0 with ⟨_, h1⟩ | ⟨k, _, h3, h4, h5, h6⟩
  · exact absurd h (h1 m (by omega) (by omega))
  · rw [twiS, h6]
    rcases Nat.lt_trichotomy k m with q | q | q
    · exact absurd h4 (h2 k q)
    · rw [q]
    · exact absurd h (h5 m (by omega) q)
theorem twi_none {l : List ByteArray} (h : ∀ j, j < l.length → l.getD j ByteArray.empty ∉ l.take j) : twiS l = -1 := by
  rcases twiF_cases l l.length 0 with h1 | ⟨k, _, h3, h4, _⟩
  · exact h1.1
  · exact absurd h4 (h k (by omega))
theorem twi_cases (l : List ByteArray) : (twiS l = -1 ∧ ∀ j, j < l.length → l.getD j ByteArray.empty ∉ l.take j) ∨
    ∃ m : Nat, m < l.length ∧ l.getD m ByteArray.empty ∈ l.take m ∧ (∀ j, j < m → l.getD j ByteArray.empty ∉ l.take j) ∧ twiS l = m := by
  rcases twiF_cases l l.length 0 with ⟨h1, h2⟩ | ⟨k, _, h3, h4, h5, h6⟩
  · exact .inl ⟨h1, fun j hj => h2 j (by omega) (by omega)⟩
  · exact .inr ⟨k, by omega, h4, fun j hj => h5 j (by omega) hj, h6⟩

/-- Strictly increasing. -/
def Inc (l : List ByteArray) : Prop := l.Pairwise fun a b => lt a b = true
/-- A string put where it belongs. -/
def insS (s : ByteArray) : List ByteArray → List ByteArray
  | [] => [s]
  | x :: l => if lt s x = true then s :: x :: l else if s = x then x :: l else x :: insS s l
/-- The distinct strings of a list, in increasing order. -/
def sortS (l : List ByteArray) : List ByteArray := l.foldr insS []
/- The characters of a name at a place. -/
def isSmall (c : Nat) : Prop := 97 ≤ c ∧ c ≤ 122
def isSign (c : Nat) : Prop := (97 ≤ c ∧ c ≤ 122) ∨ c = 95 ∨ (48 ≤ c ∧ c ≤ 57)
instance (c : Nat) : Decidable (isSmall c) := by unfold isSmall; infer_instance
instance (c : Nat) : Decidable (isSign c) := by unfold isSign; infer_instance
/-- How many characters of a name stand from an index on. -/
def runF (s : ByteArray) (i : Nat) : Nat := (((bl s).drop i).takeWhile fun x => decide (isSign x.toNat)).length
def sigS (s : ByteArray) (i : Nat) : Nat := if i < s.size ∧ isSmall (byN s i) then runF s i else 0
theorem runF_step {s : ByteArray} {i : Nat} (h : i < s.size) (hd : isSign (byN s i)) : runF s i = runF s (i + 1) + 1 := by
  unfold runF
  rw [bl_drop h, List.takeWhile_cons_of_pos (by simpa using hd), List.length_cons]
theorem runF_stop {s : ByteArray} {i : Nat} (h : i < s.size) (hd : ¬ isSign (byN s i)) : runF s i = 0 := by
  unfold runF
  rw [bl_drop h, List.takeWhile_cons_of_neg (by simpa using hd)]
  rfl
theorem runF_end {s : ByteArray} {i : Nat} (h : s.size ≤ i) : runF s i = 0 := by
  unfold runF
  rw [List.drop_eq_nil_of_le (by rw [bl_length]; exact h)]
  rfl
theorem runF_len (s : ByteArray) (i : Nat) (h : i ≤ s.size) : i + runF s i ≤ s.size := by
  have := (List.takeWhile_prefix (l := (bl s).drop i) fun x => decide (isSign x.toNat)).length_le
  rw [List.length_drop, bl_length] at this
  unfold runF
  omega
theorem sig_len {s : ByteArray} {i : Nat} (h : i < s.size) : i + sigS s i ≤ s.size := by
  have := runF_len s i (by omega)
  unfold sigS
  split <;> omega
/-- Is it a name? -/
def rightS (s : ByteArray) : Bool := decide (0 < s.size ∧ s.size ≤ 32 ∧ sigS s 0 = s.size)
end Go.Proofs.YtbochlbgjnmgjaaGreat.Nam
