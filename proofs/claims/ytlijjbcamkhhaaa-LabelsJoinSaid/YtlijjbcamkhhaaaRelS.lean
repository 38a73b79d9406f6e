/- The plain mathematics of layer 10: chains of pairs, the passes that find them, loops, the order. No Go here. -/
import Derived.Test.YtlijjbcamkhhaaaBytS
set_option maxRecDepth 100000
set_option linter.unusedVariables false
namespace Go.Proofs.Ytlijjbcamkhhaaa.Rel

/-- A chain of pairs leads from one thing to another. -/
inductive Lead (P : List (Nat × Nat)) : Nat → Nat → Prop
  | refl (a : Nat) : Lead P a a
  | step {a b c : Nat} : Lead P a b → (b, c) ∈ P → Lead P a c
theorem Lead.trans {P : List (Nat × Nat)} {a b c : Nat} (h : Lead P a b) (g : Lead P b c) : Lead P a c := by
  induction g with
  | refl => exact h
  | step _ hp ih => exact .step ih hp
theorem Lead.one {P : List (Nat × Nat)} {a b : Nat} (h : (a, b) ∈ P) : Lead P a b := .step (.refl a) h
/-- All numbers of the pairs are numbers of things. -/
def InR (n : Nat) (P : List (Nat × Nat)) : Prop := ∀ p ∈ P, p.1 < n ∧ p.2 < n
theorem Lead.lt {P : List (Nat × Nat)} {n a b : Nat} (hP : InR n P) (h : Lead P a b) (ha : a < n) : b < n := by
  induction h with
  | refl => exact ha
  | step _ hp _ => exact (hP _ hp).2
theorem Lead.sub {P Q : List (Nat × Nat)} {a b : Nat} (h : Lead P a b) (hs : ∀ a b, (a, b) ∈ P → Lead Q a b) : Lead Q a b := by
  induction h with
  | refl => exact .refl _
  | step _ hp ih => exact ih.trans (hs _ _ hp)

/-- Element i of a row. -/
def on (r : List Bool) (i : Nat) : Bool := r.getD i false
theorem on_lt {r : List Bool} {i : Nat} (h : on r i = true) : i < r.length := by
  refine Nat.lt_of_not_le fun q => ?_
  unfold on at h
  rw [List.getD, List.getElem?_eq_none q] at h
  cases h
theorem on_set {r : List Bool} {i : Nat} (hi : i < r.length) (j : Nat) : on (r.set i true) j = (decide (i = j) || on r j) := by
  unfold on
  rw [List.getD, List.getElem?_set]
  by_cases h : i = j
  · subst h; simp [hi]
  · simp [h]
theorem on_set' {r : List Bool} {i j : Nat} (h : on r j = true) : on (r.set i true) j = true := by
  have hj := on_lt h
  by_cases hi : i < r.length
  · rw [on_set hi, h, Bool.or_true]
  · rw [List.set_eq_of_length_le (by omega)]; exact h
theorem row_ext {r s : List Bool} (hl : r.length = s.length) (h : ∀ i, on r i = on s i) : r = s := by
  refine List.ext_getElem hl fun i h1 h2 => ?_
  have := h i
  unfold on at this
  simpa [List.getD, List.getElem?_eq_getElem h1, List.getElem?_eq_getElem h2] using this
/-- One pair laid on a row. -/
def lay (r : List Bool) (p : Nat × Nat) : List Bool := if on r p.1 then r.set p.2 true else r
theorem lay_len (r : List Bool) (p : Nat × Nat) : (lay r p).length = r.length := by unfold lay; split <;> simp
theorem lay_sub {r : List Bool} {p : Nat × Nat} {i : Nat} (h : on r i = true) : on (lay r p) i = true := by
  unfold lay; split
  · exact on_set' h
  · exact h
/-- All pairs laid on a row. -/
def pass (P : List (Nat × Nat)) (r : List Bool) : List Bool := P.foldl lay r
theorem pass_len : ∀ (P : List (Nat × Nat)) (r : List Bool), (pass P r).length = r.length
  | [], r => rfl
  | p :: P, r => by rw [show pass (p :: P) r = pass P (lay r p) from rfl, pass_len P, lay_len]
theorem pass_sub : ∀ (P : List (Nat × Nat)) {r : List Bool} {i : Nat}, on r i = true → on (pass P r) i = true
  | [], r, i, h => h
  | p :: P, r, i, h => pass_sub P (lay_sub h)
theorem pass_step : ∀ (P : List (Nat × Nat)) {r : List Bool} {p : Nat × Nat}, p ∈ P → on r p.1 = true → p.2 < r.length → on (pass P r) p.2 = true
  | q :: P, r, p, hp, h, hl => by
    rcases List.mem_cons.1 hp with rfl | hp
    · refine pass_sub P ?_
      unfold lay
      rw [if_pos h, on_set hl]; simp
    · exact pass_step P hp (lay_sub h) (by rw [lay_len]; exact hl)
theorem pass_sound : ∀ (P Q : List (Nat × Nat)) {r : List Bool} {a : Nat}, (∀ p ∈ P, p ∈ Q) → (∀ i, on r i = true → Lead Q a i) → ∀ i, on (pass P r) i = true → Lead Q a i
  | [], Q, r, a, _, h => h
  | p :: P, Q, r, a, hs, h => pass_sound P Q (fun q hq => hs q (List.mem_cons_of_mem _ hq)) fun i hi => by
    unfold lay at hi
    split at hi
    · next h1 =>
      by_cases hl : p.2 < r.length
      · rw [on_set hl, Bool.or_eq_true, decide_eq_true_eq] at hi
        rcases hi with rfl | hi
        · exact .step (h _ h1) (hs p List.mem_cons_self)
        · exact h i hi
      · rw [List.set_eq_of_length_le (by omega)] at hi; exact h i hi
    · exact h i hi
def cnt (r : List Bool) : Nat := r.count true
theorem cnt_le : ∀ (r : List Bool), cnt r ≤ r.length := fun r => List.count_le_length
/-- Of two rows of one length the smaller counts less, unless they are one. -/
theorem cnt_lt : ∀ {r s : List Bool}, r.length = s.length → (∀ i, on r i = true → on s i = true) → cnt r ≤ cnt s ∧ (cnt r = cnt s → r = s)
  | [], [], _, _ => ⟨Nat.le_refl _, fun _ => rfl⟩
  | [], _ :: _, h, _ => by simp at h
  | _ :: _, [], h, _ => by simp at h
  | x :: r, y :: s, hl, h => by
    have ih := cnt_lt (r := r) (s := s) (by simpa using hl) (fun i hi => h (i + 1) hi)
    have h0 := h 0
    unfold cnt at ih ⊢
    rw [List.count_cons, List.count_cons]
    cases x <;> cases y
    · refine ⟨by simpa using ih.1, fun e => by rw [ih.2 (by simpa using e)]⟩
    · refine ⟨by simp; omega, fun e => ?_⟩
      simp at e
      omega
    · simp [on] at h0
    · refine ⟨by simpa using ih.1, fun e => by rw [ih.2 (by simpa using e)]⟩
def itr (P : List (Nat × Nat)) : Nat → List Bool → List Bool
  | 0, r => r
  | k + 1, r => itr P k (pass P r)
theorem itr_succ (P : List (Nat × Nat)) : ∀ (k : Nat) (r : List Bool), itr P (k + 1) r = pass P (itr P k r)
  | 0, r => rfl
  | k + 1, r => itr_succ P k (pass P r)
theorem itr_len (P : List (Nat × Nat)) : ∀ (k : Nat) (r : List Bool), (itr P k r).length = r.length
  | 0, r => rfl
  | k + 1, r => by rw [itr, itr_len P k, pass_len]
theorem itr_sub (P : List (Nat × Nat)) : ∀ (k : Nat) {r : List Bool} {i : Nat}, on r i = true → on (itr P k r) i = true
  | 0, r, i, h => h
  | k + 1, r, i, h => itr_sub P k (pass_sub P h)
theorem itr_sound (P : List (Nat × Nat)) : ∀ (k : Nat) {r : List Bool} {a : Nat}, (∀ i, on r i = true → Lead P a i) → ∀ i, on (itr P k r) i = true → Lead P a i
  | 0, r, a, h => h
  | k + 1, r, a, h => itr_sound P k (pass_sound P P (fun _ h => h) h)
/-- Each pass finds something new, until none does. -/
theorem itr_grow (P : List (Nat × Nat)) (r : List Bool) : ∀ k, pass P (itr P k r) = itr P k r ∨ k + cnt r ≤ cnt (itr P k r)
  | 0 => .inr (by simp [itr])
  | k + 1 => by
    rcases itr_grow P r k with h | h
    · left
      rw [itr_succ, h, h]
    · by_cases e : pass P (itr P k r) = itr P k r
      · left; rw [itr_succ, e, e]
      · right
        obtain ⟨h1, h2⟩ := cnt_lt (r := itr P k r) (s := pass P (itr P k r)) (by rw [pass_len]) (fun i hi => pass_sub P hi)
        have : cnt (itr P k r) ≠ cnt (pass P (itr P k r)) := fun q => e (h2 q).symm
        rw [itr_succ]
        omega
/-- A row on which one thing stands. -/
def row0 (n a : Nat) : List Bool := (List.replicate n false).set a true
theorem row0_len (n a : Nat) : (row0 n a).length = n := by simp [row0]
theorem row0_on {n a : Nat} (ha : a < n) (i : Nat) : on (row0 n a) i = decide (a = i) := by
  unfold row0
  rw [on_set (by simpa using ha)]
  have : on (List.replicate n false) i = false := by
    unfold on
    rw [List.getD, List.getElem?_replicate]
    split <;> rfl
  rw [this, Bool.or_false]
theorem cnt_pos {r : List Bool} {i : Nat} (h : on r i = true) : 1 ≤ cnt r := by
  have hl := on_lt h
  unfold cnt
  refine List.count_pos_iff.2 ?_
  unfold on at h
  rw [List.getD, List.getElem?_eq_getElem hl] at h
  have : r[i] = true := h
  exact this ▸ List.getElem_mem hl
/-- The things to which a thing leads, as a row. -/
def ldR (n : Nat) (P : List (Nat × Nat)) (a : Nat) : List Bool := itr P n (row0 n a)
def ld (n : Nat) (P : List (Nat × Nat)) (a b : Nat) : Bool := on (ldR n P a) b
theorem ldR_len (n : Nat) (P : List (Nat × Nat)) (a : Nat) : (ldR n P a).length = n := by rw [ldR, itr_len, row0_len]
theorem ld_iff {n : Nat} {P : List (Nat × Nat)} (hP : InR n P) {a : Nat} (ha : a < n) (b : Nat) : ld n P a b = true ↔ Lead P a b := by
  unfold ld ldR
  constructor
  · refine itr_sound P n (fun i hi => ?_) b
    rw [row0_on ha, decide_eq_true_eq] at hi
    subst hi; exact .refl _
  · intro h
    have hfix : pass P (itr P n (row0 n a)) = itr P n (row0 n a) := by
      rcases itr_grow P (row0 n a) n with h | h
      · exact h
      · have h1 := cnt_le (itr P n (row0 n a))
        have h2 := cnt_pos (r := row0 n a) (i := a) (by rw [row0_on ha]; simp)
        rw [itr_len, row0_len] at h1
        omega
    induction h with
    | refl => exact itr_sub P n (by rw [row0_on ha]; simp)
    | step h1 hp ih =>
      rw [← hfix]
      exact pass_step P hp ih (by rw [itr_len, row0_len]; exact (hP _ hp).2)
theorem ld_refl {n : Nat} {P : List (Nat × Nat)} (hP : InR n P) {a : Nat} (ha : a < n) : ld n P a a = true := (ld_iff hP ha a).2 (.refl a)
theorem ld_trans {n : Nat} {P : List (Nat × Nat)} (hP : InR n P) {a b c : Nat} (ha : a < n) (h : ld n P a b = true) (g : ld n P b c = true) : ld n P a c = true := by
  have h1 := (ld_iff hP ha b).1 h
  exact (ld_iff hP ha c).2 (h1.trans ((ld_iff hP (h1.lt hP ha) c).1 g))

/-- A closed, reflexive relation that holds the pairs, and only what they lead to, is what they lead to. -/
theorem closed_is {n : Nat} {P : List (Nat × Nat)} (hP : InR n P) {f : Nat → Nat → Bool} (h1 : ∀ a, a < n → f a a = true) (h2 : ∀ a b, (a, b) ∈ P → f a b = true) (h3 : ∀ a b c, a < n → b < n → f a b = true → f b c = true → f a c = true)
    (h4 : ∀ a b, a < n → f a b = true → Lead P a b) {a : Nat} (ha : a < n) (b : Nat) : f a b = ld n P a b := by
  have key : f a b = true ↔ Lead P a b := by
    refine ⟨h4 a b ha, fun h => ?_⟩
    induction h with
    | refl => exact h1 a ha
    | step h hp ih => exact h3 _ _ _ ha (h.lt hP ha) ih (h2 _ _ hp)
  rw [Bool.eq_iff_iff, key, ld_iff hP ha]

/-- Part of a loop. -/
def inLoop (n : Nat) (f : Nat → Nat → Bool) (a : Nat) : Bool := (List.range n).any fun b => !(a == b) && (f a b && f b a)
theorem inLoop_iff {n : Nat} {f : Nat → Nat → Bool} {a : Nat} : inLoop n f a = true ↔ ∃ b, b < n ∧ a ≠ b ∧ f a b = true ∧ f b a = true := by
  unfold inLoop
  rw [List.any_eq_true]
  constructor
  · rintro ⟨b, hb, h⟩
    simp at h hb
    exact ⟨b, hb, h.1, h.2.1, h.2.2⟩
  · rintro ⟨b, hb, h1, h2, h3⟩
    exact ⟨b, by simpa using hb, by simp [h1, h2, h3]⟩
/-- The least thing, from one on, with a property; -1 if there is none. -/
def leastF (p : Nat → Bool) : Nat → Nat → Int
  | 0, _ => -1
  | k + 1, i => if p i = true then i else leastF p k (i + 1)
theorem leastF_cases (p : Nat → Bool) : ∀ (k i : Nat), (leastF p k i = -1 ∧ ∀ j, i ≤ j → j < i + k → p j = false) ∨ ∃ m : Nat, i ≤ m ∧ m < i + k ∧ p m = true ∧ (∀ j, i ≤ j → j < m → p j = false) ∧ leastF p k i = m
  | 0, i => .inl ⟨rfl, fun j h1 h2 => by omega⟩
  | k + 1, i => by
    by_cases h : p i = true
    · exact .inr ⟨i, Nat.le_refl _, by omega, h, fun j h1 h2 => by omega, by rw [leastF, if_pos h]⟩
    · rcases leastF_cases p k (i + 1) with ⟨h1, h2⟩ | ⟨m, h1, h2, h3, h4, h5⟩
      · refine .inl ⟨by rw [leastF, if_neg h, h1], fun j q1 q2 => ?_⟩
        rcases Nat.eq_or_lt_of_le q1 with e | q3
        · subst e; simpa using h
        · exact h2 j q3 (by omega)
      · refine .inr ⟨m, by omega, by omega, h3, fun j q1 q2 => ?_, by rw [leastF, if_neg h, h5]⟩
        rcases Nat.eq_or_lt_of_le q1 with e | q3
        · subst e; simpa using h
        · exact h4 j q3 q2
def leastS (n : Nat) (p : Nat → Bool) : Int := leastF p n 0
theorem least_cases (n : Nat) (p : Nat → Bool) : (leastS n p = -1 ∧ ∀ j, j < n → p j = false) ∨ ∃ m : Nat, m < n ∧ p m = true ∧ (∀ j, j < m → p j = false) ∧ leastS n p = m := by
  rcases leastF_cases p n 0 with ⟨h1, h2⟩ | ⟨m, -, h2, h3, h4, h5⟩
  · exact .inl ⟨h1, fun j hj => h2 j (Nat.zero_le _) (by omega)⟩
  · exact .inr ⟨m, by omega, h3, fun j hj => h4 j (Nat.zero_le _) hj, h5⟩
theorem least_is {n m : Nat} {p : Nat → Bool} (hm : m < n) (h : p m = true) (h2 : ∀ j, j < m → p j = false) : leastS n p = m := by
  rcases least_cases n p with ⟨_, h1⟩ | ⟨k, h3, h4, h5, h6⟩
  · rw [h1 m hm] at h; cases h
  · rw [h6]
    rcases Nat.lt_trichotomy k m with q | q | q
    · rw [h2 k q] at h4; cases h4
    · rw [q]
    · rw [h5 m q] at h; cases h
theorem least_none {n : Nat} {p : Nat → Bool} (h : ∀ j, j < n → p j = false) : leastS n p = -1 := by
  rcases least_cases n p with h1 | ⟨k, h3, h4, -⟩
  · exact h1.1
  · rw [h k h3] at h4; cases h4
/-- The least thing of a loop. -/
def loopS (n : Nat) (f : Nat → Nat → Bool) : Int := leastS n (inLoop n f)
/-- No two things lead to each other. -/
def Anti (n : Nat) (f : Nat → Nat → Bool) : Prop := ∀ a b, a < n → b < n → f a b = true → f b a = true → a = b
theorem loop_none {n : Nat} {f : Nat → Nat → Bool} : loopS n f = -1 ↔ Anti n f := by
  constructor
  · intro h a b ha hb h1 h2
    rcases least_cases n (inLoop n f) with ⟨_, hn⟩ | ⟨m, _, _, _, h5⟩
    · refine Classical.byContradiction fun q => ?_
      have := inLoop_iff.2 ⟨b, hb, q, h1, h2⟩
      rw [hn a ha] at this; cases this
    · unfold loopS at h; omega
  · intro h
    refine least_none fun j hj => ?_
    cases e : inLoop n f j
    · rfl
    · obtain ⟨b, hb, h1, h2, h3⟩ := inLoop_iff.1 e
      exact absurd (h j b hj hb h2 h3) h1

/-- A thing that may come next. -/
def free (n : Nat) (f : Nat → Nat → Bool) (o : List Nat) (a : Nat) : Bool := !o.contains a && (List.range n).all fun b => b == a || !f b a || o.contains b
theorem free_iff {n : Nat} {f : Nat → Nat → Bool} {o : List Nat} {a : Nat} : free n f o a = true ↔ a ∉ o ∧ ∀ b, b < n → b ≠ a → f b a = true → b ∈ o := by
  unfold free
  rw [Bool.and_eq_true, List.all_eq_true]
  simp only [Bool.not_eq_true', Bool.or_eq_true, List.mem_range, beq_iff_eq, List.contains_iff_mem, ← Bool.not_eq_true]
  constructor
  · rintro ⟨h1, h2⟩
    exact ⟨h1, fun b hb hne hf => by
      rcases h2 b hb with (h | h) | h
      · exact absurd h hne
      · exact absurd hf h
      · exact h⟩
  · rintro ⟨h1, h2⟩
    refine ⟨h1, fun b hb => ?_⟩
    by_cases e : b = a
    · exact .inl (.inl e)
    · by_cases hf : f b a = true
      · exact .inr (h2 b hb e hf)
      · exact .inl (.inr hf)
def nextS (n : Nat) (f : Nat → Nat → Bool) (o : List Nat) : Int := leastS n (free n f o)
/-- The order, from what has been taken on. -/
def ordF (n : Nat) (f : Nat → Nat → Bool) : Nat → List Nat → List Nat
  | 0, o => o
  | k + 1, o => if nextS n f o < 0 then o else ordF n f k (o ++ [(nextS n f o).toNat])
def ordS (n : Nat) (f : Nat → Nat → Bool) : List Nat := ordF n f n []
/-- What is true of all that has been taken: numbers of things, none twice, each behind all that lead to it. -/
structure Ord (n : Nat) (f : Nat → Nat → Bool) (o : List Nat) : Prop where
  lt : ∀ a ∈ o, a < n
  nodup : o.Nodup
  back : ∀ (i j : Nat) (hi : i < o.length), o[i]! < n → ∀ b, b < n → b ≠ o[i] → f b o[i] = true → b ∈ o.take i
theorem Ord.nil (n : Nat) (f : Nat → Nat → Bool) : Ord n f [] := ⟨by simp, List.nodup_nil, fun i j hi => by simp at hi⟩
theorem Ord.put {n : Nat} {f : Nat → Nat → Bool} {o : List Nat} {a : Nat} (h : Ord n f o) (ha : a < n) (hf : free n f o a = true) : Ord n f (o ++ [a]) := by
  obtain ⟨h1, h2⟩ := free_iff.1 hf
  refine ⟨fun b hb => ?_, ?_, fun i j hi _ b hb hne hfb => ?_⟩
  · rcases List.mem_append.1 hb with hb | hb
    · exact h.lt b hb
    · rw [List.mem_singleton.1 hb]; exact ha
  · refine List.nodup_append.2 ⟨h.nodup, by simp, fun x hx y hy e => ?_⟩
    rw [List.mem_singleton.1 hy] at e
    exact h1 (e ▸ hx)
  · rw [List.length_append, List.length_singleton] at hi
    rcases Nat.lt_or_ge i o.length with q | q
    · rw [List.getElem_append_left q] at hne hfb
      rw [List.take_append_of_le_length (by omega)]
      exact h.back i 0 q (by rw [getElem!_pos o i q]; exact h.lt _ (List.getElem_mem q)) b hb hne hfb
    · obtain rfl : i = o.length := by omega
      rw [List.getElem_append_right (Nat.le_refl _)] at hne hfb
      simp at hne hfb
      rw [List.take_left]
      exact h2 b hb hne hfb
theorem next_cases {n : Nat} {f : Nat → Nat → Bool} {o : List Nat} : (nextS n f o = -1 ∧ ∀ a, a < n → free n f o a = false) ∨ ∃ m : Nat, m < n ∧ free n f o m = true ∧ nextS n f o = m := by
  rcases least_cases n (free n f o) with h | ⟨m, h1, h2, -, h4⟩
  · exact .inl h
  · exact .inr ⟨m, h1, h2, h4⟩
theorem ordF_ok {n : Nat} {f : Nat → Nat → Bool} : ∀ (k : Nat) {o : List Nat}, Ord n f o → Ord n f (ordF n f k o)
  | 0, o, h => h
  | k + 1, o, h => by
    rw [ordF]
    rcases next_cases (n := n) (f := f) (o := o) with ⟨e, -⟩ | ⟨m, h1, h2, e⟩
    · rw [if_pos (by omega)]; exact h
    · rw [if_neg (by omega), e, Int.toNat_natCast]
      exact ordF_ok k (h.put h1 h2)
theorem ord_ok (n : Nat) (f : Nat → Nat → Bool) : Ord n f (ordS n f) := ordF_ok n (Ord.nil n f)
/-- In an order no chain leads back. -/
theorem Ord.noback {n : Nat} {f : Nat → Nat → Bool} {o : List Nat} (h : Ord n f o) {i k : Nat} (hki : k < i) (hi : i < o.length) : o[k] ≠ o[i] ∧ f o[i] o[k] = false := by
  have hne : o[k] ≠ o[i] := List.pairwise_iff_getElem.1 h.nodup k i (by omega) hi hki
  refine ⟨hne, ?_⟩
  cases e : f o[i] o[k]
  · rfl
  · have hk : k < o.length := by omega
    have hm := h.back k 0 hk (by rw [getElem!_pos o k hk]; exact h.lt _ (List.getElem_mem hk)) o[i] (h.lt _ (List.getElem_mem hi)) (fun q => hne q.symm) e
    obtain ⟨m, hm1, hm2⟩ := List.mem_take_iff_getElem.1 hm
    exact absurd hm2 (List.pairwise_iff_getElem.1 h.nodup m i (by omega) hi (by omega))
/-- How many things lead to a thing. -/
def preds (n : Nat) (f : Nat → Nat → Bool) (a : Nat) : Nat := (List.range n).countP fun b => f b a
theorem preds_lt {n : Nat} {f : Nat → Nat → Bool} (hr : ∀ a, a < n → f a a = true) (ht : ∀ a b c, a < n → b < n → c < n → f a b = true → f b c = true → f a c = true) (ha : Anti n f) {a b : Nat} (h1 : a < n) (h2 : b < n) (hne : b ≠ a) (h : f b a = true) : preds n f b < preds n f a := by
  unfold preds
  have hsub : ∀ x ∈ List.range n, f x b = true → f x a = true := fun x hx hb => ht x b a (by simpa using hx) h2 h1 hb h
  have hle := List.countP_mono_left (l := List.range n) (p := fun x => f x b) (q := fun x => f x a) hsub
  refine Nat.lt_of_le_of_ne hle fun e => ?_
  have hall : ∀ (l : List Nat), (∀ x ∈ l, f x b = true → f x a = true) → l.countP (fun x => f x b) = l.countP (fun x => f x a) → ∀ x ∈ l, f x a = true → f x b = true := by
    intro l
    induction l with
    | nil => intro _ _ x hx; simp at hx
    | cons y l ih =>
      intro hs he x hx hxa
      have hl := List.countP_mono_left (l := l) (p := fun x => f x b) (q := fun x => f x a) (fun z hz => hs z (List.mem_cons_of_mem _ hz))
      rw [List.countP_cons, List.countP_cons] at he
      have hy := hs y List.mem_cons_self
      cases eb : f y b <;> cases ea : f y a
      · rw [eb, ea] at he
        rcases List.mem_cons.1 hx with rfl | hx
        · rw [ea] at hxa; cases hxa
        · exact ih (fun z hz => hs z (List.mem_cons_of_mem _ hz)) (by simpa using he) x hx hxa
      · rw [eb, ea] at he; simp at he; omega
      · rw [ea] at hy; cases hy eb
      · rw [eb, ea] at he
        rcases List.mem_cons.1 hx with rfl | hx
        · exact eb
        · exact ih (fun z hz => hs z (List.mem_cons_of_mem _ hz)) (by simpa using he) x hx hxa
  have hab := hall (List.range n) hsub e a (by simpa using h1) (hr a h1)
  exact hne (ha b a h2 h1 h hab)
/-- Without loops something may always come next. -/
theorem next_some {n : Nat} {f : Nat → Nat → Bool} (hr : ∀ a, a < n → f a a = true) (ht : ∀ a b c, a < n → b < n → c < n → f a b = true → f b c = true → f a c = true) (ha : Anti n f) {o : List Nat} (ho : ∃ a, a < n ∧ a ∉ o) : 0 ≤ nextS n f o := by
  have key : ∀ (k a : Nat), preds n f a ≤ k → a < n → a ∉ o → ∃ c, c < n ∧ free n f o c = true := by
    intro k
    induction k with
    | zero =>
      intro a hk h1 h2
      refine ⟨a, h1, free_iff.2 ⟨h2, fun b hb hne hf => ?_⟩⟩
      have := preds_lt hr ht ha h1 hb hne hf
      omega
    | succ k ih =>
      intro a hk h1 h2
      by_cases hf : free n f o a = true
      · exact ⟨a, h1, hf⟩
      · have : ∃ b, b < n ∧ b ≠ a ∧ f b a = true ∧ b ∉ o := by
          refine Classical.byContradiction fun q => hf (free_iff.2 ⟨h2, fun b hb hne hfb => Classical.byContradiction fun hn => q ⟨b, hb, hne, hfb, hn⟩⟩)
        obtain ⟨b, hb, hne, hfb, hn⟩ := this
        have := preds_lt hr ht ha h1 hb hne hfb
        exact ih b (by omega) hb hn
  obtain ⟨a, h1, h2⟩ := ho
  obtain ⟨c, hc, hf⟩ := key _ a (Nat.le_refl _) h1 h2
  rcases next_cases (n := n) (f := f) (o := o) with ⟨-, h⟩ | ⟨m, -, -, e⟩
  · rw [h c hc] at hf; cases hf
  · omega
theorem nodup_le : ∀ (n : Nat) {o : List Nat}, o.Nodup → (∀ a ∈ o, a < n) → o.length ≤ n
  | 0, o, _, h => by
    cases o with
    | nil => exact Nat.le_refl _
    | cons a o => have := h a List.mem_cons_self; omega
  | n + 1, o, hn, h => by
    have h1 : (o.erase n).length ≤ n := nodup_le n (hn.erase n) fun a ha => by
      have h2 := (List.Nodup.mem_erase_iff hn).1 ha
      have := h a h2.2
      have := h2.1
      omega
    rw [List.length_erase] at h1
    split at h1 <;> omega
theorem all_le : ∀ (n : Nat) {o : List Nat}, (∀ a, a < n → a ∈ o) → n ≤ o.length
  | 0, o, _ => Nat.zero_le _
  | n + 1, o, h => by
    have hm := h n (Nat.lt_succ_self n)
    have h1 : n ≤ (o.erase n).length := all_le n fun a ha => (List.mem_erase_of_ne (by omega)).2 (h a (by omega))
    have := List.length_pos_of_mem hm
    rw [List.length_erase_of_mem hm] at h1
    omega
theorem miss {n : Nat} {o : List Nat} (hn : o.Nodup) (h : ∀ a ∈ o, a < n) (hl : o.length < n) : ∃ a, a < n ∧ a ∉ o := by
  refine Classical.byContradiction fun q => ?_
  have := all_le n (o := o) fun a ha => Classical.byContradiction fun hx => q ⟨a, ha, hx⟩
  omega
theorem ordF_len {n : Nat} {f : Nat → Nat → Bool} (hr : ∀ a, a < n → f a a = true) (ht : ∀ a b c, a < n → b < n → c < n → f a b = true → f b c = true → f a c = true) (ha : Anti n f) : ∀ (k : Nat) {o : List Nat}, Ord n f o → o.length + k = n → (ordF n f k o).length = n
  | 0, o, h, hl => hl
  | k + 1, o, h, hl => by
    have hn := next_some hr ht ha (o := o) (miss h.nodup h.lt (by omega))
    rw [ordF, if_neg (by omega)]
    rcases next_cases (n := n) (f := f) (o := o) with ⟨e, -⟩ | ⟨m, h1, h2, e⟩
    · omega
    · rw [e, Int.toNat_natCast]
      exact ordF_len hr ht ha k (h.put h1 h2) (by simp; omega)
/-- Without loops the order lists all things. -/
theorem ord_len {n : Nat} {P : List (Nat × Nat)} (hP : InR n P) (ha : Anti n (ld n P)) : (ordS n (ld n P)).length = n :=
  ordF_len (fun a h => ld_refl hP h) (fun a b c h1 h2 h3 => ld_trans hP h1) ha n (Ord.nil _ _) (by simp)
/-- The closure, as pairs. -/
def cloL (n : Nat) (P : List (Nat × Nat)) : List (Nat × Nat) := (List.range n).flatMap fun a => ((List.range n).filter fun b => ld n P a b).map fun b => (a, b)
theorem clo_mem {n : Nat} {P : List (Nat × Nat)} {a b : Nat} : (a, b) ∈ cloL n P ↔ a < n ∧ b < n ∧ ld n P a b = true := by
  unfold cloL
  simp only [List.mem_flatMap, List.mem_map, List.mem_filter, List.mem_range, Prod.mk.injEq]
  constructor
  · rintro ⟨x, hx, y, ⟨hy, h⟩, rfl, rfl⟩; exact ⟨hx, hy, h⟩
  · rintro ⟨hx, hy, h⟩; exact ⟨a, hx, b, ⟨hy, h⟩, rfl, rfl⟩
theorem clo_in (n : Nat) (P : List (Nat × Nat)) : InR n (cloL n P) := fun p hp => by
  obtain ⟨a, b⟩ := p
  have := clo_mem.1 hp
  exact ⟨this.1, this.2.1⟩
/-- The closure of a closure is the same. -/
theorem clo_clo {n : Nat} {P : List (Nat × Nat)} (hP : InR n P) {a b : Nat} (ha : a < n) : ld n (cloL n P) a b = ld n P a b := by
  rw [Bool.eq_iff_iff, ld_iff (clo_in n P) ha, ld_iff hP ha]
  constructor
  · exact fun h => h.sub fun x y hxy => by
      have := clo_mem.1 hxy
      exact (ld_iff hP this.1 y).1 this.2.2
  · exact fun h => h.sub fun x y hxy => by
      have := hP _ hxy
      exact .one (clo_mem.2 ⟨this.1, this.2, (ld_iff hP this.1 y).2 (.one hxy)⟩)
/-- Does a relation contain a pair of numbers? -/
def hasQ (P : List (Nat × Nat)) (a b : Int) : Bool := decide (0 ≤ a ∧ 0 ≤ b ∧ (a.toNat, b.toNat) ∈ P)
theorem hasQ_nat {P : List (Nat × Nat)} {a b : Nat} : hasQ P a b = true ↔ (a, b) ∈ P := by
  unfold hasQ
  rw [decide_eq_true_iff]
  exact ⟨fun h => h.2.2, fun h => ⟨by omega, by omega, h⟩⟩
theorem hasQ_iff {P : List (Nat × Nat)} {a b : Int} : hasQ P a b = true ↔ 0 ≤ a ∧ 0 ≤ b ∧ (a.toNat, b.toNat) ∈ P := by
  unfold hasQ
  rw [decide_eq_true_iff]
theorem hasQ_clo {n : Nat} {P : List (Nat × Nat)} {a b : Nat} (ha : a < n) (hb : b < n) : hasQ (cloL n P) a b = ld n P a b := by
  rw [Bool.eq_iff_iff, hasQ_nat, clo_mem]
  exact ⟨fun h => h.2.2, fun h => ⟨ha, hb, h⟩⟩
end Go.Proofs.Ytlijjbcamkhhaaa.Rel
