/- The plain mathematics of rows that are words of 64 bits, and of the order by direct pairs. No Go code here. -/
import Derived.Test.YtoeianacjnlepaaRelS
import Derived.Laws.BitsAllLaws
set_option maxRecDepth 100000
set_option linter.unusedVariables false
namespace Go.Proofs.Ytoeianacjnlepaa.Rel

/-- A word of 64 bits. -/
def Wd (x : Nat) : Prop := x < 18446744073709551616
theorem wd_pow {x : Nat} : Wd x ↔ x < 2 ^ 64 := by unfold Wd; rw [show (2 : Nat) ^ 64 = 18446744073709551616 from by decide]
/-- The word of one element. -/
def bitN (a : Nat) : Nat := 2 ^ a
theorem bit_wd {a : Nat} (h : a < 64) : Wd (bitN a) := wd_pow.2 (Nat.pow_lt_pow_right (by decide) h)
theorem bit_pos (a : Nat) : 0 < bitN a := Nat.two_pow_pos a
theorem zero_wd : Wd 0 := by unfold Wd; omega
theorem or_wd {x y : Nat} (hx : Wd x) (hy : Wd y) : Wd (x ||| y) := wd_pow.2 (Nat.or_lt_two_pow (wd_pow.1 hx) (wd_pow.1 hy))
theorem bits_or {x y : Nat} (hx : Wd x) (hy : Wd y) : bits .or .u64 (x : Int) (y : Int) = ((x ||| y : Nat) : Int) := u64_or_nat x y hx hy
theorem bits_and {x y : Nat} (hx : Wd x) (hy : Wd y) : bits .and .u64 (x : Int) (y : Int) = ((x &&& y : Nat) : Int) := u64_and_nat x y hx hy
/-- What one word has and the other has not. -/
def less (x y : Nat) : Nat := x &&& (18446744073709551615 - y)
theorem bits_less {x y : Nat} (hx : Wd x) (hy : Wd y) : bits .andNot .u64 (x : Int) (y : Int) = ((less x y : Nat) : Int) := u64_andNot_nat x y hx hy
theorem wd_bit {x i : Nat} (hx : Wd x) (h : x.testBit i = true) : i < 64 := by
  refine Nat.lt_of_not_le fun q => ?_
  have : x < 2 ^ i := Nat.lt_of_lt_of_le (wd_pow.1 hx) (Nat.pow_le_pow_right (by decide) q)
  rw [Nat.testBit_lt_two_pow this] at h
  cases h
theorem less_bit {x y i : Nat} (hx : Wd x) (hy : Wd y) : (less x y).testBit i = (x.testBit i && !y.testBit i) := by
  unfold less
  rw [Nat.testBit_and]
  cases h : x.testBit i
  · rfl
  · have hi := wd_bit hx h
    have e : 18446744073709551615 - y = 2 ^ 64 - (y + 1) := by unfold Wd at hy; omega
    rw [e, Nat.testBit_two_pow_sub_succ (wd_pow.1 hy), decide_eq_true hi, Bool.true_and]
theorem zero_iff {x : Nat} : x = 0 ↔ ∀ i, x.testBit i = false := by
  constructor
  · rintro rfl i; exact Nat.zero_testBit i
  · intro h; exact Nat.eq_of_testBit_eq fun i => by rw [h i, Nat.zero_testBit]
theorem less_zero {x y : Nat} (hx : Wd x) (hy : Wd y) : less x y = 0 ↔ ∀ i, x.testBit i = true → y.testBit i = true := by
  rw [zero_iff]
  constructor
  · intro h i hi
    have := h i
    rw [less_bit hx hy, hi] at this
    simpa using this
  · intro h i
    rw [less_bit hx hy]
    cases e : x.testBit i
    · rfl
    · rw [h i e]; rfl
theorem bitN_bit (a i : Nat) : (bitN a).testBit i = decide (a = i) := by unfold bitN; rw [Nat.testBit_two_pow]
theorem or_bit (x a i : Nat) : (x ||| bitN a).testBit i = (x.testBit i || decide (a = i)) := by rw [Nat.testBit_or, bitN_bit]
theorem and_bit (x a : Nat) : x &&& bitN a = if x.testBit a then bitN a else 0 := by
  apply Nat.eq_of_testBit_eq
  intro i
  rw [Nat.testBit_and, bitN_bit]
  by_cases h : a = i
  · subst h
    cases hx : x.testBit a
    · simp
    · simp [bitN_bit]
  · cases hx : x.testBit a <;> simp [h, bitN_bit]
theorem or_lt {x y : Nat} (hx : Wd x) (hy : Wd y) (h : less y x ≠ 0) : x < x ||| y := by
  refine Nat.lt_of_le_of_ne Nat.left_le_or fun e => h ((less_zero hy hx).2 fun i hi => ?_)
  rw [e, Nat.testBit_or, hi, Bool.or_true]

/-- The rows of a relation. -/
def Rows (P : List (Nat × Nat)) (f : Nat → Nat) : Prop := ∀ a, a < 64 → Wd (f a) ∧ ∀ b, (f a).testBit b = decide ((a, b) ∈ P)
/-- A row under way: the thing itself, and only what it leads to. -/
def Way (P : List (Nat × Nat)) (a x : Nat) : Prop := Wd x ∧ x.testBit a = true ∧ ∀ i, x.testBit i = true → Lead P a i
theorem Way.one {P : List (Nat × Nat)} {a : Nat} (h : a < 64) : Way P a (bitN a) := ⟨bit_wd h, by rw [bitN_bit]; simp, fun i hi => by
  rw [bitN_bit, decide_eq_true_iff] at hi
  subst hi; exact .refl _⟩
theorem Way.put {P : List (Nat × Nat)} {f : Nat → Nat} {a b x : Nat} (hf : Rows P f) (h : Way P a x) (hb : b < 64) (hx : x.testBit b = true) : Way P a (x ||| f b) := by
  obtain ⟨h1, h2, h3⟩ := h
  obtain ⟨g1, g2⟩ := hf b hb
  refine ⟨or_wd h1 g1, by rw [Nat.testBit_or, h2]; rfl, fun i hi => ?_⟩
  rw [Nat.testBit_or, Bool.or_eq_true, g2, decide_eq_true_iff] at hi
  rcases hi with hi | hi
  · exact h3 i hi
  · exact .step (h3 b hx) hi
theorem Way.fin {n : Nat} {P : List (Nat × Nat)} {f : Nat → Nat} {a x : Nat} (hP : InR n P) (hn : n ≤ 64) (hf : Rows P f) (ha : a < n) (h : Way P a x) (hc : ∀ b, b < n → x.testBit b = true → less (f b) x = 0) (i : Nat) : x.testBit i = ld n P a i := by
  obtain ⟨h1, h2, h3⟩ := h
  have key : x.testBit i = true ↔ Lead P a i := by
    refine ⟨h3 i, fun hl => ?_⟩
    induction hl with
    | refl => exact h2
    | @step b c hl hp ih =>
      have hb : b < n := (hP _ hp).1
      obtain ⟨g1, g2⟩ := hf b (by omega)
      exact (less_zero g1 h1).1 (hc b hb ih) c (by rw [g2]; exact decide_eq_true hp)
  rw [Bool.eq_iff_iff, key, ld_iff hP ha]

/-- The pairs themselves. -/
def dir (P : List (Nat × Nat)) (a b : Nat) : Bool := decide ((a, b) ∈ P)
/-- Where each thing that has been taken stands behind all that lead to it, what may come next hangs on the pairs alone. -/
theorem free_dir {n : Nat} {P : List (Nat × Nat)} (hP : InR n P) {o : List Nat} (h : Ord n (ld n P) o) {a : Nat} (ha : a < n) : free n (dir P) o a = free n (ld n P) o a := by
  rw [Bool.eq_iff_iff, free_iff, free_iff]
  have hdown : ∀ b c, Lead P b c → c < n → c ∈ o → b < n → b ∈ o := by
    intro b c hl hc hco hb
    by_cases e : b = c
    · exact e ▸ hco
    · obtain ⟨i, hi, rfl⟩ := List.getElem_of_mem hco
      exact List.mem_of_mem_take (h.back i 0 hi (by rw [getElem!_pos o i hi]; exact hc) b hb e ((ld_iff hP hb _).2 hl))
  constructor
  · rintro ⟨h1, h2⟩
    refine ⟨h1, fun b hb hne hf => ?_⟩
    have hl := (ld_iff hP hb a).1 hf
    clear hf
    have key : ∀ c, Lead P b c → c = a → b ≠ a → b ∈ o := by
      intro c hc0
      induction hc0 with
      | refl => intro e q; exact absurd e q
      | @step c d hl2 hp ih =>
        intro e q
        subst e
        by_cases hc : c = d
        · exact ih hc q
        · have hcn : c < n := (hP _ hp).1
          exact hdown b c hl2 hcn (h2 c hcn hc (decide_eq_true hp)) hb
    exact key a hl rfl hne
  · rintro ⟨h1, h2⟩
    exact ⟨h1, fun b hb hne hf => h2 b hb hne ((ld_iff hP hb a).2 (.one (of_decide_eq_true hf)))⟩
theorem leastF_congr {p q : Nat → Bool} : ∀ (k i : Nat), (∀ j, j < i + k → p j = q j) → leastF p k i = leastF q k i
  | 0, i, h => rfl
  | k + 1, i, h => by
    rw [leastF, leastF, h i (by omega), leastF_congr k (i + 1) (fun j hj => h j (by omega))]
theorem next_dir {n : Nat} {P : List (Nat × Nat)} (hP : InR n P) {o : List Nat} (h : Ord n (ld n P) o) : nextS n (dir P) o = nextS n (ld n P) o :=
  leastF_congr n 0 fun j hj => free_dir hP h (by omega)
/-- If nothing may come next although not all has been taken, there is a loop. -/
theorem next_loop {n : Nat} {P : List (Nat × Nat)} (hP : InR n P) {o : List Nat} (h : Ord n (ld n P) o) (hl : o.length < n) (hn : nextS n (ld n P) o = -1) : 0 ≤ loopS n (ld n P) := by
  rcases least_cases n (inLoop n (ld n P)) with ⟨e, -⟩ | ⟨m, -, -, -, e⟩
  · have := next_some (fun a h => ld_refl hP h) (fun a b c h1 h2 h3 => ld_trans hP h1) (loop_none.1 e) (miss h.nodup h.lt hl)
    omega
  · unfold loopS; omega
/-- If all has been taken, there is no loop. -/
theorem full_none {n : Nat} {f : Nat → Nat → Bool} {o : List Nat} (h : Ord n f o) (hl : o.length = n) : loopS n f = -1 := by
  refine loop_none.2 fun a b ha hb h1 h2 => Classical.byContradiction fun hne => ?_
  have hall : ∀ c, c < n → c ∈ o := fun c hc => Classical.byContradiction fun q => by
    have h3 : (c :: o).Nodup := List.nodup_cons.2 ⟨q, h.nodup⟩
    have := nodup_le n h3 (fun x hx => by
      rcases List.mem_cons.1 hx with rfl | hx
      · exact hc
      · exact h.lt x hx)
    simp at this
    omega
  obtain ⟨i, hi, ei⟩ := List.getElem_of_mem (hall a ha)
  obtain ⟨j, hj, ej⟩ := List.getElem_of_mem (hall b hb)
  subst ei ej
  rcases Nat.lt_trichotomy i j with q | q | q
  · rw [(h.noback q hj).2] at h2; cases h2
  · subst q; exact hne rfl
  · rw [(h.noback q hi).2] at h1; cases h1
/-- What has been taken, as a word. -/
def Placed (o : List Nat) (x : Nat) : Prop := Wd x ∧ ∀ i, x.testBit i = o.contains i
theorem Placed.nil : Placed [] 0 := ⟨zero_wd, fun i => by rw [Nat.zero_testBit]; rfl⟩
theorem Placed.put {o : List Nat} {x a : Nat} (h : Placed o x) (ha : a < 64) : Placed (o ++ [a]) (x ||| bitN a) := by
  refine ⟨or_wd h.1 (bit_wd ha), fun i => ?_⟩
  rw [or_bit, h.2, Bool.eq_iff_iff, Bool.or_eq_true, decide_eq_true_iff, List.contains_iff_mem, List.contains_iff_mem, List.mem_append, List.mem_singleton]
  constructor
  · rintro (h | h)
    · exact .inl h
    · exact .inr h.symm
  · rintro (h | h)
    · exact .inl h
    · exact .inr h.symm
/-- The things that lead to a thing directly, among the first K. -/
def Col (P : List (Nat × Nat)) (a K x : Nat) : Prop := Wd x ∧ ∀ i, x.testBit i = (decide (i < K) && (!(i == a) && dir P i a))
theorem Col.nil (P : List (Nat × Nat)) (a : Nat) : Col P a 0 0 := ⟨zero_wd, fun i => by rw [Nat.zero_testBit]; simp⟩
theorem Col.skip {P : List (Nat × Nat)} {a K x : Nat} (h : Col P a K x) (hk : K = a ∨ dir P K a = false) : Col P a (K + 1) x := by
  refine ⟨h.1, fun i => ?_⟩
  rw [h.2]
  rcases Nat.lt_trichotomy i K with q | q | q
  · rw [decide_eq_true q, decide_eq_true (by omega : i < K + 1)]
  · subst q
    rcases hk with rfl | hk
    · simp
    · rw [hk]; simp
  · rw [decide_eq_false (by omega : ¬ i < K), decide_eq_false (by omega : ¬ i < K + 1)]
theorem Col.put {P : List (Nat × Nat)} {a K x : Nat} (h : Col P a K x) (hK : K < 64) (h1 : K ≠ a) (h2 : dir P K a = true) : Col P a (K + 1) (x ||| bitN K) := by
  refine ⟨or_wd h.1 (bit_wd hK), fun i => ?_⟩
  rw [or_bit, h.2]
  rcases Nat.lt_trichotomy i K with q | q | q
  · rw [decide_eq_true q, decide_eq_true (by omega : i < K + 1), decide_eq_false (by omega : ¬ K = i), Bool.or_false]
  · subst q
    rw [h2]; simp [h1]
  · rw [decide_eq_false (by omega : ¬ i < K), decide_eq_false (by omega : ¬ i < K + 1), decide_eq_false (by omega : ¬ K = i)]; rfl
theorem col_free {n : Nat} {P : List (Nat × Nat)} {o : List Nat} {a x y : Nat} (h : Col P a n x) (hp : Placed o y) : (!y.testBit a && decide (less x y = 0)) = free n (dir P) o a := by
  rw [Bool.eq_iff_iff, Bool.and_eq_true, decide_eq_true_iff, less_zero h.1 hp.1, free_iff, hp.2]
  simp only [Bool.not_eq_true', ← Bool.not_eq_true, List.contains_iff_mem, h.2, hp.2, Bool.and_eq_true, decide_eq_true_iff, beq_iff_eq]
  constructor
  · rintro ⟨h1, h2⟩; exact ⟨h1, fun b hb hne hf => h2 b ⟨hb, hne, hf⟩⟩
  · rintro ⟨h1, h2⟩; exact ⟨h1, fun b hb => h2 b hb.1 hb.2.1 hb.2.2⟩
end Go.Proofs.Ytoeianacjnlepaa.Rel
