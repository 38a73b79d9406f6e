/- The plain mathematics of layer 7: the text of a number, and the number that stands in a text. No Go here. -/
import Derived.Test.YtlijjbcamkhhaaaBytS
set_option maxRecDepth 100000
set_option linter.unusedVariables false
namespace Go.Proofs.Ytlijjbcamkhhaaa.Dig
open Go.Lib Go.Proofs.Ytlijjbcamkhhaaa.Utf

/-- The digits of a number. -/
def decL (n : Nat) : List Int := if n < 10 then [48 + (n : Int)] else decL (n / 10) ++ [48 + ((n % 10 : Nat) : Int)]
termination_by n
decreasing_by omega
theorem decL_lt {n : Nat} (h : n < 10) : decL n = [48 + (n : Int)] := by rw [decL, if_pos h]
theorem decL_ge {n : Nat} (h : ¬ n < 10) : decL n = decL (n / 10) ++ [48 + ((n % 10 : Nat) : Int)] := by rw [decL, if_neg h]
/-- Digits all. -/
def Dg (l : List Int) : Prop := ∀ x ∈ l, 48 ≤ x ∧ x ≤ 57
theorem decL_dg : ∀ (k n : Nat), n ≤ k → Dg (decL n)
  | k, n, hk, x, hx => by
    by_cases h : n < 10
    · rw [decL_lt h, List.mem_singleton] at hx; omega
    · cases k with
      | zero => omega
      | succ k =>
        rw [decL_ge h, List.mem_append, List.mem_singleton] at hx
        rcases hx with hx | hx
        · exact decL_dg k (n / 10) (by omega) x hx
        · omega
theorem dec_dg (n : Nat) : Dg (decL n) := decL_dg n n (Nat.le_refl _)
theorem dg_range {l : List Int} (h : Dg l) : ∀ x ∈ l, 0 ≤ x ∧ x < 256 := fun x hx => by have := h x hx; omega
/-- The number that digits write. -/
def valA (a : Nat) (l : List Int) : Nat := l.foldl (fun a x => 10 * a + (x - 48).toNat) a
def valN (l : List Int) : Nat := valA 0 l
theorem valA_cons (a : Nat) (x : Int) (l : List Int) : valA a (x :: l) = valA (10 * a + (x - 48).toNat) l := rfl
theorem valA_append (a : Nat) (l m : List Int) : valA a (l ++ m) = valA (valA a l) m := by unfold valA; rw [List.foldl_append]
theorem valN_snoc (l : List Int) (x : Int) : valN (l ++ [x]) = 10 * valN l + (x - 48).toNat := by unfold valN; rw [valA_append]; rfl
theorem valA_eq : ∀ (l : List Int) (a : Nat), valA a l = a * 10 ^ l.length + valN l
  | [], a => by simp [valA, valN]
  | x :: l, a => by
    unfold valN
    rw [valA_cons, valA_cons, valA_eq l, valA_eq l (10 * 0 + _), List.length_cons, Nat.pow_succ]
    rw [Nat.add_mul, Nat.add_mul, Nat.mul_zero, Nat.zero_mul, Nat.zero_add, Nat.mul_comm 10 a, Nat.mul_assoc, Nat.mul_comm 10, Nat.add_assoc]
theorem valN_cons (x : Int) (l : List Int) : valN (x :: l) = (x - 48).toNat * 10 ^ l.length + valN l := by
  unfold valN
  rw [valA_cons, valA_eq, Nat.mul_zero, Nat.zero_add]
  rfl
theorem val_lt : ∀ {l : List Int}, Dg l → valN l < 10 ^ l.length
  | [], _ => by decide
  | x :: l, h => by
    have h1 := val_lt (l := l) fun y hy => h y (List.mem_cons_of_mem _ hy)
    have h2 := h x List.mem_cons_self
    rw [valN_cons, List.length_cons, Nat.pow_succ]
    have : (x - 48).toNat * 10 ^ l.length ≤ 9 * 10 ^ l.length := Nat.mul_le_mul_right _ (by omega)
    omega
theorem val_ge {x : Int} {l : List Int} (h : 48 ≤ x ∧ x ≤ 57) (h0 : x ≠ 48) : 10 ^ l.length ≤ valN (x :: l) := by
  rw [valN_cons]
  have : 1 * 10 ^ l.length ≤ (x - 48).toNat * 10 ^ l.length := Nat.mul_le_mul_right _ (by omega)
  omega
theorem val_decL : ∀ (k n : Nat), n ≤ k → valN (decL n) = n
  | k, n, hk => by
    by_cases h : n < 10
    · rw [decL_lt h, valN_cons]; simp [valN, valA]; omega
    · cases k with
      | zero => omega
      | succ k => rw [decL_ge h, valN_snoc, val_decL k (n / 10) (by omega)]; omega
theorem val_dec (n : Nat) : valN (decL n) = n := val_decL n n (Nat.le_refl _)
theorem dec_head : ∀ (k n : Nat), n ≤ k → ∃ x l, decL n = x :: l ∧ (x = 48 → n = 0 ∧ l = [])
  | k, n, hk => by
    by_cases h : n < 10
    · exact ⟨_, [], decL_lt h, fun e => ⟨by omega, rfl⟩⟩
    · cases k with
      | zero => omega
      | succ k =>
        obtain ⟨x, l, e, h0⟩ := dec_head k (n / 10) (by omega)
        refine ⟨x, l ++ _, by rw [decL_ge h, e, List.cons_append], fun e2 => ?_⟩
        have := (h0 e2).1
        omega
theorem dec_cons (n : Nat) : ∃ x l, decL n = x :: l ∧ (x = 48 → n = 0 ∧ l = []) := dec_head n n (Nat.le_refl _)
/-- Digits with no 0 ahead are their number's. -/
theorem dec_val : ∀ (k : Nat) (l : List Int), l.length ≤ k → ∀ x, Dg (x :: l) → (x = 48 → l = []) → decL (valN (x :: l)) = x :: l
  | k, l, hk, x, hd, h0 => by
    rcases List.eq_nil_or_concat l with rfl | ⟨m, y, rfl⟩
    · have := hd x List.mem_cons_self
      rw [valN_cons, show valN [] = 0 from rfl, decL_lt (by simp; omega)]
      simp
      omega
    · cases k with
      | zero => simp at hk
      | succ k =>
        rw [List.concat_eq_append] at *
        have hx := hd x List.mem_cons_self
        have hy := hd y (by simp)
        have h1 : x ≠ 48 := fun e => by have := h0 e; simp at this
        have hg := val_ge (l := m) hx h1
        have h2 : 1 ≤ 10 ^ m.length := Nat.one_le_pow _ _ (by decide)
        have e : x :: (m ++ [y]) = (x :: m) ++ [y] := rfl
        have ih := dec_val k m (by simp at hk; omega) x (fun z hz => hd z (by rw [e]; exact List.mem_append_left _ hz)) (fun e => absurd e h1)
        rw [e, valN_snoc, decL_ge (by omega)]
        rw [show (10 * valN (x :: m) + (y - 48).toNat) / 10 = valN (x :: m) by omega, ih]
        congr 2
        omega

/-- Strings of as many digits are in the order of their numbers. -/
def lessL : List Int → List Int → Bool
  | _, [] => false
  | [], _ :: _ => true
  | a :: x, b :: y => decide (a < b) || (decide (a = b) && lessL x y)
theorem less_val : ∀ (x y : List Int), x.length = y.length → Dg x → Dg y → (lessL x y = decide (valN x < valN y))
  | [], [], _, _, _ => rfl
  | [], _ :: _, h, _, _ => by simp at h
  | _ :: _, [], h, _, _ => by simp at h
  | a :: x, b :: y, h, hx, hy => by
    simp only [List.length_cons, Nat.add_right_cancel_iff] at h
    have hx' : Dg x := fun z hz => hx z (List.mem_cons_of_mem _ hz)
    have hy' : Dg y := fun z hz => hy z (List.mem_cons_of_mem _ hz)
    have ih := less_val x y h hx' hy'
    have ha := hx a List.mem_cons_self
    have hb := hy b List.mem_cons_self
    have lx := val_lt hx'
    have ly := val_lt hy'
    rw [lessL, ih, valN_cons, valN_cons, h]
    rw [h] at lx
    by_cases h1 : a < b
    · have : ((a - 48).toNat + 1) * 10 ^ y.length ≤ (b - 48).toNat * 10 ^ y.length := Nat.mul_le_mul_right _ (by omega)
      rw [Nat.add_mul, Nat.one_mul] at this
      rw [decide_eq_true h1, Bool.true_or, decide_eq_true (by omega)]
    · by_cases h2 : a = b
      · subst h2
        rw [decide_eq_false h1, Bool.false_or, decide_eq_true rfl, Bool.true_and]
        simp
      · have : ((b - 48).toNat + 1) * 10 ^ y.length ≤ (a - 48).toNat * 10 ^ y.length := Nat.mul_le_mul_right _ (by omega)
        rw [Nat.add_mul, Nat.one_mul] at this
        rw [decide_eq_false h1, decide_eq_false h2, Bool.false_and, Bool.false_or, decide_eq_false (by omega)]

/-- The text of a number. -/
def putL (n : Int) : List Int := if n < 0 then 45 :: decL n.natAbs else decL n.toNat
def putS (n : Int) : ByteArray := strOfNums (putL n)
theorem putL_range (n : Int) : ∀ x ∈ putL n, 0 ≤ x ∧ x < 256 := by
  intro x hx
  unfold putL at hx
  split at hx
  · rcases List.mem_cons.1 hx with rfl | h
    · omega
    · exact dg_range (dec_dg _) x h
  · exact dg_range (dec_dg _) x hx
theorem bl_put (n : Int) : bl (putS n) = putL n := bl_strOfNums _ (putL_range n)

/-- The longest sequence of digits at an index. -/
def isDB (x : Int) : Bool := decide (48 ≤ x ∧ x ≤ 57)
def dgs (s : ByteArray) (i : Nat) : List Int := ((bl s).drop i).takeWhile isDB
theorem dgs_step {s : ByteArray} {i : Nat} (h : i < s.size) (hd : 48 ≤ byN s i ∧ byN s i ≤ 57) : dgs s i = (byN s i : Int) :: dgs s (i + 1) := by
  unfold dgs
  rw [bl_drop h, List.takeWhile_cons_of_pos (by unfold isDB; simp; omega)]
theorem dgs_stop {s : ByteArray} {i : Nat} (h : i < s.size) (hd : ¬ (48 ≤ byN s i ∧ byN s i ≤ 57)) : dgs s i = [] := by
  unfold dgs
  rw [bl_drop h, List.takeWhile_cons_of_neg (by unfold isDB; simp; omega)]
theorem dgs_end {s : ByteArray} {i : Nat} (h : s.size ≤ i) : dgs s i = [] := by
  unfold dgs
  rw [List.drop_eq_nil_of_le (by rw [bl_length]; exact h)]
  rfl
theorem dgs_dg (s : ByteArray) (i : Nat) : Dg (dgs s i) := fun x hx => by
  have := List.all_takeWhile (p := isDB) (l := (bl s).drop i)
  rw [List.all_eq_true] at this
  have := this x hx
  unfold isDB at this
  simpa using this
theorem dgs_pre (s : ByteArray) (i : Nat) : ∃ r, (bl s).drop i = dgs s i ++ r := by
  obtain ⟨r, h⟩ := List.takeWhile_prefix (l := (bl s).drop i) isDB
  exact ⟨r, h.symm⟩
theorem dgs_len {s : ByteArray} {i : Nat} (h : i ≤ s.size) : i + (dgs s i).length ≤ s.size := by
  obtain ⟨r, e⟩ := dgs_pre s i
  have := congrArg List.length e
  rw [List.length_drop, bl_length, List.length_append] at this
  omega
theorem dgs_ext {s : ByteArray} {i : Nat} (h : i ≤ s.size) : bl (s.extract i (i + (dgs s i).length)) = dgs s i := by
  obtain ⟨r, e⟩ := dgs_pre s i
  rw [bl_extract, List.drop_take, e, show i + (dgs s i).length - i = (dgs s i).length by omega, List.take_left]
theorem dgs_of {s : ByteArray} {i : Nat} {l r : List Int} (h : (bl s).drop i = l ++ r) (hl : Dg l) (hr : ∀ x, r.head? = some x → ¬ (48 ≤ x ∧ x ≤ 57)) : dgs s i = l := by
  unfold dgs
  rw [h, List.takeWhile_append_of_pos (fun x hx => by have := hl x hx; unfold isDB; simpa using this)]
  cases r with
  | nil => simp
  | cons y r => rw [List.takeWhile_cons_of_neg (by have := hr y rfl; unfold isDB; simpa using this), List.append_nil]

/-- What Take answers: the number, the index behind it, the error, its place. -/
def tkN (s : ByteArray) (a : Nat) : Int × Int × Int × Int :=
  let neg := a < s.size ∧ byN s a = 45
  let f := if neg then a + 1 else a
  if dgs s f = [] then (0, 0, if f = s.size then 5 else 19, f)
  else if byN s f = 48 ∧ (1 < (dgs s f).length ∨ neg) then (0, 0, 19, a)
  else if neg then (if 9223372036854775808 < valN (dgs s f) then (0, 0, 13, a) else (-(valN (dgs s f) : Int), (f + (dgs s f).length : Nat), 0, 0))
  else (if 9223372036854775807 < valN (dgs s f) then (0, 0, 13, a) else ((valN (dgs s f) : Int), (f + (dgs s f).length : Nat), 0, 0))
def tkS (s : ByteArray) (i : Int) : Int × Int × Int × Int := if i < 0 ∨ (s.size : Int) < i then (0, 0, 1, 0) else tkN s i.toNat
/-- What Parse answers. -/
def paS (s : ByteArray) : Int × Int × Int :=
  let t := tkS s 0
  if t.2.2.1 ≠ 0 then (0, t.2.2) else if t.2.1 < s.size then (0, 19, t.2.1) else (t.1, 0, 0)

/-- A number is read from its text, whatever stands behind that is no digit. -/
theorem take_put (n : Int) (h1 : -9223372036854775808 ≤ n) (h2 : n ≤ 9223372036854775807) (r : ByteArray) (hr : ∀ x, (bl r).head? = some x → ¬ (48 ≤ x ∧ x ≤ 57)) :
    tkS (putS n ++ r) 0 = (n, (((putS n).size : Nat) : Int), 0, 0) := by
  have hbl : bl (putS n ++ r) = putL n ++ bl r := by rw [bl_append, bl_put]
  have hz : (putS n).size = (putL n).length := by rw [← bl_length, bl_put]
  unfold tkS
  rw [if_neg (by omega), show (0 : Int).toNat = 0 from rfl]
  unfold putL at hbl hz
  by_cases hn : n < 0
  · rw [if_pos hn] at hbl hz
    obtain ⟨x, l, e, h0⟩ := dec_cons n.natAbs
    have hv := val_dec n.natAbs
    have hb0 : byN (putS n ++ r) 0 = 45 := by
      have := byN_head (q := putS n ++ r) (i := 0) (c := 45) (l := decL n.natAbs ++ bl r) (by rw [List.drop_zero, hbl]; rfl)
      omega
    have hd : dgs (putS n ++ r) 1 = decL n.natAbs := dgs_of (r := bl r) (by rw [hbl]; rfl) (dec_dg _) hr
    have hb1 : (byN (putS n ++ r) 1 : Int) = x := byN_head (q := putS n ++ r) (i := 1) (c := x) (l := l ++ bl r) (by rw [hbl, e]; rfl)
    have hs0 : 0 < (putS n ++ r).size := by rw [ByteArray.size_append, hz, List.length_cons]; omega
    unfold tkN
    simp only [hs0, hb0, true_and, if_true, Nat.zero_add, hd]
    rw [if_neg (by rw [e]; simp), if_neg, if_neg (by rw [hv]; omega), hv, hz]
    · simp only [List.length_cons, Prod.mk.injEq, and_true]
      constructor
      · omega
      · omega
    · rintro ⟨a, -⟩
      have := (h0 (by omega)).1
      omega
  · rw [if_neg hn] at hbl hz
    obtain ⟨x, l, e, h0⟩ := dec_cons n.toNat
    have hv := val_dec n.toNat
    have hxd := dec_dg n.toNat x (by rw [e]; exact List.mem_cons_self)
    have hb0 : (byN (putS n ++ r) 0 : Int) = x := byN_head (q := putS n ++ r) (i := 0) (c := x) (l := l ++ bl r) (by rw [List.drop_zero, hbl, e]; rfl)
    have hd : dgs (putS n ++ r) 0 = decL n.toNat := dgs_of (r := bl r) (by rw [List.drop_zero, hbl]) (dec_dg _) hr
    have hneg : ¬ byN (putS n ++ r) 0 = 45 := by omega
    unfold tkN
    simp only [hneg, and_false, if_false, Nat.zero_add, hd, or_false]
    rw [if_neg (by rw [e]; simp), if_neg, if_neg (by rw [hv]; omega), hv, hz]
    · simp only [Prod.mk.injEq, and_true]
      omega
    · rintro ⟨a, b⟩
      rw [e, (h0 (by omega)).2] at b
      simp at b
theorem parse_put (n : Int) (h1 : -9223372036854775808 ≤ n) (h2 : n ≤ 9223372036854775807) : paS (putS n) = (n, 0, 0) := by
  have h := take_put n h1 h2 ByteArray.empty (fun x hx => by simp [bl] at hx)
  rw [ByteArray.append_empty] at h
  unfold paS
  simp only [h]
  rw [if_neg (by decide), if_neg (by omega)]
/-- A text that is a number is that number's. -/
theorem put_parse (s : ByteArray) (h : (paS s).2 = (0, 0)) : putS (paS s).1 = s ∧ -9223372036854775808 ≤ (paS s).1 ∧ (paS s).1 ≤ 9223372036854775807 := by
  unfold paS at h ⊢
  simp only at h ⊢
  have ht : tkS s 0 = tkN s 0 := if_neg (by omega)
  rw [ht] at h ⊢
  by_cases h1 : (tkN s 0).2.2.1 ≠ 0
  · rw [if_pos h1] at h
    exact absurd (congrArg Prod.fst h) h1
  rw [if_neg h1] at h ⊢
  by_cases h2 : (tkN s 0).2.1 < s.size
  · rw [if_pos h2] at h; simp at h
  rw [if_neg h2]
  simp only
  have h3 : (tkN s 0).2.2.1 = 0 := by omega
  clear h h1 ht
  unfold tkN at h3 h2 ⊢
  simp only [Nat.zero_add] at h3 h2 ⊢
  by_cases hneg : 0 < s.size ∧ byN s 0 = 45
  · simp only [hneg, and_self, if_true, or_true, and_true] at h3 h2 ⊢
    obtain ⟨hz, h45⟩ := hneg
    have hl := dgs_len (s := s) (i := 1) (by omega)
    obtain ⟨r, hr⟩ := dgs_pre s 1
    have hdg := dgs_dg s 1
    generalize dgs s 1 = l at *
    by_cases hnil : l = []
    · rw [if_pos hnil] at h3; simp only at h3; split at h3 <;> omega
    rw [if_neg hnil] at h3 h2 ⊢
    by_cases h48 : byN s 1 = 48
    · rw [if_pos h48] at h3; simp at h3
    rw [if_neg h48] at h3 h2 ⊢
    by_cases hbig : 9223372036854775808 < valN l
    · rw [if_pos hbig] at h3; simp at h3
    rw [if_neg hbig] at h2 ⊢
    simp only at h2 ⊢
    have hr0 : r = [] := by
      have := congrArg List.length hr
      rw [List.length_drop, bl_length, List.length_append] at this
      exact List.length_eq_zero_iff.1 (by omega)
    rw [hr0, List.append_nil] at hr
    obtain ⟨x, m, rfl⟩ : ∃ x m, l = x :: m := by cases l with | nil => exact absurd rfl hnil | cons x m => exact ⟨x, m, rfl⟩
    have hx := byN_head hr
    have hxd := hdg x List.mem_cons_self
    have hge := val_ge (l := m) hxd (by omega)
    have hp : 1 ≤ 10 ^ m.length := Nat.one_le_pow _ _ (by decide)
    refine ⟨?_, by omega, by omega⟩
    apply bl_ext
    rw [bl_put]
    unfold putL
    rw [if_pos (by omega), show (-(valN (x :: m) : Int)).natAbs = valN (x :: m) by omega, dec_val _ m (Nat.le_refl _) x hdg (fun e => by omega)]
    rw [← List.drop_zero (l := bl s), bl_drop hz, h45, hr]
    rfl
  · simp only [hneg, if_false, or_false] at h3 h2 ⊢
    have hl := dgs_len (s := s) (i := 0) (by omega)
    obtain ⟨r, hr⟩ := dgs_pre s 0
    have hdg := dgs_dg s 0
    generalize dgs s 0 = l at *
    by_cases hnil : l = []
    · rw [if_pos hnil] at h3; simp only at h3; split at h3 <;> omega
    rw [if_neg hnil] at h3 h2 ⊢
    by_cases h48 : byN s 0 = 48 ∧ 1 < l.length
    · rw [if_pos h48] at h3; simp at h3
    rw [if_neg h48] at h3 h2 ⊢
    by_cases hbig : 9223372036854775807 < valN l
    · rw [if_pos hbig] at h3; simp at h3
    rw [if_neg hbig] at h2 ⊢
    simp only at h2 ⊢
    have hr0 : r = [] := by
      have := congrArg List.length hr
      rw [List.length_drop, bl_length, List.length_append] at this
      exact List.length_eq_zero_iff.1 (by omega)
    rw [hr0, List.append_nil] at hr
    obtain ⟨x, m, rfl⟩ : ∃ x m, l = x :: m := by cases l with | nil => exact absurd rfl hnil | cons x m => exact ⟨x, m, rfl⟩
    have hx := byN_head hr
    refine ⟨?_, by omega, by omega⟩
    apply bl_ext
    rw [bl_put]
    unfold putL
    rw [if_neg (by omega), Int.toNat_natCast, dec_val _ m (Nat.le_refl _) x hdg (fun e => ?_), ← hr, List.drop_zero]
    by_cases hm : m = []
    · exact hm
    · exact absurd ⟨by omega, by have := List.length_pos_iff.2 hm; rw [List.length_cons]; omega⟩ h48
end Go.Proofs.Ytlijjbcamkhhaaa.Dig
