import Derived.Test.YtbochlbgjnmgjaaGreatBytS
import Derived.Test.YtbochlbgjnmgjaaGreatZKinE
import Derived.Test.YtbochlbgjnmgjaaGreatG4
import Derived.Test.YtbochlbgjnmgjaaGreatG2
/- The plain mathematics of layer 7: the text of a number, and the number that stands in a text. No Go here. -/
set_option maxRecDepth 100000
set_option linter.unusedVariables false
namespace Go.Proofs.YtbochlbgjnmgjaaGreat.Dig
open Go.Lib Go.Proofs.YtbochlbgjnmgjaaGreat.Utf

/-- The digits of a number. -/
def decL (n : Nat) : List Int := if n < 10 then [48 + (n : Int)] else decL (n / 10) ++ [48 + ((n % 10 : Nat) : Int)]
termination_by n
decreasing_by omega
theorem decL_lt {n : Nat} (h : n < 10) : decL n = [48 + (n : Int)] := by rw [decL, if_pos h]
theorem decL_ge {n : Nat} (h : ¬ n < 10) : decL n = decL (n / 10) ++ [48 + ((n % 10 : Nat) : Int)] := by rw [decL, if_neg h]
/-- Digits all. -/
def Dg (l : List Int) : Prop := ∀ x ∈ l, 48 ≤ x ∧ x ≤ 57
theorem decL_dg : ∀ (k n : Nat), n ≤ k → Dg (decL n)
  | k, n, hk, x, hx => by
    by_cases h : n < 10
    · rw [decL_lt h, List.mem_singleton] at hx; omega
    · cases k with
      | zero => omega
      | succ k =>
        rw [decL_ge h, List.mem_append, List.mem_singleton] at hx
        rcases hx with hx | hx
        · exact decL_dg k (n / 10) (by omega) x hx
        · omega
theorem dec_dg (n : Nat) : Dg (decL n) := decL_dg n n (Nat.le_refl _)
theorem dg_range {l : List Int} (h : Dg l) : ∀ x ∈ l, 0 ≤ x ∧ x < 256 := fun x hx => by have := h x hx; omega
/-- The number that digits write. -/
def valA (a : Nat) (l : List Int) : Nat := l.foldl (fun a x => 10 * a + (x - 48).toNat) a
def valN (l : List Int) : Nat := valA 0 l
theorem valA_cons (a : Nat) (x : Int) (l : List Int) : valA a (x :: l) = valA (10 * a + (x - 48).toNat) l := rfl
theorem valA_append (a : Nat) (l m : List Int) : valA a (l ++ m) = valA (valA a l) m := by unfold valA; rw [List.foldl_append]
theorem valN_snoc (l : List Int) (x : Int) : valN (l ++ [x]) = 10 * valN l + (x - 48).toNat := by unfold valN; rw [valA_append]; rfl
theorem valA_eq : ∀ (l : List Int) (a : Nat), valA a l = a * 10 ^ l.length + valN l
  | [], a => by simp [valA, valN]
  | x :: l, a => by
    unfold valN
    rw [valA_cons, valA_cons, valA_eq l, valA_eq l (10 * 0 + _), List.length_cons, Nat.pow_succ]
    rw [Nat.add_mul, Nat.add_mul, Nat.mul_zero, Nat.zero_mul, Nat.zero_add, Nat.mul_comm 10 a, Nat.mul_assoc, Nat.mul_comm 10, Nat.add_assoc]
theorem valN_cons (x : Int) (l : List Int) : valN (x :: l) = (x - 48).toNat * 10 ^ l.length + valN l := by
  unfold valN
  rw [valA_cons, valA_eq, Nat.mul_zero, Nat.zero_add]
  rfl
theorem val_ge {x : Int} {l : List Int} (h : 48 ≤ x ∧ x ≤ 57) (h0 : x ≠ 48) : 10 ^ l.length ≤ valN (x :: l) := by
  rw [valN_cons]
  have : 1 * 10 ^ l.length ≤ (x - 48).toNat * 10 ^ l.length := Nat.mul_le_mul_right _ (by omega)
  omega
theorem val_decL : ∀ (k n : Nat), n ≤ k → valN (decL n) = n
  | k, n, hk => by
    by_cases h : n < 10
    · rw [decL_lt h, valN_cons]; simp [valN, valA]; omega
    · cases k with
      | zero => omega
      | succ k => rw [decL_ge h, valN_snoc, val_decL k (n / 10) (by omega)]; omega
theorem val_dec (n : Nat) : valN (decL n) = n := val_decL n n (Nat.le_refl _)
theorem dec_head : ∀ (k n : Nat), n ≤ k → ∃ x l, decL n = x :: l ∧ (x = 48 → n = 0 ∧ l = [])
  | k, n, hk => by
    by_cases h : n < 10
    · exact ⟨_, [], decL_lt h, fun e => ⟨by omega, rfl⟩⟩
    · cases k with
      | zero => omega
      | succ k =>
        obtain ⟨x, l, e, h0⟩ := dec_head k (n / 10) (by omega)
        refine ⟨x, l ++ _, by rw [decL_ge h, e, List.cons_append], fun e2 => ?_⟩
        have := (h0 e2).1
        omega
theorem dec_cons (n : Nat) : ∃ x l, decL n = x :: l ∧ (x = 48 → n = 0 ∧ l = []) := dec_head n n (Nat.le_refl _)
/-- Strings of as many digits are in the order of their numbers. -/
def lessL : List Int → List Int → Bool
  | _, [] => false
  | [], _ :: _ => true
  | a :: x, b :: y => decide (a < b) || (decide (a = b) && lessL x y)
/-- The text of a number. -/
def putL (n : Int) : List Int := if n < 0 then 45 :: decL n.natAbs else decL n.toNat
def putS (n : Int) : ByteArray := strOfNums (putL n)
theorem putL_range (n : Int) : ∀ x ∈ putL n, 0 ≤ x ∧ x < 256 := by
  intro x hx
  unfold putL at hx
  split at hx
  · rcases List.mem_cons.1 hx with rfl | h
    · omega
    · exact dg_range (dec_dg _) x h
  · exact dg_range (dec_dg _) x hx
theorem bl_put (n : Int) : bl (putS n) = putL n := bl_strOfNums _ (putL_range n)

/-- The longest sequence of digits at an index. -/
def isDB (x : Int) : Bool := decide (48 ≤ x ∧ x ≤ 57)
def dgs (s : ByteArray) (i : Nat) : List Int := ((bl s).drop i).takeWhile isDB
theorem dgs_step {s : ByteArray} {i : Nat} (h : i < s.size) (hd : 48 ≤ byN s i ∧ byN s i ≤ 57) : dgs s i = (byN s i : Int) :: dgs s (i + 1) := by
  unfold dgs
  rw [bl_drop h, List.takeWhile_cons_of_pos (by unfold isDB; simp; omega)]
theorem dgs_stop {s : ByteArray} {i : Nat} (h : i < s.size) (hd : ¬ (48 ≤ byN s i ∧ byN s i ≤ 57)) : dgs s i = [] := by
  unfold dgs
  rw [bl_drop h, List.takeWhile_cons_of_neg (by unfold isDB; simp; omega)]
theorem dgs_end {s : ByteArray} {i : Nat} (h : s.size ≤ i) : dgs s i = [] := by
  unfold dgs
  rw [List.drop_eq_nil_of_le (by rw [bl_length]; exact h)]
  rfl
/-- What Take answers: the number, the index behind it, the error, its place. -/
def tkN (s : ByteArray) (a : Nat) : Int × Int × Int × Int :=
  let neg := a < s.size ∧ byN s a = 45
  let f := if neg then a + 1 else a
  if dgs s f = [] then (0, 0, if f = s.size then 5 else 19, f)
  else if byN s f = 48 ∧ (1 < (dgs s f).length ∨ neg) then (0, 0, 19, a)
  else if neg then (if 9223372036854775808 < valN (dgs s f) then (0, 0, 13, a) else (-(valN (dgs s f) : Int), (f + (dgs s f).length : Nat), 0, 0))
  else (if 9223372036854775807 < valN (dgs s f) then (0, 0, 13, a) else ((valN (dgs s f) : Int), (f + (dgs s f).length : Nat), 0, 0))
def tkS (s : ByteArray) (i : Int) : Int × Int × Int × Int := if i < 0 ∨ (s.size : Int) < i then (0, 0, 1, 0) else tkN s i.toNat
/-- What Parse answers. -/
def paS (s : ByteArray) : Int × Int × Int :=
  let t := tkS s 0
  if t.2.2.1 ≠ 0 then (0, t.2.2) else if t.2.1 < s.size then (0, 19, t.2.1) else (t.1, 0, 0)

end Go.Proofs.YtbochlbgjnmgjaaGreat.Dig

/- The plain mathematics of layer 17: types with which nothing is wrong; the text of one. No Go here. -/
set_option maxRecDepth 100000
set_option linter.unusedVariables false
namespace Go.Proofs.YtbochlbgjnmgjaaGreat.Unp
open Go.Proofs.YtbochlbgjnmgjaaGreat.Nam Go.Proofs.YtbochlbgjnmgjaaGreat.Lat Go.Proofs.YtbochlbgjnmgjaaGreat.Kin

/-! ### Nothing is wrong -/
def okW (l : List Wr) : Prop := l.length ≤ 32 ∧ ∀ x ∈ l, rightS x.1 = true
def okC (p : PH) : Prop := (p.ck = 0 ∧ p.cn = 0 ∧ p.cl = []) ∨ ((p.ck = 1 ∧ 1 ≤ p.cn) ∨ (p.ck = 2 ∧ 0 ≤ p.cn ∧ p.cn ≤ 4096) ∨ (p.ck = 3 ∧ p.cn = 0)) ∧ okW p.cl
/-- What holds of a type itself, and of how many parts it has. -/
def okH (h : TH) (k : Ft) : Prop :=
  1 ≤ h.kind ∧ h.kind ≤ 9 ∧ ownB h k = true ∧ (h.kind = 2 → h.lo ≤ h.hi) ∧ (h.kind = 3 → 0 ≤ h.most ∧ h.most ≤ 4096) ∧ (h.kind = 5 → 0 ≤ h.most ∧ h.most ≤ 1024) ∧ (h.kind = 9 → rightS h.name = true) ∧
  (h.kind = 4 → h.names ≠ [] ∧ h.names.length ≤ 64 ∧ ∀ x ∈ h.names, rightS x.1 = true) ∧ (h.kind = 5 ∨ h.kind = 6 → onlyB k = true) ∧ (h.kind = 7 ∨ h.kind = 8 → k.len ≤ 64) ∧ (h.kind = 8 → k.len ≠ 0)
/-- What holds of a part of a record or a union. -/
def okP (K : Int) (p : PH) (h : TH) (k : Ft) : Prop :=
  rightS p.name = true ∧ (p.bare = true → K = 8 ∧ zeroB h k = true ∧ plainB p bPH = true) ∧ (p.bare = false → 0 ≤ p.wide ∧ p.wide ≤ 64 ∧ okW p.label ∧ okC p)
def okF : Int → Ft → Prop
  | _, .nil => True
  | K, .cons p h k r => (K = 7 ∨ K = 8 → okP K p h k) ∧ (p.bare = false → okH h k ∧ okF h.kind k) ∧ okF K r
def okT (h : TH) (k : Ft) : Prop := okH h k ∧ okF h.kind k

theorem labG_ok : ∀ (l : List Wr) (i : Nat), (labG i l).1 = 0 → i ≤ 32 → (i + l.length ≤ 32) ∧ ∀ x ∈ l, rightS x.1 = true
  | [], i, _, hi => ⟨by simpa using hi, by simp⟩
  | x :: r, i, h, hi => by
    unfold labG at h
    split at h
    · cases h
    · split at h
      · cases h
      · rename_i a b
        obtain ⟨h1, h2⟩ := labG_ok r (i + 1) h (by omega)
        refine ⟨by simp only [List.length_cons]; omega, fun y hy => ?_⟩
        rcases List.mem_cons.1 hy with rfl | q
        · simpa using b
        · exact h2 y q
theorem labG_of : ∀ (l : List Wr) (i : Nat), i + l.length ≤ 32 → (∀ x ∈ l, rightS x.1 = true) → labG i l = (0, 0)
  | [], i, _, _ => rfl
  | x :: r, i, h, hr => by
    simp only [List.length_cons] at h
    unfold labG
    rw [if_neg (by omega), if_neg (by simp [hr x (by simp)])]
    exact labG_of r (i + 1) (by omega) fun y hy => hr y (by simp [hy])
theorem labelC_ok (l : List Wr) : (labelC l).1 = 0 ↔ okW l := ⟨fun h => by have := labG_ok l 0 h (by omega); exact ⟨by omega, this.2⟩, fun h => by unfold labelC; rw [labG_of l 0 (by have := h.1; omega) h.2]⟩
theorem coarC_ok (p : PH) : (coarC p).1 = 0 ↔ okC p := by
  unfold coarC okC
  by_cases h0 : p.ck = 0
  · rw [if_pos h0]
    by_cases h1 : p.cn ≠ 0 ∨ p.cl ≠ []
    · rw [if_pos h1]
      constructor
      · intro q; cases q
      · rintro (⟨-, a, b⟩ | ⟨a, -⟩)
        · rcases h1 with q | q
          · exact absurd a q
          · exact absurd b q
        · omega
    · rw [if_neg h1]
      have : p.cn = 0 ∧ p.cl = [] := by
        constructor
        · exact Classical.byContradiction fun q => h1 (.inl q)
        · exact Classical.byContradiction fun q => h1 (.inr q)
      exact ⟨fun _ => .inl ⟨h0, this⟩, fun _ => rfl⟩
  · rw [if_neg h0]
    split
    · rename_i a
      exact ⟨fun q => (by cases q), fun q => by omega⟩
    · split
      · rename_i a b
        exact ⟨fun q => (by cases q), fun q => by omega⟩
      · rename_i a b
        rw [labelC_ok]
        exact ⟨fun q => .inr ⟨by omega, q⟩, fun q => by
          rcases q with q | q
          · omega
          · exact q.2⟩
/-- Two answers that are the same when one of them is that nothing is wrong. -/
def Both (a b : Res) : Prop := (a.1 = 0 ∨ b.1 = 0) → a = b
theorem enumF_ok (ns : List ByteArray) : ∀ (l : List Wr) (i : Nat), (enumF ns i l).1 = 0 → ∀ j, j < l.length → listedS ns (i + j) = 0
  | [], _, _ => fun j hj => by simp at hj
  | x :: r, i, h => fun j hj => by
    unfold enumF at h
    split at h
    · rename_i a; exact absurd h a
    · rename_i a
      cases j with
      | zero => simpa using a
      | succ j => have := enumF_ok ns r (i + 1) h j (by simpa using hj); rw [show i + (j + 1) = i + 1 + j by omega]; exact this
theorem listed_right {ns : List ByteArray} {i : Nat} (h : listedS ns i = 0) : rightS (ns.getD i ByteArray.empty) = true := by
  unfold listedS at h
  split at h
  · cases h
  · rename_i a; simpa using a
theorem enum_right {l : List Wr} (h : (enumF (nms l) 0 l).1 = 0) : ∀ x ∈ l, rightS x.1 = true := fun x hx => by
  obtain ⟨j, hj, rfl⟩ := List.mem_iff_getElem.1 hx
  have := listed_right (enumF_ok _ _ _ h j hj)
  rw [Nat.zero_add] at this
  rw [List.getD_eq_getElem?_getD, nms_get hj, wN_get hj] at this
  exact this
theorem wrB_okH {h : TH} {k : Ft} {sub : Mo → Nat → Nat → Res} {d m : Nat} (e : (wrB h k sub d m).1 = 0) : okH h k ∧ d ≤ 24 ∧ m + 1 ≤ 512 ∧
    ((h.kind = 5 ∨ h.kind = 6) → wrB h k sub d m = sub .one (d + 1) (m + 1)) ∧ ((h.kind = 7 ∨ h.kind = 8) → wrB h k sub d m = sub (.parts h.kind (nms (pnm k)) 0) (d + 1) (m + 1)) ∧ (h.kind < 5 ∨ h.kind = 9 → (wrB h k sub d m).2.2 = m + 1) := by
  have h1 : ¬ 24 < d := fun q => by unfold wrB at e; rw [if_pos q] at e; cases e
  have h2 : ¬ 512 < m + 1 := fun q => by unfold wrB at e; rw [if_neg h1, if_pos q] at e; cases e
  have h3 : ¬ (h.kind < 1 ∨ 9 < h.kind) := fun q => by unfold wrB at e; rw [if_neg h1, if_neg h2, if_pos q] at e; cases e
  have h4 : ¬ (ownB h k = false) := fun q => by unfold wrB at e; rw [if_neg h1, if_neg h2, if_neg h3, if_pos q] at e; cases e
  have ho : ownB h k = true := by simpa using h4
  have ek := wrB_ok (h := h) (k := k) (sub := sub) (d := d) (m := m) (M := m + 1) rfl (by omega) (by omega) (by omega) (by omega) ho
  unfold okH
  by_cases k1 : h.kind = 1
  · exact ⟨⟨by omega, by omega, ho, by omega, by omega, by omega, by omega, by omega, by omega, by omega, by omega⟩, by omega, by omega, by omega, by omega, fun _ => by rw [wrB_1 rfl (by omega) (by omega) ho k1]⟩
  by_cases k2 : h.kind = 2
  · have e2 := wrB_2 (sub := sub) (d := d) (m := m) (M := m + 1) rfl (by omega) (by omega) ho k2
    rw [e2] at e
    by_cases c : h.hi < h.lo
    · rw [if_pos c] at e; cases e
    · rw [if_neg c] at e2
      exact ⟨⟨by omega, by omega, ho, by omega, by omega, by omega, by omega, by omega, by omega, by omega, by omega⟩, by omega, by omega, by omega, by omega, fun _ => by rw [e2]⟩
  by_cases k3 : h.kind = 3
  · have e2 := wrB_3 (sub := sub) (d := d) (m := m) (M := m + 1) rfl (by omega) (by omega) ho k3
    rw [e2] at e
    by_cases c : h.most < 0 ∨ 4096 < h.most
    · rw [if_pos c] at e; cases e
    · rw [if_neg c] at e2
      exact ⟨⟨by omega, by omega, ho, by omega, by omega, by omega, by omega, by omega, by omega, by omega, by omega⟩, by omega, by omega, by omega, by omega, fun _ => by rw [e2]⟩
  by_cases k4 : h.kind = 4
  · have e2 := wrB_4 (sub := sub) (d := d) (m := m) (M := m + 1) rfl (by omega) (by omega) ho k4
    rw [e2] at e
    by_cases c : h.names = []
    · rw [if_pos c] at e; cases e
    · rw [if_neg c] at e e2
      by_cases c2 : 64 < h.names.length
      · rw [if_pos c2] at e; cases e
      · rw [if_neg c2] at e e2
        exact ⟨⟨by omega, by omega, ho, by omega, by omega, by omega, by omega, fun _ => ⟨c, by omega, enum_right e⟩, by omega, by omega, by omega⟩, by omega, by omega, by omega, by omega, fun _ => by rw [e2]⟩
  by_cases k9 : h.kind = 9
  · have e2 := wrB_9 (sub := sub) (d := d) (m := m) (M := m + 1) rfl (by omega) (by omega) ho k9
    rw [e2] at e
    by_cases c : rightS h.name = false
    · rw [if_pos c] at e; cases e
    · rw [if_neg c] at e2
      exact ⟨⟨by omega, by omega, ho, by omega, by omega, by omega, fun _ => by simpa using c, by omega, by omega, by omega, by omega⟩, by omega, by omega, by omega, by omega, fun _ => by rw [e2]⟩
  by_cases k5 : h.kind = 5 ∨ h.kind = 6
  · have e2 := wrB_5 (sub := sub) (d := d) (m := m) (M := m + 1) rfl (by omega) (by omega) ho k5
    rw [e2] at e
    by_cases c : onlyB k = false
    · rw [if_pos c] at e; cases e
    · rw [if_neg c] at e e2
      by_cases c2 : h.most < 0 ∨ 1024 < h.most
      · rw [if_pos c2] at e; cases e
      · rw [if_neg c2] at e2
        exact ⟨⟨by omega, by omega, ho, by omega, by omega, by omega, by omega, by omega, fun _ => by simpa using c, by omega, by omega⟩, by omega, by omega, fun _ => e2, by omega, by omega⟩
  · have k7 : h.kind = 7 ∨ h.kind = 8 := by omega
    have e2 : wrB h k sub d m = if h.kind = 8 ∧ k.len = 0 then (15, h.at_, m + 1) else if 64 < k.len then (8, (wN (pnm k) 64).2, m + 1) else sub (.parts h.kind (nms (pnm k)) 0) (d + 1) (m + 1) := by
      unfold wrB
      rw [if_neg h1, if_neg h2, if_neg h3, if_neg h4, if_neg (by omega), if_neg (by omega), if_neg k4, if_neg k5, if_pos k7]
    rw [e2] at e
    by_cases c : h.kind = 8 ∧ k.len = 0
    · rw [if_pos c] at e; cases e
    · rw [if_neg c] at e e2
      by_cases c2 : 64 < k.len
      · rw [if_pos c2] at e; cases e
      · rw [if_neg c2] at e2
        exact ⟨⟨by omega, by omega, ho, by omega, by omega, by omega, by omega, by omega, by omega, by omega, by omega⟩, by omega, by omega, by omega, fun _ => e2, by omega⟩
theorem plain_bare {p q : PH} (h : plainB p q = true) : p.bare = q.bare := by
  unfold plainB at h
  simp only [Bool.and_eq_true] at h
  simpa using h.1.1.1.1.1
theorem only_cons {f : Ft} (h : onlyB f = true) : ∃ p x k, f = .cons p x k .nil ∧ p.name = ByteArray.empty ∧ plainB p zPH = true ∧ p.bare = false := by
  cases f with
  | nil => cases h
  | cons p x k r =>
    cases r with
    | cons => cases h
    | nil =>
      unfold onlyB at h
      simp only [Bool.and_eq_true, decide_eq_true_eq] at h
      exact ⟨p, x, k, rfl, h.1, h.2, plain_bare h.2⟩
def Fine (sub : Ft → Mo → Nat → Nat → Res) (f : Ft) : Prop :=
  (∀ (K : Int) (ns : List ByteArray) (i d m : Nat), K = 7 ∨ K = 8 → nms (pnm f) = ns.drop i → (sub f (.parts K ns i) d m).1 = 0 → okF K f ∧ (sub f (.parts K ns i) d m).2.2 = m + cntF f ∧ (depF f = 0 ∨ d + depF f ≤ 25)) ∧
  (∀ (K : Int) (d m : Nat), K ≠ 7 → K ≠ 8 → onlyB f = true → (sub f .one d m).1 = 0 → okF K f ∧ (sub f .one d m).2.2 = m + cntF f ∧ d + depF f ≤ 25)
theorem wcB_ok {h : TH} {k : Ft} (ih : Fine wcF k) {d m : Nat} (e : (wrB h k (wcF k) d m).1 = 0) : okT h k ∧ (wrB h k (wcF k) d m).2.2 = m + 1 + cntF k ∧ d + depF k ≤ 24 := by
  obtain ⟨h1, h2, h3, h4, h5, h6⟩ := wrB_okH e
  have hk := h1.1
  have hk9 := h1.2.1
  by_cases c : h.kind = 5 ∨ h.kind = 6
  · rw [h4 c] at e ⊢
    have ho := h1.2.2.2.2.2.2.2.2.1 c
    obtain ⟨a, b, z⟩ := ih.2 h.kind _ _ (by omega) (by omega) ho e
    exact ⟨⟨h1, a⟩, b, by omega⟩
  · by_cases c2 : h.kind = 7 ∨ h.kind = 8
    · rw [h5 c2] at e ⊢
      obtain ⟨a, b, z⟩ := ih.1 h.kind _ 0 _ _ c2 (by simp) e
      refine ⟨⟨h1, a⟩, b, ?_⟩
      rcases z with z | z
      · omega
      · omega
    · have hl : k.len = 0 := by
        have := h1.2.2.1
        unfold ownB at this
        simp only [decide_eq_true_eq] at this
        rcases this.2.2.2.1 with q | q
        · omega
        · exact q
      obtain rfl := Fo.len_zero hl
      refine ⟨⟨h1, trivial⟩, ?_, ?_⟩
      · rw [h6 (by omega)]; rfl
      · show d + 0 ≤ 24; omega
theorem fineC : ∀ f : Ft, Fine wcF f
  | .nil => ⟨fun K ns i d m _ _ _ => ⟨trivial, rfl, .inl rfl⟩, fun K d m _ _ h _ => by cases h⟩
  | .cons p h k r => by
    have ik := fineC k
    have ir := fineC r
    refine ⟨fun K ns i d m hK hn e => ?_, fun K d m h7 h8 ho e => ?_⟩
    · have hn1 : p.name = ns.getD i ByteArray.empty := by
        have := congrArg (fun l => l.head?) hn
        rw [List.head?_drop] at this
        rw [List.getD_eq_getElem?_getD, ← this]
        rfl
      have hn2 : nms (pnm r) = ns.drop (i + 1) := by
        rw [← List.drop_drop, ← hn] <;> rfl
      unfold wcF at e ⊢
      by_cases c1 : listedS ns i ≠ 0
      · rw [if_pos c1] at e; exact absurd e c1
      rw [if_neg c1] at e ⊢
      have hr : rightS p.name = true := by rw [hn1]; exact listed_right (by simpa using c1)
      rcases (Bool.eq_false_or_eq_true p.bare).symm with hb | hb
      · rw [if_neg (by rw [hb]; decide)] at e ⊢
        by_cases c2 : p.wide < 0 ∨ 64 < p.wide
        · rw [if_pos c2] at e; cases e
        rw [if_neg c2] at e ⊢
        by_cases c3 : (labelC p.label).1 ≠ 0
        · rw [if_pos c3] at e; exact absurd e c3
        rw [if_neg c3] at e ⊢
        by_cases c4 : (coarC p).1 ≠ 0
        · rw [if_pos c4] at e; exact absurd e c4
        rw [if_neg c4] at e ⊢
        by_cases c5 : (wrB h k (wcF k) d m).1 ≠ 0
        · rw [if_pos c5] at e; exact absurd e c5
        rw [if_neg c5] at e ⊢
        obtain ⟨a1, a2, a3⟩ := wcB_ok ik (by simpa using c5)
        obtain ⟨b1, b2, b3⟩ := ir.1 K ns (i + 1) d _ hK hn2 e
        refine ⟨⟨fun _ => ⟨hr, fun q => by rw [hb] at q; (try cases q), fun _ => ⟨by omega, by omega, (labelC_ok _).1 (by simpa using c3), (coarC_ok _).1 (by simpa using c4)⟩⟩, fun _ => a1, b1⟩, ?_, ?_⟩
        · rw [b2, a2]
          show _ = m + ((if p.bare then 0 else cntF k + 1) + cntF r)
          rw [hb, if_neg (by decide)]
          omega
        · have e1 : depF (.cons p h k r) = max (if p.bare then 0 else depF k + 1) (depF r) := rfl
          rw [e1, hb, if_neg (by decide)]
          omega
      · rw [if_pos hb] at e ⊢
        by_cases c2 : K = 7 ∨ zeroB h k = false ∨ plainB p bPH = false
        · rw [if_pos c2] at e; cases e
        rw [if_neg c2] at e ⊢
        obtain ⟨b1, b2, b3⟩ := ir.1 K ns (i + 1) d _ hK hn2 e
        refine ⟨⟨fun _ => ⟨hr, fun _ => ⟨by omega, ?_, ?_⟩, fun q => by rw [hb] at q; cases q⟩, fun q => by rw [hb] at q; (try cases q), b1⟩, ?_, ?_⟩
        · cases hz : zeroB h k
          · exact absurd (.inr (.inl hz)) c2
          · rfl
        · cases hz : plainB p bPH
          · exact absurd (.inr (.inr hz)) c2
          · rfl
        · rw [b2]
          show _ = m + ((if p.bare then 0 else cntF k + 1) + cntF r)
          rw [hb, if_pos rfl]
          omega
        · have e1 : depF (.cons p h k r) = max (if p.bare then 0 else depF k + 1) (depF r) := rfl
          rw [e1, hb, if_pos rfl]
          omega
    · obtain ⟨p', x', k', e1, -, -, hb⟩ := only_cons ho
      simp only [Fo.cons.injEq] at e1
      obtain ⟨rfl, rfl, rfl, rfl⟩ := e1
      unfold wcF at e ⊢
      obtain ⟨a1, a2, a3⟩ := wcB_ok ik e
      refine ⟨⟨fun q => by omega, fun _ => a1, trivial⟩, ?_, ?_⟩
      · rw [a2]
        show _ = m + ((if p.bare then 0 else cntF k + 1) + 0)
        rw [hb, if_neg (by decide)]
        omega
      · have e1 : depF (.cons p h k .nil) = max (if p.bare then 0 else depF k + 1) 0 := rfl
        rw [e1, hb, if_neg (by decide)]
        omega
/-- A type with which nothing is wrong. -/
theorem wc_ok {h : TH} {k : Ft} (e : (wrB h k (wcF k) 1 0).1 = 0) : okT h k ∧ 1 + cntF k ≤ 512 ∧ 1 + depF k ≤ 24 := by
  obtain ⟨a, b, c⟩ := wcB_ok (fineC k) e
  have := wrB_cnt h k (wcF k) (fun mo d m => wcF_cnt k mo d m) 1 0 e
  exact ⟨a, by omega, c⟩
end Go.Proofs.YtbochlbgjnmgjaaGreat.Unp

/- The plain mathematics of layer 17: texts. No Go here. -/
set_option maxRecDepth 100000
set_option linter.unusedVariables false
namespace Go.Proofs.YtbochlbgjnmgjaaGreat.Unp
open Go.Lib Go.Proofs.YtbochlbgjnmgjaaGreat.Nam Go.Proofs.YtbochlbgjnmgjaaGreat.Lat Go.Proofs.YtbochlbgjnmgjaaGreat.Kin Go.Proofs.YtbochlbgjnmgjaaGreat.Dig

/-- Texts with a mark between each two, from the i-th on. -/
def sepT {α : Type} (m : ByteArray) (f : α → ByteArray) : Nat → List α → ByteArray
  | _, [] => ByteArray.empty
  | i, x :: l => (if i = 0 then f x else m ++ f x) ++ sepT m f (i + 1) l
abbrev tPlus : ByteArray := ⟨#[43]⟩
abbrev tComma : ByteArray := ⟨#[44, 32]⟩
abbrev tAt : ByteArray := ⟨#[32, 64]⟩
abbrev tHash : ByteArray := ⟨#[32, 35]⟩
abbrev tFloor : ByteArray := ⟨#[32, 126, 102, 108, 111, 111, 114, 40]⟩
abbrev tFirst : ByteArray := ⟨#[32, 126, 102, 105, 114, 115, 116, 40]⟩
abbrev tCount : ByteArray := ⟨#[32, 126, 99, 111, 117, 110, 116]⟩
abbrev tLpar : ByteArray := ⟨#[40]⟩
abbrev tRpar : ByteArray := ⟨#[41]⟩
abbrev tRbrace : ByteArray := ⟨#[125]⟩
abbrev tColon : ByteArray := ⟨#[58, 32]⟩
abbrev tDots : ByteArray := ⟨#[46, 46]⟩
abbrev tBool : ByteArray := ⟨#[98, 111, 111, 108]⟩
abbrev tInt : ByteArray := ⟨#[105, 110, 116, 40]⟩
abbrev tText : ByteArray := ⟨#[116, 101, 120, 116, 40]⟩
abbrev tEnum : ByteArray := ⟨#[101, 110, 117, 109, 40]⟩
abbrev tList : ByteArray := ⟨#[108, 105, 115, 116, 40]⟩
abbrev tOpt : ByteArray := ⟨#[111, 112, 116, 40]⟩
abbrev tRecord : ByteArray := ⟨#[114, 101, 99, 111, 114, 100, 123]⟩
abbrev tUnion : ByteArray := ⟨#[117, 110, 105, 111, 110, 123]⟩
abbrev tRef : ByteArray := ⟨#[114, 101, 102, 40]⟩
abbrev wrs (m : ByteArray) (l : List Wr) : ByteArray := sepT m (·.1) 0 l
def lblT (l : List Wr) : ByteArray := if l = [] then ByteArray.empty else tAt ++ wrs tPlus l
def widT (n : Int) : ByteArray := if n = 0 then ByteArray.empty else tHash ++ putS n
def coaT (k n : Int) : ByteArray := if k = 1 then tFloor ++ putS n ++ tRpar else if k = 2 then tFirst ++ putS n ++ tRpar else if k = 3 then tCount else ByteArray.empty
def mrkT (p : PH) : ByteArray := lblT p.label ++ widT p.wide ++ coaT p.ck p.cn ++ lblT p.cl
def fldT (p : PH) (t : ByteArray) : ByteArray := p.name ++ tColon ++ t ++ mrkT p
def tagT (p : PH) (t : ByteArray) : ByteArray := if p.bare then p.name else p.name ++ tLpar ++ t ++ tRpar ++ mrkT p
/-- A part, and its type's text. -/
abbrev Px := PH × ByteArray
def oneT : List Px → ByteArray
  | [] => ByteArray.empty
  | x :: _ => x.2
def nodT (h : TH) (ps : List Px) : ByteArray :=
  if h.kind = 1 then tBool
  else if h.kind = 2 then tInt ++ putS h.lo ++ tDots ++ putS h.hi ++ tRpar
  else if h.kind = 3 then tText ++ putS h.most ++ tRpar
  else if h.kind = 4 then tEnum ++ wrs tComma h.names ++ tRpar
  else if h.kind = 5 then tList ++ oneT ps ++ tComma ++ putS h.most ++ tRpar
  else if h.kind = 6 then tOpt ++ oneT ps ++ tRpar
  else if h.kind = 7 then tRecord ++ sepT tComma (fun x => fldT x.1 x.2) 0 ps ++ tRbrace
  else if h.kind = 8 then tUnion ++ sepT tComma (fun x => tagT x.1 x.2) 0 ps ++ tRbrace
  else tRef ++ h.name ++ tRpar
def txF : Ft → List Px
  | .nil => []
  | .cons p h k r => (p, nodT h (txF k)) :: txF r
/-- A type's text. -/
def txT (h : TH) (k : Ft) : ByteArray := nodT h (txF k)
theorem txF_len : ∀ f : Ft, (txF f).length = f.len
  | .nil => rfl
  | .cons p h k r => by simp [txF, Fo.len, txF_len r]
theorem sep_drop {α : Type} {m : ByteArray} {f : α → ByteArray} {l : List α} {i : Nat} (h : i < l.length) : sepT m f i (l.drop i) = (if i = 0 then f l[i] else m ++ f l[i]) ++ sepT m f (i + 1) (l.drop (i + 1)) := by
  rw [List.drop_eq_getElem_cons h]
  rfl
theorem sep_end {α : Type} {m : ByteArray} {f : α → ByteArray} {l : List α} : sepT m f l.length (l.drop l.length) = ByteArray.empty := by rw [List.drop_length]; rfl
/-! ### How long texts are -/
theorem sep_size {α : Type} {m : ByteArray} {f : α → ByteArray} {B : Nat} : ∀ (l : List α) (i : Nat), (∀ x ∈ l, m.size + (f x).size ≤ B) → (sepT m f i l).size ≤ B * l.length
  | [], _, _ => by simp [sepT]
  | x :: l, i, h => by
    have h1 := sep_size l (i + 1) fun y hy => h y (by simp [hy])
    have h2 := h x (by simp)
    unfold sepT
    rw [ByteArray.size_append, List.length_cons, Nat.mul_succ]
    split
    · omega
    · rw [ByteArray.size_append]; omega
theorem right_size {s : ByteArray} (h : rightS s = true) : s.size ≤ 32 := by
  unfold rightS at h
  simp only [decide_eq_true_eq] at h
  exact h.2.1
theorem dec_size (n : Nat) : ∀ k, n < 10 ^ (k + 1) → (decL n).length ≤ k + 1 := by
  intro k
  induction k generalizing n with
  | zero => intro h; unfold decL; rw [if_pos (by omega)]; simp
  | succ k ih =>
    intro h
    unfold decL
    by_cases c : n < 10
    · rw [if_pos c]; simp
    · rw [if_neg c, List.length_append]
      have := ih (n / 10) (by rw [Nat.div_lt_iff_lt_mul (by decide)]; rw [Nat.pow_succ] at h; exact h)
      simp only [List.length_cons, List.length_nil]
      omega
theorem put_sz {n : Int} (h : I64 n) : (putS n).size ≤ 30 := by
  obtain ⟨h1, h2⟩ := h
  have e : (putS n).size = (putL n).length := by
    have := congrArg List.length (bl_put n)
    rw [← this]
    simp [Utf.bl]
  rw [e]
  unfold putL
  have a : ∀ m : Nat, m ≤ 9223372036854775808 → (decL m).length ≤ 19 := fun m hm => dec_size m 18 (Nat.lt_of_le_of_lt hm (by decide))
  split
  · have := a n.natAbs (by omega)
    simp only [List.length_cons]
    omega
  · have := a n.toNat (by omega)
    omega
theorem wrs_size {l : List Wr} (m : ByteArray) (hm : m.size ≤ 2) (h : ∀ x ∈ l, rightS x.1 = true) : (wrs m l).size ≤ 34 * l.length := sep_size l 0 fun x hx => by have := right_size (h x hx); omega
theorem lbl_size {l : List Wr} (h : okW l) : (lblT l).size ≤ 1100 := by
  unfold lblT
  split
  · show 0 ≤ _; omega
  · rw [ByteArray.size_append]
    have := wrs_size tPlus (by decide) h.2
    have e : tAt.size = 2 := rfl
    have := h.1
    omega
theorem mrk_size {p : PH} (g : GoodL p) (hw : 0 ≤ p.wide) (hl : okW p.label) (hc : okC p) : (mrkT p).size ≤ 2400 := by
  have hcl : okW p.cl := by
    rcases hc with ⟨-, -, e⟩ | ⟨-, e⟩
    · rw [e]; exact ⟨by simp, by simp⟩
    · exact e
  have h1 := lbl_size hl
  have h2 := lbl_size hcl
  have h3 := put_sz g.2.2.2.1
  have h4 := put_sz g.2.2.2.2.2.1
  have e1 : (widT p.wide).size ≤ 40 := by
    unfold widT
    split
    · show 0 ≤ _; omega
    · rw [ByteArray.size_append]
      have e : tHash.size = 2 := rfl
      omega
  have e2 : (coaT p.ck p.cn).size ≤ 60 := by
    unfold coaT
    repeat' split
    · rw [ByteArray.size_append, ByteArray.size_append]
      have e : tFloor.size = 8 := rfl
      have e' : tRpar.size = 1 := rfl
      omega
    · rw [ByteArray.size_append, ByteArray.size_append]
      have e : tFirst.size = 8 := rfl
      have e' : tRpar.size = 1 := rfl
      omega
    · show 7 ≤ _; omega
    · show 0 ≤ _; omega
  unfold mrkT
  rw [ByteArray.size_append, ByteArray.size_append, ByteArray.size_append]
  omega
/-- What a part's text takes. -/
theorem part_size {K : Int} {p : PH} {h : TH} {k : Ft} (g : GoodL p) (hK : K = 7 ∨ K = 8) (ok : okP K p h k) (t : ByteArray) : (p.bare = true → (tagT p t).size ≤ 32) ∧ (p.bare = false → (fldT p t).size ≤ 2450 + t.size ∧ (tagT p t).size ≤ 2450 + t.size) := by
  have h0 := right_size ok.1
  refine ⟨fun hb => ?_, fun hb => ?_⟩
  · unfold tagT; rw [if_pos hb]; exact h0
  · obtain ⟨a, b, c, d⟩ := ok.2.2 hb
    have hm := mrk_size g a c d
    have e1 : tColon.size = 2 := rfl
    have e2 : tLpar.size = 1 := rfl
    have e3 : tRpar.size = 1 := rfl
    unfold fldT tagT
    rw [if_neg (by rw [hb]; decide)]
    simp only [ByteArray.size_append]
    omega
theorem nod_size (h : TH) (ps : List Px) (gh : GoodH h) (n : Nat) (k : Ft) (ok : okH h k) (h1 : h.kind = 5 ∨ h.kind = 6 → (oneT ps).size ≤ n) (h7 : h.kind = 7 → (sepT tComma (fun x => fldT x.1 x.2) 0 ps).size ≤ n) (h8 : h.kind = 8 → (sepT tComma (fun x => tagT x.1 x.2) 0 ps).size ≤ n) : (nodT h ps).size ≤ 2300 + n := by
  have p1 := put_sz gh.2.2.1
  have p2 := put_sz gh.2.2.2.1
  have p3 := put_sz gh.2.2.2.2.1
  have e1 : tComma.size = 2 := rfl
  have e2 : tRbrace.size = 1 := rfl
  have e3 : tRpar.size = 1 := rfl
  have e4 : tInt.size = 4 := rfl
  have e5 : tText.size = 5 := rfl
  have e6 : tEnum.size = 5 := rfl
  have e7 : tList.size = 5 := rfl
  have e8 : tOpt.size = 4 := rfl
  have e9 : tRecord.size = 7 := rfl
  have e10 : tUnion.size = 6 := rfl
  have e11 : tRef.size = 4 := rfl
  have e12 : tDots.size = 2 := rfl
  obtain ⟨k1, k9, ho, -, -, -, hn, he, -⟩ := ok
  unfold nodT
  repeat' split
  · show 4 ≤ _; omega
  · simp only [ByteArray.size_append]; omega
  · simp only [ByteArray.size_append]; omega
  · rename_i q
    obtain ⟨-, hl, hr⟩ := he q
    have := wrs_size tComma (by decide) hr
    simp only [ByteArray.size_append]; omega
  · rename_i q
    have := h1 (.inl q)
    simp only [ByteArray.size_append]; omega
  · rename_i q
    have := h1 (.inr q)
    simp only [ByteArray.size_append]; omega
  · rename_i q
    have := h7 q
    simp only [ByteArray.size_append]; omega
  · rename_i q
    have := h8 q
    simp only [ByteArray.size_append]; omega
  · have := right_size (hn (by omega))
    simp only [ByteArray.size_append]; omega
theorem txF_size : ∀ (f : Ft) (K : Int), okF K f → f.All GoodH GoodL →
    (∀ i, K = 7 → (sepT tComma (fun x => fldT x.1 x.2) i (txF f)).size ≤ 40 * f.len + 8000 * cntF f) ∧ (∀ i, K = 8 → (sepT tComma (fun x => tagT x.1 x.2) i (txF f)).size ≤ 40 * f.len + 8000 * cntF f) ∧ (onlyB f = true → (oneT (txF f)).size ≤ 8000 * cntF f)
  | .nil, K, _, _ => ⟨fun i _ => by show 0 ≤ _; omega, fun i _ => by show 0 ≤ _; omega, fun h => by cases h⟩
  | .cons p h k r, K, ok, g => by
    obtain ⟨o1, o2, o3⟩ := ok
    obtain ⟨gp, gh, -, gk, gr⟩ := g
    obtain ⟨r1, r2, -⟩ := txF_size r K o3 gr
    have hc : cntF (.cons p h k r) = (if p.bare then 0 else cntF k + 1) + cntF r := rfl
    have hl : (Fo.cons p h k r).len = r.len + 1 := rfl
    have e1 : tComma.size = 2 := rfl
    have key : p.bare = false → (txT h k).size ≤ 4900 + 8000 * cntF k := fun hb => by
      obtain ⟨a, b⟩ := o2 hb
      obtain ⟨c1, c2, c3⟩ := txF_size k h.kind b gk
      have hlen : h.kind = 7 ∨ h.kind = 8 → k.len ≤ 64 := a.2.2.2.2.2.2.2.2.2.1
      have := nod_size h (txF k) gh (2560 + 8000 * cntF k) k a (fun q => by have := c3 (a.2.2.2.2.2.2.2.2.1 q); omega) (fun q => by have := c1 0 q; have := hlen (.inl q); omega) (fun q => by have := c2 0 q; have := hlen (.inr q); omega)
      unfold txT
      omega
    refine ⟨fun i q => ?_, fun i q => ?_, fun ho => ?_⟩
    · have oP := o1 (.inl q)
      have hb : p.bare = false := by
        cases hb : p.bare
        · rfl
        · have := (oP.2.1 hb).1; omega
      have ps := (part_size gp (.inl q) oP (txT h k)).2 hb
      have kk := key hb
      have rr := r1 (i + 1) q
      rw [hc, hb, if_neg (by decide), hl]
      show ((if i = 0 then fldT p (txT h k) else tComma ++ fldT p (txT h k)) ++ sepT tComma (fun x => fldT x.1 x.2) (i + 1) (txF r)).size ≤ _
      rw [ByteArray.size_append]
      split
      · omega
      · rw [ByteArray.size_append]; omega
    · have oP := o1 (.inr q)
      have ps := part_size gp (.inr q) oP (txT h k)
      have rr := r2 (i + 1) q
      rw [hc, hl]
      show ((if i = 0 then tagT p (txT h k) else tComma ++ tagT p (txT h k)) ++ sepT tComma (fun x => tagT x.1 x.2) (i + 1) (txF r)).size ≤ _
      rw [ByteArray.size_append]
      have hz : (tagT p (txT h k)).size ≤ 36 + 8000 * (if p.bare then 0 else cntF k + 1) := by
        cases hb : p.bare
        · have kk := key hb
          have := (ps.2 hb).2
          rw [if_neg (by decide)]
          omega
        · have := ps.1 hb
          omega
      split
      · omega
      · rw [ByteArray.size_append]; omega
    · obtain ⟨p', x', k', e, -, -, hb⟩ := only_cons ho
      simp only [Fo.cons.injEq] at e
      obtain ⟨rfl, rfl, rfl, rfl⟩ := e
      have kk := key hb
      rw [hc, hb, if_neg (by decide)]
      show (txT h k).size ≤ _
      omega
theorem txT_size {h : TH} {k : Ft} (ok : okT h k) (gh : GoodH h) (g : k.All GoodH GoodL) : (txT h k).size ≤ 4900 + 8000 * cntF k := by
  obtain ⟨a, b⟩ := ok
  obtain ⟨c1, c2, c3⟩ := txF_size k h.kind b g
  have hlen : h.kind = 7 ∨ h.kind = 8 → k.len ≤ 64 := a.2.2.2.2.2.2.2.2.2.1
  have := nod_size h (txF k) gh (2560 + 8000 * cntF k) k a (fun q => by have := c3 (a.2.2.2.2.2.2.2.2.1 q); omega) (fun q => by have := c1 0 q; have := hlen (.inl q); omega) (fun q => by have := c2 0 q; have := hlen (.inr q); omega)
  unfold txT
  omega
end Go.Proofs.YtbochlbgjnmgjaaGreat.Unp
