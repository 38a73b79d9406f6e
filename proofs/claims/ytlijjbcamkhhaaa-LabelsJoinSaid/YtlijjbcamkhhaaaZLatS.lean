/- The plain mathematics of layer 11: joins by what is at most what, the lattice laws, what is wrong with levels and pairs. No Go here. -/
import Derived.Test.YtlijjbcamkhhaaaG1
import Derived.Test.YtlijjbcamkhhaaaNamS
set_option maxRecDepth 100000
set_option linter.unusedVariables false
namespace Go.Proofs.Ytlijjbcamkhhaaa.Lat
open Go.Proofs.Ytlijjbcamkhhaaa.Rel Go.Proofs.Ytlijjbcamkhhaaa.Nam

/-- The thing that both are at most, and that is at most every other such thing. -/
def bestB (n : Nat) (F : Nat → Nat → Bool) (a b c : Nat) : Bool := F a c && F b c && (List.range n).all fun d => !(F a d && F b d) || F c d
theorem best_iff {n : Nat} {F : Nat → Nat → Bool} {a b c : Nat} : bestB n F a b c = true ↔ F a c = true ∧ F b c = true ∧ ∀ d, d < n → F a d = true → F b d = true → F c d = true := by
  unfold bestB
  rw [Bool.and_eq_true, Bool.and_eq_true, List.all_eq_true]
  simp only [Bool.or_eq_true, Bool.not_eq_true', List.mem_range, and_assoc]
  refine and_congr Iff.rfl (and_congr Iff.rfl ⟨fun h d hd h1 h2 => ?_, fun h d hd => ?_⟩)
  · rcases h d hd with q | q
    · rw [h1, h2] at q; cases q
    · exact q
  · cases e1 : F a d
    · exact .inl rfl
    · cases e2 : F b d
      · exact .inl rfl
      · exact .inr (h d hd e1 e2)
def joinS (n : Nat) (F : Nat → Nat → Bool) (a b : Nat) : Int := leastS n (bestB n F a b)
theorem join_cases (n : Nat) (F : Nat → Nat → Bool) (a b : Nat) : (joinS n F a b = -1 ∧ ∀ c, c < n → bestB n F a b c = false) ∨ ∃ m : Nat, m < n ∧ bestB n F a b m = true ∧ joinS n F a b = m := by
  rcases least_cases n (bestB n F a b) with h | ⟨m, h1, h2, -, h4⟩
  · exact .inl h
  · exact .inr ⟨m, h1, h2, h4⟩
/-- What is at most what, the other way round. -/
def flp (F : Nat → Nat → Bool) (a b : Nat) : Bool := F b a
/-- Levels in an order. -/
structure Ordr (n : Nat) (F : Nat → Nat → Bool) : Prop where
  refl : ∀ a, a < n → F a a = true
  trans : ∀ a b c, a < n → b < n → c < n → F a b = true → F b c = true → F a c = true
  anti : Anti n F
theorem Ordr.flip {n : Nat} {F : Nat → Nat → Bool} (h : Ordr n F) : Ordr n (flp F) := ⟨h.refl, fun a b c ha hb hc h1 h2 => h.trans c b a hc hb ha h2 h1, fun a b ha hb h1 h2 => h.anti a b ha hb h2 h1⟩
theorem ordr_ld {n : Nat} {P : List (Nat × Nat)} (hP : InR n P) (h : loopS n (ld n P) = -1) : Ordr n (ld n P) := ⟨fun a ha => ld_refl hP ha, fun a b c ha _ _ h1 h2 => ld_trans hP ha h1 h2, loop_none.1 h⟩
theorem join_is {n : Nat} {F : Nat → Nat → Bool} (h : Ordr n F) {a b c : Nat} (hc : c < n) (hb : bestB n F a b c = true) : joinS n F a b = c := by
  rcases join_cases n F a b with ⟨-, q⟩ | ⟨m, h1, h2, h3⟩
  · rw [q c hc] at hb; cases hb
  · obtain ⟨p1, p2, p3⟩ := best_iff.1 hb
    obtain ⟨q1, q2, q3⟩ := best_iff.1 h2
    rw [h3, h.anti m c h1 hc (q3 c hc p1 p2) (p3 m h1 q1 q2)]
theorem best_comm (n : Nat) (F : Nat → Nat → Bool) (a b c : Nat) : bestB n F a b c = bestB n F b a c := by
  rw [Bool.eq_iff_iff, best_iff, best_iff]
  exact ⟨fun ⟨h1, h2, h3⟩ => ⟨h2, h1, fun d hd q1 q2 => h3 d hd q2 q1⟩, fun ⟨h1, h2, h3⟩ => ⟨h2, h1, fun d hd q1 q2 => h3 d hd q2 q1⟩⟩
theorem join_comm (n : Nat) (F : Nat → Nat → Bool) (a b : Nat) : joinS n F a b = joinS n F b a := by
  unfold joinS
  rw [show bestB n F a b = bestB n F b a from funext fun c => best_comm n F a b c]
theorem join_self {n : Nat} {F : Nat → Nat → Bool} (h : Ordr n F) {a : Nat} (ha : a < n) : joinS n F a a = a :=
  join_is h ha (best_iff.2 ⟨h.refl a ha, h.refl a ha, fun d _ h1 _ => h1⟩)
/-- Every two levels have a join and a meet. -/
structure Latt (n : Nat) (F : Nat → Nat → Bool) : Prop where
  pos : 0 < n
  ord : Ordr n F
  join : ∀ a b, a < n → b < n → 0 ≤ joinS n F a b
  meet : ∀ a b, a < n → b < n → 0 ≤ joinS n (flp F) a b
theorem Latt.flip {n : Nat} {F : Nat → Nat → Bool} (h : Latt n F) : Latt n (flp F) := ⟨h.pos, h.ord.flip, h.meet, h.join⟩
/-- If every level has a join and a meet with every earlier one, the levels are a lattice. -/
theorem latt_of {n : Nat} {F : Nat → Nat → Bool} (h0 : 0 < n) (h : Ordr n F) (hb : ∀ b, b < n → ∀ a, a < b → 0 ≤ joinS n F a b ∧ 0 ≤ joinS n (flp F) a b) : Latt n F := by
  refine ⟨h0, h, fun a b ha hb' => ?_, fun a b ha hb' => ?_⟩
  · rcases Nat.lt_trichotomy a b with q | q | q
    · exact (hb b hb' a q).1
    · subst q; rw [join_self h ha]; omega
    · rw [join_comm]; exact (hb a ha b q).1
  · rcases Nat.lt_trichotomy a b with q | q | q
    · exact (hb b hb' a q).2
    · subst q; rw [join_self h.flip ha]; omega
    · rw [join_comm]; exact (hb a ha b q).2
/-- The join, as a level. -/
def jn (n : Nat) (F : Nat → Nat → Bool) (a b : Nat) : Nat := (joinS n F a b).toNat
section
variable {n : Nat} {F : Nat → Nat → Bool}
theorem Latt.jn_eq (h : Latt n F) {a b : Nat} (ha : a < n) (hb : b < n) : joinS n F a b = jn n F a b := by
  have := h.join a b ha hb
  unfold jn; omega
theorem Latt.jn_best (h : Latt n F) {a b : Nat} (ha : a < n) (hb : b < n) : jn n F a b < n ∧ F a (jn n F a b) = true ∧ F b (jn n F a b) = true ∧ ∀ d, d < n → F a d = true → F b d = true → F (jn n F a b) d = true := by
  have e := h.jn_eq ha hb
  rcases join_cases n F a b with ⟨q, -⟩ | ⟨m, h1, h2, h3⟩
  · have := h.join a b ha hb; omega
  · have : jn n F a b = m := by omega
    rw [this]
    exact ⟨h1, best_iff.1 h2⟩
theorem Latt.jn_lt (h : Latt n F) {a b : Nat} (ha : a < n) (hb : b < n) : jn n F a b < n := (h.jn_best ha hb).1
theorem Latt.jn_is (h : Latt n F) {a b c : Nat} (ha : a < n) (hb : b < n) (hc : c < n) (h1 : F a c = true) (h2 : F b c = true) (h3 : ∀ d, d < n → F a d = true → F b d = true → F c d = true) : jn n F a b = c := by
  have := join_is h.ord hc (best_iff.2 ⟨h1, h2, h3⟩)
  unfold jn; omega
theorem Latt.comm (a b : Nat) : jn n F a b = jn n F b a := by unfold jn; rw [join_comm]
/-- A level is at most another one exactly if their join is that one. -/
theorem Latt.leq_iff (h : Latt n F) {a b : Nat} (ha : a < n) (hb : b < n) : F a b = decide (jn n F a b = b) := by
  obtain ⟨j0, j1, j2, j3⟩ := h.jn_best ha hb
  rw [Bool.eq_iff_iff, decide_eq_true_iff]
  exact ⟨fun q => h.jn_is ha hb hb q (h.ord.refl b hb) fun d _ _ hd => hd, fun q => q ▸ j1⟩
theorem Latt.absorb (h : Latt n F) {a b : Nat} (ha : a < n) (hb : b < n) : jn n F a (jn n (flp F) a b) = a := by
  obtain ⟨m0, m1, m2, m3⟩ := h.flip.jn_best ha hb
  exact h.jn_is ha m0 ha (h.ord.refl a ha) m1 fun d _ hd _ => hd
theorem Latt.join_leq (h : Latt n F) {a b c : Nat} (ha : a < n) (hb : b < n) (hc : c < n) : F (jn n F a b) c = (F a c && F b c) := by
  obtain ⟨j0, j1, j2, j3⟩ := h.jn_best ha hb
  rw [Bool.eq_iff_iff, Bool.and_eq_true]
  exact ⟨fun q => ⟨h.ord.trans _ _ _ ha j0 hc j1 q, h.ord.trans _ _ _ hb j0 hc j2 q⟩, fun ⟨q1, q2⟩ => j3 c hc q1 q2⟩
theorem Latt.assoc (h : Latt n F) {a b c : Nat} (ha : a < n) (hb : b < n) (hc : c < n) : jn n F (jn n F a b) c = jn n F a (jn n F b c) := by
  obtain ⟨p0, p1, p2, p3⟩ := h.jn_best ha hb
  obtain ⟨q0, q1, q2, q3⟩ := h.jn_best hb hc
  obtain ⟨r0, r1, r2, r3⟩ := h.jn_best ha q0
  refine h.jn_is p0 hc r0 (p3 _ r0 r1 (h.ord.trans _ _ _ hb q0 r0 q1 r2)) (h.ord.trans _ _ _ hc q0 r0 q2 r2) fun d hd h1 h2 => ?_
  exact r3 d hd (h.ord.trans _ _ _ ha p0 hd p1 h1) (q3 d hd (h.ord.trans _ _ _ hb p0 hd p2 h1) h2)
/-- There is a level that all are at most. -/
theorem Latt.top (h : Latt n F) : ∃ t, t < n ∧ ∀ a, a < n → F a t = true := by
  have key : ∀ k, k ≤ n → ∃ t, t < n ∧ ∀ a, a < k → F a t = true := by
    intro k
    induction k with
    | zero => exact fun _ => ⟨0, h.pos, fun a ha => by omega⟩
    | succ k ih =>
      intro hk
      obtain ⟨t, ht, h1⟩ := ih (by omega)
      obtain ⟨j0, j1, j2, -⟩ := h.jn_best ht (show k < n by omega)
      refine ⟨jn n F t k, j0, fun a ha => ?_⟩
      rcases Nat.eq_or_lt_of_le (Nat.le_of_lt_succ ha) with e | q
      · rw [e]; exact j2
      · exact h.ord.trans _ _ _ (by omega) ht j0 (h1 a q) j1
  exact key n (Nat.le_refl n)
theorem Latt.top_one (h : Latt n F) {t u : Nat} (ht : t < n) (hu : u < n) (h1 : ∀ a, a < n → F a t = true) (h2 : ∀ a, a < n → F a u = true) : t = u := h.ord.anti t u ht hu (h2 t ht) (h1 u hu)
theorem Latt.bottom_join (h : Latt n F) {t a : Nat} (ht : t < n) (ha : a < n) (h1 : ∀ b, b < n → F t b = true) : jn n F t a = a :=
  h.jn_is ht ha ha (h1 a ha) (h.ord.refl a ha) fun d _ _ hd => hd
end
/-- The levels below k that are at most a, in increasing order. -/
def seesF (F : Nat → Nat → Bool) (a : Nat) : Nat → List Nat
  | 0 => []
  | k + 1 => if F k a = true then seesF F a k ++ [k] else seesF F a k
theorem sees_pre (F : Nat → Nat → Bool) (a k : Nat) : ∀ m, k ≤ m → ∃ t, seesF F a m = seesF F a k ++ t
  | 0, h => ⟨[], by rw [show k = 0 by omega, List.append_nil]⟩
  | m + 1, h => by
    rcases Nat.eq_or_lt_of_le h with e | q
    · exact ⟨[], by rw [e, List.append_nil]⟩
    · obtain ⟨t, ht⟩ := sees_pre F a k m (by omega)
      rw [seesF, ht]
      split
      · exact ⟨t ++ [m], by simp⟩
      · exact ⟨t, rfl⟩
theorem sees_at {F : Nat → Nat → Bool} {a k n : Nat} (hk : k < n) (h : F k a = true) : (seesF F a k).length < (seesF F a n).length ∧ (seesF F a n).getD (seesF F a k).length 0 = k := by
  obtain ⟨t, ht⟩ := sees_pre F a (k + 1) n hk
  rw [seesF, if_pos h] at ht
  rw [ht]
  refine ⟨by simp, ?_⟩
  rw [List.getD, List.append_assoc, List.getElem?_append_right (Nat.le_refl _)]
  simp
theorem sees_len (F : Nat → Nat → Bool) (a : Nat) : ∀ n, (seesF F a n).length ≤ n
  | 0 => Nat.le_refl _
  | n + 1 => by
    have := sees_len F a n
    rw [seesF]
    split
    · rw [List.length_append]; simpa using this
    · omega
theorem sees_lt (F : Nat → Nat → Bool) (a : Nat) : ∀ n, ∀ x ∈ seesF F a n, x < n
  | 0, x, h => by simp [seesF] at h
  | n + 1, x, h => by
    rw [seesF] at h
    split at h
    · rcases List.mem_append.1 h with h | h
      · have := sees_lt F a n x h; omega
      · rw [List.mem_singleton.1 h]; omega
    · have := sees_lt F a n x h; omega

/-- A name and where it stood; two of them. -/
abbrev Wr := ByteArray × Int
abbrev Pr := Wr × Wr
instance : Inhabited Wr := ⟨(ByteArray.empty, 0)⟩
abbrev wN (ws : List Wr) (i : Nat) : Wr := ws.getD i (ByteArray.empty, 0)
abbrev pN (ps : List Pr) (i : Nat) : Pr := ps.getD i ((ByteArray.empty, 0), (ByteArray.empty, 0))
theorem wN_get {ws : List Wr} {i : Nat} (h : i < ws.length) : wN ws i = ws[i] := by simp [wN, List.getD, List.getElem?_eq_getElem h]
theorem pN_get {ps : List Pr} {i : Nat} (h : i < ps.length) : pN ps i = ps[i] := by simp [pN, List.getD, List.getElem?_eq_getElem h]
def nms (ws : List Wr) : List ByteArray := ws.map (·.1)
theorem nms_len (ws : List Wr) : (nms ws).length = ws.length := by simp [nms]
theorem nms_get {ws : List Wr} {i : Nat} (h : i < ws.length) : (nms ws)[i]? = some (wN ws i).1 := by rw [wN_get h]; simp [nms, List.getElem?_eq_getElem h]
/-- The pairs as pairs of the levels' numbers. -/
def idxQ (ws : List Wr) (ps : List Pr) : List Pq := ps.map fun p => (findS (nms ws) p.1.1, findS (nms ws) p.2.1)
/-- What is at most what. -/
def leqF (ws : List Wr) (ps : List Pr) (a b : Nat) : Bool := ld ws.length (toN (idxQ ws ps)) a b
/-- The first that is told, from one on. -/
def firF {α : Type} (f : Nat → Option α) : Nat → Nat → Option α
  | 0, _ => none
  | k + 1, i => match f i with
    | some x => some x
    | none => firF f k (i + 1)
theorem fir_none {α : Type} {f : Nat → Option α} : ∀ (k i : Nat), firF f k i = none → ∀ j, i ≤ j → j < i + k → f j = none
  | 0, i, _, j, h1, h2 => by omega
  | k + 1, i, h, j, h1, h2 => by
    rw [firF] at h
    cases e : f i with
    | some x => rw [e] at h; cases h
    | none =>
      rw [e] at h
      rcases Nat.eq_or_lt_of_le h1 with q | q
      · rw [← q]; exact e
      · exact fir_none k (i + 1) h j q (by omega)
theorem fir_some {α : Type} {f : Nat → Option α} {x : α} : ∀ (k i : Nat), firF f k i = some x → ∃ j, i ≤ j ∧ j < i + k ∧ f j = some x
  | 0, i, h => by cases h
  | k + 1, i, h => by
    rw [firF] at h
    cases e : f i with
    | some y => rw [e] at h; exact ⟨i, Nat.le_refl _, by omega, e.trans h⟩
    | none =>
      rw [e] at h
      obtain ⟨j, h1, h2, h3⟩ := fir_some k (i + 1) h
      exact ⟨j, by omega, by omega, h3⟩
theorem fir_is {α : Type} {f : Nat → Option α} {x : α} : ∀ (k i m : Nat), i ≤ m → m < i + k → f m = some x → (∀ j, i ≤ j → j < m → f j = none) → firF f k i = some x
  | 0, i, m, h1, h2, _, _ => by omega
  | k + 1, i, m, h1, h2, h3, h4 => by
    rw [firF]
    rcases Nat.eq_or_lt_of_le h1 with q | q
    · subst q; rw [h3]
    · rw [h4 i (Nat.le_refl _) q]
      exact fir_is k (i + 1) m q (by omega) h3 fun j q1 q2 => h4 j (by omega) q2
theorem fir_no {α : Type} {f : Nat → Option α} : ∀ (k i : Nat), (∀ j, i ≤ j → j < i + k → f j = none) → firF f k i = none
  | 0, i, h => rfl
  | k + 1, i, h => by
    rw [firF, h i (Nat.le_refl _) (by omega)]
    exact fir_no k (i + 1) fun j q1 q2 => h j (by omega) (by omega)
/-- What is wrong with a level, with a pair, with a level's bounds. -/
def lvAt (ws : List Wr) (i : Nat) : Option (Int × Int) :=
  if rightS (wN ws i).1 = false then some (9, (wN ws i).2) else if findS (nms ws) (wN ws i).1 < (i : Int) then some (10, (wN ws i).2) else none
def prAt (ws : List Wr) (ps : List Pr) (i : Nat) : Option (Int × Int) :=
  if findS (nms ws) (pN ps i).1.1 < 0 then some (17, (pN ps i).1.2) else if findS (nms ws) (pN ps i).2.1 < 0 then some (17, (pN ps i).2.2) else none
def noB (n : Nat) (F : Nat → Nat → Bool) (b a : Nat) : Bool := decide (joinS n F a b < 0) || decide (joinS n (flp F) a b < 0)
def bnB (n : Nat) (F : Nat → Nat → Bool) (b : Nat) : Bool := (List.range b).any (noB n F b)
def bnAt (ws : List Wr) (F : Nat → Nat → Bool) (b : Nat) : Option (Int × Int) := if bnB ws.length F b = true then some (12, (wN ws b).2) else none
/-- What is wrong, and where. -/
def wrongS (ws : List Wr) (ps : List Pr) : Int × Int :=
  if ws.length = 0 then (15, 0) else if 32 < ws.length then (8, (wN ws 32).2) else if 256 < ps.length then (8, (pN ps 256).1.2) else
  match firF (lvAt ws) ws.length 0 with
  | some f => f
  | none => match firF (prAt ws ps) ps.length 0 with
    | some f => f
    | none => if 0 ≤ loopS ws.length (leqF ws ps) then (11, (wN ws (loopS ws.length (leqF ws ps)).toNat).2) else
      match firF (bnAt ws (leqF ws ps)) ws.length 0 with
      | some f => f
      | none => (0, 0)
theorem find_lt (l : List ByteArray) (s : ByteArray) : findS l s < l.length := by
  rcases find_cases l s with ⟨h, -⟩ | ⟨k, h1, -, -, h2⟩ <;> omega
/-- Where no pair is wrong, all numbers of the pairs are levels'. -/
theorem idx_right {ws : List Wr} {ps : List Pr} (h32 : ws.length ≤ 32) (h : firF (prAt ws ps) ps.length 0 = none) : RightQ ws.length (idxQ ws ps) := by
  refine ⟨by omega, fun x hx => ?_⟩
  obtain ⟨p, hp, rfl⟩ := List.mem_map.1 hx
  obtain ⟨i, hi, rfl⟩ := List.getElem_of_mem hp
  have := fir_none _ _ h i (Nat.zero_le _) (by omega)
  unfold prAt at this
  rw [pN_get hi] at this
  have l1 := find_lt (nms ws) ps[i].1.1
  have l2 := find_lt (nms ws) ps[i].2.1
  rw [nms_len] at l1 l2
  split at this
  · cases this
  · split at this
    · cases this
    · simp only
      omega
/-- The levels of what is not wrong are a lattice. -/
structure Fine (ws : List Wr) (ps : List Pr) : Prop where
  le : ws.length ≤ 32
  pairs : ps.length ≤ 256
  right : RightQ ws.length (idxQ ws ps)
  latt : Latt ws.length (leqF ws ps)
  one : ∀ i, i < ws.length → findS (nms ws) (wN ws i).1 = i
theorem wrong_ok {ws : List Wr} {ps : List Pr} (h : (wrongS ws ps).1 = 0) : wrongS ws ps = (0, 0) ∧ Fine ws ps := by
  unfold wrongS at h ⊢
  by_cases h0 : ws.length = 0
  · rw [if_pos h0] at h; cases h
  rw [if_neg h0] at h ⊢
  by_cases h1 : 32 < ws.length
  · rw [if_pos h1] at h; cases h
  rw [if_neg h1] at h ⊢
  by_cases h2 : 256 < ps.length
  · rw [if_pos h2] at h; cases h
  rw [if_neg h2] at h ⊢
  cases e1 : firF (lvAt ws) ws.length 0 with
  | some f =>
    rw [e1] at h
    obtain ⟨j, -, -, hj⟩ := fir_some _ _ e1
    unfold lvAt at hj
    split at hj
    · cases hj; cases h
    · split at hj
      · cases hj; cases h
      · cases hj
  | none =>
    rw [e1] at h
    cases e2 : firF (prAt ws ps) ps.length 0 with
    | some f =>
      rw [e2] at h
      obtain ⟨j, -, -, hj⟩ := fir_some _ _ e2
      unfold prAt at hj
      split at hj
      · cases hj; cases h
      · split at hj
        · cases hj; cases h
        · cases hj
    | none =>
      rw [e2] at h
      have hr := idx_right (by omega) e2
      simp only at h ⊢
      by_cases h3 : 0 ≤ loopS ws.length (leqF ws ps)
      · rw [if_pos h3] at h; cases h
      rw [if_neg h3] at h ⊢
      cases e3 : firF (bnAt ws (leqF ws ps)) ws.length 0 with
      | some f =>
        rw [e3] at h
        obtain ⟨j, -, -, hj⟩ := fir_some _ _ e3
        unfold bnAt at hj
        split at hj
        · cases hj; cases h
        · cases hj
      | none =>
        refine ⟨rfl, by omega, by omega, hr, latt_of (by omega) (ordr_ld (toN_in hr) ?_) fun b hb a hab => ?_, fun i hi => ?_⟩
        · rcases least_cases ws.length (inLoop ws.length (leqF ws ps)) with ⟨q, -⟩ | ⟨m, -, -, -, q⟩
          · exact q
          · exact absurd (show 0 ≤ loopS ws.length (leqF ws ps) by unfold loopS; omega) h3
        · have := fir_none _ _ e3 b (Nat.zero_le _) (by omega)
          unfold bnAt at this
          split at this
          · cases this
          · next q =>
            have hno : ¬ noB ws.length (leqF ws ps) b a = true := fun hn => q (List.any_eq_true.2 ⟨a, List.mem_range.2 hab, hn⟩)
            unfold noB at hno
            rw [Bool.or_eq_true, decide_eq_true_iff, decide_eq_true_iff] at hno
            constructor
            · exact Int.not_lt.1 fun q => hno (.inl q)
            · exact Int.not_lt.1 fun q => hno (.inr q)
        · have := fir_none _ _ e1 i (Nat.zero_le _) (by omega)
          unfold lvAt at this
          split at this
          · cases this
          · split at this
            · cases this
            · next q1 q2 =>
              rcases find_cases (nms ws) (wN ws i).1 with ⟨-, hn⟩ | ⟨k, hk, -, hl, e⟩
              · exact absurd (List.mem_of_getElem? (nms_get hi)) hn
              · rcases Nat.lt_trichotomy k i with q | q | q
                · omega
                · rw [e, q]
                · exact absurd (nms_get hi) (hl i q)
end Go.Proofs.Ytlijjbcamkhhaaa.Lat
