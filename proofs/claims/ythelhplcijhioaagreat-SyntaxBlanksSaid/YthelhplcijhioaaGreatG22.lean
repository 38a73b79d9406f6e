import Derived.Lib.Bytes
import Derived.Deep.DeepMust
import Derived.Lib.Hide
/- Plain sets of ranges: membership, canonical lists and what each function of layer 2 makes. No Go here. -/
set_option maxRecDepth 100000
set_option linter.unusedVariables false
namespace Go.Proofs.YthelhplcijhioaaGreat.Ran

abbrev Rg := Int × Int
/-- Is a rune in some range of the list? -/
def hasB (l : List Rg) (r : Int) : Bool := l.any fun g => decide (g.1 ≤ r) && decide (r ≤ g.2)
/-- .. and from 0 to 10ffff? -/
def inB (l : List Rg) (r : Int) : Bool := decide (0 ≤ r) && decide (r ≤ 1114111) && hasB l r
/-- A canonical list, from lo on: ranges that are not empty, increase, and do not touch. -/
def Can : Int → List Rg → Prop
  | _, [] => True
  | lo, g :: l => lo ≤ g.1 ∧ g.1 ≤ g.2 ∧ g.2 ≤ 1114111 ∧ Can (g.2 + 2) l
/-- Where a further range may begin. -/
def nxt : Int → List Rg → Int
  | lo, [] => lo
  | _, g :: l => nxt (g.2 + 2) l

@[simp] theorem hasB_nil (r : Int) : hasB [] r = false := rfl
theorem hasB_cons (g : Rg) (l : List Rg) (r : Int) : hasB (g :: l) r = (decide (g.1 ≤ r) && decide (r ≤ g.2) || hasB l r) := rfl
theorem hasB_append (l m : List Rg) (r : Int) : hasB (l ++ m) r = (hasB l r || hasB m r) := by unfold hasB; rw [List.any_append]
theorem hasB_iff {l : List Rg} {r : Int} : hasB l r = true ↔ ∃ g ∈ l, g.1 ≤ r ∧ r ≤ g.2 := by simp [hasB]
theorem hasB_perm {l m : List Rg} (h : l.Perm m) (r : Int) : hasB l r = hasB m r := by
  rw [Bool.eq_iff_iff, hasB_iff, hasB_iff]
  constructor <;> rintro ⟨g, hg, h1⟩
  · exact ⟨g, h.mem_iff.1 hg, h1⟩
  · exact ⟨g, h.mem_iff.2 hg, h1⟩

theorem Can.mono {lo lo' : Int} : ∀ {l : List Rg}, Can lo l → lo' ≤ lo → Can lo' l
  | [], _, _ => trivial
  | g :: l, ⟨a, b, c, d⟩, h => ⟨by omega, b, c, d⟩
theorem Can.low {r : Int} : ∀ {l : List Rg} {lo : Int}, Can lo l → hasB l r = true → lo ≤ r ∧ r ≤ 1114111
  | [], _, _, h => by simp at h
  | g :: l, lo, ⟨a, b, c, d⟩, h => by
    rw [hasB_cons] at h
    simp only [Bool.or_eq_true, Bool.and_eq_true, decide_eq_true_eq] at h
    rcases h with h | h
    · omega
    · have := Can.low d h; omega
theorem Can.out {l : List Rg} {lo r : Int} (h : Can lo l) (hr : r < lo) : hasB l r = false := by
  cases e : hasB l r
  · rfl
  · have := (Can.low h e).1; omega
theorem Can.over {l : List Rg} {lo r : Int} (h : Can lo l) (hr : 1114111 < r) : hasB l r = false := by
  cases e : hasB l r
  · rfl
  · have := (Can.low h e).2; omega
theorem can_unique : ∀ (l m : List Rg) (lo : Int), Can lo l → Can lo m → (∀ r, hasB l r = hasB m r) → l = m
  | [], [], _, _, _, _ => rfl
  | [], h :: m, lo, _, ⟨a, b, c, d⟩, e => by have := e h.1; rw [hasB_cons] at this; simp at this; omega
  | g :: l, [], lo, ⟨a, b, c, d⟩, _, e => by have := e g.1; rw [hasB_cons] at this; simp at this; omega
  | g :: l, h :: m, lo, ⟨a, b, c, d⟩, ⟨a', b', c', d'⟩, e => by
    have x1 : h.1 ≤ g.1 := by
      by_cases t : h.1 ≤ g.1
      · exact t
      · have e1 : hasB (h :: m) g.1 = true := by rw [← e, hasB_cons]; simp; omega
        rw [hasB_cons, d'.out (r := g.1) (by omega)] at e1; simp at e1; omega
    have x2 : g.1 ≤ h.1 := by
      by_cases t : g.1 ≤ h.1
      · exact t
      · have e1 : hasB (g :: l) h.1 = true := by rw [e, hasB_cons]; simp; omega
        rw [hasB_cons, d.out (r := h.1) (by omega)] at e1; simp at e1; omega
    have y1 : h.2 ≤ g.2 := by
      by_cases t : h.2 ≤ g.2
      · exact t
      · have e1 : hasB (g :: l) (g.2 + 1) = true := by rw [e, hasB_cons]; simp; omega
        rw [hasB_cons, d.out (r := g.2 + 1) (by omega)] at e1; simp at e1; omega
    have y2 : g.2 ≤ h.2 := by
      by_cases t : g.2 ≤ h.2
      · exact t
      · have e1 : hasB (h :: m) (h.2 + 1) = true := by rw [← e, hasB_cons]; simp; omega
        rw [hasB_cons, d'.out (r := h.2 + 1) (by omega)] at e1; simp at e1; omega
    have hgh : g = h := Prod.ext (by omega) (by omega)
    subst hgh
    congr 1
    refine can_unique l m (g.2 + 2) d d' fun r => ?_
    by_cases hr : r < g.2 + 2
    · rw [d.out hr, d'.out hr]
    · have := e r
      rw [hasB_cons, hasB_cons] at this
      have z : decide (r ≤ g.2) = false := by simp; omega
      simpa [z] using this
theorem can_append : ∀ (l m : List Rg) (lo : Int), Can lo (l ++ m) ↔ Can lo l ∧ Can (nxt lo l) m
  | [], m, lo => by simp [Can, nxt]
  | g :: l, m, lo => by
    simp only [List.cons_append, Can, nxt, can_append l m]
    constructor
    · rintro ⟨a, b, c, d, e⟩; exact ⟨⟨a, b, c, d⟩, e⟩
    · rintro ⟨⟨a, b, c, d⟩, e⟩; exact ⟨a, b, c, d, e⟩
theorem nxt_snoc : ∀ (l : List Rg) (h : Rg) (lo : Int), nxt lo (l ++ [h]) = h.2 + 2
  | [], h, lo => rfl
  | g :: l, h, lo => by simp only [List.cons_append, nxt, nxt_snoc l h]
theorem can_snoc {l : List Rg} {h : Rg} {lo : Int} : Can lo (l ++ [h]) ↔ Can lo l ∧ nxt lo l ≤ h.1 ∧ h.1 ≤ h.2 ∧ h.2 ≤ 1114111 := by
  rw [can_append]; simp [Can]
theorem can_len : ∀ (l : List Rg) (lo : Int), Can lo l → lo ≤ 1114113 → 2 * (l.length : Int) ≤ 1114113 - lo
  | [], lo, _, h => by simp; omega
  | g :: l, lo, ⟨a, b, c, d⟩, h => by
    have := can_len l _ d (by omega)
    simp; omega
theorem can_len0 {l : List Rg} (h : Can 0 l) : l.length ≤ 557056 := by have := can_len l 0 h (by omega); omega
theorem can_sorted : ∀ {l : List Rg} {lo : Int}, Can lo l → ∀ g ∈ l, lo ≤ g.1 ∧ g.1 ≤ g.2 ∧ g.2 ≤ 1114111
  | [], _, _, g, h => by simp at h
  | x :: l, lo, ⟨a, b, c, d⟩, g, h => by
    rcases List.mem_cons.1 h with rfl | h
    · exact ⟨a, b, c⟩
    · have := can_sorted d g h; omega
theorem can_get {l : List Rg} {lo : Int} (h : Can lo l) {k : Nat} (hk : k < l.length) : lo ≤ (l.getD k (0, 0)).1 ∧ (l.getD k (0, 0)).1 ≤ (l.getD k (0, 0)).2 ∧ (l.getD k (0, 0)).2 ≤ 1114111 := by
  have := can_sorted h l[k] (List.getElem_mem hk)
  simpa [List.getD, List.getElem?_eq_getElem hk] using this
theorem can_lt : ∀ {l : List Rg} {lo : Int}, Can lo l → ∀ i j, i < j → j < l.length → (l.getD i (0, 0)).2 + 1 < (l.getD j (0, 0)).1
  | [], _, _, i, j, _, h => by simp at h
  | x :: l, lo, ⟨a, b, c, d⟩, i, j, hij, hj => by
    obtain ⟨j, rfl⟩ : ∃ k, j = k + 1 := ⟨j - 1, by omega⟩
    have hj' : j < l.length := by simpa using hj
    cases i with
    | zero => have := (can_get d hj').1; simp at this ⊢; omega
    | succ i => simpa using can_lt d i j (by omega) hj'
/-- What binary search tells. -/
theorem hasB_at {l : List Rg} {lo r : Int} (h : Can lo l) (i : Nat) (hi : i ≤ l.length) (h1 : ∀ k, k < i → (l.getD k (0, 0)).2 < r) (h2 : ∀ k, i ≤ k → k < l.length → r ≤ (l.getD k (0, 0)).2) :
    hasB l r = (decide (i < l.length) && decide ((l.getD i (0, 0)).1 ≤ r)) := by
  rw [Bool.eq_iff_iff, hasB_iff]
  simp only [Bool.and_eq_true, decide_eq_true_eq]
  constructor
  · rintro ⟨g, hg, h3, h4⟩
    obtain ⟨k, hk, rfl⟩ := List.getElem_of_mem hg
    have e : l.getD k (0, 0) = l[k] := by simp [List.getD, List.getElem?_eq_getElem hk]
    have hik : i ≤ k := by
      by_cases t : i ≤ k
      · exact t
      · have := h1 k (by omega); rw [e] at this; omega
    refine ⟨by omega, ?_⟩
    by_cases t : i = k
    · subst t; rw [e]; exact h3
    · have a := can_lt h i k (by omega) hk
      have b := h2 i (Nat.le_refl _) (by omega)
      rw [e] at a; omega
  · rintro ⟨h3, h4⟩
    refine ⟨l[i], List.getElem_mem h3, ?_⟩
    have e : l.getD i (0, 0) = l[i] := by simp [List.getD, List.getElem?_eq_getElem h3]
    have := h2 i (Nat.le_refl _) h3
    rw [e] at h4 this
    exact ⟨h4, this⟩

/-! ### New: clip, sort, merge -/
def clip (g : Rg) : Rg := (max g.1 0, min g.2 1114111)
def okG (g : Rg) : Bool := decide (g.1 ≤ g.2)
def keptG (l : List Rg) : List Rg := (l.map clip).filter okG
theorem keptG_snoc (l : List Rg) (g : Rg) : keptG (l ++ [g]) = keptG l ++ (if okG (clip g) then [clip g] else []) := by
  unfold keptG; rw [List.map_append, List.filter_append]
  congr 1
  by_cases h : okG (clip g) = true
  · simp [h]
  · simp [h]
theorem keptG_len (l : List Rg) : (keptG l).length ≤ l.length := by unfold keptG; exact Nat.le_trans (List.length_filter_le _ _) (by simp)
theorem keptG_has (r : Int) : ∀ l : List Rg, hasB (keptG l) r = inB l r
  | [] => by simp [keptG, inB]
  | g :: l => by
    have ih := keptG_has r l
    unfold keptG inB at *
    rw [List.map_cons, hasB_cons]
    by_cases h : okG (clip g) = true
    · rw [List.filter_cons_of_pos h, hasB_cons, ih]
      by_cases h0 : 0 ≤ r
      · by_cases h1 : r ≤ 1114111
        · have a1 : decide ((clip g).1 ≤ r) = decide (g.1 ≤ r) := by rw [decide_eq_decide]; show max g.1 0 ≤ r ↔ _; omega
          have a2 : decide (r ≤ (clip g).2) = decide (r ≤ g.2) := by rw [decide_eq_decide]; show r ≤ min g.2 1114111 ↔ _; omega
          rw [a1, a2]; simp [h0, h1]
        · have a2 : decide (r ≤ (clip g).2) = false := by apply decide_eq_false; show ¬ (r ≤ min g.2 1114111); omega
          simp [a2, h1]
      · have a1 : decide ((clip g).1 ≤ r) = false := by apply decide_eq_false; show ¬ (max g.1 0 ≤ r); omega
        simp [a1, h0]
    · rw [List.filter_cons_of_neg h, ih]
      unfold okG clip at h
      simp at h
      cases hasB l r <;> (rw [Bool.eq_iff_iff]; simp <;> omega)
theorem keptG_ok (l : List Rg) : ∀ g ∈ keptG l, 0 ≤ g.1 ∧ g.1 ≤ g.2 ∧ g.2 ≤ 1114111 := by
  intro g hg
  unfold keptG at hg
  rw [List.mem_filter, List.mem_map] at hg
  obtain ⟨⟨x, _, rfl⟩, h⟩ := hg
  unfold okG clip at *
  simp at h ⊢; omega

def stepM (acc : List Rg) (g : Rg) : List Rg :=
  match acc.getLast? with
  | none => [g]
  | some h => if h.2 + 1 < g.1 then acc ++ [g] else acc.dropLast ++ [(h.1, max h.2 g.2)]
theorem stepM_nil (g : Rg) : stepM [] g = [g] := rfl
theorem stepM_far (l : List Rg) (h g : Rg) (e : h.2 + 1 < g.1) : stepM (l ++ [h]) g = l ++ [h] ++ [g] := by simp [stepM, e]
theorem stepM_near (l : List Rg) (h g : Rg) (e : ¬ h.2 + 1 < g.1) : stepM (l ++ [h]) g = l ++ [(h.1, max h.2 g.2)] := by simp [stepM, e]
theorem snoc_cases (l : List Rg) : l = [] ∨ ∃ a h, l = a ++ [h] := by
  rcases List.eq_nil_or_concat l with h | ⟨a, h, e⟩
  · exact .inl h
  · exact .inr ⟨a, h, by simpa using e⟩
theorem stepM_len (acc : List Rg) (g : Rg) : (stepM acc g).length ≤ acc.length + 1 := by
  rcases snoc_cases acc with rfl | ⟨a, h, rfl⟩
  · simp [stepM_nil]
  · by_cases e : h.2 + 1 < g.1
    · rw [stepM_far _ _ _ e]; simp
    · rw [stepM_near _ _ _ e]; simp
theorem foldM_len : ∀ (xs acc : List Rg), (xs.foldl stepM acc).length ≤ acc.length + xs.length
  | [], acc => by simp
  | g :: xs, acc => by
    have h1 := foldM_len xs (stepM acc g)
    have h2 := stepM_len acc g
    simp only [List.foldl_cons, List.length_cons]; omega
theorem merge_ok : ∀ (xs acc : List Rg), Can 0 acc → (∀ a h, acc = a ++ [h] → ∀ g ∈ xs, h.1 ≤ g.1) → xs.Pairwise (fun a b => a.1 ≤ b.1) → (∀ g ∈ xs, 0 ≤ g.1 ∧ g.1 ≤ g.2 ∧ g.2 ≤ 1114111) →
    Can 0 (xs.foldl stepM acc) ∧ ∀ r, hasB (xs.foldl stepM acc) r = (hasB acc r || hasB xs r)
  | [], acc, h, _, _, _ => ⟨h, fun r => by simp⟩
  | g :: xs, acc, h, hl, hp, hv => by
    obtain ⟨hp1, hp2⟩ := List.pairwise_cons.1 hp
    have hg := hv g (by simp)
    have hv' : ∀ g ∈ xs, 0 ≤ g.1 ∧ g.1 ≤ g.2 ∧ g.2 ≤ 1114111 := fun x hx => hv x (by simp [hx])
    have key : Can 0 (stepM acc g) ∧ (∀ a h, stepM acc g = a ++ [h] → h.1 ≤ g.1) ∧ ∀ r, hasB (stepM acc g) r = (hasB acc r || (decide (g.1 ≤ r) && decide (r ≤ g.2))) := by
      rcases snoc_cases acc with rfl | ⟨a, x, rfl⟩
      · rw [stepM_nil]
        refine ⟨⟨hg.1, hg.2.1, hg.2.2, trivial⟩, fun a h e => ?_, fun r => by rw [hasB_cons]; simp⟩
        have := (List.append_inj' (s₁ := []) (t₁ := [g]) e rfl).2
        simp at this; subst this; exact Int.le_refl _
      · obtain ⟨c1, c2, c3, c4⟩ := can_snoc.1 h
        have hx := hl a x rfl g (by simp)
        by_cases e : x.2 + 1 < g.1
        · rw [stepM_far _ _ _ e]
          refine ⟨can_snoc.2 ⟨h, by rw [nxt_snoc]; omega, hg.2.1, hg.2.2⟩, fun a' h' e' => ?_, fun r => by rw [hasB_append]; simp [hasB_cons]⟩
          have := (List.append_inj' e' rfl).2
          simp at this; subst this; exact Int.le_refl _
        · rw [stepM_near _ _ _ e]
          refine ⟨can_snoc.2 ⟨c1, c2, by simp; omega, by simp; omega⟩, fun a' h' e' => ?_, fun r => ?_⟩
          · have := (List.append_inj' e' rfl).2
            simp at this; subst this; exact hx
          · rw [hasB_append, hasB_append, hasB_cons, hasB_cons]
            cases hasB a r
            · rw [Bool.eq_iff_iff]; simp; omega
            · simp
    obtain ⟨k1, k2, k3⟩ := key
    have := merge_ok xs (stepM acc g) k1 (fun a h e x hx => Int.le_trans (k2 a h e) (hp1 x hx)) hp2 hv'
    refine ⟨this.1, fun r => ?_⟩
    rw [List.foldl_cons, this.2 r, k3 r, hasB_cons, Bool.or_assoc]

/-! ### Both, rest, Count -/
def bothS : List Rg → List Rg → List Rg
  | [], _ => []
  | _ :: _, [] => []
  | g :: a, h :: b => (if max g.1 h.1 ≤ min g.2 h.2 then [(max g.1 h.1, min g.2 h.2)] else []) ++ (if g.2 < h.2 then bothS a (h :: b) else bothS (g :: a) b)
termination_by a b => a.length + b.length
theorem both_ok : ∀ (n : Nat) (a b : List Rg) (la lb : Int), a.length + b.length ≤ n → Can la a → Can lb b →
    (∀ lo, lo ≤ la ∨ lo ≤ lb → Can lo (bothS a b)) ∧ ∀ r, hasB (bothS a b) r = (hasB a r && hasB b r)
  | n, [], b, la, lb, _, _, _ => by rw [bothS]; exact ⟨fun _ _ => trivial, fun r => by simp⟩
  | n, g :: a, [], la, lb, _, _, _ => by rw [bothS]; exact ⟨fun _ _ => trivial, fun r => by simp⟩
  | 0, g :: a, h :: b, la, lb, hn, _, _ => by simp at hn
  | n + 1, g :: a, h :: b, la, lb, hn, ca, cb => by
    obtain ⟨a1, a2, a3, a4⟩ := ca
    obtain ⟨b1, b2, b3, b4⟩ := cb
    rw [bothS]
    by_cases e : g.2 < h.2
    · rw [if_pos e]
      obtain ⟨i1, i2⟩ := both_ok n a (h :: b) (g.2 + 2) lb (by simp at hn ⊢; omega) a4 ⟨b1, b2, b3, b4⟩
      constructor
      · intro lo hlo
        by_cases t : max g.1 h.1 ≤ min g.2 h.2
        · rw [if_pos t]
          refine ⟨by simp; omega, t, by simp; omega, ?_⟩
          refine i1 _ (.inl ?_)
          simp; omega
        · rw [if_neg t, List.nil_append]
          refine i1 _ ?_
          omega
      · intro r
        rw [hasB_append, i2 r, hasB_cons, hasB_cons]
        have z : hasB b r = true → g.2 < r := fun hb => by have := (b4.low hb).1; omega
        have z2 : hasB a r = true → g.2 < r := fun hb => by have := (a4.low hb).1; omega
        by_cases t : max g.1 h.1 ≤ min g.2 h.2
        · rw [if_pos t, hasB_cons]
          cases hA : hasB a r <;> cases hB : hasB b r <;> simp only [hA, hB, forall_const] at z z2 <;> (rw [Bool.eq_iff_iff]; simp <;> omega)
        · rw [if_neg t]
          cases hA : hasB a r <;> cases hB : hasB b r <;> simp only [hA, hB, forall_const] at z z2 <;> (rw [Bool.eq_iff_iff]; simp <;> omega)
    · rw [if_neg e]
      obtain ⟨i1, i2⟩ := both_ok n (g :: a) b la (h.2 + 2) (by simp at hn ⊢; omega) ⟨a1, a2, a3, a4⟩ b4
      constructor
      · intro lo hlo
        by_cases t : max g.1 h.1 ≤ min g.2 h.2
        · rw [if_pos t]
          refine ⟨by simp; omega, t, by simp; omega, ?_⟩
          refine i1 _ (.inr ?_)
          simp; omega
        · rw [if_neg t, List.nil_append]
          refine i1 _ ?_
          omega
      · intro r
        rw [hasB_append, i2 r, hasB_cons, hasB_cons]
        have z : hasB b r = true → h.2 < r := fun hb => by have := (b4.low hb).1; omega
        have z2 : hasB a r = true → h.2 < r := fun hb => by have := (a4.low hb).1; omega
        by_cases t : max g.1 h.1 ≤ min g.2 h.2
        · rw [if_pos t, hasB_cons]
          cases hA : hasB a r <;> cases hB : hasB b r <;> simp only [hA, hB, forall_const] at z z2 <;> (rw [Bool.eq_iff_iff]; simp <;> omega)
        · rw [if_neg t]
          cases hA : hasB a r <;> cases hB : hasB b r <;> simp only [hA, hB, forall_const] at z z2 <;> (rw [Bool.eq_iff_iff]; simp <;> omega)
theorem both_can {a b : List Rg} {la lb : Int} (ha : Can la a) (hb : Can lb b) : Can la (bothS a b) := (both_ok _ a b la lb (Nat.le_refl _) ha hb).1 _ (.inl (Int.le_refl _))
theorem both_has {a b : List Rg} {la lb : Int} (ha : Can la a) (hb : Can lb b) (r : Int) : hasB (bothS a b) r = (hasB a r && hasB b r) := (both_ok _ a b la lb (Nat.le_refl _) ha hb).2 r
theorem both_cons (g h : Rg) (a b : List Rg) : bothS (g :: a) (h :: b) = (if max g.1 h.1 ≤ min g.2 h.2 then [(max g.1 h.1, min g.2 h.2)] else []) ++ (if g.2 < h.2 then bothS a (h :: b) else bothS (g :: a) b) := by rw [bothS]
theorem both_nil1 (b : List Rg) : bothS [] b = [] := by rw [bothS]
theorem both_nil2 (a : List Rg) : bothS a [] = [] := by cases a <;> rw [bothS]

def restGo : Int → List Rg → List Rg
  | next, [] => if next ≤ 1114111 then [(next, 1114111)] else []
  | next, g :: l => (if next < g.1 then [(next, g.1 - 1)] else []) ++ restGo (g.2 + 1) l
theorem rest_ok : ∀ (l : List Rg) (next lo : Int), next ≤ lo → Can lo l → Can next (restGo next l) ∧ ∀ r, hasB (restGo next l) r = (decide (next ≤ r) && decide (r ≤ 1114111) && !hasB l r)
  | [], next, lo, h, _ => by
    rw [restGo]
    by_cases t : next ≤ 1114111
    · rw [if_pos t]
      exact ⟨⟨Int.le_refl _, t, Int.le_refl _, trivial⟩, fun r => by rw [hasB_cons]; simp⟩
    · rw [if_neg t]
      refine ⟨trivial, fun r => ?_⟩
      rw [Bool.eq_iff_iff]; simp; omega
  | g :: l, next, lo, h, ⟨a, b, c, d⟩ => by
    obtain ⟨i1, i2⟩ := rest_ok l (g.2 + 1) (g.2 + 2) (by omega) d
    rw [restGo]
    have hz : ∀ r, hasB l r = true → g.2 + 2 ≤ r := fun r hb => (d.low hb).1
    by_cases t : next < g.1
    · rw [if_pos t]
      refine ⟨⟨Int.le_refl _, by simp; omega, by simp; omega, ?_⟩, fun r => ?_⟩
      · exact i1.mono (by simp; omega)
      · rw [hasB_append, i2 r, hasB_cons, hasB_cons]
        have := hz r
        cases hA : hasB l r <;> simp only [hA, forall_const] at this <;> (rw [Bool.eq_iff_iff]; simp <;> omega)
    · rw [if_neg t]
      refine ⟨i1.mono (by omega), fun r => ?_⟩
      rw [hasB_append, i2 r, hasB_cons]
      have := hz r
      cases hA : hasB l r <;> simp only [hA, forall_const] at this <;> (rw [Bool.eq_iff_iff]; simp <;> omega)
theorem restGo_len : ∀ (l : List Rg) (next : Int), (restGo next l).length ≤ l.length + 1
  | [], next => by rw [restGo]; split <;> simp
  | g :: l, next => by
    have := restGo_len l (g.2 + 1)
    rw [restGo, List.length_append]; split <;> simp <;> omega

def countS : List Rg → Int
  | [] => 0
  | g :: l => g.2 - g.1 + 1 + countS l
theorem countS_append : ∀ (l m : List Rg), countS (l ++ m) = countS l + countS m
  | [], m => by simp [countS]
  | g :: l, m => by simp only [List.cons_append, countS, countS_append l m]; omega
/-- How many runes from lo on, n of them, have p. -/
def cnt (p : Int → Bool) : Int → Nat → Int
  | _, 0 => 0
  | lo, n + 1 => (if p lo then 1 else 0) + cnt p (lo + 1) n
theorem cnt_add (p : Int → Bool) : ∀ (m n : Nat) (lo : Int), cnt p lo (m + n) = cnt p lo m + cnt p (lo + m) n
  | 0, n, lo => by simp [cnt]
  | m + 1, n, lo => by
    rw [show m + 1 + n = (m + n) + 1 by omega, cnt, cnt, cnt_add p m n (lo + 1)]
    rw [show lo + 1 + (m : Int) = lo + ((m + 1 : Nat) : Int) by omega]; omega
theorem cnt_all (p : Int → Bool) (b : Bool) : ∀ (n : Nat) (lo : Int), (∀ r, lo ≤ r → r < lo + n → p r = b) → cnt p lo n = if b then (n : Int) else 0
  | 0, lo, _ => by simp [cnt]
  | n + 1, lo, h => by
    rw [cnt, h lo (by omega) (by omega), cnt_all p b n (lo + 1) (fun r h1 h2 => h r (by omega) (by omega))]
    cases b <;> simp <;> omega
theorem cnt_congr {p q : Int → Bool} : ∀ (n : Nat) (lo : Int), (∀ r, lo ≤ r → r < lo + n → p r = q r) → cnt p lo n = cnt q lo n
  | 0, lo, _ => rfl
  | n + 1, lo, h => by rw [cnt, cnt, h lo (by omega) (by omega), cnt_congr n (lo + 1) (fun r h1 h2 => h r (by omega) (by omega))]
theorem cnt_split (p q : Int → Bool) : ∀ (n : Nat) (lo : Int), cnt (fun r => p r && !q r) lo n + cnt (fun r => p r && q r) lo n = cnt p lo n
  | 0, lo => rfl
  | n + 1, lo => by
    have := cnt_split p q n (lo + 1)
    simp only [cnt]
    by_cases hp : p lo = true <;> by_cases hq : q lo = true <;> simp [hp, hq] <;> omega
theorem cnt_can : ∀ (l : List Rg) (lo : Int) (n : Nat), Can lo l → lo + n = 1114112 → cnt (hasB l) lo n = countS l
  | [], lo, n, _, _ => by rw [cnt_all (hasB []) false n lo (fun _ _ _ => rfl)]; simp [countS]
  | g :: l, lo, n, ⟨a, b, c, d⟩, h => by
    obtain ⟨m1, hm1⟩ := Int.eq_ofNat_of_zero_le (show 0 ≤ g.1 - lo by omega)
    obtain ⟨m2, hm2⟩ := Int.eq_ofNat_of_zero_le (show 0 ≤ g.2 - g.1 + 1 by omega)
    obtain ⟨m3, hm3⟩ := Int.eq_ofNat_of_zero_le (show 0 ≤ 1114111 - g.2 by omega)
    have hn : n = m1 + (m2 + m3) := by omega
    subst hn
    rw [cnt_add, cnt_add]
    rw [cnt_all _ false m1 lo (fun r h1 h2 => by rw [hasB_cons, d.out (by omega)]; simp; omega)]
    rw [cnt_all _ true m2 _ (fun r h1 h2 => by rw [hasB_cons]; simp; left; omega)]
    rw [cnt_congr (q := hasB l) m3 _ (fun r h1 h2 => by rw [hasB_cons]; simp; intro h3 h4; omega)]
    rw [show lo + (m1 : Int) + (m2 : Int) = g.2 + 1 by omega, cnt_can l (g.2 + 1) m3 (d.mono (by omega)) (by omega)]
    simp [countS]; omega
theorem countS_eq {l : List Rg} (h : Can 0 l) : countS l = cnt (hasB l) 0 1114112 := (cnt_can l 0 1114112 h (by decide)).symm
theorem countS_bd : ∀ (l : List Rg) (lo : Int), Can lo l → lo ≤ 1114113 → 0 ≤ countS l ∧ countS l ≤ 1114113 - lo
  | [], lo, _, h => by simp [countS]; omega
  | g :: l, lo, ⟨a, b, c, d⟩, h => by
    have := countS_bd l _ d (by omega)
    simp only [countS]; omega

/-! ### The reference -/
theorem take_succ (xs : List Rg) (K : Nat) (h : K < xs.length) : xs.take (K + 1) = xs.take K ++ [xs.getD K (0, 0)] := by
  rw [List.take_succ_eq_append_getElem h]; simp [List.getD, List.getElem?_eq_getElem h]
theorem countS_take (xs : List Rg) (K : Nat) (h : K < xs.length) : countS (xs.take (K + 1)) = countS (xs.take K) + ((xs.getD K (0, 0)).2 - (xs.getD K (0, 0)).1 + 1) := by
  rw [take_succ xs K h, countS_append]; simp [countS]
theorem can_take {xs : List Rg} (h : Can 0 xs) (K : Nat) : Can 0 (xs.take K) := by
  rw [← List.take_append_drop K xs, can_append] at h; exact h.1
def stepN (start out : Int) (g : Rg) : Int :=
  if start ≤ g.2 + 1 ∧ g.2 + 1 < (if start ≤ g.1 ∧ g.1 < out then g.1 else out) then g.2 + 1 else (if start ≤ g.1 ∧ g.1 < out then g.1 else out)
def nextS (l : List Rg) (start : Int) : Int := l.foldl (stepN start) 1114112
theorem stepN_ok (start out : Int) (g : Rg) (h : start ≤ out) : start ≤ stepN start out g ∧ stepN start out g ≤ out ∧ ¬ (start ≤ g.1 ∧ g.1 < stepN start out g) ∧ ¬ (start ≤ g.2 + 1 ∧ g.2 + 1 < stepN start out g) := by
  unfold stepN; (repeat' split) <;> omega
theorem fold_ok (start : Int) : ∀ (l : List Rg) (out : Int), start ≤ out → start ≤ l.foldl (stepN start) out ∧ l.foldl (stepN start) out ≤ out ∧
    ∀ g ∈ l, ¬ (start ≤ g.1 ∧ g.1 < l.foldl (stepN start) out) ∧ ¬ (start ≤ g.2 + 1 ∧ g.2 + 1 < l.foldl (stepN start) out)
  | [], out, h => ⟨h, Int.le_refl _, fun _ h => by simp at h⟩
  | g :: l, out, h => by
    obtain ⟨a, b, c, d⟩ := stepN_ok start out g h
    obtain ⟨e, f, k⟩ := fold_ok start l _ a
    rw [List.foldl_cons]
    refine ⟨e, by omega, fun x hx => ?_⟩
    rcases List.mem_cons.1 hx with rfl | hx
    · omega
    · exact k x hx
theorem nextS_bd (l : List Rg) (start : Int) (h : start ≤ 1114112) : start ≤ nextS l start ∧ nextS l start ≤ 1114112 := ⟨(fold_ok start l _ h).1, (fold_ok start l _ h).2.1⟩
/-- No range begins or ends between at and the next place. -/
theorem same_till (l : List Rg) (at_ e r : Int) (h : at_ + 1 ≤ 1114112) (h1 : at_ ≤ r) (h2 : r < e) (h3 : e ≤ nextS l (at_ + 1)) : hasB l r = hasB l at_ := by
  have k := (fold_ok (at_ + 1) l _ h).2.2
  unfold nextS at h3
  rw [Bool.eq_iff_iff, hasB_iff, hasB_iff]
  constructor <;> rintro ⟨g, hg, h4⟩ <;> (refine ⟨g, hg, ?_⟩; have := k g hg; omega)
/-- Which runes are wanted. -/
def kindB (a b : List Rg) (how : Int) (r : Int) : Bool :=
  if how = 1 then inB a r || inB b r else if how = 2 then inB a r && inB b r else inB a r && !inB b r
theorem kind_till (a b : List Rg) (how at_ e r : Int) (h0 : 0 ≤ at_) (h : at_ + 1 ≤ 1114112) (h1 : at_ ≤ r) (h2 : r < e) (h3 : e ≤ nextS a (at_ + 1)) (h4 : e ≤ nextS b (at_ + 1)) : kindB a b how r = kindB a b how at_ := by
  have e1 := same_till a at_ e r h h1 h2 h3
  have e2 := same_till b at_ e r h h1 h2 h4
  have b3 := (nextS_bd a (at_ + 1) h).2
  unfold kindB inB
  rw [e1, e2]
  have x1 : decide (0 ≤ r) = true := by simp; omega
  have x2 : decide (r ≤ 1114111) = true := by simp; omega
  have x3 : decide (0 ≤ at_) = true := by simp; omega
  have x4 : decide (at_ ≤ 1114111) = true := by simp; omega
  rw [x1, x2, x3, x4]
theorem kind_out (a b : List Rg) (how r : Int) (h : r < 0 ∨ 1114111 < r) : kindB a b how r = false := by
  have e : ∀ l, inB l r = false := fun l => by
    unfold inB
    rcases h with h | h
    · have : decide (0 ≤ r) = false := by simp; omega
      rw [this]; rfl
    · have : decide (r ≤ 1114111) = false := by simp; omega
      rw [this]; simp
  unfold kindB; rw [e, e]; simp
/-- What the reference's Ranges has built ahead of 'at'. -/
structure Upto (K : Int → Bool) (at_ : Int) (out : List Rg) : Prop where
  can : Can 0 out
  nx : nxt 0 out ≤ at_ + 1
  has : ∀ r, hasB out r = (decide (r < at_) && K r)
theorem upto_nil (K : Int → Bool) (h : ∀ r, r < 0 → K r = false) : Upto K 0 [] := ⟨trivial, by decide, fun r => by
  by_cases t : r < 0
  · simp [h r t]
  · simp [t]⟩
theorem upto_skip {K : Int → Bool} {at_ e : Int} {out : List Rg} (h : Upto K at_ out) (hk : K at_ = false) (hc : ∀ r, at_ ≤ r → r < e → K r = K at_) (he : at_ < e) : Upto K e out :=
  ⟨h.can, by have := h.nx; omega, fun r => by
    rw [h.has]
    by_cases t : r < at_
    · simp [t, show r < e by omega]
    · by_cases t2 : r < e
      · simp [t, t2, hc r (by omega) t2, hk]
      · simp [t, t2]⟩
theorem upto_new {K : Int → Bool} {at_ e : Int} {out : List Rg} (h : Upto K at_ out) (hk : K at_ = true) (hc : ∀ r, at_ ≤ r → r < e → K r = K at_) (he : at_ < e) (h0 : 0 ≤ at_) (h1 : e ≤ 1114112)
    (hl : nxt 0 out ≤ at_) : Upto K e (out ++ [(at_, e - 1)]) :=
  ⟨can_snoc.2 ⟨h.can, hl, by simp; omega, by simp; omega⟩, by rw [nxt_snoc]; simp; omega, fun r => by
    rw [hasB_append, h.has, hasB_cons]
    by_cases t : r < at_
    · simp [t, show r < e by omega]; omega
    · by_cases t2 : r < e
      · have := hc r (by omega) t2
        rw [hk] at this
        simp [t, t2, this]; omega
      · simp [t, t2]; omega⟩
theorem upto_far {K : Int → Bool} {at_ : Int} {out : List Rg} {g : Rg} (h : Upto K at_ (out ++ [g])) (hg : g.2 ≠ at_ - 1) : nxt 0 (out ++ [g]) ≤ at_ := by
  have := h.nx; rw [nxt_snoc] at this ⊢; omega
theorem upto_near {K : Int → Bool} {at_ e : Int} {out : List Rg} {g : Rg} (h : Upto K at_ (out ++ [g])) (hk : K at_ = true) (hc : ∀ r, at_ ≤ r → r < e → K r = K at_) (he : at_ < e) (h1 : e ≤ 1114112)
    (hg : g.2 = at_ - 1) : Upto K e (out ++ [(g.1, e - 1)]) := by
  obtain ⟨c1, c2, c3, c4⟩ := can_snoc.1 h.can
  refine ⟨can_snoc.2 ⟨c1, c2, by simp; omega, by simp; omega⟩, by rw [nxt_snoc]; simp; omega, fun r => ?_⟩
  have := h.has r
  rw [hasB_append, hasB_cons] at this
  rw [hasB_append, hasB_cons]
  by_cases t : r < at_
  · have t2 : r < e := by omega
    simp [t, t2] at this ⊢
    rw [← this]
    have z : decide (r ≤ e - 1) = decide (r ≤ g.2) := by rw [decide_eq_decide]; omega
    rw [z]
  · by_cases t2 : r < e
    · have h3 := hc r (by omega) t2
      rw [hk] at h3
      simp [t2, h3]; right; omega
    · simp [t] at this
      simp [t2]
      exact ⟨this.1, by intro; omega⟩
theorem upto_end {K : Int → Bool} {at_ : Int} {out : List Rg} (h : Upto K at_ out) (ha : 1114111 < at_) (hK : ∀ r, 1114111 < r → K r = false) : Can 0 out ∧ ∀ r, hasB out r = K r :=
  ⟨h.can, fun r => by
    rw [h.has]
    by_cases t : r < at_
    · simp [t]
    · simp [t, hK r (by omega)]⟩
end Go.Proofs.YthelhplcijhioaaGreat.Ran

/- The chapter's tables as plain lists of ranges, and what holds of them. No Go here. -/
set_option linter.unusedVariables false
namespace Go.Proofs.YthelhplcijhioaaGreat.Ran
open Go.Lib

def zeroT : List Rg := [(768, 879), (1155, 1161), (1425, 1469), (1471, 1471), (1473, 1474), (1476, 1477), (1479, 1479), (1552, 1562), (1611, 1631), (1648, 1648), (1750, 1756), (1759, 1764), (1767, 1768),
  (1770, 1773), (1809, 1809), (1840, 1866), (1958, 1968), (2027, 2035), (2070, 2073), (2075, 2083), (2085, 2087), (2089, 2093), (2137, 2139), (2259, 2273), (2275, 2306), (2362, 2362),
  (2364, 2364), (2369, 2376), (2381, 2381), (2385, 2391), (2402, 2403), (2433, 2433), (2492, 2492), (2497, 2500), (2509, 2509), (2561, 2562), (2620, 2620), (2625, 2626), (2631, 2632),
  (2635, 2637), (3633, 3633), (3636, 3642), (3655, 3662), (3761, 3761), (3764, 3772), (3784, 3789), (4448, 4607), (4957, 4959), (5906, 5908), (6068, 6069), (6071, 6077), (6155, 6157),
  (6832, 6846), (7616, 7673), (7675, 7679), (8203, 8207), (8232, 8238), (8288, 8303), (8400, 8432), (12330, 12333), (12441, 12442), (42607, 42610), (42612, 42621), (42654, 42655),
  (42736, 42737), (43232, 43249), (64286, 64286), (65024, 65039), (65056, 65071), (65279, 65279), (65529, 65531), (66045, 66045), (68097, 68099), (68101, 68102), (68108, 68111),
  (119143, 119145), (119155, 119170), (119173, 119179), (119210, 119213), (917505, 917505), (917536, 917631), (917760, 917999)]
def wideT : List Rg := [(4352, 4447), (8986, 8987), (9001, 9002), (9193, 9196), (9200, 9200), (9203, 9203), (9725, 9726), (9748, 9749), (9800, 9811), (9855, 9855), (9875, 9875), (9889, 9889), (9898, 9899),
  (9917, 9918), (9924, 9925), (9934, 9934), (9940, 9940), (9962, 9962), (9970, 9971), (9973, 9973), (9978, 9978), (9981, 9981), (9989, 9989), (9994, 9995), (10024, 10024),
  (10060, 10060), (10062, 10062), (10067, 10069), (10071, 10071), (10133, 10135), (10160, 10160), (10175, 10175), (11035, 11036), (11088, 11088), (11093, 11093), (11904, 11929),
  (11931, 12019), (12032, 12245), (12272, 12283), (12288, 12329), (12334, 12350), (12353, 12438), (12443, 12543), (12549, 12591), (12593, 12686), (12688, 12730), (12736, 12771),
  (12784, 12830), (12832, 12871), (12880, 19903), (19968, 42124), (42128, 42182), (43360, 43388), (44032, 55203), (63744, 64255), (65040, 65049), (65072, 65106), (65108, 65126),
  (65128, 65131), (65281, 65376), (65504, 65510), (94176, 94179), (94208, 100343), (100352, 101106), (110592, 110878), (110928, 110930), (110948, 110951), (110960, 111355),
  (126980, 126980), (127183, 127183), (127374, 127374), (127377, 127386), (127488, 127490), (127504, 127547), (127552, 127560), (127568, 127569), (127584, 127589), (127744, 127776),
  (127789, 127797), (127799, 127868), (127870, 127891), (127904, 127946), (127951, 127955), (127968, 127984), (127988, 127988), (127992, 128062), (128064, 128064), (128066, 128252),
  (128255, 128317), (128331, 128334), (128336, 128359), (128378, 128378), (128405, 128406), (128420, 128420), (128507, 128591), (128640, 128709), (128716, 128716), (128720, 128722),
  (128725, 128727), (128747, 128748), (128756, 128764), (128992, 129003), (129292, 129338), (129340, 129349), (129351, 129400), (129402, 129483), (129485, 129535), (129648, 129652),
  (129656, 129658), (129664, 129670), (129680, 129704), (129712, 129718), (129728, 129730), (129744, 129750), (131072, 196605), (196608, 262141)]
def controlT : List Rg := [(0, 31), (127, 159)]
def bidiT : List Rg := [(1564, 1564), (8206, 8207), (8234, 8238), (8294, 8297)]
def formatT : List Rg := [(173, 173), (1536, 1541), (1757, 1757), (1807, 1807), (2274, 2274), (6158, 6158), (8203, 8205), (8288, 8292), (8298, 8303), (65279, 65279), (65529, 65531), (69821, 69821),
  (69837, 69837), (113824, 113827), (119155, 119162), (917505, 917505), (917536, 917631)]
def separatorT : List Rg := [(8232, 8233)]

/-- A list is canonical, as a test. -/
def canB : Int → List Rg → Bool
  | _, [] => true
  | lo, g :: l => decide (lo ≤ g.1) && decide (g.1 ≤ g.2) && decide (g.2 ≤ 1114111) && canB (g.2 + 2) l
theorem can_of_B : ∀ (l : List Rg) (lo : Int), canB lo l = true → Can lo l
  | [], _, _ => trivial
  | g :: l, lo, h => by
    simp only [canB, Bool.and_eq_true, decide_eq_true_eq] at h
    exact ⟨h.1.1.1, h.1.1.2, h.1.2, can_of_B l _ h.2⟩
/-- No rune is in both. -/
def apartB (l m : List Rg) : Bool := l.all fun g => m.all fun h => decide (g.2 < h.1) || decide (h.2 < g.1)
theorem apart_of_B {l m : List Rg} (h : apartB l m = true) (r : Int) : ¬ (hasB l r = true ∧ hasB m r = true) := by
  rintro ⟨h1, h2⟩
  obtain ⟨g, hg, a, b⟩ := hasB_iff.1 h1
  obtain ⟨k, hk, c, d⟩ := hasB_iff.1 h2
  have := List.all_eq_true.1 (List.all_eq_true.1 h g hg) k hk
  simp only [Bool.or_eq_true, decide_eq_true_eq] at this
  omega
set_option maxRecDepth 100000
theorem can_zero : Can 0 zeroT := can_of_B _ _ (by kernel_rfl)
theorem can_wide : Can 0 wideT := can_of_B _ _ (by kernel_rfl)
theorem can_control : Can 0 controlT := can_of_B _ _ (by kernel_rfl)
theorem can_bidi : Can 0 bidiT := can_of_B _ _ (by kernel_rfl)
theorem can_format : Can 0 formatT := can_of_B _ _ (by kernel_rfl)
theorem can_separator : Can 0 separatorT := can_of_B _ _ (by kernel_rfl)
theorem len_zero : zeroT.length = 82 := by kernel_rfl
theorem len_wide : wideT.length = 116 := by kernel_rfl
theorem wide_zero (r : Int) : ¬ (hasB wideT r = true ∧ hasB zeroT r = true) := apart_of_B (by kernel_rfl) r
theorem in_can {l : List Rg} (h : Can 0 l) (r : Int) : inB l r = hasB l r := by
  unfold inB
  cases e : hasB l r
  · simp
  · have := h.low e; simp; omega

/-- What IsWide, IsZero, Kind tell. -/
def kindS (r : Int) : Int := if hasB controlT r then 1 else if hasB bidiT r then 2 else if hasB formatT r then 3 else if hasB separatorT r then 4 else 0
def sizeS (r : Int) : Int := if hasB wideT r then 2 else if hasB zeroT r then 0 else 1
/-- The four tables of the kinds, one behind the other. -/
def unsafeT : List Rg := controlT ++ bidiT ++ formatT ++ separatorT
/-- As the reference lists them. -/
def unsafeR : List Rg := [(0, 31), (127, 159), (8232, 8233)] ++ bidiT ++ formatT
theorem unsafe_has (r : Int) : hasB unsafeT r = decide (kindS r ≠ 0) := by
  unfold unsafeT kindS
  rw [hasB_append, hasB_append, hasB_append]
  cases hasB controlT r <;> cases hasB bidiT r <;> cases hasB formatT r <;> cases hasB separatorT r <;> rfl
theorem control_has (r : Int) : hasB controlT r = (decide (0 ≤ r ∧ r ≤ 31) || decide (127 ≤ r ∧ r ≤ 159)) := by simp [controlT, hasB]
theorem separator_has (r : Int) : hasB separatorT r = (decide (r = 8232) || decide (r = 8233)) := by
  rw [Bool.eq_iff_iff]; simp [separatorT, hasB]; omega
theorem kind_eq (r : Int) : kindS r = if 0 ≤ r ∧ r < 32 ∨ 126 < r ∧ r < 160 then 1 else if hasB bidiT r then 2 else if hasB formatT r then 3 else if r = 8232 ∨ r = 8233 then 4 else 0 := by
  unfold kindS
  rw [control_has, separator_has]
  by_cases h1 : 0 ≤ r ∧ r < 32 ∨ 126 < r ∧ r < 160
  · rw [if_pos h1, if_pos (by simp; omega)]
  · rw [if_neg h1, if_neg (by simp; omega)]
    by_cases h2 : r = 8232 ∨ r = 8233
    · simp only [if_pos h2, show (decide (r = 8232) || decide (r = 8233)) = true by simpa using h2, if_true]
    · simp only [if_neg h2, show (decide (r = 8232) || decide (r = 8233)) = false by simpa using h2, if_false, Bool.false_eq_true]
theorem unsafeR_has (r : Int) : hasB unsafeR r = hasB unsafeT r := by
  unfold unsafeT unsafeR
  rw [hasB_append, hasB_append, hasB_append, hasB_append, hasB_append,
    show ([(0, 31), (127, 159), (8232, 8233)] : List Rg) = controlT ++ separatorT from rfl, hasB_append]
  cases hasB controlT r <;> cases hasB bidiT r <;> cases hasB formatT r <;> cases hasB separatorT r <;> rfl
theorem kind_bd (r : Int) : 0 ≤ kindS r ∧ kindS r ≤ 4 := by unfold kindS; (repeat' split) <;> omega
theorem size_bd (r : Int) : 0 ≤ sizeS r ∧ sizeS r ≤ 2 := by unfold sizeS; (repeat' split) <;> omega
theorem size_wide (r : Int) : decide (sizeS r = 2) = hasB wideT r := by unfold sizeS; cases hasB wideT r <;> cases hasB zeroT r <;> rfl
theorem size_zero (r : Int) : decide (sizeS r = 0) = hasB zeroT r := by
  have := wide_zero r
  unfold sizeS
  cases h1 : hasB wideT r <;> cases h2 : hasB zeroT r <;> simp_all
end Go.Proofs.YthelhplcijhioaaGreat.Ran
