/- Plain sets of ranges: membership, canonical lists and what each function of layer 2 makes. No Go here. -/
import Derived.Lib.Bytes
set_option maxRecDepth 100000
set_option linter.unusedVariables false
namespace Go.Proofs.YtmchgimbfdeaiaaGreat.Ran

abbrev Rg := Int × Int
/-- Is a rune in some range of the list? -/
def hasB (l : List Rg) (r : Int) : Bool := l.any fun g => decide (g.1 ≤ r) && decide (r ≤ g.2)
/-- .. and from 0 to 10ffff? -/
def inB (l : List Rg) (r : Int) : Bool := decide (0 ≤ r) && decide (r ≤ 1114111) && hasB l r
/-- A canonical list, from lo on: ranges that are not empty, increase, and do not touch. -/
def Can : Int → List Rg → Prop
  | _, [] => True
  | lo, g :: l => lo ≤ g.1 ∧ g.1 ≤ g.2 ∧ g.2 ≤ 1114111 ∧ Can (g.2 + 2) l
/-- Where a further range may begin. -/
def nxt : Int → List Rg → Int
  | lo, [] => lo
  | _, g :: l => nxt (g.2 + 2) l

@[simp] theorem hasB_nil (r : Int) : hasB [] r = false := rfl
theorem hasB_cons (g : Rg) (l : List Rg) (r : Int) : hasB (g :: l) r = (decide (g.1 ≤ r) && decide (r ≤ g.2) || hasB l r) := rfl
theorem hasB_append (l m : List Rg) (r : Int) : hasB (l ++ m) r = (hasB l r || hasB m r) := by unfold hasB; rw [List.any_append]
theorem hasB_iff {l : List Rg} {r : Int} : hasB l r = true ↔ ∃ g ∈ l, g.1 ≤ r ∧ r ≤ g.2 := by simp [hasB]
theorem hasB_perm {l m : List Rg} (h : l.Perm m) (r : Int) : hasB l r = hasB m r := by
  rw [Bool.eq_iff_iff, hasB_iff, hasB_iff]
  constructor <;> rintro ⟨g, hg, h1⟩
  · exact ⟨g, h.mem_iff.1 hg, h1⟩
  · exact ⟨g, h.mem_iff.2 hg, h1⟩

theorem Can.mono {lo lo' : Int} : ∀ {l : List Rg}, Can lo l → lo' ≤ lo → Can lo' l
  | [], _, _ => trivial
  | g :: l, ⟨a, b, c, d⟩, h => ⟨by omega, b, c, d⟩
theorem Can.low {r : Int} : ∀ {l : List Rg} {lo : Int}, Can lo l → hasB l r = true → lo ≤ r ∧ r ≤ 1114111
  | [], _, _, h => by simp at h
  | g :: l, lo, ⟨a, b, c, d⟩, h => by
    rw [hasB_cons] at h
    simp only [Bool.or_eq_true, Bool.and_eq_true, decide_eq_true_eq] at h
    rcases h with h | h
    · omega
    · have := Can.low d h; omega
theorem Can.out {l : List Rg} {lo r : Int} (h : Can lo l) (hr : r < lo) : hasB l r = false := by
  cases e : hasB l r
  · rfl
  · have := (Can.low h e).1; omega
theorem Can.over {l : List Rg} {lo r : Int} (h : Can lo l) (hr : 1114111 < r) : hasB l r = false := by
  cases e : hasB l r
  · rfl
  · have := (Can.low h e).2; omega
theorem can_unique : ∀ (l m : List Rg) (lo : Int), Can lo l → Can lo m → (∀ r, hasB l r = hasB m r) → l = m
  | [], [], _, _, _, _ => rfl
  | [], h :: m, lo, _, ⟨a, b, c, d⟩, e => by have := e h.1; rw [hasB_cons] at this; simp at this; omega
  | g :: l, [], lo, ⟨a, b, c, d⟩, _, e => by have := e g.1; rw [hasB_cons] at this; simp at this; omega
  | g :: l, h :: m, lo, ⟨a, b, c, d⟩, ⟨a', b', c', d'⟩, e => by
    have x1 : h.1 ≤ g.1 := by
      by_cases t : h.1 ≤ g.1
      · exact t
      · have e1 : hasB (h :: m) g.1 = true := by rw [← e, hasB_cons]; simp; omega
        rw [hasB_cons, d'.out (r := g.1) (by omega)] at e1; simp at e1; omega
    have x2 : g.1 ≤ h.1 := by
      by_cases t : g.1 ≤ h.1
      · exact t
      · have e1 : hasB (g :: l) h.1 = true := by rw [e, hasB_cons]; simp; omega
        rw [hasB_cons, d.out (r := h.1) (by omega)] at e1; simp at e1; omega
    have y1 : h.2 ≤ g.2 := by
      by_cases t : h.2 ≤ g.2
      · exact t
      · have e1 : hasB (g :: l) (g.2 + 1) = true := by rw [e, hasB_cons]; simp; omega
        rw [hasB_cons, d.out (r := g.2 + 1) (by omega)] at e1; simp at e1; omega
    have y2 : g.2 ≤ h.2 := by
      by_cases t : g.2 ≤ h.2
      · exact t
      · have e1 : hasB (h :: m) (h.2 + 1) = true := by rw [← e, hasB_cons]; simp; omega
        rw [hasB_cons, d'.out (r := h.2 + 1) (by omega)] at e1; simp at e1; omega
    have hgh : g = h := Prod.ext (by omega) (by omega)
    subst hgh
    congr 1
    refine can_unique l m (g.2 + 2) d d' fun r => ?_
    by_cases hr : r < g.2 + 2
    · rw [d.out hr, d'.out hr]
    · have := e r
      rw [hasB_cons, hasB_cons] at this
      have z : decide (r ≤ g.2) = false := by simp; omega
      simpa [z] using this
theorem can_append : ∀ (l m : List Rg) (lo : Int), Can lo (l ++ m) ↔ Can lo l ∧ Can (nxt lo l) m
  | [], m, lo => by simp [Can, nxt]
  | g :: l, m, lo => by
    simp only [List.cons_append, Can, nxt, can_append l m]
    constructor
    · rintro ⟨a, b, c, d, e⟩; exact ⟨⟨a, b, c, d⟩, e⟩
    · rintro ⟨⟨a, b, c, d⟩, e⟩; exact ⟨a, b, c, d, e⟩
theorem nxt_snoc : ∀ (l : List Rg) (h : Rg) (lo : Int), nxt lo (l ++ [h]) = h.2 + 2
  | [], h, lo => rfl
  | g :: l, h, lo => by simp only [List.cons_append, nxt, nxt_snoc l h]
theorem can_snoc {l : List Rg} {h : Rg} {lo : Int} : Can lo (l ++ [h]) ↔ Can lo l ∧ nxt lo l ≤ h.1 ∧ h.1 ≤ h.2 ∧ h.2 ≤ 1114111 := by
  rw [can_append]; simp [Can]
theorem can_len : ∀ (l : List Rg) (lo : Int), Can lo l → lo ≤ 1114113 → 2 * (l.length : Int) ≤ 1114113 - lo
  | [], lo, _, h => by simp; omega
  | g :: l, lo, ⟨a, b, c, d⟩, h => by
    have := can_len l _ d (by omega)
    simp; omega
theorem can_len0 {l : List Rg} (h : Can 0 l) : l.length ≤ 557056 := by have := can_len l 0 h (by omega); omega
theorem can_sorted : ∀ {l : List Rg} {lo : Int}, Can lo l → ∀ g ∈ l, lo ≤ g.1 ∧ g.1 ≤ g.2 ∧ g.2 ≤ 1114111
  | [], _, _, g, h => by simp at h
  | x :: l, lo, ⟨a, b, c, d⟩, g, h => by
    rcases List.mem_cons.1 h with rfl | h
    · exact ⟨a, b, c⟩
    · have := can_sorted d g h; omega
theorem can_get {l : List Rg} {lo : Int} (h : Can lo l) {k : Nat} (hk : k < l.length) : lo ≤ (l.getD k (0, 0)).1 ∧ (l.getD k (0, 0)).1 ≤ (l.getD k (0, 0)).2 ∧ (l.getD k (0, 0)).2 ≤ 1114111 := by
  have := can_sorted h l[k] (List.getElem_mem hk)
  simpa [List.getD, List.getElem?_eq_getElem hk] using this
theorem can_lt : ∀ {l : List Rg} {lo : Int}, Can lo l → ∀ i j, i < j → j < l.length → (l.getD i (0, 0)).2 + 1 < (l.getD j (0, 0)).1
  | [], _, _, i, j, _, h => by simp at h
  | x :: l, lo, ⟨a, b, c, d⟩, i, j, hij, hj => by
    obtain ⟨j, rfl⟩ : ∃ k, j = k + 1 := ⟨j - 1, by omega⟩
    have hj' : j < l.length := by simpa using hj
    cases i with
    | zero => have := (can_get d hj').1; simp at this ⊢; omega
    | succ i => simpa using can_lt d i j (by omega) hj'
/-- What binary search tells. -/
theorem hasB_at {l : List Rg} {lo r : Int} (h : Can lo l) (i : Nat) (hi : i ≤ l.length) (h1 : ∀ k, k < i → (l.getD k (0, 0)).2 < r) (h2 : ∀ k, i ≤ k → k < l.length → r ≤ (l.getD k (0, 0)).2) :
    hasB l r = (decide (i < l.length) && decide ((l.getD i (0, 0)).1 ≤ r)) := by
  rw [Bool.eq_iff_iff, hasB_iff]
  simp only [Bool.and_eq_true, decide_eq_true_eq]
  constructor
  · rintro ⟨g, hg, h3, h4⟩
    obtain ⟨k, hk, rfl⟩ := List.getElem_of_mem hg
    have e : l.getD k (0, 0) = l[k] := by simp [List.getD, List.getElem?_eq_getElem hk]
    have hik : i ≤ k := by
      by_cases t : i ≤ k
      · exact t
      · have := h1 k (by omega); rw [e] at this; omega
    refine ⟨by omega, ?_⟩
    by_cases t : i = k
    · subst t; rw [e]; exact h3
    · have a := can_lt h i k (by omega) hk
      have b := h2 i (Nat.le_refl _) (by omega)
      rw [e] at a; omega
  · rintro ⟨h3, h4⟩
    refine ⟨l[i], List.getElem_mem h3, ?_⟩
    have e : l.getD i (0, 0) = l[i] := by simp [List.getD, List.getElem?_eq_getElem h3]
    have := h2 i (Nat.le_refl _) h3
    rw [e] at h4 this
    exact ⟨h4, this⟩

/-! ### New: clip, sort, merge -/
def clip (g : Rg) : Rg := (max g.1 0, min g.2 1114111)
def okG (g : Rg) : Bool := decide (g.1 ≤ g.2)
def keptG (l : List Rg) : List Rg := (l.map clip).filter okG
theorem keptG_snoc (l : List Rg) (g : Rg) : keptG (l ++ [g]) = keptG l ++ (if okG (clip g) then [clip g] else []) := by
  unfold keptG; rw [List.map_append, List.filter_append]
  congr 1
  by_cases h : okG (clip g) = true
  · simp [h]
  · simp [h]
theorem keptG_len (l : List Rg) : (keptG l).length ≤ l.length := by unfold keptG; exact Nat.le_trans (List.length_filter_le _ _) (by simp)
theorem keptG_has (r : Int) : ∀ l : List Rg, hasB (keptG l) r = inB l r
  | [] => by simp [keptG, inB]
  | g :: l => by
    have ih := keptG_has r l
    unfold keptG inB at *
    rw [List.map_cons, hasB_cons]
    by_cases h : okG (clip g) = true
    · rw [List.filter_cons_of_pos h, hasB_cons, ih]
      by_cases h0 : 0 ≤ r
      · by_cases h1 : r ≤ 1114111
        · have a1 : decide ((clip g).1 ≤ r) = decide (g.1 ≤ r) := by rw [decide_eq_decide]; show max g.1 0 ≤ r ↔ _; omega
          have a2 : decide (r ≤ (clip g).2) = decide (r ≤ g.2) := by rw [decide_eq_decide]; show r ≤ min g.2 1114111 ↔ _; omega
          rw [a1, a2]; simp [h0, h1]
        · have a2 : decide (r ≤ (clip g).2) = false := by apply decide_eq_false; show ¬ (r ≤ min g.2 1114111); omega
          simp [a2, h1]
      · have a1 : decide ((clip g).1 ≤ r) = false := by apply decide_eq_false; show ¬ (max g.1 0 ≤ r); omega
        simp [a1, h0]
    · rw [List.filter_cons_of_neg h, ih]
      unfold okG clip at h
      simp at h
      cases hasB l r <;> (rw [Bool.eq_iff_iff]; simp <;> omega)
theorem keptG_ok (l : List Rg) : ∀ g ∈ keptG l, 0 ≤ g.1 ∧ g.1 ≤ g.2 ∧ g.2 ≤ 1114111 := by
  intro g hg
  unfold keptG at hg
  rw [List.mem_filter, List.mem_map] at hg
  obtain ⟨⟨x, _, rfl⟩, h⟩ := hg
  unfold okG clip at *
  simp at h ⊢; omega

def stepM (acc : List Rg) (g : Rg) : List Rg :=
  match acc.getLast? with
  | none => [g]
  | some h => if h.2 + 1 < g.1 then acc ++ [g] else acc.dropLast ++ [(h.1, max h.2 g.2)]
theorem stepM_nil (g : Rg) : stepM [] g = [g] := rfl
theorem stepM_far (l : List Rg) (h g : Rg) (e : h.2 + 1 < g.1) : stepM (l ++ [h]) g = l ++ [h] ++ [g] := by simp [stepM, e]
theorem stepM_near (l : List Rg) (h g : Rg) (e : ¬ h.2 + 1 < g.1) : stepM (l ++ [h]) g = l ++ [(h.1, max h.2 g.2)] := by simp [stepM, e]
theorem snoc_cases (l : List Rg) : l = [] ∨ ∃ a h, l = a ++ [h] := by
  rcases List.eq_nil_or_concat l with h | ⟨a, h, e⟩
  · exact .inl h
  · exact .inr ⟨a, h, by simpa using e⟩
theorem stepM_len (acc : List Rg) (g : Rg) : (stepM acc g).length ≤ acc.length + 1 := by
  rcases snoc_cases acc with rfl | ⟨a, h, rfl⟩
  · simp [stepM_nil]
  · by_cases e : h.2 + 1 < g.1
    · rw [stepM_far _ _ _ e]; simp
    · rw [stepM_near _ _ _ e]; simp
theorem foldM_len : ∀ (xs acc : List Rg), (xs.foldl stepM acc).length ≤ acc.length + xs.length
  | [], acc => by simp
  | g :: xs, acc => by
    have h1 := foldM_len xs (stepM acc g)
    have h2 := stepM_len acc g
    simp only [List.foldl_cons, List.length_cons]; omega
theorem merge_ok : ∀ (xs acc : List Rg), Can 0 acc → (∀ a h, acc = a ++ [h] → ∀ g ∈ xs, h.1 ≤ g.1) → xs.Pairwise (fun a b => a.1 ≤ b.1) → (∀ g ∈ xs, 0 ≤ g.1 ∧ g.1 ≤ g.2 ∧ g.2 ≤ 1114111) →
    Can 0 (xs.foldl stepM acc) ∧ ∀ r, hasB (xs.foldl stepM acc) r = (hasB acc r || hasB xs r)
  | [], acc, h, _, _, _ => ⟨h, fun r => by simp⟩
  | g :: xs, acc, h, hl, hp, hv => by
    obtain ⟨hp1, hp2⟩ := List.pairwise_cons.1 hp
    have hg := hv g (by simp)
    have hv' : ∀ g ∈ xs, 0 ≤ g.1 ∧ g.1 ≤ g.2 ∧ g.2 ≤ 1114111 := fun x hx => hv x (by simp [hx])
    have key : Can 0 (stepM acc g) ∧ (∀ a h, stepM acc g = a ++ [h] → h.1 ≤ g.1) ∧ ∀ r, hasB (stepM acc g) r = (hasB acc r || (decide (g.1 ≤ r) && decide (r ≤ g.2))) := by
      rcases snoc_cases acc with rfl | ⟨a, x, rfl⟩
      · rw [stepM_nil]
        refine ⟨⟨hg.1, hg.2.1, hg.2.2, trivial⟩, fun a h e => ?_, fun r => by rw [hasB_cons]; simp⟩
        have := (List.append_inj' (s₁ := []) (t₁ := [g]) e rfl).2
        simp at this; subst this; exact Int.le_refl _
      · obtain ⟨c1, c2, c3, c4⟩ := can_snoc.1 h
        have hx := hl a x rfl g (by simp)
        by_cases e : x.2 + 1 < g.1
        · rw [stepM_far _ _ _ e]
          refine ⟨can_snoc.2 ⟨h, by rw [nxt_snoc]; omega, hg.2.1, hg.2.2⟩, fun a' h' e' => ?_, fun r => by rw [hasB_append]; simp [hasB_cons]⟩
          have := (List.append_inj' e' rfl).2
          simp at this; subst this; exact Int.le_refl _
        · rw [stepM_near _ _ _ e]
          refine ⟨can_snoc.2 ⟨c1, c2, by simp; omega, by simp; omega⟩, fun a' h' e' => ?_, fun r => ?_⟩
          · have := (List.append_inj' e' rfl).2
            simp at this; subst this; exact hx
          · rw [hasB_append, hasB_append, hasB_cons, hasB_cons]
            cases hasB a r
            · rw [Bool.eq_iff_iff]; simp; omega
            · simp
    obtain ⟨k1, k2, k3⟩ := key
    have := merge_ok xs (stepM acc g) k1 (fun a h e x hx => Int.le_trans (k2 a h e) (hp1 x hx)) hp2 hv'
    refine ⟨this.1, fun r => ?_⟩
    rw [List.foldl_cons, this.2 r, k3 r, hasB_cons, Bool.or_assoc]

/-! ### Both, rest, Count -/
def bothS : List Rg → List Rg → List Rg
  | [], _ => []
  | _ :: _, [] => []
  | g :: a, h :: b => (if max g.1 h.1 ≤ min g.2 h.2 then [(max g.1 h.1, min g.2 h.2)] else []) ++ (if g.2 < h.2 then bothS a (h :: b) else bothS (g :: a) b)
termination_by a b => a.length + b.length
theorem both_ok : ∀ (n : Nat) (a b : List Rg) (la lb : Int), a.length + b.length ≤ n → Can la a → Can lb b →
    (∀ lo, lo ≤ la ∨ lo ≤ lb → Can lo (bothS a b)) ∧ ∀ r, hasB (bothS a b) r = (hasB a r && hasB b r)
  | n, [], b, la, lb, _, _, _ => by rw [bothS]; exact ⟨fun _ _ => trivial, fun r => by simp⟩
  | n, g :: a, [], la, lb, _, _, _ => by rw [bothS]; exact ⟨fun _ _ => trivial, fun r => by simp⟩
  | 0, g :: a, h :: b, la, lb, hn, _, _ => by simp at hn
  | n + 1, g :: a, h :: b, la, lb, hn, ca, cb => by
    obtain ⟨a1, a2, a3, a4⟩ := ca
    obtain ⟨b1, b2, b3, b4⟩ := cb
    rw [bothS]
    by_cases e : g.2 < h.2
    · rw [if_pos e]
      obtain ⟨i1, i2⟩ := both_ok n a (h :: b) (g.2 + 2) lb (by simp at hn ⊢; omega) a4 ⟨b1, b2, b3, b4⟩
      constructor
      · intro lo hlo
        by_cases t : max g.1 h.1 ≤ min g.2 h.2
        · rw [if_pos t]
          refine ⟨by simp; omega, t, by simp; omega, ?_⟩
          refine i1 _ (.inl ?_)
          simp; omega
        · rw [if_neg t, List.nil_append]
          refine i1 _ ?_
          omega
      · intro r
        rw [hasB_append, i2 r, hasB_cons, hasB_cons]
        have z : hasB b r = true → g.2 < r := fun hb => by have := (b4.low hb).1; omega
        have z2 : hasB a r = true → g.2 < r := fun hb => by have := (a4.low hb).1; omega
        by_cases t : max g.1 h.1 ≤ min g.2 h.2
        · rw [if_pos t, hasB_cons]
          cases hA : hasB a r <;> cases hB : hasB b r <;> simp only [hA, hB, forall_const] at z z2 <;> (rw [Bool.eq_iff_iff]; simp <;> omega)
        · rw [if_neg t]
          cases hA : hasB a r <;> cases hB : hasB b r <;> simp only [hA, hB, forall_const] at z z2 <;> (rw [Bool.eq_iff_iff]; simp <;> omega)
    · rw [if_neg e]
      obtain ⟨i1, i2⟩ := both_ok n (g :: a) b la (h.2 + 2) (by simp at hn ⊢; omega) ⟨a1, a2, a3, a4⟩ b4
      constructor
      · intro lo hlo
        by_cases t : max g.1 h.1 ≤ min g.2 h.2
        · rw [if_pos t]
          refine ⟨by simp; omega, t, by simp; omega, ?_⟩
          refine i1 _ (.inr ?_)
          simp; omega
        · rw [if_neg t, List.nil_append]
          refine i1 _ ?_
          omega
      · intro r
        rw [hasB_append, i2 r, hasB_cons, hasB_cons]
        have z : hasB b r = true → h.2 < r := fun hb => by have := (b4.low hb).1; omega
        have z2 : hasB a r = true → h.2 < r := fun hb => by have := (a4.low hb).1; omega
        by_cases t : max g.1 h.1 ≤ min g.2 h.2
        · rw [if_pos t, hasB_cons]
          cases hA : hasB a r <;> cases hB : hasB b r <;> simp only [hA, hB, forall_const] at z z2 <;> (rw [Bool.eq_iff_iff]; simp <;> omega)
        · rw [if_neg t]
          cases hA : hasB a r <;> cases hB : hasB b r <;> simp only [hA, hB, forall_const] at z z2 <;> (rw [Bool.eq_iff_iff]; simp <;> omega)
theorem both_can {a b : List Rg} {la lb : Int} (ha : Can la a) (hb : Can lb b) : Can la (bothS a b) := (both_ok _ a b la lb (Nat.le_refl _) ha hb).1 _ (.inl (Int.le_refl _))
theorem both_has {a b : List Rg} {la lb : Int} (ha : Can la a) (hb : Can lb b) (r : Int) : hasB (bothS a b) r = (hasB a r && hasB b r) := (both_ok _ a b la lb (Nat.le_refl _) ha hb).2 r
theorem both_cons (g h : Rg) (a b : List Rg) : bothS (g :: a) (h :: b) = (if max g.1 h.1 ≤ min g.2 h.2 then [(max g.1 h.1, min g.2 h.2)] else []) ++ (if g.2 < h.2 then bothS a (h :: b) else bothS (g :: a) b) := by rw [bothS]
theorem both_nil1 (b : List Rg) : bothS [] b = [] := by rw [bothS]
theorem both_nil2 (a : List Rg) : bothS a [] = [] := by cases a <;> rw [bothS]

def restGo : Int → List Rg → List Rg
  | next, [] => if next ≤ 1114111 then [(next, 1114111)] else []
  | next, g :: l => (if next < g.1 then [(next, g.1 - 1)] else []) ++ restGo (g.2 + 1) l
theorem rest_ok : ∀ (l : List Rg) (next lo : Int), next ≤ lo → Can lo l → Can next (restGo next l) ∧ ∀ r, hasB (restGo next l) r = (decide (next ≤ r) && decide (r ≤ 1114111) && !hasB l r)
  | [], next, lo, h, _ => by
    rw [restGo]
    by_cases t : next ≤ 1114111
    · rw [if_pos t]
      exact ⟨⟨Int.le_refl _, t, Int.le_refl _, trivial⟩, fun r => by rw [hasB_cons]; simp⟩
    · rw [if_neg t]
      refine ⟨trivial, fun r => ?_⟩
      rw [Bool.eq_iff_iff]; simp; omega
  | g :: l, next, lo, h, ⟨a, b, c, d⟩ => by
    obtain ⟨i1, i2⟩ := rest_ok l (g.2 + 1) (g.2 + 2) (by omega) d
    rw [restGo]
    have hz : ∀ r, hasB l r = true → g.2 + 2 ≤ r := fun r hb => (d.low hb).1
    by_cases t : next < g.1
    · rw [if_pos t]
      refine ⟨⟨Int.le_refl _, by simp; omega, by simp; omega, ?_⟩, fun r => ?_⟩
      · exact i1.mono (by simp; omega)
      · rw [hasB_append, i2 r, hasB_cons, hasB_cons]
        have := hz r
        cases hA : hasB l r <;> simp only [hA, forall_const] at this <;> (rw [Bool.eq_iff_iff]; simp <;> omega)
    · rw [if_neg t]
      refine ⟨i1.mono (by omega), fun r => ?_⟩
      rw [hasB_append, i2 r, hasB_cons]
      have := hz r
      cases hA : hasB l r <;> simp only [hA, forall_const] at this <;> (rw [Bool.eq_iff_iff]; simp <;> omega)
theorem restGo_len : ∀ (l : List Rg) (next : Int), (restGo next l).length ≤ l.length + 1
  | [], next => by rw [restGo]; split <;> simp
  | g :: l, next => by
    have := restGo_len l (g.2 + 1)
    rw [restGo, List.length_append]; split <;> simp <;> omega

def countS : List Rg → Int
  | [] => 0
  | g :: l => g.2 - g.1 + 1 + countS l
theorem countS_append : ∀ (l m : List Rg), countS (l ++ m) = countS l + countS m
  | [], m => by simp [countS]
  | g :: l, m => by simp only [List.cons_append, countS, countS_append l m]; omega
/-- How many runes from lo on, n of them, have p. -/
def cnt (p : Int → Bool) : Int → Nat → Int
  | _, 0 => 0
  | lo, n + 1 => (if p lo then 1 else 0) + cnt p (lo + 1) n
theorem cnt_add (p : Int → Bool) : ∀ (m n : Nat) (lo : Int), cnt p lo (m + n) = cnt p lo m + cnt p (lo + m) n
  | 0, n, lo => by simp [cnt]
  | m + 1, n, lo => by
    rw [show m + 1 + n = (m + n) + 1 by omega, cnt, cnt, cnt_add p m n (lo + 1)]
    rw [show lo + 1 + (m : Int) = lo + ((m + 1 : Nat) : Int) by omega]; omega
theorem cnt_all (p : Int → Bool) (b : Bool) : ∀ (n : Nat) (lo : Int), (∀ r, lo ≤ r → r < lo + n → p r = b) → cnt p lo n = if b then (n : Int) else 0
  | 0, lo, _ => by simp [cnt]
  | n + 1, lo, h => by
    rw [cnt, h lo (by omega) (by omega), cnt_all p b n (lo + 1) (fun r h1 h2 => h r (by omega) (by omega))]
    cases b <;> simp <;> omega
theorem cnt_congr {p q : Int → Bool} : ∀ (n : Nat) (lo : Int), (∀ r, lo ≤ r → r < lo + n → p r = q r) → cnt p lo n = cnt q lo n
  | 0, lo, _ => rfl
  | n + 1, lo, h => by rw [cnt, cnt, h lo (by omega) (by omega), cnt_congr n (lo + 1) (fun r h1 h2 => h r (by omega) (by omega))]
theorem cnt_split (p q : Int → Bool) : ∀ (n : Nat) (lo : Int), cnt (fun r => p r && !q r) lo n + cnt (fun r => p r && q r) lo n = cnt p lo n
  | 0, lo => rfl
  | n + 1, lo => by
    have := cnt_split p q n (lo + 1)
    simp only [cnt]
    by_cases hp : p lo = true <;> by_cases hq : q lo = true <;> simp [hp, hq] <;> omega
theorem cnt_can : ∀ (l : List Rg) (lo : Int) (n : Nat), Can lo l → lo + n = 1114112 → cnt (hasB l) lo n = countS l
  | [], lo, n, _, _ => by rw [cnt_all (hasB []) false n lo (fun _ _ _ => rfl)]; simp [countS]
  | g :: l, lo, n, ⟨a, b, c, d⟩, h => by
    obtain ⟨m1, hm1⟩ := Int.eq_ofNat_of_zero_le (show 0 ≤ g.1 - lo by omega)
    obtain ⟨m2, hm2⟩ := Int.eq_ofNat_of_zero_le (show 0 ≤ g.2 - g.1 + 1 by omega)
    obtain ⟨m3, hm3⟩ := Int.eq_ofNat_of_zero_le (show 0 ≤ 1114111 - g.2 by omega)
    have hn : n = m1 + (m2 + m3) := by omega
    subst hn
    rw [cnt_add, cnt_add]
    rw [cnt_all _ false m1 lo (fun r h1 h2 => by rw [hasB_cons, d.out (by omega)]; simp; omega)]
    rw [cnt_all _ true m2 _ (fun r h1 h2 => by rw [hasB_cons]; simp; left; omega)]
    rw [cnt_congr (q := hasB l) m3 _ (fun r h1 h2 => by rw [hasB_cons]; simp; intro h3 h4; omega)]
    rw [show lo + (m1 : Int) + (m2 : Int) = g.2 + 1 by omega, cnt_can l (g.2 + 1) m3 (d.mono (by omega)) (by omega)]
    simp [countS]; omega
theorem countS_eq {l : List Rg} (h : Can 0 l) : countS l = cnt (hasB l) 0 1114112 := (cnt_can l 0 1114112 h (by decide)).symm
theorem countS_bd : ∀ (l : List Rg) (lo : Int), Can lo l → lo ≤ 1114113 → 0 ≤ countS l ∧ countS l ≤ 1114113 - lo
  | [], lo, _, h => by simp [countS]; omega
  | g :: l, lo, ⟨a, b, c, d⟩, h => by
    have := countS_bd l _ d (by omega)
    simp only [countS]; omega

/-! ### The reference -/
theorem take_succ (xs : List Rg) (K : Nat) (h : K < xs.length) : xs.take (K + 1) = xs.take K ++ [xs.getD K (0, 0)] := by
  rw [List.take_succ_eq_append_getElem h]; simp [List.getD, List.getElem?_eq_getElem h]
theorem countS_take (xs : List Rg) (K : Nat) (h : K < xs.length) : countS (xs.take (K + 1)) = countS (xs.take K) + ((xs.getD K (0, 0)).2 - (xs.getD K (0, 0)).1 + 1) := by
  rw [take_succ xs K h, countS_append]; simp [countS]
theorem can_take {xs : List Rg} (h : Can 0 xs) (K : Nat) : Can 0 (xs.take K) := by
  rw [← List.take_append_drop K xs, can_append] at h; exact h.1
def stepN (start out : Int) (g : Rg) : Int :=
  if start ≤ g.2 + 1 ∧ g.2 + 1 < (if start ≤ g.1 ∧ g.1 < out then g.1 else out) then g.2 + 1 else (if start ≤ g.1 ∧ g.1 < out then g.1 else out)
def nextS (l : List Rg) (start : Int) : Int := l.foldl (stepN start) 1114112
theorem stepN_ok (start out : Int) (g : Rg) (h : start ≤ out) : start ≤ stepN start out g ∧ stepN start out g ≤ out ∧ ¬ (start ≤ g.1 ∧ g.1 < stepN start out g) ∧ ¬ (start ≤ g.2 + 1 ∧ g.2 + 1 < stepN start out g) := by
  unfold stepN; (repeat' split) <;> omega
theorem fold_ok (start : Int) : ∀ (l : List Rg) (out : Int), start ≤ out → start ≤ l.foldl (stepN start) out ∧ l.foldl (stepN start) out ≤ out ∧
    ∀ g ∈ l, ¬ (start ≤ g.1 ∧ g.1 < l.foldl (stepN start) out) ∧ ¬ (start ≤ g.2 + 1 ∧ g.2 + 1 < l.foldl (stepN start) out)
  | [], out, h => ⟨h, Int.le_refl _, fun _ h => by simp at h⟩
  | g :: l, out, h => by
    obtain ⟨a, b, c, d⟩ := stepN_ok start out g h
    obtain ⟨e, f, k⟩ := fold_ok start l _ a
    rw [List.foldl_cons]
    refine ⟨e, by omega, fun x hx => ?_⟩
    rcases List.mem_cons.1 hx with rfl | hx
    · omega
    · exact k x hx
theorem nextS_bd (l : List Rg) (start : Int) (h : start ≤ 1114112) : start ≤ nextS l start ∧ nextS l start ≤ 1114112 := ⟨(fold_ok start l _ h).1, (fold_ok start l _ h).2.1⟩
/-- No range begins or ends between at and the next place. -/
theorem same_till (l : List Rg) (at_ e r : Int) (h : at_ + 1 ≤ 1114112) (h1 : at_ ≤ r) (h2 : r < e) (h3 : e ≤ nextS l (at_ + 1)) : hasB l r = hasB l at_ := by
  have k := (fold_ok (at_ + 1) l _ h).2.2
  unfold nextS at h3
  rw [Bool.eq_iff_iff, hasB_iff, hasB_iff]
  constructor <;> rintro ⟨g, hg, h4⟩ <;> (refine ⟨g, hg, ?_⟩; have := k g hg; omega)
/-- Which runes are wanted. -/
def kindB (a b : List Rg) (how : Int) (r : Int) : Bool :=
  if how = 1 then inB a r || inB b r else if how = 2 then inB a r && inB b r else inB a r && !inB b r
theorem kind_till (a b : List Rg) (how at_ e r : Int) (h0 : 0 ≤ at_) (h : at_ + 1 ≤ 1114112) (h1 : at_ ≤ r) (h2 : r < e) (h3 : e ≤ nextS a (at_ + 1)) (h4 : e ≤ nextS b (at_ + 1)) : kindB a b how r = kindB a b how at_ := by
  have e1 := same_till a at_ e r h h1 h2 h3
  have e2 := same_till b at_ e r h h1 h2 h4
  have b3 := (nextS_bd a (at_ + 1) h).2
  unfold kindB inB
  rw [e1, e2]
  have x1 : decide (0 ≤ r) = true := by simp; omega
  have x2 : decide (r ≤ 1114111) = true := by simp; omega
  have x3 : decide (0 ≤ at_) = true := by simp; omega
  have x4 : decide (at_ ≤ 1114111) = true := by simp; omega
  rw [x1, x2, x3, x4]
theorem kind_out (a b : List Rg) (how r : Int) (h : r < 0 ∨ 1114111 < r) : kindB a b how r = false := by
  have e : ∀ l, inB l r = false := fun l => by
    unfold inB
    rcases h with h | h
    · have : decide (0 ≤ r) = false := by simp; omega
      rw [this]; rfl
    · have : decide (r ≤ 1114111) = false := by simp; omega
      rw [this]; simp
  unfold kindB; rw [e, e]; simp
/-- What the reference's Ranges has built ahead of 'at'. -/
structure Upto (K : Int → Bool) (at_ : Int) (out : List Rg) : Prop where
  can : Can 0 out
  nx : nxt 0 out ≤ at_ + 1
  has : ∀ r, hasB out r = (decide (r < at_) && K r)
theorem upto_nil (K : Int → Bool) (h : ∀ r, r < 0 → K r = false) : Upto K 0 [] := ⟨trivial, by decide, fun r => by
  by_cases t : r < 0
  · simp [h r t]
  · simp [t]⟩
theorem upto_skip {K : Int → Bool} {at_ e : Int} {out : List Rg} (h : Upto K at_ out) (hk : K at_ = false) (hc : ∀ r, at_ ≤ r → r < e → K r = K at_) (he : at_ < e) : Upto K e out :=
  ⟨h.can, by have := h.nx; omega, fun r => by
    rw [h.has]
    by_cases t : r < at_
    · simp [t, show r < e by omega]
    · by_cases t2 : r < e
      · simp [t, t2, hc r (by omega) t2, hk]
      · simp [t, t2]⟩
theorem upto_new {K : Int → Bool} {at_ e : Int} {out : List Rg} (h : Upto K at_ out) (hk : K at_ = true) (hc : ∀ r, at_ ≤ r → r < e → K r = K at_) (he : at_ < e) (h0 : 0 ≤ at_) (h1 : e ≤ 1114112)
    (hl : nxt 0 out ≤ at_) : Upto K e (out ++ [(at_, e - 1)]) :=
  ⟨can_snoc.2 ⟨h.can, hl, by simp; omega, by simp; omega⟩, by rw [nxt_snoc]; simp; omega, fun r => by
    rw [hasB_append, h.has, hasB_cons]
    by_cases t : r < at_
    · simp [t, show r < e by omega]; omega
    · by_cases t2 : r < e
      · have := hc r (by omega) t2
        rw [hk] at this
        simp [t, t2, this]; omega
      · simp [t, t2]; omega⟩
theorem upto_far {K : Int → Bool} {at_ : Int} {out : List Rg} {g : Rg} (h : Upto K at_ (out ++ [g])) (hg : g.2 ≠ at_ - 1) : nxt 0 (out ++ [g]) ≤ at_ := by
  have := h.nx; rw [nxt_snoc] at this ⊢; omega
theorem upto_near {K : Int → Bool} {at_ e : Int} {out : List Rg} {g : Rg} (h : Upto K at_ (out ++ [g])) (hk : K at_ = true) (hc : ∀ r, at_ ≤ r → r < e → K r = K at_) (he : at_ < e) (h1 : e ≤ 1114112)
    (hg : g.2 = at_ - 1) : Upto K e (out ++ [(g.1, e - 1)]) := by
  obtain ⟨c1, c2, c3, c4⟩ := can_snoc.1 h.can
  refine ⟨can_snoc.2 ⟨c1, c2, by simp; omega, by simp; omega⟩, by rw [nxt_snoc]; simp; omega, fun r => ?_⟩
  have := h.has r
  rw [hasB_append, hasB_cons] at this
  rw [hasB_append, hasB_cons]
  by_cases t : r < at_
  · have t2 : r < e := by omega
    simp [t, t2] at this ⊢
    rw [← this]
    have z : decide (r ≤ e - 1) = decide (r ≤ g.2) := by rw [decide_eq_decide]; omega
    rw [z]
  · by_cases t2 : r < e
    · have h3 := hc r (by omega) t2
      rw [hk] at h3
      simp [t2, h3]; right; omega
    · simp [t] at this
      simp [t2]
      exact ⟨this.1, by intro; omega⟩
theorem upto_end {K : Int → Bool} {at_ : Int} {out : List Rg} (h : Upto K at_ out) (ha : 1114111 < at_) (hK : ∀ r, 1114111 < r → K r = false) : Can 0 out ∧ ∀ r, hasB out r = K r :=
  ⟨h.can, fun r => by
    rw [h.has]
    by_cases t : r < at_
    · simp [t]
    · simp [t, hK r (by omega)]⟩
end Go.Proofs.YtmchgimbfdeaiaaGreat.Ran
