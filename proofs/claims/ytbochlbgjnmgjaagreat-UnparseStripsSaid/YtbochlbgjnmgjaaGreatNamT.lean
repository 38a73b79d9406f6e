/- The plain mathematics of the order of indices: the comparison, what a sorted row of indices says of the list: the first that stands twice, the distinct strings and their least places. No Go here. -/
import Derived.Test.YtbochlbgjnmgjaaGreatNamS
import Derived.Lib.Bytealg
import Derived.Lib.Small
set_option maxRecDepth 100000
set_option linter.unusedVariables false
namespace Go.Proofs.YtbochlbgjnmgjaaGreat.Nam
open Go.Lib Go.Proofs.YtbochlbgjnmgjaaGreat.Utf

theorem cmpB : ∀ (a b : List UInt8), (compareBytes a b < 0 ↔ Go.Op.bytesLess a b = true) ∧ (compareBytes a b = 0 ↔ a = b) ∧ -1 ≤ compareBytes a b ∧ compareBytes a b ≤ 1
  | [], [] => by simp [compareBytes, Go.Op.bytesLess]
  | [], b :: y => by simp [compareBytes, Go.Op.bytesLess]
  | a :: x, [] => by simp [compareBytes, Go.Op.bytesLess]
  | a :: x, b :: y => by
    have ih := cmpB x y
    rw [less_cons, compareBytes]
    simp only [UInt8.lt_iff_toNat_lt]
    by_cases h1 : a.toNat < b.toNat
    · rw [if_pos h1]
      refine ⟨⟨fun _ => .inl h1, fun _ => by omega⟩, ⟨fun h => by omega, fun h => ?_⟩, by omega, by omega⟩
      simp at h; rw [h.1] at h1; omega
    · rw [if_neg h1]
      by_cases h2 : b.toNat < a.toNat
      · rw [if_pos h2]
        refine ⟨⟨fun h => by omega, fun h => ?_⟩, ⟨fun h => by omega, fun h => ?_⟩, by omega, by omega⟩
        · rcases h with h | ⟨h, -⟩
          · omega
          · rw [h] at h2; omega
        · simp at h; rw [h.1] at h2; omega
      · rw [if_neg h2]
        have e : a = b := UInt8.toNat_inj.1 (by omega)
        subst e
        refine ⟨?_, ?_, ih.2.2⟩
        · rw [ih.1]
          exact ⟨fun h => .inr ⟨rfl, h⟩, fun h => h.elim (fun h => by omega) (fun h => h.2)⟩
        · rw [ih.2.1]; simp
/-- strings.Compare. -/
def cmpS (a b : ByteArray) : Int := compareBytes a.data.toList b.data.toList
theorem cmpS_lt (a b : ByteArray) : cmpS a b < 0 ↔ lt a b = true := by
  unfold cmpS lt
  rw [(cmpB _ _).1, ba_toList, ba_toList]
theorem cmpS_eq (a b : ByteArray) : cmpS a b = 0 ↔ a = b := by
  unfold cmpS
  rw [(cmpB _ _).2.1]
  exact ⟨fun h => ByteArray.ext (Array.ext' h), fun h => by rw [h]⟩
/-- Element i of a list of strings. -/
def at_ (xs : List ByteArray) (i : Nat) : ByteArray := xs.getD i ByteArray.empty
/-- The order of indices: by their strings, those of equal strings by themselves. -/
def bef (xs : List ByteArray) (i j : Nat) : Prop := lt (at_ xs i) (at_ xs j) = true ∨ (at_ xs i = at_ xs j ∧ i < j)
/-- The comparison of two indices. -/
def cmpI (xs : List ByteArray) (i j : Nat) : Int := if cmpS (at_ xs i) (at_ xs j) = 0 then compareInt i j else cmpS (at_ xs i) (at_ xs j)
theorem cmpI_lt (xs : List ByteArray) (i j : Nat) : cmpI xs i j < 0 ↔ bef xs i j := by
  unfold cmpI bef
  by_cases h : cmpS (at_ xs i) (at_ xs j) = 0
  · rw [if_pos h]
    have h2 := (cmpS_eq _ _).1 h
    rw [h2, lt_irr]
    unfold compareInt
    constructor
    · intro q
      by_cases h3 : (i : Int) < j
      · exact .inr ⟨rfl, by omega⟩
      · rw [if_neg h3] at q; split at q <;> omega
    · rintro (q | ⟨-, q⟩)
      · cases q
      · rw [if_pos (by omega)]; omega
  · rw [if_neg h, cmpS_lt]
    exact ⟨.inl, fun q => q.elim id fun q => absurd ((cmpS_eq _ _).2 q.1) h⟩
theorem bef_irr (xs : List ByteArray) (i : Nat) : ¬ bef xs i i := by
  rintro (h | h)
  · rw [lt_irr] at h; cases h
  · omega
theorem bef_trans {xs : List ByteArray} {i j k : Nat} (h : bef xs i j) (g : bef xs j k) : bef xs i k := by
  rcases h with h | ⟨h1, h2⟩ <;> rcases g with g | ⟨g1, g2⟩
  · exact .inl (lt_trans h g)
  · exact .inl (g1 ▸ h)
  · exact .inl (h1 ▸ g)
  · exact .inr ⟨h1.trans g1, by omega⟩
theorem bef_tri {xs : List ByteArray} {i j : Nat} (h : ¬ bef xs i j) (g : ¬ bef xs j i) : i = j := by
  have h1 : lt (at_ xs i) (at_ xs j) = false := by
    cases e : lt (at_ xs i) (at_ xs j)
    · rfl
    · exact absurd (.inl e) h
  have h2 : lt (at_ xs j) (at_ xs i) = false := by
    cases e : lt (at_ xs j) (at_ xs i)
    · rfl
    · exact absurd (.inl e) g
  have e := lt_tri h1 h2
  rcases Nat.lt_trichotomy i j with q | q | q
  · exact absurd (.inr ⟨e, q⟩) h
  · exact q
  · exact absurd (.inr ⟨e.symm, q⟩) g

/-- The indices of a list in their order. -/
def Ixs (xs : List ByteArray) (ix : List Nat) : Prop := ix.Perm (List.range xs.length) ∧ ix.Pairwise (bef xs)
theorem Ixs.len {xs : List ByteArray} {ix : List Nat} (h : Ixs xs ix) : ix.length = xs.length := by rw [h.1.length_eq, List.length_range]
theorem Ixs.lt {xs : List ByteArray} {ix : List Nat} (h : Ixs xs ix) {k : Nat} (hk : k < ix.length) : ix.getD k 0 < xs.length := by
  have : ix.getD k 0 ∈ List.range xs.length := h.1.mem_iff.1 (by simp [List.getD, List.getElem?_eq_getElem hk])
  simpa using this
theorem Ixs.bef {xs : List ByteArray} {ix : List Nat} (h : Ixs xs ix) {a b : Nat} (hab : a < b) (hb : b < ix.length) : bef xs (ix.getD a 0) (ix.getD b 0) := by
  have := List.pairwise_iff_getElem.1 h.2 a b (by omega) hb hab
  simpa [List.getD, List.getElem?_eq_getElem hb, List.getElem?_eq_getElem (show a < ix.length by omega)] using this
theorem Ixs.pos {xs : List ByteArray} {ix : List Nat} (h : Ixs xs ix) {i : Nat} (hi : i < xs.length) : ∃ k, k < ix.length ∧ ix.getD k 0 = i := by
  obtain ⟨k, hk, e⟩ := List.getElem_of_mem (h.1.mem_iff.2 (List.mem_range.2 hi))
  exact ⟨k, hk, by simp [List.getD, List.getElem?_eq_getElem hk, e]⟩
/-- An element stands ahead of it too. -/
def dup (xs : List ByteArray) (i : Nat) : Prop := at_ xs i ∈ xs.take i
theorem dup_iff {xs : List ByteArray} {i : Nat} (hi : i ≤ xs.length) : dup xs i ↔ ∃ j, j < i ∧ at_ xs j = at_ xs i := by
  unfold dup
  rw [List.mem_take_iff_getElem]
  constructor
  · rintro ⟨j, hj, e⟩
    exact ⟨j, by omega, by rw [← e]; unfold at_; simp [List.getD, List.getElem?_eq_getElem (show j < xs.length by omega)]⟩
  · rintro ⟨j, hj, e⟩
    exact ⟨j, by omega, by rw [← e]; unfold at_; simp [List.getD, List.getElem?_eq_getElem (show j < xs.length by omega)]⟩
/-- Where the string of the place before is the same, and only there, an element stands ahead of it too. -/
theorem Ixs.dup {xs : List ByteArray} {ix : List Nat} (h : Ixs xs ix) {k : Nat} (hk : k < ix.length) : dup xs (ix.getD k 0) ↔ 0 < k ∧ at_ xs (ix.getD (k - 1) 0) = at_ xs (ix.getD k 0) := by
  rw [dup_iff (Nat.le_of_lt (h.lt hk))]
  constructor
  · rintro ⟨j, hj, e⟩
    obtain ⟨m, hm, rfl⟩ := h.pos (Nat.lt_trans hj (h.lt hk))
    have hb : Nam.bef xs (ix.getD m 0) (ix.getD k 0) := .inr ⟨e, hj⟩
    have hmk : m < k := by
      rcases Nat.lt_trichotomy m k with q | q | q
      · exact q
      · subst q; exact absurd hb (bef_irr _ _)
      · exact absurd (bef_trans hb (h.bef q hm)) (bef_irr _ _)
    refine ⟨by omega, ?_⟩
    rcases Nat.eq_or_lt_of_le (show m ≤ k - 1 by omega) with q | q
    · rw [← q, e]
    · have b1 := h.bef q (show k - 1 < ix.length by omega)
      have b2 := h.bef (show k - 1 < k by omega) hk
      rcases b2 with b2 | b2
      · rcases b1 with b1 | b1
        · have := lt_trans b1 b2
          rw [e, lt_irr] at this; cases this
        · rw [← b1.1, e, lt_irr] at b2; cases b2
      · exact b2.1
  · rintro ⟨h0, e⟩
    refine ⟨_, ?_, e⟩
    rcases h.bef (show k - 1 < k by omega) hk with q | q
    · rw [e, lt_irr] at q; cases q
    · exact q.2
/-- The least of the elements that stand ahead too, among the first k places. -/
def Least (xs : List ByteArray) (ix : List Nat) (k m : Nat) : Prop := (∀ j, j < k → Nam.dup xs (ix.getD j 0) → m ≤ ix.getD j 0) ∧ (m = xs.length ∨ (m < xs.length ∧ Nam.dup xs m))
theorem Least.start (xs : List ByteArray) (ix : List Nat) : Least xs ix 0 xs.length := ⟨fun j h => by omega, .inl rfl⟩
theorem Least.skip {xs : List ByteArray} {ix : List Nat} {k m : Nat} (h : Least xs ix k m) (hd : ¬ Nam.dup xs (ix.getD k 0)) : Least xs ix (k + 1) m := by
  refine ⟨fun j hj q => ?_, h.2⟩
  rcases Nat.eq_or_lt_of_le (Nat.le_of_lt_succ hj) with e | hj
  · subst e; exact absurd q hd
  · exact h.1 j hj q
theorem Least.take {xs : List ByteArray} {ix : List Nat} {k m : Nat} (h : Least xs ix k m) (hi : ix.getD k 0 < xs.length) (hd : Nam.dup xs (ix.getD k 0)) : Least xs ix (k + 1) (min m (ix.getD k 0)) := by
  refine ⟨fun j hj q => ?_, ?_⟩
  · rcases Nat.eq_or_lt_of_le (Nat.le_of_lt_succ hj) with e | hj
    · subst e; exact Nat.min_le_right _ _
    · exact Nat.le_trans (Nat.min_le_left _ _) (h.1 j hj q)
  · rcases Nat.le_total m (ix.getD k 0) with q | q
    · rw [Nat.min_eq_left q]; exact h.2
    · rw [Nat.min_eq_right q]; exact .inr ⟨hi, hd⟩
theorem Least.fin {xs : List ByteArray} {ix : List Nat} {m : Nat} (hx : Ixs xs ix) (h : Least xs ix ix.length m) : m ≤ xs.length ∧ twiS xs = if m = xs.length then -1 else (m : Int) := by
  have hall : ∀ i, i < xs.length → Nam.dup xs i → m ≤ i := fun i hi hd => by
    obtain ⟨k, hk, rfl⟩ := hx.pos hi
    exact h.1 k hk hd
  rcases h.2 with e | ⟨hl, hd⟩
  · subst e
    refine ⟨Nat.le_refl _, ?_⟩
    rw [if_pos rfl]
    exact twi_none fun j hj hm => by have := hall j hj hm; omega
  · refine ⟨Nat.le_of_lt hl, ?_⟩
    rw [if_neg (by omega)]
    exact twi_is hl hd fun j hj hm => by have := hall j (by omega) hm; omega

/-- The distinct strings of the first k places, and the least places of each. -/
structure Dist (xs : List ByteArray) (ix : List Nat) (k : Nat) (ds : List ByteArray) : Prop where
  inc : Inc ds
  mem : ∀ x, x ∈ ds ↔ ∃ j, j < k ∧ at_ xs (ix.getD j 0) = x
  last : (k = 0 ∧ ds = []) ∨ (0 < k ∧ ∃ c, ds = c ++ [at_ xs (ix.getD (k - 1) 0)])
  len : ds.length ≤ k
theorem Ixs.of_sorted {xs : List ByteArray} {ix : List Nat} (hp : ix.Perm (List.range xs.length)) (hs : ∀ i j, i < j → j < ix.length → ¬ Nam.bef xs (ix.getD j 0) (ix.getD i 0)) : Ixs xs ix := by
  refine ⟨hp, List.pairwise_iff_getElem.2 fun i j hi hj hij => ?_⟩
  have h := hs i j hij hj
  simp only [List.getD, List.getElem?_eq_getElem hi, List.getElem?_eq_getElem hj, Option.getD_some] at h
  refine Classical.byContradiction fun g => ?_
  have e := bef_tri g h
  have hn : ix.Nodup := hp.nodup_iff.2 List.nodup_range
  exact absurd e (List.pairwise_iff_getElem.1 hn i j hi hj hij)
end Go.Proofs.YtbochlbgjnmgjaaGreat.Nam
