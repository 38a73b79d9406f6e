import Derived.Test.YtncijmodlhijoaaGreatQ1
import Derived.Lib.Bytealg
import Derived.Lib.Small
set_option linter.unusedVariables false
set_option maxRecDepth 100000
set_option maxHeartbeats 4000000
namespace Go.Proofs.YtncijmodlhijoaaGreat.Nam
open Go.Lib Utf
theorem cmpB : ∀ (a b : List UInt8), (compareBytes a b < 0 ↔ Go.Op.bytesLess a b = true) ∧ (compareBytes a b = 0 ↔ a = b) ∧ -1 ≤ compareBytes a b ∧ compareBytes a b ≤ 1
  | [], [] => by simp [compareBytes, Go.Op.bytesLess]
  | [], b :: y => by simp [compareBytes, Go.Op.bytesLess]
  | a :: x, [] => by simp [compareBytes, Go.Op.bytesLess]
  | a :: x, b :: y => by
    have ih := cmpB x y
    rw [less_cons, compareBytes]
    simp only [UInt8.lt_iff_toNat_lt]
    by_cases h1 : a.toNat < b.toNat
    · rw [if_pos h1]
      refine ⟨⟨fun _ => .inl h1, fun _ => by omega⟩, ⟨fun h => by omega, fun h => ?_⟩, by omega, by omega⟩
      simp at h; rw [h.1] at h1; omega
    · rw [if_neg h1]
      by_cases h2 : b.toNat < a.toNat
      · rw [if_pos h2]
        refine ⟨⟨fun h => by omega, fun h => ?_⟩, ⟨fun h => by omega, fun h => ?_⟩, by omega, by omega⟩
        · rcases h with h | ⟨h, -⟩
          · omega
          · rw [h] at h2; omega
        · simp at h; rw [h.1] at h2; omega
      · rw [if_neg h2]
        have e : a = b := UInt8.toNat_inj.1 (by omega)
        subst e
        refine ⟨?_, ?_, ih.2.2⟩
        · rw [ih.1]
          exact ⟨fun h => .inr ⟨rfl, h⟩, fun h => h.elim (fun h => by omega) (fun h => h.2)⟩
        · rw [ih.2.1]; simp
def cmpS (a b : ByteArray) : Int := compareBytes a.data.toList b.data.toList
theorem cmpS_lt (a b : ByteArray) : cmpS a b < 0 ↔ lt a b = true := by
  unfold cmpS lt
  rw [(cmpB _ _).1, ba_toList, ba_toList]
theorem cmpS_eq (a b : ByteArray) : cmpS a b = 0 ↔ a = b := by
  unfold cmpS
  rw [(cmpB _ _).2.1]
  exact ⟨fun h => ByteArray.ext (Array.ext' h), fun h => by rw [h]⟩
def at_ (xs : List ByteArray) (i : Nat) : ByteArray := xs.getD i ByteArray.empty
theorem at_some {xs : List ByteArray} {i : Nat} (h : i < xs.length) : xs[i]? = some (at_ xs i) := by unfold at_; simp [List.getD, List.getElem?_eq_getElem h]
theorem at_get {xs : List ByteArray} {i : Nat} (h : i < xs.length) : at_ xs i = xs[i] := by unfold at_; simp [List.getD, List.getElem?_eq_getElem h]
theorem at_mem {ds : List ByteArray} {k : Nat} (h : k < ds.length) : at_ ds k ∈ ds := List.mem_of_getElem? (at_some h)
def bef (xs : List ByteArray) (i j : Nat) : Prop := lt (at_ xs i) (at_ xs j) = true ∨ (at_ xs i = at_ xs j ∧ i < j)
def cmpI (xs : List ByteArray) (i j : Nat) : Int := if cmpS (at_ xs i) (at_ xs j) = 0 then compareInt i j else cmpS (at_ xs i) (at_ xs j)
theorem cmpI_lt (xs : List ByteArray) (i j : Nat) : cmpI xs i j < 0 ↔ bef xs i j := by
  unfold cmpI bef
  by_cases h : cmpS (at_ xs i) (at_ xs j) = 0
  · rw [if_pos h]
    have h2 := (cmpS_eq _ _).1 h
    rw [h2, lt_irr]
    unfold compareInt
    constructor
    · intro q
      by_cases h3 : (i : Int) < j
      · exact .inr ⟨rfl, by omega⟩
      · rw [if_neg h3] at q; split at q <;> omega
    · rintro (q | ⟨-, q⟩)
      · cases q
      · rw [if_pos (by omega)]; omega
  · rw [if_neg h, cmpS_lt]
    exact ⟨.inl, fun q => q.elim id fun q => absurd ((cmpS_eq _ _).2 q.1) h⟩
theorem bef_irr (xs : List ByteArray) (i : Nat) : ¬ bef xs i i := by
  rintro (h | h)
  · rw [lt_irr] at h; cases h
  · omega
theorem bef_trans {xs : List ByteArray} {i j k : Nat} (h : bef xs i j) (g : bef xs j k) : bef xs i k := by
  rcases h with h | ⟨h1, h2⟩ <;> rcases g with g | ⟨g1, g2⟩
  · exact .inl (lt_trans h g)
  · exact .inl (g1 ▸ h)
  · exact .inl (h1 ▸ g)
  · exact .inr ⟨h1.trans g1, by omega⟩
theorem bef_tri {xs : List ByteArray} {i j : Nat} (h : ¬ bef xs i j) (g : ¬ bef xs j i) : i = j := by
  have h1 : lt (at_ xs i) (at_ xs j) = false := by
    cases e : lt (at_ xs i) (at_ xs j)
    · rfl
    · exact absurd (.inl e) h
  have h2 : lt (at_ xs j) (at_ xs i) = false := by
    cases e : lt (at_ xs j) (at_ xs i)
    · rfl
    · exact absurd (.inl e) g
  have e := lt_tri h1 h2
  rcases Nat.lt_trichotomy i j with q | q | q
  · exact absurd (.inr ⟨e, q⟩) h
  · exact q
  · exact absurd (.inr ⟨e.symm, q⟩) g
def Ixs (xs : List ByteArray) (ix : List Nat) : Prop := ix.Perm (List.range xs.length) ∧ ix.Pairwise (bef xs)
theorem Ixs.len {xs : List ByteArray} {ix : List Nat} (h : Ixs xs ix) : ix.length = xs.length := by rw [h.1.length_eq, List.length_range]
theorem Ixs.lt {xs : List ByteArray} {ix : List Nat} (h : Ixs xs ix) {k : Nat} (hk : k < ix.length) : ix.getD k 0 < xs.length := by
  have : ix.getD k 0 ∈ List.range xs.length := h.1.mem_iff.1 (by simp [List.getD, List.getElem?_eq_getElem hk])
  simpa using this
theorem Ixs.bef {xs : List ByteArray} {ix : List Nat} (h : Ixs xs ix) {a b : Nat} (hab : a < b) (hb : b < ix.length) : bef xs (ix.getD a 0) (ix.getD b 0) := by
  have := List.pairwise_iff_getElem.1 h.2 a b (by omega) hb hab
  simpa [List.getD, List.getElem?_eq_getElem hb, List.getElem?_eq_getElem (show a < ix.length by omega)] using this
theorem Ixs.pos {xs : List ByteArray} {ix : List Nat} (h : Ixs xs ix) {i : Nat} (hi : i < xs.length) : ∃ k, k < ix.length ∧ ix.getD k 0 = i := by
  obtain ⟨k, hk, e⟩ := List.getElem_of_mem (h.1.mem_iff.2 (List.mem_range.2 hi))
  exact ⟨k, hk, by simp [List.getD, List.getElem?_eq_getElem hk, e]⟩
def dup (xs : List ByteArray) (i : Nat) : Prop := at_ xs i ∈ xs.take i
theorem dup_iff {xs : List ByteArray} {i : Nat} (hi : i ≤ xs.length) : dup xs i ↔ ∃ j, j < i ∧ at_ xs j = at_ xs i := by
  unfold dup
  rw [List.mem_take_iff_getElem]
  constructor
  · rintro ⟨j, hj, e⟩
    exact ⟨j, by omega, by rw [← e]; unfold at_; simp [List.getD, List.getElem?_eq_getElem (show j < xs.length by omega)]⟩
  · rintro ⟨j, hj, e⟩
    exact ⟨j, by omega, by rw [← e]; unfold at_; simp [List.getD, List.getElem?_eq_getElem (show j < xs.length by omega)]⟩
theorem Ixs.dup {xs : List ByteArray} {ix : List Nat} (h : Ixs xs ix) {k : Nat} (hk : k < ix.length) : dup xs (ix.getD k 0) ↔ 0 < k ∧ at_ xs (ix.getD (k - 1) 0) = at_ xs (ix.getD k 0) := by
  rw [dup_iff (Nat.le_of_lt (h.lt hk))]
  constructor
  · rintro ⟨j, hj, e⟩
    obtain ⟨m, hm, rfl⟩ := h.pos (Nat.lt_trans hj (h.lt hk))
    have hb : Nam.bef xs (ix.getD m 0) (ix.getD k 0) := .inr ⟨e, hj⟩
    have hmk : m < k := by
      rcases Nat.lt_trichotomy m k with q | q | q
      · exact q
      · subst q; exact absurd hb (bef_irr _ _)
      · exact absurd (bef_trans hb (h.bef q hm)) (bef_irr _ _)
    refine ⟨by omega, ?_⟩
    rcases Nat.eq_or_lt_of_le (show m ≤ k - 1 by omega) with q | q
    · rw [← q, e]
    · have b1 := h.bef q (show k - 1 < ix.length by omega)
      have b2 := h.bef (show k - 1 < k by omega) hk
      rcases b2 with b2 | b2
      · rcases b1 with b1 | b1
        · have := lt_trans b1 b2
          rw [e, lt_irr] at this; cases this
        · rw [← b1.1, e, lt_irr] at b2; cases b2
      · exact b2.1
  · rintro ⟨h0, e⟩
    refine ⟨_, ?_, e⟩
    rcases h.bef (show k - 1 < k by omega) hk with q | q
    · rw [e, lt_irr] at q; cases q
    · exact q.2
def Least (xs : List ByteArray) (ix : List Nat) (k m : Nat) : Prop := (∀ j, j < k → Nam.dup xs (ix.getD j 0) → m ≤ ix.getD j 0) ∧ (m = xs.length ∨ (m < xs.length ∧ Nam.dup xs m))
theorem Least.start (xs : List ByteArray) (ix : List Nat) : Least xs ix 0 xs.length := ⟨fun j h => by omega, .inl rfl⟩
theorem Least.skip {xs : List ByteArray} {ix : List Nat} {k m : Nat} (h : Least xs ix k m) (hd : ¬ Nam.dup xs (ix.getD k 0)) : Least xs ix (k + 1) m := by
  refine ⟨fun j hj q => ?_, h.2⟩
  rcases Nat.eq_or_lt_of_le (Nat.le_of_lt_succ hj) with e | hj
  · subst e; exact absurd q hd
  · exact h.1 j hj q
theorem Least.take {xs : List ByteArray} {ix : List Nat} {k m : Nat} (h : Least xs ix k m) (hi : ix.getD k 0 < xs.length) (hd : Nam.dup xs (ix.getD k 0)) : Least xs ix (k + 1) (min m (ix.getD k 0)) := by
  refine ⟨fun j hj q => ?_, ?_⟩
  · rcases Nat.eq_or_lt_of_le (Nat.le_of_lt_succ hj) with e | hj
    · subst e; exact Nat.min_le_right _ _
    · exact Nat.le_trans (Nat.min_le_left _ _) (h.1 j hj q)
  · rcases Nat.le_total m (ix.getD k 0) with q | q
    · rw [Nat.min_eq_left q]; exact h.2
    · rw [Nat.min_eq_right q]; exact .inr ⟨hi, hd⟩
theorem Least.fin {xs : List ByteArray} {ix : List Nat} {m : Nat} (hx : Ixs xs ix) (h : Least xs ix ix.length m) : m ≤ xs.length ∧ twiS xs = if m = xs.length then -1 else (m : Int) := by
  have hall : ∀ i, i < xs.length → Nam.dup xs i → m ≤ i := fun i hi hd => by
    obtain ⟨k, hk, rfl⟩ := hx.pos hi
    exact h.1 k hk hd
  rcases h.2 with e | ⟨hl, hd⟩
  · subst e
    refine ⟨Nat.le_refl _, ?_⟩
    rw [if_pos rfl]
    exact twi_none fun j hj hm => by have := hall j hj hm; omega
  · refine ⟨Nat.le_of_lt hl, ?_⟩
    rw [if_neg (by omega)]
    exact twi_is hl hd fun j hj hm => by have := hall j (by omega) hm; omega
structure Dist (xs : List ByteArray) (ix : List Nat) (k : Nat) (ds : List ByteArray) : Prop where
  inc : Inc ds
  mem : ∀ x, x ∈ ds ↔ ∃ j, j < k ∧ at_ xs (ix.getD j 0) = x
  last : (k = 0 ∧ ds = []) ∨ (0 < k ∧ ∃ c, ds = c ++ [at_ xs (ix.getD (k - 1) 0)])
  len : ds.length ≤ k
theorem Dist.start (xs : List ByteArray) (ix : List Nat) : Dist xs ix 0 [] := ⟨List.Pairwise.nil, fun x => by simp, .inl ⟨rfl, rfl⟩, Nat.le_refl _⟩
theorem Dist.skip {xs : List ByteArray} {ix : List Nat} {k : Nat} {ds : List ByteArray} (h : Dist xs ix k ds) (h0 : 0 < k) (e : at_ xs (ix.getD (k - 1) 0) = at_ xs (ix.getD k 0)) : Dist xs ix (k + 1) ds := by
  refine ⟨h.inc, fun x => ?_, .inr ⟨by omega, ?_⟩, by have := h.len; omega⟩
  · rw [h.mem]
    constructor
    · rintro ⟨j, hj, q⟩; exact ⟨j, by omega, q⟩
    · rintro ⟨j, hj, q⟩
      rcases Nat.eq_or_lt_of_le (Nat.le_of_lt_succ hj) with e2 | hj
      · subst e2; exact ⟨j - 1, by omega, e.trans q⟩
      · exact ⟨j, hj, q⟩
  · rcases h.last with q | ⟨-, c, q⟩
    · omega
    · exact ⟨c, by rw [q, e, Nat.add_sub_cancel]⟩
theorem Dist.put {xs : List ByteArray} {ix : List Nat} {k : Nat} {ds : List ByteArray} (hx : Ixs xs ix) (hk : k < ix.length) (h : Dist xs ix k ds) (e : ¬ (0 < k ∧ at_ xs (ix.getD (k - 1) 0) = at_ xs (ix.getD k 0))) :
    Dist xs ix (k + 1) (ds ++ [at_ xs (ix.getD k 0)]) ∧ findS xs (at_ xs (ix.getD k 0)) = (ix.getD k 0 : Nat) := by
  have hlt : ∀ x ∈ ds, lt x (at_ xs (ix.getD k 0)) = true := by
    intro x hm
    obtain ⟨j, hj, rfl⟩ := (h.mem x).1 hm
    rcases hx.bef (show k - 1 < k by omega) hk with q | q
    · rcases Nat.eq_or_lt_of_le (show j ≤ k - 1 by omega) with e2 | hj2
      · rw [e2]; exact q
      · rcases hx.bef hj2 (show k - 1 < ix.length by omega) with r | r
        · exact lt_trans r q
        · rw [r.1]; exact q
    · exact absurd ⟨by omega, q.1⟩ e
  refine ⟨⟨?_, fun x => ?_, .inr ⟨by omega, ds, by rw [Nat.add_sub_cancel]⟩, by have := h.len; simp; omega⟩, ?_⟩
  · refine List.pairwise_append.2 ⟨h.inc, List.pairwise_singleton _ _, fun a ha b hb => ?_⟩
    rw [List.mem_singleton.1 hb]
    exact hlt a ha
  · rw [List.mem_append, h.mem, List.mem_singleton]
    constructor
    · rintro (⟨j, hj, q⟩ | q)
      · exact ⟨j, by omega, q⟩
      · exact ⟨k, by omega, q.symm⟩
    · rintro ⟨j, hj, q⟩
      rcases Nat.eq_or_lt_of_le (Nat.le_of_lt_succ hj) with e2 | hj
      · subst e2; exact .inr q.symm
      · exact .inl ⟨j, hj, q⟩
  · have hn : ¬ Nam.dup xs (ix.getD k 0) := fun q => e ((hx.dup hk).1 q)
    have hl := hx.lt hk
    refine find_is (at_some hl) fun j hj q => hn ((dup_iff (Nat.le_of_lt hl)).2 ⟨j, hj, ?_⟩)
    unfold at_ at q ⊢
    rw [List.getD, q]; rfl
theorem Dist.fin {xs : List ByteArray} {ix : List Nat} {ds : List ByteArray} (hx : Ixs xs ix) (h : Dist xs ix ix.length ds) : ds = sortS xs := by
  refine sort_is h.inc fun x => ?_
  rw [h.mem]
  constructor
  · rintro ⟨j, hj, rfl⟩
    exact at_mem (hx.lt hj)
  · intro hm
    obtain ⟨i, hi, e⟩ := List.getElem_of_mem hm
    obtain ⟨k, hk, rfl⟩ := hx.pos hi
    exact ⟨k, hk, (at_get hi).trans e⟩
theorem inc_split {ds : List ByteArray} (h : Inc ds) (x : ByteArray) : ∃ k, k ≤ ds.length ∧ (∀ t, t < k → lt (at_ ds t) x = true) ∧ (∀ t, k ≤ t → t < ds.length → lt (at_ ds t) x = false) := by
  induction ds with
  | nil => exact ⟨0, Nat.le_refl _, fun t h => by omega, fun t h g => by simp at g⟩
  | cons d ds ih =>
    have h' := List.pairwise_cons.1 h
    cases e : lt d x
    · refine ⟨0, Nat.zero_le _, fun t h => by omega, fun t _ ht => ?_⟩
      cases t with
      | zero => exact e
      | succ t =>
        have hm : at_ (d :: ds) (t + 1) ∈ ds := by unfold at_; simp at ht ⊢; simp [List.getElem?_eq_getElem ht]
        cases e2 : lt (at_ (d :: ds) (t + 1)) x
        · rfl
        · rw [lt_trans (h'.1 _ hm) e2] at e; cases e
    · obtain ⟨k, h1, h2, h3⟩ := ih h'.2
      refine ⟨k + 1, by simp; omega, fun t ht => ?_, fun t h4 h5 => ?_⟩
      · cases t with
        | zero => exact e
        | succ t => exact h2 t (by omega)
      · cases t with
        | zero => omega
        | succ t => exact h3 t (by omega) (by simpa using h5)
theorem split_mem {ds : List ByteArray} {x : ByteArray} {k : Nat} (h2 : ∀ t, t < k → lt (at_ ds t) x = true) (h3 : ∀ t, k ≤ t → t < ds.length → lt (at_ ds t) x = false) (hi : Inc ds) : x ∈ ds ↔ k < ds.length ∧ at_ ds k = x := by
  constructor
  · intro hm
    obtain ⟨t, ht, e⟩ := List.getElem_of_mem hm
    have e' : at_ ds t = x := by unfold at_; simp [List.getD, List.getElem?_eq_getElem ht, e]
    have hk : k ≤ t := by
      refine Nat.le_of_not_lt fun q => ?_
      have := h2 t q
      rw [e', lt_irr] at this; cases this
    rcases Nat.eq_or_lt_of_le hk with q | q
    · subst q; exact ⟨ht, e'⟩
    · have h4 := h3 k (Nat.le_refl _) (by omega)
      have h5 := List.pairwise_iff_getElem.1 hi k t (by omega) ht q
      have e6 : at_ ds k = ds[k] := by unfold at_; simp [List.getD, List.getElem?_eq_getElem (show k < ds.length by omega)]
      rw [e, ← e6, h4] at h5; cases h5
  · rintro ⟨h, rfl⟩; exact at_mem h
theorem Ixs.of_sorted {xs : List ByteArray} {ix : List Nat} (hp : ix.Perm (List.range xs.length)) (hs : ∀ i j, i < j → j < ix.length → ¬ Nam.bef xs (ix.getD j 0) (ix.getD i 0)) : Ixs xs ix := by
  refine ⟨hp, List.pairwise_iff_getElem.2 fun i j hi hj hij => ?_⟩
  have h := hs i j hij hj
  simp only [List.getD, List.getElem?_eq_getElem hi, List.getElem?_eq_getElem hj, Option.getD_some] at h
  refine Classical.byContradiction fun g => ?_
  have e := bef_tri g h
  have hn : ix.Nodup := hp.nodup_iff.2 List.nodup_range
  exact absurd e (List.pairwise_iff_getElem.1 hn i j hi hj hij)
end Go.Proofs.YtncijmodlhijoaaGreat.Nam
