/- Contracts of utf.Runes and of the reference's Walk and Same. -/
import Derived.Test.YtikcblnemdbjnaaUtfD
import Derived.Test.YtikcblnemdbjnaaUtfM
import Derived.Test.YtikcblnemdbjnaaOwn
set_option linter.unusedVariables false
namespace Go.Proofs.Ytikcblnemdbjnaa.Utf
open Go.RowKit Go.Lib

/-- The scalars from index i on, up to the first place that is not well-formed. -/
def runesGo (s : ByteArray) : Nat → Nat → List Int
  | 0, _ => []
  | k + 1, i => if i < s.size then (if (decS s i).2.2 then (decS s i).1 :: runesGo s k (i + (decS s i).2.1.toNat) else []) else []
def runesS (s : ByteArray) : List Int := runesGo s s.size 0
theorem badGo_ge (s : ByteArray) : ∀ k i, i ≤ badGo s k i
  | 0, i => Nat.le_refl _
  | k + 1, i => by
    rw [badGo]; split
    · split
      · exact Nat.le_trans (Nat.le_add_right _ _) (badGo_ge s k _)
      · exact Nat.le_refl _
    · exact Nat.le_refl _
theorem badGo_le (s : ByteArray) : ∀ k i, i ≤ s.size → badGo s k i ≤ s.size
  | 0, i, h => h
  | k + 1, i, h => by
    rw [badGo]; split
    · rename_i hi
      split
      · refine badGo_le s k _ ?_
        obtain ⟨d1, d2, d3, d4⟩ := decS_spec s i hi
        omega
      · exact h
    · exact h
theorem badS_le (s : ByteArray) : badS s ≤ s.size := badGo_le s _ _ (by omega)
theorem runesGo_len (s : ByteArray) : ∀ k i, (runesGo s k i).length ≤ k
  | 0, i => Nat.le_refl _
  | k + 1, i => by
    rw [runesGo]; split
    · split
      · simp; exact runesGo_len s k _
      · simp
    · simp
/-- Where the index is ahead of the first bad place, a scalar stands there. -/
theorem at_ok {s : ByteArray} {k i : Nat} (h : i < badGo s (k + 1) i) : i < s.size ∧ (decS s i).2.2 = true ∧ badGo s (k + 1) i = badGo s k (i + (decS s i).2.1.toNat) ∧ runesGo s (k + 1) i = (decS s i).1 :: runesGo s k (i + (decS s i).2.1.toNat) := by
  rw [badGo] at h ⊢
  rw [runesGo]
  by_cases h1 : i < s.size
  · rw [if_pos h1] at h ⊢
    by_cases h2 : (decS s i).2.2 = true
    · rw [if_pos h2, if_pos h1, if_pos h2]; exact ⟨h1, h2, rfl, rfl⟩
    · rw [if_neg h2] at h; omega
  · rw [if_neg h1] at h; omega
theorem at_end {s : ByteArray} {k i : Nat} (h : ¬ i < badGo s k i) : runesGo s k i = [] := by
  cases k with
  | zero => rfl
  | succ k =>
    rw [badGo] at h
    rw [runesGo]
    split
    · rename_i h1
      rw [if_pos h1] at h
      split
      · rename_i h2
        rw [if_pos h2] at h
        have := badGo_ge s k (i + (decS s i).2.1.toNat)
        have := (decS_spec s i h1).1
        omega
      · rfl
    · rfl
def runeV (l : List Int) : List Value := l.map (Value.int .i32)

theorem info32 : (Try.prog.info? 21).map (fun i => (i.zero, i.size, i.bytes)) = some (some (.int .i32 0), 1, 4) := by kernel_rfl

theorem runeV_get {l : List Int} {k : Nat} (h : k < l.length) : (runeV l)[k]? = some (.int .i32 (l.getD k 0)) := by
  unfold runeV
  simp [List.getElem?_eq_getElem h, List.getD]
theorem eq_take_succ {a b : List Int} {k : Nat} (h : a.take k = b.take k) (h1 : k < a.length) (h2 : k < b.length) (e : a.getD k 0 = b.getD k 0) : a.take (k + 1) = b.take (k + 1) := by
  rw [List.take_succ_eq_append_getElem h1, List.take_succ_eq_append_getElem h2, h]
  simp [List.getD, List.getElem?_eq_getElem h1, List.getElem?_eq_getElem h2] at e
  rw [e]

end Go.Proofs.Ytikcblnemdbjnaa.Utf
