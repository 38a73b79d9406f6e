/- The reference's Sorted. -/
import Derived.Test.YtlijjbcamkhhaaaNamB
import Derived.Laws.MakeOwn
set_option maxRecDepth 100000
set_option linter.unusedVariables false
namespace Go.Proofs.Ytlijjbcamkhhaaa.Nam
open Go.RowKit Go.Lib Go.Proofs.Ytlijjbcamkhhaaa.Utf

theorem infoStr : (Try.prog.info? 9).map (fun i => (i.zero, i.size, i.bytes)) = some (some (.string ByteArray.empty), 1, 16) := by kernel_rfl
theorem snocS (A : List ByteArray) : A = [] ∨ ∃ B y, A = B ++ [y] := by
  rcases List.eq_nil_or_concat A with h | ⟨B, y, h⟩
  · exact .inl h
  · exact .inr ⟨B, y, by simpa using h⟩
/-- Two neighbours exchanged. -/
theorem swap_sv (A B : List ByteArray) (x y : ByteArray) : ((sv (A ++ [y] ++ x :: B)).set (A.length + 1) (.string y)).set A.length (.string x) = sv (A ++ x :: y :: B) := by
  unfold sv
  refine List.ext_getElem? fun j => ?_
  rcases Nat.lt_trichotomy j A.length with h | h | h
  · rw [List.getElem?_set_ne (by omega), List.getElem?_set_ne (by omega)]
    simp [List.getElem?_append_left, h]
  · subst h
    rw [List.getElem?_set_self (by simp)]
    simp
  · rcases Nat.eq_or_lt_of_le (show A.length + 1 ≤ j by omega) with e | h2
    · subst e
      rw [List.getElem?_set_ne (by omega), List.getElem?_set_self (by simp)]
      simp
    · rw [List.getElem?_set_ne (by omega), List.getElem?_set_ne (by omega)]
      obtain ⟨m, rfl⟩ : ∃ m, j = A.length + (m + 2) := ⟨j - A.length - 2, by omega⟩
      simp [List.getElem?_append_right]
theorem sv_at (A B : List ByteArray) (x : ByteArray) : (sv (A ++ x :: B))[A.length]? = some (.string x) := by simp [sv]
/-- Where a new string has come to stand. -/
theorem ins_fin {A B acc : List ByteArray} {x : ByteArray} (h : A ++ B = acc) (hi : Inc acc) (hn : x ∉ acc) (hB : ∀ b ∈ B, lt x b = true) (hA : A = [] ∨ ∃ A' y, A = A' ++ [y] ∧ lt x y = false) : Inc (A ++ x :: B) := by
  subst h
  obtain ⟨a1, a2, a3⟩ := List.pairwise_append.1 hi
  have hAx : ∀ a ∈ A, lt a x = true := by
    rcases hA with rfl | ⟨A', y, rfl, hy⟩
    · simp
    · have hyx : lt y x = true := by
        cases e : lt y x
        · exact absurd (lt_tri hy e) (fun q => hn (by rw [q]; simp))
        · rfl
      intro a ha
      rcases List.mem_append.1 ha with ha | ha
      · exact lt_trans ((List.pairwise_append.1 a1).2.2 a ha y (by simp)) hyx
      · rw [List.mem_singleton.1 ha]; exact hyx
  refine List.pairwise_append.2 ⟨a1, List.pairwise_cons.2 ⟨hB, a2⟩, fun a ha b hb => ?_⟩
  rcases List.mem_cons.1 hb with rfl | hb
  · exact hAx a ha
  · exact a3 a ha b hb
theorem mem_mid {A B acc : List ByteArray} {x : ByteArray} (h : A ++ B = acc) (z : ByteArray) : z ∈ A ++ x :: B ↔ z ∈ acc ∨ z = x := by
  subst h
  simp only [List.mem_append, List.mem_cons]
  constructor
  · rintro (h | h | h)
    · exact .inl (.inl h)
    · exact .inr h
    · exact .inl (.inr h)
  · rintro ((h | h) | h)
    · exact .inl h
    · exact .inr (.inr h)
    · exact .inr (.inl h)

end Go.Proofs.Ytlijjbcamkhhaaa.Nam
