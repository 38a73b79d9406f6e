/- The reference's hex, One. -/
import Derived.Test.YtmchgimbfdeaiaaZEscR
import Derived.Test.YtmchgimbfdeaiaaZEscD
set_option maxRecDepth 100000
set_option linter.unusedVariables false
namespace Go.Proofs.Ytmchgimbfdeaiaa.Esc
open Go.RowKit Go.Lib Go.Proofs.Ytmchgimbfdeaiaa.Utf Go.Proofs.Ytmchgimbfdeaiaa.Ran Go.Proofs.Ytmchgimbfdeaiaa.Cel

theorem hexV_in {l : List Int} (h1 : 1 ≤ l.length) (h6 : l.length ≤ 6) : hexV l = numF 0 l := by unfold hexV; rw [if_neg (by omega)]
theorem numF_all : ∀ (l : List Int) (n : Int), 0 ≤ numF n l → ∀ x ∈ l, 0 ≤ valD x
  | [], n, h, x, hx => by simp at hx
  | c :: l, n, h, x, hx => by
    rw [numF] at h
    by_cases hc : valD c < 0
    · rw [if_pos hc] at h; omega
    · rw [if_neg hc] at h
      rcases List.mem_cons.1 hx with rfl | hx
      · omega
      · exact numF_all l _ h x hx
theorem hexV_all {l : List Int} (h : 0 ≤ hexV l) : 1 ≤ l.length ∧ l.length ≤ 6 ∧ ∀ x ∈ l, x ≠ 125 := by
  unfold hexV at h
  by_cases h1 : l.length < 1 ∨ 6 < l.length
  · rw [if_pos h1] at h; omega
  · rw [if_neg h1] at h
    refine ⟨by omega, by omega, fun x hx e => ?_⟩
    have := numF_all l 0 h x hx
    subst e
    exact absurd this (by decide)
/-- The o digits ahead of a closing brace write a scalar. -/
def UP (l : List Int) (o : Nat) : Prop := l.head? = some 123 ∧ l[1 + o]? = some 125 ∧ 0 ≤ hexV ((l.drop 1).take o) ∧ scalarB (hexV ((l.drop 1).take o)) = true
theorem uni_some {l : List Int} {o : Nat} (h : UP l o) : uniS l = some (hexV ((l.drop 1).take o), o) := by
  obtain ⟨h1, h2, h3, h4⟩ := h
  have hl : 1 + o < l.length := (List.getElem?_eq_some_iff.1 h2).1
  obtain ⟨a1, a2, a3⟩ := hexV_all h3
  rw [List.length_take, List.length_drop] at a1 a2
  have ho : o ≤ 6 := by omega
  have hf : fi ((l.drop 1).take 7) = o := by
    refine fi_hit ?_ fun j hj e => ?_
    · rw [List.getElem?_take_of_lt (by omega), List.getElem?_drop, h2]
    · rw [List.getElem?_take_of_lt (by omega)] at e
      have hm : (125 : Int) ∈ (l.drop 1).take o := by
        refine List.mem_of_getElem? (i := j) ?_
        rw [List.getElem?_take_of_lt hj, e]
      exact a3 _ hm rfl
  have ht : ((l.drop 1).take 7).take o = (l.drop 1).take o := by rw [List.take_take]; congr 1; omega
  unfold uniS
  rw [if_pos h1, hf, ht, if_pos]
  exact ⟨by rw [List.length_take, List.length_drop]; omega, h3, h4⟩
theorem uni_no {l : List Int} (h : ∀ o, 1 ≤ o → o ≤ 6 → ¬ UP l o) : uniS l = none := by
  unfold uniS
  by_cases h1 : l.head? = some 123
  · rw [if_pos h1]
    rw [if_neg]
    rintro ⟨a1, a2, a3⟩
    generalize ho : fi ((l.drop 1).take 7) = o at *
    obtain ⟨b1, b2, -⟩ := hexV_all a2
    rw [List.length_take] at a1 b1
    have ht : ((l.drop 1).take 7).take o = (l.drop 1).take o := by rw [List.take_take]; congr 1; omega
    rw [ht] at a2 a3
    refine h o (by omega) (by omega) ⟨h1, ?_, a2, a3⟩
    have hlt : List.findIdx (fun x => x == 125) ((l.drop 1).take 7) < ((l.drop 1).take 7).length := by
      have : fi ((l.drop 1).take 7) < ((l.drop 1).take 7).length := by rw [ho, List.length_take]; omega
      exact this
    have hg := List.findIdx_getElem (w := hlt)
    have hg2 : ((l.drop 1).take 7)[o]? = some 125 := by
      have e : List.findIdx (fun x => x == 125) ((l.drop 1).take 7) = o := ho
      have h5 : ((l.drop 1).take 7)[List.findIdx (fun x => x == 125) ((l.drop 1).take 7)]? = some 125 := by
        rw [List.getElem?_eq_getElem hlt]
        simpa using hg
      rwa [e] at h5
    rw [List.getElem?_take_of_lt (by omega), List.getElem?_drop] at hg2
    exact hg2
  · rw [if_neg h1]
end Go.Proofs.Ytmchgimbfdeaiaa.Esc
