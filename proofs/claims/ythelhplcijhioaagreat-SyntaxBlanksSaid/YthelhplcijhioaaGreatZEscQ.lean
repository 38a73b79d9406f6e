/- The reference's hex, One. -/
import Derived.Test.YthelhplcijhioaaGreatZEscR
import Derived.Test.YthelhplcijhioaaGreatZEscD
set_option maxRecDepth 100000
set_option linter.unusedVariables false
namespace Go.Proofs.YthelhplcijhioaaGreat.Esc
open Go.RowKit Go.Lib Go.Proofs.YthelhplcijhioaaGreat.Utf Go.Proofs.YthelhplcijhioaaGreat.Ran Go.Proofs.YthelhplcijhioaaGreat.Cel

theorem hexV_in {l : List Int} (h1 : 1 ≤ l.length) (h6 : l.length ≤ 6) : hexV l = numF 0 l := by unfold hexV; rw [if_neg (by omega)]
set_option maxRecDepth 100000 in
set_option maxHeartbeats 1000000 in
theorem refhexv_calls (t : ByteArray) (w : World) (hs : t.size ≤ 1000000) (R : Ending → World → Prop)
    (hR : Hid (R (.returned (.int .i64 (hexV (bl t)))) w)) : Calls Tryz.prog 134 #[.string t] w R := by
  by_cases h1 : t.size < 1
  · have hx : hexV (bl t) = -1 := by unfold hexV; rw [if_pos (by rw [bl_length]; omega)]
    rw [hx] at hR
    have h0 : t.size = 0 := by omega
    go_enter Tryz.func134, Tryz.ntmps134
    go_wp2_with fail
    exact hR.out
  by_cases h6 : 6 < t.size
  · have hx : hexV (bl t) = -1 := by unfold hexV; rw [if_pos (by rw [bl_length]; omega)]
    rw [hx] at hR
    have h6' : (6 : Int) < (t.size : Int) := by omega
    have h1' : ¬ (t.size : Int) < 1 := by omega
    go_enter Tryz.func134, Tryz.ntmps134
    go_wp2_with fail
    exact hR.out
  have hx : hexV (bl t) = numF 0 (bl t) := hexV_in (by rw [bl_length]; omega) (by rw [bl_length]; omega)
  rw [hx] at hR
  have h6' : ¬ (6 : Int) < (t.size : Int) := by omega
  have h1' : ¬ (t.size : Int) < 1 := by omega
  go_enter Tryz.func134, Tryz.ntmps134
  go_wp2_with fail
  go_loopg [3, 4] t.size (fun k v a wr => ∃ (j : Nat) (n : Int), wr = w ∧ v = .int .i64 n ∧ a = .int .i64 j ∧ j + k = t.size ∧ 0 ≤ n ∧ n < 16 ^ j ∧ Hid (numF n ((bl t).drop j) = numF 0 (bl t)))
  case atStart => exact ⟨0, 0, rfl, rfl, rfl, by omega, by omega, by decide, Lib.hid (by rw [List.drop_zero])⟩
  case round =>
    obtain ⟨j, n, rfl, rfl, rfl, c1, c2, c3, c4⟩ := hrel
    have e := c4.out
    clear c4
    by_cases hj : j < t.size
    · rw [bl_drop hj, numF] at e
      have h16 : n < 16777216 := by
        have : (16 : Int) ^ j ≤ 16 ^ 6 := by exact_mod_cast Nat.pow_le_pow_right (by omega) (by omega : j ≤ 6)
        have : (16 : Int) ^ 6 = 16777216 := by decide
        omega
      have hb := byN_lt t j
      have hg := byN_get t j hj
      have hc : (48 ≤ (byN t j : Int) ∧ (byN t j : Int) < 58 ∧ valD (byN t j) = (byN t j : Int) - 48) ∨ (¬ (48 ≤ (byN t j : Int) ∧ (byN t j : Int) < 58) ∧ 65 ≤ (byN t j : Int) ∧ (byN t j : Int) < 71 ∧ valD (byN t j) = (byN t j : Int) - 55) ∨
          (¬ (48 ≤ (byN t j : Int) ∧ (byN t j : Int) < 58) ∧ ¬ (65 ≤ (byN t j : Int) ∧ (byN t j : Int) < 71) ∧ 97 ≤ (byN t j : Int) ∧ (byN t j : Int) < 103 ∧ valD (byN t j) = (byN t j : Int) - 87) ∨
          (¬ (48 ≤ (byN t j : Int) ∧ (byN t j : Int) < 58) ∧ ¬ (65 ≤ (byN t j : Int) ∧ (byN t j : Int) < 71) ∧ ¬ (97 ≤ (byN t j : Int) ∧ (byN t j : Int) < 103) ∧ valD (byN t j) = -1) := by
        unfold valD; (repeat' split) <;> omega
      generalize valD (byN t j) = v at *
      generalize byN t j = c at *
      rcases hc with ⟨d1, d2, d3⟩ | ⟨d0, d1, d2, d3⟩ | ⟨d0, d0', d1, d2, d3⟩ | ⟨d0, d0', d0'', d3⟩
      · subst d3
        rw [if_neg (by omega)] at e
        replace e := Lib.hid e
        have q2 : ¬ 65 ≤ (c : Int) := by omega
        have q3 : ¬ 97 ≤ (c : Int) := by omega
        have q4 : ¬ (c : Int) - 48 < 0 := by omega
        go_wp2_with fail
        go_roundg (gk - 1)
        case measure => omega
        case rel => exact ⟨j + 1, 16 * n + ((c : Int) - 48), rfl, by go_num, by go_num, by omega, by omega, by rw [Int.pow_succ]; omega, e⟩
      · subst d3
        rw [if_neg (by omega)] at e
        replace e := Lib.hid e
        have q1 : 48 ≤ (c : Int) := by omega
        have q2 : ¬ (c : Int) < 58 := by omega
        have q3 : ¬ 97 ≤ (c : Int) := by omega
        have q4 : ¬ (c : Int) - 55 < 0 := by omega
        go_wp2_with fail
        go_roundg (gk - 1)
        case measure => omega
        case rel => exact ⟨j + 1, 16 * n + ((c : Int) - 55), rfl, by go_num, by go_num, by omega, by omega, by rw [Int.pow_succ]; omega, e⟩
      · subst d3
        rw [if_neg (by omega)] at e
        replace e := Lib.hid e
        have q1 : 48 ≤ (c : Int) := by omega
        have q2 : ¬ (c : Int) < 58 := by omega
        have q3 : 65 ≤ (c : Int) := by omega
        have q4 : ¬ (c : Int) < 71 := by omega
        have q5 : ¬ (c : Int) - 87 < 0 := by omega
        go_wp2_with fail
        go_roundg (gk - 1)
        case measure => omega
        case rel => exact ⟨j + 1, 16 * n + ((c : Int) - 87), rfl, by go_num, by go_num, by omega, by omega, by rw [Int.pow_succ]; omega, e⟩
      · subst d3
        rw [if_pos (by omega)] at e
        rw [← e] at hR
        clear e
        go_wp2_with fail
        all_goals exact hR.out
    · rw [List.drop_eq_nil_of_le (by rw [bl_length]; omega), numF] at e
      rw [← e] at hR
      clear e c3
      go_wp2_with fail
      exact hR.out
theorem numF_all : ∀ (l : List Int) (n : Int), 0 ≤ numF n l → ∀ x ∈ l, 0 ≤ valD x
  | [], n, h, x, hx => by simp at hx
  | c :: l, n, h, x, hx => by
    rw [numF] at h
    by_cases hc : valD c < 0
    · rw [if_pos hc] at h; omega
    · rw [if_neg hc] at h
      rcases List.mem_cons.1 hx with rfl | hx
      · omega
      · exact numF_all l _ h x hx
theorem hexV_all {l : List Int} (h : 0 ≤ hexV l) : 1 ≤ l.length ∧ l.length ≤ 6 ∧ ∀ x ∈ l, x ≠ 125 := by
  unfold hexV at h
  by_cases h1 : l.length < 1 ∨ 6 < l.length
  · rw [if_pos h1] at h; omega
  · rw [if_neg h1] at h
    refine ⟨by omega, by omega, fun x hx e => ?_⟩
    have := numF_all l 0 h x hx
    subst e
    exact absurd this (by decide)
/-- The o digits ahead of a closing brace write a scalar. -/
def UP (l : List Int) (o : Nat) : Prop := l.head? = some 123 ∧ l[1 + o]? = some 125 ∧ 0 ≤ hexV ((l.drop 1).take o) ∧ scalarB (hexV ((l.drop 1).take o)) = true
theorem uni_some {l : List Int} {o : Nat} (h : UP l o) : uniS l = some (hexV ((l.drop 1).take o), o) := by
  obtain ⟨h1, h2, h3, h4⟩ := h
  have hl : 1 + o < l.length := (List.getElem?_eq_some_iff.1 h2).1
  obtain ⟨a1, a2, a3⟩ := hexV_all h3
  rw [List.length_take, List.length_drop] at a1 a2
  have ho : o ≤ 6 := by omega
  have hf : fi ((l.drop 1).take 7) = o := by
    refine fi_hit ?_ fun j hj e => ?_
    · rw [List.getElem?_take_of_lt (by omega), List.getElem?_drop, h2]
    · rw [List.getElem?_take_of_lt (by omega)] at e
      have hm : (125 : Int) ∈ (l.drop 1).take o := by
        refine List.mem_of_getElem? (i := j) ?_
        rw [List.getElem?_take_of_lt hj, e]
      exact a3 _ hm rfl
  have ht : ((l.drop 1).take 7).take o = (l.drop 1).take o := by rw [List.take_take]; congr 1; omega
  unfold uniS
  rw [if_pos h1, hf, ht, if_pos]
  exact ⟨by rw [List.length_take, List.length_drop]; omega, h3, h4⟩
theorem uni_no {l : List Int} (h : ∀ o, 1 ≤ o → o ≤ 6 → ¬ UP l o) : uniS l = none := by
  unfold uniS
  by_cases h1 : l.head? = some 123
  · rw [if_pos h1]
    rw [if_neg]
    rintro ⟨a1, a2, a3⟩
    generalize ho : fi ((l.drop 1).take 7) = o at *
    obtain ⟨b1, b2, -⟩ := hexV_all a2
    rw [List.length_take] at a1 b1
    have ht : ((l.drop 1).take 7).take o = (l.drop 1).take o := by rw [List.take_take]; congr 1; omega
    rw [ht] at a2 a3
    refine h o (by omega) (by omega) ⟨h1, ?_, a2, a3⟩
    have hlt : List.findIdx (fun x => x == 125) ((l.drop 1).take 7) < ((l.drop 1).take 7).length := by
      have : fi ((l.drop 1).take 7) < ((l.drop 1).take 7).length := by rw [ho, List.length_take]; omega
      exact this
    have hg := List.findIdx_getElem (w := hlt)
    have hg2 : ((l.drop 1).take 7)[o]? = some 125 := by
      have e : List.findIdx (fun x => x == 125) ((l.drop 1).take 7) = o := ho
      have h5 : ((l.drop 1).take 7)[List.findIdx (fun x => x == 125) ((l.drop 1).take 7)]? = some 125 := by
        rw [List.getElem?_eq_getElem hlt]
        simpa using hg
      rwa [e] at h5
    rw [List.getElem?_take_of_lt (by omega), List.getElem?_drop] at hg2
    exact hg2
  · rw [if_neg h1]
end Go.Proofs.YthelhplcijhioaaGreat.Esc
