/- Contracts of utf.Bad, utf.Valid, utf.Count and of the chapter's example. -/
import Derived.Test.YtafipbmcepbpjaaUtfC
set_option linter.unusedVariables false
namespace Go.Proofs.Ytafipbmcepbpjaa.Utf
open Go.RowKit Go.Lib

set_option maxRecDepth 100000 in
theorem bad_calls (s : ByteArray) (w : World) (hs : s.size ≤ maxLen) (R : Ending → World → Prop)
    (hR : Hid (∀ nq, R (.returned (.int .i64 (badS s))) (w.drewN nq))) : Calls Try.prog 17 #[.string s] w R := by
  have hs' := hs
  unfold maxLen at hs
  go_enter Try.func17, Try.ntmps17
  go_wp2_with fail
  go_loopg [3] s.size (fun k a wr => ∃ (q A : Nat), wr = w.drewN q ∧ a = .int .i64 A ∧ A ≤ s.size ∧ s.size ≤ A + k ∧ badGo s k A = badS s)
  case atStart => exact ⟨0, 0, rfl, rfl, by omega, by omega, rfl⟩
  case round =>
    obtain ⟨q, A, rfl, rfl, c1, c2, c3⟩ := hrel
    replace c3 := Lib.hid c3
    by_cases hA : A < s.size
    · obtain ⟨k, rfl⟩ : ∃ k, gk = k + 1 := ⟨gk - 1, by omega⟩
      have e := c3.out
      rw [badGo, if_pos hA] at e
      obtain ⟨d1, d2, d3, d4⟩ := decS_spec s A hA
      replace d4 := Lib.hid d4
      generalize hd : decS s A = d at *
      obtain ⟨r, n, ok⟩ := d
      simp only at d1 d2 d3 e
      obtain ⟨n, rfl⟩ := Int.eq_ofNat_of_zero_le (by omega : 0 ≤ n)
      replace hd := Lib.hid hd
      cases ok
      · simp only [Bool.false_eq_true, if_false] at e
        replace e := Lib.hid e
        go_wp2_with fail
        refine dec_calls s A _ hs' _ (fun nq => ?_)
        rw [hd.out]
        go_wp2_with fail
        exact retI (hR.out _) (by rw [e.out])
      · simp only [if_true, Int.toNat_natCast] at e
        replace e := Lib.hid e
        go_wp2_with fail
        refine dec_calls s A _ hs' _ (fun nq => ?_)
        rw [hd.out]
        go_wp2_with fail
        go_roundg k
        case measure => omega
        case rel => exact ⟨q + nq, A + n, rfl, by go_num, by omega, by omega, e.out⟩
    · have e : A = badS s := by rw [← c3.out]; cases gk <;> simp [badGo, hA]
      replace e := Lib.hid e
      go_wp2_with fail
      exact retI (hR.out _) (by rw [e.out])

theorem valid_calls (s : ByteArray) (w : World) (hs : s.size ≤ maxLen) (R : Ending → World → Prop)
    (hR : Hid (∀ nq, R (.returned (.bool (decide (badS s = s.size)))) (w.drewN nq))) : Calls Try.prog 18 #[.string s] w R := by
  have hs' := hs
  unfold maxLen at hs
  go_enter Try.func18, Try.ntmps18
  go_wp2_with fail
  refine bad_calls s _ hs' _ (fun nq => ?_)
  go_wp2_with fail
  exact retB (hR.out _) (by rw [Bool.eq_iff_iff]; simp; omega)

set_option maxRecDepth 100000 in
theorem count_calls (s : ByteArray) (w : World) (hs : s.size ≤ maxLen) (R : Ending → World → Prop)
    (hR : Hid (∀ nq, R (.returned (.int .i64 (countS s))) (w.drewN nq))) : Calls Try.prog 19 #[.string s] w R := by
  have hs' := hs
  unfold maxLen at hs
  go_enter Try.func19, Try.ntmps19
  go_wp2_with fail
  go_loopg [3, 4] s.size (fun k c a wr => ∃ (q A C : Nat), wr = w.drewN q ∧ a = .int .i64 A ∧ c = .int .i64 C ∧ A ≤ s.size ∧ s.size ≤ A + k ∧ C ≤ A ∧ countGo s k A + C = countS s)
  case atStart => exact ⟨0, 0, 0, rfl, rfl, rfl, by omega, by omega, by omega, rfl⟩
  case round =>
    obtain ⟨q, A, C, rfl, rfl, rfl, c1, c2, c2', c3⟩ := hrel
    replace c3 := Lib.hid c3
    by_cases hA : A < s.size
    · obtain ⟨k, rfl⟩ : ∃ k, gk = k + 1 := ⟨gk - 1, by omega⟩
      have e := c3.out
      rw [countGo, if_pos hA] at e
      obtain ⟨d1, d2, d3, d4⟩ := decS_spec s A hA
      replace d4 := Lib.hid d4
      generalize hd : decS s A = d at *
      obtain ⟨r, n, ok⟩ := d
      simp only at d1 d2 d3 e
      obtain ⟨n, rfl⟩ := Int.eq_ofNat_of_zero_le (by omega : 0 ≤ n)
      replace hd := Lib.hid hd
      simp only [Int.toNat_natCast] at e
      replace e := Lib.hid e
      go_wp2_with fail
      refine dec_calls s A _ hs' _ (fun nq => ?_)
      rw [hd.out]
      go_wp2_with fail
      go_roundg k
      case measure => omega
      case rel => exact ⟨q + nq, A + n, C + 1, rfl, by go_num, by go_num, by omega, by omega, by omega, by rw [← e.out]; omega⟩
    · have e : C = countS s := by rw [← c3.out]; cases gk <;> simp [countGo, hA]
      replace e := Lib.hid e
      go_wp2_with fail
      exact retI (hR.out _) (by rw [e.out])

theorem lives_calls (w : World) (R : Ending → World → Prop)
    (hR : Hid (∀ w', Below w.heap.size w w' → R (.returned (.bool true)) w')) : Calls Try.prog 9 #[] w R := by
  go_enter Try.func9, Try.ntmps9
  go_wp2_with fail
  refine dec_calls _ _ _ (by decide) _ (fun n1 => ?_)
  rw [show decS { data := #[195, 65] } 0 = (0, 1, false) from by decide +kernel]
  go_wp2_with fail
  refine enc_calls _ _ _ (fun w1 h1 => ?_)
  rw [show encS 233 = { data := #[195, 169] } from by decide +kernel]
  go_wp2_with fail
  refine valid_calls _ _ (by decide) _ (fun n2 => ?_)
  rw [show badS { data := #[195, 169] } = 2 from by decide +kernel]
  go_wp2_with fail
  exact retB (hR.out _ (below_drewN ((below_drewN (Below.refl _ _) _).trans h1) _)) (by decide)
end Go.Proofs.Ytafipbmcepbpjaa.Utf
