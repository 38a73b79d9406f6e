/- Contracts of utf.Bad, utf.Valid, utf.Count. -/
import Derived.Test.YtheeabngdnhibaaUtfC
set_option linter.unusedVariables false
namespace Go.Proofs.Ytheeabngdnhibaa.Utf
open Go.RowKit Go.Lib

set_option maxRecDepth 100000 in
theorem bad_calls (s : ByteArray) (w : World) (hs : s.size ≤ maxLen) (R : Ending → World → Prop)
    (hR : Hid (∀ nq, R (.returned (.int .i64 (badS s))) (w.drewN nq))) : Calls Try.prog 39 #[.string s] w R := by
  have hs' := hs
  unfold maxLen at hs
  go_enter Try.func39, Try.ntmps39
  go_wp2_with fail
  go_loopg [3] s.size (fun k a wr => ∃ (q A : Nat), wr = w.drewN q ∧ a = .int .i64 A ∧ A ≤ s.size ∧ s.size ≤ A + k ∧ badGo s k A = badS s)
  case atStart => exact ⟨0, 0, rfl, rfl, by omega, by omega, rfl⟩
  case round =>
    obtain ⟨q, A, rfl, rfl, c1, c2, c3⟩ := hrel
    replace c3 := Lib.hid c3
    by_cases hA : A < s.size
    · obtain ⟨k, rfl⟩ : ∃ k, gk = k + 1 := ⟨gk - 1, by omega⟩
      have e := c3.out
      rw [badGo, if_pos hA] at e
      obtain ⟨d1, d2, d3, d4⟩ := decS_spec s A hA
      replace d4 := Lib.hid d4
      generalize hd : decS s A = d at *
      obtain ⟨r, n, ok⟩ := d
      simp only at d1 d2 d3 e
      obtain ⟨n, rfl⟩ := Int.eq_ofNat_of_zero_le (by omega : 0 ≤ n)
      replace hd := Lib.hid hd
      cases ok
      · simp only [Bool.false_eq_true, if_false] at e
        replace e := Lib.hid e
        go_wp2_with fail
        refine dec_calls s A _ hs' _ (fun nq => ?_)
        rw [hd.out]
        go_wp2_with fail
        exact retI (hR.out _) (by rw [e.out])
      · simp only [if_true, Int.toNat_natCast] at e
        replace e := Lib.hid e
        go_wp2_with fail
        refine dec_calls s A _ hs' _ (fun nq => ?_)
        rw [hd.out]
        go_wp2_with fail
        go_roundg k
        case measure => omega
        case rel => exact ⟨q + nq, A + n, rfl, by go_num, by omega, by omega, e.out⟩
    · have e : A = badS s := by rw [← c3.out]; cases gk <;> simp [badGo, hA]
      replace e := Lib.hid e
      go_wp2_with fail
      exact retI (hR.out _) (by rw [e.out])

end Go.Proofs.Ytheeabngdnhibaa.Utf
