/- Twice. -/
import Derived.Test.YtpepomnkoghjpaaNamD
set_option maxRecDepth 100000
set_option linter.unusedVariables false
namespace Go.Proofs.Ytpepomnkoghjpaa.Nam
open Go.RowKit Go.Lib Go.Proofs.Ytpepomnkoghjpaa.Utf

set_option maxHeartbeats 1000000 in
theorem twice_calls (xs : List ByteArray) (lv : Value) (w : World) (h0 : xs.length ≤ 1000000) (hx : RdS w lv xs) (R : Ending → World → Prop)
    (hR : Hid (∀ w', Below w.heap.size w w' → R (.returned (.int .i64 (twiS xs))) w')) : Calls Try.prog 49 #[lv] w R := by
  obtain ⟨A, c, rfl, hlc, -⟩ := hx.open
  have hx0 := Lib.hid hx
  clear hx
  go_enter Try.func49, Try.ntmps49
  go_wp2_with fail
  refine sorted_calls xs _ _ h0 hx0.out _ (Lib.hid fun ix v1 w1 i1 i2 _ n1 => ?_)
  obtain ⟨A1, c1, rfl, hl1, hr1⟩ := i2.open
  obtain ⟨A2, c2, e2, -, hr2⟩ := (hx0.out.below n1).open
  simp only [Value.slice.injEq] at e2
  obtain ⟨rfl, -, rfl⟩ := e2
  have hlen := i1.len
  replace hr1 := Lib.hid hr1
  replace hr2 := Lib.hid hr2
  replace i1 := Lib.hid i1
  replace n1 := Lib.hid n1
  clear i2
  go_wp2_with fail
  go_loopg [3, 13] ix.length (fun k l i wr => ∃ (K m nq : Nat), wr = w1.drewN nq ∧ l = .int .i64 m ∧ i = .int .i64 K ∧ K + k = ix.length ∧ m ≤ xs.length ∧ Hid (Least xs ix K m))
  case atStart => exact ⟨0, xs.length, 0, rfl, rfl, rfl, by omega, Nat.le_refl _, Lib.hid (Least.start xs ix)⟩
  case round =>
    obtain ⟨K, m, nq, rfl, rfl, rfl, d1, d2, d3⟩ := hrel
    by_cases hK : K < ix.length
    · have hi := i1.out.lt hK
      have hd := i1.out.dup hK
      obtain ⟨g, o, rfl, hg, hca⟩ := hr1.out (by omega)
      obtain ⟨g2, o2, rfl, hg2, hca2⟩ := hr2.out (by omega)
      have f1 := hca K hK
      have f2 := hca2 _ hi
      have q1 : ¬ dup xs (ix.getD K 0) → Least xs ix (K + 1) m := fun h => d3.out.skip h
      have q2 : dup xs (ix.getD K 0) → Least xs ix (K + 1) (min m (ix.getD K 0)) := fun h => d3.out.take hi h
      rw [show xs.getD (ix.getD K 0) ByteArray.empty = at_ xs (ix.getD K 0) from rfl] at f2
      rcases Nat.eq_zero_or_pos K with hz | hz
      · subst hz
        have q := Lib.hid (q1 (fun h => by have := (hd.1 h).1; omega))
        rw [Nat.add_zero] at f1
        clear hd q1 q2 hca hca2 d3
        generalize at_ xs (ix.getD 0 0) = s at *
        generalize ix.getD 0 0 = i at *
        go_wp2_with fail
        go_quiet (fail)
        go_wp2_with fail
        go_roundg (gk - 1)
        case measure => omega
        case rel => exact ⟨1, m, _, rfl, rfl, rfl, by omega, d2, q⟩
      · obtain ⟨J, rfl⟩ : ∃ J, K = J + 1 := ⟨K - 1, by omega⟩
        rw [Nat.add_sub_cancel] at hd
        have hj := i1.out.lt (show J < ix.length by omega)
        have f3 := hca J (by omega)
        have f4 := hca2 _ hj
        rw [show xs.getD (ix.getD J 0) ByteArray.empty = at_ xs (ix.getD J 0) from rfl] at f4
        have hm1 : ((J + 1 : Nat) : Int) - 1 = (J : Int) := by omega
        clear hca hca2 d3
        generalize at_ xs (ix.getD (J + 1) 0) = s at *
        generalize at_ xs (ix.getD J 0) = s' at *
        generalize ix.getD (J + 1) 0 = i at *
        generalize ix.getD J 0 = i' at *
        by_cases hs : s' = s
        · have q := Lib.hid (q2 (hd.2 ⟨hz, hs⟩))
          have hq := seq_t hs
          clear hd q1 q2 hs
          by_cases hm : i < m
          · rw [Nat.min_eq_right (Nat.le_of_lt hm)] at q
            have hmn : min (m : Int) (i : Int) = (i : Int) := by omega
            go_wp2_with fail
            go_quiet (fail)
            go_wp2_with fail
            go_roundg (gk - 1)
            case measure => omega
            case rel => exact ⟨J + 1 + 1, i, _, rfl, rfl, by go_num, by omega, Nat.le_of_lt hi, q⟩
          · rw [Nat.min_eq_left (by omega)] at q
            have hmn : min (m : Int) (i : Int) = (m : Int) := by omega
            go_wp2_with fail
            go_quiet (fail)
            go_wp2_with fail
            go_roundg (gk - 1)
            case measure => omega
            case rel => exact ⟨J + 1 + 1, m, _, rfl, rfl, by go_num, by omega, d2, q⟩
        · have q := Lib.hid (q1 (fun h => hs (hd.1 h).2))
          have hq := seq_f hs
          clear hd q1 q2 hs
          go_wp2_with fail
          go_quiet (fail)
          go_wp2_with fail
          go_roundg (gk - 1)
          case measure => omega
          case rel => exact ⟨J + 1 + 1, m, _, rfl, rfl, by go_num, by omega, d2, q⟩
    · obtain rfl : K = ix.length := by omega
      have e := (d3.out.fin i1.out).2
      rw [e] at hR
      clear d3 e
      by_cases hm : m = xs.length
      · rw [if_pos hm] at hR
        subst hm
        go_wp2_with fail
        exact hR.out _ (below_drewN n1.out _)
      · rw [if_neg hm] at hR
        have hb : ((m : Int) == (xs.length : Int)) = false := by simp; omega
        go_wp2_with fail
        exact hR.out _ (below_drewN n1.out _)
end Go.Proofs.Ytpepomnkoghjpaa.Nam
