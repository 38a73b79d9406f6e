/- Binary search over a set's ranges, and Has. -/
import Derived.Test.YtcgknfpcpjiciaaRanA
import Derived.IntWalk
set_option linter.unusedVariables false
namespace Go.Proofs.Ytcgknfpcpjiciaa.Ran
open Go.RowKit Go.Lib

def cmpS (g : Rg) (r : Int) : Int := if g.2 < r then -1 else if r < g.1 then 1 else 0
theorem hasf_calls (X Y r : Int) (w : World) (R : Ending → World → Prop) (hR : Hid (∀ w', Below w.heap.size w w' → R (.returned (.int .i64 (cmpS (X, Y) r))) w')) :
    Calls Try.prog 37 #[.agg #[.int .i32 X, .int .i32 Y], .int .i32 r] w R := by
  have hS : cmpS (X, Y) r = if Y < r then -1 else if r < X then 1 else 0 := rfl
  replace hS := Lib.hid hS
  by_cases h1 : Y < r
  · go_enter Try.func37, Try.ntmps37
    go_wp2_with fail
    exact retI (hR.out _ ((Below.refl _ _).alloc (Nat.le_refl _) _)) (by rw [hS.out, if_pos (by omega)])
  by_cases h2 : r < X
  · go_enter Try.func37, Try.ntmps37
    go_wp2_with fail
    exact retI (hR.out _ ((Below.refl _ _).alloc (Nat.le_refl _) _)) (by rw [hS.out, if_neg (by omega), if_pos (by omega)])
  · go_enter Try.func37, Try.ntmps37
    go_wp2_with fail
    exact retI (hR.out _ ((Below.refl _ _).alloc (Nat.le_refl _) _)) (by rw [hS.out, if_neg (by omega), if_neg (by omega)])

set_option maxRecDepth 100000 in
set_option maxHeartbeats 1000000 in
theorem search_calls (xs : List Rg) (r : Int) (v : Value) (w : World) (hx : RdR w v xs) (hc : Can 0 xs) (R : Ending → World → Prop)
    (hR : Hid (∀ i w', Below w.heap.size w w' → R (.returned (.tuple #[.int .i64 i, .bool (hasB xs r)])) w')) :
    Calls Try.prog 36 #[v, .int .i32 r, .func (.func 37) #[] #[]] w R := by
  obtain ⟨A, c, rfl, hlc, hr⟩ := hx.open
  have hl := can_len0 hc
  have hC := Lib.hid hc
  clear hc
  replace hr := Lib.hid hr
  go_enter Try.func36, Try.ntmps36
  go_wp2_with fail
  go_loopg [9, 10] xs.length (fun k i j wr => ∃ (I J : Nat), Below w.heap.size w wr ∧ i = .int .i64 I ∧ j = .int .i64 J ∧ I ≤ J ∧ J ≤ xs.length ∧ J - I ≤ k ∧
    Hid ((∀ k, k < I → (xs.getD k (0, 0)).2 < r) ∧ (∀ k, J ≤ k → k < xs.length → r ≤ (xs.getD k (0, 0)).2)))
  case atStart => exact ⟨0, xs.length, Below.refl _ _, rfl, rfl, by omega, by omega, by omega, fun k h => by omega, fun k h1 h2 => by omega⟩
  case round =>
    obtain ⟨I, J, hbel, rfl, rfl, c1, c2, c3, c4⟩ := hrel
    have hsz := hbel.size
    by_cases hK : I < J
    · obtain ⟨k, rfl⟩ : ∃ k, gk = k + 1 := ⟨gk - 1, by omega⟩
      obtain ⟨M, hM⟩ : ∃ M : Nat, ((I : Int) + J) / 2 = M := ⟨(I + J) / 2, by omega⟩
      have m1 : I ≤ M := by omega
      have m2 : M < J := by omega
      obtain ⟨g, o, rfl, hg, hca⟩ := hr.out (by omega)
      obtain ⟨h0, h1⟩ := hca M (by omega)
      have e0 := (hbel.cell (p := ⟨g, o + M * 2, none⟩) hg).trans h0
      have e1 := (hbel.cell (p := ⟨g, o + M * 2 + 1, none⟩) hg).trans h1
      have lo : (xs.getD M (0, 0)).2 < r → ∀ k, k < M + 1 → (xs.getD k (0, 0)).2 < r := by
        intro h k hk
        by_cases t : k = M
        · subst t; exact h
        · have a := can_lt hC.out k M (by omega) (by omega)
          have b := (can_get hC.out (show M < xs.length by omega)).2.1
          omega
      have up : r ≤ (xs.getD M (0, 0)).2 → ∀ k, M ≤ k → k < xs.length → r ≤ (xs.getD k (0, 0)).2 := by
        intro h k hk hk2
        by_cases t : k = M
        · subst t; exact h
        · have a := can_lt hC.out M k (by omega) (by omega)
          have b := (can_get hC.out hk2).2.1
          omega
      clear h0 h1 hca
      generalize xs.getD M (0, 0) = G at *
      obtain ⟨X, Y⟩ := G
      simp only at e0 e1 lo up
      replace lo := Lib.hid lo
      replace up := Lib.hid up
      have hS : cmpS (X, Y) r = if Y < r then -1 else if r < X then 1 else 0 := rfl
      by_cases t : Y < r
      · rw [if_pos t] at hS
        replace hS := Lib.hid hS
        go_wp2_with fail
        refine hasf_calls _ _ _ _ _ (fun w1 h1 => ?_)
        rw [hS.out]
        have hb1 := hbel.trans (h1.mono hsz)
        go_wp2_with fail
        go_roundg k
        case measure => omega
        case rel => exact ⟨M + 1, J, hb1, by go_num, rfl, by omega, by omega, by omega, lo.out t, c4.out.2⟩
      · rw [if_neg t] at hS
        have hv : ∃ V : Int, cmpS (X, Y) r = V ∧ 0 ≤ V := ⟨_, rfl, by rw [hS]; split <;> omega⟩
        obtain ⟨V, hV, hV0⟩ := hv
        replace hS := Lib.hid hS
        replace hV := Lib.hid hV
        go_wp2_with fail
        refine hasf_calls _ _ _ _ _ (fun w1 h1 => ?_)
        rw [hV.out]
        have hb1 := hbel.trans (h1.mono hsz)
        go_wp2_with fail
        go_roundg k
        case measure => omega
        case rel => exact ⟨I, M, hb1, rfl, by go_num, by omega, by omega, by omega, c4.out.1, up.out (by omega)⟩
    · obtain rfl : I = J := by omega
      have hB := hasB_at hC.out I c2 c4.out.1 c4.out.2
      have c5 := c4.out.2
      clear c4
      by_cases hI : I < xs.length
      · obtain ⟨g, o, rfl, hg, hca⟩ := hr.out (by omega)
        obtain ⟨h0, h1⟩ := hca I hI
        have e0 := (hbel.cell (p := ⟨g, o + I * 2, none⟩) hg).trans h0
        have e1 := (hbel.cell (p := ⟨g, o + I * 2 + 1, none⟩) hg).trans h1
        have c6 := c5 I (Nat.le_refl _) hI
        clear h0 h1 hca c5
        generalize xs.getD I (0, 0) = G at *
        obtain ⟨X, Y⟩ := G
        simp only at e0 e1 hB c6
        have hS : cmpS (X, Y) r = if r < X then 1 else 0 := by unfold cmpS; rw [if_neg (by simp; omega)]
        rw [decide_eq_true hI, Bool.true_and] at hB
        by_cases t : r < X
        · rw [if_pos t] at hS
          rw [decide_eq_false (by omega)] at hB
          replace hS := Lib.hid hS
          replace hB := Lib.hid hB
          go_wp2_with fail
          refine hasf_calls _ _ _ _ _ (fun w1 h1 => ?_)
          rw [hS.out]
          have hb1 := hbel.trans (h1.mono hsz)
          go_wp2_with fail
          rw [hB.out] at hR
          exact hR.out _ _ hb1
        · rw [if_neg t] at hS
          rw [decide_eq_true (by omega)] at hB
          replace hS := Lib.hid hS
          replace hB := Lib.hid hB
          go_wp2_with fail
          refine hasf_calls _ _ _ _ _ (fun w1 h1 => ?_)
          rw [hS.out]
          have hb1 := hbel.trans (h1.mono hsz)
          go_wp2_with fail
          rw [hB.out] at hR
          exact hR.out _ _ hb1
      · rw [decide_eq_false hI, Bool.false_and] at hB
        replace hB := Lib.hid hB
        clear c5
        go_wp2_with fail
        rw [hB.out] at hR
        exact hR.out _ _ hbel

set_option maxRecDepth 100000 in
theorem has_calls (xs : List Rg) (r : Int) (v : Value) (w : World) (hx : RdR w v xs) (hc : Can 0 xs) (R : Ending → World → Prop)
    (hR : Hid (∀ w', Below w.heap.size w w' → R (.returned (.bool (hasB xs r))) w')) : Calls Try.prog 14 #[.agg #[v], .int .i32 r] w R := by
  replace hc := Lib.hid hc
  have hx2 := hx.below ((Below.refl _ _).alloc (Nat.le_refl _) (.cells #[v] 27))
  replace hx := Lib.hid hx
  replace hx2 := Lib.hid hx2
  go_enter Try.func14, Try.ntmps14
  go_wp2_with fail
  refine search_calls xs r _ _ hx2.out hc.out _ (fun i w1 h1 => ?_)
  go_wp2_with fail
  exact retB (hR.out _ (((Below.refl _ _).alloc (Nat.le_refl _) _).trans (h1.mono (by simp)))) rfl
end Go.Proofs.Ytcgknfpcpjiciaa.Ran
