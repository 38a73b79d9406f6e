/- Contracts: the reference's kind and Same; binary search over a set's ranges, and Has. -/
import Derived.Test.YtcgknfpcpjiciaaRanA
import Derived.Laws.StructEq
set_option linter.unusedVariables false
namespace Go.Proofs.Ytcgknfpcpjiciaa.Ran
open Go.RowKit Go.Lib

theorem eq_take_succ {a b : List Rg} {k : Nat} (h : a.take k = b.take k) (h1 : k < a.length) (h2 : k < b.length) (e : a.getD k (0, 0) = b.getD k (0, 0)) : a.take (k + 1) = b.take (k + 1) := by
  rw [take_succ a k h1, take_succ b k h2, h, e]

set_option maxRecDepth 100000 in
set_option maxHeartbeats 1000000 in
theorem same_calls (xs ys : List Rg) (va vb : Value) (w : World) (hx : RdR w va xs) (hy : RdR w vb ys) (hlx : xs.length ≤ 16777216) (hly : ys.length ≤ 16777216) (R : Ending → World → Prop)
    (hR : Hid (∀ nq, R (.returned (.bool (decide (xs = ys)))) (w.drewN nq))) : Calls Try.prog 17 #[va, vb] w R := by
  obtain ⟨A, c, rfl, hlc, hca⟩ := hx.open
  obtain ⟨B, d, rfl, hld, hcb⟩ := hy.open
  replace hca := Lib.hid hca
  replace hcb := Lib.hid hcb
  by_cases hlen : xs.length = ys.length
  · have hb : ((xs.length : Int) != (ys.length : Int)) = false := by rw [bne_eq_false_iff_eq]; exact_mod_cast hlen
    have hlen' := hlen
    replace hlen := Lib.hid hlen
    have hle : ys.length ≤ xs.length := by omega
    have hle2 : xs.length ≤ ys.length := by omega
    clear hlen'
    go_enter Try.func17, Try.ntmps17
    go_wp2_with fail
    go_loopg [5] ys.length (fun k i wr => ∃ (K nq : Nat), wr = w.drewN nq ∧ i = .int .i64 K ∧ K + k = ys.length ∧ Hid (xs.take K = ys.take K))
    case atStart => exact ⟨0, 0, rfl, rfl, by omega, rfl⟩
    case round =>
      obtain ⟨K, nq, rfl, rfl, c1, c2⟩ := hrel
      by_cases hK : K < ys.length
      · obtain ⟨k, rfl⟩ : ∃ k, gk = k + 1 := ⟨gk - 1, by omega⟩
        have hKx : K < xs.length := by omega
        obtain ⟨g, o, rfl, hg, ha⟩ := hca.out (by omega)
        obtain ⟨g', o', rfl, hg', hb⟩ := hcb.out (by omega)
        obtain ⟨a0, a1⟩ := ha K hKx
        obtain ⟨b0, b1⟩ := hb K hK
        clear ha hb
        have hX := Lib.hid (rfl : xs.getD K (0, 0) = xs.getD K (0, 0))
        have hY := Lib.hid (rfl : ys.getD K (0, 0) = ys.getD K (0, 0))
        have st := eq_take_succ c2.out hKx hK
        have dn : xs.getD K (0, 0) ≠ ys.getD K (0, 0) → decide (xs = ys) = false := by
          intro h; simp; intro e; subst e; exact h rfl
        generalize xs.getD K (0, 0) = X at *
        generalize ys.getD K (0, 0) = Y at *
        obtain ⟨X0, X1⟩ := X
        obtain ⟨Y0, Y1⟩ := Y
        simp only at a0 a1 b0 b1
        replace st := Lib.hid st
        replace dn := Lib.hid dn
        by_cases e0 : X0 = Y0
        · subst e0
          by_cases e1 : X1 = Y1
          · subst e1
            go_wp2_with fail
            go_quiet (fail)
            go_wp2_with fail
            go_roundg k
            case measure => omega
            case rel => exact ⟨K + 1, _, rfl, by go_num, by omega, by first | exact st.out rfl | exact st.out trivial⟩
          · go_wp2_with fail
            go_quiet (fail)
            go_wp2_with fail
            exact retB (by rw [World.drewN_drewN]; exact hR.out _) (dn.out (by intro h; exact e1 (congrArg Prod.snd h)))
        · go_wp2_with fail
          go_quiet (fail)
          go_wp2_with fail
          exact retB (by rw [World.drewN_drewN]; exact hR.out _) (dn.out (by intro h; exact e0 (congrArg Prod.fst h)))
      · have e : decide (xs = ys) = true := by
          have h := c2.out
          have hl := hlen.out
          rw [List.take_of_length_le (by omega), List.take_of_length_le (by omega)] at h
          simpa using h
        replace e := Lib.hid e
        clear c2
        go_wp2_with fail
        exact retB (hR.out _) e.out
  · have hb : ((xs.length : Int) != (ys.length : Int)) = true := by rw [bne_iff_ne]; exact_mod_cast hlen
    have e : decide (xs = ys) = false := by simp; intro h; exact hlen (by rw [h])
    replace e := Lib.hid e
    replace hlen := Lib.hid hlen
    go_enter Try.func17, Try.ntmps17
    go_wp2_with fail
    exact retB (hR.out 0) e.out
end Go.Proofs.Ytcgknfpcpjiciaa.Ran
