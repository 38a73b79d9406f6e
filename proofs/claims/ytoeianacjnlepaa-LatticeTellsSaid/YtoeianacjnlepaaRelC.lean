/- The reference's Loop. -/
import Derived.Test.YtoeianacjnlepaaRelB
set_option maxRecDepth 100000
set_option linter.unusedVariables false
namespace Go.Proofs.Ytoeianacjnlepaa.Rel
open Go.RowKit Go.Lib

theorem RdM.op {w : World} {v : Value} {n : Nat} {f : Nat → List Bool} (h : RdM w v n f) : ∃ (A : Option Addr) (c : Nat), v = .slice A n c ∧ n ≤ c ∧
    (0 < n → ∃ g o, A = some ⟨g, o, none⟩ ∧ g < w.heap.size ∧ ∀ a, a < n → ∃ g' o' c', w.cell? ⟨g, o + a, none⟩ = some (.slice (some ⟨g', o', none⟩) n c') ∧ g' < w.heap.size ∧ ∀ b, b < n → w.cell? ⟨g', o' + b, none⟩ = some (.bool (on (f a) b))) := by
  obtain ⟨vs, ⟨A, m, c, rfl, hl, hm, hc⟩, hn, hrow⟩ := h
  obtain rfl : m = n := by omega
  refine ⟨A, c, rfl, hm, fun h0 => ?_⟩
  obtain ⟨g, o, rfl, hg, hcell⟩ := hc (by omega)
  refine ⟨g, o, rfl, hg, fun a ha => ?_⟩
  obtain ⟨⟨A', m', c', e, hl', hm', hc'⟩, hfl⟩ := hrow a ha
  rw [bv_len, hfl] at hl'
  obtain rfl : m' = m := by omega
  obtain ⟨g', o', rfl, hg', hcell'⟩ := hc' (by rw [bv_len, hfl]; omega)
  refine ⟨g', o', c', ?_, hg', fun b hb => hcell' b _ (bv_get (by omega))⟩
  refine hcell a _ ?_
  rw [← e]
  have : a < vs.length := by omega
  simp [rw_, List.getD, List.getElem?_eq_getElem this]

set_option maxRecDepth 100000 in
set_option maxHeartbeats 1000000 in
theorem refloop_calls (n : Nat) (f : Nat → List Bool) (v : Value) (w : World) (hm : RdM w v n f) (hn : n ≤ 64) (R : Ending → World → Prop)
    (hR : Hid (R (.returned (.int .i64 (loopS n fun a b => on (f a) b))) w)) : Calls Try.prog 37 #[v] w R := by
  obtain ⟨A, c, rfl, hc, hr⟩ := hm.op
  replace hr := Lib.hid hr
  clear hm
  go_enter Try.func37, Try.ntmps37
  go_wp2_with fail
  go_loopg [3] n (fun g a wr => ∃ (K : Nat), wr = w ∧ a = .int .i64 K ∧ K + g = n ∧ Hid (∀ j, j < K → inLoop n (fun a b => on (f a) b) j = false))
  case atStart => exact ⟨0, rfl, rfl, by omega, Lib.hid fun j h => by omega⟩
  case round =>
    obtain ⟨K, rfl, rfl, c1, c2⟩ := hrel
    by_cases hK : K < n
    · obtain ⟨kO, rfl⟩ : ∃ kO, gk = kO + 1 := ⟨gk - 1, by omega⟩
      go_wp2_with fail
      go_loopg [4] n (fun g b w2 => ∃ (J : Nat), w2 = wr ∧ b = .int .i64 J ∧ J + g = n ∧ Hid (∀ b, b < J → ¬ (K ≠ b ∧ on (f K) b = true ∧ on (f b) K = true)))
      case atStart => exact ⟨0, rfl, rfl, by omega, Lib.hid fun j h => by omega⟩
      case round =>
        obtain ⟨J, rfl, rfl, d1, d2⟩ := hrel
        by_cases hJ : J < n
        · have skip : ¬ (K ≠ J ∧ on (f K) J = true ∧ on (f J) K = true) → ∀ b, b < J + 1 → ¬ (K ≠ b ∧ on (f K) b = true ∧ on (f b) K = true) := fun h b hb => by
            rcases Nat.eq_or_lt_of_le (Nat.le_of_lt_succ hb) with e | q
            · subst e; exact h
            · exact d2.out b q
          have hit : (K ≠ J ∧ on (f K) J = true ∧ on (f J) K = true) → loopS n (fun a b => on (f a) b) = K := fun h => least_is hK (inLoop_iff.2 ⟨J, hJ, h.1, h.2.1, h.2.2⟩) c2.out
          clear d2
          by_cases hq : K = J
          · subst hq
            have s := Lib.hid (skip (fun h => h.1 rfl))
            clear skip hit
            go_wp2_with fail
            go_roundg (gk - 1)
            case measure => omega
            case rel => exact ⟨K + 1, rfl, by go_num, by omega, s⟩
          · have hq' : ((K : Int) != (J : Int)) = true := by simp; omega
            obtain ⟨g, o, rfl, hg, hrow⟩ := hr.out (by omega)
            obtain ⟨g1, o1, c1', x0, hg1, hc1⟩ := hrow K hK
            obtain ⟨g2, o2, c2', x1, hg2, hc2⟩ := hrow J hJ
            have x2 := hc1 J hJ
            have x3 := hc2 K hK
            clear hrow hc1 hc2
            cases e1 : on (f K) J
            · have s := Lib.hid (skip (fun h => by rw [e1] at h; cases h.2.1))
              rw [e1] at x2
              clear skip hit e1
              go_wp2_with fail
              go_roundg (gk - 1)
              case measure => omega
              case rel => exact ⟨J + 1, rfl, by go_num, by omega, s⟩
            · cases e2 : on (f J) K
              · have s := Lib.hid (skip (fun h => by rw [e2] at h; cases h.2.2))
                rw [e1] at x2
                rw [e2] at x3
                clear skip hit e1 e2
                go_wp2_with fail
                go_roundg (gk - 1)
                case measure => omega
                case rel => exact ⟨J + 1, rfl, by go_num, by omega, s⟩
              · have s := hit ⟨hq, e1, e2⟩
                rw [s] at hR
                rw [e1] at x2
                rw [e2] at x3
                clear skip hit e1 e2 s
                go_wp2_with fail
                exact hR.out
        · have s : ∀ j, j < K + 1 → inLoop n (fun a b => on (f a) b) j = false := fun j hj => by
            rcases Nat.eq_or_lt_of_le (Nat.le_of_lt_succ hj) with e | q
            · subst e
              cases e : inLoop n (fun a b => on (f a) b) j
              · rfl
              · obtain ⟨b, hb, h1, h2, h3⟩ := inLoop_iff.1 e
                exact absurd ⟨h1, h2, h3⟩ (d2.out b (by omega))
            · exact c2.out j q
          replace s := Lib.hid s
          clear d2 c2
          go_wp2_with fail
          go_roundg kO
          case measure => omega
          case rel => exact ⟨K + 1, rfl, by go_num, by omega, s⟩
    · have s : loopS n (fun a b => on (f a) b) = -1 := least_none fun j hj => c2.out j (by omega)
      rw [s] at hR
      clear c2 s
      go_wp2_with fail
      exact hR.out
end Go.Proofs.Ytoeianacjnlepaa.Rel
