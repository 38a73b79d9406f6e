/- The reference's Begins and Same. -/
import Derived.Test.YtjcmljdkegpjbaaPatA
import Derived.Test.YtjcmljdkegpjbaaNamB
import Derived.Laws.StructEq
set_option linter.unusedVariables false
namespace Go.Proofs.Ytjcmljdkegpjbaa.Pat
open Go.RowKit Go.Lib Go.Proofs.Ytjcmljdkegpjbaa.Utf Go.Proofs.Ytjcmljdkegpjbaa.Nam Go.Proofs.Ytjcmljdkegpjbaa.Dig

theorem take_succP' (xs : List St) (k : Nat) (h : k < xs.length) : xs.take (k + 1) = xs.take k ++ [stN xs k] := by
  rw [List.take_add_one, stN, List.getD, List.getElem?_eq_getElem h]; rfl
/-- A path begins with another one. -/
def begS (a b : List St) : Prop := b = a.take b.length
instance (a b : List St) : Decidable (begS a b) := by unfold begS; infer_instance
theorem beg_len {a b : List St} (h : begS a b) : b.length ≤ a.length := by
  have := congrArg List.length h
  rw [List.length_take] at this
  omega
theorem beg_at {a b : List St} {K : Nat} (h : begS a b) (hb : K < b.length) : stN a K = stN b K := by
  have hl := beg_len h
  unfold begS at h
  have e : b[K]? = (a.take b.length)[K]? := by rw [← h]
  rw [List.getElem?_take_of_lt hb, List.getElem?_eq_getElem hb, List.getElem?_eq_getElem (show K < a.length by omega)] at e
  rw [stN_get hb, stN_get (show K < a.length by omega)]
  exact (Option.some.inj e).symm
theorem beg_same {a b : List St} (h : a.length = b.length) : begS a b ↔ a = b := by
  unfold begS
  rw [← h, List.take_length]
  exact ⟨fun e => e.symm, fun e => e.symm⟩

set_option maxRecDepth 100000 in
set_option maxHeartbeats 1000000 in
theorem refbegins_calls (a b : List St) (va vb : Value) (w : World) (ha : RdP w va a) (hb : RdP w vb b) (hla : a.length ≤ 1000000) (hlb : b.length ≤ 1000000) (R : Ending → World → Prop)
    (hR : Hid (∀ nq, R (.returned (.bool (decide (begS a b)))) (w.drewN nq))) : Calls Try.prog 18 #[va, vb] w R := by
  obtain ⟨A, c, rfl, hlc, hca⟩ := ha.op
  obtain ⟨B, d, rfl, hld, hcb⟩ := hb.op
  replace hca := Lib.hid hca
  replace hcb := Lib.hid hcb
  clear ha hb
  go_enter Try.func18, Try.ntmps18
  go_wp2_with fail
  go_loopg [5] b.length (fun k i wr => ∃ (K nq : Nat), wr = w.drewN nq ∧ i = .int .i64 K ∧ K + k = b.length ∧ K ≤ a.length ∧ Hid (b.take K = a.take K))
  case atStart => exact ⟨0, 0, rfl, rfl, by omega, by omega, Lib.hid (by simp)⟩
  case round =>
    obtain ⟨K, nq, rfl, rfl, c1, c3, c2⟩ := hrel
    by_cases hK : K < b.length
    · by_cases hKa : K < a.length
      · obtain ⟨g, o, rfl, hg, ha⟩ := hca.out (by omega)
        obtain ⟨g', o', rfl, hg', hb⟩ := hcb.out (by omega)
        obtain ⟨a0, a1, a2⟩ := ha K hKa
        obtain ⟨b0, b1, b2⟩ := hb K hK
        have st : stN a K = stN b K → b.take (K + 1) = a.take (K + 1) := fun h => by rw [take_succP' b K hK, take_succP' a K hKa, c2.out, h]
        have dn : stN a K ≠ stN b K → decide (begS a b) = false := fun h => decide_eq_false fun q => h (beg_at q hK)
        have hi0 : (0 : Int) ≤ (K : Int) := by omega
        have hi1 : (K : Int) < (a.length : Int) := by omega
        have hi2 : (K : Int) < (b.length : Int) := by omega
        clear ha hb c2
        generalize stN a K = X at *
        generalize stN b K = Y at *
        obtain ⟨X0, X1, X2⟩ := X
        obtain ⟨Y0, Y1, Y2⟩ := Y
        simp only at a0 a1 a2 b0 b1 b2
        by_cases e0 : X0 = Y0
        · subst e0
          by_cases e1 : X1 = Y1
          · subst e1
            by_cases e2 : X2 = Y2
            · have q := Lib.hid (st (by rw [e2]))
              have h3 := seq_t e2
              clear st dn e2
              go_wp2_with fail
              go_quiet (fail)
              go_wp2_with fail
              go_roundg (gk - 1)
              case measure => omega
              case rel => exact ⟨K + 1, _, rfl, by go_num, by omega, by omega, q⟩
            · rw [dn (fun h => e2 (by simpa using h))] at hR
              have h3 := seq_f e2
              clear st dn e2
              go_wp2_with fail
              go_quiet (fail)
              go_wp2_with fail
              exact (by rw [World.drewN_drewN]; exact hR.out _)
          · rw [dn (fun h => e1 (by simp at h; exact h.1))] at hR
            clear st dn
            go_wp2_with fail
            go_quiet (fail)
            go_wp2_with fail
            exact (by rw [World.drewN_drewN]; exact hR.out _)
        · rw [dn (fun h => e0 (by simp at h; exact h.1))] at hR
          clear st dn
          go_wp2_with fail
          go_quiet (fail)
          go_wp2_with fail
          exact (by rw [World.drewN_drewN]; exact hR.out _)
      · rw [decide_eq_false (fun h => by have := beg_len h; omega)] at hR
        have hi0 : (a.length : Int) ≤ (K : Int) := by omega
        clear c2
        go_wp2_with fail
        go_quiet (fail)
        go_wp2_with fail
        exact (by rw [World.drewN_drewN]; exact hR.out _)
    · have e : decide (begS a b) = true := decide_eq_true (by
        have h := c2.out
        rw [List.take_of_length_le (by omega)] at h
        unfold begS
        rw [show b.length = K by omega]
        exact h)
      rw [e] at hR
      clear c2
      go_wp2_with fail
      exact hR.out _

theorem refsame_steps (a b : List St) (va vb : Value) (w : World) (ha : RdP w va a) (hb : RdP w vb b) (hla : a.length ≤ 1000000) (hlb : b.length ≤ 1000000) (R : Ending → World → Prop)
    (hR : Hid (∀ nq, R (.returned (.bool (decide (a = b)))) (w.drewN nq))) : Calls Try.prog 8 #[va, vb] w R := by
  have cB := fun R hR => refbegins_calls a b va vb w ha hb hla hlb R hR
  obtain ⟨A, c, rfl, hlc, -⟩ := ha.op
  obtain ⟨B, d, rfl, hld, -⟩ := hb.op
  clear ha hb
  by_cases hlen : a.length = b.length
  · rw [decide_eq_decide.2 (beg_same hlen)] at cB
    have hbq : ((a.length : Int) == (b.length : Int)) = true := by simp; omega
    replace cB := Lib.hid cB
    generalize decide (a = b) = r at *
    clear hlen
    go_enter Try.func8, Try.ntmps8
    go_wp2_with fail
    refine cB.out _ (Lib.hid fun nq => ?_)
    go_wp2_with fail
    exact hR.out _
  · have hbq : ((a.length : Int) == (b.length : Int)) = false := by simp; omega
    rw [decide_eq_false (fun h => hlen (by rw [h]))] at hR
    clear cB
    go_enter Try.func8, Try.ntmps8
    go_wp2_with fail
    exact hR.out 0
end Go.Proofs.Ytjcmljdkegpjbaa.Pat
