/- The reference's Ranges. -/
import Derived.Test.YtdikcogacopajaaRanB
import Derived.Test.YtdikcogacopajaaRanD
import Derived.Deep.DeepCutAuto
set_option linter.unusedVariables false
namespace Go.Proofs.Ytdikcogacopajaa.Ran
open Go.RowKit Go.Lib

set_option maxRecDepth 100000 in
set_option maxHeartbeats 4000000 in
theorem refranges_calls (a b : List Rg) (how : Int) (va vb : Value) (w : World) (ha : RdR w va a) (hb : RdR w vb b) (hfa : Fit a) (hfb : Fit b) (hla : a.length ≤ 16777216) (hlb : b.length ≤ 16777216) (R : Ending → World → Prop)
    (hR : Hid (∀ v' l w', RdN w' w.heap.size v' l → Can 0 l → (∀ r, hasB l r = kindB a b how r) → Below w.heap.size w w' → R (.returned v') w')) :
    Calls Try.prog 8 #[va, vb, .int .i64 how] w R := by
  obtain ⟨i0, hi, hz0, hz1, hz2⟩ := info_parts infoRg
  have hKo := Lib.hid (kind_out a b how)
  replace ha := Lib.hid ha
  replace hb := Lib.hid hb
  replace hfa := Lib.hid hfa
  replace hfb := Lib.hid hfb
  go_enter Try.func8, Try.ntmps8
  go_wp2_with fail
  go_loopg [7, 8] 1114112 (fun k o t wr => ∃ (A : Nat) (v : Value) (acc : List Rg), v = o ∧ t = .int .i64 A ∧ Below w.heap.size w wr ∧ wr.ownsRow w.heap.size 36 2 v acc.length (flat acc) ∧ A ≤ 1114112 ∧ 1114112 ≤ A + k ∧ acc.length ≤ A ∧ Hid (Upto (kindB a b how) A acc))
  case atStart => exact ⟨0, _, [], rfl, rfl, Below.refl _ _, World.ownsRow_nil _ _ _ _, by omega, by omega, by simp, upto_nil _ (fun r hr => hKo.out r (.inl hr))⟩
  case round =>
    obtain ⟨A, v, acc, rfl, rfl, hbel, hown, c1, c2, c3, c4⟩ := hrel
    have hsz := hbel.size
    by_cases hA : A ≤ 1114111
    · obtain ⟨k, rfl⟩ : ∃ k, gk = k + 1 := ⟨gk - 1, by omega⟩
      have hE1 := nextS_bd a ((A : Int) + 1) (by omega)
      have hE2 := nextS_bd b ((A : Int) + 1) (by omega)
      have hT := fun e (h3 : e ≤ nextS a ((A : Int) + 1)) (h4 : e ≤ nextS b ((A : Int) + 1)) r (h1 : (A : Int) ≤ r) (h2 : r < e) => kind_till a b how A e r (by omega) (by omega) h1 h2 h3 h4
      have q1 := fun (W : World) (hw : Below w.heap.size w W) R hR => next_calls a ((A : Int) + 1) va W (ha.out.below hw) hfa.out hla (by omega) (by omega) R hR
      have q2 := fun (W : World) (hw : Below w.heap.size w W) R hR => next_calls b ((A : Int) + 1) vb W (hb.out.below hw) hfb.out hlb (by omega) (by omega) R hR
      generalize nextS a ((A : Int) + 1) = E1 at *
      generalize nextS b ((A : Int) + 1) = E2 at *
      obtain ⟨E, hE, hE3⟩ : ∃ E : Nat, (E : Int) = (if E2 < E1 then E2 else E1) ∧ A < E ∧ E ≤ 1114112 := by
        refine ⟨(if E2 < E1 then E2 else E1).toNat, ?_, ?_⟩ <;> split <;> omega
      have hT2 := hT E (by rw [hE]; split <;> omega) (by rw [hE]; split <;> omega)
      clear hT
      replace hT2 := Lib.hid hT2
      replace hE := Lib.hid hE
      replace q1 := Lib.hid q1
      replace q2 := Lib.hid q2
      go_wp2_with fail
      refine q1.out _ hbel _ (fun n1 => ?_)
      have hbel1 := below_drewN hbel n1
      go_wp2_with fail
      refine q2.out _ hbel1 _ (fun n2 => ?_)
      have hbel2 := below_drewN hbel1 n2
      have hown2 : ((wr.drewN n1).drewN n2).ownsRow w.heap.size 36 2 v acc.length (flat acc) := hown
      have hsz2 := hbel2.size
      clear hbel1 hown
      generalize (wr.drewN n1).drewN n2 = W1 at *
      go_upto_if 24 with fail
      go_cut [9] (fun s wx => s = .int .i64 E ∧ wx = W1)
      case first =>
        by_cases t : E2 < E1
        · have e : (E : Int) = E2 := by rw [hE.out, if_pos t]
          replace e := Lib.hid e
          go_wp2_with fail
          go_meet
          exact ⟨by rw [e.out], rfl⟩
        · have e : (E : Int) = E1 := by rw [hE.out, if_neg t]
          replace e := Lib.hid e
          go_wp2_with fail
          go_meet
          exact ⟨by rw [e.out], rfl⟩
      case rest =>
        obtain ⟨rfl, rfl⟩ := hcut
        have hk := Lib.hid (kind_calls a b how A va vb wc (ha.out.below hbel2) (hb.out.below hbel2) hla hlb)
        clear hE1 hE2 q1 q2 hE
        cases hK : kindB a b how A
        · rw [hK] at hk
          have fin := upto_skip c4.out hK hT2.out (by omega : (A : Int) < E)
          replace hK := Lib.hid hK
          replace fin := Lib.hid fin
          go_wp2_with fail
          refine hk.out _ ?_
          go_wp2_with fail
          go_roundg k
          case measure => omega
          case rel => exact ⟨E, v, acc, rfl, rfl, hbel2, hown2, by omega, by omega, by omega, fin.out⟩
        · rw [hK] at hk
          replace hK := Lib.hid hK
          rcases snoc_cases acc with rfl | ⟨ac, g, rfl⟩
          · have fin := Lib.hid (upto_new c4.out hK.out hT2.out (by omega : (A : Int) < E) (by omega) (by omega) (by simp [nxt]))
            simp only [List.length_nil] at hown2
            obtain ⟨hvv, -⟩ := own_nil hown2
            have hl0 : ∃ A c, v = .slice A 0 c := by rcases hvv with rfl | ⟨g, c, rfl⟩ <;> exact ⟨_, _, rfl⟩
            clear hvv
            obtain ⟨A', c', rfl⟩ := hl0
            go_wp2_with fail
            refine hk.out _ ?_
            go_wp2_with (at_builtin; go_loud (refine appK _ #[.int .i32 A, .int .i32 ((E : Int) - 1)] 2 36 rfl _ _ 22 rfl w.heap.size i0 (.agg #[.int .i32 0, .int .i32 0]) 8 Try.underlying22 hi hz0 hz1 hz2 rfl (by decide) rfl _ _ _ rfl hown2 _ rfl rfl (by simp [Value.oneCell']) (by unfold maxLen; omega) (by omega) hsz2 ?_); intro v' w3 hown3 hg3 hb3)
            go_roundg k
            case measure => omega
            case rel =>
              rw [show 0 + 1 = (([] : List Rg) ++ [((A : Int), (E : Int) - 1)]).length by rfl, flat_snoc] at hown3
              exact ⟨E, v', [((A : Int), (E : Int) - 1)], rfl, rfl, hbel2.trans hb3, hown3, by omega, by omega, by simp; omega, fin.out⟩
          · simp only [List.length_append, List.length_cons, List.length_nil, Nat.zero_add] at hown2 c3
            obtain ⟨g', cap', rfl, hg1, hg2, hcap, hcells⟩ := own_at hown2 (by omega)
            have f1 := hcells (ac.length * 2 + 1) (by omega)
            have f2 := (flat_get (ac ++ [g]) ac.length (by simp)).2
            rw [getD_last] at f2
            rw [f2] at f1
            have fz := World.ownsRow.frozenAt hown2 (ac.length * 2 + 1)
            have hlen1 : ((ac.length + 1 : Nat) : Int) - 1 = (ac.length : Int) := by omega
            clear f2 hcells
            by_cases t : g.2 = (A : Int) - 1
            · have fin := Lib.hid (upto_near c4.out hK.out hT2.out (by omega : (A : Int) < E) (by omega) t)
              obtain ⟨G1, G2⟩ := g
              simp only at f1 t
              subst t
              have o1 := Lib.hid (World.ownsRow.stored hown2 (ac.length * 2 + 1) (.int .i32 ((E : Int) - 1))).1
              go_wp2_with fail
              refine hk.out _ ?_
              go_wp2_with fail
              go_roundg k
              case measure => omega
              case rel =>
                have o2 := o1.out
                rw [flat_hi] at o2
                exact ⟨E, _, ac ++ [(G1, (E : Int) - 1)], rfl, rfl, hbel2.setCell (p := ⟨g', ac.length * 2 + 1, none⟩) hg1 _, by simpa using o2, by omega, by omega, by simp; omega, fin.out⟩
            · have fin := Lib.hid (upto_new c4.out hK.out hT2.out (by omega : (A : Int) < E) (by omega) (by omega) (upto_far c4.out t))
              obtain ⟨G1, G2⟩ := g
              simp only at f1 t
              have tb : (G2 == (A : Int) - 1) = false := by rw [beq_eq_false_iff_ne]; exact t
              have bd := (can_sorted c4.out.can (G1, G2) (by simp))
              simp only at bd
              go_wp2_with fail
              refine hk.out _ ?_
              go_wp2_with (at_builtin; go_loud (refine appK _ #[.int .i32 A, .int .i32 ((E : Int) - 1)] 2 36 rfl _ _ 22 rfl w.heap.size i0 (.agg #[.int .i32 0, .int .i32 0]) 8 Try.underlying22 hi hz0 hz1 hz2 rfl (by decide) rfl _ _ _ rfl hown2 _ rfl rfl (by simp [Value.oneCell']) (by unfold maxLen; omega) (by omega) hsz2 ?_); intro v' w3 hown3 hg3 hb3)
              go_roundg k
              case measure => omega
              case rel =>
                rw [show ac.length + 1 + 1 = (ac ++ [(G1, G2)] ++ [((A : Int), (E : Int) - 1)]).length by simp, flat_snoc] at hown3
                exact ⟨E, v', ac ++ [(G1, G2)] ++ [((A : Int), (E : Int) - 1)], rfl, rfl, hbel2.trans hb3, hown3, by omega, by omega, by simp; omega, fin.out⟩
    · obtain ⟨cn, hs⟩ := upto_end c4.out (by omega : (1114111 : Int) < A) (fun r hr => hKo.out r (.inr hr))
      replace cn := Lib.hid cn
      replace hs := Lib.hid hs
      go_wp2_with fail
      exact hR.out _ _ _ (RdN.of_own hown (Nat.le_refl _)) cn.out hs.out hbel
end Go.Proofs.Ytdikcogacopajaa.Ran
