/- The reference's Order. -/
import Derived.Test.YtpmpgagggenfiaaRelC
set_option linter.unusedVariables false
namespace Go.Proofs.Ytpmpgagggenfiaa.Rel
open Go.RowKit Go.Lib

def ivR (o : List Nat) : List Value := o.map fun i => .int .i64 (i : Nat)
theorem ivR_len (o : List Nat) : (ivR o).length = o.length := by simp [ivR]
theorem infoIntR : (Try.prog.info? 3).map (fun i => (i.zero, i.size, i.bytes)) = some (some (.int .i64 0), 1, 8) := by kernel_rfl
theorem vB' {x y : Bool} (h : x = y) : Value.bool x = .bool y := by rw [h]

set_option maxRecDepth 100000 in
set_option maxHeartbeats 2000000 in
theorem reforder_calls (n : Nat) (f : Nat → List Bool) (v : Value) (w : World) (hm : RdM w v n f) (hn : n ≤ 64) (R : Ending → World → Prop)
    (hR : Hid (∀ v' w', RdAt w' v' 1 (ivR (ordS n fun a b => on (f a) b)) → Below w.heap.size w w' → R (.returned v') w')) : Calls Try.prog 16 #[v] w R := by
  obtain ⟨M, hM, hmk⟩ := mk_bool n (by omega)
  obtain ⟨i0, hI, hz0, hz1, hz2⟩ := info_parts infoIntR
  obtain ⟨A, c, rfl, hc, hr⟩ := hm.op
  replace hr := Lib.hid hr
  clear hm
  have hm := Lib.hid (own_made (n := n) (w := w) (t := 4) hM (by simp [bv]) (by unfold maxLen; omega))
  have b1 := Lib.hid ((Below.refl w.heap.size w).alloc (Nat.le_refl _) (.cells M 4))
  obtain ⟨F, hF⟩ : ∃ F : Nat → Nat → Bool, F = fun a b => on (f a) b := ⟨_, rfl⟩
  have hF2 : ∀ a b, on (f a) b = F a b := fun a b => by rw [hF]
  rw [← hF] at hR
  replace hF2 := Lib.hid hF2
  clear hF
  go_enter Try.func16, Try.ntmps16
  go_wp2_with fail
  go_loopg [3] n (fun g s wr => ∃ (o : List Nat) (vo : Value) (q : List Bool), vo = s ∧ Below w.heap.size w wr ∧ wr.ownsRow w.heap.size 3 1 vo o.length (ivR o) ∧ wr.ownsRow w.heap.size 4 1 (.slice (some ⟨w.heap.size, 0, none⟩) n n) n (bv q) ∧ o.length + g = n ∧ Hid (∀ i, i < n → on q i = o.contains i) ∧ Hid (Ord n F o) ∧ Hid (ordF n F g o = ordS n F))
  case atStart =>
    refine ⟨[], _, _, rfl, b1.out, World.ownsRow_nil _ _ _ _, hm.out, by simp, Lib.hid fun i hi => ?_, Lib.hid (Ord.nil n F), Lib.hid (by rfl)⟩
    simp [on, List.getD, List.getElem?_replicate, hi]
  case round =>
    obtain ⟨o, vo, q, rfl, hbel, own1, own2, c1, c2, c3, c4⟩ := hrel
    obtain ⟨W0, rfl⟩ : ∃ W0, W0 = wr := ⟨wr, rfl⟩
    have hsz := hbel.size
    have hql : q.length = n := by have := own2.1; rw [bv_len] at this; omega
    obtain ⟨A1, cc1, rfl⟩ : ∃ A c, vo = .slice A o.length c := by
      obtain ⟨A, m, c, h, hl, -⟩ := RdAt.of_own own1
      rw [ivR_len] at hl
      obtain rfl : m = o.length := by omega
      exact ⟨A, c, h⟩
    by_cases hlen : o.length < n
    · obtain ⟨kO, rfl⟩ : ∃ kO, gk = kO + 1 := ⟨gk - 1, by omega⟩
      obtain ⟨g, oo, rfl, hg, hrow⟩ := hr.out (by omega)
      replace hrow := Lib.hid hrow
      have hcell := fun a (ha : a < n) b (hb : b < n) => hrow.out a ha
      clear hcell
      go_wp2_with fail
      go_loopg [5, 6] n (fun g nx a w2 => ∃ (B : Nat), W0 = w2 ∧ a = .int .i64 ((B : Int) - 1) ∧ nx = .int .i64 (leastF (free n F o) (n - B) B) ∧ B ≤ n ∧ g = B)
      case atStart => exact ⟨n, rfl, rfl, by rw [Nat.sub_self]; rfl, Nat.le_refl _, rfl⟩
      case round =>
        obtain ⟨B, rfl, rfl, rfl, d1, d2⟩ := hrel
        cases B with
        | zero =>
          obtain ⟨N, hN⟩ : ∃ N, leastF (free n F o) (n - 0) 0 = N := ⟨_, rfl⟩
          have hN2 : nextS n F o = N := hN
          rw [hN]
          have c5 := c4.out
          rw [ordF, hN2] at c5
          have hz : (((0 : Nat) : Int) - 1) = -1 := by omega
          rcases next_cases (n := n) (f := F) (o := o) with ⟨e, -⟩ | ⟨m, m1, m2, e⟩
          · rw [hN2] at e
            subst e
            rw [if_pos (by decide)] at c5
            have rd : RdAt W0 (.slice A1 o.length cc1) 1 (ivR (ordS n F)) := by rw [← c5]; exact RdAt.of_own own1
            replace rd := Lib.hid rd
            clear c4 c5 hN hN2 own1 own2
            go_wp2_with fail
            exact hR.out _ _ rd.out hbel
          · rw [hN2] at e
            subst e
            rw [if_neg (by omega), Int.toNat_natCast] at c5
            have k1 := (World.ownsRow.cellAt own2 m (by omega)).trans (bv_get (by omega))
            have k2 := World.ownsRow.frozenAt own2 m
            have o2 := (World.ownsRow.stored own2 m (.bool true)).1
            rw [bv_set] at o2
            have o1 := own1.kept (World.ownsRow.stored own2 m (.bool true)).2 (own_ne2 own1 own2 (by decide))
            have b2 := hbel.setCell (p := ⟨w.heap.size, m, none⟩) (Nat.le_refl _) (.bool true)
            have hq : ∀ i, i < n → on (q.set m true) i = (o ++ [m]).contains i := fun i hi => by
              rw [on_set (by omega), c2.out i hi]
              rw [Bool.eq_iff_iff]
              simp only [Bool.or_eq_true, decide_eq_true_eq, List.contains_iff_mem, List.mem_append, List.mem_singleton]
              constructor
              · rintro (h | h)
                · exact .inr h.symm
                · exact .inl h
              · rintro (h | h)
                · exact .inr h
                · exact .inl h.symm
            have hO := c3.out.put m1 m2
            replace hq := Lib.hid hq
            replace hO := Lib.hid hO
            replace c5 := Lib.hid c5
            replace o2 := Lib.hid o2
            replace b2 := Lib.hid b2
            have hsz2 : w.heap.size ≤ (W0.setCell ⟨w.heap.size, m, none⟩ (.bool true)).heap.size := b2.out.size
            clear c4 c2 c3 hN hN2 own1 own2 hbel m2
            go_wp2_with (at_builtin; go_loud (refine appK _ #[.int .i64 (m : Nat)] 1 3 rfl _ _ 39 rfl w.heap.size i0 (.int .i64 0) 8 Try.underlying39 hI hz0 hz1 hz2 rfl (by decide) rfl (.slice A1 o.length cc1) _ _ rfl o1 _ rfl (by simp [World.setCell]) (by simp [Value.oneCell']) (by unfold maxLen; omega) (by omega) hsz2 ?_); intro v' w3 hown3 hg3 hb3)
            have o3 := o2.out.kept hg3 (own_ne2 o2.out o1 (by decide))
            have b3 := b2.out.trans hb3
            go_roundg kO
            case measure => omega
            case rel => exact ⟨o ++ [m], v', _, rfl, b3, by rw [show (o ++ [m]).length = o.length + 1 by simp, show ivR (o ++ [m]) = ivR o ++ [.int .i64 (m : Nat)] by simp [ivR]]; exact hown3, o3, by simp; omega, hq, hO, c5⟩
        | succ B =>
          have hz : (((B + 1 : Nat) : Int) - 1) = (B : Int) := by omega
          have hst : leastF (free n F o) (n - B) B = if free n F o B = true then (B : Int) else leastF (free n F o) (n - (B + 1)) (B + 1) := by
            rw [show n - B = (n - (B + 1)) + 1 by omega]; rfl
          generalize leastF (free n F o) (n - (B + 1)) (B + 1) = N at *
          have k1 := (World.ownsRow.cellAt own2 B (by omega)).trans (bv_get (by omega))
          rw [c2.out B (by omega)] at k1
          replace hst := Lib.hid hst
          obtain ⟨X0, hX0⟩ : ∃ X, (!o.contains B) = X := ⟨_, rfl⟩
          have hX1 : o.contains B = !X0 := by rw [← hX0]; simp
          rw [hX1] at k1
          rw [hz]
          have hB0 : (0 : Int) ≤ (B : Int) := by omega
          have hXs : X0 = true ↔ B ∉ o ∧ ∀ b, b < 0 → b ≠ B → F b B = true → b ∈ o := by
            rw [← hX0]
            simp
          replace hXs := Lib.hid hXs
          clear hX0 hX1
          go_wp2_with fail
          go_loopg [7, 8] n (fun g x b w3 => ∃ (J : Nat) (X : Bool), W0 = w3 ∧ x = .bool X ∧ b = .int .i64 J ∧ J + g = n ∧ Hid (X = true ↔ B ∉ o ∧ ∀ b, b < J → b ≠ B → F b B = true → b ∈ o))
          case atStart => exact ⟨0, X0, rfl, by simp, rfl, by omega, hXs⟩
          case round =>
            obtain ⟨J, X, rfl, rfl, rfl, f1, f2⟩ := hrel
            by_cases hJ : J < n
            · have keep : (J ≠ B → F J B = true → J ∈ o) → (X = true ↔ B ∉ o ∧ ∀ b, b < J + 1 → b ≠ B → F b B = true → b ∈ o) := fun h => by
                rw [f2.out]
                constructor
                · rintro ⟨h1, h2⟩
                  refine ⟨h1, fun b hb => ?_⟩
                  rcases Nat.eq_or_lt_of_le (Nat.le_of_lt_succ hb) with e | q
                  · subst e; exact h
                  · exact h2 b q
                · rintro ⟨h1, h2⟩
                  exact ⟨h1, fun b hb => h2 b (by omega)⟩
              have drop : J ≠ B → F J B = true → J ∉ o → (false = true ↔ B ∉ o ∧ ∀ b, b < J + 1 → b ≠ B → F b B = true → b ∈ o) := fun h1 h2 h3 => by
                constructor
                · intro h; cases h
                · rintro ⟨-, h⟩; exact absurd (h J (Nat.lt_succ_self _) h1 h2) h3
              by_cases hq : J = B
              · subst hq
                have s := Lib.hid (keep (fun h => absurd rfl h))
                clear keep drop
                go_wp2_with fail
                go_roundg (gk - 1)
                case measure => omega
                case rel => exact ⟨J + 1, X, rfl, rfl, by go_num, by omega, s⟩
              · have hq' : ((J : Int) != (B : Int)) = true := by simp; omega
                obtain ⟨g1, o1, c1', x0, hg1, hc1⟩ := hrow.out J hJ
                have x0' := (hbel.cell (p := ⟨g, oo + J, none⟩) hg).trans x0
                have x1 := (hbel.cell (p := ⟨g1, o1 + B, none⟩) hg1).trans (hc1 B (by omega))
                rw [hF2.out] at x1
                have k3 := (World.ownsRow.cellAt own2 J (by omega)).trans (bv_get (by omega))
                rw [c2.out J hJ] at k3
                clear hc1 x0
                cases e1 : F J B
                · have s := Lib.hid (keep (fun _ h => by rw [e1] at h; cases h))
                  rw [e1] at x1
                  clear keep drop e1 k3
                  go_wp2_with fail
                  go_roundg (gk - 1)
                  case measure => omega
                  case rel => exact ⟨J + 1, X, rfl, rfl, by go_num, by omega, s⟩
                · cases e2 : o.contains J
                  · have s := Lib.hid (drop hq e1 (fun h => by rw [← List.contains_iff_mem] at h; rw [e2] at h; cases h))
                    rw [e1] at x1
                    rw [e2] at k3
                    clear keep drop e1 e2
                    go_wp2_with fail
                    go_roundg (gk - 1)
                    case measure => omega
                    case rel => exact ⟨J + 1, false, rfl, rfl, by go_num, by omega, s⟩
                  · have s := Lib.hid (keep (fun _ _ => by rw [← List.contains_iff_mem]; exact e2))
                    rw [e1] at x1
                    rw [e2] at k3
                    clear keep drop e1 e2
                    go_wp2_with fail
                    go_roundg (gk - 1)
                    case measure => omega
                    case rel => exact ⟨J + 1, X, rfl, rfl, by go_num, by omega, s⟩
            · have hfr : free n F o B = X := by
                rw [Bool.eq_iff_iff, free_iff, f2.out, show J = n by omega]
              have hst2 := hst.out
              rw [hfr] at hst2
              clear f2 hfr
              cases X
              · rw [if_neg (by decide)] at hst2
                replace hst2 := Lib.hid hst2
                go_wp2_with fail
                go_roundg B
                case measure => omega
                case rel => exact ⟨B, rfl, by go_num, by rw [hst2.out], by omega, rfl⟩
              · rw [if_pos rfl] at hst2
                replace hst2 := Lib.hid hst2
                go_wp2_with fail
                go_roundg B
                case measure => omega
                case rel => exact ⟨B, rfl, by go_num, by rw [hst2.out], by omega, rfl⟩
    · obtain rfl : gk = 0 := by omega
      have e : o = ordS n F := c4.out
      subst e
      have rd := Lib.hid (RdAt.of_own own1)
      clear c4 own1 own2
      go_wp2_with fail
      exact hR.out _ _ rd.out hbel
end Go.Proofs.Ytpmpgagggenfiaa.Rel
