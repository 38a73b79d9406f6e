/- The reference's bad, First, Scrub, Unscrub. -/
import Derived.Test.YtikcblnemdbjnaaSafB
import Derived.Test.YtikcblnemdbjnaaEscP
set_option linter.unusedVariables false
namespace Go.Proofs.Ytikcblnemdbjnaa.Saf
open Go.RowKit Go.Lib Go.Proofs.Ytikcblnemdbjnaa.Utf Go.Proofs.Ytikcblnemdbjnaa.Ran Go.Proofs.Ytikcblnemdbjnaa.Cel Go.Proofs.Ytikcblnemdbjnaa.Esc Go.Proofs.Ytikcblnemdbjnaa.Bld

theorem badU_bd (s : ByteArray) (i : Nat) : badU s i = 0 ∨ badU s i = 2 ∨ badU s i = 3 := by unfold badU; (repeat' split) <;> simp
set_option maxRecDepth 100000 in
theorem refbad_calls (s : ByteArray) (k : Nat) (hk : k < s.size) (w : World) (hs : s.size ≤ 1000000) (R : Ending → World → Prop)
    (hR : Hid (∀ w', Below w.heap.size w w' → R (.returned (.int .i64 (badU s k))) w')) : Calls Try.prog 14 #[.string s, .int .i64 k] w R := by
  unfold badU at hR
  have hd := decS_spec s k hk
  have c1 := fun (W : World) R hR => refdec_calls s k W (by unfold maxLen; omega) R hR
  rw [decR_eq] at c1
  generalize decS s k = d at *
  obtain ⟨r, n, ok⟩ := d
  simp only at hd hR c1
  replace c1 := Lib.hid c1
  cases ok
  · rw [if_pos (show false = false from rfl)] at hR
    go_enter Try.func14, Try.ntmps14
    go_wp2_with fail
    refine c1.out _ _ (Lib.hid fun w1 n1 => ?_)
    go_wp2_with fail
    exact hR.out _ n1
  · rw [if_neg (show ¬ (true = false) by decide)] at hR
    by_cases h10 : r = 10
    · subst h10
      rw [if_neg (fun e => e.1 rfl)] at hR
      go_enter Try.func14, Try.ntmps14
      go_wp2_with fail
      refine c1.out _ _ (Lib.hid fun w1 n1 => ?_)
      go_wp2_with fail
      exact hR.out _ n1
    have b10 : (r == 10) = false := by simpa using h10
    have b11 : (r != 10) = true := by simpa using h10
    have cU := fun (W : World) R hR => refKind_calls r W R hR
    by_cases h6 : kindS r ≠ 0
    · rw [if_pos ⟨h10, h6⟩] at hR
      have b6 : (kindS r == 0) = false := by simpa using h6
      have b7 : (kindS r != 0) = true := by simpa using h6
      generalize kindS r = K at *
      replace cU := Lib.hid cU
      go_enter Try.func14, Try.ntmps14
      go_wp2_with fail
      refine c1.out _ _ (Lib.hid fun w1 n1 => ?_)
      go_wp2_with fail
      refine cU.out _ _ (Lib.hid fun w2 n2 => ?_)
      replace n2 := n1.trans (n2.mono n1.size)
      go_wp2_with fail
      exact hR.out _ n2
    · rw [if_neg (fun e => h6 e.2)] at hR
      have h60 : kindS r = 0 := by omega
      rw [h60] at cU
      clear h6 h60
      replace cU := Lib.hid cU
      go_enter Try.func14, Try.ntmps14
      go_wp2_with fail
      refine c1.out _ _ (Lib.hid fun w1 n1 => ?_)
      go_wp2_with fail
      refine cU.out _ _ (Lib.hid fun w2 n2 => ?_)
      replace n2 := n1.trans (n2.mono n1.size)
      go_wp2_with fail
      exact hR.out _ n2

set_option maxRecDepth 100000 in
theorem reffirst_calls (s : ByteArray) (w : World) (hs : s.size ≤ 1000000) (R : Ending → World → Prop)
    (hR : Hid (∀ w', Below w.heap.size w w' → R (.returned (.int .i64 (firS s : Nat))) w')) : Calls Try.prog 7 #[.string s] w R := by
  obtain ⟨V, hV⟩ : ∃ V, firF s 0 = V := ⟨_, rfl⟩
  unfold firS at hR
  rw [hV] at hR
  go_enter Try.func7, Try.ntmps7
  go_wp2_with fail
  go_loopg [3] s.size (fun k a wr => ∃ j : Nat, Below w.heap.size w wr ∧ a = .int .i64 j ∧ j + k = s.size ∧ Hid (firF s j = V))
  case atStart => exact ⟨0, Below.refl _ _, rfl, by omega, Lib.hid hV⟩
  case round =>
    obtain ⟨j, bel, rfl, c1, c2⟩ := hrel
    have hsz := bel.size
    have e := c2.out
    clear c2 hV
    by_cases hj : j < s.size
    · rw [firF_step hj] at e
      have hb := step_bd hj
      have cB := fun (W : World) R hR => refbad_calls s j hj W hs R hR
      have cU := fun (W : World) R hR => refUnit_calls s j W hs hj R hR
      by_cases h0 : badU s j = 0
      · rw [if_pos h0] at e
        rw [unit_step h0] at cU
        rw [h0] at cB
        generalize (unitS s j).1 = u1 at *
        generalize (decS s j).2.1.toNat = n at *
        clear h0
        replace cB := Lib.hid cB
        replace cU := Lib.hid cU
        replace e := Lib.hid e
        go_wp2_with fail
        refine cB.out _ _ (Lib.hid fun w2 n2 => ?_)
        replace n2 := bel.trans (n2.mono hsz)
        go_wp2_with fail
        refine cU.out _ _ (Lib.hid fun w3 n3 => ?_)
        replace n3 := n2.trans (n3.mono n2.size)
        go_wp2_with fail
        go_roundg (gk - n)
        case measure => omega
        case rel => exact ⟨j + n, n3, by go_num, by omega, e⟩
      · rw [if_neg h0] at e
        have b1 : (badU s j == 0) = false := by simpa using h0
        generalize badU s j = E at *
        rw [← e] at hR
        clear e
        replace cB := Lib.hid cB
        go_wp2_with fail
        refine cB.out _ _ (Lib.hid fun w2 n2 => ?_)
        replace n2 := bel.trans (n2.mono hsz)
        go_wp2_with fail
        exact hR.out _ n2
    · rw [firF_end (by omega)] at e
      subst e
      go_wp2_with fail
      exact hR.out _ bel

set_option maxRecDepth 100000 in
set_option maxHeartbeats 1000000 in
theorem refscrub_calls (s : ByteArray) (w : World) (hs : s.size ≤ 100000) (R : Ending → World → Prop)
    (hR : Hid (∀ w', Below w.heap.size w w' → R (.returned (.string (scrubS s))) w')) : Calls Try.prog 13 #[.string s] w R := by
  obtain ⟨V, hV⟩ : ∃ V, scrubS s = V := ⟨_, rfl⟩
  rw [hV] at hR
  go_enter Try.func13, Try.ntmps13
  go_wp2_with fail
  go_loopg [3, 4] s.size (fun k o a wr => ∃ (j : Nat) (x : ByteArray), Below w.heap.size w wr ∧ o = .string x ∧ a = .int .i64 j ∧ j + k = s.size ∧ x.size ≤ 10 * j ∧ Hid (x ++ scF s j = V))
  case atStart => exact ⟨0, ByteArray.empty, Below.refl _ _, rfl, rfl, by omega, by show 0 ≤ _; omega, Lib.hid (by rw [ByteArray.empty_append]; exact hV)⟩
  case round =>
    obtain ⟨j, x, bel, rfl, rfl, c1, c2, c3⟩ := hrel
    have hsz := bel.size
    have e := c3.out
    clear c3 hV
    by_cases hj : j < s.size
    · rw [scF_step hj, ← ByteArray.append_assoc] at e
      have hb := sc_bd hj
      have hl := sc_len hj
      have hw := sc_size hj
      have cU := fun (W : World) R hR => refunit_calls s j hj W (by omega) R hR
      rw [← hl] at cU
      have hg := byN_get s j hj
      have hbl := byN_lt s j
      have hxz : x.size ≤ 1000001 := by omega
      by_cases h34 : byN s j = 34
      · have hx : scU s j = (s.extract j (j + 1), 1) := if_pos (.inr h34)
        rw [hx] at cU e hb hw
        simp only at cU e hb hw
        rw [h34] at hg
        clear hx hl h34
        generalize (unS s j).1 = p at *
        have hj1 : (j : Int) + 1 ≤ s.size := by omega
        generalize hpe : s.extract j (j + 1) = y at *
        replace cU := Lib.hid cU
        replace e := Lib.hid e
        go_wp2_with fail
        refine cU.out _ _ (Lib.hid fun w2 n2 => ?_)
        replace n2 := bel.trans (n2.mono hsz)
        go_wp2_with fail
        go_roundg (gk - 1)
        case measure => omega
        case rel => exact ⟨j + 1, x ++ y, n2, rfl, by go_num, by omega, by rw [ByteArray.size_append]; omega, e⟩
      by_cases h10 : byN s j = 10
      · have hx : scU s j = (s.extract j (j + 1), 1) := if_pos (.inl h10)
        rw [hx] at cU e hb hw
        simp only at cU e hb hw
        rw [h10] at hg
        clear hx hl h34 h10
        generalize (unS s j).1 = p at *
        have hj1 : (j : Int) + 1 ≤ s.size := by omega
        generalize hpe : s.extract j (j + 1) = y at *
        replace cU := Lib.hid cU
        replace e := Lib.hid e
        go_wp2_with fail
        refine cU.out _ _ (Lib.hid fun w2 n2 => ?_)
        replace n2 := bel.trans (n2.mono hsz)
        go_wp2_with fail
        go_roundg (gk - 1)
        case measure => omega
        case rel => exact ⟨j + 1, x ++ y, n2, rfl, by go_num, by omega, by rw [ByteArray.size_append]; omega, e⟩
      have hx : scU s j = unS s j := if_neg (fun h => h.elim h10 h34)
      rw [hx] at cU e hb hw
      have b1 : ((byN s j : Int) == 34) = false := by simp; omega
      have b2 : ((byN s j : Int) == 10) = false := by simp; omega
      have b3 : ¬ (byN s j : Int) = 34 := by omega
      have b4 : ¬ (byN s j : Int) = 10 := by omega
      clear hx hl h34 h10
      generalize byN s j = c at *
      generalize unS s j = u at *
      obtain ⟨p, n⟩ := u
      simp only at hb hw cU e
      replace cU := Lib.hid cU
      replace e := Lib.hid e
      go_wp2_with fail
      refine cU.out _ _ (Lib.hid fun w2 n2 => ?_)
      replace n2 := bel.trans (n2.mono hsz)
      go_wp2_with fail
      go_roundg (gk - n)
      case measure => omega
      case rel => exact ⟨j + n, x ++ p, n2, rfl, by go_num, by omega, by rw [ByteArray.size_append]; omega, e⟩
    · rw [scF_end (by omega), ByteArray.append_empty] at e
      subst e
      go_wp2_with fail
      exact hR.out _ bel

set_option maxRecDepth 100000 in
set_option maxHeartbeats 1000000 in
theorem refuns_calls (q : ByteArray) (w : World) (hs : q.size ≤ 100000) (R : Ending → World → Prop)
    (hR : Hid (∀ w', Below w.heap.size w w' → R (.returned (unsT (unscrubS q))) w')) : Calls Try.prog 11 #[.string q] w R := by
  obtain ⟨V, hV⟩ : ∃ V, usF q 0 ByteArray.empty = V := ⟨_, rfl⟩
  unfold unscrubS at hR
  rw [hV] at hR
  obtain ⟨w0, hw0⟩ : ∃ w0, w0 = w.alloc (.cells #[.int .i64 0, .int .i64 0] 27) := ⟨_, rfl⟩
  have z0 : w0.heap.size = w.heap.size + 1 := by rw [hw0]; simp
  have h0 : w0.heap[w.heap.size]? = some (.cells #[.int .i64 0, .int .i64 0] 27 (0, 0)) := by rw [hw0]; exact Array.getElem?_push_size
  have b0 : Below w.heap.size w w0 := by rw [hw0]; exact (Below.refl _ _).alloc (Nat.le_refl _) _
  go_enter Try.func11, Try.ntmps11
  go_wp2_with fail
  go_loopg [4, 5] q.size (fun g o a wr => ∃ (j : Nat) (x : ByteArray), Hid (Below (w.heap.size + 1) w0 wr) ∧ o = .string x ∧ a = .int .i64 j ∧ j + g = q.size ∧ x.size ≤ 10 * j ∧ Hid (usF q j x = V))
  case atStart => exact ⟨0, ByteArray.empty, Lib.hid (hw0 ▸ Below.refl _ _), rfl, by go_num, by omega, by show 0 ≤ _; omega, Lib.hid hV⟩
  case round =>
    obtain ⟨j, x, bel, rfl, rfl, c1, c2, c3⟩ := hrel
    have e := c3.out
    clear c3 hV
    have hsz := bel.out.size
    have hsz' : w.heap.size + 1 ≤ wr.heap.size := by omega
    have fin : ∀ W : World, Below (w.heap.size + 1) w0 W → W.cell? ⟨w.heap.size, 0, none⟩ = some (.int .i64 0) ∧ W.cell? ⟨w.heap.size, 1, none⟩ = some (.int .i64 0) ∧ W.frozen? ⟨w.heap.size, 0, none⟩ = false ∧ W.frozen? ⟨w.heap.size, 1, none⟩ = false ∧ Below w.heap.size w W := fun W hW => by
      have hh : W.heap[w.heap.size]? = some (.cells #[.int .i64 0, .int .i64 0] 27 (0, 0)) := by rw [hW.block _ (by omega)]; exact h0
      exact ⟨by rw [Lib.cell_of_heap hh]; rfl, by rw [Lib.cell_of_heap hh]; rfl, Lib.frozen_of_heap hh 0, Lib.frozen_of_heap hh 1, b0.trans (hW.mono (by omega))⟩
    replace fin := Lib.hid fin
    clear h0 b0
    by_cases hj : j < q.size
    · rw [usF_step x hj] at e
      have hg2 := byN_get q j hj
      have hbN := byN_lt q j
      have cO := fun (W : World) R hR => refone_calls q j (by omega) W (by omega) R hR
      by_cases h92 : byN q j = 92
      · unfold undU at e
        rw [if_pos h92] at e
        rw [oneP_in hj] at cO
        have hol := one_len ((bl q).drop j)
        rw [List.length_drop, bl_length] at hol
        generalize oneL ((bl q).drop j) = p at *
        obtain ⟨pl, n⟩ := p
        simp only [oneR] at cO
        simp only at e hol
        rw [h92] at hg2
        clear h92 hbN
        by_cases hp : n = 0
        · rw [if_pos hp] at e
          rw [if_pos (by decide)] at e
          rw [← e] at hR
          clear hol e
          subst hp
          replace cO := Lib.hid cO
          go_wp2_with fail
          refine cO.out _ _ (Lib.hid fun w3 n3 => ?_)
          replace n3 := bel.out.trans (n3.mono hsz')
          obtain ⟨c0, c1, g0, g1, n4⟩ := fin.out w3 n3
          clear fin n3
          go_wp2_with fail
          refine bodyPost_ret ?_ rfl (hR.out _ ((n4.setCell (p := ⟨w.heap.size, 0, none⟩) (Nat.le_refl _) _).setCell (p := ⟨w.heap.size, 1, none⟩) (Nat.le_refl _) _))
          simp [results, Try.results11, go_sem, un_emp, c0, c1]
        · rw [if_neg hp] at e
          rw [if_neg (by simp)] at e
          simp only at e
          have hp' : ((n : Int) == 0) = false := by simp; omega
          have hpn : ¬ (n : Int) = 0 := by omega
          have hsp : (strOfNums pl).size ≤ 4 := by rw [strOfNums_size]; exact hol.2.2.1
          have hn1 : 1 ≤ n ∧ j + n ≤ q.size := by omega
          clear hol fin
          generalize strOfNums pl = y at *
          replace cO := Lib.hid cO
          replace e := Lib.hid e
          go_wp2_with fail
          refine cO.out _ _ (Lib.hid fun w3 n3 => ?_)
          replace n3 := bel.out.trans (n3.mono hsz')
          go_wp2_with fail
          go_roundg (gk - n)
          case measure => omega
          case rel => exact ⟨j + n, x ++ y, Lib.hid n3, rfl, by go_num, by omega, by rw [ByteArray.size_append]; omega, e⟩
      · rw [und_su h92, suR_eq] at e
        rw [oneP_not hj h92] at cO
        have h92' : ((byN q j : Int) == 92) = false := by simp; omega
        have hd := step_bd hj
        have cB := fun (W : World) R hR => refbad_calls q j hj W (by omega) R hR
        have cU := fun (W : World) R hR => refUnit_calls q j W (by omega) hj R hR
        by_cases h0 : badU q j = 0
        · rw [unit_step h0] at cU
          simp only [h0, if_pos, ne_eq, not_true_eq_false, if_false] at e
          rw [h0] at cB
          generalize (unitS q j).1 = u1 at *
          generalize (decS q j).2.1.toNat = m at *
          generalize byN q j = c at *
          have hm1 : (j : Int) + m ≤ q.size := by omega
          have hpz : (q.extract j (j + m)).size ≤ 4 := by rw [ByteArray.size_extract]; omega
          generalize hpe : q.extract j (j + m) = y at *
          clear h92 h0 fin
          replace cO := Lib.hid cO
          replace cB := Lib.hid cB
          replace cU := Lib.hid cU
          replace e := Lib.hid e
          go_wp2_with fail
          refine cO.out _ _ (Lib.hid fun w3 n3 => ?_)
          replace n3 := bel.out.trans (n3.mono hsz')
          go_wp2_with fail
          refine cB.out _ _ (Lib.hid fun w4 n4 => ?_)
          replace n4 := n3.trans (n4.mono (by have := n3.size; omega))
          go_wp2_with fail
          refine cU.out _ _ (Lib.hid fun w5 n5 => ?_)
          replace n5 := n4.trans (n5.mono (by have := n4.size; omega))
          go_wp2_with fail
          go_roundg (gk - m)
          case measure => omega
          case rel => exact ⟨j + m, x ++ y, Lib.hid n5, rfl, by go_num, by omega, by rw [ByteArray.size_append]; omega, e⟩
        · rw [if_pos h0] at e
          simp only at e
          rw [← e] at hR
          have b6 : (badU q j == 0) = false := by simpa using h0
          have b7 : (badU q j != 0) = true := by simpa using h0
          generalize badU q j = E at *
          generalize byN q j = c at *
          clear h92 e
          replace cO := Lib.hid cO
          replace cB := Lib.hid cB
          go_wp2_with fail
          refine cO.out _ _ (Lib.hid fun w3 n3 => ?_)
          replace n3 := bel.out.trans (n3.mono hsz')
          go_wp2_with fail
          refine cB.out _ _ (Lib.hid fun w4 n4 => ?_)
          replace n4 := n3.trans (n4.mono (by have := n3.size; omega))
          obtain ⟨c0, c1, g0, g1, n5⟩ := fin.out w4 n4
          clear fin n4
          go_wp2_with fail
          refine bodyPost_ret ?_ rfl (hR.out _ ((n5.setCell (p := ⟨w.heap.size, 0, none⟩) (Nat.le_refl _) _).setCell (p := ⟨w.heap.size, 1, none⟩) (Nat.le_refl _) _))
          simp [results, Try.results11, go_sem, un_emp, c0, c1]
    · rw [usF_end x (by omega)] at e
      rw [← e] at hR
      have hjq : j = q.size := by omega
      obtain ⟨c0, c1, g0, g1, n4⟩ := fin.out wr bel.out
      clear fin e
      go_wp2_with fail
      refine bodyPost_ret ?_ rfl (hR.out _ ((n4.setCell (p := ⟨w.heap.size, 0, none⟩) (Nat.le_refl _) _).setCell (p := ⟨w.heap.size, 1, none⟩) (Nat.le_refl _) _))
      simp [results, Try.results11, go_sem, un_emp, c0, c1]
end Go.Proofs.Ytikcblnemdbjnaa.Saf
