/- The reference's Unquote. -/
import Derived.Test.YtmchgimbfdeaiaaGreatZEscO
import Derived.Test.YtmchgimbfdeaiaaGreatZEscF
set_option maxRecDepth 100000
set_option linter.unusedVariables false
namespace Go.Proofs.YtmchgimbfdeaiaaGreat.Esc
open Go.RowKit Go.Lib Go.Proofs.YtmchgimbfdeaiaaGreat.Utf Go.Proofs.YtmchgimbfdeaiaaGreat.Ran Go.Proofs.YtmchgimbfdeaiaaGreat.Cel Go.Proofs.YtmchgimbfdeaiaaGreat.Bld

theorem oneP_in {q : ByteArray} {j : Nat} (hj : j < q.size) : oneP q j = oneL ((bl q).drop j) := by
  unfold oneP
  split
  · rw [bl_drop hj, List.drop_eq_nil_of_le (by rw [bl_length]; omega)]; rfl
  · rfl
theorem oneP_not {q : ByteArray} {j : Nat} (hj : j < q.size) (h : byN q j ≠ 92) : oneP q j = ([], 0) := by
  rw [oneP_in hj, bl_drop hj]
  by_cases h2 : j + 1 < q.size
  · rw [bl_drop h2, oneL_other (by omega)]
  · rw [List.drop_eq_nil_of_le (by rw [bl_length]; omega)]; rfl
set_option maxRecDepth 100000 in
set_option maxHeartbeats 1000000 in
theorem refunq_calls (q : ByteArray) (i : Int) (hi : -9223372036854775808 ≤ i ∧ i ≤ 9223372036854775807) (w : World) (hs : q.size ≤ 100000) (R : Ending → World → Prop)
    (hR : Hid (∀ w', Below w.heap.size w w' → R (.returned (unqT (unqS q i))) w')) : Calls Tryz.prog 44 #[.string q, .int .i64 i] w R := by
  unfold unqS at hR
  by_cases h1 : i < 0 ∨ (q.size : Int) < i
  · rw [if_pos h1] at hR
    by_cases h : i < 0
    · go_enter Tryz.func44, Tryz.ntmps44
      go_wp2_with fail
      refine bodyPost_ret ?_ rfl (hR.out _ ((Below.refl _ _).alloc (Nat.le_refl _) _))
      simp [results, Tryz.results44, go_sem, un_emp]
    · have h2 : (q.size : Int) < i := by omega
      go_enter Tryz.func44, Tryz.ntmps44
      go_wp2_with fail
      refine bodyPost_ret ?_ rfl (hR.out _ ((Below.refl _ _).alloc (Nat.le_refl _) _))
      simp [results, Tryz.results44, go_sem, un_emp]
  rw [if_neg h1] at hR
  obtain ⟨k, rfl⟩ : ∃ k : Nat, i = k := ⟨i.toNat, by omega⟩
  rw [Int.toNat_natCast] at hR
  by_cases h2 : k = q.size
  · rw [if_pos (by omega)] at hR
    subst h2
    clear h1
    have h3 : ¬ (q.size : Int) + 1 < (q.size : Int) := by omega
    go_enter Tryz.func44, Tryz.ntmps44
    go_wp2_with fail
    go_loopg [7, 8] 0 (fun g o a wr => wr = w.alloc (.cells #[.int .i64 0, .int .i64 0] 27) ∧ a = .int .i64 ((q.size : Int) + 1) ∧ g = 0)
    case atStart => exact ⟨rfl, by go_num, rfl⟩
    case round =>
      obtain ⟨rfl, rfl, rfl⟩ := hrel
      go_wp2_with fail
      refine bodyPost_ret ?_ rfl (hR.out _ ((Below.refl _ _).alloc (Nat.le_refl _) _))
      simp [results, Tryz.results44, go_sem, un_emp]
  rw [if_neg (by omega)] at hR
  have hk : k < q.size := by omega
  have hk1 : ¬ (q.size : Int) < k := by omega
  have hk2 : ((k : Int) == (q.size : Int)) = false := by simp; omega
  have hb := byN_lt q k
  have hg := byN_get q k hk
  clear h1 h2 hi
  by_cases h3 : byN q k = 34
  · rw [if_neg (by omega)] at hR
    rw [h3] at hg
    clear h3 hb
    obtain ⟨V, hV⟩ : ∃ V, unqF q (k + 1) ByteArray.empty = V := ⟨_, rfl⟩
    rw [hV] at hR
    obtain ⟨w0, hw0⟩ : ∃ w0, w0 = w.alloc (.cells #[.int .i64 0, .int .i64 0] 27) := ⟨_, rfl⟩
    have z0 : w0.heap.size = w.heap.size + 1 := by rw [hw0]; simp
    have h0 : w0.heap[w.heap.size]? = some (.cells #[.int .i64 0, .int .i64 0] 27 (0, 0)) := by rw [hw0]; exact Array.getElem?_push_size
    have b0 : Below w.heap.size w w0 := by rw [hw0]; exact (Below.refl _ _).alloc (Nat.le_refl _) _
    go_enter Tryz.func44, Tryz.ntmps44
    go_wp2_with fail
    go_loopg [7, 8] (q.size - (k + 1)) (fun g o a wr => ∃ (j : Nat) (x : ByteArray), Hid (Below (w.heap.size + 1) w0 wr) ∧ o = .string x ∧ a = .int .i64 j ∧ j + g = q.size ∧ x.size ≤ 10 * j ∧ Hid (unqF q j x = V))
    case atStart => exact ⟨k + 1, ByteArray.empty, Lib.hid (hw0 ▸ Below.refl _ _), rfl, by go_num, by omega, by show 0 ≤ _; omega, Lib.hid hV⟩
    case round =>
      obtain ⟨j, x, bel, rfl, rfl, c1, c2, c3⟩ := hrel
      have e := c3.out
      clear c3
      have hsz := bel.out.size
      have hsz' : w.heap.size + 1 ≤ wr.heap.size := by omega
      have hh : wr.heap[w.heap.size]? = some (.cells #[.int .i64 0, .int .i64 0] 27 (0, 0)) := by rw [bel.out.block _ (by omega)]; exact h0
      have belw : Below w.heap.size w wr := b0.trans (bel.out.mono (by omega))
      have fin : ∀ W : World, Below (w.heap.size + 1) w0 W → W.cell? ⟨w.heap.size, 0, none⟩ = some (.int .i64 0) ∧ W.cell? ⟨w.heap.size, 1, none⟩ = some (.int .i64 0) ∧ W.frozen? ⟨w.heap.size, 0, none⟩ = false ∧ W.frozen? ⟨w.heap.size, 1, none⟩ = false ∧ Below w.heap.size w W := fun W hW => by
        have hh : W.heap[w.heap.size]? = some (.cells #[.int .i64 0, .int .i64 0] 27 (0, 0)) := by rw [hW.block _ (by omega)]; exact h0
        exact ⟨by rw [Lib.cell_of_heap hh]; rfl, by rw [Lib.cell_of_heap hh]; rfl, Lib.frozen_of_heap hh 0, Lib.frozen_of_heap hh 1, b0.trans (hW.mono (by omega))⟩
      replace fin := Lib.hid fin
      clear hh h0 b0
      by_cases hj : j < q.size
      · rw [unqF_step x hj] at e
        have hg2 := byN_get q j hj
        by_cases h34 : byN q j = 34
        · rw [if_pos h34] at e
          rw [← e] at hR
          rw [h34] at hg2
          clear h34
          obtain ⟨c0, c1, g0, g1, n4⟩ := fin.out wr bel.out
          clear fin belw
          go_wp2_with fail
          refine bodyPost_ret ?_ rfl (hR.out _ ((n4.setCell (p := ⟨w.heap.size, 0, none⟩) (Nat.le_refl _) _).setCell (p := ⟨w.heap.size, 1, none⟩) (Nat.le_refl _) _))
          simp [results, Tryz.results44, go_sem, c0, c1]
        · rw [if_neg h34] at e
          have hbd := den_bd q j hj
          have h34' : ((byN q j : Int) == 34) = false := by simp; omega
          have hbN := byN_lt q j
          have cO := fun (W : World) R hR => refone_calls q j (by omega) W (by omega) R hR
          unfold denS at e hbd
          by_cases h92 : byN q j = 92
          · rw [if_pos h92] at e hbd
            rw [oneP_in hj] at cO
            have hol := one_len ((bl q).drop j)
            generalize oneL ((bl q).drop j) = p at *
            obtain ⟨pl, n⟩ := p
            simp only [oneR] at cO
            simp only at e hbd hol
            rw [h92] at hg2
            clear h34' h34 h92 hbN
            by_cases hp : n = 0
            · rw [if_pos hp] at e
              rw [if_pos (by decide)] at e
              rw [← e] at hR
              clear hbd hol e
              subst hp
              replace cO := Lib.hid cO
              go_wp2_with fail
              refine cO.out _ _ (Lib.hid fun w3 n3 => ?_)
              replace n3 := bel.out.trans (n3.mono hsz')
              obtain ⟨c0, c1, g0, g1, n4⟩ := fin.out w3 n3
              clear fin n3
              go_wp2_with fail
              refine bodyPost_ret ?_ rfl (hR.out _ ((n4.setCell (p := ⟨w.heap.size, 0, none⟩) (Nat.le_refl _) _).setCell (p := ⟨w.heap.size, 1, none⟩) (Nat.le_refl _) _))
              simp [results, Tryz.results44, go_sem, un_emp, c0, c1]
            · rw [if_neg hp] at e hbd
              rw [if_neg (by simp)] at e
              simp only at e hbd
              have hp' : ((n : Int) == 0) = false := by simp; omega
              have hpn : ¬ (n : Int) = 0 := by omega
              have hsp : (strOfNums pl).size ≤ 4 := by rw [strOfNums_size]; exact hol.2.2.1
              have hn1 : 1 ≤ n ∧ j + n ≤ q.size := by omega
              clear hbd hol fin
              generalize strOfNums pl = y at *
              replace cO := Lib.hid cO
              replace e := Lib.hid e
              go_wp2_with fail
              refine cO.out _ _ (Lib.hid fun w3 n3 => ?_)
              replace n3 := bel.out.trans (n3.mono hsz')
              go_wp2_with fail
              go_roundg (gk - n)
              case measure => omega
              case rel => exact ⟨j + n, x ++ y, Lib.hid n3, rfl, by go_num, by omega, by rw [ByteArray.size_append]; omega, e⟩
          · rw [if_neg h92] at e hbd
            rw [oneP_not hj h92] at cO
            have h92' : ((byN q j : Int) == 92) = false := by simp; omega
            have hd := decS_spec q j hj
            have cD := fun (W : World) R hR => refdec_calls q j W (by unfold maxLen; omega) R hR
            rw [decR_eq] at cD
            generalize decS q j = d at *
            generalize byN q j = c at *
            obtain ⟨r, n, ok⟩ := d
            simp only at hd cD e hbd
            replace cO := Lib.hid cO
            replace cD := Lib.hid cD
            clear hbN h34 h92
            cases ok
            · rw [if_pos rfl, if_pos (by decide)] at e
              rw [← e] at hR
              clear e hbd
              go_wp2_with fail
              refine cO.out _ _ (Lib.hid fun w3 n3 => ?_)
              replace n3 := bel.out.trans (n3.mono hsz')
              go_wp2_with fail
              refine cD.out _ _ (Lib.hid fun w4 n4 => ?_)
              replace n4 := n3.trans (n4.mono (by have := n3.size; omega))
              obtain ⟨c0, c1, g0, g1, n5⟩ := fin.out w4 n4
              clear fin n4
              go_wp2_with fail
              refine bodyPost_ret ?_ rfl (hR.out _ ((n5.setCell (p := ⟨w.heap.size, 0, none⟩) (Nat.le_refl _) _).setCell (p := ⟨w.heap.size, 1, none⟩) (Nat.le_refl _) _))
              simp [results, Tryz.results44, go_sem, un_emp, c0, c1]
            · rw [if_neg (show ¬ (true = false) by decide)] at e hbd
              obtain ⟨m, rfl⟩ : ∃ m : Nat, n = m := ⟨n.toNat, by omega⟩
              rw [Int.toNat_natCast] at e hbd
              have hm1 : (j : Int) + m ≤ q.size := by omega
              have cU := fun (W : World) R hR => refKind_calls r W R hR
              by_cases h6 : kindS r ≠ 0
              · rw [if_pos h6, if_pos (by decide)] at e
                rw [← e] at hR
                have b6 : (kindS r == 0) = false := by simpa using h6
                have b7 : (kindS r != 0) = true := by simpa using h6
                clear e hbd h6
                generalize kindS r = K at *
                replace cU := Lib.hid cU
                go_wp2_with fail
                refine cO.out _ _ (Lib.hid fun w3 n3 => ?_)
                replace n3 := bel.out.trans (n3.mono hsz')
                go_wp2_with fail
                refine cD.out _ _ (Lib.hid fun w4 n4 => ?_)
                replace n4 := n3.trans (n4.mono (by have := n3.size; omega))
                go_wp2_with fail
                refine cU.out _ _ (Lib.hid fun w5 n5 => ?_)
                replace n5 := n4.trans (n5.mono (by have := n4.size; omega))
                obtain ⟨c0, c1, g0, g1, n6⟩ := fin.out w5 n5
                clear fin n5
                go_wp2_with fail
                refine bodyPost_ret ?_ rfl (hR.out _ ((n6.setCell (p := ⟨w.heap.size, 0, none⟩) (Nat.le_refl _) _).setCell (p := ⟨w.heap.size, 1, none⟩) (Nat.le_refl _) _))
                simp [results, Tryz.results44, go_sem, un_emp, c0, c1]
              · rw [if_neg h6, if_neg (by simp)] at e
                have h60 : kindS r = 0 := by omega
                rw [h60] at cU
                have hm2 : 1 ≤ m ∧ m ≤ 4 := by omega
                have hpz : (q.extract j (j + m)).size ≤ 4 := by rw [ByteArray.size_extract]; omega
                clear hbd h6 h60 fin
                generalize hpe : q.extract j (j + m) = y at *
                replace cU := Lib.hid cU
                replace e := Lib.hid e
                go_wp2_with fail
                refine cO.out _ _ (Lib.hid fun w3 n3 => ?_)
                replace n3 := bel.out.trans (n3.mono hsz')
                go_wp2_with fail
                refine cD.out _ _ (Lib.hid fun w4 n4 => ?_)
                replace n4 := n3.trans (n4.mono (by have := n3.size; omega))
                go_wp2_with fail
                refine cU.out _ _ (Lib.hid fun w5 n5 => ?_)
                replace n5 := n4.trans (n5.mono (by have := n4.size; omega))
                go_wp2_with fail
                go_roundg (gk - m)
                case measure => omega
                case rel => exact ⟨j + m, x ++ y, Lib.hid n5, rfl, by go_num, by omega, by rw [ByteArray.size_append]; omega, e⟩
      · rw [unqF_end x (by omega)] at e
        rw [← e] at hR
        have hjq : j = q.size := by omega
        obtain ⟨c0, c1, g0, g1, n4⟩ := fin.out wr bel.out
        clear fin e
        go_wp2_with fail
        refine bodyPost_ret ?_ rfl (hR.out _ ((n4.setCell (p := ⟨w.heap.size, 0, none⟩) (Nat.le_refl _) _).setCell (p := ⟨w.heap.size, 1, none⟩) (Nat.le_refl _) _))
        simp [results, Tryz.results44, go_sem, un_emp, c0, c1]
  · rw [if_pos h3] at hR
    have h4 : ((byN q k : Int) == 34) = false := by simp; omega
    have h5 : ((byN q k : Int) != 34) = true := by simp; omega
    generalize byN q k = c at *
    go_enter Tryz.func44, Tryz.ntmps44
    go_wp2_with fail
    refine bodyPost_ret ?_ rfl (hR.out _ ((Below.refl _ _).alloc (Nat.le_refl _) _))
    simp [results, Tryz.results44, go_sem, un_emp]
end Go.Proofs.YtmchgimbfdeaiaaGreat.Esc
