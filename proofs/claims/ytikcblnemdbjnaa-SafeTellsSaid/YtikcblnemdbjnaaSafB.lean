/- The code's denoted, Unscrub, lives. -/
import Derived.Test.YtikcblnemdbjnaaSafA
import Derived.Test.YtikcblnemdbjnaaEscF
set_option linter.unusedVariables false
namespace Go.Proofs.Ytikcblnemdbjnaa.Saf
open Go.RowKit Go.Lib Go.Proofs.Ytikcblnemdbjnaa.Utf Go.Proofs.Ytikcblnemdbjnaa.Ran Go.Proofs.Ytikcblnemdbjnaa.Cel Go.Proofs.Ytikcblnemdbjnaa.Esc Go.Proofs.Ytikcblnemdbjnaa.Bld

theorem und_su {q : ByteArray} {i : Nat} (h : byN q i ≠ 92) : undU q i = ((suR q i).2, q.extract i (i + (suR q i).1), (suR q i).1) := by
  unfold undU
  rw [if_neg h, suR_eq]
  by_cases h0 : badU q i = 0
  · simp [h0]
  · have : q.extract i i = ByteArray.empty := by
      apply bl_ext
      rw [bl_extract, List.drop_eq_nil_of_le (by rw [List.length_take, bl_length]; omega)]
      rfl
    simp [h0, this]
set_option maxRecDepth 100000 in
theorem sden_calls (q : ByteArray) (k : Nat) (hk : k < q.size) (w : World) (hs : q.size ≤ 1000000) (R : Ending → World → Prop)
    (hR : Hid (∀ w', Below w.heap.size w w' → R (.returned (.tuple #[.string (undU q k).2.1, .int .i64 ((undU q k).2.2 : Nat), .int .i64 (undU q k).1])) w')) :
    Calls Try.prog 17 #[.string q, .int .i64 k] w R := by
  have hb := byN_lt q k
  have hg := byN_get q k hk
  by_cases h92 : byN q k = 92
  · unfold undU at hR
    rw [if_pos h92] at hR
    have cO := fun (W : World) R hR => one_calls q k W hs R hR
    have hP : oneP q k = if (q.size : Int) ≤ k + 1 then ([], 0) else oneL ((bl q).drop k) := by
      unfold oneP; split <;> split <;> first | rfl | omega
    have hP2 : oneP q k = oneL ((bl q).drop k) := by
      rw [hP]
      split
      · rw [bl_drop hk, List.drop_eq_nil_of_le (by rw [bl_length]; omega)]; rfl
      · rfl
    rw [hP2] at cO
    clear hP hP2
    generalize oneL ((bl q).drop k) = p at *
    rw [h92] at hg
    clear h92
    by_cases h0 : p.2 = 0
    · rw [if_pos h0] at hR
      unfold oneT at cO
      rw [decide_eq_false (by omega)] at cO
      replace cO := Lib.hid cO
      go_enter Try.func17, Try.ntmps17
      go_wp2_with fail
      refine cO.out _ _ (Lib.hid fun w1 n1 => ?_)
      go_wp2_with fail
      go_ret3
      exact hR.out _ n1
    · rw [if_neg h0] at hR
      unfold oneT at cO
      rw [decide_eq_true h0] at cO
      replace cO := Lib.hid cO
      go_enter Try.func17, Try.ntmps17
      go_wp2_with fail
      refine cO.out _ _ (Lib.hid fun w1 n1 => ?_)
      go_wp2_with fail
      go_ret3
      exact hR.out _ n1
  · rw [und_su h92] at hR
    have hbd := su_bd hk
    have cU := fun (W : World) R hR => sunit_calls q k hk W hs R hR
    generalize suR q k = u at *
    obtain ⟨n, E⟩ := u
    simp only at hbd cU hR
    have b1 : ((byN q k : Int) == 92) = false := by simp; omega
    have hm1 : (k : Int) + n ≤ q.size := by omega
    generalize byN q k = c at *
    clear h92 hbd
    replace cU := Lib.hid cU
    go_enter Try.func17, Try.ntmps17
    go_wp2_with fail
    refine cU.out _ _ (Lib.hid fun w1 n1 => ?_)
    go_wp2_with fail
    go_ret3
    exact hR.out _ n1

/-- What Unscrub hands back. -/
abbrev unsT (p : ByteArray × Int × Int) : Value := .tuple #[.string p.1, .agg #[.int .i64 p.2.1, .int .i64 p.2.2]]
set_option maxRecDepth 100000 in
set_option maxHeartbeats 1000000 in
theorem unscrub_calls (q : ByteArray) (w : World) (hs : q.size ≤ 100000) (R : Ending → World → Prop)
    (hR : Hid (∀ w', Below w.heap.size w w' → R (.returned (unsT (unscrubS q))) w')) : Calls Try.prog 10 #[.string q] w R := by
  obtain ⟨V, hV⟩ : ∃ V, usF q 0 ByteArray.empty = V := ⟨_, rfl⟩
  unfold unscrubS at hR
  rw [hV] at hR
  obtain ⟨w0, hw0⟩ : ∃ w0, w0 = w.alloc (.cells #[.int .i64 0, .int .i64 0] 27) := ⟨_, rfl⟩
  have z0 : w0.heap.size = w.heap.size + 1 := by rw [hw0]; simp
  have h0 : w0.heap[w.heap.size]? = some (.cells #[.int .i64 0, .int .i64 0] 27 (0, 0)) := by rw [hw0]; exact Array.getElem?_push_size
  have b0 : Below w.heap.size w w0 := by rw [hw0]; exact (Below.refl _ _).alloc (Nat.le_refl _) _
  have f0 := Bld.fresh w0
  rw [z0] at f0
  have hfb : Below (w.heap.size + 1) w0 (w0.alloc (.cells #[.pointer none, .slice none 0 0] 39)) := (Below.refl _ _).alloc (by omega) _
  rw [hw0] at f0 hfb
  replace f0 := Lib.hid f0
  replace hfb := Lib.hid hfb
  go_enter Try.func10, Try.ntmps10
  go_wp2_with fail
  go_loopg [5] q.size (fun g a wr => ∃ (j : Nat) (x : ByteArray), Hid (Bld (w.heap.size + 1) (w.heap.size + 1) x wr) ∧ Hid (Below (w.heap.size + 1) w0 wr) ∧ a = .int .i64 j ∧ j + g = q.size ∧ x.size ≤ 4 * j ∧ Hid (usF q j x = V))
  case atStart => exact ⟨0, ByteArray.empty, f0, hw0 ▸ hfb, by go_num, by omega, by show 0 ≤ _; omega, Lib.hid hV⟩
  case round =>
    obtain ⟨j, x, bB, bel, rfl, c1, c2, c3⟩ := hrel
    have e := c3.out
    clear c3 f0 hfb hV
    have hsz := bel.out.size
    have hsz' : w.heap.size + 1 ≤ wr.heap.size := by omega
    have fin : ∀ W : World, Below (w.heap.size + 1) w0 W → W.cell? ⟨w.heap.size, 0, none⟩ = some (.int .i64 0) ∧ W.cell? ⟨w.heap.size, 1, none⟩ = some (.int .i64 0) ∧ W.frozen? ⟨w.heap.size, 0, none⟩ = false ∧ W.frozen? ⟨w.heap.size, 1, none⟩ = false ∧ Below w.heap.size w W := fun W hW => by
      have hh : W.heap[w.heap.size]? = some (.cells #[.int .i64 0, .int .i64 0] 27 (0, 0)) := by rw [hW.block _ (by omega)]; exact h0
      exact ⟨by rw [Lib.cell_of_heap hh]; rfl, by rw [Lib.cell_of_heap hh]; rfl, Lib.frozen_of_heap hh 0, Lib.frozen_of_heap hh 1, b0.trans (hW.mono (by omega))⟩
    replace fin := Lib.hid fin
    clear h0 b0
    by_cases hj : j < q.size
    · rw [usF_step x hj] at e
      have hb := und_bd q j hj
      have cD := fun (W : World) R hR => sden_calls q j hj W (by omega) R hR
      generalize undU q j = d at *
      obtain ⟨E, p, n⟩ := d
      simp only at e hb cD
      replace cD := Lib.hid cD
      by_cases hE : E ≠ 0
      · rw [if_pos hE] at e
        rw [← e] at hR
        have hE' : (E == 0) = false := by simpa using hE
        have hE2 : (E != 0) = true := by simpa using hE
        clear hb
        go_wp2_with fail
        refine cD.out _ _ (Lib.hid fun w3 n3 => ?_)
        replace n3 := bel.out.trans (n3.mono hsz')
        obtain ⟨c0, c1, g0, g1, n4⟩ := fin.out w3 n3
        clear fin n3
        go_wp2_with fail
        refine bodyPost_ret ?_ rfl (hR.out _ ((n4.setCell (p := ⟨w.heap.size, 0, none⟩) (Nat.le_refl _) _).setCell (p := ⟨w.heap.size, 1, none⟩) (Nat.le_refl _) _))
        simp [results, Try.results10, go_sem, un_emp, c0, c1]
      · rw [if_neg hE] at e
        have hE0 : E = 0 := by omega
        subst hE0
        have hn1 : 1 ≤ n ∧ j + n ≤ q.size ∧ p.size ≤ 4 := ⟨hb.2.2.2.1 rfl, hb.2.2.1, hb.2.2.2.2.2⟩
        clear hb hE fin
        replace e := Lib.hid e
        go_wp2_with fail
        refine cD.out _ _ (Lib.hid fun w3 n3 => ?_)
        have bB3 := bB.out.below n3
        replace n3 := bel.out.trans (n3.mono hsz')
        clear bel bB
        go_wp2_with fail
        refine wstr_calls (w.heap.size + 1) (w.heap.size + 1) x p _ bB3 (by omega) (by have := n3.size; omega) _ (Lib.hid fun w4 b4 n4 k4 => ?_)
        replace n4 := n3.trans n4
        go_wp2_with fail
        go_roundg (gk - n)
        case measure => omega
        case rel => exact ⟨j + n, x ++ p, Lib.hid b4, Lib.hid n4, by go_num, by omega, by rw [ByteArray.size_append]; omega, e⟩
    · rw [usF_end x (by omega)] at e
      rw [← e] at hR
      go_wp2_with fail
      refine bstr_calls (w.heap.size + 1) (w.heap.size + 1) x _ bB.out (by omega) _ (Lib.hid fun w3 b3 n3 k3 => ?_)
      replace n3 := bel.out.trans n3
      obtain ⟨c0, c1, g0, g1, n4⟩ := fin.out w3 n3
      clear fin n3 k3 b3
      go_wp2_with fail
      refine bodyPost_ret ?_ rfl (hR.out _ ((n4.setCell (p := ⟨w.heap.size, 0, none⟩) (Nat.le_refl _) _).setCell (p := ⟨w.heap.size, 1, none⟩) (Nat.le_refl _) _))
      simp [results, Try.results10, go_sem, un_emp, c0, c1]

theorem lives6_calls (w : World) (R : Ending → World → Prop) (hR : Hid (∀ w', Below w.heap.size w w' → R (.returned (.bool true)) w')) : Calls Try.prog 6 #[] w R := by
  have e1 : scrubS ⟨#[10, 27, 10]⟩ = ⟨#[10, 92, 117, 123, 49, 98, 125, 10]⟩ := by
    have k : kindS 27 = 1 := by decide +kernel
    have d1 : decS ⟨#[10, 27, 10]⟩ (1 : Nat) = (27, 1, true) := by decide +kernel
    have h27 : hexB 27 = ⟨#[49, 98]⟩ := by rw [hexB_ge (by decide), hexB_lt (by decide)]; decide
    have u0 : scU ⟨#[10, 27, 10]⟩ 0 = (⟨#[10]⟩, 1) := by unfold scU; rw [if_pos (by decide)]; decide
    have u2 : scU ⟨#[10, 27, 10]⟩ 2 = (⟨#[10]⟩, 1) := by unfold scU; rw [if_pos (by decide)]; decide
    have u1 : scU ⟨#[10, 27, 10]⟩ 1 = (⟨#[92, 117, 123, 49, 98, 125]⟩, 1) := by
      unfold scU
      rw [if_neg (by decide)]
      unfold unS wrU
      rw [d1, if_pos rfl, if_neg (by decide), if_neg (by decide), if_neg (by decide), if_neg (by decide), if_pos (by rw [k]; decide)]
      rw [show (27 : Int).toNat = 27 from rfl, h27]
      decide
    unfold scrubS
    rw [scF_step (by decide), u0]
    simp only [Nat.zero_add]
    rw [scF_step (by decide), u1]
    simp only [Nat.reduceAdd]
    rw [scF_step (by decide), u2, scF_end (by decide)]
    decide
  have e2 : firS ⟨#[27]⟩ = 0 := by
    unfold firS
    rw [firF_step (by decide), if_neg]
    unfold badU
    rw [show decS ⟨#[27]⟩ (0 : Nat) = (27, 1, true) by decide +kernel]
    decide +kernel
  have e3 : firS ⟨#[97, 10]⟩ = 2 := by
    unfold firS
    have d0 : decS ⟨#[97, 10]⟩ (0 : Nat) = (97, 1, true) := by decide +kernel
    have d1 : decS ⟨#[97, 10]⟩ (1 : Nat) = (10, 1, true) := by decide +kernel
    rw [firF_step (by decide), if_pos (by unfold badU; rw [d0]; decide +kernel), d0]
    show firF _ (0 + 1) = 2
    rw [Nat.zero_add, firF_step (by decide), if_pos (by unfold badU; rw [d1]; decide +kernel), d1]
    exact firF_end (by decide)
  have c1 := fun (W : World) R hR => scrub_calls ⟨#[10, 27, 10]⟩ W (by decide) R hR
  have c2 := fun (W : World) R hR => sis_calls ⟨#[27]⟩ W (by decide) R hR
  have c3 := fun (W : World) R hR => sis_calls ⟨#[97, 10]⟩ W (by decide) R hR
  rw [e1] at c1
  rw [e2, decide_eq_false (by decide)] at c2
  rw [e3, decide_eq_true (by decide)] at c3
  replace c1 := Lib.hid c1
  replace c2 := Lib.hid c2
  replace c3 := Lib.hid c3
  clear e1 e2 e3
  go_enter Try.func6, Try.ntmps6
  go_wp2_with fail
  refine c1.out _ _ (Lib.hid fun w1 n1 => ?_)
  go_wp2_with fail
  refine c2.out _ _ (Lib.hid fun w2 n2 => ?_)
  replace n2 := n1.trans (n2.mono n1.size)
  go_wp2_with fail
  refine c3.out _ _ (Lib.hid fun w3 n3 => ?_)
  replace n3 := n2.trans (n3.mono n2.size)
  go_wp2_with fail
  exact hR.out _ n3
end Go.Proofs.Ytikcblnemdbjnaa.Saf
