import Derived.Test.YtncijmodlhijoaaGreatQ35
set_option linter.unusedVariables false
set_option maxRecDepth 100000
set_option maxHeartbeats 4000000
namespace Go.Proofs.YtncijmodlhijoaaGreat.Esc
open Go.RowKit Go.Lib Utf Ran Cel Bld
theorem denoted_calls (q : ByteArray) (k : Nat) (hk : k < q.size) (w : World) (hs : q.size ≤ 1000000) (R : Ending → World → Prop)
  (hR : Hid (∀ w', Below w.heap.size w w' → R (.returned (.tuple #[.string (denS q k).2.1, .int .i64 ((denS q k).2.2 : Nat), .int .i64 (denS q k).1])) w')) :
  Calls Tryz.prog 319 #[.string q, .int .i64 k] w R := by
 have hb := byN_lt q k
 have hg := byN_get q k hk
 unfold denS at hR
 by_cases h92 : byN q k = 92
 ·rw [if_pos h92] at hR
  have cO := fun (W : World) R hR => one_calls q k W hs R hR
  have hP : oneP q k = if (q.size : Int) ≤ k + 1 then ([], 0) else oneL ((bl q).drop k) := by
   unfold oneP; split <;> split <;> first | rfl | omega
  have hP2 : oneP q k = oneL ((bl q).drop k) := by
   rw [hP]
   split
   ·rw [bl_drop hk, List.drop_eq_nil_of_le (by rw [bl_length]; omega)]; rfl
   ·rfl
  rw [hP2] at cO
  clear hP hP2
  generalize oneL ((bl q).drop k) = p at *
  rw [h92] at hg
  clear h92
  by_cases h0 : p.2 = 0
  ·rw [if_pos h0] at hR
   unfold oneT at cO
   rw [decide_eq_false (by omega)] at cO
   replace cO := Lib.hid cO
   go_enter Tryz.func319, Tryz.ntmps319
   go_wp2_with fail
   refine cO.out _ _ (Lib.hid fun w1 n1 => ?_)
   go_wp2_with fail
   go_ret3
   exact hR.out _ n1
  ·rw [if_neg h0] at hR
   unfold oneT at cO
   rw [decide_eq_true h0] at cO
   replace cO := Lib.hid cO
   go_enter Tryz.func319, Tryz.ntmps319
   go_wp2_with fail
   refine cO.out _ _ (Lib.hid fun w1 n1 => ?_)
   go_wp2_with fail
   go_ret3
   exact hR.out _ n1
 ·rw [if_neg h92] at hR
  have b1 : ((byN q k : Int) == 92) = false := by simp; omega
  have hd := decS_spec q k hk
  have hok : (decS q k).2.2 = true → 0 ≤ (decS q k).1 ∧ (decS q k).1 ≤ 1114111 := fun h => by
   have := (dec_ok hk h).1
   unfold scalarB at this
   simp only [decide_eq_true_eq] at this
   omega
  have c1 := fun (W : World) R hR => dec_calls q k W (by unfold maxLen; omega) R hR
  generalize decS q k = d at *
  generalize byN q k = c at *
  obtain ⟨r, n, ok⟩ := d
  simp only at hd hR c1 hok
  replace c1 := Lib.hid c1
  cases ok
  ·rw [if_pos rfl] at hR
   clear hok
   go_enter Tryz.func319, Tryz.ntmps319
   go_wp2_with fail
   refine c1.out _ _ (Lib.hid fun q1 => ?_)
   have n1 : Below w.heap.size w (w.drewN q1) := bdq (Below.refl w.heap.size w) q1
   generalize w.drewN q1 = w1 at *
   go_wp2_with fail
   go_ret3
   exact hR.out _ n1
  ·rw [if_neg (by decide)] at hR
   obtain ⟨m, rfl⟩ : ∃ m : Nat, n = m := ⟨n.toNat, by omega⟩
   rw [Int.toNat_natCast] at hR
   have hm1 : (k : Int) + m ≤ q.size := by omega
   have cU := fun (W : World) R hR => isUnsafe_calls r W R hR
   by_cases h6 : kindS r ≠ 0
   ·rw [if_pos h6] at hR
    rw [decide_eq_true h6] at cU
    clear h6 hok
    replace cU := Lib.hid cU
    go_enter Tryz.func319, Tryz.ntmps319
    go_wp2_with fail
    refine c1.out _ _ (Lib.hid fun q1 => ?_)
    have n1 : Below w.heap.size w (w.drewN q1) := bdq (Below.refl w.heap.size w) q1
    generalize w.drewN q1 = w1 at *
    go_wp2_with fail
    refine cU.out _ _ (Lib.hid fun w2 n2 => ?_)
    replace n2 := n1.trans (n2.mono n1.size)
    go_wp2_with fail
    go_ret3
    exact hR.out _ n2
   ·rw [if_neg h6] at hR
    rw [decide_eq_false h6] at cU
    clear h6 hok
    replace cU := Lib.hid cU
    go_enter Tryz.func319, Tryz.ntmps319
    go_wp2_with fail
    refine c1.out _ _ (Lib.hid fun q1 => ?_)
    have n1 : Below w.heap.size w (w.drewN q1) := bdq (Below.refl w.heap.size w) q1
    generalize w.drewN q1 = w1 at *
    go_wp2_with fail
    refine cU.out _ _ (Lib.hid fun w2 n2 => ?_)
    replace n2 := n1.trans (n2.mono n1.size)
    go_wp2_with fail
    go_ret3
    exact hR.out _ n2
abbrev unqT (p : ByteArray × Int × Int × Int) : Value := .tuple #[.string p.1, .int .i64 p.2.1, .agg #[.int .i64 p.2.2.1, .int .i64 p.2.2.2]]
theorem un_emp : (⟨#[]⟩ : ByteArray) = ByteArray.empty := rfl
theorem unquote_calls (q : ByteArray) (i : Int) (w : World) (hs : q.size ≤ 100000) (R : Ending → World → Prop)
  (hR : Hid (∀ w', Below w.heap.size w w' → R (.returned (unqT (unqS q i))) w')) : Calls Tryz.prog 276 #[.string q, .int .i64 i] w R := by
 unfold unqS at hR
 by_cases h1 : i < 0 ∨ (q.size : Int) < i
 ·rw [if_pos h1] at hR
  by_cases h : i < 0
  ·go_enter Tryz.func276, Tryz.ntmps276
   go_wp2_with fail
   refine bodyPost_ret ?_ rfl (hR.out _ ((Below.refl _ _).alloc (Nat.le_refl _) _))
   simp [results, Tryz.results276, go_sem, un_emp]
  ·have h2 : (q.size : Int) < i := by omega
   go_enter Tryz.func276, Tryz.ntmps276
   go_wp2_with fail
   refine bodyPost_ret ?_ rfl (hR.out _ ((Below.refl _ _).alloc (Nat.le_refl _) _))
   simp [results, Tryz.results276, go_sem, un_emp]
 rw [if_neg h1] at hR
 obtain ⟨k, rfl⟩ : ∃ k : Nat, i = k := ⟨i.toNat, by omega⟩
 rw [Int.toNat_natCast] at hR
 by_cases h2 : k = q.size
 ·rw [if_pos (by omega)] at hR
  subst h2
  clear h1
  go_enter Tryz.func276, Tryz.ntmps276
  go_wp2_with fail
  refine bodyPost_ret ?_ rfl (hR.out _ ((Below.refl _ _).alloc (Nat.le_refl _) _))
  simp [results, Tryz.results276, go_sem, un_emp]
 rw [if_neg (by omega)] at hR
 have hk : k < q.size := by omega
 have hk1 : ¬ (q.size : Int) < k := by omega
 have hk2 : ((k : Int) == (q.size : Int)) = false := by simp; omega
 have hb := byN_lt q k
 have hg := byN_get q k hk
 clear h1 h2
 by_cases h3 : byN q k = 34
 ·rw [if_neg (by omega)] at hR
  rw [h3] at hg
  clear h3 hb
  obtain ⟨V, hV⟩ : ∃ V, unqF q (k + 1) ByteArray.empty = V := ⟨_, rfl⟩
  rw [hV] at hR
  obtain ⟨w0, hw0⟩ : ∃ w0, w0 = w.alloc (.cells #[.int .i64 0, .int .i64 0] 35) := ⟨_, rfl⟩
  have z0 : w0.heap.size = w.heap.size + 1 := by rw [hw0]; simp
  have h0 : w0.heap[w.heap.size]? = some (.cells #[.int .i64 0, .int .i64 0] 35 (0, 0)) := by rw [hw0]; exact Array.getElem?_push_size
  have b0 : Below w.heap.size w w0 := by rw [hw0]; exact (Below.refl _ _).alloc (Nat.le_refl _) _
  have f0 := Bld.fresh w0
  rw [z0] at f0
  have hfb : Below (w.heap.size + 1) w0 (w0.alloc (.cells #[.pointer none, .slice none 0 0] 163)) := (Below.refl _ _).alloc (by omega) _
  rw [hw0] at f0 hfb
  replace f0 := Lib.hid f0
  replace hfb := Lib.hid hfb
  go_enter Tryz.func276, Tryz.ntmps276
  go_wp2_with fail
  go_loopg [1] (q.size - (k + 1)) (fun g a wr => ∃ (j : Nat) (x : ByteArray), Hid (Bld (w.heap.size + 1) (w.heap.size + 1) x wr) ∧ Hid (Below (w.heap.size + 1) w0 wr) ∧ a = .int .i64 j ∧ j + g = q.size ∧ x.size ≤ 4 * j ∧ Hid (unqF q j x = V))
  case atStart => exact ⟨k + 1, ByteArray.empty, f0, hw0 ▸ hfb, by go_num, by omega, by show 0 ≤ _; omega, Lib.hid hV⟩
  case round =>
   obtain ⟨j, x, bB, bel, rfl, c1, c2, c3⟩ := hrel
   have e := c3.out
   clear c3 f0 hfb
   have hsz := bel.out.size
   have hsz' : w.heap.size + 1 ≤ wr.heap.size := by omega
   have hh : wr.heap[w.heap.size]? = some (.cells #[.int .i64 0, .int .i64 0] 35 (0, 0)) := by rw [bel.out.block _ (by omega)]; exact h0
   have belw : Below w.heap.size w wr := b0.trans (bel.out.mono (by omega))
   by_cases hj : j < q.size
   ·rw [unqF_step x hj] at e
    have hg2 := byN_get q j hj
    by_cases h34 : byN q j = 34
    ·rw [if_pos h34] at e
     rw [← e] at hR
     rw [h34] at hg2
     clear h34 hh
     go_wp2_with fail
     refine bstr_calls (w.heap.size + 1) (w.heap.size + 1) x _ bB.out (by omega) _ (Lib.hid fun w3 b3 n3 k3 => ?_)
     replace n3 := bel.out.trans n3
     have hh : w3.heap[w.heap.size]? = some (.cells #[.int .i64 0, .int .i64 0] 35 (0, 0)) := by rw [n3.block _ (by omega)]; exact h0
     have c0 : w3.cell? ⟨w.heap.size, 0, none⟩ = some (.int .i64 0) := by rw [Lib.cell_of_heap hh]; rfl
     have c1 : w3.cell? ⟨w.heap.size, 1, none⟩ = some (.int .i64 0) := by rw [Lib.cell_of_heap hh]; rfl
     have g0 : w3.frozen? ⟨w.heap.size, 0, none⟩ = false := Lib.frozen_of_heap hh 0
     have g1 : w3.frozen? ⟨w.heap.size, 1, none⟩ = false := Lib.frozen_of_heap hh 1
     have n4 : Below w.heap.size w w3 := b0.trans (n3.mono (by omega))
     clear hh h0 n3 k3 b3
     go_wp2_with fail
     refine bodyPost_ret ?_ rfl (hR.out _ ((n4.setCell (p := ⟨w.heap.size, 0, none⟩) (Nat.le_refl _) _).setCell (p := ⟨w.heap.size, 1, none⟩) (Nat.le_refl _) _))
     simp [results, Tryz.results276, go_sem, c0, c1]
    ·rw [if_neg h34] at e
     have hb := den_bd q j hj
     have cD := fun (W : World) R hR => denoted_calls q j hj W (by omega) R hR
     have h34' : ((byN q j : Int) == 34) = false := by simp; omega
     have hbN := byN_lt q j
     generalize byN q j = c at *
     generalize denS q j = d at *
     obtain ⟨E, p, n⟩ := d
     simp only at e hb cD
     replace cD := Lib.hid cD
     by_cases hE : E ≠ 0
     ·rw [if_pos hE] at e
      rw [← e] at hR
      have hE' : (E == 0) = false := by simpa using hE
      have hE2 : (E != 0) = true := by simpa using hE
      clear hh
      go_wp2_with fail
      refine cD.out _ _ (Lib.hid fun w3 n3 => ?_)
      replace n3 := bel.out.trans (n3.mono hsz')
      have hh : w3.heap[w.heap.size]? = some (.cells #[.int .i64 0, .int .i64 0] 35 (0, 0)) := by rw [n3.block _ (by omega)]; exact h0
      have c0 : w3.cell? ⟨w.heap.size, 0, none⟩ = some (.int .i64 0) := by rw [Lib.cell_of_heap hh]; rfl
      have c1 : w3.cell? ⟨w.heap.size, 1, none⟩ = some (.int .i64 0) := by rw [Lib.cell_of_heap hh]; rfl
      have g0 : w3.frozen? ⟨w.heap.size, 0, none⟩ = false := Lib.frozen_of_heap hh 0
      have g1 : w3.frozen? ⟨w.heap.size, 1, none⟩ = false := Lib.frozen_of_heap hh 1
      have n4 : Below w.heap.size w w3 := b0.trans (n3.mono (by omega))
      clear hh h0 n3
      go_wp2_with fail
      refine bodyPost_ret ?_ rfl (hR.out _ ((n4.setCell (p := ⟨w.heap.size, 0, none⟩) (Nat.le_refl _) _).setCell (p := ⟨w.heap.size, 1, none⟩) (Nat.le_refl _) _))
      simp [results, Tryz.results276, go_sem, un_emp, c0, c1]
     ·rw [if_neg hE] at e
      have hE0 : E = 0 := by omega
      subst hE0
      have hn1 : 1 ≤ n ∧ j + n ≤ q.size ∧ p.size ≤ 4 := ⟨hb.2.2.2.1 rfl, hb.2.2.1, hb.2.2.2.2.2⟩
      clear hb hE hh
      replace e := Lib.hid e
      go_wp2_with fail
      refine cD.out _ _ (Lib.hid fun w3 n3 => ?_)
      have bB3 := bB.out.below n3
      replace n3 := bel.out.trans (n3.mono hsz')
      clear bel bB
      go_wp2_with fail
      refine wstr_calls (w.heap.size + 1) (w.heap.size + 1) x p _ bB3 (by omega) (by have := n3.size; omega) _ (Lib.hid fun w4 b4 n4 k4 => ?_)
      replace n4 := n3.trans n4
      go_wp2_with fail
      go_roundg (gk - n)
      case measure => omega
      case rel => exact ⟨j + n, x ++ p, Lib.hid b4, Lib.hid n4, by go_num, by omega, by rw [ByteArray.size_append]; omega, e⟩
   ·rw [unqF_end x (by omega)] at e
    rw [← e] at hR
    have hjq : j = q.size := by omega
    have c0 : wr.cell? ⟨w.heap.size, 0, none⟩ = some (.int .i64 0) := by rw [Lib.cell_of_heap hh]; rfl
    have c1 : wr.cell? ⟨w.heap.size, 1, none⟩ = some (.int .i64 0) := by rw [Lib.cell_of_heap hh]; rfl
    have g0 : wr.frozen? ⟨w.heap.size, 0, none⟩ = false := Lib.frozen_of_heap hh 0
    have g1 : wr.frozen? ⟨w.heap.size, 1, none⟩ = false := Lib.frozen_of_heap hh 1
    clear hh h0
    go_wp2_with fail
    refine bodyPost_ret ?_ rfl (hR.out _ ((belw.setCell (p := ⟨w.heap.size, 0, none⟩) (Nat.le_refl _) _).setCell (p := ⟨w.heap.size, 1, none⟩) (Nat.le_refl _) _))
    simp [results, Tryz.results276, go_sem, un_emp, c0, c1]
    try omega
 ·rw [if_pos h3] at hR
  have h4 : ((byN q k : Int) == 34) = false := by simp; omega
  have h5 : ((byN q k : Int) != 34) = true := by simp; omega
  generalize byN q k = c at *
  go_enter Tryz.func276, Tryz.ntmps276
  go_wp2_with fail
  refine bodyPost_ret ?_ rfl (hR.out _ ((Below.refl _ _).alloc (Nat.le_refl _) _))
  simp [results, Tryz.results276, go_sem, un_emp]
theorem oneP_in {q : ByteArray} {j : Nat} (hj : j < q.size) : oneP q j = oneL ((bl q).drop j) := by
 unfold oneP
 split
 ·rw [bl_drop hj, List.drop_eq_nil_of_le (by rw [bl_length]; omega)]; rfl
 ·rfl
theorem oneP_not {q : ByteArray} {j : Nat} (hj : j < q.size) (h : byN q j ≠ 92) : oneP q j = ([], 0) := by
 rw [oneP_in hj, bl_drop hj]
 by_cases h2 : j + 1 < q.size
 ·rw [bl_drop h2, oneL_other (by omega)]
 ·rw [List.drop_eq_nil_of_le (by rw [bl_length]; omega)]; rfl
theorem refunq_calls (q : ByteArray) (i : Int) (hi : -9223372036854775808 ≤ i ∧ i ≤ 9223372036854775807) (w : World) (hs : q.size ≤ 100000) (R : Ending → World → Prop)
  (hR : Hid (∀ w', Below w.heap.size w w' → R (.returned (unqT (unqS q i))) w')) : Calls Tryz.prog 241 #[.string q, .int .i64 i] w R := by
 unfold unqS at hR
 by_cases h1 : i < 0 ∨ (q.size : Int) < i
 ·rw [if_pos h1] at hR
  by_cases h : i < 0
  ·go_enter Tryz.func241, Tryz.ntmps241
   go_wp2_with fail
   refine bodyPost_ret ?_ rfl (hR.out _ ((Below.refl _ _).alloc (Nat.le_refl _) _))
   simp [results, Tryz.results241, go_sem, un_emp]
  ·have h2 : (q.size : Int) < i := by omega
   go_enter Tryz.func241, Tryz.ntmps241
   go_wp2_with fail
   refine bodyPost_ret ?_ rfl (hR.out _ ((Below.refl _ _).alloc (Nat.le_refl _) _))
   simp [results, Tryz.results241, go_sem, un_emp]
 rw [if_neg h1] at hR
 obtain ⟨k, rfl⟩ : ∃ k : Nat, i = k := ⟨i.toNat, by omega⟩
 rw [Int.toNat_natCast] at hR
 by_cases h2 : k = q.size
 ·rw [if_pos (by omega)] at hR
  subst h2
  clear h1
  have h3 : ¬ (q.size : Int) + 1 < (q.size : Int) := by omega
  go_enter Tryz.func241, Tryz.ntmps241
  go_wp2_with fail
  go_loopg [7, 8] 0 (fun g o a wr => wr = w.alloc (.cells #[.int .i64 0, .int .i64 0] 35) ∧ a = .int .i64 ((q.size : Int) + 1) ∧ g = 0)
  case atStart => exact ⟨rfl, by go_num, rfl⟩
  case round =>
   obtain ⟨rfl, rfl, rfl⟩ := hrel
   go_wp2_with fail
   refine bodyPost_ret ?_ rfl (hR.out _ ((Below.refl _ _).alloc (Nat.le_refl _) _))
   simp [results, Tryz.results241, go_sem, un_emp]
 rw [if_neg (by omega)] at hR
 have hk : k < q.size := by omega
 have hk1 : ¬ (q.size : Int) < k := by omega
 have hk2 : ((k : Int) == (q.size : Int)) = false := by simp; omega
 have hb := byN_lt q k
 have hg := byN_get q k hk
 clear h1 h2 hi
 by_cases h3 : byN q k = 34
 ·rw [if_neg (by omega)] at hR
  rw [h3] at hg
  clear h3 hb
  obtain ⟨V, hV⟩ : ∃ V, unqF q (k + 1) ByteArray.empty = V := ⟨_, rfl⟩
  rw [hV] at hR
  obtain ⟨w0, hw0⟩ : ∃ w0, w0 = w.alloc (.cells #[.int .i64 0, .int .i64 0] 35) := ⟨_, rfl⟩
  have z0 : w0.heap.size = w.heap.size + 1 := by rw [hw0]; simp
  have h0 : w0.heap[w.heap.size]? = some (.cells #[.int .i64 0, .int .i64 0] 35 (0, 0)) := by rw [hw0]; exact Array.getElem?_push_size
  have b0 : Below w.heap.size w w0 := by rw [hw0]; exact (Below.refl _ _).alloc (Nat.le_refl _) _
  go_enter Tryz.func241, Tryz.ntmps241
  go_wp2_with fail
  go_loopg [7, 8] (q.size - (k + 1)) (fun g o a wr => ∃ (j : Nat) (x : ByteArray), Hid (Below (w.heap.size + 1) w0 wr) ∧ o = .string x ∧ a = .int .i64 j ∧ j + g = q.size ∧ x.size ≤ 10 * j ∧ Hid (unqF q j x = V))
  case atStart => exact ⟨k + 1, ByteArray.empty, Lib.hid (hw0 ▸ Below.refl _ _), rfl, by go_num, by omega, by show 0 ≤ _; omega, Lib.hid hV⟩
  case round =>
   obtain ⟨j, x, bel, rfl, rfl, c1, c2, c3⟩ := hrel
   have e := c3.out
   clear c3
   have hsz := bel.out.size
   have hsz' : w.heap.size + 1 ≤ wr.heap.size := by omega
   have hh : wr.heap[w.heap.size]? = some (.cells #[.int .i64 0, .int .i64 0] 35 (0, 0)) := by rw [bel.out.block _ (by omega)]; exact h0
   have belw : Below w.heap.size w wr := b0.trans (bel.out.mono (by omega))
   have fin : ∀ W : World, Below (w.heap.size + 1) w0 W → W.cell? ⟨w.heap.size, 0, none⟩ = some (.int .i64 0) ∧ W.cell? ⟨w.heap.size, 1, none⟩ = some (.int .i64 0) ∧ W.frozen? ⟨w.heap.size, 0, none⟩ = false ∧ W.frozen? ⟨w.heap.size, 1, none⟩ = false ∧ Below w.heap.size w W := fun W hW => by
    have hh : W.heap[w.heap.size]? = some (.cells #[.int .i64 0, .int .i64 0] 35 (0, 0)) := by rw [hW.block _ (by omega)]; exact h0
    exact ⟨by rw [Lib.cell_of_heap hh]; rfl, by rw [Lib.cell_of_heap hh]; rfl, Lib.frozen_of_heap hh 0, Lib.frozen_of_heap hh 1, b0.trans (hW.mono (by omega))⟩
   replace fin := Lib.hid fin
   clear hh h0 b0
   by_cases hj : j < q.size
   ·rw [unqF_step x hj] at e
    have hg2 := byN_get q j hj
    by_cases h34 : byN q j = 34
    ·rw [if_pos h34] at e
     rw [← e] at hR
     rw [h34] at hg2
     clear h34
     obtain ⟨c0, c1, g0, g1, n4⟩ := fin.out wr bel.out
     clear fin belw
     go_wp2_with fail
     refine bodyPost_ret ?_ rfl (hR.out _ ((n4.setCell (p := ⟨w.heap.size, 0, none⟩) (Nat.le_refl _) _).setCell (p := ⟨w.heap.size, 1, none⟩) (Nat.le_refl _) _))
     simp [results, Tryz.results241, go_sem, c0, c1]
    ·rw [if_neg h34] at e
     have hbd := den_bd q j hj
     have h34' : ((byN q j : Int) == 34) = false := by simp; omega
     have hbN := byN_lt q j
     have cO := fun (W : World) R hR => refone_calls q j (by omega) W (by omega) R hR
     unfold denS at e hbd
     by_cases h92 : byN q j = 92
     ·rw [if_pos h92] at e hbd
      rw [oneP_in hj] at cO
      have hol := one_len ((bl q).drop j)
      generalize oneL ((bl q).drop j) = p at *
      obtain ⟨pl, n⟩ := p
      simp only [oneR] at cO
      simp only at e hbd hol
      rw [h92] at hg2
      clear h34' h34 h92 hbN
      by_cases hp : n = 0
      ·rw [if_pos hp] at e
       rw [if_pos (by decide)] at e
       rw [← e] at hR
       clear hbd hol e
       subst hp
       replace cO := Lib.hid cO
       go_wp2_with fail
       refine cO.out _ _ (Lib.hid fun w3 n3 => ?_)
       replace n3 := bel.out.trans (n3.mono hsz')
       obtain ⟨c0, c1, g0, g1, n4⟩ := fin.out w3 n3
       clear fin n3
       go_wp2_with fail
       refine bodyPost_ret ?_ rfl (hR.out _ ((n4.setCell (p := ⟨w.heap.size, 0, none⟩) (Nat.le_refl _) _).setCell (p := ⟨w.heap.size, 1, none⟩) (Nat.le_refl _) _))
       simp [results, Tryz.results241, go_sem, un_emp, c0, c1]
      ·rw [if_neg hp] at e hbd
       rw [if_neg (by simp)] at e
       simp only at e hbd
       have hp' : ((n : Int) == 0) = false := by simp; omega
       have hpn : ¬ (n : Int) = 0 := by omega
       have hsp : (strOfNums pl).size ≤ 4 := by rw [strOfNums_size]; exact hol.2.2.1
       have hn1 : 1 ≤ n ∧ j + n ≤ q.size := by omega
       clear hbd hol fin
       generalize strOfNums pl = y at *
       replace cO := Lib.hid cO
       replace e := Lib.hid e
       go_wp2_with fail
       refine cO.out _ _ (Lib.hid fun w3 n3 => ?_)
       replace n3 := bel.out.trans (n3.mono hsz')
       go_wp2_with fail
       go_roundg (gk - n)
       case measure => omega
       case rel => exact ⟨j + n, x ++ y, Lib.hid n3, rfl, by go_num, by omega, by rw [ByteArray.size_append]; omega, e⟩
     ·rw [if_neg h92] at e hbd
      rw [oneP_not hj h92] at cO
      have h92' : ((byN q j : Int) == 92) = false := by simp; omega
      have hd := decS_spec q j hj
      have cD := fun (W : World) R hR => refdec_calls q j W (by unfold maxLen; omega) R hR
      rw [decR_eq] at cD
      generalize decS q j = d at *
      generalize byN q j = c at *
      obtain ⟨r, n, ok⟩ := d
      simp only at hd cD e hbd
      replace cO := Lib.hid cO
      replace cD := Lib.hid cD
      clear hbN h34 h92
      cases ok
      ·rw [if_pos rfl, if_pos (by decide)] at e
       rw [← e] at hR
       clear e hbd
       go_wp2_with fail
       refine cO.out _ _ (Lib.hid fun w3 n3 => ?_)
       replace n3 := bel.out.trans (n3.mono hsz')
       go_wp2_with fail
       refine cD.out _ _ (Lib.hid fun w4 n4 => ?_)
       replace n4 := n3.trans (n4.mono (by have := n3.size; omega))
       obtain ⟨c0, c1, g0, g1, n5⟩ := fin.out w4 n4
       clear fin n4
       go_wp2_with fail
       refine bodyPost_ret ?_ rfl (hR.out _ ((n5.setCell (p := ⟨w.heap.size, 0, none⟩) (Nat.le_refl _) _).setCell (p := ⟨w.heap.size, 1, none⟩) (Nat.le_refl _) _))
       simp [results, Tryz.results241, go_sem, un_emp, c0, c1]
      ·rw [if_neg (show ¬ (true = false) by decide)] at e hbd
       obtain ⟨m, rfl⟩ : ∃ m : Nat, n = m := ⟨n.toNat, by omega⟩
       rw [Int.toNat_natCast] at e hbd
       have hm1 : (j : Int) + m ≤ q.size := by omega
       have cU := fun (W : World) R hR => refKind_calls r W R hR
       by_cases h6 : kindS r ≠ 0
       ·rw [if_pos h6, if_pos (by decide)] at e
        rw [← e] at hR
        have b6 : (kindS r == 0) = false := by simpa using h6
        have b7 : (kindS r != 0) = true := by simpa using h6
        clear e hbd h6
        generalize kindS r = K at *
        replace cU := Lib.hid cU
        go_wp2_with fail
        refine cO.out _ _ (Lib.hid fun w3 n3 => ?_)
        replace n3 := bel.out.trans (n3.mono hsz')
        go_wp2_with fail
        refine cD.out _ _ (Lib.hid fun w4 n4 => ?_)
        replace n4 := n3.trans (n4.mono (by have := n3.size; omega))
        go_wp2_with fail
        refine cU.out _ _ (Lib.hid fun w5 n5 => ?_)
        replace n5 := n4.trans (n5.mono (by have := n4.size; omega))
        obtain ⟨c0, c1, g0, g1, n6⟩ := fin.out w5 n5
        clear fin n5
        go_wp2_with fail
        refine bodyPost_ret ?_ rfl (hR.out _ ((n6.setCell (p := ⟨w.heap.size, 0, none⟩) (Nat.le_refl _) _).setCell (p := ⟨w.heap.size, 1, none⟩) (Nat.le_refl _) _))
        simp [results, Tryz.results241, go_sem, un_emp, c0, c1]
       ·rw [if_neg h6, if_neg (by simp)] at e
        have h60 : kindS r = 0 := by omega
        rw [h60] at cU
        have hm2 : 1 ≤ m ∧ m ≤ 4 := by omega
        have hpz : (q.extract j (j + m)).size ≤ 4 := by rw [ByteArray.size_extract]; omega
        clear hbd h6 h60 fin
        generalize hpe : q.extract j (j + m) = y at *
        replace cU := Lib.hid cU
        replace e := Lib.hid e
        go_wp2_with fail
        refine cO.out _ _ (Lib.hid fun w3 n3 => ?_)
        replace n3 := bel.out.trans (n3.mono hsz')
        go_wp2_with fail
        refine cD.out _ _ (Lib.hid fun w4 n4 => ?_)
        replace n4 := n3.trans (n4.mono (by have := n3.size; omega))
        go_wp2_with fail
        refine cU.out _ _ (Lib.hid fun w5 n5 => ?_)
        replace n5 := n4.trans (n5.mono (by have := n4.size; omega))
        go_wp2_with fail
        go_roundg (gk - m)
        case measure => omega
        case rel => exact ⟨j + m, x ++ y, Lib.hid n5, rfl, by go_num, by omega, by rw [ByteArray.size_append]; omega, e⟩
   ·rw [unqF_end x (by omega)] at e
    rw [← e] at hR
    have hjq : j = q.size := by omega
    obtain ⟨c0, c1, g0, g1, n4⟩ := fin.out wr bel.out
    clear fin e
    go_wp2_with fail
    refine bodyPost_ret ?_ rfl (hR.out _ ((n4.setCell (p := ⟨w.heap.size, 0, none⟩) (Nat.le_refl _) _).setCell (p := ⟨w.heap.size, 1, none⟩) (Nat.le_refl _) _))
    simp [results, Tryz.results241, go_sem, un_emp, c0, c1]
 ·rw [if_pos h3] at hR
  have h4 : ((byN q k : Int) == 34) = false := by simp; omega
  have h5 : ((byN q k : Int) != 34) = true := by simp; omega
  generalize byN q k = c at *
  go_enter Tryz.func241, Tryz.ntmps241
  go_wp2_with fail
  refine bodyPost_ret ?_ rfl (hR.out _ ((Below.refl _ _).alloc (Nat.le_refl _) _))
  simp [results, Tryz.results241, go_sem, un_emp]
end Go.Proofs.YtncijmodlhijoaaGreat.Esc
