/- Layer 14: the law CursorPlays walked. -/
import Derived.Test.YtmchgimbfdeaiaaGreatZCurV
set_option maxRecDepth 100000
set_option linter.unusedVariables false
namespace Go.Proofs.YtmchgimbfdeaiaaGreat.Cur
open Go.RowKit Go.Lib Go.Proofs.YtmchgimbfdeaiaaGreat.Utf Go.Proofs.YtmchgimbfdeaiaaGreat.Tok

set_option maxRecDepth 100000 in
set_option maxHeartbeats 8000000 in
theorem plays14_walk (s : ByteArray) (hs : s.size ≤ maxLen) (ops : List Oc) (vo : Value) (w : World) (ho : RdO w vo ops) (R : Ending → World → Prop)
    (hR : Hid (∀ w', Below w.heap.size w w' → R (.returned (.bool true)) w')) : Calls Tryz.prog 3 #[.string s, vo] w R := by
  obtain ⟨Ao, co, rfl, hlo, hro⟩ := ho.op
  replace hro := Lib.hid hro
  clear ho
  by_cases hbig : 1000 < s.size
  · go_enter Tryz.func3, Tryz.ntmps3
    go_wp2_with fail
    refine lives14_calls _ _ (Lib.hid fun w6 n6 => ?_)
    go_wp2_with fail
    exact hR.out _ n6
  by_cases hbig2 : 200 < ops.length
  · go_enter Tryz.func3, Tryz.ntmps3
    go_wp2_with fail
    refine lives14_calls _ _ (Lib.hid fun w6 n6 => ?_)
    go_wp2_with fail
    exact hR.out _ n6
  have hs1 : s.size ≤ 1000 := by omega
  have hd1 : decide (1000 < s.size) = false := decide_eq_false hbig
  have hd2 : decide (200 < ops.length) = false := decide_eq_false hbig2
  rcases scn_two s with ⟨l, h1, h2, h3⟩ | ⟨e, z, h1, h2, h3, h4⟩
  · have hV : scnI s 0 false = (some l, 0, 0) := by unfold scnS at h1; rw [if_neg (by omega)] at h1; exact h1
    have hll := scn_len _ 0 false l _ (Nat.le_refl _) (Nat.zero_le _) hV
    have hE := endL_scn l 0 (Nat.zero_le _) hV
    have cN1 := Lib.hid fun (W : World) (R : Ending → World → Prop) (hR : Hid (∀ p w', W.heap.size ≤ p → CurP w' p (l, 0, 0, 0) → Below W.heap.size W w' → R (.returned (.tuple #[ptV p, .agg #[.int .i64 0, .int .i64 0]])) w')) => curnew_calls s hs W R (Lib.hid fun l' p w' q hp cp nb => by
      rw [h1] at q
      simp only [Prod.mk.injEq, Option.some.injEq, and_true] at q
      subst q
      exact hR.out p w' hp cp nb) (Lib.hid fun e z w' q _ => by rw [h1] at q; simp at q)
    have cS1 := Lib.hid fun (W : World) (R : Ending → World → Prop) (hR : Hid (∀ v w', RdK w' v l → Below W.heap.size W w' → R (.returned (.tuple #[v, .agg #[.int .i64 0, .int .i64 0]])) w')) => refscan13_calls s hs W R (Lib.hid fun l' v w' q rd _ nb => by
      rw [h1] at q
      simp only [Prod.mk.injEq, Option.some.injEq, and_true] at q
      subst q
      exact hR.out v w' rd nb) (Lib.hid fun e z w' q _ => by rw [h1] at q; simp at q)
    replace hE := Lib.hid hE
    clear h1 h2 h3 hs hV
    go_enter Tryz.func3, Tryz.ntmps3
    go_wp2_with fail
    refine cN1.out _ _ (Lib.hid fun p w1 hp cp n1 => ?_)
    have bA := (Below.refl w1.heap.size w1).alloc (Nat.le_refl _) (.cells #[.int .i64 0, .int .i64 0] 27)
    obtain ⟨k0, k1⟩ := box_two' w1 (.int .i64 0) (.int .i64 0) 27
    have n2 := n1.trans (bA.mono n1.size)
    have cp2 := cp.below bA
    have hB1 : w1.heap.size < (w1.alloc (.cells #[.int .i64 0, .int .i64 0] 27)).heap.size := by simp
    have hpl : p < w1.heap.size := cp.lt
    replace n2 := Lib.hid n2
    replace cp2 := Lib.hid cp2
    clear n1 bA cp cN1
    go_wp2_with fail
    generalize w1.alloc (.cells #[.int .i64 0, .int .i64 0] 27) = W2 at *
    generalize w1.heap.size = B1 at *
    refine cS1.out _ _ (Lib.hid fun v w3 rd n3 => ?_)
    obtain ⟨Av, cv, rfl, -, -⟩ := rd.op
    have bC := (Below.refl w3.heap.size w3).alloc (Nat.le_refl _) (.cells #[.int .i64 0, .int .i64 0] 27)
    obtain ⟨m0, m1⟩ := box_two' w3 (.int .i64 0) (.int .i64 0) 27
    have nA := n3.trans (bC.mono n3.size)
    have n4 := n2.out.trans (nA.mono n2.out.size)
    have cp4 := cp2.out.below nA
    have rd4 := rd.below bC
    replace k0 := (nA.cell (p := ⟨B1, 0, none⟩) hB1).trans k0
    replace k1 := (nA.cell (p := ⟨B1, 1, none⟩) hB1).trans k1
    have hsz4 := n4.size
    replace n4 := Lib.hid n4
    replace cp4 := Lib.hid cp4
    replace rd4 := Lib.hid rd4
    clear n2 n3 bC nA cp2 rd cS1
    go_wp2_with fail
    have hM : (w3.alloc (.cells #[.int .i64 0, .int .i64 0] 27)).heap.size = w3.heap.size + 1 := by simp
    have hC := heap_alloc_new (w3.alloc (.cells #[.int .i64 0, .int .i64 0] 27)) (.cells #[.slice Av l.length cv, .int .i64 0, .int .i64 0, .int .i64 0] 34)
    rw [hM] at hC
    have bM := (Below.refl (w3.alloc (.cells #[.int .i64 0, .int .i64 0] 27)).heap.size (w3.alloc (.cells #[.int .i64 0, .int .i64 0] 27))).alloc (Nat.le_refl _) (.cells #[.slice Av l.length cv, .int .i64 0, .int .i64 0, .int .i64 0] 34)
    have n5 := n4.out.trans (bM.mono n4.out.size)
    have cp5 := cp4.out.below bM
    have rd5 := rd4.out.below bM
    have hpM : p < w3.heap.size + 1 := by have := cp4.out.lt; omega
    have hs5 := n5.size
    have hM0 : w.heap.size ≤ w3.heap.size + 1 := by omega
    clear n4 cp4 rd4 m0 m1 k0 k1 bM hsz4 hM
    generalize (w3.alloc (.cells #[.int .i64 0, .int .i64 0] 27)).alloc (.cells #[.slice Av l.length cv, .int .i64 0, .int .i64 0, .int .i64 0] 34) = W5 at *
    generalize w3.heap.size + 1 = M at *
    obtain ⟨b0, cp5⟩ := cp5
    have i5 := Lib.hid (show EndL l ∧ l.length ≤ 1000000 ∧ (0 : Int) ≤ 0 ∧ (0 : Int) ≤ 24 from ⟨hE.out, by omega, by decide, by decide⟩)
    replace n5 := Lib.hid n5
    replace cp5 := Lib.hid cp5
    replace rd5 := Lib.hid rd5
    replace hC := Lib.hid hC
    clear hE
    go_loopg [10, 11] ops.length (fun g fine i wr => ∃ (K : Nat) (c : Cu) (v : Value) (b : Nat), fine = .bool true ∧ i = .int .i64 K ∧ K + g = ops.length ∧ w.heap.size ≤ wr.heap.size ∧ Hid (Below w.heap.size w wr) ∧ Hid (CurG wr p c b) ∧ Hid (RdK wr v c.1) ∧ Hid (wr.heap[M]? = some (.cells #[v, .int .i64 c.2.1, .int .i64 c.2.2.1, .int .i64 c.2.2.2] 34)) ∧ Hid (EndL c.1 ∧ c.1.length ≤ 1000000 ∧ 0 ≤ c.2.1 ∧ c.2.1 ≤ 24))
    case atStart => exact ⟨0, (l, 0, 0, 0), .slice Av l.length cv, b0, rfl, rfl, by omega, hs5, n5, cp5, rd5, hC, i5⟩
    case round =>
      clear n5 cp5 rd5 hC i5 hs5
      obtain ⟨K, c, v, b, rfl, rfl, b4, b5, nb, cp, rd, hm, inv⟩ := hrel
      by_cases hK : K < ops.length
      · obtain ⟨g, o, rfl, hg, hca⟩ := hro.out (by omega)
        obtain ⟨x0, x1, x2, x3⟩ := hca K hK
        have z0 := (nb.out.cell (p := ⟨g, o + K * 4, none⟩) hg).trans x0
        have z1 := (nb.out.cell (p := ⟨g, o + K * 4 + 1, none⟩) hg).trans x1
        have z2 := (nb.out.cell (p := ⟨g, o + K * 4 + 2, none⟩) hg).trans x2
        have z3 := (nb.out.cell (p := ⟨g, o + K * 4 + 3, none⟩) hg).trans x3
        have i0 : (0 : Int) ≤ (K : Int) := by omega
        have i1 : (K : Int) < (ops.length : Int) := by omega
        clear hca x0 x1 x2 x3
        generalize oN ops K = x at *
        obtain ⟨o0, o1, o2, o3⟩ := x
        simp only at z0 z1 z2 z3
        obtain ⟨hE, hl, hd⟩ := inv.out
        have gW : Below wr.heap.size wr (wr.drewN 1) := ⟨rfl, rfl, rfl, Nat.le_refl _, fun _ _ => rfl⟩
        have hMl : M < wr.heap.size := by
          have h := hm.out
          rcases Nat.lt_or_ge M wr.heap.size with q | q
          · exact q
          · rw [Array.getElem?_eq_none q] at h; cases h
        have hpl2 := cp.out.lt
        obtain ⟨o', k', hpc, -⟩ := cp.out.op
        have y0 := fun y : GW wr p M => y.cell (by omega) (by omega) (by omega) z0
        have y1 := fun y : GW wr p M => y.cell (by omega) (by omega) (by omega) z1
        have y2 := fun y : GW wr p M => y.cell (by omega) (by omega) (by omega) z2
        have y3 := fun y : GW wr p M => y.cell (by omega) (by omega) (by omega) z3
        obtain ⟨k0, k1, k2, k3⟩ := four_of hm.out
        have cp6 := Lib.hid (cp.out.all gW)
        have rd6 := Lib.hid (rd_cut4 (q := p) (rd.out.below gW) hE (by simp) (show (wr.drewN 1).heap[p]? = _ from hpc))
        have okd := Lib.hid (okd_do (o0, o1, o2, o3) hE hd)
        clear z0 z1 z2 z3 hpc cp rd
        go_wp2_with fail
        refine wp_region_mixG p M [([0, 2, 3, 4, 5], 1), ([], 6), ([7, 8, 9], 10)] [11] (by kernel_rfl) (by kernel_rfl) (by kernel_rfl) (by kernel_rfl) (fun _ _ d _ _ h => by cases d <;> exact h) ?_
        refine mix_cons (os := [_, _, _, _, _]) (by simp only [pickO, List.filterMap_cons, List.filterMap_nil, List.getElem?_toArray, List.getElem?_cons_succ, List.getElem?_cons_zero]; rfl) (fun Kp hKp => ?_)
        repeat (go_big_quiet_step (exact rfl))
        refine wpQuiet_nil ?_
        refine hKp _ ?_
        clear hKp
        refine loud (by rfl) (by kernel_rfl) (fun K1 hK1 => ?_)
        go_simp
        refine hK1 _ _ (GW.of _ (grown_bl gW (Nat.le_refl _))) ?_
        clear hK1 k0 k1 k2 k3 y0 y1 y2 y3
        refine mix_cons (os := []) (by rfl) (fun Kp hKp => ?_)
        repeat (go_big_quiet_step (exact rfl))
        refine wpQuiet_nil ?_
        refine hKp _ ?_
        clear hKp
        refine loud (by rfl) (by kernel_rfl) (fun K2 hK2 => ?_)
        go_simp
        refine doS_calls c v p (o0, o1, o2, o3) _ b cp6.out rd6.out hE hl hd _ (Lib.hid fun v5 w5 b5' r5 hb5 c5 g5 => ?_)
        have gW5 := grown_tr (grown_bl gW (Nat.le_refl _)) g5
        have r6 := (rd_uncut r5 hpl2 g5).1
        have hm5 := (gW5.block M hMl (by simp; omega)).trans hm.out
        obtain ⟨e1, e2, e3, e4⟩ := okd.out
        generalize doS c (o0, o1, o2, o3) = c' at *
        obtain ⟨A5, e5, rfl, -, -⟩ := r6.op
        have hbM := c5.apart (q := M) (by simp) hm5
        have hp5 := c5.lt
        replace r6 := Lib.hid r6
        replace c5 := Lib.hid c5
        refine hK2 _ _ (GW.of _ gW5) ?_
        clear hK2 r5 hb5 g5 cp6 rd6
        refine mix_cons (os := [_, _, _]) (by simp only [pickO, List.filterMap_cons, List.filterMap_nil, List.getElem?_toArray, List.getElem?_cons_succ, List.getElem?_cons_zero]; rfl) (fun Kp hKp => ?_)
        repeat (go_big_quiet_step (exact rfl))
        refine wpQuiet_nil ?_
        refine hKp _ ?_
        clear hKp
        refine loud (by rfl) (by kernel_rfl) (fun K3 hK3 => ?_)
        obtain ⟨k0, k1, k2, k3⟩ := four_of hm5
        obtain ⟨f0, f1, f2, f3, -⟩ := fz hm5
        go_simp
        refine hK3 _ _ (GW.four (GW.of _ gW5) _ _ _ _) ?_
        clear hK3
        refine mix_nil (os := [_]) (by simp only [pickO, List.filterMap_cons, List.filterMap_nil, List.getElem?_toArray, List.getElem?_cons_succ, List.getElem?_cons_zero]; rfl) (fun Kp hKp => ?_)
        repeat (go_big_quiet_step (exact rfl))
        refine wpQuiet_nil ?_
        refine hKp _ ?_
        clear hKp
        have cV := c5.out.four (q := M) (by omega) hbM (.slice A5 c'.1.length e5) (.int .i64 c'.2.1) (.int .i64 c'.2.2.1) (.int .i64 c'.2.2.2)
        have rV := rd_four r6.out e1 (by simp) hm5 (.slice A5 c'.1.length e5) (.int .i64 c'.2.1) (.int .i64 c'.2.2.1) (.int .i64 c'.2.2.2)
        have hmV := set_at (set_at (set_at (set_at hm5 0 (.slice A5 c'.1.length e5)) 1 (.int .i64 c'.2.1)) 2 (.int .i64 c'.2.2.1)) 3 (.int .i64 c'.2.2.2)
        have bV := (nb.out.trans (grown_b gW5 b5 hp)).trans (below_four hM0 (.slice A5 c'.1.length e5) (.int .i64 c'.2.1) (.int .i64 c'.2.2.1) (.int .i64 c'.2.2.2))
        have hMV : M < ((((w5.setCell ⟨M, 0, none⟩ (.slice A5 c'.1.length e5)).setCell ⟨M, 1, none⟩ (.int .i64 c'.2.1)).setCell ⟨M, 2, none⟩ (.int .i64 c'.2.2.1)).setCell ⟨M, 3, none⟩ (.int .i64 c'.2.2.2)).heap.size := by rw [set_size, set_size, set_size, set_size]; have := gW5.size; omega
        clear k0 k1 k2 k3 f0 f1 f2 f3 hm5 c5 r6 gW5 nb hm gW okd
        replace cV := Lib.hid cV
        replace rV := Lib.hid rV
        replace bV := Lib.hid bV
        generalize (((w5.setCell ⟨M, 0, none⟩ (.slice A5 c'.1.length e5)).setCell ⟨M, 1, none⟩ (.int .i64 c'.2.1)).setCell ⟨M, 2, none⟩ (.int .i64 c'.2.2.1)).setCell ⟨M, 3, none⟩ (.int .i64 c'.2.2.2) = V at *
        have hc0 := (Lib.cell_of_heap hmV 0).trans rfl
        have hc1 := (Lib.cell_of_heap hmV 1).trans rfl
        have hc2 := (Lib.cell_of_heap hmV 2).trans rfl
        have hc3 := (Lib.cell_of_heap hmV 3).trans rfl
        have n0 := fun x : BW V => x.cell hMV hc0
        have n1 := fun x : BW V => x.cell hMV hc1
        have n2 := fun x : BW V => x.cell hMV hc2
        have n3 := fun x : BW V => x.cell hMV hc3
        obtain ⟨T, hT⟩ : ∃ T, peekS c' = T := ⟨_, rfl⟩
        obtain ⟨t0, t1, t2, t3, t4⟩ := T
        have cP := Lib.hid fun x : BW V => curpeek_calls c' p x.w ⟨_, cV.out.all x.b⟩ (fun e w' => e = .returned (.agg #[.int .i64 t0, .int .i64 t1, .int .i64 t2, .string t3, .int .i64 t4]) ∧ Below x.w.heap.size x.w w') (Lib.hid fun _ n => ⟨by rw [hT]; rfl, n⟩)
        have cQ := Lib.hid fun x : BW V => refpeek14_calls c' (.slice A5 c'.1.length e5) x.w (rV.out.below x.b) e1 (fun e w' => e = .returned (.agg #[.int .i64 t0, .int .i64 t1, .int .i64 t2, .string t3, .int .i64 t4]) ∧ Below x.w.heap.size x.w w') (Lib.hid fun _ n => ⟨by rw [hT]; rfl, n⟩)
        have cD := Lib.hid fun x : BW V => curdepth_calls c' p x.w ⟨_, cV.out.all x.b⟩ (fun e w' => e = .returned (.int .i64 c'.2.1) ∧ Below x.w.heap.size x.w w') (Lib.hid fun _ n => ⟨rfl, n⟩)
        have cF := Lib.hid fun x : BW V => curfault_calls c' p x.w ⟨_, cV.out.all x.b⟩ (fun e w' => e = .returned (.agg #[.int .i64 c'.2.2.1, .int .i64 c'.2.2.2]) ∧ Below x.w.heap.size x.w w') (Lib.hid fun _ n => ⟨rfl, n⟩)
        have i6 := Lib.hid (show EndL c'.1 ∧ c'.1.length ≤ 1000000 ∧ 0 ≤ c'.2.1 ∧ c'.2.1 ≤ 24 from ⟨e1, by omega, e3, e4⟩)
        have cX := fun x : BW V => Lib.hid (cV.out.all x.b)
        have rX := fun x : BW V => Lib.hid (rV.out.below x.b)
        have hX := fun x : BW V => Lib.hid ((x.b.block M hMV).trans hmV)
        have bX := fun x : BW V => Lib.hid (bV.out.trans (x.b.mono bV.out.size))
        clear hc0 hc1 hc2 hc3 hT hmV cV rV bV e1 e2 e3 e4 hd hE hl
        simp only [cuV] at cQ
        generalize hd2 : c'.2.2.1 = d2 at *
        generalize hd3 : c'.2.2.2 = d3 at *
        generalize hd1 : c'.2.1 = d1 at *
        generalize hln : c'.1.length = ln at *
        have sT := sq_t (rfl : t3 = t3)
        go_wp2_with fail
        refine wp_region_below_lit (by kernel_rfl) (by kernel_rfl) ?_
        repeat (go_big_quiet_step (first | (with_reducible exact calls_below (cP.out _)) | (with_reducible exact calls_below (cQ.out _)) | (with_reducible exact calls_below (cD.out _)) | (with_reducible exact calls_below (cF.out _))))
        refine wpQuiet_nil ?_
        rintro _ ⟨y, rfl⟩
        have cY := cX y
        have rY := rX y
        have hY := hX y
        have bY := bX y
        clear cX rX hX bX cP cQ cD cF n0 n1 n2 n3
        generalize y.w = wy at *
        go_wp2_with fail
        have hs9 := bY.out.size
        have hZ := Lib.hid (show wy.heap[M]? = some (.cells #[.slice A5 ln e5, .int .i64 c'.2.1, .int .i64 c'.2.2.1, .int .i64 c'.2.2.2] 34) from by rw [hd1, hd2, hd3]; exact hY.out)
        rw [← hd1, ← hln] at i6
        go_roundg (gk - 1)
        case measure => omega
        case rel => exact ⟨K + 1, c', _, b5', by go_num, by go_num, by omega, hs9, bY, cY, rY, hZ, i6⟩
      · obtain rfl : K = ops.length := by omega
        clear cp rd hm inv
        go_wp2_with fail
        refine lives14_calls _ _ (Lib.hid fun w13 n13 => ?_)
        have n14 := Lib.hid (nb.out.trans (n13.mono nb.out.size))
        clear n13 nb
        go_wp2_with fail
        exact hR.out _ n14.out
  · have cN2 := Lib.hid fun (W : World) (R : Ending → World → Prop) (hR : Hid (∀ w', Below W.heap.size W w' → R (.returned (.tuple #[.pointer none, .agg #[.int .i64 e, .int .i64 z]])) w')) => curnew_calls s hs W R (Lib.hid fun l' p w' q _ _ _ => by rw [h1] at q; simp at q) (Lib.hid fun e' z' w' q nb => by
      rw [h1] at q
      simp only [Prod.mk.injEq, true_and] at q
      obtain ⟨rfl, rfl⟩ := q
      exact hR.out w' nb)
    have cS2 := Lib.hid fun (W : World) (R : Ending → World → Prop) (hR : Hid (∀ w', Below W.heap.size W w' → R (.returned (.tuple #[.slice none 0 0, .agg #[.int .i64 e, .int .i64 z]])) w')) => refscan13_calls s hs W R (Lib.hid fun l' v w' q _ _ _ => by rw [h1] at q; simp at q) (Lib.hid fun e' z' w' q nb => by
      rw [h1] at q
      simp only [Prod.mk.injEq, true_and] at q
      obtain ⟨rfl, rfl⟩ := q
      exact hR.out w' nb)
    have q1 : (e != 0) = true := by simpa using h2
    clear h1 h2 h3 h4 hs
    go_enter Tryz.func3, Tryz.ntmps3
    go_wp2_with fail
    refine cN2.out _ _ (Lib.hid fun w1 n1 => ?_)
    have bA := (Below.refl w1.heap.size w1).alloc (Nat.le_refl _) (.cells #[.int .i64 e, .int .i64 z] 27)
    obtain ⟨k0, k1⟩ := box_two' w1 (.int .i64 e) (.int .i64 z) 27
    have n2 := n1.trans (bA.mono n1.size)
    have hB1 : w1.heap.size < (w1.alloc (.cells #[.int .i64 e, .int .i64 z] 27)).heap.size := by simp
    replace n2 := Lib.hid n2
    clear n1 bA cN2
    go_wp2_with fail
    generalize w1.alloc (.cells #[.int .i64 e, .int .i64 z] 27) = W2 at *
    generalize w1.heap.size = B1 at *
    refine cS2.out _ _ (Lib.hid fun w3 n3 => ?_)
    have bC := (Below.refl w3.heap.size w3).alloc (Nat.le_refl _) (.cells #[.int .i64 e, .int .i64 z] 27)
    obtain ⟨m0, m1⟩ := box_two' w3 (.int .i64 e) (.int .i64 z) 27
    have nA := n3.trans (bC.mono n3.size)
    have n4 := n2.out.trans (nA.mono n2.out.size)
    replace k0 := (nA.cell (p := ⟨B1, 0, none⟩) hB1).trans k0
    replace k1 := (nA.cell (p := ⟨B1, 1, none⟩) hB1).trans k1
    replace n4 := Lib.hid n4
    clear n2 n3 bC nA cS2
    go_wp2_with fail
    refine lives14_calls _ _ (Lib.hid fun w6 n6 => ?_)
    have fin := Lib.hid (hR.out _ (n4.out.trans (n6.mono n4.out.size)))
    clear n6 n4 hR
    go_wp2_with fail
    exact fin.out
end Go.Proofs.YtmchgimbfdeaiaaGreat.Cur
