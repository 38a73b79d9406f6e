import Derived.Test.YtbnmkbpjdelokaaGreatQ37
set_option linter.unusedVariables false
set_option maxRecDepth 100000
set_option maxHeartbeats 4000000
namespace Go.Proofs.YtbnmkbpjdelokaaGreat.Res
open Go.RowKit Go.Lib Utf Nam Lat Kin Unp Rel Lab
theorem own_sl2 {w : World} {base : Nat} {e : TypeId} {k n : Nat} {v : Value} {xs : List Value} (h : w.ownsRow base e k v n xs) : ∃ A c, v = .slice A n c := by
  obtain ⟨-, ⟨rfl, rfl⟩ | ⟨g, cap, cur, rfl, -⟩⟩ := h
  · exact ⟨_, _, rfl⟩
  · exact ⟨_, _, rfl⟩
theorem tgt_in {tys : List Nd} : ∀ (n : Nat) (x : ByteArray), (0 < tys.length ∨ n = 0) → ∃ I : Nat, (tgtS tys n x).1 = (I : Int) ∧ I < tys.length + 1
  | 0, x, _ => ⟨0, rfl, by omega⟩
  | n + 1, x, h => by
    have h0 : 0 < tys.length := by omega
    obtain ⟨I, hI, hI2⟩ := fin_in (xs := nms (tw tys)) x (by simpa [nms, tw_len] using h0)
    have hI3 : I < tys.length := by simpa [nms, tw_len] using hI2
    show ∃ I : Nat, (if (nN tys (finS (nms (tw tys)) x).1.toNat).2.1.kind ≠ 9 then ((finS (nms (tw tys)) x).1, true) else tgtS tys n (nN tys (finS (nms (tw tys)) x).1.toNat).2.1.name).1 = (I : Int) ∧ I < tys.length + 1
    by_cases c : (nN tys (finS (nms (tw tys)) x).1.toNat).2.1.kind ≠ 9
    · rw [if_pos c]
      exact ⟨I, hI, by omega⟩
    · rw [if_neg c]
      exact tgt_in n _ (.inl h0)
theorem node_in : (Tryz.prog.info? 59).map (fun i => (i.zero, i.size, i.bytes)) = some (some (.agg #[.int .i64 0, .int .i64 0, .int .i64 0, .int .i64 0, .int .i64 0, .slice none 0 0, .slice none 0 0]), 7, 88) := by kernel_rfl
theorem node_info : ∃ i0, Tryz.prog.info? 59 = some i0 ∧ (i0.zero, i0.size, i0.bytes) = (some (.agg #[.int .i64 0, .int .i64 0, .int .i64 0, .int .i64 0, .int .i64 0, .slice none 0 0, .slice none 0 0]), 7, 88) := by
  have := node_in
  cases h : Tryz.prog.info? 59 with
  | none => rw [h] at this; cases this
  | some i0 => rw [h] at this; exact ⟨i0, rfl, by simpa using this⟩
theorem edge_in : (Tryz.prog.info? 63).map (fun i => (i.zero, i.size, i.bytes)) = some (some (.agg #[.string ⟨#[]⟩, .bool false, .int .i64 0, .int .i64 0, .int .i64 0, .int .i64 0, .int .i64 0, .int .i64 0, .int .i64 0, .int .i64 0]), 10, 88) := by kernel_rfl
theorem edge_info : ∃ i0, Tryz.prog.info? 63 = some i0 ∧ (i0.zero, i0.size, i0.bytes) = (some (.agg #[.string ⟨#[]⟩, .bool false, .int .i64 0, .int .i64 0, .int .i64 0, .int .i64 0, .int .i64 0, .int .i64 0, .int .i64 0, .int .i64 0]), 10, 88) := by
  have := edge_in
  cases h : Tryz.prog.info? 63 with
  | none => rw [h] at this; cases this
  | some i0 => rw [h] at this; exact ⟨i0, rfl, by simpa using this⟩
theorem rd_nil (W : World) (k : Nat) : RdAt W (.slice none 0 0) k [] := ⟨none, 0, 0, rfl, by simp, Nat.le_refl _, fun h => absurd h (by simp)⟩
theorem addT_ref {nm : List ByteArray} {F : Nat → Nat → Bool} {tg : ByteArray → Int} {h : TH} {f : Ft} {l : List NdR} (k : h.kind = 9) : addT nm F tg h f l = (tg h.name, l) := if_pos k
theorem addT_node {nm : List ByteArray} {F : Nat → Nat → Bool} {tg : ByteArray → Int} {h : TH} {f : Ft} {l : List NdR} (k : ¬ h.kind = 9) : addT nm F tg h f l = ((l.length : Int), (addF nm F tg f (l ++ [ndP h])).2.set l.length { ndP h with edges := (addF nm F tg f (l ++ [ndP h])).1 }) := if_neg k
section
variable {base B : Nat} {lv tv tab : Value} {rh : TH} {rnv rpv : Value} {w0 : World}
theorem add_step {nm : List ByteArray} {F : Nat → Nat → Bool} {tys : List Nd} {st : List Int} (hL : LatP w0 lv nm F) (ht : RdNs w0 tv tys) (hT : RdT w0 tab (nms (tw tys))) (hlow : w0.heap.size ≤ base) (hl : tys.length ≤ 1000000) (hsl : st.length = tys.length + 1) (f : Ft) (ih : Fo.AllK (AddC base B lv tv tab rh rnv rpv w0 nm F tys st) f) : AddC base B lv tv tab rh rnv rpv w0 nm F tys st f := by
  intro s h nv' pv' w hI hb hy hg hst hnb R hR
  obtain ⟨ti, hTI, hZ⟩ := node_info
  simp only [Prod.mk.injEq] at hZ
  obtain ⟨hz0, hz1, hz2⟩ := hZ
  obtain ⟨tj, hTJ, hY⟩ := edge_info
  simp only [Prod.mk.injEq] at hY
  obtain ⟨hy0, hy1, hy2⟩ := hY
  obtain ⟨An, cn, rfl, -, -⟩ := hy.n.op
  obtain ⟨Ap, cp, rfl, -⟩ := hy.p.sl
  have hlo := bF_low base B lv tv tab rh rnv rpv hlow
  have hfl := (ok_len hg.1).1
  replace ih := Lib.hid ih
  have m0 := Hq.nil hI
  obtain ⟨V, e1, n, z1⟩ := m0.new (.cells (tyL h (.slice An h.names.length cn) (.slice Ap f.len cp)).toArray 29)
  clear m0 z1
  go_enter Tryz.func88, Tryz.ntmps88
  go_upto_region 1 with fail
  clear e1
  have t0 := n.c 0 0 rfl rfl
  have hbV := hb.trans (n.below hb.size (hlo s))
  by_cases hk : h.kind = 9
  · rw [addT_ref hk] at hR
    have q0 : (h.kind == 9) = true := by simpa using hk
    clear hk
    obtain ⟨I, hI1, hI2⟩ := tgt_in (tys := tys) tys.length h.name (by omega)
    have t7 := n.c 0 7 rfl rfl
    go_wp2_with fail
    refine target_calls ht hT hlow hl s h.name V n.inv hbV _ (Lib.hid fun W1 c1 => ?_)
    replace n := n.call c1
    have inv : BInv base B lv tv tab rh rnv rpv W1 s := n.inv
    have own := inv.os
    rw [hst] at own
    obtain ⟨G, c, hsv, -, -, -, hcl⟩ := own_at own (by omega)
    have x0 := hcl I (by omega)
    have hx : (ints st)[I]? = some (.int .i64 (tgI tys st h.name)) := by
      unfold tgI
      rw [hI1, Int.toNat_natCast]
      simp [ints, List.getD, List.getElem?_eq_getElem (show I < st.length by omega)]
    rw [hx] at x0
    have b14 := n.bc 14 rfl
    rw [hsv] at b14
    have fin := Lib.hid (hR.out _ s hst rfl n.fin)
    rw [hI1]
    generalize tgI tys st h.name = z at *
    have i0 : (0 : Int) ≤ (I : Int) := by omega
    have i1 : (I : Int) < (st.length : Int) := by omega
    clear n inv own hcl hx hI1 c1 hR t0 t7
    go_wp2_with fail
    exact fin.out
  · rw [addT_node hk] at hR
    have q0 : (h.kind == 9) = false := by simpa using hk
    clear hk
    obtain ⟨A, c, hnv⟩ := own_sl2 (show V.ownsRow base 59 7 s.nv s.nd.length _ from (show BInv base B lv tv tab rh rnv rpv V s from n.inv).on)
    have b15 := n.bc 15 rfl
    rw [hnv] at b15
    go_upto_region 5 with fail
    clear b15 t0
    have inv : BInv base B lv tv tab rh rnv rpv V s := n.inv
    have b15 := fun y : RW (fun k => s.nv.ownBlock = some k) V => y.cell n.bl_ inv.d2 (n.bc 15 rfl)
    have nT : ¬ s.nv.ownBlock = some w.heap.size := fun e => (n.lo _ List.mem_cons_self).2 ⟨(inv.on.lt _ e).1, .inr (.inr (.inl e))⟩
    have t0 := fun y : RW (fun k => s.nv.ownBlock = some k) V => y.cell (n.lt 0 rfl) nT (n.c 0 0 rfl rfl)
    have t1 := fun y : RW (fun k => s.nv.ownBlock = some k) V => y.cell (n.lt 0 rfl) nT (n.c 0 1 rfl rfl)
    have t2 := fun y : RW (fun k => s.nv.ownBlock = some k) V => y.cell (n.lt 0 rfl) nT (n.c 0 2 rfl rfl)
    have t3 := fun y : RW (fun k => s.nv.ownBlock = some k) V => y.cell (n.lt 0 rfl) nT (n.c 0 3 rfl rfl)
    have t4 := fun y : RW (fun k => s.nv.ownBlock = some k) V => y.cell (n.lt 0 rfl) nT (n.c 0 4 rfl rfl)
    have t5 := fun y : RW (fun k => s.nv.ownBlock = some k) V => y.cell (n.lt 0 rfl) nT (n.c 0 5 rfl rfl)
    have gW : Below V.heap.size V (V.drewN 1) := below_drewN (Below.refl _ _) 1
    refine wp_region_trS (fun k => s.nv.ownBlock = some k) (.one [0, 1, 2, 3, 4, 5, 6, 7, 8, 9, 10, 11, 12, 13, 14, 15, 16] 17 (.one [18] 19 (.one [] 20 (.one [] 21 (.last [22]))))) 23 (by kernel_rfl) (by kernel_rfl) (by kernel_rfl) (by kernel_rfl) (by decide) (fun _ _ d _ _ h => by cases d <;> exact h) ?_
    refine tr_one (os := [_, _, _, _, _, _, _, _, _, _, _, _, _, _, _, _, _]) (by simp only [pickO, List.filterMap_cons, List.filterMap_nil, List.getElem?_toArray, List.getElem?_cons_succ, List.getElem?_cons_zero]; rfl) (fun Kp hKp => ?_)
    repeat (go_big_quiet_step (exact rfl))
    refine wpQuiet_nil ?_
    refine hKp _ ?_
    clear hKp
    refine loudr (by rfl) (by kernel_rfl) (fun K1 hK1 => ?_)
    go_simp
    refine texts_calls h.names (by have := (ok_len hg.1).2; omega) _ _ (hy.below (hbV.trans (gW.mono hbV.size))).n _ (Lib.hid fun v3 W3 r3 sh3 m3 => ?_)
    obtain ⟨A3, c3, rfl, -⟩ := r3.open
    have m13 : Below V.heap.size V W3 := gW.trans (m3.mono gW.size)
    have own : W3.ownsRow base 59 7 s.nv s.nd.length (flatG encN s.nd) := ownKp inv.on fun k q _ => m13.block k (inv.on.lt k q).2
    have hsz : base ≤ W3.heap.size := Nat.le_trans inv.hB (Nat.le_trans (Nat.le_of_lt n.bl_) m13.size)
    refine hK1 _ _ (RW.of ((Gr.rfl' _ V).bl m13)) ?_
    clear hK1
    refine tr_one (os := [_]) (by simp only [pickO, List.filterMap_cons, List.filterMap_nil, List.getElem?_toArray, List.getElem?_cons_succ, List.getElem?_cons_zero]; rfl) (fun Kp hKp => ?_)
    repeat (go_big_quiet_step (exact rfl))
    refine wpQuiet_nil ?_
    refine hKp _ ?_
    clear hKp
    refine loudr (by rfl) (by kernel_rfl) (fun K2 hK2 => ?_)
    go_simp
    refine hK2 _ _ (RW.of ((Gr.rfl' _ V).bl (m13.alloc m13.size _))) ?_
    clear hK2
    refine tr_one (os := []) (by rfl) (fun Kp hKp => ?_)
    refine wpQuiet_nil ?_
    refine hKp _ ?_
    clear hKp
    refine loudr (by rfl) (by kernel_rfl) (fun K3 hK3 => ?_)
    refine appOp W3 #[.int .i64 h.kind, .int .i64 h.at_, .int .i64 h.lo, .int .i64 h.hi, .int .i64 h.most, .slice A3 (nms h.names).length c3, .slice none 0 0] 7 59 _ _ 88 rfl base ti (.agg #[.int .i64 0, .int .i64 0, .int .i64 0, .int .i64 0, .int .i64 0, .slice none 0 0, .slice none 0 0]) 88 Tryz.underlying88 hTI hz0 hz1 hz2 rfl (by decide) rfl s.nv s.nd.length (flatG encN s.nd) hnv.symm own _ rfl rfl (by simp [Value.oneCell']) (by unfold maxLen; omega) (by omega) hsz ?_
    intro v4 w4 hown hgr hfr
    obtain ⟨A4, m4, c4, rfl⟩ := own_sl hown
    have gA : Gr (fun k => s.nv.ownBlock = some k) V w4 := ((Gr.rfl' _ V).bl m13).trans (Gr.ofRow hgr) fun k e => .inl e
    go_simp
    refine hK3 _ _ (RW.of gA) ?_
    clear hK3
    refine tr_one (os := []) (by rfl) (fun Kp hKp => ?_)
    refine wpQuiet_nil ?_
    refine hKp _ ?_
    clear hKp
    refine loudr (by rfl) (by kernel_rfl) (fun K4 hK4 => ?_)
    go_simp
    refine hK4 _ _ (RW.of gA) ?_
    clear hK4
    refine tr_last (os := [_]) (by simp only [pickO, List.filterMap_cons, List.filterMap_nil, List.getElem?_toArray, List.getElem?_cons_succ, List.getElem?_cons_zero]; rfl) (fun Kp hKp => ?_)
    repeat (go_big_quiet_step (exact rfl))
    refine wpQuiet_nil ?_
    refine hKp _ ?_
    clear hKp
    have hbx : w4.heap[B]? = _ := (hgr.block B (Nat.lt_of_lt_of_le n.bl_ m13.size) fun e => inv.d2 e.symm).trans ((m13.block B n.bl_).trans inv.box)
    have bf := Lib.frozen_of_heap hbx 15
    have bc : w4.cell? ⟨B, 15, none⟩ = some s.nv := by rw [Lib.cell_of_heap hbx]; rfl
    obtain ⟨V4, e4, n⟩ : ∃ V4, w4.setCell ⟨B, 15, none⟩ (.slice A4 m4 c4) = V4 ∧ Hq (BF base B lv tv tab rh rnv rpv) s { s with nd := s.nd ++ [(ndP h, .slice A3 (nms h.names).length c3, .slice none 0 0)], nv := .slice A4 m4 c4, T := fun k => s.T k ∨ (V.heap.size ≤ k ∧ k < W3.heap.size) } w V4 [(w.heap.size, .cells (tyL h (.slice An h.names.length cn) (.slice Ap f.len cp)).toArray 29)] := ⟨_, rfl, bs_ndApp n m13 (x := (ndP h, .slice A3 (nms h.names).length c3, .slice none 0 0)) r3 (rd_nil _ _) ⟨sh3, .inl rfl⟩ (by rw [flatG_snoc]; exact hown) hgr (fun b q => by
      rcases hfr with e | e
      · exact .inl (e.symm.trans q)
      · refine .inr ?_
        rw [e] at q
        simp only [Option.some.injEq] at q
        omega)⟩
    refine loudl (by rfl) (by kernel_rfl) ?_
    go_simp
    clear e4 bf bc hbx gA hfr hgr hown b15 gW own inv t0 t1 t2 t3 t4 t5 nT r3 sh3 m3 hsz
    obtain ⟨s1, hs1⟩ : ∃ s1 : BS, s1 = { s with nd := s.nd ++ [(ndP h, .slice A3 (nms h.names).length c3, .slice none 0 0)], nv := .slice A4 m4 c4, T := fun k => s.T k ∨ (V.heap.size ≤ k ∧ k < W3.heap.size) } := ⟨_, rfl⟩
    rw [← hs1] at n
    have a1 : s1.st = st := by rw [hs1]; exact hst
    have a2 : s1.nd.map (·.1) = s.nd.map (·.1) ++ [ndP h] := by rw [hs1]; simp
    have a3 : s1.nd.length = s.nd.length + 1 := by rw [hs1]; simp
    have hl0 : (s.nd.map (·.1)).length = s.nd.length := by simp
    have hbw : base ≤ w.heap.size := by
      have i : BInv base B lv tv tab rh rnv rpv w s := hI
      exact Nat.le_trans i.hB (Nat.le_of_lt (hp_lt i.box))
    clear hs1 hnv
    generalize s.nd.map (·.1) = l0 at hR a2 hl0
    have t6 := n.c 0 6 rfl rfl
    go_wp2_with fail
    clear t6
    go_loopg [8, 60] f.len (fun g0 ev i wr => ∃ (K : Nat) (v : Value) (sK : BS) (es : List EdR), v = ev ∧ i = .int .i64 K ∧ K + g0 = f.len ∧ Hid (es.length = K ∧ sK.st = st ∧ addF nm F (tgI tys st) f (l0 ++ [ndP h]) = (es ++ (addF nm F (tgI tys st) (f.drop K) (sK.nd.map (·.1))).1, (addF nm F (tgI tys st) (f.drop K) (sK.nd.map (·.1))).2) ∧ sK.nd.length + Kin.cntF (f.drop K) ≤ 1000000) ∧ Hid (Hq (BF base B lv tv tab rh rnv rpv) s sK w wr [(w.heap.size, .cells (tyL h (.slice An h.names.length cn) (.slice Ap f.len cp)).toArray 29)]) ∧ Hid (wr.ownsRow w.heap.size 63 10 v K (flatG encE es)) ∧ Hid (∀ k, v.ownBlock = some k → ¬ bFr base B sK k ∧ k ≠ w.heap.size))
    case atStart => exact ⟨0, _, s1, [], rfl, rfl, by omega, Lib.hid ⟨rfl, a1, by rw [a2]; rfl, by show s1.nd.length + Kin.cntF f ≤ _; omega⟩, Lib.hid n, Lib.hid (by simpa [flatG] using World.ownsRow_nil _ _ _ _), Lib.hid fun k q => by cases q⟩
    case round =>
      clear n
      obtain ⟨K, v, sK, es, rfl, rfl, e1, hh, n, own, sep⟩ := hrel
      replace n := n.out
      have hbW := hb.trans (n.below hb.size (hlo s))
      have lT := n.lt 0 rfl
      by_cases hK : K < f.len
      · obtain ⟨p, x, kd, r, e⟩ := Fo.drop_lt hK
        obtain ⟨g, o, A1, n1, A2, n2, A5, n5, A7, n7, rfl, hlv, hcv, hxy, hrg⟩ := part_el hy e
        obtain ⟨gp, gx, gkk, ga⟩ := all_at K hg.2.2.2 e
        obtain ⟨l1, l2, okk⟩ := ok_lab hg.1 e
        have d1 := Fo.drop_succ K e
        obtain ⟨h1, h2, h3, h4⟩ := hh.out
        rw [e] at h3 h4
        rw [addF_cons] at h3
        have e9 : Kin.cntF (.cons p x kd r) = (if p.bare then 0 else Kin.cntF kd + 1) + Kin.cntF r := rfl
        rw [e9] at h4
        have b5 := addK_behind nm F (tgI tys st) p x kd (sK.nd.map (·.1))
        have i0 : (0 : Int) ≤ (K : Int) := by omega
        have i1 : (K : Int) < (f.len : Int) := by omega
        have rg := hrg wr hbW
        have ihK := Lib.hid ((ih.out).at_ e)
        replace h3 := Lib.hid h3
        replace h4 := Lib.hid h4
        replace b5 := Lib.hid b5
        replace okk := Lib.hid okk
        clear hrg e hh hbW e9
        obtain ⟨V3, e3, n, z3⟩ := n.new (.cells (ptL p x (.slice A1 p.label.length n1) (.slice A2 p.cl.length n2) (.slice A5 x.names.length n5) (.slice A7 kd.len n7)).toArray 78)
        have bP := Lib.hid (show Below wr.heap.size wr V3 from e3 ▸ (Below.refl _ _).alloc (Nat.le_refl _) _)
        go_upto_region 10 with (first | (refine wpList_load_g (by rfl) 78 _ rfl g (o + K * 18) rfl _ _ rg Tryz.underlying78 rfl (by kernel_rfl) ?_; go_simp) | (refine wpList_copy (ptL p x (.slice A1 p.label.length n1) (.slice A2 p.cl.length n2) (.slice A5 x.names.length n5) (.slice A7 kd.len n7)).toArray ⟨rfl, rfl, rfl⟩ ⟨rfl, rfl, rfl⟩ part_alloc (by kernel_rfl) ⟨rfl, by simp [Value.oneCell']⟩ (fun _ => ⟨rfl, rfl⟩) ?_; go_simp))
        clear e3 z3 rg
        have hbV := hb.trans (n.below hb.size (hlo s))
        have r10 := n.rg 0 rfl
        go_wp2_with (refine wpList_load_g (by rfl) 78 _ rfl wr.heap.size (0) rfl _ _ r10 Tryz.underlying78 rfl (by kernel_rfl) ?_; go_simp)
        refine edge_calls hL hlow p x kd _ _ _ _ hlv hcv hxy gp.2.2.1 gp.2.2.2.2.2.2.2.1 l1 l2 (fun hb => ⟨okk.out hb, gx, gkk, ga⟩) (fun _ => ihK.out) sK V3 n.inv hbV h2 (by have := h4.out; omega) _ (Lib.hid fun W5 s5 hs5 hn5 c5 => ?_)
        have own5 : W5.ownsRow w.heap.size 63 10 v K (flatG encE es) := ownKp (own_below own.out bP.out) fun k q _ => c5.gr.block k (Nat.lt_of_lt_of_le (own.out.lt k q).2 bP.out.size) (sep.out k q).1
        have sep5 : ∀ k, v.ownBlock = some k → ¬ bFr base B s5 k ∧ k ≠ w.heap.size := fun k q => ⟨fun fr => by
          rcases c5.sub k fr with e | e
          · exact (sep.out k q).1 e
          · have a := (own.out.lt k q).2
            have b := bP.out.size
            omega, (sep.out k q).2⟩
        replace b5 := b5.out
        replace h3 := h3.out
        rw [← hn5] at h3 b5
        have h5 : s5.nd.length + Kin.cntF r ≤ 1000000 := by
          have q1 := b5.2.1
          have q2 := h4.out
          simp only [List.length_map] at q1
          omega
        replace n := (n.call c5).tail
        have lT5 := n.lt 0 rfl
        have hsz : w.heap.size ≤ W5.heap.size := Nat.le_of_lt lT5
        clear c5 r10 hbV b5 h4 bP own sep gp gx gkk ga okk hlv hcv hxy ihK
        generalize (addK nm F (tgI tys st) p x kd (sK.nd.map (·.1))).1 = eN at h3 ⊢
        clear hn5
        obtain ⟨x0, x1, x2, x3, x4, x5, x6, x7, x8, x9⟩ := eN
        rw [show encE ⟨x0, x1, x2, x3, x4, x5, x6, x7, x8, x9⟩ = [.string x0, .bool x1, .int .i64 x2, .int .i64 x3, .int .i64 x4, .int .i64 x5, .int .i64 x6, .int .i64 x7, .int .i64 x8, .int .i64 x9] from rfl]
        replace own5 := Lib.hid own5
        replace sep5 := Lib.hid sep5
        replace h3 := Lib.hid h3
        go_wp2_with (at_builtin; go_loud (refine appKF W5 #[.string x0, .bool x1, .int .i64 x2, .int .i64 x3, .int .i64 x4, .int .i64 x5, .int .i64 x6, .int .i64 x7, .int .i64 x8, .int .i64 x9] 10 63 rfl _ _ 57 rfl w.heap.size tj (.agg #[.string ⟨#[]⟩, .bool false, .int .i64 0, .int .i64 0, .int .i64 0, .int .i64 0, .int .i64 0, .int .i64 0, .int .i64 0, .int .i64 0]) 88 Tryz.underlying57 hTJ hy0 hy1 hy2 rfl (by decide) rfl _ K (flatG encE es) rfl own5.out _ rfl rfl (by simp [Value.oneCell']) (by unfold maxLen; omega) (by omega) hsz ?_); rintro v' w6 hown6 hg6 - hfr)
        have own6 := Lib.hid (show w6.ownsRow w.heap.size 63 10 v' (K + 1) (flatG encE (es ++ [⟨x0, x1, x2, x3, x4, x5, x6, x7, x8, x9⟩])) by rw [flatG_snoc]; exact hown6)
        have n6 := Lib.hid (n.grow hg6 fun k q => ⟨(own5.out.lt k q).1, (sep5.out k q).1, fun y hy => by
          obtain rfl := List.mem_singleton.1 hy
          exact fun e => (sep5.out k q).2 e.symm⟩)
        have sep6 : Hid (∀ k, v'.ownBlock = some k → ¬ bFr base B s5 k ∧ k ≠ w.heap.size) := Lib.hid fun k q => by
          rcases hfr with e | e
          · exact sep5.out k (e.symm.trans q)
          · rw [e] at q
            simp only [Option.some.injEq] at q
            refine ⟨fun fr => ?_, by omega⟩
            have := (BF base B lv tv tab rh rnv rpv).lt n.inv (show (BF base B lv tv tab rh rnv rpv).Fr s5 k from fr)
            omega
        have hh6 := Lib.hid (show (es ++ [(⟨x0, x1, x2, x3, x4, x5, x6, x7, x8, x9⟩ : EdR)]).length = K + 1 ∧ s5.st = st ∧ addF nm F (tgI tys st) f (l0 ++ [ndP h]) = ((es ++ [⟨x0, x1, x2, x3, x4, x5, x6, x7, x8, x9⟩]) ++ (addF nm F (tgI tys st) (f.drop (K + 1)) (s5.nd.map (·.1))).1, (addF nm F (tgI tys st) (f.drop (K + 1)) (s5.nd.map (·.1))).2) ∧ s5.nd.length + Kin.cntF (f.drop (K + 1)) ≤ 1000000 from ⟨by simp [h1], hs5, by rw [d1, List.append_assoc]; exact h3.out, by rw [d1]; exact h5⟩)
        clear n own5 sep5 h3 h5 hown6 hg6 hfr hs5 hR d1
        go_wp2_with fail
        go_roundg (gk - 1)
        case measure => omega
        case rel => exact ⟨K + 1, v', s5, _, rfl, by go_num, by omega, hh6, n6, own6, sep6⟩
      · obtain rfl : K = f.len := by omega
        obtain ⟨h1, h2, h3, -⟩ := hh.out
        rw [Fo.drop_all (Nat.le_refl _)] at h3
        replace h3 : addF nm F (tgI tys st) f (l0 ++ [ndP h]) = (es, sK.nd.map (·.1)) := by rw [h3]; simp [addF]
        have bh := addF_behind (nm := nm) (F := F) (tg := tgI tys st) f (l0 ++ [ndP h])
        rw [h3] at bh hR
        have hix := bh.2.2 l0.length (by simp)
        rw [List.getElem?_append_right (Nat.le_refl _), Nat.sub_self, List.getElem?_map] at hix
        obtain ⟨y, hy1, hy2⟩ : ∃ y, sK.nd[l0.length]? = some y ∧ y.1 = ndP h := by
          cases q : sK.nd[l0.length]? with
          | none => rw [q] at hix; cases hix
          | some y => rw [q] at hix; exact ⟨y, rfl, by simpa using hix⟩
        have li := (List.getElem?_eq_some_iff.1 hy1).1
        rw [hl0] at hy1 hR li
        have inv : BInv base B lv tv tab rh rnv rpv wr sK := n.inv
        obtain ⟨G, c, hsv, -, -, -, hcl⟩ := own_at inv.on (by omega)
        have on := inv.on
        rw [hsv] at on
        have fz := on.frozenAt (s.nd.length * 7 + 6)
        have cx : wr.cell? ⟨G, s.nd.length * 7 + 6, none⟩ = some y.2.2 := by
          rw [hcl _ (by omega), flatG_get encN_len sK.nd s.nd.length 6 li (by decide), (List.getElem?_eq_some_iff.1 hy1).2]
          rfl
        have b15 := n.bc 15 rfl
        rw [hsv] at b15
        obtain ⟨A', c', rfl⟩ := own_sl2 own.out
        obtain ⟨V9, e9, n9⟩ : ∃ V9, wr.setCell ⟨G, s.nd.length * 7 + 6, none⟩ (.slice A' f.len c') = V9 ∧ Hq (BF base B lv tv tab rh rnv rpv) s { sK with nd := sK.nd.set s.nd.length ({ y.1 with edges := es }, y.2.1, .slice A' f.len c'), T := fun k => sK.T k ∨ (Value.slice A' f.len c').ownBlock = some k } w V9 [(w.heap.size, .cells (tyL h (.slice An h.names.length cn) (.slice Ap f.len cp)).toArray 29)] := ⟨_, rfl, bs_edges n hy1 hsv (by rw [h1]; exact own.out) hbw fun k q => ⟨(own.out.lt k q).1, (sep.out k q).1, fun y hy => by
          obtain rfl := List.mem_singleton.1 hy
          exact fun e => (sep.out k q).2 e.symm⟩⟩
        have fin := Lib.hid (hR.out V9 { sK with nd := sK.nd.set s.nd.length ({ y.1 with edges := es }, y.2.1, .slice A' f.len c'), T := fun k => sK.T k ∨ (Value.slice A' f.len c').ownBlock = some k } h2 (by
          show List.map (·.1) (sK.nd.set s.nd.length ({ y.1 with edges := es }, y.2.1, .slice A' f.len c')) = _
          rw [List.map_set, hy2]) n9.fin)
        have i0 : (0 : Int) ≤ (s.nd.length : Int) := by omega
        have i1 : (s.nd.length : Int) < (sK.nd.length : Int) := by omega
        clear n n9 own sep hh hcl on inv hR hix bh h3 hsv hy1 hy2 hbW ih
        go_wp2_with fail
        exact fin.out
end
end Go.Proofs.YtbnmkbpjdelokaaGreat.Res
