import Derived.Test.YtncijmodlhijoaaGreatQ46
import Derived.Test.YtncijmodlhijoaaGreatProg
import Derived.Shelf.SlSortCmp.NoneTotal
import Derived.Shelf.SlicesE.Clone
set_option linter.unusedVariables false
set_option maxRecDepth 100000
set_option maxHeartbeats 4000000
namespace Go.Proofs.YtncijmodlhijoaaGreat.Res
open Go.RowKit Go.Lib Utf Nam Lat Kin Unp Rel Lab
theorem bld_eq (s : Sc) : bldS s = if (wrongS s.1 s.2.1).1 ≠ 0 then wrongS s.1 s.2.1 else if (nmC s.2.2.1).1 ≠ 0 then nmC s.2.2.1 else (chkB (nms s.1) (leqF s.1 s.2.1) s.2.2.1 bs0 s.2.2.2.1 s.2.2.2.2).1 := rfl
theorem build18_calls (s : Sc) (gs : GoodS s) (b3 : s.2.2.1.length ≤ 1000000) (lv ov tv nv pv : Value) (w : World) (rd : RdSc w s lv ov tv nv pv) (R : Ending → World → Prop)
    (hR : Hid (∀ W v, (bldS s).1 = 0 → PlanP W v (nms s.1) (leqF s.1 s.2.1) (nms (tw s.2.2.1)) (planN (nms s.1) (leqF s.1 s.2.1) s.2.2.1 0 s.2.2.2.1 s.2.2.2.2) → Below w.heap.size w W → R (.returned (.tuple #[v, FtV (0, 0)])) W))
    (hR2 : Hid (∀ W, (bldS s).1 ≠ 0 → Below w.heap.size w W → R (.returned (.tuple #[.pointer none, FtV (bldS s)])) W)) : Calls Tryz.prog 12 #[scV s lv ov tv nv pv] w R := by
  obtain ⟨A1, c1, rfl, -, -⟩ := rd.l.op
  obtain ⟨A2, c2, rfl, -, -⟩ := Unp.RdPr.op rd.o
  obtain ⟨A3, c3, rfl, -, -⟩ := nds_el rd.t
  obtain ⟨N1, N3, rfl, -, -⟩ := rd.r.n.op
  obtain ⟨M1, M3, rfl, -⟩ := rd.r.p.sl
  have hE := Lib.hid (bld_eq s)
  have m0 := F0.z w
  obtain ⟨V1, e1, m1, z1⟩ := m0.new (.cells [.slice A1 s.1.length c1, .slice A2 s.2.1.length c2, .slice A3 s.2.2.1.length c3, .int .i64 s.2.2.2.1.kind, .int .i64 s.2.2.2.1.at_, .int .i64 s.2.2.2.1.lo, .int .i64 s.2.2.2.1.hi, .int .i64 s.2.2.2.1.most, .slice N1 s.2.2.2.1.names.length N3, .slice M1 s.2.2.2.2.len M3, .string s.2.2.2.1.name, .int .i64 s.2.2.2.1.nat].toArray 31)
  obtain ⟨V, e2, n, z2⟩ := m1.new (.cells #[.int .i64 0, .int .i64 0] 35)
  clear m0 m1 z1 z2
  go_enter Tryz.func12, Tryz.ntmps12
  go_upto_region 1 with fail
  clear e1 e2
  have s0 := n.c 1 0 rfl rfl
  have s1 := n.c 1 1 rfl rfl
  go_wp2_with fail
  have hb := F0.bel n
  refine build_calls s.1 s.2.1 _ _ V (rd.l.below hb) (RdAt.below rd.o hb) gs.l gs.o gs.ll gs.ol _ (Lib.hid fun v' W1 ew hL m1 => ?_) (Lib.hid fun W1 ew m1 => ?_)
  · clear s0 s1 hb
    replace n := n.bl m1
    clear m1
    obtain ⟨lp, rfl⟩ := hL.ptr
    have ew0 : ¬ (wrongS s.1 s.2.1).1 ≠ 0 := by rw [ew]; decide
    replace hE := hE.out
    rw [if_neg ew0] at hE
    replace hE := Lib.hid hE
    clear ew ew0
    obtain ⟨q0, q1, hq, hq1⟩ : ∃ q0 q1 : Int, (Value.agg #[.int .i64 0, .int .i64 0]) = .agg #[.int .i64 q0, .int .i64 q1] ∧ q0 = 0 := ⟨0, 0, rfl, rfl⟩
    rw [hq]
    replace hq := Lib.hid hq
    replace hq1 := Lib.hid hq1
    obtain ⟨V2, e3, n, z9⟩ := n.new (.cells #[.int .i64 q0, .int .i64 q1] 35)
    clear z9
    go_upto_region 2 with fail
    have hlm : Below W1.heap.size W1 V2 := e3 ▸ (Below.refl _ _).alloc (Nat.le_refl _) _
    clear e3
    have a_0 := n.c 0 0 rfl rfl
    have a_1 := n.c 0 1 rfl rfl
    obtain rfl := hq1.out
    clear hq
    replace n := n.tail
    have s2 := n.c 1 2 rfl rfl
    go_upto_region 4 with fail
    clear a_0 a_1
    go_wp2_with fail
    have hb := F0.bel n
    refine names18_calls s.2.2.1 _ V2 (rd.t.below hb) b3 _ (Lib.hid fun v6 W3 r6 m3 => ?_)
    obtain ⟨A6, c6, rfl, -⟩ := r6.open
    replace n := n.bl m3
    replace hL := hL.below (hlm.trans (m3.mono hlm.size))
    have s2 := n.c 1 2 rfl rfl
    have hb := F0.bel n
    have hlen := nmC_len (l := s.2.2.1)
    go_wp2_with fail
    refine checkNames18_calls s.2.2.1 _ _ W3 (rd.t.below hb) r6 (fun x hx => (gs.t x hx).1) b3 _ (Lib.hid fun W4 m4 => ?_)
    replace n := n.bl m4
    replace hL := hL.below m4
    replace r6 := r6.below m4
    generalize nmC s.2.2.1 = q at *
    obtain ⟨q0, q1⟩ := q
    clear m4 m3 s2 hb hlm
    obtain ⟨V5, e5, n, z9⟩ := n.new (.cells #[.int .i64 q0, .int .i64 q1] 35)
    clear z9
    go_upto_region 6 with fail
    have hlm : Below W4.heap.size W4 V5 := e5 ▸ (Below.refl _ _).alloc (Nat.le_refl _) _
    clear e5
    have a_0 := n.c 0 0 rfl rfl
    have a_1 := n.c 0 1 rfl rfl
    replace hL := hL.below hlm
    replace r6 := r6.below hlm
    clear hlm
    by_cases hq0 : q0 = 0
    · subst hq0
      replace hE := hE.out
      rw [if_neg (by decide)] at hE
      have hl64 := hlen rfl
      go_upto_region 8 with fail
      clear a_0 a_1 hlen
      replace n := n.tail
      have s2 := fun y : BW V5 => y.cell (n.lt 1 rfl) (n.c 1 2 rfl rfl)
      have rT := fun (W : World) (e : ∃ y : BW V5, W = y.w) => (show W.rangeAt w.heap.size 3 (tyL s.2.2.2.1 (.slice N1 s.2.2.2.1.names.length N3) (.slice M1 s.2.2.2.2.len M3)) from by
        obtain ⟨y, rfl⟩ := e
        exact (n.bl y.b).rgd 1 3 rfl)
      have gW : Below V5.heap.size V5 (V5.drewN 1) := below_drewN (Below.refl _ _) 1
      refine wp_region_tr (.one [0, 1, 2, 3, 4, 5] 6 (.one [7] 8 (.last []))) 9 (by kernel_rfl) (by kernel_rfl) (by kernel_rfl) (by kernel_rfl) (by decide) (fun _ _ d _ _ h => by cases d <;> exact h) ?_
      refine tr_one (os := [_, _, _, _, _, _]) (by simp only [pickO, List.filterMap_cons, List.filterMap_nil, List.getElem?_toArray, List.getElem?_cons_succ, List.getElem?_cons_zero]; rfl) (fun Kp hKp => ?_)
      iterate 4 (go_big_quiet_step (exact rfl))
      refine wpQuiet_load rfl 29 _ rfl (w.heap.size) 3 rfl _ _ rT Tryz.underlying29 rfl (by kernel_rfl) ?_
      try go_simp
      repeat (go_big_quiet_step (exact rfl))
      refine wpQuiet_nil ?_
      refine hKp _ ?_
      clear hKp
      refine loudr (by rfl) (by kernel_rfl) (fun K1 hK1 => ?_)
      go_simp
      refine new_calls (nms (tw s.2.2.1)) _ _ (by simp [nms, tw_len]; omega) (r6.below gW) _ (Lib.hid fun v7 W7 hT m7 => ?_)
      obtain ⟨tp, rfl⟩ : ∃ tp, v7 = .pointer (some ⟨tp, 0, none⟩) := by
        obtain ⟨p, _, _, h, -⟩ := hT
        exact ⟨p, h⟩
      have gL : Below V5.heap.size V5 W7 := gW.trans (m7.mono gW.size)
      refine hK1 _ _ (BW.of gL) ?_
      clear hK1
      refine tr_one (os := [_]) (by simp only [pickO, List.filterMap_cons, List.filterMap_nil, List.getElem?_toArray, List.getElem?_cons_succ, List.getElem?_cons_zero]; rfl) (fun Kp hKp => ?_)
      repeat (go_big_quiet_step (exact rfl))
      refine wpQuiet_nil ?_
      refine hKp _ ?_
      clear hKp
      obtain ⟨V8, e8⟩ : ∃ V8, W7.alloc (.cells #[.pointer (some ⟨lp, 0, none⟩), .slice A3 s.2.2.1.length c3, .int .i64 s.2.2.2.1.kind, .int .i64 s.2.2.2.1.at_, .int .i64 s.2.2.2.1.lo, .int .i64 s.2.2.2.1.hi, .int .i64 s.2.2.2.1.most, .slice N1 s.2.2.2.1.names.length N3, .slice M1 s.2.2.2.2.len M3, .string s.2.2.2.1.name, .int .i64 s.2.2.2.1.nat, .pointer (some ⟨tp, 0, none⟩), .int .i64 0, .int .i64 0, .slice none 0 0, .slice none 0 0] 103) = V8 := ⟨_, rfl⟩
      have g8 : Below W7.heap.size W7 V8 := e8 ▸ (Below.refl _ _).alloc (Nat.le_refl _) _
      have h8 : V8.heap[W7.heap.size]? = some (.cells #[.pointer (some ⟨lp, 0, none⟩), .slice A3 s.2.2.1.length c3, .int .i64 s.2.2.2.1.kind, .int .i64 s.2.2.2.1.at_, .int .i64 s.2.2.2.1.lo, .int .i64 s.2.2.2.1.hi, .int .i64 s.2.2.2.1.most, .slice N1 s.2.2.2.1.names.length N3, .slice M1 s.2.2.2.2.len M3, .string s.2.2.2.1.name, .int .i64 s.2.2.2.1.nat, .pointer (some ⟨tp, 0, none⟩), .int .i64 0, .int .i64 0, .slice none 0 0, .slice none 0 0] 103) := by
        rw [← e8]
        exact heap_alloc_new W7 _
      refine loudr (by rfl) (by kernel_rfl) (fun K2 hK2 => ?_)
      go_simp
      refine hK2 _ _ (BW.of (show Below V5.heap.size V5 V8 from gL.trans (g8.mono gL.size))) ?_
      clear hK2
      refine tr_last (os := []) (by rfl) (fun Kp hKp => ?_)
      refine wpQuiet_nil ?_
      refine hKp _ ?_
      clear hKp
      refine loudl (by rfl) (by kernel_rfl) ?_
      go_simp
      replace hL := hL.below gL
      replace n := n.bl gL
      have hbw := F0.bel n
      have inv : BInv W7.heap.size W7.heap.size (.pointer (some ⟨lp, 0, none⟩)) (.slice A3 s.2.2.1.length c3) (.pointer (some ⟨tp, 0, none⟩)) s.2.2.2.1 (.slice N1 s.2.2.2.1.names.length N3) (.slice M1 s.2.2.2.2.len M3) V8 bs0 := ⟨Nat.le_refl _, h8, World.ownsRow_nil _ _ _ _, World.ownsRow_nil _ _ _ _, fun k q => q.elim, (by simp [bs0]), (fun q => by cases q), (fun q => by cases q), (fun k q => by cases q), (by simp [bs0])⟩
      clear s2 rT gW gL r6 m7
      have hGt : ∀ x ∈ s.2.2.1, GoodT x.2.1 x.2.2 := fun x hx => ⟨(gs.t x hx).2.1, (gs.t x hx).2.2.2, (gs.t x hx).2.2.1⟩
      have hGr : GoodT s.2.2.2.1 s.2.2.2.2 := ⟨gs.h, gs.gl, gs.g⟩
      have tr := rd.t.below hbw
      have rr := rd.r.below hbw
      go_wp2_with fail
      refine check_calls (base := W7.heap.size) (B := W7.heap.size) hL hT tr rr (Nat.le_refl _) b3 hGt hGr bs0 V8 inv g8 _ (Lib.hid fun W9 c9 => ?_)
      have m9 : Below W7.heap.size W7 W9 := g8.trans (c9.below g8.size fun k q => q.1)
      have n7 := Lib.hid n
      replace n := n.bl m9
      replace hE := Lib.hid hE
      have hkd := chk_kinds (nm := nms s.1) (F := leqF s.1 s.2.1) (tys := s.2.2.1) (s := bs0) (h := s.2.2.2.1) (f := s.2.2.2.2)
      obtain ⟨t, hst⟩ := chk_inv (nm := nms s.1) (F := leqF s.1 s.2.1) (tys := s.2.2.1) (s := bs0) (h := s.2.2.2.1) (f := s.2.2.2.2)
      generalize chkB (nms s.1) (leqF s.1 s.2.1) s.2.2.1 bs0 s.2.2.2.1 s.2.2.2.2 = ch at *
      obtain ⟨⟨q0, q1⟩, s9⟩ := ch
      simp only at hst hkd c9 ⊢
      subst hst
      clear e8 h8 inv
      obtain ⟨V10, e10, n, z9⟩ := n.new (.cells #[.int .i64 q0, .int .i64 q1] 35)
      clear z9
      go_upto_region 10 with fail
      have hlm : Below W9.heap.size W9 V10 := e10 ▸ (Below.refl _ _).alloc (Nat.le_refl _) _
      clear e10
      have a_0 := n.c 0 0 rfl rfl
      have a_1 := n.c 0 1 rfl rfl
      replace c9 := c9.bl hlm
      by_cases hq0 : q0 = 0
      · subst hq0
        have hkd := hkd rfl
        obtain ⟨k1, k2⟩ := each_ok s.2.2.1 bs0 hkd
        obtain ⟨k3, k4⟩ := each_cnt s.2.2.1 bs0 hkd
        have m10 : Below W7.heap.size W7 V10 := m9.trans (hlm.mono m9.size)
        replace n := n.tail
        go_upto_region 12 with fail
        clear a_0 a_1 hlm
        go_wp2_with fail
        refine compile_calls (base := W7.heap.size) (B := W7.heap.size) hL tr hT rr (Nat.le_refl _) (by omega) (fun x hx => ⟨k1 x hx, hGt x hx⟩) ⟨k2, hGr⟩ k3 k4 _ V10 rfl rfl c9.inv m10 _ (Lib.hid fun W v pl mB => ?_)
        clear n c9 m10 m9 g8 k1 k2 k3 k4 hkd hGt hGr tr rr hL hT
        obtain ⟨P, rfl⟩ : ∃ P, v = .pointer (some ⟨P, 0, none⟩) := by
          obtain ⟨P, _, _, _, _, _, e, -⟩ := pl
          exact ⟨P, e⟩
        have n := n7.out.bl mB
        have hG := n.b 0 rfl
        have eS := setRow_self W V1.heap.size #[.int .i64 0, .int .i64 0] 35 (0, 0) hG
        have w0_ := n.c 0 0 rfl rfl
        have w1_ := n.c 0 1 rfl rfl
        have fin := Lib.hid (hR.out W _ (by rw [hE.out]) pl (F0.bel n))
        clear n n7 pl mB hR hR2 hE
        go_wp2_with (refine wpList_store_row (by rfl) 35 _ _ (by rfl) V1.heap.size #[.int .i64 0, .int .i64 0] (by rfl) (by rfl) 35 _ hG (by kernel_rfl) rfl (by simp [Value.oneCell']) ?_; rw [eS])
        first | refine bodyPost_ret ?_ rfl fin.out | refine bodyPost_end ?_ rfl fin.out
        simp [results, Tryz.results12, go_sem, w0_, w1_]
      · have t0 : (q0 != 0) = true := by simpa using hq0
        have hE2 := Lib.hid (show bldS s = (q0, q1) from hE.out)
        replace hq0 := Lib.hid hq0
        clear hE hL hT tr rr hGt hGr hkd c9 hlm m9 g8
        go_upto_region 11 with fail
        clear a_0 a_1
        have rT := fun (W : World) (e : ∃ y : BW V10, W = y.w) => (show W.rangeAt W9.heap.size 0 [.int .i64 q0, .int .i64 q1] from by
          obtain ⟨y, rfl⟩ := e
          exact (n.bl y.b).rg 0 rfl)
        refine wp_region_tr (.last [0, 1]) 2 (by kernel_rfl) (by kernel_rfl) (by kernel_rfl) (by kernel_rfl) (by decide) (fun _ _ d _ _ h => by cases d <;> exact h) ?_
        replace n := n.bl (show Below V10.heap.size V10 (V10.drewN 1) from below_drewN (Below.refl _ _) 1)
        refine tr_last (os := [_, _]) (by simp only [pickO, List.filterMap_cons, List.filterMap_nil, List.getElem?_toArray, List.getElem?_cons_succ, List.getElem?_cons_zero]; rfl) (fun Kp hKp => ?_)
        refine wpQuiet_load rfl 35 _ rfl (W9.heap.size) 0 rfl _ _ rT Tryz.underlying35 rfl (by kernel_rfl) ?_
        try go_simp
        repeat (go_big_quiet_step (exact rfl))
        refine wpQuiet_nil ?_
        refine hKp _ ?_
        clear hKp
        clear rT
        have y0 := n.c 1 0 rfl rfl
        have yf0 := n.f 1 0 rfl
        have y1 := n.c 1 1 rfl rfl
        have yf1 := n.f 1 1 rfl
        obtain ⟨VE, eE, nE, -⟩ := n.put (j := 1) rfl [(0, .int .i64 q0), (1, .int .i64 q1)]
        simp only [stL] at eE
        simp only [stA, List.setIfInBounds_toArray, List.set_cons_succ, List.set_cons_zero] at nE
        have w0_ := nE.c 1 0 rfl rfl
        have w1_ := nE.c 1 1 rfl rfl
        have fin := Lib.hid (by have := hR2.out VE (by rw [hE2.out]; exact hq0.out) (F0.bel nE); rw [hE2.out] at this; exact this)
        clear nE n hR hR2
        refine loudl (by rfl) (by kernel_rfl) ?_
        go_simp
        go_wp2_with fail
        first | refine bodyPost_ret ?_ rfl fin.out | refine bodyPost_end ?_ rfl fin.out
        simp [results, Tryz.results12, go_sem, w0_, w1_]
    · replace hlen := hq0
      have t0 : (q0 != 0) = true := by simpa using hq0
      have hE2 := Lib.hid (show bldS s = (q0, q1) by rw [hE.out, if_pos hq0])
      replace hq0 := Lib.hid hq0
      clear hE hlen hL r6
      go_upto_region 7 with fail
      clear a_0 a_1
      have rT := fun (W : World) (e : ∃ y : BW V5, W = y.w) => (show W.rangeAt W4.heap.size 0 [.int .i64 q0, .int .i64 q1] from by
        obtain ⟨y, rfl⟩ := e
        exact (n.bl y.b).rg 0 rfl)
      refine wp_region_tr (.last [0, 1]) 2 (by kernel_rfl) (by kernel_rfl) (by kernel_rfl) (by kernel_rfl) (by decide) (fun _ _ d _ _ h => by cases d <;> exact h) ?_
      replace n := n.bl (show Below V5.heap.size V5 (V5.drewN 1) from below_drewN (Below.refl _ _) 1)
      refine tr_last (os := [_, _]) (by simp only [pickO, List.filterMap_cons, List.filterMap_nil, List.getElem?_toArray, List.getElem?_cons_succ, List.getElem?_cons_zero]; rfl) (fun Kp hKp => ?_)
      refine wpQuiet_load rfl 35 _ rfl (W4.heap.size) 0 rfl _ _ rT Tryz.underlying35 rfl (by kernel_rfl) ?_
      try go_simp
      repeat (go_big_quiet_step (exact rfl))
      refine wpQuiet_nil ?_
      refine hKp _ ?_
      clear hKp
      clear rT
      have y0 := n.c 1 0 rfl rfl
      have yf0 := n.f 1 0 rfl
      have y1 := n.c 1 1 rfl rfl
      have yf1 := n.f 1 1 rfl
      obtain ⟨VE, eE, nE, -⟩ := n.put (j := 1) rfl [(0, .int .i64 q0), (1, .int .i64 q1)]
      simp only [stL] at eE
      simp only [stA, List.setIfInBounds_toArray, List.set_cons_succ, List.set_cons_zero] at nE
      have w0_ := nE.c 1 0 rfl rfl
      have w1_ := nE.c 1 1 rfl rfl
      have fin := Lib.hid (by have := hR2.out VE (by rw [hE2.out]; exact hq0.out) (F0.bel nE); rw [hE2.out] at this; exact this)
      clear nE n hR hR2
      refine loudl (by rfl) (by kernel_rfl) ?_
      go_simp
      go_wp2_with fail
      first | refine bodyPost_ret ?_ rfl fin.out | refine bodyPost_end ?_ rfl fin.out
      simp [results, Tryz.results12, go_sem, w0_, w1_]
  · replace n := n.bl m1
    clear m1 s0 s1 hb
    have hE2 : bldS s = wrongS s.1 s.2.1 := by rw [hE.out, if_pos ew]
    generalize wrongS s.1 s.2.1 = q at *
    obtain ⟨q0, q1⟩ := q
    simp only at ew ⊢
    replace hE2 := Lib.hid hE2
    clear hE
    obtain ⟨V2, e3, n, z9⟩ := n.new (.cells #[.int .i64 q0, .int .i64 q1] 35)
    clear z9
    go_upto_region 2 with fail
    have hlm : Below W1.heap.size W1 V2 := e3 ▸ (Below.refl _ _).alloc (Nat.le_refl _) _
    clear e3
    have a_0 := n.c 0 0 rfl rfl
    have a_1 := n.c 0 1 rfl rfl
    have t0 : (q0 != 0) = true := by simpa using ew
    replace ew := Lib.hid ew
    go_upto_region 3 with fail
    clear a_0 a_1
    have rT := fun (W : World) (e : ∃ y : BW V2, W = y.w) => (show W.rangeAt W1.heap.size 0 [.int .i64 q0, .int .i64 q1] from by
      obtain ⟨y, rfl⟩ := e
      exact (n.bl y.b).rg 0 rfl)
    refine wp_region_tr (.last [0, 1]) 2 (by kernel_rfl) (by kernel_rfl) (by kernel_rfl) (by kernel_rfl) (by decide) (fun _ _ d _ _ h => by cases d <;> exact h) ?_
    replace n := n.bl (show Below V2.heap.size V2 (V2.drewN 1) from below_drewN (Below.refl _ _) 1)
    refine tr_last (os := [_, _]) (by simp only [pickO, List.filterMap_cons, List.filterMap_nil, List.getElem?_toArray, List.getElem?_cons_succ, List.getElem?_cons_zero]; rfl) (fun Kp hKp => ?_)
    refine wpQuiet_load rfl 35 _ rfl (W1.heap.size) 0 rfl _ _ rT Tryz.underlying35 rfl (by kernel_rfl) ?_
    try go_simp
    repeat (go_big_quiet_step (exact rfl))
    refine wpQuiet_nil ?_
    refine hKp _ ?_
    clear hKp
    clear rT
    have y0 := n.c 1 0 rfl rfl
    have yf0 := n.f 1 0 rfl
    have y1 := n.c 1 1 rfl rfl
    have yf1 := n.f 1 1 rfl
    obtain ⟨VE, eE, nE, -⟩ := n.put (j := 1) rfl [(0, .int .i64 q0), (1, .int .i64 q1)]
    simp only [stL] at eE
    simp only [stA, List.setIfInBounds_toArray, List.set_cons_succ, List.set_cons_zero] at nE
    have w0_ := nE.c 1 0 rfl rfl
    have w1_ := nE.c 1 1 rfl rfl
    have fin := Lib.hid (by have := hR2.out VE (by rw [hE2.out]; exact ew.out) (F0.bel nE); rw [hE2.out] at this; exact this)
    clear nE n hR hR2
    refine loudl (by rfl) (by kernel_rfl) ?_
    go_simp
    go_wp2_with fail
    first | refine bodyPost_ret ?_ rfl fin.out | refine bodyPost_end ?_ rfl fin.out
    simp [results, Tryz.results12, go_sem, w0_, w1_]
end Go.Proofs.YtncijmodlhijoaaGreat.Res
namespace Go.Proofs.YtncijmodlhijoaaGreat
open Go.Shelf
def cloneEd_ren : Go.Shelf.Ren := ⟨fun | 41 => 54 | n => n, fun | 22 => 50 | 23 => 67 | 4 => 4 | n => n, fun | n => n⟩
theorem cloneEd : Go.Proofs.SlLaysE0.n41 Tryz.prog cloneEd_ren := {
  mixed := by kernel_rfl
  f41 := ⟨Tryz.f54.name, by decide, Tryz.func54.trans (congrArg some (by kernel_rfl))⟩
  t4 := Tryz.underlying4
  a4 := Tryz.isAgg4
  z4 := Tryz.sizeOf4
  v4 := Tryz.zeroValue4
  t22 := Tryz.underlying50
  a22 := Tryz.isAgg50
  z22 := Tryz.sizeOf50
  v22 := Tryz.zeroValue50 }
end Go.Proofs.YtncijmodlhijoaaGreat
namespace Go.Proofs.YtncijmodlhijoaaGreat.Res
open Go.RowKit Go.Lib Utf Nam Lat Kin Unp Rel Lab
theorem platnil_calls (w : World) (R : Ending → World → Prop) (hR : Hid (R (.returned (.pointer none)) w)) : Calls Tryz.prog 16 #[.pointer none] w R := by
  go_enter Tryz.func16, Tryz.ntmps16
  go_wp2_with fail
  exact hR.out
theorem plennil_calls (w : World) (R : Ending → World → Prop) (hR : Hid (R (.returned (.int .i64 0)) w)) : Calls Tryz.prog 14 #[.pointer none] w R := by
  go_enter Tryz.func14, Tryz.ntmps14
  go_wp2_with fail
  exact hR.out
theorem prootnil_calls (w : World) (R : Ending → World → Prop) (hR : Hid (R (.returned (.int .i64 (-1))) w)) : Calls Tryz.prog 15 #[.pointer none] w R := by
  go_enter Tryz.func15, Tryz.ntmps15
  go_wp2_with fail
  exact hR.out
theorem pfindnil_calls (x : ByteArray) (w : World) (R : Ending → World → Prop) (hR : Hid (R (.returned (.tuple #[.int .i64 0, .bool false])) w)) : Calls Tryz.prog 21 #[.pointer none, .string x] w R := by
  go_enter Tryz.func21, Tryz.ntmps21
  go_wp2_with fail
  exact hR.out
theorem PlanP.op {w : World} {v : Value} {nm : List ByteArray} {F : Nat → Nat → Bool} {ns : List ByteArray} {x : List NdR × Int × List Int} (h : PlanP w v nm F ns x) : ∃ (P : Nat) (lv tab : Value) (A Z : Option Addr) (c z : Nat) (xs : List Nv), v = .pointer (some ⟨P, 0, none⟩) ∧ w.heap[P]? = some (.cells #[lv, .slice A x.1.length c, .int .i64 x.2.1, tab, .slice Z x.2.2.length z] 110) ∧ LatP w lv nm F ∧ RdT w tab ns ∧ xs.map (·.1) = x.1 ∧ (∀ y ∈ xs, (RdS w y.2.1 y.1.names ∧ RdEd w y.2.2 y.1.edges) ∧ Shp y.2.1 ∧ Shp y.2.2) ∧
    (0 < xs.length → ∃ g o, A = some ⟨g, o, none⟩ ∧ g < w.heap.size ∧ ∀ i (hi : i < xs.length) j, j < 7 → w.cell? ⟨g, o + i * 7 + j, none⟩ = (encN xs[i])[j]?) ∧ RdAt w (.slice Z x.2.2.length z) 1 (ints x.2.2) := by
  obtain ⟨P, lv, nv, tab, zv, xs, e, hb, hl, ht, hn, hx, hr, hz⟩ := h
  have hn' : RdG encN 7 w nv xs := hn
  obtain ⟨A, c, rfl, -, hA⟩ := RdG.open encN_len (by decide) hn'
  have hlen : xs.length = x.1.length := by rw [← hx, List.length_map]
  have hz2 := hz
  obtain ⟨Z, n, z, rfl, hzl, -, -⟩ := hz2
  obtain rfl : n = x.2.2.length := by simpa [ints] using hzl.symm
  rw [hlen] at hb
  exact ⟨P, lv, tab, A, Z, c, z, xs, e, hb, hl, ht, hx, hr, hA, hz⟩
theorem plen_calls {w : World} {v : Value} {nm : List ByteArray} {F : Nat → Nat → Bool} {ns : List ByteArray} {x : List NdR × Int × List Int} (h : PlanP w v nm F ns x) (R : Ending → World → Prop) (hR : Hid (R (.returned (.int .i64 x.1.length)) w)) : Calls Tryz.prog 14 #[v] w R := by
  obtain ⟨P, lv, tab, A, Z, c, z, xs, rfl, hb, -, -, -, -, -, -⟩ := h.op
  have c1 := (Lib.cell_of_heap hb 1).trans rfl
  clear hb h
  go_enter Tryz.func14, Tryz.ntmps14
  go_wp2_with fail
  exact hR.out
theorem proot_calls {w : World} {v : Value} {nm : List ByteArray} {F : Nat → Nat → Bool} {ns : List ByteArray} {x : List NdR × Int × List Int} (h : PlanP w v nm F ns x) (R : Ending → World → Prop) (hR : Hid (R (.returned (.int .i64 x.2.1)) w)) : Calls Tryz.prog 15 #[v] w R := by
  obtain ⟨P, lv, tab, A, Z, c, z, xs, rfl, hb, -, -, -, -, -, -⟩ := h.op
  have c1 := (Lib.cell_of_heap hb 2).trans rfl
  clear hb h
  go_enter Tryz.func15, Tryz.ntmps15
  go_wp2_with fail
  exact hR.out
end Go.Proofs.YtncijmodlhijoaaGreat.Res
