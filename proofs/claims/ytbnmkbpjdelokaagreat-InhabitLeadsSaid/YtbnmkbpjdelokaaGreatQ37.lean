import Derived.Test.YtbnmkbpjdelokaaGreatQ36
set_option linter.unusedVariables false
set_option maxRecDepth 100000
set_option maxHeartbeats 4000000
namespace Go.Proofs.YtbnmkbpjdelokaaGreat.Res
open Go.RowKit Go.Lib Utf Nam Lat Kin Unp Rel Lab
section
variable {base B : Nat} {lv tv tab : Value} {rh : TH} {rnv rpv : Value} {w0 : World}
theorem edge_calls {nm : List ByteArray} {F : Nat → Nat → Bool} {tys : List Nd} {st : List Int} (hL : LatP w0 lv nm F) (hlow : w0.heap.size ≤ base) (p : PH) (x : TH) (kd : Ft) (lv' cv' nv' pv' : Value) (hlv : RdW w0 lv' p.label) (hcv : RdW w0 cv' p.cl) (hxy : RdY w0 x kd nv' pv') (g1 : ∀ y ∈ p.label, GoodW y) (g2 : ∀ y ∈ p.cl, GoodW y) (l1 : p.label.length ≤ 32) (l2 : p.cl.length ≤ 32)
    (gk : p.bare = false → GoodK x kd) (ih : p.bare = false → AddC base B lv tv tab rh rnv rpv w0 nm F tys st kd) (s : BS) (w : World) (hI : (BF base B lv tv tab rh rnv rpv).Inv w s) (hb : Below w0.heap.size w0 w) (hst : s.st = st) (hn : s.nd.length + (if p.bare then 0 else Kin.cntF kd + 1) ≤ 1000000) (R : Ending → World → Prop)
    (hR : Hid (∀ W s', s'.st = st → s'.nd.map (·.1) = (addK nm F (tgI tys st) p x kd (s.nd.map (·.1))).2 → Hq (BF base B lv tv tab rh rnv rpv) s s' w W [] → R (.returned (.agg (encE (addK nm F (tgI tys st) p x kd (s.nd.map (·.1))).1).toArray)) W)) : Calls Tryz.prog 136 #[.pointer (some ⟨B, 0, none⟩), .agg (ptL p x lv' cv' nv' pv').toArray] w R := by
  obtain ⟨A1, n1, rfl, -, -⟩ := hlv.op
  obtain ⟨A2, n2, rfl, -, -⟩ := hcv.op
  obtain ⟨A5, n5, rfl, -, -⟩ := hxy.n.op
  obtain ⟨A7, n7, rfl, -⟩ := hxy.p.sl
  have hlo := bF_low base B lv tv tab rh rnv rpv hlow
  have hR2 : Hid (∀ W s' (d : Int), s'.st = st → d = (if p.bare then (-1, s.nd.map (·.1)) else addT nm F (tgI tys st) x kd (s.nd.map (·.1))).1 → s'.nd.map (·.1) = (if p.bare then (-1, s.nd.map (·.1)) else addT nm F (tgI tys st) x kd (s.nd.map (·.1))).2 → Hq (BF base B lv tv tab rh rnv rpv) s s' w W [] → R (.returned (.agg #[.string p.name, .bool p.bare, .int .i64 p.at_, .int .i64 d, .int .i64 (lof nm F p.label).1, .int .i64 (if p.wide = 0 then 3 else p.wide), .int .i64 p.ck, .int .i64 p.cn, .int .i64 (lof nm F p.cl).1, .int .i64 p.cat])) W) := Lib.hid fun W s' d e1 e2 e3 q => by subst e2; exact hR.out W s' e1 e3 q
  clear hR
  have m0 := Hq.nil hI
  obtain ⟨V1, e1, m1, z1⟩ := m0.new (.cells (ptL p x (.slice A1 p.label.length n1) (.slice A2 p.cl.length n2) (.slice A5 x.names.length n5) (.slice A7 kd.len n7)).toArray 78)
  obtain ⟨V, e2, n, z2⟩ := m1.new (.cells #[.string ⟨#[]⟩, .bool false, .int .i64 0, .int .i64 0, .int .i64 0, .int .i64 0, .int .i64 0, .int .i64 0, .int .i64 0, .int .i64 0] 63)
  clear m0 m1 z1 z2
  go_enter Tryz.func136, Tryz.ntmps136
  go_upto_region 1 with fail
  clear e1 e2
  have hbV := hb.trans (n.below hb.size (hlo s))
  have p3 := fun y : BW V => y.cell (n.lt 1 rfl) (n.c 1 3 rfl rfl)
  have b0 := fun y : BW V => y.cell n.bl_ (n.bc 0 rfl)
  have cL := Lib.hid fun (W : World) (m : Below V.heap.size V W) R hR => lof_calls nm F lv W (hL.below (hbV.trans (m.mono hbV.size))) p.label _ (hlv.below (hbV.trans (m.mono hbV.size))) g1 (by omega) R hR
  generalize lof nm F p.label = a at *
  obtain ⟨a0, a1, a2⟩ := a
  go_cut [5, 6] from 10 to 19 (fun s9 s10 wx => ∃ (T : Nat), s9 = .int .i64 a0 ∧ s10 = .pointer (some ⟨T, 0, none⟩) ∧ Hid (Hq (BF base B lv tv tab rh rnv rpv) s s w wx ((T, .cells #[.int .i64 a1, .int .i64 a2] 37) :: [(V1.heap.size, .cells #[.string ⟨#[]⟩, .bool false, .int .i64 0, .int .i64 0, .int .i64 0, .int .i64 0, .int .i64 0, .int .i64 0, .int .i64 0, .int .i64 0] 63), (w.heap.size, .cells (ptL p x (.slice A1 p.label.length n1) (.slice A2 p.cl.length n2) (.slice A5 x.names.length n5) (.slice A7 kd.len n7)).toArray 78)])))
  case first =>
    refine wp_region_tr (.two [0, 1, 2, 3, 4, 5] 6 (.one [7, 8, 9] 10 (.last [11])) 10 (.one [] 6 (.last [7, 8, 9, 11]))) 12 (by kernel_rfl) (by kernel_rfl) (by kernel_rfl) (by kernel_rfl) (by decide) (fun _ _ d _ _ h => by cases d <;> exact h) ?_
    have gW : Below V.heap.size V (V.drewN 1) := below_drewN (Below.refl _ _) 1
    refine tr_two (os := [_, _, _, _, _, _]) (by simp only [pickO, List.filterMap_cons, List.filterMap_nil, List.getElem?_toArray, List.getElem?_cons_succ, List.getElem?_cons_zero]; rfl) (fun Kp hKp => ?_)
    repeat (go_big_quiet_step (exact rfl))
    refine wpQuiet_nil ?_
    refine hKp _ ?_ ?_
    · clear hKp
      refine loudr (by rfl) (by kernel_rfl) (fun K1 hK1 => ?_)
      go_simp
      refine cL.out _ gW _ (Lib.hid fun W4 m4 => ?_)
      have gL := gW.trans (m4.mono gW.size)
      refine hK1 _ _ (BW.of gL) ?_
      clear hK1
      refine tr_one (os := [_, _, _]) (by simp only [pickO, List.filterMap_cons, List.filterMap_nil, List.getElem?_toArray, List.getElem?_cons_succ, List.getElem?_cons_zero]; rfl) (fun Kp hKp => ?_)
      repeat (go_big_quiet_step (exact rfl))
      refine wpQuiet_nil ?_
      refine hKp _ ?_
      clear hKp
      have n4 := n.bl gL
      obtain ⟨V5, e5, n5_, z5⟩ := n4.new (.cells #[.int .i64 a1, .int .i64 a2] 37)
      refine loudr (by rfl) (by kernel_rfl) (fun K2 hK2 => ?_)
      go_simp
      refine hK2 _ _ (BW.of (gL.alloc gL.size _)) ?_
      clear hK2
      refine tr_last (os := [_]) (by simp only [pickO, List.filterMap_cons, List.filterMap_nil, List.getElem?_toArray, List.getElem?_cons_succ, List.getElem?_cons_zero]; rfl) (fun Kp hKp => ?_)
      repeat (go_big_quiet_step (exact rfl))
      refine wpQuiet_nil ?_
      refine hKp _ ?_
      clear hKp
      refine loudl (by rfl) (by kernel_rfl) ?_
      go_simp
      go_step
      go_meet
      case rel => exact ⟨_, rfl, rfl, Lib.hid n5_⟩
    · clear hKp
      have n4 := n.bl gW
      obtain ⟨V4, e4, n4, z4⟩ := n4.new (.cells #[.int .i64 0, .int .i64 0] 37)
      rw [show (V.drewN 1).heap.size = V.heap.size from rfl] at n4
      have gL : Below V.heap.size V V4 := e4 ▸ gW.alloc gW.size _
      refine loudr (by rfl) (by kernel_rfl) (fun K2 hK2 => ?_)
      go_simp
      refine hK2 _ _ (BW.of gL) ?_
      clear hK2
      refine tr_one (os := []) (by rfl) (fun Kp hKp => ?_)
      refine wpQuiet_nil ?_
      refine hKp _ ?_
      clear hKp
      refine loudr (by rfl) (by kernel_rfl) (fun K1 hK1 => ?_)
      go_simp
      refine cL.out _ gL _ (Lib.hid fun W5 m5 => ?_)
      have gM := gL.trans (m5.mono gL.size)
      refine hK1 _ _ (BW.of gM) ?_
      clear hK1
      refine tr_last (os := [_, _, _, _]) (by simp only [pickO, List.filterMap_cons, List.filterMap_nil, List.getElem?_toArray, List.getElem?_cons_succ, List.getElem?_cons_zero]; rfl) (fun Kp hKp => ?_)
      repeat (go_big_quiet_step (exact rfl))
      refine wpQuiet_nil ?_
      refine hKp _ ?_
      clear hKp e4
      have n5 := n4.bl m5
      have y0 := n5.c 0 0 rfl rfl
      have yf0 := n5.f 0 0 rfl
      have y1 := n5.c 0 1 rfl rfl
      have yf1 := n5.f 0 1 rfl
      obtain ⟨V6, e6, n6, -⟩ := n5.put (j := 0) rfl [(0, .int .i64 a1), (1, .int .i64 a2)]
      simp only [stL] at e6
      simp only [stA, List.setIfInBounds_toArray, List.set_cons_succ, List.set_cons_zero] at n6
      refine loudl (by rfl) (by kernel_rfl) ?_
      go_simp
      go_step
      go_meet
      case rel => exact ⟨_, rfl, rfl, Lib.hid n6⟩
  case rest =>
    clear n p3 b0 cL
    obtain ⟨T, rfl, rfl, n⟩ := hcut
    replace n := n.out.tail
    go_upto_region 2 with fail
    obtain ⟨V9, rfl⟩ : ∃ V, V = wc := ⟨_, rfl⟩
    have hbV := hb.trans (n.below hb.size (hlo s))
    have p8 := fun y : BW V9 => y.cell (n.lt 1 rfl) (n.c 1 8 rfl rfl)
    have b0 := fun y : BW V9 => y.cell n.bl_ (n.bc 0 rfl)
    have cL := Lib.hid fun (W : World) (m : Below V9.heap.size V9 W) R hR => lof_calls nm F lv W (hL.below (hbV.trans (m.mono hbV.size))) p.cl _ (hcv.below (hbV.trans (m.mono hbV.size))) g2 (by omega) R hR
    generalize lof nm F p.cl = b at *
    obtain ⟨b0_, b1_, b2_⟩ := b
    go_cut [7, 8] from 20 to 30 (fun s9 s10 wx => ∃ (T : Nat), s9 = .int .i64 b0_ ∧ s10 = .pointer (some ⟨T, 0, none⟩) ∧ Hid (Hq (BF base B lv tv tab rh rnv rpv) s s w wx ((T, .cells #[.int .i64 b1_, .int .i64 b2_] 37) :: [(V1.heap.size, .cells #[.string ⟨#[]⟩, .bool false, .int .i64 0, .int .i64 0, .int .i64 0, .int .i64 0, .int .i64 0, .int .i64 0, .int .i64 0, .int .i64 0] 63), (w.heap.size, .cells (ptL p x (.slice A1 p.label.length n1) (.slice A2 p.cl.length n2) (.slice A5 x.names.length n5) (.slice A7 kd.len n7)).toArray 78)])))
    case first =>
      refine wp_region_tr (.two [0, 1, 2, 3, 4, 5, 6] 7 (.one [8, 9, 10] 11 (.last [12])) 11 (.one [] 7 (.last [8, 9, 10, 12]))) 13 (by kernel_rfl) (by kernel_rfl) (by kernel_rfl) (by kernel_rfl) (by decide) (fun _ _ d _ _ h => by cases d <;> exact h) ?_
      have gW : Below V9.heap.size V9 (V9.drewN 1) := below_drewN (Below.refl _ _) 1
      refine tr_two (os := [_, _, _, _, _, _, _]) (by simp only [pickO, List.filterMap_cons, List.filterMap_nil, List.getElem?_toArray, List.getElem?_cons_succ, List.getElem?_cons_zero]; rfl) (fun Kp hKp => ?_)
      repeat (go_big_quiet_step (exact rfl))
      refine wpQuiet_nil ?_
      refine hKp _ ?_ ?_
      · clear hKp
        refine loudr (by rfl) (by kernel_rfl) (fun K1 hK1 => ?_)
        go_simp
        refine cL.out _ gW _ (Lib.hid fun W4 m4 => ?_)
        have gL := gW.trans (m4.mono gW.size)
        refine hK1 _ _ (BW.of gL) ?_
        clear hK1
        refine tr_one (os := [_, _, _]) (by simp only [pickO, List.filterMap_cons, List.filterMap_nil, List.getElem?_toArray, List.getElem?_cons_succ, List.getElem?_cons_zero]; rfl) (fun Kp hKp => ?_)
        repeat (go_big_quiet_step (exact rfl))
        refine wpQuiet_nil ?_
        refine hKp _ ?_
        clear hKp
        have n4 := n.bl gL
        obtain ⟨V5, e5, n5_, z5⟩ := n4.new (.cells #[.int .i64 b1_, .int .i64 b2_] 37)
        refine loudr (by rfl) (by kernel_rfl) (fun K2 hK2 => ?_)
        go_simp
        refine hK2 _ _ (BW.of (gL.alloc gL.size _)) ?_
        clear hK2
        refine tr_last (os := [_]) (by simp only [pickO, List.filterMap_cons, List.filterMap_nil, List.getElem?_toArray, List.getElem?_cons_succ, List.getElem?_cons_zero]; rfl) (fun Kp hKp => ?_)
        repeat (go_big_quiet_step (exact rfl))
        refine wpQuiet_nil ?_
        refine hKp _ ?_
        clear hKp
        refine loudl (by rfl) (by kernel_rfl) ?_
        go_simp
        go_step
        go_meet
        case rel => exact ⟨_, rfl, rfl, Lib.hid n5_⟩
      · clear hKp
        have n4 := n.bl gW
        obtain ⟨V4, e4, n4, z4⟩ := n4.new (.cells #[.int .i64 0, .int .i64 0] 37)
        rw [show (V9.drewN 1).heap.size = V9.heap.size from rfl] at n4
        have gL : Below V9.heap.size V9 V4 := e4 ▸ gW.alloc gW.size _
        refine loudr (by rfl) (by kernel_rfl) (fun K2 hK2 => ?_)
        go_simp
        refine hK2 _ _ (BW.of gL) ?_
        clear hK2
        refine tr_one (os := []) (by rfl) (fun Kp hKp => ?_)
        refine wpQuiet_nil ?_
        refine hKp _ ?_
        clear hKp
        refine loudr (by rfl) (by kernel_rfl) (fun K1 hK1 => ?_)
        go_simp
        refine cL.out _ gL _ (Lib.hid fun W5 m5 => ?_)
        have gM := gL.trans (m5.mono gL.size)
        refine hK1 _ _ (BW.of gM) ?_
        clear hK1
        refine tr_last (os := [_, _, _, _]) (by simp only [pickO, List.filterMap_cons, List.filterMap_nil, List.getElem?_toArray, List.getElem?_cons_succ, List.getElem?_cons_zero]; rfl) (fun Kp hKp => ?_)
        repeat (go_big_quiet_step (exact rfl))
        refine wpQuiet_nil ?_
        refine hKp _ ?_
        clear hKp e4
        have n5 := n4.bl m5
        have y0 := n5.c 0 0 rfl rfl
        have yf0 := n5.f 0 0 rfl
        have y1 := n5.c 0 1 rfl rfl
        have yf1 := n5.f 0 1 rfl
        obtain ⟨V6, e6, n6, -⟩ := n5.put (j := 0) rfl [(0, .int .i64 b1_), (1, .int .i64 b2_)]
        simp only [stL] at e6
        simp only [stA, List.setIfInBounds_toArray, List.set_cons_succ, List.set_cons_zero] at n6
        refine loudl (by rfl) (by kernel_rfl) ?_
        go_simp
        go_step
        go_meet
        case rel => exact ⟨_, rfl, rfl, Lib.hid n6⟩
    case rest =>
      clear n p8 b0 cL hbV
      obtain ⟨T, rfl, rfl, n⟩ := hcut
      replace n := n.out.tail
      simp only at hR2
      obtain ⟨V3, rfl⟩ : ∃ V, V = wc := ⟨_, rfl⟩
      have p0 := n.c 1 0 rfl rfl
      have p1 := n.c 1 1 rfl rfl
      have p2 := n.c 1 2 rfl rfl
      have p4 := n.c 1 4 rfl rfl
      have p5 := n.c 1 5 rfl rfl
      have p6 := n.c 1 6 rfl rfl
      have p7 := n.c 1 7 rfl rfl
      obtain ⟨V4, e4, n4, z4⟩ := n.new (.cells #[.string p.name, .bool p.bare, .int .i64 p.at_, .int .i64 (-1), .int .i64 a0, .int .i64 p.wide, .int .i64 p.ck, .int .i64 p.cn, .int .i64 b0_, .int .i64 p.cat] 63)
      clear n
      have n := n4
      clear n4
      go_upto_region 4 with (refine wpList_copy #[.string p.name, .bool p.bare, .int .i64 p.at_, .int .i64 (-1), .int .i64 a0, .int .i64 p.wide, .int .i64 p.ck, .int .i64 p.cn, .int .i64 b0_, .int .i64 p.cat] ⟨rfl, rfl, rfl⟩ ⟨rfl, rfl, rfl⟩ edge_alloc (by kernel_rfl) ⟨rfl, by simp [Value.oneCell']⟩ (fun _ => ⟨rfl, rfl⟩) ?_; go_simp)
      clear e4 z4 p0 p1 p2 p4 p5 p6 p7
      have f5 := n.c 0 5 rfl rfl
      have ff5 := n.f 0 5 rfl
      obtain ⟨wd, hwd⟩ : ∃ z : Int, z = if p.wide = 0 then 3 else p.wide := ⟨_, rfl⟩
      rw [← hwd] at hR2
      replace hwd := Lib.hid hwd
      go_upto_if 55 with fail
      generalize hq0 : (p.wide == 0) = Q0
      replace hq0 := Lib.hid hq0
      go_cut [] from 53 to 56 (fun wx => Hid (Hq (BF base B lv tv tab rh rnv rpv) s s w wx ((V3.heap.size, .cells #[.string p.name, .bool p.bare, .int .i64 p.at_, .int .i64 (-1), .int .i64 a0, .int .i64 wd, .int .i64 p.ck, .int .i64 p.cn, .int .i64 b0_, .int .i64 p.cat] 63) :: [(V1.heap.size, .cells #[.string ⟨#[]⟩, .bool false, .int .i64 0, .int .i64 0, .int .i64 0, .int .i64 0, .int .i64 0, .int .i64 0, .int .i64 0, .int .i64 0] 63), (w.heap.size, .cells (ptL p x (.slice A1 p.label.length n1) (.slice A2 p.cl.length n2) (.slice A5 x.names.length n5) (.slice A7 kd.len n7)).toArray 78)])))
      case first =>
        clear hR2
        cases Q0
        · have hw : ¬ p.wide = 0 := by simpa using hq0.out
          have e : wd = p.wide := by rw [hwd.out, if_neg hw]
          clear hw hq0
          go_wp2_with fail
          go_meet
          case rel => rw [e]; exact Lib.hid n
        · have hw : p.wide = 0 := by simpa using hq0.out
          have e := Lib.hid (show wd = 3 by rw [hwd.out, if_pos hw])
          clear hw hq0
          obtain ⟨V5, e5, n5_, -⟩ := n.put (j := 0) rfl [(5, .int .i64 3)]
          simp only [stL] at e5
          simp only [stA, List.setIfInBounds_toArray, List.set_cons_succ, List.set_cons_zero] at n5_
          go_wp2_with fail
          go_meet
          case rel => rw [e.out]; exact Lib.hid n5_
      case rest =>
        replace n := hcut.out
        clear hcut f5 ff5 hq0
        obtain ⟨V6, rfl⟩ : ∃ V, V = wc := ⟨_, rfl⟩
        have p2 := n.c 2 2 rfl rfl
        go_upto_if 59 with fail
        clear p2
        go_cut [] from 31 to 64 (fun wx => ∃ (s' : BS) (d : Int), Hid (Hq (BF base B lv tv tab rh rnv rpv) s s' w wx ((V3.heap.size, .cells #[.string p.name, .bool p.bare, .int .i64 p.at_, .int .i64 d, .int .i64 a0, .int .i64 wd, .int .i64 p.ck, .int .i64 p.cn, .int .i64 b0_, .int .i64 p.cat] 63) :: [(V1.heap.size, .cells #[.string ⟨#[]⟩, .bool false, .int .i64 0, .int .i64 0, .int .i64 0, .int .i64 0, .int .i64 0, .int .i64 0, .int .i64 0, .int .i64 0] 63), (w.heap.size, .cells (ptL p x (.slice A1 p.label.length n1) (.slice A2 p.cl.length n2) (.slice A5 x.names.length n5) (.slice A7 kd.len n7)).toArray 78)])) ∧ Hid (s'.st = st ∧ d = (if p.bare then (-1, s.nd.map (·.1)) else addT nm F (tgI tys st) x kd (s.nd.map (·.1))).1 ∧ s'.nd.map (·.1) = (if p.bare then (-1, s.nd.map (·.1)) else addT nm F (tgI tys st) x kd (s.nd.map (·.1))).2))
        case first =>
          clear hR2
          cases hbare : p.bare
          · go_upto_region 7 with fail
            have r9 := n.rgd 2 9 rfl
            have hbV := hb.trans (n.below hb.size (hlo s))
            go_wp2_with (refine wpList_load_g (by rfl) 29 _ rfl w.heap.size (9) rfl _ _ r9 Tryz.underlying29 rfl (by kernel_rfl) ?_; go_simp)
            refine ih hbare s x _ _ _ n.inv hbV hxy (gk hbare) hst (by rw [hbare, if_neg (by decide)] at hn; omega) _ (Lib.hid fun W5 s5 hs5 hn5 c5 => ?_)
            replace n := n.call c5
            clear c5 r9 hbV
            have f3 := n.c 0 3 rfl rfl
            have ff3 := n.f 0 3 rfl
            generalize hd : (addT nm F (tgI tys st) x kd (s.nd.map (·.1))).1 = d
            obtain ⟨V7, e7, n7_, -⟩ := n.put (j := 0) rfl [(3, .int .i64 d)]
            simp only [stL] at e7
            simp only [stA, List.setIfInBounds_toArray, List.set_cons_succ, List.set_cons_zero] at n7_
            have hx5 : s5.st = st ∧ d = (if p.bare then (-1, s.nd.map (·.1)) else addT nm F (tgI tys st) x kd (s.nd.map (·.1))).1 ∧ s5.nd.map (·.1) = (if p.bare then (-1, s.nd.map (·.1)) else addT nm F (tgI tys st) x kd (s.nd.map (·.1))).2 := ⟨hs5, by rw [hbare, if_neg (by decide)]; exact hd.symm, by rw [hbare, if_neg (by decide)]; exact hn5⟩
            replace hx5 := Lib.hid hx5
            clear hbare hd hn5 hs5
            go_wp2_with fail
            go_meet
            case rel => exact ⟨s5, d, Lib.hid n7_, hx5⟩
          · have hx5 : s.st = st ∧ (-1 : Int) = (if p.bare then (-1, s.nd.map (·.1)) else addT nm F (tgI tys st) x kd (s.nd.map (·.1))).1 ∧ s.nd.map (·.1) = (if p.bare then (-1, s.nd.map (·.1)) else addT nm F (tgI tys st) x kd (s.nd.map (·.1))).2 := ⟨hst, by rw [hbare, if_pos rfl], by rw [hbare, if_pos rfl]⟩
            replace hx5 := Lib.hid hx5
            go_wp2_with fail
            go_meet
            case rel => exact ⟨s, -1, Lib.hid n, hx5⟩
        case rest =>
          clear n
          obtain ⟨s', d, n, hx5⟩ := hcut
          replace n := n.out
          obtain ⟨x1, x2, x3⟩ := hx5.out
          clear hx5
          go_upto_region 8 with fail
          obtain ⟨V8, rfl⟩ : ∃ V, V = wc := ⟨_, rfl⟩
          have rE := n.rg 0 rfl
          have hG := n.b 1 rfl
          obtain ⟨VE, eE, nE⟩ := n.row (j := 1) rfl #[.string p.name, .bool p.bare, .int .i64 p.at_, .int .i64 d, .int .i64 a0, .int .i64 wd, .int .i64 p.ck, .int .i64 p.cn, .int .i64 b0_, .int .i64 p.cat]
          simp only [List.set_cons_succ, List.set_cons_zero] at nE
          have w_0 := nE.c 1 0 rfl rfl
          have w_1 := nE.c 1 1 rfl rfl
          have w_2 := nE.c 1 2 rfl rfl
          have w_3 := nE.c 1 3 rfl rfl
          have w_4 := nE.c 1 4 rfl rfl
          have w_5 := nE.c 1 5 rfl rfl
          have w_6 := nE.c 1 6 rfl rfl
          have w_7 := nE.c 1 7 rfl rfl
          have w_8 := nE.c 1 8 rfl rfl
          have w_9 := nE.c 1 9 rfl rfl
          have fin := Lib.hid (hR2.out _ s' d x1 x2 x3 nE.fin)
          clear nE n hR2 x1 x2 x3
          go_wp2_with (first | (refine wpList_load_g (by rfl) 63 _ rfl V3.heap.size (0) rfl _ _ rE Tryz.underlying63 rfl (by kernel_rfl) ?_) | (refine wpList_store_row (by rfl) 63 _ _ (by rfl) V1.heap.size #[.string p.name, .bool p.bare, .int .i64 p.at_, .int .i64 d, .int .i64 a0, .int .i64 wd, .int .i64 p.ck, .int .i64 p.cn, .int .i64 b0_, .int .i64 p.cat] (by rfl) (by rfl) 63 _ hG (by kernel_rfl) rfl (by simp [Value.oneCell']) ?_; go_simp))
          first | refine bodyPost_ret ?_ rfl fin.out | refine bodyPost_end ?_ rfl fin.out
          simp [results, Tryz.results136, go_sem, w_0, w_1, w_2, w_3, w_4, w_5, w_6, w_7, w_8, w_9]
end
end Go.Proofs.YtbnmkbpjdelokaaGreat.Res
