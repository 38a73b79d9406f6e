import Derived.Test.YtncijmodlhijoaaGreatQ17
set_option linter.unusedVariables false
set_option maxRecDepth 100000
set_option maxHeartbeats 4000000
namespace Go.Proofs.YtncijmodlhijoaaGreat.Syn
open Go.RowKit Go.Lib Utf Tok Cur Nam Lat Kin
theorem partY16_calls (k : Nat) (hk : KindQ k) (p : PS) (v : Value) (w0 w : World) (hb : Below w0.heap.size w0 w) (hx : RdK w0 v p.1) (ok : Ok p) (hl : p.1.length ≤ 1000000) (hm : (mayS (nameS p).2 lpar).2 = true) (R : Ending → World → Prop)
  (hR : Hid (∀ lv cv nv pv v' w', RdR (empW (lowS w.heap.size) w') (partR (kindR k) true p).1 lv cv nv pv → RdK w0 v' (partR (kindR k) true p).2.1 → Below w.heap.size w w' → R (.returned (.tuple #[prR (partR (kindR k) true p).1 lv cv nv pv, psV v' (partR (kindR k) true p).2])) w')) : Calls Tryz.prog 244 #[psV v p, .bool true, .int .i64 (24 - (k : Int))] w R := by
 have hq : partR (kindR k) true p = if (mayS (nameS p).2 lpar).2 = true then (((marksR (nP (nameS p).1) (markS (kindR k (mayS (nameS p).2 lpar).1).2 rpar)).1, (kindR k (mayS (nameS p).2 lpar).1).1), (marksR (nP (nameS p).1) (markS (kindR k (mayS (nameS p).2 lpar).1).2 rpar)).2) else ((nB (nameS p).1, zTH, .nil), (mayS (nameS p).2 lpar).1) := if_neg (by decide)
 rw [hm, if_pos rfl] at hq
 rw [hq] at hR
 simp only at hR
 clear hq
 obtain ⟨A0, cp, rfl, hlc, -⟩ := hx.op
 have gn := gd_name p ok
 obtain ⟨V, eV, hA, hG, hS, n, -, zz1, zz2⟩ := box3 w (.cells #[.slice A0 p.1.length cp, .int .i64 p.2.1, .int .i64 p.2.2] 142) (.cells #[.string ⟨#[]⟩, .int .i64 0, .bool false, .slice none 0 0, .int .i64 0, .int .i64 0, .int .i64 0, .int .i64 0, .slice none 0 0, .int .i64 0, .int .i64 0, .int .i64 0, .int .i64 0, .int .i64 0, .slice none 0 0, .slice none 0 0, .string ⟨#[]⟩, .int .i64 0] 92) (.cells #[.slice none 0 0, .int .i64 0, .int .i64 0] 142)
 replace eV := Lib.hid eV
 go_enter Tryz.func244, Tryz.ntmps244
 go_upto_region 1 with fail
 rw [eV.out]
 clear eV zz1 zz2
 have hbV := hb.trans (n.mono hb.size)
 obtain ⟨a0, a1, a2⟩ := cl3 hA
 go_wp2_with fail
 refine name16_calls p (.slice A0 p.1.length cp) w0 _ hbV hx ok _ (Lib.hid fun v1 w1 r1 m1 => ?_)
 obtain ⟨A1, c1, rfl, -, -⟩ := r1.op
 replace hA := obB m1 hA
 replace hG := obB m1 hG
 replace hS := obB m1 hS
 replace n := n.trans (m1.mono n.size)
 clear m1 hbV a0 a1 a2
 generalize (nameS p).1 = x at *
 generalize (nameS p).2 = q1 at *
 obtain ⟨x0, x1⟩ := x
 have lX : w.heap.size + 2 < w1.heap.size := blt hS
 obtain ⟨o1_, ho1_⟩ : ∃ oO_ : Obj, oO_ = .cells #[.string x0, .int .i64 x1] 27 := ⟨_, rfl⟩
 have hX := heap_alloc_new w1 o1_
 replace hA := obB (alB w1 o1_) hA
 replace hG := obB (alB w1 o1_) hG
 replace hS := obB (alB w1 o1_) hS
 replace n := n.trans ((alB w1 o1_).mono n.size)
 subst ho1_
 obtain ⟨u0, uf0, u1, uf1, u2, uf2⟩ := cf3 hA
 generalize hV1 : w1.alloc (.cells #[.string x0, .int .i64 x1] 27) = V1 at *
 generalize hX0 : w1.heap.size = X at *
 obtain ⟨L5_0, hL5_0⟩ : ∃ L : List (Nat × Value), L = [(0, .slice A1 q1.1.length c1), (1, .int .i64 q1.2.1), (2, .int .i64 q1.2.2)] := ⟨_, rfl⟩
 replace hA := stB_s L5_0 hA
 replace hG := (stB_o (B := w.heap.size) (by omega) L5_0).trans hG
 replace hS := (stB_o (B := w.heap.size) (by omega) L5_0).trans hS
 replace hX := (stB_o (B := w.heap.size) (by omega) L5_0).trans hX
 replace n := stB_n (B := w.heap.size) (by omega) L5_0 n
 obtain ⟨VS5, hVS5⟩ : ∃ W, stB V1 (w.heap.size) L5_0 = W := ⟨_, rfl⟩
 rw [hVS5] at hA hG hS hX n
 subst hL5_0
 simp only [stC, List.setIfInBounds_toArray, List.set_cons_succ, List.set_cons_zero] at hA
 simp only [stB] at hVS5
 go_upto_region 2 with fail
 clear hV1 hX0 u0 uf0 u1 uf1 u2 uf2
 clear hVS5
 generalize VS5 = V2 at *
 have s0 := (Lib.cell_of_heap hX 0).trans rfl
 have s1 := (Lib.cell_of_heap hX 1).trans rfl
 have lD : X < V2.heap.size := blt hX
 obtain ⟨V3, eV, hD, m_, -⟩ := box1 V2 (.cells #[.string x0, .int .i64 x1, .bool false, .slice none 0 0, .int .i64 0, .int .i64 0, .int .i64 0, .int .i64 0, .slice none 0 0, .int .i64 0, .int .i64 0, .int .i64 0, .int .i64 0, .int .i64 0, .slice none 0 0, .slice none 0 0, .string ⟨#[]⟩, .int .i64 0] 92)
 replace eV := Lib.hid eV
 replace hA := obB m_ hA
 replace hG := obB m_ hG
 replace hS := obB m_ hS
 replace hX := obB m_ hX
 replace n := n.trans (m_.mono n.size)
 go_upto_region 3 with (refine wpList_copy #[.string x0, .int .i64 x1, .bool false, .slice none 0 0, .int .i64 0, .int .i64 0, .int .i64 0, .int .i64 0, .slice none 0 0, .int .i64 0, .int .i64 0, .int .i64 0, .int .i64 0, .int .i64 0, .slice none 0 0, .slice none 0 0, .string ⟨#[]⟩, .int .i64 0] ⟨rfl, rfl, rfl⟩ ⟨rfl, rfl, rfl⟩ part_alloc (by kernel_rfl) ⟨rfl, by simp [Value.oneCell']⟩ (fun _ => ⟨rfl, rfl⟩) ?_; go_simp)
 rw [eV.out]
 clear eV m_
 generalize V2.heap.size = D at *
 clear s0 s1
 go_upto_region 6 with fail
 have hbV := hb.trans (n.mono hb.size)
 have gm := gd_may q1 lpar gn.1
 obtain ⟨a0, a1, a2⟩ := cl3 hA
 go_wp2_with fail
 refine may16_calls q1 (.slice A1 q1.1.length c1) w0 _ hbV r1 gn.1 lpar _ (Lib.hid fun v4 w4 r4 m4 => ?_)
 obtain ⟨A4, c4, rfl, -, -⟩ := r4.op
 replace hA := obB m4 hA
 replace hG := obB m4 hG
 replace hS := obB m4 hS
 replace hX := obB m4 hX
 replace hD := obB m4 hD
 replace n := n.trans (m4.mono n.size)
 clear m4 hbV a0 a1 a2
 rw [hm]
 clear hm
 generalize (mayS q1 lpar).1 = q2 at *
 obtain ⟨u0, uf0, u1, uf1, u2, uf2⟩ := cf3 hA
 obtain ⟨L7_0, hL7_0⟩ : ∃ L : List (Nat × Value), L = [(0, .slice A4 q2.1.length c4), (1, .int .i64 q2.2.1), (2, .int .i64 q2.2.2)] := ⟨_, rfl⟩
 replace hA := stB_s L7_0 hA
 replace hG := (stB_o (B := w.heap.size) (by omega) L7_0).trans hG
 replace hS := (stB_o (B := w.heap.size) (by omega) L7_0).trans hS
 replace hX := (stB_o (B := w.heap.size) (by omega) L7_0).trans hX
 replace hD := (stB_o (B := w.heap.size) (by omega) L7_0).trans hD
 replace n := stB_n (B := w.heap.size) (by omega) L7_0 n
 obtain ⟨VS7, hVS7⟩ : ∃ W, stB w4 (w.heap.size) L7_0 = W := ⟨_, rfl⟩
 rw [hVS7] at hA hG hS hX hD n
 subst hL7_0
 simp only [stC, List.setIfInBounds_toArray, List.set_cons_succ, List.set_cons_zero] at hA
 simp only [stB] at hVS7
 go_upto_region 7 with fail
 clear u0 uf0 u1 uf1 u2 uf2
 clear hVS7
 generalize VS7 = V4 at *
 go_upto_region 10 with fail
 have hbV := hb.trans (n.mono hb.size)
 have gk := gd_kindR k q2 gm.1
 obtain ⟨a0, a1, a2⟩ := cl3 hA
 go_wp2_with fail
 refine hk q2 (.slice A4 q2.1.length c4) w0 _ hbV r4 gm.1 (by omega) _ (Lib.hid fun nv pv v5 w5 r5 rk m5 => ?_)
 obtain ⟨A3, c3, rfl, -, -⟩ := r5.n.op
 obtain ⟨A4', c4', rfl, -⟩ := r5.p.sl
 obtain ⟨A5, c5, rfl, -, -⟩ := rk.op
 have lDV : D < V4.heap.size := blt hD
 replace r5 := RdY.kp (kp_lw (b0 := D + 1) (by omega)) r5
 replace hA := obB m5 hA
 replace hG := obB m5 hG
 replace hS := obB m5 hS
 replace hX := obB m5 hX
 replace hD := obB m5 hD
 replace n := n.trans (m5.mono n.size)
 clear m5 hbV r4 a0 a1 a2
 generalize kindR k q2 = K at *
 obtain ⟨⟨hh, ff⟩, q3⟩ := K
 simp only at r5 rk gk hR
 have y9 := (Lib.cell_of_heap hD 9).trans rfl
 have yf9 := Lib.frozen_of_heap hD 9
 have y10 := (Lib.cell_of_heap hD 10).trans rfl
 have yf10 := Lib.frozen_of_heap hD 10
 have y11 := (Lib.cell_of_heap hD 11).trans rfl
 have yf11 := Lib.frozen_of_heap hD 11
 have y12 := (Lib.cell_of_heap hD 12).trans rfl
 have yf12 := Lib.frozen_of_heap hD 12
 have y13 := (Lib.cell_of_heap hD 13).trans rfl
 have yf13 := Lib.frozen_of_heap hD 13
 have y14 := (Lib.cell_of_heap hD 14).trans rfl
 have yf14 := Lib.frozen_of_heap hD 14
 have y15 := (Lib.cell_of_heap hD 15).trans rfl
 have yf15 := Lib.frozen_of_heap hD 15
 have y16 := (Lib.cell_of_heap hD 16).trans rfl
 have yf16 := Lib.frozen_of_heap hD 16
 have y17 := (Lib.cell_of_heap hD 17).trans rfl
 have yf17 := Lib.frozen_of_heap hD 17
 obtain ⟨u0, uf0, u1, uf1, u2, uf2⟩ := cf3 hA
 clear hX
 obtain ⟨L8_0, hL8_0⟩ : ∃ L : List (Nat × Value), L = [(9, .int .i64 hh.kind), (10, .int .i64 hh.at_), (11, .int .i64 hh.lo), (12, .int .i64 hh.hi), (13, .int .i64 hh.most), (14, .slice A3 hh.names.length c3), (15, .slice A4' ff.len c4'), (16, .string hh.name), (17, .int .i64 hh.nat)] := ⟨_, rfl⟩
 obtain ⟨L8_1, hL8_1⟩ : ∃ L : List (Nat × Value), L = [(0, .slice A5 q3.1.length c5), (1, .int .i64 q3.2.1), (2, .int .i64 q3.2.2)] := ⟨_, rfl⟩
 replace hA := (stB_o (B := D) (by omega) L8_0).trans hA
 replace hG := (stB_o (B := D) (by omega) L8_0).trans hG
 replace hS := (stB_o (B := D) (by omega) L8_0).trans hS
 replace hD := stB_s L8_0 hD
 replace n := stB_n (B := D) (by omega) L8_0 n
 replace r5 := RdY.kp (stB_k (B := D) (b := D + 1) (by omega) L8_0) r5
 replace hA := stB_s L8_1 hA
 replace hG := (stB_o (B := w.heap.size) (by omega) L8_1).trans hG
 replace hS := (stB_o (B := w.heap.size) (by omega) L8_1).trans hS
 replace hD := (stB_o (B := w.heap.size) (by omega) L8_1).trans hD
 replace n := stB_n (B := w.heap.size) (by omega) L8_1 n
 replace r5 := RdY.kp (stB_k (B := w.heap.size) (b := D + 1) (by omega) L8_1) r5
 obtain ⟨VS8, hVS8⟩ : ∃ W, stB (stB w5 D L8_0) (w.heap.size) L8_1 = W := ⟨_, rfl⟩
 rw [hVS8] at hA hG hS hD n r5
 subst hL8_0 hL8_1
 simp only [stC, List.setIfInBounds_toArray, List.set_cons_succ, List.set_cons_zero] at hA hD
 simp only [stB] at hVS8
 go_upto_region 11 with fail
 clear u0 uf0 u1 uf1 u2 uf2 y9 yf9 y10 yf10 y11 yf11 y12 yf12 y13 yf13 y14 yf14 y15 yf15 y16 yf16 y17 yf17
 clear hVS8
 generalize VS8 = V5 at *
 have hbV := hb.trans (n.mono hb.size)
 have gr := gd_mark q3 rpar gk.1
 have jD := jf (p := w.heap.size + 1) (q := w.heap.size + 2) hD (by omega) (by omega)
 have jA := jf (p := w.heap.size + 1) (q := w.heap.size + 2) hA (by omega) (by omega)
 refine wp_region_mixG (w.heap.size + 1) (w.heap.size + 2) [([0, 2], 1), ([], 3), ([4, 5], 6), ([], 7)] [] (by kernel_rfl) (by kernel_rfl) (by kernel_rfl) (by kernel_rfl) (fun _ _ d _ _ h => by cases d <;> exact h) ?_
 have gW : Below V5.heap.size V5 (V5.drewN 1) := ⟨rfl, rfl, rfl, Nat.le_refl _, fun _ _ => rfl⟩
 replace hG := obB gW hG
 replace hS := obB gW hS
 replace n := n.trans (gW.mono n.size)
 replace r5 := RdY.kp (emp_bl (b0 := D + 1) (Nat.le_refl _) gW) r5
 refine mix_cons (os := [_, _]) (by simp only [pickO, List.filterMap_cons, List.filterMap_nil, List.getElem?_toArray, List.getElem?_cons_succ, List.getElem?_cons_zero]; rfl) (fun Kp hKp => ?_)
 refine wpQuiet_load rfl 142 _ rfl (w.heap.size) 0 rfl _ _ jA Tryz.underlying142 rfl (by kernel_rfl) ?_
 go_simp
 refine wpQuiet_load rfl 92 _ rfl (D) 0 rfl _ _ jD Tryz.underlying92 rfl (by kernel_rfl) ?_
 go_simp
 refine wpQuiet_nil ?_
 refine hKp _ ?_
 clear hKp
 refine loud (by rfl) (by kernel_rfl) (fun K1 hK1 => ?_)
 go_simp
 refine mark16_calls q3 (.slice A5 q3.1.length c5) w0 _ (hbV.trans (gW.mono hbV.size)) rk gk.1 rpar _ (Lib.hid fun v6 w6 r6 m6 => ?_)
 obtain ⟨A9, c9, rfl, -, -⟩ := r6.op
 have gL := gW.trans (m6.mono gW.size)
 refine hK1 _ _ (GW.bl gL) ?_
 clear hK1
 replace r5 := RdY.kp (emp_bl (b0 := D + 1) (Nat.le_refl _) m6) r5
 replace hG := obB m6 hG
 replace hS := obB m6 hS
 replace n := n.trans (m6.mono n.size)
 generalize markS q3 rpar = q5 at *
 refine mix_cons (os := []) (by rfl) (fun Kp hKp => ?_)
 refine wpQuiet_nil ?_
 refine hKp _ ?_
 clear hKp
 refine loud (by rfl) (by kernel_rfl) (fun K2 hK2 => ?_)
 go_simp
 refine marks16_calls (nP (x0, x1)) x0 hh.name x1 hh.kind hh.at_ hh.lo hh.hi hh.most hh.nat false A3 A4' hh.names.length ff.len c3 c4' q5 (.slice A9 q5.1.length c9) w0 _ (hbV.trans (gL.mono hbV.size)) r6 gr.1 (by omega) _ (Lib.hid fun lv cv v7 w7 rl rc r7 m7 => ?_)
 obtain ⟨A6, c6, rfl, -, -⟩ := rl.op
 obtain ⟨A7, c7, rfl, -, -⟩ := rc.op
 obtain ⟨A8, c8, rfl, -, -⟩ := r7.op
 have lDW : D < w6.heap.size := Nat.lt_of_lt_of_le (blt hD) gL.size
 have gM := gL.trans (m7.mono gL.size)
 refine hK2 _ _ (GW.bl gM) ?_
 clear hK2
 replace rl := rl.kp (kp_lw (b0 := D + 1) (by omega))
 replace rc := rc.kp (kp_lw (b0 := D + 1) (by omega))
 replace r5 := RdY.kp (emp_bl (b0 := D + 1) (Nat.le_refl _) m7) r5
 replace hG := obB m7 hG
 replace hS := obB m7 hS
 replace n := n.trans (m7.mono n.size)
 have e1 : (marksR (nP (x0, x1)) q5).1.name = x0 ∧ (marksR (nP (x0, x1)) q5).1.at_ = x1 ∧ (marksR (nP (x0, x1)) q5).1.bare = false := ⟨rfl, rfl, rfl⟩
 generalize marksR (nP (x0, x1)) q5 = M at *
 obtain ⟨⟨y_0, y_1, y_2, y_l, y_w, y_k, y_n, y_a, y_c⟩, q6⟩ := M
 simp only at rl rc r7 e1 hR ⊢
 obtain ⟨e1, e2, e3⟩ := e1
 replace e1 := e1.symm
 replace e2 := e2.symm
 replace e3 := e3.symm
 subst e1 e2 e3
 refine mix_cons (os := [_, _]) (by simp only [pickO, List.filterMap_cons, List.filterMap_nil, List.getElem?_toArray, List.getElem?_cons_succ, List.getElem?_cons_zero]; rfl) (fun Kp hKp => ?_)
 repeat (go_big_quiet_step (exact rfl))
 refine wpQuiet_nil ?_
 refine hKp _ ?_
 clear hKp
 refine loud (by rfl) (by kernel_rfl) (fun K4 hK4 => ?_)
 obtain ⟨LV, hLV⟩ : ∃ L : List Value, L = [.string x0, .int .i64 x1, .bool false, .slice A6 y_l.length c6, .int .i64 y_w, .int .i64 y_k, .int .i64 y_n, .int .i64 y_a, .slice A7 y_c.length c7, .int .i64 hh.kind, .int .i64 hh.at_, .int .i64 hh.lo, .int .i64 hh.hi, .int .i64 hh.most, .slice A3 hh.names.length c3, .slice A4' ff.len c4', .string hh.name, .int .i64 hh.nat] := ⟨_, rfl⟩
 obtain ⟨ht_, gp_, hq_, n_, xx⟩ := sc_all LV hG (by rw [hLV]; rfl) (GW.bl gM) (by omega) hS (by omega) n
 have r9 : RdR (empW (lowS (D + 1)) _) ((⟨x0, x1, false, y_l, y_w, y_k, y_n, y_a, y_c⟩ : PH), hh, ff) (.slice A6 y_l.length c6) (.slice A7 y_c.length c7) (.slice A3 hh.names.length c3) (.slice A4' ff.len c4') := RdR.kp ⟨rl, rc, r5⟩ (kpL (b := D + 1) (p := w.heap.size + 1) (by omega) LV)
 refine wp_store_mid 92 _ _ (by rfl) (w.heap.size + 1) 0 LV.toArray (by rfl) (by rw [hLV]; rfl) ht_ (by rw [hLV]; kernel_rfl) (by rw [hLV]; simp [Value.oneCell']) ?_
 rw [show LV.toArray.toList = LV from rfl]
 refine hK4 _ _ gp_ ?_
 clear hK4 ht_
 generalize w7.setCells (w.heap.size + 1) 0 LV = W8 at *
 refine mix_cons (os := []) (by rfl) (fun Kp hKp => ?_)
 refine wpQuiet_nil ?_
 refine hKp _ ?_
 clear hKp
 refine loud (by rfl) (by kernel_rfl) (fun K5 hK5 => ?_)
 obtain ⟨z0, zf0, z1, zf1, z2, zf2⟩ := cf3 hq_
 obtain ⟨gq_, n9, xx⟩ := st3 gp_ (by omega) (by omega) n_ xx (.slice A8 q6.1.length c8) (.int .i64 q6.2.1) (.int .i64 q6.2.2)
 go_simp
 refine hK5 _ _ gq_ ?_
 clear hK5
 refine mix_nil (os := []) (by rfl) (fun Kp hKp => ?_)
 refine wpQuiet_nil ?_
 refine hKp _ ?_
 clear hKp
 have rF := (r9.kp (kp3 (b := D + 1) (q := w.heap.size + 2) (by omega) (.slice A8 q6.1.length c8) (.int .i64 q6.2.1) (.int .i64 q6.2.2))).kp (kp_lw (b0 := w.heap.size) (by omega))
 have fin := Lib.hid (hR.out _ _ _ _ _ _ rF r7 n9)
 clear hR
 clear gp_ gq_
 subst hLV
 go_wp2_with fail
 refine bodyPost_ret ?_ rfl fin.out
 simp [results, Tryz.results244, go_sem, xx.out 0 _ rfl, xx.out 1 _ rfl, xx.out 2 _ rfl, xx.out 3 _ rfl, xx.out 4 _ rfl, xx.out 5 _ rfl, xx.out 6 _ rfl, xx.out 7 _ rfl, xx.out 8 _ rfl, xx.out 9 _ rfl, xx.out 10 _ rfl, xx.out 11 _ rfl, xx.out 12 _ rfl, xx.out 13 _ rfl, xx.out 14 _ rfl, xx.out 15 _ rfl, xx.out 16 _ rfl, xx.out 17 _ rfl, z0, z1, z2]
theorem part16_calls (k : Nat) (hk : KindQ k) (tag : Bool) (p : PS) (v : Value) (w0 w : World) (hb : Below w0.heap.size w0 w) (hx : RdK w0 v p.1) (ok : Ok p) (hl : p.1.length ≤ 1000000) (R : Ending → World → Prop)
  (hR : Hid (∀ lv cv nv pv v' w', RdR (empW (lowS w.heap.size) w') (partR (kindR k) tag p).1 lv cv nv pv → RdK w0 v' (partR (kindR k) tag p).2.1 → Below w.heap.size w w' → R (.returned (.tuple #[prR (partR (kindR k) tag p).1 lv cv nv pv, psV v' (partR (kindR k) tag p).2])) w')) : Calls Tryz.prog 244 #[psV v p, .bool tag, .int .i64 (24 - (k : Int))] w R := by
 cases tag
 ·exact partF16_calls k hk p v w0 w hb hx ok hl R hR
 ·cases hm : (mayS (nameS p).2 lpar).2
  ·exact partN16_calls k hk p v w0 w hb hx ok hl hm R hR
  ·exact partY16_calls k hk p v w0 w hb hx ok hl hm R hR
theorem ofL_snocR : ∀ (l : List Pt) (x : Pt), ofL (l ++ [x]) = (ofL l).snoc x.1 x.2.1 x.2.2
 | [], x => rfl
 | y :: l, x => by
  show Fo.cons y.1 y.2.1 y.2.2 (ofL (l ++ [x])) = _
  rw [ofL_snocR l x]
  rfl
abbrev RdsR (w : World) (xs : List Value) (f : Ft) : Prop := RdsF 9 9 hdT plT w xs f
theorem RdsR.kp {w w' : World} {xs : List Value} {f : Ft} (h : RdsR w xs f) (k : Kp w w') : RdsR w' xs f := RdsF.kp (hd := hdT) (pl := plT) (fun _ _ _ _ _ q h => hdT.kp q h) (fun _ _ _ _ q h => plT.kp q h) k h
abbrev prX (y : Pt) (lv cv nv pv : Value) : List Value := [.string y.1.name, .int .i64 y.1.at_, .bool y.1.bare, lv, .int .i64 y.1.wide, .int .i64 y.1.ck, .int .i64 y.1.cn, .int .i64 y.1.cat, cv, .int .i64 y.2.1.kind, .int .i64 y.2.1.at_, .int .i64 y.2.1.lo, .int .i64 y.2.1.hi, .int .i64 y.2.1.most, nv, pv, .string y.2.1.name, .int .i64 y.2.1.nat]
theorem RdsR.snoc {w : World} {xs : List Value} {l : List Pt} {y : Pt} {lv cv nv pv : Value} (h : RdsR w xs (ofL l)) (e : RdR w y lv cv nv pv) : RdsR w (xs ++ prX y lv cv nv pv) (ofL (l ++ [y])) := by
 rw [ofL_snocR]
 exact RdsF.snoc (k := 9) (pre := 9) (hd := hdT) (pl := plT) (ps := [.string y.1.name, .int .i64 y.1.at_, .bool y.1.bare, lv, .int .i64 y.1.wide, .int .i64 y.1.ck, .int .i64 y.1.cn, .int .i64 y.1.cat, cv]) (ts := [.int .i64 y.2.1.kind, .int .i64 y.2.1.at_, .int .i64 y.2.1.lo, .int .i64 y.2.1.hi, .int .i64 y.2.1.most, nv, pv, .string y.2.1.name, .int .i64 y.2.1.nat]) (l := y.1) (x := y.2.1) (kids := y.2.2) rfl ⟨_, _, rfl, e.l, e.c⟩ ⟨rfl, _, ⟨_, rfl, e.t.n⟩, e.t.p⟩ h
theorem rowsR {w : World} {base n : Nat} {v : Value} {xs : List Value} {f : Ft} (own : w.ownsRow base 92 18 v n xs) (hn : n = f.len) (rd : RdsR (empW (rowS base v) w) xs f) : RdP (empW (lowS base) w) v f := by
 subst hn
 have k : Kp (empW (rowS base v) w) (empW (lowS base) w) := emp_kp (Nat.le_refl _) fun g _ h => ⟨fun q => h (.inl q), rfl⟩
 have rd2 := RdsR.kp rd k
 have h0 := own
 obtain ⟨hl, ⟨rfl, hn⟩ | ⟨g, cap, cur, rfl, hb, hg, hn, hm, hc, ht⟩⟩ := own
 ·exact ⟨none, 0, by rw [hn], by omega, fun h => absurd h (by omega)⟩
 ·refine ⟨_, cap, rfl, hn, fun _ => ⟨g, 0, rfl, ?_, RdsF.fo rd2 fun j u hj => ?_⟩⟩
  ·rw [emp_size]
   exact (h0.lt g rfl).2
  ·have := h0.cells (g := g) rfl j u hj
   rw [Addr.add_lit] at this
   exact emp_cell.2 ⟨by unfold lowS; omega, this⟩
theorem rowNewR {w w4 : World} {base n : Nat} {v v' : Value} {xs : List Value} (own : w.ownsRow base 92 18 v n xs) (gr : w.grownBy w4 v.ownBlock) (hfr : v'.ownBlock = v.ownBlock ∨ v'.ownBlock = some (w.heap.size + 1)) {b0 : Nat} (h0 : base ≤ b0) :
  Kp (empW (rowS base v) w) (empW (rowS base v') w4) ∧ ((∀ b, v.ownBlock = some b → b < b0) → Kp (empW (lowS b0) w) (empW (rowS base v') w4)) := by
 have new : ∀ g, g < w.heap.size → base ≤ g → v.ownBlock ≠ some g → ¬ rowS base v' g ∧ w4.heap[g]? = w.heap[g]? := fun g h1 h2 h3 => ⟨by
  rintro (q | q)
  ·omega
  ·rcases hfr with h | h
   ·exact h3 (h ▸ q)
   ·rw [h] at q
    simp only [Option.some.injEq] at q
    omega, gr.block g h1 (fun q => h3 q.symm)⟩
 refine ⟨emp_kp gr.size fun g h1 h2 => new g h1 (Nat.le_of_not_lt fun q => h2 (.inl q)) (fun q => h2 (.inr q)), fun hb => emp_kp gr.size fun g h1 h2 => ?_⟩
 have h3 : b0 ≤ g := Nat.le_of_not_lt h2
 exact new g h1 (by omega) (fun q => by have := hb g q; omega)
theorem kp_rowbl {w w' : World} {base : Nat} {v : Value} (m : Below w.heap.size w w') : Kp (empW (rowS base v) w) (empW (rowS base v) w') := emp_kp m.size fun g h1 h2 => ⟨h2, m.block g h1⟩
theorem kp_rowset {w : World} {base B o : Nat} {v u : Value} (h : B < base) : Kp (empW (rowS base v) w) (empW (rowS base v) (w.setCell ⟨B, o, none⟩ u)) := emp_kp (by simp [World.setCell]) fun g h1 h2 => ⟨h2, sneR fun q => h2 (.inl (by omega))⟩
theorem prInfoR : (Tryz.prog.info? 92).map (fun i => (i.zero, i.size, i.bytes)) = some (some (.agg #[.string ⟨#[]⟩, .int .i64 0, .bool false, .slice none 0 0, .int .i64 0, .int .i64 0, .int .i64 0, .int .i64 0, .slice none 0 0, .int .i64 0, .int .i64 0, .int .i64 0, .int .i64 0, .int .i64 0, .slice none 0 0, .slice none 0 0, .string ⟨#[]⟩, .int .i64 0]), 18, 224) := by kernel_rfl
end Go.Proofs.YtncijmodlhijoaaGreat.Syn
