import Derived.Test.YtncijmodlhijoaaGreatQ12
set_option linter.unusedVariables false
set_option maxRecDepth 100000
set_option maxHeartbeats 4000000
namespace Go.Proofs.YtncijmodlhijoaaGreat.Syn
open Go.RowKit Go.Lib Utf Tok Cur Nam Lat Kin
theorem coa_ok {p : PS} (h : Ok p) : Ok (coaS p).2 := by
  have see : ∀ (c : Int × Int × Int) (q : PS), Ok q → Ok (seeS c q).2 := fun c q hq => by
    unfold seeS
    split
    · exact sep_ok gd_name _ _ (may_ok hq)
    · exact may_ok hq
  unfold coaS
  repeat' split
  · exact h
  · exact wrong_ok h
  · rename_i a b c
    exact see _ _ (gd_num _ (on_ok h (by have : (Cur.hdT p.1).1 = 1 := by simpa using b
                                         rw [this]; decide))).1
  · rename_i a b _ c
    exact see _ _ (gd_num _ (on_ok h (by have : (Cur.hdT p.1).1 = 1 := by simpa using b
                                         rw [this]; decide))).1
  · rename_i a b _ _ c
    exact see _ _ (on_ok h (by have : (Cur.hdT p.1).1 = 1 := by simpa using b
                               rw [this]; decide))
  · exact h
theorem emp_set {W : World} {b b0 B : Nat} (h : b0 ≤ b) (hB : B < b) (o : Nat) (v : Value) : Kp (empW (lowS b) W) (empW (lowS b0) (W.setCell ⟨B, o, none⟩ v)) :=
 emp_kp (by simp [World.setCell]) fun g h1 h2 => ⟨by unfold lowS at *; omega, sneR (by unfold lowS at h2; omega)⟩
theorem emp_bl {W W' : World} {b b0 : Nat} (h : b0 ≤ b) (m : Below W.heap.size W W') : Kp (empW (lowS b) W) (empW (lowS b0) W') := emp_kp m.size fun g h1 h2 => ⟨by unfold lowS at *; omega, m.block g h1⟩
theorem rdw_none (w : World) : RdW w (.slice none 0 0) [] := RdG.none0 _ _ _
theorem tl_sFloor : sFloor.toList = [102, 108, 111, 111, 114] := by kernel_rfl
theorem tl_sFirst : sFirst.toList = [102, 105, 114, 115, 116] := by kernel_rfl
theorem tl_sCount : sCount.toList = [99, 111, 117, 110, 116] := by kernel_rfl
theorem tl_sBool : sBool.toList = [98, 111, 111, 108] := by kernel_rfl
theorem tl_sInt : sInt.toList = [105, 110, 116] := by kernel_rfl
theorem tl_sText : sText.toList = [116, 101, 120, 116] := by kernel_rfl
theorem tl_sEnum : sEnum.toList = [101, 110, 117, 109] := by kernel_rfl
theorem tl_sList : sList.toList = [108, 105, 115, 116] := by kernel_rfl
theorem tl_sOpt : sOpt.toList = [111, 112, 116] := by kernel_rfl
theorem tl_sRecord : sRecord.toList = [114, 101, 99, 111, 114, 100] := by kernel_rfl
theorem tl_sUnion : sUnion.toList = [117, 110, 105, 111, 110] := by kernel_rfl
theorem tl_sRef : sRef.toList = [114, 101, 102] := by kernel_rfl
theorem coarse16_calls (p : PS) (v : Value) (w0 w : World) (hb : Below w0.heap.size w0 w) (hx : RdK w0 v p.1) (ok : Ok p) (hl : p.1.length ≤ 1000000) (R : Ending → World → Prop)
  (hR : Hid (∀ lv v' w', RdW (empW (lowS w.heap.size) w') lv (coaS p).1.2.2.2 → RdK w0 v' (coaS p).2.1 → Ok (coaS p).2 → Below w.heap.size w w' → R (.returned (.tuple #[.agg #[.int .i64 (coaS p).1.1, .int .i64 (coaS p).1.2.1, .int .i64 (coaS p).1.2.2.1, lv], psV v' (coaS p).2])) w')) : Calls Tryz.prog 325 #[psV v p] w R := by
 have okC := coa_ok ok
 have hq : coaS p = if p.2.1 ≠ 0 then ((0, 0, 0, []), p) else if (Cur.hdT p.1).1 ≠ 1 then ((0, 0, (Cur.hdT p.1).2.1, []), wrongS p) else if (Cur.hdT p.1).2.2.2.1 = sFloor then seeS (1, (numS (onS p)).1, (Cur.hdT p.1).2.1) (numS (onS p)).2 else if (Cur.hdT p.1).2.2.2.1 = sFirst then seeS (2, (numS (onS p)).1, (Cur.hdT p.1).2.1) (numS (onS p)).2 else if (Cur.hdT p.1).2.2.2.1 = sCount then seeS (3, 0, (Cur.hdT p.1).2.1) (onS p) else ((0, 0, (Cur.hdT p.1).2.1, []), (p.1, 9, (Cur.hdT p.1).2.1)) := rfl
 obtain ⟨A, cp, rfl, hlc, hr⟩ := hx.op
 have hlen : 0 < p.1.length := List.length_pos_iff.2 (EndL.ne ok)
 obtain ⟨g, o, rfl, hg, hca⟩ := hr hlen
 obtain ⟨x0, x1, x2, x3, x4⟩ := hca 0 hlen
 rw [hd_tN (EndL.ne ok)] at x0 x1 x2 x3 x4
 simp only [Nat.zero_mul, Nat.add_zero] at x0 x1 x2 x3 x4
 have i1 : (0 : Int) < (p.1.length : Int) := by omega
 clear hr hca
 obtain ⟨V, eV, hA, hC, hP, n, -, zz1, zz2⟩ := box3 w (.cells #[.slice (some ⟨g, o, none⟩) p.1.length cp, .int .i64 p.2.1, .int .i64 p.2.2] 142) (.cells #[.int .i64 0, .int .i64 0, .int .i64 0, .slice none 0 0] 90) (.cells #[.slice none 0 0, .int .i64 0, .int .i64 0] 142)
 replace eV := Lib.hid eV
 go_enter Tryz.func325, Tryz.ntmps325
 go_upto_region 1 with fail
 rw [eV.out]
 clear eV zz1 zz2
 have hbV := hb.trans (n.mono hb.size)
 obtain ⟨j0, j1, j2⟩ := cl3 hA
 go_wp2_with fail
 refine fine16_calls (.slice (some ⟨g, o, none⟩) p.1.length cp) p ⟨_, _, _, rfl⟩ V _ (Lib.hid fun w1 n1 => ?_)
 replace hA := obB n1 hA
 replace hC := obB n1 hC
 replace hP := obB n1 hP
 replace n := n.trans (n1.mono n.size)
 clear j0 j1 j2 n1 hbV
 by_cases he : p.2.1 = 0
 ·have he0 : p.2.1 = 0 := he
  rw [decide_eq_true he0]
  rw [if_neg (by simpa using he0)] at hq
  clear he0
  have hbV := hb.trans (n.mono hb.size)
  have c0 := (hbV.cell (p := ⟨g, o, none⟩) hg).trans x0
  have c1 := (hbV.cell (p := ⟨g, o + 1, none⟩) hg).trans x1
  have c2 := (hbV.cell (p := ⟨g, o + 2, none⟩) hg).trans x2
  have c3 := (hbV.cell (p := ⟨g, o + 3, none⟩) hg).trans x3
  have c4 := (hbV.cell (p := ⟨g, o + 4, none⟩) hg).trans x4
  have cw := fun (W : World) (m : Below w.heap.size w W) => wrong16_calls p (.slice (some ⟨g, o, none⟩) p.1.length cp) w0 W (hb.trans (m.mono hb.size)) hx ok
  have co := fun (W : World) (m : Below w.heap.size w W) => on16_calls p (.slice (some ⟨g, o, none⟩) p.1.length cp) w0 W (hb.trans (m.mono hb.size)) hx ok (.inr hlen)
  clear x0 x1 x2 x3 x4 he hbV
  have okO : (Cur.hdT p.1).1 = 1 → Ok (onS p) := fun h => on_ok ok (by rw [h]; decide)
  generalize Cur.hdT p.1 = tk at *
  obtain ⟨t0, t1, t2, t3, t4⟩ := tk
  simp only at hq c0 c1 c2 c3 c4 okO
  have j0 := (Lib.cell_of_heap hA 0).trans rfl
  have lT : w.heap.size + 2 < w1.heap.size := blt hP
  obtain ⟨V2, eV, hT, m_, -⟩ := box1 w1 (.cells #[.int .i64 t0, .int .i64 t1, .int .i64 t2, .string t3, .int .i64 t4] 212)
  replace eV := Lib.hid eV
  replace hA := obB m_ hA
  replace hC := obB m_ hC
  replace hP := obB m_ hP
  replace n := n.trans (m_.mono n.size)
  go_upto_region 4 with fail
  rw [eV.out]
  clear eV m_
  generalize w1.heap.size = T at *
  clear c0 c1 c2 c3 c4 j0
  have s1 := (Lib.cell_of_heap hT 1).trans rfl
  have lD : T < V2.heap.size := blt hT
  obtain ⟨V3, eV, hD, m_, -⟩ := box1 V2 (.cells #[.int .i64 0, .int .i64 0, .int .i64 t1, .slice none 0 0] 90)
  replace eV := Lib.hid eV
  replace hA := obB m_ hA
  replace hC := obB m_ hC
  replace hP := obB m_ hP
  replace hT := obB m_ hT
  replace n := n.trans (m_.mono n.size)
  go_upto_region 5 with fail
  rw [eV.out]
  clear eV m_
  generalize V2.heap.size = D at *
  clear s1
  have s0 := (Lib.cell_of_heap hT 0).trans rfl
  have s3 := (Lib.cell_of_heap hT 3).trans rfl
  by_cases hk : t0 ≠ 1
  ·rw [if_pos hk] at hq
   rw [hq] at hR okC
   simp only at hR okC
   have qk : (t0 != 1) = true := by simpa using hk
   clear hq hk
   go_upto_region 6 with fail
   have jA := jf (p := w.heap.size + 1) (q := w.heap.size + 2) hA (by omega) (by omega)
   have jD := jf (p := w.heap.size + 1) (q := w.heap.size + 2) hD (by omega) (by omega)
   refine wp_region_mixG (w.heap.size + 1) (w.heap.size + 2) [([0, 1], 2), ([], 3), ([], 4)] [] (by kernel_rfl) (by kernel_rfl) (by kernel_rfl) (by kernel_rfl) (fun _ _ d _ _ h => by cases d <;> exact h) ?_
   have gW : Below V3.heap.size V3 (V3.drewN 1) := ⟨rfl, rfl, rfl, Nat.le_refl _, fun _ _ => rfl⟩
   replace hC := obB gW hC
   replace hP := obB gW hP
   replace n := n.trans (gW.mono n.size)
   refine mix_cons (os := [_, _]) (by simp only [pickO, List.filterMap_cons, List.filterMap_nil, List.getElem?_toArray, List.getElem?_cons_succ, List.getElem?_cons_zero]; rfl) (fun Kp hKp => ?_)
   refine wpQuiet_load rfl 90 _ rfl (D) 0 rfl _ _ jD Tryz.underlying90 rfl (by kernel_rfl) ?_
   go_simp
   refine wpQuiet_load rfl 142 _ rfl (w.heap.size) 0 rfl _ _ jA Tryz.underlying142 rfl (by kernel_rfl) ?_
   go_simp
   refine wpQuiet_nil ?_
   refine hKp _ ?_
   clear hKp
   refine loud (by rfl) (by kernel_rfl) (fun K1 hK1 => ?_)
   go_simp
   refine cw _ n _ (Lib.hid fun v5 w5 r5 m5 => ?_)
   obtain ⟨A5, c5, rfl, -, -⟩ := r5.op
   have gL := gW.trans (m5.mono gW.size)
   refine hK1 _ _ (GW.bl gL) ?_
   clear hK1
   replace hC := obB m5 hC
   replace hP := obB m5 hP
   replace n := n.trans (m5.mono n.size)
   generalize wrongS p = q5 at *
   refine mix_cons (os := []) (by rfl) (fun Kp hKp => ?_)
   refine wpQuiet_nil ?_
   refine hKp _ ?_
   clear hKp
   refine loud (by rfl) (by kernel_rfl) (fun K2 hK2 => ?_)
   obtain ⟨LV, hLV⟩ : ∃ L : List Value, L = [.int .i64 0, .int .i64 0, .int .i64 t1, .slice none 0 0] := ⟨_, rfl⟩
   obtain ⟨ht_, gp_, hq_, n_, xx⟩ := sc_all LV hC (by rw [hLV]; rfl) (GW.bl gL) (by omega) hP (by omega) n
   refine wp_store_mid 90 _ _ (by rfl) (w.heap.size + 1) 0 LV.toArray (by rfl) (by rw [hLV]; rfl) ht_ (by rw [hLV]; kernel_rfl) (by rw [hLV]; simp [Value.oneCell']) ?_
   rw [show LV.toArray.toList = LV from rfl]
   refine hK2 _ _ gp_ ?_
   clear hK2 ht_
   generalize w5.setCells (w.heap.size + 1) 0 LV = W8 at *
   refine mix_cons (os := []) (by rfl) (fun Kp hKp => ?_)
   refine wpQuiet_nil ?_
   refine hKp _ ?_
   clear hKp
   refine loud (by rfl) (by kernel_rfl) (fun K3 hK3 => ?_)
   obtain ⟨z0, zf0, z1, zf1, z2, zf2⟩ := cf3 hq_
   obtain ⟨gq_, n9, xx⟩ := st3 gp_ (by omega) (by omega) n_ xx (.slice A5 q5.1.length c5) (.int .i64 q5.2.1) (.int .i64 q5.2.2)
   go_simp
   refine hK3 _ _ gq_ ?_
   clear hK3
   refine mix_nil (os := []) (by rfl) (fun Kp hKp => ?_)
   refine wpQuiet_nil ?_
   refine hKp _ ?_
   clear hKp
   have fin := Lib.hid (hR.out _ _ _ (rdw_none _) r5 okC n9)
   clear hR
   clear gp_ gq_
   subst hLV
   go_wp2_with fail
   refine bodyPost_ret ?_ rfl fin.out
   simp [results, Tryz.results325, go_sem, xx.out 0 _ rfl, xx.out 1 _ rfl, xx.out 2 _ rfl, xx.out 3 _ rfl, z0, z1, z2]
  ·have hk1 := Lib.hid (show t0 = 1 by simpa using hk)
   rw [if_neg hk] at hq
   have qk : (t0 != 1) = false := by simpa using hk1.out
   clear hk
   by_cases ht : t3 = sFloor
   ·rw [if_pos ht] at hq
    have qp : (t3.toList == [102, 108, 111, 111, 114]) = true := by rw [ht, tl_sFloor]; rfl
    clear ht
    have d0 := (Lib.cell_of_heap hD 0).trans rfl
    have df0 := Lib.frozen_of_heap hD 0
    obtain ⟨L1_0, hL1_0⟩ : ∃ L : List (Nat × Value), L = [(0, .int .i64 1)] := ⟨_, rfl⟩
    replace hA := (stB_o (B := D) (by omega) L1_0).trans hA
    replace hC := (stB_o (B := D) (by omega) L1_0).trans hC
    replace hP := (stB_o (B := D) (by omega) L1_0).trans hP
    replace hT := (stB_o (B := D) (by omega) L1_0).trans hT
    replace hD := stB_s L1_0 hD
    replace n := stB_n (B := D) (by omega) L1_0 n
    obtain ⟨VS1, hVS1⟩ : ∃ W, stB V3 D L1_0 = W := ⟨_, rfl⟩
    rw [hVS1] at hA hC hP hT hD n
    subst hL1_0
    simp only [stC, List.setIfInBounds_toArray, List.set_cons_succ, List.set_cons_zero] at hD
    simp only [stB] at hVS1
    go_upto_region 11 with fail
    clear hVS1
    generalize VS1 = V4 at *
    clear d0 df0 s0 s3
    obtain ⟨j0, j1, j2⟩ := cl3 hA
    go_wp2_with fail
    refine co V4 n _ (Lib.hid fun v5 w5 r5 m5 => ?_)
    obtain ⟨A5, c5, rfl, -, -⟩ := r5.op
    have okq := okO hk1.out
    clear okO hk1
    have lno : (onS p).1.length ≤ p.1.length := by rw [on_len]; omega
    replace hA := obB m5 hA
    replace hC := obB m5 hC
    replace hP := obB m5 hP
    replace hT := obB m5 hT
    replace hD := obB m5 hD
    replace n := n.trans (m5.mono n.size)
    clear m5 j0 j1 j2
    have hbV := hb.trans (n.mono hb.size)
    have gq := gd_num _ okq
    have rq0 := r5
    clear co cw
    go_wp2_with fail
    refine number16_calls (onS p) (.slice A5 (onS p).1.length c5) w0 _ hbV rq0 okq _ (Lib.hid fun v6 w6 r6 m6 => ?_)
    obtain ⟨A6, c6, rfl, -, -⟩ := r6.op
    replace hA := obB m6 hA
    replace hC := obB m6 hC
    replace hP := obB m6 hP
    replace hT := obB m6 hT
    replace hD := obB m6 hD
    replace n := n.trans (m6.mono n.size)
    clear m6 hbV rq0 r5 okq
    generalize numS (onS p) = Y at *
    obtain ⟨nn, q5⟩ := Y
    simp only at r6 gq hq
    have okq := gq.1
    have lq5 : q5.1.length ≤ 1000000 := by have := gq.2; omega
    have d1 := (Lib.cell_of_heap hD 1).trans rfl
    have df1 := Lib.frozen_of_heap hD 1
    obtain ⟨u0, uf0, u1, uf1, u2, uf2⟩ := cf3 hA
    obtain ⟨L2_0, hL2_0⟩ : ∃ L : List (Nat × Value), L = [(1, .int .i64 nn)] := ⟨_, rfl⟩
    obtain ⟨L2_1, hL2_1⟩ : ∃ L : List (Nat × Value), L = [(0, .slice A6 q5.1.length c6), (1, .int .i64 q5.2.1), (2, .int .i64 q5.2.2)] := ⟨_, rfl⟩
    replace hA := (stB_o (B := D) (by omega) L2_0).trans hA
    replace hC := (stB_o (B := D) (by omega) L2_0).trans hC
    replace hP := (stB_o (B := D) (by omega) L2_0).trans hP
    replace hT := (stB_o (B := D) (by omega) L2_0).trans hT
    replace hD := stB_s L2_0 hD
    replace n := stB_n (B := D) (by omega) L2_0 n
    replace hA := stB_s L2_1 hA
    replace hC := (stB_o (B := w.heap.size) (by omega) L2_1).trans hC
    replace hP := (stB_o (B := w.heap.size) (by omega) L2_1).trans hP
    replace hT := (stB_o (B := w.heap.size) (by omega) L2_1).trans hT
    replace hD := (stB_o (B := w.heap.size) (by omega) L2_1).trans hD
    replace n := stB_n (B := w.heap.size) (by omega) L2_1 n
    obtain ⟨VS2, hVS2⟩ : ∃ W, stB (stB w6 D L2_0) (w.heap.size) L2_1 = W := ⟨_, rfl⟩
    rw [hVS2] at hA hC hP hT hD n
    subst hL2_0 hL2_1
    simp only [stC, List.setIfInBounds_toArray, List.set_cons_succ, List.set_cons_zero] at hA hD
    simp only [stB] at hVS2
    go_upto_region 18 with fail
    clear hVS2
    generalize VS2 = V5 at *
    clear u0 uf0 u1 uf1 u2 uf2 d1 df1
    have rq := r6
    clear r6
    have hs : seeS (1, nn, t1) q5 = if (mayS q5 atS).2 = true then ((1, nn, t1, (labelP (mayS q5 atS).1).1), (labelP (mayS q5 atS).1).2) else ((1, nn, t1, []), (mayS q5 atS).1) := rfl
    rw [hs] at hq
    clear hs
    have hbV := hb.trans (n.mono hb.size)
    obtain ⟨j0, j1, j2⟩ := cl3 hA
    go_wp2_with fail
    refine may16_calls q5 (.slice A6 q5.1.length c6) w0 _ hbV rq okq atS _ (Lib.hid fun v6 w6 r6 m6 => ?_)
    obtain ⟨A6, c6, rfl, -, -⟩ := r6.op
    replace hA := obB m6 hA
    replace hC := obB m6 hC
    replace hP := obB m6 hP
    replace hT := obB m6 hT
    replace hD := obB m6 hD
    replace n := n.trans (m6.mono n.size)
    clear m6 hbV j0 j1 j2
    have okm := may_ok (m := atS) okq
    have lmm := may_len q5 atS
    generalize (mayS q5 atS).1 = q6 at *
    have lS0 : D < w6.heap.size := blt hD
    obtain ⟨V6, eV, hS, m_, -⟩ := box1 w6 (.cells #[.slice A6 q6.1.length c6, .int .i64 q6.2.1, .int .i64 q6.2.2] 142)
    replace eV := Lib.hid eV
    replace hA := obB m_ hA
    replace hC := obB m_ hC
    replace hP := obB m_ hP
    replace hT := obB m_ hT
    replace hD := obB m_ hD
    replace n := n.trans (m_.mono n.size)
    go_upto_region 19 with fail
    rw [eV.out]
    clear eV m_
    generalize w6.heap.size = S at *
    cases hm : (mayS q5 atS).2
    ·rw [hm, if_neg (by decide)] at hq
     rw [hq] at hR okC
     simp only at hR okC
     clear hq hm
     go_upto_region 21 with fail
     have jS := jf (p := w.heap.size + 1) (q := w.heap.size + 2) hS (by omega) (by omega)
     have jD := jf (p := w.heap.size + 1) (q := w.heap.size + 2) hD (by omega) (by omega)
     refine wp_region_mixG (w.heap.size + 1) (w.heap.size + 2) [([0, 1], 2), ([], 3)] [] (by kernel_rfl) (by kernel_rfl) (by kernel_rfl) (by kernel_rfl) (fun _ _ d _ _ h => by cases d <;> exact h) ?_
     have gW : Below V6.heap.size V6 (V6.drewN 1) := ⟨rfl, rfl, rfl, Nat.le_refl _, fun _ _ => rfl⟩
     replace hC := obB gW hC
     replace hP := obB gW hP
     replace n := n.trans (gW.mono n.size)
     refine mix_cons (os := [_, _]) (by simp only [pickO, List.filterMap_cons, List.filterMap_nil, List.getElem?_toArray, List.getElem?_cons_succ, List.getElem?_cons_zero]; rfl) (fun Kp hKp => ?_)
     refine wpQuiet_load rfl 90 _ rfl (D) 0 rfl _ _ jD Tryz.underlying90 rfl (by kernel_rfl) ?_
     go_simp
     refine wpQuiet_load rfl 142 _ rfl (S) 0 rfl _ _ jS Tryz.underlying142 rfl (by kernel_rfl) ?_
     go_simp
     refine wpQuiet_nil ?_
     refine hKp _ ?_
     clear hKp
     refine loud (by rfl) (by kernel_rfl) (fun K2 hK2 => ?_)
     obtain ⟨LV, hLV⟩ : ∃ L : List Value, L = [.int .i64 1, .int .i64 nn, .int .i64 t1, .slice none 0 0] := ⟨_, rfl⟩
     obtain ⟨ht_, gp_, hq_, n_, xx⟩ := sc_all LV hC (by rw [hLV]; rfl) (GW.bl gW) (by omega) hP (by omega) n
     refine wp_store_mid 90 _ _ (by rfl) (w.heap.size + 1) 0 LV.toArray (by rfl) (by rw [hLV]; rfl) ht_ (by rw [hLV]; kernel_rfl) (by rw [hLV]; simp [Value.oneCell']) ?_
     rw [show LV.toArray.toList = LV from rfl]
     refine hK2 _ _ gp_ ?_
     clear hK2 ht_
     generalize (V6.drewN 1).setCells (w.heap.size + 1) 0 LV = W8 at *
     refine mix_cons (os := []) (by rfl) (fun Kp hKp => ?_)
     refine wpQuiet_nil ?_
     refine hKp _ ?_
     clear hKp
     refine loud (by rfl) (by kernel_rfl) (fun K3 hK3 => ?_)
     obtain ⟨z0, zf0, z1, zf1, z2, zf2⟩ := cf3 hq_
     obtain ⟨gq_, n9, xx⟩ := st3 gp_ (by omega) (by omega) n_ xx (.slice A6 q6.1.length c6) (.int .i64 q6.2.1) (.int .i64 q6.2.2)
     go_simp
     refine hK3 _ _ gq_ ?_
     clear hK3
     refine mix_nil (os := []) (by rfl) (fun Kp hKp => ?_)
     refine wpQuiet_nil ?_
     refine hKp _ ?_
     clear hKp
     have fin := Lib.hid (hR.out _ _ _ (rdw_none _) r6 okC n9)
     clear hR
     clear gp_ gq_
     subst hLV
     go_wp2_with fail
     refine bodyPost_ret ?_ rfl fin.out
     simp [results, Tryz.results325, go_sem, xx.out 0 _ rfl, xx.out 1 _ rfl, xx.out 2 _ rfl, xx.out 3 _ rfl, z0, z1, z2]
    ·rw [hm, if_pos rfl] at hq
     rw [hq] at hR okC
     simp only at hR okC
     clear hq hm
     have hbV := hb.trans (n.mono hb.size)
     obtain ⟨j0, j1, j2⟩ := cl3 hS
     go_wp2_with fail
     refine label16_calls q6 (.slice A6 q6.1.length c6) w0 _ hbV r6 okm (by omega) _ (Lib.hid fun lv v8 w8 r7 r8 ok8 m8 => ?_)
     obtain ⟨A7, c7, rfl, -, -⟩ := r7.op
     obtain ⟨A8, c8, rfl, -, -⟩ := r8.op
     have lS6 : S < V6.heap.size := blt hS
     replace hA := obB m8 hA
     replace hC := obB m8 hC
     replace hP := obB m8 hP
     replace hT := obB m8 hT
     replace hD := obB m8 hD
     replace hS := obB m8 hS
     replace n := n.trans (m8.mono n.size)
     clear m8 hbV j0 j1 j2
     generalize labelP q6 = X at *
     obtain ⟨lb, q8⟩ := X
     simp only at r7 r8 ok8 hR okC
     have d3 := (Lib.cell_of_heap hD 3).trans rfl
     have df3 := Lib.frozen_of_heap hD 3
     obtain ⟨u0, uf0, u1, uf1, u2, uf2⟩ := cf3 hS
     clear hA hT
     obtain ⟨L3_0, hL3_0⟩ : ∃ L : List (Nat × Value), L = [(3, .slice A7 lb.length c7)] := ⟨_, rfl⟩
     obtain ⟨L3_1, hL3_1⟩ : ∃ L : List (Nat × Value), L = [(0, .slice A8 q8.1.length c8), (1, .int .i64 q8.2.1), (2, .int .i64 q8.2.2)] := ⟨_, rfl⟩
     replace hC := (stB_o (B := D) (by omega) L3_0).trans hC
     replace hP := (stB_o (B := D) (by omega) L3_0).trans hP
     replace hS := (stB_o (B := D) (by omega) L3_0).trans hS
     replace hD := stB_s L3_0 hD
     replace n := stB_n (B := D) (by omega) L3_0 n
     replace r7 := r7.kp (stB_k (B := D) (b := V6.heap.size) (by omega) L3_0)
     replace hC := (stB_o (B := S) (by omega) L3_1).trans hC
     replace hP := (stB_o (B := S) (by omega) L3_1).trans hP
     replace hS := stB_s L3_1 hS
     replace hD := (stB_o (B := S) (by omega) L3_1).trans hD
     replace n := stB_n (B := S) (by omega) L3_1 n
     replace r7 := r7.kp (stB_k (B := S) (b := V6.heap.size) (by omega) L3_1)
     obtain ⟨VS3, hVS3⟩ : ∃ W, stB (stB w8 D L3_0) S L3_1 = W := ⟨_, rfl⟩
     rw [hVS3] at hC hP hS hD n r7
     subst hL3_0 hL3_1
     simp only [stC, List.setIfInBounds_toArray, List.set_cons_succ, List.set_cons_zero] at hD hS
     simp only [stB] at hVS3
     go_upto_region 21 with fail
     clear hVS3
     generalize VS3 = V8 at *
     clear d3 df3 u0 uf0 u1 uf1 u2 uf2
     have jS := jf (p := w.heap.size + 1) (q := w.heap.size + 2) hS (by omega) (by omega)
     have jD := jf (p := w.heap.size + 1) (q := w.heap.size + 2) hD (by omega) (by omega)
     refine wp_region_mixG (w.heap.size + 1) (w.heap.size + 2) [([0, 1], 2), ([], 3)] [] (by kernel_rfl) (by kernel_rfl) (by kernel_rfl) (by kernel_rfl) (fun _ _ d _ _ h => by cases d <;> exact h) ?_
     have gW : Below V8.heap.size V8 (V8.drewN 1) := ⟨rfl, rfl, rfl, Nat.le_refl _, fun _ _ => rfl⟩
     replace hC := obB gW hC
     replace hP := obB gW hP
     replace n := n.trans (gW.mono n.size)
     refine mix_cons (os := [_, _]) (by simp only [pickO, List.filterMap_cons, List.filterMap_nil, List.getElem?_toArray, List.getElem?_cons_succ, List.getElem?_cons_zero]; rfl) (fun Kp hKp => ?_)
     refine wpQuiet_load rfl 90 _ rfl (D) 0 rfl _ _ jD Tryz.underlying90 rfl (by kernel_rfl) ?_
     go_simp
     refine wpQuiet_load rfl 142 _ rfl (S) 0 rfl _ _ jS Tryz.underlying142 rfl (by kernel_rfl) ?_
     go_simp
     refine wpQuiet_nil ?_
     refine hKp _ ?_
     clear hKp
     refine loud (by rfl) (by kernel_rfl) (fun K2 hK2 => ?_)
     obtain ⟨LV, hLV⟩ : ∃ L : List Value, L = [.int .i64 1, .int .i64 nn, .int .i64 t1, .slice A7 lb.length c7] := ⟨_, rfl⟩
     obtain ⟨ht_, gp_, hq_, n_, xx⟩ := sc_all LV hC (by rw [hLV]; rfl) (GW.bl gW) (by omega) hP (by omega) n
     have r9 := (r7.kp (emp_bl (b0 := V6.heap.size) (Nat.le_refl _) gW)).kp (kpL (b := V6.heap.size) (p := w.heap.size + 1) (by omega) LV)
     refine wp_store_mid 90 _ _ (by rfl) (w.heap.size + 1) 0 LV.toArray (by rfl) (by rw [hLV]; rfl) ht_ (by rw [hLV]; kernel_rfl) (by rw [hLV]; simp [Value.oneCell']) ?_
     rw [show LV.toArray.toList = LV from rfl]
     refine hK2 _ _ gp_ ?_
     clear hK2 ht_
     generalize (V8.drewN 1).setCells (w.heap.size + 1) 0 LV = W8 at *
     refine mix_cons (os := []) (by rfl) (fun Kp hKp => ?_)
     refine wpQuiet_nil ?_
     refine hKp _ ?_
     clear hKp
     refine loud (by rfl) (by kernel_rfl) (fun K3 hK3 => ?_)
     obtain ⟨z0, zf0, z1, zf1, z2, zf2⟩ := cf3 hq_
     obtain ⟨gq_, n9, xx⟩ := st3 gp_ (by omega) (by omega) n_ xx (.slice A8 q8.1.length c8) (.int .i64 q8.2.1) (.int .i64 q8.2.2)
     go_simp
     refine hK3 _ _ gq_ ?_
     clear hK3
     refine mix_nil (os := []) (by rfl) (fun Kp hKp => ?_)
     refine wpQuiet_nil ?_
     refine hKp _ ?_
     clear hKp
     have rG := (r9.kp (kp3 (b := V6.heap.size) (q := w.heap.size + 2) (by omega) (.slice A8 q8.1.length c8) (.int .i64 q8.2.1) (.int .i64 q8.2.2))).kp (kp_lw (b0 := w.heap.size) (by omega))
     have fin := Lib.hid (hR.out _ _ _ rG r8 okC n9)
     clear hR
     clear gp_ gq_
     subst hLV
     go_wp2_with fail
     refine bodyPost_ret ?_ rfl fin.out
     simp [results, Tryz.results325, go_sem, xx.out 0 _ rfl, xx.out 1 _ rfl, xx.out 2 _ rfl, xx.out 3 _ rfl, z0, z1, z2]
   ·rw [if_neg ht] at hq
    have qs0 : (t3.toList == [102, 108, 111, 111, 114]) = false := by have := sq_f ht; rw [tl_sFloor] at this; exact this
    clear ht
    by_cases ht : t3 = sFirst
    ·rw [if_pos ht] at hq
     have qp : (t3.toList == [102, 105, 114, 115, 116]) = true := by rw [ht, tl_sFirst]; rfl
     clear ht
     have d0 := (Lib.cell_of_heap hD 0).trans rfl
     have df0 := Lib.frozen_of_heap hD 0
     obtain ⟨L4_0, hL4_0⟩ : ∃ L : List (Nat × Value), L = [(0, .int .i64 2)] := ⟨_, rfl⟩
     replace hA := (stB_o (B := D) (by omega) L4_0).trans hA
     replace hC := (stB_o (B := D) (by omega) L4_0).trans hC
     replace hP := (stB_o (B := D) (by omega) L4_0).trans hP
     replace hT := (stB_o (B := D) (by omega) L4_0).trans hT
     replace hD := stB_s L4_0 hD
     replace n := stB_n (B := D) (by omega) L4_0 n
     obtain ⟨VS4, hVS4⟩ : ∃ W, stB V3 D L4_0 = W := ⟨_, rfl⟩
     rw [hVS4] at hA hC hP hT hD n
     subst hL4_0
     simp only [stC, List.setIfInBounds_toArray, List.set_cons_succ, List.set_cons_zero] at hD
     simp only [stB] at hVS4
     go_upto_region 14 with fail
     clear hVS4
     generalize VS4 = V4 at *
     clear d0 df0 s0 s3
     obtain ⟨j0, j1, j2⟩ := cl3 hA
     go_wp2_with fail
     refine co V4 n _ (Lib.hid fun v5 w5 r5 m5 => ?_)
     obtain ⟨A5, c5, rfl, -, -⟩ := r5.op
     have okq := okO hk1.out
     clear okO hk1
     have lno : (onS p).1.length ≤ p.1.length := by rw [on_len]; omega
     replace hA := obB m5 hA
     replace hC := obB m5 hC
     replace hP := obB m5 hP
     replace hT := obB m5 hT
     replace hD := obB m5 hD
     replace n := n.trans (m5.mono n.size)
     clear m5 j0 j1 j2
     have hbV := hb.trans (n.mono hb.size)
     have gq := gd_num _ okq
     have rq0 := r5
     clear co cw
     go_wp2_with fail
     refine number16_calls (onS p) (.slice A5 (onS p).1.length c5) w0 _ hbV rq0 okq _ (Lib.hid fun v6 w6 r6 m6 => ?_)
     obtain ⟨A6, c6, rfl, -, -⟩ := r6.op
     replace hA := obB m6 hA
     replace hC := obB m6 hC
     replace hP := obB m6 hP
     replace hT := obB m6 hT
     replace hD := obB m6 hD
     replace n := n.trans (m6.mono n.size)
     clear m6 hbV rq0 r5 okq
     generalize numS (onS p) = Y at *
     obtain ⟨nn, q5⟩ := Y
     simp only at r6 gq hq
     have okq := gq.1
     have lq5 : q5.1.length ≤ 1000000 := by have := gq.2; omega
     have d1 := (Lib.cell_of_heap hD 1).trans rfl
     have df1 := Lib.frozen_of_heap hD 1
     obtain ⟨u0, uf0, u1, uf1, u2, uf2⟩ := cf3 hA
     obtain ⟨L5_0, hL5_0⟩ : ∃ L : List (Nat × Value), L = [(1, .int .i64 nn)] := ⟨_, rfl⟩
     obtain ⟨L5_1, hL5_1⟩ : ∃ L : List (Nat × Value), L = [(0, .slice A6 q5.1.length c6), (1, .int .i64 q5.2.1), (2, .int .i64 q5.2.2)] := ⟨_, rfl⟩
     replace hA := (stB_o (B := D) (by omega) L5_0).trans hA
     replace hC := (stB_o (B := D) (by omega) L5_0).trans hC
     replace hP := (stB_o (B := D) (by omega) L5_0).trans hP
     replace hT := (stB_o (B := D) (by omega) L5_0).trans hT
     replace hD := stB_s L5_0 hD
     replace n := stB_n (B := D) (by omega) L5_0 n
     replace hA := stB_s L5_1 hA
     replace hC := (stB_o (B := w.heap.size) (by omega) L5_1).trans hC
     replace hP := (stB_o (B := w.heap.size) (by omega) L5_1).trans hP
     replace hT := (stB_o (B := w.heap.size) (by omega) L5_1).trans hT
     replace hD := (stB_o (B := w.heap.size) (by omega) L5_1).trans hD
     replace n := stB_n (B := w.heap.size) (by omega) L5_1 n
     obtain ⟨VS5, hVS5⟩ : ∃ W, stB (stB w6 D L5_0) (w.heap.size) L5_1 = W := ⟨_, rfl⟩
     rw [hVS5] at hA hC hP hT hD n
     subst hL5_0 hL5_1
     simp only [stC, List.setIfInBounds_toArray, List.set_cons_succ, List.set_cons_zero] at hA hD
     simp only [stB] at hVS5
     go_upto_region 18 with fail
     clear hVS5
     generalize VS5 = V5 at *
     clear u0 uf0 u1 uf1 u2 uf2 d1 df1
     have rq := r6
     clear r6
     have hs : seeS (2, nn, t1) q5 = if (mayS q5 atS).2 = true then ((2, nn, t1, (labelP (mayS q5 atS).1).1), (labelP (mayS q5 atS).1).2) else ((2, nn, t1, []), (mayS q5 atS).1) := rfl
     rw [hs] at hq
     clear hs
     have hbV := hb.trans (n.mono hb.size)
     obtain ⟨j0, j1, j2⟩ := cl3 hA
     go_wp2_with fail
     refine may16_calls q5 (.slice A6 q5.1.length c6) w0 _ hbV rq okq atS _ (Lib.hid fun v6 w6 r6 m6 => ?_)
     obtain ⟨A6, c6, rfl, -, -⟩ := r6.op
     replace hA := obB m6 hA
     replace hC := obB m6 hC
     replace hP := obB m6 hP
     replace hT := obB m6 hT
     replace hD := obB m6 hD
     replace n := n.trans (m6.mono n.size)
     clear m6 hbV j0 j1 j2
     have okm := may_ok (m := atS) okq
     have lmm := may_len q5 atS
     generalize (mayS q5 atS).1 = q6 at *
     have lS0 : D < w6.heap.size := blt hD
     obtain ⟨V6, eV, hS, m_, -⟩ := box1 w6 (.cells #[.slice A6 q6.1.length c6, .int .i64 q6.2.1, .int .i64 q6.2.2] 142)
     replace eV := Lib.hid eV
     replace hA := obB m_ hA
     replace hC := obB m_ hC
     replace hP := obB m_ hP
     replace hT := obB m_ hT
     replace hD := obB m_ hD
     replace n := n.trans (m_.mono n.size)
     go_upto_region 19 with fail
     rw [eV.out]
     clear eV m_
     generalize w6.heap.size = S at *
     cases hm : (mayS q5 atS).2
     ·rw [hm, if_neg (by decide)] at hq
      rw [hq] at hR okC
      simp only at hR okC
      clear hq hm
      go_upto_region 21 with fail
      have jS := jf (p := w.heap.size + 1) (q := w.heap.size + 2) hS (by omega) (by omega)
      have jD := jf (p := w.heap.size + 1) (q := w.heap.size + 2) hD (by omega) (by omega)
      refine wp_region_mixG (w.heap.size + 1) (w.heap.size + 2) [([0, 1], 2), ([], 3)] [] (by kernel_rfl) (by kernel_rfl) (by kernel_rfl) (by kernel_rfl) (fun _ _ d _ _ h => by cases d <;> exact h) ?_
      have gW : Below V6.heap.size V6 (V6.drewN 1) := ⟨rfl, rfl, rfl, Nat.le_refl _, fun _ _ => rfl⟩
      replace hC := obB gW hC
      replace hP := obB gW hP
      replace n := n.trans (gW.mono n.size)
      refine mix_cons (os := [_, _]) (by simp only [pickO, List.filterMap_cons, List.filterMap_nil, List.getElem?_toArray, List.getElem?_cons_succ, List.getElem?_cons_zero]; rfl) (fun Kp hKp => ?_)
      refine wpQuiet_load rfl 90 _ rfl (D) 0 rfl _ _ jD Tryz.underlying90 rfl (by kernel_rfl) ?_
      go_simp
      refine wpQuiet_load rfl 142 _ rfl (S) 0 rfl _ _ jS Tryz.underlying142 rfl (by kernel_rfl) ?_
      go_simp
      refine wpQuiet_nil ?_
      refine hKp _ ?_
      clear hKp
      refine loud (by rfl) (by kernel_rfl) (fun K2 hK2 => ?_)
      obtain ⟨LV, hLV⟩ : ∃ L : List Value, L = [.int .i64 2, .int .i64 nn, .int .i64 t1, .slice none 0 0] := ⟨_, rfl⟩
      obtain ⟨ht_, gp_, hq_, n_, xx⟩ := sc_all LV hC (by rw [hLV]; rfl) (GW.bl gW) (by omega) hP (by omega) n
      refine wp_store_mid 90 _ _ (by rfl) (w.heap.size + 1) 0 LV.toArray (by rfl) (by rw [hLV]; rfl) ht_ (by rw [hLV]; kernel_rfl) (by rw [hLV]; simp [Value.oneCell']) ?_
      rw [show LV.toArray.toList = LV from rfl]
      refine hK2 _ _ gp_ ?_
      clear hK2 ht_
      generalize (V6.drewN 1).setCells (w.heap.size + 1) 0 LV = W8 at *
      refine mix_cons (os := []) (by rfl) (fun Kp hKp => ?_)
      refine wpQuiet_nil ?_
      refine hKp _ ?_
      clear hKp
      refine loud (by rfl) (by kernel_rfl) (fun K3 hK3 => ?_)
      obtain ⟨z0, zf0, z1, zf1, z2, zf2⟩ := cf3 hq_
      obtain ⟨gq_, n9, xx⟩ := st3 gp_ (by omega) (by omega) n_ xx (.slice A6 q6.1.length c6) (.int .i64 q6.2.1) (.int .i64 q6.2.2)
      go_simp
      refine hK3 _ _ gq_ ?_
      clear hK3
      refine mix_nil (os := []) (by rfl) (fun Kp hKp => ?_)
      refine wpQuiet_nil ?_
      refine hKp _ ?_
      clear hKp
      have fin := Lib.hid (hR.out _ _ _ (rdw_none _) r6 okC n9)
      clear hR
      clear gp_ gq_
      subst hLV
      go_wp2_with fail
      refine bodyPost_ret ?_ rfl fin.out
      simp [results, Tryz.results325, go_sem, xx.out 0 _ rfl, xx.out 1 _ rfl, xx.out 2 _ rfl, xx.out 3 _ rfl, z0, z1, z2]
     ·rw [hm, if_pos rfl] at hq
      rw [hq] at hR okC
      simp only at hR okC
      clear hq hm
      have hbV := hb.trans (n.mono hb.size)
      obtain ⟨j0, j1, j2⟩ := cl3 hS
      go_wp2_with fail
      refine label16_calls q6 (.slice A6 q6.1.length c6) w0 _ hbV r6 okm (by omega) _ (Lib.hid fun lv v8 w8 r7 r8 ok8 m8 => ?_)
      obtain ⟨A7, c7, rfl, -, -⟩ := r7.op
      obtain ⟨A8, c8, rfl, -, -⟩ := r8.op
      have lS6 : S < V6.heap.size := blt hS
      replace hA := obB m8 hA
      replace hC := obB m8 hC
      replace hP := obB m8 hP
      replace hT := obB m8 hT
      replace hD := obB m8 hD
      replace hS := obB m8 hS
      replace n := n.trans (m8.mono n.size)
      clear m8 hbV j0 j1 j2
      generalize labelP q6 = X at *
      obtain ⟨lb, q8⟩ := X
      simp only at r7 r8 ok8 hR okC
      have d3 := (Lib.cell_of_heap hD 3).trans rfl
      have df3 := Lib.frozen_of_heap hD 3
      obtain ⟨u0, uf0, u1, uf1, u2, uf2⟩ := cf3 hS
      clear hA hT
      obtain ⟨L6_0, hL6_0⟩ : ∃ L : List (Nat × Value), L = [(3, .slice A7 lb.length c7)] := ⟨_, rfl⟩
      obtain ⟨L6_1, hL6_1⟩ : ∃ L : List (Nat × Value), L = [(0, .slice A8 q8.1.length c8), (1, .int .i64 q8.2.1), (2, .int .i64 q8.2.2)] := ⟨_, rfl⟩
      replace hC := (stB_o (B := D) (by omega) L6_0).trans hC
      replace hP := (stB_o (B := D) (by omega) L6_0).trans hP
      replace hS := (stB_o (B := D) (by omega) L6_0).trans hS
      replace hD := stB_s L6_0 hD
      replace n := stB_n (B := D) (by omega) L6_0 n
      replace r7 := r7.kp (stB_k (B := D) (b := V6.heap.size) (by omega) L6_0)
      replace hC := (stB_o (B := S) (by omega) L6_1).trans hC
      replace hP := (stB_o (B := S) (by omega) L6_1).trans hP
      replace hS := stB_s L6_1 hS
      replace hD := (stB_o (B := S) (by omega) L6_1).trans hD
      replace n := stB_n (B := S) (by omega) L6_1 n
      replace r7 := r7.kp (stB_k (B := S) (b := V6.heap.size) (by omega) L6_1)
      obtain ⟨VS6, hVS6⟩ : ∃ W, stB (stB w8 D L6_0) S L6_1 = W := ⟨_, rfl⟩
      rw [hVS6] at hC hP hS hD n r7
      subst hL6_0 hL6_1
      simp only [stC, List.setIfInBounds_toArray, List.set_cons_succ, List.set_cons_zero] at hD hS
      simp only [stB] at hVS6
      go_upto_region 21 with fail
      clear hVS6
      generalize VS6 = V8 at *
      clear d3 df3 u0 uf0 u1 uf1 u2 uf2
      have jS := jf (p := w.heap.size + 1) (q := w.heap.size + 2) hS (by omega) (by omega)
      have jD := jf (p := w.heap.size + 1) (q := w.heap.size + 2) hD (by omega) (by omega)
      refine wp_region_mixG (w.heap.size + 1) (w.heap.size + 2) [([0, 1], 2), ([], 3)] [] (by kernel_rfl) (by kernel_rfl) (by kernel_rfl) (by kernel_rfl) (fun _ _ d _ _ h => by cases d <;> exact h) ?_
      have gW : Below V8.heap.size V8 (V8.drewN 1) := ⟨rfl, rfl, rfl, Nat.le_refl _, fun _ _ => rfl⟩
      replace hC := obB gW hC
      replace hP := obB gW hP
      replace n := n.trans (gW.mono n.size)
      refine mix_cons (os := [_, _]) (by simp only [pickO, List.filterMap_cons, List.filterMap_nil, List.getElem?_toArray, List.getElem?_cons_succ, List.getElem?_cons_zero]; rfl) (fun Kp hKp => ?_)
      refine wpQuiet_load rfl 90 _ rfl (D) 0 rfl _ _ jD Tryz.underlying90 rfl (by kernel_rfl) ?_
      go_simp
      refine wpQuiet_load rfl 142 _ rfl (S) 0 rfl _ _ jS Tryz.underlying142 rfl (by kernel_rfl) ?_
      go_simp
      refine wpQuiet_nil ?_
      refine hKp _ ?_
      clear hKp
      refine loud (by rfl) (by kernel_rfl) (fun K2 hK2 => ?_)
      obtain ⟨LV, hLV⟩ : ∃ L : List Value, L = [.int .i64 2, .int .i64 nn, .int .i64 t1, .slice A7 lb.length c7] := ⟨_, rfl⟩
      obtain ⟨ht_, gp_, hq_, n_, xx⟩ := sc_all LV hC (by rw [hLV]; rfl) (GW.bl gW) (by omega) hP (by omega) n
      have r9 := (r7.kp (emp_bl (b0 := V6.heap.size) (Nat.le_refl _) gW)).kp (kpL (b := V6.heap.size) (p := w.heap.size + 1) (by omega) LV)
      refine wp_store_mid 90 _ _ (by rfl) (w.heap.size + 1) 0 LV.toArray (by rfl) (by rw [hLV]; rfl) ht_ (by rw [hLV]; kernel_rfl) (by rw [hLV]; simp [Value.oneCell']) ?_
      rw [show LV.toArray.toList = LV from rfl]
      refine hK2 _ _ gp_ ?_
      clear hK2 ht_
      generalize (V8.drewN 1).setCells (w.heap.size + 1) 0 LV = W8 at *
      refine mix_cons (os := []) (by rfl) (fun Kp hKp => ?_)
      refine wpQuiet_nil ?_
      refine hKp _ ?_
      clear hKp
      refine loud (by rfl) (by kernel_rfl) (fun K3 hK3 => ?_)
      obtain ⟨z0, zf0, z1, zf1, z2, zf2⟩ := cf3 hq_
      obtain ⟨gq_, n9, xx⟩ := st3 gp_ (by omega) (by omega) n_ xx (.slice A8 q8.1.length c8) (.int .i64 q8.2.1) (.int .i64 q8.2.2)
      go_simp
      refine hK3 _ _ gq_ ?_
      clear hK3
      refine mix_nil (os := []) (by rfl) (fun Kp hKp => ?_)
      refine wpQuiet_nil ?_
      refine hKp _ ?_
      clear hKp
      have rG := (r9.kp (kp3 (b := V6.heap.size) (q := w.heap.size + 2) (by omega) (.slice A8 q8.1.length c8) (.int .i64 q8.2.1) (.int .i64 q8.2.2))).kp (kp_lw (b0 := w.heap.size) (by omega))
      have fin := Lib.hid (hR.out _ _ _ rG r8 okC n9)
      clear hR
      clear gp_ gq_
      subst hLV
      go_wp2_with fail
      refine bodyPost_ret ?_ rfl fin.out
      simp [results, Tryz.results325, go_sem, xx.out 0 _ rfl, xx.out 1 _ rfl, xx.out 2 _ rfl, xx.out 3 _ rfl, z0, z1, z2]
    ·rw [if_neg ht] at hq
     have qs1 : (t3.toList == [102, 105, 114, 115, 116]) = false := by have := sq_f ht; rw [tl_sFirst] at this; exact this
     clear ht
     by_cases ht : t3 = sCount
     ·rw [if_pos ht] at hq
      have qp : (t3.toList == [99, 111, 117, 110, 116]) = true := by rw [ht, tl_sCount]; rfl
      clear ht
      have d0 := (Lib.cell_of_heap hD 0).trans rfl
      have df0 := Lib.frozen_of_heap hD 0
      obtain ⟨L7_0, hL7_0⟩ : ∃ L : List (Nat × Value), L = [(0, .int .i64 3)] := ⟨_, rfl⟩
      replace hA := (stB_o (B := D) (by omega) L7_0).trans hA
      replace hC := (stB_o (B := D) (by omega) L7_0).trans hC
      replace hP := (stB_o (B := D) (by omega) L7_0).trans hP
      replace hT := (stB_o (B := D) (by omega) L7_0).trans hT
      replace hD := stB_s L7_0 hD
      replace n := stB_n (B := D) (by omega) L7_0 n
      obtain ⟨VS7, hVS7⟩ : ∃ W, stB V3 D L7_0 = W := ⟨_, rfl⟩
      rw [hVS7] at hA hC hP hT hD n
      subst hL7_0
      simp only [stC, List.setIfInBounds_toArray, List.set_cons_succ, List.set_cons_zero] at hD
      simp only [stB] at hVS7
      go_upto_region 17 with fail
      clear hVS7
      generalize VS7 = V4 at *
      clear d0 df0 s0 s3
      obtain ⟨j0, j1, j2⟩ := cl3 hA
      go_wp2_with fail
      refine co V4 n _ (Lib.hid fun v5 w5 r5 m5 => ?_)
      obtain ⟨A5, c5, rfl, -, -⟩ := r5.op
      have okq := okO hk1.out
      clear okO hk1
      have lno : (onS p).1.length ≤ p.1.length := by rw [on_len]; omega
      replace hA := obB m5 hA
      replace hC := obB m5 hC
      replace hP := obB m5 hP
      replace hT := obB m5 hT
      replace hD := obB m5 hD
      replace n := n.trans (m5.mono n.size)
      clear m5 j0 j1 j2
      clear co cw
      have lq5 : (onS p).1.length ≤ 1000000 := by omega
      generalize onS p = q5 at *
      obtain ⟨u0, uf0, u1, uf1, u2, uf2⟩ := cf3 hA
      obtain ⟨L8_0, hL8_0⟩ : ∃ L : List (Nat × Value), L = [(0, .slice A5 q5.1.length c5), (1, .int .i64 q5.2.1), (2, .int .i64 q5.2.2)] := ⟨_, rfl⟩
      replace hA := stB_s L8_0 hA
      replace hC := (stB_o (B := w.heap.size) (by omega) L8_0).trans hC
      replace hP := (stB_o (B := w.heap.size) (by omega) L8_0).trans hP
      replace hT := (stB_o (B := w.heap.size) (by omega) L8_0).trans hT
      replace hD := (stB_o (B := w.heap.size) (by omega) L8_0).trans hD
      replace n := stB_n (B := w.heap.size) (by omega) L8_0 n
      obtain ⟨VS8, hVS8⟩ : ∃ W, stB w5 (w.heap.size) L8_0 = W := ⟨_, rfl⟩
      rw [hVS8] at hA hC hP hT hD n
      subst hL8_0
      simp only [stC, List.setIfInBounds_toArray, List.set_cons_succ, List.set_cons_zero] at hA
      simp only [stB] at hVS8
      go_upto_region 18 with fail
      clear hVS8
      generalize VS8 = V5 at *
      clear u0 uf0 u1 uf1 u2 uf2
      have rq := r5
      clear r5
      have hs : seeS (3, 0, t1) q5 = if (mayS q5 atS).2 = true then ((3, 0, t1, (labelP (mayS q5 atS).1).1), (labelP (mayS q5 atS).1).2) else ((3, 0, t1, []), (mayS q5 atS).1) := rfl
      rw [hs] at hq
      clear hs
      have hbV := hb.trans (n.mono hb.size)
      obtain ⟨j0, j1, j2⟩ := cl3 hA
      go_wp2_with fail
      refine may16_calls q5 (.slice A5 q5.1.length c5) w0 _ hbV rq okq atS _ (Lib.hid fun v6 w6 r6 m6 => ?_)
      obtain ⟨A6, c6, rfl, -, -⟩ := r6.op
      replace hA := obB m6 hA
      replace hC := obB m6 hC
      replace hP := obB m6 hP
      replace hT := obB m6 hT
      replace hD := obB m6 hD
      replace n := n.trans (m6.mono n.size)
      clear m6 hbV j0 j1 j2
      have okm := may_ok (m := atS) okq
      have lmm := may_len q5 atS
      generalize (mayS q5 atS).1 = q6 at *
      have lS0 : D < w6.heap.size := blt hD
      obtain ⟨V6, eV, hS, m_, -⟩ := box1 w6 (.cells #[.slice A6 q6.1.length c6, .int .i64 q6.2.1, .int .i64 q6.2.2] 142)
      replace eV := Lib.hid eV
      replace hA := obB m_ hA
      replace hC := obB m_ hC
      replace hP := obB m_ hP
      replace hT := obB m_ hT
      replace hD := obB m_ hD
      replace n := n.trans (m_.mono n.size)
      go_upto_region 19 with fail
      rw [eV.out]
      clear eV m_
      generalize w6.heap.size = S at *
      cases hm : (mayS q5 atS).2
      ·rw [hm, if_neg (by decide)] at hq
       rw [hq] at hR okC
       simp only at hR okC
       clear hq hm
       go_upto_region 21 with fail
       have jS := jf (p := w.heap.size + 1) (q := w.heap.size + 2) hS (by omega) (by omega)
       have jD := jf (p := w.heap.size + 1) (q := w.heap.size + 2) hD (by omega) (by omega)
       refine wp_region_mixG (w.heap.size + 1) (w.heap.size + 2) [([0, 1], 2), ([], 3)] [] (by kernel_rfl) (by kernel_rfl) (by kernel_rfl) (by kernel_rfl) (fun _ _ d _ _ h => by cases d <;> exact h) ?_
       have gW : Below V6.heap.size V6 (V6.drewN 1) := ⟨rfl, rfl, rfl, Nat.le_refl _, fun _ _ => rfl⟩
       replace hC := obB gW hC
       replace hP := obB gW hP
       replace n := n.trans (gW.mono n.size)
       refine mix_cons (os := [_, _]) (by simp only [pickO, List.filterMap_cons, List.filterMap_nil, List.getElem?_toArray, List.getElem?_cons_succ, List.getElem?_cons_zero]; rfl) (fun Kp hKp => ?_)
       refine wpQuiet_load rfl 90 _ rfl (D) 0 rfl _ _ jD Tryz.underlying90 rfl (by kernel_rfl) ?_
       go_simp
       refine wpQuiet_load rfl 142 _ rfl (S) 0 rfl _ _ jS Tryz.underlying142 rfl (by kernel_rfl) ?_
       go_simp
       refine wpQuiet_nil ?_
       refine hKp _ ?_
       clear hKp
       refine loud (by rfl) (by kernel_rfl) (fun K2 hK2 => ?_)
       obtain ⟨LV, hLV⟩ : ∃ L : List Value, L = [.int .i64 3, .int .i64 0, .int .i64 t1, .slice none 0 0] := ⟨_, rfl⟩
       obtain ⟨ht_, gp_, hq_, n_, xx⟩ := sc_all LV hC (by rw [hLV]; rfl) (GW.bl gW) (by omega) hP (by omega) n
       refine wp_store_mid 90 _ _ (by rfl) (w.heap.size + 1) 0 LV.toArray (by rfl) (by rw [hLV]; rfl) ht_ (by rw [hLV]; kernel_rfl) (by rw [hLV]; simp [Value.oneCell']) ?_
       rw [show LV.toArray.toList = LV from rfl]
       refine hK2 _ _ gp_ ?_
       clear hK2 ht_
       generalize (V6.drewN 1).setCells (w.heap.size + 1) 0 LV = W8 at *
       refine mix_cons (os := []) (by rfl) (fun Kp hKp => ?_)
       refine wpQuiet_nil ?_
       refine hKp _ ?_
       clear hKp
       refine loud (by rfl) (by kernel_rfl) (fun K3 hK3 => ?_)
       obtain ⟨z0, zf0, z1, zf1, z2, zf2⟩ := cf3 hq_
       obtain ⟨gq_, n9, xx⟩ := st3 gp_ (by omega) (by omega) n_ xx (.slice A6 q6.1.length c6) (.int .i64 q6.2.1) (.int .i64 q6.2.2)
       go_simp
       refine hK3 _ _ gq_ ?_
       clear hK3
       refine mix_nil (os := []) (by rfl) (fun Kp hKp => ?_)
       refine wpQuiet_nil ?_
       refine hKp _ ?_
       clear hKp
       have fin := Lib.hid (hR.out _ _ _ (rdw_none _) r6 okC n9)
       clear hR
       clear gp_ gq_
       subst hLV
       go_wp2_with fail
       refine bodyPost_ret ?_ rfl fin.out
       simp [results, Tryz.results325, go_sem, xx.out 0 _ rfl, xx.out 1 _ rfl, xx.out 2 _ rfl, xx.out 3 _ rfl, z0, z1, z2]
      ·rw [hm, if_pos rfl] at hq
       rw [hq] at hR okC
       simp only at hR okC
       clear hq hm
       have hbV := hb.trans (n.mono hb.size)
       obtain ⟨j0, j1, j2⟩ := cl3 hS
       go_wp2_with fail
       refine label16_calls q6 (.slice A6 q6.1.length c6) w0 _ hbV r6 okm (by omega) _ (Lib.hid fun lv v8 w8 r7 r8 ok8 m8 => ?_)
       obtain ⟨A7, c7, rfl, -, -⟩ := r7.op
       obtain ⟨A8, c8, rfl, -, -⟩ := r8.op
       have lS6 : S < V6.heap.size := blt hS
       replace hA := obB m8 hA
       replace hC := obB m8 hC
       replace hP := obB m8 hP
       replace hT := obB m8 hT
       replace hD := obB m8 hD
       replace hS := obB m8 hS
       replace n := n.trans (m8.mono n.size)
       clear m8 hbV j0 j1 j2
       generalize labelP q6 = X at *
       obtain ⟨lb, q8⟩ := X
       simp only at r7 r8 ok8 hR okC
       have d3 := (Lib.cell_of_heap hD 3).trans rfl
       have df3 := Lib.frozen_of_heap hD 3
       obtain ⟨u0, uf0, u1, uf1, u2, uf2⟩ := cf3 hS
       clear hA hT
       obtain ⟨L9_0, hL9_0⟩ : ∃ L : List (Nat × Value), L = [(3, .slice A7 lb.length c7)] := ⟨_, rfl⟩
       obtain ⟨L9_1, hL9_1⟩ : ∃ L : List (Nat × Value), L = [(0, .slice A8 q8.1.length c8), (1, .int .i64 q8.2.1), (2, .int .i64 q8.2.2)] := ⟨_, rfl⟩
       replace hC := (stB_o (B := D) (by omega) L9_0).trans hC
       replace hP := (stB_o (B := D) (by omega) L9_0).trans hP
       replace hS := (stB_o (B := D) (by omega) L9_0).trans hS
       replace hD := stB_s L9_0 hD
       replace n := stB_n (B := D) (by omega) L9_0 n
       replace r7 := r7.kp (stB_k (B := D) (b := V6.heap.size) (by omega) L9_0)
       replace hC := (stB_o (B := S) (by omega) L9_1).trans hC
       replace hP := (stB_o (B := S) (by omega) L9_1).trans hP
       replace hS := stB_s L9_1 hS
       replace hD := (stB_o (B := S) (by omega) L9_1).trans hD
       replace n := stB_n (B := S) (by omega) L9_1 n
       replace r7 := r7.kp (stB_k (B := S) (b := V6.heap.size) (by omega) L9_1)
       obtain ⟨VS9, hVS9⟩ : ∃ W, stB (stB w8 D L9_0) S L9_1 = W := ⟨_, rfl⟩
       rw [hVS9] at hC hP hS hD n r7
       subst hL9_0 hL9_1
       simp only [stC, List.setIfInBounds_toArray, List.set_cons_succ, List.set_cons_zero] at hD hS
       simp only [stB] at hVS9
       go_upto_region 21 with fail
       clear hVS9
       generalize VS9 = V8 at *
       clear d3 df3 u0 uf0 u1 uf1 u2 uf2
       have jS := jf (p := w.heap.size + 1) (q := w.heap.size + 2) hS (by omega) (by omega)
       have jD := jf (p := w.heap.size + 1) (q := w.heap.size + 2) hD (by omega) (by omega)
       refine wp_region_mixG (w.heap.size + 1) (w.heap.size + 2) [([0, 1], 2), ([], 3)] [] (by kernel_rfl) (by kernel_rfl) (by kernel_rfl) (by kernel_rfl) (fun _ _ d _ _ h => by cases d <;> exact h) ?_
       have gW : Below V8.heap.size V8 (V8.drewN 1) := ⟨rfl, rfl, rfl, Nat.le_refl _, fun _ _ => rfl⟩
       replace hC := obB gW hC
       replace hP := obB gW hP
       replace n := n.trans (gW.mono n.size)
       refine mix_cons (os := [_, _]) (by simp only [pickO, List.filterMap_cons, List.filterMap_nil, List.getElem?_toArray, List.getElem?_cons_succ, List.getElem?_cons_zero]; rfl) (fun Kp hKp => ?_)
       refine wpQuiet_load rfl 90 _ rfl (D) 0 rfl _ _ jD Tryz.underlying90 rfl (by kernel_rfl) ?_
       go_simp
       refine wpQuiet_load rfl 142 _ rfl (S) 0 rfl _ _ jS Tryz.underlying142 rfl (by kernel_rfl) ?_
       go_simp
       refine wpQuiet_nil ?_
       refine hKp _ ?_
       clear hKp
       refine loud (by rfl) (by kernel_rfl) (fun K2 hK2 => ?_)
       obtain ⟨LV, hLV⟩ : ∃ L : List Value, L = [.int .i64 3, .int .i64 0, .int .i64 t1, .slice A7 lb.length c7] := ⟨_, rfl⟩
       obtain ⟨ht_, gp_, hq_, n_, xx⟩ := sc_all LV hC (by rw [hLV]; rfl) (GW.bl gW) (by omega) hP (by omega) n
       have r9 := (r7.kp (emp_bl (b0 := V6.heap.size) (Nat.le_refl _) gW)).kp (kpL (b := V6.heap.size) (p := w.heap.size + 1) (by omega) LV)
       refine wp_store_mid 90 _ _ (by rfl) (w.heap.size + 1) 0 LV.toArray (by rfl) (by rw [hLV]; rfl) ht_ (by rw [hLV]; kernel_rfl) (by rw [hLV]; simp [Value.oneCell']) ?_
       rw [show LV.toArray.toList = LV from rfl]
       refine hK2 _ _ gp_ ?_
       clear hK2 ht_
       generalize (V8.drewN 1).setCells (w.heap.size + 1) 0 LV = W8 at *
       refine mix_cons (os := []) (by rfl) (fun Kp hKp => ?_)
       refine wpQuiet_nil ?_
       refine hKp _ ?_
       clear hKp
       refine loud (by rfl) (by kernel_rfl) (fun K3 hK3 => ?_)
       obtain ⟨z0, zf0, z1, zf1, z2, zf2⟩ := cf3 hq_
       obtain ⟨gq_, n9, xx⟩ := st3 gp_ (by omega) (by omega) n_ xx (.slice A8 q8.1.length c8) (.int .i64 q8.2.1) (.int .i64 q8.2.2)
       go_simp
       refine hK3 _ _ gq_ ?_
       clear hK3
       refine mix_nil (os := []) (by rfl) (fun Kp hKp => ?_)
       refine wpQuiet_nil ?_
       refine hKp _ ?_
       clear hKp
       have rG := (r9.kp (kp3 (b := V6.heap.size) (q := w.heap.size + 2) (by omega) (.slice A8 q8.1.length c8) (.int .i64 q8.2.1) (.int .i64 q8.2.2))).kp (kp_lw (b0 := w.heap.size) (by omega))
       have fin := Lib.hid (hR.out _ _ _ rG r8 okC n9)
       clear hR
       clear gp_ gq_
       subst hLV
       go_wp2_with fail
       refine bodyPost_ret ?_ rfl fin.out
       simp [results, Tryz.results325, go_sem, xx.out 0 _ rfl, xx.out 1 _ rfl, xx.out 2 _ rfl, xx.out 3 _ rfl, z0, z1, z2]
     ·rw [if_neg ht] at hq
      have qs2 : (t3.toList == [99, 111, 117, 110, 116]) = false := by have := sq_f ht; rw [tl_sCount] at this; exact this
      clear ht
      rw [hq] at hR okC
      simp only at hR okC
      clear hq
      go_upto_region 8 with fail
      clear s0 s3 cw co
      have lA := blt hA
      have kA := fun y : GW V3 (w.heap.size + 1) (w.heap.size + 2) => y.cell (blt hA) (by omega) (by omega) ((Lib.cell_of_heap hA 0).trans rfl)
      have kT := fun y : GW V3 (w.heap.size + 1) (w.heap.size + 2) => y.cell (blt hT) (by omega) (by omega) ((Lib.cell_of_heap hT 1).trans rfl)
      have jD := jf (p := w.heap.size + 1) (q := w.heap.size + 2) hD (by omega) (by omega)
      refine wp_region_mixG (w.heap.size + 1) (w.heap.size + 2) [([0, 1, 2, 3, 4, 5, 6], 7), ([], 8)] [] (by kernel_rfl) (by kernel_rfl) (by kernel_rfl) (by kernel_rfl) (fun _ _ d _ _ h => by cases d <;> exact h) ?_
      have gW : Below V3.heap.size V3 (V3.drewN 1) := ⟨rfl, rfl, rfl, Nat.le_refl _, fun _ _ => rfl⟩
      replace hC := obB gW hC
      replace hP := obB gW hP
      replace n := n.trans (gW.mono n.size)
      refine mix_cons (os := [_, _, _, _, _, _, _]) (by simp only [pickO, List.filterMap_cons, List.filterMap_nil, List.getElem?_toArray, List.getElem?_cons_succ, List.getElem?_cons_zero]; rfl) (fun Kp hKp => ?_)
      refine wpQuiet_load rfl 90 _ rfl (D) 0 rfl _ _ jD Tryz.underlying90 rfl (by kernel_rfl) ?_
      go_simp
      repeat (go_big_quiet_step (exact rfl))
      refine wpQuiet_nil ?_
      refine hKp _ ?_
      clear hKp
      refine loud (by rfl) (by kernel_rfl) (fun K2 hK2 => ?_)
      obtain ⟨LV, hLV⟩ : ∃ L : List Value, L = [.int .i64 0, .int .i64 0, .int .i64 t1, .slice none 0 0] := ⟨_, rfl⟩
      obtain ⟨ht_, gp_, hq_, n_, xx⟩ := sc_all LV hC (by rw [hLV]; rfl) (GW.bl gW) (by omega) hP (by omega) n
      refine wp_store_mid 90 _ _ (by rfl) (w.heap.size + 1) 0 LV.toArray (by rfl) (by rw [hLV]; rfl) ht_ (by rw [hLV]; kernel_rfl) (by rw [hLV]; simp [Value.oneCell']) ?_
      rw [show LV.toArray.toList = LV from rfl]
      refine hK2 _ _ gp_ ?_
      clear hK2 ht_
      generalize (V3.drewN 1).setCells (w.heap.size + 1) 0 LV = W8 at *
      refine mix_cons (os := []) (by rfl) (fun Kp hKp => ?_)
      refine wpQuiet_nil ?_
      refine hKp _ ?_
      clear hKp
      refine loud (by rfl) (by kernel_rfl) (fun K3 hK3 => ?_)
      obtain ⟨z0, zf0, z1, zf1, z2, zf2⟩ := cf3 hq_
      obtain ⟨gq_, n9, xx⟩ := st3 gp_ (by omega) (by omega) n_ xx (.slice (some ⟨g, o, none⟩) p.1.length cp) (.int .i64 9) (.int .i64 t1)
      go_simp
      refine hK3 _ _ gq_ ?_
      clear hK3
      refine mix_nil (os := []) (by rfl) (fun Kp hKp => ?_)
      refine wpQuiet_nil ?_
      refine hKp _ ?_
      clear hKp
      have fin := Lib.hid (hR.out _ _ _ (rdw_none _) hx okC n9)
      clear hR
      clear gp_ gq_
      subst hLV
      go_wp2_with fail
      refine bodyPost_ret ?_ rfl fin.out
      simp [results, Tryz.results325, go_sem, xx.out 0 _ rfl, xx.out 1 _ rfl, xx.out 2 _ rfl, xx.out 3 _ rfl, z0, z1, z2]
 ·rw [decide_eq_false he]
  rw [if_pos (show p.2.1 ≠ 0 from he)] at hq
  rw [hq] at hR okC
  simp only at hR okC
  clear hq
  go_upto_region 2 with fail
  have jA := jf (p := w.heap.size + 1) (q := w.heap.size + 2) hA (by omega) (by omega)
  refine wp_region_mixG (w.heap.size + 1) (w.heap.size + 2) [([0, 1], 2), ([], 3)] [] (by kernel_rfl) (by kernel_rfl) (by kernel_rfl) (by kernel_rfl) (fun _ _ d _ _ h => by cases d <;> exact h) ?_
  have gW : Below w1.heap.size w1 (w1.drewN 1) := ⟨rfl, rfl, rfl, Nat.le_refl _, fun _ _ => rfl⟩
  replace hC := obB gW hC
  replace hP := obB gW hP
  replace n := n.trans (gW.mono n.size)
  refine mix_cons (os := [_, _]) (by simp only [pickO, List.filterMap_cons, List.filterMap_nil, List.getElem?_toArray, List.getElem?_cons_succ, List.getElem?_cons_zero]; rfl) (fun Kp hKp => ?_)
  go_big_quiet_step (exact rfl)
  refine wpQuiet_load rfl 142 _ rfl (w.heap.size) 0 rfl _ _ jA Tryz.underlying142 rfl (by kernel_rfl) ?_
  go_simp
  refine wpQuiet_nil ?_
  refine hKp _ ?_
  clear hKp
  refine loud (by rfl) (by kernel_rfl) (fun K2 hK2 => ?_)
  obtain ⟨LV, hLV⟩ : ∃ L : List Value, L = [.int .i64 0, .int .i64 0, .int .i64 0, .slice none 0 0] := ⟨_, rfl⟩
  obtain ⟨ht_, gp_, hq_, n_, xx⟩ := sc_all LV hC (by rw [hLV]; rfl) (GW.bl gW) (by omega) hP (by omega) n
  refine wp_store_mid 90 _ _ (by rfl) (w.heap.size + 1) 0 LV.toArray (by rfl) (by rw [hLV]; rfl) ht_ (by rw [hLV]; kernel_rfl) (by rw [hLV]; simp [Value.oneCell']) ?_
  rw [show LV.toArray.toList = LV from rfl]
  refine hK2 _ _ gp_ ?_
  clear hK2 ht_
  generalize (w1.drewN 1).setCells (w.heap.size + 1) 0 LV = W8 at *
  refine mix_cons (os := []) (by rfl) (fun Kp hKp => ?_)
  refine wpQuiet_nil ?_
  refine hKp _ ?_
  clear hKp
  refine loud (by rfl) (by kernel_rfl) (fun K3 hK3 => ?_)
  obtain ⟨z0, zf0, z1, zf1, z2, zf2⟩ := cf3 hq_
  obtain ⟨gq_, n9, xx⟩ := st3 gp_ (by omega) (by omega) n_ xx (.slice (some ⟨g, o, none⟩) p.1.length cp) (.int .i64 p.2.1) (.int .i64 p.2.2)
  go_simp
  refine hK3 _ _ gq_ ?_
  clear hK3
  refine mix_nil (os := []) (by rfl) (fun Kp hKp => ?_)
  refine wpQuiet_nil ?_
  refine hKp _ ?_
  clear hKp
  have fin := Lib.hid (hR.out _ _ _ (rdw_none _) hx okC n9)
  clear hR
  clear gp_ gq_
  subst hLV
  go_wp2_with fail
  refine bodyPost_ret ?_ rfl fin.out
  simp [results, Tryz.results325, go_sem, xx.out 0 _ rfl, xx.out 1 _ rfl, xx.out 2 _ rfl, xx.out 3 _ rfl, z0, z1, z2]
end Go.Proofs.YtncijmodlhijoaaGreat.Syn
