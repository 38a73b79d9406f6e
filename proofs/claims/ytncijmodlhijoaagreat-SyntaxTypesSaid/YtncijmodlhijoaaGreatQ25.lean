import Derived.Test.YtncijmodlhijoaaGreatQ21
set_option linter.unusedVariables false
set_option maxRecDepth 100000
set_option maxHeartbeats 4000000
namespace Go.Proofs.YtncijmodlhijoaaGreat.Syn
open Go.RowKit Go.Lib Utf Tok Cur Nam Lat Kin
theorem kind_sRef (k : Nat) (hk : KindQ k) (d : Int) (hd : d + 1 = 24 - (k : Int)) (hd0 : 0 ≤ d) (hd1 : d ≤ 23) (p : PS) (v : Value) (w0 w : World) (hb : Below w0.heap.size w0 w) (hx : RdK w0 v p.1) (ok : Ok p) (hl : p.1.length ≤ 1000000) (he : p.2.1 = 0) (h1 : (Cur.hdT p.1).1 = 1) (ht : (Cur.hdT p.1).2.2.2.1 = sRef) (R : Ending → World → Prop)
  (hR : Hid (∀ nv pv v' w', RdY (empW (lowS w.heap.size) w') (bodyR (kindR k) sRef (Cur.hdT p.1).2.1 (onS p)).1.1 (bodyR (kindR k) sRef (Cur.hdT p.1).2.1 (onS p)).1.2 nv pv → RdK w0 v' (bodyR (kindR k) sRef (Cur.hdT p.1).2.1 (onS p)).2.1 → Below w.heap.size w w' → R (.returned (.tuple #[tyV (bodyR (kindR k) sRef (Cur.hdT p.1).2.1 (onS p)).1.1 nv pv, psV v' (bodyR (kindR k) sRef (Cur.hdT p.1).2.1 (onS p)).2])) w')) : Calls Tryz.prog 68 #[psV v p, .int .i64 d] w R := by
 rw [body_sRef] at hR
 simp only at hR
 have okq := on_ok ok (show (Cur.hdT p.1).1 ≠ 0 by rw [h1]; decide)
 have lq : (onS p).1.length ≤ 1000000 := by rw [on_len]; omega
 replace he := Lib.hid he
 replace hd := Lib.hid hd
 replace h1 := Lib.hid h1
 replace ht := Lib.hid ht
 obtain ⟨A, cp, rfl, hlc, hr⟩ := hx.op
 have hlen : 0 < p.1.length := List.length_pos_iff.2 (EndL.ne ok)
 obtain ⟨g, o, rfl, hg, hca⟩ := hr hlen
 obtain ⟨x0, x1, x2, x3, x4⟩ := hca 0 hlen
 rw [hd_tN (EndL.ne ok)] at x0 x1 x2 x3 x4
 simp only [Nat.zero_mul, Nat.add_zero] at x0 x1 x2 x3 x4
 have i1 : (0 : Int) < (p.1.length : Int) := by omega
 have i9 : ¬ (23 : Int) < d := by omega
 clear hr hca
 obtain ⟨V, eV, hA, hY, hS, n, -, zz1, zz2⟩ := box3 w (.cells #[.slice (some ⟨g, o, none⟩) p.1.length cp, .int .i64 p.2.1, .int .i64 p.2.2] 142) (.cells #[.int .i64 0, .int .i64 0, .int .i64 0, .int .i64 0, .int .i64 0, .slice none 0 0, .slice none 0 0, .string ⟨#[]⟩, .int .i64 0] 29) (.cells #[.slice none 0 0, .int .i64 0, .int .i64 0] 142)
 replace eV := Lib.hid eV
 go_enter Tryz.func68, Tryz.ntmps68
 go_upto_region 1 with fail
 rw [eV.out]
 clear eV zz1 zz2
 have hbV := hb.trans (n.mono hb.size)
 obtain ⟨j0, j1, j2⟩ := cl3 hA
 go_wp2_with fail
 refine fine16_calls (.slice (some ⟨g, o, none⟩) p.1.length cp) p ⟨_, _, _, rfl⟩ V _ (Lib.hid fun w1 n1 => ?_)
 replace hA := obB n1 hA
 replace hY := obB n1 hY
 replace hS := obB n1 hS
 replace n := n.trans (n1.mono n.size)
 clear j0 j1 j2 n1 hbV
 rw [decide_eq_true he.out]
 clear he
 have hbV := hb.trans (n.mono hb.size)
 have c0 := (hbV.cell (p := ⟨g, o, none⟩) hg).trans x0
 have c1 := (hbV.cell (p := ⟨g, o + 1, none⟩) hg).trans x1
 have c2 := (hbV.cell (p := ⟨g, o + 2, none⟩) hg).trans x2
 have c3 := (hbV.cell (p := ⟨g, o + 3, none⟩) hg).trans x3
 have c4 := (hbV.cell (p := ⟨g, o + 4, none⟩) hg).trans x4
 have co := fun (W : World) (m : Below w.heap.size w W) => on16_calls p (.slice (some ⟨g, o, none⟩) p.1.length cp) w0 W (hb.trans (m.mono hb.size)) hx ok (.inr hlen)
 clear x0 x1 x2 x3 x4 hbV
 generalize onS p = q at *
 generalize Cur.hdT p.1 = tk at *
 obtain ⟨t0, t1, t2, t3, t4⟩ := tk
 replace h1 := h1.out
 replace ht := ht.out
 simp only at hR c0 c1 c2 c3 c4 h1 ht
 subst h1
 replace ht := Lib.hid ht
 have j0 := (Lib.cell_of_heap hA 0).trans rfl
 have lT : w.heap.size + 2 < w1.heap.size := blt hS
 obtain ⟨V2, eV, hT, m_, -⟩ := box1 w1 (.cells #[.int .i64 1, .int .i64 t1, .int .i64 t2, .string t3, .int .i64 t4] 212)
 replace eV := Lib.hid eV
 replace hA := obB m_ hA
 replace hY := obB m_ hY
 replace hS := obB m_ hS
 replace n := n.trans (m_.mono n.size)
 go_upto_region 4 with fail
 rw [eV.out]
 clear eV m_
 generalize w1.heap.size = T at *
 clear c0 c1 c2 c3 c4 j0
 have s1 := (Lib.cell_of_heap hT 1).trans rfl
 have lD : T < V2.heap.size := blt hT
 obtain ⟨V3, eV, hD, m_, -⟩ := box1 V2 (.cells #[.int .i64 0, .int .i64 t1, .int .i64 0, .int .i64 0, .int .i64 0, .slice none 0 0, .slice none 0 0, .string ⟨#[]⟩, .int .i64 0] 29)
 replace eV := Lib.hid eV
 replace hA := obB m_ hA
 replace hY := obB m_ hY
 replace hS := obB m_ hS
 replace hT := obB m_ hT
 replace n := n.trans (m_.mono n.size)
 go_upto_region 5 with (refine wpList_copy #[.int .i64 0, .int .i64 t1, .int .i64 0, .int .i64 0, .int .i64 0, .slice none 0 0, .slice none 0 0, .string ⟨#[]⟩, .int .i64 0] ⟨rfl, rfl, rfl⟩ ⟨rfl, rfl, rfl⟩ type_alloc (by kernel_rfl) ⟨rfl, by simp [Value.oneCell']⟩ (fun _ => ⟨rfl, rfl⟩) ?_; go_simp)
 rw [eV.out]
 clear eV m_
 generalize V2.heap.size = D at *
 clear s1
 have s0 := (Lib.cell_of_heap hT 0).trans rfl
 obtain ⟨j0, j1, j2⟩ := cl3 hA
 go_wp2_with fail
 refine co V3 n _ (Lib.hid fun v5 w5 r5 m5 => ?_)
 obtain ⟨A5, c5, rfl, -, -⟩ := r5.op
 replace hA := obB m5 hA
 replace hY := obB m5 hY
 replace hS := obB m5 hS
 replace hT := obB m5 hT
 replace hD := obB m5 hD
 replace n := n.trans (m5.mono n.size)
 clear m5 j0 j1 j2 co s0 i9 i1
 obtain ⟨u0, uf0, u1, uf1, u2, uf2⟩ := cf3 hA
 obtain ⟨L6_0, hL6_0⟩ : ∃ L : List (Nat × Value), L = [(0, .slice A5 q.1.length c5), (1, .int .i64 q.2.1), (2, .int .i64 q.2.2)] := ⟨_, rfl⟩
 replace hA := stB_s L6_0 hA
 replace hY := (stB_o (B := w.heap.size) (by omega) L6_0).trans hY
 replace hS := (stB_o (B := w.heap.size) (by omega) L6_0).trans hS
 replace hT := (stB_o (B := w.heap.size) (by omega) L6_0).trans hT
 replace hD := (stB_o (B := w.heap.size) (by omega) L6_0).trans hD
 replace n := stB_n (B := w.heap.size) (by omega) L6_0 n
 obtain ⟨VS6, hVS6⟩ : ∃ W, stB w5 (w.heap.size) L6_0 = W := ⟨_, rfl⟩
 rw [hVS6] at hA hY hS hT hD n
 subst hL6_0
 simp only [stC, List.setIfInBounds_toArray, List.set_cons_succ, List.set_cons_zero] at hA
 simp only [stB] at hVS6
 go_upto_region 10 with fail
 clear hVS6
 generalize VS6 = V5 at *
 clear u0 uf0 u1 uf1 u2 uf2
 have s3 := (Lib.cell_of_heap hT 3).trans rfl
 have qs0 : (t3.toList == [98, 111, 111, 108]) = false := by rw [ht.out, tl_sRef]; rfl
 have qs1 : (t3.toList == [105, 110, 116]) = false := by rw [ht.out, tl_sRef]; rfl
 have qs2 : (t3.toList == [116, 101, 120, 116]) = false := by rw [ht.out, tl_sRef]; rfl
 have qs3 : (t3.toList == [101, 110, 117, 109]) = false := by rw [ht.out, tl_sRef]; rfl
 have qs4 : (t3.toList == [108, 105, 115, 116]) = false := by rw [ht.out, tl_sRef]; rfl
 have qs5 : (t3.toList == [111, 112, 116]) = false := by rw [ht.out, tl_sRef]; rfl
 have qs6 : (t3.toList == [114, 101, 99, 111, 114, 100]) = false := by rw [ht.out, tl_sRef]; rfl
 have qs7 : (t3.toList == [117, 110, 105, 111, 110]) = false := by rw [ht.out, tl_sRef]; rfl
 have qs8 : (t3.toList == [114, 101, 102]) = true := by rw [ht.out, tl_sRef]; rfl
 clear ht
 have d0 := (Lib.cell_of_heap hD 0).trans rfl
 have df0 := Lib.frozen_of_heap hD 0
 obtain ⟨L7_0, hL7_0⟩ : ∃ L : List (Nat × Value), L = [(0, .int .i64 9)] := ⟨_, rfl⟩
 replace hA := (stB_o (B := D) (by omega) L7_0).trans hA
 replace hY := (stB_o (B := D) (by omega) L7_0).trans hY
 replace hS := (stB_o (B := D) (by omega) L7_0).trans hS
 replace hT := (stB_o (B := D) (by omega) L7_0).trans hT
 replace hD := stB_s L7_0 hD
 replace n := stB_n (B := D) (by omega) L7_0 n
 obtain ⟨VS7, hVS7⟩ : ∃ W, stB V5 D L7_0 = W := ⟨_, rfl⟩
 rw [hVS7] at hA hY hS hT hD n
 subst hL7_0
 simp only [stC, List.setIfInBounds_toArray, List.set_cons_succ, List.set_cons_zero] at hD
 simp only [stB] at hVS7
 go_upto_region 47 with fail
 clear hVS7
 generalize VS7 = V6 at *
 clear d0 df0 s3 qs0 qs1 qs2 qs3 qs4 qs5 qs6 qs7 qs8 hT
 have hbV := hb.trans (n.mono hb.size)
 obtain ⟨a0, a1, a2⟩ := cl3 hA
 go_wp2_with fail
 refine mark16_calls q (.slice A5 q.1.length c5) w0 _ hbV r5 okq lpar _ (Lib.hid fun v7 w7 r7 m7 => ?_)
 obtain ⟨A7, c7, rfl, -, -⟩ := r7.op
 have g7 := gd_mark q lpar okq
 replace hA := obB m7 hA
 replace hY := obB m7 hY
 replace hS := obB m7 hS
 replace hD := obB m7 hD
 replace n := n.trans (m7.mono n.size)
 clear m7 hbV a0 a1 a2
 generalize markS q lpar = q7 at *
 have ga8 := gd_name q7 g7.1
 have hbV := hb.trans (n.mono hb.size)
 go_wp2_with fail
 refine name16_calls q7 (.slice A7 q7.1.length c7) w0 _ hbV r7 g7.1 _ (Lib.hid fun v8 w8 r8 m8 => ?_)
 obtain ⟨A8, c8, rfl, -, -⟩ := r8.op
 replace hA := obB m8 hA
 replace hY := obB m8 hY
 replace hS := obB m8 hS
 replace hD := obB m8 hD
 replace n := n.trans (m8.mono n.size)
 clear m8 hbV
 generalize nameS q7 = Y at *
 obtain ⟨⟨k3, k1⟩, q8⟩ := Y
 simp only at r8 hR ga8 ⊢
 have lw_E : D < w8.heap.size := blt hD
 obtain ⟨o2_, ho2_⟩ : ∃ oO_ : Obj, oO_ = .cells #[.string k3, .int .i64 k1] 27 := ⟨_, rfl⟩
 have hE := heap_alloc_new w8 o2_
 have zq : (w8.alloc o2_).heap.size = w8.heap.size + 1 := by simp
 have mq := alB w8 o2_
 obtain ⟨o1_, ho1_⟩ : ∃ oO_ : Obj, oO_ = .cells #[.slice A8 q8.1.length c8, .int .i64 q8.2.1, .int .i64 q8.2.2] 142 := ⟨_, rfl⟩
 have hU := heap_alloc_new (w8.alloc o2_) o1_
 subst ho2_
 rw [zq] at hU
 replace hE := obB (alB _ o1_) hE
 replace mq := mq.alloc mq.size o1_
 subst ho1_
 replace hA := obB mq hA
 replace hY := obB mq hY
 replace hS := obB mq hS
 replace hD := obB mq hD
 replace n := n.trans (mq.mono n.size)
 clear mq zq
 go_upto_region 48 with fail
 generalize (w8.alloc (.cells #[.string k3, .int .i64 k1] 27)).alloc (.cells #[.slice A8 q8.1.length c8, .int .i64 q8.2.1, .int .i64 q8.2.2] 142) = V8 at *
 generalize w8.heap.size = E at *
 have s0 := (Lib.cell_of_heap hE 0).trans rfl
 have s1 := (Lib.cell_of_heap hE 1).trans rfl
 have d7 := (Lib.cell_of_heap hD 7).trans rfl
 have df7 := Lib.frozen_of_heap hD 7
 have d8 := (Lib.cell_of_heap hD 8).trans rfl
 have df8 := Lib.frozen_of_heap hD 8
 obtain ⟨L8_0, hL8_0⟩ : ∃ L : List (Nat × Value), L = [(7, .string k3), (8, .int .i64 k1)] := ⟨_, rfl⟩
 replace hA := (stB_o (B := D) (by omega) L8_0).trans hA
 replace hY := (stB_o (B := D) (by omega) L8_0).trans hY
 replace hS := (stB_o (B := D) (by omega) L8_0).trans hS
 replace hD := stB_s L8_0 hD
 replace hE := (stB_o (B := D) (by omega) L8_0).trans hE
 replace hU := (stB_o (B := D) (by omega) L8_0).trans hU
 replace n := stB_n (B := D) (by omega) L8_0 n
 obtain ⟨VS8, hVS8⟩ : ∃ W, stB V8 D L8_0 = W := ⟨_, rfl⟩
 rw [hVS8] at hA hY hS hD hE hU n
 subst hL8_0
 simp only [stC, List.setIfInBounds_toArray, List.set_cons_succ, List.set_cons_zero] at hD
 simp only [stB] at hVS8
 go_upto_region 49 with fail
 clear hVS8
 generalize VS8 = V9 at *
 clear s0 s1 d7 df7 d8 df8
 have hbV := hb.trans (n.mono hb.size)
 obtain ⟨a0, a1, a2⟩ := cl3 hU
 go_wp2_with fail
 refine mark16_calls q8 (.slice A8 q8.1.length c8) w0 _ hbV r8 ga8.1 rpar _ (Lib.hid fun v10 w10 r10 m10 => ?_)
 obtain ⟨A10, c10, rfl, -, -⟩ := r10.op
 have g10 := gd_mark q8 rpar ga8.1
 replace hA := obB m10 hA
 replace hY := obB m10 hY
 replace hS := obB m10 hS
 replace hD := obB m10 hD
 replace n := n.trans (m10.mono n.size)
 clear m10 hbV a0 a1 a2
 generalize markS q8 rpar = q10 at *
 obtain ⟨u0, uf0, u1, uf1, u2, uf2⟩ := cf3 hA
 obtain ⟨L9_0, hL9_0⟩ : ∃ L : List (Nat × Value), L = [(0, .slice A10 q10.1.length c10), (1, .int .i64 q10.2.1), (2, .int .i64 q10.2.2)] := ⟨_, rfl⟩
 replace hA := stB_s L9_0 hA
 replace hY := (stB_o (B := w.heap.size) (by omega) L9_0).trans hY
 replace hS := (stB_o (B := w.heap.size) (by omega) L9_0).trans hS
 replace hD := (stB_o (B := w.heap.size) (by omega) L9_0).trans hD
 replace n := stB_n (B := w.heap.size) (by omega) L9_0 n
 obtain ⟨VS9, hVS9⟩ : ∃ W, stB w10 (w.heap.size) L9_0 = W := ⟨_, rfl⟩
 rw [hVS9] at hA hY hS hD n
 subst hL9_0
 simp only [stC, List.setIfInBounds_toArray, List.set_cons_succ, List.set_cons_zero] at hA
 simp only [stB] at hVS9
 go_upto_region 50 with fail
 clear hVS9
 generalize VS9 = V11 at *
 clear u0 uf0 u1 uf1 u2 uf2 hE hU
 replace hR : Hid (∀ nv pv v' w', RdY (empW (lowS w.heap.size) w') ({ hKA 9 t1 with name := k3, nat := k1 }) (.nil) nv pv → RdK w0 v' q10.1 → Below w.heap.size w w' → R (.returned (.tuple #[.agg #[.int .i64 9, .int .i64 t1, .int .i64 0, .int .i64 0, .int .i64 0, nv, pv, .string k3, .int .i64 k1], psV v' q10])) w') := hR
 have jD := jf (p := w.heap.size + 1) (q := w.heap.size + 2) hD (by omega) (by omega)
 have jA := jf (p := w.heap.size + 1) (q := w.heap.size + 2) hA (by omega) (by omega)
 refine wp_region_mixG (w.heap.size + 1) (w.heap.size + 2) [([0, 1], 2), ([], 3)] [] (by kernel_rfl) (by kernel_rfl) (by kernel_rfl) (by kernel_rfl) (fun _ _ d _ _ h => by cases d <;> exact h) ?_
 have gW : Below V11.heap.size V11 (V11.drewN 1) := ⟨rfl, rfl, rfl, Nat.le_refl _, fun _ _ => rfl⟩
 replace hY := obB gW hY
 replace hS := obB gW hS
 replace n := n.trans (gW.mono n.size)
 refine mix_cons (os := [_, _]) (by simp only [pickO, List.filterMap_cons, List.filterMap_nil, List.getElem?_toArray, List.getElem?_cons_succ, List.getElem?_cons_zero]; rfl) (fun Kp hKp => ?_)
 refine wpQuiet_load rfl 29 _ rfl (D) 0 rfl _ _ jD Tryz.underlying29 rfl (by kernel_rfl) ?_
 go_simp
 refine wpQuiet_load rfl 142 _ rfl (w.heap.size) 0 rfl _ _ jA Tryz.underlying142 rfl (by kernel_rfl) ?_
 go_simp
 refine wpQuiet_nil ?_
 refine hKp _ ?_
 clear hKp
 refine loud (by rfl) (by kernel_rfl) (fun K2 hK2 => ?_)
 obtain ⟨LV, hLV⟩ : ∃ L : List Value, L = [.int .i64 9, .int .i64 t1, .int .i64 0, .int .i64 0, .int .i64 0, .slice none 0 0, .slice none 0 0, .string k3, .int .i64 k1] := ⟨_, rfl⟩
 obtain ⟨ht_, gp_, hq_, n_, xx⟩ := sc_all LV hY (by rw [hLV]; rfl) (GW.bl gW) (by omega) hS (by omega) n
 refine wp_store_mid 29 _ _ (by rfl) (w.heap.size + 1) 0 LV.toArray (by rfl) (by rw [hLV]; rfl) ht_ (by rw [hLV]; kernel_rfl) (by rw [hLV]; simp [Value.oneCell']) ?_
 rw [show LV.toArray.toList = LV from rfl]
 refine hK2 _ _ gp_ ?_
 clear hK2 ht_
 generalize (V11.drewN 1).setCells (w.heap.size + 1) 0 LV = W8 at *
 refine mix_cons (os := []) (by rfl) (fun Kp hKp => ?_)
 refine wpQuiet_nil ?_
 refine hKp _ ?_
 clear hKp
 refine loud (by rfl) (by kernel_rfl) (fun K3 hK3 => ?_)
 obtain ⟨z0, zf0, z1, zf1, z2, zf2⟩ := cf3 hq_
 obtain ⟨gq_, n9, xx⟩ := st3 gp_ (by omega) (by omega) n_ xx (.slice A10 q10.1.length c10) (.int .i64 q10.2.1) (.int .i64 q10.2.2)
 go_simp
 refine hK3 _ _ gq_ ?_
 clear hK3
 refine mix_nil (os := []) (by rfl) (fun Kp hKp => ?_)
 refine wpQuiet_nil ?_
 refine hKp _ ?_
 clear hKp
 have fin := Lib.hid (hR.out _ _ _ _ (show RdY _ _ _ _ _ from ⟨rdw_none _, RdSl.nil _ none 0⟩) r10 n9)
 clear hR
 clear gp_ gq_
 subst hLV
 go_wp2_with fail
 refine bodyPost_ret ?_ rfl fin.out
 simp [results, Tryz.results68, go_sem, xx.out 0 _ rfl, xx.out 1 _ rfl, xx.out 2 _ rfl, xx.out 3 _ rfl, xx.out 4 _ rfl, xx.out 5 _ rfl, xx.out 6 _ rfl, xx.out 7 _ rfl, xx.out 8 _ rfl, z0, z1, z2]
theorem onlyR {w : World} {B b : Nat} {t : TypeId} {fl : Nat × Nat} {x : TH} {f : Ft} {nv pv : Value} (hB : b ≤ B) (h : w.heap[B]? = some (.cells #[.string ⟨#[]⟩, .int .i64 0, .bool false, .slice none 0 0, .int .i64 0, .int .i64 0, .int .i64 0, .int .i64 0, .slice none 0 0, .int .i64 x.kind, .int .i64 x.at_, .int .i64 x.lo, .int .i64 x.hi, .int .i64 x.most, nv, pv, .string x.name, .int .i64 x.nat] t fl)) (r : RdY (empW (lowS b) w) x f nv pv) : RdP (empW (lowS b) w) (.slice (some ⟨B, 0, none⟩) 1 1) (only (x, f)) :=
 ⟨some ⟨B, 0, none⟩, 1, rfl, Nat.le_refl _, fun _ => ⟨B, 0, rfl, by rw [emp_size]; exact blt h, RdFo.mk (l := zPH) [.string ⟨#[]⟩, .int .i64 0, .bool false, .slice none 0 0, .int .i64 0, .int .i64 0, .int .i64 0, .int .i64 0, .slice none 0 0] [.int .i64 x.kind, .int .i64 x.at_, .int .i64 x.lo, .int .i64 x.hi, .int .i64 x.most, nv, pv, .string x.name, .int .i64 x.nat] rfl (fun j v q => emp_cell.2 ⟨by unfold lowS; omega, by rw [Nat.zero_add, Lib.cell_of_heap h]; simpa using q⟩) ⟨.slice none 0 0, .slice none 0 0, rfl, rdw_none _, rdw_none _⟩ ⟨rfl, _, ⟨_, rfl, r.n⟩, r.p⟩ trivial⟩⟩
theorem kind_sOpt (k : Nat) (hk : KindQ k) (d : Int) (hd : d + 1 = 24 - (k : Int)) (hd0 : 0 ≤ d) (hd1 : d ≤ 23) (p : PS) (v : Value) (w0 w : World) (hb : Below w0.heap.size w0 w) (hx : RdK w0 v p.1) (ok : Ok p) (hl : p.1.length ≤ 1000000) (he : p.2.1 = 0) (h1 : (Cur.hdT p.1).1 = 1) (ht : (Cur.hdT p.1).2.2.2.1 = sOpt) (R : Ending → World → Prop)
  (hR : Hid (∀ nv pv v' w', RdY (empW (lowS w.heap.size) w') (bodyR (kindR k) sOpt (Cur.hdT p.1).2.1 (onS p)).1.1 (bodyR (kindR k) sOpt (Cur.hdT p.1).2.1 (onS p)).1.2 nv pv → RdK w0 v' (bodyR (kindR k) sOpt (Cur.hdT p.1).2.1 (onS p)).2.1 → Below w.heap.size w w' → R (.returned (.tuple #[tyV (bodyR (kindR k) sOpt (Cur.hdT p.1).2.1 (onS p)).1.1 nv pv, psV v' (bodyR (kindR k) sOpt (Cur.hdT p.1).2.1 (onS p)).2])) w')) : Calls Tryz.prog 68 #[psV v p, .int .i64 d] w R := by
 rw [body_sOpt] at hR
 simp only at hR
 have okq := on_ok ok (show (Cur.hdT p.1).1 ≠ 0 by rw [h1]; decide)
 have lq : (onS p).1.length ≤ 1000000 := by rw [on_len]; omega
 replace he := Lib.hid he
 replace hd := Lib.hid hd
 replace h1 := Lib.hid h1
 replace ht := Lib.hid ht
 obtain ⟨A, cp, rfl, hlc, hr⟩ := hx.op
 have hlen : 0 < p.1.length := List.length_pos_iff.2 (EndL.ne ok)
 obtain ⟨g, o, rfl, hg, hca⟩ := hr hlen
 obtain ⟨x0, x1, x2, x3, x4⟩ := hca 0 hlen
 rw [hd_tN (EndL.ne ok)] at x0 x1 x2 x3 x4
 simp only [Nat.zero_mul, Nat.add_zero] at x0 x1 x2 x3 x4
 have i1 : (0 : Int) < (p.1.length : Int) := by omega
 have i9 : ¬ (23 : Int) < d := by omega
 clear hr hca
 obtain ⟨V, eV, hA, hY, hS, n, -, zz1, zz2⟩ := box3 w (.cells #[.slice (some ⟨g, o, none⟩) p.1.length cp, .int .i64 p.2.1, .int .i64 p.2.2] 142) (.cells #[.int .i64 0, .int .i64 0, .int .i64 0, .int .i64 0, .int .i64 0, .slice none 0 0, .slice none 0 0, .string ⟨#[]⟩, .int .i64 0] 29) (.cells #[.slice none 0 0, .int .i64 0, .int .i64 0] 142)
 replace eV := Lib.hid eV
 go_enter Tryz.func68, Tryz.ntmps68
 go_upto_region 1 with fail
 rw [eV.out]
 clear eV zz1 zz2
 have hbV := hb.trans (n.mono hb.size)
 obtain ⟨j0, j1, j2⟩ := cl3 hA
 go_wp2_with fail
 refine fine16_calls (.slice (some ⟨g, o, none⟩) p.1.length cp) p ⟨_, _, _, rfl⟩ V _ (Lib.hid fun w1 n1 => ?_)
 replace hA := obB n1 hA
 replace hY := obB n1 hY
 replace hS := obB n1 hS
 replace n := n.trans (n1.mono n.size)
 clear j0 j1 j2 n1 hbV
 rw [decide_eq_true he.out]
 clear he
 have hbV := hb.trans (n.mono hb.size)
 have c0 := (hbV.cell (p := ⟨g, o, none⟩) hg).trans x0
 have c1 := (hbV.cell (p := ⟨g, o + 1, none⟩) hg).trans x1
 have c2 := (hbV.cell (p := ⟨g, o + 2, none⟩) hg).trans x2
 have c3 := (hbV.cell (p := ⟨g, o + 3, none⟩) hg).trans x3
 have c4 := (hbV.cell (p := ⟨g, o + 4, none⟩) hg).trans x4
 have co := fun (W : World) (m : Below w.heap.size w W) => on16_calls p (.slice (some ⟨g, o, none⟩) p.1.length cp) w0 W (hb.trans (m.mono hb.size)) hx ok (.inr hlen)
 clear x0 x1 x2 x3 x4 hbV
 generalize onS p = q at *
 generalize Cur.hdT p.1 = tk at *
 obtain ⟨t0, t1, t2, t3, t4⟩ := tk
 replace h1 := h1.out
 replace ht := ht.out
 simp only at hR c0 c1 c2 c3 c4 h1 ht
 subst h1
 replace ht := Lib.hid ht
 have j0 := (Lib.cell_of_heap hA 0).trans rfl
 have lT : w.heap.size + 2 < w1.heap.size := blt hS
 obtain ⟨V2, eV, hT, m_, -⟩ := box1 w1 (.cells #[.int .i64 1, .int .i64 t1, .int .i64 t2, .string t3, .int .i64 t4] 212)
 replace eV := Lib.hid eV
 replace hA := obB m_ hA
 replace hY := obB m_ hY
 replace hS := obB m_ hS
 replace n := n.trans (m_.mono n.size)
 go_upto_region 4 with fail
 rw [eV.out]
 clear eV m_
 generalize w1.heap.size = T at *
 clear c0 c1 c2 c3 c4 j0
 have s1 := (Lib.cell_of_heap hT 1).trans rfl
 have lD : T < V2.heap.size := blt hT
 obtain ⟨V3, eV, hD, m_, -⟩ := box1 V2 (.cells #[.int .i64 0, .int .i64 t1, .int .i64 0, .int .i64 0, .int .i64 0, .slice none 0 0, .slice none 0 0, .string ⟨#[]⟩, .int .i64 0] 29)
 replace eV := Lib.hid eV
 replace hA := obB m_ hA
 replace hY := obB m_ hY
 replace hS := obB m_ hS
 replace hT := obB m_ hT
 replace n := n.trans (m_.mono n.size)
 go_upto_region 5 with (refine wpList_copy #[.int .i64 0, .int .i64 t1, .int .i64 0, .int .i64 0, .int .i64 0, .slice none 0 0, .slice none 0 0, .string ⟨#[]⟩, .int .i64 0] ⟨rfl, rfl, rfl⟩ ⟨rfl, rfl, rfl⟩ type_alloc (by kernel_rfl) ⟨rfl, by simp [Value.oneCell']⟩ (fun _ => ⟨rfl, rfl⟩) ?_; go_simp)
 rw [eV.out]
 clear eV m_
 generalize V2.heap.size = D at *
 clear s1
 have s0 := (Lib.cell_of_heap hT 0).trans rfl
 obtain ⟨j0, j1, j2⟩ := cl3 hA
 go_wp2_with fail
 refine co V3 n _ (Lib.hid fun v5 w5 r5 m5 => ?_)
 obtain ⟨A5, c5, rfl, -, -⟩ := r5.op
 replace hA := obB m5 hA
 replace hY := obB m5 hY
 replace hS := obB m5 hS
 replace hT := obB m5 hT
 replace hD := obB m5 hD
 replace n := n.trans (m5.mono n.size)
 clear m5 j0 j1 j2 co s0 i9 i1
 obtain ⟨u0, uf0, u1, uf1, u2, uf2⟩ := cf3 hA
 obtain ⟨L10_0, hL10_0⟩ : ∃ L : List (Nat × Value), L = [(0, .slice A5 q.1.length c5), (1, .int .i64 q.2.1), (2, .int .i64 q.2.2)] := ⟨_, rfl⟩
 replace hA := stB_s L10_0 hA
 replace hY := (stB_o (B := w.heap.size) (by omega) L10_0).trans hY
 replace hS := (stB_o (B := w.heap.size) (by omega) L10_0).trans hS
 replace hT := (stB_o (B := w.heap.size) (by omega) L10_0).trans hT
 replace hD := (stB_o (B := w.heap.size) (by omega) L10_0).trans hD
 replace n := stB_n (B := w.heap.size) (by omega) L10_0 n
 obtain ⟨VS10, hVS10⟩ : ∃ W, stB w5 (w.heap.size) L10_0 = W := ⟨_, rfl⟩
 rw [hVS10] at hA hY hS hT hD n
 subst hL10_0
 simp only [stC, List.setIfInBounds_toArray, List.set_cons_succ, List.set_cons_zero] at hA
 simp only [stB] at hVS10
 go_upto_region 10 with fail
 clear hVS10
 generalize VS10 = V5 at *
 clear u0 uf0 u1 uf1 u2 uf2
 have s3 := (Lib.cell_of_heap hT 3).trans rfl
 have qs0 : (t3.toList == [98, 111, 111, 108]) = false := by rw [ht.out, tl_sOpt]; rfl
 have qs1 : (t3.toList == [105, 110, 116]) = false := by rw [ht.out, tl_sOpt]; rfl
 have qs2 : (t3.toList == [116, 101, 120, 116]) = false := by rw [ht.out, tl_sOpt]; rfl
 have qs3 : (t3.toList == [101, 110, 117, 109]) = false := by rw [ht.out, tl_sOpt]; rfl
 have qs4 : (t3.toList == [108, 105, 115, 116]) = false := by rw [ht.out, tl_sOpt]; rfl
 have qs5 : (t3.toList == [111, 112, 116]) = true := by rw [ht.out, tl_sOpt]; rfl
 clear ht
 have d0 := (Lib.cell_of_heap hD 0).trans rfl
 have df0 := Lib.frozen_of_heap hD 0
 obtain ⟨L11_0, hL11_0⟩ : ∃ L : List (Nat × Value), L = [(0, .int .i64 6)] := ⟨_, rfl⟩
 replace hA := (stB_o (B := D) (by omega) L11_0).trans hA
 replace hY := (stB_o (B := D) (by omega) L11_0).trans hY
 replace hS := (stB_o (B := D) (by omega) L11_0).trans hS
 replace hT := (stB_o (B := D) (by omega) L11_0).trans hT
 replace hD := stB_s L11_0 hD
 replace n := stB_n (B := D) (by omega) L11_0 n
 obtain ⟨VS11, hVS11⟩ : ∃ W, stB V5 D L11_0 = W := ⟨_, rfl⟩
 rw [hVS11] at hA hY hS hT hD n
 subst hL11_0
 simp only [stC, List.setIfInBounds_toArray, List.set_cons_succ, List.set_cons_zero] at hD
 simp only [stB] at hVS11
 go_upto_region 36 with fail
 clear hVS11
 generalize VS11 = V6 at *
 clear d0 df0 s3 qs0 qs1 qs2 qs3 qs4 qs5 hT
 have hbV := hb.trans (n.mono hb.size)
 obtain ⟨a0, a1, a2⟩ := cl3 hA
 go_wp2_with fail
 refine mark16_calls q (.slice A5 q.1.length c5) w0 _ hbV r5 okq lpar _ (Lib.hid fun v7 w7 r7 m7 => ?_)
 obtain ⟨A7, c7, rfl, -, -⟩ := r7.op
 have g7 := gd_mark q lpar okq
 replace hA := obB m7 hA
 replace hY := obB m7 hY
 replace hS := obB m7 hS
 replace hD := obB m7 hD
 replace n := n.trans (m7.mono n.size)
 clear m7 hbV a0 a1 a2
 generalize markS q lpar = q7 at *
 have hk2 := hk
 unfold KindQ at hk2
 rw [← hd.out] at hk2
 have gk := gd_kindR k q7 g7.1
 have hbV := hb.trans (n.mono hb.size)
 go_wp2_with fail
 refine hk2 q7 (.slice A7 q7.1.length c7) w0 _ hbV r7 g7.1 (by omega) _ (Lib.hid fun nv8 pv8 v8 w8 ry r8 m8 => ?_)
 obtain ⟨N1, N3, rfl, -, -⟩ := ry.n.op
 obtain ⟨M1, M3, rfl, -⟩ := ry.p.sl
 obtain ⟨A8, c8, rfl, -, -⟩ := r8.op
 have lw7 : D < w7.heap.size := blt hD
 replace ry := RdY.kp (kp_lw (b0 := D + 1) (by omega)) ry
 replace hA := obB m8 hA
 replace hY := obB m8 hY
 replace hS := obB m8 hS
 replace hD := obB m8 hD
 replace n := n.trans (m8.mono n.size)
 clear m8 hbV hk2
 generalize kindR k q7 = Y at *
 obtain ⟨⟨x, f⟩, q8⟩ := Y
 simp only at ry r8 hR gk ⊢
 have lw_E : D < w8.heap.size := blt hD
 obtain ⟨o1_, ho1_⟩ : ∃ oO_ : Obj, oO_ = .cells #[.int .i64 x.kind, .int .i64 x.at_, .int .i64 x.lo, .int .i64 x.hi, .int .i64 x.most, .slice N1 x.names.length N3, .slice M1 f.len M3, .string x.name, .int .i64 x.nat] 29 := ⟨_, rfl⟩
 have hE := heap_alloc_new w8 o1_
 have zq : (w8.alloc o1_).heap.size = w8.heap.size + 1 := by simp
 have mq := alB w8 o1_
 obtain ⟨o2_, ho2_⟩ : ∃ oO_ : Obj, oO_ = .cells #[.slice A8 q8.1.length c8, .int .i64 q8.2.1, .int .i64 q8.2.2] 142 := ⟨_, rfl⟩
 have hU := heap_alloc_new (w8.alloc o1_) o2_
 subst ho1_
 rw [zq] at hU
 replace hE := obB (alB _ o2_) hE
 replace mq := mq.alloc mq.size o2_
 subst ho2_
 replace hA := obB mq hA
 replace hY := obB mq hY
 replace hS := obB mq hS
 replace hD := obB mq hD
 replace n := n.trans (mq.mono n.size)
 replace ry := RdY.kp (emp_bl (b0 := D + 1) (Nat.le_refl _) mq) ry
 clear mq zq
 go_upto_region 37 with fail
 generalize (w8.alloc (.cells #[.int .i64 x.kind, .int .i64 x.at_, .int .i64 x.lo, .int .i64 x.hi, .int .i64 x.most, .slice N1 x.names.length N3, .slice M1 f.len M3, .string x.name, .int .i64 x.nat] 29)).alloc (.cells #[.slice A8 q8.1.length c8, .int .i64 q8.2.1, .int .i64 q8.2.2] 142) = V8 at *
 generalize w8.heap.size = E at *
 have rE : V8.rangeAt E 0 [.int .i64 x.kind, .int .i64 x.at_, .int .i64 x.lo, .int .i64 x.hi, .int .i64 x.most, .slice N1 x.names.length N3, .slice M1 f.len M3, .string x.name, .int .i64 x.nat] := fun j v e => by rw [Nat.zero_add, Lib.cell_of_heap hE]; simpa using e
 have lO : E < V8.heap.size := blt hE
 obtain ⟨o3_, ho3_⟩ : ∃ oO_ : Obj, oO_ = .cells #[.string ⟨#[]⟩, .int .i64 0, .bool false, .slice none 0 0, .int .i64 0, .int .i64 0, .int .i64 0, .int .i64 0, .slice none 0 0, .int .i64 x.kind, .int .i64 x.at_, .int .i64 x.lo, .int .i64 x.hi, .int .i64 x.most, .slice N1 x.names.length N3, .slice M1 f.len M3, .string x.name, .int .i64 x.nat] 92 := ⟨_, rfl⟩
 have hO := heap_alloc_new V8 o3_
 replace hA := obB (alB V8 o3_) hA
 replace hY := obB (alB V8 o3_) hY
 replace hS := obB (alB V8 o3_) hS
 replace hD := obB (alB V8 o3_) hD
 replace hE := obB (alB V8 o3_) hE
 replace hU := obB (alB V8 o3_) hU
 replace n := n.trans ((alB V8 o3_).mono n.size)
 replace ry := RdY.kp (emp_bl (b0 := D + 1) (Nat.le_refl _) (alB V8 o3_)) ry
 subst ho3_
 generalize hV9 : V8.alloc (.cells #[.string ⟨#[]⟩, .int .i64 0, .bool false, .slice none 0 0, .int .i64 0, .int .i64 0, .int .i64 0, .int .i64 0, .slice none 0 0, .int .i64 x.kind, .int .i64 x.at_, .int .i64 x.lo, .int .i64 x.hi, .int .i64 x.most, .slice N1 x.names.length N3, .slice M1 f.len M3, .string x.name, .int .i64 x.nat] 92) = V9 at *
 generalize hO0 : V8.heap.size = O at *
 have pO := onlyR (b := D + 1) (by omega) hO ry
 have rz : RdY (empW (lowS (D + 1)) V9) (hKA 6 t1) (only (x, f)) (.slice none 0 0) (.slice (some ⟨O, 0, none⟩) 1 1) := ⟨rdw_none _, pO⟩
 clear ry pO hO
 have d6 := (Lib.cell_of_heap hD 6).trans rfl
 have df6 := Lib.frozen_of_heap hD 6
 obtain ⟨L12_0, hL12_0⟩ : ∃ L : List (Nat × Value), L = [(6, .slice (some ⟨O, 0, none⟩) 1 1)] := ⟨_, rfl⟩
 replace hA := (stB_o (B := D) (by omega) L12_0).trans hA
 replace hY := (stB_o (B := D) (by omega) L12_0).trans hY
 replace hS := (stB_o (B := D) (by omega) L12_0).trans hS
 replace hD := stB_s L12_0 hD
 replace hE := (stB_o (B := D) (by omega) L12_0).trans hE
 replace hU := (stB_o (B := D) (by omega) L12_0).trans hU
 replace n := stB_n (B := D) (by omega) L12_0 n
 replace rz := RdY.kp (stB_k (B := D) (b := D + 1) (by omega) L12_0) rz
 obtain ⟨VS12, hVS12⟩ : ∃ W, stB V9 D L12_0 = W := ⟨_, rfl⟩
 rw [hVS12] at hA hY hS hD hE hU n rz
 subst hL12_0
 simp only [stC, List.setIfInBounds_toArray, List.set_cons_succ, List.set_cons_zero] at hD
 simp only [stB] at hVS12
 go_upto_region 38 with (refine wpList_load_g (by rfl) 29 _ rfl E 0 rfl [.int .i64 x.kind, .int .i64 x.at_, .int .i64 x.lo, .int .i64 x.hi, .int .i64 x.most, .slice N1 x.names.length N3, .slice M1 f.len M3, .string x.name, .int .i64 x.nat] _ rE Tryz.underlying29 rfl (by kernel_rfl) ?_; go_simp)
 clear hV9 hO0
 clear hVS12
 generalize VS12 = V10 at *
 clear d6 df6 rE
 have hbV := hb.trans (n.mono hb.size)
 obtain ⟨a0, a1, a2⟩ := cl3 hU
 go_wp2_with fail
 refine mark16_calls q8 (.slice A8 q8.1.length c8) w0 _ hbV r8 gk.1 rpar _ (Lib.hid fun v10 w10 r10 m10 => ?_)
 obtain ⟨A10, c10, rfl, -, -⟩ := r10.op
 have g10 := gd_mark q8 rpar gk.1
 replace hA := obB m10 hA
 replace hY := obB m10 hY
 replace hS := obB m10 hS
 replace hD := obB m10 hD
 replace n := n.trans (m10.mono n.size)
 replace rz := RdY.kp (emp_bl (b0 := D + 1) (Nat.le_refl _) m10) rz
 clear m10 hbV a0 a1 a2
 generalize markS q8 rpar = q10 at *
 obtain ⟨u0, uf0, u1, uf1, u2, uf2⟩ := cf3 hA
 obtain ⟨L13_0, hL13_0⟩ : ∃ L : List (Nat × Value), L = [(0, .slice A10 q10.1.length c10), (1, .int .i64 q10.2.1), (2, .int .i64 q10.2.2)] := ⟨_, rfl⟩
 replace hA := stB_s L13_0 hA
 replace hY := (stB_o (B := w.heap.size) (by omega) L13_0).trans hY
 replace hS := (stB_o (B := w.heap.size) (by omega) L13_0).trans hS
 replace hD := (stB_o (B := w.heap.size) (by omega) L13_0).trans hD
 replace n := stB_n (B := w.heap.size) (by omega) L13_0 n
 replace rz := RdY.kp (stB_k (B := w.heap.size) (b := D + 1) (by omega) L13_0) rz
 obtain ⟨VS13, hVS13⟩ : ∃ W, stB w10 (w.heap.size) L13_0 = W := ⟨_, rfl⟩
 rw [hVS13] at hA hY hS hD n rz
 subst hL13_0
 simp only [stC, List.setIfInBounds_toArray, List.set_cons_succ, List.set_cons_zero] at hA
 simp only [stB] at hVS13
 go_upto_region 50 with fail
 clear hVS13
 generalize VS13 = V11 at *
 clear u0 uf0 u1 uf1 u2 uf2 hE hU
 replace hR : Hid (∀ nv pv v' w', RdY (empW (lowS w.heap.size) w') (hKA 6 t1) (only (x, f)) nv pv → RdK w0 v' q10.1 → Below w.heap.size w w' → R (.returned (.tuple #[.agg #[.int .i64 6, .int .i64 t1, .int .i64 0, .int .i64 0, .int .i64 0, nv, pv, .string ⟨#[]⟩, .int .i64 0], psV v' q10])) w') := hR
 have jD := jf (p := w.heap.size + 1) (q := w.heap.size + 2) hD (by omega) (by omega)
 have jA := jf (p := w.heap.size + 1) (q := w.heap.size + 2) hA (by omega) (by omega)
 refine wp_region_mixG (w.heap.size + 1) (w.heap.size + 2) [([0, 1], 2), ([], 3)] [] (by kernel_rfl) (by kernel_rfl) (by kernel_rfl) (by kernel_rfl) (fun _ _ d _ _ h => by cases d <;> exact h) ?_
 have gW : Below V11.heap.size V11 (V11.drewN 1) := ⟨rfl, rfl, rfl, Nat.le_refl _, fun _ _ => rfl⟩
 replace hY := obB gW hY
 replace hS := obB gW hS
 replace n := n.trans (gW.mono n.size)
 refine mix_cons (os := [_, _]) (by simp only [pickO, List.filterMap_cons, List.filterMap_nil, List.getElem?_toArray, List.getElem?_cons_succ, List.getElem?_cons_zero]; rfl) (fun Kp hKp => ?_)
 refine wpQuiet_load rfl 29 _ rfl (D) 0 rfl _ _ jD Tryz.underlying29 rfl (by kernel_rfl) ?_
 go_simp
 refine wpQuiet_load rfl 142 _ rfl (w.heap.size) 0 rfl _ _ jA Tryz.underlying142 rfl (by kernel_rfl) ?_
 go_simp
 refine wpQuiet_nil ?_
 refine hKp _ ?_
 clear hKp
 have ry0 := RdY.kp (emp_bl (b0 := D + 1) (Nat.le_refl _) gW) rz
 refine loud (by rfl) (by kernel_rfl) (fun K2 hK2 => ?_)
 obtain ⟨LV, hLV⟩ : ∃ L : List Value, L = [.int .i64 6, .int .i64 t1, .int .i64 0, .int .i64 0, .int .i64 0, .slice none 0 0, .slice (some ⟨O, 0, none⟩) 1 1, .string ⟨#[]⟩, .int .i64 0] := ⟨_, rfl⟩
 obtain ⟨ht_, gp_, hq_, n_, xx⟩ := sc_all LV hY (by rw [hLV]; rfl) (GW.bl gW) (by omega) hS (by omega) n
 have ry1 := RdY.kp (kpL (b := D + 1) (p := w.heap.size + 1) (by omega) LV) ry0
 clear ry0
 refine wp_store_mid 29 _ _ (by rfl) (w.heap.size + 1) 0 LV.toArray (by rfl) (by rw [hLV]; rfl) ht_ (by rw [hLV]; kernel_rfl) (by rw [hLV]; simp [Value.oneCell']) ?_
 rw [show LV.toArray.toList = LV from rfl]
 refine hK2 _ _ gp_ ?_
 clear hK2 ht_
 generalize (V11.drewN 1).setCells (w.heap.size + 1) 0 LV = W8 at *
 refine mix_cons (os := []) (by rfl) (fun Kp hKp => ?_)
 refine wpQuiet_nil ?_
 refine hKp _ ?_
 clear hKp
 refine loud (by rfl) (by kernel_rfl) (fun K3 hK3 => ?_)
 obtain ⟨z0, zf0, z1, zf1, z2, zf2⟩ := cf3 hq_
 obtain ⟨gq_, n9, xx⟩ := st3 gp_ (by omega) (by omega) n_ xx (.slice A10 q10.1.length c10) (.int .i64 q10.2.1) (.int .i64 q10.2.2)
 go_simp
 refine hK3 _ _ gq_ ?_
 clear hK3
 refine mix_nil (os := []) (by rfl) (fun Kp hKp => ?_)
 refine wpQuiet_nil ?_
 refine hKp _ ?_
 clear hKp
 have ryF := RdY.kp (kp_lw (b := D + 1) (b0 := w.heap.size) (by omega)) (RdY.kp (kp3 (b := D + 1) (q := w.heap.size + 2) (by omega) (.slice A10 q10.1.length c10) (.int .i64 q10.2.1) (.int .i64 q10.2.2)) ry1)
 clear ry1
 have fin := Lib.hid (hR.out _ _ _ _ ryF r10 n9)
 clear hR
 clear gp_ gq_
 subst hLV
 go_wp2_with fail
 refine bodyPost_ret ?_ rfl fin.out
 simp [results, Tryz.results68, go_sem, xx.out 0 _ rfl, xx.out 1 _ rfl, xx.out 2 _ rfl, xx.out 3 _ rfl, xx.out 4 _ rfl, xx.out 5 _ rfl, xx.out 6 _ rfl, xx.out 7 _ rfl, xx.out 8 _ rfl, z0, z1, z2]
end Go.Proofs.YtncijmodlhijoaaGreat.Syn
