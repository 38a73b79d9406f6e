import Derived.Test.YtncijmodlhijoaaGreatQ21
set_option linter.unusedVariables false
set_option maxRecDepth 100000
set_option maxHeartbeats 4000000
namespace Go.Proofs.YtncijmodlhijoaaGreat.Syn
open Go.RowKit Go.Lib Utf Tok Cur Nam Lat Kin
theorem kind_sUnion (k : Nat) (hk : KindQ k) (d : Int) (hd : d + 1 = 24 - (k : Int)) (hd0 : 0 ≤ d) (hd1 : d ≤ 23) (p : PS) (v : Value) (w0 w : World) (hb : Below w0.heap.size w0 w) (hx : RdK w0 v p.1) (ok : Ok p) (hl : p.1.length ≤ 1000000) (he : p.2.1 = 0) (h1 : (Cur.hdT p.1).1 = 1) (ht : (Cur.hdT p.1).2.2.2.1 = sUnion) (R : Ending → World → Prop)
  (hR : Hid (∀ nv pv v' w', RdY (empW (lowS w.heap.size) w') (bodyR (kindR k) sUnion (Cur.hdT p.1).2.1 (onS p)).1.1 (bodyR (kindR k) sUnion (Cur.hdT p.1).2.1 (onS p)).1.2 nv pv → RdK w0 v' (bodyR (kindR k) sUnion (Cur.hdT p.1).2.1 (onS p)).2.1 → Below w.heap.size w w' → R (.returned (.tuple #[tyV (bodyR (kindR k) sUnion (Cur.hdT p.1).2.1 (onS p)).1.1 nv pv, psV v' (bodyR (kindR k) sUnion (Cur.hdT p.1).2.1 (onS p)).2])) w')) : Calls Tryz.prog 68 #[psV v p, .int .i64 d] w R := by
 rw [body_sUnion] at hR
 simp only at hR
 have okq := on_ok ok (show (Cur.hdT p.1).1 ≠ 0 by rw [h1]; decide)
 have lq : (onS p).1.length ≤ 1000000 := by rw [on_len]; omega
 replace he := Lib.hid he
 replace hd := Lib.hid hd
 replace h1 := Lib.hid h1
 replace ht := Lib.hid ht
 obtain ⟨A, cp, rfl, hlc, hr⟩ := hx.op
 have hlen : 0 < p.1.length := List.length_pos_iff.2 (EndL.ne ok)
 obtain ⟨g, o, rfl, hg, hca⟩ := hr hlen
 obtain ⟨x0, x1, x2, x3, x4⟩ := hca 0 hlen
 rw [hd_tN (EndL.ne ok)] at x0 x1 x2 x3 x4
 simp only [Nat.zero_mul, Nat.add_zero] at x0 x1 x2 x3 x4
 have i1 : (0 : Int) < (p.1.length : Int) := by omega
 have i9 : ¬ (23 : Int) < d := by omega
 clear hr hca
 obtain ⟨V, eV, hA, hY, hS, n, -, zz1, zz2⟩ := box3 w (.cells #[.slice (some ⟨g, o, none⟩) p.1.length cp, .int .i64 p.2.1, .int .i64 p.2.2] 142) (.cells #[.int .i64 0, .int .i64 0, .int .i64 0, .int .i64 0, .int .i64 0, .slice none 0 0, .slice none 0 0, .string ⟨#[]⟩, .int .i64 0] 29) (.cells #[.slice none 0 0, .int .i64 0, .int .i64 0] 142)
 replace eV := Lib.hid eV
 go_enter Tryz.func68, Tryz.ntmps68
 go_upto_region 1 with fail
 rw [eV.out]
 clear eV zz1 zz2
 have hbV := hb.trans (n.mono hb.size)
 obtain ⟨j0, j1, j2⟩ := cl3 hA
 go_wp2_with fail
 refine fine16_calls (.slice (some ⟨g, o, none⟩) p.1.length cp) p ⟨_, _, _, rfl⟩ V _ (Lib.hid fun w1 n1 => ?_)
 replace hA := obB n1 hA
 replace hY := obB n1 hY
 replace hS := obB n1 hS
 replace n := n.trans (n1.mono n.size)
 clear j0 j1 j2 n1 hbV
 rw [decide_eq_true he.out]
 clear he
 have hbV := hb.trans (n.mono hb.size)
 have c0 := (hbV.cell (p := ⟨g, o, none⟩) hg).trans x0
 have c1 := (hbV.cell (p := ⟨g, o + 1, none⟩) hg).trans x1
 have c2 := (hbV.cell (p := ⟨g, o + 2, none⟩) hg).trans x2
 have c3 := (hbV.cell (p := ⟨g, o + 3, none⟩) hg).trans x3
 have c4 := (hbV.cell (p := ⟨g, o + 4, none⟩) hg).trans x4
 have co := fun (W : World) (m : Below w.heap.size w W) => on16_calls p (.slice (some ⟨g, o, none⟩) p.1.length cp) w0 W (hb.trans (m.mono hb.size)) hx ok (.inr hlen)
 clear x0 x1 x2 x3 x4 hbV
 generalize onS p = q at *
 generalize Cur.hdT p.1 = tk at *
 obtain ⟨t0, t1, t2, t3, t4⟩ := tk
 replace h1 := h1.out
 replace ht := ht.out
 simp only at hR c0 c1 c2 c3 c4 h1 ht
 subst h1
 replace ht := Lib.hid ht
 have j0 := (Lib.cell_of_heap hA 0).trans rfl
 have lT : w.heap.size + 2 < w1.heap.size := blt hS
 obtain ⟨V2, eV, hT, m_, -⟩ := box1 w1 (.cells #[.int .i64 1, .int .i64 t1, .int .i64 t2, .string t3, .int .i64 t4] 212)
 replace eV := Lib.hid eV
 replace hA := obB m_ hA
 replace hY := obB m_ hY
 replace hS := obB m_ hS
 replace n := n.trans (m_.mono n.size)
 go_upto_region 4 with fail
 rw [eV.out]
 clear eV m_
 generalize w1.heap.size = T at *
 clear c0 c1 c2 c3 c4 j0
 have s1 := (Lib.cell_of_heap hT 1).trans rfl
 have lD : T < V2.heap.size := blt hT
 obtain ⟨V3, eV, hD, m_, -⟩ := box1 V2 (.cells #[.int .i64 0, .int .i64 t1, .int .i64 0, .int .i64 0, .int .i64 0, .slice none 0 0, .slice none 0 0, .string ⟨#[]⟩, .int .i64 0] 29)
 replace eV := Lib.hid eV
 replace hA := obB m_ hA
 replace hY := obB m_ hY
 replace hS := obB m_ hS
 replace hT := obB m_ hT
 replace n := n.trans (m_.mono n.size)
 go_upto_region 5 with (refine wpList_copy #[.int .i64 0, .int .i64 t1, .int .i64 0, .int .i64 0, .int .i64 0, .slice none 0 0, .slice none 0 0, .string ⟨#[]⟩, .int .i64 0] ⟨rfl, rfl, rfl⟩ ⟨rfl, rfl, rfl⟩ type_alloc (by kernel_rfl) ⟨rfl, by simp [Value.oneCell']⟩ (fun _ => ⟨rfl, rfl⟩) ?_; go_simp)
 rw [eV.out]
 clear eV m_
 generalize V2.heap.size = D at *
 clear s1
 have s0 := (Lib.cell_of_heap hT 0).trans rfl
 obtain ⟨j0, j1, j2⟩ := cl3 hA
 go_wp2_with fail
 refine co V3 n _ (Lib.hid fun v5 w5 r5 m5 => ?_)
 obtain ⟨A5, c5, rfl, -, -⟩ := r5.op
 replace hA := obB m5 hA
 replace hY := obB m5 hY
 replace hS := obB m5 hS
 replace hT := obB m5 hT
 replace hD := obB m5 hD
 replace n := n.trans (m5.mono n.size)
 clear m5 j0 j1 j2 co s0 i9 i1
 obtain ⟨u0, uf0, u1, uf1, u2, uf2⟩ := cf3 hA
 obtain ⟨L12_0, hL12_0⟩ : ∃ L : List (Nat × Value), L = [(0, .slice A5 q.1.length c5), (1, .int .i64 q.2.1), (2, .int .i64 q.2.2)] := ⟨_, rfl⟩
 replace hA := stB_s L12_0 hA
 replace hY := (stB_o (B := w.heap.size) (by omega) L12_0).trans hY
 replace hS := (stB_o (B := w.heap.size) (by omega) L12_0).trans hS
 replace hT := (stB_o (B := w.heap.size) (by omega) L12_0).trans hT
 replace hD := (stB_o (B := w.heap.size) (by omega) L12_0).trans hD
 replace n := stB_n (B := w.heap.size) (by omega) L12_0 n
 obtain ⟨VS12, hVS12⟩ : ∃ W, stB w5 (w.heap.size) L12_0 = W := ⟨_, rfl⟩
 rw [hVS12] at hA hY hS hT hD n
 subst hL12_0
 simp only [stC, List.setIfInBounds_toArray, List.set_cons_succ, List.set_cons_zero] at hA
 simp only [stB] at hVS12
 go_upto_region 10 with fail
 clear hVS12
 generalize VS12 = V5 at *
 clear u0 uf0 u1 uf1 u2 uf2
 have s3 := (Lib.cell_of_heap hT 3).trans rfl
 have qs0 : (t3.toList == [98, 111, 111, 108]) = false := by rw [ht.out, tl_sUnion]; rfl
 have qs1 : (t3.toList == [105, 110, 116]) = false := by rw [ht.out, tl_sUnion]; rfl
 have qs2 : (t3.toList == [116, 101, 120, 116]) = false := by rw [ht.out, tl_sUnion]; rfl
 have qs3 : (t3.toList == [101, 110, 117, 109]) = false := by rw [ht.out, tl_sUnion]; rfl
 have qs4 : (t3.toList == [108, 105, 115, 116]) = false := by rw [ht.out, tl_sUnion]; rfl
 have qs5 : (t3.toList == [111, 112, 116]) = false := by rw [ht.out, tl_sUnion]; rfl
 have qs6 : (t3.toList == [114, 101, 99, 111, 114, 100]) = false := by rw [ht.out, tl_sUnion]; rfl
 have qs7 : (t3.toList == [117, 110, 105, 111, 110]) = true := by rw [ht.out, tl_sUnion]; rfl
 clear ht
 have d0 := (Lib.cell_of_heap hD 0).trans rfl
 have df0 := Lib.frozen_of_heap hD 0
 obtain ⟨L13_0, hL13_0⟩ : ∃ L : List (Nat × Value), L = [(0, .int .i64 8)] := ⟨_, rfl⟩
 replace hA := (stB_o (B := D) (by omega) L13_0).trans hA
 replace hY := (stB_o (B := D) (by omega) L13_0).trans hY
 replace hS := (stB_o (B := D) (by omega) L13_0).trans hS
 replace hT := (stB_o (B := D) (by omega) L13_0).trans hT
 replace hD := stB_s L13_0 hD
 replace n := stB_n (B := D) (by omega) L13_0 n
 obtain ⟨VS13, hVS13⟩ : ∃ W, stB V5 D L13_0 = W := ⟨_, rfl⟩
 rw [hVS13] at hA hY hS hT hD n
 subst hL13_0
 simp only [stC, List.setIfInBounds_toArray, List.set_cons_succ, List.set_cons_zero] at hD
 simp only [stB] at hVS13
 go_upto_region 44 with fail
 clear hVS13
 generalize VS13 = V6 at *
 clear d0 df0 s3 qs0 qs1 qs2 qs3 qs4 qs5 qs6 qs7 hT
 have cP := parts16_calls k hk true q (.slice A5 q.1.length c5) w0
 rw [← hd.out] at cP
 have hbV := hb.trans (n.mono hb.size)
 obtain ⟨a0, a1, a2⟩ := cl3 hA
 go_wp2_with fail
 refine cP _ hbV r5 okq lq _ (Lib.hid fun lv v8 w8 rl r8 ok8 m8 => ?_)
 obtain ⟨L1, e1, rfl, -⟩ := RdP.sl rl
 obtain ⟨A8, c8, rfl, -, -⟩ := r8.op
 have lw7 : D < V6.heap.size := blt hD
 replace rl := RdSl.kp (hd := hdT) (pl := plT) (fun _ _ _ _ _ q h => hdT.kp q h) (fun _ _ _ _ q h => plT.kp q h) (kp_lw (b0 := D + 1) (by omega)) rl
 replace hA := obB m8 hA
 replace hY := obB m8 hY
 replace hS := obB m8 hS
 replace hD := obB m8 hD
 replace n := n.trans (m8.mono n.size)
 clear m8 hbV a0 a1 a2 cP
 generalize partsP (kindR k) true q = Y at *
 obtain ⟨ns, q8⟩ := Y
 simp only at r8 rl ok8 hR ⊢
 generalize ofL ns = f at *
 have ry : RdY (empW (lowS (D + 1)) w8) (hKA 8 t1) f (.slice none 0 0) (.slice L1 f.len e1) := ⟨rdw_none _, rl⟩
 clear rl
 have d6 := (Lib.cell_of_heap hD 6).trans rfl
 have df6 := Lib.frozen_of_heap hD 6
 obtain ⟨u0, uf0, u1, uf1, u2, uf2⟩ := cf3 hA
 obtain ⟨L14_0, hL14_0⟩ : ∃ L : List (Nat × Value), L = [(6, .slice L1 f.len e1)] := ⟨_, rfl⟩
 obtain ⟨L14_1, hL14_1⟩ : ∃ L : List (Nat × Value), L = [(0, .slice A8 q8.1.length c8), (1, .int .i64 q8.2.1), (2, .int .i64 q8.2.2)] := ⟨_, rfl⟩
 replace hA := (stB_o (B := D) (by omega) L14_0).trans hA
 replace hY := (stB_o (B := D) (by omega) L14_0).trans hY
 replace hS := (stB_o (B := D) (by omega) L14_0).trans hS
 replace hD := stB_s L14_0 hD
 replace n := stB_n (B := D) (by omega) L14_0 n
 replace ry := RdY.kp (stB_k (B := D) (b := D + 1) (by omega) L14_0) ry
 replace hA := stB_s L14_1 hA
 replace hY := (stB_o (B := w.heap.size) (by omega) L14_1).trans hY
 replace hS := (stB_o (B := w.heap.size) (by omega) L14_1).trans hS
 replace hD := (stB_o (B := w.heap.size) (by omega) L14_1).trans hD
 replace n := stB_n (B := w.heap.size) (by omega) L14_1 n
 replace ry := RdY.kp (stB_k (B := w.heap.size) (b := D + 1) (by omega) L14_1) ry
 obtain ⟨VS14, hVS14⟩ : ∃ W, stB (stB w8 D L14_0) (w.heap.size) L14_1 = W := ⟨_, rfl⟩
 rw [hVS14] at hA hY hS hD n ry
 subst hL14_0 hL14_1
 simp only [stC, List.setIfInBounds_toArray, List.set_cons_succ, List.set_cons_zero] at hA hD
 simp only [stB] at hVS14
 go_upto_region 50 with fail
 clear hVS14
 generalize VS14 = V7 at *
 clear u0 uf0 u1 uf1 u2 uf2 d6 df6
 replace hR : Hid (∀ nv pv v' w', RdY (empW (lowS w.heap.size) w') (hKA 8 t1) (f) nv pv → RdK w0 v' q8.1 → Below w.heap.size w w' → R (.returned (.tuple #[.agg #[.int .i64 8, .int .i64 t1, .int .i64 0, .int .i64 0, .int .i64 0, nv, pv, .string ⟨#[]⟩, .int .i64 0], psV v' q8])) w') := hR
 have jD := jf (p := w.heap.size + 1) (q := w.heap.size + 2) hD (by omega) (by omega)
 have jA := jf (p := w.heap.size + 1) (q := w.heap.size + 2) hA (by omega) (by omega)
 refine wp_region_mixG (w.heap.size + 1) (w.heap.size + 2) [([0, 1], 2), ([], 3)] [] (by kernel_rfl) (by kernel_rfl) (by kernel_rfl) (by kernel_rfl) (fun _ _ d _ _ h => by cases d <;> exact h) ?_
 have gW : Below V7.heap.size V7 (V7.drewN 1) := ⟨rfl, rfl, rfl, Nat.le_refl _, fun _ _ => rfl⟩
 replace hY := obB gW hY
 replace hS := obB gW hS
 replace n := n.trans (gW.mono n.size)
 refine mix_cons (os := [_, _]) (by simp only [pickO, List.filterMap_cons, List.filterMap_nil, List.getElem?_toArray, List.getElem?_cons_succ, List.getElem?_cons_zero]; rfl) (fun Kp hKp => ?_)
 refine wpQuiet_load rfl 29 _ rfl (D) 0 rfl _ _ jD Tryz.underlying29 rfl (by kernel_rfl) ?_
 go_simp
 refine wpQuiet_load rfl 142 _ rfl (w.heap.size) 0 rfl _ _ jA Tryz.underlying142 rfl (by kernel_rfl) ?_
 go_simp
 refine wpQuiet_nil ?_
 refine hKp _ ?_
 clear hKp
 have ry0 := RdY.kp (emp_bl (b0 := D + 1) (Nat.le_refl _) gW) ry
 refine loud (by rfl) (by kernel_rfl) (fun K2 hK2 => ?_)
 obtain ⟨LV, hLV⟩ : ∃ L : List Value, L = [.int .i64 8, .int .i64 t1, .int .i64 0, .int .i64 0, .int .i64 0, .slice none 0 0, .slice L1 f.len e1, .string ⟨#[]⟩, .int .i64 0] := ⟨_, rfl⟩
 obtain ⟨ht_, gp_, hq_, n_, xx⟩ := sc_all LV hY (by rw [hLV]; rfl) (GW.bl gW) (by omega) hS (by omega) n
 have ry1 := RdY.kp (kpL (b := D + 1) (p := w.heap.size + 1) (by omega) LV) ry0
 clear ry0
 refine wp_store_mid 29 _ _ (by rfl) (w.heap.size + 1) 0 LV.toArray (by rfl) (by rw [hLV]; rfl) ht_ (by rw [hLV]; kernel_rfl) (by rw [hLV]; simp [Value.oneCell']) ?_
 rw [show LV.toArray.toList = LV from rfl]
 refine hK2 _ _ gp_ ?_
 clear hK2 ht_
 generalize (V7.drewN 1).setCells (w.heap.size + 1) 0 LV = W8 at *
 refine mix_cons (os := []) (by rfl) (fun Kp hKp => ?_)
 refine wpQuiet_nil ?_
 refine hKp _ ?_
 clear hKp
 refine loud (by rfl) (by kernel_rfl) (fun K3 hK3 => ?_)
 obtain ⟨z0, zf0, z1, zf1, z2, zf2⟩ := cf3 hq_
 obtain ⟨gq_, n9, xx⟩ := st3 gp_ (by omega) (by omega) n_ xx (.slice A8 q8.1.length c8) (.int .i64 q8.2.1) (.int .i64 q8.2.2)
 go_simp
 refine hK3 _ _ gq_ ?_
 clear hK3
 refine mix_nil (os := []) (by rfl) (fun Kp hKp => ?_)
 refine wpQuiet_nil ?_
 refine hKp _ ?_
 clear hKp
 have ryF := RdY.kp (kp_lw (b := D + 1) (b0 := w.heap.size) (by omega)) (RdY.kp (kp3 (b := D + 1) (q := w.heap.size + 2) (by omega) (.slice A8 q8.1.length c8) (.int .i64 q8.2.1) (.int .i64 q8.2.2)) ry1)
 clear ry1
 have fin := Lib.hid (hR.out _ _ _ _ ryF r8 n9)
 clear hR
 clear gp_ gq_
 subst hLV
 go_wp2_with fail
 refine bodyPost_ret ?_ rfl fin.out
 simp [results, Tryz.results68, go_sem, xx.out 0 _ rfl, xx.out 1 _ rfl, xx.out 2 _ rfl, xx.out 3 _ rfl, xx.out 4 _ rfl, xx.out 5 _ rfl, xx.out 6 _ rfl, xx.out 7 _ rfl, xx.out 8 _ rfl, z0, z1, z2]
theorem kind_sInt (k : Nat) (hk : KindQ k) (d : Int) (hd : d + 1 = 24 - (k : Int)) (hd0 : 0 ≤ d) (hd1 : d ≤ 23) (p : PS) (v : Value) (w0 w : World) (hb : Below w0.heap.size w0 w) (hx : RdK w0 v p.1) (ok : Ok p) (hl : p.1.length ≤ 1000000) (he : p.2.1 = 0) (h1 : (Cur.hdT p.1).1 = 1) (ht : (Cur.hdT p.1).2.2.2.1 = sInt) (R : Ending → World → Prop)
  (hR : Hid (∀ nv pv v' w', RdY (empW (lowS w.heap.size) w') (bodyR (kindR k) sInt (Cur.hdT p.1).2.1 (onS p)).1.1 (bodyR (kindR k) sInt (Cur.hdT p.1).2.1 (onS p)).1.2 nv pv → RdK w0 v' (bodyR (kindR k) sInt (Cur.hdT p.1).2.1 (onS p)).2.1 → Below w.heap.size w w' → R (.returned (.tuple #[tyV (bodyR (kindR k) sInt (Cur.hdT p.1).2.1 (onS p)).1.1 nv pv, psV v' (bodyR (kindR k) sInt (Cur.hdT p.1).2.1 (onS p)).2])) w')) : Calls Tryz.prog 68 #[psV v p, .int .i64 d] w R := by
 rw [body_sInt] at hR
 simp only at hR
 have okq := on_ok ok (show (Cur.hdT p.1).1 ≠ 0 by rw [h1]; decide)
 have lq : (onS p).1.length ≤ 1000000 := by rw [on_len]; omega
 replace he := Lib.hid he
 replace hd := Lib.hid hd
 replace h1 := Lib.hid h1
 replace ht := Lib.hid ht
 obtain ⟨A, cp, rfl, hlc, hr⟩ := hx.op
 have hlen : 0 < p.1.length := List.length_pos_iff.2 (EndL.ne ok)
 obtain ⟨g, o, rfl, hg, hca⟩ := hr hlen
 obtain ⟨x0, x1, x2, x3, x4⟩ := hca 0 hlen
 rw [hd_tN (EndL.ne ok)] at x0 x1 x2 x3 x4
 simp only [Nat.zero_mul, Nat.add_zero] at x0 x1 x2 x3 x4
 have i1 : (0 : Int) < (p.1.length : Int) := by omega
 have i9 : ¬ (23 : Int) < d := by omega
 clear hr hca
 obtain ⟨V, eV, hA, hY, hS, n, -, zz1, zz2⟩ := box3 w (.cells #[.slice (some ⟨g, o, none⟩) p.1.length cp, .int .i64 p.2.1, .int .i64 p.2.2] 142) (.cells #[.int .i64 0, .int .i64 0, .int .i64 0, .int .i64 0, .int .i64 0, .slice none 0 0, .slice none 0 0, .string ⟨#[]⟩, .int .i64 0] 29) (.cells #[.slice none 0 0, .int .i64 0, .int .i64 0] 142)
 replace eV := Lib.hid eV
 go_enter Tryz.func68, Tryz.ntmps68
 go_upto_region 1 with fail
 rw [eV.out]
 clear eV zz1 zz2
 have hbV := hb.trans (n.mono hb.size)
 obtain ⟨j0, j1, j2⟩ := cl3 hA
 go_wp2_with fail
 refine fine16_calls (.slice (some ⟨g, o, none⟩) p.1.length cp) p ⟨_, _, _, rfl⟩ V _ (Lib.hid fun w1 n1 => ?_)
 replace hA := obB n1 hA
 replace hY := obB n1 hY
 replace hS := obB n1 hS
 replace n := n.trans (n1.mono n.size)
 clear j0 j1 j2 n1 hbV
 rw [decide_eq_true he.out]
 clear he
 have hbV := hb.trans (n.mono hb.size)
 have c0 := (hbV.cell (p := ⟨g, o, none⟩) hg).trans x0
 have c1 := (hbV.cell (p := ⟨g, o + 1, none⟩) hg).trans x1
 have c2 := (hbV.cell (p := ⟨g, o + 2, none⟩) hg).trans x2
 have c3 := (hbV.cell (p := ⟨g, o + 3, none⟩) hg).trans x3
 have c4 := (hbV.cell (p := ⟨g, o + 4, none⟩) hg).trans x4
 have co := fun (W : World) (m : Below w.heap.size w W) => on16_calls p (.slice (some ⟨g, o, none⟩) p.1.length cp) w0 W (hb.trans (m.mono hb.size)) hx ok (.inr hlen)
 clear x0 x1 x2 x3 x4 hbV
 generalize onS p = q at *
 generalize Cur.hdT p.1 = tk at *
 obtain ⟨t0, t1, t2, t3, t4⟩ := tk
 replace h1 := h1.out
 replace ht := ht.out
 simp only at hR c0 c1 c2 c3 c4 h1 ht
 subst h1
 replace ht := Lib.hid ht
 have j0 := (Lib.cell_of_heap hA 0).trans rfl
 have lT : w.heap.size + 2 < w1.heap.size := blt hS
 obtain ⟨V2, eV, hT, m_, -⟩ := box1 w1 (.cells #[.int .i64 1, .int .i64 t1, .int .i64 t2, .string t3, .int .i64 t4] 212)
 replace eV := Lib.hid eV
 replace hA := obB m_ hA
 replace hY := obB m_ hY
 replace hS := obB m_ hS
 replace n := n.trans (m_.mono n.size)
 go_upto_region 4 with fail
 rw [eV.out]
 clear eV m_
 generalize w1.heap.size = T at *
 clear c0 c1 c2 c3 c4 j0
 have s1 := (Lib.cell_of_heap hT 1).trans rfl
 have lD : T < V2.heap.size := blt hT
 obtain ⟨V3, eV, hD, m_, -⟩ := box1 V2 (.cells #[.int .i64 0, .int .i64 t1, .int .i64 0, .int .i64 0, .int .i64 0, .slice none 0 0, .slice none 0 0, .string ⟨#[]⟩, .int .i64 0] 29)
 replace eV := Lib.hid eV
 replace hA := obB m_ hA
 replace hY := obB m_ hY
 replace hS := obB m_ hS
 replace hT := obB m_ hT
 replace n := n.trans (m_.mono n.size)
 go_upto_region 5 with (refine wpList_copy #[.int .i64 0, .int .i64 t1, .int .i64 0, .int .i64 0, .int .i64 0, .slice none 0 0, .slice none 0 0, .string ⟨#[]⟩, .int .i64 0] ⟨rfl, rfl, rfl⟩ ⟨rfl, rfl, rfl⟩ type_alloc (by kernel_rfl) ⟨rfl, by simp [Value.oneCell']⟩ (fun _ => ⟨rfl, rfl⟩) ?_; go_simp)
 rw [eV.out]
 clear eV m_
 generalize V2.heap.size = D at *
 clear s1
 have s0 := (Lib.cell_of_heap hT 0).trans rfl
 obtain ⟨j0, j1, j2⟩ := cl3 hA
 go_wp2_with fail
 refine co V3 n _ (Lib.hid fun v5 w5 r5 m5 => ?_)
 obtain ⟨A5, c5, rfl, -, -⟩ := r5.op
 replace hA := obB m5 hA
 replace hY := obB m5 hY
 replace hS := obB m5 hS
 replace hT := obB m5 hT
 replace hD := obB m5 hD
 replace n := n.trans (m5.mono n.size)
 clear m5 j0 j1 j2 co s0 i9 i1
 obtain ⟨u0, uf0, u1, uf1, u2, uf2⟩ := cf3 hA
 obtain ⟨L1_0, hL1_0⟩ : ∃ L : List (Nat × Value), L = [(0, .slice A5 q.1.length c5), (1, .int .i64 q.2.1), (2, .int .i64 q.2.2)] := ⟨_, rfl⟩
 replace hA := stB_s L1_0 hA
 replace hY := (stB_o (B := w.heap.size) (by omega) L1_0).trans hY
 replace hS := (stB_o (B := w.heap.size) (by omega) L1_0).trans hS
 replace hT := (stB_o (B := w.heap.size) (by omega) L1_0).trans hT
 replace hD := (stB_o (B := w.heap.size) (by omega) L1_0).trans hD
 replace n := stB_n (B := w.heap.size) (by omega) L1_0 n
 obtain ⟨VS1, hVS1⟩ : ∃ W, stB w5 (w.heap.size) L1_0 = W := ⟨_, rfl⟩
 rw [hVS1] at hA hY hS hT hD n
 subst hL1_0
 simp only [stC, List.setIfInBounds_toArray, List.set_cons_succ, List.set_cons_zero] at hA
 simp only [stB] at hVS1
 go_upto_region 10 with fail
 clear hVS1
 generalize VS1 = V5 at *
 clear u0 uf0 u1 uf1 u2 uf2
 have s3 := (Lib.cell_of_heap hT 3).trans rfl
 have qs0 : (t3.toList == [98, 111, 111, 108]) = false := by rw [ht.out, tl_sInt]; rfl
 have qs1 : (t3.toList == [105, 110, 116]) = true := by rw [ht.out, tl_sInt]; rfl
 clear ht
 have d0 := (Lib.cell_of_heap hD 0).trans rfl
 have df0 := Lib.frozen_of_heap hD 0
 obtain ⟨L2_0, hL2_0⟩ : ∃ L : List (Nat × Value), L = [(0, .int .i64 2)] := ⟨_, rfl⟩
 replace hA := (stB_o (B := D) (by omega) L2_0).trans hA
 replace hY := (stB_o (B := D) (by omega) L2_0).trans hY
 replace hS := (stB_o (B := D) (by omega) L2_0).trans hS
 replace hT := (stB_o (B := D) (by omega) L2_0).trans hT
 replace hD := stB_s L2_0 hD
 replace n := stB_n (B := D) (by omega) L2_0 n
 obtain ⟨VS2, hVS2⟩ : ∃ W, stB V5 D L2_0 = W := ⟨_, rfl⟩
 rw [hVS2] at hA hY hS hT hD n
 subst hL2_0
 simp only [stC, List.setIfInBounds_toArray, List.set_cons_succ, List.set_cons_zero] at hD
 simp only [stB] at hVS2
 go_upto_region 16 with fail
 clear hVS2
 generalize VS2 = V6 at *
 clear d0 df0 s3 qs0 qs1 hT
 have hbV := hb.trans (n.mono hb.size)
 obtain ⟨a0, a1, a2⟩ := cl3 hA
 go_wp2_with fail
 refine mark16_calls q (.slice A5 q.1.length c5) w0 _ hbV r5 okq lpar _ (Lib.hid fun v7 w7 r7 m7 => ?_)
 obtain ⟨A7, c7, rfl, -, -⟩ := r7.op
 have g7 := gd_mark q lpar okq
 replace hA := obB m7 hA
 replace hY := obB m7 hY
 replace hS := obB m7 hS
 replace hD := obB m7 hD
 replace n := n.trans (m7.mono n.size)
 clear m7 hbV a0 a1 a2
 generalize markS q lpar = q7 at *
 have ga8 := gd_int q7 g7.1
 have ei : intS q7 = ((anyS q7 2).1.2.2.2.2, (anyS q7 2).2) := rfl
 rw [ei] at hR ga8
 simp only at hR ga8
 clear ei
 have hbV := hb.trans (n.mono hb.size)
 go_wp2_with fail
 refine any16_calls q7 (.slice A7 q7.1.length c7) w0 _ hbV r7 g7.1 2 _ (Lib.hid fun v8 w8 r8 m8 => ?_)
 obtain ⟨A8, c8, rfl, -, -⟩ := r8.op
 replace hA := obB m8 hA
 replace hY := obB m8 hY
 replace hS := obB m8 hS
 replace hD := obB m8 hD
 replace n := n.trans (m8.mono n.size)
 clear m8 hbV
 generalize anyS q7 2 = Y at *
 obtain ⟨⟨k0, k1, k2, k3, k4⟩, q8⟩ := Y
 simp only at r8 hR ga8
 simp only [tkV]
 have lw_E : D < w8.heap.size := blt hD
 obtain ⟨o1_, ho1_⟩ : ∃ oO_ : Obj, oO_ = .cells #[.int .i64 k0, .int .i64 k1, .int .i64 k2, .string k3, .int .i64 k4] 212 := ⟨_, rfl⟩
 have hE := heap_alloc_new w8 o1_
 have zq : (w8.alloc o1_).heap.size = w8.heap.size + 1 := by simp
 have mq := alB w8 o1_
 obtain ⟨o2_, ho2_⟩ : ∃ oO_ : Obj, oO_ = .cells #[.slice A8 q8.1.length c8, .int .i64 q8.2.1, .int .i64 q8.2.2] 142 := ⟨_, rfl⟩
 have hU := heap_alloc_new (w8.alloc o1_) o2_
 subst ho1_
 rw [zq] at hU
 replace hE := obB (alB _ o2_) hE
 replace mq := mq.alloc mq.size o2_
 subst ho2_
 replace hA := obB mq hA
 replace hY := obB mq hY
 replace hS := obB mq hS
 replace hD := obB mq hD
 replace n := n.trans (mq.mono n.size)
 clear mq zq
 go_upto_region 17 with fail
 generalize (w8.alloc (.cells #[.int .i64 k0, .int .i64 k1, .int .i64 k2, .string k3, .int .i64 k4] 212)).alloc (.cells #[.slice A8 q8.1.length c8, .int .i64 q8.2.1, .int .i64 q8.2.2] 142) = V8 at *
 generalize w8.heap.size = E at *
 have hbV := hb.trans (n.mono hb.size)
 obtain ⟨a0, a1, a2⟩ := cl3 hU
 go_wp2_with fail
 refine mark16_calls q8 (.slice A8 q8.1.length c8) w0 _ hbV r8 ga8.1 dots _ (Lib.hid fun v9 w9 r9 m9 => ?_)
 obtain ⟨A9, c9, rfl, -, -⟩ := r9.op
 have g9 := gd_mark q8 dots ga8.1
 replace hA := obB m9 hA
 replace hY := obB m9 hY
 replace hS := obB m9 hS
 replace hD := obB m9 hD
 replace hE := obB m9 hE
 replace hU := obB m9 hU
 replace n := n.trans (m9.mono n.size)
 clear m9 hbV a0 a1 a2
 generalize markS q8 dots = q9 at *
 have ga10 := gd_int q9 g9.1
 have ei : intS q9 = ((anyS q9 2).1.2.2.2.2, (anyS q9 2).2) := rfl
 rw [ei] at hR ga10
 simp only at hR ga10
 clear ei
 have hbV := hb.trans (n.mono hb.size)
 go_wp2_with fail
 refine any16_calls q9 (.slice A9 q9.1.length c9) w0 _ hbV r9 g9.1 2 _ (Lib.hid fun v10 w10 r10 m10 => ?_)
 obtain ⟨A10, c10, rfl, -, -⟩ := r10.op
 replace hA := obB m10 hA
 replace hY := obB m10 hY
 replace hS := obB m10 hS
 replace hD := obB m10 hD
 replace hE := obB m10 hE
 replace hU := obB m10 hU
 replace n := n.trans (m10.mono n.size)
 clear m10 hbV
 generalize anyS q9 2 = Y at *
 obtain ⟨⟨l0, l1, l2, l3, l4⟩, q10⟩ := Y
 simp only at r10 hR ga10
 simp only [tkV]
 have lw_F : E + 1 < w10.heap.size := blt hU
 obtain ⟨o3_, ho3_⟩ : ∃ oO_ : Obj, oO_ = .cells #[.int .i64 l0, .int .i64 l1, .int .i64 l2, .string l3, .int .i64 l4] 212 := ⟨_, rfl⟩
 have hF := heap_alloc_new w10 o3_
 have zq : (w10.alloc o3_).heap.size = w10.heap.size + 1 := by simp
 have mq := alB w10 o3_
 obtain ⟨o4_, ho4_⟩ : ∃ oO_ : Obj, oO_ = .cells #[.slice A10 q10.1.length c10, .int .i64 q10.2.1, .int .i64 q10.2.2] 142 := ⟨_, rfl⟩
 have hG := heap_alloc_new (w10.alloc o3_) o4_
 subst ho3_
 rw [zq] at hG
 replace hF := obB (alB _ o4_) hF
 replace mq := mq.alloc mq.size o4_
 subst ho4_
 replace hA := obB mq hA
 replace hY := obB mq hY
 replace hS := obB mq hS
 replace hD := obB mq hD
 replace hE := obB mq hE
 replace hU := obB mq hU
 replace n := n.trans (mq.mono n.size)
 clear mq zq
 go_upto_region 18 with fail
 generalize (w10.alloc (.cells #[.int .i64 l0, .int .i64 l1, .int .i64 l2, .string l3, .int .i64 l4] 212)).alloc (.cells #[.slice A10 q10.1.length c10, .int .i64 q10.2.1, .int .i64 q10.2.2] 142) = V11 at *
 generalize w10.heap.size = F at *
 have s4 := (Lib.cell_of_heap hE 4).trans rfl
 have d2 := (Lib.cell_of_heap hD 2).trans rfl
 have df2 := Lib.frozen_of_heap hD 2
 obtain ⟨L3_0, hL3_0⟩ : ∃ L : List (Nat × Value), L = [(2, .int .i64 k4)] := ⟨_, rfl⟩
 replace hA := (stB_o (B := D) (by omega) L3_0).trans hA
 replace hY := (stB_o (B := D) (by omega) L3_0).trans hY
 replace hS := (stB_o (B := D) (by omega) L3_0).trans hS
 replace hD := stB_s L3_0 hD
 replace hE := (stB_o (B := D) (by omega) L3_0).trans hE
 replace hU := (stB_o (B := D) (by omega) L3_0).trans hU
 replace hF := (stB_o (B := D) (by omega) L3_0).trans hF
 replace hG := (stB_o (B := D) (by omega) L3_0).trans hG
 replace n := stB_n (B := D) (by omega) L3_0 n
 obtain ⟨VS3, hVS3⟩ : ∃ W, stB V11 D L3_0 = W := ⟨_, rfl⟩
 rw [hVS3] at hA hY hS hD hE hU hF hG n
 subst hL3_0
 simp only [stC, List.setIfInBounds_toArray, List.set_cons_succ, List.set_cons_zero] at hD
 simp only [stB] at hVS3
 go_upto_region 19 with fail
 clear hVS3
 generalize VS3 = V12 at *
 clear s4 d2 df2
 have s4 := (Lib.cell_of_heap hF 4).trans rfl
 have d3 := (Lib.cell_of_heap hD 3).trans rfl
 have df3 := Lib.frozen_of_heap hD 3
 obtain ⟨L4_0, hL4_0⟩ : ∃ L : List (Nat × Value), L = [(3, .int .i64 l4)] := ⟨_, rfl⟩
 replace hA := (stB_o (B := D) (by omega) L4_0).trans hA
 replace hY := (stB_o (B := D) (by omega) L4_0).trans hY
 replace hS := (stB_o (B := D) (by omega) L4_0).trans hS
 replace hD := stB_s L4_0 hD
 replace hE := (stB_o (B := D) (by omega) L4_0).trans hE
 replace hU := (stB_o (B := D) (by omega) L4_0).trans hU
 replace hF := (stB_o (B := D) (by omega) L4_0).trans hF
 replace hG := (stB_o (B := D) (by omega) L4_0).trans hG
 replace n := stB_n (B := D) (by omega) L4_0 n
 obtain ⟨VS4, hVS4⟩ : ∃ W, stB V12 D L4_0 = W := ⟨_, rfl⟩
 rw [hVS4] at hA hY hS hD hE hU hF hG n
 subst hL4_0
 simp only [stC, List.setIfInBounds_toArray, List.set_cons_succ, List.set_cons_zero] at hD
 simp only [stB] at hVS4
 go_upto_region 20 with fail
 clear hVS4
 generalize VS4 = V13 at *
 clear s4 d3 df3
 have hbV := hb.trans (n.mono hb.size)
 obtain ⟨a0, a1, a2⟩ := cl3 hG
 go_wp2_with fail
 refine mark16_calls q10 (.slice A10 q10.1.length c10) w0 _ hbV r10 ga10.1 rpar _ (Lib.hid fun v14 w14 r14 m14 => ?_)
 obtain ⟨A14, c14, rfl, -, -⟩ := r14.op
 have g14 := gd_mark q10 rpar ga10.1
 replace hA := obB m14 hA
 replace hY := obB m14 hY
 replace hS := obB m14 hS
 replace hD := obB m14 hD
 replace n := n.trans (m14.mono n.size)
 clear m14 hbV a0 a1 a2
 generalize markS q10 rpar = q14 at *
 obtain ⟨u0, uf0, u1, uf1, u2, uf2⟩ := cf3 hA
 obtain ⟨L5_0, hL5_0⟩ : ∃ L : List (Nat × Value), L = [(0, .slice A14 q14.1.length c14), (1, .int .i64 q14.2.1), (2, .int .i64 q14.2.2)] := ⟨_, rfl⟩
 replace hA := stB_s L5_0 hA
 replace hY := (stB_o (B := w.heap.size) (by omega) L5_0).trans hY
 replace hS := (stB_o (B := w.heap.size) (by omega) L5_0).trans hS
 replace hD := (stB_o (B := w.heap.size) (by omega) L5_0).trans hD
 replace n := stB_n (B := w.heap.size) (by omega) L5_0 n
 obtain ⟨VS5, hVS5⟩ : ∃ W, stB w14 (w.heap.size) L5_0 = W := ⟨_, rfl⟩
 rw [hVS5] at hA hY hS hD n
 subst hL5_0
 simp only [stC, List.setIfInBounds_toArray, List.set_cons_succ, List.set_cons_zero] at hA
 simp only [stB] at hVS5
 go_upto_region 50 with fail
 clear hVS5
 generalize VS5 = V15 at *
 clear u0 uf0 u1 uf1 u2 uf2 hE hU hF hG
 replace hR : Hid (∀ nv pv v' w', RdY (empW (lowS w.heap.size) w') ({ hKA 2 t1 with lo := k4, hi := l4 }) (.nil) nv pv → RdK w0 v' q14.1 → Below w.heap.size w w' → R (.returned (.tuple #[.agg #[.int .i64 2, .int .i64 t1, .int .i64 k4, .int .i64 l4, .int .i64 0, nv, pv, .string ⟨#[]⟩, .int .i64 0], psV v' q14])) w') := hR
 have jD := jf (p := w.heap.size + 1) (q := w.heap.size + 2) hD (by omega) (by omega)
 have jA := jf (p := w.heap.size + 1) (q := w.heap.size + 2) hA (by omega) (by omega)
 refine wp_region_mixG (w.heap.size + 1) (w.heap.size + 2) [([0, 1], 2), ([], 3)] [] (by kernel_rfl) (by kernel_rfl) (by kernel_rfl) (by kernel_rfl) (fun _ _ d _ _ h => by cases d <;> exact h) ?_
 have gW : Below V15.heap.size V15 (V15.drewN 1) := ⟨rfl, rfl, rfl, Nat.le_refl _, fun _ _ => rfl⟩
 replace hY := obB gW hY
 replace hS := obB gW hS
 replace n := n.trans (gW.mono n.size)
 refine mix_cons (os := [_, _]) (by simp only [pickO, List.filterMap_cons, List.filterMap_nil, List.getElem?_toArray, List.getElem?_cons_succ, List.getElem?_cons_zero]; rfl) (fun Kp hKp => ?_)
 refine wpQuiet_load rfl 29 _ rfl (D) 0 rfl _ _ jD Tryz.underlying29 rfl (by kernel_rfl) ?_
 go_simp
 refine wpQuiet_load rfl 142 _ rfl (w.heap.size) 0 rfl _ _ jA Tryz.underlying142 rfl (by kernel_rfl) ?_
 go_simp
 refine wpQuiet_nil ?_
 refine hKp _ ?_
 clear hKp
 refine loud (by rfl) (by kernel_rfl) (fun K2 hK2 => ?_)
 obtain ⟨LV, hLV⟩ : ∃ L : List Value, L = [.int .i64 2, .int .i64 t1, .int .i64 k4, .int .i64 l4, .int .i64 0, .slice none 0 0, .slice none 0 0, .string ⟨#[]⟩, .int .i64 0] := ⟨_, rfl⟩
 obtain ⟨ht_, gp_, hq_, n_, xx⟩ := sc_all LV hY (by rw [hLV]; rfl) (GW.bl gW) (by omega) hS (by omega) n
 refine wp_store_mid 29 _ _ (by rfl) (w.heap.size + 1) 0 LV.toArray (by rfl) (by rw [hLV]; rfl) ht_ (by rw [hLV]; kernel_rfl) (by rw [hLV]; simp [Value.oneCell']) ?_
 rw [show LV.toArray.toList = LV from rfl]
 refine hK2 _ _ gp_ ?_
 clear hK2 ht_
 generalize (V15.drewN 1).setCells (w.heap.size + 1) 0 LV = W8 at *
 refine mix_cons (os := []) (by rfl) (fun Kp hKp => ?_)
 refine wpQuiet_nil ?_
 refine hKp _ ?_
 clear hKp
 refine loud (by rfl) (by kernel_rfl) (fun K3 hK3 => ?_)
 obtain ⟨z0, zf0, z1, zf1, z2, zf2⟩ := cf3 hq_
 obtain ⟨gq_, n9, xx⟩ := st3 gp_ (by omega) (by omega) n_ xx (.slice A14 q14.1.length c14) (.int .i64 q14.2.1) (.int .i64 q14.2.2)
 go_simp
 refine hK3 _ _ gq_ ?_
 clear hK3
 refine mix_nil (os := []) (by rfl) (fun Kp hKp => ?_)
 refine wpQuiet_nil ?_
 refine hKp _ ?_
 clear hKp
 have fin := Lib.hid (hR.out _ _ _ _ (show RdY _ _ _ _ _ from ⟨rdw_none _, RdSl.nil _ none 0⟩) r14 n9)
 clear hR
 clear gp_ gq_
 subst hLV
 go_wp2_with fail
 refine bodyPost_ret ?_ rfl fin.out
 simp [results, Tryz.results68, go_sem, xx.out 0 _ rfl, xx.out 1 _ rfl, xx.out 2 _ rfl, xx.out 3 _ rfl, xx.out 4 _ rfl, xx.out 5 _ rfl, xx.out 6 _ rfl, xx.out 7 _ rfl, xx.out 8 _ rfl, z0, z1, z2]
end Go.Proofs.YtncijmodlhijoaaGreat.Syn
