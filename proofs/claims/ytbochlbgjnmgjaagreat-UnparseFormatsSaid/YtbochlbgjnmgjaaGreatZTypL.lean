/- Layer 15: the reference's parts of a union, walked. -/
import Derived.Test.YtbochlbgjnmgjaaGreatZTypK
set_option maxRecDepth 100000
set_option linter.unusedVariables false
namespace Go.Proofs.YtbochlbgjnmgjaaGreat.Kin
open Go.RowKit Go.Lib Go.Proofs.YtbochlbgjnmgjaaGreat.Utf Go.Proofs.YtbochlbgjnmgjaaGreat.Nam Go.Proofs.YtbochlbgjnmgjaaGreat.Lat

set_option maxRecDepth 100000 in
set_option maxHeartbeats 8000000 in
theorem parts15_calls8 (f : Ft) (ih : Fo.AllK WrongQ f) (h : TH) (nv pv : Value) (m d : Nat) (w : World) (hm : m ≤ 512) (hd : d ≤ 24) (hk : h.kind = 8) (gh : GoodH h) (hfl : f.len ≤ maxLen) (hga : f.All GoodH GoodL) (hy : RdY w h f nv pv) (R : Ending → World → Prop)
    (hR : Hid (∀ w', Below w.heap.size w w' → R (.returned (wV (partS h f d m).1 (partS h f d m).2.1 (partS h f d m).2.2)) w')) : Calls Tryz.prog 175 #[wV 0 0 m, tyV h nv pv, .int .i64 d] w R := by
  replace hfl : f.len ≤ 9223372036854775807 := hfl
  obtain ⟨Ap, cp, rfl, hpl⟩ := hy.p.sl
  obtain ⟨An, cn, rfl, -, -⟩ := hy.n.op
  have b1 := (Below.refl w.heap.size w).alloc (Nat.le_refl _) (.cells #[.int .i64 0, .int .i64 0, .int .i64 m] 151)
  have b2 := b1.alloc b1.size (.cells (tyL h (.slice An h.names.length cn) (.slice Ap f.len cp)).toArray 30)
  have b3 := b2.alloc b2.size (.cells #[.int .i64 0, .int .i64 0, .int .i64 0] 151)
  have z1 : (w.alloc (.cells #[.int .i64 0, .int .i64 0, .int .i64 m] 151)).heap.size = w.heap.size + 1 := by simp
  have z2 : ((w.alloc (.cells #[.int .i64 0, .int .i64 0, .int .i64 m] 151)).alloc (.cells (tyL h (.slice An h.names.length cn) (.slice Ap f.len cp)).toArray 30)).heap.size = w.heap.size + 2 := by simp
  have g0 := (((Below.refl _ _).alloc (Nat.le_refl _) (.cells #[.int .i64 0, .int .i64 0, .int .i64 0] 151)).block w.heap.size (by omega)).trans ((((Below.refl _ _).alloc (Nat.le_refl _) (.cells (tyL h (.slice An h.names.length cn) (.slice Ap f.len cp)).toArray 30)).block w.heap.size (by omega)).trans (heap_alloc_new w (.cells #[.int .i64 0, .int .i64 0, .int .i64 m] 151)))
  have g1 := (TB.new (w.alloc (.cells #[.int .i64 0, .int .i64 0, .int .i64 m] 151)) h (.slice An h.names.length cn) (.slice Ap f.len cp) 30).below ((Below.refl _ _).alloc (Nat.le_refl _) (.cells #[.int .i64 0, .int .i64 0, .int .i64 0] 151))
  have g2 := heap_alloc_new ((w.alloc (.cells #[.int .i64 0, .int .i64 0, .int .i64 m] 151)).alloc (.cells (tyL h (.slice An h.names.length cn) (.slice Ap f.len cp)).toArray 30)) (.cells #[.int .i64 0, .int .i64 0, .int .i64 0] 151)
  rw [z1] at g1
  rw [z2] at g2
  have rw0 : RW (((w.alloc (.cells #[.int .i64 0, .int .i64 0, .int .i64 m] 151)).alloc (.cells (tyL h (.slice An h.names.length cn) (.slice Ap f.len cp)).toArray 30)).alloc (.cells #[.int .i64 0, .int .i64 0, .int .i64 0] 151)) w.heap.size m h (.slice An h.names.length cn) (.slice Ap f.len cp) := ⟨g0, g1, g2⟩
  have hyw := Lib.hid hy
  replace hga := Lib.hid hga
  replace ih := Lib.hid ih
  replace hk := Lib.hid hk
  clear g0 g1 g2 z1 z2 b1 b2 hy
  go_enter Tryz.func175, Tryz.ntmps175
  go_upto_region 1 with fail
  generalize ((w.alloc (.cells #[.int .i64 0, .int .i64 0, .int .i64 m] 151)).alloc (.cells (tyL h (.slice An h.names.length cn) (.slice Ap f.len cp)).toArray 30)).alloc (.cells #[.int .i64 0, .int .i64 0, .int .i64 0] 151) = W3 at *
  obtain ⟨-, t0, t1, -, -, -, -, t6, -, -⟩ := rw0.h1
  have k0 := (Lib.cell_of_heap rw0.h0 0).trans rfl
  have k1 := (Lib.cell_of_heap rw0.h0 1).trans rfl
  have k2 := (Lib.cell_of_heap rw0.h0 2).trans rfl
  have nW := Lib.hid b3
  clear b3
  by_cases c8 : h.kind = 8 ∧ f.len = 0
  · have hq : partS h f d m = (15, h.at_, m) := if_pos c8
    rw [c8.1] at t0
    rw [c8.2] at t6
    go_wp2_with fail
    refine with15_calls 0 0 m (15) (h.at_) _ _ (Lib.hid fun wL nL => ?_)
    have rwL := rw0.below nL
    have y0 := (Lib.cell_of_heap rwL.h2 0).trans rfl
    have yf0 := Lib.frozen_of_heap rwL.h2 0
    have y1 := (Lib.cell_of_heap rwL.h2 1).trans rfl
    have yf1 := Lib.frozen_of_heap rwL.h2 1
    have y2 := (Lib.cell_of_heap rwL.h2 2).trans rfl
    have yf2 := Lib.frozen_of_heap rwL.h2 2
    have fin := Lib.hid (hR.out _ (set3k (q := w.heap.size + 2) (by omega) (nW.out.trans (nL.mono nW.out.size)) (.int .i64 (15)) (.int .i64 (h.at_)) (.int .i64 (m : Nat))))
    rw [hq] at fin
    clear hR rwL nL t0 t6 k0 k1 k2 t1 c8 hq
    go_wp2_with fail
    refine bodyPost_ret ?_ rfl fin.out
    simp [results, Tryz.results175, go_sem, y0, y1, y2]
  · have q9 : ((f.len : Int) == 0) = false := by simp; exact fun q => c8 ⟨hk.out, q⟩
    have hp : partS h f d m = if 64 < f.len then (8, (wN (pnm f) 64).2, m) else wrF f (.parts h.kind (nms (pnm f)) 0) (d + 1) m := if_neg c8
    by_cases c64 : 64 < f.len
    · rw [if_pos c64] at hp
      obtain ⟨p, x, kd, r, e⟩ := Fo.drop_lt c64
      obtain ⟨g, o, lv, cv, nx, px, rfl, hg, -, -, -, hc⟩ := (hyw.out).p.part e
      have c1 := (nW.out.cell (p := ⟨g, o + 64 * 18 + 1, none⟩) hg).trans (hc 1 _ rfl)
      rw [pnm_at 64 e] at hp
      have i1 : (64 : Int) < (f.len : Int) := by omega
      rw [hk.out] at t0
      clear hc
      go_wp2_with fail
      have l0 := blt_of rw0.h0
      have l1 := rw0.h1.lt
      have hgW : g < W3.heap.size := by omega
      have jr : ∀ y : GW W3 (w.heap.size + 2) (w.heap.size + 2), y.w.rangeAt w.heap.size 0 [.int .i64 0, .int .i64 0, .int .i64 m] := fun y j v h => by rw [Nat.zero_add, Lib.cell_of_heap ((y.b _ l0 (by omega) (by omega)).trans rw0.h0)]; simpa using h
      have j6 := fun y : GW W3 (w.heap.size + 2) (w.heap.size + 2) => y.cell (by omega) (by omega) (by omega) t6
      have jc := fun y : GW W3 (w.heap.size + 2) (w.heap.size + 2) => y.cell (by omega) (by omega) (by omega) c1
      clear k0 k1 k2 t0 t1 t6 c1
      refine wp_region_mixG (w.heap.size + 2) (w.heap.size + 2) [([0, 1, 2, 3, 4, 5, 6], 7), ([], 8)] [] (by kernel_rfl) (by kernel_rfl) (by kernel_rfl) (by kernel_rfl) (fun _ _ d _ _ h => by cases d <;> exact h) ?_
      have gW : Below W3.heap.size W3 (W3.drewN 1) := ⟨rfl, rfl, rfl, Nat.le_refl _, fun _ _ => rfl⟩
      refine mix_cons (os := [_, _, _, _, _, _, _]) (by simp only [pickO, List.filterMap_cons, List.filterMap_nil, List.getElem?_toArray, List.getElem?_cons_succ, List.getElem?_cons_zero]; rfl) (fun Kp hKp => ?_)
      refine wpQuiet_load rfl _ _ rfl w.heap.size 0 rfl [.int .i64 0, .int .i64 0, .int .i64 m] _ (by rintro V ⟨y, rfl⟩; exact jr y) Tryz.underlying151 rfl (by kernel_rfl) ?_
      go_simp
      repeat (go_big_quiet_step (exact rfl))
      refine wpQuiet_nil ?_
      refine hKp _ ?_
      clear hKp
      refine loud (by rfl) (by kernel_rfl) (fun K1 hK1 => ?_)
      go_simp
      refine with15_calls 0 0 m 8 p.at_ _ _ (Lib.hid fun wL nL => ?_)
      have gL := gW.trans (nL.mono gW.size)
      refine hK1 _ _ (GW.bl gL) ?_
      clear hK1
      refine mix_cons (os := []) (by rfl) (fun Kp hKp => ?_)
      refine wpQuiet_nil ?_
      refine hKp _ ?_
      clear hKp
      refine loud (by rfl) (by kernel_rfl) (fun K2 hK2 => ?_)
      have rwL := rw0.below gL
      have y0 := (Lib.cell_of_heap rwL.h2 0).trans rfl
      have yf0 := Lib.frozen_of_heap rwL.h2 0
      have y1 := (Lib.cell_of_heap rwL.h2 1).trans rfl
      have yf1 := Lib.frozen_of_heap rwL.h2 1
      have y2 := (Lib.cell_of_heap rwL.h2 2).trans rfl
      have yf2 := Lib.frozen_of_heap rwL.h2 2
      go_simp
      refine hK2 _ _ (GW.set (GW.set (GW.set (GW.bl gL) _) _) _) ?_
      clear hK2
      refine mix_nil (os := []) (by rfl) (fun Kp hKp => ?_)
      refine wpQuiet_nil ?_
      refine hKp _ ?_
      clear hKp
      have fin := Lib.hid (hR.out _ (set3k (q := w.heap.size + 2) (by omega) (nW.out.trans (gL.mono nW.out.size)) (.int .i64 8) (.int .i64 p.at_) (.int .i64 (m : Nat))))
      rw [hp] at fin
      clear hR
      go_wp2_with fail
      refine bodyPost_ret ?_ rfl fin.out
      simp [results, Tryz.results175, go_sem, y0, y1, y2]
    · rw [if_neg c64] at hp
      rw [hk.out] at t0
      go_wp2_with fail
      go_loopg [7] f.len (fun g0 i wr => ∃ (I c : Nat), i = .int .i64 I ∧ I + g0 = f.len ∧ c ≤ 512 ∧ Hid (Below w.heap.size w wr) ∧ Hid (RW wr w.heap.size c h (.slice An h.names.length cn) (.slice Ap f.len cp)) ∧ partS h f d m = wrF (f.drop I) (.parts h.kind (nms (pnm f)) I) (d + 1) c)
      case atStart => exact ⟨0, m, rfl, by omega, hm, nW, Lib.hid rw0, hp⟩
      case round =>
        clear nW rw0 t0 t1 t6 k0 k1 k2 hp
        obtain ⟨I, c, rfl, e1, hc5, nb, rw1, e2⟩ := hrel
        obtain ⟨-, t0, t1, -, -, -, -, t6, -, -⟩ := rw1.out.h1
        rw [hk.out] at t0
        by_cases hI : I < f.len
        · obtain ⟨p, x, kd, r, e⟩ := Fo.drop_lt hI
          obtain ⟨g, o, lv, cv, nx, px, rfl, hg, hlv, hcv, hyx, hc⟩ := (hyw.out).p.part e
          obtain ⟨A1, n1, rfl, -, -⟩ := hlv.op
          obtain ⟨A2, n2, rfl, -, -⟩ := hcv.op
          obtain ⟨A5, n5, rfl, -, -⟩ := hyx.n.op
          obtain ⟨A7, n7, rfl, hk7⟩ := hyx.p.sl
          obtain ⟨gp, gx, gk', ga2⟩ := all_at I hga.out e
          have ihK := Lib.hid ((ih.out).at_ e)
          rw [e] at e2
          have d1 := Fo.drop_succ I e
          have i0 : (0 : Int) ≤ (I : Int) := by omega
          have i1 : (I : Int) < (f.len : Int) := by omega
          have rg : wr.rangeAt g (o + I * 18) [.string p.name, .int .i64 p.at_, .bool p.bare, .slice A1 p.label.length n1, .int .i64 p.wide, .int .i64 p.ck, .int .i64 p.cn, .int .i64 p.cat, .slice A2 p.cl.length n2, .int .i64 x.kind, .int .i64 x.at_, .int .i64 x.lo, .int .i64 x.hi, .int .i64 x.most, .slice A5 x.names.length n5, .slice A7 kd.len n7, .string x.name, .int .i64 x.nat] := fun j v h => (nb.out.cell (p := ⟨g, o + I * 18 + j, none⟩) hg).trans (hc j v h)
          have bP := (Below.refl wr.heap.size wr).alloc (Nat.le_refl _) (.cells #[.string p.name, .int .i64 p.at_, .bool p.bare, .slice A1 p.label.length n1, .int .i64 p.wide, .int .i64 p.ck, .int .i64 p.cn, .int .i64 p.cat, .slice A2 p.cl.length n2, .int .i64 x.kind, .int .i64 x.at_, .int .i64 x.lo, .int .i64 x.hi, .int .i64 x.most, .slice A5 x.names.length n5, .slice A7 kd.len n7, .string x.name, .int .i64 x.nat] 75)
          have hb := heap_alloc_new wr (.cells #[.string p.name, .int .i64 p.at_, .bool p.bare, .slice A1 p.label.length n1, .int .i64 p.wide, .int .i64 p.ck, .int .i64 p.cn, .int .i64 p.cat, .slice A2 p.cl.length n2, .int .i64 x.kind, .int .i64 x.at_, .int .i64 x.lo, .int .i64 x.hi, .int .i64 x.most, .slice A5 x.names.length n5, .slice A7 kd.len n7, .string x.name, .int .i64 x.nat] 75)
          have hIl : I < (pnm f).length := by rw [pnm_len]; exact hI
          have gnm : ∀ y ∈ pnm f, GoodW y := good_pnm hga.out
          go_upto_region 9 with (first | (refine wpList_load_g (by rfl) _ _ rfl g (o + I * 18) rfl [.string p.name, .int .i64 p.at_, .bool p.bare, .slice A1 p.label.length n1, .int .i64 p.wide, .int .i64 p.ck, .int .i64 p.cn, .int .i64 p.cat, .slice A2 p.cl.length n2, .int .i64 x.kind, .int .i64 x.at_, .int .i64 x.lo, .int .i64 x.hi, .int .i64 x.most, .slice A5 x.names.length n5, .slice A7 kd.len n7, .string x.name, .int .i64 x.nat] _ rg Tryz.underlying75 rfl (by kernel_rfl) ?_; go_simp) | (refine wpList_copy #[.string p.name, .int .i64 p.at_, .bool p.bare, .slice A1 p.label.length n1, .int .i64 p.wide, .int .i64 p.ck, .int .i64 p.cn, .int .i64 p.cat, .slice A2 p.cl.length n2, .int .i64 x.kind, .int .i64 x.at_, .int .i64 x.lo, .int .i64 x.hi, .int .i64 x.most, .slice A5 x.names.length n5, .slice A7 kd.len n7, .string x.name, .int .i64 x.nat] ⟨rfl, rfl, rfl⟩ ⟨rfl, rfl, rfl⟩ part_alloc (by kernel_rfl) ⟨rfl, by simp [Value.oneCell']⟩ (fun _ => ⟨rfl, rfl⟩) ?_; go_simp))
          have nbV := Lib.hid (nb.out.trans (bP.mono nb.out.size))
          have rwV := Lib.hid (rw1.out.below bP)
          generalize wr.alloc (.cells #[.string p.name, .int .i64 p.at_, .bool p.bare, .slice A1 p.label.length n1, .int .i64 p.wide, .int .i64 p.ck, .int .i64 p.cn, .int .i64 p.cat, .slice A2 p.cl.length n2, .int .i64 x.kind, .int .i64 x.at_, .int .i64 x.lo, .int .i64 x.hi, .int .i64 x.most, .slice A5 x.names.length n5, .slice A7 kd.len n7, .string x.name, .int .i64 x.nat] 75) = V at *
          generalize wr.heap.size = B at *
          have hbV := Lib.hid hb
          clear bP hb rg nb rw1 t0 t1 t6 hc
          have t6 := rwV.out.h1.k6
          have cN := Lib.hid fun R hR => names15_calls f (by omega) (.slice (some ⟨g, o, none⟩) f.len cp) V (hyw.out.below nbV.out).p R hR
          go_wp2_with fail
          refine cN.out _ (Lib.hid fun v4 w4 rd4 n4 => ?_)
          have rw4 := Lib.hid ((rwV.out).below n4)
          have hb4 := Lib.hid ((n4.block _ (blt_of hbV.out)).trans hbV.out)
          have nb4 := Lib.hid (nbV.out.trans (n4.mono nbV.out.size))
          have cD := Lib.hid fun R hR => listed15_calls (pnm f) I hIl (by rw [pnm_len]; unfold maxLen; omega) gnm v4 w4 rd4 R hR
          clear cN n4 rwV hbV nbV t6 rd4
          go_wp2_with fail
          refine cD.out _ (Lib.hid fun w5 n5' => ?_)
          have n6 := n5'
          have rw6 := Lib.hid ((rw4.out).below n6)
          have hb6 := Lib.hid ((n6.block _ (blt_of hb4.out)).trans hb4.out)
          have nb6 := Lib.hid (nb4.out.trans (n6.mono nb4.out.size))
          clear cD n5' n6 rw4 hb4 nb4
          have e3 := e2
          unfold wrF at e3
          generalize hE : listedS (nms (pnm f)) I = E at *
          have k0 := (Lib.cell_of_heap (rw6.out).h0 0).trans rfl
          have k1 := (Lib.cell_of_heap (rw6.out).h0 1).trans rfl
          have k2 := (Lib.cell_of_heap (rw6.out).h0 2).trans rfl
          have u1 := (Lib.cell_of_heap hb6.out 1).trans rfl
          have u2 := (Lib.cell_of_heap hb6.out 2).trans rfl
          by_cases hE0 : E = 0
          · have qE : (E != 0) = false := by simpa using hE0
            rw [if_neg (by simpa using hE0)] at e3
            clear hE0 hE
            cases hbr : p.bare
            · rw [hbr] at u2 e3
              simp only [Bool.false_eq_true, if_false] at e3
              have bF := (Below.refl w5.heap.size w5).alloc (Nat.le_refl _) (.cells #[.int .i64 0, .int .i64 0] 35)
              have hf := heap_alloc_new w5 (.cells #[.int .i64 0, .int .i64 0] 35)
              clear k0 k1 k2 u1 u2
              have u2 := (Lib.cell_of_heap hb6.out 2).trans rfl
              rw [hbr] at u2
              clear hbr
              go_upto_region 16 with fail
              have rw7 := Lib.hid (rw6.out.below bF)
              have hb7 := Lib.hid ((bF.block _ (blt_of hb6.out)).trans hb6.out)
              have nb7 := Lib.hid (nb6.out.trans (bF.mono nb6.out.size))
              have hBw := (blt_of rw6.out.h2)
              have hBb := (blt_of hb6.out)
              generalize w5.alloc (.cells #[.int .i64 0, .int .i64 0] 35) = V7 at *
              generalize w5.heap.size = BF at *
              clear u2 rw6 hb6 nb6 bF
              have k0 := (Lib.cell_of_heap (rw7.out).h0 0).trans rfl
              have k1 := (Lib.cell_of_heap (rw7.out).h0 1).trans rfl
              have k2 := (Lib.cell_of_heap (rw7.out).h0 2).trans rfl
              have u1 := (Lib.cell_of_heap hb7.out 1).trans rfl
              have u3 := (Lib.cell_of_heap hb7.out 3).trans rfl
              have u4 := (Lib.cell_of_heap hb7.out 4).trans rfl
              have y0 := (Lib.cell_of_heap rw7.out.h2 0).trans rfl
              have yf0 := Lib.frozen_of_heap rw7.out.h2 0
              have y1 := (Lib.cell_of_heap rw7.out.h2 1).trans rfl
              have yf1 := Lib.frozen_of_heap rw7.out.h2 1
              have y2 := (Lib.cell_of_heap rw7.out.h2 2).trans rfl
              have yf2 := Lib.frozen_of_heap rw7.out.h2 2
              have v0 := (Lib.cell_of_heap hf 0).trans rfl
              have v1 := (Lib.cell_of_heap hf 1).trans rfl
              have vf0 := Lib.frozen_of_heap hf 0
              have vf1 := Lib.frozen_of_heap hf 1
              have hF := Lib.hid hf
              have ne1 : w.heap.size ≠ BF := by omega
              have ne2 : w.heap.size + 2 ≠ BF := by omega
              have ne3 : B ≠ BF := by omega
              have hwB : w.heap.size ≤ BF := by omega
              by_cases hw1 : p.wide < 0
              · have hq : partS h f d m = (20, p.at_, c) := by rw [e3, if_pos (.inl hw1)]
                have fin := Lib.hid (hR.out _ (set3k (q := w.heap.size + 2) (by omega) (set2k (q := BF) hwB nb7.out (.int .i64 20) (.int .i64 p.at_)) (.int .i64 (20)) (.int .i64 (p.at_)) (.int .i64 (c : Nat))))
                rw [hq] at fin
                clear hR
                go_wp2_with fail
                refine bodyPost_ret ?_ rfl fin.out
                simp [results, Tryz.results175, go_sem, y0, y1, y2]
              · by_cases hw2 : 64 < p.wide
                · have hq : partS h f d m = (20, p.at_, c) := by rw [e3, if_pos (.inr hw2)]
                  have fin := Lib.hid (hR.out _ (set3k (q := w.heap.size + 2) (by omega) (set2k (q := BF) hwB nb7.out (.int .i64 20) (.int .i64 p.at_)) (.int .i64 (20)) (.int .i64 (p.at_)) (.int .i64 (c : Nat))))
                  rw [hq] at fin
                  clear hR
                  go_wp2_with fail
                  refine bodyPost_ret ?_ rfl fin.out
                  simp [results, Tryz.results175, go_sem, y0, y1, y2]
                · rw [if_neg (by rintro (q | q); exact hw1 q; exact hw2 q)] at e3
                  have cL := Lib.hid fun R hR => label15_calls p.label gp.2.2.1 (.slice A1 p.label.length n1) V7 (hlv.below nb7.out) R hR
                  clear hf v0 v1
                  have v0 := (Lib.cell_of_heap hF.out 0).trans rfl
                  go_wp2_with fail
                  refine cL.out _ (Lib.hid fun w8 n8 => ?_)
                  have rw8 := Lib.hid ((rw7.out).below n8)
                  have hb8 := Lib.hid ((n8.block _ (blt_of hb7.out)).trans hb7.out)
                  have nb8 := Lib.hid (nb7.out.trans (n8.mono nb7.out.size))
                  have hF8 := (n8.block _ (blt_of hF.out)).trans hF.out
                  clear v0 vf0 vf1 k0 k1 k2 u1 u3 u4 y0 y1 y2 yf0 yf1 yf2 cL n8
                  have v0 := (Lib.cell_of_heap hF8 0).trans rfl
                  have v1 := (Lib.cell_of_heap hF8 1).trans rfl
                  have vf0 := Lib.frozen_of_heap hF8 0
                  have vf1 := Lib.frozen_of_heap hF8 1
                  have k0 := (Lib.cell_of_heap (rw8.out).h0 0).trans rfl
                  have k1 := (Lib.cell_of_heap (rw8.out).h0 1).trans rfl
                  have k2 := (Lib.cell_of_heap (rw8.out).h0 2).trans rfl
                  have u1 := (Lib.cell_of_heap hb8.out 1).trans rfl
                  have y0 := (Lib.cell_of_heap rw8.out.h2 0).trans rfl
                  have yf0 := Lib.frozen_of_heap rw8.out.h2 0
                  have y1 := (Lib.cell_of_heap rw8.out.h2 1).trans rfl
                  have yf1 := Lib.frozen_of_heap rw8.out.h2 1
                  have y2 := (Lib.cell_of_heap rw8.out.h2 2).trans rfl
                  have yf2 := Lib.frozen_of_heap rw8.out.h2 2
                  clear rw7 hb7 nb7 hF
                  by_cases hl : (labelS p.label).1 = 0
                  · rw [if_neg (by simpa using hl)] at e3
                    have ql : ((labelS p.label).1 == 0) = true := by simpa using hl
                    generalize (labelS p.label).2 = lz at *
                    rw [hl]
                    clear ql
                    clear k0 k1 k2 u1 y0 y1 y2 yf0 yf1 yf2
                    have hF9 := set_atK (set_atK hF8 0 (.int .i64 0)) 1 (.int .i64 lz)
                    have bS := set2k (q := BF) (Nat.le_refl _) (Below.refl BF w8) (.int .i64 0) (.int .i64 lz)
                    have hb9 := (bS.block B hBb).trans hb8.out
                    have rw9 := rw8.out.base bS hBw
                    have nb9 := Lib.hid (set2k (q := BF) hwB nb8.out (.int .i64 0) (.int .i64 lz))
                    have r0 : ((w8.setCell ⟨BF, 0, none⟩ (.int .i64 0)).setCell ⟨BF, 1, none⟩ (.int .i64 lz)).rangeAt B 0 [.string p.name, .int .i64 p.at_, .bool p.bare, .slice A1 p.label.length n1, .int .i64 p.wide, .int .i64 p.ck, .int .i64 p.cn, .int .i64 p.cat, .slice A2 p.cl.length n2, .int .i64 x.kind, .int .i64 x.at_, .int .i64 x.lo, .int .i64 x.hi, .int .i64 x.most, .slice A5 x.names.length n5, .slice A7 kd.len n7, .string x.name, .int .i64 x.nat] := fun j v h => by rw [Nat.zero_add, Lib.cell_of_heap hb9]; simpa using h
                    clear bS
                    go_upto_region 21 with fail
                    generalize (w8.setCell ⟨BF, 0, none⟩ (.int .i64 0)).setCell ⟨BF, 1, none⟩ (.int .i64 lz) = V9 at *
                    have hF9' := Lib.hid hF9
                    have rw9' := Lib.hid rw9
                    have hb9' := Lib.hid hb9
                    clear v0 v1 vf0 vf1 hF8 rw8 hb8 nb8 hF9 rw9 hb9
                    have cC := Lib.hid fun R hR => coarse15_calls p x _ _ (.slice A5 x.names.length n5) (.slice A7 kd.len n7) V9 (hcv.below nb9.out) (hlv.below nb9.out) ⟨_, _, _, rfl⟩ ⟨_, _, _, rfl⟩ gp.2.2.2.2.2.2.2.1 R hR
                    go_wp2_with (refine wpList_load_g (by rfl) _ _ rfl B 0 rfl [.string p.name, .int .i64 p.at_, .bool p.bare, .slice A1 p.label.length n1, .int .i64 p.wide, .int .i64 p.ck, .int .i64 p.cn, .int .i64 p.cat, .slice A2 p.cl.length n2, .int .i64 x.kind, .int .i64 x.at_, .int .i64 x.lo, .int .i64 x.hi, .int .i64 x.most, .slice A5 x.names.length n5, .slice A7 kd.len n7, .string x.name, .int .i64 x.nat] _ r0 Tryz.underlying75 rfl (by kernel_rfl) ?_; go_simp)
                    refine cC.out _ (Lib.hid fun w10 n10 => ?_)
                    have rw10 := Lib.hid ((rw9'.out).below n10)
                    have hb10 := Lib.hid ((n10.block _ (blt_of hb9'.out)).trans hb9'.out)
                    have nb10 := Lib.hid (nb9.out.trans (n10.mono nb9.out.size))
                    have hF10 := (n10.block _ (blt_of hF9'.out)).trans hF9'.out
                    clear r0 cC n10 rw9' hb9' nb9 hF9'
                    have v0 := (Lib.cell_of_heap hF10 0).trans rfl
                    have v1 := (Lib.cell_of_heap hF10 1).trans rfl
                    have vf0 := Lib.frozen_of_heap hF10 0
                    have vf1 := Lib.frozen_of_heap hF10 1
                    have k0 := (Lib.cell_of_heap (rw10.out).h0 0).trans rfl
                    have k1 := (Lib.cell_of_heap (rw10.out).h0 1).trans rfl
                    have k2 := (Lib.cell_of_heap (rw10.out).h0 2).trans rfl
                    have u1 := (Lib.cell_of_heap hb10.out 1).trans rfl
                    have y0 := (Lib.cell_of_heap rw10.out.h2 0).trans rfl
                    have yf0 := Lib.frozen_of_heap rw10.out.h2 0
                    have y1 := (Lib.cell_of_heap rw10.out.h2 1).trans rfl
                    have yf1 := Lib.frozen_of_heap rw10.out.h2 1
                    have y2 := (Lib.cell_of_heap rw10.out.h2 2).trans rfl
                    have yf2 := Lib.frozen_of_heap rw10.out.h2 2
                    by_cases hcs : (coarseS p).1 = 0
                    · rw [if_neg (by simpa using hcs)] at e3
                      generalize (coarseS p).2 = cz at *
                      rw [hcs]
                      clear k0 k1 k2 u1 y0 y1 y2 yf0 yf1 yf2 v0 v1
                      have bS := set2k (q := BF) (Nat.le_refl _) (Below.refl BF w10) (.int .i64 0) (.int .i64 cz)
                      have hb11 := (bS.block B hBb).trans hb10.out
                      have rw11 := rw10.out.base bS hBw
                      have nb11 := Lib.hid (set2k (q := BF) hwB nb10.out (.int .i64 0) (.int .i64 cz))
                      have v0 := (Lib.cell_of_heap hF10 0).trans rfl
                      have v1 := (Lib.cell_of_heap hF10 1).trans rfl
                      have r9 : ((w10.setCell ⟨BF, 0, none⟩ (.int .i64 0)).setCell ⟨BF, 1, none⟩ (.int .i64 cz)).rangeAt B 9 [.int .i64 x.kind, .int .i64 x.at_, .int .i64 x.lo, .int .i64 x.hi, .int .i64 x.most, .slice A5 x.names.length n5, .slice A7 kd.len n7, .string x.name, .int .i64 x.nat] := fun j v h => by rw [Lib.cell_of_heap hb11, List.getElem?_toArray, ← List.getElem?_drop]; exact h
                      clear bS
                      go_upto_region 24 with fail
                      generalize (w10.setCell ⟨BF, 0, none⟩ (.int .i64 0)).setCell ⟨BF, 1, none⟩ (.int .i64 cz) = V11 at *
                      clear v0 v1 vf0 vf1 hF10 rw10 hb10 nb10 hb11
                      have k0 := (Lib.cell_of_heap rw11.h0 0).trans rfl
                      have k1 := (Lib.cell_of_heap rw11.h0 1).trans rfl
                      have k2 := (Lib.cell_of_heap rw11.h0 2).trans rfl
                      replace rw11 := Lib.hid rw11
                      have cW := Lib.hid fun R hR => ihK.out x (.slice A5 x.names.length n5) (.slice A7 kd.len n7) c (d + 1) V11 hc5 (by omega) gx gk' ga2 (hyx.below nb11.out) R hR
                      rw [show ((d + 1 : Nat) : Int) = (d : Int) + 1 from rfl] at cW
                      have hcnt := wrB_cnt x kd _ (wrF_cnt kd) (d + 1) c
                      have hzer := wrB_zero x kd _ (wrF_zero kd) (d + 1) c
                      generalize wrB x kd (wrF kd) (d + 1) c = Rw at *
                      obtain ⟨re, rz, rm⟩ := Rw
                      simp only at cW e3 hcnt hzer
                      go_wp2_with (refine wpList_load_g (by rfl) _ _ rfl B 9 rfl [.int .i64 x.kind, .int .i64 x.at_, .int .i64 x.lo, .int .i64 x.hi, .int .i64 x.most, .slice A5 x.names.length n5, .slice A7 kd.len n7, .string x.name, .int .i64 x.nat] _ r9 Tryz.underlying30 rfl (by kernel_rfl) ?_; go_simp)
                      refine cW.out _ (Lib.hid fun w12 n12 => ?_)
                      have rw12 := Lib.hid ((rw11.out).below n12)
                      have nb12 := Lib.hid (nb11.out.trans (n12.mono nb11.out.size))
                      clear k0 k1 k2 r9 cW n12 rw11 nb11
                      have k0 := (Lib.cell_of_heap rw12.out.h0 0).trans rfl
                      have k1 := (Lib.cell_of_heap rw12.out.h0 1).trans rfl
                      have k2 := (Lib.cell_of_heap rw12.out.h0 2).trans rfl
                      have kf0 := Lib.frozen_of_heap rw12.out.h0 0
                      have kf1 := Lib.frozen_of_heap rw12.out.h0 1
                      have kf2 := Lib.frozen_of_heap rw12.out.h0 2
                      by_cases hr0 : re = 0
                      · subst hr0
                        obtain rfl := hzer rfl
                        have hm2 := hcnt rfl
                        rw [if_neg (by simp), ← d1] at e3
                        have hW13 := set_atK (set_atK (set_atK rw12.out.h0 0 (.int .i64 0)) 1 (.int .i64 0)) 2 (.int .i64 (rm : Nat))
                        have rw13 := Lib.hid (RW.mk (nv := .slice An h.names.length cn) (pv := .slice (some ⟨g, o, none⟩) f.len cp) hW13 (rw12.out.h1.sets (by omega) _ _ _) (((set_neK (by omega)).trans ((set_neK (by omega)).trans (set_neK (by omega)))).trans rw12.out.h2))
                        have nb13 := Lib.hid (set3k (q := w.heap.size) (Nat.le_refl _) nb12.out (.int .i64 0) (.int .i64 0) (.int .i64 (rm : Nat)))
                        clear hW13 rw12 nb12
                        go_wp2_with fail
                        go_roundg (gk - 1)
                        case measure => omega
                        case rel => exact ⟨I + 1, rm, by go_num, by omega, hm2, nb13, rw13, e3⟩
                      · rw [if_pos (by simpa using hr0)] at e3
                        have qr : (re != 0) = true := by simpa using hr0
                        have y0 := (Lib.cell_of_heap rw12.out.h2 0).trans rfl
                        have yf0 := Lib.frozen_of_heap rw12.out.h2 0
                        have y1 := (Lib.cell_of_heap rw12.out.h2 1).trans rfl
                        have yf1 := Lib.frozen_of_heap rw12.out.h2 1
                        have y2 := (Lib.cell_of_heap rw12.out.h2 2).trans rfl
                        have yf2 := Lib.frozen_of_heap rw12.out.h2 2
                        have fin := Lib.hid (hR.out _ (set3k (q := w.heap.size + 2) (by omega) (set3k (q := w.heap.size) (Nat.le_refl _) nb12.out (.int .i64 re) (.int .i64 rz) (.int .i64 (rm : Nat))) (.int .i64 re) (.int .i64 rz) (.int .i64 (rm : Nat))))
                        rw [e3] at fin
                        clear hR
                        go_wp2_with fail
                        refine bodyPost_ret ?_ rfl fin.out
                        simp [results, Tryz.results175, go_sem, y0, y1, y2]
                    · rw [if_pos (by simpa using hcs)] at e3
                      have qc : ((coarseS p).1 != 0) = true := by simpa using hcs
                      generalize (coarseS p).2 = cz at *
                      generalize (coarseS p).1 = ce at *
                      have fin := Lib.hid (hR.out _ (set3k (q := w.heap.size + 2) (by omega) (set2k (q := BF) hwB nb10.out (.int .i64 ce) (.int .i64 cz)) (.int .i64 (ce)) (.int .i64 (cz)) (.int .i64 (c : Nat))))
                      rw [e3] at fin
                      clear hR
                      go_wp2_with fail
                      refine bodyPost_ret ?_ rfl fin.out
                      simp [results, Tryz.results175, go_sem, y0, y1, y2]
                  · rw [if_pos (by simpa using hl)] at e3
                    have ql : ((labelS p.label).1 == 0) = false := by simpa using hl
                    have ql2 : ((labelS p.label).1 != 0) = true := by simpa using hl
                    generalize (labelS p.label).2 = lz at *
                    generalize (labelS p.label).1 = le at *
                    have fin := Lib.hid (hR.out _ (set3k (q := w.heap.size + 2) (by omega) (set2k (q := BF) hwB nb8.out (.int .i64 le) (.int .i64 lz)) (.int .i64 (le)) (.int .i64 (lz)) (.int .i64 (c : Nat))))
                    rw [e3] at fin
                    clear hR
                    go_wp2_with fail
                    refine bodyPost_ret ?_ rfl fin.out
                    simp [results, Tryz.results175, go_sem, y0, y1, y2]
            · rw [hbr] at u2 e3
              simp only [if_true] at e3
              clear hbr
              have t0 := rw6.out.h1.k0
              rw [hk.out] at t0
              have r9 : w5.rangeAt B 9 [.int .i64 x.kind, .int .i64 x.at_, .int .i64 x.lo, .int .i64 x.hi, .int .i64 x.most, .slice A5 x.names.length n5, .slice A7 kd.len n7, .string x.name, .int .i64 x.nat] := fun j v h => by rw [Lib.cell_of_heap hb6.out, List.getElem?_toArray, ← List.getElem?_drop]; exact h
              have cZ := Lib.hid fun R hR => zero15_calls kd x (.slice A5 x.names.length n5) (.slice A7 kd.len n7) w5 gx.2.2.2.2.2.2.2.2 gk' ga2 (hyx.below nb6.out) R hR
              clear k0 k1 k2 u1
              go_wp2_with (refine wpList_load_g (by rfl) _ _ rfl B 9 rfl [.int .i64 x.kind, .int .i64 x.at_, .int .i64 x.lo, .int .i64 x.hi, .int .i64 x.most, .slice A5 x.names.length n5, .slice A7 kd.len n7, .string x.name, .int .i64 x.nat] _ r9 Tryz.underlying30 rfl (by kernel_rfl) ?_; go_simp)
              refine cZ.out _ (Lib.hid fun w7 n7' => ?_)
              have rw7 := Lib.hid (rw6.out.below n7')
              have hb7 := Lib.hid ((n7'.block _ (blt_of hb6.out)).trans hb6.out)
              have nb7 := Lib.hid (nb6.out.trans (n7'.mono nb6.out.size))
              clear u2 t0 r9 cZ rw6 hb6 nb6 n7'
              cases hz : zeroB x kd
              · have hz' := hz
                clear hz
                have k0 := (Lib.cell_of_heap rw7.out.h0 0).trans rfl
                have k1 := (Lib.cell_of_heap rw7.out.h0 1).trans rfl
                have k2 := (Lib.cell_of_heap rw7.out.h0 2).trans rfl
                have u1 := (Lib.cell_of_heap hb7.out 1).trans rfl
                have hq : partS h f d m = (19, p.at_, c) := by rw [e3, if_pos (.inr (.inl hz'))]
                go_wp2_with fail
                refine with15_calls 0 0 c (19) (p.at_) _ _ (Lib.hid fun wL nL => ?_)
                have rwL := (rw7.out).below nL
                have y0 := (Lib.cell_of_heap rwL.h2 0).trans rfl
                have yf0 := Lib.frozen_of_heap rwL.h2 0
                have y1 := (Lib.cell_of_heap rwL.h2 1).trans rfl
                have yf1 := Lib.frozen_of_heap rwL.h2 1
                have y2 := (Lib.cell_of_heap rwL.h2 2).trans rfl
                have yf2 := Lib.frozen_of_heap rwL.h2 2
                have fin := Lib.hid (hR.out _ (set3k (q := w.heap.size + 2) (by omega) (nb7.out.trans (nL.mono nb7.out.size)) (.int .i64 (19)) (.int .i64 (p.at_)) (.int .i64 (c : Nat))))
                rw [hq] at fin
                clear hR rwL nL hq e3 e2
                go_wp2_with fail
                refine bodyPost_ret ?_ rfl fin.out
                simp [results, Tryz.results175, go_sem, y0, y1, y2]

              · have r0 : w7.rangeAt B 0 [.string p.name, .int .i64 p.at_, .bool p.bare, .slice A1 p.label.length n1, .int .i64 p.wide, .int .i64 p.ck, .int .i64 p.cn, .int .i64 p.cat, .slice A2 p.cl.length n2, .int .i64 x.kind, .int .i64 x.at_, .int .i64 x.lo, .int .i64 x.hi, .int .i64 x.most, .slice A5 x.names.length n5, .slice A7 kd.len n7, .string x.name, .int .i64 x.nat] := fun j v h => by rw [Nat.zero_add, Lib.cell_of_heap hb7.out]; simpa using h
                have hz' := hz
                clear hz
                have cP := Lib.hid fun R hR => (show Calls Tryz.prog 39 #[ptV p (.slice A1 p.label.length n1) (.slice A2 p.cl.length n2) x (.slice A5 x.names.length n5) (.slice A7 kd.len n7), .agg #[.string ⟨#[]⟩, .int .i64 0, .bool true, .slice none 0 0, .int .i64 0, .int .i64 0, .int .i64 0, .int .i64 0, .slice none 0 0, .int .i64 0, .int .i64 0, .int .i64 0, .int .i64 0, .int .i64 0, .slice none 0 0, .slice none 0 0, .string ⟨#[]⟩, .int .i64 0]] w7 R from plain15_calls p bPH _ _ (.slice none 0 0) (.slice none 0 0) (.slice A5 x.names.length n5) (.slice A7 kd.len n7) (.slice none 0 0) (.slice none 0 0) x zTH w7 gp.2.2.2.2.2.2.2.2.1 gp.2.2.2.2.2.2.2.2.2 (hlv.below nb7.out) (hcv.below nb7.out) (RdG.none0 _ _ _) (RdG.none0 _ _ _) R hR)
                go_wp2_with (refine wpList_load_g (by rfl) _ _ rfl B 0 rfl [.string p.name, .int .i64 p.at_, .bool p.bare, .slice A1 p.label.length n1, .int .i64 p.wide, .int .i64 p.ck, .int .i64 p.cn, .int .i64 p.cat, .slice A2 p.cl.length n2, .int .i64 x.kind, .int .i64 x.at_, .int .i64 x.lo, .int .i64 x.hi, .int .i64 x.most, .slice A5 x.names.length n5, .slice A7 kd.len n7, .string x.name, .int .i64 x.nat] _ r0 Tryz.underlying75 rfl (by kernel_rfl) ?_; go_simp)
                refine cP.out _ (Lib.hid fun w8 n8 => ?_)
                have rw8 := Lib.hid (rw7.out.below n8)
                have hb8 := Lib.hid ((n8.block _ (blt_of hb7.out)).trans hb7.out)
                have nb8 := Lib.hid (nb7.out.trans (n8.mono nb7.out.size))
                clear r0 cP rw7 hb7 nb7 n8
                cases hpb : plainB p bPH
                · have hpb' := hpb
                  clear hpb
                  have k0 := (Lib.cell_of_heap rw8.out.h0 0).trans rfl
                  have k1 := (Lib.cell_of_heap rw8.out.h0 1).trans rfl
                  have k2 := (Lib.cell_of_heap rw8.out.h0 2).trans rfl
                  have u1 := (Lib.cell_of_heap hb8.out 1).trans rfl
                  have hq : partS h f d m = (19, p.at_, c) := by rw [e3, if_pos (.inr (.inr hpb'))]
                  go_wp2_with fail
                  refine with15_calls 0 0 c (19) (p.at_) _ _ (Lib.hid fun wL nL => ?_)
                  have rwL := (rw8.out).below nL
                  have y0 := (Lib.cell_of_heap rwL.h2 0).trans rfl
                  have yf0 := Lib.frozen_of_heap rwL.h2 0
                  have y1 := (Lib.cell_of_heap rwL.h2 1).trans rfl
                  have yf1 := Lib.frozen_of_heap rwL.h2 1
                  have y2 := (Lib.cell_of_heap rwL.h2 2).trans rfl
                  have yf2 := Lib.frozen_of_heap rwL.h2 2
                  have fin := Lib.hid (hR.out _ (set3k (q := w.heap.size + 2) (by omega) (nb8.out.trans (nL.mono nb8.out.size)) (.int .i64 (19)) (.int .i64 (p.at_)) (.int .i64 (c : Nat))))
                  rw [hq] at fin
                  clear hR rwL nL hq e3 e2
                  go_wp2_with fail
                  refine bodyPost_ret ?_ rfl fin.out
                  simp [results, Tryz.results175, go_sem, y0, y1, y2]

                · rw [if_neg (by rintro (q | q | q); have := hk.out; omega; rw [hz'] at q; cases q; rw [hpb] at q; cases q), ← d1] at e3
                  clear hpb
                  go_wp2_with fail
                  go_roundg (gk - 1)
                  case measure => omega
                  case rel => exact ⟨I + 1, c, by go_num, by omega, hc5, nb8, rw8, e3⟩
          · have qE : (E != 0) = true := by simpa using hE0
            have hq : partS h f d m = (E, p.at_, c) := by rw [e3, if_pos (by simpa using hE0)]
            clear hE0
            go_wp2_with fail
            refine with15_calls 0 0 c (E) (p.at_) _ _ (Lib.hid fun wL nL => ?_)
            have rwL := (rw6.out).below nL
            have y0 := (Lib.cell_of_heap rwL.h2 0).trans rfl
            have yf0 := Lib.frozen_of_heap rwL.h2 0
            have y1 := (Lib.cell_of_heap rwL.h2 1).trans rfl
            have yf1 := Lib.frozen_of_heap rwL.h2 1
            have y2 := (Lib.cell_of_heap rwL.h2 2).trans rfl
            have yf2 := Lib.frozen_of_heap rwL.h2 2
            have fin := Lib.hid (hR.out _ (set3k (q := w.heap.size + 2) (by omega) (nb6.out.trans (nL.mono nb6.out.size)) (.int .i64 (E)) (.int .i64 (p.at_)) (.int .i64 (c : Nat))))
            rw [hq] at fin
            clear hR rwL nL hq e3 e2
            go_wp2_with fail
            refine bodyPost_ret ?_ rfl fin.out
            simp [results, Tryz.results175, go_sem, y0, y1, y2]
        · have e0 : I = f.len := by omega
          subst e0
          rw [Fo.drop_all (Nat.le_refl _)] at e2
          have e2' : partS h f d m = (0, 0, c) := e2
          have k0 := (Lib.cell_of_heap rw1.out.h0 0).trans rfl
          have k1 := (Lib.cell_of_heap rw1.out.h0 1).trans rfl
          have k2 := (Lib.cell_of_heap rw1.out.h0 2).trans rfl
          have y0 := (Lib.cell_of_heap rw1.out.h2 0).trans rfl
          have yf0 := Lib.frozen_of_heap rw1.out.h2 0
          have y1 := (Lib.cell_of_heap rw1.out.h2 1).trans rfl
          have yf1 := Lib.frozen_of_heap rw1.out.h2 1
          have y2 := (Lib.cell_of_heap rw1.out.h2 2).trans rfl
          have yf2 := Lib.frozen_of_heap rw1.out.h2 2

          have i1 : ¬ ((f.len : Int) < (f.len : Int)) := Int.lt_irrefl _
          have fin := Lib.hid (hR.out _ (set3k (q := w.heap.size + 2) (by omega) nb.out (.int .i64 0) (.int .i64 0) (.int .i64 (c : Nat))))
          rw [e2'] at fin
          clear hR e2 e2'
          go_wp2_with fail
          refine bodyPost_ret ?_ rfl fin.out
          simp [results, Tryz.results175, go_sem, y0, y1, y2]

end Go.Proofs.YtbochlbgjnmgjaaGreat.Kin
