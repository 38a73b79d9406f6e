/- Layer 15: the reference's Wrong: options; all together. -/
import Derived.Test.YtbochlbgjnmgjaaGreatG16
import Derived.Test.YtbochlbgjnmgjaaGreatG15
set_option maxRecDepth 100000
set_option linter.unusedVariables false
namespace Go.Proofs.YtbochlbgjnmgjaaGreat.Kin
open Go.RowKit Go.Lib Go.Proofs.YtbochlbgjnmgjaaGreat.Utf Go.Proofs.YtbochlbgjnmgjaaGreat.Nam Go.Proofs.YtbochlbgjnmgjaaGreat.Lat

set_option maxRecDepth 100000 in
set_option maxHeartbeats 2000000 in
theorem wrong15_k6 (f : Ft) (ih : Fo.AllK WrongQ f) (h : TH) (nv pv : Value) (m d : Nat) (w : World) (hm : m + 1 ≤ 512) (hd : d ≤ 24) (ho : ownB h f = true) (hk : h.kind = 6) (gh : GoodH h) (hfl : f.len ≤ maxLen) (hga : f.All GoodH GoodL) (hy : RdY w h f nv pv) (R : Ending → World → Prop)
    (hR : Hid (∀ w', Below w.heap.size w w' → R (.returned (wV (wrB h f (wrF f) d m).1 (wrB h f (wrF f) d m).2.1 (wrB h f (wrF f) d m).2.2)) w')) : Calls Tryz.prog 104 #[wV 0 0 m, tyV h nv pv, .int .i64 d] w R := by
  replace hfl : f.len ≤ 9223372036854775807 := hfl
  obtain ⟨Ap, cp, rfl, hpl⟩ := hy.p.sl
  obtain ⟨An, cn, rfl, hcn, hrn⟩ := hy.n.op
  have gnl : h.names.length ≤ 9223372036854775807 := gh.2.2.2.2.2.2.2.2
  have b1 := (Below.refl w.heap.size w).alloc (Nat.le_refl _) (.cells #[.int .i64 0, .int .i64 0, .int .i64 m] 151)
  have b2 := b1.alloc b1.size (.cells (tyL h (.slice An h.names.length cn) (.slice Ap f.len cp)).toArray 30)
  have b3 := b2.alloc b2.size (.cells #[.int .i64 0, .int .i64 0, .int .i64 0] 151)
  have z1 : (w.alloc (.cells #[.int .i64 0, .int .i64 0, .int .i64 m] 151)).heap.size = w.heap.size + 1 := by simp
  have z2 : ((w.alloc (.cells #[.int .i64 0, .int .i64 0, .int .i64 m] 151)).alloc (.cells (tyL h (.slice An h.names.length cn) (.slice Ap f.len cp)).toArray 30)).heap.size = w.heap.size + 2 := by simp
  have g0 := (((Below.refl _ _).alloc (Nat.le_refl _) (.cells #[.int .i64 0, .int .i64 0, .int .i64 0] 151)).block w.heap.size (by omega)).trans ((((Below.refl _ _).alloc (Nat.le_refl _) (.cells (tyL h (.slice An h.names.length cn) (.slice Ap f.len cp)).toArray 30)).block w.heap.size (by omega)).trans (heap_alloc_new w (.cells #[.int .i64 0, .int .i64 0, .int .i64 m] 151)))
  have g1 := (TB.new (w.alloc (.cells #[.int .i64 0, .int .i64 0, .int .i64 m] 151)) h (.slice An h.names.length cn) (.slice Ap f.len cp) 30).below ((Below.refl _ _).alloc (Nat.le_refl _) (.cells #[.int .i64 0, .int .i64 0, .int .i64 0] 151))
  have g2 := heap_alloc_new ((w.alloc (.cells #[.int .i64 0, .int .i64 0, .int .i64 m] 151)).alloc (.cells (tyL h (.slice An h.names.length cn) (.slice Ap f.len cp)).toArray 30)) (.cells #[.int .i64 0, .int .i64 0, .int .i64 0] 151)
  rw [z1] at g1
  rw [z2] at g2
  have rw0 : RW (((w.alloc (.cells #[.int .i64 0, .int .i64 0, .int .i64 m] 151)).alloc (.cells (tyL h (.slice An h.names.length cn) (.slice Ap f.len cp)).toArray 30)).alloc (.cells #[.int .i64 0, .int .i64 0, .int .i64 0] 151)) w.heap.size m h (.slice An h.names.length cn) (.slice Ap f.len cp) := ⟨g0, g1, g2⟩
  have hyw := Lib.hid hy
  replace hga := Lib.hid hga
  replace gh := Lib.hid gh
  replace hrn := Lib.hid hrn
  replace ih := Lib.hid ih
  replace hk := Lib.hid hk
  replace ho := Lib.hid ho
  clear g0 g1 g2 z1 z2 b1 b2 hy
  go_enter Tryz.func104, Tryz.ntmps104
  go_upto_region 1 with fail
  generalize (((w.alloc (.cells #[.int .i64 0, .int .i64 0, .int .i64 m] 151)).alloc (.cells (tyL h (.slice An h.names.length cn) (.slice Ap f.len cp)).toArray 30)).alloc (.cells #[.int .i64 0, .int .i64 0, .int .i64 0] 151)) = W3 at *
  have k0 := (Lib.cell_of_heap rw0.h0 0).trans rfl
  have k1 := (Lib.cell_of_heap rw0.h0 1).trans rfl
  have k2 := (Lib.cell_of_heap rw0.h0 2).trans rfl
  have kf2 := Lib.frozen_of_heap rw0.h0 2
  go_upto_region 2 with fail
  obtain ⟨M, hM⟩ : ∃ M : Nat, M = m + 1 := ⟨_, rfl⟩
  rw [show ((m : Int) + 1) = ((M : Nat) : Int) by omega]
  have l0 := blt_of rw0.h0
  have l2 := blt_of rw0.h2
  have rwA := Lib.hid (RW.mk (m := M) (nv := .slice An h.names.length cn) (pv := .slice Ap f.len cp) (set_atK rw0.h0 2 (.int .i64 (M : Nat))) (rw0.h1.set1 (by omega) 2 (.int .i64 (M : Nat))) ((set_neK (by omega)).trans rw0.h2))
  have nA := Lib.hid (b3.setCell (p := ⟨w.heap.size, 2, none⟩) (Nat.le_refl _) (.int .i64 (M : Nat)))
  replace hM := Lib.hid hM
  generalize W3.setCell ⟨w.heap.size, 2, none⟩ (.int .i64 (M : Nat)) = WA at *
  clear rw0 b3 k0 k1 k2 kf2 l0 l2 W3
  have hm : M ≤ 512 := by have := hM.out; omega
  have k0 := (Lib.cell_of_heap rwA.out.h0 0).trans rfl
  have k1 := (Lib.cell_of_heap rwA.out.h0 1).trans rfl
  have k2 := (Lib.cell_of_heap rwA.out.h0 2).trans rfl
  have t0 := rwA.out.h1.k0
  have t1 := rwA.out.h1.k1
  have hk1 : ¬ h.kind < 1 := by have := hk.out; omega
  have hk9 : ¬ 9 < h.kind := by have := hk.out; omega
  have r0 := rwA.out.h1.range
  have cO := Lib.hid fun R hR => own15_calls f h (.slice An h.names.length cn) (.slice Ap f.len cp) WA gh.out.2.2.2.2.2.2.2.2 hfl hga.out (hyw.out.below nA.out) R hR
  rw [ho.out] at cO
  go_wp2_with (refine wpList_load_g (by rfl) 30 _ rfl (w.heap.size + 1) 0 rfl [.int .i64 h.kind, .int .i64 h.at_, .int .i64 h.lo, .int .i64 h.hi, .int .i64 h.most, .slice An h.names.length cn, .slice Ap f.len cp, .string h.name, .int .i64 h.nat] _ r0 Tryz.underlying30 rfl (by kernel_rfl) ?_; go_simp)
  refine cO.out _ (Lib.hid fun wB nB => ?_)
  have rwB := Lib.hid (rwA.out.below nB)
  have nb := Lib.hid (nA.out.trans (nB.mono nA.out.size))
  clear r0 cO k0 k1 k2 t0 t1 rwA nA nB
  clear hk1 hk9
  have k0 := (Lib.cell_of_heap rwB.out.h0 0).trans rfl
  have k1 := (Lib.cell_of_heap rwB.out.h0 1).trans rfl
  have k2 := (Lib.cell_of_heap rwB.out.h0 2).trans rfl
  have t0 := rwB.out.h1.k0
  have t1 := rwB.out.h1.k1
  have t4 := rwB.out.h1.k4
  have t6 := rwB.out.h1.k6
  have hq := wrB_5 (sub := wrF f) hM.out hd hm ho.out (.inr hk.out)
  rw [hk.out] at t0
  by_cases hl : f.len = 1
  · obtain ⟨p, x, kd, r, e⟩ := Fo.drop_lt (n := 0) (f := f) (by omega)
    obtain ⟨g, o, lv, cv, nx, px, rfl, hg, hlv, hcv, hyx, hc⟩ := (hyw.out).p.part e
    obtain ⟨A1, n1, rfl, -, -⟩ := hlv.op
    obtain ⟨A2, n2, rfl, -, -⟩ := hcv.op
    obtain ⟨A5, n5, rfl, -, -⟩ := hyx.n.op
    obtain ⟨A7, n7, rfl, -⟩ := hyx.p.sl
    obtain ⟨gp, gx, gk', ga2⟩ := all_at 0 hga.out e
    have ihK := Lib.hid ((ih.out).at_ e)
    obtain ⟨on1, on2⟩ := only_one e hl
    rw [on2] at hq
    clear on2 ih hga e
    have hgB : g < wB.heap.size := Nat.lt_of_lt_of_le hg nb.out.size
    have rg : wB.rangeAt g o [.string p.name, .int .i64 p.at_, .bool p.bare, .slice A1 p.label.length n1, .int .i64 p.wide, .int .i64 p.ck, .int .i64 p.cn, .int .i64 p.cat, .slice A2 p.cl.length n2, .int .i64 x.kind, .int .i64 x.at_, .int .i64 x.lo, .int .i64 x.hi, .int .i64 x.most, .slice A5 x.names.length n5, .slice A7 kd.len n7, .string x.name, .int .i64 x.nat] := fun j v h => (nb.out.cell (p := ⟨g, o + j, none⟩) hg).trans (by have := hc j v h; rwa [Nat.zero_mul, Nat.add_zero] at this)
    have cN : wB.cell? ⟨g, o, none⟩ = some (.string p.name) := rg 0 _ rfl
    have rgX : wB.rangeAt g (o + 9) [.int .i64 x.kind, .int .i64 x.at_, .int .i64 x.lo, .int .i64 x.hi, .int .i64 x.most, .slice A5 x.names.length n5, .slice A7 kd.len n7, .string x.name, .int .i64 x.nat] := fun j v h => by rw [Nat.add_assoc]; exact rg (9 + j) v (by rw [← List.getElem?_drop]; exact h)
    clear hc
    rw [hl] at t6
    clear hl
    by_cases hn : p.name = ByteArray.empty
    · rw [decide_eq_true hn, Bool.true_and] at on1
      rw [hn] at cN
      clear hn
      have cP := Lib.hid fun R hR => (show Calls Tryz.prog 39 #[ptV p (.slice A1 p.label.length n1) (.slice A2 p.cl.length n2) x (.slice A5 x.names.length n5) (.slice A7 kd.len n7), .agg #[.string ⟨#[]⟩, .int .i64 0, .bool false, .slice none 0 0, .int .i64 0, .int .i64 0, .int .i64 0, .int .i64 0, .slice none 0 0, .int .i64 0, .int .i64 0, .int .i64 0, .int .i64 0, .int .i64 0, .slice none 0 0, .slice none 0 0, .string ⟨#[]⟩, .int .i64 0]] wB R from plain15_calls p zPH _ _ (.slice none 0 0) (.slice none 0 0) (.slice A5 x.names.length n5) (.slice A7 kd.len n7) (.slice none 0 0) (.slice none 0 0) x zTH wB gp.2.2.2.2.2.2.2.2.1 gp.2.2.2.2.2.2.2.2.2 (hlv.below nb.out) (hcv.below nb.out) (RdG.none0 _ _ _) (RdG.none0 _ _ _) R hR)
      go_upto_region 26 with fail
      go_wp2_with (refine wpList_load_g (by rfl) 75 _ rfl g o rfl [.string p.name, .int .i64 p.at_, .bool p.bare, .slice A1 p.label.length n1, .int .i64 p.wide, .int .i64 p.ck, .int .i64 p.cn, .int .i64 p.cat, .slice A2 p.cl.length n2, .int .i64 x.kind, .int .i64 x.at_, .int .i64 x.lo, .int .i64 x.hi, .int .i64 x.most, .slice A5 x.names.length n5, .slice A7 kd.len n7, .string x.name, .int .i64 x.nat] _ rg Tryz.underlying75 rfl (by kernel_rfl) ?_; go_simp)
      refine cP.out _ (Lib.hid fun wM nM => ?_)
      have rwM := Lib.hid (rwB.out.below nM)
      have nbM := Lib.hid (nb.out.trans (nM.mono nb.out.size))
      have t6' := (nM.cell (p := ⟨w.heap.size + 1, 6, none⟩) rwB.out.h1.lt).trans t6
      have rgM : wM.rangeAt g (o + 9) [.int .i64 x.kind, .int .i64 x.at_, .int .i64 x.lo, .int .i64 x.hi, .int .i64 x.most, .slice A5 x.names.length n5, .slice A7 kd.len n7, .string x.name, .int .i64 x.nat] := fun j v h => (nM.cell (p := ⟨g, o + 9 + j, none⟩) hgB).trans (rgX j v h)
      have hgM : g < wM.heap.size := Nat.lt_of_lt_of_le hgB nM.size
      clear rg rgX cN k0 k1 k2 t0 t1 t4 t6 cP nM rwB nb hgB
      have k0 := (Lib.cell_of_heap rwM.out.h0 0).trans rfl
      have k1 := (Lib.cell_of_heap rwM.out.h0 1).trans rfl
      have k2 := (Lib.cell_of_heap rwM.out.h0 2).trans rfl
      have t1 := rwM.out.h1.k1
      have t4 := rwM.out.h1.k4

      cases hb : plainB p zPH
      · rw [on1, hb, if_pos rfl] at hq
        clear hb on1
        go_wp2_with fail
        refine with15_calls 0 0 (M : Nat) (19) (h.at_) _ _ (Lib.hid fun wL nL => ?_)
        have rwL := (rwM.out).below nL
        have y0 := (Lib.cell_of_heap rwL.h2 0).trans rfl
        have yf0 := Lib.frozen_of_heap rwL.h2 0
        have y1 := (Lib.cell_of_heap rwL.h2 1).trans rfl
        have yf1 := Lib.frozen_of_heap rwL.h2 1
        have y2 := (Lib.cell_of_heap rwL.h2 2).trans rfl
        have yf2 := Lib.frozen_of_heap rwL.h2 2
        have fin := Lib.hid (hR.out _ (set3k (q := w.heap.size + 2) (by omega) (nbM.out.trans (nL.mono nbM.out.size)) (.int .i64 (19)) (.int .i64 (h.at_)) (.int .i64 (M : Nat))))
        rw [hq] at fin
        clear hR rwL nL
        go_wp2_with fail
        refine bodyPost_ret ?_ rfl fin.out
        simp [results, Tryz.results104, go_sem, y0, y1, y2]

      · rw [on1, hb, if_neg (by simp)] at hq
        clear hb on1
        by_cases c : h.most < 0
        · rw [if_pos (.inl c)] at hq
          go_wp2_with fail
          refine with15_calls 0 0 (M : Nat) (20) (h.at_) _ _ (Lib.hid fun wL nL => ?_)
          have rwL := (rwM.out).below nL
          have y0 := (Lib.cell_of_heap rwL.h2 0).trans rfl
          have yf0 := Lib.frozen_of_heap rwL.h2 0
          have y1 := (Lib.cell_of_heap rwL.h2 1).trans rfl
          have yf1 := Lib.frozen_of_heap rwL.h2 1
          have y2 := (Lib.cell_of_heap rwL.h2 2).trans rfl
          have yf2 := Lib.frozen_of_heap rwL.h2 2
          have fin := Lib.hid (hR.out _ (set3k (q := w.heap.size + 2) (by omega) (nbM.out.trans (nL.mono nbM.out.size)) (.int .i64 (20)) (.int .i64 (h.at_)) (.int .i64 (M : Nat))))
          rw [hq] at fin
          clear hR rwL nL
          go_wp2_with fail
          refine bodyPost_ret ?_ rfl fin.out
          simp [results, Tryz.results104, go_sem, y0, y1, y2]

        · by_cases c' : 1024 < h.most
          · rw [if_pos (.inr c')] at hq
            go_wp2_with fail
            refine with15_calls 0 0 (M : Nat) (20) (h.at_) _ _ (Lib.hid fun wL nL => ?_)
            have rwL := (rwM.out).below nL
            have y0 := (Lib.cell_of_heap rwL.h2 0).trans rfl
            have yf0 := Lib.frozen_of_heap rwL.h2 0
            have y1 := (Lib.cell_of_heap rwL.h2 1).trans rfl
            have yf1 := Lib.frozen_of_heap rwL.h2 1
            have y2 := (Lib.cell_of_heap rwL.h2 2).trans rfl
            have yf2 := Lib.frozen_of_heap rwL.h2 2
            have fin := Lib.hid (hR.out _ (set3k (q := w.heap.size + 2) (by omega) (nbM.out.trans (nL.mono nbM.out.size)) (.int .i64 (20)) (.int .i64 (h.at_)) (.int .i64 (M : Nat))))
            rw [hq] at fin
            clear hR rwL nL
            go_wp2_with fail
            refine bodyPost_ret ?_ rfl fin.out
            simp [results, Tryz.results104, go_sem, y0, y1, y2]

          · rw [if_neg (by omega)] at hq
            go_wp2_with fail
            generalize hX : wrB x kd (wrF kd) (d + 1) M = X at hq
            have l0 := blt_of rwM.out.h0
            have l1 := rwM.out.h1.lt
            have j6 := fun y : GW wM (w.heap.size + 2) (w.heap.size + 2) => y.cell (by omega) (by omega) (by omega) t6'
            have jx : ∀ y : GW wM (w.heap.size + 2) (w.heap.size + 2), y.w.rangeAt g (o + 9) [.int .i64 x.kind, .int .i64 x.at_, .int .i64 x.lo, .int .i64 x.hi, .int .i64 x.most, .slice A5 x.names.length n5, .slice A7 kd.len n7, .string x.name, .int .i64 x.nat] := fun y j v h => y.cell hgM (by omega) (by omega) (rgM j v h)
            have cW := fun (V : World) (gV : Below wM.heap.size wM V) => Lib.hid fun R hR => (show Calls Tryz.prog 104 #[wV 0 0 M, tyV x (.slice A5 x.names.length n5) (.slice A7 kd.len n7), .int .i64 ((d : Int) + 1)] V R from ihK.out x (.slice A5 x.names.length n5) (.slice A7 kd.len n7) M (d + 1) V hm (by omega) gx gk' ga2 (hyx.below (nbM.out.trans (gV.mono nbM.out.size))) R hR)
            simp only [hX] at cW
            clear t1 t4 t6' rgM
            have jr : ∀ y : GW wM (w.heap.size + 2) (w.heap.size + 2), y.w.rangeAt w.heap.size 0 [.int .i64 0, .int .i64 0, .int .i64 M] := fun y j v h => by rw [Nat.zero_add, Lib.cell_of_heap ((y.b _ l0 (by omega) (by omega)).trans rwM.out.h0)]; simpa using h
            clear k0 k1 k2
            refine wp_region_mixG (w.heap.size + 2) (w.heap.size + 2) [([0, 1, 2, 3, 4, 5, 6, 7], 8), ([], 9)] [] (by kernel_rfl) (by kernel_rfl) (by kernel_rfl) (by kernel_rfl) (fun _ _ d _ _ h => by cases d <;> exact h) ?_
            have gW : Below wM.heap.size wM (wM.drewN 1) := ⟨rfl, rfl, rfl, Nat.le_refl _, fun _ _ => rfl⟩
            refine mix_cons (os := [_, _, _, _, _, _, _, _]) (by simp only [pickO, List.filterMap_cons, List.filterMap_nil, List.getElem?_toArray, List.getElem?_cons_succ, List.getElem?_cons_zero]; rfl) (fun Kp hKp => ?_)
            refine wpQuiet_load rfl _ _ rfl w.heap.size 0 rfl [.int .i64 0, .int .i64 0, .int .i64 M] _ (by rintro V ⟨y, rfl⟩; exact jr y) Tryz.underlying151 rfl (by kernel_rfl) ?_
            go_simp
            iterate 4 (go_big_quiet_step (exact rfl))
            refine wpQuiet_load rfl 30 _ rfl g (o + 9) rfl [.int .i64 x.kind, .int .i64 x.at_, .int .i64 x.lo, .int .i64 x.hi, .int .i64 x.most, .slice A5 x.names.length n5, .slice A7 kd.len n7, .string x.name, .int .i64 x.nat] _ (by rintro V ⟨y, rfl⟩; exact jx y) Tryz.underlying30 rfl (by kernel_rfl) ?_
            go_simp
            repeat (go_big_quiet_step (exact rfl))
            refine wpQuiet_nil ?_
            refine hKp _ ?_
            clear hKp
            refine loud (by rfl) (by kernel_rfl) (fun K1 hK1 => ?_)
            go_simp
            refine (cW _ gW).out _ (Lib.hid fun wL nL => ?_)
            have gL := gW.trans (nL.mono gW.size)
            refine hK1 _ _ (GW.bl gL) ?_
            clear hK1
            refine mix_cons (os := []) (by rfl) (fun Kp hKp => ?_)
            refine wpQuiet_nil ?_
            refine hKp _ ?_
            clear hKp
            refine loud (by rfl) (by kernel_rfl) (fun K2 hK2 => ?_)
            have rwL := rwM.out.below gL
            have y0 := (Lib.cell_of_heap rwL.h2 0).trans rfl
            have yf0 := Lib.frozen_of_heap rwL.h2 0
            have y1 := (Lib.cell_of_heap rwL.h2 1).trans rfl
            have yf1 := Lib.frozen_of_heap rwL.h2 1
            have y2 := (Lib.cell_of_heap rwL.h2 2).trans rfl
            have yf2 := Lib.frozen_of_heap rwL.h2 2
            go_simp
            refine hK2 _ _ (GW.set (GW.set (GW.set (GW.bl gL) _) _) _) ?_
            clear hK2
            refine mix_nil (os := []) (by rfl) (fun Kp hKp => ?_)
            refine wpQuiet_nil ?_
            refine hKp _ ?_
            clear hKp
            have fin := Lib.hid (hR.out _ (set3k (q := w.heap.size + 2) (by omega) (nbM.out.trans (gL.mono nbM.out.size)) (.int .i64 (X.1)) (.int .i64 (X.2.1)) (.int .i64 (X.2.2 : Nat))))
            rw [hq] at fin
            clear hR
            go_wp2_with fail
            refine bodyPost_ret ?_ rfl fin.out
            simp [results, Tryz.results104, go_sem, y0, y1, y2]

    · rw [decide_eq_false hn, Bool.false_and] at on1
      rw [on1, if_pos rfl] at hq
      have qn : ¬ p.name.toList = [] := fun q => by
        have e0 : ByteArray.empty.toList = [] := by first | rfl | decide | simp | (unfold ByteArray.toList; unfold ByteArray.toList.loop; rfl)
        have := sq_f hn
        rw [q, e0] at this
        exact absurd this (by decide)
      clear hn on1
      go_wp2_with fail
      refine with15_calls 0 0 (M : Nat) (19) (h.at_) _ _ (Lib.hid fun wL nL => ?_)
      have rwL := (rwB.out).below nL
      have y0 := (Lib.cell_of_heap rwL.h2 0).trans rfl
      have yf0 := Lib.frozen_of_heap rwL.h2 0
      have y1 := (Lib.cell_of_heap rwL.h2 1).trans rfl
      have yf1 := Lib.frozen_of_heap rwL.h2 1
      have y2 := (Lib.cell_of_heap rwL.h2 2).trans rfl
      have yf2 := Lib.frozen_of_heap rwL.h2 2
      have fin := Lib.hid (hR.out _ (set3k (q := w.heap.size + 2) (by omega) (nb.out.trans (nL.mono nb.out.size)) (.int .i64 (19)) (.int .i64 (h.at_)) (.int .i64 (M : Nat))))
      rw [hq] at fin
      clear hR rwL nL
      go_wp2_with fail
      refine bodyPost_ret ?_ rfl fin.out
      simp [results, Tryz.results104, go_sem, y0, y1, y2]

  · rw [only_len hl, if_pos rfl] at hq
    have q1 : ((f.len : Int) != 1) = true := by simp; omega
    clear hl
    go_wp2_with fail
    refine with15_calls 0 0 (M : Nat) (19) (h.at_) _ _ (Lib.hid fun wL nL => ?_)
    have rwL := (rwB.out).below nL
    have y0 := (Lib.cell_of_heap rwL.h2 0).trans rfl
    have yf0 := Lib.frozen_of_heap rwL.h2 0
    have y1 := (Lib.cell_of_heap rwL.h2 1).trans rfl
    have yf1 := Lib.frozen_of_heap rwL.h2 1
    have y2 := (Lib.cell_of_heap rwL.h2 2).trans rfl
    have yf2 := Lib.frozen_of_heap rwL.h2 2
    have fin := Lib.hid (hR.out _ (set3k (q := w.heap.size + 2) (by omega) (nb.out.trans (nL.mono nb.out.size)) (.int .i64 (19)) (.int .i64 (h.at_)) (.int .i64 (M : Nat))))
    rw [hq] at fin
    clear hR rwL nL
    go_wp2_with fail
    refine bodyPost_ret ?_ rfl fin.out
    simp [results, Tryz.results104, go_sem, y0, y1, y2]
theorem wrong15_step (f : Ft) (ih : Fo.AllK WrongQ f) : WrongQ f := by
  intro h nv pv m d w hm hd gh hfl hga hy R hR
  by_cases c : 24 < d ∨ 512 < m + 1 ∨ h.kind < 1 ∨ 9 < h.kind ∨ ownB h f = false
  · exact wrong15_err f ih h nv pv m d w hm hd c gh hfl hga hy R hR
  · simp only [not_or] at c
    obtain ⟨c1, c2, c3, c4, c5⟩ := c
    have hd' : d ≤ 24 := by omega
    have hm' : m + 1 ≤ 512 := by omega
    have ho : ownB h f = true := by simpa using c5
    have hk : (h.kind = 1 ∨ h.kind = 2 ∨ h.kind = 3 ∨ h.kind = 9) ∨ h.kind = 4 ∨ h.kind = 5 ∨ h.kind = 6 ∨ (h.kind = 7 ∨ h.kind = 8) := by omega
    rcases hk with hk | hk | hk | hk | hk
    · exact wrong15_flat f ih h nv pv m d w hm' hd' ho hk gh hfl hga hy R hR
    · exact wrong15_enum f ih h nv pv m d w hm' hd' ho hk gh hfl hga hy R hR
    · exact wrong15_k5 f ih h nv pv m d w hm' hd' ho hk gh hfl hga hy R hR
    · exact wrong15_k6 f ih h nv pv m d w hm' hd' ho hk gh hfl hga hy R hR
    · exact wrong15_parts f ih h nv pv m d w hm' hd' ho hk gh hfl hga hy R hR
theorem wrong15_calls (f : Ft) : WrongQ f := Fo.deep wrong15_step f
end Go.Proofs.YtbochlbgjnmgjaaGreat.Kin
