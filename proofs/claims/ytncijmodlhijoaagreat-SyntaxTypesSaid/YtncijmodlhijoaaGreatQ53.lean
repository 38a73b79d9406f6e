import Derived.Test.YtncijmodlhijoaaGreatQ52
import Derived.Test.YtncijmodlhijoaaGreatQ17
set_option linter.unusedVariables false
set_option maxRecDepth 100000
set_option maxHeartbeats 4000000
namespace Go.Proofs.YtncijmodlhijoaaGreat.Syn
open Go.RowKit Go.Lib Utf Nam Lat Kin
theorem words16_calls (l : List Wr) (hm : l.length ≤ maxLen) (va vb : Value) (w : World) (ha : RdW w va l) (hb : RdW w vb l) (R : Ending → World → Prop) (hR : Hid (∀ w', Below w.heap.size w w' → R (.returned (.bool true)) w')) : Calls Tryz.prog 71 #[va, vb] w R := by
 replace hm : l.length ≤ 9223372036854775807 := hm
 obtain ⟨A, ca, rfl, hca, hra⟩ := ha.op
 obtain ⟨B, cb, rfl, hcb, hrb⟩ := hb.op
 have q1 : ((l.length : Int) != (l.length : Int)) = false := by simp
 replace hra := Lib.hid hra
 replace hrb := Lib.hid hrb
 clear ha hb
 go_enter Tryz.func71, Tryz.ntmps71
 go_upto_region 4 with fail
 go_loopg [5] l.length (fun g i wr => ∃ K : Nat, i = .int .i64 K ∧ K + g = l.length ∧ Hid (Below w.heap.size w wr))
 case atStart => exact ⟨0, rfl, by omega, Lib.hid (Below.refl _ _)⟩
 case round =>
  obtain ⟨K, rfl, e1, nb⟩ := hrel
  replace nb := nb.out
  by_cases hK : K < l.length
  ·obtain ⟨ga, oa, rfl, hga, ca⟩ := hra.out (by omega)
   obtain ⟨gb, ob, rfl, hgb, cb⟩ := hrb.out (by omega)
   have i0 : (0 : Int) ≤ (K : Int) := by omega
   have i1 : (K : Int) < (l.length : Int) := by omega
   have hga' : ga < wr.heap.size := Nat.lt_of_lt_of_le hga nb.size
   have hgb' : gb < wr.heap.size := Nat.lt_of_lt_of_le hgb nb.size
   have xa := fun u : BW wr => u.cell hga' ((nb.cell (p := ⟨ga, oa + K * 2, none⟩) hga).trans (ca K hK).1)
   have xb := fun u : BW wr => u.cell hga' ((nb.cell (p := ⟨ga, oa + K * 2 + 1, none⟩) hga).trans (ca K hK).2)
   have ya := fun u : BW wr => u.cell hgb' ((nb.cell (p := ⟨gb, ob + K * 2, none⟩) hgb).trans (cb K hK).1)
   have yb := fun u : BW wr => u.cell hgb' ((nb.cell (p := ⟨gb, ob + K * 2 + 1, none⟩) hgb).trans (cb K hK).2)
   clear ca cb
   go_wp2_with fail
   refine wp_region_below_lit (by kernel_rfl) (by kernel_rfl) ?_
   repeat (go_big_quiet_step (exact rfl))
   refine wpQuiet_nil ?_
   rintro _ ⟨u, rfl⟩
   have ny := Lib.hid (nb.trans (u.b.mono nb.size))
   generalize u.w = wy at *
   clear xa xb ya yb
   go_wp2_with fail
   go_roundg (gk - 1)
   case measure => omega
   case rel => exact ⟨K + 1, by go_num, by omega, ny⟩
  ·obtain rfl : K = l.length := by omega
   have fin := Lib.hid (hR.out _ nb)
   clear hR
   go_wp2_with fail
   exact fin.out
def SameE (f : Ft) : Prop := ∀ (h : TH) (nv pv nv' pv' : Value) (w : World), h.names.length ≤ maxLen → f.len ≤ maxLen → f.All LenH LenL → RdY w h f nv pv → RdY w h f nv' pv' → ∀ R : Ending → World → Prop,
 Hid (∀ w', Below w.heap.size w w' → R (.returned (.bool true)) w') → Calls Tryz.prog 29 #[tyV h nv pv, tyV h nv' pv'] w R
theorem sameE_step (f : Ft) (ih : Fo.AllK SameE f) : SameE f := by
 intro h nv pv nv' pv' w hm hfl hga hy hy' R hR
 replace hfl : f.len ≤ 9223372036854775807 := hfl
 have bA := (Below.refl w.heap.size w).alloc (Nat.le_refl _) (.cells (tyL h nv pv).toArray 29)
 have bB := Lib.hid (bA.alloc bA.size (.cells (tyL h nv' pv').toArray 29))
 have kA := Lib.hid ((TB.new w h nv pv 29).below ((Below.refl _ _).alloc (Nat.le_refl _) (.cells (tyL h nv' pv').toArray 29)))
 have kB := TB.new (w.alloc (.cells (tyL h nv pv).toArray 29)) h nv' pv' 29
 have hs1 : (w.alloc (.cells (tyL h nv pv).toArray 29)).heap.size = w.heap.size + 1 := by simp
 rw [hs1] at kB
 replace kB := Lib.hid kB
 have cW1 := Lib.hid fun (W : World) (b : Below w.heap.size w W) R hR => words16_calls h.names hm nv nv' W (hy.n.below b) (hy'.n.below b) R hR
 obtain ⟨An, cn, rfl, -, -⟩ := hy.n.op
 obtain ⟨An', cn', rfl, -, -⟩ := hy'.n.op
 obtain ⟨Ap, cp, rfl, hpl⟩ := hy.p.sl
 obtain ⟨Ap', cp', rfl, hpl'⟩ := hy'.p.sl
 replace hy := Lib.hid hy
 replace hy' := Lib.hid hy'
 replace hga := Lib.hid hga
 replace ih := Lib.hid ih
 clear bA hm
 go_enter Tryz.func29, Tryz.ntmps29
 go_upto_region 1 with fail
 generalize (w.alloc (.cells (tyL h (.slice An h.names.length cn) (.slice Ap f.len cp)).toArray 29)).alloc (.cells (tyL h (.slice An' h.names.length cn') (.slice Ap' f.len cp')).toArray 29) = W2 at *
 clear hs1
 obtain ⟨-, a0, a1, a2, a3, a4, a5, a6, a7, a8⟩ := kA.out
 obtain ⟨-, b0, b1, b2, b3, b4, b5, b6, b7, b8⟩ := kB.out
 have nW := bB
 clear bB
 have cX1 := Lib.hid fun R hR => cW1.out W2 nW.out R hR
 go_wp2_with fail
 refine cX1.out _ (Lib.hid fun w3 n3 => ?_)
 replace nW := Lib.hid (nW.out.trans (n3.mono nW.out.size))
 have kA3 := kA.out.below n3
 have kB3 := kB.out.below n3
 clear n3 cX1 a0 a1 a2 a3 a4 a5 a6 a7 a8 b0 b1 b2 b3 b4 b5 b6 b7 b8 kA kB cW1
 have a6 := kA3.k6
 have b6 := kB3.k6
 replace kA3 := Lib.hid kA3
 replace kB3 := Lib.hid kB3
 go_upto_region 4 with fail
 go_loopg [5] f.len (fun g0 i wr => ∃ K : Nat, i = .int .i64 K ∧ K + g0 = f.len ∧ Hid (Below w.heap.size w wr) ∧ Hid (TB wr w.heap.size h (.slice An h.names.length cn) (.slice Ap f.len cp)) ∧ Hid (TB wr (w.heap.size + 1) h (.slice An' h.names.length cn') (.slice Ap' f.len cp')))
 case atStart => exact ⟨0, rfl, by omega, nW, kA3, kB3⟩
 case round =>
  clear nW kA3 kB3 a6 b6
  obtain ⟨K, rfl, e1, nW, kA, kB⟩ := hrel
  have a6 := kA.out.k6
  have b6 := kB.out.k6
  by_cases hK : K < f.len
  ·obtain ⟨p, x, kd, r, e⟩ := Fo.drop_lt hK
   obtain ⟨ga, oa, lv, cv, nx, px, rfl, hga', hlv, hcv, hyx, hc⟩ := (hy.out.below nW.out).p.part e
   obtain ⟨gb, ob, lv', cv', ny, py, rfl, hgb', hlv', hcv', hyy, hc'⟩ := (hy'.out.below nW.out).p.part e
   obtain ⟨A1, n1, rfl, -, -⟩ := hlv.op
   obtain ⟨A2, n2, rfl, -, -⟩ := hcv.op
   obtain ⟨A3, n3, rfl, -, -⟩ := hlv'.op
   obtain ⟨A4, n4, rfl, -, -⟩ := hcv'.op
   obtain ⟨A5, n5, rfl, -, -⟩ := hyx.n.op
   obtain ⟨A6, n6, rfl, -, -⟩ := hyy.n.op
   obtain ⟨A7, n7, rfl, hk7⟩ := hyx.p.sl
   obtain ⟨A8, n8, rfl, hk8⟩ := hyy.p.sl
   have i0 : (0 : Int) ≤ (K : Int) := by omega
   have i1 : (K : Int) < (f.len : Int) := by omega
   have ltA := kA.out.lt
   have ltB := kB.out.lt
   go_wp2_with fail
   replace a6 := fun u : BW wr => u.cell ltA a6
   replace b6 := fun u : BW wr => u.cell ltB b6
   refine wp_region_two (os := [_, _, _, _, _, _, _, _, _, _]) [0, 1, 2, 3, 4, 5, 6, 7, 8, 9] 10 11 12 13 (T := 92) (z := #[.string ⟨#[]⟩, .int .i64 0, .bool false, .slice none 0 0, .int .i64 0, .int .i64 0, .int .i64 0, .int .i64 0, .slice none 0 0, .int .i64 0, .int .i64 0, .int .i64 0, .int .i64 0, .int .i64 0, .slice none 0 0, .slice none 0 0, .string ⟨#[]⟩, .int .i64 0]) (by kernel_rfl) (by kernel_rfl) (by kernel_rfl) (fun _ _ d _ _ h => by cases d <;> exact h) rfl rfl rfl rfl ⟨rfl, rfl, rfl⟩ ⟨rfl, rfl, rfl⟩ ⟨rfl, rfl, rfl⟩ ⟨rfl, rfl, rfl⟩ part_alloc (by kernel_rfl) (by simp only [pickO, List.filterMap_cons, List.filterMap_nil, List.getElem?_toArray, List.getElem?_cons_succ, List.getElem?_cons_zero]; rfl) (fun Kp hKp => ?_)
   iterate 4 (go_big_quiet_step (exact rfl))
   refine wpQuiet_load rfl _ _ rfl ga (oa + K * 18) rfl #[.string p.name, .int .i64 p.at_, .bool p.bare, .slice A1 p.label.length n1, .int .i64 p.wide, .int .i64 p.ck, .int .i64 p.cn, .int .i64 p.cat, .slice A2 p.cl.length n2, .int .i64 x.kind, .int .i64 x.at_, .int .i64 x.lo, .int .i64 x.hi, .int .i64 x.most, .slice A5 x.names.length n5, .slice A7 kd.len n7, .string x.name, .int .i64 x.nat].toList _ (fun _ ⟨u, e⟩ => by subst e; exact fun j v h => u.cell hga' (hc j v h)) Tryz.underlying92 rfl (by kernel_rfl) ?_
   go_simp
   iterate 4 (go_big_quiet_step (exact rfl))
   refine wpQuiet_load rfl _ _ rfl gb (ob + K * 18) rfl #[.string p.name, .int .i64 p.at_, .bool p.bare, .slice A3 p.label.length n3, .int .i64 p.wide, .int .i64 p.ck, .int .i64 p.cn, .int .i64 p.cat, .slice A4 p.cl.length n4, .int .i64 x.kind, .int .i64 x.at_, .int .i64 x.lo, .int .i64 x.hi, .int .i64 x.most, .slice A6 x.names.length n6, .slice A8 kd.len n8, .string x.name, .int .i64 x.nat].toList _ (fun _ ⟨u, e⟩ => by subst e; exact fun j v h => u.cell hgb' (hc' j v h)) Tryz.underlying92 rfl (by kernel_rfl) ?_
   go_simp
   refine wpQuiet_nil ?_
   refine hKp _ ?_
   clear hKp
   refine ⟨#[.string p.name, .int .i64 p.at_, .bool p.bare, .slice A1 p.label.length n1, .int .i64 p.wide, .int .i64 p.ck, .int .i64 p.cn, .int .i64 p.cat, .slice A2 p.cl.length n2, .int .i64 x.kind, .int .i64 x.at_, .int .i64 x.lo, .int .i64 x.hi, .int .i64 x.most, .slice A5 x.names.length n5, .slice A7 kd.len n7, .string x.name, .int .i64 x.nat], #[.string p.name, .int .i64 p.at_, .bool p.bare, .slice A3 p.label.length n3, .int .i64 p.wide, .int .i64 p.ck, .int .i64 p.cn, .int .i64 p.cat, .slice A4 p.cl.length n4, .int .i64 x.kind, .int .i64 x.at_, .int .i64 x.lo, .int .i64 x.hi, .int .i64 x.most, .slice A6 x.names.length n6, .slice A8 kd.len n8, .string x.name, .int .i64 x.nat], ⟨rfl, by simp [Value.oneCell']⟩, ⟨rfl, by simp [Value.oneCell']⟩, fun _ => ⟨rfl, rfl⟩, fun _ => ⟨rfl, rfl⟩, fun _ _ => ⟨rfl, rfl, rfl, rfl, rfl⟩, fun B6 B7 V h6 h7 hne bV g6 g7 => ?_⟩
   have l6 := (Array.getElem?_eq_some_iff.1 g6).1
   have l7 := (Array.getElem?_eq_some_iff.1 g7).1
   have nV := Lib.hid (nW.out.trans (bV.mono nW.out.size))
   have kA' := Lib.hid (kA.out.below bV)
   have kB' := Lib.hid (kB.out.below bV)
   have hyx' := Lib.hid (hyx.below bV)
   have hyy' := Lib.hid (hyy.below bV)
   obtain ⟨gp, gx, gk', ga2⟩ := all_at K hga.out e
   have ihK := Lib.hid ((ih.out).at_ e)
   have cL := Lib.hid fun (W : World) (b : Below V.heap.size V W) R hR => words16_calls p.label gp.1 (.slice A1 p.label.length n1) (.slice A3 p.label.length n3) W (hlv.below (bV.trans (b.mono bV.size))) (hlv'.below (bV.trans (b.mono bV.size))) R hR
   have cC := Lib.hid fun (W : World) (b : Below V.heap.size V W) R hR => words16_calls p.cl gp.2 (.slice A2 p.cl.length n2) (.slice A4 p.cl.length n4) W (hcv.below (bV.trans (b.mono bV.size))) (hcv'.below (bV.trans (b.mono bV.size))) R hR
   clear hc hc' a6 b6 kA kB hyx hyy hlv hcv hlv' hcv' bV e h6 h7 hne nW
   have u0 := (Lib.cell_of_heap g6 0).trans rfl
   have v0 := (Lib.cell_of_heap g7 0).trans rfl
   have u1 := (Lib.cell_of_heap g6 1).trans rfl
   have v1 := (Lib.cell_of_heap g7 1).trans rfl
   have u2 := (Lib.cell_of_heap g6 2).trans rfl
   have v2 := (Lib.cell_of_heap g7 2).trans rfl
   have u3 := (Lib.cell_of_heap g6 3).trans rfl
   have v3 := (Lib.cell_of_heap g7 3).trans rfl
   have u4 := (Lib.cell_of_heap g6 4).trans rfl
   have v4 := (Lib.cell_of_heap g7 4).trans rfl
   go_wp2_with fail
   refine cL.out V (Below.refl _ _) _ (Lib.hid fun w4 mm4 => ?_)
   clear u0 v0 u1 v1 u2 v2 u3 v3 u4 v4
   replace g6 := (mm4.block _ l6).trans g6
   replace g7 := (mm4.block _ l7).trans g7
   have nX := Lib.hid (nV.out.trans (mm4.mono nV.out.size))
   have u5 := (Lib.cell_of_heap g6 5).trans rfl
   have v5 := (Lib.cell_of_heap g7 5).trans rfl
   have u6 := (Lib.cell_of_heap g6 6).trans rfl
   have v6 := (Lib.cell_of_heap g7 6).trans rfl
   have u7 := (Lib.cell_of_heap g6 7).trans rfl
   have v7 := (Lib.cell_of_heap g7 7).trans rfl
   have u8 := (Lib.cell_of_heap g6 8).trans rfl
   have v8 := (Lib.cell_of_heap g7 8).trans rfl
   go_wp2_with fail
   refine cC.out w4 mm4 _ (Lib.hid fun w5 mm5' => ?_)
   clear u5 v5 u6 v6 u7 v7 u8 v8
   have mm5 := mm4.trans (mm5'.mono mm4.size)
   replace g6 := (mm5'.block _ (Nat.lt_of_lt_of_le l6 mm4.size)).trans g6
   replace g7 := (mm5'.block _ (Nat.lt_of_lt_of_le l7 mm4.size)).trans g7
   have nY := Lib.hid (nV.out.trans (mm5.mono nV.out.size))
   have s6 : w5.rangeAt B6 9 [.int .i64 x.kind, .int .i64 x.at_, .int .i64 x.lo, .int .i64 x.hi, .int .i64 x.most, .slice A5 x.names.length n5, .slice A7 kd.len n7, .string x.name, .int .i64 x.nat] := fun j v h => by rw [Lib.cell_of_heap g6, List.getElem?_toArray, ← List.getElem?_drop]; exact h
   have s7 : w5.rangeAt B7 9 [.int .i64 x.kind, .int .i64 x.at_, .int .i64 x.lo, .int .i64 x.hi, .int .i64 x.most, .slice A6 x.names.length n6, .slice A8 kd.len n8, .string x.name, .int .i64 x.nat] := fun j v h => by rw [Lib.cell_of_heap g7, List.getElem?_toArray, ← List.getElem?_drop]; exact h
   have hyx2 := hyx'.out.below mm5
   have hyy2 := hyy'.out.below mm5
   have kA2 := Lib.hid (kA'.out.below mm5)
   have kB2 := Lib.hid (kB'.out.below mm5)
   have cS := Lib.hid fun R hR => ihK.out x _ _ _ _ w5 gx gk' ga2 hyx2 hyy2 R hR
   clear mm4 mm5 mm5' hyx2 hyy2 g6 g7 kA' kB' hyx' hyy' nV nX cL cC
   go_wp2_with (first | (refine wpList_load_g (by rfl) _ _ rfl B6 9 rfl [.int .i64 x.kind, .int .i64 x.at_, .int .i64 x.lo, .int .i64 x.hi, .int .i64 x.most, .slice A5 x.names.length n5, .slice A7 kd.len n7, .string x.name, .int .i64 x.nat] _ s6 Tryz.underlying29 rfl (by kernel_rfl) ?_; go_simp) | (refine wpList_load_g (by rfl) _ _ rfl B7 9 rfl [.int .i64 x.kind, .int .i64 x.at_, .int .i64 x.lo, .int .i64 x.hi, .int .i64 x.most, .slice A6 x.names.length n6, .slice A8 kd.len n8, .string x.name, .int .i64 x.nat] _ s7 Tryz.underlying29 rfl (by kernel_rfl) ?_; go_simp))
   refine cS.out _ (Lib.hid fun w6 mm6 => ?_)
   have nZ := Lib.hid (nY.out.trans (mm6.mono nY.out.size))
   have kA3 := Lib.hid (kA2.out.below mm6)
   have kB3 := Lib.hid (kB2.out.below mm6)
   clear mm6 cS kA2 kB2 s6 s7
   go_wp2_with fail
   go_roundg (gk - 1)
   case measure => omega
   case rel => exact ⟨K + 1, by go_num, by omega, nZ, kA3, kB3⟩
  ·obtain rfl : K = f.len := by omega
   have fin := Lib.hid (hR.out _ nW.out)
   clear hR kA kB
   go_wp2_with fail
   exact fin.out
theorem sameE_calls (f : Ft) : SameE f := Fo.deep sameE_step f
end Go.Proofs.YtncijmodlhijoaaGreat.Syn
namespace Go.Proofs.YtncijmodlhijoaaGreat.Syn
open Go.RowKit Go.Lib Utf Tok Cur Nam Lat Kin
theorem types16_walk (s : ByteArray) (hs : s.size ≤ maxLen) (w : World) (R : Ending → World → Prop) (hR : Hid (∀ w', Below w.heap.size w w' → R (.returned (.bool true)) w')) : Calls Tryz.prog 6 #[.string s] w R := by
 replace hs : s.size ≤ 9223372036854775807 := hs
 by_cases hbig : 4000 < s.size
 ·have hi : (4000 : Int) < s.size := by omega
  clear hbig
  go_enter Tryz.func6, Tryz.ntmps6
  go_wp2_with fail
  refine lives16_calls w _ (Lib.hid fun w1 n1 => ?_)
  have fin := Lib.hid (hR.out _ n1)
  clear hR n1
  go_wp2_with fail
  exact fin.out
 ·have hi : ¬ (4000 : Int) < s.size := by omega
  have hl := len_typeS s
  have cT1 := Lib.hid fun (W : World) R hR => type_calls s hs W R hR
  have cT2 := Lib.hid fun (W : World) R hR => reftype16_calls s hs W R hR
  generalize typeS s = X at *
  obtain ⟨⟨hh, ff⟩, e, z⟩ := X
  simp only at hl cT1 cT2
  replace hl := Lib.hid hl
  clear hbig
  go_enter Tryz.func6, Tryz.ntmps6
  go_wp2_with fail
  refine cT1.out _ _ (Lib.hid fun w1 nv pv n1 r1 => ?_)
  obtain ⟨A3, c3, rfl, -, -⟩ := r1.n.op
  obtain ⟨A4, c4, rfl, -⟩ := r1.p.sl
  replace r1 := RdY.kp (emp_un (Nat.le_refl _) fun _ _ _ => rfl) r1
  obtain ⟨o1_, ho1_⟩ : ∃ oO_ : Obj, oO_ = .cells #[.int .i64 hh.kind, .int .i64 hh.at_, .int .i64 hh.lo, .int .i64 hh.hi, .int .i64 hh.most, .slice A3 hh.names.length c3, .slice A4 ff.len c4, .string hh.name, .int .i64 hh.nat] 29 := ⟨_, rfl⟩
  have m1 := alB w1 o1_
  have hA := heap_alloc_new w1 o1_
  have zz : (w1.alloc o1_).heap.size = w1.heap.size + 1 := by simp
  have hB := heap_alloc_new (w1.alloc o1_) (.cells #[.int .i64 e, .int .i64 z] 35)
  subst ho1_
  rw [zz] at hB
  replace hA := obB (alB _ (.cells #[.int .i64 e, .int .i64 z] 35)) hA
  replace m1 := m1.alloc m1.size (.cells #[.int .i64 e, .int .i64 z] 35)
  replace r1 := r1.below m1
  replace n1 := n1.trans (m1.mono n1.size)
  clear m1 zz
  go_upto_region 4 with fail
  generalize (w1.alloc (.cells #[.int .i64 hh.kind, .int .i64 hh.at_, .int .i64 hh.lo, .int .i64 hh.hi, .int .i64 hh.most, .slice A3 hh.names.length c3, .slice A4 ff.len c4, .string hh.name, .int .i64 hh.nat] 29)).alloc (.cells #[.int .i64 e, .int .i64 z] 35) = V1 at *
  generalize w1.heap.size = P at *
  go_wp2_with fail
  refine cT2.out _ _ (Lib.hid fun w2 nv pv n2 r2 => ?_)
  obtain ⟨A5, c5, rfl, -, -⟩ := r2.n.op
  obtain ⟨A6, c6, rfl, -⟩ := r2.p.sl
  replace r2 := RdY.kp (emp_un (Nat.le_refl _) fun _ _ _ => rfl) r2
  replace r1 := r1.below n2
  replace hA := obB n2 hA
  replace hB := obB n2 hB
  replace n1 := n1.trans (n2.mono n1.size)
  clear n2
  obtain ⟨o2_, ho2_⟩ : ∃ oO_ : Obj, oO_ = .cells #[.int .i64 hh.kind, .int .i64 hh.at_, .int .i64 hh.lo, .int .i64 hh.hi, .int .i64 hh.most, .slice A5 hh.names.length c5, .slice A6 ff.len c6, .string hh.name, .int .i64 hh.nat] 29 := ⟨_, rfl⟩
  have m1 := alB w2 o2_
  have hC := heap_alloc_new w2 o2_
  have zz : (w2.alloc o2_).heap.size = w2.heap.size + 1 := by simp
  have hD := heap_alloc_new (w2.alloc o2_) (.cells #[.int .i64 e, .int .i64 z] 35)
  subst ho2_
  rw [zz] at hD
  replace hC := obB (alB _ (.cells #[.int .i64 e, .int .i64 z] 35)) hC
  replace m1 := m1.alloc m1.size (.cells #[.int .i64 e, .int .i64 z] 35)
  replace hA := obB m1 hA
  replace hB := obB m1 hB
  replace r1 := r1.below m1
  replace r2 := r2.below m1
  replace n1 := n1.trans (m1.mono n1.size)
  clear m1 zz
  go_upto_region 5 with fail
  generalize (w2.alloc (.cells #[.int .i64 hh.kind, .int .i64 hh.at_, .int .i64 hh.lo, .int .i64 hh.hi, .int .i64 hh.most, .slice A5 hh.names.length c5, .slice A6 ff.len c6, .string hh.name, .int .i64 hh.nat] 29)).alloc (.cells #[.int .i64 e, .int .i64 z] 35) = V2 at *
  generalize w2.heap.size = Q at *
  clear cT1 cT2
  have rA : V2.rangeAt P 0 [.int .i64 hh.kind, .int .i64 hh.at_, .int .i64 hh.lo, .int .i64 hh.hi, .int .i64 hh.most, .slice A3 hh.names.length c3, .slice A4 ff.len c4, .string hh.name, .int .i64 hh.nat] := fun j v e => by rw [Nat.zero_add, Lib.cell_of_heap hA]; simpa using e
  have rC : V2.rangeAt Q 0 [.int .i64 hh.kind, .int .i64 hh.at_, .int .i64 hh.lo, .int .i64 hh.hi, .int .i64 hh.most, .slice A5 hh.names.length c5, .slice A6 ff.len c6, .string hh.name, .int .i64 hh.nat] := fun j v e => by rw [Nat.zero_add, Lib.cell_of_heap hC]; simpa using e
  have cS := Lib.hid fun R hR => sameE_calls ff hh (.slice A3 hh.names.length c3) (.slice A4 ff.len c4) (.slice A5 hh.names.length c5) (.slice A6 ff.len c6) V2 hl.out.1 hl.out.2.1 hl.out.2.2 r1 r2 R hR
  clear r1 r2 hl
  go_wp2_with (first | (refine wpList_load_g (by rfl) 29 _ rfl P 0 rfl [.int .i64 hh.kind, .int .i64 hh.at_, .int .i64 hh.lo, .int .i64 hh.hi, .int .i64 hh.most, .slice A3 hh.names.length c3, .slice A4 ff.len c4, .string hh.name, .int .i64 hh.nat] _ rA Tryz.underlying29 rfl (by kernel_rfl) ?_; go_simp) | (refine wpList_load_g (by rfl) 29 _ rfl Q 0 rfl [.int .i64 hh.kind, .int .i64 hh.at_, .int .i64 hh.lo, .int .i64 hh.hi, .int .i64 hh.most, .slice A5 hh.names.length c5, .slice A6 ff.len c6, .string hh.name, .int .i64 hh.nat] _ rC Tryz.underlying29 rfl (by kernel_rfl) ?_; go_simp))
  refine cS.out _ (Lib.hid fun w4 n4 => ?_)
  replace hB := obB n4 hB
  replace hD := obB n4 hD
  replace n1 := n1.trans (n4.mono n1.size)
  have b0 := (Lib.cell_of_heap hB 0).trans rfl
  have b1 := (Lib.cell_of_heap hB 1).trans rfl
  have d0 := (Lib.cell_of_heap hD 0).trans rfl
  have d1 := (Lib.cell_of_heap hD 1).trans rfl
  clear cS n4 rA rC
  go_wp2_with fail
  refine lives16_calls _ _ (Lib.hid fun w5 n5 => ?_)
  have fin := Lib.hid (hR.out _ (n1.trans (n5.mono n1.size)))
  clear hR n5 n1 b0 b1 d0 d1
  go_wp2_with fail
  exact fin.out
end Go.Proofs.YtncijmodlhijoaaGreat.Syn
