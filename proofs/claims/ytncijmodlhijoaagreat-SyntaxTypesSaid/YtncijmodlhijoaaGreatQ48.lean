import Derived.Test.YtncijmodlhijoaaGreatQ45
set_option linter.unusedVariables false
set_option maxRecDepth 100000
set_option maxHeartbeats 4000000
namespace Go.Proofs.YtncijmodlhijoaaGreat.Syn
open Go.RowKit Go.Lib Utf Tok Cur Nam Lat Kin
theorem tagY_calls (k : Nat) (hk : TypQ k) (s : PS) (q p g : Nat) (w : World) (h : PsG w q p g (24 - (k : Int)) s) (hl : s.1.length ≤ 1000000) (hm : (mayS (nameS s).2 lpar).2 = true) (R : Ending → World → Prop)
  (hR : Hid (∀ w' g' lv cv nv pv, Nx w q p g (24 - (k : Int)) w' g' (tagC (typC k) s).2 → RdE (empW (lowS w.heap.size) w') (tagC (typC k) s).1 lv cv nv pv → R (.returned (prV (tagC (typC k) s).1 lv cv nv pv)) w')) : Calls Tryz.prog 229 #[ptV q] w R := by
 have lp := h.cur.lt
 have gn := gd_name s h.ok
 have hq : tagC (typC k) s = if (mayS (nameS s).2 lpar).2 = true then (((marksC (nP (nameS s).1) (markS (typC k (mayS (nameS s).2 lpar).1).2 rpar)).1, (typC k (mayS (nameS s).2 lpar).1).1), (marksC (nP (nameS s).1) (markS (typC k (mayS (nameS s).2 lpar).1).2 rpar)).2) else ((nB (nameS s).1, zTH, .nil), (mayS (nameS s).2 lpar).1) := rfl
 rw [hm, if_pos rfl] at hq
 rw [hq] at hR
 simp only at hR
 clear hq
 have n := (Nx.rfl' h).alloc (.cells #[.string ⟨#[]⟩, .int .i64 0, .bool false, .slice none 0 0, .int .i64 0, .int .i64 0, .int .i64 0, .int .i64 0, .slice none 0 0, .int .i64 0, .int .i64 0, .int .i64 0, .int .i64 0, .int .i64 0, .slice none 0 0, .slice none 0 0, .string ⟨#[]⟩, .int .i64 0] 92)
 have bR := Bx.new (Nx.rfl' h) #[.string ⟨#[]⟩, .int .i64 0, .bool false, .slice none 0 0, .int .i64 0, .int .i64 0, .int .i64 0, .int .i64 0, .slice none 0 0, .int .i64 0, .int .i64 0, .int .i64 0, .int .i64 0, .int .i64 0, .slice none 0 0, .slice none 0 0, .string ⟨#[]⟩, .int .i64 0] 92
 go_enter Tryz.func229, Tryz.ntmps229
 go_upto_region 1 with fail
 generalize w.alloc (.cells #[.string ⟨#[]⟩, .int .i64 0, .bool false, .slice none 0 0, .int .i64 0, .int .i64 0, .int .i64 0, .int .i64 0, .slice none 0 0, .int .i64 0, .int .i64 0, .int .i64 0, .int .i64 0, .int .i64 0, .slice none 0 0, .slice none 0 0, .string ⟨#[]⟩, .int .i64 0] 92) = V at *
 go_wp2_with fail
 refine nameK_calls s q p g _ V n.ps _ (Lib.hid fun w1 g1 n1 => ?_)
 replace bR := bR.nx n1 lp
 replace n := n.trans n1
 clear n1
 generalize (nameS s).2 = s1 at *
 generalize (nameS s).1 = x at *
 obtain ⟨x0, x1⟩ := x
 have lRC : w.heap.size < w1.heap.size := bR.lt
 have bC := Bx.new n #[.string x0, .int .i64 x1, .bool false, .slice none 0 0, .int .i64 0, .int .i64 0, .int .i64 0, .int .i64 0, .slice none 0 0, .int .i64 0, .int .i64 0, .int .i64 0, .int .i64 0, .int .i64 0, .slice none 0 0, .slice none 0 0, .string ⟨#[]⟩, .int .i64 0] 92
 obtain ⟨o1_, ho1_⟩ : ∃ oO_ : Obj, oO_ = .cells #[.string x0, .int .i64 x1, .bool false, .slice none 0 0, .int .i64 0, .int .i64 0, .int .i64 0, .int .i64 0, .slice none 0 0, .int .i64 0, .int .i64 0, .int .i64 0, .int .i64 0, .int .i64 0, .slice none 0 0, .slice none 0 0, .string ⟨#[]⟩, .int .i64 0] 92 := ⟨_, rfl⟩
 replace bR := bR.alloc o1_
 replace n := n.alloc o1_
 subst ho1_
 go_upto_region 2 with (refine wpList_copy #[.string x0, .int .i64 x1, .bool false, .slice none 0 0, .int .i64 0, .int .i64 0, .int .i64 0, .int .i64 0, .slice none 0 0, .int .i64 0, .int .i64 0, .int .i64 0, .int .i64 0, .int .i64 0, .slice none 0 0, .slice none 0 0, .string ⟨#[]⟩, .int .i64 0] ⟨rfl, rfl, rfl⟩ ⟨rfl, rfl, rfl⟩ part_alloc (by kernel_rfl) ⟨rfl, by simp [Value.oneCell']⟩ (fun _ => ⟨rfl, rfl⟩) ?_; go_simp)
 generalize w1.alloc (.cells #[.string x0, .int .i64 x1, .bool false, .slice none 0 0, .int .i64 0, .int .i64 0, .int .i64 0, .int .i64 0, .slice none 0 0, .int .i64 0, .int .i64 0, .int .i64 0, .int .i64 0, .int .i64 0, .slice none 0 0, .slice none 0 0, .string ⟨#[]⟩, .int .i64 0] 92) = V1 at *
 generalize w1.heap.size = C at *
 have b0 := n.ps.b0
 have gm := gd_may s1 lpar gn.1
 go_wp2_with fail
 refine may_calls s1 lpar q p g1 _ _ n.ps _ (Lib.hid fun w2 n2 => ?_)
 replace bR := bR.nx n2 lp
 replace bC := bC.nx n2 lp
 replace n := n.trans n2
 clear n2 b0
 rw [hm]
 clear hm
 generalize (mayS s1 lpar).1 = s2 at *
 have ok2 := n.ps.ok
 go_wp2_with fail
 refine hk s2 q p g1 _ n.ps (by omega) _ (Lib.hid fun w4 g4 nv pv n4 r4 => ?_)
 obtain ⟨A3, c3, rfl, -, -⟩ := r4.n.op
 obtain ⟨A4, c4, rfl, -⟩ := r4.p.sl
 have hsz := n.gr.size
 have lCV := bC.lt
 replace bR := bR.nx n4 lp
 replace bC := bC.nx n4 lp
 replace n := n.trans n4
 clear n4
 have gt := gd_typ k s2 (by assumption)
 generalize typC k s2 = X at *
 obtain ⟨⟨hh, ff⟩, s3⟩ := X
 simp only at *
 have y9 := (bC.c 9).trans rfl
 have yf9 := Lib.frozen_of_heap bC.at_ 9
 have y10 := (bC.c 10).trans rfl
 have yf10 := Lib.frozen_of_heap bC.at_ 10
 have y11 := (bC.c 11).trans rfl
 have yf11 := Lib.frozen_of_heap bC.at_ 11
 have y12 := (bC.c 12).trans rfl
 have yf12 := Lib.frozen_of_heap bC.at_ 12
 have y13 := (bC.c 13).trans rfl
 have yf13 := Lib.frozen_of_heap bC.at_ 13
 have y14 := (bC.c 14).trans rfl
 have yf14 := Lib.frozen_of_heap bC.at_ 14
 have y15 := (bC.c 15).trans rfl
 have yf15 := Lib.frozen_of_heap bC.at_ 15
 have y16 := (bC.c 16).trans rfl
 have yf16 := Lib.frozen_of_heap bC.at_ 16
 have y17 := (bC.c 17).trans rfl
 have yf17 := Lib.frozen_of_heap bC.at_ 17
 replace r4 := RdY.kp (kp_set (T := C) (b0 := C + 1) (by omega) (by omega) 9 (.int .i64 hh.kind)) r4
 replace r4 := RdY.kp (kp_set (T := C) (b0 := C + 1) (by omega) (by omega) 10 (.int .i64 hh.at_)) r4
 replace r4 := RdY.kp (kp_set (T := C) (b0 := C + 1) (by omega) (by omega) 11 (.int .i64 hh.lo)) r4
 replace r4 := RdY.kp (kp_set (T := C) (b0 := C + 1) (by omega) (by omega) 12 (.int .i64 hh.hi)) r4
 replace r4 := RdY.kp (kp_set (T := C) (b0 := C + 1) (by omega) (by omega) 13 (.int .i64 hh.most)) r4
 replace r4 := RdY.kp (kp_set (T := C) (b0 := C + 1) (by omega) (by omega) 14 (.slice A3 hh.names.length c3)) r4
 replace r4 := RdY.kp (kp_set (T := C) (b0 := C + 1) (by omega) (by omega) 15 (.slice A4 ff.len c4)) r4
 replace r4 := RdY.kp (kp_set (T := C) (b0 := C + 1) (by omega) (by omega) 16 (.string hh.name)) r4
 replace r4 := RdY.kp (kp_set (T := C) (b0 := C + 1) (by omega) (by omega) 17 (.int .i64 hh.nat)) r4
 replace n := n.setb bC h 9 (.int .i64 hh.kind)
 replace bR := bR.setn (by omega) 9 (.int .i64 hh.kind) (C := C)
 replace bC := bC.set 9 (.int .i64 hh.kind)
 replace n := n.setb bC h 10 (.int .i64 hh.at_)
 replace bR := bR.setn (by omega) 10 (.int .i64 hh.at_) (C := C)
 replace bC := bC.set 10 (.int .i64 hh.at_)
 replace n := n.setb bC h 11 (.int .i64 hh.lo)
 replace bR := bR.setn (by omega) 11 (.int .i64 hh.lo) (C := C)
 replace bC := bC.set 11 (.int .i64 hh.lo)
 replace n := n.setb bC h 12 (.int .i64 hh.hi)
 replace bR := bR.setn (by omega) 12 (.int .i64 hh.hi) (C := C)
 replace bC := bC.set 12 (.int .i64 hh.hi)
 replace n := n.setb bC h 13 (.int .i64 hh.most)
 replace bR := bR.setn (by omega) 13 (.int .i64 hh.most) (C := C)
 replace bC := bC.set 13 (.int .i64 hh.most)
 replace n := n.setb bC h 14 (.slice A3 hh.names.length c3)
 replace bR := bR.setn (by omega) 14 (.slice A3 hh.names.length c3) (C := C)
 replace bC := bC.set 14 (.slice A3 hh.names.length c3)
 replace n := n.setb bC h 15 (.slice A4 ff.len c4)
 replace bR := bR.setn (by omega) 15 (.slice A4 ff.len c4) (C := C)
 replace bC := bC.set 15 (.slice A4 ff.len c4)
 replace n := n.setb bC h 16 (.string hh.name)
 replace bR := bR.setn (by omega) 16 (.string hh.name) (C := C)
 replace bC := bC.set 16 (.string hh.name)
 replace n := n.setb bC h 17 (.int .i64 hh.nat)
 replace bR := bR.setn (by omega) 17 (.int .i64 hh.nat) (C := C)
 replace bC := bC.set 17 (.int .i64 hh.nat)
 simp only [List.setIfInBounds_toArray, List.set_cons_succ, List.set_cons_zero] at bC
 go_upto_region 6 with fail
 generalize ((((((((w4.setCell ⟨C, 9, none⟩ (.int .i64 hh.kind)).setCell ⟨C, 10, none⟩ (.int .i64 hh.at_)).setCell ⟨C, 11, none⟩ (.int .i64 hh.lo)).setCell ⟨C, 12, none⟩ (.int .i64 hh.hi)).setCell ⟨C, 13, none⟩ (.int .i64 hh.most)).setCell ⟨C, 14, none⟩ (.slice A3 hh.names.length c3)).setCell ⟨C, 15, none⟩ (.slice A4 ff.len c4)).setCell ⟨C, 16, none⟩ (.string hh.name)).setCell ⟨C, 17, none⟩ (.int .i64 hh.nat) = V4 at *
 clear y9 yf9 y10 yf10 y11 yf11 y12 yf12 y13 yf13 y14 yf14 y15 yf15 y16 yf16 y17 yf17
 have b0 := n.ps.b0
 have gr := gd_mark s3 rpar gt.1
 go_wp2_with fail
 refine need_calls s3 rpar q p g4 _ _ n.ps _ (Lib.hid fun w6 g6 o6 n6 => ?_)
 have lC6 := bC.lt
 replace r4 := RdY.kp (n6.kp (b := C + 1) (b0 := C + 1) (by omega) (Nat.le_refl _)) r4
 replace bR := bR.nx n6 lp
 replace bC := bC.nx n6 lp
 replace n := n.trans n6
 clear n6 b0
 generalize markS s3 rpar = s6 at *
 go_wp2_with fail
 refine marks_calls s6 q p g6 C _ _ _ _ _ _ _ _ _ _ _ _ (nP (x0, x1)) _ _ n.ps (by omega) bC.at_ ⟨by have := h.ql; have := bC.lo; omega, by omega, bC.ne⟩ _ (Lib.hid fun w8 g8 lv cv t8 e8 rl rc => ?_)
 have hsz2 := n.gr.size
 have lCW := bC.lt
 replace r4 := RdY.kp (t8.kp (b0 := C + 1) (by omega) (by omega) (by omega)) r4
 replace bR := bR.nt t8 (by omega) lp
 replace bC := bC.ntc t8 e8
 replace n := n.nt t8 bC.lo h
 clear t8 e8
 replace rl := rl.kp (kp_low (b0 := C + 1) (by omega))
 replace rc := rc.kp (kp_low (b0 := C + 1) (by omega))
 have e1 : x0 = (marksC (nP (x0, x1)) s6).1.name ∧ x1 = (marksC (nP (x0, x1)) s6).1.at_ ∧ false = (marksC (nP (x0, x1)) s6).1.bare := ⟨rfl, rfl, rfl⟩
 generalize marksC (nP (x0, x1)) s6 = Y at *
 obtain ⟨⟨y0, y1, y2, lb, wd, ck, cn, cat, cl⟩, s9⟩ := Y
 simp only at *
 obtain ⟨rfl, rfl, rfl⟩ := e1
 obtain ⟨A5, c5, rfl, -, -⟩ := rl.op
 obtain ⟨A6, c6, rfl, -, -⟩ := rc.op
 go_upto_region 8 with fail
 have rC : w8.rangeAt C 0 [.string x0, .int .i64 x1, .bool false, .slice A5 lb.length c5, .int .i64 wd, .int .i64 ck, .int .i64 cn, .int .i64 cat, .slice A6 cl.length c6, .int .i64 hh.kind, .int .i64 hh.at_, .int .i64 hh.lo, .int .i64 hh.hi, .int .i64 hh.most, .slice A3 hh.names.length c3, .slice A4 ff.len c4, .string hh.name, .int .i64 hh.nat] := fun j v e => by rw [Nat.zero_add, bC.c]; simpa using e
 have hRr := bR.at_
 have fin := Lib.hid (hR.out _ _ _ _ _ _ (n.row bR h #[.string x0, .int .i64 x1, .bool false, .slice A5 lb.length c5, .int .i64 wd, .int .i64 ck, .int .i64 cn, .int .i64 cat, .slice A6 cl.length c6, .int .i64 hh.kind, .int .i64 hh.at_, .int .i64 hh.lo, .int .i64 hh.hi, .int .i64 hh.most, .slice A3 hh.names.length c3, .slice A4 ff.len c4, .string hh.name, .int .i64 hh.nat]) (RdE.kp ⟨rl, rc, r4⟩ (kp_row (b0 := w.heap.size) (T := w.heap.size) (b := C + 1) (by omega) (by omega) #[.string x0, .int .i64 x1, .bool false, .slice A5 lb.length c5, .int .i64 wd, .int .i64 ck, .int .i64 cn, .int .i64 cat, .slice A6 cl.length c6, .int .i64 hh.kind, .int .i64 hh.at_, .int .i64 hh.lo, .int .i64 hh.hi, .int .i64 hh.most, .slice A3 hh.names.length c3, .slice A4 ff.len c4, .string hh.name, .int .i64 hh.nat])))
 have bF := bR.row #[.string x0, .int .i64 x1, .bool false, .slice A5 lb.length c5, .int .i64 wd, .int .i64 ck, .int .i64 cn, .int .i64 cat, .slice A6 cl.length c6, .int .i64 hh.kind, .int .i64 hh.at_, .int .i64 hh.lo, .int .i64 hh.hi, .int .i64 hh.most, .slice A3 hh.names.length c3, .slice A4 ff.len c4, .string hh.name, .int .i64 hh.nat]
 clear hR n h
 have x0_ := (bF.c 0).trans rfl
 have x1_ := (bF.c 1).trans rfl
 have x2_ := (bF.c 2).trans rfl
 have x3_ := (bF.c 3).trans rfl
 have x4_ := (bF.c 4).trans rfl
 have x5_ := (bF.c 5).trans rfl
 have x6_ := (bF.c 6).trans rfl
 have x7_ := (bF.c 7).trans rfl
 have x8_ := (bF.c 8).trans rfl
 have x9_ := (bF.c 9).trans rfl
 have x10_ := (bF.c 10).trans rfl
 have x11_ := (bF.c 11).trans rfl
 have x12_ := (bF.c 12).trans rfl
 have x13_ := (bF.c 13).trans rfl
 have x14_ := (bF.c 14).trans rfl
 have x15_ := (bF.c 15).trans rfl
 have x16_ := (bF.c 16).trans rfl
 have x17_ := (bF.c 17).trans rfl
 go_wp2_with (first | (refine wpList_load_g (by rfl) 92 _ rfl C 0 rfl [.string x0, .int .i64 x1, .bool false, .slice A5 lb.length c5, .int .i64 wd, .int .i64 ck, .int .i64 cn, .int .i64 cat, .slice A6 cl.length c6, .int .i64 hh.kind, .int .i64 hh.at_, .int .i64 hh.lo, .int .i64 hh.hi, .int .i64 hh.most, .slice A3 hh.names.length c3, .slice A4 ff.len c4, .string hh.name, .int .i64 hh.nat] _ rC Tryz.underlying92 rfl (by kernel_rfl) ?_; go_simp) | (refine wpList_store_row (by rfl) 92 _ _ (by rfl) w.heap.size #[.string x0, .int .i64 x1, .bool false, .slice A5 lb.length c5, .int .i64 wd, .int .i64 ck, .int .i64 cn, .int .i64 cat, .slice A6 cl.length c6, .int .i64 hh.kind, .int .i64 hh.at_, .int .i64 hh.lo, .int .i64 hh.hi, .int .i64 hh.most, .slice A3 hh.names.length c3, .slice A4 ff.len c4, .string hh.name, .int .i64 hh.nat] (by rfl) (by rfl) 92 _ hRr (by kernel_rfl) rfl (by simp [Value.oneCell']) ?_; go_simp))
 first | refine bodyPost_ret ?_ rfl fin.out | refine bodyPost_end ?_ rfl fin.out
 simp [results, Tryz.results229, go_sem, x0_, x1_, x2_, x3_, x4_, x5_, x6_, x7_, x8_, x9_, x10_, x11_, x12_, x13_, x14_, x15_, x16_, x17_]
theorem tagN_calls (k : Nat) (hk : TypQ k) (s : PS) (q p g : Nat) (w : World) (h : PsG w q p g (24 - (k : Int)) s) (hl : s.1.length ≤ 1000000) (hm : (mayS (nameS s).2 lpar).2 = false) (R : Ending → World → Prop)
  (hR : Hid (∀ w' g' lv cv nv pv, Nx w q p g (24 - (k : Int)) w' g' (tagC (typC k) s).2 → RdE (empW (lowS w.heap.size) w') (tagC (typC k) s).1 lv cv nv pv → R (.returned (prV (tagC (typC k) s).1 lv cv nv pv)) w')) : Calls Tryz.prog 229 #[ptV q] w R := by
 have lp := h.cur.lt
 have gn := gd_name s h.ok
 have hq : tagC (typC k) s = if (mayS (nameS s).2 lpar).2 = true then (((marksC (nP (nameS s).1) (markS (typC k (mayS (nameS s).2 lpar).1).2 rpar)).1, (typC k (mayS (nameS s).2 lpar).1).1), (marksC (nP (nameS s).1) (markS (typC k (mayS (nameS s).2 lpar).1).2 rpar)).2) else ((nB (nameS s).1, zTH, .nil), (mayS (nameS s).2 lpar).1) := rfl
 rw [hm, if_neg (by decide)] at hq
 rw [hq] at hR
 simp only at hR
 clear hq
 have n := (Nx.rfl' h).alloc (.cells #[.string ⟨#[]⟩, .int .i64 0, .bool false, .slice none 0 0, .int .i64 0, .int .i64 0, .int .i64 0, .int .i64 0, .slice none 0 0, .int .i64 0, .int .i64 0, .int .i64 0, .int .i64 0, .int .i64 0, .slice none 0 0, .slice none 0 0, .string ⟨#[]⟩, .int .i64 0] 92)
 have bR := Bx.new (Nx.rfl' h) #[.string ⟨#[]⟩, .int .i64 0, .bool false, .slice none 0 0, .int .i64 0, .int .i64 0, .int .i64 0, .int .i64 0, .slice none 0 0, .int .i64 0, .int .i64 0, .int .i64 0, .int .i64 0, .int .i64 0, .slice none 0 0, .slice none 0 0, .string ⟨#[]⟩, .int .i64 0] 92
 go_enter Tryz.func229, Tryz.ntmps229
 go_upto_region 1 with fail
 generalize w.alloc (.cells #[.string ⟨#[]⟩, .int .i64 0, .bool false, .slice none 0 0, .int .i64 0, .int .i64 0, .int .i64 0, .int .i64 0, .slice none 0 0, .int .i64 0, .int .i64 0, .int .i64 0, .int .i64 0, .int .i64 0, .slice none 0 0, .slice none 0 0, .string ⟨#[]⟩, .int .i64 0] 92) = V at *
 go_wp2_with fail
 refine nameK_calls s q p g _ V n.ps _ (Lib.hid fun w1 g1 n1 => ?_)
 replace bR := bR.nx n1 lp
 replace n := n.trans n1
 clear n1
 generalize (nameS s).2 = s1 at *
 generalize (nameS s).1 = x at *
 obtain ⟨x0, x1⟩ := x
 have lRC : w.heap.size < w1.heap.size := bR.lt
 have bC := Bx.new n #[.string x0, .int .i64 x1, .bool false, .slice none 0 0, .int .i64 0, .int .i64 0, .int .i64 0, .int .i64 0, .slice none 0 0, .int .i64 0, .int .i64 0, .int .i64 0, .int .i64 0, .int .i64 0, .slice none 0 0, .slice none 0 0, .string ⟨#[]⟩, .int .i64 0] 92
 obtain ⟨o1_, ho1_⟩ : ∃ oO_ : Obj, oO_ = .cells #[.string x0, .int .i64 x1, .bool false, .slice none 0 0, .int .i64 0, .int .i64 0, .int .i64 0, .int .i64 0, .slice none 0 0, .int .i64 0, .int .i64 0, .int .i64 0, .int .i64 0, .int .i64 0, .slice none 0 0, .slice none 0 0, .string ⟨#[]⟩, .int .i64 0] 92 := ⟨_, rfl⟩
 replace bR := bR.alloc o1_
 replace n := n.alloc o1_
 subst ho1_
 go_upto_region 2 with (refine wpList_copy #[.string x0, .int .i64 x1, .bool false, .slice none 0 0, .int .i64 0, .int .i64 0, .int .i64 0, .int .i64 0, .slice none 0 0, .int .i64 0, .int .i64 0, .int .i64 0, .int .i64 0, .int .i64 0, .slice none 0 0, .slice none 0 0, .string ⟨#[]⟩, .int .i64 0] ⟨rfl, rfl, rfl⟩ ⟨rfl, rfl, rfl⟩ part_alloc (by kernel_rfl) ⟨rfl, by simp [Value.oneCell']⟩ (fun _ => ⟨rfl, rfl⟩) ?_; go_simp)
 generalize w1.alloc (.cells #[.string x0, .int .i64 x1, .bool false, .slice none 0 0, .int .i64 0, .int .i64 0, .int .i64 0, .int .i64 0, .slice none 0 0, .int .i64 0, .int .i64 0, .int .i64 0, .int .i64 0, .int .i64 0, .slice none 0 0, .slice none 0 0, .string ⟨#[]⟩, .int .i64 0] 92) = V1 at *
 generalize w1.heap.size = C at *
 have b0 := n.ps.b0
 have gm := gd_may s1 lpar gn.1
 go_wp2_with fail
 refine may_calls s1 lpar q p g1 _ _ n.ps _ (Lib.hid fun w2 n2 => ?_)
 replace bR := bR.nx n2 lp
 replace bC := bC.nx n2 lp
 replace n := n.trans n2
 clear n2 b0
 rw [hm]
 clear hm
 generalize (mayS s1 lpar).1 = s2 at *
 have y2 := (bC.c 2).trans rfl
 have yf2 := Lib.frozen_of_heap bC.at_ 2
 replace n := n.setb bC h 2 (.bool true)
 replace bR := bR.setn (by omega) 2 (.bool true) (C := C)
 replace bC := bC.set 2 (.bool true)
 simp only [List.setIfInBounds_toArray, List.set_cons_succ, List.set_cons_zero] at bC
 go_upto_region 4 with fail
 generalize w2.setCell ⟨C, 2, none⟩ (.bool true) = V8 at *
 clear y2 yf2
 have rC : V8.rangeAt C 0 [.string x0, .int .i64 x1, .bool true, .slice none 0 0, .int .i64 0, .int .i64 0, .int .i64 0, .int .i64 0, .slice none 0 0, .int .i64 0, .int .i64 0, .int .i64 0, .int .i64 0, .int .i64 0, .slice none 0 0, .slice none 0 0, .string ⟨#[]⟩, .int .i64 0] := fun j v e => by rw [Nat.zero_add, bC.c]; simpa using e
 have hRr := bR.at_
 have fin := Lib.hid (hR.out _ _ _ _ _ _ (n.row bR h #[.string x0, .int .i64 x1, .bool true, .slice none 0 0, .int .i64 0, .int .i64 0, .int .i64 0, .int .i64 0, .slice none 0 0, .int .i64 0, .int .i64 0, .int .i64 0, .int .i64 0, .int .i64 0, .slice none 0 0, .slice none 0 0, .string ⟨#[]⟩, .int .i64 0]) ⟨RdW.none0 _, RdW.none0 _, ⟨RdW.none0 _, RdSl.nil _ none 0⟩⟩)
 have hv : prV (nB (x0, x1), zTH, Fo.nil) (.slice none 0 0) (.slice none 0 0) (.slice none 0 0) (.slice none 0 0) = .agg #[.string x0, .int .i64 x1, .bool true, .slice none 0 0, .int .i64 0, .int .i64 0, .int .i64 0, .int .i64 0, .slice none 0 0, .int .i64 0, .int .i64 0, .int .i64 0, .int .i64 0, .int .i64 0, .slice none 0 0, .slice none 0 0, .string ⟨#[]⟩, .int .i64 0] := rfl
 rw [hv] at fin
 clear hv
 have bF := bR.row #[.string x0, .int .i64 x1, .bool true, .slice none 0 0, .int .i64 0, .int .i64 0, .int .i64 0, .int .i64 0, .slice none 0 0, .int .i64 0, .int .i64 0, .int .i64 0, .int .i64 0, .int .i64 0, .slice none 0 0, .slice none 0 0, .string ⟨#[]⟩, .int .i64 0]
 clear hR n h
 have x0_ := (bF.c 0).trans rfl
 have x1_ := (bF.c 1).trans rfl
 have x2_ := (bF.c 2).trans rfl
 have x3_ := (bF.c 3).trans rfl
 have x4_ := (bF.c 4).trans rfl
 have x5_ := (bF.c 5).trans rfl
 have x6_ := (bF.c 6).trans rfl
 have x7_ := (bF.c 7).trans rfl
 have x8_ := (bF.c 8).trans rfl
 have x9_ := (bF.c 9).trans rfl
 have x10_ := (bF.c 10).trans rfl
 have x11_ := (bF.c 11).trans rfl
 have x12_ := (bF.c 12).trans rfl
 have x13_ := (bF.c 13).trans rfl
 have x14_ := (bF.c 14).trans rfl
 have x15_ := (bF.c 15).trans rfl
 have x16_ := (bF.c 16).trans rfl
 have x17_ := (bF.c 17).trans rfl
 go_wp2_with (first | (refine wpList_load_g (by rfl) 92 _ rfl C 0 rfl [.string x0, .int .i64 x1, .bool true, .slice none 0 0, .int .i64 0, .int .i64 0, .int .i64 0, .int .i64 0, .slice none 0 0, .int .i64 0, .int .i64 0, .int .i64 0, .int .i64 0, .int .i64 0, .slice none 0 0, .slice none 0 0, .string ⟨#[]⟩, .int .i64 0] _ rC Tryz.underlying92 rfl (by kernel_rfl) ?_; go_simp) | (refine wpList_store_row (by rfl) 92 _ _ (by rfl) w.heap.size #[.string x0, .int .i64 x1, .bool true, .slice none 0 0, .int .i64 0, .int .i64 0, .int .i64 0, .int .i64 0, .slice none 0 0, .int .i64 0, .int .i64 0, .int .i64 0, .int .i64 0, .int .i64 0, .slice none 0 0, .slice none 0 0, .string ⟨#[]⟩, .int .i64 0] (by rfl) (by rfl) 92 _ hRr (by kernel_rfl) rfl (by simp [Value.oneCell']) ?_; go_simp))
 first | refine bodyPost_ret ?_ rfl fin.out | refine bodyPost_end ?_ rfl fin.out
 simp [results, Tryz.results229, go_sem, x0_, x1_, x2_, x3_, x4_, x5_, x6_, x7_, x8_, x9_, x10_, x11_, x12_, x13_, x14_, x15_, x16_, x17_]
theorem tagK_calls (k : Nat) (hk : TypQ k) (s : PS) (q p g : Nat) (w : World) (h : PsG w q p g (24 - (k : Int)) s) (hl : s.1.length ≤ 1000000) (R : Ending → World → Prop)
  (hR : Hid (∀ w' g' lv cv nv pv, Nx w q p g (24 - (k : Int)) w' g' (tagC (typC k) s).2 → RdE (empW (lowS w.heap.size) w') (tagC (typC k) s).1 lv cv nv pv → R (.returned (prV (tagC (typC k) s).1 lv cv nv pv)) w')) : Calls Tryz.prog 229 #[ptV q] w R := by
 cases hm : (mayS (nameS s).2 lpar).2
 ·exact tagN_calls k hk s q p g w h hl hm R hR
 ·exact tagY_calls k hk s q p g w h hl hm R hR
end Go.Proofs.YtncijmodlhijoaaGreat.Syn
