import Derived.Test.YtncijmodlhijoaaGreatQ49
set_option linter.unusedVariables false
set_option maxRecDepth 100000
set_option maxHeartbeats 4000000
namespace Go.Proofs.YtncijmodlhijoaaGreat.Syn
open Go.RowKit Go.Lib Utf Tok Cur Nam Lat Kin
theorem Nx.trans2 {w w' w'' : World} {q p g g' g'' : Nat} {d d' : Int} {s' s'' : PS} (a : Nx w q p g d w' g' s') (b : Nx w' q p g' d' w'' g'' s'') : Nx w q p g d' w'' g'' s'' :=
 ⟨by have := a.gr.size; rcases b.g with rfl | h; exact a.g; exact .inr (Nat.le_trans this h), b.ps, Cur.grow_tr a.gr b.gr⟩
theorem Nx.nt2 {w V V' : World} {q p g0 g g' C : Nat} {d d0 d' : Int} {s s0 s' : PS} (n : Nx w q p g0 d' V g s) (nt : Nt C V q p g d V' g' s') (hC : w.heap.size ≤ C) (h : PsG w q p g0 d0 s0) : Nx w q p g0 d V' g' s' := by
 have l := n.gr.size
 refine ⟨?_, nt.ps, ((Ch.gr (T := (· = p)) n.gr rfl).trans nt.ch fun k hk e => ?_).one⟩
 ·rcases nt.g with rfl | e
  ·exact n.g
  ·exact .inr (Nat.le_trans l e)
 ·rcases e with e | e
  ·exact e
  ·omega
theorem enterY_calls (s : PS) (q p g : Nat) (d : Int) (w : World) (h : PsG w q p g d s) (hd : 0 ≤ d ∧ d < 24) (R : Ending → World → Prop) (hR : Hid (∀ w' g', Nx w q p g (d + 1) w' g' s → R (.returned (.bool true)) w')) : Calls Tryz.prog 133 #[ptV p] w R :=
 cqenter_calls (cu d s) p g w h.cur ⟨hd.1, Int.le_of_lt hd.2⟩ R (Lib.hid fun w' g' hg c gr => by
  have e : enterS (cu d s) = cu (d + 1) s := if_pos hd.2
  rw [e] at c
  rw [decide_eq_true (show (cu d s).2.1 < 24 from hd.2)]
  exact hR.out w' g' ⟨hg, h.next c gr, gr⟩)
theorem enterN_calls (s : PS) (q p g : Nat) (w : World) (h : PsG w q p g 24 s) (R : Ending → World → Prop) (hR : Hid (∀ w' g', Nx w q p g 24 w' g' (failP s 6) → R (.returned (.bool false)) w')) : Calls Tryz.prog 133 #[ptV p] w R :=
 cqenter_calls (cu 24 s) p g w h.cur ⟨(show (0 : Int) ≤ 24 by decide), Int.le_refl _⟩ R (Lib.hid fun w' g' hg c gr => by
  have e : enterS (cu 24 s) = cu 24 (failP s 6) := by
   unfold enterS
   rw [if_neg (show ¬ ((24 : Int) < 24) by decide), cu_fail (by decide)]
  rw [e] at c
  rw [decide_eq_false (show ¬ (cu 24 s).2.1 < 24 from (show ¬ ((24 : Int) < 24) by decide))]
  exact hR.out w' g' ⟨hg, h.next c gr, gr⟩)
theorem leaveK_calls (s : PS) (q p g : Nat) (d : Int) (w : World) (h : PsG w q p g (d + 1) s) (hd : 0 ≤ d ∧ d < 24) (R : Ending → World → Prop) (hR : Hid (∀ w', Nx w q p g d w' g s → R (.returned (.tuple #[])) w')) : Calls Tryz.prog 136 #[ptV p] w R :=
 cqleave_calls (cu (d + 1) s) p g w h.cur ⟨by show (0 : Int) ≤ d + 1; omega, by show d + 1 ≤ (24 : Int); omega⟩ R (Lib.hid fun w' c gr => by
  have e : leaveS (cu (d + 1) s) = cu d s := by
   unfold leaveS
   rw [if_pos (show (0 : Int) < d + 1 by omega)]
   show (s.1, d + 1 - 1, s.2) = cu d s
   rw [Int.add_sub_cancel]
  rw [e] at c
  exact hR.out w' ⟨.inl rfl, h.next c gr, gr⟩)
theorem typ_zero : TypQ 0 := by
 intro s q p g w h hl R hR
 have lp := h.cur.lt
 have hq : typC 0 s = ((hKA 0 (pkS s).2.1, .nil), failP s 6) := rfl
 rw [hq] at hR
 clear hq
 have n := (Nx.rfl' h).alloc (.cells #[.int .i64 0, .int .i64 0, .int .i64 0, .int .i64 0, .int .i64 0, .slice none 0 0, .slice none 0 0, .string ⟨#[]⟩, .int .i64 0] 29)
 have bR := Bx.new (Nx.rfl' h) #[.int .i64 0, .int .i64 0, .int .i64 0, .int .i64 0, .int .i64 0, .slice none 0 0, .slice none 0 0, .string ⟨#[]⟩, .int .i64 0] 29
 go_enter Tryz.func66, Tryz.ntmps66
 go_upto_region 1 with fail
 generalize w.alloc (.cells #[.int .i64 0, .int .i64 0, .int .i64 0, .int .i64 0, .int .i64 0, .slice none 0 0, .slice none 0 0, .string ⟨#[]⟩, .int .i64 0] 29) = V at *
 have b0 := n.ps.b0
 go_wp2_with fail
 refine pk_calls s q p g _ V n.ps _ (Lib.hid fun w1 n1 m1 => ?_)
 replace bR := bR.nx n1 lp
 replace n := n.trans n1
 clear n1 m1 b0
 have hn1 := fun w => run_field1 (pkS s).1 (pkS s).2.1 (pkS s).2.2.1 (pkS s).2.2.2.1 (pkS s).2.2.2.2 w
 simp only [tkV]
 generalize (pkS s).2.1 = at0 at *
 have lRC : w.heap.size < w1.heap.size := bR.lt
 have bC := Bx.new n #[.int .i64 0, .int .i64 at0, .int .i64 0, .int .i64 0, .int .i64 0, .slice none 0 0, .slice none 0 0, .string ⟨#[]⟩, .int .i64 0] 29
 obtain ⟨o1_, ho1_⟩ : ∃ oO_ : Obj, oO_ = .cells #[.int .i64 0, .int .i64 at0, .int .i64 0, .int .i64 0, .int .i64 0, .slice none 0 0, .slice none 0 0, .string ⟨#[]⟩, .int .i64 0] 29 := ⟨_, rfl⟩
 replace bR := bR.alloc o1_
 replace n := n.alloc o1_
 subst ho1_
 go_upto_region 2 with fail
 clear hn1
 generalize w1.alloc (.cells #[.int .i64 0, .int .i64 at0, .int .i64 0, .int .i64 0, .int .i64 0, .slice none 0 0, .slice none 0 0, .string ⟨#[]⟩, .int .i64 0] 29) = V1 at *
 generalize w1.heap.size = C at *
 have e24 : (24 - ((0 : Nat) : Int)) = 24 := rfl
 rw [e24] at n hR h
 have b0 := n.ps.b0
 go_wp2_with fail
 refine enterN_calls s q p g _ n.ps _ (Lib.hid fun w2 g2 n2 => ?_)
 replace bR := bR.nx n2 lp
 replace bC := bC.nx n2 lp
 replace n := n.trans n2
 clear n2 b0
 go_upto_region 6 with fail
 have rC : w2.rangeAt C 0 [.int .i64 0, .int .i64 at0, .int .i64 0, .int .i64 0, .int .i64 0, .slice none 0 0, .slice none 0 0, .string ⟨#[]⟩, .int .i64 0] := fun j v e => by rw [Nat.zero_add, bC.c]; simpa using e
 have hRr := bR.at_
 have fin := Lib.hid (hR.out _ _ _ _ (n.row bR h #[.int .i64 0, .int .i64 at0, .int .i64 0, .int .i64 0, .int .i64 0, .slice none 0 0, .slice none 0 0, .string ⟨#[]⟩, .int .i64 0]) (RdY.kp (kp_row (b0 := w.heap.size) (T := w.heap.size) (b := C + 1) (by omega) (by omega) #[.int .i64 0, .int .i64 at0, .int .i64 0, .int .i64 0, .int .i64 0, .slice none 0 0, .slice none 0 0, .string ⟨#[]⟩, .int .i64 0]) (show RdY (empW (lowS (C + 1)) w2) (hKA 0 at0) .nil (.slice none 0 0) (.slice none 0 0) from ⟨RdW.none0 _, RdSl.nil _ none 0⟩)))
 have bF := bR.row #[.int .i64 0, .int .i64 at0, .int .i64 0, .int .i64 0, .int .i64 0, .slice none 0 0, .slice none 0 0, .string ⟨#[]⟩, .int .i64 0]
 clear hR n h
 have x0_ := (bF.c 0).trans rfl
 have x1_ := (bF.c 1).trans rfl
 have x2_ := (bF.c 2).trans rfl
 have x3_ := (bF.c 3).trans rfl
 have x4_ := (bF.c 4).trans rfl
 have x5_ := (bF.c 5).trans rfl
 have x6_ := (bF.c 6).trans rfl
 have x7_ := (bF.c 7).trans rfl
 have x8_ := (bF.c 8).trans rfl
 go_wp2_with (first | (refine wpList_load_g (by rfl) 29 _ rfl C 0 rfl [.int .i64 0, .int .i64 at0, .int .i64 0, .int .i64 0, .int .i64 0, .slice none 0 0, .slice none 0 0, .string ⟨#[]⟩, .int .i64 0] _ rC Tryz.underlying29 rfl (by kernel_rfl) ?_; go_simp) | (refine wpList_store_row (by rfl) 29 _ _ (by rfl) w.heap.size #[.int .i64 0, .int .i64 at0, .int .i64 0, .int .i64 0, .int .i64 0, .slice none 0 0, .slice none 0 0, .string ⟨#[]⟩, .int .i64 0] (by rfl) (by rfl) 29 _ hRr (by kernel_rfl) rfl (by simp [Value.oneCell']) ?_; go_simp))
 first | refine bodyPost_ret ?_ rfl fin.out | refine bodyPost_end ?_ rfl fin.out
 simp [results, Tryz.results66, go_sem, x0_, x1_, x2_, x3_, x4_, x5_, x6_, x7_, x8_]
 repeat' apply And.intro
 all_goals rfl
theorem typ_step (k : Nat) (h24 : k < 24) (hk : TypQ k) : TypQ (k + 1) := by
 intro s q p g w h hl R hR
 have lp := h.cur.lt
 have hq : typC (k + 1) s = contC (typC k) (hKA (kindC s).1 (pkS s).2.1) (kindC s).2 := rfl
 rw [hq] at hR
 clear hq
 have n := (Nx.rfl' h).alloc (.cells #[.int .i64 0, .int .i64 0, .int .i64 0, .int .i64 0, .int .i64 0, .slice none 0 0, .slice none 0 0, .string ⟨#[]⟩, .int .i64 0] 29)
 have bR := Bx.new (Nx.rfl' h) #[.int .i64 0, .int .i64 0, .int .i64 0, .int .i64 0, .int .i64 0, .slice none 0 0, .slice none 0 0, .string ⟨#[]⟩, .int .i64 0] 29
 go_enter Tryz.func66, Tryz.ntmps66
 go_upto_region 1 with fail
 generalize w.alloc (.cells #[.int .i64 0, .int .i64 0, .int .i64 0, .int .i64 0, .int .i64 0, .slice none 0 0, .slice none 0 0, .string ⟨#[]⟩, .int .i64 0] 29) = V at *
 have b0 := n.ps.b0
 go_wp2_with fail
 refine pk_calls s q p g _ V n.ps _ (Lib.hid fun w1 n1 m1 => ?_)
 replace bR := bR.nx n1 lp
 replace n := n.trans n1
 clear n1 m1 b0
 have hn1 := fun w => run_field1 (pkS s).1 (pkS s).2.1 (pkS s).2.2.1 (pkS s).2.2.2.1 (pkS s).2.2.2.2 w
 simp only [tkV]
 generalize (pkS s).2.1 = at0 at *
 have lRC : w.heap.size < w1.heap.size := bR.lt
 have bC := Bx.new n #[.int .i64 0, .int .i64 at0, .int .i64 0, .int .i64 0, .int .i64 0, .slice none 0 0, .slice none 0 0, .string ⟨#[]⟩, .int .i64 0] 29
 obtain ⟨o2_, ho2_⟩ : ∃ oO_ : Obj, oO_ = .cells #[.int .i64 0, .int .i64 at0, .int .i64 0, .int .i64 0, .int .i64 0, .slice none 0 0, .slice none 0 0, .string ⟨#[]⟩, .int .i64 0] 29 := ⟨_, rfl⟩
 replace bR := bR.alloc o2_
 replace n := n.alloc o2_
 subst ho2_
 go_upto_region 2 with fail
 clear hn1
 generalize w1.alloc (.cells #[.int .i64 0, .int .i64 at0, .int .i64 0, .int .i64 0, .int .i64 0, .slice none 0 0, .slice none 0 0, .string ⟨#[]⟩, .int .i64 0] 29) = V1 at *
 generalize w1.heap.size = C at *
 have ed : (24 - ((k + 1 : Nat) : Int)) + 1 = 24 - (k : Int) := by omega
 have d0 : 0 ≤ (24 - ((k + 1 : Nat) : Int)) ∧ (24 - ((k + 1 : Nat) : Int)) < 24 := by omega
 have gk := gd_kind s h.ok
 have cL := fun (s' : PS) (g' : Nat) (W : World) (ps : PsG W q p g' (24 - (k : Int)) s') => Lib.hid fun R hR => leaveK_calls s' q p g' (24 - ((k + 1 : Nat) : Int)) W (by rw [ed]; exact ps) d0 R hR
 have b0 := n.ps.b0
 go_wp2_with fail
 refine enterY_calls s q p g _ _ n.ps d0 _ (Lib.hid fun w2 g2 n2 => ?_)
 rw [ed] at n2
 replace bR := bR.nx n2 lp
 replace bC := bC.nx n2 lp
 replace n := n.trans2 n2
 clear n2 b0
 go_wp2_with fail
 refine kind_calls s q p g2 _ _ n.ps _ (Lib.hid fun w3 g3 n3 => ?_)
 replace bR := bR.nx n3 lp
 replace bC := bC.nx n3 lp
 replace n := n.trans n3
 clear n3
 have y0 := (bC.c 0).trans rfl
 have yf0 := Lib.frozen_of_heap bC.at_ 0
 replace n := n.setb bC h 0 (.int .i64 (kindC s).1)
 replace bR := bR.setn (by omega) 0 (.int .i64 (kindC s).1) (C := C)
 replace bC := bC.set 0 (.int .i64 (kindC s).1)
 simp only [List.setIfInBounds_toArray, List.set_cons_succ, List.set_cons_zero] at bC
 go_upto_region 4 with fail
 generalize w3.setCell ⟨C, 0, none⟩ (.int .i64 (kindC s).1) = V3 at *
 clear y0 yf0
 go_wp2_with fail
 refine content_calls k hk (kindC s).1 at0 (kindC s).2 q p g3 C V3 n.ps (by omega) bC.at_ ⟨by have := h.ql; have := bC.lo; omega, by omega, bC.ne⟩ _ (Lib.hid fun w4 g4 nv pv t4 e4 r4 => ?_)
 have lCV := bC.lt
 obtain ⟨A3, c3, rfl, -, -⟩ := r4.n.op
 obtain ⟨A4, c4, rfl, -⟩ := r4.p.sl
 replace bR := bR.nt t4 (by omega) lp
 replace bC := bC.ntc t4 e4
 replace n := n.nt2 t4 bC.lo h
 clear t4 e4
 generalize contC (typC k) (hKA (kindC s).1 at0) (kindC s).2 = X at *
 obtain ⟨⟨hh, ff⟩, s3⟩ := X
 simp only at *
 replace r4 := RdY.kp (kp_low (b0 := C + 1) (by omega)) r4
 have c5 := cL s3 g4 w4 n.ps
 have b0 := n.ps.b0
 go_wp2_with fail
 refine c5.out _ (Lib.hid fun w5 n5 => ?_)
 have lC4 := bC.lt
 replace r4 := RdY.kp (Nx.kp (b := C + 1) (b0 := C + 1) n5 (by omega) (Nat.le_refl _)) r4
 replace bR := bR.nx n5 lp
 replace bC := bC.nx n5 lp
 replace n := n.trans2 n5
 clear n5 b0 cL c5
 go_upto_region 6 with fail
 have rC : w5.rangeAt C 0 [.int .i64 hh.kind, .int .i64 hh.at_, .int .i64 hh.lo, .int .i64 hh.hi, .int .i64 hh.most, .slice A3 hh.names.length c3, .slice A4 ff.len c4, .string hh.name, .int .i64 hh.nat] := fun j v e => by rw [Nat.zero_add, bC.c]; simpa using e
 have hRr := bR.at_
 have fin := Lib.hid (hR.out _ _ _ _ (n.row bR h #[.int .i64 hh.kind, .int .i64 hh.at_, .int .i64 hh.lo, .int .i64 hh.hi, .int .i64 hh.most, .slice A3 hh.names.length c3, .slice A4 ff.len c4, .string hh.name, .int .i64 hh.nat]) (RdY.kp (kp_row (b0 := w.heap.size) (T := w.heap.size) (b := C + 1) (by omega) (by omega) #[.int .i64 hh.kind, .int .i64 hh.at_, .int .i64 hh.lo, .int .i64 hh.hi, .int .i64 hh.most, .slice A3 hh.names.length c3, .slice A4 ff.len c4, .string hh.name, .int .i64 hh.nat]) r4))
 have bF := bR.row #[.int .i64 hh.kind, .int .i64 hh.at_, .int .i64 hh.lo, .int .i64 hh.hi, .int .i64 hh.most, .slice A3 hh.names.length c3, .slice A4 ff.len c4, .string hh.name, .int .i64 hh.nat]
 clear hR n h
 have x0_ := (bF.c 0).trans rfl
 have x1_ := (bF.c 1).trans rfl
 have x2_ := (bF.c 2).trans rfl
 have x3_ := (bF.c 3).trans rfl
 have x4_ := (bF.c 4).trans rfl
 have x5_ := (bF.c 5).trans rfl
 have x6_ := (bF.c 6).trans rfl
 have x7_ := (bF.c 7).trans rfl
 have x8_ := (bF.c 8).trans rfl
 go_wp2_with (first | (refine wpList_load_g (by rfl) 29 _ rfl C 0 rfl [.int .i64 hh.kind, .int .i64 hh.at_, .int .i64 hh.lo, .int .i64 hh.hi, .int .i64 hh.most, .slice A3 hh.names.length c3, .slice A4 ff.len c4, .string hh.name, .int .i64 hh.nat] _ rC Tryz.underlying29 rfl (by kernel_rfl) ?_; go_simp) | (refine wpList_store_row (by rfl) 29 _ _ (by rfl) w.heap.size #[.int .i64 hh.kind, .int .i64 hh.at_, .int .i64 hh.lo, .int .i64 hh.hi, .int .i64 hh.most, .slice A3 hh.names.length c3, .slice A4 ff.len c4, .string hh.name, .int .i64 hh.nat] (by rfl) (by rfl) 29 _ hRr (by kernel_rfl) rfl (by simp [Value.oneCell']) ?_; go_simp))
 first | refine bodyPost_ret ?_ rfl fin.out | refine bodyPost_end ?_ rfl fin.out
 simp [results, Tryz.results66, go_sem, x0_, x1_, x2_, x3_, x4_, x5_, x6_, x7_, x8_]
theorem typ_all : ∀ n, n ≤ 24 → TypQ n
 | 0, _ => typ_zero
 | n + 1, h => typ_step n (by omega) (typ_all n (by omega))
theorem any_calls (s : PS) (q p g : Nat) (w : World) (h : PsG w q p g 0 s) (hl : s.1.length ≤ 1000000) (R : Ending → World → Prop)
  (hR : Hid (∀ w' g' nv pv, Nx w q p g 0 w' g' (typC 24 s).2 → RdY (empW (lowS w.heap.size) w') (typC 24 s).1.1 (typC 24 s).1.2 nv pv → R (.returned (tyV (typC 24 s).1.1 nv pv)) w')) : Calls Tryz.prog 66 #[ptV q] w R :=
 typ_all 24 (Nat.le_refl _) s q p g w h hl R hR
end Go.Proofs.YtncijmodlhijoaaGreat.Syn
