import Derived.Test.YthelhplcijhioaaGreatG20
import Derived.Test.YthelhplcijhioaaGreatG14
import Derived.Test.YthelhplcijhioaaGreatG17
/- Layer 16, the code: anyType. -/
set_option maxRecDepth 100000
set_option linter.unusedVariables false
namespace Go.Proofs.YthelhplcijhioaaGreat.Syn
open Go.RowKit Go.Lib Go.Proofs.YthelhplcijhioaaGreat.Utf Go.Proofs.YthelhplcijhioaaGreat.Tok Go.Proofs.YthelhplcijhioaaGreat.Cur Go.Proofs.YthelhplcijhioaaGreat.Nam Go.Proofs.YthelhplcijhioaaGreat.Lat Go.Proofs.YthelhplcijhioaaGreat.Kin

theorem Nx.trans2 {w w' w'' : World} {q p g g' g'' : Nat} {d d' : Int} {s' s'' : PS} (a : Nx w q p g d w' g' s') (b : Nx w' q p g' d' w'' g'' s'') : Nx w q p g d' w'' g'' s'' :=
  ⟨by have := a.gr.size; rcases b.g with rfl | h; exact a.g; exact .inr (Nat.le_trans this h), b.ps, Cur.grow_tr a.gr b.gr⟩
theorem Nx.nt2 {w V V' : World} {q p g0 g g' C : Nat} {d d0 d' : Int} {s s0 s' : PS} (n : Nx w q p g0 d' V g s) (nt : Nt C V q p g d V' g' s') (hC : w.heap.size ≤ C) (h : PsG w q p g0 d0 s0) : Nx w q p g0 d V' g' s' := by
  have l := n.gr.size
  refine ⟨?_, nt.ps, ((Ch.gr (T := (· = p)) n.gr rfl).trans nt.ch fun k hk e => ?_).one⟩
  · rcases nt.g with rfl | e
    · exact n.g
    · exact .inr (Nat.le_trans l e)
  · rcases e with e | e
    · exact e
    · omega
theorem enterY_calls (s : PS) (q p g : Nat) (d : Int) (w : World) (h : PsG w q p g d s) (hd : 0 ≤ d ∧ d < 24) (R : Ending → World → Prop) (hR : Hid (∀ w' g', Nx w q p g (d + 1) w' g' s → R (.returned (.bool true)) w')) : Calls Tryz.prog 53 #[ptV p] w R :=
  cqenter_calls (cu d s) p g w h.cur ⟨hd.1, Int.le_of_lt hd.2⟩ R (Lib.hid fun w' g' hg c gr => by
    have e : enterS (cu d s) = cu (d + 1) s := if_pos hd.2
    rw [e] at c
    rw [decide_eq_true (show (cu d s).2.1 < 24 from hd.2)]
    exact hR.out w' g' ⟨hg, h.next c gr, gr⟩)
theorem enterN_calls (s : PS) (q p g : Nat) (w : World) (h : PsG w q p g 24 s) (R : Ending → World → Prop) (hR : Hid (∀ w' g', Nx w q p g 24 w' g' (failP s 6) → R (.returned (.bool false)) w')) : Calls Tryz.prog 53 #[ptV p] w R :=
  cqenter_calls (cu 24 s) p g w h.cur ⟨(show (0 : Int) ≤ 24 by decide), Int.le_refl _⟩ R (Lib.hid fun w' g' hg c gr => by
    have e : enterS (cu 24 s) = cu 24 (failP s 6) := by
      unfold enterS
      rw [if_neg (show ¬ ((24 : Int) < 24) by decide), cu_fail (by decide)]
    rw [e] at c
    rw [decide_eq_false (show ¬ (cu 24 s).2.1 < 24 from (show ¬ ((24 : Int) < 24) by decide))]
    exact hR.out w' g' ⟨hg, h.next c gr, gr⟩)
theorem leaveK_calls (s : PS) (q p g : Nat) (d : Int) (w : World) (h : PsG w q p g (d + 1) s) (hd : 0 ≤ d ∧ d < 24) (R : Ending → World → Prop) (hR : Hid (∀ w', Nx w q p g d w' g s → R (.returned (.tuple #[])) w')) : Calls Tryz.prog 56 #[ptV p] w R :=
  cqleave_calls (cu (d + 1) s) p g w h.cur ⟨by show (0 : Int) ≤ d + 1; omega, by show d + 1 ≤ (24 : Int); omega⟩ R (Lib.hid fun w' c gr => by
    have e : leaveS (cu (d + 1) s) = cu d s := by
      unfold leaveS
      rw [if_pos (show (0 : Int) < d + 1 by omega)]
      show (s.1, d + 1 - 1, s.2) = cu d s
      rw [Int.add_sub_cancel]
    rw [e] at c
    exact hR.out w' ⟨.inl rfl, h.next c gr, gr⟩)
set_option maxRecDepth 100000 in
set_option maxHeartbeats 2000000 in
theorem typ_zero : TypQ 0 := by
  intro s q p g w h hl R hR
  have lp := h.cur.lt
  have hq : typC 0 s = ((hKA 0 (pkS s).2.1, .nil), failP s 6) := rfl
  rw [hq] at hR
  clear hq
  have n := (Nx.rfl' h).alloc (.cells #[.int .i64 0, .int .i64 0, .int .i64 0, .int .i64 0, .int .i64 0, .slice none 0 0, .slice none 0 0, .string ⟨#[]⟩, .int .i64 0] 30)
  have bR := Bx.new (Nx.rfl' h) #[.int .i64 0, .int .i64 0, .int .i64 0, .int .i64 0, .int .i64 0, .slice none 0 0, .slice none 0 0, .string ⟨#[]⟩, .int .i64 0] 30
  go_enter Tryz.func23, Tryz.ntmps23
  go_upto_region 1 with fail
  generalize w.alloc (.cells #[.int .i64 0, .int .i64 0, .int .i64 0, .int .i64 0, .int .i64 0, .slice none 0 0, .slice none 0 0, .string ⟨#[]⟩, .int .i64 0] 30) = V at *
  have b0 := n.ps.b0
  go_wp2_with fail
  refine pk_calls s q p g _ V n.ps _ (Lib.hid fun w1 n1 m1 => ?_)
  replace bR := bR.nx n1 lp
  replace n := n.trans n1
  clear n1 m1 b0
  have hn1 := fun w => run_field1 (pkS s).1 (pkS s).2.1 (pkS s).2.2.1 (pkS s).2.2.2.1 (pkS s).2.2.2.2 w
  simp only [tkV]
  generalize (pkS s).2.1 = at0 at *
  have lRC : w.heap.size < w1.heap.size := bR.lt
  have bC := Bx.new n #[.int .i64 0, .int .i64 at0, .int .i64 0, .int .i64 0, .int .i64 0, .slice none 0 0, .slice none 0 0, .string ⟨#[]⟩, .int .i64 0] 30
  replace bR := bR.alloc (.cells #[.int .i64 0, .int .i64 at0, .int .i64 0, .int .i64 0, .int .i64 0, .slice none 0 0, .slice none 0 0, .string ⟨#[]⟩, .int .i64 0] 30)
  replace n := n.alloc (.cells #[.int .i64 0, .int .i64 at0, .int .i64 0, .int .i64 0, .int .i64 0, .slice none 0 0, .slice none 0 0, .string ⟨#[]⟩, .int .i64 0] 30)
  go_upto_region 2 with fail
  clear hn1
  generalize w1.alloc (.cells #[.int .i64 0, .int .i64 at0, .int .i64 0, .int .i64 0, .int .i64 0, .slice none 0 0, .slice none 0 0, .string ⟨#[]⟩, .int .i64 0] 30) = V1 at *
  generalize w1.heap.size = C at *
  have e24 : (24 - ((0 : Nat) : Int)) = 24 := rfl
  rw [e24] at n hR h
  have b0 := n.ps.b0
  go_wp2_with fail
  refine enterN_calls s q p g _ n.ps _ (Lib.hid fun w2 g2 n2 => ?_)
  replace bR := bR.nx n2 lp
  replace bC := bC.nx n2 lp
  replace n := n.trans n2
  clear n2 b0
  go_upto_region 6 with fail
  have rC : w2.rangeAt C 0 [.int .i64 0, .int .i64 at0, .int .i64 0, .int .i64 0, .int .i64 0, .slice none 0 0, .slice none 0 0, .string ⟨#[]⟩, .int .i64 0] := fun j v e => by rw [Nat.zero_add, bC.c]; simpa using e
  have hRr := bR.at_
  have fin := Lib.hid (hR.out _ _ _ _ (n.row bR h #[.int .i64 0, .int .i64 at0, .int .i64 0, .int .i64 0, .int .i64 0, .slice none 0 0, .slice none 0 0, .string ⟨#[]⟩, .int .i64 0]) (RdY.kp (kp_row (b0 := w.heap.size) (T := w.heap.size) (b := C + 1) (by omega) (by omega) #[.int .i64 0, .int .i64 at0, .int .i64 0, .int .i64 0, .int .i64 0, .slice none 0 0, .slice none 0 0, .string ⟨#[]⟩, .int .i64 0]) (show RdY (empW (lowS (C + 1)) w2) (hKA 0 at0) .nil (.slice none 0 0) (.slice none 0 0) from ⟨RdW.none0 _, RdSl.nil _ none 0⟩)))
  have bF := bR.row #[.int .i64 0, .int .i64 at0, .int .i64 0, .int .i64 0, .int .i64 0, .slice none 0 0, .slice none 0 0, .string ⟨#[]⟩, .int .i64 0]
  clear hR n h
  have x0_ := (bF.c 0).trans rfl
  have x1_ := (bF.c 1).trans rfl
  have x2_ := (bF.c 2).trans rfl
  have x3_ := (bF.c 3).trans rfl
  have x4_ := (bF.c 4).trans rfl
  have x5_ := (bF.c 5).trans rfl
  have x6_ := (bF.c 6).trans rfl
  have x7_ := (bF.c 7).trans rfl
  have x8_ := (bF.c 8).trans rfl
  go_wp2_with (first | (refine wpList_load_g (by rfl) 30 _ rfl C 0 rfl [.int .i64 0, .int .i64 at0, .int .i64 0, .int .i64 0, .int .i64 0, .slice none 0 0, .slice none 0 0, .string ⟨#[]⟩, .int .i64 0] _ rC Tryz.underlying30 rfl (by kernel_rfl) ?_; go_simp) | (refine wpList_store_row (by rfl) 30 _ _ (by rfl) w.heap.size #[.int .i64 0, .int .i64 at0, .int .i64 0, .int .i64 0, .int .i64 0, .slice none 0 0, .slice none 0 0, .string ⟨#[]⟩, .int .i64 0] (by rfl) (by rfl) 30 _ hRr (by kernel_rfl) rfl (by simp [Value.oneCell']) ?_; go_simp))
  first | refine bodyPost_ret ?_ rfl fin.out | refine bodyPost_end ?_ rfl fin.out
  simp [results, Tryz.results23, go_sem, x0_, x1_, x2_, x3_, x4_, x5_, x6_, x7_, x8_]
  repeat' apply And.intro
  all_goals rfl
set_option maxRecDepth 100000 in
set_option maxHeartbeats 2000000 in
theorem typ_step (k : Nat) (h24 : k < 24) (hk : TypQ k) : TypQ (k + 1) := by
  intro s q p g w h hl R hR
  have lp := h.cur.lt
  have hq : typC (k + 1) s = contC (typC k) (hKA (kindC s).1 (pkS s).2.1) (kindC s).2 := rfl
  rw [hq] at hR
  clear hq
  have n := (Nx.rfl' h).alloc (.cells #[.int .i64 0, .int .i64 0, .int .i64 0, .int .i64 0, .int .i64 0, .slice none 0 0, .slice none 0 0, .string ⟨#[]⟩, .int .i64 0] 30)
  have bR := Bx.new (Nx.rfl' h) #[.int .i64 0, .int .i64 0, .int .i64 0, .int .i64 0, .int .i64 0, .slice none 0 0, .slice none 0 0, .string ⟨#[]⟩, .int .i64 0] 30
  go_enter Tryz.func23, Tryz.ntmps23
  go_upto_region 1 with fail
  generalize w.alloc (.cells #[.int .i64 0, .int .i64 0, .int .i64 0, .int .i64 0, .int .i64 0, .slice none 0 0, .slice none 0 0, .string ⟨#[]⟩, .int .i64 0] 30) = V at *
  have b0 := n.ps.b0
  go_wp2_with fail
  refine pk_calls s q p g _ V n.ps _ (Lib.hid fun w1 n1 m1 => ?_)
  replace bR := bR.nx n1 lp
  replace n := n.trans n1
  clear n1 m1 b0
  have hn1 := fun w => run_field1 (pkS s).1 (pkS s).2.1 (pkS s).2.2.1 (pkS s).2.2.2.1 (pkS s).2.2.2.2 w
  simp only [tkV]
  generalize (pkS s).2.1 = at0 at *
  have lRC : w.heap.size < w1.heap.size := bR.lt
  have bC := Bx.new n #[.int .i64 0, .int .i64 at0, .int .i64 0, .int .i64 0, .int .i64 0, .slice none 0 0, .slice none 0 0, .string ⟨#[]⟩, .int .i64 0] 30
  replace bR := bR.alloc (.cells #[.int .i64 0, .int .i64 at0, .int .i64 0, .int .i64 0, .int .i64 0, .slice none 0 0, .slice none 0 0, .string ⟨#[]⟩, .int .i64 0] 30)
  replace n := n.alloc (.cells #[.int .i64 0, .int .i64 at0, .int .i64 0, .int .i64 0, .int .i64 0, .slice none 0 0, .slice none 0 0, .string ⟨#[]⟩, .int .i64 0] 30)
  go_upto_region 2 with fail
  clear hn1
  generalize w1.alloc (.cells #[.int .i64 0, .int .i64 at0, .int .i64 0, .int .i64 0, .int .i64 0, .slice none 0 0, .slice none 0 0, .string ⟨#[]⟩, .int .i64 0] 30) = V1 at *
  generalize w1.heap.size = C at *
  have ed : (24 - ((k + 1 : Nat) : Int)) + 1 = 24 - (k : Int) := by omega
  have d0 : 0 ≤ (24 - ((k + 1 : Nat) : Int)) ∧ (24 - ((k + 1 : Nat) : Int)) < 24 := by omega
  have gk := gd_kind s h.ok
  have cL := fun (s' : PS) (g' : Nat) (W : World) (ps : PsG W q p g' (24 - (k : Int)) s') => Lib.hid fun R hR => leaveK_calls s' q p g' (24 - ((k + 1 : Nat) : Int)) W (by rw [ed]; exact ps) d0 R hR
  have b0 := n.ps.b0
  go_wp2_with fail
  refine enterY_calls s q p g _ _ n.ps d0 _ (Lib.hid fun w2 g2 n2 => ?_)
  rw [ed] at n2
  replace bR := bR.nx n2 lp
  replace bC := bC.nx n2 lp
  replace n := n.trans2 n2
  clear n2 b0
  go_wp2_with fail
  refine kind_calls s q p g2 _ _ n.ps _ (Lib.hid fun w3 g3 n3 => ?_)
  replace bR := bR.nx n3 lp
  replace bC := bC.nx n3 lp
  replace n := n.trans n3
  clear n3
  have y0 := (bC.c 0).trans rfl
  have yf0 := Lib.frozen_of_heap bC.at_ 0
  replace n := n.setb bC h 0 (.int .i64 (kindC s).1)
  replace bR := bR.setn (by omega) 0 (.int .i64 (kindC s).1) (C := C)
  replace bC := bC.set 0 (.int .i64 (kindC s).1)
  simp only [List.setIfInBounds_toArray, List.set_cons_succ, List.set_cons_zero] at bC
  go_upto_region 4 with fail
  generalize w3.setCell ⟨C, 0, none⟩ (.int .i64 (kindC s).1) = V3 at *
  clear y0 yf0
  go_wp2_with fail
  refine content_calls k hk (kindC s).1 at0 (kindC s).2 q p g3 C V3 n.ps (by omega) bC.at_ ⟨by have := h.ql; have := bC.lo; omega, by omega, bC.ne⟩ _ (Lib.hid fun w4 g4 nv pv t4 e4 r4 => ?_)
  have lCV := bC.lt
  obtain ⟨A3, c3, rfl, -, -⟩ := r4.n.op
  obtain ⟨A4, c4, rfl, -⟩ := r4.p.sl
  replace bR := bR.nt t4 (by omega) lp
  replace bC := bC.ntc t4 e4
  replace n := n.nt2 t4 bC.lo h
  clear t4 e4
  generalize contC (typC k) (hKA (kindC s).1 at0) (kindC s).2 = X at *
  obtain ⟨⟨hh, ff⟩, s3⟩ := X
  simp only at *
  replace r4 := RdY.kp (kp_low (b0 := C + 1) (by omega)) r4
  have c5 := cL s3 g4 w4 n.ps
  have b0 := n.ps.b0
  go_wp2_with fail
  refine c5.out _ (Lib.hid fun w5 n5 => ?_)
  have lC4 := bC.lt
  replace r4 := RdY.kp (Nx.kp (b := C + 1) (b0 := C + 1) n5 (by omega) (Nat.le_refl _)) r4
  replace bR := bR.nx n5 lp
  replace bC := bC.nx n5 lp
  replace n := n.trans2 n5
  clear n5 b0 cL c5
  go_upto_region 6 with fail
  have rC : w5.rangeAt C 0 [.int .i64 hh.kind, .int .i64 hh.at_, .int .i64 hh.lo, .int .i64 hh.hi, .int .i64 hh.most, .slice A3 hh.names.length c3, .slice A4 ff.len c4, .string hh.name, .int .i64 hh.nat] := fun j v e => by rw [Nat.zero_add, bC.c]; simpa using e
  have hRr := bR.at_
  have fin := Lib.hid (hR.out _ _ _ _ (n.row bR h #[.int .i64 hh.kind, .int .i64 hh.at_, .int .i64 hh.lo, .int .i64 hh.hi, .int .i64 hh.most, .slice A3 hh.names.length c3, .slice A4 ff.len c4, .string hh.name, .int .i64 hh.nat]) (RdY.kp (kp_row (b0 := w.heap.size) (T := w.heap.size) (b := C + 1) (by omega) (by omega) #[.int .i64 hh.kind, .int .i64 hh.at_, .int .i64 hh.lo, .int .i64 hh.hi, .int .i64 hh.most, .slice A3 hh.names.length c3, .slice A4 ff.len c4, .string hh.name, .int .i64 hh.nat]) r4))
  have bF := bR.row #[.int .i64 hh.kind, .int .i64 hh.at_, .int .i64 hh.lo, .int .i64 hh.hi, .int .i64 hh.most, .slice A3 hh.names.length c3, .slice A4 ff.len c4, .string hh.name, .int .i64 hh.nat]
  clear hR n h
  have x0_ := (bF.c 0).trans rfl
  have x1_ := (bF.c 1).trans rfl
  have x2_ := (bF.c 2).trans rfl
  have x3_ := (bF.c 3).trans rfl
  have x4_ := (bF.c 4).trans rfl
  have x5_ := (bF.c 5).trans rfl
  have x6_ := (bF.c 6).trans rfl
  have x7_ := (bF.c 7).trans rfl
  have x8_ := (bF.c 8).trans rfl
  go_wp2_with (first | (refine wpList_load_g (by rfl) 30 _ rfl C 0 rfl [.int .i64 hh.kind, .int .i64 hh.at_, .int .i64 hh.lo, .int .i64 hh.hi, .int .i64 hh.most, .slice A3 hh.names.length c3, .slice A4 ff.len c4, .string hh.name, .int .i64 hh.nat] _ rC Tryz.underlying30 rfl (by kernel_rfl) ?_; go_simp) | (refine wpList_store_row (by rfl) 30 _ _ (by rfl) w.heap.size #[.int .i64 hh.kind, .int .i64 hh.at_, .int .i64 hh.lo, .int .i64 hh.hi, .int .i64 hh.most, .slice A3 hh.names.length c3, .slice A4 ff.len c4, .string hh.name, .int .i64 hh.nat] (by rfl) (by rfl) 30 _ hRr (by kernel_rfl) rfl (by simp [Value.oneCell']) ?_; go_simp))
  first | refine bodyPost_ret ?_ rfl fin.out | refine bodyPost_end ?_ rfl fin.out
  simp [results, Tryz.results23, go_sem, x0_, x1_, x2_, x3_, x4_, x5_, x6_, x7_, x8_]
theorem typ_all : ∀ n, n ≤ 24 → TypQ n
  | 0, _ => typ_zero
  | n + 1, h => typ_step n (by omega) (typ_all n (by omega))
theorem any_calls (s : PS) (q p g : Nat) (w : World) (h : PsG w q p g 0 s) (hl : s.1.length ≤ 1000000) (R : Ending → World → Prop)
    (hR : Hid (∀ w' g' nv pv, Nx w q p g 0 w' g' (typC 24 s).2 → RdY (empW (lowS w.heap.size) w') (typC 24 s).1.1 (typC 24 s).1.2 nv pv → R (.returned (tyV (typC 24 s).1.1 nv pv)) w')) : Calls Tryz.prog 23 #[ptV q] w R :=
  typ_all 24 (Nat.le_refl _) s q p g w h hl R hR
end Go.Proofs.YthelhplcijhioaaGreat.Syn

/- Layer 16, the code: whole, Type. -/
set_option maxRecDepth 100000
set_option linter.unusedVariables false
namespace Go.Proofs.YthelhplcijhioaaGreat.Syn
open Go.RowKit Go.Lib Go.Proofs.YthelhplcijhioaaGreat.Utf Go.Proofs.YthelhplcijhioaaGreat.Tok Go.Proofs.YthelhplcijhioaaGreat.Cur Go.Proofs.YthelhplcijhioaaGreat.Nam Go.Proofs.YthelhplcijhioaaGreat.Lat Go.Proofs.YthelhplcijhioaaGreat.Kin

theorem gw_setp {W W' : World} {p q o : Nat} (h : ∃ x : GW W p q, W' = x.w) (a : Value) : ∃ x : GW W p q, W'.setCell ⟨p, o, none⟩ a = x.w := by
  obtain ⟨⟨W', s, bl⟩, rfl⟩ := h
  exact ⟨⟨_, Nat.le_trans s ((Below.refl p W').setCell (p := ⟨p, o, none⟩) (Nat.le_refl _) a).size, fun k hk h1 h2 => (Below.heap_setCell _ ⟨p, o, none⟩ a k h1).trans (bl k hk h1 h2)⟩, rfl⟩
theorem isF_any : IsF 23 := by
  intro args w
  unfold callFunc
  simp [go_sem, Tryz.func23]
  rfl
theorem Nx.zero {w : World} {q p g0 g : Nat} {d : Int} {V : World} {s : PS} (n : Nx w q p g0 d V g s) : w.heap.size ≤ V.heap.size := n.gr.size
set_option maxRecDepth 100000 in
set_option maxHeartbeats 2000000 in
theorem wholeT_calls (s : PS) (q p g : Nat) (w : World) (h : PsG w q p g 0 s) (hl : s.1.length ≤ 1000000) (R : Ending → World → Prop)
    (hR1 : Hid (∀ w' g', Nx w q p g 0 w' g' (wholeC (typC 24 s).2) → (wholeC (typC 24 s).2).2.1 ≠ 0 → R (.returned (.tuple #[tyV zTH (.slice none 0 0) (.slice none 0 0), .agg #[.int .i64 (wholeC (typC 24 s).2).2.1, .int .i64 (wholeC (typC 24 s).2).2.2]])) w'))
    (hR2 : Hid (∀ w' g' nv pv, Nx w q p g 0 w' g' (wholeC (typC 24 s).2) → (wholeC (typC 24 s).2).2.1 = 0 → RdY (empW (lowS w.heap.size) w') (typC 24 s).1.1 (typC 24 s).1.2 nv pv → R (.returned (.tuple #[tyV (typC 24 s).1.1 nv pv, .agg #[.int .i64 0, .int .i64 0]])) w')) : Calls Tryz.prog 22 #[ptV q, .func (.func 23) #[ptV q] #[]] w R := by
  have lp := h.cur.lt
  have hF := isF_any
  unfold IsF at hF
  have n := Nx.rfl' h
  have bR := Bx.new n #[.int .i64 0, .int .i64 0, .int .i64 0, .int .i64 0, .int .i64 0, .slice none 0 0, .slice none 0 0, .string ⟨#[]⟩, .int .i64 0] 30
  replace n := n.alloc (.cells #[.int .i64 0, .int .i64 0, .int .i64 0, .int .i64 0, .int .i64 0, .slice none 0 0, .slice none 0 0, .string ⟨#[]⟩, .int .i64 0] 30)
  have zR : (w.alloc (.cells #[.int .i64 0, .int .i64 0, .int .i64 0, .int .i64 0, .int .i64 0, .slice none 0 0, .slice none 0 0, .string ⟨#[]⟩, .int .i64 0] 30)).heap.size = w.heap.size + 1 := by simp
  have bF := Bx.new n #[.int .i64 0, .int .i64 0] 35
  replace bR := bR.alloc (.cells #[.int .i64 0, .int .i64 0] 35)
  replace n := n.alloc (.cells #[.int .i64 0, .int .i64 0] 35)
  rw [zR] at bF
  clear zR
  go_enter Tryz.func22, Tryz.ntmps22
  go_upto_region 1 with fail
  generalize (w.alloc (.cells #[.int .i64 0, .int .i64 0, .int .i64 0, .int .i64 0, .int .i64 0, .slice none 0 0, .slice none 0 0, .string ⟨#[]⟩, .int .i64 0] 30)).alloc (.cells #[.int .i64 0, .int .i64 0] 35) = V at *
  go_wp2_with fail
  refine any_calls s q p g V n.ps hl _ (Lib.hid fun w1 g1 nv pv n1 r1 => ?_)
  have lV := n.gr.size
  have lFV := bF.lt
  have gt := gd_typ 24 s h.ok
  obtain ⟨A3, c3, rfl, -, -⟩ := r1.n.op
  obtain ⟨A4, c4, rfl, -⟩ := r1.p.sl
  replace bR := bR.nx n1 lp
  replace bF := bF.nx n1 lp
  replace n := n.trans n1
  clear n1
  generalize typC 24 s = X at *
  obtain ⟨⟨hh, ff⟩, s1⟩ := X
  simp only at *
  have lC0 := bF.lt
  replace r1 := RdY.kp (kp_low (b0 := w.heap.size + 2) (by omega)) r1
  have bC := Bx.new n #[.int .i64 hh.kind, .int .i64 hh.at_, .int .i64 hh.lo, .int .i64 hh.hi, .int .i64 hh.most, .slice A3 hh.names.length c3, .slice A4 ff.len c4, .string hh.name, .int .i64 hh.nat] 30
  replace bR := bR.alloc (.cells #[.int .i64 hh.kind, .int .i64 hh.at_, .int .i64 hh.lo, .int .i64 hh.hi, .int .i64 hh.most, .slice A3 hh.names.length c3, .slice A4 ff.len c4, .string hh.name, .int .i64 hh.nat] 30)
  replace bF := bF.alloc (.cells #[.int .i64 hh.kind, .int .i64 hh.at_, .int .i64 hh.lo, .int .i64 hh.hi, .int .i64 hh.most, .slice A3 hh.names.length c3, .slice A4 ff.len c4, .string hh.name, .int .i64 hh.nat] 30)
  replace n := n.alloc (.cells #[.int .i64 hh.kind, .int .i64 hh.at_, .int .i64 hh.lo, .int .i64 hh.hi, .int .i64 hh.most, .slice A3 hh.names.length c3, .slice A4 ff.len c4, .string hh.name, .int .i64 hh.nat] 30)
  replace r1 := RdY.kp (emp_kp (S := lowS (w.heap.size + 2)) (S' := lowS (w.heap.size + 2)) (by simp) fun k hk nk => ⟨nk, ((Below.refl _ w1).alloc (Nat.le_refl _) (.cells #[.int .i64 hh.kind, .int .i64 hh.at_, .int .i64 hh.lo, .int .i64 hh.hi, .int .i64 hh.most, .slice A3 hh.names.length c3, .slice A4 ff.len c4, .string hh.name, .int .i64 hh.nat] 30)).block k hk⟩) r1
  go_upto_region 2 with fail
  generalize w1.alloc (.cells #[.int .i64 hh.kind, .int .i64 hh.at_, .int .i64 hh.lo, .int .i64 hh.hi, .int .i64 hh.most, .slice A3 hh.names.length c3, .slice A4 ff.len c4, .string hh.name, .int .i64 hh.nat] 30) = V1 at *
  generalize w1.heap.size = C at *
  have b0 := n.ps.b0
  go_wp2_with fail
  refine pk_calls s1 q p g1 _ V1 n.ps _ (Lib.hid fun w2 n2 m2 => ?_)
  replace r1 := RdY.kp (Nx.kp (b := w.heap.size + 2) (b0 := w.heap.size + 2) n2 (by omega) (Nat.le_refl _)) r1
  replace bR := bR.nx n2 lp
  replace bF := bF.nx n2 lp
  replace bC := bC.nx n2 lp
  replace n := n.trans n2
  clear n2 m2 b0
  have hw : wholeC s1 = if (pkS s1).1 ≠ 0 then wrongS s1 else s1 := rfl
  have hf0 := fun w => run_field0 (pkS s1).1 (pkS s1).2.1 (pkS s1).2.2.1 (pkS s1).2.2.2.1 (pkS s1).2.2.2.2 w
  simp only [tkV]
  generalize (pkS s1).1 = t0 at *
  by_cases h0 : t0 ≠ 0
  · rw [if_pos h0] at hw
    have q0 : (t0 != 0) = true := by simpa using h0
    clear h0
    rw [hw] at hR1 hR2
    clear hw
    go_wp2_with fail
    refine refuse_calls s1 q p g1 _ _ n.ps _ (Lib.hid fun w3 g3 n3 => ?_)
    replace r1 := RdY.kp (Nx.kp (b := w.heap.size + 2) (b0 := w.heap.size + 2) n3 (by omega) (Nat.le_refl _)) r1
    replace bR := bR.nx n3 lp
    replace bF := bF.nx n3 lp
    replace bC := bC.nx n3 lp
    replace n := n.trans n3
    clear n3 hf0
    generalize wrongS s1 = s2 at *
    have b0 := n.ps.b0
    go_wp2_with fail
    refine fault_calls (cu 0 s2) p g3 w3 n.ps.cur _ (Lib.hid fun w5 m5 => ?_)
    have n5 := n.ps.same m5
    replace r1 := RdY.kp (Nx.kp (b := w.heap.size + 2) (b0 := w.heap.size + 2) n5 (by omega) (Nat.le_refl _)) r1
    replace bR := bR.nx n5 lp
    replace bF := bF.nx n5 lp
    replace bC := bC.nx n5 lp
    replace n := n.trans n5
    clear n5 m5 b0
    have lG0 := bC.lt
    have bG := Bx.new n #[.int .i64 s2.2.1, .int .i64 s2.2.2] 35
    replace bR := bR.alloc (.cells #[.int .i64 s2.2.1, .int .i64 s2.2.2] 35)
    replace bF := bF.alloc (.cells #[.int .i64 s2.2.1, .int .i64 s2.2.2] 35)
    replace bC := bC.alloc (.cells #[.int .i64 s2.2.1, .int .i64 s2.2.2] 35)
    replace n := n.alloc (.cells #[.int .i64 s2.2.1, .int .i64 s2.2.2] 35)
    replace r1 := RdY.kp (emp_kp (S := lowS (w.heap.size + 2)) (S' := lowS (w.heap.size + 2)) (by simp) fun k hk nk => ⟨nk, ((Below.refl _ w5).alloc (Nat.le_refl _) (.cells #[.int .i64 s2.2.1, .int .i64 s2.2.2] 35)).block k hk⟩) r1
    go_upto_region 5 with fail
    generalize w5.alloc (.cells #[.int .i64 s2.2.1, .int .i64 s2.2.2] 35) = V5 at *
    generalize w5.heap.size = G at *
    have f0 := (bG.c 0).trans rfl
    by_cases he : s2.2.1 = 0
    · have q1 : (s2.2.1 != 0) = false := by simpa using he
      clear hR1
      have rC : V5.rangeAt C 0 [.int .i64 hh.kind, .int .i64 hh.at_, .int .i64 hh.lo, .int .i64 hh.hi, .int .i64 hh.most, .slice A3 hh.names.length c3, .slice A4 ff.len c4, .string hh.name, .int .i64 hh.nat] := fun j v e => by rw [Nat.zero_add, bC.c]; simpa using e
      have hRr := bR.at_
      have oC := bC.lo
      have e8 := bC.ne
      have hCF : C ≠ w.heap.size + 1 := by omega
      have n9 := n.row bR h #[.int .i64 hh.kind, .int .i64 hh.at_, .int .i64 hh.lo, .int .i64 hh.hi, .int .i64 hh.most, .slice A3 hh.names.length c3, .slice A4 ff.len c4, .string hh.name, .int .i64 hh.nat]
      have bR9 := bR.row #[.int .i64 hh.kind, .int .i64 hh.at_, .int .i64 hh.lo, .int .i64 hh.hi, .int .i64 hh.most, .slice A3 hh.names.length c3, .slice A4 ff.len c4, .string hh.name, .int .i64 hh.nat]
      have bF9 : Bx w (V5.setRow w.heap.size #[.int .i64 hh.kind, .int .i64 hh.at_, .int .i64 hh.lo, .int .i64 hh.hi, .int .i64 hh.most, .slice A3 hh.names.length c3, .slice A4 ff.len c4, .string hh.name, .int .i64 hh.nat]) p g3 (w.heap.size + 1) _ _ := ⟨(setRow_other _ _ _ _ (by omega)).trans bF.at_, bF.lo, bF.ne⟩
      have r9 := RdY.kp (kp_row (b0 := w.heap.size + 2) (T := w.heap.size) (b := w.heap.size + 2) (by omega) (Nat.le_refl _) #[.int .i64 hh.kind, .int .i64 hh.at_, .int .i64 hh.lo, .int .i64 hh.hi, .int .i64 hh.most, .slice A3 hh.names.length c3, .slice A4 ff.len c4, .string hh.name, .int .i64 hh.nat]) r1
      have z0 := (bF9.c 0).trans rfl
      have zf0 := Lib.frozen_of_heap bF9.at_ 0
      have z1 := (bF9.c 1).trans rfl
      have zf1 := Lib.frozen_of_heap bF9.at_ 1
      have fin := Lib.hid (hR2.out _ _ _ _ ((n9.setb bF9 h 0 (.int .i64 0)).setb (bF9.set 0 _) h 1 (.int .i64 0)) he (RdY.kp (kp_set (T := w.heap.size + 1) (b := w.heap.size + 2) (b0 := w.heap.size) (by omega) (by omega) 1 (.int .i64 0)) (RdY.kp (kp_set (T := w.heap.size + 1) (b := w.heap.size + 2) (b0 := w.heap.size + 2) (by omega) (by omega) 0 (.int .i64 0)) r9)))
      have x0 := ((bR9.setn (by omega) 0 (.int .i64 0) (C := w.heap.size + 1)).setn (by omega) 1 (.int .i64 0) (C := w.heap.size + 1)).c 0 |>.trans rfl
      have x1 := ((bR9.setn (by omega) 0 (.int .i64 0) (C := w.heap.size + 1)).setn (by omega) 1 (.int .i64 0) (C := w.heap.size + 1)).c 1 |>.trans rfl
      have x2 := ((bR9.setn (by omega) 0 (.int .i64 0) (C := w.heap.size + 1)).setn (by omega) 1 (.int .i64 0) (C := w.heap.size + 1)).c 2 |>.trans rfl
      have x3 := ((bR9.setn (by omega) 0 (.int .i64 0) (C := w.heap.size + 1)).setn (by omega) 1 (.int .i64 0) (C := w.heap.size + 1)).c 3 |>.trans rfl
      have x4 := ((bR9.setn (by omega) 0 (.int .i64 0) (C := w.heap.size + 1)).setn (by omega) 1 (.int .i64 0) (C := w.heap.size + 1)).c 4 |>.trans rfl
      have x5 := ((bR9.setn (by omega) 0 (.int .i64 0) (C := w.heap.size + 1)).setn (by omega) 1 (.int .i64 0) (C := w.heap.size + 1)).c 5 |>.trans rfl
      have x6 := ((bR9.setn (by omega) 0 (.int .i64 0) (C := w.heap.size + 1)).setn (by omega) 1 (.int .i64 0) (C := w.heap.size + 1)).c 6 |>.trans rfl
      have x7 := ((bR9.setn (by omega) 0 (.int .i64 0) (C := w.heap.size + 1)).setn (by omega) 1 (.int .i64 0) (C := w.heap.size + 1)).c 7 |>.trans rfl
      have x8 := ((bR9.setn (by omega) 0 (.int .i64 0) (C := w.heap.size + 1)).setn (by omega) 1 (.int .i64 0) (C := w.heap.size + 1)).c 8 |>.trans rfl
      clear hR2 n n9 r1 r9
      go_wp2_with (first | (refine wpList_load_g (by rfl) 30 _ rfl C 0 rfl [.int .i64 hh.kind, .int .i64 hh.at_, .int .i64 hh.lo, .int .i64 hh.hi, .int .i64 hh.most, .slice A3 hh.names.length c3, .slice A4 ff.len c4, .string hh.name, .int .i64 hh.nat] _ rC Tryz.underlying30 rfl (by kernel_rfl) ?_; go_simp) | (refine wpList_store_row (by rfl) 30 _ _ (by rfl) w.heap.size #[.int .i64 hh.kind, .int .i64 hh.at_, .int .i64 hh.lo, .int .i64 hh.hi, .int .i64 hh.most, .slice A3 hh.names.length c3, .slice A4 ff.len c4, .string hh.name, .int .i64 hh.nat] (by rfl) (by rfl) 30 _ hRr (by kernel_rfl) rfl (by simp [Value.oneCell']) ?_; go_simp))
      first | refine bodyPost_ret ?_ rfl fin.out | refine bodyPost_end ?_ rfl fin.out
      simp [results, Tryz.results22, go_sem, z0, z1, x0, x1, x2, x3, x4, x5, x6, x7, x8]
    · have q1 : (s2.2.1 != 0) = true := by simpa using he
      have hNG : G < V5.heap.size := bG.lt
      have bN := Bx.new n #[.int .i64 0, .int .i64 0, .int .i64 0, .int .i64 0, .int .i64 0, .slice none 0 0, .slice none 0 0, .string ⟨#[]⟩, .int .i64 0] 30
      replace bR := bR.alloc (.cells #[.int .i64 0, .int .i64 0, .int .i64 0, .int .i64 0, .int .i64 0, .slice none 0 0, .slice none 0 0, .string ⟨#[]⟩, .int .i64 0] 30)
      replace bF := bF.alloc (.cells #[.int .i64 0, .int .i64 0, .int .i64 0, .int .i64 0, .int .i64 0, .slice none 0 0, .slice none 0 0, .string ⟨#[]⟩, .int .i64 0] 30)
      replace bC := bC.alloc (.cells #[.int .i64 0, .int .i64 0, .int .i64 0, .int .i64 0, .int .i64 0, .slice none 0 0, .slice none 0 0, .string ⟨#[]⟩, .int .i64 0] 30)
      replace bG := bG.alloc (.cells #[.int .i64 0, .int .i64 0, .int .i64 0, .int .i64 0, .int .i64 0, .slice none 0 0, .slice none 0 0, .string ⟨#[]⟩, .int .i64 0] 30)
      replace n := n.alloc (.cells #[.int .i64 0, .int .i64 0, .int .i64 0, .int .i64 0, .int .i64 0, .slice none 0 0, .slice none 0 0, .string ⟨#[]⟩, .int .i64 0] 30)
      have en := hR1.out
      clear hR2 r1
      go_upto_region 7 with fail
      generalize V5.alloc (.cells #[.int .i64 0, .int .i64 0, .int .i64 0, .int .i64 0, .int .i64 0, .slice none 0 0, .slice none 0 0, .string ⟨#[]⟩, .int .i64 0] 30) = V7 at *
      generalize V5.heap.size = N at *
      clear f0
      have lN := bN.lt
      have lG := bG.lt
      have lR := bR.lt
      have lF := bF.lt
      have oG := bG.lo
      have oN := bN.lo
      have jN : ∀ y : GW V7 w.heap.size (w.heap.size + 1), y.w.rangeAt N 0 [.int .i64 0, .int .i64 0, .int .i64 0, .int .i64 0, .int .i64 0, .slice none 0 0, .slice none 0 0, .string ⟨#[]⟩, .int .i64 0] := fun y j v h => by rw [Nat.zero_add, Lib.cell_of_heap ((y.b _ lN (by omega) (by omega)).trans bN.at_)]; simpa using h
      have jG : ∀ y : GW V7 w.heap.size (w.heap.size + 1), y.w.rangeAt G 0 [.int .i64 s2.2.1, .int .i64 s2.2.2] := fun y j v h => by rw [Nat.zero_add, Lib.cell_of_heap ((y.b _ lG (by omega) (by omega)).trans bG.at_)]; simpa using h
      refine wp_region_mixG w.heap.size (w.heap.size + 1) [([0, 1], 2), ([], 3)] [] (by kernel_rfl) (by kernel_rfl) (by kernel_rfl) (by kernel_rfl) (fun _ _ d _ _ h => by cases d <;> exact h) ?_
      have gW : Below V7.heap.size V7 (V7.drewN 1) := ⟨rfl, rfl, rfl, Nat.le_refl _, fun _ _ => rfl⟩
      replace bR := bR.bl gW
      replace bF := bF.bl gW
      replace n := n.on gW
      refine mix_cons (os := [_, _]) (by simp only [pickO, List.filterMap_cons, List.filterMap_nil, List.getElem?_toArray, List.getElem?_cons_succ, List.getElem?_cons_zero]; rfl) (fun Kp hKp => ?_)
      refine wpQuiet_load rfl 30 _ rfl N 0 rfl [.int .i64 0, .int .i64 0, .int .i64 0, .int .i64 0, .int .i64 0, .slice none 0 0, .slice none 0 0, .string ⟨#[]⟩, .int .i64 0] _ (by rintro V ⟨y, rfl⟩; exact jN y) Tryz.underlying30 rfl (by kernel_rfl) ?_
      go_simp
      refine wpQuiet_load rfl 35 _ rfl G 0 rfl [.int .i64 s2.2.1, .int .i64 s2.2.2] _ (by rintro V ⟨y, rfl⟩; exact jG y) Tryz.underlying35 rfl (by kernel_rfl) ?_
      go_simp
      refine wpQuiet_nil ?_
      refine hKp _ ?_
      clear hKp
      refine loud (by rfl) (by kernel_rfl) (fun K2 hK2 => ?_)
      have y0 := (bR.c 0).trans rfl
      have yf0 := Lib.frozen_of_heap bR.at_ 0
      have y1 := (bR.c 1).trans rfl
      have yf1 := Lib.frozen_of_heap bR.at_ 1
      have y2 := (bR.c 2).trans rfl
      have yf2 := Lib.frozen_of_heap bR.at_ 2
      have y3 := (bR.c 3).trans rfl
      have yf3 := Lib.frozen_of_heap bR.at_ 3
      have y4 := (bR.c 4).trans rfl
      have yf4 := Lib.frozen_of_heap bR.at_ 4
      have y5 := (bR.c 5).trans rfl
      have yf5 := Lib.frozen_of_heap bR.at_ 5
      have y6 := (bR.c 6).trans rfl
      have yf6 := Lib.frozen_of_heap bR.at_ 6
      have y7 := (bR.c 7).trans rfl
      have yf7 := Lib.frozen_of_heap bR.at_ 7
      have y8 := (bR.c 8).trans rfl
      have yf8 := Lib.frozen_of_heap bR.at_ 8
      have n2 := (((((((((n.setb bR h 0 (.int .i64 0)).setb (bR.set 0 (.int .i64 0)) h 1 (.int .i64 0)).setb ((bR.set 0 (.int .i64 0)).set 1 (.int .i64 0)) h 2 (.int .i64 0)).setb (((bR.set 0 (.int .i64 0)).set 1 (.int .i64 0)).set 2 (.int .i64 0)) h 3 (.int .i64 0)).setb ((((bR.set 0 (.int .i64 0)).set 1 (.int .i64 0)).set 2 (.int .i64 0)).set 3 (.int .i64 0)) h 4 (.int .i64 0)).setb (((((bR.set 0 (.int .i64 0)).set 1 (.int .i64 0)).set 2 (.int .i64 0)).set 3 (.int .i64 0)).set 4 (.int .i64 0)) h 5 (.slice none 0 0)).setb ((((((bR.set 0 (.int .i64 0)).set 1 (.int .i64 0)).set 2 (.int .i64 0)).set 3 (.int .i64 0)).set 4 (.int .i64 0)).set 5 (.slice none 0 0)) h 6 (.slice none 0 0)).setb (((((((bR.set 0 (.int .i64 0)).set 1 (.int .i64 0)).set 2 (.int .i64 0)).set 3 (.int .i64 0)).set 4 (.int .i64 0)).set 5 (.slice none 0 0)).set 6 (.slice none 0 0)) h 7 (.string ⟨#[]⟩)).setb ((((((((bR.set 0 (.int .i64 0)).set 1 (.int .i64 0)).set 2 (.int .i64 0)).set 3 (.int .i64 0)).set 4 (.int .i64 0)).set 5 (.slice none 0 0)).set 6 (.slice none 0 0)).set 7 (.string ⟨#[]⟩)) h 8 (.int .i64 0))
      have bR2 := (((((((((bR.set 0 (.int .i64 0)).set 1 (.int .i64 0)).set 2 (.int .i64 0)).set 3 (.int .i64 0)).set 4 (.int .i64 0)).set 5 (.slice none 0 0)).set 6 (.slice none 0 0)).set 7 (.string ⟨#[]⟩)).set 8 (.int .i64 0))
      have bF2 := (((((((((bF.setn (by omega) 0 (.int .i64 0) (C := w.heap.size)).setn (by omega) 1 (.int .i64 0) (C := w.heap.size)).setn (by omega) 2 (.int .i64 0) (C := w.heap.size)).setn (by omega) 3 (.int .i64 0) (C := w.heap.size)).setn (by omega) 4 (.int .i64 0) (C := w.heap.size)).setn (by omega) 5 (.slice none 0 0) (C := w.heap.size)).setn (by omega) 6 (.slice none 0 0) (C := w.heap.size)).setn (by omega) 7 (.string ⟨#[]⟩) (C := w.heap.size)).setn (by omega) 8 (.int .i64 0) (C := w.heap.size))
      clear n bR bF
      simp only [List.setIfInBounds_toArray, List.set_cons_succ, List.set_cons_zero] at bR2
      go_simp
      refine hK2 _ _ (gw_setp (gw_setp (gw_setp (gw_setp (gw_setp (gw_setp (gw_setp (gw_setp (gw_setp (GW.bl gW) _) _) _) _) _) _) _) _) _) ?_
      clear hK2
      have gQ : ∃ x : GW V7 w.heap.size (w.heap.size + 1), (((((((((V7.drewN 1).setCell ⟨w.heap.size, 0, none⟩ (.int .i64 0)).setCell ⟨w.heap.size, 1, none⟩ (.int .i64 0)).setCell ⟨w.heap.size, 2, none⟩ (.int .i64 0)).setCell ⟨w.heap.size, 3, none⟩ (.int .i64 0)).setCell ⟨w.heap.size, 4, none⟩ (.int .i64 0)).setCell ⟨w.heap.size, 5, none⟩ (.slice none 0 0)).setCell ⟨w.heap.size, 6, none⟩ (.slice none 0 0)).setCell ⟨w.heap.size, 7, none⟩ (.string ⟨#[]⟩)).setCell ⟨w.heap.size, 8, none⟩ (.int .i64 0) = x.w := (gw_setp (gw_setp (gw_setp (gw_setp (gw_setp (gw_setp (gw_setp (gw_setp (gw_setp (GW.bl gW) _) _) _) _) _) _) _) _) _)
      generalize (((((((((V7.drewN 1).setCell ⟨w.heap.size, 0, none⟩ (.int .i64 0)).setCell ⟨w.heap.size, 1, none⟩ (.int .i64 0)).setCell ⟨w.heap.size, 2, none⟩ (.int .i64 0)).setCell ⟨w.heap.size, 3, none⟩ (.int .i64 0)).setCell ⟨w.heap.size, 4, none⟩ (.int .i64 0)).setCell ⟨w.heap.size, 5, none⟩ (.slice none 0 0)).setCell ⟨w.heap.size, 6, none⟩ (.slice none 0 0)).setCell ⟨w.heap.size, 7, none⟩ (.string ⟨#[]⟩)).setCell ⟨w.heap.size, 8, none⟩ (.int .i64 0) = V8 at *
      clear y0 yf0 y1 yf1 y2 yf2 y3 yf3 y4 yf4 y5 yf5 y6 yf6 y7 yf7 y8 yf8
      refine mix_cons (os := []) (by rfl) (fun Kp hKp => ?_)
      refine wpQuiet_nil ?_
      refine hKp _ ?_
      clear hKp
      refine loud (by rfl) (by kernel_rfl) (fun K3 hK3 => ?_)
      have z0 := (bF2.c 0).trans rfl
      have zf0 := Lib.frozen_of_heap bF2.at_ 0
      have z1 := (bF2.c 1).trans rfl
      have zf1 := Lib.frozen_of_heap bF2.at_ 1
      go_simp
      refine hK3 _ _ (GW.set (GW.set gQ _) _) ?_
      clear hK3
      refine mix_nil (os := []) (by rfl) (fun Kp hKp => ?_)
      refine wpQuiet_nil ?_
      refine hKp _ ?_
      clear hKp
      have fin := Lib.hid (hR1.out _ _ ((n2.setb bF2 h 0 (.int .i64 s2.2.1)).setb (bF2.set 0 _) h 1 (.int .i64 s2.2.2)) he)
      have x0 := ((bR2.setn (by omega) 0 (.int .i64 s2.2.1) (C := w.heap.size + 1)).setn (by omega) 1 (.int .i64 s2.2.2) (C := w.heap.size + 1)).c 0 |>.trans rfl
      have x1 := ((bR2.setn (by omega) 0 (.int .i64 s2.2.1) (C := w.heap.size + 1)).setn (by omega) 1 (.int .i64 s2.2.2) (C := w.heap.size + 1)).c 1 |>.trans rfl
      have x2 := ((bR2.setn (by omega) 0 (.int .i64 s2.2.1) (C := w.heap.size + 1)).setn (by omega) 1 (.int .i64 s2.2.2) (C := w.heap.size + 1)).c 2 |>.trans rfl
      have x3 := ((bR2.setn (by omega) 0 (.int .i64 s2.2.1) (C := w.heap.size + 1)).setn (by omega) 1 (.int .i64 s2.2.2) (C := w.heap.size + 1)).c 3 |>.trans rfl
      have x4 := ((bR2.setn (by omega) 0 (.int .i64 s2.2.1) (C := w.heap.size + 1)).setn (by omega) 1 (.int .i64 s2.2.2) (C := w.heap.size + 1)).c 4 |>.trans rfl
      have x5 := ((bR2.setn (by omega) 0 (.int .i64 s2.2.1) (C := w.heap.size + 1)).setn (by omega) 1 (.int .i64 s2.2.2) (C := w.heap.size + 1)).c 5 |>.trans rfl
      have x6 := ((bR2.setn (by omega) 0 (.int .i64 s2.2.1) (C := w.heap.size + 1)).setn (by omega) 1 (.int .i64 s2.2.2) (C := w.heap.size + 1)).c 6 |>.trans rfl
      have x7 := ((bR2.setn (by omega) 0 (.int .i64 s2.2.1) (C := w.heap.size + 1)).setn (by omega) 1 (.int .i64 s2.2.2) (C := w.heap.size + 1)).c 7 |>.trans rfl
      have x8 := ((bR2.setn (by omega) 0 (.int .i64 s2.2.1) (C := w.heap.size + 1)).setn (by omega) 1 (.int .i64 s2.2.2) (C := w.heap.size + 1)).c 8 |>.trans rfl
      clear hR1 n2 en
      go_wp2_with fail
      first | refine bodyPost_ret ?_ rfl fin.out | refine bodyPost_end ?_ rfl fin.out
      simp [results, Tryz.results22, go_sem, z0, z1, x0, x1, x2, x3, x4, x5, x6, x7, x8]
      repeat' apply And.intro
      all_goals rfl
  · rw [if_neg h0] at hw
    have q0 : (t0 != 0) = false := by simpa using h0
    clear h0
    rw [hw] at hR1 hR2
    clear hw
    have b0 := n.ps.b0
    go_wp2_with fail
    refine fault_calls (cu 0 s1) p g1 w2 n.ps.cur _ (Lib.hid fun w5 m5 => ?_)
    have n5 := n.ps.same m5
    replace r1 := RdY.kp (Nx.kp (b := w.heap.size + 2) (b0 := w.heap.size + 2) n5 (by omega) (Nat.le_refl _)) r1
    replace bR := bR.nx n5 lp
    replace bF := bF.nx n5 lp
    replace bC := bC.nx n5 lp
    replace n := n.trans n5
    clear n5 m5 b0
    have lG0 := bC.lt
    have bG := Bx.new n #[.int .i64 s1.2.1, .int .i64 s1.2.2] 35
    replace bR := bR.alloc (.cells #[.int .i64 s1.2.1, .int .i64 s1.2.2] 35)
    replace bF := bF.alloc (.cells #[.int .i64 s1.2.1, .int .i64 s1.2.2] 35)
    replace bC := bC.alloc (.cells #[.int .i64 s1.2.1, .int .i64 s1.2.2] 35)
    replace n := n.alloc (.cells #[.int .i64 s1.2.1, .int .i64 s1.2.2] 35)
    replace r1 := RdY.kp (emp_kp (S := lowS (w.heap.size + 2)) (S' := lowS (w.heap.size + 2)) (by simp) fun k hk nk => ⟨nk, ((Below.refl _ w5).alloc (Nat.le_refl _) (.cells #[.int .i64 s1.2.1, .int .i64 s1.2.2] 35)).block k hk⟩) r1
    go_upto_region 5 with fail
    generalize w5.alloc (.cells #[.int .i64 s1.2.1, .int .i64 s1.2.2] 35) = V5 at *
    generalize w5.heap.size = G at *
    have f0 := (bG.c 0).trans rfl
    by_cases he : s1.2.1 = 0
    · have q1 : (s1.2.1 != 0) = false := by simpa using he
      clear hR1
      have rC : V5.rangeAt C 0 [.int .i64 hh.kind, .int .i64 hh.at_, .int .i64 hh.lo, .int .i64 hh.hi, .int .i64 hh.most, .slice A3 hh.names.length c3, .slice A4 ff.len c4, .string hh.name, .int .i64 hh.nat] := fun j v e => by rw [Nat.zero_add, bC.c]; simpa using e
      have hRr := bR.at_
      have oC := bC.lo
      have e8 := bC.ne
      have hCF : C ≠ w.heap.size + 1 := by omega
      have n9 := n.row bR h #[.int .i64 hh.kind, .int .i64 hh.at_, .int .i64 hh.lo, .int .i64 hh.hi, .int .i64 hh.most, .slice A3 hh.names.length c3, .slice A4 ff.len c4, .string hh.name, .int .i64 hh.nat]
      have bR9 := bR.row #[.int .i64 hh.kind, .int .i64 hh.at_, .int .i64 hh.lo, .int .i64 hh.hi, .int .i64 hh.most, .slice A3 hh.names.length c3, .slice A4 ff.len c4, .string hh.name, .int .i64 hh.nat]
      have bF9 : Bx w (V5.setRow w.heap.size #[.int .i64 hh.kind, .int .i64 hh.at_, .int .i64 hh.lo, .int .i64 hh.hi, .int .i64 hh.most, .slice A3 hh.names.length c3, .slice A4 ff.len c4, .string hh.name, .int .i64 hh.nat]) p g1 (w.heap.size + 1) _ _ := ⟨(setRow_other _ _ _ _ (by omega)).trans bF.at_, bF.lo, bF.ne⟩
      have r9 := RdY.kp (kp_row (b0 := w.heap.size + 2) (T := w.heap.size) (b := w.heap.size + 2) (by omega) (Nat.le_refl _) #[.int .i64 hh.kind, .int .i64 hh.at_, .int .i64 hh.lo, .int .i64 hh.hi, .int .i64 hh.most, .slice A3 hh.names.length c3, .slice A4 ff.len c4, .string hh.name, .int .i64 hh.nat]) r1
      have z0 := (bF9.c 0).trans rfl
      have zf0 := Lib.frozen_of_heap bF9.at_ 0
      have z1 := (bF9.c 1).trans rfl
      have zf1 := Lib.frozen_of_heap bF9.at_ 1
      have fin := Lib.hid (hR2.out _ _ _ _ ((n9.setb bF9 h 0 (.int .i64 0)).setb (bF9.set 0 _) h 1 (.int .i64 0)) he (RdY.kp (kp_set (T := w.heap.size + 1) (b := w.heap.size + 2) (b0 := w.heap.size) (by omega) (by omega) 1 (.int .i64 0)) (RdY.kp (kp_set (T := w.heap.size + 1) (b := w.heap.size + 2) (b0 := w.heap.size + 2) (by omega) (by omega) 0 (.int .i64 0)) r9)))
      have x0 := ((bR9.setn (by omega) 0 (.int .i64 0) (C := w.heap.size + 1)).setn (by omega) 1 (.int .i64 0) (C := w.heap.size + 1)).c 0 |>.trans rfl
      have x1 := ((bR9.setn (by omega) 0 (.int .i64 0) (C := w.heap.size + 1)).setn (by omega) 1 (.int .i64 0) (C := w.heap.size + 1)).c 1 |>.trans rfl
      have x2 := ((bR9.setn (by omega) 0 (.int .i64 0) (C := w.heap.size + 1)).setn (by omega) 1 (.int .i64 0) (C := w.heap.size + 1)).c 2 |>.trans rfl
      have x3 := ((bR9.setn (by omega) 0 (.int .i64 0) (C := w.heap.size + 1)).setn (by omega) 1 (.int .i64 0) (C := w.heap.size + 1)).c 3 |>.trans rfl
      have x4 := ((bR9.setn (by omega) 0 (.int .i64 0) (C := w.heap.size + 1)).setn (by omega) 1 (.int .i64 0) (C := w.heap.size + 1)).c 4 |>.trans rfl
      have x5 := ((bR9.setn (by omega) 0 (.int .i64 0) (C := w.heap.size + 1)).setn (by omega) 1 (.int .i64 0) (C := w.heap.size + 1)).c 5 |>.trans rfl
      have x6 := ((bR9.setn (by omega) 0 (.int .i64 0) (C := w.heap.size + 1)).setn (by omega) 1 (.int .i64 0) (C := w.heap.size + 1)).c 6 |>.trans rfl
      have x7 := ((bR9.setn (by omega) 0 (.int .i64 0) (C := w.heap.size + 1)).setn (by omega) 1 (.int .i64 0) (C := w.heap.size + 1)).c 7 |>.trans rfl
      have x8 := ((bR9.setn (by omega) 0 (.int .i64 0) (C := w.heap.size + 1)).setn (by omega) 1 (.int .i64 0) (C := w.heap.size + 1)).c 8 |>.trans rfl
      clear hR2 n n9 r1 r9
      go_wp2_with (first | (refine wpList_load_g (by rfl) 30 _ rfl C 0 rfl [.int .i64 hh.kind, .int .i64 hh.at_, .int .i64 hh.lo, .int .i64 hh.hi, .int .i64 hh.most, .slice A3 hh.names.length c3, .slice A4 ff.len c4, .string hh.name, .int .i64 hh.nat] _ rC Tryz.underlying30 rfl (by kernel_rfl) ?_; go_simp) | (refine wpList_store_row (by rfl) 30 _ _ (by rfl) w.heap.size #[.int .i64 hh.kind, .int .i64 hh.at_, .int .i64 hh.lo, .int .i64 hh.hi, .int .i64 hh.most, .slice A3 hh.names.length c3, .slice A4 ff.len c4, .string hh.name, .int .i64 hh.nat] (by rfl) (by rfl) 30 _ hRr (by kernel_rfl) rfl (by simp [Value.oneCell']) ?_; go_simp))
      first | refine bodyPost_ret ?_ rfl fin.out | refine bodyPost_end ?_ rfl fin.out
      simp [results, Tryz.results22, go_sem, z0, z1, x0, x1, x2, x3, x4, x5, x6, x7, x8]
    · have q1 : (s1.2.1 != 0) = true := by simpa using he
      have hNG : G < V5.heap.size := bG.lt
      have bN := Bx.new n #[.int .i64 0, .int .i64 0, .int .i64 0, .int .i64 0, .int .i64 0, .slice none 0 0, .slice none 0 0, .string ⟨#[]⟩, .int .i64 0] 30
      replace bR := bR.alloc (.cells #[.int .i64 0, .int .i64 0, .int .i64 0, .int .i64 0, .int .i64 0, .slice none 0 0, .slice none 0 0, .string ⟨#[]⟩, .int .i64 0] 30)
      replace bF := bF.alloc (.cells #[.int .i64 0, .int .i64 0, .int .i64 0, .int .i64 0, .int .i64 0, .slice none 0 0, .slice none 0 0, .string ⟨#[]⟩, .int .i64 0] 30)
      replace bC := bC.alloc (.cells #[.int .i64 0, .int .i64 0, .int .i64 0, .int .i64 0, .int .i64 0, .slice none 0 0, .slice none 0 0, .string ⟨#[]⟩, .int .i64 0] 30)
      replace bG := bG.alloc (.cells #[.int .i64 0, .int .i64 0, .int .i64 0, .int .i64 0, .int .i64 0, .slice none 0 0, .slice none 0 0, .string ⟨#[]⟩, .int .i64 0] 30)
      replace n := n.alloc (.cells #[.int .i64 0, .int .i64 0, .int .i64 0, .int .i64 0, .int .i64 0, .slice none 0 0, .slice none 0 0, .string ⟨#[]⟩, .int .i64 0] 30)
      have en := hR1.out
      clear hR2 r1
      go_upto_region 7 with fail
      generalize V5.alloc (.cells #[.int .i64 0, .int .i64 0, .int .i64 0, .int .i64 0, .int .i64 0, .slice none 0 0, .slice none 0 0, .string ⟨#[]⟩, .int .i64 0] 30) = V7 at *
      generalize V5.heap.size = N at *
      clear f0
      have lN := bN.lt
      have lG := bG.lt
      have lR := bR.lt
      have lF := bF.lt
      have oG := bG.lo
      have oN := bN.lo
      have jN : ∀ y : GW V7 w.heap.size (w.heap.size + 1), y.w.rangeAt N 0 [.int .i64 0, .int .i64 0, .int .i64 0, .int .i64 0, .int .i64 0, .slice none 0 0, .slice none 0 0, .string ⟨#[]⟩, .int .i64 0] := fun y j v h => by rw [Nat.zero_add, Lib.cell_of_heap ((y.b _ lN (by omega) (by omega)).trans bN.at_)]; simpa using h
      have jG : ∀ y : GW V7 w.heap.size (w.heap.size + 1), y.w.rangeAt G 0 [.int .i64 s1.2.1, .int .i64 s1.2.2] := fun y j v h => by rw [Nat.zero_add, Lib.cell_of_heap ((y.b _ lG (by omega) (by omega)).trans bG.at_)]; simpa using h
      refine wp_region_mixG w.heap.size (w.heap.size + 1) [([0, 1], 2), ([], 3)] [] (by kernel_rfl) (by kernel_rfl) (by kernel_rfl) (by kernel_rfl) (fun _ _ d _ _ h => by cases d <;> exact h) ?_
      have gW : Below V7.heap.size V7 (V7.drewN 1) := ⟨rfl, rfl, rfl, Nat.le_refl _, fun _ _ => rfl⟩
      replace bR := bR.bl gW
      replace bF := bF.bl gW
      replace n := n.on gW
      refine mix_cons (os := [_, _]) (by simp only [pickO, List.filterMap_cons, List.filterMap_nil, List.getElem?_toArray, List.getElem?_cons_succ, List.getElem?_cons_zero]; rfl) (fun Kp hKp => ?_)
      refine wpQuiet_load rfl 30 _ rfl N 0 rfl [.int .i64 0, .int .i64 0, .int .i64 0, .int .i64 0, .int .i64 0, .slice none 0 0, .slice none 0 0, .string ⟨#[]⟩, .int .i64 0] _ (by rintro V ⟨y, rfl⟩; exact jN y) Tryz.underlying30 rfl (by kernel_rfl) ?_
      go_simp
      refine wpQuiet_load rfl 35 _ rfl G 0 rfl [.int .i64 s1.2.1, .int .i64 s1.2.2] _ (by rintro V ⟨y, rfl⟩; exact jG y) Tryz.underlying35 rfl (by kernel_rfl) ?_
      go_simp
      refine wpQuiet_nil ?_
      refine hKp _ ?_
      clear hKp
      refine loud (by rfl) (by kernel_rfl) (fun K2 hK2 => ?_)
      have y0 := (bR.c 0).trans rfl
      have yf0 := Lib.frozen_of_heap bR.at_ 0
      have y1 := (bR.c 1).trans rfl
      have yf1 := Lib.frozen_of_heap bR.at_ 1
      have y2 := (bR.c 2).trans rfl
      have yf2 := Lib.frozen_of_heap bR.at_ 2
      have y3 := (bR.c 3).trans rfl
      have yf3 := Lib.frozen_of_heap bR.at_ 3
      have y4 := (bR.c 4).trans rfl
      have yf4 := Lib.frozen_of_heap bR.at_ 4
      have y5 := (bR.c 5).trans rfl
      have yf5 := Lib.frozen_of_heap bR.at_ 5
      have y6 := (bR.c 6).trans rfl
      have yf6 := Lib.frozen_of_heap bR.at_ 6
      have y7 := (bR.c 7).trans rfl
      have yf7 := Lib.frozen_of_heap bR.at_ 7
      have y8 := (bR.c 8).trans rfl
      have yf8 := Lib.frozen_of_heap bR.at_ 8
      have n2 := (((((((((n.setb bR h 0 (.int .i64 0)).setb (bR.set 0 (.int .i64 0)) h 1 (.int .i64 0)).setb ((bR.set 0 (.int .i64 0)).set 1 (.int .i64 0)) h 2 (.int .i64 0)).setb (((bR.set 0 (.int .i64 0)).set 1 (.int .i64 0)).set 2 (.int .i64 0)) h 3 (.int .i64 0)).setb ((((bR.set 0 (.int .i64 0)).set 1 (.int .i64 0)).set 2 (.int .i64 0)).set 3 (.int .i64 0)) h 4 (.int .i64 0)).setb (((((bR.set 0 (.int .i64 0)).set 1 (.int .i64 0)).set 2 (.int .i64 0)).set 3 (.int .i64 0)).set 4 (.int .i64 0)) h 5 (.slice none 0 0)).setb ((((((bR.set 0 (.int .i64 0)).set 1 (.int .i64 0)).set 2 (.int .i64 0)).set 3 (.int .i64 0)).set 4 (.int .i64 0)).set 5 (.slice none 0 0)) h 6 (.slice none 0 0)).setb (((((((bR.set 0 (.int .i64 0)).set 1 (.int .i64 0)).set 2 (.int .i64 0)).set 3 (.int .i64 0)).set 4 (.int .i64 0)).set 5 (.slice none 0 0)).set 6 (.slice none 0 0)) h 7 (.string ⟨#[]⟩)).setb ((((((((bR.set 0 (.int .i64 0)).set 1 (.int .i64 0)).set 2 (.int .i64 0)).set 3 (.int .i64 0)).set 4 (.int .i64 0)).set 5 (.slice none 0 0)).set 6 (.slice none 0 0)).set 7 (.string ⟨#[]⟩)) h 8 (.int .i64 0))
      have bR2 := (((((((((bR.set 0 (.int .i64 0)).set 1 (.int .i64 0)).set 2 (.int .i64 0)).set 3 (.int .i64 0)).set 4 (.int .i64 0)).set 5 (.slice none 0 0)).set 6 (.slice none 0 0)).set 7 (.string ⟨#[]⟩)).set 8 (.int .i64 0))
      have bF2 := (((((((((bF.setn (by omega) 0 (.int .i64 0) (C := w.heap.size)).setn (by omega) 1 (.int .i64 0) (C := w.heap.size)).setn (by omega) 2 (.int .i64 0) (C := w.heap.size)).setn (by omega) 3 (.int .i64 0) (C := w.heap.size)).setn (by omega) 4 (.int .i64 0) (C := w.heap.size)).setn (by omega) 5 (.slice none 0 0) (C := w.heap.size)).setn (by omega) 6 (.slice none 0 0) (C := w.heap.size)).setn (by omega) 7 (.string ⟨#[]⟩) (C := w.heap.size)).setn (by omega) 8 (.int .i64 0) (C := w.heap.size))
      clear n bR bF
      simp only [List.setIfInBounds_toArray, List.set_cons_succ, List.set_cons_zero] at bR2
      go_simp
      refine hK2 _ _ (gw_setp (gw_setp (gw_setp (gw_setp (gw_setp (gw_setp (gw_setp (gw_setp (gw_setp (GW.bl gW) _) _) _) _) _) _) _) _) _) ?_
      clear hK2
      have gQ : ∃ x : GW V7 w.heap.size (w.heap.size + 1), (((((((((V7.drewN 1).setCell ⟨w.heap.size, 0, none⟩ (.int .i64 0)).setCell ⟨w.heap.size, 1, none⟩ (.int .i64 0)).setCell ⟨w.heap.size, 2, none⟩ (.int .i64 0)).setCell ⟨w.heap.size, 3, none⟩ (.int .i64 0)).setCell ⟨w.heap.size, 4, none⟩ (.int .i64 0)).setCell ⟨w.heap.size, 5, none⟩ (.slice none 0 0)).setCell ⟨w.heap.size, 6, none⟩ (.slice none 0 0)).setCell ⟨w.heap.size, 7, none⟩ (.string ⟨#[]⟩)).setCell ⟨w.heap.size, 8, none⟩ (.int .i64 0) = x.w := (gw_setp (gw_setp (gw_setp (gw_setp (gw_setp (gw_setp (gw_setp (gw_setp (gw_setp (GW.bl gW) _) _) _) _) _) _) _) _) _)
      generalize (((((((((V7.drewN 1).setCell ⟨w.heap.size, 0, none⟩ (.int .i64 0)).setCell ⟨w.heap.size, 1, none⟩ (.int .i64 0)).setCell ⟨w.heap.size, 2, none⟩ (.int .i64 0)).setCell ⟨w.heap.size, 3, none⟩ (.int .i64 0)).setCell ⟨w.heap.size, 4, none⟩ (.int .i64 0)).setCell ⟨w.heap.size, 5, none⟩ (.slice none 0 0)).setCell ⟨w.heap.size, 6, none⟩ (.slice none 0 0)).setCell ⟨w.heap.size, 7, none⟩ (.string ⟨#[]⟩)).setCell ⟨w.heap.size, 8, none⟩ (.int .i64 0) = V8 at *
      clear y0 yf0 y1 yf1 y2 yf2 y3 yf3 y4 yf4 y5 yf5 y6 yf6 y7 yf7 y8 yf8
      refine mix_cons (os := []) (by rfl) (fun Kp hKp => ?_)
      refine wpQuiet_nil ?_
      refine hKp _ ?_
      clear hKp
      refine loud (by rfl) (by kernel_rfl) (fun K3 hK3 => ?_)
      have z0 := (bF2.c 0).trans rfl
      have zf0 := Lib.frozen_of_heap bF2.at_ 0
      have z1 := (bF2.c 1).trans rfl
      have zf1 := Lib.frozen_of_heap bF2.at_ 1
      go_simp
      refine hK3 _ _ (GW.set (GW.set gQ _) _) ?_
      clear hK3
      refine mix_nil (os := []) (by rfl) (fun Kp hKp => ?_)
      refine wpQuiet_nil ?_
      refine hKp _ ?_
      clear hKp
      have fin := Lib.hid (hR1.out _ _ ((n2.setb bF2 h 0 (.int .i64 s1.2.1)).setb (bF2.set 0 _) h 1 (.int .i64 s1.2.2)) he)
      have x0 := ((bR2.setn (by omega) 0 (.int .i64 s1.2.1) (C := w.heap.size + 1)).setn (by omega) 1 (.int .i64 s1.2.2) (C := w.heap.size + 1)).c 0 |>.trans rfl
      have x1 := ((bR2.setn (by omega) 0 (.int .i64 s1.2.1) (C := w.heap.size + 1)).setn (by omega) 1 (.int .i64 s1.2.2) (C := w.heap.size + 1)).c 1 |>.trans rfl
      have x2 := ((bR2.setn (by omega) 0 (.int .i64 s1.2.1) (C := w.heap.size + 1)).setn (by omega) 1 (.int .i64 s1.2.2) (C := w.heap.size + 1)).c 2 |>.trans rfl
      have x3 := ((bR2.setn (by omega) 0 (.int .i64 s1.2.1) (C := w.heap.size + 1)).setn (by omega) 1 (.int .i64 s1.2.2) (C := w.heap.size + 1)).c 3 |>.trans rfl
      have x4 := ((bR2.setn (by omega) 0 (.int .i64 s1.2.1) (C := w.heap.size + 1)).setn (by omega) 1 (.int .i64 s1.2.2) (C := w.heap.size + 1)).c 4 |>.trans rfl
      have x5 := ((bR2.setn (by omega) 0 (.int .i64 s1.2.1) (C := w.heap.size + 1)).setn (by omega) 1 (.int .i64 s1.2.2) (C := w.heap.size + 1)).c 5 |>.trans rfl
      have x6 := ((bR2.setn (by omega) 0 (.int .i64 s1.2.1) (C := w.heap.size + 1)).setn (by omega) 1 (.int .i64 s1.2.2) (C := w.heap.size + 1)).c 6 |>.trans rfl
      have x7 := ((bR2.setn (by omega) 0 (.int .i64 s1.2.1) (C := w.heap.size + 1)).setn (by omega) 1 (.int .i64 s1.2.2) (C := w.heap.size + 1)).c 7 |>.trans rfl
      have x8 := ((bR2.setn (by omega) 0 (.int .i64 s1.2.1) (C := w.heap.size + 1)).setn (by omega) 1 (.int .i64 s1.2.2) (C := w.heap.size + 1)).c 8 |>.trans rfl
      clear hR1 n2 en
      go_wp2_with fail
      first | refine bodyPost_ret ?_ rfl fin.out | refine bodyPost_end ?_ rfl fin.out
      simp [results, Tryz.results22, go_sem, z0, z1, x0, x1, x2, x3, x4, x5, x6, x7, x8]
      repeat' apply And.intro
      all_goals rfl

end Go.Proofs.YthelhplcijhioaaGreat.Syn

/- Layer 16, the code: Type. -/
set_option maxRecDepth 100000
set_option linter.unusedVariables false
namespace Go.Proofs.YthelhplcijhioaaGreat.Syn
open Go.RowKit Go.Lib Go.Proofs.YthelhplcijhioaaGreat.Utf Go.Proofs.YthelhplcijhioaaGreat.Tok Go.Proofs.YthelhplcijhioaaGreat.Cur Go.Proofs.YthelhplcijhioaaGreat.Nam Go.Proofs.YthelhplcijhioaaGreat.Lat Go.Proofs.YthelhplcijhioaaGreat.Kin

theorem bl_gr {w V W : World} {p : Nat} (h : V.grownBy W (some p)) (hp : w.heap.size ≤ p) (hv : w.heap.size ≤ V.heap.size) : Below w.heap.size V W :=
  ⟨h.os, h.tape, h.output, h.size, fun k hk => h.block k (by omega) fun e => by simp only [Option.some.injEq] at e; omega⟩
theorem wholeT2_calls (l : List Tk) (q p g : Nat) (w : World) (h : PsG w q p g 0 (l, 0, 0)) (hl : l.length ≤ 1000000) (R : Ending → World → Prop)
    (hR : Hid (∀ w' nv pv, w.grownBy w' (some p) → RdY (empW (lowS w.heap.size) w') (typeP l).1.1 (typeP l).1.2 nv pv → R (.returned (.tuple #[tyV (typeP l).1.1 nv pv, .agg #[.int .i64 (typeP l).2.1, .int .i64 (typeP l).2.2]])) w')) : Calls Tryz.prog 22 #[ptV q, .func (.func 23) #[ptV q] #[]] w R := by
  refine wholeT_calls (l, 0, 0) q p g w h hl R (Lib.hid fun w' g' n he => ?_) (Lib.hid fun w' g' nv pv n he r => ?_)
  · have e : typeP l = ((zTH, .nil), (wholeC (typC 24 (l, 0, 0)).2).2) := if_pos he
    rw [e] at hR
    exact hR.out w' _ _ n.gr ⟨RdW.none0 _, RdSl.nil _ none 0⟩
  · have e : typeP l = ((typC 24 (l, 0, 0)).1, 0, 0) := if_neg (by simpa using he)
    rw [e] at hR
    exact hR.out w' _ _ n.gr r
theorem scn_bad {s : ByteArray} {e z : Int} (h : scnS s = (none, e, z)) : e ≠ 0 ∧ 0 ≤ z := by
  unfold scnS at h
  by_cases c : 65536 < s.size
  · rw [if_pos c] at h
    simp only [Prod.mk.injEq, true_and] at h
    omega
  · rw [if_neg c] at h
    have := scn_fault s.size 0 false e z (by omega) (Nat.zero_le _) h
    omega
set_option maxRecDepth 100000 in
set_option maxHeartbeats 2000000 in
theorem type_calls (s : ByteArray) (hs : s.size ≤ maxLen) (w : World) (R : Ending → World → Prop)
    (hR : Hid (∀ w' nv pv, Below w.heap.size w w' → RdY (empW (lowS w.heap.size) w') (typeS s).1.1 (typeS s).1.2 nv pv → R (.returned (.tuple #[tyV (typeS s).1.1 nv pv, .agg #[.int .i64 (typeS s).2.1, .int .i64 (typeS s).2.2]])) w')) : Calls Tryz.prog 10 #[.string s] w R := by
  have hmf : ∀ (fn : Fn) (first cap : Array Value) (w : World), (Instr.makeFunc fn first cap).run Tryz.prog w = .ok (.func fn first cap) w := fun _ _ _ _ => rfl
  have b1 := (Below.refl w.heap.size w).alloc (Nat.le_refl _) (.cells #[.int .i64 0, .int .i64 0, .int .i64 0, .int .i64 0, .int .i64 0, .slice none 0 0, .slice none 0 0, .string ⟨#[]⟩, .int .i64 0] 30)
  have hT := heap_alloc_new w (.cells #[.int .i64 0, .int .i64 0, .int .i64 0, .int .i64 0, .int .i64 0, .slice none 0 0, .slice none 0 0, .string ⟨#[]⟩, .int .i64 0] 30)
  have z1 : (w.alloc (.cells #[.int .i64 0, .int .i64 0, .int .i64 0, .int .i64 0, .int .i64 0, .slice none 0 0, .slice none 0 0, .string ⟨#[]⟩, .int .i64 0] 30)).heap.size = w.heap.size + 1 := by simp
  have b2 := b1.alloc b1.size (.cells #[.int .i64 0, .int .i64 0] 35)
  have hF := heap_alloc_new (w.alloc (.cells #[.int .i64 0, .int .i64 0, .int .i64 0, .int .i64 0, .int .i64 0, .slice none 0 0, .slice none 0 0, .string ⟨#[]⟩, .int .i64 0] 30)) (.cells #[.int .i64 0, .int .i64 0] 35)
  rw [z1] at hF
  replace hT := (((Below.refl _ _).alloc (Nat.le_refl _) (.cells #[.int .i64 0, .int .i64 0] 35)).block w.heap.size (by omega)).trans hT
  go_enter Tryz.func10, Tryz.ntmps10
  go_upto_region 1 with fail
  generalize (w.alloc (.cells #[.int .i64 0, .int .i64 0, .int .i64 0, .int .i64 0, .int .i64 0, .slice none 0 0, .slice none 0 0, .string ⟨#[]⟩, .int .i64 0] 30)).alloc (.cells #[.int .i64 0, .int .i64 0] 35) = V at *
  clear z1 b1
  have lF := bltK hF
  go_wp2_with fail
  refine curnew_calls s hs V _ (Lib.hid fun l p w1 es hp c n1 => ?_) (Lib.hid fun e z w1 es n1 => ?_)
  · have hl := scnS_len es
    rw [typeS_ok es] at hR
    obtain ⟨g, cg⟩ := c
    replace hT := (n1.block _ (bltK hT)).trans hT
    replace hF := (n1.block _ (bltK hF)).trans hF
    replace b2 := b2.trans (n1.mono b2.size)
    have lV := n1.size
    have ma := (Below.refl w1.heap.size w1).alloc (Nat.le_refl _) (.cells #[.int .i64 0, .int .i64 0] 35)
    have hG := heap_alloc_new w1 (.cells #[.int .i64 0, .int .i64 0] 35)
    replace hT := (ma.block _ (bltK hT)).trans hT
    replace hF := (ma.block _ (bltK hF)).trans hF
    replace b2 := b2.trans (ma.mono b2.size)
    replace cg := cg.all ma
    have lW := bltK hF
    clear n1 es
    go_upto_region 2 with fail
    generalize w1.alloc (.cells #[.int .i64 0, .int .i64 0] 35) = V2 at *
    generalize w1.heap.size = B at *
    clear ma
    have f0 := (Lib.cell_of_heap hG 0).trans rfl
    go_upto_region 4 with fail
    clear f0
    have mb := (Below.refl V2.heap.size V2).alloc (Nat.le_refl _) (.cells #[ptV p] 48)
    have hQ := heap_alloc_new V2 (.cells #[ptV p] 48)
    replace hT := (mb.block _ (bltK hT)).trans hT
    replace hF := (mb.block _ (bltK hF)).trans hF
    replace b2 := b2.trans (mb.mono b2.size)
    have ps : PsG (V2.alloc (.cells #[ptV p] 48)) V2.heap.size p g 0 (l, 0, 0) := ⟨cg.all mb, hQ⟩
    go_upto_region 5 with fail
    generalize V2.alloc (.cells #[ptV p] 48) = V3 at *
    generalize V2.heap.size = Q at *
    clear mb hQ cg hG
    go_wp2_with fail
    refine wholeT2_calls l Q p g V3 ps hl _ (Lib.hid fun w5 nv pv gr r => ?_)
    obtain ⟨A3, c3, rfl, -, -⟩ := r.n.op
    obtain ⟨A4, c4, rfl, -⟩ := r.p.sl
    have lT3 := bltK hT
    have lF3 := bltK hF
    replace hT := (gr.block _ lT3 (fun e => by simp only [Option.some.injEq] at e; omega)).trans hT
    replace hF := (gr.block _ lF3 (fun e => by simp only [Option.some.injEq] at e; omega)).trans hF
    replace b2 := b2.trans (bl_gr gr (by omega) b2.size)
    clear gr ps
    generalize typeP l = X at *
    obtain ⟨⟨hh, ff⟩, fe, fz⟩ := X
    simp only at *
    have y0 := (Lib.cell_of_heap hT 0).trans rfl
    have yf0 := Lib.frozen_of_heap hT 0
    have y1 := (Lib.cell_of_heap hT 1).trans rfl
    have yf1 := Lib.frozen_of_heap hT 1
    have y2 := (Lib.cell_of_heap hT 2).trans rfl
    have yf2 := Lib.frozen_of_heap hT 2
    have y3 := (Lib.cell_of_heap hT 3).trans rfl
    have yf3 := Lib.frozen_of_heap hT 3
    have y4 := (Lib.cell_of_heap hT 4).trans rfl
    have yf4 := Lib.frozen_of_heap hT 4
    have y5 := (Lib.cell_of_heap hT 5).trans rfl
    have yf5 := Lib.frozen_of_heap hT 5
    have y6 := (Lib.cell_of_heap hT 6).trans rfl
    have yf6 := Lib.frozen_of_heap hT 6
    have y7 := (Lib.cell_of_heap hT 7).trans rfl
    have yf7 := Lib.frozen_of_heap hT 7
    have y8 := (Lib.cell_of_heap hT 8).trans rfl
    have yf8 := Lib.frozen_of_heap hT 8
    have z0 := (Lib.cell_of_heap hF 0).trans rfl
    have zf0 := Lib.frozen_of_heap hF 0
    have z1 := (Lib.cell_of_heap hF 1).trans rfl
    have zf1 := Lib.frozen_of_heap hF 1
    have r2 := (RdY.kp (kp_set (T := w.heap.size + 1) (b := w.heap.size + 2) (b0 := w.heap.size + 2) (by omega) (Nat.le_refl _) 1 (.int .i64 fz)) (RdY.kp (kp_set (T := w.heap.size + 1) (b := w.heap.size + 2) (b0 := w.heap.size + 2) (by omega) (Nat.le_refl _) 0 (.int .i64 fe)) (RdY.kp (kp_set (T := w.heap.size) (b := w.heap.size + 2) (b0 := w.heap.size + 2) (by omega) (Nat.le_refl _) 8 (.int .i64 hh.nat)) (RdY.kp (kp_set (T := w.heap.size) (b := w.heap.size + 2) (b0 := w.heap.size + 2) (by omega) (Nat.le_refl _) 7 (.string hh.name)) (RdY.kp (kp_set (T := w.heap.size) (b := w.heap.size + 2) (b0 := w.heap.size + 2) (by omega) (Nat.le_refl _) 6 (.slice A4 ff.len c4)) (RdY.kp (kp_set (T := w.heap.size) (b := w.heap.size + 2) (b0 := w.heap.size + 2) (by omega) (Nat.le_refl _) 5 (.slice A3 hh.names.length c3)) (RdY.kp (kp_set (T := w.heap.size) (b := w.heap.size + 2) (b0 := w.heap.size + 2) (by omega) (Nat.le_refl _) 4 (.int .i64 hh.most)) (RdY.kp (kp_set (T := w.heap.size) (b := w.heap.size + 2) (b0 := w.heap.size + 2) (by omega) (Nat.le_refl _) 3 (.int .i64 hh.hi)) (RdY.kp (kp_set (T := w.heap.size) (b := w.heap.size + 2) (b0 := w.heap.size + 2) (by omega) (Nat.le_refl _) 2 (.int .i64 hh.lo)) (RdY.kp (kp_set (T := w.heap.size) (b := w.heap.size + 2) (b0 := w.heap.size + 2) (by omega) (Nat.le_refl _) 1 (.int .i64 hh.at_)) (RdY.kp (kp_set (T := w.heap.size) (b := w.heap.size + 2) (b0 := w.heap.size + 2) (by omega) (Nat.le_refl _) 0 (.int .i64 hh.kind)) (RdY.kp (kp_low (b0 := w.heap.size + 2) (by omega)) r))))))))))))
    have b3 := (((((((((((b2.setCell (p := ⟨w.heap.size, 0, none⟩) (by show w.heap.size ≤ w.heap.size; omega) (.int .i64 hh.kind)).setCell (p := ⟨w.heap.size, 1, none⟩) (by show w.heap.size ≤ w.heap.size; omega) (.int .i64 hh.at_)).setCell (p := ⟨w.heap.size, 2, none⟩) (by show w.heap.size ≤ w.heap.size; omega) (.int .i64 hh.lo)).setCell (p := ⟨w.heap.size, 3, none⟩) (by show w.heap.size ≤ w.heap.size; omega) (.int .i64 hh.hi)).setCell (p := ⟨w.heap.size, 4, none⟩) (by show w.heap.size ≤ w.heap.size; omega) (.int .i64 hh.most)).setCell (p := ⟨w.heap.size, 5, none⟩) (by show w.heap.size ≤ w.heap.size; omega) (.slice A3 hh.names.length c3)).setCell (p := ⟨w.heap.size, 6, none⟩) (by show w.heap.size ≤ w.heap.size; omega) (.slice A4 ff.len c4)).setCell (p := ⟨w.heap.size, 7, none⟩) (by show w.heap.size ≤ w.heap.size; omega) (.string hh.name)).setCell (p := ⟨w.heap.size, 8, none⟩) (by show w.heap.size ≤ w.heap.size; omega) (.int .i64 hh.nat)).setCell (p := ⟨w.heap.size + 1, 0, none⟩) (by show w.heap.size ≤ w.heap.size + 1; omega) (.int .i64 fe)).setCell (p := ⟨w.heap.size + 1, 1, none⟩) (by show w.heap.size ≤ w.heap.size + 1; omega) (.int .i64 fz))
    have fin := Lib.hid (hR.out _ _ _ b3 (RdY.kp (kp_low (by omega)) r2))
    clear hR r r2 b2 b3
    go_wp2_with fail
    first | refine bodyPost_ret ?_ rfl fin.out | refine bodyPost_end ?_ rfl fin.out
    simp [results, Tryz.results10, go_sem, y0, y1, y2, y3, y4, y5, y6, y7, y8, z0, z1]
  · rw [typeS_bad es] at hR
    simp only at hR
    replace hT := (n1.block _ (bltK hT)).trans hT
    replace hF := (n1.block _ (bltK hF)).trans hF
    replace b2 := b2.trans (n1.mono b2.size)
    have he := (scn_bad es).1
    have q1 : (e != 0) = true := by simpa using he
    clear he es
    have ma := (Below.refl w1.heap.size w1).alloc (Nat.le_refl _) (.cells #[.int .i64 e, .int .i64 z] 35)
    have hG := heap_alloc_new w1 (.cells #[.int .i64 e, .int .i64 z] 35)
    have lW := bltK hF
    replace hT := (ma.block _ (bltK hT)).trans hT
    replace hF := (ma.block _ (bltK hF)).trans hF
    replace b2 := b2.trans (ma.mono b2.size)
    clear n1
    go_upto_region 2 with fail
    generalize w1.alloc (.cells #[.int .i64 e, .int .i64 z] 35) = V2 at *
    generalize w1.heap.size = B at *
    clear ma
    have f0 := (Lib.cell_of_heap hG 0).trans rfl
    go_upto_region 3 with fail
    clear f0
    have lG := bltK hG
    have jG : ∀ y : GW V2 w.heap.size (w.heap.size + 1), y.w.rangeAt B 0 [.int .i64 e, .int .i64 z] := fun y j v h => by rw [Nat.zero_add, Lib.cell_of_heap ((y.b _ lG (by omega) (by omega)).trans hG)]; simpa using h
    refine wp_region_mixG w.heap.size (w.heap.size + 1) [([0, 1], 2), ([], 3)] [] (by kernel_rfl) (by kernel_rfl) (by kernel_rfl) (by kernel_rfl) (fun _ _ d _ _ h => by cases d <;> exact h) ?_
    have gW : Below V2.heap.size V2 (V2.drewN 1) := ⟨rfl, rfl, rfl, Nat.le_refl _, fun _ _ => rfl⟩
    replace hT := (gW.block _ (bltK hT)).trans hT
    replace hF := (gW.block _ (bltK hF)).trans hF
    replace b2 := b2.trans (gW.mono b2.size)
    refine mix_cons (os := [_, _]) (by simp only [pickO, List.filterMap_cons, List.filterMap_nil, List.getElem?_toArray, List.getElem?_cons_succ, List.getElem?_cons_zero]; rfl) (fun Kp hKp => ?_)
    go_big_quiet_step (exact rfl)
    refine wpQuiet_load rfl 35 _ rfl B 0 rfl [.int .i64 e, .int .i64 z] _ (by rintro V ⟨y, rfl⟩; exact jG y) Tryz.underlying35 rfl (by kernel_rfl) ?_
    go_simp
    refine wpQuiet_nil ?_
    refine hKp _ ?_
    clear hKp
    refine loud (by rfl) (by kernel_rfl) (fun K2 hK2 => ?_)
    have y0 := (Lib.cell_of_heap hT 0).trans rfl
    have yf0 := Lib.frozen_of_heap hT 0
    have y1 := (Lib.cell_of_heap hT 1).trans rfl
    have yf1 := Lib.frozen_of_heap hT 1
    have y2 := (Lib.cell_of_heap hT 2).trans rfl
    have yf2 := Lib.frozen_of_heap hT 2
    have y3 := (Lib.cell_of_heap hT 3).trans rfl
    have yf3 := Lib.frozen_of_heap hT 3
    have y4 := (Lib.cell_of_heap hT 4).trans rfl
    have yf4 := Lib.frozen_of_heap hT 4
    have y5 := (Lib.cell_of_heap hT 5).trans rfl
    have yf5 := Lib.frozen_of_heap hT 5
    have y6 := (Lib.cell_of_heap hT 6).trans rfl
    have yf6 := Lib.frozen_of_heap hT 6
    have y7 := (Lib.cell_of_heap hT 7).trans rfl
    have yf7 := Lib.frozen_of_heap hT 7
    have y8 := (Lib.cell_of_heap hT 8).trans rfl
    have yf8 := Lib.frozen_of_heap hT 8
    have b3 := (((((((((b2.setCell (p := ⟨w.heap.size, 0, none⟩) (Nat.le_refl _) (.int .i64 0)).setCell (p := ⟨w.heap.size, 1, none⟩) (Nat.le_refl _) (.int .i64 0)).setCell (p := ⟨w.heap.size, 2, none⟩) (Nat.le_refl _) (.int .i64 0)).setCell (p := ⟨w.heap.size, 3, none⟩) (Nat.le_refl _) (.int .i64 0)).setCell (p := ⟨w.heap.size, 4, none⟩) (Nat.le_refl _) (.int .i64 0)).setCell (p := ⟨w.heap.size, 5, none⟩) (Nat.le_refl _) (.slice none 0 0)).setCell (p := ⟨w.heap.size, 6, none⟩) (Nat.le_refl _) (.slice none 0 0)).setCell (p := ⟨w.heap.size, 7, none⟩) (Nat.le_refl _) (.string ⟨#[]⟩)).setCell (p := ⟨w.heap.size, 8, none⟩) (Nat.le_refl _) (.int .i64 0))
    have hT2 := (satK (satK (satK (satK (satK (satK (satK (satK (satK hT 0 (.int .i64 0)) 1 (.int .i64 0)) 2 (.int .i64 0)) 3 (.int .i64 0)) 4 (.int .i64 0)) 5 (.slice none 0 0)) 6 (.slice none 0 0)) 7 (.string ⟨#[]⟩)) 8 (.int .i64 0))
    have hF2 : ((((((((((V2.drewN 1).setCell ⟨w.heap.size, 0, none⟩ (.int .i64 0)).setCell ⟨w.heap.size, 1, none⟩ (.int .i64 0)).setCell ⟨w.heap.size, 2, none⟩ (.int .i64 0)).setCell ⟨w.heap.size, 3, none⟩ (.int .i64 0)).setCell ⟨w.heap.size, 4, none⟩ (.int .i64 0)).setCell ⟨w.heap.size, 5, none⟩ (.slice none 0 0)).setCell ⟨w.heap.size, 6, none⟩ (.slice none 0 0)).setCell ⟨w.heap.size, 7, none⟩ (.string ⟨#[]⟩)).setCell ⟨w.heap.size, 8, none⟩ (.int .i64 0)).heap[w.heap.size + 1]? = _ := ((sneK (by omega)).trans ((sneK (by omega)).trans ((sneK (by omega)).trans ((sneK (by omega)).trans ((sneK (by omega)).trans ((sneK (by omega)).trans ((sneK (by omega)).trans ((sneK (by omega)).trans ((sneK (by omega)).trans hF)))))))))
    clear b2 hT hF
    simp only [List.setIfInBounds_toArray, List.set_cons_succ, List.set_cons_zero] at hT2
    go_simp
    refine hK2 _ _ (gw_setp (gw_setp (gw_setp (gw_setp (gw_setp (gw_setp (gw_setp (gw_setp (gw_setp (GW.bl gW) _) _) _) _) _) _) _) _) _) ?_
    clear hK2
    have gQ : ∃ x : GW V2 w.heap.size (w.heap.size + 1), (((((((((V2.drewN 1).setCell ⟨w.heap.size, 0, none⟩ (.int .i64 0)).setCell ⟨w.heap.size, 1, none⟩ (.int .i64 0)).setCell ⟨w.heap.size, 2, none⟩ (.int .i64 0)).setCell ⟨w.heap.size, 3, none⟩ (.int .i64 0)).setCell ⟨w.heap.size, 4, none⟩ (.int .i64 0)).setCell ⟨w.heap.size, 5, none⟩ (.slice none 0 0)).setCell ⟨w.heap.size, 6, none⟩ (.slice none 0 0)).setCell ⟨w.heap.size, 7, none⟩ (.string ⟨#[]⟩)).setCell ⟨w.heap.size, 8, none⟩ (.int .i64 0) = x.w := (gw_setp (gw_setp (gw_setp (gw_setp (gw_setp (gw_setp (gw_setp (gw_setp (gw_setp (GW.bl gW) _) _) _) _) _) _) _) _) _)
    generalize (((((((((V2.drewN 1).setCell ⟨w.heap.size, 0, none⟩ (.int .i64 0)).setCell ⟨w.heap.size, 1, none⟩ (.int .i64 0)).setCell ⟨w.heap.size, 2, none⟩ (.int .i64 0)).setCell ⟨w.heap.size, 3, none⟩ (.int .i64 0)).setCell ⟨w.heap.size, 4, none⟩ (.int .i64 0)).setCell ⟨w.heap.size, 5, none⟩ (.slice none 0 0)).setCell ⟨w.heap.size, 6, none⟩ (.slice none 0 0)).setCell ⟨w.heap.size, 7, none⟩ (.string ⟨#[]⟩)).setCell ⟨w.heap.size, 8, none⟩ (.int .i64 0) = V8 at *
    clear y0 yf0 y1 yf1 y2 yf2 y3 yf3 y4 yf4 y5 yf5 y6 yf6 y7 yf7 y8 yf8
    refine mix_cons (os := []) (by rfl) (fun Kp hKp => ?_)
    refine wpQuiet_nil ?_
    refine hKp _ ?_
    clear hKp
    refine loud (by rfl) (by kernel_rfl) (fun K3 hK3 => ?_)
    have z0 := (Lib.cell_of_heap hF2 0).trans rfl
    have zf0 := Lib.frozen_of_heap hF2 0
    have z1 := (Lib.cell_of_heap hF2 1).trans rfl
    have zf1 := Lib.frozen_of_heap hF2 1
    go_simp
    refine hK3 _ _ (GW.set (GW.set gQ _) _) ?_
    clear hK3
    refine mix_nil (os := []) (by rfl) (fun Kp hKp => ?_)
    refine wpQuiet_nil ?_
    refine hKp _ ?_
    clear hKp
    have fin := Lib.hid (hR.out _ _ _ ((b3.setCell (p := ⟨w.heap.size + 1, 0, none⟩) (by show w.heap.size ≤ w.heap.size + 1; omega) (.int .i64 e)).setCell (p := ⟨w.heap.size + 1, 1, none⟩) (by show w.heap.size ≤ w.heap.size + 1; omega) (.int .i64 z)) ⟨RdW.none0 _, RdSl.nil _ none 0⟩)
    have x0 := (Lib.cell_of_heap ((sneK (w := V8.setCell ⟨w.heap.size + 1, 0, none⟩ (.int .i64 e)) (q := w.heap.size + 1) (o := 1) (v := .int .i64 z) (show w.heap.size ≠ w.heap.size + 1 by omega)).trans ((sneK (w := V8) (q := w.heap.size + 1) (o := 0) (v := .int .i64 e) (show w.heap.size ≠ w.heap.size + 1 by omega)).trans hT2)) 0).trans rfl
    have x1 := (Lib.cell_of_heap ((sneK (w := V8.setCell ⟨w.heap.size + 1, 0, none⟩ (.int .i64 e)) (q := w.heap.size + 1) (o := 1) (v := .int .i64 z) (show w.heap.size ≠ w.heap.size + 1 by omega)).trans ((sneK (w := V8) (q := w.heap.size + 1) (o := 0) (v := .int .i64 e) (show w.heap.size ≠ w.heap.size + 1 by omega)).trans hT2)) 1).trans rfl
    have x2 := (Lib.cell_of_heap ((sneK (w := V8.setCell ⟨w.heap.size + 1, 0, none⟩ (.int .i64 e)) (q := w.heap.size + 1) (o := 1) (v := .int .i64 z) (show w.heap.size ≠ w.heap.size + 1 by omega)).trans ((sneK (w := V8) (q := w.heap.size + 1) (o := 0) (v := .int .i64 e) (show w.heap.size ≠ w.heap.size + 1 by omega)).trans hT2)) 2).trans rfl
    have x3 := (Lib.cell_of_heap ((sneK (w := V8.setCell ⟨w.heap.size + 1, 0, none⟩ (.int .i64 e)) (q := w.heap.size + 1) (o := 1) (v := .int .i64 z) (show w.heap.size ≠ w.heap.size + 1 by omega)).trans ((sneK (w := V8) (q := w.heap.size + 1) (o := 0) (v := .int .i64 e) (show w.heap.size ≠ w.heap.size + 1 by omega)).trans hT2)) 3).trans rfl
    have x4 := (Lib.cell_of_heap ((sneK (w := V8.setCell ⟨w.heap.size + 1, 0, none⟩ (.int .i64 e)) (q := w.heap.size + 1) (o := 1) (v := .int .i64 z) (show w.heap.size ≠ w.heap.size + 1 by omega)).trans ((sneK (w := V8) (q := w.heap.size + 1) (o := 0) (v := .int .i64 e) (show w.heap.size ≠ w.heap.size + 1 by omega)).trans hT2)) 4).trans rfl
    have x5 := (Lib.cell_of_heap ((sneK (w := V8.setCell ⟨w.heap.size + 1, 0, none⟩ (.int .i64 e)) (q := w.heap.size + 1) (o := 1) (v := .int .i64 z) (show w.heap.size ≠ w.heap.size + 1 by omega)).trans ((sneK (w := V8) (q := w.heap.size + 1) (o := 0) (v := .int .i64 e) (show w.heap.size ≠ w.heap.size + 1 by omega)).trans hT2)) 5).trans rfl
    have x6 := (Lib.cell_of_heap ((sneK (w := V8.setCell ⟨w.heap.size + 1, 0, none⟩ (.int .i64 e)) (q := w.heap.size + 1) (o := 1) (v := .int .i64 z) (show w.heap.size ≠ w.heap.size + 1 by omega)).trans ((sneK (w := V8) (q := w.heap.size + 1) (o := 0) (v := .int .i64 e) (show w.heap.size ≠ w.heap.size + 1 by omega)).trans hT2)) 6).trans rfl
    have x7 := (Lib.cell_of_heap ((sneK (w := V8.setCell ⟨w.heap.size + 1, 0, none⟩ (.int .i64 e)) (q := w.heap.size + 1) (o := 1) (v := .int .i64 z) (show w.heap.size ≠ w.heap.size + 1 by omega)).trans ((sneK (w := V8) (q := w.heap.size + 1) (o := 0) (v := .int .i64 e) (show w.heap.size ≠ w.heap.size + 1 by omega)).trans hT2)) 7).trans rfl
    have x8 := (Lib.cell_of_heap ((sneK (w := V8.setCell ⟨w.heap.size + 1, 0, none⟩ (.int .i64 e)) (q := w.heap.size + 1) (o := 1) (v := .int .i64 z) (show w.heap.size ≠ w.heap.size + 1 by omega)).trans ((sneK (w := V8) (q := w.heap.size + 1) (o := 0) (v := .int .i64 e) (show w.heap.size ≠ w.heap.size + 1 by omega)).trans hT2)) 8).trans rfl
    clear hR b3
    go_wp2_with fail
    first | refine bodyPost_ret ?_ rfl fin.out | refine bodyPost_end ?_ rfl fin.out
    simp [results, Tryz.results10, go_sem, z0, z1, x0, x1, x2, x3, x4, x5, x6, x7, x8]
    repeat' apply And.intro
    all_goals rfl

end Go.Proofs.YthelhplcijhioaaGreat.Syn
