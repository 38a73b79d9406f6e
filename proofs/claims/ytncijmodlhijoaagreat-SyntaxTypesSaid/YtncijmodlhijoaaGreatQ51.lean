import Derived.Test.YtncijmodlhijoaaGreatQ50
import Derived.Test.YtncijmodlhijoaaGreatQ28
import Derived.Test.YtncijmodlhijoaaGreatQ9
set_option linter.unusedVariables false
set_option maxRecDepth 100000
set_option maxHeartbeats 4000000
namespace Go.Proofs.YtncijmodlhijoaaGreat.Syn
open Go.RowKit Go.Lib Utf Tok Cur Nam Lat Kin
theorem gw_setp {W W' : World} {p q o : Nat} (h : ∃ x : GW W p q, W' = x.w) (a : Value) : ∃ x : GW W p q, W'.setCell ⟨p, o, none⟩ a = x.w := by
 obtain ⟨⟨W', s, bl⟩, rfl⟩ := h
 exact ⟨⟨_, Nat.le_trans s ((Below.refl p W').setCell (p := ⟨p, o, none⟩) (Nat.le_refl _) a).size, fun k hk h1 h2 => (Below.heap_setCell _ ⟨p, o, none⟩ a k h1).trans (bl k hk h1 h2)⟩, rfl⟩
theorem isF_any : IsF 66 := by
 intro args w
 unfold callFunc
 simp [go_sem, Tryz.func66]
 rfl
theorem wholeT_calls (s : PS) (q p g : Nat) (w : World) (h : PsG w q p g 0 s) (hl : s.1.length ≤ 1000000) (R : Ending → World → Prop)
  (hR1 : Hid (∀ w' g', Nx w q p g 0 w' g' (wholeC (typC 24 s).2) → (wholeC (typC 24 s).2).2.1 ≠ 0 → R (.returned (.tuple #[tyV zTH (.slice none 0 0) (.slice none 0 0), .agg #[.int .i64 (wholeC (typC 24 s).2).2.1, .int .i64 (wholeC (typC 24 s).2).2.2]])) w'))
  (hR2 : Hid (∀ w' g' nv pv, Nx w q p g 0 w' g' (wholeC (typC 24 s).2) → (wholeC (typC 24 s).2).2.1 = 0 → RdY (empW (lowS w.heap.size) w') (typC 24 s).1.1 (typC 24 s).1.2 nv pv → R (.returned (.tuple #[tyV (typC 24 s).1.1 nv pv, .agg #[.int .i64 0, .int .i64 0]])) w')) : Calls Tryz.prog 65 #[ptV q, .func (.func 66) #[ptV q] #[]] w R := by
 have lp := h.cur.lt
 have hF := isF_any
 unfold IsF at hF
 have n := Nx.rfl' h
 have bR := Bx.new n #[.int .i64 0, .int .i64 0, .int .i64 0, .int .i64 0, .int .i64 0, .slice none 0 0, .slice none 0 0, .string ⟨#[]⟩, .int .i64 0] 29
 obtain ⟨o1_, ho1_⟩ : ∃ oO_ : Obj, oO_ = .cells #[.int .i64 0, .int .i64 0, .int .i64 0, .int .i64 0, .int .i64 0, .slice none 0 0, .slice none 0 0, .string ⟨#[]⟩, .int .i64 0] 29 := ⟨_, rfl⟩
 replace n := n.alloc o1_
 have zR : (w.alloc o1_).heap.size = w.heap.size + 1 := by simp
 subst ho1_
 have bF := Bx.new n #[.int .i64 0, .int .i64 0] 35
 replace bR := bR.alloc (.cells #[.int .i64 0, .int .i64 0] 35)
 replace n := n.alloc (.cells #[.int .i64 0, .int .i64 0] 35)
 rw [zR] at bF
 clear zR
 go_enter Tryz.func65, Tryz.ntmps65
 go_upto_region 1 with fail
 generalize (w.alloc (.cells #[.int .i64 0, .int .i64 0, .int .i64 0, .int .i64 0, .int .i64 0, .slice none 0 0, .slice none 0 0, .string ⟨#[]⟩, .int .i64 0] 29)).alloc (.cells #[.int .i64 0, .int .i64 0] 35) = V at *
 go_wp2_with fail
 refine any_calls s q p g V n.ps hl _ (Lib.hid fun w1 g1 nv pv n1 r1 => ?_)
 have lV := n.gr.size
 have lFV := bF.lt
 have gt := gd_typ 24 s h.ok
 obtain ⟨A3, c3, rfl, -, -⟩ := r1.n.op
 obtain ⟨A4, c4, rfl, -⟩ := r1.p.sl
 replace bR := bR.nx n1 lp
 replace bF := bF.nx n1 lp
 replace n := n.trans n1
 clear n1
 generalize typC 24 s = X at *
 obtain ⟨⟨hh, ff⟩, s1⟩ := X
 simp only at *
 have lC0 := bF.lt
 replace r1 := RdY.kp (kp_low (b0 := w.heap.size + 2) (by omega)) r1
 have bC := Bx.new n #[.int .i64 hh.kind, .int .i64 hh.at_, .int .i64 hh.lo, .int .i64 hh.hi, .int .i64 hh.most, .slice A3 hh.names.length c3, .slice A4 ff.len c4, .string hh.name, .int .i64 hh.nat] 29
 obtain ⟨o2_, ho2_⟩ : ∃ oO_ : Obj, oO_ = .cells #[.int .i64 hh.kind, .int .i64 hh.at_, .int .i64 hh.lo, .int .i64 hh.hi, .int .i64 hh.most, .slice A3 hh.names.length c3, .slice A4 ff.len c4, .string hh.name, .int .i64 hh.nat] 29 := ⟨_, rfl⟩
 replace bR := bR.alloc o2_
 replace bF := bF.alloc o2_
 replace n := n.alloc o2_
 replace r1 := RdY.kp (emp_kp (S := lowS (w.heap.size + 2)) (S' := lowS (w.heap.size + 2)) (by simp) fun k hk nk => ⟨nk, ((Below.refl _ w1).alloc (Nat.le_refl _) o2_).block k hk⟩) r1
 subst ho2_
 go_upto_region 2 with fail
 generalize w1.alloc (.cells #[.int .i64 hh.kind, .int .i64 hh.at_, .int .i64 hh.lo, .int .i64 hh.hi, .int .i64 hh.most, .slice A3 hh.names.length c3, .slice A4 ff.len c4, .string hh.name, .int .i64 hh.nat] 29) = V1 at *
 generalize w1.heap.size = C at *
 have b0 := n.ps.b0
 go_wp2_with fail
 refine pk_calls s1 q p g1 _ V1 n.ps _ (Lib.hid fun w2 n2 m2 => ?_)
 replace r1 := RdY.kp (Nx.kp (b := w.heap.size + 2) (b0 := w.heap.size + 2) n2 (by omega) (Nat.le_refl _)) r1
 replace bR := bR.nx n2 lp
 replace bF := bF.nx n2 lp
 replace bC := bC.nx n2 lp
 replace n := n.trans n2
 clear n2 m2 b0
 have hw : wholeC s1 = if (pkS s1).1 ≠ 0 then wrongS s1 else s1 := rfl
 have hf0 := fun w => run_field0 (pkS s1).1 (pkS s1).2.1 (pkS s1).2.2.1 (pkS s1).2.2.2.1 (pkS s1).2.2.2.2 w
 simp only [tkV]
 generalize (pkS s1).1 = t0 at *
 by_cases h0 : t0 ≠ 0
 ·rw [if_pos h0] at hw
  have q0 : (t0 != 0) = true := by simpa using h0
  clear h0
  rw [hw] at hR1 hR2
  clear hw
  go_wp2_with fail
  refine refuse_calls s1 q p g1 _ _ n.ps _ (Lib.hid fun w3 g3 n3 => ?_)
  replace r1 := RdY.kp (Nx.kp (b := w.heap.size + 2) (b0 := w.heap.size + 2) n3 (by omega) (Nat.le_refl _)) r1
  replace bR := bR.nx n3 lp
  replace bF := bF.nx n3 lp
  replace bC := bC.nx n3 lp
  replace n := n.trans n3
  clear n3 hf0
  generalize wrongS s1 = s2 at *
  have b0 := n.ps.b0
  go_wp2_with fail
  refine fault_calls (cu 0 s2) p g3 w3 n.ps.cur _ (Lib.hid fun w5 m5 => ?_)
  have n5 := n.ps.same m5
  replace r1 := RdY.kp (Nx.kp (b := w.heap.size + 2) (b0 := w.heap.size + 2) n5 (by omega) (Nat.le_refl _)) r1
  replace bR := bR.nx n5 lp
  replace bF := bF.nx n5 lp
  replace bC := bC.nx n5 lp
  replace n := n.trans n5
  clear n5 m5 b0
  have lG0 := bC.lt
  have bG := Bx.new n #[.int .i64 s2.2.1, .int .i64 s2.2.2] 35
  obtain ⟨o3_, ho3_⟩ : ∃ oO_ : Obj, oO_ = .cells #[.int .i64 s2.2.1, .int .i64 s2.2.2] 35 := ⟨_, rfl⟩
  replace bR := bR.alloc o3_
  replace bF := bF.alloc o3_
  replace bC := bC.alloc o3_
  replace n := n.alloc o3_
  replace r1 := RdY.kp (emp_kp (S := lowS (w.heap.size + 2)) (S' := lowS (w.heap.size + 2)) (by simp) fun k hk nk => ⟨nk, ((Below.refl _ w5).alloc (Nat.le_refl _) o3_).block k hk⟩) r1
  subst ho3_
  go_upto_region 5 with fail
  generalize w5.alloc (.cells #[.int .i64 s2.2.1, .int .i64 s2.2.2] 35) = V5 at *
  generalize w5.heap.size = G at *
  have f0 := (bG.c 0).trans rfl
  by_cases he : s2.2.1 = 0
  ·have q1 : (s2.2.1 != 0) = false := by simpa using he
   clear hR1
   have rC : V5.rangeAt C 0 [.int .i64 hh.kind, .int .i64 hh.at_, .int .i64 hh.lo, .int .i64 hh.hi, .int .i64 hh.most, .slice A3 hh.names.length c3, .slice A4 ff.len c4, .string hh.name, .int .i64 hh.nat] := fun j v e => by rw [Nat.zero_add, bC.c]; simpa using e
   have hRr := bR.at_
   have oC := bC.lo
   have e8 := bC.ne
   have hCF : C ≠ w.heap.size + 1 := by omega
   have n9 := n.row bR h #[.int .i64 hh.kind, .int .i64 hh.at_, .int .i64 hh.lo, .int .i64 hh.hi, .int .i64 hh.most, .slice A3 hh.names.length c3, .slice A4 ff.len c4, .string hh.name, .int .i64 hh.nat]
   have bR9 := bR.row #[.int .i64 hh.kind, .int .i64 hh.at_, .int .i64 hh.lo, .int .i64 hh.hi, .int .i64 hh.most, .slice A3 hh.names.length c3, .slice A4 ff.len c4, .string hh.name, .int .i64 hh.nat]
   have bF9 : Bx w (V5.setRow w.heap.size #[.int .i64 hh.kind, .int .i64 hh.at_, .int .i64 hh.lo, .int .i64 hh.hi, .int .i64 hh.most, .slice A3 hh.names.length c3, .slice A4 ff.len c4, .string hh.name, .int .i64 hh.nat]) p g3 (w.heap.size + 1) _ _ := ⟨(setRow_other _ _ _ _ (by omega)).trans bF.at_, bF.lo, bF.ne⟩
   have r9 := RdY.kp (kp_row (b0 := w.heap.size + 2) (T := w.heap.size) (b := w.heap.size + 2) (by omega) (Nat.le_refl _) #[.int .i64 hh.kind, .int .i64 hh.at_, .int .i64 hh.lo, .int .i64 hh.hi, .int .i64 hh.most, .slice A3 hh.names.length c3, .slice A4 ff.len c4, .string hh.name, .int .i64 hh.nat]) r1
   have z0 := (bF9.c 0).trans rfl
   have zf0 := Lib.frozen_of_heap bF9.at_ 0
   have z1 := (bF9.c 1).trans rfl
   have zf1 := Lib.frozen_of_heap bF9.at_ 1
   have fin := Lib.hid (hR2.out _ _ _ _ ((n9.setb bF9 h 0 (.int .i64 0)).setb (bF9.set 0 _) h 1 (.int .i64 0)) he (RdY.kp (kp_set (T := w.heap.size + 1) (b := w.heap.size + 2) (b0 := w.heap.size) (by omega) (by omega) 1 (.int .i64 0)) (RdY.kp (kp_set (T := w.heap.size + 1) (b := w.heap.size + 2) (b0 := w.heap.size + 2) (by omega) (by omega) 0 (.int .i64 0)) r9)))
   have x0 := ((bR9.setn (by omega) 0 (.int .i64 0) (C := w.heap.size + 1)).setn (by omega) 1 (.int .i64 0) (C := w.heap.size + 1)).c 0 |>.trans rfl
   have x1 := ((bR9.setn (by omega) 0 (.int .i64 0) (C := w.heap.size + 1)).setn (by omega) 1 (.int .i64 0) (C := w.heap.size + 1)).c 1 |>.trans rfl
   have x2 := ((bR9.setn (by omega) 0 (.int .i64 0) (C := w.heap.size + 1)).setn (by omega) 1 (.int .i64 0) (C := w.heap.size + 1)).c 2 |>.trans rfl
   have x3 := ((bR9.setn (by omega) 0 (.int .i64 0) (C := w.heap.size + 1)).setn (by omega) 1 (.int .i64 0) (C := w.heap.size + 1)).c 3 |>.trans rfl
   have x4 := ((bR9.setn (by omega) 0 (.int .i64 0) (C := w.heap.size + 1)).setn (by omega) 1 (.int .i64 0) (C := w.heap.size + 1)).c 4 |>.trans rfl
   have x5 := ((bR9.setn (by omega) 0 (.int .i64 0) (C := w.heap.size + 1)).setn (by omega) 1 (.int .i64 0) (C := w.heap.size + 1)).c 5 |>.trans rfl
   have x6 := ((bR9.setn (by omega) 0 (.int .i64 0) (C := w.heap.size + 1)).setn (by omega) 1 (.int .i64 0) (C := w.heap.size + 1)).c 6 |>.trans rfl
   have x7 := ((bR9.setn (by omega) 0 (.int .i64 0) (C := w.heap.size + 1)).setn (by omega) 1 (.int .i64 0) (C := w.heap.size + 1)).c 7 |>.trans rfl
   have x8 := ((bR9.setn (by omega) 0 (.int .i64 0) (C := w.heap.size + 1)).setn (by omega) 1 (.int .i64 0) (C := w.heap.size + 1)).c 8 |>.trans rfl
   clear hR2 n n9 r1 r9
   go_wp2_with (first | (refine wpList_load_g (by rfl) 29 _ rfl C 0 rfl [.int .i64 hh.kind, .int .i64 hh.at_, .int .i64 hh.lo, .int .i64 hh.hi, .int .i64 hh.most, .slice A3 hh.names.length c3, .slice A4 ff.len c4, .string hh.name, .int .i64 hh.nat] _ rC Tryz.underlying29 rfl (by kernel_rfl) ?_; go_simp) | (refine wpList_store_row (by rfl) 29 _ _ (by rfl) w.heap.size #[.int .i64 hh.kind, .int .i64 hh.at_, .int .i64 hh.lo, .int .i64 hh.hi, .int .i64 hh.most, .slice A3 hh.names.length c3, .slice A4 ff.len c4, .string hh.name, .int .i64 hh.nat] (by rfl) (by rfl) 29 _ hRr (by kernel_rfl) rfl (by simp [Value.oneCell']) ?_; go_simp))
   first | refine bodyPost_ret ?_ rfl fin.out | refine bodyPost_end ?_ rfl fin.out
   simp [results, Tryz.results65, go_sem, z0, z1, x0, x1, x2, x3, x4, x5, x6, x7, x8]
  ·have q1 : (s2.2.1 != 0) = true := by simpa using he
   have hNG : G < V5.heap.size := bG.lt
   have bN := Bx.new n #[.int .i64 0, .int .i64 0, .int .i64 0, .int .i64 0, .int .i64 0, .slice none 0 0, .slice none 0 0, .string ⟨#[]⟩, .int .i64 0] 29
   obtain ⟨o4_, ho4_⟩ : ∃ oO_ : Obj, oO_ = .cells #[.int .i64 0, .int .i64 0, .int .i64 0, .int .i64 0, .int .i64 0, .slice none 0 0, .slice none 0 0, .string ⟨#[]⟩, .int .i64 0] 29 := ⟨_, rfl⟩
   replace bR := bR.alloc o4_
   replace bF := bF.alloc o4_
   replace bC := bC.alloc o4_
   replace bG := bG.alloc o4_
   replace n := n.alloc o4_
   subst ho4_
   have en := hR1.out
   clear hR2 r1
   go_upto_region 7 with fail
   generalize V5.alloc (.cells #[.int .i64 0, .int .i64 0, .int .i64 0, .int .i64 0, .int .i64 0, .slice none 0 0, .slice none 0 0, .string ⟨#[]⟩, .int .i64 0] 29) = V7 at *
   generalize V5.heap.size = N at *
   clear f0
   have lN := bN.lt
   have lG := bG.lt
   have lR := bR.lt
   have lF := bF.lt
   have oG := bG.lo
   have oN := bN.lo
   have jN : ∀ y : GW V7 w.heap.size (w.heap.size + 1), y.w.rangeAt N 0 [.int .i64 0, .int .i64 0, .int .i64 0, .int .i64 0, .int .i64 0, .slice none 0 0, .slice none 0 0, .string ⟨#[]⟩, .int .i64 0] := fun y j v h => by rw [Nat.zero_add, Lib.cell_of_heap ((y.b _ lN (by omega) (by omega)).trans bN.at_)]; simpa using h
   have jG : ∀ y : GW V7 w.heap.size (w.heap.size + 1), y.w.rangeAt G 0 [.int .i64 s2.2.1, .int .i64 s2.2.2] := fun y j v h => by rw [Nat.zero_add, Lib.cell_of_heap ((y.b _ lG (by omega) (by omega)).trans bG.at_)]; simpa using h
   refine wp_region_mixG w.heap.size (w.heap.size + 1) [([0, 1], 2), ([], 3)] [] (by kernel_rfl) (by kernel_rfl) (by kernel_rfl) (by kernel_rfl) (fun _ _ d _ _ h => by cases d <;> exact h) ?_
   have gW : Below V7.heap.size V7 (V7.drewN 1) := ⟨rfl, rfl, rfl, Nat.le_refl _, fun _ _ => rfl⟩
   replace bR := bR.bl gW
   replace bF := bF.bl gW
   replace n := n.on gW
   refine mix_cons (os := [_, _]) (by simp only [pickO, List.filterMap_cons, List.filterMap_nil, List.getElem?_toArray, List.getElem?_cons_succ, List.getElem?_cons_zero]; rfl) (fun Kp hKp => ?_)
   refine wpQuiet_load rfl 29 _ rfl N 0 rfl [.int .i64 0, .int .i64 0, .int .i64 0, .int .i64 0, .int .i64 0, .slice none 0 0, .slice none 0 0, .string ⟨#[]⟩, .int .i64 0] _ (by rintro V ⟨y, rfl⟩; exact jN y) Tryz.underlying29 rfl (by kernel_rfl) ?_
   go_simp
   refine wpQuiet_load rfl 35 _ rfl G 0 rfl [.int .i64 s2.2.1, .int .i64 s2.2.2] _ (by rintro V ⟨y, rfl⟩; exact jG y) Tryz.underlying35 rfl (by kernel_rfl) ?_
   go_simp
   refine wpQuiet_nil ?_
   refine hKp _ ?_
   clear hKp
   refine loud (by rfl) (by kernel_rfl) (fun K2 hK2 => ?_)
   have y0 := (bR.c 0).trans rfl
   have yf0 := Lib.frozen_of_heap bR.at_ 0
   have y1 := (bR.c 1).trans rfl
   have yf1 := Lib.frozen_of_heap bR.at_ 1
   have y2 := (bR.c 2).trans rfl
   have yf2 := Lib.frozen_of_heap bR.at_ 2
   have y3 := (bR.c 3).trans rfl
   have yf3 := Lib.frozen_of_heap bR.at_ 3
   have y4 := (bR.c 4).trans rfl
   have yf4 := Lib.frozen_of_heap bR.at_ 4
   have y5 := (bR.c 5).trans rfl
   have yf5 := Lib.frozen_of_heap bR.at_ 5
   have y6 := (bR.c 6).trans rfl
   have yf6 := Lib.frozen_of_heap bR.at_ 6
   have y7 := (bR.c 7).trans rfl
   have yf7 := Lib.frozen_of_heap bR.at_ 7
   have y8 := (bR.c 8).trans rfl
   have yf8 := Lib.frozen_of_heap bR.at_ 8
   have n2 := (((((((((n.setb bR h 0 (.int .i64 0)).setb (bR.set 0 (.int .i64 0)) h 1 (.int .i64 0)).setb ((bR.set 0 (.int .i64 0)).set 1 (.int .i64 0)) h 2 (.int .i64 0)).setb (((bR.set 0 (.int .i64 0)).set 1 (.int .i64 0)).set 2 (.int .i64 0)) h 3 (.int .i64 0)).setb ((((bR.set 0 (.int .i64 0)).set 1 (.int .i64 0)).set 2 (.int .i64 0)).set 3 (.int .i64 0)) h 4 (.int .i64 0)).setb (((((bR.set 0 (.int .i64 0)).set 1 (.int .i64 0)).set 2 (.int .i64 0)).set 3 (.int .i64 0)).set 4 (.int .i64 0)) h 5 (.slice none 0 0)).setb ((((((bR.set 0 (.int .i64 0)).set 1 (.int .i64 0)).set 2 (.int .i64 0)).set 3 (.int .i64 0)).set 4 (.int .i64 0)).set 5 (.slice none 0 0)) h 6 (.slice none 0 0)).setb (((((((bR.set 0 (.int .i64 0)).set 1 (.int .i64 0)).set 2 (.int .i64 0)).set 3 (.int .i64 0)).set 4 (.int .i64 0)).set 5 (.slice none 0 0)).set 6 (.slice none 0 0)) h 7 (.string ⟨#[]⟩)).setb ((((((((bR.set 0 (.int .i64 0)).set 1 (.int .i64 0)).set 2 (.int .i64 0)).set 3 (.int .i64 0)).set 4 (.int .i64 0)).set 5 (.slice none 0 0)).set 6 (.slice none 0 0)).set 7 (.string ⟨#[]⟩)) h 8 (.int .i64 0))
   have bR2 := (((((((((bR.set 0 (.int .i64 0)).set 1 (.int .i64 0)).set 2 (.int .i64 0)).set 3 (.int .i64 0)).set 4 (.int .i64 0)).set 5 (.slice none 0 0)).set 6 (.slice none 0 0)).set 7 (.string ⟨#[]⟩)).set 8 (.int .i64 0))
   have bF2 := (((((((((bF.setn (by omega) 0 (.int .i64 0) (C := w.heap.size)).setn (by omega) 1 (.int .i64 0) (C := w.heap.size)).setn (by omega) 2 (.int .i64 0) (C := w.heap.size)).setn (by omega) 3 (.int .i64 0) (C := w.heap.size)).setn (by omega) 4 (.int .i64 0) (C := w.heap.size)).setn (by omega) 5 (.slice none 0 0) (C := w.heap.size)).setn (by omega) 6 (.slice none 0 0) (C := w.heap.size)).setn (by omega) 7 (.string ⟨#[]⟩) (C := w.heap.size)).setn (by omega) 8 (.int .i64 0) (C := w.heap.size))
   clear n bR bF
   simp only [List.setIfInBounds_toArray, List.set_cons_succ, List.set_cons_zero] at bR2
   go_simp
   refine hK2 _ _ (gw_setp (gw_setp (gw_setp (gw_setp (gw_setp (gw_setp (gw_setp (gw_setp (gw_setp (GW.bl gW) _) _) _) _) _) _) _) _) _) ?_
   clear hK2
   have gQ : ∃ x : GW V7 w.heap.size (w.heap.size + 1), (((((((((V7.drewN 1).setCell ⟨w.heap.size, 0, none⟩ (.int .i64 0)).setCell ⟨w.heap.size, 1, none⟩ (.int .i64 0)).setCell ⟨w.heap.size, 2, none⟩ (.int .i64 0)).setCell ⟨w.heap.size, 3, none⟩ (.int .i64 0)).setCell ⟨w.heap.size, 4, none⟩ (.int .i64 0)).setCell ⟨w.heap.size, 5, none⟩ (.slice none 0 0)).setCell ⟨w.heap.size, 6, none⟩ (.slice none 0 0)).setCell ⟨w.heap.size, 7, none⟩ (.string ⟨#[]⟩)).setCell ⟨w.heap.size, 8, none⟩ (.int .i64 0) = x.w := (gw_setp (gw_setp (gw_setp (gw_setp (gw_setp (gw_setp (gw_setp (gw_setp (gw_setp (GW.bl gW) _) _) _) _) _) _) _) _) _)
   generalize (((((((((V7.drewN 1).setCell ⟨w.heap.size, 0, none⟩ (.int .i64 0)).setCell ⟨w.heap.size, 1, none⟩ (.int .i64 0)).setCell ⟨w.heap.size, 2, none⟩ (.int .i64 0)).setCell ⟨w.heap.size, 3, none⟩ (.int .i64 0)).setCell ⟨w.heap.size, 4, none⟩ (.int .i64 0)).setCell ⟨w.heap.size, 5, none⟩ (.slice none 0 0)).setCell ⟨w.heap.size, 6, none⟩ (.slice none 0 0)).setCell ⟨w.heap.size, 7, none⟩ (.string ⟨#[]⟩)).setCell ⟨w.heap.size, 8, none⟩ (.int .i64 0) = V8 at *
   clear y0 yf0 y1 yf1 y2 yf2 y3 yf3 y4 yf4 y5 yf5 y6 yf6 y7 yf7 y8 yf8
   refine mix_cons (os := []) (by rfl) (fun Kp hKp => ?_)
   refine wpQuiet_nil ?_
   refine hKp _ ?_
   clear hKp
   refine loud (by rfl) (by kernel_rfl) (fun K3 hK3 => ?_)
   have z0 := (bF2.c 0).trans rfl
   have zf0 := Lib.frozen_of_heap bF2.at_ 0
   have z1 := (bF2.c 1).trans rfl
   have zf1 := Lib.frozen_of_heap bF2.at_ 1
   go_simp
   refine hK3 _ _ (GW.set (GW.set gQ _) _) ?_
   clear hK3
   refine mix_nil (os := []) (by rfl) (fun Kp hKp => ?_)
   refine wpQuiet_nil ?_
   refine hKp _ ?_
   clear hKp
   have fin := Lib.hid (hR1.out _ _ ((n2.setb bF2 h 0 (.int .i64 s2.2.1)).setb (bF2.set 0 _) h 1 (.int .i64 s2.2.2)) he)
   have x0 := ((bR2.setn (by omega) 0 (.int .i64 s2.2.1) (C := w.heap.size + 1)).setn (by omega) 1 (.int .i64 s2.2.2) (C := w.heap.size + 1)).c 0 |>.trans rfl
   have x1 := ((bR2.setn (by omega) 0 (.int .i64 s2.2.1) (C := w.heap.size + 1)).setn (by omega) 1 (.int .i64 s2.2.2) (C := w.heap.size + 1)).c 1 |>.trans rfl
   have x2 := ((bR2.setn (by omega) 0 (.int .i64 s2.2.1) (C := w.heap.size + 1)).setn (by omega) 1 (.int .i64 s2.2.2) (C := w.heap.size + 1)).c 2 |>.trans rfl
   have x3 := ((bR2.setn (by omega) 0 (.int .i64 s2.2.1) (C := w.heap.size + 1)).setn (by omega) 1 (.int .i64 s2.2.2) (C := w.heap.size + 1)).c 3 |>.trans rfl
   have x4 := ((bR2.setn (by omega) 0 (.int .i64 s2.2.1) (C := w.heap.size + 1)).setn (by omega) 1 (.int .i64 s2.2.2) (C := w.heap.size + 1)).c 4 |>.trans rfl
   have x5 := ((bR2.setn (by omega) 0 (.int .i64 s2.2.1) (C := w.heap.size + 1)).setn (by omega) 1 (.int .i64 s2.2.2) (C := w.heap.size + 1)).c 5 |>.trans rfl
   have x6 := ((bR2.setn (by omega) 0 (.int .i64 s2.2.1) (C := w.heap.size + 1)).setn (by omega) 1 (.int .i64 s2.2.2) (C := w.heap.size + 1)).c 6 |>.trans rfl
   have x7 := ((bR2.setn (by omega) 0 (.int .i64 s2.2.1) (C := w.heap.size + 1)).setn (by omega) 1 (.int .i64 s2.2.2) (C := w.heap.size + 1)).c 7 |>.trans rfl
   have x8 := ((bR2.setn (by omega) 0 (.int .i64 s2.2.1) (C := w.heap.size + 1)).setn (by omega) 1 (.int .i64 s2.2.2) (C := w.heap.size + 1)).c 8 |>.trans rfl
   clear hR1 n2 en
   go_wp2_with fail
   first | refine bodyPost_ret ?_ rfl fin.out | refine bodyPost_end ?_ rfl fin.out
   simp [results, Tryz.results65, go_sem, z0, z1, x0, x1, x2, x3, x4, x5, x6, x7, x8]
   repeat' apply And.intro
   all_goals rfl
 ·rw [if_neg h0] at hw
  have q0 : (t0 != 0) = false := by simpa using h0
  clear h0
  rw [hw] at hR1 hR2
  clear hw
  have b0 := n.ps.b0
  go_wp2_with fail
  refine fault_calls (cu 0 s1) p g1 w2 n.ps.cur _ (Lib.hid fun w5 m5 => ?_)
  have n5 := n.ps.same m5
  replace r1 := RdY.kp (Nx.kp (b := w.heap.size + 2) (b0 := w.heap.size + 2) n5 (by omega) (Nat.le_refl _)) r1
  replace bR := bR.nx n5 lp
  replace bF := bF.nx n5 lp
  replace bC := bC.nx n5 lp
  replace n := n.trans n5
  clear n5 m5 b0
  have lG0 := bC.lt
  have bG := Bx.new n #[.int .i64 s1.2.1, .int .i64 s1.2.2] 35
  obtain ⟨o5_, ho5_⟩ : ∃ oO_ : Obj, oO_ = .cells #[.int .i64 s1.2.1, .int .i64 s1.2.2] 35 := ⟨_, rfl⟩
  replace bR := bR.alloc o5_
  replace bF := bF.alloc o5_
  replace bC := bC.alloc o5_
  replace n := n.alloc o5_
  replace r1 := RdY.kp (emp_kp (S := lowS (w.heap.size + 2)) (S' := lowS (w.heap.size + 2)) (by simp) fun k hk nk => ⟨nk, ((Below.refl _ w5).alloc (Nat.le_refl _) o5_).block k hk⟩) r1
  subst ho5_
  go_upto_region 5 with fail
  generalize w5.alloc (.cells #[.int .i64 s1.2.1, .int .i64 s1.2.2] 35) = V5 at *
  generalize w5.heap.size = G at *
  have f0 := (bG.c 0).trans rfl
  by_cases he : s1.2.1 = 0
  ·have q1 : (s1.2.1 != 0) = false := by simpa using he
   clear hR1
   have rC : V5.rangeAt C 0 [.int .i64 hh.kind, .int .i64 hh.at_, .int .i64 hh.lo, .int .i64 hh.hi, .int .i64 hh.most, .slice A3 hh.names.length c3, .slice A4 ff.len c4, .string hh.name, .int .i64 hh.nat] := fun j v e => by rw [Nat.zero_add, bC.c]; simpa using e
   have hRr := bR.at_
   have oC := bC.lo
   have e8 := bC.ne
   have hCF : C ≠ w.heap.size + 1 := by omega
   have n9 := n.row bR h #[.int .i64 hh.kind, .int .i64 hh.at_, .int .i64 hh.lo, .int .i64 hh.hi, .int .i64 hh.most, .slice A3 hh.names.length c3, .slice A4 ff.len c4, .string hh.name, .int .i64 hh.nat]
   have bR9 := bR.row #[.int .i64 hh.kind, .int .i64 hh.at_, .int .i64 hh.lo, .int .i64 hh.hi, .int .i64 hh.most, .slice A3 hh.names.length c3, .slice A4 ff.len c4, .string hh.name, .int .i64 hh.nat]
   have bF9 : Bx w (V5.setRow w.heap.size #[.int .i64 hh.kind, .int .i64 hh.at_, .int .i64 hh.lo, .int .i64 hh.hi, .int .i64 hh.most, .slice A3 hh.names.length c3, .slice A4 ff.len c4, .string hh.name, .int .i64 hh.nat]) p g1 (w.heap.size + 1) _ _ := ⟨(setRow_other _ _ _ _ (by omega)).trans bF.at_, bF.lo, bF.ne⟩
   have r9 := RdY.kp (kp_row (b0 := w.heap.size + 2) (T := w.heap.size) (b := w.heap.size + 2) (by omega) (Nat.le_refl _) #[.int .i64 hh.kind, .int .i64 hh.at_, .int .i64 hh.lo, .int .i64 hh.hi, .int .i64 hh.most, .slice A3 hh.names.length c3, .slice A4 ff.len c4, .string hh.name, .int .i64 hh.nat]) r1
   have z0 := (bF9.c 0).trans rfl
   have zf0 := Lib.frozen_of_heap bF9.at_ 0
   have z1 := (bF9.c 1).trans rfl
   have zf1 := Lib.frozen_of_heap bF9.at_ 1
   have fin := Lib.hid (hR2.out _ _ _ _ ((n9.setb bF9 h 0 (.int .i64 0)).setb (bF9.set 0 _) h 1 (.int .i64 0)) he (RdY.kp (kp_set (T := w.heap.size + 1) (b := w.heap.size + 2) (b0 := w.heap.size) (by omega) (by omega) 1 (.int .i64 0)) (RdY.kp (kp_set (T := w.heap.size + 1) (b := w.heap.size + 2) (b0 := w.heap.size + 2) (by omega) (by omega) 0 (.int .i64 0)) r9)))
   have x0 := ((bR9.setn (by omega) 0 (.int .i64 0) (C := w.heap.size + 1)).setn (by omega) 1 (.int .i64 0) (C := w.heap.size + 1)).c 0 |>.trans rfl
   have x1 := ((bR9.setn (by omega) 0 (.int .i64 0) (C := w.heap.size + 1)).setn (by omega) 1 (.int .i64 0) (C := w.heap.size + 1)).c 1 |>.trans rfl
   have x2 := ((bR9.setn (by omega) 0 (.int .i64 0) (C := w.heap.size + 1)).setn (by omega) 1 (.int .i64 0) (C := w.heap.size + 1)).c 2 |>.trans rfl
   have x3 := ((bR9.setn (by omega) 0 (.int .i64 0) (C := w.heap.size + 1)).setn (by omega) 1 (.int .i64 0) (C := w.heap.size + 1)).c 3 |>.trans rfl
   have x4 := ((bR9.setn (by omega) 0 (.int .i64 0) (C := w.heap.size + 1)).setn (by omega) 1 (.int .i64 0) (C := w.heap.size + 1)).c 4 |>.trans rfl
   have x5 := ((bR9.setn (by omega) 0 (.int .i64 0) (C := w.heap.size + 1)).setn (by omega) 1 (.int .i64 0) (C := w.heap.size + 1)).c 5 |>.trans rfl
   have x6 := ((bR9.setn (by omega) 0 (.int .i64 0) (C := w.heap.size + 1)).setn (by omega) 1 (.int .i64 0) (C := w.heap.size + 1)).c 6 |>.trans rfl
   have x7 := ((bR9.setn (by omega) 0 (.int .i64 0) (C := w.heap.size + 1)).setn (by omega) 1 (.int .i64 0) (C := w.heap.size + 1)).c 7 |>.trans rfl
   have x8 := ((bR9.setn (by omega) 0 (.int .i64 0) (C := w.heap.size + 1)).setn (by omega) 1 (.int .i64 0) (C := w.heap.size + 1)).c 8 |>.trans rfl
   clear hR2 n n9 r1 r9
   go_wp2_with (first | (refine wpList_load_g (by rfl) 29 _ rfl C 0 rfl [.int .i64 hh.kind, .int .i64 hh.at_, .int .i64 hh.lo, .int .i64 hh.hi, .int .i64 hh.most, .slice A3 hh.names.length c3, .slice A4 ff.len c4, .string hh.name, .int .i64 hh.nat] _ rC Tryz.underlying29 rfl (by kernel_rfl) ?_; go_simp) | (refine wpList_store_row (by rfl) 29 _ _ (by rfl) w.heap.size #[.int .i64 hh.kind, .int .i64 hh.at_, .int .i64 hh.lo, .int .i64 hh.hi, .int .i64 hh.most, .slice A3 hh.names.length c3, .slice A4 ff.len c4, .string hh.name, .int .i64 hh.nat] (by rfl) (by rfl) 29 _ hRr (by kernel_rfl) rfl (by simp [Value.oneCell']) ?_; go_simp))
   first | refine bodyPost_ret ?_ rfl fin.out | refine bodyPost_end ?_ rfl fin.out
   simp [results, Tryz.results65, go_sem, z0, z1, x0, x1, x2, x3, x4, x5, x6, x7, x8]
  ·have q1 : (s1.2.1 != 0) = true := by simpa using he
   have hNG : G < V5.heap.size := bG.lt
   have bN := Bx.new n #[.int .i64 0, .int .i64 0, .int .i64 0, .int .i64 0, .int .i64 0, .slice none 0 0, .slice none 0 0, .string ⟨#[]⟩, .int .i64 0] 29
   obtain ⟨o6_, ho6_⟩ : ∃ oO_ : Obj, oO_ = .cells #[.int .i64 0, .int .i64 0, .int .i64 0, .int .i64 0, .int .i64 0, .slice none 0 0, .slice none 0 0, .string ⟨#[]⟩, .int .i64 0] 29 := ⟨_, rfl⟩
   replace bR := bR.alloc o6_
   replace bF := bF.alloc o6_
   replace bC := bC.alloc o6_
   replace bG := bG.alloc o6_
   replace n := n.alloc o6_
   subst ho6_
   have en := hR1.out
   clear hR2 r1
   go_upto_region 7 with fail
   generalize V5.alloc (.cells #[.int .i64 0, .int .i64 0, .int .i64 0, .int .i64 0, .int .i64 0, .slice none 0 0, .slice none 0 0, .string ⟨#[]⟩, .int .i64 0] 29) = V7 at *
   generalize V5.heap.size = N at *
   clear f0
   have lN := bN.lt
   have lG := bG.lt
   have lR := bR.lt
   have lF := bF.lt
   have oG := bG.lo
   have oN := bN.lo
   have jN : ∀ y : GW V7 w.heap.size (w.heap.size + 1), y.w.rangeAt N 0 [.int .i64 0, .int .i64 0, .int .i64 0, .int .i64 0, .int .i64 0, .slice none 0 0, .slice none 0 0, .string ⟨#[]⟩, .int .i64 0] := fun y j v h => by rw [Nat.zero_add, Lib.cell_of_heap ((y.b _ lN (by omega) (by omega)).trans bN.at_)]; simpa using h
   have jG : ∀ y : GW V7 w.heap.size (w.heap.size + 1), y.w.rangeAt G 0 [.int .i64 s1.2.1, .int .i64 s1.2.2] := fun y j v h => by rw [Nat.zero_add, Lib.cell_of_heap ((y.b _ lG (by omega) (by omega)).trans bG.at_)]; simpa using h
   refine wp_region_mixG w.heap.size (w.heap.size + 1) [([0, 1], 2), ([], 3)] [] (by kernel_rfl) (by kernel_rfl) (by kernel_rfl) (by kernel_rfl) (fun _ _ d _ _ h => by cases d <;> exact h) ?_
   have gW : Below V7.heap.size V7 (V7.drewN 1) := ⟨rfl, rfl, rfl, Nat.le_refl _, fun _ _ => rfl⟩
   replace bR := bR.bl gW
   replace bF := bF.bl gW
   replace n := n.on gW
   refine mix_cons (os := [_, _]) (by simp only [pickO, List.filterMap_cons, List.filterMap_nil, List.getElem?_toArray, List.getElem?_cons_succ, List.getElem?_cons_zero]; rfl) (fun Kp hKp => ?_)
   refine wpQuiet_load rfl 29 _ rfl N 0 rfl [.int .i64 0, .int .i64 0, .int .i64 0, .int .i64 0, .int .i64 0, .slice none 0 0, .slice none 0 0, .string ⟨#[]⟩, .int .i64 0] _ (by rintro V ⟨y, rfl⟩; exact jN y) Tryz.underlying29 rfl (by kernel_rfl) ?_
   go_simp
   refine wpQuiet_load rfl 35 _ rfl G 0 rfl [.int .i64 s1.2.1, .int .i64 s1.2.2] _ (by rintro V ⟨y, rfl⟩; exact jG y) Tryz.underlying35 rfl (by kernel_rfl) ?_
   go_simp
   refine wpQuiet_nil ?_
   refine hKp _ ?_
   clear hKp
   refine loud (by rfl) (by kernel_rfl) (fun K2 hK2 => ?_)
   have y0 := (bR.c 0).trans rfl
   have yf0 := Lib.frozen_of_heap bR.at_ 0
   have y1 := (bR.c 1).trans rfl
   have yf1 := Lib.frozen_of_heap bR.at_ 1
   have y2 := (bR.c 2).trans rfl
   have yf2 := Lib.frozen_of_heap bR.at_ 2
   have y3 := (bR.c 3).trans rfl
   have yf3 := Lib.frozen_of_heap bR.at_ 3
   have y4 := (bR.c 4).trans rfl
   have yf4 := Lib.frozen_of_heap bR.at_ 4
   have y5 := (bR.c 5).trans rfl
   have yf5 := Lib.frozen_of_heap bR.at_ 5
   have y6 := (bR.c 6).trans rfl
   have yf6 := Lib.frozen_of_heap bR.at_ 6
   have y7 := (bR.c 7).trans rfl
   have yf7 := Lib.frozen_of_heap bR.at_ 7
   have y8 := (bR.c 8).trans rfl
   have yf8 := Lib.frozen_of_heap bR.at_ 8
   have n2 := (((((((((n.setb bR h 0 (.int .i64 0)).setb (bR.set 0 (.int .i64 0)) h 1 (.int .i64 0)).setb ((bR.set 0 (.int .i64 0)).set 1 (.int .i64 0)) h 2 (.int .i64 0)).setb (((bR.set 0 (.int .i64 0)).set 1 (.int .i64 0)).set 2 (.int .i64 0)) h 3 (.int .i64 0)).setb ((((bR.set 0 (.int .i64 0)).set 1 (.int .i64 0)).set 2 (.int .i64 0)).set 3 (.int .i64 0)) h 4 (.int .i64 0)).setb (((((bR.set 0 (.int .i64 0)).set 1 (.int .i64 0)).set 2 (.int .i64 0)).set 3 (.int .i64 0)).set 4 (.int .i64 0)) h 5 (.slice none 0 0)).setb ((((((bR.set 0 (.int .i64 0)).set 1 (.int .i64 0)).set 2 (.int .i64 0)).set 3 (.int .i64 0)).set 4 (.int .i64 0)).set 5 (.slice none 0 0)) h 6 (.slice none 0 0)).setb (((((((bR.set 0 (.int .i64 0)).set 1 (.int .i64 0)).set 2 (.int .i64 0)).set 3 (.int .i64 0)).set 4 (.int .i64 0)).set 5 (.slice none 0 0)).set 6 (.slice none 0 0)) h 7 (.string ⟨#[]⟩)).setb ((((((((bR.set 0 (.int .i64 0)).set 1 (.int .i64 0)).set 2 (.int .i64 0)).set 3 (.int .i64 0)).set 4 (.int .i64 0)).set 5 (.slice none 0 0)).set 6 (.slice none 0 0)).set 7 (.string ⟨#[]⟩)) h 8 (.int .i64 0))
   have bR2 := (((((((((bR.set 0 (.int .i64 0)).set 1 (.int .i64 0)).set 2 (.int .i64 0)).set 3 (.int .i64 0)).set 4 (.int .i64 0)).set 5 (.slice none 0 0)).set 6 (.slice none 0 0)).set 7 (.string ⟨#[]⟩)).set 8 (.int .i64 0))
   have bF2 := (((((((((bF.setn (by omega) 0 (.int .i64 0) (C := w.heap.size)).setn (by omega) 1 (.int .i64 0) (C := w.heap.size)).setn (by omega) 2 (.int .i64 0) (C := w.heap.size)).setn (by omega) 3 (.int .i64 0) (C := w.heap.size)).setn (by omega) 4 (.int .i64 0) (C := w.heap.size)).setn (by omega) 5 (.slice none 0 0) (C := w.heap.size)).setn (by omega) 6 (.slice none 0 0) (C := w.heap.size)).setn (by omega) 7 (.string ⟨#[]⟩) (C := w.heap.size)).setn (by omega) 8 (.int .i64 0) (C := w.heap.size))
   clear n bR bF
   simp only [List.setIfInBounds_toArray, List.set_cons_succ, List.set_cons_zero] at bR2
   go_simp
   refine hK2 _ _ (gw_setp (gw_setp (gw_setp (gw_setp (gw_setp (gw_setp (gw_setp (gw_setp (gw_setp (GW.bl gW) _) _) _) _) _) _) _) _) _) ?_
   clear hK2
   have gQ : ∃ x : GW V7 w.heap.size (w.heap.size + 1), (((((((((V7.drewN 1).setCell ⟨w.heap.size, 0, none⟩ (.int .i64 0)).setCell ⟨w.heap.size, 1, none⟩ (.int .i64 0)).setCell ⟨w.heap.size, 2, none⟩ (.int .i64 0)).setCell ⟨w.heap.size, 3, none⟩ (.int .i64 0)).setCell ⟨w.heap.size, 4, none⟩ (.int .i64 0)).setCell ⟨w.heap.size, 5, none⟩ (.slice none 0 0)).setCell ⟨w.heap.size, 6, none⟩ (.slice none 0 0)).setCell ⟨w.heap.size, 7, none⟩ (.string ⟨#[]⟩)).setCell ⟨w.heap.size, 8, none⟩ (.int .i64 0) = x.w := (gw_setp (gw_setp (gw_setp (gw_setp (gw_setp (gw_setp (gw_setp (gw_setp (gw_setp (GW.bl gW) _) _) _) _) _) _) _) _) _)
   generalize (((((((((V7.drewN 1).setCell ⟨w.heap.size, 0, none⟩ (.int .i64 0)).setCell ⟨w.heap.size, 1, none⟩ (.int .i64 0)).setCell ⟨w.heap.size, 2, none⟩ (.int .i64 0)).setCell ⟨w.heap.size, 3, none⟩ (.int .i64 0)).setCell ⟨w.heap.size, 4, none⟩ (.int .i64 0)).setCell ⟨w.heap.size, 5, none⟩ (.slice none 0 0)).setCell ⟨w.heap.size, 6, none⟩ (.slice none 0 0)).setCell ⟨w.heap.size, 7, none⟩ (.string ⟨#[]⟩)).setCell ⟨w.heap.size, 8, none⟩ (.int .i64 0) = V8 at *
   clear y0 yf0 y1 yf1 y2 yf2 y3 yf3 y4 yf4 y5 yf5 y6 yf6 y7 yf7 y8 yf8
   refine mix_cons (os := []) (by rfl) (fun Kp hKp => ?_)
   refine wpQuiet_nil ?_
   refine hKp _ ?_
   clear hKp
   refine loud (by rfl) (by kernel_rfl) (fun K3 hK3 => ?_)
   have z0 := (bF2.c 0).trans rfl
   have zf0 := Lib.frozen_of_heap bF2.at_ 0
   have z1 := (bF2.c 1).trans rfl
   have zf1 := Lib.frozen_of_heap bF2.at_ 1
   go_simp
   refine hK3 _ _ (GW.set (GW.set gQ _) _) ?_
   clear hK3
   refine mix_nil (os := []) (by rfl) (fun Kp hKp => ?_)
   refine wpQuiet_nil ?_
   refine hKp _ ?_
   clear hKp
   have fin := Lib.hid (hR1.out _ _ ((n2.setb bF2 h 0 (.int .i64 s1.2.1)).setb (bF2.set 0 _) h 1 (.int .i64 s1.2.2)) he)
   have x0 := ((bR2.setn (by omega) 0 (.int .i64 s1.2.1) (C := w.heap.size + 1)).setn (by omega) 1 (.int .i64 s1.2.2) (C := w.heap.size + 1)).c 0 |>.trans rfl
   have x1 := ((bR2.setn (by omega) 0 (.int .i64 s1.2.1) (C := w.heap.size + 1)).setn (by omega) 1 (.int .i64 s1.2.2) (C := w.heap.size + 1)).c 1 |>.trans rfl
   have x2 := ((bR2.setn (by omega) 0 (.int .i64 s1.2.1) (C := w.heap.size + 1)).setn (by omega) 1 (.int .i64 s1.2.2) (C := w.heap.size + 1)).c 2 |>.trans rfl
   have x3 := ((bR2.setn (by omega) 0 (.int .i64 s1.2.1) (C := w.heap.size + 1)).setn (by omega) 1 (.int .i64 s1.2.2) (C := w.heap.size + 1)).c 3 |>.trans rfl
   have x4 := ((bR2.setn (by omega) 0 (.int .i64 s1.2.1) (C := w.heap.size + 1)).setn (by omega) 1 (.int .i64 s1.2.2) (C := w.heap.size + 1)).c 4 |>.trans rfl
   have x5 := ((bR2.setn (by omega) 0 (.int .i64 s1.2.1) (C := w.heap.size + 1)).setn (by omega) 1 (.int .i64 s1.2.2) (C := w.heap.size + 1)).c 5 |>.trans rfl
   have x6 := ((bR2.setn (by omega) 0 (.int .i64 s1.2.1) (C := w.heap.size + 1)).setn (by omega) 1 (.int .i64 s1.2.2) (C := w.heap.size + 1)).c 6 |>.trans rfl
   have x7 := ((bR2.setn (by omega) 0 (.int .i64 s1.2.1) (C := w.heap.size + 1)).setn (by omega) 1 (.int .i64 s1.2.2) (C := w.heap.size + 1)).c 7 |>.trans rfl
   have x8 := ((bR2.setn (by omega) 0 (.int .i64 s1.2.1) (C := w.heap.size + 1)).setn (by omega) 1 (.int .i64 s1.2.2) (C := w.heap.size + 1)).c 8 |>.trans rfl
   clear hR1 n2 en
   go_wp2_with fail
   first | refine bodyPost_ret ?_ rfl fin.out | refine bodyPost_end ?_ rfl fin.out
   simp [results, Tryz.results65, go_sem, z0, z1, x0, x1, x2, x3, x4, x5, x6, x7, x8]
   repeat' apply And.intro
   all_goals rfl
end Go.Proofs.YtncijmodlhijoaaGreat.Syn
