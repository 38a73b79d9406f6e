/- Layer 16, the code: a part of a record, of a union. -/
import Derived.Test.YthelhplcijhioaaGreatG19
set_option maxRecDepth 100000
set_option linter.unusedVariables false
namespace Go.Proofs.YthelhplcijhioaaGreat.Syn
open Go.RowKit Go.Lib Go.Proofs.YthelhplcijhioaaGreat.Utf Go.Proofs.YthelhplcijhioaaGreat.Tok Go.Proofs.YthelhplcijhioaaGreat.Cur Go.Proofs.YthelhplcijhioaaGreat.Nam Go.Proofs.YthelhplcijhioaaGreat.Lat Go.Proofs.YthelhplcijhioaaGreat.Kin

set_option maxRecDepth 100000 in
set_option maxHeartbeats 2000000 in
theorem tagN_calls (k : Nat) (hk : TypQ k) (s : PS) (q p g : Nat) (w : World) (h : PsG w q p g (24 - (k : Int)) s) (hl : s.1.length ≤ 1000000) (hm : (mayS (nameS s).2 lpar).2 = false) (R : Ending → World → Prop)
    (hR : Hid (∀ w' g' lv cv nv pv, Nx w q p g (24 - (k : Int)) w' g' (tagC (typC k) s).2 → RdE (empW (lowS w.heap.size) w') (tagC (typC k) s).1 lv cv nv pv → R (.returned (prV (tagC (typC k) s).1 lv cv nv pv)) w')) : Calls Tryz.prog 98 #[ptV q] w R := by
  have lp := h.cur.lt
  have gn := gd_name s h.ok
  have hq : tagC (typC k) s = if (mayS (nameS s).2 lpar).2 = true then (((marksC (nP (nameS s).1) (markS (typC k (mayS (nameS s).2 lpar).1).2 rpar)).1, (typC k (mayS (nameS s).2 lpar).1).1), (marksC (nP (nameS s).1) (markS (typC k (mayS (nameS s).2 lpar).1).2 rpar)).2) else ((nB (nameS s).1, zTH, .nil), (mayS (nameS s).2 lpar).1) := rfl
  rw [hm, if_neg (by decide)] at hq
  rw [hq] at hR
  simp only at hR
  clear hq

  have n := (Nx.rfl' h).alloc (.cells #[.string ⟨#[]⟩, .int .i64 0, .bool false, .slice none 0 0, .int .i64 0, .int .i64 0, .int .i64 0, .int .i64 0, .slice none 0 0, .int .i64 0, .int .i64 0, .int .i64 0, .int .i64 0, .int .i64 0, .slice none 0 0, .slice none 0 0, .string ⟨#[]⟩, .int .i64 0] 71)
  have bR := Bx.new (Nx.rfl' h) #[.string ⟨#[]⟩, .int .i64 0, .bool false, .slice none 0 0, .int .i64 0, .int .i64 0, .int .i64 0, .int .i64 0, .slice none 0 0, .int .i64 0, .int .i64 0, .int .i64 0, .int .i64 0, .int .i64 0, .slice none 0 0, .slice none 0 0, .string ⟨#[]⟩, .int .i64 0] 71
  go_enter Tryz.func98, Tryz.ntmps98
  go_upto_region 1 with fail
  generalize w.alloc (.cells #[.string ⟨#[]⟩, .int .i64 0, .bool false, .slice none 0 0, .int .i64 0, .int .i64 0, .int .i64 0, .int .i64 0, .slice none 0 0, .int .i64 0, .int .i64 0, .int .i64 0, .int .i64 0, .int .i64 0, .slice none 0 0, .slice none 0 0, .string ⟨#[]⟩, .int .i64 0] 71) = V at *
  go_wp2_with fail
  refine nameK_calls s q p g _ V n.ps _ (Lib.hid fun w1 g1 n1 => ?_)
  replace bR := bR.nx n1 lp
  replace n := n.trans n1
  clear n1
  generalize (nameS s).2 = s1 at *
  generalize (nameS s).1 = x at *
  obtain ⟨x0, x1⟩ := x
  have lRC : w.heap.size < w1.heap.size := bR.lt
  have bC := Bx.new n #[.string x0, .int .i64 x1, .bool false, .slice none 0 0, .int .i64 0, .int .i64 0, .int .i64 0, .int .i64 0, .slice none 0 0, .int .i64 0, .int .i64 0, .int .i64 0, .int .i64 0, .int .i64 0, .slice none 0 0, .slice none 0 0, .string ⟨#[]⟩, .int .i64 0] 71
  replace bR := bR.alloc (.cells #[.string x0, .int .i64 x1, .bool false, .slice none 0 0, .int .i64 0, .int .i64 0, .int .i64 0, .int .i64 0, .slice none 0 0, .int .i64 0, .int .i64 0, .int .i64 0, .int .i64 0, .int .i64 0, .slice none 0 0, .slice none 0 0, .string ⟨#[]⟩, .int .i64 0] 71)
  replace n := n.alloc (.cells #[.string x0, .int .i64 x1, .bool false, .slice none 0 0, .int .i64 0, .int .i64 0, .int .i64 0, .int .i64 0, .slice none 0 0, .int .i64 0, .int .i64 0, .int .i64 0, .int .i64 0, .int .i64 0, .slice none 0 0, .slice none 0 0, .string ⟨#[]⟩, .int .i64 0] 71)
  go_upto_region 2 with (refine wpList_copy #[.string x0, .int .i64 x1, .bool false, .slice none 0 0, .int .i64 0, .int .i64 0, .int .i64 0, .int .i64 0, .slice none 0 0, .int .i64 0, .int .i64 0, .int .i64 0, .int .i64 0, .int .i64 0, .slice none 0 0, .slice none 0 0, .string ⟨#[]⟩, .int .i64 0] ⟨rfl, rfl, rfl⟩ ⟨rfl, rfl, rfl⟩ part_alloc (by kernel_rfl) ⟨rfl, by simp [Value.oneCell']⟩ (fun _ => ⟨rfl, rfl⟩) ?_; go_simp)
  generalize w1.alloc (.cells #[.string x0, .int .i64 x1, .bool false, .slice none 0 0, .int .i64 0, .int .i64 0, .int .i64 0, .int .i64 0, .slice none 0 0, .int .i64 0, .int .i64 0, .int .i64 0, .int .i64 0, .int .i64 0, .slice none 0 0, .slice none 0 0, .string ⟨#[]⟩, .int .i64 0] 71) = V1 at *
  generalize w1.heap.size = C at *
  have b0 := n.ps.b0
  have gm := gd_may s1 lpar gn.1
  go_wp2_with fail
  refine may_calls s1 lpar q p g1 _ _ n.ps _ (Lib.hid fun w2 n2 => ?_)
  replace bR := bR.nx n2 lp
  replace bC := bC.nx n2 lp
  replace n := n.trans n2
  clear n2 b0
  rw [hm]
  clear hm
  generalize (mayS s1 lpar).1 = s2 at *

  have y2 := (bC.c 2).trans rfl
  have yf2 := Lib.frozen_of_heap bC.at_ 2
  replace n := n.setb bC h 2 (.bool true)
  replace bR := bR.setn (by omega) 2 (.bool true) (C := C)
  replace bC := bC.set 2 (.bool true)
  simp only [List.setIfInBounds_toArray, List.set_cons_succ, List.set_cons_zero] at bC
  go_upto_region 4 with fail
  generalize w2.setCell ⟨C, 2, none⟩ (.bool true) = V8 at *
  clear y2 yf2
  have rC : V8.rangeAt C 0 [.string x0, .int .i64 x1, .bool true, .slice none 0 0, .int .i64 0, .int .i64 0, .int .i64 0, .int .i64 0, .slice none 0 0, .int .i64 0, .int .i64 0, .int .i64 0, .int .i64 0, .int .i64 0, .slice none 0 0, .slice none 0 0, .string ⟨#[]⟩, .int .i64 0] := fun j v e => by rw [Nat.zero_add, bC.c]; simpa using e
  have hRr := bR.at_
  have fin := Lib.hid (hR.out _ _ _ _ _ _ (n.row bR h #[.string x0, .int .i64 x1, .bool true, .slice none 0 0, .int .i64 0, .int .i64 0, .int .i64 0, .int .i64 0, .slice none 0 0, .int .i64 0, .int .i64 0, .int .i64 0, .int .i64 0, .int .i64 0, .slice none 0 0, .slice none 0 0, .string ⟨#[]⟩, .int .i64 0]) ⟨RdW.none0 _, RdW.none0 _, ⟨RdW.none0 _, RdSl.nil _ none 0⟩⟩)
  have hv : prV (nB (x0, x1), zTH, Fo.nil) (.slice none 0 0) (.slice none 0 0) (.slice none 0 0) (.slice none 0 0) = .agg #[.string x0, .int .i64 x1, .bool true, .slice none 0 0, .int .i64 0, .int .i64 0, .int .i64 0, .int .i64 0, .slice none 0 0, .int .i64 0, .int .i64 0, .int .i64 0, .int .i64 0, .int .i64 0, .slice none 0 0, .slice none 0 0, .string ⟨#[]⟩, .int .i64 0] := rfl
  rw [hv] at fin
  clear hv
  have bF := bR.row #[.string x0, .int .i64 x1, .bool true, .slice none 0 0, .int .i64 0, .int .i64 0, .int .i64 0, .int .i64 0, .slice none 0 0, .int .i64 0, .int .i64 0, .int .i64 0, .int .i64 0, .int .i64 0, .slice none 0 0, .slice none 0 0, .string ⟨#[]⟩, .int .i64 0]
  clear hR n h
  have x0_ := (bF.c 0).trans rfl
  have x1_ := (bF.c 1).trans rfl
  have x2_ := (bF.c 2).trans rfl
  have x3_ := (bF.c 3).trans rfl
  have x4_ := (bF.c 4).trans rfl
  have x5_ := (bF.c 5).trans rfl
  have x6_ := (bF.c 6).trans rfl
  have x7_ := (bF.c 7).trans rfl
  have x8_ := (bF.c 8).trans rfl
  have x9_ := (bF.c 9).trans rfl
  have x10_ := (bF.c 10).trans rfl
  have x11_ := (bF.c 11).trans rfl
  have x12_ := (bF.c 12).trans rfl
  have x13_ := (bF.c 13).trans rfl
  have x14_ := (bF.c 14).trans rfl
  have x15_ := (bF.c 15).trans rfl
  have x16_ := (bF.c 16).trans rfl
  have x17_ := (bF.c 17).trans rfl
  go_wp2_with (first | (refine wpList_load_g (by rfl) 71 _ rfl C 0 rfl [.string x0, .int .i64 x1, .bool true, .slice none 0 0, .int .i64 0, .int .i64 0, .int .i64 0, .int .i64 0, .slice none 0 0, .int .i64 0, .int .i64 0, .int .i64 0, .int .i64 0, .int .i64 0, .slice none 0 0, .slice none 0 0, .string ⟨#[]⟩, .int .i64 0] _ rC Tryz.underlying71 rfl (by kernel_rfl) ?_; go_simp) | (refine wpList_store_row (by rfl) 71 _ _ (by rfl) w.heap.size #[.string x0, .int .i64 x1, .bool true, .slice none 0 0, .int .i64 0, .int .i64 0, .int .i64 0, .int .i64 0, .slice none 0 0, .int .i64 0, .int .i64 0, .int .i64 0, .int .i64 0, .int .i64 0, .slice none 0 0, .slice none 0 0, .string ⟨#[]⟩, .int .i64 0] (by rfl) (by rfl) 71 _ hRr (by kernel_rfl) rfl (by simp [Value.oneCell']) ?_; go_simp))
  first | refine bodyPost_ret ?_ rfl fin.out | refine bodyPost_end ?_ rfl fin.out
  simp [results, Tryz.results98, go_sem, x0_, x1_, x2_, x3_, x4_, x5_, x6_, x7_, x8_, x9_, x10_, x11_, x12_, x13_, x14_, x15_, x16_, x17_]
end Go.Proofs.YthelhplcijhioaaGreat.Syn
