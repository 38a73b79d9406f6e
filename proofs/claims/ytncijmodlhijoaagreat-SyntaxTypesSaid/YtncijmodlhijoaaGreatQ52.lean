import Derived.Test.YtncijmodlhijoaaGreatQ51
import Derived.Test.YtncijmodlhijoaaGreatQ17
import Derived.Test.YtncijmodlhijoaaGreatQ28
import Derived.Test.YtncijmodlhijoaaGreatQ7
import Derived.Test.YtncijmodlhijoaaGreatQ27
import Derived.Test.YtncijmodlhijoaaGreatQ29
import Derived.Test.YtncijmodlhijoaaGreatQ40
set_option linter.unusedVariables false
set_option maxRecDepth 100000
set_option maxHeartbeats 4000000
namespace Go.Proofs.YtncijmodlhijoaaGreat.Syn
open Go.RowKit Go.Lib Utf Tok Cur Nam Lat Kin
theorem bl_gr {w V W : World} {p : Nat} (h : V.grownBy W (some p)) (hp : w.heap.size ≤ p) (hv : w.heap.size ≤ V.heap.size) : Below w.heap.size V W :=
 ⟨h.os, h.tape, h.output, h.size, fun k hk => h.block k (by omega) fun e => by simp only [Option.some.injEq] at e; omega⟩
theorem wholeT2_calls (l : List Tk) (q p g : Nat) (w : World) (h : PsG w q p g 0 (l, 0, 0)) (hl : l.length ≤ 1000000) (R : Ending → World → Prop)
  (hR : Hid (∀ w' nv pv, w.grownBy w' (some p) → RdY (empW (lowS w.heap.size) w') (typeP l).1.1 (typeP l).1.2 nv pv → R (.returned (.tuple #[tyV (typeP l).1.1 nv pv, .agg #[.int .i64 (typeP l).2.1, .int .i64 (typeP l).2.2]])) w')) : Calls Tryz.prog 65 #[ptV q, .func (.func 66) #[ptV q] #[]] w R := by
 refine wholeT_calls (l, 0, 0) q p g w h hl R (Lib.hid fun w' g' n he => ?_) (Lib.hid fun w' g' nv pv n he r => ?_)
 ·have e : typeP l = ((zTH, .nil), (wholeC (typC 24 (l, 0, 0)).2).2) := if_pos he
  rw [e] at hR
  exact hR.out w' _ _ n.gr ⟨RdW.none0 _, RdSl.nil _ none 0⟩
 ·have e : typeP l = ((typC 24 (l, 0, 0)).1, 0, 0) := if_neg (by simpa using he)
  rw [e] at hR
  exact hR.out w' _ _ n.gr r
theorem scn_bad {s : ByteArray} {e z : Int} (h : scnS s = (none, e, z)) : e ≠ 0 ∧ 0 ≤ z := by
 unfold scnS at h
 by_cases c : 65536 < s.size
 ·rw [if_pos c] at h
  simp only [Prod.mk.injEq, true_and] at h
  omega
 ·rw [if_neg c] at h
  have := scn_fault s.size 0 false e z (by omega) (Nat.zero_le _) h
  omega
theorem type_calls (s : ByteArray) (hs : s.size ≤ maxLen) (w : World) (R : Ending → World → Prop)
  (hR : Hid (∀ w' nv pv, Below w.heap.size w w' → RdY (empW (lowS w.heap.size) w') (typeS s).1.1 (typeS s).1.2 nv pv → R (.returned (.tuple #[tyV (typeS s).1.1 nv pv, .agg #[.int .i64 (typeS s).2.1, .int .i64 (typeS s).2.2]])) w')) : Calls Tryz.prog 27 #[.string s] w R := by
 have hmf : ∀ (fn : Fn) (first cap : Array Value) (w : World), (Instr.makeFunc fn first cap).run Tryz.prog w = .ok (.func fn first cap) w := fun _ _ _ _ => rfl
 obtain ⟨o1_, ho1_⟩ : ∃ oO_ : Obj, oO_ = .cells #[.int .i64 0, .int .i64 0, .int .i64 0, .int .i64 0, .int .i64 0, .slice none 0 0, .slice none 0 0, .string ⟨#[]⟩, .int .i64 0] 29 := ⟨_, rfl⟩
 have b1 := (Below.refl w.heap.size w).alloc (Nat.le_refl _) o1_
 have hT := heap_alloc_new w o1_
 have z1 : (w.alloc o1_).heap.size = w.heap.size + 1 := by simp
 have b2 := b1.alloc b1.size (.cells #[.int .i64 0, .int .i64 0] 35)
 have hF := heap_alloc_new (w.alloc o1_) (.cells #[.int .i64 0, .int .i64 0] 35)
 subst ho1_
 rw [z1] at hF
 replace hT := (((Below.refl _ _).alloc (Nat.le_refl _) (.cells #[.int .i64 0, .int .i64 0] 35)).block w.heap.size (by omega)).trans hT
 go_enter Tryz.func27, Tryz.ntmps27
 go_upto_region 1 with fail
 generalize (w.alloc (.cells #[.int .i64 0, .int .i64 0, .int .i64 0, .int .i64 0, .int .i64 0, .slice none 0 0, .slice none 0 0, .string ⟨#[]⟩, .int .i64 0] 29)).alloc (.cells #[.int .i64 0, .int .i64 0] 35) = V at *
 clear z1 b1
 have lF := bltK hF
 go_wp2_with fail
 refine curnew_calls s hs V _ (Lib.hid fun l p w1 es hp c n1 => ?_) (Lib.hid fun e z w1 es n1 => ?_)
 ·have hl := scnS_len es
  rw [typeS_ok es] at hR
  obtain ⟨g, cg⟩ := c
  replace hT := (n1.block _ (bltK hT)).trans hT
  replace hF := (n1.block _ (bltK hF)).trans hF
  replace b2 := b2.trans (n1.mono b2.size)
  have lV := n1.size
  have ma := (Below.refl w1.heap.size w1).alloc (Nat.le_refl _) (.cells #[.int .i64 0, .int .i64 0] 35)
  have hG := heap_alloc_new w1 (.cells #[.int .i64 0, .int .i64 0] 35)
  replace hT := (ma.block _ (bltK hT)).trans hT
  replace hF := (ma.block _ (bltK hF)).trans hF
  replace b2 := b2.trans (ma.mono b2.size)
  replace cg := cg.all ma
  have lW := bltK hF
  clear n1 es
  go_upto_region 2 with fail
  generalize w1.alloc (.cells #[.int .i64 0, .int .i64 0] 35) = V2 at *
  generalize w1.heap.size = B at *
  clear ma
  have f0 := (Lib.cell_of_heap hG 0).trans rfl
  go_upto_region 4 with fail
  clear f0
  have mb := (Below.refl V2.heap.size V2).alloc (Nat.le_refl _) (.cells #[ptV p] 135)
  have hQ := heap_alloc_new V2 (.cells #[ptV p] 135)
  replace hT := (mb.block _ (bltK hT)).trans hT
  replace hF := (mb.block _ (bltK hF)).trans hF
  replace b2 := b2.trans (mb.mono b2.size)
  have ps : PsG (V2.alloc (.cells #[ptV p] 135)) V2.heap.size p g 0 (l, 0, 0) := ⟨cg.all mb, hQ⟩
  go_upto_region 5 with fail
  generalize V2.alloc (.cells #[ptV p] 135) = V3 at *
  generalize V2.heap.size = Q at *
  clear mb hQ cg hG
  go_wp2_with fail
  refine wholeT2_calls l Q p g V3 ps hl _ (Lib.hid fun w5 nv pv gr r => ?_)
  obtain ⟨A3, c3, rfl, -, -⟩ := r.n.op
  obtain ⟨A4, c4, rfl, -⟩ := r.p.sl
  have lT3 := bltK hT
  have lF3 := bltK hF
  replace hT := (gr.block _ lT3 (fun e => by simp only [Option.some.injEq] at e; omega)).trans hT
  replace hF := (gr.block _ lF3 (fun e => by simp only [Option.some.injEq] at e; omega)).trans hF
  replace b2 := b2.trans (bl_gr gr (by omega) b2.size)
  clear gr ps
  generalize typeP l = X at *
  obtain ⟨⟨hh, ff⟩, fe, fz⟩ := X
  simp only at *
  have y0 := (Lib.cell_of_heap hT 0).trans rfl
  have yf0 := Lib.frozen_of_heap hT 0
  have y1 := (Lib.cell_of_heap hT 1).trans rfl
  have yf1 := Lib.frozen_of_heap hT 1
  have y2 := (Lib.cell_of_heap hT 2).trans rfl
  have yf2 := Lib.frozen_of_heap hT 2
  have y3 := (Lib.cell_of_heap hT 3).trans rfl
  have yf3 := Lib.frozen_of_heap hT 3
  have y4 := (Lib.cell_of_heap hT 4).trans rfl
  have yf4 := Lib.frozen_of_heap hT 4
  have y5 := (Lib.cell_of_heap hT 5).trans rfl
  have yf5 := Lib.frozen_of_heap hT 5
  have y6 := (Lib.cell_of_heap hT 6).trans rfl
  have yf6 := Lib.frozen_of_heap hT 6
  have y7 := (Lib.cell_of_heap hT 7).trans rfl
  have yf7 := Lib.frozen_of_heap hT 7
  have y8 := (Lib.cell_of_heap hT 8).trans rfl
  have yf8 := Lib.frozen_of_heap hT 8
  have z0 := (Lib.cell_of_heap hF 0).trans rfl
  have zf0 := Lib.frozen_of_heap hF 0
  have z1 := (Lib.cell_of_heap hF 1).trans rfl
  have zf1 := Lib.frozen_of_heap hF 1
  have r2 := (RdY.kp (kp_set (T := w.heap.size + 1) (b := w.heap.size + 2) (b0 := w.heap.size + 2) (by omega) (Nat.le_refl _) 1 (.int .i64 fz)) (RdY.kp (kp_set (T := w.heap.size + 1) (b := w.heap.size + 2) (b0 := w.heap.size + 2) (by omega) (Nat.le_refl _) 0 (.int .i64 fe)) (RdY.kp (kp_set (T := w.heap.size) (b := w.heap.size + 2) (b0 := w.heap.size + 2) (by omega) (Nat.le_refl _) 8 (.int .i64 hh.nat)) (RdY.kp (kp_set (T := w.heap.size) (b := w.heap.size + 2) (b0 := w.heap.size + 2) (by omega) (Nat.le_refl _) 7 (.string hh.name)) (RdY.kp (kp_set (T := w.heap.size) (b := w.heap.size + 2) (b0 := w.heap.size + 2) (by omega) (Nat.le_refl _) 6 (.slice A4 ff.len c4)) (RdY.kp (kp_set (T := w.heap.size) (b := w.heap.size + 2) (b0 := w.heap.size + 2) (by omega) (Nat.le_refl _) 5 (.slice A3 hh.names.length c3)) (RdY.kp (kp_set (T := w.heap.size) (b := w.heap.size + 2) (b0 := w.heap.size + 2) (by omega) (Nat.le_refl _) 4 (.int .i64 hh.most)) (RdY.kp (kp_set (T := w.heap.size) (b := w.heap.size + 2) (b0 := w.heap.size + 2) (by omega) (Nat.le_refl _) 3 (.int .i64 hh.hi)) (RdY.kp (kp_set (T := w.heap.size) (b := w.heap.size + 2) (b0 := w.heap.size + 2) (by omega) (Nat.le_refl _) 2 (.int .i64 hh.lo)) (RdY.kp (kp_set (T := w.heap.size) (b := w.heap.size + 2) (b0 := w.heap.size + 2) (by omega) (Nat.le_refl _) 1 (.int .i64 hh.at_)) (RdY.kp (kp_set (T := w.heap.size) (b := w.heap.size + 2) (b0 := w.heap.size + 2) (by omega) (Nat.le_refl _) 0 (.int .i64 hh.kind)) (RdY.kp (kp_low (b0 := w.heap.size + 2) (by omega)) r))))))))))))
  have b3 := (((((((((((b2.setCell (p := ⟨w.heap.size, 0, none⟩) (by show w.heap.size ≤ w.heap.size; omega) (.int .i64 hh.kind)).setCell (p := ⟨w.heap.size, 1, none⟩) (by show w.heap.size ≤ w.heap.size; omega) (.int .i64 hh.at_)).setCell (p := ⟨w.heap.size, 2, none⟩) (by show w.heap.size ≤ w.heap.size; omega) (.int .i64 hh.lo)).setCell (p := ⟨w.heap.size, 3, none⟩) (by show w.heap.size ≤ w.heap.size; omega) (.int .i64 hh.hi)).setCell (p := ⟨w.heap.size, 4, none⟩) (by show w.heap.size ≤ w.heap.size; omega) (.int .i64 hh.most)).setCell (p := ⟨w.heap.size, 5, none⟩) (by show w.heap.size ≤ w.heap.size; omega) (.slice A3 hh.names.length c3)).setCell (p := ⟨w.heap.size, 6, none⟩) (by show w.heap.size ≤ w.heap.size; omega) (.slice A4 ff.len c4)).setCell (p := ⟨w.heap.size, 7, none⟩) (by show w.heap.size ≤ w.heap.size; omega) (.string hh.name)).setCell (p := ⟨w.heap.size, 8, none⟩) (by show w.heap.size ≤ w.heap.size; omega) (.int .i64 hh.nat)).setCell (p := ⟨w.heap.size + 1, 0, none⟩) (by show w.heap.size ≤ w.heap.size + 1; omega) (.int .i64 fe)).setCell (p := ⟨w.heap.size + 1, 1, none⟩) (by show w.heap.size ≤ w.heap.size + 1; omega) (.int .i64 fz))
  have fin := Lib.hid (hR.out _ _ _ b3 (RdY.kp (kp_low (by omega)) r2))
  clear hR r r2 b2 b3
  go_wp2_with fail
  first | refine bodyPost_ret ?_ rfl fin.out | refine bodyPost_end ?_ rfl fin.out
  simp [results, Tryz.results27, go_sem, y0, y1, y2, y3, y4, y5, y6, y7, y8, z0, z1]
 ·rw [typeS_bad es] at hR
  simp only at hR
  replace hT := (n1.block _ (bltK hT)).trans hT
  replace hF := (n1.block _ (bltK hF)).trans hF
  replace b2 := b2.trans (n1.mono b2.size)
  have he := (scn_bad es).1
  have q1 : (e != 0) = true := by simpa using he
  clear he es
  have ma := (Below.refl w1.heap.size w1).alloc (Nat.le_refl _) (.cells #[.int .i64 e, .int .i64 z] 35)
  have hG := heap_alloc_new w1 (.cells #[.int .i64 e, .int .i64 z] 35)
  have lW := bltK hF
  replace hT := (ma.block _ (bltK hT)).trans hT
  replace hF := (ma.block _ (bltK hF)).trans hF
  replace b2 := b2.trans (ma.mono b2.size)
  clear n1
  go_upto_region 2 with fail
  generalize w1.alloc (.cells #[.int .i64 e, .int .i64 z] 35) = V2 at *
  generalize w1.heap.size = B at *
  clear ma
  have f0 := (Lib.cell_of_heap hG 0).trans rfl
  go_upto_region 3 with fail
  clear f0
  have lG := bltK hG
  have jG : ∀ y : GW V2 w.heap.size (w.heap.size + 1), y.w.rangeAt B 0 [.int .i64 e, .int .i64 z] := fun y j v h => by rw [Nat.zero_add, Lib.cell_of_heap ((y.b _ lG (by omega) (by omega)).trans hG)]; simpa using h
  refine wp_region_mixG w.heap.size (w.heap.size + 1) [([0, 1], 2), ([], 3)] [] (by kernel_rfl) (by kernel_rfl) (by kernel_rfl) (by kernel_rfl) (fun _ _ d _ _ h => by cases d <;> exact h) ?_
  have gW : Below V2.heap.size V2 (V2.drewN 1) := ⟨rfl, rfl, rfl, Nat.le_refl _, fun _ _ => rfl⟩
  replace hT := (gW.block _ (bltK hT)).trans hT
  replace hF := (gW.block _ (bltK hF)).trans hF
  replace b2 := b2.trans (gW.mono b2.size)
  refine mix_cons (os := [_, _]) (by simp only [pickO, List.filterMap_cons, List.filterMap_nil, List.getElem?_toArray, List.getElem?_cons_succ, List.getElem?_cons_zero]; rfl) (fun Kp hKp => ?_)
  go_big_quiet_step (exact rfl)
  refine wpQuiet_load rfl 35 _ rfl B 0 rfl [.int .i64 e, .int .i64 z] _ (by rintro V ⟨y, rfl⟩; exact jG y) Tryz.underlying35 rfl (by kernel_rfl) ?_
  go_simp
  refine wpQuiet_nil ?_
  refine hKp _ ?_
  clear hKp
  refine loud (by rfl) (by kernel_rfl) (fun K2 hK2 => ?_)
  have y0 := (Lib.cell_of_heap hT 0).trans rfl
  have yf0 := Lib.frozen_of_heap hT 0
  have y1 := (Lib.cell_of_heap hT 1).trans rfl
  have yf1 := Lib.frozen_of_heap hT 1
  have y2 := (Lib.cell_of_heap hT 2).trans rfl
  have yf2 := Lib.frozen_of_heap hT 2
  have y3 := (Lib.cell_of_heap hT 3).trans rfl
  have yf3 := Lib.frozen_of_heap hT 3
  have y4 := (Lib.cell_of_heap hT 4).trans rfl
  have yf4 := Lib.frozen_of_heap hT 4
  have y5 := (Lib.cell_of_heap hT 5).trans rfl
  have yf5 := Lib.frozen_of_heap hT 5
  have y6 := (Lib.cell_of_heap hT 6).trans rfl
  have yf6 := Lib.frozen_of_heap hT 6
  have y7 := (Lib.cell_of_heap hT 7).trans rfl
  have yf7 := Lib.frozen_of_heap hT 7
  have y8 := (Lib.cell_of_heap hT 8).trans rfl
  have yf8 := Lib.frozen_of_heap hT 8
  have b3 := (((((((((b2.setCell (p := ⟨w.heap.size, 0, none⟩) (Nat.le_refl _) (.int .i64 0)).setCell (p := ⟨w.heap.size, 1, none⟩) (Nat.le_refl _) (.int .i64 0)).setCell (p := ⟨w.heap.size, 2, none⟩) (Nat.le_refl _) (.int .i64 0)).setCell (p := ⟨w.heap.size, 3, none⟩) (Nat.le_refl _) (.int .i64 0)).setCell (p := ⟨w.heap.size, 4, none⟩) (Nat.le_refl _) (.int .i64 0)).setCell (p := ⟨w.heap.size, 5, none⟩) (Nat.le_refl _) (.slice none 0 0)).setCell (p := ⟨w.heap.size, 6, none⟩) (Nat.le_refl _) (.slice none 0 0)).setCell (p := ⟨w.heap.size, 7, none⟩) (Nat.le_refl _) (.string ⟨#[]⟩)).setCell (p := ⟨w.heap.size, 8, none⟩) (Nat.le_refl _) (.int .i64 0))
  have hT2 := (satK (satK (satK (satK (satK (satK (satK (satK (satK hT 0 (.int .i64 0)) 1 (.int .i64 0)) 2 (.int .i64 0)) 3 (.int .i64 0)) 4 (.int .i64 0)) 5 (.slice none 0 0)) 6 (.slice none 0 0)) 7 (.string ⟨#[]⟩)) 8 (.int .i64 0))
  have hF2 : ((((((((((V2.drewN 1).setCell ⟨w.heap.size, 0, none⟩ (.int .i64 0)).setCell ⟨w.heap.size, 1, none⟩ (.int .i64 0)).setCell ⟨w.heap.size, 2, none⟩ (.int .i64 0)).setCell ⟨w.heap.size, 3, none⟩ (.int .i64 0)).setCell ⟨w.heap.size, 4, none⟩ (.int .i64 0)).setCell ⟨w.heap.size, 5, none⟩ (.slice none 0 0)).setCell ⟨w.heap.size, 6, none⟩ (.slice none 0 0)).setCell ⟨w.heap.size, 7, none⟩ (.string ⟨#[]⟩)).setCell ⟨w.heap.size, 8, none⟩ (.int .i64 0)).heap[w.heap.size + 1]? = _ := ((sneK (by omega)).trans ((sneK (by omega)).trans ((sneK (by omega)).trans ((sneK (by omega)).trans ((sneK (by omega)).trans ((sneK (by omega)).trans ((sneK (by omega)).trans ((sneK (by omega)).trans ((sneK (by omega)).trans hF)))))))))
  clear b2 hT hF
  simp only [List.setIfInBounds_toArray, List.set_cons_succ, List.set_cons_zero] at hT2
  go_simp
  refine hK2 _ _ (gw_setp (gw_setp (gw_setp (gw_setp (gw_setp (gw_setp (gw_setp (gw_setp (gw_setp (GW.bl gW) _) _) _) _) _) _) _) _) _) ?_
  clear hK2
  have gQ : ∃ x : GW V2 w.heap.size (w.heap.size + 1), (((((((((V2.drewN 1).setCell ⟨w.heap.size, 0, none⟩ (.int .i64 0)).setCell ⟨w.heap.size, 1, none⟩ (.int .i64 0)).setCell ⟨w.heap.size, 2, none⟩ (.int .i64 0)).setCell ⟨w.heap.size, 3, none⟩ (.int .i64 0)).setCell ⟨w.heap.size, 4, none⟩ (.int .i64 0)).setCell ⟨w.heap.size, 5, none⟩ (.slice none 0 0)).setCell ⟨w.heap.size, 6, none⟩ (.slice none 0 0)).setCell ⟨w.heap.size, 7, none⟩ (.string ⟨#[]⟩)).setCell ⟨w.heap.size, 8, none⟩ (.int .i64 0) = x.w := (gw_setp (gw_setp (gw_setp (gw_setp (gw_setp (gw_setp (gw_setp (gw_setp (gw_setp (GW.bl gW) _) _) _) _) _) _) _) _) _)
  generalize (((((((((V2.drewN 1).setCell ⟨w.heap.size, 0, none⟩ (.int .i64 0)).setCell ⟨w.heap.size, 1, none⟩ (.int .i64 0)).setCell ⟨w.heap.size, 2, none⟩ (.int .i64 0)).setCell ⟨w.heap.size, 3, none⟩ (.int .i64 0)).setCell ⟨w.heap.size, 4, none⟩ (.int .i64 0)).setCell ⟨w.heap.size, 5, none⟩ (.slice none 0 0)).setCell ⟨w.heap.size, 6, none⟩ (.slice none 0 0)).setCell ⟨w.heap.size, 7, none⟩ (.string ⟨#[]⟩)).setCell ⟨w.heap.size, 8, none⟩ (.int .i64 0) = V8 at *
  clear y0 yf0 y1 yf1 y2 yf2 y3 yf3 y4 yf4 y5 yf5 y6 yf6 y7 yf7 y8 yf8
  refine mix_cons (os := []) (by rfl) (fun Kp hKp => ?_)
  refine wpQuiet_nil ?_
  refine hKp _ ?_
  clear hKp
  refine loud (by rfl) (by kernel_rfl) (fun K3 hK3 => ?_)
  have z0 := (Lib.cell_of_heap hF2 0).trans rfl
  have zf0 := Lib.frozen_of_heap hF2 0
  have z1 := (Lib.cell_of_heap hF2 1).trans rfl
  have zf1 := Lib.frozen_of_heap hF2 1
  go_simp
  refine hK3 _ _ (GW.set (GW.set gQ _) _) ?_
  clear hK3
  refine mix_nil (os := []) (by rfl) (fun Kp hKp => ?_)
  refine wpQuiet_nil ?_
  refine hKp _ ?_
  clear hKp
  have fin := Lib.hid (hR.out _ _ _ ((b3.setCell (p := ⟨w.heap.size + 1, 0, none⟩) (by show w.heap.size ≤ w.heap.size + 1; omega) (.int .i64 e)).setCell (p := ⟨w.heap.size + 1, 1, none⟩) (by show w.heap.size ≤ w.heap.size + 1; omega) (.int .i64 z)) ⟨RdW.none0 _, RdSl.nil _ none 0⟩)
  have x0 := (Lib.cell_of_heap ((sneK (w := V8.setCell ⟨w.heap.size + 1, 0, none⟩ (.int .i64 e)) (q := w.heap.size + 1) (o := 1) (v := .int .i64 z) (show w.heap.size ≠ w.heap.size + 1 by omega)).trans ((sneK (w := V8) (q := w.heap.size + 1) (o := 0) (v := .int .i64 e) (show w.heap.size ≠ w.heap.size + 1 by omega)).trans hT2)) 0).trans rfl
  have x1 := (Lib.cell_of_heap ((sneK (w := V8.setCell ⟨w.heap.size + 1, 0, none⟩ (.int .i64 e)) (q := w.heap.size + 1) (o := 1) (v := .int .i64 z) (show w.heap.size ≠ w.heap.size + 1 by omega)).trans ((sneK (w := V8) (q := w.heap.size + 1) (o := 0) (v := .int .i64 e) (show w.heap.size ≠ w.heap.size + 1 by omega)).trans hT2)) 1).trans rfl
  have x2 := (Lib.cell_of_heap ((sneK (w := V8.setCell ⟨w.heap.size + 1, 0, none⟩ (.int .i64 e)) (q := w.heap.size + 1) (o := 1) (v := .int .i64 z) (show w.heap.size ≠ w.heap.size + 1 by omega)).trans ((sneK (w := V8) (q := w.heap.size + 1) (o := 0) (v := .int .i64 e) (show w.heap.size ≠ w.heap.size + 1 by omega)).trans hT2)) 2).trans rfl
  have x3 := (Lib.cell_of_heap ((sneK (w := V8.setCell ⟨w.heap.size + 1, 0, none⟩ (.int .i64 e)) (q := w.heap.size + 1) (o := 1) (v := .int .i64 z) (show w.heap.size ≠ w.heap.size + 1 by omega)).trans ((sneK (w := V8) (q := w.heap.size + 1) (o := 0) (v := .int .i64 e) (show w.heap.size ≠ w.heap.size + 1 by omega)).trans hT2)) 3).trans rfl
  have x4 := (Lib.cell_of_heap ((sneK (w := V8.setCell ⟨w.heap.size + 1, 0, none⟩ (.int .i64 e)) (q := w.heap.size + 1) (o := 1) (v := .int .i64 z) (show w.heap.size ≠ w.heap.size + 1 by omega)).trans ((sneK (w := V8) (q := w.heap.size + 1) (o := 0) (v := .int .i64 e) (show w.heap.size ≠ w.heap.size + 1 by omega)).trans hT2)) 4).trans rfl
  have x5 := (Lib.cell_of_heap ((sneK (w := V8.setCell ⟨w.heap.size + 1, 0, none⟩ (.int .i64 e)) (q := w.heap.size + 1) (o := 1) (v := .int .i64 z) (show w.heap.size ≠ w.heap.size + 1 by omega)).trans ((sneK (w := V8) (q := w.heap.size + 1) (o := 0) (v := .int .i64 e) (show w.heap.size ≠ w.heap.size + 1 by omega)).trans hT2)) 5).trans rfl
  have x6 := (Lib.cell_of_heap ((sneK (w := V8.setCell ⟨w.heap.size + 1, 0, none⟩ (.int .i64 e)) (q := w.heap.size + 1) (o := 1) (v := .int .i64 z) (show w.heap.size ≠ w.heap.size + 1 by omega)).trans ((sneK (w := V8) (q := w.heap.size + 1) (o := 0) (v := .int .i64 e) (show w.heap.size ≠ w.heap.size + 1 by omega)).trans hT2)) 6).trans rfl
  have x7 := (Lib.cell_of_heap ((sneK (w := V8.setCell ⟨w.heap.size + 1, 0, none⟩ (.int .i64 e)) (q := w.heap.size + 1) (o := 1) (v := .int .i64 z) (show w.heap.size ≠ w.heap.size + 1 by omega)).trans ((sneK (w := V8) (q := w.heap.size + 1) (o := 0) (v := .int .i64 e) (show w.heap.size ≠ w.heap.size + 1 by omega)).trans hT2)) 7).trans rfl
  have x8 := (Lib.cell_of_heap ((sneK (w := V8.setCell ⟨w.heap.size + 1, 0, none⟩ (.int .i64 e)) (q := w.heap.size + 1) (o := 1) (v := .int .i64 z) (show w.heap.size ≠ w.heap.size + 1 by omega)).trans ((sneK (w := V8) (q := w.heap.size + 1) (o := 0) (v := .int .i64 e) (show w.heap.size ≠ w.heap.size + 1 by omega)).trans hT2)) 8).trans rfl
  clear hR b3
  go_wp2_with fail
  first | refine bodyPost_ret ?_ rfl fin.out | refine bodyPost_end ?_ rfl fin.out
  simp [results, Tryz.results27, go_sem, z0, z1, x0, x1, x2, x3, x4, x5, x6, x7, x8]
  repeat' apply And.intro
  all_goals rfl
end Go.Proofs.YtncijmodlhijoaaGreat.Syn
namespace Go.Proofs.YtncijmodlhijoaaGreat.Syn
open Go.RowKit Go.Lib Utf Nam Lat Kin
def SameL (f : Ft) : Prop := ∀ (h h' : TH) (g : Ft) (nv pv nv' pv' : Value) (w : World), h.names.length ≤ maxLen → f.len ≤ maxLen → f.All LenH LenL → RdY w h f nv pv → RdY w h' g nv' pv' → ∀ R : Ending → World → Prop,
 Hid (∀ w', Below w.heap.size w w' → R (.returned (.bool (sameS h f h' g))) w') → Calls Tryz.prog 179 #[tyV h nv pv, tyV h' nv' pv'] w R
end Go.Proofs.YtncijmodlhijoaaGreat.Syn
namespace Go.Proofs.YtncijmodlhijoaaGreat.Syn
open Go.RowKit Go.Lib Utf Tok Cur Nam Lat Kin
theorem lives16_calls (w : World) (R : Ending → World → Prop) (hR : Hid (∀ w', Below w.heap.size w w' → R (.returned (.bool true)) w')) : Calls Tryz.prog 26 #[] w R := by
 have cT := fun (W : World) R hR => type_calls ⟨#[105, 110, 116, 40, 48, 46, 46, 57, 41]⟩ (by decide) W R hR
 rw [ex_all] at cT
 replace cT := Lib.hid cT
 go_enter Tryz.func26, Tryz.ntmps26
 go_wp2_with fail
 refine cT.out _ _ (Lib.hid fun w1 nv pv n1 r1 => ?_)
 obtain ⟨A3, c3, rfl, -, -⟩ := r1.n.op
 obtain ⟨A4, c4, rfl, -⟩ := r1.p.sl
 have m := (n1.alloc n1.size (.cells #[.int .i64 2, .int .i64 0, .int .i64 0, .int .i64 9, .int .i64 0, .slice A3 0 c3, .slice A4 0 c4, .string ⟨#[]⟩, .int .i64 0] 29))
 have fin := Lib.hid (hR.out _ (m.alloc m.size (.cells #[.int .i64 0, .int .i64 0] 35)))
 clear hR n1 r1 m cT
 go_wp2_with fail
 exact fin.out
theorem reftype16_calls (s : ByteArray) (hs : s.size ≤ maxLen) (w : World) (R : Ending → World → Prop)
  (hR : Hid (∀ w' nv pv, Below w.heap.size w w' → RdY (empW (lowS w.heap.size) w') (typeS s).1.1 (typeS s).1.2 nv pv → R (.returned (.tuple #[tyV (typeS s).1.1 nv pv, .agg #[.int .i64 (typeS s).2.1, .int .i64 (typeS s).2.2]])) w')) : Calls Tryz.prog 28 #[.string s] w R := by
 obtain ⟨o1_, ho1_⟩ : ∃ oO_ : Obj, oO_ = .cells #[.int .i64 0, .int .i64 0, .int .i64 0, .int .i64 0, .int .i64 0, .slice none 0 0, .slice none 0 0, .string ⟨#[]⟩, .int .i64 0] 29 := ⟨_, rfl⟩
 have hY := heap_alloc_new w o1_
 have n := alB w o1_
 have zz1 : (w.alloc o1_).heap.size = w.heap.size + 1 := by simp
 have hF := heap_alloc_new (w.alloc o1_) (.cells #[.int .i64 0, .int .i64 0] 35)
 subst ho1_
 rw [zz1] at hF
 replace hY := obB (alB _ (.cells #[.int .i64 0, .int .i64 0] 35)) hY
 replace n := n.alloc n.size (.cells #[.int .i64 0, .int .i64 0] 35)
 go_enter Tryz.func28, Tryz.ntmps28
 go_upto_region 1 with fail
 generalize ((w.alloc (.cells #[.int .i64 0, .int .i64 0, .int .i64 0, .int .i64 0, .int .i64 0, .slice none 0 0, .slice none 0 0, .string ⟨#[]⟩, .int .i64 0] 29))).alloc (.cells #[.int .i64 0, .int .i64 0] 35) = V at *
 clear zz1
 have hk := kind16_calls 24 (Nat.le_refl _)
 unfold KindQ at hk
 rw [show (24 : Int) - ((24 : Nat) : Int) = 0 by decide] at hk
 replace hk := Lib.hid hk
 go_wp2_with fail
 refine refscan13_calls s hs V _ (Lib.hid fun l v1 w1 es r1 fr m1 => ?_) (Lib.hid fun e z w1 es m1 => ?_)
 ·have ok := scnS_ok es
  have hl := scnS_len es
  rw [typeS_ok es, ← typeQ_eq ok (scn_tx es)] at hR
  obtain ⟨A1, c1, rfl, -, -⟩ := r1.op
  obtain ⟨w0, hb, r0⟩ : ∃ w0, Below w0.heap.size w0 w1 ∧ RdK w0 (.slice A1 l.length c1) l := ⟨w1, Below.refl _ _, r1⟩
  clear r1 es fr
  replace hY := obB m1 hY
  replace hF := obB m1 hF
  replace n := n.trans (m1.mono n.size)
  have lG : w.heap.size + 1 < w1.heap.size := blt hF
  obtain ⟨o2_, ho2_⟩ : ∃ oO_ : Obj, oO_ = .cells #[.int .i64 0, .int .i64 0] 35 := ⟨_, rfl⟩
  have hG := heap_alloc_new w1 o2_
  replace hY := obB (alB w1 o2_) hY
  replace hF := obB (alB w1 o2_) hF
  replace n := n.trans ((alB w1 o2_).mono n.size)
  replace hb := hb.trans ((alB w1 o2_).mono hb.size)
  subst ho2_
  go_upto_region 2 with fail
  generalize w1.alloc (.cells #[.int .i64 0, .int .i64 0] 35) = V2 at *
  generalize w1.heap.size = G at *
  have g0 := (Lib.cell_of_heap hG 0).trans rfl
  have lV : w.heap.size + 2 ≤ V2.heap.size := by have := blt hG; omega
  have hq : typeQ l = if (needS (kindR 24 (l, 0, 0)).2 0 ByteArray.empty).2.1 ≠ 0 then ((zTH, .nil), (needS (kindR 24 (l, 0, 0)).2 0 ByteArray.empty).2) else ((kindR 24 (l, 0, 0)).1, 0, 0) := rfl
  rw [hq] at hR
  clear hq
  have gk := gd_kindR 24 (l, 0, 0) ok
  generalize kindR 24 = K at *
  go_wp2_with fail
  refine hk.out (l, 0, 0) (.slice A1 l.length c1) w0 _ hb r0 ok hl _ (Lib.hid fun nv8 pv8 v8 w8 ry r8 m8 => ?_)
  obtain ⟨N1, N3, rfl, -, -⟩ := ry.n.op
  obtain ⟨M1, M3, rfl, -⟩ := ry.p.sl
  obtain ⟨A8, c8, rfl, -, -⟩ := r8.op
  replace hY := obB m8 hY
  replace hF := obB m8 hF
  replace n := n.trans (m8.mono n.size)
  have lw8 := m8.size
  replace hb := hb.trans (m8.mono hb.size)
  clear m8 hk g0 hG
  generalize K (l, 0, 0) = X at *
  obtain ⟨⟨x, f⟩, q8⟩ := X
  simp only at ry r8 hR gk ⊢
  obtain ⟨o3_, ho3_⟩ : ∃ oO_ : Obj, oO_ = .cells #[.int .i64 x.kind, .int .i64 x.at_, .int .i64 x.lo, .int .i64 x.hi, .int .i64 x.most, .slice N1 x.names.length N3, .slice M1 f.len M3, .string x.name, .int .i64 x.nat] 29 := ⟨_, rfl⟩
  have hE := heap_alloc_new w8 o3_
  have zq : (w8.alloc o3_).heap.size = w8.heap.size + 1 := by simp
  have mE := alB w8 o3_
  obtain ⟨o4_, ho4_⟩ : ∃ oO_ : Obj, oO_ = .cells #[.slice A8 q8.1.length c8, .int .i64 q8.2.1, .int .i64 q8.2.2] 142 := ⟨_, rfl⟩
  have hU := heap_alloc_new (w8.alloc o3_) o4_
  subst ho3_
  rw [zq] at hU
  replace hE := obB (alB _ o4_) hE
  replace mE := mE.alloc mE.size o4_
  subst ho4_
  clear zq
  go_upto_region 5 with fail
  generalize (w8.alloc (.cells #[.int .i64 x.kind, .int .i64 x.at_, .int .i64 x.lo, .int .i64 x.hi, .int .i64 x.most, .slice N1 x.names.length N3, .slice M1 f.len M3, .string x.name, .int .i64 x.nat] 29)).alloc (.cells #[.slice A8 q8.1.length c8, .int .i64 q8.2.1, .int .i64 q8.2.2] 142) = V3 at *
  replace hY := obB mE hY
  replace hF := obB mE hF
  replace n := n.trans (mE.mono n.size)
  replace hb := hb.trans (mE.mono hb.size)
  have a0 := (Lib.cell_of_heap hU 0).trans rfl
  have a1 := (Lib.cell_of_heap hU 1).trans rfl
  have a2 := (Lib.cell_of_heap hU 2).trans rfl
  go_wp2_with fail
  refine need16_calls q8 (.slice A8 q8.1.length c8) w0 _ hb r8 gk.1 0 ByteArray.empty _ (Lib.hid fun v9 w9 r9 m9 => ?_)
  obtain ⟨A9, c9, rfl, -, -⟩ := r9.op
  replace hY := obB m9 hY
  replace hF := obB m9 hF
  replace hE := obB m9 hE
  replace hU := obB m9 hU
  replace n := n.trans (m9.mono n.size)
  replace mE := mE.trans (m9.mono mE.size)
  replace hb := hb.trans (m9.mono hb.size)
  clear m9 a0 a1 a2
  generalize needS q8 0 ByteArray.empty = q9 at *
  have u0 := (Lib.cell_of_heap hU 0).trans rfl
  have uf0 := Lib.frozen_of_heap hU 0
  have u1 := (Lib.cell_of_heap hU 1).trans rfl
  have uf1 := Lib.frozen_of_heap hU 1
  have u2 := (Lib.cell_of_heap hU 2).trans rfl
  have uf2 := Lib.frozen_of_heap hU 2
  replace mE := (((mE.setCell (p := ⟨w8.heap.size + 1, 0, none⟩) (by show w8.heap.size ≤ w8.heap.size + 1; omega) (.slice A9 q9.1.length c9)).setCell (p := ⟨w8.heap.size + 1, 1, none⟩) (by show w8.heap.size ≤ w8.heap.size + 1; omega) (.int .i64 q9.2.1)).setCell (p := ⟨w8.heap.size + 1, 2, none⟩) (by show w8.heap.size ≤ w8.heap.size + 1; omega) (.int .i64 q9.2.2))
  obtain ⟨L1_0, hL1_0⟩ : ∃ L : List (Nat × Value), L = [(0, .slice A9 q9.1.length c9), (1, .int .i64 q9.2.1), (2, .int .i64 q9.2.2)] := ⟨_, rfl⟩
  replace hY := (stB_o (B := w8.heap.size + 1) (by omega) L1_0).trans hY
  replace hF := (stB_o (B := w8.heap.size + 1) (by omega) L1_0).trans hF
  replace hE := (stB_o (B := w8.heap.size + 1) (by omega) L1_0).trans hE
  replace hU := stB_s L1_0 hU
  replace n := stB_n (B := w8.heap.size + 1) (by omega) L1_0 n
  obtain ⟨VS1, hVS1⟩ : ∃ W, ((w9.setCell ⟨w8.heap.size + 1, 0, none⟩ (.slice A9 q9.1.length c9)).setCell ⟨w8.heap.size + 1, 1, none⟩ (.int .i64 q9.2.1)).setCell ⟨w8.heap.size + 1, 2, none⟩ (.int .i64 q9.2.2) = W := ⟨_, rfl⟩
  rw [show stB w9 (w8.heap.size + 1) L1_0 = VS1 by rw [hL1_0]; exact hVS1] at hY hF hE hU n
  simp only [hL1_0, stC, List.setIfInBounds_toArray, List.set_cons_succ, List.set_cons_zero] at hU
  clear hL1_0
  rw [hVS1] at mE
  go_upto_region 6 with fail
  generalize VS1 = V4 at *
  clear u0 uf0 u1 uf1 u2 uf2
  have a0 := (Lib.cell_of_heap hU 0).trans rfl
  have a1 := (Lib.cell_of_heap hU 1).trans rfl
  have a2 := (Lib.cell_of_heap hU 2).trans rfl
  go_wp2_with fail
  refine fine16_calls (.slice A9 q9.1.length c9) q9 ⟨_, _, _, rfl⟩ V4 _ (Lib.hid fun w10 m10 => ?_)
  replace hY := obB m10 hY
  replace hF := obB m10 hF
  replace hE := obB m10 hE
  replace hU := obB m10 hU
  replace n := n.trans (m10.mono n.size)
  replace mE := mE.trans (m10.mono mE.size)
  clear m10 a0 a1 a2 hb
  by_cases hf : q9.2.1 = 0
  ·rw [decide_eq_true hf]
   rw [if_neg (by simpa using hf)] at hR
   simp only at hR
   clear hf
   go_upto_region 8 with fail
   have rE : w10.rangeAt w8.heap.size 0 [.int .i64 x.kind, .int .i64 x.at_, .int .i64 x.lo, .int .i64 x.hi, .int .i64 x.most, .slice N1 x.names.length N3, .slice M1 f.len M3, .string x.name, .int .i64 x.nat] := fun j v e => by rw [Nat.zero_add, Lib.cell_of_heap hE]; simpa using e
   replace ry := RdY.kp (emp_bl (b0 := w.heap.size + 2) (by omega) mE) ry
   have hF1 := (setRow_other w10 (w.heap.size) (w.heap.size + 1) #[.int .i64 x.kind, .int .i64 x.at_, .int .i64 x.lo, .int .i64 x.hi, .int .i64 x.most, .slice N1 x.names.length N3, .slice M1 f.len M3, .string x.name, .int .i64 x.nat] (by omega)).trans hF
   have hY1 := (setRow_other (w10.setRow (w.heap.size) #[.int .i64 x.kind, .int .i64 x.at_, .int .i64 x.lo, .int .i64 x.hi, .int .i64 x.most, .slice N1 x.names.length N3, .slice M1 f.len M3, .string x.name, .int .i64 x.nat]) (w.heap.size + 1) (w.heap.size) #[.int .i64 0, .int .i64 0] (by omega)).trans (rowR hY #[.int .i64 x.kind, .int .i64 x.at_, .int .i64 x.lo, .int .i64 x.hi, .int .i64 x.most, .slice N1 x.names.length N3, .slice M1 f.len M3, .string x.name, .int .i64 x.nat])
   have hF2 := rowR hF1 #[.int .i64 0, .int .i64 0]
   have n2 := row_bl (B := w.heap.size + 1) (c := #[.int .i64 0, .int .i64 0]) (by omega) (row_bl (B := w.heap.size) (c := #[.int .i64 x.kind, .int .i64 x.at_, .int .i64 x.lo, .int .i64 x.hi, .int .i64 x.most, .slice N1 x.names.length N3, .slice M1 f.len M3, .string x.name, .int .i64 x.nat]) (Nat.le_refl _) n)
   have ry2 := RdY.kp (emp_row (b0 := w.heap.size + 2) (B := w.heap.size + 1) (Nat.le_refl _) (by omega) #[.int .i64 0, .int .i64 0]) (RdY.kp (emp_row (b0 := w.heap.size + 2) (B := w.heap.size) (Nat.le_refl _) (by omega) #[.int .i64 x.kind, .int .i64 x.at_, .int .i64 x.lo, .int .i64 x.hi, .int .i64 x.most, .slice N1 x.names.length N3, .slice M1 f.len M3, .string x.name, .int .i64 x.nat]) ry)
   have fin := Lib.hid (hR.out _ _ _ n2 (RdY.kp (kp_lw (b := w.heap.size + 2) (b0 := w.heap.size) (by omega)) ry2))
   clear hR ry ry2 n n2 mE hU hE
   have y0 := (Lib.cell_of_heap hY1 0).trans rfl
   have y1 := (Lib.cell_of_heap hY1 1).trans rfl
   have y2 := (Lib.cell_of_heap hY1 2).trans rfl
   have y3 := (Lib.cell_of_heap hY1 3).trans rfl
   have y4 := (Lib.cell_of_heap hY1 4).trans rfl
   have y5 := (Lib.cell_of_heap hY1 5).trans rfl
   have y6 := (Lib.cell_of_heap hY1 6).trans rfl
   have y7 := (Lib.cell_of_heap hY1 7).trans rfl
   have y8 := (Lib.cell_of_heap hY1 8).trans rfl
   have z0 := (Lib.cell_of_heap hF2 0).trans rfl
   have z1 := (Lib.cell_of_heap hF2 1).trans rfl
   clear hY1 hF2
   go_wp2_with (first | (refine wpList_load_g (by rfl) 29 _ rfl w8.heap.size 0 rfl [.int .i64 x.kind, .int .i64 x.at_, .int .i64 x.lo, .int .i64 x.hi, .int .i64 x.most, .slice N1 x.names.length N3, .slice M1 f.len M3, .string x.name, .int .i64 x.nat] _ rE Tryz.underlying29 rfl (by kernel_rfl) ?_; go_simp) | (refine wpList_store_row rfl 29 _ _ rfl (w.heap.size) #[.int .i64 x.kind, .int .i64 x.at_, .int .i64 x.lo, .int .i64 x.hi, .int .i64 x.most, .slice N1 x.names.length N3, .slice M1 f.len M3, .string x.name, .int .i64 x.nat] rfl rfl 29 _ hY (by kernel_rfl) rfl (by simp [Value.oneCell']) ?_; go_simp) | (refine wpList_store_row rfl 35 _ _ rfl (w.heap.size + 1) #[.int .i64 0, .int .i64 0] rfl rfl 35 _ hF1 (by kernel_rfl) rfl (by simp [Value.oneCell']) ?_; go_simp))
   refine bodyPost_ret ?_ rfl fin.out
   simp [results, Tryz.results28, go_sem, y0, y1, y2, y3, y4, y5, y6, y7, y8, z0, z1]
  ·rw [decide_eq_false hf]
   rw [if_pos hf] at hR
   simp only at hR
   clear hf ry
   go_upto_region 7 with fail
   have kU1 := fun y : GW w10 (w.heap.size) (w.heap.size + 1) => y.cell (blt hU) (by omega) (by omega) ((Lib.cell_of_heap hU 1).trans rfl)
   have kU2 := fun y : GW w10 (w.heap.size) (w.heap.size + 1) => y.cell (blt hU) (by omega) (by omega) ((Lib.cell_of_heap hU 2).trans rfl)
   refine wp_region_mixG (w.heap.size) (w.heap.size + 1) [([0, 1, 2], 3), ([], 4)] [] (by kernel_rfl) (by kernel_rfl) (by kernel_rfl) (by kernel_rfl) (fun _ _ d _ _ h => by cases d <;> exact h) ?_
   have gW : Below w10.heap.size w10 (w10.drewN 1) := ⟨rfl, rfl, rfl, Nat.le_refl _, fun _ _ => rfl⟩
   replace hY := obB gW hY
   replace hF := obB gW hF
   replace n := n.trans (gW.mono n.size)
   refine mix_cons (os := [_, _, _]) (by simp only [pickO, List.filterMap_cons, List.filterMap_nil, List.getElem?_toArray, List.getElem?_cons_succ, List.getElem?_cons_zero]; rfl) (fun Kp hKp => ?_)
   repeat (go_big_quiet_step (exact rfl))
   refine wpQuiet_nil ?_
   refine hKp _ ?_
   clear hKp
   replace hR : Hid (∀ w' nv pv, Below w.heap.size w w' → RdY (empW (lowS w.heap.size) w') zTH .nil nv pv → R (.returned (.tuple #[.agg #[.int .i64 0, .int .i64 0, .int .i64 0, .int .i64 0, .int .i64 0, nv, pv, .string ⟨#[]⟩, .int .i64 0], .agg #[.int .i64 q9.2.1, .int .i64 q9.2.2]])) w') := hR
   refine loud (by rfl) (by kernel_rfl) (fun K2 hK2 => ?_)
   obtain ⟨LV, hLV⟩ : ∃ L : List Value, L = [.int .i64 0, .int .i64 0, .int .i64 0, .int .i64 0, .int .i64 0, .slice none 0 0, .slice none 0 0, .string ⟨#[]⟩, .int .i64 0] := ⟨_, rfl⟩
   have ht_ : (w10.drewN 1).there (w.heap.size) 0 LV.length := there_of hY (by rw [hLV]; rfl)
   have gp_ : ∃ x : GW _ (w.heap.size) (w.heap.size + 1), (w10.drewN 1).setCells (w.heap.size) 0 LV = x.w := sc_gw (GW.bl gW) _ _
   have hq_ := (sc_block LV 0 (w10.drewN 1) (w.heap.size) (w.heap.size + 1) (by omega)).trans hF
   have n_ := sc_below (B := w.heap.size) (by omega) LV 0 _ _ n
   have xx0 := sc_cell ht_ 0 (v := .int .i64 0) (by rw [hLV]; rfl)
   have xx1 := sc_cell ht_ 1 (v := .int .i64 0) (by rw [hLV]; rfl)
   have xx2 := sc_cell ht_ 2 (v := .int .i64 0) (by rw [hLV]; rfl)
   have xx3 := sc_cell ht_ 3 (v := .int .i64 0) (by rw [hLV]; rfl)
   have xx4 := sc_cell ht_ 4 (v := .int .i64 0) (by rw [hLV]; rfl)
   have xx5 := sc_cell ht_ 5 (v := .slice none 0 0) (by rw [hLV]; rfl)
   have xx6 := sc_cell ht_ 6 (v := .slice none 0 0) (by rw [hLV]; rfl)
   have xx7 := sc_cell ht_ 7 (v := .string ⟨#[]⟩) (by rw [hLV]; rfl)
   have xx8 := sc_cell ht_ 8 (v := .int .i64 0) (by rw [hLV]; rfl)
   refine wp_store_mid 29 _ _ (by rfl) (w.heap.size) 0 #[.int .i64 0, .int .i64 0, .int .i64 0, .int .i64 0, .int .i64 0, .slice none 0 0, .slice none 0 0, .string ⟨#[]⟩, .int .i64 0] (by rfl) (by rfl) (by rw [hLV] at ht_; exact ht_) (by kernel_rfl) (by simp [Value.oneCell']) ?_
   rw [show (#[.int .i64 0, .int .i64 0, .int .i64 0, .int .i64 0, .int .i64 0, .slice none 0 0, .slice none 0 0, .string ⟨#[]⟩, .int .i64 0] : Array Value).toList = LV from hLV.symm]
   refine hK2 _ _ gp_ ?_
   clear hK2
   generalize (w10.drewN 1).setCells (w.heap.size) 0 LV = W8 at *
   refine mix_cons (os := []) (by rfl) (fun Kp hKp => ?_)
   refine wpQuiet_nil ?_
   refine hKp _ ?_
   clear hKp
   refine loud (by rfl) (by kernel_rfl) (fun K3 hK3 => ?_)
   have z0 := (Lib.cell_of_heap hq_ 0).trans rfl
   have zf0 := Lib.frozen_of_heap hq_ 0
   have z1 := (Lib.cell_of_heap hq_ 1).trans rfl
   have zf1 := Lib.frozen_of_heap hq_ 1
   have bp_ : ((W8.setCell ⟨w.heap.size + 1, 0, none⟩ (.int .i64 q9.2.1)).setCell ⟨w.heap.size + 1, 1, none⟩ (.int .i64 q9.2.2)).heap[w.heap.size]? = W8.heap[w.heap.size]? := ((sneR (by omega)).trans ((sneR (by omega)).trans rfl))
   have n9 := ((n_.setCell (p := ⟨w.heap.size + 1, 0, none⟩) (by show w.heap.size ≤ w.heap.size + 1; omega) (.int .i64 q9.2.1)).setCell (p := ⟨w.heap.size + 1, 1, none⟩) (by show w.heap.size ≤ w.heap.size + 1; omega) (.int .i64 q9.2.2))
   go_simp
   refine hK3 _ _ (GW.set (GW.set gp_ _) _) ?_
   clear hK3
   refine mix_nil (os := []) (by rfl) (fun Kp hKp => ?_)
   refine wpQuiet_nil ?_
   refine hKp _ ?_
   clear hKp
   replace xx0 := (World.cell?_of_block (a := ⟨w.heap.size, 0, none⟩) bp_).trans xx0
   replace xx1 := (World.cell?_of_block (a := ⟨w.heap.size, 1, none⟩) bp_).trans xx1
   replace xx2 := (World.cell?_of_block (a := ⟨w.heap.size, 2, none⟩) bp_).trans xx2
   replace xx3 := (World.cell?_of_block (a := ⟨w.heap.size, 3, none⟩) bp_).trans xx3
   replace xx4 := (World.cell?_of_block (a := ⟨w.heap.size, 4, none⟩) bp_).trans xx4
   replace xx5 := (World.cell?_of_block (a := ⟨w.heap.size, 5, none⟩) bp_).trans xx5
   replace xx6 := (World.cell?_of_block (a := ⟨w.heap.size, 6, none⟩) bp_).trans xx6
   replace xx7 := (World.cell?_of_block (a := ⟨w.heap.size, 7, none⟩) bp_).trans xx7
   replace xx8 := (World.cell?_of_block (a := ⟨w.heap.size, 8, none⟩) bp_).trans xx8
   have fin := Lib.hid (hR.out _ _ _ n9 (show RdY _ _ _ _ _ from ⟨rdw_none _, RdSl.nil _ none 0⟩))
   clear hR
   clear bp_ ht_ gp_
   go_wp2_with fail
   refine bodyPost_ret ?_ rfl fin.out
   simp [results, Tryz.results28, go_sem, xx0, xx1, xx2, xx3, xx4, xx5, xx6, xx7, xx8, z0, z1]
 ·have qe : (e != 0) = true := by simpa using (scn_bad es).1
  rw [typeS_bad es] at hR
  simp only at hR
  clear hk es
  replace hY := obB m1 hY
  replace hF := obB m1 hF
  replace n := n.trans (m1.mono n.size)
  have lG : w.heap.size + 1 < w1.heap.size := blt hF
  obtain ⟨o5_, ho5_⟩ : ∃ oO_ : Obj, oO_ = .cells #[.int .i64 e, .int .i64 z] 35 := ⟨_, rfl⟩
  have hG := heap_alloc_new w1 o5_
  replace hY := obB (alB w1 o5_) hY
  replace hF := obB (alB w1 o5_) hF
  replace n := n.trans ((alB w1 o5_).mono n.size)
  subst ho5_
  go_upto_region 2 with fail
  generalize w1.alloc (.cells #[.int .i64 e, .int .i64 z] 35) = V2 at *
  generalize w1.heap.size = G at *
  have g0 := (Lib.cell_of_heap hG 0).trans rfl
  go_upto_region 3 with fail
  clear g0 qe
  have kG0 := fun y : GW V2 (w.heap.size) (w.heap.size + 1) => y.cell (blt hG) (by omega) (by omega) ((Lib.cell_of_heap hG 0).trans rfl)
  have kG1 := fun y : GW V2 (w.heap.size) (w.heap.size + 1) => y.cell (blt hG) (by omega) (by omega) ((Lib.cell_of_heap hG 1).trans rfl)
  refine wp_region_mixG (w.heap.size) (w.heap.size + 1) [([0, 1], 2), ([], 3)] [] (by kernel_rfl) (by kernel_rfl) (by kernel_rfl) (by kernel_rfl) (fun _ _ d _ _ h => by cases d <;> exact h) ?_
  have gW : Below V2.heap.size V2 (V2.drewN 1) := ⟨rfl, rfl, rfl, Nat.le_refl _, fun _ _ => rfl⟩
  replace hY := obB gW hY
  replace hF := obB gW hF
  replace n := n.trans (gW.mono n.size)
  refine mix_cons (os := [_, _]) (by simp only [pickO, List.filterMap_cons, List.filterMap_nil, List.getElem?_toArray, List.getElem?_cons_succ, List.getElem?_cons_zero]; rfl) (fun Kp hKp => ?_)
  repeat (go_big_quiet_step (exact rfl))
  refine wpQuiet_nil ?_
  refine hKp _ ?_
  clear hKp
  replace hR : Hid (∀ w' nv pv, Below w.heap.size w w' → RdY (empW (lowS w.heap.size) w') zTH .nil nv pv → R (.returned (.tuple #[.agg #[.int .i64 0, .int .i64 0, .int .i64 0, .int .i64 0, .int .i64 0, nv, pv, .string ⟨#[]⟩, .int .i64 0], .agg #[.int .i64 e, .int .i64 z]])) w') := hR
  refine loud (by rfl) (by kernel_rfl) (fun K2 hK2 => ?_)
  obtain ⟨LV, hLV⟩ : ∃ L : List Value, L = [.int .i64 0, .int .i64 0, .int .i64 0, .int .i64 0, .int .i64 0, .slice none 0 0, .slice none 0 0, .string ⟨#[]⟩, .int .i64 0] := ⟨_, rfl⟩
  have ht_ : (V2.drewN 1).there (w.heap.size) 0 LV.length := there_of hY (by rw [hLV]; rfl)
  have gp_ : ∃ x : GW _ (w.heap.size) (w.heap.size + 1), (V2.drewN 1).setCells (w.heap.size) 0 LV = x.w := sc_gw (GW.bl gW) _ _
  have hq_ := (sc_block LV 0 (V2.drewN 1) (w.heap.size) (w.heap.size + 1) (by omega)).trans hF
  have n_ := sc_below (B := w.heap.size) (by omega) LV 0 _ _ n
  have xx0 := sc_cell ht_ 0 (v := .int .i64 0) (by rw [hLV]; rfl)
  have xx1 := sc_cell ht_ 1 (v := .int .i64 0) (by rw [hLV]; rfl)
  have xx2 := sc_cell ht_ 2 (v := .int .i64 0) (by rw [hLV]; rfl)
  have xx3 := sc_cell ht_ 3 (v := .int .i64 0) (by rw [hLV]; rfl)
  have xx4 := sc_cell ht_ 4 (v := .int .i64 0) (by rw [hLV]; rfl)
  have xx5 := sc_cell ht_ 5 (v := .slice none 0 0) (by rw [hLV]; rfl)
  have xx6 := sc_cell ht_ 6 (v := .slice none 0 0) (by rw [hLV]; rfl)
  have xx7 := sc_cell ht_ 7 (v := .string ⟨#[]⟩) (by rw [hLV]; rfl)
  have xx8 := sc_cell ht_ 8 (v := .int .i64 0) (by rw [hLV]; rfl)
  refine wp_store_mid 29 _ _ (by rfl) (w.heap.size) 0 #[.int .i64 0, .int .i64 0, .int .i64 0, .int .i64 0, .int .i64 0, .slice none 0 0, .slice none 0 0, .string ⟨#[]⟩, .int .i64 0] (by rfl) (by rfl) (by rw [hLV] at ht_; exact ht_) (by kernel_rfl) (by simp [Value.oneCell']) ?_
  rw [show (#[.int .i64 0, .int .i64 0, .int .i64 0, .int .i64 0, .int .i64 0, .slice none 0 0, .slice none 0 0, .string ⟨#[]⟩, .int .i64 0] : Array Value).toList = LV from hLV.symm]
  refine hK2 _ _ gp_ ?_
  clear hK2
  generalize (V2.drewN 1).setCells (w.heap.size) 0 LV = W8 at *
  refine mix_cons (os := []) (by rfl) (fun Kp hKp => ?_)
  refine wpQuiet_nil ?_
  refine hKp _ ?_
  clear hKp
  refine loud (by rfl) (by kernel_rfl) (fun K3 hK3 => ?_)
  have z0 := (Lib.cell_of_heap hq_ 0).trans rfl
  have zf0 := Lib.frozen_of_heap hq_ 0
  have z1 := (Lib.cell_of_heap hq_ 1).trans rfl
  have zf1 := Lib.frozen_of_heap hq_ 1
  have bp_ : ((W8.setCell ⟨w.heap.size + 1, 0, none⟩ (.int .i64 e)).setCell ⟨w.heap.size + 1, 1, none⟩ (.int .i64 z)).heap[w.heap.size]? = W8.heap[w.heap.size]? := ((sneR (by omega)).trans ((sneR (by omega)).trans rfl))
  have n9 := ((n_.setCell (p := ⟨w.heap.size + 1, 0, none⟩) (by show w.heap.size ≤ w.heap.size + 1; omega) (.int .i64 e)).setCell (p := ⟨w.heap.size + 1, 1, none⟩) (by show w.heap.size ≤ w.heap.size + 1; omega) (.int .i64 z))
  go_simp
  refine hK3 _ _ (GW.set (GW.set gp_ _) _) ?_
  clear hK3
  refine mix_nil (os := []) (by rfl) (fun Kp hKp => ?_)
  refine wpQuiet_nil ?_
  refine hKp _ ?_
  clear hKp
  replace xx0 := (World.cell?_of_block (a := ⟨w.heap.size, 0, none⟩) bp_).trans xx0
  replace xx1 := (World.cell?_of_block (a := ⟨w.heap.size, 1, none⟩) bp_).trans xx1
  replace xx2 := (World.cell?_of_block (a := ⟨w.heap.size, 2, none⟩) bp_).trans xx2
  replace xx3 := (World.cell?_of_block (a := ⟨w.heap.size, 3, none⟩) bp_).trans xx3
  replace xx4 := (World.cell?_of_block (a := ⟨w.heap.size, 4, none⟩) bp_).trans xx4
  replace xx5 := (World.cell?_of_block (a := ⟨w.heap.size, 5, none⟩) bp_).trans xx5
  replace xx6 := (World.cell?_of_block (a := ⟨w.heap.size, 6, none⟩) bp_).trans xx6
  replace xx7 := (World.cell?_of_block (a := ⟨w.heap.size, 7, none⟩) bp_).trans xx7
  replace xx8 := (World.cell?_of_block (a := ⟨w.heap.size, 8, none⟩) bp_).trans xx8
  have fin := Lib.hid (hR.out _ _ _ n9 (show RdY _ _ _ _ _ from ⟨rdw_none _, RdSl.nil _ none 0⟩))
  clear hR
  clear bp_ ht_ gp_
  go_wp2_with fail
  refine bodyPost_ret ?_ rfl fin.out
  simp [results, Tryz.results28, go_sem, xx0, xx1, xx2, xx3, xx4, xx5, xx6, xx7, xx8, z0, z1]
end Go.Proofs.YtncijmodlhijoaaGreat.Syn
