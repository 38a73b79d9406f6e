import Derived.Test.YtncijmodlhijoaaGreatQ46
import Derived.Test.YtncijmodlhijoaaGreatQ9
import Derived.Test.YtncijmodlhijoaaGreatQ45
set_option linter.unusedVariables false
set_option maxRecDepth 100000
set_option maxHeartbeats 4000000
namespace Go.Proofs.YtncijmodlhijoaaGreat.Syn
open Go.RowKit Go.Lib Utf Tok Cur Nam Lat Kin
structure Env (w : World) (q p g a b T : Nat) (cs : Array Value) : Prop where
 ha : w.heap[a]? = some (.cells #[ptV q] 133)
 hb : w.heap[b]? = some (.cells #[ptV T] 215)
 hT : w.heap[T]? = some (.cells cs 29)
 ne : a ≠ p ∧ b ≠ p ∧ T ≠ p ∧ a ≠ T ∧ b ≠ T ∧ T ≠ q ∧ g ≠ T
theorem Env.nx {w W : World} {q p g g' a b T : Nat} {cs : Array Value} {d : Int} {s' : PS} (e : Env w q p g a b T cs) (n : Nx w q p g d W g' s') : Env W q p g' a b T cs := by
 obtain ⟨n1, n2, n3, n4, n5, n6, n7⟩ := e.ne
 have lT := bltK e.hT
 refine ⟨(n.blk (bltK e.ha) n1).trans e.ha, (n.blk (bltK e.hb) n2).trans e.hb, (n.blk lT n3).trans e.hT, n1, n2, n3, n4, n5, n6, ?_⟩
 rcases n.g with rfl | h
 ·exact n7
 ·omega
theorem gw_ch {w W : World} {p T : Nat} (c : Ch (fun k => k = p ∨ k = T) w W) : ∃ x : GW w p T, W = x.w := ⟨⟨W, c.size, fun k hk h1 h2 => c.block k hk (by rintro (e | e); exact h1 e; exact h2 e)⟩, rfl⟩
theorem drew_bl (w : World) : Below w.heap.size w (w.drewN 1) := ⟨rfl, rfl, rfl, Nat.le_refl _, fun _ _ => rfl⟩
theorem isF_content2 : IsF 217 := by
 intro args w
 unfold callFunc
 simp [go_sem, Tryz.func217]
 rfl
theorem content2_calls (s : PS) (q p g a b T : Nat) (z0 z1 z2 z3 z4 z5 z6 z7 z8 : Value) (d : Int) (w : World) (h : PsG w q p g d s) (hl : s.1.length ≤ 1000000) (e : Env w q p g a b T #[z0, z1, z2, z3, z4, z5, z6, z7, z8]) (R : Ending → World → Prop)
  (hR : Hid (∀ w' g', Nt T w q p g d w' g' (intS s).2 → w'.heap[T]? = some (.cells #[z0, z1, z2, z3, .int .i64 (intS s).1, z5, z6, z7, z8] 29) → R (.returned (.tuple #[])) w')) : Calls Tryz.prog 217 #[ptV a, ptV b] w R := by
 obtain ⟨n1, n2, n3, n4, n5, n6, n7⟩ := e.ne
 have la := bltK e.ha
 have lb := bltK e.hb
 have lT := bltK e.hT
 have nx0 := h.same (drew_bl w)
 have e0 := e.nx nx0
 have ka := fun y : GW w p T => y.cell la n1 n4 ((Lib.cell_of_heap e.ha 0).trans rfl)
 have kb := fun y : GW w p T => y.cell lb n2 n5 ((Lib.cell_of_heap e.hb 0).trans rfl)
 have hmf : ∀ (fn : Fn) (first cap : Array Value) (w : World), (Instr.makeFunc fn first cap).run Tryz.prog w = .ok (.func fn first cap) w := fun _ _ _ _ => rfl
 go_enter Tryz.func217, Tryz.ntmps217
 go_wp2_with fail
 refine wp_region_mixG p T [([0, 1], 2), ([], 3), ([4], 5)] [] (by kernel_rfl) (by kernel_rfl) (by kernel_rfl) (by kernel_rfl) (fun _ _ d _ _ h => by cases d <;> exact h) ?_
 refine mix_cons (os := [_, _]) (by simp only [pickO, List.filterMap_cons, List.filterMap_nil, List.getElem?_toArray, List.getElem?_cons_succ, List.getElem?_cons_zero]; rfl) (fun Kp hKp => ?_)
 repeat (go_big_quiet_step (exact rfl))
 refine wpQuiet_nil ?_
 refine hKp _ ?_
 clear hKp
 refine loud (by rfl) (by kernel_rfl) (fun K3 hK3 => ?_)
 go_simp
 refine number_calls s q p g d _ nx0.ps _ (Lib.hid fun w5 g5 n5 => ?_)
 have n := nx0.trans n5
 have e5 := e0.nx n5
 have nt : Nt T w q p g d w5 g5 (intS s).2 := n.to
 refine hK3 _ _ (gw_ch nt.ch) ?_
 clear hK3
 refine mix_cons (os := []) (by rfl) (fun Kp hKp => ?_)
 refine wpQuiet_nil ?_
 refine hKp _ ?_
 clear hKp
 refine loud (by rfl) (by kernel_rfl) (fun K4 hK4 => ?_)
 go_simp
 refine hK4 _ _ (gw_ch nt.ch) ?_
 clear hK4
 refine mix_cons (os := [_]) (by simp only [pickO, List.filterMap_cons, List.filterMap_nil, List.getElem?_toArray, List.getElem?_cons_succ, List.getElem?_cons_zero]; rfl) (fun Kp hKp => ?_)
 repeat (go_big_quiet_step (exact rfl))
 refine wpQuiet_nil ?_
 refine hKp _ ?_
 clear hKp
 refine loud (by rfl) (by kernel_rfl) (fun K5 hK5 => ?_)
 have y4 := (Lib.cell_of_heap e5.hT 4).trans rfl
 have yf4 := Lib.frozen_of_heap e5.hT 4
 have nt2 := nt.set lT ⟨n6, n3, n7⟩ 4 (.int .i64 (intS s).1)
 have hT2 := satK e5.hT 4 (.int .i64 (intS s).1)
 simp only [List.setIfInBounds_toArray, List.set_cons_succ, List.set_cons_zero] at hT2
 have fin := Lib.hid (hR.out _ _ nt2 hT2)
 go_simp
 refine hK5 _ _ (gw_ch nt2.ch) ?_
 clear hK5 hR n n5 nt nt2 hT2 e5 e0 nx0 e h ka kb
 refine mix_nil (os := []) (by rfl) (fun Kp hKp => ?_)
 refine wpQuiet_nil ?_
 refine hKp _ ?_
 clear hKp
 go_wp2_with fail
 first | refine bodyPost_ret ?_ rfl fin.out | refine bodyPost_end ?_ rfl fin.out
 simp [results, Tryz.results217, go_sem]
theorem isF_content1 : IsF 215 := by
 intro args w
 unfold callFunc
 simp [go_sem, Tryz.func215]
 rfl
theorem content1_calls (s : PS) (q p g a b T : Nat) (z0 z1 z2 z3 z4 z5 z6 z7 z8 : Value) (d : Int) (w : World) (h : PsG w q p g d s) (hl : s.1.length ≤ 1000000) (e : Env w q p g a b T #[z0, z1, z2, z3, z4, z5, z6, z7, z8]) (R : Ending → World → Prop)
  (hR : Hid (∀ w' g', Nt T w q p g d w' g' (boundsC s).2 → w'.heap[T]? = some (.cells #[z0, z1, .int .i64 (boundsC s).1.1, .int .i64 (boundsC s).1.2, z4, z5, z6, z7, z8] 29) → R (.returned (.tuple #[])) w')) : Calls Tryz.prog 215 #[ptV a, ptV b] w R := by
 obtain ⟨n1, n2, n3, n4, n5, n6, n7⟩ := e.ne
 have la := bltK e.ha
 have lb := bltK e.hb
 have lT := bltK e.hT
 have nx0 := h.same (drew_bl w)
 have e0 := e.nx nx0
 have ka := fun y : GW w p T => y.cell la n1 n4 ((Lib.cell_of_heap e.ha 0).trans rfl)
 have kb := fun y : GW w p T => y.cell lb n2 n5 ((Lib.cell_of_heap e.hb 0).trans rfl)
 have hmf : ∀ (fn : Fn) (first cap : Array Value) (w : World), (Instr.makeFunc fn first cap).run Tryz.prog w = .ok (.func fn first cap) w := fun _ _ _ _ => rfl
 go_enter Tryz.func215, Tryz.ntmps215
 go_wp2_with fail
 refine wp_region_mixG p T [([0, 1, 2], 3), ([4, 5, 6], 7), ([8], 9), ([], 10), ([11], 12)] [] (by kernel_rfl) (by kernel_rfl) (by kernel_rfl) (by kernel_rfl) (fun _ _ d _ _ h => by cases d <;> exact h) ?_
 refine mix_cons (os := [_, _, _]) (by simp only [pickO, List.filterMap_cons, List.filterMap_nil, List.getElem?_toArray, List.getElem?_cons_succ, List.getElem?_cons_zero]; rfl) (fun Kp hKp => ?_)
 repeat (go_big_quiet_step (exact rfl))
 refine wpQuiet_nil ?_
 refine hKp _ ?_
 clear hKp
 refine loud (by rfl) (by kernel_rfl) (fun K1 hK1 => ?_)
 go_simp
 refine bounds_calls s q p g d _ nx0.ps _ (Lib.hid fun w5 g5 n5 => ?_)
 have n := nx0.trans n5
 have e5 := e0.nx n5
 have nt : Nt T w q p g d w5 g5 (boundsC s).2 := n.to
 refine hK1 _ _ (gw_ch nt.ch) ?_
 clear hK1
 refine mix_cons (os := [_, _, _]) (by simp only [pickO, List.filterMap_cons, List.filterMap_nil, List.getElem?_toArray, List.getElem?_cons_succ, List.getElem?_cons_zero]; rfl) (fun Kp hKp => ?_)
 repeat (go_big_quiet_step (exact rfl))
 refine wpQuiet_nil ?_
 refine hKp _ ?_
 clear hKp
 refine loud (by rfl) (by kernel_rfl) (fun K2 hK2 => ?_)
 go_simp
 refine hK2 _ _ (gw_ch nt.ch) ?_
 clear hK2
 refine mix_cons (os := [_]) (by simp only [pickO, List.filterMap_cons, List.filterMap_nil, List.getElem?_toArray, List.getElem?_cons_succ, List.getElem?_cons_zero]; rfl) (fun Kp hKp => ?_)
 repeat (go_big_quiet_step (exact rfl))
 refine wpQuiet_nil ?_
 refine hKp _ ?_
 clear hKp
 refine loud (by rfl) (by kernel_rfl) (fun K3 hK3 => ?_)
 have y2 := (Lib.cell_of_heap e5.hT 2).trans rfl
 have yf2 := Lib.frozen_of_heap e5.hT 2
 have nt2 := nt.set lT ⟨n6, n3, n7⟩ 2 (.int .i64 (boundsC s).1.1)
 have hT2 := satK e5.hT 2 (.int .i64 (boundsC s).1.1)
 simp only [List.setIfInBounds_toArray, List.set_cons_succ, List.set_cons_zero] at hT2
 go_simp
 refine hK3 _ _ (gw_ch nt2.ch) ?_
 clear hK3
 generalize w5.setCell ⟨T, 2, none⟩ (.int .i64 (boundsC s).1.1) = V5 at *
 clear y2 yf2
 refine mix_cons (os := []) (by rfl) (fun Kp hKp => ?_)
 refine wpQuiet_nil ?_
 refine hKp _ ?_
 clear hKp
 refine loud (by rfl) (by kernel_rfl) (fun K4 hK4 => ?_)
 go_simp
 refine hK4 _ _ (gw_ch nt2.ch) ?_
 clear hK4
 refine mix_cons (os := [_]) (by simp only [pickO, List.filterMap_cons, List.filterMap_nil, List.getElem?_toArray, List.getElem?_cons_succ, List.getElem?_cons_zero]; rfl) (fun Kp hKp => ?_)
 repeat (go_big_quiet_step (exact rfl))
 refine wpQuiet_nil ?_
 refine hKp _ ?_
 clear hKp
 refine loud (by rfl) (by kernel_rfl) (fun K5 hK5 => ?_)
 have y3 := (Lib.cell_of_heap hT2 3).trans rfl
 have yf3 := Lib.frozen_of_heap hT2 3
 have nt3 := nt2.set lT ⟨n6, n3, n7⟩ 3 (.int .i64 (boundsC s).1.2)
 have hT3 := satK hT2 3 (.int .i64 (boundsC s).1.2)
 simp only [List.setIfInBounds_toArray, List.set_cons_succ, List.set_cons_zero] at hT3
 have fin := Lib.hid (hR.out _ _ nt3 hT3)
 go_simp
 refine hK5 _ _ (gw_ch nt3.ch) ?_
 clear hK5 hR n n5 nt nt2 hT2 nt3 hT3 e5 e0 nx0 e h ka kb
 refine mix_nil (os := []) (by rfl) (fun Kp hKp => ?_)
 refine wpQuiet_nil ?_
 refine hKp _ ?_
 clear hKp
 go_wp2_with fail
 first | refine bodyPost_ret ?_ rfl fin.out | refine bodyPost_end ?_ rfl fin.out
 simp [results, Tryz.results215, go_sem]
theorem isF_content3 : IsF 219 := by
 intro args w
 unfold callFunc
 simp [go_sem, Tryz.func219]
 rfl
theorem content3_calls (s : PS) (q p g a b T : Nat) (z0 z1 z2 z3 z4 z5 z6 z7 z8 : Value) (d : Int) (w : World) (h : PsG w q p g d s) (hl : s.1.length ≤ 1000000) (e : Env w q p g a b T #[z0, z1, z2, z3, z4, z5, z6, z7, z8]) (R : Ending → World → Prop)
  (hR : Hid (∀ w' g' v, Nt T w q p g d w' g' (listP nameS comma s).2 → w'.heap[T]? = some (.cells #[z0, z1, z2, z3, z4, v, z6, z7, z8] 29) → RdW (empW (lowS w.heap.size) w') v (listP nameS comma s).1 → R (.returned (.tuple #[])) w')) : Calls Tryz.prog 219 #[ptV a, ptV b] w R := by
 obtain ⟨n1, n2, n3, n4, n5, n6, n7⟩ := e.ne
 have la := bltK e.ha
 have lb := bltK e.hb
 have lT := bltK e.hT
 have nx0 := h.same (drew_bl w)
 have e0 := e.nx nx0
 have ka := fun y : GW w p T => y.cell la n1 n4 ((Lib.cell_of_heap e.ha 0).trans rfl)
 have kb := fun y : GW w p T => y.cell lb n2 n5 ((Lib.cell_of_heap e.hb 0).trans rfl)
 have hmf : ∀ (fn : Fn) (first cap : Array Value) (w : World), (Instr.makeFunc fn first cap).run Tryz.prog w = .ok (.func fn first cap) w := fun _ _ _ _ => rfl
 go_enter Tryz.func219, Tryz.ntmps219
 go_wp2_with fail
 refine wp_region_mixG p T [([0, 1, 2], 3), ([], 4), ([], 5), ([6], 7)] [] (by kernel_rfl) (by kernel_rfl) (by kernel_rfl) (by kernel_rfl) (fun _ _ d _ _ h => by cases d <;> exact h) ?_
 refine mix_cons (os := [_, _, _]) (by simp only [pickO, List.filterMap_cons, List.filterMap_nil, List.getElem?_toArray, List.getElem?_cons_succ, List.getElem?_cons_zero]; rfl) (fun Kp hKp => ?_)
 repeat (go_big_quiet_step (exact rfl))
 refine wpQuiet_nil ?_
 refine hKp _ ?_
 clear hKp
 refine loud (by rfl) (by kernel_rfl) (fun K3 hK3 => ?_)
 go_simp
 refine hK3 _ _ (gw_ch (Ch.bl (drew_bl w))) ?_
 clear hK3
 refine mix_cons (os := []) (by rfl) (fun Kp hKp => ?_)
 refine wpQuiet_nil ?_
 refine hKp _ ?_
 clear hKp
 refine loud (by rfl) (by kernel_rfl) (fun K9 hK9 => ?_)
 go_simp
 refine listW_calls s q p g d _ nx0.ps hl _ (Lib.hid fun w5 g5 v n5 r5 => ?_)
 obtain ⟨A5, c5, rfl, -, -⟩ := r5.op
 have n := nx0.trans n5
 have e5 := e0.nx n5
 have nt : Nt T w q p g d w5 g5 (listP nameS comma s).2 := n.to
 refine hK9 _ _ (gw_ch nt.ch) ?_
 clear hK9
 refine mix_cons (os := []) (by rfl) (fun Kp hKp => ?_)
 refine wpQuiet_nil ?_
 refine hKp _ ?_
 clear hKp
 refine loud (by rfl) (by kernel_rfl) (fun K4 hK4 => ?_)
 go_simp
 refine hK4 _ _ (gw_ch nt.ch) ?_
 clear hK4
 refine mix_cons (os := [_]) (by simp only [pickO, List.filterMap_cons, List.filterMap_nil, List.getElem?_toArray, List.getElem?_cons_succ, List.getElem?_cons_zero]; rfl) (fun Kp hKp => ?_)
 repeat (go_big_quiet_step (exact rfl))
 refine wpQuiet_nil ?_
 refine hKp _ ?_
 clear hKp
 refine loud (by rfl) (by kernel_rfl) (fun K5 hK5 => ?_)
 have y5 := (Lib.cell_of_heap e5.hT 5).trans rfl
 have yf5 := Lib.frozen_of_heap e5.hT 5
 replace r5 := r5.kp (kp_set (b := w.heap.size) (b0 := w.heap.size) lT (Nat.le_refl _) 5 (.slice A5 (listP nameS comma s).1.length c5))
 have nt2 := (nt.set lT ⟨n6, n3, n7⟩ 5 (.slice A5 (listP nameS comma s).1.length c5))
 have hT2 := (satK e5.hT 5 (.slice A5 (listP nameS comma s).1.length c5))
 simp only [List.setIfInBounds_toArray, List.set_cons_succ, List.set_cons_zero] at hT2
 have fin := Lib.hid (hR.out _ _ _ nt2 hT2 r5)
 go_simp
 refine hK5 _ _ (gw_ch nt2.ch) ?_
 clear hK5 hR n n5 nt nt2 hT2 e5 e0 nx0 e h ka kb r5
 refine mix_nil (os := []) (by rfl) (fun Kp hKp => ?_)
 refine wpQuiet_nil ?_
 refine hKp _ ?_
 clear hKp
 go_wp2_with fail
 first | refine bodyPost_ret ?_ rfl fin.out | refine bodyPost_end ?_ rfl fin.out
 simp [results, Tryz.results219, go_sem]
theorem isF_content4 : IsF 220 := by
 intro args w
 unfold callFunc
 simp [go_sem, Tryz.func220]
 rfl
theorem content4_calls (k : Nat) (hk : TypQ k) (s : PS) (q p g a b T : Nat) (z0 z1 z2 z3 z4 z5 z6 z7 z8 : Value) (w : World) (h : PsG w q p g (24 - (k : Int)) s) (hl : s.1.length ≤ 1000000) (e : Env w q p g a b T #[z0, z1, z2, z3, z4, z5, z6, z7, z8]) (R : Ending → World → Prop)
  (hR : Hid (∀ w' g' v, Nt T w q p g (24 - (k : Int)) w' g' (listC (typC k) s).2 → w'.heap[T]? = some (.cells #[z0, z1, z2, z3, .int .i64 (listC (typC k) s).1.2, z5, v, z7, z8] 29) → RdP (empW (lowS w.heap.size) w') v (listC (typC k) s).1.1 → R (.returned (.tuple #[])) w')) : Calls Tryz.prog 220 #[ptV a, ptV b] w R := by
 obtain ⟨n1, n2, n3, n4, n5, n6, n7⟩ := e.ne
 have la := bltK e.ha
 have lb := bltK e.hb
 have lT := bltK e.hT
 have nx0 := h.same (drew_bl w)
 have e0 := e.nx nx0
 have ka := fun y : GW w p T => y.cell la n1 n4 ((Lib.cell_of_heap e.ha 0).trans rfl)
 have kb := fun y : GW w p T => y.cell lb n2 n5 ((Lib.cell_of_heap e.hb 0).trans rfl)
 have hmf : ∀ (fn : Fn) (first cap : Array Value) (w : World), (Instr.makeFunc fn first cap).run Tryz.prog w = .ok (.func fn first cap) w := fun _ _ _ _ => rfl
 have hq : listC (typC k) s = ((only (typC k s).1, (intS (markS (typC k s).2 comma)).1), (intS (markS (typC k s).2 comma)).2) := rfl
 rw [hq] at hR
 simp only at hR
 clear hq
 go_enter Tryz.func220, Tryz.ntmps220
 go_wp2_with fail
 refine wp_region_mixG p T [([0, 1], 2), ([], 3), ([4], 5)] [] (by kernel_rfl) (by kernel_rfl) (by kernel_rfl) (by kernel_rfl) (fun _ _ d _ _ h => by cases d <;> exact h) ?_
 refine mix_cons (os := [_, _]) (by simp only [pickO, List.filterMap_cons, List.filterMap_nil, List.getElem?_toArray, List.getElem?_cons_succ, List.getElem?_cons_zero]; rfl) (fun Kp hKp => ?_)
 repeat (go_big_quiet_step (exact rfl))
 refine wpQuiet_nil ?_
 refine hKp _ ?_
 clear hKp
 refine loud (by rfl) (by kernel_rfl) (fun K1 hK1 => ?_)
 go_simp
 refine only_calls k hk s q p g _ nx0.ps hl _ (Lib.hid fun w5 g5 v n5 r5 => ?_)
 obtain ⟨A5, c5, rfl, -⟩ := r5.sl
 have gt := gd_typ k s h.ok
 have n := nx0.trans n5
 have e5 := e0.nx n5
 have nt : Nt T w q p g (24 - (k : Int)) w5 g5 (typC k s).2 := n.to
 refine hK1 _ _ (gw_ch nt.ch) ?_
 clear hK1
 generalize typC k s = X at *
 refine mix_cons (os := []) (by rfl) (fun Kp hKp => ?_)
 refine wpQuiet_nil ?_
 refine hKp _ ?_
 clear hKp
 refine loud (by rfl) (by kernel_rfl) (fun K4 hK4 => ?_)
 go_simp
 refine hK4 _ _ (gw_ch nt.ch) ?_
 clear hK4
 refine mix_cons (os := [_]) (by simp only [pickO, List.filterMap_cons, List.filterMap_nil, List.getElem?_toArray, List.getElem?_cons_succ, List.getElem?_cons_zero]; rfl) (fun Kp hKp => ?_)
 repeat (go_big_quiet_step (exact rfl))
 refine wpQuiet_nil ?_
 refine hKp _ ?_
 clear hKp
 refine loud (by rfl) (by kernel_rfl) (fun K5 hK5 => ?_)
 have y6 := (Lib.cell_of_heap e5.hT 6).trans rfl
 have yf6 := Lib.frozen_of_heap e5.hT 6
 replace r5 := RdSl.kp (hd := hdT) (pl := plT) (fun _ _ _ _ _ q h => hdT.kp q h) (fun _ _ _ _ q h => plT.kp q h) (kp_set (b := w.heap.size) (b0 := w.heap.size) lT (Nat.le_refl _) 6 (.slice A5 (only X.1).len c5)) r5
 have nt2 := nt.set lT ⟨n6, n3, n7⟩ 6 (.slice A5 (only X.1).len c5)
 have hT2 := satK e5.hT 6 (.slice A5 (only X.1).len c5)
 have e6 : Env (w5.setCell ⟨T, 6, none⟩ (.slice A5 (only X.1).len c5)) q p g5 a b T _ := ⟨(sneK n4).trans e5.ha, (sneK e5.ne.2.2.2.2.1).trans e5.hb, hT2, e5.ne⟩
 simp only [List.setIfInBounds_toArray, List.set_cons_succ, List.set_cons_zero] at hT2 e6
 go_simp
 refine hK5 _ _ (gw_ch nt2.ch) ?_
 clear hK5
 generalize w5.setCell ⟨T, 6, none⟩ (.slice A5 (only X.1).len c5) = V5 at *
 clear y6 yf6 nt n n5 e5 ka kb hT2 e0 nx0
 refine mix_nil (os := []) (by rfl) (fun Kp hKp => ?_)
 refine wpQuiet_nil ?_
 refine hKp _ ?_
 clear hKp
 have a0 := (Lib.cell_of_heap e6.ha 0).trans rfl
 have b0 := nt2.ps.b0
 have szw := nt2.ch.size
 go_wp2_with fail
 refine need_calls X.2 comma q p g5 _ V5 nt2.ps _ (Lib.hid fun w6 g6 o6 m6 => ?_)
 replace r5 := RdSl.kp (hd := hdT) (pl := plT) (fun _ _ _ _ _ q h => hdT.kp q h) (fun _ _ _ _ q h => plT.kp q h) (m6.kp h.cur.lt (Nat.le_refl _)) r5
 have e7 := e6.nx m6
 replace nt2 := nt2.nx m6
 clear e6 m6 a0 b0
 have nx1 := nt2.ps.same (drew_bl w6)
 have e8 := e7.nx nx1
 have la6 := bltK e7.ha
 have lb6 := bltK e7.hb
 have lT6 := bltK e7.hT
 have ka := fun y : GW w6 p T => y.cell la6 n1 n4 ((Lib.cell_of_heap e7.ha 0).trans rfl)
 have kb := fun y : GW w6 p T => y.cell lb6 n2 e7.ne.2.2.2.2.1 ((Lib.cell_of_heap e7.hb 0).trans rfl)
 go_wp2_with fail
 refine wp_region_mixG p T [([0, 1], 2), ([], 3), ([4], 5)] [] (by kernel_rfl) (by kernel_rfl) (by kernel_rfl) (by kernel_rfl) (fun _ _ d _ _ h => by cases d <;> exact h) ?_
 refine mix_cons (os := [_, _]) (by simp only [pickO, List.filterMap_cons, List.filterMap_nil, List.getElem?_toArray, List.getElem?_cons_succ, List.getElem?_cons_zero]; rfl) (fun Kp hKp => ?_)
 repeat (go_big_quiet_step (exact rfl))
 refine wpQuiet_nil ?_
 refine hKp _ ?_
 clear hKp
 refine loud (by rfl) (by kernel_rfl) (fun K1 hK1 => ?_)
 go_simp
 refine number_calls (markS X.2 comma) q p g6 _ _ nx1.ps _ (Lib.hid fun w8 g8 n8 => ?_)
 have n := nx1.trans n8
 have e9 := e8.nx n8
 have nt3 : Nt T w6 q p g6 (24 - (k : Int)) w8 g8 (intS (markS X.2 comma)).2 := n.to
 replace r5 := RdSl.kp (hd := hdT) (pl := plT) (fun _ _ _ _ _ q h => hdT.kp q h) (fun _ _ _ _ q h => plT.kp q h) (n.kp h.cur.lt (Nat.le_refl _)) r5
 refine hK1 _ _ (gw_ch nt3.ch) ?_
 clear hK1
 refine mix_cons (os := []) (by rfl) (fun Kp hKp => ?_)
 refine wpQuiet_nil ?_
 refine hKp _ ?_
 clear hKp
 refine loud (by rfl) (by kernel_rfl) (fun K4 hK4 => ?_)
 go_simp
 refine hK4 _ _ (gw_ch nt3.ch) ?_
 clear hK4
 refine mix_cons (os := [_]) (by simp only [pickO, List.filterMap_cons, List.filterMap_nil, List.getElem?_toArray, List.getElem?_cons_succ, List.getElem?_cons_zero]; rfl) (fun Kp hKp => ?_)
 repeat (go_big_quiet_step (exact rfl))
 refine wpQuiet_nil ?_
 refine hKp _ ?_
 clear hKp
 refine loud (by rfl) (by kernel_rfl) (fun K5 hK5 => ?_)
 have y4 := (Lib.cell_of_heap e9.hT 4).trans rfl
 have yf4 := Lib.frozen_of_heap e9.hT 4
 replace r5 := RdSl.kp (hd := hdT) (pl := plT) (fun _ _ _ _ _ q h => hdT.kp q h) (fun _ _ _ _ q h => plT.kp q h) (kp_set (b := w.heap.size) (b0 := w.heap.size) lT (Nat.le_refl _) 4 (.int .i64 (intS (markS X.2 comma)).1)) r5
 have nt4 := nt3.set lT6 ⟨n6, n3, e7.ne.2.2.2.2.2.2⟩ 4 (.int .i64 (intS (markS X.2 comma)).1)
 have nt5 := (nt2.nx n).set lT ⟨n6, n3, n7⟩ 4 (.int .i64 (intS (markS X.2 comma)).1)
 have hT3 := satK e9.hT 4 (.int .i64 (intS (markS X.2 comma)).1)
 simp only [List.setIfInBounds_toArray, List.set_cons_succ, List.set_cons_zero] at hT3
 have fin := Lib.hid (hR.out _ _ _ nt5 hT3 r5)
 go_simp
 refine hK5 _ _ (gw_ch nt4.ch) ?_
 clear hK5 hR n n8 nt3 nt4 nt5 nt2 hT3 e9 e8 e7 nx1 e h ka kb r5
 refine mix_nil (os := []) (by rfl) (fun Kp hKp => ?_)
 refine wpQuiet_nil ?_
 refine hKp _ ?_
 clear hKp
 go_wp2_with fail
 first | refine bodyPost_ret ?_ rfl fin.out | refine bodyPost_end ?_ rfl fin.out
 simp [results, Tryz.results220, go_sem]
theorem isF_content5 : IsF 223 := by
 intro args w
 unfold callFunc
 simp [go_sem, Tryz.func223]
 rfl
theorem content5_calls (k : Nat) (hk : TypQ k) (s : PS) (q p g a b T : Nat) (z0 z1 z2 z3 z4 z5 z6 z7 z8 : Value) (w : World) (h : PsG w q p g (24 - (k : Int)) s) (hl : s.1.length ≤ 1000000) (e : Env w q p g a b T #[z0, z1, z2, z3, z4, z5, z6, z7, z8]) (R : Ending → World → Prop)
  (hR : Hid (∀ w' g' v, Nt T w q p g (24 - (k : Int)) w' g' (typC k s).2 → w'.heap[T]? = some (.cells #[z0, z1, z2, z3, z4, z5, v, z7, z8] 29) → RdP (empW (lowS w.heap.size) w') v (only (typC k s).1) → R (.returned (.tuple #[])) w')) : Calls Tryz.prog 223 #[ptV a, ptV b] w R := by
 obtain ⟨n1, n2, n3, n4, n5, n6, n7⟩ := e.ne
 have la := bltK e.ha
 have lb := bltK e.hb
 have lT := bltK e.hT
 have nx0 := h.same (drew_bl w)
 have e0 := e.nx nx0
 have ka := fun y : GW w p T => y.cell la n1 n4 ((Lib.cell_of_heap e.ha 0).trans rfl)
 have kb := fun y : GW w p T => y.cell lb n2 n5 ((Lib.cell_of_heap e.hb 0).trans rfl)
 have hmf : ∀ (fn : Fn) (first cap : Array Value) (w : World), (Instr.makeFunc fn first cap).run Tryz.prog w = .ok (.func fn first cap) w := fun _ _ _ _ => rfl
 go_enter Tryz.func223, Tryz.ntmps223
 go_wp2_with fail
 refine wp_region_mixG p T [([0, 1], 2), ([], 3), ([4], 5)] [] (by kernel_rfl) (by kernel_rfl) (by kernel_rfl) (by kernel_rfl) (fun _ _ d _ _ h => by cases d <;> exact h) ?_
 refine mix_cons (os := [_, _]) (by simp only [pickO, List.filterMap_cons, List.filterMap_nil, List.getElem?_toArray, List.getElem?_cons_succ, List.getElem?_cons_zero]; rfl) (fun Kp hKp => ?_)
 repeat (go_big_quiet_step (exact rfl))
 refine wpQuiet_nil ?_
 refine hKp _ ?_
 clear hKp
 refine loud (by rfl) (by kernel_rfl) (fun K9 hK9 => ?_)
 go_simp
 refine only_calls k hk s q p g _ nx0.ps hl _ (Lib.hid fun w5 g5 v n5 r5 => ?_)
 obtain ⟨A5, c5, rfl, -⟩ := r5.sl
 have n := nx0.trans n5
 have e5 := e0.nx n5
 have nt : Nt T w q p g (24 - (k : Int)) w5 g5 (typC k s).2 := n.to
 refine hK9 _ _ (gw_ch nt.ch) ?_
 clear hK9
 refine mix_cons (os := []) (by rfl) (fun Kp hKp => ?_)
 refine wpQuiet_nil ?_
 refine hKp _ ?_
 clear hKp
 refine loud (by rfl) (by kernel_rfl) (fun K4 hK4 => ?_)
 go_simp
 refine hK4 _ _ (gw_ch nt.ch) ?_
 clear hK4
 refine mix_cons (os := [_]) (by simp only [pickO, List.filterMap_cons, List.filterMap_nil, List.getElem?_toArray, List.getElem?_cons_succ, List.getElem?_cons_zero]; rfl) (fun Kp hKp => ?_)
 repeat (go_big_quiet_step (exact rfl))
 refine wpQuiet_nil ?_
 refine hKp _ ?_
 clear hKp
 refine loud (by rfl) (by kernel_rfl) (fun K5 hK5 => ?_)
 have y6 := (Lib.cell_of_heap e5.hT 6).trans rfl
 have yf6 := Lib.frozen_of_heap e5.hT 6
 replace r5 := RdSl.kp (hd := hdT) (pl := plT) (fun _ _ _ _ _ q h => hdT.kp q h) (fun _ _ _ _ q h => plT.kp q h) (kp_set (b := w.heap.size) (b0 := w.heap.size) lT (Nat.le_refl _) 6 (.slice A5 (only (typC k s).1).len c5)) r5
 have nt2 := (nt.set lT ⟨n6, n3, n7⟩ 6 (.slice A5 (only (typC k s).1).len c5))
 have hT2 := (satK e5.hT 6 (.slice A5 (only (typC k s).1).len c5))
 simp only [List.setIfInBounds_toArray, List.set_cons_succ, List.set_cons_zero] at hT2
 have fin := Lib.hid (hR.out _ _ _ nt2 hT2 r5)
 go_simp
 refine hK5 _ _ (gw_ch nt2.ch) ?_
 clear hK5 hR n n5 nt nt2 hT2 e5 e0 nx0 e h ka kb r5
 refine mix_nil (os := []) (by rfl) (fun Kp hKp => ?_)
 refine wpQuiet_nil ?_
 refine hKp _ ?_
 clear hKp
 go_wp2_with fail
 first | refine bodyPost_ret ?_ rfl fin.out | refine bodyPost_end ?_ rfl fin.out
 simp [results, Tryz.results223, go_sem]
theorem isF_content8 : IsF 230 := by
 intro args w
 unfold callFunc
 simp [go_sem, Tryz.func230]
 rfl
theorem content8_calls (s : PS) (q p g a b T : Nat) (z0 z1 z2 z3 z4 z5 z6 z7 z8 : Value) (d : Int) (w : World) (h : PsG w q p g d s) (hl : s.1.length ≤ 1000000) (e : Env w q p g a b T #[z0, z1, z2, z3, z4, z5, z6, z7, z8]) (R : Ending → World → Prop)
  (hR : Hid (∀ w' g', Nt T w q p g d w' g' (nameS s).2 → w'.heap[T]? = some (.cells #[z0, z1, z2, z3, z4, z5, z6, .string (nameS s).1.1, .int .i64 (nameS s).1.2] 29) → R (.returned (.tuple #[])) w')) : Calls Tryz.prog 230 #[ptV a, ptV b] w R := by
 obtain ⟨n1, n2, n3, n4, n5, n6, n7⟩ := e.ne
 have la := bltK e.ha
 have lb := bltK e.hb
 have lT := bltK e.hT
 have nx0 := h.same (drew_bl w)
 have e0 := e.nx nx0
 have ka := fun y : GW w p T => y.cell la n1 n4 ((Lib.cell_of_heap e.ha 0).trans rfl)
 have kb := fun y : GW w p T => y.cell lb n2 n5 ((Lib.cell_of_heap e.hb 0).trans rfl)
 have hmf : ∀ (fn : Fn) (first cap : Array Value) (w : World), (Instr.makeFunc fn first cap).run Tryz.prog w = .ok (.func fn first cap) w := fun _ _ _ _ => rfl
 go_enter Tryz.func230, Tryz.ntmps230
 go_wp2_with fail
 refine wp_region_mixG p T [([0, 1], 2), ([], 3), ([4], 5)] [] (by kernel_rfl) (by kernel_rfl) (by kernel_rfl) (by kernel_rfl) (fun _ _ d _ _ h => by cases d <;> exact h) ?_
 refine mix_cons (os := [_, _]) (by simp only [pickO, List.filterMap_cons, List.filterMap_nil, List.getElem?_toArray, List.getElem?_cons_succ, List.getElem?_cons_zero]; rfl) (fun Kp hKp => ?_)
 repeat (go_big_quiet_step (exact rfl))
 refine wpQuiet_nil ?_
 refine hKp _ ?_
 clear hKp
 refine loud (by rfl) (by kernel_rfl) (fun K9 hK9 => ?_)
 go_simp
 refine nameK_calls s q p g d _ nx0.ps _ (Lib.hid fun w5 g5 n5 => ?_)
 have n := nx0.trans n5
 have e5 := e0.nx n5
 have nt : Nt T w q p g d w5 g5 (nameS s).2 := n.to
 refine hK9 _ _ (gw_ch nt.ch) ?_
 clear hK9
 refine mix_cons (os := []) (by rfl) (fun Kp hKp => ?_)
 refine wpQuiet_nil ?_
 refine hKp _ ?_
 clear hKp
 refine loud (by rfl) (by kernel_rfl) (fun K4 hK4 => ?_)
 go_simp
 refine hK4 _ _ (gw_ch nt.ch) ?_
 clear hK4
 refine mix_cons (os := [_]) (by simp only [pickO, List.filterMap_cons, List.filterMap_nil, List.getElem?_toArray, List.getElem?_cons_succ, List.getElem?_cons_zero]; rfl) (fun Kp hKp => ?_)
 repeat (go_big_quiet_step (exact rfl))
 refine wpQuiet_nil ?_
 refine hKp _ ?_
 clear hKp
 refine loud (by rfl) (by kernel_rfl) (fun K5 hK5 => ?_)
 have y7 := (Lib.cell_of_heap e5.hT 7).trans rfl
 have yf7 := Lib.frozen_of_heap e5.hT 7
 have y8 := (Lib.cell_of_heap e5.hT 8).trans rfl
 have yf8 := Lib.frozen_of_heap e5.hT 8
 have nt2 := ((nt.set lT ⟨n6, n3, n7⟩ 7 (.string (nameS s).1.1)).set lT ⟨n6, n3, n7⟩ 8 (.int .i64 (nameS s).1.2))
 have hT2 := (satK (satK e5.hT 7 (.string (nameS s).1.1)) 8 (.int .i64 (nameS s).1.2))
 simp only [List.setIfInBounds_toArray, List.set_cons_succ, List.set_cons_zero] at hT2
 have fin := Lib.hid (hR.out _ _ nt2 hT2)
 go_simp
 refine hK5 _ _ (gw_ch nt2.ch) ?_
 clear hK5 hR n n5 nt nt2 hT2 e5 e0 nx0 e h ka kb
 refine mix_nil (os := []) (by rfl) (fun Kp hKp => ?_)
 refine wpQuiet_nil ?_
 refine hKp _ ?_
 clear hKp
 go_wp2_with fail
 first | refine bodyPost_ret ?_ rfl fin.out | refine bodyPost_end ?_ rfl fin.out
 simp [results, Tryz.results230, go_sem]
theorem fieldK_calls (k : Nat) (hk : TypQ k) (s : PS) (q p g : Nat) (w : World) (h : PsG w q p g (24 - (k : Int)) s) (hl : s.1.length ≤ 1000000) (R : Ending → World → Prop)
  (hR : Hid (∀ w' g' lv cv nv pv, Nx w q p g (24 - (k : Int)) w' g' (fieldC (typC k) s).2 → RdE (empW (lowS w.heap.size) w') (fieldC (typC k) s).1 lv cv nv pv → R (.returned (prV (fieldC (typC k) s).1 lv cv nv pv)) w')) : Calls Tryz.prog 226 #[ptV q] w R := by
 have lp := h.cur.lt
 have gn := gd_name s h.ok
 have hq : fieldC (typC k) s = (((marksC (nP (nameS s).1) (typC k (markS (nameS s).2 colon)).2).1, (typC k (markS (nameS s).2 colon)).1), (marksC (nP (nameS s).1) (typC k (markS (nameS s).2 colon)).2).2) := rfl
 rw [hq] at hR
 simp only at hR
 clear hq
 have n := (Nx.rfl' h).alloc (.cells #[.string ⟨#[]⟩, .int .i64 0, .bool false, .slice none 0 0, .int .i64 0, .int .i64 0, .int .i64 0, .int .i64 0, .slice none 0 0, .int .i64 0, .int .i64 0, .int .i64 0, .int .i64 0, .int .i64 0, .slice none 0 0, .slice none 0 0, .string ⟨#[]⟩, .int .i64 0] 92)
 have bR := Bx.new (Nx.rfl' h) #[.string ⟨#[]⟩, .int .i64 0, .bool false, .slice none 0 0, .int .i64 0, .int .i64 0, .int .i64 0, .int .i64 0, .slice none 0 0, .int .i64 0, .int .i64 0, .int .i64 0, .int .i64 0, .int .i64 0, .slice none 0 0, .slice none 0 0, .string ⟨#[]⟩, .int .i64 0] 92
 go_enter Tryz.func226, Tryz.ntmps226
 go_upto_region 1 with fail
 generalize w.alloc (.cells #[.string ⟨#[]⟩, .int .i64 0, .bool false, .slice none 0 0, .int .i64 0, .int .i64 0, .int .i64 0, .int .i64 0, .slice none 0 0, .int .i64 0, .int .i64 0, .int .i64 0, .int .i64 0, .int .i64 0, .slice none 0 0, .slice none 0 0, .string ⟨#[]⟩, .int .i64 0] 92) = V at *
 go_wp2_with fail
 refine nameK_calls s q p g _ V n.ps _ (Lib.hid fun w1 g1 n1 => ?_)
 replace bR := bR.nx n1 lp
 replace n := n.trans n1
 clear n1
 generalize (nameS s).2 = s1 at *
 generalize (nameS s).1 = x at *
 obtain ⟨x0, x1⟩ := x
 have lRC : w.heap.size < w1.heap.size := bR.lt
 have bC := Bx.new n #[.string x0, .int .i64 x1, .bool false, .slice none 0 0, .int .i64 0, .int .i64 0, .int .i64 0, .int .i64 0, .slice none 0 0, .int .i64 0, .int .i64 0, .int .i64 0, .int .i64 0, .int .i64 0, .slice none 0 0, .slice none 0 0, .string ⟨#[]⟩, .int .i64 0] 92
 obtain ⟨o1_, ho1_⟩ : ∃ oO_ : Obj, oO_ = .cells #[.string x0, .int .i64 x1, .bool false, .slice none 0 0, .int .i64 0, .int .i64 0, .int .i64 0, .int .i64 0, .slice none 0 0, .int .i64 0, .int .i64 0, .int .i64 0, .int .i64 0, .int .i64 0, .slice none 0 0, .slice none 0 0, .string ⟨#[]⟩, .int .i64 0] 92 := ⟨_, rfl⟩
 replace bR := bR.alloc o1_
 replace n := n.alloc o1_
 subst ho1_
 go_upto_region 2 with (refine wpList_copy #[.string x0, .int .i64 x1, .bool false, .slice none 0 0, .int .i64 0, .int .i64 0, .int .i64 0, .int .i64 0, .slice none 0 0, .int .i64 0, .int .i64 0, .int .i64 0, .int .i64 0, .int .i64 0, .slice none 0 0, .slice none 0 0, .string ⟨#[]⟩, .int .i64 0] ⟨rfl, rfl, rfl⟩ ⟨rfl, rfl, rfl⟩ part_alloc (by kernel_rfl) ⟨rfl, by simp [Value.oneCell']⟩ (fun _ => ⟨rfl, rfl⟩) ?_; go_simp)
 generalize w1.alloc (.cells #[.string x0, .int .i64 x1, .bool false, .slice none 0 0, .int .i64 0, .int .i64 0, .int .i64 0, .int .i64 0, .slice none 0 0, .int .i64 0, .int .i64 0, .int .i64 0, .int .i64 0, .int .i64 0, .slice none 0 0, .slice none 0 0, .string ⟨#[]⟩, .int .i64 0] 92) = V1 at *
 generalize w1.heap.size = C at *
 have b0 := n.ps.b0
 have gm := gd_mark s1 colon gn.1
 go_wp2_with fail
 refine need_calls s1 colon q p g1 _ _ n.ps _ (Lib.hid fun w2 g2 o2 n2 => ?_)
 replace bR := bR.nx n2 lp
 replace bC := bC.nx n2 lp
 replace n := n.trans n2
 clear n2 b0
 generalize markS s1 colon = s2 at *
 have ok2 := n.ps.ok
 go_wp2_with fail
 refine hk s2 q p g2 _ n.ps (by omega) _ (Lib.hid fun w4 g4 nv pv n4 r4 => ?_)
 obtain ⟨A3, c3, rfl, -, -⟩ := r4.n.op
 obtain ⟨A4, c4, rfl, -⟩ := r4.p.sl
 have hsz := n.gr.size
 have lCV := bC.lt
 replace bR := bR.nx n4 lp
 replace bC := bC.nx n4 lp
 replace n := n.trans n4
 clear n4
 have gt := gd_typ k s2 (by assumption)
 generalize typC k s2 = X at *
 obtain ⟨⟨hh, ff⟩, s3⟩ := X
 simp only at *
 have y9 := (bC.c 9).trans rfl
 have yf9 := Lib.frozen_of_heap bC.at_ 9
 have y10 := (bC.c 10).trans rfl
 have yf10 := Lib.frozen_of_heap bC.at_ 10
 have y11 := (bC.c 11).trans rfl
 have yf11 := Lib.frozen_of_heap bC.at_ 11
 have y12 := (bC.c 12).trans rfl
 have yf12 := Lib.frozen_of_heap bC.at_ 12
 have y13 := (bC.c 13).trans rfl
 have yf13 := Lib.frozen_of_heap bC.at_ 13
 have y14 := (bC.c 14).trans rfl
 have yf14 := Lib.frozen_of_heap bC.at_ 14
 have y15 := (bC.c 15).trans rfl
 have yf15 := Lib.frozen_of_heap bC.at_ 15
 have y16 := (bC.c 16).trans rfl
 have yf16 := Lib.frozen_of_heap bC.at_ 16
 have y17 := (bC.c 17).trans rfl
 have yf17 := Lib.frozen_of_heap bC.at_ 17
 replace r4 := RdY.kp (kp_set (T := C) (b0 := C + 1) (by omega) (by omega) 9 (.int .i64 hh.kind)) r4
 replace r4 := RdY.kp (kp_set (T := C) (b0 := C + 1) (by omega) (by omega) 10 (.int .i64 hh.at_)) r4
 replace r4 := RdY.kp (kp_set (T := C) (b0 := C + 1) (by omega) (by omega) 11 (.int .i64 hh.lo)) r4
 replace r4 := RdY.kp (kp_set (T := C) (b0 := C + 1) (by omega) (by omega) 12 (.int .i64 hh.hi)) r4
 replace r4 := RdY.kp (kp_set (T := C) (b0 := C + 1) (by omega) (by omega) 13 (.int .i64 hh.most)) r4
 replace r4 := RdY.kp (kp_set (T := C) (b0 := C + 1) (by omega) (by omega) 14 (.slice A3 hh.names.length c3)) r4
 replace r4 := RdY.kp (kp_set (T := C) (b0 := C + 1) (by omega) (by omega) 15 (.slice A4 ff.len c4)) r4
 replace r4 := RdY.kp (kp_set (T := C) (b0 := C + 1) (by omega) (by omega) 16 (.string hh.name)) r4
 replace r4 := RdY.kp (kp_set (T := C) (b0 := C + 1) (by omega) (by omega) 17 (.int .i64 hh.nat)) r4
 replace n := n.setb bC h 9 (.int .i64 hh.kind)
 replace bR := bR.setn (by omega) 9 (.int .i64 hh.kind) (C := C)
 replace bC := bC.set 9 (.int .i64 hh.kind)
 replace n := n.setb bC h 10 (.int .i64 hh.at_)
 replace bR := bR.setn (by omega) 10 (.int .i64 hh.at_) (C := C)
 replace bC := bC.set 10 (.int .i64 hh.at_)
 replace n := n.setb bC h 11 (.int .i64 hh.lo)
 replace bR := bR.setn (by omega) 11 (.int .i64 hh.lo) (C := C)
 replace bC := bC.set 11 (.int .i64 hh.lo)
 replace n := n.setb bC h 12 (.int .i64 hh.hi)
 replace bR := bR.setn (by omega) 12 (.int .i64 hh.hi) (C := C)
 replace bC := bC.set 12 (.int .i64 hh.hi)
 replace n := n.setb bC h 13 (.int .i64 hh.most)
 replace bR := bR.setn (by omega) 13 (.int .i64 hh.most) (C := C)
 replace bC := bC.set 13 (.int .i64 hh.most)
 replace n := n.setb bC h 14 (.slice A3 hh.names.length c3)
 replace bR := bR.setn (by omega) 14 (.slice A3 hh.names.length c3) (C := C)
 replace bC := bC.set 14 (.slice A3 hh.names.length c3)
 replace n := n.setb bC h 15 (.slice A4 ff.len c4)
 replace bR := bR.setn (by omega) 15 (.slice A4 ff.len c4) (C := C)
 replace bC := bC.set 15 (.slice A4 ff.len c4)
 replace n := n.setb bC h 16 (.string hh.name)
 replace bR := bR.setn (by omega) 16 (.string hh.name) (C := C)
 replace bC := bC.set 16 (.string hh.name)
 replace n := n.setb bC h 17 (.int .i64 hh.nat)
 replace bR := bR.setn (by omega) 17 (.int .i64 hh.nat) (C := C)
 replace bC := bC.set 17 (.int .i64 hh.nat)
 simp only [List.setIfInBounds_toArray, List.set_cons_succ, List.set_cons_zero] at bC
 go_upto_region 4 with fail
 generalize ((((((((w4.setCell ⟨C, 9, none⟩ (.int .i64 hh.kind)).setCell ⟨C, 10, none⟩ (.int .i64 hh.at_)).setCell ⟨C, 11, none⟩ (.int .i64 hh.lo)).setCell ⟨C, 12, none⟩ (.int .i64 hh.hi)).setCell ⟨C, 13, none⟩ (.int .i64 hh.most)).setCell ⟨C, 14, none⟩ (.slice A3 hh.names.length c3)).setCell ⟨C, 15, none⟩ (.slice A4 ff.len c4)).setCell ⟨C, 16, none⟩ (.string hh.name)).setCell ⟨C, 17, none⟩ (.int .i64 hh.nat) = V4 at *
 clear y9 yf9 y10 yf10 y11 yf11 y12 yf12 y13 yf13 y14 yf14 y15 yf15 y16 yf16 y17 yf17
 go_wp2_with fail
 refine marks_calls s3 q p g4 C _ _ _ _ _ _ _ _ _ _ _ _ (nP (x0, x1)) _ _ n.ps (by omega) bC.at_ ⟨by have := h.ql; have := bC.lo; omega, by omega, bC.ne⟩ _ (Lib.hid fun w8 g8 lv cv t8 e8 rl rc => ?_)
 have hsz2 := n.gr.size
 have lCW := bC.lt
 replace r4 := RdY.kp (t8.kp (b0 := C + 1) (by omega) (by omega) (by omega)) r4
 replace bR := bR.nt t8 (by omega) lp
 replace bC := bC.ntc t8 e8
 replace n := n.nt t8 bC.lo h
 clear t8 e8
 replace rl := rl.kp (kp_low (b0 := C + 1) (by omega))
 replace rc := rc.kp (kp_low (b0 := C + 1) (by omega))
 have e1 : x0 = (marksC (nP (x0, x1)) s3).1.name ∧ x1 = (marksC (nP (x0, x1)) s3).1.at_ ∧ false = (marksC (nP (x0, x1)) s3).1.bare := ⟨rfl, rfl, rfl⟩
 generalize marksC (nP (x0, x1)) s3 = Y at *
 obtain ⟨⟨y0, y1, y2, lb, wd, ck, cn, cat, cl⟩, s9⟩ := Y
 simp only at *
 obtain ⟨rfl, rfl, rfl⟩ := e1
 obtain ⟨A5, c5, rfl, -, -⟩ := rl.op
 obtain ⟨A6, c6, rfl, -, -⟩ := rc.op
 go_upto_region 5 with fail
 have rC : w8.rangeAt C 0 [.string x0, .int .i64 x1, .bool false, .slice A5 lb.length c5, .int .i64 wd, .int .i64 ck, .int .i64 cn, .int .i64 cat, .slice A6 cl.length c6, .int .i64 hh.kind, .int .i64 hh.at_, .int .i64 hh.lo, .int .i64 hh.hi, .int .i64 hh.most, .slice A3 hh.names.length c3, .slice A4 ff.len c4, .string hh.name, .int .i64 hh.nat] := fun j v e => by rw [Nat.zero_add, bC.c]; simpa using e
 have hRr := bR.at_
 have fin := Lib.hid (hR.out _ _ _ _ _ _ (n.row bR h #[.string x0, .int .i64 x1, .bool false, .slice A5 lb.length c5, .int .i64 wd, .int .i64 ck, .int .i64 cn, .int .i64 cat, .slice A6 cl.length c6, .int .i64 hh.kind, .int .i64 hh.at_, .int .i64 hh.lo, .int .i64 hh.hi, .int .i64 hh.most, .slice A3 hh.names.length c3, .slice A4 ff.len c4, .string hh.name, .int .i64 hh.nat]) (RdE.kp ⟨rl, rc, r4⟩ (kp_row (b0 := w.heap.size) (T := w.heap.size) (b := C + 1) (by omega) (by omega) #[.string x0, .int .i64 x1, .bool false, .slice A5 lb.length c5, .int .i64 wd, .int .i64 ck, .int .i64 cn, .int .i64 cat, .slice A6 cl.length c6, .int .i64 hh.kind, .int .i64 hh.at_, .int .i64 hh.lo, .int .i64 hh.hi, .int .i64 hh.most, .slice A3 hh.names.length c3, .slice A4 ff.len c4, .string hh.name, .int .i64 hh.nat])))
 have bF := bR.row #[.string x0, .int .i64 x1, .bool false, .slice A5 lb.length c5, .int .i64 wd, .int .i64 ck, .int .i64 cn, .int .i64 cat, .slice A6 cl.length c6, .int .i64 hh.kind, .int .i64 hh.at_, .int .i64 hh.lo, .int .i64 hh.hi, .int .i64 hh.most, .slice A3 hh.names.length c3, .slice A4 ff.len c4, .string hh.name, .int .i64 hh.nat]
 clear hR n h
 have x0_ := (bF.c 0).trans rfl
 have x1_ := (bF.c 1).trans rfl
 have x2_ := (bF.c 2).trans rfl
 have x3_ := (bF.c 3).trans rfl
 have x4_ := (bF.c 4).trans rfl
 have x5_ := (bF.c 5).trans rfl
 have x6_ := (bF.c 6).trans rfl
 have x7_ := (bF.c 7).trans rfl
 have x8_ := (bF.c 8).trans rfl
 have x9_ := (bF.c 9).trans rfl
 have x10_ := (bF.c 10).trans rfl
 have x11_ := (bF.c 11).trans rfl
 have x12_ := (bF.c 12).trans rfl
 have x13_ := (bF.c 13).trans rfl
 have x14_ := (bF.c 14).trans rfl
 have x15_ := (bF.c 15).trans rfl
 have x16_ := (bF.c 16).trans rfl
 have x17_ := (bF.c 17).trans rfl
 go_wp2_with (first | (refine wpList_load_g (by rfl) 92 _ rfl C 0 rfl [.string x0, .int .i64 x1, .bool false, .slice A5 lb.length c5, .int .i64 wd, .int .i64 ck, .int .i64 cn, .int .i64 cat, .slice A6 cl.length c6, .int .i64 hh.kind, .int .i64 hh.at_, .int .i64 hh.lo, .int .i64 hh.hi, .int .i64 hh.most, .slice A3 hh.names.length c3, .slice A4 ff.len c4, .string hh.name, .int .i64 hh.nat] _ rC Tryz.underlying92 rfl (by kernel_rfl) ?_; go_simp) | (refine wpList_store_row (by rfl) 92 _ _ (by rfl) w.heap.size #[.string x0, .int .i64 x1, .bool false, .slice A5 lb.length c5, .int .i64 wd, .int .i64 ck, .int .i64 cn, .int .i64 cat, .slice A6 cl.length c6, .int .i64 hh.kind, .int .i64 hh.at_, .int .i64 hh.lo, .int .i64 hh.hi, .int .i64 hh.most, .slice A3 hh.names.length c3, .slice A4 ff.len c4, .string hh.name, .int .i64 hh.nat] (by rfl) (by rfl) 92 _ hRr (by kernel_rfl) rfl (by simp [Value.oneCell']) ?_; go_simp))
 first | refine bodyPost_ret ?_ rfl fin.out | refine bodyPost_end ?_ rfl fin.out
 simp [results, Tryz.results226, go_sem, x0_, x1_, x2_, x3_, x4_, x5_, x6_, x7_, x8_, x9_, x10_, x11_, x12_, x13_, x14_, x15_, x16_, x17_]
end Go.Proofs.YtncijmodlhijoaaGreat.Syn
