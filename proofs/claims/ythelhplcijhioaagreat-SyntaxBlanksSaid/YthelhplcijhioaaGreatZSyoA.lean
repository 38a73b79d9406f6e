/- Layer 16, the code: what stands behind the name with which a type begins, kind by kind. -/
import Derived.Test.YthelhplcijhioaaGreatG19
import Derived.Test.YthelhplcijhioaaGreatG17
set_option maxRecDepth 100000
set_option linter.unusedVariables false
namespace Go.Proofs.YthelhplcijhioaaGreat.Syn
open Go.RowKit Go.Lib Go.Proofs.YthelhplcijhioaaGreat.Utf Go.Proofs.YthelhplcijhioaaGreat.Tok Go.Proofs.YthelhplcijhioaaGreat.Cur Go.Proofs.YthelhplcijhioaaGreat.Nam Go.Proofs.YthelhplcijhioaaGreat.Lat Go.Proofs.YthelhplcijhioaaGreat.Kin

/-- What a closure of content sees: a box of the parser, a box of the type's address, the type. -/
structure Env (w : World) (q p g a b T : Nat) (cs : Array Value) : Prop where
  ha : w.heap[a]? = some (.cells #[ptV q] 46)
  hb : w.heap[b]? = some (.cells #[ptV T] 106)
  hT : w.heap[T]? = some (.cells cs 30)
  ne : a ≠ p ∧ b ≠ p ∧ T ≠ p ∧ a ≠ T ∧ b ≠ T ∧ T ≠ q ∧ g ≠ T
theorem Env.nx {w W : World} {q p g g' a b T : Nat} {cs : Array Value} {d : Int} {s' : PS} (e : Env w q p g a b T cs) (n : Nx w q p g d W g' s') : Env W q p g' a b T cs := by
  obtain ⟨n1, n2, n3, n4, n5, n6, n7⟩ := e.ne
  have lT := bltK e.hT
  refine ⟨(n.blk (bltK e.ha) n1).trans e.ha, (n.blk (bltK e.hb) n2).trans e.hb, (n.blk lT n3).trans e.hT, n1, n2, n3, n4, n5, n6, ?_⟩
  rcases n.g with rfl | h
  · exact n7
  · omega
theorem gw_ch {w W : World} {p T : Nat} (c : Ch (fun k => k = p ∨ k = T) w W) : ∃ x : GW w p T, W = x.w := ⟨⟨W, c.size, fun k hk h1 h2 => c.block k hk (by rintro (e | e); exact h1 e; exact h2 e)⟩, rfl⟩
theorem drew_bl (w : World) : Below w.heap.size w (w.drewN 1) := ⟨rfl, rfl, rfl, Nat.le_refl _, fun _ _ => rfl⟩
theorem isF_content2 : IsF 87 := by
  intro args w
  unfold callFunc
  simp [go_sem, Tryz.func87]
  rfl
set_option maxRecDepth 100000 in
set_option maxHeartbeats 2000000 in
theorem content2_calls (s : PS) (q p g a b T : Nat) (z0 z1 z2 z3 z4 z5 z6 z7 z8 : Value) (d : Int) (w : World) (h : PsG w q p g d s) (hl : s.1.length ≤ 1000000) (e : Env w q p g a b T #[z0, z1, z2, z3, z4, z5, z6, z7, z8]) (R : Ending → World → Prop)
    (hR : Hid (∀ w' g', Nt T w q p g d w' g' (intS s).2 → w'.heap[T]? = some (.cells #[z0, z1, z2, z3, .int .i64 (intS s).1, z5, z6, z7, z8] 30) → R (.returned (.tuple #[])) w')) : Calls Tryz.prog 87 #[ptV a, ptV b] w R := by
  obtain ⟨n1, n2, n3, n4, n5, n6, n7⟩ := e.ne
  have la := bltK e.ha
  have lb := bltK e.hb
  have lT := bltK e.hT
  have nx0 := h.same (drew_bl w)
  have e0 := e.nx nx0
  have ka := fun y : GW w p T => y.cell la n1 n4 ((Lib.cell_of_heap e.ha 0).trans rfl)
  have kb := fun y : GW w p T => y.cell lb n2 n5 ((Lib.cell_of_heap e.hb 0).trans rfl)
  have hmf : ∀ (fn : Fn) (first cap : Array Value) (w : World), (Instr.makeFunc fn first cap).run Tryz.prog w = .ok (.func fn first cap) w := fun _ _ _ _ => rfl
  go_enter Tryz.func87, Tryz.ntmps87
  go_wp2_with fail
  refine wp_region_mixG p T [([0, 1], 2), ([], 3), ([4], 5)] [] (by kernel_rfl) (by kernel_rfl) (by kernel_rfl) (by kernel_rfl) (fun _ _ d _ _ h => by cases d <;> exact h) ?_
  refine mix_cons (os := [_, _]) (by simp only [pickO, List.filterMap_cons, List.filterMap_nil, List.getElem?_toArray, List.getElem?_cons_succ, List.getElem?_cons_zero]; rfl) (fun Kp hKp => ?_)
  repeat (go_big_quiet_step (exact rfl))
  refine wpQuiet_nil ?_
  refine hKp _ ?_
  clear hKp
  refine loud (by rfl) (by kernel_rfl) (fun K3 hK3 => ?_)
  go_simp
  refine number_calls s q p g d _ nx0.ps _ (Lib.hid fun w5 g5 n5 => ?_)
  have n := nx0.trans n5
  have e5 := e0.nx n5
  have nt : Nt T w q p g d w5 g5 (intS s).2 := n.to
  refine hK3 _ _ (gw_ch nt.ch) ?_
  clear hK3
  refine mix_cons (os := []) (by rfl) (fun Kp hKp => ?_)
  refine wpQuiet_nil ?_
  refine hKp _ ?_
  clear hKp
  refine loud (by rfl) (by kernel_rfl) (fun K4 hK4 => ?_)
  go_simp
  refine hK4 _ _ (gw_ch nt.ch) ?_
  clear hK4
  refine mix_cons (os := [_]) (by simp only [pickO, List.filterMap_cons, List.filterMap_nil, List.getElem?_toArray, List.getElem?_cons_succ, List.getElem?_cons_zero]; rfl) (fun Kp hKp => ?_)
  repeat (go_big_quiet_step (exact rfl))
  refine wpQuiet_nil ?_
  refine hKp _ ?_
  clear hKp
  refine loud (by rfl) (by kernel_rfl) (fun K5 hK5 => ?_)
  have y4 := (Lib.cell_of_heap e5.hT 4).trans rfl
  have yf4 := Lib.frozen_of_heap e5.hT 4
  have nt2 := nt.set lT ⟨n6, n3, n7⟩ 4 (.int .i64 (intS s).1)
  have hT2 := satK e5.hT 4 (.int .i64 (intS s).1)
  simp only [List.setIfInBounds_toArray, List.set_cons_succ, List.set_cons_zero] at hT2
  have fin := Lib.hid (hR.out _ _ nt2 hT2)
  go_simp
  refine hK5 _ _ (gw_ch nt2.ch) ?_
  clear hK5 hR n n5 nt nt2 hT2 e5 e0 nx0 e h ka kb
  refine mix_nil (os := []) (by rfl) (fun Kp hKp => ?_)
  refine wpQuiet_nil ?_
  refine hKp _ ?_
  clear hKp
  go_wp2_with fail
  first | refine bodyPost_ret ?_ rfl fin.out | refine bodyPost_end ?_ rfl fin.out
  simp [results, Tryz.results87, go_sem]
theorem isF_content1 : IsF 85 := by
  intro args w
  unfold callFunc
  simp [go_sem, Tryz.func85]
  rfl
set_option maxRecDepth 100000 in
set_option maxHeartbeats 2000000 in
theorem content1_calls (s : PS) (q p g a b T : Nat) (z0 z1 z2 z3 z4 z5 z6 z7 z8 : Value) (d : Int) (w : World) (h : PsG w q p g d s) (hl : s.1.length ≤ 1000000) (e : Env w q p g a b T #[z0, z1, z2, z3, z4, z5, z6, z7, z8]) (R : Ending → World → Prop)
    (hR : Hid (∀ w' g', Nt T w q p g d w' g' (boundsC s).2 → w'.heap[T]? = some (.cells #[z0, z1, .int .i64 (boundsC s).1.1, .int .i64 (boundsC s).1.2, z4, z5, z6, z7, z8] 30) → R (.returned (.tuple #[])) w')) : Calls Tryz.prog 85 #[ptV a, ptV b] w R := by
  obtain ⟨n1, n2, n3, n4, n5, n6, n7⟩ := e.ne
  have la := bltK e.ha
  have lb := bltK e.hb
  have lT := bltK e.hT
  have nx0 := h.same (drew_bl w)
  have e0 := e.nx nx0
  have ka := fun y : GW w p T => y.cell la n1 n4 ((Lib.cell_of_heap e.ha 0).trans rfl)
  have kb := fun y : GW w p T => y.cell lb n2 n5 ((Lib.cell_of_heap e.hb 0).trans rfl)
  have hmf : ∀ (fn : Fn) (first cap : Array Value) (w : World), (Instr.makeFunc fn first cap).run Tryz.prog w = .ok (.func fn first cap) w := fun _ _ _ _ => rfl
  go_enter Tryz.func85, Tryz.ntmps85
  go_wp2_with fail
  refine wp_region_mixG p T [([0, 1, 2], 3), ([4, 5, 6], 7), ([8], 9), ([], 10), ([11], 12)] [] (by kernel_rfl) (by kernel_rfl) (by kernel_rfl) (by kernel_rfl) (fun _ _ d _ _ h => by cases d <;> exact h) ?_
  refine mix_cons (os := [_, _, _]) (by simp only [pickO, List.filterMap_cons, List.filterMap_nil, List.getElem?_toArray, List.getElem?_cons_succ, List.getElem?_cons_zero]; rfl) (fun Kp hKp => ?_)
  repeat (go_big_quiet_step (exact rfl))
  refine wpQuiet_nil ?_
  refine hKp _ ?_
  clear hKp
  refine loud (by rfl) (by kernel_rfl) (fun K1 hK1 => ?_)
  go_simp
  refine bounds_calls s q p g d _ nx0.ps _ (Lib.hid fun w5 g5 n5 => ?_)
  have n := nx0.trans n5
  have e5 := e0.nx n5
  have nt : Nt T w q p g d w5 g5 (boundsC s).2 := n.to
  refine hK1 _ _ (gw_ch nt.ch) ?_
  clear hK1
  refine mix_cons (os := [_, _, _]) (by simp only [pickO, List.filterMap_cons, List.filterMap_nil, List.getElem?_toArray, List.getElem?_cons_succ, List.getElem?_cons_zero]; rfl) (fun Kp hKp => ?_)
  repeat (go_big_quiet_step (exact rfl))
  refine wpQuiet_nil ?_
  refine hKp _ ?_
  clear hKp
  refine loud (by rfl) (by kernel_rfl) (fun K2 hK2 => ?_)
  go_simp
  refine hK2 _ _ (gw_ch nt.ch) ?_
  clear hK2
  refine mix_cons (os := [_]) (by simp only [pickO, List.filterMap_cons, List.filterMap_nil, List.getElem?_toArray, List.getElem?_cons_succ, List.getElem?_cons_zero]; rfl) (fun Kp hKp => ?_)
  repeat (go_big_quiet_step (exact rfl))
  refine wpQuiet_nil ?_
  refine hKp _ ?_
  clear hKp
  refine loud (by rfl) (by kernel_rfl) (fun K3 hK3 => ?_)
  have y2 := (Lib.cell_of_heap e5.hT 2).trans rfl
  have yf2 := Lib.frozen_of_heap e5.hT 2
  have nt2 := nt.set lT ⟨n6, n3, n7⟩ 2 (.int .i64 (boundsC s).1.1)
  have hT2 := satK e5.hT 2 (.int .i64 (boundsC s).1.1)
  simp only [List.setIfInBounds_toArray, List.set_cons_succ, List.set_cons_zero] at hT2
  go_simp
  refine hK3 _ _ (gw_ch nt2.ch) ?_
  clear hK3
  generalize w5.setCell ⟨T, 2, none⟩ (.int .i64 (boundsC s).1.1) = V5 at *
  clear y2 yf2
  refine mix_cons (os := []) (by rfl) (fun Kp hKp => ?_)
  refine wpQuiet_nil ?_
  refine hKp _ ?_
  clear hKp
  refine loud (by rfl) (by kernel_rfl) (fun K4 hK4 => ?_)
  go_simp
  refine hK4 _ _ (gw_ch nt2.ch) ?_
  clear hK4
  refine mix_cons (os := [_]) (by simp only [pickO, List.filterMap_cons, List.filterMap_nil, List.getElem?_toArray, List.getElem?_cons_succ, List.getElem?_cons_zero]; rfl) (fun Kp hKp => ?_)
  repeat (go_big_quiet_step (exact rfl))
  refine wpQuiet_nil ?_
  refine hKp _ ?_
  clear hKp
  refine loud (by rfl) (by kernel_rfl) (fun K5 hK5 => ?_)
  have y3 := (Lib.cell_of_heap hT2 3).trans rfl
  have yf3 := Lib.frozen_of_heap hT2 3
  have nt3 := nt2.set lT ⟨n6, n3, n7⟩ 3 (.int .i64 (boundsC s).1.2)
  have hT3 := satK hT2 3 (.int .i64 (boundsC s).1.2)
  simp only [List.setIfInBounds_toArray, List.set_cons_succ, List.set_cons_zero] at hT3
  have fin := Lib.hid (hR.out _ _ nt3 hT3)
  go_simp
  refine hK5 _ _ (gw_ch nt3.ch) ?_
  clear hK5 hR n n5 nt nt2 hT2 nt3 hT3 e5 e0 nx0 e h ka kb
  refine mix_nil (os := []) (by rfl) (fun Kp hKp => ?_)
  refine wpQuiet_nil ?_
  refine hKp _ ?_
  clear hKp
  go_wp2_with fail
  first | refine bodyPost_ret ?_ rfl fin.out | refine bodyPost_end ?_ rfl fin.out
  simp [results, Tryz.results85, go_sem]
theorem isF_content3 : IsF 89 := by
  intro args w
  unfold callFunc
  simp [go_sem, Tryz.func89]
  rfl
set_option maxRecDepth 100000 in
set_option maxHeartbeats 2000000 in
theorem content3_calls (s : PS) (q p g a b T : Nat) (z0 z1 z2 z3 z4 z5 z6 z7 z8 : Value) (d : Int) (w : World) (h : PsG w q p g d s) (hl : s.1.length ≤ 1000000) (e : Env w q p g a b T #[z0, z1, z2, z3, z4, z5, z6, z7, z8]) (R : Ending → World → Prop)
    (hR : Hid (∀ w' g' v, Nt T w q p g d w' g' (listP nameS comma s).2 → w'.heap[T]? = some (.cells #[z0, z1, z2, z3, z4, v, z6, z7, z8] 30) → RdW (empW (lowS w.heap.size) w') v (listP nameS comma s).1 → R (.returned (.tuple #[])) w')) : Calls Tryz.prog 89 #[ptV a, ptV b] w R := by
  obtain ⟨n1, n2, n3, n4, n5, n6, n7⟩ := e.ne
  have la := bltK e.ha
  have lb := bltK e.hb
  have lT := bltK e.hT
  have nx0 := h.same (drew_bl w)
  have e0 := e.nx nx0
  have ka := fun y : GW w p T => y.cell la n1 n4 ((Lib.cell_of_heap e.ha 0).trans rfl)
  have kb := fun y : GW w p T => y.cell lb n2 n5 ((Lib.cell_of_heap e.hb 0).trans rfl)
  have hmf : ∀ (fn : Fn) (first cap : Array Value) (w : World), (Instr.makeFunc fn first cap).run Tryz.prog w = .ok (.func fn first cap) w := fun _ _ _ _ => rfl
  go_enter Tryz.func89, Tryz.ntmps89
  go_wp2_with fail
  refine wp_region_mixG p T [([0, 1, 2], 3), ([], 4), ([], 5), ([6], 7)] [] (by kernel_rfl) (by kernel_rfl) (by kernel_rfl) (by kernel_rfl) (fun _ _ d _ _ h => by cases d <;> exact h) ?_
  refine mix_cons (os := [_, _, _]) (by simp only [pickO, List.filterMap_cons, List.filterMap_nil, List.getElem?_toArray, List.getElem?_cons_succ, List.getElem?_cons_zero]; rfl) (fun Kp hKp => ?_)
  repeat (go_big_quiet_step (exact rfl))
  refine wpQuiet_nil ?_
  refine hKp _ ?_
  clear hKp
  refine loud (by rfl) (by kernel_rfl) (fun K3 hK3 => ?_)
  go_simp
  refine hK3 _ _ (gw_ch (Ch.bl (drew_bl w))) ?_
  clear hK3
  refine mix_cons (os := []) (by rfl) (fun Kp hKp => ?_)
  refine wpQuiet_nil ?_
  refine hKp _ ?_
  clear hKp
  refine loud (by rfl) (by kernel_rfl) (fun K9 hK9 => ?_)
  go_simp
  refine listW_calls s q p g d _ nx0.ps hl _ (Lib.hid fun w5 g5 v n5 r5 => ?_)
  obtain ⟨A5, c5, rfl, -, -⟩ := r5.op
  have n := nx0.trans n5
  have e5 := e0.nx n5
  have nt : Nt T w q p g d w5 g5 (listP nameS comma s).2 := n.to
  refine hK9 _ _ (gw_ch nt.ch) ?_
  clear hK9
  refine mix_cons (os := []) (by rfl) (fun Kp hKp => ?_)
  refine wpQuiet_nil ?_
  refine hKp _ ?_
  clear hKp
  refine loud (by rfl) (by kernel_rfl) (fun K4 hK4 => ?_)
  go_simp
  refine hK4 _ _ (gw_ch nt.ch) ?_
  clear hK4
  refine mix_cons (os := [_]) (by simp only [pickO, List.filterMap_cons, List.filterMap_nil, List.getElem?_toArray, List.getElem?_cons_succ, List.getElem?_cons_zero]; rfl) (fun Kp hKp => ?_)
  repeat (go_big_quiet_step (exact rfl))
  refine wpQuiet_nil ?_
  refine hKp _ ?_
  clear hKp
  refine loud (by rfl) (by kernel_rfl) (fun K5 hK5 => ?_)
  have y5 := (Lib.cell_of_heap e5.hT 5).trans rfl
  have yf5 := Lib.frozen_of_heap e5.hT 5
  replace r5 := r5.kp (kp_set (b := w.heap.size) (b0 := w.heap.size) lT (Nat.le_refl _) 5 (.slice A5 (listP nameS comma s).1.length c5))
  have nt2 := (nt.set lT ⟨n6, n3, n7⟩ 5 (.slice A5 (listP nameS comma s).1.length c5))
  have hT2 := (satK e5.hT 5 (.slice A5 (listP nameS comma s).1.length c5))
  simp only [List.setIfInBounds_toArray, List.set_cons_succ, List.set_cons_zero] at hT2
  have fin := Lib.hid (hR.out _ _ _ nt2 hT2 r5)
  go_simp
  refine hK5 _ _ (gw_ch nt2.ch) ?_
  clear hK5 hR n n5 nt nt2 hT2 e5 e0 nx0 e h ka kb r5
  refine mix_nil (os := []) (by rfl) (fun Kp hKp => ?_)
  refine wpQuiet_nil ?_
  refine hKp _ ?_
  clear hKp
  go_wp2_with fail
  first | refine bodyPost_ret ?_ rfl fin.out | refine bodyPost_end ?_ rfl fin.out
  simp [results, Tryz.results89, go_sem]
theorem isF_content4 : IsF 90 := by
  intro args w
  unfold callFunc
  simp [go_sem, Tryz.func90]
  rfl
set_option maxRecDepth 100000 in
set_option maxHeartbeats 2000000 in
theorem content4_calls (k : Nat) (hk : TypQ k) (s : PS) (q p g a b T : Nat) (z0 z1 z2 z3 z4 z5 z6 z7 z8 : Value) (w : World) (h : PsG w q p g (24 - (k : Int)) s) (hl : s.1.length ≤ 1000000) (e : Env w q p g a b T #[z0, z1, z2, z3, z4, z5, z6, z7, z8]) (R : Ending → World → Prop)
    (hR : Hid (∀ w' g' v, Nt T w q p g (24 - (k : Int)) w' g' (listC (typC k) s).2 → w'.heap[T]? = some (.cells #[z0, z1, z2, z3, .int .i64 (listC (typC k) s).1.2, z5, v, z7, z8] 30) → RdP (empW (lowS w.heap.size) w') v (listC (typC k) s).1.1 → R (.returned (.tuple #[])) w')) : Calls Tryz.prog 90 #[ptV a, ptV b] w R := by
  obtain ⟨n1, n2, n3, n4, n5, n6, n7⟩ := e.ne
  have la := bltK e.ha
  have lb := bltK e.hb
  have lT := bltK e.hT
  have nx0 := h.same (drew_bl w)
  have e0 := e.nx nx0
  have ka := fun y : GW w p T => y.cell la n1 n4 ((Lib.cell_of_heap e.ha 0).trans rfl)
  have kb := fun y : GW w p T => y.cell lb n2 n5 ((Lib.cell_of_heap e.hb 0).trans rfl)
  have hmf : ∀ (fn : Fn) (first cap : Array Value) (w : World), (Instr.makeFunc fn first cap).run Tryz.prog w = .ok (.func fn first cap) w := fun _ _ _ _ => rfl
  have hq : listC (typC k) s = ((only (typC k s).1, (intS (markS (typC k s).2 comma)).1), (intS (markS (typC k s).2 comma)).2) := rfl
  rw [hq] at hR
  simp only at hR
  clear hq
  go_enter Tryz.func90, Tryz.ntmps90
  go_wp2_with fail
  refine wp_region_mixG p T [([0, 1], 2), ([], 3), ([4], 5)] [] (by kernel_rfl) (by kernel_rfl) (by kernel_rfl) (by kernel_rfl) (fun _ _ d _ _ h => by cases d <;> exact h) ?_
  refine mix_cons (os := [_, _]) (by simp only [pickO, List.filterMap_cons, List.filterMap_nil, List.getElem?_toArray, List.getElem?_cons_succ, List.getElem?_cons_zero]; rfl) (fun Kp hKp => ?_)
  repeat (go_big_quiet_step (exact rfl))
  refine wpQuiet_nil ?_
  refine hKp _ ?_
  clear hKp
  refine loud (by rfl) (by kernel_rfl) (fun K1 hK1 => ?_)
  go_simp
  refine only_calls k hk s q p g _ nx0.ps hl _ (Lib.hid fun w5 g5 v n5 r5 => ?_)
  obtain ⟨A5, c5, rfl, -⟩ := r5.sl
  have gt := gd_typ k s h.ok
  have n := nx0.trans n5
  have e5 := e0.nx n5
  have nt : Nt T w q p g (24 - (k : Int)) w5 g5 (typC k s).2 := n.to
  refine hK1 _ _ (gw_ch nt.ch) ?_
  clear hK1
  generalize typC k s = X at *
  refine mix_cons (os := []) (by rfl) (fun Kp hKp => ?_)
  refine wpQuiet_nil ?_
  refine hKp _ ?_
  clear hKp
  refine loud (by rfl) (by kernel_rfl) (fun K4 hK4 => ?_)
  go_simp
  refine hK4 _ _ (gw_ch nt.ch) ?_
  clear hK4
  refine mix_cons (os := [_]) (by simp only [pickO, List.filterMap_cons, List.filterMap_nil, List.getElem?_toArray, List.getElem?_cons_succ, List.getElem?_cons_zero]; rfl) (fun Kp hKp => ?_)
  repeat (go_big_quiet_step (exact rfl))
  refine wpQuiet_nil ?_
  refine hKp _ ?_
  clear hKp
  refine loud (by rfl) (by kernel_rfl) (fun K5 hK5 => ?_)
  have y6 := (Lib.cell_of_heap e5.hT 6).trans rfl
  have yf6 := Lib.frozen_of_heap e5.hT 6
  replace r5 := RdSl.kp (hd := hdT) (pl := plT) (fun _ _ _ _ _ q h => hdT.kp q h) (fun _ _ _ _ q h => plT.kp q h) (kp_set (b := w.heap.size) (b0 := w.heap.size) lT (Nat.le_refl _) 6 (.slice A5 (only X.1).len c5)) r5
  have nt2 := nt.set lT ⟨n6, n3, n7⟩ 6 (.slice A5 (only X.1).len c5)
  have hT2 := satK e5.hT 6 (.slice A5 (only X.1).len c5)
  have e6 : Env (w5.setCell ⟨T, 6, none⟩ (.slice A5 (only X.1).len c5)) q p g5 a b T _ := ⟨(sneK n4).trans e5.ha, (sneK e5.ne.2.2.2.2.1).trans e5.hb, hT2, e5.ne⟩
  simp only [List.setIfInBounds_toArray, List.set_cons_succ, List.set_cons_zero] at hT2 e6
  go_simp
  refine hK5 _ _ (gw_ch nt2.ch) ?_
  clear hK5
  generalize w5.setCell ⟨T, 6, none⟩ (.slice A5 (only X.1).len c5) = V5 at *
  clear y6 yf6 nt n n5 e5 ka kb hT2 e0 nx0
  refine mix_nil (os := []) (by rfl) (fun Kp hKp => ?_)
  refine wpQuiet_nil ?_
  refine hKp _ ?_
  clear hKp
  have a0 := (Lib.cell_of_heap e6.ha 0).trans rfl
  have b0 := nt2.ps.b0
  have szw := nt2.ch.size
  go_wp2_with fail
  refine need_calls X.2 comma q p g5 _ V5 nt2.ps _ (Lib.hid fun w6 g6 o6 m6 => ?_)
  replace r5 := RdSl.kp (hd := hdT) (pl := plT) (fun _ _ _ _ _ q h => hdT.kp q h) (fun _ _ _ _ q h => plT.kp q h) (m6.kp h.cur.lt (Nat.le_refl _)) r5
  have e7 := e6.nx m6
  replace nt2 := nt2.nx m6
  clear e6 m6 a0 b0
  have nx1 := nt2.ps.same (drew_bl w6)
  have e8 := e7.nx nx1
  have la6 := bltK e7.ha
  have lb6 := bltK e7.hb
  have lT6 := bltK e7.hT
  have ka := fun y : GW w6 p T => y.cell la6 n1 n4 ((Lib.cell_of_heap e7.ha 0).trans rfl)
  have kb := fun y : GW w6 p T => y.cell lb6 n2 e7.ne.2.2.2.2.1 ((Lib.cell_of_heap e7.hb 0).trans rfl)
  go_wp2_with fail
  refine wp_region_mixG p T [([0, 1], 2), ([], 3), ([4], 5)] [] (by kernel_rfl) (by kernel_rfl) (by kernel_rfl) (by kernel_rfl) (fun _ _ d _ _ h => by cases d <;> exact h) ?_
  refine mix_cons (os := [_, _]) (by simp only [pickO, List.filterMap_cons, List.filterMap_nil, List.getElem?_toArray, List.getElem?_cons_succ, List.getElem?_cons_zero]; rfl) (fun Kp hKp => ?_)
  repeat (go_big_quiet_step (exact rfl))
  refine wpQuiet_nil ?_
  refine hKp _ ?_
  clear hKp
  refine loud (by rfl) (by kernel_rfl) (fun K1 hK1 => ?_)
  go_simp
  refine number_calls (markS X.2 comma) q p g6 _ _ nx1.ps _ (Lib.hid fun w8 g8 n8 => ?_)
  have n := nx1.trans n8
  have e9 := e8.nx n8
  have nt3 : Nt T w6 q p g6 (24 - (k : Int)) w8 g8 (intS (markS X.2 comma)).2 := n.to
  replace r5 := RdSl.kp (hd := hdT) (pl := plT) (fun _ _ _ _ _ q h => hdT.kp q h) (fun _ _ _ _ q h => plT.kp q h) (n.kp h.cur.lt (Nat.le_refl _)) r5
  refine hK1 _ _ (gw_ch nt3.ch) ?_
  clear hK1
  refine mix_cons (os := []) (by rfl) (fun Kp hKp => ?_)
  refine wpQuiet_nil ?_
  refine hKp _ ?_
  clear hKp
  refine loud (by rfl) (by kernel_rfl) (fun K4 hK4 => ?_)
  go_simp
  refine hK4 _ _ (gw_ch nt3.ch) ?_
  clear hK4
  refine mix_cons (os := [_]) (by simp only [pickO, List.filterMap_cons, List.filterMap_nil, List.getElem?_toArray, List.getElem?_cons_succ, List.getElem?_cons_zero]; rfl) (fun Kp hKp => ?_)
  repeat (go_big_quiet_step (exact rfl))
  refine wpQuiet_nil ?_
  refine hKp _ ?_
  clear hKp
  refine loud (by rfl) (by kernel_rfl) (fun K5 hK5 => ?_)
  have y4 := (Lib.cell_of_heap e9.hT 4).trans rfl
  have yf4 := Lib.frozen_of_heap e9.hT 4
  replace r5 := RdSl.kp (hd := hdT) (pl := plT) (fun _ _ _ _ _ q h => hdT.kp q h) (fun _ _ _ _ q h => plT.kp q h) (kp_set (b := w.heap.size) (b0 := w.heap.size) lT (Nat.le_refl _) 4 (.int .i64 (intS (markS X.2 comma)).1)) r5
  have nt4 := nt3.set lT6 ⟨n6, n3, e7.ne.2.2.2.2.2.2⟩ 4 (.int .i64 (intS (markS X.2 comma)).1)
  have nt5 := (nt2.nx n).set lT ⟨n6, n3, n7⟩ 4 (.int .i64 (intS (markS X.2 comma)).1)
  have hT3 := satK e9.hT 4 (.int .i64 (intS (markS X.2 comma)).1)
  simp only [List.setIfInBounds_toArray, List.set_cons_succ, List.set_cons_zero] at hT3
  have fin := Lib.hid (hR.out _ _ _ nt5 hT3 r5)
  go_simp
  refine hK5 _ _ (gw_ch nt4.ch) ?_
  clear hK5 hR n n8 nt3 nt4 nt5 nt2 hT3 e9 e8 e7 nx1 e h ka kb r5
  refine mix_nil (os := []) (by rfl) (fun Kp hKp => ?_)
  refine wpQuiet_nil ?_
  refine hKp _ ?_
  clear hKp
  go_wp2_with fail
  first | refine bodyPost_ret ?_ rfl fin.out | refine bodyPost_end ?_ rfl fin.out
  simp [results, Tryz.results90, go_sem]
theorem isF_content5 : IsF 92 := by
  intro args w
  unfold callFunc
  simp [go_sem, Tryz.func92]
  rfl
set_option maxRecDepth 100000 in
set_option maxHeartbeats 2000000 in
theorem content5_calls (k : Nat) (hk : TypQ k) (s : PS) (q p g a b T : Nat) (z0 z1 z2 z3 z4 z5 z6 z7 z8 : Value) (w : World) (h : PsG w q p g (24 - (k : Int)) s) (hl : s.1.length ≤ 1000000) (e : Env w q p g a b T #[z0, z1, z2, z3, z4, z5, z6, z7, z8]) (R : Ending → World → Prop)
    (hR : Hid (∀ w' g' v, Nt T w q p g (24 - (k : Int)) w' g' (typC k s).2 → w'.heap[T]? = some (.cells #[z0, z1, z2, z3, z4, z5, v, z7, z8] 30) → RdP (empW (lowS w.heap.size) w') v (only (typC k s).1) → R (.returned (.tuple #[])) w')) : Calls Tryz.prog 92 #[ptV a, ptV b] w R := by
  obtain ⟨n1, n2, n3, n4, n5, n6, n7⟩ := e.ne
  have la := bltK e.ha
  have lb := bltK e.hb
  have lT := bltK e.hT
  have nx0 := h.same (drew_bl w)
  have e0 := e.nx nx0
  have ka := fun y : GW w p T => y.cell la n1 n4 ((Lib.cell_of_heap e.ha 0).trans rfl)
  have kb := fun y : GW w p T => y.cell lb n2 n5 ((Lib.cell_of_heap e.hb 0).trans rfl)
  have hmf : ∀ (fn : Fn) (first cap : Array Value) (w : World), (Instr.makeFunc fn first cap).run Tryz.prog w = .ok (.func fn first cap) w := fun _ _ _ _ => rfl
  go_enter Tryz.func92, Tryz.ntmps92
  go_wp2_with fail
  refine wp_region_mixG p T [([0, 1], 2), ([], 3), ([4], 5)] [] (by kernel_rfl) (by kernel_rfl) (by kernel_rfl) (by kernel_rfl) (fun _ _ d _ _ h => by cases d <;> exact h) ?_
  refine mix_cons (os := [_, _]) (by simp only [pickO, List.filterMap_cons, List.filterMap_nil, List.getElem?_toArray, List.getElem?_cons_succ, List.getElem?_cons_zero]; rfl) (fun Kp hKp => ?_)
  repeat (go_big_quiet_step (exact rfl))
  refine wpQuiet_nil ?_
  refine hKp _ ?_
  clear hKp
  refine loud (by rfl) (by kernel_rfl) (fun K9 hK9 => ?_)
  go_simp
  refine only_calls k hk s q p g _ nx0.ps hl _ (Lib.hid fun w5 g5 v n5 r5 => ?_)
  obtain ⟨A5, c5, rfl, -⟩ := r5.sl
  have n := nx0.trans n5
  have e5 := e0.nx n5
  have nt : Nt T w q p g (24 - (k : Int)) w5 g5 (typC k s).2 := n.to
  refine hK9 _ _ (gw_ch nt.ch) ?_
  clear hK9
  refine mix_cons (os := []) (by rfl) (fun Kp hKp => ?_)
  refine wpQuiet_nil ?_
  refine hKp _ ?_
  clear hKp
  refine loud (by rfl) (by kernel_rfl) (fun K4 hK4 => ?_)
  go_simp
  refine hK4 _ _ (gw_ch nt.ch) ?_
  clear hK4
  refine mix_cons (os := [_]) (by simp only [pickO, List.filterMap_cons, List.filterMap_nil, List.getElem?_toArray, List.getElem?_cons_succ, List.getElem?_cons_zero]; rfl) (fun Kp hKp => ?_)
  repeat (go_big_quiet_step (exact rfl))
  refine wpQuiet_nil ?_
  refine hKp _ ?_
  clear hKp
  refine loud (by rfl) (by kernel_rfl) (fun K5 hK5 => ?_)
  have y6 := (Lib.cell_of_heap e5.hT 6).trans rfl
  have yf6 := Lib.frozen_of_heap e5.hT 6
  replace r5 := RdSl.kp (hd := hdT) (pl := plT) (fun _ _ _ _ _ q h => hdT.kp q h) (fun _ _ _ _ q h => plT.kp q h) (kp_set (b := w.heap.size) (b0 := w.heap.size) lT (Nat.le_refl _) 6 (.slice A5 (only (typC k s).1).len c5)) r5
  have nt2 := (nt.set lT ⟨n6, n3, n7⟩ 6 (.slice A5 (only (typC k s).1).len c5))
  have hT2 := (satK e5.hT 6 (.slice A5 (only (typC k s).1).len c5))
  simp only [List.setIfInBounds_toArray, List.set_cons_succ, List.set_cons_zero] at hT2
  have fin := Lib.hid (hR.out _ _ _ nt2 hT2 r5)
  go_simp
  refine hK5 _ _ (gw_ch nt2.ch) ?_
  clear hK5 hR n n5 nt nt2 hT2 e5 e0 nx0 e h ka kb r5
  refine mix_nil (os := []) (by rfl) (fun Kp hKp => ?_)
  refine wpQuiet_nil ?_
  refine hKp _ ?_
  clear hKp
  go_wp2_with fail
  first | refine bodyPost_ret ?_ rfl fin.out | refine bodyPost_end ?_ rfl fin.out
  simp [results, Tryz.results92, go_sem]
theorem isF_content8 : IsF 99 := by
  intro args w
  unfold callFunc
  simp [go_sem, Tryz.func99]
  rfl
set_option maxRecDepth 100000 in
set_option maxHeartbeats 2000000 in
theorem content8_calls (s : PS) (q p g a b T : Nat) (z0 z1 z2 z3 z4 z5 z6 z7 z8 : Value) (d : Int) (w : World) (h : PsG w q p g d s) (hl : s.1.length ≤ 1000000) (e : Env w q p g a b T #[z0, z1, z2, z3, z4, z5, z6, z7, z8]) (R : Ending → World → Prop)
    (hR : Hid (∀ w' g', Nt T w q p g d w' g' (nameS s).2 → w'.heap[T]? = some (.cells #[z0, z1, z2, z3, z4, z5, z6, .string (nameS s).1.1, .int .i64 (nameS s).1.2] 30) → R (.returned (.tuple #[])) w')) : Calls Tryz.prog 99 #[ptV a, ptV b] w R := by
  obtain ⟨n1, n2, n3, n4, n5, n6, n7⟩ := e.ne
  have la := bltK e.ha
  have lb := bltK e.hb
  have lT := bltK e.hT
  have nx0 := h.same (drew_bl w)
  have e0 := e.nx nx0
  have ka := fun y : GW w p T => y.cell la n1 n4 ((Lib.cell_of_heap e.ha 0).trans rfl)
  have kb := fun y : GW w p T => y.cell lb n2 n5 ((Lib.cell_of_heap e.hb 0).trans rfl)
  have hmf : ∀ (fn : Fn) (first cap : Array Value) (w : World), (Instr.makeFunc fn first cap).run Tryz.prog w = .ok (.func fn first cap) w := fun _ _ _ _ => rfl
  go_enter Tryz.func99, Tryz.ntmps99
  go_wp2_with fail
  refine wp_region_mixG p T [([0, 1], 2), ([], 3), ([4], 5)] [] (by kernel_rfl) (by kernel_rfl) (by kernel_rfl) (by kernel_rfl) (fun _ _ d _ _ h => by cases d <;> exact h) ?_
  refine mix_cons (os := [_, _]) (by simp only [pickO, List.filterMap_cons, List.filterMap_nil, List.getElem?_toArray, List.getElem?_cons_succ, List.getElem?_cons_zero]; rfl) (fun Kp hKp => ?_)
  repeat (go_big_quiet_step (exact rfl))
  refine wpQuiet_nil ?_
  refine hKp _ ?_
  clear hKp
  refine loud (by rfl) (by kernel_rfl) (fun K9 hK9 => ?_)
  go_simp
  refine nameK_calls s q p g d _ nx0.ps _ (Lib.hid fun w5 g5 n5 => ?_)
  have n := nx0.trans n5
  have e5 := e0.nx n5
  have nt : Nt T w q p g d w5 g5 (nameS s).2 := n.to
  refine hK9 _ _ (gw_ch nt.ch) ?_
  clear hK9
  refine mix_cons (os := []) (by rfl) (fun Kp hKp => ?_)
  refine wpQuiet_nil ?_
  refine hKp _ ?_
  clear hKp
  refine loud (by rfl) (by kernel_rfl) (fun K4 hK4 => ?_)
  go_simp
  refine hK4 _ _ (gw_ch nt.ch) ?_
  clear hK4
  refine mix_cons (os := [_]) (by simp only [pickO, List.filterMap_cons, List.filterMap_nil, List.getElem?_toArray, List.getElem?_cons_succ, List.getElem?_cons_zero]; rfl) (fun Kp hKp => ?_)
  repeat (go_big_quiet_step (exact rfl))
  refine wpQuiet_nil ?_
  refine hKp _ ?_
  clear hKp
  refine loud (by rfl) (by kernel_rfl) (fun K5 hK5 => ?_)
  have y7 := (Lib.cell_of_heap e5.hT 7).trans rfl
  have yf7 := Lib.frozen_of_heap e5.hT 7
  have y8 := (Lib.cell_of_heap e5.hT 8).trans rfl
  have yf8 := Lib.frozen_of_heap e5.hT 8
  have nt2 := ((nt.set lT ⟨n6, n3, n7⟩ 7 (.string (nameS s).1.1)).set lT ⟨n6, n3, n7⟩ 8 (.int .i64 (nameS s).1.2))
  have hT2 := (satK (satK e5.hT 7 (.string (nameS s).1.1)) 8 (.int .i64 (nameS s).1.2))
  simp only [List.setIfInBounds_toArray, List.set_cons_succ, List.set_cons_zero] at hT2
  have fin := Lib.hid (hR.out _ _ nt2 hT2)
  go_simp
  refine hK5 _ _ (gw_ch nt2.ch) ?_
  clear hK5 hR n n5 nt nt2 hT2 e5 e0 nx0 e h ka kb
  refine mix_nil (os := []) (by rfl) (fun Kp hKp => ?_)
  refine wpQuiet_nil ?_
  refine hKp _ ?_
  clear hKp
  go_wp2_with fail
  first | refine bodyPost_ret ?_ rfl fin.out | refine bodyPost_end ?_ rfl fin.out
  simp [results, Tryz.results99, go_sem]
end Go.Proofs.YthelhplcijhioaaGreat.Syn
