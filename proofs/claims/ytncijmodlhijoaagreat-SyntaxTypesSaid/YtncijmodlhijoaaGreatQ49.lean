import Derived.Test.YtncijmodlhijoaaGreatQ47
import Derived.Test.YtncijmodlhijoaaGreatQ48
set_option linter.unusedVariables false
set_option maxRecDepth 100000
set_option maxHeartbeats 4000000
namespace Go.Proofs.YtncijmodlhijoaaGreat.Syn
open Go.RowKit Go.Lib Utf Tok Cur Nam Lat Kin
theorem isF_field : IsF 226 := by
 intro args w
 unfold callFunc
 simp [go_sem, Tryz.func226]
 rfl
theorem isF_tag : IsF 229 := by
 intro args w
 unfold callFunc
 simp [go_sem, Tryz.func229]
 rfl
theorem Nt.trans {w V W : World} {q p g g1 g2 T : Nat} {d : Int} {s1 s2 : PS} (a : Nt T w q p g d V g1 s1) (b : Nt T V q p g1 d W g2 s2) : Nt T w q p g d W g2 s2 :=
 ⟨by have := a.ch.size; rcases b.g with rfl | h; exact a.g; exact .inr (Nat.le_trans this h), b.ps, a.ch.trans b.ch fun _ _ e => e⟩
abbrev tyC (h : TH) (nv pv : Value) : Array Value := #[.int .i64 h.kind, .int .i64 h.at_, .int .i64 h.lo, .int .i64 h.hi, .int .i64 h.most, nv, pv, .string h.name, .int .i64 h.nat]
theorem kpP16 {w w' : World} {v : Value} {f : Ft} (k : Kp w w') (h : RdP w v f) : RdP w' v f := RdSl.kp (hd := hdT) (pl := plT) (fun _ _ _ _ _ q h => hdT.kp q h) (fun _ _ _ _ q h => plT.kp q h) k h
theorem isF_content6 : IsF 224 := by
 intro args w
 unfold callFunc
 simp [go_sem, Tryz.func224]
 rfl
theorem content6_calls (k : Nat) (hk : TypQ k) (s : PS) (q p g a b T : Nat) (z0 z1 z2 z3 z4 z5 z6 z7 z8 : Value) (w : World) (h : PsG w q p g (24 - (k : Int)) s) (hl : s.1.length ≤ 1000000) (e : Env w q p g a b T #[z0, z1, z2, z3, z4, z5, z6, z7, z8]) (R : Ending → World → Prop)
  (hR : Hid (∀ w' g' v, Nt T w q p g (24 - (k : Int)) w' g' (noneC (fieldC (typC k)) s).2 → w'.heap[T]? = some (.cells #[z0, z1, z2, z3, z4, z5, v, z7, z8] 29) → RdP (empW (lowS w.heap.size) w') v (ofL (noneC (fieldC (typC k)) s).1) → R (.returned (.tuple #[])) w')) : Calls Tryz.prog 224 #[ptV a, ptV b] w R := by
 obtain ⟨n1, n2, n3, n4, n5, n6, n7⟩ := e.ne
 have la := bltK e.ha
 have lb := bltK e.hb
 have lT := bltK e.hT
 have nx0 := h.same (drew_bl w)
 have e0 := e.nx nx0
 have ka := fun y : GW w p T => y.cell la n1 n4 ((Lib.cell_of_heap e.ha 0).trans rfl)
 have kb := fun y : GW w p T => y.cell lb n2 n5 ((Lib.cell_of_heap e.hb 0).trans rfl)
 have hmf : ∀ (fn : Fn) (first cap : Array Value) (w : World), (Instr.makeFunc fn first cap).run Tryz.prog w = .ok (.func fn first cap) w := fun _ _ _ _ => rfl
 go_enter Tryz.func224, Tryz.ntmps224
 go_wp2_with fail
 refine wp_region_mixG p T [([0, 1, 2], 3), ([], 4), ([], 5), ([6], 7)] [] (by kernel_rfl) (by kernel_rfl) (by kernel_rfl) (by kernel_rfl) (fun _ _ d _ _ h => by cases d <;> exact h) ?_
 refine mix_cons (os := [_, _, _]) (by simp only [pickO, List.filterMap_cons, List.filterMap_nil, List.getElem?_toArray, List.getElem?_cons_succ, List.getElem?_cons_zero]; rfl) (fun Kp hKp => ?_)
 repeat (go_big_quiet_step (exact rfl))
 refine wpQuiet_nil ?_
 refine hKp _ ?_
 clear hKp
 refine loud (by rfl) (by kernel_rfl) (fun K3 hK3 => ?_)
 go_simp
 refine hK3 _ _ (gw_ch (Ch.bl (drew_bl w))) ?_
 clear hK3
 refine mix_cons (os := []) (by rfl) (fun Kp hKp => ?_)
 refine wpQuiet_nil ?_
 refine hKp _ ?_
 clear hKp
 refine loud (by rfl) (by kernel_rfl) (fun K9 hK9 => ?_)
 go_simp
 refine noneP_calls 226 isF_field (fieldC (typC k)) (gd_field (gd_typ k)) q p _ (Lib.hid fun s g w h hl R hR => fieldK_calls k hk s q p g w h hl R hR) s g _ nx0.ps hl _ (Lib.hid fun w5 g5 v n5 r5 => ?_)
 obtain ⟨A5, c5, rfl, -⟩ := r5.sl
 have n := nx0.trans n5
 have e5 := e0.nx n5
 have nt : Nt T w q p g (24 - (k : Int)) w5 g5 (noneC (fieldC (typC k)) s).2 := n.to
 refine hK9 _ _ (gw_ch nt.ch) ?_
 clear hK9
 refine mix_cons (os := []) (by rfl) (fun Kp hKp => ?_)
 refine wpQuiet_nil ?_
 refine hKp _ ?_
 clear hKp
 refine loud (by rfl) (by kernel_rfl) (fun K4 hK4 => ?_)
 go_simp
 refine hK4 _ _ (gw_ch nt.ch) ?_
 clear hK4
 refine mix_cons (os := [_]) (by simp only [pickO, List.filterMap_cons, List.filterMap_nil, List.getElem?_toArray, List.getElem?_cons_succ, List.getElem?_cons_zero]; rfl) (fun Kp hKp => ?_)
 repeat (go_big_quiet_step (exact rfl))
 refine wpQuiet_nil ?_
 refine hKp _ ?_
 clear hKp
 refine loud (by rfl) (by kernel_rfl) (fun K5 hK5 => ?_)
 have y6 := (Lib.cell_of_heap e5.hT 6).trans rfl
 have yf6 := Lib.frozen_of_heap e5.hT 6
 replace r5 := RdSl.kp (hd := hdT) (pl := plT) (fun _ _ _ _ _ q h => hdT.kp q h) (fun _ _ _ _ q h => plT.kp q h) (kp_set (b := w.heap.size) (b0 := w.heap.size) lT (Nat.le_refl _) 6 (.slice A5 (ofL (noneC (fieldC (typC k)) s).1).len c5)) r5
 have nt2 := (nt.set lT ⟨n6, n3, n7⟩ 6 (.slice A5 (ofL (noneC (fieldC (typC k)) s).1).len c5))
 have hT2 := (satK e5.hT 6 (.slice A5 (ofL (noneC (fieldC (typC k)) s).1).len c5))
 simp only [List.setIfInBounds_toArray, List.set_cons_succ, List.set_cons_zero] at hT2
 have fin := Lib.hid (hR.out _ _ _ nt2 hT2 r5)
 go_simp
 refine hK5 _ _ (gw_ch nt2.ch) ?_
 clear hK5 hR n n5 nt nt2 hT2 e5 e0 nx0 e h ka kb r5
 refine mix_nil (os := []) (by rfl) (fun Kp hKp => ?_)
 refine wpQuiet_nil ?_
 refine hKp _ ?_
 clear hKp
 go_wp2_with fail
 first | refine bodyPost_ret ?_ rfl fin.out | refine bodyPost_end ?_ rfl fin.out
 simp [results, Tryz.results224, go_sem]
theorem isF_content7 : IsF 227 := by
 intro args w
 unfold callFunc
 simp [go_sem, Tryz.func227]
 rfl
theorem content7_calls (k : Nat) (hk : TypQ k) (s : PS) (q p g a b T : Nat) (z0 z1 z2 z3 z4 z5 z6 z7 z8 : Value) (w : World) (h : PsG w q p g (24 - (k : Int)) s) (hl : s.1.length ≤ 1000000) (e : Env w q p g a b T #[z0, z1, z2, z3, z4, z5, z6, z7, z8]) (R : Ending → World → Prop)
  (hR : Hid (∀ w' g' v, Nt T w q p g (24 - (k : Int)) w' g' (listP (tagC (typC k)) comma s).2 → w'.heap[T]? = some (.cells #[z0, z1, z2, z3, z4, z5, v, z7, z8] 29) → RdP (empW (lowS w.heap.size) w') v (ofL (listP (tagC (typC k)) comma s).1) → R (.returned (.tuple #[])) w')) : Calls Tryz.prog 227 #[ptV a, ptV b] w R := by
 obtain ⟨n1, n2, n3, n4, n5, n6, n7⟩ := e.ne
 have la := bltK e.ha
 have lb := bltK e.hb
 have lT := bltK e.hT
 have nx0 := h.same (drew_bl w)
 have e0 := e.nx nx0
 have ka := fun y : GW w p T => y.cell la n1 n4 ((Lib.cell_of_heap e.ha 0).trans rfl)
 have kb := fun y : GW w p T => y.cell lb n2 n5 ((Lib.cell_of_heap e.hb 0).trans rfl)
 have hmf : ∀ (fn : Fn) (first cap : Array Value) (w : World), (Instr.makeFunc fn first cap).run Tryz.prog w = .ok (.func fn first cap) w := fun _ _ _ _ => rfl
 go_enter Tryz.func227, Tryz.ntmps227
 go_wp2_with fail
 refine wp_region_mixG p T [([0, 1, 2], 3), ([], 4), ([], 5), ([6], 7)] [] (by kernel_rfl) (by kernel_rfl) (by kernel_rfl) (by kernel_rfl) (fun _ _ d _ _ h => by cases d <;> exact h) ?_
 refine mix_cons (os := [_, _, _]) (by simp only [pickO, List.filterMap_cons, List.filterMap_nil, List.getElem?_toArray, List.getElem?_cons_succ, List.getElem?_cons_zero]; rfl) (fun Kp hKp => ?_)
 repeat (go_big_quiet_step (exact rfl))
 refine wpQuiet_nil ?_
 refine hKp _ ?_
 clear hKp
 refine loud (by rfl) (by kernel_rfl) (fun K3 hK3 => ?_)
 go_simp
 refine hK3 _ _ (gw_ch (Ch.bl (drew_bl w))) ?_
 clear hK3
 refine mix_cons (os := []) (by rfl) (fun Kp hKp => ?_)
 refine wpQuiet_nil ?_
 refine hKp _ ?_
 clear hKp
 refine loud (by rfl) (by kernel_rfl) (fun K9 hK9 => ?_)
 go_simp
 refine listP_calls 229 isF_tag (tagC (typC k)) (gd_tag (gd_typ k)) q p _ (Lib.hid fun s g w h hl R hR => tagK_calls k hk s q p g w h hl R hR) s g _ nx0.ps hl _ (Lib.hid fun w5 g5 v n5 r5 => ?_)
 obtain ⟨A5, c5, rfl, -⟩ := r5.sl
 have n := nx0.trans n5
 have e5 := e0.nx n5
 have nt : Nt T w q p g (24 - (k : Int)) w5 g5 (listP (tagC (typC k)) comma s).2 := n.to
 refine hK9 _ _ (gw_ch nt.ch) ?_
 clear hK9
 refine mix_cons (os := []) (by rfl) (fun Kp hKp => ?_)
 refine wpQuiet_nil ?_
 refine hKp _ ?_
 clear hKp
 refine loud (by rfl) (by kernel_rfl) (fun K4 hK4 => ?_)
 go_simp
 refine hK4 _ _ (gw_ch nt.ch) ?_
 clear hK4
 refine mix_cons (os := [_]) (by simp only [pickO, List.filterMap_cons, List.filterMap_nil, List.getElem?_toArray, List.getElem?_cons_succ, List.getElem?_cons_zero]; rfl) (fun Kp hKp => ?_)
 repeat (go_big_quiet_step (exact rfl))
 refine wpQuiet_nil ?_
 refine hKp _ ?_
 clear hKp
 refine loud (by rfl) (by kernel_rfl) (fun K5 hK5 => ?_)
 have y6 := (Lib.cell_of_heap e5.hT 6).trans rfl
 have yf6 := Lib.frozen_of_heap e5.hT 6
 replace r5 := RdSl.kp (hd := hdT) (pl := plT) (fun _ _ _ _ _ q h => hdT.kp q h) (fun _ _ _ _ q h => plT.kp q h) (kp_set (b := w.heap.size) (b0 := w.heap.size) lT (Nat.le_refl _) 6 (.slice A5 (ofL (listP (tagC (typC k)) comma s).1).len c5)) r5
 have nt2 := (nt.set lT ⟨n6, n3, n7⟩ 6 (.slice A5 (ofL (listP (tagC (typC k)) comma s).1).len c5))
 have hT2 := (satK e5.hT 6 (.slice A5 (ofL (listP (tagC (typC k)) comma s).1).len c5))
 simp only [List.setIfInBounds_toArray, List.set_cons_succ, List.set_cons_zero] at hT2
 have fin := Lib.hid (hR.out _ _ _ nt2 hT2 r5)
 go_simp
 refine hK5 _ _ (gw_ch nt2.ch) ?_
 clear hK5 hR n n5 nt nt2 hT2 e5 e0 nx0 e h ka kb r5
 refine mix_nil (os := []) (by rfl) (fun Kp hKp => ?_)
 refine wpQuiet_nil ?_
 refine hKp _ ?_
 clear hKp
 go_wp2_with fail
 first | refine bodyPost_ret ?_ rfl fin.out | refine bodyPost_end ?_ rfl fin.out
 simp [results, Tryz.results227, go_sem]
theorem content_calls (k : Nat) (hk : TypQ k) (kd at0 : Int) (s : PS) (q p g T : Nat) (w : World) (h : PsG w q p g (24 - (k : Int)) s) (hl : s.1.length ≤ 1000000) (hT : w.heap[T]? = some (.cells #[.int .i64 kd, .int .i64 at0, .int .i64 0, .int .i64 0, .int .i64 0, .slice none 0 0, .slice none 0 0, .string ⟨#[]⟩, .int .i64 0] 29)) (nT : T ≠ q ∧ T ≠ p ∧ g ≠ T) (R : Ending → World → Prop)
  (hR : Hid (∀ w' g' nv pv, Nt T w q p g (24 - (k : Int)) w' g' (contC (typC k) (hKA kd at0) s).2 → w'.heap[T]? = some (.cells (tyC (contC (typC k) (hKA kd at0) s).1.1 nv pv) 29) → RdY (empW (lowS w.heap.size) w') (contC (typC k) (hKA kd at0) s).1.1 (contC (typC k) (hKA kd at0) s).1.2 nv pv → R (.returned (.tuple #[])) w')) : Calls Tryz.prog 135 #[ptV q, ptV T] w R := by
 have lp := h.cur.lt
 have lT := bltK hT
 have hmf : ∀ (fn : Fn) (first cap : Array Value) (w : World), (Instr.makeFunc fn first cap).run Tryz.prog w = .ok (.func fn first cap) w := fun _ _ _ _ => rfl
 have n := (Nx.rfl' h).alloc (.cells #[ptV q] 133)
 have bA := Bx.new (Nx.rfl' h) #[ptV q] 133
 have bB := Bx.new n #[ptV T] 215
 replace n := n.alloc (.cells #[ptV T] 215)
 replace bA := bA.alloc (.cells #[ptV T] 215)
 have zR : (w.alloc (.cells #[ptV q] 133)).heap.size = w.heap.size + 1 := by simp
 rw [zR] at bB
 have hT1 := (n.blk lT nT.2.1).trans hT
 go_enter Tryz.func135, Tryz.ntmps135
 go_upto_region 1 with fail
 generalize (w.alloc (.cells #[ptV q] 133)).alloc (.cells #[ptV T] 215) = V at *
 clear zR
 have a0 := (bA.c 0).trans rfl
 have c0 := (bB.c 0).trans rfl
 have y0 := (Lib.cell_of_heap hT1 0).trans rfl
 go_upto_region 2 with fail
 clear c0 y0
 have lV := bltK hT1
 have env : Env V q p g w.heap.size (w.heap.size + 1) T _ := ⟨bA.at_, bB.at_, hT1, by have := h.ql; have := h.cur.lg; obtain ⟨x1, x2, x3⟩ := nT; refine ⟨?_, ?_, ?_, ?_, ?_, ?_, ?_⟩ <;> omega⟩
 by_cases hkd : kd = 2
 ·subst hkd
  have hq : contC (typC k) (hKA 2 at0) s = (({ hKA 2 at0 with lo := (boundsC (markS s lpar)).1.1, hi := (boundsC (markS s lpar)).1.2 }, .nil), markS (boundsC (markS s lpar)).2 rpar) := rfl
  rw [hq] at hR
  simp only at hR
  clear hq
  have cI := Lib.hid fun R hR => inside_calls 215 isF_content1 #[ptV w.heap.size, ptV (w.heap.size + 1)] T lpar rpar s (boundsC (markS s lpar)).2 q p g _ V n.ps (fun _ W' => W'.heap[T]? = some (.cells #[.int .i64 2, .int .i64 at0, .int .i64 (boundsC (markS s lpar)).1.1, .int .i64 (boundsC (markS s lpar)).1.2, .int .i64 0, .slice none 0 0, .slice none 0 0, .string ⟨#[]⟩, .int .i64 0] 29)) (Lib.hid fun W g1 m1 R hR => content1_calls (markS s lpar) q p g1 w.heap.size (w.heap.size + 1) T (.int .i64 2) (.int .i64 at0) (.int .i64 0) (.int .i64 0) (.int .i64 0) (.slice none 0 0) (.slice none 0 0) (.string ⟨#[]⟩) (.int .i64 0) _ W m1.ps (Nat.le_trans (gd_mark s lpar h.ok).2 hl) (env.nx m1) R (Lib.hid fun W' g2 t e => hR.out W' g2 t e)) R hR
  go_wp2_with fail
  refine cI.out _ (Lib.hid fun W1 W2 W3 g1 g2 g3 m1 t1 q1 m3 => ?_)
  clear cI
  have s1 := m1.gr.size
  have s0 := n.gr.size
  have lT2 : T < W2.heap.size := by have := t1.ch.size; omega
  have nt := ((n.to (T := T)).nx m1).trans t1 |>.nx m3
  have q3 := (m3.blk lT2 nT.2.1).trans q1
  have fin := Lib.hid (hR.out W3 g3 _ _ nt q3 ⟨RdW.none0 _, RdSl.nil _ none 0⟩)
  clear hR nt q3 q1 m1 m3 t1 n env bA bB hT hT1 h
  go_wp2_with fail
  first | refine bodyPost_ret ?_ rfl fin.out | refine bodyPost_end ?_ rfl fin.out
  simp [results, Tryz.results135, go_sem]
 ·have q2 : (kd == 2) = false := by simpa using hkd
  have hkd2 := Lib.hid hkd
  clear hkd
  by_cases hkd : kd = 3
  ·subst hkd
   have hq : contC (typC k) (hKA 3 at0) s = (({ hKA 3 at0 with most := (intS (markS s lpar)).1 }, .nil), markS (intS (markS s lpar)).2 rpar) := rfl
   rw [hq] at hR
   simp only at hR
   clear hq
   have cI := Lib.hid fun R hR => inside_calls 217 isF_content2 #[ptV w.heap.size, ptV (w.heap.size + 1)] T lpar rpar s (intS (markS s lpar)).2 q p g _ V n.ps (fun _ W' => W'.heap[T]? = some (.cells #[.int .i64 3, .int .i64 at0, .int .i64 0, .int .i64 0, .int .i64 (intS (markS s lpar)).1, .slice none 0 0, .slice none 0 0, .string ⟨#[]⟩, .int .i64 0] 29)) (Lib.hid fun W g1 m1 R hR => content2_calls (markS s lpar) q p g1 w.heap.size (w.heap.size + 1) T (.int .i64 3) (.int .i64 at0) (.int .i64 0) (.int .i64 0) (.int .i64 0) (.slice none 0 0) (.slice none 0 0) (.string ⟨#[]⟩) (.int .i64 0) _ W m1.ps (Nat.le_trans (gd_mark s lpar h.ok).2 hl) (env.nx m1) R (Lib.hid fun W' g2 t e => hR.out W' g2 t e)) R hR
   go_wp2_with fail
   refine cI.out _ (Lib.hid fun W1 W2 W3 g1 g2 g3 m1 t1 q1 m3 => ?_)
   clear cI
   have s1 := m1.gr.size
   have s0 := n.gr.size
   have lT2 : T < W2.heap.size := by have := t1.ch.size; omega
   have nt := ((n.to (T := T)).nx m1).trans t1 |>.nx m3
   have q3 := (m3.blk lT2 nT.2.1).trans q1
   have fin := Lib.hid (hR.out W3 g3 _ _ nt q3 ⟨RdW.none0 _, RdSl.nil _ none 0⟩)
   clear hR nt q3 q1 m1 m3 t1 n env bA bB hT hT1 h
   go_wp2_with fail
   first | refine bodyPost_ret ?_ rfl fin.out | refine bodyPost_end ?_ rfl fin.out
   simp [results, Tryz.results135, go_sem]
  ·have q3 : (kd == 3) = false := by simpa using hkd
   have hkd3 := Lib.hid hkd
   clear hkd
   by_cases hkd : kd = 4
   ·subst hkd
    have hq : contC (typC k) (hKA 4 at0) s = (({ hKA 4 at0 with names := ((listP nameS comma) (markS s lpar)).1 }, .nil), markS ((listP nameS comma) (markS s lpar)).2 rpar) := rfl
    rw [hq] at hR
    simp only at hR
    clear hq
    have cI := Lib.hid fun R hR => inside_calls 219 isF_content3 #[ptV w.heap.size, ptV (w.heap.size + 1)] T lpar rpar s ((listP nameS comma) (markS s lpar)).2 q p g _ V n.ps (fun W W' => ∃ v, W'.heap[T]? = some (.cells #[.int .i64 4, .int .i64 at0, .int .i64 0, .int .i64 0, .int .i64 0, v, .slice none 0 0, .string ⟨#[]⟩, .int .i64 0] 29) ∧ RdW (empW (lowS W.heap.size) W') v ((listP nameS comma) (markS s lpar)).1) (Lib.hid fun W g1 m1 R hR => content3_calls (markS s lpar) q p g1 w.heap.size (w.heap.size + 1) T (.int .i64 4) (.int .i64 at0) (.int .i64 0) (.int .i64 0) (.int .i64 0) (.slice none 0 0) (.slice none 0 0) (.string ⟨#[]⟩) (.int .i64 0) _ W m1.ps (Nat.le_trans (gd_mark s lpar h.ok).2 hl) (env.nx m1) R (Lib.hid fun W' g2 v t e r => hR.out W' g2 t ⟨v, e, r⟩)) R hR
    go_wp2_with fail
    refine cI.out _ (Lib.hid fun W1 W2 W3 g1 g2 g3 m1 t1 q1 m3 => ?_)
    clear cI
    obtain ⟨v, q1, r1⟩ := q1
    have r3 := r1.kp (m3.kp (b := W1.heap.size) (b0 := w.heap.size) (by have := m1.gr.size; have := n.gr.size; omega) (by have := m1.gr.size; have := n.gr.size; omega))
    have s1 := m1.gr.size
    have s0 := n.gr.size
    have lT2 : T < W2.heap.size := by have := t1.ch.size; omega
    have nt := ((n.to (T := T)).nx m1).trans t1 |>.nx m3
    have q3 := (m3.blk lT2 nT.2.1).trans q1
    have fin := Lib.hid (hR.out W3 g3 _ _ nt q3 ⟨r3, RdSl.nil _ none 0⟩)
    clear hR nt q3 q1 m1 m3 t1 n env bA bB hT hT1 h r1 r3
    go_wp2_with fail
    first | refine bodyPost_ret ?_ rfl fin.out | refine bodyPost_end ?_ rfl fin.out
    simp [results, Tryz.results135, go_sem]
   ·have q4 : (kd == 4) = false := by simpa using hkd
    have hkd4 := Lib.hid hkd
    clear hkd
    by_cases hkd : kd = 5
    ·subst hkd
     have hq : contC (typC k) (hKA 5 at0) s = (({ hKA 5 at0 with most := ((listC (typC k)) (markS s lpar)).1.2 }, ((listC (typC k)) (markS s lpar)).1.1), markS ((listC (typC k)) (markS s lpar)).2 rpar) := rfl
     rw [hq] at hR
     simp only at hR
     clear hq
     have cI := Lib.hid fun R hR => inside_calls 220 isF_content4 #[ptV w.heap.size, ptV (w.heap.size + 1)] T lpar rpar s ((listC (typC k)) (markS s lpar)).2 q p g _ V n.ps (fun W W' => ∃ v, W'.heap[T]? = some (.cells #[.int .i64 5, .int .i64 at0, .int .i64 0, .int .i64 0, .int .i64 ((listC (typC k)) (markS s lpar)).1.2, .slice none 0 0, v, .string ⟨#[]⟩, .int .i64 0] 29) ∧ RdP (empW (lowS W.heap.size) W') v ((listC (typC k)) (markS s lpar)).1.1) (Lib.hid fun W g1 m1 R hR => content4_calls k hk (markS s lpar) q p g1 w.heap.size (w.heap.size + 1) T (.int .i64 5) (.int .i64 at0) (.int .i64 0) (.int .i64 0) (.int .i64 0) (.slice none 0 0) (.slice none 0 0) (.string ⟨#[]⟩) (.int .i64 0) W m1.ps (Nat.le_trans (gd_mark s lpar h.ok).2 hl) (env.nx m1) R (Lib.hid fun W' g2 v t e r => hR.out W' g2 t ⟨v, e, r⟩)) R hR
     go_wp2_with fail
     refine cI.out _ (Lib.hid fun W1 W2 W3 g1 g2 g3 m1 t1 q1 m3 => ?_)
     clear cI
     obtain ⟨v, q1, r1⟩ := q1
     have r3 := kpP16 (m3.kp (b := W1.heap.size) (b0 := w.heap.size) (by have := m1.gr.size; have := n.gr.size; omega) (by have := m1.gr.size; have := n.gr.size; omega)) r1
     have s1 := m1.gr.size
     have s0 := n.gr.size
     have lT2 : T < W2.heap.size := by have := t1.ch.size; omega
     have nt := ((n.to (T := T)).nx m1).trans t1 |>.nx m3
     have q3 := (m3.blk lT2 nT.2.1).trans q1
     have fin := Lib.hid (hR.out W3 g3 _ _ nt q3 ⟨RdW.none0 _, r3⟩)
     clear hR nt q3 q1 m1 m3 t1 n env bA bB hT hT1 h r1 r3
     go_wp2_with fail
     first | refine bodyPost_ret ?_ rfl fin.out | refine bodyPost_end ?_ rfl fin.out
     simp [results, Tryz.results135, go_sem]
    ·have q5 : (kd == 5) = false := by simpa using hkd
     have hkd5 := Lib.hid hkd
     clear hkd
     by_cases hkd : kd = 6
     ·subst hkd
      have hq : contC (typC k) (hKA 6 at0) s = ((hKA 6 at0, only ((typC k) (markS s lpar)).1), markS ((typC k) (markS s lpar)).2 rpar) := rfl
      rw [hq] at hR
      simp only at hR
      clear hq
      have cI := Lib.hid fun R hR => inside_calls 223 isF_content5 #[ptV w.heap.size, ptV (w.heap.size + 1)] T lpar rpar s ((typC k) (markS s lpar)).2 q p g _ V n.ps (fun W W' => ∃ v, W'.heap[T]? = some (.cells #[.int .i64 6, .int .i64 at0, .int .i64 0, .int .i64 0, .int .i64 0, .slice none 0 0, v, .string ⟨#[]⟩, .int .i64 0] 29) ∧ RdP (empW (lowS W.heap.size) W') v (only ((typC k) (markS s lpar)).1)) (Lib.hid fun W g1 m1 R hR => content5_calls k hk (markS s lpar) q p g1 w.heap.size (w.heap.size + 1) T (.int .i64 6) (.int .i64 at0) (.int .i64 0) (.int .i64 0) (.int .i64 0) (.slice none 0 0) (.slice none 0 0) (.string ⟨#[]⟩) (.int .i64 0) W m1.ps (Nat.le_trans (gd_mark s lpar h.ok).2 hl) (env.nx m1) R (Lib.hid fun W' g2 v t e r => hR.out W' g2 t ⟨v, e, r⟩)) R hR
      go_wp2_with fail
      refine cI.out _ (Lib.hid fun W1 W2 W3 g1 g2 g3 m1 t1 q1 m3 => ?_)
      clear cI
      obtain ⟨v, q1, r1⟩ := q1
      have r3 := kpP16 (m3.kp (b := W1.heap.size) (b0 := w.heap.size) (by have := m1.gr.size; have := n.gr.size; omega) (by have := m1.gr.size; have := n.gr.size; omega)) r1
      have s1 := m1.gr.size
      have s0 := n.gr.size
      have lT2 : T < W2.heap.size := by have := t1.ch.size; omega
      have nt := ((n.to (T := T)).nx m1).trans t1 |>.nx m3
      have q3 := (m3.blk lT2 nT.2.1).trans q1
      have fin := Lib.hid (hR.out W3 g3 _ _ nt q3 ⟨RdW.none0 _, r3⟩)
      clear hR nt q3 q1 m1 m3 t1 n env bA bB hT hT1 h r1 r3
      go_wp2_with fail
      first | refine bodyPost_ret ?_ rfl fin.out | refine bodyPost_end ?_ rfl fin.out
      simp [results, Tryz.results135, go_sem]
     ·have q6 : (kd == 6) = false := by simpa using hkd
      have hkd6 := Lib.hid hkd
      clear hkd
      by_cases hkd : kd = 7
      ·subst hkd
       have hq : contC (typC k) (hKA 7 at0) s = ((hKA 7 at0, ofL ((noneC (fieldC (typC k))) (markS s lbrace)).1), markS ((noneC (fieldC (typC k))) (markS s lbrace)).2 rbrace) := rfl
       rw [hq] at hR
       simp only at hR
       clear hq
       have cI := Lib.hid fun R hR => inside_calls 224 isF_content6 #[ptV w.heap.size, ptV (w.heap.size + 1)] T lbrace rbrace s ((noneC (fieldC (typC k))) (markS s lbrace)).2 q p g _ V n.ps (fun W W' => ∃ v, W'.heap[T]? = some (.cells #[.int .i64 7, .int .i64 at0, .int .i64 0, .int .i64 0, .int .i64 0, .slice none 0 0, v, .string ⟨#[]⟩, .int .i64 0] 29) ∧ RdP (empW (lowS W.heap.size) W') v (ofL ((noneC (fieldC (typC k))) (markS s lbrace)).1)) (Lib.hid fun W g1 m1 R hR => content6_calls k hk (markS s lbrace) q p g1 w.heap.size (w.heap.size + 1) T (.int .i64 7) (.int .i64 at0) (.int .i64 0) (.int .i64 0) (.int .i64 0) (.slice none 0 0) (.slice none 0 0) (.string ⟨#[]⟩) (.int .i64 0) W m1.ps (Nat.le_trans (gd_mark s lbrace h.ok).2 hl) (env.nx m1) R (Lib.hid fun W' g2 v t e r => hR.out W' g2 t ⟨v, e, r⟩)) R hR
       go_wp2_with fail
       refine cI.out _ (Lib.hid fun W1 W2 W3 g1 g2 g3 m1 t1 q1 m3 => ?_)
       clear cI
       obtain ⟨v, q1, r1⟩ := q1
       have r3 := kpP16 (m3.kp (b := W1.heap.size) (b0 := w.heap.size) (by have := m1.gr.size; have := n.gr.size; omega) (by have := m1.gr.size; have := n.gr.size; omega)) r1
       have s1 := m1.gr.size
       have s0 := n.gr.size
       have lT2 : T < W2.heap.size := by have := t1.ch.size; omega
       have nt := ((n.to (T := T)).nx m1).trans t1 |>.nx m3
       have q3 := (m3.blk lT2 nT.2.1).trans q1
       have fin := Lib.hid (hR.out W3 g3 _ _ nt q3 ⟨RdW.none0 _, r3⟩)
       clear hR nt q3 q1 m1 m3 t1 n env bA bB hT hT1 h r1 r3
       go_wp2_with fail
       first | refine bodyPost_ret ?_ rfl fin.out | refine bodyPost_end ?_ rfl fin.out
       simp [results, Tryz.results135, go_sem]
      ·have q7 : (kd == 7) = false := by simpa using hkd
       have hkd7 := Lib.hid hkd
       clear hkd
       by_cases hkd : kd = 8
       ·subst hkd
        have hq : contC (typC k) (hKA 8 at0) s = ((hKA 8 at0, ofL ((listP (tagC (typC k)) comma) (markS s lbrace)).1), markS ((listP (tagC (typC k)) comma) (markS s lbrace)).2 rbrace) := rfl
        rw [hq] at hR
        simp only at hR
        clear hq
        have cI := Lib.hid fun R hR => inside_calls 227 isF_content7 #[ptV w.heap.size, ptV (w.heap.size + 1)] T lbrace rbrace s ((listP (tagC (typC k)) comma) (markS s lbrace)).2 q p g _ V n.ps (fun W W' => ∃ v, W'.heap[T]? = some (.cells #[.int .i64 8, .int .i64 at0, .int .i64 0, .int .i64 0, .int .i64 0, .slice none 0 0, v, .string ⟨#[]⟩, .int .i64 0] 29) ∧ RdP (empW (lowS W.heap.size) W') v (ofL ((listP (tagC (typC k)) comma) (markS s lbrace)).1)) (Lib.hid fun W g1 m1 R hR => content7_calls k hk (markS s lbrace) q p g1 w.heap.size (w.heap.size + 1) T (.int .i64 8) (.int .i64 at0) (.int .i64 0) (.int .i64 0) (.int .i64 0) (.slice none 0 0) (.slice none 0 0) (.string ⟨#[]⟩) (.int .i64 0) W m1.ps (Nat.le_trans (gd_mark s lbrace h.ok).2 hl) (env.nx m1) R (Lib.hid fun W' g2 v t e r => hR.out W' g2 t ⟨v, e, r⟩)) R hR
        go_wp2_with fail
        refine cI.out _ (Lib.hid fun W1 W2 W3 g1 g2 g3 m1 t1 q1 m3 => ?_)
        clear cI
        obtain ⟨v, q1, r1⟩ := q1
        have r3 := kpP16 (m3.kp (b := W1.heap.size) (b0 := w.heap.size) (by have := m1.gr.size; have := n.gr.size; omega) (by have := m1.gr.size; have := n.gr.size; omega)) r1
        have s1 := m1.gr.size
        have s0 := n.gr.size
        have lT2 : T < W2.heap.size := by have := t1.ch.size; omega
        have nt := ((n.to (T := T)).nx m1).trans t1 |>.nx m3
        have q3 := (m3.blk lT2 nT.2.1).trans q1
        have fin := Lib.hid (hR.out W3 g3 _ _ nt q3 ⟨RdW.none0 _, r3⟩)
        clear hR nt q3 q1 m1 m3 t1 n env bA bB hT hT1 h r1 r3
        go_wp2_with fail
        first | refine bodyPost_ret ?_ rfl fin.out | refine bodyPost_end ?_ rfl fin.out
        simp [results, Tryz.results135, go_sem]
       ·have q8 : (kd == 8) = false := by simpa using hkd
        have hkd8 := Lib.hid hkd
        clear hkd
        by_cases hkd : kd = 9
        ·subst hkd
         have hq : contC (typC k) (hKA 9 at0) s = (({ hKA 9 at0 with name := (nameS (markS s lpar)).1.1, nat := (nameS (markS s lpar)).1.2 }, .nil), markS (nameS (markS s lpar)).2 rpar) := rfl
         rw [hq] at hR
         simp only at hR
         clear hq
         have cI := Lib.hid fun R hR => inside_calls 230 isF_content8 #[ptV w.heap.size, ptV (w.heap.size + 1)] T lpar rpar s (nameS (markS s lpar)).2 q p g _ V n.ps (fun _ W' => W'.heap[T]? = some (.cells #[.int .i64 9, .int .i64 at0, .int .i64 0, .int .i64 0, .int .i64 0, .slice none 0 0, .slice none 0 0, .string (nameS (markS s lpar)).1.1, .int .i64 (nameS (markS s lpar)).1.2] 29)) (Lib.hid fun W g1 m1 R hR => content8_calls (markS s lpar) q p g1 w.heap.size (w.heap.size + 1) T (.int .i64 9) (.int .i64 at0) (.int .i64 0) (.int .i64 0) (.int .i64 0) (.slice none 0 0) (.slice none 0 0) (.string ⟨#[]⟩) (.int .i64 0) _ W m1.ps (Nat.le_trans (gd_mark s lpar h.ok).2 hl) (env.nx m1) R (Lib.hid fun W' g2 t e => hR.out W' g2 t e)) R hR
         go_wp2_with fail
         refine cI.out _ (Lib.hid fun W1 W2 W3 g1 g2 g3 m1 t1 q1 m3 => ?_)
         clear cI
         have s1 := m1.gr.size
         have s0 := n.gr.size
         have lT2 : T < W2.heap.size := by have := t1.ch.size; omega
         have nt := ((n.to (T := T)).nx m1).trans t1 |>.nx m3
         have q3 := (m3.blk lT2 nT.2.1).trans q1
         have fin := Lib.hid (hR.out W3 g3 _ _ nt q3 ⟨RdW.none0 _, RdSl.nil _ none 0⟩)
         clear hR nt q3 q1 m1 m3 t1 n env bA bB hT hT1 h
         go_wp2_with fail
         first | refine bodyPost_ret ?_ rfl fin.out | refine bodyPost_end ?_ rfl fin.out
         simp [results, Tryz.results135, go_sem]
        ·have q9 : (kd == 9) = false := by simpa using hkd
         have hkd9 := Lib.hid hkd
         clear hkd
         have hq : contC (typC k) (hKA kd at0) s = ((hKA kd at0, .nil), s) := by
          unfold contC
          have e : (hKA kd at0).kind = kd := rfl
          rw [e]
          simp [hkd2.out, hkd3.out, hkd4.out, hkd5.out, hkd6.out, hkd7.out, hkd8.out, hkd9.out]
         rw [hq] at hR
         simp only at hR
         clear hq
         have fin := Lib.hid (hR.out V g _ _ n.to hT1 ⟨RdW.none0 _, RdSl.nil _ none 0⟩)
         clear hR n env bA bB hT hT1 h
         go_wp2_with fail
         first | refine bodyPost_ret ?_ rfl fin.out | refine bodyPost_end ?_ rfl fin.out
         simp [results, Tryz.results135, go_sem]
end Go.Proofs.YtncijmodlhijoaaGreat.Syn
