import Derived.Test.YtmchgimbfdeaiaaGreatG13
/- Layer 14: does walked, a kind at a time (5): Leave. -/
set_option maxRecDepth 100000
set_option linter.unusedVariables false
namespace Go.Proofs.YtmchgimbfdeaiaaGreat.Cur
open Go.RowKit Go.Lib Go.Proofs.YtmchgimbfdeaiaaGreat.Utf Go.Proofs.YtmchgimbfdeaiaaGreat.Tok

set_option maxRecDepth 100000 in
set_option maxHeartbeats 4000000 in
theorem does9_calls (c : Cu) (v : Value) (p : Nat) (n a : Int) (x : ByteArray) (w : World) (b : Nat) (cp : CurG w p c b) (hx : RdK (cutW w p) v c.1) (hl : EndL c.1) (hll : c.1.length ≤ 1000000) (hd : 0 ≤ c.2.1 ∧ c.2.1 ≤ 24) (hz : 0 < c.2.1) (R : Ending → World → Prop)
    (hR : Hid (∀ v' w' b', RdK (cutW w p) v' (leaveS c).1 → (b' = b ∨ w.heap.size ≤ b') → CurG w' p (leaveS c) b' → w.grownBy w' (some p) → R (.returned (.tuple #[cuV v' (leaveS c), .bool true])) w')) :
    Calls Tryz.prog 7 #[ptV p, cuV v c, .agg #[.int .i64 9, .int .i64 n, .int .i64 a, .string x]] w R := by
  have hL : leaveS c = (c.1, c.2.1 - 1, c.2.2) := if_pos hz
  rw [hL] at hR
  have hdec : decide (0 < c.2.1) = true := decide_eq_true hz
  have hpl := cp.lt
  have hbl := cp.lg
  have cP := Lib.hid fun (W : World) (g : w.grownBy W (some p)) R hR => refpeek14_calls c v W (rd_uncut hx hpl g).1 hl R hR
  have cN := Lib.hid fun (W : World) (g : w.grownBy W (some p)) R hR => refnext14x_calls c v W (cutW w p) hx (rd_uncut hx hpl g).1 hl hll R hR
  have cT := Lib.hid fun (k : Int) (x : ByteArray) (any : Bool) (W : World) (g : w.grownBy W (some p)) R hR => reftake14x_calls c v k x any W (cutW w p) hx (rd_uncut hx hpl g).1 hl hll R hR
  have cF := Lib.hid fun (e z : Int) (W : World) (g : w.grownBy W (some p)) R hR => reffail14x_calls c v e z W (cutW w p) hx (rd_uncut hx hpl g).1 R hR
  obtain ⟨Av, cv, rfl, -, -⟩ := hx.op
  obtain ⟨t, ht⟩ : ∃ t, peekS c = t := ⟨_, rfl⟩
  rw [ht] at cP
  simp only [tkV] at cP
  have hN := Lib.hid fun w3 n3 => Dz.new (w := w) (w3 := w3) (p := p) (v := .slice Av c.1.length cv) (c := c) (o := ((9, n, a, x))) (t := t) hpl n3
  have b1 := (Below.refl w.heap.size w).alloc (Nat.le_refl _) (.cells #[.slice Av c.1.length cv, .int .i64 c.2.1, .int .i64 c.2.2.1, .int .i64 c.2.2.2] 34)
  have b2 := b1.alloc b1.size (.cells #[.int .i64 9, .int .i64 n, .int .i64 a, .string x] 38)
  have b3 := Lib.hid (b2.alloc b2.size (.cells #[.slice none 0 0, .int .i64 0, .int .i64 0, .int .i64 0] 34))
  obtain ⟨q1, q2, q3⟩ := tri (w := w) (.cells #[.slice Av c.1.length cv, .int .i64 c.2.1, .int .i64 c.2.2.1, .int .i64 c.2.2.2] 34) (.cells #[.int .i64 9, .int .i64 n, .int .i64 a, .string x] 38) (.cells #[.slice none 0 0, .int .i64 0, .int .i64 0, .int .i64 0] 34)
  have j0 := (Lib.cell_of_heap q1 0).trans rfl
  have j1 := (Lib.cell_of_heap q1 1).trans rfl
  have j2 := (Lib.cell_of_heap q1 2).trans rfl
  have j3 := (Lib.cell_of_heap q1 3).trans rfl
  clear b1 b2 q1 q2 q3
  go_enter Tryz.func7, Tryz.ntmps7
  go_wp2_with fail
  clear j0 j1 j2 j3
  refine cP.out _ (grown_bl b3.out (Nat.le_refl _)) _ (Lib.hid fun w3 n3 => ?_)
  have D := hN.out w3 n3
  have nb := Lib.hid (b3.out.trans ((n3.alloc n3.size (.cells #[.int .i64 t.1, .int .i64 t.2.1, .int .i64 t.2.2.1, .string t.2.2.2.1, .int .i64 t.2.2.2.2] 40)).mono b3.out.size))
  obtain ⟨B, hB⟩ : ∃ B, w3.heap.size = B := ⟨_, rfl⟩
  obtain ⟨k0, k1, k2, k3, k4⟩ := box_five' w3 (.int .i64 t.1) (.int .i64 t.2.1) (.int .i64 t.2.2.1) (.string t.2.2.2.1) (.int .i64 t.2.2.2.2) 40
  have o0 := D.o0
  have o1 := D.o1
  have o2 := D.o2
  have o3 := D.o3
  have c0 := D.c0
  have c1 := D.c1
  have c2 := D.c2
  have c3 := D.c3
  replace D := Lib.hid D
  have hBC := Lib.hid (Dz.boxC (o := (9, n, a, x)) (x := .cells #[.int .i64 t.1, .int .i64 t.2.1, .int .i64 t.2.2.1, .string t.2.2.2.1, .int .i64 t.2.2.2.2] 40) n3)
  clear n3 hN b3 cP
  go_wp2_with fail
  generalize w3.alloc (.cells #[.int .i64 t.1, .int .i64 t.2.1, .int .i64 t.2.2.1, .string t.2.2.2.1, .int .i64 t.2.2.2.2] 40) = W at *
  rw [hB] at D
  clear hB o0 o1 o2 o3 c0 c1 c2 c3 k0 k1 k2 k3 k4
  have hlt0 := D.out.l8
  have hHB0 := D.out.b8
  refine cqleave_calls c p b _ (cp.below hpl hbl (nb.out)) hd _ (Lib.hid fun w4 cp4 g4 => ?_)
  rw [hL] at cp4
  have Dm := D.out.grown g4
  have hBm := hBC.out.grown g4 (by omega)
  have c1 := Dm.c1
  obtain ⟨hd0, hd1⟩ := hd
  have fF := hBm.frozen 1
  have D4 := Lib.hid (Dm.deep hBm (c.2.1 - 1))
  replace cp4 := Lib.hid (cp4.set (q := w.heap.size) (o := 1) (by omega) (by omega) (.int .i64 (c.2.1 - 1)))
  clear Dm hBm g4 D hBC nb
  go_wp2_with fail
  generalize w4.setCell ⟨w.heap.size, 1, none⟩ (.int .i64 (c.2.1 - 1)) = W4 at *
  clear c1 fF
  replace cp4 := cp4.out
  have hlt := D4.out.l8
  have hHB := D4.out.b8
  have k0 := fun y : GW W4 p (w.heap.size + 1 + 1) => y.cell (by omega) (by omega) (by omega) D4.out.c0
  have k1 := fun y : GW W4 p (w.heap.size + 1 + 1) => y.cell (by omega) (by omega) (by omega) D4.out.c1
  have k2 := fun y : GW W4 p (w.heap.size + 1 + 1) => y.cell (by omega) (by omega) (by omega) D4.out.c2
  have k3 := fun y : GW W4 p (w.heap.size + 1 + 1) => y.cell (by omega) (by omega) (by omega) D4.out.c3
  have cQ := Lib.hid fun (W : World) (g : w.grownBy W (some p)) R hR => refpeek14_calls ((c.1, c.2.1 - 1, c.2.2)) (.slice Av c.1.length cv) W (rd_uncut hx hpl g).1 hl R hR
  have hx4 := Lib.hid hx
  obtain ⟨T, hT⟩ : ∃ T, peekS ((c.1, c.2.1 - 1, c.2.2)) = T := ⟨_, rfl⟩
  rw [hT] at cQ
  simp only [tkV] at cQ
  clear cN cT cF hx
  refine wp_region_mixG p (w.heap.size + 1 + 1) [([0, 1, 3], 2), ([], 4), ([5], 6)] [7] (by kernel_rfl) (by kernel_rfl) (by kernel_rfl) (by kernel_rfl) (fun _ _ d _ _ h => by cases d <;> exact h) ?_
  have gW : Below W4.heap.size W4 (W4.drewN 1) := ⟨rfl, rfl, rfl, Nat.le_refl _, fun _ _ => rfl⟩
  replace cp4 := Lib.hid (cp4.all gW)
  refine mix_cons (os := [_, _, _]) (by simp only [pickO, List.filterMap_cons, List.filterMap_nil, List.getElem?_toArray, List.getElem?_cons_succ, List.getElem?_cons_zero]; rfl) (fun Kp hKp => ?_)
  repeat (go_big_quiet_step (exact rfl))
  refine wpQuiet_nil ?_
  refine hKp _ ?_
  clear hKp
  refine loud (by rfl) (by kernel_rfl) (fun K2 hK2 => ?_)
  go_simp
  refine curpeek_calls ((c.1, c.2.1 - 1, c.2.2)) p _ ⟨_, cp4.out⟩ _ (Lib.hid fun w4 n4 => ?_)
  rw [hT]
  simp only [tkV]
  replace cp4 := Lib.hid (cp4.out.all n4)
  replace gW := gW.trans (n4.mono gW.size)
  clear n4
  refine hK2 _ _ (GW.of _ (grown_bl gW (Nat.le_refl _))) ?_
  clear hK2
  refine mix_cons (os := []) (by rfl) (fun Kp hKp => ?_)
  repeat (go_big_quiet_step (exact rfl))
  refine wpQuiet_nil ?_
  refine hKp _ ?_
  clear hKp
  refine loud (by rfl) (by kernel_rfl) (fun K4 hK4 => ?_)
  go_simp
  refine cQ.out _ (grown_tr D4.out.g (grown_bl gW (Nat.le_refl _))) _ (Lib.hid fun w5 n5 => ?_)
  have gW5 := grown_bl (row := some p) (gW.trans (n5.mono gW.size)) (Nat.le_refl _)
  have cp5 := Lib.hid (cp4.out.all n5)
  clear n5 cp4 gW
  refine hK4 _ _ (GW.of _ gW5) ?_
  clear hK4
  refine mix_cons (os := [_]) (by simp only [pickO, List.filterMap_cons, List.filterMap_nil, List.getElem?_toArray, List.getElem?_cons_succ, List.getElem?_cons_zero]; rfl) (fun Kp hKp => ?_)
  repeat (go_big_quiet_step (exact rfl))
  refine wpQuiet_nil ?_
  refine hKp _ ?_
  clear hKp
  refine loud (by rfl) (by kernel_rfl) (fun K6 hK6 => ?_)
  have D5 := (D4.out).grown gW5
  obtain ⟨u0, h0⟩ := D5.r 0 (by decide)
  obtain ⟨u1, h1⟩ := D5.r 1 (by decide)
  obtain ⟨u2, h2⟩ := D5.r 2 (by decide)
  obtain ⟨u3, h3⟩ := D5.r 3 (by decide)
  have f0 := D5.f 0
  have f1 := D5.f 1
  have f2 := D5.f 2
  have f3 := D5.f 3
  change w5.cell? ⟨w.heap.size + 1 + 1, 0, none⟩ = some u0 at h0
  change w5.cell? ⟨w.heap.size + 1 + 1, 1, none⟩ = some u1 at h1
  change w5.cell? ⟨w.heap.size + 1 + 1, 2, none⟩ = some u2 at h2
  change w5.cell? ⟨w.heap.size + 1 + 1, 3, none⟩ = some u3 at h3
  change w5.frozen? ⟨w.heap.size + 1 + 1, 0, none⟩ = false at f0
  change w5.frozen? ⟨w.heap.size + 1 + 1, 1, none⟩ = false at f1
  change w5.frozen? ⟨w.heap.size + 1 + 1, 2, none⟩ = false at f2
  change w5.frozen? ⟨w.heap.size + 1 + 1, 3, none⟩ = false at f3
  clear D5
  go_simp
  refine hK6 _ _ (GW.four (GW.of _ gW5) _ _ _ _) ?_
  clear hK6
  refine mix_nil (os := [_]) (by simp only [pickO, List.filterMap_cons, List.filterMap_nil, List.getElem?_toArray, List.getElem?_cons_succ, List.getElem?_cons_zero]; rfl) (fun Kp hKp => ?_)
  repeat (go_big_quiet_step (exact rfl))
  refine wpQuiet_nil ?_
  refine hKp _ ?_
  clear hKp
  have gF := Lib.hid (grown_four (grown_tr D4.out.g gW5) (q := w.heap.size + 1 + 1) (by omega) (.slice Av c.1.length cv) (.int .i64 ((c.1, c.2.1 - 1, c.2.2)).2.1) (.int .i64 ((c.1, c.2.1 - 1, c.2.2)).2.2.1) (.int .i64 ((c.1, c.2.1 - 1, c.2.2)).2.2.2))
  have cpF := Lib.hid (cp5.out.four (q := w.heap.size + 1 + 1) (by omega) (by omega) (.slice Av c.1.length cv) (.int .i64 ((c.1, c.2.1 - 1, c.2.2)).2.1) (.int .i64 ((c.1, c.2.1 - 1, c.2.2)).2.2.1) (.int .i64 ((c.1, c.2.1 - 1, c.2.2)).2.2.2))
  go_wp2_with fail
  refine bodyPost_ret ?_ rfl (hR.out _ _ _ hx4.out (by omega) cpF.out gF.out)
  simp [results, Tryz.results7, go_sem, h0, h1, h2, h3]
set_option maxRecDepth 100000 in
set_option maxHeartbeats 4000000 in
theorem does9n_calls (c : Cu) (v : Value) (p : Nat) (n a : Int) (x : ByteArray) (w : World) (b : Nat) (cp : CurG w p c b) (hx : RdK (cutW w p) v c.1) (hl : EndL c.1) (hll : c.1.length ≤ 1000000) (hd : 0 ≤ c.2.1 ∧ c.2.1 ≤ 24) (hz : ¬ 0 < c.2.1) (R : Ending → World → Prop)
    (hR : Hid (∀ v' w' b', RdK (cutW w p) v' (leaveS c).1 → (b' = b ∨ w.heap.size ≤ b') → CurG w' p (leaveS c) b' → w.grownBy w' (some p) → R (.returned (.tuple #[cuV v' (leaveS c), .bool true])) w')) :
    Calls Tryz.prog 7 #[ptV p, cuV v c, .agg #[.int .i64 9, .int .i64 n, .int .i64 a, .string x]] w R := by
  have hL : leaveS c = c := if_neg hz
  rw [hL] at hR
  have hdec : decide (0 < c.2.1) = false := decide_eq_false hz
  have hpl := cp.lt
  have hbl := cp.lg
  have cP := Lib.hid fun (W : World) (g : w.grownBy W (some p)) R hR => refpeek14_calls c v W (rd_uncut hx hpl g).1 hl R hR
  have cN := Lib.hid fun (W : World) (g : w.grownBy W (some p)) R hR => refnext14x_calls c v W (cutW w p) hx (rd_uncut hx hpl g).1 hl hll R hR
  have cT := Lib.hid fun (k : Int) (x : ByteArray) (any : Bool) (W : World) (g : w.grownBy W (some p)) R hR => reftake14x_calls c v k x any W (cutW w p) hx (rd_uncut hx hpl g).1 hl hll R hR
  have cF := Lib.hid fun (e z : Int) (W : World) (g : w.grownBy W (some p)) R hR => reffail14x_calls c v e z W (cutW w p) hx (rd_uncut hx hpl g).1 R hR
  obtain ⟨Av, cv, rfl, -, -⟩ := hx.op
  obtain ⟨t, ht⟩ : ∃ t, peekS c = t := ⟨_, rfl⟩
  rw [ht] at cP
  simp only [tkV] at cP
  have hN := Lib.hid fun w3 n3 => Dz.new (w := w) (w3 := w3) (p := p) (v := .slice Av c.1.length cv) (c := c) (o := ((9, n, a, x))) (t := t) hpl n3
  have b1 := (Below.refl w.heap.size w).alloc (Nat.le_refl _) (.cells #[.slice Av c.1.length cv, .int .i64 c.2.1, .int .i64 c.2.2.1, .int .i64 c.2.2.2] 34)
  have b2 := b1.alloc b1.size (.cells #[.int .i64 9, .int .i64 n, .int .i64 a, .string x] 38)
  have b3 := Lib.hid (b2.alloc b2.size (.cells #[.slice none 0 0, .int .i64 0, .int .i64 0, .int .i64 0] 34))
  obtain ⟨q1, q2, q3⟩ := tri (w := w) (.cells #[.slice Av c.1.length cv, .int .i64 c.2.1, .int .i64 c.2.2.1, .int .i64 c.2.2.2] 34) (.cells #[.int .i64 9, .int .i64 n, .int .i64 a, .string x] 38) (.cells #[.slice none 0 0, .int .i64 0, .int .i64 0, .int .i64 0] 34)
  have j0 := (Lib.cell_of_heap q1 0).trans rfl
  have j1 := (Lib.cell_of_heap q1 1).trans rfl
  have j2 := (Lib.cell_of_heap q1 2).trans rfl
  have j3 := (Lib.cell_of_heap q1 3).trans rfl
  clear b1 b2 q1 q2 q3
  go_enter Tryz.func7, Tryz.ntmps7
  go_wp2_with fail
  clear j0 j1 j2 j3
  refine cP.out _ (grown_bl b3.out (Nat.le_refl _)) _ (Lib.hid fun w3 n3 => ?_)
  have D := hN.out w3 n3
  have nb := Lib.hid (b3.out.trans ((n3.alloc n3.size (.cells #[.int .i64 t.1, .int .i64 t.2.1, .int .i64 t.2.2.1, .string t.2.2.2.1, .int .i64 t.2.2.2.2] 40)).mono b3.out.size))
  obtain ⟨B, hB⟩ : ∃ B, w3.heap.size = B := ⟨_, rfl⟩
  obtain ⟨k0, k1, k2, k3, k4⟩ := box_five' w3 (.int .i64 t.1) (.int .i64 t.2.1) (.int .i64 t.2.2.1) (.string t.2.2.2.1) (.int .i64 t.2.2.2.2) 40
  have o0 := D.o0
  have o1 := D.o1
  have o2 := D.o2
  have o3 := D.o3
  have c0 := D.c0
  have c1 := D.c1
  have c2 := D.c2
  have c3 := D.c3
  replace D := Lib.hid D
  have hBC := Lib.hid (Dz.boxC (o := (9, n, a, x)) (x := .cells #[.int .i64 t.1, .int .i64 t.2.1, .int .i64 t.2.2.1, .string t.2.2.2.1, .int .i64 t.2.2.2.2] 40) n3)
  clear n3 hN b3 cP
  go_wp2_with fail
  generalize w3.alloc (.cells #[.int .i64 t.1, .int .i64 t.2.1, .int .i64 t.2.2.1, .string t.2.2.2.1, .int .i64 t.2.2.2.2] 40) = W at *
  rw [hB] at D
  clear hB o0 o1 o2 o3 c0 c1 c2 c3 k0 k1 k2 k3 k4
  have hlt0 := D.out.l8
  have hHB0 := D.out.b8
  refine cqleave_calls c p b _ (cp.below hpl hbl (nb.out)) hd _ (Lib.hid fun W4 cp4 g4 => ?_)
  rw [hL] at cp4
  have Dm := D.out.grown g4
  have hBm := hBC.out.grown g4 (by omega)
  have c1 := Dm.c1
  obtain ⟨hd0, hd1⟩ := hd
  have D4 := Lib.hid Dm
  replace cp4 := Lib.hid cp4
  clear Dm hBm g4 D hBC nb
  go_wp2_with fail
  clear c1
  replace cp4 := cp4.out
  have hlt := D4.out.l8
  have hHB := D4.out.b8
  have k0 := fun y : GW W4 p (w.heap.size + 1 + 1) => y.cell (by omega) (by omega) (by omega) D4.out.c0
  have k1 := fun y : GW W4 p (w.heap.size + 1 + 1) => y.cell (by omega) (by omega) (by omega) D4.out.c1
  have k2 := fun y : GW W4 p (w.heap.size + 1 + 1) => y.cell (by omega) (by omega) (by omega) D4.out.c2
  have k3 := fun y : GW W4 p (w.heap.size + 1 + 1) => y.cell (by omega) (by omega) (by omega) D4.out.c3
  have cQ := Lib.hid fun (W : World) (g : w.grownBy W (some p)) R hR => refpeek14_calls (c) (.slice Av c.1.length cv) W (rd_uncut hx hpl g).1 hl R hR
  have hx4 := Lib.hid hx
  obtain ⟨T, hT⟩ : ∃ T, peekS (c) = T := ⟨_, rfl⟩
  rw [hT] at cQ
  simp only [tkV] at cQ
  clear cN cT cF hx
  refine wp_region_mixG p (w.heap.size + 1 + 1) [([0, 1, 3], 2), ([], 4), ([5], 6)] [7] (by kernel_rfl) (by kernel_rfl) (by kernel_rfl) (by kernel_rfl) (fun _ _ d _ _ h => by cases d <;> exact h) ?_
  have gW : Below W4.heap.size W4 (W4.drewN 1) := ⟨rfl, rfl, rfl, Nat.le_refl _, fun _ _ => rfl⟩
  replace cp4 := Lib.hid (cp4.all gW)
  refine mix_cons (os := [_, _, _]) (by simp only [pickO, List.filterMap_cons, List.filterMap_nil, List.getElem?_toArray, List.getElem?_cons_succ, List.getElem?_cons_zero]; rfl) (fun Kp hKp => ?_)
  repeat (go_big_quiet_step (exact rfl))
  refine wpQuiet_nil ?_
  refine hKp _ ?_
  clear hKp
  refine loud (by rfl) (by kernel_rfl) (fun K2 hK2 => ?_)
  go_simp
  refine curpeek_calls (c) p _ ⟨_, cp4.out⟩ _ (Lib.hid fun w4 n4 => ?_)
  rw [hT]
  simp only [tkV]
  replace cp4 := Lib.hid (cp4.out.all n4)
  replace gW := gW.trans (n4.mono gW.size)
  clear n4
  refine hK2 _ _ (GW.of _ (grown_bl gW (Nat.le_refl _))) ?_
  clear hK2
  refine mix_cons (os := []) (by rfl) (fun Kp hKp => ?_)
  repeat (go_big_quiet_step (exact rfl))
  refine wpQuiet_nil ?_
  refine hKp _ ?_
  clear hKp
  refine loud (by rfl) (by kernel_rfl) (fun K4 hK4 => ?_)
  go_simp
  refine cQ.out _ (grown_tr D4.out.g (grown_bl gW (Nat.le_refl _))) _ (Lib.hid fun w5 n5 => ?_)
  have gW5 := grown_bl (row := some p) (gW.trans (n5.mono gW.size)) (Nat.le_refl _)
  have cp5 := Lib.hid (cp4.out.all n5)
  clear n5 cp4 gW
  refine hK4 _ _ (GW.of _ gW5) ?_
  clear hK4
  refine mix_cons (os := [_]) (by simp only [pickO, List.filterMap_cons, List.filterMap_nil, List.getElem?_toArray, List.getElem?_cons_succ, List.getElem?_cons_zero]; rfl) (fun Kp hKp => ?_)
  repeat (go_big_quiet_step (exact rfl))
  refine wpQuiet_nil ?_
  refine hKp _ ?_
  clear hKp
  refine loud (by rfl) (by kernel_rfl) (fun K6 hK6 => ?_)
  have D5 := (D4.out).grown gW5
  obtain ⟨u0, h0⟩ := D5.r 0 (by decide)
  obtain ⟨u1, h1⟩ := D5.r 1 (by decide)
  obtain ⟨u2, h2⟩ := D5.r 2 (by decide)
  obtain ⟨u3, h3⟩ := D5.r 3 (by decide)
  have f0 := D5.f 0
  have f1 := D5.f 1
  have f2 := D5.f 2
  have f3 := D5.f 3
  change w5.cell? ⟨w.heap.size + 1 + 1, 0, none⟩ = some u0 at h0
  change w5.cell? ⟨w.heap.size + 1 + 1, 1, none⟩ = some u1 at h1
  change w5.cell? ⟨w.heap.size + 1 + 1, 2, none⟩ = some u2 at h2
  change w5.cell? ⟨w.heap.size + 1 + 1, 3, none⟩ = some u3 at h3
  change w5.frozen? ⟨w.heap.size + 1 + 1, 0, none⟩ = false at f0
  change w5.frozen? ⟨w.heap.size + 1 + 1, 1, none⟩ = false at f1
  change w5.frozen? ⟨w.heap.size + 1 + 1, 2, none⟩ = false at f2
  change w5.frozen? ⟨w.heap.size + 1 + 1, 3, none⟩ = false at f3
  clear D5
  go_simp
  refine hK6 _ _ (GW.four (GW.of _ gW5) _ _ _ _) ?_
  clear hK6
  refine mix_nil (os := [_]) (by simp only [pickO, List.filterMap_cons, List.filterMap_nil, List.getElem?_toArray, List.getElem?_cons_succ, List.getElem?_cons_zero]; rfl) (fun Kp hKp => ?_)
  repeat (go_big_quiet_step (exact rfl))
  refine wpQuiet_nil ?_
  refine hKp _ ?_
  clear hKp
  have gF := Lib.hid (grown_four (grown_tr D4.out.g gW5) (q := w.heap.size + 1 + 1) (by omega) (.slice Av c.1.length cv) (.int .i64 (c).2.1) (.int .i64 (c).2.2.1) (.int .i64 (c).2.2.2))
  have cpF := Lib.hid (cp5.out.four (q := w.heap.size + 1 + 1) (by omega) (by omega) (.slice Av c.1.length cv) (.int .i64 (c).2.1) (.int .i64 (c).2.2.1) (.int .i64 (c).2.2.2))
  go_wp2_with fail
  refine bodyPost_ret ?_ rfl (hR.out _ _ _ hx4.out (by omega) cpF.out gF.out)
  simp [results, Tryz.results7, go_sem, h0, h1, h2, h3]
end Go.Proofs.YtmchgimbfdeaiaaGreat.Cur

/- Layer 14: does walked, a kind at a time (6): Enter. -/
set_option maxRecDepth 100000
set_option linter.unusedVariables false
namespace Go.Proofs.YtmchgimbfdeaiaaGreat.Cur
open Go.RowKit Go.Lib Go.Proofs.YtmchgimbfdeaiaaGreat.Utf Go.Proofs.YtmchgimbfdeaiaaGreat.Tok

set_option maxRecDepth 100000 in
set_option maxHeartbeats 4000000 in
theorem does8_calls (c : Cu) (v : Value) (p : Nat) (n a : Int) (x : ByteArray) (w : World) (b : Nat) (cp : CurG w p c b) (hx : RdK (cutW w p) v c.1) (hl : EndL c.1) (hll : c.1.length ≤ 1000000) (hd : 0 ≤ c.2.1 ∧ c.2.1 ≤ 24) (hz : c.2.1 < 24) (R : Ending → World → Prop)
    (hR : Hid (∀ v' w' b', RdK (cutW w p) v' (enterS c).1 → (b' = b ∨ w.heap.size ≤ b') → CurG w' p (enterS c) b' → w.grownBy w' (some p) → R (.returned (.tuple #[cuV v' (enterS c), .bool true])) w')) :
    Calls Tryz.prog 7 #[ptV p, cuV v c, .agg #[.int .i64 8, .int .i64 n, .int .i64 a, .string x]] w R := by
  have hL : enterS c = (c.1, c.2.1 + 1, c.2.2) := if_pos hz
  rw [hL] at hR
  have hdec : decide (c.2.1 < 24) = true := decide_eq_true hz
  have hpl := cp.lt
  have hbl := cp.lg
  have cP := Lib.hid fun (W : World) (g : w.grownBy W (some p)) R hR => refpeek14_calls c v W (rd_uncut hx hpl g).1 hl R hR
  have cN := Lib.hid fun (W : World) (g : w.grownBy W (some p)) R hR => refnext14x_calls c v W (cutW w p) hx (rd_uncut hx hpl g).1 hl hll R hR
  have cT := Lib.hid fun (k : Int) (x : ByteArray) (any : Bool) (W : World) (g : w.grownBy W (some p)) R hR => reftake14x_calls c v k x any W (cutW w p) hx (rd_uncut hx hpl g).1 hl hll R hR
  have cF := Lib.hid fun (e z : Int) (W : World) (g : w.grownBy W (some p)) R hR => reffail14x_calls c v e z W (cutW w p) hx (rd_uncut hx hpl g).1 R hR
  obtain ⟨Av, cv, rfl, -, -⟩ := hx.op
  obtain ⟨t, ht⟩ : ∃ t, peekS c = t := ⟨_, rfl⟩
  rw [ht] at cP
  simp only [tkV] at cP
  have hN := Lib.hid fun w3 n3 => Dz.new (w := w) (w3 := w3) (p := p) (v := .slice Av c.1.length cv) (c := c) (o := ((8, n, a, x))) (t := t) hpl n3
  have b1 := (Below.refl w.heap.size w).alloc (Nat.le_refl _) (.cells #[.slice Av c.1.length cv, .int .i64 c.2.1, .int .i64 c.2.2.1, .int .i64 c.2.2.2] 34)
  have b2 := b1.alloc b1.size (.cells #[.int .i64 8, .int .i64 n, .int .i64 a, .string x] 38)
  have b3 := Lib.hid (b2.alloc b2.size (.cells #[.slice none 0 0, .int .i64 0, .int .i64 0, .int .i64 0] 34))
  obtain ⟨q1, q2, q3⟩ := tri (w := w) (.cells #[.slice Av c.1.length cv, .int .i64 c.2.1, .int .i64 c.2.2.1, .int .i64 c.2.2.2] 34) (.cells #[.int .i64 8, .int .i64 n, .int .i64 a, .string x] 38) (.cells #[.slice none 0 0, .int .i64 0, .int .i64 0, .int .i64 0] 34)
  have j0 := (Lib.cell_of_heap q1 0).trans rfl
  have j1 := (Lib.cell_of_heap q1 1).trans rfl
  have j2 := (Lib.cell_of_heap q1 2).trans rfl
  have j3 := (Lib.cell_of_heap q1 3).trans rfl
  clear b1 b2 q1 q2 q3
  go_enter Tryz.func7, Tryz.ntmps7
  go_wp2_with fail
  clear j0 j1 j2 j3
  refine cP.out _ (grown_bl b3.out (Nat.le_refl _)) _ (Lib.hid fun w3 n3 => ?_)
  have D := hN.out w3 n3
  have nb := Lib.hid (b3.out.trans ((n3.alloc n3.size (.cells #[.int .i64 t.1, .int .i64 t.2.1, .int .i64 t.2.2.1, .string t.2.2.2.1, .int .i64 t.2.2.2.2] 40)).mono b3.out.size))
  obtain ⟨B, hB⟩ : ∃ B, w3.heap.size = B := ⟨_, rfl⟩
  obtain ⟨k0, k1, k2, k3, k4⟩ := box_five' w3 (.int .i64 t.1) (.int .i64 t.2.1) (.int .i64 t.2.2.1) (.string t.2.2.2.1) (.int .i64 t.2.2.2.2) 40
  have o0 := D.o0
  have o1 := D.o1
  have o2 := D.o2
  have o3 := D.o3
  have c0 := D.c0
  have c1 := D.c1
  have c2 := D.c2
  have c3 := D.c3
  replace D := Lib.hid D
  have hBC := Lib.hid (Dz.boxC (o := (8, n, a, x)) (x := .cells #[.int .i64 t.1, .int .i64 t.2.1, .int .i64 t.2.2.1, .string t.2.2.2.1, .int .i64 t.2.2.2.2] 40) n3)
  clear n3 hN b3 cP
  obtain ⟨hd0, hd1⟩ := id hd
  have fF := hBC.out.frozen 1
  rw [hB] at D
  replace nb := Lib.hid (cp.below hpl hbl (nb.out))
  have D4 := Lib.hid (D.out.deep hBC.out (c.2.1 + 1))
  go_wp2_with fail
  have cp4 := nb.out.set (q := w.heap.size) (o := 1) (by omega) (by omega) (.int .i64 (c.2.1 + 1))
  clear o0 o1 o2 o3 c0 c1 c2 c3 k0 k1 k2 k3 k4 fF hBC D nb
  generalize (w3.alloc (.cells #[.int .i64 t.1, .int .i64 t.2.1, .int .i64 t.2.2.1, .string t.2.2.2.1, .int .i64 t.2.2.2.2] 40)).setCell ⟨w.heap.size, 1, none⟩ (.int .i64 (c.2.1 + 1)) = W4 at *
  clear hB
  have hlt := D4.out.l8
  have hHB := D4.out.b8
  have k0 := fun y : GW W4 p (w.heap.size + 1 + 1) => y.cell (by omega) (by omega) (by omega) D4.out.c0
  have k1 := fun y : GW W4 p (w.heap.size + 1 + 1) => y.cell (by omega) (by omega) (by omega) D4.out.c1
  have k2 := fun y : GW W4 p (w.heap.size + 1 + 1) => y.cell (by omega) (by omega) (by omega) D4.out.c2
  have k3 := fun y : GW W4 p (w.heap.size + 1 + 1) => y.cell (by omega) (by omega) (by omega) D4.out.c3
  have rdF := Lib.hid hx
  refine wp_region_mixG p (w.heap.size + 1 + 1) [([0, 1, 3], 2), ([4], 5)] [6] (by kernel_rfl) (by kernel_rfl) (by kernel_rfl) (by kernel_rfl) (fun _ _ d _ _ h => by cases d <;> exact h) ?_
  have gW : Below W4.heap.size W4 (W4.drewN 1) := ⟨rfl, rfl, rfl, Nat.le_refl _, fun _ _ => rfl⟩
  replace cp4 := Lib.hid (cp4.all gW)
  refine mix_cons (os := [_, _, _]) (by simp only [pickO, List.filterMap_cons, List.filterMap_nil, List.getElem?_toArray, List.getElem?_cons_succ, List.getElem?_cons_zero]; rfl) (fun Kp hKp => ?_)
  repeat (go_big_quiet_step (exact rfl))
  refine wpQuiet_nil ?_
  refine hKp _ ?_
  clear hKp
  refine loud (by rfl) (by kernel_rfl) (fun K2 hK2 => ?_)
  go_simp
  refine cqenter_calls c p b _ cp4.out hd _ (Lib.hid fun w5 b5 hb5 cp5 g5 => ?_)
  have hb6 : b5 = b ∨ w.heap.size + 2 < b5 := hb5.imp id (fun q => Nat.lt_of_lt_of_le (Nat.lt_trans D4.out.b8 D4.out.l8) q)
  clear hb5
  rw [hL] at cp5
  rw [hdec]
  replace cp5 := Lib.hid cp5
  have gW5 := grown_tr (grown_bl (row := some p) gW (Nat.le_refl _)) g5
  clear g5 cp4 gW
  refine hK2 _ _ (GW.of _ gW5) ?_
  clear hK2
  refine mix_cons (os := [_]) (by simp only [pickO, List.filterMap_cons, List.filterMap_nil, List.getElem?_toArray, List.getElem?_cons_succ, List.getElem?_cons_zero]; rfl) (fun Kp hKp => ?_)
  repeat (go_big_quiet_step (exact rfl))
  refine wpQuiet_nil ?_
  refine hKp _ ?_
  clear hKp
  refine loud (by rfl) (by kernel_rfl) (fun K6 hK6 => ?_)
  have D5 := (D4.out).grown gW5
  obtain ⟨u0, h0⟩ := D5.r 0 (by decide)
  obtain ⟨u1, h1⟩ := D5.r 1 (by decide)
  obtain ⟨u2, h2⟩ := D5.r 2 (by decide)
  obtain ⟨u3, h3⟩ := D5.r 3 (by decide)
  have f0 := D5.f 0
  have f1 := D5.f 1
  have f2 := D5.f 2
  have f3 := D5.f 3
  change w5.cell? ⟨w.heap.size + 1 + 1, 0, none⟩ = some u0 at h0
  change w5.cell? ⟨w.heap.size + 1 + 1, 1, none⟩ = some u1 at h1
  change w5.cell? ⟨w.heap.size + 1 + 1, 2, none⟩ = some u2 at h2
  change w5.cell? ⟨w.heap.size + 1 + 1, 3, none⟩ = some u3 at h3
  change w5.frozen? ⟨w.heap.size + 1 + 1, 0, none⟩ = false at f0
  change w5.frozen? ⟨w.heap.size + 1 + 1, 1, none⟩ = false at f1
  change w5.frozen? ⟨w.heap.size + 1 + 1, 2, none⟩ = false at f2
  change w5.frozen? ⟨w.heap.size + 1 + 1, 3, none⟩ = false at f3
  clear D5
  go_simp
  refine hK6 _ _ (GW.four (GW.of _ gW5) _ _ _ _) ?_
  clear hK6
  refine mix_nil (os := [_]) (by simp only [pickO, List.filterMap_cons, List.filterMap_nil, List.getElem?_toArray, List.getElem?_cons_succ, List.getElem?_cons_zero]; rfl) (fun Kp hKp => ?_)
  repeat (go_big_quiet_step (exact rfl))
  refine wpQuiet_nil ?_
  refine hKp _ ?_
  clear hKp
  have gF := Lib.hid (grown_four (grown_tr D4.out.g gW5) (q := w.heap.size + 1 + 1) (by omega) (.slice Av c.1.length cv) (.int .i64 ((c.1, c.2.1 + 1, c.2.2)).2.1) (.int .i64 ((c.1, c.2.1 + 1, c.2.2)).2.2.1) (.int .i64 ((c.1, c.2.1 + 1, c.2.2)).2.2.2))
  have cpF := Lib.hid (cp5.out.four (q := w.heap.size + 1 + 1) (by omega) (by omega) (.slice Av c.1.length cv) (.int .i64 ((c.1, c.2.1 + 1, c.2.2)).2.1) (.int .i64 ((c.1, c.2.1 + 1, c.2.2)).2.2.1) (.int .i64 ((c.1, c.2.1 + 1, c.2.2)).2.2.2))
  go_wp2_with fail
  refine bodyPost_ret ?_ rfl (hR.out _ _ _ rdF.out (by omega) cpF.out gF.out)
  simp [results, Tryz.results7, go_sem, h0, h1, h2, h3]
set_option maxRecDepth 100000 in
set_option maxHeartbeats 4000000 in
theorem does8n_calls (c : Cu) (v : Value) (p : Nat) (n a : Int) (x : ByteArray) (w : World) (b : Nat) (cp : CurG w p c b) (hx : RdK (cutW w p) v c.1) (hl : EndL c.1) (hll : c.1.length ≤ 1000000) (hd : 0 ≤ c.2.1 ∧ c.2.1 ≤ 24) (hz : ¬ c.2.1 < 24) (R : Ending → World → Prop)
    (hR : Hid (∀ v' w' b', RdK (cutW w p) v' (enterS c).1 → (b' = b ∨ w.heap.size ≤ b') → CurG w' p (enterS c) b' → w.grownBy w' (some p) → R (.returned (.tuple #[cuV v' (enterS c), .bool true])) w')) :
    Calls Tryz.prog 7 #[ptV p, cuV v c, .agg #[.int .i64 8, .int .i64 n, .int .i64 a, .string x]] w R := by
  have hL : enterS c = failS c 6 (peekS c).2.1 := if_neg hz
  rw [hL] at hR
  have hdec : decide (c.2.1 < 24) = false := decide_eq_false hz
  have hpl := cp.lt
  have hbl := cp.lg
  have cP := Lib.hid fun (W : World) (g : w.grownBy W (some p)) R hR => refpeek14_calls c v W (rd_uncut hx hpl g).1 hl R hR
  have cN := Lib.hid fun (W : World) (g : w.grownBy W (some p)) R hR => refnext14x_calls c v W (cutW w p) hx (rd_uncut hx hpl g).1 hl hll R hR
  have cT := Lib.hid fun (k : Int) (x : ByteArray) (any : Bool) (W : World) (g : w.grownBy W (some p)) R hR => reftake14x_calls c v k x any W (cutW w p) hx (rd_uncut hx hpl g).1 hl hll R hR
  have cF := Lib.hid fun (e z : Int) (W : World) (g : w.grownBy W (some p)) R hR => reffail14x_calls c v e z W (cutW w p) hx (rd_uncut hx hpl g).1 R hR
  obtain ⟨Av, cv, rfl, -, -⟩ := hx.op
  obtain ⟨t, ht⟩ : ∃ t, peekS c = t := ⟨_, rfl⟩
  rw [ht] at cP
  simp only [tkV] at cP
  have hN := Lib.hid fun w3 n3 => Dz.new (w := w) (w3 := w3) (p := p) (v := .slice Av c.1.length cv) (c := c) (o := ((8, n, a, x))) (t := t) hpl n3
  have b1 := (Below.refl w.heap.size w).alloc (Nat.le_refl _) (.cells #[.slice Av c.1.length cv, .int .i64 c.2.1, .int .i64 c.2.2.1, .int .i64 c.2.2.2] 34)
  have b2 := b1.alloc b1.size (.cells #[.int .i64 8, .int .i64 n, .int .i64 a, .string x] 38)
  have b3 := Lib.hid (b2.alloc b2.size (.cells #[.slice none 0 0, .int .i64 0, .int .i64 0, .int .i64 0] 34))
  obtain ⟨q1, q2, q3⟩ := tri (w := w) (.cells #[.slice Av c.1.length cv, .int .i64 c.2.1, .int .i64 c.2.2.1, .int .i64 c.2.2.2] 34) (.cells #[.int .i64 8, .int .i64 n, .int .i64 a, .string x] 38) (.cells #[.slice none 0 0, .int .i64 0, .int .i64 0, .int .i64 0] 34)
  have j0 := (Lib.cell_of_heap q1 0).trans rfl
  have j1 := (Lib.cell_of_heap q1 1).trans rfl
  have j2 := (Lib.cell_of_heap q1 2).trans rfl
  have j3 := (Lib.cell_of_heap q1 3).trans rfl
  clear b1 b2 q1 q2 q3
  go_enter Tryz.func7, Tryz.ntmps7
  go_wp2_with fail
  clear j0 j1 j2 j3
  refine cP.out _ (grown_bl b3.out (Nat.le_refl _)) _ (Lib.hid fun w3 n3 => ?_)
  have D := hN.out w3 n3
  have nb := Lib.hid (b3.out.trans ((n3.alloc n3.size (.cells #[.int .i64 t.1, .int .i64 t.2.1, .int .i64 t.2.2.1, .string t.2.2.2.1, .int .i64 t.2.2.2.2] 40)).mono b3.out.size))
  obtain ⟨B, hB⟩ : ∃ B, w3.heap.size = B := ⟨_, rfl⟩
  obtain ⟨k0, k1, k2, k3, k4⟩ := box_five' w3 (.int .i64 t.1) (.int .i64 t.2.1) (.int .i64 t.2.2.1) (.string t.2.2.2.1) (.int .i64 t.2.2.2.2) 40
  have o0 := D.o0
  have o1 := D.o1
  have o2 := D.o2
  have o3 := D.o3
  have c0 := D.c0
  have c1 := D.c1
  have c2 := D.c2
  have c3 := D.c3
  replace D := Lib.hid D
  have hBC := Lib.hid (Dz.boxC (o := (8, n, a, x)) (x := .cells #[.int .i64 t.1, .int .i64 t.2.1, .int .i64 t.2.2.1, .string t.2.2.2.1, .int .i64 t.2.2.2.2] 40) n3)
  clear n3 hN b3 cP
  go_wp2_with fail
  generalize w3.alloc (.cells #[.int .i64 t.1, .int .i64 t.2.1, .int .i64 t.2.2.1, .string t.2.2.2.1, .int .i64 t.2.2.2.2] 40) = W at *
  rw [hB] at D
  clear hB o0 o1 o2 o3 c0 c1 c2 c3 k0 k1 k2 k3 k4
  rw [ht] at hR
  refine cF.out 6 t.2.1 W D.out.g _ (Lib.hid fun v5 w5 r5 n5 => ?_)
  have hlt0 := D.out.l8
  have hHB0 := D.out.b8
  obtain ⟨A4, e4, rfl, -, -⟩ := r5.op
  have D5 := D.out.below n5
  have hB5 := hBC.out.below n5 (by omega)
  have c0 := D5.c0
  have c1 := D5.c1
  have c2 := D5.c2
  have c3 := D5.c3
  have f0 := hB5.frozen 0
  have f1 := hB5.frozen 1
  have f2 := hB5.frozen 2
  have f3 := hB5.frozen 3
  have cp4 := Lib.hid (((cp.below hpl hbl (nb.out)).all n5).four (q := w.heap.size) (by omega) (by omega) (.slice A4 (failS c 6 t.2.1).1.length e4) (.int .i64 (failS c 6 t.2.1).2.1) (.int .i64 (failS c 6 t.2.1).2.2.1) (.int .i64 (failS c 6 t.2.1).2.2.2))
  have D4 := Lib.hid (D5.whole hB5 (.slice A4 (failS c 6 t.2.1).1.length e4) (failS c 6 t.2.1))
  replace r5 := Lib.hid r5
  clear n5 D5 hB5 D hBC nb
  go_wp2_with fail
  clear c0 c1 c2 c3 f0 f1 f2 f3
  generalize (((w5.setCell ⟨w.heap.size, 0, none⟩ _).setCell ⟨w.heap.size, 1, none⟩ _).setCell ⟨w.heap.size, 2, none⟩ _).setCell ⟨w.heap.size, 3, none⟩ _ = W4 at *
  replace cp4 := cp4.out
  have hlt := D4.out.l8
  have hHB := D4.out.b8
  have k0 := fun y : GW W4 p (w.heap.size + 1 + 1) => y.cell (by omega) (by omega) (by omega) D4.out.c0
  have k1 := fun y : GW W4 p (w.heap.size + 1 + 1) => y.cell (by omega) (by omega) (by omega) D4.out.c1
  have k2 := fun y : GW W4 p (w.heap.size + 1 + 1) => y.cell (by omega) (by omega) (by omega) D4.out.c2
  have k3 := fun y : GW W4 p (w.heap.size + 1 + 1) => y.cell (by omega) (by omega) (by omega) D4.out.c3
  have rdF := Lib.hid r5.out
  refine wp_region_mixG p (w.heap.size + 1 + 1) [([0, 1, 3], 2), ([4], 5)] [6] (by kernel_rfl) (by kernel_rfl) (by kernel_rfl) (by kernel_rfl) (fun _ _ d _ _ h => by cases d <;> exact h) ?_
  have gW : Below W4.heap.size W4 (W4.drewN 1) := ⟨rfl, rfl, rfl, Nat.le_refl _, fun _ _ => rfl⟩
  replace cp4 := Lib.hid (cp4.all gW)
  refine mix_cons (os := [_, _, _]) (by simp only [pickO, List.filterMap_cons, List.filterMap_nil, List.getElem?_toArray, List.getElem?_cons_succ, List.getElem?_cons_zero]; rfl) (fun Kp hKp => ?_)
  repeat (go_big_quiet_step (exact rfl))
  refine wpQuiet_nil ?_
  refine hKp _ ?_
  clear hKp
  refine loud (by rfl) (by kernel_rfl) (fun K2 hK2 => ?_)
  go_simp
  refine cqenter_calls c p b _ cp4.out hd _ (Lib.hid fun w5 b5 hb5 cp5 g5 => ?_)
  have hb6 : b5 = b ∨ w.heap.size + 2 < b5 := hb5.imp id (fun q => Nat.lt_of_lt_of_le (Nat.lt_trans D4.out.b8 D4.out.l8) q)
  clear hb5
  rw [hL, ht] at cp5
  rw [hdec]
  replace cp5 := Lib.hid cp5
  have gW5 := grown_tr (grown_bl (row := some p) gW (Nat.le_refl _)) g5
  clear g5 cp4 gW
  refine hK2 _ _ (GW.of _ gW5) ?_
  clear hK2
  refine mix_cons (os := [_]) (by simp only [pickO, List.filterMap_cons, List.filterMap_nil, List.getElem?_toArray, List.getElem?_cons_succ, List.getElem?_cons_zero]; rfl) (fun Kp hKp => ?_)
  repeat (go_big_quiet_step (exact rfl))
  refine wpQuiet_nil ?_
  refine hKp _ ?_
  clear hKp
  refine loud (by rfl) (by kernel_rfl) (fun K6 hK6 => ?_)
  have D5 := (D4.out).grown gW5
  obtain ⟨u0, h0⟩ := D5.r 0 (by decide)
  obtain ⟨u1, h1⟩ := D5.r 1 (by decide)
  obtain ⟨u2, h2⟩ := D5.r 2 (by decide)
  obtain ⟨u3, h3⟩ := D5.r 3 (by decide)
  have f0 := D5.f 0
  have f1 := D5.f 1
  have f2 := D5.f 2
  have f3 := D5.f 3
  change w5.cell? ⟨w.heap.size + 1 + 1, 0, none⟩ = some u0 at h0
  change w5.cell? ⟨w.heap.size + 1 + 1, 1, none⟩ = some u1 at h1
  change w5.cell? ⟨w.heap.size + 1 + 1, 2, none⟩ = some u2 at h2
  change w5.cell? ⟨w.heap.size + 1 + 1, 3, none⟩ = some u3 at h3
  change w5.frozen? ⟨w.heap.size + 1 + 1, 0, none⟩ = false at f0
  change w5.frozen? ⟨w.heap.size + 1 + 1, 1, none⟩ = false at f1
  change w5.frozen? ⟨w.heap.size + 1 + 1, 2, none⟩ = false at f2
  change w5.frozen? ⟨w.heap.size + 1 + 1, 3, none⟩ = false at f3
  clear D5
  go_simp
  refine hK6 _ _ (GW.four (GW.of _ gW5) _ _ _ _) ?_
  clear hK6
  refine mix_nil (os := [_]) (by simp only [pickO, List.filterMap_cons, List.filterMap_nil, List.getElem?_toArray, List.getElem?_cons_succ, List.getElem?_cons_zero]; rfl) (fun Kp hKp => ?_)
  repeat (go_big_quiet_step (exact rfl))
  refine wpQuiet_nil ?_
  refine hKp _ ?_
  clear hKp
  have gF := Lib.hid (grown_four (grown_tr D4.out.g gW5) (q := w.heap.size + 1 + 1) (by omega) (.slice A4 (failS c 6 t.2.1).1.length e4) (.int .i64 (failS c 6 t.2.1).2.1) (.int .i64 (failS c 6 t.2.1).2.2.1) (.int .i64 (failS c 6 t.2.1).2.2.2))
  have cpF := Lib.hid (cp5.out.four (q := w.heap.size + 1 + 1) (by omega) (by omega) (.slice A4 (failS c 6 t.2.1).1.length e4) (.int .i64 (failS c 6 t.2.1).2.1) (.int .i64 (failS c 6 t.2.1).2.2.1) (.int .i64 (failS c 6 t.2.1).2.2.2))
  go_wp2_with fail
  refine bodyPost_ret ?_ rfl (hR.out _ _ _ rdF.out (by omega) cpF.out gF.out)
  simp [results, Tryz.results7, go_sem, h0, h1, h2, h3]
end Go.Proofs.YtmchgimbfdeaiaaGreat.Cur

/- Layer 14: does walked, a kind at a time (7): Need. -/
set_option maxRecDepth 100000
set_option linter.unusedVariables false
namespace Go.Proofs.YtmchgimbfdeaiaaGreat.Cur
open Go.RowKit Go.Lib Go.Proofs.YtmchgimbfdeaiaaGreat.Utf Go.Proofs.YtmchgimbfdeaiaaGreat.Tok

set_option maxRecDepth 100000 in
set_option maxHeartbeats 4000000 in
theorem does5_calls (c : Cu) (v : Value) (p : Nat) (n a : Int) (x : ByteArray) (w : World) (b : Nat) (cp : CurG w p c b) (hx : RdK (cutW w p) v c.1) (hl : EndL c.1) (hll : c.1.length ≤ 1000000) (hd : 0 ≤ c.2.1 ∧ c.2.1 ≤ 24) (hh : hasS c 4 x false = true) (R : Ending → World → Prop)
    (hR : Hid (∀ v' w' b', RdK (cutW w p) v' (needS c x).1 → (b' = b ∨ w.heap.size ≤ b') → CurG w' p (needS c x) b' → w.grownBy w' (some p) → R (.returned (.tuple #[cuV v' (needS c x), .bool true])) w')) :
    Calls Tryz.prog 7 #[ptV p, cuV v c, .agg #[.int .i64 5, .int .i64 n, .int .i64 a, .string x]] w R := by
  have hL : needS c x = nextS c := if_pos hh
  rw [hL] at hR
  have hT : takeS c 4 x false = nextS c := if_pos hh
  have hpl := cp.lt
  have hbl := cp.lg
  have cP := Lib.hid fun (W : World) (g : w.grownBy W (some p)) R hR => refpeek14_calls c v W (rd_uncut hx hpl g).1 hl R hR
  have cN := Lib.hid fun (W : World) (g : w.grownBy W (some p)) R hR => refnext14x_calls c v W (cutW w p) hx (rd_uncut hx hpl g).1 hl hll R hR
  have cT := Lib.hid fun (k : Int) (x : ByteArray) (any : Bool) (W : World) (g : w.grownBy W (some p)) R hR => reftake14x_calls c v k x any W (cutW w p) hx (rd_uncut hx hpl g).1 hl hll R hR
  have cF := Lib.hid fun (e z : Int) (W : World) (g : w.grownBy W (some p)) R hR => reffail14x_calls c v e z W (cutW w p) hx (rd_uncut hx hpl g).1 R hR
  obtain ⟨Av, cv, rfl, -, -⟩ := hx.op
  obtain ⟨t, ht⟩ : ∃ t, peekS c = t := ⟨_, rfl⟩
  rw [ht] at cP
  simp only [tkV] at cP
  have hN := Lib.hid fun w3 n3 => Dz.new (w := w) (w3 := w3) (p := p) (v := .slice Av c.1.length cv) (c := c) (o := ((5, n, a, x))) (t := t) hpl n3
  have b1 := (Below.refl w.heap.size w).alloc (Nat.le_refl _) (.cells #[.slice Av c.1.length cv, .int .i64 c.2.1, .int .i64 c.2.2.1, .int .i64 c.2.2.2] 34)
  have b2 := b1.alloc b1.size (.cells #[.int .i64 5, .int .i64 n, .int .i64 a, .string x] 38)
  have b3 := Lib.hid (b2.alloc b2.size (.cells #[.slice none 0 0, .int .i64 0, .int .i64 0, .int .i64 0] 34))
  obtain ⟨q1, q2, q3⟩ := tri (w := w) (.cells #[.slice Av c.1.length cv, .int .i64 c.2.1, .int .i64 c.2.2.1, .int .i64 c.2.2.2] 34) (.cells #[.int .i64 5, .int .i64 n, .int .i64 a, .string x] 38) (.cells #[.slice none 0 0, .int .i64 0, .int .i64 0, .int .i64 0] 34)
  have j0 := (Lib.cell_of_heap q1 0).trans rfl
  have j1 := (Lib.cell_of_heap q1 1).trans rfl
  have j2 := (Lib.cell_of_heap q1 2).trans rfl
  have j3 := (Lib.cell_of_heap q1 3).trans rfl
  clear b1 b2 q1 q2 q3
  go_enter Tryz.func7, Tryz.ntmps7
  go_wp2_with fail
  clear j0 j1 j2 j3
  refine cP.out _ (grown_bl b3.out (Nat.le_refl _)) _ (Lib.hid fun w3 n3 => ?_)
  have D := hN.out w3 n3
  have nb := Lib.hid (b3.out.trans ((n3.alloc n3.size (.cells #[.int .i64 t.1, .int .i64 t.2.1, .int .i64 t.2.2.1, .string t.2.2.2.1, .int .i64 t.2.2.2.2] 40)).mono b3.out.size))
  obtain ⟨B, hB⟩ : ∃ B, w3.heap.size = B := ⟨_, rfl⟩
  obtain ⟨k0, k1, k2, k3, k4⟩ := box_five' w3 (.int .i64 t.1) (.int .i64 t.2.1) (.int .i64 t.2.2.1) (.string t.2.2.2.1) (.int .i64 t.2.2.2.2) 40
  have o0 := D.o0
  have o1 := D.o1
  have o2 := D.o2
  have o3 := D.o3
  have c0 := D.c0
  have c1 := D.c1
  have c2 := D.c2
  have c3 := D.c3
  replace D := Lib.hid D
  clear n3 hN b3 cP
  go_wp2_with fail
  generalize w3.alloc (.cells #[.int .i64 t.1, .int .i64 t.2.1, .int .i64 t.2.2.1, .string t.2.2.2.1, .int .i64 t.2.2.2.2] 40) = W at *
  rw [hB] at D
  clear hB o0 o1 o2 o3 c0 c1 c2 c3 k0 k1 k2 k3 k4
  refine cT.out 4 x false W D.out.g _ (Lib.hid fun v4 w4 r4 n4 => ?_)
  rw [hT] at r4 ⊢
  rw [hh]
  obtain ⟨A4, e4, rfl, -, -⟩ := r4.op
  obtain ⟨k0, k1, k2, k3⟩ := box_four w4 (.slice A4 (nextS c).1.length e4) (.int .i64 (nextS c).2.1) (.int .i64 (nextS c).2.2.1) (.int .i64 (nextS c).2.2.2) 34
  have n4' := n4.alloc n4.size (.cells #[.slice A4 (nextS c).1.length e4, .int .i64 (nextS c).2.1, .int .i64 (nextS c).2.2.1, .int .i64 (nextS c).2.2.2] 34)
  have D4 := Lib.hid (D.out.below n4')
  have cp4 := cp.below hpl hbl ((nb.out.trans (n4'.mono nb.out.size)))
  have hlt := D4.out.l8
  have hHB := D4.out.b8
  have hWB := D.out.l8
  have hB4 := n4.size
  have hl4 : w4.heap.size < (w4.alloc (.cells #[.slice A4 (nextS c).1.length e4, .int .i64 (nextS c).2.1, .int .i64 (nextS c).2.2.1, .int .i64 (nextS c).2.2.2] 34)).heap.size := by simp
  replace r4 := Lib.hid r4
  clear n4 n4' nb D
  go_wp2_with fail
  generalize w4.alloc (.cells #[.slice A4 (nextS c).1.length e4, .int .i64 (nextS c).2.1, .int .i64 (nextS c).2.2.1, .int .i64 (nextS c).2.2.2] 34) = W4 at *
  generalize hE : w4.heap.size = E4 at *
  replace k0 := fun y : GW W4 p (w.heap.size + 1 + 1) => y.cell (by omega) (by omega) (by omega) k0
  replace k1 := fun y : GW W4 p (w.heap.size + 1 + 1) => y.cell (by omega) (by omega) (by omega) k1
  replace k2 := fun y : GW W4 p (w.heap.size + 1 + 1) => y.cell (by omega) (by omega) (by omega) k2
  replace k3 := fun y : GW W4 p (w.heap.size + 1 + 1) => y.cell (by omega) (by omega) (by omega) k3
  have m3 : ∀ y : GW W4 p (w.heap.size + 1 + 1), y.w.cell? ⟨w.heap.size + 1, 3, none⟩ = some (.string x) := fun y => y.cell (by omega) (by omega) (by omega) D4.out.o3
  refine wp_region_mixG p (w.heap.size + 1 + 1) [([0, 1, 2, 3, 5], 4), ([6], 7)] [8] (by kernel_rfl) (by kernel_rfl) (by kernel_rfl) (by kernel_rfl) (fun _ _ d _ _ h => by cases d <;> exact h) ?_
  have gW : Below W4.heap.size W4 (W4.drewN 1) := ⟨rfl, rfl, rfl, Nat.le_refl _, fun _ _ => rfl⟩
  replace cp4 := Lib.hid (cp4.all gW)
  refine mix_cons (os := [_, _, _, _, _]) (by simp only [pickO, List.filterMap_cons, List.filterMap_nil, List.getElem?_toArray, List.getElem?_cons_succ, List.getElem?_cons_zero]; rfl) (fun Kp hKp => ?_)
  repeat (go_big_quiet_step (exact rfl))
  refine wpQuiet_nil ?_
  refine hKp _ ?_
  clear hKp
  refine loud (by rfl) (by kernel_rfl) (fun K3 hK3 => ?_)
  go_simp
  refine cqneed_calls c p b x _ cp4.out _ (Lib.hid fun w5 b5 hb5 cp5 g5 => ?_)
  have hb6 : b5 = b ∨ w.heap.size + 2 < b5 := hb5.imp id (fun q => Nat.lt_of_lt_of_le (Nat.lt_trans D4.out.b8 D4.out.l8) q)
  clear hb5
  rw [hL] at cp5
  rw [hh]
  have gW5 := grown_tr (grown_bl gW (Nat.le_refl _)) g5
  replace cp5 := Lib.hid cp5
  clear cp4 g5 gW
  refine hK3 _ _ (GW.of _ gW5) ?_
  clear hK3
  refine mix_cons (os := [_]) (by simp only [pickO, List.filterMap_cons, List.filterMap_nil, List.getElem?_toArray, List.getElem?_cons_succ, List.getElem?_cons_zero]; rfl) (fun Kp hKp => ?_)
  repeat (go_big_quiet_step (exact rfl))
  refine wpQuiet_nil ?_
  refine hKp _ ?_
  clear hKp
  refine loud (by rfl) (by kernel_rfl) (fun K6 hK6 => ?_)
  have D5 := (D4.out).grown gW5
  obtain ⟨u0, h0⟩ := D5.r 0 (by decide)
  obtain ⟨u1, h1⟩ := D5.r 1 (by decide)
  obtain ⟨u2, h2⟩ := D5.r 2 (by decide)
  obtain ⟨u3, h3⟩ := D5.r 3 (by decide)
  have f0 := D5.f 0
  have f1 := D5.f 1
  have f2 := D5.f 2
  have f3 := D5.f 3
  change w5.cell? ⟨w.heap.size + 1 + 1, 0, none⟩ = some u0 at h0
  change w5.cell? ⟨w.heap.size + 1 + 1, 1, none⟩ = some u1 at h1
  change w5.cell? ⟨w.heap.size + 1 + 1, 2, none⟩ = some u2 at h2
  change w5.cell? ⟨w.heap.size + 1 + 1, 3, none⟩ = some u3 at h3
  change w5.frozen? ⟨w.heap.size + 1 + 1, 0, none⟩ = false at f0
  change w5.frozen? ⟨w.heap.size + 1 + 1, 1, none⟩ = false at f1
  change w5.frozen? ⟨w.heap.size + 1 + 1, 2, none⟩ = false at f2
  change w5.frozen? ⟨w.heap.size + 1 + 1, 3, none⟩ = false at f3
  clear D5
  go_simp
  refine hK6 _ _ (GW.four (GW.of _ gW5) _ _ _ _) ?_
  clear hK6
  refine mix_nil (os := [_]) (by simp only [pickO, List.filterMap_cons, List.filterMap_nil, List.getElem?_toArray, List.getElem?_cons_succ, List.getElem?_cons_zero]; rfl) (fun Kp hKp => ?_)
  repeat (go_big_quiet_step (exact rfl))
  refine wpQuiet_nil ?_
  refine hKp _ ?_
  clear hKp
  have gF := Lib.hid (grown_four (grown_tr D4.out.g gW5) (q := w.heap.size + 1 + 1) (by omega) (.slice A4 (nextS c).1.length e4) (.int .i64 (nextS c).2.1) (.int .i64 (nextS c).2.2.1) (.int .i64 (nextS c).2.2.2))
  have cpF := Lib.hid (cp5.out.four (q := w.heap.size + 1 + 1) (by omega) (by omega) (.slice A4 (nextS c).1.length e4) (.int .i64 (nextS c).2.1) (.int .i64 (nextS c).2.2.1) (.int .i64 (nextS c).2.2.2))
  go_wp2_with fail
  refine bodyPost_ret ?_ rfl (hR.out _ _ _ r4.out (by omega) cpF.out gF.out)
  simp [results, Tryz.results7, go_sem, h0, h1, h2, h3]
end Go.Proofs.YtmchgimbfdeaiaaGreat.Cur

/- Layer 14: does walked, a kind at a time (8): Need that fails. -/
set_option maxRecDepth 100000
set_option linter.unusedVariables false
namespace Go.Proofs.YtmchgimbfdeaiaaGreat.Cur
open Go.RowKit Go.Lib Go.Proofs.YtmchgimbfdeaiaaGreat.Utf Go.Proofs.YtmchgimbfdeaiaaGreat.Tok

set_option maxRecDepth 100000 in
set_option maxHeartbeats 4000000 in
theorem does5z_calls (c : Cu) (v : Value) (p : Nat) (n a : Int) (x : ByteArray) (w : World) (b : Nat) (cp : CurG w p c b) (hx : RdK (cutW w p) v c.1) (hl : EndL c.1) (hll : c.1.length ≤ 1000000) (hd : 0 ≤ c.2.1 ∧ c.2.1 ≤ 24) (hh : hasS c 4 x false = false) (hz : (peekS c).1 = 0) (R : Ending → World → Prop)
    (hR : Hid (∀ v' w' b', RdK (cutW w p) v' (needS c x).1 → (b' = b ∨ w.heap.size ≤ b') → CurG w' p (needS c x) b' → w.grownBy w' (some p) → R (.returned (.tuple #[cuV v' (needS c x), .bool true])) w')) :
    Calls Tryz.prog 7 #[ptV p, cuV v c, .agg #[.int .i64 5, .int .i64 n, .int .i64 a, .string x]] w R := by
  have hT : takeS c 4 x false = c := if_neg (by rw [hh]; decide)
  have hL : needS c x = failS c 5 (peekS c).2.1 := by unfold needS; rw [if_neg (by rw [hh]; decide), if_pos hz]
  have hpl := cp.lt
  have hbl := cp.lg
  have cP := Lib.hid fun (W : World) (g : w.grownBy W (some p)) R hR => refpeek14_calls c v W (rd_uncut hx hpl g).1 hl R hR
  have cN := Lib.hid fun (W : World) (g : w.grownBy W (some p)) R hR => refnext14x_calls c v W (cutW w p) hx (rd_uncut hx hpl g).1 hl hll R hR
  have cT := Lib.hid fun (k : Int) (x : ByteArray) (any : Bool) (W : World) (g : w.grownBy W (some p)) R hR => reftake14x_calls c v k x any W (cutW w p) hx (rd_uncut hx hpl g).1 hl hll R hR
  have cF := Lib.hid fun (e z : Int) (W : World) (g : w.grownBy W (some p)) R hR => reffail14x_calls c v e z W (cutW w p) hx (rd_uncut hx hpl g).1 R hR
  obtain ⟨Av, cv, rfl, -, -⟩ := hx.op
  obtain ⟨t, ht⟩ : ∃ t, peekS c = t := ⟨_, rfl⟩
  rw [ht] at cP
  simp only [tkV] at cP
  have hN := Lib.hid fun w3 n3 => Dz.new (w := w) (w3 := w3) (p := p) (v := .slice Av c.1.length cv) (c := c) (o := ((5, n, a, x))) (t := t) hpl n3
  have b1 := (Below.refl w.heap.size w).alloc (Nat.le_refl _) (.cells #[.slice Av c.1.length cv, .int .i64 c.2.1, .int .i64 c.2.2.1, .int .i64 c.2.2.2] 34)
  have b2 := b1.alloc b1.size (.cells #[.int .i64 5, .int .i64 n, .int .i64 a, .string x] 38)
  have b3 := Lib.hid (b2.alloc b2.size (.cells #[.slice none 0 0, .int .i64 0, .int .i64 0, .int .i64 0] 34))
  obtain ⟨q1, q2, q3⟩ := tri (w := w) (.cells #[.slice Av c.1.length cv, .int .i64 c.2.1, .int .i64 c.2.2.1, .int .i64 c.2.2.2] 34) (.cells #[.int .i64 5, .int .i64 n, .int .i64 a, .string x] 38) (.cells #[.slice none 0 0, .int .i64 0, .int .i64 0, .int .i64 0] 34)
  have j0 := (Lib.cell_of_heap q1 0).trans rfl
  have j1 := (Lib.cell_of_heap q1 1).trans rfl
  have j2 := (Lib.cell_of_heap q1 2).trans rfl
  have j3 := (Lib.cell_of_heap q1 3).trans rfl
  clear b1 b2 q1 q2 q3
  go_enter Tryz.func7, Tryz.ntmps7
  go_wp2_with fail
  clear j0 j1 j2 j3
  refine cP.out _ (grown_bl b3.out (Nat.le_refl _)) _ (Lib.hid fun w3 n3 => ?_)
  have D := hN.out w3 n3
  have nb := Lib.hid (b3.out.trans ((n3.alloc n3.size (.cells #[.int .i64 t.1, .int .i64 t.2.1, .int .i64 t.2.2.1, .string t.2.2.2.1, .int .i64 t.2.2.2.2] 40)).mono b3.out.size))
  obtain ⟨B, hB⟩ : ∃ B, w3.heap.size = B := ⟨_, rfl⟩
  obtain ⟨k0, k1, k2, k3, k4⟩ := box_five' w3 (.int .i64 t.1) (.int .i64 t.2.1) (.int .i64 t.2.2.1) (.string t.2.2.2.1) (.int .i64 t.2.2.2.2) 40
  have o0 := D.o0
  have o1 := D.o1
  have o2 := D.o2
  have o3 := D.o3
  have c0 := D.c0
  have c1 := D.c1
  have c2 := D.c2
  have c3 := D.c3
  replace D := Lib.hid D
  clear n3 hN b3 cP
  go_wp2_with fail
  generalize w3.alloc (.cells #[.int .i64 t.1, .int .i64 t.2.1, .int .i64 t.2.2.1, .string t.2.2.2.1, .int .i64 t.2.2.2.2] 40) = W at *
  rw [hB] at D
  clear hB o0 o1 o2 o3 c0 c1 c2 c3 k0 k1 k2 k3 k4
  rw [ht] at hz hL
  rw [hL] at hR
  have z1 : decide (t.1 = 0) = true := by simpa using hz
  have z2 : (t.1 == 0) = true := by simpa using hz
  have z3 : (t.1 != 0) = false := by simpa using hz
  refine cT.out 4 x false W D.out.g _ (Lib.hid fun v4 w4 r4 n4 => ?_)
  rw [hT] at r4 ⊢
  rw [hh]
  obtain ⟨A4, e4, rfl, -, -⟩ := r4.op
  have q4 := Lib.hid (heap_alloc_new w4 (.cells #[.slice A4 c.1.length e4, .int .i64 c.2.1, .int .i64 c.2.2.1, .int .i64 c.2.2.2] 34))
  have n4' := n4.alloc n4.size (.cells #[.slice A4 c.1.length e4, .int .i64 c.2.1, .int .i64 c.2.2.1, .int .i64 c.2.2.2] 34)
  have hl4 : w4.heap.size < (w4.alloc (.cells #[.slice A4 c.1.length e4, .int .i64 c.2.1, .int .i64 c.2.2.1, .int .i64 c.2.2.2] 34)).heap.size := by simp
  have D4 := D.out.below n4'
  have hlt := D4.l8
  have hHB := D4.b8
  have hWB := D.out.l8
  have hB4 := n4.size
  have c0 := D4.c0
  have c1 := D4.c1
  have c2 := D4.c2
  have c3 := D4.c3
  have t0 := D4.t0
  have t1 := D4.t1
  replace D4 := Lib.hid D4
  replace n4' := Lib.hid n4'
  clear n4 r4
  go_wp2_with fail
  clear c0 c1 c2 c3 t0 t1
  generalize w4.alloc (.cells #[.slice A4 c.1.length e4, .int .i64 c.2.1, .int .i64 c.2.2.1, .int .i64 c.2.2.2] 34) = W4 at *
  generalize hE : w4.heap.size = E4 at *
  refine cF.out 5 t.2.1 W4 D4.out.g _ (Lib.hid fun v5 w5 r5 n5 => ?_)
  obtain ⟨A5, e5, rfl, -, -⟩ := r5.op
  have q5 := (n5.block _ hl4).trans q4.out
  have j0 := (Lib.cell_of_heap q5 0).trans rfl
  have j1 := (Lib.cell_of_heap q5 1).trans rfl
  have j2 := (Lib.cell_of_heap q5 2).trans rfl
  have j3 := (Lib.cell_of_heap q5 3).trans rfl
  have f0 := Lib.frozen_of_heap q5 0
  have f1 := Lib.frozen_of_heap q5 1
  have f2 := Lib.frozen_of_heap q5 2
  have f3 := Lib.frozen_of_heap q5 3
  have D5 := D4.out.below n5
  have t0 := D5.t0
  have nA := (n4'.out.trans (n5.mono n4'.out.size)).trans (below_four (q := E4) hB4 (.slice A5 (failS c 5 t.2.1).1.length e5) (.int .i64 (failS c 5 t.2.1).2.1) (.int .i64 (failS c 5 t.2.1).2.2.1) (.int .i64 (failS c 5 t.2.1).2.2.2))
  have D6 := Lib.hid (D.out.below nA)
  have cp4 := cp.below hpl hbl ((nb.out.trans (nA.mono nb.out.size)))
  have q6 := Lib.hid (four_cells q5 (.slice A5 (failS c 5 t.2.1).1.length e5) (.int .i64 (failS c 5 t.2.1).2.1) (.int .i64 (failS c 5 t.2.1).2.2.1) (.int .i64 (failS c 5 t.2.1).2.2.2))
  have hl5 := Nat.lt_of_lt_of_le hl4 n5.size
  replace r5 := Lib.hid r5
  replace cp4 := Lib.hid cp4
  have hne : B ≠ E4 := by omega
  clear q5 q4 D5 D4 n5 n4' nA nb
  go_wp2_with fail
  have hl7 := Nat.lt_of_lt_of_le hl5 (below_four (b := 0) (q := E4) (Nat.zero_le _) (W := w5) (.slice A5 (failS c 5 t.2.1).1.length e5) (.int .i64 (failS c 5 t.2.1).2.1) (.int .i64 (failS c 5 t.2.1).2.2.1) (.int .i64 (failS c 5 t.2.1).2.2.2)).size
  have D4 := D6
  clear j0 j1 j2 j3 f0 f1 f2 f3 t0 D6
  generalize (((w5.setCell ⟨E4, 0, none⟩ _).setCell ⟨E4, 1, none⟩ _).setCell ⟨E4, 2, none⟩ _).setCell ⟨E4, 3, none⟩ _ = W7 at *
  have hlt7 := D4.out.l8
  have k0 := fun y : GW W7 p (w.heap.size + 1 + 1) => y.cell hl7 (by omega) (by omega) ((Lib.cell_of_heap q6.out 0).trans rfl)
  have k1 := fun y : GW W7 p (w.heap.size + 1 + 1) => y.cell hl7 (by omega) (by omega) ((Lib.cell_of_heap q6.out 1).trans rfl)
  have k2 := fun y : GW W7 p (w.heap.size + 1 + 1) => y.cell hl7 (by omega) (by omega) ((Lib.cell_of_heap q6.out 2).trans rfl)
  have k3 := fun y : GW W7 p (w.heap.size + 1 + 1) => y.cell hl7 (by omega) (by omega) ((Lib.cell_of_heap q6.out 3).trans rfl)
  have m3 : ∀ y : GW W7 p (w.heap.size + 1 + 1), y.w.cell? ⟨w.heap.size + 1, 3, none⟩ = some (.string x) := fun y => y.cell (by omega) (by omega) (by omega) D4.out.o3
  refine wp_region_mixG p (w.heap.size + 1 + 1) [([0, 1, 2, 3, 5], 4), ([6], 7)] [8] (by kernel_rfl) (by kernel_rfl) (by kernel_rfl) (by kernel_rfl) (fun _ _ d _ _ h => by cases d <;> exact h) ?_
  have gW : Below W7.heap.size W7 (W7.drewN 1) := ⟨rfl, rfl, rfl, Nat.le_refl _, fun _ _ => rfl⟩
  replace cp4 := Lib.hid (cp4.out.all gW)
  refine mix_cons (os := [_, _, _, _, _]) (by simp only [pickO, List.filterMap_cons, List.filterMap_nil, List.getElem?_toArray, List.getElem?_cons_succ, List.getElem?_cons_zero]; rfl) (fun Kp hKp => ?_)
  repeat (go_big_quiet_step (exact rfl))
  refine wpQuiet_nil ?_
  refine hKp _ ?_
  clear hKp
  refine loud (by rfl) (by kernel_rfl) (fun K3 hK3 => ?_)
  go_simp
  refine cqneed_calls c p b x _ cp4.out _ (Lib.hid fun w5 b5 hb5 cp5 g5 => ?_)
  have hb6 : b5 = b ∨ w.heap.size + 2 < b5 := hb5.imp id (fun q => Nat.lt_of_lt_of_le (Nat.lt_trans D4.out.b8 D4.out.l8) q)
  clear hb5
  rw [hL] at cp5
  rw [hh]
  have gW5 := grown_tr (grown_bl gW (Nat.le_refl _)) g5
  replace cp5 := Lib.hid cp5
  clear cp4 g5 gW
  refine hK3 _ _ (GW.of _ gW5) ?_
  clear hK3
  refine mix_cons (os := [_]) (by simp only [pickO, List.filterMap_cons, List.filterMap_nil, List.getElem?_toArray, List.getElem?_cons_succ, List.getElem?_cons_zero]; rfl) (fun Kp hKp => ?_)
  repeat (go_big_quiet_step (exact rfl))
  refine wpQuiet_nil ?_
  refine hKp _ ?_
  clear hKp
  refine loud (by rfl) (by kernel_rfl) (fun K6 hK6 => ?_)
  have D5 := (D4.out).grown gW5
  obtain ⟨u0, h0⟩ := D5.r 0 (by decide)
  obtain ⟨u1, h1⟩ := D5.r 1 (by decide)
  obtain ⟨u2, h2⟩ := D5.r 2 (by decide)
  obtain ⟨u3, h3⟩ := D5.r 3 (by decide)
  have f0 := D5.f 0
  have f1 := D5.f 1
  have f2 := D5.f 2
  have f3 := D5.f 3
  change w5.cell? ⟨w.heap.size + 1 + 1, 0, none⟩ = some u0 at h0
  change w5.cell? ⟨w.heap.size + 1 + 1, 1, none⟩ = some u1 at h1
  change w5.cell? ⟨w.heap.size + 1 + 1, 2, none⟩ = some u2 at h2
  change w5.cell? ⟨w.heap.size + 1 + 1, 3, none⟩ = some u3 at h3
  change w5.frozen? ⟨w.heap.size + 1 + 1, 0, none⟩ = false at f0
  change w5.frozen? ⟨w.heap.size + 1 + 1, 1, none⟩ = false at f1
  change w5.frozen? ⟨w.heap.size + 1 + 1, 2, none⟩ = false at f2
  change w5.frozen? ⟨w.heap.size + 1 + 1, 3, none⟩ = false at f3
  clear D5
  go_simp
  refine hK6 _ _ (GW.four (GW.of _ gW5) _ _ _ _) ?_
  clear hK6
  refine mix_nil (os := [_]) (by simp only [pickO, List.filterMap_cons, List.filterMap_nil, List.getElem?_toArray, List.getElem?_cons_succ, List.getElem?_cons_zero]; rfl) (fun Kp hKp => ?_)
  repeat (go_big_quiet_step (exact rfl))
  refine wpQuiet_nil ?_
  refine hKp _ ?_
  clear hKp
  have gF := Lib.hid (grown_four (grown_tr D4.out.g gW5) (q := w.heap.size + 1 + 1) (by omega) (.slice A5 (failS c 5 t.2.1).1.length e5) (.int .i64 (failS c 5 t.2.1).2.1) (.int .i64 (failS c 5 t.2.1).2.2.1) (.int .i64 (failS c 5 t.2.1).2.2.2))
  have cpF := Lib.hid (cp5.out.four (q := w.heap.size + 1 + 1) (by omega) (by omega) (.slice A5 (failS c 5 t.2.1).1.length e5) (.int .i64 (failS c 5 t.2.1).2.1) (.int .i64 (failS c 5 t.2.1).2.2.1) (.int .i64 (failS c 5 t.2.1).2.2.2))
  go_wp2_with fail
  refine bodyPost_ret ?_ rfl (hR.out _ _ _ r5.out (by omega) cpF.out gF.out)
  simp [results, Tryz.results7, go_sem, h0, h1, h2, h3]
set_option maxRecDepth 100000 in
set_option maxHeartbeats 4000000 in
theorem does5n_calls (c : Cu) (v : Value) (p : Nat) (n a : Int) (x : ByteArray) (w : World) (b : Nat) (cp : CurG w p c b) (hx : RdK (cutW w p) v c.1) (hl : EndL c.1) (hll : c.1.length ≤ 1000000) (hd : 0 ≤ c.2.1 ∧ c.2.1 ≤ 24) (hh : hasS c 4 x false = false) (hz : (peekS c).1 ≠ 0) (R : Ending → World → Prop)
    (hR : Hid (∀ v' w' b', RdK (cutW w p) v' (needS c x).1 → (b' = b ∨ w.heap.size ≤ b') → CurG w' p (needS c x) b' → w.grownBy w' (some p) → R (.returned (.tuple #[cuV v' (needS c x), .bool true])) w')) :
    Calls Tryz.prog 7 #[ptV p, cuV v c, .agg #[.int .i64 5, .int .i64 n, .int .i64 a, .string x]] w R := by
  have hT : takeS c 4 x false = c := if_neg (by rw [hh]; decide)
  have hL : needS c x = failS c 4 (peekS c).2.1 := by unfold needS; rw [if_neg (by rw [hh]; decide), if_neg hz]
  have hpl := cp.lt
  have hbl := cp.lg
  have cP := Lib.hid fun (W : World) (g : w.grownBy W (some p)) R hR => refpeek14_calls c v W (rd_uncut hx hpl g).1 hl R hR
  have cN := Lib.hid fun (W : World) (g : w.grownBy W (some p)) R hR => refnext14x_calls c v W (cutW w p) hx (rd_uncut hx hpl g).1 hl hll R hR
  have cT := Lib.hid fun (k : Int) (x : ByteArray) (any : Bool) (W : World) (g : w.grownBy W (some p)) R hR => reftake14x_calls c v k x any W (cutW w p) hx (rd_uncut hx hpl g).1 hl hll R hR
  have cF := Lib.hid fun (e z : Int) (W : World) (g : w.grownBy W (some p)) R hR => reffail14x_calls c v e z W (cutW w p) hx (rd_uncut hx hpl g).1 R hR
  obtain ⟨Av, cv, rfl, -, -⟩ := hx.op
  obtain ⟨t, ht⟩ : ∃ t, peekS c = t := ⟨_, rfl⟩
  rw [ht] at cP
  simp only [tkV] at cP
  have hN := Lib.hid fun w3 n3 => Dz.new (w := w) (w3 := w3) (p := p) (v := .slice Av c.1.length cv) (c := c) (o := ((5, n, a, x))) (t := t) hpl n3
  have b1 := (Below.refl w.heap.size w).alloc (Nat.le_refl _) (.cells #[.slice Av c.1.length cv, .int .i64 c.2.1, .int .i64 c.2.2.1, .int .i64 c.2.2.2] 34)
  have b2 := b1.alloc b1.size (.cells #[.int .i64 5, .int .i64 n, .int .i64 a, .string x] 38)
  have b3 := Lib.hid (b2.alloc b2.size (.cells #[.slice none 0 0, .int .i64 0, .int .i64 0, .int .i64 0] 34))
  obtain ⟨q1, q2, q3⟩ := tri (w := w) (.cells #[.slice Av c.1.length cv, .int .i64 c.2.1, .int .i64 c.2.2.1, .int .i64 c.2.2.2] 34) (.cells #[.int .i64 5, .int .i64 n, .int .i64 a, .string x] 38) (.cells #[.slice none 0 0, .int .i64 0, .int .i64 0, .int .i64 0] 34)
  have j0 := (Lib.cell_of_heap q1 0).trans rfl
  have j1 := (Lib.cell_of_heap q1 1).trans rfl
  have j2 := (Lib.cell_of_heap q1 2).trans rfl
  have j3 := (Lib.cell_of_heap q1 3).trans rfl
  clear b1 b2 q1 q2 q3
  go_enter Tryz.func7, Tryz.ntmps7
  go_wp2_with fail
  clear j0 j1 j2 j3
  refine cP.out _ (grown_bl b3.out (Nat.le_refl _)) _ (Lib.hid fun w3 n3 => ?_)
  have D := hN.out w3 n3
  have nb := Lib.hid (b3.out.trans ((n3.alloc n3.size (.cells #[.int .i64 t.1, .int .i64 t.2.1, .int .i64 t.2.2.1, .string t.2.2.2.1, .int .i64 t.2.2.2.2] 40)).mono b3.out.size))
  obtain ⟨B, hB⟩ : ∃ B, w3.heap.size = B := ⟨_, rfl⟩
  obtain ⟨k0, k1, k2, k3, k4⟩ := box_five' w3 (.int .i64 t.1) (.int .i64 t.2.1) (.int .i64 t.2.2.1) (.string t.2.2.2.1) (.int .i64 t.2.2.2.2) 40
  have o0 := D.o0
  have o1 := D.o1
  have o2 := D.o2
  have o3 := D.o3
  have c0 := D.c0
  have c1 := D.c1
  have c2 := D.c2
  have c3 := D.c3
  replace D := Lib.hid D
  clear n3 hN b3 cP
  go_wp2_with fail
  generalize w3.alloc (.cells #[.int .i64 t.1, .int .i64 t.2.1, .int .i64 t.2.2.1, .string t.2.2.2.1, .int .i64 t.2.2.2.2] 40) = W at *
  rw [hB] at D
  clear hB o0 o1 o2 o3 c0 c1 c2 c3 k0 k1 k2 k3 k4
  rw [ht] at hz hL
  rw [hL] at hR
  have z1 : decide (t.1 = 0) = false := by simpa using hz
  have z2 : (t.1 == 0) = false := by simpa using hz
  have z3 : (t.1 != 0) = true := by simpa using hz
  refine cT.out 4 x false W D.out.g _ (Lib.hid fun v4 w4 r4 n4 => ?_)
  rw [hT] at r4 ⊢
  rw [hh]
  obtain ⟨A4, e4, rfl, -, -⟩ := r4.op
  have q4 := Lib.hid (heap_alloc_new w4 (.cells #[.slice A4 c.1.length e4, .int .i64 c.2.1, .int .i64 c.2.2.1, .int .i64 c.2.2.2] 34))
  have n4' := n4.alloc n4.size (.cells #[.slice A4 c.1.length e4, .int .i64 c.2.1, .int .i64 c.2.2.1, .int .i64 c.2.2.2] 34)
  have hl4 : w4.heap.size < (w4.alloc (.cells #[.slice A4 c.1.length e4, .int .i64 c.2.1, .int .i64 c.2.2.1, .int .i64 c.2.2.2] 34)).heap.size := by simp
  have D4 := D.out.below n4'
  have hlt := D4.l8
  have hHB := D4.b8
  have hWB := D.out.l8
  have hB4 := n4.size
  have c0 := D4.c0
  have c1 := D4.c1
  have c2 := D4.c2
  have c3 := D4.c3
  have t0 := D4.t0
  have t1 := D4.t1
  replace D4 := Lib.hid D4
  replace n4' := Lib.hid n4'
  clear n4 r4
  go_wp2_with fail
  clear c0 c1 c2 c3 t0 t1
  generalize w4.alloc (.cells #[.slice A4 c.1.length e4, .int .i64 c.2.1, .int .i64 c.2.2.1, .int .i64 c.2.2.2] 34) = W4 at *
  generalize hE : w4.heap.size = E4 at *
  refine cF.out 4 t.2.1 W4 D4.out.g _ (Lib.hid fun v5 w5 r5 n5 => ?_)
  obtain ⟨A5, e5, rfl, -, -⟩ := r5.op
  have q5 := (n5.block _ hl4).trans q4.out
  have j0 := (Lib.cell_of_heap q5 0).trans rfl
  have j1 := (Lib.cell_of_heap q5 1).trans rfl
  have j2 := (Lib.cell_of_heap q5 2).trans rfl
  have j3 := (Lib.cell_of_heap q5 3).trans rfl
  have f0 := Lib.frozen_of_heap q5 0
  have f1 := Lib.frozen_of_heap q5 1
  have f2 := Lib.frozen_of_heap q5 2
  have f3 := Lib.frozen_of_heap q5 3
  have D5 := D4.out.below n5
  have t0 := D5.t0
  have nA := (n4'.out.trans (n5.mono n4'.out.size)).trans (below_four (q := E4) hB4 (.slice A5 (failS c 4 t.2.1).1.length e5) (.int .i64 (failS c 4 t.2.1).2.1) (.int .i64 (failS c 4 t.2.1).2.2.1) (.int .i64 (failS c 4 t.2.1).2.2.2))
  have D6 := Lib.hid (D.out.below nA)
  have cp4 := cp.below hpl hbl ((nb.out.trans (nA.mono nb.out.size)))
  have q6 := Lib.hid (four_cells q5 (.slice A5 (failS c 4 t.2.1).1.length e5) (.int .i64 (failS c 4 t.2.1).2.1) (.int .i64 (failS c 4 t.2.1).2.2.1) (.int .i64 (failS c 4 t.2.1).2.2.2))
  have hl5 := Nat.lt_of_lt_of_le hl4 n5.size
  replace r5 := Lib.hid r5
  replace cp4 := Lib.hid cp4
  have hne : B ≠ E4 := by omega
  clear q5 q4 D5 D4 n5 n4' nA nb
  go_wp2_with fail
  have hl7 := Nat.lt_of_lt_of_le hl5 (below_four (b := 0) (q := E4) (Nat.zero_le _) (W := w5) (.slice A5 (failS c 4 t.2.1).1.length e5) (.int .i64 (failS c 4 t.2.1).2.1) (.int .i64 (failS c 4 t.2.1).2.2.1) (.int .i64 (failS c 4 t.2.1).2.2.2)).size
  have D4 := D6
  clear j0 j1 j2 j3 f0 f1 f2 f3 t0 D6
  generalize (((w5.setCell ⟨E4, 0, none⟩ _).setCell ⟨E4, 1, none⟩ _).setCell ⟨E4, 2, none⟩ _).setCell ⟨E4, 3, none⟩ _ = W7 at *
  have hlt7 := D4.out.l8
  have k0 := fun y : GW W7 p (w.heap.size + 1 + 1) => y.cell hl7 (by omega) (by omega) ((Lib.cell_of_heap q6.out 0).trans rfl)
  have k1 := fun y : GW W7 p (w.heap.size + 1 + 1) => y.cell hl7 (by omega) (by omega) ((Lib.cell_of_heap q6.out 1).trans rfl)
  have k2 := fun y : GW W7 p (w.heap.size + 1 + 1) => y.cell hl7 (by omega) (by omega) ((Lib.cell_of_heap q6.out 2).trans rfl)
  have k3 := fun y : GW W7 p (w.heap.size + 1 + 1) => y.cell hl7 (by omega) (by omega) ((Lib.cell_of_heap q6.out 3).trans rfl)
  have m3 : ∀ y : GW W7 p (w.heap.size + 1 + 1), y.w.cell? ⟨w.heap.size + 1, 3, none⟩ = some (.string x) := fun y => y.cell (by omega) (by omega) (by omega) D4.out.o3
  refine wp_region_mixG p (w.heap.size + 1 + 1) [([0, 1, 2, 3, 5], 4), ([6], 7)] [8] (by kernel_rfl) (by kernel_rfl) (by kernel_rfl) (by kernel_rfl) (fun _ _ d _ _ h => by cases d <;> exact h) ?_
  have gW : Below W7.heap.size W7 (W7.drewN 1) := ⟨rfl, rfl, rfl, Nat.le_refl _, fun _ _ => rfl⟩
  replace cp4 := Lib.hid (cp4.out.all gW)
  refine mix_cons (os := [_, _, _, _, _]) (by simp only [pickO, List.filterMap_cons, List.filterMap_nil, List.getElem?_toArray, List.getElem?_cons_succ, List.getElem?_cons_zero]; rfl) (fun Kp hKp => ?_)
  repeat (go_big_quiet_step (exact rfl))
  refine wpQuiet_nil ?_
  refine hKp _ ?_
  clear hKp
  refine loud (by rfl) (by kernel_rfl) (fun K3 hK3 => ?_)
  go_simp
  refine cqneed_calls c p b x _ cp4.out _ (Lib.hid fun w5 b5 hb5 cp5 g5 => ?_)
  have hb6 : b5 = b ∨ w.heap.size + 2 < b5 := hb5.imp id (fun q => Nat.lt_of_lt_of_le (Nat.lt_trans D4.out.b8 D4.out.l8) q)
  clear hb5
  rw [hL] at cp5
  rw [hh]
  have gW5 := grown_tr (grown_bl gW (Nat.le_refl _)) g5
  replace cp5 := Lib.hid cp5
  clear cp4 g5 gW
  refine hK3 _ _ (GW.of _ gW5) ?_
  clear hK3
  refine mix_cons (os := [_]) (by simp only [pickO, List.filterMap_cons, List.filterMap_nil, List.getElem?_toArray, List.getElem?_cons_succ, List.getElem?_cons_zero]; rfl) (fun Kp hKp => ?_)
  repeat (go_big_quiet_step (exact rfl))
  refine wpQuiet_nil ?_
  refine hKp _ ?_
  clear hKp
  refine loud (by rfl) (by kernel_rfl) (fun K6 hK6 => ?_)
  have D5 := (D4.out).grown gW5
  obtain ⟨u0, h0⟩ := D5.r 0 (by decide)
  obtain ⟨u1, h1⟩ := D5.r 1 (by decide)
  obtain ⟨u2, h2⟩ := D5.r 2 (by decide)
  obtain ⟨u3, h3⟩ := D5.r 3 (by decide)
  have f0 := D5.f 0
  have f1 := D5.f 1
  have f2 := D5.f 2
  have f3 := D5.f 3
  change w5.cell? ⟨w.heap.size + 1 + 1, 0, none⟩ = some u0 at h0
  change w5.cell? ⟨w.heap.size + 1 + 1, 1, none⟩ = some u1 at h1
  change w5.cell? ⟨w.heap.size + 1 + 1, 2, none⟩ = some u2 at h2
  change w5.cell? ⟨w.heap.size + 1 + 1, 3, none⟩ = some u3 at h3
  change w5.frozen? ⟨w.heap.size + 1 + 1, 0, none⟩ = false at f0
  change w5.frozen? ⟨w.heap.size + 1 + 1, 1, none⟩ = false at f1
  change w5.frozen? ⟨w.heap.size + 1 + 1, 2, none⟩ = false at f2
  change w5.frozen? ⟨w.heap.size + 1 + 1, 3, none⟩ = false at f3
  clear D5
  go_simp
  refine hK6 _ _ (GW.four (GW.of _ gW5) _ _ _ _) ?_
  clear hK6
  refine mix_nil (os := [_]) (by simp only [pickO, List.filterMap_cons, List.filterMap_nil, List.getElem?_toArray, List.getElem?_cons_succ, List.getElem?_cons_zero]; rfl) (fun Kp hKp => ?_)
  repeat (go_big_quiet_step (exact rfl))
  refine wpQuiet_nil ?_
  refine hKp _ ?_
  clear hKp
  have gF := Lib.hid (grown_four (grown_tr D4.out.g gW5) (q := w.heap.size + 1 + 1) (by omega) (.slice A5 (failS c 4 t.2.1).1.length e5) (.int .i64 (failS c 4 t.2.1).2.1) (.int .i64 (failS c 4 t.2.1).2.2.1) (.int .i64 (failS c 4 t.2.1).2.2.2))
  have cpF := Lib.hid (cp5.out.four (q := w.heap.size + 1 + 1) (by omega) (by omega) (.slice A5 (failS c 4 t.2.1).1.length e5) (.int .i64 (failS c 4 t.2.1).2.1) (.int .i64 (failS c 4 t.2.1).2.2.1) (.int .i64 (failS c 4 t.2.1).2.2.2))
  go_wp2_with fail
  refine bodyPost_ret ?_ rfl (hR.out _ _ _ r5.out (by omega) cpF.out gF.out)
  simp [results, Tryz.results7, go_sem, h0, h1, h2, h3]
end Go.Proofs.YtmchgimbfdeaiaaGreat.Cur
