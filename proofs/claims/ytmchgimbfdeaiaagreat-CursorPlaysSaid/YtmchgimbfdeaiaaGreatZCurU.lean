/- Layer 14: does walked, a kind at a time (9): Take. -/
import Derived.Test.YtmchgimbfdeaiaaGreatG13
import Derived.OwnWalk
set_option maxRecDepth 100000
set_option linter.unusedVariables false
namespace Go.Proofs.YtmchgimbfdeaiaaGreat.Cur
open Go.RowKit Go.Lib Go.Proofs.YtmchgimbfdeaiaaGreat.Utf Go.Proofs.YtmchgimbfdeaiaaGreat.Tok

set_option maxRecDepth 100000 in
set_option maxHeartbeats 4000000 in
theorem does4a_calls (c : Cu) (v : Value) (p : Nat) (n a : Int) (x : ByteArray) (w : World) (b : Nat) (cp : CurG w p c b) (hx : RdK (cutW w p) v c.1) (hl : EndL c.1) (hll : c.1.length ≤ 1000000) (hd : 0 ≤ c.2.1 ∧ c.2.1 ≤ 24) (hS : hasS c n ⟨#[]⟩ true = true) (hT : takeS c n ⟨#[]⟩ true = nextS c) (hP : (n ≠ 0 ∧ (peekS c).1 = n)) (hz : (peekS c).1 ≠ 0) (R : Ending → World → Prop)
    (hR : Hid (∀ v' w' b', RdK (cutW w p) v' (takeS c n ⟨#[]⟩ true).1 → (b' = b ∨ w.heap.size ≤ b') → CurG w' p (takeS c n ⟨#[]⟩ true) b' → w.grownBy w' (some p) → R (.returned (.tuple #[cuV v' (takeS c n ⟨#[]⟩ true), .bool true])) w')) :
    Calls Tryz.prog 7 #[ptV p, cuV v c, .agg #[.int .i64 4, .int .i64 n, .int .i64 a, .string x]] w R := by
  rw [hT] at hR
  have hpl := cp.lt
  have hbl := cp.lg
  have cP := Lib.hid fun (W : World) (g : w.grownBy W (some p)) R hR => refpeek14_calls c v W (rd_uncut hx hpl g).1 hl R hR
  have cN := Lib.hid fun (W : World) (g : w.grownBy W (some p)) R hR => refnext14x_calls c v W (cutW w p) hx (rd_uncut hx hpl g).1 hl hll R hR
  have cT := Lib.hid fun (k : Int) (x : ByteArray) (any : Bool) (W : World) (g : w.grownBy W (some p)) R hR => reftake14x_calls c v k x any W (cutW w p) hx (rd_uncut hx hpl g).1 hl hll R hR
  have cF := Lib.hid fun (e z : Int) (W : World) (g : w.grownBy W (some p)) R hR => reffail14x_calls c v e z W (cutW w p) hx (rd_uncut hx hpl g).1 R hR
  obtain ⟨Av, cv, rfl, -, -⟩ := hx.op
  obtain ⟨t, ht⟩ : ∃ t, peekS c = t := ⟨_, rfl⟩
  rw [ht] at cP
  simp only [tkV] at cP
  have hN := Lib.hid fun w3 n3 => Dz.new (w := w) (w3 := w3) (p := p) (v := .slice Av c.1.length cv) (c := c) (o := ((4, n, a, x))) (t := t) hpl n3
  have b1 := (Below.refl w.heap.size w).alloc (Nat.le_refl _) (.cells #[.slice Av c.1.length cv, .int .i64 c.2.1, .int .i64 c.2.2.1, .int .i64 c.2.2.2] 34)
  have b2 := b1.alloc b1.size (.cells #[.int .i64 4, .int .i64 n, .int .i64 a, .string x] 38)
  have b3 := Lib.hid (b2.alloc b2.size (.cells #[.slice none 0 0, .int .i64 0, .int .i64 0, .int .i64 0] 34))
  obtain ⟨q1, q2, q3⟩ := tri (w := w) (.cells #[.slice Av c.1.length cv, .int .i64 c.2.1, .int .i64 c.2.2.1, .int .i64 c.2.2.2] 34) (.cells #[.int .i64 4, .int .i64 n, .int .i64 a, .string x] 38) (.cells #[.slice none 0 0, .int .i64 0, .int .i64 0, .int .i64 0] 34)
  have j0 := (Lib.cell_of_heap q1 0).trans rfl
  have j1 := (Lib.cell_of_heap q1 1).trans rfl
  have j2 := (Lib.cell_of_heap q1 2).trans rfl
  have j3 := (Lib.cell_of_heap q1 3).trans rfl
  clear b1 b2 q1 q2 q3
  go_enter Tryz.func7, Tryz.ntmps7
  go_wp2_with fail
  clear j0 j1 j2 j3
  refine cP.out _ (grown_bl b3.out (Nat.le_refl _)) _ (Lib.hid fun w3 n3 => ?_)
  have D := hN.out w3 n3
  have nb := Lib.hid (b3.out.trans ((n3.alloc n3.size (.cells #[.int .i64 t.1, .int .i64 t.2.1, .int .i64 t.2.2.1, .string t.2.2.2.1, .int .i64 t.2.2.2.2] 40)).mono b3.out.size))
  obtain ⟨B, hB⟩ : ∃ B, w3.heap.size = B := ⟨_, rfl⟩
  obtain ⟨k0, k1, k2, k3, k4⟩ := box_five' w3 (.int .i64 t.1) (.int .i64 t.2.1) (.int .i64 t.2.2.1) (.string t.2.2.2.1) (.int .i64 t.2.2.2.2) 40
  have o0 := D.o0
  have o1 := D.o1
  have o2 := D.o2
  have o3 := D.o3
  have c0 := D.c0
  have c1 := D.c1
  have c2 := D.c2
  have c3 := D.c3
  replace D := Lib.hid D
  clear n3 hN b3 cP
  go_wp2_with fail
  generalize w3.alloc (.cells #[.int .i64 t.1, .int .i64 t.2.1, .int .i64 t.2.2.1, .string t.2.2.2.1, .int .i64 t.2.2.2.2] 40) = W at *
  rw [hB] at D
  clear hB o0 o1 o2 o3 c0 c1 c2 c3 k0 k1 k2 k3 k4
  have hct := Lib.hid fun (W : World) (q : CurG W p c b) (R : Ending → World → Prop) (hR : Hid (∀ w', CurG w' p (nextS c) b → W.grownBy w' (some p) → R (.returned (.tuple #[.agg #[.int .i64 t.1, .int .i64 t.2.1, .int .i64 t.2.2.1, .string t.2.2.2.1, .int .i64 t.2.2.2.2], .bool true])) w')) => cqtake_calls c p b n W q R (Lib.hid fun w' q' g => by
    rw [if_pos hP] at q'
    rw [if_pos hP, decide_eq_true hP, ht, tkV]
    exact hR.out w' q' g)
  rw [ht] at hz
  have z1 : decide (t.1 = 0) = false := by simpa using hz
  have z2 : (t.1 == 0) = false := by simpa using hz
  have z3 : (t.1 != 0) = true := by simpa using hz
  refine cT.out n ⟨#[]⟩ true W D.out.g _ (Lib.hid fun v4 w4 r4 n4 => ?_)
  rw [hT] at r4 ⊢
  rw [hS]
  obtain ⟨A4, e4, rfl, -, -⟩ := r4.op
  have q4 := Lib.hid (heap_alloc_new w4 (.cells #[.slice A4 (nextS c).1.length e4, .int .i64 (nextS c).2.1, .int .i64 (nextS c).2.2.1, .int .i64 (nextS c).2.2.2] 34))
  have n4' := n4.alloc n4.size (.cells #[.slice A4 (nextS c).1.length e4, .int .i64 (nextS c).2.1, .int .i64 (nextS c).2.2.1, .int .i64 (nextS c).2.2.2] 34)
  have hl4 : w4.heap.size < (w4.alloc (.cells #[.slice A4 (nextS c).1.length e4, .int .i64 (nextS c).2.1, .int .i64 (nextS c).2.2.1, .int .i64 (nextS c).2.2.2] 34)).heap.size := by simp
  have D4 := D.out.below n4'
  have hlt := D4.l8
  have hHB := D4.b8
  have hWB := D.out.l8
  have hB4 := n4.size
  have t0 := D4.t0
  have o1 : (w4.alloc (.cells #[.slice A4 (nextS c).1.length e4, .int .i64 (nextS c).2.1, .int .i64 (nextS c).2.2.1, .int .i64 (nextS c).2.2.2] 34)).cell? ⟨w.heap.size + 1, 1, none⟩ = some (.int .i64 n) := D4.o1
  replace D4 := Lib.hid D4
  have cp4 := Lib.hid (cp.below hpl hbl ((nb.out.trans (n4'.mono nb.out.size))))
  replace r4 := Lib.hid r4
  clear n4 n4'
  go_wp2_with fail
  clear t0 o1
  generalize w4.alloc (.cells #[.slice A4 (nextS c).1.length e4, .int .i64 (nextS c).2.1, .int .i64 (nextS c).2.2.1, .int .i64 (nextS c).2.2.2] 34) = W4 at *
  generalize hE : w4.heap.size = E4 at *
  refine hct.out W4 cp4.out _ (Lib.hid fun w5 cp5 g5 => ?_)
  have D5 := D4.out.grown g5
  have q5 := (g5.block _ hl4 (by simp; omega)).trans q4.out
  have hl5 := Nat.lt_of_lt_of_le hl4 g5.size
  have hBl := D5.l8
  have bT := (Below.refl w5.heap.size w5).alloc (Nat.le_refl _) (.cells #[.int .i64 t.1, .int .i64 t.2.1, .int .i64 t.2.2.1, .string t.2.2.2.1, .int .i64 t.2.2.2.2] 40)
  have D6 := D5.below bT
  have q6 := (bT.block _ hl5).trans q5
  obtain ⟨v0, v1, v2, v3, v4⟩ := box_five' w5 (.int .i64 t.1) (.int .i64 t.2.1) (.int .i64 t.2.2.1) (.string t.2.2.2.1) (.int .i64 t.2.2.2.2) 40
  have j0 := (Lib.cell_of_heap q6 0).trans rfl
  have j1 := (Lib.cell_of_heap q6 1).trans rfl
  have j2 := (Lib.cell_of_heap q6 2).trans rfl
  have j3 := (Lib.cell_of_heap q6 3).trans rfl
  have t0 := D6.t0
  have t1 := D6.t1
  have t2 := D6.t2
  have t3 := D6.t3
  have t4 := D6.t4
  have cp6 := Lib.hid (cp5.all bT)
  have hl6 : w5.heap.size < (w5.alloc (.cells #[.int .i64 t.1, .int .i64 t.2.1, .int .i64 t.2.2.1, .string t.2.2.2.1, .int .i64 t.2.2.2.2] 40)).heap.size := by simp
  have hp5 : p < W4.heap.size := Nat.lt_of_lt_of_le hpl D4.out.g.size
  replace D6 := Lib.hid D6
  clear D5 D4 D g5 q4 q5 q6 bT cp5 cp4 nb
  go_wp2_with fail
  generalize w5.alloc (.cells #[.int .i64 t.1, .int .i64 t.2.1, .int .i64 t.2.2.1, .string t.2.2.2.1, .int .i64 t.2.2.2.2] 40) = W6 at *
  have h0x := D6.out.r 0 (by decide)
  obtain ⟨u0, h0⟩ := D6.out.r 0 (by decide)
  obtain ⟨u1, h1⟩ := D6.out.r 1 (by decide)
  obtain ⟨u2, h2⟩ := D6.out.r 2 (by decide)
  obtain ⟨u3, h3⟩ := D6.out.r 3 (by decide)
  have f0 := D6.out.f 0
  have f1 := D6.out.f 1
  have f2 := D6.out.f 2
  have f3 := D6.out.f 3
  change W6.cell? ⟨w.heap.size + 1 + 1, 0, none⟩ = some u0 at h0
  change W6.cell? ⟨w.heap.size + 1 + 1, 1, none⟩ = some u1 at h1
  change W6.cell? ⟨w.heap.size + 1 + 1, 2, none⟩ = some u2 at h2
  change W6.cell? ⟨w.heap.size + 1 + 1, 3, none⟩ = some u3 at h3
  change W6.frozen? ⟨w.heap.size + 1 + 1, 0, none⟩ = false at f0
  change W6.frozen? ⟨w.heap.size + 1 + 1, 1, none⟩ = false at f1
  change W6.frozen? ⟨w.heap.size + 1 + 1, 2, none⟩ = false at f2
  change W6.frozen? ⟨w.heap.size + 1 + 1, 3, none⟩ = false at f3
  have gW : Below W6.heap.size W6 (W6.drewN 1) := ⟨rfl, rfl, rfl, Nat.le_refl _, fun _ _ => rfl⟩
  have gF := Lib.hid (grown_four (grown_tr D6.out.g (grown_bl (row := some p) gW (Nat.le_refl _))) (q := w.heap.size + 1 + 1) (by omega) (.slice A4 (nextS c).1.length e4) (.int .i64 (nextS c).2.1) (.int .i64 (nextS c).2.2.1) (.int .i64 (nextS c).2.2.2))
  have cpF := Lib.hid ((cp6.out.all gW).four (q := w.heap.size + 1 + 1) (by omega) (by omega) (.slice A4 (nextS c).1.length e4) (.int .i64 (nextS c).2.1) (.int .i64 (nextS c).2.2.1) (.int .i64 (nextS c).2.2.2))
  have gG := Lib.hid (GW.of (p := p) (w.heap.size + 1 + 1) (grown_bl (row := some p) gW (Nat.le_refl _)))
  have d6 := D6.out
  have y0 := fun y : GW W6 p (w.heap.size + 1 + 1) => y.cell (by omega) (by omega) (by omega) j0
  have y1 := fun y : GW W6 p (w.heap.size + 1 + 1) => y.cell (by omega) (by omega) (by omega) j1
  have y2 := fun y : GW W6 p (w.heap.size + 1 + 1) => y.cell (by omega) (by omega) (by omega) j2
  have y3 := fun y : GW W6 p (w.heap.size + 1 + 1) => y.cell (by omega) (by omega) (by omega) j3
  have x0 := fun y : GW W6 p (w.heap.size + 1 + 1) => y.cell (by omega) (by omega) (by omega) v0
  have x1 := fun y : GW W6 p (w.heap.size + 1 + 1) => y.cell (by omega) (by omega) (by omega) v1
  have x2 := fun y : GW W6 p (w.heap.size + 1 + 1) => y.cell (by omega) (by omega) (by omega) v2
  have x3 := fun y : GW W6 p (w.heap.size + 1 + 1) => y.cell (by omega) (by omega) (by omega) v3
  have x4 := fun y : GW W6 p (w.heap.size + 1 + 1) => y.cell (by omega) (by omega) (by omega) v4
  have s0 := fun y : GW W6 p (w.heap.size + 1 + 1) => y.cell (by omega) (by omega) (by omega) t0
  have s1 := fun y : GW W6 p (w.heap.size + 1 + 1) => y.cell (by omega) (by omega) (by omega) t1
  have s2 := fun y : GW W6 p (w.heap.size + 1 + 1) => y.cell (by omega) (by omega) (by omega) t2
  have s3 := fun y : GW W6 p (w.heap.size + 1 + 1) => y.cell (by omega) (by omega) (by omega) t3
  have s4 := fun y : GW W6 p (w.heap.size + 1 + 1) => y.cell (by omega) (by omega) (by omega) t4
  clear h0x cp6 D6 d6 j0 j1 j2 j3 v0 v1 v2 v3 v4 t0 t1 t2 t3 t4 hct cN cT cF gW
  refine wp_region_mixG p (w.heap.size + 1 + 1) [([0,1,2,3,4,5,6,7,8,9,10,11,12,13,14,15,16,17,18,19,20], 21)] [22] (by kernel_rfl) (by kernel_rfl) (by kernel_rfl) (by kernel_rfl) (fun _ _ d _ _ h => by cases d <;> exact h) ?_
  refine mix_cons (os := [_, _, _, _, _, _, _, _, _, _, _, _, _, _, _, _, _, _, _, _, _]) (by simp only [pickO, List.filterMap_cons, List.filterMap_nil, List.getElem?_toArray, List.getElem?_cons_succ, List.getElem?_cons_zero]; rfl) (fun Kp hKp => ?_)
  repeat (go_big_quiet_step (exact rfl))
  refine wpQuiet_nil ?_
  refine hKp _ ?_
  clear hKp
  refine loud (by rfl) (by kernel_rfl) (fun K6 hK6 => ?_)
  go_simp
  refine hK6 _ _ (GW.four gG.out _ _ _ _) ?_
  clear hK6
  refine mix_nil (os := [_]) (by simp only [pickO, List.filterMap_cons, List.filterMap_nil, List.getElem?_toArray, List.getElem?_cons_succ, List.getElem?_cons_zero]; rfl) (fun Kp hKp => ?_)
  repeat (go_big_quiet_step (exact rfl))
  refine wpQuiet_nil ?_
  refine hKp _ ?_
  clear hKp
  go_wp2_with fail
  refine bodyPost_ret ?_ rfl (hR.out _ _ _ r4.out (by omega) cpF.out gF.out)
  simp [results, Tryz.results7, go_sem, h0, h1, h2, h3]
set_option maxRecDepth 100000 in
set_option maxHeartbeats 4000000 in
theorem does4b_calls (c : Cu) (v : Value) (p : Nat) (n a : Int) (x : ByteArray) (w : World) (b : Nat) (cp : CurG w p c b) (hx : RdK (cutW w p) v c.1) (hl : EndL c.1) (hll : c.1.length ≤ 1000000) (hd : 0 ≤ c.2.1 ∧ c.2.1 ≤ 24) (hS : hasS c n ⟨#[]⟩ true = true) (hT : takeS c n ⟨#[]⟩ true = c) (hP : ¬ (n ≠ 0 ∧ (peekS c).1 = n)) (hz : (peekS c).1 = 0) (R : Ending → World → Prop)
    (hR : Hid (∀ v' w' b', RdK (cutW w p) v' (takeS c n ⟨#[]⟩ true).1 → (b' = b ∨ w.heap.size ≤ b') → CurG w' p (takeS c n ⟨#[]⟩ true) b' → w.grownBy w' (some p) → R (.returned (.tuple #[cuV v' (takeS c n ⟨#[]⟩ true), .bool true])) w')) :
    Calls Tryz.prog 7 #[ptV p, cuV v c, .agg #[.int .i64 4, .int .i64 n, .int .i64 a, .string x]] w R := by
  rw [hT] at hR
  have hpl := cp.lt
  have hbl := cp.lg
  have cP := Lib.hid fun (W : World) (g : w.grownBy W (some p)) R hR => refpeek14_calls c v W (rd_uncut hx hpl g).1 hl R hR
  have cN := Lib.hid fun (W : World) (g : w.grownBy W (some p)) R hR => refnext14x_calls c v W (cutW w p) hx (rd_uncut hx hpl g).1 hl hll R hR
  have cT := Lib.hid fun (k : Int) (x : ByteArray) (any : Bool) (W : World) (g : w.grownBy W (some p)) R hR => reftake14x_calls c v k x any W (cutW w p) hx (rd_uncut hx hpl g).1 hl hll R hR
  have cF := Lib.hid fun (e z : Int) (W : World) (g : w.grownBy W (some p)) R hR => reffail14x_calls c v e z W (cutW w p) hx (rd_uncut hx hpl g).1 R hR
  obtain ⟨Av, cv, rfl, -, -⟩ := hx.op
  obtain ⟨t, ht⟩ : ∃ t, peekS c = t := ⟨_, rfl⟩
  rw [ht] at cP
  simp only [tkV] at cP
  have hN := Lib.hid fun w3 n3 => Dz.new (w := w) (w3 := w3) (p := p) (v := .slice Av c.1.length cv) (c := c) (o := ((4, n, a, x))) (t := t) hpl n3
  have b1 := (Below.refl w.heap.size w).alloc (Nat.le_refl _) (.cells #[.slice Av c.1.length cv, .int .i64 c.2.1, .int .i64 c.2.2.1, .int .i64 c.2.2.2] 34)
  have b2 := b1.alloc b1.size (.cells #[.int .i64 4, .int .i64 n, .int .i64 a, .string x] 38)
  have b3 := Lib.hid (b2.alloc b2.size (.cells #[.slice none 0 0, .int .i64 0, .int .i64 0, .int .i64 0] 34))
  obtain ⟨q1, q2, q3⟩ := tri (w := w) (.cells #[.slice Av c.1.length cv, .int .i64 c.2.1, .int .i64 c.2.2.1, .int .i64 c.2.2.2] 34) (.cells #[.int .i64 4, .int .i64 n, .int .i64 a, .string x] 38) (.cells #[.slice none 0 0, .int .i64 0, .int .i64 0, .int .i64 0] 34)
  have j0 := (Lib.cell_of_heap q1 0).trans rfl
  have j1 := (Lib.cell_of_heap q1 1).trans rfl
  have j2 := (Lib.cell_of_heap q1 2).trans rfl
  have j3 := (Lib.cell_of_heap q1 3).trans rfl
  clear b1 b2 q1 q2 q3
  go_enter Tryz.func7, Tryz.ntmps7
  go_wp2_with fail
  clear j0 j1 j2 j3
  refine cP.out _ (grown_bl b3.out (Nat.le_refl _)) _ (Lib.hid fun w3 n3 => ?_)
  have D := hN.out w3 n3
  have nb := Lib.hid (b3.out.trans ((n3.alloc n3.size (.cells #[.int .i64 t.1, .int .i64 t.2.1, .int .i64 t.2.2.1, .string t.2.2.2.1, .int .i64 t.2.2.2.2] 40)).mono b3.out.size))
  obtain ⟨B, hB⟩ : ∃ B, w3.heap.size = B := ⟨_, rfl⟩
  obtain ⟨k0, k1, k2, k3, k4⟩ := box_five' w3 (.int .i64 t.1) (.int .i64 t.2.1) (.int .i64 t.2.2.1) (.string t.2.2.2.1) (.int .i64 t.2.2.2.2) 40
  have o0 := D.o0
  have o1 := D.o1
  have o2 := D.o2
  have o3 := D.o3
  have c0 := D.c0
  have c1 := D.c1
  have c2 := D.c2
  have c3 := D.c3
  replace D := Lib.hid D
  clear n3 hN b3 cP
  go_wp2_with fail
  generalize w3.alloc (.cells #[.int .i64 t.1, .int .i64 t.2.1, .int .i64 t.2.2.1, .string t.2.2.2.1, .int .i64 t.2.2.2.2] 40) = W at *
  rw [hB] at D
  clear hB o0 o1 o2 o3 c0 c1 c2 c3 k0 k1 k2 k3 k4
  have hct := Lib.hid fun (W : World) (q : CurG W p c b) (R : Ending → World → Prop) (hR : Hid (∀ w', CurG w' p (c) b → W.grownBy w' (some p) → R (.returned (.tuple #[.agg #[.int .i64 0, .int .i64 0, .int .i64 0, .string ⟨#[]⟩, .int .i64 0], .bool false])) w')) => cqtake_calls c p b n W q R (Lib.hid fun w' q' g => by
    rw [if_neg hP] at q'
    rw [if_neg hP, decide_eq_false hP, show tkV zT = .agg #[.int .i64 0, .int .i64 0, .int .i64 0, .string ⟨#[]⟩, .int .i64 0] from rfl]
    exact hR.out w' q' g)
  rw [ht] at hz
  have z1 : decide (t.1 = 0) = true := by simpa using hz
  have z2 : (t.1 == 0) = true := by simpa using hz
  have z3 : (t.1 != 0) = false := by simpa using hz
  refine cT.out n ⟨#[]⟩ true W D.out.g _ (Lib.hid fun v4 w4 r4 n4 => ?_)
  rw [hT] at r4 ⊢
  rw [hS]
  obtain ⟨A4, e4, rfl, -, -⟩ := r4.op
  have q4 := Lib.hid (heap_alloc_new w4 (.cells #[.slice A4 (c).1.length e4, .int .i64 (c).2.1, .int .i64 (c).2.2.1, .int .i64 (c).2.2.2] 34))
  have n4' := n4.alloc n4.size (.cells #[.slice A4 (c).1.length e4, .int .i64 (c).2.1, .int .i64 (c).2.2.1, .int .i64 (c).2.2.2] 34)
  have hl4 : w4.heap.size < (w4.alloc (.cells #[.slice A4 (c).1.length e4, .int .i64 (c).2.1, .int .i64 (c).2.2.1, .int .i64 (c).2.2.2] 34)).heap.size := by simp
  have D4 := D.out.below n4'
  have hlt := D4.l8
  have hHB := D4.b8
  have hWB := D.out.l8
  have hB4 := n4.size
  have t0 := D4.t0
  have o1 : (w4.alloc (.cells #[.slice A4 (c).1.length e4, .int .i64 (c).2.1, .int .i64 (c).2.2.1, .int .i64 (c).2.2.2] 34)).cell? ⟨w.heap.size + 1, 1, none⟩ = some (.int .i64 n) := D4.o1
  replace D4 := Lib.hid D4
  have cp4 := Lib.hid (cp.below hpl hbl ((nb.out.trans (n4'.mono nb.out.size))))
  replace r4 := Lib.hid r4
  clear n4 n4'
  go_wp2_with fail
  clear t0 o1
  generalize w4.alloc (.cells #[.slice A4 (c).1.length e4, .int .i64 (c).2.1, .int .i64 (c).2.2.1, .int .i64 (c).2.2.2] 34) = W4 at *
  generalize hE : w4.heap.size = E4 at *
  refine hct.out W4 cp4.out _ (Lib.hid fun w5 cp5 g5 => ?_)
  have D5 := D4.out.grown g5
  have q5 := (g5.block _ hl4 (by simp; omega)).trans q4.out
  have hl5 := Nat.lt_of_lt_of_le hl4 g5.size
  have hBl := D5.l8
  have bT := (Below.refl w5.heap.size w5).alloc (Nat.le_refl _) (.cells #[.int .i64 0, .int .i64 0, .int .i64 0, .string ⟨#[]⟩, .int .i64 0] 40)
  have D6 := D5.below bT
  have q6 := (bT.block _ hl5).trans q5
  obtain ⟨v0, v1, v2, v3, v4⟩ := box_five' w5 (.int .i64 0) (.int .i64 0) (.int .i64 0) (.string ⟨#[]⟩) (.int .i64 0) 40
  have j0 := (Lib.cell_of_heap q6 0).trans rfl
  have j1 := (Lib.cell_of_heap q6 1).trans rfl
  have j2 := (Lib.cell_of_heap q6 2).trans rfl
  have j3 := (Lib.cell_of_heap q6 3).trans rfl
  have t0 := D6.t0
  have t1 := D6.t1
  have t2 := D6.t2
  have t3 := D6.t3
  have t4 := D6.t4
  have cp6 := Lib.hid (cp5.all bT)
  have hl6 : w5.heap.size < (w5.alloc (.cells #[.int .i64 0, .int .i64 0, .int .i64 0, .string ⟨#[]⟩, .int .i64 0] 40)).heap.size := by simp
  have hp5 : p < W4.heap.size := Nat.lt_of_lt_of_le hpl D4.out.g.size
  replace D6 := Lib.hid D6
  clear D5 D4 D g5 q4 q5 q6 bT cp5 cp4 nb
  go_wp2_with fail
  generalize w5.alloc (.cells #[.int .i64 0, .int .i64 0, .int .i64 0, .string ⟨#[]⟩, .int .i64 0] 40) = W6 at *
  have h0x := D6.out.r 0 (by decide)
  obtain ⟨u0, h0⟩ := D6.out.r 0 (by decide)
  obtain ⟨u1, h1⟩ := D6.out.r 1 (by decide)
  obtain ⟨u2, h2⟩ := D6.out.r 2 (by decide)
  obtain ⟨u3, h3⟩ := D6.out.r 3 (by decide)
  have f0 := D6.out.f 0
  have f1 := D6.out.f 1
  have f2 := D6.out.f 2
  have f3 := D6.out.f 3
  change W6.cell? ⟨w.heap.size + 1 + 1, 0, none⟩ = some u0 at h0
  change W6.cell? ⟨w.heap.size + 1 + 1, 1, none⟩ = some u1 at h1
  change W6.cell? ⟨w.heap.size + 1 + 1, 2, none⟩ = some u2 at h2
  change W6.cell? ⟨w.heap.size + 1 + 1, 3, none⟩ = some u3 at h3
  change W6.frozen? ⟨w.heap.size + 1 + 1, 0, none⟩ = false at f0
  change W6.frozen? ⟨w.heap.size + 1 + 1, 1, none⟩ = false at f1
  change W6.frozen? ⟨w.heap.size + 1 + 1, 2, none⟩ = false at f2
  change W6.frozen? ⟨w.heap.size + 1 + 1, 3, none⟩ = false at f3
  have gW : Below W6.heap.size W6 (W6.drewN 1) := ⟨rfl, rfl, rfl, Nat.le_refl _, fun _ _ => rfl⟩
  have gF := Lib.hid (grown_four (grown_tr D6.out.g (grown_bl (row := some p) gW (Nat.le_refl _))) (q := w.heap.size + 1 + 1) (by omega) (.slice A4 (c).1.length e4) (.int .i64 (c).2.1) (.int .i64 (c).2.2.1) (.int .i64 (c).2.2.2))
  have cpF := Lib.hid ((cp6.out.all gW).four (q := w.heap.size + 1 + 1) (by omega) (by omega) (.slice A4 (c).1.length e4) (.int .i64 (c).2.1) (.int .i64 (c).2.2.1) (.int .i64 (c).2.2.2))
  have gG := Lib.hid (GW.of (p := p) (w.heap.size + 1 + 1) (grown_bl (row := some p) gW (Nat.le_refl _)))
  have d6 := D6.out
  have y0 := fun y : GW W6 p (w.heap.size + 1 + 1) => y.cell (by omega) (by omega) (by omega) j0
  have y1 := fun y : GW W6 p (w.heap.size + 1 + 1) => y.cell (by omega) (by omega) (by omega) j1
  have y2 := fun y : GW W6 p (w.heap.size + 1 + 1) => y.cell (by omega) (by omega) (by omega) j2
  have y3 := fun y : GW W6 p (w.heap.size + 1 + 1) => y.cell (by omega) (by omega) (by omega) j3
  have x0 := fun y : GW W6 p (w.heap.size + 1 + 1) => y.cell (by omega) (by omega) (by omega) v0
  have x1 := fun y : GW W6 p (w.heap.size + 1 + 1) => y.cell (by omega) (by omega) (by omega) v1
  have x2 := fun y : GW W6 p (w.heap.size + 1 + 1) => y.cell (by omega) (by omega) (by omega) v2
  have x3 := fun y : GW W6 p (w.heap.size + 1 + 1) => y.cell (by omega) (by omega) (by omega) v3
  have x4 := fun y : GW W6 p (w.heap.size + 1 + 1) => y.cell (by omega) (by omega) (by omega) v4
  have s0 := fun y : GW W6 p (w.heap.size + 1 + 1) => y.cell (by omega) (by omega) (by omega) t0
  have s1 := fun y : GW W6 p (w.heap.size + 1 + 1) => y.cell (by omega) (by omega) (by omega) t1
  have s2 := fun y : GW W6 p (w.heap.size + 1 + 1) => y.cell (by omega) (by omega) (by omega) t2
  have s3 := fun y : GW W6 p (w.heap.size + 1 + 1) => y.cell (by omega) (by omega) (by omega) t3
  have s4 := fun y : GW W6 p (w.heap.size + 1 + 1) => y.cell (by omega) (by omega) (by omega) t4
  clear h0x cp6 D6 d6 j0 j1 j2 j3 v0 v1 v2 v3 v4 t0 t1 t2 t3 t4 hct cN cT cF gW
  refine wp_region_mixG p (w.heap.size + 1 + 1) [([0,1,2,3,4,5,6,7,8,9,10,11,12,13,14,15,16,17,18,19,20], 21)] [22] (by kernel_rfl) (by kernel_rfl) (by kernel_rfl) (by kernel_rfl) (fun _ _ d _ _ h => by cases d <;> exact h) ?_
  refine mix_cons (os := [_, _, _, _, _, _, _, _, _, _, _, _, _, _, _, _, _, _, _, _, _]) (by simp only [pickO, List.filterMap_cons, List.filterMap_nil, List.getElem?_toArray, List.getElem?_cons_succ, List.getElem?_cons_zero]; rfl) (fun Kp hKp => ?_)
  repeat (go_big_quiet_step (exact rfl))
  refine wpQuiet_nil ?_
  refine hKp _ ?_
  clear hKp
  refine loud (by rfl) (by kernel_rfl) (fun K6 hK6 => ?_)
  go_simp
  refine hK6 _ _ (GW.four gG.out _ _ _ _) ?_
  clear hK6
  refine mix_nil (os := [_]) (by simp only [pickO, List.filterMap_cons, List.filterMap_nil, List.getElem?_toArray, List.getElem?_cons_succ, List.getElem?_cons_zero]; rfl) (fun Kp hKp => ?_)
  repeat (go_big_quiet_step (exact rfl))
  refine wpQuiet_nil ?_
  refine hKp _ ?_
  clear hKp
  go_wp2_with fail
  refine bodyPost_ret ?_ rfl (hR.out _ _ _ r4.out (by omega) cpF.out gF.out)
  simp [results, Tryz.results7, go_sem, h0, h1, h2, h3]
set_option maxRecDepth 100000 in
set_option maxHeartbeats 4000000 in
theorem does4c_calls (c : Cu) (v : Value) (p : Nat) (n a : Int) (x : ByteArray) (w : World) (b : Nat) (cp : CurG w p c b) (hx : RdK (cutW w p) v c.1) (hl : EndL c.1) (hll : c.1.length ≤ 1000000) (hd : 0 ≤ c.2.1 ∧ c.2.1 ≤ 24) (hS : hasS c n ⟨#[]⟩ true = false) (hT : takeS c n ⟨#[]⟩ true = c) (hP : ¬ (n ≠ 0 ∧ (peekS c).1 = n)) (R : Ending → World → Prop)
    (hR : Hid (∀ v' w' b', RdK (cutW w p) v' (takeS c n ⟨#[]⟩ true).1 → (b' = b ∨ w.heap.size ≤ b') → CurG w' p (takeS c n ⟨#[]⟩ true) b' → w.grownBy w' (some p) → R (.returned (.tuple #[cuV v' (takeS c n ⟨#[]⟩ true), .bool true])) w')) :
    Calls Tryz.prog 7 #[ptV p, cuV v c, .agg #[.int .i64 4, .int .i64 n, .int .i64 a, .string x]] w R := by
  rw [hT] at hR
  have hpl := cp.lt
  have hbl := cp.lg
  have cP := Lib.hid fun (W : World) (g : w.grownBy W (some p)) R hR => refpeek14_calls c v W (rd_uncut hx hpl g).1 hl R hR
  have cN := Lib.hid fun (W : World) (g : w.grownBy W (some p)) R hR => refnext14x_calls c v W (cutW w p) hx (rd_uncut hx hpl g).1 hl hll R hR
  have cT := Lib.hid fun (k : Int) (x : ByteArray) (any : Bool) (W : World) (g : w.grownBy W (some p)) R hR => reftake14x_calls c v k x any W (cutW w p) hx (rd_uncut hx hpl g).1 hl hll R hR
  have cF := Lib.hid fun (e z : Int) (W : World) (g : w.grownBy W (some p)) R hR => reffail14x_calls c v e z W (cutW w p) hx (rd_uncut hx hpl g).1 R hR
  obtain ⟨Av, cv, rfl, -, -⟩ := hx.op
  obtain ⟨t, ht⟩ : ∃ t, peekS c = t := ⟨_, rfl⟩
  rw [ht] at cP
  simp only [tkV] at cP
  have hN := Lib.hid fun w3 n3 => Dz.new (w := w) (w3 := w3) (p := p) (v := .slice Av c.1.length cv) (c := c) (o := ((4, n, a, x))) (t := t) hpl n3
  have b1 := (Below.refl w.heap.size w).alloc (Nat.le_refl _) (.cells #[.slice Av c.1.length cv, .int .i64 c.2.1, .int .i64 c.2.2.1, .int .i64 c.2.2.2] 34)
  have b2 := b1.alloc b1.size (.cells #[.int .i64 4, .int .i64 n, .int .i64 a, .string x] 38)
  have b3 := Lib.hid (b2.alloc b2.size (.cells #[.slice none 0 0, .int .i64 0, .int .i64 0, .int .i64 0] 34))
  obtain ⟨q1, q2, q3⟩ := tri (w := w) (.cells #[.slice Av c.1.length cv, .int .i64 c.2.1, .int .i64 c.2.2.1, .int .i64 c.2.2.2] 34) (.cells #[.int .i64 4, .int .i64 n, .int .i64 a, .string x] 38) (.cells #[.slice none 0 0, .int .i64 0, .int .i64 0, .int .i64 0] 34)
  have j0 := (Lib.cell_of_heap q1 0).trans rfl
  have j1 := (Lib.cell_of_heap q1 1).trans rfl
  have j2 := (Lib.cell_of_heap q1 2).trans rfl
  have j3 := (Lib.cell_of_heap q1 3).trans rfl
  clear b1 b2 q1 q2 q3
  go_enter Tryz.func7, Tryz.ntmps7
  go_wp2_with fail
  clear j0 j1 j2 j3
  refine cP.out _ (grown_bl b3.out (Nat.le_refl _)) _ (Lib.hid fun w3 n3 => ?_)
  have D := hN.out w3 n3
  have nb := Lib.hid (b3.out.trans ((n3.alloc n3.size (.cells #[.int .i64 t.1, .int .i64 t.2.1, .int .i64 t.2.2.1, .string t.2.2.2.1, .int .i64 t.2.2.2.2] 40)).mono b3.out.size))
  obtain ⟨B, hB⟩ : ∃ B, w3.heap.size = B := ⟨_, rfl⟩
  obtain ⟨k0, k1, k2, k3, k4⟩ := box_five' w3 (.int .i64 t.1) (.int .i64 t.2.1) (.int .i64 t.2.2.1) (.string t.2.2.2.1) (.int .i64 t.2.2.2.2) 40
  have o0 := D.o0
  have o1 := D.o1
  have o2 := D.o2
  have o3 := D.o3
  have c0 := D.c0
  have c1 := D.c1
  have c2 := D.c2
  have c3 := D.c3
  replace D := Lib.hid D
  clear n3 hN b3 cP
  go_wp2_with fail
  generalize w3.alloc (.cells #[.int .i64 t.1, .int .i64 t.2.1, .int .i64 t.2.2.1, .string t.2.2.2.1, .int .i64 t.2.2.2.2] 40) = W at *
  rw [hB] at D
  clear hB o0 o1 o2 o3 c0 c1 c2 c3 k0 k1 k2 k3 k4
  have hct := Lib.hid fun (W : World) (q : CurG W p c b) (R : Ending → World → Prop) (hR : Hid (∀ w', CurG w' p (c) b → W.grownBy w' (some p) → R (.returned (.tuple #[.agg #[.int .i64 0, .int .i64 0, .int .i64 0, .string ⟨#[]⟩, .int .i64 0], .bool false])) w')) => cqtake_calls c p b n W q R (Lib.hid fun w' q' g => by
    rw [if_neg hP] at q'
    rw [if_neg hP, decide_eq_false hP, show tkV zT = .agg #[.int .i64 0, .int .i64 0, .int .i64 0, .string ⟨#[]⟩, .int .i64 0] from rfl]
    exact hR.out w' q' g)
  refine cT.out n ⟨#[]⟩ true W D.out.g _ (Lib.hid fun v4 w4 r4 n4 => ?_)
  rw [hT] at r4 ⊢
  rw [hS]
  obtain ⟨A4, e4, rfl, -, -⟩ := r4.op
  have q4 := Lib.hid (heap_alloc_new w4 (.cells #[.slice A4 (c).1.length e4, .int .i64 (c).2.1, .int .i64 (c).2.2.1, .int .i64 (c).2.2.2] 34))
  have n4' := n4.alloc n4.size (.cells #[.slice A4 (c).1.length e4, .int .i64 (c).2.1, .int .i64 (c).2.2.1, .int .i64 (c).2.2.2] 34)
  have hl4 : w4.heap.size < (w4.alloc (.cells #[.slice A4 (c).1.length e4, .int .i64 (c).2.1, .int .i64 (c).2.2.1, .int .i64 (c).2.2.2] 34)).heap.size := by simp
  have D4 := D.out.below n4'
  have hlt := D4.l8
  have hHB := D4.b8
  have hWB := D.out.l8
  have hB4 := n4.size
  have t0 := D4.t0
  have o1 : (w4.alloc (.cells #[.slice A4 (c).1.length e4, .int .i64 (c).2.1, .int .i64 (c).2.2.1, .int .i64 (c).2.2.2] 34)).cell? ⟨w.heap.size + 1, 1, none⟩ = some (.int .i64 n) := D4.o1
  replace D4 := Lib.hid D4
  have cp4 := Lib.hid (cp.below hpl hbl ((nb.out.trans (n4'.mono nb.out.size))))
  replace r4 := Lib.hid r4
  clear n4 n4'
  go_wp2_with fail
  clear t0 o1
  generalize w4.alloc (.cells #[.slice A4 (c).1.length e4, .int .i64 (c).2.1, .int .i64 (c).2.2.1, .int .i64 (c).2.2.2] 34) = W4 at *
  generalize hE : w4.heap.size = E4 at *
  refine hct.out W4 cp4.out _ (Lib.hid fun w5 cp5 g5 => ?_)
  have D5 := D4.out.grown g5
  have q5 := (g5.block _ hl4 (by simp; omega)).trans q4.out
  have hl5 := Nat.lt_of_lt_of_le hl4 g5.size
  have hBl := D5.l8
  have bT := (Below.refl w5.heap.size w5).alloc (Nat.le_refl _) (.cells #[.int .i64 0, .int .i64 0, .int .i64 0, .string ⟨#[]⟩, .int .i64 0] 40)
  have D6 := D5.below bT
  have q6 := (bT.block _ hl5).trans q5
  obtain ⟨v0, v1, v2, v3, v4⟩ := box_five' w5 (.int .i64 0) (.int .i64 0) (.int .i64 0) (.string ⟨#[]⟩) (.int .i64 0) 40
  have j0 := (Lib.cell_of_heap q6 0).trans rfl
  have j1 := (Lib.cell_of_heap q6 1).trans rfl
  have j2 := (Lib.cell_of_heap q6 2).trans rfl
  have j3 := (Lib.cell_of_heap q6 3).trans rfl
  have t0 := D6.t0
  have t1 := D6.t1
  have t2 := D6.t2
  have t3 := D6.t3
  have t4 := D6.t4
  have cp6 := Lib.hid (cp5.all bT)
  have hl6 : w5.heap.size < (w5.alloc (.cells #[.int .i64 0, .int .i64 0, .int .i64 0, .string ⟨#[]⟩, .int .i64 0] 40)).heap.size := by simp
  have hp5 : p < W4.heap.size := Nat.lt_of_lt_of_le hpl D4.out.g.size
  replace D6 := Lib.hid D6
  clear D5 D4 D g5 q4 q5 q6 bT cp5 cp4 nb
  go_wp2_with fail
  generalize w5.alloc (.cells #[.int .i64 0, .int .i64 0, .int .i64 0, .string ⟨#[]⟩, .int .i64 0] 40) = W6 at *
  have h0x := D6.out.r 0 (by decide)
  obtain ⟨u0, h0⟩ := D6.out.r 0 (by decide)
  obtain ⟨u1, h1⟩ := D6.out.r 1 (by decide)
  obtain ⟨u2, h2⟩ := D6.out.r 2 (by decide)
  obtain ⟨u3, h3⟩ := D6.out.r 3 (by decide)
  have f0 := D6.out.f 0
  have f1 := D6.out.f 1
  have f2 := D6.out.f 2
  have f3 := D6.out.f 3
  change W6.cell? ⟨w.heap.size + 1 + 1, 0, none⟩ = some u0 at h0
  change W6.cell? ⟨w.heap.size + 1 + 1, 1, none⟩ = some u1 at h1
  change W6.cell? ⟨w.heap.size + 1 + 1, 2, none⟩ = some u2 at h2
  change W6.cell? ⟨w.heap.size + 1 + 1, 3, none⟩ = some u3 at h3
  change W6.frozen? ⟨w.heap.size + 1 + 1, 0, none⟩ = false at f0
  change W6.frozen? ⟨w.heap.size + 1 + 1, 1, none⟩ = false at f1
  change W6.frozen? ⟨w.heap.size + 1 + 1, 2, none⟩ = false at f2
  change W6.frozen? ⟨w.heap.size + 1 + 1, 3, none⟩ = false at f3
  have gW : Below W6.heap.size W6 (W6.drewN 1) := ⟨rfl, rfl, rfl, Nat.le_refl _, fun _ _ => rfl⟩
  have gF := Lib.hid (grown_four (grown_tr D6.out.g (grown_bl (row := some p) gW (Nat.le_refl _))) (q := w.heap.size + 1 + 1) (by omega) (.slice A4 (c).1.length e4) (.int .i64 (c).2.1) (.int .i64 (c).2.2.1) (.int .i64 (c).2.2.2))
  have cpF := Lib.hid ((cp6.out.all gW).four (q := w.heap.size + 1 + 1) (by omega) (by omega) (.slice A4 (c).1.length e4) (.int .i64 (c).2.1) (.int .i64 (c).2.2.1) (.int .i64 (c).2.2.2))
  have gG := Lib.hid (GW.of (p := p) (w.heap.size + 1 + 1) (grown_bl (row := some p) gW (Nat.le_refl _)))
  have d6 := D6.out
  have y0 := fun y : GW W6 p (w.heap.size + 1 + 1) => y.cell (by omega) (by omega) (by omega) j0
  have y1 := fun y : GW W6 p (w.heap.size + 1 + 1) => y.cell (by omega) (by omega) (by omega) j1
  have y2 := fun y : GW W6 p (w.heap.size + 1 + 1) => y.cell (by omega) (by omega) (by omega) j2
  have y3 := fun y : GW W6 p (w.heap.size + 1 + 1) => y.cell (by omega) (by omega) (by omega) j3
  have x0 := fun y : GW W6 p (w.heap.size + 1 + 1) => y.cell (by omega) (by omega) (by omega) v0
  have x1 := fun y : GW W6 p (w.heap.size + 1 + 1) => y.cell (by omega) (by omega) (by omega) v1
  have x2 := fun y : GW W6 p (w.heap.size + 1 + 1) => y.cell (by omega) (by omega) (by omega) v2
  have x3 := fun y : GW W6 p (w.heap.size + 1 + 1) => y.cell (by omega) (by omega) (by omega) v3
  have x4 := fun y : GW W6 p (w.heap.size + 1 + 1) => y.cell (by omega) (by omega) (by omega) v4
  have s0 := fun y : GW W6 p (w.heap.size + 1 + 1) => y.cell (by omega) (by omega) (by omega) t0
  have s1 := fun y : GW W6 p (w.heap.size + 1 + 1) => y.cell (by omega) (by omega) (by omega) t1
  have s2 := fun y : GW W6 p (w.heap.size + 1 + 1) => y.cell (by omega) (by omega) (by omega) t2
  have s3 := fun y : GW W6 p (w.heap.size + 1 + 1) => y.cell (by omega) (by omega) (by omega) t3
  have s4 := fun y : GW W6 p (w.heap.size + 1 + 1) => y.cell (by omega) (by omega) (by omega) t4
  clear h0x cp6 D6 d6 j0 j1 j2 j3 v0 v1 v2 v3 v4 t0 t1 t2 t3 t4 hct cN cT cF gW
  refine wp_region_mixG p (w.heap.size + 1 + 1) [([0,1,2,3,4,5,6,7,8,9,10,11,12,13,14,15,16,17,18,19,20], 21)] [22] (by kernel_rfl) (by kernel_rfl) (by kernel_rfl) (by kernel_rfl) (fun _ _ d _ _ h => by cases d <;> exact h) ?_
  refine mix_cons (os := [_, _, _, _, _, _, _, _, _, _, _, _, _, _, _, _, _, _, _, _, _]) (by simp only [pickO, List.filterMap_cons, List.filterMap_nil, List.getElem?_toArray, List.getElem?_cons_succ, List.getElem?_cons_zero]; rfl) (fun Kp hKp => ?_)
  repeat (go_big_quiet_step (exact rfl))
  refine wpQuiet_nil ?_
  refine hKp _ ?_
  clear hKp
  refine loud (by rfl) (by kernel_rfl) (fun K6 hK6 => ?_)
  go_simp
  refine hK6 _ _ (GW.four gG.out _ _ _ _) ?_
  clear hK6
  refine mix_nil (os := [_]) (by simp only [pickO, List.filterMap_cons, List.filterMap_nil, List.getElem?_toArray, List.getElem?_cons_succ, List.getElem?_cons_zero]; rfl) (fun Kp hKp => ?_)
  repeat (go_big_quiet_step (exact rfl))
  refine wpQuiet_nil ?_
  refine hKp _ ?_
  clear hKp
  go_wp2_with fail
  refine bodyPost_ret ?_ rfl (hR.out _ _ _ r4.out (by omega) cpF.out gF.out)
  simp [results, Tryz.results7, go_sem, h0, h1, h2, h3]
end Go.Proofs.YtmchgimbfdeaiaaGreat.Cur
