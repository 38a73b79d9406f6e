import Derived.Test.YtmchgimbfdeaiaaGreatG13
import Derived.OwnWalk
/- Layer 14: does walked, a kind at a time (1). -/
set_option maxRecDepth 100000
set_option linter.unusedVariables false
namespace Go.Proofs.YtmchgimbfdeaiaaGreat.Cur
open Go.RowKit Go.Lib Go.Proofs.YtmchgimbfdeaiaaGreat.Utf Go.Proofs.YtmchgimbfdeaiaaGreat.Tok

set_option maxRecDepth 100000 in
set_option maxHeartbeats 4000000 in
theorem does1_calls (c : Cu) (v : Value) (p : Nat) (n a : Int) (x : ByteArray) (w : World) (b : Nat) (cp : CurG w p c b) (hx : RdK (cutW w p) v c.1) (hl : EndL c.1) (hll : c.1.length ≤ 1000000) (hd : 0 ≤ c.2.1 ∧ c.2.1 ≤ 24) (R : Ending → World → Prop)
    (hR : Hid (∀ v' w' b', RdK (cutW w p) v' (nextS c).1 → (b' = b ∨ w.heap.size ≤ b') → CurG w' p (nextS c) b' → w.grownBy w' (some p) → R (.returned (.tuple #[cuV v' (nextS c), .bool true])) w')) :
    Calls Tryz.prog 7 #[ptV p, cuV v c, .agg #[.int .i64 1, .int .i64 n, .int .i64 a, .string x]] w R := by
  have hpl := cp.lt
  have hbl := cp.lg
  have cP := Lib.hid fun (W : World) (g : w.grownBy W (some p)) R hR => refpeek14_calls c v W (rd_uncut hx hpl g).1 hl R hR
  have cN := Lib.hid fun (W : World) (g : w.grownBy W (some p)) R hR => refnext14x_calls c v W (cutW w p) hx (rd_uncut hx hpl g).1 hl hll R hR
  have cT := Lib.hid fun (k : Int) (x : ByteArray) (any : Bool) (W : World) (g : w.grownBy W (some p)) R hR => reftake14x_calls c v k x any W (cutW w p) hx (rd_uncut hx hpl g).1 hl hll R hR
  have cF := Lib.hid fun (e z : Int) (W : World) (g : w.grownBy W (some p)) R hR => reffail14x_calls c v e z W (cutW w p) hx (rd_uncut hx hpl g).1 R hR
  obtain ⟨Av, cv, rfl, -, -⟩ := hx.op
  obtain ⟨t, ht⟩ : ∃ t, peekS c = t := ⟨_, rfl⟩
  rw [ht] at cP
  simp only [tkV] at cP
  have hN := Lib.hid fun w3 n3 => Dz.new (w := w) (w3 := w3) (p := p) (v := .slice Av c.1.length cv) (c := c) (o := ((1, n, a, x))) (t := t) hpl n3
  have b1 := (Below.refl w.heap.size w).alloc (Nat.le_refl _) (.cells #[.slice Av c.1.length cv, .int .i64 c.2.1, .int .i64 c.2.2.1, .int .i64 c.2.2.2] 34)
  have b2 := b1.alloc b1.size (.cells #[.int .i64 1, .int .i64 n, .int .i64 a, .string x] 38)
  have b3 := Lib.hid (b2.alloc b2.size (.cells #[.slice none 0 0, .int .i64 0, .int .i64 0, .int .i64 0] 34))
  obtain ⟨q1, q2, q3⟩ := tri (w := w) (.cells #[.slice Av c.1.length cv, .int .i64 c.2.1, .int .i64 c.2.2.1, .int .i64 c.2.2.2] 34) (.cells #[.int .i64 1, .int .i64 n, .int .i64 a, .string x] 38) (.cells #[.slice none 0 0, .int .i64 0, .int .i64 0, .int .i64 0] 34)
  have j0 := (Lib.cell_of_heap q1 0).trans rfl
  have j1 := (Lib.cell_of_heap q1 1).trans rfl
  have j2 := (Lib.cell_of_heap q1 2).trans rfl
  have j3 := (Lib.cell_of_heap q1 3).trans rfl
  clear b1 b2 q1 q2 q3
  go_enter Tryz.func7, Tryz.ntmps7
  go_wp2_with fail
  clear j0 j1 j2 j3
  refine cP.out _ (grown_bl b3.out (Nat.le_refl _)) _ (Lib.hid fun w3 n3 => ?_)
  have D := hN.out w3 n3
  have nb := Lib.hid (b3.out.trans ((n3.alloc n3.size (.cells #[.int .i64 t.1, .int .i64 t.2.1, .int .i64 t.2.2.1, .string t.2.2.2.1, .int .i64 t.2.2.2.2] 40)).mono b3.out.size))
  obtain ⟨B, hB⟩ : ∃ B, w3.heap.size = B := ⟨_, rfl⟩
  obtain ⟨k0, k1, k2, k3, k4⟩ := box_five' w3 (.int .i64 t.1) (.int .i64 t.2.1) (.int .i64 t.2.2.1) (.string t.2.2.2.1) (.int .i64 t.2.2.2.2) 40
  have o0 := D.o0
  have o1 := D.o1
  have o2 := D.o2
  have o3 := D.o3
  have c0 := D.c0
  have c1 := D.c1
  have c2 := D.c2
  have c3 := D.c3
  replace D := Lib.hid D
  clear n3 hN b3 cP
  go_wp2_with fail
  generalize w3.alloc (.cells #[.int .i64 t.1, .int .i64 t.2.1, .int .i64 t.2.2.1, .string t.2.2.2.1, .int .i64 t.2.2.2.2] 40) = W at *
  rw [hB] at D
  clear hB o0 o1 o2 o3 c0 c1 c2 c3 k0 k1 k2 k3 k4
  have hlt := D.out.l8
  have hHB := D.out.b8
  have k0 := fun y : GW W p (w.heap.size + 1 + 1) => y.cell (by omega) (by omega) (by omega) D.out.c0
  have k1 := fun y : GW W p (w.heap.size + 1 + 1) => y.cell (by omega) (by omega) (by omega) D.out.c1
  have k2 := fun y : GW W p (w.heap.size + 1 + 1) => y.cell (by omega) (by omega) (by omega) D.out.c2
  have k3 := fun y : GW W p (w.heap.size + 1 + 1) => y.cell (by omega) (by omega) (by omega) D.out.c3
  have m0 := fun y : GW W p (w.heap.size + 1 + 1) => y.cell (by omega) (by omega) (by omega) D.out.t0
  have m1 := fun y : GW W p (w.heap.size + 1 + 1) => y.cell (by omega) (by omega) (by omega) D.out.t1
  have m2 := fun y : GW W p (w.heap.size + 1 + 1) => y.cell (by omega) (by omega) (by omega) D.out.t2
  have m3 := fun y : GW W p (w.heap.size + 1 + 1) => y.cell (by omega) (by omega) (by omega) D.out.t3
  have m4 := fun y : GW W p (w.heap.size + 1 + 1) => y.cell (by omega) (by omega) (by omega) D.out.t4
  refine wp_region_mixG p (w.heap.size + 1 + 1) [([0, 2, 4], 1), ([], 3), ([5], 6)] [7] (by kernel_rfl) (by kernel_rfl) (by kernel_rfl) (by kernel_rfl) (fun _ _ d _ _ h => by cases d <;> exact h) ?_
  have gW : Below W.heap.size W (W.drewN 1) := ⟨rfl, rfl, rfl, Nat.le_refl _, fun _ _ => rfl⟩
  refine mix_cons (os := [_, _, _]) (by simp only [pickO, List.filterMap_cons, List.filterMap_nil, List.getElem?_toArray, List.getElem?_cons_succ, List.getElem?_cons_zero]; rfl) (fun Kp hKp => ?_)
  repeat (go_big_quiet_step (exact rfl))
  refine wpQuiet_nil ?_
  refine hKp _ ?_
  clear hKp
  refine loud (by rfl) (by kernel_rfl) (fun K1 hK1 => ?_)
  go_simp
  refine cN.out _ (grown_tr D.out.g (grown_bl gW (Nat.le_refl _))) _ (Lib.hid fun v4 w4 r4 n4 => ?_)
  replace gW := gW.trans (n4.mono gW.size)
  have cp4 := Lib.hid (cp.below hpl hbl ((nb.out.trans (gW.mono nb.out.size))))
  obtain ⟨A4, e4, rfl, -, -⟩ := r4.op
  replace r4 := Lib.hid r4
  clear n4
  refine hK1 _ _ (GW.of _ (grown_bl gW (Nat.le_refl _))) ?_
  clear hK1
  refine mix_cons (os := []) (by rfl) (fun Kp hKp => ?_)
  repeat (go_big_quiet_step (exact rfl))
  refine wpQuiet_nil ?_
  refine hKp _ ?_
  clear hKp
  refine loud (by rfl) (by kernel_rfl) (fun K3 hK3 => ?_)
  go_simp
  refine next_calls c p b _ cp4.out _ (Lib.hid fun w5 cp5 g5 => ?_)
  rw [ht]
  simp only [tkV]
  have gW5 := grown_tr (grown_bl gW (Nat.le_refl _)) g5
  replace cp5 := Lib.hid cp5
  clear cp4 g5 gW
  refine hK3 _ _ (GW.of _ gW5) ?_
  clear hK3
  refine mix_cons (os := [_]) (by simp only [pickO, List.filterMap_cons, List.filterMap_nil, List.getElem?_toArray, List.getElem?_cons_succ, List.getElem?_cons_zero]; rfl) (fun Kp hKp => ?_)
  repeat (go_big_quiet_step (exact rfl))
  refine wpQuiet_nil ?_
  refine hKp _ ?_
  clear hKp
  refine loud (by rfl) (by kernel_rfl) (fun K6 hK6 => ?_)
  have D5 := D.out.grown gW5
  obtain ⟨u0, h0⟩ := D5.r 0 (by decide)
  obtain ⟨u1, h1⟩ := D5.r 1 (by decide)
  obtain ⟨u2, h2⟩ := D5.r 2 (by decide)
  obtain ⟨u3, h3⟩ := D5.r 3 (by decide)
  have f0 := D5.f 0
  have f1 := D5.f 1
  have f2 := D5.f 2
  have f3 := D5.f 3
  change w5.cell? ⟨w.heap.size + 1 + 1, 0, none⟩ = some u0 at h0
  change w5.cell? ⟨w.heap.size + 1 + 1, 1, none⟩ = some u1 at h1
  change w5.cell? ⟨w.heap.size + 1 + 1, 2, none⟩ = some u2 at h2
  change w5.cell? ⟨w.heap.size + 1 + 1, 3, none⟩ = some u3 at h3
  change w5.frozen? ⟨w.heap.size + 1 + 1, 0, none⟩ = false at f0
  change w5.frozen? ⟨w.heap.size + 1 + 1, 1, none⟩ = false at f1
  change w5.frozen? ⟨w.heap.size + 1 + 1, 2, none⟩ = false at f2
  change w5.frozen? ⟨w.heap.size + 1 + 1, 3, none⟩ = false at f3
  clear D5
  go_simp
  refine hK6 _ _ (GW.four (GW.of _ gW5) _ _ _ _) ?_
  clear hK6
  refine mix_nil (os := [_]) (by simp only [pickO, List.filterMap_cons, List.filterMap_nil, List.getElem?_toArray, List.getElem?_cons_succ, List.getElem?_cons_zero]; rfl) (fun Kp hKp => ?_)
  repeat (go_big_quiet_step (exact rfl))
  refine wpQuiet_nil ?_
  refine hKp _ ?_
  clear hKp
  have gF := Lib.hid (grown_four (grown_tr D.out.g gW5) (q := w.heap.size + 1 + 1) (by omega) (.slice A4 (nextS c).1.length e4) (.int .i64 (nextS c).2.1) (.int .i64 (nextS c).2.2.1) (.int .i64 (nextS c).2.2.2))
  go_wp2_with fail
  have cpF := cp5.out.four (q := w.heap.size + 1 + 1) (by omega) (by omega) (.slice A4 (nextS c).1.length e4) (.int .i64 (nextS c).2.1) (.int .i64 (nextS c).2.2.1) (.int .i64 (nextS c).2.2.2)
  refine bodyPost_ret ?_ rfl (hR.out _ _ _ r4.out (by omega) cpF gF.out)
  simp [results, Tryz.results7, go_sem, h0, h1, h2, h3]
end Go.Proofs.YtmchgimbfdeaiaaGreat.Cur

/- Layer 14: does walked, a kind at a time (2): Mark, Word. -/
set_option maxRecDepth 100000
set_option linter.unusedVariables false
namespace Go.Proofs.YtmchgimbfdeaiaaGreat.Cur
open Go.RowKit Go.Lib Go.Proofs.YtmchgimbfdeaiaaGreat.Utf Go.Proofs.YtmchgimbfdeaiaaGreat.Tok

set_option maxRecDepth 100000 in
set_option maxHeartbeats 4000000 in
theorem does2_calls (c : Cu) (v : Value) (p : Nat) (n a : Int) (x : ByteArray) (w : World) (b : Nat) (cp : CurG w p c b) (hx : RdK (cutW w p) v c.1) (hl : EndL c.1) (hll : c.1.length ≤ 1000000) (hd : 0 ≤ c.2.1 ∧ c.2.1 ≤ 24) (R : Ending → World → Prop)
    (hR : Hid (∀ v' w' b', RdK (cutW w p) v' (takeS c 4 x false).1 → (b' = b ∨ w.heap.size ≤ b') → CurG w' p (takeS c 4 x false) b' → w.grownBy w' (some p) → R (.returned (.tuple #[cuV v' (takeS c 4 x false), .bool true])) w')) :
    Calls Tryz.prog 7 #[ptV p, cuV v c, .agg #[.int .i64 2, .int .i64 n, .int .i64 a, .string x]] w R := by
  have hpl := cp.lt
  have hbl := cp.lg
  have cP := Lib.hid fun (W : World) (g : w.grownBy W (some p)) R hR => refpeek14_calls c v W (rd_uncut hx hpl g).1 hl R hR
  have cN := Lib.hid fun (W : World) (g : w.grownBy W (some p)) R hR => refnext14x_calls c v W (cutW w p) hx (rd_uncut hx hpl g).1 hl hll R hR
  have cT := Lib.hid fun (k : Int) (x : ByteArray) (any : Bool) (W : World) (g : w.grownBy W (some p)) R hR => reftake14x_calls c v k x any W (cutW w p) hx (rd_uncut hx hpl g).1 hl hll R hR
  have cF := Lib.hid fun (e z : Int) (W : World) (g : w.grownBy W (some p)) R hR => reffail14x_calls c v e z W (cutW w p) hx (rd_uncut hx hpl g).1 R hR
  obtain ⟨Av, cv, rfl, -, -⟩ := hx.op
  obtain ⟨t, ht⟩ : ∃ t, peekS c = t := ⟨_, rfl⟩
  rw [ht] at cP
  simp only [tkV] at cP
  have hN := Lib.hid fun w3 n3 => Dz.new (w := w) (w3 := w3) (p := p) (v := .slice Av c.1.length cv) (c := c) (o := ((2, n, a, x))) (t := t) hpl n3
  have b1 := (Below.refl w.heap.size w).alloc (Nat.le_refl _) (.cells #[.slice Av c.1.length cv, .int .i64 c.2.1, .int .i64 c.2.2.1, .int .i64 c.2.2.2] 34)
  have b2 := b1.alloc b1.size (.cells #[.int .i64 2, .int .i64 n, .int .i64 a, .string x] 38)
  have b3 := Lib.hid (b2.alloc b2.size (.cells #[.slice none 0 0, .int .i64 0, .int .i64 0, .int .i64 0] 34))
  obtain ⟨q1, q2, q3⟩ := tri (w := w) (.cells #[.slice Av c.1.length cv, .int .i64 c.2.1, .int .i64 c.2.2.1, .int .i64 c.2.2.2] 34) (.cells #[.int .i64 2, .int .i64 n, .int .i64 a, .string x] 38) (.cells #[.slice none 0 0, .int .i64 0, .int .i64 0, .int .i64 0] 34)
  have j0 := (Lib.cell_of_heap q1 0).trans rfl
  have j1 := (Lib.cell_of_heap q1 1).trans rfl
  have j2 := (Lib.cell_of_heap q1 2).trans rfl
  have j3 := (Lib.cell_of_heap q1 3).trans rfl
  clear b1 b2 q1 q2 q3
  go_enter Tryz.func7, Tryz.ntmps7
  go_wp2_with fail
  clear j0 j1 j2 j3
  refine cP.out _ (grown_bl b3.out (Nat.le_refl _)) _ (Lib.hid fun w3 n3 => ?_)
  have D := hN.out w3 n3
  have nb := Lib.hid (b3.out.trans ((n3.alloc n3.size (.cells #[.int .i64 t.1, .int .i64 t.2.1, .int .i64 t.2.2.1, .string t.2.2.2.1, .int .i64 t.2.2.2.2] 40)).mono b3.out.size))
  obtain ⟨B, hB⟩ : ∃ B, w3.heap.size = B := ⟨_, rfl⟩
  obtain ⟨k0, k1, k2, k3, k4⟩ := box_five' w3 (.int .i64 t.1) (.int .i64 t.2.1) (.int .i64 t.2.2.1) (.string t.2.2.2.1) (.int .i64 t.2.2.2.2) 40
  have o0 := D.o0
  have o1 := D.o1
  have o2 := D.o2
  have o3 := D.o3
  have c0 := D.c0
  have c1 := D.c1
  have c2 := D.c2
  have c3 := D.c3
  replace D := Lib.hid D
  clear n3 hN b3 cP
  go_wp2_with fail
  generalize w3.alloc (.cells #[.int .i64 t.1, .int .i64 t.2.1, .int .i64 t.2.2.1, .string t.2.2.2.1, .int .i64 t.2.2.2.2] 40) = W at *
  rw [hB] at D
  clear hB o0 o1 o2 o3 c0 c1 c2 c3 k0 k1 k2 k3 k4
  refine cT.out 4 x false W D.out.g _ (Lib.hid fun v4 w4 r4 n4 => ?_)
  obtain ⟨A4, e4, rfl, -, -⟩ := r4.op
  obtain ⟨k0, k1, k2, k3⟩ := box_four w4 (.slice A4 (takeS c 4 x false).1.length e4) (.int .i64 (takeS c 4 x false).2.1) (.int .i64 (takeS c 4 x false).2.2.1) (.int .i64 (takeS c 4 x false).2.2.2) 34
  have n4' := n4.alloc n4.size (.cells #[.slice A4 (takeS c 4 x false).1.length e4, .int .i64 (takeS c 4 x false).2.1, .int .i64 (takeS c 4 x false).2.2.1, .int .i64 (takeS c 4 x false).2.2.2] 34)
  have D4 := Lib.hid (D.out.below n4')
  have cp4 := cp.below hpl hbl ((nb.out.trans (n4'.mono nb.out.size)))
  have hlt := D4.out.l8
  have hHB := D4.out.b8
  have hWB := D.out.l8
  have hB4 := n4.size
  have hl4 : w4.heap.size < (w4.alloc (.cells #[.slice A4 (takeS c 4 x false).1.length e4, .int .i64 (takeS c 4 x false).2.1, .int .i64 (takeS c 4 x false).2.2.1, .int .i64 (takeS c 4 x false).2.2.2] 34)).heap.size := by simp
  replace r4 := Lib.hid r4
  clear n4 n4' nb D
  go_wp2_with fail
  generalize w4.alloc (.cells #[.slice A4 (takeS c 4 x false).1.length e4, .int .i64 (takeS c 4 x false).2.1, .int .i64 (takeS c 4 x false).2.2.1, .int .i64 (takeS c 4 x false).2.2.2] 34) = W4 at *
  generalize hE : w4.heap.size = E4 at *
  replace k0 := fun y : GW W4 p (w.heap.size + 1 + 1) => y.cell (by omega) (by omega) (by omega) k0
  replace k1 := fun y : GW W4 p (w.heap.size + 1 + 1) => y.cell (by omega) (by omega) (by omega) k1
  replace k2 := fun y : GW W4 p (w.heap.size + 1 + 1) => y.cell (by omega) (by omega) (by omega) k2
  replace k3 := fun y : GW W4 p (w.heap.size + 1 + 1) => y.cell (by omega) (by omega) (by omega) k3
  have m3 : ∀ y : GW W4 p (w.heap.size + 1 + 1), y.w.cell? ⟨w.heap.size + 1, 3, none⟩ = some (.string x) := fun y => y.cell (by omega) (by omega) (by omega) D4.out.o3
  refine wp_region_mixG p (w.heap.size + 1 + 1) [([0, 1, 2, 3, 5], 4), ([6], 7)] [8] (by kernel_rfl) (by kernel_rfl) (by kernel_rfl) (by kernel_rfl) (fun _ _ d _ _ h => by cases d <;> exact h) ?_
  have gW : Below W4.heap.size W4 (W4.drewN 1) := ⟨rfl, rfl, rfl, Nat.le_refl _, fun _ _ => rfl⟩
  replace cp4 := Lib.hid (cp4.all gW)
  refine mix_cons (os := [_, _, _, _, _]) (by simp only [pickO, List.filterMap_cons, List.filterMap_nil, List.getElem?_toArray, List.getElem?_cons_succ, List.getElem?_cons_zero]; rfl) (fun Kp hKp => ?_)
  repeat (go_big_quiet_step (exact rfl))
  refine wpQuiet_nil ?_
  refine hKp _ ?_
  clear hKp
  refine loud (by rfl) (by kernel_rfl) (fun K3 hK3 => ?_)
  go_simp
  refine mark_calls c p b x _ cp4.out _ (Lib.hid fun w5 cp5 g5 => ?_)
  have gW5 := grown_tr (grown_bl gW (Nat.le_refl _)) g5
  replace cp5 := Lib.hid cp5
  clear cp4 g5 gW
  refine hK3 _ _ (GW.of _ gW5) ?_
  clear hK3
  refine mix_cons (os := [_]) (by simp only [pickO, List.filterMap_cons, List.filterMap_nil, List.getElem?_toArray, List.getElem?_cons_succ, List.getElem?_cons_zero]; rfl) (fun Kp hKp => ?_)
  repeat (go_big_quiet_step (exact rfl))
  refine wpQuiet_nil ?_
  refine hKp _ ?_
  clear hKp
  refine loud (by rfl) (by kernel_rfl) (fun K6 hK6 => ?_)
  have D5 := (D4.out).grown gW5
  obtain ⟨u0, h0⟩ := D5.r 0 (by decide)
  obtain ⟨u1, h1⟩ := D5.r 1 (by decide)
  obtain ⟨u2, h2⟩ := D5.r 2 (by decide)
  obtain ⟨u3, h3⟩ := D5.r 3 (by decide)
  have f0 := D5.f 0
  have f1 := D5.f 1
  have f2 := D5.f 2
  have f3 := D5.f 3
  change w5.cell? ⟨w.heap.size + 1 + 1, 0, none⟩ = some u0 at h0
  change w5.cell? ⟨w.heap.size + 1 + 1, 1, none⟩ = some u1 at h1
  change w5.cell? ⟨w.heap.size + 1 + 1, 2, none⟩ = some u2 at h2
  change w5.cell? ⟨w.heap.size + 1 + 1, 3, none⟩ = some u3 at h3
  change w5.frozen? ⟨w.heap.size + 1 + 1, 0, none⟩ = false at f0
  change w5.frozen? ⟨w.heap.size + 1 + 1, 1, none⟩ = false at f1
  change w5.frozen? ⟨w.heap.size + 1 + 1, 2, none⟩ = false at f2
  change w5.frozen? ⟨w.heap.size + 1 + 1, 3, none⟩ = false at f3
  clear D5
  go_simp
  refine hK6 _ _ (GW.four (GW.of _ gW5) _ _ _ _) ?_
  clear hK6
  refine mix_nil (os := [_]) (by simp only [pickO, List.filterMap_cons, List.filterMap_nil, List.getElem?_toArray, List.getElem?_cons_succ, List.getElem?_cons_zero]; rfl) (fun Kp hKp => ?_)
  repeat (go_big_quiet_step (exact rfl))
  refine wpQuiet_nil ?_
  refine hKp _ ?_
  clear hKp
  have gF := Lib.hid (grown_four (grown_tr D4.out.g gW5) (q := w.heap.size + 1 + 1) (by omega) (.slice A4 (takeS c 4 x false).1.length e4) (.int .i64 (takeS c 4 x false).2.1) (.int .i64 (takeS c 4 x false).2.2.1) (.int .i64 (takeS c 4 x false).2.2.2))
  have cpF := Lib.hid (cp5.out.four (q := w.heap.size + 1 + 1) (by omega) (by omega) (.slice A4 (takeS c 4 x false).1.length e4) (.int .i64 (takeS c 4 x false).2.1) (.int .i64 (takeS c 4 x false).2.2.1) (.int .i64 (takeS c 4 x false).2.2.2))
  go_wp2_with fail
  refine bodyPost_ret ?_ rfl (hR.out _ _ _ r4.out (by omega) cpF.out gF.out)
  simp [results, Tryz.results7, go_sem, h0, h1, h2, h3]
set_option maxRecDepth 100000 in
set_option maxHeartbeats 4000000 in
theorem does3_calls (c : Cu) (v : Value) (p : Nat) (n a : Int) (x : ByteArray) (w : World) (b : Nat) (cp : CurG w p c b) (hx : RdK (cutW w p) v c.1) (hl : EndL c.1) (hll : c.1.length ≤ 1000000) (hd : 0 ≤ c.2.1 ∧ c.2.1 ≤ 24) (R : Ending → World → Prop)
    (hR : Hid (∀ v' w' b', RdK (cutW w p) v' (takeS c 1 x false).1 → (b' = b ∨ w.heap.size ≤ b') → CurG w' p (takeS c 1 x false) b' → w.grownBy w' (some p) → R (.returned (.tuple #[cuV v' (takeS c 1 x false), .bool true])) w')) :
    Calls Tryz.prog 7 #[ptV p, cuV v c, .agg #[.int .i64 3, .int .i64 n, .int .i64 a, .string x]] w R := by
  have hpl := cp.lt
  have hbl := cp.lg
  have cP := Lib.hid fun (W : World) (g : w.grownBy W (some p)) R hR => refpeek14_calls c v W (rd_uncut hx hpl g).1 hl R hR
  have cN := Lib.hid fun (W : World) (g : w.grownBy W (some p)) R hR => refnext14x_calls c v W (cutW w p) hx (rd_uncut hx hpl g).1 hl hll R hR
  have cT := Lib.hid fun (k : Int) (x : ByteArray) (any : Bool) (W : World) (g : w.grownBy W (some p)) R hR => reftake14x_calls c v k x any W (cutW w p) hx (rd_uncut hx hpl g).1 hl hll R hR
  have cF := Lib.hid fun (e z : Int) (W : World) (g : w.grownBy W (some p)) R hR => reffail14x_calls c v e z W (cutW w p) hx (rd_uncut hx hpl g).1 R hR
  obtain ⟨Av, cv, rfl, -, -⟩ := hx.op
  obtain ⟨t, ht⟩ : ∃ t, peekS c = t := ⟨_, rfl⟩
  rw [ht] at cP
  simp only [tkV] at cP
  have hN := Lib.hid fun w3 n3 => Dz.new (w := w) (w3 := w3) (p := p) (v := .slice Av c.1.length cv) (c := c) (o := ((3, n, a, x))) (t := t) hpl n3
  have b1 := (Below.refl w.heap.size w).alloc (Nat.le_refl _) (.cells #[.slice Av c.1.length cv, .int .i64 c.2.1, .int .i64 c.2.2.1, .int .i64 c.2.2.2] 34)
  have b2 := b1.alloc b1.size (.cells #[.int .i64 3, .int .i64 n, .int .i64 a, .string x] 38)
  have b3 := Lib.hid (b2.alloc b2.size (.cells #[.slice none 0 0, .int .i64 0, .int .i64 0, .int .i64 0] 34))
  obtain ⟨q1, q2, q3⟩ := tri (w := w) (.cells #[.slice Av c.1.length cv, .int .i64 c.2.1, .int .i64 c.2.2.1, .int .i64 c.2.2.2] 34) (.cells #[.int .i64 3, .int .i64 n, .int .i64 a, .string x] 38) (.cells #[.slice none 0 0, .int .i64 0, .int .i64 0, .int .i64 0] 34)
  have j0 := (Lib.cell_of_heap q1 0).trans rfl
  have j1 := (Lib.cell_of_heap q1 1).trans rfl
  have j2 := (Lib.cell_of_heap q1 2).trans rfl
  have j3 := (Lib.cell_of_heap q1 3).trans rfl
  clear b1 b2 q1 q2 q3
  go_enter Tryz.func7, Tryz.ntmps7
  go_wp2_with fail
  clear j0 j1 j2 j3
  refine cP.out _ (grown_bl b3.out (Nat.le_refl _)) _ (Lib.hid fun w3 n3 => ?_)
  have D := hN.out w3 n3
  have nb := Lib.hid (b3.out.trans ((n3.alloc n3.size (.cells #[.int .i64 t.1, .int .i64 t.2.1, .int .i64 t.2.2.1, .string t.2.2.2.1, .int .i64 t.2.2.2.2] 40)).mono b3.out.size))
  obtain ⟨B, hB⟩ : ∃ B, w3.heap.size = B := ⟨_, rfl⟩
  obtain ⟨k0, k1, k2, k3, k4⟩ := box_five' w3 (.int .i64 t.1) (.int .i64 t.2.1) (.int .i64 t.2.2.1) (.string t.2.2.2.1) (.int .i64 t.2.2.2.2) 40
  have o0 := D.o0
  have o1 := D.o1
  have o2 := D.o2
  have o3 := D.o3
  have c0 := D.c0
  have c1 := D.c1
  have c2 := D.c2
  have c3 := D.c3
  replace D := Lib.hid D
  clear n3 hN b3 cP
  go_wp2_with fail
  generalize w3.alloc (.cells #[.int .i64 t.1, .int .i64 t.2.1, .int .i64 t.2.2.1, .string t.2.2.2.1, .int .i64 t.2.2.2.2] 40) = W at *
  rw [hB] at D
  clear hB o0 o1 o2 o3 c0 c1 c2 c3 k0 k1 k2 k3 k4
  refine cT.out 1 x false W D.out.g _ (Lib.hid fun v4 w4 r4 n4 => ?_)
  obtain ⟨A4, e4, rfl, -, -⟩ := r4.op
  obtain ⟨k0, k1, k2, k3⟩ := box_four w4 (.slice A4 (takeS c 1 x false).1.length e4) (.int .i64 (takeS c 1 x false).2.1) (.int .i64 (takeS c 1 x false).2.2.1) (.int .i64 (takeS c 1 x false).2.2.2) 34
  have n4' := n4.alloc n4.size (.cells #[.slice A4 (takeS c 1 x false).1.length e4, .int .i64 (takeS c 1 x false).2.1, .int .i64 (takeS c 1 x false).2.2.1, .int .i64 (takeS c 1 x false).2.2.2] 34)
  have D4 := Lib.hid (D.out.below n4')
  have cp4 := cp.below hpl hbl ((nb.out.trans (n4'.mono nb.out.size)))
  have hlt := D4.out.l8
  have hHB := D4.out.b8
  have hWB := D.out.l8
  have hB4 := n4.size
  have hl4 : w4.heap.size < (w4.alloc (.cells #[.slice A4 (takeS c 1 x false).1.length e4, .int .i64 (takeS c 1 x false).2.1, .int .i64 (takeS c 1 x false).2.2.1, .int .i64 (takeS c 1 x false).2.2.2] 34)).heap.size := by simp
  replace r4 := Lib.hid r4
  clear n4 n4' nb D
  go_wp2_with fail
  generalize w4.alloc (.cells #[.slice A4 (takeS c 1 x false).1.length e4, .int .i64 (takeS c 1 x false).2.1, .int .i64 (takeS c 1 x false).2.2.1, .int .i64 (takeS c 1 x false).2.2.2] 34) = W4 at *
  generalize hE : w4.heap.size = E4 at *
  replace k0 := fun y : GW W4 p (w.heap.size + 1 + 1) => y.cell (by omega) (by omega) (by omega) k0
  replace k1 := fun y : GW W4 p (w.heap.size + 1 + 1) => y.cell (by omega) (by omega) (by omega) k1
  replace k2 := fun y : GW W4 p (w.heap.size + 1 + 1) => y.cell (by omega) (by omega) (by omega) k2
  replace k3 := fun y : GW W4 p (w.heap.size + 1 + 1) => y.cell (by omega) (by omega) (by omega) k3
  have m3 : ∀ y : GW W4 p (w.heap.size + 1 + 1), y.w.cell? ⟨w.heap.size + 1, 3, none⟩ = some (.string x) := fun y => y.cell (by omega) (by omega) (by omega) D4.out.o3
  refine wp_region_mixG p (w.heap.size + 1 + 1) [([0, 1, 2, 3, 5], 4), ([6], 7)] [8] (by kernel_rfl) (by kernel_rfl) (by kernel_rfl) (by kernel_rfl) (fun _ _ d _ _ h => by cases d <;> exact h) ?_
  have gW : Below W4.heap.size W4 (W4.drewN 1) := ⟨rfl, rfl, rfl, Nat.le_refl _, fun _ _ => rfl⟩
  replace cp4 := Lib.hid (cp4.all gW)
  refine mix_cons (os := [_, _, _, _, _]) (by simp only [pickO, List.filterMap_cons, List.filterMap_nil, List.getElem?_toArray, List.getElem?_cons_succ, List.getElem?_cons_zero]; rfl) (fun Kp hKp => ?_)
  repeat (go_big_quiet_step (exact rfl))
  refine wpQuiet_nil ?_
  refine hKp _ ?_
  clear hKp
  refine loud (by rfl) (by kernel_rfl) (fun K3 hK3 => ?_)
  go_simp
  refine word_calls c p b x _ cp4.out _ (Lib.hid fun w5 cp5 g5 => ?_)
  have gW5 := grown_tr (grown_bl gW (Nat.le_refl _)) g5
  replace cp5 := Lib.hid cp5
  clear cp4 g5 gW
  refine hK3 _ _ (GW.of _ gW5) ?_
  clear hK3
  refine mix_cons (os := [_]) (by simp only [pickO, List.filterMap_cons, List.filterMap_nil, List.getElem?_toArray, List.getElem?_cons_succ, List.getElem?_cons_zero]; rfl) (fun Kp hKp => ?_)
  repeat (go_big_quiet_step (exact rfl))
  refine wpQuiet_nil ?_
  refine hKp _ ?_
  clear hKp
  refine loud (by rfl) (by kernel_rfl) (fun K6 hK6 => ?_)
  have D5 := (D4.out).grown gW5
  obtain ⟨u0, h0⟩ := D5.r 0 (by decide)
  obtain ⟨u1, h1⟩ := D5.r 1 (by decide)
  obtain ⟨u2, h2⟩ := D5.r 2 (by decide)
  obtain ⟨u3, h3⟩ := D5.r 3 (by decide)
  have f0 := D5.f 0
  have f1 := D5.f 1
  have f2 := D5.f 2
  have f3 := D5.f 3
  change w5.cell? ⟨w.heap.size + 1 + 1, 0, none⟩ = some u0 at h0
  change w5.cell? ⟨w.heap.size + 1 + 1, 1, none⟩ = some u1 at h1
  change w5.cell? ⟨w.heap.size + 1 + 1, 2, none⟩ = some u2 at h2
  change w5.cell? ⟨w.heap.size + 1 + 1, 3, none⟩ = some u3 at h3
  change w5.frozen? ⟨w.heap.size + 1 + 1, 0, none⟩ = false at f0
  change w5.frozen? ⟨w.heap.size + 1 + 1, 1, none⟩ = false at f1
  change w5.frozen? ⟨w.heap.size + 1 + 1, 2, none⟩ = false at f2
  change w5.frozen? ⟨w.heap.size + 1 + 1, 3, none⟩ = false at f3
  clear D5
  go_simp
  refine hK6 _ _ (GW.four (GW.of _ gW5) _ _ _ _) ?_
  clear hK6
  refine mix_nil (os := [_]) (by simp only [pickO, List.filterMap_cons, List.filterMap_nil, List.getElem?_toArray, List.getElem?_cons_succ, List.getElem?_cons_zero]; rfl) (fun Kp hKp => ?_)
  repeat (go_big_quiet_step (exact rfl))
  refine wpQuiet_nil ?_
  refine hKp _ ?_
  clear hKp
  have gF := Lib.hid (grown_four (grown_tr D4.out.g gW5) (q := w.heap.size + 1 + 1) (by omega) (.slice A4 (takeS c 1 x false).1.length e4) (.int .i64 (takeS c 1 x false).2.1) (.int .i64 (takeS c 1 x false).2.2.1) (.int .i64 (takeS c 1 x false).2.2.2))
  have cpF := Lib.hid (cp5.out.four (q := w.heap.size + 1 + 1) (by omega) (by omega) (.slice A4 (takeS c 1 x false).1.length e4) (.int .i64 (takeS c 1 x false).2.1) (.int .i64 (takeS c 1 x false).2.2.1) (.int .i64 (takeS c 1 x false).2.2.2))
  go_wp2_with fail
  refine bodyPost_ret ?_ rfl (hR.out _ _ _ r4.out (by omega) cpF.out gF.out)
  simp [results, Tryz.results7, go_sem, h0, h1, h2, h3]
end Go.Proofs.YtmchgimbfdeaiaaGreat.Cur

/- Layer 14: does walked, a kind at a time (3): Fail, FailAt. -/
set_option maxRecDepth 100000
set_option linter.unusedVariables false
namespace Go.Proofs.YtmchgimbfdeaiaaGreat.Cur
open Go.RowKit Go.Lib Go.Proofs.YtmchgimbfdeaiaaGreat.Utf Go.Proofs.YtmchgimbfdeaiaaGreat.Tok

set_option maxRecDepth 100000 in
set_option maxHeartbeats 4000000 in
theorem does6_calls (c : Cu) (v : Value) (p : Nat) (n a : Int) (x : ByteArray) (w : World) (b : Nat) (cp : CurG w p c b) (hx : RdK (cutW w p) v c.1) (hl : EndL c.1) (hll : c.1.length ≤ 1000000) (hd : 0 ≤ c.2.1 ∧ c.2.1 ≤ 24) (R : Ending → World → Prop)
    (hR : Hid (∀ v' w' b', RdK (cutW w p) v' (failS c n (peekS c).2.1).1 → (b' = b ∨ w.heap.size ≤ b') → CurG w' p (failS c n (peekS c).2.1) b' → w.grownBy w' (some p) → R (.returned (.tuple #[cuV v' (failS c n (peekS c).2.1), .bool true])) w')) :
    Calls Tryz.prog 7 #[ptV p, cuV v c, .agg #[.int .i64 6, .int .i64 n, .int .i64 a, .string x]] w R := by
  have hpl := cp.lt
  have hbl := cp.lg
  have cP := Lib.hid fun (W : World) (g : w.grownBy W (some p)) R hR => refpeek14_calls c v W (rd_uncut hx hpl g).1 hl R hR
  have cN := Lib.hid fun (W : World) (g : w.grownBy W (some p)) R hR => refnext14x_calls c v W (cutW w p) hx (rd_uncut hx hpl g).1 hl hll R hR
  have cT := Lib.hid fun (k : Int) (x : ByteArray) (any : Bool) (W : World) (g : w.grownBy W (some p)) R hR => reftake14x_calls c v k x any W (cutW w p) hx (rd_uncut hx hpl g).1 hl hll R hR
  have cF := Lib.hid fun (e z : Int) (W : World) (g : w.grownBy W (some p)) R hR => reffail14x_calls c v e z W (cutW w p) hx (rd_uncut hx hpl g).1 R hR
  obtain ⟨Av, cv, rfl, -, -⟩ := hx.op
  obtain ⟨t, ht⟩ : ∃ t, peekS c = t := ⟨_, rfl⟩
  rw [ht] at cP
  simp only [tkV] at cP
  have hN := Lib.hid fun w3 n3 => Dz.new (w := w) (w3 := w3) (p := p) (v := .slice Av c.1.length cv) (c := c) (o := ((6, n, a, x))) (t := t) hpl n3
  have b1 := (Below.refl w.heap.size w).alloc (Nat.le_refl _) (.cells #[.slice Av c.1.length cv, .int .i64 c.2.1, .int .i64 c.2.2.1, .int .i64 c.2.2.2] 34)
  have b2 := b1.alloc b1.size (.cells #[.int .i64 6, .int .i64 n, .int .i64 a, .string x] 38)
  have b3 := Lib.hid (b2.alloc b2.size (.cells #[.slice none 0 0, .int .i64 0, .int .i64 0, .int .i64 0] 34))
  obtain ⟨q1, q2, q3⟩ := tri (w := w) (.cells #[.slice Av c.1.length cv, .int .i64 c.2.1, .int .i64 c.2.2.1, .int .i64 c.2.2.2] 34) (.cells #[.int .i64 6, .int .i64 n, .int .i64 a, .string x] 38) (.cells #[.slice none 0 0, .int .i64 0, .int .i64 0, .int .i64 0] 34)
  have j0 := (Lib.cell_of_heap q1 0).trans rfl
  have j1 := (Lib.cell_of_heap q1 1).trans rfl
  have j2 := (Lib.cell_of_heap q1 2).trans rfl
  have j3 := (Lib.cell_of_heap q1 3).trans rfl
  clear b1 b2 q1 q2 q3
  go_enter Tryz.func7, Tryz.ntmps7
  go_wp2_with fail
  clear j0 j1 j2 j3
  refine cP.out _ (grown_bl b3.out (Nat.le_refl _)) _ (Lib.hid fun w3 n3 => ?_)
  have D := hN.out w3 n3
  have nb := Lib.hid (b3.out.trans ((n3.alloc n3.size (.cells #[.int .i64 t.1, .int .i64 t.2.1, .int .i64 t.2.2.1, .string t.2.2.2.1, .int .i64 t.2.2.2.2] 40)).mono b3.out.size))
  obtain ⟨B, hB⟩ : ∃ B, w3.heap.size = B := ⟨_, rfl⟩
  obtain ⟨k0, k1, k2, k3, k4⟩ := box_five' w3 (.int .i64 t.1) (.int .i64 t.2.1) (.int .i64 t.2.2.1) (.string t.2.2.2.1) (.int .i64 t.2.2.2.2) 40
  have o0 := D.o0
  have o1 := D.o1
  have o2 := D.o2
  have o3 := D.o3
  have c0 := D.c0
  have c1 := D.c1
  have c2 := D.c2
  have c3 := D.c3
  replace D := Lib.hid D
  clear n3 hN b3 cP
  go_wp2_with fail
  generalize w3.alloc (.cells #[.int .i64 t.1, .int .i64 t.2.1, .int .i64 t.2.2.1, .string t.2.2.2.1, .int .i64 t.2.2.2.2] 40) = W at *
  rw [hB] at D
  clear hB o0 o1 o2 o3 c0 c1 c2 c3 k0 k1 k2 k3 k4
  refine cqfail_calls c p b n _ (cp.below hpl hbl (nb.out)) _ (Lib.hid fun w4 b5 hb5 cp4 g4 => ?_)
  have hb6 : b5 = b ∨ w.heap.size + 2 < b5 := hb5.imp id (fun q => Nat.lt_of_lt_of_le (Nat.lt_trans D.out.b8 D.out.l8) q)
  clear hb5
  rw [ht] at hR cp4
  have D4 := D.out.grown g4
  have c0 := D4.c0
  have c1 := D4.c1
  have c2 := D4.c2
  have c3 := D4.c3
  have o1 : w4.cell? ⟨w.heap.size + 1, 1, none⟩ = some (.int .i64 n) := D4.o1
  have o2 : w4.cell? ⟨w.heap.size + 1, 2, none⟩ = some (.int .i64 a) := D4.o2
  have t1 := D4.t1
  replace D4 := Lib.hid D4
  replace cp4 := Lib.hid cp4
  clear g4 D nb
  go_wp2_with fail
  refine cF.out n t.2.1 w4 D4.out.g _ (Lib.hid fun v5 w5 r5 n5 => ?_)
  clear c0 c1 c2 c3 o1 o2 t1
  obtain ⟨A4, e4, rfl, -, -⟩ := r5.op
  have D5 := D4.out.below n5
  have cp5 := Lib.hid (cp4.out.all n5)
  obtain ⟨u0, h0⟩ := D5.r 0 (by decide)
  obtain ⟨u1, h1⟩ := D5.r 1 (by decide)
  obtain ⟨u2, h2⟩ := D5.r 2 (by decide)
  obtain ⟨u3, h3⟩ := D5.r 3 (by decide)
  have f0 := D5.f 0
  have f1 := D5.f 1
  have f2 := D5.f 2
  have f3 := D5.f 3
  change w5.cell? ⟨w.heap.size + 1 + 1, 0, none⟩ = some u0 at h0
  change w5.cell? ⟨w.heap.size + 1 + 1, 1, none⟩ = some u1 at h1
  change w5.cell? ⟨w.heap.size + 1 + 1, 2, none⟩ = some u2 at h2
  change w5.cell? ⟨w.heap.size + 1 + 1, 3, none⟩ = some u3 at h3
  change w5.frozen? ⟨w.heap.size + 1 + 1, 0, none⟩ = false at f0
  change w5.frozen? ⟨w.heap.size + 1 + 1, 1, none⟩ = false at f1
  change w5.frozen? ⟨w.heap.size + 1 + 1, 2, none⟩ = false at f2
  change w5.frozen? ⟨w.heap.size + 1 + 1, 3, none⟩ = false at f3
  replace D5 := Lib.hid D5
  replace r5 := Lib.hid r5
  clear n5 cp4 D4
  go_wp2_with fail
  have gF := Lib.hid (grown_four D5.out.g (q := w.heap.size + 1 + 1) (by omega) (.slice A4 (failS c n t.2.1).1.length e4) (.int .i64 (failS c n t.2.1).2.1) (.int .i64 (failS c n t.2.1).2.2.1) (.int .i64 (failS c n t.2.1).2.2.2))
  have cpF := Lib.hid (cp5.out.four (q := w.heap.size + 1 + 1) (by omega) (by omega) (.slice A4 (failS c n t.2.1).1.length e4) (.int .i64 (failS c n t.2.1).2.1) (.int .i64 (failS c n t.2.1).2.2.1) (.int .i64 (failS c n t.2.1).2.2.2))
  refine bodyPost_ret ?_ rfl (hR.out _ _ _ r5.out (by omega) cpF.out gF.out)
  simp [results, Tryz.results7, go_sem, h0, h1, h2, h3]
set_option maxRecDepth 100000 in
set_option maxHeartbeats 4000000 in
theorem does7_calls (c : Cu) (v : Value) (p : Nat) (n a : Int) (x : ByteArray) (w : World) (b : Nat) (cp : CurG w p c b) (hx : RdK (cutW w p) v c.1) (hl : EndL c.1) (hll : c.1.length ≤ 1000000) (hd : 0 ≤ c.2.1 ∧ c.2.1 ≤ 24) (R : Ending → World → Prop)
    (hR : Hid (∀ v' w' b', RdK (cutW w p) v' (failS c n a).1 → (b' = b ∨ w.heap.size ≤ b') → CurG w' p (failS c n a) b' → w.grownBy w' (some p) → R (.returned (.tuple #[cuV v' (failS c n a), .bool true])) w')) :
    Calls Tryz.prog 7 #[ptV p, cuV v c, .agg #[.int .i64 7, .int .i64 n, .int .i64 a, .string x]] w R := by
  have hpl := cp.lt
  have hbl := cp.lg
  have cP := Lib.hid fun (W : World) (g : w.grownBy W (some p)) R hR => refpeek14_calls c v W (rd_uncut hx hpl g).1 hl R hR
  have cN := Lib.hid fun (W : World) (g : w.grownBy W (some p)) R hR => refnext14x_calls c v W (cutW w p) hx (rd_uncut hx hpl g).1 hl hll R hR
  have cT := Lib.hid fun (k : Int) (x : ByteArray) (any : Bool) (W : World) (g : w.grownBy W (some p)) R hR => reftake14x_calls c v k x any W (cutW w p) hx (rd_uncut hx hpl g).1 hl hll R hR
  have cF := Lib.hid fun (e z : Int) (W : World) (g : w.grownBy W (some p)) R hR => reffail14x_calls c v e z W (cutW w p) hx (rd_uncut hx hpl g).1 R hR
  obtain ⟨Av, cv, rfl, -, -⟩ := hx.op
  obtain ⟨t, ht⟩ : ∃ t, peekS c = t := ⟨_, rfl⟩
  rw [ht] at cP
  simp only [tkV] at cP
  have hN := Lib.hid fun w3 n3 => Dz.new (w := w) (w3 := w3) (p := p) (v := .slice Av c.1.length cv) (c := c) (o := ((7, n, a, x))) (t := t) hpl n3
  have b1 := (Below.refl w.heap.size w).alloc (Nat.le_refl _) (.cells #[.slice Av c.1.length cv, .int .i64 c.2.1, .int .i64 c.2.2.1, .int .i64 c.2.2.2] 34)
  have b2 := b1.alloc b1.size (.cells #[.int .i64 7, .int .i64 n, .int .i64 a, .string x] 38)
  have b3 := Lib.hid (b2.alloc b2.size (.cells #[.slice none 0 0, .int .i64 0, .int .i64 0, .int .i64 0] 34))
  obtain ⟨q1, q2, q3⟩ := tri (w := w) (.cells #[.slice Av c.1.length cv, .int .i64 c.2.1, .int .i64 c.2.2.1, .int .i64 c.2.2.2] 34) (.cells #[.int .i64 7, .int .i64 n, .int .i64 a, .string x] 38) (.cells #[.slice none 0 0, .int .i64 0, .int .i64 0, .int .i64 0] 34)
  have j0 := (Lib.cell_of_heap q1 0).trans rfl
  have j1 := (Lib.cell_of_heap q1 1).trans rfl
  have j2 := (Lib.cell_of_heap q1 2).trans rfl
  have j3 := (Lib.cell_of_heap q1 3).trans rfl
  clear b1 b2 q1 q2 q3
  go_enter Tryz.func7, Tryz.ntmps7
  go_wp2_with fail
  clear j0 j1 j2 j3
  refine cP.out _ (grown_bl b3.out (Nat.le_refl _)) _ (Lib.hid fun w3 n3 => ?_)
  have D := hN.out w3 n3
  have nb := Lib.hid (b3.out.trans ((n3.alloc n3.size (.cells #[.int .i64 t.1, .int .i64 t.2.1, .int .i64 t.2.2.1, .string t.2.2.2.1, .int .i64 t.2.2.2.2] 40)).mono b3.out.size))
  obtain ⟨B, hB⟩ : ∃ B, w3.heap.size = B := ⟨_, rfl⟩
  obtain ⟨k0, k1, k2, k3, k4⟩ := box_five' w3 (.int .i64 t.1) (.int .i64 t.2.1) (.int .i64 t.2.2.1) (.string t.2.2.2.1) (.int .i64 t.2.2.2.2) 40
  have o0 := D.o0
  have o1 := D.o1
  have o2 := D.o2
  have o3 := D.o3
  have c0 := D.c0
  have c1 := D.c1
  have c2 := D.c2
  have c3 := D.c3
  replace D := Lib.hid D
  clear n3 hN b3 cP
  go_wp2_with fail
  generalize w3.alloc (.cells #[.int .i64 t.1, .int .i64 t.2.1, .int .i64 t.2.2.1, .string t.2.2.2.1, .int .i64 t.2.2.2.2] 40) = W at *
  rw [hB] at D
  clear hB o0 o1 o2 o3 c0 c1 c2 c3 k0 k1 k2 k3 k4
  refine cqfailat_calls c p b n a _ (cp.below hpl hbl (nb.out)) _ (Lib.hid fun w4 b5 hb5 cp4 g4 => ?_)
  have hb6 : b5 = b ∨ w.heap.size + 2 < b5 := hb5.imp id (fun q => Nat.lt_of_lt_of_le (Nat.lt_trans D.out.b8 D.out.l8) q)
  clear hb5
  have D4 := D.out.grown g4
  have c0 := D4.c0
  have c1 := D4.c1
  have c2 := D4.c2
  have c3 := D4.c3
  have o1 : w4.cell? ⟨w.heap.size + 1, 1, none⟩ = some (.int .i64 n) := D4.o1
  have o2 : w4.cell? ⟨w.heap.size + 1, 2, none⟩ = some (.int .i64 a) := D4.o2
  have t1 := D4.t1
  replace D4 := Lib.hid D4
  replace cp4 := Lib.hid cp4
  clear g4 D nb
  go_wp2_with fail
  refine cF.out n a w4 D4.out.g _ (Lib.hid fun v5 w5 r5 n5 => ?_)
  clear c0 c1 c2 c3 o1 o2 t1
  obtain ⟨A4, e4, rfl, -, -⟩ := r5.op
  have D5 := D4.out.below n5
  have cp5 := Lib.hid (cp4.out.all n5)
  obtain ⟨u0, h0⟩ := D5.r 0 (by decide)
  obtain ⟨u1, h1⟩ := D5.r 1 (by decide)
  obtain ⟨u2, h2⟩ := D5.r 2 (by decide)
  obtain ⟨u3, h3⟩ := D5.r 3 (by decide)
  have f0 := D5.f 0
  have f1 := D5.f 1
  have f2 := D5.f 2
  have f3 := D5.f 3
  change w5.cell? ⟨w.heap.size + 1 + 1, 0, none⟩ = some u0 at h0
  change w5.cell? ⟨w.heap.size + 1 + 1, 1, none⟩ = some u1 at h1
  change w5.cell? ⟨w.heap.size + 1 + 1, 2, none⟩ = some u2 at h2
  change w5.cell? ⟨w.heap.size + 1 + 1, 3, none⟩ = some u3 at h3
  change w5.frozen? ⟨w.heap.size + 1 + 1, 0, none⟩ = false at f0
  change w5.frozen? ⟨w.heap.size + 1 + 1, 1, none⟩ = false at f1
  change w5.frozen? ⟨w.heap.size + 1 + 1, 2, none⟩ = false at f2
  change w5.frozen? ⟨w.heap.size + 1 + 1, 3, none⟩ = false at f3
  replace D5 := Lib.hid D5
  replace r5 := Lib.hid r5
  clear n5 cp4 D4
  go_wp2_with fail
  have gF := Lib.hid (grown_four D5.out.g (q := w.heap.size + 1 + 1) (by omega) (.slice A4 (failS c n a).1.length e4) (.int .i64 (failS c n a).2.1) (.int .i64 (failS c n a).2.2.1) (.int .i64 (failS c n a).2.2.2))
  have cpF := Lib.hid (cp5.out.four (q := w.heap.size + 1 + 1) (by omega) (by omega) (.slice A4 (failS c n a).1.length e4) (.int .i64 (failS c n a).2.1) (.int .i64 (failS c n a).2.2.1) (.int .i64 (failS c n a).2.2.2))
  refine bodyPost_ret ?_ rfl (hR.out _ _ _ r5.out (by omega) cpF.out gF.out)
  simp [results, Tryz.results7, go_sem, h0, h1, h2, h3]
end Go.Proofs.YtmchgimbfdeaiaaGreat.Cur

/- Layer 14: does walked, a kind at a time (4): Peek, Leave. -/
set_option maxRecDepth 100000
set_option linter.unusedVariables false
namespace Go.Proofs.YtmchgimbfdeaiaaGreat.Cur
open Go.RowKit Go.Lib Go.Proofs.YtmchgimbfdeaiaaGreat.Utf Go.Proofs.YtmchgimbfdeaiaaGreat.Tok

set_option maxRecDepth 100000 in
set_option maxHeartbeats 4000000 in
theorem does0_calls (c : Cu) (v : Value) (p : Nat) (K n a : Int) (hK : K ≠ 1 ∧ K ≠ 2 ∧ K ≠ 3 ∧ K ≠ 4 ∧ K ≠ 5 ∧ K ≠ 6 ∧ K ≠ 7 ∧ K ≠ 8 ∧ K ≠ 9) (x : ByteArray) (w : World) (b : Nat) (cp : CurG w p c b) (hx : RdK (cutW w p) v c.1) (hl : EndL c.1) (hll : c.1.length ≤ 1000000) (hd : 0 ≤ c.2.1 ∧ c.2.1 ≤ 24) (R : Ending → World → Prop)
    (hR : Hid (∀ v' w' b', RdK (cutW w p) v' (c).1 → (b' = b ∨ w.heap.size ≤ b') → CurG w' p (c) b' → w.grownBy w' (some p) → R (.returned (.tuple #[cuV v' (c), .bool true])) w')) :
    Calls Tryz.prog 7 #[ptV p, cuV v c, .agg #[.int .i64 K, .int .i64 n, .int .i64 a, .string x]] w R := by
  have hK1 : decide (K = 1) = false := decide_eq_false (by omega)
  have hK2 : decide (K = 2) = false := decide_eq_false (by omega)
  have hK3 : decide (K = 3) = false := decide_eq_false (by omega)
  have hK4 : decide (K = 4) = false := decide_eq_false (by omega)
  have hK5 : decide (K = 5) = false := decide_eq_false (by omega)
  have hK6 : decide (K = 6) = false := decide_eq_false (by omega)
  have hK7 : decide (K = 7) = false := decide_eq_false (by omega)
  have hK8 : decide (K = 8) = false := decide_eq_false (by omega)
  have hK9 : decide (K = 9) = false := decide_eq_false (by omega)
  have hpl := cp.lt
  have hbl := cp.lg
  have cP := Lib.hid fun (W : World) (g : w.grownBy W (some p)) R hR => refpeek14_calls c v W (rd_uncut hx hpl g).1 hl R hR
  have cN := Lib.hid fun (W : World) (g : w.grownBy W (some p)) R hR => refnext14x_calls c v W (cutW w p) hx (rd_uncut hx hpl g).1 hl hll R hR
  have cT := Lib.hid fun (k : Int) (x : ByteArray) (any : Bool) (W : World) (g : w.grownBy W (some p)) R hR => reftake14x_calls c v k x any W (cutW w p) hx (rd_uncut hx hpl g).1 hl hll R hR
  have cF := Lib.hid fun (e z : Int) (W : World) (g : w.grownBy W (some p)) R hR => reffail14x_calls c v e z W (cutW w p) hx (rd_uncut hx hpl g).1 R hR
  obtain ⟨Av, cv, rfl, -, -⟩ := hx.op
  obtain ⟨t, ht⟩ : ∃ t, peekS c = t := ⟨_, rfl⟩
  rw [ht] at cP
  simp only [tkV] at cP
  have hN := Lib.hid fun w3 n3 => Dz.new (w := w) (w3 := w3) (p := p) (v := .slice Av c.1.length cv) (c := c) (o := ((K, n, a, x))) (t := t) hpl n3
  have b1 := (Below.refl w.heap.size w).alloc (Nat.le_refl _) (.cells #[.slice Av c.1.length cv, .int .i64 c.2.1, .int .i64 c.2.2.1, .int .i64 c.2.2.2] 34)
  have b2 := b1.alloc b1.size (.cells #[.int .i64 K, .int .i64 n, .int .i64 a, .string x] 38)
  have b3 := Lib.hid (b2.alloc b2.size (.cells #[.slice none 0 0, .int .i64 0, .int .i64 0, .int .i64 0] 34))
  obtain ⟨q1, q2, q3⟩ := tri (w := w) (.cells #[.slice Av c.1.length cv, .int .i64 c.2.1, .int .i64 c.2.2.1, .int .i64 c.2.2.2] 34) (.cells #[.int .i64 K, .int .i64 n, .int .i64 a, .string x] 38) (.cells #[.slice none 0 0, .int .i64 0, .int .i64 0, .int .i64 0] 34)
  have j0 := (Lib.cell_of_heap q1 0).trans rfl
  have j1 := (Lib.cell_of_heap q1 1).trans rfl
  have j2 := (Lib.cell_of_heap q1 2).trans rfl
  have j3 := (Lib.cell_of_heap q1 3).trans rfl
  clear b1 b2 q1 q2 q3
  go_enter Tryz.func7, Tryz.ntmps7
  go_wp2_with fail
  clear j0 j1 j2 j3
  refine cP.out _ (grown_bl b3.out (Nat.le_refl _)) _ (Lib.hid fun w3 n3 => ?_)
  have D := hN.out w3 n3
  have nb := Lib.hid (b3.out.trans ((n3.alloc n3.size (.cells #[.int .i64 t.1, .int .i64 t.2.1, .int .i64 t.2.2.1, .string t.2.2.2.1, .int .i64 t.2.2.2.2] 40)).mono b3.out.size))
  obtain ⟨B, hB⟩ : ∃ B, w3.heap.size = B := ⟨_, rfl⟩
  obtain ⟨k0, k1, k2, k3, k4⟩ := box_five' w3 (.int .i64 t.1) (.int .i64 t.2.1) (.int .i64 t.2.2.1) (.string t.2.2.2.1) (.int .i64 t.2.2.2.2) 40
  have o0 := D.o0
  have o1 := D.o1
  have o2 := D.o2
  have o3 := D.o3
  have c0 := D.c0
  have c1 := D.c1
  have c2 := D.c2
  have c3 := D.c3
  replace D := Lib.hid D
  clear n3 hN b3 cP
  go_wp2_with fail
  generalize w3.alloc (.cells #[.int .i64 t.1, .int .i64 t.2.1, .int .i64 t.2.2.1, .string t.2.2.2.1, .int .i64 t.2.2.2.2] 40) = W4 at *
  rw [hB] at D
  clear hB o0 o1 o2 o3 c0 c1 c2 c3 k0 k1 k2 k3 k4
  have D4 := D
  have cp4 := cp.below hpl hbl (nb.out)

  have hlt := D4.out.l8
  have hHB := D4.out.b8
  have k0 := fun y : GW W4 p (w.heap.size + 1 + 1) => y.cell (by omega) (by omega) (by omega) D4.out.c0
  have k1 := fun y : GW W4 p (w.heap.size + 1 + 1) => y.cell (by omega) (by omega) (by omega) D4.out.c1
  have k2 := fun y : GW W4 p (w.heap.size + 1 + 1) => y.cell (by omega) (by omega) (by omega) D4.out.c2
  have k3 := fun y : GW W4 p (w.heap.size + 1 + 1) => y.cell (by omega) (by omega) (by omega) D4.out.c3
  have cQ := Lib.hid fun (W : World) (g : w.grownBy W (some p)) R hR => refpeek14_calls (c) (.slice Av c.1.length cv) W (rd_uncut hx hpl g).1 hl R hR
  have hx4 := Lib.hid hx
  obtain ⟨T, hT⟩ : ∃ T, peekS (c) = T := ⟨_, rfl⟩
  rw [hT] at cQ
  simp only [tkV] at cQ
  clear cN cT cF hx
  refine wp_region_mixG p (w.heap.size + 1 + 1) [([0, 1, 3], 2), ([], 4), ([5], 6)] [7] (by kernel_rfl) (by kernel_rfl) (by kernel_rfl) (by kernel_rfl) (fun _ _ d _ _ h => by cases d <;> exact h) ?_
  have gW : Below W4.heap.size W4 (W4.drewN 1) := ⟨rfl, rfl, rfl, Nat.le_refl _, fun _ _ => rfl⟩
  replace cp4 := Lib.hid (cp4.all gW)
  refine mix_cons (os := [_, _, _]) (by simp only [pickO, List.filterMap_cons, List.filterMap_nil, List.getElem?_toArray, List.getElem?_cons_succ, List.getElem?_cons_zero]; rfl) (fun Kp hKp => ?_)
  repeat (go_big_quiet_step (exact rfl))
  refine wpQuiet_nil ?_
  refine hKp _ ?_
  clear hKp
  refine loud (by rfl) (by kernel_rfl) (fun K2 hK2 => ?_)
  go_simp
  refine curpeek_calls (c) p _ ⟨_, cp4.out⟩ _ (Lib.hid fun w4 n4 => ?_)
  rw [hT]
  simp only [tkV]
  replace cp4 := Lib.hid (cp4.out.all n4)
  replace gW := gW.trans (n4.mono gW.size)
  clear n4
  refine hK2 _ _ (GW.of _ (grown_bl gW (Nat.le_refl _))) ?_
  clear hK2
  refine mix_cons (os := []) (by rfl) (fun Kp hKp => ?_)
  repeat (go_big_quiet_step (exact rfl))
  refine wpQuiet_nil ?_
  refine hKp _ ?_
  clear hKp
  refine loud (by rfl) (by kernel_rfl) (fun K4 hK4 => ?_)
  go_simp
  refine cQ.out _ (grown_tr D4.out.g (grown_bl gW (Nat.le_refl _))) _ (Lib.hid fun w5 n5 => ?_)
  have gW5 := grown_bl (row := some p) (gW.trans (n5.mono gW.size)) (Nat.le_refl _)
  have cp5 := Lib.hid (cp4.out.all n5)
  clear n5 cp4 gW
  refine hK4 _ _ (GW.of _ gW5) ?_
  clear hK4
  refine mix_cons (os := [_]) (by simp only [pickO, List.filterMap_cons, List.filterMap_nil, List.getElem?_toArray, List.getElem?_cons_succ, List.getElem?_cons_zero]; rfl) (fun Kp hKp => ?_)
  repeat (go_big_quiet_step (exact rfl))
  refine wpQuiet_nil ?_
  refine hKp _ ?_
  clear hKp
  refine loud (by rfl) (by kernel_rfl) (fun K6 hK6 => ?_)
  have D5 := (D4.out).grown gW5
  obtain ⟨u0, h0⟩ := D5.r 0 (by decide)
  obtain ⟨u1, h1⟩ := D5.r 1 (by decide)
  obtain ⟨u2, h2⟩ := D5.r 2 (by decide)
  obtain ⟨u3, h3⟩ := D5.r 3 (by decide)
  have f0 := D5.f 0
  have f1 := D5.f 1
  have f2 := D5.f 2
  have f3 := D5.f 3
  change w5.cell? ⟨w.heap.size + 1 + 1, 0, none⟩ = some u0 at h0
  change w5.cell? ⟨w.heap.size + 1 + 1, 1, none⟩ = some u1 at h1
  change w5.cell? ⟨w.heap.size + 1 + 1, 2, none⟩ = some u2 at h2
  change w5.cell? ⟨w.heap.size + 1 + 1, 3, none⟩ = some u3 at h3
  change w5.frozen? ⟨w.heap.size + 1 + 1, 0, none⟩ = false at f0
  change w5.frozen? ⟨w.heap.size + 1 + 1, 1, none⟩ = false at f1
  change w5.frozen? ⟨w.heap.size + 1 + 1, 2, none⟩ = false at f2
  change w5.frozen? ⟨w.heap.size + 1 + 1, 3, none⟩ = false at f3
  clear D5
  go_simp
  refine hK6 _ _ (GW.four (GW.of _ gW5) _ _ _ _) ?_
  clear hK6
  refine mix_nil (os := [_]) (by simp only [pickO, List.filterMap_cons, List.filterMap_nil, List.getElem?_toArray, List.getElem?_cons_succ, List.getElem?_cons_zero]; rfl) (fun Kp hKp => ?_)
  repeat (go_big_quiet_step (exact rfl))
  refine wpQuiet_nil ?_
  refine hKp _ ?_
  clear hKp
  have gF := Lib.hid (grown_four (grown_tr D4.out.g gW5) (q := w.heap.size + 1 + 1) (by omega) (.slice Av c.1.length cv) (.int .i64 (c).2.1) (.int .i64 (c).2.2.1) (.int .i64 (c).2.2.2))
  have cpF := Lib.hid (cp5.out.four (q := w.heap.size + 1 + 1) (by omega) (by omega) (.slice Av c.1.length cv) (.int .i64 (c).2.1) (.int .i64 (c).2.2.1) (.int .i64 (c).2.2.2))
  go_wp2_with fail
  refine bodyPost_ret ?_ rfl (hR.out _ _ _ hx4.out (by omega) cpF.out gF.out)
  simp [results, Tryz.results7, go_sem, h0, h1, h2, h3]
end Go.Proofs.YtmchgimbfdeaiaaGreat.Cur
