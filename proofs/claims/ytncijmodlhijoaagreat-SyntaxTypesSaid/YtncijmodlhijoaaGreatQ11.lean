import Derived.Test.YtncijmodlhijoaaGreatQ10
import Derived.StillTailTactics
import Derived.Deep.Cut
import Derived.Test.YtncijmodlhijoaaGreatQ7
set_option linter.unusedVariables false
set_option maxRecDepth 100000
set_option maxHeartbeats 4000000
namespace Go.Proofs.YtncijmodlhijoaaGreat.Syn
open Go.RowKit Go.Lib Utf Tok Cur Nam Lat Kin
theorem name16_calls (p : PS) (v : Value) (w0 w : World) (hb : Below w0.heap.size w0 w) (hx : RdK w0 v p.1) (ok : Ok p) (R : Ending → World → Prop)
  (hR : Hid (∀ v' w', RdK w0 v' ((nameS p).2).1 → Below w.heap.size w w' → R (.returned (.tuple #[.agg #[.string (nameS p).1.1, .int .i64 (nameS p).1.2], psV v' (nameS p).2])) w')) : Calls Tryz.prog 148 #[psV v p] w R := by
 obtain ⟨l, e, z⟩ := p
 obtain ⟨A, cp, rfl, hlc, -⟩ := hx.op
 obtain ⟨o1_, ho1_⟩ : ∃ oO_ : Obj, oO_ = .cells #[.slice A l.length cp, .int .i64 e, .int .i64 z] 142 := ⟨_, rfl⟩
 have bA := (Below.refl w.heap.size w).alloc (Nat.le_refl _) o1_
 have hA := heap_alloc_new w o1_
 obtain ⟨o2_, ho2_⟩ : ∃ oO_ : Obj, oO_ = .cells #[.string ⟨#[]⟩, .int .i64 0] 27 := ⟨_, rfl⟩
 have b1 := bA.alloc bA.size o2_
 have z1 : (w.alloc o1_).heap.size = w.heap.size + 1 := by simp
 replace hA := (((Below.refl _ _).alloc (Nat.le_refl _) o2_).block (w.heap.size) (by omega)).trans hA
 have hY1 := heap_alloc_new (w.alloc o1_) o2_
 rw [z1] at hY1
 obtain ⟨o3_, ho3_⟩ : ∃ oO_ : Obj, oO_ = .cells #[.slice none 0 0, .int .i64 0, .int .i64 0] 142 := ⟨_, rfl⟩
 have b2 := b1.alloc b1.size o3_
 have z2 : ((w.alloc o1_).alloc o2_).heap.size = w.heap.size + 2 := by simp
 replace hA := (((Below.refl _ _).alloc (Nat.le_refl _) o3_).block (w.heap.size) (by omega)).trans hA
 replace hY1 := (((Below.refl _ _).alloc (Nat.le_refl _) o3_).block (w.heap.size + 1) (by omega)).trans hY1
 have hY2 := heap_alloc_new ((w.alloc o1_).alloc o2_) o3_
 subst ho3_
 subst ho2_
 subst ho1_
 rw [z2] at hY2
 go_enter Tryz.func148, Tryz.ntmps148
 go_upto_region 1 with fail
 generalize ((w.alloc (.cells #[.slice A l.length cp, .int .i64 e, .int .i64 z] 142)).alloc (.cells #[.string ⟨#[]⟩, .int .i64 0] 27)).alloc (.cells #[.slice none 0 0, .int .i64 0, .int .i64 0] 142) = V at *
 have nb := b2
 clear bA z1 z2 b1 b2
 have hbV := hb.trans (nb.mono hb.size)
 have j0 := (Lib.cell_of_heap hA 0).trans rfl
 have j1 := (Lib.cell_of_heap hA 1).trans rfl
 have j2 := (Lib.cell_of_heap hA 2).trans rfl
 go_wp2_with fail
 refine any16_calls (l, e, z) (.slice A l.length cp) w0 V hbV hx ok 1 _ (Lib.hid fun v1 w1 r1 n1 => ?_)
 replace hA := (n1.block _ (blt hA)).trans hA
 replace hY1 := (n1.block _ (blt hY1)).trans hY1
 replace hY2 := (n1.block _ (blt hY2)).trans hY2
 replace nb := nb.trans (n1.mono nb.size)
 replace hbV := hb.trans (nb.mono hb.size)
 clear j0 j1 j2 n1
 have j0 := (Lib.cell_of_heap hA 0).trans rfl
 have j1 := (Lib.cell_of_heap hA 1).trans rfl
 have j2 := (Lib.cell_of_heap hA 2).trans rfl
 obtain ⟨A1, c1, rfl, -, -⟩ := r1.op
 have hq : nameS (l, e, z) = (((anyS (l, e, z) 1).1.2.2.2.1, (anyS (l, e, z) 1).1.2.1), (anyS (l, e, z) 1).2) := rfl
 rw [hq] at hR
 clear hq
 generalize anyS (l, e, z) 1 = X at *
 obtain ⟨⟨t0, t1, t2, t3, t4⟩, q⟩ := X
 simp only at r1 hR
 simp only [tkV]
 obtain ⟨o4_, ho4_⟩ : ∃ oO_ : Obj, oO_ = .cells #[.int .i64 t0, .int .i64 t1, .int .i64 t2, .string t3, .int .i64 t4] 212 := ⟨_, rfl⟩
 have b4 := (Below.refl w1.heap.size w1).alloc (Nat.le_refl _) o4_
 obtain ⟨o5_, ho5_⟩ : ∃ oO_ : Obj, oO_ = .cells #[.slice A1 q.1.length c1, .int .i64 q.2.1, .int .i64 q.2.2] 142 := ⟨_, rfl⟩
 have b5 := b4.alloc b4.size o5_
 have zz : (w1.alloc o4_).heap.size = w1.heap.size + 1 := by simp
 have h4 := (((Below.refl _ _).alloc (Nat.le_refl _) o5_).block w1.heap.size (by omega)).trans (heap_alloc_new w1 o4_)
 have h5 := heap_alloc_new (w1.alloc o4_) o5_
 subst ho5_
 subst ho4_
 rw [zz] at h5
 have hs1 : w.heap.size + 3 ≤ w1.heap.size := blt hY2
 replace hY1 := (b5.block _ (blt hY1)).trans hY1
 replace hY2 := (b5.block _ (blt hY2)).trans hY2
 replace nb := nb.trans (b5.mono nb.size)
 clear j0 j1 j2 hbV
 go_upto_region 2 with fail
 generalize (w1.alloc (.cells #[.int .i64 t0, .int .i64 t1, .int .i64 t2, .string t3, .int .i64 t4] 212)).alloc (.cells #[.slice A1 q.1.length c1, .int .i64 q.2.1, .int .i64 q.2.2] 142) = V2 at *
 generalize w1.heap.size = B at *
 clear b4 b5 zz
 have l1 := blt hY1
 have l2 := blt hY2
 have l4 := blt h4
 have l5 := blt h5
 have k1 := fun y : GW V2 (w.heap.size + 1) (w.heap.size + 2) => y.cell (by omega) (by omega) (by omega) ((Lib.cell_of_heap h4 1).trans rfl)
 have k3 := fun y : GW V2 (w.heap.size + 1) (w.heap.size + 2) => y.cell (by omega) (by omega) (by omega) ((Lib.cell_of_heap h4 3).trans rfl)
 have jr : ∀ y : GW V2 (w.heap.size + 1) (w.heap.size + 2), y.w.rangeAt (B + 1) 0 [.slice A1 q.1.length c1, .int .i64 q.2.1, .int .i64 q.2.2] := fun y j v h => by rw [Nat.zero_add, Lib.cell_of_heap ((y.b _ l5 (by omega) (by omega)).trans h5)]; simpa using h
 clear h4 h5
 refine wp_region_mixG (w.heap.size + 1) (w.heap.size + 2) [([0, 1, 2, 3, 4, 5], 6), ([], 7)] [] (by kernel_rfl) (by kernel_rfl) (by kernel_rfl) (by kernel_rfl) (fun _ _ d _ _ h => by cases d <;> exact h) ?_
 have gL : Below V2.heap.size V2 (V2.drewN 1) := ⟨rfl, rfl, rfl, Nat.le_refl _, fun _ _ => rfl⟩
 refine mix_cons (os := [_, _, _, _, _, _]) (by simp only [pickO, List.filterMap_cons, List.filterMap_nil, List.getElem?_toArray, List.getElem?_cons_succ, List.getElem?_cons_zero]; rfl) (fun Kp hKp => ?_)
 iterate 5 (go_big_quiet_step (exact rfl))
 refine wpQuiet_load rfl 142 _ rfl (B + 1) 0 rfl [.slice A1 q.1.length c1, .int .i64 q.2.1, .int .i64 q.2.2] _ (by rintro V ⟨y, rfl⟩; exact jr y) Tryz.underlying142 rfl (by kernel_rfl) ?_
 go_simp
 refine wpQuiet_nil ?_
 refine hKp _ ?_
 clear hKp
 replace hY1 := (gL.block _ l1).trans hY1
 replace hY2 := (gL.block _ l2).trans hY2
 have nb3 := nb.trans (gL.mono nb.size)
 have ne12 : w.heap.size + 2 ≠ w.heap.size + 1 := by omega
 refine loud (by rfl) (by kernel_rfl) (fun K2 hK2 => ?_)
 have y0 := (Lib.cell_of_heap hY1 0).trans rfl
 have yf0 := Lib.frozen_of_heap hY1 0
 have y1 := (Lib.cell_of_heap hY1 1).trans rfl
 have yf1 := Lib.frozen_of_heap hY1 1
 have u0 := (Lib.cell_of_heap hY2 0).trans rfl
 have uf0 := Lib.frozen_of_heap hY2 0
 have u1 := (Lib.cell_of_heap hY2 1).trans rfl
 have uf1 := Lib.frozen_of_heap hY2 1
 have u2 := (Lib.cell_of_heap hY2 2).trans rfl
 have uf2 := Lib.frozen_of_heap hY2 2
 go_simp
 refine hK2 _ _ (GWsetp (GWsetp (GW.bl gL) _) _) ?_
 clear hK2
 refine mix_cons (os := []) (by rfl) (fun Kp hKp => ?_)
 refine wpQuiet_nil ?_
 refine hKp _ ?_
 clear hKp
 refine loud (by rfl) (by kernel_rfl) (fun K3 hK3 => ?_)
 go_simp
 refine hK3 _ _ (GW.set (GW.set (GW.set (GWsetp (GWsetp (GW.bl gL) _) _) _) _) _) ?_
 clear hK3
 refine mix_nil (os := []) (by rfl) (fun Kp hKp => ?_)
 refine wpQuiet_nil ?_
 refine hKp _ ?_
 clear hKp
 have fin := Lib.hid (hR.out (.slice A1 q.1.length c1) _ r1 (set3p (q := w.heap.size + 2) (by omega) (((nb3.setCell (p := ⟨w.heap.size + 1, 0, none⟩) (by show w.heap.size ≤ w.heap.size + 1; omega) (.string t3))).setCell (p := ⟨w.heap.size + 1, 1, none⟩) (by show w.heap.size ≤ w.heap.size + 1; omega) (.int .i64 t1)) (.slice A1 q.1.length c1) (.int .i64 q.2.1) (.int .i64 q.2.2)))
 clear hR
 go_wp2_with fail
 refine bodyPost_ret ?_ rfl fin.out
 simp [results, Tryz.results148, go_sem, y0, y1, u0, u1, u2]
theorem number16_calls (p : PS) (v : Value) (w0 w : World) (hb : Below w0.heap.size w0 w) (hx : RdK w0 v p.1) (ok : Ok p) (R : Ending → World → Prop)
  (hR : Hid (∀ v' w', RdK w0 v' ((numS p).2).1 → Below w.heap.size w w' → R (.returned (.tuple #[.int .i64 (numS p).1, psV v' (numS p).2])) w')) : Calls Tryz.prog 145 #[psV v p] w R := by
 obtain ⟨l, e, z⟩ := p
 obtain ⟨A, cp, rfl, hlc, -⟩ := hx.op
 obtain ⟨o1_, ho1_⟩ : ∃ oO_ : Obj, oO_ = .cells #[.slice A l.length cp, .int .i64 e, .int .i64 z] 142 := ⟨_, rfl⟩
 have bA := (Below.refl w.heap.size w).alloc (Nat.le_refl _) o1_
 have hA := heap_alloc_new w o1_
 obtain ⟨o2_, ho2_⟩ : ∃ oO_ : Obj, oO_ = .cells #[.slice none 0 0, .int .i64 0, .int .i64 0] 142 := ⟨_, rfl⟩
 have b1 := bA.alloc bA.size o2_
 have z1 : (w.alloc o1_).heap.size = w.heap.size + 1 := by simp
 replace hA := (((Below.refl _ _).alloc (Nat.le_refl _) o2_).block (w.heap.size) (by omega)).trans hA
 have hY1 := heap_alloc_new (w.alloc o1_) o2_
 subst ho2_
 subst ho1_
 rw [z1] at hY1
 go_enter Tryz.func145, Tryz.ntmps145
 go_upto_region 1 with fail
 generalize (w.alloc (.cells #[.slice A l.length cp, .int .i64 e, .int .i64 z] 142)).alloc (.cells #[.slice none 0 0, .int .i64 0, .int .i64 0] 142) = V at *
 have nb := b1
 clear bA z1 b1
 have hbV := hb.trans (nb.mono hb.size)
 have j0 := (Lib.cell_of_heap hA 0).trans rfl
 have j1 := (Lib.cell_of_heap hA 1).trans rfl
 have j2 := (Lib.cell_of_heap hA 2).trans rfl
 go_wp2_with fail
 refine mark16_calls (l, e, z) (.slice A l.length cp) w0 V hbV hx ok lpar _ (Lib.hid fun v1 w1 r1 n1 => ?_)
 replace hA := (n1.block _ (blt hA)).trans hA
 replace hY1 := (n1.block _ (blt hY1)).trans hY1
 replace nb := nb.trans (n1.mono nb.size)
 replace hbV := hb.trans (nb.mono hb.size)
 clear j0 j1 j2 n1
 have j0 := (Lib.cell_of_heap hA 0).trans rfl
 have j1 := (Lib.cell_of_heap hA 1).trans rfl
 have j2 := (Lib.cell_of_heap hA 2).trans rfl
 obtain ⟨A1, c1, rfl, -, -⟩ := r1.op
 have hq : numS (l, e, z) = ((anyS (markS (l, e, z) lpar) 2).1.2.2.2.2, markS (anyS (markS (l, e, z) lpar) 2).2 rpar) := rfl
 rw [hq] at hR
 clear hq
 have ok1 := mark_ok (m := lpar) (p := (l, e, z)) ok
 generalize markS (l, e, z) lpar = q1 at *
 go_wp2_with fail
 refine any16_calls q1 (.slice A1 q1.1.length c1) w0 w1 hbV r1 ok1 2 _ (Lib.hid fun v2 w2 r2 n2 => ?_)
 replace hA := (n2.block _ (blt hA)).trans hA
 replace hY1 := (n2.block _ (blt hY1)).trans hY1
 replace nb := nb.trans (n2.mono nb.size)
 replace hbV := hb.trans (nb.mono hb.size)
 clear j0 j1 j2 n2
 have j0 := (Lib.cell_of_heap hA 0).trans rfl
 have j1 := (Lib.cell_of_heap hA 1).trans rfl
 have j2 := (Lib.cell_of_heap hA 2).trans rfl
 obtain ⟨A2, c2, rfl, -, -⟩ := r2.op
 have ok2 := any_ok (k := 2) ok1 (by decide)
 generalize anyS q1 2 = X at *
 obtain ⟨⟨t0, t1, t2, t3, t4⟩, q⟩ := X
 simp only at r2 hR ok2
 simp only [tkV]
 obtain ⟨o3_, ho3_⟩ : ∃ oO_ : Obj, oO_ = .cells #[.int .i64 t0, .int .i64 t1, .int .i64 t2, .string t3, .int .i64 t4] 212 := ⟨_, rfl⟩
 have b4 := (Below.refl w2.heap.size w2).alloc (Nat.le_refl _) o3_
 obtain ⟨o4_, ho4_⟩ : ∃ oO_ : Obj, oO_ = .cells #[.slice A2 q.1.length c2, .int .i64 q.2.1, .int .i64 q.2.2] 142 := ⟨_, rfl⟩
 have b5 := b4.alloc b4.size o4_
 have zz : (w2.alloc o3_).heap.size = w2.heap.size + 1 := by simp
 have h4 := (((Below.refl _ _).alloc (Nat.le_refl _) o4_).block w2.heap.size (by omega)).trans (heap_alloc_new w2 o3_)
 have h5 := heap_alloc_new (w2.alloc o3_) o4_
 subst ho4_
 subst ho3_
 rw [zz] at h5
 have hs1 : w.heap.size + 2 ≤ w2.heap.size := blt hY1
 replace hY1 := (b5.block _ (blt hY1)).trans hY1
 replace nb := nb.trans (b5.mono nb.size)
 replace hbV := hb.trans (nb.mono hb.size)
 clear j0 j1 j2
 go_upto_region 2 with fail
 generalize (w2.alloc (.cells #[.int .i64 t0, .int .i64 t1, .int .i64 t2, .string t3, .int .i64 t4] 212)).alloc (.cells #[.slice A2 q.1.length c2, .int .i64 q.2.1, .int .i64 q.2.2] 142) = V2 at *
 generalize w2.heap.size = B at *
 clear b4 b5 zz
 have l1 := blt hY1
 have l4 := blt h4
 have l5 := blt h5
 have k4 := fun y : GW V2 (w.heap.size + 1) (w.heap.size + 1) => y.cell (by omega) (by omega) (by omega) ((Lib.cell_of_heap h4 4).trans rfl)
 have jr : ∀ y : GW V2 (w.heap.size + 1) (w.heap.size + 1), y.w.rangeAt (B + 1) 0 [.slice A2 q.1.length c2, .int .i64 q.2.1, .int .i64 q.2.2] := fun y j v h => by rw [Nat.zero_add, Lib.cell_of_heap ((y.b _ l5 (by omega) (by omega)).trans h5)]; simpa using h
 clear h4 h5
 refine wp_region_mixG (w.heap.size + 1) (w.heap.size + 1) [([0, 1, 2], 3), ([4], 5)] [] (by kernel_rfl) (by kernel_rfl) (by kernel_rfl) (by kernel_rfl) (fun _ _ d _ _ h => by cases d <;> exact h) ?_
 have gW : Below V2.heap.size V2 (V2.drewN 1) := ⟨rfl, rfl, rfl, Nat.le_refl _, fun _ _ => rfl⟩
 refine mix_cons (os := [_, _, _]) (by simp only [pickO, List.filterMap_cons, List.filterMap_nil, List.getElem?_toArray, List.getElem?_cons_succ, List.getElem?_cons_zero]; rfl) (fun Kp hKp => ?_)
 iterate 2 (go_big_quiet_step (exact rfl))
 refine wpQuiet_load rfl 142 _ rfl (B + 1) 0 rfl [.slice A2 q.1.length c2, .int .i64 q.2.1, .int .i64 q.2.2] _ (by rintro V ⟨y, rfl⟩; exact jr y) Tryz.underlying142 rfl (by kernel_rfl) ?_
 go_simp
 refine wpQuiet_nil ?_
 refine hKp _ ?_
 clear hKp
 refine loud (by rfl) (by kernel_rfl) (fun K1 hK1 => ?_)
 go_simp
 refine mark16_calls q (.slice A2 q.1.length c2) w0 _ (hbV.trans (gW.mono hbV.size)) r2 ok2 rpar _ (Lib.hid fun v3 w3 r3 n3 => ?_)
 obtain ⟨A3, c3, rfl, -, -⟩ := r3.op
 generalize markS q rpar = Q3 at *
 have gL := gW.trans (n3.mono gW.size)
 replace hY1 := (gL.block _ l1).trans hY1
 have nb3 := nb.trans (gL.mono nb.size)
 refine hK1 _ _ (GW.bl gL) ?_
 clear hK1
 refine mix_cons (os := [_]) (by simp only [pickO, List.filterMap_cons, List.filterMap_nil, List.getElem?_toArray, List.getElem?_cons_succ, List.getElem?_cons_zero]; rfl) (fun Kp hKp => ?_)
 go_big_quiet_step (exact rfl)
 refine wpQuiet_nil ?_
 refine hKp _ ?_
 clear hKp
 refine loud (by rfl) (by kernel_rfl) (fun K2 hK2 => ?_)
 have y0 := (Lib.cell_of_heap hY1 0).trans rfl
 have yf0 := Lib.frozen_of_heap hY1 0
 have y1 := (Lib.cell_of_heap hY1 1).trans rfl
 have yf1 := Lib.frozen_of_heap hY1 1
 have y2 := (Lib.cell_of_heap hY1 2).trans rfl
 have yf2 := Lib.frozen_of_heap hY1 2
 go_simp
 refine hK2 _ _ (GW.set (GW.set (GW.set (GW.bl gL) _) _) _) ?_
 clear hK2
 refine mix_nil (os := []) (by rfl) (fun Kp hKp => ?_)
 refine wpQuiet_nil ?_
 refine hKp _ ?_
 clear hKp
 have fin := Lib.hid (hR.out (.slice A3 Q3.1.length c3) _ r3 (set3p (q := w.heap.size + 1) (by omega) nb3 (.slice A3 Q3.1.length c3) (.int .i64 Q3.2.1) (.int .i64 Q3.2.2)))
 clear hR
 go_wp2_with fail
 refine bodyPost_ret ?_ rfl fin.out
 simp [results, Tryz.results145, go_sem, y0, y1, y2]
end Go.Proofs.YtncijmodlhijoaaGreat.Syn
namespace Go.Proofs.YtncijmodlhijoaaGreat.Syn
open Go.Lib Utf Tok Cur Lat Kin
def pkS (p : PS) : Tk := Cur.peekS (p.1, 0, p.2)
def failP (p : PS) (e : Int) : PS := if p.2.1 ≠ 0 then p else (p.1, e, (Cur.hdT p.1).2.1)
def wordS (p : PS) (x : ByteArray) : PS × Bool := if p.2.1 = 0 ∧ isS p 1 x = true then (onS p, true) else (p, false)
def rstS (p : PS) : PS := if (pkS p).1 = 1 then failP p 9 else wrongS p
def needW (p : PS) (x : ByteArray) : PS := if (wordS p x).2 then (wordS p x).1 else wrongS p
def intS (p : PS) : Int × PS := ((anyS p 2).1.2.2.2.2, (anyS p 2).2)
def labelC (p : PS) : List Wr × PS := if (mayS p atS).2 then listP nameS plus (mayS p atS).1 else ([], (mayS p atS).1)
def coaK (p : PS) : (Int × Int) × PS :=
 if (wordS p sFloor).2 then ((1, (numS (wordS p sFloor).1).1), (numS (wordS p sFloor).1).2)
 else if (wordS p sFirst).2 then ((2, (numS (wordS p sFirst).1).1), (numS (wordS p sFirst).1).2)
 else if (wordS p sCount).2 then ((3, 0), (wordS p sCount).1)
 else ((0, 0), rstS p)
def coaC (p : PS) : Co × PS := (((coaK p).1.1, (coaK p).1.2, (pkS p).2.1, (labelC (coaK p).2).1), (labelC (coaK p).2).2)
def wideC (p : PS) : Int × PS := if (mayS p hash).2 then intS (mayS p hash).1 else (0, (mayS p hash).1)
def seeC (p : PS) : Co × PS := if (mayS p tilde).2 then coaC (mayS p tilde).1 else ((0, 0, 0, []), (mayS p tilde).1)
def marksC (x : PH) (p : PS) : PH × PS :=
 (⟨x.name, x.at_, x.bare, (labelC p).1, (wideC (labelC p).2).1, (seeC (wideC (labelC p).2).2).1.1, (seeC (wideC (labelC p).2).2).1.2.1, (seeC (wideC (labelC p).2).2).1.2.2.1, (seeC (wideC (labelC p).2).2).1.2.2.2⟩, (seeC (wideC (labelC p).2).2).2)
abbrev Pt := PH × TH × Ft
abbrev Sub := PS → (TH × Ft) × PS
def ofL : List Pt → Ft
 | [] => .nil
 | x :: l => .cons x.1 x.2.1 x.2.2 (ofL l)
def nP (w : Wr) : PH := ⟨w.1, w.2, false, [], 0, 0, 0, 0, []⟩
def nB (w : Wr) : PH := ⟨w.1, w.2, true, [], 0, 0, 0, 0, []⟩
def fieldC (sub : Sub) (p : PS) : Pt × PS :=
 (((marksC (nP (nameS p).1) (sub (markS (nameS p).2 colon)).2).1, (sub (markS (nameS p).2 colon)).1), (marksC (nP (nameS p).1) (sub (markS (nameS p).2 colon)).2).2)
def tagC (sub : Sub) (p : PS) : Pt × PS :=
 if (mayS (nameS p).2 lpar).2 then
  (((marksC (nP (nameS p).1) (markS (sub (mayS (nameS p).2 lpar).1).2 rpar)).1, (sub (mayS (nameS p).2 lpar).1).1), (marksC (nP (nameS p).1) (markS (sub (mayS (nameS p).2 lpar).1).2 rpar)).2)
 else ((nB (nameS p).1, zTH, .nil), (mayS (nameS p).2 lpar).1)
def noneC {α : Type} (el : PS → α × PS) (p : PS) : List α × PS := if (pkS p).1 ≠ 1 then ([], p) else listP el comma p
abbrev sBool : ByteArray := ⟨#[98, 111, 111, 108]⟩
abbrev sInt : ByteArray := ⟨#[105, 110, 116]⟩
abbrev sText : ByteArray := ⟨#[116, 101, 120, 116]⟩
abbrev sEnum : ByteArray := ⟨#[101, 110, 117, 109]⟩
abbrev sList : ByteArray := ⟨#[108, 105, 115, 116]⟩
abbrev sOpt : ByteArray := ⟨#[111, 112, 116]⟩
abbrev sRecord : ByteArray := ⟨#[114, 101, 99, 111, 114, 100]⟩
abbrev sUnion : ByteArray := ⟨#[117, 110, 105, 111, 110]⟩
abbrev sRef : ByteArray := ⟨#[114, 101, 102]⟩
def kindC (p : PS) : Int × PS :=
 if (wordS p sBool).2 then (1, (wordS p sBool).1)
 else if (wordS p sInt).2 then (2, (wordS p sInt).1)
 else if (wordS p sText).2 then (3, (wordS p sText).1)
 else if (wordS p sEnum).2 then (4, (wordS p sEnum).1)
 else if (wordS p sList).2 then (5, (wordS p sList).1)
 else if (wordS p sOpt).2 then (6, (wordS p sOpt).1)
 else if (wordS p sRecord).2 then (7, (wordS p sRecord).1)
 else if (wordS p sUnion).2 then (8, (wordS p sUnion).1)
 else if (wordS p sRef).2 then (9, (wordS p sRef).1)
 else (0, rstS p)
def boundsC (p : PS) : (Int × Int) × PS := (((intS p).1, (intS (markS (intS p).2 dots)).1), (intS (markS (intS p).2 dots)).2)
def insS {α : Type} (a b : ByteArray) (el : PS → α × PS) (p : PS) : α × PS := ((el (markS p a)).1, markS (el (markS p a)).2 b)
def only (x : TH × Ft) : Ft := .cons zPH x.1 x.2 .nil
def listC (sub : Sub) (p : PS) : (Ft × Int) × PS := ((only (sub p).1, (intS (markS (sub p).2 comma)).1), (intS (markS (sub p).2 comma)).2)
def contC (sub : Sub) (h : TH) (p : PS) : (TH × Ft) × PS :=
 if h.kind = 2 then (({ h with lo := (insS lpar rpar boundsC p).1.1, hi := (insS lpar rpar boundsC p).1.2 }, .nil), (insS lpar rpar boundsC p).2)
 else if h.kind = 3 then (({ h with most := (insS lpar rpar intS p).1 }, .nil), (insS lpar rpar intS p).2)
 else if h.kind = 4 then (({ h with names := (insS lpar rpar (listP nameS comma) p).1 }, .nil), (insS lpar rpar (listP nameS comma) p).2)
 else if h.kind = 5 then (({ h with most := (insS lpar rpar (listC sub) p).1.2 }, (insS lpar rpar (listC sub) p).1.1), (insS lpar rpar (listC sub) p).2)
 else if h.kind = 6 then ((h, only (insS lpar rpar sub p).1), (insS lpar rpar sub p).2)
 else if h.kind = 7 then ((h, ofL (insS lbrace rbrace (noneC (fieldC sub)) p).1), (insS lbrace rbrace (noneC (fieldC sub)) p).2)
 else if h.kind = 8 then ((h, ofL (insS lbrace rbrace (listP (tagC sub) comma) p).1), (insS lbrace rbrace (listP (tagC sub) comma) p).2)
 else if h.kind = 9 then (({ h with name := (insS lpar rpar nameS p).1.1, nat := (insS lpar rpar nameS p).1.2 }, .nil), (insS lpar rpar nameS p).2)
 else ((h, .nil), p)
def hKA (k a : Int) : TH := ⟨k, a, 0, 0, 0, [], ByteArray.empty, 0⟩
def typC : Nat → Sub
 | 0, p => ((hKA 0 (pkS p).2.1, .nil), failP p 6)
 | n + 1, p => contC (typC n) (hKA (kindC p).1 (pkS p).2.1) (kindC p).2
abbrev Pr := Wr × Wr
def pairsC : Wr → List Wr → List Pr
 | _, [] => []
 | lo, hi :: l => (lo, hi) :: pairsC hi l
abbrev lt : ByteArray := ⟨#[60]⟩
abbrev eqS : ByteArray := ⟨#[61]⟩
abbrev sLevels : ByteArray := ⟨#[108, 101, 118, 101, 108, 115]⟩
abbrev sOrder : ByteArray := ⟨#[111, 114, 100, 101, 114]⟩
abbrev sType : ByteArray := ⟨#[116, 121, 112, 101]⟩
abbrev sRoot : ByteArray := ⟨#[114, 111, 111, 116]⟩
def chainC (p : PS) : List Pr × PS := (pairsC (nameS p).1 (listP nameS lt (markS (nameS p).2 lt)).1, (listP nameS lt (markS (nameS p).2 lt)).2)
abbrev Nd := Wr × TH × Ft
def namedC (p : PS) : Nd × PS := (((nameS p).1, (typC 24 (markS (nameS p).2 eqS)).1), (typC 24 (markS (nameS p).2 eqS)).2)
def typesC : Nat → PS → List Nd × PS
 | 0, p => ([], p)
 | n + 1, p => if (wordS p sType).2 then ((namedC (wordS p sType).1).1 :: (typesC n (namedC (wordS p sType).1).2).1, (typesC n (namedC (wordS p sType).1).2).2) else ([], (wordS p sType).1)
abbrev Sc := List Wr × List Pr × List Nd × TH × Ft
def orderC (p : PS) : List Pr × PS := if (wordS p sOrder).2 then ((insS lbrace rbrace (noneC chainC) (wordS p sOrder).1).1.flatten, (insS lbrace rbrace (noneC chainC) (wordS p sOrder).1).2) else ([], (wordS p sOrder).1)
def levelsC (p : PS) : List Wr × PS := insS lbrace rbrace (listP nameS comma) (needW p sLevels)
def tysC (p : PS) : List Nd × PS := typesC (p.1.length + 1) p
def schC (p : PS) : Sc × PS :=
 (((levelsC p).1, (orderC (levelsC p).2).1, (tysC (orderC (levelsC p).2).2).1, (typC 24 (needW (tysC (orderC (levelsC p).2).2).2 sRoot)).1), (typC 24 (needW (tysC (orderC (levelsC p).2).2).2 sRoot)).2)
def wholeC (p : PS) : PS := if (pkS p).1 ≠ 0 then wrongS p else p
theorem gd_word (p : PS) (x : ByteArray) (h : Ok p) : Ok (wordS p x).1 ∧ (wordS p x).1.1.length ≤ p.1.length := by
 unfold wordS
 by_cases c : p.2.1 = 0 ∧ isS p 1 x = true
 ·rw [if_pos c]
  exact ⟨on_ok h (by rw [is_kind c.2]; decide), by rw [on_len]; omega⟩
 ·rw [if_neg c]
  exact ⟨h, Nat.le_refl _⟩
theorem wrong_ok {p : PS} (h : Ok p) : Ok (wrongS p) := by show EndL (wrongS p).1; rw [wrong_l]; exact h
theorem failP_l (p : PS) (e : Int) : (failP p e).1 = p.1 := by unfold failP; split <;> rfl
theorem gd_fail (p : PS) (e : Int) (h : Ok p) : Ok (failP p e) ∧ (failP p e).1.length ≤ p.1.length := by
 have := failP_l p e
 exact ⟨by show EndL (failP p e).1; rw [this]; exact h, by rw [this]; exact Nat.le_refl _⟩
theorem gd_wrong (p : PS) (h : Ok p) : Ok (wrongS p) ∧ (wrongS p).1.length ≤ p.1.length := ⟨wrong_ok h, Nat.le_of_eq (wrong_len p)⟩
theorem gd_rst (p : PS) (h : Ok p) : Ok (rstS p) ∧ (rstS p).1.length ≤ p.1.length := by
 unfold rstS
 split
 ·exact gd_fail p 9 h
 ·exact gd_wrong p h
theorem gd_mark (p : PS) (x : ByteArray) (h : Ok p) : Ok (markS p x) ∧ (markS p x).1.length ≤ p.1.length := ⟨mark_ok h, need_len p 4 x⟩
theorem gd_may (p : PS) (x : ByteArray) (h : Ok p) : Ok (mayS p x).1 ∧ (mayS p x).1.1.length ≤ p.1.length := ⟨may_ok h, may_len p x⟩
theorem gd_int : Gd intS := fun p h => ⟨any_ok h (by decide), any_len p 2⟩
theorem gd_seq {p q r : PS} (a : Ok q ∧ q.1.length ≤ p.1.length) (b : Ok q → Ok r ∧ r.1.length ≤ q.1.length) : Ok r ∧ r.1.length ≤ p.1.length := ⟨(b a.1).1, Nat.le_trans (b a.1).2 a.2⟩
theorem gd_num : Gd numS := fun p h => gd_seq (gd_seq (gd_mark p lpar h) (fun h => ⟨any_ok h (by decide), any_len _ 2⟩)) (gd_mark _ rpar)
theorem gd_ins {α : Type} {a b : ByteArray} {el : PS → α × PS} (g : Gd el) : Gd (insS a b el) := fun p h => gd_seq (gd_seq (gd_mark p a h) (g _)) (gd_mark _ b)
theorem gd_label : Gd labelC := fun p h => by
 unfold labelC
 split
 ·exact gd_seq (gd_may p atS h) (gd_list gd_name _)
 ·exact gd_may p atS h
theorem gd_coaK : Gd coaK := fun p h => by
 unfold coaK
 split
 ·exact gd_seq (gd_word p _ h) (gd_num _)
 ·split
  ·exact gd_seq (gd_word p _ h) (gd_num _)
  ·split
   ·exact gd_word p _ h
   ·exact gd_rst p h
theorem gd_coa : Gd coaC := fun p h => gd_seq (gd_coaK p h) (gd_label _)
theorem gd_wide : Gd wideC := fun p h => by
 unfold wideC
 split
 ·exact gd_seq (gd_may p _ h) (gd_int _)
 ·exact gd_may p _ h
theorem gd_see : Gd seeC := fun p h => by
 unfold seeC
 split
 ·exact gd_seq (gd_may p _ h) (gd_coa _)
 ·exact gd_may p _ h
theorem gd_marks (x : PH) : Gd (marksC x) := fun p h => gd_seq (gd_seq (gd_label p h) (gd_wide _)) (gd_see _)
theorem gd_field {sub : Sub} (g : Gd sub) : Gd (fieldC sub) := fun p h => gd_seq (gd_seq (gd_seq (gd_name p h) (gd_mark _ colon)) (g _)) (gd_marks (nP (nameS p).1) _)
theorem gd_tag {sub : Sub} (g : Gd sub) : Gd (tagC sub) := fun p h => by
 unfold tagC
 split
 ·exact gd_seq (gd_seq (gd_seq (gd_seq (gd_name p h) (gd_may _ lpar)) (g _)) (gd_mark _ rpar)) (gd_marks (nP (nameS p).1) _)
 ·exact gd_seq (gd_name p h) (gd_may _ lpar)
theorem gd_none {α : Type} {el : PS → α × PS} (g : Gd el) : Gd (noneC el) := fun p h => by
 unfold noneC
 split
 ·exact ⟨h, Nat.le_refl _⟩
 ·exact gd_list g p h
theorem gd_kind : Gd kindC := fun p h => by
 unfold kindC
 repeat' split
 all_goals first | exact gd_word p _ h | exact gd_rst p h
theorem gd_bounds : Gd boundsC := fun p h => gd_seq (gd_seq (gd_int p h) (gd_mark _ dots)) (gd_int _)
theorem gd_listC {sub : Sub} (g : Gd sub) : Gd (listC sub) := fun p h => gd_seq (gd_seq (g p h) (gd_mark _ comma)) (gd_int _)
theorem gd_cont {sub : Sub} (g : Gd sub) (h : TH) : Gd (contC sub h) := fun p ok => by
 unfold contC
 repeat' split
 ·exact gd_ins gd_bounds p ok
 ·exact gd_ins gd_int p ok
 ·exact gd_ins (gd_list gd_name) p ok
 ·exact gd_ins (gd_listC g) p ok
 ·exact gd_ins g p ok
 ·exact gd_ins (gd_none (gd_field g)) p ok
 ·exact gd_ins (gd_list (gd_tag g)) p ok
 ·exact gd_ins gd_name p ok
 ·exact ⟨ok, Nat.le_refl _⟩
theorem gd_typ : ∀ n, Gd (typC n)
 | 0 => fun p h => gd_fail p 6 h
 | n + 1 => fun p h => gd_seq (gd_kind p h) (gd_cont (gd_typ n) _ _)
theorem ofL_len : ∀ l : List Pt, (ofL l).len = l.length
 | [] => rfl
 | x :: l => by simp [ofL, Fo.len, ofL_len l]
end Go.Proofs.YtncijmodlhijoaaGreat.Syn
