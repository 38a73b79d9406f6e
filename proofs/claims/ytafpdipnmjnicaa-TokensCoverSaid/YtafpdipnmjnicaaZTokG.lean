/- Layer 13: the law TokensCover walked. -/
import Derived.Test.YtafpdipnmjnicaaZTokF
import Derived.IntWalk
import Derived.Test.YtafpdipnmjnicaaCls
set_option maxRecDepth 100000
set_option linter.unusedVariables false
namespace Go.Proofs.Ytafpdipnmjnicaa.Tok
open Go.RowKit Go.Lib Go.Proofs.Ytafpdipnmjnicaa.Utf Go.Proofs.Ytafpdipnmjnicaa.Ran Go.Proofs.Ytafpdipnmjnicaa.Dig Go.Proofs.Ytafpdipnmjnicaa.Nam Go.Proofs.Ytafpdipnmjnicaa.Pat

theorem box_five (w : World) (a b c : Int) (x : ByteArray) (d : Int) :
    (w.alloc (.cells #[.int .i64 a, .int .i64 b, .int .i64 c, .string x, .int .i64 d] 35)).cell? ⟨w.heap.size, 0, none⟩ = some (.int .i64 a) ∧ (w.alloc (.cells #[.int .i64 a, .int .i64 b, .int .i64 c, .string x, .int .i64 d] 35)).cell? ⟨w.heap.size, 1, none⟩ = some (.int .i64 b) ∧
    (w.alloc (.cells #[.int .i64 a, .int .i64 b, .int .i64 c, .string x, .int .i64 d] 35)).cell? ⟨w.heap.size, 2, none⟩ = some (.int .i64 c) ∧ (w.alloc (.cells #[.int .i64 a, .int .i64 b, .int .i64 c, .string x, .int .i64 d] 35)).cell? ⟨w.heap.size, 3, none⟩ = some (.string x) ∧
    (w.alloc (.cells #[.int .i64 a, .int .i64 b, .int .i64 c, .string x, .int .i64 d] 35)).cell? ⟨w.heap.size, 4, none⟩ = some (.int .i64 d) := by
  have q1 := heap_alloc_new w (.cells #[.int .i64 a, .int .i64 b, .int .i64 c, .string x, .int .i64 d] 35)
  refine ⟨?_, ?_, ?_, ?_, ?_⟩ <;> (rw [Lib.cell_of_heap q1]; rfl)
theorem drop_cons {l : List Tk} {K : Nat} (h : K < l.length) : l.drop K = tN l K :: l.drop (K + 1) := by rw [tN_get h]; exact List.drop_eq_getElem_cons h
set_option maxRecDepth 100000 in
set_option maxHeartbeats 4000000 in
theorem cover13_walk (s : ByteArray) (hs : s.size ≤ maxLen) (w : World) (R : Ending → World → Prop)
    (hR : Hid (∀ w', Below w.heap.size w w' → R (.returned (.bool true)) w')) : Calls Try.prog 5 #[.string s] w R := by
  by_cases hbig : 1000 < s.size
  · go_enter Try.func5, Try.ntmps5
    go_wp2_with fail
    refine lives13_calls _ _ (Lib.hid fun w6 n6 => ?_)
    go_wp2_with fail
    exact hR.out _ n6
  have hs1 : s.size ≤ 1000 := by omega
  rcases scn_two s with ⟨l, h1, h2, h3⟩ | ⟨e, z, h1, h2, h3, h4⟩
  · have hV : scnI s 0 false = (some l, 0, 0) := by unfold scnS at h1; rw [if_neg (by omega)] at h1; exact h1
    have hll := scn_len _ 0 false l _ (Nat.le_refl _) (Nat.zero_le _) hV
    have hzb : ((⟨#[32]⟩ : ByteArray) ++ s).size = s.size + 1 := by rw [ByteArray.size_append]; show 1 + s.size = _; omega
    have c1 := Lib.hid fun (W : World) R hR => scan1_calls s hs l 0 0 (.inl ⟨h1, rfl, rfl⟩) W R hR
    have c2 := Lib.hid fun (W : World) R hR => scan1_calls (⟨#[32]⟩ ++ s) (by rw [hzb]; unfold maxLen; omega) (l.map (mvT 1)) 0 0 (.inl ⟨by
      unfold scnS; rw [if_neg (by omega), scn_blank, mv_some hV]; rfl, rfl, rfl⟩) W R hR
    have cX := Lib.hid fun (a x : Nat) (q : List Tk) (hq : scnI (s.extract a x) 0 false = (some q, 0, 0)) (W : World) R hR => scan1_calls (s.extract a x) (by rw [ByteArray.size_extract]; unfold maxLen; omega) q 0 0 (.inl ⟨by
      unfold scnS; rw [if_neg (by rw [ByteArray.size_extract]; omega)]; exact hq, rfl, rfl⟩) W R hR
    replace hV := Lib.hid hV
    have hl0 := List.length_pos_iff.2 h3
    clear h1 h2 h3 hbig hs hzb
    go_enter Try.func5, Try.ntmps5
    go_wp2_with fail
    refine c1.out _ _ (Lib.hid fun v1 w1 r1 n1 => ?_)
    obtain ⟨A1, d1, rfl, -, -⟩ := r1.op
    have bA := (Below.refl w1.heap.size w1).alloc (Nat.le_refl _) (.cells #[.int .i64 0, .int .i64 0] 26)
    obtain ⟨k0, k1⟩ := box_two' w1 (.int .i64 0) (.int .i64 0) 26
    have n2 := Lib.hid (n1.trans (bA.mono n1.size))
    have r2 := Lib.hid (r1.below bA)
    clear n1 r1 bA
    go_wp2_with fail
    clear k0 k1
    generalize w1.alloc (.cells #[.int .i64 0, .int .i64 0] 26) = W2 at *
    refine c2.out _ _ (Lib.hid fun v3 w3 r3 n3 => ?_)
    obtain ⟨A3, d3, rfl, -, -⟩ := r3.op
    have bC := (Below.refl w3.heap.size w3).alloc (Nat.le_refl _) (.cells #[.int .i64 0, .int .i64 0] 26)
    obtain ⟨j0, j1⟩ := box_two' w3 (.int .i64 0) (.int .i64 0) 26
    have nA := n3.trans (bC.mono n3.size)
    have n4 := Lib.hid (n2.out.trans (nA.mono n2.out.size))
    have r4 := r2.out.below nA
    have r5 := r3.below bC
    rw [List.length_map] at r5 ⊢
    replace r4 := Lib.hid r4
    replace r5 := Lib.hid r5
    have ql : ((l.length : Int) != (l.length : Int)) = false := by simp
    clear n2 r2 r3 n3 bC nA c1 c2
    go_wp2_with fail
    clear j0 j1 ql
    generalize w3.alloc (.cells #[.int .i64 0, .int .i64 0] 26) = W4 at *
    obtain ⟨A1', d1', q1, -, hr1⟩ := RdK.op r4.out
    simp only [Value.slice.injEq, true_and] at q1
    obtain ⟨rfl, rfl⟩ := q1
    obtain ⟨A3', d3', q3, -, hr3⟩ := RdK.op r5.out
    rw [List.length_map] at q3 hr3
    simp only [Value.slice.injEq, true_and] at q3
    obtain ⟨rfl, rfl⟩ := q3
    obtain ⟨g1, o1, rfl, hg1, hc1⟩ := hr1 hl0
    obtain ⟨g3, o3, rfl, hg3, hc3⟩ := hr3 hl0
    replace hc1 := Lib.hid hc1
    replace hc3 := Lib.hid hc3
    clear hr1 hr3 r4 r5
    go_loopg [7, 8] l.length (fun g at' i wr => ∃ K a : Nat, at' = .int .i64 a ∧ i = .int .i64 K ∧ K + g = l.length ∧ a ≤ s.size ∧ Hid (Below W4.heap.size W4 wr) ∧ Hid (K < l.length → scnI s a false = (some (l.drop K), 0, 0)))
    case atStart => exact ⟨0, 0, rfl, rfl, by omega, by omega, Lib.hid (Below.refl _ _), Lib.hid fun _ => hV.out⟩
    case round =>
      obtain ⟨K, a, rfl, rfl, b1, b2, nb, hk⟩ := hrel
      clear hV
      by_cases hK : K < l.length
      · have hq := hk.out hK
        rw [drop_cons hK] at hq
        obtain ⟨x0, x1, x2, x3, x4⟩ := hc1.out K hK
        obtain ⟨y0, y1, y2, y3, y4⟩ := hc3.out K hK
        have hmv : tN (l.map (mvT 1)) K = mvT 1 (tN l K) := by
          rw [tN_get (by rw [List.length_map]; exact hK), tN_get hK, List.getElem_map]
        rw [hmv] at y0 y1 y2 y3 y4
        unfold mvT at y0 y1 y2 y3 y4
        have hd : (l.drop (K + 1)).length = l.length - (K + 1) := List.length_drop
        have hnx := Lib.hid fun (h : K + 1 < l.length) => h
        generalize tN l K = t at *
        obtain ⟨l', hl'⟩ : ∃ l', l.drop (K + 1) = l' := ⟨_, rfl⟩
        rw [hl'] at hq hd
        replace hl' := Lib.hid hl'
        obtain ⟨t0, t1, t2, t3, t4⟩ := t
        simp only at x0 x1 x2 x3 x4 y0 y1 y2 y3 y4
        obtain ⟨x, y, e1, e2, p1, p2, p3, p4, p5⟩ := cov_next b2 hq
        simp only at e1 e2 p5
        subst e1 e2
        have hBt : wr.heap.size < (wr.alloc (.cells #[.int .i64 t0, .int .i64 (x : Nat), .int .i64 (y : Nat), .string t3, .int .i64 t4] 35)).heap.size := by simp
        rcases p5 with ⟨z0, rfl, z6, z7⟩ | ⟨z0, z0', z6, z7, z8⟩
        · have hKl : K + 1 = l.length := by simp at hd; omega
          subst z0
          have q0 : ((0 : Int) == 0) = true := by simp
          have qK : ((K : Int) == (l.length : Int) - 1) = true := by simp; omega
          have bB := (Below.refl wr.heap.size wr).alloc (Nat.le_refl _) (.cells #[.int .i64 0, .int .i64 (x : Nat), .int .i64 (y : Nat), .string t3, .int .i64 t4] 35)
          have nW := nb.out.trans (bB.mono nb.out.size)
          obtain ⟨u0, u1, u2, u3, u4⟩ := box_five wr 0 (x : Nat) (y : Nat) t3 t4
          have z1' := (nb.out.cell (p := ⟨g1, o1 + K * 5, none⟩) hg1).trans x0
          have z2' := (nb.out.cell (p := ⟨g1, o1 + K * 5 + 1, none⟩) hg1).trans x1
          have z3' := (nb.out.cell (p := ⟨g1, o1 + K * 5 + 2, none⟩) hg1).trans x2
          have z4' := (nb.out.cell (p := ⟨g1, o1 + K * 5 + 3, none⟩) hg1).trans x3
          have z5' := (nb.out.cell (p := ⟨g1, o1 + K * 5 + 4, none⟩) hg1).trans x4
          have m0 := (nW.cell (p := ⟨g3, o3 + K * 5, none⟩) hg3).trans y0
          have m1 := (nW.cell (p := ⟨g3, o3 + K * 5 + 1, none⟩) hg3).trans y1
          have m2 := (nW.cell (p := ⟨g3, o3 + K * 5 + 2, none⟩) hg3).trans y2
          have m3 := (nW.cell (p := ⟨g3, o3 + K * 5 + 3, none⟩) hg3).trans y3
          have m4 := (nW.cell (p := ⟨g3, o3 + K * 5 + 4, none⟩) hg3).trans y4
          have i0 : (0 : Int) ≤ (K : Int) := by omega
          have i1 : (K : Int) < (l.length : Int) := by omega
          have d1 : decide (x < a) = false := decide_eq_false (by omega)
          have d2 : decide (y < x) = false := decide_eq_false (by omega)
          have d3 : decide (s.size < y) = false := decide_eq_false (by omega)
          have s3 := sq_t (rfl : t3 = t3)
          have v1 : IntKind.i64.wrap ((x : Int) + 1) = (x : Int) + 1 := IntWalk.i64_in _ (by omega)
          have v2 : IntKind.i64.wrap ((y : Int) + 1) = (y : Int) + 1 := IntWalk.i64_in _ (by omega)
          have v3 : IntKind.i64.wrap ((l.length : Int) - 1) = (l.length : Int) - 1 := IntWalk.i64_in _ (by omega)
          replace nW := Lib.hid nW
          clear x0 x1 x2 x3 x4 y0 y1 y2 y3 y4 bB hq hmv
          go_wp2_with fail
          clear z1' z2' z3' z4' z5'
          have hg3b : g3 < (wr.alloc (.cells #[.int .i64 0, .int .i64 (x : Nat), .int .i64 (y : Nat), .string t3, .int .i64 t4] 35)).heap.size := Nat.lt_of_lt_of_le hg3 (Nat.le_trans nb.out.size (Nat.le_of_lt hBt))
          have ku0 := fun x' : BW (wr.alloc (.cells #[.int .i64 0, .int .i64 (x : Nat), .int .i64 (y : Nat), .string t3, .int .i64 t4] 35)) => x'.cell hBt u0
          have ku1 := fun x' : BW (wr.alloc (.cells #[.int .i64 0, .int .i64 (x : Nat), .int .i64 (y : Nat), .string t3, .int .i64 t4] 35)) => x'.cell hBt u1
          have ku2 := fun x' : BW (wr.alloc (.cells #[.int .i64 0, .int .i64 (x : Nat), .int .i64 (y : Nat), .string t3, .int .i64 t4] 35)) => x'.cell hBt u2
          have ku3 := fun x' : BW (wr.alloc (.cells #[.int .i64 0, .int .i64 (x : Nat), .int .i64 (y : Nat), .string t3, .int .i64 t4] 35)) => x'.cell hBt u3
          have ku4 := fun x' : BW (wr.alloc (.cells #[.int .i64 0, .int .i64 (x : Nat), .int .i64 (y : Nat), .string t3, .int .i64 t4] 35)) => x'.cell hBt u4
          have km0 := fun x' : BW (wr.alloc (.cells #[.int .i64 0, .int .i64 (x : Nat), .int .i64 (y : Nat), .string t3, .int .i64 t4] 35)) => x'.cell hg3b m0
          have km1 := fun x' : BW (wr.alloc (.cells #[.int .i64 0, .int .i64 (x : Nat), .int .i64 (y : Nat), .string t3, .int .i64 t4] 35)) => x'.cell hg3b m1
          have km2 := fun x' : BW (wr.alloc (.cells #[.int .i64 0, .int .i64 (x : Nat), .int .i64 (y : Nat), .string t3, .int .i64 t4] 35)) => x'.cell hg3b m2
          have km3 := fun x' : BW (wr.alloc (.cells #[.int .i64 0, .int .i64 (x : Nat), .int .i64 (y : Nat), .string t3, .int .i64 t4] 35)) => x'.cell hg3b m3
          have km4 := fun x' : BW (wr.alloc (.cells #[.int .i64 0, .int .i64 (x : Nat), .int .i64 (y : Nat), .string t3, .int .i64 t4] 35)) => x'.cell hg3b m4
          generalize wr.alloc (.cells #[.int .i64 0, .int .i64 (x : Nat), .int .i64 (y : Nat), .string t3, .int .i64 t4] 35) = Wb at *
          refine wp_region_below_lit (by kernel_rfl) (by kernel_rfl) ?_
          repeat (go_big_quiet_step (fail))
          refine wpQuiet_nil ?_
          rintro _ ⟨y', rfl⟩
          have ny := Lib.hid y'.b
          generalize y'.w = wy at *
          have hBy : wr.heap.size < wy.heap.size := Nat.lt_of_lt_of_le hBt ny.out.size
          have a0 := (ny.out.cell (p := ⟨wr.heap.size, 0, none⟩) hBt).trans u0
          have a1 := (ny.out.cell (p := ⟨wr.heap.size, 1, none⟩) hBt).trans u1
          have a2 := (ny.out.cell (p := ⟨wr.heap.size, 2, none⟩) hBt).trans u2
          have a3 := (ny.out.cell (p := ⟨wr.heap.size, 3, none⟩) hBt).trans u3
          have a4 := (ny.out.cell (p := ⟨wr.heap.size, 4, none⟩) hBt).trans u4
          have nY := Lib.hid (nW.out.trans (ny.out.mono nW.out.size))
          clear ku0 ku1 ku2 ku3 ku4 km0 km1 km2 km3 km4 u0 u1 u2 u3 u4 m0 m1 m2 m3 m4 ny nW v1 v2 v3 d1 d2 d3 q0 qK i0 i1 nb hg3b hBt
          generalize wr.heap.size = BT at *
          have cB := Lib.hid (cX.out a x [endT (s.extract a x)] p4 wy)
          have cA := Lib.hid (cX.out x y [endT (s.extract x y)] z7)
          generalize endT (s.extract x y) = eT at *
          generalize endT (s.extract a x) = eB at *
          have sx0 : (a : Int) ≤ (x : Int) := by omega
          have sx1 : (x : Int) ≤ (s.size : Int) := by omega
          have sx2 : (x : Int) ≤ (y : Int) := by omega
          have sx3 : (y : Int) ≤ (s.size : Int) := by omega
          clear p4 z7 cX
          go_wp2_with fail
          refine cB.out _ (Lib.hid fun v5 w5 r5 n5 => ?_)
          obtain ⟨A5, d5, rfl, -, -⟩ := RdK.op r5
          have bE := (Below.refl w5.heap.size w5).alloc (Nat.le_refl _) (.cells #[.int .i64 0, .int .i64 0] 26)
          obtain ⟨f0, f1⟩ := box_two' w5 (.int .i64 0) (.int .i64 0) 26
          have nE := n5.trans (bE.mono n5.size)
          have hB5 : w5.heap.size < (w5.alloc (.cells #[.int .i64 0, .int .i64 0] 26)).heap.size := by simp
          replace a0 := (nE.cell (p := ⟨BT, 0, none⟩) hBy).trans a0
          replace a1 := (nE.cell (p := ⟨BT, 1, none⟩) hBy).trans a1
          replace a2 := (nE.cell (p := ⟨BT, 2, none⟩) hBy).trans a2
          replace a3 := (nE.cell (p := ⟨BT, 3, none⟩) hBy).trans a3
          replace a4 := (nE.cell (p := ⟨BT, 4, none⟩) hBy).trans a4
          replace hBy := Nat.lt_of_lt_of_le hBy nE.size
          have nY2 := Lib.hid (nY.out.trans (nE.mono nY.out.size))
          clear bE nE n5 r5 nY cB
          go_wp2_with fail
          generalize w5.alloc (.cells #[.int .i64 0, .int .i64 0] 26) = W6 at *
          generalize w5.heap.size = B5 at *
          refine cA.out W6 _ (Lib.hid fun v7 w7 r7 n7 => ?_)
          have bG := (Below.refl w7.heap.size w7).alloc (Nat.le_refl _) (.cells #[.int .i64 0, .int .i64 0] 26)
          obtain ⟨g0, g1'⟩ := box_two' w7 (.int .i64 0) (.int .i64 0) 26
          have nG := n7.trans (bG.mono n7.size)
          have hB7 : w7.heap.size < (w7.alloc (.cells #[.int .i64 0, .int .i64 0] 26)).heap.size := by simp
          replace a0 := (nG.cell (p := ⟨BT, 0, none⟩) hBy).trans a0
          replace a1 := (nG.cell (p := ⟨BT, 1, none⟩) hBy).trans a1
          replace a2 := (nG.cell (p := ⟨BT, 2, none⟩) hBy).trans a2
          replace a3 := (nG.cell (p := ⟨BT, 3, none⟩) hBy).trans a3
          replace a4 := (nG.cell (p := ⟨BT, 4, none⟩) hBy).trans a4
          replace f0 := (nG.cell (p := ⟨B5, 0, none⟩) hB5).trans f0
          replace hBy := Nat.lt_of_lt_of_le hBy nG.size
          replace hB5 := Nat.lt_of_lt_of_le hB5 nG.size
          have nY3 := Lib.hid (nY2.out.trans (nG.mono nY2.out.size))
          obtain ⟨A7, d7, rfl, -, -⟩ := RdK.op r7
          clear bG nG n7 r7 nY2 cA
          go_wp2_with fail
          generalize w7.alloc (.cells #[.int .i64 0, .int .i64 0] 26) = W8 at *
          generalize w7.heap.size = B7 at *
          have k0 := fun x' : BW W8 => x'.cell hBy a0
          have k1 := fun x' : BW W8 => x'.cell hBy a1
          have k2 := fun x' : BW W8 => x'.cell hBy a2
          have k3 := fun x' : BW W8 => x'.cell hBy a3
          have k4 := fun x' : BW W8 => x'.cell hBy a4
          have kf := fun x' : BW W8 => x'.cell hB5 f0
          have kg := fun x' : BW W8 => x'.cell hB7 g0
          refine wp_region_below_lit (by kernel_rfl) (by kernel_rfl) ?_
          repeat (go_big_quiet_step (fail))
          refine wpQuiet_nil ?_
          rintro _ ⟨y8, rfl⟩
          have nz := Lib.hid y8.b
          generalize y8.w = W9 at *
          have e2 := (nz.out.cell (p := ⟨BT, 2, none⟩) hBy).trans a2
          have nF := Lib.hid (nY3.out.trans (nz.out.mono nY3.out.size))
          clear k0 k1 k2 k3 k4 kf kg a0 a1 a2 a3 a4 f0 g0 nz nY3
          go_wp2_with fail
          go_roundg (gk - 1)
          case measure => omega
          case rel => exact ⟨K + 1, y, rfl, by go_num, by omega, by omega, nF, Lib.hid fun h => by omega⟩
        · have hKl : K + 1 < l.length := by have := List.length_pos_iff.2 z6; omega
          rw [← hl'.out] at z8
          replace z8 := Lib.hid z8
          have q0 : (t0 == 0) = false := by simp; omega
          have qK : ((K : Int) == (l.length : Int) - 1) = false := by simp; omega
          have bB := (Below.refl wr.heap.size wr).alloc (Nat.le_refl _) (.cells #[.int .i64 t0, .int .i64 (x : Nat), .int .i64 (y : Nat), .string t3, .int .i64 t4] 35)
          have nW := nb.out.trans (bB.mono nb.out.size)
          obtain ⟨u0, u1, u2, u3, u4⟩ := box_five wr t0 (x : Nat) (y : Nat) t3 t4
          have z1' := (nb.out.cell (p := ⟨g1, o1 + K * 5, none⟩) hg1).trans x0
          have z2' := (nb.out.cell (p := ⟨g1, o1 + K * 5 + 1, none⟩) hg1).trans x1
          have z3' := (nb.out.cell (p := ⟨g1, o1 + K * 5 + 2, none⟩) hg1).trans x2
          have z4' := (nb.out.cell (p := ⟨g1, o1 + K * 5 + 3, none⟩) hg1).trans x3
          have z5' := (nb.out.cell (p := ⟨g1, o1 + K * 5 + 4, none⟩) hg1).trans x4
          have m0 := (nW.cell (p := ⟨g3, o3 + K * 5, none⟩) hg3).trans y0
          have m1 := (nW.cell (p := ⟨g3, o3 + K * 5 + 1, none⟩) hg3).trans y1
          have m2 := (nW.cell (p := ⟨g3, o3 + K * 5 + 2, none⟩) hg3).trans y2
          have m3 := (nW.cell (p := ⟨g3, o3 + K * 5 + 3, none⟩) hg3).trans y3
          have m4 := (nW.cell (p := ⟨g3, o3 + K * 5 + 4, none⟩) hg3).trans y4
          have i0 : (0 : Int) ≤ (K : Int) := by omega
          have i1 : (K : Int) < (l.length : Int) := by omega
          have d1 : decide (x < a) = false := decide_eq_false (by omega)
          have d2 : decide (y < x) = false := decide_eq_false (by omega)
          have d3 : decide (s.size < y) = false := decide_eq_false (by omega)
          have s3 := sq_t (rfl : t3 = t3)
          have v1 : IntKind.i64.wrap ((x : Int) + 1) = (x : Int) + 1 := IntWalk.i64_in _ (by omega)
          have v2 : IntKind.i64.wrap ((y : Int) + 1) = (y : Int) + 1 := IntWalk.i64_in _ (by omega)
          have v3 : IntKind.i64.wrap ((l.length : Int) - 1) = (l.length : Int) - 1 := IntWalk.i64_in _ (by omega)
          replace nW := Lib.hid nW
          clear x0 x1 x2 x3 x4 y0 y1 y2 y3 y4 bB hq hmv
          go_wp2_with fail
          clear z1' z2' z3' z4' z5'
          have hg3b : g3 < (wr.alloc (.cells #[.int .i64 t0, .int .i64 (x : Nat), .int .i64 (y : Nat), .string t3, .int .i64 t4] 35)).heap.size := Nat.lt_of_lt_of_le hg3 (Nat.le_trans nb.out.size (Nat.le_of_lt hBt))
          have ku0 := fun x' : BW (wr.alloc (.cells #[.int .i64 t0, .int .i64 (x : Nat), .int .i64 (y : Nat), .string t3, .int .i64 t4] 35)) => x'.cell hBt u0
          have ku1 := fun x' : BW (wr.alloc (.cells #[.int .i64 t0, .int .i64 (x : Nat), .int .i64 (y : Nat), .string t3, .int .i64 t4] 35)) => x'.cell hBt u1
          have ku2 := fun x' : BW (wr.alloc (.cells #[.int .i64 t0, .int .i64 (x : Nat), .int .i64 (y : Nat), .string t3, .int .i64 t4] 35)) => x'.cell hBt u2
          have ku3 := fun x' : BW (wr.alloc (.cells #[.int .i64 t0, .int .i64 (x : Nat), .int .i64 (y : Nat), .string t3, .int .i64 t4] 35)) => x'.cell hBt u3
          have ku4 := fun x' : BW (wr.alloc (.cells #[.int .i64 t0, .int .i64 (x : Nat), .int .i64 (y : Nat), .string t3, .int .i64 t4] 35)) => x'.cell hBt u4
          have km0 := fun x' : BW (wr.alloc (.cells #[.int .i64 t0, .int .i64 (x : Nat), .int .i64 (y : Nat), .string t3, .int .i64 t4] 35)) => x'.cell hg3b m0
          have km1 := fun x' : BW (wr.alloc (.cells #[.int .i64 t0, .int .i64 (x : Nat), .int .i64 (y : Nat), .string t3, .int .i64 t4] 35)) => x'.cell hg3b m1
          have km2 := fun x' : BW (wr.alloc (.cells #[.int .i64 t0, .int .i64 (x : Nat), .int .i64 (y : Nat), .string t3, .int .i64 t4] 35)) => x'.cell hg3b m2
          have km3 := fun x' : BW (wr.alloc (.cells #[.int .i64 t0, .int .i64 (x : Nat), .int .i64 (y : Nat), .string t3, .int .i64 t4] 35)) => x'.cell hg3b m3
          have km4 := fun x' : BW (wr.alloc (.cells #[.int .i64 t0, .int .i64 (x : Nat), .int .i64 (y : Nat), .string t3, .int .i64 t4] 35)) => x'.cell hg3b m4
          generalize wr.alloc (.cells #[.int .i64 t0, .int .i64 (x : Nat), .int .i64 (y : Nat), .string t3, .int .i64 t4] 35) = Wb at *
          refine wp_region_below_lit (by kernel_rfl) (by kernel_rfl) ?_
          repeat (go_big_quiet_step (fail))
          refine wpQuiet_nil ?_
          rintro _ ⟨y', rfl⟩
          have ny := Lib.hid y'.b
          generalize y'.w = wy at *
          have hBy : wr.heap.size < wy.heap.size := Nat.lt_of_lt_of_le hBt ny.out.size
          have a0 := (ny.out.cell (p := ⟨wr.heap.size, 0, none⟩) hBt).trans u0
          have a1 := (ny.out.cell (p := ⟨wr.heap.size, 1, none⟩) hBt).trans u1
          have a2 := (ny.out.cell (p := ⟨wr.heap.size, 2, none⟩) hBt).trans u2
          have a3 := (ny.out.cell (p := ⟨wr.heap.size, 3, none⟩) hBt).trans u3
          have a4 := (ny.out.cell (p := ⟨wr.heap.size, 4, none⟩) hBt).trans u4
          have nY := Lib.hid (nW.out.trans (ny.out.mono nW.out.size))
          clear ku0 ku1 ku2 ku3 ku4 km0 km1 km2 km3 km4 u0 u1 u2 u3 u4 m0 m1 m2 m3 m4 ny nW v1 v2 v3 d1 d2 d3 q0 qK i0 i1 nb hg3b hBt
          generalize wr.heap.size = BT at *
          have cB := Lib.hid (cX.out a x [endT (s.extract a x)] p4 wy)
          have cA := Lib.hid (cX.out x y [(t0, 0, (y : Int) - x, t3, t4), endT (s.extract x y)] z7)
          generalize endT (s.extract x y) = eT at *
          generalize endT (s.extract a x) = eB at *
          have sx0 : (a : Int) ≤ (x : Int) := by omega
          have sx1 : (x : Int) ≤ (s.size : Int) := by omega
          have sx2 : (x : Int) ≤ (y : Int) := by omega
          have sx3 : (y : Int) ≤ (s.size : Int) := by omega
          clear p4 z7 cX
          go_wp2_with fail
          refine cB.out _ (Lib.hid fun v5 w5 r5 n5 => ?_)
          obtain ⟨A5, d5, rfl, -, -⟩ := RdK.op r5
          have bE := (Below.refl w5.heap.size w5).alloc (Nat.le_refl _) (.cells #[.int .i64 0, .int .i64 0] 26)
          obtain ⟨f0, f1⟩ := box_two' w5 (.int .i64 0) (.int .i64 0) 26
          have nE := n5.trans (bE.mono n5.size)
          have hB5 : w5.heap.size < (w5.alloc (.cells #[.int .i64 0, .int .i64 0] 26)).heap.size := by simp
          replace a0 := (nE.cell (p := ⟨BT, 0, none⟩) hBy).trans a0
          replace a1 := (nE.cell (p := ⟨BT, 1, none⟩) hBy).trans a1
          replace a2 := (nE.cell (p := ⟨BT, 2, none⟩) hBy).trans a2
          replace a3 := (nE.cell (p := ⟨BT, 3, none⟩) hBy).trans a3
          replace a4 := (nE.cell (p := ⟨BT, 4, none⟩) hBy).trans a4
          replace hBy := Nat.lt_of_lt_of_le hBy nE.size
          have nY2 := Lib.hid (nY.out.trans (nE.mono nY.out.size))
          clear bE nE n5 r5 nY cB
          go_wp2_with fail
          generalize w5.alloc (.cells #[.int .i64 0, .int .i64 0] 26) = W6 at *
          generalize w5.heap.size = B5 at *
          refine cA.out W6 _ (Lib.hid fun v7 w7 r7 n7 => ?_)
          have bG := (Below.refl w7.heap.size w7).alloc (Nat.le_refl _) (.cells #[.int .i64 0, .int .i64 0] 26)
          obtain ⟨g0, g1'⟩ := box_two' w7 (.int .i64 0) (.int .i64 0) 26
          have nG := n7.trans (bG.mono n7.size)
          have hB7 : w7.heap.size < (w7.alloc (.cells #[.int .i64 0, .int .i64 0] 26)).heap.size := by simp
          replace a0 := (nG.cell (p := ⟨BT, 0, none⟩) hBy).trans a0
          replace a1 := (nG.cell (p := ⟨BT, 1, none⟩) hBy).trans a1
          replace a2 := (nG.cell (p := ⟨BT, 2, none⟩) hBy).trans a2
          replace a3 := (nG.cell (p := ⟨BT, 3, none⟩) hBy).trans a3
          replace a4 := (nG.cell (p := ⟨BT, 4, none⟩) hBy).trans a4
          replace f0 := (nG.cell (p := ⟨B5, 0, none⟩) hB5).trans f0
          replace hBy := Nat.lt_of_lt_of_le hBy nG.size
          replace hB5 := Nat.lt_of_lt_of_le hB5 nG.size
          have nY3 := Lib.hid (nY2.out.trans (nG.mono nY2.out.size))
          obtain ⟨A7, d7, rfl, -, hr7⟩ := RdK.op r7
          obtain ⟨g7, o7, rfl, hg7, hc7⟩ := hr7 (by simp)
          obtain ⟨h0, h1, h2, h3, h4⟩ := hc7 0 (by simp)
          have hg7' := Nat.lt_of_lt_of_le hg7 bG.size
          simp only [tN, List.getD_cons_zero] at h0 h3 h4
          replace h0 := (bG.cell (p := ⟨g7, o7 + 0 * 5, none⟩) hg7).trans h0
          replace h3 := (bG.cell (p := ⟨g7, o7 + 0 * 5 + 3, none⟩) hg7).trans h3
          replace h4 := (bG.cell (p := ⟨g7, o7 + 0 * 5 + 4, none⟩) hg7).trans h4
          simp only [Nat.zero_mul, Nat.add_zero] at h0 h3 h4
          clear h1 h2 hc7 hr7
          clear bG nG n7 r7 nY2 cA
          go_wp2_with fail
          generalize w7.alloc (.cells #[.int .i64 0, .int .i64 0] 26) = W8 at *
          generalize w7.heap.size = B7 at *
          have k0 := fun x' : BW W8 => x'.cell hBy a0
          have k1 := fun x' : BW W8 => x'.cell hBy a1
          have k2 := fun x' : BW W8 => x'.cell hBy a2
          have k3 := fun x' : BW W8 => x'.cell hBy a3
          have k4 := fun x' : BW W8 => x'.cell hBy a4
          have kf := fun x' : BW W8 => x'.cell hB5 f0
          have kg := fun x' : BW W8 => x'.cell hB7 g0
          have kh0 := fun x' : BW W8 => x'.cell hg7' h0
          have kh3 := fun x' : BW W8 => x'.cell hg7' h3
          have kh4 := fun x' : BW W8 => x'.cell hg7' h4
          have q0 : (t0 != 0) = true := by simp; omega
          have q1 : (t0 != t0) = false := by simp
          have q2 : (t4 != t4) = false := by simp
          refine wp_region_below_lit (by kernel_rfl) (by kernel_rfl) ?_
          repeat (go_big_quiet_step (fail))
          refine wpQuiet_nil ?_
          rintro _ ⟨y8, rfl⟩
          have nz := Lib.hid y8.b
          generalize y8.w = W9 at *
          have e2 := (nz.out.cell (p := ⟨BT, 2, none⟩) hBy).trans a2
          have nF := Lib.hid (nY3.out.trans (nz.out.mono nY3.out.size))
          clear k0 k1 k2 k3 k4 kf kg a0 a1 a2 a3 a4 f0 g0 nz nY3 kh0 kh3 kh4 h0 h3 h4 q0 q1 q2
          go_wp2_with fail
          go_roundg (gk - 1)
          case measure => omega
          case rel => exact ⟨K + 1, y, rfl, by go_num, by omega, by omega, nF, Lib.hid fun _ => z8.out⟩
      · obtain rfl : K = l.length := by omega
        have n9 := Lib.hid (n4.out.trans (nb.out.mono n4.out.size))
        have ql : (0 : Int) < (l.length : Int) := by omega
        clear hk hc1 hc3 cX nb
        go_wp2_with fail
        refine lives13_calls _ _ (Lib.hid fun w6 n6 => ?_)
        have n7 := Lib.hid (n9.out.trans (n6.mono n9.out.size))
        clear n6 n9
        go_wp2_with fail
        exact hR.out _ n7.out
  · have c1 := Lib.hid fun (W : World) R hR => scan1_calls s hs [] e z (.inr ⟨h1, rfl⟩) W R hR
    have q1 : (e != 0) = true := by simpa using h2
    clear h1 h2 hbig hs
    go_enter Try.func5, Try.ntmps5
    go_wp2_with fail
    refine c1.out _ _ (Lib.hid fun v1 w1 r1 n1 => ?_)
    obtain ⟨A1, d1, rfl, -, -⟩ := r1.op
    have bA := (Below.refl w1.heap.size w1).alloc (Nat.le_refl _) (.cells #[.int .i64 e, .int .i64 z] 26)
    obtain ⟨k0, k1⟩ := box_two' w1 (.int .i64 e) (.int .i64 z) 26
    have n2 := Lib.hid (n1.trans (bA.mono n1.size))
    clear n1 r1 bA
    go_wp2_with fail
    refine lives13_calls _ _ (Lib.hid fun w6 n6 => ?_)
    have n7 := Lib.hid (n2.out.trans (n6.mono n2.out.size))
    clear n6 n2
    go_wp2_with fail
    exact hR.out _ n7.out
end Go.Proofs.Ytafpdipnmjnicaa.Tok
