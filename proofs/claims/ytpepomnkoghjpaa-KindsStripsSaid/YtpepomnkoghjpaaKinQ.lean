/- Layer 15: without places. -/
import Derived.Test.YtpepomnkoghjpaaKinP
import Derived.Test.YtpepomnkoghjpaaKinN
set_option maxRecDepth 100000
set_option linter.unusedVariables false
namespace Go.Proofs.Ytpepomnkoghjpaa.Kin
open Go.RowKit Go.Lib Go.Proofs.Ytpepomnkoghjpaa.Utf Go.Proofs.Ytpepomnkoghjpaa.Nam Go.Proofs.Ytpepomnkoghjpaa.Lat

theorem wpQuiet_opv {P : Program} {ops : Array Oper} {C : World → Prop} {Q : Act → Prop} {a : Act} {o : Oper} {rest : List Oper} (hg : Region.wanted o (yielded ops a.tmps) = true) (v : Value) (hv : ∀ w, (execOp a.eval o).run P w = .ok (.value v) w) (h : wpQuiet P ops C Q rest (a.put o.dst v)) : wpQuiet P ops C Q (o :: rest) a := by
  unfold wpQuiet
  rw [if_pos hg]
  exact ⟨v, fun w _ => by unfold Oper.quietAt; rw [hv]; exact ⟨rfl, rfl⟩, h⟩
set_option maxRecDepth 100000 in
set_option maxHeartbeats 2000000 in
theorem strips15_walk (f : Ft) (h : TH) (nv pv : Value) (w : World) (gh : LimH h) (hfl : f.len ≤ maxLen) (hln : LimN f.len) (hga : f.All LimH LimL) (hgb : f.AllB LimN) (hy : RdY w h f nv pv) (R : Ending → World → Prop)
    (hR : Hid (∀ w', Below w.heap.size w w' → R (.returned (.bool true)) w')) : Calls Try.prog 5 #[tyV h nv pv] w R := by
  obtain ⟨An, cn, rfl, -, -⟩ := hy.n.op
  obtain ⟨Ap, cp, rfl, -⟩ := hy.p.sl
  have nW := (Below.refl w.heap.size w).alloc (Nat.le_refl _) (.cells #[.int .i64 h.kind, .int .i64 h.at_, .int .i64 h.lo, .int .i64 h.hi, .int .i64 h.most, .slice An h.names.length cn, .slice Ap f.len cp, .string h.name, .int .i64 h.nat] 27)
  have hA := heap_alloc_new w (.cells #[.int .i64 h.kind, .int .i64 h.at_, .int .i64 h.lo, .int .i64 h.hi, .int .i64 h.most, .slice An h.names.length cn, .slice Ap f.len cp, .string h.name, .int .i64 h.nat] 27)
  have ga := Lib.hid (all_good hga)
  have sa := Lib.hid (good_strip hga)
  have sg := Lib.hid (all_good sa.out)
  have sl : (stripF f).len ≤ maxLen := by rw [len_strip]; exact hfl
  have s2 := Lib.hid (all_good (good_strip sa.out))
  have s2l : (stripF (stripF f)).len ≤ maxLen := by rw [len_strip]; exact sl
  have hh := Lib.hid (limH_strip gh)
  have hh2 := Lib.hid (limH_strip hh.out)
  replace hy := Lib.hid hy
  replace gh := Lib.hid gh
  replace hga := Lib.hid hga
  replace hgb := Lib.hid hgb
  go_enter Try.func5, Try.ntmps5
  go_upto_region 1 with fail
  generalize w.alloc (.cells #[.int .i64 h.kind, .int .i64 h.at_, .int .i64 h.lo, .int .i64 h.hi, .int .i64 h.most, .slice An h.names.length cn, .slice Ap f.len cp, .string h.name, .int .i64 h.nat] 27) = V at *
  have r0 : V.rangeAt w.heap.size 0 [.int .i64 h.kind, .int .i64 h.at_, .int .i64 h.lo, .int .i64 h.hi, .int .i64 h.most, .slice An h.names.length cn, .slice Ap f.len cp, .string h.name, .int .i64 h.nat] := fun j v e => by rw [Nat.zero_add, Lib.cell_of_heap hA]; simpa using e
  go_wp2_with (refine wpList_load_g (by rfl) 27 _ rfl w.heap.size 0 rfl [.int .i64 h.kind, .int .i64 h.at_, .int .i64 h.lo, .int .i64 h.hi, .int .i64 h.most, .slice An h.names.length cn, .slice Ap f.len cp, .string h.name, .int .i64 h.nat] _ r0 Try.underlying27 rfl (by kernel_rfl) ?_; go_simp)
  refine great15_calls f h (.slice An h.names.length cn) (.slice Ap f.len cp) V hfl ga.out (hy.out.below nW) _ (Lib.hid fun w1 n1 => ?_)
  have hA1 := (n1.block _ (blt_of hA)).trans hA
  have nW1 := nW.trans (n1.mono nW.size)
  clear r0 n1 hA nW
  cases gB : greatB f
  · clear gB
    have r0 : w1.rangeAt w.heap.size 0 [.int .i64 h.kind, .int .i64 h.at_, .int .i64 h.lo, .int .i64 h.hi, .int .i64 h.most, .slice An h.names.length cn, .slice Ap f.len cp, .string h.name, .int .i64 h.nat] := fun j v e => by rw [Nat.zero_add, Lib.cell_of_heap hA1]; simpa using e
    go_upto_region 3 with fail
    go_wp2_with (refine wpList_load_g (by rfl) 27 _ rfl w.heap.size 0 rfl [.int .i64 h.kind, .int .i64 h.at_, .int .i64 h.lo, .int .i64 h.hi, .int .i64 h.most, .slice An h.names.length cn, .slice Ap f.len cp, .string h.name, .int .i64 h.nat] _ r0 Try.underlying27 rfl (by kernel_rfl) ?_; go_simp)
    refine strip_calls f h (.slice An h.names.length cn) (.slice Ap f.len cp) w1 gh.out hfl hln hga.out hgb.out (hy.out.below nW1) _ (Lib.hid fun a1 a2 w2 rU n2 => ?_)
    obtain ⟨B1, c1, rfl, -, -⟩ := rU.n.op
    obtain ⟨B2, c2, rfl, -⟩ := rU.p.sl
    have rUb := Lib.hid (RdY.kp (emp_un (Nat.le_refl _) fun _ _ _ => rfl) rU)
    have hA2 := (n2.block _ (blt_of hA1)).trans hA1
    have nW2 := nW1.trans (n2.mono nW1.size)
    clear r0 n2 hA1 nW1 rU
    have bU := (Below.refl w2.heap.size w2).alloc (Nat.le_refl _) (.cells #[.int .i64 (stripH h).kind, .int .i64 (stripH h).at_, .int .i64 (stripH h).lo, .int .i64 (stripH h).hi, .int .i64 (stripH h).most, .slice B1 (stripH h).names.length c1, .slice B2 (stripF f).len c2, .string (stripH h).name, .int .i64 (stripH h).nat] 27)
    have hU := heap_alloc_new w2 (.cells #[.int .i64 (stripH h).kind, .int .i64 (stripH h).at_, .int .i64 (stripH h).lo, .int .i64 (stripH h).hi, .int .i64 (stripH h).most, .slice B1 (stripH h).names.length c1, .slice B2 (stripF f).len c2, .string (stripH h).name, .int .i64 (stripH h).nat] 27)
    have hA3 := (bU.block _ (blt_of hA2)).trans hA2
    have nW3 := nW2.trans (bU.mono nW2.size)
    have rU3 := Lib.hid (rUb.out.below bU)
    clear rUb hA2 nW2 bU
    go_upto_region 4 with fail
    generalize w2.alloc (.cells #[.int .i64 (stripH h).kind, .int .i64 (stripH h).at_, .int .i64 (stripH h).lo, .int .i64 (stripH h).hi, .int .i64 (stripH h).most, .slice B1 (stripH h).names.length c1, .slice B2 (stripF f).len c2, .string (stripH h).name, .int .i64 (stripH h).nat] 27) = V3 at *
    generalize w2.heap.size = BU at *
    have r0 : V3.rangeAt BU 0 [.int .i64 (stripH h).kind, .int .i64 (stripH h).at_, .int .i64 (stripH h).lo, .int .i64 (stripH h).hi, .int .i64 (stripH h).most, .slice B1 (stripH h).names.length c1, .slice B2 (stripF f).len c2, .string (stripH h).name, .int .i64 (stripH h).nat] := fun j v e => by rw [Nat.zero_add, Lib.cell_of_heap hU]; simpa using e
    go_wp2_with (refine wpList_load_g (by rfl) 27 _ rfl BU 0 rfl [.int .i64 (stripH h).kind, .int .i64 (stripH h).at_, .int .i64 (stripH h).lo, .int .i64 (stripH h).hi, .int .i64 (stripH h).most, .slice B1 (stripH h).names.length c1, .slice B2 (stripF f).len c2, .string (stripH h).name, .int .i64 (stripH h).nat] _ r0 Try.underlying27 rfl (by kernel_rfl) ?_; go_simp)
    refine strip_calls (stripF f) (stripH h) (.slice B1 (stripH h).names.length c1) (.slice B2 (stripF f).len c2) V3 hh.out sl (by rw [len_strip]; exact hln) sa.out (limN_strip hgb.out) rU3.out _ (Lib.hid fun a3 a4 w4 rD n4 => ?_)
    obtain ⟨B3, c3, rfl, -, -⟩ := rD.n.op
    obtain ⟨B4, c4, rfl, -⟩ := rD.p.sl
    have rD4 := Lib.hid (RdY.kp (emp_un (Nat.le_refl _) fun _ _ _ => rfl) rD)
    have hA4 := (n4.block _ (blt_of hA3)).trans hA3
    have hU4 := (n4.block _ (blt_of hU)).trans hU
    have nW4 := nW3.trans (n4.mono nW3.size)
    have rU4 := Lib.hid (rU3.out.below n4)
    clear r0 n4 hA3 hU nW3 rU3 rD
    have bD := (Below.refl w4.heap.size w4).alloc (Nat.le_refl _) (.cells #[.int .i64 (stripH (stripH h)).kind, .int .i64 (stripH (stripH h)).at_, .int .i64 (stripH (stripH h)).lo, .int .i64 (stripH (stripH h)).hi, .int .i64 (stripH (stripH h)).most, .slice B3 (stripH (stripH h)).names.length c3, .slice B4 (stripF (stripF f)).len c4, .string (stripH (stripH h)).name, .int .i64 (stripH (stripH h)).nat] 27)
    have hD := heap_alloc_new w4 (.cells #[.int .i64 (stripH (stripH h)).kind, .int .i64 (stripH (stripH h)).at_, .int .i64 (stripH (stripH h)).lo, .int .i64 (stripH (stripH h)).hi, .int .i64 (stripH (stripH h)).most, .slice B3 (stripH (stripH h)).names.length c3, .slice B4 (stripF (stripF f)).len c4, .string (stripH (stripH h)).name, .int .i64 (stripH (stripH h)).nat] 27)
    have hA5 := (bD.block _ (blt_of hA4)).trans hA4
    have hU5 := (bD.block _ (blt_of hU4)).trans hU4
    have nW5 := nW4.trans (bD.mono nW4.size)
    have rU5 := Lib.hid (rU4.out.below bD)
    have rD5 := Lib.hid (rD4.out.below bD)
    clear rD4 rU4 hA4 hU4 nW4 bD
    go_wp2_with fail
    generalize w4.alloc (.cells #[.int .i64 (stripH (stripH h)).kind, .int .i64 (stripH (stripH h)).at_, .int .i64 (stripH (stripH h)).lo, .int .i64 (stripH (stripH h)).hi, .int .i64 (stripH (stripH h)).most, .slice B3 (stripH (stripH h)).names.length c3, .slice B4 (stripF (stripF f)).len c4, .string (stripH (stripH h)).name, .int .i64 (stripH (stripH h)).nat] 27) = V5 at *
    generalize w4.heap.size = BD at *
    have rd := fun x : BW V5 => hy.out.below (nW5.trans (x.b.mono nW5.size))
    have ru := fun x : BW V5 => rU5.out.below x.b
    have rw' := fun x : BW V5 => rD5.out.below x.b
    have cA := fun x : BW V5 => same15_calls f h (stripH h) (stripF f) (.slice An h.names.length cn) (.slice Ap f.len cp) (.slice B1 (stripH h).names.length c1) (.slice B2 (stripF f).len c2) x.w gh.out.1.2.2.2.2.2.2.2.2 hfl ga.out (rd x) (ru x) (fun e w' => e = .returned (.bool (sameS h f (stripH h) (stripF f))) ∧ Below x.w.heap.size x.w w') (Lib.hid fun _ n => ⟨rfl, n⟩)
    have cB := fun x : BW V5 => place15_calls (stripF f) (stripH h) (.slice B1 (stripH h).names.length c1) (.slice B2 (stripF f).len c2) x.w hh.out.1.2.2.2.2.2.2.2.2 sl sg.out (ru x) (fun e w' => e = .returned (.bool (placeS (stripH h) (stripF f))) ∧ Below x.w.heap.size x.w w') (Lib.hid fun _ n => ⟨rfl, n⟩)
    have cC := fun x : BW V5 => sameC_calls (stripF f) (stripH h) h f (.slice B1 (stripH h).names.length c1) (.slice B2 (stripF f).len c2) (.slice An h.names.length cn) (.slice Ap f.len cp) x.w hh.out.1.2.2.2.2.2.2.2.2 sl sg.out (ru x) (rd x) (fun e w' => e = .returned (.bool (sameS (stripH h) (stripF f) h f)) ∧ Below x.w.heap.size x.w w') (Lib.hid fun _ n => ⟨rfl, n⟩)
    have cD := fun x : BW V5 => same15_calls (stripF (stripF f)) (stripH (stripH h)) (stripH h) (stripF f) (.slice B3 (stripH (stripH h)).names.length c3) (.slice B4 (stripF (stripF f)).len c4) (.slice B1 (stripH h).names.length c1) (.slice B2 (stripF f).len c2) x.w hh2.out.1.2.2.2.2.2.2.2.2 s2l s2.out (rw' x) (ru x) (fun e w' => e = .returned (.bool (sameS (stripH (stripH h)) (stripF (stripF f)) (stripH h) (stripF f))) ∧ Below x.w.heap.size x.w w') (Lib.hid fun _ n => ⟨rfl, n⟩)
    have cE := fun x : BW V5 => right15_calls f h (.slice An h.names.length cn) (.slice Ap f.len cp) x.w gh.out.1 hfl ga.out (rd x) (fun e w' => e = .returned (.agg #[.int .i64 (wcS h f).1, .int .i64 (wcS h f).2.1]) ∧ Below x.w.heap.size x.w w') (Lib.hid fun _ n => ⟨rfl, n⟩)
    have cF := fun x : BW V5 => right15_calls (stripF f) (stripH h) (.slice B1 (stripH h).names.length c1) (.slice B2 (stripF f).len c2) x.w hh.out.1 sl sg.out (ru x) (fun e w' => e = .returned (.agg #[.int .i64 (wcS (stripH h) (stripF f)).1, .int .i64 (wcS (stripH h) (stripF f)).2.1]) ∧ Below x.w.heap.size x.w w') (Lib.hid fun _ n => ⟨rfl, n⟩)
    have cG := fun x : BW V5 => count_calls (stripF f) (stripH h) (.slice B1 (stripH h).names.length c1) (.slice B2 (stripF f).len c2) x.w sl sg.out (ru x) (fun e w' => e = .returned (.int .i64 (cW (stripF f) 1)) ∧ Below x.w.heap.size x.w w') (Lib.hid fun _ n => ⟨rfl, n⟩)
    have cH := fun x : BW V5 => count_calls f h (.slice An h.names.length cn) (.slice Ap f.len cp) x.w hfl ga.out (rd x) (fun e w' => e = .returned (.int .i64 (cW f 1)) ∧ Below x.w.heap.size x.w w') (Lib.hid fun _ n => ⟨rfl, n⟩)
    have cL := Lib.hid fun x : BW V5 => lives15_calls x.w (fun e w' => e = .returned (.bool true) ∧ Below x.w.heap.size x.w w') (Lib.hid fun _ n => ⟨rfl, n⟩)
    simp only [sameS_strip] at cA
    simp only [placeS_strip] at cB
    simp only [show sameS (stripH h) (stripF f) h f = true by rw [sameS_comm, sameS_strip]] at cC
    simp only [show sameS (stripH (stripH h)) (stripF (stripF f)) (stripH h) (stripF f) = true by rw [sameS_comm, sameS_strip]] at cD
    simp only [wcS_strip] at cF
    simp only [cW_strip] at cG
    generalize (wcS h f).1 = E0 at *
    generalize (wcS h f).2.1 = Z0 at *
    generalize (wcS (stripH h) (stripF f)).2.1 = Z1 at *
    generalize cW f 1 = N at *
    replace cA := Lib.hid cA
    replace cB := Lib.hid cB
    replace cC := Lib.hid cC
    replace cD := Lib.hid cD
    replace cE := Lib.hid cE
    replace cF := Lib.hid cF
    replace cG := Lib.hid cG
    replace cH := Lib.hid cH
    have lA := blt_of hA5
    have lU := blt_of hU5
    have lD := blt_of hD
    have k0 := fun x : BW V5 => x.cell lA ((Lib.cell_of_heap hA5 0).trans rfl)
    have j0 := fun x : BW V5 => x.cell lU ((Lib.cell_of_heap hU5 0).trans rfl)
    have i0 := fun x : BW V5 => x.cell lD ((Lib.cell_of_heap hD 0).trans rfl)
    have k1 := fun x : BW V5 => x.cell lA ((Lib.cell_of_heap hA5 1).trans rfl)
    have j1 := fun x : BW V5 => x.cell lU ((Lib.cell_of_heap hU5 1).trans rfl)
    have i1 := fun x : BW V5 => x.cell lD ((Lib.cell_of_heap hD 1).trans rfl)
    have k2 := fun x : BW V5 => x.cell lA ((Lib.cell_of_heap hA5 2).trans rfl)
    have j2 := fun x : BW V5 => x.cell lU ((Lib.cell_of_heap hU5 2).trans rfl)
    have i2 := fun x : BW V5 => x.cell lD ((Lib.cell_of_heap hD 2).trans rfl)
    have k3 := fun x : BW V5 => x.cell lA ((Lib.cell_of_heap hA5 3).trans rfl)
    have j3 := fun x : BW V5 => x.cell lU ((Lib.cell_of_heap hU5 3).trans rfl)
    have i3 := fun x : BW V5 => x.cell lD ((Lib.cell_of_heap hD 3).trans rfl)
    have k4 := fun x : BW V5 => x.cell lA ((Lib.cell_of_heap hA5 4).trans rfl)
    have j4 := fun x : BW V5 => x.cell lU ((Lib.cell_of_heap hU5 4).trans rfl)
    have i4 := fun x : BW V5 => x.cell lD ((Lib.cell_of_heap hD 4).trans rfl)
    have k5 := fun x : BW V5 => x.cell lA ((Lib.cell_of_heap hA5 5).trans rfl)
    have j5 := fun x : BW V5 => x.cell lU ((Lib.cell_of_heap hU5 5).trans rfl)
    have i5 := fun x : BW V5 => x.cell lD ((Lib.cell_of_heap hD 5).trans rfl)
    have k6 := fun x : BW V5 => x.cell lA ((Lib.cell_of_heap hA5 6).trans rfl)
    have j6 := fun x : BW V5 => x.cell lU ((Lib.cell_of_heap hU5 6).trans rfl)
    have i6 := fun x : BW V5 => x.cell lD ((Lib.cell_of_heap hD 6).trans rfl)
    have k7 := fun x : BW V5 => x.cell lA ((Lib.cell_of_heap hA5 7).trans rfl)
    have j7 := fun x : BW V5 => x.cell lU ((Lib.cell_of_heap hU5 7).trans rfl)
    have i7 := fun x : BW V5 => x.cell lD ((Lib.cell_of_heap hD 7).trans rfl)
    have k8 := fun x : BW V5 => x.cell lA ((Lib.cell_of_heap hA5 8).trans rfl)
    have j8 := fun x : BW V5 => x.cell lU ((Lib.cell_of_heap hU5 8).trans rfl)
    have i8 := fun x : BW V5 => x.cell lD ((Lib.cell_of_heap hD 8).trans rfl)
    clear rd ru rw' hA5 hU5 hD rU5 rD5 hy gh hga hgb ga sa sg s2 hh hh2
    refine wp_region_below_lit (by kernel_rfl) (by kernel_rfl) ?_
    repeat (first | (go_big_quiet_step ((first | (with_reducible exact calls_below (cA.out _)) | (with_reducible exact calls_below (cB.out _)) | (with_reducible exact calls_below (cC.out _)) | (with_reducible exact calls_below (cD.out _)) | (with_reducible exact calls_below (cE.out _)) | (with_reducible exact calls_below (cF.out _)) | (with_reducible exact calls_below (cG.out _)) | (with_reducible exact calls_below (cH.out _)) | (with_reducible exact calls_below (cL.out _))))) | (refine wpQuiet_opv (by rfl) (.int .i64 E0) (fun _ => by simp [execOp, go_sem, Instr.field, run_underlying Try.underlying32]; kernel_rfl) ?_; go_simp))
    refine wpQuiet_nil ?_
    intro y
    have ny := Lib.hid y.b
    generalize y.w = wy at *
    have fin := Lib.hid (hR.out _ (nW5.trans (ny.out.mono nW5.size)))
    clear hR
    go_wp2_with fail
    exact fin.out
  · clear gB
    go_upto_region 2 with fail
    go_wp2_with fail
    refine lives15_calls _ _ (Lib.hid fun w3 n3 => ?_)
    have fin := Lib.hid (hR.out _ (nW1.trans (n3.mono nW1.size)))
    clear hR
    go_wp2_with fail
    exact fin.out
end Go.Proofs.Ytpepomnkoghjpaa.Kin
