/- Layer 15: how many, how deep, the same. -/
import Derived.Test.YtpepomnkoghjpaaKinM
import Derived.Test.YtpepomnkoghjpaaKinD
import Derived.Test.YtpepomnkoghjpaaCls
set_option maxRecDepth 100000
set_option linter.unusedVariables false
namespace Go.Proofs.Ytpepomnkoghjpaa.Kin
open Go.RowKit Go.Lib Go.Proofs.Ytpepomnkoghjpaa.Utf Go.Proofs.Ytpepomnkoghjpaa.Nam Go.Proofs.Ytpepomnkoghjpaa.Lat

set_option maxRecDepth 100000 in
set_option maxHeartbeats 2000000 in
theorem tells15_walk (f g : Ft) (h h' : TH) (nv pv nv' pv' : Value) (w : World) (gh : GoodH h) (hfl : f.len ≤ maxLen) (hga : f.All GoodH GoodL) (hy : RdY w h f nv pv) (gh' : GoodH h') (hfl' : g.len ≤ maxLen) (hga' : g.All GoodH GoodL) (hy' : RdY w h' g nv' pv') (R : Ending → World → Prop)
    (hR : Hid (∀ w', Below w.heap.size w w' → R (.returned (.bool true)) w')) : Calls Try.prog 4 #[tyV h nv pv, tyV h' nv' pv'] w R := by
  obtain ⟨An, cn, rfl, -, -⟩ := hy.n.op
  obtain ⟨An', cn', rfl, -, -⟩ := hy'.n.op
  obtain ⟨Ap, cp, rfl, -⟩ := hy.p.sl
  obtain ⟨Ap', cp', rfl, -⟩ := hy'.p.sl
  have bA := (Below.refl w.heap.size w).alloc (Nat.le_refl _) (.cells #[.int .i64 h.kind, .int .i64 h.at_, .int .i64 h.lo, .int .i64 h.hi, .int .i64 h.most, .slice An h.names.length cn, .slice Ap f.len cp, .string h.name, .int .i64 h.nat] 27)
  have bB := bA.alloc bA.size (.cells #[.int .i64 h'.kind, .int .i64 h'.at_, .int .i64 h'.lo, .int .i64 h'.hi, .int .i64 h'.most, .slice An' h'.names.length cn', .slice Ap' g.len cp', .string h'.name, .int .i64 h'.nat] 27)
  have hz : (w.alloc (.cells #[.int .i64 h.kind, .int .i64 h.at_, .int .i64 h.lo, .int .i64 h.hi, .int .i64 h.most, .slice An h.names.length cn, .slice Ap f.len cp, .string h.name, .int .i64 h.nat] 27)).heap.size = w.heap.size + 1 := by simp
  have hA := (((Below.refl _ _).alloc (Nat.le_refl _) (.cells #[.int .i64 h'.kind, .int .i64 h'.at_, .int .i64 h'.lo, .int .i64 h'.hi, .int .i64 h'.most, .slice An' h'.names.length cn', .slice Ap' g.len cp', .string h'.name, .int .i64 h'.nat] 27)).block w.heap.size (by omega)).trans (heap_alloc_new w (.cells #[.int .i64 h.kind, .int .i64 h.at_, .int .i64 h.lo, .int .i64 h.hi, .int .i64 h.most, .slice An h.names.length cn, .slice Ap f.len cp, .string h.name, .int .i64 h.nat] 27))
  have hB := heap_alloc_new (w.alloc (.cells #[.int .i64 h.kind, .int .i64 h.at_, .int .i64 h.lo, .int .i64 h.hi, .int .i64 h.most, .slice An h.names.length cn, .slice Ap f.len cp, .string h.name, .int .i64 h.nat] 27)) (.cells #[.int .i64 h'.kind, .int .i64 h'.at_, .int .i64 h'.lo, .int .i64 h'.hi, .int .i64 h'.most, .slice An' h'.names.length cn', .slice Ap' g.len cp', .string h'.name, .int .i64 h'.nat] 27)
  rw [hz] at hB
  replace hy := Lib.hid hy
  replace hy' := Lib.hid hy'
  replace gh := Lib.hid gh
  replace gh' := Lib.hid gh'
  replace hga := Lib.hid hga
  replace hga' := Lib.hid hga'
  go_enter Try.func4, Try.ntmps4
  go_upto_region 1 with fail
  generalize (w.alloc (.cells #[.int .i64 h.kind, .int .i64 h.at_, .int .i64 h.lo, .int .i64 h.hi, .int .i64 h.most, .slice An h.names.length cn, .slice Ap f.len cp, .string h.name, .int .i64 h.nat] 27)).alloc (.cells #[.int .i64 h'.kind, .int .i64 h'.at_, .int .i64 h'.lo, .int .i64 h'.hi, .int .i64 h'.most, .slice An' h'.names.length cn', .slice Ap' g.len cp', .string h'.name, .int .i64 h'.nat] 27) = V at *
  have nW := bB
  clear bA bB hz
  have r0 : V.rangeAt w.heap.size 0 [.int .i64 h.kind, .int .i64 h.at_, .int .i64 h.lo, .int .i64 h.hi, .int .i64 h.most, .slice An h.names.length cn, .slice Ap f.len cp, .string h.name, .int .i64 h.nat] := fun j v e => by rw [Nat.zero_add, Lib.cell_of_heap hA]; simpa using e
  go_wp2_with (refine wpList_load_g (by rfl) 27 _ rfl w.heap.size 0 rfl [.int .i64 h.kind, .int .i64 h.at_, .int .i64 h.lo, .int .i64 h.hi, .int .i64 h.most, .slice An h.names.length cn, .slice Ap f.len cp, .string h.name, .int .i64 h.nat] _ r0 Try.underlying27 rfl (by kernel_rfl) ?_; go_simp)
  refine great15_calls f h (.slice An h.names.length cn) (.slice Ap f.len cp) V hfl hga.out (hy.out.below nW) _ (Lib.hid fun w1 n1 => ?_)
  have hA1 := (n1.block _ (blt_of hA)).trans hA
  have hB1 := (n1.block _ (blt_of hB)).trans hB
  have nW1 := nW.trans (n1.mono nW.size)
  clear r0 n1 hA hB nW
  cases gB : greatB f
  · clear gB
    have s0 : w1.rangeAt (w.heap.size + 1) 0 [.int .i64 h'.kind, .int .i64 h'.at_, .int .i64 h'.lo, .int .i64 h'.hi, .int .i64 h'.most, .slice An' h'.names.length cn', .slice Ap' g.len cp', .string h'.name, .int .i64 h'.nat] := fun j v e => by rw [Nat.zero_add, Lib.cell_of_heap hB1]; simpa using e
    go_wp2_with (refine wpList_load_g (by rfl) 27 _ rfl (w.heap.size + 1) 0 rfl [.int .i64 h'.kind, .int .i64 h'.at_, .int .i64 h'.lo, .int .i64 h'.hi, .int .i64 h'.most, .slice An' h'.names.length cn', .slice Ap' g.len cp', .string h'.name, .int .i64 h'.nat] _ s0 Try.underlying27 rfl (by kernel_rfl) ?_; go_simp)
    refine great15_calls g h' (.slice An' h'.names.length cn') (.slice Ap' g.len cp') w1 hfl' hga'.out (hy'.out.below nW1) _ (Lib.hid fun w2 n2 => ?_)
    have hA2 := (n2.block _ (blt_of hA1)).trans hA1
    have hB2 := (n2.block _ (blt_of hB1)).trans hB1
    have nW2 := nW1.trans (n2.mono nW1.size)
    clear s0 n2 hA1 hB1 nW1
    cases gB : greatB g
    · clear gB
      have r0 : w2.rangeAt w.heap.size 0 [.int .i64 h.kind, .int .i64 h.at_, .int .i64 h.lo, .int .i64 h.hi, .int .i64 h.most, .slice An h.names.length cn, .slice Ap f.len cp, .string h.name, .int .i64 h.nat] := fun j v e => by rw [Nat.zero_add, Lib.cell_of_heap hA2]; simpa using e
      go_upto_region 3 with fail
      go_wp2_with (refine wpList_load_g (by rfl) 27 _ rfl w.heap.size 0 rfl [.int .i64 h.kind, .int .i64 h.at_, .int .i64 h.lo, .int .i64 h.hi, .int .i64 h.most, .slice An h.names.length cn, .slice Ap f.len cp, .string h.name, .int .i64 h.nat] _ r0 Try.underlying27 rfl (by kernel_rfl) ?_; go_simp)
      refine size15_calls f h (.slice An h.names.length cn) (.slice Ap f.len cp) w2 hfl hga.out (hy.out.below nW2) _ (Lib.hid fun w3 n3 => ?_)
      have hA3 := (n3.block _ (blt_of hA2)).trans hA2
      have hB3 := (n3.block _ (blt_of hB2)).trans hB2
      have nW3 := nW2.trans (n3.mono nW2.size)
      clear r0 n3 hA2 hB2 nW2
      have rd := fun x : BW w3 => hy.out.below (nW3.trans (x.b.mono nW3.size))
      have rd' := fun x : BW w3 => hy'.out.below (nW3.trans (x.b.mono nW3.size))
      have cA := Lib.hid fun x : BW w3 => count_calls f h (.slice An h.names.length cn) (.slice Ap f.len cp) x.w hfl hga.out (rd x) (fun e w' => e = .returned (.int .i64 (cW f 1)) ∧ Below x.w.heap.size x.w w') (Lib.hid fun _ n => ⟨rfl, n⟩)
      have cB := Lib.hid fun x : BW w3 => depth_calls f h (.slice An h.names.length cn) (.slice Ap f.len cp) x.w hfl hga.out (rd x) (fun e w' => e = .returned (.int .i64 (wrap64 (dW f 0 + 1))) ∧ Below x.w.heap.size x.w w') (Lib.hid fun _ n => ⟨rfl, n⟩)
      have cC := Lib.hid fun x : BW w3 => sameC_calls f h h' g (.slice An h.names.length cn) (.slice Ap f.len cp) (.slice An' h'.names.length cn') (.slice Ap' g.len cp') x.w gh.out.2.2.2.2.2.2.2.2 hfl hga.out (rd x) (rd' x) (fun e w' => e = .returned (.bool (sameS h f h' g)) ∧ Below x.w.heap.size x.w w') (Lib.hid fun _ n => ⟨rfl, n⟩)
      have cD := Lib.hid fun x : BW w3 => same15_calls f h h' g (.slice An h.names.length cn) (.slice Ap f.len cp) (.slice An' h'.names.length cn') (.slice Ap' g.len cp') x.w gh.out.2.2.2.2.2.2.2.2 hfl hga.out (rd x) (rd' x) (fun e w' => e = .returned (.bool (sameS h f h' g)) ∧ Below x.w.heap.size x.w w') (Lib.hid fun _ n => ⟨rfl, n⟩)
      have cE := fun x : BW w3 => sameC_calls f h h f (.slice An h.names.length cn) (.slice Ap f.len cp) (.slice An h.names.length cn) (.slice Ap f.len cp) x.w gh.out.2.2.2.2.2.2.2.2 hfl hga.out (rd x) (rd x) (fun e w' => e = .returned (.bool (sameS h f h f)) ∧ Below x.w.heap.size x.w w') (Lib.hid fun _ n => ⟨rfl, n⟩)
      have cL := Lib.hid fun x : BW w3 => lives15_calls x.w (fun e w' => e = .returned (.bool true) ∧ Below x.w.heap.size x.w w') (Lib.hid fun _ n => ⟨rfl, n⟩)
      simp only [sameS_refl] at cE
      replace cE := Lib.hid cE
      generalize cW f 1 = N at *
      generalize wrap64 (dW f 0 + 1) = D at *
      generalize sameS h f h' g = S at *
      have lA := blt_of hA3
      have lB := blt_of hB3
      have k0 := fun x : BW w3 => x.cell lA ((Lib.cell_of_heap hA3 0).trans rfl)
      have j0 := fun x : BW w3 => x.cell lB ((Lib.cell_of_heap hB3 0).trans rfl)
      have k1 := fun x : BW w3 => x.cell lA ((Lib.cell_of_heap hA3 1).trans rfl)
      have j1 := fun x : BW w3 => x.cell lB ((Lib.cell_of_heap hB3 1).trans rfl)
      have k2 := fun x : BW w3 => x.cell lA ((Lib.cell_of_heap hA3 2).trans rfl)
      have j2 := fun x : BW w3 => x.cell lB ((Lib.cell_of_heap hB3 2).trans rfl)
      have k3 := fun x : BW w3 => x.cell lA ((Lib.cell_of_heap hA3 3).trans rfl)
      have j3 := fun x : BW w3 => x.cell lB ((Lib.cell_of_heap hB3 3).trans rfl)
      have k4 := fun x : BW w3 => x.cell lA ((Lib.cell_of_heap hA3 4).trans rfl)
      have j4 := fun x : BW w3 => x.cell lB ((Lib.cell_of_heap hB3 4).trans rfl)
      have k5 := fun x : BW w3 => x.cell lA ((Lib.cell_of_heap hA3 5).trans rfl)
      have j5 := fun x : BW w3 => x.cell lB ((Lib.cell_of_heap hB3 5).trans rfl)
      have k6 := fun x : BW w3 => x.cell lA ((Lib.cell_of_heap hA3 6).trans rfl)
      have j6 := fun x : BW w3 => x.cell lB ((Lib.cell_of_heap hB3 6).trans rfl)
      have k7 := fun x : BW w3 => x.cell lA ((Lib.cell_of_heap hA3 7).trans rfl)
      have j7 := fun x : BW w3 => x.cell lB ((Lib.cell_of_heap hB3 7).trans rfl)
      have k8 := fun x : BW w3 => x.cell lA ((Lib.cell_of_heap hA3 8).trans rfl)
      have j8 := fun x : BW w3 => x.cell lB ((Lib.cell_of_heap hB3 8).trans rfl)
      clear rd rd' hA3 hB3
      go_wp2_with fail
      refine wp_region_below_lit (by kernel_rfl) (by kernel_rfl) ?_
      repeat (go_big_quiet_step ((first | (with_reducible exact calls_below (cA.out _)) | (with_reducible exact calls_below (cB.out _)) | (with_reducible exact calls_below (cC.out _)) | (with_reducible exact calls_below (cD.out _)) | (with_reducible exact calls_below (cE.out _)) | (with_reducible exact calls_below (cL.out _)))))
      refine wpQuiet_nil ?_
      rintro _ ⟨y, rfl⟩
      have ny := Lib.hid y.b
      generalize y.w = wy at *
      have fin := Lib.hid (hR.out _ (nW3.trans (ny.out.mono nW3.size)))
      clear hR
      go_wp2_with fail
      exact fin.out
    · clear gB
      go_upto_region 2 with fail
      go_wp2_with fail
      refine lives15_calls _ _ (Lib.hid fun w3 n3 => ?_)
      have fin := Lib.hid (hR.out _ (nW2.trans (n3.mono nW2.size)))
      clear hR
      go_wp2_with fail
      exact fin.out
  · clear gB
    go_upto_region 2 with fail
    go_wp2_with fail
    refine lives15_calls _ _ (Lib.hid fun w3 n3 => ?_)
    have fin := Lib.hid (hR.out _ (nW1.trans (n3.mono nW1.size)))
    clear hR
    go_wp2_with fail
    exact fin.out
end Go.Proofs.Ytpepomnkoghjpaa.Kin
