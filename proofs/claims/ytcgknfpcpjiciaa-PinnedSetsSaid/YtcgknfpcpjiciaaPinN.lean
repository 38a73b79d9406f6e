/- The sets Wide, Zero and Unsafe. -/
import Derived.Test.YtcgknfpcpjiciaaPinM
import Derived.Deep.RegionHeld3
import Derived.Deep.DeepCutAuto
set_option linter.unusedVariables false
namespace Go.Proofs.Ytcgknfpcpjiciaa.Ran
open Go.Shelf Go.RowKit Go.Lib

theorem same_list {l T : List Rg} (hl : Can 0 l) (hT : Can 0 T) (h : ∀ r, hasB l r = inB T r) : l = T := can_unique l T 0 hl hT fun r => by rw [h r, in_can hT]

theorem infoSp : (Try.prog.info? 36).map (fun i => (i.zero, i.size, i.bytes)) = some (some (.agg #[.int .i32 0, .int .i32 0]), 2, 8) := by kernel_rfl
theorem growSp_calls (n : Nat) (w : World) (hn : n ≤ 17592186044416) (R : Ending → World → Prop)
    (hR : Hid (∀ v' w', w'.ownsRow w.heap.size 36 2 v' 0 [] → Below w.heap.size w w' → R (.returned v') w')) : Calls Try.prog 46 #[.slice none 0 0, .int .i64 n] w R := by
  obtain ⟨i0, hi, hz0, hz1, hz2⟩ := info_parts infoSp
  rcases Nat.eq_zero_or_pos n with rfl | h0
  · have := Any8.slices_Grow_room Ytcgknfpcpjiciaa.growSp none 0 0 0 w (by omega) (by omega) (by omega) (by omega)
    change Calls Try.prog 46 _ _ _ at this
    refine this.mono ?_
    rintro e w' ⟨rfl, rfl⟩
    exact hR.out _ _ (World.ownsRow_nil _ _ _ _) (Below.refl _ _)
  · have := Any8.slices_Grow_grow Ytcgknfpcpjiciaa.growSp i0 (.agg #[.int .i32 0, .int .i32 0]) hi hz0 (by rw [hz1]; decide) none 0 0 n [] w (by omega) (by omega) (by rw [hz2]; omega) (by omega) (by simp) (fun _ => rfl) (fun a h => by cases h)
    change Calls Try.prog 46 _ _ _ at this
    refine this.mono ?_
    rintro e w' ⟨rfl, rfl⟩
    have hge := grownCap_ge w (0 + n) 0 36
    refine hR.out _ _ ?_ (((Below.refl _ _).drew).alloc (Nat.le_refl _) _)
    refine World.ownsRow_made w.drew _ _ (Nat.le_refl _) (grownCap_le_maxLen w (0 + n) 0 _ (by unfold maxLen; omega)) ?_
    rw [Array.size_append, Array.size_append, size_zeroCells, size_zeroCells]
    show 0 + (0 + n - 0) * 2 + _ * 2 = _
    change _ + _ + (grownCap w (0 + n) 0 36 - (0 + n)) * 2 = grownCap w (0 + n) 0 36 * 2
    omega
theorem appSp {ops : Array Oper} {rest : List Oper} {o : Oper} {a : Act} {Q : Exit → Act → World → Prop} (W : World) (hgd : o.guard = none) (s x : Operand)
    (ho : o.op = .call { callee := .builtin .append, args := #[s, x], argTypes := #[40, 40] })
    (base b : Nat) (v vs : Value) (acc l : List Rg) (hs : a.eval s = v) (hown : W.ownsRow base 36 2 v acc.length (flat acc)) (hx : a.eval x = vs) (hr : RdN W b vs l) (hbase : base ≤ W.heap.size)
    (h63 : acc.length + l.length ≤ 17592186044416)
    (h : ∀ v' w', w'.ownsRow base 36 2 v' (acc ++ l).length (flat (acc ++ l)) → Below base W w' → wpList Try.prog ops Q rest (a.put o.dst v') w') :
    wpList Try.prog ops Q (o :: rest) a W := by
  obtain ⟨i0, hi, hz0, hz1, hz2⟩ := info_parts infoSp
  rcases hr.cases with ⟨rfl, rfl⟩ | ⟨g, o', c, rfl, hc, hcell⟩
  · refine wpList_append_own_none hgd s x _ ho base 36 i0 2 Try.underlying40 hi v _ _ hs hown hx ?_
    exact h _ _ (by simpa using hown) (Below.refl _ _)
  · refine wpList_append_own _ hgd s x _ ho base 36 i0 (.agg #[.int .i32 0, .int .i32 0]) 2 8 Try.underlying40 hi hz0 hz1 hz2 rfl (by decide) v _ _ hs hown ⟨g, o', none⟩ l.length c (flat l) hx (flat_len l)
      (fun j u hj => by rw [add0]; exact hcell j u hj) (flat_one l) (by unfold maxLen; omega) (by omega) hbase ?_
    intro v' w' hw' hg _
    exact h v' w' (by rw [flat_append, List.length_append]; exact hw') (grown_below hg hbase (fun k hk => (hown.lt k hk).1))

set_option maxRecDepth 100000 in
set_option maxHeartbeats 2000000 in
theorem concat4_calls (xa xb xc xd : List Rg) (va vb vc vd : Value) (w : World) (b : Nat) (hb : b < w.heap.size) (c0 : w.cell? ⟨b, 0, none⟩ = some va) (c1 : w.cell? ⟨b, 1, none⟩ = some vb)
    (c2 : w.cell? ⟨b, 2, none⟩ = some vc) (c3 : w.cell? ⟨b, 3, none⟩ = some vd)
    (ha : RdN w 0 va xa) (hbb : RdN w 0 vb xb) (hc : RdN w 0 vc xc) (hd : RdN w 0 vd xd) (hl : xa.length + xb.length + xc.length + xd.length ≤ 17592186044416) (R : Ending → World → Prop)
    (hR : Hid (∀ v' w', RdN w' w.heap.size v' (xa ++ xb ++ xc ++ xd) → Below w.heap.size w w' → R (.returned v') w')) :
    Calls Try.prog 38 #[.slice (some ⟨b, 0, none⟩) 4 4] w R := by
  obtain ⟨A, ca, rfl⟩ := ha.len
  obtain ⟨B, cb, rfl⟩ := hbb.len
  obtain ⟨C, cc, rfl⟩ := hc.len
  obtain ⟨D, cd, rfl⟩ := hd.len
  have G := fun R hR => growSp_calls (xa.length + xb.length + xc.length + xd.length) w hl R hR
  simp only [Int.natCast_add] at G
  replace G := Lib.hid G
  replace ha := Lib.hid ha
  replace hbb := Lib.hid hbb
  replace hc := Lib.hid hc
  replace hd := Lib.hid hd
  go_enter Try.func38, Try.ntmps38
  go_wp2_with fail
  refine wp_loop_rounds 5 ?_
  rw [rounds_succ]
  go_wp2_with fail
  rw [rounds_succ]
  go_wp2_with fail
  rw [rounds_succ]
  go_wp2_with fail
  rw [rounds_succ]
  go_wp2_with fail
  rw [rounds_succ]
  go_wp2_with fail
  refine G.out _ (fun v1 w1 o1 n1 => ?_)
  have s1 := n1.size
  have d0 := (n1.cell (p := ⟨b, 0, none⟩) hb).trans c0
  have ha1 := Lib.hid (ha.out.below n1)
  have o1' : w1.ownsRow w.heap.size 36 2 v1 ([] : List Rg).length (flat []) := o1
  go_wp2_with fail
  refine wp_loop_rounds 5 ?_
  rw [rounds_succ]
  go_wp2_with (at_builtin; go_loud (refine appSp w1 rfl _ _ rfl w.heap.size 0 _ _ [] xa rfl o1' rfl ha1.out s1 (by simp; omega) ?_); intro v2 w2 o2 n2)
  have n3 := n1.trans n2
  have s2 := n3.size
  have d1 := (n3.cell (p := ⟨b, 1, none⟩) hb).trans c1
  have hb2 := Lib.hid (hbb.out.below n3)
  rw [rounds_succ]
  go_wp2_with (at_builtin; go_loud (refine appSp w2 rfl _ _ rfl w.heap.size 0 _ _ ([] ++ xa) xb rfl o2 rfl hb2.out s2 (by simp; omega) ?_); intro v3 w3 o3 n4)
  have n5 := n3.trans n4
  have s3 := n5.size
  have d2 := (n5.cell (p := ⟨b, 2, none⟩) hb).trans c2
  have hc2 := Lib.hid (hc.out.below n5)
  rw [rounds_succ]
  go_wp2_with (at_builtin; go_loud (refine appSp w3 rfl _ _ rfl w.heap.size 0 _ _ ([] ++ xa ++ xb) xc rfl o3 rfl hc2.out s3 (by simp; omega) ?_); intro v4 w4 o4 n6)
  have n7 := n5.trans n6
  have s4 := n7.size
  have d3 := (n7.cell (p := ⟨b, 3, none⟩) hb).trans c3
  have hd2 := Lib.hid (hd.out.below n7)
  rw [rounds_succ]
  go_wp2_with (at_builtin; go_loud (refine appSp w4 rfl _ _ rfl w.heap.size 0 _ _ ([] ++ xa ++ xb ++ xc) xd rfl o4 rfl hd2.out s4 (by simp; omega) ?_); intro v5 w5 o5 n8)
  rw [rounds_succ]
  go_wp2_with fail
  exact hR.out _ _ (RdN.of_own (by simpa using o5) (Nat.le_refl _)) (n7.trans n8)
set_option maxRecDepth 1000000 in
theorem setWide_calls (w : World) (R : Ending → World → Prop)
    (hR : Hid (∀ v' w', RdN w' w.heap.size v' wideT → Below w.heap.size w w' → R (.returned (.agg #[v'])) w')) : Calls Try.prog 13 #[] w R := by
  obtain ⟨Z, hZ, hZs⟩ := zv116
  have b0 : Below w.heap.size w (w.alloc (.cells #[.slice none 0 0] 27)) := (Below.refl _ _).alloc (Nat.le_refl _) _
  have k0 := cellNew w (.slice none 0 0) 27
  have k1 := frozen_new w #[.slice none 0 0] 27 0
  have zz : (w.alloc (.cells #[.slice none 0 0] 27)).heap.size = w.heap.size + 1 := by simp
  go_enter Try.func13, Try.ntmps13
  go_wp2_with fail
  generalize w.alloc (.cells #[.slice none 0 0] 27) = wa at *
  refine wideTable_calls _ _ (fun C w1 hC n1 => ?_)
  have hCs : C.size = 232 := by rw [hC]; kernel_rfl
  have hC1 : C.all (·.oneCell') = true := by rw [hC]; exact flat_all _
  have hx := rdR_newC w1 wideT 37 C 116 hC (by kernel_rfl)
  clear hC
  replace hx := Lib.hid hx
  have hst : ∀ w : World, (storeCells ⟨w.heap.size, 0, none⟩ C.toList 0).run Try.prog (w.alloc (.cells Z 37)) = .ok () (w.alloc (.cells C 37)) :=
    fun w => run_storeCells_new w _ Z C (by rw [hCs]; kernel_rfl) (by rw [hZs, hCs]) hC1
  replace hC1 := Lib.hid hC1
  have m1 : Below wa.heap.size wa (w1.alloc (.cells C 37)) := n1.alloc n1.size _
  go_wp2_with fail
  refine set_calls wideT _ _ hx.out (of_decide_eq_true (by kernel_rfl)) _ (fun v2 l w2 r3 cn hs n2 => ?_)
  obtain rfl := same_list cn can_wide hs
  have ms := m1.size
  have n3 := m1.trans (n2.mono ms)
  have f0 := (n3.cell (p := ⟨w.heap.size, 0, none⟩) (by simp only; omega)).trans k0
  have f1 := (n3.frozen (p := ⟨w.heap.size, 0, none⟩) (by simp only; omega)).trans k1
  have r4 := Lib.hid ((r3.setCell (p := ⟨w.heap.size, 0, none⟩) (by simp only; omega) v2).mono (show w.heap.size ≤ _ by omega))
  obtain ⟨A2, c2, rfl⟩ := r3.len
  have n4 := Lib.hid ((b0.trans (n3.mono b0.size)).setCell (p := ⟨w.heap.size, 0, none⟩) (Nat.le_refl _) (.slice A2 (wideT).length c2))
  clear r3 n2 n3 m1 n1 k0 k1
  go_wp2_with fail
  exact bodyPost_ret (v := .agg #[.slice A2 (wideT).length c2]) (by simp [results, Try.results13, go_sem, f0]) rfl (hR.out _ _ r4.out n4.out)
set_option maxRecDepth 1000000 in
theorem setZero_calls (w : World) (R : Ending → World → Prop)
    (hR : Hid (∀ v' w', RdN w' w.heap.size v' zeroT → Below w.heap.size w w' → R (.returned (.agg #[v'])) w')) : Calls Try.prog 15 #[] w R := by
  obtain ⟨Z, hZ, hZs⟩ := zv82
  have b0 : Below w.heap.size w (w.alloc (.cells #[.slice none 0 0] 27)) := (Below.refl _ _).alloc (Nat.le_refl _) _
  have k0 := cellNew w (.slice none 0 0) 27
  have k1 := frozen_new w #[.slice none 0 0] 27 0
  have zz : (w.alloc (.cells #[.slice none 0 0] 27)).heap.size = w.heap.size + 1 := by simp
  go_enter Try.func15, Try.ntmps15
  go_wp2_with fail
  generalize w.alloc (.cells #[.slice none 0 0] 27) = wa at *
  refine zeroTable_calls _ _ (fun C w1 hC n1 => ?_)
  have hCs : C.size = 164 := by rw [hC]; kernel_rfl
  have hC1 : C.all (·.oneCell') = true := by rw [hC]; exact flat_all _
  have hx := rdR_newC w1 zeroT 41 C 82 hC (by kernel_rfl)
  clear hC
  replace hx := Lib.hid hx
  have hst : ∀ w : World, (storeCells ⟨w.heap.size, 0, none⟩ C.toList 0).run Try.prog (w.alloc (.cells Z 41)) = .ok () (w.alloc (.cells C 41)) :=
    fun w => run_storeCells_new w _ Z C (by rw [hCs]; kernel_rfl) (by rw [hZs, hCs]) hC1
  replace hC1 := Lib.hid hC1
  have m1 : Below wa.heap.size wa (w1.alloc (.cells C 41)) := n1.alloc n1.size _
  go_wp2_with fail
  refine set_calls zeroT _ _ hx.out (of_decide_eq_true (by kernel_rfl)) _ (fun v2 l w2 r3 cn hs n2 => ?_)
  obtain rfl := same_list cn can_zero hs
  have ms := m1.size
  have n3 := m1.trans (n2.mono ms)
  have f0 := (n3.cell (p := ⟨w.heap.size, 0, none⟩) (by simp only; omega)).trans k0
  have f1 := (n3.frozen (p := ⟨w.heap.size, 0, none⟩) (by simp only; omega)).trans k1
  have r4 := Lib.hid ((r3.setCell (p := ⟨w.heap.size, 0, none⟩) (by simp only; omega) v2).mono (show w.heap.size ≤ _ by omega))
  obtain ⟨A2, c2, rfl⟩ := r3.len
  have n4 := Lib.hid ((b0.trans (n3.mono b0.size)).setCell (p := ⟨w.heap.size, 0, none⟩) (Nat.le_refl _) (.slice A2 (zeroT).length c2))
  clear r3 n2 n3 m1 n1 k0 k1
  go_wp2_with fail
  exact bodyPost_ret (v := .agg #[.slice A2 (zeroT).length c2]) (by simp [results, Try.results15, go_sem, f0]) rfl (hR.out _ _ r4.out n4.out)
end Go.Proofs.Ytcgknfpcpjiciaa.Ran
