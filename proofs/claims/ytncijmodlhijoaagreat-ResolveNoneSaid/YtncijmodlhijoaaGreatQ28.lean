import Derived.Test.YtncijmodlhijoaaGreatQ17
import Derived.Test.YtncijmodlhijoaaGreatQ25
import Derived.Test.YtncijmodlhijoaaGreatQ26
import Derived.Test.YtncijmodlhijoaaGreatQ27
set_option linter.unusedVariables false
set_option maxRecDepth 100000
set_option maxHeartbeats 4000000
namespace Go.Proofs.YtncijmodlhijoaaGreat.Res
open Go.RowKit Go.Lib Utf Nam Lat Kin Unp Rel
section
variable {base B : Nat} {lv tv tab : Value} {rh : TH} {rnv rpv : Value} {w0 : World}
def tallyS (s : BS) (h : TH) (f : Ft) : (Int × Int) × BS := ((0, 0), if h.kind = 9 then s else { s with count := wrap64 (s.count + 1) })
theorem isF_tally : IsF 203 := by
  intro args w
  unfold callFunc
  simp [go_sem, Tryz.func203]
  rfl
theorem tally_calls (G : TH → Ft → Prop) : OpQ G (BF base B lv tv tab rh rnv rpv) w0 203 (.pointer (some ⟨B, 0, none⟩)) tallyS := by
  intro s h f nv' pv' w hI hb hy hg R hR
  obtain ⟨An, cn, rfl, -, -⟩ := hy.n.op
  obtain ⟨Ap, cp, rfl, -⟩ := hy.p.sl
  have m0 := Hq.nil hI
  obtain ⟨V1, e1, m1, z1⟩ := m0.new (.cells (tyL h (.slice An h.names.length cn) (.slice Ap f.len cp)).toArray 29)
  obtain ⟨V, e2, n, z2⟩ := m1.new (.cells #[.int .i64 0, .int .i64 0] 35)
  clear m0 m1 z1 z2
  go_enter Tryz.func203, Tryz.ntmps203
  go_upto_region 1 with fail
  clear e1 e2
  have t0 := n.c 1 0 rfl rfl
  have b13 := n.bc 13 rfl
  have bf := n.bf 13
  by_cases hk : h.kind = 9
  · have e : tallyS s h f = ((0, 0), s) := by unfold tallyS; rw [if_pos hk]
    rw [e] at hR
    have q0 : (h.kind != 9) = false := by simpa using hk
    clear e hk
    go_upto_region 3 with fail
    clear t0 b13 bf
    have y0 := n.c 0 0 rfl rfl
    have yf0 := n.f 0 0 rfl
    have y1 := n.c 0 1 rfl rfl
    have yf1 := n.f 0 1 rfl
    obtain ⟨VE, eE, nE, -⟩ := n.put (j := 0) rfl [(0, .int .i64 0), (1, .int .i64 0)]
    simp only [stL] at eE
    simp only [stA, List.setIfInBounds_toArray, List.set_cons_succ, List.set_cons_zero] at nE
    have w0_ := nE.c 0 0 rfl rfl
    have w1_ := nE.c 0 1 rfl rfl
    have fin := Lib.hid (hR.out _ nE.fin)
    clear nE n hR
    go_wp2_with fail
    first | refine bodyPost_ret ?_ rfl fin.out | refine bodyPost_end ?_ rfl fin.out
    simp [results, Tryz.results203, go_sem, w0_, w1_]
  · have e : tallyS s h f = ((0, 0), { s with count := wrap64 (s.count + 1) }) := by unfold tallyS; rw [if_neg hk]
    rw [e] at hR
    have q0 : (h.kind != 9) = true := by simpa using hk
    clear e hk
    obtain ⟨V2, e2, n2⟩ : ∃ V2, V.setCell ⟨B, 13, none⟩ (.int .i64 (wrap64 (s.count + 1))) = V2 ∧ Hq (BF base B lv tv tab rh rnv rpv) s { s with count := wrap64 (s.count + 1) } w V2 [(V1.heap.size, .cells #[.int .i64 0, .int .i64 0] 35), (w.heap.size, .cells (tyL h (.slice An h.names.length cn) (.slice Ap f.len cp)).toArray 29)] := ⟨_, rfl, n.cellB 13 _ rfl rfl rfl rfl rfl rfl⟩
    clear n
    have n := n2
    clear n2
    go_upto_region 3 with fail
    clear t0 b13 bf e2
    have y0 := n.c 0 0 rfl rfl
    have yf0 := n.f 0 0 rfl
    have y1 := n.c 0 1 rfl rfl
    have yf1 := n.f 0 1 rfl
    obtain ⟨VE, eE, nE, -⟩ := n.put (j := 0) rfl [(0, .int .i64 0), (1, .int .i64 0)]
    simp only [stL] at eE
    simp only [stA, List.setIfInBounds_toArray, List.set_cons_succ, List.set_cons_zero] at nE
    have w0_ := nE.c 0 0 rfl rfl
    have w1_ := nE.c 0 1 rfl rfl
    have fin := Lib.hid (hR.out _ nE.fin)
    clear nE n hR
    go_wp2_with fail
    first | refine bodyPost_ret ?_ rfl fin.out | refine bodyPost_end ?_ rfl fin.out
    simp [results, Tryz.results203, go_sem, w0_, w1_]
noncomputable def kindsS (s : BS) (h : TH) (f : Ft) : (Int × Int) × BS :=
  if (wcS h f).1 ≠ 0 then (((wcS h f).1, (wcS h f).2.1), s) else
  if 512 < wrap64 (s.total + cW f 1) then ((8, h.at_), { s with total := wrap64 (s.total + cW f 1) }) else ((0, 0), { s with total := wrap64 (s.total + cW f 1) })
theorem isF_kinds : IsF 118 := by
  intro args w
  unfold callFunc
  simp [go_sem, Tryz.func118]
  rfl
theorem kinds_calls (hlow : w0.heap.size ≤ base) : OpQ GoodT (BF base B lv tv tab rh rnv rpv) w0 118 (.pointer (some ⟨B, 0, none⟩)) kindsS := by
  intro s h f nv' pv' w hI hb hy hg R hR
  obtain ⟨An, cn, rfl, -, -⟩ := hy.n.op
  obtain ⟨Ap, cp, rfl, -⟩ := hy.p.sl
  have m0 := Hq.nil hI
  obtain ⟨V1, e1, m1, z1⟩ := m0.new (.cells (tyL h (.slice An h.names.length cn) (.slice Ap f.len cp)).toArray 29)
  obtain ⟨V, e2, n, z2⟩ := m1.new (.cells #[.int .i64 0, .int .i64 0] 35)
  clear m0 m1 z1 z2
  go_enter Tryz.func118, Tryz.ntmps118
  go_upto_region 1 with fail
  clear e1 e2
  obtain ⟨gh, hfl, hga⟩ := hg
  have hbV := hb.trans (n.below hb.size (bF_low base B lv tv tab rh rnv rpv hlow s))
  have rT := n.rg 1 rfl
  have t1 := n.c 1 1 rfl rfl
  go_wp2_with (refine wpList_load_g (by rfl) 29 _ rfl w.heap.size (0) rfl _ _ rT Tryz.underlying29 rfl (by kernel_rfl) ?_; go_simp)
  refine right15_calls f h _ _ V gh hfl hga (hy.below hbV) _ (Lib.hid fun W1 m1 => ?_)
  replace n := n.bl m1
  clear m1 rT hbV t1
  unfold kindsS at hR
  generalize hwc : wcS h f = a at *
  obtain ⟨a0, a1, a2⟩ := a
  simp only at hR ⊢
  obtain ⟨V2, e2, n, z2⟩ := n.new (.cells #[.int .i64 a0, .int .i64 a1] 35)
  go_upto_region 2 with fail
  clear e2 z2
  have a_0 := n.c 0 0 rfl rfl
  have a_1 := n.c 0 1 rfl rfl
  by_cases h0 : a0 = 0
  · subst h0
    rw [if_neg (by decide)] at hR
    go_upto_region 4 with fail
    clear a_0 a_1
    replace n := n.tail
    have hbV := hb.trans (n.below hb.size (bF_low base B lv tv tab rh rnv rpv hlow s))
    have b12 := fun y : BW V2 => y.cell n.bl_ (n.bc 12 rfl)
    have rT := fun (W : World) (e : ∃ y : BW V2, W = y.w) => (show W.rangeAt w.heap.size 0 (tyL h (.slice An h.names.length cn) (.slice Ap f.len cp)) from by
      obtain ⟨y, rfl⟩ := e
      exact (n.bl y.b).rg 1 rfl)
    refine wp_region_mixT [([0, 1, 2, 3, 4], 5), ([6], 7)] [8] 9 (by kernel_rfl) (by kernel_rfl) (by kernel_rfl) (by kernel_rfl) (by decide) (fun _ _ d _ _ h => by cases d <;> exact h) ?_
    have gW : Below V2.heap.size V2 (V2.drewN 1) := below_drewN (Below.refl _ _) 1
    refine mixt_cons (os := [_, _, _, _, _]) (by simp only [pickO, List.filterMap_cons, List.filterMap_nil, List.getElem?_toArray, List.getElem?_cons_succ, List.getElem?_cons_zero]; rfl) (fun Kp hKp => ?_)
    iterate 4 (go_big_quiet_step (exact rfl))
    refine wpQuiet_load rfl 29 _ rfl (w.heap.size) 0 rfl _ _ rT Tryz.underlying29 rfl (by kernel_rfl) ?_
    go_simp
    refine wpQuiet_nil ?_
    refine hKp _ ?_
    clear hKp
    refine loudt (by rfl) (by kernel_rfl) (fun K2 hK2 => ?_)
    go_simp
    refine count_calls f h _ _ _ hfl hga (hy.below (hbV.trans (gW.mono hbV.size))) _ (Lib.hid fun W3 m3 => ?_)
    have gL := gW.trans (m3.mono gW.size)
    refine hK2 _ _ (BW.of gL) ?_
    clear hK2
    refine mixt_cons (os := [_]) (by simp only [pickO, List.filterMap_cons, List.filterMap_nil, List.getElem?_toArray, List.getElem?_cons_succ, List.getElem?_cons_zero]; rfl) (fun Kp hKp => ?_)
    repeat (go_big_quiet_step (exact rfl))
    refine wpQuiet_nil ?_
    refine hKp _ ?_
    clear hKp
    refine loudt (by rfl) (by kernel_rfl) (fun K3 hK3 => ?_)
    go_simp
    refine hK3 _ _ (BW.of gL) ?_
    clear hK3
    refine mixt_last (os := [_]) (by simp only [pickO, List.filterMap_cons, List.filterMap_nil, List.getElem?_toArray, List.getElem?_cons_succ, List.getElem?_cons_zero]; rfl) (fun Kp hKp => ?_)
    repeat (go_big_quiet_step (exact rfl))
    refine wpQuiet_nil ?_
    refine hKp _ ?_
    clear hKp
    replace n := n.bl gL
    have bf := n.bf 12
    have b12' := n.bc 12 rfl
    obtain ⟨V4, e4, n⟩ : ∃ V4, W3.setCell ⟨B, 12, none⟩ (.int .i64 (wrap64 (s.total + cW f 1))) = V4 ∧ Hq (BF base B lv tv tab rh rnv rpv) s { s with total := wrap64 (s.total + cW f 1) } w V4 [(V1.heap.size, .cells #[.int .i64 0, .int .i64 0] 35), (w.heap.size, .cells (tyL h (.slice An h.names.length cn) (.slice Ap f.len cp)).toArray 29)] := ⟨_, rfl, n.cellB 12 _ rfl rfl rfl rfl rfl rfl⟩
    refine loudl (by rfl) (by kernel_rfl) ?_
    go_simp
    clear e4 bf b12' gL m3 gW rT b12 hbV hwc
    have t1 := n.c 1 1 rfl rfl
    have b12 := n.bc 12 rfl
    generalize wrap64 (s.total + cW f 1) = t at *
    by_cases h5 : 512 < t
    · rw [if_pos h5] at hR
      go_upto_region 6 with fail
      clear b12
      have y0 := n.c 0 0 rfl rfl
      have yf0 := n.f 0 0 rfl
      have y1 := n.c 0 1 rfl rfl
      have yf1 := n.f 0 1 rfl
      obtain ⟨VE, eE, nE, -⟩ := n.put (j := 0) rfl [(0, .int .i64 8), (1, .int .i64 h.at_)]
      simp only [stL] at eE
      simp only [stA, List.setIfInBounds_toArray, List.set_cons_succ, List.set_cons_zero] at nE
      have w0_ := nE.c 0 0 rfl rfl
      have w1_ := nE.c 0 1 rfl rfl
      have fin := Lib.hid (hR.out _ nE.fin)
      clear nE n hR
      go_wp2_with fail
      first | refine bodyPost_ret ?_ rfl fin.out | refine bodyPost_end ?_ rfl fin.out
      simp [results, Tryz.results118, go_sem, w0_, w1_]
    · rw [if_neg h5] at hR
      go_upto_region 7 with fail
      clear b12
      have y0 := n.c 0 0 rfl rfl
      have yf0 := n.f 0 0 rfl
      have y1 := n.c 0 1 rfl rfl
      have yf1 := n.f 0 1 rfl
      obtain ⟨VE, eE, nE, -⟩ := n.put (j := 0) rfl [(0, .int .i64 0), (1, .int .i64 0)]
      simp only [stL] at eE
      simp only [stA, List.setIfInBounds_toArray, List.set_cons_succ, List.set_cons_zero] at nE
      have w0_ := nE.c 0 0 rfl rfl
      have w1_ := nE.c 0 1 rfl rfl
      have fin := Lib.hid (hR.out _ nE.fin)
      clear nE n hR
      go_wp2_with fail
      first | refine bodyPost_ret ?_ rfl fin.out | refine bodyPost_end ?_ rfl fin.out
      simp [results, Tryz.results118, go_sem, w0_, w1_]
  · rw [if_pos h0] at hR
    have q0 : (a0 != 0) = true := by simpa using h0
    clear h0 hwc
    go_upto_region 3 with fail
    have y0 := n.c 1 0 rfl rfl
    have yf0 := n.f 1 0 rfl
    have y1 := n.c 1 1 rfl rfl
    have yf1 := n.f 1 1 rfl
    obtain ⟨VE, eE, nE, -⟩ := n.put (j := 1) rfl [(0, .int .i64 a0), (1, .int .i64 a1)]
    simp only [stL] at eE
    simp only [stA, List.setIfInBounds_toArray, List.set_cons_succ, List.set_cons_zero] at nE
    have w0_ := nE.c 1 0 rfl rfl
    have w1_ := nE.c 1 1 rfl rfl
    have fin := Lib.hid (hR.out _ nE.fin)
    clear nE n hR
    go_wp2_with fail
    first | refine bodyPost_ret ?_ rfl fin.out | refine bodyPost_end ?_ rfl fin.out
    simp [results, Tryz.results118, go_sem, w0_, w1_]
end
end Go.Proofs.YtncijmodlhijoaaGreat.Res
