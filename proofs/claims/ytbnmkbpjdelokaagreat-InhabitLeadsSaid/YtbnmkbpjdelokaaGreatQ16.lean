import Derived.Test.YtbnmkbpjdelokaaGreatQ15
set_option linter.unusedVariables false
set_option maxRecDepth 100000
set_option maxHeartbeats 4000000
namespace Go.Proofs.YtbnmkbpjdelokaaGreat.Kin
open Go.RowKit Go.Lib Utf Nam Lat
theorem coarseFault_calls (p : PH) (x : TH) (kd : Ft) (lv cv nv pv : Value) (w : World) (lcl : p.cl.length ≤ maxLen) (hgl : ∀ y ∈ p.cl, GoodW y) (hl : RdW w lv p.label) (hc : RdW w cv p.cl) (hy : RdY w x kd nv pv) (R : Ending → World → Prop) (hR : Hid (∀ w', Below w.heap.size w w' → R (.returned (.agg #[.int .i64 (coarC p).1, .int .i64 (coarC p).2])) w')) : Calls Tryz.prog 191 #[ptV p lv cv x nv pv] w R := by
  have lcl' : p.cl.length ≤ 9223372036854775807 := lcl
  obtain ⟨A1, n1, rfl, -, -⟩ := hl.op
  obtain ⟨A2, n2, rfl, -, -⟩ := hc.op
  obtain ⟨A5, n5, rfl, -, -⟩ := hy.n.op
  obtain ⟨A7, n7, rfl, -⟩ := hy.p.sl
  have b1 := (Below.refl w.heap.size w).alloc (Nat.le_refl _) (.cells #[.string p.name, .int .i64 p.at_, .bool p.bare, .slice A1 p.label.length n1, .int .i64 p.wide, .int .i64 p.ck, .int .i64 p.cn, .int .i64 p.cat, .slice A2 p.cl.length n2, .int .i64 x.kind, .int .i64 x.at_, .int .i64 x.lo, .int .i64 x.hi, .int .i64 x.most, .slice A5 x.names.length n5, .slice A7 kd.len n7, .string x.name, .int .i64 x.nat] 78)
  have b2 := b1.alloc b1.size (.cells #[.int .i64 0, .int .i64 0] 37)
  have b3 := b2.alloc b2.size (.cells #[.int .i64 p.ck, .int .i64 p.cn, .int .i64 p.cat, .slice A2 p.cl.length n2] 76)
  have z1 : (w.alloc (.cells #[.string p.name, .int .i64 p.at_, .bool p.bare, .slice A1 p.label.length n1, .int .i64 p.wide, .int .i64 p.ck, .int .i64 p.cn, .int .i64 p.cat, .slice A2 p.cl.length n2, .int .i64 x.kind, .int .i64 x.at_, .int .i64 x.lo, .int .i64 x.hi, .int .i64 x.most, .slice A5 x.names.length n5, .slice A7 kd.len n7, .string x.name, .int .i64 x.nat] 78)).heap.size = w.heap.size + 1 := by simp
  have z2 : ((w.alloc (.cells #[.string p.name, .int .i64 p.at_, .bool p.bare, .slice A1 p.label.length n1, .int .i64 p.wide, .int .i64 p.ck, .int .i64 p.cn, .int .i64 p.cat, .slice A2 p.cl.length n2, .int .i64 x.kind, .int .i64 x.at_, .int .i64 x.lo, .int .i64 x.hi, .int .i64 x.most, .slice A5 x.names.length n5, .slice A7 kd.len n7, .string x.name, .int .i64 x.nat] 78)).alloc (.cells #[.int .i64 0, .int .i64 0] 37)).heap.size = w.heap.size + 2 := by simp
  have hP := (((Below.refl _ _).alloc (Nat.le_refl _) (.cells #[.int .i64 0, .int .i64 0] 37)).block w.heap.size (by omega)).trans (heap_alloc_new w (.cells #[.string p.name, .int .i64 p.at_, .bool p.bare, .slice A1 p.label.length n1, .int .i64 p.wide, .int .i64 p.ck, .int .i64 p.cn, .int .i64 p.cat, .slice A2 p.cl.length n2, .int .i64 x.kind, .int .i64 x.at_, .int .i64 x.lo, .int .i64 x.hi, .int .i64 x.most, .slice A5 x.names.length n5, .slice A7 kd.len n7, .string x.name, .int .i64 x.nat] 78))
  have hP2 := (((Below.refl _ _).alloc (Nat.le_refl _) (.cells #[.int .i64 p.ck, .int .i64 p.cn, .int .i64 p.cat, .slice A2 p.cl.length n2] 76)).block w.heap.size (by omega)).trans hP
  have hF := heap_alloc_new (w.alloc (.cells #[.string p.name, .int .i64 p.at_, .bool p.bare, .slice A1 p.label.length n1, .int .i64 p.wide, .int .i64 p.ck, .int .i64 p.cn, .int .i64 p.cat, .slice A2 p.cl.length n2, .int .i64 x.kind, .int .i64 x.at_, .int .i64 x.lo, .int .i64 x.hi, .int .i64 x.most, .slice A5 x.names.length n5, .slice A7 kd.len n7, .string x.name, .int .i64 x.nat] 78)) (.cells #[.int .i64 0, .int .i64 0] 37)
  rw [z1] at hF
  have hF2 := (((Below.refl _ _).alloc (Nat.le_refl _) (.cells #[.int .i64 p.ck, .int .i64 p.cn, .int .i64 p.cat, .slice A2 p.cl.length n2] 76)).block (w.heap.size + 1) (by omega)).trans hF
  have hC := heap_alloc_new ((w.alloc (.cells #[.string p.name, .int .i64 p.at_, .bool p.bare, .slice A1 p.label.length n1, .int .i64 p.wide, .int .i64 p.ck, .int .i64 p.cn, .int .i64 p.cat, .slice A2 p.cl.length n2, .int .i64 x.kind, .int .i64 x.at_, .int .i64 x.lo, .int .i64 x.hi, .int .i64 x.most, .slice A5 x.names.length n5, .slice A7 kd.len n7, .string x.name, .int .i64 x.nat] 78)).alloc (.cells #[.int .i64 0, .int .i64 0] 37)) (.cells #[.int .i64 p.ck, .int .i64 p.cn, .int .i64 p.cat, .slice A2 p.cl.length n2] 76)
  rw [z2] at hC
  replace hc := Lib.hid hc
  clear hl hy hF
  go_enter Tryz.func191, Tryz.ntmps191
  go_upto_region 1 with fail
  generalize (w.alloc (.cells #[.string p.name, .int .i64 p.at_, .bool p.bare, .slice A1 p.label.length n1, .int .i64 p.wide, .int .i64 p.ck, .int .i64 p.cn, .int .i64 p.cat, .slice A2 p.cl.length n2, .int .i64 x.kind, .int .i64 x.at_, .int .i64 x.lo, .int .i64 x.hi, .int .i64 x.most, .slice A5 x.names.length n5, .slice A7 kd.len n7, .string x.name, .int .i64 x.nat] 78)).alloc (.cells #[.int .i64 0, .int .i64 0] 37) = V2 at *
  have u5 := (Lib.cell_of_heap hP 5).trans rfl
  have u6 := (Lib.cell_of_heap hP 6).trans rfl
  have u7 := (Lib.cell_of_heap hP 7).trans rfl
  have u8 := (Lib.cell_of_heap hP 8).trans rfl
  go_upto_region 2 with fail
  generalize V2.alloc (.cells #[.int .i64 p.ck, .int .i64 p.cn, .int .i64 p.cat, .slice A2 p.cl.length n2] 76) = V3 at *
  clear u5 u6 u7 u8 hP b1 b2 z1
  have nW := Lib.hid b3
  have u1 := (Lib.cell_of_heap hP2 1).trans rfl
  have k0 := (Lib.cell_of_heap hC 0).trans rfl
  have k1 := (Lib.cell_of_heap hC 1).trans rfl
  have k2 := (Lib.cell_of_heap hC 2).trans rfl
  have k3 := (Lib.cell_of_heap hC 3).trans rfl
  have hY := hF2
  have y0 := (Lib.cell_of_heap hY 0).trans rfl
  have yf0 := Lib.frozen_of_heap hY 0
  have y1 := (Lib.cell_of_heap hY 1).trans rfl
  have yf1 := Lib.frozen_of_heap hY 1
  clear hC hP2 hF2 b3 z2
  by_cases c0 : p.ck = 0
  · have hq0 : coarC p = if p.cn ≠ 0 ∨ p.cl ≠ [] then (19, p.at_) else (0, 0) := if_pos c0
    rw [c0] at k0
    clear c0
    by_cases c1 : p.cn = 0
    · rw [c1] at k1
      by_cases c2 : p.cl = []
      · have hq : coarC p = labelC p.cl := by rw [hq0, if_neg (by rintro (q | q); exact q c1; exact q c2), c2]; rfl
        have c3 : ¬ (0 : Int) < (p.cl.length : Int) := by rw [c2]; simp
        clear c1 c2 hq0
        go_wp2_with fail
        refine labelFault_calls p.cl lcl hgl (.slice A2 p.cl.length n2) _ (hc.out.below nW.out) _ (Lib.hid fun wL nL => ?_)
        have hYL := (nL.block _ (blt_of hY)).trans hY
        have nWL := Lib.hid (nW.out.trans (nL.mono nW.out.size))
        clear y0 y1 yf0 yf1
        have y0 := (Lib.cell_of_heap hYL 0).trans rfl
        have yf0 := Lib.frozen_of_heap hYL 0
        have y1 := (Lib.cell_of_heap hYL 1).trans rfl
        have yf1 := Lib.frozen_of_heap hYL 1
        generalize labelC p.cl = LC at *
        have fin := Lib.hid (hR.out _ (set2k' (q := w.heap.size + 1) (by omega) nWL.out (.int .i64 (LC.1)) (.int .i64 (LC.2))))
        rw [hq] at fin
        clear hR
        go_wp2_with fail
        refine bodyPost_ret ?_ rfl fin.out
        simp [results, Tryz.results191, go_sem, y0, y1]
      · have hq : coarC p = (19, p.at_) := by rw [hq0, if_pos (.inr c2)]
        have c3 : (0 : Int) < (p.cl.length : Int) := by have := List.length_pos_iff.2 c2; omega
        clear c1 c2 hq0
        have fin := Lib.hid (hR.out _ (set2k' (q := w.heap.size + 1) (by omega) nW.out (.int .i64 (19)) (.int .i64 (p.at_))))
        rw [hq] at fin
        clear hR
        go_wp2_with fail
        refine bodyPost_ret ?_ rfl fin.out
        simp [results, Tryz.results191, go_sem, y0, y1]
    · have hq : coarC p = (19, p.at_) := by rw [hq0, if_pos (.inl c1)]
      have q1 : (p.cn != 0) = true := by simpa using c1
      clear c1 hq0
      have fin := Lib.hid (hR.out _ (set2k' (q := w.heap.size + 1) (by omega) nW.out (.int .i64 (19)) (.int .i64 (p.at_))))
      rw [hq] at fin
      clear hR
      go_wp2_with fail
      refine bodyPost_ret ?_ rfl fin.out
      simp [results, Tryz.results191, go_sem, y0, y1]
  · have q0 : (p.ck == 0) = false := by simpa using c0
    have hq0 : coarC p = if p.ck < 0 ∨ 3 < p.ck then (14, p.cat) else if (p.ck = 1 ∧ p.cn < 1) ∨ (p.ck = 2 ∧ (p.cn < 0 ∨ 4096 < p.cn)) ∨ (p.ck = 3 ∧ p.cn ≠ 0) then (20, p.cat) else labelC p.cl := if_neg c0
    by_cases c1 : p.ck < 0
    · have hq : coarC p = (14, p.cat) := by rw [hq0, if_pos (.inl c1)]
      clear hq0
      have fin := Lib.hid (hR.out _ (set2k' (q := w.heap.size + 1) (by omega) nW.out (.int .i64 (14)) (.int .i64 (p.cat))))
      rw [hq] at fin
      clear hR
      go_wp2_with fail
      refine bodyPost_ret ?_ rfl fin.out
      simp [results, Tryz.results191, go_sem, y0, y1]
    · by_cases c2 : 3 < p.ck
      · have hq : coarC p = (14, p.cat) := by rw [hq0, if_pos (.inr c2)]
        clear hq0
        have fin := Lib.hid (hR.out _ (set2k' (q := w.heap.size + 1) (by omega) nW.out (.int .i64 (14)) (.int .i64 (p.cat))))
        rw [hq] at fin
        clear hR
        go_wp2_with fail
        refine bodyPost_ret ?_ rfl fin.out
        simp [results, Tryz.results191, go_sem, y0, y1]
      · rw [if_neg (by omega)] at hq0
        have hk : p.ck = 1 ∨ p.ck = 2 ∨ p.ck = 3 := by omega
        clear q0 c0 c1 c2
        rcases hk with hk | hk | hk
        · rw [hk] at k0
          by_cases c : p.cn ≤ 0
          · have hq : coarC p = (20, p.cat) := by rw [hq0, if_pos (by omega)]
            clear hq0 hk
            have fin := Lib.hid (hR.out _ (set2k' (q := w.heap.size + 1) (by omega) nW.out (.int .i64 (20)) (.int .i64 (p.cat))))
            rw [hq] at fin
            clear hR
            go_wp2_with fail
            refine bodyPost_ret ?_ rfl fin.out
            simp [results, Tryz.results191, go_sem, y0, y1]
          · have hq : coarC p = labelC p.cl := by rw [hq0, if_neg (by omega)]
            clear hq0 hk
            go_wp2_with fail
            refine labelFault_calls p.cl lcl hgl (.slice A2 p.cl.length n2) _ (hc.out.below nW.out) _ (Lib.hid fun wL nL => ?_)
            have hYL := (nL.block _ (blt_of hY)).trans hY
            have nWL := Lib.hid (nW.out.trans (nL.mono nW.out.size))
            clear y0 y1 yf0 yf1
            have y0 := (Lib.cell_of_heap hYL 0).trans rfl
            have yf0 := Lib.frozen_of_heap hYL 0
            have y1 := (Lib.cell_of_heap hYL 1).trans rfl
            have yf1 := Lib.frozen_of_heap hYL 1
            generalize labelC p.cl = LC at *
            have fin := Lib.hid (hR.out _ (set2k' (q := w.heap.size + 1) (by omega) nWL.out (.int .i64 (LC.1)) (.int .i64 (LC.2))))
            rw [hq] at fin
            clear hR
            go_wp2_with fail
            refine bodyPost_ret ?_ rfl fin.out
            simp [results, Tryz.results191, go_sem, y0, y1]
        · rw [hk] at k0
          by_cases c : p.cn < 0 ∨ 4096 < p.cn
          · have hq : coarC p = (20, p.cat) := by rw [hq0, if_pos (by omega)]
            have hd := decide_eq_true c
            clear hq0 hk c
            go_wp2_with fail
            refine outside_calls p.cn 4096 _ _ (Lib.hid ?_)
            rw [hd]
            have fin := Lib.hid (hR.out _ (set2k' (q := w.heap.size + 1) (by omega) nW.out (.int .i64 (20)) (.int .i64 (p.cat))))
            rw [hq] at fin
            clear hR
            go_wp2_with fail
            refine bodyPost_ret ?_ rfl fin.out
            simp [results, Tryz.results191, go_sem, y0, y1]
          · have hq : coarC p = labelC p.cl := by rw [hq0, if_neg (by omega)]
            have hd := decide_eq_false c
            clear hq0 hk c
            go_wp2_with fail
            refine outside_calls p.cn 4096 _ _ (Lib.hid ?_)
            rw [hd]
            go_wp2_with fail
            refine labelFault_calls p.cl lcl hgl (.slice A2 p.cl.length n2) _ (hc.out.below nW.out) _ (Lib.hid fun wL nL => ?_)
            have hYL := (nL.block _ (blt_of hY)).trans hY
            have nWL := Lib.hid (nW.out.trans (nL.mono nW.out.size))
            clear y0 y1 yf0 yf1
            have y0 := (Lib.cell_of_heap hYL 0).trans rfl
            have yf0 := Lib.frozen_of_heap hYL 0
            have y1 := (Lib.cell_of_heap hYL 1).trans rfl
            have yf1 := Lib.frozen_of_heap hYL 1
            generalize labelC p.cl = LC at *
            have fin := Lib.hid (hR.out _ (set2k' (q := w.heap.size + 1) (by omega) nWL.out (.int .i64 (LC.1)) (.int .i64 (LC.2))))
            rw [hq] at fin
            clear hR
            go_wp2_with fail
            refine bodyPost_ret ?_ rfl fin.out
            simp [results, Tryz.results191, go_sem, y0, y1]
        · rw [hk] at k0
          by_cases c : p.cn = 0
          · have hq : coarC p = labelC p.cl := by rw [hq0, if_neg (by omega)]
            rw [c] at k1
            clear hq0 hk c
            go_wp2_with fail
            refine labelFault_calls p.cl lcl hgl (.slice A2 p.cl.length n2) _ (hc.out.below nW.out) _ (Lib.hid fun wL nL => ?_)
            have hYL := (nL.block _ (blt_of hY)).trans hY
            have nWL := Lib.hid (nW.out.trans (nL.mono nW.out.size))
            clear y0 y1 yf0 yf1
            have y0 := (Lib.cell_of_heap hYL 0).trans rfl
            have yf0 := Lib.frozen_of_heap hYL 0
            have y1 := (Lib.cell_of_heap hYL 1).trans rfl
            have yf1 := Lib.frozen_of_heap hYL 1
            generalize labelC p.cl = LC at *
            have fin := Lib.hid (hR.out _ (set2k' (q := w.heap.size + 1) (by omega) nWL.out (.int .i64 (LC.1)) (.int .i64 (LC.2))))
            rw [hq] at fin
            clear hR
            go_wp2_with fail
            refine bodyPost_ret ?_ rfl fin.out
            simp [results, Tryz.results191, go_sem, y0, y1]
          · have hq : coarC p = (20, p.cat) := by rw [hq0, if_pos (by omega)]
            have q1 : (p.cn != 0) = true := by simpa using c
            clear hq0 hk c
            have fin := Lib.hid (hR.out _ (set2k' (q := w.heap.size + 1) (by omega) nW.out (.int .i64 (20)) (.int .i64 (p.cat))))
            rw [hq] at fin
            clear hR
            go_wp2_with fail
            refine bodyPost_ret ?_ rfl fin.out
            simp [results, Tryz.results191, go_sem, y0, y1]
end Go.Proofs.YtbnmkbpjdelokaaGreat.Kin
