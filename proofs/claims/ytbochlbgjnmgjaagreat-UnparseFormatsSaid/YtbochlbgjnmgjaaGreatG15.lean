import Derived.Test.YtbochlbgjnmgjaaGreatZTypM
/- Layer 15: the reference's Wrong: records and unions. -/
set_option maxRecDepth 100000
set_option linter.unusedVariables false
namespace Go.Proofs.YtbochlbgjnmgjaaGreat.Kin
open Go.RowKit Go.Lib Go.Proofs.YtbochlbgjnmgjaaGreat.Utf Go.Proofs.YtbochlbgjnmgjaaGreat.Nam Go.Proofs.YtbochlbgjnmgjaaGreat.Lat

set_option maxRecDepth 100000 in
set_option maxHeartbeats 2000000 in
theorem wrong15_parts (f : Ft) (ih : Fo.AllK WrongQ f) (h : TH) (nv pv : Value) (m d : Nat) (w : World) (hm : m + 1 ≤ 512) (hd : d ≤ 24) (ho : ownB h f = true) (hk : h.kind = 7 ∨ h.kind = 8) (gh : GoodH h) (hfl : f.len ≤ maxLen) (hga : f.All GoodH GoodL) (hy : RdY w h f nv pv) (R : Ending → World → Prop)
    (hR : Hid (∀ w', Below w.heap.size w w' → R (.returned (wV (wrB h f (wrF f) d m).1 (wrB h f (wrF f) d m).2.1 (wrB h f (wrF f) d m).2.2)) w')) : Calls Tryz.prog 104 #[wV 0 0 m, tyV h nv pv, .int .i64 d] w R := by
  replace hfl : f.len ≤ 9223372036854775807 := hfl
  obtain ⟨Ap, cp, rfl, hpl⟩ := hy.p.sl
  obtain ⟨An, cn, rfl, hcn, hrn⟩ := hy.n.op
  have gnl : h.names.length ≤ 9223372036854775807 := gh.2.2.2.2.2.2.2.2
  have b1 := (Below.refl w.heap.size w).alloc (Nat.le_refl _) (.cells #[.int .i64 0, .int .i64 0, .int .i64 m] 151)
  have b2 := b1.alloc b1.size (.cells (tyL h (.slice An h.names.length cn) (.slice Ap f.len cp)).toArray 30)
  have b3 := b2.alloc b2.size (.cells #[.int .i64 0, .int .i64 0, .int .i64 0] 151)
  have z1 : (w.alloc (.cells #[.int .i64 0, .int .i64 0, .int .i64 m] 151)).heap.size = w.heap.size + 1 := by simp
  have z2 : ((w.alloc (.cells #[.int .i64 0, .int .i64 0, .int .i64 m] 151)).alloc (.cells (tyL h (.slice An h.names.length cn) (.slice Ap f.len cp)).toArray 30)).heap.size = w.heap.size + 2 := by simp
  have g0 := (((Below.refl _ _).alloc (Nat.le_refl _) (.cells #[.int .i64 0, .int .i64 0, .int .i64 0] 151)).block w.heap.size (by omega)).trans ((((Below.refl _ _).alloc (Nat.le_refl _) (.cells (tyL h (.slice An h.names.length cn) (.slice Ap f.len cp)).toArray 30)).block w.heap.size (by omega)).trans (heap_alloc_new w (.cells #[.int .i64 0, .int .i64 0, .int .i64 m] 151)))
  have g1 := (TB.new (w.alloc (.cells #[.int .i64 0, .int .i64 0, .int .i64 m] 151)) h (.slice An h.names.length cn) (.slice Ap f.len cp) 30).below ((Below.refl _ _).alloc (Nat.le_refl _) (.cells #[.int .i64 0, .int .i64 0, .int .i64 0] 151))
  have g2 := heap_alloc_new ((w.alloc (.cells #[.int .i64 0, .int .i64 0, .int .i64 m] 151)).alloc (.cells (tyL h (.slice An h.names.length cn) (.slice Ap f.len cp)).toArray 30)) (.cells #[.int .i64 0, .int .i64 0, .int .i64 0] 151)
  rw [z1] at g1
  rw [z2] at g2
  have rw0 : RW (((w.alloc (.cells #[.int .i64 0, .int .i64 0, .int .i64 m] 151)).alloc (.cells (tyL h (.slice An h.names.length cn) (.slice Ap f.len cp)).toArray 30)).alloc (.cells #[.int .i64 0, .int .i64 0, .int .i64 0] 151)) w.heap.size m h (.slice An h.names.length cn) (.slice Ap f.len cp) := ⟨g0, g1, g2⟩
  have hyw := Lib.hid hy
  replace hga := Lib.hid hga
  replace gh := Lib.hid gh
  replace hrn := Lib.hid hrn
  replace ih := Lib.hid ih
  replace hk := Lib.hid hk
  replace ho := Lib.hid ho
  clear g0 g1 g2 z1 z2 b1 b2 hy
  go_enter Tryz.func104, Tryz.ntmps104
  go_upto_region 1 with fail
  generalize (((w.alloc (.cells #[.int .i64 0, .int .i64 0, .int .i64 m] 151)).alloc (.cells (tyL h (.slice An h.names.length cn) (.slice Ap f.len cp)).toArray 30)).alloc (.cells #[.int .i64 0, .int .i64 0, .int .i64 0] 151)) = W3 at *
  have k0 := (Lib.cell_of_heap rw0.h0 0).trans rfl
  have k1 := (Lib.cell_of_heap rw0.h0 1).trans rfl
  have k2 := (Lib.cell_of_heap rw0.h0 2).trans rfl
  have kf2 := Lib.frozen_of_heap rw0.h0 2
  go_upto_region 2 with fail
  obtain ⟨M, hM⟩ : ∃ M : Nat, M = m + 1 := ⟨_, rfl⟩
  rw [show ((m : Int) + 1) = ((M : Nat) : Int) by omega]
  have l0 := blt_of rw0.h0
  have l2 := blt_of rw0.h2
  have rwA := Lib.hid (RW.mk (m := M) (nv := .slice An h.names.length cn) (pv := .slice Ap f.len cp) (set_atK rw0.h0 2 (.int .i64 (M : Nat))) (rw0.h1.set1 (by omega) 2 (.int .i64 (M : Nat))) ((set_neK (by omega)).trans rw0.h2))
  have nA := Lib.hid (b3.setCell (p := ⟨w.heap.size, 2, none⟩) (Nat.le_refl _) (.int .i64 (M : Nat)))
  replace hM := Lib.hid hM
  generalize W3.setCell ⟨w.heap.size, 2, none⟩ (.int .i64 (M : Nat)) = WA at *
  clear rw0 b3 k0 k1 k2 kf2 l0 l2 W3
  have hm : M ≤ 512 := by have := hM.out; omega
  have k0 := (Lib.cell_of_heap rwA.out.h0 0).trans rfl
  have k1 := (Lib.cell_of_heap rwA.out.h0 1).trans rfl
  have k2 := (Lib.cell_of_heap rwA.out.h0 2).trans rfl
  have t0 := rwA.out.h1.k0
  have t1 := rwA.out.h1.k1
  have hk1 : ¬ h.kind < 1 := by have := hk.out; omega
  have hk9 : ¬ 9 < h.kind := by have := hk.out; omega
  have r0 := rwA.out.h1.range
  have cO := Lib.hid fun R hR => own15_calls f h (.slice An h.names.length cn) (.slice Ap f.len cp) WA gh.out.2.2.2.2.2.2.2.2 hfl hga.out (hyw.out.below nA.out) R hR
  rw [ho.out] at cO
  go_wp2_with (refine wpList_load_g (by rfl) 30 _ rfl (w.heap.size + 1) 0 rfl [.int .i64 h.kind, .int .i64 h.at_, .int .i64 h.lo, .int .i64 h.hi, .int .i64 h.most, .slice An h.names.length cn, .slice Ap f.len cp, .string h.name, .int .i64 h.nat] _ r0 Tryz.underlying30 rfl (by kernel_rfl) ?_; go_simp)
  refine cO.out _ (Lib.hid fun wB nB => ?_)
  have rwB := Lib.hid (rwA.out.below nB)
  have nb := Lib.hid (nA.out.trans (nB.mono nA.out.size))
  clear r0 cO k0 k1 k2 t0 t1 rwA nA nB
  clear hk1 hk9
  have k0 := (Lib.cell_of_heap rwB.out.h0 0).trans rfl
  have k1 := (Lib.cell_of_heap rwB.out.h0 1).trans rfl
  have k2 := (Lib.cell_of_heap rwB.out.h0 2).trans rfl
  have t0 := rwB.out.h1.k0
  have t1 := rwB.out.h1.k1
  have t2 := rwB.out.h1.k2
  have t3 := rwB.out.h1.k3
  have t4 := rwB.out.h1.k4
  have t5 := rwB.out.h1.k5
  have t6 := rwB.out.h1.k6
  have t7 := rwB.out.h1.k7
  have t8 := rwB.out.h1.k8
  have r0 := rwB.out.h1.range
  rcases hk.out with q | q
  · have hq := wrB_7 hM.out hd hm ho.out q
    have cP := Lib.hid fun R hR => parts15_calls7 f ih.out h (.slice An h.names.length cn) (.slice Ap f.len cp) M d wB hm hd q gh.out hfl hga.out (hyw.out.below nb.out) R hR
    rw [q] at t0
    clear q
    generalize partS h f d M = X at *
    go_upto_region 32 with fail
    clear t0 t1 t2 t3 t4 t5 t6 t7 t8
    go_wp2_with (refine wpList_load_g (by rfl) 30 _ rfl (w.heap.size + 1) 0 rfl [.int .i64 h.kind, .int .i64 h.at_, .int .i64 h.lo, .int .i64 h.hi, .int .i64 h.most, .slice An h.names.length cn, .slice Ap f.len cp, .string h.name, .int .i64 h.nat] _ r0 Tryz.underlying30 rfl (by kernel_rfl) ?_; go_simp)
    refine cP.out _ (Lib.hid fun wL nL => ?_)
    have rwL := (rwB.out).below nL
    have y0 := (Lib.cell_of_heap rwL.h2 0).trans rfl
    have yf0 := Lib.frozen_of_heap rwL.h2 0
    have y1 := (Lib.cell_of_heap rwL.h2 1).trans rfl
    have yf1 := Lib.frozen_of_heap rwL.h2 1
    have y2 := (Lib.cell_of_heap rwL.h2 2).trans rfl
    have yf2 := Lib.frozen_of_heap rwL.h2 2

    have fin := Lib.hid (hR.out _ (set3k (q := w.heap.size + 2) (by omega) (nb.out.trans (nL.mono nb.out.size)) (.int .i64 X.1) (.int .i64 X.2.1) (.int .i64 (X.2.2 : Nat))))
    rw [hq] at fin
    clear hR rwL nL
    go_wp2_with fail
    refine bodyPost_ret ?_ rfl fin.out
    simp [results, Tryz.results104, go_sem, y0, y1, y2]
  · have hq := wrB_8 hM.out hd hm ho.out q
    have cP := Lib.hid fun R hR => parts15_calls8 f ih.out h (.slice An h.names.length cn) (.slice Ap f.len cp) M d wB hm hd q gh.out hfl hga.out (hyw.out.below nb.out) R hR
    rw [q] at t0
    clear q
    generalize partS h f d M = X at *
    go_upto_region 32 with fail
    clear t0 t1 t2 t3 t4 t5 t6 t7 t8
    go_wp2_with (refine wpList_load_g (by rfl) 30 _ rfl (w.heap.size + 1) 0 rfl [.int .i64 h.kind, .int .i64 h.at_, .int .i64 h.lo, .int .i64 h.hi, .int .i64 h.most, .slice An h.names.length cn, .slice Ap f.len cp, .string h.name, .int .i64 h.nat] _ r0 Tryz.underlying30 rfl (by kernel_rfl) ?_; go_simp)
    refine cP.out _ (Lib.hid fun wL nL => ?_)
    have rwL := (rwB.out).below nL
    have y0 := (Lib.cell_of_heap rwL.h2 0).trans rfl
    have yf0 := Lib.frozen_of_heap rwL.h2 0
    have y1 := (Lib.cell_of_heap rwL.h2 1).trans rfl
    have yf1 := Lib.frozen_of_heap rwL.h2 1
    have y2 := (Lib.cell_of_heap rwL.h2 2).trans rfl
    have yf2 := Lib.frozen_of_heap rwL.h2 2

    have fin := Lib.hid (hR.out _ (set3k (q := w.heap.size + 2) (by omega) (nb.out.trans (nL.mono nb.out.size)) (.int .i64 X.1) (.int .i64 X.2.1) (.int .i64 (X.2.2 : Nat))))
    rw [hq] at fin
    clear hR rwL nL
    go_wp2_with fail
    refine bodyPost_ret ?_ rfl fin.out
    simp [results, Tryz.results104, go_sem, y0, y1, y2]
end Go.Proofs.YtbochlbgjnmgjaaGreat.Kin

/- Layer 15: the reference's Wrong: kinds with neither names nor a part. -/
set_option maxRecDepth 100000
set_option linter.unusedVariables false
namespace Go.Proofs.YtbochlbgjnmgjaaGreat.Kin
open Go.RowKit Go.Lib Go.Proofs.YtbochlbgjnmgjaaGreat.Utf Go.Proofs.YtbochlbgjnmgjaaGreat.Nam Go.Proofs.YtbochlbgjnmgjaaGreat.Lat

set_option maxRecDepth 100000 in
set_option maxHeartbeats 2000000 in
theorem wrong15_flat (f : Ft) (ih : Fo.AllK WrongQ f) (h : TH) (nv pv : Value) (m d : Nat) (w : World) (hm : m + 1 ≤ 512) (hd : d ≤ 24) (ho : ownB h f = true) (hk : h.kind = 1 ∨ h.kind = 2 ∨ h.kind = 3 ∨ h.kind = 9) (gh : GoodH h) (hfl : f.len ≤ maxLen) (hga : f.All GoodH GoodL) (hy : RdY w h f nv pv) (R : Ending → World → Prop)
    (hR : Hid (∀ w', Below w.heap.size w w' → R (.returned (wV (wrB h f (wrF f) d m).1 (wrB h f (wrF f) d m).2.1 (wrB h f (wrF f) d m).2.2)) w')) : Calls Tryz.prog 104 #[wV 0 0 m, tyV h nv pv, .int .i64 d] w R := by
  replace hfl : f.len ≤ 9223372036854775807 := hfl
  obtain ⟨Ap, cp, rfl, hpl⟩ := hy.p.sl
  obtain ⟨An, cn, rfl, hcn, hrn⟩ := hy.n.op
  have gnl : h.names.length ≤ 9223372036854775807 := gh.2.2.2.2.2.2.2.2
  have b1 := (Below.refl w.heap.size w).alloc (Nat.le_refl _) (.cells #[.int .i64 0, .int .i64 0, .int .i64 m] 151)
  have b2 := b1.alloc b1.size (.cells (tyL h (.slice An h.names.length cn) (.slice Ap f.len cp)).toArray 30)
  have b3 := b2.alloc b2.size (.cells #[.int .i64 0, .int .i64 0, .int .i64 0] 151)
  have z1 : (w.alloc (.cells #[.int .i64 0, .int .i64 0, .int .i64 m] 151)).heap.size = w.heap.size + 1 := by simp
  have z2 : ((w.alloc (.cells #[.int .i64 0, .int .i64 0, .int .i64 m] 151)).alloc (.cells (tyL h (.slice An h.names.length cn) (.slice Ap f.len cp)).toArray 30)).heap.size = w.heap.size + 2 := by simp
  have g0 := (((Below.refl _ _).alloc (Nat.le_refl _) (.cells #[.int .i64 0, .int .i64 0, .int .i64 0] 151)).block w.heap.size (by omega)).trans ((((Below.refl _ _).alloc (Nat.le_refl _) (.cells (tyL h (.slice An h.names.length cn) (.slice Ap f.len cp)).toArray 30)).block w.heap.size (by omega)).trans (heap_alloc_new w (.cells #[.int .i64 0, .int .i64 0, .int .i64 m] 151)))
  have g1 := (TB.new (w.alloc (.cells #[.int .i64 0, .int .i64 0, .int .i64 m] 151)) h (.slice An h.names.length cn) (.slice Ap f.len cp) 30).below ((Below.refl _ _).alloc (Nat.le_refl _) (.cells #[.int .i64 0, .int .i64 0, .int .i64 0] 151))
  have g2 := heap_alloc_new ((w.alloc (.cells #[.int .i64 0, .int .i64 0, .int .i64 m] 151)).alloc (.cells (tyL h (.slice An h.names.length cn) (.slice Ap f.len cp)).toArray 30)) (.cells #[.int .i64 0, .int .i64 0, .int .i64 0] 151)
  rw [z1] at g1
  rw [z2] at g2
  have rw0 : RW (((w.alloc (.cells #[.int .i64 0, .int .i64 0, .int .i64 m] 151)).alloc (.cells (tyL h (.slice An h.names.length cn) (.slice Ap f.len cp)).toArray 30)).alloc (.cells #[.int .i64 0, .int .i64 0, .int .i64 0] 151)) w.heap.size m h (.slice An h.names.length cn) (.slice Ap f.len cp) := ⟨g0, g1, g2⟩
  have hyw := Lib.hid hy
  replace hga := Lib.hid hga
  replace gh := Lib.hid gh
  replace hrn := Lib.hid hrn
  replace ih := Lib.hid ih
  replace hk := Lib.hid hk
  replace ho := Lib.hid ho
  clear g0 g1 g2 z1 z2 b1 b2 hy
  go_enter Tryz.func104, Tryz.ntmps104
  go_upto_region 1 with fail
  generalize (((w.alloc (.cells #[.int .i64 0, .int .i64 0, .int .i64 m] 151)).alloc (.cells (tyL h (.slice An h.names.length cn) (.slice Ap f.len cp)).toArray 30)).alloc (.cells #[.int .i64 0, .int .i64 0, .int .i64 0] 151)) = W3 at *
  have k0 := (Lib.cell_of_heap rw0.h0 0).trans rfl
  have k1 := (Lib.cell_of_heap rw0.h0 1).trans rfl
  have k2 := (Lib.cell_of_heap rw0.h0 2).trans rfl
  have kf2 := Lib.frozen_of_heap rw0.h0 2
  go_upto_region 2 with fail
  obtain ⟨M, hM⟩ : ∃ M : Nat, M = m + 1 := ⟨_, rfl⟩
  rw [show ((m : Int) + 1) = ((M : Nat) : Int) by omega]
  have l0 := blt_of rw0.h0
  have l2 := blt_of rw0.h2
  have rwA := Lib.hid (RW.mk (m := M) (nv := .slice An h.names.length cn) (pv := .slice Ap f.len cp) (set_atK rw0.h0 2 (.int .i64 (M : Nat))) (rw0.h1.set1 (by omega) 2 (.int .i64 (M : Nat))) ((set_neK (by omega)).trans rw0.h2))
  have nA := Lib.hid (b3.setCell (p := ⟨w.heap.size, 2, none⟩) (Nat.le_refl _) (.int .i64 (M : Nat)))
  replace hM := Lib.hid hM
  generalize W3.setCell ⟨w.heap.size, 2, none⟩ (.int .i64 (M : Nat)) = WA at *
  clear rw0 b3 k0 k1 k2 kf2 l0 l2 W3
  have hm : M ≤ 512 := by have := hM.out; omega
  have k0 := (Lib.cell_of_heap rwA.out.h0 0).trans rfl
  have k1 := (Lib.cell_of_heap rwA.out.h0 1).trans rfl
  have k2 := (Lib.cell_of_heap rwA.out.h0 2).trans rfl
  have t0 := rwA.out.h1.k0
  have t1 := rwA.out.h1.k1
  have hk1 : ¬ h.kind < 1 := by have := hk.out; omega
  have hk9 : ¬ 9 < h.kind := by have := hk.out; omega
  have r0 := rwA.out.h1.range
  have cO := Lib.hid fun R hR => own15_calls f h (.slice An h.names.length cn) (.slice Ap f.len cp) WA gh.out.2.2.2.2.2.2.2.2 hfl hga.out (hyw.out.below nA.out) R hR
  rw [ho.out] at cO
  go_wp2_with (refine wpList_load_g (by rfl) 30 _ rfl (w.heap.size + 1) 0 rfl [.int .i64 h.kind, .int .i64 h.at_, .int .i64 h.lo, .int .i64 h.hi, .int .i64 h.most, .slice An h.names.length cn, .slice Ap f.len cp, .string h.name, .int .i64 h.nat] _ r0 Tryz.underlying30 rfl (by kernel_rfl) ?_; go_simp)
  refine cO.out _ (Lib.hid fun wB nB => ?_)
  have rwB := Lib.hid (rwA.out.below nB)
  have nb := Lib.hid (nA.out.trans (nB.mono nA.out.size))
  clear r0 cO k0 k1 k2 t0 t1 rwA nA nB
  clear hk1 hk9
  have k0 := (Lib.cell_of_heap rwB.out.h0 0).trans rfl
  have k1 := (Lib.cell_of_heap rwB.out.h0 1).trans rfl
  have k2 := (Lib.cell_of_heap rwB.out.h0 2).trans rfl
  have t0 := rwB.out.h1.k0
  have t1 := rwB.out.h1.k1
  have t2 := rwB.out.h1.k2
  have t3 := rwB.out.h1.k3
  have t4 := rwB.out.h1.k4
  have t5 := rwB.out.h1.k5
  have t6 := rwB.out.h1.k6
  have t7 := rwB.out.h1.k7
  have t8 := rwB.out.h1.k8
  rcases hk.out with q | q | q | q
  · have hq := wrB_1 (sub := wrF f) hM.out hd hm ho.out q
    rw [q] at t0
    clear q
    have y0 := (Lib.cell_of_heap rwB.out.h2 0).trans rfl
    have yf0 := Lib.frozen_of_heap rwB.out.h2 0
    have y1 := (Lib.cell_of_heap rwB.out.h2 1).trans rfl
    have yf1 := Lib.frozen_of_heap rwB.out.h2 1
    have y2 := (Lib.cell_of_heap rwB.out.h2 2).trans rfl
    have yf2 := Lib.frozen_of_heap rwB.out.h2 2
    have fin := Lib.hid (hR.out _ (set3k (q := w.heap.size + 2) (by omega) nb.out (.int .i64 0) (.int .i64 0) (.int .i64 (M : Nat))))
    rw [hq] at fin
    clear hR
    go_wp2_with fail
    refine bodyPost_ret ?_ rfl fin.out
    simp [results, Tryz.results104, go_sem, y0, y1, y2]

  · have hq := wrB_2 (sub := wrF f) hM.out hd hm ho.out q
    rw [q] at t0
    clear q
    by_cases c : h.hi < h.lo
    · rw [if_pos c] at hq
      go_wp2_with fail
      refine with15_calls 0 0 (M : Nat) (20) (h.at_) _ _ (Lib.hid fun wL nL => ?_)
      have rwL := (rwB.out).below nL
      have y0 := (Lib.cell_of_heap rwL.h2 0).trans rfl
      have yf0 := Lib.frozen_of_heap rwL.h2 0
      have y1 := (Lib.cell_of_heap rwL.h2 1).trans rfl
      have yf1 := Lib.frozen_of_heap rwL.h2 1
      have y2 := (Lib.cell_of_heap rwL.h2 2).trans rfl
      have yf2 := Lib.frozen_of_heap rwL.h2 2
      have fin := Lib.hid (hR.out _ (set3k (q := w.heap.size + 2) (by omega) (nb.out.trans (nL.mono nb.out.size)) (.int .i64 (20)) (.int .i64 (h.at_)) (.int .i64 (M : Nat))))
      rw [hq] at fin
      clear hR rwL nL
      go_wp2_with fail
      refine bodyPost_ret ?_ rfl fin.out
      simp [results, Tryz.results104, go_sem, y0, y1, y2]

    · rw [if_neg c] at hq
      have y0 := (Lib.cell_of_heap rwB.out.h2 0).trans rfl
      have yf0 := Lib.frozen_of_heap rwB.out.h2 0
      have y1 := (Lib.cell_of_heap rwB.out.h2 1).trans rfl
      have yf1 := Lib.frozen_of_heap rwB.out.h2 1
      have y2 := (Lib.cell_of_heap rwB.out.h2 2).trans rfl
      have yf2 := Lib.frozen_of_heap rwB.out.h2 2
      have fin := Lib.hid (hR.out _ (set3k (q := w.heap.size + 2) (by omega) nb.out (.int .i64 0) (.int .i64 0) (.int .i64 (M : Nat))))
      rw [hq] at fin
      clear hR
      go_wp2_with fail
      refine bodyPost_ret ?_ rfl fin.out
      simp [results, Tryz.results104, go_sem, y0, y1, y2]

  · have hq := wrB_3 (sub := wrF f) hM.out hd hm ho.out q
    rw [q] at t0
    clear q
    by_cases c : h.most < 0
    · rw [if_pos (.inl c)] at hq
      go_wp2_with fail
      refine with15_calls 0 0 (M : Nat) (20) (h.at_) _ _ (Lib.hid fun wL nL => ?_)
      have rwL := (rwB.out).below nL
      have y0 := (Lib.cell_of_heap rwL.h2 0).trans rfl
      have yf0 := Lib.frozen_of_heap rwL.h2 0
      have y1 := (Lib.cell_of_heap rwL.h2 1).trans rfl
      have yf1 := Lib.frozen_of_heap rwL.h2 1
      have y2 := (Lib.cell_of_heap rwL.h2 2).trans rfl
      have yf2 := Lib.frozen_of_heap rwL.h2 2
      have fin := Lib.hid (hR.out _ (set3k (q := w.heap.size + 2) (by omega) (nb.out.trans (nL.mono nb.out.size)) (.int .i64 (20)) (.int .i64 (h.at_)) (.int .i64 (M : Nat))))
      rw [hq] at fin
      clear hR rwL nL
      go_wp2_with fail
      refine bodyPost_ret ?_ rfl fin.out
      simp [results, Tryz.results104, go_sem, y0, y1, y2]

    · by_cases c' : 4096 < h.most
      · rw [if_pos (.inr c')] at hq
        go_wp2_with fail
        refine with15_calls 0 0 (M : Nat) (20) (h.at_) _ _ (Lib.hid fun wL nL => ?_)
        have rwL := (rwB.out).below nL
        have y0 := (Lib.cell_of_heap rwL.h2 0).trans rfl
        have yf0 := Lib.frozen_of_heap rwL.h2 0
        have y1 := (Lib.cell_of_heap rwL.h2 1).trans rfl
        have yf1 := Lib.frozen_of_heap rwL.h2 1
        have y2 := (Lib.cell_of_heap rwL.h2 2).trans rfl
        have yf2 := Lib.frozen_of_heap rwL.h2 2
        have fin := Lib.hid (hR.out _ (set3k (q := w.heap.size + 2) (by omega) (nb.out.trans (nL.mono nb.out.size)) (.int .i64 (20)) (.int .i64 (h.at_)) (.int .i64 (M : Nat))))
        rw [hq] at fin
        clear hR rwL nL
        go_wp2_with fail
        refine bodyPost_ret ?_ rfl fin.out
        simp [results, Tryz.results104, go_sem, y0, y1, y2]

      · rw [if_neg (by omega)] at hq
        have y0 := (Lib.cell_of_heap rwB.out.h2 0).trans rfl
        have yf0 := Lib.frozen_of_heap rwB.out.h2 0
        have y1 := (Lib.cell_of_heap rwB.out.h2 1).trans rfl
        have yf1 := Lib.frozen_of_heap rwB.out.h2 1
        have y2 := (Lib.cell_of_heap rwB.out.h2 2).trans rfl
        have yf2 := Lib.frozen_of_heap rwB.out.h2 2
        have fin := Lib.hid (hR.out _ (set3k (q := w.heap.size + 2) (by omega) nb.out (.int .i64 0) (.int .i64 0) (.int .i64 (M : Nat))))
        rw [hq] at fin
        clear hR
        go_wp2_with fail
        refine bodyPost_ret ?_ rfl fin.out
        simp [results, Tryz.results104, go_sem, y0, y1, y2]

  · have hq := wrB_9 (sub := wrF f) hM.out hd hm ho.out q
    rw [q] at t0
    clear q
    have gnm := gh.out.2.2.2.2.2.2.1
    go_wp2_with fail
    refine refright_calls h.name gnm wB _ (Lib.hid ?_)
    cases c : rightS h.name
    · rw [if_pos c] at hq
      clear c
      go_wp2_with fail
      refine with15_calls 0 0 (M : Nat) (9) (h.nat) _ _ (Lib.hid fun wL nL => ?_)
      have rwL := (rwB.out).below nL
      have y0 := (Lib.cell_of_heap rwL.h2 0).trans rfl
      have yf0 := Lib.frozen_of_heap rwL.h2 0
      have y1 := (Lib.cell_of_heap rwL.h2 1).trans rfl
      have yf1 := Lib.frozen_of_heap rwL.h2 1
      have y2 := (Lib.cell_of_heap rwL.h2 2).trans rfl
      have yf2 := Lib.frozen_of_heap rwL.h2 2
      have fin := Lib.hid (hR.out _ (set3k (q := w.heap.size + 2) (by omega) (nb.out.trans (nL.mono nb.out.size)) (.int .i64 (9)) (.int .i64 (h.nat)) (.int .i64 (M : Nat))))
      rw [hq] at fin
      clear hR rwL nL
      go_wp2_with fail
      refine bodyPost_ret ?_ rfl fin.out
      simp [results, Tryz.results104, go_sem, y0, y1, y2]

    · rw [if_neg (by rw [c]; simp)] at hq
      clear c
      have y0 := (Lib.cell_of_heap rwB.out.h2 0).trans rfl
      have yf0 := Lib.frozen_of_heap rwB.out.h2 0
      have y1 := (Lib.cell_of_heap rwB.out.h2 1).trans rfl
      have yf1 := Lib.frozen_of_heap rwB.out.h2 1
      have y2 := (Lib.cell_of_heap rwB.out.h2 2).trans rfl
      have yf2 := Lib.frozen_of_heap rwB.out.h2 2
      have fin := Lib.hid (hR.out _ (set3k (q := w.heap.size + 2) (by omega) nb.out (.int .i64 0) (.int .i64 0) (.int .i64 (M : Nat))))
      rw [hq] at fin
      clear hR
      go_wp2_with fail
      refine bodyPost_ret ?_ rfl fin.out
      simp [results, Tryz.results104, go_sem, y0, y1, y2]
end Go.Proofs.YtbochlbgjnmgjaaGreat.Kin
