/- Layer 15: the reference's Wrong: what is wrong at once. -/
import Derived.Test.YtbochlbgjnmgjaaGreatZTypL
set_option maxRecDepth 100000
set_option linter.unusedVariables false
namespace Go.Proofs.YtbochlbgjnmgjaaGreat.Kin
open Go.RowKit Go.Lib Go.Proofs.YtbochlbgjnmgjaaGreat.Utf Go.Proofs.YtbochlbgjnmgjaaGreat.Nam Go.Proofs.YtbochlbgjnmgjaaGreat.Lat

set_option maxRecDepth 100000 in
set_option maxHeartbeats 2000000 in
theorem wrong15_err (f : Ft) (ih : Fo.AllK WrongQ f) (h : TH) (nv pv : Value) (m d : Nat) (w : World) (hm : m ≤ 512) (hd : d ≤ 25) (hx : 24 < d ∨ 512 < m + 1 ∨ h.kind < 1 ∨ 9 < h.kind ∨ ownB h f = false) (gh : GoodH h) (hfl : f.len ≤ maxLen) (hga : f.All GoodH GoodL) (hy : RdY w h f nv pv) (R : Ending → World → Prop)
    (hR : Hid (∀ w', Below w.heap.size w w' → R (.returned (wV (wrB h f (wrF f) d m).1 (wrB h f (wrF f) d m).2.1 (wrB h f (wrF f) d m).2.2)) w')) : Calls Tryz.prog 104 #[wV 0 0 m, tyV h nv pv, .int .i64 d] w R := by
  replace hfl : f.len ≤ 9223372036854775807 := hfl
  obtain ⟨Ap, cp, rfl, hpl⟩ := hy.p.sl
  obtain ⟨An, cn, rfl, hcn, hrn⟩ := hy.n.op
  have gnl : h.names.length ≤ 9223372036854775807 := gh.2.2.2.2.2.2.2.2
  have b1 := (Below.refl w.heap.size w).alloc (Nat.le_refl _) (.cells #[.int .i64 0, .int .i64 0, .int .i64 m] 151)
  have b2 := b1.alloc b1.size (.cells (tyL h (.slice An h.names.length cn) (.slice Ap f.len cp)).toArray 30)
  have b3 := b2.alloc b2.size (.cells #[.int .i64 0, .int .i64 0, .int .i64 0] 151)
  have z1 : (w.alloc (.cells #[.int .i64 0, .int .i64 0, .int .i64 m] 151)).heap.size = w.heap.size + 1 := by simp
  have z2 : ((w.alloc (.cells #[.int .i64 0, .int .i64 0, .int .i64 m] 151)).alloc (.cells (tyL h (.slice An h.names.length cn) (.slice Ap f.len cp)).toArray 30)).heap.size = w.heap.size + 2 := by simp
  have g0 := (((Below.refl _ _).alloc (Nat.le_refl _) (.cells #[.int .i64 0, .int .i64 0, .int .i64 0] 151)).block w.heap.size (by omega)).trans ((((Below.refl _ _).alloc (Nat.le_refl _) (.cells (tyL h (.slice An h.names.length cn) (.slice Ap f.len cp)).toArray 30)).block w.heap.size (by omega)).trans (heap_alloc_new w (.cells #[.int .i64 0, .int .i64 0, .int .i64 m] 151)))
  have g1 := (TB.new (w.alloc (.cells #[.int .i64 0, .int .i64 0, .int .i64 m] 151)) h (.slice An h.names.length cn) (.slice Ap f.len cp) 30).below ((Below.refl _ _).alloc (Nat.le_refl _) (.cells #[.int .i64 0, .int .i64 0, .int .i64 0] 151))
  have g2 := heap_alloc_new ((w.alloc (.cells #[.int .i64 0, .int .i64 0, .int .i64 m] 151)).alloc (.cells (tyL h (.slice An h.names.length cn) (.slice Ap f.len cp)).toArray 30)) (.cells #[.int .i64 0, .int .i64 0, .int .i64 0] 151)
  rw [z1] at g1
  rw [z2] at g2
  have rw0 : RW (((w.alloc (.cells #[.int .i64 0, .int .i64 0, .int .i64 m] 151)).alloc (.cells (tyL h (.slice An h.names.length cn) (.slice Ap f.len cp)).toArray 30)).alloc (.cells #[.int .i64 0, .int .i64 0, .int .i64 0] 151)) w.heap.size m h (.slice An h.names.length cn) (.slice Ap f.len cp) := ⟨g0, g1, g2⟩
  have hyw := Lib.hid hy
  replace hga := Lib.hid hga
  replace gh := Lib.hid gh
  replace hrn := Lib.hid hrn
  replace ih := Lib.hid ih
  replace hx := Lib.hid hx
  clear g0 g1 g2 z1 z2 b1 b2 hy
  go_enter Tryz.func104, Tryz.ntmps104
  go_upto_region 1 with fail
  generalize (((w.alloc (.cells #[.int .i64 0, .int .i64 0, .int .i64 m] 151)).alloc (.cells (tyL h (.slice An h.names.length cn) (.slice Ap f.len cp)).toArray 30)).alloc (.cells #[.int .i64 0, .int .i64 0, .int .i64 0] 151)) = W3 at *
  have k0 := (Lib.cell_of_heap rw0.h0 0).trans rfl
  have k1 := (Lib.cell_of_heap rw0.h0 1).trans rfl
  have k2 := (Lib.cell_of_heap rw0.h0 2).trans rfl
  have kf2 := Lib.frozen_of_heap rw0.h0 2
  go_upto_region 2 with fail
  obtain ⟨M, hM⟩ : ∃ M : Nat, M = m + 1 := ⟨_, rfl⟩
  rw [show ((m : Int) + 1) = ((M : Nat) : Int) by omega]
  have l0 := blt_of rw0.h0
  have l2 := blt_of rw0.h2
  have rwA := Lib.hid (RW.mk (m := M) (nv := .slice An h.names.length cn) (pv := .slice Ap f.len cp) (set_atK rw0.h0 2 (.int .i64 (M : Nat))) (rw0.h1.set1 (by omega) 2 (.int .i64 (M : Nat))) ((set_neK (by omega)).trans rw0.h2))
  have nA := Lib.hid (b3.setCell (p := ⟨w.heap.size, 2, none⟩) (Nat.le_refl _) (.int .i64 (M : Nat)))
  replace hM := Lib.hid hM
  generalize W3.setCell ⟨w.heap.size, 2, none⟩ (.int .i64 (M : Nat)) = WA at *
  clear rw0 b3 k0 k1 k2 kf2 l0 l2 W3
  have hw := wrB_err h f (wrF f) d m
  rw [← hM.out] at hw
  have k0 := (Lib.cell_of_heap rwA.out.h0 0).trans rfl
  have k1 := (Lib.cell_of_heap rwA.out.h0 1).trans rfl
  have k2 := (Lib.cell_of_heap rwA.out.h0 2).trans rfl
  have t0 := rwA.out.h1.k0
  have t1 := rwA.out.h1.k1
  by_cases c1 : 24 < d
  · rw [if_pos c1] at hw
    go_wp2_with fail
    refine with15_calls 0 0 (M : Nat) (6) (h.at_) _ _ (Lib.hid fun wL nL => ?_)
    have rwL := (rwA.out).below nL
    have y0 := (Lib.cell_of_heap rwL.h2 0).trans rfl
    have yf0 := Lib.frozen_of_heap rwL.h2 0
    have y1 := (Lib.cell_of_heap rwL.h2 1).trans rfl
    have yf1 := Lib.frozen_of_heap rwL.h2 1
    have y2 := (Lib.cell_of_heap rwL.h2 2).trans rfl
    have yf2 := Lib.frozen_of_heap rwL.h2 2
    have fin := Lib.hid (hR.out _ (set3k (q := w.heap.size + 2) (by omega) (nA.out.trans (nL.mono nA.out.size)) (.int .i64 (6)) (.int .i64 (h.at_)) (.int .i64 (M : Nat))))
    rw [hw] at fin
    clear hR rwL nL
    go_wp2_with fail
    refine bodyPost_ret ?_ rfl fin.out
    simp [results, Tryz.results104, go_sem, y0, y1, y2]

  · rw [if_neg c1] at hw
    by_cases c2 : 512 < M
    · rw [if_pos c2] at hw
      go_wp2_with fail
      refine with15_calls 0 0 (M : Nat) (8) (h.at_) _ _ (Lib.hid fun wL nL => ?_)
      have rwL := (rwA.out).below nL
      have y0 := (Lib.cell_of_heap rwL.h2 0).trans rfl
      have yf0 := Lib.frozen_of_heap rwL.h2 0
      have y1 := (Lib.cell_of_heap rwL.h2 1).trans rfl
      have yf1 := Lib.frozen_of_heap rwL.h2 1
      have y2 := (Lib.cell_of_heap rwL.h2 2).trans rfl
      have yf2 := Lib.frozen_of_heap rwL.h2 2
      have fin := Lib.hid (hR.out _ (set3k (q := w.heap.size + 2) (by omega) (nA.out.trans (nL.mono nA.out.size)) (.int .i64 (8)) (.int .i64 (h.at_)) (.int .i64 (M : Nat))))
      rw [hw] at fin
      clear hR rwL nL
      go_wp2_with fail
      refine bodyPost_ret ?_ rfl fin.out
      simp [results, Tryz.results104, go_sem, y0, y1, y2]

    · rw [if_neg c2] at hw
      by_cases c3 : h.kind < 1
      · rw [if_pos (.inl c3)] at hw
        go_wp2_with fail
        refine with15_calls 0 0 (M : Nat) (14) (h.at_) _ _ (Lib.hid fun wL nL => ?_)
        have rwL := (rwA.out).below nL
        have y0 := (Lib.cell_of_heap rwL.h2 0).trans rfl
        have yf0 := Lib.frozen_of_heap rwL.h2 0
        have y1 := (Lib.cell_of_heap rwL.h2 1).trans rfl
        have yf1 := Lib.frozen_of_heap rwL.h2 1
        have y2 := (Lib.cell_of_heap rwL.h2 2).trans rfl
        have yf2 := Lib.frozen_of_heap rwL.h2 2
        have fin := Lib.hid (hR.out _ (set3k (q := w.heap.size + 2) (by omega) (nA.out.trans (nL.mono nA.out.size)) (.int .i64 (14)) (.int .i64 (h.at_)) (.int .i64 (M : Nat))))
        rw [hw] at fin
        clear hR rwL nL
        go_wp2_with fail
        refine bodyPost_ret ?_ rfl fin.out
        simp [results, Tryz.results104, go_sem, y0, y1, y2]

      · by_cases c4 : 9 < h.kind
        · rw [if_pos (.inr c4)] at hw
          go_wp2_with fail
          refine with15_calls 0 0 (M : Nat) (14) (h.at_) _ _ (Lib.hid fun wL nL => ?_)
          have rwL := (rwA.out).below nL
          have y0 := (Lib.cell_of_heap rwL.h2 0).trans rfl
          have yf0 := Lib.frozen_of_heap rwL.h2 0
          have y1 := (Lib.cell_of_heap rwL.h2 1).trans rfl
          have yf1 := Lib.frozen_of_heap rwL.h2 1
          have y2 := (Lib.cell_of_heap rwL.h2 2).trans rfl
          have yf2 := Lib.frozen_of_heap rwL.h2 2
          have fin := Lib.hid (hR.out _ (set3k (q := w.heap.size + 2) (by omega) (nA.out.trans (nL.mono nA.out.size)) (.int .i64 (14)) (.int .i64 (h.at_)) (.int .i64 (M : Nat))))
          rw [hw] at fin
          clear hR rwL nL
          go_wp2_with fail
          refine bodyPost_ret ?_ rfl fin.out
          simp [results, Tryz.results104, go_sem, y0, y1, y2]

        · have ho : ownB h f = false := by
            rcases hx.out with q | q | q | q | q
            · exact absurd q c1
            · exact absurd q (by have := hM.out; omega)
            · exact absurd q c3
            · exact absurd q c4
            · exact q
          rw [if_neg (by omega), if_pos ho] at hw
          replace ho := Lib.hid ho
          have r0 := rwA.out.h1.range
          have cO := Lib.hid fun R hR => own15_calls f h (.slice An h.names.length cn) (.slice Ap f.len cp) WA gh.out.2.2.2.2.2.2.2.2 hfl hga.out (hyw.out.below nA.out) R hR
          rw [ho.out] at cO
          go_wp2_with (refine wpList_load_g (by rfl) 30 _ rfl (w.heap.size + 1) 0 rfl [.int .i64 h.kind, .int .i64 h.at_, .int .i64 h.lo, .int .i64 h.hi, .int .i64 h.most, .slice An h.names.length cn, .slice Ap f.len cp, .string h.name, .int .i64 h.nat] _ r0 Tryz.underlying30 rfl (by kernel_rfl) ?_; go_simp)
          refine cO.out _ (Lib.hid fun wB nB => ?_)
          have rwB := Lib.hid (rwA.out.below nB)
          have nb := Lib.hid (nA.out.trans (nB.mono nA.out.size))
          clear r0 cO k0 k1 k2 t0 t1 rwA nA nB
          have k0 := (Lib.cell_of_heap rwB.out.h0 0).trans rfl
          have k1 := (Lib.cell_of_heap rwB.out.h0 1).trans rfl
          have k2 := (Lib.cell_of_heap rwB.out.h0 2).trans rfl
          have t1 := rwB.out.h1.k1
          go_wp2_with fail
          refine with15_calls 0 0 (M : Nat) (19) (h.at_) _ _ (Lib.hid fun wL nL => ?_)
          have rwL := (rwB.out).below nL
          have y0 := (Lib.cell_of_heap rwL.h2 0).trans rfl
          have yf0 := Lib.frozen_of_heap rwL.h2 0
          have y1 := (Lib.cell_of_heap rwL.h2 1).trans rfl
          have yf1 := Lib.frozen_of_heap rwL.h2 1
          have y2 := (Lib.cell_of_heap rwL.h2 2).trans rfl
          have yf2 := Lib.frozen_of_heap rwL.h2 2
          have fin := Lib.hid (hR.out _ (set3k (q := w.heap.size + 2) (by omega) (nb.out.trans (nL.mono nb.out.size)) (.int .i64 (19)) (.int .i64 (h.at_)) (.int .i64 (M : Nat))))
          rw [hw] at fin
          clear hR rwL nL
          go_wp2_with fail
          refine bodyPost_ret ?_ rfl fin.out
          simp [results, Tryz.results104, go_sem, y0, y1, y2]
end Go.Proofs.YtbochlbgjnmgjaaGreat.Kin
