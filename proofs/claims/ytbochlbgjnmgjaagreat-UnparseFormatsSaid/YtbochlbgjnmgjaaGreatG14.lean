import Derived.Test.YtbochlbgjnmgjaaGreatG4
import Derived.Test.YtbochlbgjnmgjaaGreatMix
/- Layer 15: the reference's coarse and with. -/
set_option maxRecDepth 100000
set_option linter.unusedVariables false
namespace Go.Proofs.YtbochlbgjnmgjaaGreat.Kin
open Go.RowKit Go.Lib Go.Proofs.YtbochlbgjnmgjaaGreat.Utf Go.Proofs.YtbochlbgjnmgjaaGreat.Nam Go.Proofs.YtbochlbgjnmgjaaGreat.Lat

theorem set2k {b q : Nat} {w W : World} (hq : b ≤ q) (n : Below b w W) (a0 a1 : Value) : Below b w ((W.setCell ⟨q, 0, none⟩ a0).setCell ⟨q, 1, none⟩ a1) := (n.setCell (p := ⟨q, 0, none⟩) hq a0).setCell (p := ⟨q, 1, none⟩) hq a1
set_option maxRecDepth 100000 in
set_option maxHeartbeats 4000000 in
theorem coarse15_calls (p : PH) (x : TH) (lv cv nx px : Value) (w : World) (hcl : RdW w cv p.cl) (hlv : RdW w lv p.label) (hnx : ∃ A n k, nx = .slice A n k) (hpx : ∃ A n k, px = .slice A n k) (hg : ∀ y ∈ p.cl, GoodW y) (R : Ending → World → Prop)
    (hR : Hid (∀ w', Below w.heap.size w w' → R (.returned (.agg #[.int .i64 (coarseS p).1, .int .i64 (coarseS p).2])) w')) : Calls Tryz.prog 213 #[ptV p lv cv x nx px] w R := by
  obtain ⟨A1, n1, rfl, -, -⟩ := hlv.op
  obtain ⟨A2, n2, rfl, -, -⟩ := hcl.op
  obtain ⟨A3, n3, k3, rfl⟩ := hnx
  obtain ⟨A4, n4, k4, rfl⟩ := hpx
  have b1 := (Below.refl w.heap.size w).alloc (Nat.le_refl _) (.cells (ptL p (.slice A1 p.label.length n1) (.slice A2 p.cl.length n2) x (.slice A3 n3 k3) (.slice A4 n4 k4)).toArray 75)
  have b2 := b1.alloc b1.size (.cells #[.int .i64 0, .int .i64 0] 35)
  have b3 := b2.alloc b2.size (.cells #[.int .i64 p.ck, .int .i64 p.cn, .int .i64 p.cat, .slice A2 p.cl.length n2] 73)
  have z1 : (w.alloc (.cells (ptL p (.slice A1 p.label.length n1) (.slice A2 p.cl.length n2) x (.slice A3 n3 k3) (.slice A4 n4 k4)).toArray 75)).heap.size = w.heap.size + 1 := by simp
  have z2 : ((w.alloc (.cells (ptL p (.slice A1 p.label.length n1) (.slice A2 p.cl.length n2) x (.slice A3 n3 k3) (.slice A4 n4 k4)).toArray 75)).alloc (.cells #[.int .i64 0, .int .i64 0] 35)).heap.size = w.heap.size + 2 := by simp
  have z3 : (((w.alloc (.cells (ptL p (.slice A1 p.label.length n1) (.slice A2 p.cl.length n2) x (.slice A3 n3 k3) (.slice A4 n4 k4)).toArray 75)).alloc (.cells #[.int .i64 0, .int .i64 0] 35)).alloc (.cells #[.int .i64 p.ck, .int .i64 p.cn, .int .i64 p.cat, .slice A2 p.cl.length n2] 73)).heap.size = w.heap.size + 3 := by simp
  have g0 := (((Below.refl _ _).alloc (Nat.le_refl _) (.cells #[.int .i64 p.ck, .int .i64 p.cn, .int .i64 p.cat, .slice A2 p.cl.length n2] 73)).block w.heap.size (by omega)).trans ((((Below.refl _ _).alloc (Nat.le_refl _) (.cells #[.int .i64 0, .int .i64 0] 35)).block w.heap.size (by omega)).trans (heap_alloc_new w (.cells (ptL p (.slice A1 p.label.length n1) (.slice A2 p.cl.length n2) x (.slice A3 n3 k3) (.slice A4 n4 k4)).toArray 75)))
  have g1 := (((Below.refl _ _).alloc (Nat.le_refl _) (.cells #[.int .i64 p.ck, .int .i64 p.cn, .int .i64 p.cat, .slice A2 p.cl.length n2] 73)).block (w.heap.size + 1) (by omega)).trans (z1 ▸ heap_alloc_new (w.alloc (.cells (ptL p (.slice A1 p.label.length n1) (.slice A2 p.cl.length n2) x (.slice A3 n3 k3) (.slice A4 n4 k4)).toArray 75)) (.cells #[.int .i64 0, .int .i64 0] 35))
  have g2 := z2 ▸ heap_alloc_new ((w.alloc (.cells (ptL p (.slice A1 p.label.length n1) (.slice A2 p.cl.length n2) x (.slice A3 n3 k3) (.slice A4 n4 k4)).toArray 75)).alloc (.cells #[.int .i64 0, .int .i64 0] 35)) (.cells #[.int .i64 p.ck, .int .i64 p.cn, .int .i64 p.cat, .slice A2 p.cl.length n2] 73)
  have cL := Lib.hid fun (W : World) (b : Below w.heap.size w W) R hR => label15_calls p.cl hg (.slice A2 p.cl.length n2) W (hcl.below b) R hR
  go_enter Tryz.func213, Tryz.ntmps213
  go_upto_region 2 with fail
  clear z1 z2 z3 b1 b2
  generalize ((w.alloc (.cells (ptL p (.slice A1 p.label.length n1) (.slice A2 p.cl.length n2) x (.slice A3 n3 k3) (.slice A4 n4 k4)).toArray 75)).alloc (.cells #[.int .i64 0, .int .i64 0] 35)).alloc (.cells #[.int .i64 p.ck, .int .i64 p.cn, .int .i64 p.cat, .slice A2 p.cl.length n2] 73) = W3 at *
  have a1 := (Lib.cell_of_heap g0 1).trans rfl
  have m0 := (Lib.cell_of_heap g1 0).trans rfl
  have m1 := (Lib.cell_of_heap g1 1).trans rfl
  have f0 := Lib.frozen_of_heap g1 0
  have f1 := Lib.frozen_of_heap g1 1
  have c0 := (Lib.cell_of_heap g2 0).trans rfl
  have c1 := (Lib.cell_of_heap g2 1).trans rfl
  have c2 := (Lib.cell_of_heap g2 2).trans rfl
  have c3 := (Lib.cell_of_heap g2 3).trans rfl
  have hB1 := (Array.getElem?_eq_some_iff.1 g1).1
  clear g0 g1 g2
  by_cases h0 : p.ck = 0
  · rw [h0] at c0
    by_cases h1 : p.cn = 0
    · by_cases h2 : p.cl = []
      · rw [h1] at c1
        have hl : p.cl.length = 0 := by rw [h2]; rfl
        have ql : ((p.cl.length : Int) != 0) = false := by simp [hl]
        have hq : coarseS p = (0, 0) := by
          unfold coarseS
          rw [if_pos h0, if_neg (by rintro (q | q); exact q h1; exact q h2)]
        have fin := Lib.hid (hR.out _ (set2k (q := w.heap.size + 1) (Nat.le_succ _) b3 (.int .i64 (0)) (.int .i64 (0))))
        rw [hq] at fin
        clear hR b3 cL hq
        go_wp2_with fail
        refine bodyPost_ret ?_ rfl fin.out
        simp [results, Tryz.results213, go_sem, m0, m1]
      · rw [h1] at c1
        have ql : ((p.cl.length : Int) != 0) = true := by simpa using h2
        have hq : coarseS p = (19, p.at_) := by
          unfold coarseS
          rw [if_pos h0, if_pos (.inr h2)]
        have fin := Lib.hid (hR.out _ (set2k (q := w.heap.size + 1) (Nat.le_succ _) b3 (.int .i64 (19)) (.int .i64 (p.at_))))
        rw [hq] at fin
        clear hR b3 cL hq
        go_wp2_with fail
        refine bodyPost_ret ?_ rfl fin.out
        simp [results, Tryz.results213, go_sem, m0, m1]
    · have q1 : (p.cn != 0) = true := by simpa using h1
      have hq : coarseS p = (19, p.at_) := by
        unfold coarseS
        rw [if_pos h0, if_pos (.inl h1)]
      have fin := Lib.hid (hR.out _ (set2k (q := w.heap.size + 1) (Nat.le_succ _) b3 (.int .i64 (19)) (.int .i64 (p.at_))))
      rw [hq] at fin
      clear hR b3 cL hq
      go_wp2_with fail
      refine bodyPost_ret ?_ rfl fin.out
      simp [results, Tryz.results213, go_sem, m0, m1]
  · have q0 : (p.ck == 0) = false := by simpa using h0
    by_cases h1 : p.ck < 0
    · skip
      have hq : coarseS p = (14, p.cat) := by
        unfold coarseS
        rw [if_neg h0, if_pos (.inl h1)]
      have fin := Lib.hid (hR.out _ (set2k (q := w.heap.size + 1) (Nat.le_succ _) b3 (.int .i64 (14)) (.int .i64 (p.cat))))
      rw [hq] at fin
      clear hR b3 cL hq
      go_wp2_with fail
      refine bodyPost_ret ?_ rfl fin.out
      simp [results, Tryz.results213, go_sem, m0, m1]
    · by_cases h2 : 3 < p.ck
      · skip
        have hq : coarseS p = (14, p.cat) := by
          unfold coarseS
          rw [if_neg h0, if_pos (.inr h2)]
        have fin := Lib.hid (hR.out _ (set2k (q := w.heap.size + 1) (Nat.le_succ _) b3 (.int .i64 (14)) (.int .i64 (p.cat))))
        rw [hq] at fin
        clear hR b3 cL hq
        go_wp2_with fail
        refine bodyPost_ret ?_ rfl fin.out
        simp [results, Tryz.results213, go_sem, m0, m1]
      · obtain h3 | h3 | h3 : p.ck = 1 ∨ p.ck = 2 ∨ p.ck = 3 := by omega
        · rw [h3] at c0
          clear q0
          by_cases h4 : p.cn < 1
          · skip
            have hq : coarseS p = (20, p.cat) := by
              unfold coarseS
              rw [if_neg h0, if_neg (by rintro (q | q); exact h1 q; exact h2 q), if_pos (.inl ⟨h3, h4⟩)]
            have fin := Lib.hid (hR.out _ (set2k (q := w.heap.size + 1) (Nat.le_succ _) b3 (.int .i64 (20)) (.int .i64 (p.cat))))
            rw [hq] at fin
            clear hR b3 cL hq
            go_wp2_with fail
            refine bodyPost_ret ?_ rfl fin.out
            simp [results, Tryz.results213, go_sem, m0, m1]
          · skip
            have hq : coarseS p = labelS p.cl := by
              unfold coarseS
              rw [if_neg h0, if_neg (by rintro (q | q); exact h1 q; exact h2 q), if_neg (by rintro (q | q | q) <;> omega)]
            rw [hq] at hR
            have cL1 := Lib.hid fun R hR => cL.out W3 b3 R hR
            clear hq cL
            go_wp2_with fail
            refine cL1.out _ (Lib.hid fun w4 n4' => ?_)
            have m0' := (n4'.cell (p := ⟨w.heap.size + 1, 0, none⟩) hB1).trans m0
            have m1' := (n4'.cell (p := ⟨w.heap.size + 1, 1, none⟩) hB1).trans m1
            have f0' := (n4'.frozen (p := ⟨w.heap.size + 1, 0, none⟩) hB1).trans f0
            have f1' := (n4'.frozen (p := ⟨w.heap.size + 1, 1, none⟩) hB1).trans f1
            have fin := Lib.hid (hR.out _ (set2k (q := w.heap.size + 1) (Nat.le_succ _) (b3.trans (n4'.mono b3.size)) (.int .i64 (labelS p.cl).1) (.int .i64 (labelS p.cl).2)))
            clear hR b3 cL1 n4' m0 m1 f0 f1
            go_wp2_with fail
            refine bodyPost_ret ?_ rfl fin.out
            simp [results, Tryz.results213, go_sem, m0', m1']
        · rw [h3] at c0
          clear q0
          by_cases h4 : p.cn < 0
          · skip
            have hq : coarseS p = (20, p.cat) := by
              unfold coarseS
              rw [if_neg h0, if_neg (by rintro (q | q); exact h1 q; exact h2 q), if_pos (.inr (.inl ⟨h3, .inl h4⟩))]
            have fin := Lib.hid (hR.out _ (set2k (q := w.heap.size + 1) (Nat.le_succ _) b3 (.int .i64 (20)) (.int .i64 (p.cat))))
            rw [hq] at fin
            clear hR b3 cL hq
            go_wp2_with fail
            refine bodyPost_ret ?_ rfl fin.out
            simp [results, Tryz.results213, go_sem, m0, m1]
          · by_cases h5 : 4096 < p.cn
            · skip
              have hq : coarseS p = (20, p.cat) := by
                unfold coarseS
                rw [if_neg h0, if_neg (by rintro (q | q); exact h1 q; exact h2 q), if_pos (.inr (.inl ⟨h3, .inr h5⟩))]
              have fin := Lib.hid (hR.out _ (set2k (q := w.heap.size + 1) (Nat.le_succ _) b3 (.int .i64 (20)) (.int .i64 (p.cat))))
              rw [hq] at fin
              clear hR b3 cL hq
              go_wp2_with fail
              refine bodyPost_ret ?_ rfl fin.out
              simp [results, Tryz.results213, go_sem, m0, m1]
            · skip
              have hq : coarseS p = labelS p.cl := by
                unfold coarseS
                rw [if_neg h0, if_neg (by rintro (q | q); exact h1 q; exact h2 q), if_neg (by rintro (q | q | q) <;> omega)]
              rw [hq] at hR
              have cL1 := Lib.hid fun R hR => cL.out W3 b3 R hR
              clear hq cL
              go_wp2_with fail
              refine cL1.out _ (Lib.hid fun w4 n4' => ?_)
              have m0' := (n4'.cell (p := ⟨w.heap.size + 1, 0, none⟩) hB1).trans m0
              have m1' := (n4'.cell (p := ⟨w.heap.size + 1, 1, none⟩) hB1).trans m1
              have f0' := (n4'.frozen (p := ⟨w.heap.size + 1, 0, none⟩) hB1).trans f0
              have f1' := (n4'.frozen (p := ⟨w.heap.size + 1, 1, none⟩) hB1).trans f1
              have fin := Lib.hid (hR.out _ (set2k (q := w.heap.size + 1) (Nat.le_succ _) (b3.trans (n4'.mono b3.size)) (.int .i64 (labelS p.cl).1) (.int .i64 (labelS p.cl).2)))
              clear hR b3 cL1 n4' m0 m1 f0 f1
              go_wp2_with fail
              refine bodyPost_ret ?_ rfl fin.out
              simp [results, Tryz.results213, go_sem, m0', m1']
        · rw [h3] at c0
          clear q0
          by_cases h4 : p.cn = 0
          · rw [h4] at c1
            have hq : coarseS p = labelS p.cl := by
              unfold coarseS
              rw [if_neg h0, if_neg (by rintro (q | q); exact h1 q; exact h2 q), if_neg (by rintro (q | q | q) <;> omega)]
            rw [hq] at hR
            have cL1 := Lib.hid fun R hR => cL.out W3 b3 R hR
            clear hq cL
            go_wp2_with fail
            refine cL1.out _ (Lib.hid fun w4 n4' => ?_)
            have m0' := (n4'.cell (p := ⟨w.heap.size + 1, 0, none⟩) hB1).trans m0
            have m1' := (n4'.cell (p := ⟨w.heap.size + 1, 1, none⟩) hB1).trans m1
            have f0' := (n4'.frozen (p := ⟨w.heap.size + 1, 0, none⟩) hB1).trans f0
            have f1' := (n4'.frozen (p := ⟨w.heap.size + 1, 1, none⟩) hB1).trans f1
            have fin := Lib.hid (hR.out _ (set2k (q := w.heap.size + 1) (Nat.le_succ _) (b3.trans (n4'.mono b3.size)) (.int .i64 (labelS p.cl).1) (.int .i64 (labelS p.cl).2)))
            clear hR b3 cL1 n4' m0 m1 f0 f1
            go_wp2_with fail
            refine bodyPost_ret ?_ rfl fin.out
            simp [results, Tryz.results213, go_sem, m0', m1']
          · have q4 : (p.cn != 0) = true := by simpa using h4
            have hq : coarseS p = (20, p.cat) := by
              unfold coarseS
              rw [if_neg h0, if_neg (by rintro (q | q); exact h1 q; exact h2 q), if_pos (.inr (.inr ⟨h3, h4⟩))]
            have fin := Lib.hid (hR.out _ (set2k (q := w.heap.size + 1) (Nat.le_succ _) b3 (.int .i64 (20)) (.int .i64 (p.cat))))
            rw [hq] at fin
            clear hR b3 cL hq
            go_wp2_with fail
            refine bodyPost_ret ?_ rfl fin.out
            simp [results, Tryz.results213, go_sem, m0, m1]
/-- What is wrong, and how many, as a value. -/
abbrev wV (e z m : Int) : Value := .agg #[.int .i64 e, .int .i64 z, .int .i64 m]
set_option maxRecDepth 100000 in
set_option maxHeartbeats 1000000 in
theorem with15_calls (e z m e' z' : Int) (w : World) (R : Ending → World → Prop) (hR : Hid (∀ w', Below w.heap.size w w' → R (.returned (wV e' z' m)) w')) : Calls Tryz.prog 172 #[wV e z m, .int .i64 e', .int .i64 z'] w R := by
  have b1 := (Below.refl w.heap.size w).alloc (Nat.le_refl _) (.cells #[.int .i64 e, .int .i64 z, .int .i64 m] 151)
  have b2 := b1.alloc b1.size (.cells #[.int .i64 e', .int .i64 z', .int .i64 m] 151)
  have hz : (w.alloc (.cells #[.int .i64 e, .int .i64 z, .int .i64 m] 151)).heap.size = w.heap.size + 1 := by simp
  have hN := heap_alloc_new (w.alloc (.cells #[.int .i64 e, .int .i64 z, .int .i64 m] 151)) (.cells #[.int .i64 e', .int .i64 z', .int .i64 m] 151)
  rw [hz] at hN
  have n0 := (Lib.cell_of_heap hN 0).trans rfl
  have n1 := (Lib.cell_of_heap hN 1).trans rfl
  have n2 := (Lib.cell_of_heap hN 2).trans rfl
  have fin := Lib.hid (hR.out _ b2)
  clear hR b1 b2 hN hz
  go_enter Tryz.func172, Tryz.ntmps172
  go_wp2_with fail
  refine bodyPost_ret ?_ rfl fin.out
  simp [results, Tryz.results172, go_sem, n0, n1, n2]
end Go.Proofs.YtbochlbgjnmgjaaGreat.Kin

/- Layer 15: the reference's parts. -/
set_option maxRecDepth 100000
set_option linter.unusedVariables false
namespace Go.Proofs.YtbochlbgjnmgjaaGreat.Kin
open Go.RowKit Go.Lib Go.Proofs.YtbochlbgjnmgjaaGreat.Utf Go.Proofs.YtbochlbgjnmgjaaGreat.Nam Go.Proofs.YtbochlbgjnmgjaaGreat.Lat

/-- The contract of Wrong at a tree of these parts. -/
def WrongQ (f : Ft) : Prop := ∀ (h : TH) (nv pv : Value) (m d : Nat) (w : World), m ≤ 512 → d ≤ 25 → GoodH h → f.len ≤ maxLen → f.All GoodH GoodL → RdY w h f nv pv → ∀ R : Ending → World → Prop,
  Hid (∀ w', Below w.heap.size w w' → R (.returned (wV (wrB h f (wrF f) d m).1 (wrB h f (wrF f) d m).2.1 (wrB h f (wrF f) d m).2.2)) w') → Calls Tryz.prog 104 #[wV 0 0 m, tyV h nv pv, .int .i64 d] w R
/-- The boxes of parts. -/
structure RW (V : World) (B : Nat) (m : Nat) (h : TH) (nv pv : Value) : Prop where
  h0 : V.heap[B]? = some (.cells #[.int .i64 0, .int .i64 0, .int .i64 m] 151)
  h1 : TB V (B + 1) h nv pv
  h2 : V.heap[B + 2]? = some (.cells #[.int .i64 0, .int .i64 0, .int .i64 0] 151)
theorem RW.below {V V' : World} {B m : Nat} {h : TH} {nv pv : Value} (q : RW V B m h nv pv) (b : Below V.heap.size V V') : RW V' B m h nv pv := ⟨(b.block _ (blt_of q.h0)).trans q.h0, q.h1.below b, (b.block _ (blt_of q.h2)).trans q.h2⟩
theorem set3k {b q : Nat} {w W : World} (hq : b ≤ q) (n : Below b w W) (a0 a1 a2 : Value) : Below b w (((W.setCell ⟨q, 0, none⟩ a0).setCell ⟨q, 1, none⟩ a1).setCell ⟨q, 2, none⟩ a2) := ((n.setCell (p := ⟨q, 0, none⟩) hq a0).setCell (p := ⟨q, 1, none⟩) hq a1).setCell (p := ⟨q, 2, none⟩) hq a2
end Go.Proofs.YtbochlbgjnmgjaaGreat.Kin

/- Mixed regions that hold a writing call or store: the class of worlds in which all stands as it stood but for two blocks. -/
set_option maxRecDepth 100000
set_option linter.unusedVariables false
namespace Go.Proofs.YtbochlbgjnmgjaaGreat
open Go.RowKit Go.Lib

/-- A world in which all of W stands as it stood, but for the blocks p and q. -/
structure GW (W : World) (p q : Nat) where
  w : World
  s : W.heap.size ≤ w.heap.size
  b : ∀ k, k < W.heap.size → k ≠ p → k ≠ q → w.heap[k]? = W.heap[k]?
theorem GW.cell {W : World} {p q : Nat} (x : GW W p q) {g o : Nat} (h : g < W.heap.size) (h1 : g ≠ p) (h2 : g ≠ q) {u : Value} (hc : W.cell? ⟨g, o, none⟩ = some u) : x.w.cell? ⟨g, o, none⟩ = some u := (World.cell?_of_block (a := ⟨g, o, none⟩) (x.b g h h1 h2)).trans hc
theorem wp_region_mixG {P : Program} {id : Nat} {Q : Exit → Act → World → Prop} {a : Act} {w : World} {l : List Oper} (p q : Nat) (segs : List (List Nat × Nat)) (last : List Nat) (hm : P.follows .mixedOrders = true) (hs : Region.noSelect l.toArray = true)
    (hB : mixB .any l.toArray segs last (Array.replicate l.toArray.size false) = true) (hN : mixN segs last = l.toArray.size) (hQ : ∀ c a d v w, Q (.panic c) (a.put d v) w → Q (.panic c) a w)
    (h : mixP P l.toArray (fun w' => ∃ x : GW w p q, w' = x.w) Q segs last a (w.drewN 1)) : (Code.region id l.toArray true).wp P Q a w :=
  wp_region_any hm (any_of_C (C := fun w' => ∃ x : GW w p q, w' = x.w) _ _ _ _ (by
    have := mix_any hs hQ segs last _ a _ (C := fun w' => ∃ x : GW w p q, w' = x.w) ⟨⟨w.drewN 1, Nat.le_refl _, fun k hk _ _ => rfl⟩, rfl⟩ hB h
    rw [hN] at this
    exact this))
theorem GW.set {W W' : World} {p q o : Nat} (h : ∃ x : GW W p q, W' = x.w) (a : Value) : ∃ x : GW W p q, W'.setCell ⟨q, o, none⟩ a = x.w := by
  obtain ⟨⟨W', s, bl⟩, rfl⟩ := h
  exact ⟨⟨_, Nat.le_trans s ((Below.refl q W').setCell (p := ⟨q, o, none⟩) (Nat.le_refl _) a).size, fun k hk h1 h2 => (Below.heap_setCell _ ⟨q, o, none⟩ a k h2).trans (bl k hk h1 h2)⟩, rfl⟩
theorem GW.bl {W W' : World} {p q : Nat} (h : Below W.heap.size W W') : ∃ x : GW W p q, W' = x.w := ⟨⟨W', h.size, fun k hk _ _ => h.block k hk⟩, rfl⟩
end Go.Proofs.YtbochlbgjnmgjaaGreat
