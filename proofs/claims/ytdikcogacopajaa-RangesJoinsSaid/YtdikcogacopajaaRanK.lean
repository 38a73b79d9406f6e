/- Join. -/
import Derived.Test.YtdikcogacopajaaRanJ
set_option linter.unusedVariables false
namespace Go.Proofs.Ytdikcogacopajaa.Ran
open Go.RowKit Go.Lib

theorem RdN.len {w : World} {b : Nat} {v : Value} {l : List Rg} (h : RdN w b v l) : ∃ A c, v = .slice A l.length c := by
  rcases h.cases with ⟨rfl, rfl⟩ | ⟨g, o, c, rfl, -⟩ <;> exact ⟨_, _, rfl⟩
set_option maxRecDepth 100000 in
set_option maxHeartbeats 2000000 in
theorem concat_calls (xs ys : List Rg) (va vb : Value) (w : World) (b b1 b2 : Nat) (hb : b < w.heap.size) (c0 : w.cell? ⟨b, 0, none⟩ = some va) (c1 : w.cell? ⟨b, 1, none⟩ = some vb)
    (hx : RdN w b1 va xs) (hy : RdN w b2 vb ys) (hl : xs.length + ys.length ≤ 17592186044416) (R : Ending → World → Prop)
    (hR : Hid (∀ v' w', RdN w' w.heap.size v' (xs ++ ys) → Below w.heap.size w w' → R (.returned v') w')) :
    Calls Try.prog 27 #[.slice (some ⟨b, 0, none⟩) 2 2] w R := by
  obtain ⟨A, ca, rfl⟩ := hx.len
  obtain ⟨B, cb, rfl⟩ := hy.len
  have G := fun R hR => grow_calls (xs.length + ys.length) w hl R hR
  simp only [Int.natCast_add] at G
  replace G := Lib.hid G
  replace hx := Lib.hid hx
  replace hy := Lib.hid hy
  go_enter Try.func27, Try.ntmps27
  go_wp2_with fail
  refine wp_loop_rounds 3 ?_
  rw [rounds_succ]
  go_wp2_with fail
  rw [rounds_succ]
  go_wp2_with fail
  rw [rounds_succ]
  go_wp2_with fail
  refine G.out _ (fun v1 w1 o1 n1 => ?_)
  have s1 := n1.size
  have d0 := (n1.cell (p := ⟨b, 0, none⟩) hb).trans c0
  have d1 := (n1.cell (p := ⟨b, 1, none⟩) hb).trans c1
  have hx1 := Lib.hid (hx.out.below n1)
  have hy1 := Lib.hid (hy.out.below n1)
  have o1' : w1.ownsRow w.heap.size 36 2 v1 ([] : List Rg).length (flat []) := o1
  go_wp2_with fail
  refine wp_loop_rounds 3 ?_
  rw [rounds_succ]
  go_wp2_with (at_builtin; go_loud (refine appRg w1 rfl _ _ rfl w.heap.size b1 _ _ [] xs rfl o1' rfl hx1.out s1 (by simp; omega) ?_); intro v2 w2 o2 n2)
  have s2 := n2.size
  have n3 := n1.trans n2
  have d2 := (n3.cell (p := ⟨b, 1, none⟩) hb).trans c1
  have hy2 := Lib.hid (hy.out.below n3)
  rw [rounds_succ]
  go_wp2_with (at_builtin; go_loud (refine appRg w2 rfl _ _ rfl w.heap.size b2 _ _ ([] ++ xs) ys rfl o2 rfl hy2.out (Nat.le_trans s1 s2) (by simp; omega) ?_); intro v3 w3 o3 n4)
  rw [rounds_succ]
  go_wp2_with fail
  exact hR.out _ _ (RdN.of_own (by simpa using o3) (Nat.le_refl _)) (n3.trans n4)

set_option maxRecDepth 100000 in
set_option maxHeartbeats 2000000 in
theorem join_calls (xs ys : List Rg) (va vb : Value) (w : World) (b1 b2 : Nat) (hx : RdN w b1 va xs) (hy : RdN w b2 vb ys) (hl : xs.length + ys.length ≤ 17592186044416) (R : Ending → World → Prop)
    (hR : Hid (∀ v' l w', RdN w' w.heap.size v' l → Can 0 l → (∀ r, hasB l r = inB (xs ++ ys) r) → Below w.heap.size w w' → R (.returned (.agg #[v'])) w')) :
    Calls Try.prog 15 #[.agg #[va], .agg #[vb]] w R := by
  obtain ⟨A, ca, rfl⟩ := hx.len
  obtain ⟨B, cb, rfl⟩ := hy.len
  have hB0 : Below w.heap.size w ((((w.alloc (.cells #[.slice A xs.length ca] 25)).alloc (.cells #[.slice B ys.length cb] 25)).alloc (.cells #[.slice none 0 0] 25)).alloc (.cells #[.slice A xs.length ca, .slice B ys.length cb] 22)) := ((((Below.refl _ _).alloc (Nat.le_refl _) _).alloc (by simp) _).alloc (by simp; omega) _).alloc (by simp; omega) _
  have q0 : ((((w.alloc (.cells #[.slice A xs.length ca] 25)).alloc (.cells #[.slice B ys.length cb] 25)).alloc (.cells #[.slice none 0 0] 25)).alloc (.cells #[.slice A xs.length ca, .slice B ys.length cb] 22)).cell? ⟨w.heap.size + 1 + 1 + 1, 0, none⟩ = some (.slice A xs.length ca) := by
    rw [show w.heap.size + 1 + 1 + 1 = (((w.alloc (.cells #[.slice A xs.length ca] 25)).alloc (.cells #[.slice B ys.length cb] 25)).alloc (.cells #[.slice none 0 0] 25)).heap.size by simp, World.cell?_alloc_new]; rfl
  have q1 : ((((w.alloc (.cells #[.slice A xs.length ca] 25)).alloc (.cells #[.slice B ys.length cb] 25)).alloc (.cells #[.slice none 0 0] 25)).alloc (.cells #[.slice A xs.length ca, .slice B ys.length cb] 22)).cell? ⟨w.heap.size + 1 + 1 + 1, 1, none⟩ = some (.slice B ys.length cb) := by
    rw [show w.heap.size + 1 + 1 + 1 = (((w.alloc (.cells #[.slice A xs.length ca] 25)).alloc (.cells #[.slice B ys.length cb] 25)).alloc (.cells #[.slice none 0 0] 25)).heap.size by simp, World.cell?_alloc_new]; rfl
  have n0 : Below (w.heap.size + 1 + 1 + 1) (((w.alloc (.cells #[.slice A xs.length ca] 25)).alloc (.cells #[.slice B ys.length cb] 25)).alloc (.cells #[.slice none 0 0] 25)) ((((w.alloc (.cells #[.slice A xs.length ca] 25)).alloc (.cells #[.slice B ys.length cb] 25)).alloc (.cells #[.slice none 0 0] 25)).alloc (.cells #[.slice A xs.length ca, .slice B ys.length cb] 22)) := (Below.refl _ _).alloc (by simp) _
  have k0 : ((((w.alloc (.cells #[.slice A xs.length ca] 25)).alloc (.cells #[.slice B ys.length cb] 25)).alloc (.cells #[.slice none 0 0] 25)).alloc (.cells #[.slice A xs.length ca, .slice B ys.length cb] 22)).cell? ⟨w.heap.size + 1 + 1, 0, none⟩ = some (.slice none 0 0) := by
    rw [n0.cell (p := ⟨w.heap.size + 1 + 1, 0, none⟩) (by simp), show w.heap.size + 1 + 1 = ((w.alloc (.cells #[.slice A xs.length ca] 25)).alloc (.cells #[.slice B ys.length cb] 25)).heap.size by simp, World.cell?_alloc_new]; rfl
  have k1 : ((((w.alloc (.cells #[.slice A xs.length ca] 25)).alloc (.cells #[.slice B ys.length cb] 25)).alloc (.cells #[.slice none 0 0] 25)).alloc (.cells #[.slice A xs.length ca, .slice B ys.length cb] 22)).frozen? ⟨w.heap.size + 1 + 1, 0, none⟩ = false := by
    rw [n0.frozen (p := ⟨w.heap.size + 1 + 1, 0, none⟩) (by simp), show w.heap.size + 1 + 1 = ((w.alloc (.cells #[.slice A xs.length ca] 25)).alloc (.cells #[.slice B ys.length cb] 25)).heap.size by simp]; exact frozen_new _ _ _ _
  have hz : ((((w.alloc (.cells #[.slice A xs.length ca] 25)).alloc (.cells #[.slice B ys.length cb] 25)).alloc (.cells #[.slice none 0 0] 25)).alloc (.cells #[.slice A xs.length ca, .slice B ys.length cb] 22)).heap.size = w.heap.size + 1 + 1 + 1 + 1 := by simp
  have hx2 := Lib.hid (hx.below hB0)
  have hy2 := Lib.hid (hy.below hB0)
  clear hx hy n0
  go_enter Try.func15, Try.ntmps15
  go_wp2_with fail
  generalize ((((w.alloc (.cells #[.slice A xs.length ca] 25)).alloc (.cells #[.slice B ys.length cb] 25)).alloc (.cells #[.slice none 0 0] 25)).alloc (.cells #[.slice A xs.length ca, .slice B ys.length cb] 22)) = W0 at *
  have hb0 : w.heap.size + 1 + 1 < W0.heap.size := by omega
  have hb1 : w.heap.size + 1 + 1 + 1 < W0.heap.size := by omega
  have hP : w.heap.size ≤ w.heap.size + 1 + 1 := by omega
  replace hz := Lib.hid hz
  replace hB0 := Lib.hid hB0
  refine concat_calls xs ys _ _ _ _ b1 b2 hb1 q0 q1 hx2.out hy2.out hl _ (fun v1 w1 r1 n1 => ?_)
  have s1 := n1.size
  obtain ⟨A1, c1, rfl⟩ := r1.len
  rw [List.length_append] at r1
  replace r1 := Lib.hid r1
  go_wp2_with fail
  refine new_calls (xs ++ ys) _ _ r1.out.1 (by rw [List.length_append]; exact hl) _ (fun v2 l w2 r2 cn hs n2 => ?_)
  have n3 := n1.trans (n2.mono s1)
  have f0 := (n3.cell (p := ⟨w.heap.size + 1 + 1, 0, none⟩) hb0).trans k0
  have f1 := (n3.frozen (p := ⟨w.heap.size + 1 + 1, 0, none⟩) hb0).trans k1
  have r3 := Lib.hid ((r2.setCell (p := ⟨w.heap.size + 1 + 1, 0, none⟩) (Nat.lt_of_lt_of_le hb0 s1) v2).mono (Nat.le_trans hP (Nat.le_of_lt (Nat.lt_of_lt_of_le hb0 s1))))
  obtain ⟨A2, c2, rfl⟩ := r2.len
  have n4 := Lib.hid ((hB0.out.trans (n3.mono hB0.out.size)).setCell (p := ⟨w.heap.size + 1 + 1, 0, none⟩) hP (.slice A2 l.length c2))
  clear n1 n2 n3 k0 k1 q0 q1 r2
  replace cn := Lib.hid cn
  replace hs := Lib.hid hs
  go_wp2_with fail
  exact bodyPost_ret (v := .agg #[.slice A2 l.length c2]) (by simp [results, Try.results15, go_sem, f0]) rfl (hR.out _ _ _ r3.out cn.out hs.out n4.out)
end Go.Proofs.Ytdikcogacopajaa.Ran
