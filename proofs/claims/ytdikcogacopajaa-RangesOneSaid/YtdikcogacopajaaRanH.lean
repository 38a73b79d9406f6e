/- rest and Less. -/
import Derived.Test.YtdikcogacopajaaRanG
set_option linter.unusedVariables false
namespace Go.Proofs.Ytdikcogacopajaa.Ran
open Go.RowKit Go.Lib

theorem drop_cons (xs : List Rg) (K : Nat) (h : K < xs.length) : xs.drop K = xs.getD K (0, 0) :: xs.drop (K + 1) := by
  rw [List.drop_eq_getElem_cons h]; simp [List.getD, List.getElem?_eq_getElem h]

/-- A box that was laid ahead of an append stands as it did. -/
theorem box_kept {W w3 : World} {o : Obj} {base : Nat} {e : TypeId} {size n : Nat} {v u : Value} {xs : List Value} {j : Nat} (hown : W.ownsRow base e size v n xs) (hg : (W.alloc o).grownBy w3 v.ownBlock)
    (h : (W.alloc o).cell? ⟨W.heap.size, j, none⟩ = some u) : w3.cell? ⟨W.heap.size, j, none⟩ = some u := by
  rw [World.cell?_of_block (a := ⟨W.heap.size, j, none⟩) (hg.block W.heap.size (by simp) (fun e => absurd (hown.lt _ e.symm).2 (by simp)))]
  exact h

set_option maxRecDepth 100000 in
set_option maxHeartbeats 4000000 in
theorem rest_calls (xs : List Rg) (v : Value) (w : World) (hx : RdR w v xs) (hc : Can 0 xs) (R : Ending → World → Prop)
    (hR : Hid (∀ v' w', RdN w' w.heap.size v' (restGo 0 xs) → Below w.heap.size w w' → R (.returned (.agg #[v'])) w')) :
    Calls Try.prog 28 #[.agg #[v]] w R := by
  obtain ⟨i0, hi, hz0, hz1, hz2⟩ := info_parts infoRg
  have hl := can_len0 hc
  replace hc := Lib.hid hc
  obtain ⟨A, ca, rfl, hlc, -⟩ := hx.open
  have hB0 : Below w.heap.size w ((w.alloc (.cells #[.slice A xs.length ca] 25)).alloc (.cells #[.slice none 0 0] 25)) :=
    ((Below.refl _ _).alloc (Nat.le_refl _) _).alloc (by simp) _
  have k0 : ((w.alloc (.cells #[.slice A xs.length ca] 25)).alloc (.cells #[.slice none 0 0] 25)).cell? ⟨w.heap.size + 1, 0, none⟩ = some (.slice none 0 0) := by
    rw [show w.heap.size + 1 = (w.alloc (.cells #[.slice A xs.length ca] 25)).heap.size by simp, World.cell?_alloc_new]; rfl
  have k1 : ((w.alloc (.cells #[.slice A xs.length ca] 25)).alloc (.cells #[.slice none 0 0] 25)).frozen? ⟨w.heap.size + 1, 0, none⟩ = false := by
    rw [show w.heap.size + 1 = (w.alloc (.cells #[.slice A xs.length ca] 25)).heap.size by simp]; exact frozen_new _ _ _ _
  have hz : ((w.alloc (.cells #[.slice A xs.length ca] 25)).alloc (.cells #[.slice none 0 0] 25)).heap.size = w.heap.size + 1 + 1 := by simp
  have hx2 := hx.below hB0
  have hr := Lib.hid hx2.open
  replace hx2 := Lib.hid hx2
  clear hx
  go_enter Try.func28, Try.ntmps28
  go_wp2_with fail
  generalize (w.alloc (.cells #[.slice A xs.length ca] 25)).alloc (.cells #[.slice none 0 0] 25) = W0 at *
  have hb0 : w.heap.size + 1 < W0.heap.size := by omega
  have hP : w.heap.size ≤ w.heap.size + 1 := by omega
  clear hz
  generalize w.heap.size + 1 = P at *
  replace hB0 := Lib.hid hB0
  go_loopg [3, 4, 10] xs.length (fun k l n i wr => ∃ (K : Nat) (N : Int) (vl : Value) (acc : List Rg), vl = l ∧ n = .int .i32 N ∧ i = .int .i64 K ∧ Below W0.heap.size W0 wr ∧ wr.ownsRow W0.heap.size 36 2 vl acc.length (flat acc) ∧ K + k = xs.length ∧ acc.length ≤ K ∧ 0 ≤ N ∧ N ≤ 1114112 ∧
    Hid (acc ++ restGo N (xs.drop K) = restGo 0 xs))
  case atStart => exact ⟨0, 0, _, [], rfl, rfl, rfl, Below.refl _ _, World.ownsRow_nil _ _ _ _, by omega, by simp, by omega, by omega, rfl⟩
  case round =>
    obtain ⟨K, N, vl, acc, rfl, rfl, rfl, hbel, hown, c1, c2, c3, c4, c5⟩ := hrel
    have hsz := hbel.size
    by_cases hK : K < xs.length
    · obtain ⟨k, rfl⟩ : ∃ k, gk = k + 1 := ⟨gk - 1, by omega⟩
      obtain ⟨A', c', e, -, hr'⟩ := hr.out
      obtain ⟨g, o, rfl, hg, hca⟩ := hr' (by omega)
      simp only [Value.slice.injEq] at e
      obtain ⟨rfl, -, -⟩ := e
      obtain ⟨h0, h1⟩ := hca K hK
      have e0 := (hbel.cell (p := ⟨g, o + K * 2, none⟩) hg).trans h0
      have e1 := (hbel.cell (p := ⟨g, o + K * 2 + 1, none⟩) hg).trans h1
      have hd := drop_cons xs K hK
      obtain ⟨b1, b2, b3⟩ := can_get hc.out hK
      clear h0 h1 hca hr'
      generalize xs.getD K (0, 0) = G at *
      obtain ⟨X, Y⟩ := G
      replace c5 := c5.out
      rw [hd, restGo] at c5
      simp only at e0 e1 b1 b2 b3 c5
      replace hd := Lib.hid hd
      by_cases p : N < X
      · rw [if_pos p] at c5
        replace c5 := Lib.hid c5
        go_wp2_with (at_builtin; go_loud (refine appK _ #[.int .i32 N, .int .i32 (X - 1)] 2 36 rfl _ _ 22 rfl W0.heap.size i0 (.agg #[.int .i32 0, .int .i32 0]) 8 Try.underlying22 hi hz0 hz1 hz2 rfl (by decide) rfl _ _ _ rfl (hown.alloc _) _ rfl (by first | rfl | simp) (by simp [Value.oneCell']) (by unfold maxLen; omega) (by omega) (hbel.alloc hsz (.cells #[.int .i32 X, .int .i32 Y] 36)).size ?_); intro v' w3 hown3 hg3 hb3; have z := box_kept hown hg3 (by rw [World.cell?_alloc_new]; rfl : (wr.alloc (.cells #[.int .i32 X, .int .i32 Y] 36)).cell? ⟨wr.heap.size, 1, none⟩ = some (.int .i32 Y)))
        go_roundg k
        case measure => omega
        case rel =>
          rw [show acc.length + 1 = (acc ++ [(N, X - 1)]).length by simp, flat_snoc] at hown3
          exact ⟨K + 1, Y + 1, v', acc ++ [(N, X - 1)], rfl, rfl, by go_num, (hbel.alloc hsz _).trans hb3, hown3, by omega, by simp; omega, by omega, by omega, by refine Lib.hid ?_; rw [← c5.out]; simp⟩
      · rw [if_neg p] at c5
        replace c5 := Lib.hid c5
        go_wp2_with fail
        go_roundg k
        case measure => omega
        case rel => exact ⟨K + 1, Y + 1, vl, acc, rfl, rfl, by go_num, hbel.alloc hsz _, hown.alloc _, by omega, by omega, by omega, by omega, c5.out⟩
    · have f0 := (hbel.cell (p := ⟨P, 0, none⟩) hb0).trans k0
      have f1 := (hbel.frozen (p := ⟨P, 0, none⟩) hb0).trans k1
      clear k0 k1
      have c6 := c5.out
      rw [List.drop_of_length_le (by omega), restGo] at c6
      clear c5
      by_cases p : N ≤ 1114111
      · rw [if_pos p] at c6
        replace c6 := Lib.hid c6
        go_wp2_with (at_builtin; go_loud (refine appK _ #[.int .i32 N, .int .i32 1114111] 2 36 rfl _ _ 22 rfl W0.heap.size i0 (.agg #[.int .i32 0, .int .i32 0]) 8 Try.underlying22 hi hz0 hz1 hz2 rfl (by decide) rfl _ _ _ rfl hown _ rfl rfl (by simp [Value.oneCell']) (by unfold maxLen; omega) (by omega) hsz ?_); intro v' w3 hown3 hg3 hb3; have f2 := (hb3.cell (p := ⟨P, 0, none⟩) hb0).trans f0; have f3 := (hb3.frozen (p := ⟨P, 0, none⟩) hb0).trans f1; obtain ⟨A2, n2, c2', rfl, -⟩ : ∃ A n c, v' = .slice A n c ∧ True := (by obtain ⟨A, n, c, h, -⟩ := RdAt.of_own hown3; exact ⟨A, n, c, h, trivial⟩))
        rw [show acc.length + 1 = (acc ++ [(N, 1114111)]).length by simp, flat_snoc] at hown3
        refine bodyPost_ret (v := .agg #[.slice A2 n2 c2']) (by simp [results, Try.results28, go_sem, f2]) rfl ?_
        refine hR.out _ _ (by rw [← c6.out]; exact RdN.of_own (ownsRow_setCell_below hown3 (a := ⟨P, 0, none⟩) hb0 _) hB0.out.size) ?_
        exact (hB0.out.trans ((hbel.trans hb3).mono hB0.out.size)).setCell (p := ⟨P, 0, none⟩) hP _
      · rw [if_neg p, List.append_nil] at c6
        replace c6 := Lib.hid c6
        obtain ⟨A2, n2, c2', rfl, -⟩ : ∃ A n c, vl = .slice A n c ∧ True := by
          obtain ⟨A, n, c, h, -⟩ := RdAt.of_own hown; exact ⟨A, n, c, h, trivial⟩
        go_wp2_with fail
        refine bodyPost_ret (v := .agg #[.slice A2 n2 c2']) (by simp [results, Try.results28, go_sem, f0]) rfl ?_
        refine hR.out _ _ (by rw [← c6.out]; exact RdN.of_own (ownsRow_setCell_below hown (a := ⟨P, 0, none⟩) hb0 _) hB0.out.size) ?_
        exact (hB0.out.trans (hbel.mono hB0.out.size)).setCell (p := ⟨P, 0, none⟩) hP _
end Go.Proofs.Ytdikcogacopajaa.Ran
