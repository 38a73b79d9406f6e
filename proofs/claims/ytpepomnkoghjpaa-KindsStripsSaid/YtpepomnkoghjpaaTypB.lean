/- Layer 15: the reference's words, still, Label. -/
import Derived.Test.YtpepomnkoghjpaaTypA
import Derived.Test.YtpepomnkoghjpaaCls
import Derived.Test.YtpepomnkoghjpaaNamA
set_option maxRecDepth 100000
set_option linter.unusedVariables false
namespace Go.Proofs.Ytpepomnkoghjpaa.Kin
open Go.RowKit Go.Lib Go.Proofs.Ytpepomnkoghjpaa.Utf Go.Proofs.Ytpepomnkoghjpaa.Nam Go.Proofs.Ytpepomnkoghjpaa.Lat

theorem sq_t {a b : ByteArray} (h : a = b) : (a.toList == b.toList) = true := by rw [h]; simp
theorem sq_f {a b : ByteArray} (h : a ≠ b) : (a.toList == b.toList) = false := by rw [bl_inj, decide_eq_false (fun e => h (bl_ext e))]
theorem nms_tail {a b : List Wr} (h : a.length = b.length) (i : Nat) (hi : i < a.length) : (nms (a.drop i) = nms (b.drop i)) ↔ ((wN a i).1 = (wN b i).1 ∧ nms (a.drop (i + 1)) = nms (b.drop (i + 1))) := by
  have ea : a.drop i = wN a i :: a.drop (i + 1) := by rw [wN_get hi]; exact List.drop_eq_getElem_cons hi
  have eb : b.drop i = wN b i :: b.drop (i + 1) := by rw [wN_get (by omega)]; exact List.drop_eq_getElem_cons (by omega)
  rw [ea, eb]
  simp [nms]
set_option maxRecDepth 100000 in
set_option maxHeartbeats 1000000 in
theorem words15_calls (a b : List Wr) (hm : a.length ≤ maxLen) (va vb : Value) (w : World) (ha : RdW w va a) (hb : RdW w vb b) (R : Ending → World → Prop) (hR : Hid (∀ w', Below w.heap.size w w' → R (.returned (.bool (sameW a b))) w')) : Calls Try.prog 28 #[va, vb] w R := by
  replace hm : a.length ≤ 9223372036854775807 := hm
  obtain ⟨A, ca, rfl, hca, hra⟩ := ha.op
  obtain ⟨B, cb, rfl, hcb, hrb⟩ := hb.op
  by_cases hl : a.length = b.length
  · have q1 : ((a.length : Int) != (b.length : Int)) = false := by simp [hl]
    have hs : sameW a b = decide (nms (a.drop 0) = nms (b.drop 0)) := rfl
    replace hra := Lib.hid hra
    replace hrb := Lib.hid hrb
    replace hl := Lib.hid hl
    clear ha hb
    go_enter Try.func28, Try.ntmps28
    go_wp2_with fail
    go_loopg [5] a.length (fun g i wr => ∃ K : Nat, i = .int .i64 K ∧ K + g = a.length ∧ Hid (Below w.heap.size w wr) ∧ sameW a b = decide (nms (a.drop K) = nms (b.drop K)))
    case atStart => exact ⟨0, rfl, by omega, Lib.hid (Below.refl _ _), hs⟩
    case round =>
      obtain ⟨K, rfl, e1, nb, e2⟩ := hrel
      by_cases hK : K < a.length
      · have hK2 : K < b.length := by have := hl.out; omega
        obtain ⟨ga, oa, rfl, hga, ca⟩ := hra.out (by omega)
        obtain ⟨gb, ob, rfl, hgb, cb⟩ := hrb.out (by omega)
        have x0 := (nb.out.cell (p := ⟨ga, oa + K * 2, none⟩) hga).trans (ca K hK).1
        have y0 := (nb.out.cell (p := ⟨gb, ob + K * 2, none⟩) hgb).trans (cb K hK2).1
        have i0 : (0 : Int) ≤ (K : Int) := by omega
        have i1 : (K : Int) < (a.length : Int) := by omega
        have i2 : (K : Int) < (b.length : Int) := by omega
        have ht := nms_tail hl.out K hK
        clear ca cb
        by_cases hq : (wN a K).1 = (wN b K).1
        · have q2 := sq_t hq
          have e3 : sameW a b = decide (nms (a.drop (K + 1)) = nms (b.drop (K + 1))) := by rw [e2]; exact decide_eq_decide.2 (ht.trans ⟨fun q => q.2, fun q => ⟨hq, q⟩⟩)
          clear hq ht e2
          generalize (wN a K).1 = s at *
          generalize (wN b K).1 = t at *
          go_wp2_with fail
          go_region
          go_wp2_with fail
          go_roundg (gk - 1)
          case measure => omega
          case rel => exact ⟨K + 1, by go_num, by omega, Lib.hid nb.out.drew, e3⟩
        · have q2 := sq_f hq
          have e3 : sameW a b = false := by rw [e2, decide_eq_false_iff_not]; rw [ht]; exact fun q => hq q.1
          have fin := Lib.hid (hR.out _ nb.out.drew)
          rw [e3] at fin
          clear hq ht e2 hR
          generalize (wN a K).1 = s at *
          generalize (wN b K).1 = t at *
          go_wp2_with fail
          go_region
          go_wp2_with fail
          exact fin.out
      · have hK2 : b.length ≤ K := by have := hl.out; omega
        have e3 : sameW a b = true := by rw [e2, List.drop_eq_nil_of_le (by omega), List.drop_eq_nil_of_le hK2]; simp
        have fin := Lib.hid (hR.out _ nb.out)
        rw [e3] at fin
        obtain rfl : K = a.length := by omega
        clear e2 hR
        go_wp2_with fail
        exact fin.out
  · have q1 : ((a.length : Int) != (b.length : Int)) = true := by simp; omega
    have e3 : sameW a b = false := by
      unfold sameW
      rw [decide_eq_false_iff_not]
      intro q
      have := congrArg List.length q
      rw [nms_len, nms_len] at this
      exact hl this
    have fin := Lib.hid (hR.out _ (Below.refl _ _))
    rw [e3] at fin
    clear hl hR ha hb hra hrb
    go_enter Try.func28, Try.ntmps28
    go_wp2_with fail
    exact fin.out
theorem still_drop {l : List Wr} {i : Nat} (hi : i < l.length) : stillW (l.drop i) = (decide ((wN l i).2 = 0) && stillW (l.drop (i + 1))) := by
  have ea : l.drop i = wN l i :: l.drop (i + 1) := by rw [wN_get hi]; exact List.drop_eq_getElem_cons hi
  rw [ea]
  simp [stillW]
set_option maxRecDepth 100000 in
set_option maxHeartbeats 1000000 in
theorem still15_calls (a : List Wr) (hm : a.length ≤ maxLen) (va : Value) (w : World) (ha : RdW w va a) (R : Ending → World → Prop) (hR : Hid (∀ w', Below w.heap.size w w' → R (.returned (.bool (stillW a))) w')) : Calls Try.prog 31 #[va] w R := by
  replace hm : a.length ≤ 9223372036854775807 := hm
  obtain ⟨A, ca, rfl, hca, hra⟩ := ha.op
  have hs : stillW a = stillW (a.drop 0) := rfl
  replace hra := Lib.hid hra
  clear ha
  go_enter Try.func31, Try.ntmps31
  go_wp2_with fail
  go_loopg [3] a.length (fun g i wr => ∃ K : Nat, i = .int .i64 K ∧ K + g = a.length ∧ Hid (Below w.heap.size w wr) ∧ stillW a = stillW (a.drop K))
  case atStart => exact ⟨0, rfl, by omega, Lib.hid (Below.refl _ _), hs⟩
  case round =>
    obtain ⟨K, rfl, e1, nb, e2⟩ := hrel
    by_cases hK : K < a.length
    · obtain ⟨ga, oa, rfl, hga, ca⟩ := hra.out (by omega)
      have x0 := (nb.out.cell (p := ⟨ga, oa + K * 2 + 1, none⟩) hga).trans (ca K hK).2
      have i0 : (0 : Int) ≤ (K : Int) := by omega
      have i1 : (K : Int) < (a.length : Int) := by omega
      rw [still_drop hK] at e2
      clear ca
      generalize (wN a K).2 = z at *
      by_cases hq : z = 0
      · subst hq
        have e3 : stillW a = stillW (a.drop (K + 1)) := by rw [e2]; simp
        clear e2
        go_wp2_with fail
        go_roundg (gk - 1)
        case measure => omega
        case rel => exact ⟨K + 1, by go_num, by omega, nb, e3⟩
      · have q2 : (z != 0) = true := by simpa using hq
        have e3 : stillW a = false := by rw [e2, decide_eq_false hq]; rfl
        have fin := Lib.hid (hR.out _ nb.out)
        rw [e3] at fin
        clear e2 hR
        go_wp2_with fail
        exact fin.out
    · have e3 : stillW a = true := by rw [e2, List.drop_eq_nil_of_le (by omega)]; rfl
      have fin := Lib.hid (hR.out _ nb.out)
      rw [e3] at fin
      obtain rfl : K = a.length := by omega
      clear e2 hR
      go_wp2_with fail
      exact fin.out
theorem lab_drop {l : List Wr} {i : Nat} (hi : i < l.length) : labF (l.drop i) = if rightS (wN l i).1 then labF (l.drop (i + 1)) else (9, (wN l i).2) := by
  have ea : l.drop i = wN l i :: l.drop (i + 1) := by rw [wN_get hi]; exact List.drop_eq_getElem_cons hi
  rw [ea]
  rfl

set_option maxRecDepth 100000 in
set_option maxHeartbeats 1000000 in
theorem label15_calls (a : List Wr) (hg : ∀ x ∈ a, GoodW x) (va : Value) (w : World) (ha : RdW w va a) (R : Ending → World → Prop) (hR : Hid (∀ w', Below w.heap.size w w' → R (.returned (.agg #[.int .i64 (labelS a).1, .int .i64 (labelS a).2])) w')) : Calls Try.prog 39 #[va] w R := by
  obtain ⟨A, ca, rfl, hca, hra⟩ := ha.op
  have bA := (Below.refl w.heap.size w).alloc (Nat.le_refl _) (.cells #[.int .i64 0, .int .i64 0] 32)
  have hA : (w.alloc (.cells #[.int .i64 0, .int .i64 0] 32)).heap[w.heap.size]? = some (.cells #[.int .i64 0, .int .i64 0] 32) := heap_alloc_new w _
  have m0 := (Lib.cell_of_heap hA 0).trans rfl
  have m1 := (Lib.cell_of_heap hA 1).trans rfl
  have f0 := Lib.frozen_of_heap hA 0
  have f1 := Lib.frozen_of_heap hA 1
  replace hra := Lib.hid hra
  clear ha hA
  by_cases h32 : 32 < a.length
  · have e : labelS a = (8, (wN a 32).2) := if_pos h32
    obtain ⟨ga, oa, rfl, hga, ca'⟩ := hra.out (by omega)
    have x0 := (bA.cell (p := ⟨ga, oa + 32 * 2 + 1, none⟩) hga).trans (ca' 32 h32).2
    rw [e] at hR
    clear ca' hra hg
    generalize (wN a 32).2 = z at *
    have i1 : (32 : Int) < (a.length : Int) := by omega
    have fin := Lib.hid (hR.out _ (((Below.refl w.heap.size w).alloc (Nat.le_refl _) (.cells #[.int .i64 8, .int .i64 z] 32))))
    have hN : (w.alloc (.cells #[.int .i64 8, .int .i64 z] 32)).heap[w.heap.size]? = some (.cells #[.int .i64 8, .int .i64 z] 32) := heap_alloc_new w _
    have n0 := (Lib.cell_of_heap hN 0).trans rfl
    have n1 := (Lib.cell_of_heap hN 1).trans rfl
    clear hR bA hN e h32
    go_enter Try.func39, Try.ntmps39
    go_wp2_with fail
    refine bodyPost_ret ?_ rfl fin.out
    simp [results, Try.results39, go_sem, m0, m1, n0, n1]
  · have e : labelS a = labF (a.drop 0) := if_neg h32
    have i1 : ¬ (32 : Int) < (a.length : Int) := by omega
    have hs := Nat.le_refl w.heap.size
    have hlt : w.heap.size < (w.alloc (.cells #[.int .i64 0, .int .i64 0] 32)).heap.size := by simp
    replace bA := Lib.hid bA
    go_enter Try.func39, Try.ntmps39
    go_wp2_with fail
    clear m0 m1 f0 f1
    generalize hW : w.alloc (.cells #[.int .i64 0, .int .i64 0] 32) = W2 at *
    have hA : W2.heap[w.heap.size]? = some (.cells #[.int .i64 0, .int .i64 0] 32) := by rw [← hW]; exact heap_alloc_new w _
    clear hW
    go_loopg [3] a.length (fun g i wr => ∃ K : Nat, i = .int .i64 K ∧ K + g = a.length ∧ Hid (Below W2.heap.size W2 wr) ∧ labelS a = labF (a.drop K))
    case atStart => exact ⟨0, rfl, by omega, Lib.hid (Below.refl _ _), e⟩
    case round =>
      obtain ⟨K, rfl, e1, nb, e2⟩ := hrel
      have hB := (nb.out.block _ hlt).trans hA
      have m0 := (Lib.cell_of_heap hB 0).trans rfl
      have m1 := (Lib.cell_of_heap hB 1).trans rfl
      have f0 := Lib.frozen_of_heap hB 0
      have f1 := Lib.frozen_of_heap hB 1
      have nb2 := Lib.hid (bA.out.trans (nb.out.mono bA.out.size))
      clear e hB
      by_cases hK : K < a.length
      · obtain ⟨ga, oa, rfl, hga, ca'⟩ := hra.out (by omega)
        have x0 := (nb2.out.cell (p := ⟨ga, oa + K * 2, none⟩) hga).trans (ca' K hK).1
        have x1 := (nb2.out.cell (p := ⟨ga, oa + K * 2 + 1, none⟩) hga).trans (ca' K hK).2
        have i0 : (0 : Int) ≤ (K : Int) := by omega
        have i2 : (K : Int) < (a.length : Int) := by omega
        have hz := (hg _ (wN_mem hK)).1
        rw [lab_drop hK] at e2
        clear ca'
        generalize (wN a K).1 = s at *
        generalize (wN a K).2 = z at *
        have cR := Lib.hid fun R hR => refright_calls s hz wr R hR
        go_wp2_with fail
        refine cR.out _ (Lib.hid ?_)
        cases hr : rightS s
        · rw [hr] at e2
          have fin := Lib.hid (hR.out _ ((nb2.out.setCell (p := ⟨w.heap.size, 0, none⟩) (Nat.le_refl _) (.int .i64 9)).setCell (p := ⟨w.heap.size, 1, none⟩) (Nat.le_refl _) (.int .i64 z)))
          rw [e2, if_neg (by simp)] at fin
          clear hR cR hr e2
          go_wp2_with fail
          refine bodyPost_ret ?_ rfl fin.out
          simp [results, Try.results39, go_sem, m0, m1]
        · rw [hr, if_pos rfl] at e2
          clear cR hr
          go_wp2_with fail
          go_roundg (gk - 1)
          case measure => omega
          case rel => exact ⟨K + 1, by go_num, by omega, nb, e2⟩
      · have e3 : labelS a = (0, 0) := by rw [e2, List.drop_eq_nil_of_le (by omega)]; rfl
        have fin := Lib.hid (hR.out _ ((nb2.out.setCell (p := ⟨w.heap.size, 0, none⟩) (Nat.le_refl _) (.int .i64 0)).setCell (p := ⟨w.heap.size, 1, none⟩) (Nat.le_refl _) (.int .i64 0)))
        rw [e3] at fin
        obtain rfl : K = a.length := by omega
        clear e2 hR
        go_wp2_with fail
        refine bodyPost_ret ?_ rfl fin.out
        simp [results, Try.results39, go_sem, m0, m1]
end Go.Proofs.Ytpepomnkoghjpaa.Kin
