import Derived.Test.YtbochlbgjnmgjaaGreatG26
/- Layer 17: words that are the same. -/
set_option maxRecDepth 100000
set_option linter.unusedVariables false
namespace Go.Proofs.YtbochlbgjnmgjaaGreat.Unp
open Go.RowKit Go.Lib Go.Proofs.YtbochlbgjnmgjaaGreat.Nam Go.Proofs.YtbochlbgjnmgjaaGreat.Lat Go.Proofs.YtbochlbgjnmgjaaGreat.Kin Go.Proofs.YtbochlbgjnmgjaaGreat.Dig

theorem isF_sameW : ∀ (args : Array Value) (w : World), (callFunc 64 args).run Tryz.prog w = .ok (.enter 64 args) w := by
  intro args w
  unfold callFunc
  simp [go_sem, Tryz.func64]
  rfl
set_option maxRecDepth 100000 in
set_option maxHeartbeats 2000000 in
theorem eqfW_calls (l m : List Wr) (hm : l.length ≤ maxLen) (va vb : Value) (w : World) (ha : RdW w va l) (hb : RdW w vb m) (R : Ending → World → Prop) (hR : Hid (∀ w', Below w.heap.size w w' → R (.returned (.bool (eqL sW l m))) w')) : Calls Tryz.prog 63 #[va, vb, .func (.func 64) #[] #[]] w R := by
  replace hm : l.length ≤ 9223372036854775807 := hm
  have isS := isF_sameW
  obtain ⟨A, ca, rfl, hca, hra⟩ := ha.op
  obtain ⟨B, cb, rfl, hcb, hrb⟩ := hb.op
  by_cases hl : l.length = m.length
  · have q1 : ((l.length : Int) != (m.length : Int)) = false := by simp [hl]
    have hs : eqL sW l m = eqL sW (l.drop 0) (m.drop 0) := rfl
    replace hra := Lib.hid hra
    replace hrb := Lib.hid hrb
    replace hl := Lib.hid hl
    generalize eqL sW l m = E at *
    clear ha hb
    go_enter Tryz.func63, Tryz.ntmps63
    go_wp2_with fail
    go_loopg [17] l.length (fun g i wr => ∃ K : Nat, i = .int .i64 K ∧ K + g = l.length ∧ Hid (Below w.heap.size w wr) ∧ Hid (E = eqL sW (l.drop K) (m.drop K)))
    case atStart => exact ⟨0, rfl, by omega, Lib.hid (Below.refl _ _), Lib.hid hs⟩
    case round =>
      clear hs
      obtain ⟨K, rfl, e1, nb, e2⟩ := hrel
      by_cases hK : K < l.length
      · have hK2 : K < m.length := by have := hl.out; omega
        obtain ⟨ga, oa, rfl, hga, ca⟩ := hra.out (by omega)
        obtain ⟨gb, ob, rfl, hgb, cb⟩ := hrb.out (by omega)
        have rx : wr.rangeAt ga (oa + K * 2) [.string (wN l K).1, .int .i64 (wN l K).2] := fun j v h => (nb.out.cell (p := ⟨ga, oa + K * 2 + j, none⟩) hga).trans (by
          have hc := ca K hK
          match j, h with
          | 0, h => simp only [List.getElem?_cons_zero, List.getElem?_cons_succ, Option.some.injEq] at h; rw [← h]; exact hc.1
          | 1, h => simp only [List.getElem?_cons_zero, List.getElem?_cons_succ, Option.some.injEq] at h; rw [← h]; exact hc.2
          | j + 2, h => simp at h)
        have ry' : wr.rangeAt gb (ob + K * 2) [.string (wN m K).1, .int .i64 (wN m K).2] := fun j v h => (nb.out.cell (p := ⟨gb, ob + K * 2 + j, none⟩) hgb).trans (by
          have hc := cb K hK2
          match j, h with
          | 0, h => simp only [List.getElem?_cons_zero, List.getElem?_cons_succ, Option.some.injEq] at h; rw [← h]; exact hc.1
          | 1, h => simp only [List.getElem?_cons_zero, List.getElem?_cons_succ, Option.some.injEq] at h; rw [← h]; exact hc.2
          | j + 2, h => simp at h)
        have i0 : (0 : Int) ≤ (K : Int) := by omega
        have i1 : (K : Int) < (l.length : Int) := by omega
        have i2 : (K : Int) < (m.length : Int) := by omega
        have e3 := e2.out
        rw [eqL_drop hK hK2, ← wN_get hK, ← wN_get hK2] at e3
        clear ca cb e2
        generalize wN l K = x at *
        generalize wN m K = y at *
        have hA := heap_alloc_new wr (.cells #[.string x.1, .int .i64 x.2] 28)
        have n1 := alB wr (.cells #[.string x.1, .int .i64 x.2] 28)
        have ry : (wr.alloc (.cells #[.string x.1, .int .i64 x.2] 28)).rangeAt gb (ob + K * 2) [.string y.1, .int .i64 y.2] := fun j v h => (n1.cell (p := ⟨gb, ob + K * 2 + j, none⟩) (Nat.lt_of_lt_of_le hgb nb.out.size)).trans (ry' j v h)
        clear ry'
        go_upto_region 6 with (refine wpList_load_g (by rfl) 28 _ rfl ga (oa + K * 2) rfl [.string x.1, .int .i64 x.2] _ rx Tryz.underlying28 rfl (by kernel_rfl) ?_; go_simp)
        have lP : wr.heap.size < (wr.alloc (.cells #[.string x.1, .int .i64 x.2] 28)).heap.size := by rw [alz]; omega
        generalize wr.alloc (.cells #[.string x.1, .int .i64 x.2] 28) = V1 at *
        generalize hPP : wr.heap.size = P at hA lP ⊢
        have hB := heap_alloc_new V1 (.cells #[.string y.1, .int .i64 y.2] 28)
        have n2 := alB V1 (.cells #[.string y.1, .int .i64 y.2] 28)
        replace hA := (n2.block _ lP).trans hA
        clear rx
        go_upto_region 7 with (refine wpList_load_g (by rfl) 28 _ rfl gb (ob + K * 2) rfl [.string y.1, .int .i64 y.2] _ ry Tryz.underlying28 rfl (by kernel_rfl) ?_; go_simp)
        generalize V1.alloc (.cells #[.string y.1, .int .i64 y.2] 28) = V2 at *
        generalize V1.heap.size = Q at hB ⊢
        clear ry
        have nV : Below wr.heap.size wr V2 := n1.trans (n2.mono n1.size)
        have rP : V2.rangeAt P 0 [.string x.1, .int .i64 x.2] := fun j v e => by rw [Nat.zero_add, Lib.cell_of_heap hA]; simpa using e
        have rQ : V2.rangeAt Q 0 [.string y.1, .int .i64 y.2] := fun j v e => by rw [Nat.zero_add, Lib.cell_of_heap hB]; simpa using e
        have cS := Lib.hid fun R hR => sw_calls x y V2 R hR
        have nb2 := nb.out.trans (nV.mono nb.out.size)
        clear n1 n2 nV nb lP hPP
        go_wp2_with (first | (refine wpList_load_g (by rfl) 28 _ rfl P 0 rfl [.string x.1, .int .i64 x.2] _ rP Tryz.underlying28 rfl (by kernel_rfl) ?_; go_simp) | (refine wpList_load_g (by rfl) 28 _ rfl Q 0 rfl [.string y.1, .int .i64 y.2] _ rQ Tryz.underlying28 rfl (by kernel_rfl) ?_; go_simp))
        refine cS.out _ (Lib.hid fun w5 n5 => ?_)
        have nb5 := Lib.hid (nb2.trans (n5.mono nb2.size))
        clear n5 nb2 cS rP rQ hA hB
        generalize sW x y = z at *
        cases z
        · rw [Bool.false_and] at e3
          have fin := hR.out _ nb5.out
          rw [e3] at fin
          replace fin := Lib.hid fin
          clear e3 hR
          go_wp2_with fail
          exact fin.out
        · rw [Bool.true_and] at e3
          replace e3 := Lib.hid e3
          go_wp2_with fail
          go_roundg (gk - 1)
          case measure => omega
          case rel => exact ⟨K + 1, by go_num, by omega, nb5, e3⟩
      · obtain rfl : K = l.length := by omega
        have fin := hR.out _ nb.out
        rw [e2.out, eqL_end hl.out] at fin
        replace fin := Lib.hid fin
        clear e2 hR
        go_wp2_with fail
        exact fin.out
  · have q1 : ((l.length : Int) != (m.length : Int)) = true := by simpa using fun h => hl (by omega)
    have fin := hR.out _ (Below.refl _ _)
    rw [eqL_ne hl] at fin
    replace fin := Lib.hid fin
    clear hl hR hra hrb
    go_enter Tryz.func63, Tryz.ntmps63
    go_wp2_with fail
    exact fin.out
end Go.Proofs.YtbochlbgjnmgjaaGreat.Unp

/- Layer 17: pairs that are the same. -/
set_option maxRecDepth 100000
set_option linter.unusedVariables false
namespace Go.Proofs.YtbochlbgjnmgjaaGreat.Unp
open Go.RowKit Go.Lib Go.Proofs.YtbochlbgjnmgjaaGreat.Nam Go.Proofs.YtbochlbgjnmgjaaGreat.Lat Go.Proofs.YtbochlbgjnmgjaaGreat.Kin Go.Proofs.YtbochlbgjnmgjaaGreat.Dig

theorem isF_sameP : ∀ (args : Array Value) (w : World), (callFunc 66 args).run Tryz.prog w = .ok (.enter 66 args) w := by
  intro args w
  unfold callFunc
  simp [go_sem, Tryz.func66]
  rfl
set_option maxRecDepth 100000 in
set_option maxHeartbeats 2000000 in
theorem eqfP_calls (l m : List Pr) (hm : l.length ≤ maxLen) (va vb : Value) (w : World) (ha : RdPr w va l) (hb : RdPr w vb m) (R : Ending → World → Prop) (hR : Hid (∀ w', Below w.heap.size w w' → R (.returned (.bool (eqL sP l m))) w')) : Calls Tryz.prog 65 #[va, vb, .func (.func 66) #[] #[]] w R := by
  replace hm : l.length ≤ 9223372036854775807 := hm
  have isS := isF_sameP
  obtain ⟨A, ca, rfl, hca, hra⟩ := RdPr.op ha
  obtain ⟨B, cb, rfl, hcb, hrb⟩ := RdPr.op hb
  by_cases hl : l.length = m.length
  · have q1 : ((l.length : Int) != (m.length : Int)) = false := by simp [hl]
    have hs : eqL sP l m = eqL sP (l.drop 0) (m.drop 0) := rfl
    replace hra := Lib.hid hra
    replace hrb := Lib.hid hrb
    replace hl := Lib.hid hl
    generalize eqL sP l m = E at *
    clear ha hb
    go_enter Tryz.func65, Tryz.ntmps65
    go_wp2_with fail
    go_loopg [17] l.length (fun g i wr => ∃ K : Nat, i = .int .i64 K ∧ K + g = l.length ∧ Hid (Below w.heap.size w wr) ∧ Hid (E = eqL sP (l.drop K) (m.drop K)))
    case atStart => exact ⟨0, rfl, by omega, Lib.hid (Below.refl _ _), Lib.hid hs⟩
    case round =>
      clear hs
      obtain ⟨K, rfl, e1, nb, e2⟩ := hrel
      by_cases hK : K < l.length
      · have hK2 : K < m.length := by have := hl.out; omega
        obtain ⟨ga, oa, rfl, hga, ca⟩ := hra.out (by omega)
        obtain ⟨gb, ob, rfl, hgb, cb⟩ := hrb.out (by omega)
        have rx : wr.rangeAt ga (oa + K * 4) [.string (pN l K).1.1, .int .i64 (pN l K).1.2, .string (pN l K).2.1, .int .i64 (pN l K).2.2] := fun j v h => (nb.out.cell (p := ⟨ga, oa + K * 4 + j, none⟩) hga).trans (by
          have hc := ca K hK
          match j, h with
          | 0, h => simp only [List.getElem?_cons_zero, List.getElem?_cons_succ, Option.some.injEq] at h; rw [← h]; exact hc.1
          | 1, h => simp only [List.getElem?_cons_zero, List.getElem?_cons_succ, Option.some.injEq] at h; rw [← h]; exact hc.2.1
          | 2, h => simp only [List.getElem?_cons_zero, List.getElem?_cons_succ, Option.some.injEq] at h; rw [← h]; exact hc.2.2.1
          | 3, h => simp only [List.getElem?_cons_zero, List.getElem?_cons_succ, Option.some.injEq] at h; rw [← h]; exact hc.2.2.2
          | j + 4, h => simp at h)
        have ry' : wr.rangeAt gb (ob + K * 4) [.string (pN m K).1.1, .int .i64 (pN m K).1.2, .string (pN m K).2.1, .int .i64 (pN m K).2.2] := fun j v h => (nb.out.cell (p := ⟨gb, ob + K * 4 + j, none⟩) hgb).trans (by
          have hc := cb K hK2
          match j, h with
          | 0, h => simp only [List.getElem?_cons_zero, List.getElem?_cons_succ, Option.some.injEq] at h; rw [← h]; exact hc.1
          | 1, h => simp only [List.getElem?_cons_zero, List.getElem?_cons_succ, Option.some.injEq] at h; rw [← h]; exact hc.2.1
          | 2, h => simp only [List.getElem?_cons_zero, List.getElem?_cons_succ, Option.some.injEq] at h; rw [← h]; exact hc.2.2.1
          | 3, h => simp only [List.getElem?_cons_zero, List.getElem?_cons_succ, Option.some.injEq] at h; rw [← h]; exact hc.2.2.2
          | j + 4, h => simp at h)
        have i0 : (0 : Int) ≤ (K : Int) := by omega
        have i1 : (K : Int) < (l.length : Int) := by omega
        have i2 : (K : Int) < (m.length : Int) := by omega
        have e3 := e2.out
        rw [eqL_drop hK hK2, ← pN_get hK, ← pN_get hK2] at e3
        clear ca cb e2
        generalize pN l K = x at *
        generalize pN m K = y at *
        have hA := heap_alloc_new wr (.cells #[.string x.1.1, .int .i64 x.1.2, .string x.2.1, .int .i64 x.2.2] 65)
        have n1 := alB wr (.cells #[.string x.1.1, .int .i64 x.1.2, .string x.2.1, .int .i64 x.2.2] 65)
        have ry : (wr.alloc (.cells #[.string x.1.1, .int .i64 x.1.2, .string x.2.1, .int .i64 x.2.2] 65)).rangeAt gb (ob + K * 4) [.string y.1.1, .int .i64 y.1.2, .string y.2.1, .int .i64 y.2.2] := fun j v h => (n1.cell (p := ⟨gb, ob + K * 4 + j, none⟩) (Nat.lt_of_lt_of_le hgb nb.out.size)).trans (ry' j v h)
        clear ry'
        go_upto_region 6 with (refine wpList_load_g (by rfl) 65 _ rfl ga (oa + K * 4) rfl [.string x.1.1, .int .i64 x.1.2, .string x.2.1, .int .i64 x.2.2] _ rx Tryz.underlying65 rfl (by kernel_rfl) ?_; go_simp)
        have lP : wr.heap.size < (wr.alloc (.cells #[.string x.1.1, .int .i64 x.1.2, .string x.2.1, .int .i64 x.2.2] 65)).heap.size := by rw [alz]; omega
        generalize wr.alloc (.cells #[.string x.1.1, .int .i64 x.1.2, .string x.2.1, .int .i64 x.2.2] 65) = V1 at *
        generalize hPP : wr.heap.size = P at hA lP ⊢
        have hB := heap_alloc_new V1 (.cells #[.string y.1.1, .int .i64 y.1.2, .string y.2.1, .int .i64 y.2.2] 65)
        have n2 := alB V1 (.cells #[.string y.1.1, .int .i64 y.1.2, .string y.2.1, .int .i64 y.2.2] 65)
        replace hA := (n2.block _ lP).trans hA
        clear rx
        go_upto_region 7 with (refine wpList_load_g (by rfl) 65 _ rfl gb (ob + K * 4) rfl [.string y.1.1, .int .i64 y.1.2, .string y.2.1, .int .i64 y.2.2] _ ry Tryz.underlying65 rfl (by kernel_rfl) ?_; go_simp)
        generalize V1.alloc (.cells #[.string y.1.1, .int .i64 y.1.2, .string y.2.1, .int .i64 y.2.2] 65) = V2 at *
        generalize V1.heap.size = Q at hB ⊢
        clear ry
        have nV : Below wr.heap.size wr V2 := n1.trans (n2.mono n1.size)
        have rP : V2.rangeAt P 0 [.string x.1.1, .int .i64 x.1.2, .string x.2.1, .int .i64 x.2.2] := fun j v e => by rw [Nat.zero_add, Lib.cell_of_heap hA]; simpa using e
        have rQ : V2.rangeAt Q 0 [.string y.1.1, .int .i64 y.1.2, .string y.2.1, .int .i64 y.2.2] := fun j v e => by rw [Nat.zero_add, Lib.cell_of_heap hB]; simpa using e
        have cS := Lib.hid fun R hR => sp_calls x y V2 R hR
        have nb2 := nb.out.trans (nV.mono nb.out.size)
        clear n1 n2 nV nb lP hPP
        go_wp2_with (first | (refine wpList_load_g (by rfl) 65 _ rfl P 0 rfl [.string x.1.1, .int .i64 x.1.2, .string x.2.1, .int .i64 x.2.2] _ rP Tryz.underlying65 rfl (by kernel_rfl) ?_; go_simp) | (refine wpList_load_g (by rfl) 65 _ rfl Q 0 rfl [.string y.1.1, .int .i64 y.1.2, .string y.2.1, .int .i64 y.2.2] _ rQ Tryz.underlying65 rfl (by kernel_rfl) ?_; go_simp))
        refine cS.out _ (Lib.hid fun w5 n5 => ?_)
        have nb5 := Lib.hid (nb2.trans (n5.mono nb2.size))
        clear n5 nb2 cS rP rQ hA hB
        generalize sP x y = z at *
        cases z
        · rw [Bool.false_and] at e3
          have fin := hR.out _ nb5.out
          rw [e3] at fin
          replace fin := Lib.hid fin
          clear e3 hR
          go_wp2_with fail
          exact fin.out
        · rw [Bool.true_and] at e3
          replace e3 := Lib.hid e3
          go_wp2_with fail
          go_roundg (gk - 1)
          case measure => omega
          case rel => exact ⟨K + 1, by go_num, by omega, nb5, e3⟩
      · obtain rfl : K = l.length := by omega
        have fin := hR.out _ nb.out
        rw [e2.out, eqL_end hl.out] at fin
        replace fin := Lib.hid fin
        clear e2 hR
        go_wp2_with fail
        exact fin.out
  · have q1 : ((l.length : Int) != (m.length : Int)) = true := by simpa using fun h => hl (by omega)
    have fin := hR.out _ (Below.refl _ _)
    rw [eqL_ne hl] at fin
    replace fin := Lib.hid fin
    clear hl hR hra hrb
    go_enter Tryz.func65, Tryz.ntmps65
    go_wp2_with fail
    exact fin.out
end Go.Proofs.YtbochlbgjnmgjaaGreat.Unp

/- Layer 17: named types that are the same. -/
set_option maxRecDepth 100000
set_option linter.unusedVariables false
namespace Go.Proofs.YtbochlbgjnmgjaaGreat.Unp
open Go.RowKit Go.Lib Go.Proofs.YtbochlbgjnmgjaaGreat.Nam Go.Proofs.YtbochlbgjnmgjaaGreat.Lat Go.Proofs.YtbochlbgjnmgjaaGreat.Kin Go.Proofs.YtbochlbgjnmgjaaGreat.Dig

theorem isF_sameN : ∀ (args : Array Value) (w : World), (callFunc 68 args).run Tryz.prog w = .ok (.enter 68 args) w := by
  intro args w
  unfold callFunc
  simp [go_sem, Tryz.func68]
  rfl
set_option maxRecDepth 100000 in
set_option maxHeartbeats 2000000 in
theorem eqfN_calls (l m : List Nd) (hm : l.length ≤ maxLen) (gl : ∀ x ∈ l, GoodN x) (va vb : Value) (w : World) (ha : RdNs w va l) (hb : RdNs w vb m) (R : Ending → World → Prop) (hR : Hid (∀ w', Below w.heap.size w w' → R (.returned (.bool (eqL sN l m))) w')) : Calls Tryz.prog 67 #[va, vb, .func (.func 68) #[] #[]] w R := by
  replace hm : l.length ≤ 9223372036854775807 := hm
  have isS := isF_sameN
  obtain ⟨A, ca, rfl, hca, hra⟩ := RdNs.op ha
  obtain ⟨B, cb, rfl, hcb, hrb⟩ := RdNs.op hb
  by_cases hl : l.length = m.length
  · have q1 : ((l.length : Int) != (m.length : Int)) = false := by simp [hl]
    have hs : eqL sN l m = eqL sN (l.drop 0) (m.drop 0) := rfl
    replace hra := Lib.hid hra
    replace hrb := Lib.hid hrb
    replace hl := Lib.hid hl
    generalize eqL sN l m = E at *
    clear ha hb
    go_enter Tryz.func67, Tryz.ntmps67
    go_wp2_with fail
    go_loopg [17] l.length (fun g i wr => ∃ K : Nat, i = .int .i64 K ∧ K + g = l.length ∧ Hid (Below w.heap.size w wr) ∧ Hid (E = eqL sN (l.drop K) (m.drop K)))
    case atStart => exact ⟨0, rfl, by omega, Lib.hid (Below.refl _ _), Lib.hid hs⟩
    case round =>
      clear hs
      obtain ⟨K, rfl, e1, nb, e2⟩ := hrel
      by_cases hK : K < l.length
      · have hK2 : K < m.length := by have := hl.out; omega
        obtain ⟨ga, oa, rfl, hga, ca⟩ := hra.out (by omega)
        obtain ⟨gb, ob, rfl, hgb, cb⟩ := hrb.out (by omega)
        obtain ⟨nv, pv, hx, hc⟩ := ca K hK
        obtain ⟨N1, N3, rfl, -, -⟩ := hx.n.op
        obtain ⟨M1, M3, rfl, -⟩ := hx.p.sl
        obtain ⟨nv', pv', hy, hd⟩ := cb K hK2
        obtain ⟨X1, X3, rfl, -, -⟩ := hy.n.op
        obtain ⟨Y1, Y3, rfl, -⟩ := hy.p.sl
        have gx := gl _ (mem_nN hK)
        have rx : wr.rangeAt ga (oa + K * 11) [.string (nN l K).1.1, .int .i64 (nN l K).1.2, .int .i64 (nN l K).2.1.kind, .int .i64 (nN l K).2.1.at_, .int .i64 (nN l K).2.1.lo, .int .i64 (nN l K).2.1.hi, .int .i64 (nN l K).2.1.most, .slice N1 (nN l K).2.1.names.length N3, .slice M1 (nN l K).2.2.len M3, .string (nN l K).2.1.name, .int .i64 (nN l K).2.1.nat] := fun j v h => (nb.out.cell (p := ⟨ga, oa + K * 11 + j, none⟩) hga).trans (hc j v h)
        have ry' : wr.rangeAt gb (ob + K * 11) [.string (nN m K).1.1, .int .i64 (nN m K).1.2, .int .i64 (nN m K).2.1.kind, .int .i64 (nN m K).2.1.at_, .int .i64 (nN m K).2.1.lo, .int .i64 (nN m K).2.1.hi, .int .i64 (nN m K).2.1.most, .slice X1 (nN m K).2.1.names.length X3, .slice Y1 (nN m K).2.2.len Y3, .string (nN m K).2.1.name, .int .i64 (nN m K).2.1.nat] := fun j v h => (nb.out.cell (p := ⟨gb, ob + K * 11 + j, none⟩) hgb).trans (hd j v h)
        replace hx := hx.below nb.out
        replace hy := hy.below nb.out
        clear hc hd
        have i0 : (0 : Int) ≤ (K : Int) := by omega
        have i1 : (K : Int) < (l.length : Int) := by omega
        have i2 : (K : Int) < (m.length : Int) := by omega
        have e3 := e2.out
        rw [eqL_drop hK hK2, ← nN_get hK, ← nN_get hK2] at e3
        clear ca cb e2
        generalize nN l K = x at *
        generalize nN m K = y at *
        have hA := heap_alloc_new wr (.cells #[.string x.1.1, .int .i64 x.1.2, .int .i64 x.2.1.kind, .int .i64 x.2.1.at_, .int .i64 x.2.1.lo, .int .i64 x.2.1.hi, .int .i64 x.2.1.most, .slice N1 x.2.1.names.length N3, .slice M1 x.2.2.len M3, .string x.2.1.name, .int .i64 x.2.1.nat] 67)
        have n1 := alB wr (.cells #[.string x.1.1, .int .i64 x.1.2, .int .i64 x.2.1.kind, .int .i64 x.2.1.at_, .int .i64 x.2.1.lo, .int .i64 x.2.1.hi, .int .i64 x.2.1.most, .slice N1 x.2.1.names.length N3, .slice M1 x.2.2.len M3, .string x.2.1.name, .int .i64 x.2.1.nat] 67)
        have ry : (wr.alloc (.cells #[.string x.1.1, .int .i64 x.1.2, .int .i64 x.2.1.kind, .int .i64 x.2.1.at_, .int .i64 x.2.1.lo, .int .i64 x.2.1.hi, .int .i64 x.2.1.most, .slice N1 x.2.1.names.length N3, .slice M1 x.2.2.len M3, .string x.2.1.name, .int .i64 x.2.1.nat] 67)).rangeAt gb (ob + K * 11) [.string y.1.1, .int .i64 y.1.2, .int .i64 y.2.1.kind, .int .i64 y.2.1.at_, .int .i64 y.2.1.lo, .int .i64 y.2.1.hi, .int .i64 y.2.1.most, .slice X1 y.2.1.names.length X3, .slice Y1 y.2.2.len Y3, .string y.2.1.name, .int .i64 y.2.1.nat] := fun j v h => (n1.cell (p := ⟨gb, ob + K * 11 + j, none⟩) (Nat.lt_of_lt_of_le hgb nb.out.size)).trans (ry' j v h)
        clear ry'
        go_upto_region 6 with (first | (refine wpList_load_g (by rfl) 67 _ rfl ga (oa + K * 11) rfl [.string x.1.1, .int .i64 x.1.2, .int .i64 x.2.1.kind, .int .i64 x.2.1.at_, .int .i64 x.2.1.lo, .int .i64 x.2.1.hi, .int .i64 x.2.1.most, .slice N1 x.2.1.names.length N3, .slice M1 x.2.2.len M3, .string x.2.1.name, .int .i64 x.2.1.nat] _ rx Tryz.underlying67 rfl (by kernel_rfl) ?_; go_simp) | (refine wpList_copy3 #[.string x.1.1, .int .i64 x.1.2, .int .i64 x.2.1.kind, .int .i64 x.2.1.at_, .int .i64 x.2.1.lo, .int .i64 x.2.1.hi, .int .i64 x.2.1.most, .slice N1 x.2.1.names.length N3, .slice M1 x.2.2.len M3, .string x.2.1.name, .int .i64 x.2.1.nat] _ ⟨rfl, rfl, rfl⟩ rfl (fun _ _ => rfl) ⟨rfl, rfl, rfl⟩ named_alloc (by kernel_rfl) ⟨rfl, by simp [Value.oneCell']⟩ (fun _ => ⟨rfl, rfl⟩) ?_; go_simp))
        have lP : wr.heap.size < (wr.alloc (.cells #[.string x.1.1, .int .i64 x.1.2, .int .i64 x.2.1.kind, .int .i64 x.2.1.at_, .int .i64 x.2.1.lo, .int .i64 x.2.1.hi, .int .i64 x.2.1.most, .slice N1 x.2.1.names.length N3, .slice M1 x.2.2.len M3, .string x.2.1.name, .int .i64 x.2.1.nat] 67)).heap.size := by rw [alz]; omega
        generalize wr.alloc (.cells #[.string x.1.1, .int .i64 x.1.2, .int .i64 x.2.1.kind, .int .i64 x.2.1.at_, .int .i64 x.2.1.lo, .int .i64 x.2.1.hi, .int .i64 x.2.1.most, .slice N1 x.2.1.names.length N3, .slice M1 x.2.2.len M3, .string x.2.1.name, .int .i64 x.2.1.nat] 67) = V1 at *
        generalize hPP : wr.heap.size = P at hA lP ⊢
        have hB := heap_alloc_new V1 (.cells #[.string y.1.1, .int .i64 y.1.2, .int .i64 y.2.1.kind, .int .i64 y.2.1.at_, .int .i64 y.2.1.lo, .int .i64 y.2.1.hi, .int .i64 y.2.1.most, .slice X1 y.2.1.names.length X3, .slice Y1 y.2.2.len Y3, .string y.2.1.name, .int .i64 y.2.1.nat] 67)
        have n2 := alB V1 (.cells #[.string y.1.1, .int .i64 y.1.2, .int .i64 y.2.1.kind, .int .i64 y.2.1.at_, .int .i64 y.2.1.lo, .int .i64 y.2.1.hi, .int .i64 y.2.1.most, .slice X1 y.2.1.names.length X3, .slice Y1 y.2.2.len Y3, .string y.2.1.name, .int .i64 y.2.1.nat] 67)
        replace hA := (n2.block _ lP).trans hA
        clear rx
        go_upto_region 7 with (first | (refine wpList_load_g (by rfl) 67 _ rfl gb (ob + K * 11) rfl [.string y.1.1, .int .i64 y.1.2, .int .i64 y.2.1.kind, .int .i64 y.2.1.at_, .int .i64 y.2.1.lo, .int .i64 y.2.1.hi, .int .i64 y.2.1.most, .slice X1 y.2.1.names.length X3, .slice Y1 y.2.2.len Y3, .string y.2.1.name, .int .i64 y.2.1.nat] _ ry Tryz.underlying67 rfl (by kernel_rfl) ?_; go_simp) | (refine wpList_copy #[.string y.1.1, .int .i64 y.1.2, .int .i64 y.2.1.kind, .int .i64 y.2.1.at_, .int .i64 y.2.1.lo, .int .i64 y.2.1.hi, .int .i64 y.2.1.most, .slice X1 y.2.1.names.length X3, .slice Y1 y.2.2.len Y3, .string y.2.1.name, .int .i64 y.2.1.nat] ⟨rfl, rfl, rfl⟩ ⟨rfl, rfl, rfl⟩ named_alloc (by kernel_rfl) ⟨rfl, by simp [Value.oneCell']⟩ (fun _ => ⟨rfl, rfl⟩) ?_; go_simp))
        generalize V1.alloc (.cells #[.string y.1.1, .int .i64 y.1.2, .int .i64 y.2.1.kind, .int .i64 y.2.1.at_, .int .i64 y.2.1.lo, .int .i64 y.2.1.hi, .int .i64 y.2.1.most, .slice X1 y.2.1.names.length X3, .slice Y1 y.2.2.len Y3, .string y.2.1.name, .int .i64 y.2.1.nat] 67) = V2 at *
        generalize V1.heap.size = Q at hB ⊢
        clear ry
        have nV : Below wr.heap.size wr V2 := n1.trans (n2.mono n1.size)
        have rP : V2.rangeAt P 0 [.string x.1.1, .int .i64 x.1.2, .int .i64 x.2.1.kind, .int .i64 x.2.1.at_, .int .i64 x.2.1.lo, .int .i64 x.2.1.hi, .int .i64 x.2.1.most, .slice N1 x.2.1.names.length N3, .slice M1 x.2.2.len M3, .string x.2.1.name, .int .i64 x.2.1.nat] := fun j v e => by rw [Nat.zero_add, Lib.cell_of_heap hA]; simpa using e
        have rQ : V2.rangeAt Q 0 [.string y.1.1, .int .i64 y.1.2, .int .i64 y.2.1.kind, .int .i64 y.2.1.at_, .int .i64 y.2.1.lo, .int .i64 y.2.1.hi, .int .i64 y.2.1.most, .slice X1 y.2.1.names.length X3, .slice Y1 y.2.2.len Y3, .string y.2.1.name, .int .i64 y.2.1.nat] := fun j v e => by rw [Nat.zero_add, Lib.cell_of_heap hB]; simpa using e
        have cS := Lib.hid fun R hR => sn_calls x y gx (.slice N1 x.2.1.names.length N3) (.slice M1 x.2.2.len M3) (.slice X1 y.2.1.names.length X3) (.slice Y1 y.2.2.len Y3) V2 (hx.below nV) (hy.below nV) R hR
        have nb2 := nb.out.trans (nV.mono nb.out.size)
        clear n1 n2 nV nb lP hPP
        go_wp2_with (first | (refine wpList_load_g (by rfl) 67 _ rfl P 0 rfl [.string x.1.1, .int .i64 x.1.2, .int .i64 x.2.1.kind, .int .i64 x.2.1.at_, .int .i64 x.2.1.lo, .int .i64 x.2.1.hi, .int .i64 x.2.1.most, .slice N1 x.2.1.names.length N3, .slice M1 x.2.2.len M3, .string x.2.1.name, .int .i64 x.2.1.nat] _ rP Tryz.underlying67 rfl (by kernel_rfl) ?_; go_simp) | (refine wpList_load_g (by rfl) 67 _ rfl Q 0 rfl [.string y.1.1, .int .i64 y.1.2, .int .i64 y.2.1.kind, .int .i64 y.2.1.at_, .int .i64 y.2.1.lo, .int .i64 y.2.1.hi, .int .i64 y.2.1.most, .slice X1 y.2.1.names.length X3, .slice Y1 y.2.2.len Y3, .string y.2.1.name, .int .i64 y.2.1.nat] _ rQ Tryz.underlying67 rfl (by kernel_rfl) ?_; go_simp))
        refine cS.out _ (Lib.hid fun w5 n5 => ?_)
        have nb5 := Lib.hid (nb2.trans (n5.mono nb2.size))
        clear n5 nb2 cS rP rQ hA hB
        generalize sN x y = z at *
        cases z
        · rw [Bool.false_and] at e3
          have fin := hR.out _ nb5.out
          rw [e3] at fin
          replace fin := Lib.hid fin
          clear e3 hR
          go_wp2_with fail
          exact fin.out
        · rw [Bool.true_and] at e3
          replace e3 := Lib.hid e3
          go_wp2_with fail
          go_roundg (gk - 1)
          case measure => omega
          case rel => exact ⟨K + 1, by go_num, by omega, nb5, e3⟩
      · obtain rfl : K = l.length := by omega
        have fin := hR.out _ nb.out
        rw [e2.out, eqL_end hl.out] at fin
        replace fin := Lib.hid fin
        clear e2 hR
        go_wp2_with fail
        exact fin.out
  · have q1 : ((l.length : Int) != (m.length : Int)) = true := by simpa using fun h => hl (by omega)
    have fin := hR.out _ (Below.refl _ _)
    rw [eqL_ne hl] at fin
    replace fin := Lib.hid fin
    clear hl hR hra hrb
    go_enter Tryz.func67, Tryz.ntmps67
    go_wp2_with fail
    exact fin.out
end Go.Proofs.YtbochlbgjnmgjaaGreat.Unp

/- Layer 17: the code's Same. -/
set_option maxRecDepth 100000
set_option linter.unusedVariables false
namespace Go.Proofs.YtbochlbgjnmgjaaGreat.Unp
open Go.RowKit Go.Lib Go.Proofs.YtbochlbgjnmgjaaGreat.Nam Go.Proofs.YtbochlbgjnmgjaaGreat.Lat Go.Proofs.YtbochlbgjnmgjaaGreat.Kin Go.Proofs.YtbochlbgjnmgjaaGreat.Dig

set_option maxRecDepth 100000 in
set_option maxHeartbeats 2000000 in
theorem csame_calls (s t : Sc) (gs : GoodS s) (lv ov tv nv pv lv' ov' tv' nv' pv' : Value) (w : World) (rd : RdSc w s lv ov tv nv pv) (rt : RdSc w t lv' ov' tv' nv' pv') (R : Ending → World → Prop)
    (hR : Hid (∀ w', Below w.heap.size w w' → R (.returned (.bool (sameSc s t))) w')) : Calls Tryz.prog 26 #[scV s lv ov tv nv pv, scV t lv' ov' tv' nv' pv'] w R := by
  obtain ⟨A1, c1, rfl, -, -⟩ := rd.l.op
  obtain ⟨A2, c2, rfl, -, -⟩ := RdPr.op rd.o
  obtain ⟨A3, c3, rfl, -, -⟩ := rd.t.op
  obtain ⟨N1, N3, rfl, -, -⟩ := rd.r.n.op
  obtain ⟨M1, M3, rfl, -⟩ := rd.r.p.sl
  obtain ⟨B1, e1, rfl, -, -⟩ := rt.l.op
  obtain ⟨B2, e2, rfl, -, -⟩ := RdPr.op rt.o
  obtain ⟨B3, e3, rfl, -, -⟩ := rt.t.op
  obtain ⟨X1, X3, rfl, -, -⟩ := rt.r.n.op
  obtain ⟨Y1, Y3, rfl, -⟩ := rt.r.p.sl
  have hA := heap_alloc_new w (.cells #[.slice A1 s.1.length c1, .slice A2 s.2.1.length c2, .slice A3 s.2.2.1.length c3, .int .i64 s.2.2.2.1.kind, .int .i64 s.2.2.2.1.at_, .int .i64 s.2.2.2.1.lo, .int .i64 s.2.2.2.1.hi, .int .i64 s.2.2.2.1.most, .slice N1 s.2.2.2.1.names.length N3, .slice M1 s.2.2.2.2.len M3, .string s.2.2.2.1.name, .int .i64 s.2.2.2.1.nat] 32)
  have zA : (w.alloc (.cells #[.slice A1 s.1.length c1, .slice A2 s.2.1.length c2, .slice A3 s.2.2.1.length c3, .int .i64 s.2.2.2.1.kind, .int .i64 s.2.2.2.1.at_, .int .i64 s.2.2.2.1.lo, .int .i64 s.2.2.2.1.hi, .int .i64 s.2.2.2.1.most, .slice N1 s.2.2.2.1.names.length N3, .slice M1 s.2.2.2.2.len M3, .string s.2.2.2.1.name, .int .i64 s.2.2.2.1.nat] 32)).heap.size = w.heap.size + 1 := by simp
  have hB := heap_alloc_new (w.alloc (.cells #[.slice A1 s.1.length c1, .slice A2 s.2.1.length c2, .slice A3 s.2.2.1.length c3, .int .i64 s.2.2.2.1.kind, .int .i64 s.2.2.2.1.at_, .int .i64 s.2.2.2.1.lo, .int .i64 s.2.2.2.1.hi, .int .i64 s.2.2.2.1.most, .slice N1 s.2.2.2.1.names.length N3, .slice M1 s.2.2.2.2.len M3, .string s.2.2.2.1.name, .int .i64 s.2.2.2.1.nat] 32)) (.cells #[.slice B1 t.1.length e1, .slice B2 t.2.1.length e2, .slice B3 t.2.2.1.length e3, .int .i64 t.2.2.2.1.kind, .int .i64 t.2.2.2.1.at_, .int .i64 t.2.2.2.1.lo, .int .i64 t.2.2.2.1.hi, .int .i64 t.2.2.2.1.most, .slice X1 t.2.2.2.1.names.length X3, .slice Y1 t.2.2.2.2.len Y3, .string t.2.2.2.1.name, .int .i64 t.2.2.2.1.nat] 32)
  rw [zA] at hB
  replace hA := ((alB (w.alloc (.cells #[.slice A1 s.1.length c1, .slice A2 s.2.1.length c2, .slice A3 s.2.2.1.length c3, .int .i64 s.2.2.2.1.kind, .int .i64 s.2.2.2.1.at_, .int .i64 s.2.2.2.1.lo, .int .i64 s.2.2.2.1.hi, .int .i64 s.2.2.2.1.most, .slice N1 s.2.2.2.1.names.length N3, .slice M1 s.2.2.2.2.len M3, .string s.2.2.2.1.name, .int .i64 s.2.2.2.1.nat] 32)) (.cells #[.slice B1 t.1.length e1, .slice B2 t.2.1.length e2, .slice B3 t.2.2.1.length e3, .int .i64 t.2.2.2.1.kind, .int .i64 t.2.2.2.1.at_, .int .i64 t.2.2.2.1.lo, .int .i64 t.2.2.2.1.hi, .int .i64 t.2.2.2.1.most, .slice X1 t.2.2.2.1.names.length X3, .slice Y1 t.2.2.2.2.len Y3, .string t.2.2.2.1.name, .int .i64 t.2.2.2.1.nat] 32)).block _ (blt hA)).trans hA
  have n := ((Below.refl w.heap.size w).alloc (Nat.le_refl _) (.cells #[.slice A1 s.1.length c1, .slice A2 s.2.1.length c2, .slice A3 s.2.2.1.length c3, .int .i64 s.2.2.2.1.kind, .int .i64 s.2.2.2.1.at_, .int .i64 s.2.2.2.1.lo, .int .i64 s.2.2.2.1.hi, .int .i64 s.2.2.2.1.most, .slice N1 s.2.2.2.1.names.length N3, .slice M1 s.2.2.2.2.len M3, .string s.2.2.2.1.name, .int .i64 s.2.2.2.1.nat] 32)).alloc (by rw [zA]; omega) (.cells #[.slice B1 t.1.length e1, .slice B2 t.2.1.length e2, .slice B3 t.2.2.1.length e3, .int .i64 t.2.2.2.1.kind, .int .i64 t.2.2.2.1.at_, .int .i64 t.2.2.2.1.lo, .int .i64 t.2.2.2.1.hi, .int .i64 t.2.2.2.1.most, .slice X1 t.2.2.2.1.names.length X3, .slice Y1 t.2.2.2.2.len Y3, .string t.2.2.2.1.name, .int .i64 t.2.2.2.1.nat] 32)
  clear zA
  replace rd := rd.below n
  replace rt := rt.below n
  have hq : sameSc s t = (eqL sW s.1 t.1 && eqL sP s.2.1 t.2.1 && eqL sN s.2.2.1 t.2.2.1 && sameS s.2.2.2.1 s.2.2.2.2 t.2.2.2.1 t.2.2.2.2) := rfl
  rw [hq] at hR
  clear hq
  go_enter Tryz.func26, Tryz.ntmps26
  go_upto_region 1 with fail
  generalize (w.alloc (.cells #[.slice A1 s.1.length c1, .slice A2 s.2.1.length c2, .slice A3 s.2.2.1.length c3, .int .i64 s.2.2.2.1.kind, .int .i64 s.2.2.2.1.at_, .int .i64 s.2.2.2.1.lo, .int .i64 s.2.2.2.1.hi, .int .i64 s.2.2.2.1.most, .slice N1 s.2.2.2.1.names.length N3, .slice M1 s.2.2.2.2.len M3, .string s.2.2.2.1.name, .int .i64 s.2.2.2.1.nat] 32)).alloc (.cells #[.slice B1 t.1.length e1, .slice B2 t.2.1.length e2, .slice B3 t.2.2.1.length e3, .int .i64 t.2.2.2.1.kind, .int .i64 t.2.2.2.1.at_, .int .i64 t.2.2.2.1.lo, .int .i64 t.2.2.2.1.hi, .int .i64 t.2.2.2.1.most, .slice X1 t.2.2.2.1.names.length X3, .slice Y1 t.2.2.2.2.len Y3, .string t.2.2.2.1.name, .int .i64 t.2.2.2.1.nat] 32) = V at *
  have k1 := Lib.hid fun (W : World) (m : Below V.heap.size V W) R hR => eqfW_calls s.1 t.1 gs.ll (.slice A1 s.1.length c1) (.slice B1 t.1.length e1) W (rd.below m).l (rt.below m).l R hR
  have k2 := Lib.hid fun (W : World) (m : Below V.heap.size V W) R hR => eqfP_calls s.2.1 t.2.1 gs.ol (.slice A2 s.2.1.length c2) (.slice B2 t.2.1.length e2) W (rd.below m).o (rt.below m).o R hR
  have k3 := Lib.hid fun (W : World) (m : Below V.heap.size V W) R hR => eqfN_calls s.2.2.1 t.2.2.1 gs.tl gs.t (.slice A3 s.2.2.1.length c3) (.slice B3 t.2.2.1.length e3) W (rd.below m).t (rt.below m).t R hR
  have k4 := Lib.hid fun (W : World) (m : Below V.heap.size V W) R hR => sameC_calls s.2.2.2.2 s.2.2.2.1 t.2.2.2.1 t.2.2.2.2 (.slice N1 s.2.2.2.1.names.length N3) (.slice M1 s.2.2.2.2.len M3) (.slice X1 t.2.2.2.1.names.length X3) (.slice Y1 t.2.2.2.2.len Y3) W gs.h.2.2.2.2.2.2.2.2 gs.gl gs.g (rd.below m).r (rt.below m).r R hR
  generalize eqL sW s.1 t.1 = y1 at *
  generalize eqL sP s.2.1 t.2.1 = y2 at *
  generalize eqL sN s.2.2.1 t.2.2.1 = y3 at *
  generalize sameS s.2.2.2.1 s.2.2.2.2 t.2.2.2.1 t.2.2.2.2 = y4 at *
  have m0 := Below.refl V.heap.size V
  clear rd rt gs
  have kk := Lib.hid (k1.out V m0)
  have a0 := (Lib.cell_of_heap hA 0).trans rfl
  have b0 := (Lib.cell_of_heap hB 0).trans rfl
  clear k1
  go_wp2_with fail
  refine kk.out _ (Lib.hid fun w1 m1 => ?_)
  replace hA := (m1.block _ (blt hA)).trans hA
  replace hB := (m1.block _ (blt hB)).trans hB
  replace m0 := m0.trans (m1.mono m0.size)
  clear kk m1 a0 b0
  cases y1
  · rw [Bool.false_and, Bool.false_and, Bool.false_and] at hR
    have fin := Lib.hid (hR.out _ (n.trans (m0.mono n.size)))
    clear hR k2 k3 k4
    go_wp2_with fail
    exact fin.out
  rw [Bool.true_and] at hR
  have kk := Lib.hid (k2.out w1 m0)
  have a1 := (Lib.cell_of_heap hA 1).trans rfl
  have b1 := (Lib.cell_of_heap hB 1).trans rfl
  clear k2
  go_wp2_with fail
  refine kk.out _ (Lib.hid fun w2 m1 => ?_)
  replace hA := (m1.block _ (blt hA)).trans hA
  replace hB := (m1.block _ (blt hB)).trans hB
  replace m0 := m0.trans (m1.mono m0.size)
  clear kk m1 a1 b1
  cases y2
  · rw [Bool.false_and, Bool.false_and] at hR
    have fin := Lib.hid (hR.out _ (n.trans (m0.mono n.size)))
    clear hR k3 k4
    go_wp2_with fail
    exact fin.out
  rw [Bool.true_and] at hR
  have kk := Lib.hid (k3.out w2 m0)
  have a2 := (Lib.cell_of_heap hA 2).trans rfl
  have b2 := (Lib.cell_of_heap hB 2).trans rfl
  clear k3
  go_wp2_with fail
  refine kk.out _ (Lib.hid fun w3 m1 => ?_)
  replace hA := (m1.block _ (blt hA)).trans hA
  replace hB := (m1.block _ (blt hB)).trans hB
  replace m0 := m0.trans (m1.mono m0.size)
  clear kk m1 a2 b2
  cases y3
  · rw [Bool.false_and] at hR
    have fin := Lib.hid (hR.out _ (n.trans (m0.mono n.size)))
    clear hR k4
    go_wp2_with fail
    exact fin.out
  rw [Bool.true_and] at hR
  have kk := Lib.hid (k4.out w3 m0)
  clear k4
  have rT : w3.rangeAt w.heap.size 3 [.int .i64 s.2.2.2.1.kind, .int .i64 s.2.2.2.1.at_, .int .i64 s.2.2.2.1.lo, .int .i64 s.2.2.2.1.hi, .int .i64 s.2.2.2.1.most, .slice N1 s.2.2.2.1.names.length N3, .slice M1 s.2.2.2.2.len M3, .string s.2.2.2.1.name, .int .i64 s.2.2.2.1.nat] := fun j v h => by rw [Lib.cell_of_heap hA, List.getElem?_toArray, ← List.getElem?_drop]; exact h
  have rU : w3.rangeAt (w.heap.size + 1) 3 [.int .i64 t.2.2.2.1.kind, .int .i64 t.2.2.2.1.at_, .int .i64 t.2.2.2.1.lo, .int .i64 t.2.2.2.1.hi, .int .i64 t.2.2.2.1.most, .slice X1 t.2.2.2.1.names.length X3, .slice Y1 t.2.2.2.2.len Y3, .string t.2.2.2.1.name, .int .i64 t.2.2.2.1.nat] := fun j v h => by rw [Lib.cell_of_heap hB, List.getElem?_toArray, ← List.getElem?_drop]; exact h
  go_wp2_with (first | (refine wpList_load_g (by rfl) 30 _ rfl w.heap.size 3 rfl [.int .i64 s.2.2.2.1.kind, .int .i64 s.2.2.2.1.at_, .int .i64 s.2.2.2.1.lo, .int .i64 s.2.2.2.1.hi, .int .i64 s.2.2.2.1.most, .slice N1 s.2.2.2.1.names.length N3, .slice M1 s.2.2.2.2.len M3, .string s.2.2.2.1.name, .int .i64 s.2.2.2.1.nat] _ rT Tryz.underlying30 rfl (by kernel_rfl) ?_; go_simp) | (refine wpList_load_g (by rfl) 30 _ rfl (w.heap.size + 1) 3 rfl [.int .i64 t.2.2.2.1.kind, .int .i64 t.2.2.2.1.at_, .int .i64 t.2.2.2.1.lo, .int .i64 t.2.2.2.1.hi, .int .i64 t.2.2.2.1.most, .slice X1 t.2.2.2.1.names.length X3, .slice Y1 t.2.2.2.2.len Y3, .string t.2.2.2.1.name, .int .i64 t.2.2.2.1.nat] _ rU Tryz.underlying30 rfl (by kernel_rfl) ?_; go_simp))
  refine kk.out _ (Lib.hid fun w4 m1 => ?_)
  have fin := Lib.hid (hR.out _ (n.trans ((m0.trans (m1.mono m0.size)).mono n.size)))
  clear hR kk m1 rT rU
  go_wp2_with fail
  exact fin.out
end Go.Proofs.YtbochlbgjnmgjaaGreat.Unp
