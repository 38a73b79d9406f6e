import Derived.Test.YtbochlbgjnmgjaaGreatG20
import Derived.Test.YtbochlbgjnmgjaaGreatG3
/- Layer 17: all of some words. -/
set_option maxRecDepth 100000
set_option linter.unusedVariables false
namespace Go.Proofs.YtbochlbgjnmgjaaGreat.Unp
open Go.RowKit Go.Lib Go.Proofs.YtbochlbgjnmgjaaGreat.Nam Go.Proofs.YtbochlbgjnmgjaaGreat.Lat Go.Proofs.YtbochlbgjnmgjaaGreat.Kin Go.Proofs.YtbochlbgjnmgjaaGreat.Dig

theorem isF_allW1 : ∀ (args : Array Value) (w : World), (callFunc 109 args).run Tryz.prog w = .ok (.enter 109 args) w := by
  intro args w
  unfold callFunc
  simp [go_sem, Tryz.func109]
  rfl
theorem isF_goodW : ∀ (args : Array Value) (w : World), (callFunc 47 args).run Tryz.prog w = .ok (.enter 47 args) w := by
  intro args w
  unfold callFunc
  simp [go_sem, Tryz.func47]
  rfl
set_option maxRecDepth 100000 in
set_option maxHeartbeats 1000000 in
theorem allW1_calls (x : Wr) (hx : GoodW x) (B : Nat) (w : World) (hB : w.heap[B]? = some (.cells #[.func (.func 47) #[] #[]] 83)) (R : Ending → World → Prop)
    (hR : Hid (∀ w', Below w.heap.size w w' → R (.returned (.bool (!goodW x))) w')) : Calls Tryz.prog 109 #[.agg #[.string x.1, .int .i64 x.2], .pointer (some ⟨B, 0, none⟩)] w R := by
  have hA := heap_alloc_new w (.cells #[.string x.1, .int .i64 x.2] 28)
  have n := (Below.refl w.heap.size w).alloc (Nat.le_refl _) (.cells #[.string x.1, .int .i64 x.2] 28)
  have hB2 := (n.block _ (blt hB)).trans hB
  have isG := isF_goodW
  go_enter Tryz.func109, Tryz.ntmps109
  go_upto_region 1 with fail
  generalize w.alloc (.cells #[.string x.1, .int .i64 x.2] 28) = V at *
  generalize w.heap.size = P at hA ⊢
  have cG := Lib.hid fun R hR => isname_calls x hx.1 V R hR
  have b0 := (Lib.cell_of_heap hB2 0).trans rfl
  have rx : V.rangeAt P 0 [.string x.1, .int .i64 x.2] := fun j v e => by rw [Nat.zero_add, Lib.cell_of_heap hA]; simpa using e
  have a0 := (Lib.cell_of_heap hA 0).trans rfl
  have a1 := (Lib.cell_of_heap hA 1).trans rfl
  clear hB
  go_wp2_with (refine wpList_load_g (by rfl) 28 _ rfl P 0 rfl [.string x.1, .int .i64 x.2] _ rx Tryz.underlying28 rfl (by kernel_rfl) ?_; go_simp)
  refine cG.out _ (Lib.hid fun w1 m1 => ?_)
  have fin := Lib.hid (hR.out _ (n.trans (m1.mono n.size)))
  clear hR m1 cG
  generalize goodW x = y at *
  go_wp2_with fail
  exact fin.out
set_option maxRecDepth 100000 in
set_option maxHeartbeats 2000000 in
theorem idxW_calls (P : Wr → Bool) (B : Nat) (l : List Wr) (v : Value) (w : World) (hr : RdW w v l) (hl : l.length ≤ maxLen) (hE : Hid (∀ x ∈ l, ∀ (W : World), Below w.heap.size w W → ∀ R : Ending → World → Prop, Hid (∀ w', Below W.heap.size W w' → R (.returned (.bool (!P x))) w') → Calls Tryz.prog 109 #[.agg #[.string x.1, .int .i64 x.2], .pointer (some ⟨B, 0, none⟩)] W R)) (R : Ending → World → Prop)
    (hR : Hid (∀ w' V, Below w.heap.size w w' → ((0 : Int) ≤ V ↔ l.any (fun x => !P x) = true) → R (.returned (.int .i64 V)) w')) : Calls Tryz.prog 177 #[v, .func (.func 109) #[] #[.pointer (some ⟨B, 0, none⟩)]] w R := by
  replace hl : l.length ≤ 9223372036854775807 := hl
  have isN := isF_allW1
  obtain ⟨A, c, rfl, hlc, hca0⟩ := hr.op
  replace hca0 := Lib.hid hca0
  clear hr
  go_enter Tryz.func177, Tryz.ntmps177
  go_wp2_with fail
  go_loopg [5, 8] l.length (fun k s5 i wr => ∃ (K : Nat), Hid (Below w.heap.size w wr) ∧ i = .int .i64 K ∧ K + k = l.length ∧ Hid (∀ j, j < K → (!P (wN l j)) = false))
  case atStart => exact ⟨0, Lib.hid (Below.refl _ _), rfl, by omega, Lib.hid fun j h => by omega⟩
  case round =>
    obtain ⟨K, hbel, rfl, c1, c2⟩ := hrel
    have hsz := hbel.out.size
    by_cases hK : K < l.length
    · obtain ⟨g, o, rfl, hg1, hca⟩ := hca0.out (by omega)
      have rx : wr.rangeAt g (o + K * 2) [.string (wN l K).1, .int .i64 (wN l K).2] := fun j v h => (hbel.out.cell (p := ⟨g, o + K * 2 + j, none⟩) hg1).trans (by
        have hc := hca K hK
        match j, h with
        | 0, h => simp only [List.getElem?_cons_zero, List.getElem?_cons_succ, Option.some.injEq] at h; rw [← h]; exact hc.1
        | 1, h => simp only [List.getElem?_cons_zero, List.getElem?_cons_succ, Option.some.injEq] at h; rw [← h]; exact hc.2
        | j + 2, h => simp at h)
      have cW := fun R hR => hE.out (wN l K) (mem_wN hK) wr hbel.out R hR
      have i0 : (0 : Int) ≤ (K : Int) := by omega
      have i1 : (K : Int) < (l.length : Int) := by omega
      have hbad : (!P (wN l K)) = true → l.any (fun x => !P x) = true := fun h => List.any_eq_true.2 ⟨_, mem_wN hK, h⟩
      have hgood : (!P (wN l K)) = false → ∀ j, j < K + 1 → (!P (wN l j)) = false := fun h j hj => by
        rcases Nat.eq_or_lt_of_le (Nat.le_of_lt_succ hj) with e | q
        · subst e; exact h
        · exact c2.out j q
      clear hca c2
      generalize (!P (wN l K)) = y at *
      generalize wN l K = x at *
      replace cW := Lib.hid cW
      cases y
      · have q := Lib.hid (hgood rfl)
        clear hbad hgood
        go_wp2_with (refine wpList_load_g (by rfl) 28 _ rfl g (o + K * 2) rfl [.string x.1, .int .i64 x.2] _ rx Tryz.underlying28 rfl (by kernel_rfl) ?_; go_simp)
        refine cW.out _ (Lib.hid fun w1 n1 => ?_)
        have n2 := Lib.hid (hbel.out.trans (n1.mono hsz))
        clear n1 rx cW
        go_wp2_with fail
        go_roundg (gk - 1)
        case measure => omega
        case rel => exact ⟨K + 1, n2, by go_num, by omega, q⟩
      · have q := Lib.hid (hbad rfl)
        clear hbad hgood
        go_wp2_with (refine wpList_load_g (by rfl) 28 _ rfl g (o + K * 2) rfl [.string x.1, .int .i64 x.2] _ rx Tryz.underlying28 rfl (by kernel_rfl) ?_; go_simp)
        refine cW.out _ (Lib.hid fun w1 n1 => ?_)
        have n2 := Lib.hid (hbel.out.trans (n1.mono hsz))
        clear n1 rx cW
        go_wp2_with fail
        exact hR.out _ _ n2.out ⟨fun _ => q.out, fun _ => by omega⟩
    · have e := Lib.hid (any_wN (P := fun x => !P x) fun j hj => c2.out j (by omega))
      clear c2
      go_wp2_with fail
      exact hR.out _ _ hbel.out ⟨fun h => by omega, fun h => by rw [e.out] at h; cases h⟩
set_option maxRecDepth 100000 in
set_option maxHeartbeats 1000000 in
theorem contW_calls (P : Wr → Bool) (B : Nat) (l : List Wr) (v : Value) (w : World) (hr : RdW w v l) (hl : l.length ≤ maxLen) (hE : Hid (∀ x ∈ l, ∀ (W : World), Below w.heap.size w W → ∀ R : Ending → World → Prop, Hid (∀ w', Below W.heap.size W w' → R (.returned (.bool (!P x))) w') → Calls Tryz.prog 109 #[.agg #[.string x.1, .int .i64 x.2], .pointer (some ⟨B, 0, none⟩)] W R)) (R : Ending → World → Prop)
    (hR : Hid (∀ w', Below w.heap.size w w' → R (.returned (.bool (l.any (fun x => !P x)))) w')) : Calls Tryz.prog 108 #[v, .func (.func 109) #[] #[.pointer (some ⟨B, 0, none⟩)]] w R := by
  obtain ⟨D, hD⟩ : ∃ D, l.any (fun x => !P x) = D := ⟨_, rfl⟩
  have cI := fun R hR => idxW_calls P B l v w hr hl hE R hR
  rw [hD] at hR cI
  obtain ⟨A, c, rfl, hlc, -⟩ := hr.op
  clear hr hD hE
  replace cI := Lib.hid cI
  go_enter Tryz.func108, Tryz.ntmps108
  go_wp2_with fail
  refine cI.out _ (Lib.hid fun w1 V n1 hV => ?_)
  have e : D = decide (0 ≤ V) := by
    cases D
    · rw [eq_comm, decide_eq_false_iff_not]; exact fun h => absurd (hV.1 h) (by decide)
    · rw [eq_comm, decide_eq_true_iff]; exact hV.2 rfl
  rw [e] at hR
  clear e hV cI
  go_wp2_with fail
  exact hR.out _ n1
set_option maxRecDepth 100000 in
set_option maxHeartbeats 1000000 in
theorem allW_calls (l : List Wr) (hg : ∀ x ∈ l, GoodW x) (v : Value) (w : World) (hr : RdW w v l) (hl : l.length ≤ maxLen) (R : Ending → World → Prop)
    (hR : Hid (∀ w', Below w.heap.size w w' → R (.returned (.bool (l.all goodW))) w')) : Calls Tryz.prog 46 #[v, .func (.func 47) #[] #[]] w R := by
  have hA := heap_alloc_new w (.cells #[.func (.func 47) #[] #[]] 83)
  have n := (Below.refl w.heap.size w).alloc (Nat.le_refl _) (.cells #[.func (.func 47) #[] #[]] 83)
  have hr2 : RdW (w.alloc (.cells #[.func (.func 47) #[] #[]] 83)) v l := RdW.kp (Kp.of_below n) hr
  have hE := Lib.hid fun x hx (W : World) (m : Below (w.alloc (.cells #[.func (.func 47) #[] #[]] 83)).heap.size (w.alloc (.cells #[.func (.func 47) #[] #[]] 83)) W)  R hR => allW1_calls x (hg x hx)  w.heap.size W ((m.block _ (blt hA)).trans hA)  R hR
  have cC := Lib.hid fun R hR => contW_calls goodW w.heap.size l v (w.alloc (.cells #[.func (.func 47) #[] #[]] 83)) hr2 hl hE R hR
  obtain ⟨A, c, rfl, -, -⟩ := hr.op
  rw [all_any] at hR
  generalize (l.any fun x => !goodW x) = y at *
  have hmf : ∀ (fn : Fn) (first cap : Array Value) (w : World), (Instr.makeFunc fn first cap).run Tryz.prog w = .ok (.func fn first cap) w := fun _ _ _ _ => rfl
  clear hA hr hr2 hE
  go_enter Tryz.func46, Tryz.ntmps46
  go_wp2_with fail
  refine cC.out _ (Lib.hid fun w1 m1 => ?_)
  have fin := Lib.hid (hR.out _ (n.trans (m1.mono n.size)))
  clear hR m1 cC
  go_wp2_with fail
  exact fin.out
end Go.Proofs.YtbochlbgjnmgjaaGreat.Unp

/- Layer 17: all of some pairs. -/
set_option maxRecDepth 100000
set_option linter.unusedVariables false
namespace Go.Proofs.YtbochlbgjnmgjaaGreat.Unp
open Go.RowKit Go.Lib Go.Proofs.YtbochlbgjnmgjaaGreat.Nam Go.Proofs.YtbochlbgjnmgjaaGreat.Lat Go.Proofs.YtbochlbgjnmgjaaGreat.Kin Go.Proofs.YtbochlbgjnmgjaaGreat.Dig

theorem isF_allP1 : ∀ (args : Array Value) (w : World), (callFunc 112 args).run Tryz.prog w = .ok (.enter 112 args) w := by
  intro args w
  unfold callFunc
  simp [go_sem, Tryz.func112]
  rfl
theorem isF_goodP : ∀ (args : Array Value) (w : World), (callFunc 49 args).run Tryz.prog w = .ok (.enter 49 args) w := by
  intro args w
  unfold callFunc
  simp [go_sem, Tryz.func49]
  rfl
set_option maxRecDepth 100000 in
set_option maxHeartbeats 1000000 in
theorem allP1_calls (x : Pr) (hx : GoodP x) (B : Nat) (w : World) (hB : w.heap[B]? = some (.cells #[.func (.func 49) #[] #[]] 85)) (R : Ending → World → Prop)
    (hR : Hid (∀ w', Below w.heap.size w w' → R (.returned (.bool (!goodP x))) w')) : Calls Tryz.prog 112 #[.agg #[.string x.1.1, .int .i64 x.1.2, .string x.2.1, .int .i64 x.2.2], .pointer (some ⟨B, 0, none⟩)] w R := by
  have hA := heap_alloc_new w (.cells #[.string x.1.1, .int .i64 x.1.2, .string x.2.1, .int .i64 x.2.2] 65)
  have n := (Below.refl w.heap.size w).alloc (Nat.le_refl _) (.cells #[.string x.1.1, .int .i64 x.1.2, .string x.2.1, .int .i64 x.2.2] 65)
  have hB2 := (n.block _ (blt hB)).trans hB
  have isG := isF_goodP
  go_enter Tryz.func112, Tryz.ntmps112
  go_upto_region 1 with fail
  generalize w.alloc (.cells #[.string x.1.1, .int .i64 x.1.2, .string x.2.1, .int .i64 x.2.2] 65) = V at *
  generalize w.heap.size = P at hA ⊢
  have cG := Lib.hid fun R hR => gpair_calls x hx V R hR
  have b0 := (Lib.cell_of_heap hB2 0).trans rfl
  have rx : V.rangeAt P 0 [.string x.1.1, .int .i64 x.1.2, .string x.2.1, .int .i64 x.2.2] := fun j v e => by rw [Nat.zero_add, Lib.cell_of_heap hA]; simpa using e
  have a0 := (Lib.cell_of_heap hA 0).trans rfl
  have a1 := (Lib.cell_of_heap hA 1).trans rfl
  have a2 := (Lib.cell_of_heap hA 2).trans rfl
  have a3 := (Lib.cell_of_heap hA 3).trans rfl
  clear hB
  go_wp2_with (refine wpList_load_g (by rfl) 65 _ rfl P 0 rfl [.string x.1.1, .int .i64 x.1.2, .string x.2.1, .int .i64 x.2.2] _ rx Tryz.underlying65 rfl (by kernel_rfl) ?_; go_simp)
  refine cG.out _ (Lib.hid fun w1 m1 => ?_)
  have fin := Lib.hid (hR.out _ (n.trans (m1.mono n.size)))
  clear hR m1 cG
  generalize goodP x = y at *
  go_wp2_with fail
  exact fin.out
set_option maxRecDepth 100000 in
set_option maxHeartbeats 2000000 in
theorem idxP_calls (P : Pr → Bool) (B : Nat) (l : List Pr) (v : Value) (w : World) (hr : RdPr w v l) (hl : l.length ≤ maxLen) (hE : Hid (∀ x ∈ l, ∀ (W : World), Below w.heap.size w W → ∀ R : Ending → World → Prop, Hid (∀ w', Below W.heap.size W w' → R (.returned (.bool (!P x))) w') → Calls Tryz.prog 112 #[.agg #[.string x.1.1, .int .i64 x.1.2, .string x.2.1, .int .i64 x.2.2], .pointer (some ⟨B, 0, none⟩)] W R)) (R : Ending → World → Prop)
    (hR : Hid (∀ w' V, Below w.heap.size w w' → ((0 : Int) ≤ V ↔ l.any (fun x => !P x) = true) → R (.returned (.int .i64 V)) w')) : Calls Tryz.prog 179 #[v, .func (.func 112) #[] #[.pointer (some ⟨B, 0, none⟩)]] w R := by
  replace hl : l.length ≤ 9223372036854775807 := hl
  have isN := isF_allP1
  obtain ⟨A, c, rfl, hlc, hca0⟩ := hr.op
  replace hca0 := Lib.hid hca0
  clear hr
  go_enter Tryz.func179, Tryz.ntmps179
  go_wp2_with fail
  go_loopg [5, 8] l.length (fun k s5 i wr => ∃ (K : Nat), Hid (Below w.heap.size w wr) ∧ i = .int .i64 K ∧ K + k = l.length ∧ Hid (∀ j, j < K → (!P (pN l j)) = false))
  case atStart => exact ⟨0, Lib.hid (Below.refl _ _), rfl, by omega, Lib.hid fun j h => by omega⟩
  case round =>
    obtain ⟨K, hbel, rfl, c1, c2⟩ := hrel
    have hsz := hbel.out.size
    by_cases hK : K < l.length
    · obtain ⟨g, o, rfl, hg1, hca⟩ := hca0.out (by omega)
      have rx : wr.rangeAt g (o + K * 4) [.string (pN l K).1.1, .int .i64 (pN l K).1.2, .string (pN l K).2.1, .int .i64 (pN l K).2.2] := fun j v h => (hbel.out.cell (p := ⟨g, o + K * 4 + j, none⟩) hg1).trans (by
        have hc := hca K hK
        match j, h with
        | 0, h => simp only [List.getElem?_cons_zero, List.getElem?_cons_succ, Option.some.injEq] at h; rw [← h]; exact hc.1
        | 1, h => simp only [List.getElem?_cons_zero, List.getElem?_cons_succ, Option.some.injEq] at h; rw [← h]; exact hc.2.1
        | 2, h => simp only [List.getElem?_cons_zero, List.getElem?_cons_succ, Option.some.injEq] at h; rw [← h]; exact hc.2.2.1
        | 3, h => simp only [List.getElem?_cons_zero, List.getElem?_cons_succ, Option.some.injEq] at h; rw [← h]; exact hc.2.2.2
        | j + 4, h => simp at h)
      have cW := fun R hR => hE.out (pN l K) (mem_pN hK) wr hbel.out R hR
      have i0 : (0 : Int) ≤ (K : Int) := by omega
      have i1 : (K : Int) < (l.length : Int) := by omega
      have hbad : (!P (pN l K)) = true → l.any (fun x => !P x) = true := fun h => List.any_eq_true.2 ⟨_, mem_pN hK, h⟩
      have hgood : (!P (pN l K)) = false → ∀ j, j < K + 1 → (!P (pN l j)) = false := fun h j hj => by
        rcases Nat.eq_or_lt_of_le (Nat.le_of_lt_succ hj) with e | q
        · subst e; exact h
        · exact c2.out j q
      clear hca c2
      generalize (!P (pN l K)) = y at *
      generalize pN l K = x at *
      replace cW := Lib.hid cW
      cases y
      · have q := Lib.hid (hgood rfl)
        clear hbad hgood
        go_wp2_with (refine wpList_load_g (by rfl) 65 _ rfl g (o + K * 4) rfl [.string x.1.1, .int .i64 x.1.2, .string x.2.1, .int .i64 x.2.2] _ rx Tryz.underlying65 rfl (by kernel_rfl) ?_; go_simp)
        refine cW.out _ (Lib.hid fun w1 n1 => ?_)
        have n2 := Lib.hid (hbel.out.trans (n1.mono hsz))
        clear n1 rx cW
        go_wp2_with fail
        go_roundg (gk - 1)
        case measure => omega
        case rel => exact ⟨K + 1, n2, by go_num, by omega, q⟩
      · have q := Lib.hid (hbad rfl)
        clear hbad hgood
        go_wp2_with (refine wpList_load_g (by rfl) 65 _ rfl g (o + K * 4) rfl [.string x.1.1, .int .i64 x.1.2, .string x.2.1, .int .i64 x.2.2] _ rx Tryz.underlying65 rfl (by kernel_rfl) ?_; go_simp)
        refine cW.out _ (Lib.hid fun w1 n1 => ?_)
        have n2 := Lib.hid (hbel.out.trans (n1.mono hsz))
        clear n1 rx cW
        go_wp2_with fail
        exact hR.out _ _ n2.out ⟨fun _ => q.out, fun _ => by omega⟩
    · have e := Lib.hid (any_pN (P := fun x => !P x) fun j hj => c2.out j (by omega))
      clear c2
      go_wp2_with fail
      exact hR.out _ _ hbel.out ⟨fun h => by omega, fun h => by rw [e.out] at h; cases h⟩
set_option maxRecDepth 100000 in
set_option maxHeartbeats 1000000 in
theorem contP_calls (P : Pr → Bool) (B : Nat) (l : List Pr) (v : Value) (w : World) (hr : RdPr w v l) (hl : l.length ≤ maxLen) (hE : Hid (∀ x ∈ l, ∀ (W : World), Below w.heap.size w W → ∀ R : Ending → World → Prop, Hid (∀ w', Below W.heap.size W w' → R (.returned (.bool (!P x))) w') → Calls Tryz.prog 112 #[.agg #[.string x.1.1, .int .i64 x.1.2, .string x.2.1, .int .i64 x.2.2], .pointer (some ⟨B, 0, none⟩)] W R)) (R : Ending → World → Prop)
    (hR : Hid (∀ w', Below w.heap.size w w' → R (.returned (.bool (l.any (fun x => !P x)))) w')) : Calls Tryz.prog 111 #[v, .func (.func 112) #[] #[.pointer (some ⟨B, 0, none⟩)]] w R := by
  obtain ⟨D, hD⟩ : ∃ D, l.any (fun x => !P x) = D := ⟨_, rfl⟩
  have cI := fun R hR => idxP_calls P B l v w hr hl hE R hR
  rw [hD] at hR cI
  obtain ⟨A, c, rfl, hlc, -⟩ := hr.op
  clear hr hD hE
  replace cI := Lib.hid cI
  go_enter Tryz.func111, Tryz.ntmps111
  go_wp2_with fail
  refine cI.out _ (Lib.hid fun w1 V n1 hV => ?_)
  have e : D = decide (0 ≤ V) := by
    cases D
    · rw [eq_comm, decide_eq_false_iff_not]; exact fun h => absurd (hV.1 h) (by decide)
    · rw [eq_comm, decide_eq_true_iff]; exact hV.2 rfl
  rw [e] at hR
  clear e hV cI
  go_wp2_with fail
  exact hR.out _ n1
set_option maxRecDepth 100000 in
set_option maxHeartbeats 1000000 in
theorem allP_calls (l : List Pr) (hg : ∀ x ∈ l, GoodP x) (v : Value) (w : World) (hr : RdPr w v l) (hl : l.length ≤ maxLen) (R : Ending → World → Prop)
    (hR : Hid (∀ w', Below w.heap.size w w' → R (.returned (.bool (l.all goodP))) w')) : Calls Tryz.prog 48 #[v, .func (.func 49) #[] #[]] w R := by
  have hA := heap_alloc_new w (.cells #[.func (.func 49) #[] #[]] 85)
  have n := (Below.refl w.heap.size w).alloc (Nat.le_refl _) (.cells #[.func (.func 49) #[] #[]] 85)
  have hr2 : RdPr (w.alloc (.cells #[.func (.func 49) #[] #[]] 85)) v l := RdAt.kp (Kp.of_below n) hr
  have hE := Lib.hid fun x hx (W : World) (m : Below (w.alloc (.cells #[.func (.func 49) #[] #[]] 85)).heap.size (w.alloc (.cells #[.func (.func 49) #[] #[]] 85)) W)  R hR => allP1_calls x (hg x hx)  w.heap.size W ((m.block _ (blt hA)).trans hA)  R hR
  have cC := Lib.hid fun R hR => contP_calls goodP w.heap.size l v (w.alloc (.cells #[.func (.func 49) #[] #[]] 85)) hr2 hl hE R hR
  obtain ⟨A, c, rfl, -, -⟩ := hr.op
  rw [all_any] at hR
  generalize (l.any fun x => !goodP x) = y at *
  have hmf : ∀ (fn : Fn) (first cap : Array Value) (w : World), (Instr.makeFunc fn first cap).run Tryz.prog w = .ok (.func fn first cap) w := fun _ _ _ _ => rfl
  clear hA hr hr2 hE
  go_enter Tryz.func48, Tryz.ntmps48
  go_wp2_with fail
  refine cC.out _ (Lib.hid fun w1 m1 => ?_)
  have fin := Lib.hid (hR.out _ (n.trans (m1.mono n.size)))
  clear hR m1 cC
  go_wp2_with fail
  exact fin.out
end Go.Proofs.YtbochlbgjnmgjaaGreat.Unp

/- Layer 17: all of some named types. -/
set_option maxRecDepth 100000
set_option linter.unusedVariables false
namespace Go.Proofs.YtbochlbgjnmgjaaGreat.Unp
open Go.RowKit Go.Lib Go.Proofs.YtbochlbgjnmgjaaGreat.Nam Go.Proofs.YtbochlbgjnmgjaaGreat.Lat Go.Proofs.YtbochlbgjnmgjaaGreat.Kin Go.Proofs.YtbochlbgjnmgjaaGreat.Dig

theorem isF_allN1 : ∀ (args : Array Value) (w : World), (callFunc 114 args).run Tryz.prog w = .ok (.enter 114 args) w := by
  intro args w
  unfold callFunc
  simp [go_sem, Tryz.func114]
  rfl
theorem isF_goodN : ∀ (args : Array Value) (w : World), (callFunc 51 args).run Tryz.prog w = .ok (.enter 51 args) w := by
  intro args w
  unfold callFunc
  simp [go_sem, Tryz.func51]
  rfl
set_option maxRecDepth 100000 in
set_option maxHeartbeats 1000000 in
theorem allN1_calls (x : Nd) (hx : GoodN x) (nv pv : Value) (B : Nat) (w : World) (hB : w.heap[B]? = some (.cells #[.func (.func 51) #[] #[]] 87)) (hy : RdY w x.2.1 x.2.2 nv pv) (R : Ending → World → Prop)
    (hR : Hid (∀ w', Below w.heap.size w w' → R (.returned (.bool (!goodN x))) w')) : Calls Tryz.prog 114 #[.agg #[.string x.1.1, .int .i64 x.1.2, .int .i64 x.2.1.kind, .int .i64 x.2.1.at_, .int .i64 x.2.1.lo, .int .i64 x.2.1.hi, .int .i64 x.2.1.most, nv, pv, .string x.2.1.name, .int .i64 x.2.1.nat], .pointer (some ⟨B, 0, none⟩)] w R := by
  obtain ⟨N1, N3, rfl, -, -⟩ := hy.n.op
  obtain ⟨M1, M3, rfl, -⟩ := hy.p.sl
  have hA := heap_alloc_new w (.cells #[.string x.1.1, .int .i64 x.1.2, .int .i64 x.2.1.kind, .int .i64 x.2.1.at_, .int .i64 x.2.1.lo, .int .i64 x.2.1.hi, .int .i64 x.2.1.most, .slice N1 x.2.1.names.length N3, .slice M1 x.2.2.len M3, .string x.2.1.name, .int .i64 x.2.1.nat] 67)
  have n := (Below.refl w.heap.size w).alloc (Nat.le_refl _) (.cells #[.string x.1.1, .int .i64 x.1.2, .int .i64 x.2.1.kind, .int .i64 x.2.1.at_, .int .i64 x.2.1.lo, .int .i64 x.2.1.hi, .int .i64 x.2.1.most, .slice N1 x.2.1.names.length N3, .slice M1 x.2.2.len M3, .string x.2.1.name, .int .i64 x.2.1.nat] 67)
  have hB2 := (n.block _ (blt hB)).trans hB
  have isG := isF_goodN
  replace hy := hy.below n
  go_enter Tryz.func114, Tryz.ntmps114
  go_upto_region 1 with fail
  generalize w.alloc (.cells #[.string x.1.1, .int .i64 x.1.2, .int .i64 x.2.1.kind, .int .i64 x.2.1.at_, .int .i64 x.2.1.lo, .int .i64 x.2.1.hi, .int .i64 x.2.1.most, .slice N1 x.2.1.names.length N3, .slice M1 x.2.2.len M3, .string x.2.1.name, .int .i64 x.2.1.nat] 67) = V at *
  generalize w.heap.size = P at hA ⊢
  have cG := Lib.hid fun R hR => gnamed_calls x hx (.slice N1 x.2.1.names.length N3) (.slice M1 x.2.2.len M3) V hy R hR
  have b0 := (Lib.cell_of_heap hB2 0).trans rfl
  have rx : V.rangeAt P 0 [.string x.1.1, .int .i64 x.1.2, .int .i64 x.2.1.kind, .int .i64 x.2.1.at_, .int .i64 x.2.1.lo, .int .i64 x.2.1.hi, .int .i64 x.2.1.most, .slice N1 x.2.1.names.length N3, .slice M1 x.2.2.len M3, .string x.2.1.name, .int .i64 x.2.1.nat] := fun j v e => by rw [Nat.zero_add, Lib.cell_of_heap hA]; simpa using e
  clear hB
  go_wp2_with (refine wpList_load_g (by rfl) 67 _ rfl P 0 rfl [.string x.1.1, .int .i64 x.1.2, .int .i64 x.2.1.kind, .int .i64 x.2.1.at_, .int .i64 x.2.1.lo, .int .i64 x.2.1.hi, .int .i64 x.2.1.most, .slice N1 x.2.1.names.length N3, .slice M1 x.2.2.len M3, .string x.2.1.name, .int .i64 x.2.1.nat] _ rx Tryz.underlying67 rfl (by kernel_rfl) ?_; go_simp)
  refine cG.out _ (Lib.hid fun w1 m1 => ?_)
  have fin := Lib.hid (hR.out _ (n.trans (m1.mono n.size)))
  clear hR m1 cG
  generalize goodN x = y at *
  go_wp2_with fail
  exact fin.out
set_option maxRecDepth 100000 in
set_option maxHeartbeats 2000000 in
theorem idxN_calls (P : Nd → Bool) (B : Nat) (l : List Nd) (v : Value) (w : World) (hr : RdNs w v l) (hl : l.length ≤ maxLen) (hE : Hid (∀ x ∈ l, ∀ (nv pv : Value) (W : World), Below w.heap.size w W → RdY W x.2.1 x.2.2 nv pv → ∀ R : Ending → World → Prop, Hid (∀ w', Below W.heap.size W w' → R (.returned (.bool (!P x))) w') → Calls Tryz.prog 114 #[.agg #[.string x.1.1, .int .i64 x.1.2, .int .i64 x.2.1.kind, .int .i64 x.2.1.at_, .int .i64 x.2.1.lo, .int .i64 x.2.1.hi, .int .i64 x.2.1.most, nv, pv, .string x.2.1.name, .int .i64 x.2.1.nat], .pointer (some ⟨B, 0, none⟩)] W R)) (R : Ending → World → Prop)
    (hR : Hid (∀ w' V, Below w.heap.size w w' → ((0 : Int) ≤ V ↔ l.any (fun x => !P x) = true) → R (.returned (.int .i64 V)) w')) : Calls Tryz.prog 180 #[v, .func (.func 114) #[] #[.pointer (some ⟨B, 0, none⟩)]] w R := by
  replace hl : l.length ≤ 9223372036854775807 := hl
  have isN := isF_allN1
  obtain ⟨A, c, rfl, hlc, hca0⟩ := hr.op
  replace hca0 := Lib.hid hca0
  clear hr
  go_enter Tryz.func180, Tryz.ntmps180
  go_wp2_with fail
  go_loopg [5, 8] l.length (fun k s5 i wr => ∃ (K : Nat), Hid (Below w.heap.size w wr) ∧ i = .int .i64 K ∧ K + k = l.length ∧ Hid (∀ j, j < K → (!P (nN l j)) = false))
  case atStart => exact ⟨0, Lib.hid (Below.refl _ _), rfl, by omega, Lib.hid fun j h => by omega⟩
  case round =>
    obtain ⟨K, hbel, rfl, c1, c2⟩ := hrel
    have hsz := hbel.out.size
    by_cases hK : K < l.length
    · obtain ⟨g, o, rfl, hg1, hca⟩ := hca0.out (by omega)
      obtain ⟨nv, pv, hy, hc⟩ := hca K hK
      obtain ⟨N1, N3, rfl, -, -⟩ := hy.n.op
      obtain ⟨M1, M3, rfl, -⟩ := hy.p.sl
      have rx : wr.rangeAt g (o + K * 11) [.string (nN l K).1.1, .int .i64 (nN l K).1.2, .int .i64 (nN l K).2.1.kind, .int .i64 (nN l K).2.1.at_, .int .i64 (nN l K).2.1.lo, .int .i64 (nN l K).2.1.hi, .int .i64 (nN l K).2.1.most, .slice N1 (nN l K).2.1.names.length N3, .slice M1 (nN l K).2.2.len M3, .string (nN l K).2.1.name, .int .i64 (nN l K).2.1.nat] := fun j v h => (hbel.out.cell (p := ⟨g, o + K * 11 + j, none⟩) hg1).trans (hc j v h)
      have cW := fun R hR => hE.out (nN l K) (mem_nN hK) (.slice N1 (nN l K).2.1.names.length N3) (.slice M1 (nN l K).2.2.len M3) wr hbel.out (hy.below hbel.out) R hR
      clear hc hy
      have i0 : (0 : Int) ≤ (K : Int) := by omega
      have i1 : (K : Int) < (l.length : Int) := by omega
      have hbad : (!P (nN l K)) = true → l.any (fun x => !P x) = true := fun h => List.any_eq_true.2 ⟨_, mem_nN hK, h⟩
      have hgood : (!P (nN l K)) = false → ∀ j, j < K + 1 → (!P (nN l j)) = false := fun h j hj => by
        rcases Nat.eq_or_lt_of_le (Nat.le_of_lt_succ hj) with e | q
        · subst e; exact h
        · exact c2.out j q
      clear hca c2
      generalize (!P (nN l K)) = y at *
      generalize nN l K = x at *
      replace cW := Lib.hid cW
      cases y
      · have q := Lib.hid (hgood rfl)
        clear hbad hgood
        go_wp2_with (refine wpList_load_g (by rfl) 67 _ rfl g (o + K * 11) rfl [.string x.1.1, .int .i64 x.1.2, .int .i64 x.2.1.kind, .int .i64 x.2.1.at_, .int .i64 x.2.1.lo, .int .i64 x.2.1.hi, .int .i64 x.2.1.most, .slice N1 x.2.1.names.length N3, .slice M1 x.2.2.len M3, .string x.2.1.name, .int .i64 x.2.1.nat] _ rx Tryz.underlying67 rfl (by kernel_rfl) ?_; go_simp)
        refine cW.out _ (Lib.hid fun w1 n1 => ?_)
        have n2 := Lib.hid (hbel.out.trans (n1.mono hsz))
        clear n1 rx cW
        go_wp2_with fail
        go_roundg (gk - 1)
        case measure => omega
        case rel => exact ⟨K + 1, n2, by go_num, by omega, q⟩
      · have q := Lib.hid (hbad rfl)
        clear hbad hgood
        go_wp2_with (refine wpList_load_g (by rfl) 67 _ rfl g (o + K * 11) rfl [.string x.1.1, .int .i64 x.1.2, .int .i64 x.2.1.kind, .int .i64 x.2.1.at_, .int .i64 x.2.1.lo, .int .i64 x.2.1.hi, .int .i64 x.2.1.most, .slice N1 x.2.1.names.length N3, .slice M1 x.2.2.len M3, .string x.2.1.name, .int .i64 x.2.1.nat] _ rx Tryz.underlying67 rfl (by kernel_rfl) ?_; go_simp)
        refine cW.out _ (Lib.hid fun w1 n1 => ?_)
        have n2 := Lib.hid (hbel.out.trans (n1.mono hsz))
        clear n1 rx cW
        go_wp2_with fail
        exact hR.out _ _ n2.out ⟨fun _ => q.out, fun _ => by omega⟩
    · have e := Lib.hid (any_nN (P := fun x => !P x) fun j hj => c2.out j (by omega))
      clear c2
      go_wp2_with fail
      exact hR.out _ _ hbel.out ⟨fun h => by omega, fun h => by rw [e.out] at h; cases h⟩
set_option maxRecDepth 100000 in
set_option maxHeartbeats 1000000 in
theorem contN_calls (P : Nd → Bool) (B : Nat) (l : List Nd) (v : Value) (w : World) (hr : RdNs w v l) (hl : l.length ≤ maxLen) (hE : Hid (∀ x ∈ l, ∀ (nv pv : Value) (W : World), Below w.heap.size w W → RdY W x.2.1 x.2.2 nv pv → ∀ R : Ending → World → Prop, Hid (∀ w', Below W.heap.size W w' → R (.returned (.bool (!P x))) w') → Calls Tryz.prog 114 #[.agg #[.string x.1.1, .int .i64 x.1.2, .int .i64 x.2.1.kind, .int .i64 x.2.1.at_, .int .i64 x.2.1.lo, .int .i64 x.2.1.hi, .int .i64 x.2.1.most, nv, pv, .string x.2.1.name, .int .i64 x.2.1.nat], .pointer (some ⟨B, 0, none⟩)] W R)) (R : Ending → World → Prop)
    (hR : Hid (∀ w', Below w.heap.size w w' → R (.returned (.bool (l.any (fun x => !P x)))) w')) : Calls Tryz.prog 113 #[v, .func (.func 114) #[] #[.pointer (some ⟨B, 0, none⟩)]] w R := by
  obtain ⟨D, hD⟩ : ∃ D, l.any (fun x => !P x) = D := ⟨_, rfl⟩
  have cI := fun R hR => idxN_calls P B l v w hr hl hE R hR
  rw [hD] at hR cI
  obtain ⟨A, c, rfl, hlc, -⟩ := hr.op
  clear hr hD hE
  replace cI := Lib.hid cI
  go_enter Tryz.func113, Tryz.ntmps113
  go_wp2_with fail
  refine cI.out _ (Lib.hid fun w1 V n1 hV => ?_)
  have e : D = decide (0 ≤ V) := by
    cases D
    · rw [eq_comm, decide_eq_false_iff_not]; exact fun h => absurd (hV.1 h) (by decide)
    · rw [eq_comm, decide_eq_true_iff]; exact hV.2 rfl
  rw [e] at hR
  clear e hV cI
  go_wp2_with fail
  exact hR.out _ n1
set_option maxRecDepth 100000 in
set_option maxHeartbeats 1000000 in
theorem allN_calls (l : List Nd) (hg : ∀ x ∈ l, GoodN x) (v : Value) (w : World) (hr : RdNs w v l) (hl : l.length ≤ maxLen) (R : Ending → World → Prop)
    (hR : Hid (∀ w', Below w.heap.size w w' → R (.returned (.bool (l.all goodN))) w')) : Calls Tryz.prog 50 #[v, .func (.func 51) #[] #[]] w R := by
  have hA := heap_alloc_new w (.cells #[.func (.func 51) #[] #[]] 87)
  have n := (Below.refl w.heap.size w).alloc (Nat.le_refl _) (.cells #[.func (.func 51) #[] #[]] 87)
  have hr2 : RdNs (w.alloc (.cells #[.func (.func 51) #[] #[]] 87)) v l := hr.below n
  have hE := Lib.hid fun x hx (nv pv : Value) (W : World) (m : Below (w.alloc (.cells #[.func (.func 51) #[] #[]] 87)).heap.size (w.alloc (.cells #[.func (.func 51) #[] #[]] 87)) W) hy R hR => allN1_calls x (hg x hx) nv pv w.heap.size W ((m.block _ (blt hA)).trans hA) hy R hR
  have cC := Lib.hid fun R hR => contN_calls goodN w.heap.size l v (w.alloc (.cells #[.func (.func 51) #[] #[]] 87)) hr2 hl hE R hR
  obtain ⟨A, c, rfl, -, -⟩ := hr.op
  rw [all_any] at hR
  generalize (l.any fun x => !goodN x) = y at *
  have hmf : ∀ (fn : Fn) (first cap : Array Value) (w : World), (Instr.makeFunc fn first cap).run Tryz.prog w = .ok (.func fn first cap) w := fun _ _ _ _ => rfl
  clear hA hr hr2 hE
  go_enter Tryz.func50, Tryz.ntmps50
  go_wp2_with fail
  refine cC.out _ (Lib.hid fun w1 m1 => ?_)
  have fin := Lib.hid (hR.out _ (n.trans (m1.mono n.size)))
  clear hR m1 cC
  go_wp2_with fail
  exact fin.out
end Go.Proofs.YtbochlbgjnmgjaaGreat.Unp

/- Layer 17: the code's Right. -/
set_option maxRecDepth 100000
set_option linter.unusedVariables false
namespace Go.Proofs.YtbochlbgjnmgjaaGreat.Unp
open Go.RowKit Go.Lib Go.Proofs.YtbochlbgjnmgjaaGreat.Nam Go.Proofs.YtbochlbgjnmgjaaGreat.Lat Go.Proofs.YtbochlbgjnmgjaaGreat.Kin Go.Proofs.YtbochlbgjnmgjaaGreat.Dig

set_option maxRecDepth 100000 in
set_option maxHeartbeats 2000000 in
theorem sright_calls (s : Sc) (gs : GoodS s) (lv ov tv nv pv : Value) (w : World) (rd : RdSc w s lv ov tv nv pv) (R : Ending → World → Prop)
    (hR : Hid (∀ w', Below w.heap.size w w' → R (.returned (.bool (okS s))) w')) : Calls Tryz.prog 21 #[scV s lv ov tv nv pv] w R := by
  obtain ⟨A1, c1, rfl, -, -⟩ := rd.l.op
  obtain ⟨A2, c2, rfl, -, -⟩ := RdPr.op rd.o
  obtain ⟨A3, c3, rfl, -, -⟩ := rd.t.op
  obtain ⟨N1, N3, rfl, -, -⟩ := rd.r.n.op
  obtain ⟨M1, M3, rfl, -⟩ := rd.r.p.sl
  have hA := heap_alloc_new w (.cells #[.slice A1 s.1.length c1, .slice A2 s.2.1.length c2, .slice A3 s.2.2.1.length c3, .int .i64 s.2.2.2.1.kind, .int .i64 s.2.2.2.1.at_, .int .i64 s.2.2.2.1.lo, .int .i64 s.2.2.2.1.hi, .int .i64 s.2.2.2.1.most, .slice N1 s.2.2.2.1.names.length N3, .slice M1 s.2.2.2.2.len M3, .string s.2.2.2.1.name, .int .i64 s.2.2.2.1.nat] 32)
  have n := (Below.refl w.heap.size w).alloc (Nat.le_refl _) (.cells #[.slice A1 s.1.length c1, .slice A2 s.2.1.length c2, .slice A3 s.2.2.1.length c3, .int .i64 s.2.2.2.1.kind, .int .i64 s.2.2.2.1.at_, .int .i64 s.2.2.2.1.lo, .int .i64 s.2.2.2.1.hi, .int .i64 s.2.2.2.1.most, .slice N1 s.2.2.2.1.names.length N3, .slice M1 s.2.2.2.2.len M3, .string s.2.2.2.1.name, .int .i64 s.2.2.2.1.nat] 32)
  replace rd := rd.below n
  have hlL : s.1.length ≤ 9223372036854775807 := gs.ll
  have hq : okS s = (decide (0 < s.1.length) && s.1.all goodW && s.2.1.all goodP && s.2.2.1.all goodN && decide ((wcS s.2.2.2.1 s.2.2.2.2).1 = 0)) := rfl
  rw [hq] at hR
  clear hq
  go_enter Tryz.func21, Tryz.ntmps21
  go_upto_region 1 with fail
  generalize w.alloc (.cells #[.slice A1 s.1.length c1, .slice A2 s.2.1.length c2, .slice A3 s.2.2.1.length c3, .int .i64 s.2.2.2.1.kind, .int .i64 s.2.2.2.1.at_, .int .i64 s.2.2.2.1.lo, .int .i64 s.2.2.2.1.hi, .int .i64 s.2.2.2.1.most, .slice N1 s.2.2.2.1.names.length N3, .slice M1 s.2.2.2.2.len M3, .string s.2.2.2.1.name, .int .i64 s.2.2.2.1.nat] 32) = V at *
  generalize w.heap.size = P at hA ⊢
  have k1 := Lib.hid fun (W : World) (m : Below V.heap.size V W) R hR => allW_calls s.1 gs.l (.slice A1 s.1.length c1) W (rd.below m).l gs.ll R hR
  have k2 := Lib.hid fun (W : World) (m : Below V.heap.size V W) R hR => allP_calls s.2.1 gs.o (.slice A2 s.2.1.length c2) W (rd.below m).o gs.ol R hR
  have k3 := Lib.hid fun (W : World) (m : Below V.heap.size V W) R hR => allN_calls s.2.2.1 gs.t (.slice A3 s.2.2.1.length c3) W (rd.below m).t gs.tl R hR
  have k4 := Lib.hid fun (W : World) (m : Below V.heap.size V W) R hR => isright_calls s.2.2.2.2 s.2.2.2.1 (.slice N1 s.2.2.2.1.names.length N3) (.slice M1 s.2.2.2.2.len M3) W gs.h gs.gl gs.g (rd.below m).r R hR
  generalize s.1.all goodW = y1 at *
  generalize s.2.1.all goodP = y2 at *
  generalize s.2.2.1.all goodN = y3 at *
  generalize decide ((wcS s.2.2.2.1 s.2.2.2.2).1 = 0) = y4 at *
  have m0 := Below.refl V.heap.size V
  clear rd gs
  by_cases h0 : 0 < s.1.length
  · have i0 : (0 : Int) < (s.1.length : Int) := by omega
    rw [decide_eq_true h0, Bool.true_and] at hR
    clear h0
    have kk := Lib.hid (k1.out V m0)
    have a0 := (Lib.cell_of_heap hA 0).trans rfl
    clear k1
    go_wp2_with fail
    refine kk.out _ (Lib.hid fun w1 m1 => ?_)
    replace hA := (m1.block _ (blt hA)).trans hA
    replace m0 := m0.trans (m1.mono m0.size)
    clear kk m1 a0
    cases y1
    · rw [Bool.false_and, Bool.false_and, Bool.false_and] at hR
      have fin := Lib.hid (hR.out _ (n.trans (m0.mono n.size)))
      clear hR k2 k3 k4
      go_wp2_with fail
      exact fin.out
    rw [Bool.true_and] at hR
    have kk := Lib.hid (k2.out w1 m0)
    have a1 := (Lib.cell_of_heap hA 1).trans rfl
    clear k2
    go_wp2_with fail
    refine kk.out _ (Lib.hid fun w2 m1 => ?_)
    replace hA := (m1.block _ (blt hA)).trans hA
    replace m0 := m0.trans (m1.mono m0.size)
    clear kk m1 a1
    cases y2
    · rw [Bool.false_and, Bool.false_and] at hR
      have fin := Lib.hid (hR.out _ (n.trans (m0.mono n.size)))
      clear hR k3 k4
      go_wp2_with fail
      exact fin.out
    rw [Bool.true_and] at hR
    have kk := Lib.hid (k3.out w2 m0)
    have a2 := (Lib.cell_of_heap hA 2).trans rfl
    clear k3
    go_wp2_with fail
    refine kk.out _ (Lib.hid fun w3 m1 => ?_)
    replace hA := (m1.block _ (blt hA)).trans hA
    replace m0 := m0.trans (m1.mono m0.size)
    clear kk m1 a2
    cases y3
    · rw [Bool.false_and] at hR
      have fin := Lib.hid (hR.out _ (n.trans (m0.mono n.size)))
      clear hR k4
      go_wp2_with fail
      exact fin.out
    rw [Bool.true_and] at hR
    have kk := Lib.hid (k4.out w3 m0)
    clear k4
    have rT : w3.rangeAt P 3 [.int .i64 s.2.2.2.1.kind, .int .i64 s.2.2.2.1.at_, .int .i64 s.2.2.2.1.lo, .int .i64 s.2.2.2.1.hi, .int .i64 s.2.2.2.1.most, .slice N1 s.2.2.2.1.names.length N3, .slice M1 s.2.2.2.2.len M3, .string s.2.2.2.1.name, .int .i64 s.2.2.2.1.nat] := fun j v h => by rw [Lib.cell_of_heap hA, List.getElem?_toArray, ← List.getElem?_drop]; exact h
    go_wp2_with (refine wpList_load_g (by rfl) 30 _ rfl P 3 rfl [.int .i64 s.2.2.2.1.kind, .int .i64 s.2.2.2.1.at_, .int .i64 s.2.2.2.1.lo, .int .i64 s.2.2.2.1.hi, .int .i64 s.2.2.2.1.most, .slice N1 s.2.2.2.1.names.length N3, .slice M1 s.2.2.2.2.len M3, .string s.2.2.2.1.name, .int .i64 s.2.2.2.1.nat] _ rT Tryz.underlying30 rfl (by kernel_rfl) ?_; go_simp)
    refine kk.out _ (Lib.hid fun w4 m1 => ?_)
    have fin := Lib.hid (hR.out _ (n.trans ((m0.trans (m1.mono m0.size)).mono n.size)))
    clear hR kk m1 rT
    go_wp2_with fail
    exact fin.out
  · have i0 : ¬ (0 : Int) < (s.1.length : Int) := by omega
    rw [decide_eq_false h0, Bool.false_and, Bool.false_and, Bool.false_and, Bool.false_and] at hR
    clear h0
    have fin := Lib.hid (hR.out _ n)
    clear hR k1 k2 k3 k4
    have a0 := (Lib.cell_of_heap hA 0).trans rfl
    go_wp2_with fail
    exact fin.out
end Go.Proofs.YtbochlbgjnmgjaaGreat.Unp
