import Derived.Test.YtbochlbgjnmgjaaGreatG25
/- Layer 17: lists without places. -/
set_option maxRecDepth 100000
set_option linter.unusedVariables false
namespace Go.Proofs.YtbochlbgjnmgjaaGreat.Unp
open Go.RowKit Go.Lib Go.Proofs.YtbochlbgjnmgjaaGreat.Nam Go.Proofs.YtbochlbgjnmgjaaGreat.Lat Go.Proofs.YtbochlbgjnmgjaaGreat.Kin Go.Proofs.YtbochlbgjnmgjaaGreat.Dig

def stWd (x : Wr) : Wr := (x.1, 0)
theorem map_take {α : Type} {f : α → α} {l : List α} {K : Nat} (hK : K < l.length) : (l.map f).take (K + 1) = (l.map f).take K ++ [f l[K]] := by
  rw [← List.map_take, ← List.map_take, List.take_succ_eq_append_getElem hK, List.map_append]
  rfl
theorem map_all {α : Type} {f : α → α} {l : List α} : (l.map f).take l.length = l.map f := by
  rw [← List.map_take, List.take_length]
/-- A named type's cells. -/
def nRow (y : Nd) (nv pv : Value) : List Value := [.string y.1.1, .int .i64 y.1.2, .int .i64 y.2.1.kind, .int .i64 y.2.1.at_, .int .i64 y.2.1.lo, .int .i64 y.2.1.hi, .int .i64 y.2.1.most, nv, pv, .string y.2.1.name, .int .i64 y.2.1.nat]
def RdsN (w : World) : List Value → List Nd → Prop
  | xs, [] => xs = []
  | xs, y :: l => ∃ nv pv rest, xs = nRow y nv pv ++ rest ∧ RdY w y.2.1 y.2.2 nv pv ∧ RdsN w rest l
theorem RdsN.kp {w w' : World} (k : Kp w w') : ∀ {l : List Nd} {xs : List Value}, RdsN w xs l → RdsN w' xs l
  | [], _, h => h
  | y :: l, _, h => by
    obtain ⟨nv, pv, rest, e, hy, hr⟩ := h
    exact ⟨nv, pv, rest, e, hy.kp k, RdsN.kp k hr⟩
theorem RdsN.snoc {w : World} {y : Nd} {nv pv : Value} (hy : RdY w y.2.1 y.2.2 nv pv) : ∀ {l : List Nd} {xs : List Value}, RdsN w xs l → RdsN w (xs ++ nRow y nv pv) (l ++ [y])
  | [], _, h => by
    have h' : _ = [] := h
    subst h'
    exact ⟨nv, pv, [], by simp, hy, rfl⟩
  | z :: l, _, h => by
    obtain ⟨nv', pv', rest, rfl, hz, hr⟩ := h
    exact ⟨nv', pv', rest ++ nRow y nv pv, by rw [List.append_assoc], hz, RdsN.snoc hy hr⟩
theorem RdsN.at_ {w : World} : ∀ {l : List Nd} {xs : List Value} {i : Nat}, RdsN w xs l → i < l.length → ∃ nv pv, RdY w (nN l i).2.1 (nN l i).2.2 nv pv ∧ ∀ j u, (nRow (nN l i) nv pv)[j]? = some u → xs[i * 11 + j]? = some u
  | y :: l, _, 0, h, _ => by
    obtain ⟨nv, pv, rest, rfl, hy, -⟩ := h
    refine ⟨nv, pv, hy, fun j u hj => ?_⟩
    have hj' : (nRow y nv pv)[j]? = some u := hj
    rw [Nat.zero_mul, Nat.zero_add, List.getElem?_append_left (List.getElem?_eq_some_iff.1 hj').1]
    exact hj'
  | y :: l, _, i + 1, h, hi => by
    obtain ⟨nv, pv, rest, rfl, -, hr⟩ := h
    obtain ⟨nv', pv', hy, hc⟩ := RdsN.at_ (i := i) hr (by simpa using hi)
    refine ⟨nv', pv', hy, fun j u hj => ?_⟩
    have := hc j u hj
    rw [List.getElem?_append_right (by show 11 ≤ (i + 1) * 11 + j; omega)]
    show rest[(i + 1) * 11 + j - 11]? = some u
    rw [show (i + 1) * 11 + j - 11 = i * 11 + j by omega]
    exact this
theorem rowsN {w : World} {base n : Nat} {v : Value} {xs : List Value} {l : List Nd} (own : w.ownsRow base 67 11 v n xs) (hn : n = l.length) (rd : RdsN (empW (rowS base v) w) xs l) : RdNs (empW (lowS base) w) v l := by
  subst hn
  have k : Kp (empW (rowS base v) w) (empW (lowS base) w) := emp_kp (Nat.le_refl _) fun g _ h => ⟨fun q => h (.inl q), rfl⟩
  have rd2 := RdsN.kp k rd
  have h0 := own
  obtain ⟨hl, ⟨rfl, hn⟩ | ⟨g, cap, cur, rfl, hb, hg, hn, hm, hc, ht⟩⟩ := own
  · exact ⟨none, 0, by rw [hn], by omega, fun h => absurd h (by omega)⟩
  · refine ⟨_, cap, rfl, hn, fun _ => ⟨g, 0, rfl, ?_, fun i hi => ?_⟩⟩
    · rw [emp_size]
      exact (h0.lt g rfl).2
    · obtain ⟨nv, pv, hy, hr⟩ := RdsN.at_ rd2 hi
      refine ⟨nv, pv, hy, fun j u hj => ?_⟩
      have := h0.cells (g := g) rfl _ u (hr j u hj)
      rw [Addr.add_lit] at this
      exact emp_cell.2 ⟨by unfold lowS; omega, by rw [Nat.zero_add] at this ⊢; exact this⟩
theorem infoEW : (Tryz.prog.info? 28).map (fun i => (i.zero, i.size, i.bytes)) = some (some (.agg #[.string ⟨#[]⟩, .int .i64 0]), 2, 24) := by kernel_rfl
theorem infoEP : (Tryz.prog.info? 65).map (fun i => (i.zero, i.size, i.bytes)) = some (some (.agg #[.string ⟨#[]⟩, .int .i64 0, .string ⟨#[]⟩, .int .i64 0]), 4, 48) := by kernel_rfl
theorem infoEN : (Tryz.prog.info? 67).map (fun i => (i.zero, i.size, i.bytes)) = some (some (.agg #[.string ⟨#[]⟩, .int .i64 0, .int .i64 0, .int .i64 0, .int .i64 0, .int .i64 0, .int .i64 0, .slice none 0 0, .slice none 0 0, .string ⟨#[]⟩, .int .i64 0]), 11, 136) := by kernel_rfl
theorem isF_stripW : ∀ (args : Array Value) (w : World), (callFunc 56 args).run Tryz.prog w = .ok (.enter 56 args) w := by
  intro args w
  unfold callFunc
  simp [go_sem, Tryz.func56]
  rfl
set_option maxRecDepth 100000 in
set_option maxHeartbeats 2000000 in
theorem eachW_calls (l : List Wr) (hm : l.length ≤ maxLen) (hl : l.length * 24 ≤ 140737488355328) (va : Value) (w : World) (ha : RdW w va l) (R : Ending → World → Prop) (hR : Hid (∀ v' w', RdW (empW (lowS w.heap.size) w') v' (l.map stWd) → Below w.heap.size w w' → R (.returned v') w')) : Calls Tryz.prog 55 #[va, .func (.func 56) #[] #[]] w R := by
  replace hm : l.length ≤ 9223372036854775807 := hm
  have isS := isF_stripW
  obtain ⟨ti, hI, hZ⟩ : ∃ i0, Tryz.prog.info? 28 = some i0 ∧ (i0.zero, i0.size, i0.bytes) = (some (.agg #[.string ⟨#[]⟩, .int .i64 0]), 2, 24) := by
    have := infoEW
    cases h : Tryz.prog.info? 28 with
    | none => rw [h] at this; cases this
    | some i0 => rw [h] at this; exact ⟨i0, rfl, by simpa using this⟩
  simp only [Prod.mk.injEq] at hZ
  obtain ⟨hz0, hz1, hz2⟩ := hZ
  obtain ⟨A, ca, rfl, hca, hra⟩ := ha.op
  replace hra := Lib.hid hra
  clear ha
  go_enter Tryz.func55, Tryz.ntmps55
  go_wp2_with fail
  go_loopg [5, 10] l.length (fun g s k wr => ∃ (K : Nat) (v : Value), s = v ∧ k = .int .i64 K ∧ K + g = l.length ∧ Hid (Below w.heap.size w wr) ∧ Hid (wr.ownsRow w.heap.size 28 2 v K (flatG encW ((l.map stWd).take K))))
  case atStart => exact ⟨0, _, rfl, rfl, by omega, Lib.hid (Below.refl _ _), Lib.hid (by simpa [flatG] using World.ownsRow_nil _ _ _ _)⟩
  case round =>
    obtain ⟨K, v, rfl, rfl, e1, nb, own⟩ := hrel
    by_cases hK : K < l.length
    · obtain ⟨ga, oa, rfl, hga, ca⟩ := hra.out (by omega)
      have rx : wr.rangeAt ga (oa + K * 2) [.string (wN l K).1, .int .i64 (wN l K).2] := fun j v h => (nb.out.cell (p := ⟨ga, oa + K * 2 + j, none⟩) hga).trans (by
        have hc := ca K hK
        match j, h with
        | 0, h => simp only [List.getElem?_cons_zero, List.getElem?_cons_succ, Option.some.injEq] at h; rw [← h]; exact hc.1
        | 1, h => simp only [List.getElem?_cons_zero, List.getElem?_cons_succ, Option.some.injEq] at h; rw [← h]; exact hc.2
        | j + 2, h => simp at h)
      have i0 : (0 : Int) ≤ (K : Int) := by omega
      have i1 : (K : Int) < (l.length : Int) := by omega
      have ht := map_take (f := stWd) hK
      rw [← wN_get hK] at ht
      clear ca
      generalize wN l K = x at *
      have hA := heap_alloc_new wr (.cells #[.string x.1, .int .i64 x.2] 28)
      have n1 := alB wr (.cells #[.string x.1, .int .i64 x.2] 28)
      go_upto_region 5 with (refine wpList_load_g (by rfl) 28 _ rfl ga (oa + K * 2) rfl [.string x.1, .int .i64 x.2] _ rx Tryz.underlying28 rfl (by kernel_rfl) ?_; go_simp)
      have lP : wr.heap.size < (wr.alloc (.cells #[.string x.1, .int .i64 x.2] 28)).heap.size := by rw [alz]; omega
      have hsw := nb.out.size
      have rP : (wr.alloc (.cells #[.string x.1, .int .i64 x.2] 28)).rangeAt wr.heap.size 0 [.string x.1, .int .i64 x.2] := fun j v e => by rw [Nat.zero_add, Lib.cell_of_heap hA]; simpa using e
      generalize wr.alloc (.cells #[.string x.1, .int .i64 x.2] 28) = V at *
      generalize hPP : wr.heap.size = P at rP lP ⊢
      clear rx hA
      have cS := Lib.hid fun R hR => stw_calls x V R hR
      go_wp2_with (refine wpList_load_g (by rfl) 28 _ rfl P 0 rfl [.string x.1, .int .i64 x.2] _ rP Tryz.underlying28 rfl (by kernel_rfl) ?_; go_simp)
      refine cS.out _ (Lib.hid fun w1 m1 => ?_)
      have nM := n1.trans (m1.mono n1.size)
      have own1 := Lib.hid (own_below own.out nM)
      have nb1 := Lib.hid (nb.out.trans (nM.mono nb.out.size))
      have hsz := nb1.out.size
      clear cS rP own m1 n1 nM
      go_wp2_with (at_builtin; go_loud (refine appK w1 #[.string x.1, .int .i64 0] 2 28 rfl _ _ 23 rfl w.heap.size ti (.agg #[.string ⟨#[]⟩, .int .i64 0]) 24 Tryz.underlying23 hI hz0 hz1 hz2 rfl (by decide) rfl _ K (flatG encW ((l.map stWd).take K)) rfl own1.out _ rfl rfl (by simp [Value.oneCell']) (by unfold maxLen; omega) (by omega) hsz ?_); rintro v' w3 hown3 hg3 hb3)
      have own2 := Lib.hid (show w3.ownsRow w.heap.size 28 2 v' (K + 1) (flatG encW ((l.map stWd).take (K + 1))) by rw [ht, flatG_snoc]; exact hown3)
      have nb2 := Lib.hid (nb1.out.trans hb3)
      clear hown3 hg3 hb3 own1 nb1 ht
      go_wp2_with fail
      go_roundg (gk - 1)
      case measure => omega
      case rel => exact ⟨K + 1, _, rfl, by go_num, by omega, nb2, own2⟩
    · obtain rfl : K = l.length := by omega
      have rd := own_emp own.out
      rw [map_all] at rd
      have fin := Lib.hid (hR.out _ _ rd nb.out)
      clear hR rd own
      go_wp2_with fail
      exact fin.out
end Go.Proofs.YtbochlbgjnmgjaaGreat.Unp

/- Layer 17: pairs without places. -/
set_option maxRecDepth 100000
set_option linter.unusedVariables false
namespace Go.Proofs.YtbochlbgjnmgjaaGreat.Unp
open Go.RowKit Go.Lib Go.Proofs.YtbochlbgjnmgjaaGreat.Nam Go.Proofs.YtbochlbgjnmgjaaGreat.Lat Go.Proofs.YtbochlbgjnmgjaaGreat.Kin Go.Proofs.YtbochlbgjnmgjaaGreat.Dig

theorem isF_stripP : ∀ (args : Array Value) (w : World), (callFunc 58 args).run Tryz.prog w = .ok (.enter 58 args) w := by
  intro args w
  unfold callFunc
  simp [go_sem, Tryz.func58]
  rfl
set_option maxRecDepth 100000 in
set_option maxHeartbeats 2000000 in
theorem eachP_calls (l : List Pr) (hm : l.length ≤ maxLen) (hl : l.length * 48 ≤ 140737488355328) (va : Value) (w : World) (ha : RdPr w va l) (R : Ending → World → Prop) (hR : Hid (∀ v' w', RdPr (empW (lowS w.heap.size) w') v' (l.map stP) → Below w.heap.size w w' → R (.returned v') w')) : Calls Tryz.prog 57 #[va, .func (.func 58) #[] #[]] w R := by
  replace hm : l.length ≤ 9223372036854775807 := hm
  have isS := isF_stripP
  obtain ⟨ti, hI, hZ⟩ : ∃ i0, Tryz.prog.info? 65 = some i0 ∧ (i0.zero, i0.size, i0.bytes) = (some (.agg #[.string ⟨#[]⟩, .int .i64 0, .string ⟨#[]⟩, .int .i64 0]), 4, 48) := by
    have := infoEP
    cases h : Tryz.prog.info? 65 with
    | none => rw [h] at this; cases this
    | some i0 => rw [h] at this; exact ⟨i0, rfl, by simpa using this⟩
  simp only [Prod.mk.injEq] at hZ
  obtain ⟨hz0, hz1, hz2⟩ := hZ
  obtain ⟨A, ca, rfl, hca, hra⟩ := RdPr.op ha
  replace hra := Lib.hid hra
  clear ha
  go_enter Tryz.func57, Tryz.ntmps57
  go_wp2_with fail
  go_loopg [5, 10] l.length (fun g s k wr => ∃ (K : Nat) (v : Value), s = v ∧ k = .int .i64 K ∧ K + g = l.length ∧ Hid (Below w.heap.size w wr) ∧ Hid (wr.ownsRow w.heap.size 65 4 v K (flatG encP ((l.map stP).take K))))
  case atStart => exact ⟨0, _, rfl, rfl, by omega, Lib.hid (Below.refl _ _), Lib.hid (by simpa [flatG] using World.ownsRow_nil _ _ _ _)⟩
  case round =>
    obtain ⟨K, v, rfl, rfl, e1, nb, own⟩ := hrel
    by_cases hK : K < l.length
    · obtain ⟨ga, oa, rfl, hga, ca⟩ := hra.out (by omega)
      have rx : wr.rangeAt ga (oa + K * 4) [.string (pN l K).1.1, .int .i64 (pN l K).1.2, .string (pN l K).2.1, .int .i64 (pN l K).2.2] := fun j v h => (nb.out.cell (p := ⟨ga, oa + K * 4 + j, none⟩) hga).trans (by
        have hc := ca K hK
        match j, h with
        | 0, h => simp only [List.getElem?_cons_zero, List.getElem?_cons_succ, Option.some.injEq] at h; rw [← h]; exact hc.1
        | 1, h => simp only [List.getElem?_cons_zero, List.getElem?_cons_succ, Option.some.injEq] at h; rw [← h]; exact hc.2.1
        | 2, h => simp only [List.getElem?_cons_zero, List.getElem?_cons_succ, Option.some.injEq] at h; rw [← h]; exact hc.2.2.1
        | 3, h => simp only [List.getElem?_cons_zero, List.getElem?_cons_succ, Option.some.injEq] at h; rw [← h]; exact hc.2.2.2
        | j + 4, h => simp at h)
      have i0 : (0 : Int) ≤ (K : Int) := by omega
      have i1 : (K : Int) < (l.length : Int) := by omega
      have ht := map_take (f := stP) hK
      rw [← pN_get hK] at ht
      clear ca
      generalize pN l K = x at *
      have hA := heap_alloc_new wr (.cells #[.string x.1.1, .int .i64 x.1.2, .string x.2.1, .int .i64 x.2.2] 65)
      have n1 := alB wr (.cells #[.string x.1.1, .int .i64 x.1.2, .string x.2.1, .int .i64 x.2.2] 65)
      go_upto_region 5 with (refine wpList_load_g (by rfl) 65 _ rfl ga (oa + K * 4) rfl [.string x.1.1, .int .i64 x.1.2, .string x.2.1, .int .i64 x.2.2] _ rx Tryz.underlying65 rfl (by kernel_rfl) ?_; go_simp)
      have lP : wr.heap.size < (wr.alloc (.cells #[.string x.1.1, .int .i64 x.1.2, .string x.2.1, .int .i64 x.2.2] 65)).heap.size := by rw [alz]; omega
      have hsw := nb.out.size
      have rP : (wr.alloc (.cells #[.string x.1.1, .int .i64 x.1.2, .string x.2.1, .int .i64 x.2.2] 65)).rangeAt wr.heap.size 0 [.string x.1.1, .int .i64 x.1.2, .string x.2.1, .int .i64 x.2.2] := fun j v e => by rw [Nat.zero_add, Lib.cell_of_heap hA]; simpa using e
      generalize wr.alloc (.cells #[.string x.1.1, .int .i64 x.1.2, .string x.2.1, .int .i64 x.2.2] 65) = V at *
      generalize hPP : wr.heap.size = P at rP lP ⊢
      clear rx hA
      have cS := Lib.hid fun R hR => stP_calls x V R hR
      go_wp2_with (refine wpList_load_g (by rfl) 65 _ rfl P 0 rfl [.string x.1.1, .int .i64 x.1.2, .string x.2.1, .int .i64 x.2.2] _ rP Tryz.underlying65 rfl (by kernel_rfl) ?_; go_simp)
      refine cS.out _ (Lib.hid fun w1 m1 => ?_)
      have nM := n1.trans (m1.mono n1.size)
      have own1 := Lib.hid (own_below own.out nM)
      have nb1 := Lib.hid (nb.out.trans (nM.mono nb.out.size))
      have hsz := nb1.out.size
      clear cS rP own m1 n1 nM
      go_wp2_with (at_builtin; go_loud (refine appK w1 #[.string x.1.1, .int .i64 0, .string x.2.1, .int .i64 0] 4 65 rfl _ _ 24 rfl w.heap.size ti (.agg #[.string ⟨#[]⟩, .int .i64 0, .string ⟨#[]⟩, .int .i64 0]) 48 Tryz.underlying24 hI hz0 hz1 hz2 rfl (by decide) rfl _ K (flatG encP ((l.map stP).take K)) rfl own1.out _ rfl rfl (by simp [Value.oneCell']) (by unfold maxLen; omega) (by omega) hsz ?_); rintro v' w3 hown3 hg3 hb3)
      have own2 := Lib.hid (show w3.ownsRow w.heap.size 65 4 v' (K + 1) (flatG encP ((l.map stP).take (K + 1))) by rw [ht, flatG_snoc]; exact hown3)
      have nb2 := Lib.hid (nb1.out.trans hb3)
      clear hown3 hg3 hb3 own1 nb1 ht
      go_wp2_with fail
      go_roundg (gk - 1)
      case measure => omega
      case rel => exact ⟨K + 1, _, rfl, by go_num, by omega, nb2, own2⟩
    · obtain rfl : K = l.length := by omega
      have rd := own_emp own.out
      rw [map_all] at rd
      have fin := Lib.hid (hR.out _ _ rd nb.out)
      clear hR rd own
      go_wp2_with fail
      exact fin.out
end Go.Proofs.YtbochlbgjnmgjaaGreat.Unp

/- Layer 17: named types without places. -/
set_option maxRecDepth 100000
set_option linter.unusedVariables false
namespace Go.Proofs.YtbochlbgjnmgjaaGreat.Unp
open Go.RowKit Go.Lib Go.Proofs.YtbochlbgjnmgjaaGreat.Nam Go.Proofs.YtbochlbgjnmgjaaGreat.Lat Go.Proofs.YtbochlbgjnmgjaaGreat.Kin Go.Proofs.YtbochlbgjnmgjaaGreat.Dig

theorem isF_stripN : ∀ (args : Array Value) (w : World), (callFunc 60 args).run Tryz.prog w = .ok (.enter 60 args) w := by
  intro args w
  unfold callFunc
  simp [go_sem, Tryz.func60]
  rfl
set_option maxRecDepth 100000 in
set_option maxHeartbeats 2000000 in
theorem eachN_calls (l : List Nd) (hm : l.length ≤ maxLen) (hl : l.length * 136 ≤ 140737488355328) (gl : ∀ x ∈ l, GoodN x) (ll : ∀ x ∈ l, LimT x.2.1 x.2.2) (va : Value) (w : World) (ha : RdNs w va l) (R : Ending → World → Prop) (hR : Hid (∀ v' w', RdNs (empW (lowS w.heap.size) w') v' (l.map stN) → Below w.heap.size w w' → R (.returned v') w')) : Calls Tryz.prog 59 #[va, .func (.func 60) #[] #[]] w R := by
  replace hm : l.length ≤ 9223372036854775807 := hm
  have isS := isF_stripN
  obtain ⟨ti, hI, hZ⟩ : ∃ i0, Tryz.prog.info? 67 = some i0 ∧ (i0.zero, i0.size, i0.bytes) = (some (.agg #[.string ⟨#[]⟩, .int .i64 0, .int .i64 0, .int .i64 0, .int .i64 0, .int .i64 0, .int .i64 0, .slice none 0 0, .slice none 0 0, .string ⟨#[]⟩, .int .i64 0]), 11, 136) := by
    have := infoEN
    cases h : Tryz.prog.info? 67 with
    | none => rw [h] at this; cases this
    | some i0 => rw [h] at this; exact ⟨i0, rfl, by simpa using this⟩
  simp only [Prod.mk.injEq] at hZ
  obtain ⟨hz0, hz1, hz2⟩ := hZ
  obtain ⟨A, ca, rfl, hca, hra⟩ := RdNs.op ha
  replace hra := Lib.hid hra
  clear ha
  replace gl := Lib.hid gl
  replace ll := Lib.hid ll
  go_enter Tryz.func59, Tryz.ntmps59
  go_wp2_with fail
  go_loopg [5, 10] l.length (fun g s k wr => ∃ (K : Nat) (v : Value) (xs : List Value), v = s ∧ k = .int .i64 K ∧ K + g = l.length ∧ Hid (Below w.heap.size w wr) ∧ Hid (wr.ownsRow w.heap.size 67 11 v K xs) ∧ Hid (RdsN (empW (rowS w.heap.size v) wr) xs ((l.map stN).take K)))
  case atStart => exact ⟨0, _, [], rfl, rfl, by omega, Lib.hid (Below.refl _ _), Lib.hid (World.ownsRow_nil _ _ _ _), Lib.hid rfl⟩
  case round =>
    obtain ⟨K, v, xs, rfl, rfl, e1, nb, own, rds⟩ := hrel
    by_cases hK : K < l.length
    · obtain ⟨ga, oa, rfl, hga, ca⟩ := hra.out (by omega)
      obtain ⟨nv, pv, hy, hc⟩ := ca K hK
      obtain ⟨N1, N3, rfl, -, -⟩ := hy.n.op
      obtain ⟨M1, M3, rfl, -⟩ := hy.p.sl
      have gx := gl.out _ (mem_nN hK)
      have lx := ll.out _ (mem_nN hK)
      have rx : wr.rangeAt ga (oa + K * 11) [.string (nN l K).1.1, .int .i64 (nN l K).1.2, .int .i64 (nN l K).2.1.kind, .int .i64 (nN l K).2.1.at_, .int .i64 (nN l K).2.1.lo, .int .i64 (nN l K).2.1.hi, .int .i64 (nN l K).2.1.most, .slice N1 (nN l K).2.1.names.length N3, .slice M1 (nN l K).2.2.len M3, .string (nN l K).2.1.name, .int .i64 (nN l K).2.1.nat] := fun j v h => (nb.out.cell (p := ⟨ga, oa + K * 11 + j, none⟩) hga).trans (hc j v h)
      replace hy := hy.below nb.out
      clear hc
      have i0 : (0 : Int) ≤ (K : Int) := by omega
      have i1 : (K : Int) < (l.length : Int) := by omega
      have ht := map_take (f := stN) hK
      rw [← nN_get hK] at ht
      clear ca
      generalize nN l K = x at *
      have hA := heap_alloc_new wr (.cells #[.string x.1.1, .int .i64 x.1.2, .int .i64 x.2.1.kind, .int .i64 x.2.1.at_, .int .i64 x.2.1.lo, .int .i64 x.2.1.hi, .int .i64 x.2.1.most, .slice N1 x.2.1.names.length N3, .slice M1 x.2.2.len M3, .string x.2.1.name, .int .i64 x.2.1.nat] 67)
      have n1 := alB wr (.cells #[.string x.1.1, .int .i64 x.1.2, .int .i64 x.2.1.kind, .int .i64 x.2.1.at_, .int .i64 x.2.1.lo, .int .i64 x.2.1.hi, .int .i64 x.2.1.most, .slice N1 x.2.1.names.length N3, .slice M1 x.2.2.len M3, .string x.2.1.name, .int .i64 x.2.1.nat] 67)
      go_upto_region 5 with (first | (refine wpList_load_g (by rfl) 67 _ rfl ga (oa + K * 11) rfl [.string x.1.1, .int .i64 x.1.2, .int .i64 x.2.1.kind, .int .i64 x.2.1.at_, .int .i64 x.2.1.lo, .int .i64 x.2.1.hi, .int .i64 x.2.1.most, .slice N1 x.2.1.names.length N3, .slice M1 x.2.2.len M3, .string x.2.1.name, .int .i64 x.2.1.nat] _ rx Tryz.underlying67 rfl (by kernel_rfl) ?_; go_simp) | (refine wpList_copy #[.string x.1.1, .int .i64 x.1.2, .int .i64 x.2.1.kind, .int .i64 x.2.1.at_, .int .i64 x.2.1.lo, .int .i64 x.2.1.hi, .int .i64 x.2.1.most, .slice N1 x.2.1.names.length N3, .slice M1 x.2.2.len M3, .string x.2.1.name, .int .i64 x.2.1.nat] ⟨rfl, rfl, rfl⟩ ⟨rfl, rfl, rfl⟩ named_alloc (by kernel_rfl) ⟨rfl, by simp [Value.oneCell']⟩ (fun _ => ⟨rfl, rfl⟩) ?_; go_simp))
      have lP : wr.heap.size < (wr.alloc (.cells #[.string x.1.1, .int .i64 x.1.2, .int .i64 x.2.1.kind, .int .i64 x.2.1.at_, .int .i64 x.2.1.lo, .int .i64 x.2.1.hi, .int .i64 x.2.1.most, .slice N1 x.2.1.names.length N3, .slice M1 x.2.2.len M3, .string x.2.1.name, .int .i64 x.2.1.nat] 67)).heap.size := by rw [alz]; omega
      have hsw := nb.out.size
      have rP : (wr.alloc (.cells #[.string x.1.1, .int .i64 x.1.2, .int .i64 x.2.1.kind, .int .i64 x.2.1.at_, .int .i64 x.2.1.lo, .int .i64 x.2.1.hi, .int .i64 x.2.1.most, .slice N1 x.2.1.names.length N3, .slice M1 x.2.2.len M3, .string x.2.1.name, .int .i64 x.2.1.nat] 67)).rangeAt wr.heap.size 0 [.string x.1.1, .int .i64 x.1.2, .int .i64 x.2.1.kind, .int .i64 x.2.1.at_, .int .i64 x.2.1.lo, .int .i64 x.2.1.hi, .int .i64 x.2.1.most, .slice N1 x.2.1.names.length N3, .slice M1 x.2.2.len M3, .string x.2.1.name, .int .i64 x.2.1.nat] := fun j v e => by rw [Nat.zero_add, Lib.cell_of_heap hA]; simpa using e
      generalize wr.alloc (.cells #[.string x.1.1, .int .i64 x.1.2, .int .i64 x.2.1.kind, .int .i64 x.2.1.at_, .int .i64 x.2.1.lo, .int .i64 x.2.1.hi, .int .i64 x.2.1.most, .slice N1 x.2.1.names.length N3, .slice M1 x.2.2.len M3, .string x.2.1.name, .int .i64 x.2.1.nat] 67) = V at *
      generalize hPP : wr.heap.size = P at rP lP ⊢
      clear rx hA
      have cS := Lib.hid fun R hR => stN_calls x gx lx (.slice N1 x.2.1.names.length N3) (.slice M1 x.2.2.len M3) V (hy.below n1) R hR
      go_wp2_with (refine wpList_load_g (by rfl) 67 _ rfl P 0 rfl [.string x.1.1, .int .i64 x.1.2, .int .i64 x.2.1.kind, .int .i64 x.2.1.at_, .int .i64 x.2.1.lo, .int .i64 x.2.1.hi, .int .i64 x.2.1.most, .slice N1 x.2.1.names.length N3, .slice M1 x.2.2.len M3, .string x.2.1.name, .int .i64 x.2.1.nat] _ rP Tryz.underlying67 rfl (by kernel_rfl) ?_; go_simp)
      refine cS.out _ (Lib.hid fun nv2 pv2 w1 r1 m1 => ?_)
      obtain ⟨B1, B3, rfl, -, -⟩ := r1.n.op
      obtain ⟨C1, C3, rfl, -⟩ := r1.p.sl
      have nM := n1.trans (m1.mono n1.size)
      have own1 := Lib.hid (own_below own.out nM)
      have nb1 := Lib.hid (nb.out.trans (nM.mono nb.out.size))
      have hsz := nb1.out.size
      have hlt := own.out.lt
      clear cS rP own
      go_wp2_with (at_builtin; go_loud (refine appKF w1 #[.string x.1.1, .int .i64 0, .int .i64 (stripH x.2.1).kind, .int .i64 (stripH x.2.1).at_, .int .i64 (stripH x.2.1).lo, .int .i64 (stripH x.2.1).hi, .int .i64 (stripH x.2.1).most, .slice B1 (stripH x.2.1).names.length B3, .slice C1 (stripF x.2.2).len C3, .string (stripH x.2.1).name, .int .i64 (stripH x.2.1).nat] 11 67 rfl _ _ 25 rfl w.heap.size ti (.agg #[.string ⟨#[]⟩, .int .i64 0, .int .i64 0, .int .i64 0, .int .i64 0, .int .i64 0, .int .i64 0, .slice none 0 0, .slice none 0 0, .string ⟨#[]⟩, .int .i64 0]) 136 Tryz.underlying25 hI hz0 hz1 hz2 rfl (by decide) rfl _ K xs rfl own1.out _ rfl rfl (by simp [Value.oneCell']) (by unfold maxLen; omega) (by omega) hsz ?_); rintro v' w3 hown3 hg3 hb3 hfr)
      have nb2 := Lib.hid (nb1.out.trans hb3)
      have hwV : wr.heap.size < V.heap.size := by rw [hPP]; exact lP
      have hVw := m1.size
      have new : ∀ g, g < w1.heap.size → w.heap.size ≤ g → v.ownBlock ≠ some g → ¬ rowS w.heap.size v' g ∧ w3.heap[g]? = w1.heap[g]? := fun g h1 h2 h3 => ⟨by
        rintro (q | q)
        · omega
        · rcases hfr with h | h
          · exact h3 (h ▸ q)
          · rw [h] at q
            simp only [Option.some.injEq] at q
            omega, hg3.block g h1 (fun q => h3 q.symm)⟩
      have k0 : Kp (empW (rowS w.heap.size v) wr) (empW (rowS w.heap.size v') w3) := emp_kp (Nat.le_trans nM.size hg3.size) fun g h1 h2 => by
        have h3 : w.heap.size ≤ g := Nat.le_of_not_lt fun q => h2 (.inl q)
        have h4 := new g (Nat.lt_of_lt_of_le h1 nM.size) h3 (fun q => h2 (.inr q))
        exact ⟨h4.1, h4.2.trans (nM.block g h1)⟩
      have k1 : Kp (empW (lowS V.heap.size) w1) (empW (rowS w.heap.size v') w3) := emp_kp hg3.size fun g h1 h2 => by
        have h3 : V.heap.size ≤ g := Nat.le_of_not_lt h2
        exact new g h1 (by omega) fun q => by have := (hlt g q).2; omega
      have rds2 := Lib.hid (RdsN.snoc (y := stN x) (RdY.kp k1 r1) (RdsN.kp k0 rds.out))
      rw [← ht] at rds2
      have own2 := Lib.hid hown3
      clear k0 k1 new hfr hb3 hg3 hown3 rds r1 m1 nM n1 own1 nb1 hlt hwV hVw hy
      go_wp2_with fail
      go_roundg (gk - 1)
      case measure => omega
      case rel => exact ⟨K + 1, _, _, rfl, by go_num, by omega, nb2, own2, rds2⟩
    · obtain rfl : K = l.length := by omega
      have rd0 := rds.out
      rw [map_all] at rd0
      have rd := rowsN own.out (by rw [List.length_map]) rd0
      have fin := Lib.hid (hR.out _ _ rd nb.out)
      clear hR rd own rds rd0
      go_wp2_with fail
      exact fin.out
end Go.Proofs.YtbochlbgjnmgjaaGreat.Unp

/- Layer 17: a schema without places. -/
set_option maxRecDepth 100000
set_option linter.unusedVariables false
namespace Go.Proofs.YtbochlbgjnmgjaaGreat.Unp
open Go.RowKit Go.Lib Go.Proofs.YtbochlbgjnmgjaaGreat.Nam Go.Proofs.YtbochlbgjnmgjaaGreat.Lat Go.Proofs.YtbochlbgjnmgjaaGreat.Kin Go.Proofs.YtbochlbgjnmgjaaGreat.Dig

theorem emp_bs {W W' : World} {b b0 B : Nat} (h : b0 ≤ b) (hB : B < b) (m : Below W.heap.size W W') (vs : List Value) (o : Nat) : Kp (empW (lowS b) W) (empW (lowS b0) (W'.setCells B o vs)) :=
  emp_kp (by rw [sc_size]; exact m.size) fun g h1 h2 => ⟨by unfold lowS at *; omega, (sc_block vs o W' B g (by unfold lowS at h2; omega)).trans (m.block g h1)⟩
set_option maxRecDepth 100000 in
set_option maxHeartbeats 4000000 in
theorem cstrip_calls (s : Sc) (gs : GoodS s) (ls : LimS s) (b1 : s.1.length ≤ 100) (b2 : s.2.1.length ≤ 400) (b3 : s.2.2.1.length ≤ 100) (lv ov tv nv pv : Value) (w : World) (rd : RdSc w s lv ov tv nv pv) (R : Ending → World → Prop)
    (hR : Hid (∀ lv' ov' tv' nv' pv' w', RdSc (empW (lowS w.heap.size) w') (stS s) lv' ov' tv' nv' pv' → Below w.heap.size w w' → R (.returned (.agg #[lv', ov', tv', .int .i64 (stripH s.2.2.2.1).kind, .int .i64 (stripH s.2.2.2.1).at_, .int .i64 (stripH s.2.2.2.1).lo, .int .i64 (stripH s.2.2.2.1).hi, .int .i64 (stripH s.2.2.2.1).most, nv', pv', .string (stripH s.2.2.2.1).name, .int .i64 (stripH s.2.2.2.1).nat])) w')) : Calls Tryz.prog 23 #[scV s lv ov tv nv pv] w R := by
  obtain ⟨A1, c1, rfl, -, -⟩ := rd.l.op
  obtain ⟨A2, c2, rfl, -, -⟩ := RdPr.op rd.o
  obtain ⟨A3, c3, rfl, -, -⟩ := rd.t.op
  obtain ⟨N1, N3, rfl, -, -⟩ := rd.r.n.op
  obtain ⟨M1, M3, rfl, -⟩ := rd.r.p.sl
  have hA := heap_alloc_new w (.cells #[.slice A1 s.1.length c1, .slice A2 s.2.1.length c2, .slice A3 s.2.2.1.length c3, .int .i64 s.2.2.2.1.kind, .int .i64 s.2.2.2.1.at_, .int .i64 s.2.2.2.1.lo, .int .i64 s.2.2.2.1.hi, .int .i64 s.2.2.2.1.most, .slice N1 s.2.2.2.1.names.length N3, .slice M1 s.2.2.2.2.len M3, .string s.2.2.2.1.name, .int .i64 s.2.2.2.1.nat] 32)
  have zA : (w.alloc (.cells #[.slice A1 s.1.length c1, .slice A2 s.2.1.length c2, .slice A3 s.2.2.1.length c3, .int .i64 s.2.2.2.1.kind, .int .i64 s.2.2.2.1.at_, .int .i64 s.2.2.2.1.lo, .int .i64 s.2.2.2.1.hi, .int .i64 s.2.2.2.1.most, .slice N1 s.2.2.2.1.names.length N3, .slice M1 s.2.2.2.2.len M3, .string s.2.2.2.1.name, .int .i64 s.2.2.2.1.nat] 32)).heap.size = w.heap.size + 1 := by simp
  have hB := heap_alloc_new (w.alloc (.cells #[.slice A1 s.1.length c1, .slice A2 s.2.1.length c2, .slice A3 s.2.2.1.length c3, .int .i64 s.2.2.2.1.kind, .int .i64 s.2.2.2.1.at_, .int .i64 s.2.2.2.1.lo, .int .i64 s.2.2.2.1.hi, .int .i64 s.2.2.2.1.most, .slice N1 s.2.2.2.1.names.length N3, .slice M1 s.2.2.2.2.len M3, .string s.2.2.2.1.name, .int .i64 s.2.2.2.1.nat] 32)) (.cells #[.slice none 0 0, .slice none 0 0, .slice none 0 0, .int .i64 0, .int .i64 0, .int .i64 0, .int .i64 0, .int .i64 0, .slice none 0 0, .slice none 0 0, .string ⟨#[]⟩, .int .i64 0] 32)
  rw [zA] at hB
  replace hA := ((alB (w.alloc (.cells #[.slice A1 s.1.length c1, .slice A2 s.2.1.length c2, .slice A3 s.2.2.1.length c3, .int .i64 s.2.2.2.1.kind, .int .i64 s.2.2.2.1.at_, .int .i64 s.2.2.2.1.lo, .int .i64 s.2.2.2.1.hi, .int .i64 s.2.2.2.1.most, .slice N1 s.2.2.2.1.names.length N3, .slice M1 s.2.2.2.2.len M3, .string s.2.2.2.1.name, .int .i64 s.2.2.2.1.nat] 32)) (.cells #[.slice none 0 0, .slice none 0 0, .slice none 0 0, .int .i64 0, .int .i64 0, .int .i64 0, .int .i64 0, .int .i64 0, .slice none 0 0, .slice none 0 0, .string ⟨#[]⟩, .int .i64 0] 32)).block _ (blt hA)).trans hA
  have n := ((Below.refl w.heap.size w).alloc (Nat.le_refl _) (.cells #[.slice A1 s.1.length c1, .slice A2 s.2.1.length c2, .slice A3 s.2.2.1.length c3, .int .i64 s.2.2.2.1.kind, .int .i64 s.2.2.2.1.at_, .int .i64 s.2.2.2.1.lo, .int .i64 s.2.2.2.1.hi, .int .i64 s.2.2.2.1.most, .slice N1 s.2.2.2.1.names.length N3, .slice M1 s.2.2.2.2.len M3, .string s.2.2.2.1.name, .int .i64 s.2.2.2.1.nat] 32)).alloc (by rw [zA]; omega) (.cells #[.slice none 0 0, .slice none 0 0, .slice none 0 0, .int .i64 0, .int .i64 0, .int .i64 0, .int .i64 0, .int .i64 0, .slice none 0 0, .slice none 0 0, .string ⟨#[]⟩, .int .i64 0] 32)
  clear zA
  replace rd := rd.below n
  go_enter Tryz.func23, Tryz.ntmps23
  go_upto_region 1 with fail
  generalize (w.alloc (.cells #[.slice A1 s.1.length c1, .slice A2 s.2.1.length c2, .slice A3 s.2.2.1.length c3, .int .i64 s.2.2.2.1.kind, .int .i64 s.2.2.2.1.at_, .int .i64 s.2.2.2.1.lo, .int .i64 s.2.2.2.1.hi, .int .i64 s.2.2.2.1.most, .slice N1 s.2.2.2.1.names.length N3, .slice M1 s.2.2.2.2.len M3, .string s.2.2.2.1.name, .int .i64 s.2.2.2.1.nat] 32)).alloc (.cells #[.slice none 0 0, .slice none 0 0, .slice none 0 0, .int .i64 0, .int .i64 0, .int .i64 0, .int .i64 0, .int .i64 0, .slice none 0 0, .slice none 0 0, .string ⟨#[]⟩, .int .i64 0] 32) = V at *
  have lV : w.heap.size + 1 < V.heap.size := blt hB
  have k1 := Lib.hid fun (W : World) (m : Below V.heap.size V W) R hR => eachW_calls s.1 gs.ll (by omega) (.slice A1 s.1.length c1) W (rd.below m).l R hR
  have k2 := Lib.hid fun (W : World) (m : Below V.heap.size V W) R hR => eachP_calls s.2.1 gs.ol (by omega) (.slice A2 s.2.1.length c2) W (rd.below m).o R hR
  have k3 := Lib.hid fun (W : World) (m : Below V.heap.size V W) R hR => eachN_calls s.2.2.1 gs.tl (by omega) gs.t ls.t (.slice A3 s.2.2.1.length c3) W (rd.below m).t R hR
  have k4 := Lib.hid fun (W : World) (m : Below V.heap.size V W) R hR => strip_calls s.2.2.2.2 s.2.2.2.1 (.slice N1 s.2.2.2.1.names.length N3) (.slice M1 s.2.2.2.2.len M3) W ls.r.1 ls.r.2.2.1.1 ls.r.2.2.1.2 ls.r.2.1 ls.r.2.2.2 (rd.below m).r R hR
  have a0 := fun y : GW V (w.heap.size + 1) (w.heap.size + 1) => y.cell (blt hA) (by omega) (by omega) ((Lib.cell_of_heap hA 0).trans rfl)
  have a1 := fun y : GW V (w.heap.size + 1) (w.heap.size + 1) => y.cell (blt hA) (by omega) (by omega) ((Lib.cell_of_heap hA 1).trans rfl)
  have a2 := fun y : GW V (w.heap.size + 1) (w.heap.size + 1) => y.cell (blt hA) (by omega) (by omega) ((Lib.cell_of_heap hA 2).trans rfl)
  have jT : ∀ y : GW V (w.heap.size + 1) (w.heap.size + 1), y.w.rangeAt (w.heap.size) 3 [.int .i64 s.2.2.2.1.kind, .int .i64 s.2.2.2.1.at_, .int .i64 s.2.2.2.1.lo, .int .i64 s.2.2.2.1.hi, .int .i64 s.2.2.2.1.most, .slice N1 s.2.2.2.1.names.length N3, .slice M1 s.2.2.2.2.len M3, .string s.2.2.2.1.name, .int .i64 s.2.2.2.1.nat] := fun y j v h => by rw [Lib.cell_of_heap ((y.b _ (blt hA) (by omega) (by omega)).trans hA), List.getElem?_toArray, ← List.getElem?_drop]; exact h
  clear rd gs ls hA
  refine wp_region_mixG (w.heap.size + 1) (w.heap.size + 1) [([0, 1, 3, 4, 6, 7, 9, 10], 2), ([], 5), ([], 8), ([], 11), ([12], 13)] [] (by kernel_rfl) (by kernel_rfl) (by kernel_rfl) (by kernel_rfl) (fun _ _ d _ _ h => by cases d <;> exact h) ?_
  have gW : Below V.heap.size V (V.drewN 1) := ⟨rfl, rfl, rfl, Nat.le_refl _, fun _ _ => rfl⟩
  refine mix_cons (os := [_, _, _, _, _, _, _, _]) (by simp only [pickO, List.filterMap_cons, List.filterMap_nil, List.getElem?_toArray, List.getElem?_cons_succ, List.getElem?_cons_zero]; rfl) (fun Kp hKp => ?_)
  iterate 7 (go_big_quiet_step (exact rfl))
  refine wpQuiet_load rfl 30 _ rfl (w.heap.size) 3 rfl [.int .i64 s.2.2.2.1.kind, .int .i64 s.2.2.2.1.at_, .int .i64 s.2.2.2.1.lo, .int .i64 s.2.2.2.1.hi, .int .i64 s.2.2.2.1.most, .slice N1 s.2.2.2.1.names.length N3, .slice M1 s.2.2.2.2.len M3, .string s.2.2.2.1.name, .int .i64 s.2.2.2.1.nat] _ (by rintro V ⟨y, rfl⟩; exact jT y) Tryz.underlying30 rfl (by kernel_rfl) ?_
  go_simp
  refine wpQuiet_nil ?_
  refine hKp _ ?_
  clear hKp
  refine loud (by rfl) (by kernel_rfl) (fun K1 hK1 => ?_)
  go_simp
  refine k1.out _ gW _ (Lib.hid fun v1 w1 r1 m1 => ?_)
  obtain ⟨B1, d1, rfl, -, -⟩ := r1.op
  rw [List.length_map] at r1
  have g1 := gW.trans (m1.mono gW.size)
  refine hK1 _ _ (GW.bl g1) ?_
  clear hK1 k1
  refine mix_cons (os := []) (by rfl) (fun Kp hKp => ?_)
  refine wpQuiet_nil ?_
  refine hKp _ ?_
  clear hKp
  refine loud (by rfl) (by kernel_rfl) (fun K2 hK2 => ?_)
  go_simp
  refine k2.out _ g1 _ (Lib.hid fun v2 w2 r2 m2 => ?_)
  obtain ⟨B2, d2, rfl, -, -⟩ := RdPr.op r2
  rw [List.length_map] at r2
  have g2 := g1.trans (m2.mono g1.size)
  refine hK2 _ _ (GW.bl g2) ?_
  clear hK2 k2
  refine mix_cons (os := []) (by rfl) (fun Kp hKp => ?_)
  refine wpQuiet_nil ?_
  refine hKp _ ?_
  clear hKp
  refine loud (by rfl) (by kernel_rfl) (fun K3 hK3 => ?_)
  go_simp
  refine k3.out _ g2 _ (Lib.hid fun v3 w3 r3 m3 => ?_)
  obtain ⟨B3, d3, rfl, -, -⟩ := r3.op
  rw [List.length_map] at r3
  have g3 := g2.trans (m3.mono g2.size)
  refine hK3 _ _ (GW.bl g3) ?_
  clear hK3 k3
  refine mix_cons (os := []) (by rfl) (fun Kp hKp => ?_)
  refine wpQuiet_nil ?_
  refine hKp _ ?_
  clear hKp
  refine loud (by rfl) (by kernel_rfl) (fun K4 hK4 => ?_)
  go_simp
  refine k4.out _ g3 _ (Lib.hid fun nv4 pv4 w4 r4 m4 => ?_)
  obtain ⟨X1, X3, rfl, -, -⟩ := r4.n.op
  obtain ⟨Y1, Y3, rfl, -⟩ := r4.p.sl
  have g4 := g3.trans (m4.mono g3.size)
  refine hK4 _ _ (GW.bl g4) ?_
  clear hK4 k4
  refine mix_cons (os := [_]) (by simp only [pickO, List.filterMap_cons, List.filterMap_nil, List.getElem?_toArray, List.getElem?_cons_succ, List.getElem?_cons_zero]; rfl) (fun Kp hKp => ?_)
  go_big_quiet_step (exact rfl)
  refine wpQuiet_nil ?_
  refine hKp _ ?_
  clear hKp
  refine loud (by rfl) (by kernel_rfl) (fun K5 hK5 => ?_)
  replace hB := (g4.block _ lV).trans hB
  have ht_ : w4.there (w.heap.size + 1) 0 12 := there_of hB rfl
  have gp_ : ∃ gg : GW _ (w.heap.size + 1) (w.heap.size + 1), w4.setCells (w.heap.size + 1) 0 [.slice B1 s.1.length d1, .slice B2 s.2.1.length d2, .slice B3 s.2.2.1.length d3, .int .i64 (stripH s.2.2.2.1).kind, .int .i64 (stripH s.2.2.2.1).at_, .int .i64 (stripH s.2.2.2.1).lo, .int .i64 (stripH s.2.2.2.1).hi, .int .i64 (stripH s.2.2.2.1).most, .slice X1 (stripH s.2.2.2.1).names.length X3, .slice Y1 (stripF s.2.2.2.2).len Y3, .string (stripH s.2.2.2.1).name, .int .i64 (stripH s.2.2.2.1).nat] = gg.w := sc_gw (GW.bl g4) _ _
  have n2 := n.trans (g4.mono n.size)
  have n_ := sc_below (B := w.heap.size + 1) (by omega) [.slice B1 s.1.length d1, .slice B2 s.2.1.length d2, .slice B3 s.2.2.1.length d3, .int .i64 (stripH s.2.2.2.1).kind, .int .i64 (stripH s.2.2.2.1).at_, .int .i64 (stripH s.2.2.2.1).lo, .int .i64 (stripH s.2.2.2.1).hi, .int .i64 (stripH s.2.2.2.1).most, .slice X1 (stripH s.2.2.2.1).names.length X3, .slice Y1 (stripF s.2.2.2.2).len Y3, .string (stripH s.2.2.2.1).name, .int .i64 (stripH s.2.2.2.1).nat] 0 _ _ n2
  have xx0 := sc_cell (vs := [.slice B1 s.1.length d1, .slice B2 s.2.1.length d2, .slice B3 s.2.2.1.length d3, .int .i64 (stripH s.2.2.2.1).kind, .int .i64 (stripH s.2.2.2.1).at_, .int .i64 (stripH s.2.2.2.1).lo, .int .i64 (stripH s.2.2.2.1).hi, .int .i64 (stripH s.2.2.2.1).most, .slice X1 (stripH s.2.2.2.1).names.length X3, .slice Y1 (stripF s.2.2.2.2).len Y3, .string (stripH s.2.2.2.1).name, .int .i64 (stripH s.2.2.2.1).nat]) ht_ 0 rfl
  have xx1 := sc_cell (vs := [.slice B1 s.1.length d1, .slice B2 s.2.1.length d2, .slice B3 s.2.2.1.length d3, .int .i64 (stripH s.2.2.2.1).kind, .int .i64 (stripH s.2.2.2.1).at_, .int .i64 (stripH s.2.2.2.1).lo, .int .i64 (stripH s.2.2.2.1).hi, .int .i64 (stripH s.2.2.2.1).most, .slice X1 (stripH s.2.2.2.1).names.length X3, .slice Y1 (stripF s.2.2.2.2).len Y3, .string (stripH s.2.2.2.1).name, .int .i64 (stripH s.2.2.2.1).nat]) ht_ 1 rfl
  have xx2 := sc_cell (vs := [.slice B1 s.1.length d1, .slice B2 s.2.1.length d2, .slice B3 s.2.2.1.length d3, .int .i64 (stripH s.2.2.2.1).kind, .int .i64 (stripH s.2.2.2.1).at_, .int .i64 (stripH s.2.2.2.1).lo, .int .i64 (stripH s.2.2.2.1).hi, .int .i64 (stripH s.2.2.2.1).most, .slice X1 (stripH s.2.2.2.1).names.length X3, .slice Y1 (stripF s.2.2.2.2).len Y3, .string (stripH s.2.2.2.1).name, .int .i64 (stripH s.2.2.2.1).nat]) ht_ 2 rfl
  have xx3 := sc_cell (vs := [.slice B1 s.1.length d1, .slice B2 s.2.1.length d2, .slice B3 s.2.2.1.length d3, .int .i64 (stripH s.2.2.2.1).kind, .int .i64 (stripH s.2.2.2.1).at_, .int .i64 (stripH s.2.2.2.1).lo, .int .i64 (stripH s.2.2.2.1).hi, .int .i64 (stripH s.2.2.2.1).most, .slice X1 (stripH s.2.2.2.1).names.length X3, .slice Y1 (stripF s.2.2.2.2).len Y3, .string (stripH s.2.2.2.1).name, .int .i64 (stripH s.2.2.2.1).nat]) ht_ 3 rfl
  have xx4 := sc_cell (vs := [.slice B1 s.1.length d1, .slice B2 s.2.1.length d2, .slice B3 s.2.2.1.length d3, .int .i64 (stripH s.2.2.2.1).kind, .int .i64 (stripH s.2.2.2.1).at_, .int .i64 (stripH s.2.2.2.1).lo, .int .i64 (stripH s.2.2.2.1).hi, .int .i64 (stripH s.2.2.2.1).most, .slice X1 (stripH s.2.2.2.1).names.length X3, .slice Y1 (stripF s.2.2.2.2).len Y3, .string (stripH s.2.2.2.1).name, .int .i64 (stripH s.2.2.2.1).nat]) ht_ 4 rfl
  have xx5 := sc_cell (vs := [.slice B1 s.1.length d1, .slice B2 s.2.1.length d2, .slice B3 s.2.2.1.length d3, .int .i64 (stripH s.2.2.2.1).kind, .int .i64 (stripH s.2.2.2.1).at_, .int .i64 (stripH s.2.2.2.1).lo, .int .i64 (stripH s.2.2.2.1).hi, .int .i64 (stripH s.2.2.2.1).most, .slice X1 (stripH s.2.2.2.1).names.length X3, .slice Y1 (stripF s.2.2.2.2).len Y3, .string (stripH s.2.2.2.1).name, .int .i64 (stripH s.2.2.2.1).nat]) ht_ 5 rfl
  have xx6 := sc_cell (vs := [.slice B1 s.1.length d1, .slice B2 s.2.1.length d2, .slice B3 s.2.2.1.length d3, .int .i64 (stripH s.2.2.2.1).kind, .int .i64 (stripH s.2.2.2.1).at_, .int .i64 (stripH s.2.2.2.1).lo, .int .i64 (stripH s.2.2.2.1).hi, .int .i64 (stripH s.2.2.2.1).most, .slice X1 (stripH s.2.2.2.1).names.length X3, .slice Y1 (stripF s.2.2.2.2).len Y3, .string (stripH s.2.2.2.1).name, .int .i64 (stripH s.2.2.2.1).nat]) ht_ 6 rfl
  have xx7 := sc_cell (vs := [.slice B1 s.1.length d1, .slice B2 s.2.1.length d2, .slice B3 s.2.2.1.length d3, .int .i64 (stripH s.2.2.2.1).kind, .int .i64 (stripH s.2.2.2.1).at_, .int .i64 (stripH s.2.2.2.1).lo, .int .i64 (stripH s.2.2.2.1).hi, .int .i64 (stripH s.2.2.2.1).most, .slice X1 (stripH s.2.2.2.1).names.length X3, .slice Y1 (stripF s.2.2.2.2).len Y3, .string (stripH s.2.2.2.1).name, .int .i64 (stripH s.2.2.2.1).nat]) ht_ 7 rfl
  have xx8 := sc_cell (vs := [.slice B1 s.1.length d1, .slice B2 s.2.1.length d2, .slice B3 s.2.2.1.length d3, .int .i64 (stripH s.2.2.2.1).kind, .int .i64 (stripH s.2.2.2.1).at_, .int .i64 (stripH s.2.2.2.1).lo, .int .i64 (stripH s.2.2.2.1).hi, .int .i64 (stripH s.2.2.2.1).most, .slice X1 (stripH s.2.2.2.1).names.length X3, .slice Y1 (stripF s.2.2.2.2).len Y3, .string (stripH s.2.2.2.1).name, .int .i64 (stripH s.2.2.2.1).nat]) ht_ 8 rfl
  have xx9 := sc_cell (vs := [.slice B1 s.1.length d1, .slice B2 s.2.1.length d2, .slice B3 s.2.2.1.length d3, .int .i64 (stripH s.2.2.2.1).kind, .int .i64 (stripH s.2.2.2.1).at_, .int .i64 (stripH s.2.2.2.1).lo, .int .i64 (stripH s.2.2.2.1).hi, .int .i64 (stripH s.2.2.2.1).most, .slice X1 (stripH s.2.2.2.1).names.length X3, .slice Y1 (stripF s.2.2.2.2).len Y3, .string (stripH s.2.2.2.1).name, .int .i64 (stripH s.2.2.2.1).nat]) ht_ 9 rfl
  have xx10 := sc_cell (vs := [.slice B1 s.1.length d1, .slice B2 s.2.1.length d2, .slice B3 s.2.2.1.length d3, .int .i64 (stripH s.2.2.2.1).kind, .int .i64 (stripH s.2.2.2.1).at_, .int .i64 (stripH s.2.2.2.1).lo, .int .i64 (stripH s.2.2.2.1).hi, .int .i64 (stripH s.2.2.2.1).most, .slice X1 (stripH s.2.2.2.1).names.length X3, .slice Y1 (stripF s.2.2.2.2).len Y3, .string (stripH s.2.2.2.1).name, .int .i64 (stripH s.2.2.2.1).nat]) ht_ 10 rfl
  have xx11 := sc_cell (vs := [.slice B1 s.1.length d1, .slice B2 s.2.1.length d2, .slice B3 s.2.2.1.length d3, .int .i64 (stripH s.2.2.2.1).kind, .int .i64 (stripH s.2.2.2.1).at_, .int .i64 (stripH s.2.2.2.1).lo, .int .i64 (stripH s.2.2.2.1).hi, .int .i64 (stripH s.2.2.2.1).most, .slice X1 (stripH s.2.2.2.1).names.length X3, .slice Y1 (stripF s.2.2.2.2).len Y3, .string (stripH s.2.2.2.1).name, .int .i64 (stripH s.2.2.2.1).nat]) ht_ 11 rfl
  refine wp_store_mid 32 _ _ (by rfl) (w.heap.size + 1) 0 #[.slice B1 s.1.length d1, .slice B2 s.2.1.length d2, .slice B3 s.2.2.1.length d3, .int .i64 (stripH s.2.2.2.1).kind, .int .i64 (stripH s.2.2.2.1).at_, .int .i64 (stripH s.2.2.2.1).lo, .int .i64 (stripH s.2.2.2.1).hi, .int .i64 (stripH s.2.2.2.1).most, .slice X1 (stripH s.2.2.2.1).names.length X3, .slice Y1 (stripF s.2.2.2.2).len Y3, .string (stripH s.2.2.2.1).name, .int .i64 (stripH s.2.2.2.1).nat] (by rfl) (by rfl) ht_ (by kernel_rfl) (by simp [Value.oneCell']) ?_
  refine hK5 _ _ gp_ ?_
  clear hK5
  have e_ : w4.setCells (w.heap.size + 1) 0 (#[.slice B1 s.1.length d1, .slice B2 s.2.1.length d2, .slice B3 s.2.2.1.length d3, .int .i64 (stripH s.2.2.2.1).kind, .int .i64 (stripH s.2.2.2.1).at_, .int .i64 (stripH s.2.2.2.1).lo, .int .i64 (stripH s.2.2.2.1).hi, .int .i64 (stripH s.2.2.2.1).most, .slice X1 (stripH s.2.2.2.1).names.length X3, .slice Y1 (stripF s.2.2.2.2).len Y3, .string (stripH s.2.2.2.1).name, .int .i64 (stripH s.2.2.2.1).nat] : Array Value).toList = w4.setCells (w.heap.size + 1) 0 [.slice B1 s.1.length d1, .slice B2 s.2.1.length d2, .slice B3 s.2.2.1.length d3, .int .i64 (stripH s.2.2.2.1).kind, .int .i64 (stripH s.2.2.2.1).at_, .int .i64 (stripH s.2.2.2.1).lo, .int .i64 (stripH s.2.2.2.1).hi, .int .i64 (stripH s.2.2.2.1).most, .slice X1 (stripH s.2.2.2.1).names.length X3, .slice Y1 (stripF s.2.2.2.2).len Y3, .string (stripH s.2.2.2.1).name, .int .i64 (stripH s.2.2.2.1).nat] := rfl
  rw [e_]
  clear e_
  have s1 := g1.size
  have s2 := g2.size
  have s3 := g3.size
  have q1 := emp_bs (W := w1) (W' := w4) (b := V.heap.size) (b0 := w.heap.size) (B := w.heap.size + 1) (by omega) lV (m2.trans ((m3.trans (m4.mono m3.size)).mono m2.size)) [.slice B1 s.1.length d1, .slice B2 s.2.1.length d2, .slice B3 s.2.2.1.length d3, .int .i64 (stripH s.2.2.2.1).kind, .int .i64 (stripH s.2.2.2.1).at_, .int .i64 (stripH s.2.2.2.1).lo, .int .i64 (stripH s.2.2.2.1).hi, .int .i64 (stripH s.2.2.2.1).most, .slice X1 (stripH s.2.2.2.1).names.length X3, .slice Y1 (stripF s.2.2.2.2).len Y3, .string (stripH s.2.2.2.1).name, .int .i64 (stripH s.2.2.2.1).nat] 0
  have q2 := emp_bs (W := w2) (W' := w4) (b := w1.heap.size) (b0 := w.heap.size) (B := w.heap.size + 1) (by omega) (by omega) (m3.trans (m4.mono m3.size)) [.slice B1 s.1.length d1, .slice B2 s.2.1.length d2, .slice B3 s.2.2.1.length d3, .int .i64 (stripH s.2.2.2.1).kind, .int .i64 (stripH s.2.2.2.1).at_, .int .i64 (stripH s.2.2.2.1).lo, .int .i64 (stripH s.2.2.2.1).hi, .int .i64 (stripH s.2.2.2.1).most, .slice X1 (stripH s.2.2.2.1).names.length X3, .slice Y1 (stripF s.2.2.2.2).len Y3, .string (stripH s.2.2.2.1).name, .int .i64 (stripH s.2.2.2.1).nat] 0
  have q3 := emp_bs (W := w3) (W' := w4) (b := w2.heap.size) (b0 := w.heap.size) (B := w.heap.size + 1) (by omega) (by omega) m4 [.slice B1 s.1.length d1, .slice B2 s.2.1.length d2, .slice B3 s.2.2.1.length d3, .int .i64 (stripH s.2.2.2.1).kind, .int .i64 (stripH s.2.2.2.1).at_, .int .i64 (stripH s.2.2.2.1).lo, .int .i64 (stripH s.2.2.2.1).hi, .int .i64 (stripH s.2.2.2.1).most, .slice X1 (stripH s.2.2.2.1).names.length X3, .slice Y1 (stripF s.2.2.2.2).len Y3, .string (stripH s.2.2.2.1).name, .int .i64 (stripH s.2.2.2.1).nat] 0
  have q4 := emp_bs (W := w4) (W' := w4) (b := w3.heap.size) (b0 := w.heap.size) (B := w.heap.size + 1) (by omega) (by omega) (Below.refl _ _) [.slice B1 s.1.length d1, .slice B2 s.2.1.length d2, .slice B3 s.2.2.1.length d3, .int .i64 (stripH s.2.2.2.1).kind, .int .i64 (stripH s.2.2.2.1).at_, .int .i64 (stripH s.2.2.2.1).lo, .int .i64 (stripH s.2.2.2.1).hi, .int .i64 (stripH s.2.2.2.1).most, .slice X1 (stripH s.2.2.2.1).names.length X3, .slice Y1 (stripF s.2.2.2.2).len Y3, .string (stripH s.2.2.2.1).name, .int .i64 (stripH s.2.2.2.1).nat] 0
  have fin := Lib.hid (hR.out _ _ _ _ _ _ ⟨r1.kp q1, RdAt.kp q2 r2, r3.kp q3, RdY.kp q4 r4⟩ n_)
  clear hR q1 q2 q3 q4 r1 r2 r3 r4 m1 m2 m3 m4 s1 s2 s3 g1 g2 g3 g4 gp_ ht_ n_ n2
  generalize w4.setCells (w.heap.size + 1) 0 [.slice B1 s.1.length d1, .slice B2 s.2.1.length d2, .slice B3 s.2.2.1.length d3, .int .i64 (stripH s.2.2.2.1).kind, .int .i64 (stripH s.2.2.2.1).at_, .int .i64 (stripH s.2.2.2.1).lo, .int .i64 (stripH s.2.2.2.1).hi, .int .i64 (stripH s.2.2.2.1).most, .slice X1 (stripH s.2.2.2.1).names.length X3, .slice Y1 (stripF s.2.2.2.2).len Y3, .string (stripH s.2.2.2.1).name, .int .i64 (stripH s.2.2.2.1).nat] = W8 at *
  refine mix_nil (os := []) (by rfl) (fun Kp hKp => ?_)
  refine wpQuiet_nil ?_
  refine hKp _ ?_
  clear hKp
  go_wp2_with fail
  refine bodyPost_ret ?_ rfl fin.out
  simp [results, Tryz.results23, go_sem, xx0, xx1, xx2, xx3, xx4, xx5, xx6, xx7, xx8, xx9, xx10, xx11]
end Go.Proofs.YtbochlbgjnmgjaaGreat.Unp
