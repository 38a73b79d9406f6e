import Derived.Test.YtbochlbgjnmgjaaGreatG20
import Derived.Test.YtbochlbgjnmgjaaGreatZKinC
/- Layer 17: the code writes a schema. -/
set_option maxRecDepth 100000
set_option linter.unusedVariables false
namespace Go.Proofs.YtbochlbgjnmgjaaGreat.Unp
open Go.RowKit Go.Lib Go.Proofs.YtbochlbgjnmgjaaGreat.Nam Go.Proofs.YtbochlbgjnmgjaaGreat.Lat Go.Proofs.YtbochlbgjnmgjaaGreat.Kin Go.Proofs.YtbochlbgjnmgjaaGreat.Dig

theorem named_alloc (ρ : Operand → Value) (W : World) (o : Oper) (h : o.op = .alloc 67) : (execOp ρ o).run Tryz.prog W = .ok (.value (ptA W.heap.size)) (W.alloc (.cells #[.string ⟨#[]⟩, .int .i64 0, .int .i64 0, .int .i64 0, .int .i64 0, .int .i64 0, .int .i64 0, .slice none 0 0, .slice none 0 0, .string ⟨#[]⟩, .int .i64 0] 67)) := by
  simp [execOp, h, go_sem, ptA]
end Go.Proofs.YtbochlbgjnmgjaaGreat.Unp

/- Layer 17: schemas that are the same. -/
set_option maxRecDepth 100000
set_option linter.unusedVariables false
namespace Go.Proofs.YtbochlbgjnmgjaaGreat.Unp
open Go.RowKit Go.Lib Go.Proofs.YtbochlbgjnmgjaaGreat.Nam Go.Proofs.YtbochlbgjnmgjaaGreat.Lat Go.Proofs.YtbochlbgjnmgjaaGreat.Kin Go.Proofs.YtbochlbgjnmgjaaGreat.Dig

def eqL {α : Type} (S : α → α → Bool) : List α → List α → Bool
  | [], [] => true
  | x :: l, y :: m => S x y && eqL S l m
  | _, _ => false
theorem eqL_ne {α : Type} {S : α → α → Bool} : ∀ {l m : List α}, l.length ≠ m.length → eqL S l m = false
  | [], [], h => absurd rfl h
  | [], _ :: _, _ => rfl
  | _ :: _, [], _ => rfl
  | x :: l, y :: m, h => by unfold eqL; rw [eqL_ne (l := l) (m := m) (by simpa using h), Bool.and_false]
theorem eqL_drop {α : Type} {S : α → α → Bool} {l m : List α} {i : Nat} (h : i < l.length) (h2 : i < m.length) : eqL S (l.drop i) (m.drop i) = (S l[i] m[i] && eqL S (l.drop (i + 1)) (m.drop (i + 1))) := by
  rw [List.drop_eq_getElem_cons h, List.drop_eq_getElem_cons h2]
  rfl
theorem eqL_end {α : Type} {S : α → α → Bool} {l m : List α} (h : l.length = m.length) : eqL S (l.drop l.length) (m.drop l.length) = true := by
  rw [List.drop_length, h, List.drop_length]
  rfl
def sW (x y : Wr) : Bool := decide (x.1 = y.1)
def sP (x y : Pr) : Bool := sW x.1 y.1 && sW x.2 y.2
def sN (x y : Nd) : Bool := sW x.1 y.1 && sameS x.2.1 x.2.2 y.2.1 y.2.2
/-- Are two schemas the same, but for places? -/
def sameSc (s t : Sc) : Bool := eqL sW s.1 t.1 && eqL sP s.2.1 t.2.1 && eqL sN s.2.2.1 t.2.2.1 && sameS s.2.2.2.1 s.2.2.2.2 t.2.2.2.1 t.2.2.2.2
set_option maxRecDepth 100000 in
set_option maxHeartbeats 1000000 in
theorem sw_calls (x y : Wr) (w : World) (R : Ending → World → Prop) (hR : Hid (∀ w', Below w.heap.size w w' → R (.returned (.bool (sW x y))) w')) : Calls Tryz.prog 64 #[.agg #[.string x.1, .int .i64 x.2], .agg #[.string y.1, .int .i64 y.2]] w R := by
  have hA := heap_alloc_new w (.cells #[.string x.1, .int .i64 x.2] 28)
  have zA : (w.alloc (.cells #[.string x.1, .int .i64 x.2] 28)).heap.size = w.heap.size + 1 := by simp
  have hB := heap_alloc_new (w.alloc (.cells #[.string x.1, .int .i64 x.2] 28)) (.cells #[.string y.1, .int .i64 y.2] 28)
  rw [zA] at hB
  replace hA := ((alB (w.alloc (.cells #[.string x.1, .int .i64 x.2] 28)) (.cells #[.string y.1, .int .i64 y.2] 28)).block _ (blt hA)).trans hA
  have n := ((Below.refl w.heap.size w).alloc (Nat.le_refl _) (.cells #[.string x.1, .int .i64 x.2] 28)).alloc (by rw [zA]; omega) (.cells #[.string y.1, .int .i64 y.2] 28)
  clear zA
  have fin := hR.out _ n
  unfold sW at fin
  clear hR
  go_enter Tryz.func64, Tryz.ntmps64
  go_upto_region 1 with fail
  generalize (w.alloc (.cells #[.string x.1, .int .i64 x.2] 28)).alloc (.cells #[.string y.1, .int .i64 y.2] 28) = V at *
  have a0 := (Lib.cell_of_heap hA 0).trans rfl
  have b0 := (Lib.cell_of_heap hB 0).trans rfl
  clear hA hB
  by_cases h : x.1 = y.1
  · have q := seq_t h
    rw [decide_eq_true h] at fin
    replace fin := Lib.hid fin
    clear h
    go_wp2_with fail
    exact fin.out
  · have q := seq_f h
    rw [decide_eq_false h] at fin
    replace fin := Lib.hid fin
    clear h
    go_wp2_with fail
    exact fin.out
set_option maxRecDepth 100000 in
set_option maxHeartbeats 1000000 in
theorem sp_calls (x y : Pr) (w : World) (R : Ending → World → Prop) (hR : Hid (∀ w', Below w.heap.size w w' → R (.returned (.bool (sP x y))) w')) : Calls Tryz.prog 66 #[.agg #[.string x.1.1, .int .i64 x.1.2, .string x.2.1, .int .i64 x.2.2], .agg #[.string y.1.1, .int .i64 y.1.2, .string y.2.1, .int .i64 y.2.2]] w R := by
  have hA := heap_alloc_new w (.cells #[.string x.1.1, .int .i64 x.1.2, .string x.2.1, .int .i64 x.2.2] 65)
  have zA : (w.alloc (.cells #[.string x.1.1, .int .i64 x.1.2, .string x.2.1, .int .i64 x.2.2] 65)).heap.size = w.heap.size + 1 := by simp
  have hB := heap_alloc_new (w.alloc (.cells #[.string x.1.1, .int .i64 x.1.2, .string x.2.1, .int .i64 x.2.2] 65)) (.cells #[.string y.1.1, .int .i64 y.1.2, .string y.2.1, .int .i64 y.2.2] 65)
  rw [zA] at hB
  replace hA := ((alB (w.alloc (.cells #[.string x.1.1, .int .i64 x.1.2, .string x.2.1, .int .i64 x.2.2] 65)) (.cells #[.string y.1.1, .int .i64 y.1.2, .string y.2.1, .int .i64 y.2.2] 65)).block _ (blt hA)).trans hA
  have n := ((Below.refl w.heap.size w).alloc (Nat.le_refl _) (.cells #[.string x.1.1, .int .i64 x.1.2, .string x.2.1, .int .i64 x.2.2] 65)).alloc (by rw [zA]; omega) (.cells #[.string y.1.1, .int .i64 y.1.2, .string y.2.1, .int .i64 y.2.2] 65)
  clear zA
  have hq : sP x y = (sW x.1 y.1 && sW x.2 y.2) := rfl
  rw [hq] at hR
  clear hq
  have c1 := Lib.hid fun (W : World) R hR => sw_calls x.1 y.1 W R hR
  have c2 := Lib.hid fun (W : World) R hR => sw_calls x.2 y.2 W R hR
  generalize sW x.1 y.1 = y1 at *
  generalize sW x.2 y.2 = y2 at *
  go_enter Tryz.func66, Tryz.ntmps66
  go_upto_region 1 with fail
  generalize (w.alloc (.cells #[.string x.1.1, .int .i64 x.1.2, .string x.2.1, .int .i64 x.2.2] 65)).alloc (.cells #[.string y.1.1, .int .i64 y.1.2, .string y.2.1, .int .i64 y.2.2] 65) = V at *
  have a0 := (Lib.cell_of_heap hA 0).trans rfl
  have a1 := (Lib.cell_of_heap hA 1).trans rfl
  have b0 := (Lib.cell_of_heap hB 0).trans rfl
  have b1 := (Lib.cell_of_heap hB 1).trans rfl
  go_wp2_with fail
  refine c1.out _ _ (Lib.hid fun w1 m1 => ?_)
  replace hA := (m1.block _ (blt hA)).trans hA
  replace hB := (m1.block _ (blt hB)).trans hB
  replace n := n.trans (m1.mono n.size)
  clear m1 a0 a1 b0 b1
  cases y1
  · rw [Bool.false_and] at hR
    have fin := Lib.hid (hR.out _ n)
    clear hR
    go_wp2_with fail
    exact fin.out
  · rw [Bool.true_and] at hR
    have a2 := (Lib.cell_of_heap hA 2).trans rfl
    have a3 := (Lib.cell_of_heap hA 3).trans rfl
    have b2 := (Lib.cell_of_heap hB 2).trans rfl
    have b3 := (Lib.cell_of_heap hB 3).trans rfl
    go_wp2_with fail
    refine c2.out _ _ (Lib.hid fun w2 m2 => ?_)
    have fin := Lib.hid (hR.out _ (n.trans (m2.mono n.size)))
    clear hR m2 a2 a3 b2 b3
    go_wp2_with fail
    exact fin.out
set_option maxRecDepth 100000 in
set_option maxHeartbeats 2000000 in
theorem sn_calls (x y : Nd) (gx : GoodN x) (nv pv nv' pv' : Value) (w : World) (hx : RdY w x.2.1 x.2.2 nv pv) (hy : RdY w y.2.1 y.2.2 nv' pv') (R : Ending → World → Prop) (hR : Hid (∀ w', Below w.heap.size w w' → R (.returned (.bool (sN x y))) w')) : Calls Tryz.prog 68 #[.agg #[.string x.1.1, .int .i64 x.1.2, .int .i64 x.2.1.kind, .int .i64 x.2.1.at_, .int .i64 x.2.1.lo, .int .i64 x.2.1.hi, .int .i64 x.2.1.most, nv, pv, .string x.2.1.name, .int .i64 x.2.1.nat], .agg #[.string y.1.1, .int .i64 y.1.2, .int .i64 y.2.1.kind, .int .i64 y.2.1.at_, .int .i64 y.2.1.lo, .int .i64 y.2.1.hi, .int .i64 y.2.1.most, nv', pv', .string y.2.1.name, .int .i64 y.2.1.nat]] w R := by
  obtain ⟨N1, N3, rfl, -, -⟩ := hx.n.op
  obtain ⟨M1, M3, rfl, -⟩ := hx.p.sl
  obtain ⟨X1, X3, rfl, -, -⟩ := hy.n.op
  obtain ⟨Y1, Y3, rfl, -⟩ := hy.p.sl
  have hA := heap_alloc_new w (.cells #[.string x.1.1, .int .i64 x.1.2, .int .i64 x.2.1.kind, .int .i64 x.2.1.at_, .int .i64 x.2.1.lo, .int .i64 x.2.1.hi, .int .i64 x.2.1.most, .slice N1 x.2.1.names.length N3, .slice M1 x.2.2.len M3, .string x.2.1.name, .int .i64 x.2.1.nat] 67)
  have zA : (w.alloc (.cells #[.string x.1.1, .int .i64 x.1.2, .int .i64 x.2.1.kind, .int .i64 x.2.1.at_, .int .i64 x.2.1.lo, .int .i64 x.2.1.hi, .int .i64 x.2.1.most, .slice N1 x.2.1.names.length N3, .slice M1 x.2.2.len M3, .string x.2.1.name, .int .i64 x.2.1.nat] 67)).heap.size = w.heap.size + 1 := by simp
  have hB := heap_alloc_new (w.alloc (.cells #[.string x.1.1, .int .i64 x.1.2, .int .i64 x.2.1.kind, .int .i64 x.2.1.at_, .int .i64 x.2.1.lo, .int .i64 x.2.1.hi, .int .i64 x.2.1.most, .slice N1 x.2.1.names.length N3, .slice M1 x.2.2.len M3, .string x.2.1.name, .int .i64 x.2.1.nat] 67)) (.cells #[.string y.1.1, .int .i64 y.1.2, .int .i64 y.2.1.kind, .int .i64 y.2.1.at_, .int .i64 y.2.1.lo, .int .i64 y.2.1.hi, .int .i64 y.2.1.most, .slice X1 y.2.1.names.length X3, .slice Y1 y.2.2.len Y3, .string y.2.1.name, .int .i64 y.2.1.nat] 67)
  rw [zA] at hB
  replace hA := ((alB (w.alloc (.cells #[.string x.1.1, .int .i64 x.1.2, .int .i64 x.2.1.kind, .int .i64 x.2.1.at_, .int .i64 x.2.1.lo, .int .i64 x.2.1.hi, .int .i64 x.2.1.most, .slice N1 x.2.1.names.length N3, .slice M1 x.2.2.len M3, .string x.2.1.name, .int .i64 x.2.1.nat] 67)) (.cells #[.string y.1.1, .int .i64 y.1.2, .int .i64 y.2.1.kind, .int .i64 y.2.1.at_, .int .i64 y.2.1.lo, .int .i64 y.2.1.hi, .int .i64 y.2.1.most, .slice X1 y.2.1.names.length X3, .slice Y1 y.2.2.len Y3, .string y.2.1.name, .int .i64 y.2.1.nat] 67)).block _ (blt hA)).trans hA
  have n := ((Below.refl w.heap.size w).alloc (Nat.le_refl _) (.cells #[.string x.1.1, .int .i64 x.1.2, .int .i64 x.2.1.kind, .int .i64 x.2.1.at_, .int .i64 x.2.1.lo, .int .i64 x.2.1.hi, .int .i64 x.2.1.most, .slice N1 x.2.1.names.length N3, .slice M1 x.2.2.len M3, .string x.2.1.name, .int .i64 x.2.1.nat] 67)).alloc (by rw [zA]; omega) (.cells #[.string y.1.1, .int .i64 y.1.2, .int .i64 y.2.1.kind, .int .i64 y.2.1.at_, .int .i64 y.2.1.lo, .int .i64 y.2.1.hi, .int .i64 y.2.1.most, .slice X1 y.2.1.names.length X3, .slice Y1 y.2.2.len Y3, .string y.2.1.name, .int .i64 y.2.1.nat] 67)
  clear zA
  have hq : sN x y = (sW x.1 y.1 && sameS x.2.1 x.2.2 y.2.1 y.2.2) := rfl
  rw [hq] at hR
  clear hq
  have c1 := Lib.hid fun (W : World) R hR => sw_calls x.1 y.1 W R hR
  have c2 := Lib.hid fun (W : World) (m : Below w.heap.size w W) R hR => sameC_calls x.2.2 x.2.1 y.2.1 y.2.2 (.slice N1 x.2.1.names.length N3) (.slice M1 x.2.2.len M3) (.slice X1 y.2.1.names.length X3) (.slice Y1 y.2.2.len Y3) W gx.2.1.2.2.2.2.2.2.2.2 gx.2.2.2 gx.2.2.1 (hx.below m) (hy.below m) R hR
  generalize sW x.1 y.1 = y1 at *
  generalize sameS x.2.1 x.2.2 y.2.1 y.2.2 = y2 at *
  go_enter Tryz.func68, Tryz.ntmps68
  go_upto_region 1 with fail
  generalize (w.alloc (.cells #[.string x.1.1, .int .i64 x.1.2, .int .i64 x.2.1.kind, .int .i64 x.2.1.at_, .int .i64 x.2.1.lo, .int .i64 x.2.1.hi, .int .i64 x.2.1.most, .slice N1 x.2.1.names.length N3, .slice M1 x.2.2.len M3, .string x.2.1.name, .int .i64 x.2.1.nat] 67)).alloc (.cells #[.string y.1.1, .int .i64 y.1.2, .int .i64 y.2.1.kind, .int .i64 y.2.1.at_, .int .i64 y.2.1.lo, .int .i64 y.2.1.hi, .int .i64 y.2.1.most, .slice X1 y.2.1.names.length X3, .slice Y1 y.2.2.len Y3, .string y.2.1.name, .int .i64 y.2.1.nat] 67) = V at *
  have a0 := (Lib.cell_of_heap hA 0).trans rfl
  have a1 := (Lib.cell_of_heap hA 1).trans rfl
  have b0 := (Lib.cell_of_heap hB 0).trans rfl
  have b1 := (Lib.cell_of_heap hB 1).trans rfl
  go_wp2_with fail
  refine c1.out _ _ (Lib.hid fun w1 m1 => ?_)
  replace hA := (m1.block _ (blt hA)).trans hA
  replace hB := (m1.block _ (blt hB)).trans hB
  replace n := n.trans (m1.mono n.size)
  clear m1 a0 a1 b0 b1
  cases y1
  · rw [Bool.false_and] at hR
    have fin := Lib.hid (hR.out _ n)
    clear hR
    go_wp2_with fail
    exact fin.out
  · rw [Bool.true_and] at hR
    have c3 := Lib.hid (c2.out w1 n)
    have rT : w1.rangeAt w.heap.size 2 [.int .i64 x.2.1.kind, .int .i64 x.2.1.at_, .int .i64 x.2.1.lo, .int .i64 x.2.1.hi, .int .i64 x.2.1.most, .slice N1 x.2.1.names.length N3, .slice M1 x.2.2.len M3, .string x.2.1.name, .int .i64 x.2.1.nat] := fun j v h => by rw [Lib.cell_of_heap hA, List.getElem?_toArray, ← List.getElem?_drop]; exact h
    have rU : w1.rangeAt (w.heap.size + 1) 2 [.int .i64 y.2.1.kind, .int .i64 y.2.1.at_, .int .i64 y.2.1.lo, .int .i64 y.2.1.hi, .int .i64 y.2.1.most, .slice X1 y.2.1.names.length X3, .slice Y1 y.2.2.len Y3, .string y.2.1.name, .int .i64 y.2.1.nat] := fun j v h => by rw [Lib.cell_of_heap hB, List.getElem?_toArray, ← List.getElem?_drop]; exact h
    go_wp2_with (first | (refine wpList_load_g (by rfl) 30 _ rfl w.heap.size 2 rfl [.int .i64 x.2.1.kind, .int .i64 x.2.1.at_, .int .i64 x.2.1.lo, .int .i64 x.2.1.hi, .int .i64 x.2.1.most, .slice N1 x.2.1.names.length N3, .slice M1 x.2.2.len M3, .string x.2.1.name, .int .i64 x.2.1.nat] _ rT Tryz.underlying30 rfl (by kernel_rfl) ?_; go_simp) | (refine wpList_load_g (by rfl) 30 _ rfl (w.heap.size + 1) 2 rfl [.int .i64 y.2.1.kind, .int .i64 y.2.1.at_, .int .i64 y.2.1.lo, .int .i64 y.2.1.hi, .int .i64 y.2.1.most, .slice X1 y.2.1.names.length X3, .slice Y1 y.2.2.len Y3, .string y.2.1.name, .int .i64 y.2.1.nat] _ rU Tryz.underlying30 rfl (by kernel_rfl) ?_; go_simp))
    refine c3.out _ (Lib.hid fun w2 m2 => ?_)
    have fin := Lib.hid (hR.out _ (n.trans (m2.mono n.size)))
    clear hR m2 rT rU c3
    go_wp2_with fail
    exact fin.out
end Go.Proofs.YtbochlbgjnmgjaaGreat.Unp
