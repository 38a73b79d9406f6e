import Derived.Test.YtbochlbgjnmgjaaGreatG20
import Derived.Test.YtbochlbgjnmgjaaGreatZUnuB
import Derived.Test.YtbochlbgjnmgjaaGreatG25
import Derived.Test.YtbochlbgjnmgjaaGreatG4
import Derived.Test.YtbochlbgjnmgjaaGreatG26
import Derived.Test.YtbochlbgjnmgjaaGreatZUnrA
import Derived.Test.YtbochlbgjnmgjaaGreatZTypE
/- Layer 17: the reference: what is gone through. -/
set_option maxRecDepth 100000
set_option linter.unusedVariables false
namespace Go.Proofs.YtbochlbgjnmgjaaGreat.Unp
open Go.RowKit Go.Lib Go.Proofs.YtbochlbgjnmgjaaGreat.Nam Go.Proofs.YtbochlbgjnmgjaaGreat.Lat Go.Proofs.YtbochlbgjnmgjaaGreat.Kin Go.Proofs.YtbochlbgjnmgjaaGreat.Dig

set_option maxRecDepth 100000 in
set_option maxHeartbeats 4000000 in
theorem refgreat_calls (s : Sc) (gs : GoodS s) (lv ov tv nv pv : Value) (w : World) (rd : RdSc w s lv ov tv nv pv) (R : Ending → World → Prop)
    (hR : Hid (∀ w' (y : Bool), Below w.heap.size w w' → (y = false → s.1.length ≤ 100 ∧ s.2.1.length ≤ 400 ∧ s.2.2.1.length ≤ 100) → R (.returned (.bool y)) w')) : Calls Tryz.prog 17 #[scV s lv ov tv nv pv] w R := by
  have hl1 : s.1.length ≤ 9223372036854775807 := gs.ll
  have hl2 : s.2.1.length ≤ 9223372036854775807 := gs.ol
  have hl3 : s.2.2.1.length ≤ 9223372036854775807 := gs.tl
  obtain ⟨A1, c1, rfl, -, -⟩ := rd.l.op
  obtain ⟨A2, c2, rfl, -, -⟩ := RdPr.op rd.o
  obtain ⟨A3, c3, rfl, -, -⟩ := rd.t.op
  obtain ⟨N1, N3, rfl, -, -⟩ := rd.r.n.op
  obtain ⟨M1, M3, rfl, -⟩ := rd.r.p.sl
  have hA := heap_alloc_new w (.cells #[.slice A1 s.1.length c1, .slice A2 s.2.1.length c2, .slice A3 s.2.2.1.length c3, .int .i64 s.2.2.2.1.kind, .int .i64 s.2.2.2.1.at_, .int .i64 s.2.2.2.1.lo, .int .i64 s.2.2.2.1.hi, .int .i64 s.2.2.2.1.most, .slice N1 s.2.2.2.1.names.length N3, .slice M1 s.2.2.2.2.len M3, .string s.2.2.2.1.name, .int .i64 s.2.2.2.1.nat] 32)
  have n := (Below.refl w.heap.size w).alloc (Nat.le_refl _) (.cells #[.slice A1 s.1.length c1, .slice A2 s.2.1.length c2, .slice A3 s.2.2.1.length c3, .int .i64 s.2.2.2.1.kind, .int .i64 s.2.2.2.1.at_, .int .i64 s.2.2.2.1.lo, .int .i64 s.2.2.2.1.hi, .int .i64 s.2.2.2.1.most, .slice N1 s.2.2.2.1.names.length N3, .slice M1 s.2.2.2.2.len M3, .string s.2.2.2.1.name, .int .i64 s.2.2.2.1.nat] 32)
  replace rd := rd.below n
  go_enter Tryz.func17, Tryz.ntmps17
  go_upto_region 1 with fail
  generalize w.alloc (.cells #[.slice A1 s.1.length c1, .slice A2 s.2.1.length c2, .slice A3 s.2.2.1.length c3, .int .i64 s.2.2.2.1.kind, .int .i64 s.2.2.2.1.at_, .int .i64 s.2.2.2.1.lo, .int .i64 s.2.2.2.1.hi, .int .i64 s.2.2.2.1.most, .slice N1 s.2.2.2.1.names.length N3, .slice M1 s.2.2.2.2.len M3, .string s.2.2.2.1.name, .int .i64 s.2.2.2.1.nat] 32) = V at *
  generalize w.heap.size = P at hA ⊢
  by_cases h1 : 100 < s.1.length
  · have i1 : (100 : Int) < (s.1.length : Int) := by omega
    have fin := Lib.hid (hR.out _ true n (fun h => by cases h))
    clear hR rd gs
    have a0 := (Lib.cell_of_heap hA 0).trans rfl
    have a1 := (Lib.cell_of_heap hA 1).trans rfl
    have a2 := (Lib.cell_of_heap hA 2).trans rfl
    go_wp2_with fail
    exact fin.out
  have i1 : ¬ (100 : Int) < (s.1.length : Int) := by omega
  by_cases h2 : 400 < s.2.1.length
  · have i2 : (400 : Int) < (s.2.1.length : Int) := by omega
    have fin := Lib.hid (hR.out _ true n (fun h => by cases h))
    clear hR rd gs
    have a0 := (Lib.cell_of_heap hA 0).trans rfl
    have a1 := (Lib.cell_of_heap hA 1).trans rfl
    have a2 := (Lib.cell_of_heap hA 2).trans rfl
    go_wp2_with fail
    exact fin.out
  have i2 : ¬ (400 : Int) < (s.2.1.length : Int) := by omega
  by_cases h3 : 100 < s.2.2.1.length
  · have i3 : (100 : Int) < (s.2.2.1.length : Int) := by omega
    have fin := Lib.hid (hR.out _ true n (fun h => by cases h))
    clear hR rd gs
    have a0 := (Lib.cell_of_heap hA 0).trans rfl
    have a1 := (Lib.cell_of_heap hA 1).trans rfl
    have a2 := (Lib.cell_of_heap hA 2).trans rfl
    go_wp2_with fail
    exact fin.out
  have i3 : ¬ (100 : Int) < (s.2.2.1.length : Int) := by omega
  have hR2 : Hid (∀ w' (y : Bool), Below w.heap.size w w' → R (.returned (.bool y)) w') := Lib.hid fun w' y m => hR.out w' y m fun _ => ⟨by omega, by omega, by omega⟩
  replace hR2 := Lib.hid hR2
  clear hR h1 h2 h3
  obtain ⟨A3', c3', e3s, -, hrd⟩ := rd.t.op
  simp only [Value.slice.injEq] at e3s
  obtain ⟨rfl, -, rfl⟩ := e3s
  replace hrd := Lib.hid hrd
  have cS := Lib.hid fun R hR => size15_calls s.2.2.2.2 s.2.2.2.1 (.slice N1 s.2.2.2.1.names.length N3) (.slice M1 s.2.2.2.2.len M3) V gs.gl gs.g rd.r R hR
  have rT : V.rangeAt P 3 [.int .i64 s.2.2.2.1.kind, .int .i64 s.2.2.2.1.at_, .int .i64 s.2.2.2.1.lo, .int .i64 s.2.2.2.1.hi, .int .i64 s.2.2.2.1.most, .slice N1 s.2.2.2.1.names.length N3, .slice M1 s.2.2.2.2.len M3, .string s.2.2.2.1.name, .int .i64 s.2.2.2.1.nat] := fun j v h => by rw [Lib.cell_of_heap hA, List.getElem?_toArray, ← List.getElem?_drop]; exact h
  have a0 := (Lib.cell_of_heap hA 0).trans rfl
  have a1 := (Lib.cell_of_heap hA 1).trans rfl
  have a2 := (Lib.cell_of_heap hA 2).trans rfl
  go_wp2_with (refine wpList_load_g (by rfl) 30 _ rfl P 3 rfl [.int .i64 s.2.2.2.1.kind, .int .i64 s.2.2.2.1.at_, .int .i64 s.2.2.2.1.lo, .int .i64 s.2.2.2.1.hi, .int .i64 s.2.2.2.1.most, .slice N1 s.2.2.2.1.names.length N3, .slice M1 s.2.2.2.2.len M3, .string s.2.2.2.1.name, .int .i64 s.2.2.2.1.nat] _ rT Tryz.underlying30 rfl (by kernel_rfl) ?_; go_simp)
  refine cS.out _ (Lib.hid fun w1 m1 => ?_)
  have hlA := blt hA
  have hAV := Lib.hid hA
  replace hA := (m1.block _ hlA).trans hA
  have nV := m1
  clear cS rT m1 a0 a1 a2 i1 i2 i3
  generalize cW s.2.2.2.2 1 = NN at *
  generalize wrap64 (dW s.2.2.2.2 0 + 1) = DD at *
  have a2 := (Lib.cell_of_heap hA 2).trans rfl
  go_upto_region 5 with fail
  clear a2
  replace hA := Lib.hid hA
  go_loopg [3, 4, 5] s.2.2.1.length (fun g0 s3 s4 i wr => ∃ (J : Nat) (p q : Int), s3 = .int .i64 p ∧ s4 = .int .i64 q ∧ i = .int .i64 J ∧ J + g0 = s.2.2.1.length ∧ Hid (Below V.heap.size V wr))
  case atStart => exact ⟨0, _, _, rfl, rfl, rfl, by omega, Lib.hid nV⟩
  case round =>
    clear nV
    obtain ⟨J, p, q, rfl, rfl, rfl, c1', nb⟩ := hrel
    replace nb := nb.out
    have hAr := (nb.block _ hlA).trans hAV.out
    by_cases hJ : J < s.2.2.1.length
    · obtain ⟨g, o, rfl, hg, hca⟩ := hrd.out (by omega)
      obtain ⟨nx, px, ry, hcl⟩ := hca J hJ
      obtain ⟨N1', N3', rfl, -, -⟩ := ry.n.op
      obtain ⟨M1', M3', rfl, -⟩ := ry.p.sl
      have hgn := gs.t _ (mem_nN hJ)
      generalize nN s.2.2.1 J = n' at *
      have rT : wr.rangeAt g (o + J * 11 + 2) [.int .i64 n'.2.1.kind, .int .i64 n'.2.1.at_, .int .i64 n'.2.1.lo, .int .i64 n'.2.1.hi, .int .i64 n'.2.1.most, .slice N1' n'.2.1.names.length N3', .slice M1' n'.2.2.len M3', .string n'.2.1.name, .int .i64 n'.2.1.nat] := fun j v q => (nb.cell (p := ⟨g, o + J * 11 + 2 + j, none⟩) hg).trans (by rw [Nat.add_assoc]; exact hcl (2 + j) v (by rw [← List.getElem?_drop]; exact q))
      have cS := Lib.hid fun R hR => size15_calls n'.2.2 n'.2.1 (.slice N1' n'.2.1.names.length N3') (.slice M1' n'.2.2.len M3') wr hgn.2.2.2 hgn.2.2.1 (ry.below nb) R hR
      have i0 : (0 : Int) ≤ (J : Int) := by omega
      have i1 : (J : Int) < (s.2.2.1.length : Int) := by omega
      clear hca hcl
      have a2 := (Lib.cell_of_heap hAr 2).trans rfl
      go_wp2_with (refine wpList_load_g (by rfl) 30 _ rfl g (o + J * 11 + 2) rfl [.int .i64 n'.2.1.kind, .int .i64 n'.2.1.at_, .int .i64 n'.2.1.lo, .int .i64 n'.2.1.hi, .int .i64 n'.2.1.most, .slice N1' n'.2.1.names.length N3', .slice M1' n'.2.2.len M3', .string n'.2.1.name, .int .i64 n'.2.1.nat] _ rT Tryz.underlying30 rfl (by kernel_rfl) ?_; go_simp)
      refine cS.out _ (Lib.hid fun w2 m2 => ?_)
      have nb2 := Lib.hid (nb.trans (m2.mono nb.size))
      clear cS rT m2 a2 ry
      generalize cW n'.2.2 1 = k at *
      generalize wrap64 (dW n'.2.2 0 + 1) = d at *
      by_cases hd : q < d
      · go_wp2_with fail
        go_roundg (gk - 1)
        case measure => omega
        case rel => exact ⟨J + 1, _, _, rfl, rfl, by go_num, by omega, nb2⟩
      · go_wp2_with fail
        go_roundg (gk - 1)
        case measure => omega
        case rel => exact ⟨J + 1, _, _, rfl, rfl, by go_num, by omega, nb2⟩
    · obtain rfl : J = s.2.2.1.length := by omega
      have a2 := (Lib.cell_of_heap hAr 2).trans rfl
      have hR3 := Lib.hid fun (y : Bool) => hR2.out.out wr y (n.trans (nb.mono n.size))
      clear hR2
      by_cases hp : 2000 < p
      · go_wp2_with fail
        exact hR3.out true
      · by_cases hd : 60 < q
        · go_wp2_with fail
          exact hR3.out true
        · go_wp2_with fail
          exact hR3.out false
end Go.Proofs.YtbochlbgjnmgjaaGreat.Unp

/- Layer 17: the reference: no places. -/
set_option maxRecDepth 100000
set_option linter.unusedVariables false
namespace Go.Proofs.YtbochlbgjnmgjaaGreat.Unp
open Go.RowKit Go.Lib Go.Proofs.YtbochlbgjnmgjaaGreat.Nam Go.Proofs.YtbochlbgjnmgjaaGreat.Lat Go.Proofs.YtbochlbgjnmgjaaGreat.Kin Go.Proofs.YtbochlbgjnmgjaaGreat.Dig

set_option maxRecDepth 100000 in
set_option maxHeartbeats 4000000 in
theorem refplace_calls (s : Sc) (gs : GoodS s) (lv ov tv nv pv : Value) (w : World) (rd : RdSc w s lv ov tv nv pv) (R : Ending → World → Prop)
    (hR : Hid (∀ w', Below w.heap.size w w' → R (.returned (.bool (placeSc s))) w')) : Calls Tryz.prog 25 #[scV s lv ov tv nv pv] w R := by
  have hl1 : s.1.length ≤ 9223372036854775807 := gs.ll
  have hl2 : s.2.1.length ≤ 9223372036854775807 := gs.ol
  have hl3 : s.2.2.1.length ≤ 9223372036854775807 := gs.tl
  have hq : placeSc s = (placeS s.2.2.2.1 s.2.2.2.2 && s.1.all plW && s.2.1.all plP && s.2.2.1.all plN) := rfl
  rw [hq] at hR
  clear hq
  replace hR := Lib.hid hR
  obtain ⟨A1, c1, rfl, -, -⟩ := rd.l.op
  obtain ⟨A2, c2, rfl, -, -⟩ := RdPr.op rd.o
  obtain ⟨A3, c3, rfl, -, -⟩ := rd.t.op
  obtain ⟨N1, N3, rfl, -, -⟩ := rd.r.n.op
  obtain ⟨M1, M3, rfl, -⟩ := rd.r.p.sl
  have hA := heap_alloc_new w (.cells #[.slice A1 s.1.length c1, .slice A2 s.2.1.length c2, .slice A3 s.2.2.1.length c3, .int .i64 s.2.2.2.1.kind, .int .i64 s.2.2.2.1.at_, .int .i64 s.2.2.2.1.lo, .int .i64 s.2.2.2.1.hi, .int .i64 s.2.2.2.1.most, .slice N1 s.2.2.2.1.names.length N3, .slice M1 s.2.2.2.2.len M3, .string s.2.2.2.1.name, .int .i64 s.2.2.2.1.nat] 32)
  have n := (Below.refl w.heap.size w).alloc (Nat.le_refl _) (.cells #[.slice A1 s.1.length c1, .slice A2 s.2.1.length c2, .slice A3 s.2.2.1.length c3, .int .i64 s.2.2.2.1.kind, .int .i64 s.2.2.2.1.at_, .int .i64 s.2.2.2.1.lo, .int .i64 s.2.2.2.1.hi, .int .i64 s.2.2.2.1.most, .slice N1 s.2.2.2.1.names.length N3, .slice M1 s.2.2.2.2.len M3, .string s.2.2.2.1.name, .int .i64 s.2.2.2.1.nat] 32)
  replace rd := rd.below n
  go_enter Tryz.func25, Tryz.ntmps25
  go_upto_region 1 with fail
  generalize w.alloc (.cells #[.slice A1 s.1.length c1, .slice A2 s.2.1.length c2, .slice A3 s.2.2.1.length c3, .int .i64 s.2.2.2.1.kind, .int .i64 s.2.2.2.1.at_, .int .i64 s.2.2.2.1.lo, .int .i64 s.2.2.2.1.hi, .int .i64 s.2.2.2.1.most, .slice N1 s.2.2.2.1.names.length N3, .slice M1 s.2.2.2.2.len M3, .string s.2.2.2.1.name, .int .i64 s.2.2.2.1.nat] 32) = V at *
  generalize w.heap.size = P at hA ⊢
  replace rd := Lib.hid rd
  have hlA := blt hA
  have cF := Lib.hid fun R hR => place15_calls s.2.2.2.2 s.2.2.2.1 (.slice N1 s.2.2.2.1.names.length N3) (.slice M1 s.2.2.2.2.len M3) V gs.h.2.2.2.2.2.2.2.2 gs.gl gs.g rd.out.r R hR
  obtain ⟨A1', c1', e1s, -, hr1⟩ := rd.out.l.op
  simp only [Value.slice.injEq] at e1s
  obtain ⟨rfl, -, rfl⟩ := e1s
  obtain ⟨A2', c2', e2s, -, hr2⟩ := RdPr.op rd.out.o
  simp only [Value.slice.injEq] at e2s
  obtain ⟨rfl, -, rfl⟩ := e2s
  obtain ⟨A3', c3', e3s, -, hr3⟩ := rd.out.t.op
  simp only [Value.slice.injEq] at e3s
  obtain ⟨rfl, -, rfl⟩ := e3s
  replace hr1 := Lib.hid hr1
  replace hr2 := Lib.hid hr2
  replace hr3 := Lib.hid hr3
  generalize placeS s.2.2.2.1 s.2.2.2.2 = yf at *
  have hAV := Lib.hid hA
  have rT : V.rangeAt P 3 [.int .i64 s.2.2.2.1.kind, .int .i64 s.2.2.2.1.at_, .int .i64 s.2.2.2.1.lo, .int .i64 s.2.2.2.1.hi, .int .i64 s.2.2.2.1.most, .slice N1 s.2.2.2.1.names.length N3, .slice M1 s.2.2.2.2.len M3, .string s.2.2.2.1.name, .int .i64 s.2.2.2.1.nat] := fun j v h => by rw [Lib.cell_of_heap hA, List.getElem?_toArray, ← List.getElem?_drop]; exact h
  have a0 := (Lib.cell_of_heap hA 0).trans rfl
  go_wp2_with (refine wpList_load_g (by rfl) 30 _ rfl P 3 rfl [.int .i64 s.2.2.2.1.kind, .int .i64 s.2.2.2.1.at_, .int .i64 s.2.2.2.1.lo, .int .i64 s.2.2.2.1.hi, .int .i64 s.2.2.2.1.most, .slice N1 s.2.2.2.1.names.length N3, .slice M1 s.2.2.2.2.len M3, .string s.2.2.2.1.name, .int .i64 s.2.2.2.1.nat] _ rT Tryz.underlying30 rfl (by kernel_rfl) ?_; go_simp)
  refine cF.out _ (Lib.hid fun w1 m1 => ?_)
  replace hA := (m1.block _ hlA).trans hA
  have nV := m1
  clear cF rT m1 a0
  have a0 := (Lib.cell_of_heap hA 0).trans rfl
  go_upto_region 3 with fail
  clear a0
  replace hA := Lib.hid hA
  go_loopg [3, 4] s.1.length (fun g0 s3 i wr => ∃ (J : Nat) (y : Bool), s3 = .bool y ∧ i = .int .i64 J ∧ J + g0 = s.1.length ∧ Hid ((yf && s.1.all plW) = (y && (s.1.drop J).all plW)) ∧ Hid (Below V.heap.size V wr))
  case atStart => exact ⟨0, yf, rfl, rfl, by omega, Lib.hid rfl, Lib.hid nV⟩
  case round =>
    clear nV hA
    obtain ⟨J, y, rfl, rfl, cc, hc, nb⟩ := hrel
    replace nb := nb.out
    have hA := (nb.block _ hlA).trans hAV.out
    by_cases hJ : J < s.1.length
    · have i0 : (0 : Int) ≤ (J : Int) := by omega
      have i1 : (J : Int) < (s.1.length : Int) := by omega
      have hd := List.drop_eq_getElem_cons hJ
      cases y
      · have hc2 := Lib.hid (show (yf && s.1.all plW) = (false && (s.1.drop (J + 1)).all plW) by rw [hc.out]; rfl)
        have nb2 := Lib.hid nb
        clear hd hc nb
        have a0 := (Lib.cell_of_heap hA 0).trans rfl
        go_wp2_with fail
        go_roundg (gk - 1)
        case measure => omega
        case rel => exact ⟨J + 1, false, rfl, by go_num, by omega, hc2, nb2⟩
      · obtain ⟨g, o, rfl, hg, hca⟩ := hr1.out (by omega)
        have ca := (nb.cell (p := ⟨g, o + J * 2 + 1, none⟩) hg).trans (hca J hJ).2
        rw [← wN_get hJ] at hd
        generalize wN s.1 J = nn at *
        have hc2 := Lib.hid (show (yf && s.1.all plW) = ((nn.2 == 0) && (s.1.drop (J + 1)).all plW) by rw [hc.out, hd, List.all_cons, Bool.true_and]; rfl)
        have nb2 := Lib.hid nb
        clear hd hc nb hca
        have a0 := (Lib.cell_of_heap hA 0).trans rfl
        go_wp2_with fail
        go_roundg (gk - 1)
        case measure => omega
        case rel => exact ⟨J + 1, (nn.2 == 0), rfl, by go_num, by omega, hc2, nb2⟩
    · obtain rfl : J = s.1.length := by omega
      have hc' := hc.out
      rw [List.drop_length, List.all_nil, Bool.and_true] at hc'
      rw [hc'] at hR
      clear hc hc' hr1
      have nV := nb
      have a0 := (Lib.cell_of_heap hA 0).trans rfl
      go_upto_region 7 with fail
      clear a0
      replace hA := Lib.hid hA
      go_loopg [3, 5] s.2.1.length (fun g0 s3 i wr => ∃ (J : Nat) (z : Bool), s3 = .bool z ∧ i = .int .i64 J ∧ J + g0 = s.2.1.length ∧ Hid ((y && s.2.1.all plP) = (z && (s.2.1.drop J).all plP)) ∧ Hid (Below V.heap.size V wr))
      case atStart => exact ⟨0, y, rfl, rfl, by omega, Lib.hid rfl, Lib.hid nV⟩
      case round =>
        clear nV hA nb
        obtain ⟨J, z, rfl, rfl, cc, hc, nb⟩ := hrel
        replace nb := nb.out
        have hA := (nb.block _ hlA).trans hAV.out
        by_cases hJ : J < s.2.1.length
        · have i0 : (0 : Int) ≤ (J : Int) := by omega
          have i1 : (J : Int) < (s.2.1.length : Int) := by omega
          have hd := List.drop_eq_getElem_cons hJ
          cases z
          · have hc2 := Lib.hid (show (y && s.2.1.all plP) = (false && (s.2.1.drop (J + 1)).all plP) by rw [hc.out]; rfl)
            have nb2 := Lib.hid nb
            clear hd hc nb
            have a1 := (Lib.cell_of_heap hA 1).trans rfl
            go_wp2_with fail
            go_roundg (gk - 1)
            case measure => omega
            case rel => exact ⟨J + 1, false, rfl, by go_num, by omega, hc2, nb2⟩
          · obtain ⟨g, o, rfl, hg, hca⟩ := hr2.out (by omega)
            have ca := (nb.cell (p := ⟨g, o + J * 4 + 1, none⟩) hg).trans (hca J hJ).2.1
            have cb := (nb.cell (p := ⟨g, o + J * 4 + 3, none⟩) hg).trans (hca J hJ).2.2.2
            rw [← pN_get hJ] at hd
            generalize pN s.2.1 J = nn at *
            have hc2 := (show (y && s.2.1.all plP) = (((nn.1.2 == 0) && (nn.2.2 == 0)) && (s.2.1.drop (J + 1)).all plP) by rw [hc.out, hd, List.all_cons, Bool.true_and]; rfl)
            have nb2 := Lib.hid nb
            clear hd hc nb hca
            have a1 := (Lib.cell_of_heap hA 1).trans rfl
            cases q1 : (nn.1.2 == 0)
            · rw [q1, Bool.false_and] at hc2
              replace hc2 := Lib.hid hc2
              go_wp2_with fail
              go_roundg (gk - 1)
              case measure => omega
              case rel => exact ⟨J + 1, false, rfl, by go_num, by omega, hc2, nb2⟩
            · rw [q1, Bool.true_and] at hc2
              replace hc2 := Lib.hid hc2
              go_wp2_with fail
              go_roundg (gk - 1)
              case measure => omega
              case rel => exact ⟨J + 1, (nn.2.2 == 0), rfl, by go_num, by omega, hc2, nb2⟩
        · obtain rfl : J = s.2.1.length := by omega
          have hc' := hc.out
          rw [List.drop_length, List.all_nil, Bool.and_true] at hc'
          rw [hc'] at hR
          clear hc hc' hr2
          have nV := nb
          have a1 := (Lib.cell_of_heap hA 1).trans rfl
          go_upto_region 11 with fail
          clear a1
          replace hA := Lib.hid hA
          go_loopg [3, 6] s.2.2.1.length (fun g0 s3 i wr => ∃ (J : Nat) (x : Bool), s3 = .bool x ∧ i = .int .i64 J ∧ J + g0 = s.2.2.1.length ∧ Hid ((z && s.2.2.1.all plN) = (x && (s.2.2.1.drop J).all plN)) ∧ Hid (Below V.heap.size V wr))
          case atStart => exact ⟨0, z, rfl, rfl, by omega, Lib.hid rfl, Lib.hid nV⟩
          case round =>
            clear nV hA nb
            obtain ⟨J, x, rfl, rfl, cc, hc, nb⟩ := hrel
            replace nb := nb.out
            have hA := (nb.block _ hlA).trans hAV.out
            by_cases hJ : J < s.2.2.1.length
            · have i0 : (0 : Int) ≤ (J : Int) := by omega
              have i1 : (J : Int) < (s.2.2.1.length : Int) := by omega
              have hd := List.drop_eq_getElem_cons hJ
              cases x
              · have hc2 := Lib.hid (show (z && s.2.2.1.all plN) = (false && (s.2.2.1.drop (J + 1)).all plN) by rw [hc.out]; rfl)
                have nb2 := Lib.hid nb
                clear hd hc nb
                have a2 := (Lib.cell_of_heap hA 2).trans rfl
                go_wp2_with fail
                go_roundg (gk - 1)
                case measure => omega
                case rel => exact ⟨J + 1, false, rfl, by go_num, by omega, hc2, nb2⟩
              · obtain ⟨g, o, rfl, hg, hca⟩ := hr3.out (by omega)
                obtain ⟨nx, px, ry, hcl⟩ := hca J hJ
                obtain ⟨N1', N3', rfl, -, -⟩ := ry.n.op
                obtain ⟨M1', M3', rfl, -⟩ := ry.p.sl
                have gn := gs.t _ (mem_nN hJ)
                rw [← nN_get hJ] at hd
                generalize nN s.2.2.1 J = n' at *
                have ca := (nb.cell (p := ⟨g, o + J * 11 + 1, none⟩) hg).trans (hcl 1 _ rfl)
                have rT : wr.rangeAt g (o + J * 11 + 2) [.int .i64 n'.2.1.kind, .int .i64 n'.2.1.at_, .int .i64 n'.2.1.lo, .int .i64 n'.2.1.hi, .int .i64 n'.2.1.most, .slice N1' n'.2.1.names.length N3', .slice M1' n'.2.2.len M3', .string n'.2.1.name, .int .i64 n'.2.1.nat] := fun j v q => (nb.cell (p := ⟨g, o + J * 11 + 2 + j, none⟩) hg).trans (by rw [Nat.add_assoc]; exact hcl (2 + j) v (by rw [← List.getElem?_drop]; exact q))
                have hc2 := (show (z && s.2.2.1.all plN) = (((n'.1.2 == 0) && placeS n'.2.1 n'.2.2) && (s.2.2.1.drop (J + 1)).all plN) by rw [hc.out, hd, List.all_cons, Bool.true_and]; rfl)
                have cH := Lib.hid fun R hR => place15_calls n'.2.2 n'.2.1 (.slice N1' n'.2.1.names.length N3') (.slice M1' n'.2.2.len M3') wr gn.2.1.2.2.2.2.2.2.2.2 gn.2.2.2 gn.2.2.1 (ry.below nb) R hR
                clear hd hc hca hcl ry
                generalize placeS n'.2.1 n'.2.2 = y3 at *
                have a2 := (Lib.cell_of_heap hA 2).trans rfl
                cases q1 : (n'.1.2 == 0)
                · rw [q1, Bool.false_and] at hc2
                  replace hc2 := Lib.hid hc2
                  have nb2 := Lib.hid nb
                  clear cH nb rT
                  go_wp2_with fail
                  go_roundg (gk - 1)
                  case measure => omega
                  case rel => exact ⟨J + 1, false, rfl, by go_num, by omega, hc2, nb2⟩
                · rw [q1, Bool.true_and] at hc2
                  replace hc2 := Lib.hid hc2
                  go_wp2_with (refine wpList_load_g (by rfl) 30 _ rfl g (o + J * 11 + 2) rfl [.int .i64 n'.2.1.kind, .int .i64 n'.2.1.at_, .int .i64 n'.2.1.lo, .int .i64 n'.2.1.hi, .int .i64 n'.2.1.most, .slice N1' n'.2.1.names.length N3', .slice M1' n'.2.2.len M3', .string n'.2.1.name, .int .i64 n'.2.1.nat] _ rT Tryz.underlying30 rfl (by kernel_rfl) ?_; go_simp)
                  refine cH.out _ (Lib.hid fun w5 m5 => ?_)
                  have nb2 := Lib.hid (nb.trans (m5.mono nb.size))
                  clear cH ca rT m5 nb a2
                  go_wp2_with fail
                  go_roundg (gk - 1)
                  case measure => omega
                  case rel => exact ⟨J + 1, y3, rfl, by go_num, by omega, hc2, nb2⟩
            · obtain rfl : J = s.2.2.1.length := by omega
              have hc' := hc.out
              rw [List.drop_length, List.all_nil, Bool.and_true] at hc'
              rw [hc'] at hR
              clear hc hc' hr3
              have fin := Lib.hid (hR.out.out _ (n.trans (nb.mono n.size)))
              clear hR
              have a2 := (Lib.cell_of_heap hA 2).trans rfl
              go_wp2_with fail
              exact fin.out
end Go.Proofs.YtbochlbgjnmgjaaGreat.Unp

/- Layer 17: the reference: the same schema. -/
set_option maxRecDepth 100000
set_option linter.unusedVariables false
namespace Go.Proofs.YtbochlbgjnmgjaaGreat.Unp
open Go.RowKit Go.Lib Go.Proofs.YtbochlbgjnmgjaaGreat.Nam Go.Proofs.YtbochlbgjnmgjaaGreat.Lat Go.Proofs.YtbochlbgjnmgjaaGreat.Kin Go.Proofs.YtbochlbgjnmgjaaGreat.Dig

theorem wpQuiet_loadg {P : Program} {ops : Array Oper} {C : World → Prop} {Q : Act → Prop} {a : Act} {o : Oper} {rest : List Oper} (hg : Region.wanted o (yielded ops a.tmps) = true) (ty : TypeId) (x : Operand) (ho : o.op = .load ty x) (b off : Nat) (hx : a.eval x = .pointer (some ⟨b, off, none⟩))
    (cs : List Value) (d : TypeDesc) (hc : ∀ w, C w → w.rangeAt b off cs) (hu : P.underlying ty = some d) (hd : d.isRow = true) (hi : (P.info? ty).map (·.size) = some cs.length) (h : wpQuiet P ops C Q rest (a.put o.dst (.agg cs.toArray))) : wpQuiet P ops C Q (o :: rest) a := by
  unfold wpQuiet
  rw [if_pos hg]
  refine ⟨_, fun w hw => ?_, h⟩
  unfold Oper.quietAt execOp
  simp only [ho, hx, Instr.loadAt, Instr.sureAddr, Sem.run_bind, Sem.run_pure, Result.andThen_ok, run_loadVar_mid w b off ty cs d (hc w hw) hu hd hi]
  simp [Oper.quietUpon]
set_option maxRecDepth 100000 in
set_option maxHeartbeats 8000000 in
theorem refsame_calls (s t : Sc) (gs : GoodS s) (gt : GoodS t) (lv ov tv nv pv lv' ov' tv' nv' pv' : Value) (w : World) (rd : RdSc w s lv ov tv nv pv) (rt : RdSc w t lv' ov' tv' nv' pv') (R : Ending → World → Prop)
    (hR : Hid (∀ w', Below w.heap.size w w' → R (.returned (.bool (sameSc s t))) w')) : Calls Tryz.prog 24 #[scV s lv ov tv nv pv, scV t lv' ov' tv' nv' pv'] w R := by
  have hl1 : s.1.length ≤ 9223372036854775807 := gs.ll
  have hl2 : s.2.1.length ≤ 9223372036854775807 := gs.ol
  have hl3 : s.2.2.1.length ≤ 9223372036854775807 := gs.tl
  obtain ⟨A1, c1, rfl, -, -⟩ := rd.l.op
  obtain ⟨A2, c2, rfl, -, -⟩ := RdPr.op rd.o
  obtain ⟨A3, c3, rfl, -, -⟩ := rd.t.op
  obtain ⟨N1, N3, rfl, -, -⟩ := rd.r.n.op
  obtain ⟨M1, M3, rfl, -⟩ := rd.r.p.sl
  obtain ⟨B1, e1, rfl, -, -⟩ := rt.l.op
  obtain ⟨B2, e2, rfl, -, -⟩ := RdPr.op rt.o
  obtain ⟨B3, e3, rfl, -, -⟩ := rt.t.op
  obtain ⟨X1, X3, rfl, -, -⟩ := rt.r.n.op
  obtain ⟨Y1, Y3, rfl, -⟩ := rt.r.p.sl
  have hA := heap_alloc_new w (.cells #[.slice A1 s.1.length c1, .slice A2 s.2.1.length c2, .slice A3 s.2.2.1.length c3, .int .i64 s.2.2.2.1.kind, .int .i64 s.2.2.2.1.at_, .int .i64 s.2.2.2.1.lo, .int .i64 s.2.2.2.1.hi, .int .i64 s.2.2.2.1.most, .slice N1 s.2.2.2.1.names.length N3, .slice M1 s.2.2.2.2.len M3, .string s.2.2.2.1.name, .int .i64 s.2.2.2.1.nat] 32)
  have zA : (w.alloc (.cells #[.slice A1 s.1.length c1, .slice A2 s.2.1.length c2, .slice A3 s.2.2.1.length c3, .int .i64 s.2.2.2.1.kind, .int .i64 s.2.2.2.1.at_, .int .i64 s.2.2.2.1.lo, .int .i64 s.2.2.2.1.hi, .int .i64 s.2.2.2.1.most, .slice N1 s.2.2.2.1.names.length N3, .slice M1 s.2.2.2.2.len M3, .string s.2.2.2.1.name, .int .i64 s.2.2.2.1.nat] 32)).heap.size = w.heap.size + 1 := by simp
  have hB := heap_alloc_new (w.alloc (.cells #[.slice A1 s.1.length c1, .slice A2 s.2.1.length c2, .slice A3 s.2.2.1.length c3, .int .i64 s.2.2.2.1.kind, .int .i64 s.2.2.2.1.at_, .int .i64 s.2.2.2.1.lo, .int .i64 s.2.2.2.1.hi, .int .i64 s.2.2.2.1.most, .slice N1 s.2.2.2.1.names.length N3, .slice M1 s.2.2.2.2.len M3, .string s.2.2.2.1.name, .int .i64 s.2.2.2.1.nat] 32)) (.cells #[.slice B1 t.1.length e1, .slice B2 t.2.1.length e2, .slice B3 t.2.2.1.length e3, .int .i64 t.2.2.2.1.kind, .int .i64 t.2.2.2.1.at_, .int .i64 t.2.2.2.1.lo, .int .i64 t.2.2.2.1.hi, .int .i64 t.2.2.2.1.most, .slice X1 t.2.2.2.1.names.length X3, .slice Y1 t.2.2.2.2.len Y3, .string t.2.2.2.1.name, .int .i64 t.2.2.2.1.nat] 32)
  rw [zA] at hB
  replace hA := ((alB (w.alloc (.cells #[.slice A1 s.1.length c1, .slice A2 s.2.1.length c2, .slice A3 s.2.2.1.length c3, .int .i64 s.2.2.2.1.kind, .int .i64 s.2.2.2.1.at_, .int .i64 s.2.2.2.1.lo, .int .i64 s.2.2.2.1.hi, .int .i64 s.2.2.2.1.most, .slice N1 s.2.2.2.1.names.length N3, .slice M1 s.2.2.2.2.len M3, .string s.2.2.2.1.name, .int .i64 s.2.2.2.1.nat] 32)) (.cells #[.slice B1 t.1.length e1, .slice B2 t.2.1.length e2, .slice B3 t.2.2.1.length e3, .int .i64 t.2.2.2.1.kind, .int .i64 t.2.2.2.1.at_, .int .i64 t.2.2.2.1.lo, .int .i64 t.2.2.2.1.hi, .int .i64 t.2.2.2.1.most, .slice X1 t.2.2.2.1.names.length X3, .slice Y1 t.2.2.2.2.len Y3, .string t.2.2.2.1.name, .int .i64 t.2.2.2.1.nat] 32)).block _ (blt hA)).trans hA
  have n := ((Below.refl w.heap.size w).alloc (Nat.le_refl _) (.cells #[.slice A1 s.1.length c1, .slice A2 s.2.1.length c2, .slice A3 s.2.2.1.length c3, .int .i64 s.2.2.2.1.kind, .int .i64 s.2.2.2.1.at_, .int .i64 s.2.2.2.1.lo, .int .i64 s.2.2.2.1.hi, .int .i64 s.2.2.2.1.most, .slice N1 s.2.2.2.1.names.length N3, .slice M1 s.2.2.2.2.len M3, .string s.2.2.2.1.name, .int .i64 s.2.2.2.1.nat] 32)).alloc (by rw [zA]; omega) (.cells #[.slice B1 t.1.length e1, .slice B2 t.2.1.length e2, .slice B3 t.2.2.1.length e3, .int .i64 t.2.2.2.1.kind, .int .i64 t.2.2.2.1.at_, .int .i64 t.2.2.2.1.lo, .int .i64 t.2.2.2.1.hi, .int .i64 t.2.2.2.1.most, .slice X1 t.2.2.2.1.names.length X3, .slice Y1 t.2.2.2.2.len Y3, .string t.2.2.2.1.name, .int .i64 t.2.2.2.1.nat] 32)
  clear zA
  replace rd := Lib.hid (rd.below n)
  replace rt := Lib.hid (rt.below n)
  have hq : sameSc s t = (eqL sW s.1 t.1 && eqL sP s.2.1 t.2.1 && eqL sN s.2.2.1 t.2.2.1 && sameS s.2.2.2.1 s.2.2.2.2 t.2.2.2.1 t.2.2.2.2) := rfl
  rw [hq] at hR
  clear hq
  go_enter Tryz.func24, Tryz.ntmps24
  go_upto_region 1 with fail
  generalize (w.alloc (.cells #[.slice A1 s.1.length c1, .slice A2 s.2.1.length c2, .slice A3 s.2.2.1.length c3, .int .i64 s.2.2.2.1.kind, .int .i64 s.2.2.2.1.at_, .int .i64 s.2.2.2.1.lo, .int .i64 s.2.2.2.1.hi, .int .i64 s.2.2.2.1.most, .slice N1 s.2.2.2.1.names.length N3, .slice M1 s.2.2.2.2.len M3, .string s.2.2.2.1.name, .int .i64 s.2.2.2.1.nat] 32)).alloc (.cells #[.slice B1 t.1.length e1, .slice B2 t.2.1.length e2, .slice B3 t.2.2.1.length e3, .int .i64 t.2.2.2.1.kind, .int .i64 t.2.2.2.1.at_, .int .i64 t.2.2.2.1.lo, .int .i64 t.2.2.2.1.hi, .int .i64 t.2.2.2.1.most, .slice X1 t.2.2.2.1.names.length X3, .slice Y1 t.2.2.2.2.len Y3, .string t.2.2.2.1.name, .int .i64 t.2.2.2.1.nat] 32) = V at *
  have hlA := blt hA
  have hlB := blt hB
  have k4 := Lib.hid fun R hR => same15_calls s.2.2.2.2 s.2.2.2.1 t.2.2.2.1 t.2.2.2.2 (.slice N1 s.2.2.2.1.names.length N3) (.slice M1 s.2.2.2.2.len M3) (.slice X1 t.2.2.2.1.names.length X3) (.slice Y1 t.2.2.2.2.len Y3) V gs.h.2.2.2.2.2.2.2.2 gs.gl gs.g rd.out.r rt.out.r R hR
  obtain ⟨A', c', e', -, hr1⟩ := rd.out.l.op
  simp only [Value.slice.injEq] at e'
  obtain ⟨rfl, -, rfl⟩ := e'
  replace hr1 := Lib.hid hr1
  obtain ⟨A', c', e', -, ht1⟩ := rt.out.l.op
  simp only [Value.slice.injEq] at e'
  obtain ⟨rfl, -, rfl⟩ := e'
  replace ht1 := Lib.hid ht1
  obtain ⟨A', c', e', -, hr2⟩ := RdPr.op rd.out.o
  simp only [Value.slice.injEq] at e'
  obtain ⟨rfl, -, rfl⟩ := e'
  replace hr2 := Lib.hid hr2
  obtain ⟨A', c', e', -, ht2⟩ := RdPr.op rt.out.o
  simp only [Value.slice.injEq] at e'
  obtain ⟨rfl, -, rfl⟩ := e'
  replace ht2 := Lib.hid ht2
  obtain ⟨A', c', e', -, hr3⟩ := rd.out.t.op
  simp only [Value.slice.injEq] at e'
  obtain ⟨rfl, -, rfl⟩ := e'
  replace hr3 := Lib.hid hr3
  obtain ⟨A', c', e', -, ht3⟩ := rt.out.t.op
  simp only [Value.slice.injEq] at e'
  obtain ⟨rfl, -, rfl⟩ := e'
  replace ht3 := Lib.hid ht3
  have hAV := Lib.hid hA
  have hBV := Lib.hid hB
  have a0 := (Lib.cell_of_heap hA 0).trans rfl
  have a1 := (Lib.cell_of_heap hA 1).trans rfl
  have a2 := (Lib.cell_of_heap hA 2).trans rfl
  have b0 := (Lib.cell_of_heap hB 0).trans rfl
  have b1 := (Lib.cell_of_heap hB 1).trans rfl
  have b2 := (Lib.cell_of_heap hB 2).trans rfl
  by_cases l1 : s.1.length = t.1.length
  · have q1 : ((s.1.length : Int) != (t.1.length : Int)) = false := by simp [l1]
    replace l1 := Lib.hid l1
    by_cases l2 : s.2.1.length = t.2.1.length
    · have q2 : ((s.2.1.length : Int) != (t.2.1.length : Int)) = false := by simp [l2]
      replace l2 := Lib.hid l2
      by_cases l3 : s.2.2.1.length = t.2.2.1.length
      · have q3 : ((s.2.2.1.length : Int) != (t.2.2.1.length : Int)) = false := by simp [l3]
        replace l3 := Lib.hid l3
        generalize sameS s.2.2.2.1 s.2.2.2.2 t.2.2.2.1 t.2.2.2.2 = y4 at *
        have rT : V.rangeAt w.heap.size 3 [.int .i64 s.2.2.2.1.kind, .int .i64 s.2.2.2.1.at_, .int .i64 s.2.2.2.1.lo, .int .i64 s.2.2.2.1.hi, .int .i64 s.2.2.2.1.most, .slice N1 s.2.2.2.1.names.length N3, .slice M1 s.2.2.2.2.len M3, .string s.2.2.2.1.name, .int .i64 s.2.2.2.1.nat] := fun j v h => by rw [Lib.cell_of_heap hA, List.getElem?_toArray, ← List.getElem?_drop]; exact h
        have rU : V.rangeAt (w.heap.size + 1) 3 [.int .i64 t.2.2.2.1.kind, .int .i64 t.2.2.2.1.at_, .int .i64 t.2.2.2.1.lo, .int .i64 t.2.2.2.1.hi, .int .i64 t.2.2.2.1.most, .slice X1 t.2.2.2.1.names.length X3, .slice Y1 t.2.2.2.2.len Y3, .string t.2.2.2.1.name, .int .i64 t.2.2.2.1.nat] := fun j v h => by rw [Lib.cell_of_heap hB, List.getElem?_toArray, ← List.getElem?_drop]; exact h
        go_wp2_with (first | (refine wpList_load_g (by rfl) 30 _ rfl w.heap.size 3 rfl [.int .i64 s.2.2.2.1.kind, .int .i64 s.2.2.2.1.at_, .int .i64 s.2.2.2.1.lo, .int .i64 s.2.2.2.1.hi, .int .i64 s.2.2.2.1.most, .slice N1 s.2.2.2.1.names.length N3, .slice M1 s.2.2.2.2.len M3, .string s.2.2.2.1.name, .int .i64 s.2.2.2.1.nat] _ rT Tryz.underlying30 rfl (by kernel_rfl) ?_; go_simp) | (refine wpList_load_g (by rfl) 30 _ rfl (w.heap.size + 1) 3 rfl [.int .i64 t.2.2.2.1.kind, .int .i64 t.2.2.2.1.at_, .int .i64 t.2.2.2.1.lo, .int .i64 t.2.2.2.1.hi, .int .i64 t.2.2.2.1.most, .slice X1 t.2.2.2.1.names.length X3, .slice Y1 t.2.2.2.2.len Y3, .string t.2.2.2.1.name, .int .i64 t.2.2.2.1.nat] _ rU Tryz.underlying30 rfl (by kernel_rfl) ?_; go_simp))
        refine k4.out _ (Lib.hid fun w1 m1 => ?_)
        replace hA := (m1.block _ hlA).trans hA
        replace hB := (m1.block _ hlB).trans hB
        have nV := m1
        clear k4 rT rU m1 a0 a1 a2 b0 b1 b2 q1 q2 q3 rd rt
        cases y4
        · rw [Bool.and_false] at hR
          have fin := Lib.hid (hR.out _ (n.trans (nV.mono n.size)))
          clear hR
          go_wp2_with fail
          exact fin.out
        rw [Bool.and_true] at hR
        have hs1 : eqL sW s.1 t.1 = eqL sW (s.1.drop 0) (t.1.drop 0) := rfl
        have hs2 : eqL sP s.2.1 t.2.1 = eqL sP (s.2.1.drop 0) (t.2.1.drop 0) := rfl
        have hs3 : eqL sN s.2.2.1 t.2.2.1 = eqL sN (s.2.2.1.drop 0) (t.2.2.1.drop 0) := rfl
        generalize eqL sW s.1 t.1 = E1 at *
        generalize eqL sP s.2.1 t.2.1 = E2 at *
        generalize eqL sN s.2.2.1 t.2.2.1 = E3 at *
        replace hs2 := Lib.hid hs2
        replace hs3 := Lib.hid hs3
        have a0 := (Lib.cell_of_heap hA 0).trans rfl
        have b0 := (Lib.cell_of_heap hB 0).trans rfl
        have hs : E1 = eqL sW (s.1.drop 0) (t.1.drop 0) := hs1
        clear hs1
        go_upto_region 4 with fail
        clear a0 b0
        replace hA := Lib.hid hA
        replace hB := Lib.hid hB
        go_loopg [5] s.1.length (fun g0 i wr => ∃ J : Nat, i = .int .i64 J ∧ J + g0 = s.1.length ∧ Hid (Below V.heap.size V wr) ∧ Hid (E1 = eqL sW (s.1.drop J) (t.1.drop J)))
        case atStart => exact ⟨0, rfl, by omega, Lib.hid nV, Lib.hid hs⟩
        case round =>
          clear nV hA hB hs
          obtain ⟨J, rfl, cc, nb, e2⟩ := hrel
          replace nb := nb.out
          have hA := (nb.block _ hlA).trans hAV.out
          have hB := (nb.block _ hlB).trans hBV.out
          have a0 := (Lib.cell_of_heap hA 0).trans rfl
          have b0 := (Lib.cell_of_heap hB 0).trans rfl
          by_cases hJ : J < s.1.length
          · have hJ2 : J < t.1.length := by have := l1.out; omega
            obtain ⟨ga, oa, rfl, hga, ca⟩ := hr1.out (by omega)
            obtain ⟨gb, ob, rfl, hgb, cb⟩ := ht1.out (by omega)
            have i0 : (0 : Int) ≤ (J : Int) := by omega
            have i1 : (J : Int) < (s.1.length : Int) := by omega
            have i2 : (J : Int) < (t.1.length : Int) := by omega
            have e3 := e2.out
            rw [eqL_drop hJ hJ2, ← wN_get hJ, ← wN_get hJ2] at e3
            have lA := blt hA
            have lB := blt hB
            have hga' : ga < wr.heap.size := Nat.lt_of_lt_of_le hga nb.size
            have hgb' : gb < wr.heap.size := Nat.lt_of_lt_of_le hgb nb.size
            clear e2
            have xa0 := (nb.cell (p := ⟨ga, oa + J * 2, none⟩) hga).trans (ca J hJ).1
            have xb0 := (nb.cell (p := ⟨gb, ob + J * 2, none⟩) hgb).trans (cb J hJ2).1
            clear ca cb
            generalize wN s.1 J = x at *
            generalize wN t.1 J = y at *
            by_cases h1 : x.1 = y.1
            · have p1 := seq_t h1
              rw [show sW x y = true from decide_eq_true h1, Bool.true_and] at e3
              clear h1
              go_wp2_with fail
              replace a0 := fun u : BW wr => u.cell lA a0
              replace b0 := fun u : BW wr => u.cell lB b0
              replace xa0 := fun u : BW wr => u.cell hga' xa0
              replace xb0 := fun u : BW wr => u.cell hgb' xb0
              refine wp_region_below_lit (by kernel_rfl) (by kernel_rfl) ?_
              repeat (go_big_quiet_step (exact rfl))
              refine wpQuiet_nil ?_
              rintro _ ⟨u, rfl⟩
              have ny := nb.trans (u.b.mono nb.size)
              generalize u.w = wy at *
              clear a0 b0
              replace e3 := Lib.hid e3
              replace ny := Lib.hid ny
              go_wp2_with fail
              go_roundg (gk - 1)
              case measure => omega
              case rel => exact ⟨J + 1, by go_num, by omega, ny, e3⟩
            · have p1 := seq_f h1
              rw [show sW x y = false from decide_eq_false h1, Bool.false_and] at e3
              clear h1
              go_wp2_with fail
              replace a0 := fun u : BW wr => u.cell lA a0
              replace b0 := fun u : BW wr => u.cell lB b0
              replace xa0 := fun u : BW wr => u.cell hga' xa0
              replace xb0 := fun u : BW wr => u.cell hgb' xb0
              refine wp_region_below_lit (by kernel_rfl) (by kernel_rfl) ?_
              repeat (go_big_quiet_step (exact rfl))
              refine wpQuiet_nil ?_
              rintro _ ⟨u, rfl⟩
              have ny := nb.trans (u.b.mono nb.size)
              generalize u.w = wy at *
              clear a0 b0
              rw [e3, Bool.false_and, Bool.false_and] at hR
              have fin := Lib.hid (hR.out _ (n.trans (ny.mono n.size)))
              clear hR e3
              go_wp2_with fail
              exact fin.out
          · obtain rfl : J = s.1.length := by omega
            have e4 := e2.out
            rw [eqL_end l1.out] at e4
            rw [e4, Bool.true_and] at hR
            clear e2 e4 hr1 ht1
            have nV := nb
            have a1 := (Lib.cell_of_heap hA 1).trans rfl
            have b1 := (Lib.cell_of_heap hB 1).trans rfl
            have hs : E2 = eqL sP (s.2.1.drop 0) (t.2.1.drop 0) := hs2.out
            clear hs2
            go_upto_region 9 with fail
            clear a1 b1
            replace hA := Lib.hid hA
            replace hB := Lib.hid hB
            go_loopg [6] s.2.1.length (fun g0 i wr => ∃ J : Nat, i = .int .i64 J ∧ J + g0 = s.2.1.length ∧ Hid (Below V.heap.size V wr) ∧ Hid (E2 = eqL sP (s.2.1.drop J) (t.2.1.drop J)))
            case atStart => exact ⟨0, rfl, by omega, Lib.hid nV, Lib.hid hs⟩
            case round =>
              clear nV hA hB hs nb
              obtain ⟨J, rfl, cc, nb, e2⟩ := hrel
              replace nb := nb.out
              have hA := (nb.block _ hlA).trans hAV.out
              have hB := (nb.block _ hlB).trans hBV.out
              have a1 := (Lib.cell_of_heap hA 1).trans rfl
              have b1 := (Lib.cell_of_heap hB 1).trans rfl
              by_cases hJ : J < s.2.1.length
              · have hJ2 : J < t.2.1.length := by have := l2.out; omega
                obtain ⟨ga, oa, rfl, hga, ca⟩ := hr2.out (by omega)
                obtain ⟨gb, ob, rfl, hgb, cb⟩ := ht2.out (by omega)
                have i0 : (0 : Int) ≤ (J : Int) := by omega
                have i1 : (J : Int) < (s.2.1.length : Int) := by omega
                have i2 : (J : Int) < (t.2.1.length : Int) := by omega
                have e3 := e2.out
                rw [eqL_drop hJ hJ2, ← pN_get hJ, ← pN_get hJ2] at e3
                have lA := blt hA
                have lB := blt hB
                have hga' : ga < wr.heap.size := Nat.lt_of_lt_of_le hga nb.size
                have hgb' : gb < wr.heap.size := Nat.lt_of_lt_of_le hgb nb.size
                clear e2
                have xa0 := (nb.cell (p := ⟨ga, oa + J * 4, none⟩) hga).trans (ca J hJ).1
                have xb0 := (nb.cell (p := ⟨gb, ob + J * 4, none⟩) hgb).trans (cb J hJ2).1
                have xa1 := (nb.cell (p := ⟨ga, oa + J * 4 + 2, none⟩) hga).trans (ca J hJ).2.2.1
                have xb1 := (nb.cell (p := ⟨gb, ob + J * 4 + 2, none⟩) hgb).trans (cb J hJ2).2.2.1
                clear ca cb
                generalize pN s.2.1 J = x at *
                generalize pN t.2.1 J = y at *
                have hsp : sP x y = (sW x.1 y.1 && sW x.2 y.2) := rfl
                rw [hsp] at e3
                clear hsp
                by_cases h1 : x.1.1 = y.1.1
                · have p1 := seq_t h1
                  rw [show sW x.1 y.1 = true from decide_eq_true h1, Bool.true_and] at e3
                  clear h1
                  by_cases h2 : x.2.1 = y.2.1
                  · have p2 := seq_t h2
                    rw [show sW x.2 y.2 = true from decide_eq_true h2, Bool.true_and] at e3
                    clear h2
                    go_wp2_with fail
                    replace a1 := fun u : BW wr => u.cell lA a1
                    replace b1 := fun u : BW wr => u.cell lB b1
                    replace xa0 := fun u : BW wr => u.cell hga' xa0
                    replace xb0 := fun u : BW wr => u.cell hgb' xb0
                    replace xa1 := fun u : BW wr => u.cell hga' xa1
                    replace xb1 := fun u : BW wr => u.cell hgb' xb1
                    refine wp_region_below_lit (by kernel_rfl) (by kernel_rfl) ?_
                    repeat (go_big_quiet_step (exact rfl))
                    refine wpQuiet_nil ?_
                    rintro _ ⟨u, rfl⟩
                    have ny := nb.trans (u.b.mono nb.size)
                    generalize u.w = wy at *
                    clear a1 b1
                    replace e3 := Lib.hid e3
                    replace ny := Lib.hid ny
                    go_wp2_with fail
                    go_roundg (gk - 1)
                    case measure => omega
                    case rel => exact ⟨J + 1, by go_num, by omega, ny, e3⟩
                  · have p2 := seq_f h2
                    rw [show sW x.2 y.2 = false from decide_eq_false h2, Bool.false_and] at e3
                    clear h2
                    go_wp2_with fail
                    replace a1 := fun u : BW wr => u.cell lA a1
                    replace b1 := fun u : BW wr => u.cell lB b1
                    replace xa0 := fun u : BW wr => u.cell hga' xa0
                    replace xb0 := fun u : BW wr => u.cell hgb' xb0
                    replace xa1 := fun u : BW wr => u.cell hga' xa1
                    replace xb1 := fun u : BW wr => u.cell hgb' xb1
                    refine wp_region_below_lit (by kernel_rfl) (by kernel_rfl) ?_
                    repeat (go_big_quiet_step (exact rfl))
                    refine wpQuiet_nil ?_
                    rintro _ ⟨u, rfl⟩
                    have ny := nb.trans (u.b.mono nb.size)
                    generalize u.w = wy at *
                    clear a1 b1
                    rw [e3, Bool.false_and] at hR
                    have fin := Lib.hid (hR.out _ (n.trans (ny.mono n.size)))
                    clear hR e3
                    go_wp2_with fail
                    exact fin.out
                · have p1 := seq_f h1
                  rw [show sW x.1 y.1 = false from decide_eq_false h1, Bool.false_and, Bool.false_and] at e3
                  clear h1
                  go_wp2_with fail
                  replace a1 := fun u : BW wr => u.cell lA a1
                  replace b1 := fun u : BW wr => u.cell lB b1
                  replace xa0 := fun u : BW wr => u.cell hga' xa0
                  replace xb0 := fun u : BW wr => u.cell hgb' xb0
                  replace xa1 := fun u : BW wr => u.cell hga' xa1
                  replace xb1 := fun u : BW wr => u.cell hgb' xb1
                  refine wp_region_below_lit (by kernel_rfl) (by kernel_rfl) ?_
                  repeat (go_big_quiet_step (exact rfl))
                  refine wpQuiet_nil ?_
                  rintro _ ⟨u, rfl⟩
                  have ny := nb.trans (u.b.mono nb.size)
                  generalize u.w = wy at *
                  clear a1 b1
                  rw [e3, Bool.false_and] at hR
                  have fin := Lib.hid (hR.out _ (n.trans (ny.mono n.size)))
                  clear hR e3
                  go_wp2_with fail
                  exact fin.out
              · obtain rfl : J = s.2.1.length := by omega
                have e4 := e2.out
                rw [eqL_end l2.out] at e4
                rw [e4, Bool.true_and] at hR
                clear e2 e4 hr2 ht2
                have nV := nb
                have a2 := (Lib.cell_of_heap hA 2).trans rfl
                have b2 := (Lib.cell_of_heap hB 2).trans rfl
                have hs : E3 = eqL sN (s.2.2.1.drop 0) (t.2.2.1.drop 0) := hs3.out
                clear hs3
                go_upto_region 14 with fail
                clear a2 b2
                replace hA := Lib.hid hA
                replace hB := Lib.hid hB
                go_loopg [7] s.2.2.1.length (fun g0 i wr => ∃ J : Nat, i = .int .i64 J ∧ J + g0 = s.2.2.1.length ∧ Hid (Below V.heap.size V wr) ∧ Hid (E3 = eqL sN (s.2.2.1.drop J) (t.2.2.1.drop J)))
                case atStart => exact ⟨0, rfl, by omega, Lib.hid nV, Lib.hid hs⟩
                case round =>
                  clear nV hA hB hs nb
                  obtain ⟨J, rfl, cc, nb, e2⟩ := hrel
                  replace nb := nb.out
                  have hA := (nb.block _ hlA).trans hAV.out
                  have hB := (nb.block _ hlB).trans hBV.out
                  have a2 := (Lib.cell_of_heap hA 2).trans rfl
                  have b2 := (Lib.cell_of_heap hB 2).trans rfl
                  by_cases hJ : J < s.2.2.1.length
                  · have hJ2 : J < t.2.2.1.length := by have := l3.out; omega
                    obtain ⟨ga, oa, rfl, hga, ca⟩ := hr3.out (by omega)
                    obtain ⟨gb, ob, rfl, hgb, cb⟩ := ht3.out (by omega)
                    have i0 : (0 : Int) ≤ (J : Int) := by omega
                    have i1 : (J : Int) < (s.2.2.1.length : Int) := by omega
                    have i2 : (J : Int) < (t.2.2.1.length : Int) := by omega
                    have e3 := e2.out
                    rw [eqL_drop hJ hJ2, ← nN_get hJ, ← nN_get hJ2] at e3
                    have lA := blt hA
                    have lB := blt hB
                    have hga' : ga < wr.heap.size := Nat.lt_of_lt_of_le hga nb.size
                    have hgb' : gb < wr.heap.size := Nat.lt_of_lt_of_le hgb nb.size
                    clear e2
                    obtain ⟨nx, px, ry, hcl⟩ := ca J hJ
                    obtain ⟨N1', N3', rfl, -, -⟩ := ry.n.op
                    obtain ⟨M1', M3', rfl, -⟩ := ry.p.sl
                    obtain ⟨nx', px', rz, hcm⟩ := cb J hJ2
                    obtain ⟨X1', X3', rfl, -, -⟩ := rz.n.op
                    obtain ⟨Y1', Y3', rfl, -⟩ := rz.p.sl
                    have gn := gs.t _ (mem_nN hJ)
                    have xa0 := (nb.cell (p := ⟨ga, oa + J * 11, none⟩) hga).trans (hcl 0 _ rfl)
                    have xb0 := (nb.cell (p := ⟨gb, ob + J * 11, none⟩) hgb).trans (hcm 0 _ rfl)
                    have rT : wr.rangeAt ga (oa + J * 11 + 2) [.int .i64 (nN s.2.2.1 J).2.1.kind, .int .i64 (nN s.2.2.1 J).2.1.at_, .int .i64 (nN s.2.2.1 J).2.1.lo, .int .i64 (nN s.2.2.1 J).2.1.hi, .int .i64 (nN s.2.2.1 J).2.1.most, .slice N1' (nN s.2.2.1 J).2.1.names.length N3', .slice M1' (nN s.2.2.1 J).2.2.len M3', .string (nN s.2.2.1 J).2.1.name, .int .i64 (nN s.2.2.1 J).2.1.nat] := fun j v q => (nb.cell (p := ⟨ga, oa + J * 11 + 2 + j, none⟩) hga).trans (by rw [Nat.add_assoc]; exact hcl (2 + j) v (by rw [← List.getElem?_drop]; exact q))
                    have rU : wr.rangeAt gb (ob + J * 11 + 2) [.int .i64 (nN t.2.2.1 J).2.1.kind, .int .i64 (nN t.2.2.1 J).2.1.at_, .int .i64 (nN t.2.2.1 J).2.1.lo, .int .i64 (nN t.2.2.1 J).2.1.hi, .int .i64 (nN t.2.2.1 J).2.1.most, .slice X1' (nN t.2.2.1 J).2.1.names.length X3', .slice Y1' (nN t.2.2.1 J).2.2.len Y3', .string (nN t.2.2.1 J).2.1.name, .int .i64 (nN t.2.2.1 J).2.1.nat] := fun j v q => (nb.cell (p := ⟨gb, ob + J * 11 + 2 + j, none⟩) hgb).trans (by rw [Nat.add_assoc]; exact hcm (2 + j) v (by rw [← List.getElem?_drop]; exact q))
                    clear ca cb hcl hcm
                    generalize nN s.2.2.1 J = x at *
                    generalize nN t.2.2.1 J = y at *
                    have hsp : sN x y = (sW x.1 y.1 && sameS x.2.1 x.2.2 y.2.1 y.2.2) := rfl
                    rw [hsp] at e3
                    clear hsp
                    have cN := Lib.hid fun u : BW wr => same15_calls x.2.2 x.2.1 y.2.1 y.2.2 (.slice N1' x.2.1.names.length N3') (.slice M1' x.2.2.len M3') (.slice X1' y.2.1.names.length X3') (.slice Y1' y.2.2.len Y3') u.w gn.2.1.2.2.2.2.2.2.2.2 gn.2.2.2 gn.2.2.1 (ry.below (nb.trans (u.b.mono nb.size))) (rz.below (nb.trans (u.b.mono nb.size))) (fun e w' => e = .returned (.bool (sameS x.2.1 x.2.2 y.2.1 y.2.2)) ∧ Below u.w.heap.size u.w w') (Lib.hid fun _ n => ⟨rfl, n⟩)
                    clear ry rz gn
                    generalize sameS x.2.1 x.2.2 y.2.1 y.2.2 = S4 at *
                    by_cases h1 : x.1.1 = y.1.1
                    · have p1 := seq_t h1
                      rw [show sW x.1 y.1 = true from decide_eq_true h1, Bool.true_and] at e3
                      clear h1
                      cases S4
                      · rw [Bool.false_and] at e3
                        go_wp2_with fail
                        replace a2 := fun u : BW wr => u.cell lA a2
                        replace b2 := fun u : BW wr => u.cell lB b2
                        replace xa0 := fun u : BW wr => u.cell hga' xa0
                        replace xb0 := fun u : BW wr => u.cell hgb' xb0
                        refine wp_region_below_lit (by kernel_rfl) (by kernel_rfl) ?_
                        refine wpQuiet_k fun Kp hKp => ?_
                        iterate 21 (go_big_quiet_step (exact rfl))
                        refine wpQuiet_loadg (by rfl) 30 _ rfl ga (oa + J * 11 + 2) rfl [.int .i64 x.2.1.kind, .int .i64 x.2.1.at_, .int .i64 x.2.1.lo, .int .i64 x.2.1.hi, .int .i64 x.2.1.most, .slice N1' x.2.1.names.length N3', .slice M1' x.2.2.len M3', .string x.2.1.name, .int .i64 x.2.1.nat] _ (fun _ ⟨u, e⟩ => by subst e; exact fun j v h => u.cell hga' (rT j v h)) Tryz.underlying30 rfl (by kernel_rfl) ?_
                        go_simp
                        iterate 5 (go_big_quiet_step (exact rfl))
                        refine wpQuiet_loadg (by rfl) 30 _ rfl gb (ob + J * 11 + 2) rfl [.int .i64 y.2.1.kind, .int .i64 y.2.1.at_, .int .i64 y.2.1.lo, .int .i64 y.2.1.hi, .int .i64 y.2.1.most, .slice X1' y.2.1.names.length X3', .slice Y1' y.2.2.len Y3', .string y.2.1.name, .int .i64 y.2.1.nat] _ (fun _ ⟨u, e⟩ => by subst e; exact fun j v h => u.cell hgb' (rU j v h)) Tryz.underlying30 rfl (by kernel_rfl) ?_
                        go_simp
                        repeat (go_big_quiet_step (with_reducible exact calls_below (cN.out _)))
                        refine wpQuiet_nil ?_
                        refine hKp _ ?_
                        clear hKp
                        rintro _ ⟨u, rfl⟩
                        have ny := nb.trans (u.b.mono nb.size)
                        generalize u.w = wy at *
                        clear a2 b2
                        rw [e3] at hR
                        have fin := Lib.hid (hR.out _ (n.trans (ny.mono n.size)))
                        clear hR e3
                        go_wp2_with fail
                        exact fin.out
                      · rw [Bool.true_and] at e3
                        go_wp2_with fail
                        replace a2 := fun u : BW wr => u.cell lA a2
                        replace b2 := fun u : BW wr => u.cell lB b2
                        replace xa0 := fun u : BW wr => u.cell hga' xa0
                        replace xb0 := fun u : BW wr => u.cell hgb' xb0
                        refine wp_region_below_lit (by kernel_rfl) (by kernel_rfl) ?_
                        refine wpQuiet_k fun Kp hKp => ?_
                        iterate 21 (go_big_quiet_step (exact rfl))
                        refine wpQuiet_loadg (by rfl) 30 _ rfl ga (oa + J * 11 + 2) rfl [.int .i64 x.2.1.kind, .int .i64 x.2.1.at_, .int .i64 x.2.1.lo, .int .i64 x.2.1.hi, .int .i64 x.2.1.most, .slice N1' x.2.1.names.length N3', .slice M1' x.2.2.len M3', .string x.2.1.name, .int .i64 x.2.1.nat] _ (fun _ ⟨u, e⟩ => by subst e; exact fun j v h => u.cell hga' (rT j v h)) Tryz.underlying30 rfl (by kernel_rfl) ?_
                        go_simp
                        iterate 5 (go_big_quiet_step (exact rfl))
                        refine wpQuiet_loadg (by rfl) 30 _ rfl gb (ob + J * 11 + 2) rfl [.int .i64 y.2.1.kind, .int .i64 y.2.1.at_, .int .i64 y.2.1.lo, .int .i64 y.2.1.hi, .int .i64 y.2.1.most, .slice X1' y.2.1.names.length X3', .slice Y1' y.2.2.len Y3', .string y.2.1.name, .int .i64 y.2.1.nat] _ (fun _ ⟨u, e⟩ => by subst e; exact fun j v h => u.cell hgb' (rU j v h)) Tryz.underlying30 rfl (by kernel_rfl) ?_
                        go_simp
                        repeat (go_big_quiet_step (with_reducible exact calls_below (cN.out _)))
                        refine wpQuiet_nil ?_
                        refine hKp _ ?_
                        clear hKp
                        rintro _ ⟨u, rfl⟩
                        have ny := nb.trans (u.b.mono nb.size)
                        generalize u.w = wy at *
                        clear a2 b2
                        replace e3 := Lib.hid e3
                        replace ny := Lib.hid ny
                        go_wp2_with fail
                        go_roundg (gk - 1)
                        case measure => omega
                        case rel => exact ⟨J + 1, by go_num, by omega, ny, e3⟩
                    · have p1 := seq_f h1
                      rw [show sW x.1 y.1 = false from decide_eq_false h1, Bool.false_and, Bool.false_and] at e3
                      clear h1
                      go_wp2_with fail
                      replace a2 := fun u : BW wr => u.cell lA a2
                      replace b2 := fun u : BW wr => u.cell lB b2
                      replace xa0 := fun u : BW wr => u.cell hga' xa0
                      replace xb0 := fun u : BW wr => u.cell hgb' xb0
                      refine wp_region_below_lit (by kernel_rfl) (by kernel_rfl) ?_
                      repeat (go_big_quiet_step (exact rfl))
                      refine wpQuiet_nil ?_
                      rintro _ ⟨u, rfl⟩
                      have ny := nb.trans (u.b.mono nb.size)
                      generalize u.w = wy at *
                      clear a2 b2
                      rw [e3] at hR
                      have fin := Lib.hid (hR.out _ (n.trans (ny.mono n.size)))
                      clear hR e3
                      go_wp2_with fail
                      exact fin.out
                  · obtain rfl : J = s.2.2.1.length := by omega
                    have e4 := e2.out
                    rw [eqL_end l3.out] at e4
                    rw [e4] at hR
                    clear e2 e4 hr3 ht3
                    have nV := nb
                    have fin := Lib.hid (hR.out _ (n.trans (nb.mono n.size)))
                    clear hR
                    go_wp2_with fail
                    exact fin.out
      · have q3 : ((s.2.2.1.length : Int) != (t.2.2.1.length : Int)) = true := by simpa using fun h => l3 (by omega)
        rw [eqL_ne l3, Bool.and_false, Bool.false_and] at hR
        have fin := Lib.hid (hR.out _ n)
        clear hR k4
        go_wp2_with fail
        exact fin.out
    · have q2 : ((s.2.1.length : Int) != (t.2.1.length : Int)) = true := by simpa using fun h => l2 (by omega)
      rw [eqL_ne l2, Bool.and_false, Bool.false_and, Bool.false_and] at hR
      have fin := Lib.hid (hR.out _ n)
      clear hR k4
      go_wp2_with fail
      exact fin.out
  · have q1 : ((s.1.length : Int) != (t.1.length : Int)) = true := by simpa using fun h => l1 (by omega)
    rw [eqL_ne l1, Bool.false_and, Bool.false_and, Bool.false_and] at hR
    have fin := Lib.hid (hR.out _ n)
    clear hR k4
    go_wp2_with fail
    exact fin.out
end Go.Proofs.YtbochlbgjnmgjaaGreat.Unp
