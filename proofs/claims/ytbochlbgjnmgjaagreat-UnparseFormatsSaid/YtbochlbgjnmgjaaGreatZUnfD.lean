/- Layer 17: the reference: what is gone through. -/
import Derived.Test.YtbochlbgjnmgjaaGreatG20
import Derived.Test.YtbochlbgjnmgjaaGreatZUnuB
set_option maxRecDepth 100000
set_option linter.unusedVariables false
namespace Go.Proofs.YtbochlbgjnmgjaaGreat.Unp
open Go.RowKit Go.Lib Go.Proofs.YtbochlbgjnmgjaaGreat.Nam Go.Proofs.YtbochlbgjnmgjaaGreat.Lat Go.Proofs.YtbochlbgjnmgjaaGreat.Kin Go.Proofs.YtbochlbgjnmgjaaGreat.Dig

set_option maxRecDepth 100000 in
set_option maxHeartbeats 1000000 in
theorem reffine_calls (f : Ft) (t : TH) (nv pv : Value) (w : World) (gh : GoodH t) (hfl : f.len ≤ maxLen) (hga : f.All GoodH GoodL) (hy : RdY w t f nv pv) (R : Ending → World → Prop)
    (hR : Hid (∀ w', Below w.heap.size w w' → R (.returned (.bool (fineB t f))) w')) : Calls Tryz.prog 42 #[tyV t nv pv] w R := by
  obtain ⟨N1, N3, rfl, -, -⟩ := hy.n.op
  obtain ⟨M1, M3, rfl, -⟩ := hy.p.sl
  have hA := heap_alloc_new w (.cells #[.int .i64 t.kind, .int .i64 t.at_, .int .i64 t.lo, .int .i64 t.hi, .int .i64 t.most, .slice N1 t.names.length N3, .slice M1 f.len M3, .string t.name, .int .i64 t.nat] 30)
  have n := (Below.refl w.heap.size w).alloc (Nat.le_refl _) (.cells #[.int .i64 t.kind, .int .i64 t.at_, .int .i64 t.lo, .int .i64 t.hi, .int .i64 t.most, .slice N1 t.names.length N3, .slice M1 f.len M3, .string t.name, .int .i64 t.nat] 30)
  replace hy := Lib.hid (hy.below n)
  have hiff := wc_iff t f 1 0
  have hq : fineB t f = decide ((wrB t f (wrF f) 1 0).1 = 0) := decide_eq_decide.2 hiff
  rw [hq] at hR
  clear hq hiff
  have hR2 := Lib.hid hR
  clear hR
  go_enter Tryz.func42, Tryz.ntmps42
  go_upto_region 1 with fail
  generalize w.alloc (.cells #[.int .i64 t.kind, .int .i64 t.at_, .int .i64 t.lo, .int .i64 t.hi, .int .i64 t.most, .slice N1 t.names.length N3, .slice M1 f.len M3, .string t.name, .int .i64 t.nat] 30) = V at *
  generalize w.heap.size = P at hA ⊢
  have rT : V.rangeAt P 0 [.int .i64 t.kind, .int .i64 t.at_, .int .i64 t.lo, .int .i64 t.hi, .int .i64 t.most, .slice N1 t.names.length N3, .slice M1 f.len M3, .string t.name, .int .i64 t.nat] := fun j v e => by rw [Nat.zero_add, Lib.cell_of_heap hA]; simpa using e
  have cW := Lib.hid fun R hR => wrong15_calls f t (.slice N1 t.names.length N3) (.slice M1 f.len M3) 0 1 V (by omega) (by omega) gh hfl hga hy.out R hR
  go_wp2_with (refine wpList_load_g (by rfl) 30 _ rfl P 0 rfl [.int .i64 t.kind, .int .i64 t.at_, .int .i64 t.lo, .int .i64 t.hi, .int .i64 t.most, .slice N1 t.names.length N3, .slice M1 f.len M3, .string t.name, .int .i64 t.nat] _ rT Tryz.underlying30 rfl (by kernel_rfl) ?_; go_simp)
  refine cW.out _ (Lib.hid fun w1 m1 => ?_)
  have fin := Lib.hid (hR2.out.out _ (n.trans (m1.mono n.size)))
  clear hR2 cW rT hA m1
  generalize (wrB t f (wrF f) 1 0).1 = e at *
  generalize (wrB t f (wrF f) 1 0).2.1 = e2 at *
  generalize (wrB t f (wrF f) 1 0).2.2 = e3 at *
  have hf1 := fun w => run_fieldF e e2 e3 w
  have hf2 := fun w => run_fieldE e e2 w
  cases hq : decide (e = 0)
  · rw [hq] at fin
    have q : (e == 0) = false := by simpa using hq
    clear hq
    go_wp2_with fail
    exact fin.out
  · rw [hq] at fin
    have q : (e == 0) = true := by simpa using hq
    clear hq
    go_wp2_with fail
    exact fin.out
set_option maxRecDepth 100000 in
set_option maxHeartbeats 4000000 in
theorem refgreat_calls (s : Sc) (gs : GoodS s) (lv ov tv nv pv : Value) (w : World) (rd : RdSc w s lv ov tv nv pv) (R : Ending → World → Prop)
    (hR : Hid (∀ w' (y : Bool), Below w.heap.size w w' → (y = false → s.1.length ≤ 100 ∧ s.2.1.length ≤ 400 ∧ s.2.2.1.length ≤ 100) → R (.returned (.bool y)) w')) : Calls Tryz.prog 17 #[scV s lv ov tv nv pv] w R := by
  have hl1 : s.1.length ≤ 9223372036854775807 := gs.ll
  have hl2 : s.2.1.length ≤ 9223372036854775807 := gs.ol
  have hl3 : s.2.2.1.length ≤ 9223372036854775807 := gs.tl
  obtain ⟨A1, c1, rfl, -, -⟩ := rd.l.op
  obtain ⟨A2, c2, rfl, -, -⟩ := RdPr.op rd.o
  obtain ⟨A3, c3, rfl, -, -⟩ := rd.t.op
  obtain ⟨N1, N3, rfl, -, -⟩ := rd.r.n.op
  obtain ⟨M1, M3, rfl, -⟩ := rd.r.p.sl
  have hA := heap_alloc_new w (.cells #[.slice A1 s.1.length c1, .slice A2 s.2.1.length c2, .slice A3 s.2.2.1.length c3, .int .i64 s.2.2.2.1.kind, .int .i64 s.2.2.2.1.at_, .int .i64 s.2.2.2.1.lo, .int .i64 s.2.2.2.1.hi, .int .i64 s.2.2.2.1.most, .slice N1 s.2.2.2.1.names.length N3, .slice M1 s.2.2.2.2.len M3, .string s.2.2.2.1.name, .int .i64 s.2.2.2.1.nat] 32)
  have n := (Below.refl w.heap.size w).alloc (Nat.le_refl _) (.cells #[.slice A1 s.1.length c1, .slice A2 s.2.1.length c2, .slice A3 s.2.2.1.length c3, .int .i64 s.2.2.2.1.kind, .int .i64 s.2.2.2.1.at_, .int .i64 s.2.2.2.1.lo, .int .i64 s.2.2.2.1.hi, .int .i64 s.2.2.2.1.most, .slice N1 s.2.2.2.1.names.length N3, .slice M1 s.2.2.2.2.len M3, .string s.2.2.2.1.name, .int .i64 s.2.2.2.1.nat] 32)
  replace rd := rd.below n
  go_enter Tryz.func17, Tryz.ntmps17
  go_upto_region 1 with fail
  generalize w.alloc (.cells #[.slice A1 s.1.length c1, .slice A2 s.2.1.length c2, .slice A3 s.2.2.1.length c3, .int .i64 s.2.2.2.1.kind, .int .i64 s.2.2.2.1.at_, .int .i64 s.2.2.2.1.lo, .int .i64 s.2.2.2.1.hi, .int .i64 s.2.2.2.1.most, .slice N1 s.2.2.2.1.names.length N3, .slice M1 s.2.2.2.2.len M3, .string s.2.2.2.1.name, .int .i64 s.2.2.2.1.nat] 32) = V at *
  generalize w.heap.size = P at hA ⊢
  by_cases h1 : 100 < s.1.length
  · have i1 : (100 : Int) < (s.1.length : Int) := by omega
    have fin := Lib.hid (hR.out _ true n (fun h => by cases h))
    clear hR rd gs
    have a0 := (Lib.cell_of_heap hA 0).trans rfl
    have a1 := (Lib.cell_of_heap hA 1).trans rfl
    have a2 := (Lib.cell_of_heap hA 2).trans rfl
    go_wp2_with fail
    exact fin.out
  have i1 : ¬ (100 : Int) < (s.1.length : Int) := by omega
  by_cases h2 : 400 < s.2.1.length
  · have i2 : (400 : Int) < (s.2.1.length : Int) := by omega
    have fin := Lib.hid (hR.out _ true n (fun h => by cases h))
    clear hR rd gs
    have a0 := (Lib.cell_of_heap hA 0).trans rfl
    have a1 := (Lib.cell_of_heap hA 1).trans rfl
    have a2 := (Lib.cell_of_heap hA 2).trans rfl
    go_wp2_with fail
    exact fin.out
  have i2 : ¬ (400 : Int) < (s.2.1.length : Int) := by omega
  by_cases h3 : 100 < s.2.2.1.length
  · have i3 : (100 : Int) < (s.2.2.1.length : Int) := by omega
    have fin := Lib.hid (hR.out _ true n (fun h => by cases h))
    clear hR rd gs
    have a0 := (Lib.cell_of_heap hA 0).trans rfl
    have a1 := (Lib.cell_of_heap hA 1).trans rfl
    have a2 := (Lib.cell_of_heap hA 2).trans rfl
    go_wp2_with fail
    exact fin.out
  have i3 : ¬ (100 : Int) < (s.2.2.1.length : Int) := by omega
  have hR2 : Hid (∀ w' (y : Bool), Below w.heap.size w w' → R (.returned (.bool y)) w') := Lib.hid fun w' y m => hR.out w' y m fun _ => ⟨by omega, by omega, by omega⟩
  replace hR2 := Lib.hid hR2
  clear hR h1 h2 h3
  obtain ⟨A3', c3', e3s, -, hrd⟩ := rd.t.op
  simp only [Value.slice.injEq] at e3s
  obtain ⟨rfl, -, rfl⟩ := e3s
  replace hrd := Lib.hid hrd
  have cS := Lib.hid fun R hR => size15_calls s.2.2.2.2 s.2.2.2.1 (.slice N1 s.2.2.2.1.names.length N3) (.slice M1 s.2.2.2.2.len M3) V gs.gl gs.g rd.r R hR
  have rT : V.rangeAt P 3 [.int .i64 s.2.2.2.1.kind, .int .i64 s.2.2.2.1.at_, .int .i64 s.2.2.2.1.lo, .int .i64 s.2.2.2.1.hi, .int .i64 s.2.2.2.1.most, .slice N1 s.2.2.2.1.names.length N3, .slice M1 s.2.2.2.2.len M3, .string s.2.2.2.1.name, .int .i64 s.2.2.2.1.nat] := fun j v h => by rw [Lib.cell_of_heap hA, List.getElem?_toArray, ← List.getElem?_drop]; exact h
  have a0 := (Lib.cell_of_heap hA 0).trans rfl
  have a1 := (Lib.cell_of_heap hA 1).trans rfl
  have a2 := (Lib.cell_of_heap hA 2).trans rfl
  go_wp2_with (refine wpList_load_g (by rfl) 30 _ rfl P 3 rfl [.int .i64 s.2.2.2.1.kind, .int .i64 s.2.2.2.1.at_, .int .i64 s.2.2.2.1.lo, .int .i64 s.2.2.2.1.hi, .int .i64 s.2.2.2.1.most, .slice N1 s.2.2.2.1.names.length N3, .slice M1 s.2.2.2.2.len M3, .string s.2.2.2.1.name, .int .i64 s.2.2.2.1.nat] _ rT Tryz.underlying30 rfl (by kernel_rfl) ?_; go_simp)
  refine cS.out _ (Lib.hid fun w1 m1 => ?_)
  have hlA := blt hA
  have hAV := Lib.hid hA
  replace hA := (m1.block _ hlA).trans hA
  have nV := m1
  clear cS rT m1 a0 a1 a2 i1 i2 i3
  generalize cW s.2.2.2.2 1 = NN at *
  generalize wrap64 (dW s.2.2.2.2 0 + 1) = DD at *
  have a2 := (Lib.cell_of_heap hA 2).trans rfl
  go_upto_region 5 with fail
  clear a2
  replace hA := Lib.hid hA
  go_loopg [3, 4, 5] s.2.2.1.length (fun g0 s3 s4 i wr => ∃ (J : Nat) (p q : Int), s3 = .int .i64 p ∧ s4 = .int .i64 q ∧ i = .int .i64 J ∧ J + g0 = s.2.2.1.length ∧ Hid (Below V.heap.size V wr))
  case atStart => exact ⟨0, _, _, rfl, rfl, rfl, by omega, Lib.hid nV⟩
  case round =>
    clear nV
    obtain ⟨J, p, q, rfl, rfl, rfl, c1', nb⟩ := hrel
    replace nb := nb.out
    have hAr := (nb.block _ hlA).trans hAV.out
    by_cases hJ : J < s.2.2.1.length
    · obtain ⟨g, o, rfl, hg, hca⟩ := hrd.out (by omega)
      obtain ⟨nx, px, ry, hcl⟩ := hca J hJ
      obtain ⟨N1', N3', rfl, -, -⟩ := ry.n.op
      obtain ⟨M1', M3', rfl, -⟩ := ry.p.sl
      have hgn := gs.t _ (mem_nN hJ)
      generalize nN s.2.2.1 J = n' at *
      have rT : wr.rangeAt g (o + J * 11 + 2) [.int .i64 n'.2.1.kind, .int .i64 n'.2.1.at_, .int .i64 n'.2.1.lo, .int .i64 n'.2.1.hi, .int .i64 n'.2.1.most, .slice N1' n'.2.1.names.length N3', .slice M1' n'.2.2.len M3', .string n'.2.1.name, .int .i64 n'.2.1.nat] := fun j v q => (nb.cell (p := ⟨g, o + J * 11 + 2 + j, none⟩) hg).trans (by rw [Nat.add_assoc]; exact hcl (2 + j) v (by rw [← List.getElem?_drop]; exact q))
      have cS := Lib.hid fun R hR => size15_calls n'.2.2 n'.2.1 (.slice N1' n'.2.1.names.length N3') (.slice M1' n'.2.2.len M3') wr hgn.2.2.2 hgn.2.2.1 (ry.below nb) R hR
      have i0 : (0 : Int) ≤ (J : Int) := by omega
      have i1 : (J : Int) < (s.2.2.1.length : Int) := by omega
      clear hca hcl
      have a2 := (Lib.cell_of_heap hAr 2).trans rfl
      go_wp2_with (refine wpList_load_g (by rfl) 30 _ rfl g (o + J * 11 + 2) rfl [.int .i64 n'.2.1.kind, .int .i64 n'.2.1.at_, .int .i64 n'.2.1.lo, .int .i64 n'.2.1.hi, .int .i64 n'.2.1.most, .slice N1' n'.2.1.names.length N3', .slice M1' n'.2.2.len M3', .string n'.2.1.name, .int .i64 n'.2.1.nat] _ rT Tryz.underlying30 rfl (by kernel_rfl) ?_; go_simp)
      refine cS.out _ (Lib.hid fun w2 m2 => ?_)
      have nb2 := Lib.hid (nb.trans (m2.mono nb.size))
      clear cS rT m2 a2 ry
      generalize cW n'.2.2 1 = k at *
      generalize wrap64 (dW n'.2.2 0 + 1) = d at *
      by_cases hd : q < d
      · go_wp2_with fail
        go_roundg (gk - 1)
        case measure => omega
        case rel => exact ⟨J + 1, _, _, rfl, rfl, by go_num, by omega, nb2⟩
      · go_wp2_with fail
        go_roundg (gk - 1)
        case measure => omega
        case rel => exact ⟨J + 1, _, _, rfl, rfl, by go_num, by omega, nb2⟩
    · obtain rfl : J = s.2.2.1.length := by omega
      have a2 := (Lib.cell_of_heap hAr 2).trans rfl
      have hR3 := Lib.hid fun (y : Bool) => hR2.out.out wr y (n.trans (nb.mono n.size))
      clear hR2
      by_cases hp : 2000 < p
      · go_wp2_with fail
        exact hR3.out true
      · by_cases hd : 60 < q
        · go_wp2_with fail
          exact hR3.out true
        · go_wp2_with fail
          exact hR3.out false
end Go.Proofs.YtbochlbgjnmgjaaGreat.Unp
