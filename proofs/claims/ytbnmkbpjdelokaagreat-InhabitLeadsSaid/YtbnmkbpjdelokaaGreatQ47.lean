import Derived.Test.YtbnmkbpjdelokaaGreatQ41
import Derived.Test.YtbnmkbpjdelokaaGreatQ0
import Derived.Test.YtbnmkbpjdelokaaGreatQ5
import Derived.Test.YtbnmkbpjdelokaaGreatQ13
import Derived.Test.YtbnmkbpjdelokaaGreatQ26
set_option linter.unusedVariables false
set_option maxRecDepth 100000
set_option maxHeartbeats 4000000
namespace Go.Proofs.YtbnmkbpjdelokaaGreat.Inh
open Res
def ledX (D : List Int) (e : EdR) : Int := if e.bare then 0 else atD D e.dst
def ledE (D : List Int) (e : EdR) (s : Int × Int × Bool) : Int × Int × Bool :=
  (if s.1 < ledX D e then ledX D e else s.1, if (e.bare = true ∨ 0 < ledX D e) ∧ (s.2.1 = 0 ∨ ledX D e + 1 < s.2.1) then ledX D e + 1 else s.2.1, s.2.2 || (!e.bare && decide (atD D e.dst = 0)))
def ledF (D : List Int) : List EdR → Int × Int × Bool → Int × Int × Bool
  | [], s => s
  | e :: r, s => ledF D r (ledE D e s)
theorem led_on {D : List Int} : ∀ (es : List EdR) (m b : Int), (ledF D es (m, b, true)).2.2 = true
  | [], m, b => rfl
  | e :: r, m, b => by
    show (ledF D r (_, _, true || _)).2.2 = true
    rw [Bool.true_or]
    exact led_on r _ _
theorem led_rec {D : List Int} (h : ∀ j, 0 ≤ atD D j) : ∀ (es : List EdR) (m b : Int), 0 ≤ m → (∀ e ∈ es, e.bare = false) → (recD D es m = 0 ∧ (ledF D es (m, b, false)).2.2 = true) ∨ (recD D es m = (ledF D es (m, b, false)).1 + 1 ∧ (ledF D es (m, b, false)).2.2 = false ∧ 0 ≤ (ledF D es (m, b, false)).1)
  | [], m, b, h0, _ => .inr ⟨rfl, rfl, h0⟩
  | e :: r, m, b, h0, hb => by
    have b0 := hb e List.mem_cons_self
    have hj := h e.dst
    have ex : ledX D e = atD D e.dst := by unfold ledX; rw [b0]; rfl
    unfold recD
    by_cases q : atD D e.dst = 0
    · rw [if_pos q]
      refine .inl ⟨rfl, ?_⟩
      show (ledF D r (_, _, false || (!e.bare && decide (atD D e.dst = 0)))).2.2 = true
      rw [b0, decide_eq_true q]
      exact led_on r _ _
    · rw [if_neg q]
      have e1 : ledE D e (m, b, false) = (max m (atD D e.dst), (ledE D e (m, b, false)).2.1, false) := by
        unfold ledE
        rw [ex, b0, decide_eq_false q]
        simp only [Bool.false_or, Bool.not_false, Bool.and_false]
        rw [show (if m < atD D e.dst then atD D e.dst else m) = max m (atD D e.dst) by split <;> omega]
      show (_ ∧ (ledF D r (ledE D e (m, b, false))).2.2 = true) ∨ (_ = (ledF D r (ledE D e (m, b, false))).1 + 1 ∧ (ledF D r (ledE D e (m, b, false))).2.2 = false ∧ 0 ≤ (ledF D r (ledE D e (m, b, false))).1)
      rw [e1]
      exact led_rec h r _ _ (by omega) fun x hx => hb x (List.mem_cons_of_mem _ hx)
theorem led_two (D : List Int) (e : EdR) (m b : Int) (nb : Bool) {X : Int} (h : (if (e.bare = true ∨ 0 < ledX D e) ∧ (b = 0 ∨ ledX D e + 1 < b) then ledX D e + 1 else b) = X) : ledE D e (m, b, nb) = ((ledE D e (m, b, nb)).1, X, (ledE D e (m, b, nb)).2.2) := Prod.ext rfl (Prod.ext h rfl)
theorem led_one {D : List Int} (h : ∀ j, 0 ≤ atD D j) : ∀ (es : List EdR) (m : Int) (nb : Bool), (ledF D es (m, 1, nb)).2.1 = 1
  | [], m, nb => rfl
  | e :: r, m, nb => by
    have hj := h e.dst
    have hx : 0 ≤ ledX D e := by unfold ledX; split <;> omega
    show (ledF D r (ledE D e (m, 1, nb))).2.1 = 1
    rw [led_two D e m 1 nb (if_neg (by omega))]
    exact led_one h r _ _
theorem led_uni {D : List Int} (h : ∀ j, 0 ≤ atD D j) : ∀ (es : List EdR) (m b : Int) (nb : Bool), (b = 0 ∨ 2 ≤ b) → (ledF D es (m, b, nb)).2.1 = uniD D es b
  | [], m, b, nb, _ => rfl
  | e :: r, m, b, nb, hb => by
    have hj := h e.dst
    unfold uniD
    show (ledF D r (ledE D e (m, b, nb))).2.1 = _
    by_cases q : e.bare = true
    · have ex : ledX D e = 0 := by unfold ledX; rw [if_pos q]
      rw [if_pos q, led_two D e m b nb (if_pos ⟨.inl q, by omega⟩), ex]
      exact led_one h r _ _
    · have ex : ledX D e = atD D e.dst := by unfold ledX; rw [if_neg q]
      rw [if_neg q]
      by_cases c : 0 < atD D e.dst ∧ (b = 0 ∨ atD D e.dst + 1 < b)
      · rw [if_pos c, led_two D e m b nb (if_pos ⟨.inr (by omega), by omega⟩), ex]
        exact led_uni h r _ _ _ (.inr (by omega))
      · rw [if_neg c, led_two D e m b nb (if_neg (fun p => c ⟨by rw [← ex]; exact p.1.resolve_left q, by rw [← ex]; exact p.2⟩))]
        exact led_uni h r _ _ _ hb
end Go.Proofs.YtbnmkbpjdelokaaGreat.Inh
namespace Go.Proofs.YtbnmkbpjdelokaaGreat.Unp
open Go.RowKit Go.Lib
theorem blt {V : World} {b : Nat} {o : Obj} (h : V.heap[b]? = some o) : b < V.heap.size := (Array.getElem?_eq_some_iff.1 h).1
end Go.Proofs.YtbnmkbpjdelokaaGreat.Unp
namespace Go.Proofs.YtbnmkbpjdelokaaGreat.Unp
open Go.RowKit Go.Lib Nam Lat Kin Dig
theorem RdNs.op {w : World} {v : Value} {l : List Nd} (h : RdNs w v l) : ∃ (A : Option Addr) (c : Nat), v = .slice A l.length c ∧ l.length ≤ c ∧ (0 < l.length → ∃ g o, A = some ⟨g, o, none⟩ ∧ g < w.heap.size ∧
  ∀ i, i < l.length → ∃ nv pv, RdY w (nN l i).2.1 (nN l i).2.2 nv pv ∧ ∀ j u, [Value.string (nN l i).1.1, .int .i64 (nN l i).1.2, .int .i64 (nN l i).2.1.kind, .int .i64 (nN l i).2.1.at_, .int .i64 (nN l i).2.1.lo, .int .i64 (nN l i).2.1.hi, .int .i64 (nN l i).2.1.most, nv, pv, .string (nN l i).2.1.name, .int .i64 (nN l i).2.1.nat][j]? = some u → w.cell? ⟨g, o + i * 11 + j, none⟩ = some u) := h
theorem mem_nN {l : List Nd} {i : Nat} (h : i < l.length) : nN l i ∈ l := by rw [nN_get h]; exact List.getElem_mem h
theorem refgreat_calls (s : Sc) (gs : GoodS s) (lv ov tv nv pv : Value) (w : World) (rd : RdSc w s lv ov tv nv pv) (R : Ending → World → Prop)
    (hR : Hid (∀ w' (y : Bool), Below w.heap.size w w' → (y = false → s.1.length ≤ 100 ∧ s.2.1.length ≤ 400 ∧ s.2.2.1.length ≤ 100) → R (.returned (.bool y)) w')) : Calls Tryz.prog 19 #[scV s lv ov tv nv pv] w R := by
  have hl1 : s.1.length ≤ 9223372036854775807 := gs.ll
  have hl2 : s.2.1.length ≤ 9223372036854775807 := gs.ol
  have hl3 : s.2.2.1.length ≤ 9223372036854775807 := gs.tl
  obtain ⟨A1, c1, rfl, -, -⟩ := rd.l.op
  obtain ⟨A2, c2, rfl, -, -⟩ := RdPr.op rd.o
  obtain ⟨A3, c3, rfl, -, -⟩ := rd.t.op
  obtain ⟨N1, N3, rfl, -, -⟩ := rd.r.n.op
  obtain ⟨M1, M3, rfl, -⟩ := rd.r.p.sl
  have hA := heap_alloc_new w (.cells #[.slice A1 s.1.length c1, .slice A2 s.2.1.length c2, .slice A3 s.2.2.1.length c3, .int .i64 s.2.2.2.1.kind, .int .i64 s.2.2.2.1.at_, .int .i64 s.2.2.2.1.lo, .int .i64 s.2.2.2.1.hi, .int .i64 s.2.2.2.1.most, .slice N1 s.2.2.2.1.names.length N3, .slice M1 s.2.2.2.2.len M3, .string s.2.2.2.1.name, .int .i64 s.2.2.2.1.nat] 31)
  have n := (Below.refl w.heap.size w).alloc (Nat.le_refl _) (.cells #[.slice A1 s.1.length c1, .slice A2 s.2.1.length c2, .slice A3 s.2.2.1.length c3, .int .i64 s.2.2.2.1.kind, .int .i64 s.2.2.2.1.at_, .int .i64 s.2.2.2.1.lo, .int .i64 s.2.2.2.1.hi, .int .i64 s.2.2.2.1.most, .slice N1 s.2.2.2.1.names.length N3, .slice M1 s.2.2.2.2.len M3, .string s.2.2.2.1.name, .int .i64 s.2.2.2.1.nat] 31)
  replace rd := rd.below n
  go_enter Tryz.func19, Tryz.ntmps19
  go_upto_region 1 with fail
  generalize w.alloc (.cells #[.slice A1 s.1.length c1, .slice A2 s.2.1.length c2, .slice A3 s.2.2.1.length c3, .int .i64 s.2.2.2.1.kind, .int .i64 s.2.2.2.1.at_, .int .i64 s.2.2.2.1.lo, .int .i64 s.2.2.2.1.hi, .int .i64 s.2.2.2.1.most, .slice N1 s.2.2.2.1.names.length N3, .slice M1 s.2.2.2.2.len M3, .string s.2.2.2.1.name, .int .i64 s.2.2.2.1.nat] 31) = V at *
  generalize w.heap.size = P at hA ⊢
  by_cases h1 : 100 < s.1.length
  · have i1 : (100 : Int) < (s.1.length : Int) := by omega
    have fin := Lib.hid (hR.out _ true n (fun h => by cases h))
    clear hR rd gs
    have a0 := (Lib.cell_of_heap hA 0).trans rfl
    have a1 := (Lib.cell_of_heap hA 1).trans rfl
    have a2 := (Lib.cell_of_heap hA 2).trans rfl
    go_wp2_with fail
    exact fin.out
  have i1 : ¬ (100 : Int) < (s.1.length : Int) := by omega
  by_cases h2 : 400 < s.2.1.length
  · have i2 : (400 : Int) < (s.2.1.length : Int) := by omega
    have fin := Lib.hid (hR.out _ true n (fun h => by cases h))
    clear hR rd gs
    have a0 := (Lib.cell_of_heap hA 0).trans rfl
    have a1 := (Lib.cell_of_heap hA 1).trans rfl
    have a2 := (Lib.cell_of_heap hA 2).trans rfl
    go_wp2_with fail
    exact fin.out
  have i2 : ¬ (400 : Int) < (s.2.1.length : Int) := by omega
  by_cases h3 : 100 < s.2.2.1.length
  · have i3 : (100 : Int) < (s.2.2.1.length : Int) := by omega
    have fin := Lib.hid (hR.out _ true n (fun h => by cases h))
    clear hR rd gs
    have a0 := (Lib.cell_of_heap hA 0).trans rfl
    have a1 := (Lib.cell_of_heap hA 1).trans rfl
    have a2 := (Lib.cell_of_heap hA 2).trans rfl
    go_wp2_with fail
    exact fin.out
  have i3 : ¬ (100 : Int) < (s.2.2.1.length : Int) := by omega
  have hR2 : Hid (∀ w' (y : Bool), Below w.heap.size w w' → R (.returned (.bool y)) w') := Lib.hid fun w' y m => hR.out w' y m fun _ => ⟨by omega, by omega, by omega⟩
  replace hR2 := Lib.hid hR2
  clear hR h1 h2 h3
  obtain ⟨A3', c3', e3s, -, hrd⟩ := rd.t.op
  simp only [Value.slice.injEq] at e3s
  obtain ⟨rfl, -, rfl⟩ := e3s
  replace hrd := Lib.hid hrd
  have cS := Lib.hid fun R hR => size15_calls s.2.2.2.2 s.2.2.2.1 (.slice N1 s.2.2.2.1.names.length N3) (.slice M1 s.2.2.2.2.len M3) V gs.gl gs.g rd.r R hR
  have rT : V.rangeAt P 3 [.int .i64 s.2.2.2.1.kind, .int .i64 s.2.2.2.1.at_, .int .i64 s.2.2.2.1.lo, .int .i64 s.2.2.2.1.hi, .int .i64 s.2.2.2.1.most, .slice N1 s.2.2.2.1.names.length N3, .slice M1 s.2.2.2.2.len M3, .string s.2.2.2.1.name, .int .i64 s.2.2.2.1.nat] := fun j v h => by rw [Lib.cell_of_heap hA, List.getElem?_toArray, ← List.getElem?_drop]; exact h
  have a0 := (Lib.cell_of_heap hA 0).trans rfl
  have a1 := (Lib.cell_of_heap hA 1).trans rfl
  have a2 := (Lib.cell_of_heap hA 2).trans rfl
  go_wp2_with (refine wpList_load_g (by rfl) 29 _ rfl P 3 rfl [.int .i64 s.2.2.2.1.kind, .int .i64 s.2.2.2.1.at_, .int .i64 s.2.2.2.1.lo, .int .i64 s.2.2.2.1.hi, .int .i64 s.2.2.2.1.most, .slice N1 s.2.2.2.1.names.length N3, .slice M1 s.2.2.2.2.len M3, .string s.2.2.2.1.name, .int .i64 s.2.2.2.1.nat] _ rT Tryz.underlying29 rfl (by kernel_rfl) ?_; go_simp)
  refine cS.out _ (Lib.hid fun w1 m1 => ?_)
  have hlA := blt hA
  have hAV := Lib.hid hA
  replace hA := (m1.block _ hlA).trans hA
  have nV := m1
  clear cS rT m1 a0 a1 a2 i1 i2 i3
  generalize cW s.2.2.2.2 1 = NN at *
  generalize wrap64 (dW s.2.2.2.2 0 + 1) = DD at *
  have a2 := (Lib.cell_of_heap hA 2).trans rfl
  go_upto_region 5 with fail
  clear a2
  replace hA := Lib.hid hA
  go_loopg [3, 4, 5] s.2.2.1.length (fun g0 s3 s4 i wr => ∃ (J : Nat) (p q : Int), s3 = .int .i64 p ∧ s4 = .int .i64 q ∧ i = .int .i64 J ∧ J + g0 = s.2.2.1.length ∧ Hid (Below V.heap.size V wr))
  case atStart => exact ⟨0, _, _, rfl, rfl, rfl, by omega, Lib.hid nV⟩
  case round =>
    clear nV
    obtain ⟨J, p, q, rfl, rfl, rfl, c1', nb⟩ := hrel
    replace nb := nb.out
    have hAr := (nb.block _ hlA).trans hAV.out
    by_cases hJ : J < s.2.2.1.length
    · obtain ⟨g, o, rfl, hg, hca⟩ := hrd.out (by omega)
      obtain ⟨nx, px, ry, hcl⟩ := hca J hJ
      obtain ⟨N1', N3', rfl, -, -⟩ := ry.n.op
      obtain ⟨M1', M3', rfl, -⟩ := ry.p.sl
      have hgn := gs.t _ (mem_nN hJ)
      generalize nN s.2.2.1 J = n' at *
      have rT : wr.rangeAt g (o + J * 11 + 2) [.int .i64 n'.2.1.kind, .int .i64 n'.2.1.at_, .int .i64 n'.2.1.lo, .int .i64 n'.2.1.hi, .int .i64 n'.2.1.most, .slice N1' n'.2.1.names.length N3', .slice M1' n'.2.2.len M3', .string n'.2.1.name, .int .i64 n'.2.1.nat] := fun j v q => (nb.cell (p := ⟨g, o + J * 11 + 2 + j, none⟩) hg).trans (by rw [Nat.add_assoc]; exact hcl (2 + j) v (by rw [← List.getElem?_drop]; exact q))
      have cS := Lib.hid fun R hR => size15_calls n'.2.2 n'.2.1 (.slice N1' n'.2.1.names.length N3') (.slice M1' n'.2.2.len M3') wr hgn.2.2.2 hgn.2.2.1 (ry.below nb) R hR
      have i0 : (0 : Int) ≤ (J : Int) := by omega
      have i1 : (J : Int) < (s.2.2.1.length : Int) := by omega
      clear hca hcl
      have a2 := (Lib.cell_of_heap hAr 2).trans rfl
      go_wp2_with (refine wpList_load_g (by rfl) 29 _ rfl g (o + J * 11 + 2) rfl [.int .i64 n'.2.1.kind, .int .i64 n'.2.1.at_, .int .i64 n'.2.1.lo, .int .i64 n'.2.1.hi, .int .i64 n'.2.1.most, .slice N1' n'.2.1.names.length N3', .slice M1' n'.2.2.len M3', .string n'.2.1.name, .int .i64 n'.2.1.nat] _ rT Tryz.underlying29 rfl (by kernel_rfl) ?_; go_simp)
      refine cS.out _ (Lib.hid fun w2 m2 => ?_)
      have nb2 := Lib.hid (nb.trans (m2.mono nb.size))
      clear cS rT m2 a2 ry
      generalize cW n'.2.2 1 = k at *
      generalize wrap64 (dW n'.2.2 0 + 1) = d at *
      by_cases hd : q < d
      · go_wp2_with fail
        go_roundg (gk - 1)
        case measure => omega
        case rel => exact ⟨J + 1, _, _, rfl, rfl, by go_num, by omega, nb2⟩
      · go_wp2_with fail
        go_roundg (gk - 1)
        case measure => omega
        case rel => exact ⟨J + 1, _, _, rfl, rfl, by go_num, by omega, nb2⟩
    · obtain rfl : J = s.2.2.1.length := by omega
      have a2 := (Lib.cell_of_heap hAr 2).trans rfl
      have hR3 := Lib.hid fun (y : Bool) => hR2.out.out wr y (n.trans (nb.mono n.size))
      clear hR2
      by_cases hp : 2000 < p
      · go_wp2_with fail
        exact hR3.out true
      · by_cases hd : 60 < q
        · go_wp2_with fail
          exact hR3.out true
        · go_wp2_with fail
          exact hR3.out false
end Go.Proofs.YtbnmkbpjdelokaaGreat.Unp
