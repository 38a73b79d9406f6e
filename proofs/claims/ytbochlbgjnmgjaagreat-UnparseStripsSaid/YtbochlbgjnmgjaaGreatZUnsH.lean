/- Layer 17: the law UnparseStrips walked. -/
import Derived.Test.YtbochlbgjnmgjaaGreatG17
import Derived.Test.YtbochlbgjnmgjaaGreatG18
import Derived.Test.YtbochlbgjnmgjaaGreatG19
set_option maxRecDepth 100000
set_option linter.unusedVariables false
namespace Go.Proofs.YtbochlbgjnmgjaaGreat.Unp
open Go.RowKit Go.Lib Go.Proofs.YtbochlbgjnmgjaaGreat.Nam Go.Proofs.YtbochlbgjnmgjaaGreat.Lat Go.Proofs.YtbochlbgjnmgjaaGreat.Kin Go.Proofs.YtbochlbgjnmgjaaGreat.Dig

theorem good_stS {s : Sc} (gs : GoodS s) (ls : LimS s) : GoodS (stS s) where
  l := goodW_strip gs.l
  ll := by show (stripW s.1).length ≤ _; rw [stripW_len]; exact gs.ll
  o := fun x hx => by
    obtain ⟨y, hy, rfl⟩ := List.mem_map.1 hx
    exact ⟨goodW_st (gs.o y hy).1, goodW_st (gs.o y hy).2⟩
  ol := by show (s.2.1.map stP).length ≤ _; rw [List.length_map]; exact gs.ol
  t := fun x hx => by
    obtain ⟨y, hy, rfl⟩ := List.mem_map.1 hx
    have g := gs.t y hy
    have l := ls.t y hy
    exact ⟨goodW_st g.1, (limH_strip l.1).1, all_good (good_strip l.2.1), by show (stripF y.2.2).len ≤ _; rw [len_strip]; exact g.2.2.2⟩
  tl := by show (s.2.2.1.map stN).length ≤ _; rw [List.length_map]; exact gs.tl
  h := (limH_strip ls.r.1).1
  g := all_good (good_strip ls.r.2.1)
  gl := by show (stripF s.2.2.2.2).len ≤ _; rw [len_strip]; exact gs.gl
theorem cstrip2_calls (s : Sc) (gs : GoodS s) (ls : LimS s) (b1 : s.1.length ≤ 100) (b2 : s.2.1.length ≤ 400) (b3 : s.2.2.1.length ≤ 100) (lv ov tv nv pv : Value) (w : World) (rd : RdSc w s lv ov tv nv pv) (R : Ending → World → Prop)
    (hR : Hid (∀ lv' ov' tv' nv' pv' w', RdSc w' (stS s) lv' ov' tv' nv' pv' → Below w.heap.size w w' → R (.returned (scV (stS s) lv' ov' tv' nv' pv')) w')) : Calls Tryz.prog 23 #[scV s lv ov tv nv pv] w R :=
  cstrip_calls s gs ls b1 b2 b3 lv ov tv nv pv w rd R (Lib.hid fun a b c d e w' r m => hR.out a b c d e w' (r.kp (emp_un (Nat.le_refl _) fun _ _ _ => rfl)) m)
theorem schema_alloc (ρ : Operand → Value) (W : World) (o : Oper) (h : o.op = .alloc 32) : (execOp ρ o).run Tryz.prog W = .ok (.value (ptA W.heap.size)) (W.alloc (.cells #[.slice none 0 0, .slice none 0 0, .slice none 0 0, .int .i64 0, .int .i64 0, .int .i64 0, .int .i64 0, .int .i64 0, .slice none 0 0, .slice none 0 0, .string ⟨#[]⟩, .int .i64 0] 32)) := by
  simp [execOp, h, go_sem, ptA]
set_option maxRecDepth 100000 in
set_option maxHeartbeats 8000000 in
theorem strips17_walk (s t : Sc) (gs : GoodS s) (ls : LimS s) (gt : GoodS t) (lv ov tv nv pv lv' ov' tv' nv' pv' : Value) (w : World) (rd : RdSc w s lv ov tv nv pv) (rt : RdSc w t lv' ov' tv' nv' pv') (R : Ending → World → Prop)
    (hR : Hid (∀ w', Below w.heap.size w w' → R (.returned (.bool true)) w')) : Calls Tryz.prog 7 #[scV s lv ov tv nv pv, scV t lv' ov' tv' nv' pv'] w R := by
  obtain ⟨A1, c1, rfl, -, -⟩ := rd.l.op
  obtain ⟨A2, c2, rfl, -, -⟩ := RdPr.op rd.o
  obtain ⟨A3, c3, rfl, -, -⟩ := rd.t.op
  obtain ⟨N1, N3, rfl, -, -⟩ := rd.r.n.op
  obtain ⟨M1, M3, rfl, -⟩ := rd.r.p.sl
  obtain ⟨B1, e1, rfl, -, -⟩ := rt.l.op
  obtain ⟨B2, e2, rfl, -, -⟩ := RdPr.op rt.o
  obtain ⟨B3, e3, rfl, -, -⟩ := rt.t.op
  obtain ⟨X1, X3, rfl, -, -⟩ := rt.r.n.op
  obtain ⟨Y1, Y3, rfl, -⟩ := rt.r.p.sl
  have hA := heap_alloc_new w (.cells #[.slice A1 s.1.length c1, .slice A2 s.2.1.length c2, .slice A3 s.2.2.1.length c3, .int .i64 s.2.2.2.1.kind, .int .i64 s.2.2.2.1.at_, .int .i64 s.2.2.2.1.lo, .int .i64 s.2.2.2.1.hi, .int .i64 s.2.2.2.1.most, .slice N1 s.2.2.2.1.names.length N3, .slice M1 s.2.2.2.2.len M3, .string s.2.2.2.1.name, .int .i64 s.2.2.2.1.nat] 32)
  have zA : (w.alloc (.cells #[.slice A1 s.1.length c1, .slice A2 s.2.1.length c2, .slice A3 s.2.2.1.length c3, .int .i64 s.2.2.2.1.kind, .int .i64 s.2.2.2.1.at_, .int .i64 s.2.2.2.1.lo, .int .i64 s.2.2.2.1.hi, .int .i64 s.2.2.2.1.most, .slice N1 s.2.2.2.1.names.length N3, .slice M1 s.2.2.2.2.len M3, .string s.2.2.2.1.name, .int .i64 s.2.2.2.1.nat] 32)).heap.size = w.heap.size + 1 := by simp
  have hB := heap_alloc_new (w.alloc (.cells #[.slice A1 s.1.length c1, .slice A2 s.2.1.length c2, .slice A3 s.2.2.1.length c3, .int .i64 s.2.2.2.1.kind, .int .i64 s.2.2.2.1.at_, .int .i64 s.2.2.2.1.lo, .int .i64 s.2.2.2.1.hi, .int .i64 s.2.2.2.1.most, .slice N1 s.2.2.2.1.names.length N3, .slice M1 s.2.2.2.2.len M3, .string s.2.2.2.1.name, .int .i64 s.2.2.2.1.nat] 32)) (.cells #[.slice B1 t.1.length e1, .slice B2 t.2.1.length e2, .slice B3 t.2.2.1.length e3, .int .i64 t.2.2.2.1.kind, .int .i64 t.2.2.2.1.at_, .int .i64 t.2.2.2.1.lo, .int .i64 t.2.2.2.1.hi, .int .i64 t.2.2.2.1.most, .slice X1 t.2.2.2.1.names.length X3, .slice Y1 t.2.2.2.2.len Y3, .string t.2.2.2.1.name, .int .i64 t.2.2.2.1.nat] 32)
  rw [zA] at hB
  replace hA := ((alB (w.alloc (.cells #[.slice A1 s.1.length c1, .slice A2 s.2.1.length c2, .slice A3 s.2.2.1.length c3, .int .i64 s.2.2.2.1.kind, .int .i64 s.2.2.2.1.at_, .int .i64 s.2.2.2.1.lo, .int .i64 s.2.2.2.1.hi, .int .i64 s.2.2.2.1.most, .slice N1 s.2.2.2.1.names.length N3, .slice M1 s.2.2.2.2.len M3, .string s.2.2.2.1.name, .int .i64 s.2.2.2.1.nat] 32)) (.cells #[.slice B1 t.1.length e1, .slice B2 t.2.1.length e2, .slice B3 t.2.2.1.length e3, .int .i64 t.2.2.2.1.kind, .int .i64 t.2.2.2.1.at_, .int .i64 t.2.2.2.1.lo, .int .i64 t.2.2.2.1.hi, .int .i64 t.2.2.2.1.most, .slice X1 t.2.2.2.1.names.length X3, .slice Y1 t.2.2.2.2.len Y3, .string t.2.2.2.1.name, .int .i64 t.2.2.2.1.nat] 32)).block _ (blt hA)).trans hA
  have n := ((Below.refl w.heap.size w).alloc (Nat.le_refl _) (.cells #[.slice A1 s.1.length c1, .slice A2 s.2.1.length c2, .slice A3 s.2.2.1.length c3, .int .i64 s.2.2.2.1.kind, .int .i64 s.2.2.2.1.at_, .int .i64 s.2.2.2.1.lo, .int .i64 s.2.2.2.1.hi, .int .i64 s.2.2.2.1.most, .slice N1 s.2.2.2.1.names.length N3, .slice M1 s.2.2.2.2.len M3, .string s.2.2.2.1.name, .int .i64 s.2.2.2.1.nat] 32)).alloc (by rw [zA]; omega) (.cells #[.slice B1 t.1.length e1, .slice B2 t.2.1.length e2, .slice B3 t.2.2.1.length e3, .int .i64 t.2.2.2.1.kind, .int .i64 t.2.2.2.1.at_, .int .i64 t.2.2.2.1.lo, .int .i64 t.2.2.2.1.hi, .int .i64 t.2.2.2.1.most, .slice X1 t.2.2.2.1.names.length X3, .slice Y1 t.2.2.2.2.len Y3, .string t.2.2.2.1.name, .int .i64 t.2.2.2.1.nat] 32)
  clear zA
  replace rd := Lib.hid (rd.below n)
  replace rt := Lib.hid (rt.below n)
  replace hR := Lib.hid hR
  go_enter Tryz.func7, Tryz.ntmps7
  go_upto_region 1 with fail
  generalize (w.alloc (.cells #[.slice A1 s.1.length c1, .slice A2 s.2.1.length c2, .slice A3 s.2.2.1.length c3, .int .i64 s.2.2.2.1.kind, .int .i64 s.2.2.2.1.at_, .int .i64 s.2.2.2.1.lo, .int .i64 s.2.2.2.1.hi, .int .i64 s.2.2.2.1.most, .slice N1 s.2.2.2.1.names.length N3, .slice M1 s.2.2.2.2.len M3, .string s.2.2.2.1.name, .int .i64 s.2.2.2.1.nat] 32)).alloc (.cells #[.slice B1 t.1.length e1, .slice B2 t.2.1.length e2, .slice B3 t.2.2.1.length e3, .int .i64 t.2.2.2.1.kind, .int .i64 t.2.2.2.1.at_, .int .i64 t.2.2.2.1.lo, .int .i64 t.2.2.2.1.hi, .int .i64 t.2.2.2.1.most, .slice X1 t.2.2.2.1.names.length X3, .slice Y1 t.2.2.2.2.len Y3, .string t.2.2.2.1.name, .int .i64 t.2.2.2.1.nat] 32) = V at *
  have rS : V.rangeAt w.heap.size 0 [.slice A1 s.1.length c1, .slice A2 s.2.1.length c2, .slice A3 s.2.2.1.length c3, .int .i64 s.2.2.2.1.kind, .int .i64 s.2.2.2.1.at_, .int .i64 s.2.2.2.1.lo, .int .i64 s.2.2.2.1.hi, .int .i64 s.2.2.2.1.most, .slice N1 s.2.2.2.1.names.length N3, .slice M1 s.2.2.2.2.len M3, .string s.2.2.2.1.name, .int .i64 s.2.2.2.1.nat] := fun j v e => by rw [Nat.zero_add, Lib.cell_of_heap hA]; simpa using e
  have cG := Lib.hid fun R hR => refgreat_calls s gs (.slice A1 s.1.length c1) (.slice A2 s.2.1.length c2) (.slice A3 s.2.2.1.length c3) (.slice N1 s.2.2.2.1.names.length N3) (.slice M1 s.2.2.2.2.len M3) V rd.out R hR
  go_wp2_with (refine wpList_load_g (by rfl) 32 _ rfl w.heap.size 0 rfl [.slice A1 s.1.length c1, .slice A2 s.2.1.length c2, .slice A3 s.2.2.1.length c3, .int .i64 s.2.2.2.1.kind, .int .i64 s.2.2.2.1.at_, .int .i64 s.2.2.2.1.lo, .int .i64 s.2.2.2.1.hi, .int .i64 s.2.2.2.1.most, .slice N1 s.2.2.2.1.names.length N3, .slice M1 s.2.2.2.2.len M3, .string s.2.2.2.1.name, .int .i64 s.2.2.2.1.nat] _ rS Tryz.underlying32 rfl (by kernel_rfl) ?_; go_simp)
  refine cG.out _ (Lib.hid fun w1 y m1 hy => ?_)
  replace hA := (m1.block _ (blt hA)).trans hA
  replace hB := (m1.block _ (blt hB)).trans hB
  replace rd := Lib.hid (rd.out.below m1)
  replace rt := Lib.hid (rt.out.below m1)
  replace n := n.trans (m1.mono n.size)
  clear cG rS m1
  cases y
  · obtain ⟨b1, b2, b3⟩ := hy rfl
    clear hy
    have rT : w1.rangeAt (w.heap.size + 1) 0 [.slice B1 t.1.length e1, .slice B2 t.2.1.length e2, .slice B3 t.2.2.1.length e3, .int .i64 t.2.2.2.1.kind, .int .i64 t.2.2.2.1.at_, .int .i64 t.2.2.2.1.lo, .int .i64 t.2.2.2.1.hi, .int .i64 t.2.2.2.1.most, .slice X1 t.2.2.2.1.names.length X3, .slice Y1 t.2.2.2.2.len Y3, .string t.2.2.2.1.name, .int .i64 t.2.2.2.1.nat] := fun j v e => by rw [Nat.zero_add, Lib.cell_of_heap hB]; simpa using e
    have cG := Lib.hid fun R hR => refgreat_calls t gt (.slice B1 t.1.length e1) (.slice B2 t.2.1.length e2) (.slice B3 t.2.2.1.length e3) (.slice X1 t.2.2.2.1.names.length X3) (.slice Y1 t.2.2.2.2.len Y3) w1 rt.out R hR
    go_wp2_with (refine wpList_load_g (by rfl) 32 _ rfl (w.heap.size + 1) 0 rfl [.slice B1 t.1.length e1, .slice B2 t.2.1.length e2, .slice B3 t.2.2.1.length e3, .int .i64 t.2.2.2.1.kind, .int .i64 t.2.2.2.1.at_, .int .i64 t.2.2.2.1.lo, .int .i64 t.2.2.2.1.hi, .int .i64 t.2.2.2.1.most, .slice X1 t.2.2.2.1.names.length X3, .slice Y1 t.2.2.2.2.len Y3, .string t.2.2.2.1.name, .int .i64 t.2.2.2.1.nat] _ rT Tryz.underlying32 rfl (by kernel_rfl) ?_; go_simp)
    refine cG.out _ (Lib.hid fun w2 y m1 hy => ?_)
    replace hA := (m1.block _ (blt hA)).trans hA
    replace hB := (m1.block _ (blt hB)).trans hB
    replace rd := Lib.hid (rd.out.below m1)
    replace rt := Lib.hid (rt.out.below m1)
    replace n := n.trans (m1.mono n.size)
    clear cG rT m1
    cases y
    · clear hy
      have hs1 := strip_same s
      have hs2 := place_strip_sc s
      have hs3 := same_strip s
      have gu := Lib.hid (good_stS gs ls)
      have cS := Lib.hid fun R hR => cstrip2_calls s gs ls b1 b2 b3 (.slice A1 s.1.length c1) (.slice A2 s.2.1.length c2) (.slice A3 s.2.2.1.length c3) (.slice N1 s.2.2.2.1.names.length N3) (.slice M1 s.2.2.2.2.len M3) w2 rd.out R hR
      clear b1 b2 b3 ls
      generalize stS s = u at *
      have rS : w2.rangeAt w.heap.size 0 [.slice A1 s.1.length c1, .slice A2 s.2.1.length c2, .slice A3 s.2.2.1.length c3, .int .i64 s.2.2.2.1.kind, .int .i64 s.2.2.2.1.at_, .int .i64 s.2.2.2.1.lo, .int .i64 s.2.2.2.1.hi, .int .i64 s.2.2.2.1.most, .slice N1 s.2.2.2.1.names.length N3, .slice M1 s.2.2.2.2.len M3, .string s.2.2.2.1.name, .int .i64 s.2.2.2.1.nat] := fun j v e => by rw [Nat.zero_add, Lib.cell_of_heap hA]; simpa using e
      go_wp2_with (refine wpList_load_g (by rfl) 32 _ rfl w.heap.size 0 rfl [.slice A1 s.1.length c1, .slice A2 s.2.1.length c2, .slice A3 s.2.2.1.length c3, .int .i64 s.2.2.2.1.kind, .int .i64 s.2.2.2.1.at_, .int .i64 s.2.2.2.1.lo, .int .i64 s.2.2.2.1.hi, .int .i64 s.2.2.2.1.most, .slice N1 s.2.2.2.1.names.length N3, .slice M1 s.2.2.2.2.len M3, .string s.2.2.2.1.name, .int .i64 s.2.2.2.1.nat] _ rS Tryz.underlying32 rfl (by kernel_rfl) ?_; go_simp)
      refine cS.out _ (Lib.hid fun lv2 ov2 tv2 nv2 pv2 w3 ru m1 => ?_)
      replace hA := (m1.block _ (blt hA)).trans hA
      replace hB := (m1.block _ (blt hB)).trans hB
      replace rd := Lib.hid (rd.out.below m1)
      replace rt := Lib.hid (rt.out.below m1)
      replace n := n.trans (m1.mono n.size)
      obtain ⟨D1, f1, rfl, -, -⟩ := ru.l.op
      obtain ⟨D2, f2, rfl, -, -⟩ := RdPr.op ru.o
      obtain ⟨D3, f3, rfl, -, -⟩ := ru.t.op
      obtain ⟨Z1, Z3, rfl, -, -⟩ := ru.r.n.op
      obtain ⟨G1, G3, rfl, -⟩ := ru.r.p.sl
      clear cS rS m1
      have hU := heap_alloc_new w3 (.cells #[.slice D1 u.1.length f1, .slice D2 u.2.1.length f2, .slice D3 u.2.2.1.length f3, .int .i64 u.2.2.2.1.kind, .int .i64 u.2.2.2.1.at_, .int .i64 u.2.2.2.1.lo, .int .i64 u.2.2.2.1.hi, .int .i64 u.2.2.2.1.most, .slice Z1 u.2.2.2.1.names.length Z3, .slice G1 u.2.2.2.2.len G3, .string u.2.2.2.1.name, .int .i64 u.2.2.2.1.nat] 32)
      have aU := alB w3 (.cells #[.slice D1 u.1.length f1, .slice D2 u.2.1.length f2, .slice D3 u.2.2.1.length f3, .int .i64 u.2.2.2.1.kind, .int .i64 u.2.2.2.1.at_, .int .i64 u.2.2.2.1.lo, .int .i64 u.2.2.2.1.hi, .int .i64 u.2.2.2.1.most, .slice Z1 u.2.2.2.1.names.length Z3, .slice G1 u.2.2.2.2.len G3, .string u.2.2.2.1.name, .int .i64 u.2.2.2.1.nat] 32)
      replace hA := (aU.block _ (blt hA)).trans hA
      replace hB := (aU.block _ (blt hB)).trans hB
      replace rd := Lib.hid (rd.out.below aU)
      replace rt := Lib.hid (rt.out.below aU)
      replace ru := Lib.hid (ru.below aU)
      replace n := n.trans (aU.mono n.size)
      go_upto_region 4 with (refine wpList_copy #[.slice D1 u.1.length f1, .slice D2 u.2.1.length f2, .slice D3 u.2.2.1.length f3, .int .i64 u.2.2.2.1.kind, .int .i64 u.2.2.2.1.at_, .int .i64 u.2.2.2.1.lo, .int .i64 u.2.2.2.1.hi, .int .i64 u.2.2.2.1.most, .slice Z1 u.2.2.2.1.names.length Z3, .slice G1 u.2.2.2.2.len G3, .string u.2.2.2.1.name, .int .i64 u.2.2.2.1.nat] ⟨rfl, rfl, rfl⟩ ⟨rfl, rfl, rfl⟩ schema_alloc (by kernel_rfl) ⟨rfl, by simp [Value.oneCell']⟩ (fun _ => ⟨rfl, rfl⟩) ?_; go_simp)
      have lU : w3.heap.size < (w3.alloc (.cells #[.slice D1 u.1.length f1, .slice D2 u.2.1.length f2, .slice D3 u.2.2.1.length f3, .int .i64 u.2.2.2.1.kind, .int .i64 u.2.2.2.1.at_, .int .i64 u.2.2.2.1.lo, .int .i64 u.2.2.2.1.hi, .int .i64 u.2.2.2.1.most, .slice Z1 u.2.2.2.1.names.length Z3, .slice G1 u.2.2.2.2.len G3, .string u.2.2.2.1.name, .int .i64 u.2.2.2.1.nat] 32)).heap.size := by rw [alz]; omega
      generalize w3.alloc (.cells #[.slice D1 u.1.length f1, .slice D2 u.2.1.length f2, .slice D3 u.2.2.1.length f3, .int .i64 u.2.2.2.1.kind, .int .i64 u.2.2.2.1.at_, .int .i64 u.2.2.2.1.lo, .int .i64 u.2.2.2.1.hi, .int .i64 u.2.2.2.1.most, .slice Z1 u.2.2.2.1.names.length Z3, .slice G1 u.2.2.2.2.len G3, .string u.2.2.2.1.name, .int .i64 u.2.2.2.1.nat] 32) = W at *
      generalize w3.heap.size = Q at *
      have lA := blt hA
      have lB := blt hB
      clear aU
      have jS : ∀ x : BW W, x.w.rangeAt w.heap.size 0 [.slice A1 s.1.length c1, .slice A2 s.2.1.length c2, .slice A3 s.2.2.1.length c3, .int .i64 s.2.2.2.1.kind, .int .i64 s.2.2.2.1.at_, .int .i64 s.2.2.2.1.lo, .int .i64 s.2.2.2.1.hi, .int .i64 s.2.2.2.1.most, .slice N1 s.2.2.2.1.names.length N3, .slice M1 s.2.2.2.2.len M3, .string s.2.2.2.1.name, .int .i64 s.2.2.2.1.nat] := fun x j v e => x.cell lA (by rw [Nat.zero_add, Lib.cell_of_heap hA]; simpa using e)
      have jT : ∀ x : BW W, x.w.rangeAt (w.heap.size + 1) 0 [.slice B1 t.1.length e1, .slice B2 t.2.1.length e2, .slice B3 t.2.2.1.length e3, .int .i64 t.2.2.2.1.kind, .int .i64 t.2.2.2.1.at_, .int .i64 t.2.2.2.1.lo, .int .i64 t.2.2.2.1.hi, .int .i64 t.2.2.2.1.most, .slice X1 t.2.2.2.1.names.length X3, .slice Y1 t.2.2.2.2.len Y3, .string t.2.2.2.1.name, .int .i64 t.2.2.2.1.nat] := fun x j v e => x.cell lB (by rw [Nat.zero_add, Lib.cell_of_heap hB]; simpa using e)
      have jU : ∀ x : BW W, x.w.rangeAt Q 0 [.slice D1 u.1.length f1, .slice D2 u.2.1.length f2, .slice D3 u.2.2.1.length f3, .int .i64 u.2.2.2.1.kind, .int .i64 u.2.2.2.1.at_, .int .i64 u.2.2.2.1.lo, .int .i64 u.2.2.2.1.hi, .int .i64 u.2.2.2.1.most, .slice Z1 u.2.2.2.1.names.length Z3, .slice G1 u.2.2.2.2.len G3, .string u.2.2.2.1.name, .int .i64 u.2.2.2.1.nat] := fun x j v e => x.cell lU (by rw [Nat.zero_add, Lib.cell_of_heap hU]; simpa using e)
      have cA := fun x : BW W => refsame_calls u s gu.out gs (.slice D1 u.1.length f1) (.slice D2 u.2.1.length f2) (.slice D3 u.2.2.1.length f3) (.slice Z1 u.2.2.2.1.names.length Z3) (.slice G1 u.2.2.2.2.len G3) (.slice A1 s.1.length c1) (.slice A2 s.2.1.length c2) (.slice A3 s.2.2.1.length c3) (.slice N1 s.2.2.2.1.names.length N3) (.slice M1 s.2.2.2.2.len M3) x.w (ru.out.below x.b) (rd.out.below x.b) (fun e w' => e = .returned (.bool (sameSc u s)) ∧ Below x.w.heap.size x.w w') (Lib.hid fun _ n => ⟨rfl, n⟩)
      have cB := fun x : BW W => refplace_calls u gu.out (.slice D1 u.1.length f1) (.slice D2 u.2.1.length f2) (.slice D3 u.2.2.1.length f3) (.slice Z1 u.2.2.2.1.names.length Z3) (.slice G1 u.2.2.2.2.len G3) x.w (ru.out.below x.b) (fun e w' => e = .returned (.bool (placeSc u)) ∧ Below x.w.heap.size x.w w') (Lib.hid fun _ n => ⟨rfl, n⟩)
      have cC := Lib.hid fun x : BW W => csame_calls s t gs (.slice A1 s.1.length c1) (.slice A2 s.2.1.length c2) (.slice A3 s.2.2.1.length c3) (.slice N1 s.2.2.2.1.names.length N3) (.slice M1 s.2.2.2.2.len M3) (.slice B1 t.1.length e1) (.slice B2 t.2.1.length e2) (.slice B3 t.2.2.1.length e3) (.slice X1 t.2.2.2.1.names.length X3) (.slice Y1 t.2.2.2.2.len Y3) x.w (rd.out.below x.b) (rt.out.below x.b) (fun e w' => e = .returned (.bool (sameSc s t)) ∧ Below x.w.heap.size x.w w') (Lib.hid fun _ n => ⟨rfl, n⟩)
      have cD := Lib.hid fun x : BW W => refsame_calls s t gs gt (.slice A1 s.1.length c1) (.slice A2 s.2.1.length c2) (.slice A3 s.2.2.1.length c3) (.slice N1 s.2.2.2.1.names.length N3) (.slice M1 s.2.2.2.2.len M3) (.slice B1 t.1.length e1) (.slice B2 t.2.1.length e2) (.slice B3 t.2.2.1.length e3) (.slice X1 t.2.2.2.1.names.length X3) (.slice Y1 t.2.2.2.2.len Y3) x.w (rd.out.below x.b) (rt.out.below x.b) (fun e w' => e = .returned (.bool (sameSc s t)) ∧ Below x.w.heap.size x.w w') (Lib.hid fun _ n => ⟨rfl, n⟩)
      have cE := fun x : BW W => csame_calls s u gs (.slice A1 s.1.length c1) (.slice A2 s.2.1.length c2) (.slice A3 s.2.2.1.length c3) (.slice N1 s.2.2.2.1.names.length N3) (.slice M1 s.2.2.2.2.len M3) (.slice D1 u.1.length f1) (.slice D2 u.2.1.length f2) (.slice D3 u.2.2.1.length f3) (.slice Z1 u.2.2.2.1.names.length Z3) (.slice G1 u.2.2.2.2.len G3) x.w (rd.out.below x.b) (ru.out.below x.b) (fun e w' => e = .returned (.bool (sameSc s u)) ∧ Below x.w.heap.size x.w w') (Lib.hid fun _ n => ⟨rfl, n⟩)
      have cL := Lib.hid fun x : BW W => lives17_calls x.w (fun e w' => e = .returned (.bool true) ∧ Below x.w.heap.size x.w w') (Lib.hid fun _ n => ⟨rfl, n⟩)
      simp only [hs1] at cA
      simp only [hs2] at cB
      simp only [hs3] at cE
      replace cA := Lib.hid cA
      replace cB := Lib.hid cB
      replace cE := Lib.hid cE
      generalize sameSc s t = S4 at *
      clear rd rt ru hA hB hU hs1 hs2 hs3 gu gs gt lA lB lU
      refine wp_region_below_lit (by kernel_rfl) (by kernel_rfl) ?_
      refine wpQuiet_k fun Kp hKp => ?_
      repeat (first | (refine wpQuiet_loadg (by rfl) 32 _ rfl w.heap.size 0 rfl [.slice A1 s.1.length c1, .slice A2 s.2.1.length c2, .slice A3 s.2.2.1.length c3, .int .i64 s.2.2.2.1.kind, .int .i64 s.2.2.2.1.at_, .int .i64 s.2.2.2.1.lo, .int .i64 s.2.2.2.1.hi, .int .i64 s.2.2.2.1.most, .slice N1 s.2.2.2.1.names.length N3, .slice M1 s.2.2.2.2.len M3, .string s.2.2.2.1.name, .int .i64 s.2.2.2.1.nat] _ (fun _ ⟨x, e⟩ => by subst e; exact jS x) Tryz.underlying32 rfl (by kernel_rfl) ?_; go_simp) | (refine wpQuiet_loadg (by rfl) 32 _ rfl (w.heap.size + 1) 0 rfl [.slice B1 t.1.length e1, .slice B2 t.2.1.length e2, .slice B3 t.2.2.1.length e3, .int .i64 t.2.2.2.1.kind, .int .i64 t.2.2.2.1.at_, .int .i64 t.2.2.2.1.lo, .int .i64 t.2.2.2.1.hi, .int .i64 t.2.2.2.1.most, .slice X1 t.2.2.2.1.names.length X3, .slice Y1 t.2.2.2.2.len Y3, .string t.2.2.2.1.name, .int .i64 t.2.2.2.1.nat] _ (fun _ ⟨x, e⟩ => by subst e; exact jT x) Tryz.underlying32 rfl (by kernel_rfl) ?_; go_simp) | (refine wpQuiet_loadg (by rfl) 32 _ rfl Q 0 rfl [.slice D1 u.1.length f1, .slice D2 u.2.1.length f2, .slice D3 u.2.2.1.length f3, .int .i64 u.2.2.2.1.kind, .int .i64 u.2.2.2.1.at_, .int .i64 u.2.2.2.1.lo, .int .i64 u.2.2.2.1.hi, .int .i64 u.2.2.2.1.most, .slice Z1 u.2.2.2.1.names.length Z3, .slice G1 u.2.2.2.2.len G3, .string u.2.2.2.1.name, .int .i64 u.2.2.2.1.nat] _ (fun _ ⟨x, e⟩ => by subst e; exact jU x) Tryz.underlying32 rfl (by kernel_rfl) ?_; go_simp) | (go_big_quiet_step ((first | (with_reducible exact calls_below (cA.out _)) | (with_reducible exact calls_below (cB.out _)) | (with_reducible exact calls_below (cC.out _)) | (with_reducible exact calls_below (cD.out _)) | (with_reducible exact calls_below (cE.out _)) | (with_reducible exact calls_below (cL.out _))))))
      refine wpQuiet_nil ?_
      refine hKp _ ?_
      clear hKp
      rintro _ ⟨y, rfl⟩
      have ny := Lib.hid y.b
      generalize y.w = wy at *
      have fin := Lib.hid (hR.out.out _ (n.trans (ny.out.mono n.size)))
      clear hR cA cB cC cD cE cL
      go_wp2_with fail
      exact fin.out
    · clear hA hB rd rt hy
      go_wp2_with fail
      refine lives17_calls _ _ (Lib.hid fun w9 m9 => ?_)
      have fin := Lib.hid (hR.out.out _ (n.trans (m9.mono n.size)))
      clear hR m9
      go_wp2_with fail
      exact fin.out
  · clear hA hB rd rt hy
    go_wp2_with fail
    refine lives17_calls _ _ (Lib.hid fun w9 m9 => ?_)
    have fin := Lib.hid (hR.out.out _ (n.trans (m9.mono n.size)))
    clear hR m9
    go_wp2_with fail
    exact fin.out
end Go.Proofs.YtbochlbgjnmgjaaGreat.Unp
