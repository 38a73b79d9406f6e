import Derived.Test.YtbochlbgjnmgjaaGreatZUnfD
/- Layer 17: the reference's Right. -/
set_option maxRecDepth 100000
set_option linter.unusedVariables false
namespace Go.Proofs.YtbochlbgjnmgjaaGreat.Unp
open Go.RowKit Go.Lib Go.Proofs.YtbochlbgjnmgjaaGreat.Nam Go.Proofs.YtbochlbgjnmgjaaGreat.Lat Go.Proofs.YtbochlbgjnmgjaaGreat.Kin Go.Proofs.YtbochlbgjnmgjaaGreat.Dig

set_option maxRecDepth 100000 in
set_option maxHeartbeats 4000000 in
theorem refsrightA_calls (s : Sc) (h0 : 0 < s.1.length)  (gs : GoodS s) (lv ov tv nv pv : Value) (w : World) (rd : RdSc w s lv ov tv nv pv) (R : Ending → World → Prop)
    (hR : Hid (∀ w', Below w.heap.size w w' → R (.returned (.bool (okS s))) w')) : Calls Tryz.prog 19 #[scV s lv ov tv nv pv] w R := by
  have hl1 : s.1.length ≤ 9223372036854775807 := gs.ll
  have hl2 : s.2.1.length ≤ 9223372036854775807 := gs.ol
  have hl3 : s.2.2.1.length ≤ 9223372036854775807 := gs.tl
  have hq : okS s = (decide (0 < s.1.length) && fineB s.2.2.2.1 s.2.2.2.2 && s.1.all goodW && s.2.1.all goodP && s.2.2.1.all goodN) := by
    unfold okS
    cases decide (0 < s.1.length) <;> cases fineB s.2.2.2.1 s.2.2.2.2 <;> cases s.1.all goodW <;> cases s.2.1.all goodP <;> cases s.2.2.1.all goodN <;> rfl
  rw [hq] at hR
  clear hq
  replace hR := Lib.hid hR
  obtain ⟨A1, c1, rfl, -, -⟩ := rd.l.op
  obtain ⟨A2, c2, rfl, -, -⟩ := RdPr.op rd.o
  obtain ⟨A3, c3, rfl, -, -⟩ := rd.t.op
  obtain ⟨N1, N3, rfl, -, -⟩ := rd.r.n.op
  obtain ⟨M1, M3, rfl, -⟩ := rd.r.p.sl
  have hA := heap_alloc_new w (.cells #[.slice A1 s.1.length c1, .slice A2 s.2.1.length c2, .slice A3 s.2.2.1.length c3, .int .i64 s.2.2.2.1.kind, .int .i64 s.2.2.2.1.at_, .int .i64 s.2.2.2.1.lo, .int .i64 s.2.2.2.1.hi, .int .i64 s.2.2.2.1.most, .slice N1 s.2.2.2.1.names.length N3, .slice M1 s.2.2.2.2.len M3, .string s.2.2.2.1.name, .int .i64 s.2.2.2.1.nat] 32)
  have n := (Below.refl w.heap.size w).alloc (Nat.le_refl _) (.cells #[.slice A1 s.1.length c1, .slice A2 s.2.1.length c2, .slice A3 s.2.2.1.length c3, .int .i64 s.2.2.2.1.kind, .int .i64 s.2.2.2.1.at_, .int .i64 s.2.2.2.1.lo, .int .i64 s.2.2.2.1.hi, .int .i64 s.2.2.2.1.most, .slice N1 s.2.2.2.1.names.length N3, .slice M1 s.2.2.2.2.len M3, .string s.2.2.2.1.name, .int .i64 s.2.2.2.1.nat] 32)
  replace rd := rd.below n
  go_enter Tryz.func19, Tryz.ntmps19
  go_upto_region 1 with fail
  generalize w.alloc (.cells #[.slice A1 s.1.length c1, .slice A2 s.2.1.length c2, .slice A3 s.2.2.1.length c3, .int .i64 s.2.2.2.1.kind, .int .i64 s.2.2.2.1.at_, .int .i64 s.2.2.2.1.lo, .int .i64 s.2.2.2.1.hi, .int .i64 s.2.2.2.1.most, .slice N1 s.2.2.2.1.names.length N3, .slice M1 s.2.2.2.2.len M3, .string s.2.2.2.1.name, .int .i64 s.2.2.2.1.nat] 32) = V at *
  generalize w.heap.size = P at hA ⊢
  replace rd := Lib.hid rd
  have hlA := blt hA
  have cF := Lib.hid fun R hR => reffine_calls s.2.2.2.2 s.2.2.2.1 (.slice N1 s.2.2.2.1.names.length N3) (.slice M1 s.2.2.2.2.len M3) V gs.h gs.gl gs.g rd.out.r R hR
  obtain ⟨A1', c1', e1s, -, hr1⟩ := rd.out.l.op
  simp only [Value.slice.injEq] at e1s
  obtain ⟨rfl, -, rfl⟩ := e1s
  obtain ⟨A2', c2', e2s, -, hr2⟩ := RdPr.op rd.out.o
  simp only [Value.slice.injEq] at e2s
  obtain ⟨rfl, -, rfl⟩ := e2s
  obtain ⟨A3', c3', e3s, -, hr3⟩ := rd.out.t.op
  simp only [Value.slice.injEq] at e3s
  obtain ⟨rfl, -, rfl⟩ := e3s
  replace hr1 := Lib.hid hr1
  replace hr2 := Lib.hid hr2
  replace hr3 := Lib.hid hr3
  generalize fineB s.2.2.2.1 s.2.2.2.2 = yf at *
  have hAV := Lib.hid hA
  have i00 : (0 : Int) < (s.1.length : Int) := by omega
  rw [decide_eq_true h0, Bool.true_and] at hR
  have rT : V.rangeAt P 3 [.int .i64 s.2.2.2.1.kind, .int .i64 s.2.2.2.1.at_, .int .i64 s.2.2.2.1.lo, .int .i64 s.2.2.2.1.hi, .int .i64 s.2.2.2.1.most, .slice N1 s.2.2.2.1.names.length N3, .slice M1 s.2.2.2.2.len M3, .string s.2.2.2.1.name, .int .i64 s.2.2.2.1.nat] := fun j v h => by rw [Lib.cell_of_heap hA, List.getElem?_toArray, ← List.getElem?_drop]; exact h
  have a0 := (Lib.cell_of_heap hA 0).trans rfl
  go_wp2_with (refine wpList_load_g (by rfl) 30 _ rfl P 3 rfl [.int .i64 s.2.2.2.1.kind, .int .i64 s.2.2.2.1.at_, .int .i64 s.2.2.2.1.lo, .int .i64 s.2.2.2.1.hi, .int .i64 s.2.2.2.1.most, .slice N1 s.2.2.2.1.names.length N3, .slice M1 s.2.2.2.2.len M3, .string s.2.2.2.1.name, .int .i64 s.2.2.2.1.nat] _ rT Tryz.underlying30 rfl (by kernel_rfl) ?_; go_simp)
  refine cF.out _ (Lib.hid fun w1 m1 => ?_)
  replace hA := (m1.block _ hlA).trans hA
  have nV := m1
  clear cF rT m1 a0 h0 i00
  have a0 := (Lib.cell_of_heap hA 0).trans rfl
  go_upto_region 3 with fail
  clear a0
  replace hA := Lib.hid hA
  go_loopg [3, 4] s.1.length (fun g0 s3 i wr => ∃ (J : Nat) (y : Bool), s3 = .bool y ∧ i = .int .i64 J ∧ J + g0 = s.1.length ∧ Hid ((yf && s.1.all goodW) = (y && (s.1.drop J).all goodW)) ∧ Hid (Below V.heap.size V wr))
  case atStart => exact ⟨0, yf, rfl, rfl, by omega, Lib.hid rfl, Lib.hid nV⟩
  case round =>
    clear nV hA
    obtain ⟨J, y, rfl, rfl, c1, hc, nb⟩ := hrel
    replace nb := nb.out
    have hA := (nb.block _ hlA).trans hAV.out
    by_cases hJ : J < s.1.length
    · have i0 : (0 : Int) ≤ (J : Int) := by omega
      have i1 : (J : Int) < (s.1.length : Int) := by omega
      have hd := List.drop_eq_getElem_cons hJ
      cases y
      · have hc2 := Lib.hid (show (yf && s.1.all goodW) = (false && (s.1.drop (J + 1)).all goodW) by rw [hc.out]; rfl)
        have nb2 := Lib.hid nb
        clear hd hc nb
        have a0 := (Lib.cell_of_heap hA 0).trans rfl
        go_wp2_with fail
        go_roundg (gk - 1)
        case measure => omega
        case rel => exact ⟨J + 1, false, rfl, by go_num, by omega, hc2, nb2⟩
      · obtain ⟨g, o, rfl, hg, hca⟩ := hr1.out (by omega)
        have ca := (nb.cell (p := ⟨g, o + J * 2, none⟩) hg).trans (hca J hJ).1
        have gn := (gs.l _ (mem_wN hJ)).1
        rw [← wN_get hJ] at hd
        generalize wN s.1 J = nn at *
        have hc2 := Lib.hid (show (yf && s.1.all goodW) = (goodW nn && (s.1.drop (J + 1)).all goodW) by rw [hc.out, hd]; simp)
        have cG := Lib.hid fun R hR => refright_calls nn.1 gn wr R hR
        have hgw : goodW nn = rightS nn.1 := rfl
        rw [← hgw] at cG
        have nb2 := Lib.hid nb
        clear hd hc nb hca hgw
        generalize goodW nn = y2 at *
        have a0 := (Lib.cell_of_heap hA 0).trans rfl
        go_wp2_with fail
        refine cG.out _ (Lib.hid ?_)
        clear ca cG
        go_wp2_with fail
        go_roundg (gk - 1)
        case measure => omega
        case rel => exact ⟨J + 1, y2, rfl, by go_num, by omega, hc2, nb2⟩
    · obtain rfl : J = s.1.length := by omega
      have hc' := hc.out
      rw [List.drop_length, List.all_nil, Bool.and_true] at hc'
      rw [hc'] at hR
      clear hc hc' hr1
      have nV := nb
      have a0 := (Lib.cell_of_heap hA 0).trans rfl
      go_upto_region 7 with fail
      clear a0
      replace hA := Lib.hid hA
      go_loopg [3, 5] s.2.1.length (fun g0 s3 i wr => ∃ (J : Nat) (z : Bool), s3 = .bool z ∧ i = .int .i64 J ∧ J + g0 = s.2.1.length ∧ Hid ((y && s.2.1.all goodP) = (z && (s.2.1.drop J).all goodP)) ∧ Hid (Below V.heap.size V wr))
      case atStart => exact ⟨0, y, rfl, rfl, by omega, Lib.hid rfl, Lib.hid nV⟩
      case round =>
        clear nV hA nb
        obtain ⟨J, z, rfl, rfl, c2, hc, nb⟩ := hrel
        replace nb := nb.out
        have hA := (nb.block _ hlA).trans hAV.out
        by_cases hJ : J < s.2.1.length
        · have i0 : (0 : Int) ≤ (J : Int) := by omega
          have i1 : (J : Int) < (s.2.1.length : Int) := by omega
          have hd := List.drop_eq_getElem_cons hJ
          cases z
          · have hc2 := Lib.hid (show (y && s.2.1.all goodP) = (false && (s.2.1.drop (J + 1)).all goodP) by rw [hc.out]; rfl)
            have nb2 := Lib.hid nb
            clear hd hc nb
            have a1 := (Lib.cell_of_heap hA 1).trans rfl
            go_wp2_with fail
            go_roundg (gk - 1)
            case measure => omega
            case rel => exact ⟨J + 1, false, rfl, by go_num, by omega, hc2, nb2⟩
          · obtain ⟨g, o, rfl, hg, hca⟩ := hr2.out (by omega)
            have ca := (nb.cell (p := ⟨g, o + J * 4, none⟩) hg).trans (hca J hJ).1
            have cb := (nb.cell (p := ⟨g, o + J * 4 + 2, none⟩) hg).trans (hca J hJ).2.2.1
            have gn := gs.o _ (mem_pN hJ)
            rw [← pN_get hJ] at hd
            generalize pN s.2.1 J = nn at *
            have hc2 := Lib.hid (show (y && s.2.1.all goodP) = ((rightS nn.1.1 && rightS nn.2.1) && (s.2.1.drop (J + 1)).all goodP) by rw [hc.out, hd]; simp [goodP])
            have cG := Lib.hid fun R hR => refright_calls nn.1.1 gn.1.1 wr R hR
            have cH := Lib.hid fun R hR => refright_calls nn.2.1 gn.2.1 wr R hR
            have nb2 := Lib.hid nb
            clear hd hc nb hca
            generalize rightS nn.1.1 = y2 at *
            generalize rightS nn.2.1 = y3 at *
            have a1 := (Lib.cell_of_heap hA 1).trans rfl
            go_wp2_with fail
            refine cG.out _ (Lib.hid ?_)
            cases y2
            · clear cH cG
              go_wp2_with fail
              go_roundg (gk - 1)
              case measure => omega
              case rel => exact ⟨J + 1, false, rfl, by go_num, by omega, hc2, nb2⟩
            · go_wp2_with fail
              refine cH.out _ (Lib.hid ?_)
              rw [Bool.true_and] at hc2
              clear cH cG ca cb
              go_wp2_with fail
              go_roundg (gk - 1)
              case measure => omega
              case rel => exact ⟨J + 1, y3, rfl, by go_num, by omega, hc2, nb2⟩
        · obtain rfl : J = s.2.1.length := by omega
          have hc' := hc.out
          rw [List.drop_length, List.all_nil, Bool.and_true] at hc'
          rw [hc'] at hR
          clear hc hc' hr2
          have nV := nb
          have a1 := (Lib.cell_of_heap hA 1).trans rfl
          go_upto_region 11 with fail
          clear a1
          replace hA := Lib.hid hA
          go_loopg [3, 6] s.2.2.1.length (fun g0 s3 i wr => ∃ (J : Nat) (x : Bool), s3 = .bool x ∧ i = .int .i64 J ∧ J + g0 = s.2.2.1.length ∧ Hid ((z && s.2.2.1.all goodN) = (x && (s.2.2.1.drop J).all goodN)) ∧ Hid (Below V.heap.size V wr))
          case atStart => exact ⟨0, z, rfl, rfl, by omega, Lib.hid rfl, Lib.hid nV⟩
          case round =>
            clear nV hA nb
            obtain ⟨J, x, rfl, rfl, c3, hc, nb⟩ := hrel
            replace nb := nb.out
            have hA := (nb.block _ hlA).trans hAV.out
            by_cases hJ : J < s.2.2.1.length
            · have i0 : (0 : Int) ≤ (J : Int) := by omega
              have i1 : (J : Int) < (s.2.2.1.length : Int) := by omega
              have hd := List.drop_eq_getElem_cons hJ
              cases x
              · have hc2 := Lib.hid (show (z && s.2.2.1.all goodN) = (false && (s.2.2.1.drop (J + 1)).all goodN) by rw [hc.out]; rfl)
                have nb2 := Lib.hid nb
                clear hd hc nb
                have a2 := (Lib.cell_of_heap hA 2).trans rfl
                go_wp2_with fail
                go_roundg (gk - 1)
                case measure => omega
                case rel => exact ⟨J + 1, false, rfl, by go_num, by omega, hc2, nb2⟩
              · obtain ⟨g, o, rfl, hg, hca⟩ := hr3.out (by omega)
                obtain ⟨nx, px, ry, hcl⟩ := hca J hJ
                obtain ⟨N1', N3', rfl, -, -⟩ := ry.n.op
                obtain ⟨M1', M3', rfl, -⟩ := ry.p.sl
                have gn := gs.t _ (mem_nN hJ)
                rw [← nN_get hJ] at hd
                generalize nN s.2.2.1 J = n' at *
                have ca := (nb.cell (p := ⟨g, o + J * 11, none⟩) hg).trans (hcl 0 _ rfl)
                have rT : wr.rangeAt g (o + J * 11 + 2) [.int .i64 n'.2.1.kind, .int .i64 n'.2.1.at_, .int .i64 n'.2.1.lo, .int .i64 n'.2.1.hi, .int .i64 n'.2.1.most, .slice N1' n'.2.1.names.length N3', .slice M1' n'.2.2.len M3', .string n'.2.1.name, .int .i64 n'.2.1.nat] := fun j v q => (nb.cell (p := ⟨g, o + J * 11 + 2 + j, none⟩) hg).trans (by rw [Nat.add_assoc]; exact hcl (2 + j) v (by rw [← List.getElem?_drop]; exact q))
                have hc2 := Lib.hid (show (z && s.2.2.1.all goodN) = ((rightS n'.1.1 && fineB n'.2.1 n'.2.2) && (s.2.2.1.drop (J + 1)).all goodN) by rw [hc.out, hd]; simp [goodN])
                have cG := Lib.hid fun R hR => refright_calls n'.1.1 gn.1.1 wr R hR
                have cH := Lib.hid fun R hR => reffine_calls n'.2.2 n'.2.1 (.slice N1' n'.2.1.names.length N3') (.slice M1' n'.2.2.len M3') wr gn.2.1 gn.2.2.2 gn.2.2.1 (ry.below nb) R hR
                clear hd hc hca hcl ry
                generalize rightS n'.1.1 = y2 at *
                generalize fineB n'.2.1 n'.2.2 = y3 at *
                have a2 := (Lib.cell_of_heap hA 2).trans rfl
                go_wp2_with fail
                refine cG.out _ (Lib.hid ?_)
                cases y2
                · have nb2 := Lib.hid nb
                  clear cH cG nb rT
                  go_wp2_with fail
                  go_roundg (gk - 1)
                  case measure => omega
                  case rel => exact ⟨J + 1, false, rfl, by go_num, by omega, hc2, nb2⟩
                · go_wp2_with (refine wpList_load_g (by rfl) 30 _ rfl g (o + J * 11 + 2) rfl [.int .i64 n'.2.1.kind, .int .i64 n'.2.1.at_, .int .i64 n'.2.1.lo, .int .i64 n'.2.1.hi, .int .i64 n'.2.1.most, .slice N1' n'.2.1.names.length N3', .slice M1' n'.2.2.len M3', .string n'.2.1.name, .int .i64 n'.2.1.nat] _ rT Tryz.underlying30 rfl (by kernel_rfl) ?_; go_simp)
                  refine cH.out _ (Lib.hid fun w5 m5 => ?_)
                  have nb2 := Lib.hid (nb.trans (m5.mono nb.size))
                  rw [Bool.true_and] at hc2
                  clear cH cG ca rT m5 nb a2
                  go_wp2_with fail
                  go_roundg (gk - 1)
                  case measure => omega
                  case rel => exact ⟨J + 1, y3, rfl, by go_num, by omega, hc2, nb2⟩
            · obtain rfl : J = s.2.2.1.length := by omega
              have hc' := hc.out
              rw [List.drop_length, List.all_nil, Bool.and_true] at hc'
              rw [hc'] at hR
              have fin := Lib.hid (hR.out.out _ (n.trans (nb.mono n.size)))
              clear hc hc' hR
              have a2 := (Lib.cell_of_heap hA 2).trans rfl
              go_wp2_with fail
              exact fin.out
end Go.Proofs.YtbochlbgjnmgjaaGreat.Unp

/- Layer 17: the reference's Right. -/
set_option maxRecDepth 100000
set_option linter.unusedVariables false
namespace Go.Proofs.YtbochlbgjnmgjaaGreat.Unp
open Go.RowKit Go.Lib Go.Proofs.YtbochlbgjnmgjaaGreat.Nam Go.Proofs.YtbochlbgjnmgjaaGreat.Lat Go.Proofs.YtbochlbgjnmgjaaGreat.Kin Go.Proofs.YtbochlbgjnmgjaaGreat.Dig

set_option maxRecDepth 100000 in
set_option maxHeartbeats 4000000 in
theorem refsrightB_calls (s : Sc) (h0 : ¬ 0 < s.1.length)  (gs : GoodS s) (lv ov tv nv pv : Value) (w : World) (rd : RdSc w s lv ov tv nv pv) (R : Ending → World → Prop)
    (hR : Hid (∀ w', Below w.heap.size w w' → R (.returned (.bool (okS s))) w')) : Calls Tryz.prog 19 #[scV s lv ov tv nv pv] w R := by
  have hl1 : s.1.length ≤ 9223372036854775807 := gs.ll
  have hl2 : s.2.1.length ≤ 9223372036854775807 := gs.ol
  have hl3 : s.2.2.1.length ≤ 9223372036854775807 := gs.tl
  have hq : okS s = (decide (0 < s.1.length) && fineB s.2.2.2.1 s.2.2.2.2 && s.1.all goodW && s.2.1.all goodP && s.2.2.1.all goodN) := by
    unfold okS
    cases decide (0 < s.1.length) <;> cases fineB s.2.2.2.1 s.2.2.2.2 <;> cases s.1.all goodW <;> cases s.2.1.all goodP <;> cases s.2.2.1.all goodN <;> rfl
  rw [hq] at hR
  clear hq
  replace hR := Lib.hid hR
  obtain ⟨A1, c1, rfl, -, -⟩ := rd.l.op
  obtain ⟨A2, c2, rfl, -, -⟩ := RdPr.op rd.o
  obtain ⟨A3, c3, rfl, -, -⟩ := rd.t.op
  obtain ⟨N1, N3, rfl, -, -⟩ := rd.r.n.op
  obtain ⟨M1, M3, rfl, -⟩ := rd.r.p.sl
  have hA := heap_alloc_new w (.cells #[.slice A1 s.1.length c1, .slice A2 s.2.1.length c2, .slice A3 s.2.2.1.length c3, .int .i64 s.2.2.2.1.kind, .int .i64 s.2.2.2.1.at_, .int .i64 s.2.2.2.1.lo, .int .i64 s.2.2.2.1.hi, .int .i64 s.2.2.2.1.most, .slice N1 s.2.2.2.1.names.length N3, .slice M1 s.2.2.2.2.len M3, .string s.2.2.2.1.name, .int .i64 s.2.2.2.1.nat] 32)
  have n := (Below.refl w.heap.size w).alloc (Nat.le_refl _) (.cells #[.slice A1 s.1.length c1, .slice A2 s.2.1.length c2, .slice A3 s.2.2.1.length c3, .int .i64 s.2.2.2.1.kind, .int .i64 s.2.2.2.1.at_, .int .i64 s.2.2.2.1.lo, .int .i64 s.2.2.2.1.hi, .int .i64 s.2.2.2.1.most, .slice N1 s.2.2.2.1.names.length N3, .slice M1 s.2.2.2.2.len M3, .string s.2.2.2.1.name, .int .i64 s.2.2.2.1.nat] 32)
  replace rd := rd.below n
  go_enter Tryz.func19, Tryz.ntmps19
  go_upto_region 1 with fail
  generalize w.alloc (.cells #[.slice A1 s.1.length c1, .slice A2 s.2.1.length c2, .slice A3 s.2.2.1.length c3, .int .i64 s.2.2.2.1.kind, .int .i64 s.2.2.2.1.at_, .int .i64 s.2.2.2.1.lo, .int .i64 s.2.2.2.1.hi, .int .i64 s.2.2.2.1.most, .slice N1 s.2.2.2.1.names.length N3, .slice M1 s.2.2.2.2.len M3, .string s.2.2.2.1.name, .int .i64 s.2.2.2.1.nat] 32) = V at *
  generalize w.heap.size = P at hA ⊢
  replace rd := Lib.hid rd
  have hlA := blt hA
  have cF := Lib.hid fun R hR => reffine_calls s.2.2.2.2 s.2.2.2.1 (.slice N1 s.2.2.2.1.names.length N3) (.slice M1 s.2.2.2.2.len M3) V gs.h gs.gl gs.g rd.out.r R hR
  obtain ⟨A1', c1', e1s, -, hr1⟩ := rd.out.l.op
  simp only [Value.slice.injEq] at e1s
  obtain ⟨rfl, -, rfl⟩ := e1s
  obtain ⟨A2', c2', e2s, -, hr2⟩ := RdPr.op rd.out.o
  simp only [Value.slice.injEq] at e2s
  obtain ⟨rfl, -, rfl⟩ := e2s
  obtain ⟨A3', c3', e3s, -, hr3⟩ := rd.out.t.op
  simp only [Value.slice.injEq] at e3s
  obtain ⟨rfl, -, rfl⟩ := e3s
  replace hr1 := Lib.hid hr1
  replace hr2 := Lib.hid hr2
  replace hr3 := Lib.hid hr3
  generalize fineB s.2.2.2.1 s.2.2.2.2 = yf at *
  have hAV := Lib.hid hA
  have i00 : ¬ (0 : Int) < (s.1.length : Int) := by omega
  rw [decide_eq_false h0, Bool.false_and] at hR
  have nV := Below.refl V.heap.size V
  clear cF h0
  have a0 := (Lib.cell_of_heap hA 0).trans rfl
  go_upto_region 3 with fail
  clear a0
  replace hA := Lib.hid hA
  go_loopg [3, 4] s.1.length (fun g0 s3 i wr => ∃ (J : Nat) (y : Bool), s3 = .bool y ∧ i = .int .i64 J ∧ J + g0 = s.1.length ∧ Hid ((false && s.1.all goodW) = (y && (s.1.drop J).all goodW)) ∧ Hid (Below V.heap.size V wr))
  case atStart => exact ⟨0, false, rfl, rfl, by omega, Lib.hid rfl, Lib.hid nV⟩
  case round =>
    clear nV hA
    obtain ⟨J, y, rfl, rfl, c1, hc, nb⟩ := hrel
    replace nb := nb.out
    have hA := (nb.block _ hlA).trans hAV.out
    by_cases hJ : J < s.1.length
    · exact absurd hJ (by omega)
    · obtain rfl : J = s.1.length := by omega
      have hc' := hc.out
      rw [List.drop_length, List.all_nil, Bool.and_true] at hc'
      rw [hc'] at hR
      clear hc hc' hr1
      have nV := nb
      have a0 := (Lib.cell_of_heap hA 0).trans rfl
      go_upto_region 7 with fail
      clear a0
      replace hA := Lib.hid hA
      go_loopg [3, 5] s.2.1.length (fun g0 s3 i wr => ∃ (J : Nat) (z : Bool), s3 = .bool z ∧ i = .int .i64 J ∧ J + g0 = s.2.1.length ∧ Hid ((y && s.2.1.all goodP) = (z && (s.2.1.drop J).all goodP)) ∧ Hid (Below V.heap.size V wr))
      case atStart => exact ⟨0, y, rfl, rfl, by omega, Lib.hid rfl, Lib.hid nV⟩
      case round =>
        clear nV hA nb
        obtain ⟨J, z, rfl, rfl, c2, hc, nb⟩ := hrel
        replace nb := nb.out
        have hA := (nb.block _ hlA).trans hAV.out
        by_cases hJ : J < s.2.1.length
        · have i0 : (0 : Int) ≤ (J : Int) := by omega
          have i1 : (J : Int) < (s.2.1.length : Int) := by omega
          have hd := List.drop_eq_getElem_cons hJ
          cases z
          · have hc2 := Lib.hid (show (y && s.2.1.all goodP) = (false && (s.2.1.drop (J + 1)).all goodP) by rw [hc.out]; rfl)
            have nb2 := Lib.hid nb
            clear hd hc nb
            have a1 := (Lib.cell_of_heap hA 1).trans rfl
            go_wp2_with fail
            go_roundg (gk - 1)
            case measure => omega
            case rel => exact ⟨J + 1, false, rfl, by go_num, by omega, hc2, nb2⟩
          · obtain ⟨g, o, rfl, hg, hca⟩ := hr2.out (by omega)
            have ca := (nb.cell (p := ⟨g, o + J * 4, none⟩) hg).trans (hca J hJ).1
            have cb := (nb.cell (p := ⟨g, o + J * 4 + 2, none⟩) hg).trans (hca J hJ).2.2.1
            have gn := gs.o _ (mem_pN hJ)
            rw [← pN_get hJ] at hd
            generalize pN s.2.1 J = nn at *
            have hc2 := Lib.hid (show (y && s.2.1.all goodP) = ((rightS nn.1.1 && rightS nn.2.1) && (s.2.1.drop (J + 1)).all goodP) by rw [hc.out, hd]; simp [goodP])
            have cG := Lib.hid fun R hR => refright_calls nn.1.1 gn.1.1 wr R hR
            have cH := Lib.hid fun R hR => refright_calls nn.2.1 gn.2.1 wr R hR
            have nb2 := Lib.hid nb
            clear hd hc nb hca
            generalize rightS nn.1.1 = y2 at *
            generalize rightS nn.2.1 = y3 at *
            have a1 := (Lib.cell_of_heap hA 1).trans rfl
            go_wp2_with fail
            refine cG.out _ (Lib.hid ?_)
            cases y2
            · clear cH cG
              go_wp2_with fail
              go_roundg (gk - 1)
              case measure => omega
              case rel => exact ⟨J + 1, false, rfl, by go_num, by omega, hc2, nb2⟩
            · go_wp2_with fail
              refine cH.out _ (Lib.hid ?_)
              rw [Bool.true_and] at hc2
              clear cH cG ca cb
              go_wp2_with fail
              go_roundg (gk - 1)
              case measure => omega
              case rel => exact ⟨J + 1, y3, rfl, by go_num, by omega, hc2, nb2⟩
        · obtain rfl : J = s.2.1.length := by omega
          have hc' := hc.out
          rw [List.drop_length, List.all_nil, Bool.and_true] at hc'
          rw [hc'] at hR
          clear hc hc' hr2
          have nV := nb
          have a1 := (Lib.cell_of_heap hA 1).trans rfl
          go_upto_region 11 with fail
          clear a1
          replace hA := Lib.hid hA
          go_loopg [3, 6] s.2.2.1.length (fun g0 s3 i wr => ∃ (J : Nat) (x : Bool), s3 = .bool x ∧ i = .int .i64 J ∧ J + g0 = s.2.2.1.length ∧ Hid ((z && s.2.2.1.all goodN) = (x && (s.2.2.1.drop J).all goodN)) ∧ Hid (Below V.heap.size V wr))
          case atStart => exact ⟨0, z, rfl, rfl, by omega, Lib.hid rfl, Lib.hid nV⟩
          case round =>
            clear nV hA nb
            obtain ⟨J, x, rfl, rfl, c3, hc, nb⟩ := hrel
            replace nb := nb.out
            have hA := (nb.block _ hlA).trans hAV.out
            by_cases hJ : J < s.2.2.1.length
            · have i0 : (0 : Int) ≤ (J : Int) := by omega
              have i1 : (J : Int) < (s.2.2.1.length : Int) := by omega
              have hd := List.drop_eq_getElem_cons hJ
              cases x
              · have hc2 := Lib.hid (show (z && s.2.2.1.all goodN) = (false && (s.2.2.1.drop (J + 1)).all goodN) by rw [hc.out]; rfl)
                have nb2 := Lib.hid nb
                clear hd hc nb
                have a2 := (Lib.cell_of_heap hA 2).trans rfl
                go_wp2_with fail
                go_roundg (gk - 1)
                case measure => omega
                case rel => exact ⟨J + 1, false, rfl, by go_num, by omega, hc2, nb2⟩
              · obtain ⟨g, o, rfl, hg, hca⟩ := hr3.out (by omega)
                obtain ⟨nx, px, ry, hcl⟩ := hca J hJ
                obtain ⟨N1', N3', rfl, -, -⟩ := ry.n.op
                obtain ⟨M1', M3', rfl, -⟩ := ry.p.sl
                have gn := gs.t _ (mem_nN hJ)
                rw [← nN_get hJ] at hd
                generalize nN s.2.2.1 J = n' at *
                have ca := (nb.cell (p := ⟨g, o + J * 11, none⟩) hg).trans (hcl 0 _ rfl)
                have rT : wr.rangeAt g (o + J * 11 + 2) [.int .i64 n'.2.1.kind, .int .i64 n'.2.1.at_, .int .i64 n'.2.1.lo, .int .i64 n'.2.1.hi, .int .i64 n'.2.1.most, .slice N1' n'.2.1.names.length N3', .slice M1' n'.2.2.len M3', .string n'.2.1.name, .int .i64 n'.2.1.nat] := fun j v q => (nb.cell (p := ⟨g, o + J * 11 + 2 + j, none⟩) hg).trans (by rw [Nat.add_assoc]; exact hcl (2 + j) v (by rw [← List.getElem?_drop]; exact q))
                have hc2 := Lib.hid (show (z && s.2.2.1.all goodN) = ((rightS n'.1.1 && fineB n'.2.1 n'.2.2) && (s.2.2.1.drop (J + 1)).all goodN) by rw [hc.out, hd]; simp [goodN])
                have cG := Lib.hid fun R hR => refright_calls n'.1.1 gn.1.1 wr R hR
                have cH := Lib.hid fun R hR => reffine_calls n'.2.2 n'.2.1 (.slice N1' n'.2.1.names.length N3') (.slice M1' n'.2.2.len M3') wr gn.2.1 gn.2.2.2 gn.2.2.1 (ry.below nb) R hR
                clear hd hc hca hcl ry
                generalize rightS n'.1.1 = y2 at *
                generalize fineB n'.2.1 n'.2.2 = y3 at *
                have a2 := (Lib.cell_of_heap hA 2).trans rfl
                go_wp2_with fail
                refine cG.out _ (Lib.hid ?_)
                cases y2
                · have nb2 := Lib.hid nb
                  clear cH cG nb rT
                  go_wp2_with fail
                  go_roundg (gk - 1)
                  case measure => omega
                  case rel => exact ⟨J + 1, false, rfl, by go_num, by omega, hc2, nb2⟩
                · go_wp2_with (refine wpList_load_g (by rfl) 30 _ rfl g (o + J * 11 + 2) rfl [.int .i64 n'.2.1.kind, .int .i64 n'.2.1.at_, .int .i64 n'.2.1.lo, .int .i64 n'.2.1.hi, .int .i64 n'.2.1.most, .slice N1' n'.2.1.names.length N3', .slice M1' n'.2.2.len M3', .string n'.2.1.name, .int .i64 n'.2.1.nat] _ rT Tryz.underlying30 rfl (by kernel_rfl) ?_; go_simp)
                  refine cH.out _ (Lib.hid fun w5 m5 => ?_)
                  have nb2 := Lib.hid (nb.trans (m5.mono nb.size))
                  rw [Bool.true_and] at hc2
                  clear cH cG ca rT m5 nb a2
                  go_wp2_with fail
                  go_roundg (gk - 1)
                  case measure => omega
                  case rel => exact ⟨J + 1, y3, rfl, by go_num, by omega, hc2, nb2⟩
            · obtain rfl : J = s.2.2.1.length := by omega
              have hc' := hc.out
              rw [List.drop_length, List.all_nil, Bool.and_true] at hc'
              rw [hc'] at hR
              have fin := Lib.hid (hR.out.out _ (n.trans (nb.mono n.size)))
              clear hc hc' hR
              have a2 := (Lib.cell_of_heap hA 2).trans rfl
              go_wp2_with fail
              exact fin.out
end Go.Proofs.YtbochlbgjnmgjaaGreat.Unp

/- Layer 17: the reference's Right. -/
set_option maxRecDepth 100000
set_option linter.unusedVariables false
namespace Go.Proofs.YtbochlbgjnmgjaaGreat.Unp
open Go.RowKit Go.Lib Go.Proofs.YtbochlbgjnmgjaaGreat.Nam Go.Proofs.YtbochlbgjnmgjaaGreat.Lat Go.Proofs.YtbochlbgjnmgjaaGreat.Kin Go.Proofs.YtbochlbgjnmgjaaGreat.Dig

theorem refsright_calls (s : Sc) (gs : GoodS s) (lv ov tv nv pv : Value) (w : World) (rd : RdSc w s lv ov tv nv pv) (R : Ending → World → Prop)
    (hR : Hid (∀ w', Below w.heap.size w w' → R (.returned (.bool (okS s))) w')) : Calls Tryz.prog 19 #[scV s lv ov tv nv pv] w R := by
  by_cases h0 : 0 < s.1.length
  · exact refsrightA_calls s h0 gs lv ov tv nv pv w rd R hR
  · exact refsrightB_calls s h0 gs lv ov tv nv pv w rd R hR
end Go.Proofs.YtbochlbgjnmgjaaGreat.Unp
