import Derived.Test.YtbochlbgjnmgjaaGreatZUnfD
import Derived.Test.YtbochlbgjnmgjaaGreatG21
import Derived.Test.YtbochlbgjnmgjaaGreatG18
/- Layer 17: the reference's Format. -/
set_option maxRecDepth 100000
set_option linter.unusedVariables false
namespace Go.Proofs.YtbochlbgjnmgjaaGreat.Unp
open Go.RowKit Go.Lib Go.Proofs.YtbochlbgjnmgjaaGreat.Nam Go.Proofs.YtbochlbgjnmgjaaGreat.Lat Go.Proofs.YtbochlbgjnmgjaaGreat.Kin Go.Proofs.YtbochlbgjnmgjaaGreat.Dig

set_option maxRecDepth 100000 in
set_option maxHeartbeats 4000000 in
theorem refformat_calls (s : Sc) (gs : GoodS s) (hok : ∀ n ∈ s.2.2.1, okT n.2.1 n.2.2) (hokr : okT s.2.2.2.1 s.2.2.2.2) (hz : (schT s).size ≤ 1000000000) (lv ov tv nv pv : Value) (w : World) (rd : RdSc w s lv ov tv nv pv) (R : Ending → World → Prop)
    (hR : Hid (∀ w', Below w.heap.size w w' → R (.returned (.string (schT s))) w')) : Calls Tryz.prog 20 #[scV s lv ov tv nv pv] w R := by
  have hl1 : s.1.length ≤ 9223372036854775807 := gs.ll
  have hl2 : s.2.1.length ≤ 9223372036854775807 := gs.ol
  have hl3 : s.2.2.1.length ≤ 9223372036854775807 := gs.tl
  have hS1 : tLevels ++ wrs tComma s.1 = tLevels ++ sepT tComma (·.1) 0 (s.1.drop 0) := rfl
  have hS : schT s = tLevels ++ wrs tComma s.1 ++ tOrder ++ sepT tComma ordT 0 s.2.1 ++ tRbrace ++ namsT s.2.2.1 ++ tRoot ++ txT s.2.2.2.1 s.2.2.2.2 := rfl
  rw [hS] at hR hz
  clear hS
  generalize hT1 : tLevels ++ wrs tComma s.1 = T1 at *
  have hS2 : T1 ++ tOrder ++ sepT tComma ordT 0 s.2.1 = T1 ++ tOrder ++ sepT tComma ordT 0 (s.2.1.drop 0) := rfl
  generalize hT2 : T1 ++ tOrder ++ sepT tComma ordT 0 s.2.1 = T2 at *
  have hS3 : T2 ++ tRbrace ++ namsT s.2.2.1 = T2 ++ tRbrace ++ namsT (s.2.2.1.drop 0) := rfl
  generalize hT3 : T2 ++ tRbrace ++ namsT s.2.2.1 = T3 at *
  have e1 : tLevels.size = 8 := rfl
  have e2 : tOrder.size = 9 := rfl
  have e3 : tRbrace.size = 1 := rfl
  have e4 : tRoot.size = 6 := rfl
  have e5 : tType.size = 6 := rfl
  have e6 : tEq.size = 3 := rfl
  have e7 : tLt.size = 3 := rfl
  have e8 : tComma.size = 2 := rfl
  rw [ByteArray.size_append, ByteArray.size_append] at hz
  have z3 : T3.size ≤ 1000000000 := by omega
  have z2 : T2.size + 1 ≤ 1000000000 := by rw [← hT3, ByteArray.size_append, ByteArray.size_append] at z3; omega
  have z1 : T1.size + 9 ≤ 1000000000 := by rw [← hT2, ByteArray.size_append, ByteArray.size_append] at z2; omega
  clear hT1 hT2 hT3
  replace hR := Lib.hid hR
  replace hS2 := Lib.hid hS2
  replace hS3 := Lib.hid hS3
  obtain ⟨A1, c1, rfl, -, -⟩ := rd.l.op
  obtain ⟨A2, c2, rfl, -, -⟩ := RdPr.op rd.o
  obtain ⟨A3, c3, rfl, -, -⟩ := rd.t.op
  obtain ⟨N1, N3, rfl, -, -⟩ := rd.r.n.op
  obtain ⟨M1, M3, rfl, -⟩ := rd.r.p.sl
  have hA := heap_alloc_new w (.cells #[.slice A1 s.1.length c1, .slice A2 s.2.1.length c2, .slice A3 s.2.2.1.length c3, .int .i64 s.2.2.2.1.kind, .int .i64 s.2.2.2.1.at_, .int .i64 s.2.2.2.1.lo, .int .i64 s.2.2.2.1.hi, .int .i64 s.2.2.2.1.most, .slice N1 s.2.2.2.1.names.length N3, .slice M1 s.2.2.2.2.len M3, .string s.2.2.2.1.name, .int .i64 s.2.2.2.1.nat] 32)
  have n := (Below.refl w.heap.size w).alloc (Nat.le_refl _) (.cells #[.slice A1 s.1.length c1, .slice A2 s.2.1.length c2, .slice A3 s.2.2.1.length c3, .int .i64 s.2.2.2.1.kind, .int .i64 s.2.2.2.1.at_, .int .i64 s.2.2.2.1.lo, .int .i64 s.2.2.2.1.hi, .int .i64 s.2.2.2.1.most, .slice N1 s.2.2.2.1.names.length N3, .slice M1 s.2.2.2.2.len M3, .string s.2.2.2.1.name, .int .i64 s.2.2.2.1.nat] 32)
  replace rd := rd.below n
  go_enter Tryz.func20, Tryz.ntmps20
  go_upto_region 1 with fail
  generalize w.alloc (.cells #[.slice A1 s.1.length c1, .slice A2 s.2.1.length c2, .slice A3 s.2.2.1.length c3, .int .i64 s.2.2.2.1.kind, .int .i64 s.2.2.2.1.at_, .int .i64 s.2.2.2.1.lo, .int .i64 s.2.2.2.1.hi, .int .i64 s.2.2.2.1.most, .slice N1 s.2.2.2.1.names.length N3, .slice M1 s.2.2.2.2.len M3, .string s.2.2.2.1.name, .int .i64 s.2.2.2.1.nat] 32) = V at *
  generalize w.heap.size = P at hA ⊢
  obtain ⟨A1', c1', e1s, -, hr1⟩ := rd.l.op
  simp only [Value.slice.injEq] at e1s
  obtain ⟨rfl, -, rfl⟩ := e1s
  obtain ⟨A2', c2', e2s, -, hr2⟩ := RdPr.op rd.o
  simp only [Value.slice.injEq] at e2s
  obtain ⟨rfl, -, rfl⟩ := e2s
  obtain ⟨A3', c3', e3s, -, hr3⟩ := rd.t.op
  simp only [Value.slice.injEq] at e3s
  obtain ⟨rfl, -, rfl⟩ := e3s
  replace hr1 := Lib.hid hr1
  replace hr2 := Lib.hid hr2
  replace hr3 := Lib.hid hr3
  replace rd := Lib.hid rd
  have hlA := blt hA
  have hAV := Lib.hid hA
  go_upto_region 3 with fail
  replace hA := Lib.hid hA
  go_loopg [3, 4] s.1.length (fun g0 s3 i wr => ∃ (J : Nat) (c : ByteArray), s3 = .string c ∧ i = .int .i64 J ∧ J + g0 = s.1.length ∧ Hid (T1 = c ++ sepT tComma (·.1) J (s.1.drop J)) ∧ Hid (Below V.heap.size V wr))
  case atStart => exact ⟨0, _, rfl, rfl, by omega, Lib.hid hS1, Lib.hid (Below.refl _ _)⟩
  case round =>
    clear hS1 hA
    obtain ⟨J, c, rfl, rfl, cc1, hc, nb⟩ := hrel
    replace hc := hc.out
    replace nb := nb.out
    have hA := (nb.block _ hlA).trans hAV.out
    by_cases hJ : J < s.1.length
    · have i0 : (0 : Int) ≤ (J : Int) := by omega
      have i1 : (J : Int) < (s.1.length : Int) := by omega
      obtain ⟨g, o, rfl, hg, hca⟩ := hr1.out (by omega)
      have ca := (nb.cell (p := ⟨g, o + J * 2, none⟩) hg).trans (hca J hJ).1
      have hgr := Nat.lt_of_lt_of_le hg nb.size
      rw [sep_drop hJ] at hc
      rw [wN_get hJ] at ca
      generalize s.1[J] = nn at *
      have hcz : c.size ≤ 1000000000 := by rw [hc, ByteArray.size_append] at z1; omega
      have hc2 : T1 = (if (0 : Int) < (J : Int) then c ++ tComma else c) ++ nn.1 ++ sepT tComma (·.1) (J + 1) (s.1.drop (J + 1)) := by
        rw [hc]
        by_cases h : J = 0
        · rw [if_pos h, if_neg (by omega)]; simp only [ByteArray.append_assoc]
        · rw [if_neg h, if_pos (by omega)]; simp only [ByteArray.append_assoc]
      have hcc := Lib.hid (rfl : (if (0 : Int) < (J : Int) then c ++ tComma else c) = (if (0 : Int) < (J : Int) then c ++ tComma else c))
      generalize hcx : (if (0 : Int) < (J : Int) then c ++ tComma else c) = cc at hc2
      replace hcc := Lib.hid hcx
      clear hcx
      have y0 : cc.size ≤ 1000000000 := by rw [hc2, ByteArray.size_append, ByteArray.size_append] at z1; omega
      have y1 : nn.1.size ≤ 1000000000 := by rw [hc2, ByteArray.size_append, ByteArray.size_append] at z1; omega
      have cA := Lib.hid fun x : BW wr => refcomma17_calls c J x.w hcz (fun e w' => e = .returned (.string cc) ∧ Below x.w.heap.size x.w w') (Lib.hid fun _ n => ⟨by rw [hcc.out], n⟩)
      replace hc2 := Lib.hid hc2
      have hlr := blt hA
      have a0 := (Lib.cell_of_heap hA 0).trans rfl
      clear hca hc hcc hcz hg
      go_upto_region 5 with fail
      clear a0
      have k0 := fun x : BW wr => x.cell hlr ((Lib.cell_of_heap hA 0).trans rfl)
      have e0 := fun x : BW wr => x.cell hgr ca
      clear ca
      refine wp_region_below_lit (by kernel_rfl) (by kernel_rfl) ?_
      repeat (go_big_quiet_step ((first | (with_reducible exact calls_below (cA.out _)))))
      refine wpQuiet_nil ?_
      rintro _ ⟨y, rfl⟩
      have nb2 := Lib.hid (nb.trans (y.b.mono nb.size))
      generalize y.w = w1 at *
      clear cA k0 e0 nb
      go_wp2_with fail
      go_roundg (gk - 1)
      case measure => omega
      case rel => exact ⟨J + 1, cc ++ nn.1, rfl, by go_num, by omega, hc2, nb2⟩
    · obtain rfl : J = s.1.length := by omega
      rw [sep_end, ByteArray.append_empty] at hc
      subst hc
      have v0 : (T1).size ≤ 1000000000 := by (try simp only [ByteArray.size_append]); omega
      have v1 : (tOrder).size ≤ 1000000000 := by (try simp only [ByteArray.size_append]); omega
      have v2 : (T1 ++ tOrder).size ≤ 1000000000 := by (try simp only [ByteArray.size_append]); omega
      clear hr1
      have nV := nb
      have a0 := (Lib.cell_of_heap hA 0).trans rfl
      have a1 := (Lib.cell_of_heap hA 1).trans rfl
      go_upto_region 8 with fail
      clear a0 a1 v0 v1 v2
      replace hA := Lib.hid hA
      go_loopg [3, 5] s.2.1.length (fun g0 s3 i wr => ∃ (J : Nat) (c : ByteArray), s3 = .string c ∧ i = .int .i64 J ∧ J + g0 = s.2.1.length ∧ Hid (T2 = c ++ sepT tComma ordT J (s.2.1.drop J)) ∧ Hid (Below V.heap.size V wr))
      case atStart => exact ⟨0, _, rfl, rfl, by omega, hS2, Lib.hid nV⟩
      case round =>
        clear hS2 hA nV nb
        obtain ⟨J, c, rfl, rfl, cc1, hc, nb⟩ := hrel
        replace hc := hc.out
        replace nb := nb.out
        have hA := (nb.block _ hlA).trans hAV.out
        by_cases hJ : J < s.2.1.length
        · have i0 : (0 : Int) ≤ (J : Int) := by omega
          have i1 : (J : Int) < (s.2.1.length : Int) := by omega
          obtain ⟨g, o, rfl, hg, hca⟩ := hr2.out (by omega)
          have ca := (nb.cell (p := ⟨g, o + J * 4, none⟩) hg).trans (hca J hJ).1
          have cb := (nb.cell (p := ⟨g, o + J * 4 + 2, none⟩) hg).trans (hca J hJ).2.2.1
          have hgr := Nat.lt_of_lt_of_le hg nb.size
          rw [sep_drop hJ] at hc
          rw [pN_get hJ] at ca cb
          generalize s.2.1[J] = nn at *
          have hcz : c.size ≤ 1000000000 := by rw [hc, ByteArray.size_append] at z2; omega
          have hc2 : T2 = (if (0 : Int) < (J : Int) then c ++ tComma else c) ++ ordT nn ++ sepT tComma ordT (J + 1) (s.2.1.drop (J + 1)) := by
            rw [hc]
            by_cases h : J = 0
            · rw [if_pos h, if_neg (by omega)]; simp only [ByteArray.append_assoc]
            · rw [if_neg h, if_pos (by omega)]; simp only [ByteArray.append_assoc]
          have hcc := Lib.hid (rfl : (if (0 : Int) < (J : Int) then c ++ tComma else c) = (if (0 : Int) < (J : Int) then c ++ tComma else c))
          generalize hcx : (if (0 : Int) < (J : Int) then c ++ tComma else c) = cc at hc2
          replace hcc := Lib.hid hcx
          clear hcx
          have ho : ordT nn = nn.1.1 ++ tLt ++ nn.2.1 := rfl
          have y9 : cc.size + nn.1.1.size + 3 + nn.2.1.size ≤ 1000000000 := by rw [hc2, ho] at z2; simp only [ByteArray.size_append] at z2; omega
          have v0 : (cc).size ≤ 1000000000 := by (try simp only [ByteArray.size_append]); omega
          have v1 : (nn.1.1).size ≤ 1000000000 := by (try simp only [ByteArray.size_append]); omega
          have v2 : (cc ++ nn.1.1).size ≤ 1000000000 := by (try simp only [ByteArray.size_append]); omega
          have v3 : (tLt).size ≤ 1000000000 := by (try simp only [ByteArray.size_append]); omega
          have v4 : (cc ++ nn.1.1 ++ tLt).size ≤ 1000000000 := by (try simp only [ByteArray.size_append]); omega
          have v5 : (nn.2.1).size ≤ 1000000000 := by (try simp only [ByteArray.size_append]); omega
          have hc3 : T2 = cc ++ nn.1.1 ++ tLt ++ nn.2.1 ++ sepT tComma ordT (J + 1) (s.2.1.drop (J + 1)) := by rw [hc2, ho]; simp only [ByteArray.append_assoc]
          have cA := Lib.hid fun x : BW wr => refcomma17_calls c J x.w hcz (fun e w' => e = .returned (.string cc) ∧ Below x.w.heap.size x.w w') (Lib.hid fun _ n => ⟨by rw [hcc.out], n⟩)
          replace hc3 := Lib.hid hc3
          clear hc2 ho
          have hlr := blt hA
          have a1 := (Lib.cell_of_heap hA 1).trans rfl
          clear hca hc hcc hcz hg
          go_upto_region 10 with fail
          clear a1
          have k1 := fun x : BW wr => x.cell hlr ((Lib.cell_of_heap hA 1).trans rfl)
          have e0' := fun x : BW wr => x.cell hgr ca
          have e2' := fun x : BW wr => x.cell hgr cb
          clear ca cb
          refine wp_region_below_lit (by kernel_rfl) (by kernel_rfl) ?_
          repeat (go_big_quiet_step ((first | (with_reducible exact calls_below (cA.out _)))))
          refine wpQuiet_nil ?_
          rintro _ ⟨y, rfl⟩
          have nb2 := Lib.hid (nb.trans (y.b.mono nb.size))
          generalize y.w = w1 at *
          clear cA k1 e0' e2' nb
          go_wp2_with fail
          go_roundg (gk - 1)
          case measure => omega
          case rel => exact ⟨J + 1, cc ++ nn.1.1 ++ tLt ++ nn.2.1, rfl, by go_num, by omega, hc3, nb2⟩
        · obtain rfl : J = s.2.1.length := by omega
          rw [sep_end, ByteArray.append_empty] at hc
          subst hc
          have v0 : (T2).size ≤ 1000000000 := by (try simp only [ByteArray.size_append]); omega
          have v1 : (tRbrace).size ≤ 1000000000 := by (try simp only [ByteArray.size_append]); omega
          have v2 : (T2 ++ tRbrace).size ≤ 1000000000 := by (try simp only [ByteArray.size_append]); omega
          clear hr2
          have nV := nb
          have a1 := (Lib.cell_of_heap hA 1).trans rfl
          have a2 := (Lib.cell_of_heap hA 2).trans rfl
          go_upto_region 13 with fail
          clear a1 a2 v0 v1 v2
          replace hA := Lib.hid hA
          go_loopg [3, 6] s.2.2.1.length (fun g0 s3 i wr => ∃ (J : Nat) (c : ByteArray), s3 = .string c ∧ i = .int .i64 J ∧ J + g0 = s.2.2.1.length ∧ Hid (T3 = c ++ namsT (s.2.2.1.drop J)) ∧ Hid (Below V.heap.size V wr))
          case atStart => exact ⟨0, _, rfl, rfl, by omega, hS3, Lib.hid nV⟩
          case round =>
            clear hS3 hA nV nb
            obtain ⟨J, c, rfl, rfl, cc1, hc, nb⟩ := hrel
            replace hc := hc.out
            replace nb := nb.out
            have hA := (nb.block _ hlA).trans hAV.out
            by_cases hJ : J < s.2.2.1.length
            · have i0 : (0 : Int) ≤ (J : Int) := by omega
              have i1 : (J : Int) < (s.2.2.1.length : Int) := by omega
              obtain ⟨g, o, rfl, hg, hca⟩ := hr3.out (by omega)
              obtain ⟨nx, px, ry, hcl⟩ := hca J hJ
              obtain ⟨N1', N3', rfl, -, -⟩ := ry.n.op
              obtain ⟨M1', M3', rfl, -⟩ := ry.p.sl
              have gn := gs.t _ (mem_nN hJ)
              have on := hok _ (mem_nN hJ)
              rw [namsT_drop hJ] at hc
              generalize nN s.2.2.1 J = n' at *
              have ca := (nb.cell (p := ⟨g, o + J * 11, none⟩) hg).trans (hcl 0 _ rfl)
              have hgr := Nat.lt_of_lt_of_le hg nb.size
              have rT : wr.rangeAt g (o + J * 11 + 2) [.int .i64 n'.2.1.kind, .int .i64 n'.2.1.at_, .int .i64 n'.2.1.lo, .int .i64 n'.2.1.hi, .int .i64 n'.2.1.most, .slice N1' n'.2.1.names.length N3', .slice M1' n'.2.2.len M3', .string n'.2.1.name, .int .i64 n'.2.1.nat] := fun j v q => (nb.cell (p := ⟨g, o + J * 11 + 2 + j, none⟩) hg).trans (by rw [Nat.add_assoc]; exact hcl (2 + j) v (by rw [← List.getElem?_drop]; exact q))
              have ho : namT n' = tType ++ n'.1.1 ++ tEq ++ txT n'.2.1 n'.2.2 := rfl
              have y9 : c.size + 6 + n'.1.1.size + 3 + (txT n'.2.1 n'.2.2).size ≤ 1000000000 := by rw [hc, ho] at z3; simp only [ByteArray.size_append] at z3; omega
              have hc3 : T3 = c ++ tType ++ n'.1.1 ++ tEq ++ txT n'.2.1 n'.2.2 ++ namsT (s.2.2.1.drop (J + 1)) := by rw [hc, ho]; simp only [ByteArray.append_assoc]
              have cA := Lib.hid fun x : BW wr => reftyp_calls n'.2.2 n'.2.1 (.slice N1' n'.2.1.names.length N3') (.slice M1' n'.2.2.len M3') x.w on gn.2.1 gn.2.2.1 gn.2.2.2 ((ry.below nb).below x.b) (by omega) (fun e w' => e = .returned (.string (txT n'.2.1 n'.2.2)) ∧ Below x.w.heap.size x.w w') (Lib.hid fun _ n => ⟨rfl, n⟩)
              generalize txT n'.2.1 n'.2.2 = X at *
              have v0 : (c).size ≤ 1000000000 := by (try simp only [ByteArray.size_append]); omega
              have v1 : (tType).size ≤ 1000000000 := by (try simp only [ByteArray.size_append]); omega
              have v2 : (c ++ tType).size ≤ 1000000000 := by (try simp only [ByteArray.size_append]); omega
              have v3 : (n'.1.1).size ≤ 1000000000 := by (try simp only [ByteArray.size_append]); omega
              have v4 : (c ++ tType ++ n'.1.1).size ≤ 1000000000 := by (try simp only [ByteArray.size_append]); omega
              have v5 : (tEq).size ≤ 1000000000 := by (try simp only [ByteArray.size_append]); omega
              have v6 : (c ++ tType ++ n'.1.1 ++ tEq).size ≤ 1000000000 := by (try simp only [ByteArray.size_append]); omega
              have v7 : (X).size ≤ 1000000000 := by (try simp only [ByteArray.size_append]); omega
              replace hc3 := Lib.hid hc3
              have hlr := blt hA
              have a2 := (Lib.cell_of_heap hA 2).trans rfl
              clear hca hcl hc ho ry on gn
              go_upto_region 15 with fail
              clear a2
              have k2 := fun x : BW wr => x.cell hlr ((Lib.cell_of_heap hA 2).trans rfl)
              have e0' := fun x : BW wr => x.cell hgr ca
              have rk : ∀ x : BW wr, x.w.rangeAt g (o + J * 11 + 2) [.int .i64 n'.2.1.kind, .int .i64 n'.2.1.at_, .int .i64 n'.2.1.lo, .int .i64 n'.2.1.hi, .int .i64 n'.2.1.most, .slice N1' n'.2.1.names.length N3', .slice M1' n'.2.2.len M3', .string n'.2.1.name, .int .i64 n'.2.1.nat] := fun x j v h => x.cell hgr (rT j v h)
              clear ca rT
              refine wp_region_below_lit (by kernel_rfl) (by kernel_rfl) ?_
              refine wpQuiet_k fun Kp hKp => ?_
              iterate 16 (go_big_quiet_step ((first | (with_reducible exact calls_below (cA.out _)))))
              refine wpQuiet_load rfl 30 _ rfl g (o + J * 11 + 2) rfl [.int .i64 n'.2.1.kind, .int .i64 n'.2.1.at_, .int .i64 n'.2.1.lo, .int .i64 n'.2.1.hi, .int .i64 n'.2.1.most, .slice N1' n'.2.1.names.length N3', .slice M1' n'.2.2.len M3', .string n'.2.1.name, .int .i64 n'.2.1.nat] _ (by rintro V ⟨y, rfl⟩; exact rk y) Tryz.underlying30 rfl (by kernel_rfl) ?_
              go_simp
              repeat (go_big_quiet_step ((first | (with_reducible exact calls_below (cA.out _)))))
              refine wpQuiet_nil ?_
              refine hKp _ ?_
              clear hKp
              rintro _ ⟨y, rfl⟩
              have nb2 := Lib.hid (nb.trans (y.b.mono nb.size))
              generalize y.w = w1 at *
              clear cA k2 e0' rk nb
              go_wp2_with fail
              go_roundg (gk - 1)
              case measure => omega
              case rel => exact ⟨J + 1, c ++ tType ++ n'.1.1 ++ tEq ++ X, rfl, by go_num, by omega, hc3, nb2⟩
            · obtain rfl : J = s.2.2.1.length := by omega
              rw [List.drop_length] at hc
              have hc' : T3 = c := by rw [hc]; exact ByteArray.append_empty
              clear hc
              subst hc'
              have cT := Lib.hid fun R hR => reftyp_calls s.2.2.2.2 s.2.2.2.1 (.slice N1 s.2.2.2.1.names.length N3) (.slice M1 s.2.2.2.2.len M3) wr hokr gs.h gs.g gs.gl (rd.out.below nb).r (by omega) R hR
              have rT : wr.rangeAt P 3 [.int .i64 s.2.2.2.1.kind, .int .i64 s.2.2.2.1.at_, .int .i64 s.2.2.2.1.lo, .int .i64 s.2.2.2.1.hi, .int .i64 s.2.2.2.1.most, .slice N1 s.2.2.2.1.names.length N3, .slice M1 s.2.2.2.2.len M3, .string s.2.2.2.1.name, .int .i64 s.2.2.2.1.nat] := fun j v h => by rw [Lib.cell_of_heap hA, List.getElem?_toArray, ← List.getElem?_drop]; exact h
              generalize txT s.2.2.2.1 s.2.2.2.2 = X at *
              have v0 : (T3).size ≤ 1000000000 := by (try simp only [ByteArray.size_append]); omega
              have v1 : (tRoot).size ≤ 1000000000 := by (try simp only [ByteArray.size_append]); omega
              have v2 : (T3 ++ tRoot).size ≤ 1000000000 := by (try simp only [ByteArray.size_append]); omega
              have v3 : (X).size ≤ 1000000000 := by (try simp only [ByteArray.size_append]); omega
              have a2 := (Lib.cell_of_heap hA 2).trans rfl
              clear hr3
              go_wp2_with (refine wpList_load_g (by rfl) 30 _ rfl P 3 rfl [.int .i64 s.2.2.2.1.kind, .int .i64 s.2.2.2.1.at_, .int .i64 s.2.2.2.1.lo, .int .i64 s.2.2.2.1.hi, .int .i64 s.2.2.2.1.most, .slice N1 s.2.2.2.1.names.length N3, .slice M1 s.2.2.2.2.len M3, .string s.2.2.2.1.name, .int .i64 s.2.2.2.1.nat] _ rT Tryz.underlying30 rfl (by kernel_rfl) ?_; go_simp)
              refine cT.out _ (Lib.hid fun w5 m5 => ?_)
              have fin := Lib.hid (hR.out.out _ (n.trans ((nb.trans (m5.mono nb.size)).mono n.size)))
              clear hR cT rT m5 a2
              go_wp2_with fail
              exact fin.out
end Go.Proofs.YtbochlbgjnmgjaaGreat.Unp

/- Layer 17: the law UnparseFormats walked. -/
set_option maxRecDepth 100000
set_option linter.unusedVariables false
namespace Go.Proofs.YtbochlbgjnmgjaaGreat.Unp
open Go.RowKit Go.Lib Go.Proofs.YtbochlbgjnmgjaaGreat.Nam Go.Proofs.YtbochlbgjnmgjaaGreat.Lat Go.Proofs.YtbochlbgjnmgjaaGreat.Kin Go.Proofs.YtbochlbgjnmgjaaGreat.Dig

set_option maxRecDepth 100000 in
set_option maxHeartbeats 4000000 in
theorem formats17_walk (s : Sc) (gs : GoodS s) (lv ov tv nv pv : Value) (w : World) (rd : RdSc w s lv ov tv nv pv) (R : Ending → World → Prop)
    (hR : Hid (∀ w', Below w.heap.size w w' → R (.returned (.bool true)) w')) : Calls Tryz.prog 6 #[scV s lv ov tv nv pv] w R := by
  obtain ⟨A1, c1, rfl, -, -⟩ := rd.l.op
  obtain ⟨A2, c2, rfl, -, -⟩ := RdPr.op rd.o
  obtain ⟨A3, c3, rfl, -, -⟩ := rd.t.op
  obtain ⟨N1, N3, rfl, -, -⟩ := rd.r.n.op
  obtain ⟨M1, M3, rfl, -⟩ := rd.r.p.sl
  have hA := heap_alloc_new w (.cells #[.slice A1 s.1.length c1, .slice A2 s.2.1.length c2, .slice A3 s.2.2.1.length c3, .int .i64 s.2.2.2.1.kind, .int .i64 s.2.2.2.1.at_, .int .i64 s.2.2.2.1.lo, .int .i64 s.2.2.2.1.hi, .int .i64 s.2.2.2.1.most, .slice N1 s.2.2.2.1.names.length N3, .slice M1 s.2.2.2.2.len M3, .string s.2.2.2.1.name, .int .i64 s.2.2.2.1.nat] 32)
  have n := (Below.refl w.heap.size w).alloc (Nat.le_refl _) (.cells #[.slice A1 s.1.length c1, .slice A2 s.2.1.length c2, .slice A3 s.2.2.1.length c3, .int .i64 s.2.2.2.1.kind, .int .i64 s.2.2.2.1.at_, .int .i64 s.2.2.2.1.lo, .int .i64 s.2.2.2.1.hi, .int .i64 s.2.2.2.1.most, .slice N1 s.2.2.2.1.names.length N3, .slice M1 s.2.2.2.2.len M3, .string s.2.2.2.1.name, .int .i64 s.2.2.2.1.nat] 32)
  replace rd := rd.below n
  go_enter Tryz.func6, Tryz.ntmps6
  go_upto_region 1 with fail
  generalize w.alloc (.cells #[.slice A1 s.1.length c1, .slice A2 s.2.1.length c2, .slice A3 s.2.2.1.length c3, .int .i64 s.2.2.2.1.kind, .int .i64 s.2.2.2.1.at_, .int .i64 s.2.2.2.1.lo, .int .i64 s.2.2.2.1.hi, .int .i64 s.2.2.2.1.most, .slice N1 s.2.2.2.1.names.length N3, .slice M1 s.2.2.2.2.len M3, .string s.2.2.2.1.name, .int .i64 s.2.2.2.1.nat] 32) = V at *
  generalize w.heap.size = P at hA ⊢
  replace rd := Lib.hid rd
  replace hR := Lib.hid hR
  have rT : V.rangeAt P 0 [.slice A1 s.1.length c1, .slice A2 s.2.1.length c2, .slice A3 s.2.2.1.length c3, .int .i64 s.2.2.2.1.kind, .int .i64 s.2.2.2.1.at_, .int .i64 s.2.2.2.1.lo, .int .i64 s.2.2.2.1.hi, .int .i64 s.2.2.2.1.most, .slice N1 s.2.2.2.1.names.length N3, .slice M1 s.2.2.2.2.len M3, .string s.2.2.2.1.name, .int .i64 s.2.2.2.1.nat] := fun j v e => by rw [Nat.zero_add, Lib.cell_of_heap hA]; simpa using e
  have cG := Lib.hid fun R hR => refgreat_calls s gs (.slice A1 s.1.length c1) (.slice A2 s.2.1.length c2) (.slice A3 s.2.2.1.length c3) (.slice N1 s.2.2.2.1.names.length N3) (.slice M1 s.2.2.2.2.len M3) V rd.out R hR
  go_wp2_with (refine wpList_load_g (by rfl) 32 _ rfl P 0 rfl [.slice A1 s.1.length c1, .slice A2 s.2.1.length c2, .slice A3 s.2.2.1.length c3, .int .i64 s.2.2.2.1.kind, .int .i64 s.2.2.2.1.at_, .int .i64 s.2.2.2.1.lo, .int .i64 s.2.2.2.1.hi, .int .i64 s.2.2.2.1.most, .slice N1 s.2.2.2.1.names.length N3, .slice M1 s.2.2.2.2.len M3, .string s.2.2.2.1.name, .int .i64 s.2.2.2.1.nat] _ rT Tryz.underlying32 rfl (by kernel_rfl) ?_; go_simp)
  refine cG.out _ (Lib.hid fun w1 y m1 hy => ?_)
  replace hA := (m1.block _ (blt hA)).trans hA
  replace rd := Lib.hid (rd.out.below m1)
  replace n := n.trans (m1.mono n.size)
  clear cG rT m1
  cases y
  · obtain ⟨b1, b2, b3⟩ := hy rfl
    clear hy
    have hzz : okS s = true → (schT s).size ≤ 1000000000 := fun e => sch_size e gs b1 b2 b3
    clear b1 b2 b3
    have rT : w1.rangeAt P 0 [.slice A1 s.1.length c1, .slice A2 s.2.1.length c2, .slice A3 s.2.2.1.length c3, .int .i64 s.2.2.2.1.kind, .int .i64 s.2.2.2.1.at_, .int .i64 s.2.2.2.1.lo, .int .i64 s.2.2.2.1.hi, .int .i64 s.2.2.2.1.most, .slice N1 s.2.2.2.1.names.length N3, .slice M1 s.2.2.2.2.len M3, .string s.2.2.2.1.name, .int .i64 s.2.2.2.1.nat] := fun j v e => by rw [Nat.zero_add, Lib.cell_of_heap hA]; simpa using e
    have cR := Lib.hid fun R hR => refsright_calls s gs (.slice A1 s.1.length c1) (.slice A2 s.2.1.length c2) (.slice A3 s.2.2.1.length c3) (.slice N1 s.2.2.2.1.names.length N3) (.slice M1 s.2.2.2.2.len M3) w1 rd.out R hR
    go_wp2_with (refine wpList_load_g (by rfl) 32 _ rfl P 0 rfl [.slice A1 s.1.length c1, .slice A2 s.2.1.length c2, .slice A3 s.2.2.1.length c3, .int .i64 s.2.2.2.1.kind, .int .i64 s.2.2.2.1.at_, .int .i64 s.2.2.2.1.lo, .int .i64 s.2.2.2.1.hi, .int .i64 s.2.2.2.1.most, .slice N1 s.2.2.2.1.names.length N3, .slice M1 s.2.2.2.2.len M3, .string s.2.2.2.1.name, .int .i64 s.2.2.2.1.nat] _ rT Tryz.underlying32 rfl (by kernel_rfl) ?_; go_simp)
    refine cR.out _ (Lib.hid fun w2 m1 => ?_)
    replace hA := (m1.block _ (blt hA)).trans hA
    replace rd := Lib.hid (rd.out.below m1)
    replace n := n.trans (m1.mono n.size)
    clear cR rT m1
    have cS := Lib.hid fun (W : World) (m : Below w2.heap.size w2 W) R hR => sright_calls s gs (.slice A1 s.1.length c1) (.slice A2 s.2.1.length c2) (.slice A3 s.2.2.1.length c3) (.slice N1 s.2.2.2.1.names.length N3) (.slice M1 s.2.2.2.2.len M3) W (rd.out.below m) R hR
    have cF := Lib.hid fun (W : World) (m : Below w2.heap.size w2 W) R hR => sformat_calls s gs hzz (.slice A1 s.1.length c1) (.slice A2 s.2.1.length c2) (.slice A3 s.2.2.1.length c3) (.slice N1 s.2.2.2.1.names.length N3) (.slice M1 s.2.2.2.2.len M3) W (rd.out.below m) R hR
    have hq : fmtU s = if okS s = true then schT s else ByteArray.empty := rfl
    cases he : okS s
    · rw [he, if_neg (by decide)] at hq
      rw [hq] at cF
      rw [he] at cS
      clear he hq hzz
      have rT : w2.rangeAt P 0 [.slice A1 s.1.length c1, .slice A2 s.2.1.length c2, .slice A3 s.2.2.1.length c3, .int .i64 s.2.2.2.1.kind, .int .i64 s.2.2.2.1.at_, .int .i64 s.2.2.2.1.lo, .int .i64 s.2.2.2.1.hi, .int .i64 s.2.2.2.1.most, .slice N1 s.2.2.2.1.names.length N3, .slice M1 s.2.2.2.2.len M3, .string s.2.2.2.1.name, .int .i64 s.2.2.2.1.nat] := fun j v e => by rw [Nat.zero_add, Lib.cell_of_heap hA]; simpa using e
      have kS := Lib.hid (cS.out w2 (Below.refl _ _))
      go_wp2_with (refine wpList_load_g (by rfl) 32 _ rfl P 0 rfl [.slice A1 s.1.length c1, .slice A2 s.2.1.length c2, .slice A3 s.2.2.1.length c3, .int .i64 s.2.2.2.1.kind, .int .i64 s.2.2.2.1.at_, .int .i64 s.2.2.2.1.lo, .int .i64 s.2.2.2.1.hi, .int .i64 s.2.2.2.1.most, .slice N1 s.2.2.2.1.names.length N3, .slice M1 s.2.2.2.2.len M3, .string s.2.2.2.1.name, .int .i64 s.2.2.2.1.nat] _ rT Tryz.underlying32 rfl (by kernel_rfl) ?_; go_simp)
      refine kS.out _ (Lib.hid fun w4 m4 => ?_)
      replace hA := (m4.block _ (blt hA)).trans hA
      replace n := n.trans (m4.mono n.size)
      have kF := Lib.hid (cF.out w4 (m4))
      clear cS cF kS rT
      have rT : w4.rangeAt P 0 [.slice A1 s.1.length c1, .slice A2 s.2.1.length c2, .slice A3 s.2.2.1.length c3, .int .i64 s.2.2.2.1.kind, .int .i64 s.2.2.2.1.at_, .int .i64 s.2.2.2.1.lo, .int .i64 s.2.2.2.1.hi, .int .i64 s.2.2.2.1.most, .slice N1 s.2.2.2.1.names.length N3, .slice M1 s.2.2.2.2.len M3, .string s.2.2.2.1.name, .int .i64 s.2.2.2.1.nat] := fun j v e => by rw [Nat.zero_add, Lib.cell_of_heap hA]; simpa using e
      clear m4
      go_wp2_with (refine wpList_load_g (by rfl) 32 _ rfl P 0 rfl [.slice A1 s.1.length c1, .slice A2 s.2.1.length c2, .slice A3 s.2.2.1.length c3, .int .i64 s.2.2.2.1.kind, .int .i64 s.2.2.2.1.at_, .int .i64 s.2.2.2.1.lo, .int .i64 s.2.2.2.1.hi, .int .i64 s.2.2.2.1.most, .slice N1 s.2.2.2.1.names.length N3, .slice M1 s.2.2.2.2.len M3, .string s.2.2.2.1.name, .int .i64 s.2.2.2.1.nat] _ rT Tryz.underlying32 rfl (by kernel_rfl) ?_; go_simp)
      refine kF.out _ (Lib.hid fun w5 m5 => ?_)
      replace n := n.trans (m5.mono n.size)
      clear kF rT m5 hA
      go_wp2_with fail
      refine lives17_calls _ _ (Lib.hid fun w9 m9 => ?_)
      have fin := Lib.hid (hR.out.out _ (n.trans (m9.mono n.size)))
      clear hR m9
      go_wp2_with fail
      exact fin.out
    · have hz := hzz he
      have ok1 := okS_types he
      have ok2 := okS_root he
      rw [he, if_pos rfl] at hq
      rw [hq] at cF
      rw [he] at cS
      clear he hq hzz
      have cX := Lib.hid fun R hR => refformat_calls s gs ok1 ok2 hz (.slice A1 s.1.length c1) (.slice A2 s.2.1.length c2) (.slice A3 s.2.2.1.length c3) (.slice N1 s.2.2.2.1.names.length N3) (.slice M1 s.2.2.2.2.len M3) w2 rd.out R hR
      generalize schT s = X at *
      clear ok1 ok2 hz
      have rT : w2.rangeAt P 0 [.slice A1 s.1.length c1, .slice A2 s.2.1.length c2, .slice A3 s.2.2.1.length c3, .int .i64 s.2.2.2.1.kind, .int .i64 s.2.2.2.1.at_, .int .i64 s.2.2.2.1.lo, .int .i64 s.2.2.2.1.hi, .int .i64 s.2.2.2.1.most, .slice N1 s.2.2.2.1.names.length N3, .slice M1 s.2.2.2.2.len M3, .string s.2.2.2.1.name, .int .i64 s.2.2.2.1.nat] := fun j v e => by rw [Nat.zero_add, Lib.cell_of_heap hA]; simpa using e
      go_wp2_with (refine wpList_load_g (by rfl) 32 _ rfl P 0 rfl [.slice A1 s.1.length c1, .slice A2 s.2.1.length c2, .slice A3 s.2.2.1.length c3, .int .i64 s.2.2.2.1.kind, .int .i64 s.2.2.2.1.at_, .int .i64 s.2.2.2.1.lo, .int .i64 s.2.2.2.1.hi, .int .i64 s.2.2.2.1.most, .slice N1 s.2.2.2.1.names.length N3, .slice M1 s.2.2.2.2.len M3, .string s.2.2.2.1.name, .int .i64 s.2.2.2.1.nat] _ rT Tryz.underlying32 rfl (by kernel_rfl) ?_; go_simp)
      refine cX.out _ (Lib.hid fun w3 m3 => ?_)
      replace hA := (m3.block _ (blt hA)).trans hA
      replace n := n.trans (m3.mono n.size)
      clear cX rT
      have rT : w3.rangeAt P 0 [.slice A1 s.1.length c1, .slice A2 s.2.1.length c2, .slice A3 s.2.2.1.length c3, .int .i64 s.2.2.2.1.kind, .int .i64 s.2.2.2.1.at_, .int .i64 s.2.2.2.1.lo, .int .i64 s.2.2.2.1.hi, .int .i64 s.2.2.2.1.most, .slice N1 s.2.2.2.1.names.length N3, .slice M1 s.2.2.2.2.len M3, .string s.2.2.2.1.name, .int .i64 s.2.2.2.1.nat] := fun j v e => by rw [Nat.zero_add, Lib.cell_of_heap hA]; simpa using e
      have kS := Lib.hid (cS.out w3 m3)
      go_wp2_with (refine wpList_load_g (by rfl) 32 _ rfl P 0 rfl [.slice A1 s.1.length c1, .slice A2 s.2.1.length c2, .slice A3 s.2.2.1.length c3, .int .i64 s.2.2.2.1.kind, .int .i64 s.2.2.2.1.at_, .int .i64 s.2.2.2.1.lo, .int .i64 s.2.2.2.1.hi, .int .i64 s.2.2.2.1.most, .slice N1 s.2.2.2.1.names.length N3, .slice M1 s.2.2.2.2.len M3, .string s.2.2.2.1.name, .int .i64 s.2.2.2.1.nat] _ rT Tryz.underlying32 rfl (by kernel_rfl) ?_; go_simp)
      refine kS.out _ (Lib.hid fun w4 m4 => ?_)
      replace hA := (m4.block _ (blt hA)).trans hA
      replace n := n.trans (m4.mono n.size)
      have kF := Lib.hid (cF.out w4 (m3.trans (m4.mono m3.size)))
      clear cS cF kS rT
      have rT : w4.rangeAt P 0 [.slice A1 s.1.length c1, .slice A2 s.2.1.length c2, .slice A3 s.2.2.1.length c3, .int .i64 s.2.2.2.1.kind, .int .i64 s.2.2.2.1.at_, .int .i64 s.2.2.2.1.lo, .int .i64 s.2.2.2.1.hi, .int .i64 s.2.2.2.1.most, .slice N1 s.2.2.2.1.names.length N3, .slice M1 s.2.2.2.2.len M3, .string s.2.2.2.1.name, .int .i64 s.2.2.2.1.nat] := fun j v e => by rw [Nat.zero_add, Lib.cell_of_heap hA]; simpa using e
      clear m4
      go_wp2_with (refine wpList_load_g (by rfl) 32 _ rfl P 0 rfl [.slice A1 s.1.length c1, .slice A2 s.2.1.length c2, .slice A3 s.2.2.1.length c3, .int .i64 s.2.2.2.1.kind, .int .i64 s.2.2.2.1.at_, .int .i64 s.2.2.2.1.lo, .int .i64 s.2.2.2.1.hi, .int .i64 s.2.2.2.1.most, .slice N1 s.2.2.2.1.names.length N3, .slice M1 s.2.2.2.2.len M3, .string s.2.2.2.1.name, .int .i64 s.2.2.2.1.nat] _ rT Tryz.underlying32 rfl (by kernel_rfl) ?_; go_simp)
      refine kF.out _ (Lib.hid fun w5 m5 => ?_)
      replace n := n.trans (m5.mono n.size)
      clear kF rT m5 hA
      clear m3
      have q0 : (X.toList == X.toList) = true := by simp
      go_wp2_with fail
      refine lives17_calls _ _ (Lib.hid fun w9 m9 => ?_)
      have fin := Lib.hid (hR.out.out _ (n.trans (m9.mono n.size)))
      clear hR m9
      go_wp2_with fail
      exact fin.out
  · clear hA rd hy
    go_wp2_with fail
    refine lives17_calls _ _ (Lib.hid fun w9 m9 => ?_)
    have fin := Lib.hid (hR.out.out _ (n.trans (m9.mono n.size)))
    clear hR m9
    go_wp2_with fail
    exact fin.out
end Go.Proofs.YtbochlbgjnmgjaaGreat.Unp
