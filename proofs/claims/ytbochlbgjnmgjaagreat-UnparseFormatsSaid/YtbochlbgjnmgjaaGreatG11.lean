import Derived.Test.YtbochlbgjnmgjaaGreatZUnrA
import Derived.Test.YtbochlbgjnmgjaaGreatG9
import Derived.Test.YtbochlbgjnmgjaaGreatCls
/- Layer 17: the reference: types. -/
set_option maxRecDepth 100000
set_option linter.unusedVariables false
namespace Go.Proofs.YtbochlbgjnmgjaaGreat.Unp
open Go.RowKit Go.Lib Go.Proofs.YtbochlbgjnmgjaaGreat.Nam Go.Proofs.YtbochlbgjnmgjaaGreat.Lat Go.Proofs.YtbochlbgjnmgjaaGreat.Kin Go.Proofs.YtbochlbgjnmgjaaGreat.Dig

set_option maxRecDepth 100000 in
set_option maxHeartbeats 4000000 in
theorem reftyp1_calls (f : Ft) (ih : Fo.AllK TxQ f) (ta lo hi mo : Int) (ns : List Wr) (nm : ByteArray) (na : Int) (nv pv : Value) (w : World) (ok : okT (⟨1, ta, lo, hi, mo, ns, nm, na⟩ : TH) f) (gh : GoodH (⟨1, ta, lo, hi, mo, ns, nm, na⟩ : TH)) (ga : f.All GoodH GoodL) (fl : f.len ≤ maxLen) (hy : RdY w (⟨1, ta, lo, hi, mo, ns, nm, na⟩ : TH) f nv pv) (hz : (tBool).size ≤ 1000000000) (R : Ending → World → Prop)
    (hR : Hid (∀ w', Below w.heap.size w w' → R (.returned (.string (tBool))) w')) : Calls Tryz.prog 45 #[.agg #[.int .i64 1, .int .i64 ta, .int .i64 lo, .int .i64 hi, .int .i64 mo, nv, pv, .string nm, .int .i64 na]] w R := by
  obtain ⟨N1, N3, rfl, -, -⟩ := hy.n.op
  obtain ⟨M1, M3, rfl, -⟩ := hy.p.sl
  have ilo : I64 lo := gh.2.2.1
  have ihi : I64 hi := gh.2.2.2.1
  have imo : I64 mo := gh.2.2.2.2.1
  have s1 := put_sz ilo
  have s2 := put_sz ihi
  have s3 := put_sz imo
  have hA := heap_alloc_new w (.cells #[.int .i64 1, .int .i64 ta, .int .i64 lo, .int .i64 hi, .int .i64 mo, .slice N1 ns.length N3, .slice M1 f.len M3, .string nm, .int .i64 na] 30)
  have n := (Below.refl w.heap.size w).alloc (Nat.le_refl _) (.cells #[.int .i64 1, .int .i64 ta, .int .i64 lo, .int .i64 hi, .int .i64 mo, .slice N1 ns.length N3, .slice M1 f.len M3, .string nm, .int .i64 na] 30)
  replace hy := Lib.hid (hy.below n)
  replace ok := Lib.hid ok
  replace gh := Lib.hid gh
  replace hR := Lib.hid hR
  go_enter Tryz.func45, Tryz.ntmps45
  go_upto_region 1 with fail
  generalize w.alloc (.cells #[.int .i64 1, .int .i64 ta, .int .i64 lo, .int .i64 hi, .int .i64 mo, .slice N1 ns.length N3, .slice M1 f.len M3, .string nm, .int .i64 na] 30) = V at *
  generalize w.heap.size = P at hA ⊢
  have hlA := blt hA
  have a0 := (Lib.cell_of_heap hA 0).trans rfl
  have fin := Lib.hid (hR.out.out _ n)
  clear hR
  go_wp2_with fail
  exact fin.out
set_option maxRecDepth 100000 in
set_option maxHeartbeats 4000000 in
theorem reftyp2_calls (f : Ft) (ih : Fo.AllK TxQ f) (ta lo hi mo : Int) (ns : List Wr) (nm : ByteArray) (na : Int) (nv pv : Value) (w : World) (ok : okT (⟨2, ta, lo, hi, mo, ns, nm, na⟩ : TH) f) (gh : GoodH (⟨2, ta, lo, hi, mo, ns, nm, na⟩ : TH)) (ga : f.All GoodH GoodL) (fl : f.len ≤ maxLen) (hy : RdY w (⟨2, ta, lo, hi, mo, ns, nm, na⟩ : TH) f nv pv) (hz : (tInt ++ putS lo ++ tDots ++ putS hi ++ tRpar).size ≤ 1000000000) (R : Ending → World → Prop)
    (hR : Hid (∀ w', Below w.heap.size w w' → R (.returned (.string (tInt ++ putS lo ++ tDots ++ putS hi ++ tRpar))) w')) : Calls Tryz.prog 45 #[.agg #[.int .i64 2, .int .i64 ta, .int .i64 lo, .int .i64 hi, .int .i64 mo, nv, pv, .string nm, .int .i64 na]] w R := by
  obtain ⟨N1, N3, rfl, -, -⟩ := hy.n.op
  obtain ⟨M1, M3, rfl, -⟩ := hy.p.sl
  have ilo : I64 lo := gh.2.2.1
  have ihi : I64 hi := gh.2.2.2.1
  have imo : I64 mo := gh.2.2.2.2.1
  have s1 := put_sz ilo
  have s2 := put_sz ihi
  have s3 := put_sz imo
  have hA := heap_alloc_new w (.cells #[.int .i64 2, .int .i64 ta, .int .i64 lo, .int .i64 hi, .int .i64 mo, .slice N1 ns.length N3, .slice M1 f.len M3, .string nm, .int .i64 na] 30)
  have n := (Below.refl w.heap.size w).alloc (Nat.le_refl _) (.cells #[.int .i64 2, .int .i64 ta, .int .i64 lo, .int .i64 hi, .int .i64 mo, .slice N1 ns.length N3, .slice M1 f.len M3, .string nm, .int .i64 na] 30)
  replace hy := Lib.hid (hy.below n)
  replace ok := Lib.hid ok
  replace gh := Lib.hid gh
  replace hR := Lib.hid hR
  go_enter Tryz.func45, Tryz.ntmps45
  go_upto_region 1 with fail
  generalize w.alloc (.cells #[.int .i64 2, .int .i64 ta, .int .i64 lo, .int .i64 hi, .int .i64 mo, .slice N1 ns.length N3, .slice M1 f.len M3, .string nm, .int .i64 na] 30) = V at *
  generalize w.heap.size = P at hA ⊢
  have hlA := blt hA
  have e_tInt : tInt.size = 4 := rfl
  have e_tDots : tDots.size = 2 := rfl
  have e_tRpar : tRpar.size = 1 := rfl
  (try simp only [ByteArray.size_append] at hz)
  have z0 : (putS lo).size ≤ 1000000000 := by (try simp only [ByteArray.size_append]); omega
  have z1 : (putS hi).size ≤ 1000000000 := by (try simp only [ByteArray.size_append]); omega
  have z2 : (tInt ++ putS lo).size ≤ 1000000000 := by (try simp only [ByteArray.size_append]); omega
  have z3 : (tInt ++ putS lo ++ tDots).size ≤ 1000000000 := by (try simp only [ByteArray.size_append]); omega
  have z4 : (tInt ++ putS lo ++ tDots ++ putS hi).size ≤ 1000000000 := by (try simp only [ByteArray.size_append]); omega
  have z5 : (tInt).size ≤ 1000000000 := by (try simp only [ByteArray.size_append]); omega
  have z6 : (tRpar).size ≤ 1000000000 := by (try simp only [ByteArray.size_append]); omega
  have z7 : (tDots).size ≤ 1000000000 := by (try simp only [ByteArray.size_append]); omega
  have cA := Lib.hid fun x : BW V => refput_calls lo.natAbs lo (Nat.le_refl _) ilo.1 ilo.2 x.w (fun e w' => e = .returned (.string (putS lo)) ∧ Below x.w.heap.size x.w w') (Lib.hid fun _ n => ⟨rfl, n⟩)
  have cB := Lib.hid fun x : BW V => refput_calls hi.natAbs hi (Nat.le_refl _) ihi.1 ihi.2 x.w (fun e w' => e = .returned (.string (putS hi)) ∧ Below x.w.heap.size x.w w') (Lib.hid fun _ n => ⟨rfl, n⟩)
  have a0 := (Lib.cell_of_heap hA 0).trans rfl
  go_upto_region 4 with fail
  clear a0
  have k2 := fun x : BW V => x.cell hlA ((Lib.cell_of_heap hA 2).trans rfl)
  have k3 := fun x : BW V => x.cell hlA ((Lib.cell_of_heap hA 3).trans rfl)
  refine wp_region_below_lit (by kernel_rfl) (by kernel_rfl) ?_
  repeat (go_big_quiet_step ((first | (with_reducible exact calls_below (cA.out _)) | (with_reducible exact calls_below (cB.out _)))))
  refine wpQuiet_nil ?_
  rintro _ ⟨y, rfl⟩
  have m1 := y.b
  generalize y.w = w1 at *
  clear cA cB k2 k3
  have fin := Lib.hid (hR.out.out _ (n.trans (m1.mono n.size)))
  clear hR
  go_wp2_with fail
  exact fin.out
set_option maxRecDepth 100000 in
set_option maxHeartbeats 4000000 in
theorem reftyp3_calls (f : Ft) (ih : Fo.AllK TxQ f) (ta lo hi mo : Int) (ns : List Wr) (nm : ByteArray) (na : Int) (nv pv : Value) (w : World) (ok : okT (⟨3, ta, lo, hi, mo, ns, nm, na⟩ : TH) f) (gh : GoodH (⟨3, ta, lo, hi, mo, ns, nm, na⟩ : TH)) (ga : f.All GoodH GoodL) (fl : f.len ≤ maxLen) (hy : RdY w (⟨3, ta, lo, hi, mo, ns, nm, na⟩ : TH) f nv pv) (hz : (tText ++ putS mo ++ tRpar).size ≤ 1000000000) (R : Ending → World → Prop)
    (hR : Hid (∀ w', Below w.heap.size w w' → R (.returned (.string (tText ++ putS mo ++ tRpar))) w')) : Calls Tryz.prog 45 #[.agg #[.int .i64 3, .int .i64 ta, .int .i64 lo, .int .i64 hi, .int .i64 mo, nv, pv, .string nm, .int .i64 na]] w R := by
  obtain ⟨N1, N3, rfl, -, -⟩ := hy.n.op
  obtain ⟨M1, M3, rfl, -⟩ := hy.p.sl
  have ilo : I64 lo := gh.2.2.1
  have ihi : I64 hi := gh.2.2.2.1
  have imo : I64 mo := gh.2.2.2.2.1
  have s1 := put_sz ilo
  have s2 := put_sz ihi
  have s3 := put_sz imo
  have hA := heap_alloc_new w (.cells #[.int .i64 3, .int .i64 ta, .int .i64 lo, .int .i64 hi, .int .i64 mo, .slice N1 ns.length N3, .slice M1 f.len M3, .string nm, .int .i64 na] 30)
  have n := (Below.refl w.heap.size w).alloc (Nat.le_refl _) (.cells #[.int .i64 3, .int .i64 ta, .int .i64 lo, .int .i64 hi, .int .i64 mo, .slice N1 ns.length N3, .slice M1 f.len M3, .string nm, .int .i64 na] 30)
  replace hy := Lib.hid (hy.below n)
  replace ok := Lib.hid ok
  replace gh := Lib.hid gh
  replace hR := Lib.hid hR
  go_enter Tryz.func45, Tryz.ntmps45
  go_upto_region 1 with fail
  generalize w.alloc (.cells #[.int .i64 3, .int .i64 ta, .int .i64 lo, .int .i64 hi, .int .i64 mo, .slice N1 ns.length N3, .slice M1 f.len M3, .string nm, .int .i64 na] 30) = V at *
  generalize w.heap.size = P at hA ⊢
  have hlA := blt hA
  have e_tText : tText.size = 5 := rfl
  have e_tRpar : tRpar.size = 1 := rfl
  (try simp only [ByteArray.size_append] at hz)
  have z0 : (putS mo).size ≤ 1000000000 := by (try simp only [ByteArray.size_append]); omega
  have z1 : (tText ++ putS mo).size ≤ 1000000000 := by (try simp only [ByteArray.size_append]); omega
  have z2 : (tText).size ≤ 1000000000 := by (try simp only [ByteArray.size_append]); omega
  have z3 : (tRpar).size ≤ 1000000000 := by (try simp only [ByteArray.size_append]); omega
  have cD := Lib.hid fun R hR => refput_calls mo.natAbs mo (Nat.le_refl _) imo.1 imo.2 V R hR
  have a0 := (Lib.cell_of_heap hA 0).trans rfl
  have a4 := (Lib.cell_of_heap hA 4).trans rfl
  go_wp2_with fail
  refine cD.out _ (Lib.hid fun w1 m1 => ?_)
  clear a0 a4 cD
  have fin := Lib.hid (hR.out.out _ (n.trans (m1.mono n.size)))
  clear hR
  go_wp2_with fail
  exact fin.out
set_option maxRecDepth 100000 in
set_option maxHeartbeats 4000000 in
theorem reftyp9_calls (f : Ft) (ih : Fo.AllK TxQ f) (ta lo hi mo : Int) (ns : List Wr) (nm : ByteArray) (na : Int) (nv pv : Value) (w : World) (ok : okT (⟨9, ta, lo, hi, mo, ns, nm, na⟩ : TH) f) (gh : GoodH (⟨9, ta, lo, hi, mo, ns, nm, na⟩ : TH)) (ga : f.All GoodH GoodL) (fl : f.len ≤ maxLen) (hy : RdY w (⟨9, ta, lo, hi, mo, ns, nm, na⟩ : TH) f nv pv) (hz : (tRef ++ nm ++ tRpar).size ≤ 1000000000) (R : Ending → World → Prop)
    (hR : Hid (∀ w', Below w.heap.size w w' → R (.returned (.string (tRef ++ nm ++ tRpar))) w')) : Calls Tryz.prog 45 #[.agg #[.int .i64 9, .int .i64 ta, .int .i64 lo, .int .i64 hi, .int .i64 mo, nv, pv, .string nm, .int .i64 na]] w R := by
  obtain ⟨N1, N3, rfl, -, -⟩ := hy.n.op
  obtain ⟨M1, M3, rfl, -⟩ := hy.p.sl
  have ilo : I64 lo := gh.2.2.1
  have ihi : I64 hi := gh.2.2.2.1
  have imo : I64 mo := gh.2.2.2.2.1
  have s1 := put_sz ilo
  have s2 := put_sz ihi
  have s3 := put_sz imo
  have hA := heap_alloc_new w (.cells #[.int .i64 9, .int .i64 ta, .int .i64 lo, .int .i64 hi, .int .i64 mo, .slice N1 ns.length N3, .slice M1 f.len M3, .string nm, .int .i64 na] 30)
  have n := (Below.refl w.heap.size w).alloc (Nat.le_refl _) (.cells #[.int .i64 9, .int .i64 ta, .int .i64 lo, .int .i64 hi, .int .i64 mo, .slice N1 ns.length N3, .slice M1 f.len M3, .string nm, .int .i64 na] 30)
  replace hy := Lib.hid (hy.below n)
  replace ok := Lib.hid ok
  replace gh := Lib.hid gh
  replace hR := Lib.hid hR
  go_enter Tryz.func45, Tryz.ntmps45
  go_upto_region 1 with fail
  generalize w.alloc (.cells #[.int .i64 9, .int .i64 ta, .int .i64 lo, .int .i64 hi, .int .i64 mo, .slice N1 ns.length N3, .slice M1 f.len M3, .string nm, .int .i64 na] 30) = V at *
  generalize w.heap.size = P at hA ⊢
  have hlA := blt hA
  have e_tRef : tRef.size = 4 := rfl
  have e_tRpar : tRpar.size = 1 := rfl
  (try simp only [ByteArray.size_append] at hz)
  have z0 : (nm).size ≤ 1000000000 := by (try simp only [ByteArray.size_append]); omega
  have z1 : (tRef ++ nm).size ≤ 1000000000 := by (try simp only [ByteArray.size_append]); omega
  have z2 : (tRef).size ≤ 1000000000 := by (try simp only [ByteArray.size_append]); omega
  have z3 : (tRpar).size ≤ 1000000000 := by (try simp only [ByteArray.size_append]); omega
  have a0 := (Lib.cell_of_heap hA 0).trans rfl
  have a7 := (Lib.cell_of_heap hA 7).trans rfl
  have fin := Lib.hid (hR.out.out _ n)
  clear hR
  go_wp2_with fail
  exact fin.out
end Go.Proofs.YtbochlbgjnmgjaaGreat.Unp

/- Layer 17: the reference: types. -/
set_option maxRecDepth 100000
set_option linter.unusedVariables false
namespace Go.Proofs.YtbochlbgjnmgjaaGreat.Unp
open Go.RowKit Go.Lib Go.Proofs.YtbochlbgjnmgjaaGreat.Nam Go.Proofs.YtbochlbgjnmgjaaGreat.Lat Go.Proofs.YtbochlbgjnmgjaaGreat.Kin Go.Proofs.YtbochlbgjnmgjaaGreat.Dig

set_option maxRecDepth 100000 in
set_option maxHeartbeats 4000000 in
theorem reftyp4_calls (f : Ft) (ih : Fo.AllK TxQ f) (ta lo hi mo : Int) (ns : List Wr) (nm : ByteArray) (na : Int) (nv pv : Value) (w : World) (ok : okT (⟨4, ta, lo, hi, mo, ns, nm, na⟩ : TH) f) (gh : GoodH (⟨4, ta, lo, hi, mo, ns, nm, na⟩ : TH)) (ga : f.All GoodH GoodL) (fl : f.len ≤ maxLen) (hy : RdY w (⟨4, ta, lo, hi, mo, ns, nm, na⟩ : TH) f nv pv) (hz : (tEnum ++ wrs tComma ns ++ tRpar).size ≤ 1000000000) (R : Ending → World → Prop)
    (hR : Hid (∀ w', Below w.heap.size w w' → R (.returned (.string (tEnum ++ wrs tComma ns ++ tRpar))) w')) : Calls Tryz.prog 45 #[.agg #[.int .i64 4, .int .i64 ta, .int .i64 lo, .int .i64 hi, .int .i64 mo, nv, pv, .string nm, .int .i64 na]] w R := by
  obtain ⟨N1, N3, rfl, -, -⟩ := hy.n.op
  obtain ⟨M1, M3, rfl, -⟩ := hy.p.sl
  have ilo : I64 lo := gh.2.2.1
  have ihi : I64 hi := gh.2.2.2.1
  have imo : I64 mo := gh.2.2.2.2.1
  have s1 := put_sz ilo
  have s2 := put_sz ihi
  have s3 := put_sz imo
  have hA := heap_alloc_new w (.cells #[.int .i64 4, .int .i64 ta, .int .i64 lo, .int .i64 hi, .int .i64 mo, .slice N1 ns.length N3, .slice M1 f.len M3, .string nm, .int .i64 na] 30)
  have n := (Below.refl w.heap.size w).alloc (Nat.le_refl _) (.cells #[.int .i64 4, .int .i64 ta, .int .i64 lo, .int .i64 hi, .int .i64 mo, .slice N1 ns.length N3, .slice M1 f.len M3, .string nm, .int .i64 na] 30)
  replace hy := Lib.hid (hy.below n)
  replace ok := Lib.hid ok
  replace gh := Lib.hid gh
  replace hR := Lib.hid hR
  go_enter Tryz.func45, Tryz.ntmps45
  go_upto_region 1 with fail
  generalize w.alloc (.cells #[.int .i64 4, .int .i64 ta, .int .i64 lo, .int .i64 hi, .int .i64 mo, .slice N1 ns.length N3, .slice M1 f.len M3, .string nm, .int .i64 na] 30) = V at *
  generalize w.heap.size = P at hA ⊢
  have hlA := blt hA
  have e_tEnum : tEnum.size = 5 := rfl
  have e_tRpar : tRpar.size = 1 := rfl
  have e_tComma : tComma.size = 2 := rfl
  (try simp only [ByteArray.size_append] at hz)
  have hnl : ns.length ≤ 9223372036854775807 := gh.out.2.2.2.2.2.2.2.2
  obtain ⟨A, cp, eA, hlc, hrd⟩ := hy.out.n.op
  simp only [Value.slice.injEq] at eA
  obtain ⟨rfl, -, rfl⟩ := eA
  replace hrd := Lib.hid hrd
  have hS : tEnum ++ wrs tComma ns = tEnum ++ sepT tComma (·.1) 0 (ns.drop 0) := rfl
  have hz2 : (tEnum ++ wrs tComma ns).size ≤ 1000000000 := by rw [ByteArray.size_append]; omega
  generalize tEnum ++ wrs tComma ns = T at *
  have a0 := (Lib.cell_of_heap hA 0).trans rfl
  go_upto_region 15 with fail
  clear a0
  go_loopg [3, 5] ns.length (fun g0 s i wr => ∃ (J : Nat) (c : ByteArray), i = .int .i64 J ∧ s = .string c ∧ J + g0 = ns.length ∧ Hid (T = c ++ sepT tComma (·.1) J (ns.drop J)) ∧ Hid (Below V.heap.size V wr))
  case atStart => exact ⟨0, _, rfl, rfl, by omega, Lib.hid hS, Lib.hid (Below.refl _ _)⟩
  case round =>
    clear hS
    obtain ⟨J, c, rfl, rfl, c1, hc, nb⟩ := hrel
    replace hc := hc.out
    replace nb := nb.out
    have hAr := (nb.block _ hlA).trans hA
    have hlr := blt hAr
    by_cases hJ : J < ns.length
    · obtain ⟨g, o, rfl, hg, hca⟩ := hrd.out (by omega)
      have ca := (nb.cell (p := ⟨g, o + J * 2, none⟩) hg).trans (hca J hJ).1
      have hgr := Nat.lt_of_lt_of_le hg nb.size
      rw [wN_get hJ] at ca
      rw [sep_drop hJ] at hc
      generalize ns[J] = nn at *
      obtain ⟨n0, n1⟩ := nn
      simp only at ca hc
      have i0 : (0 : Int) ≤ (J : Int) := by omega
      have i1 : (J : Int) < (ns.length : Int) := by omega
      have hcz : c.size ≤ 1000000000 := by rw [hc, ByteArray.size_append] at hz2; omega
      have hc2 : T = (if (0 : Int) < (J : Int) then c ++ tComma else c) ++ n0 ++ sepT tComma (·.1) (J + 1) (ns.drop (J + 1)) := by
        rw [hc]
        by_cases h : J = 0
        · rw [if_pos h, if_neg (by omega)]; simp only [ByteArray.append_assoc]
        · rw [if_neg h, if_pos (by omega)]; simp only [ByteArray.append_assoc]
      generalize hcc : (if (0 : Int) < (J : Int) then c ++ tComma else c) = cc at *
      have z0 : cc.size ≤ 1000000000 := by rw [hc2, ByteArray.size_append, ByteArray.size_append] at hz2; omega
      have z1 : n0.size ≤ 1000000000 := by rw [hc2, ByteArray.size_append, ByteArray.size_append] at hz2; omega
      have cA := fun x : BW wr => refcomma17_calls c J x.w hcz (fun e w' => e = .returned (.string cc) ∧ Below x.w.heap.size x.w w') (Lib.hid fun _ n => ⟨by rw [hcc], n⟩)
      replace cA := Lib.hid cA
      replace hc2 := Lib.hid hc2
      have a5 := (Lib.cell_of_heap hAr 5).trans rfl
      clear hca hc hcc hcz hg
      go_upto_region 17 with fail
      clear a5
      have k5 := fun x : BW wr => x.cell hlr ((Lib.cell_of_heap hAr 5).trans rfl)
      have e0 := fun x : BW wr => x.cell hgr ca
      clear ca
      refine wp_region_below_lit (by kernel_rfl) (by kernel_rfl) ?_
      repeat (go_big_quiet_step ((first | (with_reducible exact calls_below (cA.out _)))))
      refine wpQuiet_nil ?_
      rintro _ ⟨y, rfl⟩
      have m1 := y.b
      generalize y.w = w1 at *
      clear cA k5 e0
      have nb2 := Lib.hid (nb.trans (m1.mono nb.size))
      clear m1 nb
      go_wp2_with fail
      go_roundg (gk - 1)
      case measure => omega
      case rel => exact ⟨J + 1, cc ++ n0, by go_num, rfl, by omega, hc2, nb2⟩
    · obtain rfl : J = ns.length := by omega
      rw [sep_end, ByteArray.append_empty] at hc
      subst hc
      have fin := Lib.hid (hR.out.out _ (n.trans (nb.mono n.size)))
      clear hR
      have z0 : (T).size ≤ 1000000000 := by (try simp only [ByteArray.size_append]); omega
      have z1 : (tRpar).size ≤ 1000000000 := by (try simp only [ByteArray.size_append]); omega
      have a0 := (Lib.cell_of_heap hAr 0).trans rfl
      have a5 := (Lib.cell_of_heap hAr 5).trans rfl
      go_wp2_with fail
      exact fin.out
set_option maxRecDepth 100000 in
set_option maxHeartbeats 4000000 in
theorem reftyp5_calls (f : Ft) (ih : Fo.AllK TxQ f) (ta lo hi mo : Int) (ns : List Wr) (nm : ByteArray) (na : Int) (nv pv : Value) (w : World) (ok : okT (⟨5, ta, lo, hi, mo, ns, nm, na⟩ : TH) f) (gh : GoodH (⟨5, ta, lo, hi, mo, ns, nm, na⟩ : TH)) (ga : f.All GoodH GoodL) (fl : f.len ≤ maxLen) (hy : RdY w (⟨5, ta, lo, hi, mo, ns, nm, na⟩ : TH) f nv pv) (hz : (tList ++ oneT (txF f) ++ tComma ++ putS mo ++ tRpar).size ≤ 1000000000) (R : Ending → World → Prop)
    (hR : Hid (∀ w', Below w.heap.size w w' → R (.returned (.string (tList ++ oneT (txF f) ++ tComma ++ putS mo ++ tRpar))) w')) : Calls Tryz.prog 45 #[.agg #[.int .i64 5, .int .i64 ta, .int .i64 lo, .int .i64 hi, .int .i64 mo, nv, pv, .string nm, .int .i64 na]] w R := by
  obtain ⟨N1, N3, rfl, -, -⟩ := hy.n.op
  obtain ⟨M1, M3, rfl, -⟩ := hy.p.sl
  have ilo : I64 lo := gh.2.2.1
  have ihi : I64 hi := gh.2.2.2.1
  have imo : I64 mo := gh.2.2.2.2.1
  have s1 := put_sz ilo
  have s2 := put_sz ihi
  have s3 := put_sz imo
  have hA := heap_alloc_new w (.cells #[.int .i64 5, .int .i64 ta, .int .i64 lo, .int .i64 hi, .int .i64 mo, .slice N1 ns.length N3, .slice M1 f.len M3, .string nm, .int .i64 na] 30)
  have n := (Below.refl w.heap.size w).alloc (Nat.le_refl _) (.cells #[.int .i64 5, .int .i64 ta, .int .i64 lo, .int .i64 hi, .int .i64 mo, .slice N1 ns.length N3, .slice M1 f.len M3, .string nm, .int .i64 na] 30)
  replace hy := Lib.hid (hy.below n)
  replace ok := Lib.hid ok
  replace gh := Lib.hid gh
  replace hR := Lib.hid hR
  go_enter Tryz.func45, Tryz.ntmps45
  go_upto_region 1 with fail
  generalize w.alloc (.cells #[.int .i64 5, .int .i64 ta, .int .i64 lo, .int .i64 hi, .int .i64 mo, .slice N1 ns.length N3, .slice M1 f.len M3, .string nm, .int .i64 na] 30) = V at *
  generalize w.heap.size = P at hA ⊢
  have hlA := blt hA
  obtain ⟨p, t, k, e, -, -, hbare⟩ := only_cons (ok.out.1.2.2.2.2.2.2.2.2.1 (.inl rfl))
  have e' : f.drop 0 = .cons p t k .nil := by rw [e]; rfl
  obtain ⟨g, o, lv, cv, nx, px, rfl, hg, -, -, ry, hca⟩ := hy.out.p.part e'
  obtain ⟨X1, X3, rfl, -, -⟩ := ry.n.op
  obtain ⟨Y1, Y3, rfl, -⟩ := ry.p.sl
  obtain ⟨gp, gt, gk, gka⟩ := all_at 0 ga e'
  have okk := (okF_at 0 ok.out.2 e').2 hbare
  have htx : oneT (txF f) = txT t k := by rw [e]; rfl
  rw [htx] at hz hR
  have fl1 : f.len = 1 := by rw [e]; rfl
  have rT : V.rangeAt g (o + 9) [.int .i64 t.kind, .int .i64 t.at_, .int .i64 t.lo, .int .i64 t.hi, .int .i64 t.most, .slice X1 t.names.length X3, .slice Y1 k.len Y3, .string t.name, .int .i64 t.nat] := fun j v h => by
    have hh := hca (9 + j) v (by rw [← List.getElem?_drop]; exact h)
    rw [Nat.zero_mul, Nat.add_zero, ← Nat.add_assoc] at hh
    exact hh
  have ihk := ih.at_ e'
  rw [fl1] at hA
  replace fl1 := Lib.hid fl1
  clear e e' hbare hca htx
  have e_tList : tList.size = 5 := rfl
  have e_tComma : tComma.size = 2 := rfl
  have e_tRpar : tRpar.size = 1 := rfl
  (try simp only [ByteArray.size_append] at hz)
  have z0 : (txT t k).size ≤ 1000000000 := by (try simp only [ByteArray.size_append]); omega
  have z1 : (tList ++ txT t k).size ≤ 1000000000 := by (try simp only [ByteArray.size_append]); omega
  have z2 : (tList ++ txT t k ++ tComma).size ≤ 1000000000 := by (try simp only [ByteArray.size_append]); omega
  have z3 : (putS mo).size ≤ 1000000000 := by (try simp only [ByteArray.size_append]); omega
  have z4 : (tList ++ txT t k ++ tComma ++ putS mo).size ≤ 1000000000 := by (try simp only [ByteArray.size_append]); omega
  have z5 : (tList).size ≤ 1000000000 := by (try simp only [ByteArray.size_append]); omega
  have z6 : (tRpar).size ≤ 1000000000 := by (try simp only [ByteArray.size_append]); omega
  have z7 : (tComma).size ≤ 1000000000 := by (try simp only [ByteArray.size_append]); omega
  have cA := Lib.hid fun x : BW V => ihk t (.slice X1 t.names.length X3) (.slice Y1 k.len Y3) x.w okk gt gka gk (ry.below x.b) (by omega) (fun e w' => e = .returned (.string (txT t k)) ∧ Below x.w.heap.size x.w w') (Lib.hid fun _ n => ⟨rfl, n⟩)
  have cB := Lib.hid fun x : BW V => refput_calls mo.natAbs mo (Nat.le_refl _) imo.1 imo.2 x.w (fun e w' => e = .returned (.string (putS mo)) ∧ Below x.w.heap.size x.w w') (Lib.hid fun _ n => ⟨rfl, n⟩)
  have a0 := (Lib.cell_of_heap hA 0).trans rfl
  go_upto_region 8 with fail
  clear a0
  have k4 := fun x : BW V => x.cell hlA ((Lib.cell_of_heap hA 4).trans rfl)
  have k6 := fun x : BW V => x.cell hlA ((Lib.cell_of_heap hA 6).trans rfl)
  have rk : ∀ x : BW V, x.w.rangeAt g (o + 9) [.int .i64 t.kind, .int .i64 t.at_, .int .i64 t.lo, .int .i64 t.hi, .int .i64 t.most, .slice X1 t.names.length X3, .slice Y1 k.len Y3, .string t.name, .int .i64 t.nat] := fun x j v h => x.cell hg (rT j v h)
  clear rT
  refine wp_region_below_lit (by kernel_rfl) (by kernel_rfl) ?_
  refine wpQuiet_k fun Kp hKp => ?_
  iterate 4 (go_big_quiet_step (exact rfl))
  refine wpQuiet_load rfl 30 _ rfl g (o + 9) rfl [.int .i64 t.kind, .int .i64 t.at_, .int .i64 t.lo, .int .i64 t.hi, .int .i64 t.most, .slice X1 t.names.length X3, .slice Y1 k.len Y3, .string t.name, .int .i64 t.nat] _ (by rintro V ⟨y, rfl⟩; exact rk y) Tryz.underlying30 rfl (by kernel_rfl) ?_
  go_simp
  repeat (go_big_quiet_step ((first | (with_reducible exact calls_below (cA.out _)) | (with_reducible exact calls_below (cB.out _)))))
  refine wpQuiet_nil ?_
  refine hKp _ ?_
  clear hKp
  rintro _ ⟨y, rfl⟩
  have m1 := y.b
  generalize y.w = w1 at *
  clear cA cB k4 k6 rk
  have fin := Lib.hid (hR.out.out _ (n.trans (m1.mono n.size)))
  clear hR
  go_wp2_with fail
  exact fin.out
set_option maxRecDepth 100000 in
set_option maxHeartbeats 4000000 in
theorem reftyp6_calls (f : Ft) (ih : Fo.AllK TxQ f) (ta lo hi mo : Int) (ns : List Wr) (nm : ByteArray) (na : Int) (nv pv : Value) (w : World) (ok : okT (⟨6, ta, lo, hi, mo, ns, nm, na⟩ : TH) f) (gh : GoodH (⟨6, ta, lo, hi, mo, ns, nm, na⟩ : TH)) (ga : f.All GoodH GoodL) (fl : f.len ≤ maxLen) (hy : RdY w (⟨6, ta, lo, hi, mo, ns, nm, na⟩ : TH) f nv pv) (hz : (tOpt ++ oneT (txF f) ++ tRpar).size ≤ 1000000000) (R : Ending → World → Prop)
    (hR : Hid (∀ w', Below w.heap.size w w' → R (.returned (.string (tOpt ++ oneT (txF f) ++ tRpar))) w')) : Calls Tryz.prog 45 #[.agg #[.int .i64 6, .int .i64 ta, .int .i64 lo, .int .i64 hi, .int .i64 mo, nv, pv, .string nm, .int .i64 na]] w R := by
  obtain ⟨N1, N3, rfl, -, -⟩ := hy.n.op
  obtain ⟨M1, M3, rfl, -⟩ := hy.p.sl
  have ilo : I64 lo := gh.2.2.1
  have ihi : I64 hi := gh.2.2.2.1
  have imo : I64 mo := gh.2.2.2.2.1
  have s1 := put_sz ilo
  have s2 := put_sz ihi
  have s3 := put_sz imo
  have hA := heap_alloc_new w (.cells #[.int .i64 6, .int .i64 ta, .int .i64 lo, .int .i64 hi, .int .i64 mo, .slice N1 ns.length N3, .slice M1 f.len M3, .string nm, .int .i64 na] 30)
  have n := (Below.refl w.heap.size w).alloc (Nat.le_refl _) (.cells #[.int .i64 6, .int .i64 ta, .int .i64 lo, .int .i64 hi, .int .i64 mo, .slice N1 ns.length N3, .slice M1 f.len M3, .string nm, .int .i64 na] 30)
  replace hy := Lib.hid (hy.below n)
  replace ok := Lib.hid ok
  replace gh := Lib.hid gh
  replace hR := Lib.hid hR
  go_enter Tryz.func45, Tryz.ntmps45
  go_upto_region 1 with fail
  generalize w.alloc (.cells #[.int .i64 6, .int .i64 ta, .int .i64 lo, .int .i64 hi, .int .i64 mo, .slice N1 ns.length N3, .slice M1 f.len M3, .string nm, .int .i64 na] 30) = V at *
  generalize w.heap.size = P at hA ⊢
  have hlA := blt hA
  obtain ⟨p, t, k, e, -, -, hbare⟩ := only_cons (ok.out.1.2.2.2.2.2.2.2.2.1 (.inr rfl))
  have e' : f.drop 0 = .cons p t k .nil := by rw [e]; rfl
  obtain ⟨g, o, lv, cv, nx, px, rfl, hg, -, -, ry, hca⟩ := hy.out.p.part e'
  obtain ⟨X1, X3, rfl, -, -⟩ := ry.n.op
  obtain ⟨Y1, Y3, rfl, -⟩ := ry.p.sl
  obtain ⟨gp, gt, gk, gka⟩ := all_at 0 ga e'
  have okk := (okF_at 0 ok.out.2 e').2 hbare
  have htx : oneT (txF f) = txT t k := by rw [e]; rfl
  rw [htx] at hz hR
  have fl1 : f.len = 1 := by rw [e]; rfl
  have rT : V.rangeAt g (o + 9) [.int .i64 t.kind, .int .i64 t.at_, .int .i64 t.lo, .int .i64 t.hi, .int .i64 t.most, .slice X1 t.names.length X3, .slice Y1 k.len Y3, .string t.name, .int .i64 t.nat] := fun j v h => by
    have hh := hca (9 + j) v (by rw [← List.getElem?_drop]; exact h)
    rw [Nat.zero_mul, Nat.add_zero, ← Nat.add_assoc] at hh
    exact hh
  have ihk := ih.at_ e'
  rw [fl1] at hA
  replace fl1 := Lib.hid fl1
  clear e e' hbare hca htx
  have e_tOpt : tOpt.size = 4 := rfl
  have e_tRpar : tRpar.size = 1 := rfl
  (try simp only [ByteArray.size_append] at hz)
  have z0 : (txT t k).size ≤ 1000000000 := by (try simp only [ByteArray.size_append]); omega
  have z1 : (tOpt ++ txT t k).size ≤ 1000000000 := by (try simp only [ByteArray.size_append]); omega
  have z2 : (tOpt).size ≤ 1000000000 := by (try simp only [ByteArray.size_append]); omega
  have z3 : (tRpar).size ≤ 1000000000 := by (try simp only [ByteArray.size_append]); omega
  have cT := Lib.hid fun R hR => ihk t (.slice X1 t.names.length X3) (.slice Y1 k.len Y3) V okk gt gka gk ry (by omega) R hR
  have a0 := (Lib.cell_of_heap hA 0).trans rfl
  have a6 := (Lib.cell_of_heap hA 6).trans rfl
  go_wp2_with (refine wpList_load_g (by rfl) 30 _ rfl g (o + 9) rfl [.int .i64 t.kind, .int .i64 t.at_, .int .i64 t.lo, .int .i64 t.hi, .int .i64 t.most, .slice X1 t.names.length X3, .slice Y1 k.len Y3, .string t.name, .int .i64 t.nat] _ rT Tryz.underlying30 rfl (by kernel_rfl) ?_; go_simp)
  refine cT.out _ (Lib.hid fun w1 m1 => ?_)
  clear cT rT a0 a6
  have fin := Lib.hid (hR.out.out _ (n.trans (m1.mono n.size)))
  clear hR
  go_wp2_with fail
  exact fin.out
end Go.Proofs.YtbochlbgjnmgjaaGreat.Unp

/- Layer 17: the reference: types. -/
set_option maxRecDepth 100000
set_option linter.unusedVariables false
namespace Go.Proofs.YtbochlbgjnmgjaaGreat.Unp
open Go.RowKit Go.Lib Go.Proofs.YtbochlbgjnmgjaaGreat.Nam Go.Proofs.YtbochlbgjnmgjaaGreat.Lat Go.Proofs.YtbochlbgjnmgjaaGreat.Kin Go.Proofs.YtbochlbgjnmgjaaGreat.Dig

set_option maxRecDepth 100000 in
set_option maxHeartbeats 4000000 in
theorem reftyp7_calls (f : Ft) (ih : Fo.AllK TxQ f) (ta lo hi mo : Int) (ns : List Wr) (nm : ByteArray) (na : Int) (nv pv : Value) (w : World) (ok : okT (⟨7, ta, lo, hi, mo, ns, nm, na⟩ : TH) f) (gh : GoodH (⟨7, ta, lo, hi, mo, ns, nm, na⟩ : TH)) (ga : f.All GoodH GoodL) (fl : f.len ≤ maxLen) (hy : RdY w (⟨7, ta, lo, hi, mo, ns, nm, na⟩ : TH) f nv pv) (hz : (tRecord ++ sepT tComma (fun x => fldT x.1 x.2) 0 (txF f) ++ tRbrace).size ≤ 1000000000) (R : Ending → World → Prop)
    (hR : Hid (∀ w', Below w.heap.size w w' → R (.returned (.string (tRecord ++ sepT tComma (fun x => fldT x.1 x.2) 0 (txF f) ++ tRbrace))) w')) : Calls Tryz.prog 45 #[.agg #[.int .i64 7, .int .i64 ta, .int .i64 lo, .int .i64 hi, .int .i64 mo, nv, pv, .string nm, .int .i64 na]] w R := by
  obtain ⟨N1, N3, rfl, -, -⟩ := hy.n.op
  obtain ⟨M1, M3, rfl, -⟩ := hy.p.sl
  have ilo : I64 lo := gh.2.2.1
  have ihi : I64 hi := gh.2.2.2.1
  have imo : I64 mo := gh.2.2.2.2.1
  have s1 := put_sz ilo
  have s2 := put_sz ihi
  have s3 := put_sz imo
  have hA := heap_alloc_new w (.cells #[.int .i64 7, .int .i64 ta, .int .i64 lo, .int .i64 hi, .int .i64 mo, .slice N1 ns.length N3, .slice M1 f.len M3, .string nm, .int .i64 na] 30)
  have n := (Below.refl w.heap.size w).alloc (Nat.le_refl _) (.cells #[.int .i64 7, .int .i64 ta, .int .i64 lo, .int .i64 hi, .int .i64 mo, .slice N1 ns.length N3, .slice M1 f.len M3, .string nm, .int .i64 na] 30)
  replace hy := Lib.hid (hy.below n)
  replace ok := Lib.hid ok
  replace gh := Lib.hid gh
  replace hR := Lib.hid hR
  go_enter Tryz.func45, Tryz.ntmps45
  go_upto_region 1 with fail
  generalize w.alloc (.cells #[.int .i64 7, .int .i64 ta, .int .i64 lo, .int .i64 hi, .int .i64 mo, .slice N1 ns.length N3, .slice M1 f.len M3, .string nm, .int .i64 na] 30) = V at *
  generalize w.heap.size = P at hA ⊢
  have hlA := blt hA
  have e_tRecord : tRecord.size = 7 := rfl
  have e_tRbrace : tRbrace.size = 1 := rfl
  have e_tComma : tComma.size = 2 := rfl
  (try simp only [ByteArray.size_append] at hz)
  have hfl : f.len ≤ 9223372036854775807 := fl
  have hns : ns = [] := by
    have ho := ok.out.1.2.2.1
    unfold ownB at ho
    simp only [decide_eq_true_eq] at ho
    rcases ho.2.2.1 with q | q
    · exact absurd q (by decide)
    · exact q
  subst hns
  simp only [List.length_nil] at hA
  have hS : tRecord ++ sepT tComma (fun x => fldT x.1 x.2) 0 (txF f) = tRecord ++ sepT tComma (fun x => fldT x.1 x.2) 0 ((txF f).drop 0) := rfl
  have hz2 : (tRecord ++ sepT tComma (fun x => fldT x.1 x.2) 0 (txF f)).size ≤ 1000000000 := by rw [ByteArray.size_append]; omega
  generalize tRecord ++ sepT tComma (fun x => fldT x.1 x.2) 0 (txF f) = T at *
  have a0 := (Lib.cell_of_heap hA 0).trans rfl
  have a5 := (Lib.cell_of_heap hA 5).trans rfl
  go_upto_region 15 with fail
  replace hA := Lib.hid hA
  go_loopg [3, 5] 0 (fun g0 s i wr => i = .int .i64 0 ∧ s = .string tEnum ∧ V = wr)
  case atStart => exact ⟨rfl, rfl, rfl⟩
  obtain ⟨rfl, rfl, rfl⟩ := hrel
  replace hA := hA.out
  go_upto_region 24 with fail
  clear a0 a5
  go_loopg [3, 6] f.len (fun g0 s i wr => ∃ (J : Nat) (c : ByteArray), i = .int .i64 J ∧ s = .string c ∧ J + g0 = f.len ∧ Hid (T = c ++ sepT tComma (fun x => fldT x.1 x.2) J ((txF f).drop J)) ∧ Hid (Below V.heap.size V wr))
  case atStart => exact ⟨0, _, rfl, rfl, by omega, Lib.hid hS, Lib.hid (Below.refl _ _)⟩
  case round =>
    clear hS
    obtain ⟨J, c, rfl, rfl, c1, hc, nb⟩ := hrel
    replace hc := hc.out
    replace nb := nb.out
    have hAr := (nb.block _ hlA).trans hA
    have hlr := blt hAr
    by_cases hJ : J < f.len
    · obtain ⟨p, t, k, r, e⟩ := Fo.drop_lt hJ
      have hd : (txF f).drop J = (p, txT t k) :: (txF f).drop (J + 1) := by rw [← txF_drop, ← txF_drop, e, Fo.drop_succ J e]; rfl
      obtain ⟨g, o, lv, cv, nv, pv, rfl, hg, rl, rc, ry, hca⟩ := (hy.out.below nb).p.part e
      have rd : RdPt wr p t k lv cv nv pv := ⟨rl, rc, ry⟩
      obtain ⟨L1, d1, L2, d2, N1', N3', M1', M3', rfl, rfl, rfl, rfl⟩ := rd.op
      obtain ⟨q1, q2⟩ := okF_at J ok.out.2 e
      obtain ⟨gp, gt, gk', gka⟩ := all_at J ga e
      have ihk := ih.at_ e
      have pt : PtW 7 p t k := ⟨q1 (.inl rfl), q2, gp, gt, gka, gk'⟩
      rw [hd] at hc
      have hc' : T = c ++ ((if J = 0 then fldT p (txT t k) else tComma ++ fldT p (txT t k)) ++ sepT tComma (fun x => fldT x.1 x.2) (J + 1) ((txF f).drop (J + 1))) := hc
      clear hc hd e rl rc ry q1 q2
      have hc := hc'
      clear hc'
      have i0 : (0 : Int) ≤ (J : Int) := by omega
      have i1 : (J : Int) < (f.len : Int) := by omega
      have hcz : c.size ≤ 1000000000 := by rw [hc, ByteArray.size_append] at hz2; omega
      have hc2 : T = (if (0 : Int) < (J : Int) then c ++ tComma else c) ++ fldT p (txT t k) ++ sepT tComma (fun x => fldT x.1 x.2) (J + 1) ((txF f).drop (J + 1)) := by
        rw [hc]
        by_cases h : J = 0
        · rw [if_pos h, if_neg (by omega)]; simp only [ByteArray.append_assoc]
        · rw [if_neg h, if_pos (by omega)]; simp only [ByteArray.append_assoc]
      generalize hcc : (if (0 : Int) < (J : Int) then c ++ tComma else c) = cc at *
      have z0 : cc.size ≤ 1000000000 := by rw [hc2, ByteArray.size_append, ByteArray.size_append] at hz2; omega
      have z1 : (fldT p (txT t k)).size ≤ 1000000000 := by rw [hc2, ByteArray.size_append, ByteArray.size_append] at hz2; omega
      have cA := fun x : BW wr => refcomma17_calls c J x.w hcz (fun e w' => e = .returned (.string cc) ∧ Below x.w.heap.size x.w w') (Lib.hid fun _ n => ⟨by rw [hcc], n⟩)
      replace cA := Lib.hid cA
      have cB := Lib.hid fun x : BW wr => refpart17_calls p t k ihk 7 false (.inl ⟨rfl, rfl⟩) pt (.slice L1 p.label.length d1) (.slice L2 p.cl.length d2) (.slice N1' t.names.length N3') (.slice M1' k.len M3') x.w (rd.below x.b) z1 (fun e w' => e = .returned (.string (fldT p (txT t k))) ∧ Below x.w.heap.size x.w w') (Lib.hid fun _ n => ⟨rfl, n⟩)
      generalize fldT p (txT t k) = Z at *
      replace hc2 := Lib.hid hc2
      have a6 := (Lib.cell_of_heap hAr 6).trans rfl
      clear hc hcc hcz
      go_upto_region 26 with fail
      clear a6
      have k6 := fun x : BW wr => x.cell hlr ((Lib.cell_of_heap hAr 6).trans rfl)
      have k0 := fun x : BW wr => x.cell hlr ((Lib.cell_of_heap hAr 0).trans rfl)
      have rk : ∀ x : BW wr, x.w.rangeAt g (o + J * 18) [.string p.name, .int .i64 p.at_, .bool p.bare, .slice L1 p.label.length d1, .int .i64 p.wide, .int .i64 p.ck, .int .i64 p.cn, .int .i64 p.cat, .slice L2 p.cl.length d2, .int .i64 t.kind, .int .i64 t.at_, .int .i64 t.lo, .int .i64 t.hi, .int .i64 t.most, .slice N1' t.names.length N3', .slice M1' k.len M3', .string t.name, .int .i64 t.nat] := fun x j v h => x.cell hg (hca j v h)
      clear hca
      refine wp_region_below_lit (by kernel_rfl) (by kernel_rfl) ?_
      refine wpQuiet_k fun Kp hKp => ?_
      iterate 7 (go_big_quiet_step ((first | (with_reducible exact calls_below (cA.out _)) | (with_reducible exact calls_below (cB.out _)))))
      refine wpQuiet_load rfl 75 _ rfl g (o + J * 18) rfl [.string p.name, .int .i64 p.at_, .bool p.bare, .slice L1 p.label.length d1, .int .i64 p.wide, .int .i64 p.ck, .int .i64 p.cn, .int .i64 p.cat, .slice L2 p.cl.length d2, .int .i64 t.kind, .int .i64 t.at_, .int .i64 t.lo, .int .i64 t.hi, .int .i64 t.most, .slice N1' t.names.length N3', .slice M1' k.len M3', .string t.name, .int .i64 t.nat] _ (by rintro V ⟨y, rfl⟩; exact rk y) Tryz.underlying75 rfl (by kernel_rfl) ?_
      go_simp
      repeat (go_big_quiet_step ((first | (with_reducible exact calls_below (cA.out _)) | (with_reducible exact calls_below (cB.out _)))))
      refine wpQuiet_nil ?_
      refine hKp _ ?_
      clear hKp
      rintro _ ⟨y, rfl⟩
      have m1 := y.b
      generalize y.w = w1 at *
      clear cA cB k6 k0 rk
      have nb2 := Lib.hid (nb.trans (m1.mono nb.size))
      clear m1 nb
      go_wp2_with fail
      go_roundg (gk - 1)
      case measure => omega
      case rel => exact ⟨J + 1, cc ++ Z, by go_num, rfl, by omega, hc2, nb2⟩
    · obtain rfl : J = f.len := by omega
      rw [← txF_len, sep_end, ByteArray.append_empty] at hc
      subst hc
      have fin := Lib.hid (hR.out.out _ (n.trans (nb.mono n.size)))
      clear hR
      have z0 : (T).size ≤ 1000000000 := by (try simp only [ByteArray.size_append]); omega
      have z1 : (tRbrace).size ≤ 1000000000 := by (try simp only [ByteArray.size_append]); omega
      have a0 := (Lib.cell_of_heap hAr 0).trans rfl
      have a6 := (Lib.cell_of_heap hAr 6).trans rfl
      go_wp2_with fail
      exact fin.out
set_option maxRecDepth 100000 in
set_option maxHeartbeats 4000000 in
theorem reftyp8_calls (f : Ft) (ih : Fo.AllK TxQ f) (ta lo hi mo : Int) (ns : List Wr) (nm : ByteArray) (na : Int) (nv pv : Value) (w : World) (ok : okT (⟨8, ta, lo, hi, mo, ns, nm, na⟩ : TH) f) (gh : GoodH (⟨8, ta, lo, hi, mo, ns, nm, na⟩ : TH)) (ga : f.All GoodH GoodL) (fl : f.len ≤ maxLen) (hy : RdY w (⟨8, ta, lo, hi, mo, ns, nm, na⟩ : TH) f nv pv) (hz : (tUnion ++ sepT tComma (fun x => tagT x.1 x.2) 0 (txF f) ++ tRbrace).size ≤ 1000000000) (R : Ending → World → Prop)
    (hR : Hid (∀ w', Below w.heap.size w w' → R (.returned (.string (tUnion ++ sepT tComma (fun x => tagT x.1 x.2) 0 (txF f) ++ tRbrace))) w')) : Calls Tryz.prog 45 #[.agg #[.int .i64 8, .int .i64 ta, .int .i64 lo, .int .i64 hi, .int .i64 mo, nv, pv, .string nm, .int .i64 na]] w R := by
  obtain ⟨N1, N3, rfl, -, -⟩ := hy.n.op
  obtain ⟨M1, M3, rfl, -⟩ := hy.p.sl
  have ilo : I64 lo := gh.2.2.1
  have ihi : I64 hi := gh.2.2.2.1
  have imo : I64 mo := gh.2.2.2.2.1
  have s1 := put_sz ilo
  have s2 := put_sz ihi
  have s3 := put_sz imo
  have hA := heap_alloc_new w (.cells #[.int .i64 8, .int .i64 ta, .int .i64 lo, .int .i64 hi, .int .i64 mo, .slice N1 ns.length N3, .slice M1 f.len M3, .string nm, .int .i64 na] 30)
  have n := (Below.refl w.heap.size w).alloc (Nat.le_refl _) (.cells #[.int .i64 8, .int .i64 ta, .int .i64 lo, .int .i64 hi, .int .i64 mo, .slice N1 ns.length N3, .slice M1 f.len M3, .string nm, .int .i64 na] 30)
  replace hy := Lib.hid (hy.below n)
  replace ok := Lib.hid ok
  replace gh := Lib.hid gh
  replace hR := Lib.hid hR
  go_enter Tryz.func45, Tryz.ntmps45
  go_upto_region 1 with fail
  generalize w.alloc (.cells #[.int .i64 8, .int .i64 ta, .int .i64 lo, .int .i64 hi, .int .i64 mo, .slice N1 ns.length N3, .slice M1 f.len M3, .string nm, .int .i64 na] 30) = V at *
  generalize w.heap.size = P at hA ⊢
  have hlA := blt hA
  have e_tUnion : tUnion.size = 6 := rfl
  have e_tRbrace : tRbrace.size = 1 := rfl
  have e_tComma : tComma.size = 2 := rfl
  (try simp only [ByteArray.size_append] at hz)
  have hfl : f.len ≤ 9223372036854775807 := fl
  have hns : ns = [] := by
    have ho := ok.out.1.2.2.1
    unfold ownB at ho
    simp only [decide_eq_true_eq] at ho
    rcases ho.2.2.1 with q | q
    · exact absurd q (by decide)
    · exact q
  subst hns
  simp only [List.length_nil] at hA
  have hS : tUnion ++ sepT tComma (fun x => tagT x.1 x.2) 0 (txF f) = tUnion ++ sepT tComma (fun x => tagT x.1 x.2) 0 ((txF f).drop 0) := rfl
  have hz2 : (tUnion ++ sepT tComma (fun x => tagT x.1 x.2) 0 (txF f)).size ≤ 1000000000 := by rw [ByteArray.size_append]; omega
  generalize tUnion ++ sepT tComma (fun x => tagT x.1 x.2) 0 (txF f) = T at *
  have a0 := (Lib.cell_of_heap hA 0).trans rfl
  have a5 := (Lib.cell_of_heap hA 5).trans rfl
  go_upto_region 15 with fail
  replace hA := Lib.hid hA
  go_loopg [3, 5] 0 (fun g0 s i wr => i = .int .i64 0 ∧ s = .string tEnum ∧ V = wr)
  case atStart => exact ⟨rfl, rfl, rfl⟩
  obtain ⟨rfl, rfl, rfl⟩ := hrel
  replace hA := hA.out
  go_upto_region 24 with fail
  clear a0 a5
  go_loopg [3, 6] f.len (fun g0 s i wr => ∃ (J : Nat) (c : ByteArray), i = .int .i64 J ∧ s = .string c ∧ J + g0 = f.len ∧ Hid (T = c ++ sepT tComma (fun x => tagT x.1 x.2) J ((txF f).drop J)) ∧ Hid (Below V.heap.size V wr))
  case atStart => exact ⟨0, _, rfl, rfl, by omega, Lib.hid hS, Lib.hid (Below.refl _ _)⟩
  case round =>
    clear hS
    obtain ⟨J, c, rfl, rfl, c1, hc, nb⟩ := hrel
    replace hc := hc.out
    replace nb := nb.out
    have hAr := (nb.block _ hlA).trans hA
    have hlr := blt hAr
    by_cases hJ : J < f.len
    · obtain ⟨p, t, k, r, e⟩ := Fo.drop_lt hJ
      have hd : (txF f).drop J = (p, txT t k) :: (txF f).drop (J + 1) := by rw [← txF_drop, ← txF_drop, e, Fo.drop_succ J e]; rfl
      obtain ⟨g, o, lv, cv, nv, pv, rfl, hg, rl, rc, ry, hca⟩ := (hy.out.below nb).p.part e
      have rd : RdPt wr p t k lv cv nv pv := ⟨rl, rc, ry⟩
      obtain ⟨L1, d1, L2, d2, N1', N3', M1', M3', rfl, rfl, rfl, rfl⟩ := rd.op
      obtain ⟨q1, q2⟩ := okF_at J ok.out.2 e
      obtain ⟨gp, gt, gk', gka⟩ := all_at J ga e
      have ihk := ih.at_ e
      have pt : PtW 8 p t k := ⟨q1 (.inr rfl), q2, gp, gt, gka, gk'⟩
      rw [hd] at hc
      have hc' : T = c ++ ((if J = 0 then tagT p (txT t k) else tComma ++ tagT p (txT t k)) ++ sepT tComma (fun x => tagT x.1 x.2) (J + 1) ((txF f).drop (J + 1))) := hc
      clear hc hd e rl rc ry q1 q2
      have hc := hc'
      clear hc'
      have i0 : (0 : Int) ≤ (J : Int) := by omega
      have i1 : (J : Int) < (f.len : Int) := by omega
      have hcz : c.size ≤ 1000000000 := by rw [hc, ByteArray.size_append] at hz2; omega
      have hc2 : T = (if (0 : Int) < (J : Int) then c ++ tComma else c) ++ tagT p (txT t k) ++ sepT tComma (fun x => tagT x.1 x.2) (J + 1) ((txF f).drop (J + 1)) := by
        rw [hc]
        by_cases h : J = 0
        · rw [if_pos h, if_neg (by omega)]; simp only [ByteArray.append_assoc]
        · rw [if_neg h, if_pos (by omega)]; simp only [ByteArray.append_assoc]
      generalize hcc : (if (0 : Int) < (J : Int) then c ++ tComma else c) = cc at *
      have z0 : cc.size ≤ 1000000000 := by rw [hc2, ByteArray.size_append, ByteArray.size_append] at hz2; omega
      have z1 : (tagT p (txT t k)).size ≤ 1000000000 := by rw [hc2, ByteArray.size_append, ByteArray.size_append] at hz2; omega
      have cA := fun x : BW wr => refcomma17_calls c J x.w hcz (fun e w' => e = .returned (.string cc) ∧ Below x.w.heap.size x.w w') (Lib.hid fun _ n => ⟨by rw [hcc], n⟩)
      replace cA := Lib.hid cA
      have cB := Lib.hid fun x : BW wr => refpart17_calls p t k ihk 8 true (.inr ⟨rfl, rfl⟩) pt (.slice L1 p.label.length d1) (.slice L2 p.cl.length d2) (.slice N1' t.names.length N3') (.slice M1' k.len M3') x.w (rd.below x.b) z1 (fun e w' => e = .returned (.string (tagT p (txT t k))) ∧ Below x.w.heap.size x.w w') (Lib.hid fun _ n => ⟨rfl, n⟩)
      generalize tagT p (txT t k) = Z at *
      replace hc2 := Lib.hid hc2
      have a6 := (Lib.cell_of_heap hAr 6).trans rfl
      clear hc hcc hcz
      go_upto_region 26 with fail
      clear a6
      have k6 := fun x : BW wr => x.cell hlr ((Lib.cell_of_heap hAr 6).trans rfl)
      have k0 := fun x : BW wr => x.cell hlr ((Lib.cell_of_heap hAr 0).trans rfl)
      have rk : ∀ x : BW wr, x.w.rangeAt g (o + J * 18) [.string p.name, .int .i64 p.at_, .bool p.bare, .slice L1 p.label.length d1, .int .i64 p.wide, .int .i64 p.ck, .int .i64 p.cn, .int .i64 p.cat, .slice L2 p.cl.length d2, .int .i64 t.kind, .int .i64 t.at_, .int .i64 t.lo, .int .i64 t.hi, .int .i64 t.most, .slice N1' t.names.length N3', .slice M1' k.len M3', .string t.name, .int .i64 t.nat] := fun x j v h => x.cell hg (hca j v h)
      clear hca
      refine wp_region_below_lit (by kernel_rfl) (by kernel_rfl) ?_
      refine wpQuiet_k fun Kp hKp => ?_
      iterate 7 (go_big_quiet_step ((first | (with_reducible exact calls_below (cA.out _)) | (with_reducible exact calls_below (cB.out _)))))
      refine wpQuiet_load rfl 75 _ rfl g (o + J * 18) rfl [.string p.name, .int .i64 p.at_, .bool p.bare, .slice L1 p.label.length d1, .int .i64 p.wide, .int .i64 p.ck, .int .i64 p.cn, .int .i64 p.cat, .slice L2 p.cl.length d2, .int .i64 t.kind, .int .i64 t.at_, .int .i64 t.lo, .int .i64 t.hi, .int .i64 t.most, .slice N1' t.names.length N3', .slice M1' k.len M3', .string t.name, .int .i64 t.nat] _ (by rintro V ⟨y, rfl⟩; exact rk y) Tryz.underlying75 rfl (by kernel_rfl) ?_
      go_simp
      repeat (go_big_quiet_step ((first | (with_reducible exact calls_below (cA.out _)) | (with_reducible exact calls_below (cB.out _)))))
      refine wpQuiet_nil ?_
      refine hKp _ ?_
      clear hKp
      rintro _ ⟨y, rfl⟩
      have m1 := y.b
      generalize y.w = w1 at *
      clear cA cB k6 k0 rk
      have nb2 := Lib.hid (nb.trans (m1.mono nb.size))
      clear m1 nb
      go_wp2_with fail
      go_roundg (gk - 1)
      case measure => omega
      case rel => exact ⟨J + 1, cc ++ Z, by go_num, rfl, by omega, hc2, nb2⟩
    · obtain rfl : J = f.len := by omega
      rw [← txF_len, sep_end, ByteArray.append_empty] at hc
      subst hc
      have fin := Lib.hid (hR.out.out _ (n.trans (nb.mono n.size)))
      clear hR
      have z0 : (T).size ≤ 1000000000 := by (try simp only [ByteArray.size_append]); omega
      have z1 : (tRbrace).size ≤ 1000000000 := by (try simp only [ByteArray.size_append]); omega
      have a0 := (Lib.cell_of_heap hAr 0).trans rfl
      have a6 := (Lib.cell_of_heap hAr 6).trans rfl
      go_wp2_with fail
      exact fin.out
end Go.Proofs.YtbochlbgjnmgjaaGreat.Unp

/- Layer 17: the reference: types. -/
set_option maxRecDepth 100000
set_option linter.unusedVariables false
namespace Go.Proofs.YtbochlbgjnmgjaaGreat.Unp
open Go.RowKit Go.Lib Go.Proofs.YtbochlbgjnmgjaaGreat.Nam Go.Proofs.YtbochlbgjnmgjaaGreat.Lat Go.Proofs.YtbochlbgjnmgjaaGreat.Kin Go.Proofs.YtbochlbgjnmgjaaGreat.Dig

theorem reftyp_step (f : Ft) (ih : Fo.AllK TxQ f) : TxQ f := by
  intro t nv pv w ok gh ga fl hy hz R hR
  obtain ⟨kd, ta, lo, hi, mo, ns, nm, na⟩ := t
  have h1 : 1 ≤ kd := ok.1.1
  have h9 : kd ≤ 9 := ok.1.2.1
  have : kd = 1 ∨ kd = 2 ∨ kd = 3 ∨ kd = 4 ∨ kd = 5 ∨ kd = 6 ∨ kd = 7 ∨ kd = 8 ∨ kd = 9 := by omega
  rcases this with rfl | rfl | rfl | rfl | rfl | rfl | rfl | rfl | rfl
  · exact reftyp1_calls f ih ta lo hi mo ns nm na nv pv w ok gh ga fl hy hz R hR
  · exact reftyp2_calls f ih ta lo hi mo ns nm na nv pv w ok gh ga fl hy hz R hR
  · exact reftyp3_calls f ih ta lo hi mo ns nm na nv pv w ok gh ga fl hy hz R hR
  · exact reftyp4_calls f ih ta lo hi mo ns nm na nv pv w ok gh ga fl hy hz R hR
  · exact reftyp5_calls f ih ta lo hi mo ns nm na nv pv w ok gh ga fl hy hz R hR
  · exact reftyp6_calls f ih ta lo hi mo ns nm na nv pv w ok gh ga fl hy hz R hR
  · exact reftyp7_calls f ih ta lo hi mo ns nm na nv pv w ok gh ga fl hy hz R hR
  · exact reftyp8_calls f ih ta lo hi mo ns nm na nv pv w ok gh ga fl hy hz R hR
  · exact reftyp9_calls f ih ta lo hi mo ns nm na nv pv w ok gh ga fl hy hz R hR
theorem reftyp_calls (f : Ft) : TxQ f := Fo.deep reftyp_step f
end Go.Proofs.YtbochlbgjnmgjaaGreat.Unp
