/- Layer 17: the law UnparseTypes walked. -/
import Derived.Test.YtbochlbgjnmgjaaZUnuA
import Derived.Test.YtbochlbgjnmgjaaG11
import Derived.Test.YtbochlbgjnmgjaaZTypR
set_option maxRecDepth 100000
set_option linter.unusedVariables false
namespace Go.Proofs.Ytbochlbgjnmgjaa.Unp
open Go.RowKit Go.Lib Go.Proofs.Ytbochlbgjnmgjaa.Nam Go.Proofs.Ytbochlbgjnmgjaa.Lat Go.Proofs.Ytbochlbgjnmgjaa.Kin Go.Proofs.Ytbochlbgjnmgjaa.Dig

theorem run_fieldF (e z : Int) (m : Nat) (w : World) : (Instr.field 35 (wV e z m) 0).run Try.prog w = .ok (.agg #[.int .i64 e, .int .i64 z]) w := by
  simp [wV, Instr.field, run_underlying Try.underlying35, part, asAgg, Try.isAgg33, go_sem]
set_option maxRecDepth 100000 in
set_option maxHeartbeats 4000000 in
theorem types17_walk (f : Ft) (t : TH) (nv pv : Value) (w : World) (gh : GoodH t) (hfl : f.len ≤ maxLen) (hga : f.All GoodH GoodL) (hy : RdY w t f nv pv) (R : Ending → World → Prop)
    (hR : Hid (∀ w', Below w.heap.size w w' → R (.returned (.bool true)) w')) : Calls Try.prog 3 #[tyV t nv pv] w R := by
  obtain ⟨N1, N3, rfl, -, -⟩ := hy.n.op
  obtain ⟨M1, M3, rfl, -⟩ := hy.p.sl
  have hA := heap_alloc_new w (.cells #[.int .i64 t.kind, .int .i64 t.at_, .int .i64 t.lo, .int .i64 t.hi, .int .i64 t.most, .slice N1 t.names.length N3, .slice M1 f.len M3, .string t.name, .int .i64 t.nat] 27)
  have n := (Below.refl w.heap.size w).alloc (Nat.le_refl _) (.cells #[.int .i64 t.kind, .int .i64 t.at_, .int .i64 t.lo, .int .i64 t.hi, .int .i64 t.most, .slice N1 t.names.length N3, .slice M1 f.len M3, .string t.name, .int .i64 t.nat] 27)
  replace hy := Lib.hid (hy.below n)
  replace hR := Lib.hid hR
  go_enter Try.func3, Try.ntmps3
  go_upto_region 1 with fail
  generalize w.alloc (.cells #[.int .i64 t.kind, .int .i64 t.at_, .int .i64 t.lo, .int .i64 t.hi, .int .i64 t.most, .slice N1 t.names.length N3, .slice M1 f.len M3, .string t.name, .int .i64 t.nat] 27) = V at *
  generalize w.heap.size = P at hA ⊢
  have rT : V.rangeAt P 0 [.int .i64 t.kind, .int .i64 t.at_, .int .i64 t.lo, .int .i64 t.hi, .int .i64 t.most, .slice N1 t.names.length N3, .slice M1 f.len M3, .string t.name, .int .i64 t.nat] := fun j v e => by rw [Nat.zero_add, Lib.cell_of_heap hA]; simpa using e
  have cS := Lib.hid fun R hR => size15_calls f t (.slice N1 t.names.length N3) (.slice M1 f.len M3) V hfl hga hy.out R hR
  go_wp2_with (refine wpList_load_g (by rfl) 27 _ rfl P 0 rfl [.int .i64 t.kind, .int .i64 t.at_, .int .i64 t.lo, .int .i64 t.hi, .int .i64 t.most, .slice N1 t.names.length N3, .slice M1 f.len M3, .string t.name, .int .i64 t.nat] _ rT Try.underlying27 rfl (by kernel_rfl) ?_; go_simp)
  refine cS.out _ (Lib.hid fun w1 m1 => ?_)
  replace hA := (m1.block _ (blt hA)).trans hA
  replace hy := Lib.hid (hy.out.below m1)
  replace n := n.trans (m1.mono n.size)
  clear cS rT m1
  generalize cW f 1 = NN at *
  generalize wrap64 (dW f 0 + 1) = DD at *
  by_cases h1 : 2000 < NN
  · clear hA hy
    go_wp2_with fail
    refine lives17_calls _ _ (Lib.hid fun w9 m9 => ?_)
    have fin := Lib.hid (hR.out.out _ (n.trans (m9.mono n.size)))
    clear hR m9
    go_wp2_with fail
    exact fin.out
  by_cases h2 : 60 < DD
  · clear hA hy
    go_wp2_with fail
    refine lives17_calls _ _ (Lib.hid fun w9 m9 => ?_)
    have fin := Lib.hid (hR.out.out _ (n.trans (m9.mono n.size)))
    clear hR m9
    go_wp2_with fail
    exact fin.out
  have rT : w1.rangeAt P 0 [.int .i64 t.kind, .int .i64 t.at_, .int .i64 t.lo, .int .i64 t.hi, .int .i64 t.most, .slice N1 t.names.length N3, .slice M1 f.len M3, .string t.name, .int .i64 t.nat] := fun j v e => by rw [Nat.zero_add, Lib.cell_of_heap hA]; simpa using e
  have cW := Lib.hid fun R hR => wrong15_calls f t (.slice N1 t.names.length N3) (.slice M1 f.len M3) 0 1 w1 (by omega) (by omega) gh hfl hga hy.out R hR
  have hiff := wc_iff t f 1 0
  replace hiff := Lib.hid hiff
  go_wp2_with (refine wpList_load_g (by rfl) 27 _ rfl P 0 rfl [.int .i64 t.kind, .int .i64 t.at_, .int .i64 t.lo, .int .i64 t.hi, .int .i64 t.most, .slice N1 t.names.length N3, .slice M1 f.len M3, .string t.name, .int .i64 t.nat] _ rT Try.underlying27 rfl (by kernel_rfl) ?_; go_simp)
  refine cW.out _ (Lib.hid fun w2 m2 => ?_)
  replace hA := (m2.block _ (blt hA)).trans hA
  replace hy := Lib.hid (hy.out.below m2)
  replace n := n.trans (m2.mono n.size)
  clear cW rT m2
  have cT := Lib.hid fun (W : World) (m : Below w2.heap.size w2 W) R hR => utype_calls f t (.slice N1 t.names.length N3) (.slice M1 f.len M3) W gh hfl hga (hy.out.below m) R hR
  have hq : typU t f = if (wcS t f).1 = 0 then txT t f else ByteArray.empty := rfl
  by_cases he : (wcS t f).1 = 0
  · have ok := (wc_ok he).1
    have hz := ok_size he gh hga
    have he2 : (wrB t f (wrF f) 1 0).1 = 0 := hiff.out.1 he
    rw [if_pos he] at hq
    rw [hq] at cT
    rw [he2]
    have cX := Lib.hid fun R hR => reftyp_calls f t (.slice N1 t.names.length N3) (.slice M1 f.len M3) w2 ok gh hga hfl hy.out hz R hR
    generalize txT t f = X at *
    generalize (wrB t f (wrF f) 1 0).2.1 = y1 at *
    generalize (wrB t f (wrF f) 1 0).2.2 = y2 at *
    clear he he2 hq hiff ok hz
    have hf1 := fun w => run_fieldF 0 y1 y2 w
    have hf2 := fun w => run_fieldE 0 y1 w
    have rT : w2.rangeAt P 0 [.int .i64 t.kind, .int .i64 t.at_, .int .i64 t.lo, .int .i64 t.hi, .int .i64 t.most, .slice N1 t.names.length N3, .slice M1 f.len M3, .string t.name, .int .i64 t.nat] := fun j v e => by rw [Nat.zero_add, Lib.cell_of_heap hA]; simpa using e
    go_wp2_with (refine wpList_load_g (by rfl) 27 _ rfl P 0 rfl [.int .i64 t.kind, .int .i64 t.at_, .int .i64 t.lo, .int .i64 t.hi, .int .i64 t.most, .slice N1 t.names.length N3, .slice M1 f.len M3, .string t.name, .int .i64 t.nat] _ rT Try.underlying27 rfl (by kernel_rfl) ?_; go_simp)
    refine cX.out _ (Lib.hid fun w3 m3 => ?_)
    replace hA := (m3.block _ (blt hA)).trans hA
    replace n := n.trans (m3.mono n.size)
    have cU := Lib.hid (cT.out w3 m3)
    clear cX cT m3 rT
    have rT : w3.rangeAt P 0 [.int .i64 t.kind, .int .i64 t.at_, .int .i64 t.lo, .int .i64 t.hi, .int .i64 t.most, .slice N1 t.names.length N3, .slice M1 f.len M3, .string t.name, .int .i64 t.nat] := fun j v e => by rw [Nat.zero_add, Lib.cell_of_heap hA]; simpa using e
    go_wp2_with (refine wpList_load_g (by rfl) 27 _ rfl P 0 rfl [.int .i64 t.kind, .int .i64 t.at_, .int .i64 t.lo, .int .i64 t.hi, .int .i64 t.most, .slice N1 t.names.length N3, .slice M1 f.len M3, .string t.name, .int .i64 t.nat] _ rT Try.underlying27 rfl (by kernel_rfl) ?_; go_simp)
    refine cU.out _ (Lib.hid fun w4 m4 => ?_)
    replace n := n.trans (m4.mono n.size)
    clear cU m4 rT hA
    have q0 : (X.toList == X.toList) = true := by simp
    go_wp2_with fail
    refine lives17_calls _ _ (Lib.hid fun w9 m9 => ?_)
    have fin := Lib.hid (hR.out.out _ (n.trans (m9.mono n.size)))
    clear hR m9
    go_wp2_with fail
    exact fin.out
  · have he2 : ¬ (wrB t f (wrF f) 1 0).1 = 0 := fun q => he (hiff.out.2 q)
    rw [if_neg he] at hq
    rw [hq] at cT
    generalize (wrB t f (wrF f) 1 0).1 = y0 at *
    generalize (wrB t f (wrF f) 1 0).2.1 = y1 at *
    generalize (wrB t f (wrF f) 1 0).2.2 = y2 at *
    have q1 : (y0 == 0) = false := by simpa using he2
    have cU := Lib.hid (cT.out w2 (Below.refl _ _))
    clear he he2 hq hiff cT
    have hf1 := fun w => run_fieldF y0 y1 y2 w
    have hf2 := fun w => run_fieldE y0 y1 w
    have rT : w2.rangeAt P 0 [.int .i64 t.kind, .int .i64 t.at_, .int .i64 t.lo, .int .i64 t.hi, .int .i64 t.most, .slice N1 t.names.length N3, .slice M1 f.len M3, .string t.name, .int .i64 t.nat] := fun j v e => by rw [Nat.zero_add, Lib.cell_of_heap hA]; simpa using e
    go_wp2_with (refine wpList_load_g (by rfl) 27 _ rfl P 0 rfl [.int .i64 t.kind, .int .i64 t.at_, .int .i64 t.lo, .int .i64 t.hi, .int .i64 t.most, .slice N1 t.names.length N3, .slice M1 f.len M3, .string t.name, .int .i64 t.nat] _ rT Try.underlying27 rfl (by kernel_rfl) ?_; go_simp)
    refine cU.out _ (Lib.hid fun w4 m4 => ?_)
    replace n := n.trans (m4.mono n.size)
    clear cU m4 rT hA
    go_wp2_with fail
    refine lives17_calls _ _ (Lib.hid fun w9 m9 => ?_)
    have fin := Lib.hid (hR.out.out _ (n.trans (m9.mono n.size)))
    clear hR m9
    go_wp2_with fail
    exact fin.out
end Go.Proofs.Ytbochlbgjnmgjaa.Unp
