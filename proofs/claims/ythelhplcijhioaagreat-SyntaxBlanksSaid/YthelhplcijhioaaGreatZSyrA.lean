/- Layer 16: the chapter's example; the law SyntaxBlanks walked. -/
import Derived.Test.YthelhplcijhioaaGreatG21
import Derived.Test.YthelhplcijhioaaGreatZSyqD
set_option maxRecDepth 100000
set_option linter.unusedVariables false
namespace Go.Proofs.YthelhplcijhioaaGreat.Syn
open Go.RowKit Go.Lib Go.Proofs.YthelhplcijhioaaGreat.Utf Go.Proofs.YthelhplcijhioaaGreat.Tok Go.Proofs.YthelhplcijhioaaGreat.Cur Go.Proofs.YthelhplcijhioaaGreat.Nam Go.Proofs.YthelhplcijhioaaGreat.Lat Go.Proofs.YthelhplcijhioaaGreat.Kin

set_option maxRecDepth 100000 in
set_option maxHeartbeats 2000000 in
theorem lives16_calls (w : World) (R : Ending → World → Prop) (hR : Hid (∀ w', Below w.heap.size w w' → R (.returned (.bool true)) w')) : Calls Tryz.prog 6 #[] w R := by
  have cT := fun (W : World) R hR => type_calls ⟨#[105, 110, 116, 40, 48, 46, 46, 57, 41]⟩ (by decide) W R hR
  rw [ex_all] at cT
  replace cT := Lib.hid cT
  go_enter Tryz.func6, Tryz.ntmps6
  go_wp2_with fail
  refine cT.out _ _ (Lib.hid fun w1 nv pv n1 r1 => ?_)
  obtain ⟨A3, c3, rfl, -, -⟩ := r1.n.op
  obtain ⟨A4, c4, rfl, -⟩ := r1.p.sl
  have m := (n1.alloc n1.size (.cells #[.int .i64 2, .int .i64 0, .int .i64 0, .int .i64 9, .int .i64 0, .slice A3 0 c3, .slice A4 0 c4, .string ⟨#[]⟩, .int .i64 0] 30))
  have fin := Lib.hid (hR.out _ (m.alloc m.size (.cells #[.int .i64 0, .int .i64 0] 35)))
  clear hR n1 r1 m cT
  go_wp2_with fail
  exact fin.out
set_option maxRecDepth 100000 in
set_option maxHeartbeats 4000000 in
theorem blanks16_walk (s : ByteArray) (hs : s.size ≤ maxLen) (w : World) (R : Ending → World → Prop) (hR : Hid (∀ w', Below w.heap.size w w' → R (.returned (.bool true)) w')) : Calls Tryz.prog 5 #[.string s] w R := by
  replace hs : s.size ≤ 9223372036854775807 := hs
  by_cases hbig : 4000 < s.size
  · have hi : (4000 : Int) < s.size := by omega
    clear hbig
    go_enter Tryz.func5, Tryz.ntmps5
    go_wp2_with fail
    refine lives16_calls w _ (Lib.hid fun w1 n1 => ?_)
    have fin := Lib.hid (hR.out _ n1)
    clear hR n1
    go_wp2_with fail
    exact fin.out
  · have hi : ¬ (4000 : Int) < s.size := by omega
    have hs1 : s.size ≤ 4000 := by omega
    have hz : (preS ++ s).size = s.size + 5 := by rw [ByteArray.size_append]; show 5 + s.size = _; omega
    obtain ⟨e1, e2, e3⟩ := blanks hs1
    have hl := len_typeS s
    have cT1 := Lib.hid fun (W : World) R hR => type_calls s hs W R hR
    have cT2 := Lib.hid fun (W : World) R hR => type_calls (preS ++ s) (by rw [hz]; unfold maxLen; omega) W R hR
    generalize typeS s = X at *
    generalize typeS (preS ++ s) = Y at *
    obtain ⟨⟨hh, ff⟩, e, z⟩ := X
    obtain ⟨⟨gg, kk⟩, e', z'⟩ := Y
    simp only at e1 e2 e3 hl cT1 cT2
    subst e1
    replace e2 := Lib.hid e2
    replace e3 := Lib.hid e3
    replace hl := Lib.hid hl
    clear hbig hz
    go_enter Tryz.func5, Tryz.ntmps5
    go_wp2_with fail
    refine cT1.out _ _ (Lib.hid fun w1 nv pv n1 r1 => ?_)
    obtain ⟨A3, c3, rfl, -, -⟩ := r1.n.op
    obtain ⟨A4, c4, rfl, -⟩ := r1.p.sl
    replace r1 := RdY.kp (emp_un (Nat.le_refl _) fun _ _ _ => rfl) r1
    have m1 := (Below.refl w1.heap.size w1).alloc (Nat.le_refl _) (.cells #[.int .i64 hh.kind, .int .i64 hh.at_, .int .i64 hh.lo, .int .i64 hh.hi, .int .i64 hh.most, .slice A3 hh.names.length c3, .slice A4 ff.len c4, .string hh.name, .int .i64 hh.nat] 30)
    have hA := heap_alloc_new w1 (.cells #[.int .i64 hh.kind, .int .i64 hh.at_, .int .i64 hh.lo, .int .i64 hh.hi, .int .i64 hh.most, .slice A3 hh.names.length c3, .slice A4 ff.len c4, .string hh.name, .int .i64 hh.nat] 30)
    have zz : (w1.alloc (.cells #[.int .i64 hh.kind, .int .i64 hh.at_, .int .i64 hh.lo, .int .i64 hh.hi, .int .i64 hh.most, .slice A3 hh.names.length c3, .slice A4 ff.len c4, .string hh.name, .int .i64 hh.nat] 30)).heap.size = w1.heap.size + 1 := by simp
    have hB := heap_alloc_new (w1.alloc (.cells #[.int .i64 hh.kind, .int .i64 hh.at_, .int .i64 hh.lo, .int .i64 hh.hi, .int .i64 hh.most, .slice A3 hh.names.length c3, .slice A4 ff.len c4, .string hh.name, .int .i64 hh.nat] 30)) (.cells #[.int .i64 e', .int .i64 z] 35)
    rw [zz] at hB
    replace hA := (((Below.refl _ _).alloc (Nat.le_refl _) (.cells #[.int .i64 e', .int .i64 z] 35)).block w1.heap.size (by omega)).trans hA
    replace m1 := m1.alloc m1.size (.cells #[.int .i64 e', .int .i64 z] 35)
    replace n1 := n1.trans (m1.mono n1.size)
    replace r1 := r1.below m1
    clear m1 zz
    go_upto_region 4 with fail
    generalize (w1.alloc (.cells #[.int .i64 hh.kind, .int .i64 hh.at_, .int .i64 hh.lo, .int .i64 hh.hi, .int .i64 hh.most, .slice A3 hh.names.length c3, .slice A4 ff.len c4, .string hh.name, .int .i64 hh.nat] 30)).alloc (.cells #[.int .i64 e', .int .i64 z] 35) = V1 at *
    generalize w1.heap.size = P at *
    go_wp2_with fail
    refine cT2.out _ _ (Lib.hid fun w2 nv pv n2 r2 => ?_)
    obtain ⟨A5, c5, rfl, -, -⟩ := r2.n.op
    obtain ⟨A6, c6, rfl, -⟩ := r2.p.sl
    replace r2 := RdY.kp (emp_un (Nat.le_refl _) fun _ _ _ => rfl) r2
    replace r1 := r1.below n2
    replace hA := (n2.block _ (bltK hA)).trans hA
    replace hB := (n2.block _ (bltK hB)).trans hB
    replace n1 := n1.trans (n2.mono n1.size)
    clear n2
    have m1 := (Below.refl w2.heap.size w2).alloc (Nat.le_refl _) (.cells #[.int .i64 gg.kind, .int .i64 gg.at_, .int .i64 gg.lo, .int .i64 gg.hi, .int .i64 gg.most, .slice A5 gg.names.length c5, .slice A6 kk.len c6, .string gg.name, .int .i64 gg.nat] 30)
    have hC := heap_alloc_new w2 (.cells #[.int .i64 gg.kind, .int .i64 gg.at_, .int .i64 gg.lo, .int .i64 gg.hi, .int .i64 gg.most, .slice A5 gg.names.length c5, .slice A6 kk.len c6, .string gg.name, .int .i64 gg.nat] 30)
    have zz : (w2.alloc (.cells #[.int .i64 gg.kind, .int .i64 gg.at_, .int .i64 gg.lo, .int .i64 gg.hi, .int .i64 gg.most, .slice A5 gg.names.length c5, .slice A6 kk.len c6, .string gg.name, .int .i64 gg.nat] 30)).heap.size = w2.heap.size + 1 := by simp
    have hD := heap_alloc_new (w2.alloc (.cells #[.int .i64 gg.kind, .int .i64 gg.at_, .int .i64 gg.lo, .int .i64 gg.hi, .int .i64 gg.most, .slice A5 gg.names.length c5, .slice A6 kk.len c6, .string gg.name, .int .i64 gg.nat] 30)) (.cells #[.int .i64 e', .int .i64 z'] 35)
    rw [zz] at hD
    replace hC := (((Below.refl _ _).alloc (Nat.le_refl _) (.cells #[.int .i64 e', .int .i64 z'] 35)).block w2.heap.size (by omega)).trans hC
    replace m1 := m1.alloc m1.size (.cells #[.int .i64 e', .int .i64 z'] 35)
    replace n1 := n1.trans (m1.mono n1.size)
    replace hA := (m1.block _ (bltK hA)).trans hA
    replace hB := (m1.block _ (bltK hB)).trans hB
    replace r1 := r1.below m1
    replace r2 := r2.below m1
    clear m1 zz cT1 cT2
    go_upto_region 5 with fail
    generalize (w2.alloc (.cells #[.int .i64 gg.kind, .int .i64 gg.at_, .int .i64 gg.lo, .int .i64 gg.hi, .int .i64 gg.most, .slice A5 gg.names.length c5, .slice A6 kk.len c6, .string gg.name, .int .i64 gg.nat] 30)).alloc (.cells #[.int .i64 e', .int .i64 z'] 35) = V2 at *
    generalize w2.heap.size = Q at *
    have b0 := (Lib.cell_of_heap hB 0).trans rfl
    have d0 := (Lib.cell_of_heap hD 0).trans rfl
    have q0 : (e' != e') = false := by simp
    by_cases he : e' = 0
    · have q1 : (e' == 0) = true := by simpa using he
      obtain ⟨f1, f2, f3, f4⟩ := e2.out he
      clear he
      go_upto_region 8 with fail
      clear b0 d0 q0 q1
      have rA : V2.rangeAt P 0 [.int .i64 hh.kind, .int .i64 hh.at_, .int .i64 hh.lo, .int .i64 hh.hi, .int .i64 hh.most, .slice A3 hh.names.length c3, .slice A4 ff.len c4, .string hh.name, .int .i64 hh.nat] := fun j v e => by rw [Nat.zero_add, Lib.cell_of_heap hA]; simpa using e
      have rC : V2.rangeAt Q 0 [.int .i64 gg.kind, .int .i64 gg.at_, .int .i64 gg.lo, .int .i64 gg.hi, .int .i64 gg.most, .slice A5 gg.names.length c5, .slice A6 kk.len c6, .string gg.name, .int .i64 gg.nat] := fun j v e => by rw [Nat.zero_add, Lib.cell_of_heap hC]; simpa using e
      have cS := Lib.hid fun R hR => sameL_calls ff hh gg kk (.slice A3 hh.names.length c3) (.slice A4 ff.len c4) (.slice A5 gg.names.length c5) (.slice A6 kk.len c6) V2 hl.out.1 hl.out.2.1 hl.out.2.2 r1 r2 R hR
      rw [f1] at cS
      have i1 : 4 < gg.at_ := by omega
      have i2 : gg.at_ ≤ 1000005 := by omega
      have i3 : (gg.at_ - 5 == hh.at_) = true := by rw [f2]; simp
      clear f1 f2 f3 f4 r1 r2 hl
      go_wp2_with (refine wpList_load_g (by rfl) 30 _ rfl P 0 rfl [.int .i64 hh.kind, .int .i64 hh.at_, .int .i64 hh.lo, .int .i64 hh.hi, .int .i64 hh.most, .slice A3 hh.names.length c3, .slice A4 ff.len c4, .string hh.name, .int .i64 hh.nat] _ rA Tryz.underlying30 rfl (by kernel_rfl) ?_; refine wpList_load_g (by rfl) 30 _ rfl Q 0 rfl [.int .i64 gg.kind, .int .i64 gg.at_, .int .i64 gg.lo, .int .i64 gg.hi, .int .i64 gg.most, .slice A5 gg.names.length c5, .slice A6 kk.len c6, .string gg.name, .int .i64 gg.nat] _ rC Tryz.underlying30 rfl (by kernel_rfl) ?_; go_simp)
      refine cS.out _ (Lib.hid fun w4 n4 => ?_)
      replace hA := (n4.block _ (bltK hA)).trans hA
      replace hC := (n4.block _ (bltK hC)).trans hC
      replace n1 := n1.trans (n4.mono n1.size)
      have a1 := (Lib.cell_of_heap hA 1).trans rfl
      have g1 := (Lib.cell_of_heap hC 1).trans rfl
      clear cS n4 rA rC
      go_wp2_with fail
      refine lives16_calls _ _ (Lib.hid fun w5 n5 => ?_)
      have fin := Lib.hid (hR.out _ (n1.trans (n5.mono n1.size)))
      clear hR n5 n1 a1 g1
      go_wp2_with fail
      exact fin.out
    · have q1 : (e' == 0) = false := by simpa using he
      obtain ⟨f2, f3, f4⟩ := e3.out he
      clear he
      have b1 := (Lib.cell_of_heap hB 1).trans rfl
      have d1 := (Lib.cell_of_heap hD 1).trans rfl
      have i1 : 4 < z' := by omega
      have i2 : z' ≤ 1000005 := by omega
      have i3 : (z' - 5 == z) = true := by rw [f2]; simp
      clear f2 f3 f4 r1 r2 hl
      go_wp2_with fail
      refine lives16_calls _ _ (Lib.hid fun w5 n5 => ?_)
      have fin := Lib.hid (hR.out _ (n1.trans (n5.mono n1.size)))
      clear hR n5 n1 b0 d0 b1 d1
      go_wp2_with fail
      exact fin.out

end Go.Proofs.YthelhplcijhioaaGreat.Syn
