import Derived.Test.YtbnmkbpjdelokaaGreatQ17
import Derived.Test.YtbnmkbpjdelokaaGreatQ15
import Derived.Test.YtbnmkbpjdelokaaGreatQ13
set_option linter.unusedVariables false
set_option maxRecDepth 100000
set_option maxHeartbeats 4000000
namespace Go.Proofs.YtbnmkbpjdelokaaGreat.Kin
open Go.RowKit Go.Lib Utf Nam Lat
theorem hasForeign_calls (f : Ft) (h : TH) (nv pv : Value) (w : World) (hk : 1 ≤ h.kind ∧ h.kind ≤ 9) (hm : h.names.length ≤ maxLen) (hfl : f.len ≤ maxLen) (hga : f.All GoodH GoodL) (hy : RdY w h f nv pv) (R : Ending → World → Prop)
    (hR : Hid (∀ w', Below w.heap.size w w' → R (.returned (.bool (!ownB h f))) w')) : Calls Tryz.prog 178 #[tyV h nv pv] w R := by
  obtain ⟨Ap, cp, rfl, hpl⟩ := hy.p.sl
  obtain ⟨An, cn, rfl, -, -⟩ := hy.n.op
  have b1 := (Below.refl w.heap.size w).alloc (Nat.le_refl _) (.cells #[.int .i64 h.kind, .int .i64 h.at_, .int .i64 h.lo, .int .i64 h.hi, .int .i64 h.most, .slice An h.names.length cn, .slice Ap f.len cp, .string h.name, .int .i64 h.nat] 29)
  have hA := heap_alloc_new w (.cells #[.int .i64 h.kind, .int .i64 h.at_, .int .i64 h.lo, .int .i64 h.hi, .int .i64 h.most, .slice An h.names.length cn, .slice Ap f.len cp, .string h.name, .int .i64 h.nat] 29)
  replace hy := Lib.hid hy
  replace hga := Lib.hid hga
  go_enter Tryz.func178, Tryz.ntmps178
  go_upto_region 1 with fail
  generalize w.alloc (.cells #[.int .i64 h.kind, .int .i64 h.at_, .int .i64 h.lo, .int .i64 h.hi, .int .i64 h.most, .slice An h.names.length cn, .slice Ap f.len cp, .string h.name, .int .i64 h.nat] 29) = V at *
  have t0 := (Lib.cell_of_heap hA 0).trans rfl
  have tf2 := Lib.frozen_of_heap hA 2
  have tc2 := (Lib.cell_of_heap hA 2).trans rfl
  have tf3 := Lib.frozen_of_heap hA 3
  have tc3 := (Lib.cell_of_heap hA 3).trans rfl
  have tf4 := Lib.frozen_of_heap hA 4
  have tc4 := (Lib.cell_of_heap hA 4).trans rfl
  have tf5 := Lib.frozen_of_heap hA 5
  have tc5 := (Lib.cell_of_heap hA 5).trans rfl
  have tf6 := Lib.frozen_of_heap hA 6
  have tc6 := (Lib.cell_of_heap hA 6).trans rfl
  have tf7 := Lib.frozen_of_heap hA 7
  have tc7 := (Lib.cell_of_heap hA 7).trans rfl
  have tf8 := Lib.frozen_of_heap hA 8
  have tc8 := (Lib.cell_of_heap hA 8).trans rfl
  have hc : h.kind = 1 ∨ h.kind = 2 ∨ h.kind = 3 ∨ h.kind = 4 ∨ h.kind = 5 ∨ h.kind = 6 ∨ h.kind = 7 ∨ h.kind = 8 ∨ h.kind = 9 := by omega
  clear hk
  rcases hc with q | q | q | q | q | q | q | q | q
  · have eo : sameS (⟨h.kind, h.at_, h.lo, h.hi, h.most, h.names, h.name, h.nat⟩ : TH) (f : Ft) ⟨h.kind, 0, 0, 0, 0, [], ByteArray.empty, 0⟩ .nil = ownB h f := by
      rw [Bool.eq_iff_iff]
      simp [sameS, headB, ownB, sameF_nil, sameW_nil, sameF, q, and_comm, and_left_comm, and_assoc]
    rw [q] at t0 eo hA
    have hV : V.heap[w.heap.size]? = some (.cells #[.int .i64 1, .int .i64 h.at_, .int .i64 h.lo, .int .i64 h.hi, .int .i64 h.most, .slice An h.names.length cn, .slice Ap f.len cp, .string h.name, .int .i64 h.nat] 29) := hA
    have nV := Lib.hid b1
    go_upto_region 16 with fail
    generalize V = V' at *
    clear tf2 tf3 tf4 tf5 tf6 tf7 tf8 tc2 tc3 tc4 tc5 tc6 tc7 tc8 t0
    have t0 := (Lib.cell_of_heap hV 0).trans rfl
    have r0 : V'.rangeAt w.heap.size 0 [.int .i64 1, .int .i64 h.at_, .int .i64 h.lo, .int .i64 h.hi, .int .i64 h.most, .slice An h.names.length cn, .slice Ap f.len cp, .string h.name, .int .i64 h.nat] := fun j v e => by rw [Nat.zero_add, Lib.cell_of_heap hV]; simpa using e
    have cS := Lib.hid fun R hR => (show Calls Tryz.prog 188 #[.agg #[.int .i64 1, .int .i64 h.at_, .int .i64 h.lo, .int .i64 h.hi, .int .i64 h.most, .slice An h.names.length cn, .slice Ap f.len cp, .string h.name, .int .i64 h.nat], .agg #[.int .i64 1, .int .i64 0, .int .i64 0, .int .i64 0, .int .i64 0, .slice none 0 0, .slice none 0 0, .string ⟨#[]⟩, .int .i64 0]] V' R from sameC_calls (f : Ft) (⟨1, h.at_, h.lo, h.hi, h.most, h.names, h.name, h.nat⟩ : TH) ⟨1, 0, 0, 0, 0, [], ByteArray.empty, 0⟩ .nil (.slice An h.names.length cn) (.slice Ap f.len cp) (.slice none 0 0) (.slice none 0 0) V' hm hfl hga.out ⟨(hy.out.below nV.out).n, (hy.out.below nV.out).p⟩ ⟨RdG.none0 _ _ _, RdSl.nil _ _ _⟩ R hR)
    rw [eo] at cS
    clear eo q hV
    go_wp2_with (refine wpList_load_g (by rfl) 29 _ rfl w.heap.size 0 rfl [.int .i64 1, .int .i64 h.at_, .int .i64 h.lo, .int .i64 h.hi, .int .i64 h.most, .slice An h.names.length cn, .slice Ap f.len cp, .string h.name, .int .i64 h.nat] _ r0 Tryz.underlying29 rfl (by kernel_rfl) ?_; go_simp)
    refine cS.out _ (Lib.hid fun wL nL => ?_)
    have fin := Lib.hid (hR.out _ (nV.out.trans (nL.mono nV.out.size)))
    generalize ownB h f = O at *
    clear hR nV nL cS r0 t0
    go_wp2_with fail
    exact fin.out
  · have eo : sameS (⟨h.kind, h.at_, 0, 0, h.most, h.names, h.name, h.nat⟩ : TH) (f : Ft) ⟨h.kind, 0, 0, 0, 0, [], ByteArray.empty, 0⟩ .nil = ownB h f := by
      rw [Bool.eq_iff_iff]
      simp [sameS, headB, ownB, sameF_nil, sameW_nil, sameF, q, and_comm, and_left_comm, and_assoc]
    rw [q] at t0 eo hA
    have hV : ((V.setCell ⟨w.heap.size, 2, none⟩ (.int .i64 0)).setCell ⟨w.heap.size, 3, none⟩ (.int .i64 0)).heap[w.heap.size]? = some (.cells #[.int .i64 2, .int .i64 h.at_, .int .i64 0, .int .i64 0, .int .i64 h.most, .slice An h.names.length cn, .slice Ap f.len cp, .string h.name, .int .i64 h.nat] 29) := (set_atK (set_atK hA 2 (.int .i64 0)) 3 (.int .i64 0))
    have nV := Lib.hid ((b1.setCell (p := ⟨w.heap.size, 2, none⟩) (Nat.le_refl _) (.int .i64 0)).setCell (p := ⟨w.heap.size, 3, none⟩) (Nat.le_refl _) (.int .i64 0))
    go_upto_region 16 with fail
    generalize ((V.setCell ⟨w.heap.size, 2, none⟩ (.int .i64 0)).setCell ⟨w.heap.size, 3, none⟩ (.int .i64 0)) = V' at *
    clear tf2 tf3 tf4 tf5 tf6 tf7 tf8 tc2 tc3 tc4 tc5 tc6 tc7 tc8 t0
    have t0 := (Lib.cell_of_heap hV 0).trans rfl
    have r0 : V'.rangeAt w.heap.size 0 [.int .i64 2, .int .i64 h.at_, .int .i64 0, .int .i64 0, .int .i64 h.most, .slice An h.names.length cn, .slice Ap f.len cp, .string h.name, .int .i64 h.nat] := fun j v e => by rw [Nat.zero_add, Lib.cell_of_heap hV]; simpa using e
    have cS := Lib.hid fun R hR => (show Calls Tryz.prog 188 #[.agg #[.int .i64 2, .int .i64 h.at_, .int .i64 0, .int .i64 0, .int .i64 h.most, .slice An h.names.length cn, .slice Ap f.len cp, .string h.name, .int .i64 h.nat], .agg #[.int .i64 2, .int .i64 0, .int .i64 0, .int .i64 0, .int .i64 0, .slice none 0 0, .slice none 0 0, .string ⟨#[]⟩, .int .i64 0]] V' R from sameC_calls (f : Ft) (⟨2, h.at_, 0, 0, h.most, h.names, h.name, h.nat⟩ : TH) ⟨2, 0, 0, 0, 0, [], ByteArray.empty, 0⟩ .nil (.slice An h.names.length cn) (.slice Ap f.len cp) (.slice none 0 0) (.slice none 0 0) V' hm hfl hga.out ⟨(hy.out.below nV.out).n, (hy.out.below nV.out).p⟩ ⟨RdG.none0 _ _ _, RdSl.nil _ _ _⟩ R hR)
    rw [eo] at cS
    clear eo q hV
    go_wp2_with (refine wpList_load_g (by rfl) 29 _ rfl w.heap.size 0 rfl [.int .i64 2, .int .i64 h.at_, .int .i64 0, .int .i64 0, .int .i64 h.most, .slice An h.names.length cn, .slice Ap f.len cp, .string h.name, .int .i64 h.nat] _ r0 Tryz.underlying29 rfl (by kernel_rfl) ?_; go_simp)
    refine cS.out _ (Lib.hid fun wL nL => ?_)
    have fin := Lib.hid (hR.out _ (nV.out.trans (nL.mono nV.out.size)))
    generalize ownB h f = O at *
    clear hR nV nL cS r0 t0
    go_wp2_with fail
    exact fin.out
  · have eo : sameS (⟨h.kind, h.at_, h.lo, h.hi, 0, h.names, h.name, h.nat⟩ : TH) (f : Ft) ⟨h.kind, 0, 0, 0, 0, [], ByteArray.empty, 0⟩ .nil = ownB h f := by
      rw [Bool.eq_iff_iff]
      simp [sameS, headB, ownB, sameF_nil, sameW_nil, sameF, q, and_comm, and_left_comm, and_assoc]
    rw [q] at t0 eo hA
    have hV : (V.setCell ⟨w.heap.size, 4, none⟩ (.int .i64 0)).heap[w.heap.size]? = some (.cells #[.int .i64 3, .int .i64 h.at_, .int .i64 h.lo, .int .i64 h.hi, .int .i64 0, .slice An h.names.length cn, .slice Ap f.len cp, .string h.name, .int .i64 h.nat] 29) := (set_atK hA 4 (.int .i64 0))
    have nV := Lib.hid (b1.setCell (p := ⟨w.heap.size, 4, none⟩) (Nat.le_refl _) (.int .i64 0))
    go_upto_region 16 with fail
    generalize (V.setCell ⟨w.heap.size, 4, none⟩ (.int .i64 0)) = V' at *
    clear tf2 tf3 tf4 tf5 tf6 tf7 tf8 tc2 tc3 tc4 tc5 tc6 tc7 tc8 t0
    have t0 := (Lib.cell_of_heap hV 0).trans rfl
    have r0 : V'.rangeAt w.heap.size 0 [.int .i64 3, .int .i64 h.at_, .int .i64 h.lo, .int .i64 h.hi, .int .i64 0, .slice An h.names.length cn, .slice Ap f.len cp, .string h.name, .int .i64 h.nat] := fun j v e => by rw [Nat.zero_add, Lib.cell_of_heap hV]; simpa using e
    have cS := Lib.hid fun R hR => (show Calls Tryz.prog 188 #[.agg #[.int .i64 3, .int .i64 h.at_, .int .i64 h.lo, .int .i64 h.hi, .int .i64 0, .slice An h.names.length cn, .slice Ap f.len cp, .string h.name, .int .i64 h.nat], .agg #[.int .i64 3, .int .i64 0, .int .i64 0, .int .i64 0, .int .i64 0, .slice none 0 0, .slice none 0 0, .string ⟨#[]⟩, .int .i64 0]] V' R from sameC_calls (f : Ft) (⟨3, h.at_, h.lo, h.hi, 0, h.names, h.name, h.nat⟩ : TH) ⟨3, 0, 0, 0, 0, [], ByteArray.empty, 0⟩ .nil (.slice An h.names.length cn) (.slice Ap f.len cp) (.slice none 0 0) (.slice none 0 0) V' hm hfl hga.out ⟨(hy.out.below nV.out).n, (hy.out.below nV.out).p⟩ ⟨RdG.none0 _ _ _, RdSl.nil _ _ _⟩ R hR)
    rw [eo] at cS
    clear eo q hV
    go_wp2_with (refine wpList_load_g (by rfl) 29 _ rfl w.heap.size 0 rfl [.int .i64 3, .int .i64 h.at_, .int .i64 h.lo, .int .i64 h.hi, .int .i64 0, .slice An h.names.length cn, .slice Ap f.len cp, .string h.name, .int .i64 h.nat] _ r0 Tryz.underlying29 rfl (by kernel_rfl) ?_; go_simp)
    refine cS.out _ (Lib.hid fun wL nL => ?_)
    have fin := Lib.hid (hR.out _ (nV.out.trans (nL.mono nV.out.size)))
    generalize ownB h f = O at *
    clear hR nV nL cS r0 t0
    go_wp2_with fail
    exact fin.out
  · have eo : sameS (⟨h.kind, h.at_, h.lo, h.hi, h.most, [], h.name, h.nat⟩ : TH) (f : Ft) ⟨h.kind, 0, 0, 0, 0, [], ByteArray.empty, 0⟩ .nil = ownB h f := by
      rw [Bool.eq_iff_iff]
      simp [sameS, headB, ownB, sameF_nil, sameW_nil, sameF, q, and_comm, and_left_comm, and_assoc]
    rw [q] at t0 eo hA
    have hV : (V.setCell ⟨w.heap.size, 5, none⟩ (.slice none 0 0)).heap[w.heap.size]? = some (.cells #[.int .i64 4, .int .i64 h.at_, .int .i64 h.lo, .int .i64 h.hi, .int .i64 h.most, .slice none 0 0, .slice Ap f.len cp, .string h.name, .int .i64 h.nat] 29) := (set_atK hA 5 (.slice none 0 0))
    have nV := Lib.hid (b1.setCell (p := ⟨w.heap.size, 5, none⟩) (Nat.le_refl _) (.slice none 0 0))
    go_upto_region 16 with fail
    generalize (V.setCell ⟨w.heap.size, 5, none⟩ (.slice none 0 0)) = V' at *
    clear tf2 tf3 tf4 tf5 tf6 tf7 tf8 tc2 tc3 tc4 tc5 tc6 tc7 tc8 t0
    have t0 := (Lib.cell_of_heap hV 0).trans rfl
    have r0 : V'.rangeAt w.heap.size 0 [.int .i64 4, .int .i64 h.at_, .int .i64 h.lo, .int .i64 h.hi, .int .i64 h.most, .slice none 0 0, .slice Ap f.len cp, .string h.name, .int .i64 h.nat] := fun j v e => by rw [Nat.zero_add, Lib.cell_of_heap hV]; simpa using e
    have cS := Lib.hid fun R hR => (show Calls Tryz.prog 188 #[.agg #[.int .i64 4, .int .i64 h.at_, .int .i64 h.lo, .int .i64 h.hi, .int .i64 h.most, .slice none 0 0, .slice Ap f.len cp, .string h.name, .int .i64 h.nat], .agg #[.int .i64 4, .int .i64 0, .int .i64 0, .int .i64 0, .int .i64 0, .slice none 0 0, .slice none 0 0, .string ⟨#[]⟩, .int .i64 0]] V' R from sameC_calls (f : Ft) (⟨4, h.at_, h.lo, h.hi, h.most, [], h.name, h.nat⟩ : TH) ⟨4, 0, 0, 0, 0, [], ByteArray.empty, 0⟩ .nil (.slice none 0 0) (.slice Ap f.len cp) (.slice none 0 0) (.slice none 0 0) V' (by show ([] : List Wr).length ≤ maxLen; exact Nat.zero_le _) hfl hga.out ⟨RdG.none0 _ _ _, (hy.out.below nV.out).p⟩ ⟨RdG.none0 _ _ _, RdSl.nil _ _ _⟩ R hR)
    rw [eo] at cS
    clear eo q hV
    go_wp2_with (refine wpList_load_g (by rfl) 29 _ rfl w.heap.size 0 rfl [.int .i64 4, .int .i64 h.at_, .int .i64 h.lo, .int .i64 h.hi, .int .i64 h.most, .slice none 0 0, .slice Ap f.len cp, .string h.name, .int .i64 h.nat] _ r0 Tryz.underlying29 rfl (by kernel_rfl) ?_; go_simp)
    refine cS.out _ (Lib.hid fun wL nL => ?_)
    have fin := Lib.hid (hR.out _ (nV.out.trans (nL.mono nV.out.size)))
    generalize ownB h f = O at *
    clear hR nV nL cS r0 t0
    go_wp2_with fail
    exact fin.out
  · have eo : sameS (⟨h.kind, h.at_, h.lo, h.hi, 0, h.names, h.name, h.nat⟩ : TH) (.nil : Ft) ⟨h.kind, 0, 0, 0, 0, [], ByteArray.empty, 0⟩ .nil = ownB h f := by
      rw [Bool.eq_iff_iff]
      simp [sameS, headB, ownB, sameF_nil, sameW_nil, sameF, q, and_comm, and_left_comm, and_assoc]
    rw [q] at t0 eo hA
    have hV : ((V.setCell ⟨w.heap.size, 4, none⟩ (.int .i64 0)).setCell ⟨w.heap.size, 6, none⟩ (.slice none 0 0)).heap[w.heap.size]? = some (.cells #[.int .i64 5, .int .i64 h.at_, .int .i64 h.lo, .int .i64 h.hi, .int .i64 0, .slice An h.names.length cn, .slice none 0 0, .string h.name, .int .i64 h.nat] 29) := (set_atK (set_atK hA 4 (.int .i64 0)) 6 (.slice none 0 0))
    have nV := Lib.hid ((b1.setCell (p := ⟨w.heap.size, 4, none⟩) (Nat.le_refl _) (.int .i64 0)).setCell (p := ⟨w.heap.size, 6, none⟩) (Nat.le_refl _) (.slice none 0 0))
    go_upto_region 16 with fail
    generalize ((V.setCell ⟨w.heap.size, 4, none⟩ (.int .i64 0)).setCell ⟨w.heap.size, 6, none⟩ (.slice none 0 0)) = V' at *
    clear tf2 tf3 tf4 tf5 tf6 tf7 tf8 tc2 tc3 tc4 tc5 tc6 tc7 tc8 t0
    have t0 := (Lib.cell_of_heap hV 0).trans rfl
    have r0 : V'.rangeAt w.heap.size 0 [.int .i64 5, .int .i64 h.at_, .int .i64 h.lo, .int .i64 h.hi, .int .i64 0, .slice An h.names.length cn, .slice none 0 0, .string h.name, .int .i64 h.nat] := fun j v e => by rw [Nat.zero_add, Lib.cell_of_heap hV]; simpa using e
    have cS := Lib.hid fun R hR => (show Calls Tryz.prog 188 #[.agg #[.int .i64 5, .int .i64 h.at_, .int .i64 h.lo, .int .i64 h.hi, .int .i64 0, .slice An h.names.length cn, .slice none 0 0, .string h.name, .int .i64 h.nat], .agg #[.int .i64 5, .int .i64 0, .int .i64 0, .int .i64 0, .int .i64 0, .slice none 0 0, .slice none 0 0, .string ⟨#[]⟩, .int .i64 0]] V' R from sameC_calls (.nil : Ft) (⟨5, h.at_, h.lo, h.hi, 0, h.names, h.name, h.nat⟩ : TH) ⟨5, 0, 0, 0, 0, [], ByteArray.empty, 0⟩ .nil (.slice An h.names.length cn) (.slice none 0 0) (.slice none 0 0) (.slice none 0 0) V' hm (Nat.zero_le _) trivial ⟨(hy.out.below nV.out).n, RdSl.nil _ _ _⟩ ⟨RdG.none0 _ _ _, RdSl.nil _ _ _⟩ R hR)
    rw [eo] at cS
    clear eo q hV
    go_wp2_with (refine wpList_load_g (by rfl) 29 _ rfl w.heap.size 0 rfl [.int .i64 5, .int .i64 h.at_, .int .i64 h.lo, .int .i64 h.hi, .int .i64 0, .slice An h.names.length cn, .slice none 0 0, .string h.name, .int .i64 h.nat] _ r0 Tryz.underlying29 rfl (by kernel_rfl) ?_; go_simp)
    refine cS.out _ (Lib.hid fun wL nL => ?_)
    have fin := Lib.hid (hR.out _ (nV.out.trans (nL.mono nV.out.size)))
    generalize ownB h f = O at *
    clear hR nV nL cS r0 t0
    go_wp2_with fail
    exact fin.out
  · have eo : sameS (⟨h.kind, h.at_, h.lo, h.hi, h.most, h.names, h.name, h.nat⟩ : TH) (.nil : Ft) ⟨h.kind, 0, 0, 0, 0, [], ByteArray.empty, 0⟩ .nil = ownB h f := by
      rw [Bool.eq_iff_iff]
      simp [sameS, headB, ownB, sameF_nil, sameW_nil, sameF, q, and_comm, and_left_comm, and_assoc]
    rw [q] at t0 eo hA
    have hV : (V.setCell ⟨w.heap.size, 6, none⟩ (.slice none 0 0)).heap[w.heap.size]? = some (.cells #[.int .i64 6, .int .i64 h.at_, .int .i64 h.lo, .int .i64 h.hi, .int .i64 h.most, .slice An h.names.length cn, .slice none 0 0, .string h.name, .int .i64 h.nat] 29) := (set_atK hA 6 (.slice none 0 0))
    have nV := Lib.hid (b1.setCell (p := ⟨w.heap.size, 6, none⟩) (Nat.le_refl _) (.slice none 0 0))
    go_upto_region 16 with fail
    generalize (V.setCell ⟨w.heap.size, 6, none⟩ (.slice none 0 0)) = V' at *
    clear tf2 tf3 tf4 tf5 tf6 tf7 tf8 tc2 tc3 tc4 tc5 tc6 tc7 tc8 t0
    have t0 := (Lib.cell_of_heap hV 0).trans rfl
    have r0 : V'.rangeAt w.heap.size 0 [.int .i64 6, .int .i64 h.at_, .int .i64 h.lo, .int .i64 h.hi, .int .i64 h.most, .slice An h.names.length cn, .slice none 0 0, .string h.name, .int .i64 h.nat] := fun j v e => by rw [Nat.zero_add, Lib.cell_of_heap hV]; simpa using e
    have cS := Lib.hid fun R hR => (show Calls Tryz.prog 188 #[.agg #[.int .i64 6, .int .i64 h.at_, .int .i64 h.lo, .int .i64 h.hi, .int .i64 h.most, .slice An h.names.length cn, .slice none 0 0, .string h.name, .int .i64 h.nat], .agg #[.int .i64 6, .int .i64 0, .int .i64 0, .int .i64 0, .int .i64 0, .slice none 0 0, .slice none 0 0, .string ⟨#[]⟩, .int .i64 0]] V' R from sameC_calls (.nil : Ft) (⟨6, h.at_, h.lo, h.hi, h.most, h.names, h.name, h.nat⟩ : TH) ⟨6, 0, 0, 0, 0, [], ByteArray.empty, 0⟩ .nil (.slice An h.names.length cn) (.slice none 0 0) (.slice none 0 0) (.slice none 0 0) V' hm (Nat.zero_le _) trivial ⟨(hy.out.below nV.out).n, RdSl.nil _ _ _⟩ ⟨RdG.none0 _ _ _, RdSl.nil _ _ _⟩ R hR)
    rw [eo] at cS
    clear eo q hV
    go_wp2_with (refine wpList_load_g (by rfl) 29 _ rfl w.heap.size 0 rfl [.int .i64 6, .int .i64 h.at_, .int .i64 h.lo, .int .i64 h.hi, .int .i64 h.most, .slice An h.names.length cn, .slice none 0 0, .string h.name, .int .i64 h.nat] _ r0 Tryz.underlying29 rfl (by kernel_rfl) ?_; go_simp)
    refine cS.out _ (Lib.hid fun wL nL => ?_)
    have fin := Lib.hid (hR.out _ (nV.out.trans (nL.mono nV.out.size)))
    generalize ownB h f = O at *
    clear hR nV nL cS r0 t0
    go_wp2_with fail
    exact fin.out
  · have eo : sameS (⟨h.kind, h.at_, h.lo, h.hi, h.most, h.names, h.name, h.nat⟩ : TH) (.nil : Ft) ⟨h.kind, 0, 0, 0, 0, [], ByteArray.empty, 0⟩ .nil = ownB h f := by
      rw [Bool.eq_iff_iff]
      simp [sameS, headB, ownB, sameF_nil, sameW_nil, sameF, q, and_comm, and_left_comm, and_assoc]
    rw [q] at t0 eo hA
    have hV : (V.setCell ⟨w.heap.size, 6, none⟩ (.slice none 0 0)).heap[w.heap.size]? = some (.cells #[.int .i64 7, .int .i64 h.at_, .int .i64 h.lo, .int .i64 h.hi, .int .i64 h.most, .slice An h.names.length cn, .slice none 0 0, .string h.name, .int .i64 h.nat] 29) := (set_atK hA 6 (.slice none 0 0))
    have nV := Lib.hid (b1.setCell (p := ⟨w.heap.size, 6, none⟩) (Nat.le_refl _) (.slice none 0 0))
    go_upto_region 16 with fail
    generalize (V.setCell ⟨w.heap.size, 6, none⟩ (.slice none 0 0)) = V' at *
    clear tf2 tf3 tf4 tf5 tf6 tf7 tf8 tc2 tc3 tc4 tc5 tc6 tc7 tc8 t0
    have t0 := (Lib.cell_of_heap hV 0).trans rfl
    have r0 : V'.rangeAt w.heap.size 0 [.int .i64 7, .int .i64 h.at_, .int .i64 h.lo, .int .i64 h.hi, .int .i64 h.most, .slice An h.names.length cn, .slice none 0 0, .string h.name, .int .i64 h.nat] := fun j v e => by rw [Nat.zero_add, Lib.cell_of_heap hV]; simpa using e
    have cS := Lib.hid fun R hR => (show Calls Tryz.prog 188 #[.agg #[.int .i64 7, .int .i64 h.at_, .int .i64 h.lo, .int .i64 h.hi, .int .i64 h.most, .slice An h.names.length cn, .slice none 0 0, .string h.name, .int .i64 h.nat], .agg #[.int .i64 7, .int .i64 0, .int .i64 0, .int .i64 0, .int .i64 0, .slice none 0 0, .slice none 0 0, .string ⟨#[]⟩, .int .i64 0]] V' R from sameC_calls (.nil : Ft) (⟨7, h.at_, h.lo, h.hi, h.most, h.names, h.name, h.nat⟩ : TH) ⟨7, 0, 0, 0, 0, [], ByteArray.empty, 0⟩ .nil (.slice An h.names.length cn) (.slice none 0 0) (.slice none 0 0) (.slice none 0 0) V' hm (Nat.zero_le _) trivial ⟨(hy.out.below nV.out).n, RdSl.nil _ _ _⟩ ⟨RdG.none0 _ _ _, RdSl.nil _ _ _⟩ R hR)
    rw [eo] at cS
    clear eo q hV
    go_wp2_with (refine wpList_load_g (by rfl) 29 _ rfl w.heap.size 0 rfl [.int .i64 7, .int .i64 h.at_, .int .i64 h.lo, .int .i64 h.hi, .int .i64 h.most, .slice An h.names.length cn, .slice none 0 0, .string h.name, .int .i64 h.nat] _ r0 Tryz.underlying29 rfl (by kernel_rfl) ?_; go_simp)
    refine cS.out _ (Lib.hid fun wL nL => ?_)
    have fin := Lib.hid (hR.out _ (nV.out.trans (nL.mono nV.out.size)))
    generalize ownB h f = O at *
    clear hR nV nL cS r0 t0
    go_wp2_with fail
    exact fin.out
  · have eo : sameS (⟨h.kind, h.at_, h.lo, h.hi, h.most, h.names, h.name, h.nat⟩ : TH) (.nil : Ft) ⟨h.kind, 0, 0, 0, 0, [], ByteArray.empty, 0⟩ .nil = ownB h f := by
      rw [Bool.eq_iff_iff]
      simp [sameS, headB, ownB, sameF_nil, sameW_nil, sameF, q, and_comm, and_left_comm, and_assoc]
    rw [q] at t0 eo hA
    have hV : (V.setCell ⟨w.heap.size, 6, none⟩ (.slice none 0 0)).heap[w.heap.size]? = some (.cells #[.int .i64 8, .int .i64 h.at_, .int .i64 h.lo, .int .i64 h.hi, .int .i64 h.most, .slice An h.names.length cn, .slice none 0 0, .string h.name, .int .i64 h.nat] 29) := (set_atK hA 6 (.slice none 0 0))
    have nV := Lib.hid (b1.setCell (p := ⟨w.heap.size, 6, none⟩) (Nat.le_refl _) (.slice none 0 0))
    go_upto_region 16 with fail
    generalize (V.setCell ⟨w.heap.size, 6, none⟩ (.slice none 0 0)) = V' at *
    clear tf2 tf3 tf4 tf5 tf6 tf7 tf8 tc2 tc3 tc4 tc5 tc6 tc7 tc8 t0
    have t0 := (Lib.cell_of_heap hV 0).trans rfl
    have r0 : V'.rangeAt w.heap.size 0 [.int .i64 8, .int .i64 h.at_, .int .i64 h.lo, .int .i64 h.hi, .int .i64 h.most, .slice An h.names.length cn, .slice none 0 0, .string h.name, .int .i64 h.nat] := fun j v e => by rw [Nat.zero_add, Lib.cell_of_heap hV]; simpa using e
    have cS := Lib.hid fun R hR => (show Calls Tryz.prog 188 #[.agg #[.int .i64 8, .int .i64 h.at_, .int .i64 h.lo, .int .i64 h.hi, .int .i64 h.most, .slice An h.names.length cn, .slice none 0 0, .string h.name, .int .i64 h.nat], .agg #[.int .i64 8, .int .i64 0, .int .i64 0, .int .i64 0, .int .i64 0, .slice none 0 0, .slice none 0 0, .string ⟨#[]⟩, .int .i64 0]] V' R from sameC_calls (.nil : Ft) (⟨8, h.at_, h.lo, h.hi, h.most, h.names, h.name, h.nat⟩ : TH) ⟨8, 0, 0, 0, 0, [], ByteArray.empty, 0⟩ .nil (.slice An h.names.length cn) (.slice none 0 0) (.slice none 0 0) (.slice none 0 0) V' hm (Nat.zero_le _) trivial ⟨(hy.out.below nV.out).n, RdSl.nil _ _ _⟩ ⟨RdG.none0 _ _ _, RdSl.nil _ _ _⟩ R hR)
    rw [eo] at cS
    clear eo q hV
    go_wp2_with (refine wpList_load_g (by rfl) 29 _ rfl w.heap.size 0 rfl [.int .i64 8, .int .i64 h.at_, .int .i64 h.lo, .int .i64 h.hi, .int .i64 h.most, .slice An h.names.length cn, .slice none 0 0, .string h.name, .int .i64 h.nat] _ r0 Tryz.underlying29 rfl (by kernel_rfl) ?_; go_simp)
    refine cS.out _ (Lib.hid fun wL nL => ?_)
    have fin := Lib.hid (hR.out _ (nV.out.trans (nL.mono nV.out.size)))
    generalize ownB h f = O at *
    clear hR nV nL cS r0 t0
    go_wp2_with fail
    exact fin.out
  · have eo : sameS (⟨h.kind, h.at_, h.lo, h.hi, h.most, h.names, ByteArray.empty, 0⟩ : TH) (f : Ft) ⟨h.kind, 0, 0, 0, 0, [], ByteArray.empty, 0⟩ .nil = ownB h f := by
      rw [Bool.eq_iff_iff]
      simp [sameS, headB, ownB, sameF_nil, sameW_nil, sameF, q, and_comm, and_left_comm, and_assoc]
    rw [q] at t0 eo hA
    have hV : ((V.setCell ⟨w.heap.size, 7, none⟩ (.string ⟨#[]⟩)).setCell ⟨w.heap.size, 8, none⟩ (.int .i64 0)).heap[w.heap.size]? = some (.cells #[.int .i64 9, .int .i64 h.at_, .int .i64 h.lo, .int .i64 h.hi, .int .i64 h.most, .slice An h.names.length cn, .slice Ap f.len cp, .string ⟨#[]⟩, .int .i64 0] 29) := (set_atK (set_atK hA 7 (.string ⟨#[]⟩)) 8 (.int .i64 0))
    have nV := Lib.hid ((b1.setCell (p := ⟨w.heap.size, 7, none⟩) (Nat.le_refl _) (.string ⟨#[]⟩)).setCell (p := ⟨w.heap.size, 8, none⟩) (Nat.le_refl _) (.int .i64 0))
    go_upto_region 16 with fail
    generalize ((V.setCell ⟨w.heap.size, 7, none⟩ (.string ⟨#[]⟩)).setCell ⟨w.heap.size, 8, none⟩ (.int .i64 0)) = V' at *
    clear tf2 tf3 tf4 tf5 tf6 tf7 tf8 tc2 tc3 tc4 tc5 tc6 tc7 tc8 t0
    have t0 := (Lib.cell_of_heap hV 0).trans rfl
    have r0 : V'.rangeAt w.heap.size 0 [.int .i64 9, .int .i64 h.at_, .int .i64 h.lo, .int .i64 h.hi, .int .i64 h.most, .slice An h.names.length cn, .slice Ap f.len cp, .string ⟨#[]⟩, .int .i64 0] := fun j v e => by rw [Nat.zero_add, Lib.cell_of_heap hV]; simpa using e
    have cS := Lib.hid fun R hR => (show Calls Tryz.prog 188 #[.agg #[.int .i64 9, .int .i64 h.at_, .int .i64 h.lo, .int .i64 h.hi, .int .i64 h.most, .slice An h.names.length cn, .slice Ap f.len cp, .string ⟨#[]⟩, .int .i64 0], .agg #[.int .i64 9, .int .i64 0, .int .i64 0, .int .i64 0, .int .i64 0, .slice none 0 0, .slice none 0 0, .string ⟨#[]⟩, .int .i64 0]] V' R from sameC_calls (f : Ft) (⟨9, h.at_, h.lo, h.hi, h.most, h.names, ByteArray.empty, 0⟩ : TH) ⟨9, 0, 0, 0, 0, [], ByteArray.empty, 0⟩ .nil (.slice An h.names.length cn) (.slice Ap f.len cp) (.slice none 0 0) (.slice none 0 0) V' hm hfl hga.out ⟨(hy.out.below nV.out).n, (hy.out.below nV.out).p⟩ ⟨RdG.none0 _ _ _, RdSl.nil _ _ _⟩ R hR)
    rw [eo] at cS
    clear eo q hV
    go_wp2_with (refine wpList_load_g (by rfl) 29 _ rfl w.heap.size 0 rfl [.int .i64 9, .int .i64 h.at_, .int .i64 h.lo, .int .i64 h.hi, .int .i64 h.most, .slice An h.names.length cn, .slice Ap f.len cp, .string ⟨#[]⟩, .int .i64 0] _ r0 Tryz.underlying29 rfl (by kernel_rfl) ?_; go_simp)
    refine cS.out _ (Lib.hid fun wL nL => ?_)
    have fin := Lib.hid (hR.out _ (nV.out.trans (nL.mono nV.out.size)))
    generalize ownB h f = O at *
    clear hR nV nL cS r0 t0
    go_wp2_with fail
    exact fin.out
theorem hasElement_calls (f : Ft) (h : TH) (nv pv : Value) (w : World) (hga : f.All GoodH GoodL) (hy : RdY w h f nv pv) (R : Ending → World → Prop)
    (hR : Hid (∀ w', Below w.heap.size w w' → R (.returned (.bool (onlyB f))) w')) : Calls Tryz.prog 180 #[tyV h nv pv] w R := by
  obtain ⟨Ap, cp, rfl, hpl⟩ := hy.p.sl
  obtain ⟨An, cn, rfl, -, -⟩ := hy.n.op
  have b1 := (Below.refl w.heap.size w).alloc (Nat.le_refl _) (.cells #[.int .i64 h.kind, .int .i64 h.at_, .int .i64 h.lo, .int .i64 h.hi, .int .i64 h.most, .slice An h.names.length cn, .slice Ap f.len cp, .string h.name, .int .i64 h.nat] 29)
  have hA := heap_alloc_new w (.cells #[.int .i64 h.kind, .int .i64 h.at_, .int .i64 h.lo, .int .i64 h.hi, .int .i64 h.most, .slice An h.names.length cn, .slice Ap f.len cp, .string h.name, .int .i64 h.nat] 29)
  replace hy := Lib.hid hy
  replace hga := Lib.hid hga
  go_enter Tryz.func180, Tryz.ntmps180
  go_upto_region 1 with fail
  generalize w.alloc (.cells #[.int .i64 h.kind, .int .i64 h.at_, .int .i64 h.lo, .int .i64 h.hi, .int .i64 h.most, .slice An h.names.length cn, .slice Ap f.len cp, .string h.name, .int .i64 h.nat] 29) = V at *
  have t6 := (Lib.cell_of_heap hA 6).trans rfl
  by_cases hl : f.len = 1
  · obtain ⟨p, x, kd, r, e⟩ := Fo.drop_lt (n := 0) (f := f) (by omega)
    obtain ⟨g, o, lv, cv, nx, px, rfl, hg, hlv, hcv, hyx, hc⟩ := (hy.out).p.part e
    obtain ⟨A1, n1, rfl, -, -⟩ := hlv.op
    obtain ⟨A2, n2, rfl, -, -⟩ := hcv.op
    obtain ⟨A5, n5, rfl, -, -⟩ := hyx.n.op
    obtain ⟨A7, n7, rfl, -⟩ := hyx.p.sl
    obtain ⟨gp, gx, gk', ga2⟩ := all_at 0 hga.out e
    obtain ⟨on1, -⟩ := only_one e hl
    rw [on1] at hR
    clear e on1
    have rg : V.rangeAt g o [.string p.name, .int .i64 p.at_, .bool p.bare, .slice A1 p.label.length n1, .int .i64 p.wide, .int .i64 p.ck, .int .i64 p.cn, .int .i64 p.cat, .slice A2 p.cl.length n2, .int .i64 x.kind, .int .i64 x.at_, .int .i64 x.lo, .int .i64 x.hi, .int .i64 x.most, .slice A5 x.names.length n5, .slice A7 kd.len n7, .string x.name, .int .i64 x.nat] := fun j v h => (b1.cell (p := ⟨g, o + j, none⟩) hg).trans (by have := hc j v h; rwa [Nat.zero_mul, Nat.add_zero] at this)
    rw [hl] at t6
    clear hl hc
    have bP := (Below.refl V.heap.size V).alloc (Nat.le_refl _) (.cells #[.string p.name, .int .i64 p.at_, .bool p.bare, .slice A1 p.label.length n1, .int .i64 p.wide, .int .i64 p.ck, .int .i64 p.cn, .int .i64 p.cat, .slice A2 p.cl.length n2, .int .i64 x.kind, .int .i64 x.at_, .int .i64 x.lo, .int .i64 x.hi, .int .i64 x.most, .slice A5 x.names.length n5, .slice A7 kd.len n7, .string x.name, .int .i64 x.nat] 78)
    have hb := heap_alloc_new V (.cells #[.string p.name, .int .i64 p.at_, .bool p.bare, .slice A1 p.label.length n1, .int .i64 p.wide, .int .i64 p.ck, .int .i64 p.cn, .int .i64 p.cat, .slice A2 p.cl.length n2, .int .i64 x.kind, .int .i64 x.at_, .int .i64 x.lo, .int .i64 x.hi, .int .i64 x.most, .slice A5 x.names.length n5, .slice A7 kd.len n7, .string x.name, .int .i64 x.nat] 78)
    have nV0 := b1.trans (bP.mono b1.size)
    go_upto_region 3 with fail
    go_upto_region 4 with (first | (refine wpList_load_g (by rfl) 78 _ rfl g o rfl [.string p.name, .int .i64 p.at_, .bool p.bare, .slice A1 p.label.length n1, .int .i64 p.wide, .int .i64 p.ck, .int .i64 p.cn, .int .i64 p.cat, .slice A2 p.cl.length n2, .int .i64 x.kind, .int .i64 x.at_, .int .i64 x.lo, .int .i64 x.hi, .int .i64 x.most, .slice A5 x.names.length n5, .slice A7 kd.len n7, .string x.name, .int .i64 x.nat] _ rg Tryz.underlying78 rfl (by kernel_rfl) ?_; go_simp) | (refine wpList_copy #[.string p.name, .int .i64 p.at_, .bool p.bare, .slice A1 p.label.length n1, .int .i64 p.wide, .int .i64 p.ck, .int .i64 p.cn, .int .i64 p.cat, .slice A2 p.cl.length n2, .int .i64 x.kind, .int .i64 x.at_, .int .i64 x.lo, .int .i64 x.hi, .int .i64 x.most, .slice A5 x.names.length n5, .slice A7 kd.len n7, .string x.name, .int .i64 x.nat] ⟨rfl, rfl, rfl⟩ ⟨rfl, rfl, rfl⟩ part_alloc (by kernel_rfl) ⟨rfl, by simp [Value.oneCell']⟩ (fun _ => ⟨rfl, rfl⟩) ?_; go_simp))
    have hwB : w.heap.size ≤ V.heap.size := b1.size
    generalize V.alloc (.cells #[.string p.name, .int .i64 p.at_, .bool p.bare, .slice A1 p.label.length n1, .int .i64 p.wide, .int .i64 p.ck, .int .i64 p.cn, .int .i64 p.cat, .slice A2 p.cl.length n2, .int .i64 x.kind, .int .i64 x.at_, .int .i64 x.lo, .int .i64 x.hi, .int .i64 x.most, .slice A5 x.names.length n5, .slice A7 kd.len n7, .string x.name, .int .i64 x.nat] 78) = V2 at *
    generalize V.heap.size = B at *
    clear rg t6 b1 bP hA
    have hV := (set_atK (set_atK (set_atK (set_atK (set_atK (set_atK (set_atK (set_atK (set_atK hb 9 (.int .i64 0)) 10 (.int .i64 0)) 11 (.int .i64 0)) 12 (.int .i64 0)) 13 (.int .i64 0)) 14 (.slice none 0 0)) 15 (.slice none 0 0)) 16 (.string ⟨#[]⟩)) 17 (.int .i64 0))
    simp only [List.setIfInBounds_toArray, List.set_cons_succ, List.set_cons_zero] at hV
    have nV := Lib.hid (((((((((nV0.setCell (p := ⟨B, 9, none⟩) hwB (.int .i64 0)).setCell (p := ⟨B, 10, none⟩) hwB (.int .i64 0)).setCell (p := ⟨B, 11, none⟩) hwB (.int .i64 0)).setCell (p := ⟨B, 12, none⟩) hwB (.int .i64 0)).setCell (p := ⟨B, 13, none⟩) hwB (.int .i64 0)).setCell (p := ⟨B, 14, none⟩) hwB (.slice none 0 0)).setCell (p := ⟨B, 15, none⟩) hwB (.slice none 0 0)).setCell (p := ⟨B, 16, none⟩) hwB (.string ⟨#[]⟩)).setCell (p := ⟨B, 17, none⟩) hwB (.int .i64 0))
    have f9 := Lib.frozen_of_heap hb 9
    have fc9 := (Lib.cell_of_heap hb 9).trans rfl
    have f10 := Lib.frozen_of_heap hb 10
    have fc10 := (Lib.cell_of_heap hb 10).trans rfl
    have f11 := Lib.frozen_of_heap hb 11
    have fc11 := (Lib.cell_of_heap hb 11).trans rfl
    have f12 := Lib.frozen_of_heap hb 12
    have fc12 := (Lib.cell_of_heap hb 12).trans rfl
    have f13 := Lib.frozen_of_heap hb 13
    have fc13 := (Lib.cell_of_heap hb 13).trans rfl
    have f14 := Lib.frozen_of_heap hb 14
    have fc14 := (Lib.cell_of_heap hb 14).trans rfl
    have f15 := Lib.frozen_of_heap hb 15
    have fc15 := (Lib.cell_of_heap hb 15).trans rfl
    have f16 := Lib.frozen_of_heap hb 16
    have fc16 := (Lib.cell_of_heap hb 16).trans rfl
    have f17 := Lib.frozen_of_heap hb 17
    have fc17 := (Lib.cell_of_heap hb 17).trans rfl
    clear hb
    go_upto_region 5 with fail
    generalize (((((((((V2.setCell ⟨B, 9, none⟩ (.int .i64 0)).setCell ⟨B, 10, none⟩ (.int .i64 0)).setCell ⟨B, 11, none⟩ (.int .i64 0)).setCell ⟨B, 12, none⟩ (.int .i64 0)).setCell ⟨B, 13, none⟩ (.int .i64 0)).setCell ⟨B, 14, none⟩ (.slice none 0 0)).setCell ⟨B, 15, none⟩ (.slice none 0 0)).setCell ⟨B, 16, none⟩ (.string ⟨#[]⟩)).setCell ⟨B, 17, none⟩ (.int .i64 0)) = V3 at *
    clear f9 f10 f11 f12 f13 f14 f15 f16 f17 fc9 fc10 fc11 fc12 fc13 fc14 fc15 fc16 fc17 nV0
    have r0 : V3.rangeAt B 0 [.string p.name, .int .i64 p.at_, .bool p.bare, .slice A1 p.label.length n1, .int .i64 p.wide, .int .i64 p.ck, .int .i64 p.cn, .int .i64 p.cat, .slice A2 p.cl.length n2, .int .i64 0, .int .i64 0, .int .i64 0, .int .i64 0, .int .i64 0, .slice none 0 0, .slice none 0 0, .string ⟨#[]⟩, .int .i64 0] := fun j v h => by rw [Nat.zero_add, Lib.cell_of_heap hV]; simpa using h
    clear hV
    have cS := Lib.hid fun R hR => (show Calls Tryz.prog 189 #[.agg #[.string p.name, .int .i64 p.at_, .bool p.bare, .slice A1 p.label.length n1, .int .i64 p.wide, .int .i64 p.ck, .int .i64 p.cn, .int .i64 p.cat, .slice A2 p.cl.length n2, .int .i64 0, .int .i64 0, .int .i64 0, .int .i64 0, .int .i64 0, .slice none 0 0, .slice none 0 0, .string ⟨#[]⟩, .int .i64 0], .agg #[.string ⟨#[]⟩, .int .i64 0, .bool false, .slice none 0 0, .int .i64 0, .int .i64 0, .int .i64 0, .int .i64 0, .slice none 0 0, .int .i64 0, .int .i64 0, .int .i64 0, .int .i64 0, .int .i64 0, .slice none 0 0, .slice none 0 0, .string ⟨#[]⟩, .int .i64 0]] V3 R from samePart_calls .nil (sameC_calls .nil) p zPH zTH zTH .nil (.slice A1 p.label.length n1) (.slice A2 p.cl.length n2) (.slice none 0 0) (.slice none 0 0) (.slice none 0 0) (.slice none 0 0) (.slice none 0 0) (.slice none 0 0) V3 gp.2.2.2.2.2.2.2.2.1 gp.2.2.2.2.2.2.2.2.2 (Nat.zero_le _) (Nat.zero_le _) trivial (hlv.below nV.out) (hcv.below nV.out) ⟨RdG.none0 _ _ _, RdSl.nil _ _ _⟩ (RdG.none0 _ _ _) (RdG.none0 _ _ _) ⟨RdG.none0 _ _ _, RdSl.nil _ _ _⟩ R hR)
    rw [sameS_refl, Bool.and_true] at cS
    rw [show ByteArray.empty = zPH.name from rfl] at hR
    go_wp2_with (refine wpList_load_g (by rfl) 78 _ rfl B 0 rfl [.string p.name, .int .i64 p.at_, .bool p.bare, .slice A1 p.label.length n1, .int .i64 p.wide, .int .i64 p.ck, .int .i64 p.cn, .int .i64 p.cat, .slice A2 p.cl.length n2, .int .i64 0, .int .i64 0, .int .i64 0, .int .i64 0, .int .i64 0, .slice none 0 0, .slice none 0 0, .string ⟨#[]⟩, .int .i64 0] _ r0 Tryz.underlying78 rfl (by kernel_rfl) ?_; go_simp)
    refine cS.out _ (Lib.hid fun wL nL => ?_)
    have fin := Lib.hid (hR.out _ (nV.out.trans (nL.mono nV.out.size)))
    clear hR nV nL cS r0
    generalize (decide (p.name = zPH.name) && plainB p zPH) = O at *
    go_wp2_with fail
    exact fin.out
  · have q1 : ((f.len : Int) != 1) = true := by simp; omega
    have fin := Lib.hid (hR.out _ b1)
    rw [only_len hl] at fin
    clear hR hl hA
    go_wp2_with fail
    exact fin.out
end Go.Proofs.YtbnmkbpjdelokaaGreat.Kin
