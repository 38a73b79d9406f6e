import Derived.Test.YtncijmodlhijoaaGreatQ15
import Derived.Test.YtncijmodlhijoaaGreatQ14
set_option linter.unusedVariables false
set_option maxRecDepth 100000
set_option maxHeartbeats 4000000
namespace Go.Proofs.YtncijmodlhijoaaGreat.Kin
open Go.RowKit Go.Lib Utf Nam Lat
def CountC (f : Ft) : Prop := ∀ (h : TH) (nv pv : Value) (w : World), f.len ≤ maxLen → f.All GoodH GoodL → RdY w h f nv pv → ∀ R : Ending → World → Prop,
  Hid (∀ w', Below w.heap.size w w' → R (.returned (.int .i64 (cW f 1))) w') → Calls Tryz.prog 199 #[tyV h nv pv] w R
theorem count_step (f : Ft) (ih : Fo.AllK CountC f) : CountC f := by
  intro h nv pv w hfl hga hy R hR
  replace hfl : f.len ≤ 9223372036854775807 := hfl
  have bA := (Below.refl w.heap.size w).alloc (Nat.le_refl _) (.cells (tyL h nv pv).toArray 29)
  have kA := TB.new w h nv pv 29
  obtain ⟨Ap, cp, rfl, hpl⟩ := hy.p.sl
  obtain ⟨An, cn, rfl, -, -⟩ := hy.n.op
  replace hy := Lib.hid (hy.below bA)
  replace hga := Lib.hid hga
  replace ih := Lib.hid ih
  replace bA := Lib.hid bA
  replace kA := Lib.hid kA
  go_enter Tryz.func199, Tryz.ntmps199
  go_upto_region 1 with fail
  generalize w.alloc (.cells (tyL h (.slice An h.names.length cn) (.slice Ap f.len cp)).toArray 29) = W2 at *
  have t6 := kA.out.k6
  go_wp2_with fail
  clear t6 kA
  go_loopg [3, 9] f.len (fun g0 n i wr => ∃ (K : Nat) (a : Int), n = .int .i64 a ∧ i = .int .i64 K ∧ K + g0 = f.len ∧ Hid (Below W2.heap.size W2 wr) ∧ cW f 1 = cW (f.drop K) a)
  case atStart => exact ⟨0, 1, rfl, rfl, by omega, Lib.hid (Below.refl _ _), rfl⟩
  case round =>
    obtain ⟨K, a, rfl, rfl, e1, nW, e2⟩ := hrel
    by_cases hK : K < f.len
    · obtain ⟨p, x, kd, r, e⟩ := Fo.drop_lt hK
      obtain ⟨g, o, lv, cv, nx, px, rfl, hg, hlv, hcv, hyx, hc⟩ := (hy.out.below nW.out).p.part e
      obtain ⟨A1, n1, rfl, -, -⟩ := hlv.op
      obtain ⟨A2, n2, rfl, -, -⟩ := hcv.op
      obtain ⟨A5, n5, rfl, -, -⟩ := hyx.n.op
      obtain ⟨A7, n7, rfl, -⟩ := hyx.p.sl
      obtain ⟨gp, gx, gk', ga2⟩ := all_at K hga.out e
      have ihK := Lib.hid ((ih.out).at_ e)
      rw [e] at e2
      have d1 := Fo.drop_succ K e
      have i0 : (0 : Int) ≤ (K : Int) := by omega
      have i1 : (K : Int) < (f.len : Int) := by omega
      have e4 : cW f 1 = cW r (if p.bare then a else wrap64 (a + cW kd 1)) := e2
      clear e2 e
      have rg : wr.rangeAt g (o + K * 18) [.string p.name, .int .i64 p.at_, .bool p.bare, .slice A1 p.label.length n1, .int .i64 p.wide, .int .i64 p.ck, .int .i64 p.cn, .int .i64 p.cat, .slice A2 p.cl.length n2, .int .i64 x.kind, .int .i64 x.at_, .int .i64 x.lo, .int .i64 x.hi, .int .i64 x.most, .slice A5 x.names.length n5, .slice A7 kd.len n7, .string x.name, .int .i64 x.nat] := fun j v h => hc j v h
      have bP := (Below.refl wr.heap.size wr).alloc (Nat.le_refl _) (.cells #[.string p.name, .int .i64 p.at_, .bool p.bare, .slice A1 p.label.length n1, .int .i64 p.wide, .int .i64 p.ck, .int .i64 p.cn, .int .i64 p.cat, .slice A2 p.cl.length n2, .int .i64 x.kind, .int .i64 x.at_, .int .i64 x.lo, .int .i64 x.hi, .int .i64 x.most, .slice A5 x.names.length n5, .slice A7 kd.len n7, .string x.name, .int .i64 x.nat] 92)
      have hb := heap_alloc_new wr (.cells #[.string p.name, .int .i64 p.at_, .bool p.bare, .slice A1 p.label.length n1, .int .i64 p.wide, .int .i64 p.ck, .int .i64 p.cn, .int .i64 p.cat, .slice A2 p.cl.length n2, .int .i64 x.kind, .int .i64 x.at_, .int .i64 x.lo, .int .i64 x.hi, .int .i64 x.most, .slice A5 x.names.length n5, .slice A7 kd.len n7, .string x.name, .int .i64 x.nat] 92)
      clear hc hlv hcv hg
      go_upto_region 5 with (first | (refine wpList_load_g (by rfl) 92 _ rfl g (o + K * 18) rfl [.string p.name, .int .i64 p.at_, .bool p.bare, .slice A1 p.label.length n1, .int .i64 p.wide, .int .i64 p.ck, .int .i64 p.cn, .int .i64 p.cat, .slice A2 p.cl.length n2, .int .i64 x.kind, .int .i64 x.at_, .int .i64 x.lo, .int .i64 x.hi, .int .i64 x.most, .slice A5 x.names.length n5, .slice A7 kd.len n7, .string x.name, .int .i64 x.nat] _ rg Tryz.underlying92 rfl (by kernel_rfl) ?_; go_simp) | (refine wpList_copy #[.string p.name, .int .i64 p.at_, .bool p.bare, .slice A1 p.label.length n1, .int .i64 p.wide, .int .i64 p.ck, .int .i64 p.cn, .int .i64 p.cat, .slice A2 p.cl.length n2, .int .i64 x.kind, .int .i64 x.at_, .int .i64 x.lo, .int .i64 x.hi, .int .i64 x.most, .slice A5 x.names.length n5, .slice A7 kd.len n7, .string x.name, .int .i64 x.nat] ⟨rfl, rfl, rfl⟩ ⟨rfl, rfl, rfl⟩ part_alloc (by kernel_rfl) ⟨rfl, by simp [Value.oneCell']⟩ (fun _ => ⟨rfl, rfl⟩) ?_; go_simp))
      clear rg
      have hyV := Lib.hid (hyx.below bP)
      have nV := Lib.hid (nW.out.trans (bP.mono nW.out.size))
      generalize wr.alloc (.cells #[.string p.name, .int .i64 p.at_, .bool p.bare, .slice A1 p.label.length n1, .int .i64 p.wide, .int .i64 p.ck, .int .i64 p.cn, .int .i64 p.cat, .slice A2 p.cl.length n2, .int .i64 x.kind, .int .i64 x.at_, .int .i64 x.lo, .int .i64 x.hi, .int .i64 x.most, .slice A5 x.names.length n5, .slice A7 kd.len n7, .string x.name, .int .i64 x.nat] 92) = V at *
      generalize wr.heap.size = B at *
      clear bP hyx nW
      have u1 := (Lib.cell_of_heap hb 2).trans rfl
      have r9 : V.rangeAt B 9 [.int .i64 x.kind, .int .i64 x.at_, .int .i64 x.lo, .int .i64 x.hi, .int .i64 x.most, .slice A5 x.names.length n5, .slice A7 kd.len n7, .string x.name, .int .i64 x.nat] := fun j v h => by rw [Lib.cell_of_heap hb, List.getElem?_toArray, ← List.getElem?_drop]; exact h
      clear hb
      cases hbr : p.bare
      · rw [hbr] at u1 e4
        simp only [Bool.false_eq_true, if_false] at e4
        clear hbr
        have cS := Lib.hid fun R hR => ihK.out x (.slice A5 x.names.length n5) (.slice A7 kd.len n7) V gk' ga2 hyV.out R hR
        go_wp2_with (refine wpList_load_g (by rfl) 29 _ rfl B 9 rfl [.int .i64 x.kind, .int .i64 x.at_, .int .i64 x.lo, .int .i64 x.hi, .int .i64 x.most, .slice A5 x.names.length n5, .slice A7 kd.len n7, .string x.name, .int .i64 x.nat] _ r9 Tryz.underlying29 rfl (by kernel_rfl) ?_; go_simp)
        refine cS.out _ (Lib.hid fun w5 n5 => ?_)
        have nY := Lib.hid (nV.out.trans (n5.mono nV.out.size))
        generalize cW kd 1 = ck at *
        clear r9 u1 cS n5 hyV nV
        rw [← d1] at e4
        go_wp2_with fail
        go_roundg (gk - 1)
        case measure => omega
        case rel => exact ⟨K + 1, _, rfl, by go_num, by omega, nY, e4⟩
      · rw [hbr] at u1 e4
        simp only [if_true] at e4
        clear hbr
        rw [← d1] at e4
        clear r9 hyV
        go_wp2_with fail
        go_roundg (gk - 1)
        case measure => omega
        case rel => exact ⟨K + 1, a, rfl, by go_num, by omega, nV, e4⟩
    · obtain rfl : K = f.len := by omega
      rw [Fo.drop_all (Nat.le_refl _)] at e2
      have e4 : cW f 1 = a := e2
      have fin := Lib.hid (hR.out _ (bA.out.trans (nW.out.mono bA.out.size)))
      rw [e4] at fin
      clear hR e2 e4
      go_wp2_with fail
      exact fin.out
theorem count_calls (f : Ft) : CountC f := Fo.deep count_step f
end Go.Proofs.YtncijmodlhijoaaGreat.Kin
