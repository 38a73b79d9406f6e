/- Layer 15: the reference's Placeless and Zero; the law's great. -/
import Derived.Test.YtpepomnkoghjpaaTypE
set_option maxRecDepth 100000
set_option linter.unusedVariables false
namespace Go.Proofs.Ytpepomnkoghjpaa.Kin
open Go.RowKit Go.Lib Go.Proofs.Ytpepomnkoghjpaa.Utf Go.Proofs.Ytpepomnkoghjpaa.Nam Go.Proofs.Ytpepomnkoghjpaa.Lat

set_option maxRecDepth 100000 in
set_option maxHeartbeats 1000000 in
theorem zero15_calls (f : Ft) (h : TH) (nv pv : Value) (w : World) (hm : h.names.length ≤ maxLen) (hfl : f.len ≤ maxLen) (hga : f.All GoodH GoodL) (hy : RdY w h f nv pv) (R : Ending → World → Prop)
    (hR : Hid (∀ w', Below w.heap.size w w' → R (.returned (.bool (zeroB h f))) w')) : Calls Try.prog 38 #[tyV h nv pv] w R := by
  have bA := (Below.refl w.heap.size w).alloc (Nat.le_refl _) (.cells (tyL h nv pv).toArray 27)
  have hz : RdY (w.alloc (.cells (tyL h nv pv).toArray 27)) zTH .nil (.slice none 0 0) (.slice none 0 0) := ⟨RdG.none0 _ _ _, RdSl.nil _ _ _⟩
  have cS := Lib.hid fun R hR => (show Calls Try.prog 14 #[tyV h nv pv, .agg #[.int .i64 0, .int .i64 0, .int .i64 0, .int .i64 0, .int .i64 0, .slice none 0 0, .slice none 0 0, .string ⟨#[]⟩, .int .i64 0]] (w.alloc (.cells (tyL h nv pv).toArray 27)) R from same15_calls f h zTH .nil nv pv _ _ _ hm hfl hga (hy.below bA) hz R hR)
  obtain ⟨Ap, cp, rfl, -⟩ := hy.p.sl
  obtain ⟨An, cn, rfl, -, -⟩ := hy.n.op
  replace bA := Lib.hid bA
  clear hy hz hga
  go_enter Try.func38, Try.ntmps38
  go_wp2_with fail
  refine cS.out _ (Lib.hid fun w3 n3 => ?_)
  have fin := Lib.hid (hR.out _ (bA.out.trans (n3.mono bA.out.size)))
  unfold zeroB at fin
  clear n3 hR cS
  go_wp2_with fail
  exact fin.out
def PlaceQ (f : Ft) : Prop := ∀ (h : TH) (nv pv : Value) (w : World), h.names.length ≤ maxLen → f.len ≤ maxLen → f.All GoodH GoodL → RdY w h f nv pv → ∀ R : Ending → World → Prop,
  Hid (∀ w', Below w.heap.size w w' → R (.returned (.bool (placeS h f))) w') → Calls Try.prog 16 #[tyV h nv pv] w R
set_option maxRecDepth 100000 in
set_option maxHeartbeats 4000000 in
theorem place15_step (f : Ft) (ih : Fo.AllK PlaceQ f) : PlaceQ f := by
  intro h nv pv w hm hfl hga hy R hR
  replace hfl : f.len ≤ 9223372036854775807 := hfl
  have bA := (Below.refl w.heap.size w).alloc (Nat.le_refl _) (.cells (tyL h nv pv).toArray 27)
  have kA := TB.new w h nv pv 27
  have cW1 := Lib.hid fun (W : World) (b : Below w.heap.size w W) R hR => still15_calls h.names hm nv W (hy.n.below b) R hR
  obtain ⟨Ap, cp, rfl, hpl⟩ := hy.p.sl
  obtain ⟨An, cn, rfl, -, -⟩ := hy.n.op
  have hp : placeS h f = (decide (h.at_ = 0 ∧ h.nat = 0) && stillW h.names && placeF f) := rfl
  rw [hp] at hR
  clear hp
  replace hy := Lib.hid (hy.below bA)
  replace hga := Lib.hid hga
  replace ih := Lib.hid ih
  go_enter Try.func16, Try.ntmps16
  go_upto_region 1 with fail
  generalize w.alloc (.cells (tyL h (.slice An h.names.length cn) (.slice Ap f.len cp)).toArray 27) = W2 at *
  obtain ⟨ltH, -, a1, -, -, -, a5, a6, -, a8⟩ := kA
  have nW := Lib.hid bA
  clear bA
  by_cases c1 : h.at_ = 0
  · by_cases c2 : h.nat = 0
    · have q1 : (h.at_ != 0) = false := by simpa using c1
      have q2 : (h.nat != 0) = false := by simpa using c2
      rw [decide_eq_true ⟨c1, c2⟩, Bool.true_and] at hR
      clear c1 c2
      have cX1 := Lib.hid fun R hR => cW1.out W2 nW.out R hR
      generalize stillW h.names = S1 at *
      go_wp2_with fail
      refine cX1.out _ (Lib.hid fun w3 n3 => ?_)
      replace nW := Lib.hid (nW.out.trans (n3.mono nW.out.size))
      replace hy := Lib.hid (hy.out.below n3)
      have a6' := (n3.cell (p := ⟨w.heap.size, 6, none⟩) ltH).trans a6
      replace ltH := Nat.lt_of_lt_of_le ltH n3.size
      clear n3 cX1 cW1 a1 a5 a6 a8
      cases S1
      · have fin := Lib.hid (hR.out _ nW.out)
        clear hR nW
        go_wp2_with fail
        exact fin.out
      · rw [Bool.true_and] at hR
        go_wp2_with fail
        go_loopg [3] f.len (fun g0 i wr => ∃ K : Nat, i = .int .i64 K ∧ K + g0 = f.len ∧ Hid (Below w3.heap.size w3 wr) ∧ placeF f = placeF (f.drop K))
        case atStart => exact ⟨0, rfl, by omega, Lib.hid (Below.refl _ _), rfl⟩
        case round =>
          obtain ⟨K, rfl, e1, nX, e2⟩ := hrel
          have a6 := (nX.out.cell (p := ⟨w.heap.size, 6, none⟩) ltH).trans a6'
          by_cases hK : K < f.len
          · obtain ⟨p, x, kd, r, e⟩ := Fo.drop_lt hK
            obtain ⟨g, o, lv, cv, nx, px, rfl, hg, hlv, hcv, hyx, hc⟩ := (hy.out.below nX.out).p.part e
            obtain ⟨gp, gx, gk', ga2⟩ := all_at K hga.out e
            have ihK := Lib.hid ((ih.out).at_ e)
            rw [e] at e2
            have d1 := Fo.drop_succ K e
            have i0 : (0 : Int) ≤ (K : Int) := by omega
            have i1 : (K : Int) < (f.len : Int) := by omega
            obtain ⟨A1, n1, rfl, -, -⟩ := hlv.op
            obtain ⟨A2, n2, rfl, -, -⟩ := hcv.op
            obtain ⟨A5, n5, rfl, -, -⟩ := hyx.n.op
            obtain ⟨A7, n7, rfl, hk7⟩ := hyx.p.sl
            have e3 : placeF f = ((decide (p.at_ = 0 ∧ p.cat = 0) && stillW p.label && stillW p.cl && placeS x kd) && placeF r) := e2
            clear e2
            have rg : wr.rangeAt g (o + K * 18) #[.string p.name, .int .i64 p.at_, .bool p.bare, .slice A1 p.label.length n1, .int .i64 p.wide, .int .i64 p.ck, .int .i64 p.cn, .int .i64 p.cat, .slice A2 p.cl.length n2, .int .i64 x.kind, .int .i64 x.at_, .int .i64 x.lo, .int .i64 x.hi, .int .i64 x.most, .slice A5 x.names.length n5, .slice A7 kd.len n7, .string x.name, .int .i64 x.nat].toList := fun j v h => hc j v h
            clear hc e
            have bP := (Below.refl wr.heap.size wr).alloc (Nat.le_refl _) (.cells #[.string p.name, .int .i64 p.at_, .bool p.bare, .slice A1 p.label.length n1, .int .i64 p.wide, .int .i64 p.ck, .int .i64 p.cn, .int .i64 p.cat, .slice A2 p.cl.length n2, .int .i64 x.kind, .int .i64 x.at_, .int .i64 x.lo, .int .i64 x.hi, .int .i64 x.most, .slice A5 x.names.length n5, .slice A7 kd.len n7, .string x.name, .int .i64 x.nat] 52)
            have hPb := heap_alloc_new wr (.cells #[.string p.name, .int .i64 p.at_, .bool p.bare, .slice A1 p.label.length n1, .int .i64 p.wide, .int .i64 p.ck, .int .i64 p.cn, .int .i64 p.cat, .slice A2 p.cl.length n2, .int .i64 x.kind, .int .i64 x.at_, .int .i64 x.lo, .int .i64 x.hi, .int .i64 x.most, .slice A5 x.names.length n5, .slice A7 kd.len n7, .string x.name, .int .i64 x.nat] 52)
            go_upto_region 7 with (refine wpList_load_g (by rfl) _ _ rfl g (o + K * 18) rfl #[.string p.name, .int .i64 p.at_, .bool p.bare, .slice A1 p.label.length n1, .int .i64 p.wide, .int .i64 p.ck, .int .i64 p.cn, .int .i64 p.cat, .slice A2 p.cl.length n2, .int .i64 x.kind, .int .i64 x.at_, .int .i64 x.lo, .int .i64 x.hi, .int .i64 x.most, .slice A5 x.names.length n5, .slice A7 kd.len n7, .string x.name, .int .i64 x.nat].toList _ rg Try.underlying52 rfl (by kernel_rfl) ?_; go_simp)
            have hBl : wr.heap.size < (wr.alloc (.cells #[.string p.name, .int .i64 p.at_, .bool p.bare, .slice A1 p.label.length n1, .int .i64 p.wide, .int .i64 p.ck, .int .i64 p.cn, .int .i64 p.cat, .slice A2 p.cl.length n2, .int .i64 x.kind, .int .i64 x.at_, .int .i64 x.lo, .int .i64 x.hi, .int .i64 x.most, .slice A5 x.names.length n5, .slice A7 kd.len n7, .string x.name, .int .i64 x.nat] 52)).heap.size := by simp
            have nY := Lib.hid (nX.out.trans (bP.mono nX.out.size))
            have hlv2 := Lib.hid (hlv.below bP)
            have hcv2 := Lib.hid (hcv.below bP)
            have hyx2 := Lib.hid (hyx.below bP)
            generalize wr.alloc (.cells #[.string p.name, .int .i64 p.at_, .bool p.bare, .slice A1 p.label.length n1, .int .i64 p.wide, .int .i64 p.ck, .int .i64 p.cn, .int .i64 p.cat, .slice A2 p.cl.length n2, .int .i64 x.kind, .int .i64 x.at_, .int .i64 x.lo, .int .i64 x.hi, .int .i64 x.most, .slice A5 x.names.length n5, .slice A7 kd.len n7, .string x.name, .int .i64 x.nat] 52) = V at *
            generalize hBe : wr.heap.size = B at *
            have u1 := (Lib.cell_of_heap hPb 1).trans rfl
            have u3 := (Lib.cell_of_heap hPb 3).trans rfl
            have u7 := (Lib.cell_of_heap hPb 7).trans rfl
            have u8 := (Lib.cell_of_heap hPb 8).trans rfl
            have s9 : V.rangeAt B 9 [.int .i64 x.kind, .int .i64 x.at_, .int .i64 x.lo, .int .i64 x.hi, .int .i64 x.most, .slice A5 x.names.length n5, .slice A7 kd.len n7, .string x.name, .int .i64 x.nat] := fun j v h => by rw [Lib.cell_of_heap hPb, List.getElem?_toArray, ← List.getElem?_drop]; exact h
            clear bP hPb rg hlv hcv hyx nX a6 hg hBe
            have no : placeF f = false → ∀ W, Below w3.heap.size w3 W → Hid (R (.returned (.bool false)) W) := fun h W b => by
              have := hR.out W (nW.out.trans (b.mono nW.out.size))
              rw [h] at this
              exact Lib.hid this
            by_cases c1 : p.at_ = 0
            · by_cases c2 : p.cat = 0
              · have q3 : (p.at_ != 0) = false := by simpa using c1
                have q4 : (p.cat != 0) = false := by simpa using c2
                rw [decide_eq_true ⟨c1, c2⟩, Bool.true_and] at e3
                clear c1 c2
                go_wp2_with fail
                refine still15_calls p.label gp.2.2.2.2.2.2.2.2.1 _ V hlv2.out _ (Lib.hid fun w4 n4 => ?_)
                have n4' := Lib.hid (nY.out.trans (n4.mono nY.out.size))
                cases hS : stillW p.label
                · rw [hS] at e3
                  have fin := no (by rw [e3]; rfl) _ n4'.out
                  clear no hR e3 hS n4
                  go_wp2_with fail
                  exact fin.out
                · rw [hS, Bool.true_and] at e3
                  have u8' := (n4.cell (p := ⟨B, 8, none⟩) hBl).trans u8
                  have hcv3 := hcv2.out.below n4
                  have hyx3 := hyx2.out.below n4
                  have s9' : w4.rangeAt B 9 [.int .i64 x.kind, .int .i64 x.at_, .int .i64 x.lo, .int .i64 x.hi, .int .i64 x.most, .slice A5 x.names.length n5, .slice A7 kd.len n7, .string x.name, .int .i64 x.nat] := fun j v h => (n4.cell (p := ⟨B, 9 + j, none⟩) hBl).trans (s9 j v h)
                  have hBl4 := Nat.lt_of_lt_of_le hBl n4.size
                  have cT := Lib.hid fun R hR => still15_calls p.cl gp.2.2.2.2.2.2.2.2.2 _ w4 hcv3 R hR
                  clear hS n4 u1 u3 u7 u8 s9 hlv2 hcv2 hyx2 nY hcv3 hBl
                  go_wp2_with fail
                  refine cT.out _ (Lib.hid fun w5 n5' => ?_)
                  have n6 := Lib.hid (n4'.out.trans (n5'.mono n4'.out.size))
                  cases hS : stillW p.cl
                  · rw [hS] at e3
                    have fin := no (by rw [e3]; rfl) _ n6.out
                    clear no hR e3 hS n5'
                    go_wp2_with fail
                    exact fin.out
                  · rw [hS, Bool.true_and] at e3
                    have hyx4 := hyx3.below n5'
                    have s10 : w5.rangeAt B 9 [.int .i64 x.kind, .int .i64 x.at_, .int .i64 x.lo, .int .i64 x.hi, .int .i64 x.most, .slice A5 x.names.length n5, .slice A7 kd.len n7, .string x.name, .int .i64 x.nat] := fun j v h => (n5'.cell (p := ⟨B, 9 + j, none⟩) hBl4).trans (s9' j v h)
                    have cP := Lib.hid fun R hR => ihK.out x _ _ w5 gx.2.2.2.2.2.2.2.2 gk' ga2 hyx4 R hR
                    clear hS n5' u8' s9' hyx3 hyx4 n4' cT hBl4
                    go_wp2_with (refine wpList_load_g (by rfl) _ _ rfl B 9 rfl [.int .i64 x.kind, .int .i64 x.at_, .int .i64 x.lo, .int .i64 x.hi, .int .i64 x.most, .slice A5 x.names.length n5, .slice A7 kd.len n7, .string x.name, .int .i64 x.nat] _ s10 Try.underlying27 rfl (by kernel_rfl) ?_; go_simp)
                    refine cP.out _ (Lib.hid fun w6 n7' => ?_)
                    have n8 := Lib.hid (n6.out.trans (n7'.mono n6.out.size))
                    clear n7' cP s10 n6
                    cases hS : placeS x kd
                    · rw [hS] at e3
                      have fin := no (by rw [e3]; rfl) _ n8.out
                      clear no hR e3 hS
                      go_wp2_with fail
                      exact fin.out
                    · rw [hS, Bool.true_and, ← d1] at e3
                      clear hS no
                      go_wp2_with fail
                      go_roundg (gk - 1)
                      case measure => omega
                      case rel => exact ⟨K + 1, by go_num, by omega, n8, e3⟩
              · have q3 : (p.at_ != 0) = false := by simpa using c1
                have q4 : (p.cat != 0) = true := by simpa using c2
                rw [decide_eq_false (fun q => c2 q.2)] at e3
                have fin := no (by rw [e3]; rfl) _ nY.out
                clear no hR e3 c1 c2
                go_wp2_with fail
                exact fin.out
            · have q3 : (p.at_ != 0) = true := by simpa using c1
              rw [decide_eq_false (fun q => c1 q.1)] at e3
              have fin := no (by rw [e3]; rfl) _ nY.out
              clear no hR e3 c1
              go_wp2_with fail
              exact fin.out
          · obtain rfl : K = f.len := by omega
            have hz : placeF f = true := by rw [e2, Fo.drop_all (Nat.le_refl _)]; rfl
            have fin := Lib.hid (hR.out _ (nW.out.trans (nX.out.mono nW.out.size)))
            rw [hz] at fin
            clear hz hR e2
            go_wp2_with fail
            exact fin.out
    · have q1 : (h.at_ != 0) = false := by simpa using c1
      have q2 : (h.nat != 0) = true := by simpa using c2
      rw [decide_eq_false (fun q => c2 q.2)] at hR
      have fin := Lib.hid (hR.out _ nW.out)
      clear hR nW c1 c2
      go_wp2_with fail
      exact fin.out
  · have q1 : (h.at_ != 0) = true := by simpa using c1
    rw [decide_eq_false (fun q => c1 q.1)] at hR
    have fin := Lib.hid (hR.out _ nW.out)
    clear hR nW c1
    go_wp2_with fail
    exact fin.out
theorem place15_calls (f : Ft) : PlaceQ f := Fo.deep place15_step f
end Go.Proofs.Ytpepomnkoghjpaa.Kin
