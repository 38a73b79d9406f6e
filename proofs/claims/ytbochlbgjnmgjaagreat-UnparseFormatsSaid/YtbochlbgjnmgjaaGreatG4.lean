import Derived.Test.YtbochlbgjnmgjaaGreatZTypE
/- Layer 15: the reference's Placeless and Zero; the law's great. -/
set_option maxRecDepth 100000
set_option linter.unusedVariables false
namespace Go.Proofs.YtbochlbgjnmgjaaGreat.Kin
open Go.RowKit Go.Lib Go.Proofs.YtbochlbgjnmgjaaGreat.Utf Go.Proofs.YtbochlbgjnmgjaaGreat.Nam Go.Proofs.YtbochlbgjnmgjaaGreat.Lat

set_option maxRecDepth 100000 in
set_option maxHeartbeats 1000000 in
theorem zero15_calls (f : Ft) (h : TH) (nv pv : Value) (w : World) (hm : h.names.length ≤ maxLen) (hfl : f.len ≤ maxLen) (hga : f.All GoodH GoodL) (hy : RdY w h f nv pv) (R : Ending → World → Prop)
    (hR : Hid (∀ w', Below w.heap.size w w' → R (.returned (.bool (zeroB h f))) w')) : Calls Tryz.prog 211 #[tyV h nv pv] w R := by
  have bA := (Below.refl w.heap.size w).alloc (Nat.le_refl _) (.cells (tyL h nv pv).toArray 30)
  have hz : RdY (w.alloc (.cells (tyL h nv pv).toArray 30)) zTH .nil (.slice none 0 0) (.slice none 0 0) := ⟨RdG.none0 _ _ _, RdSl.nil _ _ _⟩
  have cS := Lib.hid fun R hR => (show Calls Tryz.prog 16 #[tyV h nv pv, .agg #[.int .i64 0, .int .i64 0, .int .i64 0, .int .i64 0, .int .i64 0, .slice none 0 0, .slice none 0 0, .string ⟨#[]⟩, .int .i64 0]] (w.alloc (.cells (tyL h nv pv).toArray 30)) R from same15_calls f h zTH .nil nv pv _ _ _ hm hfl hga (hy.below bA) hz R hR)
  obtain ⟨Ap, cp, rfl, -⟩ := hy.p.sl
  obtain ⟨An, cn, rfl, -, -⟩ := hy.n.op
  replace bA := Lib.hid bA
  clear hy hz hga
  go_enter Tryz.func211, Tryz.ntmps211
  go_wp2_with fail
  refine cS.out _ (Lib.hid fun w3 n3 => ?_)
  have fin := Lib.hid (hR.out _ (bA.out.trans (n3.mono bA.out.size)))
  unfold zeroB at fin
  clear n3 hR cS
  go_wp2_with fail
  exact fin.out
def PlaceQ (f : Ft) : Prop := ∀ (h : TH) (nv pv : Value) (w : World), h.names.length ≤ maxLen → f.len ≤ maxLen → f.All GoodH GoodL → RdY w h f nv pv → ∀ R : Ending → World → Prop,
  Hid (∀ w', Below w.heap.size w w' → R (.returned (.bool (placeS h f))) w') → Calls Tryz.prog 62 #[tyV h nv pv] w R
set_option maxRecDepth 100000 in
set_option maxHeartbeats 4000000 in
theorem place15_step (f : Ft) (ih : Fo.AllK PlaceQ f) : PlaceQ f := by
  intro h nv pv w hm hfl hga hy R hR
  replace hfl : f.len ≤ 9223372036854775807 := hfl
  have bA := (Below.refl w.heap.size w).alloc (Nat.le_refl _) (.cells (tyL h nv pv).toArray 30)
  have kA := TB.new w h nv pv 30
  have cW1 := Lib.hid fun (W : World) (b : Below w.heap.size w W) R hR => still15_calls h.names hm nv W (hy.n.below b) R hR
  obtain ⟨Ap, cp, rfl, hpl⟩ := hy.p.sl
  obtain ⟨An, cn, rfl, -, -⟩ := hy.n.op
  have hp : placeS h f = (decide (h.at_ = 0 ∧ h.nat = 0) && stillW h.names && placeF f) := rfl
  rw [hp] at hR
  clear hp
  replace hy := Lib.hid (hy.below bA)
  replace hga := Lib.hid hga
  replace ih := Lib.hid ih
  go_enter Tryz.func62, Tryz.ntmps62
  go_upto_region 1 with fail
  generalize w.alloc (.cells (tyL h (.slice An h.names.length cn) (.slice Ap f.len cp)).toArray 30) = W2 at *
  obtain ⟨ltH, -, a1, -, -, -, a5, a6, -, a8⟩ := kA
  have nW := Lib.hid bA
  clear bA
  by_cases c1 : h.at_ = 0
  · by_cases c2 : h.nat = 0
    · have q1 : (h.at_ != 0) = false := by simpa using c1
      have q2 : (h.nat != 0) = false := by simpa using c2
      rw [decide_eq_true ⟨c1, c2⟩, Bool.true_and] at hR
      clear c1 c2
      have cX1 := Lib.hid fun R hR => cW1.out W2 nW.out R hR
      generalize stillW h.names = S1 at *
      go_wp2_with fail
      refine cX1.out _ (Lib.hid fun w3 n3 => ?_)
      replace nW := Lib.hid (nW.out.trans (n3.mono nW.out.size))
      replace hy := Lib.hid (hy.out.below n3)
      have a6' := (n3.cell (p := ⟨w.heap.size, 6, none⟩) ltH).trans a6
      replace ltH := Nat.lt_of_lt_of_le ltH n3.size
      clear n3 cX1 cW1 a1 a5 a6 a8
      cases S1
      · have fin := Lib.hid (hR.out _ nW.out)
        clear hR nW
        go_wp2_with fail
        exact fin.out
      · rw [Bool.true_and] at hR
        go_wp2_with fail
        go_loopg [3] f.len (fun g0 i wr => ∃ K : Nat, i = .int .i64 K ∧ K + g0 = f.len ∧ Hid (Below w3.heap.size w3 wr) ∧ placeF f = placeF (f.drop K))
        case atStart => exact ⟨0, rfl, by omega, Lib.hid (Below.refl _ _), rfl⟩
        case round =>
          obtain ⟨K, rfl, e1, nX, e2⟩ := hrel
          have a6 := (nX.out.cell (p := ⟨w.heap.size, 6, none⟩) ltH).trans a6'
          by_cases hK : K < f.len
          · obtain ⟨p, x, kd, r, e⟩ := Fo.drop_lt hK
            obtain ⟨g, o, lv, cv, nx, px, rfl, hg, hlv, hcv, hyx, hc⟩ := (hy.out.below nX.out).p.part e
            obtain ⟨gp, gx, gk', ga2⟩ := all_at K hga.out e
            have ihK := Lib.hid ((ih.out).at_ e)
            rw [e] at e2
            have d1 := Fo.drop_succ K e
            have i0 : (0 : Int) ≤ (K : Int) := by omega
            have i1 : (K : Int) < (f.len : Int) := by omega
            obtain ⟨A1, n1, rfl, -, -⟩ := hlv.op
            obtain ⟨A2, n2, rfl, -, -⟩ := hcv.op
            obtain ⟨A5, n5, rfl, -, -⟩ := hyx.n.op
            obtain ⟨A7, n7, rfl, hk7⟩ := hyx.p.sl
            have e3 : placeF f = ((decide (p.at_ = 0 ∧ p.cat = 0) && stillW p.label && stillW p.cl && placeS x kd) && placeF r) := e2
            clear e2
            have rg : wr.rangeAt g (o + K * 18) #[.string p.name, .int .i64 p.at_, .bool p.bare, .slice A1 p.label.length n1, .int .i64 p.wide, .int .i64 p.ck, .int .i64 p.cn, .int .i64 p.cat, .slice A2 p.cl.length n2, .int .i64 x.kind, .int .i64 x.at_, .int .i64 x.lo, .int .i64 x.hi, .int .i64 x.most, .slice A5 x.names.length n5, .slice A7 kd.len n7, .string x.name, .int .i64 x.nat].toList := fun j v h => hc j v h
            clear hc e
            have bP := (Below.refl wr.heap.size wr).alloc (Nat.le_refl _) (.cells #[.string p.name, .int .i64 p.at_, .bool p.bare, .slice A1 p.label.length n1, .int .i64 p.wide, .int .i64 p.ck, .int .i64 p.cn, .int .i64 p.cat, .slice A2 p.cl.length n2, .int .i64 x.kind, .int .i64 x.at_, .int .i64 x.lo, .int .i64 x.hi, .int .i64 x.most, .slice A5 x.names.length n5, .slice A7 kd.len n7, .string x.name, .int .i64 x.nat] 75)
            have hPb := heap_alloc_new wr (.cells #[.string p.name, .int .i64 p.at_, .bool p.bare, .slice A1 p.label.length n1, .int .i64 p.wide, .int .i64 p.ck, .int .i64 p.cn, .int .i64 p.cat, .slice A2 p.cl.length n2, .int .i64 x.kind, .int .i64 x.at_, .int .i64 x.lo, .int .i64 x.hi, .int .i64 x.most, .slice A5 x.names.length n5, .slice A7 kd.len n7, .string x.name, .int .i64 x.nat] 75)
            go_upto_region 7 with (refine wpList_load_g (by rfl) _ _ rfl g (o + K * 18) rfl #[.string p.name, .int .i64 p.at_, .bool p.bare, .slice A1 p.label.length n1, .int .i64 p.wide, .int .i64 p.ck, .int .i64 p.cn, .int .i64 p.cat, .slice A2 p.cl.length n2, .int .i64 x.kind, .int .i64 x.at_, .int .i64 x.lo, .int .i64 x.hi, .int .i64 x.most, .slice A5 x.names.length n5, .slice A7 kd.len n7, .string x.name, .int .i64 x.nat].toList _ rg Tryz.underlying75 rfl (by kernel_rfl) ?_; go_simp)
            have hBl : wr.heap.size < (wr.alloc (.cells #[.string p.name, .int .i64 p.at_, .bool p.bare, .slice A1 p.label.length n1, .int .i64 p.wide, .int .i64 p.ck, .int .i64 p.cn, .int .i64 p.cat, .slice A2 p.cl.length n2, .int .i64 x.kind, .int .i64 x.at_, .int .i64 x.lo, .int .i64 x.hi, .int .i64 x.most, .slice A5 x.names.length n5, .slice A7 kd.len n7, .string x.name, .int .i64 x.nat] 75)).heap.size := by simp
            have nY := Lib.hid (nX.out.trans (bP.mono nX.out.size))
            have hlv2 := Lib.hid (hlv.below bP)
            have hcv2 := Lib.hid (hcv.below bP)
            have hyx2 := Lib.hid (hyx.below bP)
            generalize wr.alloc (.cells #[.string p.name, .int .i64 p.at_, .bool p.bare, .slice A1 p.label.length n1, .int .i64 p.wide, .int .i64 p.ck, .int .i64 p.cn, .int .i64 p.cat, .slice A2 p.cl.length n2, .int .i64 x.kind, .int .i64 x.at_, .int .i64 x.lo, .int .i64 x.hi, .int .i64 x.most, .slice A5 x.names.length n5, .slice A7 kd.len n7, .string x.name, .int .i64 x.nat] 75) = V at *
            generalize hBe : wr.heap.size = B at *
            have u1 := (Lib.cell_of_heap hPb 1).trans rfl
            have u3 := (Lib.cell_of_heap hPb 3).trans rfl
            have u7 := (Lib.cell_of_heap hPb 7).trans rfl
            have u8 := (Lib.cell_of_heap hPb 8).trans rfl
            have s9 : V.rangeAt B 9 [.int .i64 x.kind, .int .i64 x.at_, .int .i64 x.lo, .int .i64 x.hi, .int .i64 x.most, .slice A5 x.names.length n5, .slice A7 kd.len n7, .string x.name, .int .i64 x.nat] := fun j v h => by rw [Lib.cell_of_heap hPb, List.getElem?_toArray, ← List.getElem?_drop]; exact h
            clear bP hPb rg hlv hcv hyx nX a6 hg hBe
            have no : placeF f = false → ∀ W, Below w3.heap.size w3 W → Hid (R (.returned (.bool false)) W) := fun h W b => by
              have := hR.out W (nW.out.trans (b.mono nW.out.size))
              rw [h] at this
              exact Lib.hid this
            by_cases c1 : p.at_ = 0
            · by_cases c2 : p.cat = 0
              · have q3 : (p.at_ != 0) = false := by simpa using c1
                have q4 : (p.cat != 0) = false := by simpa using c2
                rw [decide_eq_true ⟨c1, c2⟩, Bool.true_and] at e3
                clear c1 c2
                go_wp2_with fail
                refine still15_calls p.label gp.2.2.2.2.2.2.2.2.1 _ V hlv2.out _ (Lib.hid fun w4 n4 => ?_)
                have n4' := Lib.hid (nY.out.trans (n4.mono nY.out.size))
                cases hS : stillW p.label
                · rw [hS] at e3
                  have fin := no (by rw [e3]; rfl) _ n4'.out
                  clear no hR e3 hS n4
                  go_wp2_with fail
                  exact fin.out
                · rw [hS, Bool.true_and] at e3
                  have u8' := (n4.cell (p := ⟨B, 8, none⟩) hBl).trans u8
                  have hcv3 := hcv2.out.below n4
                  have hyx3 := hyx2.out.below n4
                  have s9' : w4.rangeAt B 9 [.int .i64 x.kind, .int .i64 x.at_, .int .i64 x.lo, .int .i64 x.hi, .int .i64 x.most, .slice A5 x.names.length n5, .slice A7 kd.len n7, .string x.name, .int .i64 x.nat] := fun j v h => (n4.cell (p := ⟨B, 9 + j, none⟩) hBl).trans (s9 j v h)
                  have hBl4 := Nat.lt_of_lt_of_le hBl n4.size
                  have cT := Lib.hid fun R hR => still15_calls p.cl gp.2.2.2.2.2.2.2.2.2 _ w4 hcv3 R hR
                  clear hS n4 u1 u3 u7 u8 s9 hlv2 hcv2 hyx2 nY hcv3 hBl
                  go_wp2_with fail
                  refine cT.out _ (Lib.hid fun w5 n5' => ?_)
                  have n6 := Lib.hid (n4'.out.trans (n5'.mono n4'.out.size))
                  cases hS : stillW p.cl
                  · rw [hS] at e3
                    have fin := no (by rw [e3]; rfl) _ n6.out
                    clear no hR e3 hS n5'
                    go_wp2_with fail
                    exact fin.out
                  · rw [hS, Bool.true_and] at e3
                    have hyx4 := hyx3.below n5'
                    have s10 : w5.rangeAt B 9 [.int .i64 x.kind, .int .i64 x.at_, .int .i64 x.lo, .int .i64 x.hi, .int .i64 x.most, .slice A5 x.names.length n5, .slice A7 kd.len n7, .string x.name, .int .i64 x.nat] := fun j v h => (n5'.cell (p := ⟨B, 9 + j, none⟩) hBl4).trans (s9' j v h)
                    have cP := Lib.hid fun R hR => ihK.out x _ _ w5 gx.2.2.2.2.2.2.2.2 gk' ga2 hyx4 R hR
                    clear hS n5' u8' s9' hyx3 hyx4 n4' cT hBl4
                    go_wp2_with (refine wpList_load_g (by rfl) _ _ rfl B 9 rfl [.int .i64 x.kind, .int .i64 x.at_, .int .i64 x.lo, .int .i64 x.hi, .int .i64 x.most, .slice A5 x.names.length n5, .slice A7 kd.len n7, .string x.name, .int .i64 x.nat] _ s10 Tryz.underlying30 rfl (by kernel_rfl) ?_; go_simp)
                    refine cP.out _ (Lib.hid fun w6 n7' => ?_)
                    have n8 := Lib.hid (n6.out.trans (n7'.mono n6.out.size))
                    clear n7' cP s10 n6
                    cases hS : placeS x kd
                    · rw [hS] at e3
                      have fin := no (by rw [e3]; rfl) _ n8.out
                      clear no hR e3 hS
                      go_wp2_with fail
                      exact fin.out
                    · rw [hS, Bool.true_and, ← d1] at e3
                      clear hS no
                      go_wp2_with fail
                      go_roundg (gk - 1)
                      case measure => omega
                      case rel => exact ⟨K + 1, by go_num, by omega, n8, e3⟩
              · have q3 : (p.at_ != 0) = false := by simpa using c1
                have q4 : (p.cat != 0) = true := by simpa using c2
                rw [decide_eq_false (fun q => c2 q.2)] at e3
                have fin := no (by rw [e3]; rfl) _ nY.out
                clear no hR e3 c1 c2
                go_wp2_with fail
                exact fin.out
            · have q3 : (p.at_ != 0) = true := by simpa using c1
              rw [decide_eq_false (fun q => c1 q.1)] at e3
              have fin := no (by rw [e3]; rfl) _ nY.out
              clear no hR e3 c1
              go_wp2_with fail
              exact fin.out
          · obtain rfl : K = f.len := by omega
            have hz : placeF f = true := by rw [e2, Fo.drop_all (Nat.le_refl _)]; rfl
            have fin := Lib.hid (hR.out _ (nW.out.trans (nX.out.mono nW.out.size)))
            rw [hz] at fin
            clear hz hR e2
            go_wp2_with fail
            exact fin.out
    · have q1 : (h.at_ != 0) = false := by simpa using c1
      have q2 : (h.nat != 0) = true := by simpa using c2
      rw [decide_eq_false (fun q => c2 q.2)] at hR
      have fin := Lib.hid (hR.out _ nW.out)
      clear hR nW c1 c2
      go_wp2_with fail
      exact fin.out
  · have q1 : (h.at_ != 0) = true := by simpa using c1
    rw [decide_eq_false (fun q => c1 q.1)] at hR
    have fin := Lib.hid (hR.out _ nW.out)
    clear hR nW c1
    go_wp2_with fail
    exact fin.out
theorem place15_calls (f : Ft) : PlaceQ f := Fo.deep place15_step f -- of 62
end Go.Proofs.YtbochlbgjnmgjaaGreat.Kin

/- Layer 15: the reference's own. -/
set_option maxRecDepth 100000
set_option linter.unusedVariables false
namespace Go.Proofs.YtbochlbgjnmgjaaGreat.Kin
open Go.RowKit Go.Lib Go.Proofs.YtbochlbgjnmgjaaGreat.Utf Go.Proofs.YtbochlbgjnmgjaaGreat.Nam Go.Proofs.YtbochlbgjnmgjaaGreat.Lat

theorem sameF_nil (f : Ft) : sameF f .nil = decide (f.len = 0) := by
  cases f with
  | nil => rfl
  | cons p h k r => simp [sameF, Fo.len]
theorem sameW_nil (l : List Wr) : sameW l [] = decide (l = []) := by
  unfold sameW
  cases l <;> simp [nms]
set_option maxRecDepth 100000 in
set_option maxHeartbeats 4000000 in
theorem own15_calls (f : Ft) (h : TH) (nv pv : Value) (w : World) (hm : h.names.length ≤ maxLen) (hfl : f.len ≤ maxLen) (hga : f.All GoodH GoodL) (hy : RdY w h f nv pv) (R : Ending → World → Prop)
    (hR : Hid (∀ w', Below w.heap.size w w' → R (.returned (.bool (ownB h f))) w')) : Calls Tryz.prog 173 #[tyV h nv pv] w R := by
  have bA := (Below.refl w.heap.size w).alloc (Nat.le_refl _) (.cells (tyL h nv pv).toArray 30)
  have b2 : ∀ o, Below w.heap.size w ((w.alloc (.cells (tyL h nv pv).toArray 30)).alloc o) := fun o => bA.alloc bA.size o
  have cO := Lib.hid fun (h' : TH) (f' : Ft) (nv' pv' : Value) (hy' : RdY w h' f' nv' pv') R hR => same15_calls f h h' f' nv pv nv' pv' ((w.alloc (.cells (tyL h nv pv).toArray 30)).alloc (.cells (tyL h' nv' pv').toArray 30)) hm hfl hga (hy.below (b2 _)) (hy'.below (b2 _)) R hR
  have nn : RdW w (.slice none 0 0) [] := RdG.none0 _ _ _
  have pn : RdP w (.slice none 0 0) .nil := RdSl.nil _ _ _
  have yn := hy.n
  have yp := hy.p
  obtain ⟨Ap, cp, rfl, -⟩ := hy.p.sl
  obtain ⟨An, cn, rfl, -, -⟩ := hy.n.op
  obtain ⟨k, at_, lo, hi, most, names, name, nat⟩ := h
  simp only at hm yn yp cO b2 hR
  replace b2 := Lib.hid b2
  replace nn := Lib.hid nn
  replace pn := Lib.hid pn
  replace yn := Lib.hid yn
  replace yp := Lib.hid yp
  clear hy hga hm hfl bA
  by_cases c2 : k = 2
  · subst c2
    go_enter Tryz.func173, Tryz.ntmps173
    go_wp2_with fail
    refine cO.out ⟨2, 0, lo, hi, 0, [], ⟨#[]⟩, 0⟩ .nil (.slice none 0 0) (.slice none 0 0) ⟨nn.out, pn.out⟩ _ (Lib.hid fun w3 n3 => ?_)
    have hq : sameS ⟨2, at_, lo, hi, most, names, name, nat⟩ f ⟨2, 0, lo, hi, 0, [], ⟨#[]⟩, 0⟩ .nil = ownB ⟨2, at_, lo, hi, most, names, name, nat⟩ f := by
      unfold sameS headB ownB
      simp only [sameF_nil, sameW_nil, sameW_refl, sameF_refl]
      rw [Bool.eq_iff_iff]
      simp [show ByteArray.empty = (⟨#[]⟩ : ByteArray) from rfl] <;> (constructor <;> (intro q; simp_all))
    have fin := Lib.hid (hR.out _ ((b2.out _).trans (n3.mono (b2.out _).size)))
    rw [← hq] at fin
    clear hR n3 cO b2 hq
    go_wp2_with fail
    exact fin.out
  by_cases c3 : k = 3
  · subst c3
    go_enter Tryz.func173, Tryz.ntmps173
    go_wp2_with fail
    refine cO.out ⟨3, 0, 0, 0, most, [], ⟨#[]⟩, 0⟩ .nil (.slice none 0 0) (.slice none 0 0) ⟨nn.out, pn.out⟩ _ (Lib.hid fun w3 n3 => ?_)
    have hq : sameS ⟨3, at_, lo, hi, most, names, name, nat⟩ f ⟨3, 0, 0, 0, most, [], ⟨#[]⟩, 0⟩ .nil = ownB ⟨3, at_, lo, hi, most, names, name, nat⟩ f := by
      unfold sameS headB ownB
      simp only [sameF_nil, sameW_nil, sameW_refl, sameF_refl]
      rw [Bool.eq_iff_iff]
      simp [show ByteArray.empty = (⟨#[]⟩ : ByteArray) from rfl] <;> (constructor <;> (intro q; simp_all))
    have fin := Lib.hid (hR.out _ ((b2.out _).trans (n3.mono (b2.out _).size)))
    rw [← hq] at fin
    clear hR n3 cO b2 hq
    go_wp2_with fail
    exact fin.out
  by_cases c4 : k = 4
  · subst c4
    go_enter Tryz.func173, Tryz.ntmps173
    go_wp2_with fail
    refine cO.out ⟨4, 0, 0, 0, 0, names, ⟨#[]⟩, 0⟩ .nil (.slice An names.length cn) (.slice none 0 0) ⟨yn.out, pn.out⟩ _ (Lib.hid fun w3 n3 => ?_)
    have hq : sameS ⟨4, at_, lo, hi, most, names, name, nat⟩ f ⟨4, 0, 0, 0, 0, names, ⟨#[]⟩, 0⟩ .nil = ownB ⟨4, at_, lo, hi, most, names, name, nat⟩ f := by
      unfold sameS headB ownB
      simp only [sameF_nil, sameW_nil, sameW_refl, sameF_refl]
      rw [Bool.eq_iff_iff]
      simp [show ByteArray.empty = (⟨#[]⟩ : ByteArray) from rfl] <;> (constructor <;> (intro q; simp_all))
    have fin := Lib.hid (hR.out _ ((b2.out _).trans (n3.mono (b2.out _).size)))
    rw [← hq] at fin
    clear hR n3 cO b2 hq
    go_wp2_with fail
    exact fin.out
  by_cases c5 : k = 5
  · subst c5
    go_enter Tryz.func173, Tryz.ntmps173
    go_wp2_with fail
    refine cO.out ⟨5, 0, 0, 0, most, [], ⟨#[]⟩, 0⟩ f (.slice none 0 0) (.slice Ap f.len cp) ⟨nn.out, yp.out⟩ _ (Lib.hid fun w3 n3 => ?_)
    have hq : sameS ⟨5, at_, lo, hi, most, names, name, nat⟩ f ⟨5, 0, 0, 0, most, [], ⟨#[]⟩, 0⟩ f = ownB ⟨5, at_, lo, hi, most, names, name, nat⟩ f := by
      unfold sameS headB ownB
      simp only [sameW_nil, sameW_refl, sameF_refl]
      rw [Bool.eq_iff_iff]
      simp [show ByteArray.empty = (⟨#[]⟩ : ByteArray) from rfl] <;> (constructor <;> (intro q; simp_all))
    have fin := Lib.hid (hR.out _ ((b2.out _).trans (n3.mono (b2.out _).size)))
    rw [← hq] at fin
    clear hR n3 cO b2 hq
    go_wp2_with fail
    exact fin.out
  by_cases c6 : k = 6
  · subst c6
    go_enter Tryz.func173, Tryz.ntmps173
    go_wp2_with fail
    refine cO.out ⟨6, 0, 0, 0, 0, [], ⟨#[]⟩, 0⟩ f (.slice none 0 0) (.slice Ap f.len cp) ⟨nn.out, yp.out⟩ _ (Lib.hid fun w3 n3 => ?_)
    have hq : sameS ⟨6, at_, lo, hi, most, names, name, nat⟩ f ⟨6, 0, 0, 0, 0, [], ⟨#[]⟩, 0⟩ f = ownB ⟨6, at_, lo, hi, most, names, name, nat⟩ f := by
      unfold sameS headB ownB
      simp only [sameW_nil, sameW_refl, sameF_refl]
      rw [Bool.eq_iff_iff]
      simp [show ByteArray.empty = (⟨#[]⟩ : ByteArray) from rfl] <;> (constructor <;> (intro q; simp_all))
    have fin := Lib.hid (hR.out _ ((b2.out _).trans (n3.mono (b2.out _).size)))
    rw [← hq] at fin
    clear hR n3 cO b2 hq
    go_wp2_with fail
    exact fin.out
  by_cases c7 : k = 7
  · subst c7
    go_enter Tryz.func173, Tryz.ntmps173
    go_wp2_with fail
    refine cO.out ⟨7, 0, 0, 0, 0, [], ⟨#[]⟩, 0⟩ f (.slice none 0 0) (.slice Ap f.len cp) ⟨nn.out, yp.out⟩ _ (Lib.hid fun w3 n3 => ?_)
    have hq : sameS ⟨7, at_, lo, hi, most, names, name, nat⟩ f ⟨7, 0, 0, 0, 0, [], ⟨#[]⟩, 0⟩ f = ownB ⟨7, at_, lo, hi, most, names, name, nat⟩ f := by
      unfold sameS headB ownB
      simp only [sameW_nil, sameW_refl, sameF_refl]
      rw [Bool.eq_iff_iff]
      simp [show ByteArray.empty = (⟨#[]⟩ : ByteArray) from rfl] <;> (constructor <;> (intro q; simp_all))
    have fin := Lib.hid (hR.out _ ((b2.out _).trans (n3.mono (b2.out _).size)))
    rw [← hq] at fin
    clear hR n3 cO b2 hq
    go_wp2_with fail
    exact fin.out
  by_cases c8 : k = 8
  · subst c8
    go_enter Tryz.func173, Tryz.ntmps173
    go_wp2_with fail
    refine cO.out ⟨8, 0, 0, 0, 0, [], ⟨#[]⟩, 0⟩ f (.slice none 0 0) (.slice Ap f.len cp) ⟨nn.out, yp.out⟩ _ (Lib.hid fun w3 n3 => ?_)
    have hq : sameS ⟨8, at_, lo, hi, most, names, name, nat⟩ f ⟨8, 0, 0, 0, 0, [], ⟨#[]⟩, 0⟩ f = ownB ⟨8, at_, lo, hi, most, names, name, nat⟩ f := by
      unfold sameS headB ownB
      simp only [sameW_nil, sameW_refl, sameF_refl]
      rw [Bool.eq_iff_iff]
      simp [show ByteArray.empty = (⟨#[]⟩ : ByteArray) from rfl] <;> (constructor <;> (intro q; simp_all))
    have fin := Lib.hid (hR.out _ ((b2.out _).trans (n3.mono (b2.out _).size)))
    rw [← hq] at fin
    clear hR n3 cO b2 hq
    go_wp2_with fail
    exact fin.out
  by_cases c9 : k = 9
  · subst c9
    go_enter Tryz.func173, Tryz.ntmps173
    go_wp2_with fail
    refine cO.out ⟨9, 0, 0, 0, 0, [], name, nat⟩ .nil (.slice none 0 0) (.slice none 0 0) ⟨nn.out, pn.out⟩ _ (Lib.hid fun w3 n3 => ?_)
    have hq : sameS ⟨9, at_, lo, hi, most, names, name, nat⟩ f ⟨9, 0, 0, 0, 0, [], name, nat⟩ .nil = ownB ⟨9, at_, lo, hi, most, names, name, nat⟩ f := by
      unfold sameS headB ownB
      simp only [sameF_nil, sameW_nil, sameW_refl, sameF_refl]
      rw [Bool.eq_iff_iff]
      simp [show ByteArray.empty = (⟨#[]⟩ : ByteArray) from rfl] <;> (constructor <;> (intro q; simp_all))
    have fin := Lib.hid (hR.out _ ((b2.out _).trans (n3.mono (b2.out _).size)))
    rw [← hq] at fin
    clear hR n3 cO b2 hq
    go_wp2_with fail
    exact fin.out
  by_cases c10 : 4 < k
  · have c11 : 9 < k := by omega
    have q2 : (k == 2) = false := by simpa using c2
    have q3 : (k == 3) = false := by simpa using c3
    have q4 : (k == 4) = false := by simpa using c4
    have q5 : (k == 5) = false := by simpa using c5
    have q9 : (k == 9) = false := by simpa using c9
    have c5x : ¬ (4 < k ∧ k < 9) := by omega
    go_enter Tryz.func173, Tryz.ntmps173
    go_wp2_with fail
    refine cO.out ⟨k, 0, 0, 0, 0, [], ⟨#[]⟩, 0⟩ .nil (.slice none 0 0) (.slice none 0 0) ⟨nn.out, pn.out⟩ _ (Lib.hid fun w3 n3 => ?_)
    have hq : sameS ⟨k, at_, lo, hi, most, names, name, nat⟩ f ⟨k, 0, 0, 0, 0, [], ⟨#[]⟩, 0⟩ .nil = ownB ⟨k, at_, lo, hi, most, names, name, nat⟩ f := by
      unfold sameS headB ownB
      simp only [sameF_nil, sameW_nil, sameW_refl, sameF_refl]
      rw [Bool.eq_iff_iff]
      simp [show ByteArray.empty = (⟨#[]⟩ : ByteArray) from rfl, c2, c3, c4, c9, c5x] <;> (constructor <;> (intro q; simp_all))
    have fin := Lib.hid (hR.out _ ((b2.out _).trans (n3.mono (b2.out _).size)))
    rw [← hq] at fin
    clear hR n3 cO b2 hq
    go_wp2_with fail
    exact fin.out
  · skip
    have q2 : (k == 2) = false := by simpa using c2
    have q3 : (k == 3) = false := by simpa using c3
    have q4 : (k == 4) = false := by simpa using c4
    have q5 : (k == 5) = false := by simpa using c5
    have q9 : (k == 9) = false := by simpa using c9
    have c5x : ¬ (4 < k ∧ k < 9) := by omega
    go_enter Tryz.func173, Tryz.ntmps173
    go_wp2_with fail
    refine cO.out ⟨k, 0, 0, 0, 0, [], ⟨#[]⟩, 0⟩ .nil (.slice none 0 0) (.slice none 0 0) ⟨nn.out, pn.out⟩ _ (Lib.hid fun w3 n3 => ?_)
    have hq : sameS ⟨k, at_, lo, hi, most, names, name, nat⟩ f ⟨k, 0, 0, 0, 0, [], ⟨#[]⟩, 0⟩ .nil = ownB ⟨k, at_, lo, hi, most, names, name, nat⟩ f := by
      unfold sameS headB ownB
      simp only [sameF_nil, sameW_nil, sameW_refl, sameF_refl]
      rw [Bool.eq_iff_iff]
      simp [show ByteArray.empty = (⟨#[]⟩ : ByteArray) from rfl, c2, c3, c4, c9, c5x] <;> (constructor <;> (intro q; simp_all))
    have fin := Lib.hid (hR.out _ ((b2.out _).trans (n3.mono (b2.out _).size)))
    rw [← hq] at fin
    clear hR n3 cO b2 hq
    go_wp2_with fail
    exact fin.out
end Go.Proofs.YtbochlbgjnmgjaaGreat.Kin

/- Layer 15: the reference's listed and names. -/
set_option maxRecDepth 100000
set_option linter.unusedVariables false
namespace Go.Proofs.YtbochlbgjnmgjaaGreat.Kin
open Go.RowKit Go.Lib Go.Proofs.YtbochlbgjnmgjaaGreat.Utf Go.Proofs.YtbochlbgjnmgjaaGreat.Nam Go.Proofs.YtbochlbgjnmgjaaGreat.Lat

theorem nms_at {l : List Wr} {i : Nat} (h : i < l.length) : (nms l).getD i ByteArray.empty = (wN l i).1 := by
  rw [List.getD_eq_getElem?_getD, nms_get h]
  rfl
theorem mem_take {l : List Wr} {i : Nat} (h : i < l.length) (x : ByteArray) : x ∈ (nms l).take (i + 1) ↔ (x ∈ (nms l).take i ∨ (wN l i).1 = x) := by
  have hn : i < (nms l).length := by rw [nms_len]; exact h
  rw [List.take_add_one, List.mem_append, nms_get h]
  simp [eq_comm]
set_option maxRecDepth 100000 in
set_option maxHeartbeats 1000000 in
theorem listed15_calls (a : List Wr) (i : Nat) (hi : i < a.length) (hm : a.length ≤ maxLen) (hg : ∀ x ∈ a, GoodW x) (va : Value) (w : World) (ha : RdW w va a) (R : Ending → World → Prop) (hR : Hid (∀ w', Below w.heap.size w w' → R (.returned (.int .i64 (listedS (nms a) i))) w')) : Calls Tryz.prog 174 #[va, .int .i64 i] w R := by
  replace hm : a.length ≤ 9223372036854775807 := hm
  obtain ⟨A, ca, rfl, hca, hra⟩ := ha.op
  obtain ⟨ga, oa, rfl, hga, cl⟩ := hra (by omega)
  have hn := nms_at hi
  have j0 : (0 : Int) ≤ (i : Int) := by omega
  have j1 : (i : Int) < (a.length : Int) := by omega
  have x0 := (cl i hi).1
  have hz := (hg _ (wN_mem hi)).1
  have hls : listedS (nms a) i = if rightS (wN a i).1 = false then 9 else if (wN a i).1 ∈ (nms a).take i then 10 else 0 := by unfold listedS; rw [hn]
  have cR := Lib.hid fun R hR => refright_calls (wN a i).1 hz w R hR
  rw [hls] at hR
  replace cl := Lib.hid cl
  clear hls hra ha hn hz
  generalize hxe : (wN a i).1 = x at *
  go_enter Tryz.func174, Tryz.ntmps174
  go_wp2_with fail
  refine cR.out _ (Lib.hid ?_)
  cases hr : rightS x
  · rw [hr, if_pos rfl] at hR
    have fin := Lib.hid (hR.out _ (Below.refl _ _))
    clear hR cR hr
    go_wp2_with fail
    exact fin.out
  · rw [hr, if_neg (by simp)] at hR
    clear cR hr
    go_wp2_with fail
    go_loopg [5] i (fun g k wr => ∃ K : Nat, k = .int .i64 K ∧ K + g = i ∧ Hid (Below w.heap.size w wr) ∧ ¬ x ∈ (nms a).take K)
    case atStart => exact ⟨0, rfl, by omega, Lib.hid (Below.refl _ _), by simp⟩
    case round =>
      obtain ⟨K, rfl, e1, nb, e2⟩ := hrel
      by_cases hK : K < i
      · have hKa : K < a.length := by omega
        have y0 := (nb.out.cell (p := ⟨ga, oa + K * 2, none⟩) hga).trans (cl.out K hKa).1
        replace x0 := (nb.out.cell (p := ⟨ga, oa + i * 2, none⟩) hga).trans x0
        have i0 : (0 : Int) ≤ (K : Int) := by omega
        have i1 : (K : Int) < (a.length : Int) := by omega
        have i2 : (K : Int) < (i : Int) := by omega
        have hmt := mem_take hKa x
        by_cases hq : (wN a K).1 = x
        · have q2 := sq_t hq
          have hin : x ∈ (nms a).take i := List.take_subset_take_left _ (by omega) (hmt.2 (.inr hq))
          rw [if_pos hin] at hR
          have fin := Lib.hid (hR.out _ nb.out.drew)
          clear hR hin hmt hq hxe e2
          generalize (wN a K).1 = y at *
          go_wp2_with fail
          go_region
          go_wp2_with fail
          exact fin.out
        · have q2 := sq_f hq
          have e3 : ¬ x ∈ (nms a).take (K + 1) := fun q => by rcases hmt.1 q with q | q; exact e2 q; exact hq q
          clear hmt hq hxe e2
          generalize (wN a K).1 = y at *
          go_wp2_with fail
          go_region
          go_wp2_with fail
          go_roundg (gk - 1)
          case measure => omega
          case rel => exact ⟨K + 1, by go_num, by omega, Lib.hid nb.out.drew, e3⟩
      · obtain rfl : K = i := by omega
        rw [if_neg e2] at hR
        have fin := Lib.hid (hR.out _ nb.out)
        clear hR e2
        go_wp2_with fail
        exact fin.out
theorem pnm_drop : ∀ (n : Nat) {f : Ft} {p : PH} {x : TH} {k r : Ft}, f.drop n = .cons p x k r → (pnm f).take (n + 1) = (pnm f).take n ++ [(p.name, p.at_)]
  | 0, f, p, x, k, r, e => by
    have e' : f = .cons p x k r := e
    rw [e']
    rfl
  | n + 1, .nil, p, x, k, r, e => by simp [Fo.drop] at e
  | n + 1, .cons q y l s, p, x, k, r, e => by
    have := pnm_drop n (f := s) e
    simp only [pnm, List.take_succ_cons, this, List.cons_append]
theorem infoWrd : (Tryz.prog.info? 28).map (fun i => (i.zero, i.size, i.bytes)) = some (some (.agg #[.string ⟨#[]⟩, .int .i64 0]), 2, 24) := by kernel_rfl
set_option maxRecDepth 100000 in
set_option maxHeartbeats 1000000 in
theorem names15_calls (f : Ft) (hfl : f.len ≤ 64) (pv : Value) (w : World) (hp : RdP w pv f) (R : Ending → World → Prop) (hR : Hid (∀ v' w', RdW w' v' (pnm f) → Below w.heap.size w w' → R (.returned v') w')) : Calls Tryz.prog 210 #[pv] w R := by
  obtain ⟨ti, hI, hZ⟩ : ∃ i0, Tryz.prog.info? 28 = some i0 ∧ (i0.zero, i0.size, i0.bytes) = (some (.agg #[.string ⟨#[]⟩, .int .i64 0]), 2, 24) := by
    have := infoWrd
    cases h : Tryz.prog.info? 28 with
    | none => rw [h] at this; cases this
    | some i0 => rw [h] at this; exact ⟨i0, rfl, by simpa using this⟩
  simp only [Prod.mk.injEq] at hZ
  obtain ⟨hz0, hz1, hz2⟩ := hZ
  obtain ⟨Ap, cp, rfl, hpl⟩ := hp.sl
  replace hp := Lib.hid hp
  go_enter Tryz.func210, Tryz.ntmps210
  go_wp2_with fail
  go_loopg [3, 4] f.len (fun g s k wr => ∃ (K : Nat) (v : Value), s = v ∧ k = .int .i64 K ∧ K + g = f.len ∧ Hid (Below w.heap.size w wr) ∧ Hid (wr.ownsRow w.heap.size 28 2 v K (flatG encW ((pnm f).take K))))
  case atStart => exact ⟨0, _, rfl, rfl, by omega, Lib.hid (Below.refl _ _), Lib.hid (by simpa [flatG] using World.ownsRow_nil _ _ _ _)⟩
  case round =>
    obtain ⟨K, v, rfl, rfl, e1, nb, own⟩ := hrel
    by_cases hK : K < f.len
    · obtain ⟨p, x, kd, r, e⟩ := Fo.drop_lt hK
      obtain ⟨g, o, lv, cv, nx, px, rfl, hg, -, -, -, hc⟩ := RdP.part (RdSl.kp (hd := hdT) (pl := plT) (fun _ _ _ _ _ q h => hdT.kp q h) (fun _ _ _ _ q h => plT.kp q h) (Kp.of_below nb.out) hp.out) e
      have x0 := hc 0 _ rfl
      have x1 := hc 1 _ rfl
      rw [Nat.add_zero] at x0
      have i0 : (0 : Int) ≤ (K : Int) := by omega
      have i1 : (K : Int) < (f.len : Int) := by omega
      have ht := pnm_drop K e
      have hsz := nb.out.size
      clear hc e
      go_wp2_with (at_builtin; go_loud (refine appK _ #[.string p.name, .int .i64 p.at_] 2 28 rfl _ _ 23 rfl w.heap.size ti (.agg #[.string ⟨#[]⟩, .int .i64 0]) 24 Tryz.underlying23 hI hz0 hz1 hz2 rfl (by decide) rfl _ K (flatG encW ((pnm f).take K)) rfl own.out _ rfl rfl (by simp [Value.oneCell']) (by unfold maxLen; omega) (by omega) hsz ?_); rintro v' w3 hown3 hg3 hb3)
      have own2 := Lib.hid (show w3.ownsRow w.heap.size 28 2 v' (K + 1) (flatG encW ((pnm f).take (K + 1))) by rw [ht, flatG_snoc]; exact hown3)
      have nb2 := Lib.hid (nb.out.trans hb3)
      clear hown3 hg3 hb3 own nb ht
      go_wp2_with fail
      go_roundg (gk - 1)
      case measure => omega
      case rel => exact ⟨K + 1, _, rfl, by go_num, by omega, nb2, own2⟩
    · obtain rfl : K = f.len := by omega
      have et : (pnm f).take f.len = pnm f := by rw [← pnm_len, List.take_length]
      have rd := RdG.of_own own.out
      rw [et] at rd
      have fin := Lib.hid (hR.out _ _ rd nb.out)
      clear hR rd own
      go_wp2_with fail
      exact fin.out
end Go.Proofs.YtbochlbgjnmgjaaGreat.Kin

/- Layer 15: what is wrong: plain lemmas of the reference's and the code's walks. -/
set_option maxRecDepth 100000
set_option linter.unusedVariables false
namespace Go.Proofs.YtbochlbgjnmgjaaGreat.Kin
open Go.RowKit Go.Lib Go.Proofs.YtbochlbgjnmgjaaGreat.Utf Go.Proofs.YtbochlbgjnmgjaaGreat.Nam Go.Proofs.YtbochlbgjnmgjaaGreat.Lat

theorem wrB_cnt (h : TH) (k : Ft) (sub : Mo → Nat → Nat → Res) (hs : ∀ mo d m, m ≤ 512 → (sub mo d m).1 = 0 → (sub mo d m).2.2 ≤ 512) (d m : Nat) : (wrB h k sub d m).1 = 0 → (wrB h k sub d m).2.2 ≤ 512 := by
  unfold wrB
  by_cases h1 : 24 < d
  · rw [if_pos h1]; simp
  rw [if_neg h1]
  by_cases h2 : 512 < m + 1
  · rw [if_pos h2]; simp
  rw [if_neg h2]
  have hm : m + 1 ≤ 512 := by omega
  repeat' split
  all_goals first | exact hs _ _ _ hm | (intro _; exact hm)
theorem wrF_cnt : ∀ (f : Ft) (mo : Mo) (d m : Nat), m ≤ 512 → (wrF f mo d m).1 = 0 → (wrF f mo d m).2.2 ≤ 512
  | .nil, _, _, m, hm => fun _ => hm
  | .cons p h k r, .one, d, m, hm => wrB_cnt h k _ (wrF_cnt k) d m
  | .cons p h k r, .parts K ns i, d, m, hm => by
    have hB := wrB_cnt h k _ (wrF_cnt k) d m
    have hr := fun m hm => wrF_cnt r (.parts K ns (i + 1)) d m hm
    unfold wrF
    generalize wrB h k (wrF k) d m = A at *
    repeat' split
    all_goals first | exact hr _ hm | exact hB | (intro _; exact hm) | skip
    rename_i q
    exact hr _ (hB (by simpa using q))
theorem blt_of {V : World} {b : Nat} {o : Obj} (h : V.heap[b]? = some o) : b < V.heap.size := (Array.getElem?_eq_some_iff.1 h).1
theorem good_pnm : ∀ {f : Ft}, f.All GoodH GoodL → ∀ y ∈ pnm f, GoodW y
  | .nil, _, y, h => by simp [pnm] at h
  | .cons p x k r, a, y, h => by
    rcases List.mem_cons.1 h with rfl | h
    · exact ⟨a.1.1, a.1.2.1⟩
    · exact good_pnm a.2.2.2.2 y h
theorem pnm_at : ∀ (n : Nat) {f : Ft} {p : PH} {x : TH} {k r : Ft}, f.drop n = .cons p x k r → wN (pnm f) n = (p.name, p.at_)
  | 0, f, p, x, k, r, e => by
    have e' : f = .cons p x k r := e
    rw [e']
    rfl
  | n + 1, .nil, p, x, k, r, e => by simp [Fo.drop] at e
  | n + 1, .cons q y l s, p, x, k, r, e => by
    have := pnm_at n (f := s) e
    simpa [pnm, wN] using this
theorem set_atK {w : World} {p : Nat} {cs : Array Value} {t : TypeId} (h : w.heap[p]? = some (.cells cs t)) (o : Nat) (v : Value) : (w.setCell ⟨p, o, none⟩ v).heap[p]? = some (.cells (cs.setIfInBounds o v) t) := by
  simp [World.setCell, Array.getElem?_modify, h]
theorem set_neK {w : World} {q o k : Nat} {v : Value} (h : k ≠ q) : (w.setCell ⟨q, o, none⟩ v).heap[k]? = w.heap[k]? := Below.heap_setCell _ ⟨q, o, none⟩ v k h
theorem enumF_zero (ns : List ByteArray) : ∀ (l : List Wr) (i : Nat), (enumF ns i l).1 = 0 → (enumF ns i l).2 = 0
  | [], _ => fun _ => rfl
  | x :: r, i => by
    unfold enumF
    split
    · rename_i q; exact fun h => absurd h q
    · exact enumF_zero ns r (i + 1)
theorem wrB_zero (h : TH) (k : Ft) (sub : Mo → Nat → Nat → Res) (hs : ∀ mo d m, (sub mo d m).1 = 0 → (sub mo d m).2.1 = 0) (d m : Nat) : (wrB h k sub d m).1 = 0 → (wrB h k sub d m).2.1 = 0 := by
  unfold wrB
  by_cases h1 : 24 < d
  · rw [if_pos h1]; simp
  rw [if_neg h1]
  by_cases h2 : 512 < m + 1
  · rw [if_pos h2]; simp
  rw [if_neg h2]
  repeat' split
  all_goals first | exact hs _ _ _ | exact enumF_zero _ _ _ | (intro _; rfl) | (intro q; simp at q)
theorem wrF_zero : ∀ (f : Ft) (mo : Mo) (d m : Nat), (wrF f mo d m).1 = 0 → (wrF f mo d m).2.1 = 0
  | .nil, _, _, m => fun _ => rfl
  | .cons p h k r, .one, d, m => wrB_zero h k _ (wrF_zero k) d m
  | .cons p h k r, .parts K ns i, d, m => by
    have hB := wrB_zero h k _ (wrF_zero k) d m
    have hr := fun m => wrF_zero r (.parts K ns (i + 1)) d m
    unfold wrF
    generalize wrB h k (wrF k) d m = A at *
    repeat' split
    all_goals first | exact hr _ | exact hB | (rename_i q; exact fun h => absurd h q) | (intro q; simp at q)
/-- What is wrong with the parts of a record or a union. -/
noncomputable def partS (h : TH) (f : Ft) (d m : Nat) : Res := if h.kind = 8 ∧ f.len = 0 then (15, h.at_, m) else if 64 < f.len then (8, (wN (pnm f) 64).2, m) else wrF f (.parts h.kind (nms (pnm f)) 0) (d + 1) m
theorem TB.range {w : World} {B : Nat} {h : TH} {nv pv : Value} (q : TB w B h nv pv) : w.rangeAt B 0 [.int .i64 h.kind, .int .i64 h.at_, .int .i64 h.lo, .int .i64 h.hi, .int .i64 h.most, nv, pv, .string h.name, .int .i64 h.nat] := fun j v hj => by
  rw [Nat.zero_add]
  match j, hj with
  | 0, e => obtain rfl := Option.some.inj e; exact q.k0
  | 1, e => obtain rfl := Option.some.inj e; exact q.k1
  | 2, e => obtain rfl := Option.some.inj e; exact q.k2
  | 3, e => obtain rfl := Option.some.inj e; exact q.k3
  | 4, e => obtain rfl := Option.some.inj e; exact q.k4
  | 5, e => obtain rfl := Option.some.inj e; exact q.k5
  | 6, e => obtain rfl := Option.some.inj e; exact q.k6
  | 7, e => obtain rfl := Option.some.inj e; exact q.k7
  | 8, e => obtain rfl := Option.some.inj e; exact q.k8
  | _ + 9, e => simp at e
theorem TB.set1 {w : World} {B q : Nat} {h : TH} {nv pv : Value} (t : TB w B h nv pv) (hq : B ≠ q) (o : Nat) (a : Value) : TB (w.setCell ⟨q, o, none⟩ a) B h nv pv := by
  have e : (w.setCell ⟨q, o, none⟩ a).heap[B]? = w.heap[B]? := set_neK hq
  have k := fun j => World.cell?_of_block (a := ⟨B, j, none⟩) e
  exact ⟨by simp [World.setCell]; exact t.lt, (k 0).trans t.k0, (k 1).trans t.k1, (k 2).trans t.k2, (k 3).trans t.k3, (k 4).trans t.k4, (k 5).trans t.k5, (k 6).trans t.k6, (k 7).trans t.k7, (k 8).trans t.k8⟩
section
variable {h : TH} {k : Ft} {sub : Mo → Nat → Nat → Res} {d m M : Nat}
theorem wrB_ok (hM : M = m + 1) (hd : d ≤ 24) (hm : M ≤ 512) (h1 : 1 ≤ h.kind) (h9 : h.kind ≤ 9) (ho : ownB h k = true) : wrB h k sub d m =
    if (h.kind = 2 ∧ h.hi < h.lo) ∨ (h.kind = 3 ∧ (h.most < 0 ∨ 4096 < h.most)) then (20, h.at_, M)
    else if h.kind = 9 ∧ rightS h.name = false then (9, h.nat, M)
    else if h.kind = 4 then (if h.names = [] then (15, h.at_, M) else if 64 < h.names.length then (8, (wN h.names 64).2, M) else ((enumF (nms h.names) 0 h.names).1, (enumF (nms h.names) 0 h.names).2, M))
    else if h.kind = 5 ∨ h.kind = 6 then (if onlyB k = false then (19, h.at_, M) else if h.most < 0 ∨ 1024 < h.most then (20, h.at_, M) else sub .one (d + 1) M)
    else if h.kind = 7 ∨ h.kind = 8 then (if h.kind = 8 ∧ k.len = 0 then (15, h.at_, M) else if 64 < k.len then (8, (wN (pnm k) 64).2, M) else sub (.parts h.kind (nms (pnm k)) 0) (d + 1) M)
    else (0, 0, M) := by
  subst hM
  unfold wrB
  rw [if_neg (by omega), if_neg (by omega), if_neg (by omega), if_neg (by rw [ho]; simp)]
variable (hM : M = m + 1) (hd : d ≤ 24) (hm : M ≤ 512) (ho : ownB h k = true)
include hM hd hm ho
theorem wrB_1 (hk : h.kind = 1) : wrB h k sub d m = (0, 0, M) := by rw [wrB_ok hM hd hm (by omega) (by omega) ho]; simp [hk]
theorem wrB_2 (hk : h.kind = 2) : wrB h k sub d m = if h.hi < h.lo then (20, h.at_, M) else (0, 0, M) := by rw [wrB_ok hM hd hm (by omega) (by omega) ho]; simp [hk]
theorem wrB_3 (hk : h.kind = 3) : wrB h k sub d m = if h.most < 0 ∨ 4096 < h.most then (20, h.at_, M) else (0, 0, M) := by rw [wrB_ok hM hd hm (by omega) (by omega) ho]; simp [hk]
theorem wrB_9 (hk : h.kind = 9) : wrB h k sub d m = if rightS h.name = false then (9, h.nat, M) else (0, 0, M) := by rw [wrB_ok hM hd hm (by omega) (by omega) ho]; simp [hk]
theorem wrB_4 (hk : h.kind = 4) : wrB h k sub d m = if h.names = [] then (15, h.at_, M) else if 64 < h.names.length then (8, (wN h.names 64).2, M) else ((enumF (nms h.names) 0 h.names).1, (enumF (nms h.names) 0 h.names).2, M) := by rw [wrB_ok hM hd hm (by omega) (by omega) ho]; simp [hk]
theorem wrB_5 (hk : h.kind = 5 ∨ h.kind = 6) : wrB h k sub d m = if onlyB k = false then (19, h.at_, M) else if h.most < 0 ∨ 1024 < h.most then (20, h.at_, M) else sub .one (d + 1) M := by
  rw [wrB_ok hM hd hm (by omega) (by omega) ho]
  rcases hk with hk | hk <;> simp [hk]
theorem wrB_7 (hk : h.kind = 7) : wrB h k (wrF k) d m = partS h k d M := by rw [wrB_ok hM hd hm (by omega) (by omega) ho]; unfold partS; simp [hk]
theorem wrB_8 (hk : h.kind = 8) : wrB h k (wrF k) d m = partS h k d M := by rw [wrB_ok hM hd hm (by omega) (by omega) ho]; unfold partS; simp [hk]
end
theorem wrB_err (h : TH) (k : Ft) (sub : Mo → Nat → Nat → Res) (d m : Nat) : wrB h k sub d m =
    if 24 < d then (6, h.at_, m + 1) else if 512 < m + 1 then (8, h.at_, m + 1) else if h.kind < 1 ∨ 9 < h.kind then (14, h.at_, m + 1) else if ownB h k = false then (19, h.at_, m + 1) else wrB h k sub d m := by
  by_cases a : 24 < d
  · unfold wrB; simp only [a, if_true]
  by_cases b : 512 < m + 1
  · unfold wrB; simp only [a, b, if_true, if_false]
  by_cases c : h.kind < 1 ∨ 9 < h.kind
  · unfold wrB; simp only [a, b, c, if_true, if_false]
  by_cases e : ownB h k = false
  · unfold wrB; simp only [a, b, c, e, if_true, if_false]
  rw [if_neg a, if_neg b, if_neg c, if_neg e]
theorem enum_drop {ns : List ByteArray} {l : List Wr} {i : Nat} (hi : i < l.length) : enumF ns i (l.drop i) = if listedS ns i ≠ 0 then (listedS ns i, (wN l i).2) else enumF ns (i + 1) (l.drop (i + 1)) := by
  rw [List.drop_eq_getElem_cons hi, wN_get hi]
  rfl
theorem only_len : ∀ {f : Ft}, f.len ≠ 1 → onlyB f = false
  | .nil, _ => rfl
  | .cons p x k .nil, h => absurd rfl h
  | .cons p x k (.cons ..), _ => rfl
theorem only_one {f : Ft} {p : PH} {x : TH} {k r : Ft} (e : f.drop 0 = .cons p x k r) (hl : f.len = 1) : onlyB f = (decide (p.name = ByteArray.empty) && plainB p zPH) ∧ ∀ d m, wrF f .one d m = wrB x k (wrF k) d m := by
  have e' : f = .cons p x k r := e
  subst e'
  have : r = .nil := Fo.len_zero (by simp only [Fo.len] at hl; omega)
  subst this
  exact ⟨rfl, fun _ _ => rfl⟩
end Go.Proofs.YtbochlbgjnmgjaaGreat.Kin
