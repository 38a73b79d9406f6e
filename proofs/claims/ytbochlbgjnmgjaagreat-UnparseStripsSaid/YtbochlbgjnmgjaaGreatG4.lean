import Derived.Test.YtbochlbgjnmgjaaGreatZTypE
/- Layer 15: the reference's Placeless and Zero; the law's great. -/
set_option maxRecDepth 100000
set_option linter.unusedVariables false
namespace Go.Proofs.YtbochlbgjnmgjaaGreat.Kin
open Go.RowKit Go.Lib Go.Proofs.YtbochlbgjnmgjaaGreat.Utf Go.Proofs.YtbochlbgjnmgjaaGreat.Nam Go.Proofs.YtbochlbgjnmgjaaGreat.Lat

def PlaceQ (f : Ft) : Prop := ∀ (h : TH) (nv pv : Value) (w : World), h.names.length ≤ maxLen → f.len ≤ maxLen → f.All GoodH GoodL → RdY w h f nv pv → ∀ R : Ending → World → Prop,
  Hid (∀ w', Below w.heap.size w w' → R (.returned (.bool (placeS h f))) w') → Calls Tryz.prog 62 #[tyV h nv pv] w R
set_option maxRecDepth 100000 in
set_option maxHeartbeats 4000000 in
theorem place15_step (f : Ft) (ih : Fo.AllK PlaceQ f) : PlaceQ f := by
  intro h nv pv w hm hfl hga hy R hR
  replace hfl : f.len ≤ 9223372036854775807 := hfl
  have bA := (Below.refl w.heap.size w).alloc (Nat.le_refl _) (.cells (tyL h nv pv).toArray 30)
  have kA := TB.new w h nv pv 30
  have cW1 := Lib.hid fun (W : World) (b : Below w.heap.size w W) R hR => still15_calls h.names hm nv W (hy.n.below b) R hR
  obtain ⟨Ap, cp, rfl, hpl⟩ := hy.p.sl
  obtain ⟨An, cn, rfl, -, -⟩ := hy.n.op
  have hp : placeS h f = (decide (h.at_ = 0 ∧ h.nat = 0) && stillW h.names && placeF f) := rfl
  rw [hp] at hR
  clear hp
  replace hy := Lib.hid (hy.below bA)
  replace hga := Lib.hid hga
  replace ih := Lib.hid ih
  go_enter Tryz.func62, Tryz.ntmps62
  go_upto_region 1 with fail
  generalize w.alloc (.cells (tyL h (.slice An h.names.length cn) (.slice Ap f.len cp)).toArray 30) = W2 at *
  obtain ⟨ltH, -, a1, -, -, -, a5, a6, -, a8⟩ := kA
  have nW := Lib.hid bA
  clear bA
  by_cases c1 : h.at_ = 0
  · by_cases c2 : h.nat = 0
    · have q1 : (h.at_ != 0) = false := by simpa using c1
      have q2 : (h.nat != 0) = false := by simpa using c2
      rw [decide_eq_true ⟨c1, c2⟩, Bool.true_and] at hR
      clear c1 c2
      have cX1 := Lib.hid fun R hR => cW1.out W2 nW.out R hR
      generalize stillW h.names = S1 at *
      go_wp2_with fail
      refine cX1.out _ (Lib.hid fun w3 n3 => ?_)
      replace nW := Lib.hid (nW.out.trans (n3.mono nW.out.size))
      replace hy := Lib.hid (hy.out.below n3)
      have a6' := (n3.cell (p := ⟨w.heap.size, 6, none⟩) ltH).trans a6
      replace ltH := Nat.lt_of_lt_of_le ltH n3.size
      clear n3 cX1 cW1 a1 a5 a6 a8
      cases S1
      · have fin := Lib.hid (hR.out _ nW.out)
        clear hR nW
        go_wp2_with fail
        exact fin.out
      · rw [Bool.true_and] at hR
        go_wp2_with fail
        go_loopg [3] f.len (fun g0 i wr => ∃ K : Nat, i = .int .i64 K ∧ K + g0 = f.len ∧ Hid (Below w3.heap.size w3 wr) ∧ placeF f = placeF (f.drop K))
        case atStart => exact ⟨0, rfl, by omega, Lib.hid (Below.refl _ _), rfl⟩
        case round =>
          obtain ⟨K, rfl, e1, nX, e2⟩ := hrel
          have a6 := (nX.out.cell (p := ⟨w.heap.size, 6, none⟩) ltH).trans a6'
          by_cases hK : K < f.len
          · obtain ⟨p, x, kd, r, e⟩ := Fo.drop_lt hK
            obtain ⟨g, o, lv, cv, nx, px, rfl, hg, hlv, hcv, hyx, hc⟩ := (hy.out.below nX.out).p.part e
            obtain ⟨gp, gx, gk', ga2⟩ := all_at K hga.out e
            have ihK := Lib.hid ((ih.out).at_ e)
            rw [e] at e2
            have d1 := Fo.drop_succ K e
            have i0 : (0 : Int) ≤ (K : Int) := by omega
            have i1 : (K : Int) < (f.len : Int) := by omega
            obtain ⟨A1, n1, rfl, -, -⟩ := hlv.op
            obtain ⟨A2, n2, rfl, -, -⟩ := hcv.op
            obtain ⟨A5, n5, rfl, -, -⟩ := hyx.n.op
            obtain ⟨A7, n7, rfl, hk7⟩ := hyx.p.sl
            have e3 : placeF f = ((decide (p.at_ = 0 ∧ p.cat = 0) && stillW p.label && stillW p.cl && placeS x kd) && placeF r) := e2
            clear e2
            have rg : wr.rangeAt g (o + K * 18) #[.string p.name, .int .i64 p.at_, .bool p.bare, .slice A1 p.label.length n1, .int .i64 p.wide, .int .i64 p.ck, .int .i64 p.cn, .int .i64 p.cat, .slice A2 p.cl.length n2, .int .i64 x.kind, .int .i64 x.at_, .int .i64 x.lo, .int .i64 x.hi, .int .i64 x.most, .slice A5 x.names.length n5, .slice A7 kd.len n7, .string x.name, .int .i64 x.nat].toList := fun j v h => hc j v h
            clear hc e
            have bP := (Below.refl wr.heap.size wr).alloc (Nat.le_refl _) (.cells #[.string p.name, .int .i64 p.at_, .bool p.bare, .slice A1 p.label.length n1, .int .i64 p.wide, .int .i64 p.ck, .int .i64 p.cn, .int .i64 p.cat, .slice A2 p.cl.length n2, .int .i64 x.kind, .int .i64 x.at_, .int .i64 x.lo, .int .i64 x.hi, .int .i64 x.most, .slice A5 x.names.length n5, .slice A7 kd.len n7, .string x.name, .int .i64 x.nat] 75)
            have hPb := heap_alloc_new wr (.cells #[.string p.name, .int .i64 p.at_, .bool p.bare, .slice A1 p.label.length n1, .int .i64 p.wide, .int .i64 p.ck, .int .i64 p.cn, .int .i64 p.cat, .slice A2 p.cl.length n2, .int .i64 x.kind, .int .i64 x.at_, .int .i64 x.lo, .int .i64 x.hi, .int .i64 x.most, .slice A5 x.names.length n5, .slice A7 kd.len n7, .string x.name, .int .i64 x.nat] 75)
            go_upto_region 7 with (refine wpList_load_g (by rfl) _ _ rfl g (o + K * 18) rfl #[.string p.name, .int .i64 p.at_, .bool p.bare, .slice A1 p.label.length n1, .int .i64 p.wide, .int .i64 p.ck, .int .i64 p.cn, .int .i64 p.cat, .slice A2 p.cl.length n2, .int .i64 x.kind, .int .i64 x.at_, .int .i64 x.lo, .int .i64 x.hi, .int .i64 x.most, .slice A5 x.names.length n5, .slice A7 kd.len n7, .string x.name, .int .i64 x.nat].toList _ rg Tryz.underlying75 rfl (by kernel_rfl) ?_; go_simp)
            have hBl : wr.heap.size < (wr.alloc (.cells #[.string p.name, .int .i64 p.at_, .bool p.bare, .slice A1 p.label.length n1, .int .i64 p.wide, .int .i64 p.ck, .int .i64 p.cn, .int .i64 p.cat, .slice A2 p.cl.length n2, .int .i64 x.kind, .int .i64 x.at_, .int .i64 x.lo, .int .i64 x.hi, .int .i64 x.most, .slice A5 x.names.length n5, .slice A7 kd.len n7, .string x.name, .int .i64 x.nat] 75)).heap.size := by simp
            have nY := Lib.hid (nX.out.trans (bP.mono nX.out.size))
            have hlv2 := Lib.hid (hlv.below bP)
            have hcv2 := Lib.hid (hcv.below bP)
            have hyx2 := Lib.hid (hyx.below bP)
            generalize wr.alloc (.cells #[.string p.name, .int .i64 p.at_, .bool p.bare, .slice A1 p.label.length n1, .int .i64 p.wide, .int .i64 p.ck, .int .i64 p.cn, .int .i64 p.cat, .slice A2 p.cl.length n2, .int .i64 x.kind, .int .i64 x.at_, .int .i64 x.lo, .int .i64 x.hi, .int .i64 x.most, .slice A5 x.names.length n5, .slice A7 kd.len n7, .string x.name, .int .i64 x.nat] 75) = V at *
            generalize hBe : wr.heap.size = B at *
            have u1 := (Lib.cell_of_heap hPb 1).trans rfl
            have u3 := (Lib.cell_of_heap hPb 3).trans rfl
            have u7 := (Lib.cell_of_heap hPb 7).trans rfl
            have u8 := (Lib.cell_of_heap hPb 8).trans rfl
            have s9 : V.rangeAt B 9 [.int .i64 x.kind, .int .i64 x.at_, .int .i64 x.lo, .int .i64 x.hi, .int .i64 x.most, .slice A5 x.names.length n5, .slice A7 kd.len n7, .string x.name, .int .i64 x.nat] := fun j v h => by rw [Lib.cell_of_heap hPb, List.getElem?_toArray, ← List.getElem?_drop]; exact h
            clear bP hPb rg hlv hcv hyx nX a6 hg hBe
            have no : placeF f = false → ∀ W, Below w3.heap.size w3 W → Hid (R (.returned (.bool false)) W) := fun h W b => by
              have := hR.out W (nW.out.trans (b.mono nW.out.size))
              rw [h] at this
              exact Lib.hid this
            by_cases c1 : p.at_ = 0
            · by_cases c2 : p.cat = 0
              · have q3 : (p.at_ != 0) = false := by simpa using c1
                have q4 : (p.cat != 0) = false := by simpa using c2
                rw [decide_eq_true ⟨c1, c2⟩, Bool.true_and] at e3
                clear c1 c2
                go_wp2_with fail
                refine still15_calls p.label gp.2.2.2.2.2.2.2.2.1 _ V hlv2.out _ (Lib.hid fun w4 n4 => ?_)
                have n4' := Lib.hid (nY.out.trans (n4.mono nY.out.size))
                cases hS : stillW p.label
                · rw [hS] at e3
                  have fin := no (by rw [e3]; rfl) _ n4'.out
                  clear no hR e3 hS n4
                  go_wp2_with fail
                  exact fin.out
                · rw [hS, Bool.true_and] at e3
                  have u8' := (n4.cell (p := ⟨B, 8, none⟩) hBl).trans u8
                  have hcv3 := hcv2.out.below n4
                  have hyx3 := hyx2.out.below n4
                  have s9' : w4.rangeAt B 9 [.int .i64 x.kind, .int .i64 x.at_, .int .i64 x.lo, .int .i64 x.hi, .int .i64 x.most, .slice A5 x.names.length n5, .slice A7 kd.len n7, .string x.name, .int .i64 x.nat] := fun j v h => (n4.cell (p := ⟨B, 9 + j, none⟩) hBl).trans (s9 j v h)
                  have hBl4 := Nat.lt_of_lt_of_le hBl n4.size
                  have cT := Lib.hid fun R hR => still15_calls p.cl gp.2.2.2.2.2.2.2.2.2 _ w4 hcv3 R hR
                  clear hS n4 u1 u3 u7 u8 s9 hlv2 hcv2 hyx2 nY hcv3 hBl
                  go_wp2_with fail
                  refine cT.out _ (Lib.hid fun w5 n5' => ?_)
                  have n6 := Lib.hid (n4'.out.trans (n5'.mono n4'.out.size))
                  cases hS : stillW p.cl
                  · rw [hS] at e3
                    have fin := no (by rw [e3]; rfl) _ n6.out
                    clear no hR e3 hS n5'
                    go_wp2_with fail
                    exact fin.out
                  · rw [hS, Bool.true_and] at e3
                    have hyx4 := hyx3.below n5'
                    have s10 : w5.rangeAt B 9 [.int .i64 x.kind, .int .i64 x.at_, .int .i64 x.lo, .int .i64 x.hi, .int .i64 x.most, .slice A5 x.names.length n5, .slice A7 kd.len n7, .string x.name, .int .i64 x.nat] := fun j v h => (n5'.cell (p := ⟨B, 9 + j, none⟩) hBl4).trans (s9' j v h)
                    have cP := Lib.hid fun R hR => ihK.out x _ _ w5 gx.2.2.2.2.2.2.2.2 gk' ga2 hyx4 R hR
                    clear hS n5' u8' s9' hyx3 hyx4 n4' cT hBl4
                    go_wp2_with (refine wpList_load_g (by rfl) _ _ rfl B 9 rfl [.int .i64 x.kind, .int .i64 x.at_, .int .i64 x.lo, .int .i64 x.hi, .int .i64 x.most, .slice A5 x.names.length n5, .slice A7 kd.len n7, .string x.name, .int .i64 x.nat] _ s10 Tryz.underlying30 rfl (by kernel_rfl) ?_; go_simp)
                    refine cP.out _ (Lib.hid fun w6 n7' => ?_)
                    have n8 := Lib.hid (n6.out.trans (n7'.mono n6.out.size))
                    clear n7' cP s10 n6
                    cases hS : placeS x kd
                    · rw [hS] at e3
                      have fin := no (by rw [e3]; rfl) _ n8.out
                      clear no hR e3 hS
                      go_wp2_with fail
                      exact fin.out
                    · rw [hS, Bool.true_and, ← d1] at e3
                      clear hS no
                      go_wp2_with fail
                      go_roundg (gk - 1)
                      case measure => omega
                      case rel => exact ⟨K + 1, by go_num, by omega, n8, e3⟩
              · have q3 : (p.at_ != 0) = false := by simpa using c1
                have q4 : (p.cat != 0) = true := by simpa using c2
                rw [decide_eq_false (fun q => c2 q.2)] at e3
                have fin := no (by rw [e3]; rfl) _ nY.out
                clear no hR e3 c1 c2
                go_wp2_with fail
                exact fin.out
            · have q3 : (p.at_ != 0) = true := by simpa using c1
              rw [decide_eq_false (fun q => c1 q.1)] at e3
              have fin := no (by rw [e3]; rfl) _ nY.out
              clear no hR e3 c1
              go_wp2_with fail
              exact fin.out
          · obtain rfl : K = f.len := by omega
            have hz : placeF f = true := by rw [e2, Fo.drop_all (Nat.le_refl _)]; rfl
            have fin := Lib.hid (hR.out _ (nW.out.trans (nX.out.mono nW.out.size)))
            rw [hz] at fin
            clear hz hR e2
            go_wp2_with fail
            exact fin.out
    · have q1 : (h.at_ != 0) = false := by simpa using c1
      have q2 : (h.nat != 0) = true := by simpa using c2
      rw [decide_eq_false (fun q => c2 q.2)] at hR
      have fin := Lib.hid (hR.out _ nW.out)
      clear hR nW c1 c2
      go_wp2_with fail
      exact fin.out
  · have q1 : (h.at_ != 0) = true := by simpa using c1
    rw [decide_eq_false (fun q => c1 q.1)] at hR
    have fin := Lib.hid (hR.out _ nW.out)
    clear hR nW c1
    go_wp2_with fail
    exact fin.out
theorem place15_calls (f : Ft) : PlaceQ f := Fo.deep place15_step f -- of 62
end Go.Proofs.YtbochlbgjnmgjaaGreat.Kin

/- Layer 15: the reference's own. -/
set_option maxRecDepth 100000
set_option linter.unusedVariables false
namespace Go.Proofs.YtbochlbgjnmgjaaGreat.Kin
open Go.RowKit Go.Lib Go.Proofs.YtbochlbgjnmgjaaGreat.Utf Go.Proofs.YtbochlbgjnmgjaaGreat.Nam Go.Proofs.YtbochlbgjnmgjaaGreat.Lat

theorem sameF_nil (f : Ft) : sameF f .nil = decide (f.len = 0) := by
  cases f with
  | nil => rfl
  | cons p h k r => simp [sameF, Fo.len]
theorem sameW_nil (l : List Wr) : sameW l [] = decide (l = []) := by
  unfold sameW
  cases l <;> simp [nms]
end Go.Proofs.YtbochlbgjnmgjaaGreat.Kin

/- Layer 15: the reference's listed and names. -/
set_option maxRecDepth 100000
set_option linter.unusedVariables false
namespace Go.Proofs.YtbochlbgjnmgjaaGreat.Kin
open Go.RowKit Go.Lib Go.Proofs.YtbochlbgjnmgjaaGreat.Utf Go.Proofs.YtbochlbgjnmgjaaGreat.Nam Go.Proofs.YtbochlbgjnmgjaaGreat.Lat

theorem nms_at {l : List Wr} {i : Nat} (h : i < l.length) : (nms l).getD i ByteArray.empty = (wN l i).1 := by
  rw [List.getD_eq_getElem?_getD, nms_get h]
  rfl
theorem pnm_drop : ∀ (n : Nat) {f : Ft} {p : PH} {x : TH} {k r : Ft}, f.drop n = .cons p x k r → (pnm f).take (n + 1) = (pnm f).take n ++ [(p.name, p.at_)]
  | 0, f, p, x, k, r, e => by
    have e' : f = .cons p x k r := e
    rw [e']
    rfl
  | n + 1, .nil, p, x, k, r, e => by simp [Fo.drop] at e
  | n + 1, .cons q y l s, p, x, k, r, e => by
    have := pnm_drop n (f := s) e
    simp only [pnm, List.take_succ_cons, this, List.cons_append]
theorem infoWrd : (Tryz.prog.info? 28).map (fun i => (i.zero, i.size, i.bytes)) = some (some (.agg #[.string ⟨#[]⟩, .int .i64 0]), 2, 24) := by kernel_rfl
end Go.Proofs.YtbochlbgjnmgjaaGreat.Kin

/- Layer 15: what is wrong: plain lemmas of the reference's and the code's walks. -/
set_option maxRecDepth 100000
set_option linter.unusedVariables false
namespace Go.Proofs.YtbochlbgjnmgjaaGreat.Kin
open Go.RowKit Go.Lib Go.Proofs.YtbochlbgjnmgjaaGreat.Utf Go.Proofs.YtbochlbgjnmgjaaGreat.Nam Go.Proofs.YtbochlbgjnmgjaaGreat.Lat

theorem wrB_cnt (h : TH) (k : Ft) (sub : Mo → Nat → Nat → Res) (hs : ∀ mo d m, m ≤ 512 → (sub mo d m).1 = 0 → (sub mo d m).2.2 ≤ 512) (d m : Nat) : (wrB h k sub d m).1 = 0 → (wrB h k sub d m).2.2 ≤ 512 := by
  unfold wrB
  by_cases h1 : 24 < d
  · rw [if_pos h1]; simp
  rw [if_neg h1]
  by_cases h2 : 512 < m + 1
  · rw [if_pos h2]; simp
  rw [if_neg h2]
  have hm : m + 1 ≤ 512 := by omega
  repeat' split
  all_goals first | exact hs _ _ _ hm | (intro _; exact hm)
theorem blt_of {V : World} {b : Nat} {o : Obj} (h : V.heap[b]? = some o) : b < V.heap.size := (Array.getElem?_eq_some_iff.1 h).1
theorem pnm_at : ∀ (n : Nat) {f : Ft} {p : PH} {x : TH} {k r : Ft}, f.drop n = .cons p x k r → wN (pnm f) n = (p.name, p.at_)
  | 0, f, p, x, k, r, e => by
    have e' : f = .cons p x k r := e
    rw [e']
    rfl
  | n + 1, .nil, p, x, k, r, e => by simp [Fo.drop] at e
  | n + 1, .cons q y l s, p, x, k, r, e => by
    have := pnm_at n (f := s) e
    simpa [pnm, wN] using this
theorem set_atK {w : World} {p : Nat} {cs : Array Value} {t : TypeId} (h : w.heap[p]? = some (.cells cs t)) (o : Nat) (v : Value) : (w.setCell ⟨p, o, none⟩ v).heap[p]? = some (.cells (cs.setIfInBounds o v) t) := by
  simp [World.setCell, Array.getElem?_modify, h]
theorem set_neK {w : World} {q o k : Nat} {v : Value} (h : k ≠ q) : (w.setCell ⟨q, o, none⟩ v).heap[k]? = w.heap[k]? := Below.heap_setCell _ ⟨q, o, none⟩ v k h
theorem enumF_zero (ns : List ByteArray) : ∀ (l : List Wr) (i : Nat), (enumF ns i l).1 = 0 → (enumF ns i l).2 = 0
  | [], _ => fun _ => rfl
  | x :: r, i => by
    unfold enumF
    split
    · rename_i q; exact fun h => absurd h q
    · exact enumF_zero ns r (i + 1)
theorem wrB_zero (h : TH) (k : Ft) (sub : Mo → Nat → Nat → Res) (hs : ∀ mo d m, (sub mo d m).1 = 0 → (sub mo d m).2.1 = 0) (d m : Nat) : (wrB h k sub d m).1 = 0 → (wrB h k sub d m).2.1 = 0 := by
  unfold wrB
  by_cases h1 : 24 < d
  · rw [if_pos h1]; simp
  rw [if_neg h1]
  by_cases h2 : 512 < m + 1
  · rw [if_pos h2]; simp
  rw [if_neg h2]
  repeat' split
  all_goals first | exact hs _ _ _ | exact enumF_zero _ _ _ | (intro _; rfl) | (intro q; simp at q)
/-- What is wrong with the parts of a record or a union. -/
noncomputable def partS (h : TH) (f : Ft) (d m : Nat) : Res := if h.kind = 8 ∧ f.len = 0 then (15, h.at_, m) else if 64 < f.len then (8, (wN (pnm f) 64).2, m) else wrF f (.parts h.kind (nms (pnm f)) 0) (d + 1) m
section
variable {h : TH} {k : Ft} {sub : Mo → Nat → Nat → Res} {d m M : Nat}
theorem wrB_ok (hM : M = m + 1) (hd : d ≤ 24) (hm : M ≤ 512) (h1 : 1 ≤ h.kind) (h9 : h.kind ≤ 9) (ho : ownB h k = true) : wrB h k sub d m =
    if (h.kind = 2 ∧ h.hi < h.lo) ∨ (h.kind = 3 ∧ (h.most < 0 ∨ 4096 < h.most)) then (20, h.at_, M)
    else if h.kind = 9 ∧ rightS h.name = false then (9, h.nat, M)
    else if h.kind = 4 then (if h.names = [] then (15, h.at_, M) else if 64 < h.names.length then (8, (wN h.names 64).2, M) else ((enumF (nms h.names) 0 h.names).1, (enumF (nms h.names) 0 h.names).2, M))
    else if h.kind = 5 ∨ h.kind = 6 then (if onlyB k = false then (19, h.at_, M) else if h.most < 0 ∨ 1024 < h.most then (20, h.at_, M) else sub .one (d + 1) M)
    else if h.kind = 7 ∨ h.kind = 8 then (if h.kind = 8 ∧ k.len = 0 then (15, h.at_, M) else if 64 < k.len then (8, (wN (pnm k) 64).2, M) else sub (.parts h.kind (nms (pnm k)) 0) (d + 1) M)
    else (0, 0, M) := by
  subst hM
  unfold wrB
  rw [if_neg (by omega), if_neg (by omega), if_neg (by omega), if_neg (by rw [ho]; simp)]
variable (hM : M = m + 1) (hd : d ≤ 24) (hm : M ≤ 512) (ho : ownB h k = true)
include hM hd hm ho
theorem wrB_1 (hk : h.kind = 1) : wrB h k sub d m = (0, 0, M) := by rw [wrB_ok hM hd hm (by omega) (by omega) ho]; simp [hk]
theorem wrB_2 (hk : h.kind = 2) : wrB h k sub d m = if h.hi < h.lo then (20, h.at_, M) else (0, 0, M) := by rw [wrB_ok hM hd hm (by omega) (by omega) ho]; simp [hk]
theorem wrB_3 (hk : h.kind = 3) : wrB h k sub d m = if h.most < 0 ∨ 4096 < h.most then (20, h.at_, M) else (0, 0, M) := by rw [wrB_ok hM hd hm (by omega) (by omega) ho]; simp [hk]
theorem wrB_9 (hk : h.kind = 9) : wrB h k sub d m = if rightS h.name = false then (9, h.nat, M) else (0, 0, M) := by rw [wrB_ok hM hd hm (by omega) (by omega) ho]; simp [hk]
theorem wrB_4 (hk : h.kind = 4) : wrB h k sub d m = if h.names = [] then (15, h.at_, M) else if 64 < h.names.length then (8, (wN h.names 64).2, M) else ((enumF (nms h.names) 0 h.names).1, (enumF (nms h.names) 0 h.names).2, M) := by rw [wrB_ok hM hd hm (by omega) (by omega) ho]; simp [hk]
theorem wrB_5 (hk : h.kind = 5 ∨ h.kind = 6) : wrB h k sub d m = if onlyB k = false then (19, h.at_, M) else if h.most < 0 ∨ 1024 < h.most then (20, h.at_, M) else sub .one (d + 1) M := by
  rw [wrB_ok hM hd hm (by omega) (by omega) ho]
  rcases hk with hk | hk <;> simp [hk]
end
theorem wrB_err (h : TH) (k : Ft) (sub : Mo → Nat → Nat → Res) (d m : Nat) : wrB h k sub d m =
    if 24 < d then (6, h.at_, m + 1) else if 512 < m + 1 then (8, h.at_, m + 1) else if h.kind < 1 ∨ 9 < h.kind then (14, h.at_, m + 1) else if ownB h k = false then (19, h.at_, m + 1) else wrB h k sub d m := by
  by_cases a : 24 < d
  · unfold wrB; simp only [a, if_true]
  by_cases b : 512 < m + 1
  · unfold wrB; simp only [a, b, if_true, if_false]
  by_cases c : h.kind < 1 ∨ 9 < h.kind
  · unfold wrB; simp only [a, b, c, if_true, if_false]
  by_cases e : ownB h k = false
  · unfold wrB; simp only [a, b, c, e, if_true, if_false]
  rw [if_neg a, if_neg b, if_neg c, if_neg e]
theorem enum_drop {ns : List ByteArray} {l : List Wr} {i : Nat} (hi : i < l.length) : enumF ns i (l.drop i) = if listedS ns i ≠ 0 then (listedS ns i, (wN l i).2) else enumF ns (i + 1) (l.drop (i + 1)) := by
  rw [List.drop_eq_getElem_cons hi, wN_get hi]
  rfl
theorem only_len : ∀ {f : Ft}, f.len ≠ 1 → onlyB f = false
  | .nil, _ => rfl
  | .cons p x k .nil, h => absurd rfl h
  | .cons p x k (.cons ..), _ => rfl
theorem only_one {f : Ft} {p : PH} {x : TH} {k r : Ft} (e : f.drop 0 = .cons p x k r) (hl : f.len = 1) : onlyB f = (decide (p.name = ByteArray.empty) && plainB p zPH) ∧ ∀ d m, wrF f .one d m = wrB x k (wrF k) d m := by
  have e' : f = .cons p x k r := e
  subst e'
  have : r = .nil := Fo.len_zero (by simp only [Fo.len] at hl; omega)
  subst this
  exact ⟨rfl, fun _ _ => rfl⟩
end Go.Proofs.YtbochlbgjnmgjaaGreat.Kin
