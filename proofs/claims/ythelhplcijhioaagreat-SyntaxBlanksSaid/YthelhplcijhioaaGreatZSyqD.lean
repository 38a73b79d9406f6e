/- Layer 16: the same but for places (the reference of layer 15), where only lengths are known. -/
import Derived.Test.YthelhplcijhioaaGreatG18
import Derived.Test.YthelhplcijhioaaGreatG14
import Derived.Test.YthelhplcijhioaaGreatG17
set_option maxRecDepth 100000
set_option linter.unusedVariables false
namespace Go.Proofs.YthelhplcijhioaaGreat.Syn
open Go.RowKit Go.Lib Go.Proofs.YthelhplcijhioaaGreat.Utf Go.Proofs.YthelhplcijhioaaGreat.Nam Go.Proofs.YthelhplcijhioaaGreat.Lat Go.Proofs.YthelhplcijhioaaGreat.Kin

/-- The contract of Same at a tree of these parts. -/
def SameL (f : Ft) : Prop := ∀ (h h' : TH) (g : Ft) (nv pv nv' pv' : Value) (w : World), h.names.length ≤ maxLen → f.len ≤ maxLen → f.All LenH LenL → RdY w h f nv pv → RdY w h' g nv' pv' → ∀ R : Ending → World → Prop,
  Hid (∀ w', Below w.heap.size w w' → R (.returned (.bool (sameS h f h' g))) w') → Calls Tryz.prog 13 #[tyV h nv pv, tyV h' nv' pv'] w R
set_option maxRecDepth 100000 in
set_option maxHeartbeats 4000000 in
theorem sameL_step (f : Ft) (ih : Fo.AllK SameL f) : SameL f := by
  intro h h' g nv pv nv' pv' w hm hfl hga hy hy' R hR
  replace hfl : f.len ≤ 9223372036854775807 := hfl
  have bA := (Below.refl w.heap.size w).alloc (Nat.le_refl _) (.cells (tyL h nv pv).toArray 30)
  have bB := Lib.hid (bA.alloc bA.size (.cells (tyL h' nv' pv').toArray 30))
  have kA := Lib.hid ((TB.new w h nv pv 30).below ((Below.refl _ _).alloc (Nat.le_refl _) (.cells (tyL h' nv' pv').toArray 30)))
  have kB := TB.new (w.alloc (.cells (tyL h nv pv).toArray 30)) h' nv' pv' 30
  have hs1 : (w.alloc (.cells (tyL h nv pv).toArray 30)).heap.size = w.heap.size + 1 := by simp
  rw [hs1] at kB
  replace kB := Lib.hid kB
  have cW1 := Lib.hid fun (W : World) (b : Below w.heap.size w W) R hR => words15_calls h.names h'.names hm nv nv' W (hy.n.below b) (hy'.n.below b) R hR
  have hp : sameS h f h' g = ((decide (h.kind = h'.kind) && decide (h.lo = h'.lo) && decide (h.hi = h'.hi) && decide (h.most = h'.most) && decide (h.name = h'.name) && sameW h.names h'.names) && sameF f g) := rfl
  rw [hp] at hR
  obtain ⟨An, cn, rfl, -, -⟩ := hy.n.op
  obtain ⟨An', cn', rfl, -, -⟩ := hy'.n.op
  obtain ⟨Ap, cp, rfl, hpl⟩ := hy.p.sl
  obtain ⟨Ap', cp', rfl, hpl'⟩ := hy'.p.sl
  replace hy := Lib.hid hy
  replace hy' := Lib.hid hy'
  replace hga := Lib.hid hga
  replace ih := Lib.hid ih
  clear bA hp hm
  go_enter Tryz.func13, Tryz.ntmps13
  go_upto_region 1 with fail
  generalize (w.alloc (.cells (tyL h (.slice An h.names.length cn) (.slice Ap f.len cp)).toArray 30)).alloc (.cells (tyL h' (.slice An' h'.names.length cn') (.slice Ap' g.len cp')).toArray 30) = W2 at *
  clear hs1
  obtain ⟨-, a0, -, a2, a3, a4, a5, a6, a7, -⟩ := kA.out
  obtain ⟨-, b0, -, b2, b3, b4, b5, b6, b7, -⟩ := kB.out
  have nW := bB
  clear bB
  by_cases c0 : h.kind = h'.kind
  · have q0 : (h.kind != h'.kind) = false := by simpa using c0
    rw [decide_eq_true c0] at hR
    simp only [Bool.true_and, Bool.and_true] at hR
    clear c0
    by_cases c1 : h.lo = h'.lo
    · have q1 : (h.lo != h'.lo) = false := by simpa using c1
      rw [decide_eq_true c1] at hR
      simp only [Bool.true_and, Bool.and_true] at hR
      clear c1
      by_cases c2 : h.hi = h'.hi
      · have q2 : (h.hi != h'.hi) = false := by simpa using c2
        rw [decide_eq_true c2] at hR
        simp only [Bool.true_and, Bool.and_true] at hR
        clear c2
        by_cases c3 : h.most = h'.most
        · have q3 : (h.most != h'.most) = false := by simpa using c3
          rw [decide_eq_true c3] at hR
          simp only [Bool.true_and, Bool.and_true] at hR
          clear c3
          by_cases c4 : h.name = h'.name
          · have q4 := sq_t c4
            rw [decide_eq_true c4] at hR
            simp only [Bool.true_and, Bool.and_true] at hR
            clear c4
            have cX1 := Lib.hid fun R hR => cW1.out W2 nW.out R hR
            generalize sameW h.names h'.names = S1 at *
            go_wp2_with fail
            refine cX1.out _ (Lib.hid fun w3 n3 => ?_)
            replace nW := Lib.hid (nW.out.trans (n3.mono nW.out.size))
            have kA3 := kA.out.below n3
            have kB3 := kB.out.below n3
            clear n3 cX1 a0 a2 a3 a4 a5 a6 a7 b0 b2 b3 b4 b5 b6 b7 kA kB cW1
            have a6 := kA3.k6
            have b6 := kB3.k6
            replace kA3 := Lib.hid kA3
            replace kB3 := Lib.hid kB3
            cases S1
            · simp only [Bool.false_and, Bool.and_false] at hR
              have fin := Lib.hid (hR.out _ nW.out)
              clear hR nW
              go_wp2_with fail
              exact fin.out
            · simp only [Bool.true_and, Bool.and_true] at hR
              by_cases c6 : f.len = g.len
              · have q6 : ((f.len : Int) != (g.len : Int)) = false := by simp [c6]
                replace c6 := Lib.hid c6
                go_wp2_with fail
                go_loopg [5] f.len (fun g0 i wr => ∃ K : Nat, i = .int .i64 K ∧ K + g0 = f.len ∧ Hid (Below w.heap.size w wr) ∧ Hid (TB wr w.heap.size h (.slice An h.names.length cn) (.slice Ap f.len cp)) ∧ Hid (TB wr (w.heap.size + 1) h' (.slice An' h'.names.length cn') (.slice Ap' g.len cp')) ∧ sameF f g = sameF (f.drop K) (g.drop K))
                case atStart => exact ⟨0, rfl, by omega, nW, kA3, kB3, rfl⟩
                case round =>
                  clear nW kA3 kB3 a6 b6
                  obtain ⟨K, rfl, e1, nW, kA, kB, e2⟩ := hrel
                  have a6 := kA.out.k6
                  have b6 := kB.out.k6
                  by_cases hK : K < f.len
                  · have hK' : K < g.len := by have := c6.out; omega
                    obtain ⟨p, x, kd, r, e⟩ := Fo.drop_lt hK
                    obtain ⟨q, y, ls, s, e'⟩ := Fo.drop_lt hK'
                    obtain ⟨ga, oa, lv, cv, nx, px, rfl, hga', hlv, hcv, hyx, hc⟩ := (hy.out.below nW.out).p.part e
                    obtain ⟨gb, ob, lv', cv', ny, py, rfl, hgb', hlv', hcv', hyy, hc'⟩ := (hy'.out.below nW.out).p.part e'
                    obtain ⟨A1, n1, rfl, -, -⟩ := hlv.op
                    obtain ⟨A2, n2, rfl, -, -⟩ := hcv.op
                    obtain ⟨A3, n3, rfl, -, -⟩ := hlv'.op
                    obtain ⟨A4, n4, rfl, -, -⟩ := hcv'.op
                    obtain ⟨A5, n5, rfl, -, -⟩ := hyx.n.op
                    obtain ⟨A6, n6, rfl, -, -⟩ := hyy.n.op
                    obtain ⟨A7, n7, rfl, hk7⟩ := hyx.p.sl
                    obtain ⟨A8, n8, rfl, hk8⟩ := hyy.p.sl
                    have i0 : (0 : Int) ≤ (K : Int) := by omega
                    have i1 : (K : Int) < (f.len : Int) := by omega
                    have i2 : (K : Int) < (g.len : Int) := by omega
                    have ltA := kA.out.lt
                    have ltB := kB.out.lt
                    go_wp2_with fail
                    replace a6 := fun u : BW wr => u.cell ltA a6
                    replace b6 := fun u : BW wr => u.cell ltB b6
                    refine wp_region_two (os := [_, _, _, _, _, _, _, _, _, _]) [0, 1, 2, 3, 4, 5, 6, 7, 8, 9] 10 11 12 13 (T := 71) (z := #[.string ⟨#[]⟩, .int .i64 0, .bool false, .slice none 0 0, .int .i64 0, .int .i64 0, .int .i64 0, .int .i64 0, .slice none 0 0, .int .i64 0, .int .i64 0, .int .i64 0, .int .i64 0, .int .i64 0, .slice none 0 0, .slice none 0 0, .string ⟨#[]⟩, .int .i64 0]) (by kernel_rfl) (by kernel_rfl) (by kernel_rfl) (fun _ _ d _ _ h => by cases d <;> exact h) rfl rfl rfl rfl ⟨rfl, rfl, rfl⟩ ⟨rfl, rfl, rfl⟩ ⟨rfl, rfl, rfl⟩ ⟨rfl, rfl, rfl⟩ part_alloc (by kernel_rfl) (by simp only [pickO, List.filterMap_cons, List.filterMap_nil, List.getElem?_toArray, List.getElem?_cons_succ, List.getElem?_cons_zero]; rfl) (fun Kp hKp => ?_)
                    iterate 4 (go_big_quiet_step (exact rfl))
                    refine wpQuiet_load rfl _ _ rfl ga (oa + K * 18) rfl #[.string p.name, .int .i64 p.at_, .bool p.bare, .slice A1 p.label.length n1, .int .i64 p.wide, .int .i64 p.ck, .int .i64 p.cn, .int .i64 p.cat, .slice A2 p.cl.length n2, .int .i64 x.kind, .int .i64 x.at_, .int .i64 x.lo, .int .i64 x.hi, .int .i64 x.most, .slice A5 x.names.length n5, .slice A7 kd.len n7, .string x.name, .int .i64 x.nat].toList _ (fun _ ⟨u, e⟩ => by subst e; exact fun j v h => u.cell hga' (hc j v h)) Tryz.underlying71 rfl (by kernel_rfl) ?_
                    go_simp
                    iterate 4 (go_big_quiet_step (exact rfl))
                    refine wpQuiet_load rfl _ _ rfl gb (ob + K * 18) rfl #[.string q.name, .int .i64 q.at_, .bool q.bare, .slice A3 q.label.length n3, .int .i64 q.wide, .int .i64 q.ck, .int .i64 q.cn, .int .i64 q.cat, .slice A4 q.cl.length n4, .int .i64 y.kind, .int .i64 y.at_, .int .i64 y.lo, .int .i64 y.hi, .int .i64 y.most, .slice A6 y.names.length n6, .slice A8 ls.len n8, .string y.name, .int .i64 y.nat].toList _ (fun _ ⟨u, e⟩ => by subst e; exact fun j v h => u.cell hgb' (hc' j v h)) Tryz.underlying71 rfl (by kernel_rfl) ?_
                    go_simp
                    refine wpQuiet_nil ?_
                    refine hKp _ ?_
                    clear hKp
                    refine ⟨#[.string p.name, .int .i64 p.at_, .bool p.bare, .slice A1 p.label.length n1, .int .i64 p.wide, .int .i64 p.ck, .int .i64 p.cn, .int .i64 p.cat, .slice A2 p.cl.length n2, .int .i64 x.kind, .int .i64 x.at_, .int .i64 x.lo, .int .i64 x.hi, .int .i64 x.most, .slice A5 x.names.length n5, .slice A7 kd.len n7, .string x.name, .int .i64 x.nat], #[.string q.name, .int .i64 q.at_, .bool q.bare, .slice A3 q.label.length n3, .int .i64 q.wide, .int .i64 q.ck, .int .i64 q.cn, .int .i64 q.cat, .slice A4 q.cl.length n4, .int .i64 y.kind, .int .i64 y.at_, .int .i64 y.lo, .int .i64 y.hi, .int .i64 y.most, .slice A6 y.names.length n6, .slice A8 ls.len n8, .string y.name, .int .i64 y.nat], ⟨rfl, by simp [Value.oneCell']⟩, ⟨rfl, by simp [Value.oneCell']⟩, fun _ => ⟨rfl, rfl⟩, fun _ => ⟨rfl, rfl⟩, fun _ _ => ⟨rfl, rfl, rfl, rfl, rfl⟩, fun B6 B7 V h6 h7 hne bV g6 g7 => ?_⟩
                    have l6 := (Array.getElem?_eq_some_iff.1 g6).1
                    have l7 := (Array.getElem?_eq_some_iff.1 g7).1
                    have u0 := (Lib.cell_of_heap g6 0).trans rfl
                    have v0 := (Lib.cell_of_heap g7 0).trans rfl
                    have r6 : V.rangeAt B6 0 #[.string p.name, .int .i64 p.at_, .bool p.bare, .slice A1 p.label.length n1, .int .i64 p.wide, .int .i64 p.ck, .int .i64 p.cn, .int .i64 p.cat, .slice A2 p.cl.length n2, .int .i64 x.kind, .int .i64 x.at_, .int .i64 x.lo, .int .i64 x.hi, .int .i64 x.most, .slice A5 x.names.length n5, .slice A7 kd.len n7, .string x.name, .int .i64 x.nat].toList := fun j v h => by rw [Nat.zero_add, Lib.cell_of_heap g6]; simpa using h
                    have r7 : V.rangeAt B7 0 #[.string q.name, .int .i64 q.at_, .bool q.bare, .slice A3 q.label.length n3, .int .i64 q.wide, .int .i64 q.ck, .int .i64 q.cn, .int .i64 q.cat, .slice A4 q.cl.length n4, .int .i64 y.kind, .int .i64 y.at_, .int .i64 y.lo, .int .i64 y.hi, .int .i64 y.most, .slice A6 y.names.length n6, .slice A8 ls.len n8, .string y.name, .int .i64 y.nat].toList := fun j v h => by rw [Nat.zero_add, Lib.cell_of_heap g7]; simpa using h
                    have nV := Lib.hid (nW.out.trans (bV.mono nW.out.size))
                    have kA' := Lib.hid (kA.out.below bV)
                    have kB' := Lib.hid (kB.out.below bV)
                    have hyx' := Lib.hid (hyx.below bV)
                    have hyy' := Lib.hid (hyy.below bV)
                    have hlv2 := Lib.hid (hlv.below bV)
                    have hcv2 := Lib.hid (hcv.below bV)
                    have hlw2 := Lib.hid (hlv'.below bV)
                    have hcw2 := Lib.hid (hcv'.below bV)
                    obtain ⟨gp, gx, gk', ga2⟩ := all_at K hga.out e
                    have ihK := Lib.hid ((ih.out).at_ e)
                    rw [e, e'] at e2
                    have d1 := Fo.drop_succ K e
                    have d2 := Fo.drop_succ K e'
                    clear hc hc' a6 b6 kA kB hyx hyy hlv hcv hlv' hcv' bV g6 g7 e e' h6 h7 hne nW
                    have e3 : sameF f g = ((decide (p.name = q.name) && plainB p q && sameS x kd y ls) && sameF r s) := e2
                    clear e2
                    have no : sameF f g = false → ∀ W, Below w.heap.size w W → Hid (R (.returned (.bool false)) W) := fun h W b => by
                      have := hR.out W b
                      rw [h] at this
                      exact Lib.hid this
                    by_cases c7 : p.name = q.name
                    · have q7 := sq_t c7
                      rw [decide_eq_true c7, Bool.true_and] at e3
                      clear c7
                      go_wp2_with (first | (refine wpList_load_g (by rfl) _ _ rfl B6 0 rfl #[.string p.name, .int .i64 p.at_, .bool p.bare, .slice A1 p.label.length n1, .int .i64 p.wide, .int .i64 p.ck, .int .i64 p.cn, .int .i64 p.cat, .slice A2 p.cl.length n2, .int .i64 x.kind, .int .i64 x.at_, .int .i64 x.lo, .int .i64 x.hi, .int .i64 x.most, .slice A5 x.names.length n5, .slice A7 kd.len n7, .string x.name, .int .i64 x.nat].toList _ r6 Tryz.underlying71 rfl (by kernel_rfl) ?_; go_simp) | (refine wpList_load_g (by rfl) _ _ rfl B7 0 rfl #[.string q.name, .int .i64 q.at_, .bool q.bare, .slice A3 q.label.length n3, .int .i64 q.wide, .int .i64 q.ck, .int .i64 q.cn, .int .i64 q.cat, .slice A4 q.cl.length n4, .int .i64 y.kind, .int .i64 y.at_, .int .i64 y.lo, .int .i64 y.hi, .int .i64 y.most, .slice A6 y.names.length n6, .slice A8 ls.len n8, .string y.name, .int .i64 y.nat].toList _ r7 Tryz.underlying71 rfl (by kernel_rfl) ?_; go_simp))
                      refine plain15_calls p q _ _ _ _ _ _ _ _ x y V gp.1 gp.2 hlv2.out hcv2.out hlw2.out hcw2.out _ (Lib.hid fun w4 n4 => ?_)
                      have nX := Lib.hid (nV.out.trans (n4.mono nV.out.size))
                      cases hS : plainB p q
                      · rw [hS] at e3
                        have fin := no (by rw [e3]; rfl) _ nX.out
                        clear no hR e3 hS n4
                        go_wp2_with fail
                        exact fin.out
                      · rw [hS, Bool.true_and] at e3
                        have s6 : w4.rangeAt B6 9 [.int .i64 x.kind, .int .i64 x.at_, .int .i64 x.lo, .int .i64 x.hi, .int .i64 x.most, .slice A5 x.names.length n5, .slice A7 kd.len n7, .string x.name, .int .i64 x.nat] := fun j v h => (n4.cell (p := ⟨B6, 9 + j, none⟩) l6).trans (by have := r6 (9 + j) v (by rw [← List.getElem?_drop]; exact h); rwa [Nat.zero_add] at this)
                        have s7 : w4.rangeAt B7 9 [.int .i64 y.kind, .int .i64 y.at_, .int .i64 y.lo, .int .i64 y.hi, .int .i64 y.most, .slice A6 y.names.length n6, .slice A8 ls.len n8, .string y.name, .int .i64 y.nat] := fun j v h => (n4.cell (p := ⟨B7, 9 + j, none⟩) l7).trans (by have := r7 (9 + j) v (by rw [← List.getElem?_drop]; exact h); rwa [Nat.zero_add] at this)
                        have hyx2 := hyx'.out.below n4
                        have hyy2 := hyy'.out.below n4
                        have kA2 := Lib.hid (kA'.out.below n4)
                        have kB2 := Lib.hid (kB'.out.below n4)
                        have cS := Lib.hid fun R hR => ihK.out x y ls _ _ _ _ w4 gx gk' ga2 hyx2 hyy2 R hR
                        clear hS n4 hyx2 hyy2 r6 r7 u0 v0 kA' kB' hyx' hyy' hlv2 hcv2 hlw2 hcw2 nV
                        go_wp2_with (first | (refine wpList_load_g (by rfl) _ _ rfl B6 9 rfl [.int .i64 x.kind, .int .i64 x.at_, .int .i64 x.lo, .int .i64 x.hi, .int .i64 x.most, .slice A5 x.names.length n5, .slice A7 kd.len n7, .string x.name, .int .i64 x.nat] _ s6 Tryz.underlying30 rfl (by kernel_rfl) ?_; go_simp) | (refine wpList_load_g (by rfl) _ _ rfl B7 9 rfl [.int .i64 y.kind, .int .i64 y.at_, .int .i64 y.lo, .int .i64 y.hi, .int .i64 y.most, .slice A6 y.names.length n6, .slice A8 ls.len n8, .string y.name, .int .i64 y.nat] _ s7 Tryz.underlying30 rfl (by kernel_rfl) ?_; go_simp))
                        refine cS.out _ (Lib.hid fun w5 n5 => ?_)
                        have nY := Lib.hid (nX.out.trans (n5.mono nX.out.size))
                        have kA3 := Lib.hid (kA2.out.below n5)
                        have kB3 := Lib.hid (kB2.out.below n5)
                        clear n5 cS kA2 kB2
                        cases hS : sameS x kd y ls
                        · rw [hS] at e3
                          have fin := no (by rw [e3]; rfl) _ nY.out
                          clear no hR e3 hS
                          go_wp2_with fail
                          exact fin.out
                        · rw [hS, Bool.true_and, ← d1, ← d2] at e3
                          clear hS no
                          go_wp2_with fail
                          go_roundg (gk - 1)
                          case measure => omega
                          case rel => exact ⟨K + 1, by go_num, by omega, nY, kA3, kB3, e3⟩
                    · have q7 := sq_f c7
                      rw [decide_eq_false c7] at e3
                      have fin := no (by rw [e3]; simp) _ nV.out
                      clear no hR e3 c7
                      go_wp2_with fail
                      exact fin.out
                  · obtain rfl : K = f.len := by omega
                    have hz : sameF f g = true := by rw [e2, Fo.drop_all (Nat.le_refl _), Fo.drop_all (by have := c6.out; omega)]; rfl
                    have fin := Lib.hid (hR.out _ nW.out)
                    rw [hz] at fin
                    clear hz hR e2 kA kB
                    go_wp2_with fail
                    exact fin.out
              · have q6 : ((f.len : Int) != (g.len : Int)) = true := by simp; omega
                have hz : sameF f g = false := Bool.eq_false_iff.2 fun q => c6 (sameF_len q)
                rw [hz] at hR
                clear hz
                have fin := Lib.hid (hR.out _ nW.out)
                clear hR nW
                go_wp2_with fail
                exact fin.out
          · have q4 := sq_f c4
            rw [decide_eq_false c4] at hR
            simp only [Bool.false_and, Bool.and_false] at hR
            clear c4
            have fin := Lib.hid (hR.out _ nW.out)
            clear hR nW
            go_wp2_with fail
            exact fin.out
        · have q3 : (h.most != h'.most) = true := by simpa using c3
          rw [decide_eq_false c3] at hR
          simp only [Bool.false_and, Bool.and_false] at hR
          clear c3
          have fin := Lib.hid (hR.out _ nW.out)
          clear hR nW
          go_wp2_with fail
          exact fin.out
      · have q2 : (h.hi != h'.hi) = true := by simpa using c2
        rw [decide_eq_false c2] at hR
        simp only [Bool.false_and, Bool.and_false] at hR
        clear c2
        have fin := Lib.hid (hR.out _ nW.out)
        clear hR nW
        go_wp2_with fail
        exact fin.out
    · have q1 : (h.lo != h'.lo) = true := by simpa using c1
      rw [decide_eq_false c1] at hR
      simp only [Bool.false_and, Bool.and_false] at hR
      clear c1
      have fin := Lib.hid (hR.out _ nW.out)
      clear hR nW
      go_wp2_with fail
      exact fin.out
  · have q0 : (h.kind != h'.kind) = true := by simpa using c0
    rw [decide_eq_false c0] at hR
    simp only [Bool.false_and, Bool.and_false] at hR
    clear c0
    have fin := Lib.hid (hR.out _ nW.out)
    clear hR nW
    go_wp2_with fail
    exact fin.out
theorem sameL_calls (f : Ft) : SameL f := Fo.deep sameL_step f
end Go.Proofs.YthelhplcijhioaaGreat.Syn
