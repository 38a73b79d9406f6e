/- The walk of the law RangesOne. -/
import Derived.Test.YtdikcogacopajaaRanO
import Derived.Deep.RegionHeld3
import Derived.Deep.DeepCutAuto
set_option linter.unusedVariables false
namespace Go.Proofs.Ytdikcogacopajaa.Ran
open Go.RowKit Go.Lib

/-- A box of the call's own that holds an empty set. -/
structure Bx (W : World) (base p : Nat) : Prop where
  cell : W.cell? ⟨p, 0, none⟩ = some (.slice none 0 0)
  fz : W.frozen? ⟨p, 0, none⟩ = false
  lt : p < W.heap.size
  ge : base ≤ p
theorem Bx.below {W W' : World} {base p : Nat} (h : Bx W base p) (n : Below W.heap.size W W') : Bx W' base p :=
  ⟨(n.cell (p := ⟨p, 0, none⟩) h.lt).trans h.cell, (n.frozen (p := ⟨p, 0, none⟩) h.lt).trans h.fz, Nat.lt_of_lt_of_le h.lt n.size, h.ge⟩
theorem Bx.new {W : World} {base : Nat} {T : TypeId} (h : base ≤ W.heap.size) : Bx (W.alloc (.cells #[.slice none 0 0] T)) base W.heap.size := ⟨cell_new0 _ _ _, frozen_new _ _ _ _, by simp, h⟩
theorem keepS {W w' : World} {p q : Nat} {S U : Value} (h1 : W.cell? ⟨p, 0, none⟩ = some S) (h2 : W.cell? ⟨q, 0, none⟩ = some U) (z1 : p < W.heap.size) (z2 : q < W.heap.size) (n : Below W.heap.size W w') :
    w'.cell? ⟨p, 0, none⟩ = some S ∧ w'.cell? ⟨q, 0, none⟩ = some U ∧ Below W.heap.size W w' := ⟨(n.cell (p := ⟨p, 0, none⟩) z1).trans h1, (n.cell (p := ⟨q, 0, none⟩) z2).trans h2, n⟩

set_option maxRecDepth 100000 in
set_option maxHeartbeats 8000000 in
theorem one_walk (xs ys : List Rg) (va vb : Value) (w : World) (hx : RdR w va xs) (hy : RdR w vb ys) (hlx : xs.length ≤ 17592186044416) (hly : ys.length ≤ 17592186044416) (R : Ending → World → Prop)
    (hR : Hid (∀ w', Below w.heap.size w w' → R (.returned (.bool true)) w')) : Calls Try.prog 5 #[va, vb] w R := by
  obtain ⟨A, c, rfl, -, -⟩ := hx.open
  obtain ⟨B, d, rfl, -, -⟩ := hy.open
  replace hx := Lib.hid hx
  replace hy := Lib.hid hy
  go_enter Try.func5, Try.ntmps5
  go_wp2_with fail
  refine new_calls xs _ _ hx.out (by omega) _ (fun v1 l w1 r1 cn hs n1 => ?_)
  have hl := can_len0 cn
  obtain ⟨A1, c1, rfl⟩ := r1.len
  replace hx := Lib.hid (hx.out.below n1)
  replace hy := Lib.hid (hy.out.below n1)
  replace r1 := Lib.hid r1
  replace cn := Lib.hid cn
  replace hs := Lib.hid hs
  replace n1 := Lib.hid n1
  go_wp2_with fail
  refine new_calls ys _ _ hy.out (by omega) _ (fun v2 m w2 r2 cm ht n2 => ?_)
  have hm := can_len0 cm
  obtain ⟨B1, d1, rfl⟩ := r2.len
  have b5 := ((Below.refl w2.heap.size w2).alloc (Nat.le_refl _) (.cells #[.slice A1 l.length c1] 25)).alloc (by simp) (.cells #[.slice B1 m.length d1] 25)
  have k5 : ((w2.alloc (.cells #[.slice A1 l.length c1] 25)).alloc (.cells #[.slice B1 m.length d1] 25)).cell? ⟨w2.heap.size, 0, none⟩ = some (.slice A1 l.length c1) := by
    have b : Below (w2.heap.size + 1) (w2.alloc (.cells #[.slice A1 l.length c1] 25)) ((w2.alloc (.cells #[.slice A1 l.length c1] 25)).alloc (.cells #[.slice B1 m.length d1] 25)) := (Below.refl _ _).alloc (by simp) _
    rw [b.cell (p := ⟨w2.heap.size, 0, none⟩) (by simp)]; exact cell_new0 _ _ _
  have k6 : ((w2.alloc (.cells #[.slice A1 l.length c1] 25)).alloc (.cells #[.slice B1 m.length d1] 25)).cell? ⟨w2.heap.size + 1, 0, none⟩ = some (.slice B1 m.length d1) := by
    rw [show w2.heap.size + 1 = (w2.alloc (.cells #[.slice A1 l.length c1] 25)).heap.size by simp]; exact cell_new0 _ _ _
  have zz : ((w2.alloc (.cells #[.slice A1 l.length c1] 25)).alloc (.cells #[.slice B1 m.length d1] 25)).heap.size = w2.heap.size + 1 + 1 := by simp
  have rS := r1.out.below (n2.trans (b5.mono n2.size))
  have rU := r2.below b5
  have nn := n2.trans (b5.mono n2.size)
  have T := n1.out.trans (nn.mono n1.out.size)
  replace hx := Lib.hid (hx.out.below nn)
  replace hy := Lib.hid (hy.out.below nn)
  replace cm := Lib.hid cm
  replace ht := Lib.hid ht
  clear r1 r2 n1 n2 b5 nn
  go_wp2_with fail
  generalize (w2.alloc (.cells #[.slice A1 l.length c1] 25)).alloc (.cells #[.slice B1 m.length d1] 25) = w3 at *
  have z5 : w2.heap.size < w3.heap.size := by omega
  have z6 : w2.heap.size + 1 < w3.heap.size := by omega
  clear zz
  generalize w2.heap.size = p5 at *
  generalize p5 + 1 = p6 at *
  replace rS := Lib.hid rS
  replace rU := Lib.hid rU
  replace T := Lib.hid T
  clear hx hy
  have cr := rest_ok m 0 0 (Int.le_refl _) cm.out
  have hD : Can 0 (bothS l (restGo 0 m)) ∧ (∀ r, hasB (bothS l (restGo 0 m)) r = (hasB l r && (decide (0 ≤ r) && decide (r ≤ 1114111) && !hasB m r))) := ⟨both_can cn.out cr.1, fun r => by rw [both_has cn.out cr.1, cr.2]⟩
  have hE : Can 0 (bothS l m) ∧ (∀ r, hasB (bothS l m) r = (hasB l r && hasB m r)) := ⟨both_can cn.out cm.out, fun r => both_has cn.out cm.out r⟩
  have hDl := can_len0 hD.1
  have hEl := can_len0 hE.1
  clear cr
  obtain ⟨D, hDe⟩ : ∃ D, D = bothS l (restGo 0 m) := ⟨_, rfl⟩
  obtain ⟨E, hEe⟩ : ∃ E, E = bothS l m := ⟨_, rfl⟩
  have cL := fun (W : World) (v1 v2 : Value) (h1 : RdR W v1 l) (h2 : RdR W v2 m) R hR => less_calls l m v1 v2 W h1 h2 hl cm.out R hR
  have cB := fun (W : World) (v1 v2 : Value) (h1 : RdR W v1 l) (h2 : RdR W v2 m) R hR => both_calls l m v1 v2 W h1 h2 (by omega) (by omega) R hR
  rw [← hDe] at hD hDl cL
  rw [← hEe] at hE hEl cB
  clear hDe hEe
  replace hD := Lib.hid hD
  replace hE := Lib.hid hE
  replace cL := Lib.hid cL
  replace cB := Lib.hid cB
  go_cut [7] (fun s wx => ∃ (p7 c6 : Nat) (A6 : Option Addr) (q : List Rg), s = .pointer (some ⟨p7, 0, none⟩) ∧ wx.cell? ⟨p7, 0, none⟩ = some (.slice A6 q.length c6) ∧ w3.heap.size ≤ p7 ∧ p7 < wx.heap.size ∧ RdN wx w3.heap.size (.slice A6 q.length c6) q ∧ Can 0 q ∧ Hid (∀ r, hasB q r = inB (D ++ E) r) ∧ Below w3.heap.size w3 wx)
  case first =>
    go_region_held3 (fun w' => w'.cell? ⟨p5, 0, none⟩ = some (.slice A1 l.length c1) ∧ w'.cell? ⟨p6, 0, none⟩ = some (.slice B1 m.length d1) ∧ Below w3.heap.size w3 w')
      (first
        | exact ⟨k5, k6, (Below.refl _ _).drew⟩
        | exact keepS k5 k6 z5 z6 (nJ)
        | exact keepS k5 k6 z5 z6 (nB)
        | exact keepS k5 k6 z5 z6 (nL)
        | exact keepS k5 k6 z5 z6 ((Below.refl w3.heap.size w3).drew)
        | exact keepS k5 k6 z5 z6 ((nJ).alloc (Below.size (nJ)) _)
        | exact keepS k5 k6 z5 z6 ((nB).alloc (Below.size (nB)) _)
        | exact keepS k5 k6 z5 z6 ((nL).alloc (Below.size (nL)) _)
        | exact keepS k5 k6 z5 z6 (((Below.refl w3.heap.size w3).drew).alloc (Below.size ((Below.refl w3.heap.size w3).drew)) _)
        | exact keepS k5 k6 z5 z6 (nJ.setCell (p := ⟨_, 0, none⟩) x6.ge _)
        | exact keepS k5 k6 z5 z6 ((nJ.alloc nJ.size _).setCell (p := ⟨w6.heap.size, 0, none⟩) nJ.size _)
        | trace_state)
      (first
        | (go_at_call 17; refine cL.out w3.drew _ _ (rS.out.1.below (Below.refl _ _).drew) (rU.out.1.below (Below.refl _ _).drew) _ (fun v4 w4 r4 n4 => ?_); have nL : Below w3.heap.size w3 w4 := Below.trans ((Below.refl w3.heap.size w3).drew) n4; obtain ⟨A4, c4, rfl⟩ := r4.len)
        | (go_at_call 17; go_loud (refine cL.out (w3.drew.alloc _) _ _ (rS.out.1.below (((Below.refl _ _).drew).alloc (Nat.le_refl _) _)) (rU.out.1.below (((Below.refl _ _).drew).alloc (Nat.le_refl _) _)) _ (fun v4 w4 r4 n4 => ?_); have nL : Below w3.heap.size w3 w4 := Below.trans (((Below.refl w3.heap.size w3).drew).alloc (Nat.le_refl _) _) (n4.mono (((Below.refl w3.heap.size w3).drew).alloc (Nat.le_refl _) _).size); have x4 : Bx w4 w3.heap.size w3.heap.size := (Bx.new (base := w3.heap.size) (W := w3.drew) (Nat.le_refl _)).below n4; obtain ⟨A4, c4, rfl⟩ := r4.len))
        | (go_at_call 16; refine cB.out w4 _ _ (rS.out.1.below nL) (rU.out.1.below nL) _ (fun v5 w5 r5 n5 => ?_); have nB : Below w3.heap.size w3 w5 := Below.trans nL (Below.mono n5 nL.size); obtain ⟨A5, c5, rfl⟩ := r5.len; have r4' := r4.below n5; try (have x5 := x4.below n5))
        | (go_at_call 16; go_loud (refine cB.out (w4.alloc _) _ _ (rS.out.1.below (nL.alloc nL.size _)) (rU.out.1.below (nL.alloc nL.size _)) _ (fun v5 w5 r5 n5 => ?_); have nB : Below w3.heap.size w3 w5 := Below.trans (nL.alloc nL.size _) (Below.mono n5 (nL.alloc nL.size _).size); obtain ⟨A5, c5, rfl⟩ := r5.len; have r4' := (r4.below ((Below.refl _ _).alloc (Nat.le_refl _) _)).below n5; have x5 := (Bx.new (base := w3.heap.size) nL.size).below n5))
        | (go_at_call 15; (refine join_calls D E _ _ w5 _ _ r4' r5 (by omega) _ (fun v6 q w6 r6 cq hq n6 => ?_)); have nJ : Below w3.heap.size w3 w6 := Below.trans nB (n6.mono nB.size); (try (have x6 := x5.below n6; have l6 := x5.lt; have h7 := x6.cell; have f7 := x6.fz)); obtain ⟨A6, c6, rfl⟩ := r6.len)
        | (go_at_call 15; go_loud (refine join_calls D E _ _ (w5.alloc _) _ _ (r4'.below ((Below.refl _ _).alloc (Nat.le_refl _) _)) (r5.below ((Below.refl _ _).alloc (Nat.le_refl _) _)) (by omega) _ (fun v6 q w6 r6 cq hq n6 => ?_); have nJ : Below w3.heap.size w3 w6 := Below.trans (nB.alloc nB.size _) (n6.mono (nB.alloc nB.size _).size); have l6 := (Bx.new (base := w3.heap.size) (T := 25) nB.size).lt; have x6 := (Bx.new (base := w3.heap.size) nB.size).below n6; have h7 := x6.cell; have f7 := x6.fz; obtain ⟨A6, c6, rfl⟩ := r6.len)))
    all_goals go_wp2_with fail
    all_goals go_meet
    · exact ⟨w6.heap.size, c6, A6, q, rfl, cell_new0 _ _ _, nJ.size, by simp, (r6.below ((Below.refl _ _).alloc (Nat.le_refl _) _)).mono nB.size, cq, hq, nJ.alloc nJ.size _⟩
    · exact ⟨_, c6, A6, q, rfl, World.cell?_setCell_same _ _ _ h7, x6.ge, by simpa [World.setCell] using x6.lt, (r6.setCell (p := ⟨_, 0, none⟩) l6 _).mono (Nat.le_trans nB.size (by simp)), cq, hq, nJ.setCell (p := ⟨_, 0, none⟩) x6.ge _⟩
    all_goals exact ⟨_, c6, A6, q, rfl, World.cell?_setCell_same _ _ _ h7, x6.ge, by simpa [World.setCell] using x6.lt, (r6.setCell (p := ⟨_, 0, none⟩) l6 _).mono nB.size, cq, hq, nJ.setCell (p := ⟨_, 0, none⟩) x6.ge _⟩
  case rest =>
    obtain ⟨p7, c6, A6, q, rfl, k7, y7, z7, r7, cq, hq, nR⟩ := hcut
    have hql := can_len0 cq
    have eq1 : q = l := can_unique q l 0 cq cn.out (fun r => by
      rw [hq.out]; unfold inB; rw [hasB_append, hD.out.2, hE.out.2]
      cases e1 : hasB l r
      · simp
      · have := Can.low cn.out e1
        rw [decide_eq_true this.1, decide_eq_true this.2]
        cases hasB m r <;> rfl)
    subst eq1
    clear hq
    have f5 := (nR.cell (p := ⟨p5, 0, none⟩) z5).trans k5
    have f6 := (nR.cell (p := ⟨p6, 0, none⟩) z6).trans k6
    have g5 := Nat.lt_of_lt_of_le z5 nR.size
    have g6 := Nat.lt_of_lt_of_le z6 nR.size
    replace T := Lib.hid (T.out.trans (nR.mono T.out.size))
    replace rS := Lib.hid (rS.out.below nR)
    replace rU := Lib.hid (rU.out.below nR)
    replace r7 := Lib.hid r7
    clear k5 k6 z5 z6 nR y7
    go_wp2_with fail
    refine ranges_calls q _ _ _ rS.out (by omega) _ (fun v8 w8 r8 n8 => ?_)
    replace f5 := (n8.cell (p := ⟨p5, 0, none⟩) g5).trans f5
    replace f6 := (n8.cell (p := ⟨p6, 0, none⟩) g6).trans f6
    replace k7 := (n8.cell (p := ⟨p7, 0, none⟩) z7).trans k7
    replace g5 := Nat.lt_of_lt_of_le g5 n8.size
    replace g6 := Nat.lt_of_lt_of_le g6 n8.size
    replace z7 := Nat.lt_of_lt_of_le z7 n8.size
    replace T := Lib.hid (T.out.trans (n8.mono T.out.size))
    replace rS := Lib.hid (rS.out.below n8)
    replace rU := Lib.hid (rU.out.below n8)
    replace r7 := Lib.hid (r7.out.below n8)
    clear n8
    obtain ⟨A8, c8, rfl⟩ := r8.len
    replace r8 := Lib.hid r8
    go_wp2_with fail
    refine new_calls q _ _ r8.out.1 (by omega) _ (fun v9 q9 w9 r9 cn9 hs9 n9 => ?_)
    have eq9 : q9 = q := can_unique q9 q 0 cn9 cn.out (fun r => by
      rw [hs9]; unfold inB
      cases e1 : hasB q r
      · simp
      · have := Can.low cn.out e1
        rw [decide_eq_true this.1, decide_eq_true this.2]; rfl)
    subst eq9
    obtain ⟨A9, c9, rfl⟩ := r9.len
    have b9 := n9.trans (((Below.refl w9.heap.size w9).alloc (Nat.le_refl _) (.cells #[.slice A9 q9.length c9] 25)).mono n9.size)
    replace f5 := (b9.cell (p := ⟨p5, 0, none⟩) g5).trans f5
    replace f6 := (b9.cell (p := ⟨p6, 0, none⟩) g6).trans f6
    replace k7 := (b9.cell (p := ⟨p7, 0, none⟩) z7).trans k7
    replace g5 := Nat.lt_of_lt_of_le g5 b9.size
    replace g6 := Nat.lt_of_lt_of_le g6 b9.size
    replace z7 := Nat.lt_of_lt_of_le z7 b9.size
    replace T := Lib.hid (T.out.trans (b9.mono T.out.size))
    replace rS := Lib.hid (rS.out.below b9)
    replace rU := Lib.hid (rU.out.below b9)
    replace r7 := Lib.hid (r7.out.below b9)
    replace r9 := Lib.hid (r9.below ((Below.refl w9.heap.size w9).alloc (Nat.le_refl _) (.cells #[.slice A9 q9.length c9] 25)))
    have f8 := cell_new0 w9 (.slice A9 q9.length c9) 25
    have g8 : w9.heap.size < (w9.alloc (.cells #[.slice A9 q9.length c9] 25)).heap.size := by simp
    clear n9 b9 r8 hs9 cn9
    go_wp2_with fail
    generalize hp8 : w9.heap.size = p8 at *
    generalize w9.alloc (.cells #[.slice A9 q9.length c9] 25) = W at *
    clear hp8
    have cnt1 : countS D + countS E = countS q9 := by
      rw [countS_eq hD.out.1, countS_eq hE.out.1, countS_eq cn.out, ← cnt_split (hasB q9) (hasB m)]
      refine congr (congrArg _ (cnt_congr _ _ fun r h1 h2 => ?_)) (cnt_congr _ _ fun r h1 h2 => hE.out.2 r)
      rw [hD.out.2]
      have x1 : decide (0 ≤ r) = true := by simpa using h1
      have x2 : decide (r ≤ 1114111) = true := by simp at h2 ⊢; omega
      rw [x1, x2]; simp
    have bD := countS_bd _ _ hD.out.1 (by decide)
    have bE := countS_bd _ _ hE.out.1 (by decide)
    have cr2 := rest_ok q9 0 0 (Int.le_refl _) cn.out
    have self0 : bothS q9 (restGo 0 q9) = [] := can_unique _ [] 0 (both_can cn.out cr2.1) trivial (fun r => by
      rw [both_has cn.out cr2.1, cr2.2]; cases hasB q9 r <;> simp)
    have cF := fun (W : World) (v1 v2 : Value) (h1 : RdR W v1 q9) (h2 : RdR W v2 q9) R hR => less_calls q9 q9 v1 v2 W h1 h2 hl cn.out R hR
    rw [self0] at cF
    have eCD := (rfl : countS D = countS D)
    have eCE := (rfl : countS E = countS E)
    have eCQ := (rfl : countS q9 = countS q9)
    obtain ⟨CD, hCD⟩ : ∃ CD, countS D = CD := ⟨_, rfl⟩
    obtain ⟨CE, hCE⟩ : ∃ CE, countS E = CE := ⟨_, rfl⟩
    obtain ⟨CQ, hCQ⟩ : ∃ CQ, countS q9 = CQ := ⟨_, rfl⟩
    rw [hCD, hCE, hCQ] at cnt1
    rw [hCD] at bD
    rw [hCE] at bE
    have sw : IntKind.i64.wrap (CD + CE) = CQ := by rw [IntWalk.i64_in _ (by omega)]; exact cnt1
    clear eCD eCE eCQ self0 cr2 cnt1 bD bE
    replace cF := Lib.hid cF
    replace hCD := Lib.hid hCD
    replace hCE := Lib.hid hCE
    replace hCQ := Lib.hid hCQ
    replace rS := Lib.hid rS.out
    have nW : Below W.heap.size W W.drew := (Below.refl _ _).drew
    have rQ := rS.out.below nW
    have tok : True := trivial
    go_region_held3 (fun w' => w'.cell? ⟨p5, 0, none⟩ = some (.slice A1 q9.length c1) ∧ w'.cell? ⟨p6, 0, none⟩ = some (.slice B1 m.length d1) ∧ w'.cell? ⟨p7, 0, none⟩ = some (.slice A6 q9.length c6) ∧ w'.cell? ⟨p8, 0, none⟩ = some (.slice A9 q9.length c9) ∧ Below W.heap.size W w')
      (first | exact ⟨(nW.cell (p := ⟨p5, 0, none⟩) g5).trans f5, (nW.cell (p := ⟨p6, 0, none⟩) g6).trans f6, (nW.cell (p := ⟨p7, 0, none⟩) z7).trans k7, (nW.cell (p := ⟨p8, 0, none⟩) g8).trans f8, nW⟩ | trace_state)
      (first
      | (go_at_call 12; refine ranges_calls q9 _ _ _ (by first | exact r7.out.below nW | exact r9.out.below nW | exact rS.out.below nW) (by omega) _ (fun v wn r n => ?_); have rP := rQ.below n; have rQ := r; have nW := nW.trans (n.mono nW.size); obtain ⟨An, cn', rfl⟩ := r.len)
      | (go_at_call 11; go_loud (refine same_calls q9 q9 _ _ _ rP.1 rQ.1 (by omega) (by omega) _ (fun nq => ?_); rw [decide_eq_true rfl]; have nW := below_drewN nW nq; have rQ := rQ.below (below_drewN (Below.refl _ _) nq)))
      | (go_at_call 17; have tk := tok; clear tok tk; refine cL.out _ _ _ (rS.out.1.below nW) (rU.out.1.below nW) _ (fun v wn r n => ?_); have rZ := r; have nW := nW.trans (n.mono nW.size); obtain ⟨An, cn', rfl⟩ := r.len)
      | (go_at_call 17; go_loud (refine cF.out _ _ _ (rS.out.1.below nW) (rS.out.1.below nW) _ (fun v wn r n => ?_); have rZ := r; have nW := nW.trans (n.mono nW.size); obtain ⟨An, cn', rfl⟩ := r.len))
      | (go_at_call 16; go_loud (refine cB.out _ _ _ (rS.out.1.below nW) (rU.out.1.below nW) _ (fun v wn r n => ?_); have rZ := r; have nW := nW.trans (n.mono nW.size); obtain ⟨An, cn', rfl⟩ := r.len))
      | (go_at_call 13; refine count_calls D _ _ rZ.1 hD.out.1 _ (fun wn n => ?_); rw [hCD.out]; clear rZ; have nW := nW.trans (n.mono nW.size))
      | (go_at_call 13; refine count_calls E _ _ rZ.1 hE.out.1 _ (fun wn n => ?_); rw [hCE.out]; clear rZ; have nW := nW.trans (n.mono nW.size))
      | (go_at_call 13; refine count_calls [] _ _ rZ.1 trivial _ (fun wn n => ?_); rw [show countS [] = 0 from rfl]; clear rZ; have nW := nW.trans (n.mono nW.size))
      | (go_at_call 13; go_loud (refine count_calls q9 _ _ (rS.out.1.below nW) cn.out _ (fun wn n => ?_); rw [hCQ.out]; have nW := nW.trans (n.mono nW.size)))
      | (go_at_call 6; go_loud (refine lives_calls _ _ (fun wn n => ?_); have nW := nW.trans (n.mono nW.size))))
    go_wp2_with fail
    exact retB (hR.out _ (T.out.trans (nW.mono T.out.size))) rfl
end Go.Proofs.Ytdikcogacopajaa.Ran
