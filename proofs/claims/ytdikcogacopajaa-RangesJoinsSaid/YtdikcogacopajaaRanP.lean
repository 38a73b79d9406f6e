/- The walk of the law RangesJoins. -/
import Derived.Test.YtdikcogacopajaaRanO
set_option linter.unusedVariables false
namespace Go.Proofs.Ytdikcogacopajaa.Ran
open Go.RowKit Go.Lib

set_option maxRecDepth 100000 in
set_option maxHeartbeats 4000000 in
theorem joins_walk (xs ys : List Rg) (va vb : Value) (w : World) (hx : RdR w va xs) (hy : RdR w vb ys) (hf : Fit xs) (hg : Fit ys) (R : Ending → World → Prop)
    (hR : Hid (∀ w', Below w.heap.size w w' → R (.returned (.bool true)) w')) : Calls Try.prog 4 #[va, vb] w R := by
  obtain ⟨A, c, rfl, -, -⟩ := hx.open
  obtain ⟨B, d, rfl, -, -⟩ := hy.open
  by_cases h1 : 80 < xs.length
  · clear hx hy
    go_enter Try.func4, Try.ntmps4
    go_wp2_with fail
    refine lives_calls _ _ (fun w1 h1 => ?_)
    go_wp2_with fail
    exact hR.out _ h1
  by_cases h2 : 80 < ys.length
  · clear hx hy
    go_enter Try.func4, Try.ntmps4
    go_wp2_with fail
    refine lives_calls _ _ (fun w1 h1 => ?_)
    go_wp2_with fail
    exact hR.out _ h1
  replace hx := Lib.hid hx
  replace hy := Lib.hid hy
  replace hf := Lib.hid hf
  replace hg := Lib.hid hg
  go_enter Try.func4, Try.ntmps4
  go_wp2_with fail
  refine new_calls xs _ _ hx.out (by omega) _ (fun v1 l w1 r1 cn hs n1 => ?_)
  have hl := can_len0 cn
  obtain ⟨A1, c1, rfl⟩ := r1.len
  replace hx := Lib.hid (hx.out.below n1)
  replace hy := Lib.hid (hy.out.below n1)
  replace r1 := Lib.hid r1
  replace cn := Lib.hid cn
  replace hs := Lib.hid hs
  replace n1 := Lib.hid n1
  go_wp2_with fail
  refine new_calls ys _ _ hy.out (by omega) _ (fun v2 m w2 r2 cm ht n2 => ?_)
  have hm := can_len0 cm
  obtain ⟨B1, d1, rfl⟩ := r2.len
  have b5 := ((Below.refl w2.heap.size w2).alloc (Nat.le_refl _) (.cells #[.slice A1 l.length c1] 25)).alloc (by simp) (.cells #[.slice B1 m.length d1] 25)
  have k5 : ((w2.alloc (.cells #[.slice A1 l.length c1] 25)).alloc (.cells #[.slice B1 m.length d1] 25)).cell? ⟨w2.heap.size, 0, none⟩ = some (.slice A1 l.length c1) := by
    have b : Below (w2.heap.size + 1) (w2.alloc (.cells #[.slice A1 l.length c1] 25)) ((w2.alloc (.cells #[.slice A1 l.length c1] 25)).alloc (.cells #[.slice B1 m.length d1] 25)) := (Below.refl _ _).alloc (by simp) _
    rw [b.cell (p := ⟨w2.heap.size, 0, none⟩) (by simp)]; exact cell_new0 _ _ _
  have k6 : ((w2.alloc (.cells #[.slice A1 l.length c1] 25)).alloc (.cells #[.slice B1 m.length d1] 25)).cell? ⟨w2.heap.size + 1, 0, none⟩ = some (.slice B1 m.length d1) := by
    rw [show w2.heap.size + 1 = (w2.alloc (.cells #[.slice A1 l.length c1] 25)).heap.size by simp]; exact cell_new0 _ _ _
  have zz : ((w2.alloc (.cells #[.slice A1 l.length c1] 25)).alloc (.cells #[.slice B1 m.length d1] 25)).heap.size = w2.heap.size + 1 + 1 := by simp
  have rS := r1.out.below (n2.trans (b5.mono n2.size))
  have rU := r2.below b5
  have nn := n2.trans (b5.mono n2.size)
  have T := n1.out.trans (nn.mono n1.out.size)
  replace hx := Lib.hid (hx.out.below nn)
  replace hy := Lib.hid (hy.out.below nn)
  replace cm := Lib.hid cm
  replace ht := Lib.hid ht
  clear r1 r2 n1 n2 b5 nn
  go_wp2_with fail
  generalize (w2.alloc (.cells #[.slice A1 l.length c1] 25)).alloc (.cells #[.slice B1 m.length d1] 25) = w3 at *
  have z5 : w2.heap.size < w3.heap.size := by omega
  have z6 : w2.heap.size + 1 < w3.heap.size := by omega
  clear zz
  generalize w2.heap.size = p5 at *
  generalize p5 + 1 = p6 at *
  replace rS := Lib.hid rS
  replace rU := Lib.hid rU
  replace T := Lib.hid T
  refine join_calls l m _ _ _ _ _ rS.out rU.out (by omega) _ (fun v4 q w4 r4 cq hq n4 => ?_)
  replace k5 := (n4.cell (p := ⟨p5, 0, none⟩) z5).trans k5
  replace k6 := (n4.cell (p := ⟨p6, 0, none⟩) z6).trans k6
  replace z5 := Nat.lt_of_lt_of_le z5 n4.size
  replace z6 := Nat.lt_of_lt_of_le z6 n4.size
  replace rS := Lib.hid (rS.out.below n4)
  replace rU := Lib.hid (rU.out.below n4)
  replace hx := Lib.hid (hx.out.below n4)
  replace hy := Lib.hid (hy.out.below n4)
  replace T := Lib.hid (T.out.trans (n4.mono T.out.size))
  clear n4
  have hql := can_len0 cq
  obtain ⟨A4, c4, rfl⟩ := r4.len
  replace r4 := Lib.hid r4
  replace cq := Lib.hid cq
  replace hq := Lib.hid hq
  go_wp2_with fail
  refine ranges_calls q _ _ _ r4.out (by omega) _ (fun v5 w5 r5 n5 => ?_)
  replace k5 := (n5.cell (p := ⟨p5, 0, none⟩) z5).trans k5
  replace k6 := (n5.cell (p := ⟨p6, 0, none⟩) z6).trans k6
  replace z5 := Nat.lt_of_lt_of_le z5 n5.size
  replace z6 := Nat.lt_of_lt_of_le z6 n5.size
  replace rS := Lib.hid (rS.out.below n5)
  replace rU := Lib.hid (rU.out.below n5)
  replace hx := Lib.hid (hx.out.below n5)
  replace hy := Lib.hid (hy.out.below n5)
  replace T := Lib.hid (T.out.trans (n5.mono T.out.size))
  clear n5 r4
  obtain ⟨A5, c5, rfl⟩ := r5.len
  replace r5 := Lib.hid r5
  go_wp2_with fail
  refine refranges_calls xs ys 1 _ _ _ hx.out hy.out hf.out hg.out (by omega) (by omega) _ (fun v6 q2 w6 r6 cq2 hq2 n6 => ?_)
  have el : q2 = q := can_unique q2 q 0 cq2 cq.out (fun r => by
    rw [hq2, hq.out]; unfold kindB inB; rw [hasB_append, hs.out, ht.out]; unfold inB
    cases hasB xs r <;> cases hasB ys r <;> cases decide (0 ≤ r) <;> cases decide (r ≤ 1114111) <;> rfl)
  subst el
  replace r5 := Lib.hid (r5.out.below n6)
  clear hq hq2 cq cq2
  replace k5 := (n6.cell (p := ⟨p5, 0, none⟩) z5).trans k5
  replace k6 := (n6.cell (p := ⟨p6, 0, none⟩) z6).trans k6
  replace z5 := Nat.lt_of_lt_of_le z5 n6.size
  replace z6 := Nat.lt_of_lt_of_le z6 n6.size
  replace rS := Lib.hid (rS.out.below n6)
  replace rU := Lib.hid (rU.out.below n6)
  replace hx := Lib.hid (hx.out.below n6)
  replace hy := Lib.hid (hy.out.below n6)
  replace T := Lib.hid (T.out.trans (n6.mono T.out.size))
  clear n6
  replace r6 := Lib.hid r6
  go_wp2_with fail
  refine same_calls q2 q2 _ _ _ r5.out.1 r6.out.1 (by omega) (by omega) _ (fun n7 => ?_)
  rw [decide_eq_true rfl]
  have n8 := below_drewN (Below.refl w6.heap.size w6) n7
  generalize w6.drewN n7 = w7 at *
  replace k5 := (n8.cell (p := ⟨p5, 0, none⟩) z5).trans k5
  replace k6 := (n8.cell (p := ⟨p6, 0, none⟩) z6).trans k6
  replace z5 := Nat.lt_of_lt_of_le z5 n8.size
  replace z6 := Nat.lt_of_lt_of_le z6 n8.size
  replace rS := Lib.hid (rS.out.below n8)
  replace rU := Lib.hid (rU.out.below n8)
  replace hx := Lib.hid (hx.out.below n8)
  replace hy := Lib.hid (hy.out.below n8)
  replace T := Lib.hid (T.out.trans (n8.mono T.out.size))
  clear n8 r5 r6 hql
  go_wp2_with fail
  refine both_calls l m _ _ _ rS.out.1 rU.out.1 (by omega) (by omega) _ (fun v4 w4 r4 n4 => ?_)
  obtain ⟨q, hqe⟩ : ∃ q, q = bothS l m := ⟨_, rfl⟩
  rw [← hqe] at r4
  have cq : Can 0 q := by rw [hqe]; exact both_can cn.out cm.out
  have hq : ∀ r, hasB q r = (hasB l r && hasB m r) := fun r => by rw [hqe]; exact both_has cn.out cm.out r
  clear hqe
  replace k5 := (n4.cell (p := ⟨p5, 0, none⟩) z5).trans k5
  replace k6 := (n4.cell (p := ⟨p6, 0, none⟩) z6).trans k6
  replace z5 := Nat.lt_of_lt_of_le z5 n4.size
  replace z6 := Nat.lt_of_lt_of_le z6 n4.size
  replace rS := Lib.hid (rS.out.below n4)
  replace rU := Lib.hid (rU.out.below n4)
  replace hx := Lib.hid (hx.out.below n4)
  replace hy := Lib.hid (hy.out.below n4)
  replace T := Lib.hid (T.out.trans (n4.mono T.out.size))
  clear n4
  have hql := can_len0 cq
  obtain ⟨A4, c4, rfl⟩ := r4.len
  replace r4 := Lib.hid r4
  replace cq := Lib.hid cq
  replace hq := Lib.hid hq
  go_wp2_with fail
  refine ranges_calls q _ _ _ r4.out (by omega) _ (fun v5 w5 r5 n5 => ?_)
  replace k5 := (n5.cell (p := ⟨p5, 0, none⟩) z5).trans k5
  replace k6 := (n5.cell (p := ⟨p6, 0, none⟩) z6).trans k6
  replace z5 := Nat.lt_of_lt_of_le z5 n5.size
  replace z6 := Nat.lt_of_lt_of_le z6 n5.size
  replace rS := Lib.hid (rS.out.below n5)
  replace rU := Lib.hid (rU.out.below n5)
  replace hx := Lib.hid (hx.out.below n5)
  replace hy := Lib.hid (hy.out.below n5)
  replace T := Lib.hid (T.out.trans (n5.mono T.out.size))
  clear n5 r4
  obtain ⟨A5, c5, rfl⟩ := r5.len
  replace r5 := Lib.hid r5
  go_wp2_with fail
  refine refranges_calls xs ys 2 _ _ _ hx.out hy.out hf.out hg.out (by omega) (by omega) _ (fun v6 q2 w6 r6 cq2 hq2 n6 => ?_)
  have el : q2 = q := can_unique q2 q 0 cq2 cq.out (fun r => by rw [hq2, hq.out, hs.out, ht.out]; rfl)
  subst el
  replace r5 := Lib.hid (r5.out.below n6)
  clear hq hq2 cq cq2
  replace k5 := (n6.cell (p := ⟨p5, 0, none⟩) z5).trans k5
  replace k6 := (n6.cell (p := ⟨p6, 0, none⟩) z6).trans k6
  replace z5 := Nat.lt_of_lt_of_le z5 n6.size
  replace z6 := Nat.lt_of_lt_of_le z6 n6.size
  replace rS := Lib.hid (rS.out.below n6)
  replace rU := Lib.hid (rU.out.below n6)
  replace hx := Lib.hid (hx.out.below n6)
  replace hy := Lib.hid (hy.out.below n6)
  replace T := Lib.hid (T.out.trans (n6.mono T.out.size))
  clear n6
  replace r6 := Lib.hid r6
  go_wp2_with fail
  refine same_calls q2 q2 _ _ _ r5.out.1 r6.out.1 (by omega) (by omega) _ (fun n7 => ?_)
  rw [decide_eq_true rfl]
  have n8 := below_drewN (Below.refl w6.heap.size w6) n7
  generalize w6.drewN n7 = w7 at *
  replace k5 := (n8.cell (p := ⟨p5, 0, none⟩) z5).trans k5
  replace k6 := (n8.cell (p := ⟨p6, 0, none⟩) z6).trans k6
  replace z5 := Nat.lt_of_lt_of_le z5 n8.size
  replace z6 := Nat.lt_of_lt_of_le z6 n8.size
  replace rS := Lib.hid (rS.out.below n8)
  replace rU := Lib.hid (rU.out.below n8)
  replace hx := Lib.hid (hx.out.below n8)
  replace hy := Lib.hid (hy.out.below n8)
  replace T := Lib.hid (T.out.trans (n8.mono T.out.size))
  clear n8 r5 r6 hql
  go_wp2_with fail
  refine less_calls l m _ _ _ rS.out.1 rU.out.1 hl cm.out _ (fun v4 w4 r4 n4 => ?_)
  obtain ⟨q, hqe⟩ : ∃ q, q = bothS l (restGo 0 m) := ⟨_, rfl⟩
  rw [← hqe] at r4
  have cr := rest_ok m 0 0 (Int.le_refl _) cm.out
  have cq : Can 0 q := by rw [hqe]; exact both_can cn.out cr.1
  have hq : ∀ r, hasB q r = (hasB l r && (decide (0 ≤ r) && decide (r ≤ 1114111) && !hasB m r)) := fun r => by rw [hqe, both_has cn.out cr.1, cr.2]
  clear hqe cr
  replace k5 := (n4.cell (p := ⟨p5, 0, none⟩) z5).trans k5
  replace k6 := (n4.cell (p := ⟨p6, 0, none⟩) z6).trans k6
  replace z5 := Nat.lt_of_lt_of_le z5 n4.size
  replace z6 := Nat.lt_of_lt_of_le z6 n4.size
  replace rS := Lib.hid (rS.out.below n4)
  replace rU := Lib.hid (rU.out.below n4)
  replace hx := Lib.hid (hx.out.below n4)
  replace hy := Lib.hid (hy.out.below n4)
  replace T := Lib.hid (T.out.trans (n4.mono T.out.size))
  clear n4
  have hql := can_len0 cq
  obtain ⟨A4, c4, rfl⟩ := r4.len
  replace r4 := Lib.hid r4
  replace cq := Lib.hid cq
  replace hq := Lib.hid hq
  go_wp2_with fail
  refine ranges_calls q _ _ _ r4.out (by omega) _ (fun v5 w5 r5 n5 => ?_)
  replace k5 := (n5.cell (p := ⟨p5, 0, none⟩) z5).trans k5
  replace k6 := (n5.cell (p := ⟨p6, 0, none⟩) z6).trans k6
  replace z5 := Nat.lt_of_lt_of_le z5 n5.size
  replace z6 := Nat.lt_of_lt_of_le z6 n5.size
  replace rS := Lib.hid (rS.out.below n5)
  replace rU := Lib.hid (rU.out.below n5)
  replace hx := Lib.hid (hx.out.below n5)
  replace hy := Lib.hid (hy.out.below n5)
  replace T := Lib.hid (T.out.trans (n5.mono T.out.size))
  clear n5 r4
  obtain ⟨A5, c5, rfl⟩ := r5.len
  replace r5 := Lib.hid r5
  go_wp2_with fail
  refine refranges_calls xs ys 3 _ _ _ hx.out hy.out hf.out hg.out (by omega) (by omega) _ (fun v6 q2 w6 r6 cq2 hq2 n6 => ?_)
  have el : q2 = q := can_unique q2 q 0 cq2 cq.out (fun r => by
    rw [hq2, hq.out, hs.out, ht.out]; unfold kindB inB
    cases hasB xs r <;> cases hasB ys r <;> cases decide (0 ≤ r) <;> cases decide (r ≤ 1114111) <;> rfl)
  subst el
  replace r5 := Lib.hid (r5.out.below n6)
  clear hq hq2 cq cq2
  replace k5 := (n6.cell (p := ⟨p5, 0, none⟩) z5).trans k5
  replace k6 := (n6.cell (p := ⟨p6, 0, none⟩) z6).trans k6
  replace z5 := Nat.lt_of_lt_of_le z5 n6.size
  replace z6 := Nat.lt_of_lt_of_le z6 n6.size
  replace rS := Lib.hid (rS.out.below n6)
  replace rU := Lib.hid (rU.out.below n6)
  replace hx := Lib.hid (hx.out.below n6)
  replace hy := Lib.hid (hy.out.below n6)
  replace T := Lib.hid (T.out.trans (n6.mono T.out.size))
  clear n6
  replace r6 := Lib.hid r6
  go_wp2_with fail
  refine same_calls q2 q2 _ _ _ r5.out.1 r6.out.1 (by omega) (by omega) _ (fun n7 => ?_)
  rw [decide_eq_true rfl]
  have n8 := below_drewN (Below.refl w6.heap.size w6) n7
  generalize w6.drewN n7 = w7 at *
  replace k5 := (n8.cell (p := ⟨p5, 0, none⟩) z5).trans k5
  replace k6 := (n8.cell (p := ⟨p6, 0, none⟩) z6).trans k6
  replace z5 := Nat.lt_of_lt_of_le z5 n8.size
  replace z6 := Nat.lt_of_lt_of_le z6 n8.size
  replace rS := Lib.hid (rS.out.below n8)
  replace rU := Lib.hid (rU.out.below n8)
  replace hx := Lib.hid (hx.out.below n8)
  replace hy := Lib.hid (hy.out.below n8)
  replace T := Lib.hid (T.out.trans (n8.mono T.out.size))
  clear n8 r5 r6 hql
  go_wp2_with fail
  refine lives_calls _ _ (fun w12 n8 => ?_)
  go_wp2_with fail
  exact retB (hR.out _ (T.out.trans (n8.mono T.out.size))) rfl
end Go.Proofs.Ytdikcogacopajaa.Ran
