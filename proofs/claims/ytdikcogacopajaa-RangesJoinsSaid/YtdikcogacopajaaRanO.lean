/- The walk of the law RangesMakes. -/
import Derived.Test.YtdikcogacopajaaRanN
set_option linter.unusedVariables false
namespace Go.Proofs.Ytdikcogacopajaa.Ran
open Go.RowKit Go.Lib

theorem cell_new0 (W : World) (v : Value) (T : TypeId) : (W.alloc (.cells #[v] T)).cell? ⟨W.heap.size, 0, none⟩ = some v := by rw [World.cell?_alloc_new]; rfl

set_option maxRecDepth 100000 in
set_option maxHeartbeats 2000000 in
theorem makes_walk (xs : List Rg) (r : Int) (v : Value) (w : World) (hx : RdR w v xs) (hf : Fit xs) (R : Ending → World → Prop)
    (hR : Hid (∀ w', Below w.heap.size w w' → R (.returned (.bool true)) w')) : Calls Try.prog 3 #[v, .int .i32 r] w R := by
  obtain ⟨A, c, rfl, hlc, -⟩ := hx.open
  by_cases h150 : 150 < xs.length
  · clear hx
    go_enter Try.func3, Try.ntmps3
    go_wp2_with fail
    refine lives_calls _ _ (fun w1 h1 => ?_)
    go_wp2_with fail
    exact hR.out _ h1
  replace hx := Lib.hid hx
  replace hf := Lib.hid hf
  go_enter Try.func3, Try.ntmps3
  go_wp2_with fail
  refine new_calls xs _ _ hx.out (by omega) _ (fun v1 l w1 r1 cn hs n1 => ?_)
  have hl := can_len0 cn
  obtain ⟨S, hS⟩ : ∃ S, S = v1 := ⟨_, rfl⟩
  obtain ⟨A1, c1, e1⟩ := r1.len
  have k5 := cell_new0 w1 v1 25
  have m1 := (Below.refl w1.heap.size w1).alloc (Nat.le_refl _) (.cells #[v1] 25)
  have z1 : w1.heap.size < (w1.alloc (.cells #[v1] 25)).heap.size := by simp
  have T := n1.trans (m1.mono n1.size)
  have r1' := r1.below m1
  subst e1
  go_wp2_with fail
  clear m1 n1 r1
  generalize hp5 : w1.heap.size = p5 at *
  generalize w1.alloc (.cells #[.slice A1 l.length c1] 25) = w2 at *
  clear hp5
  replace r1' := Lib.hid r1'
  replace hs := Lib.hid hs
  replace cn := Lib.hid cn
  replace T := Lib.hid T
  refine refranges_calls xs [] 1 _ _ _ (hx.out.below T.out) (RdR.none0 _ _ _) hf.out (fun k hk => by simp at hk) (by omega) (by decide) _ (fun v2 l2 w3 r2 cn2 hs2 n2 => ?_)
  have el : l2 = l := can_unique l2 l 0 cn2 cn.out (fun r => by rw [hs2, hs.out]; unfold kindB inB; simp)
  subst el
  replace hs2 := Lib.hid hs2
  obtain ⟨A2, c2, rfl⟩ := r2.len
  have b7 := (Below.refl w3.heap.size w3).alloc (Nat.le_refl _) (.cells #[.slice none 0 0] 25)
  have b27 := n2.trans (b7.mono n2.size)
  have k7 := cell_new0 w3 (.slice none 0 0) 25
  have z7 : w3.heap.size < (w3.alloc (.cells #[.slice none 0 0] 25)).heap.size := by simp
  have k5' := (b27.cell (p := ⟨p5, 0, none⟩) z1).trans k5
  have z5 := Nat.lt_of_lt_of_le z1 b27.size
  have T4 := T.out.trans (b27.mono T.out.size)
  have rS := r1'.out.below b27
  have rW := r2.below b7
  clear r1' r2 b7 b27 n2 k5 z1 T
  go_wp2_with fail
  generalize hp7 : w3.heap.size = p7 at *
  generalize w3.alloc (.cells #[.slice none 0 0] 25) = w4 at *
  clear hp7
  replace hx := Lib.hid (hx.out.below T4)
  replace rS := Lib.hid rS
  replace rW := Lib.hid rW
  replace T4 := Lib.hid T4
  refine has_calls l2 r _ _ rS.out.1 cn.out _ (fun w5 n5 => ?_)
  rw [hs.out r]
  replace k5' := (n5.cell (p := ⟨p5, 0, none⟩) z5).trans k5'
  replace k7 := (n5.cell (p := ⟨p7, 0, none⟩) z7).trans k7
  replace z5 := Nat.lt_of_lt_of_le z5 n5.size
  replace z7 := Nat.lt_of_lt_of_le z7 n5.size
  replace rS := Lib.hid (rS.out.below n5)
  replace rW := Lib.hid (rW.out.below n5)
  replace hx := Lib.hid (hx.out.below n5)
  replace T4 := Lib.hid (T4.out.trans (n5.mono T4.out.size))
  clear n5
  go_wp2_with fail
  refine hasR_calls xs r _ _ hx.out (by omega) _ ?_
  generalize inB xs r = I at *
  go_wp2_with fail
  refine ranges_calls l2 _ _ _ rS.out (by omega) _ (fun v6 w6 r6 n6 => ?_)
  replace k5' := (n6.cell (p := ⟨p5, 0, none⟩) z5).trans k5'
  replace k7 := (n6.cell (p := ⟨p7, 0, none⟩) z7).trans k7
  replace z5 := Nat.lt_of_lt_of_le z5 n6.size
  replace z7 := Nat.lt_of_lt_of_le z7 n6.size
  replace rS := Lib.hid (rS.out.below n6)
  replace rW := Lib.hid (rW.out.below n6)
  replace T4 := Lib.hid (T4.out.trans (n6.mono T4.out.size))
  replace r6 := Lib.hid r6
  clear n6
  go_wp2_with fail
  refine same_calls l2 l2 _ _ _ r6.out.1 rW.out.1 (by omega) (by omega) _ (fun n7 => ?_)
  rw [decide_eq_true rfl]
  have n8 := below_drewN (Below.refl w6.heap.size w6) n7
  generalize w6.drewN n7 = w7 at *
  replace k5' := (n8.cell (p := ⟨p5, 0, none⟩) z5).trans k5'
  replace k7 := (n8.cell (p := ⟨p7, 0, none⟩) z7).trans k7
  replace z5 := Nat.lt_of_lt_of_le z5 n8.size
  replace z7 := Nat.lt_of_lt_of_le z7 n8.size
  replace rS := Lib.hid (rS.out.below n8)
  replace rW := Lib.hid (rW.out.below n8)
  replace T4 := Lib.hid (T4.out.trans (n8.mono T4.out.size))
  clear n8 r6
  go_wp2_with fail
  refine count_calls l2 _ _ rS.out.1 cn.out _ (fun w8 n8 => ?_)
  replace k7 := (n8.cell (p := ⟨p7, 0, none⟩) z7).trans k7
  replace z7 := Nat.lt_of_lt_of_le z7 n8.size
  replace rW := Lib.hid (rW.out.below n8)
  replace T4 := Lib.hid (T4.out.trans (n8.mono T4.out.size))
  clear n8 k5' rS
  go_wp2_with fail
  refine size_calls l2 _ _ rW.out.1 cn.out _ (fun n9 => ?_)
  have n8 := below_drewN (Below.refl w8.heap.size w8) n9
  generalize w8.drewN n9 = w9 at *
  replace k7 := (n8.cell (p := ⟨p7, 0, none⟩) z7).trans k7
  replace z7 := Nat.lt_of_lt_of_le z7 n8.size
  replace T4 := Lib.hid (T4.out.trans (n8.mono T4.out.size))
  clear n8 rW
  generalize countS l2 = C at *
  go_wp2_with fail
  refine has_calls [] r _ _ (RdR.none0 _ _ _) trivial _ (fun w10 n8 => ?_)
  rw [hasB_nil]
  replace k7 := (n8.cell (p := ⟨p7, 0, none⟩) z7).trans k7
  replace z7 := Nat.lt_of_lt_of_le z7 n8.size
  replace T4 := Lib.hid (T4.out.trans (n8.mono T4.out.size))
  clear n8
  go_wp2_with fail
  refine count_calls [] _ _ (RdR.none0 _ _ _) trivial _ (fun w11 n8 => ?_)
  rw [show countS [] = 0 from rfl]
  replace T4 := Lib.hid (T4.out.trans (n8.mono T4.out.size))
  clear n8 k7
  go_wp2_with fail
  refine lives_calls _ _ (fun w12 n8 => ?_)
  go_wp2_with fail
  exact retB (hR.out _ (T4.out.trans (n8.mono T4.out.size))) rfl
end Go.Proofs.Ytdikcogacopajaa.Ran
