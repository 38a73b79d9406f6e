/- The chapter's example, and the walk of RangesMakes. -/
import Derived.Test.YtdikcogacopajaaRanM
import Derived.Test.YtdikcogacopajaaRanK
import Derived.Test.YtdikcogacopajaaRanC
import Derived.Test.YtdikcogacopajaaRanR
set_option linter.unusedVariables false
namespace Go.Proofs.Ytdikcogacopajaa.Ran
open Go.RowKit Go.Lib

theorem example_list (l : List Rg) (h : Can 0 l) (hs : ∀ r, hasB l r = inB [(3, 5), (1, 2), (9, 7)] r) : l = [(1, 5)] := by
  refine can_unique l [(1, 5)] 0 h ⟨by decide, by decide, by decide, trivial⟩ fun r => ?_
  rw [hs r]
  unfold inB
  simp only [hasB_cons, hasB_nil]
  rw [Bool.eq_iff_iff]
  simp
  omega

set_option maxRecDepth 100000 in
set_option maxHeartbeats 1000000 in
theorem lives_calls (w : World) (R : Ending → World → Prop)
    (hR : Hid (∀ w', Below w.heap.size w w' → R (.returned (.bool true)) w')) : Calls Try.prog 6 #[] w R := by
  have n0 : Below w.heap.size w (w.alloc (.cells #[.int .i32 3, .int .i32 5, .int .i32 1, .int .i32 2, .int .i32 9, .int .i32 7] 36)) := (Below.refl _ _).alloc (Nat.le_refl _) _
  have h0 : RdR (w.alloc (.cells #[.int .i32 3, .int .i32 5, .int .i32 1, .int .i32 2, .int .i32 9, .int .i32 7] 36)) (.slice (some ⟨w.heap.size, 0, none⟩) 3 3) [(3, 5), (1, 2), (9, 7)] :=
    ⟨_, 3, 3, rfl, rfl, Nat.le_refl _, fun _ => ⟨w.heap.size, 0, rfl, by simp, fun j u hj => by rw [← add0]; exact cells_new _ _ _ j u hj⟩⟩
  replace n0 := Lib.hid n0
  replace h0 := Lib.hid h0
  go_enter Try.func6, Try.ntmps6
  go_wp2_with fail
  refine new_calls _ _ _ h0.out (by decide) _ (fun v1 l w1 r1 cn hs n1 => ?_)
  obtain rfl := example_list l cn hs
  clear hs cn
  replace r1 := Lib.hid r1
  go_wp2_with fail
  refine ranges_calls _ _ _ _ r1.out (by decide) _ (fun v2 w2 r2 n2 => ?_)
  obtain ⟨A, c, rfl, hc, hr⟩ := r2.1.open
  obtain ⟨g, o, rfl, hg, hcc⟩ := hr (by decide)
  obtain ⟨e0, e1⟩ := hcc 0 (by decide)
  simp at e0 e1
  clear hr hcc r2
  replace n0 := Lib.hid (n0.out.trans ((n1.trans (n2.mono n1.size)).mono n0.out.size))
  clear n1 n2
  go_wp2_with fail
  exact retB (hR.out _ n0.out) (by rfl)
end Go.Proofs.Ytdikcogacopajaa.Ran
