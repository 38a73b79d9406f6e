/- The walks of the four laws of layer 1, over the contracts. -/
import Derived.Test.YtafipbmcepbpjaaUtfD
set_option linter.unusedVariables false
namespace Go.Proofs.Ytafipbmcepbpjaa.Utf
open Go.RowKit Go.Lib

theorem encodes_walk (r : Int) (w : World) (R : Ending → World → Prop)
    (hR : Hid (∀ w', Below w.heap.size w w' → R (.returned (.bool true)) w')) : Calls Try.prog 4 #[.int .i32 r] w R := by
  go_enter Try.func4, Try.ntmps4
  go_wp2_with fail
  refine enc_calls _ _ _ (fun w1 h1 => ?_)
  go_wp2_with fail
  refine ref_calls _ _ _ (fun w2 h2 => ?_)
  go_wp2_with fail
  refine scalar_calls _ _ _ ?_
  go_wp2_with fail
  refine scalar2_calls _ _ _ ?_
  go_wp2_with fail
  refine lives_calls _ _ (fun w3 h3 => ?_)
  go_wp2_with fail
  exact retB (hR.out _ ((h1.trans (h2.mono h1.size)).trans (h3.mono (Nat.le_trans h1.size h2.size)))) rfl
end Go.Proofs.Ytafipbmcepbpjaa.Utf
