/- The walk of the law UtfDecodes, over the contracts. -/
import Derived.Test.YtafipbmcepbpjaaUtfM
import Derived.Test.YtafipbmcepbpjaaUtfE
set_option linter.unusedVariables false
namespace Go.Proofs.Ytafipbmcepbpjaa.Utf
open Go.RowKit Go.Lib

theorem decodes_walk (s : ByteArray) (i : Int) (hs : s.size ≤ maxLen) (w : World) (R : Ending → World → Prop)
    (hR : Hid (∀ w', Below w.heap.size w w' → R (.returned (.bool true)) w')) : Calls Try.prog 3 #[.string s, .int .i64 i] w R := by
  have hD := Lib.hid (decR_eq s i)
  go_enter Try.func3, Try.ntmps3
  go_wp2_with fail
  refine dec_calls s i _ hs _ (fun n1 => ?_)
  generalize decS s i = d at *
  obtain ⟨r, n, ok⟩ := d
  go_wp2_with fail
  refine refdec_calls s i _ hs _ (fun w2 h2 => ?_)
  rw [hD.out]
  have hb := (below_drewN (Below.refl w.heap.size w) n1).trans h2
  go_wp2_with fail
  refine lives_calls _ _ (fun w3 h3 => ?_)
  go_wp2_with fail
  exact retB (hR.out _ (hb.trans (h3.mono hb.size))) rfl
end Go.Proofs.Ytafipbmcepbpjaa.Utf
