/- The contracts of layer 10's code in the form that the laws' walks take. -/
import Derived.Test.YtoeianacjnlepaaRelK
set_option maxRecDepth 100000
set_option linter.unusedVariables false
namespace Go.Proofs.Ytoeianacjnlepaa.Rel
open Go.RowKit Go.Lib
theorem relhas_calls (n : Nat) (P : List (Nat × Nat)) (a b : Int) (hP : InR n P) (hn : n ≤ 64) (ha : -9223372036854775808 ≤ a ∧ a ≤ 9223372036854775807) (hb : -9223372036854775808 ≤ b ∧ b ≤ 9223372036854775807) (v : Value) (w : World) (h : RelP w v n P) (R : Ending → World → Prop)
    (hR : Hid (∀ w', Below w.heap.size w w' → R (.returned (.bool (hasQ P a b))) w')) : Calls Try.prog 50 #[v, .int .i64 a, .int .i64 b] w R :=
  relhasx_calls n P a b hP hn v w h R (Lib.hid fun m => hR.out _ (below_drewN (Below.refl _ _) m))
theorem relhasnone_calls (a b : Int) (w : World) (R : Ending → World → Prop) (hR : Hid (∀ w', Below w.heap.size w w' → R (.returned (.bool false)) w')) : Calls Try.prog 50 #[.pointer none, .int .i64 a, .int .i64 b] w R :=
  relhasnonex_calls a b w R (Lib.hid fun m => hR.out _ (below_drewN (Below.refl _ _) m))
theorem rellen_calls (n : Nat) (P : List (Nat × Nat)) (v : Value) (w : World) (h : RelP w v n P) (R : Ending → World → Prop) (hR : Hid (∀ w', Below w.heap.size w w' → R (.returned (.int .i64 n)) w')) : Calls Try.prog 49 #[v] w R :=
  rellenx_calls n P v w h R (Lib.hid (hR.out _ (Below.refl _ _)))
theorem rellennone_calls (w : World) (R : Ending → World → Prop) (hR : Hid (∀ w', Below w.heap.size w w' → R (.returned (.int .i64 0)) w')) : Calls Try.prog 49 #[.pointer none] w R :=
  rellennonex_calls w R (Lib.hid (hR.out _ (Below.refl _ _)))
theorem relclosenone_calls (w : World) (R : Ending → World → Prop) (hR : Hid (∀ w', Below w.heap.size w w' → R (.returned (.pointer none)) w')) : Calls Try.prog 35 #[.pointer none] w R :=
  relclosenonex_calls w R (Lib.hid (hR.out _ (Below.refl _ _)))
end Go.Proofs.Ytoeianacjnlepaa.Rel
