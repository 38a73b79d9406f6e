/- The contracts of layer 11's code in the form that the laws' walks take. -/
import Derived.Test.YtlijjbcamkhhaaaG6
import Derived.Test.YtlijjbcamkhhaaaG5
set_option maxRecDepth 100000
set_option linter.unusedVariables false
namespace Go.Proofs.Ytlijjbcamkhhaaa.Lat
open Go.RowKit Go.Lib Go.Proofs.Ytlijjbcamkhhaaa.Rel Go.Proofs.Ytlijjbcamkhhaaa.Nam
section
variable (nm : List ByteArray) (F : Nat → Nat → Bool) (v : Value) (w : World) (h : LatP w v nm F) (R : Ending → World → Prop)
include h
theorem latlen_calls (hR : Hid (∀ w', Below w.heap.size w w' → R (.returned (.int .i64 nm.length)) w')) : Calls Try.prog 66 #[v] w R := by
  obtain ⟨p, rfl, hv, -⟩ := h
  exact latlenx_calls nm p w hv R (Lib.hid (hR.out _ (Below.refl _ _)))
theorem latname_calls (i : Int) (hi : Bd i) (hR : Hid (∀ w', Below w.heap.size w w' → R (.returned (.string (if 0 ≤ i ∧ i < nm.length then nm.getD i.toNat ByteArray.empty else ByteArray.empty))) w')) : Calls Try.prog 25 #[v, .int .i64 i] w R := by
  obtain ⟨p, rfl, hv, -⟩ := h
  exact latnamex_calls nm p w hv i R (Lib.hid (hR.out _ (Below.refl _ _)))
theorem latfind_calls (s : ByteArray) (hs : s.size ≤ maxLen) (hR : Hid (∀ w', Below w.heap.size w w' → R (.returned (.tuple #[.int .i64 (if findS nm s < 0 then 0 else findS nm s), .bool (decide (0 ≤ findS nm s))])) w')) : Calls Try.prog 23 #[v, .string s] w R := by
  obtain ⟨p, rfl, hv, -⟩ := h
  refine latfindx_calls nm p w hv s R (Lib.hid fun nq => ?_)
  have := hR.out _ (below_drewN (Below.refl _ _) nq)
  by_cases q : findS nm s < 0
  · rw [if_pos q, decide_eq_false (by omega)] at this
    rw [fin_no q]; exact this
  · rw [if_neg q, decide_eq_true (by omega)] at this
    rw [fin_yes q]; exact this
theorem latleq_calls (a b : Int) (ha : Bd a) (hb : Bd b) (hR : Hid (∀ w', Below w.heap.size w w' → R (.returned (.bool (decide (0 ≤ a ∧ a < nm.length ∧ 0 ≤ b ∧ b < nm.length) && F a.toNat b.toNat))) w')) : Calls Try.prog 24 #[v, .int .i64 a, .int .i64 b] w R :=
  latleqx_calls nm F v w h a b R (Lib.hid (hR.out _ (Below.refl _ _)))
theorem latjoin_calls (a b : Int) (ha : Bd a) (hb : Bd b) (hR : Hid (∀ w', Below w.heap.size w w' → R (.returned (.int .i64 (if 0 ≤ a ∧ a < nm.length ∧ 0 ≤ b ∧ b < nm.length then joinS nm.length F a.toNat b.toNat else -1))) w')) : Calls Try.prog 49 #[v, .int .i64 a, .int .i64 b] w R :=
  latjoinx_calls nm F v w h a b R (Lib.hid (hR.out _ (Below.refl _ _)))
theorem latmeet_calls (a b : Int) (ha : Bd a) (hb : Bd b) (hR : Hid (∀ w', Below w.heap.size w w' → R (.returned (.int .i64 (if 0 ≤ a ∧ a < nm.length ∧ 0 ≤ b ∧ b < nm.length then joinS nm.length (flp F) a.toNat b.toNat else -1))) w')) : Calls Try.prog 79 #[v, .int .i64 a, .int .i64 b] w R :=
  latmeetx_calls nm F v w h a b R (Lib.hid (hR.out _ (Below.refl _ _)))
theorem latbottom_calls (hR : Hid (∀ (t : Nat) w', t < nm.length → (∀ a, a < nm.length → F t a = true) → Below w.heap.size w w' → R (.returned (.int .i64 t)) w')) : Calls Try.prog 65 #[v] w R :=
  latbottomx_calls nm F v w h R (Lib.hid fun t ht h2 => hR.out t _ ht h2 (Below.refl _ _))
end
end Go.Proofs.Ytlijjbcamkhhaaa.Lat
