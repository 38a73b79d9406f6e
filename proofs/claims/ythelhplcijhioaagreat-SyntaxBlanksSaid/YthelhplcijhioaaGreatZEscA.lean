/- The code's digit, Hex, value, number. -/
import Derived.Test.YthelhplcijhioaaGreatG5
import Derived.Test.YthelhplcijhioaaGreatG24
import Derived.Laws.RangeAny
import Derived.Lib.OthersKept
set_option maxRecDepth 100000
set_option linter.unusedVariables false
namespace Go.Proofs.YthelhplcijhioaaGreat.Esc
open Go.RowKit Go.Lib Go.Proofs.YthelhplcijhioaaGreat.Utf Go.Proofs.YthelhplcijhioaaGreat.Ran Go.Proofs.YthelhplcijhioaaGreat.Cel

theorem enc_dg {d : Nat} (h : d < 16) : Utf8.encode ((dg d : Nat) : Int) = strOfNums [((dg d : Nat) : Int)] :=
  (by decide +kernel : ∀ d : Fin 16, Utf8.encode ((dg d.val : Nat) : Int) = strOfNums [((dg d.val : Nat) : Int)]) ⟨d, h⟩
theorem hexB_size {n : Nat} (h : n < 4294967296) : (hexB n).size ≤ 8 := by
  rw [← bl_length, bl_hex]
  exact (hexL_len 7 n h).2
theorem value_calls (r : Int) (w : World) (hr : -2147483648 ≤ r ∧ r ≤ 2147483647) (R : Ending → World → Prop) (hR : Hid (R (.returned (.tuple #[.int .u32 (if valD r < 0 then 0 else valD r), .bool (decide (0 ≤ valD r))])) w)) :
    Calls Tryz.prog 165 #[.int .i32 r] w R := by
  have hc : (48 ≤ r ∧ r < 58 ∧ valD r = r - 48) ∨ (¬ (48 ≤ r ∧ r < 58) ∧ 65 ≤ r ∧ r < 71 ∧ valD r = r - 55) ∨ (¬ (48 ≤ r ∧ r < 58) ∧ ¬ (65 ≤ r ∧ r < 71) ∧ 97 ≤ r ∧ r < 103 ∧ valD r = r - 87) ∨
      (¬ (48 ≤ r ∧ r < 58) ∧ ¬ (65 ≤ r ∧ r < 71) ∧ ¬ (97 ≤ r ∧ r < 103) ∧ valD r = -1) := by unfold valD; (repeat' split) <;> omega
  have key : ∀ (a : Int) (b : Bool), R (.returned (.tuple #[.int .u32 a, .bool b])) w → ∀ a' b', a' = a → b' = b → R (.returned (.tuple #[.int .u32 a', .bool b'])) w := by intro a b h a' b' e1 e2; subst e1 e2; exact h
  replace key := Lib.hid (key _ _ hR.out)
  clear hR
  generalize valD r = v at *
  rcases hc with ⟨h1, h2, h3⟩ | ⟨h0, h1, h2, h3⟩ | ⟨h0, h0', h1, h2, h3⟩ | ⟨h0, h0', h0'', h3⟩
  · go_enter Tryz.func165, Tryz.ntmps165
    go_wp2_with fail
    exact key.out _ _ (by rw [if_neg (by omega)]; omega) (by simp; omega)
  · go_enter Tryz.func165, Tryz.ntmps165
    go_wp2_with fail
    exact key.out _ _ (by rw [if_neg (by omega)]; omega) (by simp; omega)
  · go_enter Tryz.func165, Tryz.ntmps165
    go_wp2_with fail
    exact key.out _ _ (by rw [if_neg (by omega)]; omega) (by simp; omega)
  · go_enter Tryz.func165, Tryz.ntmps165
    go_wp2_with fail
    all_goals exact key.out _ _ (by rw [if_pos (by omega)]) (by simp; omega)
end Go.Proofs.YthelhplcijhioaaGreat.Esc
