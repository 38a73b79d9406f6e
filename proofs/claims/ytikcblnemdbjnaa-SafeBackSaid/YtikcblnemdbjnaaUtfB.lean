/- Contracts of utf.lead and utf.Decode. -/
import Derived.Test.YtikcblnemdbjnaaUtfA
set_option linter.unusedVariables false
namespace Go.Proofs.Ytikcblnemdbjnaa.Utf
open Go.RowKit Go.Lib

theorem lead_calls (c : Int) (w : World) (R : Ending → World → Prop)
    (hR : R (.returned (.tuple #[.int .i64 (leadL c).1, .int .u8 (leadL c).2.1, .int .u8 (leadL c).2.2])) w) :
    Calls Try.prog 43 #[.int .u8 c] w R := by
  go_enter Try.func43, Try.ntmps43
  go_wp2
  all_goals go_ret3
  all_goals try simp only [beq_iff_eq, beq_eq_false_iff_ne, ne_eq] at *
  all_goals unfold leadL at hR
  all_goals repeat (first | rw [if_pos (by omega)] at hR | rw [if_neg (by omega)] at hR)
  all_goals exact hR
end Go.Proofs.Ytikcblnemdbjnaa.Utf
