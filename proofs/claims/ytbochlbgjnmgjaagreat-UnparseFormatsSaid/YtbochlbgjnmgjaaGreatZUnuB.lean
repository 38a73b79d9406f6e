/- Layer 17: the law UnparseTypes walked. -/
import Derived.Test.YtbochlbgjnmgjaaGreatG20
import Derived.Test.YtbochlbgjnmgjaaGreatG11
import Derived.Test.YtbochlbgjnmgjaaGreatZTypR
set_option maxRecDepth 100000
set_option linter.unusedVariables false
namespace Go.Proofs.YtbochlbgjnmgjaaGreat.Unp
open Go.RowKit Go.Lib Go.Proofs.YtbochlbgjnmgjaaGreat.Nam Go.Proofs.YtbochlbgjnmgjaaGreat.Lat Go.Proofs.YtbochlbgjnmgjaaGreat.Kin Go.Proofs.YtbochlbgjnmgjaaGreat.Dig

theorem run_fieldF (e z : Int) (m : Nat) (w : World) : (Instr.field 151 (wV e z m) 0).run Tryz.prog w = .ok (.agg #[.int .i64 e, .int .i64 z]) w := by
  simp [wV, Instr.field, run_underlying Tryz.underlying151, part, asAgg, Tryz.isAgg35, go_sem]
end Go.Proofs.YtbochlbgjnmgjaaGreat.Unp
