import Derived.Test.YtbochlbgjnmgjaaGreatZKinL
import Derived.Test.YtbochlbgjnmgjaaGreatG5
import Derived.Test.YtbochlbgjnmgjaaGreatZTypE
import Derived.Test.YtbochlbgjnmgjaaGreatCls
/- Layer 15: what the laws share. -/
set_option maxRecDepth 100000
set_option linter.unusedVariables false
namespace Go.Proofs.YtbochlbgjnmgjaaGreat.Kin
open Go.RowKit Go.Lib Go.Proofs.YtbochlbgjnmgjaaGreat.Utf Go.Proofs.YtbochlbgjnmgjaaGreat.Nam Go.Proofs.YtbochlbgjnmgjaaGreat.Lat

/-- Is a type more than is gone through? -/
def greatB (f : Ft) : Bool := decide (2000 < cW f 1) || decide (60 < wrap64 (dW f 0 + 1))
end Go.Proofs.YtbochlbgjnmgjaaGreat.Kin

/- Layer 15, the code: how many types, how deep. -/
set_option maxRecDepth 100000
set_option linter.unusedVariables false
namespace Go.Proofs.YtbochlbgjnmgjaaGreat.Kin
open Go.RowKit Go.Lib Go.Proofs.YtbochlbgjnmgjaaGreat.Utf Go.Proofs.YtbochlbgjnmgjaaGreat.Nam Go.Proofs.YtbochlbgjnmgjaaGreat.Lat

end Go.Proofs.YtbochlbgjnmgjaaGreat.Kin

/- Layer 15: how many, how deep, the same. -/
set_option maxRecDepth 100000
set_option linter.unusedVariables false
namespace Go.Proofs.YtbochlbgjnmgjaaGreat.Kin
open Go.RowKit Go.Lib Go.Proofs.YtbochlbgjnmgjaaGreat.Utf Go.Proofs.YtbochlbgjnmgjaaGreat.Nam Go.Proofs.YtbochlbgjnmgjaaGreat.Lat

end Go.Proofs.YtbochlbgjnmgjaaGreat.Kin
