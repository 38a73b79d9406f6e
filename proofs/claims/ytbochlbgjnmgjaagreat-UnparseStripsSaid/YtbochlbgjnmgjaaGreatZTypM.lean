/- Layer 15: the reference's Wrong: what is wrong at once. -/
import Derived.Test.YtbochlbgjnmgjaaGreatZTypL
set_option maxRecDepth 100000
set_option linter.unusedVariables false
namespace Go.Proofs.YtbochlbgjnmgjaaGreat.Kin
open Go.RowKit Go.Lib Go.Proofs.YtbochlbgjnmgjaaGreat.Utf Go.Proofs.YtbochlbgjnmgjaaGreat.Nam Go.Proofs.YtbochlbgjnmgjaaGreat.Lat

end Go.Proofs.YtbochlbgjnmgjaaGreat.Kin
