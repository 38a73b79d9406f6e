/- Layer 15: the reference's parts, walked. -/
import Derived.Test.YtbochlbgjnmgjaaGreatG14
set_option maxRecDepth 100000
set_option linter.unusedVariables false
namespace Go.Proofs.YtbochlbgjnmgjaaGreat.Kin
open Go.RowKit Go.Lib Go.Proofs.YtbochlbgjnmgjaaGreat.Utf Go.Proofs.YtbochlbgjnmgjaaGreat.Nam Go.Proofs.YtbochlbgjnmgjaaGreat.Lat

end Go.Proofs.YtbochlbgjnmgjaaGreat.Kin
