import Derived.Test.YtbochlbgjnmgjaaGreatZTypM
/- Layer 15: the reference's Wrong: lists. -/
set_option maxRecDepth 100000
set_option linter.unusedVariables false
namespace Go.Proofs.YtbochlbgjnmgjaaGreat.Kin
open Go.RowKit Go.Lib Go.Proofs.YtbochlbgjnmgjaaGreat.Utf Go.Proofs.YtbochlbgjnmgjaaGreat.Nam Go.Proofs.YtbochlbgjnmgjaaGreat.Lat

end Go.Proofs.YtbochlbgjnmgjaaGreat.Kin

/- Layer 15: the reference's Wrong: an enumeration's names. -/
set_option maxRecDepth 100000
set_option linter.unusedVariables false
namespace Go.Proofs.YtbochlbgjnmgjaaGreat.Kin
open Go.RowKit Go.Lib Go.Proofs.YtbochlbgjnmgjaaGreat.Utf Go.Proofs.YtbochlbgjnmgjaaGreat.Nam Go.Proofs.YtbochlbgjnmgjaaGreat.Lat

end Go.Proofs.YtbochlbgjnmgjaaGreat.Kin
