import Derived.Test.YtbochlbgjnmgjaaGreatG7
import Derived.Test.YtbochlbgjnmgjaaGreatLibB
/- The reference's Put, isDigit, great, Take, Floor. -/
set_option maxRecDepth 100000
set_option linter.unusedVariables false
namespace Go.Proofs.YtbochlbgjnmgjaaGreat.Dig
open Go.RowKit Go.Lib Go.Proofs.YtbochlbgjnmgjaaGreat.Utf

end Go.Proofs.YtbochlbgjnmgjaaGreat.Dig

/- The reference's Put, Floor. -/
set_option maxRecDepth 100000
set_option linter.unusedVariables false
namespace Go.Proofs.YtbochlbgjnmgjaaGreat.Dig
open Go.RowKit Go.Lib Go.Proofs.YtbochlbgjnmgjaaGreat.Utf

end Go.Proofs.YtbochlbgjnmgjaaGreat.Dig
