/- The reference's Size and Kind; the chapter's examples. -/
import Derived.Test.YtmchgimbfdeaiaaG9
set_option maxRecDepth 100000
set_option linter.unusedVariables false
namespace Go.Proofs.Ytmchgimbfdeaiaa.Ran
open Go.RowKit Go.Lib
set_option maxRecDepth 1000000
end Go.Proofs.Ytmchgimbfdeaiaa.Ran
