/- Less. -/
import Derived.Test.YtcgknfpcpjiciaaRanH
import Derived.Deep.RegionWith
set_option linter.unusedVariables false
namespace Go.Proofs.Ytcgknfpcpjiciaa.Ran
open Go.RowKit Go.Lib

end Go.Proofs.Ytcgknfpcpjiciaa.Ran
