/- The chapter's example, as the laws of layer 1 ask for it. -/
import Derived.Test.YtheeabngdnhibaaUtfD
set_option linter.unusedVariables false
namespace Go.Proofs.Ytheeabngdnhibaa.Utf
open Go.RowKit Go.Lib

end Go.Proofs.Ytheeabngdnhibaa.Utf
