/- The chapter's example, as the laws of layer 1 ask for it. -/
import Derived.Test.YtikcblnemdbjnaaUtfD
set_option linter.unusedVariables false
namespace Go.Proofs.Ytikcblnemdbjnaa.Utf
open Go.RowKit Go.Lib

end Go.Proofs.Ytikcblnemdbjnaa.Utf
