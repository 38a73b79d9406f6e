/- Contracts of utf.Bad, utf.Valid, utf.Count. -/
import Derived.Test.YtikcblnemdbjnaaUtfC
set_option linter.unusedVariables false
namespace Go.Proofs.Ytikcblnemdbjnaa.Utf
open Go.RowKit Go.Lib

end Go.Proofs.Ytikcblnemdbjnaa.Utf
