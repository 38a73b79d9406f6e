/- Contracts of utf.Bad, utf.Valid, utf.Count. -/
import Derived.Test.YtmlhhhilhdjknaaUtfC
set_option linter.unusedVariables false
namespace Go.Proofs.Ytmlhhhilhdjknaa.Utf
open Go.RowKit Go.Lib

end Go.Proofs.Ytmlhhhilhdjknaa.Utf
