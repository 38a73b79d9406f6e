/-
  NARROWER THAN 'FOR EVERY INPUT', by the rows' own cells (each row's printed sentence says how): UnparseFormats: loops · UnparseStrips: loops · UnparseBack: loops.
  DERIVED. THE GIVEN ROWS OF THIS SEAT. 6 by the template 'for every input the law returns true; each argument reads behind the call as it read before'; 0 by the template 'total and deterministic' (their statements: YtbochlbgjnmgjaaGreatTotals.lean).
  GIVEN WITH THE SEED: the statements are not yours to turn. If you find one false, say at which input.
  Laid BY PROGRAM, IN A SANDBOX (cutbox-rows.mjs): the forced cells as the released guide's own fill.sh prints them over the translation 242b585ae2ea2980… (all of the seat's roots in one cut). By AI agents, Wed Nov 11 2026. No macro, syntax, notation, axiom, sorry.
-/
import Derived.Test.YtbochlbgjnmgjaaGreatChecked
import GoSem.Claim
import GoSem.ClaimJoined
import GoSem.ClaimMapViews
import Derived.JoinedTies
import Derived.KernelRfl
namespace Go.Proofs.YtbochlbgjnmgjaaGreat
/- THE CELL 'sum', in the pinned program and in every row, IS THE sha256 OF THE DUMP (.gsa) THAT YtbochlbgjnmgjaaGreatProg.lean LOADS. Nothing in Lean hashes anything: it is a label: what it is worth is what the hold of that sum in a sandbox is worth. -/
noncomputable def Tryz.pinned : Pinned := { name := "ytbochlbgjnmgjaagreat", sum := "242b585ae2ea298029833fcd39ab4c2464469ecbfd7220d66278afbd5a23abc9", checked := Tryz.checked }
namespace Rows
def none {H : Type} : Left H := { results := [], args := [] }

/-- 'blindfoldlaw16.SyntaxParses': WHATEVER THE INPUT: true; the input reads as it did. -/
def syntaxParsesSpec : ChangeSpec := { name := "syntaxParses", fn := fun _ => fun
  | [d] => { results := [.lit (.bool true)], args := [d] }
  | _ => none }
def syntaxParsesRow : OpenClaim := { program := "ytbochlbgjnmgjaagreat", sum := "242b585ae2ea298029833fcd39ab4c2464469ecbfd7220d66278afbd5a23abc9", func := "blindfold/blindfoldlaw16.SyntaxParses", spec := "syntaxParses", inPlace := ["internal/bytealg.IndexByteString", "internal/bytealg.IndexString", "internal/abi.NoEscape"], unfollowed := true, recurses := true, named := ["internal/bytealg.MaxLen"], apart := false }
def SyntaxParsesSaid : Prop := syntaxParsesRow.holds Tryz.pinned (OpenSpec.ofChange syntaxParsesSpec)

/-- ITS FALSE NEIGHBOUR: 'it returns false'. Refute it at one input. -/
def syntaxParsesWrong : ChangeSpec := { name := "syntaxParses", fn := fun _ => fun
  | [d] => { results := [.lit (.bool false)], args := [d] }
  | _ => none }
def SyntaxParsesWrongFalsely : Prop := syntaxParsesRow.holds Tryz.pinned (OpenSpec.ofChange syntaxParsesWrong)

/-- 'blindfoldlaw16.SyntaxTypes': WHATEVER THE INPUT: true; the input reads as it did. -/
def syntaxTypesSpec : ChangeSpec := { name := "syntaxTypes", fn := fun _ => fun
  | [d] => { results := [.lit (.bool true)], args := [d] }
  | _ => none }
def syntaxTypesRow : OpenClaim := { program := "ytbochlbgjnmgjaagreat", sum := "242b585ae2ea298029833fcd39ab4c2464469ecbfd7220d66278afbd5a23abc9", func := "blindfold/blindfoldlaw16.SyntaxTypes", spec := "syntaxTypes", inPlace := ["internal/bytealg.IndexByteString", "internal/bytealg.IndexString", "internal/abi.NoEscape"], unfollowed := true, recurses := true, named := ["internal/bytealg.MaxLen"], apart := false }
def SyntaxTypesSaid : Prop := syntaxTypesRow.holds Tryz.pinned (OpenSpec.ofChange syntaxTypesSpec)

/-- ITS FALSE NEIGHBOUR: 'it returns false'. Refute it at one input. -/
def syntaxTypesWrong : ChangeSpec := { name := "syntaxTypes", fn := fun _ => fun
  | [d] => { results := [.lit (.bool false)], args := [d] }
  | _ => none }
def SyntaxTypesWrongFalsely : Prop := syntaxTypesRow.holds Tryz.pinned (OpenSpec.ofChange syntaxTypesWrong)

/-- 'blindfoldlaw16.SyntaxBlanks': WHATEVER THE INPUT: true; the input reads as it did. -/
def syntaxBlanksSpec : ChangeSpec := { name := "syntaxBlanks", fn := fun _ => fun
  | [d] => { results := [.lit (.bool true)], args := [d] }
  | _ => none }
def syntaxBlanksRow : OpenClaim := { program := "ytbochlbgjnmgjaagreat", sum := "242b585ae2ea298029833fcd39ab4c2464469ecbfd7220d66278afbd5a23abc9", func := "blindfold/blindfoldlaw16.SyntaxBlanks", spec := "syntaxBlanks", inPlace := ["internal/bytealg.IndexByteString", "internal/bytealg.IndexString", "internal/abi.NoEscape"], unfollowed := true, recurses := true, named := ["internal/bytealg.MaxLen"], apart := false }
def SyntaxBlanksSaid : Prop := syntaxBlanksRow.holds Tryz.pinned (OpenSpec.ofChange syntaxBlanksSpec)

/-- ITS FALSE NEIGHBOUR: 'it returns false'. Refute it at one input. -/
def syntaxBlanksWrong : ChangeSpec := { name := "syntaxBlanks", fn := fun _ => fun
  | [d] => { results := [.lit (.bool false)], args := [d] }
  | _ => none }
def SyntaxBlanksWrongFalsely : Prop := syntaxBlanksRow.holds Tryz.pinned (OpenSpec.ofChange syntaxBlanksWrong)

/-- 'blindfoldlaw17.UnparseFormats': WHATEVER THE INPUT: true; the input reads as it did. -/
def unparseFormatsSpec : ChangeSpec := { name := "unparseFormats", fn := fun _ => fun
  | [d] => { results := [.lit (.bool true)], args := [d] }
  | _ => none }
def unparseFormatsRow : OpenClaim := { program := "ytbochlbgjnmgjaagreat", sum := "242b585ae2ea298029833fcd39ab4c2464469ecbfd7220d66278afbd5a23abc9", func := "blindfold/blindfoldlaw17.UnparseFormats", spec := "unparseFormats", inPlace := ["internal/bytealg.abigen_runtime_cmpstring", "internal/abi.NoEscape"], unfollowed := true, recurses := true, loops := true, apart := false }
def UnparseFormatsSaid : Prop := unparseFormatsRow.holds Tryz.pinned (OpenSpec.ofChange unparseFormatsSpec)

/-- ITS FALSE NEIGHBOUR: 'it returns false'. Refute it at one input. -/
def unparseFormatsWrong : ChangeSpec := { name := "unparseFormats", fn := fun _ => fun
  | [d] => { results := [.lit (.bool false)], args := [d] }
  | _ => none }
def UnparseFormatsWrongFalsely : Prop := unparseFormatsRow.holds Tryz.pinned (OpenSpec.ofChange unparseFormatsWrong)

/-- 'blindfoldlaw17.UnparseStrips': WHATEVER THE INPUT: true; the input reads as it did. -/
def unparseStripsSpec : ChangeSpec := { name := "unparseStrips", fn := fun _ => fun
  | [d1, d2] => { results := [.lit (.bool true)], args := [d1, d2] }
  | _ => none }
def unparseStripsRow : OpenClaim := { program := "ytbochlbgjnmgjaagreat", sum := "242b585ae2ea298029833fcd39ab4c2464469ecbfd7220d66278afbd5a23abc9", func := "blindfold/blindfoldlaw17.UnparseStrips", spec := "unparseStrips", inPlace := ["internal/bytealg.abigen_runtime_cmpstring", "internal/abi.NoEscape"], unfollowed := true, recurses := true, loops := true, apart := false }
def UnparseStripsSaid : Prop := unparseStripsRow.holds Tryz.pinned (OpenSpec.ofChange unparseStripsSpec)

/-- ITS FALSE NEIGHBOUR: 'it returns false'. Refute it at one input. -/
def unparseStripsWrong : ChangeSpec := { name := "unparseStrips", fn := fun _ => fun
  | [d1, d2] => { results := [.lit (.bool false)], args := [d1, d2] }
  | _ => none }
def UnparseStripsWrongFalsely : Prop := unparseStripsRow.holds Tryz.pinned (OpenSpec.ofChange unparseStripsWrong)

/-- 'blindfoldlaw17.UnparseBack': WHATEVER THE INPUT: true; the input reads as it did. -/
def unparseBackSpec : ChangeSpec := { name := "unparseBack", fn := fun _ => fun
  | [d1, d2] => { results := [.lit (.bool true)], args := [d1, d2] }
  | _ => none }
def unparseBackRow : OpenClaim := { program := "ytbochlbgjnmgjaagreat", sum := "242b585ae2ea298029833fcd39ab4c2464469ecbfd7220d66278afbd5a23abc9", func := "blindfold/blindfoldlaw17.UnparseBack", spec := "unparseBack", inPlace := ["internal/bytealg.abigen_runtime_cmpstring", "internal/abi.NoEscape", "internal/bytealg.IndexByteString", "internal/bytealg.IndexString"], unfollowed := true, recurses := true, named := ["internal/bytealg.MaxLen"], loops := true, apart := false }
def UnparseBackSaid : Prop := unparseBackRow.holds Tryz.pinned (OpenSpec.ofChange unparseBackSpec)

/-- ITS FALSE NEIGHBOUR: 'it returns false'. Refute it at one input. -/
def unparseBackWrong : ChangeSpec := { name := "unparseBack", fn := fun _ => fun
  | [d1, d2] => { results := [.lit (.bool false)], args := [d1, d2] }
  | _ => none }
def UnparseBackWrongFalsely : Prop := unparseBackRow.holds Tryz.pinned (OpenSpec.ofChange unparseBackWrong)

/- THE SECOND FORM. 'bulk': how many values and letters a reading holds, each counted each time it is reached (what is shared counts as often as it is met; a slice's spare places count too). A statement '..UptoSaid' is the law's where the arguments, and the package variables that the reading takes, are together of bulk at most 1048576: NARROWER than '..Said'. Prove '..Said' where nothing that the law and all that it calls make is longer than what came in: it says more and counts as full. Else prove '..UptoSaid'. A law counts once. -/
mutual
def uptoBulk {H : Type} : DataW H → Nat
  | .lit (.string bytes) => bytes.length + 1
  | .lit _ => 1
  | .nil => 1
  | .ptr d => uptoBulk d + 1
  | .slice elems spare => uptoBulkAll elems + uptoBulkAll spare + 1
  | .agg parts => uptoBulkAll parts + 1
  | .iface _ d => uptoBulk d + 1
  | .map entries => uptoBulkEntries entries + 1
  | .held _ => 1
def uptoBulkAll {H : Type} : List (DataW H) → Nat
  | [] => 0
  | d :: r => uptoBulk d + uptoBulkAll r
def uptoBulkEntries {H : Type} : List (Lit × DataW H) → Nat
  | [] => 0
  | x :: r => uptoBulkEntry x + uptoBulkEntries r
def uptoBulkEntry {H : Type} : Lit × DataW H → Nat
  | (.string bytes, d) => bytes.length + uptoBulk d + 1
  | (_, d) => uptoBulk d + 1
 end
def uptoSmall : (H : Type) → List (DataW H) → Bool := fun _ ds => decide (uptoBulkAll ds ≤ 1048576)
def OpenSpec.upto (s : _root_.Go.ChangeSpec) : _root_.Go.OpenSpec := { _root_.Go.OpenSpec.ofChange s with cond := some uptoSmall }

/-- 'blindfoldlaw16.SyntaxParses', WHERE WHAT IT READS IS OF BULK AT MOST 1048576: true; the input reads as it did. -/
def syntaxParsesUptoRow : OpenClaim := { program := "ytbochlbgjnmgjaagreat", sum := "242b585ae2ea298029833fcd39ab4c2464469ecbfd7220d66278afbd5a23abc9", func := "blindfold/blindfoldlaw16.SyntaxParses", spec := "syntaxParses", inPlace := ["internal/bytealg.IndexByteString", "internal/bytealg.IndexString", "internal/abi.NoEscape"], unfollowed := true, recurses := true, named := ["internal/bytealg.MaxLen"], apart := false, narrowed := true }
def SyntaxParsesUptoSaid : Prop := syntaxParsesUptoRow.holds Tryz.pinned (OpenSpec.upto syntaxParsesSpec)

/-- 'blindfoldlaw16.SyntaxTypes', WHERE WHAT IT READS IS OF BULK AT MOST 1048576: true; the input reads as it did. -/
def syntaxTypesUptoRow : OpenClaim := { program := "ytbochlbgjnmgjaagreat", sum := "242b585ae2ea298029833fcd39ab4c2464469ecbfd7220d66278afbd5a23abc9", func := "blindfold/blindfoldlaw16.SyntaxTypes", spec := "syntaxTypes", inPlace := ["internal/bytealg.IndexByteString", "internal/bytealg.IndexString", "internal/abi.NoEscape"], unfollowed := true, recurses := true, named := ["internal/bytealg.MaxLen"], apart := false, narrowed := true }
def SyntaxTypesUptoSaid : Prop := syntaxTypesUptoRow.holds Tryz.pinned (OpenSpec.upto syntaxTypesSpec)

/-- 'blindfoldlaw16.SyntaxBlanks', WHERE WHAT IT READS IS OF BULK AT MOST 1048576: true; the input reads as it did. -/
def syntaxBlanksUptoRow : OpenClaim := { program := "ytbochlbgjnmgjaagreat", sum := "242b585ae2ea298029833fcd39ab4c2464469ecbfd7220d66278afbd5a23abc9", func := "blindfold/blindfoldlaw16.SyntaxBlanks", spec := "syntaxBlanks", inPlace := ["internal/bytealg.IndexByteString", "internal/bytealg.IndexString", "internal/abi.NoEscape"], unfollowed := true, recurses := true, named := ["internal/bytealg.MaxLen"], apart := false, narrowed := true }
def SyntaxBlanksUptoSaid : Prop := syntaxBlanksUptoRow.holds Tryz.pinned (OpenSpec.upto syntaxBlanksSpec)

/-- 'blindfoldlaw17.UnparseFormats', WHERE WHAT IT READS IS OF BULK AT MOST 1048576: true; the input reads as it did. -/
def unparseFormatsUptoRow : OpenClaim := { program := "ytbochlbgjnmgjaagreat", sum := "242b585ae2ea298029833fcd39ab4c2464469ecbfd7220d66278afbd5a23abc9", func := "blindfold/blindfoldlaw17.UnparseFormats", spec := "unparseFormats", inPlace := ["internal/bytealg.abigen_runtime_cmpstring", "internal/abi.NoEscape"], unfollowed := true, recurses := true, loops := true, apart := false, narrowed := true }
def UnparseFormatsUptoSaid : Prop := unparseFormatsUptoRow.holds Tryz.pinned (OpenSpec.upto unparseFormatsSpec)

/-- 'blindfoldlaw17.UnparseStrips', WHERE WHAT IT READS IS OF BULK AT MOST 1048576: true; the input reads as it did. -/
def unparseStripsUptoRow : OpenClaim := { program := "ytbochlbgjnmgjaagreat", sum := "242b585ae2ea298029833fcd39ab4c2464469ecbfd7220d66278afbd5a23abc9", func := "blindfold/blindfoldlaw17.UnparseStrips", spec := "unparseStrips", inPlace := ["internal/bytealg.abigen_runtime_cmpstring", "internal/abi.NoEscape"], unfollowed := true, recurses := true, loops := true, apart := false, narrowed := true }
def UnparseStripsUptoSaid : Prop := unparseStripsUptoRow.holds Tryz.pinned (OpenSpec.upto unparseStripsSpec)

/-- 'blindfoldlaw17.UnparseBack', WHERE WHAT IT READS IS OF BULK AT MOST 1048576: true; the input reads as it did. -/
def unparseBackUptoRow : OpenClaim := { program := "ytbochlbgjnmgjaagreat", sum := "242b585ae2ea298029833fcd39ab4c2464469ecbfd7220d66278afbd5a23abc9", func := "blindfold/blindfoldlaw17.UnparseBack", spec := "unparseBack", inPlace := ["internal/bytealg.abigen_runtime_cmpstring", "internal/abi.NoEscape", "internal/bytealg.IndexByteString", "internal/bytealg.IndexString"], unfollowed := true, recurses := true, named := ["internal/bytealg.MaxLen"], loops := true, apart := false, narrowed := true }
def UnparseBackUptoSaid : Prop := unparseBackUptoRow.holds Tryz.pinned (OpenSpec.upto unparseBackSpec)

end Rows
end Go.Proofs.YtbochlbgjnmgjaaGreat
