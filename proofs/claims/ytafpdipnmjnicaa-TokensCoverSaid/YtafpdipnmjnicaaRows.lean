/-
  No cell of these rows narrows 'for every input' (looked for: loops, veiled, ifaces, maps, wideKeys, modest, calm, conditions, laid).
  DERIVED. THE GIVEN ROWS OF THIS SEAT. 3 by the template 'for every input the law returns true; each argument reads behind the call as it read before'; 0 by the template 'total and deterministic' (their statements: YtafpdipnmjnicaaTotals.lean).
  GIVEN WITH THE SEED: the statements are not yours to turn. If you find one false, say at which input.
  Laid BY PROGRAM, IN A SANDBOX (cutbox-rows.mjs): the forced cells as the released guide's own fill.sh prints them over the translation c20e507bb6f193d2… (all of the seat's roots in one cut). By AI agents, Wed Nov 11 2026. No macro, syntax, notation, axiom, sorry.
-/
import Derived.Test.YtafpdipnmjnicaaChecked
import GoSem.Claim
import GoSem.ClaimJoined
import GoSem.ClaimMapViews
import Derived.JoinedTies
import Derived.KernelRfl
namespace Go.Proofs.Ytafpdipnmjnicaa
/- THE CELL 'sum', in the pinned program and in every row, IS THE sha256 OF THE DUMP (.gsa) THAT YtafpdipnmjnicaaProg.lean LOADS. Nothing in Lean hashes anything: it is a label: what it is worth is what the hold of that sum in a sandbox is worth. -/
noncomputable def Try.pinned : Pinned := { name := "ytafpdipnmjnicaa", sum := "c20e507bb6f193d2e35b6900fd8963228f6daebf13d2098671ed5e0a910fd19f", checked := Try.checked }
namespace Rows
def none {H : Type} : Left H := { results := [], args := [] }

/-- 'blindfoldlaw13.TokensScans': WHATEVER THE INPUT: true; the input reads as it did. -/
def tokensScansSpec : ChangeSpec := { name := "tokensScans", fn := fun _ => fun
  | [d] => { results := [.lit (.bool true)], args := [d] }
  | _ => none }
def tokensScansRow : OpenClaim := { program := "ytafpdipnmjnicaa", sum := "c20e507bb6f193d2e35b6900fd8963228f6daebf13d2098671ed5e0a910fd19f", func := "blindfold/blindfoldlaw13.TokensScans", spec := "tokensScans", inPlace := ["internal/bytealg.IndexByteString", "internal/bytealg.IndexString", "internal/abi.NoEscape"], unfollowed := true, recurses := true, named := ["internal/bytealg.MaxLen"], apart := false }
def TokensScansSaid : Prop := tokensScansRow.holds Try.pinned (OpenSpec.ofChange tokensScansSpec)

/-- ITS FALSE NEIGHBOUR: 'it returns false'. Refute it at one input. -/
def tokensScansWrong : ChangeSpec := { name := "tokensScans", fn := fun _ => fun
  | [d] => { results := [.lit (.bool false)], args := [d] }
  | _ => none }
def TokensScansWrongFalsely : Prop := tokensScansRow.holds Try.pinned (OpenSpec.ofChange tokensScansWrong)

/-- 'blindfoldlaw13.TokensMarks': WHATEVER THE INPUT: true; the input reads as it did. -/
def tokensMarksSpec : ChangeSpec := { name := "tokensMarks", fn := fun _ => fun
  | [d1, d2, d3] => { results := [.lit (.bool true)], args := [d1, d2, d3] }
  | _ => none }
def tokensMarksRow : OpenClaim := { program := "ytafpdipnmjnicaa", sum := "c20e507bb6f193d2e35b6900fd8963228f6daebf13d2098671ed5e0a910fd19f", func := "blindfold/blindfoldlaw13.TokensMarks", spec := "tokensMarks", inPlace := ["internal/bytealg.IndexByteString", "internal/bytealg.IndexString", "internal/abi.NoEscape"], unfollowed := true, recurses := true, named := ["internal/bytealg.MaxLen"], apart := false }
def TokensMarksSaid : Prop := tokensMarksRow.holds Try.pinned (OpenSpec.ofChange tokensMarksSpec)

/-- ITS FALSE NEIGHBOUR: 'it returns false'. Refute it at one input. -/
def tokensMarksWrong : ChangeSpec := { name := "tokensMarks", fn := fun _ => fun
  | [d1, d2, d3] => { results := [.lit (.bool false)], args := [d1, d2, d3] }
  | _ => none }
def TokensMarksWrongFalsely : Prop := tokensMarksRow.holds Try.pinned (OpenSpec.ofChange tokensMarksWrong)

/-- 'blindfoldlaw13.TokensCover': WHATEVER THE INPUT: true; the input reads as it did. -/
def tokensCoverSpec : ChangeSpec := { name := "tokensCover", fn := fun _ => fun
  | [d] => { results := [.lit (.bool true)], args := [d] }
  | _ => none }
def tokensCoverRow : OpenClaim := { program := "ytafpdipnmjnicaa", sum := "c20e507bb6f193d2e35b6900fd8963228f6daebf13d2098671ed5e0a910fd19f", func := "blindfold/blindfoldlaw13.TokensCover", spec := "tokensCover", inPlace := ["internal/bytealg.IndexByteString", "internal/bytealg.IndexString", "internal/abi.NoEscape"], unfollowed := true, recurses := true, named := ["internal/bytealg.MaxLen"], apart := false }
def TokensCoverSaid : Prop := tokensCoverRow.holds Try.pinned (OpenSpec.ofChange tokensCoverSpec)

/-- ITS FALSE NEIGHBOUR: 'it returns false'. Refute it at one input. -/
def tokensCoverWrong : ChangeSpec := { name := "tokensCover", fn := fun _ => fun
  | [d] => { results := [.lit (.bool false)], args := [d] }
  | _ => none }
def TokensCoverWrongFalsely : Prop := tokensCoverRow.holds Try.pinned (OpenSpec.ofChange tokensCoverWrong)

/- THE SECOND FORM. 'bulk': how many values and letters a reading holds, each counted each time it is reached (what is shared counts as often as it is met; a slice's spare places count too). A statement '..UptoSaid' is the law's where the arguments, and the package variables that the reading takes, are together of bulk at most 1048576: NARROWER than '..Said'. Prove '..Said' where nothing that the law and all that it calls make is longer than what came in: it says more and counts as full. Else prove '..UptoSaid'. A law counts once. -/
mutual
def uptoBulk {H : Type} : DataW H → Nat
  | .lit (.string bytes) => bytes.length + 1
  | .lit _ => 1
  | .nil => 1
  | .ptr d => uptoBulk d + 1
  | .slice elems spare => uptoBulkAll elems + uptoBulkAll spare + 1
  | .agg parts => uptoBulkAll parts + 1
  | .iface _ d => uptoBulk d + 1
  | .map entries => uptoBulkEntries entries + 1
  | .held _ => 1
def uptoBulkAll {H : Type} : List (DataW H) → Nat
  | [] => 0
  | d :: r => uptoBulk d + uptoBulkAll r
def uptoBulkEntries {H : Type} : List (Lit × DataW H) → Nat
  | [] => 0
  | x :: r => uptoBulkEntry x + uptoBulkEntries r
def uptoBulkEntry {H : Type} : Lit × DataW H → Nat
  | (.string bytes, d) => bytes.length + uptoBulk d + 1
  | (_, d) => uptoBulk d + 1
 end
def uptoSmall : (H : Type) → List (DataW H) → Bool := fun _ ds => decide (uptoBulkAll ds ≤ 1048576)
def OpenSpec.upto (s : _root_.Go.ChangeSpec) : _root_.Go.OpenSpec := { _root_.Go.OpenSpec.ofChange s with cond := some uptoSmall }

/-- 'blindfoldlaw13.TokensScans', WHERE WHAT IT READS IS OF BULK AT MOST 1048576: true; the input reads as it did. -/
def tokensScansUptoRow : OpenClaim := { program := "ytafpdipnmjnicaa", sum := "c20e507bb6f193d2e35b6900fd8963228f6daebf13d2098671ed5e0a910fd19f", func := "blindfold/blindfoldlaw13.TokensScans", spec := "tokensScans", inPlace := ["internal/bytealg.IndexByteString", "internal/bytealg.IndexString", "internal/abi.NoEscape"], unfollowed := true, recurses := true, named := ["internal/bytealg.MaxLen"], apart := false, narrowed := true }
def TokensScansUptoSaid : Prop := tokensScansUptoRow.holds Try.pinned (OpenSpec.upto tokensScansSpec)

/-- 'blindfoldlaw13.TokensMarks', WHERE WHAT IT READS IS OF BULK AT MOST 1048576: true; the input reads as it did. -/
def tokensMarksUptoRow : OpenClaim := { program := "ytafpdipnmjnicaa", sum := "c20e507bb6f193d2e35b6900fd8963228f6daebf13d2098671ed5e0a910fd19f", func := "blindfold/blindfoldlaw13.TokensMarks", spec := "tokensMarks", inPlace := ["internal/bytealg.IndexByteString", "internal/bytealg.IndexString", "internal/abi.NoEscape"], unfollowed := true, recurses := true, named := ["internal/bytealg.MaxLen"], apart := false, narrowed := true }
def TokensMarksUptoSaid : Prop := tokensMarksUptoRow.holds Try.pinned (OpenSpec.upto tokensMarksSpec)

/-- 'blindfoldlaw13.TokensCover', WHERE WHAT IT READS IS OF BULK AT MOST 1048576: true; the input reads as it did. -/
def tokensCoverUptoRow : OpenClaim := { program := "ytafpdipnmjnicaa", sum := "c20e507bb6f193d2e35b6900fd8963228f6daebf13d2098671ed5e0a910fd19f", func := "blindfold/blindfoldlaw13.TokensCover", spec := "tokensCover", inPlace := ["internal/bytealg.IndexByteString", "internal/bytealg.IndexString", "internal/abi.NoEscape"], unfollowed := true, recurses := true, named := ["internal/bytealg.MaxLen"], apart := false, narrowed := true }
def TokensCoverUptoSaid : Prop := tokensCoverUptoRow.holds Try.pinned (OpenSpec.upto tokensCoverSpec)

end Rows
end Go.Proofs.Ytafpdipnmjnicaa
