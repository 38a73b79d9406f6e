/-
  No cell of these rows narrows 'for every input' (looked for: loops, veiled, ifaces, maps, wideKeys, modest, calm, conditions, laid).
  DERIVED. THE GIVEN ROWS OF THIS SEAT. 4 by the template 'for every input the law returns true; each argument reads behind the call as it read before'; 0 by the template 'total and deterministic' (their statements: YtlijjbcamkhhaaaTotals.lean).
  GIVEN WITH THE SEED: the statements are not yours to turn. If you find one false, say at which input.
  Laid BY PROGRAM, IN A SANDBOX (cutbox-rows.mjs): the forced cells as the released guide's own fill.sh prints them over the translation 16e9e35f48ce9142… (all of the seat's roots in one cut). By AI agents, Wed Nov 11 2026. No macro, syntax, notation, axiom, sorry.
-/
import Derived.Test.YtlijjbcamkhhaaaChecked
import GoSem.Claim
import GoSem.ClaimJoined
import GoSem.ClaimMapViews
import Derived.JoinedTies
import Derived.KernelRfl
namespace Go.Proofs.Ytlijjbcamkhhaaa
/- THE CELL 'sum', in the pinned program and in every row, IS THE sha256 OF THE DUMP (.gsa) THAT YtlijjbcamkhhaaaProg.lean LOADS. Nothing in Lean hashes anything: it is a label: what it is worth is what the hold of that sum in a sandbox is worth. -/
noncomputable def Try.pinned : Pinned := { name := "ytlijjbcamkhhaaa", sum := "16e9e35f48ce9142149ff87abfbd9e4ce2f5dc6af6f36016a8134bcd72c09c67", checked := Try.checked }
namespace Rows
def none {H : Type} : Left H := { results := [], args := [] }

/-- 'blindfoldlaw12.LabelsJoin': WHATEVER THE INPUT: true; the input reads as it did. -/
def labelsJoinSpec : ChangeSpec := { name := "labelsJoin", fn := fun _ => fun
  | [d1, d2, d3] => { results := [.lit (.bool true)], args := [d1, d2, d3] }
  | _ => none }
def labelsJoinRow : OpenClaim := { program := "ytlijjbcamkhhaaa", sum := "16e9e35f48ce9142149ff87abfbd9e4ce2f5dc6af6f36016a8134bcd72c09c67", func := "blindfold/blindfoldlaw12.LabelsJoin", spec := "labelsJoin", inPlace := ["internal/bytealg.abigen_runtime_cmpstring", "internal/abi.NoEscape", "internal/bytealg.MakeNoZero"], unfollowed := true, recurses := true, apart := false }
def LabelsJoinSaid : Prop := labelsJoinRow.holds Try.pinned (OpenSpec.ofChange labelsJoinSpec)

/-- ITS FALSE NEIGHBOUR: 'it returns false'. Refute it at one input. -/
def labelsJoinWrong : ChangeSpec := { name := "labelsJoin", fn := fun _ => fun
  | [d1, d2, d3] => { results := [.lit (.bool false)], args := [d1, d2, d3] }
  | _ => none }
def LabelsJoinWrongFalsely : Prop := labelsJoinRow.holds Try.pinned (OpenSpec.ofChange labelsJoinWrong)

/-- 'blindfoldlaw12.LabelsHighest': WHATEVER THE INPUT: true; the input reads as it did. -/
def labelsHighestSpec : ChangeSpec := { name := "labelsHighest", fn := fun _ => fun
  | [d1, d2, d3] => { results := [.lit (.bool true)], args := [d1, d2, d3] }
  | _ => none }
def labelsHighestRow : OpenClaim := { program := "ytlijjbcamkhhaaa", sum := "16e9e35f48ce9142149ff87abfbd9e4ce2f5dc6af6f36016a8134bcd72c09c67", func := "blindfold/blindfoldlaw12.LabelsHighest", spec := "labelsHighest", inPlace := ["internal/bytealg.abigen_runtime_cmpstring", "internal/abi.NoEscape", "internal/bytealg.MakeNoZero"], unfollowed := true, recurses := true, apart := false }
def LabelsHighestSaid : Prop := labelsHighestRow.holds Try.pinned (OpenSpec.ofChange labelsHighestSpec)

/-- ITS FALSE NEIGHBOUR: 'it returns false'. Refute it at one input. -/
def labelsHighestWrong : ChangeSpec := { name := "labelsHighest", fn := fun _ => fun
  | [d1, d2, d3] => { results := [.lit (.bool false)], args := [d1, d2, d3] }
  | _ => none }
def LabelsHighestWrongFalsely : Prop := labelsHighestRow.holds Try.pinned (OpenSpec.ofChange labelsHighestWrong)

/-- 'blindfoldlaw12.LabelsReads': WHATEVER THE INPUT: true; the input reads as it did. -/
def labelsReadsSpec : ChangeSpec := { name := "labelsReads", fn := fun _ => fun
  | [d1, d2] => { results := [.lit (.bool true)], args := [d1, d2] }
  | _ => none }
def labelsReadsRow : OpenClaim := { program := "ytlijjbcamkhhaaa", sum := "16e9e35f48ce9142149ff87abfbd9e4ce2f5dc6af6f36016a8134bcd72c09c67", func := "blindfold/blindfoldlaw12.LabelsReads", spec := "labelsReads", inPlace := ["internal/bytealg.abigen_runtime_cmpstring", "internal/abi.NoEscape", "internal/bytealg.MakeNoZero"], unfollowed := true, recurses := true, apart := false }
def LabelsReadsSaid : Prop := labelsReadsRow.holds Try.pinned (OpenSpec.ofChange labelsReadsSpec)

/-- ITS FALSE NEIGHBOUR: 'it returns false'. Refute it at one input. -/
def labelsReadsWrong : ChangeSpec := { name := "labelsReads", fn := fun _ => fun
  | [d1, d2] => { results := [.lit (.bool false)], args := [d1, d2] }
  | _ => none }
def LabelsReadsWrongFalsely : Prop := labelsReadsRow.holds Try.pinned (OpenSpec.ofChange labelsReadsWrong)

/-- 'blindfoldlaw12.LabelsSame': WHATEVER THE INPUT: true; the input reads as it did. -/
def labelsSameSpec : ChangeSpec := { name := "labelsSame", fn := fun _ => fun
  | [d1, d2, d3] => { results := [.lit (.bool true)], args := [d1, d2, d3] }
  | _ => none }
def labelsSameRow : OpenClaim := { program := "ytlijjbcamkhhaaa", sum := "16e9e35f48ce9142149ff87abfbd9e4ce2f5dc6af6f36016a8134bcd72c09c67", func := "blindfold/blindfoldlaw12.LabelsSame", spec := "labelsSame", inPlace := ["internal/bytealg.abigen_runtime_cmpstring", "internal/abi.NoEscape", "internal/bytealg.MakeNoZero"], unfollowed := true, recurses := true, apart := false }
def LabelsSameSaid : Prop := labelsSameRow.holds Try.pinned (OpenSpec.ofChange labelsSameSpec)

/-- ITS FALSE NEIGHBOUR: 'it returns false'. Refute it at one input. -/
def labelsSameWrong : ChangeSpec := { name := "labelsSame", fn := fun _ => fun
  | [d1, d2, d3] => { results := [.lit (.bool false)], args := [d1, d2, d3] }
  | _ => none }
def LabelsSameWrongFalsely : Prop := labelsSameRow.holds Try.pinned (OpenSpec.ofChange labelsSameWrong)

/- THE SECOND FORM. 'bulk': how many values and letters a reading holds, each counted each time it is reached (what is shared counts as often as it is met; a slice's spare places count too). A statement '..UptoSaid' is the law's where the arguments, and the package variables that the reading takes, are together of bulk at most 1048576: NARROWER than '..Said'. Prove '..Said' where nothing that the law and all that it calls make is longer than what came in: it says more and counts as full. Else prove '..UptoSaid'. A law counts once. -/
mutual
def uptoBulk {H : Type} : DataW H → Nat
  | .lit (.string bytes) => bytes.length + 1
  | .lit _ => 1
  | .nil => 1
  | .ptr d => uptoBulk d + 1
  | .slice elems spare => uptoBulkAll elems + uptoBulkAll spare + 1
  | .agg parts => uptoBulkAll parts + 1
  | .iface _ d => uptoBulk d + 1
  | .map entries => uptoBulkEntries entries + 1
  | .held _ => 1
def uptoBulkAll {H : Type} : List (DataW H) → Nat
  | [] => 0
  | d :: r => uptoBulk d + uptoBulkAll r
def uptoBulkEntries {H : Type} : List (Lit × DataW H) → Nat
  | [] => 0
  | x :: r => uptoBulkEntry x + uptoBulkEntries r
def uptoBulkEntry {H : Type} : Lit × DataW H → Nat
  | (.string bytes, d) => bytes.length + uptoBulk d + 1
  | (_, d) => uptoBulk d + 1
 end
def uptoSmall : (H : Type) → List (DataW H) → Bool := fun _ ds => decide (uptoBulkAll ds ≤ 1048576)
def OpenSpec.upto (s : _root_.Go.ChangeSpec) : _root_.Go.OpenSpec := { _root_.Go.OpenSpec.ofChange s with cond := some uptoSmall }

/-- 'blindfoldlaw12.LabelsJoin', WHERE WHAT IT READS IS OF BULK AT MOST 1048576: true; the input reads as it did. -/
def labelsJoinUptoRow : OpenClaim := { program := "ytlijjbcamkhhaaa", sum := "16e9e35f48ce9142149ff87abfbd9e4ce2f5dc6af6f36016a8134bcd72c09c67", func := "blindfold/blindfoldlaw12.LabelsJoin", spec := "labelsJoin", inPlace := ["internal/bytealg.abigen_runtime_cmpstring", "internal/abi.NoEscape", "internal/bytealg.MakeNoZero"], unfollowed := true, recurses := true, apart := false, narrowed := true }
def LabelsJoinUptoSaid : Prop := labelsJoinUptoRow.holds Try.pinned (OpenSpec.upto labelsJoinSpec)

/-- 'blindfoldlaw12.LabelsHighest', WHERE WHAT IT READS IS OF BULK AT MOST 1048576: true; the input reads as it did. -/
def labelsHighestUptoRow : OpenClaim := { program := "ytlijjbcamkhhaaa", sum := "16e9e35f48ce9142149ff87abfbd9e4ce2f5dc6af6f36016a8134bcd72c09c67", func := "blindfold/blindfoldlaw12.LabelsHighest", spec := "labelsHighest", inPlace := ["internal/bytealg.abigen_runtime_cmpstring", "internal/abi.NoEscape", "internal/bytealg.MakeNoZero"], unfollowed := true, recurses := true, apart := false, narrowed := true }
def LabelsHighestUptoSaid : Prop := labelsHighestUptoRow.holds Try.pinned (OpenSpec.upto labelsHighestSpec)

/-- 'blindfoldlaw12.LabelsReads', WHERE WHAT IT READS IS OF BULK AT MOST 1048576: true; the input reads as it did. -/
def labelsReadsUptoRow : OpenClaim := { program := "ytlijjbcamkhhaaa", sum := "16e9e35f48ce9142149ff87abfbd9e4ce2f5dc6af6f36016a8134bcd72c09c67", func := "blindfold/blindfoldlaw12.LabelsReads", spec := "labelsReads", inPlace := ["internal/bytealg.abigen_runtime_cmpstring", "internal/abi.NoEscape", "internal/bytealg.MakeNoZero"], unfollowed := true, recurses := true, apart := false, narrowed := true }
def LabelsReadsUptoSaid : Prop := labelsReadsUptoRow.holds Try.pinned (OpenSpec.upto labelsReadsSpec)

/-- 'blindfoldlaw12.LabelsSame', WHERE WHAT IT READS IS OF BULK AT MOST 1048576: true; the input reads as it did. -/
def labelsSameUptoRow : OpenClaim := { program := "ytlijjbcamkhhaaa", sum := "16e9e35f48ce9142149ff87abfbd9e4ce2f5dc6af6f36016a8134bcd72c09c67", func := "blindfold/blindfoldlaw12.LabelsSame", spec := "labelsSame", inPlace := ["internal/bytealg.abigen_runtime_cmpstring", "internal/abi.NoEscape", "internal/bytealg.MakeNoZero"], unfollowed := true, recurses := true, apart := false, narrowed := true }
def LabelsSameUptoSaid : Prop := labelsSameUptoRow.holds Try.pinned (OpenSpec.upto labelsSameSpec)

end Rows
end Go.Proofs.Ytlijjbcamkhhaaa
