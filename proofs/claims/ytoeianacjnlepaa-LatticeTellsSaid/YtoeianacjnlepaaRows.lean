/-
  No cell of these rows narrows 'for every input' (looked for: loops, veiled, ifaces, maps, wideKeys, modest, calm, conditions, laid).
  DERIVED. THE GIVEN ROWS OF THIS SEAT. 4 by the template 'for every input the law returns true; each argument reads behind the call as it read before'; 0 by the template 'total and deterministic' (their statements: YtoeianacjnlepaaTotals.lean).
  GIVEN WITH THE SEED: the statements are not yours to turn. If you find one false, say at which input.
  Laid BY PROGRAM, IN A SANDBOX (cutbox-rows.mjs): the forced cells as the released guide's own fill.sh prints them over the translation 5474400cd87b5be7… (all of the seat's roots in one cut). By AI agents, Wed Nov 11 2026. No macro, syntax, notation, axiom, sorry.
-/
import Derived.Test.YtoeianacjnlepaaChecked
import GoSem.Claim
import GoSem.ClaimJoined
import GoSem.ClaimMapViews
import Derived.JoinedTies
import Derived.KernelRfl
namespace Go.Proofs.Ytoeianacjnlepaa
/- THE CELL 'sum', in the pinned program and in every row, IS THE sha256 OF THE DUMP (.gsa) THAT YtoeianacjnlepaaProg.lean LOADS. Nothing in Lean hashes anything: it is a label: what it is worth is what the hold of that sum in a sandbox is worth. -/
noncomputable def Try.pinned : Pinned := { name := "ytoeianacjnlepaa", sum := "5474400cd87b5be7dd6ea3268fef14466bc925f599cdcf9f8a4086508cd3f79a", checked := Try.checked }
namespace Rows
def none {H : Type} : Left H := { results := [], args := [] }

/-- 'blindfoldlaw11.LatticeBuilds': WHATEVER THE INPUT: true; the input reads as it did. -/
def latticeBuildsSpec : ChangeSpec := { name := "latticeBuilds", fn := fun _ => fun
  | [d1, d2] => { results := [.lit (.bool true)], args := [d1, d2] }
  | _ => none }
def latticeBuildsRow : OpenClaim := { program := "ytoeianacjnlepaa", sum := "5474400cd87b5be7dd6ea3268fef14466bc925f599cdcf9f8a4086508cd3f79a", func := "blindfold/blindfoldlaw11.LatticeBuilds", spec := "latticeBuilds", inPlace := ["internal/bytealg.abigen_runtime_cmpstring"], unfollowed := true, recurses := true, apart := false }
def LatticeBuildsSaid : Prop := latticeBuildsRow.holds Try.pinned (OpenSpec.ofChange latticeBuildsSpec)

/-- ITS FALSE NEIGHBOUR: 'it returns false'. Refute it at one input. -/
def latticeBuildsWrong : ChangeSpec := { name := "latticeBuilds", fn := fun _ => fun
  | [d1, d2] => { results := [.lit (.bool false)], args := [d1, d2] }
  | _ => none }
def LatticeBuildsWrongFalsely : Prop := latticeBuildsRow.holds Try.pinned (OpenSpec.ofChange latticeBuildsWrong)

/-- 'blindfoldlaw11.LatticeTells': WHATEVER THE INPUT: true; the input reads as it did. -/
def latticeTellsSpec : ChangeSpec := { name := "latticeTells", fn := fun _ => fun
  | [d1, d2, d3] => { results := [.lit (.bool true)], args := [d1, d2, d3] }
  | _ => none }
def latticeTellsRow : OpenClaim := { program := "ytoeianacjnlepaa", sum := "5474400cd87b5be7dd6ea3268fef14466bc925f599cdcf9f8a4086508cd3f79a", func := "blindfold/blindfoldlaw11.LatticeTells", spec := "latticeTells", inPlace := ["internal/bytealg.abigen_runtime_cmpstring"], unfollowed := true, recurses := true, apart := false }
def LatticeTellsSaid : Prop := latticeTellsRow.holds Try.pinned (OpenSpec.ofChange latticeTellsSpec)

/-- ITS FALSE NEIGHBOUR: 'it returns false'. Refute it at one input. -/
def latticeTellsWrong : ChangeSpec := { name := "latticeTells", fn := fun _ => fun
  | [d1, d2, d3] => { results := [.lit (.bool false)], args := [d1, d2, d3] }
  | _ => none }
def LatticeTellsWrongFalsely : Prop := latticeTellsRow.holds Try.pinned (OpenSpec.ofChange latticeTellsWrong)

/-- 'blindfoldlaw11.LatticeNone': WHATEVER THE INPUT: true; the input reads as it did. -/
def latticeNoneSpec : ChangeSpec := { name := "latticeNone", fn := fun _ => fun
  | [d1, d2, d3] => { results := [.lit (.bool true)], args := [d1, d2, d3] }
  | _ => none }
def latticeNoneRow : OpenClaim := { program := "ytoeianacjnlepaa", sum := "5474400cd87b5be7dd6ea3268fef14466bc925f599cdcf9f8a4086508cd3f79a", func := "blindfold/blindfoldlaw11.LatticeNone", spec := "latticeNone", inPlace := ["internal/bytealg.abigen_runtime_cmpstring"], unfollowed := true, recurses := true, apart := false }
def LatticeNoneSaid : Prop := latticeNoneRow.holds Try.pinned (OpenSpec.ofChange latticeNoneSpec)

/-- ITS FALSE NEIGHBOUR: 'it returns false'. Refute it at one input. -/
def latticeNoneWrong : ChangeSpec := { name := "latticeNone", fn := fun _ => fun
  | [d1, d2, d3] => { results := [.lit (.bool false)], args := [d1, d2, d3] }
  | _ => none }
def LatticeNoneWrongFalsely : Prop := latticeNoneRow.holds Try.pinned (OpenSpec.ofChange latticeNoneWrong)

/-- 'blindfoldlaw11.LatticeUndoes': WHATEVER THE INPUT: true; the input reads as it did. -/
def latticeUndoesSpec : ChangeSpec := { name := "latticeUndoes", fn := fun _ => fun
  | [d1, d2, d3] => { results := [.lit (.bool true)], args := [d1, d2, d3] }
  | _ => none }
def latticeUndoesRow : OpenClaim := { program := "ytoeianacjnlepaa", sum := "5474400cd87b5be7dd6ea3268fef14466bc925f599cdcf9f8a4086508cd3f79a", func := "blindfold/blindfoldlaw11.LatticeUndoes", spec := "latticeUndoes", inPlace := ["internal/bytealg.abigen_runtime_cmpstring"], unfollowed := true, recurses := true, apart := false }
def LatticeUndoesSaid : Prop := latticeUndoesRow.holds Try.pinned (OpenSpec.ofChange latticeUndoesSpec)

/-- ITS FALSE NEIGHBOUR: 'it returns false'. Refute it at one input. -/
def latticeUndoesWrong : ChangeSpec := { name := "latticeUndoes", fn := fun _ => fun
  | [d1, d2, d3] => { results := [.lit (.bool false)], args := [d1, d2, d3] }
  | _ => none }
def LatticeUndoesWrongFalsely : Prop := latticeUndoesRow.holds Try.pinned (OpenSpec.ofChange latticeUndoesWrong)

/- THE SECOND FORM. 'bulk': how many values and letters a reading holds, each counted each time it is reached (what is shared counts as often as it is met; a slice's spare places count too). A statement '..UptoSaid' is the law's where the arguments, and the package variables that the reading takes, are together of bulk at most 1048576: NARROWER than '..Said'. Prove '..Said' where nothing that the law and all that it calls make is longer than what came in: it says more and counts as full. Else prove '..UptoSaid'. A law counts once. -/
mutual
def uptoBulk {H : Type} : DataW H → Nat
  | .lit (.string bytes) => bytes.length + 1
  | .lit _ => 1
  | .nil => 1
  | .ptr d => uptoBulk d + 1
  | .slice elems spare => uptoBulkAll elems + uptoBulkAll spare + 1
  | .agg parts => uptoBulkAll parts + 1
  | .iface _ d => uptoBulk d + 1
  | .map entries => uptoBulkEntries entries + 1
  | .held _ => 1
def uptoBulkAll {H : Type} : List (DataW H) → Nat
  | [] => 0
  | d :: r => uptoBulk d + uptoBulkAll r
def uptoBulkEntries {H : Type} : List (Lit × DataW H) → Nat
  | [] => 0
  | x :: r => uptoBulkEntry x + uptoBulkEntries r
def uptoBulkEntry {H : Type} : Lit × DataW H → Nat
  | (.string bytes, d) => bytes.length + uptoBulk d + 1
  | (_, d) => uptoBulk d + 1
 end
def uptoSmall : (H : Type) → List (DataW H) → Bool := fun _ ds => decide (uptoBulkAll ds ≤ 1048576)
def OpenSpec.upto (s : _root_.Go.ChangeSpec) : _root_.Go.OpenSpec := { _root_.Go.OpenSpec.ofChange s with cond := some uptoSmall }

/-- 'blindfoldlaw11.LatticeBuilds', WHERE WHAT IT READS IS OF BULK AT MOST 1048576: true; the input reads as it did. -/
def latticeBuildsUptoRow : OpenClaim := { program := "ytoeianacjnlepaa", sum := "5474400cd87b5be7dd6ea3268fef14466bc925f599cdcf9f8a4086508cd3f79a", func := "blindfold/blindfoldlaw11.LatticeBuilds", spec := "latticeBuilds", inPlace := ["internal/bytealg.abigen_runtime_cmpstring"], unfollowed := true, recurses := true, apart := false, narrowed := true }
def LatticeBuildsUptoSaid : Prop := latticeBuildsUptoRow.holds Try.pinned (OpenSpec.upto latticeBuildsSpec)

/-- 'blindfoldlaw11.LatticeTells', WHERE WHAT IT READS IS OF BULK AT MOST 1048576: true; the input reads as it did. -/
def latticeTellsUptoRow : OpenClaim := { program := "ytoeianacjnlepaa", sum := "5474400cd87b5be7dd6ea3268fef14466bc925f599cdcf9f8a4086508cd3f79a", func := "blindfold/blindfoldlaw11.LatticeTells", spec := "latticeTells", inPlace := ["internal/bytealg.abigen_runtime_cmpstring"], unfollowed := true, recurses := true, apart := false, narrowed := true }
def LatticeTellsUptoSaid : Prop := latticeTellsUptoRow.holds Try.pinned (OpenSpec.upto latticeTellsSpec)

/-- 'blindfoldlaw11.LatticeNone', WHERE WHAT IT READS IS OF BULK AT MOST 1048576: true; the input reads as it did. -/
def latticeNoneUptoRow : OpenClaim := { program := "ytoeianacjnlepaa", sum := "5474400cd87b5be7dd6ea3268fef14466bc925f599cdcf9f8a4086508cd3f79a", func := "blindfold/blindfoldlaw11.LatticeNone", spec := "latticeNone", inPlace := ["internal/bytealg.abigen_runtime_cmpstring"], unfollowed := true, recurses := true, apart := false, narrowed := true }
def LatticeNoneUptoSaid : Prop := latticeNoneUptoRow.holds Try.pinned (OpenSpec.upto latticeNoneSpec)

/-- 'blindfoldlaw11.LatticeUndoes', WHERE WHAT IT READS IS OF BULK AT MOST 1048576: true; the input reads as it did. -/
def latticeUndoesUptoRow : OpenClaim := { program := "ytoeianacjnlepaa", sum := "5474400cd87b5be7dd6ea3268fef14466bc925f599cdcf9f8a4086508cd3f79a", func := "blindfold/blindfoldlaw11.LatticeUndoes", spec := "latticeUndoes", inPlace := ["internal/bytealg.abigen_runtime_cmpstring"], unfollowed := true, recurses := true, apart := false, narrowed := true }
def LatticeUndoesUptoSaid : Prop := latticeUndoesUptoRow.holds Try.pinned (OpenSpec.upto latticeUndoesSpec)

end Rows
end Go.Proofs.Ytoeianacjnlepaa
