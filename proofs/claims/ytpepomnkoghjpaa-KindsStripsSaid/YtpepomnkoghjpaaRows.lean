/-
  NARROWER THAN 'FOR EVERY INPUT', by the rows' own cells (each row's printed sentence says how): KindsRight: loops · KindsTells: loops · KindsStrips: loops.
  DERIVED. THE GIVEN ROWS OF THIS SEAT. 3 by the template 'for every input the law returns true; each argument reads behind the call as it read before'; 0 by the template 'total and deterministic' (their statements: YtpepomnkoghjpaaTotals.lean).
  GIVEN WITH THE SEED: the statements are not yours to turn. If you find one false, say at which input.
  Laid BY PROGRAM, IN A SANDBOX (cutbox-rows.mjs): the forced cells as the released guide's own fill.sh prints them over the translation 63218365c3004865… (all of the seat's roots in one cut). By AI agents, Wed Nov 11 2026. No macro, syntax, notation, axiom, sorry.
-/
import Derived.Test.YtpepomnkoghjpaaChecked
import GoSem.Claim
import GoSem.ClaimJoined
import GoSem.ClaimMapViews
import Derived.JoinedTies
import Derived.KernelRfl
namespace Go.Proofs.Ytpepomnkoghjpaa
/- THE CELL 'sum', in the pinned program and in every row, IS THE sha256 OF THE DUMP (.gsa) THAT YtpepomnkoghjpaaProg.lean LOADS. Nothing in Lean hashes anything: it is a label: what it is worth is what the hold of that sum in a sandbox is worth. -/
noncomputable def Try.pinned : Pinned := { name := "ytpepomnkoghjpaa", sum := "63218365c30048654fe9316daa502647fdbc65c052a3ebfb15e564d31bd9c490", checked := Try.checked }
namespace Rows
def none {H : Type} : Left H := { results := [], args := [] }

/-- 'blindfoldlaw15.KindsRight': WHATEVER THE INPUT: true; the input reads as it did. -/
def kindsRightSpec : ChangeSpec := { name := "kindsRight", fn := fun _ => fun
  | [d] => { results := [.lit (.bool true)], args := [d] }
  | _ => none }
def kindsRightRow : OpenClaim := { program := "ytpepomnkoghjpaa", sum := "63218365c30048654fe9316daa502647fdbc65c052a3ebfb15e564d31bd9c490", func := "blindfold/blindfoldlaw15.KindsRight", spec := "kindsRight", inPlace := ["internal/bytealg.abigen_runtime_cmpstring"], unfollowed := true, recurses := true, loops := true, apart := false }
def KindsRightSaid : Prop := kindsRightRow.holds Try.pinned (OpenSpec.ofChange kindsRightSpec)

/-- ITS FALSE NEIGHBOUR: 'it returns false'. Refute it at one input. -/
def kindsRightWrong : ChangeSpec := { name := "kindsRight", fn := fun _ => fun
  | [d] => { results := [.lit (.bool false)], args := [d] }
  | _ => none }
def KindsRightWrongFalsely : Prop := kindsRightRow.holds Try.pinned (OpenSpec.ofChange kindsRightWrong)

/-- 'blindfoldlaw15.KindsTells': WHATEVER THE INPUT: true; the input reads as it did. -/
def kindsTellsSpec : ChangeSpec := { name := "kindsTells", fn := fun _ => fun
  | [d1, d2] => { results := [.lit (.bool true)], args := [d1, d2] }
  | _ => none }
def kindsTellsRow : OpenClaim := { program := "ytpepomnkoghjpaa", sum := "63218365c30048654fe9316daa502647fdbc65c052a3ebfb15e564d31bd9c490", func := "blindfold/blindfoldlaw15.KindsTells", spec := "kindsTells", inPlace := ["internal/bytealg.abigen_runtime_cmpstring"], unfollowed := true, recurses := true, loops := true, apart := false }
def KindsTellsSaid : Prop := kindsTellsRow.holds Try.pinned (OpenSpec.ofChange kindsTellsSpec)

/-- ITS FALSE NEIGHBOUR: 'it returns false'. Refute it at one input. -/
def kindsTellsWrong : ChangeSpec := { name := "kindsTells", fn := fun _ => fun
  | [d1, d2] => { results := [.lit (.bool false)], args := [d1, d2] }
  | _ => none }
def KindsTellsWrongFalsely : Prop := kindsTellsRow.holds Try.pinned (OpenSpec.ofChange kindsTellsWrong)

/-- 'blindfoldlaw15.KindsStrips': WHATEVER THE INPUT: true; the input reads as it did. -/
def kindsStripsSpec : ChangeSpec := { name := "kindsStrips", fn := fun _ => fun
  | [d] => { results := [.lit (.bool true)], args := [d] }
  | _ => none }
def kindsStripsRow : OpenClaim := { program := "ytpepomnkoghjpaa", sum := "63218365c30048654fe9316daa502647fdbc65c052a3ebfb15e564d31bd9c490", func := "blindfold/blindfoldlaw15.KindsStrips", spec := "kindsStrips", inPlace := ["internal/bytealg.abigen_runtime_cmpstring"], unfollowed := true, recurses := true, loops := true, apart := false }
def KindsStripsSaid : Prop := kindsStripsRow.holds Try.pinned (OpenSpec.ofChange kindsStripsSpec)

/-- ITS FALSE NEIGHBOUR: 'it returns false'. Refute it at one input. -/
def kindsStripsWrong : ChangeSpec := { name := "kindsStrips", fn := fun _ => fun
  | [d] => { results := [.lit (.bool false)], args := [d] }
  | _ => none }
def KindsStripsWrongFalsely : Prop := kindsStripsRow.holds Try.pinned (OpenSpec.ofChange kindsStripsWrong)

/- THE SECOND FORM. 'bulk': how many values and letters a reading holds, each counted each time it is reached (what is shared counts as often as it is met; a slice's spare places count too). A statement '..UptoSaid' is the law's where the arguments, and the package variables that the reading takes, are together of bulk at most 1048576: NARROWER than '..Said'. Prove '..Said' where nothing that the law and all that it calls make is longer than what came in: it says more and counts as full. Else prove '..UptoSaid'. A law counts once. -/
mutual
def uptoBulk {H : Type} : DataW H → Nat
  | .lit (.string bytes) => bytes.length + 1
  | .lit _ => 1
  | .nil => 1
  | .ptr d => uptoBulk d + 1
  | .slice elems spare => uptoBulkAll elems + uptoBulkAll spare + 1
  | .agg parts => uptoBulkAll parts + 1
  | .iface _ d => uptoBulk d + 1
  | .map entries => uptoBulkEntries entries + 1
  | .held _ => 1
def uptoBulkAll {H : Type} : List (DataW H) → Nat
  | [] => 0
  | d :: r => uptoBulk d + uptoBulkAll r
def uptoBulkEntries {H : Type} : List (Lit × DataW H) → Nat
  | [] => 0
  | x :: r => uptoBulkEntry x + uptoBulkEntries r
def uptoBulkEntry {H : Type} : Lit × DataW H → Nat
  | (.string bytes, d) => bytes.length + uptoBulk d + 1
  | (_, d) => uptoBulk d + 1
 end
def uptoSmall : (H : Type) → List (DataW H) → Bool := fun _ ds => decide (uptoBulkAll ds ≤ 1048576)
def OpenSpec.upto (s : _root_.Go.ChangeSpec) : _root_.Go.OpenSpec := { _root_.Go.OpenSpec.ofChange s with cond := some uptoSmall }

/-- 'blindfoldlaw15.KindsRight', WHERE WHAT IT READS IS OF BULK AT MOST 1048576: true; the input reads as it did. -/
def kindsRightUptoRow : OpenClaim := { program := "ytpepomnkoghjpaa", sum := "63218365c30048654fe9316daa502647fdbc65c052a3ebfb15e564d31bd9c490", func := "blindfold/blindfoldlaw15.KindsRight", spec := "kindsRight", inPlace := ["internal/bytealg.abigen_runtime_cmpstring"], unfollowed := true, recurses := true, loops := true, apart := false, narrowed := true }
def KindsRightUptoSaid : Prop := kindsRightUptoRow.holds Try.pinned (OpenSpec.upto kindsRightSpec)

/-- 'blindfoldlaw15.KindsTells', WHERE WHAT IT READS IS OF BULK AT MOST 1048576: true; the input reads as it did. -/
def kindsTellsUptoRow : OpenClaim := { program := "ytpepomnkoghjpaa", sum := "63218365c30048654fe9316daa502647fdbc65c052a3ebfb15e564d31bd9c490", func := "blindfold/blindfoldlaw15.KindsTells", spec := "kindsTells", inPlace := ["internal/bytealg.abigen_runtime_cmpstring"], unfollowed := true, recurses := true, loops := true, apart := false, narrowed := true }
def KindsTellsUptoSaid : Prop := kindsTellsUptoRow.holds Try.pinned (OpenSpec.upto kindsTellsSpec)

/-- 'blindfoldlaw15.KindsStrips', WHERE WHAT IT READS IS OF BULK AT MOST 1048576: true; the input reads as it did. -/
def kindsStripsUptoRow : OpenClaim := { program := "ytpepomnkoghjpaa", sum := "63218365c30048654fe9316daa502647fdbc65c052a3ebfb15e564d31bd9c490", func := "blindfold/blindfoldlaw15.KindsStrips", spec := "kindsStrips", inPlace := ["internal/bytealg.abigen_runtime_cmpstring"], unfollowed := true, recurses := true, loops := true, apart := false, narrowed := true }
def KindsStripsUptoSaid : Prop := kindsStripsUptoRow.holds Try.pinned (OpenSpec.upto kindsStripsSpec)

end Rows
end Go.Proofs.Ytpepomnkoghjpaa
