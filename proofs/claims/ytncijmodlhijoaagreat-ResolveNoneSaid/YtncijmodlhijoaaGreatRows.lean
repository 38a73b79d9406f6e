/-
  NARROWER THAN 'FOR EVERY INPUT', by the rows' own cells (each row's printed sentence says how): ResolveNodes: loops · ResolveLinks: loops · UnparseBack: loops.
  DERIVED. THE GIVEN ROWS OF THIS SEAT. 6 by the template 'for every input the law returns true; each argument reads behind the call as it read before'; 0 by the template 'total and deterministic' (their statements: YtncijmodlhijoaaGreatTotals.lean).
  GIVEN WITH THE SEED: the statements are not yours to turn. If you find one false, say at which input.
  Laid BY PROGRAM, IN A SANDBOX (cutbox-rows.mjs): the forced cells as the released guide's own fill.sh prints them over the translation 6635ac803ef06937… (all of the seat's roots in one cut). By AI agents, Wed Nov 11 2026. No macro, syntax, notation, axiom, sorry.
-/
import Derived.Test.YtncijmodlhijoaaGreatChecked
import GoSem.Claim
import GoSem.ClaimJoined
import GoSem.ClaimMapViews
import Derived.JoinedTies
import Derived.KernelRfl
namespace Go.Proofs.YtncijmodlhijoaaGreat
/- THE CELL 'sum', in the pinned program and in every row, IS THE sha256 OF THE DUMP (.gsa) THAT YtncijmodlhijoaaGreatProg.lean LOADS. Nothing in Lean hashes anything: it is a label: what it is worth is what the hold of that sum in a sandbox is worth. -/
noncomputable def Tryz.pinned : Pinned := { name := "ytncijmodlhijoaagreat", sum := "6635ac803ef06937a958f54eb2488b7c92296fa65a4c61fd46e8eca79c3182ac", checked := Tryz.checked }
namespace Rows
def none {H : Type} : Left H := { results := [], args := [] }

/-- 'blindfoldlaw18.ResolveNodes': WHATEVER THE INPUT: true; the input reads as it did. -/
def resolveNodesSpec : ChangeSpec := { name := "resolveNodes", fn := fun _ => fun
  | [d1, d2] => { results := [.lit (.bool true)], args := [d1, d2] }
  | _ => none }
def resolveNodesRow : OpenClaim := { program := "ytncijmodlhijoaagreat", sum := "6635ac803ef06937a958f54eb2488b7c92296fa65a4c61fd46e8eca79c3182ac", func := "blindfold/blindfoldlaw18.ResolveNodes", spec := "resolveNodes", inPlace := ["internal/bytealg.abigen_runtime_cmpstring"], unfollowed := true, recurses := true, loops := true, apart := false }
def ResolveNodesSaid : Prop := resolveNodesRow.holds Tryz.pinned (OpenSpec.ofChange resolveNodesSpec)

/-- ITS FALSE NEIGHBOUR: 'it returns false'. Refute it at one input. -/
def resolveNodesWrong : ChangeSpec := { name := "resolveNodes", fn := fun _ => fun
  | [d1, d2] => { results := [.lit (.bool false)], args := [d1, d2] }
  | _ => none }
def ResolveNodesWrongFalsely : Prop := resolveNodesRow.holds Tryz.pinned (OpenSpec.ofChange resolveNodesWrong)

/-- 'blindfoldlaw18.ResolveNone': WHATEVER THE INPUT: true; the input reads as it did. -/
def resolveNoneSpec : ChangeSpec := { name := "resolveNone", fn := fun _ => fun
  | [d1, d2] => { results := [.lit (.bool true)], args := [d1, d2] }
  | _ => none }
def resolveNoneRow : OpenClaim := { program := "ytncijmodlhijoaagreat", sum := "6635ac803ef06937a958f54eb2488b7c92296fa65a4c61fd46e8eca79c3182ac", func := "blindfold/blindfoldlaw18.ResolveNone", spec := "resolveNone", inPlace := ["internal/bytealg.abigen_runtime_cmpstring"], unfollowed := true, recurses := true, apart := false }
def ResolveNoneSaid : Prop := resolveNoneRow.holds Tryz.pinned (OpenSpec.ofChange resolveNoneSpec)

/-- ITS FALSE NEIGHBOUR: 'it returns false'. Refute it at one input. -/
def resolveNoneWrong : ChangeSpec := { name := "resolveNone", fn := fun _ => fun
  | [d1, d2] => { results := [.lit (.bool false)], args := [d1, d2] }
  | _ => none }
def ResolveNoneWrongFalsely : Prop := resolveNoneRow.holds Tryz.pinned (OpenSpec.ofChange resolveNoneWrong)

/-- 'blindfoldlaw18.ResolveLinks': WHATEVER THE INPUT: true; the input reads as it did. -/
def resolveLinksSpec : ChangeSpec := { name := "resolveLinks", fn := fun _ => fun
  | [d] => { results := [.lit (.bool true)], args := [d] }
  | _ => none }
def resolveLinksRow : OpenClaim := { program := "ytncijmodlhijoaagreat", sum := "6635ac803ef06937a958f54eb2488b7c92296fa65a4c61fd46e8eca79c3182ac", func := "blindfold/blindfoldlaw18.ResolveLinks", spec := "resolveLinks", inPlace := ["internal/bytealg.abigen_runtime_cmpstring"], unfollowed := true, recurses := true, loops := true, apart := false }
def ResolveLinksSaid : Prop := resolveLinksRow.holds Tryz.pinned (OpenSpec.ofChange resolveLinksSpec)

/-- ITS FALSE NEIGHBOUR: 'it returns false'. Refute it at one input. -/
def resolveLinksWrong : ChangeSpec := { name := "resolveLinks", fn := fun _ => fun
  | [d] => { results := [.lit (.bool false)], args := [d] }
  | _ => none }
def ResolveLinksWrongFalsely : Prop := resolveLinksRow.holds Tryz.pinned (OpenSpec.ofChange resolveLinksWrong)

/-- 'blindfoldlaw16.SyntaxTypes': WHATEVER THE INPUT: true; the input reads as it did. -/
def syntaxTypesSpec : ChangeSpec := { name := "syntaxTypes", fn := fun _ => fun
  | [d] => { results := [.lit (.bool true)], args := [d] }
  | _ => none }
def syntaxTypesRow : OpenClaim := { program := "ytncijmodlhijoaagreat", sum := "6635ac803ef06937a958f54eb2488b7c92296fa65a4c61fd46e8eca79c3182ac", func := "blindfold/blindfoldlaw16.SyntaxTypes", spec := "syntaxTypes", inPlace := ["internal/bytealg.IndexByteString", "internal/bytealg.IndexString", "internal/abi.NoEscape"], unfollowed := true, recurses := true, named := ["internal/bytealg.MaxLen"], apart := false }
def SyntaxTypesSaid : Prop := syntaxTypesRow.holds Tryz.pinned (OpenSpec.ofChange syntaxTypesSpec)

/-- ITS FALSE NEIGHBOUR: 'it returns false'. Refute it at one input. -/
def syntaxTypesWrong : ChangeSpec := { name := "syntaxTypes", fn := fun _ => fun
  | [d] => { results := [.lit (.bool false)], args := [d] }
  | _ => none }
def SyntaxTypesWrongFalsely : Prop := syntaxTypesRow.holds Tryz.pinned (OpenSpec.ofChange syntaxTypesWrong)

/-- 'blindfoldlaw16.SyntaxParses': WHATEVER THE INPUT: true; the input reads as it did. -/
def syntaxParsesSpec : ChangeSpec := { name := "syntaxParses", fn := fun _ => fun
  | [d] => { results := [.lit (.bool true)], args := [d] }
  | _ => none }
def syntaxParsesRow : OpenClaim := { program := "ytncijmodlhijoaagreat", sum := "6635ac803ef06937a958f54eb2488b7c92296fa65a4c61fd46e8eca79c3182ac", func := "blindfold/blindfoldlaw16.SyntaxParses", spec := "syntaxParses", inPlace := ["internal/bytealg.IndexByteString", "internal/bytealg.IndexString", "internal/abi.NoEscape"], unfollowed := true, recurses := true, named := ["internal/bytealg.MaxLen"], apart := false }
def SyntaxParsesSaid : Prop := syntaxParsesRow.holds Tryz.pinned (OpenSpec.ofChange syntaxParsesSpec)

/-- ITS FALSE NEIGHBOUR: 'it returns false'. Refute it at one input. -/
def syntaxParsesWrong : ChangeSpec := { name := "syntaxParses", fn := fun _ => fun
  | [d] => { results := [.lit (.bool false)], args := [d] }
  | _ => none }
def SyntaxParsesWrongFalsely : Prop := syntaxParsesRow.holds Tryz.pinned (OpenSpec.ofChange syntaxParsesWrong)

/-- 'blindfoldlaw17.UnparseBack': WHATEVER THE INPUT: true; the input reads as it did. -/
def unparseBackSpec : ChangeSpec := { name := "unparseBack", fn := fun _ => fun
  | [d1, d2] => { results := [.lit (.bool true)], args := [d1, d2] }
  | _ => none }
def unparseBackRow : OpenClaim := { program := "ytncijmodlhijoaagreat", sum := "6635ac803ef06937a958f54eb2488b7c92296fa65a4c61fd46e8eca79c3182ac", func := "blindfold/blindfoldlaw17.UnparseBack", spec := "unparseBack", inPlace := ["internal/bytealg.abigen_runtime_cmpstring", "internal/abi.NoEscape", "internal/bytealg.IndexByteString", "internal/bytealg.IndexString"], unfollowed := true, recurses := true, named := ["internal/bytealg.MaxLen"], loops := true, apart := false }
def UnparseBackSaid : Prop := unparseBackRow.holds Tryz.pinned (OpenSpec.ofChange unparseBackSpec)

/-- ITS FALSE NEIGHBOUR: 'it returns false'. Refute it at one input. -/
def unparseBackWrong : ChangeSpec := { name := "unparseBack", fn := fun _ => fun
  | [d1, d2] => { results := [.lit (.bool false)], args := [d1, d2] }
  | _ => none }
def UnparseBackWrongFalsely : Prop := unparseBackRow.holds Tryz.pinned (OpenSpec.ofChange unparseBackWrong)

/- THE SECOND FORM. 'bulk': how many values and letters a reading holds, each counted each time it is reached (what is shared counts as often as it is met; a slice's spare places count too). A statement '..UptoSaid' is the law's where the arguments, and the package variables that the reading takes, are together of bulk at most 1048576: NARROWER than '..Said'. Prove '..Said' where nothing that the law and all that it calls make is longer than what came in: it says more and counts as full. Else prove '..UptoSaid'. A law counts once. -/
mutual
def uptoBulk {H : Type} : DataW H → Nat
  | .lit (.string bytes) => bytes.length + 1
  | .lit _ => 1
  | .nil => 1
  | .ptr d => uptoBulk d + 1
  | .slice elems spare => uptoBulkAll elems + uptoBulkAll spare + 1
  | .agg parts => uptoBulkAll parts + 1
  | .iface _ d => uptoBulk d + 1
  | .map entries => uptoBulkEntries entries + 1
  | .held _ => 1
def uptoBulkAll {H : Type} : List (DataW H) → Nat
  | [] => 0
  | d :: r => uptoBulk d + uptoBulkAll r
def uptoBulkEntries {H : Type} : List (Lit × DataW H) → Nat
  | [] => 0
  | x :: r => uptoBulkEntry x + uptoBulkEntries r
def uptoBulkEntry {H : Type} : Lit × DataW H → Nat
  | (.string bytes, d) => bytes.length + uptoBulk d + 1
  | (_, d) => uptoBulk d + 1
 end
def uptoSmall : (H : Type) → List (DataW H) → Bool := fun _ ds => decide (uptoBulkAll ds ≤ 1048576)
def OpenSpec.upto (s : _root_.Go.ChangeSpec) : _root_.Go.OpenSpec := { _root_.Go.OpenSpec.ofChange s with cond := some uptoSmall }

/-- 'blindfoldlaw18.ResolveNodes', WHERE WHAT IT READS IS OF BULK AT MOST 1048576: true; the input reads as it did. -/
def resolveNodesUptoRow : OpenClaim := { program := "ytncijmodlhijoaagreat", sum := "6635ac803ef06937a958f54eb2488b7c92296fa65a4c61fd46e8eca79c3182ac", func := "blindfold/blindfoldlaw18.ResolveNodes", spec := "resolveNodes", inPlace := ["internal/bytealg.abigen_runtime_cmpstring"], unfollowed := true, recurses := true, loops := true, apart := false, narrowed := true }
def ResolveNodesUptoSaid : Prop := resolveNodesUptoRow.holds Tryz.pinned (OpenSpec.upto resolveNodesSpec)

/-- 'blindfoldlaw18.ResolveNone', WHERE WHAT IT READS IS OF BULK AT MOST 1048576: true; the input reads as it did. -/
def resolveNoneUptoRow : OpenClaim := { program := "ytncijmodlhijoaagreat", sum := "6635ac803ef06937a958f54eb2488b7c92296fa65a4c61fd46e8eca79c3182ac", func := "blindfold/blindfoldlaw18.ResolveNone", spec := "resolveNone", inPlace := ["internal/bytealg.abigen_runtime_cmpstring"], unfollowed := true, recurses := true, apart := false, narrowed := true }
def ResolveNoneUptoSaid : Prop := resolveNoneUptoRow.holds Tryz.pinned (OpenSpec.upto resolveNoneSpec)

/-- 'blindfoldlaw18.ResolveLinks', WHERE WHAT IT READS IS OF BULK AT MOST 1048576: true; the input reads as it did. -/
def resolveLinksUptoRow : OpenClaim := { program := "ytncijmodlhijoaagreat", sum := "6635ac803ef06937a958f54eb2488b7c92296fa65a4c61fd46e8eca79c3182ac", func := "blindfold/blindfoldlaw18.ResolveLinks", spec := "resolveLinks", inPlace := ["internal/bytealg.abigen_runtime_cmpstring"], unfollowed := true, recurses := true, loops := true, apart := false, narrowed := true }
def ResolveLinksUptoSaid : Prop := resolveLinksUptoRow.holds Tryz.pinned (OpenSpec.upto resolveLinksSpec)

/-- 'blindfoldlaw16.SyntaxTypes', WHERE WHAT IT READS IS OF BULK AT MOST 1048576: true; the input reads as it did. -/
def syntaxTypesUptoRow : OpenClaim := { program := "ytncijmodlhijoaagreat", sum := "6635ac803ef06937a958f54eb2488b7c92296fa65a4c61fd46e8eca79c3182ac", func := "blindfold/blindfoldlaw16.SyntaxTypes", spec := "syntaxTypes", inPlace := ["internal/bytealg.IndexByteString", "internal/bytealg.IndexString", "internal/abi.NoEscape"], unfollowed := true, recurses := true, named := ["internal/bytealg.MaxLen"], apart := false, narrowed := true }
def SyntaxTypesUptoSaid : Prop := syntaxTypesUptoRow.holds Tryz.pinned (OpenSpec.upto syntaxTypesSpec)

/-- 'blindfoldlaw16.SyntaxParses', WHERE WHAT IT READS IS OF BULK AT MOST 1048576: true; the input reads as it did. -/
def syntaxParsesUptoRow : OpenClaim := { program := "ytncijmodlhijoaagreat", sum := "6635ac803ef06937a958f54eb2488b7c92296fa65a4c61fd46e8eca79c3182ac", func := "blindfold/blindfoldlaw16.SyntaxParses", spec := "syntaxParses", inPlace := ["internal/bytealg.IndexByteString", "internal/bytealg.IndexString", "internal/abi.NoEscape"], unfollowed := true, recurses := true, named := ["internal/bytealg.MaxLen"], apart := false, narrowed := true }
def SyntaxParsesUptoSaid : Prop := syntaxParsesUptoRow.holds Tryz.pinned (OpenSpec.upto syntaxParsesSpec)

/-- 'blindfoldlaw17.UnparseBack', WHERE WHAT IT READS IS OF BULK AT MOST 1048576: true; the input reads as it did. -/
def unparseBackUptoRow : OpenClaim := { program := "ytncijmodlhijoaagreat", sum := "6635ac803ef06937a958f54eb2488b7c92296fa65a4c61fd46e8eca79c3182ac", func := "blindfold/blindfoldlaw17.UnparseBack", spec := "unparseBack", inPlace := ["internal/bytealg.abigen_runtime_cmpstring", "internal/abi.NoEscape", "internal/bytealg.IndexByteString", "internal/bytealg.IndexString"], unfollowed := true, recurses := true, named := ["internal/bytealg.MaxLen"], loops := true, apart := false, narrowed := true }
def UnparseBackUptoSaid : Prop := unparseBackUptoRow.holds Tryz.pinned (OpenSpec.upto unparseBackSpec)

end Rows
end Go.Proofs.YtncijmodlhijoaaGreat
