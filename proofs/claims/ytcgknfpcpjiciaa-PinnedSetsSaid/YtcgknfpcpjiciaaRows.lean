/-
  No cell of these rows narrows 'for every input' (looked for: loops, veiled, ifaces, maps, wideKeys, modest, calm, conditions, laid).
  DERIVED. THE GIVEN ROWS OF THIS SEAT. 3 by the template 'for every input the law returns true; each argument reads behind the call as it read before'; 0 by the template 'total and deterministic' (their statements: YtcgknfpcpjiciaaTotals.lean).
  GIVEN WITH THE SEED: the statements are not yours to turn. If you find one false, say at which input.
  Laid BY PROGRAM, IN A SANDBOX (cutbox-rows.mjs): the forced cells as the released guide's own fill.sh prints them over the translation b88021f225019c9d… (all of the seat's roots in one cut). By AI agents, Wed Nov 11 2026. No macro, syntax, notation, axiom, sorry.
-/
import Derived.Test.YtcgknfpcpjiciaaChecked
import GoSem.Claim
import GoSem.ClaimJoined
import GoSem.ClaimMapViews
import Derived.JoinedTies
import Derived.KernelRfl
namespace Go.Proofs.Ytcgknfpcpjiciaa
/- THE CELL 'sum', in the pinned program and in every row, IS THE sha256 OF THE DUMP (.gsa) THAT YtcgknfpcpjiciaaProg.lean LOADS. Nothing in Lean hashes anything: it is a label: what it is worth is what the hold of that sum in a sandbox is worth. -/
noncomputable def Try.pinned : Pinned := { name := "ytcgknfpcpjiciaa", sum := "b88021f225019c9d982155608923cc3cc2ef10dfc3aba242650cb7e9548bba27", checked := Try.checked }
namespace Rows
def none {H : Type} : Left H := { results := [], args := [] }

/-- 'blindfoldlaw03.PinnedTells': WHATEVER THE INPUT: true; the input reads as it did. -/
def pinnedTellsSpec : ChangeSpec := { name := "pinnedTells", fn := fun _ => fun
  | [d] => { results := [.lit (.bool true)], args := [d] }
  | _ => none }
def pinnedTellsRow : OpenClaim := { program := "ytcgknfpcpjiciaa", sum := "b88021f225019c9d982155608923cc3cc2ef10dfc3aba242650cb7e9548bba27", func := "blindfold/blindfoldlaw03.PinnedTells", spec := "pinnedTells", unfollowed := true, recurses := true, apart := false }
def PinnedTellsSaid : Prop := pinnedTellsRow.holds Try.pinned (OpenSpec.ofChange pinnedTellsSpec)

/-- ITS FALSE NEIGHBOUR: 'it returns false'. Refute it at one input. -/
def pinnedTellsWrong : ChangeSpec := { name := "pinnedTells", fn := fun _ => fun
  | [d] => { results := [.lit (.bool false)], args := [d] }
  | _ => none }
def PinnedTellsWrongFalsely : Prop := pinnedTellsRow.holds Try.pinned (OpenSpec.ofChange pinnedTellsWrong)

/-- 'blindfoldlaw03.PinnedSets': WHATEVER THE INPUT: true; the input reads as it did. -/
def pinnedSetsSpec : ChangeSpec := { name := "pinnedSets", fn := fun _ => fun
  | [d] => { results := [.lit (.bool true)], args := [d] }
  | _ => none }
def pinnedSetsRow : OpenClaim := { program := "ytcgknfpcpjiciaa", sum := "b88021f225019c9d982155608923cc3cc2ef10dfc3aba242650cb7e9548bba27", func := "blindfold/blindfoldlaw03.PinnedSets", spec := "pinnedSets", unfollowed := true, recurses := true, apart := false }
def PinnedSetsSaid : Prop := pinnedSetsRow.holds Try.pinned (OpenSpec.ofChange pinnedSetsSpec)

/-- ITS FALSE NEIGHBOUR: 'it returns false'. Refute it at one input. -/
def pinnedSetsWrong : ChangeSpec := { name := "pinnedSets", fn := fun _ => fun
  | [d] => { results := [.lit (.bool false)], args := [d] }
  | _ => none }
def PinnedSetsWrongFalsely : Prop := pinnedSetsRow.holds Try.pinned (OpenSpec.ofChange pinnedSetsWrong)

/-- 'blindfoldlaw03.PinnedApart': WHATEVER THE INPUT: true; the input reads as it did. -/
def pinnedApartSpec : ChangeSpec := { name := "pinnedApart", fn := fun _ => fun
  | [d] => { results := [.lit (.bool true)], args := [d] }
  | _ => none }
def pinnedApartRow : OpenClaim := { program := "ytcgknfpcpjiciaa", sum := "b88021f225019c9d982155608923cc3cc2ef10dfc3aba242650cb7e9548bba27", func := "blindfold/blindfoldlaw03.PinnedApart", spec := "pinnedApart", unfollowed := true, recurses := true, apart := false }
def PinnedApartSaid : Prop := pinnedApartRow.holds Try.pinned (OpenSpec.ofChange pinnedApartSpec)

/-- ITS FALSE NEIGHBOUR: 'it returns false'. Refute it at one input. -/
def pinnedApartWrong : ChangeSpec := { name := "pinnedApart", fn := fun _ => fun
  | [d] => { results := [.lit (.bool false)], args := [d] }
  | _ => none }
def PinnedApartWrongFalsely : Prop := pinnedApartRow.holds Try.pinned (OpenSpec.ofChange pinnedApartWrong)

/- THE SECOND FORM. 'bulk': how many values and letters a reading holds, each counted each time it is reached (what is shared counts as often as it is met; a slice's spare places count too). A statement '..UptoSaid' is the law's where the arguments, and the package variables that the reading takes, are together of bulk at most 1048576: NARROWER than '..Said'. Prove '..Said' where nothing that the law and all that it calls make is longer than what came in: it says more and counts as full. Else prove '..UptoSaid'. A law counts once. -/
mutual
def uptoBulk {H : Type} : DataW H → Nat
  | .lit (.string bytes) => bytes.length + 1
  | .lit _ => 1
  | .nil => 1
  | .ptr d => uptoBulk d + 1
  | .slice elems spare => uptoBulkAll elems + uptoBulkAll spare + 1
  | .agg parts => uptoBulkAll parts + 1
  | .iface _ d => uptoBulk d + 1
  | .map entries => uptoBulkEntries entries + 1
  | .held _ => 1
def uptoBulkAll {H : Type} : List (DataW H) → Nat
  | [] => 0
  | d :: r => uptoBulk d + uptoBulkAll r
def uptoBulkEntries {H : Type} : List (Lit × DataW H) → Nat
  | [] => 0
  | x :: r => uptoBulkEntry x + uptoBulkEntries r
def uptoBulkEntry {H : Type} : Lit × DataW H → Nat
  | (.string bytes, d) => bytes.length + uptoBulk d + 1
  | (_, d) => uptoBulk d + 1
 end
def uptoSmall : (H : Type) → List (DataW H) → Bool := fun _ ds => decide (uptoBulkAll ds ≤ 1048576)
def OpenSpec.upto (s : _root_.Go.ChangeSpec) : _root_.Go.OpenSpec := { _root_.Go.OpenSpec.ofChange s with cond := some uptoSmall }

/-- 'blindfoldlaw03.PinnedTells', WHERE WHAT IT READS IS OF BULK AT MOST 1048576: true; the input reads as it did. -/
def pinnedTellsUptoRow : OpenClaim := { program := "ytcgknfpcpjiciaa", sum := "b88021f225019c9d982155608923cc3cc2ef10dfc3aba242650cb7e9548bba27", func := "blindfold/blindfoldlaw03.PinnedTells", spec := "pinnedTells", unfollowed := true, recurses := true, apart := false, narrowed := true }
def PinnedTellsUptoSaid : Prop := pinnedTellsUptoRow.holds Try.pinned (OpenSpec.upto pinnedTellsSpec)

/-- 'blindfoldlaw03.PinnedSets', WHERE WHAT IT READS IS OF BULK AT MOST 1048576: true; the input reads as it did. -/
def pinnedSetsUptoRow : OpenClaim := { program := "ytcgknfpcpjiciaa", sum := "b88021f225019c9d982155608923cc3cc2ef10dfc3aba242650cb7e9548bba27", func := "blindfold/blindfoldlaw03.PinnedSets", spec := "pinnedSets", unfollowed := true, recurses := true, apart := false, narrowed := true }
def PinnedSetsUptoSaid : Prop := pinnedSetsUptoRow.holds Try.pinned (OpenSpec.upto pinnedSetsSpec)

/-- 'blindfoldlaw03.PinnedApart', WHERE WHAT IT READS IS OF BULK AT MOST 1048576: true; the input reads as it did. -/
def pinnedApartUptoRow : OpenClaim := { program := "ytcgknfpcpjiciaa", sum := "b88021f225019c9d982155608923cc3cc2ef10dfc3aba242650cb7e9548bba27", func := "blindfold/blindfoldlaw03.PinnedApart", spec := "pinnedApart", unfollowed := true, recurses := true, apart := false, narrowed := true }
def PinnedApartUptoSaid : Prop := pinnedApartUptoRow.holds Try.pinned (OpenSpec.upto pinnedApartSpec)

end Rows
end Go.Proofs.Ytcgknfpcpjiciaa
