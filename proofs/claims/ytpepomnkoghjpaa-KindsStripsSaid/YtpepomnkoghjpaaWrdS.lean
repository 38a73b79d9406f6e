/- Words: a name, and where it stood. -/
import Derived.Test.YtpepomnkoghjpaaNamS
set_option maxRecDepth 100000
set_option linter.unusedVariables false
namespace Go.Proofs.Ytpepomnkoghjpaa.Lat
open Go.Proofs.Ytpepomnkoghjpaa.Nam

abbrev Wr := ByteArray × Int
instance : Inhabited Wr := ⟨(ByteArray.empty, 0)⟩
abbrev wN (ws : List Wr) (i : Nat) : Wr := ws.getD i (ByteArray.empty, 0)
theorem wN_get {ws : List Wr} {i : Nat} (h : i < ws.length) : wN ws i = ws[i] := by simp [wN, List.getD, List.getElem?_eq_getElem h]
def nms (ws : List Wr) : List ByteArray := ws.map (·.1)
theorem nms_len (ws : List Wr) : (nms ws).length = ws.length := by simp [nms]
theorem nms_get {ws : List Wr} {i : Nat} (h : i < ws.length) : (nms ws)[i]? = some (wN ws i).1 := by rw [wN_get h]; simp [nms, List.getElem?_eq_getElem h]
theorem wN_mem {ws : List Wr} {i : Nat} (h : i < ws.length) : wN ws i ∈ ws := by rw [wN_get h]; exact List.getElem_mem h
end Go.Proofs.Ytpepomnkoghjpaa.Lat
