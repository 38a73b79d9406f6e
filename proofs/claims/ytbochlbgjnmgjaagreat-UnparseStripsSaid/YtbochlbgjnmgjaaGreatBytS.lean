/- Strings as lists of bytes: what every layer's plain mathematics uses. No Go here. -/
import Derived.Lib.Bytes
import Derived.Laws.BytesArg
set_option maxRecDepth 100000
set_option linter.unusedVariables false
namespace Go.Proofs.YtbochlbgjnmgjaaGreat.Utf
open Go.Lib

/-- Byte number i of a string, 0 behind its end. -/
def byN (s : ByteArray) (i : Nat) : Nat := (s.data.toList.getD i 0).toNat
theorem byN_lt (s : ByteArray) (i : Nat) : byN s i < 256 := UInt8.toNat_lt _
theorem byN_get (s : ByteArray) (k : Nat) (h : k < s.size) : s[k].toNat = byN s k := by
  unfold byN
  have h' : k < s.data.toList.length := by simpa using h
  simp only [List.getD, List.getElem?_eq_getElem h', Option.getD_some]
  rfl
/-- The bytes of a string as integers. -/
def bl (s : ByteArray) : List Int := s.data.toList.map fun b => (b.toNat : Int)
theorem ba_toList (a : ByteArray) : a.toList = a.data.toList := Go.Lib.toList_data a
theorem bl_inj {a b : ByteArray} : (a.toList == b.toList) = decide (bl a = bl b) := by
  rw [Bool.eq_iff_iff, ba_toList, ba_toList]
  simp only [beq_iff_eq, decide_eq_true_eq]
  constructor
  · intro h; unfold bl; rw [h]
  · intro h
    exact (List.map_inj_right (fun x y e => UInt8.toNat_inj.1 (by exact Int.ofNat.inj e))).1 h
theorem bl_ext {a b : ByteArray} (h : bl a = bl b) : a = b := by
  have h1 : (a.toList == b.toList) = true := by rw [bl_inj]; simpa using h
  have h2 : a.toList = b.toList := by simpa using h1
  rw [ba_toList, ba_toList] at h2
  exact ByteArray.ext (Array.ext' h2)
theorem bl_strOfNums (l : List Int) (h : ∀ x ∈ l, 0 ≤ x ∧ x < 256) : bl (strOfNums l) = l := by
  unfold bl
  rw [strOfNums_data, List.map_map]
  conv => rhs; rw [← List.map_id l]
  refine List.map_congr_left fun x hx => ?_
  have := h x hx
  simp [UInt8.toNat_ofNat']
  omega
theorem bl_get (s : ByteArray) (k : Nat) (h : k < s.size) : (bl s)[k]? = some (byN s k : Int) := by
  unfold bl byN
  have h' : k < s.data.toList.length := by simpa using h
  simp [List.getD, List.getElem?_eq_getElem h']
theorem bl_length (s : ByteArray) : (bl s).length = s.size := by unfold bl; simp
theorem bl_extract (s : ByteArray) (i j : Nat) : bl (s.extract i j) = ((bl s).take j).drop i := by
  unfold bl
  rw [ByteArray.data_extract, Array.toList_extract, List.extract_eq_take_drop, List.map_take, List.map_drop, List.drop_take]
theorem bl_drop {s : ByteArray} {i : Nat} (h : i < s.size) : (bl s).drop i = (byN s i : Int) :: (bl s).drop (i + 1) := by
  have := bl_get s i h
  rw [List.drop_eq_getElem_cons (by rw [bl_length]; exact h)]
  rw [List.getElem?_eq_getElem (by rw [bl_length]; exact h)] at this
  rw [Option.some.inj this]
end Go.Proofs.YtbochlbgjnmgjaaGreat.Utf
