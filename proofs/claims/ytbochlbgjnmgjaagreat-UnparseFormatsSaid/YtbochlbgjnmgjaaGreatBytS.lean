/- Strings as lists of bytes: what every layer's plain mathematics uses. No Go here. -/
import Derived.Lib.Bytes
import Derived.Laws.BytesArg
set_option maxRecDepth 100000
set_option linter.unusedVariables false
namespace Go.Proofs.YtbochlbgjnmgjaaGreat.Utf
open Go.Lib

/-- Byte number i of a string, 0 behind its end. -/
def byN (s : ByteArray) (i : Nat) : Nat := (s.data.toList.getD i 0).toNat
theorem byN_lt (s : ByteArray) (i : Nat) : byN s i < 256 := UInt8.toNat_lt _
theorem byN_get (s : ByteArray) (k : Nat) (h : k < s.size) : s[k].toNat = byN s k := by
  unfold byN
  have h' : k < s.data.toList.length := by simpa using h
  simp only [List.getD, List.getElem?_eq_getElem h', Option.getD_some]
  rfl
theorem byN_extract (s : ByteArray) (i j k : Nat) (h : k < (s.extract i j).size) : (s.extract i j)[k].toNat = byN s (i + k) := by
  have hk : i + k < s.size := by simp [ByteArray.size_extract] at h; omega
  rw [← byN_get s (i + k) hk]
  simp [ByteArray.getElem_extract]

/-- The bytes of a string as integers. -/
def bl (s : ByteArray) : List Int := s.data.toList.map fun b => (b.toNat : Int)
theorem ba_toList (a : ByteArray) : a.toList = a.data.toList := Go.Lib.toList_data a
theorem bl_inj {a b : ByteArray} : (a.toList == b.toList) = decide (bl a = bl b) := by
  rw [Bool.eq_iff_iff, ba_toList, ba_toList]
  simp only [beq_iff_eq, decide_eq_true_eq]
  constructor
  · intro h; unfold bl; rw [h]
  · intro h
    exact (List.map_inj_right (fun x y e => UInt8.toNat_inj.1 (by exact Int.ofNat.inj e))).1 h
theorem bl_ext {a b : ByteArray} (h : bl a = bl b) : a = b := by
  have h1 : (a.toList == b.toList) = true := by rw [bl_inj]; simpa using h
  have h2 : a.toList = b.toList := by simpa using h1
  rw [ba_toList, ba_toList] at h2
  exact ByteArray.ext (Array.ext' h2)
theorem bl_strOfNums (l : List Int) (h : ∀ x ∈ l, 0 ≤ x ∧ x < 256) : bl (strOfNums l) = l := by
  unfold bl
  rw [strOfNums_data, List.map_map]
  conv => rhs; rw [← List.map_id l]
  refine List.map_congr_left fun x hx => ?_
  have := h x hx
  simp [UInt8.toNat_ofNat']
  omega
theorem bl_get (s : ByteArray) (k : Nat) (h : k < s.size) : (bl s)[k]? = some (byN s k : Int) := by
  unfold bl byN
  have h' : k < s.data.toList.length := by simpa using h
  simp [List.getD, List.getElem?_eq_getElem h']
theorem bl_length (s : ByteArray) : (bl s).length = s.size := by unfold bl; simp
theorem bl_extract (s : ByteArray) (i j : Nat) : bl (s.extract i j) = ((bl s).take j).drop i := by
  unfold bl
  rw [ByteArray.data_extract, Array.toList_extract, List.extract_eq_take_drop, List.map_take, List.map_drop, List.drop_take]
theorem byN_ext (s : ByteArray) (i j k : Nat) (h : k < j - i) (hj : j ≤ s.size) : byN (s.extract i j) k = byN s (i + k) := by
  have h1 : k < (s.extract i j).size := by rw [ByteArray.size_extract]; omega
  rw [← byN_get _ _ h1, byN_extract]
theorem bl_append (a b : ByteArray) : bl (a ++ b) = bl a ++ bl b := by unfold bl; simp
theorem byN_of_bl {s : ByteArray} {k : Nat} {x : Int} (h : (bl s)[k]? = some x) : (byN s k : Int) = x := by
  have hk : k < s.size := by
    rw [← bl_length]; exact (List.getElem?_eq_some_iff.1 h).1
  rw [bl_get s k hk] at h
  exact Option.some.inj h
theorem bl_drop {s : ByteArray} {i : Nat} (h : i < s.size) : (bl s).drop i = (byN s i : Int) :: (bl s).drop (i + 1) := by
  have := bl_get s i h
  rw [List.drop_eq_getElem_cons (by rw [bl_length]; exact h)]
  rw [List.getElem?_eq_getElem (by rw [bl_length]; exact h)] at this
  rw [Option.some.inj this]
theorem bl_from {s : ByteArray} {i : Nat} : bl (s.extract i s.size) = (bl s).drop i := by
  rw [bl_extract, List.take_of_length_le (by rw [bl_length]; exact Nat.le_refl _)]
theorem bl_upto {s : ByteArray} {n : Nat} : bl (s.extract 0 n) = (bl s).take n := by rw [bl_extract, List.drop_zero]
theorem bl_one (s : ByteArray) (i : Nat) (hi : i < s.size) : bl (s.extract i (i + 1)) = [(byN s i : Int)] := by
  rw [bl_extract, List.drop_take, show i + 1 - i = 1 by omega]
  have h := bl_get s i hi
  rw [List.take_one, List.head?_drop, h]
  rfl
theorem ext_join {s : ByteArray} {a b c : Nat} (h1 : a ≤ b) (h2 : b ≤ c) (h3 : c ≤ s.size) : s.extract a b ++ s.extract b c = s.extract a c := by
  rw [ByteArray.extract_append_extract]
  congr 1 <;> omega
theorem byN_head {q : ByteArray} {i : Nat} {c : Int} {l : List Int} (h : (bl q).drop i = c :: l) : (byN q i : Int) = c := by
  apply byN_of_bl
  rw [← List.head?_drop, h]; rfl
theorem drop_next {q : ByteArray} {i : Nat} {p l : List Int} (h : (bl q).drop i = p ++ l) : (bl q).drop (i + p.length) = l := by
  rw [← List.drop_drop, h, List.drop_left]
theorem byN_drop {s : ByteArray} {i j : Nat} {l r : List Int} {x : Int} (h : (bl s).drop i = l ++ r) (hj : l[j]? = some x) : (byN s (i + j) : Int) = x := by
  apply byN_of_bl
  rw [← List.getElem?_drop, h, List.getElem?_append_left (List.getElem?_eq_some_iff.1 hj).1, hj]
theorem size_drop {s : ByteArray} {i : Nat} {l r : List Int} (h : (bl s).drop i = l ++ r) : l.length ≤ s.size - i := by
  have := congrArg List.length h
  rw [List.length_drop, bl_length, List.length_append] at this
  omega
theorem byN_append_left {a b : ByteArray} {i : Nat} (h : i < a.size) : byN (a ++ b) i = byN a i := by
  unfold byN
  congr 1
  have h' : i < a.data.toList.length := by simpa using h
  simp [List.getD, List.getElem?_append_left h']
theorem byN_append_right {a b : ByteArray} {i : Nat} : byN (a ++ b) (a.size + i) = byN b i := by
  unfold byN
  congr 1
  rw [ByteArray.data_append, Array.toList_append, show a.size = a.data.toList.length by simp]
  simp only [List.getD]
  rw [List.getElem?_append_right (by omega), Nat.add_sub_cancel_left]
theorem bl_mem {s : ByteArray} {x : Int} (h : x ∈ bl s) : 0 ≤ x ∧ x < 256 := by
  unfold bl at h
  obtain ⟨b, -, rfl⟩ := List.mem_map.1 h
  have := UInt8.toNat_lt b
  omega
theorem bl_strOf (s : ByteArray) : strOfNums (bl s) = s := bl_ext (bl_strOfNums _ fun x hx => bl_mem hx)
end Go.Proofs.YtbochlbgjnmgjaaGreat.Utf
