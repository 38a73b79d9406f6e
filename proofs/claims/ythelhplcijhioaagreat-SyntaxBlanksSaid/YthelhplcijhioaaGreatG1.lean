import Derived.Lib.Bytes
import Derived.Laws.BytesArg
/- Strings as lists of bytes: what every layer's plain mathematics uses. No Go here. -/
set_option maxRecDepth 100000
set_option linter.unusedVariables false
namespace Go.Proofs.YthelhplcijhioaaGreat.Utf
open Go.Lib

/-- Byte number i of a string, 0 behind its end. -/
def byN (s : ByteArray) (i : Nat) : Nat := (s.data.toList.getD i 0).toNat
theorem byN_lt (s : ByteArray) (i : Nat) : byN s i < 256 := UInt8.toNat_lt _
theorem byN_get (s : ByteArray) (k : Nat) (h : k < s.size) : s[k].toNat = byN s k := by
  unfold byN
  have h' : k < s.data.toList.length := by simpa using h
  simp only [List.getD, List.getElem?_eq_getElem h', Option.getD_some]
  rfl
theorem byN_extract (s : ByteArray) (i j k : Nat) (h : k < (s.extract i j).size) : (s.extract i j)[k].toNat = byN s (i + k) := by
  have hk : i + k < s.size := by simp [ByteArray.size_extract] at h; omega
  rw [← byN_get s (i + k) hk]
  simp [ByteArray.getElem_extract]

/-- The bytes of a string as integers. -/
def bl (s : ByteArray) : List Int := s.data.toList.map fun b => (b.toNat : Int)
theorem ba_toList (a : ByteArray) : a.toList = a.data.toList := Go.Lib.toList_data a
theorem bl_inj {a b : ByteArray} : (a.toList == b.toList) = decide (bl a = bl b) := by
  rw [Bool.eq_iff_iff, ba_toList, ba_toList]
  simp only [beq_iff_eq, decide_eq_true_eq]
  constructor
  · intro h; unfold bl; rw [h]
  · intro h
    exact (List.map_inj_right (fun x y e => UInt8.toNat_inj.1 (by exact Int.ofNat.inj e))).1 h
theorem bl_ext {a b : ByteArray} (h : bl a = bl b) : a = b := by
  have h1 : (a.toList == b.toList) = true := by rw [bl_inj]; simpa using h
  have h2 : a.toList = b.toList := by simpa using h1
  rw [ba_toList, ba_toList] at h2
  exact ByteArray.ext (Array.ext' h2)
theorem bl_strOfNums (l : List Int) (h : ∀ x ∈ l, 0 ≤ x ∧ x < 256) : bl (strOfNums l) = l := by
  unfold bl
  rw [strOfNums_data, List.map_map]
  conv => rhs; rw [← List.map_id l]
  refine List.map_congr_left fun x hx => ?_
  have := h x hx
  simp [UInt8.toNat_ofNat']
  omega
theorem bl_get (s : ByteArray) (k : Nat) (h : k < s.size) : (bl s)[k]? = some (byN s k : Int) := by
  unfold bl byN
  have h' : k < s.data.toList.length := by simpa using h
  simp [List.getD, List.getElem?_eq_getElem h']
theorem bl_length (s : ByteArray) : (bl s).length = s.size := by unfold bl; simp
theorem bl_extract (s : ByteArray) (i j : Nat) : bl (s.extract i j) = ((bl s).take j).drop i := by
  unfold bl
  rw [ByteArray.data_extract, Array.toList_extract, List.extract_eq_take_drop, List.map_take, List.map_drop, List.drop_take]
theorem byN_ext (s : ByteArray) (i j k : Nat) (h : k < j - i) (hj : j ≤ s.size) : byN (s.extract i j) k = byN s (i + k) := by
  have h1 : k < (s.extract i j).size := by rw [ByteArray.size_extract]; omega
  rw [← byN_get _ _ h1, byN_extract]
theorem bl_append (a b : ByteArray) : bl (a ++ b) = bl a ++ bl b := by unfold bl; simp
theorem byN_of_bl {s : ByteArray} {k : Nat} {x : Int} (h : (bl s)[k]? = some x) : (byN s k : Int) = x := by
  have hk : k < s.size := by
    rw [← bl_length]; exact (List.getElem?_eq_some_iff.1 h).1
  rw [bl_get s k hk] at h
  exact Option.some.inj h
theorem bl_drop {s : ByteArray} {i : Nat} (h : i < s.size) : (bl s).drop i = (byN s i : Int) :: (bl s).drop (i + 1) := by
  have := bl_get s i h
  rw [List.drop_eq_getElem_cons (by rw [bl_length]; exact h)]
  rw [List.getElem?_eq_getElem (by rw [bl_length]; exact h)] at this
  rw [Option.some.inj this]
theorem bl_from {s : ByteArray} {i : Nat} : bl (s.extract i s.size) = (bl s).drop i := by
  rw [bl_extract, List.take_of_length_le (by rw [bl_length]; exact Nat.le_refl _)]
theorem bl_upto {s : ByteArray} {n : Nat} : bl (s.extract 0 n) = (bl s).take n := by rw [bl_extract, List.drop_zero]
theorem bl_one (s : ByteArray) (i : Nat) (hi : i < s.size) : bl (s.extract i (i + 1)) = [(byN s i : Int)] := by
  rw [bl_extract, List.drop_take, show i + 1 - i = 1 by omega]
  have h := bl_get s i hi
  rw [List.take_one, List.head?_drop, h]
  rfl
theorem ext_join {s : ByteArray} {a b c : Nat} (h1 : a ≤ b) (h2 : b ≤ c) (h3 : c ≤ s.size) : s.extract a b ++ s.extract b c = s.extract a c := by
  rw [ByteArray.extract_append_extract]
  congr 1 <;> omega
theorem byN_head {q : ByteArray} {i : Nat} {c : Int} {l : List Int} (h : (bl q).drop i = c :: l) : (byN q i : Int) = c := by
  apply byN_of_bl
  rw [← List.head?_drop, h]; rfl
theorem drop_next {q : ByteArray} {i : Nat} {p l : List Int} (h : (bl q).drop i = p ++ l) : (bl q).drop (i + p.length) = l := by
  rw [← List.drop_drop, h, List.drop_left]
theorem byN_drop {s : ByteArray} {i j : Nat} {l r : List Int} {x : Int} (h : (bl s).drop i = l ++ r) (hj : l[j]? = some x) : (byN s (i + j) : Int) = x := by
  apply byN_of_bl
  rw [← List.getElem?_drop, h, List.getElem?_append_left (List.getElem?_eq_some_iff.1 hj).1, hj]
theorem size_drop {s : ByteArray} {i : Nat} {l r : List Int} (h : (bl s).drop i = l ++ r) : l.length ≤ s.size - i := by
  have := congrArg List.length h
  rw [List.length_drop, bl_length, List.length_append] at this
  omega
theorem byN_append_left {a b : ByteArray} {i : Nat} (h : i < a.size) : byN (a ++ b) i = byN a i := by
  unfold byN
  congr 1
  have h' : i < a.data.toList.length := by simpa using h
  simp [List.getD, List.getElem?_append_left h']
theorem byN_append_right {a b : ByteArray} {i : Nat} : byN (a ++ b) (a.size + i) = byN b i := by
  unfold byN
  congr 1
  rw [ByteArray.data_append, Array.toList_append, show a.size = a.data.toList.length by simp]
  simp only [List.getD]
  rw [List.getElem?_append_right (by omega), Nat.add_sub_cancel_left]
theorem bl_mem {s : ByteArray} {x : Int} (h : x ∈ bl s) : 0 ≤ x ∧ x < 256 := by
  unfold bl at h
  obtain ⟨b, -, rfl⟩ := List.mem_map.1 h
  have := UInt8.toNat_lt b
  omega
theorem bl_strOf (s : ByteArray) : strOfNums (bl s) = s := bl_ext (bl_strOfNums _ fun x hx => bl_mem hx)
end Go.Proofs.YthelhplcijhioaaGreat.Utf

/- The plain mathematics of layer 1: what strict UTF-8 is, on bytes as integers. No Go here. -/
set_option maxRecDepth 100000
set_option linter.unusedVariables false
namespace Go.Proofs.YthelhplcijhioaaGreat.Utf
open Go.Lib

def scalarB (r : Int) : Bool := decide (0 ≤ r ∧ r ≤ 1114111 ∧ ¬ (55296 ≤ r ∧ r ≤ 57343))

/-- The bytes of a rune. -/
def encL (r : Int) : List Int :=
  if scalarB r then
    if r < 128 then [r]
    else if r < 2048 then [192 + r / 64, 128 + r % 64]
    else if r < 65536 then [224 + r / 4096, 128 + r / 64 % 64, 128 + r % 64]
    else [240 + r / 262144, 128 + r / 4096 % 64, 128 + r / 64 % 64, 128 + r % 64]
  else []
def encS (r : Int) : ByteArray := strOfNums (encL r)

theorem encS_no {r : Int} (h : scalarB r = false) : encS r = ByteArray.empty := by unfold encS encL; rw [h]; rfl
theorem encS_1 {r : Int} (h : scalarB r = true) (h1 : r < 128) : encS r = strOfNums [r] := by unfold encS encL; rw [h]; simp [h1]
theorem encS_2 {r : Int} (h : scalarB r = true) (h0 : 128 ≤ r) (h1 : r < 2048) : encS r = strOfNums [192 + r / 64, 128 + r % 64] := by
  unfold encS encL; rw [h]; simp [h1, Int.not_lt.2 h0]
theorem encS_3 {r : Int} (h : scalarB r = true) (h0 : 2048 ≤ r) (h1 : r < 65536) : encS r = strOfNums [224 + r / 4096, 128 + r / 64 % 64, 128 + r % 64] := by
  unfold encS encL; rw [h]; simp [h1, Int.not_lt.2 h0, show ¬ r < 128 by omega]
theorem encS_4 {r : Int} (h : scalarB r = true) (h0 : 65536 ≤ r) : encS r = strOfNums [240 + r / 262144, 128 + r / 4096 % 64, 128 + r / 64 % 64, 128 + r % 64] := by
  unfold encS encL; rw [h]; simp [Int.not_lt.2 h0, show ¬ r < 128 by omega, show ¬ r < 2048 by omega]

/-- The length of the encodings that begin with a byte, and the bounds of their second byte. -/
def leadL (c : Int) : Int × Int × Int :=
  if c < 128 then (1, 0, 0) else if c < 194 then (0, 0, 0) else if c < 224 then (2, 128, 191)
  else if c = 224 then (3, 160, 191) else if c = 237 then (3, 128, 159) else if c < 240 then (3, 128, 191)
  else if c = 240 then (4, 144, 191) else if c < 244 then (4, 128, 191) else if c = 244 then (4, 128, 143) else (0, 0, 0)
def markL (n : Int) : Int := if n = 2 then 192 else if n = 3 then 224 else if n = 4 then 240 else 0

theorem leadL_cases (c : Int) (h0 : 0 ≤ c) (h1 : c ≤ 255) : (leadL c).1 = 0 ∨ ∃ (L : Nat) (lo hi : Int), leadL c = ((L : Int), lo, hi) ∧ 1 ≤ L ∧ L ≤ 4 ∧ 0 ≤ lo ∧ (2 ≤ L → 128 ≤ lo) ∧ lo ≤ 255 ∧ 0 ≤ hi ∧ (2 ≤ L → hi ≤ 191) ∧ hi ≤ 255 ∧
      markL L ≤ c ∧ c - markL L < 128 ∧ 0 ≤ markL L := by
  unfold leadL
  repeat' split
  · exact Or.inr ⟨1, 0, 0, rfl, by omega, by omega, by omega, by omega, by omega, by omega, by omega, by omega, by simp [markL]; try omega, by simp [markL]; try omega, by simp [markL]⟩
  · exact Or.inl rfl
  · exact Or.inr ⟨2, 128, 191, rfl, by omega, by omega, by omega, by omega, by omega, by omega, by omega, by omega, by simp [markL]; try omega, by simp [markL]; try omega, by simp [markL]⟩
  · exact Or.inr ⟨3, 160, 191, rfl, by omega, by omega, by omega, by omega, by omega, by omega, by omega, by omega, by simp [markL]; try omega, by simp [markL]; try omega, by simp [markL]⟩
  · exact Or.inr ⟨3, 128, 159, rfl, by omega, by omega, by omega, by omega, by omega, by omega, by omega, by omega, by simp [markL]; try omega, by simp [markL]; try omega, by simp [markL]⟩
  · exact Or.inr ⟨3, 128, 191, rfl, by omega, by omega, by omega, by omega, by omega, by omega, by omega, by omega, by simp [markL]; try omega, by simp [markL]; try omega, by simp [markL]⟩
  · exact Or.inr ⟨4, 144, 191, rfl, by omega, by omega, by omega, by omega, by omega, by omega, by omega, by omega, by simp [markL]; try omega, by simp [markL]; try omega, by simp [markL]⟩
  · exact Or.inr ⟨4, 128, 191, rfl, by omega, by omega, by omega, by omega, by omega, by omega, by omega, by omega, by simp [markL]; try omega, by simp [markL]; try omega, by simp [markL]⟩
  · exact Or.inr ⟨4, 128, 143, rfl, by omega, by omega, by omega, by omega, by omega, by omega, by omega, by omega, by simp [markL]; try omega, by simp [markL]; try omega, by simp [markL]⟩
  · exact Or.inl rfl

/-- The loop of Decode behind the first byte: n bytes are read, the rune so far is r, the next byte's bounds are lo and hi. -/
def decGo (s : ByteArray) (i L : Nat) : Nat → Nat → Int → Int → Int → Int × Int × Bool
  | 0, _, _, _, r => (r, L, true)
  | k + 1, n, lo, hi, r =>
    if n = s.size - i ∨ (byN s (i + n) : Int) < lo ∨ hi < (byN s (i + n) : Int) then (0, n, false)
    else decGo s i L k (n + 1) 128 191 (r * 64 + ((byN s (i + n) : Int) - 128))
/-- What stands at index i of s: a scalar, its length and true, or 0, the length of the incomplete beginning and false. -/
def decS (s : ByteArray) (i : Int) : Int × Int × Bool :=
  if i < 0 ∨ (s.size : Int) ≤ i then (0, 0, false)
  else
    let l := leadL (byN s i.toNat)
    if l.1 = 0 then (0, 1, false)
    else decGo s i.toNat l.1.toNat (l.1.toNat - 1) 1 l.2.1 l.2.2 ((byN s i.toNat : Int) - markL l.1)


theorem decGo_spec (s : ByteArray) (i L : Nat) : ∀ (k n : Nat) (lo hi r : Int), 1 ≤ n → n + k = L → n ≤ s.size - i →
    1 ≤ (decGo s i L k n lo hi r).2.1 ∧ (decGo s i L k n lo hi r).2.1 ≤ L ∧ (decGo s i L k n lo hi r).2.1 ≤ ((s.size - i : Nat) : Int) ∧ ((decGo s i L k n lo hi r).2.2 = false → (decGo s i L k n lo hi r).1 = 0)
  | 0, n, lo, hi, r, h1, h2, h3 => by simp only [decGo]; refine ⟨by omega, by omega, by omega, by simp⟩
  | k + 1, n, lo, hi, r, h1, h2, h3 => by
    rw [decGo]
    split
    · exact ⟨by simp; omega, by simp; omega, by simp; omega, fun _ => rfl⟩
    · exact decGo_spec s i L k (n + 1) _ _ _ (by omega) (by omega) (by omega)
/-- Inside the string Decode goes on by one to four bytes and stays inside. -/
theorem decS_spec (s : ByteArray) (i : Nat) (hi : i < s.size) :
    1 ≤ (decS s i).2.1 ∧ (decS s i).2.1 ≤ 4 ∧ (i : Int) + (decS s i).2.1 ≤ s.size ∧ ((decS s i).2.2 = false → (decS s i).1 = 0) := by
  unfold decS
  rw [if_neg (by omega)]
  simp only [Int.toNat_natCast]
  have hb := byN_lt s i
  rcases leadL_cases (byN s i) (by omega) (by omega) with h0 | ⟨L, lo, hi', hl, b1, b2, _⟩
  · rw [if_pos h0]; exact ⟨by decide, by decide, by simp; omega, fun _ => rfl⟩
  · rw [hl, if_neg (by simp; omega)]
    have := decGo_spec s i L (L - 1) 1 lo hi' ((byN s i : Int) - markL L) (by omega) (by omega) (by omega)
    simp only [Int.toNat_natCast]
    exact ⟨this.1, by omega, by omega, this.2.2.2⟩

/-- The first index, from i on, at which s is not well-formed (s.size: none). -/
def badGo (s : ByteArray) : Nat → Nat → Nat
  | 0, i => i
  | k + 1, i => if i < s.size then (if (decS s i).2.2 then badGo s k (i + (decS s i).2.1.toNat) else i) else i
def badS (s : ByteArray) : Nat := badGo s s.size 0
/-- Into how many scalars and incomplete beginnings s is divided from i on. -/
def countGo (s : ByteArray) : Nat → Nat → Nat
  | 0, _ => 0
  | k + 1, i => if i < s.size then countGo s k (i + (decS s i).2.1.toNat) + 1 else 0
def countS (s : ByteArray) : Nat := countGo s s.size 0

end Go.Proofs.YthelhplcijhioaaGreat.Utf
