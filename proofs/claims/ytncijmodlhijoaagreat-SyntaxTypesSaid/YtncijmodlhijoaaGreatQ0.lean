import Derived.Test.YtncijmodlhijoaaGreatChecked
import Derived.WalkKit
import Derived.WalkSpells
import Derived.WalkLawsBesides
import Derived.Lib.Hide
import Derived.Deep.QuietTactic
import Derived.BigQuiet
import Derived.Deep.LoopGhost
import Derived.Deep.RegionHeld3
import Derived.Deep.RegionWith
import Derived.Deep.DeepMust
import Derived.Lib.Bytes
import Derived.Laws.BytesArg
set_option linter.unusedVariables false
set_option maxRecDepth 100000
set_option maxHeartbeats 4000000
namespace Go.Proofs.YtncijmodlhijoaaGreat
open Go.RowKit Go.Lib
section
variable {R : Ending → World → Prop} {w : World}
theorem retB {a b : Bool} (h : R (.returned (.bool a)) w) (e : a = b) : R (.returned (.bool b)) w := e ▸ h
theorem retI {k : IntKind} {a b : Int} (h : R (.returned (.int k a)) w) (e : a = b) : R (.returned (.int k b)) w := e ▸ h
theorem retS {a b : ByteArray} (h : R (.returned (.string a)) w) (e : a = b) : R (.returned (.string b)) w := e ▸ h
end
@[simp] theorem intOf_int (k : IntKind) (n : Int) : intOf (.int k n) = n := rfl
theorem ret3e {R : Ending → World → Prop} {w : World} {k1 k2 : IntKind} {d : Int × Int × Bool} {a b : Int} {c : Bool}
  (h : R (.returned (.tuple #[.int k1 d.1, .int k2 d.2.1, .bool d.2.2])) w) (e : (a, b, c) = d) : R (.returned (.tuple #[.int k1 a, .int k2 b, .bool c])) w := by subst e; exact h
def isU8 : Value → Bool | .int .u8 _ => true | _ => false
def allU8 : List Value → Bool | [] => true | v :: l => isU8 v && allU8 l
@[simp] theorem allU8_nil : allU8 [] = true := rfl
@[simp] theorem allU8_cons (n : Int) (l : List Value) : allU8 (.int .u8 n :: l) = allU8 l := by simp [allU8, isU8]
theorem allU8_get : ∀ (l : List Value), allU8 l = true → ∀ i, i < l.length → l[i]? = some (.int .u8 ((l.map intOf).getD i 0))
 | [], _, i, h => by simp at h
 | v :: l, h, i, hi => by
  simp only [allU8, Bool.and_eq_true] at h
  cases i with
  | zero =>
   match v, h.1 with
   | .int .u8 n, _ => simp
  | succ i =>
   have := allU8_get l h.2 i (by simpa using hi)
   simpa using this
theorem run_conv_new {P : Program} (src dst e : TypeId) (hs : P.underlying src = some (.slice e)) (he : P.underlying e = some (.int .u8)) (hd : P.underlying dst = some .string)
  (w : World) (cs : Array Value) (T : TypeId) (n cap : Nat) (h : allU8 (cs.toList.take n) = true) (hn : n ≤ cs.size) :
  (convert src dst (.slice (some ⟨w.heap.size, 0, none⟩) n cap)).run P (w.alloc (.cells cs T)) = .ok (.string (strOfNums ((cs.toList.take n).map intOf))) (w.alloc (.cells cs T)) := by
 refine run_convert_bytes_arg (P := P) _ src e hs he w.heap.size 0 n cap _ (by simp; omega) ?_ dst hd
 intro i hi
 have h1 := allU8_get _ h i (by simp; omega)
 rw [List.getElem?_take_of_lt hi] at h1
 rw [Nat.zero_add, World.cell?_alloc_new, ← Array.getElem?_toList, h1]
theorem cvB : ∀ (w : World) (cs : Array Value) (T : TypeId) (n cap b : Nat), b = w.heap.size → allU8 (cs.toList.take n) = true → n ≤ cs.size →
  (convert 161 9 (.slice (some ⟨b, 0, none⟩) n cap)).run Tryz.prog (w.alloc (.cells cs T)) = .ok (.string (strOfNums ((cs.toList.take n).map intOf))) (w.alloc (.cells cs T)) :=
 fun w cs T n cap b hb h1 h2 => hb ▸ run_conv_new _ _ _ Tryz.underlying161 Tryz.underlying5 Tryz.underlying9 w cs T n cap h1 h2
end Go.Proofs.YtncijmodlhijoaaGreat
namespace Go.Proofs.YtncijmodlhijoaaGreat.Utf
open Go.Lib
def byN (s : ByteArray) (i : Nat) : Nat := (s.data.toList.getD i 0).toNat
theorem byN_lt (s : ByteArray) (i : Nat) : byN s i < 256 := UInt8.toNat_lt _
theorem byN_get (s : ByteArray) (k : Nat) (h : k < s.size) : s[k].toNat = byN s k := by
 unfold byN
 have h' : k < s.data.toList.length := by simpa using h
 simp only [List.getD, List.getElem?_eq_getElem h', Option.getD_some]
 rfl
theorem byN_extract (s : ByteArray) (i j k : Nat) (h : k < (s.extract i j).size) : (s.extract i j)[k].toNat = byN s (i + k) := by
 have hk : i + k < s.size := by simp [ByteArray.size_extract] at h; omega
 rw [← byN_get s (i + k) hk]
 simp [ByteArray.getElem_extract]
def bl (s : ByteArray) : List Int := s.data.toList.map fun b => (b.toNat : Int)
theorem ba_toList (a : ByteArray) : a.toList = a.data.toList := Go.Lib.toList_data a
theorem bl_inj {a b : ByteArray} : (a.toList == b.toList) = decide (bl a = bl b) := by
 rw [Bool.eq_iff_iff, ba_toList, ba_toList]
 simp only [beq_iff_eq, decide_eq_true_eq]
 constructor
 ·intro h; unfold bl; rw [h]
 ·intro h
  exact (List.map_inj_right (fun x y e => UInt8.toNat_inj.1 (by exact Int.ofNat.inj e))).1 h
theorem bl_ext {a b : ByteArray} (h : bl a = bl b) : a = b := by
 have h1 : (a.toList == b.toList) = true := by rw [bl_inj]; simpa using h
 have h2 : a.toList = b.toList := by simpa using h1
 rw [ba_toList, ba_toList] at h2
 exact ByteArray.ext (Array.ext' h2)
theorem bl_strOfNums (l : List Int) (h : ∀ x ∈ l, 0 ≤ x ∧ x < 256) : bl (strOfNums l) = l := by
 unfold bl
 rw [strOfNums_data, List.map_map]
 conv => rhs; rw [← List.map_id l]
 refine List.map_congr_left fun x hx => ?_
 have := h x hx
 simp [UInt8.toNat_ofNat']
 omega
theorem bl_get (s : ByteArray) (k : Nat) (h : k < s.size) : (bl s)[k]? = some (byN s k : Int) := by
 unfold bl byN
 have h' : k < s.data.toList.length := by simpa using h
 simp [List.getD, List.getElem?_eq_getElem h']
theorem bl_length (s : ByteArray) : (bl s).length = s.size := by unfold bl; simp
theorem bl_extract (s : ByteArray) (i j : Nat) : bl (s.extract i j) = ((bl s).take j).drop i := by
 unfold bl
 rw [ByteArray.data_extract, Array.toList_extract, List.extract_eq_take_drop, List.map_take, List.map_drop, List.drop_take]
theorem byN_ext (s : ByteArray) (i j k : Nat) (h : k < j - i) (hj : j ≤ s.size) : byN (s.extract i j) k = byN s (i + k) := by
 have h1 : k < (s.extract i j).size := by rw [ByteArray.size_extract]; omega
 rw [← byN_get _ _ h1, byN_extract]
theorem bl_append (a b : ByteArray) : bl (a ++ b) = bl a ++ bl b := by unfold bl; simp
theorem byN_of_bl {s : ByteArray} {k : Nat} {x : Int} (h : (bl s)[k]? = some x) : (byN s k : Int) = x := by
 have hk : k < s.size := by
  rw [← bl_length]; exact (List.getElem?_eq_some_iff.1 h).1
 rw [bl_get s k hk] at h
 exact Option.some.inj h
theorem bl_drop {s : ByteArray} {i : Nat} (h : i < s.size) : (bl s).drop i = (byN s i : Int) :: (bl s).drop (i + 1) := by
 have := bl_get s i h
 rw [List.drop_eq_getElem_cons (by rw [bl_length]; exact h)]
 rw [List.getElem?_eq_getElem (by rw [bl_length]; exact h)] at this
 rw [Option.some.inj this]
theorem bl_from {s : ByteArray} {i : Nat} : bl (s.extract i s.size) = (bl s).drop i := by
 rw [bl_extract, List.take_of_length_le (by rw [bl_length]; exact Nat.le_refl _)]
theorem bl_upto {s : ByteArray} {n : Nat} : bl (s.extract 0 n) = (bl s).take n := by rw [bl_extract, List.drop_zero]
theorem bl_one (s : ByteArray) (i : Nat) (hi : i < s.size) : bl (s.extract i (i + 1)) = [(byN s i : Int)] := by
 rw [bl_extract, List.drop_take, show i + 1 - i = 1 by omega]
 have h := bl_get s i hi
 rw [List.take_one, List.head?_drop, h]
 rfl
theorem byN_drop {s : ByteArray} {i j : Nat} {l r : List Int} {x : Int} (h : (bl s).drop i = l ++ r) (hj : l[j]? = some x) : (byN s (i + j) : Int) = x := by
 apply byN_of_bl
 rw [← List.getElem?_drop, h, List.getElem?_append_left (List.getElem?_eq_some_iff.1 hj).1, hj]
theorem byN_append_left {a b : ByteArray} {i : Nat} (h : i < a.size) : byN (a ++ b) i = byN a i := by
 unfold byN
 congr 1
 have h' : i < a.data.toList.length := by simpa using h
 simp [List.getD, List.getElem?_append_left h']
def scalarB (r : Int) : Bool := decide (0 ≤ r ∧ r ≤ 1114111 ∧ ¬ (55296 ≤ r ∧ r ≤ 57343))
def encL (r : Int) : List Int :=
 if scalarB r then
  if r < 128 then [r]
  else if r < 2048 then [192 + r / 64, 128 + r % 64]
  else if r < 65536 then [224 + r / 4096, 128 + r / 64 % 64, 128 + r % 64]
  else [240 + r / 262144, 128 + r / 4096 % 64, 128 + r / 64 % 64, 128 + r % 64]
 else []
def encS (r : Int) : ByteArray := strOfNums (encL r)
theorem encS_no {r : Int} (h : scalarB r = false) : encS r = ByteArray.empty := by unfold encS encL; rw [h]; rfl
theorem encS_1 {r : Int} (h : scalarB r = true) (h1 : r < 128) : encS r = strOfNums [r] := by unfold encS encL; rw [h]; simp [h1]
theorem encS_2 {r : Int} (h : scalarB r = true) (h0 : 128 ≤ r) (h1 : r < 2048) : encS r = strOfNums [192 + r / 64, 128 + r % 64] := by
 unfold encS encL; rw [h]; simp [h1, Int.not_lt.2 h0]
theorem encS_3 {r : Int} (h : scalarB r = true) (h0 : 2048 ≤ r) (h1 : r < 65536) : encS r = strOfNums [224 + r / 4096, 128 + r / 64 % 64, 128 + r % 64] := by
 unfold encS encL; rw [h]; simp [h1, Int.not_lt.2 h0, show ¬ r < 128 by omega]
theorem encS_4 {r : Int} (h : scalarB r = true) (h0 : 65536 ≤ r) : encS r = strOfNums [240 + r / 262144, 128 + r / 4096 % 64, 128 + r / 64 % 64, 128 + r % 64] := by
 unfold encS encL; rw [h]; simp [Int.not_lt.2 h0, show ¬ r < 128 by omega, show ¬ r < 2048 by omega]
def leadL (c : Int) : Int × Int × Int :=
 if c < 128 then (1, 0, 0) else if c < 194 then (0, 0, 0) else if c < 224 then (2, 128, 191)
 else if c = 224 then (3, 160, 191) else if c = 237 then (3, 128, 159) else if c < 240 then (3, 128, 191)
 else if c = 240 then (4, 144, 191) else if c < 244 then (4, 128, 191) else if c = 244 then (4, 128, 143) else (0, 0, 0)
def markL (n : Int) : Int := if n = 2 then 192 else if n = 3 then 224 else if n = 4 then 240 else 0
theorem leadL_cases (c : Int) (h0 : 0 ≤ c) (h1 : c ≤ 255) : (leadL c).1 = 0 ∨ ∃ (L : Nat) (lo hi : Int), leadL c = ((L : Int), lo, hi) ∧ 1 ≤ L ∧ L ≤ 4 ∧ 0 ≤ lo ∧ (2 ≤ L → 128 ≤ lo) ∧ lo ≤ 255 ∧ 0 ≤ hi ∧ (2 ≤ L → hi ≤ 191) ∧ hi ≤ 255 ∧
      markL L ≤ c ∧ c - markL L < 128 ∧ 0 ≤ markL L := by
  unfold leadL
  repeat' split
  · exact Or.inr ⟨1, 0, 0, rfl, by omega, by omega, by omega, by omega, by omega, by omega, by omega, by omega, by simp [markL]; try omega, by simp [markL]; try omega, by simp [markL]⟩
  · exact Or.inl rfl
  · exact Or.inr ⟨2, 128, 191, rfl, by omega, by omega, by omega, by omega, by omega, by omega, by omega, by omega, by simp [markL]; try omega, by simp [markL]; try omega, by simp [markL]⟩
  · exact Or.inr ⟨3, 160, 191, rfl, by omega, by omega, by omega, by omega, by omega, by omega, by omega, by omega, by simp [markL]; try omega, by simp [markL]; try omega, by simp [markL]⟩
  · exact Or.inr ⟨3, 128, 159, rfl, by omega, by omega, by omega, by omega, by omega, by omega, by omega, by omega, by simp [markL]; try omega, by simp [markL]; try omega, by simp [markL]⟩
  · exact Or.inr ⟨3, 128, 191, rfl, by omega, by omega, by omega, by omega, by omega, by omega, by omega, by omega, by simp [markL]; try omega, by simp [markL]; try omega, by simp [markL]⟩
  · exact Or.inr ⟨4, 144, 191, rfl, by omega, by omega, by omega, by omega, by omega, by omega, by omega, by omega, by simp [markL]; try omega, by simp [markL]; try omega, by simp [markL]⟩
  · exact Or.inr ⟨4, 128, 191, rfl, by omega, by omega, by omega, by omega, by omega, by omega, by omega, by omega, by simp [markL]; try omega, by simp [markL]; try omega, by simp [markL]⟩
  · exact Or.inr ⟨4, 128, 143, rfl, by omega, by omega, by omega, by omega, by omega, by omega, by omega, by omega, by simp [markL]; try omega, by simp [markL]; try omega, by simp [markL]⟩
  · exact Or.inl rfl
def decGo (s : ByteArray) (i L : Nat) : Nat → Nat → Int → Int → Int → Int × Int × Bool
 | 0, _, _, _, r => (r, L, true)
 | k + 1, n, lo, hi, r =>
  if n = s.size - i ∨ (byN s (i + n) : Int) < lo ∨ hi < (byN s (i + n) : Int) then (0, n, false)
  else decGo s i L k (n + 1) 128 191 (r * 64 + ((byN s (i + n) : Int) - 128))
def decS (s : ByteArray) (i : Int) : Int × Int × Bool :=
 if i < 0 ∨ (s.size : Int) ≤ i then (0, 0, false)
 else
  let l := leadL (byN s i.toNat)
  if l.1 = 0 then (0, 1, false)
  else decGo s i.toNat l.1.toNat (l.1.toNat - 1) 1 l.2.1 l.2.2 ((byN s i.toNat : Int) - markL l.1)
theorem decGo_spec (s : ByteArray) (i L : Nat) : ∀ (k n : Nat) (lo hi r : Int), 1 ≤ n → n + k = L → n ≤ s.size - i →
  1 ≤ (decGo s i L k n lo hi r).2.1 ∧ (decGo s i L k n lo hi r).2.1 ≤ L ∧ (decGo s i L k n lo hi r).2.1 ≤ ((s.size - i : Nat) : Int) ∧ ((decGo s i L k n lo hi r).2.2 = false → (decGo s i L k n lo hi r).1 = 0)
 | 0, n, lo, hi, r, h1, h2, h3 => by simp only [decGo]; refine ⟨by omega, by omega, by omega, by simp⟩
 | k + 1, n, lo, hi, r, h1, h2, h3 => by
  rw [decGo]
  split
  ·exact ⟨by simp; omega, by simp; omega, by simp; omega, fun _ => rfl⟩
  ·exact decGo_spec s i L k (n + 1) _ _ _ (by omega) (by omega) (by omega)
theorem decS_spec (s : ByteArray) (i : Nat) (hi : i < s.size) :
  1 ≤ (decS s i).2.1 ∧ (decS s i).2.1 ≤ 4 ∧ (i : Int) + (decS s i).2.1 ≤ s.size ∧ ((decS s i).2.2 = false → (decS s i).1 = 0) := by
 unfold decS
 rw [if_neg (by omega)]
 simp only [Int.toNat_natCast]
 have hb := byN_lt s i
 rcases leadL_cases (byN s i) (by omega) (by omega) with h0 | ⟨L, lo, hi', hl, b1, b2, _⟩
 ·rw [if_pos h0]; exact ⟨by decide, by decide, by simp; omega, fun _ => rfl⟩
 ·rw [hl, if_neg (by simp; omega)]
  have := decGo_spec s i L (L - 1) 1 lo hi' ((byN s i : Int) - markL L) (by omega) (by omega) (by omega)
  simp only [Int.toNat_natCast]
  exact ⟨this.1, by omega, by omega, this.2.2.2⟩
def badGo (s : ByteArray) : Nat → Nat → Nat
 | 0, i => i
 | k + 1, i => if i < s.size then (if (decS s i).2.2 then badGo s k (i + (decS s i).2.1.toNat) else i) else i
def badS (s : ByteArray) : Nat := badGo s s.size 0
def countGo (s : ByteArray) : Nat → Nat → Nat
 | 0, _ => 0
 | k + 1, i => if i < s.size then countGo s k (i + (decS s i).2.1.toNat) + 1 else 0
def countS (s : ByteArray) : Nat := countGo s s.size 0
end Go.Proofs.YtncijmodlhijoaaGreat.Utf
namespace Go.Proofs.YtncijmodlhijoaaGreat.Utf
open Go.RowKit Go.Lib
theorem scalar_calls (r : Int) (w : World) (R : Ending → World → Prop) (h : R (.returned (.bool (scalarB r))) w) :
  Calls Tryz.prog 366 #[.int .i32 r] w R := by
 go_enter Tryz.func366, Tryz.ntmps366
 go_wp2
 all_goals refine retB h ?_
 all_goals (unfold scalarB; rw [Bool.eq_iff_iff]; simp; omega)
theorem scalar2_calls (r : Int) (w : World) (R : Ending → World → Prop) (h : R (.returned (.bool (scalarB r))) w) :
  Calls Tryz.prog 233 #[.int .i32 r] w R := by
 go_enter Tryz.func233, Tryz.ntmps233
 go_wp2
 all_goals refine retB h ?_
 all_goals (unfold scalarB; rw [Bool.eq_iff_iff]; simp; omega)
theorem and63 (r : Int) (h0 : 0 ≤ r) (h1 : r ≤ 1114111) : bits BinOp.and IntKind.i32 r 63 = r % 64 := by
 have h63 : (BitVec.ofInt 32 63).toNat = 2 ^ 6 - 1 := by decide
 have key : (BitVec.ofInt 32 r &&& BitVec.ofInt 32 63).toNat = (r % ((2 ^ 32 : Nat) : Int)).toNat % 2 ^ 6 := by
  rw [BitVec.toNat_and, BitVec.toNat_ofInt, h63, Nat.and_two_pow_sub_one_eq_mod]
 show IntKind.i32.wrap ((BitVec.ofInt 32 r &&& BitVec.ofInt 32 63).toNat : Nat) = r % 64
 rw [key, IntKind.wrap_i32]
 omega
section
variable (r : Int) (w : World) (R : Ending → World → Prop) (hR : Hid (∀ w', Below w.heap.size w w' → R (.returned (.string (encS r))) w'))
include hR
theorem enc_no (hs : scalarB r = false) : Calls Tryz.prog 367 #[.int .i32 r] w R := by
 have hR := hR.out _ (Below.refl _ _)
 rw [encS_no hs] at hR
 go_enter Tryz.func367, Tryz.ntmps367
 go_wp2_with (first | (go_at_call 366; refine scalar_calls _ _ _ ?_; rw [hs]) | go_in)
 exact hR
theorem enc_1 (hs : scalarB r = true) (h1 : r < 128) : Calls Tryz.prog 367 #[.int .i32 r] w R := by
 have hE := Lib.hid (encS_1 hs h1)
 have h0 : 0 ≤ r := by unfold scalarB at hs; simp at hs; omega
 have cv := cvB
 go_enter Tryz.func367, Tryz.ntmps367
 go_wp2_with (first | (go_at_call 366; refine scalar_calls _ _ _ ?_; rw [hs]) | go_in)
 exact retS (hR.out _ ((Below.refl _ _).alloc (Nat.le_refl _) _)) (by rw [hE.out]; try simp [Int.ediv_ediv])
theorem enc_2 (hs : scalarB r = true) (h0 : 128 ≤ r) (h1 : r < 2048) : Calls Tryz.prog 367 #[.int .i32 r] w R := by
 have hE := Lib.hid (encS_2 hs h0 h1)
 have cv := cvB
 have a1 := and63 r (by omega) (by omega)
 go_enter Tryz.func367, Tryz.ntmps367
 go_wp2_with (first | (go_at_call 366; refine scalar_calls _ _ _ ?_; rw [hs]) | go_in)
 exact retS (hR.out _ ((Below.refl _ _).alloc (Nat.le_refl _) _)) (by rw [hE.out]; try simp [Int.ediv_ediv])
theorem enc_3 (hs : scalarB r = true) (h0 : 2048 ≤ r) (h1 : r < 65536) : Calls Tryz.prog 367 #[.int .i32 r] w R := by
 have hE := Lib.hid (encS_3 hs h0 h1)
 have cv := cvB
 have a1 := and63 r (by omega) (by omega)
 have a2 := and63 (r / 64) (by omega) (by omega)
 go_enter Tryz.func367, Tryz.ntmps367
 go_wp2_with (first | (go_at_call 366; refine scalar_calls _ _ _ ?_; rw [hs]) | go_in)
 exact retS (hR.out _ ((Below.refl _ _).alloc (Nat.le_refl _) _)) (by rw [hE.out]; try simp [Int.ediv_ediv])
theorem enc_4 (hs : scalarB r = true) (h0 : 65536 ≤ r) : Calls Tryz.prog 367 #[.int .i32 r] w R := by
 have hE := Lib.hid (encS_4 hs h0)
 have h1 : r ≤ 1114111 := by unfold scalarB at hs; simp at hs; omega
 have cv := cvB
 have a1 := and63 r (by omega) (by omega)
 have a2 := and63 (r / 64) (by omega) (by omega)
 have a3 := and63 (r / 64 / 64) (by omega) (by omega)
 go_enter Tryz.func367, Tryz.ntmps367
 go_wp2_with (first | (go_at_call 366; refine scalar_calls _ _ _ ?_; rw [hs]) | go_in)
 exact retS (hR.out _ ((Below.refl _ _).alloc (Nat.le_refl _) _)) (by rw [hE.out]; try simp [Int.ediv_ediv])
theorem enc_calls : Calls Tryz.prog 367 #[.int .i32 r] w R := by
 by_cases hs : scalarB r = true
 ·by_cases h1 : r < 128
  ·exact enc_1 r w R hR hs h1
  by_cases h2 : r < 2048
  ·exact enc_2 r w R hR hs (by omega) h2
  by_cases h3 : r < 65536
  ·exact enc_3 r w R hR hs (by omega) h3
  exact enc_4 r w R hR hs (by omega)
 ·exact enc_no r w R hR (by simpa using hs)
theorem ref_no (hs : scalarB r = false) : Calls Tryz.prog 234 #[.int .i32 r] w R := by
 have hR := hR.out _ (Below.refl _ _)
 rw [encS_no hs] at hR
 go_enter Tryz.func234, Tryz.ntmps234
 go_wp2_with (first | (go_at_call 233; refine scalar2_calls _ _ _ ?_; rw [hs]) | go_in)
 exact hR
theorem ref_1 (hs : scalarB r = true) (h1 : r < 128) : Calls Tryz.prog 234 #[.int .i32 r] w R := by
 have hE := Lib.hid (encS_1 hs h1)
 have h0 : 0 ≤ r := by unfold scalarB at hs; simp at hs; omega
 have cv := cvB
 go_enter Tryz.func234, Tryz.ntmps234
 go_wp2_with (first | (go_at_call 233; refine scalar2_calls _ _ _ ?_; rw [hs]) | go_in)
 exact retS (hR.out _ ((Below.refl _ _).alloc (Nat.le_refl _) _)) (by rw [hE.out]; try simp [Int.ediv_ediv])
theorem ref_2 (hs : scalarB r = true) (h0 : 128 ≤ r) (h1 : r < 2048) : Calls Tryz.prog 234 #[.int .i32 r] w R := by
 have hE := Lib.hid (encS_2 hs h0 h1)
 have cv := cvB
 go_enter Tryz.func234, Tryz.ntmps234
 go_wp2_with (first | (go_at_call 233; refine scalar2_calls _ _ _ ?_; rw [hs]) | go_in)
 exact retS (hR.out _ ((Below.refl _ _).alloc (Nat.le_refl _) _)) (by rw [hE.out]; try simp [Int.ediv_ediv])
theorem ref_3 (hs : scalarB r = true) (h0 : 2048 ≤ r) (h1 : r < 65536) : Calls Tryz.prog 234 #[.int .i32 r] w R := by
 have hE := Lib.hid (encS_3 hs h0 h1)
 have cv := cvB
 go_enter Tryz.func234, Tryz.ntmps234
 go_wp2_with (first | (go_at_call 233; refine scalar2_calls _ _ _ ?_; rw [hs]) | go_in)
 exact retS (hR.out _ ((Below.refl _ _).alloc (Nat.le_refl _) _)) (by rw [hE.out]; try simp [Int.ediv_ediv])
theorem ref_4 (hs : scalarB r = true) (h0 : 65536 ≤ r) : Calls Tryz.prog 234 #[.int .i32 r] w R := by
 have hE := Lib.hid (encS_4 hs h0)
 have h1 : r ≤ 1114111 := by unfold scalarB at hs; simp at hs; omega
 have cv := cvB
 go_enter Tryz.func234, Tryz.ntmps234
 go_wp2_with (first | (go_at_call 233; refine scalar2_calls _ _ _ ?_; rw [hs]) | go_in)
 exact retS (hR.out _ ((Below.refl _ _).alloc (Nat.le_refl _) _)) (by rw [hE.out]; try simp [Int.ediv_ediv])
theorem ref_calls : Calls Tryz.prog 234 #[.int .i32 r] w R := by
 by_cases hs : scalarB r = true
 ·by_cases h1 : r < 128
  ·exact ref_1 r w R hR hs h1
  by_cases h2 : r < 2048
  ·exact ref_2 r w R hR hs (by omega) h2
  by_cases h3 : r < 65536
  ·exact ref_3 r w R hR hs (by omega) h3
  exact ref_4 r w R hR hs (by omega)
 ·exact ref_no r w R hR (by simpa using hs)
end
theorem lead_calls (c : Int) (w : World) (R : Ending → World → Prop)
  (hR : R (.returned (.tuple #[.int .i64 (leadL c).1, .int .u8 (leadL c).2.1, .int .u8 (leadL c).2.2])) w) :
  Calls Tryz.prog 313 #[.int .u8 c] w R := by
 go_enter Tryz.func313, Tryz.ntmps313
 go_wp2
 all_goals go_ret3
 all_goals try simp only [beq_iff_eq, beq_eq_false_iff_ne, ne_eq] at *
 all_goals unfold leadL at hR
 all_goals repeat (first | rw [if_pos (by omega)] at hR | rw [if_neg (by omega)] at hR)
 all_goals exact hR
theorem mark_k (n : Int) (w : World) (R : Ending → World → Prop) (hR : R (.returned (.int .u8 (markL n))) w) : Calls Tryz.prog 314 #[.int .i64 n] w R := by
 go_enter Tryz.func314, Tryz.ntmps314
 go_wp2
 all_goals refine retI hR ?_
 all_goals try simp only [beq_iff_eq, beq_eq_false_iff_ne, ne_eq] at *
 all_goals unfold markL
 all_goals repeat (first | rw [if_pos (by omega)] | rw [if_neg (by omega)])
theorem mark_calls (n : Int) (w : World) : Calls Tryz.prog 314 #[.int .i64 n] w fun e w' => e = .returned (.int .u8 (markL n)) ∧ w' = w := mark_k n w _ ⟨rfl, rfl⟩
theorem dec_t (s : ByteArray) (i L : Nat) (w : World) (hs : s.size ≤ maxLen) (hi : i < s.size) (lo hi' : Int) (hl : Hid (leadL (byN s i) = ((L : Int), lo, hi')))
  (b1 : 1 ≤ L) (b2 : L ≤ 4) (b3 : 0 ≤ lo) (b3' : 2 ≤ L → 128 ≤ lo) (b4 : lo ≤ 255) (b5 : 0 ≤ hi') (b5' : 2 ≤ L → hi' ≤ 191) (b6 : hi' ≤ 255) (b7 : markL L ≤ byN s i) (b8 : (byN s i : Int) - markL L < 128) (b9 : 0 ≤ markL L)
  (hD : Hid (decGo s i L (L - 1) 1 lo hi' ((byN s i : Int) - markL L) = decS s i))
  (R : Ending → World → Prop) (hR : Hid (∀ nq, R (.returned (.tuple #[.int .i32 (decS s i).1, .int .i64 (decS s i).2.1, .bool (decS s i).2.2])) (w.drewN nq))) :
  Calls Tryz.prog 271 #[.string s, .int .i64 i] w R := by
 unfold maxLen at hs
 have hb := byN_extract s i
 have hb0 := byN_lt s i
 have hL : ((L : Int) == 0) = false := by simp; omega
 go_enter Tryz.func271, Tryz.ntmps271
 go_wp2_with fail
 refine lead_calls _ _ _ ?_
 rw [hl.out]
 go_wp2_with fail
 go_quiet ((go_at_call 314; exact Calls.quiet_of_same (mark_calls _ _)))
 go_wp2_with fail
 go_loopg [4, 5, 9, 10] (L - 1) (fun k r n x y wr => wr = w.drewN nq ∧ ∃ (N : Nat) (X Y Z : Int), r = .int .i32 Z ∧ n = .int .i64 N ∧ x = .int .u8 X ∧ y = .int .u8 Y ∧ 1 ≤ N ∧ N + k = L ∧ N ≤ s.size - i ∧ 0 ≤ X ∧ (N < L → 128 ≤ X) ∧ X ≤ 255 ∧ 0 ≤ Y ∧ (N < L → Y ≤ 191) ∧ Y ≤ 255 ∧ 0 ≤ Z ∧ (N = 1 → Z ≤ 127) ∧ (N = 2 → Z ≤ 8191) ∧ (N = 3 → Z ≤ 524287) ∧
  decGo s i L k N X Y Z = decS s i)
 case atStart => exact ⟨rfl, 1, lo, hi', _, rfl, rfl, rfl, rfl, by omega, by omega, by omega, by omega, by omega, by omega, by omega, by omega, by omega, by omega, by omega, by omega, by omega, hD.out⟩
 case round =>
  obtain ⟨rfl, N, X, Y, Z, rfl, rfl, rfl, rfl, c1, c2, c3, c4, c4', c5, c6, c6', c7, c8, c9, c10, c11, c12⟩ := hrel
  replace c12 := Lib.hid c12
  by_cases hn : N < L
  ·obtain ⟨k, rfl⟩ : ∃ k, gk = k + 1 := ⟨gk - 1, by omega⟩
   have hb1 := byN_lt s (i + N)
   have hNL : N ≤ 3 := by omega
   have c4'' := c4' hn
   have c6'' := c6' hn
   clear c4' c6'
   by_cases t1 : N = s.size - i
   ·go_wp2_with fail
    go_ret3
    have e := c12.out
    rw [decGo, if_pos (Or.inl t1)] at e
    exact ret3e (hR.out _) e
   by_cases t2 : (byN s (i + N) : Int) < X
   ·go_wp2_with fail
    go_ret3
    have e := c12.out
    rw [decGo, if_pos (Or.inr (Or.inl t2))] at e
    exact ret3e (hR.out _) e
   by_cases t3 : Y < (byN s (i + N) : Int)
   ·go_wp2_with fail
    go_ret3
    have e := c12.out
    rw [decGo, if_pos (Or.inr (Or.inr t3))] at e
    exact ret3e (hR.out _) e
   have e := c12.out
   rw [decGo, if_neg (by omega)] at e
   replace e := Lib.hid e
   go_wp2_with fail
   go_roundg k
   case measure => omega
   case rel => exact ⟨rfl, N + 1, _, _, _, rfl, by go_num, rfl, rfl, by omega, by omega, by omega, by omega, by omega, by omega, by omega, by omega, by omega, by omega, by omega, by omega, by omega, e.out⟩
  ·go_wp2_with fail
   go_ret3
   obtain rfl : gk = 0 := by omega
   have e := c12.out
   rw [decGo] at e
   exact ret3e (hR.out _) e
theorem dec_calls (s : ByteArray) (i : Int) (w : World) (hs : s.size ≤ maxLen) (R : Ending → World → Prop)
  (hR : Hid (∀ nq, R (.returned (.tuple #[.int .i32 (decS s i).1, .int .i64 (decS s i).2.1, .bool (decS s i).2.2])) (w.drewN nq))) :
  Calls Tryz.prog 271 #[.string s, .int .i64 i] w R := by
 by_cases h1 : i < 0
 ·have hD : (0, 0, false) = decS s i := by unfold decS; rw [if_pos (Or.inl h1)]
  replace hD := Lib.hid hD
  have hR0 := Lib.hid (hR.out 0)
  clear hR
  unfold maxLen at hs
  go_enter Tryz.func271, Tryz.ntmps271
  go_wp2_with fail
  go_ret3
  exact ret3e hR0.out hD.out
 by_cases h2 : (s.size : Int) ≤ i
 ·have hD : (0, 0, false) = decS s i := by unfold decS; rw [if_pos (Or.inr h2)]
  replace hD := Lib.hid hD
  have hR0 := Lib.hid (hR.out 0)
  clear hR
  unfold maxLen at hs
  go_enter Tryz.func271, Tryz.ntmps271
  go_wp2_with fail
  go_ret3
  exact ret3e hR0.out hD.out
 obtain ⟨j, rfl⟩ := Int.eq_ofNat_of_zero_le (by omega : 0 ≤ i)
 have hj : j < s.size := by omega
 have hb0 := byN_lt s j
 have e0 : decS s (j : Int) = if (leadL (byN s j)).1 = 0 then (0, 1, false)
   else decGo s j (leadL (byN s j)).1.toNat ((leadL (byN s j)).1.toNat - 1) 1 (leadL (byN s j)).2.1 (leadL (byN s j)).2.2 ((byN s j : Int) - markL (leadL (byN s j)).1) := by
  unfold decS; rw [if_neg (by omega)]; rfl
 have key := leadL_cases (byN s j) (by omega) (by omega)
 rcases key with h0 | ⟨L, lo, hi', hl, b1, b2, b3, b3', b4, b5, b5', b6, b7, b8, b9⟩
 ·rw [if_pos h0] at e0
  have hl : ∃ lo hi', leadL (byN s j) = (0, lo, hi') := ⟨(leadL (byN s j)).2.1, (leadL (byN s j)).2.2, by rw [← h0]⟩
  obtain ⟨lo, hi', hl⟩ := hl
  replace hl := Lib.hid hl
  have hD := Lib.hid e0.symm
  have hb := byN_extract s j
  have hR0 := Lib.hid (hR.out 0)
  clear hR e0 h0
  unfold maxLen at hs
  go_enter Tryz.func271, Tryz.ntmps271
  go_wp2_with fail
  refine lead_calls _ _ _ ?_
  rw [hl.out]
  go_wp2_with fail
  go_ret3
  exact ret3e hR0.out hD.out
 ·refine dec_t s j L w hs hj lo hi' (Lib.hid hl) b1 b2 b3 b3' b4 b5 b5' b6 b7 b8 b9 ?_ R hR
  rw [hl, if_neg (by simp; omega)] at e0
  simp only [Int.toNat_natCast] at e0
  exact e0.symm
end Go.Proofs.YtncijmodlhijoaaGreat.Utf
