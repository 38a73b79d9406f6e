import Derived.Lib.Bytes
import Derived.Laws.BytesArg
import GoSem.Op.String
import Derived.Test.YtncijmodlhijoaaGreatQ0
import Derived.Deep.Slices
import Derived.ProofKit
set_option linter.unusedVariables false
set_option maxRecDepth 100000
set_option maxHeartbeats 4000000
namespace Go.Proofs.YtncijmodlhijoaaGreat.Utf
open Go.Lib
def byN (s : ByteArray) (i : Nat) : Nat := (s.data.toList.getD i 0).toNat
theorem byN_lt (s : ByteArray) (i : Nat) : byN s i < 256 := UInt8.toNat_lt _
theorem byN_get (s : ByteArray) (k : Nat) (h : k < s.size) : s[k].toNat = byN s k := by
  unfold byN
  have h' : k < s.data.toList.length := by simpa using h
  simp only [List.getD, List.getElem?_eq_getElem h', Option.getD_some]
  rfl
def bl (s : ByteArray) : List Int := s.data.toList.map fun b => (b.toNat : Int)
theorem ba_toList (a : ByteArray) : a.toList = a.data.toList := Go.Lib.toList_data a
theorem bl_inj {a b : ByteArray} : (a.toList == b.toList) = decide (bl a = bl b) := by
  rw [Bool.eq_iff_iff, ba_toList, ba_toList]
  simp only [beq_iff_eq, decide_eq_true_eq]
  constructor
  · intro h; unfold bl; rw [h]
  · intro h
    exact (List.map_inj_right (fun x y e => UInt8.toNat_inj.1 (by exact Int.ofNat.inj e))).1 h
theorem bl_ext {a b : ByteArray} (h : bl a = bl b) : a = b := by
  have h1 : (a.toList == b.toList) = true := by rw [bl_inj]; simpa using h
  have h2 : a.toList = b.toList := by simpa using h1
  rw [ba_toList, ba_toList] at h2
  exact ByteArray.ext (Array.ext' h2)
theorem bl_get (s : ByteArray) (k : Nat) (h : k < s.size) : (bl s)[k]? = some (byN s k : Int) := by
  unfold bl byN
  have h' : k < s.data.toList.length := by simpa using h
  simp [List.getD, List.getElem?_eq_getElem h']
theorem bl_length (s : ByteArray) : (bl s).length = s.size := by unfold bl; simp
theorem bl_drop {s : ByteArray} {i : Nat} (h : i < s.size) : (bl s).drop i = (byN s i : Int) :: (bl s).drop (i + 1) := by
  have := bl_get s i h
  rw [List.drop_eq_getElem_cons (by rw [bl_length]; exact h)]
  rw [List.getElem?_eq_getElem (by rw [bl_length]; exact h)] at this
  rw [Option.some.inj this]
end Go.Proofs.YtncijmodlhijoaaGreat.Utf
namespace Go.Proofs.YtncijmodlhijoaaGreat.Nam
open Go.Lib Utf
theorem less_irr : ∀ (a : List UInt8), Go.Op.bytesLess a a = false
  | [] => rfl
  | a :: x => by
    simp only [Go.Op.bytesLess, less_irr x, Bool.and_false, Bool.or_false]
    exact decide_eq_false (UInt8.lt_irrefl a)
theorem less_cons (a b : UInt8) (x y : List UInt8) : Go.Op.bytesLess (a :: x) (b :: y) = true ↔ a.toNat < b.toNat ∨ (a = b ∧ Go.Op.bytesLess x y = true) := by
  simp only [Go.Op.bytesLess, Bool.or_eq_true, decide_eq_true_eq, Bool.and_eq_true, beq_iff_eq, UInt8.lt_iff_toNat_lt]
theorem less_trans : ∀ {a b c : List UInt8}, Go.Op.bytesLess a b = true → Go.Op.bytesLess b c = true → Go.Op.bytesLess a c = true
  | _, [], _, h, _ => by simp [Go.Op.bytesLess] at h
  | _, _ :: _, [], _, h => by simp [Go.Op.bytesLess] at h
  | [], _ :: _, _ :: _, _, _ => rfl
  | a :: x, b :: y, c :: z, h1, h2 => by
    rw [less_cons] at h1 h2 ⊢
    rcases h1 with h1 | ⟨rfl, h1⟩
    · rcases h2 with h2 | ⟨rfl, h2⟩
      · exact .inl (by omega)
      · exact .inl h1
    · rcases h2 with h2 | ⟨rfl, h2⟩
      · exact .inl h2
      · exact .inr ⟨rfl, less_trans h1 h2⟩
theorem less_tri : ∀ {a b : List UInt8}, Go.Op.bytesLess a b = false → Go.Op.bytesLess b a = false → a = b
  | [], [], _, _ => rfl
  | [], _ :: _, h, _ => by simp [Go.Op.bytesLess] at h
  | _ :: _, [], _, h => by simp [Go.Op.bytesLess] at h
  | a :: x, b :: y, h1, h2 => by
    have g1 := mt (less_cons a b x y).2 (by rw [h1]; decide)
    have g2 := mt (less_cons b a y x).2 (by rw [h2]; decide)
    have e : a = b := UInt8.toNat_inj.1 (by omega)
    subst e
    have q1 : Go.Op.bytesLess x y = false := by
      cases h : Go.Op.bytesLess x y
      · rfl
      · exact absurd (.inr ⟨rfl, h⟩) g1
    have q2 : Go.Op.bytesLess y x = false := by
      cases h : Go.Op.bytesLess y x
      · rfl
      · exact absurd (.inr ⟨rfl, h⟩) g2
    rw [less_tri q1 q2]
def lt (a b : ByteArray) : Bool := Go.Op.bytesLess a.toList b.toList
theorem lt_irr (a : ByteArray) : lt a a = false := less_irr _
theorem lt_trans {a b c : ByteArray} (h : lt a b = true) (k : lt b c = true) : lt a c = true := less_trans h k
theorem str_ext {a b : ByteArray} (h : a.toList = b.toList) : a = b := by
  rw [ba_toList, ba_toList] at h
  exact ByteArray.ext (Array.ext' h)
theorem lt_tri {a b : ByteArray} (h : lt a b = false) (k : lt b a = false) : a = b := str_ext (less_tri h k)
theorem lt_asymm {a b : ByteArray} (h : lt a b = true) : lt b a = false := by
  cases k : lt b a
  · rfl
  · exact absurd (lt_trans h k) (by rw [lt_irr]; decide)
theorem seq_iff (a b : ByteArray) : (a.toList == b.toList) = decide (a = b) := by
  rw [Bool.eq_iff_iff, beq_iff_eq, decide_eq_true_iff]
  exact ⟨str_ext, fun h => by rw [h]⟩
def findF (s : ByteArray) : List ByteArray → Nat → Int
  | [], _ => -1
  | x :: l, i => if x = s then i else findF s l (i + 1)
def findS (l : List ByteArray) (s : ByteArray) : Int := findF s l 0
theorem findF_cases (s : ByteArray) : ∀ (l : List ByteArray) (i : Nat), (findF s l i = -1 ∧ s ∉ l) ∨ ∃ k, k < l.length ∧ l[k]? = some s ∧ (∀ j, j < k → l[j]? ≠ some s) ∧ findF s l i = (i + k : Nat)
  | [], i => .inl ⟨rfl, by simp⟩
  | x :: l, i => by
    by_cases h : x = s
    · exact .inr ⟨0, by simp, by simp [h], fun j hj => by omega, by rw [findF, if_pos h]; simp⟩
    · rcases findF_cases s l (i + 1) with ⟨h1, h2⟩ | ⟨k, h1, h2, h3, h4⟩
      · exact .inl ⟨by rw [findF, if_neg h, h1], by rw [List.mem_cons]; exact fun q => q.elim (fun e => h e.symm) h2⟩
      · refine .inr ⟨k + 1, by simp; omega, by simpa using h2, fun j hj => ?_, by rw [findF, if_neg h, h4]; congr 1; omega⟩
        cases j with
        | zero => simpa using h
        | succ j => simpa using h3 j (by omega)
theorem find_cases (l : List ByteArray) (s : ByteArray) : (findS l s = -1 ∧ s ∉ l) ∨ ∃ k : Nat, k < l.length ∧ l[k]? = some s ∧ (∀ j, j < k → l[j]? ≠ some s) ∧ findS l s = k := by
  rcases findF_cases s l 0 with h | ⟨k, h1, h2, h3, h4⟩
  · exact .inl h
  · exact .inr ⟨k, h1, h2, h3, by rw [findS, h4]; simp⟩
theorem find_is {l : List ByteArray} {s : ByteArray} {k : Nat} (h : l[k]? = some s) (h2 : ∀ j, j < k → l[j]? ≠ some s) : findS l s = k := by
  rcases find_cases l s with ⟨_, h1⟩ | ⟨m, _, h3, h4, h5⟩
  · exact absurd (List.mem_of_getElem? h) h1
  · rcases Nat.lt_trichotomy k m with q | q | q
    · exact absurd h (h4 k q)
    · rw [h5, q]
    · exact absurd h3 (h2 m q)
noncomputable instance memDec (x : ByteArray) (l : List ByteArray) : Decidable (x ∈ l) := Classical.propDecidable _
noncomputable def twiF (l : List ByteArray) : Nat → Nat → Int
  | 0, _ => -1
  | k + 1, i => if l.getD i ByteArray.empty ∈ l.take i then i else twiF l k (i + 1)
noncomputable def twiS (l : List ByteArray) : Int := twiF l l.length 0
theorem twiF_cases (l : List ByteArray) : ∀ (k i : Nat), (twiF l k i = -1 ∧ ∀ j, i ≤ j → j < i + k → l.getD j ByteArray.empty ∉ l.take j) ∨
    ∃ m, i ≤ m ∧ m < i + k ∧ l.getD m ByteArray.empty ∈ l.take m ∧ (∀ j, i ≤ j → j < m → l.getD j ByteArray.empty ∉ l.take j) ∧ twiF l k i = m
  | 0, i => .inl ⟨rfl, fun j h1 h2 => by omega⟩
  | k + 1, i => by
    by_cases h : l.getD i ByteArray.empty ∈ l.take i
    · exact .inr ⟨i, Nat.le_refl _, by omega, h, fun j h1 h2 => by omega, by rw [twiF, if_pos h]⟩
    · rcases twiF_cases l k (i + 1) with ⟨h1, h2⟩ | ⟨m, h1, h2, h3, h4, h5⟩
      · refine .inl ⟨by rw [twiF, if_neg h, h1], fun j q1 q2 => ?_⟩
        rcases Nat.eq_or_lt_of_le q1 with e | q3
        · subst e; exact h
        · exact h2 j q3 (by omega)
      · refine .inr ⟨m, by omega, by omega, h3, fun j q1 q2 => ?_, by rw [twiF, if_neg h, h5]⟩
        rcases Nat.eq_or_lt_of_le q1 with e | q3
        · subst e; exact h
        · exact h4 j q3 q2
theorem twi_is {l : List ByteArray} {m : Nat} (hm : m < l.length) (h : l.getD m ByteArray.empty ∈ l.take m) (h2 : ∀ j, j < m → l.getD j ByteArray.empty ∉ l.take j) : twiS l = m := by
  rcases twiF_cases l l.length 0 with ⟨_, h1⟩ | ⟨k, _, h3, h4, h5, h6⟩
  · exact absurd h (h1 m (by omega) (by omega))
  · rw [twiS, h6]
    rcases Nat.lt_trichotomy k m with q | q | q
    · exact absurd h4 (h2 k q)
    · rw [q]
    · exact absurd h (h5 m (by omega) q)
theorem twi_none {l : List ByteArray} (h : ∀ j, j < l.length → l.getD j ByteArray.empty ∉ l.take j) : twiS l = -1 := by
  rcases twiF_cases l l.length 0 with h1 | ⟨k, _, h3, h4, _⟩
  · exact h1.1
  · exact absurd h4 (h k (by omega))
theorem twi_cases (l : List ByteArray) : (twiS l = -1 ∧ ∀ j, j < l.length → l.getD j ByteArray.empty ∉ l.take j) ∨
    ∃ m : Nat, m < l.length ∧ l.getD m ByteArray.empty ∈ l.take m ∧ (∀ j, j < m → l.getD j ByteArray.empty ∉ l.take j) ∧ twiS l = m := by
  rcases twiF_cases l l.length 0 with ⟨h1, h2⟩ | ⟨k, _, h3, h4, h5, h6⟩
  · exact .inl ⟨h1, fun j hj => h2 j (by omega) (by omega)⟩
  · exact .inr ⟨k, by omega, h4, fun j hj => h5 j (by omega) hj, h6⟩
def Inc (l : List ByteArray) : Prop := l.Pairwise fun a b => lt a b = true
theorem inc_unique : ∀ {a b : List ByteArray}, Inc a → Inc b → (∀ x, x ∈ a ↔ x ∈ b) → a = b
  | [], [], _, _, _ => rfl
  | [], y :: b, _, _, h => absurd ((h y).2 List.mem_cons_self) (by simp)
  | x :: a, [], _, _, h => absurd ((h x).1 List.mem_cons_self) (by simp)
  | x :: a, y :: b, ha, hb, h => by
    have ha' := List.pairwise_cons.1 ha
    have hb' := List.pairwise_cons.1 hb
    have e : x = y := by
      rcases List.mem_cons.1 ((h x).1 List.mem_cons_self) with e | hx
      · exact e
      · rcases List.mem_cons.1 ((h y).2 List.mem_cons_self) with e | hy
        · exact e.symm
        · have h1 := hb'.1 x hx
          have h2 := ha'.1 y hy
          rw [lt_asymm h1] at h2
          cases h2
    subst e
    rw [inc_unique ha'.2 hb'.2 fun z => ⟨fun hz => ?_, fun hz => ?_⟩]
    · rcases List.mem_cons.1 ((h z).1 (List.mem_cons_of_mem _ hz)) with e | q
      · subst e; exact absurd (ha'.1 z hz) (by rw [lt_irr]; decide)
      · exact q
    · rcases List.mem_cons.1 ((h z).2 (List.mem_cons_of_mem _ hz)) with e | q
      · subst e; exact absurd (hb'.1 z hz) (by rw [lt_irr]; decide)
      · exact q
def insS (s : ByteArray) : List ByteArray → List ByteArray
  | [] => [s]
  | x :: l => if lt s x = true then s :: x :: l else if s = x then x :: l else x :: insS s l
theorem ins_mem (s : ByteArray) : ∀ (l : List ByteArray) (x : ByteArray), x ∈ insS s l ↔ x = s ∨ x ∈ l
  | [], x => by simp [insS]
  | y :: l, x => by
    rw [insS]
    split
    · simp
    · split
      · next h => subst h; simp
      · simp only [List.mem_cons, ins_mem s l x]
        constructor <;> (intro h; rcases h with h | h | h <;> simp [h])
theorem ins_inc (s : ByteArray) : ∀ {l : List ByteArray}, Inc l → Inc (insS s l)
  | [], _ => List.pairwise_singleton _ _
  | y :: l, h => by
    have h' := List.pairwise_cons.1 h
    rw [insS]
    split
    · next q =>
      refine List.pairwise_cons.2 ⟨fun z hz => ?_, h⟩
      rcases List.mem_cons.1 hz with e | hz
      · subst e; exact q
      · exact lt_trans q (h'.1 z hz)
    · next q =>
      split
      · exact h
      · next q2 =>
        refine List.pairwise_cons.2 ⟨fun z hz => ?_, ins_inc s h'.2⟩
        rcases (ins_mem s l z).1 hz with e | hz
        · subst e
          cases k : lt y z
          · exact absurd (lt_tri (by simpa using q) k) q2
          · rfl
        · exact h'.1 z hz
theorem ins_len (s : ByteArray) : ∀ (l : List ByteArray), (insS s l).length ≤ l.length + 1
  | [] => by simp [insS]
  | y :: l => by
    have := ins_len s l
    rw [insS]
    split
    · simp
    · split <;> simp <;> omega
def sortS (l : List ByteArray) : List ByteArray := l.foldr insS []
theorem sort_inc : ∀ (l : List ByteArray), Inc (sortS l)
  | [] => List.Pairwise.nil
  | x :: l => ins_inc x (sort_inc l)
theorem sort_mem : ∀ (l : List ByteArray) (x : ByteArray), x ∈ sortS l ↔ x ∈ l
  | [], x => by simp [sortS]
  | y :: l, x => by
    rw [show sortS (y :: l) = insS y (sortS l) from rfl, ins_mem, sort_mem l x, List.mem_cons]
theorem sort_is {l m : List ByteArray} (h : Inc m) (hm : ∀ x, x ∈ m ↔ x ∈ l) : m = sortS l := inc_unique h (sort_inc l) fun x => by rw [hm, sort_mem]
theorem sort_len : ∀ (l : List ByteArray), (sortS l).length ≤ l.length
  | [] => Nat.le_refl _
  | x :: l => by
    have h1 := ins_len x (sortS l)
    have h2 := sort_len l
    rw [show sortS (x :: l) = insS x (sortS l) from rfl, List.length_cons]
    omega
def isSmall (c : Nat) : Prop := 97 ≤ c ∧ c ≤ 122
def isSign (c : Nat) : Prop := (97 ≤ c ∧ c ≤ 122) ∨ c = 95 ∨ (48 ≤ c ∧ c ≤ 57)
instance (c : Nat) : Decidable (isSmall c) := by unfold isSmall; infer_instance
instance (c : Nat) : Decidable (isSign c) := by unfold isSign; infer_instance
def runF (s : ByteArray) (i : Nat) : Nat := (((bl s).drop i).takeWhile fun x => decide (isSign x.toNat)).length
def sigS (s : ByteArray) (i : Nat) : Nat := if i < s.size ∧ isSmall (byN s i) then runF s i else 0
theorem runF_step {s : ByteArray} {i : Nat} (h : i < s.size) (hd : isSign (byN s i)) : runF s i = runF s (i + 1) + 1 := by
  unfold runF
  rw [bl_drop h, List.takeWhile_cons_of_pos (by simpa using hd), List.length_cons]
theorem runF_stop {s : ByteArray} {i : Nat} (h : i < s.size) (hd : ¬ isSign (byN s i)) : runF s i = 0 := by
  unfold runF
  rw [bl_drop h, List.takeWhile_cons_of_neg (by simpa using hd)]
  rfl
theorem runF_end {s : ByteArray} {i : Nat} (h : s.size ≤ i) : runF s i = 0 := by
  unfold runF
  rw [List.drop_eq_nil_of_le (by rw [bl_length]; exact h)]
  rfl
theorem runF_len (s : ByteArray) (i : Nat) (h : i ≤ s.size) : i + runF s i ≤ s.size := by
  have := (List.takeWhile_prefix (l := (bl s).drop i) fun x => decide (isSign x.toNat)).length_le
  rw [List.length_drop, bl_length] at this
  unfold runF
  omega
theorem sig_len {s : ByteArray} {i : Nat} (h : i < s.size) : i + sigS s i ≤ s.size := by
  have := runF_len s i (by omega)
  unfold sigS
  split <;> omega
def rightS (s : ByteArray) : Bool := decide (0 < s.size ∧ s.size ≤ 32 ∧ sigS s 0 = s.size)
end Go.Proofs.YtncijmodlhijoaaGreat.Nam
namespace Go.Proofs.YtncijmodlhijoaaGreat.Lat
open Nam
abbrev Wr := ByteArray × Int
instance : Inhabited Wr := ⟨(ByteArray.empty, 0)⟩
abbrev wN (ws : List Wr) (i : Nat) : Wr := ws.getD i (ByteArray.empty, 0)
theorem wN_get {ws : List Wr} {i : Nat} (h : i < ws.length) : wN ws i = ws[i] := by simp [wN, List.getD, List.getElem?_eq_getElem h]
def nms (ws : List Wr) : List ByteArray := ws.map (·.1)
theorem nms_len (ws : List Wr) : (nms ws).length = ws.length := by simp [nms]
theorem nms_get {ws : List Wr} {i : Nat} (h : i < ws.length) : (nms ws)[i]? = some (wN ws i).1 := by rw [wN_get h]; simp [nms, List.getElem?_eq_getElem h]
theorem wN_mem {ws : List Wr} {i : Nat} (h : i < ws.length) : wN ws i ∈ ws := by rw [wN_get h]; exact List.getElem_mem h
end Go.Proofs.YtncijmodlhijoaaGreat.Lat
namespace Go.Proofs.YtncijmodlhijoaaGreat
open Go.RowKit Go.Lib Go.ChangeShapes Go.WideShapes Go.Deep
section
variable {α : Type} {enc : α → List Value} {k : Nat}
def flatG (enc : α → List Value) (l : List α) : List Value := l.flatMap enc
theorem flatG_cons (x : α) (l : List α) : flatG enc (x :: l) = enc x ++ flatG enc l := rfl
theorem flatG_append (l m : List α) : flatG enc (l ++ m) = flatG enc l ++ flatG enc m := by unfold flatG; rw [List.flatMap_append]
theorem flatG_snoc (l : List α) (x : α) : flatG enc (l ++ [x]) = flatG enc l ++ enc x := by rw [flatG_append]; simp [flatG]
theorem flatG_len (hk : ∀ x, (enc x).length = k) : ∀ l : List α, (flatG enc l).length = l.length * k
  | [] => by simp [flatG]
  | x :: l => by rw [flatG_cons, List.length_append, hk, flatG_len hk l, List.length_cons, Nat.add_mul]; omega
theorem flatG_get (hk : ∀ x, (enc x).length = k) : ∀ (l : List α) (i j : Nat) (h : i < l.length), j < k → (flatG enc l)[i * k + j]? = (enc l[i])[j]?
  | x :: l, 0, j, h, hj => by
    rw [flatG_cons, Nat.zero_mul, Nat.zero_add, List.getElem?_append_left (by rw [hk]; exact hj)]; rfl
  | x :: l, i + 1, j, h, hj => by
    rw [flatG_cons, List.getElem?_append_right (by rw [hk, Nat.add_mul]; omega), hk, show (i + 1) * k + j - k = i * k + j by rw [Nat.add_mul]; omega, flatG_get hk l i j (by simpa using h) hj]
    rfl
def RdG (enc : α → List Value) (k : Nat) (w : World) (v : Value) (l : List α) : Prop := RdAt w v k (flatG enc l)
theorem RdG.below {w w' : World} {v : Value} {l : List α} (h : RdG enc k w v l) (hb : Below w.heap.size w w') : RdG enc k w' v l := RdAt.below h hb
theorem RdG.none0 (w : World) (A : Option Addr) (c : Nat) : RdG enc k w (.slice A 0 c) [] := ⟨A, 0, c, rfl, by simp [flatG], Nat.zero_le _, fun h => absurd h (by simp [flatG])⟩
theorem RdG.of_own {w : World} {base : Nat} {e : TypeId} {n : Nat} {v : Value} {l : List α} (h : w.ownsRow base e k v n (flatG enc l)) : RdG enc k w v l := RdAt.of_own h
theorem RdG.open (hk : ∀ x, (enc x).length = k) (h0 : 0 < k) {w : World} {v : Value} {l : List α} (h : RdG enc k w v l) : ∃ (A : Option Addr) (c : Nat), v = .slice A l.length c ∧ l.length ≤ c ∧
    (0 < l.length → ∃ g o, A = some ⟨g, o, none⟩ ∧ g < w.heap.size ∧ ∀ i (hi : i < l.length) j, j < k → w.cell? ⟨g, o + i * k + j, none⟩ = (enc l[i])[j]?) := by
  obtain ⟨A, n, c, rfl, hl, hn, hc⟩ := h
  rw [flatG_len hk] at hl
  obtain rfl : n = l.length := (Nat.eq_of_mul_eq_mul_right h0 hl).symm
  refine ⟨A, c, rfl, hn, fun hp => ?_⟩
  obtain ⟨g, o, rfl, hg, hc⟩ := hc (by rw [flatG_len hk]; exact Nat.mul_pos hp h0)
  refine ⟨g, o, rfl, hg, fun i hi j hj => ?_⟩
  have e := flatG_get hk l i j hi hj
  have hs : j < (enc l[i]).length := by rw [hk]; exact hj
  rw [List.getElem?_eq_getElem hs] at e ⊢
  rw [Nat.add_assoc]
  exact hc _ _ e
end
end Go.Proofs.YtncijmodlhijoaaGreat
