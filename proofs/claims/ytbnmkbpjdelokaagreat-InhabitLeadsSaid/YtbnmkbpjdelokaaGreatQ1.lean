import Derived.Test.YtbnmkbpjdelokaaGreatQ0
import GoSem.Op.String
import Derived.Deep.Slices
import Derived.ProofKit
set_option linter.unusedVariables false
set_option maxRecDepth 100000
set_option maxHeartbeats 4000000
namespace Go.Proofs.YtbnmkbpjdelokaaGreat.Nam
open Go.Lib Utf
theorem less_irr : ∀ (a : List UInt8), Go.Op.bytesLess a a = false
  | [] => rfl
  | a :: x => by
    simp only [Go.Op.bytesLess, less_irr x, Bool.and_false, Bool.or_false]
    exact decide_eq_false (UInt8.lt_irrefl a)
theorem less_cons (a b : UInt8) (x y : List UInt8) : Go.Op.bytesLess (a :: x) (b :: y) = true ↔ a.toNat < b.toNat ∨ (a = b ∧ Go.Op.bytesLess x y = true) := by
  simp only [Go.Op.bytesLess, Bool.or_eq_true, decide_eq_true_eq, Bool.and_eq_true, beq_iff_eq, UInt8.lt_iff_toNat_lt]
theorem less_trans : ∀ {a b c : List UInt8}, Go.Op.bytesLess a b = true → Go.Op.bytesLess b c = true → Go.Op.bytesLess a c = true
  | _, [], _, h, _ => by simp [Go.Op.bytesLess] at h
  | _, _ :: _, [], _, h => by simp [Go.Op.bytesLess] at h
  | [], _ :: _, _ :: _, _, _ => rfl
  | a :: x, b :: y, c :: z, h1, h2 => by
    rw [less_cons] at h1 h2 ⊢
    rcases h1 with h1 | ⟨rfl, h1⟩
    · rcases h2 with h2 | ⟨rfl, h2⟩
      · exact .inl (by omega)
      · exact .inl h1
    · rcases h2 with h2 | ⟨rfl, h2⟩
      · exact .inl h2
      · exact .inr ⟨rfl, less_trans h1 h2⟩
theorem less_tri : ∀ {a b : List UInt8}, Go.Op.bytesLess a b = false → Go.Op.bytesLess b a = false → a = b
  | [], [], _, _ => rfl
  | [], _ :: _, h, _ => by simp [Go.Op.bytesLess] at h
  | _ :: _, [], _, h => by simp [Go.Op.bytesLess] at h
  | a :: x, b :: y, h1, h2 => by
    have g1 := mt (less_cons a b x y).2 (by rw [h1]; decide)
    have g2 := mt (less_cons b a y x).2 (by rw [h2]; decide)
    have e : a = b := UInt8.toNat_inj.1 (by omega)
    subst e
    have q1 : Go.Op.bytesLess x y = false := by
      cases h : Go.Op.bytesLess x y
      · rfl
      · exact absurd (.inr ⟨rfl, h⟩) g1
    have q2 : Go.Op.bytesLess y x = false := by
      cases h : Go.Op.bytesLess y x
      · rfl
      · exact absurd (.inr ⟨rfl, h⟩) g2
    rw [less_tri q1 q2]
def lt (a b : ByteArray) : Bool := Go.Op.bytesLess a.toList b.toList
theorem lt_irr (a : ByteArray) : lt a a = false := less_irr _
theorem lt_trans {a b c : ByteArray} (h : lt a b = true) (k : lt b c = true) : lt a c = true := less_trans h k
theorem str_ext {a b : ByteArray} (h : a.toList = b.toList) : a = b := by
  rw [ba_toList, ba_toList] at h
  exact ByteArray.ext (Array.ext' h)
theorem lt_tri {a b : ByteArray} (h : lt a b = false) (k : lt b a = false) : a = b := str_ext (less_tri h k)
theorem lt_asymm {a b : ByteArray} (h : lt a b = true) : lt b a = false := by
  cases k : lt b a
  · rfl
  · exact absurd (lt_trans h k) (by rw [lt_irr]; decide)
theorem seq_iff (a b : ByteArray) : (a.toList == b.toList) = decide (a = b) := by
  rw [Bool.eq_iff_iff, beq_iff_eq, decide_eq_true_iff]
  exact ⟨str_ext, fun h => by rw [h]⟩
def findF (s : ByteArray) : List ByteArray → Nat → Int
  | [], _ => -1
  | x :: l, i => if x = s then i else findF s l (i + 1)
def findS (l : List ByteArray) (s : ByteArray) : Int := findF s l 0
theorem findF_cases (s : ByteArray) : ∀ (l : List ByteArray) (i : Nat), (findF s l i = -1 ∧ s ∉ l) ∨ ∃ k, k < l.length ∧ l[k]? = some s ∧ (∀ j, j < k → l[j]? ≠ some s) ∧ findF s l i = (i + k : Nat)
  | [], i => .inl ⟨rfl, by simp⟩
  | x :: l, i => by
    by_cases h : x = s
    · exact .inr ⟨0, by simp, by simp [h], fun j hj => by omega, by rw [findF, if_pos h]; simp⟩
    · rcases findF_cases s l (i + 1) with ⟨h1, h2⟩ | ⟨k, h1, h2, h3, h4⟩
      · exact .inl ⟨by rw [findF, if_neg h, h1], by rw [List.mem_cons]; exact fun q => q.elim (fun e => h e.symm) h2⟩
      · refine .inr ⟨k + 1, by simp; omega, by simpa using h2, fun j hj => ?_, by rw [findF, if_neg h, h4]; congr 1; omega⟩
        cases j with
        | zero => simpa using h
        | succ j => simpa using h3 j (by omega)
theorem find_cases (l : List ByteArray) (s : ByteArray) : (findS l s = -1 ∧ s ∉ l) ∨ ∃ k : Nat, k < l.length ∧ l[k]? = some s ∧ (∀ j, j < k → l[j]? ≠ some s) ∧ findS l s = k := by
  rcases findF_cases s l 0 with h | ⟨k, h1, h2, h3, h4⟩
  · exact .inl h
  · exact .inr ⟨k, h1, h2, h3, by rw [findS, h4]; simp⟩
theorem find_is {l : List ByteArray} {s : ByteArray} {k : Nat} (h : l[k]? = some s) (h2 : ∀ j, j < k → l[j]? ≠ some s) : findS l s = k := by
  rcases find_cases l s with ⟨_, h1⟩ | ⟨m, _, h3, h4, h5⟩
  · exact absurd (List.mem_of_getElem? h) h1
  · rcases Nat.lt_trichotomy k m with q | q | q
    · exact absurd h (h4 k q)
    · rw [h5, q]
    · exact absurd h3 (h2 m q)
noncomputable instance memDec (x : ByteArray) (l : List ByteArray) : Decidable (x ∈ l) := Classical.propDecidable _
noncomputable def twiF (l : List ByteArray) : Nat → Nat → Int
  | 0, _ => -1
  | k + 1, i => if l.getD i ByteArray.empty ∈ l.take i then i else twiF l k (i + 1)
noncomputable def twiS (l : List ByteArray) : Int := twiF l l.length 0
theorem twiF_cases (l : List ByteArray) : ∀ (k i : Nat), (twiF l k i = -1 ∧ ∀ j, i ≤ j → j < i + k → l.getD j ByteArray.empty ∉ l.take j) ∨
    ∃ m, i ≤ m ∧ m < i + k ∧ l.getD m ByteArray.empty ∈ l.take m ∧ (∀ j, i ≤ j → j < m → l.getD j ByteArray.empty ∉ l.take j) ∧ twiF l k i = m
  | 0, i => .inl ⟨rfl, fun j h1 h2 => by omega⟩
  | k + 1, i => by
    by_cases h : l.getD i ByteArray.empty ∈ l.take i
    · exact .inr ⟨i, Nat.le_refl _, by omega, h, fun j h1 h2 => by omega, by rw [twiF, if_pos h]⟩
    · rcases twiF_cases l k (i + 1) with ⟨h1, h2⟩ | ⟨m, h1, h2, h3, h4, h5⟩
      · refine .inl ⟨by rw [twiF, if_neg h, h1], fun j q1 q2 => ?_⟩
        rcases Nat.eq_or_lt_of_le q1 with e | q3
        · subst e; exact h
        · exact h2 j q3 (by omega)
      · refine .inr ⟨m, by omega, by omega, h3, fun j q1 q2 => ?_, by rw [twiF, if_neg h, h5]⟩
        rcases Nat.eq_or_lt_of_le q1 with e | q3
        · subst e; exact h
        · exact h4 j q3 q2
theorem twi_is {l : List ByteArray} {m : Nat} (hm : m < l.length) (h : l.getD m ByteArray.empty ∈ l.take m) (h2 : ∀ j, j < m → l.getD j ByteArray.empty ∉ l.take j) : twiS l = m := by
  rcases twiF_cases l l.length 0 with ⟨_, h1⟩ | ⟨k, _, h3, h4, h5, h6⟩
  · exact absurd h (h1 m (by omega) (by omega))
  · rw [twiS, h6]
    rcases Nat.lt_trichotomy k m with q | q | q
    · exact absurd h4 (h2 k q)
    · rw [q]
    · exact absurd h (h5 m (by omega) q)
theorem twi_none {l : List ByteArray} (h : ∀ j, j < l.length → l.getD j ByteArray.empty ∉ l.take j) : twiS l = -1 := by
  rcases twiF_cases l l.length 0 with h1 | ⟨k, _, h3, h4, _⟩
  · exact h1.1
  · exact absurd h4 (h k (by omega))
theorem twi_cases (l : List ByteArray) : (twiS l = -1 ∧ ∀ j, j < l.length → l.getD j ByteArray.empty ∉ l.take j) ∨
    ∃ m : Nat, m < l.length ∧ l.getD m ByteArray.empty ∈ l.take m ∧ (∀ j, j < m → l.getD j ByteArray.empty ∉ l.take j) ∧ twiS l = m := by
  rcases twiF_cases l l.length 0 with ⟨h1, h2⟩ | ⟨k, _, h3, h4, h5, h6⟩
  · exact .inl ⟨h1, fun j hj => h2 j (by omega) (by omega)⟩
  · exact .inr ⟨k, by omega, h4, fun j hj => h5 j (by omega) hj, h6⟩
def Inc (l : List ByteArray) : Prop := l.Pairwise fun a b => lt a b = true
theorem inc_unique : ∀ {a b : List ByteArray}, Inc a → Inc b → (∀ x, x ∈ a ↔ x ∈ b) → a = b
  | [], [], _, _, _ => rfl
  | [], y :: b, _, _, h => absurd ((h y).2 List.mem_cons_self) (by simp)
  | x :: a, [], _, _, h => absurd ((h x).1 List.mem_cons_self) (by simp)
  | x :: a, y :: b, ha, hb, h => by
    have ha' := List.pairwise_cons.1 ha
    have hb' := List.pairwise_cons.1 hb
    have e : x = y := by
      rcases List.mem_cons.1 ((h x).1 List.mem_cons_self) with e | hx
      · exact e
      · rcases List.mem_cons.1 ((h y).2 List.mem_cons_self) with e | hy
        · exact e.symm
        · have h1 := hb'.1 x hx
          have h2 := ha'.1 y hy
          rw [lt_asymm h1] at h2
          cases h2
    subst e
    rw [inc_unique ha'.2 hb'.2 fun z => ⟨fun hz => ?_, fun hz => ?_⟩]
    · rcases List.mem_cons.1 ((h z).1 (List.mem_cons_of_mem _ hz)) with e | q
      · subst e; exact absurd (ha'.1 z hz) (by rw [lt_irr]; decide)
      · exact q
    · rcases List.mem_cons.1 ((h z).2 (List.mem_cons_of_mem _ hz)) with e | q
      · subst e; exact absurd (hb'.1 z hz) (by rw [lt_irr]; decide)
      · exact q
def insS (s : ByteArray) : List ByteArray → List ByteArray
  | [] => [s]
  | x :: l => if lt s x = true then s :: x :: l else if s = x then x :: l else x :: insS s l
theorem ins_mem (s : ByteArray) : ∀ (l : List ByteArray) (x : ByteArray), x ∈ insS s l ↔ x = s ∨ x ∈ l
  | [], x => by simp [insS]
  | y :: l, x => by
    rw [insS]
    split
    · simp
    · split
      · next h => subst h; simp
      · simp only [List.mem_cons, ins_mem s l x]
        constructor <;> (intro h; rcases h with h | h | h <;> simp [h])
theorem ins_inc (s : ByteArray) : ∀ {l : List ByteArray}, Inc l → Inc (insS s l)
  | [], _ => List.pairwise_singleton _ _
  | y :: l, h => by
    have h' := List.pairwise_cons.1 h
    rw [insS]
    split
    · next q =>
      refine List.pairwise_cons.2 ⟨fun z hz => ?_, h⟩
      rcases List.mem_cons.1 hz with e | hz
      · subst e; exact q
      · exact lt_trans q (h'.1 z hz)
    · next q =>
      split
      · exact h
      · next q2 =>
        refine List.pairwise_cons.2 ⟨fun z hz => ?_, ins_inc s h'.2⟩
        rcases (ins_mem s l z).1 hz with e | hz
        · subst e
          cases k : lt y z
          · exact absurd (lt_tri (by simpa using q) k) q2
          · rfl
        · exact h'.1 z hz
theorem ins_len (s : ByteArray) : ∀ (l : List ByteArray), (insS s l).length ≤ l.length + 1
  | [] => by simp [insS]
  | y :: l => by
    have := ins_len s l
    rw [insS]
    split
    · simp
    · split <;> simp <;> omega
def sortS (l : List ByteArray) : List ByteArray := l.foldr insS []
theorem sort_inc : ∀ (l : List ByteArray), Inc (sortS l)
  | [] => List.Pairwise.nil
  | x :: l => ins_inc x (sort_inc l)
theorem sort_mem : ∀ (l : List ByteArray) (x : ByteArray), x ∈ sortS l ↔ x ∈ l
  | [], x => by simp [sortS]
  | y :: l, x => by
    rw [show sortS (y :: l) = insS y (sortS l) from rfl, ins_mem, sort_mem l x, List.mem_cons]
theorem sort_is {l m : List ByteArray} (h : Inc m) (hm : ∀ x, x ∈ m ↔ x ∈ l) : m = sortS l := inc_unique h (sort_inc l) fun x => by rw [hm, sort_mem]
theorem sort_len : ∀ (l : List ByteArray), (sortS l).length ≤ l.length
  | [] => Nat.le_refl _
  | x :: l => by
    have h1 := ins_len x (sortS l)
    have h2 := sort_len l
    rw [show sortS (x :: l) = insS x (sortS l) from rfl, List.length_cons]
    omega
def isSmall (c : Nat) : Prop := 97 ≤ c ∧ c ≤ 122
def isSign (c : Nat) : Prop := (97 ≤ c ∧ c ≤ 122) ∨ c = 95 ∨ (48 ≤ c ∧ c ≤ 57)
instance (c : Nat) : Decidable (isSmall c) := by unfold isSmall; infer_instance
instance (c : Nat) : Decidable (isSign c) := by unfold isSign; infer_instance
def runF (s : ByteArray) (i : Nat) : Nat := (((bl s).drop i).takeWhile fun x => decide (isSign x.toNat)).length
def sigS (s : ByteArray) (i : Nat) : Nat := if i < s.size ∧ isSmall (byN s i) then runF s i else 0
theorem runF_step {s : ByteArray} {i : Nat} (h : i < s.size) (hd : isSign (byN s i)) : runF s i = runF s (i + 1) + 1 := by
  unfold runF
  rw [bl_drop h, List.takeWhile_cons_of_pos (by simpa using hd), List.length_cons]
theorem runF_stop {s : ByteArray} {i : Nat} (h : i < s.size) (hd : ¬ isSign (byN s i)) : runF s i = 0 := by
  unfold runF
  rw [bl_drop h, List.takeWhile_cons_of_neg (by simpa using hd)]
  rfl
theorem runF_end {s : ByteArray} {i : Nat} (h : s.size ≤ i) : runF s i = 0 := by
  unfold runF
  rw [List.drop_eq_nil_of_le (by rw [bl_length]; exact h)]
  rfl
theorem runF_len (s : ByteArray) (i : Nat) (h : i ≤ s.size) : i + runF s i ≤ s.size := by
  have := (List.takeWhile_prefix (l := (bl s).drop i) fun x => decide (isSign x.toNat)).length_le
  rw [List.length_drop, bl_length] at this
  unfold runF
  omega
theorem sig_len {s : ByteArray} {i : Nat} (h : i < s.size) : i + sigS s i ≤ s.size := by
  have := runF_len s i (by omega)
  unfold sigS
  split <;> omega
def rightS (s : ByteArray) : Bool := decide (0 < s.size ∧ s.size ≤ 32 ∧ sigS s 0 = s.size)
end Go.Proofs.YtbnmkbpjdelokaaGreat.Nam
namespace Go.Proofs.YtbnmkbpjdelokaaGreat.Lat
open Nam
abbrev Wr := ByteArray × Int
instance : Inhabited Wr := ⟨(ByteArray.empty, 0)⟩
abbrev wN (ws : List Wr) (i : Nat) : Wr := ws.getD i (ByteArray.empty, 0)
theorem wN_get {ws : List Wr} {i : Nat} (h : i < ws.length) : wN ws i = ws[i] := by simp [wN, List.getD, List.getElem?_eq_getElem h]
def nms (ws : List Wr) : List ByteArray := ws.map (·.1)
theorem nms_len (ws : List Wr) : (nms ws).length = ws.length := by simp [nms]
theorem nms_get {ws : List Wr} {i : Nat} (h : i < ws.length) : (nms ws)[i]? = some (wN ws i).1 := by rw [wN_get h]; simp [nms, List.getElem?_eq_getElem h]
theorem wN_mem {ws : List Wr} {i : Nat} (h : i < ws.length) : wN ws i ∈ ws := by rw [wN_get h]; exact List.getElem_mem h
end Go.Proofs.YtbnmkbpjdelokaaGreat.Lat
namespace Go.Proofs.YtbnmkbpjdelokaaGreat
open Go.RowKit Go.Lib Go.ChangeShapes Go.WideShapes Go.Deep
section
variable {α : Type} {enc : α → List Value} {k : Nat}
def flatG (enc : α → List Value) (l : List α) : List Value := l.flatMap enc
theorem flatG_cons (x : α) (l : List α) : flatG enc (x :: l) = enc x ++ flatG enc l := rfl
theorem flatG_append (l m : List α) : flatG enc (l ++ m) = flatG enc l ++ flatG enc m := by unfold flatG; rw [List.flatMap_append]
theorem flatG_snoc (l : List α) (x : α) : flatG enc (l ++ [x]) = flatG enc l ++ enc x := by rw [flatG_append]; simp [flatG]
theorem flatG_len (hk : ∀ x, (enc x).length = k) : ∀ l : List α, (flatG enc l).length = l.length * k
  | [] => by simp [flatG]
  | x :: l => by rw [flatG_cons, List.length_append, hk, flatG_len hk l, List.length_cons, Nat.add_mul]; omega
theorem flatG_get (hk : ∀ x, (enc x).length = k) : ∀ (l : List α) (i j : Nat) (h : i < l.length), j < k → (flatG enc l)[i * k + j]? = (enc l[i])[j]?
  | x :: l, 0, j, h, hj => by
    rw [flatG_cons, Nat.zero_mul, Nat.zero_add, List.getElem?_append_left (by rw [hk]; exact hj)]; rfl
  | x :: l, i + 1, j, h, hj => by
    rw [flatG_cons, List.getElem?_append_right (by rw [hk, Nat.add_mul]; omega), hk, show (i + 1) * k + j - k = i * k + j by rw [Nat.add_mul]; omega, flatG_get hk l i j (by simpa using h) hj]
    rfl
def RdG (enc : α → List Value) (k : Nat) (w : World) (v : Value) (l : List α) : Prop := RdAt w v k (flatG enc l)
theorem RdG.below {w w' : World} {v : Value} {l : List α} (h : RdG enc k w v l) (hb : Below w.heap.size w w') : RdG enc k w' v l := RdAt.below h hb
theorem RdG.none0 (w : World) (A : Option Addr) (c : Nat) : RdG enc k w (.slice A 0 c) [] := ⟨A, 0, c, rfl, by simp [flatG], Nat.zero_le _, fun h => absurd h (by simp [flatG])⟩
theorem RdG.of_own {w : World} {base : Nat} {e : TypeId} {n : Nat} {v : Value} {l : List α} (h : w.ownsRow base e k v n (flatG enc l)) : RdG enc k w v l := RdAt.of_own h
theorem RdG.open (hk : ∀ x, (enc x).length = k) (h0 : 0 < k) {w : World} {v : Value} {l : List α} (h : RdG enc k w v l) : ∃ (A : Option Addr) (c : Nat), v = .slice A l.length c ∧ l.length ≤ c ∧
    (0 < l.length → ∃ g o, A = some ⟨g, o, none⟩ ∧ g < w.heap.size ∧ ∀ i (hi : i < l.length) j, j < k → w.cell? ⟨g, o + i * k + j, none⟩ = (enc l[i])[j]?) := by
  obtain ⟨A, n, c, rfl, hl, hn, hc⟩ := h
  rw [flatG_len hk] at hl
  obtain rfl : n = l.length := (Nat.eq_of_mul_eq_mul_right h0 hl).symm
  refine ⟨A, c, rfl, hn, fun hp => ?_⟩
  obtain ⟨g, o, rfl, hg, hc⟩ := hc (by rw [flatG_len hk]; exact Nat.mul_pos hp h0)
  refine ⟨g, o, rfl, hg, fun i hi j hj => ?_⟩
  have e := flatG_get hk l i j hi hj
  have hs : j < (enc l[i]).length := by rw [hk]; exact hj
  rw [List.getElem?_eq_getElem hs] at e ⊢
  rw [Nat.add_assoc]
  exact hc _ _ e
end
inductive Fo (H L : Type) where
  | nil : Fo H L
  | cons (l : L) (h : H) (kids rest : Fo H L) : Fo H L
namespace Fo
variable {H L : Type}
def len : Fo H L → Nat
  | .nil => 0
  | .cons _ _ _ r => r.len + 1
def size : Fo H L → Nat
  | .nil => 0
  | .cons _ _ k r => k.size + r.size + 1
def All (GH : H → Prop) (GL : L → Prop) : Fo H L → Prop
  | .nil => True
  | .cons l h k r => GL l ∧ GH h ∧ k.len ≤ maxLen ∧ All GH GL k ∧ All GH GL r
theorem len_cons (l : L) (h : H) (k r : Fo H L) : (cons l h k r).len = r.len + 1 := rfl
theorem len_zero {f : Fo H L} (h : f.len = 0) : f = .nil := by cases f with | nil => rfl | cons => simp [len] at h
theorem len_pos {f : Fo H L} (h : 0 < f.len) : ∃ l x k r, f = .cons l x k r := by cases f with | nil => simp [len] at h | cons l x k r => exact ⟨l, x, k, r, rfl⟩
end Fo
def Kp (w w' : World) : Prop := w.heap.size ≤ w'.heap.size ∧ ∀ (b o : Nat) (v : Value), w.cell? ⟨b, o, none⟩ = some v → w'.cell? ⟨b, o, none⟩ = some v
theorem Kp.of_below {w w' : World} (hb : Below w.heap.size w w') : Kp w w' := ⟨hb.size, fun b o v h => (hb.cell (p := ⟨b, o, none⟩) (World.block_lt_of_cell? w _ h)).trans h⟩
theorem RdAt.kp {w w' : World} (hk : Kp w w') {v : Value} {k : Nat} {xs : List Value} (h : RdAt w v k xs) : RdAt w' v k xs := by
  obtain ⟨A, n, c, rfl, hl, hn, hc⟩ := h
  refine ⟨A, n, c, rfl, hl, hn, fun hp => ?_⟩
  obtain ⟨g, o, rfl, hg, hx⟩ := hc hp
  exact ⟨g, o, rfl, Nat.lt_of_lt_of_le hg hk.1, fun j u hj => hk.2 _ _ _ (hx j u hj)⟩
section
variable {H L : Type}
def RdFo (k pre : Nat) (hd : World → List Value → H → Value → Prop) (pl : World → List Value → L → Prop) (w : World) : Fo H L → Nat → Nat → Prop
  | .nil, _, _ => True
  | .cons l h kids rest, g, o => (∃ (ps ts : List Value) (A : Option Addr) (c : Nat), ps.length = pre ∧ ts.length = k ∧ (∀ j v, (ps ++ ts)[j]? = some v → w.cell? ⟨g, o + j, none⟩ = some v) ∧ pl w ps l ∧ hd w ts h (.slice A kids.len c) ∧ kids.len ≤ c ∧
      (0 < kids.len → ∃ g' o', A = some ⟨g', o', none⟩ ∧ g' < w.heap.size ∧ RdFo k pre hd pl w kids g' o')) ∧ RdFo k pre hd pl w rest g (o + (pre + k))
variable {k pre : Nat} {hd : World → List Value → H → Value → Prop} {pl : World → List Value → L → Prop}
def RdSl (k pre : Nat) (hd : World → List Value → H → Value → Prop) (pl : World → List Value → L → Prop) (w : World) (v : Value) (f : Fo H L) : Prop :=
  ∃ (A : Option Addr) (c : Nat), v = .slice A f.len c ∧ f.len ≤ c ∧ (0 < f.len → ∃ g o, A = some ⟨g, o, none⟩ ∧ g < w.heap.size ∧ RdFo k pre hd pl w f g o)
def RdNd (k pre : Nat) (hd : World → List Value → H → Value → Prop) (pl : World → List Value → L → Prop) (w : World) (cs : List Value) (h : H) (f : Fo H L) : Prop :=
  cs.length = k ∧ ∃ v, hd w cs h v ∧ RdSl k pre hd pl w v f
theorem RdFo.first {w : World} {l : L} {h : H} {kids rest : Fo H L} {g o : Nat} (q : RdFo k pre hd pl w (.cons l h kids rest) g o) :
    (∃ ps ts : List Value, ps.length = pre ∧ (∀ j v, (ps ++ ts)[j]? = some v → w.cell? ⟨g, o + j, none⟩ = some v) ∧ pl w ps l ∧ RdNd k pre hd pl w ts h kids) ∧ RdFo k pre hd pl w rest g (o + (pre + k)) := by
  obtain ⟨⟨ps, ts, A, c, l1, l2, hc, hp, hh, hn, hs⟩, hr⟩ := q
  exact ⟨⟨ps, ts, l1, hc, hp, l2, _, hh, A, c, rfl, hn, hs⟩, hr⟩
theorem RdFo.mk {w : World} {l : L} {h : H} {kids rest : Fo H L} {g o : Nat} (ps ts : List Value) (l1 : ps.length = pre) (hc : ∀ j v, (ps ++ ts)[j]? = some v → w.cell? ⟨g, o + j, none⟩ = some v) (hp : pl w ps l) (hn : RdNd k pre hd pl w ts h kids)
    (hr : RdFo k pre hd pl w rest g (o + (pre + k))) : RdFo k pre hd pl w (.cons l h kids rest) g o := by
  obtain ⟨l2, v, hh, A, c, rfl, hx, hs⟩ := hn
  exact ⟨⟨ps, ts, A, c, l1, l2, hc, hp, hh, hx, hs⟩, hr⟩
theorem RdSl.nil (w : World) (A : Option Addr) (c : Nat) : RdSl k pre hd pl w (.slice A 0 c) .nil := ⟨A, c, rfl, Nat.zero_le _, fun h => absurd h (by simp [Fo.len])⟩
theorem RdFo.kp (hk : ∀ w w' cs h v, Kp w w' → hd w cs h v → hd w' cs h v) (pk : ∀ w w' cs l, Kp w w' → pl w cs l → pl w' cs l) {w w' : World} (q : Kp w w') : ∀ {f : Fo H L} {g o : Nat}, RdFo k pre hd pl w f g o → RdFo k pre hd pl w' f g o := by
  intro f
  induction f with
  | nil => intro g o _; trivial
  | cons l h kids rest ik ir =>
    rintro g o ⟨⟨ps, ts, A, c, l1, l2, hc, hp, hh, hn, hs⟩, hr⟩
    refine ⟨⟨ps, ts, A, c, l1, l2, fun j v e => q.2 _ _ _ (hc j v e), pk _ _ _ _ q hp, hk _ _ _ _ _ q hh, hn, fun h0 => ?_⟩, ir hr⟩
    obtain ⟨g', o', rfl, hg, hx⟩ := hs h0
    exact ⟨g', o', rfl, Nat.lt_of_lt_of_le hg q.1, ik hx⟩
theorem RdSl.kp (hk : ∀ w w' cs h v, Kp w w' → hd w cs h v → hd w' cs h v) (pk : ∀ w w' cs l, Kp w w' → pl w cs l → pl w' cs l) {w w' : World} (q : Kp w w') {v : Value} {f : Fo H L} (h : RdSl k pre hd pl w v f) : RdSl k pre hd pl w' v f := by
  obtain ⟨A, c, rfl, hn, hs⟩ := h
  refine ⟨A, c, rfl, hn, fun h0 => ?_⟩
  obtain ⟨g, o, rfl, hg, hx⟩ := hs h0
  exact ⟨g, o, rfl, Nat.lt_of_lt_of_le hg q.1, hx.kp hk pk q⟩
theorem open_slice_f {G : Type} {enc' : TypeId × Value → G} {P : Program} {W : World} {bs : Nat} {t e : TypeId} {f : Nat} {v : Value} {x : DataW G × List MemPlace} (ht : P.underlying t = some (.slice e))
    (h : DataW.trod enc' P W bs (fun _ => true) true f t [v] = some x) : ∃ (A : Option Addr) (len cap : Nat), v = .slice A len cap ∧ len ≤ cap ∧ cap ≤ maxLen ∧
      (0 < len → ∃ a f', A = some a ∧ f' < f ∧ ∀ i, i < len → ∃ cs' y, W.cells? bs (a.add (i * P.cellsOf e)) (P.cellsOf e) = some cs' ∧ DataW.trod enc' P W bs (fun _ => true) true f' e cs' = some y) := by
  rcases DataW.trod_slice ht h with ⟨h1, -⟩ | ⟨a, len, cap, elems, rest, n, rfl, h1, -, hb, hl, hm, hlen, hel, -, -⟩
  · simp only [List.cons.injEq, and_true] at h1
    exact ⟨none, 0, 0, h1, Nat.le_refl _, by unfold maxLen; omega, fun h => absurd h (by omega)⟩
  · simp only [List.cons.injEq, and_true] at h1
    refine ⟨some a, len, cap, h1, hl, hm, fun _ => ⟨a, n, rfl, Nat.lt_succ_self n, fun i hi => ?_⟩⟩
    have := hel i hi
    rw [List.getElem?_eq_getElem (by omega), Option.bind_eq_some_iff] at this
    obtain ⟨cs', q1, q2⟩ := this
    exact ⟨cs', _, q1, q2⟩
theorem arg_tree {G : Type} {enc' : TypeId × Value → G} {P : Program} {W : World} {bs : Nat} {tT tE tS : TypeId} (hS : P.underlying tS = some (.slice tE)) (ce : P.cellsOf tE = pre + k) (k0 : 0 < k)
    (GH : H → Prop) (GL : L → Prop)
    (node : ∀ f cs x, DataW.trod enc' P W bs (fun _ => true) true f tT cs = some x → cs.length = k → ∃ h v f' y, hd W cs h v ∧ GH h ∧ f' < f ∧ DataW.trod enc' P W bs (fun _ => true) true f' tS [v] = some y)
    (elem : ∀ f cs x, DataW.trod enc' P W bs (fun _ => true) true f tE cs = some x → cs.length = pre + k → ∃ l ps ts f' y, cs = ps ++ ts ∧ ps.length = pre ∧ ts.length = k ∧ pl W ps l ∧ GL l ∧ f' ≤ f ∧ DataW.trod enc' P W bs (fun _ => true) true f' tT ts = some y) :
    ∀ F f, f < F → ∀ cs x, DataW.trod enc' P W bs (fun _ => true) true f tT cs = some x → cs.length = k → ∃ h, GH h ∧ ∃ fo : Fo H L, fo.len ≤ maxLen ∧ RdNd k pre hd pl W cs h fo ∧ fo.All GH GL := by
  intro F
  induction F with
  | zero => intro f hf; omega
  | succ F ih =>
    intro f hf cs x hx hl
    obtain ⟨h, v, f1, y, hh, gh, hf1, hy⟩ := node f cs x hx hl
    obtain ⟨A, len, cap, rfl, hlc, hcm, hel⟩ := open_slice_f hS hy
    refine ⟨h, gh, ?_⟩
    by_cases h0 : 0 < len
    · obtain ⟨a, f2, rfl, hf2, hi⟩ := hel h0
      have key : ∀ i, i < len → ∃ (l : L) (h : H) (fo : Fo H L) (ps ts : List Value), GL l ∧ GH h ∧ fo.len ≤ maxLen ∧ fo.All GH GL ∧ ps.length = pre ∧ (∀ j, j < pre + k → W.cell? (a.add (i * (pre + k) + j)) = (ps ++ ts)[j]?) ∧ pl W ps l ∧ RdNd k pre hd pl W ts h fo := by
        intro i hlt
        obtain ⟨cs', z, h1, h2⟩ := hi i hlt
        rw [ce] at h1
        obtain ⟨-, hlen, hcell⟩ := World.cells?_some h1
        obtain ⟨l, ps, ts, f3, u, rfl, l1, l2, hp, gl, hf3, hu⟩ := elem _ _ _ h2 hlen
        obtain ⟨h', gh', fo, lf, hn, ga⟩ := ih f3 (by omega) ts u hu l2
        refine ⟨l, h', fo, ps, ts, gl, gh', lf, ga, l1, fun j hj => ?_, hp, hn⟩
        have := hcell j hj
        rw [add_add] at this
        exact this
      obtain ⟨b, off, spot⟩ := a
      have hspot : spot = none ∧ b < W.heap.size := by
        obtain ⟨l, h', fo, ps, ts, -, -, -, -, l1, hc, -, hn⟩ := key 0 h0
        have l2 : 0 < (ps ++ ts).length := by rw [List.length_append, hn.1]; omega
        have := hc 0 (by omega)
        rw [List.getElem?_eq_getElem l2] at this
        have hs : spot = none := by simpa [Addr.add] using World.cell?_spot this
        subst hs
        exact ⟨rfl, by have := World.block_lt_of_cell? W _ this; simpa [Addr.add] using this⟩
      obtain ⟨rfl, hb⟩ := hspot
      have ad : ∀ j, (⟨b, off, none⟩ : Addr).add j = ⟨b, off + j, none⟩ := fun j => by unfold Addr.add; split <;> simp_all
      have build : ∀ m i, i + m = len → ∃ fo : Fo H L, fo.len = m ∧ RdFo k pre hd pl W fo b (off + i * (pre + k)) ∧ fo.All GH GL := by
        intro m
        induction m with
        | zero => intro i _; exact ⟨.nil, rfl, trivial, trivial⟩
        | succ m im =>
          intro i e
          obtain ⟨fo, e1, e2, e3⟩ := im (i + 1) (by omega)
          obtain ⟨l, h', kids, ps, ts, gl, gh', lf, ga, l1, hc, hp, hn⟩ := key i (by omega)
          refine ⟨.cons l h' kids fo, by rw [Fo.len_cons, e1], RdFo.mk ps ts l1 (fun j v q => ?_) hp hn (by rw [Nat.add_mul, Nat.one_mul, ← Nat.add_assoc] at e2; exact e2), gl, gh', lf, ga, e3⟩
          have hj : j < pre + k := by
            have := (List.getElem?_eq_some_iff.1 q).1
            rw [List.length_append, l1, hn.1] at this
            exact this
          have := hc j hj
          rw [ad, q] at this
          rw [Nat.add_assoc]
          exact this
      obtain ⟨fo, e1, e2, e3⟩ := build len 0 (Nat.zero_add _)
      rw [Nat.zero_mul, Nat.add_zero] at e2
      subst e1
      exact ⟨fo, Nat.le_trans hlc hcm, ⟨hl, _, hh, some ⟨b, off, none⟩, cap, rfl, hlc, fun _ => ⟨b, off, rfl, hb, e2⟩⟩, e3⟩
    · obtain rfl : len = 0 := by omega
      exact ⟨.nil, Nat.zero_le _, ⟨hl, _, hh, RdSl.nil _ _ _⟩, trivial⟩
theorem flat_in {α G : Type} {enc : α → List Value} {k : Nat} {enc' : TypeId × Value → G} {P : Program} {W : World} {bs : Nat} {t e : TypeId} {f : Nat} {v : Value} {x : DataW G × List MemPlace} (hk : ∀ x, (enc x).length = k) (h0 : 0 < k) (Good : α → Prop)
    (ht : P.underlying t = some (.slice e)) (ce : P.cellsOf e = k) (h : DataW.trod enc' P W bs (fun _ => true) true f t [v] = some x)
    (elem : ∀ (n : Nat) (cs : List Value) (x : DataW G × List MemPlace), DataW.trod enc' P W bs (fun _ => true) true n e cs = some x → cs.length = k → ∃ a : α, cs = enc a ∧ Good a) :
    ∃ xs : List α, RdG enc k W v xs ∧ (∀ x ∈ xs, Good x) ∧ xs.length ≤ maxLen := by
  obtain ⟨A, len, cap, rfl, hlc, hcm, hel⟩ := open_slice_f ht h
  by_cases hl : 0 < len
  · obtain ⟨a, f2, rfl, -, hi⟩ := hel hl
    have key : ∀ i, i < len → ∃ y : α, Good y ∧ ∀ j, j < k → W.cell? (a.add (i * k + j)) = (enc y)[j]? := by
      intro i hlt
      obtain ⟨cs', z, h1, h2⟩ := hi i hlt
      rw [ce] at h1
      obtain ⟨-, hlen, hcell⟩ := World.cells?_some h1
      obtain ⟨y, rfl, gy⟩ := elem _ _ _ h2 hlen
      refine ⟨y, gy, fun j hj => ?_⟩
      have := hcell j hj
      rw [add_add] at this
      exact this
    obtain ⟨b, off, spot⟩ := a
    have hspot : spot = none ∧ b < W.heap.size := by
      obtain ⟨y, -, hc⟩ := key 0 hl
      have := hc 0 h0
      rw [List.getElem?_eq_getElem (by rw [hk]; exact h0)] at this
      have hs : spot = none := by simpa [Addr.add] using World.cell?_spot this
      subst hs
      exact ⟨rfl, by have := World.block_lt_of_cell? W _ this; simpa [Addr.add] using this⟩
    obtain ⟨rfl, hb⟩ := hspot
    have ad : ∀ j, (⟨b, off, none⟩ : Addr).add j = ⟨b, off + j, none⟩ := fun j => by unfold Addr.add; split <;> simp_all
    have build : ∀ m i, i + m = len → ∃ xs : List α, xs.length = m ∧ (∀ x ∈ xs, Good x) ∧ ∀ j u, (flatG enc xs)[j]? = some u → W.cell? ⟨b, off + (i * k + j), none⟩ = some u := by
      intro m
      induction m with
      | zero => intro i _; exact ⟨[], rfl, by simp, by simp [flatG]⟩
      | succ m im =>
        intro i e
        obtain ⟨xs, e1, e2, e3⟩ := im (i + 1) (by omega)
        obtain ⟨y, gy, hc⟩ := key i (by omega)
        refine ⟨y :: xs, by simp [e1], fun z hz => ?_, fun j u hj => ?_⟩
        · rcases List.mem_cons.1 hz with rfl | q
          · exact gy
          · exact e2 z q
        · rw [flatG_cons] at hj
          by_cases hjk : j < k
          · rw [List.getElem?_append_left (by rw [hk]; exact hjk)] at hj
            rw [← ad, hc j hjk, hj]
          · rw [List.getElem?_append_right (by rw [hk]; omega), hk] at hj
            have := e3 _ u hj
            rw [Nat.add_mul] at this
            rw [show i * k + j = i * k + 1 * k + (j - k) by omega]
            exact this
    obtain ⟨xs, e1, e2, e3⟩ := build len 0 (Nat.zero_add _)
    subst e1
    exact ⟨xs, ⟨_, xs.length, cap, rfl, flatG_len hk xs, hlc, fun _ => ⟨b, off, rfl, hb, fun j u hj => by have := e3 j u hj; rwa [Nat.zero_mul, Nat.zero_add] at this⟩⟩, e2, Nat.le_trans hlc hcm⟩
  · obtain rfl : len = 0 := by omega
    exact ⟨[], RdG.none0 _ _ _, by simp, Nat.zero_le _⟩
end
end Go.Proofs.YtbnmkbpjdelokaaGreat
