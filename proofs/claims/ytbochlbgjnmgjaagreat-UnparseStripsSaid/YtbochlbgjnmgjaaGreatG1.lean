import Derived.Test.YtbochlbgjnmgjaaGreatNamS
import Derived.Test.YtbochlbgjnmgjaaGreatOwn
import Derived.Deep.Slices
import Derived.ProofKit
/- Words: a name, and where it stood. -/
set_option maxRecDepth 100000
set_option linter.unusedVariables false
namespace Go.Proofs.YtbochlbgjnmgjaaGreat.Lat
open Go.Proofs.YtbochlbgjnmgjaaGreat.Nam

abbrev Wr := ByteArray × Int
instance : Inhabited Wr := ⟨(ByteArray.empty, 0)⟩
abbrev wN (ws : List Wr) (i : Nat) : Wr := ws.getD i (ByteArray.empty, 0)
theorem wN_get {ws : List Wr} {i : Nat} (h : i < ws.length) : wN ws i = ws[i] := by simp [wN, List.getD, List.getElem?_eq_getElem h]
def nms (ws : List Wr) : List ByteArray := ws.map (·.1)
theorem nms_len (ws : List Wr) : (nms ws).length = ws.length := by simp [nms]
theorem nms_get {ws : List Wr} {i : Nat} (h : i < ws.length) : (nms ws)[i]? = some (wN ws i).1 := by rw [wN_get h]; simp [nms, List.getElem?_eq_getElem h]
theorem wN_mem {ws : List Wr} {i : Nat} (h : i < ws.length) : wN ws i ∈ ws := by rw [wN_get h]; exact List.getElem_mem h
end Go.Proofs.YtbochlbgjnmgjaaGreat.Lat

/- Slices of elements of k cells, whatever k: as a list, opened at every index, and as an argument. -/
set_option maxRecDepth 100000
set_option linter.unusedVariables false
namespace Go.Proofs.YtbochlbgjnmgjaaGreat
open Go.RowKit Go.Lib Go.ChangeShapes Go.WideShapes Go.Deep

section
variable {α : Type} {enc : α → List Value} {k : Nat}
/-- The cells of a list. -/
def flatG (enc : α → List Value) (l : List α) : List Value := l.flatMap enc
theorem flatG_cons (x : α) (l : List α) : flatG enc (x :: l) = enc x ++ flatG enc l := rfl
theorem flatG_append (l m : List α) : flatG enc (l ++ m) = flatG enc l ++ flatG enc m := by unfold flatG; rw [List.flatMap_append]
theorem flatG_snoc (l : List α) (x : α) : flatG enc (l ++ [x]) = flatG enc l ++ enc x := by rw [flatG_append]; simp [flatG]
theorem flatG_len (hk : ∀ x, (enc x).length = k) : ∀ l : List α, (flatG enc l).length = l.length * k
  | [] => by simp [flatG]
  | x :: l => by rw [flatG_cons, List.length_append, hk, flatG_len hk l, List.length_cons, Nat.add_mul]; omega
theorem flatG_get (hk : ∀ x, (enc x).length = k) : ∀ (l : List α) (i j : Nat) (h : i < l.length), j < k → (flatG enc l)[i * k + j]? = (enc l[i])[j]?
  | x :: l, 0, j, h, hj => by
    rw [flatG_cons, Nat.zero_mul, Nat.zero_add, List.getElem?_append_left (by rw [hk]; exact hj)]; rfl
  | x :: l, i + 1, j, h, hj => by
    rw [flatG_cons, List.getElem?_append_right (by rw [hk, Nat.add_mul]; omega), hk, show (i + 1) * k + j - k = i * k + j by rw [Nat.add_mul]; omega, flatG_get hk l i j (by simpa using h) hj]
    rfl
/-- A slice that reads as a list of such elements. -/
def RdG (enc : α → List Value) (k : Nat) (w : World) (v : Value) (l : List α) : Prop := RdAt w v k (flatG enc l)
theorem RdG.below {w w' : World} {v : Value} {l : List α} (h : RdG enc k w v l) (hb : Below w.heap.size w w') : RdG enc k w' v l := RdAt.below h hb
theorem RdG.none0 (w : World) (A : Option Addr) (c : Nat) : RdG enc k w (.slice A 0 c) [] := ⟨A, 0, c, rfl, by simp [flatG], Nat.zero_le _, fun h => absurd h (by simp [flatG])⟩
theorem RdG.of_own {w : World} {base : Nat} {e : TypeId} {n : Nat} {v : Value} {l : List α} (h : w.ownsRow base e k v n (flatG enc l)) : RdG enc k w v l := RdAt.of_own h
theorem RdG.open (hk : ∀ x, (enc x).length = k) (h0 : 0 < k) {w : World} {v : Value} {l : List α} (h : RdG enc k w v l) : ∃ (A : Option Addr) (c : Nat), v = .slice A l.length c ∧ l.length ≤ c ∧
    (0 < l.length → ∃ g o, A = some ⟨g, o, none⟩ ∧ g < w.heap.size ∧ ∀ i (hi : i < l.length) j, j < k → w.cell? ⟨g, o + i * k + j, none⟩ = (enc l[i])[j]?) := by
  obtain ⟨A, n, c, rfl, hl, hn, hc⟩ := h
  rw [flatG_len hk] at hl
  obtain rfl : n = l.length := (Nat.eq_of_mul_eq_mul_right h0 hl).symm
  refine ⟨A, c, rfl, hn, fun hp => ?_⟩
  obtain ⟨g, o, rfl, hg, hc⟩ := hc (by rw [flatG_len hk]; exact Nat.mul_pos hp h0)
  refine ⟨g, o, rfl, hg, fun i hi j hj => ?_⟩
  have e := flatG_get hk l i j hi hj
  have hs : j < (enc l[i]).length := by rw [hk]; exact hj
  rw [List.getElem?_eq_getElem hs] at e ⊢
  rw [Nat.add_assoc]
  exact hc _ _ e

end
end Go.Proofs.YtbochlbgjnmgjaaGreat

/- Trees in memory (types, values, what was written): read by recursion, kept, opened as an argument. A tree is what stands at it and a forest; a forest is a list of labelled trees, its first one's parts and its rest laid side by side. -/
set_option maxRecDepth 100000
set_option linter.unusedVariables false
namespace Go.Proofs.YtbochlbgjnmgjaaGreat
open Go.RowKit Go.Lib Go.ChangeShapes Go.WideShapes Go.Deep

/-- A forest: how its first tree is held, what stands at it, its parts; the rest. -/
inductive Fo (H L : Type) where
  | nil : Fo H L
  | cons (l : L) (h : H) (kids rest : Fo H L) : Fo H L
namespace Fo
variable {H L : Type}
def len : Fo H L → Nat
  | .nil => 0
  | .cons _ _ _ r => r.len + 1
def size : Fo H L → Nat
  | .nil => 0
  | .cons _ _ k r => k.size + r.size + 1
def All (GH : H → Prop) (GL : L → Prop) : Fo H L → Prop
  | .nil => True
  | .cons l h k r => GL l ∧ GH h ∧ k.len ≤ maxLen ∧ All GH GL k ∧ All GH GL r
theorem len_cons (l : L) (h : H) (k r : Fo H L) : (cons l h k r).len = r.len + 1 := rfl
theorem len_zero {f : Fo H L} (h : f.len = 0) : f = .nil := by cases f with | nil => rfl | cons => simp [len] at h
theorem len_pos {f : Fo H L} (h : 0 < f.len) : ∃ l x k r, f = .cons l x k r := by cases f with | nil => simp [len] at h | cons l x k r => exact ⟨l, x, k, r, rfl⟩
end Fo

/-- What stands goes on standing. -/
def Kp (w w' : World) : Prop := w.heap.size ≤ w'.heap.size ∧ ∀ (b o : Nat) (v : Value), w.cell? ⟨b, o, none⟩ = some v → w'.cell? ⟨b, o, none⟩ = some v
theorem Kp.of_below {w w' : World} (hb : Below w.heap.size w w') : Kp w w' := ⟨hb.size, fun b o v h => (hb.cell (p := ⟨b, o, none⟩) (World.block_lt_of_cell? w _ h)).trans h⟩
theorem RdAt.kp {w w' : World} (hk : Kp w w') {v : Value} {k : Nat} {xs : List Value} (h : RdAt w v k xs) : RdAt w' v k xs := by
  obtain ⟨A, n, c, rfl, hl, hn, hc⟩ := h
  refine ⟨A, n, c, rfl, hl, hn, fun hp => ?_⟩
  obtain ⟨g, o, rfl, hg, hx⟩ := hc hp
  exact ⟨g, o, rfl, Nat.lt_of_lt_of_le hg hk.1, fun j u hj => hk.2 _ _ _ (hx j u hj)⟩

section
variable {H L : Type}
/-- From an offset of a block on lies a forest: pre cells say how a tree is held, k cells what it is. -/
def RdFo (k pre : Nat) (hd : World → List Value → H → Value → Prop) (pl : World → List Value → L → Prop) (w : World) : Fo H L → Nat → Nat → Prop
  | .nil, _, _ => True
  | .cons l h kids rest, g, o => (∃ (ps ts : List Value) (A : Option Addr) (c : Nat), ps.length = pre ∧ ts.length = k ∧ (∀ j v, (ps ++ ts)[j]? = some v → w.cell? ⟨g, o + j, none⟩ = some v) ∧ pl w ps l ∧ hd w ts h (.slice A kids.len c) ∧ kids.len ≤ c ∧
      (0 < kids.len → ∃ g' o', A = some ⟨g', o', none⟩ ∧ g' < w.heap.size ∧ RdFo k pre hd pl w kids g' o')) ∧ RdFo k pre hd pl w rest g (o + (pre + k))
variable {k pre : Nat} {hd : World → List Value → H → Value → Prop} {pl : World → List Value → L → Prop}
/-- A slice reads as a forest. -/
def RdSl (k pre : Nat) (hd : World → List Value → H → Value → Prop) (pl : World → List Value → L → Prop) (w : World) (v : Value) (f : Fo H L) : Prop :=
  ∃ (A : Option Addr) (c : Nat), v = .slice A f.len c ∧ f.len ≤ c ∧ (0 < f.len → ∃ g o, A = some ⟨g, o, none⟩ ∧ g < w.heap.size ∧ RdFo k pre hd pl w f g o)
/-- Cells read as a tree. -/
def RdNd (k pre : Nat) (hd : World → List Value → H → Value → Prop) (pl : World → List Value → L → Prop) (w : World) (cs : List Value) (h : H) (f : Fo H L) : Prop :=
  cs.length = k ∧ ∃ v, hd w cs h v ∧ RdSl k pre hd pl w v f
theorem RdFo.first {w : World} {l : L} {h : H} {kids rest : Fo H L} {g o : Nat} (q : RdFo k pre hd pl w (.cons l h kids rest) g o) :
    (∃ ps ts : List Value, ps.length = pre ∧ (∀ j v, (ps ++ ts)[j]? = some v → w.cell? ⟨g, o + j, none⟩ = some v) ∧ pl w ps l ∧ RdNd k pre hd pl w ts h kids) ∧ RdFo k pre hd pl w rest g (o + (pre + k)) := by
  obtain ⟨⟨ps, ts, A, c, l1, l2, hc, hp, hh, hn, hs⟩, hr⟩ := q
  exact ⟨⟨ps, ts, l1, hc, hp, l2, _, hh, A, c, rfl, hn, hs⟩, hr⟩
theorem RdFo.mk {w : World} {l : L} {h : H} {kids rest : Fo H L} {g o : Nat} (ps ts : List Value) (l1 : ps.length = pre) (hc : ∀ j v, (ps ++ ts)[j]? = some v → w.cell? ⟨g, o + j, none⟩ = some v) (hp : pl w ps l) (hn : RdNd k pre hd pl w ts h kids)
    (hr : RdFo k pre hd pl w rest g (o + (pre + k))) : RdFo k pre hd pl w (.cons l h kids rest) g o := by
  obtain ⟨l2, v, hh, A, c, rfl, hx, hs⟩ := hn
  exact ⟨⟨ps, ts, A, c, l1, l2, hc, hp, hh, hx, hs⟩, hr⟩
theorem RdSl.nil (w : World) (A : Option Addr) (c : Nat) : RdSl k pre hd pl w (.slice A 0 c) .nil := ⟨A, c, rfl, Nat.zero_le _, fun h => absurd h (by simp [Fo.len])⟩
theorem RdFo.kp (hk : ∀ w w' cs h v, Kp w w' → hd w cs h v → hd w' cs h v) (pk : ∀ w w' cs l, Kp w w' → pl w cs l → pl w' cs l) {w w' : World} (q : Kp w w') : ∀ {f : Fo H L} {g o : Nat}, RdFo k pre hd pl w f g o → RdFo k pre hd pl w' f g o := by
  intro f
  induction f with
  | nil => intro g o _; trivial
  | cons l h kids rest ik ir =>
    rintro g o ⟨⟨ps, ts, A, c, l1, l2, hc, hp, hh, hn, hs⟩, hr⟩
    refine ⟨⟨ps, ts, A, c, l1, l2, fun j v e => q.2 _ _ _ (hc j v e), pk _ _ _ _ q hp, hk _ _ _ _ _ q hh, hn, fun h0 => ?_⟩, ir hr⟩
    obtain ⟨g', o', rfl, hg, hx⟩ := hs h0
    exact ⟨g', o', rfl, Nat.lt_of_lt_of_le hg q.1, ik hx⟩
theorem RdSl.kp (hk : ∀ w w' cs h v, Kp w w' → hd w cs h v → hd w' cs h v) (pk : ∀ w w' cs l, Kp w w' → pl w cs l → pl w' cs l) {w w' : World} (q : Kp w w') {v : Value} {f : Fo H L} (h : RdSl k pre hd pl w v f) : RdSl k pre hd pl w' v f := by
  obtain ⟨A, c, rfl, hn, hs⟩ := h
  refine ⟨A, c, rfl, hn, fun h0 => ?_⟩
  obtain ⟨g, o, rfl, hg, hx⟩ := hs h0
  exact ⟨g, o, rfl, Nat.lt_of_lt_of_le hg q.1, hx.kp hk pk q⟩
theorem RdNd.kp (hk : ∀ w w' cs h v, Kp w w' → hd w cs h v → hd w' cs h v) (pk : ∀ w w' cs l, Kp w w' → pl w cs l → pl w' cs l) {w w' : World} (q : Kp w w') {cs : List Value} {h : H} {f : Fo H L} (x : RdNd k pre hd pl w cs h f) : RdNd k pre hd pl w' cs h f := by
  obtain ⟨l, v, hh, hs⟩ := x
  exact ⟨l, v, hk _ _ _ _ _ q hh, hs.kp hk pk q⟩

/-- A slice that came in, its elements opened one by one, with less fuel. -/
theorem open_slice_f {G : Type} {enc' : TypeId × Value → G} {P : Program} {W : World} {bs : Nat} {t e : TypeId} {f : Nat} {v : Value} {x : DataW G × List MemPlace} (ht : P.underlying t = some (.slice e))
    (h : DataW.trod enc' P W bs (fun _ => true) true f t [v] = some x) : ∃ (A : Option Addr) (len cap : Nat), v = .slice A len cap ∧ len ≤ cap ∧ cap ≤ maxLen ∧
      (0 < len → ∃ a f', A = some a ∧ f' < f ∧ ∀ i, i < len → ∃ cs' y, W.cells? bs (a.add (i * P.cellsOf e)) (P.cellsOf e) = some cs' ∧ DataW.trod enc' P W bs (fun _ => true) true f' e cs' = some y) := by
  rcases DataW.trod_slice ht h with ⟨h1, -⟩ | ⟨a, len, cap, elems, rest, n, rfl, h1, -, hb, hl, hm, hlen, hel, -, -⟩
  · simp only [List.cons.injEq, and_true] at h1
    exact ⟨none, 0, 0, h1, Nat.le_refl _, by unfold maxLen; omega, fun h => absurd h (by omega)⟩
  · simp only [List.cons.injEq, and_true] at h1
    refine ⟨some a, len, cap, h1, hl, hm, fun _ => ⟨a, n, rfl, Nat.lt_succ_self n, fun i hi => ?_⟩⟩
    have := hel i hi
    rw [List.getElem?_eq_getElem (by omega), Option.bind_eq_some_iff] at this
    obtain ⟨cs', q1, q2⟩ := this
    exact ⟨cs', _, q1, q2⟩

/-- A slice of plain elements inside what came in, opened as a list. -/
theorem flat_in {α G : Type} {enc : α → List Value} {k : Nat} {enc' : TypeId × Value → G} {P : Program} {W : World} {bs : Nat} {t e : TypeId} {f : Nat} {v : Value} {x : DataW G × List MemPlace} (hk : ∀ x, (enc x).length = k) (h0 : 0 < k) (Good : α → Prop)
    (ht : P.underlying t = some (.slice e)) (ce : P.cellsOf e = k) (h : DataW.trod enc' P W bs (fun _ => true) true f t [v] = some x)
    (elem : ∀ (n : Nat) (cs : List Value) (x : DataW G × List MemPlace), DataW.trod enc' P W bs (fun _ => true) true n e cs = some x → cs.length = k → ∃ a : α, cs = enc a ∧ Good a) :
    ∃ xs : List α, RdG enc k W v xs ∧ (∀ x ∈ xs, Good x) ∧ xs.length ≤ maxLen := by
  obtain ⟨A, len, cap, rfl, hlc, hcm, hel⟩ := open_slice_f ht h
  by_cases hl : 0 < len
  · obtain ⟨a, f2, rfl, -, hi⟩ := hel hl
    have key : ∀ i, i < len → ∃ y : α, Good y ∧ ∀ j, j < k → W.cell? (a.add (i * k + j)) = (enc y)[j]? := by
      intro i hlt
      obtain ⟨cs', z, h1, h2⟩ := hi i hlt
      rw [ce] at h1
      obtain ⟨-, hlen, hcell⟩ := World.cells?_some h1
      obtain ⟨y, rfl, gy⟩ := elem _ _ _ h2 hlen
      refine ⟨y, gy, fun j hj => ?_⟩
      have := hcell j hj
      rw [add_add] at this
      exact this
    obtain ⟨b, off, spot⟩ := a
    have hspot : spot = none ∧ b < W.heap.size := by
      obtain ⟨y, -, hc⟩ := key 0 hl
      have := hc 0 h0
      rw [List.getElem?_eq_getElem (by rw [hk]; exact h0)] at this
      have hs : spot = none := by simpa [Addr.add] using World.cell?_spot this
      subst hs
      exact ⟨rfl, by have := World.block_lt_of_cell? W _ this; simpa [Addr.add] using this⟩
    obtain ⟨rfl, hb⟩ := hspot
    have ad : ∀ j, (⟨b, off, none⟩ : Addr).add j = ⟨b, off + j, none⟩ := fun j => by unfold Addr.add; split <;> simp_all
    have build : ∀ m i, i + m = len → ∃ xs : List α, xs.length = m ∧ (∀ x ∈ xs, Good x) ∧ ∀ j u, (flatG enc xs)[j]? = some u → W.cell? ⟨b, off + (i * k + j), none⟩ = some u := by
      intro m
      induction m with
      | zero => intro i _; exact ⟨[], rfl, by simp, by simp [flatG]⟩
      | succ m im =>
        intro i e
        obtain ⟨xs, e1, e2, e3⟩ := im (i + 1) (by omega)
        obtain ⟨y, gy, hc⟩ := key i (by omega)
        refine ⟨y :: xs, by simp [e1], fun z hz => ?_, fun j u hj => ?_⟩
        · rcases List.mem_cons.1 hz with rfl | q
          · exact gy
          · exact e2 z q
        · rw [flatG_cons] at hj
          by_cases hjk : j < k
          · rw [List.getElem?_append_left (by rw [hk]; exact hjk)] at hj
            rw [← ad, hc j hjk, hj]
          · rw [List.getElem?_append_right (by rw [hk]; omega), hk] at hj
            have := e3 _ u hj
            rw [Nat.add_mul] at this
            rw [show i * k + j = i * k + 1 * k + (j - k) by omega]
            exact this
    obtain ⟨xs, e1, e2, e3⟩ := build len 0 (Nat.zero_add _)
    subst e1
    exact ⟨xs, ⟨_, xs.length, cap, rfl, flatG_len hk xs, hlc, fun _ => ⟨b, off, rfl, hb, fun j u hj => by have := e3 j u hj; rwa [Nat.zero_mul, Nat.zero_add] at this⟩⟩, e2, Nat.le_trans hlc hcm⟩
  · obtain rfl : len = 0 := by omega
    exact ⟨[], RdG.none0 _ _ _, by simp, Nat.zero_le _⟩
end
end Go.Proofs.YtbochlbgjnmgjaaGreat

/- The plain mathematics of layer 15: types as they are written; what is wrong with one; how many there are in one, how deep; which are the same; one without places. No Go here. -/
set_option maxRecDepth 100000
set_option linter.unusedVariables false
namespace Go.Proofs.YtbochlbgjnmgjaaGreat.Kin
open Go.Proofs.YtbochlbgjnmgjaaGreat.Nam Go.Proofs.YtbochlbgjnmgjaaGreat.Lat

/-- What stands at a type, beside its parts. -/
structure TH where
  kind : Int
  at_ : Int
  lo : Int
  hi : Int
  most : Int
  names : List Wr
  name : ByteArray
  nat : Int
/-- What a part is, beside its type. -/
structure PH where
  name : ByteArray
  at_ : Int
  bare : Bool
  label : List Wr
  wide : Int
  ck : Int
  cn : Int
  cat : Int
  cl : List Wr
abbrev Ft := Fo TH PH
def zTH : TH := ⟨0, 0, 0, 0, 0, [], ByteArray.empty, 0⟩
def zPH : PH := ⟨ByteArray.empty, 0, false, [], 0, 0, 0, 0, []⟩
def bPH : PH := ⟨ByteArray.empty, 0, true, [], 0, 0, 0, 0, []⟩

def cntF : Ft → Nat
  | .nil => 0
  | .cons p _ k r => (if p.bare then 0 else cntF k + 1) + cntF r
def depF : Ft → Nat
  | .nil => 0
  | .cons p _ k r => max (if p.bare then 0 else depF k + 1) (depF r)
def sameW (a b : List Wr) : Bool := decide (nms a = nms b)
def plainB (p q : PH) : Bool := (p.bare == q.bare) && decide (p.wide = q.wide) && sameW p.label q.label && decide (p.ck = q.ck) && decide (p.cn = q.cn) && sameW p.cl q.cl
def headB (a b : TH) : Bool := decide (a.kind = b.kind) && decide (a.lo = b.lo) && decide (a.hi = b.hi) && decide (a.most = b.most) && decide (a.name = b.name) && sameW a.names b.names
def sameF : Ft → Ft → Bool
  | .nil, .nil => true
  | .cons p h k r, .cons q g l s => (decide (p.name = q.name) && plainB p q && (headB h g && sameF k l)) && sameF r s
  | _, _ => false
def sameS (h : TH) (k : Ft) (g : TH) (l : Ft) : Bool := headB h g && sameF k l
def zeroB (h : TH) (k : Ft) : Bool := sameS h k zTH .nil
def stripW (l : List Wr) : List Wr := l.map fun x => (x.1, 0)
def stripP (p : PH) : PH := ⟨p.name, 0, p.bare, stripW p.label, p.wide, p.ck, p.cn, 0, stripW p.cl⟩
def stripH (h : TH) : TH := ⟨h.kind, 0, h.lo, h.hi, h.most, stripW h.names, h.name, 0⟩
def stripF : Ft → Ft
  | .nil => .nil
  | .cons p h k r => .cons (stripP p) (stripH h) (stripF k) (stripF r)
def stillW (l : List Wr) : Bool := l.all fun x => decide (x.2 = 0)
def placeF : Ft → Bool
  | .nil => true
  | .cons p h k r => (decide (p.at_ = 0 ∧ p.cat = 0) && stillW p.label && stillW p.cl && (decide (h.at_ = 0 ∧ h.nat = 0) && stillW h.names && placeF k)) && placeF r
def placeS (h : TH) (k : Ft) : Bool := decide (h.at_ = 0 ∧ h.nat = 0) && stillW h.names && placeF k

/-! ### What is wrong -/
def ownB (h : TH) (k : Ft) : Bool :=
  decide ((h.kind = 2 ∨ h.lo = 0 ∧ h.hi = 0) ∧ (h.kind = 3 ∨ h.kind = 5 ∨ h.most = 0) ∧ (h.kind = 4 ∨ h.names = []) ∧ (4 < h.kind ∧ h.kind < 9 ∨ k.len = 0) ∧ (h.kind = 9 ∨ h.name = ByteArray.empty))
def labF : List Wr → Int × Int
  | [] => (0, 0)
  | x :: r => if rightS x.1 then labF r else (9, x.2)
def labelS (l : List Wr) : Int × Int := if 32 < l.length then (8, (wN l 32).2) else labF l
def coarseS (p : PH) : Int × Int :=
  if p.ck = 0 then (if p.cn ≠ 0 ∨ p.cl ≠ [] then (19, p.at_) else (0, 0))
  else if p.ck < 0 ∨ 3 < p.ck then (14, p.cat)
  else if (p.ck = 1 ∧ p.cn < 1) ∨ (p.ck = 2 ∧ (p.cn < 0 ∨ 4096 < p.cn)) ∨ (p.ck = 3 ∧ p.cn ≠ 0) then (20, p.cat)
  else labelS p.cl
noncomputable def listedS (ns : List ByteArray) (i : Nat) : Int := if rightS (ns.getD i ByteArray.empty) = false then 9 else if ns.getD i ByteArray.empty ∈ ns.take i then 10 else 0
noncomputable def enumF (ns : List ByteArray) : Nat → List Wr → Int × Int
  | _, [] => (0, 0)
  | i, x :: r => if listedS ns i ≠ 0 then (listedS ns i, x.2) else enumF ns (i + 1) r
/-- The names of parts. -/
def pnm : Ft → List Wr
  | .nil => []
  | .cons p _ _ r => (p.name, p.at_) :: pnm r
theorem pnm_len : ∀ f : Ft, (pnm f).length = f.len
  | .nil => rfl
  | .cons p _ _ r => by simp [pnm, Fo.len, pnm_len r]
/-- Is it one part, with only a type? -/
def onlyB : Ft → Bool
  | .cons p _ _ .nil => decide (p.name = ByteArray.empty) && plainB p zPH
  | _ => false
abbrev Res := Int × Int × Nat
/-- What is gone through: the only part's type; or parts, from one on. -/
inductive Mo where
  | one
  | parts (K : Int) (ns : List ByteArray) (i : Nat)
noncomputable def wrB (h : TH) (k : Ft) (sub : Mo → Nat → Nat → Res) (d m : Nat) : Res :=
  if 24 < d then (6, h.at_, m + 1)
  else if 512 < m + 1 then (8, h.at_, m + 1)
  else if h.kind < 1 ∨ 9 < h.kind then (14, h.at_, m + 1)
  else if ownB h k = false then (19, h.at_, m + 1)
  else if (h.kind = 2 ∧ h.hi < h.lo) ∨ (h.kind = 3 ∧ (h.most < 0 ∨ 4096 < h.most)) then (20, h.at_, m + 1)
  else if h.kind = 9 ∧ rightS h.name = false then (9, h.nat, m + 1)
  else if h.kind = 4 then (if h.names = [] then (15, h.at_, m + 1) else if 64 < h.names.length then (8, (wN h.names 64).2, m + 1) else ((enumF (nms h.names) 0 h.names).1, (enumF (nms h.names) 0 h.names).2, m + 1))
  else if h.kind = 5 ∨ h.kind = 6 then (if onlyB k = false then (19, h.at_, m + 1) else if h.most < 0 ∨ 1024 < h.most then (20, h.at_, m + 1) else sub .one (d + 1) (m + 1))
  else if h.kind = 7 ∨ h.kind = 8 then (if h.kind = 8 ∧ k.len = 0 then (15, h.at_, m + 1) else if 64 < k.len then (8, (wN (pnm k) 64).2, m + 1) else sub (.parts h.kind (nms (pnm k)) 0) (d + 1) (m + 1))
  else (0, 0, m + 1)
noncomputable def wrF : Ft → Mo → Nat → Nat → Res
  | .nil, _, _, m => (0, 0, m)
  | .cons _ h k _, .one, d, m => wrB h k (wrF k) d m
  | .cons p h k r, .parts K ns i, d, m =>
    if listedS ns i ≠ 0 then (listedS ns i, p.at_, m)
    else if p.bare then (if K = 7 ∨ zeroB h k = false ∨ plainB p bPH = false then (19, p.at_, m) else wrF r (.parts K ns (i + 1)) d m)
    else if p.wide < 0 ∨ 64 < p.wide then (20, p.at_, m)
    else if (labelS p.label).1 ≠ 0 then ((labelS p.label).1, (labelS p.label).2, m)
    else if (coarseS p).1 ≠ 0 then ((coarseS p).1, (coarseS p).2, m)
    else if (wrB h k (wrF k) d m).1 ≠ 0 then wrB h k (wrF k) d m
    else wrF r (.parts K ns (i + 1)) d (wrB h k (wrF k) d m).2.2
noncomputable def wrS (h : TH) (k : Ft) : Res := wrB h k (wrF k) 1 0

/-! ### Sameness -/
theorem sameW_refl (l : List Wr) : sameW l l = true := by simp [sameW]
theorem sameW_comm (a b : List Wr) : sameW a b = sameW b a := by unfold sameW; rw [Bool.eq_iff_iff, decide_eq_true_iff, decide_eq_true_iff]; exact ⟨Eq.symm, Eq.symm⟩
theorem nms_strip (l : List Wr) : nms (stripW l) = nms l := by simp [nms, stripW]
theorem sameW_strip (l : List Wr) : sameW l (stripW l) = true := by simp [sameW, nms_strip]
theorem plainB_refl (p : PH) : plainB p p = true := by simp [plainB, sameW_refl]
theorem headB_refl (h : TH) : headB h h = true := by simp [headB, sameW_refl]
theorem sameF_refl : ∀ f : Ft, sameF f f = true
  | .nil => rfl
  | .cons p h k r => by simp [sameF, plainB_refl, headB_refl, sameF_refl k, sameF_refl r]
theorem sameS_refl (h : TH) (k : Ft) : sameS h k h k = true := by simp [sameS, headB_refl, sameF_refl]
theorem dec_comm {α : Type} [DecidableEq α] (a b : α) : decide (a = b) = decide (b = a) := by rw [Bool.eq_iff_iff, decide_eq_true_iff, decide_eq_true_iff]; exact ⟨Eq.symm, Eq.symm⟩
theorem plainB_comm (p q : PH) : plainB p q = plainB q p := by
  unfold plainB
  rw [dec_comm p.wide, dec_comm p.ck, dec_comm p.cn, sameW_comm p.label, sameW_comm p.cl, Bool.beq_comm]
theorem headB_comm (a b : TH) : headB a b = headB b a := by
  unfold headB
  rw [dec_comm a.kind, dec_comm a.lo, dec_comm a.hi, dec_comm a.most, dec_comm a.name, sameW_comm a.names]
theorem sameF_comm : ∀ f g : Ft, sameF f g = sameF g f
  | .nil, .nil => rfl
  | .nil, .cons .. => rfl
  | .cons .., .nil => rfl
  | .cons p h k r, .cons q g l s => by unfold sameF; rw [dec_comm p.name, plainB_comm p, headB_comm h, sameF_comm k, sameF_comm r]
theorem sameS_comm (h : TH) (k : Ft) (g : TH) (l : Ft) : sameS h k g l = sameS g l h k := by unfold sameS; rw [headB_comm, sameF_comm]
theorem plainB_strip (p : PH) : plainB p (stripP p) = true := by simp [plainB, stripP, sameW_strip]
theorem headB_strip (h : TH) : headB h (stripH h) = true := by simp [headB, stripH, sameW_strip]
theorem sameF_strip : ∀ f : Ft, sameF f (stripF f) = true
  | .nil => rfl
  | .cons p h k r => by
    unfold stripF sameF
    rw [plainB_strip, headB_strip, sameF_strip k, sameF_strip r]
    simp [stripP]
theorem sameS_strip (h : TH) (k : Ft) : sameS h k (stripH h) (stripF k) = true := by simp [sameS, headB_strip, sameF_strip]
theorem still_strip (l : List Wr) : stillW (stripW l) = true := by simp [stillW, stripW]
theorem place_strip : ∀ f : Ft, placeF (stripF f) = true
  | .nil => rfl
  | .cons p h k r => by
    unfold stripF placeF
    rw [place_strip k, place_strip r]
    simp [stripP, stripH, still_strip]
theorem placeS_strip (h : TH) (k : Ft) : placeS (stripH h) (stripF k) = true := by
  unfold placeS
  rw [place_strip]
  simp [stripH, still_strip]
theorem len_strip : ∀ f : Ft, (stripF f).len = f.len
  | .nil => rfl
  | .cons p h k r => by unfold stripF Fo.len; rw [len_strip r]
theorem stripW_len (l : List Wr) : (stripW l).length = l.length := by simp [stripW]
def Alike2 (a b : Int × Int) : Prop := a.1 = b.1
/-- The same fault but for its place, and the same count. -/
def Alike (a b : Res) : Prop := a.1 = b.1 ∧ a.2.2 = b.2.2
end Go.Proofs.YtbochlbgjnmgjaaGreat.Kin
