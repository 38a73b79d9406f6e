import Derived.Test.YtncijmodlhijoaaGreatQ5
import Derived.Test.YtncijmodlhijoaaGreatQ4
import Derived.Test.YtncijmodlhijoaaGreatQ2
import Derived.Deep.Slices
import Derived.ProofKit
set_option linter.unusedVariables false
set_option maxRecDepth 100000
set_option maxHeartbeats 4000000
namespace Go.Proofs.YtncijmodlhijoaaGreat.Tok
open Go.Lib Utf Ran Cel Esc Dig Nam Pat
theorem scn_ne {s : ByteArray} {i : Nat} {b : Bool} {l : List Tk} {e : Int × Int} (hi : i ≤ s.size) (h : scnI s i b = (some l, e)) : l ≠ [] ∧ e = (0, 0) := by
 obtain ⟨he, ⟨rfl, -⟩ | ⟨j, l', rfl, -⟩⟩ := scn_cases _ i b l e (Nat.le_refl _) hi h
 ·exact ⟨by simp, he⟩
 ·exact ⟨by simp, he⟩
theorem scn_len {s : ByteArray} : ∀ (k i : Nat) (b : Bool) (l : List Tk) (e : Int × Int), s.size - i ≤ k → i ≤ s.size → scnI s i b = (some l, e) → l.length ≤ k + 1
 | k, i, b, l, e, h, h2, hs => by
  obtain ⟨-, ⟨rfl, -⟩ | ⟨j, l', rfl, g, hj, -, -, h0, hn⟩⟩ := scn_cases _ i b l e (Nat.le_refl _) h2 hs
  ·simp
  ·have ht := (tok_bd hj).1 h0
   have hg := g.le
   match k with
   | 0 => omega
   | k + 1 =>
    have := scn_len k _ false l' (0, 0) (by omega) (by omega) hn
    simp only [List.length_cons]
    omega
theorem cov_next {s : ByteArray} {a : Nat} {t : Tk} {l : List Tk} (ha : a ≤ s.size) (h : scnI s a false = (some (t :: l), 0, 0)) :
    ∃ x y : Nat, t.2.1 = x ∧ t.2.2.1 = y ∧ a ≤ x ∧ x ≤ y ∧ y ≤ s.size ∧ scnI (s.extract a x) 0 false = (some [endT (s.extract a x)], 0, 0) ∧
    ((t.1 = 0 ∧ l = [] ∧ t = endT s ∧ scnI (s.extract x y) 0 false = (some [endT (s.extract x y)], 0, 0)) ∨
     (1 ≤ t.1 ∧ t.1 ≤ 4 ∧ l ≠ [] ∧ scnI (s.extract x y) 0 false = (some [(t.1, 0, (y : Int) - x, t.2.2.2), endT (s.extract x y)], 0, 0) ∧ scnI s y false = (some l, 0, 0))) := by
  obtain ⟨-, ⟨q, g⟩ | ⟨j, l', q, g, hj, hb, hc, h0, hn⟩⟩ := scn_cases _ a false _ _ (Nat.le_refl _) ha h
  · simp only [List.cons.injEq] at q
    obtain ⟨rfl, rfl⟩ := q
    refine ⟨s.size, s.size, rfl, rfl, ha, Nat.le_refl _, Nat.le_refl _, ?_, .inl ⟨rfl, rfl, rfl, ?_⟩⟩
    · have := g.alone (Nat.le_refl _) (Nat.le_refl _)
      rwa [Nat.sub_self] at this
    · exact scn_end false (by rw [part_size (Nat.le_refl _)]; omega)
  · simp only [List.cons.injEq] at q
    obtain ⟨rfl, rfl⟩ := q
    have ht := (tok_bd hj).1 h0
    have hal := scn_alone hj hb hc h0
    have hg := g.le
    refine ⟨j, (tokS s j).1.2.2.1.toNat, ht.2.2.2.1, by omega, hg, by omega, by omega, ?_, .inr ⟨by omega, by omega, (scn_ne (by omega) hn).1, ?_, hn⟩⟩
    · have := g.alone (by omega) (Nat.le_refl _)
      rwa [Nat.sub_self] at this
    · rw [hal, show (((tokS s j).1.2.2.1.toNat : Nat) : Int) = (tokS s j).1.2.2.1 by omega]
end Go.Proofs.YtncijmodlhijoaaGreat.Tok
namespace Go.Proofs.YtncijmodlhijoaaGreat.Cur
open Go.Lib Utf Tok
abbrev Cu := List Tk × Int × Int × Int
abbrev hdT (l : List Tk) : Tk := l.headD zT
def peekS (c : Cu) : Tk := if c.2.2.1 ≠ 0 then (0, c.2.2.2, c.2.2.2, ByteArray.empty, 0) else hdT c.1
def nextS (c : Cu) : Cu := if c.2.2.1 ≠ 0 ∨ (hdT c.1).1 = 0 then c else (c.1.tail, c.2)
def failS (c : Cu) (e z : Int) : Cu := if c.2.2.1 ≠ 0 ∨ e = 0 then c else (c.1, c.2.1, e, z)
def hasS (c : Cu) (k : Int) (x : ByteArray) (any : Bool) : Bool := decide ((peekS c).1 = k) && (any || decide ((peekS c).2.2.2.1 = x))
def EndL : List Tk → Prop
 | [] => False
 | [t] => t.1 = 0
 | t :: u :: l => 1 ≤ t.1 ∧ EndL (u :: l)
theorem EndL.ne {l : List Tk} (h : EndL l) : l ≠ [] := fun e => by rw [e] at h; exact h
theorem EndL.hd {l : List Tk} (h : EndL l) : ∃ t m, l = t :: m ∧ (t.1 = 0 ∧ m = [] ∨ 1 ≤ t.1 ∧ EndL m) := by
 match l, h with
 | [t], h => exact ⟨t, [], rfl, .inl ⟨h, rfl⟩⟩
 | t :: u :: l, h => exact ⟨t, u :: l, rfl, .inr h⟩
theorem EndL.tail {l : List Tk} (h : EndL l) (h1 : (hdT l).1 ≠ 0) : EndL l.tail := by
 obtain ⟨t, m, rfl, ⟨h2, -⟩ | ⟨-, h2⟩⟩ := h.hd
 ·exact absurd h2 h1
 ·exact h2
theorem endL_scn {s : ByteArray} : ∀ (l : List Tk) (a : Nat), a ≤ s.size → scnI s a false = (some l, 0, 0) → EndL l
 | [], a, ha, h => absurd rfl (scn_ne ha h).1
 | t :: l, a, ha, h => by
  obtain ⟨x, y, -, -, -, -, h5, -, h7⟩ := cov_next ha h
  rcases h7 with ⟨h0, rfl, -⟩ | ⟨h0, -, hne, -, hn⟩
  ·exact h0
  ·have ih := endL_scn l y h5 hn
   cases l with
   | nil => exact absurd rfl hne
   | cons u l => exact ⟨h0, ih⟩
theorem peek_fail {c : Cu} (h : c.2.2.1 ≠ 0) : peekS c = (0, c.2.2.2, c.2.2.2, ByteArray.empty, 0) := if_pos h
theorem peek_ok {c : Cu} (h : c.2.2.1 = 0) : peekS c = hdT c.1 := if_neg (by simpa using h)
def nextN : Nat → Cu → Cu
 | 0, c => c
 | k + 1, c => nextN k (nextS c)
end Go.Proofs.YtncijmodlhijoaaGreat.Cur
namespace Go.Proofs.YtncijmodlhijoaaGreat.Lat
open Nam
abbrev Wr := ByteArray × Int
instance : Inhabited Wr := ⟨(ByteArray.empty, 0)⟩
abbrev wN (ws : List Wr) (i : Nat) : Wr := ws.getD i (ByteArray.empty, 0)
theorem wN_get {ws : List Wr} {i : Nat} (h : i < ws.length) : wN ws i = ws[i] := by simp [wN, List.getD, List.getElem?_eq_getElem h]
def nms (ws : List Wr) : List ByteArray := ws.map (·.1)
end Go.Proofs.YtncijmodlhijoaaGreat.Lat
namespace Go.Proofs.YtncijmodlhijoaaGreat
open Go.RowKit Go.Lib Go.ChangeShapes Go.WideShapes Go.Deep
section
variable {α : Type} {enc : α → List Value} {k : Nat}
def flatG (enc : α → List Value) (l : List α) : List Value := l.flatMap enc
theorem flatG_cons (x : α) (l : List α) : flatG enc (x :: l) = enc x ++ flatG enc l := rfl
theorem flatG_append (l m : List α) : flatG enc (l ++ m) = flatG enc l ++ flatG enc m := by unfold flatG; rw [List.flatMap_append]
theorem flatG_snoc (l : List α) (x : α) : flatG enc (l ++ [x]) = flatG enc l ++ enc x := by rw [flatG_append]; simp [flatG]
theorem flatG_len (hk : ∀ x, (enc x).length = k) : ∀ l : List α, (flatG enc l).length = l.length * k
 | [] => by simp [flatG]
 | x :: l => by rw [flatG_cons, List.length_append, hk, flatG_len hk l, List.length_cons, Nat.add_mul]; omega
theorem flatG_get (hk : ∀ x, (enc x).length = k) : ∀ (l : List α) (i j : Nat) (h : i < l.length), j < k → (flatG enc l)[i * k + j]? = (enc l[i])[j]?
 | x :: l, 0, j, h, hj => by
  rw [flatG_cons, Nat.zero_mul, Nat.zero_add, List.getElem?_append_left (by rw [hk]; exact hj)]; rfl
 | x :: l, i + 1, j, h, hj => by
  rw [flatG_cons, List.getElem?_append_right (by rw [hk, Nat.add_mul]; omega), hk, show (i + 1) * k + j - k = i * k + j by rw [Nat.add_mul]; omega, flatG_get hk l i j (by simpa using h) hj]
  rfl
def RdG (enc : α → List Value) (k : Nat) (w : World) (v : Value) (l : List α) : Prop := RdAt w v k (flatG enc l)
theorem RdG.below {w w' : World} {v : Value} {l : List α} (h : RdG enc k w v l) (hb : Below w.heap.size w w') : RdG enc k w' v l := RdAt.below h hb
theorem RdG.none0 (w : World) (A : Option Addr) (c : Nat) : RdG enc k w (.slice A 0 c) [] := ⟨A, 0, c, rfl, by simp [flatG], Nat.zero_le _, fun h => absurd h (by simp [flatG])⟩
theorem RdG.of_own {w : World} {base : Nat} {e : TypeId} {n : Nat} {v : Value} {l : List α} (h : w.ownsRow base e k v n (flatG enc l)) : RdG enc k w v l := RdAt.of_own h
theorem RdG.open (hk : ∀ x, (enc x).length = k) (h0 : 0 < k) {w : World} {v : Value} {l : List α} (h : RdG enc k w v l) : ∃ (A : Option Addr) (c : Nat), v = .slice A l.length c ∧ l.length ≤ c ∧
  (0 < l.length → ∃ g o, A = some ⟨g, o, none⟩ ∧ g < w.heap.size ∧ ∀ i (hi : i < l.length) j, j < k → w.cell? ⟨g, o + i * k + j, none⟩ = (enc l[i])[j]?) := by
 obtain ⟨A, n, c, rfl, hl, hn, hc⟩ := h
 rw [flatG_len hk] at hl
 obtain rfl : n = l.length := (Nat.eq_of_mul_eq_mul_right h0 hl).symm
 refine ⟨A, c, rfl, hn, fun hp => ?_⟩
 obtain ⟨g, o, rfl, hg, hc⟩ := hc (by rw [flatG_len hk]; exact Nat.mul_pos hp h0)
 refine ⟨g, o, rfl, hg, fun i hi j hj => ?_⟩
 have e := flatG_get hk l i j hi hj
 have hs : j < (enc l[i]).length := by rw [hk]; exact hj
 rw [List.getElem?_eq_getElem hs] at e ⊢
 rw [Nat.add_assoc]
 exact hc _ _ e
end
inductive Fo (H L : Type) where
 | nil : Fo H L
 | cons (l : L) (h : H) (kids rest : Fo H L) : Fo H L
namespace Fo
variable {H L : Type}
def len : Fo H L → Nat
 | .nil => 0
 | .cons _ _ _ r => r.len + 1
def size : Fo H L → Nat
 | .nil => 0
 | .cons _ _ k r => k.size + r.size + 1
def All (GH : H → Prop) (GL : L → Prop) : Fo H L → Prop
 | .nil => True
 | .cons l h k r => GL l ∧ GH h ∧ k.len ≤ maxLen ∧ All GH GL k ∧ All GH GL r
theorem len_pos {f : Fo H L} (h : 0 < f.len) : ∃ l x k r, f = .cons l x k r := by cases f with | nil => simp [len] at h | cons l x k r => exact ⟨l, x, k, r, rfl⟩
end Fo
def Kp (w w' : World) : Prop := w.heap.size ≤ w'.heap.size ∧ ∀ (b o : Nat) (v : Value), w.cell? ⟨b, o, none⟩ = some v → w'.cell? ⟨b, o, none⟩ = some v
theorem Kp.of_below {w w' : World} (hb : Below w.heap.size w w') : Kp w w' := ⟨hb.size, fun b o v h => (hb.cell (p := ⟨b, o, none⟩) (World.block_lt_of_cell? w _ h)).trans h⟩
theorem RdAt.kp {w w' : World} (hk : Kp w w') {v : Value} {k : Nat} {xs : List Value} (h : RdAt w v k xs) : RdAt w' v k xs := by
 obtain ⟨A, n, c, rfl, hl, hn, hc⟩ := h
 refine ⟨A, n, c, rfl, hl, hn, fun hp => ?_⟩
 obtain ⟨g, o, rfl, hg, hx⟩ := hc hp
 exact ⟨g, o, rfl, Nat.lt_of_lt_of_le hg hk.1, fun j u hj => hk.2 _ _ _ (hx j u hj)⟩
section
variable {H L : Type}
def RdFo (k pre : Nat) (hd : World → List Value → H → Value → Prop) (pl : World → List Value → L → Prop) (w : World) : Fo H L → Nat → Nat → Prop
 | .nil, _, _ => True
 | .cons l h kids rest, g, o => (∃ (ps ts : List Value) (A : Option Addr) (c : Nat), ps.length = pre ∧ ts.length = k ∧ (∀ j v, (ps ++ ts)[j]? = some v → w.cell? ⟨g, o + j, none⟩ = some v) ∧ pl w ps l ∧ hd w ts h (.slice A kids.len c) ∧ kids.len ≤ c ∧
   (0 < kids.len → ∃ g' o', A = some ⟨g', o', none⟩ ∧ g' < w.heap.size ∧ RdFo k pre hd pl w kids g' o')) ∧ RdFo k pre hd pl w rest g (o + (pre + k))
variable {k pre : Nat} {hd : World → List Value → H → Value → Prop} {pl : World → List Value → L → Prop}
def RdSl (k pre : Nat) (hd : World → List Value → H → Value → Prop) (pl : World → List Value → L → Prop) (w : World) (v : Value) (f : Fo H L) : Prop :=
 ∃ (A : Option Addr) (c : Nat), v = .slice A f.len c ∧ f.len ≤ c ∧ (0 < f.len → ∃ g o, A = some ⟨g, o, none⟩ ∧ g < w.heap.size ∧ RdFo k pre hd pl w f g o)
def RdNd (k pre : Nat) (hd : World → List Value → H → Value → Prop) (pl : World → List Value → L → Prop) (w : World) (cs : List Value) (h : H) (f : Fo H L) : Prop :=
 cs.length = k ∧ ∃ v, hd w cs h v ∧ RdSl k pre hd pl w v f
theorem RdFo.first {w : World} {l : L} {h : H} {kids rest : Fo H L} {g o : Nat} (q : RdFo k pre hd pl w (.cons l h kids rest) g o) :
  (∃ ps ts : List Value, ps.length = pre ∧ (∀ j v, (ps ++ ts)[j]? = some v → w.cell? ⟨g, o + j, none⟩ = some v) ∧ pl w ps l ∧ RdNd k pre hd pl w ts h kids) ∧ RdFo k pre hd pl w rest g (o + (pre + k)) := by
 obtain ⟨⟨ps, ts, A, c, l1, l2, hc, hp, hh, hn, hs⟩, hr⟩ := q
 exact ⟨⟨ps, ts, l1, hc, hp, l2, _, hh, A, c, rfl, hn, hs⟩, hr⟩
theorem RdFo.mk {w : World} {l : L} {h : H} {kids rest : Fo H L} {g o : Nat} (ps ts : List Value) (l1 : ps.length = pre) (hc : ∀ j v, (ps ++ ts)[j]? = some v → w.cell? ⟨g, o + j, none⟩ = some v) (hp : pl w ps l) (hn : RdNd k pre hd pl w ts h kids)
  (hr : RdFo k pre hd pl w rest g (o + (pre + k))) : RdFo k pre hd pl w (.cons l h kids rest) g o := by
 obtain ⟨l2, v, hh, A, c, rfl, hx, hs⟩ := hn
 exact ⟨⟨ps, ts, A, c, l1, l2, hc, hp, hh, hx, hs⟩, hr⟩
theorem RdSl.nil (w : World) (A : Option Addr) (c : Nat) : RdSl k pre hd pl w (.slice A 0 c) .nil := ⟨A, c, rfl, Nat.zero_le _, fun h => absurd h (by simp [Fo.len])⟩
theorem RdFo.kp (hk : ∀ w w' cs h v, Kp w w' → hd w cs h v → hd w' cs h v) (pk : ∀ w w' cs l, Kp w w' → pl w cs l → pl w' cs l) {w w' : World} (q : Kp w w') : ∀ {f : Fo H L} {g o : Nat}, RdFo k pre hd pl w f g o → RdFo k pre hd pl w' f g o := by
 intro f
 induction f with
 | nil => intro g o _; trivial
 | cons l h kids rest ik ir =>
  rintro g o ⟨⟨ps, ts, A, c, l1, l2, hc, hp, hh, hn, hs⟩, hr⟩
  refine ⟨⟨ps, ts, A, c, l1, l2, fun j v e => q.2 _ _ _ (hc j v e), pk _ _ _ _ q hp, hk _ _ _ _ _ q hh, hn, fun h0 => ?_⟩, ir hr⟩
  obtain ⟨g', o', rfl, hg, hx⟩ := hs h0
  exact ⟨g', o', rfl, Nat.lt_of_lt_of_le hg q.1, ik hx⟩
theorem RdSl.kp (hk : ∀ w w' cs h v, Kp w w' → hd w cs h v → hd w' cs h v) (pk : ∀ w w' cs l, Kp w w' → pl w cs l → pl w' cs l) {w w' : World} (q : Kp w w') {v : Value} {f : Fo H L} (h : RdSl k pre hd pl w v f) : RdSl k pre hd pl w' v f := by
 obtain ⟨A, c, rfl, hn, hs⟩ := h
 refine ⟨A, c, rfl, hn, fun h0 => ?_⟩
 obtain ⟨g, o, rfl, hg, hx⟩ := hs h0
 exact ⟨g, o, rfl, Nat.lt_of_lt_of_le hg q.1, hx.kp hk pk q⟩
theorem RdNd.kp (hk : ∀ w w' cs h v, Kp w w' → hd w cs h v → hd w' cs h v) (pk : ∀ w w' cs l, Kp w w' → pl w cs l → pl w' cs l) {w w' : World} (q : Kp w w') {cs : List Value} {h : H} {f : Fo H L} (x : RdNd k pre hd pl w cs h f) : RdNd k pre hd pl w' cs h f := by
 obtain ⟨l, v, hh, hs⟩ := x
 exact ⟨l, v, hk _ _ _ _ _ q hh, hs.kp hk pk q⟩
end
end Go.Proofs.YtncijmodlhijoaaGreat
namespace Go.Proofs.YtncijmodlhijoaaGreat.Kin
open Nam Lat
structure TH where
 kind : Int
 at_ : Int
 lo : Int
 hi : Int
 most : Int
 names : List Wr
 name : ByteArray
 nat : Int
structure PH where
 name : ByteArray
 at_ : Int
 bare : Bool
 label : List Wr
 wide : Int
 ck : Int
 cn : Int
 cat : Int
 cl : List Wr
abbrev Ft := Fo TH PH
def zTH : TH := ⟨0, 0, 0, 0, 0, [], ByteArray.empty, 0⟩
def zPH : PH := ⟨ByteArray.empty, 0, false, [], 0, 0, 0, 0, []⟩
def bPH : PH := ⟨ByteArray.empty, 0, true, [], 0, 0, 0, 0, []⟩
def cntF : Ft → Nat
 | .nil => 0
 | .cons p _ k r => (if p.bare then 0 else cntF k + 1) + cntF r
def depF : Ft → Nat
 | .nil => 0
 | .cons p _ k r => max (if p.bare then 0 else depF k + 1) (depF r)
def sameW (a b : List Wr) : Bool := decide (nms a = nms b)
def plainB (p q : PH) : Bool := (p.bare == q.bare) && decide (p.wide = q.wide) && sameW p.label q.label && decide (p.ck = q.ck) && decide (p.cn = q.cn) && sameW p.cl q.cl
def headB (a b : TH) : Bool := decide (a.kind = b.kind) && decide (a.lo = b.lo) && decide (a.hi = b.hi) && decide (a.most = b.most) && decide (a.name = b.name) && sameW a.names b.names
def sameF : Ft → Ft → Bool
 | .nil, .nil => true
 | .cons p h k r, .cons q g l s => (decide (p.name = q.name) && plainB p q && (headB h g && sameF k l)) && sameF r s
 | _, _ => false
def sameS (h : TH) (k : Ft) (g : TH) (l : Ft) : Bool := headB h g && sameF k l
def zeroB (h : TH) (k : Ft) : Bool := sameS h k zTH .nil
def stripW (l : List Wr) : List Wr := l.map fun x => (x.1, 0)
def stripP (p : PH) : PH := ⟨p.name, 0, p.bare, stripW p.label, p.wide, p.ck, p.cn, 0, stripW p.cl⟩
def stripH (h : TH) : TH := ⟨h.kind, 0, h.lo, h.hi, h.most, stripW h.names, h.name, 0⟩
def stripF : Ft → Ft
 | .nil => .nil
 | .cons p h k r => .cons (stripP p) (stripH h) (stripF k) (stripF r)
def stillW (l : List Wr) : Bool := l.all fun x => decide (x.2 = 0)
def placeF : Ft → Bool
 | .nil => true
 | .cons p h k r => (decide (p.at_ = 0 ∧ p.cat = 0) && stillW p.label && stillW p.cl && (decide (h.at_ = 0 ∧ h.nat = 0) && stillW h.names && placeF k)) && placeF r
def placeS (h : TH) (k : Ft) : Bool := decide (h.at_ = 0 ∧ h.nat = 0) && stillW h.names && placeF k
def ownB (h : TH) (k : Ft) : Bool :=
 decide ((h.kind = 2 ∨ h.lo = 0 ∧ h.hi = 0) ∧ (h.kind = 3 ∨ h.kind = 5 ∨ h.most = 0) ∧ (h.kind = 4 ∨ h.names = []) ∧ (4 < h.kind ∧ h.kind < 9 ∨ k.len = 0) ∧ (h.kind = 9 ∨ h.name = ByteArray.empty))
def labF : List Wr → Int × Int
 | [] => (0, 0)
 | x :: r => if rightS x.1 then labF r else (9, x.2)
def labelS (l : List Wr) : Int × Int := if 32 < l.length then (8, (wN l 32).2) else labF l
def coarseS (p : PH) : Int × Int :=
 if p.ck = 0 then (if p.cn ≠ 0 ∨ p.cl ≠ [] then (19, p.at_) else (0, 0))
 else if p.ck < 0 ∨ 3 < p.ck then (14, p.cat)
 else if (p.ck = 1 ∧ p.cn < 1) ∨ (p.ck = 2 ∧ (p.cn < 0 ∨ 4096 < p.cn)) ∨ (p.ck = 3 ∧ p.cn ≠ 0) then (20, p.cat)
 else labelS p.cl
noncomputable def listedS (ns : List ByteArray) (i : Nat) : Int := if rightS (ns.getD i ByteArray.empty) = false then 9 else if ns.getD i ByteArray.empty ∈ ns.take i then 10 else 0
noncomputable def enumF (ns : List ByteArray) : Nat → List Wr → Int × Int
 | _, [] => (0, 0)
 | i, x :: r => if listedS ns i ≠ 0 then (listedS ns i, x.2) else enumF ns (i + 1) r
def pnm : Ft → List Wr
 | .nil => []
 | .cons p _ _ r => (p.name, p.at_) :: pnm r
def onlyB : Ft → Bool
 | .cons p _ _ .nil => decide (p.name = ByteArray.empty) && plainB p zPH
 | _ => false
abbrev Res := Int × Int × Nat
inductive Mo where
 | one
 | parts (K : Int) (ns : List ByteArray) (i : Nat)
noncomputable def wrB (h : TH) (k : Ft) (sub : Mo → Nat → Nat → Res) (d m : Nat) : Res :=
 if 24 < d then (6, h.at_, m + 1)
 else if 512 < m + 1 then (8, h.at_, m + 1)
 else if h.kind < 1 ∨ 9 < h.kind then (14, h.at_, m + 1)
 else if ownB h k = false then (19, h.at_, m + 1)
 else if (h.kind = 2 ∧ h.hi < h.lo) ∨ (h.kind = 3 ∧ (h.most < 0 ∨ 4096 < h.most)) then (20, h.at_, m + 1)
 else if h.kind = 9 ∧ rightS h.name = false then (9, h.nat, m + 1)
 else if h.kind = 4 then (if h.names = [] then (15, h.at_, m + 1) else if 64 < h.names.length then (8, (wN h.names 64).2, m + 1) else ((enumF (nms h.names) 0 h.names).1, (enumF (nms h.names) 0 h.names).2, m + 1))
 else if h.kind = 5 ∨ h.kind = 6 then (if onlyB k = false then (19, h.at_, m + 1) else if h.most < 0 ∨ 1024 < h.most then (20, h.at_, m + 1) else sub .one (d + 1) (m + 1))
 else if h.kind = 7 ∨ h.kind = 8 then (if h.kind = 8 ∧ k.len = 0 then (15, h.at_, m + 1) else if 64 < k.len then (8, (wN (pnm k) 64).2, m + 1) else sub (.parts h.kind (nms (pnm k)) 0) (d + 1) (m + 1))
 else (0, 0, m + 1)
noncomputable def wrF : Ft → Mo → Nat → Nat → Res
 | .nil, _, _, m => (0, 0, m)
 | .cons _ h k _, .one, d, m => wrB h k (wrF k) d m
 | .cons p h k r, .parts K ns i, d, m =>
  if listedS ns i ≠ 0 then (listedS ns i, p.at_, m)
  else if p.bare then (if K = 7 ∨ zeroB h k = false ∨ plainB p bPH = false then (19, p.at_, m) else wrF r (.parts K ns (i + 1)) d m)
  else if p.wide < 0 ∨ 64 < p.wide then (20, p.at_, m)
  else if (labelS p.label).1 ≠ 0 then ((labelS p.label).1, (labelS p.label).2, m)
  else if (coarseS p).1 ≠ 0 then ((coarseS p).1, (coarseS p).2, m)
  else if (wrB h k (wrF k) d m).1 ≠ 0 then wrB h k (wrF k) d m
  else wrF r (.parts K ns (i + 1)) d (wrB h k (wrF k) d m).2.2
noncomputable def wrS (h : TH) (k : Ft) : Res := wrB h k (wrF k) 1 0
theorem sameW_refl (l : List Wr) : sameW l l = true := by simp [sameW]
theorem plainB_refl (p : PH) : plainB p p = true := by simp [plainB, sameW_refl]
theorem headB_refl (h : TH) : headB h h = true := by simp [headB, sameW_refl]
theorem sameF_refl : ∀ f : Ft, sameF f f = true
 | .nil => rfl
 | .cons p h k r => by simp [sameF, plainB_refl, headB_refl, sameF_refl k, sameF_refl r]
theorem sameS_refl (h : TH) (k : Ft) : sameS h k h k = true := by simp [sameS, headB_refl, sameF_refl]
def Alike2 (a b : Int × Int) : Prop := a.1 = b.1
def Alike (a b : Res) : Prop := a.1 = b.1 ∧ a.2.2 = b.2.2
end Go.Proofs.YtncijmodlhijoaaGreat.Kin
