import Derived.Test.YtncijmodlhijoaaGreatQ6
import Derived.Test.YtncijmodlhijoaaGreatQ2
import Derived.Deep.WholeRow
import Derived.ChangeArms
import Derived.Test.YtncijmodlhijoaaGreatQ0
import Derived.Test.YtncijmodlhijoaaGreatQ4
set_option linter.unusedVariables false
set_option maxRecDepth 100000
set_option maxHeartbeats 4000000
namespace Go.Proofs.YtncijmodlhijoaaGreat.Syn
open Go.Lib Utf Tok Cur Lat Kin
abbrev PS := List Tk × Int × Int
def isS (p : PS) (k : Int) (x : ByteArray) : Bool := decide ((Cur.hdT p.1).1 = k) && decide ((Cur.hdT p.1).2.2.2.1 = x)
def wrongS (p : PS) : PS := if p.2.1 ≠ 0 then p else (p.1, (if (Cur.hdT p.1).1 = 0 then 5 else 4), (Cur.hdT p.1).2.1)
def onS (p : PS) : PS := (p.1.tail, p.2)
def needS (p : PS) (k : Int) (x : ByteArray) : PS := if p.2.1 ≠ 0 then p else if isS p k x then onS p else wrongS p
def mayS (p : PS) (m : ByteArray) : PS × Bool := if p.2.1 = 0 ∧ isS p 4 m = true then (onS p, true) else (p, false)
def anyS (p : PS) (k : Int) : Tk × PS := if p.2.1 ≠ 0 then (zT, p) else if (Cur.hdT p.1).1 ≠ k then (zT, wrongS p) else (Cur.hdT p.1, onS p)
def nameS (p : PS) : Wr × PS := (((anyS p 1).1.2.2.2.1, (anyS p 1).1.2.1), (anyS p 1).2)
def markS (p : PS) (m : ByteArray) : PS := needS p 4 m
abbrev plus : ByteArray := ⟨#[43]⟩
abbrev lpar : ByteArray := ⟨#[40]⟩
abbrev rpar : ByteArray := ⟨#[41]⟩
abbrev comma : ByteArray := ⟨#[44]⟩
abbrev lbrace : ByteArray := ⟨#[123]⟩
abbrev rbrace : ByteArray := ⟨#[125]⟩
abbrev atS : ByteArray := ⟨#[64]⟩
abbrev hash : ByteArray := ⟨#[35]⟩
abbrev tilde : ByteArray := ⟨#[126]⟩
abbrev colon : ByteArray := ⟨#[58]⟩
abbrev dots : ByteArray := ⟨#[46, 46]⟩
def sepS {α : Type} (el : PS → α × PS) (m : ByteArray) : Nat → PS → List α × PS
 | 0, p => ([], p)
 | n + 1, p => if (mayS (el p).2 m).2 then ((el p).1 :: (sepS el m n (mayS (el p).2 m).1).1, (sepS el m n (mayS (el p).2 m).1).2) else ([(el p).1], (el p).2)
def listP {α : Type} (el : PS → α × PS) (m : ByteArray) (p : PS) : List α × PS := sepS el m (p.1.length + 1) p
def labelP (p : PS) : List Wr × PS := listP nameS plus p
def numS (p : PS) : Int × PS := ((anyS (markS p lpar) 2).1.2.2.2.2, markS (anyS (markS p lpar) 2).2 rpar)
abbrev Co := Int × Int × Int × List Wr
def seeS (c : Int × Int × Int) (p : PS) : Co × PS := if (mayS p atS).2 then ((c.1, c.2.1, c.2.2, (labelP (mayS p atS).1).1), (labelP (mayS p atS).1).2) else ((c.1, c.2.1, c.2.2, []), (mayS p atS).1)
abbrev sFloor : ByteArray := ⟨#[102, 108, 111, 111, 114]⟩
abbrev sFirst : ByteArray := ⟨#[102, 105, 114, 115, 116]⟩
abbrev sCount : ByteArray := ⟨#[99, 111, 117, 110, 116]⟩
def coaS (p : PS) : Co × PS :=
 if p.2.1 ≠ 0 then ((0, 0, 0, []), p)
 else if (Cur.hdT p.1).1 ≠ 1 then ((0, 0, (Cur.hdT p.1).2.1, []), wrongS p)
 else if (Cur.hdT p.1).2.2.2.1 = sFloor then seeS (1, (numS (onS p)).1, (Cur.hdT p.1).2.1) (numS (onS p)).2
 else if (Cur.hdT p.1).2.2.2.1 = sFirst then seeS (2, (numS (onS p)).1, (Cur.hdT p.1).2.1) (numS (onS p)).2
 else if (Cur.hdT p.1).2.2.2.1 = sCount then seeS (3, 0, (Cur.hdT p.1).2.1) (onS p)
 else ((0, 0, (Cur.hdT p.1).2.1, []), (p.1, 9, (Cur.hdT p.1).2.1))
def Ok (p : PS) : Prop := EndL p.1
theorem wrong_l (p : PS) : (wrongS p).1 = p.1 := by unfold wrongS; split <;> rfl
theorem on_ok {p : PS} (h : Ok p) (h1 : (Cur.hdT p.1).1 ≠ 0) : Ok (onS p) := EndL.tail h h1
theorem is_kind {p : PS} {k : Int} {x : ByteArray} (h : isS p k x = true) : (Cur.hdT p.1).1 = k := by
 unfold isS at h
 rw [Bool.and_eq_true, decide_eq_true_iff] at h
 exact h.1
theorem need_ok {p : PS} {k : Int} {x : ByteArray} (h : Ok p) (hk : k ≠ 0) : Ok (needS p k x) := by
 unfold needS
 by_cases c : p.2.1 ≠ 0
 ·rw [if_pos c]; exact h
 ·rw [if_neg c]
  cases q : isS p k x
  ·show EndL (wrongS p).1; rw [wrong_l]; exact h
  ·exact on_ok h (by rw [is_kind q]; exact hk)
theorem mark_ok {p : PS} {m : ByteArray} (h : Ok p) : Ok (markS p m) := need_ok h (by decide)
theorem may_ok {p : PS} {m : ByteArray} (h : Ok p) : Ok (mayS p m).1 := by
 unfold mayS
 by_cases c : p.2.1 = 0 ∧ isS p 4 m = true
 ·rw [if_pos c]; exact on_ok h (by rw [is_kind c.2]; decide)
 ·rw [if_neg c]; exact h
theorem any_ok {p : PS} {k : Int} (h : Ok p) (hk : k ≠ 0) : Ok (anyS p k).2 := by
  unfold anyS
  by_cases c : p.2.1 ≠ 0
  · rw [if_pos c]; exact h
  · rw [if_neg c]
    by_cases d : (Cur.hdT p.1).1 ≠ k
    · rw [if_pos d]; show EndL (wrongS p).1; rw [wrong_l]; exact h
    · rw [if_neg d]; exact on_ok h (by have : (Cur.hdT p.1).1 = k := by simpa using d
                                       rw [this]; exact hk)
theorem name_ok {p : PS} (h : Ok p) : Ok (nameS p).2 := any_ok h (by decide)
theorem wrong_len (p : PS) : (wrongS p).1.length = p.1.length := by rw [wrong_l]
theorem on_len (p : PS) : (onS p).1.length = p.1.length - 1 := by simp [onS]
theorem any_len (p : PS) (k : Int) : (anyS p k).2.1.length ≤ p.1.length := by
 unfold anyS
 split
 ·exact Nat.le_refl _
 ·split
  ·rw [wrong_len]; exact Nat.le_refl _
  ·rw [on_len]; omega
theorem name_len (p : PS) : (nameS p).2.1.length ≤ p.1.length := any_len p 1
theorem need_len (p : PS) (k : Int) (x : ByteArray) : (needS p k x).1.length ≤ p.1.length := by
 unfold needS
 split
 ·exact Nat.le_refl _
 ·split
  ·rw [on_len]; omega
  ·rw [wrong_len]; exact Nat.le_refl _
theorem may_len (p : PS) (m : ByteArray) : (mayS p m).1.1.length ≤ p.1.length := by
 unfold mayS
 split
 ·rw [on_len]; omega
 ·exact Nat.le_refl _
theorem may_lt {p : PS} {m : ByteArray} (hl : p.1 ≠ []) (h : (mayS p m).2 = true) : (mayS p m).1.1.length < p.1.length := by
 unfold mayS at *
 split at h
 ·rename_i c
  rw [if_pos c, on_len]
  have := List.length_pos_iff.2 hl
  omega
 ·cases h
def Gd {α : Type} (el : PS → α × PS) : Prop := ∀ p, Ok p → Ok (el p).2 ∧ (el p).2.1.length ≤ p.1.length
theorem gd_name : Gd nameS := fun p h => ⟨name_ok h, name_len p⟩
section
variable {α : Type} {el : PS → α × PS} {m : ByteArray}
theorem sep_ok (g : Gd el) : ∀ (n : Nat) (p : PS), Ok p → Ok (sepS el m n p).2
 | 0, p, h => h
 | n + 1, p, h => by
  unfold sepS
  split
  ·exact sep_ok g n _ (may_ok (g p h).1)
  ·exact (g p h).1
theorem sep_len (g : Gd el) : ∀ (n : Nat) (p : PS), Ok p → (sepS el m n p).2.1.length ≤ p.1.length
 | 0, p, _ => Nat.le_refl _
 | n + 1, p, h => by
  unfold sepS
  split
  ·exact Nat.le_trans (sep_len g n _ (may_ok (g p h).1)) (Nat.le_trans (may_len _ _) (g p h).2)
  ·exact (g p h).2
theorem sep_n : ∀ (n : Nat) (p : PS), (sepS el m n p).1.length ≤ n
 | 0, p => Nat.le_refl _
 | n + 1, p => by
  unfold sepS
  split
  ·simpa using sep_n n _
  ·simp
theorem gd_list (g : Gd el) : Gd (listP el m) := fun p h => ⟨sep_ok g _ _ h, sep_len g _ _ h⟩
end
end Go.Proofs.YtncijmodlhijoaaGreat.Syn
namespace Go.Proofs.YtncijmodlhijoaaGreat.Tok
open Go.RowKit Go.Lib Utf Ran Dig Nam Pat
def encT (x : Tk) : List Value := [.int .i64 x.1, .int .i64 x.2.1, .int .i64 x.2.2.1, .string x.2.2.2.1, .int .i64 x.2.2.2.2]
theorem encT_len (x : Tk) : (encT x).length = 5 := rfl
abbrev RdK := RdG encT 5
def tkV (x : Tk) : Value := .agg #[.int .i64 x.1, .int .i64 x.2.1, .int .i64 x.2.2.1, .string x.2.2.2.1, .int .i64 x.2.2.2.2]
abbrev tN (xs : List Tk) (i : Nat) : Tk := xs.getD i zT
theorem tN_get {xs : List Tk} {i : Nat} (h : i < xs.length) : tN xs i = xs[i] := by simp [tN, List.getD, List.getElem?_eq_getElem h]
theorem RdK.op {w : World} {v : Value} {xs : List Tk} (h : RdK w v xs) : ∃ (A : Option Addr) (c : Nat), v = .slice A xs.length c ∧ xs.length ≤ c ∧
  (0 < xs.length → ∃ g o, A = some ⟨g, o, none⟩ ∧ g < w.heap.size ∧ ∀ i, i < xs.length → w.cell? ⟨g, o + i * 5, none⟩ = some (.int .i64 (tN xs i).1) ∧ w.cell? ⟨g, o + i * 5 + 1, none⟩ = some (.int .i64 (tN xs i).2.1) ∧
   w.cell? ⟨g, o + i * 5 + 2, none⟩ = some (.int .i64 (tN xs i).2.2.1) ∧ w.cell? ⟨g, o + i * 5 + 3, none⟩ = some (.string (tN xs i).2.2.2.1) ∧ w.cell? ⟨g, o + i * 5 + 4, none⟩ = some (.int .i64 (tN xs i).2.2.2.2)) := by
 obtain ⟨A, c, rfl, hl, hr⟩ := RdG.open encT_len (by decide) h
 refine ⟨A, c, rfl, hl, fun h0 => ?_⟩
 obtain ⟨g, o, rfl, hg, hc⟩ := hr h0
 refine ⟨g, o, rfl, hg, fun i hi => ?_⟩
 rw [tN_get hi]
 exact ⟨hc i hi 0 (by decide), hc i hi 1 (by decide), hc i hi 2 (by decide), hc i hi 3 (by decide), hc i hi 4 (by decide)⟩
theorem infoTok : (Tryz.prog.info? 212).map (fun i => (i.zero, i.size, i.bytes)) = some (some (tkV zT), 5, 48) := by kernel_rfl
def scT (v : Value) (e z : Int) : Value := .tuple #[v, .agg #[.int .i64 e, .int .i64 z]]
end Go.Proofs.YtncijmodlhijoaaGreat.Tok
namespace Go.Proofs.YtncijmodlhijoaaGreat.Cur
open Go.RowKit Go.Lib Utf Tok
theorem hd_tN {l : List Tk} (h : l ≠ []) : tN l 0 = hdT l := by cases l with | nil => exact absurd rfl h | cons t l => rfl
theorem RdK.tail {w : World} {g o n c : Nat} {l : List Tk} (h : RdK w (.slice (some ⟨g, o, none⟩) n c) l) (h0 : 0 < l.length) : RdK w (.slice (some ⟨g, o + 5, none⟩) (n - 1) (c - 1)) l.tail := by
 obtain ⟨A, n', c', e, hl, hn, hc⟩ := h
 simp only [Value.slice.injEq] at e
 obtain ⟨rfl, rfl, rfl⟩ := e
 cases l with
 | nil => simp at h0
 | cons t m =>
  have e1 : flatG encT (t :: m) = encT t ++ flatG encT m := rfl
  rw [e1, List.length_append, encT_len] at hl
  refine ⟨_, _, _, rfl, by simp only [List.tail_cons]; omega, by omega, fun hp => ?_⟩
  obtain ⟨g', o', e2, hg, hcc⟩ := hc (by rw [e1, List.length_append, encT_len]; omega)
  simp only [Option.some.injEq, Addr.mk.injEq] at e2
  obtain ⟨rfl, rfl, -⟩ := e2
  refine ⟨g, o + 5, rfl, hg, fun j u hj => ?_⟩
  rw [Nat.add_assoc]
  refine hcc (5 + j) u ?_
  rw [e1, List.getElem?_append_right (by rw [encT_len]; omega), encT_len, Nat.add_sub_cancel_left]
  exact hj
end Go.Proofs.YtncijmodlhijoaaGreat.Cur
namespace Go.Proofs.YtncijmodlhijoaaGreat.Lat
open Go.RowKit Go.Lib Nam Go.ChangeShapes Go.WideShapes
def encW (x : Wr) : List Value := [.string x.1, .int .i64 x.2]
theorem encW_len (x : Wr) : (encW x).length = 2 := rfl
abbrev RdW := RdG encW 2
def GoodW (x : Wr) : Prop := x.1.size ≤ maxLen ∧ -9223372036854775808 ≤ x.2 ∧ x.2 ≤ 9223372036854775807
instance (x : Wr) : Decidable (GoodW x) := by unfold GoodW; infer_instance
theorem RdW.op {w : World} {v : Value} {xs : List Wr} (h : RdW w v xs) : ∃ (A : Option Addr) (c : Nat), v = .slice A xs.length c ∧ xs.length ≤ c ∧
  (0 < xs.length → ∃ g o, A = some ⟨g, o, none⟩ ∧ g < w.heap.size ∧ ∀ i, i < xs.length → w.cell? ⟨g, o + i * 2, none⟩ = some (.string (wN xs i).1) ∧ w.cell? ⟨g, o + i * 2 + 1, none⟩ = some (.int .i64 (wN xs i).2)) := by
 obtain ⟨A, c, rfl, hc, hr⟩ := RdG.open encW_len (by decide) h
 refine ⟨A, c, rfl, hc, fun h0 => ?_⟩
 obtain ⟨g, o, rfl, hg, hca⟩ := hr h0
 refine ⟨g, o, rfl, hg, fun i hi => ?_⟩
 rw [wN_get hi]
 exact ⟨hca i hi 0 (by decide), hca i hi 1 (by decide)⟩
theorem RdW.kp {w w' : World} (hk : Kp w w') {v : Value} {xs : List Wr} (h : RdW w v xs) : RdW w' v xs := RdAt.kp hk h
end Go.Proofs.YtncijmodlhijoaaGreat.Lat
namespace Go.Proofs.YtncijmodlhijoaaGreat
open Go.RowKit Go.Lib
namespace Fo
variable {H L : Type}
def drop : Nat → Fo H L → Fo H L
 | 0, f => f
 | _ + 1, .nil => .nil
 | n + 1, .cons _ _ _ r => drop n r
theorem drop_len : ∀ (n : Nat) (f : Fo H L), (drop n f).len = f.len - n
 | 0, f => rfl
 | n + 1, .nil => by simp [drop, len]
 | n + 1, .cons l h k r => by simp only [drop, len, drop_len n r]; omega
theorem drop_lt {n : Nat} {f : Fo H L} (h : n < f.len) : ∃ l x k r, drop n f = .cons l x k r := len_pos (by rw [drop_len]; omega)
def AllK (Q : Fo H L → Prop) : Fo H L → Prop
 | .nil => True
 | .cons _ _ k r => Q k ∧ AllK Q r
theorem AllK.drop {Q : Fo H L → Prop} : ∀ (n : Nat) {f : Fo H L}, AllK Q f → AllK Q (drop n f)
 | 0, f, h => h
 | n + 1, .nil, h => h
 | n + 1, .cons l x k r, h => AllK.drop n (f := r) h.2
theorem AllK.at_ {Q : Fo H L → Prop} {n : Nat} {f : Fo H L} (a : AllK Q f) {l : L} {h : H} {k r : Fo H L} (e : Fo.drop n f = .cons l h k r) : Q k := by
 have := a.drop n
 rw [e] at this
 exact this.1
theorem deep {Q : Fo H L → Prop} (s : ∀ f, AllK Q f → Q f) (f : Fo H L) : Q f := by
 have key : ∀ f : Fo H L, AllK Q f := by
  intro f
  induction f with
  | nil => trivial
  | cons l h k r ik ir => exact ⟨s k ik, ir⟩
 exact s f (key f)
end Fo
section
variable {H L : Type} {k pre : Nat} {hd : World → List Value → H → Value → Prop} {pl : World → List Value → L → Prop}
theorem RdFo.drop {w : World} {g : Nat} : ∀ (n : Nat) {f : Fo H L} {o : Nat}, RdFo k pre hd pl w f g o → RdFo k pre hd pl w (f.drop n) g (o + n * (pre + k))
 | 0, f, o, h => by rw [Nat.zero_mul, Nat.add_zero]; exact h
 | n + 1, .nil, o, h => trivial
 | n + 1, .cons l x kids r, o, h => by
  have := RdFo.drop n (f := r) h.2
  rw [show o + (n + 1) * (pre + k) = o + (pre + k) + n * (pre + k) by rw [Nat.add_mul]; omega]
  exact this
theorem RdSl.at_ {w : World} {v : Value} {f : Fo H L} (h : RdSl k pre hd pl w v f) {c : Nat} {A : Option Addr} {n : Nat} (hv : v = .slice A n c) {i : Nat} {l : L} {x : H} {kids rest : Fo H L} (e : f.drop i = .cons l x kids rest) :
  ∃ g o, A = some ⟨g, o, none⟩ ∧ g < w.heap.size ∧ ∃ ps ts : List Value, ps.length = pre ∧ (∀ j v, (ps ++ ts)[j]? = some v → w.cell? ⟨g, o + i * (pre + k) + j, none⟩ = some v) ∧ pl w ps l ∧ RdNd k pre hd pl w ts x kids := by
 obtain ⟨A', c', rfl, -, hs⟩ := h
 simp only [Value.slice.injEq] at hv
 obtain ⟨rfl, -, -⟩ := hv
 have hp : 0 < f.len := by
  have := Fo.drop_len i f
  rw [e] at this
  simp only [Fo.len] at this
  omega
 obtain ⟨g, o, rfl, hg, hf⟩ := hs hp
 have := hf.drop i
 rw [e] at this
 exact ⟨g, o, rfl, hg, this.first.1⟩
end
end Go.Proofs.YtncijmodlhijoaaGreat
namespace Go.Proofs.YtncijmodlhijoaaGreat.Kin
open Go.RowKit Go.Lib Go.Deep Go.ChangeShapes Go.WideShapes Nam Lat
def hdT (w : World) (cs : List Value) (h : TH) (v : Value) : Prop :=
 ∃ nv, cs = [.int .i64 h.kind, .int .i64 h.at_, .int .i64 h.lo, .int .i64 h.hi, .int .i64 h.most, nv, v, .string h.name, .int .i64 h.nat] ∧ RdW w nv h.names
def plT (w : World) (cs : List Value) (p : PH) : Prop :=
 ∃ lv cv, cs = [.string p.name, .int .i64 p.at_, .bool p.bare, lv, .int .i64 p.wide, .int .i64 p.ck, .int .i64 p.cn, .int .i64 p.cat, cv] ∧ RdW w lv p.label ∧ RdW w cv p.cl
theorem hdT.kp {w w' : World} {cs : List Value} {h : TH} {v : Value} (q : Kp w w') (x : hdT w cs h v) : hdT w' cs h v := by
 obtain ⟨nv, e, r⟩ := x
 exact ⟨nv, e, r.kp q⟩
theorem plT.kp {w w' : World} {cs : List Value} {p : PH} (q : Kp w w') (x : plT w cs p) : plT w' cs p := by
 obtain ⟨lv, cv, e, r, s⟩ := x
 exact ⟨lv, cv, e, r.kp q, s.kp q⟩
abbrev RdP (w : World) (v : Value) (f : Ft) : Prop := RdSl 9 9 hdT plT w v f
abbrev tyV (h : TH) (nv pv : Value) : Value := .agg #[.int .i64 h.kind, .int .i64 h.at_, .int .i64 h.lo, .int .i64 h.hi, .int .i64 h.most, nv, pv, .string h.name, .int .i64 h.nat]
structure RdY (w : World) (h : TH) (f : Ft) (nv pv : Value) : Prop where
 n : RdW w nv h.names
 p : RdP w pv f
theorem RdY.kp {w w' : World} {h : TH} {f : Ft} {nv pv : Value} (q : Kp w w') (x : RdY w h f nv pv) : RdY w' h f nv pv := ⟨x.n.kp q, RdSl.kp (hd := hdT) (pl := plT) (fun _ _ _ _ _ q h => hdT.kp q h) (fun _ _ _ _ q h => plT.kp q h) q x.p⟩
theorem RdY.below {w w' : World} {h : TH} {f : Ft} {nv pv : Value} (x : RdY w h f nv pv) (b : Below w.heap.size w w') : RdY w' h f nv pv := x.kp (Kp.of_below b)
theorem RdY.node {w : World} {h : TH} {f : Ft} {ts : List Value} (x : RdNd 9 9 hdT plT w ts h f) : ∃ nv pv, ts = [.int .i64 h.kind, .int .i64 h.at_, .int .i64 h.lo, .int .i64 h.hi, .int .i64 h.most, nv, pv, .string h.name, .int .i64 h.nat] ∧ RdY w h f nv pv := by
 obtain ⟨-, v, ⟨nv, e, r⟩, s⟩ := x
 exact ⟨nv, v, e, r, s⟩
theorem RdP.part {w : World} {A : Option Addr} {n c : Nat} {f : Ft} (h : RdP w (.slice A n c) f) {i : Nat} {p : PH} {x : TH} {kids rest : Ft} (e : f.drop i = .cons p x kids rest) :
  ∃ g o lv cv nv pv, A = some ⟨g, o, none⟩ ∧ g < w.heap.size ∧ RdW w lv p.label ∧ RdW w cv p.cl ∧ RdY w x kids nv pv ∧
   ∀ j v, [Value.string p.name, .int .i64 p.at_, .bool p.bare, lv, .int .i64 p.wide, .int .i64 p.ck, .int .i64 p.cn, .int .i64 p.cat, cv, .int .i64 x.kind, .int .i64 x.at_, .int .i64 x.lo, .int .i64 x.hi, .int .i64 x.most, nv, pv, .string x.name, .int .i64 x.nat][j]? = some v → w.cell? ⟨g, o + i * 18 + j, none⟩ = some v := by
 obtain ⟨g, o, rfl, hg, ps, ts, -, hc, ⟨lv, cv, rfl, hl, hv⟩, hn⟩ := h.at_ rfl e
 obtain ⟨nv, pv, rfl, hy⟩ := RdY.node hn
 exact ⟨g, o, lv, cv, nv, pv, rfl, hg, hl, hv, hy, hc⟩
theorem RdP.sl {w : World} {v : Value} {f : Ft} (h : RdP w v f) : ∃ A c, v = .slice A f.len c ∧ f.len ≤ c := by
 obtain ⟨A, c, e, hn, -⟩ := h
 exact ⟨A, c, e, hn⟩
def I64 (x : Int) : Prop := -9223372036854775808 ≤ x ∧ x ≤ 9223372036854775807
def GoodH (h : TH) : Prop := I64 h.kind ∧ I64 h.at_ ∧ I64 h.lo ∧ I64 h.hi ∧ I64 h.most ∧ (∀ x ∈ h.names, GoodW x) ∧ h.name.size ≤ maxLen ∧ I64 h.nat ∧ h.names.length ≤ maxLen
def GoodL (p : PH) : Prop := p.name.size ≤ maxLen ∧ I64 p.at_ ∧ (∀ x ∈ p.label, GoodW x) ∧ I64 p.wide ∧ I64 p.ck ∧ I64 p.cn ∧ I64 p.cat ∧ (∀ x ∈ p.cl, GoodW x) ∧ p.label.length ≤ maxLen ∧ p.cl.length ≤ maxLen
section
variable {G : Type} {enc' : TypeId × Value → G} {W : World} {bs : Nat}
end
abbrev Ty := TH × Ft × Value × Value
end Go.Proofs.YtncijmodlhijoaaGreat.Kin
namespace Go.Proofs.YtncijmodlhijoaaGreat
open Go.RowKit Go.Lib
structure BW (W : World) where
 w : World
 b : Below W.heap.size W w
instance (W : World) : Nonempty (BW W) := ⟨⟨W, Below.refl _ _⟩⟩
theorem BW.cell {W : World} (x : BW W) {g o : Nat} (h : g < W.heap.size) {u : Value} (hc : W.cell? ⟨g, o, none⟩ = some u) : x.w.cell? ⟨g, o, none⟩ = some u := (x.b.cell (p := ⟨g, o, none⟩) h).trans hc
theorem wp_region_below_lit {P : Program} {id : Nat} {Q : Exit → Act → World → Prop} {a : Act} {w : World} {l : List Oper} (hm : P.follows .mixedOrders = true) (hB : Region.lexB .any l.toArray = true)
  (h : wpQuiet P l.toArray (fun w' => ∃ x : BW w, w' = x.w) (fun a' => ∀ w', (∃ x : BW w, w' = x.w) → Q .normal a' w') l a) : (Code.region id l.toArray true).wp P Q a w :=
 wp_region_quiet (C := fun w' => ∃ x : BW w, w' = x.w) hm hB ⟨⟨w.drewN 1, below_drewN (Below.refl _ _) 1⟩, rfl⟩ (by simpa using h)
end Go.Proofs.YtncijmodlhijoaaGreat
namespace Go.Proofs.YtncijmodlhijoaaGreat.Nam
open Go.RowKit Go.Lib Utf
theorem isE_pos {s : ByteArray} (h : 0 < s.size) : s.toList.isEmpty = false := by
 have : s.toList.length = s.size := by rw [ba_toList]; simp
 cases e : s.toList with
 | nil => rw [e] at this; simp at this; omega
 | cons a l => rfl
theorem isE_nil {s : ByteArray} (h : s.size = 0) : s.toList.isEmpty = true := by
 have : s.toList.length = s.size := by rw [ba_toList]; simp
 cases e : s.toList with
 | nil => rfl
 | cons a l => rw [e] at this; simp at this; omega
theorem letter_calls (c : Nat) (w : World) (R : Ending → World → Prop) (hR : Hid (R (.returned (.bool (decide (isSmall c)))) w)) : Calls Tryz.prog 262 #[.int .u8 c] w R := by
 by_cases h1 : 97 ≤ c
 ·by_cases h2 : c ≤ 122
  ·rw [decide_eq_true (show isSmall c from ⟨h1, h2⟩)] at hR
   go_enter Tryz.func262, Tryz.ntmps262
   go_wp2_with fail
   exact retB hR.out (decide_eq_true (by omega)).symm
  ·rw [decide_eq_false (show ¬ isSmall c from fun h => h2 h.2)] at hR
   go_enter Tryz.func262, Tryz.ntmps262
   go_wp2_with fail
   exact retB hR.out (decide_eq_false (by omega)).symm
 ·rw [decide_eq_false (show ¬ isSmall c from fun h => h1 h.1)] at hR
  go_enter Tryz.func262, Tryz.ntmps262
  go_wp2_with fail
  exact hR.out
theorem sign_calls (c : Nat) (w : World) (R : Ending → World → Prop) (hR : Hid (R (.returned (.bool (decide (isSign c)))) w)) : Calls Tryz.prog 300 #[.int .u8 c] w R := by
 have cL := fun R hR => letter_calls c w R hR
 by_cases h0 : isSmall c
 ·rw [decide_eq_true (show isSign c from .inl h0)] at hR
  rw [decide_eq_true h0] at cL
  replace cL := Lib.hid cL
  clear h0
  go_enter Tryz.func300, Tryz.ntmps300
  go_wp2_with fail
  refine cL.out _ (Lib.hid ?_)
  go_wp2_with fail
  exact hR.out
 ·rw [decide_eq_false h0] at cL
  replace cL := Lib.hid cL
  by_cases h1 : 48 ≤ c
  ·by_cases h2 : c ≤ 57
   ·rw [decide_eq_true (show isSign c from .inr (.inr ⟨h1, h2⟩))] at hR
    clear h0
    go_enter Tryz.func300, Tryz.ntmps300
    go_wp2_with fail
    refine cL.out _ (Lib.hid ?_)
    go_wp2_with fail
    exact hR.out
   ·by_cases h3 : c = 95
    ·rw [decide_eq_true (show isSign c from .inr (.inl h3))] at hR
     subst h3
     clear h0
     go_enter Tryz.func300, Tryz.ntmps300
     go_wp2_with fail
     refine cL.out _ (Lib.hid ?_)
     go_wp2_with fail
     exact hR.out
    ·rw [decide_eq_false (show ¬ isSign c from fun h => h.elim h0 (fun h => h.elim h3 (fun h => h2 h.2)))] at hR
     have h4 : ((c : Int) == 95) = false := by simp; omega
     have h5 : decide ((c : Int) ≤ 57) = false := decide_eq_false (by omega)
     clear h0
     go_enter Tryz.func300, Tryz.ntmps300
     go_wp2_with fail
     refine cL.out _ (Lib.hid ?_)
     go_wp2_with fail
     exact hR.out
  ·have h3 : ¬ c = 95 := by omega
   rw [decide_eq_false (show ¬ isSign c from fun h => h.elim h0 (fun h => h.elim h3 (fun h => h1 h.1)))] at hR
   have h4 : ((c : Int) == 95) = false := by simp; omega
   clear h0
   go_enter Tryz.func300, Tryz.ntmps300
   go_wp2_with fail
   refine cL.out _ (Lib.hid ?_)
   go_wp2_with fail
   exact hR.out
theorem behind_calls (s : ByteArray) (k : Nat) (hk : k ≤ s.size) (hs : s.size ≤ maxLen) (w : World) (R : Ending → World → Prop)
  (hR : Hid (R (.returned (.int .i64 (k + runF s k : Nat))) w)) : Calls Tryz.prog 263 #[.string s, .int .i64 k] w R := by
 obtain ⟨V, hV⟩ : ∃ V, k + runF s k = V := ⟨_, rfl⟩
 rw [hV] at hR
 replace hs : s.size ≤ 9223372036854775807 := hs
 go_enter Tryz.func263, Tryz.ntmps263
 go_wp2_with fail
 go_loopg [1] (s.size - k) (fun g a wr => ∃ j : Nat, wr = w ∧ a = .int .i64 j ∧ j ≤ s.size ∧ g = s.size - j ∧ Hid (j + runF s j = V))
 case atStart => exact ⟨k, rfl, rfl, hk, rfl, Lib.hid hV⟩
 case round =>
  obtain ⟨j, rfl, rfl, c1, c2, c3⟩ := hrel
  have e := c3.out
  clear c3 hV
  by_cases hj : j < s.size
  ·have hg := byN_get s j hj
   have hbl := byN_lt s j
   have cS := fun R hR => sign_calls (byN s j) wr R hR
   by_cases h1 : isSign (byN s j)
   ·rw [runF_step hj h1] at e
    rw [decide_eq_true h1] at cS
    replace cS := Lib.hid cS
    clear h1
    generalize byN s j = c at *
    go_wp2_with fail
    refine cS.out _ (Lib.hid ?_)
    go_wp2_with fail
    go_roundg (gk - 1)
    case measure => omega
    case rel => exact ⟨j + 1, rfl, by go_num, by omega, by omega, Lib.hid (by omega)⟩
   ·rw [runF_stop hj h1, Nat.add_zero] at e
    subst e
    rw [decide_eq_false h1] at cS
    replace cS := Lib.hid cS
    clear h1
    generalize byN s j = c at *
    go_wp2_with fail
    refine cS.out _ (Lib.hid ?_)
    go_wp2_with fail
    exact hR.out
  ·rw [runF_end (by omega), Nat.add_zero] at e
   subst e
   go_wp2_with fail
   exact hR.out
def takS (s : ByteArray) (a : Int) : ByteArray × Int := if 0 ≤ a ∧ a < s.size then (s.extract a.toNat (a.toNat + sigS s a.toNat), (a.toNat + sigS s a.toNat : Nat)) else (⟨#[]⟩, 0)
theorem takS_nat {s : ByteArray} {k : Nat} (h : k < s.size) : takS s k = (s.extract k (k + sigS s k), ((k + sigS s k : Nat) : Int)) := by unfold takS; rw [if_pos (by omega)]; rfl
theorem take_calls (s : ByteArray) (a : Int) (hs : s.size ≤ maxLen) (w : World) (R : Ending → World → Prop)
  (hR : Hid (R (.returned (.tuple #[.string (takS s a).1, .int .i64 (takS s a).2])) w)) : Calls Tryz.prog 193 #[.string s, .int .i64 a] w R := by
 replace hs : s.size ≤ 9223372036854775807 := hs
 by_cases h0 : a < 0
 ·unfold takS at hR
  rw [if_neg (by omega)] at hR
  simp only at hR
  go_enter Tryz.func193, Tryz.ntmps193
  go_wp2_with fail
  exact hR.out
 ·by_cases h1 : (s.size : Int) ≤ a
  ·unfold takS at hR
   rw [if_neg (by omega)] at hR
   simp only at hR
   go_enter Tryz.func193, Tryz.ntmps193
   go_wp2_with fail
   exact hR.out
  ·obtain ⟨k, rfl⟩ : ∃ k : Nat, a = k := ⟨a.toNat, by omega⟩
   have hk : k < s.size := by omega
   rw [takS_nat hk] at hR
   simp only at hR
   have hg := byN_get s k hk
   have hb := byN_lt s k
   have cL := fun R hR => letter_calls (byN s k) w R hR
   have cB := Lib.hid fun R hR => behind_calls s k (by omega) hs w R hR
   have hl := sig_len hk
   by_cases h2 : isSmall (byN s k)
   ·have e : sigS s k = runF s k := by unfold sigS; rw [if_pos ⟨hk, h2⟩]
    rw [e] at hR hl
    rw [decide_eq_true h2] at cL
    replace cL := Lib.hid cL
    clear h2 e
    generalize byN s k = c at *
    generalize runF s k = m at *
    go_enter Tryz.func193, Tryz.ntmps193
    go_wp2_with fail
    refine cL.out _ (Lib.hid ?_)
    go_wp2_with fail
    refine cB.out _ (Lib.hid ?_)
    go_wp2_with fail
    exact hR.out
   ·have e : sigS s k = 0 := by unfold sigS; rw [if_neg (fun h => h2 h.2)]
    rw [e] at hR
    simp only [Nat.add_zero] at hR
    rw [show s.extract k k = ByteArray.empty from ByteArray.extract_same] at hR
    rw [decide_eq_false h2] at cL
    replace cL := Lib.hid cL
    clear h2 e hl cB
    generalize byN s k = c at *
    go_enter Tryz.func193, Tryz.ntmps193
    go_wp2_with fail
    refine cL.out _ (Lib.hid ?_)
    go_wp2_with fail
    exact hR.out
theorem right_calls (s : ByteArray) (hs : s.size ≤ maxLen) (w : World) (R : Ending → World → Prop) (hR : Hid (R (.returned (.bool (rightS s))) w)) : Calls Tryz.prog 115 #[.string s] w R := by
 have cT := fun R hR => take_calls s 0 hs w R hR
 replace hs : s.size ≤ 9223372036854775807 := hs
 unfold rightS at hR
 by_cases h0 : 0 < s.size
 ·have hl := sig_len h0
  rw [show takS s 0 = takS s (0 : Nat) from rfl, takS_nat h0] at cT
  simp only at cT
  have hz : (s.extract 0 (0 + sigS s 0)).size = sigS s 0 := by rw [ByteArray.size_extract]; omega
  generalize sigS s 0 = m at *
  generalize s.extract 0 (0 + m) = n at *
  replace cT := Lib.hid cT
  by_cases h1 : 0 < m
  ·have hE := isE_pos (s := n) (by omega)
   by_cases h2 : m = s.size
   ·by_cases h3 : s.size ≤ 32
    ·rw [decide_eq_true ⟨h0, h3, h2⟩] at hR
     subst h2
     have e : ((n.size : Int) == (s.size : Int)) = true := by simp; omega
     go_enter Tryz.func115, Tryz.ntmps115
     go_wp2_with fail
     refine cT.out _ (Lib.hid ?_)
     go_wp2_with fail
     exact retB hR.out (decide_eq_true (by omega)).symm
    ·rw [decide_eq_false (fun h => h3 h.2.1)] at hR
     subst h2
     have e : ((n.size : Int) == (s.size : Int)) = true := by simp; omega
     go_enter Tryz.func115, Tryz.ntmps115
     go_wp2_with fail
     refine cT.out _ (Lib.hid ?_)
     go_wp2_with fail
     exact retB hR.out (decide_eq_false (by omega)).symm
   ·rw [decide_eq_false (fun h => h2 h.2.2)] at hR
    have e : ((n.size : Int) == (s.size : Int)) = false := by simp; omega
    go_enter Tryz.func115, Tryz.ntmps115
    go_wp2_with fail
    refine cT.out _ (Lib.hid ?_)
    go_wp2_with fail
    exact hR.out
  ·have hE := isE_nil (s := n) (by omega)
   rw [decide_eq_false (fun h => by omega)] at hR
   go_enter Tryz.func115, Tryz.ntmps115
   go_wp2_with fail
   refine cT.out _ (Lib.hid ?_)
   go_wp2_with fail
   exact hR.out
 ·rw [decide_eq_false (fun h => h0 h.1)] at hR
  unfold takS at cT
  rw [if_neg (by omega)] at cT
  simp only at cT
  replace cT := Lib.hid cT
  go_enter Tryz.func115, Tryz.ntmps115
  go_wp2_with fail
  refine cT.out _ (Lib.hid ?_)
  go_wp2_with fail
  exact hR.out
theorem small_sign {c : Nat} (h : isSmall c) : isSign c := .inl h
theorem signs_calls (s : ByteArray) (k : Nat) (hk : k < s.size) (hs : s.size ≤ maxLen) (w : World) (R : Ending → World → Prop)
  (hR : Hid (R (.returned (.int .i64 (sigS s k : Nat))) w)) : Calls Tryz.prog 178 #[.string s, .int .i64 k] w R := by
 obtain ⟨V, hV⟩ : ∃ V, sigS s k = V := ⟨_, rfl⟩
 rw [hV] at hR
 replace hs : s.size ≤ 9223372036854775807 := hs
 go_enter Tryz.func178, Tryz.ntmps178
 go_wp2_with fail
 go_loopg [5, 6] (s.size - k) (fun g n a wr => ∃ j m : Nat, wr = w ∧ n = .int .i64 m ∧ a = .int .i64 j ∧ j ≤ s.size ∧ g = s.size - j ∧ m ≤ j ∧ Hid ((m = 0 → j = k) ∧ (0 < m → m + runF s j = V)))
 case atStart => exact ⟨k, 0, rfl, rfl, rfl, by omega, rfl, by omega, Lib.hid ⟨fun _ => rfl, fun h => by omega⟩⟩
 case round =>
  obtain ⟨j, m, rfl, rfl, rfl, c1, c2, c4, c3⟩ := hrel
  obtain ⟨e1, e2⟩ := c3.out
  clear c3
  by_cases hj : j < s.size
  ·have hg := byN_get s j hj
   have hbl := byN_lt s j
   by_cases hm : m = 0
   ·subst hm
    obtain rfl := e1 rfl
    clear e1 e2
    unfold sigS at hV
    by_cases hsm : isSmall (byN s j)
    ·rw [if_pos ⟨hj, hsm⟩, runF_step hj (small_sign hsm)] at hV
     obtain ⟨h1, h2⟩ := hsm
     replace hV := Lib.hid hV
     generalize byN s j = c at *
     go_wp2_with fail
     go_roundg (gk - 1)
     case measure => omega
     case rel => exact ⟨j + 1, 1, rfl, by go_num, by go_num, by omega, by omega, by omega, Lib.hid ⟨fun h => by omega, fun _ => by have := hV.out; omega⟩⟩
    ·rw [if_neg (fun h => hsm h.2)] at hV
     subst hV
     by_cases h1 : 97 ≤ byN s j
     ·have h2 : decide (((byN s j : Nat) : Int) ≤ 122) = false := decide_eq_false (fun h => hsm ⟨h1, by omega⟩)
      clear hsm
      generalize byN s j = c at *
      go_wp2_with fail
      exact hR.out
     ·clear hsm
      generalize byN s j = c at *
      go_wp2_with fail
      exact hR.out
   ·have e := e2 (by omega)
    have hm0 : ((m : Int) == 0) = false := by simp; omega
    clear e1 e2 hV
    by_cases hsm : isSmall (byN s j)
    ·rw [runF_step hj (small_sign hsm)] at e
     obtain ⟨h1, h2⟩ := hsm
     generalize byN s j = c at *
     go_wp2_with fail
     go_roundg (gk - 1)
     case measure => omega
     case rel => exact ⟨j + 1, m + 1, rfl, by go_num, by go_num, by omega, by omega, by omega, Lib.hid ⟨fun h => by omega, fun _ => by omega⟩⟩
    ·have hn : (97 ≤ byN s j ∧ 122 < byN s j) ∨ byN s j < 97 := by
      unfold isSmall at hsm; omega
     by_cases h3 : byN s j = 95
     ·rw [runF_step hj (.inr (.inl h3))] at e
      have h4 : (((byN s j : Nat) : Int) != 95) = false := by simp; omega
      have h5 : byN s j < 97 := by omega
      clear hn hsm
      generalize byN s j = c at *
      go_wp2_with fail
      go_roundg (gk - 1)
      case measure => omega
      case rel => exact ⟨j + 1, m + 1, rfl, by go_num, by go_num, by omega, by omega, by omega, Lib.hid ⟨fun h => by omega, fun _ => by omega⟩⟩
     ·have h4 : (((byN s j : Nat) : Int) != 95) = true := by simp; omega
      by_cases h5 : 48 ≤ byN s j ∧ byN s j ≤ 57
      ·rw [runF_step hj (.inr (.inr h5))] at e
       obtain ⟨h6, h7⟩ := h5
       clear hn hsm
       generalize byN s j = c at *
       go_wp2_with fail
       go_roundg (gk - 1)
       case measure => omega
       case rel => exact ⟨j + 1, m + 1, rfl, by go_num, by go_num, by omega, by omega, by omega, Lib.hid ⟨fun h => by omega, fun _ => by omega⟩⟩
      ·rw [runF_stop hj (fun h => h.elim hsm (fun h => h.elim h3 h5)), Nat.add_zero] at e
       subst e
       have h6 : byN s j < 48 ∨ (48 ≤ byN s j ∧ 57 < byN s j) := by omega
       have d1 : ∀ c : Nat, 122 < c → decide ((c : Int) ≤ 122) = false := fun c h => decide_eq_false (by omega)
       have d2 : ∀ c : Nat, 57 < c → decide (57 < (c : Int)) = true := fun c h => decide_eq_true (by omega)
       replace d1 := Lib.hid d1
       replace d2 := Lib.hid d2
       clear h5 hsm
       generalize byN s j = c at *
       rcases hn with ⟨n1, n2⟩ | n1 <;> rcases h6 with h6 | ⟨h6, h7⟩ <;> try omega
       ·have q1 := d1.out c n2
        have q2 := d2.out c h7
        go_wp2_with fail
        exact hR.out
       ·go_wp2_with fail
        exact hR.out
       ·have q2 := d2.out c h7
        go_wp2_with fail
        exact hR.out
  ·have e : m = V := by
    by_cases hm : m = 0
    ·have := e1 hm; omega
    ·have := e2 (by omega)
     rw [runF_end (by omega)] at this
     omega
   subst e
   clear e1 e2
   go_wp2_with fail
   exact hR.out
end Go.Proofs.YtncijmodlhijoaaGreat.Nam
