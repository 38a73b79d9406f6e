/- The plain mathematics of layer 15: types as they are written; what is wrong with one; how many there are in one, how deep; which are the same; one without places. No Go here. -/
import Derived.Test.YtpepomnkoghjpaaWrdS
import Derived.Test.YtpepomnkoghjpaaTre
set_option maxRecDepth 100000
set_option linter.unusedVariables false
namespace Go.Proofs.Ytpepomnkoghjpaa.Kin
open Go.Proofs.Ytpepomnkoghjpaa.Nam Go.Proofs.Ytpepomnkoghjpaa.Lat

/-- What stands at a type, beside its parts. -/
structure TH where
  kind : Int
  at_ : Int
  lo : Int
  hi : Int
  most : Int
  names : List Wr
  name : ByteArray
  nat : Int
/-- What a part is, beside its type. -/
structure PH where
  name : ByteArray
  at_ : Int
  bare : Bool
  label : List Wr
  wide : Int
  ck : Int
  cn : Int
  cat : Int
  cl : List Wr
abbrev Ft := Fo TH PH
def zTH : TH := ⟨0, 0, 0, 0, 0, [], ByteArray.empty, 0⟩
def zPH : PH := ⟨ByteArray.empty, 0, false, [], 0, 0, 0, 0, []⟩
def bPH : PH := ⟨ByteArray.empty, 0, true, [], 0, 0, 0, 0, []⟩

def cntF : Ft → Nat
  | .nil => 0
  | .cons p _ k r => (if p.bare then 0 else cntF k + 1) + cntF r
def depF : Ft → Nat
  | .nil => 0
  | .cons p _ k r => max (if p.bare then 0 else depF k + 1) (depF r)
def sameW (a b : List Wr) : Bool := decide (nms a = nms b)
def plainB (p q : PH) : Bool := (p.bare == q.bare) && decide (p.wide = q.wide) && sameW p.label q.label && decide (p.ck = q.ck) && decide (p.cn = q.cn) && sameW p.cl q.cl
def headB (a b : TH) : Bool := decide (a.kind = b.kind) && decide (a.lo = b.lo) && decide (a.hi = b.hi) && decide (a.most = b.most) && decide (a.name = b.name) && sameW a.names b.names
def sameF : Ft → Ft → Bool
  | .nil, .nil => true
  | .cons p h k r, .cons q g l s => (decide (p.name = q.name) && plainB p q && (headB h g && sameF k l)) && sameF r s
  | _, _ => false
def sameS (h : TH) (k : Ft) (g : TH) (l : Ft) : Bool := headB h g && sameF k l
def zeroB (h : TH) (k : Ft) : Bool := sameS h k zTH .nil
def stripW (l : List Wr) : List Wr := l.map fun x => (x.1, 0)
def stripP (p : PH) : PH := ⟨p.name, 0, p.bare, stripW p.label, p.wide, p.ck, p.cn, 0, stripW p.cl⟩
def stripH (h : TH) : TH := ⟨h.kind, 0, h.lo, h.hi, h.most, stripW h.names, h.name, 0⟩
def stripF : Ft → Ft
  | .nil => .nil
  | .cons p h k r => .cons (stripP p) (stripH h) (stripF k) (stripF r)
def stillW (l : List Wr) : Bool := l.all fun x => decide (x.2 = 0)
def placeF : Ft → Bool
  | .nil => true
  | .cons p h k r => (decide (p.at_ = 0 ∧ p.cat = 0) && stillW p.label && stillW p.cl && (decide (h.at_ = 0 ∧ h.nat = 0) && stillW h.names && placeF k)) && placeF r
def placeS (h : TH) (k : Ft) : Bool := decide (h.at_ = 0 ∧ h.nat = 0) && stillW h.names && placeF k

/-! ### What is wrong -/
def ownB (h : TH) (k : Ft) : Bool :=
  decide ((h.kind = 2 ∨ h.lo = 0 ∧ h.hi = 0) ∧ (h.kind = 3 ∨ h.kind = 5 ∨ h.most = 0) ∧ (h.kind = 4 ∨ h.names = []) ∧ (4 < h.kind ∧ h.kind < 9 ∨ k.len = 0) ∧ (h.kind = 9 ∨ h.name = ByteArray.empty))
def labF : List Wr → Int × Int
  | [] => (0, 0)
  | x :: r => if rightS x.1 then labF r else (9, x.2)
def labelS (l : List Wr) : Int × Int := if 32 < l.length then (8, (wN l 32).2) else labF l
def coarseS (p : PH) : Int × Int :=
  if p.ck = 0 then (if p.cn ≠ 0 ∨ p.cl ≠ [] then (19, p.at_) else (0, 0))
  else if p.ck < 0 ∨ 3 < p.ck then (14, p.cat)
  else if (p.ck = 1 ∧ p.cn < 1) ∨ (p.ck = 2 ∧ (p.cn < 0 ∨ 4096 < p.cn)) ∨ (p.ck = 3 ∧ p.cn ≠ 0) then (20, p.cat)
  else labelS p.cl
noncomputable def listedS (ns : List ByteArray) (i : Nat) : Int := if rightS (ns.getD i ByteArray.empty) = false then 9 else if ns.getD i ByteArray.empty ∈ ns.take i then 10 else 0
noncomputable def enumF (ns : List ByteArray) : Nat → List Wr → Int × Int
  | _, [] => (0, 0)
  | i, x :: r => if listedS ns i ≠ 0 then (listedS ns i, x.2) else enumF ns (i + 1) r
/-- The names of parts. -/
def pnm : Ft → List Wr
  | .nil => []
  | .cons p _ _ r => (p.name, p.at_) :: pnm r
theorem pnm_len : ∀ f : Ft, (pnm f).length = f.len
  | .nil => rfl
  | .cons p _ _ r => by simp [pnm, Fo.len, pnm_len r]
/-- Is it one part, with only a type? -/
def onlyB : Ft → Bool
  | .cons p _ _ .nil => decide (p.name = ByteArray.empty) && plainB p zPH
  | _ => false
abbrev Res := Int × Int × Nat
/-- What is gone through: the only part's type; or parts, from one on. -/
inductive Mo where
  | one
  | parts (K : Int) (ns : List ByteArray) (i : Nat)
noncomputable def wrB (h : TH) (k : Ft) (sub : Mo → Nat → Nat → Res) (d m : Nat) : Res :=
  if 24 < d then (6, h.at_, m + 1)
  else if 512 < m + 1 then (8, h.at_, m + 1)
  else if h.kind < 1 ∨ 9 < h.kind then (14, h.at_, m + 1)
  else if ownB h k = false then (19, h.at_, m + 1)
  else if (h.kind = 2 ∧ h.hi < h.lo) ∨ (h.kind = 3 ∧ (h.most < 0 ∨ 4096 < h.most)) then (20, h.at_, m + 1)
  else if h.kind = 9 ∧ rightS h.name = false then (9, h.nat, m + 1)
  else if h.kind = 4 then (if h.names = [] then (15, h.at_, m + 1) else if 64 < h.names.length then (8, (wN h.names 64).2, m + 1) else ((enumF (nms h.names) 0 h.names).1, (enumF (nms h.names) 0 h.names).2, m + 1))
  else if h.kind = 5 ∨ h.kind = 6 then (if onlyB k = false then (19, h.at_, m + 1) else if h.most < 0 ∨ 1024 < h.most then (20, h.at_, m + 1) else sub .one (d + 1) (m + 1))
  else if h.kind = 7 ∨ h.kind = 8 then (if h.kind = 8 ∧ k.len = 0 then (15, h.at_, m + 1) else if 64 < k.len then (8, (wN (pnm k) 64).2, m + 1) else sub (.parts h.kind (nms (pnm k)) 0) (d + 1) (m + 1))
  else (0, 0, m + 1)
noncomputable def wrF : Ft → Mo → Nat → Nat → Res
  | .nil, _, _, m => (0, 0, m)
  | .cons _ h k _, .one, d, m => wrB h k (wrF k) d m
  | .cons p h k r, .parts K ns i, d, m =>
    if listedS ns i ≠ 0 then (listedS ns i, p.at_, m)
    else if p.bare then (if K = 7 ∨ zeroB h k = false ∨ plainB p bPH = false then (19, p.at_, m) else wrF r (.parts K ns (i + 1)) d m)
    else if p.wide < 0 ∨ 64 < p.wide then (20, p.at_, m)
    else if (labelS p.label).1 ≠ 0 then ((labelS p.label).1, (labelS p.label).2, m)
    else if (coarseS p).1 ≠ 0 then ((coarseS p).1, (coarseS p).2, m)
    else if (wrB h k (wrF k) d m).1 ≠ 0 then wrB h k (wrF k) d m
    else wrF r (.parts K ns (i + 1)) d (wrB h k (wrF k) d m).2.2
noncomputable def wrS (h : TH) (k : Ft) : Res := wrB h k (wrF k) 1 0

/-! ### Sameness -/
theorem sameW_refl (l : List Wr) : sameW l l = true := by simp [sameW]
theorem sameW_comm (a b : List Wr) : sameW a b = sameW b a := by unfold sameW; rw [Bool.eq_iff_iff, decide_eq_true_iff, decide_eq_true_iff]; exact ⟨Eq.symm, Eq.symm⟩
theorem nms_strip (l : List Wr) : nms (stripW l) = nms l := by simp [nms, stripW]
theorem sameW_strip (l : List Wr) : sameW l (stripW l) = true := by simp [sameW, nms_strip]
theorem plainB_refl (p : PH) : plainB p p = true := by simp [plainB, sameW_refl]
theorem headB_refl (h : TH) : headB h h = true := by simp [headB, sameW_refl]
theorem sameF_refl : ∀ f : Ft, sameF f f = true
  | .nil => rfl
  | .cons p h k r => by simp [sameF, plainB_refl, headB_refl, sameF_refl k, sameF_refl r]
theorem sameS_refl (h : TH) (k : Ft) : sameS h k h k = true := by simp [sameS, headB_refl, sameF_refl]
theorem dec_comm {α : Type} [DecidableEq α] (a b : α) : decide (a = b) = decide (b = a) := by rw [Bool.eq_iff_iff, decide_eq_true_iff, decide_eq_true_iff]; exact ⟨Eq.symm, Eq.symm⟩
theorem plainB_comm (p q : PH) : plainB p q = plainB q p := by
  unfold plainB
  rw [dec_comm p.wide, dec_comm p.ck, dec_comm p.cn, sameW_comm p.label, sameW_comm p.cl, Bool.beq_comm]
theorem headB_comm (a b : TH) : headB a b = headB b a := by
  unfold headB
  rw [dec_comm a.kind, dec_comm a.lo, dec_comm a.hi, dec_comm a.most, dec_comm a.name, sameW_comm a.names]
theorem sameF_comm : ∀ f g : Ft, sameF f g = sameF g f
  | .nil, .nil => rfl
  | .nil, .cons .. => rfl
  | .cons .., .nil => rfl
  | .cons p h k r, .cons q g l s => by unfold sameF; rw [dec_comm p.name, plainB_comm p, headB_comm h, sameF_comm k, sameF_comm r]
theorem sameS_comm (h : TH) (k : Ft) (g : TH) (l : Ft) : sameS h k g l = sameS g l h k := by unfold sameS; rw [headB_comm, sameF_comm]
theorem plainB_strip (p : PH) : plainB p (stripP p) = true := by simp [plainB, stripP, sameW_strip]
theorem headB_strip (h : TH) : headB h (stripH h) = true := by simp [headB, stripH, sameW_strip]
theorem sameF_strip : ∀ f : Ft, sameF f (stripF f) = true
  | .nil => rfl
  | .cons p h k r => by
    unfold stripF sameF
    rw [plainB_strip, headB_strip, sameF_strip k, sameF_strip r]
    simp [stripP]
theorem sameS_strip (h : TH) (k : Ft) : sameS h k (stripH h) (stripF k) = true := by simp [sameS, headB_strip, sameF_strip]
theorem still_strip (l : List Wr) : stillW (stripW l) = true := by simp [stillW, stripW]
theorem place_strip : ∀ f : Ft, placeF (stripF f) = true
  | .nil => rfl
  | .cons p h k r => by
    unfold stripF placeF
    rw [place_strip k, place_strip r]
    simp [stripP, stripH, still_strip]
theorem placeS_strip (h : TH) (k : Ft) : placeS (stripH h) (stripF k) = true := by
  unfold placeS
  rw [place_strip]
  simp [stripH, still_strip]
theorem cnt_strip : ∀ f : Ft, cntF (stripF f) = cntF f
  | .nil => rfl
  | .cons p h k r => by unfold stripF cntF; rw [cnt_strip k, cnt_strip r]; rfl
theorem len_strip : ∀ f : Ft, (stripF f).len = f.len
  | .nil => rfl
  | .cons p h k r => by unfold stripF Fo.len; rw [len_strip r]
theorem stripW_nil (l : List Wr) : stripW l = [] ↔ l = [] := by simp [stripW]
theorem stripW_len (l : List Wr) : (stripW l).length = l.length := by simp [stripW]
theorem pnm_strip : ∀ f : Ft, pnm (stripF f) = stripW (pnm f)
  | .nil => rfl
  | .cons p h k r => by unfold stripF pnm; rw [pnm_strip r]; rfl
theorem sameW_stripl (a b : List Wr) : sameW (stripW a) b = sameW a b := by unfold sameW; rw [nms_strip]
theorem plainB_stripl (p q : PH) : plainB (stripP p) q = plainB p q := by unfold plainB stripP; simp only [sameW_stripl]
theorem headB_stripl (h g : TH) : headB (stripH h) g = headB h g := by unfold headB stripH; simp only [sameW_stripl]
theorem sameF_stripl : ∀ f g : Ft, sameF (stripF f) g = sameF f g
  | .nil, .nil => rfl
  | .nil, .cons .. => rfl
  | .cons .., .nil => rfl
  | .cons p h k r, .cons q g l s => by
    unfold stripF sameF
    rw [plainB_stripl, headB_stripl, sameF_stripl k, sameF_stripl r]
    rfl
theorem zeroB_strip (h : TH) (k : Ft) : zeroB (stripH h) (stripF k) = zeroB h k := by unfold zeroB sameS; rw [headB_stripl, sameF_stripl]
theorem ownB_strip (h : TH) (k : Ft) : ownB (stripH h) (stripF k) = ownB h k := by unfold ownB; rw [len_strip]; simp only [stripH, stripW_nil]
theorem labF_strip : ∀ l : List Wr, (labF (stripW l)).1 = (labF l).1
  | [] => rfl
  | x :: r => by
    have := labF_strip r
    unfold stripW at this
    unfold stripW
    simp only [List.map_cons, labF]
    split
    · exact this
    · rfl
theorem labelS_strip (l : List Wr) : (labelS (stripW l)).1 = (labelS l).1 := by
  unfold labelS
  rw [stripW_len]
  split
  · rfl
  · exact labF_strip l
theorem ite_rel {α β : Type} (r : α → β → Prop) {c : Prop} [i1 : Decidable c] [i2 : Decidable c] {a b : α} {a' b' : β} (h1 : c → r a a') (h2 : ¬ c → r b b') : r (@ite α c i1 a b) (@ite β c i2 a' b') := by
  by_cases q : c
  · rw [if_pos q, if_pos q]; exact h1 q
  · rw [if_neg q, if_neg q]; exact h2 q
def Alike2 (a b : Int × Int) : Prop := a.1 = b.1
theorem coarse_strip (p : PH) : (coarseS (stripP p)).1 = (coarseS p).1 := by
  show Alike2 _ _
  unfold coarseS
  simp only [stripP, ne_eq, stripW_nil]
  repeat' (apply ite_rel <;> intro)
  all_goals first | exact rfl | exact labelS_strip _
theorem enum_strip (ns : List ByteArray) : ∀ (l : List Wr) (i : Nat), (enumF ns i (stripW l)).1 = (enumF ns i l).1
  | [], _ => rfl
  | x :: r, i => by
    have := enum_strip ns r (i + 1)
    unfold stripW at this
    unfold stripW
    simp only [List.map_cons, enumF]
    split
    · rfl
    · exact this
theorem only_strip : ∀ f : Ft, onlyB (stripF f) = onlyB f
  | .nil => rfl
  | .cons p h k .nil => by
    show (decide ((stripP p).name = ByteArray.empty) && plainB (stripP p) zPH) = (decide (p.name = ByteArray.empty) && plainB p zPH)
    rw [plainB_stripl]; rfl
  | .cons p h k (.cons ..) => rfl
/-- The same fault but for its place, and the same count. -/
def Alike (a b : Res) : Prop := a.1 = b.1 ∧ a.2.2 = b.2.2
theorem Alike.refl (a : Res) : Alike a a := ⟨rfl, rfl⟩
theorem wrB_strip (h : TH) (k : Ft) (s s' : Mo → Nat → Nat → Res) (hs : ∀ mo d m, Alike (s' mo d m) (s mo d m)) (d m : Nat) : Alike (wrB (stripH h) (stripF k) s' d m) (wrB h k s d m) := by
  unfold wrB
  rw [ownB_strip, only_strip, len_strip, pnm_strip, nms_strip]
  simp only [stripH, nms_strip, stripW_nil, stripW_len]
  have he := enum_strip (nms h.names) h.names 0
  repeat' (apply ite_rel <;> intro)
  all_goals first | exact ⟨rfl, rfl⟩ | exact hs _ _ _ | exact ⟨he, rfl⟩
theorem wrF_strip : ∀ (f : Ft) (mo : Mo) (d m : Nat), Alike (wrF (stripF f) mo d m) (wrF f mo d m)
  | .nil, _, _, _ => ⟨rfl, rfl⟩
  | .cons p h k r, .one, d, m => wrB_strip h k _ _ (wrF_strip k) d m
  | .cons p h k r, .parts K ns i, d, m => by
    have hB := wrB_strip h k _ _ (wrF_strip k) d m
    have hr := fun m => wrF_strip r (.parts K ns (i + 1)) d m
    unfold stripF
    unfold wrF
    rw [zeroB_strip, plainB_stripl, coarse_strip, hB.1, hB.2]
    simp only [stripP, labelS_strip]
    generalize wrB (stripH h) (stripF k) (wrF (stripF k)) d m = A at *
    generalize wrB h k (wrF k) d m = B at *
    repeat' (apply ite_rel <;> intro)
    all_goals first | exact ⟨rfl, rfl⟩ | exact hr _ | exact hB
theorem wrS_strip (h : TH) (k : Ft) : (wrS (stripH h) (stripF k)).1 = (wrS h k).1 := (wrB_strip h k _ _ (wrF_strip k) 1 0).1
end Go.Proofs.Ytpepomnkoghjpaa.Kin
