import Derived.Test.YtbnmkbpjdelokaaGreatQ1
import Derived.ChangeArms
set_option linter.unusedVariables false
set_option maxRecDepth 100000
set_option maxHeartbeats 4000000
namespace Go.Proofs.YtbnmkbpjdelokaaGreat.Kin
open Nam Lat
structure TH where
  kind : Int
  at_ : Int
  lo : Int
  hi : Int
  most : Int
  names : List Wr
  name : ByteArray
  nat : Int
structure PH where
  name : ByteArray
  at_ : Int
  bare : Bool
  label : List Wr
  wide : Int
  ck : Int
  cn : Int
  cat : Int
  cl : List Wr
abbrev Ft := Fo TH PH
def zTH : TH := ⟨0, 0, 0, 0, 0, [], ByteArray.empty, 0⟩
def zPH : PH := ⟨ByteArray.empty, 0, false, [], 0, 0, 0, 0, []⟩
def bPH : PH := ⟨ByteArray.empty, 0, true, [], 0, 0, 0, 0, []⟩
def cntF : Ft → Nat
  | .nil => 0
  | .cons p _ k r => (if p.bare then 0 else cntF k + 1) + cntF r
def depF : Ft → Nat
  | .nil => 0
  | .cons p _ k r => max (if p.bare then 0 else depF k + 1) (depF r)
def sameW (a b : List Wr) : Bool := decide (nms a = nms b)
def plainB (p q : PH) : Bool := (p.bare == q.bare) && decide (p.wide = q.wide) && sameW p.label q.label && decide (p.ck = q.ck) && decide (p.cn = q.cn) && sameW p.cl q.cl
def headB (a b : TH) : Bool := decide (a.kind = b.kind) && decide (a.lo = b.lo) && decide (a.hi = b.hi) && decide (a.most = b.most) && decide (a.name = b.name) && sameW a.names b.names
def sameF : Ft → Ft → Bool
  | .nil, .nil => true
  | .cons p h k r, .cons q g l s => (decide (p.name = q.name) && plainB p q && (headB h g && sameF k l)) && sameF r s
  | _, _ => false
def sameS (h : TH) (k : Ft) (g : TH) (l : Ft) : Bool := headB h g && sameF k l
def zeroB (h : TH) (k : Ft) : Bool := sameS h k zTH .nil
def stripW (l : List Wr) : List Wr := l.map fun x => (x.1, 0)
def stripP (p : PH) : PH := ⟨p.name, 0, p.bare, stripW p.label, p.wide, p.ck, p.cn, 0, stripW p.cl⟩
def stripH (h : TH) : TH := ⟨h.kind, 0, h.lo, h.hi, h.most, stripW h.names, h.name, 0⟩
def stripF : Ft → Ft
  | .nil => .nil
  | .cons p h k r => .cons (stripP p) (stripH h) (stripF k) (stripF r)
def stillW (l : List Wr) : Bool := l.all fun x => decide (x.2 = 0)
def placeF : Ft → Bool
  | .nil => true
  | .cons p h k r => (decide (p.at_ = 0 ∧ p.cat = 0) && stillW p.label && stillW p.cl && (decide (h.at_ = 0 ∧ h.nat = 0) && stillW h.names && placeF k)) && placeF r
def placeS (h : TH) (k : Ft) : Bool := decide (h.at_ = 0 ∧ h.nat = 0) && stillW h.names && placeF k
def ownB (h : TH) (k : Ft) : Bool :=
  decide ((h.kind = 2 ∨ h.lo = 0 ∧ h.hi = 0) ∧ (h.kind = 3 ∨ h.kind = 5 ∨ h.most = 0) ∧ (h.kind = 4 ∨ h.names = []) ∧ (4 < h.kind ∧ h.kind < 9 ∨ k.len = 0) ∧ (h.kind = 9 ∨ h.name = ByteArray.empty))
def labF : List Wr → Int × Int
  | [] => (0, 0)
  | x :: r => if rightS x.1 then labF r else (9, x.2)
def labelS (l : List Wr) : Int × Int := if 32 < l.length then (8, (wN l 32).2) else labF l
def coarseS (p : PH) : Int × Int :=
  if p.ck = 0 then (if p.cn ≠ 0 ∨ p.cl ≠ [] then (19, p.at_) else (0, 0))
  else if p.ck < 0 ∨ 3 < p.ck then (14, p.cat)
  else if (p.ck = 1 ∧ p.cn < 1) ∨ (p.ck = 2 ∧ (p.cn < 0 ∨ 4096 < p.cn)) ∨ (p.ck = 3 ∧ p.cn ≠ 0) then (20, p.cat)
  else labelS p.cl
noncomputable def listedS (ns : List ByteArray) (i : Nat) : Int := if rightS (ns.getD i ByteArray.empty) = false then 9 else if ns.getD i ByteArray.empty ∈ ns.take i then 10 else 0
noncomputable def enumF (ns : List ByteArray) : Nat → List Wr → Int × Int
  | _, [] => (0, 0)
  | i, x :: r => if listedS ns i ≠ 0 then (listedS ns i, x.2) else enumF ns (i + 1) r
def pnm : Ft → List Wr
  | .nil => []
  | .cons p _ _ r => (p.name, p.at_) :: pnm r
theorem pnm_len : ∀ f : Ft, (pnm f).length = f.len
  | .nil => rfl
  | .cons p _ _ r => by simp [pnm, Fo.len, pnm_len r]
def onlyB : Ft → Bool
  | .cons p _ _ .nil => decide (p.name = ByteArray.empty) && plainB p zPH
  | _ => false
abbrev Res := Int × Int × Nat
inductive Mo where
  | one
  | parts (K : Int) (ns : List ByteArray) (i : Nat)
noncomputable def wrB (h : TH) (k : Ft) (sub : Mo → Nat → Nat → Res) (d m : Nat) : Res :=
  if 24 < d then (6, h.at_, m + 1)
  else if 512 < m + 1 then (8, h.at_, m + 1)
  else if h.kind < 1 ∨ 9 < h.kind then (14, h.at_, m + 1)
  else if ownB h k = false then (19, h.at_, m + 1)
  else if (h.kind = 2 ∧ h.hi < h.lo) ∨ (h.kind = 3 ∧ (h.most < 0 ∨ 4096 < h.most)) then (20, h.at_, m + 1)
  else if h.kind = 9 ∧ rightS h.name = false then (9, h.nat, m + 1)
  else if h.kind = 4 then (if h.names = [] then (15, h.at_, m + 1) else if 64 < h.names.length then (8, (wN h.names 64).2, m + 1) else ((enumF (nms h.names) 0 h.names).1, (enumF (nms h.names) 0 h.names).2, m + 1))
  else if h.kind = 5 ∨ h.kind = 6 then (if onlyB k = false then (19, h.at_, m + 1) else if h.most < 0 ∨ 1024 < h.most then (20, h.at_, m + 1) else sub .one (d + 1) (m + 1))
  else if h.kind = 7 ∨ h.kind = 8 then (if h.kind = 8 ∧ k.len = 0 then (15, h.at_, m + 1) else if 64 < k.len then (8, (wN (pnm k) 64).2, m + 1) else sub (.parts h.kind (nms (pnm k)) 0) (d + 1) (m + 1))
  else (0, 0, m + 1)
noncomputable def wrF : Ft → Mo → Nat → Nat → Res
  | .nil, _, _, m => (0, 0, m)
  | .cons _ h k _, .one, d, m => wrB h k (wrF k) d m
  | .cons p h k r, .parts K ns i, d, m =>
    if listedS ns i ≠ 0 then (listedS ns i, p.at_, m)
    else if p.bare then (if K = 7 ∨ zeroB h k = false ∨ plainB p bPH = false then (19, p.at_, m) else wrF r (.parts K ns (i + 1)) d m)
    else if p.wide < 0 ∨ 64 < p.wide then (20, p.at_, m)
    else if (labelS p.label).1 ≠ 0 then ((labelS p.label).1, (labelS p.label).2, m)
    else if (coarseS p).1 ≠ 0 then ((coarseS p).1, (coarseS p).2, m)
    else if (wrB h k (wrF k) d m).1 ≠ 0 then wrB h k (wrF k) d m
    else wrF r (.parts K ns (i + 1)) d (wrB h k (wrF k) d m).2.2
noncomputable def wrS (h : TH) (k : Ft) : Res := wrB h k (wrF k) 1 0
theorem sameW_refl (l : List Wr) : sameW l l = true := by simp [sameW]
theorem plainB_refl (p : PH) : plainB p p = true := by simp [plainB, sameW_refl]
theorem headB_refl (h : TH) : headB h h = true := by simp [headB, sameW_refl]
theorem sameF_refl : ∀ f : Ft, sameF f f = true
  | .nil => rfl
  | .cons p h k r => by simp [sameF, plainB_refl, headB_refl, sameF_refl k, sameF_refl r]
theorem sameS_refl (h : TH) (k : Ft) : sameS h k h k = true := by simp [sameS, headB_refl, sameF_refl]
def Alike2 (a b : Int × Int) : Prop := a.1 = b.1
def Alike (a b : Res) : Prop := a.1 = b.1 ∧ a.2.2 = b.2.2
end Go.Proofs.YtbnmkbpjdelokaaGreat.Kin
namespace Go.Proofs.YtbnmkbpjdelokaaGreat.Lat
open Go.RowKit Go.Lib Nam Go.ChangeShapes Go.WideShapes
def encW (x : Wr) : List Value := [.string x.1, .int .i64 x.2]
theorem encW_len (x : Wr) : (encW x).length = 2 := rfl
abbrev RdW := RdG encW 2
def GoodW (x : Wr) : Prop := x.1.size ≤ maxLen ∧ -9223372036854775808 ≤ x.2 ∧ x.2 ≤ 9223372036854775807
instance (x : Wr) : Decidable (GoodW x) := by unfold GoodW; infer_instance
theorem RdW.op {w : World} {v : Value} {xs : List Wr} (h : RdW w v xs) : ∃ (A : Option Addr) (c : Nat), v = .slice A xs.length c ∧ xs.length ≤ c ∧
    (0 < xs.length → ∃ g o, A = some ⟨g, o, none⟩ ∧ g < w.heap.size ∧ ∀ i, i < xs.length → w.cell? ⟨g, o + i * 2, none⟩ = some (.string (wN xs i).1) ∧ w.cell? ⟨g, o + i * 2 + 1, none⟩ = some (.int .i64 (wN xs i).2)) := by
  obtain ⟨A, c, rfl, hc, hr⟩ := RdG.open encW_len (by decide) h
  refine ⟨A, c, rfl, hc, fun h0 => ?_⟩
  obtain ⟨g, o, rfl, hg, hca⟩ := hr h0
  refine ⟨g, o, rfl, hg, fun i hi => ?_⟩
  rw [wN_get hi]
  exact ⟨hca i hi 0 (by decide), hca i hi 1 (by decide)⟩
theorem RdW.kp {w w' : World} (hk : Kp w w') {v : Value} {xs : List Wr} (h : RdW w v xs) : RdW w' v xs := RdAt.kp hk h
theorem words_in {G : Type} {enc' : TypeId × Value → G} {W : World} {bs f : Nat} {v : Value} {x : DataW G × List MemPlace} (h : DataW.trod enc' Tryz.prog W bs (fun _ => true) true f 22 [v] = some x) :
    ∃ xs : List Wr, RdW W v xs ∧ (∀ x ∈ xs, GoodW x) ∧ xs.length ≤ maxLen := by
  refine flat_in encW_len (by decide) GoodW Tryz.underlying22 (by kernel_rfl) h fun n cs x hx hl => ?_
  obtain ⟨ys, m, -, -, -, hys, hf⟩ := DataW.trod_struct Tryz.underlying27 hx
  match ys, hys, cs, hl with
  | [y0, y1], _, [v0, v1], _ =>
    have g0 := hf 0 _ rfl
    have g1 := hf 1 _ rfl
    have c3 : Tryz.prog.cellsOf 3 = 1 := by kernel_rfl
    have c9 : Tryz.prog.cellsOf 9 = 1 := by kernel_rfl
    simp [c3, c9] at g0 g1
    obtain ⟨s0, h0, -, w0⟩ := DataW.trod_string Tryz.underlying9 g0
    obtain ⟨n1, h1, -, w1⟩ := DataW.trod_int Tryz.underlying3 g1
    simp at h0 h1
    subst h0 h1
    exact ⟨(s0, n1), rfl, w0, wf64 w1⟩
end Go.Proofs.YtbnmkbpjdelokaaGreat.Lat
namespace Go.Proofs.YtbnmkbpjdelokaaGreat
open Go.RowKit Go.Lib
namespace Fo
variable {H L : Type}
def drop : Nat → Fo H L → Fo H L
  | 0, f => f
  | _ + 1, .nil => .nil
  | n + 1, .cons _ _ _ r => drop n r
theorem drop_nil : ∀ n, drop n (.nil : Fo H L) = .nil
  | 0 => rfl
  | _ + 1 => rfl
theorem drop_len : ∀ (n : Nat) (f : Fo H L), (drop n f).len = f.len - n
  | 0, f => rfl
  | n + 1, .nil => by simp [drop, len]
  | n + 1, .cons l h k r => by simp only [drop, len, drop_len n r]; omega
theorem drop_succ : ∀ (n : Nat) {f : Fo H L} {l : L} {h : H} {k r : Fo H L}, drop n f = .cons l h k r → drop (n + 1) f = r
  | 0, f, l, h, k, r, e => by
    have e' : f = .cons l h k r := e
    rw [e']
    rfl
  | n + 1, .nil, l, h, k, r, e => by simp [drop] at e
  | n + 1, .cons l' h' k' r', l, h, k, r, e => drop_succ n (f := r') e
theorem drop_lt {n : Nat} {f : Fo H L} (h : n < f.len) : ∃ l x k r, drop n f = .cons l x k r := len_pos (by rw [drop_len]; omega)
theorem drop_all {n : Nat} {f : Fo H L} (h : f.len ≤ n) : drop n f = .nil := len_zero (by rw [drop_len]; omega)
def AllK (Q : Fo H L → Prop) : Fo H L → Prop
  | .nil => True
  | .cons _ _ k r => Q k ∧ AllK Q r
theorem AllK.drop {Q : Fo H L → Prop} : ∀ (n : Nat) {f : Fo H L}, AllK Q f → AllK Q (drop n f)
  | 0, f, h => h
  | n + 1, .nil, h => h
  | n + 1, .cons l x k r, h => AllK.drop n (f := r) h.2
theorem AllK.at_ {Q : Fo H L → Prop} {n : Nat} {f : Fo H L} (a : AllK Q f) {l : L} {h : H} {k r : Fo H L} (e : Fo.drop n f = .cons l h k r) : Q k := by
  have := a.drop n
  rw [e] at this
  exact this.1
theorem deep {Q : Fo H L → Prop} (s : ∀ f, AllK Q f → Q f) (f : Fo H L) : Q f := by
  have key : ∀ f : Fo H L, AllK Q f := by
    intro f
    induction f with
    | nil => trivial
    | cons l h k r ik ir => exact ⟨s k ik, ir⟩
  exact s f (key f)
end Fo
section
variable {H L : Type} {k pre : Nat} {hd : World → List Value → H → Value → Prop} {pl : World → List Value → L → Prop}
theorem RdFo.drop {w : World} {g : Nat} : ∀ (n : Nat) {f : Fo H L} {o : Nat}, RdFo k pre hd pl w f g o → RdFo k pre hd pl w (f.drop n) g (o + n * (pre + k))
  | 0, f, o, h => by rw [Nat.zero_mul, Nat.add_zero]; exact h
  | n + 1, .nil, o, h => trivial
  | n + 1, .cons l x kids r, o, h => by
    have := RdFo.drop n (f := r) h.2
    rw [show o + (n + 1) * (pre + k) = o + (pre + k) + n * (pre + k) by rw [Nat.add_mul]; omega]
    exact this
theorem RdSl.at_ {w : World} {v : Value} {f : Fo H L} (h : RdSl k pre hd pl w v f) {c : Nat} {A : Option Addr} {n : Nat} (hv : v = .slice A n c) {i : Nat} {l : L} {x : H} {kids rest : Fo H L} (e : f.drop i = .cons l x kids rest) :
    ∃ g o, A = some ⟨g, o, none⟩ ∧ g < w.heap.size ∧ ∃ ps ts : List Value, ps.length = pre ∧ (∀ j v, (ps ++ ts)[j]? = some v → w.cell? ⟨g, o + i * (pre + k) + j, none⟩ = some v) ∧ pl w ps l ∧ RdNd k pre hd pl w ts x kids := by
  obtain ⟨A', c', rfl, -, hs⟩ := h
  simp only [Value.slice.injEq] at hv
  obtain ⟨rfl, -, -⟩ := hv
  have hp : 0 < f.len := by
    have := Fo.drop_len i f
    rw [e] at this
    simp only [Fo.len] at this
    omega
  obtain ⟨g, o, rfl, hg, hf⟩ := hs hp
  have := hf.drop i
  rw [e] at this
  exact ⟨g, o, rfl, hg, this.first.1⟩
end
end Go.Proofs.YtbnmkbpjdelokaaGreat
