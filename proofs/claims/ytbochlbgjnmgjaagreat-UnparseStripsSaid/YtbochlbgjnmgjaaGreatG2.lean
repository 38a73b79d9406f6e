import Derived.Test.YtbochlbgjnmgjaaGreatG1
import Derived.ChangeArms
/- Words in memory. -/
set_option maxRecDepth 100000
set_option linter.unusedVariables false
namespace Go.Proofs.YtbochlbgjnmgjaaGreat.Lat
open Go.RowKit Go.Lib Go.Proofs.YtbochlbgjnmgjaaGreat.Nam Go.ChangeShapes Go.WideShapes

def encW (x : Wr) : List Value := [.string x.1, .int .i64 x.2]
theorem encW_len (x : Wr) : (encW x).length = 2 := rfl
abbrev RdW := RdG encW 2
def GoodW (x : Wr) : Prop := x.1.size ≤ maxLen ∧ -9223372036854775808 ≤ x.2 ∧ x.2 ≤ 9223372036854775807
instance (x : Wr) : Decidable (GoodW x) := by unfold GoodW; infer_instance
theorem RdW.op {w : World} {v : Value} {xs : List Wr} (h : RdW w v xs) : ∃ (A : Option Addr) (c : Nat), v = .slice A xs.length c ∧ xs.length ≤ c ∧
    (0 < xs.length → ∃ g o, A = some ⟨g, o, none⟩ ∧ g < w.heap.size ∧ ∀ i, i < xs.length → w.cell? ⟨g, o + i * 2, none⟩ = some (.string (wN xs i).1) ∧ w.cell? ⟨g, o + i * 2 + 1, none⟩ = some (.int .i64 (wN xs i).2)) := by
  obtain ⟨A, c, rfl, hc, hr⟩ := RdG.open encW_len (by decide) h
  refine ⟨A, c, rfl, hc, fun h0 => ?_⟩
  obtain ⟨g, o, rfl, hg, hca⟩ := hr h0
  refine ⟨g, o, rfl, hg, fun i hi => ?_⟩
  rw [wN_get hi]
  exact ⟨hca i hi 0 (by decide), hca i hi 1 (by decide)⟩
theorem RdW.kp {w w' : World} (hk : Kp w w') {v : Value} {xs : List Wr} (h : RdW w v xs) : RdW w' v xs := RdAt.kp hk h
/-- Words inside what came in. -/
theorem words_in {G : Type} {enc' : TypeId × Value → G} {W : World} {bs f : Nat} {v : Value} {x : DataW G × List MemPlace} (h : DataW.trod enc' Tryz.prog W bs (fun _ => true) true f 23 [v] = some x) :
    ∃ xs : List Wr, RdW W v xs ∧ (∀ x ∈ xs, GoodW x) ∧ xs.length ≤ maxLen := by
  refine flat_in encW_len (by decide) GoodW Tryz.underlying23 (by kernel_rfl) h fun n cs x hx hl => ?_
  obtain ⟨ys, m, -, -, -, hys, hf⟩ := DataW.trod_struct Tryz.underlying28 hx
  match ys, hys, cs, hl with
  | [y0, y1], _, [v0, v1], _ =>
    have g0 := hf 0 _ rfl
    have g1 := hf 1 _ rfl
    have c3 : Tryz.prog.cellsOf 3 = 1 := by kernel_rfl
    have c9 : Tryz.prog.cellsOf 9 = 1 := by kernel_rfl
    simp [c3, c9] at g0 g1
    obtain ⟨s0, h0, -, w0⟩ := DataW.trod_string Tryz.underlying9 g0
    obtain ⟨n1, h1, -, w1⟩ := DataW.trod_int Tryz.underlying3 g1
    simp at h0 h1
    subst h0 h1
    exact ⟨(s0, n1), rfl, w0, wf64 w1⟩
end Go.Proofs.YtbochlbgjnmgjaaGreat.Lat

/- Forests in memory, part by part: behind some parts; recursion over a tree's parts. -/
set_option maxRecDepth 100000
set_option linter.unusedVariables false
namespace Go.Proofs.YtbochlbgjnmgjaaGreat
open Go.RowKit Go.Lib

namespace Fo
variable {H L : Type}
def drop : Nat → Fo H L → Fo H L
  | 0, f => f
  | _ + 1, .nil => .nil
  | n + 1, .cons _ _ _ r => drop n r
theorem drop_nil : ∀ n, drop n (.nil : Fo H L) = .nil
  | 0 => rfl
  | _ + 1 => rfl
theorem drop_len : ∀ (n : Nat) (f : Fo H L), (drop n f).len = f.len - n
  | 0, f => rfl
  | n + 1, .nil => by simp [drop, len]
  | n + 1, .cons l h k r => by simp only [drop, len, drop_len n r]; omega
theorem drop_succ : ∀ (n : Nat) {f : Fo H L} {l : L} {h : H} {k r : Fo H L}, drop n f = .cons l h k r → drop (n + 1) f = r
  | 0, f, l, h, k, r, e => by
    have e' : f = .cons l h k r := e
    rw [e']
    rfl
  | n + 1, .nil, l, h, k, r, e => by simp [drop] at e
  | n + 1, .cons l' h' k' r', l, h, k, r, e => drop_succ n (f := r') e
theorem drop_lt {n : Nat} {f : Fo H L} (h : n < f.len) : ∃ l x k r, drop n f = .cons l x k r := len_pos (by rw [drop_len]; omega)
theorem drop_all {n : Nat} {f : Fo H L} (h : f.len ≤ n) : drop n f = .nil := len_zero (by rw [drop_len]; omega)
/-- Of the parts of every part. -/
def AllK (Q : Fo H L → Prop) : Fo H L → Prop
  | .nil => True
  | .cons _ _ k r => Q k ∧ AllK Q r
theorem AllK.drop {Q : Fo H L → Prop} : ∀ (n : Nat) {f : Fo H L}, AllK Q f → AllK Q (drop n f)
  | 0, f, h => h
  | n + 1, .nil, h => h
  | n + 1, .cons l x k r, h => AllK.drop n (f := r) h.2
theorem AllK.at_ {Q : Fo H L → Prop} {n : Nat} {f : Fo H L} (a : AllK Q f) {l : L} {h : H} {k r : Fo H L} (e : Fo.drop n f = .cons l h k r) : Q k := by
  have := a.drop n
  rw [e] at this
  exact this.1
/-- What holds of a tree's parts if it holds of the parts of each of them, holds. -/
theorem deep {Q : Fo H L → Prop} (s : ∀ f, AllK Q f → Q f) (f : Fo H L) : Q f := by
  have key : ∀ f : Fo H L, AllK Q f := by
    intro f
    induction f with
    | nil => trivial
    | cons l h k r ik ir => exact ⟨s k ik, ir⟩
  exact s f (key f)
end Fo
section
variable {H L : Type} {k pre : Nat} {hd : World → List Value → H → Value → Prop} {pl : World → List Value → L → Prop}
theorem RdFo.drop {w : World} {g : Nat} : ∀ (n : Nat) {f : Fo H L} {o : Nat}, RdFo k pre hd pl w f g o → RdFo k pre hd pl w (f.drop n) g (o + n * (pre + k))
  | 0, f, o, h => by rw [Nat.zero_mul, Nat.add_zero]; exact h
  | n + 1, .nil, o, h => trivial
  | n + 1, .cons l x kids r, o, h => by
    have := RdFo.drop n (f := r) h.2
    rw [show o + (n + 1) * (pre + k) = o + (pre + k) + n * (pre + k) by rw [Nat.add_mul]; omega]
    exact this
/-- The part at an index: its cells, what it is. -/
theorem RdSl.at_ {w : World} {v : Value} {f : Fo H L} (h : RdSl k pre hd pl w v f) {c : Nat} {A : Option Addr} {n : Nat} (hv : v = .slice A n c) {i : Nat} {l : L} {x : H} {kids rest : Fo H L} (e : f.drop i = .cons l x kids rest) :
    ∃ g o, A = some ⟨g, o, none⟩ ∧ g < w.heap.size ∧ ∃ ps ts : List Value, ps.length = pre ∧ (∀ j v, (ps ++ ts)[j]? = some v → w.cell? ⟨g, o + i * (pre + k) + j, none⟩ = some v) ∧ pl w ps l ∧ RdNd k pre hd pl w ts x kids := by
  obtain ⟨A', c', rfl, -, hs⟩ := h
  simp only [Value.slice.injEq] at hv
  obtain ⟨rfl, -, -⟩ := hv
  have hp : 0 < f.len := by
    have := Fo.drop_len i f
    rw [e] at this
    simp only [Fo.len] at this
    omega
  obtain ⟨g, o, rfl, hg, hf⟩ := hs hp
  have := hf.drop i
  rw [e] at this
  exact ⟨g, o, rfl, hg, this.first.1⟩
end
end Go.Proofs.YtbochlbgjnmgjaaGreat

/- Layer 15: types in memory: read, kept, opened as an argument. -/
set_option maxRecDepth 100000
set_option linter.unusedVariables false
namespace Go.Proofs.YtbochlbgjnmgjaaGreat.Kin
open Go.RowKit Go.Lib Go.Deep Go.ChangeShapes Go.WideShapes Go.Proofs.YtbochlbgjnmgjaaGreat.Nam Go.Proofs.YtbochlbgjnmgjaaGreat.Lat

/-- The cells of a type: what stands at it; its slice of parts. -/
def hdT (w : World) (cs : List Value) (h : TH) (v : Value) : Prop :=
  ∃ nv, cs = [.int .i64 h.kind, .int .i64 h.at_, .int .i64 h.lo, .int .i64 h.hi, .int .i64 h.most, nv, v, .string h.name, .int .i64 h.nat] ∧ RdW w nv h.names
/-- The cells of a part ahead of its type. -/
def plT (w : World) (cs : List Value) (p : PH) : Prop :=
  ∃ lv cv, cs = [.string p.name, .int .i64 p.at_, .bool p.bare, lv, .int .i64 p.wide, .int .i64 p.ck, .int .i64 p.cn, .int .i64 p.cat, cv] ∧ RdW w lv p.label ∧ RdW w cv p.cl
theorem hdT.kp {w w' : World} {cs : List Value} {h : TH} {v : Value} (q : Kp w w') (x : hdT w cs h v) : hdT w' cs h v := by
  obtain ⟨nv, e, r⟩ := x
  exact ⟨nv, e, r.kp q⟩
theorem plT.kp {w w' : World} {cs : List Value} {p : PH} (q : Kp w w') (x : plT w cs p) : plT w' cs p := by
  obtain ⟨lv, cv, e, r, s⟩ := x
  exact ⟨lv, cv, e, r.kp q, s.kp q⟩
abbrev RdP (w : World) (v : Value) (f : Ft) : Prop := RdSl 9 9 hdT plT w v f
/-- A type as a value: its names and its parts are slices. -/
abbrev tyV (h : TH) (nv pv : Value) : Value := .agg #[.int .i64 h.kind, .int .i64 h.at_, .int .i64 h.lo, .int .i64 h.hi, .int .i64 h.most, nv, pv, .string h.name, .int .i64 h.nat]
structure RdY (w : World) (h : TH) (f : Ft) (nv pv : Value) : Prop where
  n : RdW w nv h.names
  p : RdP w pv f
theorem RdY.kp {w w' : World} {h : TH} {f : Ft} {nv pv : Value} (q : Kp w w') (x : RdY w h f nv pv) : RdY w' h f nv pv := ⟨x.n.kp q, RdSl.kp (hd := hdT) (pl := plT) (fun _ _ _ _ _ q h => hdT.kp q h) (fun _ _ _ _ q h => plT.kp q h) q x.p⟩
theorem RdY.below {w w' : World} {h : TH} {f : Ft} {nv pv : Value} (x : RdY w h f nv pv) (b : Below w.heap.size w w') : RdY w' h f nv pv := x.kp (Kp.of_below b)
theorem RdY.node {w : World} {h : TH} {f : Ft} {ts : List Value} (x : RdNd 9 9 hdT plT w ts h f) : ∃ nv pv, ts = [.int .i64 h.kind, .int .i64 h.at_, .int .i64 h.lo, .int .i64 h.hi, .int .i64 h.most, nv, pv, .string h.name, .int .i64 h.nat] ∧ RdY w h f nv pv := by
  obtain ⟨-, v, ⟨nv, e, r⟩, s⟩ := x
  exact ⟨nv, v, e, r, s⟩
/-- A part that stands at an index. -/
theorem RdP.part {w : World} {A : Option Addr} {n c : Nat} {f : Ft} (h : RdP w (.slice A n c) f) {i : Nat} {p : PH} {x : TH} {kids rest : Ft} (e : f.drop i = .cons p x kids rest) :
    ∃ g o lv cv nv pv, A = some ⟨g, o, none⟩ ∧ g < w.heap.size ∧ RdW w lv p.label ∧ RdW w cv p.cl ∧ RdY w x kids nv pv ∧
      ∀ j v, [Value.string p.name, .int .i64 p.at_, .bool p.bare, lv, .int .i64 p.wide, .int .i64 p.ck, .int .i64 p.cn, .int .i64 p.cat, cv, .int .i64 x.kind, .int .i64 x.at_, .int .i64 x.lo, .int .i64 x.hi, .int .i64 x.most, nv, pv, .string x.name, .int .i64 x.nat][j]? = some v → w.cell? ⟨g, o + i * 18 + j, none⟩ = some v := by
  obtain ⟨g, o, rfl, hg, ps, ts, -, hc, ⟨lv, cv, rfl, hl, hv⟩, hn⟩ := h.at_ rfl e
  obtain ⟨nv, pv, rfl, hy⟩ := RdY.node hn
  exact ⟨g, o, lv, cv, nv, pv, rfl, hg, hl, hv, hy, hc⟩
theorem RdP.sl {w : World} {v : Value} {f : Ft} (h : RdP w v f) : ∃ A c, v = .slice A f.len c ∧ f.len ≤ c := by
  obtain ⟨A, c, e, hn, -⟩ := h
  exact ⟨A, c, e, hn⟩
def I64 (x : Int) : Prop := -9223372036854775808 ≤ x ∧ x ≤ 9223372036854775807
def GoodH (h : TH) : Prop := I64 h.kind ∧ I64 h.at_ ∧ I64 h.lo ∧ I64 h.hi ∧ I64 h.most ∧ (∀ x ∈ h.names, GoodW x) ∧ h.name.size ≤ maxLen ∧ I64 h.nat ∧ h.names.length ≤ maxLen
def GoodL (p : PH) : Prop := p.name.size ≤ maxLen ∧ I64 p.at_ ∧ (∀ x ∈ p.label, GoodW x) ∧ I64 p.wide ∧ I64 p.ck ∧ I64 p.cn ∧ I64 p.cat ∧ (∀ x ∈ p.cl, GoodW x) ∧ p.label.length ≤ maxLen ∧ p.cl.length ≤ maxLen
section
variable {G : Type} {enc' : TypeId × Value → G} {W : World} {bs : Nat}
end
/-- A type that came in: what stands at it, its parts; its two slices. -/
abbrev Ty := TH × Ft × Value × Value
end Go.Proofs.YtbochlbgjnmgjaaGreat.Kin
