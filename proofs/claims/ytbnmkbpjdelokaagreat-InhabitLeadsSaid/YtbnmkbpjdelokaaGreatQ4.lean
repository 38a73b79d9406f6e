import Derived.Test.YtbnmkbpjdelokaaGreatQ3
import Derived.Laws.Tables
import Derived.Deep.MidRow
import Derived.BigFrame
import Derived.Test.YtbnmkbpjdelokaaGreatQ0
import Derived.Deep.Cut
set_option linter.unusedVariables false
set_option maxRecDepth 100000
set_option maxHeartbeats 4000000
namespace Go.Proofs.YtbnmkbpjdelokaaGreat
open Go.RowKit Go.Lib
abbrev ptA (B : Nat) : Value := .pointer (some ⟨B, 0, none⟩)
theorem wpQuiet_load {P : Program} {ops : Array Oper} {C : World → Prop} {Q : Act → Prop} {a : Act} {o : Oper} {rest : List Oper} (hg : o.guard = none) (ty : TypeId) (x : Operand) (ho : o.op = .load ty x) (b off : Nat) (hx : a.eval x = .pointer (some ⟨b, off, none⟩))
    (cs : List Value) (d : TypeDesc) (hc : ∀ w, C w → w.rangeAt b off cs) (hu : P.underlying ty = some d) (hd : d.isRow = true) (hi : (P.info? ty).map (·.size) = some cs.length) (h : wpQuiet P ops C Q rest (a.put o.dst (.agg cs.toArray))) : wpQuiet P ops C Q (o :: rest) a := by
  unfold wpQuiet
  rw [if_pos (by simp [Region.wanted, hg])]
  refine ⟨_, fun w hw => ?_, h⟩
  unfold Oper.quietAt execOp
  simp only [ho, hx, Instr.loadAt, Instr.sureAddr, Sem.run_bind, Sem.run_pure, Result.andThen_ok, run_loadVar_mid w b off ty cs d (hc w hw) hu hd hi]
  simp [Oper.quietUpon]
theorem wpList_load_g {P : Program} {ops : Array Oper} {rest : List Oper} {op : Oper} {a : Act} {w : World} {Q : Exit → Act → World → Prop} (hw : Region.wanted op (yielded ops a.tmps) = true) (ty : TypeId) (x : Operand) (ho : op.op = .load ty x) (b o : Nat) (hx : a.eval x = .pointer (some ⟨b, o, none⟩))
    (cs : List Value) (d : TypeDesc) (hc : w.rangeAt b o cs) (hu : P.underlying ty = some d) (hd : d.isRow = true) (hi : (P.info? ty).map (·.size) = some cs.length) (h : wpList P ops Q rest (a.put op.dst (.agg cs.toArray)) w) : wpList P ops Q (op :: rest) a w :=
  BigFrame.wpList_want hw fun _ hK => wp_load_mid ty x ho b o hx cs d hc hu hd hi (hK _ _ h)
section
variable {P : Program} {md : Region.Mode} {ops : Array Oper} {Q : Exit → Act → World → Prop} {C : World → Prop}
def TwoK (Q : Exit → Act → World → Prop) (w : World) (T : TypeId) (z : Array Value) (d1 d2 n1 n2 : Tmp) (b : Act) : Prop := ∃ c1 c2 : Array Value,
  (z.size = c1.size ∧ c1.all (·.oneCell') = true) ∧ (z.size = c2.size ∧ c2.all (·.oneCell') = true) ∧
  (∀ p, (b.put (some d1) p).eval (.tmp d1) = p ∧ (b.put (some d1) p).eval (.tmp n1) = .agg c1) ∧ (∀ q, (b.put (some d2) q).eval (.tmp d2) = q ∧ (b.put (some d2) q).eval (.tmp n2) = .agg c2) ∧
  (∀ p q, ((b.put (some d1) p).put (some d2) q).eval (.tmp d1) = p ∧ ((b.put (some d1) p).put (some d2) q).eval (.tmp d2) = q ∧ ((b.put (some d1) p).put (some d2) q).eval (.tmp n1) = .agg c1 ∧ ((b.put (some d1) p).put (some d2) q).eval (.tmp n2) = .agg c2 ∧
    (b.put (some d2) q).put (some d1) p = (b.put (some d1) p).put (some d2) q) ∧
  ∀ B1 B2 V, w.heap.size ≤ B1 → w.heap.size ≤ B2 → B1 ≠ B2 → Below w.heap.size w V → V.heap[B1]? = some (.cells c1 T) → V.heap[B2]? = some (.cells c2 T) → Q .normal ((b.put (some d1) (ptA B1)).put (some d2) (ptA B2)) V
def twoB (md : Region.Mode) (ops : Array Oper) (l : Array Bool) (i1 i2 j1 j2 : Nat) : Bool :=
  let s := fun (l : Array Bool) (i : Nat) => l.setIfInBounds i true
  let r := fun (l : Array Bool) (ks : List Nat) => !(Region.ready md ops l).isEmpty && (Region.ready md ops l).all fun i => ks.contains i
  let n := fun (l : Array Bool) => decide (Region.ready md ops l = [])
  r l [i1, i2] && r (s l i1) [i2, j1] && r (s l i2) [i1, j2] && r (s (s l i1) i2) [j1, j2] && r (s (s l i2) i1) [j1, j2] && r (s (s l i1) j1) [i2] && r (s (s l i2) j2) [i1] &&
  r (s (s (s l i1) i2) j1) [j2] && r (s (s (s l i1) i2) j2) [j1] && r (s (s (s l i2) i1) j1) [j2] && r (s (s (s l i2) i1) j2) [j1] && r (s (s (s l i1) j1) i2) [j2] && r (s (s (s l i2) j2) i1) [j1] &&
  n (s (s (s (s l i1) i2) j1) j2) && n (s (s (s (s l i1) i2) j2) j1) && n (s (s (s (s l i2) i1) j1) j2) && n (s (s (s (s l i2) i1) j2) j1) && n (s (s (s (s l i1) j1) i2) j2) && n (s (s (s (s l i2) j2) i1) j1)
end
theorem setRow_alloc (w : World) (z c : Array Value) (T : TypeId) : (w.alloc (.cells z T)).setRow w.heap.size c = w.alloc (.cells c T) := by
  have e : ((w.alloc (.cells z T)).setRow w.heap.size c).heap = (w.alloc (.cells c T)).heap := by
    refine Array.ext_getElem? fun k => ?_
    by_cases hk : k = w.heap.size
    · subst hk
      rw [setRow_heap _ _ z c T _ (heap_alloc_new w (.cells z T)), heap_alloc_new]
    · rw [setRow_other _ _ _ _ hk]
      show (w.heap.push _)[k]? = (w.heap.push _)[k]?
      rw [Array.getElem?_push, Array.getElem?_push, if_neg hk, if_neg hk]
  unfold World.setRow at e ⊢
  simp only [World.alloc] at e ⊢
  rw [e]
theorem wpList_copy {P : Program} {ops : Array Oper} {rest : List Oper} {o s : Oper} {a : Act} {w : World} {Q : Exit → Act → World → Prop} {T : TypeId} {z : Array Value} {d n : Tmp} (c : Array Value) (p1 : o.guard = none ∧ o.dst = some d ∧ o.op = .alloc T) (q1 : s.guard = none ∧ s.dst = none ∧ s.op = .store T (.tmp d) (.tmp n))
    (hz : ∀ (ρ : Operand → Value) (W : World) (o : Oper), o.op = .alloc T → (execOp ρ o).run P W = .ok (.value (ptA W.heap.size)) (W.alloc (.cells z T))) (hi : (P.info? T).map (·.size) = some z.size) (hs : z.size = c.size ∧ c.all (·.oneCell') = true)
    (he : ∀ p, (a.put (some d) p).eval (.tmp d) = p ∧ (a.put (some d) p).eval (.tmp n) = .agg c) (h : wpList P ops Q rest (a.put (some d) (ptA w.heap.size)) (w.alloc (.cells c T))) : wpList P ops Q (o :: s :: rest) a w := by
  refine wpList_plain p1.1 fun K hK => ?_
  unfold Oper.wp
  rw [hz _ _ _ p1.2.2, Oper.upon_value, p1.2.1]
  refine hK _ _ ?_
  refine wpList_store_row q1.1 T _ _ q1.2.2 w.heap.size c (he _).1 (he _).2 T z (heap_alloc_new w _) (by rw [hi, hs.1]) hs.1 hs.2 ?_
  rw [q1.2.1, setRow_alloc]
  exact h
def twoAll (md : Region.Mode) (ops : Array Oper) (qs : List Nat) (i1 i2 j1 j2 : Nat) : Bool := match quietB md ops qs (Array.replicate ops.size false) with
  | some l => decide (qs.length + 4 = ops.size) && twoB md ops l i1 i2 j1 j2
  | none => false
end Go.Proofs.YtbnmkbpjdelokaaGreat
namespace Go.Proofs.YtbnmkbpjdelokaaGreat.Kin
open Go.RowKit Go.Lib Utf Nam Lat
abbrev tyL (h : TH) (nv pv : Value) : List Value := [.int .i64 h.kind, .int .i64 h.at_, .int .i64 h.lo, .int .i64 h.hi, .int .i64 h.most, nv, pv, .string h.name, .int .i64 h.nat]
structure TB (w : World) (B : Nat) (h : TH) (nv pv : Value) : Prop where
  lt : B < w.heap.size
  k0 : w.cell? ⟨B, 0, none⟩ = some (.int .i64 h.kind)
  k1 : w.cell? ⟨B, 1, none⟩ = some (.int .i64 h.at_)
  k2 : w.cell? ⟨B, 2, none⟩ = some (.int .i64 h.lo)
  k3 : w.cell? ⟨B, 3, none⟩ = some (.int .i64 h.hi)
  k4 : w.cell? ⟨B, 4, none⟩ = some (.int .i64 h.most)
  k5 : w.cell? ⟨B, 5, none⟩ = some nv
  k6 : w.cell? ⟨B, 6, none⟩ = some pv
  k7 : w.cell? ⟨B, 7, none⟩ = some (.string h.name)
  k8 : w.cell? ⟨B, 8, none⟩ = some (.int .i64 h.nat)
theorem TB.new (w : World) (h : TH) (nv pv : Value) (t : TypeId) : TB (w.alloc (.cells (tyL h nv pv).toArray t)) w.heap.size h nv pv := by
  have q := heap_alloc_new w (.cells (tyL h nv pv).toArray t)
  refine ⟨by simp, ?_, ?_, ?_, ?_, ?_, ?_, ?_, ?_, ?_⟩ <;> (rw [Lib.cell_of_heap q]; rfl)
theorem TB.below {w w' : World} {B : Nat} {h : TH} {nv pv : Value} (q : TB w B h nv pv) (hb : Below w.heap.size w w') : TB w' B h nv pv := by
  have k := fun j => hb.cell (p := ⟨B, j, none⟩) q.lt
  exact ⟨Nat.lt_of_lt_of_le q.lt hb.size, (k 0).trans q.k0, (k 1).trans q.k1, (k 2).trans q.k2, (k 3).trans q.k3, (k 4).trans q.k4, (k 5).trans q.k5, (k 6).trans q.k6, (k 7).trans q.k7, (k 8).trans q.k8⟩
theorem all_at {GH : TH → Prop} {GL : PH → Prop} : ∀ (n : Nat) {f : Ft} {p : PH} {x : TH} {k r : Ft}, f.All GH GL → f.drop n = .cons p x k r → GL p ∧ GH x ∧ k.len ≤ maxLen ∧ k.All GH GL
  | 0, f, p, x, k, r, a, e => by
    have e' : f = .cons p x k r := e
    rw [e'] at a
    exact ⟨a.1, a.2.1, a.2.2.1, a.2.2.2.1⟩
  | n + 1, .nil, p, x, k, r, a, e => by simp [Fo.drop] at e
  | n + 1, .cons _ _ _ f, p, x, k, r, a, e => all_at n (f := f) a.2.2.2.2 e
theorem sameF_len : ∀ {f g : Ft}, sameF f g = true → f.len = g.len
  | .nil, .nil, _ => rfl
  | .cons .., .cons .., h => by
    unfold sameF at h
    rw [Bool.and_eq_true] at h
    simp [Fo.len, sameF_len h.2]
  | .nil, .cons .., h => by simp [sameF] at h
  | .cons .., .nil, h => by simp [sameF] at h
theorem part_alloc (ρ : Operand → Value) (W : World) (o : Oper) (h : o.op = .alloc 78) : (execOp ρ o).run Tryz.prog W = .ok (.value (ptA W.heap.size)) (W.alloc (.cells #[.string ⟨#[]⟩, .int .i64 0, .bool false, .slice none 0 0, .int .i64 0, .int .i64 0, .int .i64 0, .int .i64 0, .slice none 0 0, .int .i64 0, .int .i64 0, .int .i64 0, .int .i64 0, .int .i64 0, .slice none 0 0, .slice none 0 0, .string ⟨#[]⟩, .int .i64 0] 78)) := by
  simp [execOp, h, go_sem, ptA]
def SameQ (f : Ft) : Prop := ∀ (h h' : TH) (g : Ft) (nv pv nv' pv' : Value) (w : World), h.names.length ≤ maxLen → f.len ≤ maxLen → f.All GoodH GoodL → RdY w h f nv pv → RdY w h' g nv' pv' → ∀ R : Ending → World → Prop,
  Hid (∀ w', Below w.heap.size w w' → R (.returned (.bool (sameS h f h' g))) w') → Calls Tryz.prog 139 #[tyV h nv pv, tyV h' nv' pv'] w R
end Go.Proofs.YtbnmkbpjdelokaaGreat.Kin
namespace Go.Proofs.YtbnmkbpjdelokaaGreat.Res
open Go.RowKit Go.Lib Utf Nam Lat Kin
abbrev FtV (x : Int × Int) : Value := .agg #[.int .i64 x.1, .int .i64 x.2]
abbrev ptL (p : PH) (x : TH) (lv cv nv pv : Value) : List Value := [.string p.name, .int .i64 p.at_, .bool p.bare, lv, .int .i64 p.wide, .int .i64 p.ck, .int .i64 p.cn, .int .i64 p.cat, cv, .int .i64 x.kind, .int .i64 x.at_, .int .i64 x.lo, .int .i64 x.hi, .int .i64 x.most, nv, pv, .string x.name, .int .i64 x.nat]
def GoodT (h : TH) (f : Ft) : Prop := GoodH h ∧ f.len ≤ maxLen ∧ f.All GoodH GoodL
section
variable {S : Type}
def inF (op : S → TH → Ft → (Int × Int) × S) : S → Ft → (Int × Int) × S
  | s, .nil => ((0, 0), s)
  | s, .cons p h k r => if p.bare then inF op s r else
      if (op s h k).1.1 ≠ 0 then op s h k else
      if (inF op (op s h k).2 k).1.1 ≠ 0 then inF op (op s h k).2 k else inF op (inF op (op s h k).2 k).2 r
def inT (op : S → TH → Ft → (Int × Int) × S) (s : S) (h : TH) (f : Ft) : (Int × Int) × S := if (op s h f).1.1 ≠ 0 then op s h f else inF op (op s h f).2 f
theorem inF_cons (op : S → TH → Ft → (Int × Int) × S) (s : S) (p : PH) (h : TH) (k r : Ft) (hb : p.bare = false) : inF op s (.cons p h k r) = if (inT op s h k).1.1 ≠ 0 then inT op s h k else inF op (inT op s h k).2 r := by
  show (if p.bare = true then _ else _) = _
  rw [hb, if_neg (by decide)]
  unfold inT
  by_cases c : (op s h k).1.1 ≠ 0
  · rw [if_pos c, if_pos c, if_pos c]
  · rw [if_neg c, if_neg c]
theorem inF_bare (op : S → TH → Ft → (Int × Int) × S) (s : S) (p : PH) (h : TH) (k r : Ft) (hb : p.bare = true) : inF op s (.cons p h k r) = inF op s r := if_pos hb
def OpQ (G : TH → Ft → Prop) (F : Fm S) (w0 : World) (fn : FuncId) (bv : Value) (op : S → TH → Ft → (Int × Int) × S) : Prop := ∀ (s : S) (h : TH) (f : Ft) (nv pv : Value) (V : World), F.Inv V s → Below w0.heap.size w0 V → RdY w0 h f nv pv → G h f → ∀ R : Ending → World → Prop,
  Hid (∀ W, Hq F s (op s h f).2 V W [] → R (.returned (FtV (op s h f).1)) W) → Calls Tryz.prog fn #[bv, tyV h nv pv] V R
def IsF (k : FuncId) : Prop := ∀ (args : Array Value) (w : World), (callFunc k args).run Tryz.prog w = .ok (.enter k args) w
end
section
variable {S : Type} (G : TH → Ft → Prop) (F : Fm S) (w0 : World) (fn : FuncId) (bv : Value) (op : S → TH → Ft → (Int × Int) × S)
def WithQ (f : Ft) : Prop := ∀ (s : S) (h : TH) (nv pv : Value) (w : World), F.Inv w s → Below w0.heap.size w0 w → RdY w0 h f nv pv → G h f → ∀ R : Ending → World → Prop,
  Hid (∀ W, Hq F s (inT op s h f).2 w W [] → R (.returned (FtV (inT op s h f).1)) W) → Calls Tryz.prog 131 #[tyV h nv pv, .func (.func fn) #[bv] #[]] w R
theorem within_step (hG1 : ∀ h f, G h f → GoodT h f) (hG2 : ∀ h f K p x kd r, G h f → f.drop K = .cons p x kd r → p.bare = false → G x kd) (hF : ∀ s k, F.Fr s k → w0.heap.size ≤ k) (hfn : IsF fn) (hop : OpQ G F w0 fn bv op) (f : Ft) (ih : Fo.AllK (WithQ G F w0 fn bv op) f) : WithQ G F w0 fn bv op f := by
  intro s h nv pv w hI hb hy hg R hR
  have hw := hb.size
  have hGG := hg
  obtain ⟨gh, hfl, hga⟩ := hG1 _ _ hg
  replace hfl : f.len ≤ 9223372036854775807 := hfl
  obtain ⟨An, cn, rfl, -, -⟩ := hy.n.op
  obtain ⟨Ap, cp, rfl, hpl⟩ := hy.p.sl
  have m0 := Hq.nil hI
  obtain ⟨V1, e1, m1, z1⟩ := m0.new (.cells (tyL h (.slice An h.names.length cn) (.slice Ap f.len cp)).toArray 29)
  obtain ⟨V, e2, n, z2⟩ := m1.new (.cells #[.int .i64 0, .int .i64 0] 37)
  clear m0 m1 z1 z2
  unfold IsF at hfn
  replace ih := Lib.hid ih
  clear hga
  have rT := n.rg 1 rfl
  have hbV := hb.trans (n.below hw (hF s))
  go_enter Tryz.func131, Tryz.ntmps131
  go_upto_region 1 with fail
  clear e1 e2
  go_wp2_with (refine wpList_load_g (by rfl) 29 _ rfl w.heap.size 0 rfl _ _ rT Tryz.underlying29 rfl (by kernel_rfl) ?_; go_simp)
  refine hop s h f _ _ V n.inv hbV hy hGG _ (Lib.hid fun W1 c1 => ?_)
  have hR' : Hid (∀ W, Hq F s (inT op s h f).2 w W [] → R (.returned (FtV (inT op s h f).1)) W) := hR
  clear hR
  unfold inT at hR'
  replace n := n.call c1
  clear c1 rT hbV hop
  generalize op s h f = a at *
  obtain ⟨⟨a0, a1⟩, s1⟩ := a
  simp only at hR' n ⊢
  obtain ⟨V2, e2, n, z2⟩ := n.new (.cells #[.int .i64 a0, .int .i64 a1] 37)
  go_upto_region 2 with fail
  clear e2 z2
  have a_0 := n.c 0 0 rfl rfl
  have a_1 := n.c 0 1 rfl rfl
  by_cases h0 : a0 = 0
  · subst h0
    rw [if_neg (by decide)] at hR'
    have t6 := n.c 2 6 rfl rfl
    replace n := n.tail
    go_wp2_with fail
    clear t6 a_0 a_1
    go_loopg [19] f.len (fun g0 i wr => ∃ (K : Nat) (sK : S), i = .int .i64 K ∧ K + g0 = f.len ∧ Hid (inF op s1 f = inF op sK (f.drop K)) ∧ Hid (Hq F s sK w wr [(V1.heap.size, .cells #[.int .i64 0, .int .i64 0] 37), (w.heap.size, .cells (tyL h (.slice An h.names.length cn) (.slice Ap f.len cp)).toArray 29)]))
    case atStart => exact ⟨0, s1, rfl, by omega, Lib.hid rfl, Lib.hid n⟩
    case round =>
      clear n
      obtain ⟨K, sK, rfl, e1, e2, n⟩ := hrel
      replace n := n.out
      have hbW := hb.trans (n.below hw (hF s))
      by_cases hK : K < f.len
      · obtain ⟨p, x, kd, r, e⟩ := Fo.drop_lt hK
        obtain ⟨g, o, lv, cv, nx, px, rfl, hg, hlv, hcv, hyx, hc⟩ := hy.p.part e
        obtain ⟨A1, n1, rfl, -, -⟩ := hlv.op
        obtain ⟨A2, n2, rfl, -, -⟩ := hcv.op
        obtain ⟨A5, n5, rfl, -, -⟩ := hyx.n.op
        obtain ⟨A7, n7, rfl, -⟩ := hyx.p.sl
        have gx := hG2 h f K p x kd r hGG e
        have ihK := Lib.hid ((ih.out).at_ e)
        have d1 := Fo.drop_succ K e
        replace e2 := e2.out
        rw [e] at e2
        have i0 : (0 : Int) ≤ (K : Int) := by omega
        have i1 : (K : Int) < (f.len : Int) := by omega
        have rg : wr.rangeAt g (o + K * 18) (ptL p x (.slice A1 p.label.length n1) (.slice A2 p.cl.length n2) (.slice A5 x.names.length n5) (.slice A7 kd.len n7)) := fun j v h => (hbW.cell (p := ⟨g, o + K * 18 + j, none⟩) hg).trans (hc j v h)
        clear hc hlv hcv hg e
        obtain ⟨V3, e3, n, z3⟩ := n.new (.cells (ptL p x (.slice A1 p.label.length n1) (.slice A2 p.cl.length n2) (.slice A5 x.names.length n5) (.slice A7 kd.len n7)).toArray 78)
        go_upto_region 7 with (first | (refine wpList_load_g (by rfl) 78 _ rfl g (o + K * 18) rfl _ _ rg Tryz.underlying78 rfl (by kernel_rfl) ?_; go_simp) | (refine wpList_copy (ptL p x (.slice A1 p.label.length n1) (.slice A2 p.cl.length n2) (.slice A5 x.names.length n5) (.slice A7 kd.len n7)).toArray ⟨rfl, rfl, rfl⟩ ⟨rfl, rfl, rfl⟩ part_alloc (by kernel_rfl) ⟨rfl, by simp [Value.oneCell']⟩ (fun _ => ⟨rfl, rfl⟩) ?_; go_simp))
        clear rg e3 z3
        have u2 := n.c 0 2 rfl rfl
        have r9 : V3.rangeAt wr.heap.size 9 (tyL x (.slice A5 x.names.length n5) (.slice A7 kd.len n7)) := n.rgd 0 9 rfl
        have hbV := hb.trans (n.below hw (hF s))
        cases hbr : p.bare
        · rw [hbr] at u2
          rw [inF_cons op sK p x kd r hbr] at e2
          replace gx := gx hbr
          clear hbr
          go_wp2_with (refine wpList_load_g (by rfl) 29 _ rfl wr.heap.size 9 rfl _ _ r9 Tryz.underlying29 rfl (by kernel_rfl) ?_; go_simp)
          refine ihK.out sK x _ _ V3 n.inv hbV hyx gx _ (Lib.hid fun W4 c4 => ?_)
          replace n := (n.call c4).tail
          clear c4 r9 u2 hbV
          generalize inT op sK x kd = b at *
          obtain ⟨⟨b0, b1⟩, s4⟩ := b
          simp only at e2 n ⊢
          obtain ⟨V5, e5, n, z5⟩ := n.new (.cells #[.int .i64 b0, .int .i64 b1] 37)
          go_upto_region 9 with fail
          clear e5 z5
          have a_0 := n.c 0 0 rfl rfl
          have a_1 := n.c 0 1 rfl rfl
          by_cases h0 : b0 = 0
          · subst h0
            rw [if_neg (by decide)] at e2
            replace n := Lib.hid n.tail
            rw [← d1] at e2
            replace e2 := Lib.hid e2
            clear hR'
            go_wp2_with fail
            go_roundg (gk - 1)
            case measure => omega
            case rel => exact ⟨K + 1, s4, by go_num, by omega, e2, n⟩
          · rw [if_pos h0] at e2
            have q0 : (b0 != 0) = true := by simpa using h0
            clear h0
            rw [e2] at hR'
            go_upto_region 10 with fail
            have y0 := n.c 1 0 rfl rfl
            have yf0 := n.f 1 0 rfl
            have y1 := n.c 1 1 rfl rfl
            have yf1 := n.f 1 1 rfl
            obtain ⟨VE, eE, nE, -⟩ := n.put (j := 1) rfl [(0, .int .i64 b0), (1, .int .i64 b1)]
            simp only [stL] at eE
            simp only [stA, List.setIfInBounds_toArray, List.set_cons_succ, List.set_cons_zero] at nE
            have w0_ := nE.c 1 0 rfl rfl
            have w1_ := nE.c 1 1 rfl rfl
            have fin := Lib.hid (hR'.out _ nE.fin)
            clear nE n hR'
            go_wp2_with fail
            first | refine bodyPost_ret ?_ rfl fin.out | refine bodyPost_end ?_ rfl fin.out
            simp [results, Tryz.results131, go_sem, w0_, w1_]
        · rw [hbr] at u2
          rw [inF_bare op sK p x kd r hbr, ← d1] at e2
          replace n := Lib.hid n.tail
          replace e2 := Lib.hid e2
          clear hR' r9 hbV hbr
          go_wp2_with fail
          go_roundg (gk - 1)
          case measure => omega
          case rel => exact ⟨K + 1, sK, by go_num, by omega, e2, n⟩
      · obtain rfl : K = f.len := by omega
        replace e2 := e2.out
        rw [Fo.drop_all (Nat.le_refl _)] at e2
        replace e2 : inF op s1 f = ((0, 0), sK) := e2
        rw [e2] at hR'
        clear e2
        have y0 := n.c 0 0 rfl rfl
        have yf0 := n.f 0 0 rfl
        have y1 := n.c 0 1 rfl rfl
        have yf1 := n.f 0 1 rfl
        obtain ⟨VE, eE, nE, -⟩ := n.put (j := 0) rfl [(0, .int .i64 0), (1, .int .i64 0)]
        simp only [stL] at eE
        simp only [stA, List.setIfInBounds_toArray, List.set_cons_succ, List.set_cons_zero] at nE
        have w0_ := nE.c 0 0 rfl rfl
        have w1_ := nE.c 0 1 rfl rfl
        have fin := Lib.hid (hR'.out _ nE.fin)
        clear nE n hR'
        go_wp2_with fail
        first | refine bodyPost_ret ?_ rfl fin.out | refine bodyPost_end ?_ rfl fin.out
        simp [results, Tryz.results131, go_sem, w0_, w1_]
  · rw [if_pos h0] at hR'
    have q0 : (a0 != 0) = true := by simpa using h0
    clear h0
    go_upto_region 3 with fail
    have y0 := n.c 1 0 rfl rfl
    have yf0 := n.f 1 0 rfl
    have y1 := n.c 1 1 rfl rfl
    have yf1 := n.f 1 1 rfl
    obtain ⟨VE, eE, nE, -⟩ := n.put (j := 1) rfl [(0, .int .i64 a0), (1, .int .i64 a1)]
    simp only [stL] at eE
    simp only [stA, List.setIfInBounds_toArray, List.set_cons_succ, List.set_cons_zero] at nE
    have w0_ := nE.c 1 0 rfl rfl
    have w1_ := nE.c 1 1 rfl rfl
    have fin := Lib.hid (hR'.out _ nE.fin)
    clear nE n hR'
    go_wp2_with fail
    first | refine bodyPost_ret ?_ rfl fin.out | refine bodyPost_end ?_ rfl fin.out
    simp [results, Tryz.results131, go_sem, w0_, w1_]
theorem within_calls (hG1 : ∀ h f, G h f → GoodT h f) (hG2 : ∀ h f K p x kd r, G h f → f.drop K = .cons p x kd r → p.bare = false → G x kd) (hF : ∀ s k, F.Fr s k → w0.heap.size ≤ k) (hfn : IsF fn) (hop : OpQ G F w0 fn bv op) (f : Ft) : WithQ G F w0 fn bv op f :=
  Fo.deep (within_step G F w0 fn bv op hG1 hG2 hF hfn hop) f
end
end Go.Proofs.YtbnmkbpjdelokaaGreat.Res
