import Derived.Test.YtncijmodlhijoaaGreatQ9
import Derived.Laws.Tables
import Derived.Deep.MidRow
import Derived.BigFrame
import Derived.StillTailTactics
import Derived.Deep.Cut
set_option linter.unusedVariables false
set_option maxRecDepth 100000
set_option maxHeartbeats 4000000
namespace Go.Proofs.YtncijmodlhijoaaGreat
open Go.RowKit Go.Lib
abbrev ptA (B : Nat) : Value := .pointer (some ⟨B, 0, none⟩)
theorem wpQuiet_load {P : Program} {ops : Array Oper} {C : World → Prop} {Q : Act → Prop} {a : Act} {o : Oper} {rest : List Oper} (hg : o.guard = none) (ty : TypeId) (x : Operand) (ho : o.op = .load ty x) (b off : Nat) (hx : a.eval x = .pointer (some ⟨b, off, none⟩))
  (cs : List Value) (d : TypeDesc) (hc : ∀ w, C w → w.rangeAt b off cs) (hu : P.underlying ty = some d) (hd : d.isRow = true) (hi : (P.info? ty).map (·.size) = some cs.length) (h : wpQuiet P ops C Q rest (a.put o.dst (.agg cs.toArray))) : wpQuiet P ops C Q (o :: rest) a := by
 unfold wpQuiet
 rw [if_pos (by simp [Region.wanted, hg])]
 refine ⟨_, fun w hw => ?_, h⟩
 unfold Oper.quietAt execOp
 simp only [ho, hx, Instr.loadAt, Instr.sureAddr, Sem.run_bind, Sem.run_pure, Result.andThen_ok, run_loadVar_mid w b off ty cs d (hc w hw) hu hd hi]
 simp [Oper.quietUpon]
theorem wpList_load_g {P : Program} {ops : Array Oper} {rest : List Oper} {op : Oper} {a : Act} {w : World} {Q : Exit → Act → World → Prop} (hw : Region.wanted op (yielded ops a.tmps) = true) (ty : TypeId) (x : Operand) (ho : op.op = .load ty x) (b o : Nat) (hx : a.eval x = .pointer (some ⟨b, o, none⟩))
  (cs : List Value) (d : TypeDesc) (hc : w.rangeAt b o cs) (hu : P.underlying ty = some d) (hd : d.isRow = true) (hi : (P.info? ty).map (·.size) = some cs.length) (h : wpList P ops Q rest (a.put op.dst (.agg cs.toArray)) w) : wpList P ops Q (op :: rest) a w :=
 BigFrame.wpList_want hw fun _ hK => wp_load_mid ty x ho b o hx cs d hc hu hd hi (hK _ _ h)
section
variable {P : Program} {md : Region.Mode} {ops : Array Oper} {Q : Exit → Act → World → Prop} {C : World → Prop}
theorem anyC_fork {f : Nat} {l : Array Bool} {a : Act} {W : World} {ks : List Nat} (hr : (!(Region.ready md ops l).isEmpty && (Region.ready md ops l).all fun i => ks.contains i) = true) (h : ∀ i ∈ ks, wpOp P ops Q i (fun b w' => C w' ∧ anyC P md ops C Q f (l.setIfInBounds i true) b w') a W) : anyC P md ops C Q (f + 1) l a W := by
 rw [Bool.and_eq_true, List.all_eq_true] at hr
 exact ⟨fun e => (by rw [e] at hr; simp at hr), fun i hi => h i (by simpa using hr.2 i hi)⟩
theorem wpOp_run {i : Nat} {o : Oper} {a : Act} {W : World} {K : Act → World → Prop} (e : ops[i]? = some o) (hg : o.guard = none) (h : o.wp P a W K Q) : wpOp P ops Q i K a W := by
 unfold wpOp
 rw [e]
 simp only
 rw [if_pos (by simp [Region.wanted, hg])]
 exact .inl h
theorem wpOp_al {i : Nat} {o : Oper} {d : Tmp} {T : TypeId} {z : Array Value} {a : Act} {W : World} {K : Act → World → Prop} (e : ops[i]? = some o) (hg : o.guard = none) (hd : o.dst = some d)
  (hz : ∀ (ρ : Operand → Value) (W : World), (execOp ρ o).run P W = .ok (.value (ptA W.heap.size)) (W.alloc (.cells z T))) (h : K (a.put (some d) (ptA W.heap.size)) (W.alloc (.cells z T))) : wpOp P ops Q i K a W :=
 wpOp_run e hg (by unfold Oper.wp; rw [hz, Oper.upon_value, hd]; exact h)
theorem wpOp_st {j : Nat} {s : Oper} {x y : Operand} {T : TypeId} {z c : Array Value} {a : Act} {W : World} {K : Act → World → Prop} {B : Nat} (e : ops[j]? = some s) (hg : s.guard = none) (hd : s.dst = none) (ho : s.op = .store T x y)
  (hi : (P.info? T).map (·.size) = some c.size) (hx : a.eval x = ptA B) (hy : a.eval y = .agg c) (hh : W.heap[B]? = some (.cells z T)) (hold : z.size = c.size) (h1 : c.all (·.oneCell') = true) (h : K a (W.setRow B c)) : wpOp P ops Q j K a W :=
 wpOp_run e hg (wp_store_row T x y ho B c hx hy T z hh hi hold h1 (by rw [hd]; exact h))
theorem below_setRow {base B : Nat} {w W : World} {c : Array Value} (hb : base ≤ B) (h : Below base w W) : Below base w (W.setRow B c) :=
 ⟨h.os, h.tape, h.output, by rw [setRow_size]; exact h.size, fun k hk => (setRow_other W B k c (by omega)).trans (h.block k hk)⟩
def TwoK (Q : Exit → Act → World → Prop) (w : World) (T : TypeId) (z : Array Value) (d1 d2 n1 n2 : Tmp) (b : Act) : Prop := ∃ c1 c2 : Array Value,
 (z.size = c1.size ∧ c1.all (·.oneCell') = true) ∧ (z.size = c2.size ∧ c2.all (·.oneCell') = true) ∧
 (∀ p, (b.put (some d1) p).eval (.tmp d1) = p ∧ (b.put (some d1) p).eval (.tmp n1) = .agg c1) ∧ (∀ q, (b.put (some d2) q).eval (.tmp d2) = q ∧ (b.put (some d2) q).eval (.tmp n2) = .agg c2) ∧
 (∀ p q, ((b.put (some d1) p).put (some d2) q).eval (.tmp d1) = p ∧ ((b.put (some d1) p).put (some d2) q).eval (.tmp d2) = q ∧ ((b.put (some d1) p).put (some d2) q).eval (.tmp n1) = .agg c1 ∧ ((b.put (some d1) p).put (some d2) q).eval (.tmp n2) = .agg c2 ∧
  (b.put (some d2) q).put (some d1) p = (b.put (some d1) p).put (some d2) q) ∧
 ∀ B1 B2 V, w.heap.size ≤ B1 → w.heap.size ≤ B2 → B1 ≠ B2 → Below w.heap.size w V → V.heap[B1]? = some (.cells c1 T) → V.heap[B2]? = some (.cells c2 T) → Q .normal ((b.put (some d1) (ptA B1)).put (some d2) (ptA B2)) V
def twoB (md : Region.Mode) (ops : Array Oper) (l : Array Bool) (i1 i2 j1 j2 : Nat) : Bool :=
 let s := fun (l : Array Bool) (i : Nat) => l.setIfInBounds i true
 let r := fun (l : Array Bool) (ks : List Nat) => !(Region.ready md ops l).isEmpty && (Region.ready md ops l).all fun i => ks.contains i
 let n := fun (l : Array Bool) => decide (Region.ready md ops l = [])
 r l [i1, i2] && r (s l i1) [i2, j1] && r (s l i2) [i1, j2] && r (s (s l i1) i2) [j1, j2] && r (s (s l i2) i1) [j1, j2] && r (s (s l i1) j1) [i2] && r (s (s l i2) j2) [i1] &&
 r (s (s (s l i1) i2) j1) [j2] && r (s (s (s l i1) i2) j2) [j1] && r (s (s (s l i2) i1) j1) [j2] && r (s (s (s l i2) i1) j2) [j1] && r (s (s (s l i1) j1) i2) [j2] && r (s (s (s l i2) j2) i1) [j1] &&
 n (s (s (s (s l i1) i2) j1) j2) && n (s (s (s (s l i1) i2) j2) j1) && n (s (s (s (s l i2) i1) j1) j2) && n (s (s (s (s l i2) i1) j2) j1) && n (s (s (s (s l i1) j1) i2) j2) && n (s (s (s (s l i2) j2) i1) j1)
theorem two_tail {i1 i2 j1 j2 : Nat} {o1 o2 s1 s2 : Oper} {d1 d2 n1 n2 : Tmp} {T : TypeId} {z : Array Value} {l : Array Bool} {b : Act} {w W : World} (hB : twoB md ops l i1 i2 j1 j2 = true)
  (e1 : ops[i1]? = some o1) (e2 : ops[i2]? = some o2) (f1 : ops[j1]? = some s1) (f2 : ops[j2]? = some s2) (p1 : o1.guard = none ∧ o1.dst = some d1) (p2 : o2.guard = none ∧ o2.dst = some d2)
  (q1 : s1.guard = none ∧ s1.dst = none ∧ s1.op = .store T (.tmp d1) (.tmp n1)) (q2 : s2.guard = none ∧ s2.dst = none ∧ s2.op = .store T (.tmp d2) (.tmp n2))
  (z1 : ∀ (ρ : Operand → Value) (W : World), (execOp ρ o1).run P W = .ok (.value (ptA W.heap.size)) (W.alloc (.cells z T))) (z2 : ∀ (ρ : Operand → Value) (W : World), (execOp ρ o2).run P W = .ok (.value (ptA W.heap.size)) (W.alloc (.cells z T)))
  (hi : (P.info? T).map (·.size) = some z.size) (hW : Below w.heap.size w W) (hK : TwoK Q w T z d1 d2 n1 n2 b) : anyC P md ops (fun w' => ∃ x : BW w, w' = x.w) Q 4 l b W := by
 obtain ⟨c1, c2, ⟨k1, k1'⟩, ⟨k2, k2'⟩, h1, h2, h12, fin⟩ := hK
 unfold twoB at hB
 rw [Bool.and_eq_true, Bool.and_eq_true, Bool.and_eq_true, Bool.and_eq_true, Bool.and_eq_true, Bool.and_eq_true, Bool.and_eq_true, Bool.and_eq_true, Bool.and_eq_true, Bool.and_eq_true, Bool.and_eq_true, Bool.and_eq_true, Bool.and_eq_true, Bool.and_eq_true, Bool.and_eq_true, Bool.and_eq_true, Bool.and_eq_true, Bool.and_eq_true] at hB
 obtain ⟨⟨⟨⟨⟨⟨⟨⟨⟨⟨⟨⟨⟨⟨⟨⟨⟨⟨r0, r1⟩, r2⟩, r12⟩, r21⟩, r1j⟩, r2j⟩, ra1⟩, ra2⟩, rb1⟩, rb2⟩, rc⟩, rd⟩, t1⟩, t2⟩, t3⟩, t4⟩, t5⟩, t6⟩ := hB
 have hi1 : (P.info? T).map (·.size) = some c1.size := by rw [hi, k1]
 have hi2 : (P.info? T).map (·.size) = some c2.size := by rw [hi, k2]
 have cin : ∀ V, Below w.heap.size w V → ∃ x : BW w, V = x.w := fun V h => ⟨⟨V, h⟩, rfl⟩
 have sz : ∀ (V : World) (o : Obj), (V.alloc o).heap.size = V.heap.size + 1 := fun V o => by simp
 have lo : ∀ (V : World) (o : Obj) (k : Nat), k < V.heap.size → (V.alloc o).heap[k]? = V.heap[k]? := fun V o k h => ((Below.refl V.heap.size V).alloc (Nat.le_refl _) o).block k h
 have s0 := hW.size
 have bz : ∀ V, Below w.heap.size w V → Below w.heap.size w (V.alloc (.cells z T)) := fun V h => h.alloc h.size _
 have e0 := heap_alloc_new W (.cells z T)
 refine anyC_fork r0 fun i hi' => ?_
 rcases List.mem_cons.1 hi' with rfl | hi'
 ·
  refine wpOp_al e1 p1.1 p1.2 z1 ⟨cin _ (bz W hW), ?_⟩
  refine anyC_fork r1 fun i hi' => ?_
  rcases List.mem_cons.1 hi' with rfl | hi'
  ·refine wpOp_al e2 p2.1 p2.2 z2 ⟨cin _ (bz _ (bz W hW)), ?_⟩
   have g1 := (lo (W.alloc (.cells z T)) (.cells z T) W.heap.size (by rw [sz]; omega)).trans e0
   have g2 := heap_alloc_new (W.alloc (.cells z T)) (.cells z T)
   rw [sz] at g2 ⊢
   have bb := bz _ (bz W hW)
   generalize (W.alloc (.cells z T)).alloc (.cells z T) = V at *
   refine anyC_fork r12 fun i hi' => ?_
   rcases List.mem_cons.1 hi' with rfl | hi'
   ·refine wpOp_st f1 q1.1 q1.2.1 q1.2.2 hi1 (h12 _ _).1 (h12 _ _).2.2.1 g1 k1 k1' ⟨cin _ (below_setRow s0 bb), ?_⟩
    refine anyC_fork ra1 fun i hi' => ?_
    obtain rfl := List.mem_singleton.1 hi'
    refine wpOp_st f2 q2.1 q2.2.1 q2.2.2 hi2 (h12 _ _).2.1 (h12 _ _).2.2.2.1 ((setRow_other V _ _ c1 (by omega)).trans g2) k2 k2' ⟨cin _ (below_setRow (by omega) (below_setRow s0 bb)), of_decide_eq_true t1, ?_⟩
    exact fin _ _ _ s0 (by omega) (by omega) (below_setRow (by omega) (below_setRow s0 bb)) ((setRow_other _ _ _ c2 (by omega)).trans (setRow_heap V _ z c1 T _ g1)) (setRow_heap _ _ z c2 T _ ((setRow_other V _ _ c1 (by omega)).trans g2))
   ·obtain rfl := List.mem_singleton.1 hi'
    refine wpOp_st f2 q2.1 q2.2.1 q2.2.2 hi2 (h12 _ _).2.1 (h12 _ _).2.2.2.1 g2 k2 k2' ⟨cin _ (below_setRow (by omega) bb), ?_⟩
    refine anyC_fork ra2 fun i hi' => ?_
    obtain rfl := List.mem_singleton.1 hi'
    refine wpOp_st f1 q1.1 q1.2.1 q1.2.2 hi1 (h12 _ _).1 (h12 _ _).2.2.1 ((setRow_other V _ _ c2 (by omega)).trans g1) k1 k1' ⟨cin _ (below_setRow s0 (below_setRow (by omega) bb)), of_decide_eq_true t2, ?_⟩
    exact fin _ _ _ s0 (by omega) (by omega) (below_setRow s0 (below_setRow (by omega) bb)) (setRow_heap _ _ z c1 T _ ((setRow_other V _ _ c2 (by omega)).trans g1)) ((setRow_other _ _ _ c1 (by omega)).trans (setRow_heap V _ z c2 T _ g2))
  ·obtain rfl := List.mem_singleton.1 hi'
   have bb := bz W hW
   have zz := sz W (.cells z T)
   generalize W.alloc (.cells z T) = V at *
   have g1 := setRow_heap V _ z c1 T _ e0
   refine wpOp_st f1 q1.1 q1.2.1 q1.2.2 hi1 (h1 _).1 (h1 _).2 e0 k1 k1' ⟨cin _ (below_setRow s0 bb), ?_⟩
   have bc := below_setRow (c := c1) s0 bb
   have zc : (V.setRow W.heap.size c1).heap.size = W.heap.size + 1 := by rw [setRow_size, zz]
   generalize V.setRow W.heap.size c1 = U at *
   refine anyC_fork r1j fun i hi' => ?_
   obtain rfl := List.mem_singleton.1 hi'
   refine wpOp_al e2 p2.1 p2.2 z2 ⟨cin _ (bz _ bc), ?_⟩
   have g3 := (lo U (.cells z T) W.heap.size (by omega)).trans g1
   have g2 := heap_alloc_new U (.cells z T)
   have bd := bz _ bc
   rw [zc] at g2 ⊢
   generalize U.alloc (.cells z T) = X at *
   refine anyC_fork rc fun i hi' => ?_
   obtain rfl := List.mem_singleton.1 hi'
   refine wpOp_st f2 q2.1 q2.2.1 q2.2.2 hi2 (h12 _ _).2.1 (h12 _ _).2.2.2.1 g2 k2 k2' ⟨cin _ (below_setRow (by omega) bd), of_decide_eq_true t5, ?_⟩
   exact fin _ _ _ s0 (by omega) (by omega) (below_setRow (by omega) bd) ((setRow_other X _ _ c2 (by omega)).trans g3) (setRow_heap X _ z c2 T _ g2)
 ·obtain rfl := List.mem_singleton.1 hi'
  refine wpOp_al e2 p2.1 p2.2 z2 ⟨cin _ (bz W hW), ?_⟩
  refine anyC_fork r2 fun i hi' => ?_
  rcases List.mem_cons.1 hi' with rfl | hi'
  ·refine wpOp_al e1 p1.1 p1.2 z1 ⟨cin _ (bz _ (bz W hW)), ?_⟩
   rw [(h12 _ _).2.2.2.2]
   have g2 := (lo (W.alloc (.cells z T)) (.cells z T) W.heap.size (by rw [sz]; omega)).trans e0
   have g1 := heap_alloc_new (W.alloc (.cells z T)) (.cells z T)
   rw [sz] at g1 ⊢
   have bb := bz _ (bz W hW)
   generalize (W.alloc (.cells z T)).alloc (.cells z T) = V at *
   refine anyC_fork r21 fun i hi' => ?_
   rcases List.mem_cons.1 hi' with rfl | hi'
   ·refine wpOp_st f1 q1.1 q1.2.1 q1.2.2 hi1 (h12 _ _).1 (h12 _ _).2.2.1 g1 k1 k1' ⟨cin _ (below_setRow (by omega) bb), ?_⟩
    refine anyC_fork rb1 fun i hi' => ?_
    obtain rfl := List.mem_singleton.1 hi'
    refine wpOp_st f2 q2.1 q2.2.1 q2.2.2 hi2 (h12 _ _).2.1 (h12 _ _).2.2.2.1 ((setRow_other V _ _ c1 (by omega)).trans g2) k2 k2' ⟨cin _ (below_setRow s0 (below_setRow (by omega) bb)), of_decide_eq_true t3, ?_⟩
    exact fin _ _ _ (by omega) s0 (by omega) (below_setRow s0 (below_setRow (by omega) bb)) ((setRow_other _ _ _ c2 (by omega)).trans (setRow_heap V _ z c1 T _ g1)) (setRow_heap _ _ z c2 T _ ((setRow_other V _ _ c1 (by omega)).trans g2))
   ·obtain rfl := List.mem_singleton.1 hi'
    refine wpOp_st f2 q2.1 q2.2.1 q2.2.2 hi2 (h12 _ _).2.1 (h12 _ _).2.2.2.1 g2 k2 k2' ⟨cin _ (below_setRow s0 bb), ?_⟩
    refine anyC_fork rb2 fun i hi' => ?_
    obtain rfl := List.mem_singleton.1 hi'
    refine wpOp_st f1 q1.1 q1.2.1 q1.2.2 hi1 (h12 _ _).1 (h12 _ _).2.2.1 ((setRow_other V _ _ c2 (by omega)).trans g1) k1 k1' ⟨cin _ (below_setRow (by omega) (below_setRow s0 bb)), of_decide_eq_true t4, ?_⟩
    exact fin _ _ _ (by omega) s0 (by omega) (below_setRow (by omega) (below_setRow s0 bb)) (setRow_heap _ _ z c1 T _ ((setRow_other V _ _ c2 (by omega)).trans g1)) ((setRow_other _ _ _ c1 (by omega)).trans (setRow_heap V _ z c2 T _ g2))
  ·obtain rfl := List.mem_singleton.1 hi'
   have bb := bz W hW
   have zz := sz W (.cells z T)
   generalize W.alloc (.cells z T) = V at *
   have g2 := setRow_heap V _ z c2 T _ e0
   refine wpOp_st f2 q2.1 q2.2.1 q2.2.2 hi2 (h2 _).1 (h2 _).2 e0 k2 k2' ⟨cin _ (below_setRow s0 bb), ?_⟩
   have bc := below_setRow (c := c2) s0 bb
   have zc : (V.setRow W.heap.size c2).heap.size = W.heap.size + 1 := by rw [setRow_size, zz]
   generalize V.setRow W.heap.size c2 = U at *
   refine anyC_fork r2j fun i hi' => ?_
   obtain rfl := List.mem_singleton.1 hi'
   refine wpOp_al e1 p1.1 p1.2 z1 ⟨cin _ (bz _ bc), ?_⟩
   rw [(h12 _ _).2.2.2.2]
   have g3 := (lo U (.cells z T) W.heap.size (by omega)).trans g2
   have g1 := heap_alloc_new U (.cells z T)
   have bd := bz _ bc
   rw [zc] at g1 ⊢
   generalize U.alloc (.cells z T) = X at *
   refine anyC_fork rd fun i hi' => ?_
   obtain rfl := List.mem_singleton.1 hi'
   refine wpOp_st f1 q1.1 q1.2.1 q1.2.2 hi1 (h12 _ _).1 (h12 _ _).2.2.1 g1 k1 k1' ⟨cin _ (below_setRow (by omega) bd), of_decide_eq_true t6, ?_⟩
   exact fin _ _ _ (by omega) s0 (by omega) (below_setRow (by omega) bd) (setRow_heap X _ z c1 T _ g1) ((setRow_other X _ _ c1 (by omega)).trans g3)
end
theorem setRow_alloc (w : World) (z c : Array Value) (T : TypeId) : (w.alloc (.cells z T)).setRow w.heap.size c = w.alloc (.cells c T) := by
 have e : ((w.alloc (.cells z T)).setRow w.heap.size c).heap = (w.alloc (.cells c T)).heap := by
  refine Array.ext_getElem? fun k => ?_
  by_cases hk : k = w.heap.size
  ·subst hk
   rw [setRow_heap _ _ z c T _ (heap_alloc_new w (.cells z T)), heap_alloc_new]
  ·rw [setRow_other _ _ _ _ hk]
   show (w.heap.push _)[k]? = (w.heap.push _)[k]?
   rw [Array.getElem?_push, Array.getElem?_push, if_neg hk, if_neg hk]
 unfold World.setRow at e ⊢
 simp only [World.alloc] at e ⊢
 rw [e]
theorem wpList_copy {P : Program} {ops : Array Oper} {rest : List Oper} {o s : Oper} {a : Act} {w : World} {Q : Exit → Act → World → Prop} {T : TypeId} {z : Array Value} {d n : Tmp} (c : Array Value) (p1 : o.guard = none ∧ o.dst = some d ∧ o.op = .alloc T) (q1 : s.guard = none ∧ s.dst = none ∧ s.op = .store T (.tmp d) (.tmp n))
  (hz : ∀ (ρ : Operand → Value) (W : World) (o : Oper), o.op = .alloc T → (execOp ρ o).run P W = .ok (.value (ptA W.heap.size)) (W.alloc (.cells z T))) (hi : (P.info? T).map (·.size) = some z.size) (hs : z.size = c.size ∧ c.all (·.oneCell') = true)
  (he : ∀ p, (a.put (some d) p).eval (.tmp d) = p ∧ (a.put (some d) p).eval (.tmp n) = .agg c) (h : wpList P ops Q rest (a.put (some d) (ptA w.heap.size)) (w.alloc (.cells c T))) : wpList P ops Q (o :: s :: rest) a w := by
 refine wpList_plain p1.1 fun K hK => ?_
 unfold Oper.wp
 rw [hz _ _ _ p1.2.2, Oper.upon_value, p1.2.1]
 refine hK _ _ ?_
 refine wpList_store_row q1.1 T _ _ q1.2.2 w.heap.size c (he _).1 (he _).2 T z (heap_alloc_new w _) (by rw [hi, hs.1]) hs.1 hs.2 ?_
 rw [q1.2.1, setRow_alloc]
 exact h
def twoAll (md : Region.Mode) (ops : Array Oper) (qs : List Nat) (i1 i2 j1 j2 : Nat) : Bool := match quietB md ops qs (Array.replicate ops.size false) with
 | some l => decide (qs.length + 4 = ops.size) && twoB md ops l i1 i2 j1 j2
 | none => false
theorem wp_region_two {P : Program} {id : Nat} {Q : Exit → Act → World → Prop} {a : Act} {w : World} {l os : List Oper} (qs : List Nat) (i1 i2 j1 j2 : Nat) {o1 o2 s1 s2 : Oper} {d1 d2 n1 n2 : Tmp} {T : TypeId} {z : Array Value} (hm : P.follows .mixedOrders = true) (hs : Region.noSelect l.toArray = true)
  (hB : twoAll .any l.toArray qs i1 i2 j1 j2 = true) (hQ : ∀ c a d v w, Q (.panic c) (a.put d v) w → Q (.panic c) a w)
  (e1 : l.toArray[i1]? = some o1) (e2 : l.toArray[i2]? = some o2) (f1 : l.toArray[j1]? = some s1) (f2 : l.toArray[j2]? = some s2) (p1 : o1.guard = none ∧ o1.dst = some d1 ∧ o1.op = .alloc T) (p2 : o2.guard = none ∧ o2.dst = some d2 ∧ o2.op = .alloc T)
  (q1 : s1.guard = none ∧ s1.dst = none ∧ s1.op = .store T (.tmp d1) (.tmp n1)) (q2 : s2.guard = none ∧ s2.dst = none ∧ s2.op = .store T (.tmp d2) (.tmp n2))
  (hz : ∀ (ρ : Operand → Value) (W : World) (o : Oper), o.op = .alloc T → (execOp ρ o).run P W = .ok (.value (ptA W.heap.size)) (W.alloc (.cells z T)))
  (hi : (P.info? T).map (·.size) = some z.size) (ho : pickO l.toArray qs = os) (h : ∀ Kp : Act → Prop, (∀ b, TwoK Q w T z d1 d2 n1 n2 b → Kp b) → wpQuiet P l.toArray (fun w' => ∃ x : BW w, w' = x.w) Kp os a) : (Code.region id l.toArray true).wp P Q a w := by
 unfold twoAll at hB
 split at hB
 ·next l' hl =>
  rw [Bool.and_eq_true, decide_eq_true_iff] at hB
  have bD : Below w.heap.size w (w.drewN 1) := below_drewN (Below.refl _ _) 1
  subst ho
  have := quiet_any (C := fun w' => ∃ x : BW w, w' = x.w) (f := 4) hs hQ ⟨⟨w.drewN 1, bD⟩, rfl⟩ qs _ l' a hl (h _ fun _ h => h) fun b hb => two_tail hB.2 e1 e2 f1 f2 ⟨p1.1, p1.2.1⟩ ⟨p2.1, p2.2.1⟩ q1 q2 (fun ρ W => hz ρ W o1 p1.2.2) (fun ρ W => hz ρ W o2 p2.2.2) hi bD hb
  rw [hB.1] at this
  exact wp_region_any hm (any_of_C (C := fun w' => ∃ x : BW w, w' = x.w) _ _ _ _ this)
 ·cases hB
end Go.Proofs.YtncijmodlhijoaaGreat
namespace Go.Proofs.YtncijmodlhijoaaGreat.Syn
open Go.RowKit Go.Lib Utf Tok Cur Nam Lat Kin
theorem set5p {b q : Nat} {w W : World} (hq : b ≤ q) (n : Below b w W) (a0 a1 a2 a3 a4 : Value) : Below b w (((((W.setCell ⟨q, 0, none⟩ a0).setCell ⟨q, 1, none⟩ a1).setCell ⟨q, 2, none⟩ a2).setCell ⟨q, 3, none⟩ a3).setCell ⟨q, 4, none⟩ a4) :=
 ((((n.setCell (p := ⟨q, 0, none⟩) hq a0).setCell (p := ⟨q, 1, none⟩) hq a1).setCell (p := ⟨q, 2, none⟩) hq a2).setCell (p := ⟨q, 3, none⟩) hq a3).setCell (p := ⟨q, 4, none⟩) hq a4
theorem GWsetp {W W' : World} {p q o : Nat} (h : ∃ x : GW W p q, W' = x.w) (a : Value) : ∃ x : GW W p q, W'.setCell ⟨p, o, none⟩ a = x.w := by
 obtain ⟨⟨W', s, bl⟩, rfl⟩ := h
 exact ⟨⟨_, Nat.le_trans s ((Below.refl p W').setCell (p := ⟨p, o, none⟩) (Nat.le_refl _) a).size, fun k hk h1 h2 => (Below.heap_setCell _ ⟨p, o, none⟩ a k h1).trans (bl k hk h1 h2)⟩, rfl⟩
theorem any16_calls (p : PS) (v : Value) (w0 w : World) (hb : Below w0.heap.size w0 w) (hx : RdK w0 v p.1) (ok : Ok p) (k : Int) (R : Ending → World → Prop)
  (hR : Hid (∀ v' w', RdK w0 v' ((anyS p k).2).1 → Below w.heap.size w w' → R (.returned (.tuple #[tkV (anyS p k).1, psV v' (anyS p k).2])) w')) : Calls Tryz.prog 144 #[psV v p, .int .i64 k] w R := by
 obtain ⟨l, e, z⟩ := p
 obtain ⟨A, cp, rfl, hlc, hr⟩ := hx.op
 have hlen : 0 < l.length := List.length_pos_iff.2 (EndL.ne ok)
 obtain ⟨g, o, rfl, hg, hca⟩ := hr hlen
 obtain ⟨x0, x1, x2, x3, x4⟩ := hca 0 hlen
 rw [hd_tN (EndL.ne ok)] at x0 x1 x2 x3 x4
 simp only [Nat.zero_mul, Nat.add_zero] at x0 x1 x2 x3 x4
 have i1 : (0 : Int) < (l.length : Int) := by omega
 clear hr hca
 obtain ⟨o1_, ho1_⟩ : ∃ oO_ : Obj, oO_ = .cells #[.slice (some ⟨g, o, none⟩) l.length cp, .int .i64 e, .int .i64 z] 142 := ⟨_, rfl⟩
 have bA := (Below.refl w.heap.size w).alloc (Nat.le_refl _) o1_
 have hA := heap_alloc_new w o1_
 obtain ⟨o2_, ho2_⟩ : ∃ oO_ : Obj, oO_ = .cells #[.int .i64 0, .int .i64 0, .int .i64 0, .string ⟨#[]⟩, .int .i64 0] 212 := ⟨_, rfl⟩
 have b1 := bA.alloc bA.size o2_
 have z1 : (w.alloc o1_).heap.size = w.heap.size + 1 := by simp
 replace hA := (((Below.refl _ _).alloc (Nat.le_refl _) o2_).block (w.heap.size) (by omega)).trans hA
 have hY1 := heap_alloc_new (w.alloc o1_) o2_
 rw [z1] at hY1
 obtain ⟨o3_, ho3_⟩ : ∃ oO_ : Obj, oO_ = .cells #[.slice none 0 0, .int .i64 0, .int .i64 0] 142 := ⟨_, rfl⟩
 have b2 := b1.alloc b1.size o3_
 have z2 : ((w.alloc o1_).alloc o2_).heap.size = w.heap.size + 2 := by simp
 replace hA := (((Below.refl _ _).alloc (Nat.le_refl _) o3_).block (w.heap.size) (by omega)).trans hA
 replace hY1 := (((Below.refl _ _).alloc (Nat.le_refl _) o3_).block (w.heap.size + 1) (by omega)).trans hY1
 have hY2 := heap_alloc_new ((w.alloc o1_).alloc o2_) o3_
 subst ho3_
 subst ho2_
 subst ho1_
 rw [z2] at hY2
 go_enter Tryz.func144, Tryz.ntmps144
 go_upto_region 1 with fail
 generalize ((w.alloc (.cells #[.slice (some ⟨g, o, none⟩) l.length cp, .int .i64 e, .int .i64 z] 142)).alloc (.cells #[.int .i64 0, .int .i64 0, .int .i64 0, .string ⟨#[]⟩, .int .i64 0] 212)).alloc (.cells #[.slice none 0 0, .int .i64 0, .int .i64 0] 142) = V at *
 have nb := b2
 clear bA z1 z2 b1 b2
 have hbV := hb.trans (nb.mono hb.size)
 have j0 := (Lib.cell_of_heap hA 0).trans rfl
 have j1 := (Lib.cell_of_heap hA 1).trans rfl
 have j2 := (Lib.cell_of_heap hA 2).trans rfl
 go_wp2_with fail
 refine fine16_calls (.slice (some ⟨g, o, none⟩) l.length cp) (l, e, z) ⟨_, _, _, rfl⟩ V _ (Lib.hid fun w1 n1 => ?_)
 replace hA := (n1.block _ (blt hA)).trans hA
 replace hY1 := (n1.block _ (blt hY1)).trans hY1
 replace hY2 := (n1.block _ (blt hY2)).trans hY2
 replace nb := nb.trans (n1.mono nb.size)
 replace hbV := hb.trans (nb.mono hb.size)
 clear j0 j1 j2 n1
 have j0 := (Lib.cell_of_heap hA 0).trans rfl
 have j1 := (Lib.cell_of_heap hA 1).trans rfl
 have j2 := (Lib.cell_of_heap hA 2).trans rfl
 by_cases he : e = 0
 ·subst he
  rw [decide_eq_true (show ((l, 0, z) : PS).2.1 = 0 from rfl)]
  have c0 := (hbV.cell (p := ⟨g, o, none⟩) hg).trans x0
  have c1 := (hbV.cell (p := ⟨g, o + 1, none⟩) hg).trans x1
  have c2 := (hbV.cell (p := ⟨g, o + 2, none⟩) hg).trans x2
  have c3 := (hbV.cell (p := ⟨g, o + 3, none⟩) hg).trans x3
  have c4 := (hbV.cell (p := ⟨g, o + 4, none⟩) hg).trans x4
  clear x0 x1 x2 x3 x4
  by_cases hk : (Cur.hdT l).1 = k
  ·have hq : anyS (l, 0, z) k = (Cur.hdT l, onS (l, 0, z)) := by unfold anyS; rw [if_neg (by simp), if_neg (by simpa using hk)]
   rw [hq] at hR
   have q0 : ((Cur.hdT l).1 != k) = false := by simpa using hk
   clear hq hk
   generalize Cur.hdT l = t at *
   obtain ⟨t0, t1, t2, t3, t4⟩ := t
   simp only at c0 c1 c2 c3 c4 q0
   go_wp2_with fail
   have lg1 : g < w1.heap.size := Nat.lt_of_lt_of_le hg hbV.size
   have lA := blt hA
   have l1 := blt hY1
   have l2 := blt hY2
   have hgw : g < w.heap.size := Nat.lt_of_lt_of_le hg hb.size
   have k0 := fun y : GW w1 (w.heap.size + 1) (w.heap.size + 2) => y.cell (by omega) (by omega) (by omega) j0
   have jr : ∀ y : GW w1 (w.heap.size + 1) (w.heap.size + 2), y.w.rangeAt w.heap.size 0 [.slice (some ⟨g, o, none⟩) l.length cp, .int .i64 0, .int .i64 z] := fun y j v h => by rw [Nat.zero_add, Lib.cell_of_heap ((y.b _ lA (by omega) (by omega)).trans hA)]; simpa using h
   have jt : ∀ y : GW w1 (w.heap.size + 1) (w.heap.size + 2), y.w.rangeAt g o [.int .i64 t0, .int .i64 t1, .int .i64 t2, .string t3, .int .i64 t4] := fun y j v h => by
    have yc := fun {i : Nat} {u : Value} (q : w1.cell? ⟨g, o + i, none⟩ = some u) => y.cell (p := w.heap.size + 1) (q := w.heap.size + 2) lg1 (by omega) (by omega) q
    match j, h with
    | 0, e => obtain rfl := Option.some.inj e; exact yc (i := 0) c0
    | 1, e => obtain rfl := Option.some.inj e; exact yc c1
    | 2, e => obtain rfl := Option.some.inj e; exact yc c2
    | 3, e => obtain rfl := Option.some.inj e; exact yc c3
    | 4, e => obtain rfl := Option.some.inj e; exact yc c4
    | _ + 5, e => simp at e
   clear j0 j1 j2 c0 c1 c2 c3 c4
   refine wp_region_mixG (w.heap.size + 1) (w.heap.size + 2) [([0, 1, 2, 3, 4], 5), ([], 6), ([], 7)] [] (by kernel_rfl) (by kernel_rfl) (by kernel_rfl) (by kernel_rfl) (fun _ _ d _ _ h => by cases d <;> exact h) ?_
   have gW : Below w1.heap.size w1 (w1.drewN 1) := ⟨rfl, rfl, rfl, Nat.le_refl _, fun _ _ => rfl⟩
   refine mix_cons (os := [_, _, _, _, _]) (by simp only [pickO, List.filterMap_cons, List.filterMap_nil, List.getElem?_toArray, List.getElem?_cons_succ, List.getElem?_cons_zero]; rfl) (fun Kp hKp => ?_)
   iterate 3 (go_big_quiet_step (exact rfl))
   refine wpQuiet_load rfl 212 _ rfl g o rfl [.int .i64 t0, .int .i64 t1, .int .i64 t2, .string t3, .int .i64 t4] _ (by rintro V ⟨y, rfl⟩; exact jt y) Tryz.underlying212 rfl (by kernel_rfl) ?_
   go_simp
   refine wpQuiet_load rfl 142 _ rfl w.heap.size 0 rfl [.slice (some ⟨g, o, none⟩) l.length cp, .int .i64 0, .int .i64 z] _ (by rintro V ⟨y, rfl⟩; exact jr y) Tryz.underlying142 rfl (by kernel_rfl) ?_
   go_simp
   refine wpQuiet_nil ?_
   refine hKp _ ?_
   clear hKp
   refine loud (by rfl) (by kernel_rfl) (fun K1 hK1 => ?_)
   go_simp
   refine on16_calls (l, 0, z) (.slice (some ⟨g, o, none⟩) l.length cp) w0 _ (hbV.trans (gW.mono hbV.size)) hx ok (.inr (List.length_pos_iff.2 (EndL.ne ok))) _ (Lib.hid fun v3 w3 r3 n3 => ?_)
   obtain ⟨A3, c3, rfl, -, -⟩ := r3.op
   generalize hqq : onS (l, 0, z) = q at *
   clear hqq
   have gL := gW.trans (n3.mono gW.size)
   replace hY1 := (gL.block _ l1).trans hY1
   replace hY2 := (gL.block _ l2).trans hY2
   have nb3 := nb.trans (gL.mono nb.size)
   have ne12 : w.heap.size + 2 ≠ w.heap.size + 1 := by omega
   refine hK1 _ _ (GW.bl gL) ?_
   clear hK1
   refine mix_cons (os := []) (by rfl) (fun Kp hKp => ?_)
   refine wpQuiet_nil ?_
   refine hKp _ ?_
   clear hKp
   refine loud (by rfl) (by kernel_rfl) (fun K2 hK2 => ?_)
   have y0 := (Lib.cell_of_heap hY1 0).trans rfl
   have yf0 := Lib.frozen_of_heap hY1 0
   have y1 := (Lib.cell_of_heap hY1 1).trans rfl
   have yf1 := Lib.frozen_of_heap hY1 1
   have y2 := (Lib.cell_of_heap hY1 2).trans rfl
   have yf2 := Lib.frozen_of_heap hY1 2
   have y3 := (Lib.cell_of_heap hY1 3).trans rfl
   have yf3 := Lib.frozen_of_heap hY1 3
   have y4 := (Lib.cell_of_heap hY1 4).trans rfl
   have yf4 := Lib.frozen_of_heap hY1 4
   have u0 := (Lib.cell_of_heap hY2 0).trans rfl
   have uf0 := Lib.frozen_of_heap hY2 0
   have u1 := (Lib.cell_of_heap hY2 1).trans rfl
   have uf1 := Lib.frozen_of_heap hY2 1
   have u2 := (Lib.cell_of_heap hY2 2).trans rfl
   have uf2 := Lib.frozen_of_heap hY2 2
   go_simp
   refine hK2 _ _ (GWsetp (GWsetp (GWsetp (GWsetp (GWsetp (GW.bl gL) _) _) _) _) _) ?_
   clear hK2
   refine mix_cons (os := []) (by rfl) (fun Kp hKp => ?_)
   refine wpQuiet_nil ?_
   refine hKp _ ?_
   clear hKp
   refine loud (by rfl) (by kernel_rfl) (fun K3 hK3 => ?_)
   go_simp
   refine hK3 _ _ (GW.set (GW.set (GW.set (GWsetp (GWsetp (GWsetp (GWsetp (GWsetp (GW.bl gL) _) _) _) _) _) _) _) _) ?_
   clear hK3
   refine mix_nil (os := []) (by rfl) (fun Kp hKp => ?_)
   refine wpQuiet_nil ?_
   refine hKp _ ?_
   clear hKp
   have fin := Lib.hid (hR.out (.slice A3 q.1.length c3) _ r3 (set3p (q := w.heap.size + 2) (by omega) (set5p (q := w.heap.size + 1) (by omega) nb3 (.int .i64 t0) (.int .i64 t1) (.int .i64 t2) (.string t3) (.int .i64 t4)) (.slice A3 q.1.length c3) (.int .i64 q.2.1) (.int .i64 q.2.2)))
   clear hR
   go_wp2_with fail
   refine bodyPost_ret ?_ rfl fin.out
   simp [results, Tryz.results144, go_sem, onS, tkV, zT, y0, y1, y2, y3, y4, u0, u1, u2] <;> rfl
  ·have hq : anyS (l, 0, z) k = (zT, wrongS (l, 0, z)) := by unfold anyS; rw [if_neg (by simp), if_pos hk]
   rw [hq] at hR
   have q0 : ((Cur.hdT l).1 != k) = true := by simpa using hk
   clear hq hk
   generalize (Cur.hdT l).1 = t0 at *
   go_wp2_with fail
   refine wrong16_calls (l, 0, z) (.slice (some ⟨g, o, none⟩) l.length cp) w0 w1 hbV hx ok _ (Lib.hid fun v3 w3 r3 n3 => ?_)
   replace hA := (n3.block _ (blt hA)).trans hA
   replace hY1 := (n3.block _ (blt hY1)).trans hY1
   replace hY2 := (n3.block _ (blt hY2)).trans hY2
   replace nb := nb.trans (n3.mono nb.size)
   replace hbV := hb.trans (nb.mono hb.size)
   clear j0 j1 j2 n3
   have j0 := (Lib.cell_of_heap hA 0).trans rfl
   have j1 := (Lib.cell_of_heap hA 1).trans rfl
   have j2 := (Lib.cell_of_heap hA 2).trans rfl
   obtain ⟨A3, c3', rfl, -, -⟩ := r3.op
   generalize wrongS (l, 0, z) = q at *
   have y0 := (Lib.cell_of_heap hY1 0).trans rfl
   have yf0 := Lib.frozen_of_heap hY1 0
   have y1 := (Lib.cell_of_heap hY1 1).trans rfl
   have yf1 := Lib.frozen_of_heap hY1 1
   have y2 := (Lib.cell_of_heap hY1 2).trans rfl
   have yf2 := Lib.frozen_of_heap hY1 2
   have y3 := (Lib.cell_of_heap hY1 3).trans rfl
   have yf3 := Lib.frozen_of_heap hY1 3
   have y4 := (Lib.cell_of_heap hY1 4).trans rfl
   have yf4 := Lib.frozen_of_heap hY1 4
   have u0 := (Lib.cell_of_heap hY2 0).trans rfl
   have uf0 := Lib.frozen_of_heap hY2 0
   have u1 := (Lib.cell_of_heap hY2 1).trans rfl
   have uf1 := Lib.frozen_of_heap hY2 1
   have u2 := (Lib.cell_of_heap hY2 2).trans rfl
   have uf2 := Lib.frozen_of_heap hY2 2
   have fin := Lib.hid (hR.out (.slice A3 q.1.length c3') _ r3 (set3p (q := w.heap.size + 2) (by omega) (set5p (q := w.heap.size + 1) (by omega) nb (.int .i64 0) (.int .i64 0) (.int .i64 0) (.string ⟨#[]⟩) (.int .i64 0)) (.slice A3 q.1.length c3') (.int .i64 q.2.1) (.int .i64 q.2.2)))
   clear hR
   go_wp2_with fail
   refine bodyPost_ret ?_ rfl fin.out
   simp [results, Tryz.results144, go_sem, onS, tkV, zT, y0, y1, y2, y3, y4, u0, u1, u2] <;> rfl
 ·rw [decide_eq_false (show ¬ ((l, e, z) : PS).2.1 = 0 from he)]
  have hq : anyS (l, e, z) k = (zT, (l, e, z)) := by unfold anyS; rw [if_pos he]
  rw [hq] at hR
  clear hq
  go_wp2_with fail
  have lA := blt hA
  have l1 := blt hY1
  have l2 := blt hY2
  have jr : ∀ y : GW w1 (w.heap.size + 1) (w.heap.size + 2), y.w.rangeAt w.heap.size 0 [.slice (some ⟨g, o, none⟩) l.length cp, .int .i64 e, .int .i64 z] := fun y j v h => by rw [Nat.zero_add, Lib.cell_of_heap ((y.b _ lA (by omega) (by omega)).trans hA)]; simpa using h
  clear j0 j1 j2
  refine wp_region_mixG (w.heap.size + 1) (w.heap.size + 2) [([0, 1], 2), ([], 3)] [] (by kernel_rfl) (by kernel_rfl) (by kernel_rfl) (by kernel_rfl) (fun _ _ d _ _ h => by cases d <;> exact h) ?_
  have gL : Below w1.heap.size w1 (w1.drewN 1) := ⟨rfl, rfl, rfl, Nat.le_refl _, fun _ _ => rfl⟩
  refine mix_cons (os := [_, _]) (by simp only [pickO, List.filterMap_cons, List.filterMap_nil, List.getElem?_toArray, List.getElem?_cons_succ, List.getElem?_cons_zero]; rfl) (fun Kp hKp => ?_)
  go_big_quiet_step (exact rfl)
  refine wpQuiet_load rfl 142 _ rfl w.heap.size 0 rfl [.slice (some ⟨g, o, none⟩) l.length cp, .int .i64 e, .int .i64 z] _ (by rintro V ⟨y, rfl⟩; exact jr y) Tryz.underlying142 rfl (by kernel_rfl) ?_
  go_simp
  refine wpQuiet_nil ?_
  refine hKp _ ?_
  clear hKp
  replace hY1 := (gL.block _ l1).trans hY1
  replace hY2 := (gL.block _ l2).trans hY2
  have nb3 := nb.trans (gL.mono nb.size)
  have ne12 : w.heap.size + 2 ≠ w.heap.size + 1 := by omega
  refine loud (by rfl) (by kernel_rfl) (fun K2 hK2 => ?_)
  have y0 := (Lib.cell_of_heap hY1 0).trans rfl
  have yf0 := Lib.frozen_of_heap hY1 0
  have y1 := (Lib.cell_of_heap hY1 1).trans rfl
  have yf1 := Lib.frozen_of_heap hY1 1
  have y2 := (Lib.cell_of_heap hY1 2).trans rfl
  have yf2 := Lib.frozen_of_heap hY1 2
  have y3 := (Lib.cell_of_heap hY1 3).trans rfl
  have yf3 := Lib.frozen_of_heap hY1 3
  have y4 := (Lib.cell_of_heap hY1 4).trans rfl
  have yf4 := Lib.frozen_of_heap hY1 4
  have u0 := (Lib.cell_of_heap hY2 0).trans rfl
  have uf0 := Lib.frozen_of_heap hY2 0
  have u1 := (Lib.cell_of_heap hY2 1).trans rfl
  have uf1 := Lib.frozen_of_heap hY2 1
  have u2 := (Lib.cell_of_heap hY2 2).trans rfl
  have uf2 := Lib.frozen_of_heap hY2 2
  go_simp
  refine hK2 _ _ (GWsetp (GWsetp (GWsetp (GWsetp (GWsetp (GW.bl gL) _) _) _) _) _) ?_
  clear hK2
  refine mix_cons (os := []) (by rfl) (fun Kp hKp => ?_)
  refine wpQuiet_nil ?_
  refine hKp _ ?_
  clear hKp
  refine loud (by rfl) (by kernel_rfl) (fun K3 hK3 => ?_)
  go_simp
  refine hK3 _ _ (GW.set (GW.set (GW.set (GWsetp (GWsetp (GWsetp (GWsetp (GWsetp (GW.bl gL) _) _) _) _) _) _) _) _) ?_
  clear hK3
  refine mix_nil (os := []) (by rfl) (fun Kp hKp => ?_)
  refine wpQuiet_nil ?_
  refine hKp _ ?_
  clear hKp
  have fin := Lib.hid (hR.out (.slice (some ⟨g, o, none⟩) l.length cp) _ hx (set3p (q := w.heap.size + 2) (by omega) (set5p (q := w.heap.size + 1) (by omega) nb3 (.int .i64 0) (.int .i64 0) (.int .i64 0) (.string ⟨#[]⟩) (.int .i64 0)) (.slice (some ⟨g, o, none⟩) l.length cp) (.int .i64 ((l, e, z) : PS).2.1) (.int .i64 ((l, e, z) : PS).2.2)))
  clear hR
  go_wp2_with fail
  refine bodyPost_ret ?_ rfl fin.out
  simp [results, Tryz.results144, go_sem, onS, tkV, zT, y0, y1, y2, y3, y4, u0, u1, u2] <;> rfl
end Go.Proofs.YtncijmodlhijoaaGreat.Syn
