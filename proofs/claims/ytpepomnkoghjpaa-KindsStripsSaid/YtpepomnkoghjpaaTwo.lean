/- A region that draws its order and copies two structs into two boxes of its own ('p, q := a[i], b[j]'): the reads are taken first, then the two boxes and the two stores in any order. -/
import Derived.Test.YtpepomnkoghjpaaMix
import Derived.Laws.Tables
import Derived.Deep.MidRow
import Derived.BigFrame
set_option maxRecDepth 100000
set_option linter.unusedVariables false
namespace Go.Proofs.Ytpepomnkoghjpaa
open Go.RowKit Go.Lib

abbrev ptA (B : Nat) : Value := .pointer (some ⟨B, 0, none⟩)
/-- A load of a whole struct among the quiet operations, in one step. -/
theorem wpQuiet_load {P : Program} {ops : Array Oper} {C : World → Prop} {Q : Act → Prop} {a : Act} {o : Oper} {rest : List Oper} (hg : o.guard = none) (ty : TypeId) (x : Operand) (ho : o.op = .load ty x) (b off : Nat) (hx : a.eval x = .pointer (some ⟨b, off, none⟩))
    (cs : List Value) (d : TypeDesc) (hc : ∀ w, C w → w.rangeAt b off cs) (hu : P.underlying ty = some d) (hd : d.isRow = true) (hi : (P.info? ty).map (·.size) = some cs.length) (h : wpQuiet P ops C Q rest (a.put o.dst (.agg cs.toArray))) : wpQuiet P ops C Q (o :: rest) a := by
  unfold wpQuiet
  rw [if_pos (by simp [Region.wanted, hg])]
  refine ⟨_, fun w hw => ?_, h⟩
  unfold Oper.quietAt execOp
  simp only [ho, hx, Instr.loadAt, Instr.sureAddr, Sem.run_bind, Sem.run_pure, Result.andThen_ok, run_loadVar_mid w b off ty cs d (hc w hw) hu hd hi]
  simp [Oper.quietUpon]
/-- A load of a whole struct in a region in the text's order, in one step; it may be guarded. -/
theorem wpList_load_g {P : Program} {ops : Array Oper} {rest : List Oper} {op : Oper} {a : Act} {w : World} {Q : Exit → Act → World → Prop} (hw : Region.wanted op (yielded ops a.tmps) = true) (ty : TypeId) (x : Operand) (ho : op.op = .load ty x) (b o : Nat) (hx : a.eval x = .pointer (some ⟨b, o, none⟩))
    (cs : List Value) (d : TypeDesc) (hc : w.rangeAt b o cs) (hu : P.underlying ty = some d) (hd : d.isRow = true) (hi : (P.info? ty).map (·.size) = some cs.length) (h : wpList P ops Q rest (a.put op.dst (.agg cs.toArray)) w) : wpList P ops Q (op :: rest) a w :=
  BigFrame.wpList_want hw fun _ hK => wp_load_mid ty x ho b o hx cs d hc hu hd hi (hK _ _ h)
section
variable {P : Program} {md : Region.Mode} {ops : Array Oper} {Q : Exit → Act → World → Prop} {C : World → Prop}
theorem anyC_fork {f : Nat} {l : Array Bool} {a : Act} {W : World} {ks : List Nat} (hr : (!(Region.ready md ops l).isEmpty && (Region.ready md ops l).all fun i => ks.contains i) = true) (h : ∀ i ∈ ks, wpOp P ops Q i (fun b w' => C w' ∧ anyC P md ops C Q f (l.setIfInBounds i true) b w') a W) : anyC P md ops C Q (f + 1) l a W := by
  rw [Bool.and_eq_true, List.all_eq_true] at hr
  exact ⟨fun e => (by rw [e] at hr; simp at hr), fun i hi => h i (by simpa using hr.2 i hi)⟩
theorem wpOp_run {i : Nat} {o : Oper} {a : Act} {W : World} {K : Act → World → Prop} (e : ops[i]? = some o) (hg : o.guard = none) (h : o.wp P a W K Q) : wpOp P ops Q i K a W := by
  unfold wpOp
  rw [e]
  simp only
  rw [if_pos (by simp [Region.wanted, hg])]
  exact .inl h
theorem wpOp_al {i : Nat} {o : Oper} {d : Tmp} {T : TypeId} {z : Array Value} {a : Act} {W : World} {K : Act → World → Prop} (e : ops[i]? = some o) (hg : o.guard = none) (hd : o.dst = some d)
    (hz : ∀ (ρ : Operand → Value) (W : World), (execOp ρ o).run P W = .ok (.value (ptA W.heap.size)) (W.alloc (.cells z T))) (h : K (a.put (some d) (ptA W.heap.size)) (W.alloc (.cells z T))) : wpOp P ops Q i K a W :=
  wpOp_run e hg (by unfold Oper.wp; rw [hz, Oper.upon_value, hd]; exact h)
theorem wpOp_st {j : Nat} {s : Oper} {x y : Operand} {T : TypeId} {z c : Array Value} {a : Act} {W : World} {K : Act → World → Prop} {B : Nat} (e : ops[j]? = some s) (hg : s.guard = none) (hd : s.dst = none) (ho : s.op = .store T x y)
    (hi : (P.info? T).map (·.size) = some c.size) (hx : a.eval x = ptA B) (hy : a.eval y = .agg c) (hh : W.heap[B]? = some (.cells z T)) (hold : z.size = c.size) (h1 : c.all (·.oneCell') = true) (h : K a (W.setRow B c)) : wpOp P ops Q j K a W :=
  wpOp_run e hg (wp_store_row T x y ho B c hx hy T z hh hi hold h1 (by rw [hd]; exact h))
theorem below_setRow {base B : Nat} {w W : World} {c : Array Value} (hb : base ≤ B) (h : Below base w W) : Below base w (W.setRow B c) :=
  ⟨h.os, h.tape, h.output, by rw [setRow_size]; exact h.size, fun k hk => (setRow_other W B k c (by omega)).trans (h.block k hk)⟩
/-- Behind the reads: what is copied, where it goes; what holds at the end. -/
def TwoK (Q : Exit → Act → World → Prop) (w : World) (T : TypeId) (z : Array Value) (d1 d2 n1 n2 : Tmp) (b : Act) : Prop := ∃ c1 c2 : Array Value,
  (z.size = c1.size ∧ c1.all (·.oneCell') = true) ∧ (z.size = c2.size ∧ c2.all (·.oneCell') = true) ∧
  (∀ p, (b.put (some d1) p).eval (.tmp d1) = p ∧ (b.put (some d1) p).eval (.tmp n1) = .agg c1) ∧ (∀ q, (b.put (some d2) q).eval (.tmp d2) = q ∧ (b.put (some d2) q).eval (.tmp n2) = .agg c2) ∧
  (∀ p q, ((b.put (some d1) p).put (some d2) q).eval (.tmp d1) = p ∧ ((b.put (some d1) p).put (some d2) q).eval (.tmp d2) = q ∧ ((b.put (some d1) p).put (some d2) q).eval (.tmp n1) = .agg c1 ∧ ((b.put (some d1) p).put (some d2) q).eval (.tmp n2) = .agg c2 ∧
    (b.put (some d2) q).put (some d1) p = (b.put (some d1) p).put (some d2) q) ∧
  ∀ B1 B2 V, w.heap.size ≤ B1 → w.heap.size ≤ B2 → B1 ≠ B2 → Below w.heap.size w V → V.heap[B1]? = some (.cells c1 T) → V.heap[B2]? = some (.cells c2 T) → Q .normal ((b.put (some d1) (ptA B1)).put (some d2) (ptA B2)) V
/-- What comes up when, of two boxes and two stores. -/
def twoB (md : Region.Mode) (ops : Array Oper) (l : Array Bool) (i1 i2 j1 j2 : Nat) : Bool :=
  let s := fun (l : Array Bool) (i : Nat) => l.setIfInBounds i true
  let r := fun (l : Array Bool) (ks : List Nat) => !(Region.ready md ops l).isEmpty && (Region.ready md ops l).all fun i => ks.contains i
  let n := fun (l : Array Bool) => decide (Region.ready md ops l = [])
  r l [i1, i2] && r (s l i1) [i2, j1] && r (s l i2) [i1, j2] && r (s (s l i1) i2) [j1, j2] && r (s (s l i2) i1) [j1, j2] && r (s (s l i1) j1) [i2] && r (s (s l i2) j2) [i1] &&
  r (s (s (s l i1) i2) j1) [j2] && r (s (s (s l i1) i2) j2) [j1] && r (s (s (s l i2) i1) j1) [j2] && r (s (s (s l i2) i1) j2) [j1] && r (s (s (s l i1) j1) i2) [j2] && r (s (s (s l i2) j2) i1) [j1] &&
  n (s (s (s (s l i1) i2) j1) j2) && n (s (s (s (s l i1) i2) j2) j1) && n (s (s (s (s l i2) i1) j1) j2) && n (s (s (s (s l i2) i1) j2) j1) && n (s (s (s (s l i1) j1) i2) j2) && n (s (s (s (s l i2) j2) i1) j1)
theorem two_tail {i1 i2 j1 j2 : Nat} {o1 o2 s1 s2 : Oper} {d1 d2 n1 n2 : Tmp} {T : TypeId} {z : Array Value} {l : Array Bool} {b : Act} {w W : World} (hB : twoB md ops l i1 i2 j1 j2 = true)
    (e1 : ops[i1]? = some o1) (e2 : ops[i2]? = some o2) (f1 : ops[j1]? = some s1) (f2 : ops[j2]? = some s2) (p1 : o1.guard = none ∧ o1.dst = some d1) (p2 : o2.guard = none ∧ o2.dst = some d2)
    (q1 : s1.guard = none ∧ s1.dst = none ∧ s1.op = .store T (.tmp d1) (.tmp n1)) (q2 : s2.guard = none ∧ s2.dst = none ∧ s2.op = .store T (.tmp d2) (.tmp n2))
    (z1 : ∀ (ρ : Operand → Value) (W : World), (execOp ρ o1).run P W = .ok (.value (ptA W.heap.size)) (W.alloc (.cells z T))) (z2 : ∀ (ρ : Operand → Value) (W : World), (execOp ρ o2).run P W = .ok (.value (ptA W.heap.size)) (W.alloc (.cells z T)))
    (hi : (P.info? T).map (·.size) = some z.size) (hW : Below w.heap.size w W) (hK : TwoK Q w T z d1 d2 n1 n2 b) : anyC P md ops (fun w' => ∃ x : BW w, w' = x.w) Q 4 l b W := by
  obtain ⟨c1, c2, ⟨k1, k1'⟩, ⟨k2, k2'⟩, h1, h2, h12, fin⟩ := hK
  unfold twoB at hB
  rw [Bool.and_eq_true, Bool.and_eq_true, Bool.and_eq_true, Bool.and_eq_true, Bool.and_eq_true, Bool.and_eq_true, Bool.and_eq_true, Bool.and_eq_true, Bool.and_eq_true, Bool.and_eq_true, Bool.and_eq_true, Bool.and_eq_true, Bool.and_eq_true, Bool.and_eq_true, Bool.and_eq_true, Bool.and_eq_true, Bool.and_eq_true, Bool.and_eq_true] at hB
  obtain ⟨⟨⟨⟨⟨⟨⟨⟨⟨⟨⟨⟨⟨⟨⟨⟨⟨⟨r0, r1⟩, r2⟩, r12⟩, r21⟩, r1j⟩, r2j⟩, ra1⟩, ra2⟩, rb1⟩, rb2⟩, rc⟩, rd⟩, t1⟩, t2⟩, t3⟩, t4⟩, t5⟩, t6⟩ := hB
  have hi1 : (P.info? T).map (·.size) = some c1.size := by rw [hi, k1]
  have hi2 : (P.info? T).map (·.size) = some c2.size := by rw [hi, k2]
  have cin : ∀ V, Below w.heap.size w V → ∃ x : BW w, V = x.w := fun V h => ⟨⟨V, h⟩, rfl⟩
  have sz : ∀ (V : World) (o : Obj), (V.alloc o).heap.size = V.heap.size + 1 := fun V o => by simp
  have lo : ∀ (V : World) (o : Obj) (k : Nat), k < V.heap.size → (V.alloc o).heap[k]? = V.heap[k]? := fun V o k h => ((Below.refl V.heap.size V).alloc (Nat.le_refl _) o).block k h
  have s0 := hW.size
  have bz : ∀ V, Below w.heap.size w V → Below w.heap.size w (V.alloc (.cells z T)) := fun V h => h.alloc h.size _
  have e0 := heap_alloc_new W (.cells z T)
  refine anyC_fork r0 fun i hi' => ?_
  rcases List.mem_cons.1 hi' with rfl | hi'
  · -- the first box first
    refine wpOp_al e1 p1.1 p1.2 z1 ⟨cin _ (bz W hW), ?_⟩
    refine anyC_fork r1 fun i hi' => ?_
    rcases List.mem_cons.1 hi' with rfl | hi'
    · refine wpOp_al e2 p2.1 p2.2 z2 ⟨cin _ (bz _ (bz W hW)), ?_⟩
      have g1 := (lo (W.alloc (.cells z T)) (.cells z T) W.heap.size (by rw [sz]; omega)).trans e0
      have g2 := heap_alloc_new (W.alloc (.cells z T)) (.cells z T)
      rw [sz] at g2 ⊢
      have bb := bz _ (bz W hW)
      generalize (W.alloc (.cells z T)).alloc (.cells z T) = V at *
      refine anyC_fork r12 fun i hi' => ?_
      rcases List.mem_cons.1 hi' with rfl | hi'
      · refine wpOp_st f1 q1.1 q1.2.1 q1.2.2 hi1 (h12 _ _).1 (h12 _ _).2.2.1 g1 k1 k1' ⟨cin _ (below_setRow s0 bb), ?_⟩
        refine anyC_fork ra1 fun i hi' => ?_
        obtain rfl := List.mem_singleton.1 hi'
        refine wpOp_st f2 q2.1 q2.2.1 q2.2.2 hi2 (h12 _ _).2.1 (h12 _ _).2.2.2.1 ((setRow_other V _ _ c1 (by omega)).trans g2) k2 k2' ⟨cin _ (below_setRow (by omega) (below_setRow s0 bb)), of_decide_eq_true t1, ?_⟩
        exact fin _ _ _ s0 (by omega) (by omega) (below_setRow (by omega) (below_setRow s0 bb)) ((setRow_other _ _ _ c2 (by omega)).trans (setRow_heap V _ z c1 T _ g1)) (setRow_heap _ _ z c2 T _ ((setRow_other V _ _ c1 (by omega)).trans g2))
      · obtain rfl := List.mem_singleton.1 hi'
        refine wpOp_st f2 q2.1 q2.2.1 q2.2.2 hi2 (h12 _ _).2.1 (h12 _ _).2.2.2.1 g2 k2 k2' ⟨cin _ (below_setRow (by omega) bb), ?_⟩
        refine anyC_fork ra2 fun i hi' => ?_
        obtain rfl := List.mem_singleton.1 hi'
        refine wpOp_st f1 q1.1 q1.2.1 q1.2.2 hi1 (h12 _ _).1 (h12 _ _).2.2.1 ((setRow_other V _ _ c2 (by omega)).trans g1) k1 k1' ⟨cin _ (below_setRow s0 (below_setRow (by omega) bb)), of_decide_eq_true t2, ?_⟩
        exact fin _ _ _ s0 (by omega) (by omega) (below_setRow s0 (below_setRow (by omega) bb)) (setRow_heap _ _ z c1 T _ ((setRow_other V _ _ c2 (by omega)).trans g1)) ((setRow_other _ _ _ c1 (by omega)).trans (setRow_heap V _ z c2 T _ g2))
    · obtain rfl := List.mem_singleton.1 hi'
      have bb := bz W hW
      have zz := sz W (.cells z T)
      generalize W.alloc (.cells z T) = V at *
      have g1 := setRow_heap V _ z c1 T _ e0
      refine wpOp_st f1 q1.1 q1.2.1 q1.2.2 hi1 (h1 _).1 (h1 _).2 e0 k1 k1' ⟨cin _ (below_setRow s0 bb), ?_⟩
      have bc := below_setRow (c := c1) s0 bb
      have zc : (V.setRow W.heap.size c1).heap.size = W.heap.size + 1 := by rw [setRow_size, zz]
      generalize V.setRow W.heap.size c1 = U at *
      refine anyC_fork r1j fun i hi' => ?_
      obtain rfl := List.mem_singleton.1 hi'
      refine wpOp_al e2 p2.1 p2.2 z2 ⟨cin _ (bz _ bc), ?_⟩
      have g3 := (lo U (.cells z T) W.heap.size (by omega)).trans g1
      have g2 := heap_alloc_new U (.cells z T)
      have bd := bz _ bc
      rw [zc] at g2 ⊢
      generalize U.alloc (.cells z T) = X at *
      refine anyC_fork rc fun i hi' => ?_
      obtain rfl := List.mem_singleton.1 hi'
      refine wpOp_st f2 q2.1 q2.2.1 q2.2.2 hi2 (h12 _ _).2.1 (h12 _ _).2.2.2.1 g2 k2 k2' ⟨cin _ (below_setRow (by omega) bd), of_decide_eq_true t5, ?_⟩
      exact fin _ _ _ s0 (by omega) (by omega) (below_setRow (by omega) bd) ((setRow_other X _ _ c2 (by omega)).trans g3) (setRow_heap X _ z c2 T _ g2)
  · obtain rfl := List.mem_singleton.1 hi'
    refine wpOp_al e2 p2.1 p2.2 z2 ⟨cin _ (bz W hW), ?_⟩
    refine anyC_fork r2 fun i hi' => ?_
    rcases List.mem_cons.1 hi' with rfl | hi'
    · refine wpOp_al e1 p1.1 p1.2 z1 ⟨cin _ (bz _ (bz W hW)), ?_⟩
      rw [(h12 _ _).2.2.2.2]
      have g2 := (lo (W.alloc (.cells z T)) (.cells z T) W.heap.size (by rw [sz]; omega)).trans e0
      have g1 := heap_alloc_new (W.alloc (.cells z T)) (.cells z T)
      rw [sz] at g1 ⊢
      have bb := bz _ (bz W hW)
      generalize (W.alloc (.cells z T)).alloc (.cells z T) = V at *
      refine anyC_fork r21 fun i hi' => ?_
      rcases List.mem_cons.1 hi' with rfl | hi'
      · refine wpOp_st f1 q1.1 q1.2.1 q1.2.2 hi1 (h12 _ _).1 (h12 _ _).2.2.1 g1 k1 k1' ⟨cin _ (below_setRow (by omega) bb), ?_⟩
        refine anyC_fork rb1 fun i hi' => ?_
        obtain rfl := List.mem_singleton.1 hi'
        refine wpOp_st f2 q2.1 q2.2.1 q2.2.2 hi2 (h12 _ _).2.1 (h12 _ _).2.2.2.1 ((setRow_other V _ _ c1 (by omega)).trans g2) k2 k2' ⟨cin _ (below_setRow s0 (below_setRow (by omega) bb)), of_decide_eq_true t3, ?_⟩
        exact fin _ _ _ (by omega) s0 (by omega) (below_setRow s0 (below_setRow (by omega) bb)) ((setRow_other _ _ _ c2 (by omega)).trans (setRow_heap V _ z c1 T _ g1)) (setRow_heap _ _ z c2 T _ ((setRow_other V _ _ c1 (by omega)).trans g2))
      · obtain rfl := List.mem_singleton.1 hi'
        refine wpOp_st f2 q2.1 q2.2.1 q2.2.2 hi2 (h12 _ _).2.1 (h12 _ _).2.2.2.1 g2 k2 k2' ⟨cin _ (below_setRow s0 bb), ?_⟩
        refine anyC_fork rb2 fun i hi' => ?_
        obtain rfl := List.mem_singleton.1 hi'
        refine wpOp_st f1 q1.1 q1.2.1 q1.2.2 hi1 (h12 _ _).1 (h12 _ _).2.2.1 ((setRow_other V _ _ c2 (by omega)).trans g1) k1 k1' ⟨cin _ (below_setRow (by omega) (below_setRow s0 bb)), of_decide_eq_true t4, ?_⟩
        exact fin _ _ _ (by omega) s0 (by omega) (below_setRow (by omega) (below_setRow s0 bb)) (setRow_heap _ _ z c1 T _ ((setRow_other V _ _ c2 (by omega)).trans g1)) ((setRow_other _ _ _ c1 (by omega)).trans (setRow_heap V _ z c2 T _ g2))
    · obtain rfl := List.mem_singleton.1 hi'
      have bb := bz W hW
      have zz := sz W (.cells z T)
      generalize W.alloc (.cells z T) = V at *
      have g2 := setRow_heap V _ z c2 T _ e0
      refine wpOp_st f2 q2.1 q2.2.1 q2.2.2 hi2 (h2 _).1 (h2 _).2 e0 k2 k2' ⟨cin _ (below_setRow s0 bb), ?_⟩
      have bc := below_setRow (c := c2) s0 bb
      have zc : (V.setRow W.heap.size c2).heap.size = W.heap.size + 1 := by rw [setRow_size, zz]
      generalize V.setRow W.heap.size c2 = U at *
      refine anyC_fork r2j fun i hi' => ?_
      obtain rfl := List.mem_singleton.1 hi'
      refine wpOp_al e1 p1.1 p1.2 z1 ⟨cin _ (bz _ bc), ?_⟩
      rw [(h12 _ _).2.2.2.2]
      have g3 := (lo U (.cells z T) W.heap.size (by omega)).trans g2
      have g1 := heap_alloc_new U (.cells z T)
      have bd := bz _ bc
      rw [zc] at g1 ⊢
      generalize U.alloc (.cells z T) = X at *
      refine anyC_fork rd fun i hi' => ?_
      obtain rfl := List.mem_singleton.1 hi'
      refine wpOp_st f1 q1.1 q1.2.1 q1.2.2 hi1 (h12 _ _).1 (h12 _ _).2.2.1 g1 k1 k1' ⟨cin _ (below_setRow (by omega) bd), of_decide_eq_true t6, ?_⟩
      exact fin _ _ _ (by omega) s0 (by omega) (below_setRow (by omega) bd) (setRow_heap X _ z c1 T _ g1) ((setRow_other X _ _ c1 (by omega)).trans g3)
end
theorem setRow_alloc (w : World) (z c : Array Value) (T : TypeId) : (w.alloc (.cells z T)).setRow w.heap.size c = w.alloc (.cells c T) := by
  have e : ((w.alloc (.cells z T)).setRow w.heap.size c).heap = (w.alloc (.cells c T)).heap := by
    refine Array.ext_getElem? fun k => ?_
    by_cases hk : k = w.heap.size
    · subst hk
      rw [setRow_heap _ _ z c T _ (heap_alloc_new w (.cells z T)), heap_alloc_new]
    · rw [setRow_other _ _ _ _ hk]
      show (w.heap.push _)[k]? = (w.heap.push _)[k]?
      rw [Array.getElem?_push, Array.getElem?_push, if_neg hk, if_neg hk]
  unfold World.setRow at e ⊢
  simp only [World.alloc] at e ⊢
  rw [e]
/-- A struct copied into a new box, in two operations of a region in the text's order. -/
theorem wpList_copy {P : Program} {ops : Array Oper} {rest : List Oper} {o s : Oper} {a : Act} {w : World} {Q : Exit → Act → World → Prop} {T : TypeId} {z : Array Value} {d n : Tmp} (c : Array Value) (p1 : o.guard = none ∧ o.dst = some d ∧ o.op = .alloc T) (q1 : s.guard = none ∧ s.dst = none ∧ s.op = .store T (.tmp d) (.tmp n))
    (hz : ∀ (ρ : Operand → Value) (W : World) (o : Oper), o.op = .alloc T → (execOp ρ o).run P W = .ok (.value (ptA W.heap.size)) (W.alloc (.cells z T))) (hi : (P.info? T).map (·.size) = some z.size) (hs : z.size = c.size ∧ c.all (·.oneCell') = true)
    (he : ∀ p, (a.put (some d) p).eval (.tmp d) = p ∧ (a.put (some d) p).eval (.tmp n) = .agg c) (h : wpList P ops Q rest (a.put (some d) (ptA w.heap.size)) (w.alloc (.cells c T))) : wpList P ops Q (o :: s :: rest) a w := by
  refine wpList_plain p1.1 fun K hK => ?_
  unfold Oper.wp
  rw [hz _ _ _ p1.2.2, Oper.upon_value, p1.2.1]
  refine hK _ _ ?_
  refine wpList_store_row q1.1 T _ _ q1.2.2 w.heap.size c (he _).1 (he _).2 T z (heap_alloc_new w _) (by rw [hi, hs.1]) hs.1 hs.2 ?_
  rw [q1.2.1, setRow_alloc]
  exact h
def twoAll (md : Region.Mode) (ops : Array Oper) (qs : List Nat) (i1 i2 j1 j2 : Nat) : Bool := match quietB md ops qs (Array.replicate ops.size false) with
  | some l => decide (qs.length + 4 = ops.size) && twoB md ops l i1 i2 j1 j2
  | none => false
theorem wp_region_two {P : Program} {id : Nat} {Q : Exit → Act → World → Prop} {a : Act} {w : World} {l os : List Oper} (qs : List Nat) (i1 i2 j1 j2 : Nat) {o1 o2 s1 s2 : Oper} {d1 d2 n1 n2 : Tmp} {T : TypeId} {z : Array Value} (hm : P.follows .mixedOrders = true) (hs : Region.noSelect l.toArray = true)
    (hB : twoAll .any l.toArray qs i1 i2 j1 j2 = true) (hQ : ∀ c a d v w, Q (.panic c) (a.put d v) w → Q (.panic c) a w)
    (e1 : l.toArray[i1]? = some o1) (e2 : l.toArray[i2]? = some o2) (f1 : l.toArray[j1]? = some s1) (f2 : l.toArray[j2]? = some s2) (p1 : o1.guard = none ∧ o1.dst = some d1 ∧ o1.op = .alloc T) (p2 : o2.guard = none ∧ o2.dst = some d2 ∧ o2.op = .alloc T)
    (q1 : s1.guard = none ∧ s1.dst = none ∧ s1.op = .store T (.tmp d1) (.tmp n1)) (q2 : s2.guard = none ∧ s2.dst = none ∧ s2.op = .store T (.tmp d2) (.tmp n2))
    (hz : ∀ (ρ : Operand → Value) (W : World) (o : Oper), o.op = .alloc T → (execOp ρ o).run P W = .ok (.value (ptA W.heap.size)) (W.alloc (.cells z T)))
    (hi : (P.info? T).map (·.size) = some z.size) (ho : pickO l.toArray qs = os) (h : ∀ Kp : Act → Prop, (∀ b, TwoK Q w T z d1 d2 n1 n2 b → Kp b) → wpQuiet P l.toArray (fun w' => ∃ x : BW w, w' = x.w) Kp os a) : (Code.region id l.toArray true).wp P Q a w := by
  unfold twoAll at hB
  split at hB
  · next l' hl =>
    rw [Bool.and_eq_true, decide_eq_true_iff] at hB
    have bD : Below w.heap.size w (w.drewN 1) := below_drewN (Below.refl _ _) 1
    subst ho
    have := quiet_any (C := fun w' => ∃ x : BW w, w' = x.w) (f := 4) hs hQ ⟨⟨w.drewN 1, bD⟩, rfl⟩ qs _ l' a hl (h _ fun _ h => h) fun b hb => two_tail hB.2 e1 e2 f1 f2 ⟨p1.1, p1.2.1⟩ ⟨p2.1, p2.2.1⟩ q1 q2 (fun ρ W => hz ρ W o1 p1.2.2) (fun ρ W => hz ρ W o2 p2.2.2) hi bD hb
    rw [hB.1] at this
    exact wp_region_any hm (any_of_C (C := fun w' => ∃ x : BW w, w' = x.w) _ _ _ _ this)
  · cases hB
end Go.Proofs.Ytpepomnkoghjpaa
