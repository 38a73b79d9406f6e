import Derived.Test.YtncijmodlhijoaaGreatQ14
set_option linter.unusedVariables false
set_option maxRecDepth 100000
set_option maxHeartbeats 4000000
namespace Go.Proofs.YtncijmodlhijoaaGreat.Kin
open Go.RowKit Go.Lib Utf Nam Lat
theorem wrB_cnt (h : TH) (k : Ft) (sub : Mo → Nat → Nat → Res) (hs : ∀ mo d m, m ≤ 512 → (sub mo d m).1 = 0 → (sub mo d m).2.2 ≤ 512) (d m : Nat) : (wrB h k sub d m).1 = 0 → (wrB h k sub d m).2.2 ≤ 512 := by
  unfold wrB
  by_cases h1 : 24 < d
  · rw [if_pos h1]; simp
  rw [if_neg h1]
  by_cases h2 : 512 < m + 1
  · rw [if_pos h2]; simp
  rw [if_neg h2]
  have hm : m + 1 ≤ 512 := by omega
  repeat' split
  all_goals first | exact hs _ _ _ hm | (intro _; exact hm)
theorem blt_of {V : World} {b : Nat} {o : Obj} (h : V.heap[b]? = some o) : b < V.heap.size := (Array.getElem?_eq_some_iff.1 h).1
theorem pnm_at : ∀ (n : Nat) {f : Ft} {p : PH} {x : TH} {k r : Ft}, f.drop n = .cons p x k r → wN (pnm f) n = (p.name, p.at_)
  | 0, f, p, x, k, r, e => by
    have e' : f = .cons p x k r := e
    rw [e']
    rfl
  | n + 1, .nil, p, x, k, r, e => by simp [Fo.drop] at e
  | n + 1, .cons q y l s, p, x, k, r, e => by
    have := pnm_at n (f := s) e
    simpa [pnm, wN] using this
theorem set_atK {w : World} {p : Nat} {cs : Array Value} {t : TypeId} (h : w.heap[p]? = some (.cells cs t)) (o : Nat) (v : Value) : (w.setCell ⟨p, o, none⟩ v).heap[p]? = some (.cells (cs.setIfInBounds o v) t) := by
  simp [World.setCell, Array.getElem?_modify, h]
theorem set_neK {w : World} {q o k : Nat} {v : Value} (h : k ≠ q) : (w.setCell ⟨q, o, none⟩ v).heap[k]? = w.heap[k]? := Below.heap_setCell _ ⟨q, o, none⟩ v k h
theorem enumF_zero (ns : List ByteArray) : ∀ (l : List Wr) (i : Nat), (enumF ns i l).1 = 0 → (enumF ns i l).2 = 0
  | [], _ => fun _ => rfl
  | x :: r, i => by
    unfold enumF
    split
    · rename_i q; exact fun h => absurd h q
    · exact enumF_zero ns r (i + 1)
theorem wrB_zero (h : TH) (k : Ft) (sub : Mo → Nat → Nat → Res) (hs : ∀ mo d m, (sub mo d m).1 = 0 → (sub mo d m).2.1 = 0) (d m : Nat) : (wrB h k sub d m).1 = 0 → (wrB h k sub d m).2.1 = 0 := by
  unfold wrB
  by_cases h1 : 24 < d
  · rw [if_pos h1]; simp
  rw [if_neg h1]
  by_cases h2 : 512 < m + 1
  · rw [if_pos h2]; simp
  rw [if_neg h2]
  repeat' split
  all_goals first | exact hs _ _ _ | exact enumF_zero _ _ _ | (intro _; rfl) | (intro q; simp at q)
noncomputable def partS (h : TH) (f : Ft) (d m : Nat) : Res := if h.kind = 8 ∧ f.len = 0 then (15, h.at_, m) else if 64 < f.len then (8, (wN (pnm f) 64).2, m) else wrF f (.parts h.kind (nms (pnm f)) 0) (d + 1) m
section
variable {h : TH} {k : Ft} {sub : Mo → Nat → Nat → Res} {d m M : Nat}
theorem wrB_ok (hM : M = m + 1) (hd : d ≤ 24) (hm : M ≤ 512) (h1 : 1 ≤ h.kind) (h9 : h.kind ≤ 9) (ho : ownB h k = true) : wrB h k sub d m =
    if (h.kind = 2 ∧ h.hi < h.lo) ∨ (h.kind = 3 ∧ (h.most < 0 ∨ 4096 < h.most)) then (20, h.at_, M)
    else if h.kind = 9 ∧ rightS h.name = false then (9, h.nat, M)
    else if h.kind = 4 then (if h.names = [] then (15, h.at_, M) else if 64 < h.names.length then (8, (wN h.names 64).2, M) else ((enumF (nms h.names) 0 h.names).1, (enumF (nms h.names) 0 h.names).2, M))
    else if h.kind = 5 ∨ h.kind = 6 then (if onlyB k = false then (19, h.at_, M) else if h.most < 0 ∨ 1024 < h.most then (20, h.at_, M) else sub .one (d + 1) M)
    else if h.kind = 7 ∨ h.kind = 8 then (if h.kind = 8 ∧ k.len = 0 then (15, h.at_, M) else if 64 < k.len then (8, (wN (pnm k) 64).2, M) else sub (.parts h.kind (nms (pnm k)) 0) (d + 1) M)
    else (0, 0, M) := by
  subst hM
  unfold wrB
  rw [if_neg (by omega), if_neg (by omega), if_neg (by omega), if_neg (by rw [ho]; simp)]
variable (hM : M = m + 1) (hd : d ≤ 24) (hm : M ≤ 512) (ho : ownB h k = true)
include hM hd hm ho
theorem wrB_1 (hk : h.kind = 1) : wrB h k sub d m = (0, 0, M) := by rw [wrB_ok hM hd hm (by omega) (by omega) ho]; simp [hk]
theorem wrB_2 (hk : h.kind = 2) : wrB h k sub d m = if h.hi < h.lo then (20, h.at_, M) else (0, 0, M) := by rw [wrB_ok hM hd hm (by omega) (by omega) ho]; simp [hk]
theorem wrB_3 (hk : h.kind = 3) : wrB h k sub d m = if h.most < 0 ∨ 4096 < h.most then (20, h.at_, M) else (0, 0, M) := by rw [wrB_ok hM hd hm (by omega) (by omega) ho]; simp [hk]
theorem wrB_9 (hk : h.kind = 9) : wrB h k sub d m = if rightS h.name = false then (9, h.nat, M) else (0, 0, M) := by rw [wrB_ok hM hd hm (by omega) (by omega) ho]; simp [hk]
theorem wrB_4 (hk : h.kind = 4) : wrB h k sub d m = if h.names = [] then (15, h.at_, M) else if 64 < h.names.length then (8, (wN h.names 64).2, M) else ((enumF (nms h.names) 0 h.names).1, (enumF (nms h.names) 0 h.names).2, M) := by rw [wrB_ok hM hd hm (by omega) (by omega) ho]; simp [hk]
theorem wrB_5 (hk : h.kind = 5 ∨ h.kind = 6) : wrB h k sub d m = if onlyB k = false then (19, h.at_, M) else if h.most < 0 ∨ 1024 < h.most then (20, h.at_, M) else sub .one (d + 1) M := by
  rw [wrB_ok hM hd hm (by omega) (by omega) ho]
  rcases hk with hk | hk <;> simp [hk]
end
theorem wrB_err (h : TH) (k : Ft) (sub : Mo → Nat → Nat → Res) (d m : Nat) : wrB h k sub d m =
    if 24 < d then (6, h.at_, m + 1) else if 512 < m + 1 then (8, h.at_, m + 1) else if h.kind < 1 ∨ 9 < h.kind then (14, h.at_, m + 1) else if ownB h k = false then (19, h.at_, m + 1) else wrB h k sub d m := by
  by_cases a : 24 < d
  · unfold wrB; simp only [a, if_true]
  by_cases b : 512 < m + 1
  · unfold wrB; simp only [a, b, if_true, if_false]
  by_cases c : h.kind < 1 ∨ 9 < h.kind
  · unfold wrB; simp only [a, b, c, if_true, if_false]
  by_cases e : ownB h k = false
  · unfold wrB; simp only [a, b, c, e, if_true, if_false]
  rw [if_neg a, if_neg b, if_neg c, if_neg e]
theorem enum_drop {ns : List ByteArray} {l : List Wr} {i : Nat} (hi : i < l.length) : enumF ns i (l.drop i) = if listedS ns i ≠ 0 then (listedS ns i, (wN l i).2) else enumF ns (i + 1) (l.drop (i + 1)) := by
  rw [List.drop_eq_getElem_cons hi, wN_get hi]
  rfl
theorem only_len : ∀ {f : Ft}, f.len ≠ 1 → onlyB f = false
  | .nil, _ => rfl
  | .cons p x k .nil, h => absurd rfl h
  | .cons p x k (.cons ..), _ => rfl
theorem only_one {f : Ft} {p : PH} {x : TH} {k r : Ft} (e : f.drop 0 = .cons p x k r) (hl : f.len = 1) : onlyB f = (decide (p.name = ByteArray.empty) && plainB p zPH) ∧ ∀ d m, wrF f .one d m = wrB x k (wrF k) d m := by
  have e' : f = .cons p x k r := e
  subst e'
  have : r = .nil := Fo.len_zero (by simp only [Fo.len] at hl; omega)
  subst this
  exact ⟨rfl, fun _ _ => rfl⟩
theorem wpList_copy3 {P : Program} {ops : Array Oper} {rest : List Oper} {o x s : Oper} {a : Act} {w : World} {Q : Exit → Act → World → Prop} {T : TypeId} {z : Array Value} {d n : Tmp} (c : Array Value) (v : Value) (p1 : o.guard = none ∧ o.dst = some d ∧ o.op = .alloc T) (x1 : x.guard = none)
    (hx : ∀ p (W : World), (execOp ((a.put (some d) p).eval) x).run P W = .ok (.value v) W) (q1 : s.guard = none ∧ s.dst = none ∧ s.op = .store T (.tmp d) (.tmp n))
    (hz : ∀ (ρ : Operand → Value) (W : World) (o : Oper), o.op = .alloc T → (execOp ρ o).run P W = .ok (.value (ptA W.heap.size)) (W.alloc (.cells z T))) (hi : (P.info? T).map (·.size) = some z.size) (hs : z.size = c.size ∧ c.all (·.oneCell') = true)
    (he : ∀ p, ((a.put (some d) p).put x.dst v).eval (.tmp d) = p ∧ ((a.put (some d) p).put x.dst v).eval (.tmp n) = .agg c) (h : wpList P ops Q rest ((a.put (some d) (ptA w.heap.size)).put x.dst v) (w.alloc (.cells c T))) : wpList P ops Q (o :: x :: s :: rest) a w := by
  refine wpList_plain p1.1 fun K hK => ?_
  unfold Oper.wp
  rw [hz _ _ _ p1.2.2, Oper.upon_value, p1.2.1]
  refine hK _ _ ?_
  refine wpList_plain x1 fun K hK => ?_
  unfold Oper.wp
  rw [hx, Oper.upon_value]
  refine hK _ _ ?_
  refine wpList_store_row q1.1 T _ _ q1.2.2 w.heap.size c (he _).1 (he _).2 T z (heap_alloc_new w _) (by rw [hi, hs.1]) hs.1 hs.2 ?_
  rw [q1.2.1, setRow_alloc]
  exact h
theorem part_eq (p q : PH) (x : TH) (k : Ft) (y : TH) (l : Ft) : (decide (p.name = q.name) && plainB p q && sameS x k y l) = (decide (p.name = q.name) && ((p.bare == q.bare) && (decide (p.wide = q.wide) && (sameW p.label q.label && (coarI p.ck p.cn q.ck q.cn p.cl q.cl && sameS x k y l))))) := by
  unfold plainB coarI
  simp only [Bool.and_assoc]
theorem head_eq (a b : TH) (k l : Ft) : sameS a k b l = (decide (a.kind = b.kind) && (decide (a.lo = b.lo) && (decide (a.hi = b.hi) && (decide (a.most = b.most) && (decide (a.name = b.name) && (sameW a.names b.names && sameF k l)))))) := by
  unfold sameS headB
  simp only [Bool.and_assoc]
def SameC (f : Ft) : Prop := ∀ (h h' : TH) (g : Ft) (nv pv nv' pv' : Value) (w : World), h.names.length ≤ maxLen → f.len ≤ maxLen → f.All GoodH GoodL → RdY w h f nv pv → RdY w h' g nv' pv' → ∀ R : Ending → World → Prop,
  Hid (∀ w', Below w.heap.size w w' → R (.returned (.bool (sameS h f h' g))) w') → Calls Tryz.prog 91 #[tyV h nv pv, tyV h' nv' pv'] w R
theorem samePart_calls (kd : Ft) (hS : SameC kd) (p q : PH) (x y : TH) (ls : Ft) (lv cv nv pv lv' cv' nv' pv' : Value) (w : World) (l1 : p.label.length ≤ maxLen) (l2 : p.cl.length ≤ maxLen) (l3 : x.names.length ≤ maxLen) (l4 : kd.len ≤ maxLen) (hga : kd.All GoodH GoodL) (hl : RdW w lv p.label) (hc : RdW w cv p.cl) (hy : RdY w x kd nv pv) (hl' : RdW w lv' q.label) (hc' : RdW w cv' q.cl) (hy' : RdY w y ls nv' pv') (R : Ending → World → Prop)
    (hR : Hid (∀ w', Below w.heap.size w w' → R (.returned (.bool (decide (p.name = q.name) && plainB p q && sameS x kd y ls))) w')) : Calls Tryz.prog 177 #[ptV p lv cv x nv pv, ptV q lv' cv' y nv' pv'] w R := by
  obtain ⟨A1, n1, rfl, -, -⟩ := hl.op
  obtain ⟨A2, n2, rfl, -, -⟩ := hc.op
  obtain ⟨A5, n5, rfl, -, -⟩ := hy.n.op
  obtain ⟨A7, n7, rfl, -⟩ := hy.p.sl
  obtain ⟨A3, n3, rfl, -, -⟩ := hl'.op
  obtain ⟨A4, n4, rfl, -, -⟩ := hc'.op
  obtain ⟨A6, n6, rfl, -, -⟩ := hy'.n.op
  obtain ⟨A8, n8, rfl, -⟩ := hy'.p.sl
  have bA := (Below.refl w.heap.size w).alloc (Nat.le_refl _) (.cells #[.string p.name, .int .i64 p.at_, .bool p.bare, .slice A1 p.label.length n1, .int .i64 p.wide, .int .i64 p.ck, .int .i64 p.cn, .int .i64 p.cat, .slice A2 p.cl.length n2, .int .i64 x.kind, .int .i64 x.at_, .int .i64 x.lo, .int .i64 x.hi, .int .i64 x.most, .slice A5 x.names.length n5, .slice A7 kd.len n7, .string x.name, .int .i64 x.nat] 92)
  have bB := bA.alloc bA.size (.cells #[.string q.name, .int .i64 q.at_, .bool q.bare, .slice A3 q.label.length n3, .int .i64 q.wide, .int .i64 q.ck, .int .i64 q.cn, .int .i64 q.cat, .slice A4 q.cl.length n4, .int .i64 y.kind, .int .i64 y.at_, .int .i64 y.lo, .int .i64 y.hi, .int .i64 y.most, .slice A6 y.names.length n6, .slice A8 ls.len n8, .string y.name, .int .i64 y.nat] 92)
  have hz : (w.alloc (.cells #[.string p.name, .int .i64 p.at_, .bool p.bare, .slice A1 p.label.length n1, .int .i64 p.wide, .int .i64 p.ck, .int .i64 p.cn, .int .i64 p.cat, .slice A2 p.cl.length n2, .int .i64 x.kind, .int .i64 x.at_, .int .i64 x.lo, .int .i64 x.hi, .int .i64 x.most, .slice A5 x.names.length n5, .slice A7 kd.len n7, .string x.name, .int .i64 x.nat] 92)).heap.size = w.heap.size + 1 := by simp
  have hA := (((Below.refl _ _).alloc (Nat.le_refl _) (.cells #[.string q.name, .int .i64 q.at_, .bool q.bare, .slice A3 q.label.length n3, .int .i64 q.wide, .int .i64 q.ck, .int .i64 q.cn, .int .i64 q.cat, .slice A4 q.cl.length n4, .int .i64 y.kind, .int .i64 y.at_, .int .i64 y.lo, .int .i64 y.hi, .int .i64 y.most, .slice A6 y.names.length n6, .slice A8 ls.len n8, .string y.name, .int .i64 y.nat] 92)).block w.heap.size (by omega)).trans (heap_alloc_new w (.cells #[.string p.name, .int .i64 p.at_, .bool p.bare, .slice A1 p.label.length n1, .int .i64 p.wide, .int .i64 p.ck, .int .i64 p.cn, .int .i64 p.cat, .slice A2 p.cl.length n2, .int .i64 x.kind, .int .i64 x.at_, .int .i64 x.lo, .int .i64 x.hi, .int .i64 x.most, .slice A5 x.names.length n5, .slice A7 kd.len n7, .string x.name, .int .i64 x.nat] 92))
  have hB := heap_alloc_new (w.alloc (.cells #[.string p.name, .int .i64 p.at_, .bool p.bare, .slice A1 p.label.length n1, .int .i64 p.wide, .int .i64 p.ck, .int .i64 p.cn, .int .i64 p.cat, .slice A2 p.cl.length n2, .int .i64 x.kind, .int .i64 x.at_, .int .i64 x.lo, .int .i64 x.hi, .int .i64 x.most, .slice A5 x.names.length n5, .slice A7 kd.len n7, .string x.name, .int .i64 x.nat] 92)) (.cells #[.string q.name, .int .i64 q.at_, .bool q.bare, .slice A3 q.label.length n3, .int .i64 q.wide, .int .i64 q.ck, .int .i64 q.cn, .int .i64 q.cat, .slice A4 q.cl.length n4, .int .i64 y.kind, .int .i64 y.at_, .int .i64 y.lo, .int .i64 y.hi, .int .i64 y.most, .slice A6 y.names.length n6, .slice A8 ls.len n8, .string y.name, .int .i64 y.nat] 92)
  rw [hz] at hB
  rw [part_eq] at hR
  replace hl := Lib.hid hl
  replace hc := Lib.hid hc
  replace hy := Lib.hid hy
  replace hl' := Lib.hid hl'
  replace hc' := Lib.hid hc'
  replace hy' := Lib.hid hy'
  replace hS := Lib.hid hS
  replace hga := Lib.hid hga
  go_enter Tryz.func177, Tryz.ntmps177
  go_upto_region 1 with fail
  generalize (w.alloc (.cells #[.string p.name, .int .i64 p.at_, .bool p.bare, .slice A1 p.label.length n1, .int .i64 p.wide, .int .i64 p.ck, .int .i64 p.cn, .int .i64 p.cat, .slice A2 p.cl.length n2, .int .i64 x.kind, .int .i64 x.at_, .int .i64 x.lo, .int .i64 x.hi, .int .i64 x.most, .slice A5 x.names.length n5, .slice A7 kd.len n7, .string x.name, .int .i64 x.nat] 92)).alloc (.cells #[.string q.name, .int .i64 q.at_, .bool q.bare, .slice A3 q.label.length n3, .int .i64 q.wide, .int .i64 q.ck, .int .i64 q.cn, .int .i64 q.cat, .slice A4 q.cl.length n4, .int .i64 y.kind, .int .i64 y.at_, .int .i64 y.lo, .int .i64 y.hi, .int .i64 y.most, .slice A6 y.names.length n6, .slice A8 ls.len n8, .string y.name, .int .i64 y.nat] 92) = V at *
  replace hA := Lib.hid hA
  replace hB := Lib.hid hB
  have nW := Lib.hid bB
  clear bA bB hz
  have u0 := (Lib.cell_of_heap hA.out 0).trans rfl
  have v0 := (Lib.cell_of_heap hB.out 0).trans rfl
  have u1 := (Lib.cell_of_heap hA.out 1).trans rfl
  have v1 := (Lib.cell_of_heap hB.out 1).trans rfl
  have cX := Lib.hid fun R hR => sameWord_calls p.name q.name p.at_ q.at_ V R hR
  generalize decide (p.name = q.name) = S at *
  go_wp2_with fail
  refine cX.out _ (Lib.hid fun w1_ n9 => ?_)
  have hA9 := Lib.hid ((n9.block _ (blt_of hA.out)).trans hA.out)
  have hB9 := Lib.hid ((n9.block _ (blt_of hB.out)).trans hB.out)
  have nW9 := Lib.hid (nW.out.trans (n9.mono nW.out.size))
  clear u0 v0 u1 v1
  clear n9 cX hA hB nW
  have hA := hA9
  have hB := hB9
  have nW := nW9
  clear hA9 hB9 nW9
  cases S
  · rw [Bool.false_and] at hR
    have fin := Lib.hid (hR.out _ nW.out)
    clear hR
    go_wp2_with fail
    exact fin.out
  · rw [Bool.true_and] at hR
    have u2 := (Lib.cell_of_heap hA.out 2).trans rfl
    have v2 := (Lib.cell_of_heap hB.out 2).trans rfl
    by_cases c : p.bare = q.bare
    · have q2 : (p.bare == q.bare) = true := by simpa using c
      rw [q2, Bool.true_and] at hR
      clear c
      have u4 := (Lib.cell_of_heap hA.out 4).trans rfl
      have v4 := (Lib.cell_of_heap hB.out 4).trans rfl
      by_cases c : p.wide = q.wide
      · have q4 : (p.wide == q.wide) = true := by simpa using c
        rw [decide_eq_true c, Bool.true_and] at hR
        clear c
        have u3 := (Lib.cell_of_heap hA.out 3).trans rfl
        have v3 := (Lib.cell_of_heap hB.out 3).trans rfl
        have cX := Lib.hid fun R hR => eqw_calls p.label q.label l1 (.slice A1 p.label.length n1) (.slice A3 q.label.length n3) w1_ (hl.out.below nW.out) (hl'.out.below nW.out) R hR
        generalize sameW p.label q.label = S at *
        go_wp2_with fail
        refine cX.out _ (Lib.hid fun w2_ n9 => ?_)
        have hA9 := Lib.hid ((n9.block _ (blt_of hA.out)).trans hA.out)
        have hB9 := Lib.hid ((n9.block _ (blt_of hB.out)).trans hB.out)
        have nW9 := Lib.hid (nW.out.trans (n9.mono nW.out.size))
        clear u2 v2 u4 v4 u3 v3
        clear n9 cX hA hB nW
        have hA := hA9
        have hB := hB9
        have nW := nW9
        clear hA9 hB9 nW9
        cases S
        · rw [Bool.false_and] at hR
          have fin := Lib.hid (hR.out _ nW.out)
          clear hR
          go_wp2_with fail
          exact fin.out
        · rw [Bool.true_and] at hR
          have u5 := (Lib.cell_of_heap hA.out 5).trans rfl
          have v5 := (Lib.cell_of_heap hB.out 5).trans rfl
          have u6 := (Lib.cell_of_heap hA.out 6).trans rfl
          have v6 := (Lib.cell_of_heap hB.out 6).trans rfl
          have u7 := (Lib.cell_of_heap hA.out 7).trans rfl
          have v7 := (Lib.cell_of_heap hB.out 7).trans rfl
          have u8 := (Lib.cell_of_heap hA.out 8).trans rfl
          have v8 := (Lib.cell_of_heap hB.out 8).trans rfl
          have cX := Lib.hid fun R hR => sameCoarse_calls p.ck p.cn p.cat q.ck q.cn q.cat p.cl q.cl (.slice A2 p.cl.length n2) (.slice A4 q.cl.length n4) w2_ l2 (hc.out.below nW.out) (hc'.out.below nW.out) R hR
          generalize coarI p.ck p.cn q.ck q.cn p.cl q.cl = S at *
          go_wp2_with fail
          refine cX.out _ (Lib.hid fun w3_ n9 => ?_)
          have hA9 := Lib.hid ((n9.block _ (blt_of hA.out)).trans hA.out)
          have hB9 := Lib.hid ((n9.block _ (blt_of hB.out)).trans hB.out)
          have nW9 := Lib.hid (nW.out.trans (n9.mono nW.out.size))
          clear u5 v5 u6 v6 u7 v7 u8 v8
          clear n9 cX hA hB nW
          have hA := hA9
          have hB := hB9
          have nW := nW9
          clear hA9 hB9 nW9
          cases S
          · rw [Bool.false_and] at hR
            have fin := Lib.hid (hR.out _ nW.out)
            clear hR
            go_wp2_with fail
            exact fin.out
          · rw [Bool.true_and] at hR
            have r9 : w3_.rangeAt w.heap.size 9 [.int .i64 x.kind, .int .i64 x.at_, .int .i64 x.lo, .int .i64 x.hi, .int .i64 x.most, .slice A5 x.names.length n5, .slice A7 kd.len n7, .string x.name, .int .i64 x.nat] := fun j v h => by rw [Lib.cell_of_heap hA.out, List.getElem?_toArray, ← List.getElem?_drop]; exact h
            have s9 : w3_.rangeAt (w.heap.size + 1) 9 [.int .i64 y.kind, .int .i64 y.at_, .int .i64 y.lo, .int .i64 y.hi, .int .i64 y.most, .slice A6 y.names.length n6, .slice A8 ls.len n8, .string y.name, .int .i64 y.nat] := fun j v h => by rw [Lib.cell_of_heap hB.out, List.getElem?_toArray, ← List.getElem?_drop]; exact h
            have cX := Lib.hid fun R hR => hS.out x y ls (.slice A5 x.names.length n5) (.slice A7 kd.len n7) (.slice A6 y.names.length n6) (.slice A8 ls.len n8) w3_ l3 l4 hga.out (hy.out.below nW.out) (hy'.out.below nW.out) R hR
            generalize sameS x kd y ls = S at *
            go_wp2_with (first | (refine wpList_load_g (by rfl) 29 _ rfl w.heap.size 9 rfl [.int .i64 x.kind, .int .i64 x.at_, .int .i64 x.lo, .int .i64 x.hi, .int .i64 x.most, .slice A5 x.names.length n5, .slice A7 kd.len n7, .string x.name, .int .i64 x.nat] _ r9 Tryz.underlying29 rfl (by kernel_rfl) ?_; go_simp) | (refine wpList_load_g (by rfl) 29 _ rfl (w.heap.size + 1) 9 rfl [.int .i64 y.kind, .int .i64 y.at_, .int .i64 y.lo, .int .i64 y.hi, .int .i64 y.most, .slice A6 y.names.length n6, .slice A8 ls.len n8, .string y.name, .int .i64 y.nat] _ s9 Tryz.underlying29 rfl (by kernel_rfl) ?_; go_simp))
            clear r9 s9
            refine cX.out _ (Lib.hid fun w4_ n9 => ?_)
            have hA9 := Lib.hid ((n9.block _ (blt_of hA.out)).trans hA.out)
            have hB9 := Lib.hid ((n9.block _ (blt_of hB.out)).trans hB.out)
            have nW9 := Lib.hid (nW.out.trans (n9.mono nW.out.size))
            clear n9 cX hA hB nW
            have hA := hA9
            have hB := hB9
            have nW := nW9
            clear hA9 hB9 nW9
            have fin := Lib.hid (hR.out _ nW.out)
            clear hR
            go_wp2_with fail
            exact fin.out
      · have q : (p.wide == q.wide) = false := by simpa using c
        have fin := Lib.hid (hR.out _ nW.out)
        rw [decide_eq_false c, Bool.false_and] at fin
        clear hR c
        go_wp2_with fail
        exact fin.out
    · have q : (p.bare == q.bare) = false := by simpa using c
      have fin := Lib.hid (hR.out _ nW.out)
      rw [q, Bool.false_and] at fin
      clear hR c
      go_wp2_with fail
      exact fin.out
end Go.Proofs.YtncijmodlhijoaaGreat.Kin
