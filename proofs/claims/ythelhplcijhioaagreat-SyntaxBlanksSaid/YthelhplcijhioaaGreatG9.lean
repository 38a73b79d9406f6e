import Derived.Test.YthelhplcijhioaaGreatZRanA
import Derived.Test.YthelhplcijhioaaGreatG22
import Derived.Great.Walk
import Derived.Deep.WholeRow
import Derived.IntWalk
/- A literal of many structs of two numbers, as an array by value and as a slice: walked by induction over the list, then the tables of the seat. -/
set_option maxRecDepth 100000
set_option linter.unusedVariables false
namespace Go.Proofs.YthelhplcijhioaaGreat.Ran
open Go.RowKit Go.Lib

section
variable {P : Program}
abbrev Key := Op × Option Tmp × Option (Nat × Bool)
def keyOf (o : Oper) : Key := (o.op, o.dst, o.guard)
/-- The builds of a list's structs into the temporaries from d on. -/
def prSpec (t : TypeId) : Nat → List Rg → List Key
  | _, [] => []
  | d, x :: xs => (.build t #[(0, .const (.int .i32 x.1)), (1, .const (.int .i32 x.2))], some d, none) :: prSpec t (d + 1) xs
theorem wpList_prs {ops : Array Oper} {rest : List Oper} {w : World} {Q : Exit → Act → World → Prop} (t : TypeId)
    (hb : ∀ x y : Int, P.built t [(0, .int .i32 x), (1, .int .i32 y)] = some #[.int .i32 x, .int .i32 y]) :
    ∀ (xs : List Rg) (bs : List Oper) (d : Nat) (a : Act), bs.map keyOf = prSpec t d xs → d + xs.length ≤ a.tmps.size →
      (∀ a' : Act, a'.tmps.size = a.tmps.size → a'.defers = a.defers → (∀ i (h : i < xs.length), a'.eval (.tmp (d + i)) = .agg (enc xs[i]).toArray) →
        (∀ j, j < d → a'.eval (.tmp j) = a.eval (.tmp j)) → wpList P ops Q rest a' w) →
      wpList P ops Q (bs ++ rest) a w
  | [], bs, d, a, hk, _, h => by
    obtain rfl : bs = [] := by simpa [prSpec] using hk
    exact h a rfl rfl (fun i hi => absurd hi (by simp)) (fun _ _ => rfl)
  | x :: xs, [], d, a, hk, hd, h => by simp [prSpec] at hk
  | x :: xs, o :: bs, d, a, hk, hd, h => by
    have hlt : d < a.tmps.size := by simp at hd; omega
    simp only [List.map_cons, prSpec, List.cons.injEq, keyOf, Prod.mk.injEq] at hk
    obtain ⟨⟨ho, hdst, hg⟩, hk⟩ := hk
    rw [List.cons_append]
    refine wpList_buildTo hg t _ ho (some d) hdst (enc x).toArray (by simpa [Act.eval, enc] using hb x.1 x.2) ?_
    refine wpList_prs t hb xs bs (d + 1) _ hk (by rw [Act.size_put]; simp at hd; omega) fun a' hs hdf hev hlow => ?_
    refine h a' (hs.trans (Act.size_put _ _ _)) (hdf.trans (Act.defers_put' _ _ _)) (fun i hi => ?_) (fun j hj => ?_)
    · cases i with
      | zero => rw [Nat.add_zero, hlow d (by omega), Act.eval_put_same _ _ _ hlt]; rfl
      | succ i =>
        have := hev i (by simpa using hi)
        rw [show d + (i + 1) = d + 1 + i by omega, this]
        rfl
    · rw [hlow j (by omega), Act.eval_put_ne _ _ _ _ (by omega)]

def tmpParts (d n : Nat) : List (Nat × Operand) := (List.range n).map fun i => (i, Operand.tmp (d + i))
theorem parts_eq (a : Act) (T : List Rg) (d : Nat) (hev : ∀ i (h : i < T.length), a.eval (.tmp (d + i)) = .agg (enc T[i]).toArray) :
    ((tmpParts d T.length).toArray.map fun (i, x) => (i, a.eval x)).toList = ((T.map fun x => Value.agg (enc x).toArray).zipIdx 0).map fun x => (x.2, x.1) := by
  rw [Array.toList_map]
  apply List.ext_getElem
  · simp [tmpParts]
  · intro i h1 h2
    have hi : i < T.length := by simpa [tmpParts] using h1
    simp only [tmpParts, List.getElem_map, List.getElem_range, List.getElem_zipIdx, Nat.zero_add]
    rw [hev i hi]
theorem fill_prs (T : List Rg) (cells : Array Value) (h : T.length * 2 = cells.size) :
    Instr.fill (fun i => some (i * 2, 2)) cells (((T.map fun x => Value.agg (enc x).toArray).zipIdx 0).map fun x => (x.2, x.1)) = some (flat T).toArray := by
  rw [Great.fill_whole (s := 2) (by omega) _ cells (fun v hv => by obtain ⟨x, _, rfl⟩ := List.mem_map.1 hv; rfl) (by simpa using h)]
  simp [List.flatMap_map, Value.cells, flat]
theorem flat_all (T : List Rg) : (flat T).toArray.all (·.oneCell') = true := by
  rw [Array.all_eq_true_iff_forall_mem]
  intro v hv
  simp [flat, enc] at hv
  obtain ⟨a, b, -, h⟩ := hv
  rcases h with rfl | rfl <;> rfl
theorem flat_size (T : List Rg) : (flat T).toArray.size = T.length * 2 := by simp [flat_len]

/-- The operations of a function that hands back an array literal, behind the result's own block. -/
def arrOps (ta te : TypeId) (T : List Rg) : List Key :=
  prSpec te 1 T ++ [(.build ta (tmpParts 1 T.length).toArray, some (T.length + 1), none), (.store ta (.tmp 0) (.tmp (T.length + 1)), none, none)]
theorem wp_tabArr {Q : Exit → Act → World → Prop} {a : Act} {w : World} {o0 : Oper} {ops : List Oper} (ta te : TypeId) (n : Nat) (T : List Rg)
    (h0 : keyOf o0 = (.alloc ta, some 0, none)) (hops : ops.map keyOf = arrOps ta te T)
    (hu : P.underlying ta = some (.array n te)) (hsz : (P.info? te).map (·.size) = some 2) (hz : ((P.info? ta).bind (·.zero)).map (·.cells.size) = some (T.length * 2)) (hs2 : (P.info? ta).map (·.size) = some (T.length * 2))
    (hb : ∀ x y : Int, P.built te [(0, .int .i32 x), (1, .int .i32 y)] = some #[.int .i32 x, .int .i32 y])
    (ha : a.tmps.size = T.length + 2) (hd : a.defers = [])
    (h : ∀ a' : Act, a'.tmps.getD 0 undef = .pointer (some ⟨w.heap.size, 0, none⟩) → a'.defers = [] → Q .ret a' (w.alloc (.cells (flat T).toArray ta))) :
    Code.wp P ((Code.region 0 [o0].toArray false).seq ((Code.region 1 ops.toArray false).seq .ret)) Q a w := by
  simp only [keyOf, Prod.mk.injEq] at h0
  obtain ⟨h01, h02, h03⟩ := h0
  cases hie : P.info? te with
  | none => simp [hie] at hsz
  | some ie =>
  cases hit : P.info? ta with
  | none => simp [hit] at hz
  | some it =>
  cases hzz : it.zero with
  | none => simp [hit, hzz] at hz
  | some z =>
  simp only [hie, hit, hzz, Option.map_some, Option.some.injEq, Option.bind_some] at hsz hz hs2
  apply wp_seq_k; intro K0 hK0
  apply wp_region_lit
  refine Great.wpList_allocTo h03 (some 0) h02 (.pointer (some ⟨w.heap.size, 0, none⟩)) (.cells z.cells ta) (by simp [execOp, h01, Instr.alloc, newVar, newRow, zeroValue, typeInfo, hit, hzz]) ?_
  apply wpList_nil
  refine hK0 _ _ ?_
  clear hK0 K0
  apply wp_seq_k; intro K0 hK0
  apply wp_region_lit
  obtain ⟨bs, tl, rfl, e1, e2⟩ := List.map_eq_append_iff.1 hops
  obtain ⟨ob, tl, rfl, e3, e2⟩ := List.map_eq_cons_iff.1 e2
  obtain ⟨os, tl, rfl, e4, e2⟩ := List.map_eq_cons_iff.1 e2
  obtain rfl : tl = [] := by simpa using e2
  simp only [keyOf, Prod.mk.injEq] at e3 e4
  obtain ⟨b1, b2, b3⟩ := e3
  obtain ⟨s1, s2, s3⟩ := e4
  refine wpList_prs te hb T bs 1 _ e1 (by rw [Act.size_put]; omega) fun a' hs hdf hev hlow => ?_
  have hp0 : a'.eval (.tmp 0) = .pointer (some ⟨w.heap.size, 0, none⟩) := by rw [hlow 0 (by omega), Act.eval_put_same _ _ _ (by omega)]
  rw [Act.size_put] at hs
  rw [Act.defers_put'] at hdf
  refine wpList_buildTo b3 ta _ b1 (some (T.length + 1)) b2 (flat T).toArray ?_ ?_
  · unfold Program.built
    simp only [hit, hu, hzz, hie]
    rw [parts_eq a' T 1 hev, hsz]
    exact fill_prs T _ hz.symm
  refine wpList_store_rowTo s3 ta _ _ s1 s2 w.heap.size (flat T).toArray (by rw [Act.eval_put_ne _ _ _ _ (by omega)]; exact hp0) (Act.eval_put_same _ _ _ (by omega)) ta z.cells (heap_alloc_last w _) (by rw [hit, flat_size]; exact congrArg some hs2) (by rw [flat_size]; exact hz) (flat_all T) ?_
  apply wpList_nil
  refine hK0 _ _ ?_
  rw [World.setRow_alloc_new]
  refine wp_ret (h _ ?_ ?_)
  · have := Act.eval_put_ne a' (T.length + 1) 0 (.agg (flat T).toArray) (by omega)
    exact this.trans hp0
  · rw [Act.defers_put', hdf, hd]
theorem results_cell1 {fn : Func} {p : Tmp} {ty : TypeId} (h : fn.results = #[.cell p ty]) (tmps : Array Value) (w : World) (b : Addr) (v : Value) (hp : tmps.getD p undef = .pointer (some b)) (hl : (loadVar ty b).run P w = .ok v w) :
    (results fn tmps).run P w = .ok v w := by
  rw [Array.getD_eq_getD_getElem?] at hp
  simp only [results, h]
  simp [hp, asAddr, hl]
theorem results_tmp1 {fn : Func} {p : Tmp} (h : fn.results = #[.tmp p]) (tmps : Array Value) (w : World) (v : Value) (hp : tmps.getD p undef = v) : (results fn tmps).run P w = .ok v w := by
  rw [Array.getD_eq_getD_getElem?] at hp
  simp only [results, h]
  simp [hp]

/-- The operations of a function that hands back a slice literal. -/
def slOps (ts te : TypeId) (T : List Rg) : List Key :=
  prSpec te 1 T ++ [(.buildSlice ts T.length (tmpParts 1 T.length).toArray, some (T.length + 1), none), (.assign (.tmp (T.length + 1)), some 0, none)]
theorem wp_tabSl {Q : Exit → Act → World → Prop} {a : Act} {w : World} {o0 : Oper} {ops : List Oper} (ts te : TypeId) (T : List Rg) (v0 : Value)
    (h0 : keyOf o0 = (.assign (.const v0), some 0, none)) (hops : ops.map keyOf = slOps ts te T)
    (hu : P.underlying ts = some (.slice te)) (hsz : (P.info? te).map (·.size) = some 2) (hz : ((P.info? te).bind (·.zero)).isSome = true)
    (hb : ∀ x y : Int, P.built te [(0, .int .i32 x), (1, .int .i32 y)] = some #[.int .i32 x, .int .i32 y])
    (hpos : 0 < T.length) (hsmall : T.length * 2 ≤ 2 ^ 24) (ha : a.tmps.size = T.length + 2) (hd : a.defers = [])
    (h : ∀ a' : Act, a'.tmps.getD 0 undef = .slice (some ⟨w.heap.size, 0, none⟩) T.length T.length → a'.defers = [] → Q .ret a' (w.alloc (.cells (flat T).toArray te))) :
    Code.wp P ((Code.region 0 [o0].toArray false).seq ((Code.region 1 ops.toArray false).seq .ret)) Q a w := by
  simp only [keyOf, Prod.mk.injEq] at h0
  obtain ⟨h01, h02, h03⟩ := h0
  cases hie : P.info? te with
  | none => simp [hie] at hsz
  | some ie =>
  simp only [hie, Option.map_some, Option.some.injEq, Option.bind_some] at hsz hz
  obtain ⟨z, hzz⟩ := Option.isSome_iff_exists.1 hz
  apply wp_seq_k; intro K0 hK0
  apply wp_region_lit
  refine Great.wpList_readTo h03 (some 0) h02 v0 (by simp [execOp, h01, Act.eval]) ?_
  apply wpList_nil
  refine hK0 _ _ ?_
  clear hK0 K0
  apply wp_seq_k; intro K0 hK0
  apply wp_region_lit
  obtain ⟨bs, tl, rfl, e1, e2⟩ := List.map_eq_append_iff.1 hops
  obtain ⟨ob, tl, rfl, e3, e2⟩ := List.map_eq_cons_iff.1 e2
  obtain ⟨os, tl, rfl, e4, e2⟩ := List.map_eq_cons_iff.1 e2
  obtain rfl : tl = [] := by simpa using e2
  simp only [keyOf, Prod.mk.injEq] at e3 e4
  obtain ⟨b1, b2, b3⟩ := e3
  obtain ⟨s1, s2, s3⟩ := e4
  refine wpList_prs te hb T bs 1 _ e1 (by rw [Act.size_put]; omega) fun a' hs hdf hev hlow => ?_
  rw [Act.size_put] at hs
  rw [Act.defers_put'] at hdf
  refine wpList_buildSlice b3 ts te T.length _ b1 (flat T).toArray ie z hu hie hzz (by rw [hsz]; omega) (by rw [hsz]; omega) ?_ ?_
  · rw [parts_eq a' T 1 hev, hsz]
    exact fill_prs T _ (by simp)
  rw [b2]
  refine Great.wpList_readTo s3 (some 0) s2 (.slice (some ⟨w.heap.size, 0, none⟩) T.length T.length) (by simp only [execOp, s1]; rw [Act.eval_put_same _ _ _ (by omega)]; rfl) ?_
  apply wpList_nil
  refine hK0 _ _ ?_
  refine wp_ret (h _ ?_ ?_)
  · exact Act.eval_put_same _ 0 _ (by rw [Act.size_put]; omega)
  · rw [Act.defers_put', Act.defers_put', hdf, hd]
end

theorem bdN {B : Nat} {a w : World} (h : Below B a w) (n : Nat) : Below B a (w.drewN n) := h.trans ⟨rfl, rfl, rfl, Nat.le_refl _, fun _ _ => rfl⟩
theorem cellNew (w : World) (v : Value) (t : TypeId) : (w.alloc (.cells #[v] t)).cell? ⟨w.heap.size, 0, none⟩ = some v := cell_of_row _ _ 0 _ t (0, 0) (heap_alloc_last w _)
theorem cellNew2 (w : World) (v u : Value) (t s : TypeId) : ((w.alloc (.cells #[v] t)).alloc (.cells #[u] s)).cell? ⟨w.heap.size, 0, none⟩ = some v := by
  have b : Below (w.heap.size + 1) (w.alloc (.cells #[v] t)) ((w.alloc (.cells #[v] t)).alloc (.cells #[u] s)) := (Below.refl _ _).alloc (by simp) _
  rw [b.cell (p := ⟨w.heap.size, 0, none⟩) (by simp)]; exact cellNew _ _ _
/-- A new block of a list's cells reads as that list. -/
theorem rdR_new (w : World) (T : List Rg) (t : TypeId) : RdR (w.alloc (.cells (flat T).toArray t)) (.slice (some ⟨w.heap.size, 0, none⟩) T.length T.length) T :=
  ⟨_, _, _, rfl, by rw [flat_len], Nat.le_refl _, fun _ => ⟨w.heap.size, 0, rfl, by simp, fun j u hj => by
    rw [Nat.zero_add]
    have : (w.alloc (.cells (flat T).toArray t)).cell? ⟨w.heap.size, j, none⟩ = (flat T).toArray[j]? := cell_of_row _ _ j _ t (0, 0) (heap_alloc_last w _)
    rw [this]; simpa using hj⟩⟩

theorem rdR_newC (w : World) (T : List Rg) (t : TypeId) (C : Array Value) (n : Nat) (hC : C = (flat T).toArray) (hn : T.length = n) : RdR (w.alloc (.cells C t)) (.slice (some ⟨w.heap.size, 0, none⟩) n n) T := by
  subst hC hn; exact rdR_new w T t
/-- A row of some block is such a list. -/
theorem rdR_row {w : World} {g n : Nat} {T : List Rg} {t : TypeId} {C : Array Value} (hw : w.heap[g]? = some (.cells C t (0, 0))) (hC : C = (flat T).toArray) (hn : T.length = n) : RdR w (.slice (some ⟨g, 0, none⟩) n n) T := by
  subst hC hn
  refine ⟨_, _, _, rfl, by rw [flat_len], Nat.le_refl _, fun _ => ⟨g, 0, rfl, ?_, fun j u hj => ?_⟩⟩
  · exact (Array.getElem?_eq_some_iff.1 hw).1
  · rw [Nat.zero_add, cell_of_row _ _ j _ t (0, 0) hw]; simpa using hj
theorem heap_old (w : World) (o : Obj) (k : Nat) (x : Obj) (h : w.heap[k]? = some x) : (w.alloc o).heap[k]? = some x := by
  rw [Below.heap_alloc _ _ _ (Array.getElem?_eq_some_iff.1 h).1]; exact h
theorem setRow_old (w : World) (g k : Nat) (cs : Array Value) (x : Obj) (hk : k ≠ g) (h : w.heap[k]? = some x) : (w.setRow g cs).heap[k]? = some x := by rw [setRow_other _ _ _ _ hk]; exact h
theorem below_setRow {B : Nat} {a w : World} (h : Below B a w) {g : Nat} (hg : B ≤ g) (cs : Array Value) : Below B a (w.setRow g cs) :=
  ⟨h.os, h.tape, h.output, by rw [setRow_size]; exact h.size, fun k hk => by rw [setRow_other _ _ _ _ (by omega)]; exact h.block k hk⟩
/-- A whole row into a block that stands. -/
theorem storeRow {P : Program} (w : World) (g : Nat) (t : TypeId) (Z C : Array Value) (hw : w.heap[g]? = some (.cells Z t (0, 0))) (hz : Z.size = C.size) (h1 : C.all (·.oneCell') = true) :
    (storeCells ⟨g, 0, none⟩ C.toList 0).run P w = .ok () (w.setRow g C) := by
  have := run_storeCells_from (P := P) g t C.toList 0 Z w hw (by simp [hz]) (fun v hv => (Array.all_eq_true_iff_forall_mem.1 h1) v (by simpa using hv))
  simpa using this

/-- Four blocks are made, then each is written whole. -/
theorem four_rows {P : Program} (w : World) (Z1 Z2 Z3 Z4 C1 C2 C3 C4 : Array Value) (t1 t2 t3 t4 : TypeId) (s1 : Z1.size = C1.size) (s2 : Z2.size = C2.size) (s3 : Z3.size = C3.size) (s4 : Z4.size = C4.size)
    (o1 : C1.all (·.oneCell') = true) (o2 : C2.all (·.oneCell') = true) (o3 : C3.all (·.oneCell') = true) (o4 : C4.all (·.oneCell') = true) :
    ∃ W1 W2 W3 W4, (storeCells ⟨w.heap.size, 0, none⟩ C1.toList 0).run P ((((w.alloc (.cells Z1 t1)).alloc (.cells Z2 t2)).alloc (.cells Z3 t3)).alloc (.cells Z4 t4)) = .ok () W1 ∧
      (storeCells ⟨w.heap.size + 1, 0, none⟩ C2.toList 0).run P W1 = .ok () W2 ∧ (storeCells ⟨w.heap.size + 1 + 1, 0, none⟩ C3.toList 0).run P W2 = .ok () W3 ∧
      (storeCells ⟨w.heap.size + 1 + 1 + 1, 0, none⟩ C4.toList 0).run P W3 = .ok () W4 ∧ Below w.heap.size w W4 ∧
      W4.heap[w.heap.size]? = some (.cells C1 t1 (0, 0)) ∧ W4.heap[w.heap.size + 1]? = some (.cells C2 t2 (0, 0)) ∧ W4.heap[w.heap.size + 1 + 1]? = some (.cells C3 t3 (0, 0)) ∧ W4.heap[w.heap.size + 1 + 1 + 1]? = some (.cells C4 t4 (0, 0)) := by
  have b : Below w.heap.size w ((((w.alloc (.cells Z1 t1)).alloc (.cells Z2 t2)).alloc (.cells Z3 t3)).alloc (.cells Z4 t4)) :=
    ((((Below.refl _ _).alloc (Nat.le_refl _) _).alloc (by simp) _).alloc (by simp; omega) _).alloc (by simp; omega) _
  have a1 : ((((w.alloc (.cells Z1 t1)).alloc (.cells Z2 t2)).alloc (.cells Z3 t3)).alloc (.cells Z4 t4)).heap[w.heap.size]? = some (.cells Z1 t1 (0, 0)) := heap_old _ _ _ _ (heap_old _ _ _ _ (heap_old _ _ _ _ (heap_alloc_last _ _)))
  have a2 : ((((w.alloc (.cells Z1 t1)).alloc (.cells Z2 t2)).alloc (.cells Z3 t3)).alloc (.cells Z4 t4)).heap[w.heap.size + 1]? = some (.cells Z2 t2 (0, 0)) := heap_old _ _ _ _ (heap_old _ _ _ _ (by
    have := heap_alloc_last (w.alloc (.cells Z1 t1)) (.cells Z2 t2); rwa [show (w.alloc (.cells Z1 t1)).heap.size = w.heap.size + 1 by simp] at this))
  have a3 : ((((w.alloc (.cells Z1 t1)).alloc (.cells Z2 t2)).alloc (.cells Z3 t3)).alloc (.cells Z4 t4)).heap[w.heap.size + 1 + 1]? = some (.cells Z3 t3 (0, 0)) := heap_old _ _ _ _ (by
    have := heap_alloc_last ((w.alloc (.cells Z1 t1)).alloc (.cells Z2 t2)) (.cells Z3 t3); rwa [show ((w.alloc (.cells Z1 t1)).alloc (.cells Z2 t2)).heap.size = w.heap.size + 1 + 1 by simp] at this)
  have a4 : ((((w.alloc (.cells Z1 t1)).alloc (.cells Z2 t2)).alloc (.cells Z3 t3)).alloc (.cells Z4 t4)).heap[w.heap.size + 1 + 1 + 1]? = some (.cells Z4 t4 (0, 0)) := by
    have := heap_alloc_last (((w.alloc (.cells Z1 t1)).alloc (.cells Z2 t2)).alloc (.cells Z3 t3)) (.cells Z4 t4); rwa [show (((w.alloc (.cells Z1 t1)).alloc (.cells Z2 t2)).alloc (.cells Z3 t3)).heap.size = w.heap.size + 1 + 1 + 1 by simp] at this
  generalize (((w.alloc (.cells Z1 t1)).alloc (.cells Z2 t2)).alloc (.cells Z3 t3)).alloc (.cells Z4 t4) = W at *
  have c2 := setRow_old W w.heap.size (w.heap.size + 1) C1 _ (by omega) a2
  have c3 := setRow_old _ (w.heap.size + 1) (w.heap.size + 1 + 1) C2 _ (by omega) (setRow_old W w.heap.size _ C1 _ (by omega) a3)
  have c4 := setRow_old _ (w.heap.size + 1 + 1) (w.heap.size + 1 + 1 + 1) C3 _ (by omega) (setRow_old _ (w.heap.size + 1) _ C2 _ (by omega) (setRow_old W w.heap.size _ C1 _ (by omega) a4))
  refine ⟨_, _, _, _, storeRow _ _ t1 Z1 C1 a1 s1 o1, storeRow _ _ t2 Z2 C2 c2 s2 o2, storeRow _ _ t3 Z3 C3 c3 s3 o3, storeRow _ _ t4 Z4 C4 c4 s4 o4, ?_, ?_, ?_, ?_, ?_⟩
  · exact below_setRow (below_setRow (below_setRow (below_setRow b (Nat.le_refl _) _) (by omega) _) (by omega) _) (by omega) _
  · exact setRow_old _ _ _ _ _ (by omega) (setRow_old _ _ _ _ _ (by omega) (setRow_old _ _ _ _ _ (by omega) (setRow_heap _ _ _ _ _ _ a1)))
  · exact setRow_old _ _ _ _ _ (by omega) (setRow_old _ _ _ _ _ (by omega) (setRow_heap _ _ _ _ _ _ c2))
  · exact setRow_old _ _ _ _ _ (by omega) (setRow_heap _ _ _ _ _ _ c3)
  · exact setRow_heap _ _ _ _ _ _ c4

set_option maxRecDepth 1000000
theorem built_span : ∀ x y : Int, Tryz.prog.built 176 [(0, .int .i32 x), (1, .int .i32 y)] = some #[.int .i32 x, .int .i32 y] := fun _ _ => by kernel_rfl
theorem built_rg : ∀ x y : Int, Tryz.prog.built 147 [(0, .int .i32 x), (1, .int .i32 y)] = some #[.int .i32 x, .int .i32 y] := fun _ _ => by kernel_rfl
theorem bidiTable_calls (w : World) (R : Ending → World → Prop) (hR : Hid (∀ C w', C = (flat bidiT).toArray → Below w.heap.size w w' → R (.returned (.agg C)) w')) : Calls Tryz.prog 140 #[] w R := by
  go_enter Tryz.func140, Tryz.ntmps140
  refine wp_tabArr 179 176 4 bidiT rfl (by kernel_rfl) (by kernel_rfl) (by kernel_rfl) (by kernel_rfl) (by kernel_rfl) built_span (by kernel_rfl) rfl fun a' hp hd => ?_
  exact bodyPost_ret (results_cell1 rfl _ _ _ _ hp (run_loadVar_new w _ _ 4 176 (by kernel_rfl) (by kernel_rfl))) hd (hR.out _ _ rfl ((Below.refl _ _).alloc (Nat.le_refl _) _))
theorem controlTable_calls (w : World) (R : Ending → World → Prop) (hR : Hid (∀ C w', C = (flat controlT).toArray → Below w.heap.size w w' → R (.returned (.agg C)) w')) : Calls Tryz.prog 139 #[] w R := by
  go_enter Tryz.func139, Tryz.ntmps139
  refine wp_tabArr 177 176 2 controlT rfl (by kernel_rfl) (by kernel_rfl) (by kernel_rfl) (by kernel_rfl) (by kernel_rfl) built_span (by kernel_rfl) rfl fun a' hp hd => ?_
  exact bodyPost_ret (results_cell1 rfl _ _ _ _ hp (run_loadVar_new w _ _ 2 176 (by kernel_rfl) (by kernel_rfl))) hd (hR.out _ _ rfl ((Below.refl _ _).alloc (Nat.le_refl _) _))
theorem separatorTable_calls (w : World) (R : Ending → World → Prop) (hR : Hid (∀ C w', C = (flat separatorT).toArray → Below w.heap.size w w' → R (.returned (.agg C)) w')) : Calls Tryz.prog 142 #[] w R := by
  go_enter Tryz.func142, Tryz.ntmps142
  refine wp_tabArr 183 176 1 separatorT rfl (by kernel_rfl) (by kernel_rfl) (by kernel_rfl) (by kernel_rfl) (by kernel_rfl) built_span (by kernel_rfl) rfl fun a' hp hd => ?_
  exact bodyPost_ret (results_cell1 rfl _ _ _ _ hp (run_loadVar_new w _ _ 1 176 (by kernel_rfl) (by kernel_rfl))) hd (hR.out _ _ rfl ((Below.refl _ _).alloc (Nat.le_refl _) _))
theorem formatTable_calls (w : World) (R : Ending → World → Prop) (hR : Hid (∀ C w', C = (flat formatT).toArray → Below w.heap.size w w' → R (.returned (.agg C)) w')) : Calls Tryz.prog 141 #[] w R := by
  go_enter Tryz.func141, Tryz.ntmps141
  refine wp_tabArr 181 176 17 formatT rfl (by kernel_rfl) (by kernel_rfl) (by kernel_rfl) (by kernel_rfl) (by kernel_rfl) built_span (by kernel_rfl) rfl fun a' hp hd => ?_
  exact bodyPost_ret (results_cell1 rfl _ _ _ _ hp (run_loadVar_new w _ _ 17 176 (by kernel_rfl) (by kernel_rfl))) hd (hR.out _ _ rfl ((Below.refl _ _).alloc (Nat.le_refl _) _))
theorem refbidi_calls (w : World) (R : Ending → World → Prop) (hR : Hid (∀ v w', RdR w' v bidiT → Below w.heap.size w w' → R (.returned v) w')) : Calls Tryz.prog 76 #[] w R := by
  go_enter Tryz.func76, Tryz.ntmps76
  refine wp_tabSl 125 147 bidiT (.slice none 0 0) rfl (by kernel_rfl) (by kernel_rfl) (by kernel_rfl) (by kernel_rfl) built_rg (of_decide_eq_true (by kernel_rfl)) (of_decide_eq_true (by kernel_rfl)) (by kernel_rfl) rfl fun a' hp hd => ?_
  exact bodyPost_ret (results_tmp1 rfl _ _ _ hp) hd (hR.out _ _ (rdR_new w _ _) ((Below.refl _ _).alloc (Nat.le_refl _) _))
theorem refformat_calls (w : World) (R : Ending → World → Prop) (hR : Hid (∀ v w', RdR w' v formatT → Below w.heap.size w w' → R (.returned v) w')) : Calls Tryz.prog 77 #[] w R := by
  go_enter Tryz.func77, Tryz.ntmps77
  refine wp_tabSl 125 147 formatT (.slice none 0 0) rfl (by kernel_rfl) (by kernel_rfl) (by kernel_rfl) (by kernel_rfl) built_rg (of_decide_eq_true (by kernel_rfl)) (of_decide_eq_true (by kernel_rfl)) (by kernel_rfl) rfl fun a' hp hd => ?_
  exact bodyPost_ret (results_tmp1 rfl _ _ _ hp) hd (hR.out _ _ (rdR_new w _ _) ((Below.refl _ _).alloc (Nat.le_refl _) _))
theorem refZero_calls (w : World) (R : Ending → World → Prop) (hR : Hid (∀ v w', RdR w' v zeroT → Below w.heap.size w w' → R (.returned v) w')) : Calls Tryz.prog 115 #[] w R := by
  go_enter Tryz.func115, Tryz.ntmps115
  refine wp_tabSl 125 147 zeroT (.slice none 0 0) rfl (by kernel_rfl) (by kernel_rfl) (by kernel_rfl) (by kernel_rfl) built_rg (of_decide_eq_true (by kernel_rfl)) (of_decide_eq_true (by kernel_rfl)) (by kernel_rfl) rfl fun a' hp hd => ?_
  exact bodyPost_ret (results_tmp1 rfl _ _ _ hp) hd (hR.out _ _ (rdR_new w _ _) ((Below.refl _ _).alloc (Nat.le_refl _) _))
theorem refWide_calls (w : World) (R : Ending → World → Prop) (hR : Hid (∀ v w', RdR w' v wideT → Below w.heap.size w w' → R (.returned v) w')) : Calls Tryz.prog 114 #[] w R := by
  go_enter Tryz.func114, Tryz.ntmps114
  refine wp_tabSl 125 147 wideT (.slice none 0 0) rfl (by kernel_rfl) (by kernel_rfl) (by kernel_rfl) (by kernel_rfl) built_rg (of_decide_eq_true (by kernel_rfl)) (of_decide_eq_true (by kernel_rfl)) (by kernel_rfl) rfl fun a' hp hd => ?_
  exact bodyPost_ret (results_tmp1 rfl _ _ _ hp) hd (hR.out _ _ (rdR_new w _ _) ((Below.refl _ _).alloc (Nat.le_refl _) _))
end Go.Proofs.YthelhplcijhioaaGreat.Ran

/- A look into a table: sort.Search over a function literal, and within. -/
set_option maxRecDepth 100000
set_option linter.unusedVariables false
namespace Go.Proofs.YthelhplcijhioaaGreat.Ran
open Go.RowKit Go.Lib

set_option maxRecDepth 100000 in
theorem within1_calls (T : List Rg) (r : Int) (k : Nat) (tv : Value) (w : World) (p2 p3 : Nat) (hx : RdR w tv T) (hk : k < T.length) (hT : T.length ≤ 1000000)
    (h2 : w.cell? ⟨p2, 0, none⟩ = some tv) (h3 : w.cell? ⟨p3, 0, none⟩ = some (.int .i32 r)) (R : Ending → World → Prop)
    (hR : Hid (∀ w', Below w.heap.size w w' → R (.returned (.bool (decide (r ≤ (T.getD k (0, 0)).2)))) w')) :
    Calls Tryz.prog 153 #[.int .i64 k, .pointer (some ⟨p2, 0, none⟩), .pointer (some ⟨p3, 0, none⟩)] w R := by
  obtain ⟨A, c, rfl, hlc, hr⟩ := hx.open
  obtain ⟨g, o, rfl, hg, hca⟩ := hr (by omega)
  obtain ⟨e0, e1⟩ := hca k hk
  clear hca hr hx e0
  generalize (T.getD k (0, 0)).2 = Y at *
  by_cases t : r ≤ Y
  · rw [decide_eq_true t] at hR
    go_enter Tryz.func153, Tryz.ntmps153
    go_wp2_with fail
    go_quiet (fail)
    go_wp2_with fail
    exact hR.out _ (bdN (Below.refl _ _) _)
  · rw [decide_eq_false t] at hR
    go_enter Tryz.func153, Tryz.ntmps153
    go_wp2_with fail
    go_quiet (fail)
    go_wp2_with fail
    exact retB (hR.out _ (bdN (Below.refl _ _) _)) (decide_eq_false (by omega)).symm

set_option maxRecDepth 100000 in
set_option maxHeartbeats 1000000 in
theorem searchW_calls (T : List Rg) (r : Int) (tv : Value) (w : World) (p2 p3 : Nat) (hx : RdR w tv T) (hc : Can 0 T)
    (h2 : w.cell? ⟨p2, 0, none⟩ = some tv) (h3 : w.cell? ⟨p3, 0, none⟩ = some (.int .i32 r)) (b2 : p2 < w.heap.size) (b3 : p3 < w.heap.size) (R : Ending → World → Prop)
    (hR : Hid (∀ (i : Nat) w', i ≤ T.length → hasB T r = (decide (i < T.length) && decide ((T.getD i (0, 0)).1 ≤ r)) → Below w.heap.size w w' → R (.returned (.int .i64 i)) w')) :
    Calls Tryz.prog 152 #[.int .i64 T.length, .func (.func 153) #[] #[.pointer (some ⟨p2, 0, none⟩), .pointer (some ⟨p3, 0, none⟩)]] w R := by
  have hl := can_len0 hc
  have hC := Lib.hid hc
  clear hc
  have hF := fun (W : World) (hb : Below w.heap.size w W) (k : Nat) (hk : k < T.length) R hR => within1_calls T r k tv W p2 p3 (hx.below hb) hk (by omega) ((hb.cell (p := ⟨p2, 0, none⟩) b2).trans h2) ((hb.cell (p := ⟨p3, 0, none⟩) b3).trans h3) R hR
  replace hF := Lib.hid hF
  clear hx h2 h3
  go_enter Tryz.func152, Tryz.ntmps152
  go_wp2_with fail
  go_loopg [5, 6] T.length (fun k i j wr => ∃ (I J : Nat), Below w.heap.size w wr ∧ i = .int .i64 I ∧ j = .int .i64 J ∧ I ≤ J ∧ J ≤ T.length ∧ J - I ≤ k ∧
    Hid ((∀ k, k < I → (T.getD k (0, 0)).2 < r) ∧ (∀ k, J ≤ k → k < T.length → r ≤ (T.getD k (0, 0)).2)))
  case atStart => exact ⟨0, T.length, Below.refl _ _, rfl, rfl, by omega, by omega, by omega, fun k h => by omega, fun k h1 h2 => by omega⟩
  case round =>
    obtain ⟨I, J, hbel, rfl, rfl, c1, c2, c3, c4⟩ := hrel
    have hsz := hbel.size
    by_cases hK : I < J
    · obtain ⟨k, rfl⟩ : ∃ k, gk = k + 1 := ⟨gk - 1, by omega⟩
      obtain ⟨M, hM⟩ : ∃ M : Nat, ((I : Int) + J) / 2 = M := ⟨(I + J) / 2, by omega⟩
      have m1 : I ≤ M := by omega
      have m2 : M < J := by omega
      have lo : (T.getD M (0, 0)).2 < r → ∀ k, k < M + 1 → (T.getD k (0, 0)).2 < r := by
        intro h k hk
        by_cases t : k = M
        · subst t; exact h
        · have a := can_lt hC.out k M (by omega) (by omega)
          have b := (can_get hC.out (show M < T.length by omega)).2.1
          omega
      have up : r ≤ (T.getD M (0, 0)).2 → ∀ k, M ≤ k → k < T.length → r ≤ (T.getD k (0, 0)).2 := by
        intro h k hk hk2
        by_cases t : k = M
        · subst t; exact h
        · have a := can_lt hC.out M k (by omega) (by omega)
          have b := (can_get hC.out hk2).2.1
          omega
      have hf := fun (W : World) (hb : Below w.heap.size w W) R hR => hF.out W hb M (by omega) R hR
      generalize (T.getD M (0, 0)).2 = Y at *
      replace lo := Lib.hid lo
      replace up := Lib.hid up
      replace hf := Lib.hid hf
      by_cases t : r ≤ Y
      · rw [decide_eq_true t] at hf
        go_wp2_with fail
        refine hf.out _ hbel _ (fun w1 h1 => ?_)
        have hb1 := hbel.trans (h1.mono hsz)
        go_wp2_with fail
        go_roundg k
        case measure => omega
        case rel => exact ⟨I, M, hb1, rfl, by go_num, by omega, by omega, by omega, c4.out.1, up.out t⟩
      · rw [decide_eq_false t] at hf
        go_wp2_with fail
        refine hf.out _ hbel _ (fun w1 h1 => ?_)
        have hb1 := hbel.trans (h1.mono hsz)
        go_wp2_with fail
        go_roundg k
        case measure => omega
        case rel => exact ⟨M + 1, J, hb1, by go_num, rfl, by omega, by omega, by omega, lo.out (by omega), c4.out.2⟩
    · obtain rfl : I = J := by omega
      have hB := hasB_at hC.out I c2 c4.out.1 c4.out.2
      replace hB := Lib.hid hB
      clear c4
      go_wp2_with fail
      exact hR.out I _ c2 hB.out hbel

set_option maxRecDepth 100000 in
set_option maxHeartbeats 1000000 in
theorem within_calls (T : List Rg) (r : Int) (tv : Value) (w : World) (hx : RdR w tv T) (hc : Can 0 T) (R : Ending → World → Prop)
    (hR : Hid (∀ w', Below w.heap.size w w' → R (.returned (.bool (hasB T r))) w')) : Calls Tryz.prog 143 #[tv, .int .i32 r] w R := by
  obtain ⟨A, c, rfl, hlc, hr⟩ := hx.open
  have hl := can_len0 hc
  have hmf : ∀ (fn : Fn) (first cap : Array Value) (w : World), (Instr.makeFunc fn first cap).run Tryz.prog w = .ok (.func fn first cap) w := fun _ _ _ _ => rfl
  have b5 := ((Below.refl w.heap.size w).alloc (Nat.le_refl _) (.cells #[.slice A T.length c] 186)).alloc (by simp) (.cells #[.int .i32 r] 21)
  have k5 := cellNew2 w (.slice A T.length c) (.int .i32 r) 186 21
  have k6 : ((w.alloc (.cells #[.slice A T.length c] 186)).alloc (.cells #[.int .i32 r] 21)).cell? ⟨w.heap.size + 1, 0, none⟩ = some (.int .i32 r) := by
    rw [show w.heap.size + 1 = (w.alloc (.cells #[.slice A T.length c] 186)).heap.size by simp]; exact cellNew _ _ _
  have zz : ((w.alloc (.cells #[.slice A T.length c] 186)).alloc (.cells #[.int .i32 r] 21)).heap.size = w.heap.size + 1 + 1 := by simp
  have hx5 := hx.below b5
  replace hr := Lib.hid hr
  replace hx5 := Lib.hid hx5
  replace hc := Lib.hid hc
  clear hx
  go_enter Tryz.func143, Tryz.ntmps143
  go_wp2_with fail
  generalize (w.alloc (.cells #[.slice A T.length c] 186)).alloc (.cells #[.int .i32 r] 21) = w3 at *
  have z5 : w.heap.size < w3.heap.size := by omega
  have z6 : w.heap.size + 1 < w3.heap.size := by omega
  go_loud (refine searchW_calls T r _ _ _ _ hx5.out hc.out k5 k6 z5 z6 _ (fun i w1 c1 c2 n1 => ?_))
  have k7 := (n1.cell (p := ⟨w.heap.size, 0, none⟩) z5).trans k5
  have k8 := (n1.cell (p := ⟨w.heap.size + 1, 0, none⟩) z6).trans k6
  have nn := b5.trans (n1.mono b5.size)
  clear k5 k6
  by_cases hi : i < T.length
  · rw [decide_eq_true hi, Bool.true_and] at c2
    obtain ⟨g, o, rfl, hg, hca⟩ := hr.out (by omega)
    obtain ⟨e0, e1⟩ := hca i hi
    have e2 := (nn.cell (p := ⟨g, o + i * 2, none⟩) hg).trans e0
    clear hca e0 e1
    generalize (T.getD i (0, 0)).1 = X at *
    by_cases t : X ≤ r
    · rw [c2, decide_eq_true t] at hR
      go_wp2_with fail
      go_quiet (fail)
      go_wp2_with fail
      exact hR.out _ (bdN nn _)
    · rw [c2, decide_eq_false t] at hR
      go_wp2_with fail
      go_quiet (fail)
      go_wp2_with fail
      exact retB (hR.out _ (bdN nn _)) (decide_eq_false (by omega)).symm
  · rw [decide_eq_false hi, Bool.false_and] at c2
    rw [c2] at hR
    go_wp2_with fail
    go_quiet (fail)
    go_wp2_with fail
    exact hR.out _ (bdN nn _)
end Go.Proofs.YthelhplcijhioaaGreat.Ran

/- IsWide, IsZero, Kind, IsUnsafe. -/
set_option maxRecDepth 100000
set_option linter.unusedVariables false
namespace Go.Proofs.YthelhplcijhioaaGreat.Ran
open Go.RowKit Go.Lib
set_option maxRecDepth 1000000
theorem zv17 : ∃ Z : Array Value, (∀ w, (zeroValue 181).run Tryz.prog w = .ok (.agg Z) w) ∧ Z.size = 34 := ⟨Array.replicate 34 (.int .i32 0), (zero_of_info (n := 34) (by kernel_rfl)).1, by simp⟩
theorem zv4 : ∃ Z : Array Value, (∀ w, (zeroValue 179).run Tryz.prog w = .ok (.agg Z) w) ∧ Z.size = 8 := ⟨Array.replicate 8 (.int .i32 0), (zero_of_info (n := 8) (by kernel_rfl)).1, by simp⟩
theorem zv2 : ∃ Z : Array Value, (∀ w, (zeroValue 177).run Tryz.prog w = .ok (.agg Z) w) ∧ Z.size = 4 := ⟨Array.replicate 4 (.int .i32 0), (zero_of_info (n := 4) (by kernel_rfl)).1, by simp⟩
theorem zv1 : ∃ Z : Array Value, (∀ w, (zeroValue 183).run Tryz.prog w = .ok (.agg Z) w) ∧ Z.size = 2 := ⟨Array.replicate 2 (.int .i32 0), (zero_of_info (n := 2) (by kernel_rfl)).1, by simp⟩
theorem kind_calls3 (r : Int) (w : World) (R : Ending → World → Prop)
    (hR : Hid (∀ w', Below w.heap.size w w' → R (.returned (.int .i64 (kindS r))) w')) : Calls Tryz.prog 124 #[.int .i32 r] w R := by
  obtain ⟨Z1, hZ1, hZs1⟩ := zv2
  obtain ⟨Z2, hZ2, hZs2⟩ := zv4
  obtain ⟨Z3, hZ3, hZs3⟩ := zv17
  obtain ⟨Z4, hZ4, hZs4⟩ := zv1
  go_enter Tryz.func124, Tryz.ntmps124
  go_wp2_with fail
  refine controlTable_calls _ _ (fun C1 w1 hC1 n1 => ?_)
  replace hC1 := Lib.hid hC1
  go_wp2_with fail
  refine bidiTable_calls _ _ (fun C2 w2 hC2 n2 => ?_)
  replace hC2 := Lib.hid hC2
  replace n2 := n1.trans (n2.mono n1.size)
  clear n1
  go_wp2_with fail
  refine formatTable_calls _ _ (fun C3 w3 hC3 n3 => ?_)
  replace hC3 := Lib.hid hC3
  replace n3 := n2.trans (n3.mono n2.size)
  clear n2
  go_wp2_with fail
  refine separatorTable_calls _ _ (fun C4 w4 hC4 n4 => ?_)
  replace hC4 := Lib.hid hC4
  replace n4 := n3.trans (n4.mono n3.size)
  clear n3
  have s1 : C1.size = 4 := by rw [hC1.out]; kernel_rfl
  have s2 : C2.size = 8 := by rw [hC2.out]; kernel_rfl
  have s3 : C3.size = 34 := by rw [hC3.out]; kernel_rfl
  have s4 : C4.size = 2 := by rw [hC4.out]; kernel_rfl
  obtain ⟨W1, W2, W3, W4, e1, e2, e3, e4, nW, x1, x2, x3, x4⟩ := four_rows (P := Tryz.prog) w4 Z1 Z2 Z3 Z4 C1 C2 C3 C4 177 179 181 183 (by omega) (by omega) (by omega) (by omega)
    (by rw [hC1.out]; exact flat_all _) (by rw [hC2.out]; exact flat_all _) (by rw [hC3.out]; exact flat_all _) (by rw [hC4.out]; exact flat_all _)
  replace x1 := Lib.hid (rdR_row (T := controlT) (n := 2) x1 hC1.out (by kernel_rfl))
  replace x2 := Lib.hid (rdR_row (T := bidiT) (n := 4) x2 hC2.out (by kernel_rfl))
  replace x3 := Lib.hid (rdR_row (T := formatT) (n := 17) x3 hC3.out (by kernel_rfl))
  replace x4 := Lib.hid (rdR_row (T := separatorT) (n := 1) x4 hC4.out (by kernel_rfl))
  clear hC1 hC2 hC3 hC4
  replace nW := n4.trans (nW.mono n4.size)
  clear n4
  have hk : kindS r = if hasB controlT r then 1 else if hasB bidiT r then 2 else if hasB formatT r then 3 else if hasB separatorT r then 4 else 0 := rfl
  go_wp2_with fail
  refine within_calls controlT r _ _ x1.out can_control _ (fun w5 n5 => ?_)
  cases h1 : hasB controlT r
  · rw [h1, if_neg Bool.false_ne_true] at hk
    go_wp2_with fail
    refine within_calls bidiT r _ _ (x2.out.below n5) can_bidi _ (fun w6 n6 => ?_)
    replace n6 := n5.trans (n6.mono n5.size)
    cases h2 : hasB bidiT r
    · rw [h2, if_neg Bool.false_ne_true] at hk
      go_wp2_with fail
      refine within_calls formatT r _ _ (x3.out.below n6) can_format _ (fun w7 n7 => ?_)
      replace n7 := n6.trans (n7.mono n6.size)
      cases h3 : hasB formatT r
      · rw [h3, if_neg Bool.false_ne_true] at hk
        go_wp2_with fail
        refine within_calls separatorT r _ _ (x4.out.below n7) can_separator _ (fun w8 n8 => ?_)
        replace n8 := n7.trans (n8.mono n7.size)
        cases h4 : hasB separatorT r
        · rw [h4, if_neg Bool.false_ne_true] at hk
          rw [hk] at hR
          go_wp2_with fail
          exact hR.out _ (nW.trans (n8.mono nW.size))
        · rw [h4, if_pos rfl] at hk
          rw [hk] at hR
          go_wp2_with fail
          exact hR.out _ (nW.trans (n8.mono nW.size))
      · rw [h3, if_pos rfl] at hk
        rw [hk] at hR
        go_wp2_with fail
        exact hR.out _ (nW.trans (n7.mono nW.size))
    · rw [h2, if_pos rfl] at hk
      rw [hk] at hR
      go_wp2_with fail
      exact hR.out _ (nW.trans (n6.mono nW.size))
  · rw [h1, if_pos rfl] at hk
    rw [hk] at hR
    go_wp2_with fail
    exact hR.out _ (nW.trans (n5.mono nW.size))
theorem isUnsafe_calls (r : Int) (w : World) (R : Ending → World → Prop)
    (hR : Hid (∀ w', Below w.heap.size w w' → R (.returned (.bool (decide (kindS r ≠ 0)))) w')) : Calls Tryz.prog 103 #[.int .i32 r] w R := by
  obtain ⟨k, hk⟩ : ∃ k, k = kindS r := ⟨_, rfl⟩
  have kc := fun (W : World) R hR => kind_calls3 r W R hR
  have kb := kind_bd r
  rw [← hk] at hR kc kb
  clear hk
  replace kc := Lib.hid kc
  go_enter Tryz.func103, Tryz.ntmps103
  go_wp2_with fail
  refine kc.out _ _ (fun w1 n1 => ?_)
  by_cases h : k = 0
  · go_wp2_with fail
    exact retB (hR.out _ n1) (by simp [h])
  · go_wp2_with fail
    exact retB (hR.out _ n1) (by simp [h])
end Go.Proofs.YthelhplcijhioaaGreat.Ran

/- The reference's Size and Kind; the chapter's examples. -/
set_option maxRecDepth 100000
set_option linter.unusedVariables false
namespace Go.Proofs.YthelhplcijhioaaGreat.Ran
open Go.RowKit Go.Lib
set_option maxRecDepth 1000000
theorem refSize_calls (r : Int) (w : World) (R : Ending → World → Prop)
    (hR : Hid (∀ w', Below w.heap.size w w' → R (.returned (.int .i64 (sizeS r))) w')) : Calls Tryz.prog 78 #[.int .i32 r] w R := by
  have hk : sizeS r = if hasB wideT r then 2 else if hasB zeroT r then 0 else 1 := rfl
  go_enter Tryz.func78, Tryz.ntmps78
  go_wp2_with fail
  refine refWide_calls _ _ (fun v w1 r1 n1 => ?_)
  replace r1 := Lib.hid r1
  go_wp2_with fail
  refine hasR_calls wideT r _ _ r1.out (of_decide_eq_true (by kernel_rfl)) _ ?_
  rw [in_can can_wide]
  cases h1 : hasB wideT r
  · rw [h1, if_neg Bool.false_ne_true] at hk
    go_wp2_with fail
    refine refZero_calls _ _ (fun v w2 r2 n2 => ?_)
    replace r2 := Lib.hid r2
    replace n2 := n1.trans (n2.mono n1.size)
    go_wp2_with fail
    refine hasR_calls zeroT r _ _ r2.out (of_decide_eq_true (by kernel_rfl)) _ ?_
    rw [in_can can_zero]
    cases h2 : hasB zeroT r
    · rw [h2, if_neg Bool.false_ne_true] at hk
      rw [hk] at hR
      go_wp2_with fail
      exact hR.out _ n2
    · rw [h2, if_pos rfl] at hk
      rw [hk] at hR
      go_wp2_with fail
      exact hR.out _ n2
  · rw [h1, if_pos rfl] at hk
    rw [hk] at hR
    go_wp2_with fail
    exact hR.out _ n1
set_option maxHeartbeats 1000000 in
theorem refKind_calls (r : Int) (w : World) (R : Ending → World → Prop)
    (hR : Hid (∀ w', Below w.heap.size w w' → R (.returned (.int .i64 (kindS r))) w')) : Calls Tryz.prog 43 #[.int .i32 r] w R := by
  have hk := kind_eq r
  by_cases h0 : 0 ≤ r ∧ r < 32 ∨ 126 < r ∧ r < 160
  · rw [if_pos h0] at hk
    rw [hk] at hR
    clear hk
    rcases h0 with ⟨a, b⟩ | ⟨a, b⟩
    · go_enter Tryz.func43, Tryz.ntmps43
      go_wp2_with fail
      exact hR.out _ (Below.refl _ _)
    · have c : ¬ r < 32 := by omega
      go_enter Tryz.func43, Tryz.ntmps43
      go_wp2_with fail
      exact hR.out _ (Below.refl _ _)
  · rw [if_neg h0] at hk
    replace hk := Lib.hid hk
    have h1 : r < 0 ∨ (32 ≤ r ∧ r ≤ 126) ∨ 160 ≤ r := by omega
    clear h0
    have hs : r = 8232 ∨ r = 8233 ∨ ¬ (r = 8232 ∨ r = 8233) := by omega
    rcases h1 with a | ⟨a, b⟩ | a <;> (
      go_enter Tryz.func43, Tryz.ntmps43
      go_wp2_with fail
      refine refbidi_calls _ _ (fun v w1 r1 n1 => ?_)
      replace r1 := Lib.hid r1
      go_wp2_with fail
      refine hasR_calls bidiT r _ _ r1.out (of_decide_eq_true (by kernel_rfl)) _ ?_
      rw [in_can can_bidi]
      cases h1 : hasB bidiT r
      · replace hk := hk.out
        rw [h1, if_neg Bool.false_ne_true] at hk
        replace hk := Lib.hid hk
        go_wp2_with fail
        refine refformat_calls _ _ (fun v w2 r2 n2 => ?_)
        replace r2 := Lib.hid r2
        replace n2 := n1.trans (n2.mono n1.size)
        go_wp2_with fail
        refine hasR_calls formatT r _ _ r2.out (of_decide_eq_true (by kernel_rfl)) _ ?_
        rw [in_can can_format]
        cases h2 : hasB formatT r
        · replace hk := hk.out
          rw [h2, if_neg Bool.false_ne_true] at hk
          rcases hs with h3 | h3 | h3
          · rw [if_pos (Or.inl h3)] at hk
            rw [hk] at hR
            go_wp2_with fail
            exact hR.out _ n2
          · rw [if_pos (Or.inr h3)] at hk
            rw [hk] at hR
            have h4 : ¬ r = 8232 := by omega
            go_wp2_with fail
            exact hR.out _ n2
          · rw [if_neg h3] at hk
            rw [hk] at hR
            have h4 : (r == 8232) = false := by simp; omega
            have h5 : (r == 8233) = false := by simp; omega
            go_wp2_with fail
            exact hR.out _ n2
        · replace hk := hk.out
          rw [h2, if_pos rfl] at hk
          rw [hk] at hR
          go_wp2_with fail
          exact hR.out _ n2
      · replace hk := hk.out
        rw [h1, if_pos rfl] at hk
        rw [hk] at hR
        go_wp2_with fail
        exact hR.out _ n1)
end Go.Proofs.YthelhplcijhioaaGreat.Ran
