import Derived.Test.YtncijmodlhijoaaGreatQ2
import Derived.Test.YtncijmodlhijoaaGreatQ3
import Derived.Great.Walk
import Derived.Deep.WholeRow
set_option linter.unusedVariables false
set_option maxRecDepth 100000
set_option maxHeartbeats 4000000
namespace Go.Proofs.YtncijmodlhijoaaGreat.Ran
open Go.RowKit Go.Lib
def enc (g : Rg) : List Value := [.int .i32 g.1, .int .i32 g.2]
def flat (l : List Rg) : List Value := l.flatMap enc
theorem flat_len (l : List Rg) : (flat l).length = l.length * 2 := by
 induction l with
 | nil => rfl
 | cons g l ih => rw [show flat (g :: l) = .int .i32 g.1 :: .int .i32 g.2 :: flat l from rfl]; simp [ih]; omega
theorem flat_get : ∀ (l : List Rg) (k : Nat), k < l.length → (flat l)[k * 2]? = some (.int .i32 (l.getD k (0, 0)).1) ∧ (flat l)[k * 2 + 1]? = some (.int .i32 (l.getD k (0, 0)).2)
 | [], k, h => by simp at h
 | g :: l, 0, h => by simp [flat, enc]
 | g :: l, k + 1, h => by
  have := flat_get l k (by simpa using h)
  rw [show flat (g :: l) = .int .i32 g.1 :: .int .i32 g.2 :: flat l from rfl, show (k + 1) * 2 = k * 2 + 1 + 1 by omega]
  simpa using this
def RdR (w : World) (v : Value) (l : List Rg) : Prop := RdAt w v 2 (flat l)
theorem RdR.below {w w' : World} {v : Value} {l : List Rg} (h : RdR w v l) (hb : Below w.heap.size w w') : RdR w' v l := RdAt.below h hb
theorem RdR.open {w : World} {v : Value} {l : List Rg} (h : RdR w v l) : ∃ (A : Option Addr) (c : Nat), v = .slice A l.length c ∧ l.length ≤ c ∧
  (0 < l.length → ∃ g o, A = some ⟨g, o, none⟩ ∧ g < w.heap.size ∧ ∀ k, k < l.length → w.cell? ⟨g, o + k * 2, none⟩ = some (.int .i32 (l.getD k (0, 0)).1) ∧ w.cell? ⟨g, o + k * 2 + 1, none⟩ = some (.int .i32 (l.getD k (0, 0)).2)) := by
 obtain ⟨A, n, c, rfl, hl, hn, hc⟩ := h
 rw [flat_len] at hl
 obtain rfl : n = l.length := by omega
 refine ⟨A, c, rfl, hn, fun h0 => ?_⟩
 obtain ⟨g, o, rfl, hg, hc⟩ := hc (by rw [flat_len]; omega)
 refine ⟨g, o, rfl, hg, fun k hk => ?_⟩
 have := flat_get l k hk
 exact ⟨hc _ _ this.1, by have := hc _ _ this.2; rwa [← Nat.add_assoc] at this⟩
def Fit (l : List Rg) : Prop := ∀ k, k < l.length → -2147483648 ≤ (l.getD k (0, 0)).1 ∧ (l.getD k (0, 0)).1 ≤ 2147483647 ∧ -2147483648 ≤ (l.getD k (0, 0)).2 ∧ (l.getD k (0, 0)).2 ≤ 2147483647
theorem hasR_calls (xs : List Rg) (r : Int) (v : Value) (w : World) (hx : RdR w v xs) (hl : xs.length ≤ 16777216) (R : Ending → World → Prop)
  (hR : R (.returned (.bool (inB xs r))) w) : Calls Tryz.prog 236 #[v, .int .i32 r] w R := by
 replace hR := Lib.hid hR
 obtain ⟨A, c, rfl, hlc, hr⟩ := hx.open
 replace hr := Lib.hid hr
 go_enter Tryz.func236, Tryz.ntmps236
 go_wp2_with fail
 go_loopg [5] xs.length (fun k i wr => ∃ (K : Nat), wr = w ∧ i = .int .i64 K ∧ K + k = xs.length ∧ Hid (inB (xs.take K) r = false))
 case atStart => exact ⟨0, rfl, rfl, by omega, by unfold inB; exact Bool.and_false _⟩
 case round =>
  obtain ⟨K, rfl, rfl, c1, c2⟩ := hrel
  by_cases hK : K < xs.length
  ·obtain ⟨k, rfl⟩ : ∃ k, gk = k + 1 := ⟨gk - 1, by omega⟩
   obtain ⟨g, o, rfl, hg, hca⟩ := hr.out (by omega)
   obtain ⟨e0, e1⟩ := hca K hK
   have e2 : inB (xs.take (K + 1)) r = (decide (0 ≤ r) && decide (r ≤ 1114111) && (decide ((xs.getD K (0, 0)).1 ≤ r) && decide (r ≤ (xs.getD K (0, 0)).2))) := by
    have := c2.out
    unfold inB at this ⊢
    rw [take_succ xs K hK, hasB_append, Bool.and_or_distrib_left, this, hasB_cons]; simp
   have e3 : xs.getD K (0, 0) ∈ xs := by simp [List.getD, List.getElem?_eq_getElem hK]
   have e4 : decide (0 ≤ r) = true → decide (r ≤ 1114111) = true → decide ((xs.getD K (0, 0)).1 ≤ r) = true → decide (r ≤ (xs.getD K (0, 0)).2) = true → inB xs r = true := by
    intro h1 h2 h3 h4
    unfold inB
    rw [h1, h2, hasB_iff.2 ⟨_, e3, by simpa using h3, by simpa using h4⟩]; rfl
   clear hca e3
   generalize xs.getD K (0, 0) = G at *
   obtain ⟨X, Y⟩ := G
   simp only at e0 e1 e2 e4
   replace e2 := Lib.hid e2
   replace e4 := Lib.hid e4
   by_cases t1 : 0 ≤ r
   ·by_cases t2 : r ≤ 1114111
    ·by_cases t3 : X ≤ r
     ·by_cases t4 : r ≤ Y
      ·go_wp2_with fail
       exact retB hR.out (e4.out (by simpa using t1) (by simpa using t2) (by simpa using t3) (by simpa using t4))
      ·go_wp2_with fail
       go_roundg k
       case measure => omega
       case rel => exact ⟨K + 1, rfl, by go_num, by omega, by refine Lib.hid ?_; rw [e2.out]; simp <;> (intros; omega)⟩
     ·go_wp2_with fail
      go_roundg k
      case measure => omega
      case rel => exact ⟨K + 1, rfl, by go_num, by omega, by refine Lib.hid ?_; rw [e2.out]; simp <;> (intros; omega)⟩
    ·go_wp2_with fail
     go_roundg k
     case measure => omega
     case rel => exact ⟨K + 1, rfl, by go_num, by omega, by refine Lib.hid ?_; rw [e2.out]; simp <;> (intros; omega)⟩
   ·go_wp2_with fail
    go_roundg k
    case measure => omega
    case rel => exact ⟨K + 1, rfl, by go_num, by omega, by refine Lib.hid ?_; rw [e2.out]; simp <;> (intros; omega)⟩
  ·have e : inB xs r = false := by have := c2.out; rwa [List.take_of_length_le (by omega)] at this
   replace e := Lib.hid e
   go_wp2_with fail
   exact retB hR.out e.out
section
variable {P : Program}
abbrev Key := Op × Option Tmp × Option (Nat × Bool)
def keyOf (o : Oper) : Key := (o.op, o.dst, o.guard)
def prSpec (t : TypeId) : Nat → List Rg → List Key
 | _, [] => []
 | d, x :: xs => (.build t #[(0, .const (.int .i32 x.1)), (1, .const (.int .i32 x.2))], some d, none) :: prSpec t (d + 1) xs
theorem wpList_prs {ops : Array Oper} {rest : List Oper} {w : World} {Q : Exit → Act → World → Prop} (t : TypeId)
  (hb : ∀ x y : Int, P.built t [(0, .int .i32 x), (1, .int .i32 y)] = some #[.int .i32 x, .int .i32 y]) :
  ∀ (xs : List Rg) (bs : List Oper) (d : Nat) (a : Act), bs.map keyOf = prSpec t d xs → d + xs.length ≤ a.tmps.size →
   (∀ a' : Act, a'.tmps.size = a.tmps.size → a'.defers = a.defers → (∀ i (h : i < xs.length), a'.eval (.tmp (d + i)) = .agg (enc xs[i]).toArray) →
    (∀ j, j < d → a'.eval (.tmp j) = a.eval (.tmp j)) → wpList P ops Q rest a' w) →
   wpList P ops Q (bs ++ rest) a w
 | [], bs, d, a, hk, _, h => by
  obtain rfl : bs = [] := by simpa [prSpec] using hk
  exact h a rfl rfl (fun i hi => absurd hi (by simp)) (fun _ _ => rfl)
 | x :: xs, [], d, a, hk, hd, h => by simp [prSpec] at hk
 | x :: xs, o :: bs, d, a, hk, hd, h => by
  have hlt : d < a.tmps.size := by simp at hd; omega
  simp only [List.map_cons, prSpec, List.cons.injEq, keyOf, Prod.mk.injEq] at hk
  obtain ⟨⟨ho, hdst, hg⟩, hk⟩ := hk
  rw [List.cons_append]
  refine wpList_buildTo hg t _ ho (some d) hdst (enc x).toArray (by simpa [Act.eval, enc] using hb x.1 x.2) ?_
  refine wpList_prs t hb xs bs (d + 1) _ hk (by rw [Act.size_put]; simp at hd; omega) fun a' hs hdf hev hlow => ?_
  refine h a' (hs.trans (Act.size_put _ _ _)) (hdf.trans (Act.defers_put' _ _ _)) (fun i hi => ?_) (fun j hj => ?_)
  ·cases i with
   | zero => rw [Nat.add_zero, hlow d (by omega), Act.eval_put_same _ _ _ hlt]; rfl
   | succ i =>
    have := hev i (by simpa using hi)
    rw [show d + (i + 1) = d + 1 + i by omega, this]
    rfl
  ·rw [hlow j (by omega), Act.eval_put_ne _ _ _ _ (by omega)]
def tmpParts (d n : Nat) : List (Nat × Operand) := (List.range n).map fun i => (i, Operand.tmp (d + i))
theorem parts_eq (a : Act) (T : List Rg) (d : Nat) (hev : ∀ i (h : i < T.length), a.eval (.tmp (d + i)) = .agg (enc T[i]).toArray) :
  ((tmpParts d T.length).toArray.map fun (i, x) => (i, a.eval x)).toList = ((T.map fun x => Value.agg (enc x).toArray).zipIdx 0).map fun x => (x.2, x.1) := by
 rw [Array.toList_map]
 apply List.ext_getElem
 ·simp [tmpParts]
 ·intro i h1 h2
  have hi : i < T.length := by simpa [tmpParts] using h1
  simp only [tmpParts, List.getElem_map, List.getElem_range, List.getElem_zipIdx, Nat.zero_add]
  rw [hev i hi]
theorem fill_prs (T : List Rg) (cells : Array Value) (h : T.length * 2 = cells.size) :
  Instr.fill (fun i => some (i * 2, 2)) cells (((T.map fun x => Value.agg (enc x).toArray).zipIdx 0).map fun x => (x.2, x.1)) = some (flat T).toArray := by
 rw [Great.fill_whole (s := 2) (by omega) _ cells (fun v hv => by obtain ⟨x, _, rfl⟩ := List.mem_map.1 hv; rfl) (by simpa using h)]
 simp [List.flatMap_map, Value.cells, flat]
theorem flat_all (T : List Rg) : (flat T).toArray.all (·.oneCell') = true := by
 rw [Array.all_eq_true_iff_forall_mem]
 intro v hv
 simp [flat, enc] at hv
 obtain ⟨a, b, -, h⟩ := hv
 rcases h with rfl | rfl <;> rfl
theorem flat_size (T : List Rg) : (flat T).toArray.size = T.length * 2 := by simp [flat_len]
def arrOps (ta te : TypeId) (T : List Rg) : List Key :=
 prSpec te 1 T ++ [(.build ta (tmpParts 1 T.length).toArray, some (T.length + 1), none), (.store ta (.tmp 0) (.tmp (T.length + 1)), none, none)]
theorem wp_tabArr {Q : Exit → Act → World → Prop} {a : Act} {w : World} {o0 : Oper} {ops : List Oper} (ta te : TypeId) (n : Nat) (T : List Rg)
  (h0 : keyOf o0 = (.alloc ta, some 0, none)) (hops : ops.map keyOf = arrOps ta te T)
  (hu : P.underlying ta = some (.array n te)) (hsz : (P.info? te).map (·.size) = some 2) (hz : ((P.info? ta).bind (·.zero)).map (·.cells.size) = some (T.length * 2)) (hs2 : (P.info? ta).map (·.size) = some (T.length * 2))
  (hb : ∀ x y : Int, P.built te [(0, .int .i32 x), (1, .int .i32 y)] = some #[.int .i32 x, .int .i32 y])
  (ha : a.tmps.size = T.length + 2) (hd : a.defers = [])
  (h : ∀ a' : Act, a'.tmps.getD 0 undef = .pointer (some ⟨w.heap.size, 0, none⟩) → a'.defers = [] → Q .ret a' (w.alloc (.cells (flat T).toArray ta))) :
  Code.wp P ((Code.region 0 [o0].toArray false).seq ((Code.region 1 ops.toArray false).seq .ret)) Q a w := by
 simp only [keyOf, Prod.mk.injEq] at h0
 obtain ⟨h01, h02, h03⟩ := h0
 cases hie : P.info? te with
 | none => simp [hie] at hsz
 | some ie =>
 cases hit : P.info? ta with
 | none => simp [hit] at hz
 | some it =>
 cases hzz : it.zero with
 | none => simp [hit, hzz] at hz
 | some z =>
 simp only [hie, hit, hzz, Option.map_some, Option.some.injEq, Option.bind_some] at hsz hz hs2
 apply wp_seq_k; intro K0 hK0
 apply wp_region_lit
 refine Great.wpList_allocTo h03 (some 0) h02 (.pointer (some ⟨w.heap.size, 0, none⟩)) (.cells z.cells ta) (by simp [execOp, h01, Instr.alloc, newVar, newRow, zeroValue, typeInfo, hit, hzz]) ?_
 apply wpList_nil
 refine hK0 _ _ ?_
 clear hK0 K0
 apply wp_seq_k; intro K0 hK0
 apply wp_region_lit
 obtain ⟨bs, tl, rfl, e1, e2⟩ := List.map_eq_append_iff.1 hops
 obtain ⟨ob, tl, rfl, e3, e2⟩ := List.map_eq_cons_iff.1 e2
 obtain ⟨os, tl, rfl, e4, e2⟩ := List.map_eq_cons_iff.1 e2
 obtain rfl : tl = [] := by simpa using e2
 simp only [keyOf, Prod.mk.injEq] at e3 e4
 obtain ⟨b1, b2, b3⟩ := e3
 obtain ⟨s1, s2, s3⟩ := e4
 refine wpList_prs te hb T bs 1 _ e1 (by rw [Act.size_put]; omega) fun a' hs hdf hev hlow => ?_
 have hp0 : a'.eval (.tmp 0) = .pointer (some ⟨w.heap.size, 0, none⟩) := by rw [hlow 0 (by omega), Act.eval_put_same _ _ _ (by omega)]
 rw [Act.size_put] at hs
 rw [Act.defers_put'] at hdf
 refine wpList_buildTo b3 ta _ b1 (some (T.length + 1)) b2 (flat T).toArray ?_ ?_
 ·unfold Program.built
  simp only [hit, hu, hzz, hie]
  rw [parts_eq a' T 1 hev, hsz]
  exact fill_prs T _ hz.symm
 refine wpList_store_rowTo s3 ta _ _ s1 s2 w.heap.size (flat T).toArray (by rw [Act.eval_put_ne _ _ _ _ (by omega)]; exact hp0) (Act.eval_put_same _ _ _ (by omega)) ta z.cells (heap_alloc_last w _) (by rw [hit, flat_size]; exact congrArg some hs2) (by rw [flat_size]; exact hz) (flat_all T) ?_
 apply wpList_nil
 refine hK0 _ _ ?_
 rw [World.setRow_alloc_new]
 refine wp_ret (h _ ?_ ?_)
 ·have := Act.eval_put_ne a' (T.length + 1) 0 (.agg (flat T).toArray) (by omega)
  exact this.trans hp0
 ·rw [Act.defers_put', hdf, hd]
theorem results_cell1 {fn : Func} {p : Tmp} {ty : TypeId} (h : fn.results = #[.cell p ty]) (tmps : Array Value) (w : World) (b : Addr) (v : Value) (hp : tmps.getD p undef = .pointer (some b)) (hl : (loadVar ty b).run P w = .ok v w) :
  (results fn tmps).run P w = .ok v w := by
 rw [Array.getD_eq_getD_getElem?] at hp
 simp only [results, h]
 simp [hp, asAddr, hl]
theorem results_tmp1 {fn : Func} {p : Tmp} (h : fn.results = #[.tmp p]) (tmps : Array Value) (w : World) (v : Value) (hp : tmps.getD p undef = v) : (results fn tmps).run P w = .ok v w := by
 rw [Array.getD_eq_getD_getElem?] at hp
 simp only [results, h]
 simp [hp]
def slOps (ts te : TypeId) (T : List Rg) : List Key :=
 prSpec te 1 T ++ [(.buildSlice ts T.length (tmpParts 1 T.length).toArray, some (T.length + 1), none), (.assign (.tmp (T.length + 1)), some 0, none)]
theorem wp_tabSl {Q : Exit → Act → World → Prop} {a : Act} {w : World} {o0 : Oper} {ops : List Oper} (ts te : TypeId) (T : List Rg) (v0 : Value)
  (h0 : keyOf o0 = (.assign (.const v0), some 0, none)) (hops : ops.map keyOf = slOps ts te T)
  (hu : P.underlying ts = some (.slice te)) (hsz : (P.info? te).map (·.size) = some 2) (hz : ((P.info? te).bind (·.zero)).isSome = true)
  (hb : ∀ x y : Int, P.built te [(0, .int .i32 x), (1, .int .i32 y)] = some #[.int .i32 x, .int .i32 y])
  (hpos : 0 < T.length) (hsmall : T.length * 2 ≤ 2 ^ 24) (ha : a.tmps.size = T.length + 2) (hd : a.defers = [])
  (h : ∀ a' : Act, a'.tmps.getD 0 undef = .slice (some ⟨w.heap.size, 0, none⟩) T.length T.length → a'.defers = [] → Q .ret a' (w.alloc (.cells (flat T).toArray te))) :
  Code.wp P ((Code.region 0 [o0].toArray false).seq ((Code.region 1 ops.toArray false).seq .ret)) Q a w := by
 simp only [keyOf, Prod.mk.injEq] at h0
 obtain ⟨h01, h02, h03⟩ := h0
 cases hie : P.info? te with
 | none => simp [hie] at hsz
 | some ie =>
 simp only [hie, Option.map_some, Option.some.injEq, Option.bind_some] at hsz hz
 obtain ⟨z, hzz⟩ := Option.isSome_iff_exists.1 hz
 apply wp_seq_k; intro K0 hK0
 apply wp_region_lit
 refine Great.wpList_readTo h03 (some 0) h02 v0 (by simp [execOp, h01, Act.eval]) ?_
 apply wpList_nil
 refine hK0 _ _ ?_
 clear hK0 K0
 apply wp_seq_k; intro K0 hK0
 apply wp_region_lit
 obtain ⟨bs, tl, rfl, e1, e2⟩ := List.map_eq_append_iff.1 hops
 obtain ⟨ob, tl, rfl, e3, e2⟩ := List.map_eq_cons_iff.1 e2
 obtain ⟨os, tl, rfl, e4, e2⟩ := List.map_eq_cons_iff.1 e2
 obtain rfl : tl = [] := by simpa using e2
 simp only [keyOf, Prod.mk.injEq] at e3 e4
 obtain ⟨b1, b2, b3⟩ := e3
 obtain ⟨s1, s2, s3⟩ := e4
 refine wpList_prs te hb T bs 1 _ e1 (by rw [Act.size_put]; omega) fun a' hs hdf hev hlow => ?_
 rw [Act.size_put] at hs
 rw [Act.defers_put'] at hdf
 refine wpList_buildSlice b3 ts te T.length _ b1 (flat T).toArray ie z hu hie hzz (by rw [hsz]; omega) (by rw [hsz]; omega) ?_ ?_
 ·rw [parts_eq a' T 1 hev, hsz]
  exact fill_prs T _ (by simp)
 rw [b2]
 refine Great.wpList_readTo s3 (some 0) s2 (.slice (some ⟨w.heap.size, 0, none⟩) T.length T.length) (by simp only [execOp, s1]; rw [Act.eval_put_same _ _ _ (by omega)]; rfl) ?_
 apply wpList_nil
 refine hK0 _ _ ?_
 refine wp_ret (h _ ?_ ?_)
 ·exact Act.eval_put_same _ 0 _ (by rw [Act.size_put]; omega)
 ·rw [Act.defers_put', Act.defers_put', hdf, hd]
end
theorem bdN {B : Nat} {a w : World} (h : Below B a w) (n : Nat) : Below B a (w.drewN n) := h.trans ⟨rfl, rfl, rfl, Nat.le_refl _, fun _ _ => rfl⟩
theorem cellNew (w : World) (v : Value) (t : TypeId) : (w.alloc (.cells #[v] t)).cell? ⟨w.heap.size, 0, none⟩ = some v := cell_of_row _ _ 0 _ t (0, 0) (heap_alloc_last w _)
theorem cellNew2 (w : World) (v u : Value) (t s : TypeId) : ((w.alloc (.cells #[v] t)).alloc (.cells #[u] s)).cell? ⟨w.heap.size, 0, none⟩ = some v := by
 have b : Below (w.heap.size + 1) (w.alloc (.cells #[v] t)) ((w.alloc (.cells #[v] t)).alloc (.cells #[u] s)) := (Below.refl _ _).alloc (by simp) _
 rw [b.cell (p := ⟨w.heap.size, 0, none⟩) (by simp)]; exact cellNew _ _ _
theorem rdR_new (w : World) (T : List Rg) (t : TypeId) : RdR (w.alloc (.cells (flat T).toArray t)) (.slice (some ⟨w.heap.size, 0, none⟩) T.length T.length) T :=
 ⟨_, _, _, rfl, by rw [flat_len], Nat.le_refl _, fun _ => ⟨w.heap.size, 0, rfl, by simp, fun j u hj => by
  rw [Nat.zero_add]
  have : (w.alloc (.cells (flat T).toArray t)).cell? ⟨w.heap.size, j, none⟩ = (flat T).toArray[j]? := cell_of_row _ _ j _ t (0, 0) (heap_alloc_last w _)
  rw [this]; simpa using hj⟩⟩
theorem rdR_row {w : World} {g n : Nat} {T : List Rg} {t : TypeId} {C : Array Value} (hw : w.heap[g]? = some (.cells C t (0, 0))) (hC : C = (flat T).toArray) (hn : T.length = n) : RdR w (.slice (some ⟨g, 0, none⟩) n n) T := by
 subst hC hn
 refine ⟨_, _, _, rfl, by rw [flat_len], Nat.le_refl _, fun _ => ⟨g, 0, rfl, ?_, fun j u hj => ?_⟩⟩
 ·exact (Array.getElem?_eq_some_iff.1 hw).1
 ·rw [Nat.zero_add, cell_of_row _ _ j _ t (0, 0) hw]; simpa using hj
theorem heap_old (w : World) (o : Obj) (k : Nat) (x : Obj) (h : w.heap[k]? = some x) : (w.alloc o).heap[k]? = some x := by
 rw [Below.heap_alloc _ _ _ (Array.getElem?_eq_some_iff.1 h).1]; exact h
theorem setRow_old (w : World) (g k : Nat) (cs : Array Value) (x : Obj) (hk : k ≠ g) (h : w.heap[k]? = some x) : (w.setRow g cs).heap[k]? = some x := by rw [setRow_other _ _ _ _ hk]; exact h
theorem below_setRow {B : Nat} {a w : World} (h : Below B a w) {g : Nat} (hg : B ≤ g) (cs : Array Value) : Below B a (w.setRow g cs) :=
 ⟨h.os, h.tape, h.output, by rw [setRow_size]; exact h.size, fun k hk => by rw [setRow_other _ _ _ _ (by omega)]; exact h.block k hk⟩
theorem storeRow {P : Program} (w : World) (g : Nat) (t : TypeId) (Z C : Array Value) (hw : w.heap[g]? = some (.cells Z t (0, 0))) (hz : Z.size = C.size) (h1 : C.all (·.oneCell') = true) :
  (storeCells ⟨g, 0, none⟩ C.toList 0).run P w = .ok () (w.setRow g C) := by
 have := run_storeCells_from (P := P) g t C.toList 0 Z w hw (by simp [hz]) (fun v hv => (Array.all_eq_true_iff_forall_mem.1 h1) v (by simpa using hv))
 simpa using this
theorem four_rows {P : Program} (w : World) (Z1 Z2 Z3 Z4 C1 C2 C3 C4 : Array Value) (t1 t2 t3 t4 : TypeId) (s1 : Z1.size = C1.size) (s2 : Z2.size = C2.size) (s3 : Z3.size = C3.size) (s4 : Z4.size = C4.size)
  (o1 : C1.all (·.oneCell') = true) (o2 : C2.all (·.oneCell') = true) (o3 : C3.all (·.oneCell') = true) (o4 : C4.all (·.oneCell') = true) :
  ∃ W1 W2 W3 W4, (storeCells ⟨w.heap.size, 0, none⟩ C1.toList 0).run P ((((w.alloc (.cells Z1 t1)).alloc (.cells Z2 t2)).alloc (.cells Z3 t3)).alloc (.cells Z4 t4)) = .ok () W1 ∧
   (storeCells ⟨w.heap.size + 1, 0, none⟩ C2.toList 0).run P W1 = .ok () W2 ∧ (storeCells ⟨w.heap.size + 1 + 1, 0, none⟩ C3.toList 0).run P W2 = .ok () W3 ∧
   (storeCells ⟨w.heap.size + 1 + 1 + 1, 0, none⟩ C4.toList 0).run P W3 = .ok () W4 ∧ Below w.heap.size w W4 ∧
   W4.heap[w.heap.size]? = some (.cells C1 t1 (0, 0)) ∧ W4.heap[w.heap.size + 1]? = some (.cells C2 t2 (0, 0)) ∧ W4.heap[w.heap.size + 1 + 1]? = some (.cells C3 t3 (0, 0)) ∧ W4.heap[w.heap.size + 1 + 1 + 1]? = some (.cells C4 t4 (0, 0)) := by
 have b : Below w.heap.size w ((((w.alloc (.cells Z1 t1)).alloc (.cells Z2 t2)).alloc (.cells Z3 t3)).alloc (.cells Z4 t4)) :=
  ((((Below.refl _ _).alloc (Nat.le_refl _) _).alloc (by simp) _).alloc (by simp; omega) _).alloc (by simp; omega) _
 have a1 : ((((w.alloc (.cells Z1 t1)).alloc (.cells Z2 t2)).alloc (.cells Z3 t3)).alloc (.cells Z4 t4)).heap[w.heap.size]? = some (.cells Z1 t1 (0, 0)) := heap_old _ _ _ _ (heap_old _ _ _ _ (heap_old _ _ _ _ (heap_alloc_last _ _)))
 have a2 : ((((w.alloc (.cells Z1 t1)).alloc (.cells Z2 t2)).alloc (.cells Z3 t3)).alloc (.cells Z4 t4)).heap[w.heap.size + 1]? = some (.cells Z2 t2 (0, 0)) := heap_old _ _ _ _ (heap_old _ _ _ _ (by
  have := heap_alloc_last (w.alloc (.cells Z1 t1)) (.cells Z2 t2); rwa [show (w.alloc (.cells Z1 t1)).heap.size = w.heap.size + 1 by simp] at this))
 have a3 : ((((w.alloc (.cells Z1 t1)).alloc (.cells Z2 t2)).alloc (.cells Z3 t3)).alloc (.cells Z4 t4)).heap[w.heap.size + 1 + 1]? = some (.cells Z3 t3 (0, 0)) := heap_old _ _ _ _ (by
  have := heap_alloc_last ((w.alloc (.cells Z1 t1)).alloc (.cells Z2 t2)) (.cells Z3 t3); rwa [show ((w.alloc (.cells Z1 t1)).alloc (.cells Z2 t2)).heap.size = w.heap.size + 1 + 1 by simp] at this)
 have a4 : ((((w.alloc (.cells Z1 t1)).alloc (.cells Z2 t2)).alloc (.cells Z3 t3)).alloc (.cells Z4 t4)).heap[w.heap.size + 1 + 1 + 1]? = some (.cells Z4 t4 (0, 0)) := by
  have := heap_alloc_last (((w.alloc (.cells Z1 t1)).alloc (.cells Z2 t2)).alloc (.cells Z3 t3)) (.cells Z4 t4); rwa [show (((w.alloc (.cells Z1 t1)).alloc (.cells Z2 t2)).alloc (.cells Z3 t3)).heap.size = w.heap.size + 1 + 1 + 1 by simp] at this
 generalize (((w.alloc (.cells Z1 t1)).alloc (.cells Z2 t2)).alloc (.cells Z3 t3)).alloc (.cells Z4 t4) = W at *
 have c2 := setRow_old W w.heap.size (w.heap.size + 1) C1 _ (by omega) a2
 have c3 := setRow_old _ (w.heap.size + 1) (w.heap.size + 1 + 1) C2 _ (by omega) (setRow_old W w.heap.size _ C1 _ (by omega) a3)
 have c4 := setRow_old _ (w.heap.size + 1 + 1) (w.heap.size + 1 + 1 + 1) C3 _ (by omega) (setRow_old _ (w.heap.size + 1) _ C2 _ (by omega) (setRow_old W w.heap.size _ C1 _ (by omega) a4))
 refine ⟨_, _, _, _, storeRow _ _ t1 Z1 C1 a1 s1 o1, storeRow _ _ t2 Z2 C2 c2 s2 o2, storeRow _ _ t3 Z3 C3 c3 s3 o3, storeRow _ _ t4 Z4 C4 c4 s4 o4, ?_, ?_, ?_, ?_, ?_⟩
 ·exact below_setRow (below_setRow (below_setRow (below_setRow b (Nat.le_refl _) _) (by omega) _) (by omega) _) (by omega) _
 ·exact setRow_old _ _ _ _ _ (by omega) (setRow_old _ _ _ _ _ (by omega) (setRow_old _ _ _ _ _ (by omega) (setRow_heap _ _ _ _ _ _ a1)))
 ·exact setRow_old _ _ _ _ _ (by omega) (setRow_old _ _ _ _ _ (by omega) (setRow_heap _ _ _ _ _ _ c2))
 ·exact setRow_old _ _ _ _ _ (by omega) (setRow_heap _ _ _ _ _ _ c3)
 ·exact setRow_heap _ _ _ _ _ _ c4
theorem built_span : ∀ x y : Int, Tryz.prog.built 380 [(0, .int .i32 x), (1, .int .i32 y)] = some #[.int .i32 x, .int .i32 y] := fun _ _ => by kernel_rfl
theorem built_rg : ∀ x y : Int, Tryz.prog.built 336 [(0, .int .i32 x), (1, .int .i32 y)] = some #[.int .i32 x, .int .i32 y] := fun _ _ => by kernel_rfl
theorem bidiTable_calls (w : World) (R : Ending → World → Prop) (hR : Hid (∀ C w', C = (flat bidiT).toArray → Below w.heap.size w w' → R (.returned (.agg C)) w')) : Calls Tryz.prog 344 #[] w R := by
 go_enter Tryz.func344, Tryz.ntmps344
 refine wp_tabArr 383 380 4 bidiT rfl (by kernel_rfl) (by kernel_rfl) (by kernel_rfl) (by kernel_rfl) (by kernel_rfl) built_span (by kernel_rfl) rfl fun a' hp hd => ?_
 exact bodyPost_ret (results_cell1 rfl _ _ _ _ hp (run_loadVar_new w _ _ 4 380 (by kernel_rfl) (by kernel_rfl))) hd (hR.out _ _ rfl ((Below.refl _ _).alloc (Nat.le_refl _) _))
theorem controlTable_calls (w : World) (R : Ending → World → Prop) (hR : Hid (∀ C w', C = (flat controlT).toArray → Below w.heap.size w w' → R (.returned (.agg C)) w')) : Calls Tryz.prog 343 #[] w R := by
 go_enter Tryz.func343, Tryz.ntmps343
 refine wp_tabArr 381 380 2 controlT rfl (by kernel_rfl) (by kernel_rfl) (by kernel_rfl) (by kernel_rfl) (by kernel_rfl) built_span (by kernel_rfl) rfl fun a' hp hd => ?_
 exact bodyPost_ret (results_cell1 rfl _ _ _ _ hp (run_loadVar_new w _ _ 2 380 (by kernel_rfl) (by kernel_rfl))) hd (hR.out _ _ rfl ((Below.refl _ _).alloc (Nat.le_refl _) _))
theorem separatorTable_calls (w : World) (R : Ending → World → Prop) (hR : Hid (∀ C w', C = (flat separatorT).toArray → Below w.heap.size w w' → R (.returned (.agg C)) w')) : Calls Tryz.prog 346 #[] w R := by
 go_enter Tryz.func346, Tryz.ntmps346
 refine wp_tabArr 387 380 1 separatorT rfl (by kernel_rfl) (by kernel_rfl) (by kernel_rfl) (by kernel_rfl) (by kernel_rfl) built_span (by kernel_rfl) rfl fun a' hp hd => ?_
 exact bodyPost_ret (results_cell1 rfl _ _ _ _ hp (run_loadVar_new w _ _ 1 380 (by kernel_rfl) (by kernel_rfl))) hd (hR.out _ _ rfl ((Below.refl _ _).alloc (Nat.le_refl _) _))
theorem formatTable_calls (w : World) (R : Ending → World → Prop) (hR : Hid (∀ C w', C = (flat formatT).toArray → Below w.heap.size w w' → R (.returned (.agg C)) w')) : Calls Tryz.prog 345 #[] w R := by
 go_enter Tryz.func345, Tryz.ntmps345
 refine wp_tabArr 385 380 17 formatT rfl (by kernel_rfl) (by kernel_rfl) (by kernel_rfl) (by kernel_rfl) (by kernel_rfl) built_span (by kernel_rfl) rfl fun a' hp hd => ?_
 exact bodyPost_ret (results_cell1 rfl _ _ _ _ hp (run_loadVar_new w _ _ 17 380 (by kernel_rfl) (by kernel_rfl))) hd (hR.out _ _ rfl ((Below.refl _ _).alloc (Nat.le_refl _) _))
theorem refbidi_calls (w : World) (R : Ending → World → Prop) (hR : Hid (∀ v w', RdR w' v bidiT → Below w.heap.size w w' → R (.returned v) w')) : Calls Tryz.prog 237 #[] w R := by
 go_enter Tryz.func237, Tryz.ntmps237
 refine wp_tabSl 293 336 bidiT (.slice none 0 0) rfl (by kernel_rfl) (by kernel_rfl) (by kernel_rfl) (by kernel_rfl) built_rg (of_decide_eq_true (by kernel_rfl)) (of_decide_eq_true (by kernel_rfl)) (by kernel_rfl) rfl fun a' hp hd => ?_
 exact bodyPost_ret (results_tmp1 rfl _ _ _ hp) hd (hR.out _ _ (rdR_new w _ _) ((Below.refl _ _).alloc (Nat.le_refl _) _))
theorem refformat_calls (w : World) (R : Ending → World → Prop) (hR : Hid (∀ v w', RdR w' v formatT → Below w.heap.size w w' → R (.returned v) w')) : Calls Tryz.prog 238 #[] w R := by
 go_enter Tryz.func238, Tryz.ntmps238
 refine wp_tabSl 293 336 formatT (.slice none 0 0) rfl (by kernel_rfl) (by kernel_rfl) (by kernel_rfl) (by kernel_rfl) built_rg (of_decide_eq_true (by kernel_rfl)) (of_decide_eq_true (by kernel_rfl)) (by kernel_rfl) rfl fun a' hp hd => ?_
 exact bodyPost_ret (results_tmp1 rfl _ _ _ hp) hd (hR.out _ _ (rdR_new w _ _) ((Below.refl _ _).alloc (Nat.le_refl _) _))
theorem refZero_calls (w : World) (R : Ending → World → Prop) (hR : Hid (∀ v w', RdR w' v zeroT → Below w.heap.size w w' → R (.returned v) w')) : Calls Tryz.prog 284 #[] w R := by
 go_enter Tryz.func284, Tryz.ntmps284
 refine wp_tabSl 293 336 zeroT (.slice none 0 0) rfl (by kernel_rfl) (by kernel_rfl) (by kernel_rfl) (by kernel_rfl) built_rg (of_decide_eq_true (by kernel_rfl)) (of_decide_eq_true (by kernel_rfl)) (by kernel_rfl) rfl fun a' hp hd => ?_
 exact bodyPost_ret (results_tmp1 rfl _ _ _ hp) hd (hR.out _ _ (rdR_new w _ _) ((Below.refl _ _).alloc (Nat.le_refl _) _))
theorem refWide_calls (w : World) (R : Ending → World → Prop) (hR : Hid (∀ v w', RdR w' v wideT → Below w.heap.size w w' → R (.returned v) w')) : Calls Tryz.prog 283 #[] w R := by
 go_enter Tryz.func283, Tryz.ntmps283
 refine wp_tabSl 293 336 wideT (.slice none 0 0) rfl (by kernel_rfl) (by kernel_rfl) (by kernel_rfl) (by kernel_rfl) built_rg (of_decide_eq_true (by kernel_rfl)) (of_decide_eq_true (by kernel_rfl)) (by kernel_rfl) rfl fun a' hp hd => ?_
 exact bodyPost_ret (results_tmp1 rfl _ _ _ hp) hd (hR.out _ _ (rdR_new w _ _) ((Below.refl _ _).alloc (Nat.le_refl _) _))
end Go.Proofs.YtncijmodlhijoaaGreat.Ran
