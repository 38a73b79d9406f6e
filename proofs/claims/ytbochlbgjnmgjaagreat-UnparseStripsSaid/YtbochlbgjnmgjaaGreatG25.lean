import Derived.Test.YtbochlbgjnmgjaaGreatG14
import Derived.Test.YtbochlbgjnmgjaaGreatG22
import Derived.Test.YtbochlbgjnmgjaaGreatG26
import Derived.Test.YtbochlbgjnmgjaaGreatG23
/- Many cells of one block written at once. -/
set_option maxRecDepth 100000
set_option linter.unusedVariables false
namespace Go.Proofs.YtbochlbgjnmgjaaGreat.Unp
open Go.RowKit Go.Lib

theorem sc_block : ∀ (vs : List Value) (o : Nat) (w : World) (B k : Nat), k ≠ B → (w.setCells B o vs).heap[k]? = w.heap[k]?
  | [], _, _, _, _, _ => rfl
  | v :: vs, o, w, B, k, h => (sc_block vs (o + 1) (w.setCell ⟨B, o, none⟩ v) B k h).trans (Below.heap_setCell _ ⟨B, o, none⟩ v k h)
theorem sc_size : ∀ (vs : List Value) (o : Nat) (w : World) (B : Nat), (w.setCells B o vs).heap.size = w.heap.size
  | [], _, _, _ => rfl
  | v :: vs, o, w, B => (sc_size vs (o + 1) (w.setCell ⟨B, o, none⟩ v) B).trans (by simp [World.setCell])
theorem sc_below {base B : Nat} (hB : base ≤ B) : ∀ (vs : List Value) (o : Nat) (w W : World), Below base w W → Below base w (W.setCells B o vs)
  | [], _, _, _, h => h
  | v :: vs, o, w, W, h => sc_below hB vs (o + 1) w (W.setCell ⟨B, o, none⟩ v) (h.setCell (p := ⟨B, o, none⟩) hB v)
theorem sc_gw {W V : World} {p q : Nat} (h : ∃ x : GW W p q, V = x.w) (vs : List Value) (o : Nat) : ∃ x : GW W p q, V.setCells p o vs = x.w := by
  obtain ⟨⟨V, s, b⟩, rfl⟩ := h
  exact ⟨⟨_, by rw [sc_size]; exact s, fun k hk h1 h2 => (sc_block vs o V p k h1).trans (b k hk h1 h2)⟩, rfl⟩
theorem there_of {w : World} {B n : Nat} {cs : Array Value} {t : TypeId} (h : w.heap[B]? = some (.cells cs t)) (hs : cs.size = n) : w.there B 0 n := fun j hj => by
  rw [Nat.zero_add, Lib.cell_of_heap h, Lib.frozen_of_heap h]
  exact ⟨by rw [Array.getElem?_eq_getElem (by omega)]; rfl, rfl⟩
theorem sc_cell {w : World} {B : Nat} {vs : List Value} (ht : w.there B 0 vs.length) (i : Nat) {v : Value} (h : vs[i]? = some v) : (w.setCells B 0 vs).cell? ⟨B, i, none⟩ = some v := by
  have := World.rangeAt_setCells_same w B 0 vs ht i v h
  rwa [Nat.zero_add] at this
theorem emp_sc {W : World} {b b0 B : Nat} (h : b0 ≤ b) (hB : B < b) (vs : List Value) (o : Nat) : Kp (empW (lowS b) W) (empW (lowS b0) (W.setCells B o vs)) :=
  emp_kp (Nat.le_of_eq (sc_size vs o W B).symm) fun g h1 h2 => ⟨by unfold lowS at *; omega, sc_block vs o W B g (by unfold lowS at h2; omega)⟩
end Go.Proofs.YtbochlbgjnmgjaaGreat.Unp

/- Layer 17: schemas without places. -/
set_option maxRecDepth 100000
set_option linter.unusedVariables false
namespace Go.Proofs.YtbochlbgjnmgjaaGreat.Unp
open Go.RowKit Go.Lib Go.Proofs.YtbochlbgjnmgjaaGreat.Nam Go.Proofs.YtbochlbgjnmgjaaGreat.Lat Go.Proofs.YtbochlbgjnmgjaaGreat.Kin Go.Proofs.YtbochlbgjnmgjaaGreat.Dig

def stP (p : Pr) : Pr := ((p.1.1, 0), (p.2.1, 0))
def stN (n : Nd) : Nd := ((n.1.1, 0), stripH n.2.1, stripF n.2.2)
/-- A schema without places. -/
def stS (s : Sc) : Sc := (stripW s.1, s.2.1.map stP, s.2.2.1.map stN, stripH s.2.2.2.1, stripF s.2.2.2.2)
theorem eqL_map {α : Type} {S : α → α → Bool} {f : α → α} (h : ∀ x, S x (f x) = true) : ∀ l : List α, eqL S l (l.map f) = true
  | [] => rfl
  | x :: l => by show (S x (f x) && eqL S l (l.map f)) = true; rw [h, eqL_map h l]; rfl
theorem eqL_map' {α : Type} {S : α → α → Bool} {f : α → α} (h : ∀ x, S (f x) x = true) : ∀ l : List α, eqL S (l.map f) l = true
  | [] => rfl
  | x :: l => by show (S (f x) x && eqL S (l.map f) l) = true; rw [h, eqL_map' h l]; rfl
theorem same_strip (s : Sc) : sameSc s (stS s) = true := by
  unfold sameSc stS
  have h1 : eqL sW s.1 (stripW s.1) = true := eqL_map (f := fun x => (x.1, 0)) (fun x => by simp [sW]) s.1
  have h2 : eqL sP s.2.1 (s.2.1.map stP) = true := eqL_map (fun x => by simp [sP, sW, stP]) _
  have h3 : eqL sN s.2.2.1 (s.2.2.1.map stN) = true := eqL_map (fun x => by simp [sN, sW, stN, sameS_strip]) _
  rw [h1, h2, h3, sameS_strip]
  rfl
theorem strip_same (s : Sc) : sameSc (stS s) s = true := by
  unfold sameSc stS
  have h1 : eqL sW (stripW s.1) s.1 = true := eqL_map' (f := fun x => (x.1, 0)) (fun x => by simp [sW]) s.1
  have h2 : eqL sP (s.2.1.map stP) s.2.1 = true := eqL_map' (fun x => by simp [sP, sW, stP]) _
  have h3 : eqL sN (s.2.2.1.map stN) s.2.2.1 = true := eqL_map' (fun x => by simp [sN, sW, stN, sameS_comm _ _ x.2.1 x.2.2, sameS_strip]) _
  rw [h1, h2, h3, sameS_comm, sameS_strip]
  rfl
def plW (x : Wr) : Bool := decide (x.2 = 0)
def plP (x : Pr) : Bool := decide (x.1.2 = 0) && decide (x.2.2 = 0)
def plN (x : Nd) : Bool := decide (x.1.2 = 0) && placeS x.2.1 x.2.2
/-- Are all places of a schema 0? -/
def placeSc (s : Sc) : Bool := placeS s.2.2.2.1 s.2.2.2.2 && s.1.all plW && s.2.1.all plP && s.2.2.1.all plN
theorem place_strip_sc (s : Sc) : placeSc (stS s) = true := by
  unfold placeSc stS
  have h1 : (stripW s.1).all plW = true := by rw [List.all_eq_true]; intro x hx; obtain ⟨y, -, rfl⟩ := List.mem_map.1 hx; simp [plW]
  have h2 : (s.2.1.map stP).all plP = true := by rw [List.all_eq_true]; intro x hx; obtain ⟨y, -, rfl⟩ := List.mem_map.1 hx; simp [plP, stP]
  have h3 : (s.2.2.1.map stN).all plN = true := by rw [List.all_eq_true]; intro x hx; obtain ⟨y, -, rfl⟩ := List.mem_map.1 hx; simp [plN, stN, placeS_strip]
  rw [placeS_strip, h1, h2, h3]
  rfl
theorem goodW_st {x : Wr} (h : GoodW x) : GoodW (x.1, 0) := ⟨h.1, by show (-9223372036854775808 : Int) ≤ 0; decide, by show (0 : Int) ≤ 9223372036854775807; decide⟩
set_option maxRecDepth 100000 in
set_option maxHeartbeats 1000000 in
theorem stw_calls (x : Wr) (w : World) (R : Ending → World → Prop) (hR : Hid (∀ w', Below w.heap.size w w' → R (.returned (.agg #[.string x.1, .int .i64 0])) w')) : Calls Tryz.prog 56 #[.agg #[.string x.1, .int .i64 x.2]] w R := by
  have n := ((Below.refl w.heap.size w).alloc (Nat.le_refl _) (.cells #[.string x.1, .int .i64 x.2] 28)).alloc (by rw [alz]; omega) (.cells #[.string x.1, .int .i64 0] 28)
  have fin := Lib.hid (hR.out _ n)
  have hB := heap_alloc_new (w.alloc (.cells #[.string x.1, .int .i64 x.2] 28)) (.cells #[.string x.1, .int .i64 0] 28)
  have zA : (w.alloc (.cells #[.string x.1, .int .i64 x.2] 28)).heap.size = w.heap.size + 1 := by simp
  rw [zA] at hB
  have y0 := (Lib.cell_of_heap hB 0).trans rfl
  have y1 := (Lib.cell_of_heap hB 1).trans rfl
  clear hR n hB zA
  go_enter Tryz.func56, Tryz.ntmps56
  go_wp2_with fail
  refine bodyPost_ret ?_ rfl fin.out
  simp [results, Tryz.results56, go_sem, y0, y1]
set_option maxRecDepth 100000 in
set_option maxHeartbeats 4000000 in
theorem stP_calls (x : Pr) (w : World) (R : Ending → World → Prop)
    (hR : Hid (∀ w', Below w.heap.size w w' → R (.returned (.agg #[.string x.1.1, .int .i64 0, .string x.2.1, .int .i64 0])) w')) : Calls Tryz.prog 58 #[.agg #[.string x.1.1, .int .i64 x.1.2, .string x.2.1, .int .i64 x.2.2]] w R := by
  have hA := heap_alloc_new w (.cells #[.string x.1.1, .int .i64 x.1.2, .string x.2.1, .int .i64 x.2.2] 65)
  have zA : (w.alloc (.cells #[.string x.1.1, .int .i64 x.1.2, .string x.2.1, .int .i64 x.2.2] 65)).heap.size = w.heap.size + 1 := by simp
  have hB := heap_alloc_new (w.alloc (.cells #[.string x.1.1, .int .i64 x.1.2, .string x.2.1, .int .i64 x.2.2] 65)) (.cells #[.string ⟨#[]⟩, .int .i64 0, .string ⟨#[]⟩, .int .i64 0] 65)
  rw [zA] at hB
  replace hA := ((alB (w.alloc (.cells #[.string x.1.1, .int .i64 x.1.2, .string x.2.1, .int .i64 x.2.2] 65)) (.cells #[.string ⟨#[]⟩, .int .i64 0, .string ⟨#[]⟩, .int .i64 0] 65)).block _ (blt hA)).trans hA
  have n := ((Below.refl w.heap.size w).alloc (Nat.le_refl _) (.cells #[.string x.1.1, .int .i64 x.1.2, .string x.2.1, .int .i64 x.2.2] 65)).alloc (by rw [zA]; omega) (.cells #[.string ⟨#[]⟩, .int .i64 0, .string ⟨#[]⟩, .int .i64 0] 65)
  clear zA
  go_enter Tryz.func58, Tryz.ntmps58
  go_upto_region 1 with fail
  generalize (w.alloc (.cells #[.string x.1.1, .int .i64 x.1.2, .string x.2.1, .int .i64 x.2.2] 65)).alloc (.cells #[.string ⟨#[]⟩, .int .i64 0, .string ⟨#[]⟩, .int .i64 0] 65) = V at *
  have lV : w.heap.size + 1 < V.heap.size := blt hB
  have c1 := Lib.hid fun (W : World) R hR => stw_calls x.1 W R hR
  have c2 := Lib.hid fun (W : World) R hR => stw_calls x.2 W R hR
  have a0 := fun y : GW V (w.heap.size + 1) (w.heap.size + 1) => y.cell (blt hA) (by omega) (by omega) ((Lib.cell_of_heap hA 0).trans rfl)
  have a1 := fun y : GW V (w.heap.size + 1) (w.heap.size + 1) => y.cell (blt hA) (by omega) (by omega) ((Lib.cell_of_heap hA 1).trans rfl)
  have a2 := fun y : GW V (w.heap.size + 1) (w.heap.size + 1) => y.cell (blt hA) (by omega) (by omega) ((Lib.cell_of_heap hA 2).trans rfl)
  have a3 := fun y : GW V (w.heap.size + 1) (w.heap.size + 1) => y.cell (blt hA) (by omega) (by omega) ((Lib.cell_of_heap hA 3).trans rfl)
  refine wp_region_mixG (w.heap.size + 1) (w.heap.size + 1) [([0, 1, 3, 4], 2), ([], 5), ([6], 7)] [] (by kernel_rfl) (by kernel_rfl) (by kernel_rfl) (by kernel_rfl) (fun _ _ d _ _ h => by cases d <;> exact h) ?_
  have gW : Below V.heap.size V (V.drewN 1) := ⟨rfl, rfl, rfl, Nat.le_refl _, fun _ _ => rfl⟩
  refine mix_cons (os := [_, _, _, _]) (by simp only [pickO, List.filterMap_cons, List.filterMap_nil, List.getElem?_toArray, List.getElem?_cons_succ, List.getElem?_cons_zero]; rfl) (fun Kp hKp => ?_)
  repeat (go_big_quiet_step (exact rfl))
  refine wpQuiet_nil ?_
  refine hKp _ ?_
  clear hKp
  refine loud (by rfl) (by kernel_rfl) (fun K1 hK1 => ?_)
  go_simp
  refine c1.out _ _ (Lib.hid fun w1 m1 => ?_)
  have g1 := gW.trans (m1.mono gW.size)
  refine hK1 _ _ (GW.bl g1) ?_
  clear hK1 c1
  refine mix_cons (os := []) (by rfl) (fun Kp hKp => ?_)
  refine wpQuiet_nil ?_
  refine hKp _ ?_
  clear hKp
  refine loud (by rfl) (by kernel_rfl) (fun K2 hK2 => ?_)
  go_simp
  refine c2.out _ _ (Lib.hid fun w2 m2 => ?_)
  have g2 := g1.trans (m2.mono g1.size)
  refine hK2 _ _ (GW.bl g2) ?_
  clear hK2 c2
  refine mix_cons (os := [_]) (by simp only [pickO, List.filterMap_cons, List.filterMap_nil, List.getElem?_toArray, List.getElem?_cons_succ, List.getElem?_cons_zero]; rfl) (fun Kp hKp => ?_)
  go_big_quiet_step (exact rfl)
  refine wpQuiet_nil ?_
  refine hKp _ ?_
  clear hKp
  refine loud (by rfl) (by kernel_rfl) (fun K3 hK3 => ?_)
  replace hB := (g2.block _ lV).trans hB
  have z0 := (Lib.cell_of_heap hB 0).trans rfl
  have z1 := (Lib.cell_of_heap hB 1).trans rfl
  have z2 := (Lib.cell_of_heap hB 2).trans rfl
  have z3 := (Lib.cell_of_heap hB 3).trans rfl
  have zf0 := Lib.frozen_of_heap hB 0
  have zf1 := Lib.frozen_of_heap hB 1
  have zf2 := Lib.frozen_of_heap hB 2
  have zf3 := Lib.frozen_of_heap hB 3
  go_simp
  refine hK3 _ _ (GW.set (GW.set (GW.set (GW.set (GW.bl g2) _) _) _) _) ?_
  clear hK3
  refine mix_nil (os := []) (by rfl) (fun Kp hKp => ?_)
  refine wpQuiet_nil ?_
  refine hKp _ ?_
  clear hKp
  have n2 := n.trans (g2.mono n.size)
  have nF := (((n2.setCell (p := ⟨w.heap.size + 1, 0, none⟩) (Nat.le_succ _) (.string x.1.1)).setCell (p := ⟨w.heap.size + 1, 1, none⟩) (Nat.le_succ _) (.int .i64 0)).setCell (p := ⟨w.heap.size + 1, 2, none⟩) (Nat.le_succ _) (.string x.2.1)).setCell (p := ⟨w.heap.size + 1, 3, none⟩) (Nat.le_succ _) (.int .i64 0)
  have fin := Lib.hid (hR.out _ nF)
  clear hR nF n2
  go_wp2_with fail
  refine bodyPost_ret ?_ rfl fin.out
  simp [results, Tryz.results58, go_sem, z0, z1, z2, z3]
set_option maxRecDepth 100000 in
set_option maxHeartbeats 4000000 in
theorem stN_calls (x : Nd) (gx : GoodN x) (lx : LimT x.2.1 x.2.2) (nv pv : Value) (w : World) (hy : RdY w x.2.1 x.2.2 nv pv) (R : Ending → World → Prop)
    (hR : Hid (∀ nv' pv' w', RdY (empW (lowS w.heap.size) w') (stripH x.2.1) (stripF x.2.2) nv' pv' → Below w.heap.size w w' → R (.returned (.agg #[.string x.1.1, .int .i64 0, .int .i64 (stripH x.2.1).kind, .int .i64 (stripH x.2.1).at_, .int .i64 (stripH x.2.1).lo, .int .i64 (stripH x.2.1).hi, .int .i64 (stripH x.2.1).most, nv', pv', .string (stripH x.2.1).name, .int .i64 (stripH x.2.1).nat])) w')) : Calls Tryz.prog 60 #[.agg #[.string x.1.1, .int .i64 x.1.2, .int .i64 x.2.1.kind, .int .i64 x.2.1.at_, .int .i64 x.2.1.lo, .int .i64 x.2.1.hi, .int .i64 x.2.1.most, nv, pv, .string x.2.1.name, .int .i64 x.2.1.nat]] w R := by
  obtain ⟨N1, N3, rfl, -, -⟩ := hy.n.op
  obtain ⟨M1, M3, rfl, -⟩ := hy.p.sl
  have hA := heap_alloc_new w (.cells #[.string x.1.1, .int .i64 x.1.2, .int .i64 x.2.1.kind, .int .i64 x.2.1.at_, .int .i64 x.2.1.lo, .int .i64 x.2.1.hi, .int .i64 x.2.1.most, .slice N1 x.2.1.names.length N3, .slice M1 x.2.2.len M3, .string x.2.1.name, .int .i64 x.2.1.nat] 67)
  have zA : (w.alloc (.cells #[.string x.1.1, .int .i64 x.1.2, .int .i64 x.2.1.kind, .int .i64 x.2.1.at_, .int .i64 x.2.1.lo, .int .i64 x.2.1.hi, .int .i64 x.2.1.most, .slice N1 x.2.1.names.length N3, .slice M1 x.2.2.len M3, .string x.2.1.name, .int .i64 x.2.1.nat] 67)).heap.size = w.heap.size + 1 := by simp
  have hB := heap_alloc_new (w.alloc (.cells #[.string x.1.1, .int .i64 x.1.2, .int .i64 x.2.1.kind, .int .i64 x.2.1.at_, .int .i64 x.2.1.lo, .int .i64 x.2.1.hi, .int .i64 x.2.1.most, .slice N1 x.2.1.names.length N3, .slice M1 x.2.2.len M3, .string x.2.1.name, .int .i64 x.2.1.nat] 67)) (.cells #[.string ⟨#[]⟩, .int .i64 0, .int .i64 0, .int .i64 0, .int .i64 0, .int .i64 0, .int .i64 0, .slice none 0 0, .slice none 0 0, .string ⟨#[]⟩, .int .i64 0] 67)
  rw [zA] at hB
  replace hA := ((alB (w.alloc (.cells #[.string x.1.1, .int .i64 x.1.2, .int .i64 x.2.1.kind, .int .i64 x.2.1.at_, .int .i64 x.2.1.lo, .int .i64 x.2.1.hi, .int .i64 x.2.1.most, .slice N1 x.2.1.names.length N3, .slice M1 x.2.2.len M3, .string x.2.1.name, .int .i64 x.2.1.nat] 67)) (.cells #[.string ⟨#[]⟩, .int .i64 0, .int .i64 0, .int .i64 0, .int .i64 0, .int .i64 0, .int .i64 0, .slice none 0 0, .slice none 0 0, .string ⟨#[]⟩, .int .i64 0] 67)).block _ (blt hA)).trans hA
  have n := ((Below.refl w.heap.size w).alloc (Nat.le_refl _) (.cells #[.string x.1.1, .int .i64 x.1.2, .int .i64 x.2.1.kind, .int .i64 x.2.1.at_, .int .i64 x.2.1.lo, .int .i64 x.2.1.hi, .int .i64 x.2.1.most, .slice N1 x.2.1.names.length N3, .slice M1 x.2.2.len M3, .string x.2.1.name, .int .i64 x.2.1.nat] 67)).alloc (by rw [zA]; omega) (.cells #[.string ⟨#[]⟩, .int .i64 0, .int .i64 0, .int .i64 0, .int .i64 0, .int .i64 0, .int .i64 0, .slice none 0 0, .slice none 0 0, .string ⟨#[]⟩, .int .i64 0] 67)
  clear zA
  replace hy := hy.below n
  go_enter Tryz.func60, Tryz.ntmps60
  go_upto_region 1 with fail
  generalize (w.alloc (.cells #[.string x.1.1, .int .i64 x.1.2, .int .i64 x.2.1.kind, .int .i64 x.2.1.at_, .int .i64 x.2.1.lo, .int .i64 x.2.1.hi, .int .i64 x.2.1.most, .slice N1 x.2.1.names.length N3, .slice M1 x.2.2.len M3, .string x.2.1.name, .int .i64 x.2.1.nat] 67)).alloc (.cells #[.string ⟨#[]⟩, .int .i64 0, .int .i64 0, .int .i64 0, .int .i64 0, .int .i64 0, .int .i64 0, .slice none 0 0, .slice none 0 0, .string ⟨#[]⟩, .int .i64 0] 67) = V at *
  have lV : w.heap.size + 1 < V.heap.size := blt hB
  have c1 := Lib.hid fun (W : World) R hR => stw_calls x.1 W R hR
  have c2 := Lib.hid fun (W : World) (m : Below V.heap.size V W) R hR => strip_calls x.2.2 x.2.1 (.slice N1 x.2.1.names.length N3) (.slice M1 x.2.2.len M3) W lx.1 lx.2.2.1.1 lx.2.2.1.2 lx.2.1 lx.2.2.2 (hy.below m) R hR
  have a0 := fun y : GW V (w.heap.size + 1) (w.heap.size + 1) => y.cell (blt hA) (by omega) (by omega) ((Lib.cell_of_heap hA 0).trans rfl)
  have a1 := fun y : GW V (w.heap.size + 1) (w.heap.size + 1) => y.cell (blt hA) (by omega) (by omega) ((Lib.cell_of_heap hA 1).trans rfl)
  have jT : ∀ y : GW V (w.heap.size + 1) (w.heap.size + 1), y.w.rangeAt (w.heap.size) 2 [.int .i64 x.2.1.kind, .int .i64 x.2.1.at_, .int .i64 x.2.1.lo, .int .i64 x.2.1.hi, .int .i64 x.2.1.most, .slice N1 x.2.1.names.length N3, .slice M1 x.2.2.len M3, .string x.2.1.name, .int .i64 x.2.1.nat] := fun y j v h => by rw [Lib.cell_of_heap ((y.b _ (blt hA) (by omega) (by omega)).trans hA), List.getElem?_toArray, ← List.getElem?_drop]; exact h
  refine wp_region_mixG (w.heap.size + 1) (w.heap.size + 1) [([0, 1, 3, 4], 2), ([], 5), ([6], 7)] [] (by kernel_rfl) (by kernel_rfl) (by kernel_rfl) (by kernel_rfl) (fun _ _ d _ _ h => by cases d <;> exact h) ?_
  have gW : Below V.heap.size V (V.drewN 1) := ⟨rfl, rfl, rfl, Nat.le_refl _, fun _ _ => rfl⟩
  refine mix_cons (os := [_, _, _, _]) (by simp only [pickO, List.filterMap_cons, List.filterMap_nil, List.getElem?_toArray, List.getElem?_cons_succ, List.getElem?_cons_zero]; rfl) (fun Kp hKp => ?_)
  iterate 3 (go_big_quiet_step (exact rfl))
  refine wpQuiet_load rfl 30 _ rfl (w.heap.size) 2 rfl [.int .i64 x.2.1.kind, .int .i64 x.2.1.at_, .int .i64 x.2.1.lo, .int .i64 x.2.1.hi, .int .i64 x.2.1.most, .slice N1 x.2.1.names.length N3, .slice M1 x.2.2.len M3, .string x.2.1.name, .int .i64 x.2.1.nat] _ (by rintro V ⟨y, rfl⟩; exact jT y) Tryz.underlying30 rfl (by kernel_rfl) ?_
  go_simp
  refine wpQuiet_nil ?_
  refine hKp _ ?_
  clear hKp
  refine loud (by rfl) (by kernel_rfl) (fun K1 hK1 => ?_)
  go_simp
  refine c1.out _ _ (Lib.hid fun w1 m1 => ?_)
  have g1 := gW.trans (m1.mono gW.size)
  refine hK1 _ _ (GW.bl g1) ?_
  clear hK1 c1
  refine mix_cons (os := []) (by rfl) (fun Kp hKp => ?_)
  refine wpQuiet_nil ?_
  refine hKp _ ?_
  clear hKp
  refine loud (by rfl) (by kernel_rfl) (fun K2 hK2 => ?_)
  go_simp
  refine c2.out _ g1 _ (Lib.hid fun nv2 pv2 w2 r2 m2 => ?_)
  obtain ⟨B1, B3, rfl, -, -⟩ := r2.n.op
  obtain ⟨C1, C3, rfl, -⟩ := r2.p.sl
  have g2 := g1.trans (m2.mono g1.size)
  refine hK2 _ _ (GW.bl g2) ?_
  clear hK2 c2
  refine mix_cons (os := [_]) (by simp only [pickO, List.filterMap_cons, List.filterMap_nil, List.getElem?_toArray, List.getElem?_cons_succ, List.getElem?_cons_zero]; rfl) (fun Kp hKp => ?_)
  go_big_quiet_step (exact rfl)
  refine wpQuiet_nil ?_
  refine hKp _ ?_
  clear hKp
  refine loud (by rfl) (by kernel_rfl) (fun K3 hK3 => ?_)
  replace hB := (g2.block _ lV).trans hB
  have ht_ : w2.there (w.heap.size + 1) 0 11 := there_of hB rfl
  have gp_ : ∃ gg : GW _ (w.heap.size + 1) (w.heap.size + 1), w2.setCells (w.heap.size + 1) 0 [.string x.1.1, .int .i64 0, .int .i64 (stripH x.2.1).kind, .int .i64 (stripH x.2.1).at_, .int .i64 (stripH x.2.1).lo, .int .i64 (stripH x.2.1).hi, .int .i64 (stripH x.2.1).most, .slice B1 (stripH x.2.1).names.length B3, .slice C1 (stripF x.2.2).len C3, .string (stripH x.2.1).name, .int .i64 (stripH x.2.1).nat] = gg.w := sc_gw (GW.bl g2) _ _
  have n2 := n.trans (g2.mono n.size)
  have n_ := sc_below (B := w.heap.size + 1) (by omega) [.string x.1.1, .int .i64 0, .int .i64 (stripH x.2.1).kind, .int .i64 (stripH x.2.1).at_, .int .i64 (stripH x.2.1).lo, .int .i64 (stripH x.2.1).hi, .int .i64 (stripH x.2.1).most, .slice B1 (stripH x.2.1).names.length B3, .slice C1 (stripF x.2.2).len C3, .string (stripH x.2.1).name, .int .i64 (stripH x.2.1).nat] 0 _ _ n2
  have xx0 := sc_cell (vs := [.string x.1.1, .int .i64 0, .int .i64 (stripH x.2.1).kind, .int .i64 (stripH x.2.1).at_, .int .i64 (stripH x.2.1).lo, .int .i64 (stripH x.2.1).hi, .int .i64 (stripH x.2.1).most, .slice B1 (stripH x.2.1).names.length B3, .slice C1 (stripF x.2.2).len C3, .string (stripH x.2.1).name, .int .i64 (stripH x.2.1).nat]) ht_ 0 rfl
  have xx1 := sc_cell (vs := [.string x.1.1, .int .i64 0, .int .i64 (stripH x.2.1).kind, .int .i64 (stripH x.2.1).at_, .int .i64 (stripH x.2.1).lo, .int .i64 (stripH x.2.1).hi, .int .i64 (stripH x.2.1).most, .slice B1 (stripH x.2.1).names.length B3, .slice C1 (stripF x.2.2).len C3, .string (stripH x.2.1).name, .int .i64 (stripH x.2.1).nat]) ht_ 1 rfl
  have xx2 := sc_cell (vs := [.string x.1.1, .int .i64 0, .int .i64 (stripH x.2.1).kind, .int .i64 (stripH x.2.1).at_, .int .i64 (stripH x.2.1).lo, .int .i64 (stripH x.2.1).hi, .int .i64 (stripH x.2.1).most, .slice B1 (stripH x.2.1).names.length B3, .slice C1 (stripF x.2.2).len C3, .string (stripH x.2.1).name, .int .i64 (stripH x.2.1).nat]) ht_ 2 rfl
  have xx3 := sc_cell (vs := [.string x.1.1, .int .i64 0, .int .i64 (stripH x.2.1).kind, .int .i64 (stripH x.2.1).at_, .int .i64 (stripH x.2.1).lo, .int .i64 (stripH x.2.1).hi, .int .i64 (stripH x.2.1).most, .slice B1 (stripH x.2.1).names.length B3, .slice C1 (stripF x.2.2).len C3, .string (stripH x.2.1).name, .int .i64 (stripH x.2.1).nat]) ht_ 3 rfl
  have xx4 := sc_cell (vs := [.string x.1.1, .int .i64 0, .int .i64 (stripH x.2.1).kind, .int .i64 (stripH x.2.1).at_, .int .i64 (stripH x.2.1).lo, .int .i64 (stripH x.2.1).hi, .int .i64 (stripH x.2.1).most, .slice B1 (stripH x.2.1).names.length B3, .slice C1 (stripF x.2.2).len C3, .string (stripH x.2.1).name, .int .i64 (stripH x.2.1).nat]) ht_ 4 rfl
  have xx5 := sc_cell (vs := [.string x.1.1, .int .i64 0, .int .i64 (stripH x.2.1).kind, .int .i64 (stripH x.2.1).at_, .int .i64 (stripH x.2.1).lo, .int .i64 (stripH x.2.1).hi, .int .i64 (stripH x.2.1).most, .slice B1 (stripH x.2.1).names.length B3, .slice C1 (stripF x.2.2).len C3, .string (stripH x.2.1).name, .int .i64 (stripH x.2.1).nat]) ht_ 5 rfl
  have xx6 := sc_cell (vs := [.string x.1.1, .int .i64 0, .int .i64 (stripH x.2.1).kind, .int .i64 (stripH x.2.1).at_, .int .i64 (stripH x.2.1).lo, .int .i64 (stripH x.2.1).hi, .int .i64 (stripH x.2.1).most, .slice B1 (stripH x.2.1).names.length B3, .slice C1 (stripF x.2.2).len C3, .string (stripH x.2.1).name, .int .i64 (stripH x.2.1).nat]) ht_ 6 rfl
  have xx7 := sc_cell (vs := [.string x.1.1, .int .i64 0, .int .i64 (stripH x.2.1).kind, .int .i64 (stripH x.2.1).at_, .int .i64 (stripH x.2.1).lo, .int .i64 (stripH x.2.1).hi, .int .i64 (stripH x.2.1).most, .slice B1 (stripH x.2.1).names.length B3, .slice C1 (stripF x.2.2).len C3, .string (stripH x.2.1).name, .int .i64 (stripH x.2.1).nat]) ht_ 7 rfl
  have xx8 := sc_cell (vs := [.string x.1.1, .int .i64 0, .int .i64 (stripH x.2.1).kind, .int .i64 (stripH x.2.1).at_, .int .i64 (stripH x.2.1).lo, .int .i64 (stripH x.2.1).hi, .int .i64 (stripH x.2.1).most, .slice B1 (stripH x.2.1).names.length B3, .slice C1 (stripF x.2.2).len C3, .string (stripH x.2.1).name, .int .i64 (stripH x.2.1).nat]) ht_ 8 rfl
  have xx9 := sc_cell (vs := [.string x.1.1, .int .i64 0, .int .i64 (stripH x.2.1).kind, .int .i64 (stripH x.2.1).at_, .int .i64 (stripH x.2.1).lo, .int .i64 (stripH x.2.1).hi, .int .i64 (stripH x.2.1).most, .slice B1 (stripH x.2.1).names.length B3, .slice C1 (stripF x.2.2).len C3, .string (stripH x.2.1).name, .int .i64 (stripH x.2.1).nat]) ht_ 9 rfl
  have xx10 := sc_cell (vs := [.string x.1.1, .int .i64 0, .int .i64 (stripH x.2.1).kind, .int .i64 (stripH x.2.1).at_, .int .i64 (stripH x.2.1).lo, .int .i64 (stripH x.2.1).hi, .int .i64 (stripH x.2.1).most, .slice B1 (stripH x.2.1).names.length B3, .slice C1 (stripF x.2.2).len C3, .string (stripH x.2.1).name, .int .i64 (stripH x.2.1).nat]) ht_ 10 rfl
  refine wp_store_mid 67 _ _ (by rfl) (w.heap.size + 1) 0 #[.string x.1.1, .int .i64 0, .int .i64 (stripH x.2.1).kind, .int .i64 (stripH x.2.1).at_, .int .i64 (stripH x.2.1).lo, .int .i64 (stripH x.2.1).hi, .int .i64 (stripH x.2.1).most, .slice B1 (stripH x.2.1).names.length B3, .slice C1 (stripF x.2.2).len C3, .string (stripH x.2.1).name, .int .i64 (stripH x.2.1).nat] (by rfl) (by rfl) ht_ (by kernel_rfl) (by simp [Value.oneCell']) ?_
  refine hK3 _ _ gp_ ?_
  clear hK3
  have e_ : w2.setCells (w.heap.size + 1) 0 (#[.string x.1.1, .int .i64 0, .int .i64 (stripH x.2.1).kind, .int .i64 (stripH x.2.1).at_, .int .i64 (stripH x.2.1).lo, .int .i64 (stripH x.2.1).hi, .int .i64 (stripH x.2.1).most, .slice B1 (stripH x.2.1).names.length B3, .slice C1 (stripF x.2.2).len C3, .string (stripH x.2.1).name, .int .i64 (stripH x.2.1).nat] : Array Value).toList = w2.setCells (w.heap.size + 1) 0 [.string x.1.1, .int .i64 0, .int .i64 (stripH x.2.1).kind, .int .i64 (stripH x.2.1).at_, .int .i64 (stripH x.2.1).lo, .int .i64 (stripH x.2.1).hi, .int .i64 (stripH x.2.1).most, .slice B1 (stripH x.2.1).names.length B3, .slice C1 (stripF x.2.2).len C3, .string (stripH x.2.1).name, .int .i64 (stripH x.2.1).nat] := rfl
  rw [e_]
  clear e_
  have rF := RdY.kp (emp_sc (W := w2) (B := w.heap.size + 1) (b := w1.heap.size) (b0 := w.heap.size) (by have := g1.size; omega) (by have := g1.size; omega) [.string x.1.1, .int .i64 0, .int .i64 (stripH x.2.1).kind, .int .i64 (stripH x.2.1).at_, .int .i64 (stripH x.2.1).lo, .int .i64 (stripH x.2.1).hi, .int .i64 (stripH x.2.1).most, .slice B1 (stripH x.2.1).names.length B3, .slice C1 (stripF x.2.2).len C3, .string (stripH x.2.1).name, .int .i64 (stripH x.2.1).nat] 0) r2
  have fin := Lib.hid (hR.out _ _ _ rF n_)
  generalize w2.setCells (w.heap.size + 1) 0 [.string x.1.1, .int .i64 0, .int .i64 (stripH x.2.1).kind, .int .i64 (stripH x.2.1).at_, .int .i64 (stripH x.2.1).lo, .int .i64 (stripH x.2.1).hi, .int .i64 (stripH x.2.1).most, .slice B1 (stripH x.2.1).names.length B3, .slice C1 (stripF x.2.2).len C3, .string (stripH x.2.1).name, .int .i64 (stripH x.2.1).nat] = W8 at *
  refine mix_nil (os := []) (by rfl) (fun Kp hKp => ?_)
  refine wpQuiet_nil ?_
  refine hKp _ ?_
  clear hKp
  clear hR rF r2 gp_ ht_
  go_wp2_with fail
  refine bodyPost_ret ?_ rfl fin.out
  simp [results, Tryz.results60, go_sem, xx0, xx1, xx2, xx3, xx4, xx5, xx6, xx7, xx8, xx9, xx10]
end Go.Proofs.YtbochlbgjnmgjaaGreat.Unp
