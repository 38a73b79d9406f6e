import Derived.Test.YtncijmodlhijoaaGreatQ7
import Derived.Test.YtncijmodlhijoaaGreatQ2
import Derived.Test.YtncijmodlhijoaaGreatQ11
set_option linter.unusedVariables false
set_option maxRecDepth 100000
set_option maxHeartbeats 4000000
namespace Go.Proofs.YtncijmodlhijoaaGreat
open Go.RowKit Go.Lib
noncomputable def empW (S : Nat → Prop) (w : World) : World := { w with heap := w.heap.mapIdx fun i o => @ite _ (S i) (Classical.propDecidable _) (.cells #[] 0) o }
theorem emp_size (S : Nat → Prop) (w : World) : (empW S w).heap.size = w.heap.size := by simp [empW]
theorem emp_in {S : Nat → Prop} {w : World} {g : Nat} (h : S g) (hg : g < w.heap.size) : (empW S w).heap[g]? = some (.cells #[] 0) := by
 unfold empW
 simp only [Array.getElem?_mapIdx]
 rw [Array.getElem?_eq_getElem hg]
 simp [h]
theorem emp_out {S : Nat → Prop} {w : World} {g : Nat} (h : ¬ S g) : (empW S w).heap[g]? = w.heap[g]? := by
 unfold empW
 simp only [Array.getElem?_mapIdx]
 cases hg : w.heap[g]? <;> simp [h]
theorem emp_cell {S : Nat → Prop} {w : World} {g o : Nat} {v : Value} : (empW S w).cell? ⟨g, o, none⟩ = some v ↔ ¬ S g ∧ w.cell? ⟨g, o, none⟩ = some v := by
 by_cases h : S g
 ·refine ⟨fun q => ?_, fun q => absurd h q.1⟩
  have hg := World.block_lt_of_cell? _ _ q
  rw [emp_size] at hg
  have := emp_in h hg
  rw [Lib.cell_of_heap this] at q
  simp at q
 ·rw [World.cell?_of_block (a := ⟨g, o, none⟩) (emp_out h)]
  exact ⟨fun q => ⟨h, q⟩, fun q => q.2⟩
theorem emp_kp {S S' : Nat → Prop} {w w' : World} (hs : w.heap.size ≤ w'.heap.size) (h : ∀ g, g < w.heap.size → ¬ S g → ¬ S' g ∧ w'.heap[g]? = w.heap[g]?) : Kp (empW S w) (empW S' w') := by
 refine ⟨by rw [emp_size, emp_size]; exact hs, fun b o v q => ?_⟩
 obtain ⟨n, q⟩ := emp_cell.1 q
 obtain ⟨n', e⟩ := h b (World.block_lt_of_cell? _ _ q) n
 exact emp_cell.2 ⟨n', (World.cell?_of_block (a := ⟨b, o, none⟩) e).trans q⟩
theorem emp_un {S : Nat → Prop} {w w' : World} (hs : w.heap.size ≤ w'.heap.size) (h : ∀ g, g < w.heap.size → ¬ S g → w'.heap[g]? = w.heap[g]?) : Kp (empW S w) w' := by
 refine ⟨by rw [emp_size]; exact hs, fun b o v q => ?_⟩
 obtain ⟨n, q⟩ := emp_cell.1 q
 exact (World.cell?_of_block (a := ⟨b, o, none⟩) (h b (World.block_lt_of_cell? _ _ q) n)).trans q
def lowS (b : Nat) : Nat → Prop := fun g => g < b
def rowS (b : Nat) (v : Value) : Nat → Prop := fun g => g < b ∨ v.ownBlock = some g
section
variable {P : Program}
theorem run_append_fresh (w : World) (base : Nat) (t ty e : TypeId) (i : TypeInfo) (z : Value) (size bytes : Nat) (ht : P.underlying t = some (.slice e)) (hi : P.info? e = some i) (hz : i.zero = some z)
  (hsize : i.size = size) (hby : i.bytes = bytes) (hzs : z.cells.size = size) (hsz : 0 < size)
  (v : Value) (n : Nat) (xs : List Value) (hown : w.ownsRow base e size v n xs)
  (a : Addr) (c : Nat) (news : List Value) (hl : news.length = 1 * size) (hnews : ∀ j u, news[j]? = some u → w.cell? (a.add j) = some u) (h1 : ∀ u ∈ news, u.oneCell' = true)
  (h63 : n + 1 ≤ maxLen) (hbytes : (n + 1) * bytes ≤ 140737488355328) (v' : Value) (w' : World) (hrun : (Builtin.append_ #[t, t] ty #[v, .slice (some a) 1 c]).run P w = .ok v' w') : v'.ownBlock = v.ownBlock ∨ v'.ownBlock = some w.heap.size := by
 subst hsize
 subst hby
 have hsmall : n + 1 ≤ 9223372036854775807 := by simp only [maxLen] at h63; omega
 rcases hown.2 with ⟨rfl, rfl⟩ | ⟨g, cap, cur, rfl, hbg, hg, hnc, hcm, hcs, htake⟩
 ·have hx : xs = [] := List.eq_nil_of_length_eq_zero (by simpa using hown.1)
  subst hx
  have hr := run_append_nil (P := P) w t ty e i z ht hi hz a 1 c news hl hnews (by omega) (by omega) (by have hb := hbytes; simp only [Nat.zero_add] at hb; omega)
  rw [hr] at hrun
  simp only [Result.ok.injEq] at hrun
  rw [← hrun.1]
  exact .inr rfl
 ·by_cases hroom : n + 1 ≤ cap
  ·have hfit : n * i.size + news.length ≤ cur.size := by rw [hl, hcs, ← Nat.add_mul]; exact Nat.mul_le_mul_right _ hroom
   have hr := run_append_room (P := P) w t ty e i ht hi g n cap cur hg a 1 c news hl hnews h1 hroom hfit
   rw [hr] at hrun
   simp only [Result.ok.injEq] at hrun
   rw [← hrun.1]
   exact .inl rfl
  ·have holds : ∀ j u, xs[j]? = some u → w.cell? ((⟨g, 0, none⟩ : Addr).add j) = some u := hown.cells (g := g) rfl
   have hr := run_append_grow (P := P) w t ty e i z ht hi hz ⟨g, 0, none⟩ n cap xs hown.1 holds a 1 c news hl hnews (by omega) (by omega) (growslice_fits (by omega) hbytes)
   rw [hr] at hrun
   simp only [Result.ok.injEq] at hrun
   rw [← hrun.1]
   exact .inr rfl
theorem appKF {ops : Array Oper} {rest : List Oper} {o : Oper} {a : Act} {Q : Exit → Act → World → Prop} (W : World) (us : Array Value) (k : Nat) (e : TypeId) (hgd : o.guard = none) (s x : Operand) (t : TypeId)
  (ho : o.op = .call { callee := .builtin .append, args := #[s, x], argTypes := #[t, t] })
  (base : Nat) (i : TypeInfo) (z : Value) (bytes : Nat) (ht : P.underlying t = some (.slice e)) (hi : P.info? e = some i) (hz : i.zero = some z) (hsize : i.size = k) (hby : i.bytes = bytes) (hzs : z.cells.size = k) (hk : 0 < k) (hus : us.size = k)
  (v : Value) (n : Nat) (xs : List Value) (hs : a.eval s = v) (hown : W.ownsRow base e k v n xs) (b : Nat) (hx : a.eval x = .slice (some ⟨b, 0, none⟩) 1 1) (hbb : b = W.heap.size) (h1 : ∀ u ∈ us.toList, u.oneCell' = true)
  (h63 : n + 1 ≤ maxLen) (hbytes : (n + 1) * bytes ≤ 140737488355328) (hbase : base ≤ W.heap.size)
  (h : ∀ v' w', w'.ownsRow base e k v' (n + 1) (xs ++ us.toList) → W.grownBy w' v.ownBlock → Below base W w' → (v'.ownBlock = v.ownBlock ∨ v'.ownBlock = some (W.heap.size + 1)) → wpList P ops Q rest (a.put o.dst v') w') :
  wpList P ops Q (o :: rest) a (W.alloc (.cells us e)) := by
 subst hbb
 have hown' := hown.alloc (.cells us e)
 have hnews := cells_new W us e
 have hbase' : base ≤ (W.alloc (.cells us e)).heap.size := by simp; omega
 have hz1 : (W.alloc (.cells us e)).heap.size = W.heap.size + 1 := by simp
 refine wpList_plain hgd fun K hK => ?_
 obtain ⟨v', w', hr, h2, h3, h4⟩ := run_append_own (P := P) (W.alloc (.cells us e)) base t o.type e i z k bytes ht hi hz hsize hby hzs hk v n xs hown' ⟨W.heap.size, 0, none⟩ 1 1 us.toList (by simp [hus]) hnews h1 h63 hbytes hbase'
 have h5 := run_append_fresh (P := P) (W.alloc (.cells us e)) base t o.type e i z k bytes ht hi hz hsize hby hzs hk v n xs hown' ⟨W.heap.size, 0, none⟩ 1 us.toList (by simp [hus]) hnews h1 h63 hbytes v' w' hr
 rw [hz1] at h5
 have hg' := grown_step h3
 unfold Oper.wp execOp
 simp only [ho, resolve, invoke, builtin, Sem.run_bind, Sem.run_pure, Result.andThen_ok, List.map_toArray, List.map_cons, List.map_nil, hs, hx, hr]
 exact hK _ _ (h v' w' h2 hg' (grown_below hg' hbase (fun k hk => (hown.lt k hk).1)) h5)
end
namespace Fo
variable {H L : Type}
def snoc : Fo H L → L → H → Fo H L → Fo H L
 | .nil, l, h, k => .cons l h k .nil
 | .cons l' h' k' r, l, h, k => .cons l' h' k' (snoc r l h k)
def take : Nat → Fo H L → Fo H L
 | 0, _ => .nil
 | _ + 1, .nil => .nil
 | n + 1, .cons l h k r => .cons l h k (take n r)
theorem take_succ : ∀ (n : Nat) {f : Fo H L} {l : L} {h : H} {k r : Fo H L}, drop n f = .cons l h k r → take (n + 1) f = snoc (take n f) l h k
 | 0, f, l, h, k, r, e => by
  have e' : f = .cons l h k r := e
  rw [e']
  rfl
 | n + 1, .nil, l, h, k, r, e => by simp [drop] at e
 | n + 1, .cons l' h' k' r', l, h, k, r, e => by
  show Fo.cons l' h' k' (take (n + 1) r') = Fo.cons l' h' k' (snoc (take n r') l h k)
  rw [take_succ n (f := r') e]
end Fo
section
variable {H L : Type} {k pre : Nat} {hd : World → List Value → H → Value → Prop} {pl : World → List Value → L → Prop}
def RdsF (k pre : Nat) (hd : World → List Value → H → Value → Prop) (pl : World → List Value → L → Prop) (w : World) : List Value → Fo H L → Prop
 | xs, .nil => xs = []
 | xs, .cons l h kids r => ∃ ps ts rest, xs = ps ++ ts ++ rest ∧ ps.length = pre ∧ pl w ps l ∧ RdNd k pre hd pl w ts h kids ∧ RdsF k pre hd pl w rest r
theorem RdsF.kp (hk : ∀ w w' cs h v, Kp w w' → hd w cs h v → hd w' cs h v) (pk : ∀ w w' cs l, Kp w w' → pl w cs l → pl w' cs l) {w w' : World} (q : Kp w w') : ∀ {xs : List Value} {f : Fo H L}, RdsF k pre hd pl w xs f → RdsF k pre hd pl w' xs f
 | xs, .nil, h => h
 | xs, .cons l x kids r, h => by
  obtain ⟨ps, ts, rest, e, l1, hp, hn, hr⟩ := h
  exact ⟨ps, ts, rest, e, l1, pk _ _ _ _ q hp, RdNd.kp hk pk q hn, RdsF.kp hk pk q hr⟩
theorem RdsF.snoc {w : World} {ps ts : List Value} {l : L} {x : H} {kids : Fo H L} (l1 : ps.length = pre) (hp : pl w ps l) (hn : RdNd k pre hd pl w ts x kids) : ∀ {xs : List Value} {f : Fo H L}, RdsF k pre hd pl w xs f → RdsF k pre hd pl w (xs ++ (ps ++ ts)) (f.snoc l x kids)
 | xs, .nil, h => by
  have h' : xs = [] := h
  subst h'
  exact ⟨ps, ts, [], by simp, l1, hp, hn, rfl⟩
 | xs, .cons l' x' kids' r, h => by
  obtain ⟨ps', ts', rest, e, l1', hp', hn', hr⟩ := h
  exact ⟨ps', ts', rest ++ (ps ++ ts), by rw [e]; simp, l1', hp', hn', RdsF.snoc l1 hp hn hr⟩
theorem RdsF.fo {w : World} {g : Nat} : ∀ {f : Fo H L} {xs : List Value} {o : Nat}, RdsF k pre hd pl w xs f → (∀ j v, xs[j]? = some v → w.cell? ⟨g, o + j, none⟩ = some v) → RdFo k pre hd pl w f g o
 | .nil, xs, o, h, hc => trivial
 | .cons l x kids r, xs, o, h, hc => by
  obtain ⟨ps, ts, rest, e, l1, hp, hn, hr⟩ := h
  subst e
  refine RdFo.mk ps ts l1 (fun j v q => ?_) hp hn (RdsF.fo hr fun j v q => ?_)
  ·exact hc j v (by rw [List.getElem?_append_left (List.getElem?_eq_some_iff.1 q).1]; exact q)
  ·have := hc (pre + k + j) v (by
    rw [List.getElem?_append_right (by rw [List.length_append, l1, hn.1]; omega), List.length_append, l1, hn.1, Nat.add_sub_cancel_left]
    exact q)
   rw [← Nat.add_assoc, ← Nat.add_assoc] at this
   rw [← Nat.add_assoc]
   exact this
end
end Go.Proofs.YtncijmodlhijoaaGreat
namespace Go.Proofs.YtncijmodlhijoaaGreat.Syn
open Go.RowKit Go.Lib Utf Tok Cur Nam Lat Kin
theorem satR {w : World} {p : Nat} {cs : Array Value} {t : TypeId} (h : w.heap[p]? = some (.cells cs t)) (o : Nat) (v : Value) : (w.setCell ⟨p, o, none⟩ v).heap[p]? = some (.cells (cs.setIfInBounds o v) t) := by
 simp [World.setCell, Array.getElem?_modify, h]
theorem sneR {w : World} {q o k : Nat} {v : Value} (h : k ≠ q) : (w.setCell ⟨q, o, none⟩ v).heap[k]? = w.heap[k]? := Below.heap_setCell _ ⟨q, o, none⟩ v k h
theorem obB {V W : World} {B : Nat} {o : Obj} (m : Below V.heap.size V W) (h : V.heap[B]? = some o) : W.heap[B]? = some o := (m.block _ (blt h)).trans h
theorem alB (V : World) (o : Obj) : Below V.heap.size V (V.alloc o) := (Below.refl _ _).alloc (Nat.le_refl _) o
theorem ownEmpR {w : World} {base : Nat} {e : TypeId} {k n : Nat} {v : Value} {xs : List Value} (h : w.ownsRow base e k v n xs) : RdAt (empW (lowS base) w) v k xs := by
 have h0 := h
 obtain ⟨hl, ⟨rfl, rfl⟩ | ⟨g, cap, cur, rfl, hb, hg, hn, hm, hc, ht⟩⟩ := h
 ·exact ⟨none, 0, 0, rfl, hl, Nat.le_refl _, fun h => absurd h (by omega)⟩
 ·refine ⟨_, n, cap, rfl, hl, hn, fun _ => ⟨g, 0, rfl, ?_, fun j u hj => ?_⟩⟩
  ·rw [emp_size]
   exact (h0.lt g rfl).2
  ·have := h0.cells (g := g) rfl j u hj
   rw [Addr.add_lit] at this
   exact emp_cell.2 ⟨by unfold lowS; omega, this⟩
theorem ownKeepR {w w' : World} {base : Nat} {e : TypeId} {k n : Nat} {v : Value} {xs : List Value} (h : w.ownsRow base e k v n xs) (hk : ∀ g, v.ownBlock = some g → w'.heap[g]? = w.heap[g]?) : w'.ownsRow base e k v n xs := by
 obtain ⟨hl, ⟨rfl, rfl⟩ | ⟨g, cap, cur, rfl, hb, hg, h3⟩⟩ := h
 ·exact ⟨hl, .inl ⟨rfl, rfl⟩⟩
 ·exact ⟨hl, .inr ⟨g, cap, cur, rfl, hb, (hk g rfl).trans hg, h3⟩⟩
theorem ownBl {V W : World} {base : Nat} {e : TypeId} {k n : Nat} {v : Value} {xs : List Value} (h : V.ownsRow base e k v n xs) (m : Below V.heap.size V W) : W.ownsRow base e k v n xs := ownKeepR h fun g hg => m.block _ (h.lt g hg).2
theorem ownSet {V : World} {base B o : Nat} {u : Value} {e : TypeId} {k n : Nat} {v : Value} {xs : List Value} (h : V.ownsRow base e k v n xs) (hB : B < base) : (V.setCell ⟨B, o, none⟩ u).ownsRow base e k v n xs := ownKeepR h fun g hg => sneR (by have := (h.lt g hg).1; omega)
theorem obApp {V W : World} {base B : Nat} {o : Obj} {e : TypeId} {k n : Nat} {v : Value} {xs : List Value} (h : V.ownsRow base e k v n xs) (g : V.grownBy W v.ownBlock) (hb : V.heap[B]? = some o) (hB : B < base) : W.heap[B]? = some o :=
 (g.block B (blt hb) fun q => by have := (h.lt B q.symm).1; omega).trans hb
theorem wrInfoR : (Tryz.prog.info? 27).map (fun i => (i.zero, i.size, i.bytes)) = some (some (.agg #[.string ⟨#[]⟩, .int .i64 0]), 2, 24) := by kernel_rfl
theorem label16_calls (p : PS) (v : Value) (w0 w : World) (hb : Below w0.heap.size w0 w) (hx : RdK w0 v p.1) (ok : Ok p) (hl : p.1.length ≤ 1000000) (R : Ending → World → Prop)
  (hR : Hid (∀ lv v' w', RdW (empW (lowS w.heap.size) w') lv (labelP p).1 → RdK w0 v' (labelP p).2.1 → Ok (labelP p).2 → Below w.heap.size w w' → R (.returned (.tuple #[lv, psV v' (labelP p).2])) w')) : Calls Tryz.prog 324 #[psV v p] w R := by
 obtain ⟨ti, hI, hZ⟩ : ∃ i0, Tryz.prog.info? 27 = some i0 ∧ (i0.zero, i0.size, i0.bytes) = (some (.agg #[.string ⟨#[]⟩, .int .i64 0]), 2, 24) := by
  have := wrInfoR
  cases h : Tryz.prog.info? 27 with
  | none => rw [h] at this; cases this
  | some i0 => rw [h] at this; exact ⟨i0, rfl, by simpa using this⟩
 simp only [Prod.mk.injEq] at hZ
 obtain ⟨hz0, hz1, hz2⟩ := hZ
 have eL : labelP p = sepS nameS plus (p.1.length + 1) p := rfl
 have okL := sep_ok (m := plus) gd_name (p.1.length + 1) p ok
 rw [eL] at hR
 clear eL
 obtain ⟨A, cp, rfl, hlc, -⟩ := hx.op
 obtain ⟨o1_, ho1_⟩ : ∃ oO_ : Obj, oO_ = .cells #[.slice A p.1.length cp, .int .i64 p.2.1, .int .i64 p.2.2] 142 := ⟨_, rfl⟩
 have hA := heap_alloc_new w o1_
 have n := alB w o1_
 have z1 : (w.alloc o1_).heap.size = w.heap.size + 1 := by simp
 obtain ⟨o2_, ho2_⟩ : ∃ oO_ : Obj, oO_ = .cells #[.slice none 0 0, .int .i64 0, .int .i64 0] 142 := ⟨_, rfl⟩
 have hY := heap_alloc_new (w.alloc o1_) o2_
 subst ho1_
 rw [z1] at hY
 replace hA := obB (alB _ o2_) hA
 replace n := n.alloc n.size o2_
 subst ho2_
 go_enter Tryz.func324, Tryz.ntmps324
 go_upto_region 2 with fail
 generalize (w.alloc (.cells #[.slice A p.1.length cp, .int .i64 p.2.1, .int .i64 p.2.2] 142)).alloc (.cells #[.slice none 0 0, .int .i64 0, .int .i64 0] 142) = V at *
 clear z1
 go_loopg [4] p.1.length (fun gk lv wr => ∃ (K : Nat) (acc : List Wr) (q : PS) (n0 : Nat) (lv' vq : Value), lv' = lv ∧ acc.length = K ∧ gk = q.1.length ∧ K + q.1.length ≤ p.1.length ∧ q.1.length < n0 ∧ Hid (sepS nameS plus (p.1.length + 1) p = (acc ++ (sepS nameS plus n0 q).1, (sepS nameS plus n0 q).2)) ∧ Ok q ∧ Hid (RdK w0 vq q.1) ∧ Hid (wr.heap[w.heap.size]? = some (.cells #[vq, .int .i64 q.2.1, .int .i64 q.2.2] 142)) ∧ Hid (wr.heap[w.heap.size + 1]? = some (.cells #[.slice none 0 0, .int .i64 0, .int .i64 0] 142)) ∧ Hid (Below w.heap.size w wr) ∧ Hid (wr.ownsRow (w.heap.size + 2) 27 2 lv' K (flatG encW acc)))
 case atStart => exact ⟨0, [], p, p.1.length + 1, _, _, rfl, rfl, rfl, by omega, by omega, Lib.hid rfl, ok, Lib.hid hx, Lib.hid hA, Lib.hid hY, Lib.hid n, Lib.hid (World.ownsRow_nil _ _ _ _)⟩
 case round =>
  clear n hA hY hx ok
  obtain ⟨K, acc, q, n0, lv, vq, rfl, rfl, rfl, e1, e2, e3, ok, hx, hA, hY, n, own⟩ := hrel
  replace hA := hA.out
  replace hY := hY.out
  replace n := n.out
  replace own := own.out
  replace hx := hx.out
  have hbV := hb.trans (n.mono hb.size)
  obtain ⟨A1, c1, rfl, -, -⟩ := hx.op
  obtain ⟨n1, rfl⟩ : ∃ n1, n0 = n1 + 1 := ⟨n0 - 1, by omega⟩
  replace e3 := e3.out
  have gn := gd_name q ok
  have a0 := (Lib.cell_of_heap hA 0).trans rfl
  have a1 := (Lib.cell_of_heap hA 1).trans rfl
  have a2 := (Lib.cell_of_heap hA 2).trans rfl
  go_wp2_with fail
  refine name16_calls q (.slice A1 q.1.length c1) w0 _ hbV hx ok _ (Lib.hid fun v2 w2 r2 m2 => ?_)
  obtain ⟨A2, c2, rfl, -, -⟩ := r2.op
  replace hA := obB m2 hA
  replace hY := obB m2 hY
  replace own := ownBl own m2
  replace n := n.trans (m2.mono n.size)
  clear m2 hx a0 a1 a2 hbV
  have es : sepS nameS plus (n1 + 1) q = if (mayS (nameS q).2 plus).2 = true then ((nameS q).1 :: (sepS nameS plus n1 (mayS (nameS q).2 plus).1).1, (sepS nameS plus n1 (mayS (nameS q).2 plus).1).2) else ([(nameS q).1], (nameS q).2) := rfl
  rw [es] at e3
  clear es
  generalize (nameS q).1 = x at *
  generalize (nameS q).2 = q2 at *
  obtain ⟨x0, x1⟩ := x
  have lw2 : w.heap.size + 1 < w2.heap.size := blt hY
  have lo : ∀ b, lv.ownBlock = some b → b < w2.heap.size := fun b hb => (own.lt b hb).2
  have lo2 : ∀ b, lv.ownBlock = some b → w.heap.size + 2 ≤ b := fun b hb => (own.lt b hb).1
  obtain ⟨o4_, ho4_⟩ : ∃ oO_ : Obj, oO_ = .cells #[.string x0, .int .i64 x1] 27 := ⟨_, rfl⟩
  have hX := heap_alloc_new w2 o4_
  have z2 : (w2.alloc o4_).heap.size = w2.heap.size + 1 := by simp
  have m3 := alB w2 o4_
  obtain ⟨o3_, ho3_⟩ : ∃ oO_ : Obj, oO_ = .cells #[.slice A2 q2.1.length c2, .int .i64 q2.2.1, .int .i64 q2.2.2] 142 := ⟨_, rfl⟩
  have hP := heap_alloc_new (w2.alloc o4_) o3_
  subst ho4_
  rw [z2] at hP
  replace hX := obB (alB _ o3_) hX
  replace m3 := m3.alloc m3.size o3_
  subst ho3_
  replace hA := obB m3 hA
  replace hY := obB m3 hY
  replace own := ownBl own m3
  replace n := n.trans (m3.mono n.size)
  clear m3 z2
  go_upto_region 3 with fail
  generalize (w2.alloc (.cells #[.string x0, .int .i64 x1] 27)).alloc (.cells #[.slice A2 q2.1.length c2, .int .i64 q2.2.1, .int .i64 q2.2.2] 142) = V3 at *
  generalize w2.heap.size = X at *
  have x_0 := (Lib.cell_of_heap hX 0).trans rfl
  have x_1 := (Lib.cell_of_heap hX 1).trans rfl
  have own2 := Lib.hid own
  have hsz : w.heap.size + 2 ≤ V3.heap.size := by have := blt hP; omega
  have lacc : acc.length ≤ 1000000 := by omega
  go_upto_region 4 with (at_builtin; go_loud (refine appKF V3 #[.string x0, .int .i64 x1] 2 27 rfl _ _ 22 rfl (w.heap.size + 2) ti (.agg #[.string ⟨#[]⟩, .int .i64 0]) 24 Tryz.underlying22 hI hz0 hz1 hz2 rfl (by decide) rfl _ acc.length (flatG encW acc) rfl own2.out _ rfl rfl (by simp [Value.oneCell']) (by unfold maxLen; omega) (by omega) hsz ?_); rintro lv4 w4 hown4 hg4 hb4 hfr)
  replace hA := obApp own hg4 hA (by omega)
  replace hY := obApp own hg4 hY (by omega)
  have hP4 := (hg4.block (X + 1) (blt hP) (fun q => by have := lo (X + 1) q.symm; omega)).trans hP
  have n4 := n.trans (show Below w.heap.size V3 w4 from ⟨hg4.os, hg4.tape, hg4.output, hg4.size, fun k hk => hg4.block k (by have := n.size; omega) (fun q => by have := lo2 k q.symm; omega)⟩)
  have own4 : w4.ownsRow (w.heap.size + 2) 27 2 lv4 (acc.length + 1) (flatG encW (acc ++ [(x0, x1)])) := by rw [flatG_snoc]; exact hown4
  clear own own2 hX hP n hg4 hb4 hown4 x_0 x_1 lo lo2 hsz
  have a0 := (Lib.cell_of_heap hP4 0).trans rfl
  have a1 := (Lib.cell_of_heap hP4 1).trans rfl
  have a2 := (Lib.cell_of_heap hP4 2).trans rfl
  have hbV := hb.trans (n4.mono hb.size)
  have ok2 := gn.1
  go_wp2_with fail
  refine may16_calls q2 (.slice A2 q2.1.length c2) w0 _ hbV r2 ok2 plus _ (Lib.hid fun v5 w5 r5 m5 => ?_)
  obtain ⟨A5, c5, rfl, -, -⟩ := r5.op
  replace hA := obB m5 hA
  replace hY := obB m5 hY
  replace hP4 := obB m5 hP4
  replace own4 := ownBl own4 m5
  replace n4 := n4.trans (m5.mono n4.size)
  clear m5 a0 a1 a2 hbV
  have lt := fun h => may_lt (m := plus) (EndL.ne ok2) h
  have okm := may_ok (m := plus) ok2
  have nomay : (mayS q2 plus).2 = false → (mayS q2 plus).1 = q2 := fun h => by
   unfold mayS at *
   split at h
   ·cases h
   ·rename_i c
    rw [if_neg c]
  generalize (mayS q2 plus).1 = q3 at *
  have hQ := heap_alloc_new w5 (.cells #[.slice A5 q3.1.length c5, .int .i64 q3.2.1, .int .i64 q3.2.2] 142)
  have m6 := alB w5 (.cells #[.slice A5 q3.1.length c5, .int .i64 q3.2.1, .int .i64 q3.2.2] 142)
  replace hA := obB m6 hA
  replace hY := obB m6 hY
  replace hP4 := obB m6 hP4
  replace own4 := ownBl own4 m6
  replace n4 := n4.trans (m6.mono n4.size)
  clear m6
  go_upto_region 5 with fail
  generalize w5.alloc (.cells #[.slice A5 q3.1.length c5, .int .i64 q3.2.1, .int .i64 q3.2.2] 142) = V6 at *
  generalize w5.heap.size = Q at *
  cases hm : (mayS q2 plus).2
  ·rw [hm, if_neg (by decide)] at e3
   have eq3 := nomay hm
   clear nomay lt
   go_upto_region 6 with fail
   have lP := blt hP4
   have jP : ∀ y : GW V6 (w.heap.size + 1) (w.heap.size + 1), y.w.rangeAt (X + 1) 0 [.slice A2 q2.1.length c2, .int .i64 q2.2.1, .int .i64 q2.2.2] := fun y j v h => by rw [Nat.zero_add, Lib.cell_of_heap ((y.b _ lP (by omega) (by omega)).trans hP4)]; simpa using h
   refine wp_region_mixG (w.heap.size + 1) (w.heap.size + 1) [([0, 1, 2], 3)] [] (by kernel_rfl) (by kernel_rfl) (by kernel_rfl) (by kernel_rfl) (fun _ _ d _ _ h => by cases d <;> exact h) ?_
   have gW : Below V6.heap.size V6 (V6.drewN 1) := ⟨rfl, rfl, rfl, Nat.le_refl _, fun _ _ => rfl⟩
   refine mix_cons (os := [_, _, _]) (by simp only [pickO, List.filterMap_cons, List.filterMap_nil, List.getElem?_toArray, List.getElem?_cons_succ, List.getElem?_cons_zero]; rfl) (fun Kp hKp => ?_)
   go_big_quiet_step (exact rfl)
   refine wpQuiet_load rfl 142 _ rfl (X + 1) 0 rfl [.slice A2 q2.1.length c2, .int .i64 q2.2.1, .int .i64 q2.2.2] _ (by rintro V ⟨y, rfl⟩; exact jP y) Tryz.underlying142 rfl (by kernel_rfl) ?_
   go_simp
   go_big_quiet_step (exact rfl)
   refine wpQuiet_nil ?_
   refine hKp _ ?_
   clear hKp
   replace hY := obB gW hY
   replace own4 := ownBl own4 gW
   replace n4 := n4.trans (gW.mono n4.size)
   refine loud (by rfl) (by kernel_rfl) (fun K2 hK2 => ?_)
   have y0 := (Lib.cell_of_heap hY 0).trans rfl
   have yf0 := Lib.frozen_of_heap hY 0
   have y1 := (Lib.cell_of_heap hY 1).trans rfl
   have yf1 := Lib.frozen_of_heap hY 1
   have y2 := (Lib.cell_of_heap hY 2).trans rfl
   have yf2 := Lib.frozen_of_heap hY 2
   go_simp
   refine hK2 _ _ (GW.set (GW.set (GW.set (GW.bl gW) _) _) _) ?_
   clear hK2
   refine mix_nil (os := []) (by rfl) (fun Kp hKp => ?_)
   refine wpQuiet_nil ?_
   refine hKp _ ?_
   clear hKp
   have rdL := RdW.kp (emp_kp (S := lowS (w.heap.size + 2)) (S' := lowS w.heap.size) (w' := (((V6.drewN 1).setCell ⟨w.heap.size + 1, 0, none⟩ (.slice A2 q2.1.length c2)).setCell ⟨w.heap.size + 1, 1, none⟩ (.int .i64 q2.2.1)).setCell ⟨w.heap.size + 1, 2, none⟩ (.int .i64 q2.2.2)) (by simp [World.setCell]) fun g h1 h2 => ⟨by unfold lowS at *; omega, by
    unfold lowS at h2
    rw [sneR (by omega), sneR (by omega), sneR (by omega)]⟩) (show RdW (empW (lowS (w.heap.size + 2)) (V6.drewN 1)) lv4 (acc ++ [(x0, x1)]) from ownEmpR own4)
   rw [e3] at hR okL
   have fin := Lib.hid (hR.out lv4 (.slice A2 q2.1.length c2) _ rdL r2 okL (set3p (q := w.heap.size + 1) (by omega) n4 (.slice A2 q2.1.length c2) (.int .i64 q2.2.1) (.int .i64 q2.2.2)))
   clear hR rdL own4
   go_wp2_with fail
   refine bodyPost_ret ?_ rfl fin.out
   simp [results, Tryz.results324, go_sem, y0, y1, y2]
  ·rw [hm, if_pos rfl] at e3
   have lt3 := lt hm
   clear lt nomay
   have b0 := (Lib.cell_of_heap hQ 0).trans rfl
   have b1 := (Lib.cell_of_heap hQ 1).trans rfl
   have b2 := (Lib.cell_of_heap hQ 2).trans rfl
   have a0 := (Lib.cell_of_heap hA 0).trans rfl
   have af0 := Lib.frozen_of_heap hA 0
   have a1 := (Lib.cell_of_heap hA 1).trans rfl
   have af1 := Lib.frozen_of_heap hA 1
   have a2 := (Lib.cell_of_heap hA 2).trans rfl
   have af2 := Lib.frozen_of_heap hA 2
   have hA7 := satR (satR (satR hA 0 (.slice A5 q3.1.length c5)) 1 (.int .i64 q3.2.1)) 2 (.int .i64 q3.2.2)
   simp only [List.setIfInBounds_toArray, List.set_cons_succ, List.set_cons_zero] at hA7
   have hY7 := (sneR (w := (V6.setCell ⟨w.heap.size, 0, none⟩ (.slice A5 q3.1.length c5)).setCell ⟨w.heap.size, 1, none⟩ (.int .i64 q3.2.1)) (q := w.heap.size) (o := 2) (v := .int .i64 q3.2.2) (show w.heap.size + 1 ≠ w.heap.size by omega)).trans ((sneR (w := V6.setCell ⟨w.heap.size, 0, none⟩ (.slice A5 q3.1.length c5)) (q := w.heap.size) (o := 1) (v := .int .i64 q3.2.1) (show w.heap.size + 1 ≠ w.heap.size by omega)).trans ((sneR (w := V6) (q := w.heap.size) (o := 0) (v := .slice A5 q3.1.length c5) (show w.heap.size + 1 ≠ w.heap.size by omega)).trans hY))
   have own7 := ownSet (o := 2) (u := .int .i64 q3.2.2) (ownSet (o := 1) (u := .int .i64 q3.2.1) (ownSet (o := 0) (u := .slice A5 q3.1.length c5) own4 (show w.heap.size < w.heap.size + 2 by omega)) (show w.heap.size < w.heap.size + 2 by omega)) (show w.heap.size < w.heap.size + 2 by omega)
   have n7 := set3p (q := w.heap.size) (Nat.le_refl _) n4 (.slice A5 q3.1.length c5) (.int .i64 q3.2.1) (.int .i64 q3.2.2)
   have e7 : sepS nameS plus (p.1.length + 1) p = (acc ++ [(x0, x1)] ++ (sepS nameS plus n1 q3).1, (sepS nameS plus n1 q3).2) := by rw [e3, List.append_assoc]; rfl
   replace hA7 := Lib.hid hA7
   replace hY7 := Lib.hid hY7
   replace own7 := Lib.hid own7
   replace n7 := Lib.hid n7
   replace e7 := Lib.hid e7
   replace r5 := Lib.hid r5
   have l7 : (acc ++ [(x0, x1)]).length = acc.length + 1 := by simp
   clear hA hY own4 n4 e3 hR hP4 hQ
   go_wp2_with fail
   go_roundg q3.1.length
   case measure => omega
   case rel => exact ⟨acc.length + 1, acc ++ [(x0, x1)], q3, n1, lv4, .slice A5 q3.1.length c5, rfl, l7, rfl, by omega, by omega, e7, okm, r5, hA7, hY7, n7, own7⟩
def stB (w : World) (B : Nat) : List (Nat × Value) → World
 | [] => w
 | x :: l => stB (w.setCell ⟨B, x.1, none⟩ x.2) B l
def stC (c : Array Value) : List (Nat × Value) → Array Value
 | [] => c
 | x :: l => stC (c.setIfInBounds x.1 x.2) l
theorem stB_o {B k : Nat} (h : k ≠ B) : ∀ (l : List (Nat × Value)) {w : World}, (stB w B l).heap[k]? = w.heap[k]?
 | [], _ => rfl
 | _ :: l, _ => (stB_o h l).trans (sneR h)
theorem stB_s {B : Nat} {t : TypeId} : ∀ (l : List (Nat × Value)) {w : World} {c : Array Value}, w.heap[B]? = some (.cells c t) → (stB w B l).heap[B]? = some (.cells (stC c l) t)
 | [], _, _, h => h
 | x :: l, _, _, h => stB_s l (satR h x.1 x.2)
theorem stB_n {b B : Nat} (h : b ≤ B) {w0 : World} : ∀ (l : List (Nat × Value)) {w : World}, Below b w0 w → Below b w0 (stB w B l)
 | [], _, m => m
 | x :: l, _, m => stB_n h l (m.setCell (p := ⟨B, x.1, none⟩) h x.2)
theorem stB_z {B : Nat} : ∀ (l : List (Nat × Value)) {w : World}, (stB w B l).heap.size = w.heap.size
 | [], _ => rfl
 | x :: l, w => (stB_z l).trans (by simp [World.setCell])
theorem stB_k {b B : Nat} (h : B < b) (l : List (Nat × Value)) {w : World} : Kp (empW (lowS b) w) (empW (lowS b) (stB w B l)) :=
 emp_kp (Nat.le_of_eq (stB_z l).symm) fun g h1 h2 => ⟨h2, stB_o (by unfold lowS at h2; omega) l⟩
theorem box1 (w : World) (a : Obj) : ∃ V, w.alloc a = V ∧ V.heap[w.heap.size]? = some a ∧ Below w.heap.size w V ∧ V.heap.size = w.heap.size + 1 := ⟨_, rfl, heap_alloc_new w a, alB w a, by simp⟩
theorem box2 (w : World) (a b : Obj) : ∃ V, (w.alloc a).alloc b = V ∧ V.heap[w.heap.size]? = some a ∧ V.heap[w.heap.size + 1]? = some b ∧ Below w.heap.size w V ∧ V.heap.size = w.heap.size + 2 ∧ (w.alloc a).heap.size = w.heap.size + 1 := by
 obtain ⟨V, e, h, n, z⟩ := box1 w a
 obtain ⟨V2, e2, h2, n2, z2⟩ := box1 V b
 rw [e, e2]
 rw [z] at h2
 exact ⟨V2, rfl, obB n2 h, h2, n.trans (n2.mono n.size), by omega, z⟩
theorem box3 (w : World) (a b c : Obj) : ∃ V, ((w.alloc a).alloc b).alloc c = V ∧ V.heap[w.heap.size]? = some a ∧ V.heap[w.heap.size + 1]? = some b ∧ V.heap[w.heap.size + 2]? = some c ∧ Below w.heap.size w V ∧ V.heap.size = w.heap.size + 3 ∧ (w.alloc a).heap.size = w.heap.size + 1 ∧ ((w.alloc a).alloc b).heap.size = w.heap.size + 2 := by
 obtain ⟨V, e, h, h', n, z, y1⟩ := box2 w a b
 obtain ⟨V2, e2, h2, n2, z2⟩ := box1 V c
 rw [e, e2]
 rw [z] at h2
 exact ⟨V2, rfl, obB n2 h, obB n2 h', h2, n.trans (n2.mono n.size), by omega, y1, z⟩
theorem box4 (w : World) (a b c d : Obj) : ∃ V, (((w.alloc a).alloc b).alloc c).alloc d = V ∧ V.heap[w.heap.size]? = some a ∧ V.heap[w.heap.size + 1]? = some b ∧ V.heap[w.heap.size + 2]? = some c ∧ V.heap[w.heap.size + 3]? = some d ∧ Below w.heap.size w V ∧ V.heap.size = w.heap.size + 4 ∧ (w.alloc a).heap.size = w.heap.size + 1 ∧ ((w.alloc a).alloc b).heap.size = w.heap.size + 2 ∧ (((w.alloc a).alloc b).alloc c).heap.size = w.heap.size + 3 := by
 obtain ⟨V, e, h, h', h'', n, z, y1, y2⟩ := box3 w a b c
 obtain ⟨V2, e2, h2, n2, z2⟩ := box1 V d
 rw [e, e2]
 rw [z] at h2
 exact ⟨V2, rfl, obB n2 h, obB n2 h', obB n2 h'', h2, n.trans (n2.mono n.size), by omega, y1, y2, z⟩
theorem cl3 {w : World} {B : Nat} {a b c : Value} {t : TypeId} (h : w.heap[B]? = some (.cells #[a, b, c] t)) : w.cell? ⟨B, 0, none⟩ = some a ∧ w.cell? ⟨B, 1, none⟩ = some b ∧ w.cell? ⟨B, 2, none⟩ = some c := ⟨(Lib.cell_of_heap h 0).trans rfl, (Lib.cell_of_heap h 1).trans rfl, (Lib.cell_of_heap h 2).trans rfl⟩
theorem cf3 {w : World} {B : Nat} {a b c : Value} {t : TypeId} (h : w.heap[B]? = some (.cells #[a, b, c] t)) : w.cell? ⟨B, 0, none⟩ = some a ∧ w.frozen? ⟨B, 0, none⟩ = false ∧ w.cell? ⟨B, 1, none⟩ = some b ∧ w.frozen? ⟨B, 1, none⟩ = false ∧ w.cell? ⟨B, 2, none⟩ = some c ∧ w.frozen? ⟨B, 2, none⟩ = false := ⟨(Lib.cell_of_heap h 0).trans rfl, Lib.frozen_of_heap h 0, (Lib.cell_of_heap h 1).trans rfl, Lib.frozen_of_heap h 1, (Lib.cell_of_heap h 2).trans rfl, Lib.frozen_of_heap h 2⟩
theorem jf {V : World} {p q D : Nat} {L : List Value} {t : TypeId} (h : V.heap[D]? = some (.cells L.toArray t)) (hp : D ≠ p) (hq : D ≠ q) : ∀ W, (∃ y : GW V p q, W = y.w) → W.rangeAt D 0 L := by
 rintro _ ⟨y, rfl⟩ j v e
 rw [Nat.zero_add, Lib.cell_of_heap ((y.b _ (blt h) hp hq).trans h)]
 simpa using e
theorem sc_block : ∀ (vs : List Value) (o : Nat) (w : World) (B k : Nat), k ≠ B → (w.setCells B o vs).heap[k]? = w.heap[k]?
 | [], _, _, _, _, _ => rfl
 | v :: vs, o, w, B, k, h => (sc_block vs (o + 1) (w.setCell ⟨B, o, none⟩ v) B k h).trans (sneR h)
theorem sc_size : ∀ (vs : List Value) (o : Nat) (w : World) (B : Nat), (w.setCells B o vs).heap.size = w.heap.size
 | [], _, _, _ => rfl
 | v :: vs, o, w, B => (sc_size vs (o + 1) (w.setCell ⟨B, o, none⟩ v) B).trans (by simp [World.setCell])
theorem sc_below {base B : Nat} (hB : base ≤ B) : ∀ (vs : List Value) (o : Nat) (w W : World), Below base w W → Below base w (W.setCells B o vs)
 | [], _, _, _, h => h
 | v :: vs, o, w, W, h => sc_below hB vs (o + 1) w (W.setCell ⟨B, o, none⟩ v) (h.setCell (p := ⟨B, o, none⟩) hB v)
theorem sc_gw {W V : World} {p q : Nat} (h : ∃ x : GW W p q, V = x.w) (vs : List Value) (o : Nat) : ∃ x : GW W p q, V.setCells p o vs = x.w := by
 obtain ⟨⟨V, s, b⟩, rfl⟩ := h
 exact ⟨⟨_, by rw [sc_size]; exact s, fun k hk h1 h2 => (sc_block vs o V p k h1).trans (b k hk h1 h2)⟩, rfl⟩
theorem there_of {w : World} {B n : Nat} {cs : Array Value} {t : TypeId} (h : w.heap[B]? = some (.cells cs t)) (hs : cs.size = n) : w.there B 0 n := fun j hj => by
 rw [Nat.zero_add, Lib.cell_of_heap h, Lib.frozen_of_heap h]
 exact ⟨by rw [Array.getElem?_eq_getElem (by omega)]; rfl, rfl⟩
theorem sc_cell {w : World} {B : Nat} {vs : List Value} (ht : w.there B 0 vs.length) (i : Nat) {v : Value} (h : vs[i]? = some v) : (w.setCells B 0 vs).cell? ⟨B, i, none⟩ = some v := by
 have := World.rangeAt_setCells_same w B 0 vs ht i v h
 rwa [Nat.zero_add] at this
theorem emp_sc {W : World} {b b0 B : Nat} (h : b0 ≤ b) (hB : B < b) (vs : List Value) (o : Nat) : Kp (empW (lowS b) W) (empW (lowS b0) (W.setCells B o vs)) :=
 emp_kp (Nat.le_of_eq (sc_size vs o W B).symm) fun g h1 h2 => ⟨by unfold lowS at *; omega, sc_block vs o W B g (by unfold lowS at h2; omega)⟩
theorem sc_all {W0 W w : World} {p q b : Nat} {cs : Array Value} {t : TypeId} {oq : Obj} (LV : List Value) (hp : W.heap[p]? = some (.cells cs t)) (hs : cs.size = LV.length) (g0 : ∃ x : GW W0 p q, W = x.w) (hqp : q ≠ p) (hq : W.heap[q]? = some oq) (hb : b ≤ p) (n : Below b w W) : W.there p 0 LV.length ∧ (∃ x : GW W0 p q, W.setCells p 0 LV = x.w) ∧ (W.setCells p 0 LV).heap[q]? = some oq ∧ Below b w (W.setCells p 0 LV) ∧ Hid (∀ (i : Nat) (v : Value), LV[i]? = some v → (W.setCells p 0 LV).cell? ⟨p, i, none⟩ = some v) :=
 have ht := there_of hp hs
 ⟨ht, sc_gw g0 LV 0, (sc_block LV 0 W p q hqp).trans hq, sc_below hb LV 0 w W n, Lib.hid fun i v e => sc_cell ht i e⟩
theorem st3 {W0 W w : World} {p q b : Nat} {LV : List Value} (gp : ∃ x : GW W0 p q, W = x.w) (hpq : p ≠ q) (hb : b ≤ q) (n : Below b w W) (xx : Hid (∀ (i : Nat) (v : Value), LV[i]? = some v → W.cell? ⟨p, i, none⟩ = some v)) (a0 a1 a2 : Value) : (∃ x : GW W0 p q, ((W.setCell ⟨q, 0, none⟩ a0).setCell ⟨q, 1, none⟩ a1).setCell ⟨q, 2, none⟩ a2 = x.w) ∧ Below b w (((W.setCell ⟨q, 0, none⟩ a0).setCell ⟨q, 1, none⟩ a1).setCell ⟨q, 2, none⟩ a2) ∧ Hid (∀ (i : Nat) (v : Value), LV[i]? = some v → (((W.setCell ⟨q, 0, none⟩ a0).setCell ⟨q, 1, none⟩ a1).setCell ⟨q, 2, none⟩ a2).cell? ⟨p, i, none⟩ = some v) :=
 ⟨GW.set (GW.set (GW.set gp _) _) _, set3p hb n _ _ _, Lib.hid fun i v e => (World.cell?_of_block (a := ⟨p, i, none⟩) ((sneR hpq).trans ((sneR hpq).trans (sneR hpq)))).trans (xx.out i v e)⟩
theorem kp3 {W : World} {b q : Nat} (h : q < b) (a0 a1 a2 : Value) : Kp (empW (lowS b) W) (empW (lowS b) (((W.setCell ⟨q, 0, none⟩ a0).setCell ⟨q, 1, none⟩ a1).setCell ⟨q, 2, none⟩ a2)) := emp_kp (by simp [World.setCell]) fun g _ h2 => ⟨h2, (sneR (by unfold lowS at h2; omega)).trans ((sneR (by unfold lowS at h2; omega)).trans (sneR (by unfold lowS at h2; omega)))⟩
theorem kpL {W : World} {b p : Nat} (h : p < b) (LV : List Value) : Kp (empW (lowS b) W) (empW (lowS b) (W.setCells p 0 LV)) := emp_sc (Nat.le_refl _) h LV 0
theorem kp_lw {w : World} {b b0 : Nat} (h : b0 ≤ b) : Kp (empW (lowS b) w) (empW (lowS b0) w) := emp_kp (Nat.le_refl _) fun k hk nk => ⟨by unfold lowS at *; omega, rfl⟩
end Go.Proofs.YtncijmodlhijoaaGreat.Syn
