import Derived.Test.YtbochlbgjnmgjaaGreatG2
import Derived.Test.YtbochlbgjnmgjaaGreatOwn
import Derived.Test.YtbochlbgjnmgjaaGreatG21
import Derived.Test.YtbochlbgjnmgjaaGreatG23
/- A forest that grows in a row of the call's own: what reads in a world with some blocks emptied; an append that tells whether its block is new. -/
set_option maxRecDepth 100000
set_option linter.unusedVariables false
namespace Go.Proofs.YtbochlbgjnmgjaaGreat
open Go.RowKit Go.Lib

/-- The world with some blocks emptied: what reads in it reads in none of them. -/
noncomputable def empW (S : Nat → Prop) (w : World) : World := { w with heap := w.heap.mapIdx fun i o => @ite _ (S i) (Classical.propDecidable _) (.cells #[] 0) o }
theorem emp_size (S : Nat → Prop) (w : World) : (empW S w).heap.size = w.heap.size := by simp [empW]
theorem emp_in {S : Nat → Prop} {w : World} {g : Nat} (h : S g) (hg : g < w.heap.size) : (empW S w).heap[g]? = some (.cells #[] 0) := by
  unfold empW
  simp only [Array.getElem?_mapIdx]
  rw [Array.getElem?_eq_getElem hg]
  simp [h]
theorem emp_out {S : Nat → Prop} {w : World} {g : Nat} (h : ¬ S g) : (empW S w).heap[g]? = w.heap[g]? := by
  unfold empW
  simp only [Array.getElem?_mapIdx]
  cases hg : w.heap[g]? <;> simp [h]
theorem emp_cell {S : Nat → Prop} {w : World} {g o : Nat} {v : Value} : (empW S w).cell? ⟨g, o, none⟩ = some v ↔ ¬ S g ∧ w.cell? ⟨g, o, none⟩ = some v := by
  by_cases h : S g
  · refine ⟨fun q => ?_, fun q => absurd h q.1⟩
    have hg := World.block_lt_of_cell? _ _ q
    rw [emp_size] at hg
    have := emp_in h hg
    rw [Lib.cell_of_heap this] at q
    simp at q
  · rw [World.cell?_of_block (a := ⟨g, o, none⟩) (emp_out h)]
    exact ⟨fun q => ⟨h, q⟩, fun q => q.2⟩
/-- What reads in one emptied world reads in another. -/
theorem emp_kp {S S' : Nat → Prop} {w w' : World} (hs : w.heap.size ≤ w'.heap.size) (h : ∀ g, g < w.heap.size → ¬ S g → ¬ S' g ∧ w'.heap[g]? = w.heap[g]?) : Kp (empW S w) (empW S' w') := by
  refine ⟨by rw [emp_size, emp_size]; exact hs, fun b o v q => ?_⟩
  obtain ⟨n, q⟩ := emp_cell.1 q
  obtain ⟨n', e⟩ := h b (World.block_lt_of_cell? _ _ q) n
  exact emp_cell.2 ⟨n', (World.cell?_of_block (a := ⟨b, o, none⟩) e).trans q⟩
theorem emp_un {S : Nat → Prop} {w w' : World} (hs : w.heap.size ≤ w'.heap.size) (h : ∀ g, g < w.heap.size → ¬ S g → w'.heap[g]? = w.heap[g]?) : Kp (empW S w) w' := by
  refine ⟨by rw [emp_size]; exact hs, fun b o v q => ?_⟩
  obtain ⟨n, q⟩ := emp_cell.1 q
  exact (World.cell?_of_block (a := ⟨b, o, none⟩) (h b (World.block_lt_of_cell? _ _ q) n)).trans q
/-- The blocks below one. -/
def lowS (b : Nat) : Nat → Prop := fun g => g < b
/-- The blocks below one, and a row's. -/
def rowS (b : Nat) (v : Value) : Nat → Prop := fun g => g < b ∨ v.ownBlock = some g
section
variable {P : Program}
theorem run_append_fresh (w : World) (base : Nat) (t ty e : TypeId) (i : TypeInfo) (z : Value) (size bytes : Nat) (ht : P.underlying t = some (.slice e)) (hi : P.info? e = some i) (hz : i.zero = some z)
    (hsize : i.size = size) (hby : i.bytes = bytes) (hzs : z.cells.size = size) (hsz : 0 < size)
    (v : Value) (n : Nat) (xs : List Value) (hown : w.ownsRow base e size v n xs)
    (a : Addr) (c : Nat) (news : List Value) (hl : news.length = 1 * size) (hnews : ∀ j u, news[j]? = some u → w.cell? (a.add j) = some u) (h1 : ∀ u ∈ news, u.oneCell' = true)
    (h63 : n + 1 ≤ maxLen) (hbytes : (n + 1) * bytes ≤ 140737488355328) (v' : Value) (w' : World) (hrun : (Builtin.append_ #[t, t] ty #[v, .slice (some a) 1 c]).run P w = .ok v' w') : v'.ownBlock = v.ownBlock ∨ v'.ownBlock = some w.heap.size := by
  subst hsize
  subst hby
  have hsmall : n + 1 ≤ 9223372036854775807 := by simp only [maxLen] at h63; omega
  rcases hown.2 with ⟨rfl, rfl⟩ | ⟨g, cap, cur, rfl, hbg, hg, hnc, hcm, hcs, htake⟩
  · have hx : xs = [] := List.eq_nil_of_length_eq_zero (by simpa using hown.1)
    subst hx
    have hr := run_append_nil (P := P) w t ty e i z ht hi hz a 1 c news hl hnews (by omega) (by omega) (by have hb := hbytes; simp only [Nat.zero_add] at hb; omega)
    rw [hr] at hrun
    simp only [Result.ok.injEq] at hrun
    rw [← hrun.1]
    exact .inr rfl
  · by_cases hroom : n + 1 ≤ cap
    · have hfit : n * i.size + news.length ≤ cur.size := by rw [hl, hcs, ← Nat.add_mul]; exact Nat.mul_le_mul_right _ hroom
      have hr := run_append_room (P := P) w t ty e i ht hi g n cap cur hg a 1 c news hl hnews h1 hroom hfit
      rw [hr] at hrun
      simp only [Result.ok.injEq] at hrun
      rw [← hrun.1]
      exact .inl rfl
    · have holds : ∀ j u, xs[j]? = some u → w.cell? ((⟨g, 0, none⟩ : Addr).add j) = some u := hown.cells (g := g) rfl
      have hr := run_append_grow (P := P) w t ty e i z ht hi hz ⟨g, 0, none⟩ n cap xs hown.1 holds a 1 c news hl hnews (by omega) (by omega) (growslice_fits (by omega) hbytes)
      rw [hr] at hrun
      simp only [Result.ok.injEq] at hrun
      rw [← hrun.1]
      exact .inr rfl
theorem appKF {ops : Array Oper} {rest : List Oper} {o : Oper} {a : Act} {Q : Exit → Act → World → Prop} (W : World) (us : Array Value) (k : Nat) (e : TypeId) (hgd : o.guard = none) (s x : Operand) (t : TypeId)
    (ho : o.op = .call { callee := .builtin .append, args := #[s, x], argTypes := #[t, t] })
    (base : Nat) (i : TypeInfo) (z : Value) (bytes : Nat) (ht : P.underlying t = some (.slice e)) (hi : P.info? e = some i) (hz : i.zero = some z) (hsize : i.size = k) (hby : i.bytes = bytes) (hzs : z.cells.size = k) (hk : 0 < k) (hus : us.size = k)
    (v : Value) (n : Nat) (xs : List Value) (hs : a.eval s = v) (hown : W.ownsRow base e k v n xs) (b : Nat) (hx : a.eval x = .slice (some ⟨b, 0, none⟩) 1 1) (hbb : b = W.heap.size) (h1 : ∀ u ∈ us.toList, u.oneCell' = true)
    (h63 : n + 1 ≤ maxLen) (hbytes : (n + 1) * bytes ≤ 140737488355328) (hbase : base ≤ W.heap.size)
    (h : ∀ v' w', w'.ownsRow base e k v' (n + 1) (xs ++ us.toList) → W.grownBy w' v.ownBlock → Below base W w' → (v'.ownBlock = v.ownBlock ∨ v'.ownBlock = some (W.heap.size + 1)) → wpList P ops Q rest (a.put o.dst v') w') :
    wpList P ops Q (o :: rest) a (W.alloc (.cells us e)) := by
  subst hbb
  have hown' := hown.alloc (.cells us e)
  have hnews := cells_new W us e
  have hbase' : base ≤ (W.alloc (.cells us e)).heap.size := by simp; omega
  have hz1 : (W.alloc (.cells us e)).heap.size = W.heap.size + 1 := by simp
  refine wpList_plain hgd fun K hK => ?_
  obtain ⟨v', w', hr, h2, h3, h4⟩ := run_append_own (P := P) (W.alloc (.cells us e)) base t o.type e i z k bytes ht hi hz hsize hby hzs hk v n xs hown' ⟨W.heap.size, 0, none⟩ 1 1 us.toList (by simp [hus]) hnews h1 h63 hbytes hbase'
  have h5 := run_append_fresh (P := P) (W.alloc (.cells us e)) base t o.type e i z k bytes ht hi hz hsize hby hzs hk v n xs hown' ⟨W.heap.size, 0, none⟩ 1 us.toList (by simp [hus]) hnews h1 h63 hbytes v' w' hr
  rw [hz1] at h5
  have hg' := grown_step h3
  unfold Oper.wp execOp
  simp only [ho, resolve, invoke, builtin, Sem.run_bind, Sem.run_pure, Result.andThen_ok, List.map_toArray, List.map_cons, List.map_nil, hs, hx, hr]
  exact hK _ _ (h v' w' h2 hg' (grown_below hg' hbase (fun k hk => (hown.lt k hk).1)) h5)
end
namespace Fo
variable {H L : Type}
def snoc : Fo H L → L → H → Fo H L → Fo H L
  | .nil, l, h, k => .cons l h k .nil
  | .cons l' h' k' r, l, h, k => .cons l' h' k' (snoc r l h k)
def take : Nat → Fo H L → Fo H L
  | 0, _ => .nil
  | _ + 1, .nil => .nil
  | n + 1, .cons l h k r => .cons l h k (take n r)
theorem take_succ : ∀ (n : Nat) {f : Fo H L} {l : L} {h : H} {k r : Fo H L}, drop n f = .cons l h k r → take (n + 1) f = snoc (take n f) l h k
  | 0, f, l, h, k, r, e => by
    have e' : f = .cons l h k r := e
    rw [e']
    rfl
  | n + 1, .nil, l, h, k, r, e => by simp [drop] at e
  | n + 1, .cons l' h' k' r', l, h, k, r, e => by
    show Fo.cons l' h' k' (take (n + 1) r') = Fo.cons l' h' k' (snoc (take n r') l h k)
    rw [take_succ n (f := r') e]
theorem take_all : ∀ {f : Fo H L}, take f.len f = f
  | .nil => rfl
  | .cons l h k r => by
    have := take_all (f := r)
    rw [len_cons]
    show Fo.cons l h k (take r.len r) = _
    rw [this]
end Fo
section
variable {H L : Type} {k pre : Nat} {hd : World → List Value → H → Value → Prop} {pl : World → List Value → L → Prop}
/-- The cells of parts, one behind the other. -/
def RdsF (k pre : Nat) (hd : World → List Value → H → Value → Prop) (pl : World → List Value → L → Prop) (w : World) : List Value → Fo H L → Prop
  | xs, .nil => xs = []
  | xs, .cons l h kids r => ∃ ps ts rest, xs = ps ++ ts ++ rest ∧ ps.length = pre ∧ pl w ps l ∧ RdNd k pre hd pl w ts h kids ∧ RdsF k pre hd pl w rest r
theorem RdsF.kp (hk : ∀ w w' cs h v, Kp w w' → hd w cs h v → hd w' cs h v) (pk : ∀ w w' cs l, Kp w w' → pl w cs l → pl w' cs l) {w w' : World} (q : Kp w w') : ∀ {xs : List Value} {f : Fo H L}, RdsF k pre hd pl w xs f → RdsF k pre hd pl w' xs f
  | xs, .nil, h => h
  | xs, .cons l x kids r, h => by
    obtain ⟨ps, ts, rest, e, l1, hp, hn, hr⟩ := h
    exact ⟨ps, ts, rest, e, l1, pk _ _ _ _ q hp, RdNd.kp hk pk q hn, RdsF.kp hk pk q hr⟩
theorem RdsF.snoc {w : World} {ps ts : List Value} {l : L} {x : H} {kids : Fo H L} (l1 : ps.length = pre) (hp : pl w ps l) (hn : RdNd k pre hd pl w ts x kids) : ∀ {xs : List Value} {f : Fo H L}, RdsF k pre hd pl w xs f → RdsF k pre hd pl w (xs ++ (ps ++ ts)) (f.snoc l x kids)
  | xs, .nil, h => by
    have h' : xs = [] := h
    subst h'
    exact ⟨ps, ts, [], by simp, l1, hp, hn, rfl⟩
  | xs, .cons l' x' kids' r, h => by
    obtain ⟨ps', ts', rest, e, l1', hp', hn', hr⟩ := h
    exact ⟨ps', ts', rest ++ (ps ++ ts), by rw [e]; simp, l1', hp', hn', RdsF.snoc l1 hp hn hr⟩
theorem RdsF.fo {w : World} {g : Nat} : ∀ {f : Fo H L} {xs : List Value} {o : Nat}, RdsF k pre hd pl w xs f → (∀ j v, xs[j]? = some v → w.cell? ⟨g, o + j, none⟩ = some v) → RdFo k pre hd pl w f g o
  | .nil, xs, o, h, hc => trivial
  | .cons l x kids r, xs, o, h, hc => by
    obtain ⟨ps, ts, rest, e, l1, hp, hn, hr⟩ := h
    subst e
    refine RdFo.mk ps ts l1 (fun j v q => ?_) hp hn (RdsF.fo hr fun j v q => ?_)
    · exact hc j v (by rw [List.getElem?_append_left (List.getElem?_eq_some_iff.1 q).1]; exact q)
    · have := hc (pre + k + j) v (by
        rw [List.getElem?_append_right (by rw [List.length_append, l1, hn.1]; omega), List.length_append, l1, hn.1, Nat.add_sub_cancel_left]
        exact q)
      rw [← Nat.add_assoc, ← Nat.add_assoc] at this
      rw [← Nat.add_assoc]
      exact this
end
end Go.Proofs.YtbochlbgjnmgjaaGreat

/- Layer 15, the code: words and parts without places. -/
set_option maxRecDepth 100000
set_option linter.unusedVariables false
namespace Go.Proofs.YtbochlbgjnmgjaaGreat.Kin
open Go.RowKit Go.Lib Go.Proofs.YtbochlbgjnmgjaaGreat.Utf Go.Proofs.YtbochlbgjnmgjaaGreat.Nam Go.Proofs.YtbochlbgjnmgjaaGreat.Lat

theorem own_emp {w : World} {base : Nat} {e : TypeId} {k n : Nat} {v : Value} {xs : List Value} (h : w.ownsRow base e k v n xs) : RdAt (empW (lowS base) w) v k xs := by
  have h0 := h
  obtain ⟨hl, ⟨rfl, rfl⟩ | ⟨g, cap, cur, rfl, hb, hg, hn, hm, hc, ht⟩⟩ := h
  · exact ⟨none, 0, 0, rfl, hl, Nat.le_refl _, fun h => absurd h (by omega)⟩
  · refine ⟨_, n, cap, rfl, hl, hn, fun _ => ⟨g, 0, rfl, ?_, fun j u hj => ?_⟩⟩
    · rw [emp_size]
      exact (h0.lt g rfl).2
    · have := h0.cells (g := g) rfl j u hj
      rw [Addr.add_lit] at this
      exact emp_cell.2 ⟨by unfold lowS; omega, this⟩
theorem stripW_take {l : List Wr} {K : Nat} (hK : K < l.length) : (stripW l).take (K + 1) = (stripW l).take K ++ [((wN l K).1, 0)] := by
  unfold stripW
  rw [← List.map_take, ← List.map_take, List.take_succ_eq_append_getElem hK, List.map_append, wN_get hK]
  rfl
theorem strip_snoc (l : PH) (x : TH) (k : Ft) : ∀ f : Ft, stripF (f.snoc l x k) = (stripF f).snoc (stripP l) (stripH x) (stripF k)
  | .nil => rfl
  | .cons l' x' k' r => by
    show Fo.cons (stripP l') (stripH x') (stripF k') (stripF (r.snoc l x k)) = _
    rw [strip_snoc l x k r]
    rfl
/-- What lies above a block stands. -/
structure Fr (b : Nat) (w w' : World) : Prop where
  s : w.heap.size ≤ w'.heap.size
  h : ∀ g, b < g → g < w.heap.size → w'.heap[g]? = w.heap[g]?
theorem Fr.trans {b : Nat} {w w' w'' : World} (a : Fr b w w') (c : Fr b w' w'') : Fr b w w'' := ⟨Nat.le_trans a.s c.s, fun g h1 h2 => (c.h g h1 (Nat.lt_of_lt_of_le h2 a.s)).trans (a.h g h1 h2)⟩
theorem Fr.bl {b : Nat} {w w' : World} (a : Below w.heap.size w w') : Fr b w w' := ⟨a.size, fun g _ h2 => a.block g h2⟩
theorem Fr.refl (b : Nat) (w : World) : Fr b w w := ⟨Nat.le_refl _, fun _ _ _ => rfl⟩
theorem Fr.set {b : Nat} {w w' : World} (a : Fr b w w') (o : Nat) (v : Value) : Fr b w (w'.setCell ⟨b, o, none⟩ v) := ⟨by simpa [World.setCell] using a.s, fun g h1 h2 => (set_neK (by omega)).trans (a.h g h1 h2)⟩
theorem infoWr2 : (Tryz.prog.info? 28).map (fun i => (i.zero, i.size, i.bytes)) = some (some (.agg #[.string ⟨#[]⟩, .int .i64 0]), 2, 24) := by kernel_rfl
theorem infoPrt : (Tryz.prog.info? 75).map (fun i => (i.zero, i.size, i.bytes)) = some (some (.agg #[.string ⟨#[]⟩, .int .i64 0, .bool false, .slice none 0 0, .int .i64 0, .int .i64 0, .int .i64 0, .int .i64 0, .slice none 0 0, .int .i64 0, .int .i64 0, .int .i64 0, .int .i64 0, .int .i64 0, .slice none 0 0, .slice none 0 0, .string ⟨#[]⟩, .int .i64 0]), 18, 224) := by kernel_rfl
set_option maxRecDepth 100000 in
set_option maxHeartbeats 2000000 in
theorem stripWords_calls (l : List Wr) (hm : l.length ≤ maxLen) (hl : l.length * 24 ≤ 140737488355328) (va : Value) (w : World) (ha : RdW w va l) (R : Ending → World → Prop) (hR : Hid (∀ v' w', RdW (empW (lowS w.heap.size) w') v' (stripW l) → Below w.heap.size w w' → R (.returned v') w')) : Calls Tryz.prog 121 #[va] w R := by
  replace hm : l.length ≤ 9223372036854775807 := hm
  obtain ⟨ti, hI, hZ⟩ : ∃ i0, Tryz.prog.info? 28 = some i0 ∧ (i0.zero, i0.size, i0.bytes) = (some (.agg #[.string ⟨#[]⟩, .int .i64 0]), 2, 24) := by
    have := infoWr2
    cases h : Tryz.prog.info? 28 with
    | none => rw [h] at this; cases this
    | some i0 => rw [h] at this; exact ⟨i0, rfl, by simpa using this⟩
  simp only [Prod.mk.injEq] at hZ
  obtain ⟨hz0, hz1, hz2⟩ := hZ
  obtain ⟨A, ca, rfl, hca, hra⟩ := ha.op
  replace hra := Lib.hid hra
  clear ha
  go_enter Tryz.func121, Tryz.ntmps121
  go_wp2_with fail
  go_loopg [3, 8] l.length (fun g s k wr => ∃ (K : Nat) (v : Value), s = v ∧ k = .int .i64 K ∧ K + g = l.length ∧ Hid (Below w.heap.size w wr) ∧ Hid (wr.ownsRow w.heap.size 28 2 v K (flatG encW ((stripW l).take K))))
  case atStart => exact ⟨0, _, rfl, rfl, by omega, Lib.hid (Below.refl _ _), Lib.hid (by simpa [flatG] using World.ownsRow_nil _ _ _ _)⟩
  case round =>
    obtain ⟨K, v, rfl, rfl, e1, nb, own⟩ := hrel
    by_cases hK : K < l.length
    · obtain ⟨g, o, rfl, hg, hc⟩ := hra.out (by omega)
      have x0 := (nb.out.cell (p := ⟨g, o + K * 2, none⟩) hg).trans (hc K hK).1
      have x1 := (nb.out.cell (p := ⟨g, o + K * 2 + 1, none⟩) hg).trans (hc K hK).2
      have i0 : (0 : Int) ≤ (K : Int) := by omega
      have i1 : (K : Int) < (l.length : Int) := by omega
      have ht := stripW_take hK
      clear hc
      generalize (wN l K).1 = s at *
      generalize (wN l K).2 = z at *
      have bP := (Below.refl wr.heap.size wr).alloc (Nat.le_refl _) (.cells #[.string s, .int .i64 z] 28)
      have hb := heap_alloc_new wr (.cells #[.string s, .int .i64 z] 28)
      have own1 := Lib.hid (own_below own.out bP)
      have nbP := Lib.hid (nb.out.trans (bP.mono nb.out.size))
      have hsz := nbP.out.size
      go_upto_region 5 with fail
      generalize wr.alloc (.cells #[.string s, .int .i64 z] 28) = V at *
      generalize wr.heap.size = B at *
      clear x0 x1 own nb bP
      have x0 := (Lib.cell_of_heap hb 0).trans rfl
      clear hb
      go_wp2_with (at_builtin; go_loud (refine appK V #[.string s, .int .i64 0] 2 28 rfl _ _ 23 rfl w.heap.size ti (.agg #[.string ⟨#[]⟩, .int .i64 0]) 24 Tryz.underlying23 hI hz0 hz1 hz2 rfl (by decide) rfl _ K (flatG encW ((stripW l).take K)) rfl own1.out _ rfl rfl (by simp [Value.oneCell']) (by unfold maxLen; omega) (by omega) hsz ?_); rintro v' w3 hown3 hg3 hb3)
      have own2 := Lib.hid (show w3.ownsRow w.heap.size 28 2 v' (K + 1) (flatG encW ((stripW l).take (K + 1))) by rw [ht, flatG_snoc]; exact hown3)
      have nb2 := Lib.hid (nbP.out.trans hb3)
      clear hown3 hg3 hb3 own1 nbP ht x0
      go_wp2_with fail
      go_roundg (gk - 1)
      case measure => omega
      case rel => exact ⟨K + 1, _, rfl, by go_num, by omega, nb2, own2⟩
    · obtain rfl : K = l.length := by omega
      have et : (stripW l).take l.length = stripW l := by rw [← stripW_len l, List.take_length]
      have rd := own_emp own.out
      rw [et] at rd
      have fin := Lib.hid (hR.out _ _ rd nb.out)
      clear hR rd own
      go_wp2_with fail
      exact fin.out
/-- The contract of Strip at a tree of these parts: what it hands back reads in what is new. -/
def StripC (f : Ft) : Prop := ∀ (h : TH) (nv pv : Value) (w : World), LimH h → f.len ≤ maxLen → LimN f.len → f.All LimH LimL → f.AllB LimN → RdY w h f nv pv → ∀ R : Ending → World → Prop,
  Hid (∀ nv' pv' w', RdY (empW (lowS w.heap.size) w') (stripH h) (stripF f) nv' pv' → Below w.heap.size w w' → R (.returned (tyV (stripH h) nv' pv')) w') → Calls Tryz.prog 61 #[tyV h nv pv] w R
theorem allB_at {B : Nat → Prop} : ∀ (n : Nat) {f : Ft} {p : PH} {x : TH} {k r : Ft}, f.AllB B → f.drop n = .cons p x k r → B k.len ∧ k.AllB B
  | 0, f, p, x, k, r, a, e => by
    have e' : f = .cons p x k r := e
    subst e'
    exact ⟨a.1, a.2.1⟩
  | n + 1, .nil, p, x, k, r, a, e => by simp [Fo.drop] at e
  | n + 1, .cons q y l s, p, x, k, r, a, e => allB_at n (f := s) a.2.2 e
/-- The rows read where they stand. -/
theorem rows_rd {w : World} {base : Nat} {v : Value} {xs : List Value} {f : Ft} (own : w.ownsRow base 75 18 v f.len xs) (rd : RdsF 9 9 hdT plT (empW (rowS base v) w) xs f) : RdP (empW (lowS base) w) v f := by
  have k : Kp (empW (rowS base v) w) (empW (lowS base) w) := emp_kp (Nat.le_refl _) fun g _ h => ⟨fun q => h (.inl q), rfl⟩
  have rd2 := RdsF.kp (hd := hdT) (pl := plT) (fun _ _ _ _ _ q h => hdT.kp q h) (fun _ _ _ _ q h => plT.kp q h) k rd
  have h0 := own
  obtain ⟨hl, ⟨rfl, hn⟩ | ⟨g, cap, cur, rfl, hb, hg, hn, hm, hc, ht⟩⟩ := own
  · exact ⟨none, 0, by rw [hn], by omega, fun h => absurd h (by omega)⟩
  · refine ⟨_, cap, rfl, hn, fun _ => ⟨g, 0, rfl, ?_, RdsF.fo rd2 fun j u hj => ?_⟩⟩
    · rw [emp_size]
      exact (h0.lt g rfl).2
    · have := h0.cells (g := g) rfl j u hj
      rw [Addr.add_lit] at this
      exact emp_cell.2 ⟨by unfold lowS; omega, this⟩
set_option maxRecDepth 100000 in
set_option maxHeartbeats 2000000 in
theorem stripParts_calls (f : Ft) (ih : Fo.AllK StripC f) (pv : Value) (w : World) (hfl : f.len ≤ maxLen) (hln : LimN f.len) (hga : f.All LimH LimL) (hgb : f.AllB LimN) (hp : RdP w pv f) (R : Ending → World → Prop) (hR : Hid (∀ v' w', RdP (empW (lowS w.heap.size) w') v' (stripF f) → Below w.heap.size w w' → R (.returned v') w')) : Calls Tryz.prog 122 #[pv] w R := by
  replace hfl : f.len ≤ 9223372036854775807 := hfl
  have hln' : f.len * 224 ≤ 140737488355328 := hln
  obtain ⟨ti, hI, hZ⟩ : ∃ i0, Tryz.prog.info? 75 = some i0 ∧ (i0.zero, i0.size, i0.bytes) = (some (.agg #[.string ⟨#[]⟩, .int .i64 0, .bool false, .slice none 0 0, .int .i64 0, .int .i64 0, .int .i64 0, .int .i64 0, .slice none 0 0, .int .i64 0, .int .i64 0, .int .i64 0, .int .i64 0, .int .i64 0, .slice none 0 0, .slice none 0 0, .string ⟨#[]⟩, .int .i64 0]), 18, 224) := by
    have := infoPrt
    cases h : Tryz.prog.info? 75 with
    | none => rw [h] at this; cases this
    | some i0 => rw [h] at this; exact ⟨i0, rfl, by simpa using this⟩
  simp only [Prod.mk.injEq] at hZ
  obtain ⟨hz0, hz1, hz2⟩ := hZ
  obtain ⟨Ap, cp, rfl, hpl⟩ := hp.sl
  replace hp := Lib.hid hp
  replace hga := Lib.hid hga
  replace hgb := Lib.hid hgb
  replace ih := Lib.hid ih
  go_enter Tryz.func122, Tryz.ntmps122
  go_wp2_with fail
  go_loopg [3, 8] f.len (fun g s k wr => ∃ (K : Nat) (v : Value) (xs : List Value), v = s ∧ k = .int .i64 K ∧ K + g = f.len ∧ Hid (Below w.heap.size w wr) ∧ Hid (wr.ownsRow w.heap.size 75 18 v K xs) ∧ Hid (RdsF 9 9 hdT plT (empW (rowS w.heap.size v) wr) xs (stripF (f.take K))))
  case atStart => exact ⟨0, _, [], rfl, rfl, by omega, Lib.hid (Below.refl _ _), Lib.hid (World.ownsRow_nil _ _ _ _), Lib.hid rfl⟩
  case round =>
    obtain ⟨K, v, xs, rfl, rfl, e1, nb, own, rds⟩ := hrel
    by_cases hK : K < f.len
    · obtain ⟨p, x, kd, r, e⟩ := Fo.drop_lt hK
      obtain ⟨g, o, lv, cv, nx, px, rfl, hg, hlv, hcv, hyx, hc⟩ := hp.out.part e
      obtain ⟨A1, n1, rfl, -, -⟩ := hlv.op
      obtain ⟨A2, n2, rfl, -, -⟩ := hcv.op
      obtain ⟨A5, n5, rfl, -, -⟩ := hyx.n.op
      obtain ⟨A7, n7, rfl, -⟩ := hyx.p.sl
      obtain ⟨gp, gx, gk', ga2⟩ := all_at K hga.out e
      obtain ⟨gbn, gb2⟩ := allB_at K hgb.out e
      have ihK := Lib.hid ((ih.out).at_ e)
      have hts : stripF (f.take (K + 1)) = (stripF (f.take K)).snoc (stripP p) (stripH x) (stripF kd) := by rw [Fo.take_succ K e, strip_snoc]
      have rg : wr.rangeAt g (o + K * 18) [.string p.name, .int .i64 p.at_, .bool p.bare, .slice A1 p.label.length n1, .int .i64 p.wide, .int .i64 p.ck, .int .i64 p.cn, .int .i64 p.cat, .slice A2 p.cl.length n2, .int .i64 x.kind, .int .i64 x.at_, .int .i64 x.lo, .int .i64 x.hi, .int .i64 x.most, .slice A5 x.names.length n5, .slice A7 kd.len n7, .string x.name, .int .i64 x.nat] := fun j v h => (nb.out.cell (p := ⟨g, o + K * 18 + j, none⟩) hg).trans (hc j v h)
      have bP := (Below.refl wr.heap.size wr).alloc (Nat.le_refl _) (.cells #[.string p.name, .int .i64 p.at_, .bool p.bare, .slice A1 p.label.length n1, .int .i64 p.wide, .int .i64 p.ck, .int .i64 p.cn, .int .i64 p.cat, .slice A2 p.cl.length n2, .int .i64 x.kind, .int .i64 x.at_, .int .i64 x.lo, .int .i64 x.hi, .int .i64 x.most, .slice A5 x.names.length n5, .slice A7 kd.len n7, .string x.name, .int .i64 x.nat] 75)
      have hb := heap_alloc_new wr (.cells #[.string p.name, .int .i64 p.at_, .bool p.bare, .slice A1 p.label.length n1, .int .i64 p.wide, .int .i64 p.ck, .int .i64 p.cn, .int .i64 p.cat, .slice A2 p.cl.length n2, .int .i64 x.kind, .int .i64 x.at_, .int .i64 x.lo, .int .i64 x.hi, .int .i64 x.most, .slice A5 x.names.length n5, .slice A7 kd.len n7, .string x.name, .int .i64 x.nat] 75)
      have i0 : (0 : Int) ≤ (K : Int) := by omega
      have i1 : (K : Int) < (f.len : Int) := by omega
      have hww := nb.out.size
      have rl := Lib.hid fun (W : World) (n : Below wr.heap.size wr W) => hlv.below (nb.out.trans (n.mono nb.out.size))
      have rc := Lib.hid fun (W : World) (n : Below wr.heap.size wr W) => hcv.below (nb.out.trans (n.mono nb.out.size))
      have ry := Lib.hid fun (W : World) (n : Below wr.heap.size wr W) => hyx.below (nb.out.trans (n.mono nb.out.size))
      clear hc e hlv hcv hyx hg
      go_upto_region 5 with (first | (refine wpList_load_g (by rfl) 75 _ rfl g (o + K * 18) rfl [.string p.name, .int .i64 p.at_, .bool p.bare, .slice A1 p.label.length n1, .int .i64 p.wide, .int .i64 p.ck, .int .i64 p.cn, .int .i64 p.cat, .slice A2 p.cl.length n2, .int .i64 x.kind, .int .i64 x.at_, .int .i64 x.lo, .int .i64 x.hi, .int .i64 x.most, .slice A5 x.names.length n5, .slice A7 kd.len n7, .string x.name, .int .i64 x.nat] _ rg Tryz.underlying75 rfl (by kernel_rfl) ?_; go_simp) | (refine wpList_copy #[.string p.name, .int .i64 p.at_, .bool p.bare, .slice A1 p.label.length n1, .int .i64 p.wide, .int .i64 p.ck, .int .i64 p.cn, .int .i64 p.cat, .slice A2 p.cl.length n2, .int .i64 x.kind, .int .i64 x.at_, .int .i64 x.lo, .int .i64 x.hi, .int .i64 x.most, .slice A5 x.names.length n5, .slice A7 kd.len n7, .string x.name, .int .i64 x.nat] ⟨rfl, rfl, rfl⟩ ⟨rfl, rfl, rfl⟩ part_alloc (by kernel_rfl) ⟨rfl, by simp [Value.oneCell']⟩ (fun _ => ⟨rfl, rfl⟩) ?_; go_simp))
      clear rg
      generalize wr.alloc (.cells #[.string p.name, .int .i64 p.at_, .bool p.bare, .slice A1 p.label.length n1, .int .i64 p.wide, .int .i64 p.ck, .int .i64 p.cn, .int .i64 p.cat, .slice A2 p.cl.length n2, .int .i64 x.kind, .int .i64 x.at_, .int .i64 x.lo, .int .i64 x.hi, .int .i64 x.most, .slice A5 x.names.length n5, .slice A7 kd.len n7, .string x.name, .int .i64 x.nat] 75) = V1 at *
      generalize hBe : wr.heap.size = B at *
      have u1 := (Lib.cell_of_heap hb 1).trans rfl
      have uf1 := Lib.frozen_of_heap hb 1
      have hb1 := set_atK hb 1 (.int .i64 0)
      simp only [List.setIfInBounds_toArray, List.set_cons_succ, List.set_cons_zero] at hb1
      have nb1 := bP.setCell (p := ⟨B, 1, none⟩) (Nat.le_refl _) (.int .i64 0)
      have hB1 : B < (V1.setCell ⟨B, 1, none⟩ (.int .i64 0)).heap.size := blt_of hb1
      clear hb
      go_upto_region 6 with fail
      generalize V1.setCell ⟨B, 1, none⟩ (.int .i64 0) = V2 at *
      clear u1 uf1 bP
      have u3 := (Lib.cell_of_heap hb1 3).trans rfl
      go_wp2_with fail
      refine stripWords_calls p.label gp.1.2.2.2.2.2.2.2.2.1 gp.2.1 (.slice A1 p.label.length n1) V2 (rl.out V2 nb1) _ (Lib.hid fun v1 w1 r1 m1 => ?_)
      obtain ⟨B1, c1, rfl, -, -⟩ := r1.op
      have hb2 := (m1.block _ (blt_of hb1)).trans hb1
      have nb2 := nb1.trans (m1.mono (by have := nb1.size; omega))
      clear u3 hb1
      have u3 := (Lib.cell_of_heap hb2 3).trans rfl
      have uf3 := Lib.frozen_of_heap hb2 3
      have u7 := (Lib.cell_of_heap hb2 7).trans rfl
      have uf7 := Lib.frozen_of_heap hb2 7
      have hb4 := set_atK (set_atK hb2 3 (.slice B1 (stripW p.label).length c1)) 7 (.int .i64 0)
      simp only [List.setIfInBounds_toArray, List.set_cons_succ, List.set_cons_zero] at hb4
      have nb4 := (nb2.setCell (p := ⟨B, 3, none⟩) (Nat.le_refl _) (.slice B1 (stripW p.label).length c1)).setCell (p := ⟨B, 7, none⟩) (Nat.le_refl _) (.int .i64 0)
      have f1 : Fr B w1 ((w1.setCell ⟨B, 3, none⟩ (.slice B1 (stripW p.label).length c1)).setCell ⟨B, 7, none⟩ (.int .i64 0)) := ((Fr.refl B w1).set 3 _).set 7 _
      clear hb2
      go_upto_region 8 with fail
      generalize (w1.setCell ⟨B, 3, none⟩ (.slice B1 (stripW p.label).length c1)).setCell ⟨B, 7, none⟩ (.int .i64 0) = V4 at *
      clear u3 uf3 u7 uf7
      have u8 := (Lib.cell_of_heap hb4 8).trans rfl
      go_wp2_with fail
      refine stripWords_calls p.cl gp.1.2.2.2.2.2.2.2.2.2 gp.2.2 (.slice A2 p.cl.length n2) V4 (rc.out V4 nb4) _ (Lib.hid fun v2 w2 r2 m2 => ?_)
      obtain ⟨B2, c2, rfl, -, -⟩ := r2.op
      have hb5 := (m2.block _ (blt_of hb4)).trans hb4
      have nb5' := nb4.trans (m2.mono (by have := nb4.size; omega))
      clear u8
      have u8 := (Lib.cell_of_heap hb5 8).trans rfl
      have uf8 := Lib.frozen_of_heap hb5 8
      have hb6 := set_atK hb5 8 (.slice B2 (stripW p.cl).length c2)
      simp only [List.setIfInBounds_toArray, List.set_cons_succ, List.set_cons_zero] at hb6
      have nb5 := nb5'.setCell (p := ⟨B, 8, none⟩) (Nat.le_refl _) (.slice B2 (stripW p.cl).length c2)
      have f2 : Fr B w2 (w2.setCell ⟨B, 8, none⟩ (.slice B2 (stripW p.cl).length c2)) := (Fr.refl B w2).set 8 _
      have f12 := f1.trans ((Fr.bl m2).trans f2)
      have hV4 : B < V4.heap.size := blt_of hb4
      clear hb5 hb4 f1
      go_upto_region 9 with fail
      generalize w2.setCell ⟨B, 8, none⟩ (.slice B2 (stripW p.cl).length c2) = V5 at *
      clear u8 uf8
      have r9 : V5.rangeAt B 9 [.int .i64 x.kind, .int .i64 x.at_, .int .i64 x.lo, .int .i64 x.hi, .int .i64 x.most, .slice A5 x.names.length n5, .slice A7 kd.len n7, .string x.name, .int .i64 x.nat] := fun j v h => by rw [Lib.cell_of_heap hb6, List.getElem?_toArray, ← List.getElem?_drop]; exact h
      have cS := Lib.hid fun R hR => ihK.out x (.slice A5 x.names.length n5) (.slice A7 kd.len n7) V5 gx gk' gbn ga2 gb2 (ry.out V5 nb5) R hR
      go_wp2_with (refine wpList_load_g (by rfl) 30 _ rfl B 9 rfl [.int .i64 x.kind, .int .i64 x.at_, .int .i64 x.lo, .int .i64 x.hi, .int .i64 x.most, .slice A5 x.names.length n5, .slice A7 kd.len n7, .string x.name, .int .i64 x.nat] _ r9 Tryz.underlying30 rfl (by kernel_rfl) ?_; go_simp)
      refine cS.out _ (Lib.hid fun nv3 pv3 w3 r3 n3 => ?_)
      obtain ⟨B3, c3, rfl, -, -⟩ := r3.n.op
      obtain ⟨B4, c4, rfl, -⟩ := r3.p.sl
      have hb7 := (n3.block _ (blt_of hb6)).trans hb6
      have hV5 : B < V5.heap.size := blt_of hb6
      clear r9 cS hb6
      have u9 := (Lib.cell_of_heap hb7 9).trans rfl
      have uf9 := Lib.frozen_of_heap hb7 9
      have u10 := (Lib.cell_of_heap hb7 10).trans rfl
      have uf10 := Lib.frozen_of_heap hb7 10
      have u11 := (Lib.cell_of_heap hb7 11).trans rfl
      have uf11 := Lib.frozen_of_heap hb7 11
      have u12 := (Lib.cell_of_heap hb7 12).trans rfl
      have uf12 := Lib.frozen_of_heap hb7 12
      have u13 := (Lib.cell_of_heap hb7 13).trans rfl
      have uf13 := Lib.frozen_of_heap hb7 13
      have u14 := (Lib.cell_of_heap hb7 14).trans rfl
      have uf14 := Lib.frozen_of_heap hb7 14
      have u15 := (Lib.cell_of_heap hb7 15).trans rfl
      have uf15 := Lib.frozen_of_heap hb7 15
      have u16 := (Lib.cell_of_heap hb7 16).trans rfl
      have uf16 := Lib.frozen_of_heap hb7 16
      have u17 := (Lib.cell_of_heap hb7 17).trans rfl
      have uf17 := Lib.frozen_of_heap hb7 17
      have hb8 := (set_atK (set_atK (set_atK (set_atK (set_atK (set_atK (set_atK (set_atK (set_atK hb7 9 (.int .i64 (stripH x).kind)) 10 (.int .i64 (stripH x).at_)) 11 (.int .i64 (stripH x).lo)) 12 (.int .i64 (stripH x).hi)) 13 (.int .i64 (stripH x).most)) 14 (.slice B3 (stripH x).names.length c3)) 15 (.slice B4 (stripF kd).len c4)) 16 (.string (stripH x).name)) 17 (.int .i64 (stripH x).nat))
      simp only [List.setIfInBounds_toArray, List.set_cons_succ, List.set_cons_zero] at hb8
      have f3 : Fr B V5 (((((((((w3.setCell ⟨B, 9, none⟩ (.int .i64 (stripH x).kind)).setCell ⟨B, 10, none⟩ (.int .i64 (stripH x).at_)).setCell ⟨B, 11, none⟩ (.int .i64 (stripH x).lo)).setCell ⟨B, 12, none⟩ (.int .i64 (stripH x).hi)).setCell ⟨B, 13, none⟩ (.int .i64 (stripH x).most)).setCell ⟨B, 14, none⟩ (.slice B3 (stripH x).names.length c3)).setCell ⟨B, 15, none⟩ (.slice B4 (stripF kd).len c4)).setCell ⟨B, 16, none⟩ (.string (stripH x).name)).setCell ⟨B, 17, none⟩ (.int .i64 (stripH x).nat)) := (Fr.set ((Fr.set ((Fr.set ((Fr.set ((Fr.set ((Fr.set ((Fr.set ((Fr.set ((Fr.set (Fr.bl n3) 9 (.int .i64 (stripH x).kind))) 10 (.int .i64 (stripH x).at_))) 11 (.int .i64 (stripH x).lo))) 12 (.int .i64 (stripH x).hi))) 13 (.int .i64 (stripH x).most))) 14 (.slice B3 (stripH x).names.length c3))) 15 (.slice B4 (stripF kd).len c4))) 16 (.string (stripH x).name))) 17 (.int .i64 (stripH x).nat))
      have f30 : Fr B w3 (((((((((w3.setCell ⟨B, 9, none⟩ (.int .i64 (stripH x).kind)).setCell ⟨B, 10, none⟩ (.int .i64 (stripH x).at_)).setCell ⟨B, 11, none⟩ (.int .i64 (stripH x).lo)).setCell ⟨B, 12, none⟩ (.int .i64 (stripH x).hi)).setCell ⟨B, 13, none⟩ (.int .i64 (stripH x).most)).setCell ⟨B, 14, none⟩ (.slice B3 (stripH x).names.length c3)).setCell ⟨B, 15, none⟩ (.slice B4 (stripF kd).len c4)).setCell ⟨B, 16, none⟩ (.string (stripH x).name)).setCell ⟨B, 17, none⟩ (.int .i64 (stripH x).nat)) := (Fr.set ((Fr.set ((Fr.set ((Fr.set ((Fr.set ((Fr.set ((Fr.set ((Fr.set ((Fr.set (Fr.refl B w3) 9 (.int .i64 (stripH x).kind))) 10 (.int .i64 (stripH x).at_))) 11 (.int .i64 (stripH x).lo))) 12 (.int .i64 (stripH x).hi))) 13 (.int .i64 (stripH x).most))) 14 (.slice B3 (stripH x).names.length c3))) 15 (.slice B4 (stripF kd).len c4))) 16 (.string (stripH x).name))) 17 (.int .i64 (stripH x).nat))
      have nb6 := ((((((((((nb5.trans (n3.mono (by have := nb5.size; omega))).setCell (p := ⟨B, 9, none⟩) (Nat.le_refl _) (.int .i64 (stripH x).kind)).setCell (p := ⟨B, 10, none⟩) (Nat.le_refl _) (.int .i64 (stripH x).at_)).setCell (p := ⟨B, 11, none⟩) (Nat.le_refl _) (.int .i64 (stripH x).lo)).setCell (p := ⟨B, 12, none⟩) (Nat.le_refl _) (.int .i64 (stripH x).hi)).setCell (p := ⟨B, 13, none⟩) (Nat.le_refl _) (.int .i64 (stripH x).most)).setCell (p := ⟨B, 14, none⟩) (Nat.le_refl _) (.slice B3 (stripH x).names.length c3)).setCell (p := ⟨B, 15, none⟩) (Nat.le_refl _) (.slice B4 (stripF kd).len c4)).setCell (p := ⟨B, 16, none⟩) (Nat.le_refl _) (.string (stripH x).name)).setCell (p := ⟨B, 17, none⟩) (Nat.le_refl _) (.int .i64 (stripH x).nat))
      clear hb7
      go_upto_region 10 with fail
      generalize (((((((((w3.setCell ⟨B, 9, none⟩ (.int .i64 (stripH x).kind)).setCell ⟨B, 10, none⟩ (.int .i64 (stripH x).at_)).setCell ⟨B, 11, none⟩ (.int .i64 (stripH x).lo)).setCell ⟨B, 12, none⟩ (.int .i64 (stripH x).hi)).setCell ⟨B, 13, none⟩ (.int .i64 (stripH x).most)).setCell ⟨B, 14, none⟩ (.slice B3 (stripH x).names.length c3)).setCell ⟨B, 15, none⟩ (.slice B4 (stripF kd).len c4)).setCell ⟨B, 16, none⟩ (.string (stripH x).name)).setCell ⟨B, 17, none⟩ (.int .i64 (stripH x).nat)) = V6 at *
      clear u9 uf9 u10 uf10 u11 uf11 u12 uf12 u13 uf13 u14 uf14 u15 uf15 u16 uf16 u17 uf17
      have rF : V6.rangeAt B 0 [.string p.name, .int .i64 0, .bool p.bare, .slice B1 (stripW p.label).length c1, .int .i64 p.wide, .int .i64 p.ck, .int .i64 p.cn, .int .i64 0, .slice B2 (stripW p.cl).length c2, .int .i64 (stripH x).kind, .int .i64 (stripH x).at_, .int .i64 (stripH x).lo, .int .i64 (stripH x).hi, .int .i64 (stripH x).most, .slice B3 (stripH x).names.length c3, .slice B4 (stripF kd).len c4, .string (stripH x).name, .int .i64 (stripH x).nat] := fun j v h => by rw [Nat.zero_add, Lib.cell_of_heap hb8]; simpa using h
      have own6 := Lib.hid (own_below own.out (by rw [hBe]; exact nb6))
      have hsz : w.heap.size ≤ V6.heap.size := by have := nb6.size; omega
      have hlt := own.out.lt
      rw [hBe] at hlt
      clear hb8 own
      go_wp2_with (first | (refine wpList_load_g (by rfl) 75 _ rfl B 0 rfl [.string p.name, .int .i64 0, .bool p.bare, .slice B1 (stripW p.label).length c1, .int .i64 p.wide, .int .i64 p.ck, .int .i64 p.cn, .int .i64 0, .slice B2 (stripW p.cl).length c2, .int .i64 (stripH x).kind, .int .i64 (stripH x).at_, .int .i64 (stripH x).lo, .int .i64 (stripH x).hi, .int .i64 (stripH x).most, .slice B3 (stripH x).names.length c3, .slice B4 (stripF kd).len c4, .string (stripH x).name, .int .i64 (stripH x).nat] _ rF Tryz.underlying75 rfl (by kernel_rfl) ?_; go_simp) | (at_builtin; go_loud (refine appKF V6 #[.string p.name, .int .i64 0, .bool p.bare, .slice B1 (stripW p.label).length c1, .int .i64 p.wide, .int .i64 p.ck, .int .i64 p.cn, .int .i64 0, .slice B2 (stripW p.cl).length c2, .int .i64 (stripH x).kind, .int .i64 (stripH x).at_, .int .i64 (stripH x).lo, .int .i64 (stripH x).hi, .int .i64 (stripH x).most, .slice B3 (stripH x).names.length c3, .slice B4 (stripF kd).len c4, .string (stripH x).name, .int .i64 (stripH x).nat] 18 75 rfl _ _ 26 rfl w.heap.size ti (.agg #[.string ⟨#[]⟩, .int .i64 0, .bool false, .slice none 0 0, .int .i64 0, .int .i64 0, .int .i64 0, .int .i64 0, .slice none 0 0, .int .i64 0, .int .i64 0, .int .i64 0, .int .i64 0, .int .i64 0, .slice none 0 0, .slice none 0 0, .string ⟨#[]⟩, .int .i64 0]) 224 Tryz.underlying26 hI hz0 hz1 hz2 rfl (by decide) rfl _ K xs rfl own6.out _ rfl rfl (by simp [Value.oneCell']) (by unfold maxLen; omega) (by omega) hsz ?_); rintro v' w4 hown4 hg4 hb4 hfr))
      have nb7 := Lib.hid ((nb.out.trans (nb6.mono (by rw [hBe] at *; exact hww))).trans hb4)
      have hB6 : B ≤ V6.heap.size := by have := nb6.size; omega
      have new : ∀ g, g < V6.heap.size → w.heap.size ≤ g → v.ownBlock ≠ some g → ¬ rowS w.heap.size v' g ∧ w4.heap[g]? = V6.heap[g]? := fun g h1 h2 h3 => ⟨by
        rintro (q | q)
        · omega
        · rcases hfr with h | h
          · exact h3 (h ▸ q)
          · rw [h] at q
            simp only [Option.some.injEq] at q
            omega, hg4.block g h1 (fun q => h3 q.symm)⟩
      have far : ∀ g, B ≤ g → v.ownBlock ≠ some g := fun g h1 q => by have := (hlt g q).2; omega
      have k0 : Kp (empW (rowS w.heap.size v) wr) (empW (rowS w.heap.size v') w4) := emp_kp (by rw [hBe]; exact Nat.le_trans hB6 hg4.size) fun g h1 h2 => by
        have h3 : w.heap.size ≤ g := Nat.le_of_not_lt fun q => h2 (.inl q)
        have h4 := new g (by rw [hBe] at h1; omega) h3 (fun q => h2 (.inr q))
        exact ⟨h4.1, h4.2.trans (nb6.block g (by rw [hBe] at h1; exact h1))⟩
      have k1 : ∀ {b W}, B < b → Fr B W V6 → Kp (empW (lowS b) W) (empW (rowS w.heap.size v') w4) := fun {b W} hb fr => emp_kp (Nat.le_trans fr.s hg4.size) fun g h1 h2 => by
        have h3 : b ≤ g := Nat.le_of_not_lt h2
        have h4 := new g (Nat.lt_of_lt_of_le h1 fr.s) (by omega) (far g (by omega))
        exact ⟨h4.1, h4.2.trans (fr.h g (by omega) h1)⟩
      have q1 := r1.kp (k1 hB1 (f12.trans f3))
      have q2 := r2.kp (k1 hV4 (f2.trans f3))
      have q3 := RdY.kp (k1 hV5 f30) r3
      have rds2 := Lib.hid (RdsF.snoc (k := 9) (pre := 9) (hd := hdT) (pl := plT) (ps := [.string p.name, .int .i64 0, .bool p.bare, .slice B1 (stripW p.label).length c1, .int .i64 p.wide, .int .i64 p.ck, .int .i64 p.cn, .int .i64 0, .slice B2 (stripW p.cl).length c2]) (ts := [.int .i64 (stripH x).kind, .int .i64 (stripH x).at_, .int .i64 (stripH x).lo, .int .i64 (stripH x).hi, .int .i64 (stripH x).most, .slice B3 (stripH x).names.length c3, .slice B4 (stripF kd).len c4, .string (stripH x).name, .int .i64 (stripH x).nat]) (l := stripP p) (x := stripH x) (kids := stripF kd) rfl ⟨_, _, rfl, q1, q2⟩ ⟨rfl, _, ⟨_, rfl, q3.n⟩, q3.p⟩ (RdsF.kp (hd := hdT) (pl := plT) (fun _ _ _ _ _ q h => hdT.kp q h) (fun _ _ _ _ q h => plT.kp q h) k0 rds.out))
      rw [← hts] at rds2
      have own7 := Lib.hid hown4
      clear k0 k1 q1 q2 q3 far new hfr hb4 hg4 hown4 rds f12 f2 f3 f30 r1 r2 r3 m1 m2 n3 nb6 nb5 nb5' nb4 nb2 nb1 rl rc ry own6
      go_wp2_with fail
      go_roundg (gk - 1)
      case measure => omega
      case rel => exact ⟨K + 1, _, _, rfl, by go_num, by omega, nb7, own7, rds2⟩
    · obtain rfl : K = f.len := by omega
      have rd0 := rds.out
      have ow0 := own.out
      rw [Fo.take_all] at rd0
      rw [← len_strip f] at ow0
      have rd := rows_rd ow0 rd0
      have fin := Lib.hid (hR.out _ _ rd nb.out)
      clear hR rd own rds rd0 ow0
      go_wp2_with fail
      exact fin.out
end Go.Proofs.YtbochlbgjnmgjaaGreat.Kin

/- Layer 15, the code: a type without places. -/
set_option maxRecDepth 100000
set_option linter.unusedVariables false
namespace Go.Proofs.YtbochlbgjnmgjaaGreat.Kin
open Go.RowKit Go.Lib Go.Proofs.YtbochlbgjnmgjaaGreat.Utf Go.Proofs.YtbochlbgjnmgjaaGreat.Nam Go.Proofs.YtbochlbgjnmgjaaGreat.Lat

theorem Fr.setle {b q : Nat} {w w' : World} (a : Fr b w w') (hq : q ≤ b) (o : Nat) (v : Value) : Fr b w (w'.setCell ⟨q, o, none⟩ v) := ⟨by simpa [World.setCell] using a.s, fun g h1 h2 => (set_neK (by omega)).trans (a.h g h1 h2)⟩
theorem Fr.kp0 {b b' b0 : Nat} {w w' : World} (a : Fr b w w') (hb : b < b') (h0 : b0 ≤ b') : Kp (empW (lowS b') w) (empW (lowS b0) w') := emp_kp a.s fun g h1 h2 => ⟨by unfold lowS at *; omega, a.h g (by unfold lowS at h2; omega) h1⟩
set_option maxRecDepth 100000 in
set_option maxHeartbeats 2000000 in
theorem strip_step (f : Ft) (ih : Fo.AllK StripC f) : StripC f := by
  intro h nv pv w gh hfl hln hga hgb hy R hR
  obtain ⟨Ap, cp, rfl, -⟩ := hy.p.sl
  obtain ⟨An, cn, rfl, -, -⟩ := hy.n.op
  have b1 := (Below.refl w.heap.size w).alloc (Nat.le_refl _) (.cells #[.int .i64 h.kind, .int .i64 h.at_, .int .i64 h.lo, .int .i64 h.hi, .int .i64 h.most, .slice An h.names.length cn, .slice Ap f.len cp, .string h.name, .int .i64 h.nat] 30)
  have b2 := b1.alloc b1.size (.cells #[.int .i64 0, .int .i64 0, .int .i64 0, .int .i64 0, .int .i64 0, .slice none 0 0, .slice none 0 0, .string ⟨#[]⟩, .int .i64 0] 30)
  have z1 : (w.alloc (.cells #[.int .i64 h.kind, .int .i64 h.at_, .int .i64 h.lo, .int .i64 h.hi, .int .i64 h.most, .slice An h.names.length cn, .slice Ap f.len cp, .string h.name, .int .i64 h.nat] 30)).heap.size = w.heap.size + 1 := by simp
  have hT := (((Below.refl _ _).alloc (Nat.le_refl _) (.cells #[.int .i64 0, .int .i64 0, .int .i64 0, .int .i64 0, .int .i64 0, .slice none 0 0, .slice none 0 0, .string ⟨#[]⟩, .int .i64 0] 30)).block w.heap.size (by omega)).trans (heap_alloc_new w (.cells #[.int .i64 h.kind, .int .i64 h.at_, .int .i64 h.lo, .int .i64 h.hi, .int .i64 h.most, .slice An h.names.length cn, .slice Ap f.len cp, .string h.name, .int .i64 h.nat] 30))
  have hY := heap_alloc_new (w.alloc (.cells #[.int .i64 h.kind, .int .i64 h.at_, .int .i64 h.lo, .int .i64 h.hi, .int .i64 h.most, .slice An h.names.length cn, .slice Ap f.len cp, .string h.name, .int .i64 h.nat] 30)) (.cells #[.int .i64 0, .int .i64 0, .int .i64 0, .int .i64 0, .int .i64 0, .slice none 0 0, .slice none 0 0, .string ⟨#[]⟩, .int .i64 0] 30)
  rw [z1] at hY
  replace hy := Lib.hid hy
  replace hga := Lib.hid hga
  replace hgb := Lib.hid hgb
  replace ih := Lib.hid ih
  go_enter Tryz.func61, Tryz.ntmps61
  go_upto_region 1 with fail
  generalize (w.alloc (.cells #[.int .i64 h.kind, .int .i64 h.at_, .int .i64 h.lo, .int .i64 h.hi, .int .i64 h.most, .slice An h.names.length cn, .slice Ap f.len cp, .string h.name, .int .i64 h.nat] 30)).alloc (.cells #[.int .i64 0, .int .i64 0, .int .i64 0, .int .i64 0, .int .i64 0, .slice none 0 0, .slice none 0 0, .string ⟨#[]⟩, .int .i64 0] 30) = V at *
  clear b1 z1
  have u1 := (Lib.cell_of_heap hT 1).trans rfl
  have uf1 := Lib.frozen_of_heap hT 1
  have u8 := (Lib.cell_of_heap hT 8).trans rfl
  have uf8 := Lib.frozen_of_heap hT 8
  have hT2 := set_atK (set_atK hT 1 (.int .i64 0)) 8 (.int .i64 0)
  simp only [List.setIfInBounds_toArray, List.set_cons_succ, List.set_cons_zero] at hT2
  have hY2 := (set_neK (w := V.setCell ⟨w.heap.size, 1, none⟩ (.int .i64 0)) (q := w.heap.size) (o := 8) (v := .int .i64 0) (show w.heap.size + 1 ≠ w.heap.size by omega)).trans ((set_neK (w := V) (q := w.heap.size) (o := 1) (v := .int .i64 0) (show w.heap.size + 1 ≠ w.heap.size by omega)).trans hY)
  have nb2 := (b2.setCell (p := ⟨w.heap.size, 1, none⟩) (Nat.le_refl _) (.int .i64 0)).setCell (p := ⟨w.heap.size, 8, none⟩) (Nat.le_refl _) (.int .i64 0)
  go_upto_region 3 with fail
  generalize (V.setCell ⟨w.heap.size, 1, none⟩ (.int .i64 0)).setCell ⟨w.heap.size, 8, none⟩ (.int .i64 0) = V2 at *
  clear u1 uf1 u8 uf8 hT hY b2
  have l2 := blt_of hY2
  have u5 := (Lib.cell_of_heap hT2 5).trans rfl
  go_wp2_with fail
  refine stripWords_calls h.names gh.1.2.2.2.2.2.2.2.2 gh.2 (.slice An h.names.length cn) V2 (hy.out.below nb2).n _ (Lib.hid fun v1 w1 r1 m1 => ?_)
  obtain ⟨B3, c3, rfl, -, -⟩ := r1.op
  have hT3 := (m1.block _ (blt_of hT2)).trans hT2
  have hY3 := (m1.block _ (blt_of hY2)).trans hY2
  have nb3 := nb2.trans (m1.mono nb2.size)
  clear u5
  have u5 := (Lib.cell_of_heap hT3 5).trans rfl
  have uf5 := Lib.frozen_of_heap hT3 5
  have hT4 := set_atK hT3 5 (.slice B3 (stripW h.names).length c3)
  simp only [List.setIfInBounds_toArray, List.set_cons_succ, List.set_cons_zero] at hT4
  have hY4 := (set_neK (w := w1) (q := w.heap.size) (o := 5) (v := .slice B3 (stripW h.names).length c3) (show w.heap.size + 1 ≠ w.heap.size by omega)).trans hY3
  have nb4 := nb3.setCell (p := ⟨w.heap.size, 5, none⟩) (Nat.le_refl _) (.slice B3 (stripW h.names).length c3)
  have f1 : Fr (w.heap.size + 1) w1 (w1.setCell ⟨w.heap.size, 5, none⟩ (.slice B3 (stripW h.names).length c3)) := (Fr.refl _ _).setle (Nat.le_succ _) _ _
  go_upto_region 4 with fail
  generalize w1.setCell ⟨w.heap.size, 5, none⟩ (.slice B3 (stripW h.names).length c3) = V4 at *
  clear u5 uf5 hT3 hY3
  have l4 := blt_of hY4
  have u6 := (Lib.cell_of_heap hT4 6).trans rfl
  go_wp2_with fail
  refine stripParts_calls f ih.out (.slice Ap f.len cp) V4 hfl hln hga.out hgb.out (hy.out.below nb4).p _ (Lib.hid fun v2 w2 r2 m2 => ?_)
  obtain ⟨B4, c4, rfl, -⟩ := r2.sl
  have hT5 := (m2.block _ (blt_of hT4)).trans hT4
  have hY5 := (m2.block _ (blt_of hY4)).trans hY4
  have nb5 := nb4.trans (m2.mono nb4.size)
  clear u6
  have u6 := (Lib.cell_of_heap hT5 6).trans rfl
  have uf6 := Lib.frozen_of_heap hT5 6
  have hT6 := set_atK hT5 6 (.slice B4 (stripF f).len c4)
  simp only [List.setIfInBounds_toArray, List.set_cons_succ, List.set_cons_zero] at hT6
  have hY6 := (set_neK (w := w2) (q := w.heap.size) (o := 6) (v := .slice B4 (stripF f).len c4) (show w.heap.size + 1 ≠ w.heap.size by omega)).trans hY5
  have nb6 := nb5.setCell (p := ⟨w.heap.size, 6, none⟩) (Nat.le_refl _) (.slice B4 (stripF f).len c4)
  have f2 : Fr (w.heap.size + 1) w2 (w2.setCell ⟨w.heap.size, 6, none⟩ (.slice B4 (stripF f).len c4)) := (Fr.refl _ _).setle (Nat.le_succ _) _ _
  have f12 := f1.trans ((Fr.bl m2).trans f2)
  go_upto_region 5 with fail
  generalize w2.setCell ⟨w.heap.size, 6, none⟩ (.slice B4 (stripF f).len c4) = V6 at *
  clear u6 uf6 hT5 hY5 f1
  have r0 : V6.rangeAt w.heap.size 0 [.int .i64 h.kind, .int .i64 0, .int .i64 h.lo, .int .i64 h.hi, .int .i64 h.most, .slice B3 (stripW h.names).length c3, .slice B4 (stripF f).len c4, .string h.name, .int .i64 0] := fun j v e => by rw [Nat.zero_add, Lib.cell_of_heap hT6]; simpa using e
  have y0 := (Lib.cell_of_heap hY6 0).trans rfl
  have yf0 := Lib.frozen_of_heap hY6 0
  have y1 := (Lib.cell_of_heap hY6 1).trans rfl
  have yf1 := Lib.frozen_of_heap hY6 1
  have y2 := (Lib.cell_of_heap hY6 2).trans rfl
  have yf2 := Lib.frozen_of_heap hY6 2
  have y3 := (Lib.cell_of_heap hY6 3).trans rfl
  have yf3 := Lib.frozen_of_heap hY6 3
  have y4 := (Lib.cell_of_heap hY6 4).trans rfl
  have yf4 := Lib.frozen_of_heap hY6 4
  have y5 := (Lib.cell_of_heap hY6 5).trans rfl
  have yf5 := Lib.frozen_of_heap hY6 5
  have y6 := (Lib.cell_of_heap hY6 6).trans rfl
  have yf6 := Lib.frozen_of_heap hY6 6
  have y7 := (Lib.cell_of_heap hY6 7).trans rfl
  have yf7 := Lib.frozen_of_heap hY6 7
  have y8 := (Lib.cell_of_heap hY6 8).trans rfl
  have yf8 := Lib.frozen_of_heap hY6 8
  have fF : Fr (w.heap.size + 1) V6 (((((((((V6.setCell ⟨w.heap.size + 1, 0, none⟩ (.int .i64 h.kind)).setCell ⟨w.heap.size + 1, 1, none⟩ (.int .i64 0)).setCell ⟨w.heap.size + 1, 2, none⟩ (.int .i64 h.lo)).setCell ⟨w.heap.size + 1, 3, none⟩ (.int .i64 h.hi)).setCell ⟨w.heap.size + 1, 4, none⟩ (.int .i64 h.most)).setCell ⟨w.heap.size + 1, 5, none⟩ (.slice B3 (stripW h.names).length c3)).setCell ⟨w.heap.size + 1, 6, none⟩ (.slice B4 (stripF f).len c4)).setCell ⟨w.heap.size + 1, 7, none⟩ (.string h.name)).setCell ⟨w.heap.size + 1, 8, none⟩ (.int .i64 0)) := (Fr.set (Fr.set (Fr.set (Fr.set (Fr.set (Fr.set (Fr.set (Fr.set (Fr.set (Fr.refl (w.heap.size + 1) V6) 0 (.int .i64 h.kind)) 1 (.int .i64 0)) 2 (.int .i64 h.lo)) 3 (.int .i64 h.hi)) 4 (.int .i64 h.most)) 5 (.slice B3 (stripW h.names).length c3)) 6 (.slice B4 (stripF f).len c4)) 7 (.string h.name)) 8 (.int .i64 0))
  have fin := Lib.hid (hR.out (.slice B3 (stripW h.names).length c3) (.slice B4 (stripF f).len c4) (((((((((V6.setCell ⟨w.heap.size + 1, 0, none⟩ (.int .i64 h.kind)).setCell ⟨w.heap.size + 1, 1, none⟩ (.int .i64 0)).setCell ⟨w.heap.size + 1, 2, none⟩ (.int .i64 h.lo)).setCell ⟨w.heap.size + 1, 3, none⟩ (.int .i64 h.hi)).setCell ⟨w.heap.size + 1, 4, none⟩ (.int .i64 h.most)).setCell ⟨w.heap.size + 1, 5, none⟩ (.slice B3 (stripW h.names).length c3)).setCell ⟨w.heap.size + 1, 6, none⟩ (.slice B4 (stripF f).len c4)).setCell ⟨w.heap.size + 1, 7, none⟩ (.string h.name)).setCell ⟨w.heap.size + 1, 8, none⟩ (.int .i64 0)) ⟨r1.kp (Fr.kp0 (f12.trans fF) l2 (by have := nb2.size; omega)), RdSl.kp (hd := hdT) (pl := plT) (fun _ _ _ _ _ q h => hdT.kp q h) (fun _ _ _ _ q h => plT.kp q h) (Fr.kp0 (f2.trans fF) l4 (by have := nb4.size; omega)) r2⟩ (((((((((nb6.setCell (p := ⟨w.heap.size + 1, 0, none⟩) (by show w.heap.size ≤ w.heap.size + 1; omega) (.int .i64 h.kind)).setCell (p := ⟨w.heap.size + 1, 1, none⟩) (by show w.heap.size ≤ w.heap.size + 1; omega) (.int .i64 0)).setCell (p := ⟨w.heap.size + 1, 2, none⟩) (by show w.heap.size ≤ w.heap.size + 1; omega) (.int .i64 h.lo)).setCell (p := ⟨w.heap.size + 1, 3, none⟩) (by show w.heap.size ≤ w.heap.size + 1; omega) (.int .i64 h.hi)).setCell (p := ⟨w.heap.size + 1, 4, none⟩) (by show w.heap.size ≤ w.heap.size + 1; omega) (.int .i64 h.most)).setCell (p := ⟨w.heap.size + 1, 5, none⟩) (by show w.heap.size ≤ w.heap.size + 1; omega) (.slice B3 (stripW h.names).length c3)).setCell (p := ⟨w.heap.size + 1, 6, none⟩) (by show w.heap.size ≤ w.heap.size + 1; omega) (.slice B4 (stripF f).len c4)).setCell (p := ⟨w.heap.size + 1, 7, none⟩) (by show w.heap.size ≤ w.heap.size + 1; omega) (.string h.name)).setCell (p := ⟨w.heap.size + 1, 8, none⟩) (by show w.heap.size ≤ w.heap.size + 1; omega) (.int .i64 0)))
  clear hR fF r1 r2 f12 f2 hT6 hY6 hT4 hY4 hT2 hY2
  go_wp2_with (refine wpList_load_g (by rfl) 30 _ rfl w.heap.size 0 rfl [.int .i64 h.kind, .int .i64 0, .int .i64 h.lo, .int .i64 h.hi, .int .i64 h.most, .slice B3 (stripW h.names).length c3, .slice B4 (stripF f).len c4, .string h.name, .int .i64 0] _ r0 Tryz.underlying30 rfl (by kernel_rfl) ?_; go_simp)
  refine bodyPost_ret ?_ rfl fin.out
  simp [results, Tryz.results61, go_sem, stripH, y0, y1, y2, y3, y4, y5, y6, y7, y8]
theorem strip_calls (f : Ft) : StripC f := Fo.deep strip_step f
theorem i64_0 : I64 0 := ⟨by decide, by decide⟩
theorem goodW_strip {l : List Wr} (h : ∀ x ∈ l, GoodW x) : ∀ x ∈ stripW l, GoodW x := by
  intro x hx
  obtain ⟨y, hy, rfl⟩ := List.mem_map.1 hx
  exact ⟨(h y hy).1, by show (-9223372036854775808 : Int) ≤ 0; decide, by show (0 : Int) ≤ 9223372036854775807; decide⟩
theorem limH_strip {h : TH} (g : LimH h) : LimH (stripH h) := by
  obtain ⟨⟨a1, a2, a3, a4, a5, a6, a7, a8, a9⟩, b⟩ := g
  exact ⟨⟨a1, i64_0, a3, a4, a5, goodW_strip a6, a7, i64_0, by rw [show (stripH h).names = stripW h.names from rfl, stripW_len]; exact a9⟩, by rw [show (stripH h).names = stripW h.names from rfl, stripW_len]; exact b⟩
theorem limL_strip {p : PH} (g : LimL p) : LimL (stripP p) := by
  obtain ⟨⟨a1, a2, a3, a4, a5, a6, a7, a8, a9, a10⟩, b, c⟩ := g
  exact ⟨⟨a1, i64_0, goodW_strip a3, a4, a5, a6, i64_0, goodW_strip a8, by rw [show (stripP p).label = stripW p.label from rfl, stripW_len]; exact a9, by rw [show (stripP p).cl = stripW p.cl from rfl, stripW_len]; exact a10⟩, by rw [show (stripP p).label = stripW p.label from rfl, stripW_len]; exact b, by rw [show (stripP p).cl = stripW p.cl from rfl, stripW_len]; exact c⟩
theorem good_strip : ∀ {f : Ft}, f.All LimH LimL → (stripF f).All LimH LimL
  | .nil, _ => trivial
  | .cons p x k r, h => ⟨limL_strip h.1, limH_strip h.2.1, by rw [len_strip]; exact h.2.2.1, good_strip h.2.2.2.1, good_strip h.2.2.2.2⟩
end Go.Proofs.YtbochlbgjnmgjaaGreat.Kin
