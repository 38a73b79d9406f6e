/- A forest that grows in a row of the call's own: what reads in a world with some blocks emptied; an append that tells whether its block is new. -/
import Derived.Test.YtpepomnkoghjpaaTreB
import Derived.Test.YtpepomnkoghjpaaOwn
set_option maxRecDepth 100000
set_option linter.unusedVariables false
namespace Go.Proofs.Ytpepomnkoghjpaa
open Go.RowKit Go.Lib

/-- The world with some blocks emptied: what reads in it reads in none of them. -/
noncomputable def empW (S : Nat → Prop) (w : World) : World := { w with heap := w.heap.mapIdx fun i o => @ite _ (S i) (Classical.propDecidable _) (.cells #[] 0) o }
theorem emp_size (S : Nat → Prop) (w : World) : (empW S w).heap.size = w.heap.size := by simp [empW]
theorem emp_in {S : Nat → Prop} {w : World} {g : Nat} (h : S g) (hg : g < w.heap.size) : (empW S w).heap[g]? = some (.cells #[] 0) := by
  unfold empW
  simp only [Array.getElem?_mapIdx]
  rw [Array.getElem?_eq_getElem hg]
  simp [h]
theorem emp_out {S : Nat → Prop} {w : World} {g : Nat} (h : ¬ S g) : (empW S w).heap[g]? = w.heap[g]? := by
  unfold empW
  simp only [Array.getElem?_mapIdx]
  cases hg : w.heap[g]? <;> simp [h]
theorem emp_cell {S : Nat → Prop} {w : World} {g o : Nat} {v : Value} : (empW S w).cell? ⟨g, o, none⟩ = some v ↔ ¬ S g ∧ w.cell? ⟨g, o, none⟩ = some v := by
  by_cases h : S g
  · refine ⟨fun q => ?_, fun q => absurd h q.1⟩
    have hg := World.block_lt_of_cell? _ _ q
    rw [emp_size] at hg
    have := emp_in h hg
    rw [Lib.cell_of_heap this] at q
    simp at q
  · rw [World.cell?_of_block (a := ⟨g, o, none⟩) (emp_out h)]
    exact ⟨fun q => ⟨h, q⟩, fun q => q.2⟩
/-- What reads in one emptied world reads in another. -/
theorem emp_kp {S S' : Nat → Prop} {w w' : World} (hs : w.heap.size ≤ w'.heap.size) (h : ∀ g, g < w.heap.size → ¬ S g → ¬ S' g ∧ w'.heap[g]? = w.heap[g]?) : Kp (empW S w) (empW S' w') := by
  refine ⟨by rw [emp_size, emp_size]; exact hs, fun b o v q => ?_⟩
  obtain ⟨n, q⟩ := emp_cell.1 q
  obtain ⟨n', e⟩ := h b (World.block_lt_of_cell? _ _ q) n
  exact emp_cell.2 ⟨n', (World.cell?_of_block (a := ⟨b, o, none⟩) e).trans q⟩
theorem emp_un {S : Nat → Prop} {w w' : World} (hs : w.heap.size ≤ w'.heap.size) (h : ∀ g, g < w.heap.size → ¬ S g → w'.heap[g]? = w.heap[g]?) : Kp (empW S w) w' := by
  refine ⟨by rw [emp_size]; exact hs, fun b o v q => ?_⟩
  obtain ⟨n, q⟩ := emp_cell.1 q
  exact (World.cell?_of_block (a := ⟨b, o, none⟩) (h b (World.block_lt_of_cell? _ _ q) n)).trans q
/-- The blocks below one. -/
def lowS (b : Nat) : Nat → Prop := fun g => g < b
/-- The blocks below one, and a row's. -/
def rowS (b : Nat) (v : Value) : Nat → Prop := fun g => g < b ∨ v.ownBlock = some g
section
variable {P : Program}
theorem run_append_fresh (w : World) (base : Nat) (t ty e : TypeId) (i : TypeInfo) (z : Value) (size bytes : Nat) (ht : P.underlying t = some (.slice e)) (hi : P.info? e = some i) (hz : i.zero = some z)
    (hsize : i.size = size) (hby : i.bytes = bytes) (hzs : z.cells.size = size) (hsz : 0 < size)
    (v : Value) (n : Nat) (xs : List Value) (hown : w.ownsRow base e size v n xs)
    (a : Addr) (c : Nat) (news : List Value) (hl : news.length = 1 * size) (hnews : ∀ j u, news[j]? = some u → w.cell? (a.add j) = some u) (h1 : ∀ u ∈ news, u.oneCell' = true)
    (h63 : n + 1 ≤ maxLen) (hbytes : (n + 1) * bytes ≤ 140737488355328) (v' : Value) (w' : World) (hrun : (Builtin.append_ #[t, t] ty #[v, .slice (some a) 1 c]).run P w = .ok v' w') : v'.ownBlock = v.ownBlock ∨ v'.ownBlock = some w.heap.size := by
  subst hsize
  subst hby
  have hsmall : n + 1 ≤ 9223372036854775807 := by simp only [maxLen] at h63; omega
  rcases hown.2 with ⟨rfl, rfl⟩ | ⟨g, cap, cur, rfl, hbg, hg, hnc, hcm, hcs, htake⟩
  · have hx : xs = [] := List.eq_nil_of_length_eq_zero (by simpa using hown.1)
    subst hx
    have hr := run_append_nil (P := P) w t ty e i z ht hi hz a 1 c news hl hnews (by omega) (by omega) (by have hb := hbytes; simp only [Nat.zero_add] at hb; omega)
    rw [hr] at hrun
    simp only [Result.ok.injEq] at hrun
    rw [← hrun.1]
    exact .inr rfl
  · by_cases hroom : n + 1 ≤ cap
    · have hfit : n * i.size + news.length ≤ cur.size := by rw [hl, hcs, ← Nat.add_mul]; exact Nat.mul_le_mul_right _ hroom
      have hr := run_append_room (P := P) w t ty e i ht hi g n cap cur hg a 1 c news hl hnews h1 hroom hfit
      rw [hr] at hrun
      simp only [Result.ok.injEq] at hrun
      rw [← hrun.1]
      exact .inl rfl
    · have holds : ∀ j u, xs[j]? = some u → w.cell? ((⟨g, 0, none⟩ : Addr).add j) = some u := hown.cells (g := g) rfl
      have hr := run_append_grow (P := P) w t ty e i z ht hi hz ⟨g, 0, none⟩ n cap xs hown.1 holds a 1 c news hl hnews (by omega) (by omega) (growslice_fits (by omega) hbytes)
      rw [hr] at hrun
      simp only [Result.ok.injEq] at hrun
      rw [← hrun.1]
      exact .inr rfl
theorem appKF {ops : Array Oper} {rest : List Oper} {o : Oper} {a : Act} {Q : Exit → Act → World → Prop} (W : World) (us : Array Value) (k : Nat) (e : TypeId) (hgd : o.guard = none) (s x : Operand) (t : TypeId)
    (ho : o.op = .call { callee := .builtin .append, args := #[s, x], argTypes := #[t, t] })
    (base : Nat) (i : TypeInfo) (z : Value) (bytes : Nat) (ht : P.underlying t = some (.slice e)) (hi : P.info? e = some i) (hz : i.zero = some z) (hsize : i.size = k) (hby : i.bytes = bytes) (hzs : z.cells.size = k) (hk : 0 < k) (hus : us.size = k)
    (v : Value) (n : Nat) (xs : List Value) (hs : a.eval s = v) (hown : W.ownsRow base e k v n xs) (b : Nat) (hx : a.eval x = .slice (some ⟨b, 0, none⟩) 1 1) (hbb : b = W.heap.size) (h1 : ∀ u ∈ us.toList, u.oneCell' = true)
    (h63 : n + 1 ≤ maxLen) (hbytes : (n + 1) * bytes ≤ 140737488355328) (hbase : base ≤ W.heap.size)
    (h : ∀ v' w', w'.ownsRow base e k v' (n + 1) (xs ++ us.toList) → W.grownBy w' v.ownBlock → Below base W w' → (v'.ownBlock = v.ownBlock ∨ v'.ownBlock = some (W.heap.size + 1)) → wpList P ops Q rest (a.put o.dst v') w') :
    wpList P ops Q (o :: rest) a (W.alloc (.cells us e)) := by
  subst hbb
  have hown' := hown.alloc (.cells us e)
  have hnews := cells_new W us e
  have hbase' : base ≤ (W.alloc (.cells us e)).heap.size := by simp; omega
  have hz1 : (W.alloc (.cells us e)).heap.size = W.heap.size + 1 := by simp
  refine wpList_plain hgd fun K hK => ?_
  obtain ⟨v', w', hr, h2, h3, h4⟩ := run_append_own (P := P) (W.alloc (.cells us e)) base t o.type e i z k bytes ht hi hz hsize hby hzs hk v n xs hown' ⟨W.heap.size, 0, none⟩ 1 1 us.toList (by simp [hus]) hnews h1 h63 hbytes hbase'
  have h5 := run_append_fresh (P := P) (W.alloc (.cells us e)) base t o.type e i z k bytes ht hi hz hsize hby hzs hk v n xs hown' ⟨W.heap.size, 0, none⟩ 1 us.toList (by simp [hus]) hnews h1 h63 hbytes v' w' hr
  rw [hz1] at h5
  have hg' := grown_step h3
  unfold Oper.wp execOp
  simp only [ho, resolve, invoke, builtin, Sem.run_bind, Sem.run_pure, Result.andThen_ok, List.map_toArray, List.map_cons, List.map_nil, hs, hx, hr]
  exact hK _ _ (h v' w' h2 hg' (grown_below hg' hbase (fun k hk => (hown.lt k hk).1)) h5)
end
namespace Fo
variable {H L : Type}
def snoc : Fo H L → L → H → Fo H L → Fo H L
  | .nil, l, h, k => .cons l h k .nil
  | .cons l' h' k' r, l, h, k => .cons l' h' k' (snoc r l h k)
def take : Nat → Fo H L → Fo H L
  | 0, _ => .nil
  | _ + 1, .nil => .nil
  | n + 1, .cons l h k r => .cons l h k (take n r)
theorem take_succ : ∀ (n : Nat) {f : Fo H L} {l : L} {h : H} {k r : Fo H L}, drop n f = .cons l h k r → take (n + 1) f = snoc (take n f) l h k
  | 0, f, l, h, k, r, e => by
    have e' : f = .cons l h k r := e
    rw [e']
    rfl
  | n + 1, .nil, l, h, k, r, e => by simp [drop] at e
  | n + 1, .cons l' h' k' r', l, h, k, r, e => by
    show Fo.cons l' h' k' (take (n + 1) r') = Fo.cons l' h' k' (snoc (take n r') l h k)
    rw [take_succ n (f := r') e]
theorem take_len : ∀ (n : Nat) {f : Fo H L}, n ≤ f.len → (take n f).len = n
  | 0, f, _ => by simp [take, len]
  | n + 1, .nil, h => by simp [len] at h
  | n + 1, .cons l h k r, q => by
    simp only [take, len] at q ⊢
    rw [take_len n (f := r) (by omega)]
theorem take_all : ∀ {f : Fo H L}, take f.len f = f
  | .nil => rfl
  | .cons l h k r => by
    have := take_all (f := r)
    rw [len_cons]
    show Fo.cons l h k (take r.len r) = _
    rw [this]
end Fo
section
variable {H L : Type} {k pre : Nat} {hd : World → List Value → H → Value → Prop} {pl : World → List Value → L → Prop}
/-- The cells of parts, one behind the other. -/
def RdsF (k pre : Nat) (hd : World → List Value → H → Value → Prop) (pl : World → List Value → L → Prop) (w : World) : List Value → Fo H L → Prop
  | xs, .nil => xs = []
  | xs, .cons l h kids r => ∃ ps ts rest, xs = ps ++ ts ++ rest ∧ ps.length = pre ∧ pl w ps l ∧ RdNd k pre hd pl w ts h kids ∧ RdsF k pre hd pl w rest r
theorem RdsF.kp (hk : ∀ w w' cs h v, Kp w w' → hd w cs h v → hd w' cs h v) (pk : ∀ w w' cs l, Kp w w' → pl w cs l → pl w' cs l) {w w' : World} (q : Kp w w') : ∀ {xs : List Value} {f : Fo H L}, RdsF k pre hd pl w xs f → RdsF k pre hd pl w' xs f
  | xs, .nil, h => h
  | xs, .cons l x kids r, h => by
    obtain ⟨ps, ts, rest, e, l1, hp, hn, hr⟩ := h
    exact ⟨ps, ts, rest, e, l1, pk _ _ _ _ q hp, RdNd.kp hk pk q hn, RdsF.kp hk pk q hr⟩
theorem RdsF.snoc {w : World} {ps ts : List Value} {l : L} {x : H} {kids : Fo H L} (l1 : ps.length = pre) (hp : pl w ps l) (hn : RdNd k pre hd pl w ts x kids) : ∀ {xs : List Value} {f : Fo H L}, RdsF k pre hd pl w xs f → RdsF k pre hd pl w (xs ++ (ps ++ ts)) (f.snoc l x kids)
  | xs, .nil, h => by
    have h' : xs = [] := h
    subst h'
    exact ⟨ps, ts, [], by simp, l1, hp, hn, rfl⟩
  | xs, .cons l' x' kids' r, h => by
    obtain ⟨ps', ts', rest, e, l1', hp', hn', hr⟩ := h
    exact ⟨ps', ts', rest ++ (ps ++ ts), by rw [e]; simp, l1', hp', hn', RdsF.snoc l1 hp hn hr⟩
theorem RdsF.fo {w : World} {g : Nat} : ∀ {f : Fo H L} {xs : List Value} {o : Nat}, RdsF k pre hd pl w xs f → (∀ j v, xs[j]? = some v → w.cell? ⟨g, o + j, none⟩ = some v) → RdFo k pre hd pl w f g o
  | .nil, xs, o, h, hc => trivial
  | .cons l x kids r, xs, o, h, hc => by
    obtain ⟨ps, ts, rest, e, l1, hp, hn, hr⟩ := h
    subst e
    refine RdFo.mk ps ts l1 (fun j v q => ?_) hp hn (RdsF.fo hr fun j v q => ?_)
    · exact hc j v (by rw [List.getElem?_append_left (List.getElem?_eq_some_iff.1 q).1]; exact q)
    · have := hc (pre + k + j) v (by
        rw [List.getElem?_append_right (by rw [List.length_append, l1, hn.1]; omega), List.length_append, l1, hn.1, Nat.add_sub_cancel_left]
        exact q)
      rw [← Nat.add_assoc, ← Nat.add_assoc] at this
      rw [← Nat.add_assoc]
      exact this
end
end Go.Proofs.Ytpepomnkoghjpaa
