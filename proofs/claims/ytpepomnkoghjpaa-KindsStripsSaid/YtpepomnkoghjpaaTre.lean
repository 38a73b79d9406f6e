/- Trees in memory (types, values, what was written): read by recursion, kept, opened as an argument. A tree is what stands at it and a forest; a forest is a list of labelled trees, its first one's parts and its rest laid side by side. -/
import Derived.Test.YtpepomnkoghjpaaFlat
set_option maxRecDepth 100000
set_option linter.unusedVariables false
namespace Go.Proofs.Ytpepomnkoghjpaa
open Go.RowKit Go.Lib Go.ChangeShapes Go.WideShapes Go.Deep

/-- A forest: how its first tree is held, what stands at it, its parts; the rest. -/
inductive Fo (H L : Type) where
  | nil : Fo H L
  | cons (l : L) (h : H) (kids rest : Fo H L) : Fo H L
namespace Fo
variable {H L : Type}
def len : Fo H L → Nat
  | .nil => 0
  | .cons _ _ _ r => r.len + 1
def size : Fo H L → Nat
  | .nil => 0
  | .cons _ _ k r => k.size + r.size + 1
def All (GH : H → Prop) (GL : L → Prop) : Fo H L → Prop
  | .nil => True
  | .cons l h k r => GL l ∧ GH h ∧ k.len ≤ maxLen ∧ All GH GL k ∧ All GH GL r
theorem len_cons (l : L) (h : H) (k r : Fo H L) : (cons l h k r).len = r.len + 1 := rfl
theorem len_zero {f : Fo H L} (h : f.len = 0) : f = .nil := by cases f with | nil => rfl | cons => simp [len] at h
theorem len_pos {f : Fo H L} (h : 0 < f.len) : ∃ l x k r, f = .cons l x k r := by cases f with | nil => simp [len] at h | cons l x k r => exact ⟨l, x, k, r, rfl⟩
end Fo

/-- What stands goes on standing. -/
def Kp (w w' : World) : Prop := w.heap.size ≤ w'.heap.size ∧ ∀ (b o : Nat) (v : Value), w.cell? ⟨b, o, none⟩ = some v → w'.cell? ⟨b, o, none⟩ = some v
theorem Kp.refl (w : World) : Kp w w := ⟨Nat.le_refl _, fun _ _ _ h => h⟩
theorem Kp.trans {a b c : World} (h : Kp a b) (k : Kp b c) : Kp a c := ⟨Nat.le_trans h.1 k.1, fun x y v q => k.2 x y v (h.2 x y v q)⟩
theorem Kp.of_below {w w' : World} (hb : Below w.heap.size w w') : Kp w w' := ⟨hb.size, fun b o v h => (hb.cell (p := ⟨b, o, none⟩) (World.block_lt_of_cell? w _ h)).trans h⟩
theorem RdAt.kp {w w' : World} (hk : Kp w w') {v : Value} {k : Nat} {xs : List Value} (h : RdAt w v k xs) : RdAt w' v k xs := by
  obtain ⟨A, n, c, rfl, hl, hn, hc⟩ := h
  refine ⟨A, n, c, rfl, hl, hn, fun hp => ?_⟩
  obtain ⟨g, o, rfl, hg, hx⟩ := hc hp
  exact ⟨g, o, rfl, Nat.lt_of_lt_of_le hg hk.1, fun j u hj => hk.2 _ _ _ (hx j u hj)⟩

section
variable {H L : Type}
/-- From an offset of a block on lies a forest: pre cells say how a tree is held, k cells what it is. -/
def RdFo (k pre : Nat) (hd : World → List Value → H → Value → Prop) (pl : World → List Value → L → Prop) (w : World) : Fo H L → Nat → Nat → Prop
  | .nil, _, _ => True
  | .cons l h kids rest, g, o => (∃ (ps ts : List Value) (A : Option Addr) (c : Nat), ps.length = pre ∧ ts.length = k ∧ (∀ j v, (ps ++ ts)[j]? = some v → w.cell? ⟨g, o + j, none⟩ = some v) ∧ pl w ps l ∧ hd w ts h (.slice A kids.len c) ∧ kids.len ≤ c ∧
      (0 < kids.len → ∃ g' o', A = some ⟨g', o', none⟩ ∧ g' < w.heap.size ∧ RdFo k pre hd pl w kids g' o')) ∧ RdFo k pre hd pl w rest g (o + (pre + k))
variable {k pre : Nat} {hd : World → List Value → H → Value → Prop} {pl : World → List Value → L → Prop}
/-- A slice reads as a forest. -/
def RdSl (k pre : Nat) (hd : World → List Value → H → Value → Prop) (pl : World → List Value → L → Prop) (w : World) (v : Value) (f : Fo H L) : Prop :=
  ∃ (A : Option Addr) (c : Nat), v = .slice A f.len c ∧ f.len ≤ c ∧ (0 < f.len → ∃ g o, A = some ⟨g, o, none⟩ ∧ g < w.heap.size ∧ RdFo k pre hd pl w f g o)
/-- Cells read as a tree. -/
def RdNd (k pre : Nat) (hd : World → List Value → H → Value → Prop) (pl : World → List Value → L → Prop) (w : World) (cs : List Value) (h : H) (f : Fo H L) : Prop :=
  cs.length = k ∧ ∃ v, hd w cs h v ∧ RdSl k pre hd pl w v f
theorem RdFo.first {w : World} {l : L} {h : H} {kids rest : Fo H L} {g o : Nat} (q : RdFo k pre hd pl w (.cons l h kids rest) g o) :
    (∃ ps ts : List Value, ps.length = pre ∧ (∀ j v, (ps ++ ts)[j]? = some v → w.cell? ⟨g, o + j, none⟩ = some v) ∧ pl w ps l ∧ RdNd k pre hd pl w ts h kids) ∧ RdFo k pre hd pl w rest g (o + (pre + k)) := by
  obtain ⟨⟨ps, ts, A, c, l1, l2, hc, hp, hh, hn, hs⟩, hr⟩ := q
  exact ⟨⟨ps, ts, l1, hc, hp, l2, _, hh, A, c, rfl, hn, hs⟩, hr⟩
theorem RdFo.mk {w : World} {l : L} {h : H} {kids rest : Fo H L} {g o : Nat} (ps ts : List Value) (l1 : ps.length = pre) (hc : ∀ j v, (ps ++ ts)[j]? = some v → w.cell? ⟨g, o + j, none⟩ = some v) (hp : pl w ps l) (hn : RdNd k pre hd pl w ts h kids)
    (hr : RdFo k pre hd pl w rest g (o + (pre + k))) : RdFo k pre hd pl w (.cons l h kids rest) g o := by
  obtain ⟨l2, v, hh, A, c, rfl, hx, hs⟩ := hn
  exact ⟨⟨ps, ts, A, c, l1, l2, hc, hp, hh, hx, hs⟩, hr⟩
theorem RdSl.nil (w : World) (A : Option Addr) (c : Nat) : RdSl k pre hd pl w (.slice A 0 c) .nil := ⟨A, c, rfl, Nat.zero_le _, fun h => absurd h (by simp [Fo.len])⟩
theorem RdFo.kp (hk : ∀ w w' cs h v, Kp w w' → hd w cs h v → hd w' cs h v) (pk : ∀ w w' cs l, Kp w w' → pl w cs l → pl w' cs l) {w w' : World} (q : Kp w w') : ∀ {f : Fo H L} {g o : Nat}, RdFo k pre hd pl w f g o → RdFo k pre hd pl w' f g o := by
  intro f
  induction f with
  | nil => intro g o _; trivial
  | cons l h kids rest ik ir =>
    rintro g o ⟨⟨ps, ts, A, c, l1, l2, hc, hp, hh, hn, hs⟩, hr⟩
    refine ⟨⟨ps, ts, A, c, l1, l2, fun j v e => q.2 _ _ _ (hc j v e), pk _ _ _ _ q hp, hk _ _ _ _ _ q hh, hn, fun h0 => ?_⟩, ir hr⟩
    obtain ⟨g', o', rfl, hg, hx⟩ := hs h0
    exact ⟨g', o', rfl, Nat.lt_of_lt_of_le hg q.1, ik hx⟩
theorem RdSl.kp (hk : ∀ w w' cs h v, Kp w w' → hd w cs h v → hd w' cs h v) (pk : ∀ w w' cs l, Kp w w' → pl w cs l → pl w' cs l) {w w' : World} (q : Kp w w') {v : Value} {f : Fo H L} (h : RdSl k pre hd pl w v f) : RdSl k pre hd pl w' v f := by
  obtain ⟨A, c, rfl, hn, hs⟩ := h
  refine ⟨A, c, rfl, hn, fun h0 => ?_⟩
  obtain ⟨g, o, rfl, hg, hx⟩ := hs h0
  exact ⟨g, o, rfl, Nat.lt_of_lt_of_le hg q.1, hx.kp hk pk q⟩
theorem RdNd.kp (hk : ∀ w w' cs h v, Kp w w' → hd w cs h v → hd w' cs h v) (pk : ∀ w w' cs l, Kp w w' → pl w cs l → pl w' cs l) {w w' : World} (q : Kp w w') {cs : List Value} {h : H} {f : Fo H L} (x : RdNd k pre hd pl w cs h f) : RdNd k pre hd pl w' cs h f := by
  obtain ⟨l, v, hh, hs⟩ := x
  exact ⟨l, v, hk _ _ _ _ _ q hh, hs.kp hk pk q⟩

/-- A slice that came in, its elements opened one by one, with less fuel. -/
theorem open_slice_f {G : Type} {enc' : TypeId × Value → G} {P : Program} {W : World} {bs : Nat} {t e : TypeId} {f : Nat} {v : Value} {x : DataW G × List MemPlace} (ht : P.underlying t = some (.slice e))
    (h : DataW.trod enc' P W bs (fun _ => true) true f t [v] = some x) : ∃ (A : Option Addr) (len cap : Nat), v = .slice A len cap ∧ len ≤ cap ∧ cap ≤ maxLen ∧
      (0 < len → ∃ a f', A = some a ∧ f' < f ∧ ∀ i, i < len → ∃ cs' y, W.cells? bs (a.add (i * P.cellsOf e)) (P.cellsOf e) = some cs' ∧ DataW.trod enc' P W bs (fun _ => true) true f' e cs' = some y) := by
  rcases DataW.trod_slice ht h with ⟨h1, -⟩ | ⟨a, len, cap, elems, rest, n, rfl, h1, -, hb, hl, hm, hlen, hel, -, -⟩
  · simp only [List.cons.injEq, and_true] at h1
    exact ⟨none, 0, 0, h1, Nat.le_refl _, by unfold maxLen; omega, fun h => absurd h (by omega)⟩
  · simp only [List.cons.injEq, and_true] at h1
    refine ⟨some a, len, cap, h1, hl, hm, fun _ => ⟨a, n, rfl, Nat.lt_succ_self n, fun i hi => ?_⟩⟩
    have := hel i hi
    rw [List.getElem?_eq_getElem (by omega), Option.bind_eq_some_iff] at this
    obtain ⟨cs', q1, q2⟩ := this
    exact ⟨cs', _, q1, q2⟩

/-- A tree that came in. node: what stands at it, and its slice of parts; elem: how a part is held, and the tree that it is. -/
theorem arg_tree {G : Type} {enc' : TypeId × Value → G} {P : Program} {W : World} {bs : Nat} {tT tE tS : TypeId} (hS : P.underlying tS = some (.slice tE)) (ce : P.cellsOf tE = pre + k) (k0 : 0 < k)
    (GH : H → Prop) (GL : L → Prop)
    (node : ∀ f cs x, DataW.trod enc' P W bs (fun _ => true) true f tT cs = some x → cs.length = k → ∃ h v f' y, hd W cs h v ∧ GH h ∧ f' < f ∧ DataW.trod enc' P W bs (fun _ => true) true f' tS [v] = some y)
    (elem : ∀ f cs x, DataW.trod enc' P W bs (fun _ => true) true f tE cs = some x → cs.length = pre + k → ∃ l ps ts f' y, cs = ps ++ ts ∧ ps.length = pre ∧ ts.length = k ∧ pl W ps l ∧ GL l ∧ f' ≤ f ∧ DataW.trod enc' P W bs (fun _ => true) true f' tT ts = some y) :
    ∀ F f, f < F → ∀ cs x, DataW.trod enc' P W bs (fun _ => true) true f tT cs = some x → cs.length = k → ∃ h, GH h ∧ ∃ fo : Fo H L, fo.len ≤ maxLen ∧ RdNd k pre hd pl W cs h fo ∧ fo.All GH GL := by
  intro F
  induction F with
  | zero => intro f hf; omega
  | succ F ih =>
    intro f hf cs x hx hl
    obtain ⟨h, v, f1, y, hh, gh, hf1, hy⟩ := node f cs x hx hl
    obtain ⟨A, len, cap, rfl, hlc, hcm, hel⟩ := open_slice_f hS hy
    refine ⟨h, gh, ?_⟩
    by_cases h0 : 0 < len
    · obtain ⟨a, f2, rfl, hf2, hi⟩ := hel h0
      have key : ∀ i, i < len → ∃ (l : L) (h : H) (fo : Fo H L) (ps ts : List Value), GL l ∧ GH h ∧ fo.len ≤ maxLen ∧ fo.All GH GL ∧ ps.length = pre ∧ (∀ j, j < pre + k → W.cell? (a.add (i * (pre + k) + j)) = (ps ++ ts)[j]?) ∧ pl W ps l ∧ RdNd k pre hd pl W ts h fo := by
        intro i hlt
        obtain ⟨cs', z, h1, h2⟩ := hi i hlt
        rw [ce] at h1
        obtain ⟨-, hlen, hcell⟩ := World.cells?_some h1
        obtain ⟨l, ps, ts, f3, u, rfl, l1, l2, hp, gl, hf3, hu⟩ := elem _ _ _ h2 hlen
        obtain ⟨h', gh', fo, lf, hn, ga⟩ := ih f3 (by omega) ts u hu l2
        refine ⟨l, h', fo, ps, ts, gl, gh', lf, ga, l1, fun j hj => ?_, hp, hn⟩
        have := hcell j hj
        rw [add_add] at this
        exact this
      obtain ⟨b, off, spot⟩ := a
      have hspot : spot = none ∧ b < W.heap.size := by
        obtain ⟨l, h', fo, ps, ts, -, -, -, -, l1, hc, -, hn⟩ := key 0 h0
        have l2 : 0 < (ps ++ ts).length := by rw [List.length_append, hn.1]; omega
        have := hc 0 (by omega)
        rw [List.getElem?_eq_getElem l2] at this
        have hs : spot = none := by simpa [Addr.add] using World.cell?_spot this
        subst hs
        exact ⟨rfl, by have := World.block_lt_of_cell? W _ this; simpa [Addr.add] using this⟩
      obtain ⟨rfl, hb⟩ := hspot
      have ad : ∀ j, (⟨b, off, none⟩ : Addr).add j = ⟨b, off + j, none⟩ := fun j => by unfold Addr.add; split <;> simp_all
      have build : ∀ m i, i + m = len → ∃ fo : Fo H L, fo.len = m ∧ RdFo k pre hd pl W fo b (off + i * (pre + k)) ∧ fo.All GH GL := by
        intro m
        induction m with
        | zero => intro i _; exact ⟨.nil, rfl, trivial, trivial⟩
        | succ m im =>
          intro i e
          obtain ⟨fo, e1, e2, e3⟩ := im (i + 1) (by omega)
          obtain ⟨l, h', kids, ps, ts, gl, gh', lf, ga, l1, hc, hp, hn⟩ := key i (by omega)
          refine ⟨.cons l h' kids fo, by rw [Fo.len_cons, e1], RdFo.mk ps ts l1 (fun j v q => ?_) hp hn (by rw [Nat.add_mul, Nat.one_mul, ← Nat.add_assoc] at e2; exact e2), gl, gh', lf, ga, e3⟩
          have hj : j < pre + k := by
            have := (List.getElem?_eq_some_iff.1 q).1
            rw [List.length_append, l1, hn.1] at this
            exact this
          have := hc j hj
          rw [ad, q] at this
          rw [Nat.add_assoc]
          exact this
      obtain ⟨fo, e1, e2, e3⟩ := build len 0 (Nat.zero_add _)
      rw [Nat.zero_mul, Nat.add_zero] at e2
      subst e1
      exact ⟨fo, Nat.le_trans hlc hcm, ⟨hl, _, hh, some ⟨b, off, none⟩, cap, rfl, hlc, fun _ => ⟨b, off, rfl, hb, e2⟩⟩, e3⟩
    · obtain rfl : len = 0 := by omega
      exact ⟨.nil, Nat.zero_le _, ⟨hl, _, hh, RdSl.nil _ _ _⟩, trivial⟩
/-- A slice of plain elements inside what came in, opened as a list. -/
theorem flat_in {α G : Type} {enc : α → List Value} {k : Nat} {enc' : TypeId × Value → G} {P : Program} {W : World} {bs : Nat} {t e : TypeId} {f : Nat} {v : Value} {x : DataW G × List MemPlace} (hk : ∀ x, (enc x).length = k) (h0 : 0 < k) (Good : α → Prop)
    (ht : P.underlying t = some (.slice e)) (ce : P.cellsOf e = k) (h : DataW.trod enc' P W bs (fun _ => true) true f t [v] = some x)
    (elem : ∀ (n : Nat) (cs : List Value) (x : DataW G × List MemPlace), DataW.trod enc' P W bs (fun _ => true) true n e cs = some x → cs.length = k → ∃ a : α, cs = enc a ∧ Good a) :
    ∃ xs : List α, RdG enc k W v xs ∧ (∀ x ∈ xs, Good x) ∧ xs.length ≤ maxLen := by
  obtain ⟨A, len, cap, rfl, hlc, hcm, hel⟩ := open_slice_f ht h
  by_cases hl : 0 < len
  · obtain ⟨a, f2, rfl, -, hi⟩ := hel hl
    have key : ∀ i, i < len → ∃ y : α, Good y ∧ ∀ j, j < k → W.cell? (a.add (i * k + j)) = (enc y)[j]? := by
      intro i hlt
      obtain ⟨cs', z, h1, h2⟩ := hi i hlt
      rw [ce] at h1
      obtain ⟨-, hlen, hcell⟩ := World.cells?_some h1
      obtain ⟨y, rfl, gy⟩ := elem _ _ _ h2 hlen
      refine ⟨y, gy, fun j hj => ?_⟩
      have := hcell j hj
      rw [add_add] at this
      exact this
    obtain ⟨b, off, spot⟩ := a
    have hspot : spot = none ∧ b < W.heap.size := by
      obtain ⟨y, -, hc⟩ := key 0 hl
      have := hc 0 h0
      rw [List.getElem?_eq_getElem (by rw [hk]; exact h0)] at this
      have hs : spot = none := by simpa [Addr.add] using World.cell?_spot this
      subst hs
      exact ⟨rfl, by have := World.block_lt_of_cell? W _ this; simpa [Addr.add] using this⟩
    obtain ⟨rfl, hb⟩ := hspot
    have ad : ∀ j, (⟨b, off, none⟩ : Addr).add j = ⟨b, off + j, none⟩ := fun j => by unfold Addr.add; split <;> simp_all
    have build : ∀ m i, i + m = len → ∃ xs : List α, xs.length = m ∧ (∀ x ∈ xs, Good x) ∧ ∀ j u, (flatG enc xs)[j]? = some u → W.cell? ⟨b, off + (i * k + j), none⟩ = some u := by
      intro m
      induction m with
      | zero => intro i _; exact ⟨[], rfl, by simp, by simp [flatG]⟩
      | succ m im =>
        intro i e
        obtain ⟨xs, e1, e2, e3⟩ := im (i + 1) (by omega)
        obtain ⟨y, gy, hc⟩ := key i (by omega)
        refine ⟨y :: xs, by simp [e1], fun z hz => ?_, fun j u hj => ?_⟩
        · rcases List.mem_cons.1 hz with rfl | q
          · exact gy
          · exact e2 z q
        · rw [flatG_cons] at hj
          by_cases hjk : j < k
          · rw [List.getElem?_append_left (by rw [hk]; exact hjk)] at hj
            rw [← ad, hc j hjk, hj]
          · rw [List.getElem?_append_right (by rw [hk]; omega), hk] at hj
            have := e3 _ u hj
            rw [Nat.add_mul] at this
            rw [show i * k + j = i * k + 1 * k + (j - k) by omega]
            exact this
    obtain ⟨xs, e1, e2, e3⟩ := build len 0 (Nat.zero_add _)
    subst e1
    exact ⟨xs, ⟨_, xs.length, cap, rfl, flatG_len hk xs, hlc, fun _ => ⟨b, off, rfl, hb, fun j u hj => by have := e3 j u hj; rwa [Nat.zero_mul, Nat.zero_add] at this⟩⟩, e2, Nat.le_trans hlc hcm⟩
  · obtain rfl : len = 0 := by omega
    exact ⟨[], RdG.none0 _ _ _, by simp, Nat.zero_le _⟩
end
end Go.Proofs.Ytpepomnkoghjpaa
