/- Slices of elements of k cells, whatever k: as a list, opened at every index, and as an argument. -/
import Derived.Test.YtpepomnkoghjpaaOwn
import Derived.Deep.Slices
import Derived.ProofKit
set_option maxRecDepth 100000
set_option linter.unusedVariables false
namespace Go.Proofs.Ytpepomnkoghjpaa
open Go.RowKit Go.Lib Go.ChangeShapes Go.WideShapes Go.Deep

section
variable {α : Type} {enc : α → List Value} {k : Nat}
/-- The cells of a list. -/
def flatG (enc : α → List Value) (l : List α) : List Value := l.flatMap enc
theorem flatG_cons (x : α) (l : List α) : flatG enc (x :: l) = enc x ++ flatG enc l := rfl
theorem flatG_append (l m : List α) : flatG enc (l ++ m) = flatG enc l ++ flatG enc m := by unfold flatG; rw [List.flatMap_append]
theorem flatG_snoc (l : List α) (x : α) : flatG enc (l ++ [x]) = flatG enc l ++ enc x := by rw [flatG_append]; simp [flatG]
theorem flatG_len (hk : ∀ x, (enc x).length = k) : ∀ l : List α, (flatG enc l).length = l.length * k
  | [] => by simp [flatG]
  | x :: l => by rw [flatG_cons, List.length_append, hk, flatG_len hk l, List.length_cons, Nat.add_mul]; omega
theorem flatG_get (hk : ∀ x, (enc x).length = k) : ∀ (l : List α) (i j : Nat) (h : i < l.length), j < k → (flatG enc l)[i * k + j]? = (enc l[i])[j]?
  | x :: l, 0, j, h, hj => by
    rw [flatG_cons, Nat.zero_mul, Nat.zero_add, List.getElem?_append_left (by rw [hk]; exact hj)]; rfl
  | x :: l, i + 1, j, h, hj => by
    rw [flatG_cons, List.getElem?_append_right (by rw [hk, Nat.add_mul]; omega), hk, show (i + 1) * k + j - k = i * k + j by rw [Nat.add_mul]; omega, flatG_get hk l i j (by simpa using h) hj]
    rfl
/-- A slice that reads as a list of such elements. -/
def RdG (enc : α → List Value) (k : Nat) (w : World) (v : Value) (l : List α) : Prop := RdAt w v k (flatG enc l)
theorem RdG.below {w w' : World} {v : Value} {l : List α} (h : RdG enc k w v l) (hb : Below w.heap.size w w') : RdG enc k w' v l := RdAt.below h hb
theorem RdG.none0 (w : World) (A : Option Addr) (c : Nat) : RdG enc k w (.slice A 0 c) [] := ⟨A, 0, c, rfl, by simp [flatG], Nat.zero_le _, fun h => absurd h (by simp [flatG])⟩
theorem RdG.of_own {w : World} {base : Nat} {e : TypeId} {n : Nat} {v : Value} {l : List α} (h : w.ownsRow base e k v n (flatG enc l)) : RdG enc k w v l := RdAt.of_own h
theorem RdG.open (hk : ∀ x, (enc x).length = k) (h0 : 0 < k) {w : World} {v : Value} {l : List α} (h : RdG enc k w v l) : ∃ (A : Option Addr) (c : Nat), v = .slice A l.length c ∧ l.length ≤ c ∧
    (0 < l.length → ∃ g o, A = some ⟨g, o, none⟩ ∧ g < w.heap.size ∧ ∀ i (hi : i < l.length) j, j < k → w.cell? ⟨g, o + i * k + j, none⟩ = (enc l[i])[j]?) := by
  obtain ⟨A, n, c, rfl, hl, hn, hc⟩ := h
  rw [flatG_len hk] at hl
  obtain rfl : n = l.length := (Nat.eq_of_mul_eq_mul_right h0 hl).symm
  refine ⟨A, c, rfl, hn, fun hp => ?_⟩
  obtain ⟨g, o, rfl, hg, hc⟩ := hc (by rw [flatG_len hk]; exact Nat.mul_pos hp h0)
  refine ⟨g, o, rfl, hg, fun i hi j hj => ?_⟩
  have e := flatG_get hk l i j hi hj
  have hs : j < (enc l[i]).length := by rw [hk]; exact hj
  rw [List.getElem?_eq_getElem hs] at e ⊢
  rw [Nat.add_assoc]
  exact hc _ _ e

/-- A slice of such elements that came in, opened; what an element is, its own opening lemma says. -/
theorem arg_flat [Inhabited α] {H : Type} {enc' : TypeId × Value → H} {P : Program} {W : World} {base bs : Nat} {t e : TypeId} {v : Value} {d : DataW H} {p : List MemPlace} (hk : ∀ x, (enc x).length = k) (h0 : 0 < k) (Good : α → Prop)
    (ht : P.underlying t = some (.slice e)) (ce : P.cellsOf e = k) (hv : Value.okWide P W .any base t v) (h : DataW.Trod enc' P W bs (fun _ => true) true t v d p)
    (elem : ∀ (n : Nat) (cs : List Value) (x : DataW H × List MemPlace), DataW.trod enc' P W bs (fun _ => true) true n e cs = some x → cs.length = k → ∃ a : α, cs = enc a ∧ Good a) :
    ∃ xs : List α, RdG enc k W v xs ∧ (∀ x ∈ xs, Good x) ∧ (xs = [] ∨ ∃ es sp, d = .slice es sp ∧ es.length = xs.length) := by
  obtain ⟨a, len, cap, rfl⟩ := okWide_slice ht hv
  obtain ⟨fuel, hf⟩ := h
  rcases open_slice ht hf with ⟨hcs, hx⟩ | ⟨a', len', cap', m, n, D, Pl, hcs, hb, hl, hm, hmm, hx, hi⟩
  · simp [Value.cells] at hcs
    obtain ⟨rfl, rfl, rfl⟩ := hcs
    exact ⟨[], RdG.none0 _ _ _, by simp, .inl rfl⟩
  · simp [Value.cells] at hcs
    obtain ⟨rfl, rfl, rfl⟩ := hcs
    simp only [if_true] at hmm
    subst hmm
    have key : ∀ i, ∃ x : α, i < m → Good x ∧ ∀ j, j < k → W.cell? (a'.add (i * k + j)) = (enc x)[j]? := by
      intro i
      by_cases hlt : i < m
      · obtain ⟨cs', h1, h2⟩ := hi i hlt
        rw [ce] at h1
        obtain ⟨-, hlen, hcell⟩ := World.cells?_some h1
        obtain ⟨x, rfl, hg⟩ := elem _ _ _ h2 hlen
        refine ⟨x, fun _ => ⟨hg, fun j hj => ?_⟩⟩
        have := hcell j hj
        rw [add_add] at this
        exact this
      · exact ⟨default, fun h => absurd h hlt⟩
    let G : Nat → α := fun i => (key i).choose
    have hG : ∀ i, i < m → Good (G i) ∧ ∀ j, j < k → W.cell? (a'.add (i * k + j)) = (enc (G i))[j]? := fun i h => (key i).choose_spec h
    have hxs : ((List.range len).map G).length = len := by simp
    refine ⟨(List.range len).map G, ?_, ?_, ?_⟩
    · refine ⟨some a', len, m, rfl, by rw [flatG_len hk, hxs], hl, fun hp => ?_⟩
      rw [flatG_len hk, hxs] at hp
      have hlen0 : 0 < len := Nat.pos_of_mul_pos_right hp
      have hc := (hG 0 (by omega)).2 0 h0
      have hs : 0 < (enc (G 0)).length := by rw [hk]; exact h0
      rw [List.getElem?_eq_getElem hs] at hc
      obtain ⟨b, off, spot⟩ := a'
      have hspot : spot = none := by simpa [Addr.add] using World.cell?_spot hc
      subst hspot
      have ad : ∀ j, (⟨b, off, none⟩ : Addr).add j = ⟨b, off + j, none⟩ := fun j => by unfold Addr.add; split <;> simp_all
      refine ⟨b, off, rfl, by have := World.block_lt_of_cell? W _ hc; rw [ad] at this; exact this, fun j u hj => ?_⟩
      have hj2 : j < len * k := by have := (List.getElem?_eq_some_iff.1 hj).1; rwa [flatG_len hk, hxs] at this
      have hd : j / k < len := Nat.div_lt_of_lt_mul (by rw [Nat.mul_comm]; exact hj2)
      have hmod : j % k < k := Nat.mod_lt _ h0
      have ej : j / k * k + j % k = j := by rw [Nat.mul_comm]; exact Nat.div_add_mod j k
      have f := flatG_get hk ((List.range len).map G) (j / k) (j % k) (by rw [hxs]; exact hd) hmod
      rw [ej, hj] at f
      have c := (hG (j / k) (by omega)).2 (j % k) hmod
      rw [ad, ej] at c
      rw [c, f]
      simp
    · intro x hx
      obtain ⟨i, hi, rfl⟩ := List.mem_map.1 hx
      exact (hG i (by have := List.mem_range.1 hi; omega)).1
    · simp only [Prod.mk.injEq] at hx
      exact .inr ⟨_, _, hx.1, by simp⟩
end
end Go.Proofs.Ytpepomnkoghjpaa
