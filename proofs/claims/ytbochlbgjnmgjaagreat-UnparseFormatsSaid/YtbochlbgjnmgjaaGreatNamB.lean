/- A slice of strings as a list; the reference's Find, Twice, Same. -/
import Derived.Test.YtbochlbgjnmgjaaGreatNamS
import Derived.Test.YtbochlbgjnmgjaaGreatOwn
import Derived.SliceStrings
import Derived.Deep.AppendLies
set_option maxRecDepth 100000
set_option linter.unusedVariables false
namespace Go.Proofs.YtbochlbgjnmgjaaGreat.Nam
open Go.RowKit Go.Lib Go.Proofs.YtbochlbgjnmgjaaGreat.Utf Go.ChangeShapes Go.WideShapes

def sv (l : List ByteArray) : List Value := l.map Value.string
theorem sv_len (l : List ByteArray) : (sv l).length = l.length := by simp [sv]
theorem sv_append (l m : List ByteArray) : sv (l ++ m) = sv l ++ sv m := by simp [sv]
theorem sv_get (l : List ByteArray) (k : Nat) (h : k < l.length) : (sv l)[k]? = some (.string (l.getD k ByteArray.empty)) := by simp [sv, List.getD, List.getElem?_eq_getElem h]
/-- A slice that reads as a list of strings. -/
def RdS (w : World) (v : Value) (l : List ByteArray) : Prop := RdAt w v 1 (sv l)
theorem RdS.below {w w' : World} {v : Value} {l : List ByteArray} (h : RdS w v l) (hb : Below w.heap.size w w') : RdS w' v l := RdAt.below h hb
theorem RdS.open {w : World} {v : Value} {l : List ByteArray} (h : RdS w v l) : ∃ (A : Option Addr) (c : Nat), v = .slice A l.length c ∧ l.length ≤ c ∧
    (0 < l.length → ∃ g o, A = some ⟨g, o, none⟩ ∧ g < w.heap.size ∧ ∀ k, k < l.length → w.cell? ⟨g, o + k, none⟩ = some (.string (l.getD k ByteArray.empty))) := by
  obtain ⟨A, n, c, rfl, hl, hn, hc⟩ := h
  rw [sv_len] at hl
  obtain rfl : n = l.length := by omega
  refine ⟨A, c, rfl, hn, fun h0 => ?_⟩
  obtain ⟨g, o, rfl, hg, hc⟩ := hc (by rw [sv_len]; omega)
  exact ⟨g, o, rfl, hg, fun k hk => hc _ _ (sv_get l k hk)⟩
theorem RdS.of_own {w : World} {base : Nat} {e : TypeId} {n : Nat} {v : Value} {l : List ByteArray} (h : w.ownsRow base e 1 v n (sv l)) : RdS w v l := RdAt.of_own h
theorem RdS.none0 (w : World) (A : Option Addr) (c : Nat) : RdS w (.slice A 0 c) [] := ⟨A, 0, c, rfl, rfl, Nat.zero_le _, fun h => absurd h (by simp [sv])⟩

theorem arg_strs {H : Type} {enc' : TypeId × Value → H} {W : World} {base : Nat} {v : Value} {d : DataW H} {p : List MemPlace} (hv : Value.okWide Tryz.prog W .any base 207 v)
    (h : DataW.Trod enc' Tryz.prog W 0 (fun _ => true) true 207 v d p) : ∃ xs : List ByteArray, RdS W v xs ∧ (∀ s ∈ xs, s.size ≤ maxLen) ∧ (xs = [] ∨ ∃ es sp, d = .slice es sp ∧ es.length = xs.length) := by
  obtain ⟨a, len, cap, rfl⟩ := okWide_slice Tryz.underlying207 hv
  obtain ⟨fuel, hf⟩ := h
  rcases open_strings Tryz.underlying207 Tryz.underlying9 (by kernel_rfl) hf with ⟨hcs, hx⟩ | ⟨a', len', cap', ss, hcs, hb, hl, hm, hz, hx, hcell, hsz⟩
  · simp [Value.cells] at hcs
    obtain ⟨rfl, rfl, rfl⟩ := hcs
    exact ⟨[], RdS.none0 _ _ _, by simp, .inl rfl⟩
  · simp [Value.cells] at hcs
    obtain ⟨rfl, rfl, rfl⟩ := hcs
    simp only [if_true] at hz
    refine ⟨ss.take len, ⟨some a', len, cap, rfl, by rw [sv_len, List.length_take]; omega, hl, fun h0 => ?_⟩, fun s hs => hsz s (List.mem_of_mem_take hs), .inr ?_⟩
    · rw [sv_len, List.length_take] at h0
      have hp : 0 < ss.length := by omega
      have hc := hcell 0 hp
      obtain ⟨b, off, spot⟩ := a'
      have hspot : spot = none := by simpa [Addr.add] using World.cell?_spot hc
      subst hspot
      have ad : ∀ j, (⟨b, off, none⟩ : Addr).add j = ⟨b, off + j, none⟩ := fun j => by unfold Addr.add; split <;> simp_all
      refine ⟨b, off, rfl, by have := World.block_lt_of_cell? W _ hc; rw [ad] at this; exact this, fun j u hj => ?_⟩
      have hj2 : j < (ss.take len).length := by have := (List.getElem?_eq_some_iff.1 hj).1; rwa [sv_len] at this
      have hj3 : j < len := by rw [List.length_take] at hj2; omega
      rw [sv_get _ j hj2] at hj
      have hc := hcell j (by omega)
      rw [ad] at hc
      rw [hc, ← Option.some.inj hj]
      simp [List.getD, List.getElem?_take_of_lt hj3]
    · simp only [Prod.mk.injEq] at hx
      exact ⟨_, _, hx.1, by simp [strs]⟩

/- What is kept behind an append, an alloc, a store. -/
theorem grown_keep {W w2 : World} {o : Obj} {row : Option Nat} (h : (W.alloc o).drew.grownBy w2 row) {g x : Nat} {u : Value} (hg : g < W.heap.size) (hr : some g ≠ row) (hc : W.cell? ⟨g, x, none⟩ = some u) : w2.cell? ⟨g, x, none⟩ = some u :=
  ((h.cell_far ⟨g, x, none⟩ (by show g < (W.alloc o).heap.size; simp; omega) hr).trans (((Below.refl W.heap.size W).alloc (Nat.le_refl _) o).cell (p := ⟨g, x, none⟩) hg)).trans hc
theorem grown_keepF {W w2 : World} {o : Obj} {row : Option Nat} (h : (W.alloc o).drew.grownBy w2 row) {g x : Nat} {u : Bool} (hg : g < W.heap.size) (hr : some g ≠ row) (hc : W.frozen? ⟨g, x, none⟩ = u) : w2.frozen? ⟨g, x, none⟩ = u :=
  ((h.frozen_far ⟨g, x, none⟩ (by show g < (W.alloc o).heap.size; simp; omega) hr).trans (((Below.refl W.heap.size W).alloc (Nat.le_refl _) o).frozen (p := ⟨g, x, none⟩) hg)).trans hc

theorem alloc_keep {W : World} {o : Obj} {g x : Nat} {u : Value} (hg : g < W.heap.size) (hc : W.cell? ⟨g, x, none⟩ = some u) : ((W.alloc o).drew).cell? ⟨g, x, none⟩ = some u := (((Below.refl W.heap.size W).alloc (Nat.le_refl _) o).cell (p := ⟨g, x, none⟩) hg).trans hc
theorem alloc_keepF {W : World} {o : Obj} {g x : Nat} {u : Bool} (hg : g < W.heap.size) (hc : W.frozen? ⟨g, x, none⟩ = u) : ((W.alloc o).drew).frozen? ⟨g, x, none⟩ = u := (((Below.refl W.heap.size W).alloc (Nat.le_refl _) o).frozen (p := ⟨g, x, none⟩) hg).trans hc
theorem set_keep {W : World} {g x t y : Nat} {u v : Value} (hne : g ≠ t) (hc : W.cell? ⟨g, x, none⟩ = some u) : (W.setCell ⟨t, y, none⟩ v).cell? ⟨g, x, none⟩ = some u := by
  rw [World.cell?_setCell_other _ _ _ _ (by intro e; simp only [Addr.mk.injEq] at e; omega)]; exact hc
theorem set_keepF {W : World} {g x : Nat} {a : Addr} {u : Bool} {v : Value} (hc : W.frozen? ⟨g, x, none⟩ = u) : (W.setCell a v).frozen? ⟨g, x, none⟩ = u := by rw [World.frozen?_setCell]; exact hc
theorem seq_t {a b : ByteArray} (h : a = b) : (a.toList == b.toList) = true := by rw [seq_iff]; exact decide_eq_true h
theorem seq_f {a b : ByteArray} (h : ¬ a = b) : (a.toList == b.toList) = false := by rw [seq_iff]; exact decide_eq_false h
theorem sne_t {a b : ByteArray} (h : ¬ a = b) : (a.toList != b.toList) = true := by unfold bne; rw [seq_f h]; rfl
theorem sne_f {a b : ByteArray} (h : a = b) : (a.toList != b.toList) = false := by unfold bne; rw [seq_t h]; rfl
theorem take_succS (xs : List ByteArray) (k : Nat) (h : k < xs.length) : xs.take (k + 1) = xs.take k ++ [xs.getD k ByteArray.empty] := by
  rw [List.take_add_one, List.getD, List.getElem?_eq_getElem h]; rfl

theorem getD_at {xs : List ByteArray} {j : Nat} (h : j < xs.length) : xs[j]? = some (xs.getD j ByteArray.empty) := by simp [List.getD, List.getElem?_eq_getElem h]
theorem find_lt {xs : List ByteArray} {K : Nat} (hK : K < xs.length) : findS xs (xs.getD K ByteArray.empty) < K ↔ xs.getD K ByteArray.empty ∈ xs.take K := by
  rcases find_cases xs (xs.getD K ByteArray.empty) with ⟨-, h⟩ | ⟨m, h1, h2, h3, h4⟩
  · exact absurd (List.mem_of_getElem? (getD_at hK)) h
  · rw [h4]
    constructor
    · intro h
      refine List.mem_take_iff_getElem.2 ⟨m, by omega, ?_⟩
      rw [List.getElem?_eq_getElem h1] at h2
      exact Option.some.inj h2
    · intro h
      obtain ⟨i, hi, e⟩ := List.mem_take_iff_getElem.1 h
      have : ¬ i < m := fun q => h3 i q (by rw [List.getElem?_eq_getElem (by omega), e])
      omega
end Go.Proofs.YtbochlbgjnmgjaaGreat.Nam
