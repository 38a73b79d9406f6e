import Derived.Test.YtbochlbgjnmgjaaGreatMix
import Derived.Test.YtbochlbgjnmgjaaGreatG4
/- Mixed regions that hold a writing call or store: the class of worlds in which all stands as it stood but for two blocks. -/
set_option maxRecDepth 100000
set_option linter.unusedVariables false
namespace Go.Proofs.YtbochlbgjnmgjaaGreat
open Go.RowKit Go.Lib

/-- A world in which all of W stands as it stood, but for the blocks p and q. -/
structure GW (W : World) (p q : Nat) where
  w : World
  s : W.heap.size ≤ w.heap.size
  b : ∀ k, k < W.heap.size → k ≠ p → k ≠ q → w.heap[k]? = W.heap[k]?
theorem GW.cell {W : World} {p q : Nat} (x : GW W p q) {g o : Nat} (h : g < W.heap.size) (h1 : g ≠ p) (h2 : g ≠ q) {u : Value} (hc : W.cell? ⟨g, o, none⟩ = some u) : x.w.cell? ⟨g, o, none⟩ = some u := (World.cell?_of_block (a := ⟨g, o, none⟩) (x.b g h h1 h2)).trans hc
theorem wp_region_mixG {P : Program} {id : Nat} {Q : Exit → Act → World → Prop} {a : Act} {w : World} {l : List Oper} (p q : Nat) (segs : List (List Nat × Nat)) (last : List Nat) (hm : P.follows .mixedOrders = true) (hs : Region.noSelect l.toArray = true)
    (hB : mixB .any l.toArray segs last (Array.replicate l.toArray.size false) = true) (hN : mixN segs last = l.toArray.size) (hQ : ∀ c a d v w, Q (.panic c) (a.put d v) w → Q (.panic c) a w)
    (h : mixP P l.toArray (fun w' => ∃ x : GW w p q, w' = x.w) Q segs last a (w.drewN 1)) : (Code.region id l.toArray true).wp P Q a w :=
  wp_region_any hm (any_of_C (C := fun w' => ∃ x : GW w p q, w' = x.w) _ _ _ _ (by
    have := mix_any hs hQ segs last _ a _ (C := fun w' => ∃ x : GW w p q, w' = x.w) ⟨⟨w.drewN 1, Nat.le_refl _, fun k hk _ _ => rfl⟩, rfl⟩ hB h
    rw [hN] at this
    exact this))
theorem GW.set {W W' : World} {p q o : Nat} (h : ∃ x : GW W p q, W' = x.w) (a : Value) : ∃ x : GW W p q, W'.setCell ⟨q, o, none⟩ a = x.w := by
  obtain ⟨⟨W', s, bl⟩, rfl⟩ := h
  exact ⟨⟨_, Nat.le_trans s ((Below.refl q W').setCell (p := ⟨q, o, none⟩) (Nat.le_refl _) a).size, fun k hk h1 h2 => (Below.heap_setCell _ ⟨q, o, none⟩ a k h2).trans (bl k hk h1 h2)⟩, rfl⟩
theorem GW.bl {W W' : World} {p q : Nat} (h : Below W.heap.size W W') : ∃ x : GW W p q, W' = x.w := ⟨⟨W', h.size, fun k hk _ _ => h.block k hk⟩, rfl⟩
end Go.Proofs.YtbochlbgjnmgjaaGreat

/- Layer 15: the reference's coarse and with. -/
set_option maxRecDepth 100000
set_option linter.unusedVariables false
namespace Go.Proofs.YtbochlbgjnmgjaaGreat.Kin
open Go.RowKit Go.Lib Go.Proofs.YtbochlbgjnmgjaaGreat.Utf Go.Proofs.YtbochlbgjnmgjaaGreat.Nam Go.Proofs.YtbochlbgjnmgjaaGreat.Lat

/-- What is wrong, and how many, as a value. -/
abbrev wV (e z m : Int) : Value := .agg #[.int .i64 e, .int .i64 z, .int .i64 m]
end Go.Proofs.YtbochlbgjnmgjaaGreat.Kin

/- Layer 15: the reference's parts. -/
set_option maxRecDepth 100000
set_option linter.unusedVariables false
namespace Go.Proofs.YtbochlbgjnmgjaaGreat.Kin
open Go.RowKit Go.Lib Go.Proofs.YtbochlbgjnmgjaaGreat.Utf Go.Proofs.YtbochlbgjnmgjaaGreat.Nam Go.Proofs.YtbochlbgjnmgjaaGreat.Lat

/-- The contract of Wrong at a tree of these parts. -/
def WrongQ (f : Ft) : Prop := ∀ (h : TH) (nv pv : Value) (m d : Nat) (w : World), m ≤ 512 → d ≤ 25 → GoodH h → f.len ≤ maxLen → f.All GoodH GoodL → RdY w h f nv pv → ∀ R : Ending → World → Prop,
  Hid (∀ w', Below w.heap.size w w' → R (.returned (wV (wrB h f (wrF f) d m).1 (wrB h f (wrF f) d m).2.1 (wrB h f (wrF f) d m).2.2)) w') → Calls Tryz.prog 104 #[wV 0 0 m, tyV h nv pv, .int .i64 d] w R
/-- The boxes of parts. -/
structure RW (V : World) (B : Nat) (m : Nat) (h : TH) (nv pv : Value) : Prop where
  h0 : V.heap[B]? = some (.cells #[.int .i64 0, .int .i64 0, .int .i64 m] 151)
  h1 : TB V (B + 1) h nv pv
  h2 : V.heap[B + 2]? = some (.cells #[.int .i64 0, .int .i64 0, .int .i64 0] 151)
end Go.Proofs.YtbochlbgjnmgjaaGreat.Kin
