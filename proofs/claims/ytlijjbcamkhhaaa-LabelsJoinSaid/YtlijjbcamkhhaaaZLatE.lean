/- The chapter's example of layer 11: its levels in memory; lives. -/
import Derived.Test.YtlijjbcamkhhaaaZLatX
import Derived.Test.YtlijjbcamkhhaaaCls
import Derived.BigRegion
import Derived.Laws.StructEq
set_option maxRecDepth 100000
set_option linter.unusedVariables false
namespace Go.Proofs.Ytlijjbcamkhhaaa.Lat
open Go.RowKit Go.Lib Go.Proofs.Ytlijjbcamkhhaaa.Rel Go.Proofs.Ytlijjbcamkhhaaa.Nam

def nLow : ByteArray := ⟨#[108, 111, 119]⟩
def nA : ByteArray := ⟨#[97]⟩
def nB : ByteArray := ⟨#[98]⟩
def nHigh : ByteArray := ⟨#[104, 105, 103, 104]⟩
def dW : List Wr := [(nLow, 0), (nA, 0), (nB, 0), (nHigh, 0)]
def dP : List Pr := [((nLow, 0), (nA, 0)), ((nLow, 0), (nB, 0)), ((nA, 0), (nHigh, 0)), ((nB, 0), (nHigh, 0))]
theorem dia_ok : wrongS dW dP = (0, 0) := by decide +kernel
theorem dia_fine : Fine dW dP := (wrong_ok (by rw [dia_ok])).2
theorem dia_join : joinS 4 (leqF dW dP) 1 2 = 3 := by decide +kernel
theorem dia_meet : joinS 4 (flp (leqF dW dP)) 1 2 = 0 := by decide +kernel
theorem dia_top : ∀ a, a < 4 → leqF dW dP a 3 = true := by decide +kernel

theorem four_words (w : World) : Below w.heap.size w ((((w.alloc (.cells #[.string nLow, .int .i64 0] 45)).alloc (.cells #[.string nA, .int .i64 0] 45)).alloc (.cells #[.string nB, .int .i64 0] 45)).alloc (.cells #[.string nHigh, .int .i64 0] 45)) ∧ ((((w.alloc (.cells #[.string nLow, .int .i64 0] 45)).alloc (.cells #[.string nA, .int .i64 0] 45)).alloc (.cells #[.string nB, .int .i64 0] 45)).alloc (.cells #[.string nHigh, .int .i64 0] 45)).heap.size = w.heap.size + 4 ∧
    ((((w.alloc (.cells #[.string nLow, .int .i64 0] 45)).alloc (.cells #[.string nA, .int .i64 0] 45)).alloc (.cells #[.string nB, .int .i64 0] 45)).alloc (.cells #[.string nHigh, .int .i64 0] 45)).cell? ⟨w.heap.size, 0, none⟩ = some (.string nLow) ∧
    ((((w.alloc (.cells #[.string nLow, .int .i64 0] 45)).alloc (.cells #[.string nA, .int .i64 0] 45)).alloc (.cells #[.string nB, .int .i64 0] 45)).alloc (.cells #[.string nHigh, .int .i64 0] 45)).cell? ⟨w.heap.size, 1, none⟩ = some (.int .i64 0) ∧
    ((((w.alloc (.cells #[.string nLow, .int .i64 0] 45)).alloc (.cells #[.string nA, .int .i64 0] 45)).alloc (.cells #[.string nB, .int .i64 0] 45)).alloc (.cells #[.string nHigh, .int .i64 0] 45)).cell? ⟨w.heap.size + 1, 0, none⟩ = some (.string nA) ∧
    ((((w.alloc (.cells #[.string nLow, .int .i64 0] 45)).alloc (.cells #[.string nA, .int .i64 0] 45)).alloc (.cells #[.string nB, .int .i64 0] 45)).alloc (.cells #[.string nHigh, .int .i64 0] 45)).cell? ⟨w.heap.size + 1, 1, none⟩ = some (.int .i64 0) ∧
    ((((w.alloc (.cells #[.string nLow, .int .i64 0] 45)).alloc (.cells #[.string nA, .int .i64 0] 45)).alloc (.cells #[.string nB, .int .i64 0] 45)).alloc (.cells #[.string nHigh, .int .i64 0] 45)).cell? ⟨w.heap.size + 1 + 1, 0, none⟩ = some (.string nB) ∧
    ((((w.alloc (.cells #[.string nLow, .int .i64 0] 45)).alloc (.cells #[.string nA, .int .i64 0] 45)).alloc (.cells #[.string nB, .int .i64 0] 45)).alloc (.cells #[.string nHigh, .int .i64 0] 45)).cell? ⟨w.heap.size + 1 + 1, 1, none⟩ = some (.int .i64 0) ∧
    ((((w.alloc (.cells #[.string nLow, .int .i64 0] 45)).alloc (.cells #[.string nA, .int .i64 0] 45)).alloc (.cells #[.string nB, .int .i64 0] 45)).alloc (.cells #[.string nHigh, .int .i64 0] 45)).cell? ⟨w.heap.size + 1 + 1 + 1, 0, none⟩ = some (.string nHigh) ∧
    ((((w.alloc (.cells #[.string nLow, .int .i64 0] 45)).alloc (.cells #[.string nA, .int .i64 0] 45)).alloc (.cells #[.string nB, .int .i64 0] 45)).alloc (.cells #[.string nHigh, .int .i64 0] 45)).cell? ⟨w.heap.size + 1 + 1 + 1, 1, none⟩ = some (.int .i64 0) := by
  refine ⟨?_, by simp, ?_⟩
  · have u1 := (Below.refl w.heap.size w).alloc (Nat.le_refl _) (.cells #[.string nLow, .int .i64 0] 45)
    exact ((u1.alloc u1.size _).alloc (by simp; omega) _).alloc (by simp; omega) _
  · refine ⟨?_, ?_, ?_, ?_, ?_, ?_, ?_, ?_⟩ <;> simp [go_sem]
/-- A slice over a block that was just made. -/
theorem rd_new (W : World) (us : Array Value) (t : TypeId) (k n : Nat) (h : us.size = n * k) : RdAt (W.alloc (.cells us t)) (.slice (some ⟨W.heap.size, 0, none⟩) n n) k us.toList :=
  ⟨_, n, n, rfl, by simpa using h, Nat.le_refl _, fun _ => ⟨W.heap.size, 0, rfl, by simp, fun j u hj => by
    have := cells_new W us t j u hj
    rwa [show (⟨W.heap.size, 0, none⟩ : Addr).add j = ⟨W.heap.size, 0 + j, none⟩ by unfold Addr.add; split <;> simp_all] at this⟩⟩
theorem two_below {B : Nat} {w W : World} (h : Below B w W) (hB : B ≤ W.heap.size) (a b : Obj) : Below B w ((W.alloc a).alloc b).drew := ((h.alloc hB a).alloc (by simp; omega) b).drew
theorem alloc_lt {W : World} (o : Obj) {g : Nat} (hg : g < W.heap.size) : g < (W.alloc o).heap.size := by simp; omega
theorem alloc_cell {W : World} (o : Obj) {g x : Nat} {u : Value} (hg : g < W.heap.size) (hc : W.cell? ⟨g, x, none⟩ = some u) : (W.alloc o).cell? ⟨g, x, none⟩ = some u := (((Below.refl W.heap.size W).alloc (Nat.le_refl _) o).cell (p := ⟨g, x, none⟩) hg).trans hc
end Go.Proofs.Ytlijjbcamkhhaaa.Lat
