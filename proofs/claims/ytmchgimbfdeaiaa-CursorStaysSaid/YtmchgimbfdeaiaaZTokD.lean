/- Layer 13: the reference's Scan. -/
import Derived.Test.YtmchgimbfdeaiaaZTokC
import Derived.Test.YtmchgimbfdeaiaaFltK
import Derived.Test.YtmchgimbfdeaiaaZCelR
set_option maxRecDepth 100000
set_option linter.unusedVariables false
namespace Go.Proofs.Ytmchgimbfdeaiaa.Tok
open Go.RowKit Go.Lib Go.Proofs.Ytmchgimbfdeaiaa.Utf Go.Proofs.Ytmchgimbfdeaiaa.Ran Go.Proofs.Ytmchgimbfdeaiaa.Cel Go.Proofs.Ytmchgimbfdeaiaa.Esc Go.Proofs.Ytmchgimbfdeaiaa.Dig Go.Proofs.Ytmchgimbfdeaiaa.Nam Go.Proofs.Ytmchgimbfdeaiaa.Pat

theorem boxes_tf (w : World) (a b c : Int) (x : ByteArray) (d e z : Int) :
    let W := (w.alloc (.cells #[.int .i64 a, .int .i64 b, .int .i64 c, .string x, .int .i64 d] 27)).alloc (.cells #[.int .i64 e, .int .i64 z] 35)
    W.cell? ⟨w.heap.size, 0, none⟩ = some (.int .i64 a) ∧ W.cell? ⟨w.heap.size, 1, none⟩ = some (.int .i64 b) ∧ W.cell? ⟨w.heap.size, 2, none⟩ = some (.int .i64 c) ∧ W.cell? ⟨w.heap.size, 3, none⟩ = some (.string x) ∧ W.cell? ⟨w.heap.size, 4, none⟩ = some (.int .i64 d) ∧
    W.cell? ⟨w.heap.size + 1, 0, none⟩ = some (.int .i64 e) ∧ W.cell? ⟨w.heap.size + 1, 1, none⟩ = some (.int .i64 z) := by
  intro W
  obtain ⟨q1, q2⟩ := heap_two w (.cells #[.int .i64 a, .int .i64 b, .int .i64 c, .string x, .int .i64 d] 27) (.cells #[.int .i64 e, .int .i64 z] 35)
  refine ⟨?_, ?_, ?_, ?_, ?_, ?_, ?_⟩
  · rw [Lib.cell_of_heap q1]; rfl
  · rw [Lib.cell_of_heap q1]; rfl
  · rw [Lib.cell_of_heap q1]; rfl
  · rw [Lib.cell_of_heap q1]; rfl
  · rw [Lib.cell_of_heap q1]; rfl
  · rw [Lib.cell_of_heap q2]; rfl
  · rw [Lib.cell_of_heap q2]; rfl
/-- A slice's row lies at b or behind. -/
def FrV (b : Nat) (v : Value) : Prop := ∀ g o n c, v = .slice (some ⟨g, o, none⟩) n c → b ≤ g
theorem FrV.of_own {w : World} {base : Nat} {e : TypeId} {k n : Nat} {v : Value} {xs : List Value} (h : w.ownsRow base e k v n xs) : FrV base v := by
  obtain ⟨hl, ⟨rfl, rfl⟩ | ⟨g, cap, cur, rfl, hb, -⟩⟩ := h
  · intro g o n c h
    cases h
  · intro g' o n c h
    cases h
    exact hb
end Go.Proofs.Ytmchgimbfdeaiaa.Tok
