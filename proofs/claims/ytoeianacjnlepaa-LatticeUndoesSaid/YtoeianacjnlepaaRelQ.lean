/- Arrays of two and of three whole numbers that come in by value. -/
import Derived.Test.YtoeianacjnlepaaRelA
set_option maxRecDepth 100000
set_option linter.unusedVariables false
namespace Go.Proofs.Ytoeianacjnlepaa.Rel
open Go.RowKit Go.Lib Go.ChangeShapes Go.WideShapes

theorem arg_arr2 {H : Type} {enc' : TypeId × Value → H} {W : World} {base : Nat} {v : Value} {d : DataW H} {p : List MemPlace} (hv : Value.okWide Try.prog W .any base 90 v)
    (h : DataW.Trod enc' Try.prog W 0 (fun _ => true) true 90 v d p) : ∃ q : Int × Int, v = .agg #[.int .i64 q.1, .int .i64 q.2] ∧ Bd q.1 ∧ Bd q.2 := by
  unfold Value.okWide at hv
  rw [Try.underlying90] at hv
  obtain ⟨cs, rfl, hs, -⟩ := hv
  have c2 : Try.prog.cellsOf 90 = 2 := by kernel_rfl
  have c3 : Try.prog.cellsOf 3 = 1 := by kernel_rfl
  rw [c2] at hs
  obtain ⟨fuel, hf⟩ := h
  obtain ⟨ys, m, -, -, -, hys, hg⟩ := DataW.trod_array Try.underlying90 hf
  obtain ⟨l⟩ := cs
  match ys, hys, l, hs with
  | [y0, y1], _, [v0, v1], _ =>
    have g0 := hg 0 (by decide)
    have g1 := hg 1 (by decide)
    simp [c3, Value.cells] at g0 g1
    obtain ⟨n0, h0, -, w0⟩ := DataW.trod_int Try.underlying3 g0
    obtain ⟨n1, h1, -, w1⟩ := DataW.trod_int Try.underlying3 g1
    simp at h0 h1
    subst h0 h1
    exact ⟨(n0, n1), rfl, wf64 w0, wf64 w1⟩
theorem arg_arr3 {H : Type} {enc' : TypeId × Value → H} {W : World} {base : Nat} {v : Value} {d : DataW H} {p : List MemPlace} (hv : Value.okWide Try.prog W .any base 55 v)
    (h : DataW.Trod enc' Try.prog W 0 (fun _ => true) true 55 v d p) : ∃ q : Int × Int × Int, v = .agg #[.int .i64 q.1, .int .i64 q.2.1, .int .i64 q.2.2] ∧ Bd q.1 ∧ Bd q.2.1 ∧ Bd q.2.2 := by
  unfold Value.okWide at hv
  rw [Try.underlying55] at hv
  obtain ⟨cs, rfl, hs, -⟩ := hv
  have c2 : Try.prog.cellsOf 55 = 3 := by kernel_rfl
  have c3 : Try.prog.cellsOf 3 = 1 := by kernel_rfl
  rw [c2] at hs
  obtain ⟨fuel, hf⟩ := h
  obtain ⟨ys, m, -, -, -, hys, hg⟩ := DataW.trod_array Try.underlying55 hf
  obtain ⟨l⟩ := cs
  match ys, hys, l, hs with
  | [y0, y1, y2], _, [v0, v1, v2], _ =>
    have g0 := hg 0 (by decide)
    have g1 := hg 1 (by decide)
    have g2 := hg 2 (by decide)
    simp [c3, Value.cells] at g0 g1 g2
    obtain ⟨n0, h0, -, w0⟩ := DataW.trod_int Try.underlying3 g0
    obtain ⟨n1, h1, -, w1⟩ := DataW.trod_int Try.underlying3 g1
    obtain ⟨n2, h2, -, w2⟩ := DataW.trod_int Try.underlying3 g2
    simp at h0 h1 h2
    subst h0 h1 h2
    exact ⟨(n0, n1, n2), rfl, wf64 w0, wf64 w1, wf64 w2⟩
end Go.Proofs.Ytoeianacjnlepaa.Rel
