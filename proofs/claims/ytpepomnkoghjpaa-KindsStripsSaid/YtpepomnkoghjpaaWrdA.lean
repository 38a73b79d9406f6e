/- Words in memory. -/
import Derived.Test.YtpepomnkoghjpaaWrdS
import Derived.Test.YtpepomnkoghjpaaTre
import Derived.ChangeArms
set_option maxRecDepth 100000
set_option linter.unusedVariables false
namespace Go.Proofs.Ytpepomnkoghjpaa.Lat
open Go.RowKit Go.Lib Go.Proofs.Ytpepomnkoghjpaa.Nam Go.ChangeShapes Go.WideShapes

def encW (x : Wr) : List Value := [.string x.1, .int .i64 x.2]
theorem encW_len (x : Wr) : (encW x).length = 2 := rfl
abbrev RdW := RdG encW 2
def GoodW (x : Wr) : Prop := x.1.size ≤ maxLen ∧ -9223372036854775808 ≤ x.2 ∧ x.2 ≤ 9223372036854775807
instance (x : Wr) : Decidable (GoodW x) := by unfold GoodW; infer_instance
theorem arg_words {H : Type} {enc' : TypeId × Value → H} {W : World} {base : Nat} {v : Value} {d : DataW H} {p : List MemPlace} (hv : Value.okWide Try.prog W .any base 22 v)
    (h : DataW.Trod enc' Try.prog W 0 (fun _ => true) true 22 v d p) : ∃ xs : List Wr, RdW W v xs ∧ (∀ x ∈ xs, GoodW x) ∧ (xs = [] ∨ ∃ es sp, d = .slice es sp ∧ es.length = xs.length) := by
  refine arg_flat encW_len (by decide) GoodW Try.underlying22 (by kernel_rfl) hv h fun n cs x hx hl => ?_
  obtain ⟨ys, m, -, -, -, hys, hf⟩ := DataW.trod_struct Try.underlying25 hx
  match ys, hys, cs, hl with
  | [y0, y1], _, [v0, v1], _ =>
    have g0 := hf 0 _ rfl
    have g1 := hf 1 _ rfl
    have c3 : Try.prog.cellsOf 3 = 1 := by kernel_rfl
    have c9 : Try.prog.cellsOf 9 = 1 := by kernel_rfl
    simp [c3, c9] at g0 g1
    obtain ⟨s0, h0, -, w0⟩ := DataW.trod_string Try.underlying9 g0
    obtain ⟨n1, h1, -, w1⟩ := DataW.trod_int Try.underlying3 g1
    simp at h0 h1
    subst h0 h1
    exact ⟨(s0, n1), rfl, w0, wf64 w1⟩
theorem RdW.op {w : World} {v : Value} {xs : List Wr} (h : RdW w v xs) : ∃ (A : Option Addr) (c : Nat), v = .slice A xs.length c ∧ xs.length ≤ c ∧
    (0 < xs.length → ∃ g o, A = some ⟨g, o, none⟩ ∧ g < w.heap.size ∧ ∀ i, i < xs.length → w.cell? ⟨g, o + i * 2, none⟩ = some (.string (wN xs i).1) ∧ w.cell? ⟨g, o + i * 2 + 1, none⟩ = some (.int .i64 (wN xs i).2)) := by
  obtain ⟨A, c, rfl, hc, hr⟩ := RdG.open encW_len (by decide) h
  refine ⟨A, c, rfl, hc, fun h0 => ?_⟩
  obtain ⟨g, o, rfl, hg, hca⟩ := hr h0
  refine ⟨g, o, rfl, hg, fun i hi => ?_⟩
  rw [wN_get hi]
  exact ⟨hca i hi 0 (by decide), hca i hi 1 (by decide)⟩
theorem RdW.kp {w w' : World} (hk : Kp w w') {v : Value} {xs : List Wr} (h : RdW w v xs) : RdW w' v xs := RdAt.kp hk h
/-- Words inside what came in. -/
theorem words_in {G : Type} {enc' : TypeId × Value → G} {W : World} {bs f : Nat} {v : Value} {x : DataW G × List MemPlace} (h : DataW.trod enc' Try.prog W bs (fun _ => true) true f 22 [v] = some x) :
    ∃ xs : List Wr, RdW W v xs ∧ (∀ x ∈ xs, GoodW x) ∧ xs.length ≤ maxLen := by
  refine flat_in encW_len (by decide) GoodW Try.underlying22 (by kernel_rfl) h fun n cs x hx hl => ?_
  obtain ⟨ys, m, -, -, -, hys, hf⟩ := DataW.trod_struct Try.underlying25 hx
  match ys, hys, cs, hl with
  | [y0, y1], _, [v0, v1], _ =>
    have g0 := hf 0 _ rfl
    have g1 := hf 1 _ rfl
    have c3 : Try.prog.cellsOf 3 = 1 := by kernel_rfl
    have c9 : Try.prog.cellsOf 9 = 1 := by kernel_rfl
    simp [c3, c9] at g0 g1
    obtain ⟨s0, h0, -, w0⟩ := DataW.trod_string Try.underlying9 g0
    obtain ⟨n1, h1, -, w1⟩ := DataW.trod_int Try.underlying3 g1
    simp at h0 h1
    subst h0 h1
    exact ⟨(s0, n1), rfl, w0, wf64 w1⟩
end Go.Proofs.Ytpepomnkoghjpaa.Lat
