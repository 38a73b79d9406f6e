/- A slice of pairs of numbers as a list; the reference's Right. -/
import Derived.Test.YtoeianacjnlepaaFlat
import Derived.Test.YtoeianacjnlepaaRelS
import Derived.OpenShut
set_option maxRecDepth 100000
set_option linter.unusedVariables false
namespace Go.Proofs.Ytoeianacjnlepaa.Rel
open Go.RowKit Go.Lib Go.ChangeShapes Go.WideShapes

abbrev Pq := Int × Int
abbrev Bd (n : Int) : Prop := -9223372036854775808 ≤ n ∧ n ≤ 9223372036854775807
def encQ (x : Pq) : List Value := [.int .i64 x.1, .int .i64 x.2]
theorem encQ_len (x : Pq) : (encQ x).length = 2 := rfl
abbrev RdQ := RdG encQ 2
def GoodQ (x : Pq) : Prop := (-9223372036854775808 ≤ x.1 ∧ x.1 ≤ 9223372036854775807) ∧ (-9223372036854775808 ≤ x.2 ∧ x.2 ≤ 9223372036854775807)
theorem arg_pairs {H : Type} {enc' : TypeId × Value → H} {W : World} {base : Nat} {v : Value} {d : DataW H} {p : List MemPlace} (hv : Value.okWide Try.prog W .any base 67 v)
    (h : DataW.Trod enc' Try.prog W 0 (fun _ => true) true 67 v d p) : ∃ xs : List Pq, RdQ W v xs ∧ (∀ x ∈ xs, GoodQ x) ∧ (xs = [] ∨ ∃ es sp, d = .slice es sp ∧ es.length = xs.length) := by
  haveI : Inhabited Pq := ⟨(0, 0)⟩
  refine arg_flat encQ_len (by decide) GoodQ Try.underlying67 (by kernel_rfl) hv h fun n cs x hx hl => ?_
  obtain ⟨ys, m, -, -, -, hys, hf⟩ := DataW.trod_array Try.underlying90 hx
  match ys, hys, cs, hl with
  | [y0, y1], _, [v0, v1], _ =>
    have g0 := hf 0 (by decide)
    have g1 := hf 1 (by decide)
    have c3 : Try.prog.cellsOf 3 = 1 := by kernel_rfl
    simp [c3] at g0 g1
    obtain ⟨n0, h0, -, w0⟩ := DataW.trod_int Try.underlying3 g0
    obtain ⟨n1, h1, -, w1⟩ := DataW.trod_int Try.underlying3 g1
    simp at h0 h1
    subst h0 h1
    exact ⟨(n0, n1), rfl, wf64 w0, wf64 w1⟩
abbrev pqN (xs : List Pq) (i : Nat) : Pq := xs.getD i (0, 0)
theorem pqN_get {xs : List Pq} {i : Nat} (h : i < xs.length) : pqN xs i = xs[i] := by simp [pqN, List.getD, List.getElem?_eq_getElem h]
theorem pqN_mem {xs : List Pq} {i : Nat} (h : i < xs.length) : pqN xs i ∈ xs := by rw [pqN_get h]; exact List.getElem_mem h
theorem RdQ.op {w : World} {v : Value} {xs : List Pq} (h : RdQ w v xs) : ∃ (A : Option Addr) (c : Nat), v = .slice A xs.length c ∧ xs.length ≤ c ∧
    (0 < xs.length → ∃ g o, A = some ⟨g, o, none⟩ ∧ g < w.heap.size ∧ ∀ i, i < xs.length → w.cell? ⟨g, o + i * 2, none⟩ = some (.int .i64 (pqN xs i).1) ∧ w.cell? ⟨g, o + i * 2 + 1, none⟩ = some (.int .i64 (pqN xs i).2)) := by
  obtain ⟨A, c, rfl, hc, hr⟩ := RdG.open encQ_len (by decide) h
  refine ⟨A, c, rfl, hc, fun h0 => ?_⟩
  obtain ⟨g, o, rfl, hg, hca⟩ := hr h0
  refine ⟨g, o, rfl, hg, fun i hi => ?_⟩
  rw [pqN_get hi]
  exact ⟨hca i hi 0 (by decide), hca i hi 1 (by decide)⟩
/-- n things, and pairs of their numbers. -/
def RightQ (n : Int) (xs : List Pq) : Prop := (0 ≤ n ∧ n ≤ 64) ∧ ∀ x ∈ xs, (0 ≤ x.1 ∧ x.1 < n) ∧ (0 ≤ x.2 ∧ x.2 < n)
instance (n : Int) (xs : List Pq) : Decidable (RightQ n xs) := by unfold RightQ; infer_instance
/-- The pairs as pairs of natural numbers. -/
def toN (xs : List Pq) : List (Nat × Nat) := xs.map fun x => (x.1.toNat, x.2.toNat)
theorem toN_in {n : Nat} {xs : List Pq} (h : RightQ n xs) : InR n (toN xs) := fun p hp => by
  obtain ⟨x, hx, rfl⟩ := List.mem_map.1 hp
  have := h.2 x hx
  simp only
  omega

end Go.Proofs.Ytoeianacjnlepaa.Rel
