/- A slice of pairs of numbers as a list; the reference's Right. -/
import Derived.Test.YtpmpgagggenfiaaFlat
import Derived.Test.YtpmpgagggenfiaaRelS
import Derived.OpenShut
set_option linter.unusedVariables false
namespace Go.Proofs.Ytpmpgagggenfiaa.Rel
open Go.RowKit Go.Lib Go.ChangeShapes Go.WideShapes

abbrev Pq := Int × Int
def encQ (x : Pq) : List Value := [.int .i64 x.1, .int .i64 x.2]
theorem encQ_len (x : Pq) : (encQ x).length = 2 := rfl
abbrev RdQ := RdG encQ 2
def GoodQ (x : Pq) : Prop := (-9223372036854775808 ≤ x.1 ∧ x.1 ≤ 9223372036854775807) ∧ (-9223372036854775808 ≤ x.2 ∧ x.2 ≤ 9223372036854775807)
theorem arg_pairs {H : Type} {enc' : TypeId × Value → H} {W : World} {base : Nat} {v : Value} {d : DataW H} {p : List MemPlace} (hv : Value.okWide Try.prog W .any base 22 v)
    (h : DataW.Trod enc' Try.prog W 0 (fun _ => true) true 22 v d p) : ∃ xs : List Pq, RdQ W v xs ∧ (∀ x ∈ xs, GoodQ x) ∧ (xs = [] ∨ ∃ es sp, d = .slice es sp ∧ es.length = xs.length) := by
  haveI : Inhabited Pq := ⟨(0, 0)⟩
  refine arg_flat encQ_len (by decide) GoodQ Try.underlying22 (by kernel_rfl) hv h fun n cs x hx hl => ?_
  obtain ⟨ys, m, -, -, -, hys, hf⟩ := DataW.trod_array Try.underlying23 hx
  match ys, hys, cs, hl with
  | [y0, y1], _, [v0, v1], _ =>
    have g0 := hf 0 (by decide)
    have g1 := hf 1 (by decide)
    have c3 : Try.prog.cellsOf 3 = 1 := by kernel_rfl
    simp [c3] at g0 g1
    obtain ⟨n0, h0, -, w0⟩ := DataW.trod_int Try.underlying3 g0
    obtain ⟨n1, h1, -, w1⟩ := DataW.trod_int Try.underlying3 g1
    simp at h0 h1
    subst h0 h1
    exact ⟨(n0, n1), rfl, wf64 w0, wf64 w1⟩
abbrev pqN (xs : List Pq) (i : Nat) : Pq := xs.getD i (0, 0)
theorem pqN_get {xs : List Pq} {i : Nat} (h : i < xs.length) : pqN xs i = xs[i] := by simp [pqN, List.getD, List.getElem?_eq_getElem h]
theorem pqN_mem {xs : List Pq} {i : Nat} (h : i < xs.length) : pqN xs i ∈ xs := by rw [pqN_get h]; exact List.getElem_mem h
theorem RdQ.op {w : World} {v : Value} {xs : List Pq} (h : RdQ w v xs) : ∃ (A : Option Addr) (c : Nat), v = .slice A xs.length c ∧ xs.length ≤ c ∧
    (0 < xs.length → ∃ g o, A = some ⟨g, o, none⟩ ∧ g < w.heap.size ∧ ∀ i, i < xs.length → w.cell? ⟨g, o + i * 2, none⟩ = some (.int .i64 (pqN xs i).1) ∧ w.cell? ⟨g, o + i * 2 + 1, none⟩ = some (.int .i64 (pqN xs i).2)) := by
  obtain ⟨A, c, rfl, hc, hr⟩ := RdG.open encQ_len (by decide) h
  refine ⟨A, c, rfl, hc, fun h0 => ?_⟩
  obtain ⟨g, o, rfl, hg, hca⟩ := hr h0
  refine ⟨g, o, rfl, hg, fun i hi => ?_⟩
  rw [pqN_get hi]
  exact ⟨hca i hi 0 (by decide), hca i hi 1 (by decide)⟩
/-- n things, and pairs of their numbers. -/
def RightQ (n : Int) (xs : List Pq) : Prop := (0 ≤ n ∧ n ≤ 64) ∧ ∀ x ∈ xs, (0 ≤ x.1 ∧ x.1 < n) ∧ (0 ≤ x.2 ∧ x.2 < n)
instance (n : Int) (xs : List Pq) : Decidable (RightQ n xs) := by unfold RightQ; infer_instance
/-- The pairs as pairs of natural numbers. -/
def toN (xs : List Pq) : List (Nat × Nat) := xs.map fun x => (x.1.toNat, x.2.toNat)
theorem toN_in {n : Nat} {xs : List Pq} (h : RightQ n xs) : InR n (toN xs) := fun p hp => by
  obtain ⟨x, hx, rfl⟩ := List.mem_map.1 hp
  have := h.2 x hx
  simp only
  omega

set_option maxRecDepth 100000 in
set_option maxHeartbeats 1000000 in
theorem refright_pairs (n : Int) (xs : List Pq) (v : Value) (w : World) (hx : RdQ w v xs) (hl : xs.length ≤ maxLen) (R : Ending → World → Prop)
    (hR : Hid (∀ w', Below w.heap.size w w' → R (.returned (.bool (decide (RightQ n xs)))) w')) : Calls Try.prog 11 #[.int .i64 n, v] w R := by
  obtain ⟨A, c, rfl, hlc, hr⟩ := hx.op
  replace hr := Lib.hid hr
  replace hl : xs.length ≤ 9223372036854775807 := hl
  clear hx
  by_cases h0 : n < 0
  · rw [decide_eq_false (fun h => by have := h.1; omega)] at hR
    go_enter Try.func11, Try.ntmps11
    go_wp2_with fail
    exact hR.out _ (Below.refl _ _)
  by_cases h1 : 64 < n
  · rw [decide_eq_false (fun h => by have := h.1; omega)] at hR
    go_enter Try.func11, Try.ntmps11
    go_wp2_with fail
    exact hR.out _ (Below.refl _ _)
  go_enter Try.func11, Try.ntmps11
  go_wp2_with fail
  go_loopg [5] xs.length (fun k i wr => ∃ (K : Nat), Below w.heap.size w wr ∧ i = .int .i64 K ∧ K + k = xs.length ∧ Hid (∀ j, j < K → (0 ≤ (pqN xs j).1 ∧ (pqN xs j).1 < n) ∧ (0 ≤ (pqN xs j).2 ∧ (pqN xs j).2 < n)))
  case atStart => exact ⟨0, Below.refl _ _, rfl, by omega, Lib.hid fun j h => by omega⟩
  case round =>
    obtain ⟨K, hbel, rfl, c1, c2⟩ := hrel
    have hsz := hbel.size
    by_cases hK : K < xs.length
    · obtain ⟨g, o, rfl, hg1, hca⟩ := hr.out (by omega)
      obtain ⟨a0, a1⟩ := hca K hK
      have e0 := (hbel.cell (p := ⟨g, o + K * 2, none⟩) hg1).trans a0
      have e1 := (hbel.cell (p := ⟨g, o + K * 2 + 1, none⟩) hg1).trans a1
      have hbad : ¬ ((0 ≤ (pqN xs K).1 ∧ (pqN xs K).1 < n) ∧ (0 ≤ (pqN xs K).2 ∧ (pqN xs K).2 < n)) → decide (RightQ n xs) = false := fun h => decide_eq_false fun q => h (q.2 _ (pqN_mem hK))
      have hgood : ((0 ≤ (pqN xs K).1 ∧ (pqN xs K).1 < n) ∧ (0 ≤ (pqN xs K).2 ∧ (pqN xs K).2 < n)) → ∀ j, j < K + 1 → (0 ≤ (pqN xs j).1 ∧ (pqN xs j).1 < n) ∧ (0 ≤ (pqN xs j).2 ∧ (pqN xs j).2 < n) := fun h j hj => by
        rcases Nat.eq_or_lt_of_le (Nat.le_of_lt_succ hj) with e | q
        · subst e; exact h
        · exact c2.out j q
      clear hca a0 a1 c2
      generalize pqN xs K = x at *
      obtain ⟨a, b⟩ := x
      simp only at e0 e1 hbad hgood
      have nW := Lib.hid (hbel.alloc hsz (.cells #[.int .i64 a, .int .i64 b] 23))
      by_cases q : (0 ≤ a ∧ a < n) ∧ (0 ≤ b ∧ b < n)
      · have hg := Lib.hid (hgood q)
        obtain ⟨⟨q1, q2⟩, q3, q4⟩ := q
        clear hbad hgood
        go_wp2_with fail
        go_roundg (gk - 1)
        case measure => omega
        case rel => exact ⟨K + 1, nW.out, by go_num, by omega, hg⟩
      · rw [hbad q] at hR
        clear hbad hgood
        have hc : a < 0 ∨ (0 ≤ a ∧ b < 0) ∨ (0 ≤ a ∧ 0 ≤ b ∧ n ≤ a) ∨ (0 ≤ a ∧ 0 ≤ b ∧ a < n ∧ n ≤ b) := by omega
        clear q
        rcases hc with h | ⟨h, h'⟩ | ⟨h, h', h''⟩ | ⟨h, h', h'', h'''⟩
        all_goals
          go_wp2_with fail
          exact hR.out _ nW.out
    · have e : decide (RightQ n xs) = true := decide_eq_true ⟨by omega, fun x hx => by
        obtain ⟨i, hi, e⟩ := List.getElem_of_mem hx
        rw [← e, ← pqN_get hi]
        exact c2.out i (by omega)⟩
      rw [e] at hR
      clear c2
      go_wp2_with fail
      exact hR.out _ hbel
end Go.Proofs.Ytpmpgagggenfiaa.Rel
