/- RelCloses: plain facts that its walk needs (the loop that looks for the pair; what a closure holds), and the equality of two [2]int arrays. -/
import Derived.Test.YtpmpgagggenfiaaRelW
import Derived.Laws.StructEq
import Derived.Deep.DeepCutAuto
import Derived.ChangeKeysEq
set_option linter.unusedVariables false
namespace Go.Proofs.Ytpmpgagggenfiaa.Rel
open Go.RowKit Go.Lib

theorem toN_mem {n : Int} {xs : List Pq} (hr : RightQ n xs) (q0 q1 : Int) : hasQ (toN xs) q0 q1 = true ↔ (q0, q1) ∈ xs := by
  rw [hasQ_iff]
  unfold toN
  constructor
  · rintro ⟨h0, h1, hm⟩
    obtain ⟨⟨a, b⟩, hx, e⟩ := List.mem_map.1 hm
    have := hr.2 _ hx
    simp only [Prod.mk.injEq] at e this
    have e0 : a = q0 := by omega
    have e1 : b = q1 := by omega
    subst e0 e1; exact hx
  · intro hx
    have := hr.2 _ hx
    exact ⟨this.1.1, this.2.1, List.mem_map.2 ⟨_, hx, rfl⟩⟩
/-- Has the loop found the pair among the first K? -/
def Found (xs : List Pq) (q : Pq) (K : Nat) (b : Bool) : Prop := b = true ↔ ∃ j, j < K ∧ pqN xs j = q
theorem Found.next {xs : List Pq} {q : Pq} {K : Nat} {b : Bool} (h : Found xs q K b) : Found xs q (K + 1) (b || decide (pqN xs K = q)) := by
  unfold Found at *
  rw [Bool.or_eq_true, h, decide_eq_true_iff]
  constructor
  · rintro (⟨j, h1, h2⟩ | h)
    · exact ⟨j, by omega, h2⟩
    · exact ⟨K, by omega, h⟩
  · rintro ⟨j, h1, h2⟩
    rcases Nat.eq_or_lt_of_le (Nat.le_of_lt_succ h1) with e | h1
    · subst e; exact .inr h2
    · exact .inl ⟨j, h1, h2⟩
theorem Found.fin {n : Int} {xs : List Pq} (hr : RightQ n xs) {q0 q1 : Int} {b : Bool} (h : Found xs (q0, q1) xs.length b) : hasQ (toN xs) q0 q1 = b := by
  unfold Found at h
  rw [Bool.eq_iff_iff, toN_mem hr, h]
  constructor
  · intro hx
    obtain ⟨i, hi, e⟩ := List.getElem_of_mem hx
    exact ⟨i, hi, by rw [pqN_get hi, e]⟩
  · rintro ⟨j, h1, h2⟩
    rw [← h2]; exact pqN_mem h1
/-- The pair of a closure that is asked for. -/
theorem clo_in_has {N : Nat} {P : List (Nat × Nat)} {q0 q1 : Int} : hasQ (cloL N P) q0 q1 = (decide (0 ≤ q0 ∧ q0 < N ∧ 0 ≤ q1 ∧ q1 < N) && ld N P q0.toNat q1.toNat) := by
  rw [Bool.eq_iff_iff, hasQ_iff, clo_mem, Bool.and_eq_true, decide_eq_true_iff]
  constructor
  · rintro ⟨h0, h1, h2, h3, h4⟩; exact ⟨⟨h0, by omega, h1, by omega⟩, h4⟩
  · rintro ⟨⟨h0, h1, h2, h3⟩, h4⟩; exact ⟨h0, h2, by omega, by omega, h4⟩

/-- Two arrays of two whole numbers, compared. -/
@[go_sem] theorem run_equalIn_two (W : World) (a b c d : Int) : (Op.equalIn 10000 23 (.agg #[.int .i64 a, .int .i64 b]) (.agg #[.int .i64 c, .int .i64 d])).run Try.prog W = .ok (a == c && b == d) W := by
  rw [run_equalIn_array W 9999 (e := 3) (n := 2) (hu := rfl) (hi := rfl)]
  have h0 : ∀ (x y : Int), (part 3 #[.int .i64 x, .int .i64 y] (0 * Try.prog.cellsOf 3)).run Try.prog W = .ok (.int .i64 x) W := fun x y => run_part_plain W rfl rfl
  have h1 : ∀ (x y : Int), (part 3 #[.int .i64 x, .int .i64 y] (Try.prog.cellsOf 3)).run Try.prog W = .ok (.int .i64 y) W := fun x y => run_part_plain W rfl rfl
  have he : ∀ (x y : Int), (Op.equalIn 9999 3 (.int .i64 x) (.int .i64 y)).run Try.prog W = .ok (x == y) W := fun x y => run_equalIn_int W 9998 _ _ .i64 x y rfl
  rw [show List.range 2 = [0, 1] from rfl]
  simp only [Op.eqItems, Sem.run_bind, h0, he, Result.andThen_ok, Nat.one_mul]
  cases ha : a == c <;> cases hb : b == d <;> simp [Sem.run_bind, Sem.run_pure, h1, he, hb]
end Go.Proofs.Ytpmpgagggenfiaa.Rel
