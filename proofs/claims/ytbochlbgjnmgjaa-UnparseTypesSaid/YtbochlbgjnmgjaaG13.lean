import Derived.Test.YtbochlbgjnmgjaaG7
import Derived.Test.YtbochlbgjnmgjaaLibB
/- The reference's Put, isDigit, great, Take, Floor. -/
set_option maxRecDepth 100000
set_option linter.unusedVariables false
namespace Go.Proofs.Ytbochlbgjnmgjaa.Dig
open Go.RowKit Go.Lib Go.Proofs.Ytbochlbgjnmgjaa.Utf

end Go.Proofs.Ytbochlbgjnmgjaa.Dig

/- The reference's Put, Floor. -/
set_option maxRecDepth 100000
set_option linter.unusedVariables false
namespace Go.Proofs.Ytbochlbgjnmgjaa.Dig
open Go.RowKit Go.Lib Go.Proofs.Ytbochlbgjnmgjaa.Utf

theorem strOf_app2 (a b : List Int) : strOfNums (a ++ b) = strOfNums a ++ strOfNums b := by
  apply ByteArray.ext
  apply Array.ext'
  rw [strOfNums_data, ByteArray.data_append, Array.toList_append, strOfNums_data, strOfNums_data, List.map_append]
theorem tdivA (c : Int) : (c.tdiv 10).natAbs = c.natAbs / 10 := by rw [Int.natAbs_tdiv]; rfl
theorem tmodA (c : Int) : (c.tmod 10).natAbs = c.natAbs % 10 := by rw [Int.natAbs_tmod]; rfl
theorem tdivN {c : Int} (h : c < 0) : c.tdiv 10 ≤ 0 := by
  have := Int.tdiv_nonneg (a := -c) (b := 10) (by omega) (by decide)
  rw [Int.neg_tdiv] at this
  omega
theorem tmodN {c : Int} (h : c < 0) : c.tmod 10 ≤ 0 := by
  have := Int.tmod_nonneg (a := -c) 10 (by omega)
  rw [Int.neg_tmod] at this
  omega
/-- The text of a number by parts. -/
theorem put_neg1 {n : Int} (h : n < 0) (h2 : -10 < n) : (⟨#[45]⟩ : ByteArray) ++ putS (-n) = putS n := by
  unfold putS putL
  rw [if_neg (by omega), if_pos h, show (-n).toNat = n.natAbs by omega]
  exact (strOf_app2 [45] _).symm
theorem put_neg {n : Int} (h : ¬ -10 < n) : putS (n.tdiv 10) ++ putS (-(n.tmod 10)) = putS n := by
  have h1 := tdivA n
  have h2 := tmodA n
  have h3 := tdivN (c := n) (by omega)
  have h4 := tmodN (c := n) (by omega)
  unfold putS putL
  rw [if_pos (by omega : n.tdiv 10 < 0), if_neg (by omega : ¬ -(n.tmod 10) < 0), if_pos (by omega : n < 0), h1, show (-(n.tmod 10)).toNat = n.natAbs % 10 by omega,
    decL_ge (n := n.natAbs) (by omega), decL_lt (n := n.natAbs % 10) (by omega), ← List.cons_append, strOf_app2]
theorem put_pos {n : Int} (h : ¬ n < 10) : putS (n / 10) ++ putS (n % 10) = putS n := by
  unfold putS putL
  rw [if_neg (by omega : ¬ n / 10 < 0), if_neg (by omega : ¬ n % 10 < 0), if_neg (by omega : ¬ n < 0), show (n / 10).toNat = n.toNat / 10 by omega, show (n % 10).toNat = n.toNat % 10 by omega,
    decL_ge (n := n.toNat) (by omega), decL_lt (n := n.toNat % 10) (by omega), strOf_app2]
theorem put_one {n : Int} (h : 0 ≤ n) (h2 : n < 10) : putS n = strOfNums [48 + n] := by
  unfold putS putL
  rw [if_neg (by omega), decL_lt (by omega), show (n.toNat : Int) = n by omega]
theorem put_size (n : Int) (h1 : -9223372036854775808 ≤ n) (h2 : n ≤ 9223372036854775807) : (putS n).size ≤ 1000 := by
  have key : ∀ (k m : Nat), m ≤ k → ∀ j, m < 10 ^ (j + 1) → (decL m).length ≤ j + 1 := by
    intro k
    induction k with
    | zero => intro m hm j _; rw [decL_lt (by omega)]; simp
    | succ k ih =>
      intro m hm j hj
      by_cases h : m < 10
      · rw [decL_lt h]; simp
      · cases j with
        | zero => omega
        | succ j =>
          rw [decL_ge h, List.length_append]
          have := ih (m / 10) (by omega) j (by rw [Nat.pow_succ] at hj; omega)
          simp
          omega
  unfold putS putL
  rw [strOfNums_size]
  split
  · have := key _ n.natAbs (Nat.le_refl _) 20 (by omega)
    rw [List.length_cons]; omega
  · have := key _ n.toNat (Nat.le_refl _) 20 (by omega)
    omega

theorem refput_one (n : Int) (h : 0 ≤ n) (h2 : n < 10) (w : World) (R : Ending → World → Prop)
    (hR : Hid (∀ w', Below w.heap.size w w' → R (.returned (.string (putS n))) w')) : Calls Try.prog 15 #[.int .i64 n] w R := by
  rw [put_one h h2] at hR
  have cv := cvB
  go_enter Try.func15, Try.ntmps15
  go_wp2_with fail
  exact retS (hR.out _ ((Below.refl _ _).alloc (Nat.le_refl _) _)) (by simp)
set_option maxRecDepth 100000 in
set_option maxHeartbeats 1000000 in
theorem refput_calls : ∀ (k : Nat) (n : Int), n.natAbs ≤ k → -9223372036854775808 ≤ n → n ≤ 9223372036854775807 → ∀ (w : World) (R : Ending → World → Prop)
    (hR : Hid (∀ w', Below w.heap.size w w' → R (.returned (.string (putS n))) w')), Calls Try.prog 15 #[.int .i64 n] w R := by
  intro k
  induction k with
  | zero =>
    intro n hk h1 h2 w R hR
    obtain rfl : n = 0 := by omega
    exact refput_one 0 (by omega) (by omega) w R hR
  | succ k ih =>
    intro n hk h1 h2 w R hR
    by_cases hn : n < 0
    · by_cases h10 : -10 < n
      · rw [← put_neg1 hn h10] at hR
        have c1 := fun (W : World) R hR => refput_one (-n) (by omega) (by omega) W R hR
        have hz := put_size (-n) (by omega) (by omega)
        generalize putS (-n) = p at *
        replace c1 := Lib.hid c1
        clear ih
        go_enter Try.func15, Try.ntmps15
        go_wp2_with fail
        refine c1.out _ _ (Lib.hid fun w1 n1 => ?_)
        go_wp2_with fail
        exact hR.out _ n1
      · have a1 := tdivA n
        have a2 := tmodA n
        have a3 := tdivN hn
        have a4 := tmodN hn
        rw [← put_neg h10] at hR
        have c1 := fun (W : World) R hR => ih (n.tdiv 10) (by omega) (by omega) (by omega) W R hR
        have c2 := fun (W : World) R hR => ih (-(n.tmod 10)) (by omega) (by omega) (by omega) W R hR
        have hz := put_size (n.tdiv 10) (by omega) (by omega)
        have hy := put_size (-(n.tmod 10)) (by omega) (by omega)
        generalize putS (n.tdiv 10) = p at *
        generalize putS (-(n.tmod 10)) = q at *
        replace c1 := Lib.hid c1
        replace c2 := Lib.hid c2
        clear ih a1
        go_enter Try.func15, Try.ntmps15
        go_wp2_with fail
        refine c1.out _ _ (Lib.hid fun w1 n1 => ?_)
        go_wp2_with fail
        refine c2.out _ _ (Lib.hid fun w2 n2 => ?_)
        replace n2 := n1.trans (n2.mono n1.size)
        go_wp2_with fail
        exact hR.out _ n2
    · by_cases h10 : n < 10
      · exact refput_one n (by omega) h10 w R hR
      · rw [← put_pos h10] at hR
        have c1 := fun (W : World) R hR => ih (n / 10) (by omega) (by omega) (by omega) W R hR
        have c2 := fun (W : World) R hR => ih (n % 10) (by omega) (by omega) (by omega) W R hR
        have hz := put_size (n / 10) (by omega) (by omega)
        have hy := put_size (n % 10) (by omega) (by omega)
        generalize putS (n / 10) = p at *
        generalize putS (n % 10) = q at *
        replace c1 := Lib.hid c1
        replace c2 := Lib.hid c2
        clear ih
        go_enter Try.func15, Try.ntmps15
        go_wp2_with fail
        refine c1.out _ _ (Lib.hid fun w1 n1 => ?_)
        go_wp2_with fail
        refine c2.out _ _ (Lib.hid fun w2 n2 => ?_)
        replace n2 := n1.trans (n2.mono n1.size)
        go_wp2_with fail
        exact hR.out _ n2
end Go.Proofs.Ytbochlbgjnmgjaa.Dig
