/- The contract of the reference's Decode. -/
import Derived.Test.YtikcblnemdbjnaaUtfF
set_option linter.unusedVariables false
namespace Go.Proofs.Ytikcblnemdbjnaa.Utf
open Go.RowKit Go.Lib

def eqB (a b : ByteArray) : Bool := a.toList == b.toList
/-- The first loop: is some n, from n on, the length of a scalar's bytes? -/
def refFind (t : ByteArray) : Nat → Nat → Option (Int × Nat)
  | 0, _ => none
  | k + 1, n => if n < 5 ∧ n ≤ t.size then
      (if scalarB (reckS (t.extract 0 n)) && (encS (reckS (t.extract 0 n))).toList == (t.extract 0 n).toList then some (reckS (t.extract 0 n), n) else refFind t k (n + 1)) else none
def refMany (t : ByteArray) : Nat → Nat → Nat → Nat
  | 0, _, m => m
  | k + 1, n, m => if n < 4 ∧ n ≤ t.size then refMany t k (n + 1) (if leftS (t.extract 0 n) then n else m) else m
def decR (s : ByteArray) (i : Int) : Int × Int × Bool :=
  if i < 0 ∨ (s.size : Int) ≤ i then (0, 0, false)
  else match refFind (s.extract i.toNat s.size) 4 1 with
    | some (r, n) => (r, n, true)
    | none => (0, refMany (s.extract i.toNat s.size) 3 2 1, false)

set_option maxRecDepth 100000 in
set_option maxHeartbeats 2000000 in
theorem refdec_in (s : ByteArray) (i : Nat) (w : World) (hs : s.size ≤ maxLen) (hi : i < s.size) (R : Ending → World → Prop)
    (hR : Hid (∀ w', Below w.heap.size w w' → R (.returned (.tuple #[.int .i32 (decR s i).1, .int .i64 (decR s i).2.1, .bool (decR s i).2.2])) w')) :
    Calls Try.prog 23 #[.string s, .int .i64 i] w R := by
  have hD : decR s i = match refFind (s.extract i s.size) 4 1 with
    | some (r, n) => (r, (n : Int), true)
    | none => (0, (refMany (s.extract i s.size) 3 2 1 : Int), false) := by unfold decR; rw [if_neg (by omega)]; rfl
  have htz : (s.extract i s.size).size = s.size - i := by rw [ByteArray.size_extract]; omega
  replace hD := Lib.hid hD
  unfold maxLen at hs
  have hd1 : decide (s.size ≤ i) = false := by simp; omega
  go_enter Try.func23, Try.ntmps23
  go_wp2_with fail
  go_loopg [7] 4 (fun k n wr => ∃ (N : Nat), Below w.heap.size w wr ∧ n = .int .i64 N ∧ N + k = 5 ∧ 1 ≤ N ∧ Hid (refFind (s.extract i s.size) k N = refFind (s.extract i s.size) 4 1))
  case atStart => exact ⟨1, Below.refl _ _, rfl, by omega, by omega, rfl⟩
  case round =>
    obtain ⟨N, hbel, rfl, c1, c2, c3⟩ := hrel
    have hsz := hbel.size
    by_cases hN : N < 5 ∧ N ≤ s.size - i
    · obtain ⟨k, rfl⟩ : ∃ k, gk = k + 1 := ⟨gk - 1, by omega⟩
      have hp : ((s.extract i s.size).extract 0 N).size = N := by rw [ByteArray.size_extract]; omega
      have hr := reckS_bd ((s.extract i s.size).extract 0 N)
      have lp : 1 ≤ ((s.extract i s.size).extract 0 N).size ∧ ((s.extract i s.size).extract 0 N).size ≤ 4 := by omega
      replace hp := Lib.hid hp
      replace lp := Lib.hid lp
      obtain ⟨n1, n2⟩ := hN
      have e := c3.out
      rw [refFind, if_pos ⟨n1, by omega⟩] at e
      have e := Lib.hid e
      clear c3
      have e := e.out
      by_cases hsc : scalarB (reckS ((s.extract i s.size).extract 0 N)) = true
      · cases hq : ((encS (reckS ((s.extract i s.size).extract 0 N))).toList == ((s.extract i s.size).extract 0 N).toList)
        all_goals
          rw [hsc, hq] at e
          simp only [Bool.true_and, Bool.false_eq_true, if_true, if_false] at e
          replace e := Lib.hid e
          go_wp2_with fail
          refine reck_calls _ _ lp.out.1 lp.out.2 _ (fun w1 hb1 => ?_)
          go_wp2_with fail
          have hb := hbel.trans (hb1.mono hsz)
          have hbz := hb.size
          go_region_held3 (fun w' => Below w.heap.size w w') (first | exact hb.drew | exact Below.trans (by assumption) (Below.mono (by assumption) (Below.size (by assumption))) | trace_state) (first | (go_at_call 31; refine scalar2_calls _ _ _ ?_; rw [hsc]) | (go_at_call 32; refine ref_calls _ _ _ (fun w2 hb2 => ?_)))
        · go_wp2_with fail
          go_roundg k
          case measure => omega
          case rel => exact ⟨N + 1, by assumption, by go_num, by omega, by omega, e.out⟩
        · go_wp2_with fail
          go_ret3
          have e2 := hD.out
          rw [← e.out] at e2
          exact ret3e (hR.out _ (by assumption)) e2.symm
      · have hsc : scalarB (reckS ((s.extract i s.size).extract 0 N)) = false := by simpa using hsc
        rw [hsc] at e
        simp only [Bool.false_and, Bool.false_eq_true, if_false] at e
        replace e := Lib.hid e
        go_wp2_with fail
        refine reck_calls _ _ lp.out.1 lp.out.2 _ (fun w1 hb1 => ?_)
        go_wp2_with fail
        have hb := hbel.trans (hb1.mono hsz)
        have hbz := hb.size
        go_quiet ((go_at_call 31; exact Calls.quiet_of_same (scalar2_calls _ _ _ ⟨by rw [hsc], rfl⟩)))
        go_wp2_with fail
        go_roundg k
        case measure => omega
        case rel => exact ⟨N + 1, below_drewN hb _, by go_num, by omega, by omega, e.out⟩
    · have e : refFind (s.extract i s.size) gk N = none := by cases gk <;> simp [refFind]; omega
      have e2 := hD.out
      rw [← c3.out, e] at e2
      clear e
      replace e2 := Lib.hid e2
      clear c3 hD
      have hN1 : N = 5 ∨ N < 5 ∧ s.size - i < N := by omega
      go_wp2_with fail
      all_goals
        go_loopg [9, 10] 3 (fun k m n wq => ∃ (M N2 : Nat), Below w.heap.size w wq ∧ m = .int .i64 M ∧ n = .int .i64 N2 ∧ N2 + k = 5 ∧ 2 ≤ N2 ∧ Hid (refMany (s.extract i s.size) k N2 M = refMany (s.extract i s.size) 3 2 1))
        case atStart => exact ⟨1, 2, hbel, rfl, rfl, by omega, by omega, rfl⟩
        case round =>
          obtain ⟨M, N2, hbq, rfl, rfl, m1, m2, m3⟩ := hrel
          have hsq := hbq.size
          by_cases hN2 : N2 < 4 ∧ N2 ≤ s.size - i
          · obtain ⟨k, rfl⟩ : ∃ k, gk = k + 1 := ⟨gk - 1, by omega⟩
            have hp : 1 ≤ ((s.extract i s.size).extract 0 N2).size ∧ ((s.extract i s.size).extract 0 N2).size ≤ 3 := by rw [ByteArray.size_extract]; omega
            replace hp := Lib.hid hp
            obtain ⟨n1, n2⟩ := hN2
            have e := m3.out
            rw [refMany, if_pos ⟨n1, by omega⟩] at e
            clear m3
            go_wp2_with fail
            refine left_calls _ _ hp.out.1 hp.out.2 _ (fun w1 hb1 => ?_)
            have hb := hbq.trans (hb1.mono hsq)
            cases hq : leftS ((s.extract i s.size).extract 0 N2)
            all_goals
              rw [hq] at e
              simp only [Bool.false_eq_true, if_true, if_false] at e
              replace e := Lib.hid e
              clear hq
              go_wp2_with fail
              go_roundg k
              case measure => omega
              case rel => exact ⟨_, N2 + 1, hb, rfl, by go_num, by omega, by omega, e.out⟩
          · have e : refMany (s.extract i s.size) gk N2 M = M := by cases gk <;> simp [refMany]; omega
            have e3 := e2.out
            rw [← m3.out, e] at e3
            clear e m3
            replace e3 := Lib.hid e3
            have hN2' : N2 = 4 ∨ N2 = 5 ∨ N2 < 4 ∧ s.size - i < N2 := by omega
            go_wp2_with fail
            all_goals
              go_ret3
              exact ret3e (hR.out _ hbq) e3.out.symm

set_option maxRecDepth 100000 in
theorem refdec_calls (s : ByteArray) (i : Int) (w : World) (hs : s.size ≤ maxLen) (R : Ending → World → Prop)
    (hR : Hid (∀ w', Below w.heap.size w w' → R (.returned (.tuple #[.int .i32 (decR s i).1, .int .i64 (decR s i).2.1, .bool (decR s i).2.2])) w')) :
    Calls Try.prog 23 #[.string s, .int .i64 i] w R := by
  by_cases h : i < 0 ∨ (s.size : Int) ≤ i
  · have hD : (0, 0, false) = decR s i := by unfold decR; rw [if_pos h]
    replace hD := Lib.hid hD
    unfold maxLen at hs
    rcases h with h | h
    all_goals
      go_enter Try.func23, Try.ntmps23
      go_wp2_with fail
      all_goals
        go_ret3
        exact ret3e (hR.out _ (Below.refl _ _)) hD.out
  · obtain ⟨j, rfl⟩ := Int.eq_ofNat_of_zero_le (by omega : 0 ≤ i)
    exact refdec_in s j w hs (by omega) R hR
end Go.Proofs.Ytikcblnemdbjnaa.Utf
