import Derived.Test.YthelhplcijhioaaGreatLibB
import Derived.Test.YthelhplcijhioaaGreatG1
/- Contracts of the leaf functions of utf. -/
set_option maxRecDepth 100000
set_option linter.unusedVariables false
namespace Go.Proofs.YthelhplcijhioaaGreat.Utf
open Go.RowKit Go.Lib

theorem scalar_calls (r : Int) (w : World) (R : Ending → World → Prop) (h : R (.returned (.bool (scalarB r))) w) :
    Calls Tryz.prog 162 #[.int .i32 r] w R := by
  go_enter Tryz.func162, Tryz.ntmps162
  go_wp2
  all_goals refine retB h ?_
  all_goals (unfold scalarB; rw [Bool.eq_iff_iff]; simp; omega)
theorem scalar2_calls (r : Int) (w : World) (R : Ending → World → Prop) (h : R (.returned (.bool (scalarB r))) w) :
    Calls Tryz.prog 72 #[.int .i32 r] w R := by
  go_enter Tryz.func72, Tryz.ntmps72
  go_wp2
  all_goals refine retB h ?_
  all_goals (unfold scalarB; rw [Bool.eq_iff_iff]; simp; omega)

theorem and63 (r : Int) (h0 : 0 ≤ r) (h1 : r ≤ 1114111) : bits BinOp.and IntKind.i32 r 63 = r % 64 := by
  have h63 : (BitVec.ofInt 32 63).toNat = 2 ^ 6 - 1 := by decide
  have key : (BitVec.ofInt 32 r &&& BitVec.ofInt 32 63).toNat = (r % ((2 ^ 32 : Nat) : Int)).toNat % 2 ^ 6 := by
    rw [BitVec.toNat_and, BitVec.toNat_ofInt, h63, Nat.and_two_pow_sub_one_eq_mod]
  show IntKind.i32.wrap ((BitVec.ofInt 32 r &&& BitVec.ofInt 32 63).toNat : Nat) = r % 64
  rw [key, IntKind.wrap_i32]
  omega

section
variable (r : Int) (w : World) (R : Ending → World → Prop) (hR : Hid (∀ w', Below w.heap.size w w' → R (.returned (.string (encS r))) w'))
include hR
theorem enc_no (hs : scalarB r = false) : Calls Tryz.prog 163 #[.int .i32 r] w R := by
  have hR := hR.out _ (Below.refl _ _)
  rw [encS_no hs] at hR
  go_enter Tryz.func163, Tryz.ntmps163
  go_wp2_with (first | (go_at_call 162; refine scalar_calls _ _ _ ?_; rw [hs]) | go_in)
  exact hR
theorem enc_1 (hs : scalarB r = true) (h1 : r < 128) : Calls Tryz.prog 163 #[.int .i32 r] w R := by
  have hE := Lib.hid (encS_1 hs h1)
  have h0 : 0 ≤ r := by unfold scalarB at hs; simp at hs; omega
  have cv := cvB
  go_enter Tryz.func163, Tryz.ntmps163
  go_wp2_with (first | (go_at_call 162; refine scalar_calls _ _ _ ?_; rw [hs]) | go_in)
  exact retS (hR.out _ ((Below.refl _ _).alloc (Nat.le_refl _) _)) (by rw [hE.out]; try simp [Int.ediv_ediv])
theorem enc_2 (hs : scalarB r = true) (h0 : 128 ≤ r) (h1 : r < 2048) : Calls Tryz.prog 163 #[.int .i32 r] w R := by
  have hE := Lib.hid (encS_2 hs h0 h1)
  have cv := cvB
  have a1 := and63 r (by omega) (by omega)
  go_enter Tryz.func163, Tryz.ntmps163
  go_wp2_with (first | (go_at_call 162; refine scalar_calls _ _ _ ?_; rw [hs]) | go_in)
  exact retS (hR.out _ ((Below.refl _ _).alloc (Nat.le_refl _) _)) (by rw [hE.out]; try simp [Int.ediv_ediv])
theorem enc_3 (hs : scalarB r = true) (h0 : 2048 ≤ r) (h1 : r < 65536) : Calls Tryz.prog 163 #[.int .i32 r] w R := by
  have hE := Lib.hid (encS_3 hs h0 h1)
  have cv := cvB
  have a1 := and63 r (by omega) (by omega)
  have a2 := and63 (r / 64) (by omega) (by omega)
  go_enter Tryz.func163, Tryz.ntmps163
  go_wp2_with (first | (go_at_call 162; refine scalar_calls _ _ _ ?_; rw [hs]) | go_in)
  exact retS (hR.out _ ((Below.refl _ _).alloc (Nat.le_refl _) _)) (by rw [hE.out]; try simp [Int.ediv_ediv])
theorem enc_4 (hs : scalarB r = true) (h0 : 65536 ≤ r) : Calls Tryz.prog 163 #[.int .i32 r] w R := by
  have hE := Lib.hid (encS_4 hs h0)
  have h1 : r ≤ 1114111 := by unfold scalarB at hs; simp at hs; omega
  have cv := cvB
  have a1 := and63 r (by omega) (by omega)
  have a2 := and63 (r / 64) (by omega) (by omega)
  have a3 := and63 (r / 64 / 64) (by omega) (by omega)
  go_enter Tryz.func163, Tryz.ntmps163
  go_wp2_with (first | (go_at_call 162; refine scalar_calls _ _ _ ?_; rw [hs]) | go_in)
  exact retS (hR.out _ ((Below.refl _ _).alloc (Nat.le_refl _) _)) (by rw [hE.out]; try simp [Int.ediv_ediv])
theorem enc_calls : Calls Tryz.prog 163 #[.int .i32 r] w R := by
  by_cases hs : scalarB r = true
  · by_cases h1 : r < 128
    · exact enc_1 r w R hR hs h1
    by_cases h2 : r < 2048
    · exact enc_2 r w R hR hs (by omega) h2
    by_cases h3 : r < 65536
    · exact enc_3 r w R hR hs (by omega) h3
    exact enc_4 r w R hR hs (by omega)
  · exact enc_no r w R hR (by simpa using hs)

theorem ref_no (hs : scalarB r = false) : Calls Tryz.prog 73 #[.int .i32 r] w R := by
  have hR := hR.out _ (Below.refl _ _)
  rw [encS_no hs] at hR
  go_enter Tryz.func73, Tryz.ntmps73
  go_wp2_with (first | (go_at_call 72; refine scalar2_calls _ _ _ ?_; rw [hs]) | go_in)
  exact hR
theorem ref_1 (hs : scalarB r = true) (h1 : r < 128) : Calls Tryz.prog 73 #[.int .i32 r] w R := by
  have hE := Lib.hid (encS_1 hs h1)
  have h0 : 0 ≤ r := by unfold scalarB at hs; simp at hs; omega
  have cv := cvB
  go_enter Tryz.func73, Tryz.ntmps73
  go_wp2_with (first | (go_at_call 72; refine scalar2_calls _ _ _ ?_; rw [hs]) | go_in)
  exact retS (hR.out _ ((Below.refl _ _).alloc (Nat.le_refl _) _)) (by rw [hE.out]; try simp [Int.ediv_ediv])
theorem ref_2 (hs : scalarB r = true) (h0 : 128 ≤ r) (h1 : r < 2048) : Calls Tryz.prog 73 #[.int .i32 r] w R := by
  have hE := Lib.hid (encS_2 hs h0 h1)
  have cv := cvB
  go_enter Tryz.func73, Tryz.ntmps73
  go_wp2_with (first | (go_at_call 72; refine scalar2_calls _ _ _ ?_; rw [hs]) | go_in)
  exact retS (hR.out _ ((Below.refl _ _).alloc (Nat.le_refl _) _)) (by rw [hE.out]; try simp [Int.ediv_ediv])
theorem ref_3 (hs : scalarB r = true) (h0 : 2048 ≤ r) (h1 : r < 65536) : Calls Tryz.prog 73 #[.int .i32 r] w R := by
  have hE := Lib.hid (encS_3 hs h0 h1)
  have cv := cvB
  go_enter Tryz.func73, Tryz.ntmps73
  go_wp2_with (first | (go_at_call 72; refine scalar2_calls _ _ _ ?_; rw [hs]) | go_in)
  exact retS (hR.out _ ((Below.refl _ _).alloc (Nat.le_refl _) _)) (by rw [hE.out]; try simp [Int.ediv_ediv])
theorem ref_4 (hs : scalarB r = true) (h0 : 65536 ≤ r) : Calls Tryz.prog 73 #[.int .i32 r] w R := by
  have hE := Lib.hid (encS_4 hs h0)
  have h1 : r ≤ 1114111 := by unfold scalarB at hs; simp at hs; omega
  have cv := cvB
  go_enter Tryz.func73, Tryz.ntmps73
  go_wp2_with (first | (go_at_call 72; refine scalar2_calls _ _ _ ?_; rw [hs]) | go_in)
  exact retS (hR.out _ ((Below.refl _ _).alloc (Nat.le_refl _) _)) (by rw [hE.out]; try simp [Int.ediv_ediv])
theorem ref_calls : Calls Tryz.prog 73 #[.int .i32 r] w R := by
  by_cases hs : scalarB r = true
  · by_cases h1 : r < 128
    · exact ref_1 r w R hR hs h1
    by_cases h2 : r < 2048
    · exact ref_2 r w R hR hs (by omega) h2
    by_cases h3 : r < 65536
    · exact ref_3 r w R hR hs (by omega) h3
    exact ref_4 r w R hR hs (by omega)
  · exact ref_no r w R hR (by simpa using hs)
end
end Go.Proofs.YthelhplcijhioaaGreat.Utf

/- Contracts of utf.lead and utf.Decode. -/
set_option maxRecDepth 100000
set_option linter.unusedVariables false
namespace Go.Proofs.YthelhplcijhioaaGreat.Utf
open Go.RowKit Go.Lib

theorem lead_calls (c : Int) (w : World) (R : Ending → World → Prop)
    (hR : R (.returned (.tuple #[.int .i64 (leadL c).1, .int .u8 (leadL c).2.1, .int .u8 (leadL c).2.2])) w) :
    Calls Tryz.prog 122 #[.int .u8 c] w R := by
  go_enter Tryz.func122, Tryz.ntmps122
  go_wp2
  all_goals go_ret3
  all_goals try simp only [beq_iff_eq, beq_eq_false_iff_ne, ne_eq] at *
  all_goals unfold leadL at hR
  all_goals repeat (first | rw [if_pos (by omega)] at hR | rw [if_neg (by omega)] at hR)
  all_goals exact hR
end Go.Proofs.YthelhplcijhioaaGreat.Utf

set_option maxRecDepth 100000
set_option linter.unusedVariables false
namespace Go.Proofs.YthelhplcijhioaaGreat.Utf
open Go.RowKit Go.Lib

theorem mark_k (n : Int) (w : World) (R : Ending → World → Prop) (hR : R (.returned (.int .u8 (markL n))) w) : Calls Tryz.prog 123 #[.int .i64 n] w R := by
  go_enter Tryz.func123, Tryz.ntmps123
  go_wp2
  all_goals refine retI hR ?_
  all_goals try simp only [beq_iff_eq, beq_eq_false_iff_ne, ne_eq] at *
  all_goals unfold markL
  all_goals repeat (first | rw [if_pos (by omega)] | rw [if_neg (by omega)])
theorem mark_calls (n : Int) (w : World) : Calls Tryz.prog 123 #[.int .i64 n] w fun e w' => e = .returned (.int .u8 (markL n)) ∧ w' = w := mark_k n w _ ⟨rfl, rfl⟩

set_option maxRecDepth 100000 in
theorem dec_t (s : ByteArray) (i L : Nat) (w : World) (hs : s.size ≤ maxLen) (hi : i < s.size) (lo hi' : Int) (hl : Hid (leadL (byN s i) = ((L : Int), lo, hi')))
    (b1 : 1 ≤ L) (b2 : L ≤ 4) (b3 : 0 ≤ lo) (b3' : 2 ≤ L → 128 ≤ lo) (b4 : lo ≤ 255) (b5 : 0 ≤ hi') (b5' : 2 ≤ L → hi' ≤ 191) (b6 : hi' ≤ 255) (b7 : markL L ≤ byN s i) (b8 : (byN s i : Int) - markL L < 128) (b9 : 0 ≤ markL L)
    (hD : Hid (decGo s i L (L - 1) 1 lo hi' ((byN s i : Int) - markL L) = decS s i))
    (R : Ending → World → Prop) (hR : Hid (∀ nq, R (.returned (.tuple #[.int .i32 (decS s i).1, .int .i64 (decS s i).2.1, .bool (decS s i).2.2])) (w.drewN nq))) :
    Calls Tryz.prog 102 #[.string s, .int .i64 i] w R := by
  unfold maxLen at hs
  have hb := byN_extract s i
  have hb0 := byN_lt s i
  have hL : ((L : Int) == 0) = false := by simp; omega
  go_enter Tryz.func102, Tryz.ntmps102
  go_wp2_with fail
  refine lead_calls _ _ _ ?_
  rw [hl.out]
  go_wp2_with fail
  go_quiet ((go_at_call 123; exact Calls.quiet_of_same (mark_calls _ _)))
  go_wp2_with fail
  go_loopg [4, 5, 9, 10] (L - 1) (fun k r n x y wr => wr = w.drewN nq ∧ ∃ (N : Nat) (X Y Z : Int), r = .int .i32 Z ∧ n = .int .i64 N ∧ x = .int .u8 X ∧ y = .int .u8 Y ∧ 1 ≤ N ∧ N + k = L ∧ N ≤ s.size - i ∧ 0 ≤ X ∧ (N < L → 128 ≤ X) ∧ X ≤ 255 ∧ 0 ≤ Y ∧ (N < L → Y ≤ 191) ∧ Y ≤ 255 ∧ 0 ≤ Z ∧ (N = 1 → Z ≤ 127) ∧ (N = 2 → Z ≤ 8191) ∧ (N = 3 → Z ≤ 524287) ∧
    decGo s i L k N X Y Z = decS s i)
  case atStart => exact ⟨rfl, 1, lo, hi', _, rfl, rfl, rfl, rfl, by omega, by omega, by omega, by omega, by omega, by omega, by omega, by omega, by omega, by omega, by omega, by omega, by omega, hD.out⟩
  case round =>
    obtain ⟨rfl, N, X, Y, Z, rfl, rfl, rfl, rfl, c1, c2, c3, c4, c4', c5, c6, c6', c7, c8, c9, c10, c11, c12⟩ := hrel
    replace c12 := Lib.hid c12
    by_cases hn : N < L
    · obtain ⟨k, rfl⟩ : ∃ k, gk = k + 1 := ⟨gk - 1, by omega⟩
      have hb1 := byN_lt s (i + N)
      have hNL : N ≤ 3 := by omega
      have c4'' := c4' hn
      have c6'' := c6' hn
      clear c4' c6'
      by_cases t1 : N = s.size - i
      · go_wp2_with fail
        go_ret3
        have e := c12.out
        rw [decGo, if_pos (Or.inl t1)] at e
        exact ret3e (hR.out _) e
      by_cases t2 : (byN s (i + N) : Int) < X
      · go_wp2_with fail
        go_ret3
        have e := c12.out
        rw [decGo, if_pos (Or.inr (Or.inl t2))] at e
        exact ret3e (hR.out _) e
      by_cases t3 : Y < (byN s (i + N) : Int)
      · go_wp2_with fail
        go_ret3
        have e := c12.out
        rw [decGo, if_pos (Or.inr (Or.inr t3))] at e
        exact ret3e (hR.out _) e
      have e := c12.out
      rw [decGo, if_neg (by omega)] at e
      replace e := Lib.hid e
      go_wp2_with fail
      go_roundg k
      case measure => omega
      case rel => exact ⟨rfl, N + 1, _, _, _, rfl, by go_num, rfl, rfl, by omega, by omega, by omega, by omega, by omega, by omega, by omega, by omega, by omega, by omega, by omega, by omega, by omega, e.out⟩
    · go_wp2_with fail
      go_ret3
      obtain rfl : gk = 0 := by omega
      have e := c12.out
      rw [decGo] at e
      exact ret3e (hR.out _) e

set_option maxRecDepth 100000 in
/-- Decode: what stands at an index, for every string and index. -/
theorem dec_calls (s : ByteArray) (i : Int) (w : World) (hs : s.size ≤ maxLen) (R : Ending → World → Prop)
    (hR : Hid (∀ nq, R (.returned (.tuple #[.int .i32 (decS s i).1, .int .i64 (decS s i).2.1, .bool (decS s i).2.2])) (w.drewN nq))) :
    Calls Tryz.prog 102 #[.string s, .int .i64 i] w R := by
  by_cases h1 : i < 0
  · have hD : (0, 0, false) = decS s i := by unfold decS; rw [if_pos (Or.inl h1)]
    replace hD := Lib.hid hD
    have hR0 := Lib.hid (hR.out 0)
    clear hR
    unfold maxLen at hs
    go_enter Tryz.func102, Tryz.ntmps102
    go_wp2_with fail
    go_ret3
    exact ret3e hR0.out hD.out
  by_cases h2 : (s.size : Int) ≤ i
  · have hD : (0, 0, false) = decS s i := by unfold decS; rw [if_pos (Or.inr h2)]
    replace hD := Lib.hid hD
    have hR0 := Lib.hid (hR.out 0)
    clear hR
    unfold maxLen at hs
    go_enter Tryz.func102, Tryz.ntmps102
    go_wp2_with fail
    go_ret3
    exact ret3e hR0.out hD.out
  obtain ⟨j, rfl⟩ := Int.eq_ofNat_of_zero_le (by omega : 0 ≤ i)
  have hj : j < s.size := by omega
  have hb0 := byN_lt s j
  have e0 : decS s (j : Int) = if (leadL (byN s j)).1 = 0 then (0, 1, false)
      else decGo s j (leadL (byN s j)).1.toNat ((leadL (byN s j)).1.toNat - 1) 1 (leadL (byN s j)).2.1 (leadL (byN s j)).2.2 ((byN s j : Int) - markL (leadL (byN s j)).1) := by
    unfold decS; rw [if_neg (by omega)]; rfl
  have key := leadL_cases (byN s j) (by omega) (by omega)
  rcases key with h0 | ⟨L, lo, hi', hl, b1, b2, b3, b3', b4, b5, b5', b6, b7, b8, b9⟩
  · rw [if_pos h0] at e0
    have hl : ∃ lo hi', leadL (byN s j) = (0, lo, hi') := ⟨(leadL (byN s j)).2.1, (leadL (byN s j)).2.2, by rw [← h0]⟩
    obtain ⟨lo, hi', hl⟩ := hl
    replace hl := Lib.hid hl
    have hD := Lib.hid e0.symm
    have hb := byN_extract s j
    have hR0 := Lib.hid (hR.out 0)
    clear hR e0 h0
    unfold maxLen at hs
    go_enter Tryz.func102, Tryz.ntmps102
    go_wp2_with fail
    refine lead_calls _ _ _ ?_
    rw [hl.out]
    go_wp2_with fail
    go_ret3
    exact ret3e hR0.out hD.out
  · refine dec_t s j L w hs hj lo hi' (Lib.hid hl) b1 b2 b3 b3' b4 b5 b5' b6 b7 b8 b9 ?_ R hR
    rw [hl, if_neg (by simp; omega)] at e0
    simp only [Int.toNat_natCast] at e0
    exact e0.symm
end Go.Proofs.YthelhplcijhioaaGreat.Utf

/- Contracts of utf.Bad, utf.Valid, utf.Count. -/
set_option maxRecDepth 100000
set_option linter.unusedVariables false
namespace Go.Proofs.YthelhplcijhioaaGreat.Utf
open Go.RowKit Go.Lib

end Go.Proofs.YthelhplcijhioaaGreat.Utf
