/- Contracts of the leaf functions of utf. -/
import Derived.Test.YtmchgimbfdeaiaaGreatLibB
import Derived.Test.YtmchgimbfdeaiaaGreatG1
set_option maxRecDepth 100000
set_option linter.unusedVariables false
namespace Go.Proofs.YtmchgimbfdeaiaaGreat.Utf
open Go.RowKit Go.Lib

theorem scalar_calls (r : Int) (w : World) (R : Ending → World → Prop) (h : R (.returned (.bool (scalarB r))) w) :
    Calls Tryz.prog 93 #[.int .i32 r] w R := by
  go_enter Tryz.func93, Tryz.ntmps93
  go_wp2
  all_goals refine retB h ?_
  all_goals (unfold scalarB; rw [Bool.eq_iff_iff]; simp; omega)
theorem scalar2_calls (r : Int) (w : World) (R : Ending → World → Prop) (h : R (.returned (.bool (scalarB r))) w) :
    Calls Tryz.prog 35 #[.int .i32 r] w R := by
  go_enter Tryz.func35, Tryz.ntmps35
  go_wp2
  all_goals refine retB h ?_
  all_goals (unfold scalarB; rw [Bool.eq_iff_iff]; simp; omega)

theorem and63 (r : Int) (h0 : 0 ≤ r) (h1 : r ≤ 1114111) : bits BinOp.and IntKind.i32 r 63 = r % 64 := by
  have h63 : (BitVec.ofInt 32 63).toNat = 2 ^ 6 - 1 := by decide
  have key : (BitVec.ofInt 32 r &&& BitVec.ofInt 32 63).toNat = (r % ((2 ^ 32 : Nat) : Int)).toNat % 2 ^ 6 := by
    rw [BitVec.toNat_and, BitVec.toNat_ofInt, h63, Nat.and_two_pow_sub_one_eq_mod]
  show IntKind.i32.wrap ((BitVec.ofInt 32 r &&& BitVec.ofInt 32 63).toNat : Nat) = r % 64
  rw [key, IntKind.wrap_i32]
  omega

section
variable (r : Int) (w : World) (R : Ending → World → Prop) (hR : Hid (∀ w', Below w.heap.size w w' → R (.returned (.string (encS r))) w'))
include hR
theorem enc_no (hs : scalarB r = false) : Calls Tryz.prog 94 #[.int .i32 r] w R := by
  have hR := hR.out _ (Below.refl _ _)
  rw [encS_no hs] at hR
  go_enter Tryz.func94, Tryz.ntmps94
  go_wp2_with (first | (go_at_call 93; refine scalar_calls _ _ _ ?_; rw [hs]) | go_in)
  exact hR
theorem enc_1 (hs : scalarB r = true) (h1 : r < 128) : Calls Tryz.prog 94 #[.int .i32 r] w R := by
  have hE := Lib.hid (encS_1 hs h1)
  have h0 : 0 ≤ r := by unfold scalarB at hs; simp at hs; omega
  have cv := cvB
  go_enter Tryz.func94, Tryz.ntmps94
  go_wp2_with (first | (go_at_call 93; refine scalar_calls _ _ _ ?_; rw [hs]) | go_in)
  exact retS (hR.out _ ((Below.refl _ _).alloc (Nat.le_refl _) _)) (by rw [hE.out]; try simp [Int.ediv_ediv])
theorem enc_2 (hs : scalarB r = true) (h0 : 128 ≤ r) (h1 : r < 2048) : Calls Tryz.prog 94 #[.int .i32 r] w R := by
  have hE := Lib.hid (encS_2 hs h0 h1)
  have cv := cvB
  have a1 := and63 r (by omega) (by omega)
  go_enter Tryz.func94, Tryz.ntmps94
  go_wp2_with (first | (go_at_call 93; refine scalar_calls _ _ _ ?_; rw [hs]) | go_in)
  exact retS (hR.out _ ((Below.refl _ _).alloc (Nat.le_refl _) _)) (by rw [hE.out]; try simp [Int.ediv_ediv])
theorem enc_3 (hs : scalarB r = true) (h0 : 2048 ≤ r) (h1 : r < 65536) : Calls Tryz.prog 94 #[.int .i32 r] w R := by
  have hE := Lib.hid (encS_3 hs h0 h1)
  have cv := cvB
  have a1 := and63 r (by omega) (by omega)
  have a2 := and63 (r / 64) (by omega) (by omega)
  go_enter Tryz.func94, Tryz.ntmps94
  go_wp2_with (first | (go_at_call 93; refine scalar_calls _ _ _ ?_; rw [hs]) | go_in)
  exact retS (hR.out _ ((Below.refl _ _).alloc (Nat.le_refl _) _)) (by rw [hE.out]; try simp [Int.ediv_ediv])
theorem enc_4 (hs : scalarB r = true) (h0 : 65536 ≤ r) : Calls Tryz.prog 94 #[.int .i32 r] w R := by
  have hE := Lib.hid (encS_4 hs h0)
  have h1 : r ≤ 1114111 := by unfold scalarB at hs; simp at hs; omega
  have cv := cvB
  have a1 := and63 r (by omega) (by omega)
  have a2 := and63 (r / 64) (by omega) (by omega)
  have a3 := and63 (r / 64 / 64) (by omega) (by omega)
  go_enter Tryz.func94, Tryz.ntmps94
  go_wp2_with (first | (go_at_call 93; refine scalar_calls _ _ _ ?_; rw [hs]) | go_in)
  exact retS (hR.out _ ((Below.refl _ _).alloc (Nat.le_refl _) _)) (by rw [hE.out]; try simp [Int.ediv_ediv])
theorem enc_calls : Calls Tryz.prog 94 #[.int .i32 r] w R := by
  by_cases hs : scalarB r = true
  · by_cases h1 : r < 128
    · exact enc_1 r w R hR hs h1
    by_cases h2 : r < 2048
    · exact enc_2 r w R hR hs (by omega) h2
    by_cases h3 : r < 65536
    · exact enc_3 r w R hR hs (by omega) h3
    exact enc_4 r w R hR hs (by omega)
  · exact enc_no r w R hR (by simpa using hs)

theorem ref_no (hs : scalarB r = false) : Calls Tryz.prog 36 #[.int .i32 r] w R := by
  have hR := hR.out _ (Below.refl _ _)
  rw [encS_no hs] at hR
  go_enter Tryz.func36, Tryz.ntmps36
  go_wp2_with (first | (go_at_call 35; refine scalar2_calls _ _ _ ?_; rw [hs]) | go_in)
  exact hR
theorem ref_1 (hs : scalarB r = true) (h1 : r < 128) : Calls Tryz.prog 36 #[.int .i32 r] w R := by
  have hE := Lib.hid (encS_1 hs h1)
  have h0 : 0 ≤ r := by unfold scalarB at hs; simp at hs; omega
  have cv := cvB
  go_enter Tryz.func36, Tryz.ntmps36
  go_wp2_with (first | (go_at_call 35; refine scalar2_calls _ _ _ ?_; rw [hs]) | go_in)
  exact retS (hR.out _ ((Below.refl _ _).alloc (Nat.le_refl _) _)) (by rw [hE.out]; try simp [Int.ediv_ediv])
theorem ref_2 (hs : scalarB r = true) (h0 : 128 ≤ r) (h1 : r < 2048) : Calls Tryz.prog 36 #[.int .i32 r] w R := by
  have hE := Lib.hid (encS_2 hs h0 h1)
  have cv := cvB
  go_enter Tryz.func36, Tryz.ntmps36
  go_wp2_with (first | (go_at_call 35; refine scalar2_calls _ _ _ ?_; rw [hs]) | go_in)
  exact retS (hR.out _ ((Below.refl _ _).alloc (Nat.le_refl _) _)) (by rw [hE.out]; try simp [Int.ediv_ediv])
theorem ref_3 (hs : scalarB r = true) (h0 : 2048 ≤ r) (h1 : r < 65536) : Calls Tryz.prog 36 #[.int .i32 r] w R := by
  have hE := Lib.hid (encS_3 hs h0 h1)
  have cv := cvB
  go_enter Tryz.func36, Tryz.ntmps36
  go_wp2_with (first | (go_at_call 35; refine scalar2_calls _ _ _ ?_; rw [hs]) | go_in)
  exact retS (hR.out _ ((Below.refl _ _).alloc (Nat.le_refl _) _)) (by rw [hE.out]; try simp [Int.ediv_ediv])
theorem ref_4 (hs : scalarB r = true) (h0 : 65536 ≤ r) : Calls Tryz.prog 36 #[.int .i32 r] w R := by
  have hE := Lib.hid (encS_4 hs h0)
  have h1 : r ≤ 1114111 := by unfold scalarB at hs; simp at hs; omega
  have cv := cvB
  go_enter Tryz.func36, Tryz.ntmps36
  go_wp2_with (first | (go_at_call 35; refine scalar2_calls _ _ _ ?_; rw [hs]) | go_in)
  exact retS (hR.out _ ((Below.refl _ _).alloc (Nat.le_refl _) _)) (by rw [hE.out]; try simp [Int.ediv_ediv])
theorem ref_calls : Calls Tryz.prog 36 #[.int .i32 r] w R := by
  by_cases hs : scalarB r = true
  · by_cases h1 : r < 128
    · exact ref_1 r w R hR hs h1
    by_cases h2 : r < 2048
    · exact ref_2 r w R hR hs (by omega) h2
    by_cases h3 : r < 65536
    · exact ref_3 r w R hR hs (by omega) h3
    exact ref_4 r w R hR hs (by omega)
  · exact ref_no r w R hR (by simpa using hs)
end
end Go.Proofs.YtmchgimbfdeaiaaGreat.Utf
