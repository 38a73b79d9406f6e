/- The code's take. -/
import Derived.Test.YtjcmljdkegpjbaaPatI
set_option linter.unusedVariables false
namespace Go.Proofs.Ytjcmljdkegpjbaa.Pat
open Go.RowKit Go.Lib Go.Proofs.Ytjcmljdkegpjbaa.Utf Go.Proofs.Ytjcmljdkegpjbaa.Nam Go.Proofs.Ytjcmljdkegpjbaa.Dig

theorem stp_dot {s : ByteArray} {k : Nat} (h : byN s k = 46) : stpS s k = nmS s (k + 1) 1 := by
  rw [stpS_eq, if_pos (.inl h), if_neg (by omega : ¬ byN s k = 33)]; rfl
theorem stp_bang {s : ByteArray} {k : Nat} (h : byN s k = 33) : stpS s k = nmS s (k + 1) 5 := by
  rw [stpS_eq, if_pos (.inr h), if_pos h]; rfl
theorem stp_some {s : ByteArray} {k : Nat} (h : byN s k = 63) : stpS s k = ((4, 0, ⟨#[]⟩), ((k + 1 : Nat) : Int), 0, 0) := by
  rw [stpS_eq, if_neg (by omega), if_pos h]
theorem stp_brack {s : ByteArray} {k : Nat} (h : byN s k = 91) : stpS s k = brS s (k + 1) := by
  rw [stpS_eq, if_neg (by omega), if_neg (by omega), if_neg (by omega)]; rfl
theorem stp_else {s : ByteArray} {k : Nat} (h : ¬ byN s k = 46) (h2 : ¬ byN s k = 33) (h3 : ¬ byN s k = 63) (h4 : ¬ byN s k = 91) : stpS s k = ((0, 0, ⟨#[]⟩), 0, 4, (k : Int)) := by
  rw [stpS_eq, if_neg (by omega), if_neg h3, if_pos h4]

set_option maxRecDepth 100000 in
set_option maxHeartbeats 2000000 in
theorem tak_calls (s : ByteArray) (k : Nat) (hk : k < s.size) (hs : s.size ≤ 1000000) (w : World) (R : Ending → World → Prop)
    (hR : Hid (∀ w', Below w.heap.size w w' → R (.returned (stT (stpS s k))) w')) : Calls Try.prog 16 #[.string s, .int .i64 k] w R := by
  have hg := byN_get s k hk
  have hb := byN_lt s k
  have fin := Lib.hid (two_fin w)
  have hcast : ((k + 1 : Nat) : Int) = (k : Int) + 1 := by omega
  by_cases c1 : byN s k = 46 ∨ byN s k = 33 ∨ byN s k = 91
  · obtain ⟨d, hd⟩ : ∃ d, stpS s k = d := ⟨_, rfl⟩
    rw [hd] at hR
    have cC : (byN s k = 46 → ∀ (W : World) R, Hid (∀ w', Below W.heap.size W w' → R (.returned (stT d)) w') → Calls Try.prog 30 #[.string s, .int .i64 ((k : Int) + 1), .int .i64 1] W R) ∧
        (byN s k = 33 → ∀ (W : World) R, Hid (∀ w', Below W.heap.size W w' → R (.returned (stT d)) w') → Calls Try.prog 30 #[.string s, .int .i64 ((k : Int) + 1), .int .i64 5] W R) ∧
        (byN s k = 91 → ∀ (W : World) R, Hid (∀ w', Below W.heap.size W w' → R (.returned (stT d)) w') → Calls Try.prog 31 #[.string s, .int .i64 ((k : Int) + 1)] W R) := by
      refine ⟨fun h W R hR => ?_, fun h W R hR => ?_, fun h W R hR => ?_⟩
      · rw [← hcast]; rw [stp_dot h] at hd; subst hd; exact named_calls s (k + 1) 1 (by omega) hs W R hR
      · rw [← hcast]; rw [stp_bang h] at hd; subst hd; exact named_calls s (k + 1) 5 (by omega) hs W R hR
      · rw [← hcast]; rw [stp_brack h] at hd; subst hd; exact brack_calls s (k + 1) (by omega) hs W R hR
    obtain ⟨cA, cB, cD⟩ := cC
    clear hd hcast
    obtain ⟨⟨x0, x1, x2⟩, e, f, z⟩ := d
    unfold stT stV at cA cB cD
    simp only at cA cB cD
    rcases c1 with c1 | c1 | c1
    · replace cA := Lib.hid (cA c1)
      clear cB cD
      rw [c1] at hg hb
      go_enter Try.func16, Try.ntmps16
      go_wp2_with fail
      refine cA.out _ _ (Lib.hid fun w1 n1 => ?_)
      obtain ⟨⟨r0, r1, r2⟩, ⟨r3, r4⟩, r5, r6, r7, r8⟩ := fin.out w1 n1
      have nb := Lib.hid r8
      clear n1 r8
      go_wp2_with fail
      refine bodyPost_ret ?_ rfl (hR.out _ ?_)
      · simp [results, Try.results16, go_sem, stT, stV, r0, r1, r2, r3, r4]
      · exact five nb.out _ _ _ _ _
    · replace cB := Lib.hid (cB c1)
      clear cA cD
      rw [c1] at hg hb
      go_enter Try.func16, Try.ntmps16
      go_wp2_with fail
      refine cB.out _ _ (Lib.hid fun w1 n1 => ?_)
      obtain ⟨⟨r0, r1, r2⟩, ⟨r3, r4⟩, r5, r6, r7, r8⟩ := fin.out w1 n1
      have nb := Lib.hid r8
      clear n1 r8
      go_wp2_with fail
      refine bodyPost_ret ?_ rfl (hR.out _ ?_)
      · simp [results, Try.results16, go_sem, stT, stV, r0, r1, r2, r3, r4]
      · exact five nb.out _ _ _ _ _
    · replace cD := Lib.hid (cD c1)
      clear cA cB
      rw [c1] at hg hb
      go_enter Try.func16, Try.ntmps16
      go_wp2_with fail
      refine cD.out _ _ (Lib.hid fun w1 n1 => ?_)
      obtain ⟨⟨r0, r1, r2⟩, ⟨r3, r4⟩, r5, r6, r7, r8⟩ := fin.out w1 n1
      have nb := Lib.hid r8
      clear n1 r8
      go_wp2_with fail
      refine bodyPost_ret ?_ rfl (hR.out _ ?_)
      · simp [results, Try.results16, go_sem, stT, stV, r0, r1, r2, r3, r4]
      · exact five nb.out _ _ _ _ _
  · clear fin
    by_cases c2 : byN s k = 63
    · rw [stp_some c2, hcast] at hR
      rw [c2] at hg
      clear hcast c1
      go_enter Try.func16, Try.ntmps16
      go_wp2_with fail
      refine bodyPost_ret ?_ rfl (hR.out _ ?_)
      · simp [results, Try.results16, go_sem, stT, stV]
      · exact ((Below.refl w.heap.size w).alloc (Nat.le_refl _) _).alloc (by simp) _
    · rw [stp_else (by omega) (by omega) c2 (by omega)] at hR
      have m46 : (((byN s k : Nat) : Int) == 46) = false := by simp; omega
      have m33 : (((byN s k : Nat) : Int) == 33) = false := by simp; omega
      have m63 : (((byN s k : Nat) : Int) == 63) = false := by simp; omega
      have m91 : (((byN s k : Nat) : Int) == 91) = false := by simp; omega
      clear c1 c2 hcast
      generalize byN s k = c at *
      go_enter Try.func16, Try.ntmps16
      go_wp2_with fail
      refine bodyPost_ret ?_ rfl (hR.out _ ?_)
      · simp [results, Try.results16, go_sem, stT, stV]
      · exact ((Below.refl w.heap.size w).alloc (Nat.le_refl _) _).alloc (by simp) _
end Go.Proofs.Ytjcmljdkegpjbaa.Pat
