/- The code of layer 10: Has. -/
import Derived.Test.YtoeianacjnlepaaRelE
set_option maxRecDepth 100000
set_option linter.unusedVariables false
namespace Go.Proofs.Ytoeianacjnlepaa.Rel
open Go.RowKit Go.Lib

theorem relelem_quiet (n : Nat) (P : List (Nat × Nat)) (v : Value) (w : World) (h : RelP w v n P) (a : Int) (b : Bool) (hb : b = decide (0 ≤ a ∧ a < n)) (m : Nat) :
    Calls Try.prog 47 #[v, .int .i64 a] (w.drewN m) fun e w' => e = .returned (.bool b) ∧ w' = w.drewN m :=
  relelem_calls n P v _ (h.below (below_drewN (Below.refl _ _) m)) a b hb _ (Lib.hid ⟨rfl, rfl⟩)
theorem bit_quiet (a : Nat) (ha : a < 64) (w : World) : Calls Try.prog 48 #[.int .i64 a] w fun e w' => e = .returned (.int .u64 (bitN a : Nat)) ∧ w' = w := bit_calls a ha w _ (Lib.hid ⟨rfl, rfl⟩)
theorem relelemnone_quiet (w : World) (a : Int) : Calls Try.prog 47 #[.pointer none, .int .i64 a] w fun e w' => e = .returned (.bool false) ∧ w' = w := relelemnone_calls w a _ (Lib.hid ⟨rfl, rfl⟩)
theorem hasQ_out {n : Nat} {P : List (Nat × Nat)} (hP : InR n P) {a b : Int} (h : ¬ ((0 ≤ a ∧ a < n) ∧ 0 ≤ b ∧ b < n)) : hasQ P a b = false := by
  cases e : hasQ P a b
  · rfl
  · obtain ⟨h0, h1, h2⟩ := hasQ_iff.1 e
    have := hP _ h2
    exact absurd ⟨⟨h0, by omega⟩, h1, by omega⟩ h
theorem and_has {P : List (Nat × Nat)} {f : Nat → Nat} (hf : Rows P f) {a b : Nat} (ha : a < 64) (hb : b < 64) :
    ∃ X : Nat, bits .and .u64 (f a : Nat) (bitN b : Nat) = (X : Int) ∧ (hasQ P a b = true → 0 < X) ∧ (hasQ P a b = false → X = 0) := by
  obtain ⟨g1, g2⟩ := hf a ha
  refine ⟨_, bits_and g1 (bit_wd hb), fun h => ?_, fun h => ?_⟩
  · rw [and_bit, g2, if_pos (decide_eq_true (hasQ_nat.1 h))]; exact bit_pos b
  · rw [and_bit, g2, if_neg]
    intro q
    rw [hasQ_nat.2 (of_decide_eq_true q)] at h
    cases h

set_option maxRecDepth 100000 in
set_option maxHeartbeats 1000000 in
theorem relhasx_calls (n : Nat) (P : List (Nat × Nat)) (a b : Int) (hP : InR n P) (hn : n ≤ 64) (v : Value) (w : World) (h : RelP w v n P) (R : Ending → World → Prop)
    (hR : Hid (∀ m, R (.returned (.bool (hasQ P a b))) (w.drewN m))) : Calls Try.prog 50 #[v, .int .i64 a, .int .i64 b] w R := by
  have cE := Lib.hid fun x B hB m => relelem_quiet n P v w h x B hB m
  by_cases ha : 0 ≤ a ∧ a < n
  · by_cases hb : 0 ≤ b ∧ b < n
    · obtain ⟨A, rfl⟩ : ∃ A : Nat, a = A := ⟨a.toNat, by omega⟩
      obtain ⟨B, rfl⟩ : ∃ B : Nat, b = B := ⟨b.toNat, by omega⟩
      obtain ⟨p, f, rfl, hp, h0, h1, hf⟩ := h
      have hA : A < 64 := by omega
      have hB : B < 64 := by omega
      have k := h1 A hA
      have eA : true = decide (0 ≤ (A : Int) ∧ (A : Int) < n) := (decide_eq_true ha).symm
      have eB : true = decide (0 ≤ (B : Int) ∧ (B : Int) < n) := (decide_eq_true hb).symm
      obtain ⟨X, hX, X1, X2⟩ := and_has hf hA hB
      have cA := Lib.hid (cE.out _ _ eA)
      have cB := Lib.hid (cE.out _ _ eB)
      clear h0 h1 hf ha hb hP hn cE eA eB
      generalize hasQ P A B = Q at *
      cases Q
      · obtain rfl := X2 rfl
        clear X1 X2
        have q0 : ((0 : Int) != 0) = false := by decide
        go_enter Try.func50, Try.ntmps50
        go_wp2_with fail
        go_quiet (first | (go_at_call 48; exact Calls.quiet_of_same (bit_quiet _ hB _)) | (with_reducible exact Calls.quiet_of_same (cA.out _)) | (with_reducible exact Calls.quiet_of_same (cB.out _)))
        go_wp2_with fail
        exact hR.out _
      · have hX0 := X1 rfl
        clear X1 X2
        have q0 : ((X : Int) != 0) = true := by simp; omega
        go_enter Try.func50, Try.ntmps50
        go_wp2_with fail
        go_quiet (first | (go_at_call 48; exact Calls.quiet_of_same (bit_quiet _ hB _)) | (with_reducible exact Calls.quiet_of_same (cA.out _)) | (with_reducible exact Calls.quiet_of_same (cB.out _)))
        go_wp2_with fail
        exact hR.out _
    · rw [hasQ_out hP (fun q => hb q.2)] at hR
      have cA := Lib.hid (cE.out a _ (decide_eq_true ha).symm)
      have cB := Lib.hid (cE.out b _ (decide_eq_false hb).symm)
      obtain ⟨p, rfl⟩ := h.ptr
      clear h ha hb hP hn cE
      go_enter Try.func50, Try.ntmps50
      go_wp2_with fail
      go_quiet (first | (with_reducible exact Calls.quiet_of_same (cA.out _)) | (with_reducible exact Calls.quiet_of_same (cB.out _)))
      go_wp2_with fail
      exact hR.out _
  · rw [hasQ_out hP (fun q => ha q.1)] at hR
    have cA := Lib.hid (cE.out a _ (decide_eq_false ha).symm)
    obtain ⟨p, rfl⟩ := h.ptr
    clear h ha hP hn cE
    go_enter Try.func50, Try.ntmps50
    go_wp2_with fail
    go_quiet ((with_reducible exact Calls.quiet_of_same (cA.out _)))
    go_wp2_with fail
    exact hR.out _
set_option maxRecDepth 100000 in
set_option maxHeartbeats 1000000 in
theorem relhasnonex_calls (a b : Int) (w : World) (R : Ending → World → Prop) (hR : Hid (∀ m, R (.returned (.bool false)) (w.drewN m))) : Calls Try.prog 50 #[.pointer none, .int .i64 a, .int .i64 b] w R := by
  go_enter Try.func50, Try.ntmps50
  go_wp2_with fail
  go_quiet (exact Calls.quiet_of_same (relelemnone_quiet _ _))
  go_wp2_with fail
  exact hR.out _
end Go.Proofs.Ytoeianacjnlepaa.Rel
