/- The code's One, written, Unit. -/
import Derived.Test.YthelhplcijhioaaGreatZEscC
set_option maxRecDepth 100000
set_option linter.unusedVariables false
namespace Go.Proofs.YthelhplcijhioaaGreat.Esc
open Go.RowKit Go.Lib Go.Proofs.YthelhplcijhioaaGreat.Utf Go.Proofs.YthelhplcijhioaaGreat.Ran Go.Proofs.YthelhplcijhioaaGreat.Cel

/-- The escape at any index: none outside the string. -/
def oneP (q : ByteArray) (i : Int) : List Int × Nat := if i < 0 ∨ (q.size : Int) ≤ i + 1 then ([], 0) else oneL ((bl q).drop i.toNat)
theorem oneL_other {c0 c : Int} {l : List Int} (h : c0 ≠ 92) : oneL (c0 :: c :: l) = ([], 0) := by rw [oneL, if_pos h]
theorem oneL_esc {c : Int} {l : List Int} : oneL (92 :: c :: l) = if c = 34 ∨ c = 92 then ([c], 2) else if c = 116 then ([9], 2) else if c = 110 then ([10], 2) else if c = 114 then ([13], 2)
    else if c = 120 then byteP l else if c = 117 then uniP l else ([], 0) := by rw [oneL, if_neg (by decide)]; rfl
set_option maxRecDepth 100000 in
set_option maxHeartbeats 2000000 in
theorem one_calls (q : ByteArray) (i : Int) (w : World) (hs : q.size ≤ 1000000) (R : Ending → World → Prop)
    (hR : Hid (∀ w', Below w.heap.size w w' → R (.returned (oneT (oneP q i))) w')) : Calls Tryz.prog 147 #[.string q, .int .i64 i] w R := by
  by_cases ho : i < 0 ∨ (q.size : Int) ≤ i + 1
  · have hu : oneP q i = ([], 0) := if_pos ho
    rw [hu] at hR
    clear hu
    by_cases h : i < 0
    · go_enter Tryz.func147, Tryz.ntmps147
      go_wp2_with fail
      go_ret3
      exact hR.out _ (Below.refl _ _)
    · have h2 : (q.size : Int) - 1 ≤ i := by omega
      go_enter Tryz.func147, Tryz.ntmps147
      go_wp2_with fail
      go_ret3
      exact hR.out _ (Below.refl _ _)
  · have hu : oneP q i = oneL ((bl q).drop i.toNat) := if_neg ho
    obtain ⟨k, rfl⟩ : ∃ k : Nat, i = k := ⟨i.toNat, by omega⟩
    have hk : k + 1 < q.size := by omega
    rw [Int.toNat_natCast, bl_drop (by omega), bl_drop hk, ← bl_from (i := k + 1 + 1)] at hu
    rw [hu] at hR
    clear hu ho
    have hk1 : ¬ (q.size : Int) - 1 ≤ k := by omega
    have hk2 : (k : Int) + 2 ≤ q.size := by omega
    have hb0 := byN_lt q k
    have hb1 := byN_lt q (k + 1)
    have g0 := byN_get q k (by omega)
    have g1 := byN_get q (k + 1) hk
    have hz : (q.extract (k + 1 + 1) q.size).size ≤ 1000000 := by rw [ByteArray.size_extract]; omega
    have cB := fun (W : World) R hR => oneByte_calls (q.extract (k + 1 + 1) q.size) W hz R hR
    have cU := fun (W : World) R hR => oneScalar_calls (q.extract (k + 1 + 1) q.size) W hz R hR
    generalize byN q k = c0 at *
    generalize byN q (k + 1) = c at *
    by_cases h0 : c0 = 92
    · subst h0
      rw [show ((92 : Nat) : Int) = 92 from rfl, oneL_esc] at hR
      by_cases h1 : c = 34
      · subst h1
        clear cB cU
        rw [if_pos (by decide)] at hR
        go_enter Tryz.func147, Tryz.ntmps147
        go_wp2_with fail
        go_ret3
        exact hR.out _ (Below.refl _ _)
      by_cases h2 : c = 92
      · subst h2
        clear cB cU
        rw [if_pos (by decide)] at hR
        go_enter Tryz.func147, Tryz.ntmps147
        go_wp2_with fail
        go_ret3
        exact hR.out _ (Below.refl _ _)
      rw [if_neg (by omega)] at hR
      by_cases h3 : c = 116
      · subst h3
        clear cB cU
        rw [if_pos (by decide)] at hR
        go_enter Tryz.func147, Tryz.ntmps147
        go_wp2_with fail
        go_ret3
        exact hR.out _ (Below.refl _ _)
      rw [if_neg (by omega)] at hR
      by_cases h4 : c = 110
      · subst h4
        clear cB cU
        rw [if_pos (by decide)] at hR
        go_enter Tryz.func147, Tryz.ntmps147
        go_wp2_with fail
        go_ret3
        exact hR.out _ (Below.refl _ _)
      rw [if_neg (by omega)] at hR
      by_cases h5 : c = 114
      · subst h5
        clear cB cU
        rw [if_pos (by decide)] at hR
        go_enter Tryz.func147, Tryz.ntmps147
        go_wp2_with fail
        go_ret3
        exact hR.out _ (Below.refl _ _)
      rw [if_neg (by omega)] at hR
      by_cases h6 : c = 120
      · subst h6
        clear cU
        rw [if_pos (by decide)] at hR
        generalize byteP (bl (q.extract (k + 1 + 1) q.size)) = p at *
        replace cB := Lib.hid cB
        go_enter Tryz.func147, Tryz.ntmps147
        go_wp2_with fail
        refine cB.out _ _ (fun w1 n1 => ?_)
        go_wp2_with fail
        go_ret3
        exact ret3t (hR.out _ n1) rfl rfl (by simp)
      rw [if_neg (by omega)] at hR
      by_cases h7 : c = 117
      · subst h7
        clear cB
        rw [if_pos (by decide)] at hR
        generalize uniP (bl (q.extract (k + 1 + 1) q.size)) = p at *
        replace cU := Lib.hid cU
        go_enter Tryz.func147, Tryz.ntmps147
        go_wp2_with fail
        refine cU.out _ _ (fun w1 n1 => ?_)
        go_wp2_with fail
        go_ret3
        exact ret3t (hR.out _ n1) rfl rfl (by simp)
      rw [if_neg (by omega)] at hR
      clear cB cU
      have e1 : ¬ (c : Int) = 34 := by omega
      have e2 : ¬ (c : Int) = 92 := by omega
      have e3 : ¬ (c : Int) = 116 := by omega
      have e4 : ¬ (c : Int) = 110 := by omega
      have e5 : ¬ (c : Int) = 114 := by omega
      have e6 : ¬ (c : Int) = 120 := by omega
      have e7 : ¬ (c : Int) = 117 := by omega
      go_enter Tryz.func147, Tryz.ntmps147
      go_wp2_with fail
      go_ret3
      exact hR.out _ (Below.refl _ _)
    · clear cB cU
      rw [oneL_other (by omega)] at hR
      have e2 : ¬ (c0 : Int) = 92 := by omega
      have e3 : ((c0 : Int) != 92) = true := by simpa using e2
      go_enter Tryz.func147, Tryz.ntmps147
      go_wp2_with fail
      go_ret3
      exact hR.out _ (Below.refl _ _)
end Go.Proofs.YthelhplcijhioaaGreat.Esc
