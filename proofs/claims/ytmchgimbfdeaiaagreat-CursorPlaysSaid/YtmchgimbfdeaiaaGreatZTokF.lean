/- Layer 13: the law TokensScans walked. -/
import Derived.Test.YtmchgimbfdeaiaaGreatZTokE
import Derived.Test.YtmchgimbfdeaiaaGreatZTokD
set_option maxRecDepth 100000
set_option linter.unusedVariables false
namespace Go.Proofs.YtmchgimbfdeaiaaGreat.Tok
open Go.RowKit Go.Lib Go.Proofs.YtmchgimbfdeaiaaGreat.Utf Go.Proofs.YtmchgimbfdeaiaaGreat.Ran Go.Proofs.YtmchgimbfdeaiaaGreat.Dig Go.Proofs.YtmchgimbfdeaiaaGreat.Nam Go.Proofs.YtmchgimbfdeaiaaGreat.Pat

/-- What Scan answers, either way. -/
theorem scn_two (s : ByteArray) : (∃ l, scnS s = (some l, 0, 0) ∧ l.length ≤ 65537 ∧ l ≠ []) ∨ ∃ e z, scnS s = (none, e, z) ∧ e ≠ 0 ∧ 0 ≤ z ∧ z ≤ s.size := by
  unfold scnS
  by_cases h : 65536 < s.size
  · rw [if_pos h]; exact .inr ⟨7, 65536, rfl, by decide, by decide, by omega⟩
  · rw [if_neg h]
    cases q : scnI s 0 false with
    | mk o e =>
      cases o with
      | some l =>
        have h1 := scn_ne (Nat.zero_le _) q
        have h2 := scn_len _ 0 false l e (Nat.le_refl _) (Nat.zero_le _) q
        rw [h1.2]
        exact .inl ⟨l, rfl, by omega, h1.1⟩
      | none =>
        obtain ⟨e, z⟩ := e
        have := scn_fault _ 0 false e z (Nat.le_refl _) (Nat.zero_le _) q
        exact .inr ⟨e, z, rfl, by omega, by omega, by omega⟩
/-- Either answer of Scan behind one contract. -/
theorem scan1_calls (s : ByteArray) (hs : s.size ≤ maxLen) (l : List Tk) (e z : Int) (h : scnS s = (some l, 0, 0) ∧ e = 0 ∧ z = 0 ∨ scnS s = (none, e, z) ∧ l = []) (w : World) (R : Ending → World → Prop)
    (hR : Hid (∀ v' w', RdK w' v' l → Below w.heap.size w w' → R (.returned (.tuple #[v', .agg #[.int .i64 e, .int .i64 z]])) w')) : Calls Tryz.prog 14 #[.string s] w R := by
  refine scan_calls s hs w R (Lib.hid fun l' v' w' h1 rd nb => ?_) (Lib.hid fun e' z' A c w' h1 nb => ?_)
  · rcases h with ⟨h2, rfl, rfl⟩ | ⟨h2, rfl⟩
    · rw [h2] at h1
      simp only [Prod.mk.injEq, Option.some.injEq, and_true] at h1
      subst h1
      exact hR.out _ _ rd nb
    · rw [h2] at h1; simp at h1
  · rcases h with ⟨h2, rfl, rfl⟩ | ⟨h2, rfl⟩
    · rw [h2] at h1; simp at h1
    · rw [h2] at h1
      simp only [Prod.mk.injEq, true_and] at h1
      obtain ⟨rfl, rfl⟩ := h1
      exact hR.out _ _ (RdG.none0 _ _ _) nb
theorem refscan1_calls (s : ByteArray) (hs : s.size ≤ maxLen) (l : List Tk) (e z : Int) (h : scnS s = (some l, 0, 0) ∧ e = 0 ∧ z = 0 ∨ scnS s = (none, e, z) ∧ l = []) (w : World) (R : Ending → World → Prop)
    (hR : Hid (∀ v' w', RdK w' v' l → Below w.heap.size w w' → R (.returned (.tuple #[v', .agg #[.int .i64 e, .int .i64 z]])) w')) : Calls Tryz.prog 6 #[.string s] w R := by
  refine refscan13_calls s hs w R (Lib.hid fun l' v' w' h1 rd _ nb => ?_) (Lib.hid fun e' z' w' h1 nb => ?_)
  · rcases h with ⟨h2, rfl, rfl⟩ | ⟨h2, rfl⟩
    · rw [h2] at h1
      simp only [Prod.mk.injEq, Option.some.injEq, and_true] at h1
      subst h1
      exact hR.out _ _ rd nb
    · rw [h2] at h1; simp at h1
  · rcases h with ⟨h2, rfl, rfl⟩ | ⟨h2, rfl⟩
    · rw [h2] at h1; simp at h1
    · rw [h2] at h1
      simp only [Prod.mk.injEq, true_and] at h1
      obtain ⟨rfl, rfl⟩ := h1
      exact hR.out _ _ (RdG.none0 _ _ _) nb
theorem scn_one (s : ByteArray) : ∃ (l : List Tk) (e z : Int), (scnS s = (some l, 0, 0) ∧ e = 0 ∧ z = 0 ∨ scnS s = (none, e, z) ∧ l = []) ∧ l.length ≤ 65537 := by
  rcases scn_two s with ⟨l, h1, h2, -⟩ | ⟨e, z, h1, -⟩
  · exact ⟨l, 0, 0, .inl ⟨h1, rfl, rfl⟩, h2⟩
  · exact ⟨[], e, z, .inr ⟨h1, rfl⟩, by simp⟩
end Go.Proofs.YtmchgimbfdeaiaaGreat.Tok
