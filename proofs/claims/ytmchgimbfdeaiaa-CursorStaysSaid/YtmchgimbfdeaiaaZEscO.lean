/- The reference's One. -/
import Derived.Test.YtmchgimbfdeaiaaZEscQ
set_option maxRecDepth 100000
set_option linter.unusedVariables false
namespace Go.Proofs.Ytmchgimbfdeaiaa.Esc
open Go.RowKit Go.Lib Go.Proofs.Ytmchgimbfdeaiaa.Utf Go.Proofs.Ytmchgimbfdeaiaa.Ran Go.Proofs.Ytmchgimbfdeaiaa.Cel

abbrev oneR (p : List Int × Nat) : Value := .tuple #[.string (strOfNums p.1), .int .i64 p.2]
theorem uniP_some {l : List Int} {o : Nat} (h : UP l o) : uniP l = (encL (hexV ((l.drop 1).take o)), o + 4) := by unfold uniP; rw [uni_some h]
theorem uniP_no {l : List Int} (h : ∀ o, 1 ≤ o → o ≤ 6 → ¬ UP l o) : uniP l = ([], 0) := by unfold uniP; rw [uni_no h]
/-- UP told of a string t whose second byte is behind the backslash. -/
theorem up_iff {t : ByteArray} {K : Nat} (h4 : 4 ≤ K) (hK : K < t.size) :
    UP ((bl t).drop 2) (K - 3) ↔ byN t 2 = 123 ∧ byN t K = 125 ∧ 0 ≤ hexV (bl (t.extract 3 K)) ∧ scalarB (hexV (bl (t.extract 3 K))) = true := by
  have e1 : ((bl t).drop 2).head? = some (byN t 2 : Int) := by rw [List.head?_drop, bl_get t 2 (by omega)]
  have e2 : ((bl t).drop 2)[1 + (K - 3)]? = some (byN t K : Int) := by rw [List.getElem?_drop, show 2 + (1 + (K - 3)) = K by omega, bl_get t K hK]
  have e3 : ((((bl t).drop 2).drop 1).take (K - 3)) = bl (t.extract 3 K) := by rw [List.drop_drop, bl_extract, List.drop_take]
  unfold UP
  rw [e1, e2, e3]
  simp only [Option.some.injEq]
  constructor
  · rintro ⟨a, b, c⟩; exact ⟨by omega, by omega, c⟩
  · rintro ⟨a, b, c⟩; exact ⟨by omega, by omega, c⟩
theorem up_end {t : ByteArray} {o : Nat} (h : t.size ≤ o + 3) : ¬ UP ((bl t).drop 2) o := by
  rintro ⟨-, h2, -⟩
  rw [List.getElem?_drop, List.getElem?_eq_none (by rw [bl_length]; omega)] at h2
  cases h2

section
variable (q : ByteArray) (k : Nat) (hk : k + 1 < q.size) (w : World) (hs : q.size ≤ 1000000) (t : ByteArray) (ht : q.extract k q.size = t) (R : Ending → World → Prop)
include hk hs ht
end
end Go.Proofs.Ytmchgimbfdeaiaa.Esc
