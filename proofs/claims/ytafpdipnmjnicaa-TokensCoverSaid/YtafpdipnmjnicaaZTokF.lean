/- Layer 13: the law TokensScans walked. -/
import Derived.Test.YtafpdipnmjnicaaZTokE
import Derived.Test.YtafpdipnmjnicaaZTokD
set_option maxRecDepth 100000
set_option linter.unusedVariables false
namespace Go.Proofs.Ytafpdipnmjnicaa.Tok
open Go.RowKit Go.Lib Go.Proofs.Ytafpdipnmjnicaa.Utf Go.Proofs.Ytafpdipnmjnicaa.Ran Go.Proofs.Ytafpdipnmjnicaa.Dig Go.Proofs.Ytafpdipnmjnicaa.Nam Go.Proofs.Ytafpdipnmjnicaa.Pat

/-- What Scan answers, either way. -/
theorem scn_two (s : ByteArray) : (∃ l, scnS s = (some l, 0, 0) ∧ l.length ≤ 65537 ∧ l ≠ []) ∨ ∃ e z, scnS s = (none, e, z) ∧ e ≠ 0 ∧ 0 ≤ z ∧ z ≤ s.size := by
  unfold scnS
  by_cases h : 65536 < s.size
  · rw [if_pos h]; exact .inr ⟨7, 65536, rfl, by decide, by decide, by omega⟩
  · rw [if_neg h]
    cases q : scnI s 0 false with
    | mk o e =>
      cases o with
      | some l =>
        have h1 := scn_ne (Nat.zero_le _) q
        have h2 := scn_len _ 0 false l e (Nat.le_refl _) (Nat.zero_le _) q
        rw [h1.2]
        exact .inl ⟨l, rfl, by omega, h1.1⟩
      | none =>
        obtain ⟨e, z⟩ := e
        have := scn_fault _ 0 false e z (Nat.le_refl _) (Nat.zero_le _) q
        exact .inr ⟨e, z, rfl, by omega, by omega, by omega⟩
/-- Either answer of Scan behind one contract. -/
theorem scan1_calls (s : ByteArray) (hs : s.size ≤ maxLen) (l : List Tk) (e z : Int) (h : scnS s = (some l, 0, 0) ∧ e = 0 ∧ z = 0 ∨ scnS s = (none, e, z) ∧ l = []) (w : World) (R : Ending → World → Prop)
    (hR : Hid (∀ v' w', RdK w' v' l → Below w.heap.size w w' → R (.returned (.tuple #[v', .agg #[.int .i64 e, .int .i64 z]])) w')) : Calls Try.prog 7 #[.string s] w R := by
  refine scan_calls s hs w R (Lib.hid fun l' v' w' h1 rd nb => ?_) (Lib.hid fun e' z' A c w' h1 nb => ?_)
  · rcases h with ⟨h2, rfl, rfl⟩ | ⟨h2, rfl⟩
    · rw [h2] at h1
      simp only [Prod.mk.injEq, Option.some.injEq, and_true] at h1
      subst h1
      exact hR.out _ _ rd nb
    · rw [h2] at h1; simp at h1
  · rcases h with ⟨h2, rfl, rfl⟩ | ⟨h2, rfl⟩
    · rw [h2] at h1; simp at h1
    · rw [h2] at h1
      simp only [Prod.mk.injEq, true_and] at h1
      obtain ⟨rfl, rfl⟩ := h1
      exact hR.out _ _ (RdG.none0 _ _ _) nb
theorem refscan1_calls (s : ByteArray) (hs : s.size ≤ maxLen) (l : List Tk) (e z : Int) (h : scnS s = (some l, 0, 0) ∧ e = 0 ∧ z = 0 ∨ scnS s = (none, e, z) ∧ l = []) (w : World) (R : Ending → World → Prop)
    (hR : Hid (∀ v' w', RdK w' v' l → Below w.heap.size w w' → R (.returned (.tuple #[v', .agg #[.int .i64 e, .int .i64 z]])) w')) : Calls Try.prog 8 #[.string s] w R := by
  refine refscan13_calls s hs w R (Lib.hid fun l' v' w' h1 rd _ nb => ?_) (Lib.hid fun e' z' w' h1 nb => ?_)
  · rcases h with ⟨h2, rfl, rfl⟩ | ⟨h2, rfl⟩
    · rw [h2] at h1
      simp only [Prod.mk.injEq, Option.some.injEq, and_true] at h1
      subst h1
      exact hR.out _ _ rd nb
    · rw [h2] at h1; simp at h1
  · rcases h with ⟨h2, rfl, rfl⟩ | ⟨h2, rfl⟩
    · rw [h2] at h1; simp at h1
    · rw [h2] at h1
      simp only [Prod.mk.injEq, true_and] at h1
      obtain ⟨rfl, rfl⟩ := h1
      exact hR.out _ _ (RdG.none0 _ _ _) nb
theorem scn_one (s : ByteArray) : ∃ (l : List Tk) (e z : Int), (scnS s = (some l, 0, 0) ∧ e = 0 ∧ z = 0 ∨ scnS s = (none, e, z) ∧ l = []) ∧ l.length ≤ 65537 := by
  rcases scn_two s with ⟨l, h1, h2, -⟩ | ⟨e, z, h1, -⟩
  · exact ⟨l, 0, 0, .inl ⟨h1, rfl, rfl⟩, h2⟩
  · exact ⟨[], e, z, .inr ⟨h1, rfl⟩, by simp⟩
set_option maxRecDepth 100000 in
set_option maxHeartbeats 1000000 in
theorem scans13_walk (s : ByteArray) (hs : s.size ≤ maxLen) (w : World) (R : Ending → World → Prop)
    (hR : Hid (∀ w', Below w.heap.size w w' → R (.returned (.bool true)) w')) : Calls Try.prog 3 #[.string s] w R := by
  obtain ⟨l, e, z, hv, hl⟩ := scn_one s
  have c1 := Lib.hid fun (W : World) R hR => scan1_calls s hs l e z hv W R hR
  have c2 := Lib.hid fun (W : World) R hR => refscan1_calls s hs l e z hv W R hR
  replace hs : s.size ≤ 9223372036854775807 := hs
  clear hv
  by_cases h : 2000 < s.size ∧ s.size ≤ 65536
  · obtain ⟨h1, h2⟩ := h
    go_enter Try.func3, Try.ntmps3
    go_wp2_with fail
    refine lives13_calls _ _ (Lib.hid fun w6 n6 => ?_)
    go_wp2_with fail
    exact hR.out _ n6
  · have hh : ¬ 2000 < s.size ∨ (2000 < s.size ∧ ¬ s.size ≤ 65536) := by omega
    have he : (e == e) = true := by simp
    have hz : (z == z) = true := by simp
    clear h
    rcases hh with h | ⟨h, h'⟩
    all_goals
      go_enter Try.func3, Try.ntmps3
      go_wp2_with fail
      refine c1.out _ _ (Lib.hid fun v1 w1 r1 n1 => ?_)
      obtain ⟨A1, d1, rfl, -, -⟩ := r1.op
      have bA := (Below.refl w1.heap.size w1).alloc (Nat.le_refl _) (.cells #[.int .i64 e, .int .i64 z] 26)
      obtain ⟨k0, k1⟩ := box_two' w1 (.int .i64 e) (.int .i64 z) 26
      have n2 := Lib.hid (n1.trans (bA.mono n1.size))
      have r2 := Lib.hid (r1.below bA)
      have hB : w1.heap.size < (w1.alloc (.cells #[.int .i64 e, .int .i64 z] 26)).heap.size := by simp
      clear n1 r1 bA
      go_wp2_with fail
      generalize w1.alloc (.cells #[.int .i64 e, .int .i64 z] 26) = W2 at *
      generalize hb1 : w1.heap.size = b1 at *
      have hb1' := Lib.hid hb1
      clear hb1
      refine c2.out _ _ (Lib.hid fun v3 w3 r3 n3 => ?_)
      obtain ⟨A3, d3, rfl, -, -⟩ := r3.op
      have bC := (Below.refl w3.heap.size w3).alloc (Nat.le_refl _) (.cells #[.int .i64 e, .int .i64 z] 26)
      obtain ⟨j0, j1⟩ := box_two' w3 (.int .i64 e) (.int .i64 z) 26
      have nA := n3.trans (bC.mono n3.size)
      have n4 := Lib.hid (n2.out.trans (nA.mono n2.out.size))
      have r4 := (r2.out.below nA)
      have r5 := (r3.below bC)
      have k0' := (nA.cell (p := ⟨b1, 0, none⟩) hB).trans k0
      have k1' := (nA.cell (p := ⟨b1, 1, none⟩) hB).trans k1
      have cS := Lib.hid fun (R : Ending → World → Prop) (hR : Hid (∀ w', Below (w3.alloc (.cells #[.int .i64 e, .int .i64 z] 26)).heap.size (w3.alloc (.cells #[.int .i64 e, .int .i64 z] 26)) w' → R (.returned (.bool true)) w')) => refsame13_calls l l _ _ _ r4 r5 (by omega) (by omega) R (by rw [decide_eq_true (rfl : l = l)]; exact hR)
      have hB3 : b1 < w3.heap.size := Nat.lt_of_lt_of_le hB n3.size
      have hB4 : w3.heap.size < (w3.alloc (.cells #[.int .i64 e, .int .i64 z] 26)).heap.size := by simp
      clear n2 r2 r3 n3 bC nA r4 r5 k0 k1
      go_wp2_with fail
      generalize w3.alloc (.cells #[.int .i64 e, .int .i64 z] 26) = W4 at *
      refine cS.out _ (Lib.hid fun w5 n5 => ?_)
      have n6 := Lib.hid (n4.out.trans (n5.mono n4.out.size))
      have k0 := (n5.cell (p := ⟨b1, 0, none⟩) (Nat.lt_trans hB3 hB4)).trans k0'
      have k1 := (n5.cell (p := ⟨b1, 1, none⟩) (Nat.lt_trans hB3 hB4)).trans k1'
      have i0 := (n5.cell (p := ⟨w3.heap.size, 0, none⟩) hB4).trans j0
      have i1 := (n5.cell (p := ⟨w3.heap.size, 1, none⟩) hB4).trans j1
      clear n5 n4 k0' k1' j0 j1 cS
      go_wp2_with fail
      refine lives13_calls _ _ (Lib.hid fun w6 n7 => ?_)
      have n8 := Lib.hid (n6.out.trans (n7.mono n6.out.size))
      clear n6 n7
      go_wp2_with fail
      exact hR.out _ n8.out
end Go.Proofs.Ytafpdipnmjnicaa.Tok
