/- Layer 13: the chapter's example, lives; the law TokensMarks walked. -/
import Derived.Test.YtafpdipnmjnicaaG11
import Derived.Test.YtafpdipnmjnicaaG8
import Derived.Test.YtafpdipnmjnicaaFltK
set_option maxRecDepth 100000
set_option linter.unusedVariables false
namespace Go.Proofs.Ytafpdipnmjnicaa.Tok
open Go.RowKit Go.Lib Go.Proofs.Ytafpdipnmjnicaa.Utf Go.Proofs.Ytafpdipnmjnicaa.Ran Go.Proofs.Ytafpdipnmjnicaa.Dig Go.Proofs.Ytafpdipnmjnicaa.Nam Go.Proofs.Ytafpdipnmjnicaa.Pat

theorem wfU8 {n : Int} (h : (Lit.int .u8 n).wf = true) : 0 ≤ n ∧ n < 256 := by
  simp only [Lit.wf, Bool.and_eq_true, decide_eq_true_eq] at h
  exact ⟨Int.le_trans (by decide) h.1, Int.lt_of_le_of_lt h.2 (by decide)⟩
def exT : List Tk := [(1, 0, 1, ⟨#[97]⟩, 0), (4, 1, 2, ⟨#[58]⟩, 0), (2, 2, 4, ByteArray.empty, -1), (0, 4, 4, ByteArray.empty, 0)]
theorem ex_scan : scnS ⟨#[97, 58, 45, 49]⟩ = (some exT, 0, 0) := by kernel_rfl
set_option maxRecDepth 100000 in
set_option maxHeartbeats 1000000 in
theorem lives13_calls (w : World) (R : Ending → World → Prop) (hR : Hid (∀ w', Below w.heap.size w w' → R (.returned (.bool true)) w')) : Calls Try.prog 6 #[] w R := by
  go_enter Try.func6, Try.ntmps6
  go_wp2_with fail
  refine scan_calls _ (by decide) _ _ (Lib.hid fun l v1 w1 h1 rd n1 => ?_) (Lib.hid fun e z A c w1 h1 n1 => ?_)
  · rw [ex_scan] at h1
    simp only [Prod.mk.injEq, Option.some.injEq, and_true] at h1
    subst h1
    obtain ⟨A, c, rfl, -, hr⟩ := rd.op
    obtain ⟨g, o, rfl, hg, hca⟩ := hr (by decide)
    obtain ⟨-, -, -, a3, -⟩ := hca 0 (by decide)
    obtain ⟨-, -, -, b3, -⟩ := hca 1 (by decide)
    obtain ⟨-, -, -, -, c4⟩ := hca 2 (by decide)
    obtain ⟨d0, -, -, -, -⟩ := hca 3 (by decide)
    have bA := (Below.refl w1.heap.size w1).alloc (Nat.le_refl _) (.cells #[.int .i64 0, .int .i64 0] 26)
    replace a3 := (bA.cell (p := ⟨g, o + 0 * 5 + 3, none⟩) hg).trans a3
    replace b3 := (bA.cell (p := ⟨g, o + 1 * 5 + 3, none⟩) hg).trans b3
    replace c4 := (bA.cell (p := ⟨g, o + 2 * 5 + 4, none⟩) hg).trans c4
    replace d0 := (bA.cell (p := ⟨g, o + 3 * 5, none⟩) hg).trans d0
    obtain ⟨k0, k1⟩ := box_two' w1 (.int .i64 0) (.int .i64 0) 26
    have nf := Lib.hid (n1.trans (bA.mono n1.size))
    simp only [tN, exT, List.getD_cons_zero, List.getD_cons_succ] at a3 b3 c4 d0
    clear hr hca rd n1 bA
    go_wp2_with fail
    exact hR.out _ nf.out
  · rw [ex_scan] at h1; simp at h1
set_option maxRecDepth 100000 in
set_option maxHeartbeats 1000000 in
theorem marks13_walk (s : ByteArray) (hs : s.size ≤ maxLen) (i : Int) (hi : -9223372036854775808 ≤ i ∧ i ≤ 9223372036854775807) (x : Int) (hx : 0 ≤ x ∧ x < 256) (w : World) (R : Ending → World → Prop)
    (hR : Hid (∀ w', Below w.heap.size w w' → R (.returned (.bool true)) w')) : Calls Try.prog 4 #[.string s, .int .i64 i, .int .u8 x] w R := by
  have c1 := Lib.hid fun (W : World) R hR => mark_calls s i hs hi W R hR
  have c2 := Lib.hid fun (W : World) R hR => refmark13_calls s i hs W R hi hR
  obtain ⟨c, rfl⟩ : ∃ c : Nat, x = c := ⟨x.toNat, by omega⟩
  have c3 := fun (W : World) R hR => blank_calls c (by omega) W R hR
  generalize markS s i = X at *
  have hX : (X.toList == X.toList) = true := sq_t rfl
  have hcs : (c = 9 ∧ blankB c = true) ∨ (c = 10 ∧ blankB c = true) ∨ (c = 13 ∧ blankB c = true) ∨ (c = 32 ∧ blankB c = true) ∨ (blankB c = false ∧ ((c : Int) == 9) = false ∧ ((c : Int) == 10) = false ∧ ((c : Int) == 13) = false ∧ ((c : Int) == 32) = false) := by
    by_cases h : blankB c = true
    · have h2 := h
      unfold blankB at h2
      rw [decide_eq_true_iff] at h2
      rcases h2 with e | e | e | e
      · exact .inl ⟨e, h⟩
      · exact .inr (.inl ⟨e, h⟩)
      · exact .inr (.inr (.inl ⟨e, h⟩))
      · exact .inr (.inr (.inr (.inl ⟨e, h⟩)))
    · have h2 := h
      unfold blankB at h2
      simp at h2
      refine .inr (.inr (.inr (.inr ⟨by simpa using h, by simp; omega, by simp; omega, by simp; omega, by simp; omega⟩)))
  rcases hcs with ⟨rfl, hb⟩ | ⟨rfl, hb⟩ | ⟨rfl, hb⟩ | ⟨rfl, hb⟩ | ⟨hb, q1, q2, q3, q4⟩
  all_goals
    rw [hb] at c3
    replace c3 := Lib.hid c3
    clear hb
    go_enter Try.func4, Try.ntmps4
    go_wp2_with fail
    refine c1.out _ _ (Lib.hid fun w1 n1 => ?_)
    replace n1 := Lib.hid n1
    go_wp2_with fail
    refine c2.out _ _ (Lib.hid fun w2 n2 => ?_)
    have n3 := Lib.hid (n1.out.trans (n2.mono n1.out.size))
    clear n1 n2
    go_wp2_with fail
    refine c3.out _ _ (Lib.hid fun w4 n4 => ?_)
    have n5 := Lib.hid (n3.out.trans (n4.mono n3.out.size))
    clear n3 n4
    go_wp2_with fail
    refine lives13_calls _ _ (Lib.hid fun w6 n6 => ?_)
    have n7 := Lib.hid (n5.out.trans (n6.mono n5.out.size))
    clear n5 n6
    go_wp2_with fail
    exact hR.out _ n7.out
end Go.Proofs.Ytafpdipnmjnicaa.Tok
