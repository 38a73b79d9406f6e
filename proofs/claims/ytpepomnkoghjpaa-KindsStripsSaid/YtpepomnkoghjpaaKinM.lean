/- Layer 15: what the laws share. -/
import Derived.Test.YtpepomnkoghjpaaKinL
set_option maxRecDepth 100000
set_option linter.unusedVariables false
namespace Go.Proofs.Ytpepomnkoghjpaa.Kin
open Go.RowKit Go.Lib Go.Proofs.Ytpepomnkoghjpaa.Utf Go.Proofs.Ytpepomnkoghjpaa.Nam Go.Proofs.Ytpepomnkoghjpaa.Lat

theorem own_lives2 : ownB (⟨2, 0, 1, 0, 0, [], ByteArray.empty, 0⟩ : TH) .nil = true := by unfold ownB; simp [Fo.len]
theorem own_lives1 : ownB (⟨1, 7, 0, 0, 0, [], ByteArray.empty, 0⟩ : TH) .nil = true := by unfold ownB; simp [Fo.len]
theorem lives_a : wcS (⟨2, 0, 1, 0, 0, [], ByteArray.empty, 0⟩ : TH) .nil = (20, 0, 1) := by unfold wcS; rw [wrB_2 (M := 1) rfl (by decide) (by decide) own_lives2 rfl]; rfl
theorem lives_b : wcS (⟨1, 7, 0, 0, 0, [], ByteArray.empty, 0⟩ : TH) .nil = (0, 0, 1) := by unfold wcS; rw [wrB_1 (M := 1) rfl (by decide) (by decide) own_lives1 rfl]
set_option maxRecDepth 100000 in
set_option maxHeartbeats 2000000 in
theorem lives15_calls (w : World) (R : Ending → World → Prop) (hR : Hid (∀ w', Below w.heap.size w w' → R (.returned (.bool true)) w')) : Calls Try.prog 7 #[] w R := by
  have cA := Lib.hid fun (W : World) R hR => (show Calls Try.prog 8 #[.agg #[.int .i64 2, .int .i64 0, .int .i64 1, .int .i64 0, .int .i64 0, .slice none 0 0, .slice none 0 0, .string ⟨#[]⟩, .int .i64 0]] W R from right15_calls .nil (⟨2, 0, 1, 0, 0, [], ByteArray.empty, 0⟩ : TH) (.slice none 0 0) (.slice none 0 0) W ⟨⟨by decide, by decide⟩, ⟨by decide, by decide⟩, ⟨by decide, by decide⟩, ⟨by decide, by decide⟩, ⟨by decide, by decide⟩, by simp, Nat.zero_le _, ⟨by decide, by decide⟩, Nat.zero_le _⟩ (Nat.zero_le _) trivial ⟨RdG.none0 _ _ _, RdSl.nil _ _ _⟩ R hR)
  have cB := Lib.hid fun (W : World) R hR => (show Calls Try.prog 8 #[.agg #[.int .i64 1, .int .i64 7, .int .i64 0, .int .i64 0, .int .i64 0, .slice none 0 0, .slice none 0 0, .string ⟨#[]⟩, .int .i64 0]] W R from right15_calls .nil (⟨1, 7, 0, 0, 0, [], ByteArray.empty, 0⟩ : TH) (.slice none 0 0) (.slice none 0 0) W ⟨⟨by decide, by decide⟩, ⟨by decide, by decide⟩, ⟨by decide, by decide⟩, ⟨by decide, by decide⟩, ⟨by decide, by decide⟩, by simp, Nat.zero_le _, ⟨by decide, by decide⟩, Nat.zero_le _⟩ (Nat.zero_le _) trivial ⟨RdG.none0 _ _ _, RdSl.nil _ _ _⟩ R hR)
  rw [lives_a] at cA
  rw [lives_b] at cB
  go_enter Try.func7, Try.ntmps7
  go_wp2_with fail
  refine cA.out _ _ (Lib.hid fun w1 n1 => ?_)
  go_wp2_with fail
  refine cB.out _ _ (Lib.hid fun w2 n2 => ?_)
  have fin := Lib.hid (hR.out _ (n1.trans (n2.mono n1.size)))
  clear hR cA cB n1 n2
  go_wp2_with fail
  exact fin.out
/-- Is a type more than is gone through? -/
def greatB (f : Ft) : Bool := decide (2000 < cW f 1) || decide (60 < wrap64 (dW f 0 + 1))
set_option maxRecDepth 100000 in
set_option maxHeartbeats 2000000 in
theorem great15_calls (f : Ft) (h : TH) (nv pv : Value) (w : World) (hfl : f.len ≤ maxLen) (hga : f.All GoodH GoodL) (hy : RdY w h f nv pv) (R : Ending → World → Prop)
    (hR : Hid (∀ w', Below w.heap.size w w' → R (.returned (.bool (greatB f))) w')) : Calls Try.prog 6 #[tyV h nv pv] w R := by
  obtain ⟨Ap, cp, rfl, hpl⟩ := hy.p.sl
  obtain ⟨An, cn, rfl, -, -⟩ := hy.n.op
  have b1 := (Below.refl w.heap.size w).alloc (Nat.le_refl _) (.cells #[.int .i64 h.kind, .int .i64 h.at_, .int .i64 h.lo, .int .i64 h.hi, .int .i64 h.most, .slice An h.names.length cn, .slice Ap f.len cp, .string h.name, .int .i64 h.nat] 27)
  have hA := heap_alloc_new w (.cells #[.int .i64 h.kind, .int .i64 h.at_, .int .i64 h.lo, .int .i64 h.hi, .int .i64 h.most, .slice An h.names.length cn, .slice Ap f.len cp, .string h.name, .int .i64 h.nat] 27)
  have hyw := Lib.hid hy
  replace hga := Lib.hid hga
  clear hy
  go_enter Try.func6, Try.ntmps6
  go_upto_region 1 with fail
  generalize w.alloc (.cells #[.int .i64 h.kind, .int .i64 h.at_, .int .i64 h.lo, .int .i64 h.hi, .int .i64 h.most, .slice An h.names.length cn, .slice Ap f.len cp, .string h.name, .int .i64 h.nat] 27) = V at *
  have r0 : V.rangeAt w.heap.size 0 [.int .i64 h.kind, .int .i64 h.at_, .int .i64 h.lo, .int .i64 h.hi, .int .i64 h.most, .slice An h.names.length cn, .slice Ap f.len cp, .string h.name, .int .i64 h.nat] := fun j v e => by rw [Nat.zero_add, Lib.cell_of_heap hA]; simpa using e
  go_wp2_with (refine wpList_load_g (by rfl) 27 _ rfl w.heap.size 0 rfl [.int .i64 h.kind, .int .i64 h.at_, .int .i64 h.lo, .int .i64 h.hi, .int .i64 h.most, .slice An h.names.length cn, .slice Ap f.len cp, .string h.name, .int .i64 h.nat] _ r0 Try.underlying27 rfl (by kernel_rfl) ?_; go_simp)
  refine size15_calls f h (.slice An h.names.length cn) (.slice Ap f.len cp) V hfl hga.out (hyw.out.below b1) _ (Lib.hid fun w2 n2 => ?_)
  have fin := Lib.hid (hR.out _ (b1.trans (n2.mono b1.size)))
  unfold greatB at fin
  generalize cW f 1 = N at *
  generalize wrap64 (dW f 0 + 1) = D at *
  clear hR n2 b1 r0 hA
  by_cases c : 2000 < N
  · rw [decide_eq_true c, Bool.true_or] at fin
    go_wp2_with fail
    exact fin.out
  · by_cases c2 : 60 < D
    · rw [decide_eq_true c2, Bool.or_true] at fin
      go_wp2_with fail
      exact fin.out
    · go_wp2_with fail
      exact fin.out
end Go.Proofs.Ytpepomnkoghjpaa.Kin
