/- RelCloses: the law's walk. -/
import Derived.Test.YtpmpgagggenfiaaRelV
import Derived.Deep.DeepCutAuto
set_option linter.unusedVariables false
namespace Go.Proofs.Ytpmpgagggenfiaa.Rel
open Go.RowKit Go.Lib

set_option maxRecDepth 100000 in
set_option maxHeartbeats 2000000 in
theorem closes10_many (n : Int) (hn : -9223372036854775808 ≤ n ∧ n ≤ 9223372036854775807) (xs : List Pq) (q0 q1 : Int) (hq0 : -9223372036854775808 ≤ q0 ∧ q0 ≤ 9223372036854775807) (hq1 : -9223372036854775808 ≤ q1 ∧ q1 ≤ 9223372036854775807) (v : Value) (w : World) (hx : RdQ w v xs) (hg : ∀ x ∈ xs, GoodQ x) (h300 : 300 < xs.length) (R : Ending → World → Prop)
    (hR : Hid (∀ w', Below w.heap.size w w' → R (.returned (.bool true)) w')) : Calls Try.prog 3 #[.int .i64 n, v, .agg #[.int .i64 q0, .int .i64 q1]] w R := by
  have cL := Lib.hid fun (W : World) R hR => lives10_calls W R hR
  obtain ⟨A, c, rfl, hlc, hr0⟩ := hx.op
  replace hr0 := Lib.hid hr0
  have b1 := (Below.refl w.heap.size w).alloc (Nat.le_refl _) (.cells #[.int .i64 q0, .int .i64 q1] 23)
  have k0 : (w.alloc (.cells #[.int .i64 q0, .int .i64 q1] 23)).cell? ⟨w.heap.size, 0, none⟩ = some (.int .i64 q0) := by rw [World.cell?_alloc_new]; rfl
  have k1 : (w.alloc (.cells #[.int .i64 q0, .int .i64 q1] 23)).cell? ⟨w.heap.size, 1, none⟩ = some (.int .i64 q1) := by rw [World.cell?_alloc_new]; rfl
  have z1 : (w.alloc (.cells #[.int .i64 q0, .int .i64 q1] 23)).heap.size = w.heap.size + 1 := by simp
  clear hx k0 k1
  go_enter Try.func3, Try.ntmps3
  go_wp2_with fail
  refine cL.out _ _ (Lib.hid fun w1 n1 => ?_)
  go_wp2_with fail
  exact hR.out _ (b1.trans (n1.mono (by rw [z1]; omega)))

set_option maxRecDepth 100000 in
set_option maxHeartbeats 2000000 in
theorem closes10_wrong (n : Int) (hn : -9223372036854775808 ≤ n ∧ n ≤ 9223372036854775807) (xs : List Pq) (q0 q1 : Int) (hq0 : -9223372036854775808 ≤ q0 ∧ q0 ≤ 9223372036854775807) (hq1 : -9223372036854775808 ≤ q1 ∧ q1 ≤ 9223372036854775807) (v : Value) (w : World) (hx : RdQ w v xs) (hg : ∀ x ∈ xs, GoodQ x) (h300 : ¬ 300 < xs.length) (hr : ¬ RightQ n xs) (R : Ending → World → Prop)
    (hR : Hid (∀ w', Below w.heap.size w w' → R (.returned (.bool true)) w')) : Calls Try.prog 3 #[.int .i64 n, v, .agg #[.int .i64 q0, .int .i64 q1]] w R := by
  have cL := Lib.hid fun (W : World) R hR => lives10_calls W R hR
  obtain ⟨A, c, rfl, hlc, hr0⟩ := hx.op
  replace hr0 := Lib.hid hr0
  have b1 := (Below.refl w.heap.size w).alloc (Nat.le_refl _) (.cells #[.int .i64 q0, .int .i64 q1] 23)
  have k0 : (w.alloc (.cells #[.int .i64 q0, .int .i64 q1] 23)).cell? ⟨w.heap.size, 0, none⟩ = some (.int .i64 q0) := by rw [World.cell?_alloc_new]; rfl
  have k1 : (w.alloc (.cells #[.int .i64 q0, .int .i64 q1] 23)).cell? ⟨w.heap.size, 1, none⟩ = some (.int .i64 q1) := by rw [World.cell?_alloc_new]; rfl
  have z1 : (w.alloc (.cells #[.int .i64 q0, .int .i64 q1] 23)).heap.size = w.heap.size + 1 := by simp
  have hx1 := hx.below b1
  have cN := fun R hR hR2 => relnew_calls n hn xs _ _ hx1 hg (by unfold maxLen; omega) R hR hR2
  have cQ := fun (W : World) (hb : Below w.heap.size w W) R hR => refright_pairs n xs _ W (hx.below hb) (by unfold maxLen; omega) R hR
  replace cN := Lib.hid cN
  rw [decide_eq_false hr] at cQ
  replace cQ := Lib.hid cQ
  clear hx hx1
  go_enter Try.func3, Try.ntmps3
  go_wp2_with fail
  generalize w.alloc (.cells #[.int .i64 q0, .int .i64 q1] 23) = W0 at *
  have hH : w.heap.size < W0.heap.size := by omega
  generalize hHH : w.heap.size = H at *
  replace z1 := Lib.hid z1
  refine cN.out _ (Lib.hid fun _ _ h => absurd h hr) (Lib.hid fun w2 _ n2 => ?_)
  have a0 := (n2.cell (p := ⟨H, 0, none⟩) hH).trans k0
  have a1 := (n2.cell (p := ⟨H, 1, none⟩) hH).trans k1
  replace n2 := Lib.hid n2
  go_wp2_with fail
  refine relhasnone_calls _ _ _ _ (Lib.hid fun w3 n3 => ?_)
  have n4 := Lib.hid (n2.out.trans (n3.mono n2.out.size))
  clear n2 n3 a0 a1
  go_wp2_with fail
  refine rellennone_calls _ _ (Lib.hid fun w5 n5 => ?_)
  have n6 := Lib.hid (n4.out.trans (n5.mono n4.out.size))
  clear n4 n5
  go_wp2_with fail
  refine relclosenone_calls _ _ (Lib.hid fun w7 n7 => ?_)
  have n8 := Lib.hid (n6.out.trans (n7.mono n6.out.size))
  clear n6 n7
  go_wp2_with fail
  refine cQ.out _ (b1.trans (n8.out.mono (by omega))) _ (Lib.hid fun w9 n9 => ?_)
  have n10 := Lib.hid (n8.out.trans (n9.mono n8.out.size))
  clear n8 n9
  go_wp2_with fail
  refine cL.out _ _ (Lib.hid fun w11 n11 => ?_)
  have n12 := n10.out.trans (n11.mono n10.out.size)
  go_wp2_with fail
  exact hR.out _ (b1.trans (n12.mono (by omega)))

end Go.Proofs.Ytpmpgagggenfiaa.Rel
