/- IsWide, IsZero, Kind, IsUnsafe. -/
import Derived.Test.YtmlhhhilhdjknaaPinW
set_option linter.unusedVariables false
namespace Go.Proofs.Ytmlhhhilhdjknaa.Ran
open Go.RowKit Go.Lib
set_option maxRecDepth 1000000
theorem zv116 : ∃ Z : Array Value, (∀ w, (zeroValue 51).run Try.prog w = .ok (.agg Z) w) ∧ Z.size = 232 := ⟨Array.replicate 232 (.int .i32 0), (zero_of_info (n := 232) (by kernel_rfl)).1, by simp⟩
theorem zv82 : ∃ Z : Array Value, (∀ w, (zeroValue 55).run Try.prog w = .ok (.agg Z) w) ∧ Z.size = 164 := ⟨Array.replicate 164 (.int .i32 0), (zero_of_info (n := 164) (by kernel_rfl)).1, by simp⟩
theorem isWide_calls (r : Int) (w : World) (R : Ending → World → Prop)
    (hR : Hid (∀ w', Below w.heap.size w w' → R (.returned (.bool (hasB wideT r))) w')) : Calls Try.prog 20 #[.int .i32 r] w R := by
  obtain ⟨Z, hZ, hZs⟩ := zv116
  go_enter Try.func20, Try.ntmps20
  go_wp2_with fail
  refine wideTable_calls _ _ (fun C w1 hC n1 => ?_)
  have hCs : C.size = 232 := by rw [hC]; kernel_rfl
  have hC1 : C.all (·.oneCell') = true := by rw [hC]; exact flat_all _
  have hx := rdR_newC w1 wideT 51 C 116 hC (by kernel_rfl)
  clear hC
  replace hx := Lib.hid hx
  have hst : ∀ w : World, (storeCells ⟨w.heap.size, 0, none⟩ C.toList 0).run Try.prog (w.alloc (.cells Z 51)) = .ok () (w.alloc (.cells C 51)) :=
    fun w => run_storeCells_new w _ Z C (by rw [hCs]; kernel_rfl) (by rw [hZs, hCs]) hC1
  replace hC1 := Lib.hid hC1
  go_wp2_with fail
  refine within_calls wideT r _ _ hx.out can_wide _ (fun w2 n2 => ?_)
  go_wp2_with fail
  exact hR.out _ ((n1.alloc n1.size _).trans (n2.mono (n1.alloc n1.size _).size))
theorem isZero_calls (r : Int) (w : World) (R : Ending → World → Prop)
    (hR : Hid (∀ w', Below w.heap.size w w' → R (.returned (.bool (hasB zeroT r))) w')) : Calls Try.prog 21 #[.int .i32 r] w R := by
  obtain ⟨Z, hZ, hZs⟩ := zv82
  go_enter Try.func21, Try.ntmps21
  go_wp2_with fail
  refine zeroTable_calls _ _ (fun C w1 hC n1 => ?_)
  have hCs : C.size = 164 := by rw [hC]; kernel_rfl
  have hC1 : C.all (·.oneCell') = true := by rw [hC]; exact flat_all _
  have hx := rdR_newC w1 zeroT 55 C 82 hC (by kernel_rfl)
  clear hC
  replace hx := Lib.hid hx
  have hst : ∀ w : World, (storeCells ⟨w.heap.size, 0, none⟩ C.toList 0).run Try.prog (w.alloc (.cells Z 55)) = .ok () (w.alloc (.cells C 55)) :=
    fun w => run_storeCells_new w _ Z C (by rw [hCs]; kernel_rfl) (by rw [hZs, hCs]) hC1
  replace hC1 := Lib.hid hC1
  go_wp2_with fail
  refine within_calls zeroT r _ _ hx.out can_zero _ (fun w2 n2 => ?_)
  go_wp2_with fail
  exact hR.out _ ((n1.alloc n1.size _).trans (n2.mono (n1.alloc n1.size _).size))
end Go.Proofs.Ytmlhhhilhdjknaa.Ran
