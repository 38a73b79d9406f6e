/- The reference's Unit, Width, Cut, Lines, Widest. -/
import Derived.Test.YtmchgimbfdeaiaaGreatG5
import Derived.Test.YtmchgimbfdeaiaaGreatZPinR
set_option maxRecDepth 100000
set_option linter.unusedVariables false
namespace Go.Proofs.YtmchgimbfdeaiaaGreat.Cel
open Go.RowKit Go.Lib Go.Proofs.YtmchgimbfdeaiaaGreat.Utf Go.Proofs.YtmchgimbfdeaiaaGreat.Ran

theorem ret2i {R : Ending → World → Prop} {w : World} {a b c d : Int} (h : R (.returned (.tuple #[.int .i64 a, .int .i64 b])) w) (e1 : a = c) (e2 : b = d) : R (.returned (.tuple #[.int .i64 c, .int .i64 d])) w := by subst e1 e2; exact h
set_option maxRecDepth 100000 in
theorem refUnit_calls (s : ByteArray) (i : Nat) (w : World) (hs : s.size ≤ 1000000) (hi : i < s.size) (R : Ending → World → Prop)
    (hR : Hid (∀ w', Below w.heap.size w w' → R (.returned (.tuple #[.int .i64 (unitS s i).1, .int .i64 ((unitS s i).2 : Nat)])) w')) : Calls Tryz.prog 17 #[.string s, .int .i64 i] w R := by
  have hd := decS_spec s i hi
  have hu : unitS s i = if (decS s i).2.2 then (sizeS (decS s i).1, (decS s i).2.1.toNat) else (1, 1) := rfl
  have c1 := fun (W : World) R hR => refdec_calls s i W (by unfold maxLen; omega) R hR
  rw [decR_eq] at c1
  generalize decS s i = d at *
  obtain ⟨r, n, ok⟩ := d
  simp only at hd hu c1
  replace c1 := Lib.hid c1
  replace hu := Lib.hid hu
  go_enter Tryz.func17, Tryz.ntmps17
  go_wp2_with fail
  refine c1.out _ _ (fun w1 n1 => ?_)
  cases ok
  · replace hu := hu.out
    rw [if_neg Bool.false_ne_true] at hu
    rw [hu] at hR
    go_wp2_with fail
    exact hR.out _ n1
  · replace hu := hu.out
    rw [if_pos rfl] at hu
    rw [hu] at hR
    replace hR := Lib.hid hR.out
    go_wp2_with fail
    refine refSize_calls r _ _ (fun w2 n2 => ?_)
    go_wp2_with fail
    exact ret2i (hR.out _ (n1.trans (n2.mono n1.size))) rfl (by omega)

theorem isE_pos {s : ByteArray} (h : 0 < s.size) : s.toList.isEmpty = false := by
  have : s.toList.length = s.size := by rw [ba_toList]; simp
  cases e : s.toList with
  | nil => rw [e] at this; simp at this; omega
  | cons a l => rfl
theorem isE_nil {s : ByteArray} (h : s.size = 0) : s.toList.isEmpty = true := by
  have : s.toList.length = s.size := by rw [ba_toList]; simp
  cases e : s.toList with
  | nil => rfl
  | cons a l => rw [e] at this; simp at this; omega

def cutS (s : ByteArray) (most : Int) : Nat := cutF s 0 most
end Go.Proofs.YtmchgimbfdeaiaaGreat.Cel
