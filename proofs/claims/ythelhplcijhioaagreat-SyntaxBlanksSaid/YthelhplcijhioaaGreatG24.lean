import Derived.Test.YthelhplcijhioaaGreatG5
import Derived.Test.YthelhplcijhioaaGreatG9
/- The reference's Unit, Width, Cut, Lines, Widest. -/
set_option maxRecDepth 100000
set_option linter.unusedVariables false
namespace Go.Proofs.YthelhplcijhioaaGreat.Cel
open Go.RowKit Go.Lib Go.Proofs.YthelhplcijhioaaGreat.Utf Go.Proofs.YthelhplcijhioaaGreat.Ran

theorem ret2i {R : Ending → World → Prop} {w : World} {a b c d : Int} (h : R (.returned (.tuple #[.int .i64 a, .int .i64 b])) w) (e1 : a = c) (e2 : b = d) : R (.returned (.tuple #[.int .i64 c, .int .i64 d])) w := by subst e1 e2; exact h
set_option maxRecDepth 100000 in
theorem refUnit_calls (s : ByteArray) (i : Nat) (w : World) (hs : s.size ≤ 1000000) (hi : i < s.size) (R : Ending → World → Prop)
    (hR : Hid (∀ w', Below w.heap.size w w' → R (.returned (.tuple #[.int .i64 (unitS s i).1, .int .i64 ((unitS s i).2 : Nat)])) w')) : Calls Tryz.prog 44 #[.string s, .int .i64 i] w R := by
  have hd := decS_spec s i hi
  have hu : unitS s i = if (decS s i).2.2 then (sizeS (decS s i).1, (decS s i).2.1.toNat) else (1, 1) := rfl
  have c1 := fun (W : World) R hR => refdec_calls s i W (by unfold maxLen; omega) R hR
  rw [decR_eq] at c1
  generalize decS s i = d at *
  obtain ⟨r, n, ok⟩ := d
  simp only at hd hu c1
  replace c1 := Lib.hid c1
  replace hu := Lib.hid hu
  go_enter Tryz.func44, Tryz.ntmps44
  go_wp2_with fail
  refine c1.out _ _ (fun w1 n1 => ?_)
  cases ok
  · replace hu := hu.out
    rw [if_neg Bool.false_ne_true] at hu
    rw [hu] at hR
    go_wp2_with fail
    exact hR.out _ n1
  · replace hu := hu.out
    rw [if_pos rfl] at hu
    rw [hu] at hR
    replace hR := Lib.hid hR.out
    go_wp2_with fail
    refine refSize_calls r _ _ (fun w2 n2 => ?_)
    go_wp2_with fail
    exact ret2i (hR.out _ (n1.trans (n2.mono n1.size))) rfl (by omega)

theorem isE_pos {s : ByteArray} (h : 0 < s.size) : s.toList.isEmpty = false := by
  have : s.toList.length = s.size := by rw [ba_toList]; simp
  cases e : s.toList with
  | nil => rw [e] at this; simp at this; omega
  | cons a l => rfl
theorem isE_nil {s : ByteArray} (h : s.size = 0) : s.toList.isEmpty = true := by
  have : s.toList.length = s.size := by rw [ba_toList]; simp
  cases e : s.toList with
  | nil => rfl
  | cons a l => rw [e] at this; simp at this; omega

def cutS (s : ByteArray) (most : Int) : Nat := cutF s 0 most
end Go.Proofs.YthelhplcijhioaaGreat.Cel

/- The code's Rune, Unit, Width, Cut. -/
set_option maxRecDepth 100000
set_option linter.unusedVariables false
namespace Go.Proofs.YthelhplcijhioaaGreat.Cel
open Go.RowKit Go.Lib Go.Proofs.YthelhplcijhioaaGreat.Utf Go.Proofs.YthelhplcijhioaaGreat.Ran

theorem bdq {B : Nat} {a w : World} (h : Below B a w) (n : Nat) : Below B a (w.drewN n) := ⟨h.os, h.tape, h.output, h.size, h.block⟩
/-- The unit at any index: nothing outside the string. -/
def unitV (s : ByteArray) (i : Int) : Int × Nat := if i < 0 ∨ (s.size : Int) ≤ i then (0, 0) else unitS s i.toNat
theorem unitV_in {s : ByteArray} {i : Nat} (h : i < s.size) : unitV s i = unitS s i := by unfold unitV; rw [if_neg (by omega)]; rfl
theorem ext_all (s : ByteArray) : s.extract 0 s.size = s := by simp
theorem ext_ext {s : ByteArray} {a n : Nat} : (s.extract a s.size).extract n (s.size - a) = s.extract (a + n) s.size := by
  rw [ByteArray.extract_extract]; congr 1; omega
theorem unit0 {s : ByteArray} {a : Nat} (h : a < s.size) : unitV (s.extract a s.size) 0 = unitS s a := by
  have hz : (s.extract a s.size).size = s.size - a := by rw [ByteArray.size_extract]; omega
  have := unitV_in (s := s.extract a s.size) (i := 0) (by omega)
  rw [show ((0 : Nat) : Int) = 0 from rfl] at this
  rw [this, unit_suffix (by omega) (by omega), Nat.add_zero]
theorem wf64 {n : Int} (h : (Lit.int .i64 n).wf = true) : -9223372036854775808 ≤ n ∧ n ≤ 9223372036854775807 := by
  simp only [Lit.wf, Bool.and_eq_true, decide_eq_true_eq] at h
  exact ⟨Int.le_trans (by decide) h.1, Int.le_trans h.2 (by decide)⟩
end Go.Proofs.YthelhplcijhioaaGreat.Cel
