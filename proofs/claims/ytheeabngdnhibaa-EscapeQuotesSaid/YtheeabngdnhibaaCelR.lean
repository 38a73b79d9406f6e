/- The reference's Unit, Width, Cut, Lines, Widest. -/
import Derived.Test.YtheeabngdnhibaaCelS
import Derived.Test.YtheeabngdnhibaaPinR
set_option linter.unusedVariables false
namespace Go.Proofs.Ytheeabngdnhibaa.Cel
open Go.RowKit Go.Lib Go.Proofs.Ytheeabngdnhibaa.Utf Go.Proofs.Ytheeabngdnhibaa.Ran

theorem ret2i {R : Ending → World → Prop} {w : World} {a b c d : Int} (h : R (.returned (.tuple #[.int .i64 a, .int .i64 b])) w) (e1 : a = c) (e2 : b = d) : R (.returned (.tuple #[.int .i64 c, .int .i64 d])) w := by subst e1 e2; exact h
set_option maxRecDepth 100000 in
theorem refUnit_calls (s : ByteArray) (i : Nat) (w : World) (hs : s.size ≤ 1000000) (hi : i < s.size) (R : Ending → World → Prop)
    (hR : Hid (∀ w', Below w.heap.size w w' → R (.returned (.tuple #[.int .i64 (unitS s i).1, .int .i64 ((unitS s i).2 : Nat)])) w')) : Calls Try.prog 31 #[.string s, .int .i64 i] w R := by
  have hd := decS_spec s i hi
  have hu : unitS s i = if (decS s i).2.2 then (sizeS (decS s i).1, (decS s i).2.1.toNat) else (1, 1) := rfl
  have c1 := fun (W : World) R hR => refdec_calls s i W (by unfold maxLen; omega) R hR
  rw [decR_eq] at c1
  generalize decS s i = d at *
  obtain ⟨r, n, ok⟩ := d
  simp only at hd hu c1
  replace c1 := Lib.hid c1
  replace hu := Lib.hid hu
  go_enter Try.func31, Try.ntmps31
  go_wp2_with fail
  refine c1.out _ _ (fun w1 n1 => ?_)
  cases ok
  · replace hu := hu.out
    rw [if_neg Bool.false_ne_true] at hu
    rw [hu] at hR
    go_wp2_with fail
    exact hR.out _ n1
  · replace hu := hu.out
    rw [if_pos rfl] at hu
    rw [hu] at hR
    replace hR := Lib.hid hR.out
    go_wp2_with fail
    refine refSize_calls r _ _ (fun w2 n2 => ?_)
    go_wp2_with fail
    exact ret2i (hR.out _ (n1.trans (n2.mono n1.size))) rfl (by omega)

theorem isE_pos {s : ByteArray} (h : 0 < s.size) : s.toList.isEmpty = false := by
  have : s.toList.length = s.size := by rw [ba_toList]; simp
  cases e : s.toList with
  | nil => rw [e] at this; simp at this; omega
  | cons a l => rfl
theorem isE_nil {s : ByteArray} (h : s.size = 0) : s.toList.isEmpty = true := by
  have : s.toList.length = s.size := by rw [ba_toList]; simp
  cases e : s.toList with
  | nil => rfl
  | cons a l => rw [e] at this; simp at this; omega

set_option maxRecDepth 100000 in
theorem refWid_calls : ∀ (k : Nat) (s : ByteArray) (w : World) (hk : s.size ≤ k) (hs : s.size ≤ 1000000) (R : Ending → World → Prop)
    (hR : Hid (∀ w', Below w.heap.size w w' → R (.returned (.int .i64 (widS s))) w')), Calls Try.prog 13 #[.string s] w R := by
  intro k
  induction k with
  | zero =>
    intro s w hk hs R hR
    have hE := isE_nil (s := s) (by omega)
    have hw : widS s = 0 := widF_end s 0 (by omega)
    rw [hw] at hR
    go_enter Try.func13, Try.ntmps13
    go_wp2_with fail
    exact hR.out _ (Below.refl _ _)
  | succ k ih =>
    intro s w hk hs R hR
    by_cases h0 : 0 < s.size
    · have hE := isE_pos h0
      have hw : widS s = (unitS s 0).1 + widS (s.extract (unitS s 0).2 s.size) := by
        rw [widS_suffix (by have := unit_bd s 0 h0; omega)]
        unfold widS
        rw [widF_step s 0 h0, Nat.zero_add]
      have hb := unit_bd s 0 h0
      have cU := fun (W : World) R hR => refUnit_calls s 0 W hs h0 R hR
      rw [hw] at hR
      clear hw
      generalize unitS s 0 = u at *
      obtain ⟨c, n⟩ := u
      simp only at hb hR cU
      have hz : (s.extract n s.size).size = s.size - n := by rw [ByteArray.size_extract]; omega
      have cW := fun (W : World) R hR => ih (s.extract n s.size) W (by omega) (by omega) R hR
      have wb : 0 ≤ widS (s.extract n s.size) ∧ widS (s.extract n s.size) ≤ 2000000 := by
        have := widF_bd (s.extract n s.size) _ 0 (Nat.le_refl _); unfold widS; omega
      generalize widS (s.extract n s.size) = V at *
      replace cU := Lib.hid cU
      replace cW := Lib.hid cW
      clear ih
      go_enter Try.func13, Try.ntmps13
      go_wp2_with fail
      refine cU.out _ _ (fun w1 n1 => ?_)
      go_wp2_with fail
      refine cW.out _ _ (fun w2 n2 => ?_)
      go_wp2_with fail
      exact hR.out _ (n1.trans (n2.mono n1.size))
    · have hE := isE_nil (s := s) (by omega)
      have hw : widS s = 0 := widF_end s 0 (by omega)
      rw [hw] at hR
      go_enter Try.func13, Try.ntmps13
      go_wp2_with fail
      exact hR.out _ (Below.refl _ _)

def cutS (s : ByteArray) (most : Int) : Nat := cutF s 0 most
end Go.Proofs.Ytheeabngdnhibaa.Cel
