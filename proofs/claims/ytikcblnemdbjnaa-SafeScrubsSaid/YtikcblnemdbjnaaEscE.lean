/- The code's written, Unit, Quote, Columns. -/
import Derived.Test.YtikcblnemdbjnaaEscA
import Derived.Test.YtikcblnemdbjnaaBldW
set_option linter.unusedVariables false
namespace Go.Proofs.Ytikcblnemdbjnaa.Esc
open Go.RowKit Go.Lib Go.Proofs.Ytikcblnemdbjnaa.Utf Go.Proofs.Ytikcblnemdbjnaa.Ran Go.Proofs.Ytikcblnemdbjnaa.Cel Go.Proofs.Ytikcblnemdbjnaa.Bld

theorem written_calls (r : Int) (p : ByteArray) (hr : 0 ≤ r ∧ r ≤ 1114111) (hp : p.size ≤ 1000000) (w : World) (R : Ending → World → Prop)
    (hR : Hid (∀ w', Below w.heap.size w w' → R (.returned (.string (wrU r p))) w')) : Calls Try.prog 34 #[.int .i32 r, .string p] w R := by
  unfold wrU at hR
  by_cases h1 : r = 34
  · rw [if_pos (.inl h1)] at hR
    subst h1
    go_enter Try.func34, Try.ntmps34
    go_wp2_with fail
    exact hR.out _ (Below.refl _ _)
  by_cases h2 : r = 92
  · rw [if_pos (.inr h2)] at hR
    subst h2
    go_enter Try.func34, Try.ntmps34
    go_wp2_with fail
    exact hR.out _ (Below.refl _ _)
  rw [if_neg (by omega)] at hR
  by_cases h3 : r = 9
  · rw [if_pos h3] at hR
    subst h3
    go_enter Try.func34, Try.ntmps34
    go_wp2_with fail
    exact hR.out _ (Below.refl _ _)
  rw [if_neg h3] at hR
  by_cases h4 : r = 10
  · rw [if_pos h4] at hR
    subst h4
    go_enter Try.func34, Try.ntmps34
    go_wp2_with fail
    exact hR.out _ (Below.refl _ _)
  rw [if_neg h4] at hR
  by_cases h5 : r = 13
  · rw [if_pos h5] at hR
    subst h5
    go_enter Try.func34, Try.ntmps34
    go_wp2_with fail
    exact hR.out _ (Below.refl _ _)
  rw [if_neg h5] at hR
  have cU := fun (W : World) R hR => isUnsafe_calls r W R hR
  by_cases h6 : kindS r ≠ 0
  · rw [if_pos h6] at hR
    rw [decide_eq_true h6] at cU
    obtain ⟨n, rfl⟩ : ∃ n : Nat, r = n := ⟨r.toNat, by omega⟩
    rw [Int.toNat_natCast] at hR
    have cH := fun (W : World) R hR => hex_calls n (by omega) W R hR
    have hz := hexB_size (n := n) (by omega)
    generalize hexB n = h at *
    clear h6
    have b1 : ((n : Int) == 34) = false := by simpa using h1
    have b2 : ((n : Int) == 92) = false := by simpa using h2
    have b3 : ((n : Int) == 9) = false := by simpa using h3
    have b4 : ((n : Int) == 10) = false := by simpa using h4
    have b5 : ((n : Int) == 13) = false := by simpa using h5
    replace cU := Lib.hid cU
    replace cH := Lib.hid cH
    go_enter Try.func34, Try.ntmps34
    go_wp2_with fail
    refine cU.out _ _ (fun w1 n1 => ?_)
    go_wp2_with fail
    refine cH.out _ _ (Lib.hid ?_)
    go_wp2_with fail
    exact hR.out _ n1
  · rw [if_neg h6] at hR
    rw [decide_eq_false h6] at cU
    clear h6
    have b1 : (r == 34) = false := by simpa using h1
    have b2 : (r == 92) = false := by simpa using h2
    have b3 : (r == 9) = false := by simpa using h3
    have b4 : (r == 10) = false := by simpa using h4
    have b5 : (r == 13) = false := by simpa using h5
    replace cU := Lib.hid cU
    go_enter Try.func34, Try.ntmps34
    go_wp2_with fail
    refine cU.out _ _ (fun w1 n1 => ?_)
    go_wp2_with fail
    exact hR.out _ n1

/-- The unit at any index as it is written. -/
def unP (s : ByteArray) (i : Int) : ByteArray × Nat := if i < 0 ∨ (s.size : Int) ≤ i then (ByteArray.empty, 0) else unS s i.toNat
theorem unP_in {s : ByteArray} {i : Nat} (h : i < s.size) : unP s i = unS s i := by unfold unP; rw [if_neg (by omega)]; rfl
theorem ret2si {R : Ending → World → Prop} {w : World} {a a' : ByteArray} {b b' : Int} (h : R (.returned (.tuple #[.string a, .int .i64 b])) w) (e1 : a = a') (e2 : b = b') :
    R (.returned (.tuple #[.string a', .int .i64 b'])) w := by subst e1 e2; exact h
set_option maxRecDepth 100000 in
theorem eunit_calls (s : ByteArray) (i : Int) (w : World) (hs : s.size ≤ 1000000) (R : Ending → World → Prop)
    (hR : Hid (∀ w', Below w.heap.size w w' → R (.returned (.tuple #[.string (unP s i).1, .int .i64 ((unP s i).2 : Nat)])) w')) : Calls Try.prog 21 #[.string s, .int .i64 i] w R := by
  by_cases ho : i < 0 ∨ (s.size : Int) ≤ i
  · have hu : unP s i = (ByteArray.empty, 0) := if_pos ho
    rw [hu] at hR
    clear hu
    by_cases h : i < 0
    · go_enter Try.func21, Try.ntmps21
      go_wp2_with fail
      exact hR.out _ (Below.refl _ _)
    · have h2 : (s.size : Int) ≤ i := by omega
      go_enter Try.func21, Try.ntmps21
      go_wp2_with fail
      exact hR.out _ (Below.refl _ _)
  · obtain ⟨k, rfl⟩ : ∃ k : Nat, i = k := ⟨i.toNat, by omega⟩
    have hi : k < s.size := by omega
    rw [unP_in hi] at hR
    clear ho
    have hd := decS_spec s k hi
    have hok : (decS s k).2.2 = true → 0 ≤ (decS s k).1 ∧ (decS s k).1 ≤ 1114111 := fun h => by
      have := (dec_ok hi h).1
      unfold scalarB at this
      simp only [decide_eq_true_eq] at this
      omega
    unfold unS at hR
    have c1 := fun (W : World) R hR => dec_calls s k W (by unfold maxLen; omega) R hR
    generalize decS s k = d at *
    obtain ⟨r, n, ok⟩ := d
    simp only at hd hR c1 hok
    replace c1 := Lib.hid c1
    cases ok
    · rw [if_neg (by decide)] at hR
      have hb := byN_lt s k
      have hg := byN_get s k hi
      have cH := fun (W : World) R hR => hex_calls (byN s k) (by omega) W R hR
      have hz := hexB_size (n := byN s k) (by omega)
      generalize byN s k = c at *
      generalize hexB c = h at *
      clear hok
      replace cH := Lib.hid cH
      go_enter Try.func21, Try.ntmps21
      go_wp2_with fail
      refine c1.out _ _ (fun q1 => ?_)
      have n1 : Below w.heap.size w (w.drewN q1) := bdq (Below.refl w.heap.size w) q1
      generalize w.drewN q1 = w1 at *
      go_wp2_with fail
      refine cH.out _ _ (Lib.hid ?_)
      go_wp2_with fail
      exact hR.out _ n1
    · rw [if_pos rfl] at hR
      have hr := hok rfl
      obtain ⟨m, rfl⟩ : ∃ m : Nat, n = m := ⟨n.toNat, by omega⟩
      rw [Int.toNat_natCast] at hR
      have hpz : (s.extract k (k + m)).size ≤ 1000000 := by rw [ByteArray.size_extract]; omega
      have cW := fun (W : World) R hR => written_calls r (s.extract k (k + m)) hr hpz W R hR
      have hm1 : (k : Int) + m ≤ s.size := by omega
      clear hok
      generalize hpe : s.extract k (k + m) = p at *
      replace cW := Lib.hid cW
      go_enter Try.func21, Try.ntmps21
      go_wp2_with fail
      refine c1.out _ _ (fun q1 => ?_)
      have n1 : Below w.heap.size w (w.drewN q1) := bdq (Below.refl w.heap.size w) q1
      generalize w.drewN q1 = w1 at *
      go_wp2_with fail
      refine cW.out _ _ (Lib.hid fun w2 n2 => ?_)
      replace n2 := n1.trans (n2.mono n1.size)
      go_wp2_with fail
      exact hR.out _ n2

end Go.Proofs.Ytikcblnemdbjnaa.Esc
