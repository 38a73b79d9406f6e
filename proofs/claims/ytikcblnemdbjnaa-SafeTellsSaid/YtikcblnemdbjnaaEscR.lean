/- The reference's Hex, Unit, Quote, hex. -/
import Derived.Test.YtikcblnemdbjnaaEscA
import Derived.Test.YtikcblnemdbjnaaPinR
set_option linter.unusedVariables false
namespace Go.Proofs.Ytikcblnemdbjnaa.Esc
open Go.RowKit Go.Lib Go.Proofs.Ytikcblnemdbjnaa.Utf Go.Proofs.Ytikcblnemdbjnaa.Ran Go.Proofs.Ytikcblnemdbjnaa.Cel

def digs : ByteArray := ⟨#[48, 49, 50, 51, 52, 53, 54, 55, 56, 57, 97, 98, 99, 100, 101, 102]⟩
theorem digs_at {d : Nat} (h : d < 16) : digs.extract d (d + 1) = strOfNums [(dg d : Int)] :=
  (by decide +kernel : ∀ d : Fin 16, digs.extract d.val (d.val + 1) = strOfNums [(dg d.val : Int)]) ⟨d, h⟩
theorem digs_size : digs.size = 16 := rfl
set_option maxRecDepth 100000 in
theorem refhex_calls : ∀ (k n : Nat), n ≤ k → n < 4294967296 → ∀ (w : World) (R : Ending → World → Prop) (hR : Hid (∀ w', Below w.heap.size w w' → R (.returned (.string (hexB n))) w')),
    Calls Try.prog 35 #[.int .i64 n] w R := by
  intro k
  induction k with
  | zero =>
    intro n hn _ w R hR
    have h0 : n = 0 := by omega
    subst h0
    rw [hexB_lt (by decide)] at hR
    go_enter Try.func35, Try.ntmps35
    go_wp2_with fail
    exact retS (hR.out _ (Below.refl _ _)) (by decide)
  | succ k ih =>
    intro n hn hlt w R hR
    by_cases h : n < 16
    · rw [hexB_lt h, ← digs_at h] at hR
      have hE : digs = ⟨#[48, 49, 50, 51, 52, 53, 54, 55, 56, 57, 97, 98, 99, 100, 101, 102]⟩ := rfl
      have hz : (⟨#[48, 49, 50, 51, 52, 53, 54, 55, 56, 57, 97, 98, 99, 100, 101, 102]⟩ : ByteArray).size = 16 := rfl
      go_enter Try.func35, Try.ntmps35
      rw [← hE] at hz ⊢
      clear hE
      generalize digs = D at *
      go_wp2_with fail
      exact hR.out _ (Below.refl _ _)
    · have hz := hexB_size hlt
      rw [hexB_ge h, ← digs_at (by omega : n % 16 < 16)] at hR hz
      have cI := fun (W : World) R hR => ih (n / 16) (by omega) (by omega) W R hR
      rw [show ((n / 16 : Nat) : Int) = (n : Int) / 16 by omega] at cI
      have hE : digs = ⟨#[48, 49, 50, 51, 52, 53, 54, 55, 56, 57, 97, 98, 99, 100, 101, 102]⟩ := rfl
      have hz2 : (⟨#[48, 49, 50, 51, 52, 53, 54, 55, 56, 57, 97, 98, 99, 100, 101, 102]⟩ : ByteArray).size = 16 := rfl
      rw [ByteArray.size_append] at hz
      have hz3 : (hexB (n / 16)).size ≤ 8 := by omega
      generalize hexB (n / 16) = H at *
      clear ih
      replace cI := Lib.hid cI
      have hw1 : IntKind.i64.wrap ((n : Int) / 16) = (n : Int) / 16 := wrap_small _ (by omega) (by omega)
      obtain ⟨d, hd⟩ : ∃ d : Nat, n % 16 = d := ⟨_, rfl⟩
      have hdi : (n : Int).tmod 16 = d := by rw [Int.tmod_eq_emod_of_nonneg (by omega)]; omega
      rw [hd] at hR hz
      have hd16 : d < 16 := by omega
      clear hd
      have c1 : (0 : Int) ≤ (d : Int) := by omega
      have c2 : (d : Int) ≤ 16 := by omega
      have c3 : (0 : Int) ≤ (d : Int) + 1 := by omega
      have c5 : (d : Int) ≤ (d : Int) + 1 := by omega
      have hw2 : IntKind.i64.wrap ((d : Int) + 1) = (d : Int) + 1 := wrap_small _ (by omega) (by omega)
      rw [← hE] at hz2
      have hDD : digs.size = 16 := rfl
      have c4 : (d : Int) + 1 ≤ (digs.size : Int) := by omega
      have hz4 : (digs.extract d (d + 1)).size ≤ 8 := by omega
      obtain ⟨E, hEE⟩ : ∃ E, digs.extract d (d + 1) = E := ⟨_, rfl⟩
      rw [hEE] at hR hz4
      have hcat : ¬ 9223372036854775807 < H.size + E.size := by omega
      clear hz2 hz
      go_enter Try.func35, Try.ntmps35
      rw [← hE]
      clear hE
      generalize digs = D at *
      clear hDD
      go_wp2_with fail
      have hb := Below.refl w.heap.size w
      go_region_held3 (fun w' => Below w.heap.size w w') (first | exact hb.drew | exact Below.trans (hb.drew) n1 | trace_state) (first | (go_at_call 35; refine cI.out _ _ (Lib.hid fun w1 n1 => ?_)))
      all_goals
        go_wp2_with fail
        exact hR.out _ (by assumption)
theorem hex_two {c : Nat} (h : 16 ≤ c) : hexB (c / 16) ++ hexB (c % 16) = hexB c := by
  rw [hexB_ge (by omega : ¬ c < 16), hexB_lt (by omega : c % 16 < 16)]
theorem bad_ge {s : ByteArray} {j : Nat} (hj : j < s.size) (h : ¬ (decS s j).2.2 = true) : 16 ≤ byN s j := by
  refine Nat.le_of_not_lt fun h9 => h ?_
  have h10 : leadL (byN s j) = (((1 : Nat) : Int), 0, 0) := by unfold leadL; rw [if_pos (by omega)]; rfl
  rw [decS_in hj h10 (by omega)]
  rfl
theorem ret2si' {R : Ending → World → Prop} {w : World} {a a' : ByteArray} {b b' : Int} (h : R (.returned (.tuple #[.string a, .int .i64 b])) w) (e1 : a = a') (e2 : b = b') :
    R (.returned (.tuple #[.string a', .int .i64 b'])) w := by subst e1 e2; exact h
set_option maxRecDepth 100000 in
theorem refunit_calls (s : ByteArray) (k : Nat) (hi : k < s.size) (w : World) (hs : s.size ≤ 1000000) (R : Ending → World → Prop)
    (hR : Hid (∀ w', Below w.heap.size w w' → R (.returned (.tuple #[.string (unS s k).1, .int .i64 ((unS s k).2 : Nat)])) w')) : Calls Try.prog 22 #[.string s, .int .i64 k] w R := by
  have hd := decS_spec s k hi
  have hok : (decS s k).2.2 = true → scalarB (decS s k).1 = true ∧ (decS s k).2.1.toNat = (encL (decS s k).1).length := fun h => ⟨(dec_ok hi h).1, (dec_ok hi h).2.2⟩
  have hbad := bad_ge hi
  unfold unS at hR
  have c1 := fun (W : World) R hR => refdec_calls s k W (by unfold maxLen; omega) R hR
  rw [decR_eq] at c1
  generalize decS s k = d at *
  obtain ⟨r, n, ok⟩ := d
  simp only at hd hR c1 hok hbad
  replace c1 := Lib.hid c1
  cases ok
  · rw [if_neg (by decide)] at hR
    have h16 := hbad (by decide)
    have hb := byN_lt s k
    have hg := byN_get s k hi
    rw [← hex_two h16] at hR
    have cH := fun (W : World) R hR => refhex_calls _ (byN s k / 16) (Nat.le_refl _) (by omega) W R hR
    have cL := fun (W : World) R hR => refhex_calls _ (byN s k % 16) (Nat.le_refl _) (by omega) W R hR
    have hz := hexB_size (n := byN s k / 16) (by omega)
    have hz2 := hexB_size (n := byN s k % 16) (by omega)
    rw [show ((byN s k / 16 : Nat) : Int) = (byN s k : Int) / 16 by omega] at cH
    rw [show ((byN s k % 16 : Nat) : Int) = (byN s k : Int) % 16 by omega] at cL
    generalize hexB (byN s k / 16) = H at *
    generalize hexB (byN s k % 16) = L at *
    generalize byN s k = c at *
    clear hok hbad
    replace cH := Lib.hid cH
    replace cL := Lib.hid cL
    go_enter Try.func22, Try.ntmps22
    go_wp2_with fail
    refine c1.out _ _ (Lib.hid fun w1 n1 => ?_)
    go_wp2_with fail
    refine cH.out _ _ (Lib.hid fun w2 n2 => ?_)
    replace n2 := n1.trans (n2.mono n1.size)
    go_wp2_with fail
    refine cL.out _ _ (Lib.hid fun w3 n3 => ?_)
    replace n3 := n2.trans (n3.mono n2.size)
    go_wp2_with fail
    exact ret2si' (hR.out _ n3) (by rw [ByteArray.append_assoc]) rfl
  · rw [if_pos rfl] at hR
    obtain ⟨hs1, hn1⟩ := hok rfl
    have hr : 0 ≤ r ∧ r ≤ 1114111 := by
      have := hs1
      unfold scalarB at this
      simp only [decide_eq_true_eq] at this
      omega
    obtain ⟨m, rfl⟩ : ∃ m : Nat, n = m := ⟨n.toNat, by omega⟩
    rw [Int.toNat_natCast] at hR hn1
    have hm1 : (k : Int) + m ≤ s.size := by omega
    have hasc : r < 128 → m = 1 := fun h => by rw [hn1, (encL_ascii ⟨hr.1, h⟩).1]; rfl
    clear hok hbad hn1 hs1
    unfold wrU at hR
    by_cases h1 : r = 34
    · subst h1
      rw [if_pos (.inl rfl), hasc (by decide)] at hR
      have hm2 : m = 1 := hasc (by decide)
      subst hm2
      have hk1 : (k : Int) + 1 ≤ s.size := by omega
      have hpz : (s.extract k (k + 1)).size ≤ 10 := by rw [ByteArray.size_extract]; omega
      generalize hpe : s.extract k (k + 1) = p at *
      clear hasc
      go_enter Try.func22, Try.ntmps22
      go_wp2_with fail
      refine c1.out _ _ (Lib.hid fun w1 n1 => ?_)
      go_wp2_with fail
      exact hR.out _ n1
    by_cases h2 : r = 92
    · subst h2
      rw [if_pos (.inr rfl), hasc (by decide)] at hR
      have hm2 : m = 1 := hasc (by decide)
      subst hm2
      have hk1 : (k : Int) + 1 ≤ s.size := by omega
      have hpz : (s.extract k (k + 1)).size ≤ 10 := by rw [ByteArray.size_extract]; omega
      generalize hpe : s.extract k (k + 1) = p at *
      clear hasc
      go_enter Try.func22, Try.ntmps22
      go_wp2_with fail
      refine c1.out _ _ (Lib.hid fun w1 n1 => ?_)
      go_wp2_with fail
      exact hR.out _ n1
    rw [if_neg (by omega)] at hR
    by_cases h3 : r = 9
    · subst h3
      rw [if_pos rfl, hasc (by decide)] at hR
      clear hasc
      go_enter Try.func22, Try.ntmps22
      go_wp2_with fail
      refine c1.out _ _ (Lib.hid fun w1 n1 => ?_)
      go_wp2_with fail
      exact hR.out _ n1
    rw [if_neg h3] at hR
    by_cases h4 : r = 10
    · subst h4
      rw [if_pos rfl, hasc (by decide)] at hR
      clear hasc
      go_enter Try.func22, Try.ntmps22
      go_wp2_with fail
      refine c1.out _ _ (Lib.hid fun w1 n1 => ?_)
      go_wp2_with fail
      exact hR.out _ n1
    rw [if_neg h4] at hR
    by_cases h5 : r = 13
    · subst h5
      rw [if_pos rfl, hasc (by decide)] at hR
      clear hasc
      go_enter Try.func22, Try.ntmps22
      go_wp2_with fail
      refine c1.out _ _ (Lib.hid fun w1 n1 => ?_)
      go_wp2_with fail
      exact hR.out _ n1
    rw [if_neg h5] at hR
    clear hasc
    have cU := fun (W : World) R hR => refKind_calls r W R hR
    by_cases h6 : kindS r ≠ 0
    · rw [if_pos h6] at hR
      obtain ⟨N, rfl⟩ : ∃ N : Nat, r = N := ⟨r.toNat, by omega⟩
      rw [Int.toNat_natCast] at hR
      have cH := fun (W : World) R hR => refhex_calls N N (Nat.le_refl _) (by omega) W R hR
      have hz := hexB_size (n := N) (by omega)
      generalize hexB N = h at *
      have b1 : ((N : Int) == 34) = false := by simpa using h1
      have b2 : ((N : Int) == 92) = false := by simpa using h2
      have b3 : ((N : Int) == 9) = false := by simpa using h3
      have b4 : ((N : Int) == 10) = false := by simpa using h4
      have b5 : ((N : Int) == 13) = false := by simpa using h5
      have b6 : (kindS (N : Int) == 0) = false := by simpa using h6
      have b7 : (kindS (N : Int) != 0) = true := by simpa using h6
      generalize kindS (N : Int) = K at *
      replace cU := Lib.hid cU
      replace cH := Lib.hid cH
      go_enter Try.func22, Try.ntmps22
      go_wp2_with fail
      refine c1.out _ _ (Lib.hid fun w1 n1 => ?_)
      go_wp2_with fail
      refine cU.out _ _ (Lib.hid fun w2 n2 => ?_)
      replace n2 := n1.trans (n2.mono n1.size)
      go_wp2_with fail
      refine cH.out _ _ (Lib.hid fun w3 n3 => ?_)
      replace n3 := n2.trans (n3.mono n2.size)
      go_wp2_with fail
      exact hR.out _ n3
    · rw [if_neg h6] at hR
      have h60 : kindS r = 0 := by omega
      rw [h60] at cU
      have b1 : (r == 34) = false := by simpa using h1
      have b2 : (r == 92) = false := by simpa using h2
      have b3 : (r == 9) = false := by simpa using h3
      have b4 : (r == 10) = false := by simpa using h4
      have b5 : (r == 13) = false := by simpa using h5
      clear h6 h60
      replace cU := Lib.hid cU
      generalize hpe : s.extract k (k + m) = p at *
      go_enter Try.func22, Try.ntmps22
      go_wp2_with fail
      refine c1.out _ _ (Lib.hid fun w1 n1 => ?_)
      go_wp2_with fail
      refine cU.out _ _ (Lib.hid fun w2 n2 => ?_)
      replace n2 := n1.trans (n2.mono n1.size)
      go_wp2_with fail
      exact ret2si' (hR.out _ n2) hpe.symm rfl

end Go.Proofs.Ytikcblnemdbjnaa.Esc
