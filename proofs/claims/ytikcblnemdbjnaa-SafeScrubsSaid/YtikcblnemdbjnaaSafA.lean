/- The code's unit, First, Is, Scrub. -/
import Derived.Test.YtikcblnemdbjnaaSafS
import Derived.Test.YtikcblnemdbjnaaEscE
set_option linter.unusedVariables false
namespace Go.Proofs.Ytikcblnemdbjnaa.Saf
open Go.RowKit Go.Lib Go.Proofs.Ytikcblnemdbjnaa.Utf Go.Proofs.Ytikcblnemdbjnaa.Ran Go.Proofs.Ytikcblnemdbjnaa.Cel Go.Proofs.Ytikcblnemdbjnaa.Esc Go.Proofs.Ytikcblnemdbjnaa.Bld

/-- A unit's length, or the fault that keeps it from a terminal. -/
def suR (s : ByteArray) (i : Nat) : Nat × Int := if (decS s i).2.2 = false then (0, 2) else if (decS s i).1 ≠ 10 ∧ kindS (decS s i).1 ≠ 0 then (0, 3) else ((decS s i).2.1.toNat, 0)
theorem suR_eq (s : ByteArray) (i : Nat) : suR s i = (if badU s i = 0 then (decS s i).2.1.toNat else 0, badU s i) := by
  unfold suR badU
  (repeat' split) <;> simp_all
theorem ret2ii {R : Ending → World → Prop} {w : World} {a a' b b' : Int} (h : R (.returned (.tuple #[.int .i64 a, .int .i64 b])) w) (e1 : a = a') (e2 : b = b') :
    R (.returned (.tuple #[.int .i64 a', .int .i64 b'])) w := by subst e1 e2; exact h
set_option maxRecDepth 100000 in
theorem sunit_calls (s : ByteArray) (k : Nat) (hk : k < s.size) (w : World) (hs : s.size ≤ 1000000) (R : Ending → World → Prop)
    (hR : Hid (∀ w', Below w.heap.size w w' → R (.returned (.tuple #[.int .i64 ((suR s k).1 : Nat), .int .i64 (suR s k).2])) w')) : Calls Try.prog 16 #[.string s, .int .i64 k] w R := by
  unfold suR at hR
  have hd := decS_spec s k hk
  have c1 := fun (W : World) R hR => dec_calls s k W (by unfold maxLen; omega) R hR
  generalize decS s k = d at *
  obtain ⟨r, n, ok⟩ := d
  simp only at hd hR c1
  replace c1 := Lib.hid c1
  cases ok
  · rw [if_pos (show false = false from rfl)] at hR
    go_enter Try.func16, Try.ntmps16
    go_wp2_with fail
    refine c1.out _ _ (Lib.hid fun q1 => ?_)
    have n1 : Below w.heap.size w (w.drewN q1) := bdq (Below.refl w.heap.size w) q1
    generalize w.drewN q1 = w1 at *
    go_wp2_with fail
    exact hR.out _ n1
  · rw [if_neg (show ¬ (true = false) by decide)] at hR
    obtain ⟨m, rfl⟩ : ∃ m : Nat, n = m := ⟨n.toNat, by omega⟩
    rw [Int.toNat_natCast] at hR
    by_cases h10 : r = 10
    · subst h10
      rw [if_neg (fun e => e.1 rfl)] at hR
      go_enter Try.func16, Try.ntmps16
      go_wp2_with fail
      refine c1.out _ _ (Lib.hid fun q1 => ?_)
      have n1 : Below w.heap.size w (w.drewN q1) := bdq (Below.refl w.heap.size w) q1
      generalize w.drewN q1 = w1 at *
      go_wp2_with fail
      exact hR.out _ n1
    have b10 : (r == 10) = false := by simpa using h10
    have b11 : (r != 10) = true := by simpa using h10
    have cU := fun (W : World) R hR => isUnsafe_calls r W R hR
    by_cases h6 : kindS r ≠ 0
    · rw [if_pos ⟨h10, h6⟩] at hR
      rw [decide_eq_true h6] at cU
      clear h6
      replace cU := Lib.hid cU
      go_enter Try.func16, Try.ntmps16
      go_wp2_with fail
      refine c1.out _ _ (Lib.hid fun q1 => ?_)
      have n1 : Below w.heap.size w (w.drewN q1) := bdq (Below.refl w.heap.size w) q1
      generalize w.drewN q1 = w1 at *
      go_wp2_with fail
      refine cU.out _ _ (Lib.hid fun w2 n2 => ?_)
      replace n2 := n1.trans (n2.mono n1.size)
      go_wp2_with fail
      exact hR.out _ n2
    · rw [if_neg (fun e => h6 e.2)] at hR
      rw [decide_eq_false h6] at cU
      clear h6
      replace cU := Lib.hid cU
      go_enter Try.func16, Try.ntmps16
      go_wp2_with fail
      refine c1.out _ _ (Lib.hid fun q1 => ?_)
      have n1 : Below w.heap.size w (w.drewN q1) := bdq (Below.refl w.heap.size w) q1
      generalize w.drewN q1 = w1 at *
      go_wp2_with fail
      refine cU.out _ _ (Lib.hid fun w2 n2 => ?_)
      replace n2 := n1.trans (n2.mono n1.size)
      go_wp2_with fail
      exact hR.out _ n2

theorem su_bd {s : ByteArray} {i : Nat} (hi : i < s.size) : 0 ≤ (suR s i).2 ∧ (suR s i).2 ≤ 3 ∧ (suR s i).1 ≤ 4 ∧ i + (suR s i).1 ≤ s.size ∧ ((suR s i).2 = 0 → 1 ≤ (suR s i).1) := by
  have hd := step_bd hi
  unfold suR
  split
  · simp; omega
  · split
    · simp; omega
    · simp only; omega
theorem fir_su {s : ByteArray} {i : Nat} (h : i < s.size) : firF s i = if (suR s i).2 = 0 then firF s (i + (suR s i).1) else i := by
  rw [firF_step h, suR_eq]
  by_cases h0 : badU s i = 0
  · simp [h0]
  · simp [h0]
set_option maxRecDepth 100000 in
theorem sfirst_calls (s : ByteArray) (w : World) (hs : s.size ≤ 1000000) (R : Ending → World → Prop)
    (hR : Hid (∀ w', Below w.heap.size w w' → R (.returned (.int .i64 (firS s : Nat))) w')) : Calls Try.prog 8 #[.string s] w R := by
  obtain ⟨V, hV⟩ : ∃ V, firF s 0 = V := ⟨_, rfl⟩
  unfold firS at hR
  rw [hV] at hR
  go_enter Try.func8, Try.ntmps8
  go_wp2_with fail
  go_loopg [3] s.size (fun k a wr => ∃ j : Nat, Below w.heap.size w wr ∧ a = .int .i64 j ∧ j + k = s.size ∧ Hid (firF s j = V))
  case atStart => exact ⟨0, Below.refl _ _, rfl, by omega, Lib.hid hV⟩
  case round =>
    obtain ⟨j, bel, rfl, c1, c2⟩ := hrel
    have hsz := bel.size
    have e := c2.out
    clear c2 hV
    by_cases hj : j < s.size
    · rw [fir_su hj] at e
      have hb := su_bd hj
      have cU := fun (W : World) R hR => sunit_calls s j hj W hs R hR
      generalize suR s j = u at *
      obtain ⟨n, E⟩ := u
      simp only at hb cU e
      replace cU := Lib.hid cU
      by_cases hE : E = 0
      · rw [if_pos hE] at e
        subst hE
        have hn := hb.2.2.2.2 rfl
        have hn2 := hb.2.2.2.1
        clear hb
        replace e := Lib.hid e
        go_wp2_with fail
        refine cU.out _ _ (Lib.hid fun w2 n2 => ?_)
        replace n2 := bel.trans (n2.mono hsz)
        go_wp2_with fail
        go_roundg (gk - n)
        case measure => omega
        case rel => exact ⟨j + n, n2, by go_num, by omega, e⟩
      · rw [if_neg hE] at e
        have b1 : (E == 0) = false := by simpa using hE
        have b2 : (E != 0) = true := by simpa using hE
        rw [← e] at hR
        clear hb e
        go_wp2_with fail
        refine cU.out _ _ (Lib.hid fun w2 n2 => ?_)
        replace n2 := bel.trans (n2.mono hsz)
        go_wp2_with fail
        exact hR.out _ n2
    · rw [firF_end (by omega)] at e
      rw [← e] at hR
      go_wp2_with fail
      exact hR.out _ bel

theorem sis_calls (s : ByteArray) (w : World) (hs : s.size ≤ 1000000) (R : Ending → World → Prop)
    (hR : Hid (∀ w', Below w.heap.size w w' → R (.returned (.bool (decide (firS s = s.size)))) w')) : Calls Try.prog 9 #[.string s] w R := by
  have cF := fun (W : World) R hR => sfirst_calls s W hs R hR
  generalize firS s = n at *
  replace cF := Lib.hid cF
  by_cases h : n = s.size
  · subst h
    rw [decide_eq_true rfl] at hR
    go_enter Try.func9, Try.ntmps9
    go_wp2_with fail
    refine cF.out _ _ (Lib.hid fun w1 n1 => ?_)
    go_wp2_with fail
    exact hR.out _ n1
  · rw [decide_eq_false h] at hR
    have b1 : ((n : Int) == (s.size : Int)) = false := by simp; omega
    have b2 : ¬ (n : Int) = (s.size : Int) := by omega
    go_enter Try.func9, Try.ntmps9
    go_wp2_with fail
    refine cF.out _ _ (Lib.hid fun w1 n1 => ?_)
    go_wp2_with fail
    exact hR.out _ n1

theorem scF_size0 (s : ByteArray) : (scrubS s).size ≤ 10 * s.size := scF_size s s.size 0 (by omega)
set_option maxRecDepth 100000 in
set_option maxHeartbeats 1000000 in
theorem scrub_calls (s : ByteArray) (w : World) (hs : s.size ≤ 100000) (R : Ending → World → Prop)
    (hR : Hid (∀ w', Below w.heap.size w w' → R (.returned (.string (scrubS s))) w')) : Calls Try.prog 12 #[.string s] w R := by
  obtain ⟨V, hV⟩ : ∃ V, scrubS s = V := ⟨_, rfl⟩
  rw [hV] at hR
  have f0 := Bld.fresh w
  have hfb : Below w.heap.size w (w.alloc (.cells #[.pointer none, .slice none 0 0] 39)) := (Below.refl _ _).alloc (by omega) _
  replace f0 := Lib.hid f0
  replace hfb := Lib.hid hfb
  go_enter Try.func12, Try.ntmps12
  go_wp2_with fail
  go_loopg [4] s.size (fun k a wr => ∃ (j : Nat) (x : ByteArray), Bld w.heap.size w.heap.size x wr ∧ Below w.heap.size w wr ∧ a = .int .i64 j ∧ j + k = s.size ∧ x.size ≤ 10 * j ∧ Hid (x ++ scF s j = V))
  case atStart => exact ⟨0, ByteArray.empty, f0.out, hfb.out, rfl, by omega, by show 0 ≤ _; omega, Lib.hid (by rw [ByteArray.empty_append]; exact hV)⟩
  case round =>
    obtain ⟨j, x, bB, bel, rfl, c1, c2, c3⟩ := hrel
    have hsz := bel.size
    have e := c3.out
    clear c3 f0 hfb hV
    by_cases hj : j < s.size
    · rw [scF_step hj, ← ByteArray.append_assoc] at e
      have hb := sc_bd hj
      have hl := sc_len hj
      have hw := sc_size hj
      have cU := fun (W : World) R hR => eunit_calls s j W (by omega) R hR
      rw [unP_in hj] at cU
      rw [← hl] at cU
      have hg := byN_get s j hj
      have hbl := byN_lt s j
      by_cases h34 : byN s j = 34
      · have hx : scU s j = (s.extract j (j + 1), 1) := if_pos (.inr h34)
        rw [hx] at cU e hb hw
        simp only at cU e hb hw
        rw [h34] at hg
        clear hx hl h34
        generalize (unS s j).1 = p at *
        have hj1 : (j : Int) + 1 ≤ s.size := by omega
        generalize hpe : s.extract j (j + 1) = y at *
        replace cU := Lib.hid cU
        replace e := Lib.hid e
        go_wp2_with fail
        refine cU.out _ _ (Lib.hid fun w2 n2 => ?_)
        have bB2 := bB.below n2
        replace n2 := bel.trans (n2.mono hsz)
        go_wp2_with fail
        refine wstr_calls w.heap.size w.heap.size x y _ bB2 (by omega) n2.size _ (Lib.hid fun w3 b3 n3 k3 => ?_)
        replace n3 := n2.trans n3
        go_wp2_with fail
        go_roundg (gk - 1)
        case measure => omega
        case rel => exact ⟨j + 1, x ++ y, b3, n3, by go_num, by omega, by rw [ByteArray.size_append]; omega, e⟩
      by_cases h10 : byN s j = 10
      · have hx : scU s j = (s.extract j (j + 1), 1) := if_pos (.inl h10)
        rw [hx] at cU e hb hw
        simp only at cU e hb hw
        rw [h10] at hg
        clear hx hl h34 h10
        generalize (unS s j).1 = p at *
        have hj1 : (j : Int) + 1 ≤ s.size := by omega
        generalize hpe : s.extract j (j + 1) = y at *
        replace cU := Lib.hid cU
        replace e := Lib.hid e
        go_wp2_with fail
        refine cU.out _ _ (Lib.hid fun w2 n2 => ?_)
        have bB2 := bB.below n2
        replace n2 := bel.trans (n2.mono hsz)
        go_wp2_with fail
        refine wstr_calls w.heap.size w.heap.size x y _ bB2 (by omega) n2.size _ (Lib.hid fun w3 b3 n3 k3 => ?_)
        replace n3 := n2.trans n3
        go_wp2_with fail
        go_roundg (gk - 1)
        case measure => omega
        case rel => exact ⟨j + 1, x ++ y, b3, n3, by go_num, by omega, by rw [ByteArray.size_append]; omega, e⟩
      have hx : scU s j = unS s j := if_neg (fun h => h.elim h10 h34)
      rw [hx] at cU e hb hw
      have b1 : ((byN s j : Int) == 34) = false := by simp; omega
      have b2 : ((byN s j : Int) == 10) = false := by simp; omega
      have b3 : ¬ (byN s j : Int) = 34 := by omega
      have b4 : ¬ (byN s j : Int) = 10 := by omega
      clear hx hl h34 h10
      generalize byN s j = c at *
      generalize unS s j = u at *
      obtain ⟨p, n⟩ := u
      simp only at hb hw cU e
      replace cU := Lib.hid cU
      replace e := Lib.hid e
      go_wp2_with fail
      refine cU.out _ _ (Lib.hid fun w2 n2 => ?_)
      have bB2 := bB.below n2
      replace n2 := bel.trans (n2.mono hsz)
      go_wp2_with fail
      refine wstr_calls w.heap.size w.heap.size x p _ bB2 (by omega) n2.size _ (Lib.hid fun w3 b3 n3 k3 => ?_)
      replace n3 := n2.trans n3
      go_wp2_with fail
      go_roundg (gk - n)
      case measure => omega
      case rel => exact ⟨j + n, x ++ p, b3, n3, by go_num, by omega, by rw [ByteArray.size_append]; omega, e⟩
    · rw [scF_end (by omega), ByteArray.append_empty] at e
      subst e
      go_wp2_with fail
      refine bstr_calls w.heap.size w.heap.size _ _ bB hsz _ (Lib.hid fun w3 b3 n3 k3 => ?_)
      replace n3 := bel.trans n3
      go_wp2_with fail
      exact hR.out _ n3
end Go.Proofs.Ytikcblnemdbjnaa.Saf
