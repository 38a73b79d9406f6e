/- The code's written, Unit, Quote, Columns. -/
import Derived.Test.YtheeabngdnhibaaEscA
import Derived.Test.YtheeabngdnhibaaBldW
set_option linter.unusedVariables false
namespace Go.Proofs.Ytheeabngdnhibaa.Esc
open Go.RowKit Go.Lib Go.Proofs.Ytheeabngdnhibaa.Utf Go.Proofs.Ytheeabngdnhibaa.Ran Go.Proofs.Ytheeabngdnhibaa.Cel Go.Proofs.Ytheeabngdnhibaa.Bld

theorem written_calls (r : Int) (p : ByteArray) (hr : 0 ≤ r ∧ r ≤ 1114111) (hp : p.size ≤ 1000000) (w : World) (R : Ending → World → Prop)
    (hR : Hid (∀ w', Below w.heap.size w w' → R (.returned (.string (wrU r p))) w')) : Calls Try.prog 24 #[.int .i32 r, .string p] w R := by
  unfold wrU at hR
  by_cases h1 : r = 34
  · rw [if_pos (.inl h1)] at hR
    subst h1
    go_enter Try.func24, Try.ntmps24
    go_wp2_with fail
    exact hR.out _ (Below.refl _ _)
  by_cases h2 : r = 92
  · rw [if_pos (.inr h2)] at hR
    subst h2
    go_enter Try.func24, Try.ntmps24
    go_wp2_with fail
    exact hR.out _ (Below.refl _ _)
  rw [if_neg (by omega)] at hR
  by_cases h3 : r = 9
  · rw [if_pos h3] at hR
    subst h3
    go_enter Try.func24, Try.ntmps24
    go_wp2_with fail
    exact hR.out _ (Below.refl _ _)
  rw [if_neg h3] at hR
  by_cases h4 : r = 10
  · rw [if_pos h4] at hR
    subst h4
    go_enter Try.func24, Try.ntmps24
    go_wp2_with fail
    exact hR.out _ (Below.refl _ _)
  rw [if_neg h4] at hR
  by_cases h5 : r = 13
  · rw [if_pos h5] at hR
    subst h5
    go_enter Try.func24, Try.ntmps24
    go_wp2_with fail
    exact hR.out _ (Below.refl _ _)
  rw [if_neg h5] at hR
  have cU := fun (W : World) R hR => isUnsafe_calls r W R hR
  by_cases h6 : kindS r ≠ 0
  · rw [if_pos h6] at hR
    rw [decide_eq_true h6] at cU
    obtain ⟨n, rfl⟩ : ∃ n : Nat, r = n := ⟨r.toNat, by omega⟩
    rw [Int.toNat_natCast] at hR
    have cH := fun (W : World) R hR => hex_calls n (by omega) W R hR
    have hz := hexB_size (n := n) (by omega)
    generalize hexB n = h at *
    clear h6
    have b1 : ((n : Int) == 34) = false := by simpa using h1
    have b2 : ((n : Int) == 92) = false := by simpa using h2
    have b3 : ((n : Int) == 9) = false := by simpa using h3
    have b4 : ((n : Int) == 10) = false := by simpa using h4
    have b5 : ((n : Int) == 13) = false := by simpa using h5
    replace cU := Lib.hid cU
    replace cH := Lib.hid cH
    go_enter Try.func24, Try.ntmps24
    go_wp2_with fail
    refine cU.out _ _ (fun w1 n1 => ?_)
    go_wp2_with fail
    refine cH.out _ _ (Lib.hid ?_)
    go_wp2_with fail
    exact hR.out _ n1
  · rw [if_neg h6] at hR
    rw [decide_eq_false h6] at cU
    clear h6
    have b1 : (r == 34) = false := by simpa using h1
    have b2 : (r == 92) = false := by simpa using h2
    have b3 : (r == 9) = false := by simpa using h3
    have b4 : (r == 10) = false := by simpa using h4
    have b5 : (r == 13) = false := by simpa using h5
    replace cU := Lib.hid cU
    go_enter Try.func24, Try.ntmps24
    go_wp2_with fail
    refine cU.out _ _ (fun w1 n1 => ?_)
    go_wp2_with fail
    exact hR.out _ n1

/-- The unit at any index as it is written. -/
def unP (s : ByteArray) (i : Int) : ByteArray × Nat := if i < 0 ∨ (s.size : Int) ≤ i then (ByteArray.empty, 0) else unS s i.toNat
theorem unP_in {s : ByteArray} {i : Nat} (h : i < s.size) : unP s i = unS s i := by unfold unP; rw [if_neg (by omega)]; rfl
theorem ret2si {R : Ending → World → Prop} {w : World} {a a' : ByteArray} {b b' : Int} (h : R (.returned (.tuple #[.string a, .int .i64 b])) w) (e1 : a = a') (e2 : b = b') :
    R (.returned (.tuple #[.string a', .int .i64 b'])) w := by subst e1 e2; exact h
set_option maxRecDepth 100000 in
theorem eunit_calls (s : ByteArray) (i : Int) (w : World) (hs : s.size ≤ 1000000) (R : Ending → World → Prop)
    (hR : Hid (∀ w', Below w.heap.size w w' → R (.returned (.tuple #[.string (unP s i).1, .int .i64 ((unP s i).2 : Nat)])) w')) : Calls Try.prog 8 #[.string s, .int .i64 i] w R := by
  by_cases ho : i < 0 ∨ (s.size : Int) ≤ i
  · have hu : unP s i = (ByteArray.empty, 0) := if_pos ho
    rw [hu] at hR
    clear hu
    by_cases h : i < 0
    · go_enter Try.func8, Try.ntmps8
      go_wp2_with fail
      exact hR.out _ (Below.refl _ _)
    · have h2 : (s.size : Int) ≤ i := by omega
      go_enter Try.func8, Try.ntmps8
      go_wp2_with fail
      exact hR.out _ (Below.refl _ _)
  · obtain ⟨k, rfl⟩ : ∃ k : Nat, i = k := ⟨i.toNat, by omega⟩
    have hi : k < s.size := by omega
    rw [unP_in hi] at hR
    clear ho
    have hd := decS_spec s k hi
    have hok : (decS s k).2.2 = true → 0 ≤ (decS s k).1 ∧ (decS s k).1 ≤ 1114111 := fun h => by
      have := (dec_ok hi h).1
      unfold scalarB at this
      simp only [decide_eq_true_eq] at this
      omega
    unfold unS at hR
    have c1 := fun (W : World) R hR => dec_calls s k W (by unfold maxLen; omega) R hR
    generalize decS s k = d at *
    obtain ⟨r, n, ok⟩ := d
    simp only at hd hR c1 hok
    replace c1 := Lib.hid c1
    cases ok
    · rw [if_neg (by decide)] at hR
      have hb := byN_lt s k
      have hg := byN_get s k hi
      have cH := fun (W : World) R hR => hex_calls (byN s k) (by omega) W R hR
      have hz := hexB_size (n := byN s k) (by omega)
      generalize byN s k = c at *
      generalize hexB c = h at *
      clear hok
      replace cH := Lib.hid cH
      go_enter Try.func8, Try.ntmps8
      go_wp2_with fail
      refine c1.out _ _ (fun q1 => ?_)
      have n1 : Below w.heap.size w (w.drewN q1) := bdq (Below.refl w.heap.size w) q1
      generalize w.drewN q1 = w1 at *
      go_wp2_with fail
      refine cH.out _ _ (Lib.hid ?_)
      go_wp2_with fail
      exact hR.out _ n1
    · rw [if_pos rfl] at hR
      have hr := hok rfl
      obtain ⟨m, rfl⟩ : ∃ m : Nat, n = m := ⟨n.toNat, by omega⟩
      rw [Int.toNat_natCast] at hR
      have hpz : (s.extract k (k + m)).size ≤ 1000000 := by rw [ByteArray.size_extract]; omega
      have cW := fun (W : World) R hR => written_calls r (s.extract k (k + m)) hr hpz W R hR
      have hm1 : (k : Int) + m ≤ s.size := by omega
      clear hok
      generalize hpe : s.extract k (k + m) = p at *
      replace cW := Lib.hid cW
      go_enter Try.func8, Try.ntmps8
      go_wp2_with fail
      refine c1.out _ _ (fun q1 => ?_)
      have n1 : Below w.heap.size w (w.drewN q1) := bdq (Below.refl w.heap.size w) q1
      generalize w.drewN q1 = w1 at *
      go_wp2_with fail
      refine cW.out _ _ (Lib.hid fun w2 n2 => ?_)
      replace n2 := n1.trans (n2.mono n1.size)
      go_wp2_with fail
      exact hR.out _ n2

set_option maxRecDepth 100000 in
set_option maxHeartbeats 1000000 in
theorem quote_calls (s : ByteArray) (w : World) (hs : s.size ≤ 100000) (R : Ending → World → Prop)
    (hR : Hid (∀ w', Below w.heap.size w w' → R (.returned (.string (quoteS s))) w')) : Calls Try.prog 11 #[.string s] w R := by
  have hq : quoteS s = (strOfNums [34] ++ quF s 0) ++ strOfNums [34] := rfl
  rw [hq] at hR
  clear hq
  go_enter Try.func11, Try.ntmps11
  go_wp2_with fail
  refine wbyte_calls w.heap.size w.heap.size ByteArray.empty 34 (by decide) (by decide) _ (Bld.fresh w) (by decide) (by simp) _ (Lib.hid fun w1 b1 n1 k1 => ?_)
  replace n1 := ((Below.refl w.heap.size w).alloc (Nat.le_refl _) _).trans n1
  rw [ByteArray.empty_append] at b1
  go_wp2_with fail
  go_loopg [4] s.size (fun k a wr => ∃ (j : Nat) (x : ByteArray), Bld w.heap.size w.heap.size x wr ∧ Below w.heap.size w wr ∧ a = .int .i64 j ∧ j + k = s.size ∧ x.size ≤ 10 * j + 1 ∧ Hid (x ++ quF s j = strOfNums [34] ++ quF s 0))
  case atStart => exact ⟨0, _, b1, n1, rfl, by omega, by rw [strOfNums_size]; decide, Lib.hid rfl⟩
  case round =>
    obtain ⟨j, x, bB, bel, rfl, c1, c2, c3⟩ := hrel
    have hsz := bel.size
    have e := c3.out
    clear c3 b1 n1 k1
    by_cases hj : j < s.size
    · rw [quF_step hj, ← ByteArray.append_assoc] at e
      have hb := un_bd hj
      have hw := wr_size hj
      have cU := fun (W : World) R hR => eunit_calls s j W (by omega) R hR
      rw [unP_in hj] at cU
      generalize unS s j = u at *
      obtain ⟨p, n⟩ := u
      simp only at hb hw cU e
      replace cU := Lib.hid cU
      replace e := Lib.hid e
      go_wp2_with fail
      refine cU.out _ _ (Lib.hid fun w2 n2 => ?_)
      have bB2 := bB.below n2
      replace n2 := bel.trans (n2.mono hsz)
      go_wp2_with fail
      refine wstr_calls w.heap.size w.heap.size x p _ bB2 (by omega) n2.size _ (Lib.hid fun w3 b3 n3 k3 => ?_)
      replace n3 := n2.trans n3
      go_wp2_with fail
      go_roundg (gk - n)
      case measure => omega
      case rel => exact ⟨j + n, x ++ p, b3, n3, by go_num, by omega, by rw [ByteArray.size_append]; omega, e⟩
    · rw [quF_end (by omega), ByteArray.append_empty] at e
      have hx : x.size ≤ 1000001 := by omega
      go_wp2_with fail
      refine wbyte_calls w.heap.size w.heap.size x 34 (by decide) (by decide) _ bB (by omega) hsz _ (Lib.hid fun w2 b2 n2 k2 => ?_)
      replace n2 := bel.trans n2
      rw [e] at b2
      go_wp2_with fail
      refine bstr_calls w.heap.size w.heap.size _ _ b2 n2.size _ (Lib.hid fun w3 b3 n3 k3 => ?_)
      replace n3 := n2.trans n3
      go_wp2_with fail
      exact hR.out _ n3

theorem columns_calls (s : ByteArray) (w : World) (hs : s.size ≤ 90000) (R : Ending → World → Prop)
    (hR : Hid (∀ w', Below w.heap.size w w' → R (.returned (.int .i64 (widS (quoteS s)))) w')) : Calls Try.prog 12 #[.string s] w R := by
  have cQ := fun (W : World) R hR => quote_calls s W (by omega) R hR
  have hz := quote_size s
  generalize quoteS s = q at *
  have cW := fun (W : World) R hR => wid_calls q W (by omega) R hR
  replace cQ := Lib.hid cQ
  replace cW := Lib.hid cW
  go_enter Try.func12, Try.ntmps12
  go_wp2_with fail
  refine cQ.out _ _ (Lib.hid fun w1 n1 => ?_)
  go_wp2_with fail
  refine cW.out _ _ (Lib.hid fun w2 n2 => ?_)
  go_wp2_with fail
  exact hR.out _ (n1.trans (n2.mono n1.size))

theorem lives5_calls (w : World) (R : Ending → World → Prop) (hR : Hid (∀ w', Below w.heap.size w w' → R (.returned (.bool true)) w')) : Calls Try.prog 7 #[] w R := by
  have e1 : quoteS ⟨#[27, 255]⟩ = ⟨#[34, 92, 117, 123, 49, 98, 125, 92, 120, 102, 102, 34]⟩ := by
    have k : kindS 27 = 1 := by decide +kernel
    have d0 : decS ⟨#[27, 255]⟩ (0 : Nat) = (27, 1, true) := by decide +kernel
    have d1 : decS ⟨#[27, 255]⟩ (1 : Nat) = (0, 1, false) := by decide +kernel
    have h27 : hexB 27 = ⟨#[49, 98]⟩ := by rw [hexB_ge (by decide), hexB_lt (by decide)]; decide
    have h255 : hexB 255 = ⟨#[102, 102]⟩ := by rw [hexB_ge (by decide), hexB_lt (by decide)]; decide
    have u0 : unS ⟨#[27, 255]⟩ 0 = (⟨#[92, 117, 123, 49, 98, 125]⟩, 1) := by
      unfold unS wrU
      rw [d0, if_pos rfl, if_neg (by decide), if_neg (by decide), if_neg (by decide), if_neg (by decide), if_pos (by rw [k]; decide)]
      rw [show (27 : Int).toNat = 27 from rfl, h27]
      decide
    have u1 : unS ⟨#[27, 255]⟩ 1 = (⟨#[92, 120, 102, 102]⟩, 1) := by
      unfold unS
      rw [d1, if_neg (by decide), show byN ⟨#[27, 255]⟩ 1 = 255 from rfl, h255]
      decide
    unfold quoteS
    rw [quF_step (by decide), u0]
    simp only [Nat.zero_add]
    rw [quF_step (by decide), u1, quF_end (by decide)]
    decide
  have c1 := fun (W : World) R hR => quote_calls ⟨#[27, 255]⟩ W (by decide) R hR
  rw [e1] at c1
  replace c1 := Lib.hid c1
  clear e1
  go_enter Try.func7, Try.ntmps7
  go_wp2_with fail
  refine c1.out _ _ (Lib.hid fun w1 n1 => ?_)
  go_wp2_with fail
  exact hR.out _ n1
end Go.Proofs.Ytheeabngdnhibaa.Esc
