/- DigitsReads: the law's walk. -/
import Derived.Test.YtcnnaaemkamcbaaDigQ
import Derived.Test.YtcnnaaemkamcbaaDigE
set_option linter.unusedVariables false
namespace Go.Proofs.Ytcnnaaemkamcbaa.Dig
open Go.RowKit Go.Lib Go.Proofs.Ytcnnaaemkamcbaa.Utf

theorem tk_zero (s : ByteArray) (i : Int) : ((tkS s i).2.2.1 ≠ 0 → (tkS s i).1 = 0) ∧ ((tkS s i).2.2.1 = 0 → (tkS s i).2.2.2 = 0) := by
  unfold tkS
  split
  · exact ⟨fun _ => rfl, fun h => by simp at h⟩
  · rw [tkN_eq]
    unfold tkG
    (repeat' split) <;> simp

/-- A box that holds a fault. -/
def Box (g : Nat) (E A : Int) (w : World) : Prop := g < w.heap.size ∧ w.cell? ⟨g, 0, none⟩ = some (.int .i64 E) ∧ w.cell? ⟨g, 1, none⟩ = some (.int .i64 A)
theorem Box.new (w : World) (E A : Int) : Box w.heap.size E A (w.alloc (.cells #[.int .i64 E, .int .i64 A] 25)) :=
  ⟨by simp, by rw [World.cell?_alloc_new]; rfl, by rw [World.cell?_alloc_new]; rfl⟩
theorem Box.keep {g : Nat} {E A : Int} {w w' : World} (h : Box g E A w) (n : Below w.heap.size w w') : Box g E A w' :=
  ⟨by have := n.size; have := h.1; omega, (n.cell (p := ⟨g, 0, none⟩) h.1).trans h.2.1, (n.cell (p := ⟨g, 1, none⟩) h.1).trans h.2.2⟩

set_option maxRecDepth 100000 in
set_option maxHeartbeats 1000000 in
theorem reads_walk7 (s : ByteArray) (i : Int) (hi : -9223372036854775808 ≤ i ∧ i ≤ 9223372036854775807) (w : World) (R : Ending → World → Prop)
    (hR : Hid (∀ w', Below w.heap.size w w' → R (.returned (.bool true)) w')) : Calls Try.prog 3 #[.string s, .int .i64 i] w R := by
  have cL := fun (W : World) R hR => lives7_calls W R hR
  replace cL := Lib.hid cL
  by_cases hz : s.size > 3000
  · go_enter Try.func3, Try.ntmps3
    go_wp2_with fail
    refine cL.out _ _ (Lib.hid fun w1 n1 => ?_)
    go_wp2_with fail
    exact hR.out _ n1
  have cT := fun (W : World) R hR => take_calls s i hi W (by omega) R hR
  have cR := fun (W : World) R hR => reftake_calls s i hi W (by omega) R hR
  have cP := fun (W : World) R hR => parse_calls s W (by omega) R hR
  have cQ := fun (W : World) R hR => reftake_calls s 0 (by decide) W (by omega) R hR
  have h0 := tk_zero s 0
  unfold paS at cP
  generalize tkS s i = t1 at *
  generalize tkS s 0 = t at *
  obtain ⟨n1, e1, E1, A1⟩ := t1
  obtain ⟨n, e, E, A⟩ := t
  unfold tkT at cT cR cQ
  unfold paT at cP
  simp only at cT cR cP cQ h0
  replace cT := Lib.hid cT
  replace cR := Lib.hid cR
  replace cQ := Lib.hid cQ
  by_cases hE : E ≠ 0
  · simp only [if_pos hE] at cP
    have hn := h0.1 hE
    subst hn
    have hE1 : (E == 0) = false := by simpa using hE
    have hE2 : (E != 0) = true := by simpa using hE
    replace cP := Lib.hid cP
    clear h0
    go_enter Try.func3, Try.ntmps3
    go_wp2_with fail
    refine cT.out _ _ (Lib.hid fun w1 b1 => ?_)
    have x1 := Lib.hid (Box.new w1 E1 A1)
    replace b1 := Lib.hid (b1.alloc b1.size (.cells #[.int .i64 E1, .int .i64 A1] 25))
    go_wp2_with fail
    generalize w1.alloc (.cells #[.int .i64 E1, .int .i64 A1] 25) = W1 at *
    generalize w1.heap.size = g1 at *
    refine cR.out _ _ (Lib.hid fun w2 b2 => ?_)
    replace x1 := x1.out.keep b2
    replace b2 := b1.out.trans (b2.mono b1.out.size)
    have x2 := Lib.hid (Box.new w2 E1 A1)
    replace x1 := Lib.hid (x1.keep ((Below.refl _ _).alloc (Nat.le_refl _) (.cells #[.int .i64 E1, .int .i64 A1] 25)))
    replace b2 := Lib.hid (b2.alloc b2.size (.cells #[.int .i64 E1, .int .i64 A1] 25))
    go_wp2_with fail
    generalize w2.alloc (.cells #[.int .i64 E1, .int .i64 A1] 25) = W2 at *
    generalize w2.heap.size = g2 at *
    refine cP.out _ _ (Lib.hid fun w3 b3 => ?_)
    replace x1 := x1.out.keep b3
    replace x2 := x2.out.keep b3
    replace b3 := b2.out.trans (b3.mono b2.out.size)
    have x3 := Lib.hid (Box.new w3 E A)
    replace x1 := Lib.hid (x1.keep ((Below.refl _ _).alloc (Nat.le_refl _) (.cells #[.int .i64 E, .int .i64 A] 25)))
    replace x2 := Lib.hid (x2.keep ((Below.refl _ _).alloc (Nat.le_refl _) (.cells #[.int .i64 E, .int .i64 A] 25)))
    replace b3 := Lib.hid (b3.alloc b3.size (.cells #[.int .i64 E, .int .i64 A] 25))
    go_wp2_with fail
    generalize w3.alloc (.cells #[.int .i64 E, .int .i64 A] 25) = W3 at *
    generalize w3.heap.size = g3 at *
    refine cQ.out _ _ (Lib.hid fun w4 b4 => ?_)
    obtain ⟨y10, y11, y12⟩ := x1.out.keep b4
    obtain ⟨y20, y21, y22⟩ := x2.out.keep b4
    obtain ⟨y30, y31, y32⟩ := x3.out.keep b4
    replace b4 := b3.out.trans (b4.mono b3.out.size)
    clear x1 x2 x3 b1 b2 b3
    go_wp2_with fail
    refine cL.out _ _ (Lib.hid fun w5 b5 => ?_)
    replace b5 := (b4.alloc b4.size _).trans (b5.mono (b4.alloc b4.size _).size)
    go_wp2_with fail
    exact hR.out _ b5
  · obtain rfl : E = 0 := by omega
    obtain rfl : A = 0 := h0.2 rfl
    simp only [if_neg hE] at cP
    clear h0 hE
    by_cases he : e < s.size
    · simp only [if_pos he] at cP
      replace cP := Lib.hid cP
      go_enter Try.func3, Try.ntmps3
      go_wp2_with fail
      refine cT.out _ _ (Lib.hid fun w1 b1 => ?_)
      have x1 := Lib.hid (Box.new w1 E1 A1)
      replace b1 := Lib.hid (b1.alloc b1.size (.cells #[.int .i64 E1, .int .i64 A1] 25))
      go_wp2_with fail
      generalize w1.alloc (.cells #[.int .i64 E1, .int .i64 A1] 25) = W1 at *
      generalize w1.heap.size = g1 at *
      refine cR.out _ _ (Lib.hid fun w2 b2 => ?_)
      replace x1 := x1.out.keep b2
      replace b2 := b1.out.trans (b2.mono b1.out.size)
      have x2 := Lib.hid (Box.new w2 E1 A1)
      replace x1 := Lib.hid (x1.keep ((Below.refl _ _).alloc (Nat.le_refl _) (.cells #[.int .i64 E1, .int .i64 A1] 25)))
      replace b2 := Lib.hid (b2.alloc b2.size (.cells #[.int .i64 E1, .int .i64 A1] 25))
      go_wp2_with fail
      generalize w2.alloc (.cells #[.int .i64 E1, .int .i64 A1] 25) = W2 at *
      generalize w2.heap.size = g2 at *
      refine cP.out _ _ (Lib.hid fun w3 b3 => ?_)
      replace x1 := x1.out.keep b3
      replace x2 := x2.out.keep b3
      replace b3 := b2.out.trans (b3.mono b2.out.size)
      have x3 := Lib.hid (Box.new w3 (19) (e))
      replace x1 := Lib.hid (x1.keep ((Below.refl _ _).alloc (Nat.le_refl _) (.cells #[.int .i64 (19), .int .i64 (e)] 25)))
      replace x2 := Lib.hid (x2.keep ((Below.refl _ _).alloc (Nat.le_refl _) (.cells #[.int .i64 (19), .int .i64 (e)] 25)))
      replace b3 := Lib.hid (b3.alloc b3.size (.cells #[.int .i64 (19), .int .i64 (e)] 25))
      go_wp2_with fail
      generalize w3.alloc (.cells #[.int .i64 (19), .int .i64 (e)] 25) = W3 at *
      generalize w3.heap.size = g3 at *
      refine cQ.out _ _ (Lib.hid fun w4 b4 => ?_)
      obtain ⟨y10, y11, y12⟩ := x1.out.keep b4
      obtain ⟨y20, y21, y22⟩ := x2.out.keep b4
      obtain ⟨y30, y31, y32⟩ := x3.out.keep b4
      replace b4 := b3.out.trans (b4.mono b3.out.size)
      clear x1 x2 x3 b1 b2 b3
      go_wp2_with fail
      refine cL.out _ _ (Lib.hid fun w5 b5 => ?_)
      replace b5 := (b4.alloc b4.size _).trans (b5.mono (b4.alloc b4.size _).size)
      go_wp2_with fail
      exact hR.out _ b5
    · simp only [if_neg he] at cP
      replace cP := Lib.hid cP
      go_enter Try.func3, Try.ntmps3
      go_wp2_with fail
      refine cT.out _ _ (Lib.hid fun w1 b1 => ?_)
      have x1 := Lib.hid (Box.new w1 E1 A1)
      replace b1 := Lib.hid (b1.alloc b1.size (.cells #[.int .i64 E1, .int .i64 A1] 25))
      go_wp2_with fail
      generalize w1.alloc (.cells #[.int .i64 E1, .int .i64 A1] 25) = W1 at *
      generalize w1.heap.size = g1 at *
      refine cR.out _ _ (Lib.hid fun w2 b2 => ?_)
      replace x1 := x1.out.keep b2
      replace b2 := b1.out.trans (b2.mono b1.out.size)
      have x2 := Lib.hid (Box.new w2 E1 A1)
      replace x1 := Lib.hid (x1.keep ((Below.refl _ _).alloc (Nat.le_refl _) (.cells #[.int .i64 E1, .int .i64 A1] 25)))
      replace b2 := Lib.hid (b2.alloc b2.size (.cells #[.int .i64 E1, .int .i64 A1] 25))
      go_wp2_with fail
      generalize w2.alloc (.cells #[.int .i64 E1, .int .i64 A1] 25) = W2 at *
      generalize w2.heap.size = g2 at *
      refine cP.out _ _ (Lib.hid fun w3 b3 => ?_)
      replace x1 := x1.out.keep b3
      replace x2 := x2.out.keep b3
      replace b3 := b2.out.trans (b3.mono b2.out.size)
      have x3 := Lib.hid (Box.new w3 (0) (0))
      replace x1 := Lib.hid (x1.keep ((Below.refl _ _).alloc (Nat.le_refl _) (.cells #[.int .i64 (0), .int .i64 (0)] 25)))
      replace x2 := Lib.hid (x2.keep ((Below.refl _ _).alloc (Nat.le_refl _) (.cells #[.int .i64 (0), .int .i64 (0)] 25)))
      replace b3 := Lib.hid (b3.alloc b3.size (.cells #[.int .i64 (0), .int .i64 (0)] 25))
      go_wp2_with fail
      generalize w3.alloc (.cells #[.int .i64 (0), .int .i64 (0)] 25) = W3 at *
      generalize w3.heap.size = g3 at *
      refine cQ.out _ _ (Lib.hid fun w4 b4 => ?_)
      obtain ⟨y10, y11, y12⟩ := x1.out.keep b4
      obtain ⟨y20, y21, y22⟩ := x2.out.keep b4
      obtain ⟨y30, y31, y32⟩ := x3.out.keep b4
      replace b4 := b3.out.trans (b4.mono b3.out.size)
      clear x1 x2 x3 b1 b2 b3
      go_wp2_with fail
      refine cL.out _ _ (Lib.hid fun w5 b5 => ?_)
      replace b5 := (b4.alloc b4.size _).trans (b5.mono (b4.alloc b4.size _).size)
      go_wp2_with fail
      exact hR.out _ b5
end Go.Proofs.Ytcnnaaemkamcbaa.Dig
