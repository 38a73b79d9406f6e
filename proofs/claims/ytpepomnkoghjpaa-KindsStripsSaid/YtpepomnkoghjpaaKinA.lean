/- Layer 15, the code: sameness of words and of coarse views. -/
import Derived.Test.YtpepomnkoghjpaaTypD
set_option maxRecDepth 100000
set_option linter.unusedVariables false
namespace Go.Proofs.Ytpepomnkoghjpaa.Kin
open Go.RowKit Go.Lib Go.Proofs.Ytpepomnkoghjpaa.Utf Go.Proofs.Ytpepomnkoghjpaa.Nam Go.Proofs.Ytpepomnkoghjpaa.Lat

set_option maxRecDepth 100000 in
set_option maxHeartbeats 2000000 in
theorem sameWord_calls (a b : ByteArray) (x y : Int) (w : World) (R : Ending → World → Prop) (hR : Hid (∀ w', Below w.heap.size w w' → R (.returned (.bool (decide (a = b)))) w')) : Calls Try.prog 24 #[.agg #[.string a, .int .i64 x], .agg #[.string b, .int .i64 y]] w R := by
  have b1 := (Below.refl w.heap.size w).alloc (Nat.le_refl _) (.cells #[.string a, .int .i64 x] 25)
  have b2 := b1.alloc b1.size (.cells #[.string b, .int .i64 y] 25)
  have hz : (w.alloc (.cells #[.string a, .int .i64 x] 25)).heap.size = w.heap.size + 1 := by simp
  have e1 := (((Below.refl _ _).alloc (Nat.le_refl _) (.cells #[.string b, .int .i64 y] 25)).block w.heap.size (by omega)).trans (heap_alloc_new w (.cells #[.string a, .int .i64 x] 25))
  have e2 := heap_alloc_new (w.alloc (.cells #[.string a, .int .i64 x] 25)) (.cells #[.string b, .int .i64 y] 25)
  rw [hz] at e2
  have k0 := (Lib.cell_of_heap e1 0).trans rfl
  have j0 := (Lib.cell_of_heap e2 0).trans rfl
  have fin := Lib.hid (hR.out _ b2)
  clear hR b1 b2 e1 e2 hz
  by_cases h : a = b
  · have q := sq_t h
    rw [decide_eq_true h] at fin
    clear h
    go_enter Try.func24, Try.ntmps24
    go_wp2_with fail
    exact fin.out
  · have q := sq_f h
    rw [decide_eq_false h] at fin
    clear h
    go_enter Try.func24, Try.ntmps24
    go_wp2_with fail
    exact fin.out
set_option maxRecDepth 100000 in
set_option maxHeartbeats 2000000 in
theorem eqw_calls (a b : List Wr) (hm : a.length ≤ maxLen) (va vb : Value) (w : World) (ha : RdW w va a) (hb : RdW w vb b) (R : Ending → World → Prop) (hR : Hid (∀ w', Below w.heap.size w w' → R (.returned (.bool (sameW a b))) w')) : Calls Try.prog 25 #[va, vb, .func (.func 24) #[] #[]] w R := by
  replace hm : a.length ≤ 9223372036854775807 := hm
  obtain ⟨A, ca, rfl, hca, hra⟩ := ha.op
  obtain ⟨B, cb, rfl, hcb, hrb⟩ := hb.op
  by_cases hl : a.length = b.length
  · have q1 : ((a.length : Int) != (b.length : Int)) = false := by simp [hl]
    have hs : sameW a b = decide (nms (a.drop 0) = nms (b.drop 0)) := rfl
    replace hra := Lib.hid hra
    replace hrb := Lib.hid hrb
    replace hl := Lib.hid hl
    clear ha hb
    go_enter Try.func25, Try.ntmps25
    go_wp2_with fail
    go_loopg [17] a.length (fun g i wr => ∃ K : Nat, i = .int .i64 K ∧ K + g = a.length ∧ Hid (Below w.heap.size w wr) ∧ sameW a b = decide (nms (a.drop K) = nms (b.drop K)))
    case atStart => exact ⟨0, rfl, by omega, Lib.hid (Below.refl _ _), hs⟩
    case round =>
      obtain ⟨K, rfl, e1, nb, e2⟩ := hrel
      by_cases hK : K < a.length
      · have hK2 : K < b.length := by have := hl.out; omega
        obtain ⟨ga, oa, rfl, hga, ca⟩ := hra.out (by omega)
        obtain ⟨gb, ob, rfl, hgb, cb⟩ := hrb.out (by omega)
        have x0 := (nb.out.cell (p := ⟨ga, oa + K * 2, none⟩) hga).trans (ca K hK).1
        have x1 := (nb.out.cell (p := ⟨ga, oa + K * 2 + 1, none⟩) hga).trans (ca K hK).2
        have i0 : (0 : Int) ≤ (K : Int) := by omega
        have i1 : (K : Int) < (a.length : Int) := by omega
        have i2 : (K : Int) < (b.length : Int) := by omega
        have ht := nms_tail hl.out K hK
        have y0' := (nb.out.cell (p := ⟨gb, ob + K * 2, none⟩) hgb).trans (cb K hK2).1
        have y1' := (nb.out.cell (p := ⟨gb, ob + K * 2 + 1, none⟩) hgb).trans (cb K hK2).2
        clear ca cb
        generalize (wN a K).1 = s1 at *
        generalize (wN a K).2 = z1 at *
        generalize (wN b K).1 = s2 at *
        generalize (wN b K).2 = z2 at *
        have b1 := (Below.refl wr.heap.size wr).alloc (Nat.le_refl _) (.cells #[.string s1, .int .i64 z1] 25)
        have b2 := b1.alloc b1.size (.cells #[.string s2, .int .i64 z2] 25)
        have hz : (wr.alloc (.cells #[.string s1, .int .i64 z1] 25)).heap.size = wr.heap.size + 1 := by simp
        have f1 := (((Below.refl _ _).alloc (Nat.le_refl _) (.cells #[.string s2, .int .i64 z2] 25)).block wr.heap.size (by omega)).trans (heap_alloc_new wr (.cells #[.string s1, .int .i64 z1] 25))
        have f2 := heap_alloc_new (wr.alloc (.cells #[.string s1, .int .i64 z1] 25)) (.cells #[.string s2, .int .i64 z2] 25)
        rw [hz] at f2
        have y0 := (b1.cell (p := ⟨gb, ob + K * 2, none⟩) (Nat.lt_of_lt_of_le hgb nb.out.size)).trans y0'
        have y1 := (b1.cell (p := ⟨gb, ob + K * 2 + 1, none⟩) (Nat.lt_of_lt_of_le hgb nb.out.size)).trans y1'
        have k0 := (Lib.cell_of_heap f1 0).trans rfl
        have k1 := (Lib.cell_of_heap f1 1).trans rfl
        have j0 := (Lib.cell_of_heap f2 0).trans rfl
        have j1 := (Lib.cell_of_heap f2 1).trans rfl
        have bb := Lib.hid b2
        clear f1 f2 hz b1 b2 y0' y1'
        go_wp2_with fail
        refine sameWord_calls s1 s2 _ _ _ _ (Lib.hid fun w5 n5 => ?_)
        have nb5 := Lib.hid (nb.out.trans ((bb.out.trans (n5.mono bb.out.size)).mono nb.out.size))
        clear n5 bb
        by_cases hq : s1 = s2
        · have e3 : sameW a b = decide (nms (a.drop (K + 1)) = nms (b.drop (K + 1))) := by rw [e2]; exact decide_eq_decide.2 (ht.trans ⟨fun q => q.2, fun q => ⟨hq, q⟩⟩)
          rw [decide_eq_true hq]
          clear hq ht e2 k0 k1 j0 j1 x0 x1 y0 y1
          go_wp2_with fail
          go_roundg (gk - 1)
          case measure => omega
          case rel => exact ⟨K + 1, by go_num, by omega, nb5, e3⟩
        · have e3 : sameW a b = false := by rw [e2, decide_eq_false_iff_not]; rw [ht]; exact fun q => hq q.1
          have fin := Lib.hid (hR.out _ nb5.out)
          rw [e3] at fin
          rw [decide_eq_false hq]
          clear hq ht e2 hR k0 k1 j0 j1 x0 x1 y0 y1
          go_wp2_with fail
          exact fin.out
      · have hK2 : b.length ≤ K := by have := hl.out; omega
        have e3 : sameW a b = true := by rw [e2, List.drop_eq_nil_of_le (by omega), List.drop_eq_nil_of_le hK2]; simp
        have fin := Lib.hid (hR.out _ nb.out)
        rw [e3] at fin
        obtain rfl : K = a.length := by omega
        clear e2 hR
        go_wp2_with fail
        exact fin.out
  · have q1 : ((a.length : Int) != (b.length : Int)) = true := by simp; omega
    have e3 : sameW a b = false := by
      unfold sameW
      rw [decide_eq_false_iff_not]
      intro q
      have := congrArg List.length q
      rw [nms_len, nms_len] at this
      exact hl this
    have fin := Lib.hid (hR.out _ (Below.refl _ _))
    rw [e3] at fin
    clear hl hR ha hb hra hrb
    go_enter Try.func25, Try.ntmps25
    go_wp2_with fail
    exact fin.out
theorem outside_calls (n m : Int) (w : World) (R : Ending → World → Prop) (hR : Hid (R (.returned (.bool (decide (n < 0 ∨ m < n)))) w)) : Calls Try.prog 43 #[.int .i64 n, .int .i64 m] w R := by
  by_cases h : n < 0
  · rw [decide_eq_true (.inl h)] at hR
    go_enter Try.func43, Try.ntmps43
    go_wp2_with fail
    exact hR.out
  · by_cases h' : m < n
    · rw [decide_eq_true (.inr h')] at hR
      go_enter Try.func43, Try.ntmps43
      go_wp2_with fail
      exact hR.out
    · rw [decide_eq_false (by omega)] at hR
      go_enter Try.func43, Try.ntmps43
      go_wp2_with fail
      exact hR.out
def coarI (ck cn ck' cn' : Int) (la lb : List Wr) : Bool := decide (ck = ck') && (decide (cn = cn') && sameW la lb)
set_option maxRecDepth 100000 in
set_option maxHeartbeats 2000000 in
theorem sameCoarse_calls (ck cn ca ck' cn' ca' : Int) (la lb : List Wr) (va vb : Value) (w : World) (hm : la.length ≤ maxLen) (ha : RdW w va la) (hb : RdW w vb lb) (R : Ending → World → Prop) (hR : Hid (∀ w', Below w.heap.size w w' → R (.returned (.bool (coarI ck cn ck' cn' la lb))) w')) : Calls Try.prog 41 #[.agg #[.int .i64 ck, .int .i64 cn, .int .i64 ca, va], .agg #[.int .i64 ck', .int .i64 cn', .int .i64 ca', vb]] w R := by
  unfold coarI at hR
  obtain ⟨A, na, rfl, -, -⟩ := ha.op
  obtain ⟨A', nb, rfl, -, -⟩ := hb.op
  have b1 := (Below.refl w.heap.size w).alloc (Nat.le_refl _) (.cells #[.int .i64 ck, .int .i64 cn, .int .i64 ca, .slice A la.length na] 50)
  have b2 := b1.alloc b1.size (.cells #[.int .i64 ck', .int .i64 cn', .int .i64 ca', .slice A' lb.length nb] 50)
  have hz : (w.alloc (.cells #[.int .i64 ck, .int .i64 cn, .int .i64 ca, .slice A la.length na] 50)).heap.size = w.heap.size + 1 := by simp
  have e1 := (((Below.refl _ _).alloc (Nat.le_refl _) (.cells #[.int .i64 ck', .int .i64 cn', .int .i64 ca', .slice A' lb.length nb] 50)).block w.heap.size (by omega)).trans (heap_alloc_new w (.cells #[.int .i64 ck, .int .i64 cn, .int .i64 ca, .slice A la.length na] 50))
  have e2 := heap_alloc_new (w.alloc (.cells #[.int .i64 ck, .int .i64 cn, .int .i64 ca, .slice A la.length na] 50)) (.cells #[.int .i64 ck', .int .i64 cn', .int .i64 ca', .slice A' lb.length nb] 50)
  rw [hz] at e2
  have k0 := (Lib.cell_of_heap e1 0).trans rfl
  have k1 := (Lib.cell_of_heap e1 1).trans rfl
  have k3 := (Lib.cell_of_heap e1 3).trans rfl
  have j0 := (Lib.cell_of_heap e2 0).trans rfl
  have j1 := (Lib.cell_of_heap e2 1).trans rfl
  have j3 := (Lib.cell_of_heap e2 3).trans rfl
  have cE := Lib.hid fun R hR => eqw_calls la lb hm _ _ _ (ha.below b2) (hb.below b2) R hR
  have bb := Lib.hid b2
  clear b1 b2 e1 e2 hz ha hb
  by_cases c0 : ck = ck'
  · have q0 : (ck == ck') = true := by simpa using c0
    rw [decide_eq_true c0, Bool.true_and] at hR
    clear c0
    by_cases c1 : cn = cn'
    · have q1 : (cn == cn') = true := by simpa using c1
      rw [decide_eq_true c1, Bool.true_and] at hR
      clear c1
      go_enter Try.func41, Try.ntmps41
      go_wp2_with fail
      refine cE.out _ (Lib.hid fun w5 n5 => ?_)
      have fin := Lib.hid (hR.out _ (bb.out.trans (n5.mono bb.out.size)))
      generalize sameW la lb = S at *
      clear hR bb cE n5
      go_wp2_with fail
      exact fin.out
    · have q1 : (cn == cn') = false := by simpa using c1
      have fin := Lib.hid (hR.out _ bb.out)
      rw [decide_eq_false c1, Bool.false_and] at fin
      clear c1 hR bb cE
      go_enter Try.func41, Try.ntmps41
      go_wp2_with fail
      exact fin.out
  · have q0 : (ck == ck') = false := by simpa using c0
    have fin := Lib.hid (hR.out _ bb.out)
    rw [decide_eq_false c0, Bool.false_and] at fin
    clear c0 hR bb cE
    go_enter Try.func41, Try.ntmps41
    go_wp2_with fail
    exact fin.out
end Go.Proofs.Ytpepomnkoghjpaa.Kin
