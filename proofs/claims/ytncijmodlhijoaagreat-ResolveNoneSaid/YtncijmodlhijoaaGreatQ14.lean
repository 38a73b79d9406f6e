import Derived.Test.YtncijmodlhijoaaGreatQ4
set_option linter.unusedVariables false
set_option maxRecDepth 100000
set_option maxHeartbeats 4000000
namespace Go.Proofs.YtncijmodlhijoaaGreat.Kin
open Go.RowKit Go.Lib Utf Nam Lat
theorem sameWord_calls (a b : ByteArray) (x y : Int) (w : World) (R : Ending → World → Prop) (hR : Hid (∀ w', Below w.heap.size w w' → R (.returned (.bool (decide (a = b)))) w')) : Calls Tryz.prog 175 #[.agg #[.string a, .int .i64 x], .agg #[.string b, .int .i64 y]] w R := by
  have b1 := (Below.refl w.heap.size w).alloc (Nat.le_refl _) (.cells #[.string a, .int .i64 x] 27)
  have b2 := b1.alloc b1.size (.cells #[.string b, .int .i64 y] 27)
  have hz : (w.alloc (.cells #[.string a, .int .i64 x] 27)).heap.size = w.heap.size + 1 := by simp
  have e1 := (((Below.refl _ _).alloc (Nat.le_refl _) (.cells #[.string b, .int .i64 y] 27)).block w.heap.size (by omega)).trans (heap_alloc_new w (.cells #[.string a, .int .i64 x] 27))
  have e2 := heap_alloc_new (w.alloc (.cells #[.string a, .int .i64 x] 27)) (.cells #[.string b, .int .i64 y] 27)
  rw [hz] at e2
  have k0 := (Lib.cell_of_heap e1 0).trans rfl
  have j0 := (Lib.cell_of_heap e2 0).trans rfl
  have fin := Lib.hid (hR.out _ b2)
  clear hR b1 b2 e1 e2 hz
  by_cases h : a = b
  · have q := sq_t h
    rw [decide_eq_true h] at fin
    clear h
    go_enter Tryz.func175, Tryz.ntmps175
    go_wp2_with fail
    exact fin.out
  · have q := sq_f h
    rw [decide_eq_false h] at fin
    clear h
    go_enter Tryz.func175, Tryz.ntmps175
    go_wp2_with fail
    exact fin.out
theorem eqw_calls (a b : List Wr) (hm : a.length ≤ maxLen) (va vb : Value) (w : World) (ha : RdW w va a) (hb : RdW w vb b) (R : Ending → World → Prop) (hR : Hid (∀ w', Below w.heap.size w w' → R (.returned (.bool (sameW a b))) w')) : Calls Tryz.prog 85 #[va, vb, .func (.func 175) #[] #[]] w R := by
  replace hm : a.length ≤ 9223372036854775807 := hm
  obtain ⟨A, ca, rfl, hca, hra⟩ := ha.op
  obtain ⟨B, cb, rfl, hcb, hrb⟩ := hb.op
  by_cases hl : a.length = b.length
  · have q1 : ((a.length : Int) != (b.length : Int)) = false := by simp [hl]
    have hs : sameW a b = decide (nms (a.drop 0) = nms (b.drop 0)) := rfl
    replace hra := Lib.hid hra
    replace hrb := Lib.hid hrb
    replace hl := Lib.hid hl
    clear ha hb
    go_enter Tryz.func85, Tryz.ntmps85
    go_wp2_with fail
    go_loopg [17] a.length (fun g i wr => ∃ K : Nat, i = .int .i64 K ∧ K + g = a.length ∧ Hid (Below w.heap.size w wr) ∧ sameW a b = decide (nms (a.drop K) = nms (b.drop K)))
    case atStart => exact ⟨0, rfl, by omega, Lib.hid (Below.refl _ _), hs⟩
    case round =>
      obtain ⟨K, rfl, e1, nb, e2⟩ := hrel
      by_cases hK : K < a.length
      · have hK2 : K < b.length := by have := hl.out; omega
        obtain ⟨ga, oa, rfl, hga, ca⟩ := hra.out (by omega)
        obtain ⟨gb, ob, rfl, hgb, cb⟩ := hrb.out (by omega)
        have x0 := (nb.out.cell (p := ⟨ga, oa + K * 2, none⟩) hga).trans (ca K hK).1
        have x1 := (nb.out.cell (p := ⟨ga, oa + K * 2 + 1, none⟩) hga).trans (ca K hK).2
        have i0 : (0 : Int) ≤ (K : Int) := by omega
        have i1 : (K : Int) < (a.length : Int) := by omega
        have i2 : (K : Int) < (b.length : Int) := by omega
        have ht := nms_tail hl.out K hK
        have y0' := (nb.out.cell (p := ⟨gb, ob + K * 2, none⟩) hgb).trans (cb K hK2).1
        have y1' := (nb.out.cell (p := ⟨gb, ob + K * 2 + 1, none⟩) hgb).trans (cb K hK2).2
        clear ca cb
        generalize (wN a K).1 = s1 at *
        generalize (wN a K).2 = z1 at *
        generalize (wN b K).1 = s2 at *
        generalize (wN b K).2 = z2 at *
        have b1 := (Below.refl wr.heap.size wr).alloc (Nat.le_refl _) (.cells #[.string s1, .int .i64 z1] 27)
        have b2 := b1.alloc b1.size (.cells #[.string s2, .int .i64 z2] 27)
        have hz : (wr.alloc (.cells #[.string s1, .int .i64 z1] 27)).heap.size = wr.heap.size + 1 := by simp
        have f1 := (((Below.refl _ _).alloc (Nat.le_refl _) (.cells #[.string s2, .int .i64 z2] 27)).block wr.heap.size (by omega)).trans (heap_alloc_new wr (.cells #[.string s1, .int .i64 z1] 27))
        have f2 := heap_alloc_new (wr.alloc (.cells #[.string s1, .int .i64 z1] 27)) (.cells #[.string s2, .int .i64 z2] 27)
        rw [hz] at f2
        have y0 := (b1.cell (p := ⟨gb, ob + K * 2, none⟩) (Nat.lt_of_lt_of_le hgb nb.out.size)).trans y0'
        have y1 := (b1.cell (p := ⟨gb, ob + K * 2 + 1, none⟩) (Nat.lt_of_lt_of_le hgb nb.out.size)).trans y1'
        have k0 := (Lib.cell_of_heap f1 0).trans rfl
        have k1 := (Lib.cell_of_heap f1 1).trans rfl
        have j0 := (Lib.cell_of_heap f2 0).trans rfl
        have j1 := (Lib.cell_of_heap f2 1).trans rfl
        have bb := Lib.hid b2
        clear f1 f2 hz b1 b2 y0' y1'
        go_wp2_with fail
        refine sameWord_calls s1 s2 _ _ _ _ (Lib.hid fun w5 n5 => ?_)
        have nb5 := Lib.hid (nb.out.trans ((bb.out.trans (n5.mono bb.out.size)).mono nb.out.size))
        clear n5 bb
        by_cases hq : s1 = s2
        · have e3 : sameW a b = decide (nms (a.drop (K + 1)) = nms (b.drop (K + 1))) := by rw [e2]; exact decide_eq_decide.2 (ht.trans ⟨fun q => q.2, fun q => ⟨hq, q⟩⟩)
          rw [decide_eq_true hq]
          clear hq ht e2 k0 k1 j0 j1 x0 x1 y0 y1
          go_wp2_with fail
          go_roundg (gk - 1)
          case measure => omega
          case rel => exact ⟨K + 1, by go_num, by omega, nb5, e3⟩
        · have e3 : sameW a b = false := by rw [e2, decide_eq_false_iff_not]; rw [ht]; exact fun q => hq q.1
          have fin := Lib.hid (hR.out _ nb5.out)
          rw [e3] at fin
          rw [decide_eq_false hq]
          clear hq ht e2 hR k0 k1 j0 j1 x0 x1 y0 y1
          go_wp2_with fail
          exact fin.out
      · have hK2 : b.length ≤ K := by have := hl.out; omega
        have e3 : sameW a b = true := by rw [e2, List.drop_eq_nil_of_le (by omega), List.drop_eq_nil_of_le hK2]; simp
        have fin := Lib.hid (hR.out _ nb.out)
        rw [e3] at fin
        obtain rfl : K = a.length := by omega
        clear e2 hR
        go_wp2_with fail
        exact fin.out
  · have q1 : ((a.length : Int) != (b.length : Int)) = true := by simp; omega
    have e3 : sameW a b = false := by
      unfold sameW
      rw [decide_eq_false_iff_not]
      intro q
      have := congrArg List.length q
      rw [nms_len, nms_len] at this
      exact hl this
    have fin := Lib.hid (hR.out _ (Below.refl _ _))
    rw [e3] at fin
    clear hl hR ha hb hra hrb
    go_enter Tryz.func85, Tryz.ntmps85
    go_wp2_with fail
    exact fin.out
theorem outside_calls (n m : Int) (w : World) (R : Ending → World → Prop) (hR : Hid (R (.returned (.bool (decide (n < 0 ∨ m < n)))) w)) : Calls Tryz.prog 329 #[.int .i64 n, .int .i64 m] w R := by
  by_cases h : n < 0
  · rw [decide_eq_true (.inl h)] at hR
    go_enter Tryz.func329, Tryz.ntmps329
    go_wp2_with fail
    exact hR.out
  · by_cases h' : m < n
    · rw [decide_eq_true (.inr h')] at hR
      go_enter Tryz.func329, Tryz.ntmps329
      go_wp2_with fail
      exact hR.out
    · rw [decide_eq_false (by omega)] at hR
      go_enter Tryz.func329, Tryz.ntmps329
      go_wp2_with fail
      exact hR.out
def coarI (ck cn ck' cn' : Int) (la lb : List Wr) : Bool := decide (ck = ck') && (decide (cn = cn') && sameW la lb)
theorem sameCoarse_calls (ck cn ca ck' cn' ca' : Int) (la lb : List Wr) (va vb : Value) (w : World) (hm : la.length ≤ maxLen) (ha : RdW w va la) (hb : RdW w vb lb) (R : Ending → World → Prop) (hR : Hid (∀ w', Below w.heap.size w w' → R (.returned (.bool (coarI ck cn ck' cn' la lb))) w')) : Calls Tryz.prog 261 #[.agg #[.int .i64 ck, .int .i64 cn, .int .i64 ca, va], .agg #[.int .i64 ck', .int .i64 cn', .int .i64 ca', vb]] w R := by
  unfold coarI at hR
  obtain ⟨A, na, rfl, -, -⟩ := ha.op
  obtain ⟨A', nb, rfl, -, -⟩ := hb.op
  have b1 := (Below.refl w.heap.size w).alloc (Nat.le_refl _) (.cells #[.int .i64 ck, .int .i64 cn, .int .i64 ca, .slice A la.length na] 90)
  have b2 := b1.alloc b1.size (.cells #[.int .i64 ck', .int .i64 cn', .int .i64 ca', .slice A' lb.length nb] 90)
  have hz : (w.alloc (.cells #[.int .i64 ck, .int .i64 cn, .int .i64 ca, .slice A la.length na] 90)).heap.size = w.heap.size + 1 := by simp
  have e1 := (((Below.refl _ _).alloc (Nat.le_refl _) (.cells #[.int .i64 ck', .int .i64 cn', .int .i64 ca', .slice A' lb.length nb] 90)).block w.heap.size (by omega)).trans (heap_alloc_new w (.cells #[.int .i64 ck, .int .i64 cn, .int .i64 ca, .slice A la.length na] 90))
  have e2 := heap_alloc_new (w.alloc (.cells #[.int .i64 ck, .int .i64 cn, .int .i64 ca, .slice A la.length na] 90)) (.cells #[.int .i64 ck', .int .i64 cn', .int .i64 ca', .slice A' lb.length nb] 90)
  rw [hz] at e2
  have k0 := (Lib.cell_of_heap e1 0).trans rfl
  have k1 := (Lib.cell_of_heap e1 1).trans rfl
  have k3 := (Lib.cell_of_heap e1 3).trans rfl
  have j0 := (Lib.cell_of_heap e2 0).trans rfl
  have j1 := (Lib.cell_of_heap e2 1).trans rfl
  have j3 := (Lib.cell_of_heap e2 3).trans rfl
  have cE := Lib.hid fun R hR => eqw_calls la lb hm _ _ _ (ha.below b2) (hb.below b2) R hR
  have bb := Lib.hid b2
  clear b1 b2 e1 e2 hz ha hb
  by_cases c0 : ck = ck'
  · have q0 : (ck == ck') = true := by simpa using c0
    rw [decide_eq_true c0, Bool.true_and] at hR
    clear c0
    by_cases c1 : cn = cn'
    · have q1 : (cn == cn') = true := by simpa using c1
      rw [decide_eq_true c1, Bool.true_and] at hR
      clear c1
      go_enter Tryz.func261, Tryz.ntmps261
      go_wp2_with fail
      refine cE.out _ (Lib.hid fun w5 n5 => ?_)
      have fin := Lib.hid (hR.out _ (bb.out.trans (n5.mono bb.out.size)))
      generalize sameW la lb = S at *
      clear hR bb cE n5
      go_wp2_with fail
      exact fin.out
    · have q1 : (cn == cn') = false := by simpa using c1
      have fin := Lib.hid (hR.out _ bb.out)
      rw [decide_eq_false c1, Bool.false_and] at fin
      clear c1 hR bb cE
      go_enter Tryz.func261, Tryz.ntmps261
      go_wp2_with fail
      exact fin.out
  · have q0 : (ck == ck') = false := by simpa using c0
    have fin := Lib.hid (hR.out _ bb.out)
    rw [decide_eq_false c0, Bool.false_and] at fin
    clear c0 hR bb cE
    go_enter Tryz.func261, Tryz.ntmps261
    go_wp2_with fail
    exact fin.out
def cW : Ft → Int → Int
  | .nil, a => a
  | .cons p _ k r, a => cW r (if p.bare then a else wrap64 (a + cW k 1))
def dW : Ft → Int → Int
  | .nil, a => a
  | .cons p _ k r, a => dW r (if p.bare then a else if a < wrap64 (dW k 0 + 1) then wrap64 (dW k 0 + 1) else a)
def SizeQ (f : Ft) : Prop := ∀ (h : TH) (nv pv : Value) (w : World), f.len ≤ maxLen → f.All GoodH GoodL → RdY w h f nv pv → ∀ R : Ending → World → Prop,
  Hid (∀ w', Below w.heap.size w w' → R (.returned (.tuple #[.int .i64 (cW f 1), .int .i64 (wrap64 (dW f 0 + 1))])) w') → Calls Tryz.prog 37 #[tyV h nv pv] w R
theorem sameF_nil (f : Ft) : sameF f .nil = decide (f.len = 0) := by
  cases f with
  | nil => rfl
  | cons p h k r => simp [sameF, Fo.len]
theorem sameW_nil (l : List Wr) : sameW l [] = decide (l = []) := by
  unfold sameW
  cases l <;> simp [nms]
theorem nms_at {l : List Wr} {i : Nat} (h : i < l.length) : (nms l).getD i ByteArray.empty = (wN l i).1 := by
  rw [List.getD_eq_getElem?_getD, nms_get h]
  rfl
theorem pnm_drop : ∀ (n : Nat) {f : Ft} {p : PH} {x : TH} {k r : Ft}, f.drop n = .cons p x k r → (pnm f).take (n + 1) = (pnm f).take n ++ [(p.name, p.at_)]
  | 0, f, p, x, k, r, e => by
    have e' : f = .cons p x k r := e
    rw [e']
    rfl
  | n + 1, .nil, p, x, k, r, e => by simp [Fo.drop] at e
  | n + 1, .cons q y l s, p, x, k, r, e => by
    have := pnm_drop n (f := s) e
    simp only [pnm, List.take_succ_cons, this, List.cons_append]
theorem infoWrd : (Tryz.prog.info? 27).map (fun i => (i.zero, i.size, i.bytes)) = some (some (.agg #[.string ⟨#[]⟩, .int .i64 0]), 2, 24) := by kernel_rfl
end Go.Proofs.YtncijmodlhijoaaGreat.Kin
