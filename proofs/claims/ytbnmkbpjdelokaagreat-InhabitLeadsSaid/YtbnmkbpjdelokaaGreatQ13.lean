import Derived.Test.YtbnmkbpjdelokaaGreatQ4
set_option linter.unusedVariables false
set_option maxRecDepth 100000
set_option maxHeartbeats 4000000
namespace Go.Proofs.YtbnmkbpjdelokaaGreat.Kin
open Go.RowKit Go.Lib Utf Nam Lat
theorem sameWord_calls (a b : ByteArray) (x y : Int) (w : World) (R : Ending → World → Prop) (hR : Hid (∀ w', Below w.heap.size w w' → R (.returned (.bool (decide (a = b)))) w')) : Calls Tryz.prog 194 #[.agg #[.string a, .int .i64 x], .agg #[.string b, .int .i64 y]] w R := by
  have b1 := (Below.refl w.heap.size w).alloc (Nat.le_refl _) (.cells #[.string a, .int .i64 x] 27)
  have b2 := b1.alloc b1.size (.cells #[.string b, .int .i64 y] 27)
  have hz : (w.alloc (.cells #[.string a, .int .i64 x] 27)).heap.size = w.heap.size + 1 := by simp
  have e1 := (((Below.refl _ _).alloc (Nat.le_refl _) (.cells #[.string b, .int .i64 y] 27)).block w.heap.size (by omega)).trans (heap_alloc_new w (.cells #[.string a, .int .i64 x] 27))
  have e2 := heap_alloc_new (w.alloc (.cells #[.string a, .int .i64 x] 27)) (.cells #[.string b, .int .i64 y] 27)
  rw [hz] at e2
  have k0 := (Lib.cell_of_heap e1 0).trans rfl
  have j0 := (Lib.cell_of_heap e2 0).trans rfl
  have fin := Lib.hid (hR.out _ b2)
  clear hR b1 b2 e1 e2 hz
  by_cases h : a = b
  · have q := sq_t h
    rw [decide_eq_true h] at fin
    clear h
    go_enter Tryz.func194, Tryz.ntmps194
    go_wp2_with fail
    exact fin.out
  · have q := sq_f h
    rw [decide_eq_false h] at fin
    clear h
    go_enter Tryz.func194, Tryz.ntmps194
    go_wp2_with fail
    exact fin.out
theorem eqw_calls (a b : List Wr) (hm : a.length ≤ maxLen) (va vb : Value) (w : World) (ha : RdW w va a) (hb : RdW w vb b) (R : Ending → World → Prop) (hR : Hid (∀ w', Below w.heap.size w w' → R (.returned (.bool (sameW a b))) w')) : Calls Tryz.prog 195 #[va, vb, .func (.func 194) #[] #[]] w R := by
  replace hm : a.length ≤ 9223372036854775807 := hm
  obtain ⟨A, ca, rfl, hca, hra⟩ := ha.op
  obtain ⟨B, cb, rfl, hcb, hrb⟩ := hb.op
  by_cases hl : a.length = b.length
  · have q1 : ((a.length : Int) != (b.length : Int)) = false := by simp [hl]
    have hs : sameW a b = decide (nms (a.drop 0) = nms (b.drop 0)) := rfl
    replace hra := Lib.hid hra
    replace hrb := Lib.hid hrb
    replace hl := Lib.hid hl
    clear ha hb
    go_enter Tryz.func195, Tryz.ntmps195
    go_wp2_with fail
    go_loopg [17] a.length (fun g i wr => ∃ K : Nat, i = .int .i64 K ∧ K + g = a.length ∧ Hid (Below w.heap.size w wr) ∧ sameW a b = decide (nms (a.drop K) = nms (b.drop K)))
    case atStart => exact ⟨0, rfl, by omega, Lib.hid (Below.refl _ _), hs⟩
    case round =>
      obtain ⟨K, rfl, e1, nb, e2⟩ := hrel
      by_cases hK : K < a.length
      · have hK2 : K < b.length := by have := hl.out; omega
        obtain ⟨ga, oa, rfl, hga, ca⟩ := hra.out (by omega)
        obtain ⟨gb, ob, rfl, hgb, cb⟩ := hrb.out (by omega)
        have x0 := (nb.out.cell (p := ⟨ga, oa + K * 2, none⟩) hga).trans (ca K hK).1
        have x1 := (nb.out.cell (p := ⟨ga, oa + K * 2 + 1, none⟩) hga).trans (ca K hK).2
        have i0 : (0 : Int) ≤ (K : Int) := by omega
        have i1 : (K : Int) < (a.length : Int) := by omega
        have i2 : (K : Int) < (b.length : Int) := by omega
        have ht := nms_tail hl.out K hK
        have y0' := (nb.out.cell (p := ⟨gb, ob + K * 2, none⟩) hgb).trans (cb K hK2).1
        have y1' := (nb.out.cell (p := ⟨gb, ob + K * 2 + 1, none⟩) hgb).trans (cb K hK2).2
        clear ca cb
        generalize (wN a K).1 = s1 at *
        generalize (wN a K).2 = z1 at *
        generalize (wN b K).1 = s2 at *
        generalize (wN b K).2 = z2 at *
        have b1 := (Below.refl wr.heap.size wr).alloc (Nat.le_refl _) (.cells #[.string s1, .int .i64 z1] 27)
        have b2 := b1.alloc b1.size (.cells #[.string s2, .int .i64 z2] 27)
        have hz : (wr.alloc (.cells #[.string s1, .int .i64 z1] 27)).heap.size = wr.heap.size + 1 := by simp
        have f1 := (((Below.refl _ _).alloc (Nat.le_refl _) (.cells #[.string s2, .int .i64 z2] 27)).block wr.heap.size (by omega)).trans (heap_alloc_new wr (.cells #[.string s1, .int .i64 z1] 27))
        have f2 := heap_alloc_new (wr.alloc (.cells #[.string s1, .int .i64 z1] 27)) (.cells #[.string s2, .int .i64 z2] 27)
        rw [hz] at f2
        have y0 := (b1.cell (p := ⟨gb, ob + K * 2, none⟩) (Nat.lt_of_lt_of_le hgb nb.out.size)).trans y0'
        have y1 := (b1.cell (p := ⟨gb, ob + K * 2 + 1, none⟩) (Nat.lt_of_lt_of_le hgb nb.out.size)).trans y1'
        have k0 := (Lib.cell_of_heap f1 0).trans rfl
        have k1 := (Lib.cell_of_heap f1 1).trans rfl
        have j0 := (Lib.cell_of_heap f2 0).trans rfl
        have j1 := (Lib.cell_of_heap f2 1).trans rfl
        have bb := Lib.hid b2
        clear f1 f2 hz b1 b2 y0' y1'
        go_wp2_with fail
        refine sameWord_calls s1 s2 _ _ _ _ (Lib.hid fun w5 n5 => ?_)
        have nb5 := Lib.hid (nb.out.trans ((bb.out.trans (n5.mono bb.out.size)).mono nb.out.size))
        clear n5 bb
        by_cases hq : s1 = s2
        · have e3 : sameW a b = decide (nms (a.drop (K + 1)) = nms (b.drop (K + 1))) := by rw [e2]; exact decide_eq_decide.2 (ht.trans ⟨fun q => q.2, fun q => ⟨hq, q⟩⟩)
          rw [decide_eq_true hq]
          clear hq ht e2 k0 k1 j0 j1 x0 x1 y0 y1
          go_wp2_with fail
          go_roundg (gk - 1)
          case measure => omega
          case rel => exact ⟨K + 1, by go_num, by omega, nb5, e3⟩
        · have e3 : sameW a b = false := by rw [e2, decide_eq_false_iff_not]; rw [ht]; exact fun q => hq q.1
          have fin := Lib.hid (hR.out _ nb5.out)
          rw [e3] at fin
          rw [decide_eq_false hq]
          clear hq ht e2 hR k0 k1 j0 j1 x0 x1 y0 y1
          go_wp2_with fail
          exact fin.out
      · have hK2 : b.length ≤ K := by have := hl.out; omega
        have e3 : sameW a b = true := by rw [e2, List.drop_eq_nil_of_le (by omega), List.drop_eq_nil_of_le hK2]; simp
        have fin := Lib.hid (hR.out _ nb.out)
        rw [e3] at fin
        obtain rfl : K = a.length := by omega
        clear e2 hR
        go_wp2_with fail
        exact fin.out
  · have q1 : ((a.length : Int) != (b.length : Int)) = true := by simp; omega
    have e3 : sameW a b = false := by
      unfold sameW
      rw [decide_eq_false_iff_not]
      intro q
      have := congrArg List.length q
      rw [nms_len, nms_len] at this
      exact hl this
    have fin := Lib.hid (hR.out _ (Below.refl _ _))
    rw [e3] at fin
    clear hl hR ha hb hra hrb
    go_enter Tryz.func195, Tryz.ntmps195
    go_wp2_with fail
    exact fin.out
theorem outside_calls (n m : Int) (w : World) (R : Ending → World → Prop) (hR : Hid (R (.returned (.bool (decide (n < 0 ∨ m < n)))) w)) : Calls Tryz.prog 179 #[.int .i64 n, .int .i64 m] w R := by
  by_cases h : n < 0
  · rw [decide_eq_true (.inl h)] at hR
    go_enter Tryz.func179, Tryz.ntmps179
    go_wp2_with fail
    exact hR.out
  · by_cases h' : m < n
    · rw [decide_eq_true (.inr h')] at hR
      go_enter Tryz.func179, Tryz.ntmps179
      go_wp2_with fail
      exact hR.out
    · rw [decide_eq_false (by omega)] at hR
      go_enter Tryz.func179, Tryz.ntmps179
      go_wp2_with fail
      exact hR.out
def coarI (ck cn ck' cn' : Int) (la lb : List Wr) : Bool := decide (ck = ck') && (decide (cn = cn') && sameW la lb)
theorem sameCoarse_calls (ck cn ca ck' cn' ca' : Int) (la lb : List Wr) (va vb : Value) (w : World) (hm : la.length ≤ maxLen) (ha : RdW w va la) (hb : RdW w vb lb) (R : Ending → World → Prop) (hR : Hid (∀ w', Below w.heap.size w w' → R (.returned (.bool (coarI ck cn ck' cn' la lb))) w')) : Calls Tryz.prog 197 #[.agg #[.int .i64 ck, .int .i64 cn, .int .i64 ca, va], .agg #[.int .i64 ck', .int .i64 cn', .int .i64 ca', vb]] w R := by
  unfold coarI at hR
  obtain ⟨A, na, rfl, -, -⟩ := ha.op
  obtain ⟨A', nb, rfl, -, -⟩ := hb.op
  have b1 := (Below.refl w.heap.size w).alloc (Nat.le_refl _) (.cells #[.int .i64 ck, .int .i64 cn, .int .i64 ca, .slice A la.length na] 76)
  have b2 := b1.alloc b1.size (.cells #[.int .i64 ck', .int .i64 cn', .int .i64 ca', .slice A' lb.length nb] 76)
  have hz : (w.alloc (.cells #[.int .i64 ck, .int .i64 cn, .int .i64 ca, .slice A la.length na] 76)).heap.size = w.heap.size + 1 := by simp
  have e1 := (((Below.refl _ _).alloc (Nat.le_refl _) (.cells #[.int .i64 ck', .int .i64 cn', .int .i64 ca', .slice A' lb.length nb] 76)).block w.heap.size (by omega)).trans (heap_alloc_new w (.cells #[.int .i64 ck, .int .i64 cn, .int .i64 ca, .slice A la.length na] 76))
  have e2 := heap_alloc_new (w.alloc (.cells #[.int .i64 ck, .int .i64 cn, .int .i64 ca, .slice A la.length na] 76)) (.cells #[.int .i64 ck', .int .i64 cn', .int .i64 ca', .slice A' lb.length nb] 76)
  rw [hz] at e2
  have k0 := (Lib.cell_of_heap e1 0).trans rfl
  have k1 := (Lib.cell_of_heap e1 1).trans rfl
  have k3 := (Lib.cell_of_heap e1 3).trans rfl
  have j0 := (Lib.cell_of_heap e2 0).trans rfl
  have j1 := (Lib.cell_of_heap e2 1).trans rfl
  have j3 := (Lib.cell_of_heap e2 3).trans rfl
  have cE := Lib.hid fun R hR => eqw_calls la lb hm _ _ _ (ha.below b2) (hb.below b2) R hR
  have bb := Lib.hid b2
  clear b1 b2 e1 e2 hz ha hb
  by_cases c0 : ck = ck'
  · have q0 : (ck == ck') = true := by simpa using c0
    rw [decide_eq_true c0, Bool.true_and] at hR
    clear c0
    by_cases c1 : cn = cn'
    · have q1 : (cn == cn') = true := by simpa using c1
      rw [decide_eq_true c1, Bool.true_and] at hR
      clear c1
      go_enter Tryz.func197, Tryz.ntmps197
      go_wp2_with fail
      refine cE.out _ (Lib.hid fun w5 n5 => ?_)
      have fin := Lib.hid (hR.out _ (bb.out.trans (n5.mono bb.out.size)))
      generalize sameW la lb = S at *
      clear hR bb cE n5
      go_wp2_with fail
      exact fin.out
    · have q1 : (cn == cn') = false := by simpa using c1
      have fin := Lib.hid (hR.out _ bb.out)
      rw [decide_eq_false c1, Bool.false_and] at fin
      clear c1 hR bb cE
      go_enter Tryz.func197, Tryz.ntmps197
      go_wp2_with fail
      exact fin.out
  · have q0 : (ck == ck') = false := by simpa using c0
    have fin := Lib.hid (hR.out _ bb.out)
    rw [decide_eq_false c0, Bool.false_and] at fin
    clear c0 hR bb cE
    go_enter Tryz.func197, Tryz.ntmps197
    go_wp2_with fail
    exact fin.out
def cW : Ft → Int → Int
  | .nil, a => a
  | .cons p _ k r, a => cW r (if p.bare then a else wrap64 (a + cW k 1))
def dW : Ft → Int → Int
  | .nil, a => a
  | .cons p _ k r, a => dW r (if p.bare then a else if a < wrap64 (dW k 0 + 1) then wrap64 (dW k 0 + 1) else a)
def SizeQ (f : Ft) : Prop := ∀ (h : TH) (nv pv : Value) (w : World), f.len ≤ maxLen → f.All GoodH GoodL → RdY w h f nv pv → ∀ R : Ending → World → Prop,
  Hid (∀ w', Below w.heap.size w w' → R (.returned (.tuple #[.int .i64 (cW f 1), .int .i64 (wrap64 (dW f 0 + 1))])) w') → Calls Tryz.prog 53 #[tyV h nv pv] w R
theorem size15_step (f : Ft) (ih : Fo.AllK SizeQ f) : SizeQ f := by
  intro h nv pv w hfl hga hy R hR
  replace hfl : f.len ≤ 9223372036854775807 := hfl
  have bA := (Below.refl w.heap.size w).alloc (Nat.le_refl _) (.cells (tyL h nv pv).toArray 29)
  have kA := TB.new w h nv pv 29
  obtain ⟨Ap, cp, rfl, hpl⟩ := hy.p.sl
  obtain ⟨An, cn, rfl, -, -⟩ := hy.n.op
  replace hy := Lib.hid (hy.below bA)
  replace hga := Lib.hid hga
  replace ih := Lib.hid ih
  replace bA := Lib.hid bA
  replace kA := Lib.hid kA
  go_enter Tryz.func53, Tryz.ntmps53
  go_upto_region 1 with fail
  generalize w.alloc (.cells (tyL h (.slice An h.names.length cn) (.slice Ap f.len cp)).toArray 29) = W2 at *
  go_wp2_with fail
  go_loopg [4, 5, 6] f.len (fun g0 n d i wr => ∃ (K : Nat) (a b : Int), n = .int .i64 a ∧ d = .int .i64 b ∧ i = .int .i64 K ∧ K + g0 = f.len ∧ Hid (Below W2.heap.size W2 wr) ∧ cW f 1 = cW (f.drop K) a ∧ dW f 0 = dW (f.drop K) b)
  case atStart => exact ⟨0, 1, 0, rfl, rfl, rfl, by omega, Lib.hid (Below.refl _ _), rfl, rfl⟩
  case round =>
    obtain ⟨K, a, b, rfl, rfl, rfl, e1, nW, e2, e3⟩ := hrel
    have a6 := (kA.out.below nW.out).k6
    by_cases hK : K < f.len
    · obtain ⟨p, x, kd, r, e⟩ := Fo.drop_lt hK
      obtain ⟨g, o, lv, cv, nx, px, rfl, hg, -, -, hyx, hc⟩ := (hy.out.below nW.out).p.part e
      have x2 := hc 2 _ rfl
      obtain ⟨gp, gx, gk', ga2⟩ := all_at K hga.out e
      have ihK := Lib.hid ((ih.out).at_ e)
      rw [e] at e2 e3
      have d1 := Fo.drop_succ K e
      have i0 : (0 : Int) ≤ (K : Int) := by omega
      have i1 : (K : Int) < (f.len : Int) := by omega
      have e4 : cW f 1 = cW r (if p.bare then a else wrap64 (a + cW kd 1)) := e2
      have e5 : dW f 0 = dW r (if p.bare then b else if b < wrap64 (dW kd 0 + 1) then wrap64 (dW kd 0 + 1) else b) := e3
      clear e2 e3
      cases hb : p.bare
      · rw [hb] at x2 e4 e5
        simp only [Bool.false_eq_true, if_false] at e4 e5
        have s6 : wr.rangeAt g (o + K * 18 + 9) [.int .i64 x.kind, .int .i64 x.at_, .int .i64 x.lo, .int .i64 x.hi, .int .i64 x.most, nx, px, .string x.name, .int .i64 x.nat] := fun j v h => by rw [Nat.add_assoc]; exact hc (9 + j) v (by rw [← List.getElem?_drop]; exact h)
        have cS := Lib.hid fun R hR => ihK.out x nx px wr gk' ga2 hyx R hR
        clear hc e hyx ihK
        go_wp2_with (refine wpList_load_g (by rfl) _ _ rfl g (o + K * 18 + 9) rfl [.int .i64 x.kind, .int .i64 x.at_, .int .i64 x.lo, .int .i64 x.hi, .int .i64 x.most, nx, px, .string x.name, .int .i64 x.nat] _ s6 Tryz.underlying29 rfl (by kernel_rfl) ?_; go_simp)
        refine cS.out _ (Lib.hid fun w5 n5 => ?_)
        have nY := Lib.hid (nW.out.trans (n5.mono nW.out.size))
        generalize cW kd 1 = ck at *
        generalize wrap64 (dW kd 0 + 1) = dk at *
        clear s6 cS n5
        rw [← d1] at e4 e5
        by_cases hbd : b < dk
        · rw [if_pos hbd] at e5
          go_wp2_with fail
          go_roundg (gk - 1)
          case measure => omega
          case rel => exact ⟨K + 1, _, _, rfl, rfl, by go_num, by omega, nY, e4, e5⟩
        · rw [if_neg hbd] at e5
          go_wp2_with fail
          go_roundg (gk - 1)
          case measure => omega
          case rel => exact ⟨K + 1, _, _, rfl, rfl, by go_num, by omega, nY, e4, e5⟩
      · rw [hb] at x2 e4 e5
        simp only [if_true] at e4 e5
        rw [← d1] at e4 e5
        clear hc e hyx ihK
        go_wp2_with fail
        go_roundg (gk - 1)
        case measure => omega
        case rel => exact ⟨K + 1, a, b, rfl, rfl, by go_num, by omega, nW, e4, e5⟩
    · obtain rfl : K = f.len := by omega
      rw [Fo.drop_all (Nat.le_refl _)] at e2 e3
      have e4 : cW f 1 = a := e2
      have e5 : dW f 0 = b := e3
      have fin := Lib.hid (hR.out _ (bA.out.trans (nW.out.mono bA.out.size)))
      rw [e4, e5] at fin
      clear hR e2 e3 e4 e5
      go_wp2_with fail
      exact fin.out
theorem size15_calls (f : Ft) : SizeQ f := Fo.deep size15_step f
theorem sameF_nil (f : Ft) : sameF f .nil = decide (f.len = 0) := by
  cases f with
  | nil => rfl
  | cons p h k r => simp [sameF, Fo.len]
theorem sameW_nil (l : List Wr) : sameW l [] = decide (l = []) := by
  unfold sameW
  cases l <;> simp [nms]
theorem nms_at {l : List Wr} {i : Nat} (h : i < l.length) : (nms l).getD i ByteArray.empty = (wN l i).1 := by
  rw [List.getD_eq_getElem?_getD, nms_get h]
  rfl
theorem pnm_drop : ∀ (n : Nat) {f : Ft} {p : PH} {x : TH} {k r : Ft}, f.drop n = .cons p x k r → (pnm f).take (n + 1) = (pnm f).take n ++ [(p.name, p.at_)]
  | 0, f, p, x, k, r, e => by
    have e' : f = .cons p x k r := e
    rw [e']
    rfl
  | n + 1, .nil, p, x, k, r, e => by simp [Fo.drop] at e
  | n + 1, .cons q y l s, p, x, k, r, e => by
    have := pnm_drop n (f := s) e
    simp only [pnm, List.take_succ_cons, this, List.cons_append]
theorem infoWrd : (Tryz.prog.info? 27).map (fun i => (i.zero, i.size, i.bytes)) = some (some (.agg #[.string ⟨#[]⟩, .int .i64 0]), 2, 24) := by kernel_rfl
theorem wrB_cnt (h : TH) (k : Ft) (sub : Mo → Nat → Nat → Res) (hs : ∀ mo d m, m ≤ 512 → (sub mo d m).1 = 0 → (sub mo d m).2.2 ≤ 512) (d m : Nat) : (wrB h k sub d m).1 = 0 → (wrB h k sub d m).2.2 ≤ 512 := by
  unfold wrB
  by_cases h1 : 24 < d
  · rw [if_pos h1]; simp
  rw [if_neg h1]
  by_cases h2 : 512 < m + 1
  · rw [if_pos h2]; simp
  rw [if_neg h2]
  have hm : m + 1 ≤ 512 := by omega
  repeat' split
  all_goals first | exact hs _ _ _ hm | (intro _; exact hm)
theorem blt_of {V : World} {b : Nat} {o : Obj} (h : V.heap[b]? = some o) : b < V.heap.size := (Array.getElem?_eq_some_iff.1 h).1
theorem pnm_at : ∀ (n : Nat) {f : Ft} {p : PH} {x : TH} {k r : Ft}, f.drop n = .cons p x k r → wN (pnm f) n = (p.name, p.at_)
  | 0, f, p, x, k, r, e => by
    have e' : f = .cons p x k r := e
    rw [e']
    rfl
  | n + 1, .nil, p, x, k, r, e => by simp [Fo.drop] at e
  | n + 1, .cons q y l s, p, x, k, r, e => by
    have := pnm_at n (f := s) e
    simpa [pnm, wN] using this
theorem set_atK {w : World} {p : Nat} {cs : Array Value} {t : TypeId} (h : w.heap[p]? = some (.cells cs t)) (o : Nat) (v : Value) : (w.setCell ⟨p, o, none⟩ v).heap[p]? = some (.cells (cs.setIfInBounds o v) t) := by
  simp [World.setCell, Array.getElem?_modify, h]
theorem set_neK {w : World} {q o k : Nat} {v : Value} (h : k ≠ q) : (w.setCell ⟨q, o, none⟩ v).heap[k]? = w.heap[k]? := Below.heap_setCell _ ⟨q, o, none⟩ v k h
theorem enumF_zero (ns : List ByteArray) : ∀ (l : List Wr) (i : Nat), (enumF ns i l).1 = 0 → (enumF ns i l).2 = 0
  | [], _ => fun _ => rfl
  | x :: r, i => by
    unfold enumF
    split
    · rename_i q; exact fun h => absurd h q
    · exact enumF_zero ns r (i + 1)
theorem wrB_zero (h : TH) (k : Ft) (sub : Mo → Nat → Nat → Res) (hs : ∀ mo d m, (sub mo d m).1 = 0 → (sub mo d m).2.1 = 0) (d m : Nat) : (wrB h k sub d m).1 = 0 → (wrB h k sub d m).2.1 = 0 := by
  unfold wrB
  by_cases h1 : 24 < d
  · rw [if_pos h1]; simp
  rw [if_neg h1]
  by_cases h2 : 512 < m + 1
  · rw [if_pos h2]; simp
  rw [if_neg h2]
  repeat' split
  all_goals first | exact hs _ _ _ | exact enumF_zero _ _ _ | (intro _; rfl) | (intro q; simp at q)
noncomputable def partS (h : TH) (f : Ft) (d m : Nat) : Res := if h.kind = 8 ∧ f.len = 0 then (15, h.at_, m) else if 64 < f.len then (8, (wN (pnm f) 64).2, m) else wrF f (.parts h.kind (nms (pnm f)) 0) (d + 1) m
section
variable {h : TH} {k : Ft} {sub : Mo → Nat → Nat → Res} {d m M : Nat}
theorem wrB_ok (hM : M = m + 1) (hd : d ≤ 24) (hm : M ≤ 512) (h1 : 1 ≤ h.kind) (h9 : h.kind ≤ 9) (ho : ownB h k = true) : wrB h k sub d m =
    if (h.kind = 2 ∧ h.hi < h.lo) ∨ (h.kind = 3 ∧ (h.most < 0 ∨ 4096 < h.most)) then (20, h.at_, M)
    else if h.kind = 9 ∧ rightS h.name = false then (9, h.nat, M)
    else if h.kind = 4 then (if h.names = [] then (15, h.at_, M) else if 64 < h.names.length then (8, (wN h.names 64).2, M) else ((enumF (nms h.names) 0 h.names).1, (enumF (nms h.names) 0 h.names).2, M))
    else if h.kind = 5 ∨ h.kind = 6 then (if onlyB k = false then (19, h.at_, M) else if h.most < 0 ∨ 1024 < h.most then (20, h.at_, M) else sub .one (d + 1) M)
    else if h.kind = 7 ∨ h.kind = 8 then (if h.kind = 8 ∧ k.len = 0 then (15, h.at_, M) else if 64 < k.len then (8, (wN (pnm k) 64).2, M) else sub (.parts h.kind (nms (pnm k)) 0) (d + 1) M)
    else (0, 0, M) := by
  subst hM
  unfold wrB
  rw [if_neg (by omega), if_neg (by omega), if_neg (by omega), if_neg (by rw [ho]; simp)]
variable (hM : M = m + 1) (hd : d ≤ 24) (hm : M ≤ 512) (ho : ownB h k = true)
include hM hd hm ho
theorem wrB_1 (hk : h.kind = 1) : wrB h k sub d m = (0, 0, M) := by rw [wrB_ok hM hd hm (by omega) (by omega) ho]; simp [hk]
theorem wrB_2 (hk : h.kind = 2) : wrB h k sub d m = if h.hi < h.lo then (20, h.at_, M) else (0, 0, M) := by rw [wrB_ok hM hd hm (by omega) (by omega) ho]; simp [hk]
theorem wrB_3 (hk : h.kind = 3) : wrB h k sub d m = if h.most < 0 ∨ 4096 < h.most then (20, h.at_, M) else (0, 0, M) := by rw [wrB_ok hM hd hm (by omega) (by omega) ho]; simp [hk]
theorem wrB_9 (hk : h.kind = 9) : wrB h k sub d m = if rightS h.name = false then (9, h.nat, M) else (0, 0, M) := by rw [wrB_ok hM hd hm (by omega) (by omega) ho]; simp [hk]
theorem wrB_4 (hk : h.kind = 4) : wrB h k sub d m = if h.names = [] then (15, h.at_, M) else if 64 < h.names.length then (8, (wN h.names 64).2, M) else ((enumF (nms h.names) 0 h.names).1, (enumF (nms h.names) 0 h.names).2, M) := by rw [wrB_ok hM hd hm (by omega) (by omega) ho]; simp [hk]
theorem wrB_5 (hk : h.kind = 5 ∨ h.kind = 6) : wrB h k sub d m = if onlyB k = false then (19, h.at_, M) else if h.most < 0 ∨ 1024 < h.most then (20, h.at_, M) else sub .one (d + 1) M := by
  rw [wrB_ok hM hd hm (by omega) (by omega) ho]
  rcases hk with hk | hk <;> simp [hk]
end
theorem wrB_err (h : TH) (k : Ft) (sub : Mo → Nat → Nat → Res) (d m : Nat) : wrB h k sub d m =
    if 24 < d then (6, h.at_, m + 1) else if 512 < m + 1 then (8, h.at_, m + 1) else if h.kind < 1 ∨ 9 < h.kind then (14, h.at_, m + 1) else if ownB h k = false then (19, h.at_, m + 1) else wrB h k sub d m := by
  by_cases a : 24 < d
  · unfold wrB; simp only [a, if_true]
  by_cases b : 512 < m + 1
  · unfold wrB; simp only [a, b, if_true, if_false]
  by_cases c : h.kind < 1 ∨ 9 < h.kind
  · unfold wrB; simp only [a, b, c, if_true, if_false]
  by_cases e : ownB h k = false
  · unfold wrB; simp only [a, b, c, e, if_true, if_false]
  rw [if_neg a, if_neg b, if_neg c, if_neg e]
theorem enum_drop {ns : List ByteArray} {l : List Wr} {i : Nat} (hi : i < l.length) : enumF ns i (l.drop i) = if listedS ns i ≠ 0 then (listedS ns i, (wN l i).2) else enumF ns (i + 1) (l.drop (i + 1)) := by
  rw [List.drop_eq_getElem_cons hi, wN_get hi]
  rfl
theorem only_len : ∀ {f : Ft}, f.len ≠ 1 → onlyB f = false
  | .nil, _ => rfl
  | .cons p x k .nil, h => absurd rfl h
  | .cons p x k (.cons ..), _ => rfl
theorem only_one {f : Ft} {p : PH} {x : TH} {k r : Ft} (e : f.drop 0 = .cons p x k r) (hl : f.len = 1) : onlyB f = (decide (p.name = ByteArray.empty) && plainB p zPH) ∧ ∀ d m, wrF f .one d m = wrB x k (wrF k) d m := by
  have e' : f = .cons p x k r := e
  subst e'
  have : r = .nil := Fo.len_zero (by simp only [Fo.len] at hl; omega)
  subst this
  exact ⟨rfl, fun _ _ => rfl⟩
end Go.Proofs.YtbnmkbpjdelokaaGreat.Kin
