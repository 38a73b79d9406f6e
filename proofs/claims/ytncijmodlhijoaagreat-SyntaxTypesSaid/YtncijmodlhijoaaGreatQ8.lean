import Derived.Test.YtncijmodlhijoaaGreatQ7
import Derived.StillTailTactics
import Derived.Deep.Cut
set_option linter.unusedVariables false
set_option maxRecDepth 100000
set_option maxHeartbeats 4000000
namespace Go.Proofs.YtncijmodlhijoaaGreat.Kin
open Go.RowKit Go.Lib Utf Nam Lat
theorem sq_t {a b : ByteArray} (h : a = b) : (a.toList == b.toList) = true := by rw [h]; simp
theorem sq_f {a b : ByteArray} (h : a ≠ b) : (a.toList == b.toList) = false := by rw [bl_inj, decide_eq_false (fun e => h (bl_ext e))]
end Go.Proofs.YtncijmodlhijoaaGreat.Kin
namespace Go.Proofs.YtncijmodlhijoaaGreat.Syn
open Go.RowKit Go.Lib Utf Tok Cur Nam Lat Kin
abbrev psV (v : Value) (p : PS) : Value := .agg #[v, .int .i64 p.2.1, .int .i64 p.2.2]
theorem set3p {b q : Nat} {w W : World} (hq : b ≤ q) (n : Below b w W) (a0 a1 a2 : Value) : Below b w (((W.setCell ⟨q, 0, none⟩ a0).setCell ⟨q, 1, none⟩ a1).setCell ⟨q, 2, none⟩ a2) := ((n.setCell (p := ⟨q, 0, none⟩) hq a0).setCell (p := ⟨q, 1, none⟩) hq a1).setCell (p := ⟨q, 2, none⟩) hq a2
theorem blt {V : World} {b : Nat} {o : Obj} (h : V.heap[b]? = some o) : b < V.heap.size := (Array.getElem?_eq_some_iff.1 h).1
theorem fine16_calls (v : Value) (p : PS) (hv : ∃ A n c, v = .slice A n c) (w : World) (R : Ending → World → Prop)
  (hR : Hid (∀ w', Below w.heap.size w w' → R (.returned (.bool (decide (p.2.1 = 0)))) w')) : Calls Tryz.prog 70 #[psV v p] w R := by
 obtain ⟨l, e, z⟩ := p
 obtain ⟨A, n, c, rfl⟩ := hv
 have bA := (Below.refl w.heap.size w).alloc (Nat.le_refl _) (.cells #[.slice A n c, .int .i64 e, .int .i64 z] 142)
 have hA := heap_alloc_new w (.cells #[.slice A n c, .int .i64 e, .int .i64 z] 142)
 have fin := Lib.hid (hR.out _ bA)
 have k0 := (Lib.cell_of_heap hA 0).trans rfl
 have k1 := (Lib.cell_of_heap hA 1).trans rfl
 have k2 := (Lib.cell_of_heap hA 2).trans rfl
 clear hR bA hA
 by_cases he : e = 0
 ·subst he
  rw [decide_eq_true (show ((l, (0 : Int), z) : PS).2.1 = 0 from rfl)] at fin
  go_enter Tryz.func70, Tryz.ntmps70
  go_wp2_with fail
  exact fin.out
 ·rw [decide_eq_false (show ¬ ((l, e, z) : PS).2.1 = 0 from he)] at fin
  have q : (e == 0) = false := by simpa using he
  clear he
  go_enter Tryz.func70, Tryz.ntmps70
  go_wp2_with fail
  exact fin.out
theorem is16_calls (p : PS) (v : Value) (w0 w : World) (hb : Below w0.heap.size w0 w) (hx : RdK w0 v p.1) (ok : Ok p) (k : Int) (x : ByteArray) (R : Ending → World → Prop)
  (hR : Hid (∀ w', Below w.heap.size w w' → R (.returned (.bool (isS p k x))) w')) : Calls Tryz.prog 149 #[psV v p, .int .i64 k, .string x] w R := by
 obtain ⟨l, e, z⟩ := p
 obtain ⟨A, cp, rfl, hlc, hr⟩ := hx.op
 have hlen : 0 < l.length := List.length_pos_iff.2 (EndL.ne ok)
 obtain ⟨g, o, rfl, hg, hca⟩ := hr hlen
 obtain ⟨x0, x1, -, x3, -⟩ := hca 0 hlen
 rw [hd_tN (EndL.ne ok)] at x0 x1 x3
 simp only [Nat.zero_mul, Nat.add_zero] at x0 x1 x3
 have i1 : (0 : Int) < (l.length : Int) := by omega
 obtain ⟨o1_, ho1_⟩ : ∃ oO_ : Obj, oO_ = .cells #[.slice (some ⟨g, o, none⟩) l.length cp, .int .i64 e, .int .i64 z] 142 := ⟨_, rfl⟩
 have bA := (Below.refl w.heap.size w).alloc (Nat.le_refl _) o1_
 have hA := heap_alloc_new w o1_
 subst ho1_
 have lg : g < w.heap.size := Nat.lt_of_lt_of_le hg hb.size
 have y0 := (bA.cell (p := ⟨g, o, none⟩) lg).trans ((hb.cell (p := ⟨g, o, none⟩) hg).trans x0)
 have y3 := (bA.cell (p := ⟨g, o + 3, none⟩) lg).trans ((hb.cell (p := ⟨g, o + 3, none⟩) hg).trans x3)
 have fin := Lib.hid (hR.out _ bA)
 have j0 := (Lib.cell_of_heap hA 0).trans rfl
 have j1 := (Lib.cell_of_heap hA 1).trans rfl
 have j2 := (Lib.cell_of_heap hA 2).trans rfl
 unfold isS at fin
 simp only at fin
 clear hR bA hA hca hr hx x0 x1 x3 hb
 generalize (Cur.hdT l).1 = t0 at *
 generalize (Cur.hdT l).2.2.2.1 = t3 at *
 by_cases c0 : t0 = k
 ·have q0 : (t0 == k) = true := by simpa using c0
  rw [decide_eq_true c0, Bool.true_and] at fin
  clear c0
  by_cases c1 : t3 = x
  ·have q1 := sq_t c1
   rw [decide_eq_true c1] at fin
   clear c1
   go_enter Tryz.func149, Tryz.ntmps149
   go_wp2_with fail
   exact fin.out
  ·have q1 := sq_f c1
   rw [decide_eq_false c1] at fin
   clear c1
   go_enter Tryz.func149, Tryz.ntmps149
   go_wp2_with fail
   exact fin.out
 ·have q0 : (t0 == k) = false := by simpa using c0
  rw [decide_eq_false c0, Bool.false_and] at fin
  clear c0
  go_enter Tryz.func149, Tryz.ntmps149
  go_wp2_with fail
  exact fin.out
theorem on16_calls (p : PS) (v : Value) (w0 w : World) (hb : Below w0.heap.size w0 w) (hx : RdK w0 v p.1) (ok : Ok p) (h1 : (Cur.hdT p.1).1 ≠ 0 ∨ 1 ≤ p.1.length) (R : Ending → World → Prop)
  (hR : Hid (∀ v' w', RdK w0 v' (onS p).1 → Below w.heap.size w w' → R (.returned (psV v' (onS p))) w')) : Calls Tryz.prog 142 #[psV v p] w R := by
 obtain ⟨l, e, z⟩ := p
 obtain ⟨A, cp, rfl, hlc, hr⟩ := hx.op
 have hlen : 0 < l.length := List.length_pos_iff.2 (EndL.ne ok)
 obtain ⟨g, o, rfl, hg, hca⟩ := hr hlen
 obtain ⟨x0, x1, -, x3, -⟩ := hca 0 hlen
 rw [hd_tN (EndL.ne ok)] at x0 x1 x3
 simp only [Nat.zero_mul, Nat.add_zero] at x0 x1 x3
 have i1 : (0 : Int) < (l.length : Int) := by omega
 obtain ⟨o2_, ho2_⟩ : ∃ oO_ : Obj, oO_ = .cells #[.slice (some ⟨g, o, none⟩) l.length cp, .int .i64 e, .int .i64 z] 142 := ⟨_, rfl⟩
 have bA := (Below.refl w.heap.size w).alloc (Nat.le_refl _) o2_
 have hA := heap_alloc_new w o2_
 have lg : g < w.heap.size := Nat.lt_of_lt_of_le hg hb.size
 obtain ⟨o3_, ho3_⟩ : ∃ oO_ : Obj, oO_ = .cells #[.slice none 0 0, .int .i64 0, .int .i64 0] 142 := ⟨_, rfl⟩
 have bB := bA.alloc bA.size o3_
 have hz : (w.alloc o2_).heap.size = w.heap.size + 1 := by simp
 have hA2 := (((Below.refl _ _).alloc (Nat.le_refl _) o3_).block w.heap.size (by omega)).trans hA
 have hY := heap_alloc_new (w.alloc o2_) o3_
 subst ho3_
 subst ho2_
 rw [hz] at hY
 have rd := RdK.tail hx hlen
 have i2 : (1 : Int) ≤ (l.length : Int) := by omega
 replace rd := Lib.hid rd
 clear hca hr hx x0 x1 x3 h1
 go_enter Tryz.func142, Tryz.ntmps142
 go_upto_region 1 with fail
 generalize (w.alloc (.cells #[.slice (some ⟨g, o, none⟩) l.length cp, .int .i64 e, .int .i64 z] 142)).alloc (.cells #[.slice none 0 0, .int .i64 0, .int .i64 0] 142) = V at *
 clear bA hA hz
 have j0 := (Lib.cell_of_heap hA2 0).trans rfl
 have j1 := (Lib.cell_of_heap hA2 1).trans rfl
 have j2 := (Lib.cell_of_heap hA2 2).trans rfl
 have y0 := (Lib.cell_of_heap hY 0).trans rfl
 have yf0 := Lib.frozen_of_heap hY 0
 have y1 := (Lib.cell_of_heap hY 1).trans rfl
 have yf1 := Lib.frozen_of_heap hY 1
 have y2 := (Lib.cell_of_heap hY 2).trans rfl
 have yf2 := Lib.frozen_of_heap hY 2
 by_cases h2 : cp = 1
 ·subst h2
  have hl1 : l.length = 1 := by have : l.length ≤ 1 := hlc; omega
  have ht : (onS (l, e, z)).1 = [] := List.eq_nil_of_length_eq_zero (by simp [onS, hl1])
  have rd2 : RdK w0 (.slice (some ⟨g, o, none⟩) 0 0) (onS (l, e, z)).1 := by rw [ht]; exact RdG.none0 _ _ _
  have fin := Lib.hid (hR.out (.slice (some ⟨g, o, none⟩) 0 0) _ rd2 (set3p (q := w.heap.size + 1) (by omega) bB (.slice (some ⟨g, o, none⟩) 0 0) (.int .i64 e) (.int .i64 z)).drew)
  clear hR rd rd2 bB ht hl1
  go_still_tail 6, (by kernel_rfl)
  repeat still_step
  go_wp2_with fail
  refine bodyPost_ret ?_ rfl fin.out
  simp [results, Tryz.results142, go_sem, onS, y0, y1, y2]
 ·have h3 : 1 < cp := by have : l.length ≤ cp := hlc; omega
  have h4 : ¬ cp - 1 = 0 := by omega
  go_still_tail 6, (by kernel_rfl)
  repeat still_step
  change wpList _ _ _ _ _ V.drew
  have fin := Lib.hid (hR.out (.slice (some ⟨g, o + 5, none⟩) (l.length - 1) (cp - 1)) _ rd.out (set3p (q := w.heap.size + 1) (by omega) bB.drew (.slice (some ⟨g, o + 5, none⟩) (l.length - 1) (cp - 1)) (.int .i64 e) (.int .i64 z)))
  clear hR rd bB
  go_wp2_with fail
  refine bodyPost_ret ?_ rfl fin.out
  simp [results, Tryz.results142, go_sem, onS, y0, y1, y2]
theorem wrong16_calls (p : PS) (v : Value) (w0 w : World) (hb : Below w0.heap.size w0 w) (hx : RdK w0 v p.1) (ok : Ok p) (R : Ending → World → Prop)
  (hR : Hid (∀ v' w', RdK w0 v' (wrongS p).1 → Below w.heap.size w w' → R (.returned (psV v' (wrongS p))) w')) : Calls Tryz.prog 141 #[psV v p] w R := by
 obtain ⟨l, e, z⟩ := p
 obtain ⟨A, cp, rfl, hlc, hr⟩ := hx.op
 have hlen : 0 < l.length := List.length_pos_iff.2 (EndL.ne ok)
 obtain ⟨g, o, rfl, hg, hca⟩ := hr hlen
 obtain ⟨x0, x1, -, x3, -⟩ := hca 0 hlen
 rw [hd_tN (EndL.ne ok)] at x0 x1 x3
 simp only [Nat.zero_mul, Nat.add_zero] at x0 x1 x3
 have i1 : (0 : Int) < (l.length : Int) := by omega
 obtain ⟨o4_, ho4_⟩ : ∃ oO_ : Obj, oO_ = .cells #[.slice (some ⟨g, o, none⟩) l.length cp, .int .i64 e, .int .i64 z] 142 := ⟨_, rfl⟩
 have bA := (Below.refl w.heap.size w).alloc (Nat.le_refl _) o4_
 have hA := heap_alloc_new w o4_
 have lg : g < w.heap.size := Nat.lt_of_lt_of_le hg hb.size
 obtain ⟨o5_, ho5_⟩ : ∃ oO_ : Obj, oO_ = .cells #[.slice none 0 0, .int .i64 0, .int .i64 0] 142 := ⟨_, rfl⟩
 have bB := bA.alloc bA.size o5_
 have hz : (w.alloc o4_).heap.size = w.heap.size + 1 := by simp
 have hA2 := (((Below.refl _ _).alloc (Nat.le_refl _) o5_).block w.heap.size (by omega)).trans hA
 have hY := heap_alloc_new (w.alloc o4_) o5_
 subst ho5_
 subst ho4_
 rw [hz] at hY
 have z0 := (bB.cell (p := ⟨g, o, none⟩) lg).trans ((hb.cell (p := ⟨g, o, none⟩) hg).trans x0)
 have z1 := (bB.cell (p := ⟨g, o + 1, none⟩) lg).trans ((hb.cell (p := ⟨g, o + 1, none⟩) hg).trans x1)
 replace hx := hx
 clear hca hr x0 x1 x3
 go_enter Tryz.func141, Tryz.ntmps141
 go_upto_region 1 with fail
 generalize (w.alloc (.cells #[.slice (some ⟨g, o, none⟩) l.length cp, .int .i64 e, .int .i64 z] 142)).alloc (.cells #[.slice none 0 0, .int .i64 0, .int .i64 0] 142) = V at *
 clear bA hA hz
 have j0 := (Lib.cell_of_heap hA2 0).trans rfl
 have j1 := (Lib.cell_of_heap hA2 1).trans rfl
 have j2 := (Lib.cell_of_heap hA2 2).trans rfl
 have y0 := (Lib.cell_of_heap hY 0).trans rfl
 have yf0 := Lib.frozen_of_heap hY 0
 have y1 := (Lib.cell_of_heap hY 1).trans rfl
 have yf1 := Lib.frozen_of_heap hY 1
 have y2 := (Lib.cell_of_heap hY 2).trans rfl
 have yf2 := Lib.frozen_of_heap hY 2
 by_cases he : e = 0
 ·subst he
  by_cases c0 : (Cur.hdT l).1 = 0
  ·have q0 : ((Cur.hdT l).1 == 0) = true := by simpa using c0
   have hq : wrongS (l, 0, z) = (l, 5, (Cur.hdT l).2.1) := by unfold wrongS; rw [if_neg (by simp), if_pos c0]
   rw [hq] at hR
   clear c0 hq
   generalize (Cur.hdT l).1 = t0 at *
   generalize (Cur.hdT l).2.1 = t1 at *
   go_wp2_with fail
   go_still_tail 10, (by kernel_rfl)
   repeat still_step
   change wpList _ _ _ _ _ V.drew
   have fin := Lib.hid (hR.out (.slice (some ⟨g, o, none⟩) l.length cp) _ hx (set3p (q := w.heap.size + 1) (by omega) bB.drew (.slice (some ⟨g, o, none⟩) l.length cp) (.int .i64 5) (.int .i64 t1)))
   clear hR hx bB
   go_wp2_with fail
   refine bodyPost_ret ?_ rfl fin.out
   simp [results, Tryz.results141, go_sem, onS, y0, y1, y2]
  ·have q0 : ((Cur.hdT l).1 == 0) = false := by simpa using c0
   have hq : wrongS (l, 0, z) = (l, 4, (Cur.hdT l).2.1) := by unfold wrongS; rw [if_neg (by simp), if_neg c0]
   rw [hq] at hR
   clear c0 hq
   generalize (Cur.hdT l).1 = t0 at *
   generalize (Cur.hdT l).2.1 = t1 at *
   go_wp2_with fail
   go_still_tail 10, (by kernel_rfl)
   repeat still_step
   change wpList _ _ _ _ _ V.drew
   have fin := Lib.hid (hR.out (.slice (some ⟨g, o, none⟩) l.length cp) _ hx (set3p (q := w.heap.size + 1) (by omega) bB.drew (.slice (some ⟨g, o, none⟩) l.length cp) (.int .i64 4) (.int .i64 t1)))
   clear hR hx bB
   go_wp2_with fail
   refine bodyPost_ret ?_ rfl fin.out
   simp [results, Tryz.results141, go_sem, onS, y0, y1, y2]
 ·have q0 : (e != 0) = true := by simpa using he
  have hq : wrongS (l, e, z) = (l, e, z) := if_pos he
  rw [hq] at hR
  have fin := Lib.hid (hR.out (.slice (some ⟨g, o, none⟩) l.length cp) _ hx (set3p (q := w.heap.size + 1) (by omega) bB (.slice (some ⟨g, o, none⟩) l.length cp) (.int .i64 e) (.int .i64 z)))
  clear hR hx bB he hq
  go_wp2_with fail
  refine bodyPost_ret ?_ rfl fin.out
  simp [results, Tryz.results141, go_sem, onS, y0, y1, y2]
theorem need16_calls (p : PS) (v : Value) (w0 w : World) (hb : Below w0.heap.size w0 w) (hx : RdK w0 v p.1) (ok : Ok p) (k : Int) (x : ByteArray) (R : Ending → World → Prop)
  (hR : Hid (∀ v' w', RdK w0 v' (needS p k x).1 → Below w.heap.size w w' → R (.returned (psV v' (needS p k x))) w')) : Calls Tryz.prog 69 #[psV v p, .int .i64 k, .string x] w R := by
 obtain ⟨l, e, z⟩ := p
 obtain ⟨A, cp, rfl, hlc, -⟩ := hx.op
 obtain ⟨o1_, ho1_⟩ : ∃ oO_ : Obj, oO_ = .cells #[.slice A l.length cp, .int .i64 e, .int .i64 z] 142 := ⟨_, rfl⟩
 have bA := (Below.refl w.heap.size w).alloc (Nat.le_refl _) o1_
 have hA := heap_alloc_new w o1_
 obtain ⟨o2_, ho2_⟩ : ∃ oO_ : Obj, oO_ = .cells #[.slice none 0 0, .int .i64 0, .int .i64 0] 142 := ⟨_, rfl⟩
 have b1 := bA.alloc bA.size o2_
 have z1 : (w.alloc o1_).heap.size = w.heap.size + 1 := by simp
 replace hA := (((Below.refl _ _).alloc (Nat.le_refl _) o2_).block (w.heap.size) (by omega)).trans hA
 have hY1 := heap_alloc_new (w.alloc o1_) o2_
 subst ho2_
 subst ho1_
 rw [z1] at hY1
 go_enter Tryz.func69, Tryz.ntmps69
 go_upto_region 1 with fail
 generalize (w.alloc (.cells #[.slice A l.length cp, .int .i64 e, .int .i64 z] 142)).alloc (.cells #[.slice none 0 0, .int .i64 0, .int .i64 0] 142) = V at *
 have nb := b1
 clear bA z1 b1
 have hbV := hb.trans (nb.mono hb.size)
 have j0 := (Lib.cell_of_heap hA 0).trans rfl
 have j1 := (Lib.cell_of_heap hA 1).trans rfl
 have j2 := (Lib.cell_of_heap hA 2).trans rfl
 go_wp2_with fail
 refine fine16_calls (.slice A l.length cp) (l, e, z) ⟨_, _, _, rfl⟩ V _ (Lib.hid fun w1 n1 => ?_)
 replace hA := (n1.block _ (blt hA)).trans hA
 replace hY1 := (n1.block _ (blt hY1)).trans hY1
 replace nb := nb.trans (n1.mono nb.size)
 replace hbV := hb.trans (nb.mono hb.size)
 clear j0 j1 j2 n1
 have j0 := (Lib.cell_of_heap hA 0).trans rfl
 have j1 := (Lib.cell_of_heap hA 1).trans rfl
 have j2 := (Lib.cell_of_heap hA 2).trans rfl
 by_cases he : e = 0
 ·subst he
  rw [decide_eq_true (show ((l, 0, z) : PS).2.1 = 0 from rfl)]
  go_wp2_with fail
  refine is16_calls (l, 0, z) (.slice A l.length cp) w0 w1 hbV hx ok k x _ (Lib.hid fun w2 n2 => ?_)
  replace hA := (n2.block _ (blt hA)).trans hA
  replace hY1 := (n2.block _ (blt hY1)).trans hY1
  replace nb := nb.trans (n2.mono nb.size)
  replace hbV := hb.trans (nb.mono hb.size)
  clear j0 j1 j2 n2
  have j0 := (Lib.cell_of_heap hA 0).trans rfl
  have j1 := (Lib.cell_of_heap hA 1).trans rfl
  have j2 := (Lib.cell_of_heap hA 2).trans rfl
  cases hi : isS (l, 0, z) k x
  ·have hq : needS (l, 0, z) k x = wrongS (l, 0, z) := by unfold needS; rw [if_neg (by simp), hi]; rfl
   rw [hq] at hR
   clear hi hq
   go_wp2_with fail
   refine wrong16_calls (l, 0, z) (.slice A l.length cp) w0 w2 hbV hx ok _ (Lib.hid fun v3 w3 r3 n3 => ?_)
   replace hA := (n3.block _ (blt hA)).trans hA
   replace hY1 := (n3.block _ (blt hY1)).trans hY1
   replace nb := nb.trans (n3.mono nb.size)
   replace hbV := hb.trans (nb.mono hb.size)
   clear j0 j1 j2 n3
   have j0 := (Lib.cell_of_heap hA 0).trans rfl
   have j1 := (Lib.cell_of_heap hA 1).trans rfl
   have j2 := (Lib.cell_of_heap hA 2).trans rfl
   obtain ⟨A3, c3, rfl, -, -⟩ := r3.op
   generalize wrongS (l, 0, z) = q at *
   have y0 := (Lib.cell_of_heap hY1 0).trans rfl
   have yf0 := Lib.frozen_of_heap hY1 0
   have y1 := (Lib.cell_of_heap hY1 1).trans rfl
   have yf1 := Lib.frozen_of_heap hY1 1
   have y2 := (Lib.cell_of_heap hY1 2).trans rfl
   have yf2 := Lib.frozen_of_heap hY1 2
   have fin := Lib.hid (hR.out (.slice A3 q.1.length c3) _ r3 (set3p (q := w.heap.size + 1) (by omega) nb (.slice A3 q.1.length c3) (.int .i64 q.2.1) (.int .i64 q.2.2)))
   clear hR
   go_wp2_with fail
   refine bodyPost_ret ?_ rfl fin.out
   simp [results, Tryz.results69, go_sem, onS, y0, y1, y2]
  ·have hq : needS (l, 0, z) k x = onS (l, 0, z) := by unfold needS; rw [if_neg (by simp), hi]; rfl
   rw [hq] at hR
   clear hi hq
   go_wp2_with fail
   refine on16_calls (l, 0, z) (.slice A l.length cp) w0 w2 hbV hx ok (.inr (List.length_pos_iff.2 (EndL.ne ok))) _ (Lib.hid fun v3 w3 r3 n3 => ?_)
   replace hA := (n3.block _ (blt hA)).trans hA
   replace hY1 := (n3.block _ (blt hY1)).trans hY1
   replace nb := nb.trans (n3.mono nb.size)
   replace hbV := hb.trans (nb.mono hb.size)
   clear j0 j1 j2 n3
   have j0 := (Lib.cell_of_heap hA 0).trans rfl
   have j1 := (Lib.cell_of_heap hA 1).trans rfl
   have j2 := (Lib.cell_of_heap hA 2).trans rfl
   obtain ⟨A3, c3, rfl, -, -⟩ := r3.op
   generalize hqq : onS (l, 0, z) = q at *
   clear hqq
   have y0 := (Lib.cell_of_heap hY1 0).trans rfl
   have yf0 := Lib.frozen_of_heap hY1 0
   have y1 := (Lib.cell_of_heap hY1 1).trans rfl
   have yf1 := Lib.frozen_of_heap hY1 1
   have y2 := (Lib.cell_of_heap hY1 2).trans rfl
   have yf2 := Lib.frozen_of_heap hY1 2
   have fin := Lib.hid (hR.out (.slice A3 q.1.length c3) _ r3 (set3p (q := w.heap.size + 1) (by omega) nb (.slice A3 q.1.length c3) (.int .i64 q.2.1) (.int .i64 q.2.2)))
   clear hR
   go_wp2_with fail
   refine bodyPost_ret ?_ rfl fin.out
   simp [results, Tryz.results69, go_sem, onS, y0, y1, y2]
 ·rw [decide_eq_false (show ¬ ((l, e, z) : PS).2.1 = 0 from he)]
  have hq : needS (l, e, z) k x = (l, e, z) := by unfold needS; rw [if_pos he]
  rw [hq] at hR
  clear hq
  have y0 := (Lib.cell_of_heap hY1 0).trans rfl
  have yf0 := Lib.frozen_of_heap hY1 0
  have y1 := (Lib.cell_of_heap hY1 1).trans rfl
  have yf1 := Lib.frozen_of_heap hY1 1
  have y2 := (Lib.cell_of_heap hY1 2).trans rfl
  have yf2 := Lib.frozen_of_heap hY1 2
  have fin := Lib.hid (hR.out (.slice A l.length cp) _ hx (set3p (q := w.heap.size + 1) (by omega) nb (.slice A l.length cp) (.int .i64 ((l, e, z) : PS).2.1) (.int .i64 ((l, e, z) : PS).2.2)))
  clear hR
  go_wp2_with fail
  refine bodyPost_ret ?_ rfl fin.out
  simp [results, Tryz.results69, go_sem, onS, y0, y1, y2]
theorem mark16_calls (p : PS) (v : Value) (w0 w : World) (hb : Below w0.heap.size w0 w) (hx : RdK w0 v p.1) (ok : Ok p) (x : ByteArray) (R : Ending → World → Prop)
  (hR : Hid (∀ v' w', RdK w0 v' (markS p x).1 → Below w.heap.size w w' → R (.returned (psV v' (markS p x))) w')) : Calls Tryz.prog 143 #[psV v p, .string x] w R := by
 obtain ⟨l, e, z⟩ := p
 obtain ⟨A, cp, rfl, hlc, -⟩ := hx.op
 obtain ⟨o3_, ho3_⟩ : ∃ oO_ : Obj, oO_ = .cells #[.slice A l.length cp, .int .i64 e, .int .i64 z] 142 := ⟨_, rfl⟩
 have bA := (Below.refl w.heap.size w).alloc (Nat.le_refl _) o3_
 have hA := heap_alloc_new w o3_
 obtain ⟨o4_, ho4_⟩ : ∃ oO_ : Obj, oO_ = .cells #[.slice none 0 0, .int .i64 0, .int .i64 0] 142 := ⟨_, rfl⟩
 have b1 := bA.alloc bA.size o4_
 have z1 : (w.alloc o3_).heap.size = w.heap.size + 1 := by simp
 replace hA := (((Below.refl _ _).alloc (Nat.le_refl _) o4_).block (w.heap.size) (by omega)).trans hA
 have hY1 := heap_alloc_new (w.alloc o3_) o4_
 subst ho4_
 subst ho3_
 rw [z1] at hY1
 go_enter Tryz.func143, Tryz.ntmps143
 go_upto_region 1 with fail
 generalize (w.alloc (.cells #[.slice A l.length cp, .int .i64 e, .int .i64 z] 142)).alloc (.cells #[.slice none 0 0, .int .i64 0, .int .i64 0] 142) = V at *
 have nb := b1
 clear bA z1 b1
 have hbV := hb.trans (nb.mono hb.size)
 have j0 := (Lib.cell_of_heap hA 0).trans rfl
 have j1 := (Lib.cell_of_heap hA 1).trans rfl
 have j2 := (Lib.cell_of_heap hA 2).trans rfl
 go_wp2_with fail
 refine need16_calls (l, e, z) (.slice A l.length cp) w0 V hbV hx ok 4 x _ (Lib.hid fun v3 w3 r3 n3 => ?_)
 replace hA := (n3.block _ (blt hA)).trans hA
 replace hY1 := (n3.block _ (blt hY1)).trans hY1
 replace nb := nb.trans (n3.mono nb.size)
 replace hbV := hb.trans (nb.mono hb.size)
 clear j0 j1 j2 n3
 have j0 := (Lib.cell_of_heap hA 0).trans rfl
 have j1 := (Lib.cell_of_heap hA 1).trans rfl
 have j2 := (Lib.cell_of_heap hA 2).trans rfl
 obtain ⟨A3, c3, rfl, -, -⟩ := r3.op
 have hq : markS (l, e, z) x = needS (l, e, z) 4 x := rfl
 rw [hq] at hR
 generalize needS (l, e, z) 4 x = q at *
 clear hq
 have y0 := (Lib.cell_of_heap hY1 0).trans rfl
 have yf0 := Lib.frozen_of_heap hY1 0
 have y1 := (Lib.cell_of_heap hY1 1).trans rfl
 have yf1 := Lib.frozen_of_heap hY1 1
 have y2 := (Lib.cell_of_heap hY1 2).trans rfl
 have yf2 := Lib.frozen_of_heap hY1 2
 have fin := Lib.hid (hR.out (.slice A3 q.1.length c3) _ r3 (set3p (q := w.heap.size + 1) (by omega) nb (.slice A3 q.1.length c3) (.int .i64 q.2.1) (.int .i64 q.2.2)))
 clear hR
 go_wp2_with fail
 refine bodyPost_ret ?_ rfl fin.out
 simp [results, Tryz.results143, go_sem, onS, y0, y1, y2]
end Go.Proofs.YtncijmodlhijoaaGreat.Syn
