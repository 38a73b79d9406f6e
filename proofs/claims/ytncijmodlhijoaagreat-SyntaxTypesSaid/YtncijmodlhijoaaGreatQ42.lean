import Derived.Test.YtncijmodlhijoaaGreatQ41
set_option linter.unusedVariables false
set_option maxRecDepth 100000
set_option maxHeartbeats 4000000
namespace Go.Proofs.YtncijmodlhijoaaGreat.Cur
open Go.RowKit Go.Lib Utf Tok
theorem run_field0 (t0 t1 t2 : Int) (t3 : ByteArray) (t4 : Int) (w : World) : (Instr.field 212 (.agg #[.int .i64 t0, .int .i64 t1, .int .i64 t2, .string t3, .int .i64 t4]) 0).run Tryz.prog w = .ok (.int .i64 t0) w := by
 simp [Instr.field, run_underlying Tryz.underlying212, part, asAgg, Tryz.isAgg3, go_sem]
theorem accept_calls (c : Cu) (p g : Nat) (k : Int) (hk : k ≠ 0) (m : ByteArray) (w : World) (h : CurG w p c g) (R : Ending → World → Prop) (hR : Hid (∀ w', CurG w' p (takeS c k m false) g → w.grownBy w' (some p) → R (.returned (.bool (hasS c k m false))) w')) : Calls Tryz.prog 247 #[ptV p, .int .i64 k, .string m] w R := by
 have cP := Lib.hid fun R hR => peek_calls c p g w h R hR
 have cX := Lib.hid fun (W : World) (hb : Below w.heap.size w W) R hR => next_calls c p g W (h.all hb) R hR
 have no : hasS c k m false = false → ∀ W, Below w.heap.size w W → Hid (R (.returned (.bool false)) W) := fun hh W hb => by
  have := hR.out W (by unfold takeS; rw [hh]; exact h.all hb) (grow_bl hb)
  rw [hh] at this
  exact Lib.hid this
 have yes : hasS c k m false = true → ∀ W W', Below w.heap.size w W → CurG W' p (nextS c) g → W.grownBy W' (some p) → Hid (R (.returned (.bool true)) W') := fun hh W W' hb hc gr => by
  have := hR.out W' (by unfold takeS; rw [hh]; exact hc) (grow_tr (grow_bl hb) gr)
  rw [hh] at this
  exact Lib.hid this
 have hh : hasS c k m false = (decide ((peekS c).1 = k) && (false || decide ((peekS c).2.2.2.1 = m))) := rfl
 generalize hasS c k m false = B at *
 generalize peekS c = t at *
 obtain ⟨t0, t1, t2, t3, t4⟩ := t
 simp only [tkV] at cP cX
 simp only [Bool.false_or] at hh
 clear hR h
 go_enter Tryz.func247, Tryz.ntmps247
 go_wp2_with fail
 refine cP.out _ (Lib.hid fun w3 n3 => ?_)
 obtain ⟨k0, k1, k2, k3, k4⟩ := five_of (tok_new w3 (.int .i64 t0) (.int .i64 t1) (.int .i64 t2) (.string t3) (.int .i64 t4))
 have bA := n3.alloc n3.size (.cells #[.int .i64 t0, .int .i64 t1, .int .i64 t2, .string t3, .int .i64 t4] 212)
 clear n3 cP
 by_cases h1 : t0 = k
 ·have q1 : (t0 != k) = false := by simpa using h1
  rw [decide_eq_true h1, Bool.true_and] at hh
  clear h1
  by_cases h2 : t3 = m
  ·rw [decide_eq_true h2] at hh
   subst h2
   have q2 := sq_t (rfl : t3 = t3)
   have cX1 := Lib.hid (cX.out _ bA)
   have fin := Lib.hid fun W' => yes hh _ W' bA
   clear no yes cX bA hk
   go_wp2_with fail
   refine cX1.out _ (Lib.hid fun w5 c5 g5 => ?_)
   have f2 := fin.out w5 c5 g5
   clear c5 g5 fin cX1
   go_wp2_with fail
   exact f2.out
  ·rw [decide_eq_false h2] at hh
   have q2 := sq_f h2
   have fin := no hh _ bA
   clear no yes cX bA hk
   go_wp2_with fail
   exact fin.out
 ·have q1 : (t0 != k) = true := by simpa using h1
  rw [decide_eq_false h1, Bool.false_and] at hh
  have fin := no hh _ bA
  clear no yes cX bA hk
  go_wp2_with fail
  exact fin.out
theorem mark_calls (c : Cu) (p g : Nat) (m : ByteArray) (w : World) (h : CurG w p c g) (R : Ending → World → Prop) (hR : Hid (∀ w', CurG w' p (takeS c 4 m false) g → w.grownBy w' (some p) → R (.returned (.bool (hasS c 4 m false))) w')) : Calls Tryz.prog 279 #[ptV p, .string m] w R := by
 go_enter Tryz.func279, Tryz.ntmps279
 go_wp2_with fail
 refine accept_calls c p g 4 (by decide) m w h _ (Lib.hid fun w3 c3 g3 => ?_)
 have fin := Lib.hid (hR.out _ c3 g3)
 clear h hR c3 g3
 go_wp2_with fail
 exact fin.out
theorem word_calls (c : Cu) (p g : Nat) (m : ByteArray) (w : World) (h : CurG w p c g) (R : Ending → World → Prop) (hR : Hid (∀ w', CurG w' p (takeS c 1 m false) g → w.grownBy w' (some p) → R (.returned (.bool (hasS c 1 m false))) w')) : Calls Tryz.prog 155 #[ptV p, .string m] w R := by
 go_enter Tryz.func155, Tryz.ntmps155
 go_wp2_with fail
 refine accept_calls c p g 1 (by decide) m w h _ (Lib.hid fun w3 c3 g3 => ?_)
 have fin := Lib.hid (hR.out _ c3 g3)
 clear h hR c3 g3
 go_wp2_with fail
 exact fin.out
theorem cqtake_calls (c : Cu) (p g : Nat) (k : Int) (w : World) (h : CurG w p c g) (R : Ending → World → Prop) (hR : Hid (∀ w', CurG w' p (if k ≠ 0 ∧ (peekS c).1 = k then nextS c else c) g → w.grownBy w' (some p) → R (.returned (.tuple #[tkV (if k ≠ 0 ∧ (peekS c).1 = k then peekS c else zT), .bool (decide (k ≠ 0 ∧ (peekS c).1 = k))])) w')) : Calls Tryz.prog 246 #[ptV p, .int .i64 k] w R := by
 have tz : tkV zT = .agg #[.int .i64 0, .int .i64 0, .int .i64 0, .string ⟨#[]⟩, .int .i64 0] := rfl
 obtain ⟨o1_, ho1_⟩ : ∃ oO_ : Obj, oO_ = .cells #[.int .i64 0, .int .i64 0, .int .i64 0, .string ⟨#[]⟩, .int .i64 0] 212 := ⟨_, rfl⟩
 have bA := (Below.refl w.heap.size w).alloc (Nat.le_refl _) o1_
 have hA := tok_new w (.int .i64 0) (.int .i64 0) (.int .i64 0) (.string ⟨#[]⟩) (.int .i64 0)
 have hl : w.heap.size < (w.alloc o1_).heap.size := by simp
 subst ho1_
 have no : ¬ (k ≠ 0 ∧ (peekS c).1 = k) → ∀ W, Below w.heap.size w W → Hid (R (.returned (.tuple #[.agg #[.int .i64 0, .int .i64 0, .int .i64 0, .string ⟨#[]⟩, .int .i64 0], .bool false])) W) := fun q W hb => by
  have := hR.out W (by rw [if_neg q]; exact h.all hb) (grow_bl hb)
  rw [if_neg q, decide_eq_false q, tz] at this
  exact Lib.hid this
 have yes : (k ≠ 0 ∧ (peekS c).1 = k) → ∀ W', CurG W' p (nextS c) g → w.grownBy W' (some p) → Hid (R (.returned (.tuple #[tkV (peekS c), .bool true])) W') := fun q W' hc gr => by
  have := hR.out W' (by rw [if_pos q]; exact hc) gr
  rw [if_pos q, decide_eq_true q] at this
  exact Lib.hid this
 have cP := Lib.hid fun (W : World) (hb : Below w.heap.size w W) R hR => peek_calls c p g W (h.all hb) R hR
 have cX := Lib.hid fun (W : World) (hb : Below w.heap.size w W) R hR => next_calls c p g W (h.all hb) R hR
 have hpl := h.lt
 have hgl := h.lg
 clear hR h
 by_cases hk : k = 0
 ·subst hk
  obtain ⟨m0, m1, m2, m3, m4⟩ := five_of hA
  obtain ⟨f0, f1, f2, f3, f4⟩ := fz hA
  have fin := no (by rintro ⟨q, -⟩; exact q rfl) _ bA
  clear hA bA no yes cP cX hl tz
  go_enter Tryz.func246, Tryz.ntmps246
  go_wp2_with fail
  refine bodyPost_ret ?_ rfl fin.out
  simp [results, Tryz.results246, go_sem, m0, m1, m2, m3, m4] <;> rfl
 ·have q1 : (k == 0) = false := by simpa using hk
  replace bA := Lib.hid bA
  generalize peekS c = t at *
  obtain ⟨t0, t1, t2, t3, t4⟩ := t
  simp only [tkV] at yes cP cX
  simp only at no
  go_enter Tryz.func246, Tryz.ntmps246
  go_wp2_with fail
  generalize w.alloc (.cells #[.int .i64 0, .int .i64 0, .int .i64 0, .string ⟨#[]⟩, .int .i64 0] 212) = W2 at *
  refine cP.out W2 bA.out _ (Lib.hid fun w3 n3 => ?_)
  have e0 := run_field0 t0 t1 t2 t3 t4
  have hB := (n3.block _ hl).trans hA
  have bC := bA.out.trans (n3.mono bA.out.size)
  have hl3 := Nat.lt_of_lt_of_le hl n3.size
  by_cases h1 : t0 = k
  ·have q2 : (t0 != k) = false := by simpa using h1
   have cX1 := Lib.hid (cX.out _ bC)
   have fin := Lib.hid (yes ⟨hk, h1⟩)
   replace bC := Lib.hid bC
   replace hB := Lib.hid hB
   clear no yes cP cX hA n3 bA h1
   go_wp2_with fail
   refine cX1.out _ (Lib.hid fun w5 c5 g5 => ?_)
   have hD := (g5.block _ hl3 (by simp; omega)).trans hB.out
   obtain ⟨m0, m1, m2, m3, m4⟩ := five_of hD
   obtain ⟨f0, f1, f2, f3, f4⟩ := fz hD
   have g6 := grow_tr (grow_bl (p := p) bC.out) g5
   have bE := set5 (Nat.le_refl _) (Below.refl w.heap.size w5) (.int .i64 t0) (.int .i64 t1) (.int .i64 t2) (.string t3) (.int .i64 t4)
   have f2 := fin.out _ (c5.below hpl hgl bE) (grow_on g6 bE)
   clear c5 g5 fin cX1 hD g6 bE hB bC
   go_wp2_with fail
   refine bodyPost_ret ?_ rfl f2.out
   simp [results, Tryz.results246, go_sem, m0, m1, m2, m3, m4]
  ·have q2 : (t0 != k) = true := by simpa using h1
   obtain ⟨m0, m1, m2, m3, m4⟩ := five_of hB
   obtain ⟨f0, f1, f2, f3, f4⟩ := fz hB
   have fin := no (by rintro ⟨-, q⟩; exact h1 q) _ (set5 (Nat.le_refl _) bC (.int .i64 0) (.int .i64 0) (.int .i64 0) (.string ⟨#[]⟩) (.int .i64 0))
   clear no yes cP cX hA n3 bA bC hB
   go_wp2_with fail
   refine bodyPost_ret ?_ rfl fin.out
   simp [results, Tryz.results246, go_sem, m0, m1, m2, m3, m4] <;> rfl
theorem run_field1 (t0 t1 t2 : Int) (t3 : ByteArray) (t4 : Int) (w : World) : (Instr.field 212 (.agg #[.int .i64 t0, .int .i64 t1, .int .i64 t2, .string t3, .int .i64 t4]) 1).run Tryz.prog w = .ok (.int .i64 t1) w := by
 simp [Instr.field, run_underlying Tryz.underlying212, part, asAgg, Tryz.isAgg3, go_sem]
theorem CurG.fall {w W : World} {p g : Nat} {c : Cu} (h : CurG w p c g) (hb : Below w.heap.size w W) {e z : Int} (he : c.2.2.1 = 0) (h1 : e ≠ 0) :
  CurG ((((W.setCell ⟨p, 2, none⟩ (.int .i64 e)).setCell ⟨p, 3, none⟩ (.int .i64 z)).setCell ⟨p, 0, none⟩ (.slice (some ⟨W.heap.size, 0, none⟩) 1 1)).alloc (.cells #[.int .i64 0, .int .i64 z, .int .i64 z, .string ⟨#[]⟩, .int .i64 0] 212)) p (failS c e z) W.heap.size ∧ w.grownBy ((((W.setCell ⟨p, 2, none⟩ (.int .i64 e)).setCell ⟨p, 3, none⟩ (.int .i64 z)).setCell ⟨p, 0, none⟩ (.slice (some ⟨W.heap.size, 0, none⟩) 1 1)).alloc (.cells #[.int .i64 0, .int .i64 z, .int .i64 z, .string ⟨#[]⟩, .int .i64 0] 212)) (some p) := by
 obtain ⟨l, d, e0, z0⟩ := c
 simp only at he
 subst he
 have hf : failS (l, d, 0, z0) e z = (l, d, e, z) := if_neg (by rintro (q | q); exact q rfl; exact h1 q)
 have hr : restS (l, d, e, z) = [(0, z, z, ByteArray.empty, 0)] := restS_fail h1
 obtain ⟨o, k, hp, -⟩ := h.op
 rw [hf]
 have hpW := (hb.block _ h.lt).trans hp
 have h5 := set_at (set_at (set_at hpW 2 (.int .i64 e)) 3 (.int .i64 z)) 0 (.slice (some ⟨W.heap.size, 0, none⟩) 1 1)
 have hs : (((W.setCell ⟨p, 2, none⟩ (.int .i64 e)).setCell ⟨p, 3, none⟩ (.int .i64 z)).setCell ⟨p, 0, none⟩ (.slice (some ⟨W.heap.size, 0, none⟩) 1 1)).heap.size = W.heap.size := by rw [set_size, set_size, set_size]
 have g5 := grow_set (o := 0) (grow_set (o := 3) (grow_set (o := 2) (grow_bl (p := p) hb) (.int .i64 e)) (.int .i64 z)) (.slice (some ⟨W.heap.size, 0, none⟩) 1 1)
 generalize (((W.setCell ⟨p, 2, none⟩ (.int .i64 e)).setCell ⟨p, 3, none⟩ (.int .i64 z)).setCell ⟨p, 0, none⟩ (.slice (some ⟨W.heap.size, 0, none⟩) 1 1)) = W5 at *
 have hpl : p < W.heap.size := Nat.lt_of_lt_of_le h.lt hb.size
 obtain ⟨o1_, ho1_⟩ : ∃ oO_ : Obj, oO_ = .cells #[.int .i64 0, .int .i64 z, .int .i64 z, .string ⟨#[]⟩, .int .i64 0] 212 := ⟨_, rfl⟩
 have bT := (Below.refl W5.heap.size W5).alloc (Nat.le_refl _) o1_
 have h6 := (bT.block p (by omega)).trans h5
 have hT := tok_new W5 (.int .i64 0) (.int .i64 z) (.int .i64 z) (.string ⟨#[]⟩) (.int .i64 0)
 rw [hs] at hT
 have hs6 : (W5.alloc o1_).heap.size = W.heap.size + 1 := by simp [hs]
 subst ho1_
 refine ⟨⟨by omega, by omega, h.ends, 0, 1, ?_, ?_⟩, grow_tr g5 (grow_bl (p := p) bT)⟩
 ·rw [h6, hr]
  rfl
 ·rw [hr]
  refine ⟨_, _, _, rfl, rfl, Nat.le_refl _, fun _ => ⟨_, _, rfl, by omega, fun j u hj => ?_⟩⟩
  rw [Nat.zero_add, Lib.cell_of_heap hT]
  have e : flatG encT [((0, z, z, ByteArray.empty, 0) : Tk)] = [.int .i64 0, .int .i64 z, .int .i64 z, .string ⟨#[]⟩, .int .i64 0] := rfl
  rw [e] at hj
  simpa using hj
theorem CurG.deep {w : World} {p g : Nat} {c : Cu} (h : CurG w p c g) (d : Int) : CurG (w.setCell ⟨p, 1, none⟩ (.int .i64 d)) p (c.1, d, c.2.2) g := by
 obtain ⟨o, k, hp, rd⟩ := h.box
 refine ⟨by rw [set_size]; exact h.lt, by rw [set_size]; exact h.lg, h.ends, o, k, ?_, rdk_blk rd (set_ne h.ne) (Nat.le_of_eq set_size.symm)⟩
 rw [set_at hp]
 rfl
theorem cqfailat_calls (c : Cu) (p g : Nat) (e z : Int) (w : World) (h : CurG w p c g) (R : Ending → World → Prop) (hR : Hid (∀ w' g', (g' = g ∨ w.heap.size ≤ g') → CurG w' p (failS c e z) g' → w.grownBy w' (some p) → R (.returned (.tuple #[])) w')) : Calls Tryz.prog 278 #[ptV p, .int .i64 e, .int .i64 z] w R := by
 have cM := Lib.hid fun R hR => made_calls c p g w h R hR
 obtain ⟨o, k, hp, -⟩ := h.op
 have hpl := h.lt
 have hgl := h.lg
 by_cases h1 : c.2.2.1 ≠ 0 ∨ e = 0
 ·have hf : failS c e z = c := if_pos h1
  have fin := Lib.hid fun W (hb : Below w.heap.size w W) => hR.out W g (.inl rfl) (by rw [hf]; exact h.all hb) (grow_bl hb)
  clear hR h
  go_enter Tryz.func278, Tryz.ntmps278
  by_cases he : e = 0
  ·subst he
   clear h1
   go_wp2_with fail
   refine cM.out _ (Lib.hid fun w3 n3 => ?_)
   have f2 := Lib.hid (fin.out _ n3)
   clear n3 fin cM hp
   go_wp2_with fail
   first | refine bodyPost_ret ?_ rfl f2.out | refine bodyPost_end ?_ rfl f2.out
   simp [results, Tryz.results278, go_sem]
  ·have q1 : (e == 0) = false := by simpa using he
   have q2 : (c.2.2.1 != 0) = true := by simpa [he] using h1
   clear h1 he
   go_wp2_with fail
   refine cM.out _ (Lib.hid fun w3 n3 => ?_)
   have f2 := Lib.hid (fin.out _ n3)
   obtain ⟨y0, y1, y2, y3⟩ := four_of ((n3.block _ hpl).trans hp)
   clear n3 fin cM hp
   generalize c.2.2.1 = e0 at *
   generalize c.2.2.2 = z0 at *
   generalize c.2.1 = d0 at *
   go_wp2_with fail
   first | refine bodyPost_ret ?_ rfl f2.out | refine bodyPost_end ?_ rfl f2.out
   simp [results, Tryz.results278, go_sem]
 ·have he : c.2.2.1 = 0 := Classical.byContradiction fun q => h1 (.inl q)
  have h2 : e ≠ 0 := fun q => h1 (.inr q)
  have q1 : (e == 0) = false := by simpa using h2
  have fin := Lib.hid fun W (hb : Below w.heap.size w W) => (fun q => hR.out _ W.heap.size (.inr hb.size) q.1 q.2) (h.fall hb (z := z) he h2)
  rw [he] at hp
  clear hR h h1 he h2
  go_enter Tryz.func278, Tryz.ntmps278
  go_wp2_with fail
  refine cM.out _ (Lib.hid fun w3 n3 => ?_)
  have f2 := Lib.hid (fin.out _ n3)
  have hq := (n3.block _ hpl).trans hp
  obtain ⟨y0, y1, y2, y3⟩ := four_of hq
  obtain ⟨z0, -, z2, z3, -⟩ := fz hq
  have hp3 := Nat.lt_of_lt_of_le hpl n3.size
  clear n3 fin cM hp hq
  generalize c.2.2.2 = z0' at *
  generalize c.2.1 = d0 at *
  go_wp2_with fail
  refine bodyPost_end ?_ rfl f2.out
  simp [results, Tryz.results278, go_sem]
theorem cqfail_calls (c : Cu) (p g : Nat) (e : Int) (w : World) (h : CurG w p c g) (R : Ending → World → Prop) (hR : Hid (∀ w' g', (g' = g ∨ w.heap.size ≤ g') → CurG w' p (failS c e (peekS c).2.1) g' → w.grownBy w' (some p) → R (.returned (.tuple #[])) w')) : Calls Tryz.prog 213 #[ptV p, .int .i64 e] w R := by
 have cP := Lib.hid fun R hR => peek_calls c p g w h R hR
 have cA := Lib.hid fun (z : Int) (W : World) (hb : Below w.heap.size w W) R hR => cqfailat_calls c p g e z W (h.all hb) R hR
 have e1 := run_field1 (peekS c).1 (peekS c).2.1 (peekS c).2.2.1 (peekS c).2.2.2.1 (peekS c).2.2.2.2
 simp only [tkV] at cP
 go_enter Tryz.func213, Tryz.ntmps213
 go_wp2_with fail
 refine cP.out _ (Lib.hid fun w3 n3 => ?_)
 have cA1 := Lib.hid (cA.out (peekS c).2.1 w3 n3)
 have fin := Lib.hid fun W g' (hg : g' = g ∨ w3.heap.size ≤ g') hc (gr : w3.grownBy W (some p)) => hR.out W g' (by have := n3.size; omega) hc (grow_tr (grow_bl n3) gr)
 clear cA cP h hR n3
 go_wp2_with fail
 refine cA1.out _ (Lib.hid fun w5 g5 hg5 c5 gr5 => ?_)
 have f2 := Lib.hid (fin.out _ _ hg5 c5 gr5)
 clear fin cA1 hg5 c5 gr5 e1
 go_wp2_with fail
 first | refine bodyPost_ret ?_ rfl f2.out | refine bodyPost_end ?_ rfl f2.out
 simp [results, Tryz.results213, go_sem]
noncomputable def needS (c : Cu) (m : ByteArray) : Cu := if hasS c 4 m false = true then nextS c else failS c (if (peekS c).1 = 0 then 5 else 4) (peekS c).2.1
theorem cqneed_calls (c : Cu) (p g : Nat) (m : ByteArray) (w : World) (h : CurG w p c g) (R : Ending → World → Prop) (hR : Hid (∀ w' g', (g' = g ∨ w.heap.size ≤ g') → CurG w' p (needS c m) g' → w.grownBy w' (some p) → R (.returned (.bool (hasS c 4 m false))) w')) : Calls Tryz.prog 222 #[ptV p, .string m] w R := by
 go_enter Tryz.func222, Tryz.ntmps222
 go_wp2_with fail
 refine mark_calls c p g m w h _ (Lib.hid fun w3 c3 g3 => ?_)
 by_cases hh : hasS c 4 m false = true
 ·have ht : takeS c 4 m false = nextS c := if_pos hh
  have hn : needS c m = nextS c := if_pos hh
  rw [ht] at c3
  rw [hn] at hR
  rw [hh] at hR ⊢
  have f2 := Lib.hid (hR.out _ _ (.inl rfl) c3 g3)
  clear hR h c3 g3 ht hn hh
  go_wp2_with fail
  exact f2.out
 ·have ht : takeS c 4 m false = c := if_neg hh
  have hn : needS c m = failS c (if (peekS c).1 = 0 then 5 else 4) (peekS c).2.1 := if_neg hh
  rw [ht] at c3
  rw [hn] at hR
  rw [Bool.eq_false_iff.2 hh] at hR ⊢
  clear h ht hn hh
  have cP := Lib.hid fun R hR => peek_calls c p g w3 c3 R hR
  have cF := Lib.hid fun (e : Int) (W : World) (hb : Below w3.heap.size w3 W) R hR => cqfail_calls c p g e W (c3.all hb) R hR
  have e0 := run_field0 (peekS c).1 (peekS c).2.1 (peekS c).2.2.1 (peekS c).2.2.2.1 (peekS c).2.2.2.2
  have gs := g3.size
  replace g3 := Lib.hid g3
  clear c3
  simp only [tkV] at cP
  go_wp2_with fail
  refine cP.out _ (Lib.hid fun w4 n4 => ?_)
  by_cases h0 : (peekS c).1 = 0
  ·rw [if_pos h0] at hR
   have q1 : ((peekS c).1 == 0) = true := by simpa using h0
   have cF1 := Lib.hid (cF.out 5 w4 n4)
   have fin := Lib.hid fun W g' (hg : g' = g ∨ w4.heap.size ≤ g') hc (gr : w4.grownBy W (some p)) => hR.out W g' (by have := n4.size; omega) hc (grow_tr g3.out (grow_tr (grow_bl n4) gr))
   clear cP cF n4 g3 hR h0
   go_wp2_with fail
   refine cF1.out _ (Lib.hid fun w5 g5 hg5 c5 gr5 => ?_)
   have f2 := Lib.hid (fin.out _ _ hg5 c5 gr5)
   clear fin cF1 hg5 c5 gr5 e0 q1
   go_wp2_with fail
   exact f2.out
  ·rw [if_neg h0] at hR
   have q1 : ((peekS c).1 == 0) = false := by simpa using h0
   have cF1 := Lib.hid (cF.out 4 w4 n4)
   have fin := Lib.hid fun W g' (hg : g' = g ∨ w4.heap.size ≤ g') hc (gr : w4.grownBy W (some p)) => hR.out W g' (by have := n4.size; omega) hc (grow_tr g3.out (grow_tr (grow_bl n4) gr))
   clear cP cF n4 g3 hR h0
   go_wp2_with fail
   refine cF1.out _ (Lib.hid fun w5 g5 hg5 c5 gr5 => ?_)
   have f2 := Lib.hid (fin.out _ _ hg5 c5 gr5)
   clear fin cF1 hg5 c5 gr5 e0 q1
   go_wp2_with fail
   exact f2.out
def enterS (c : Cu) : Cu := if c.2.1 < 24 then (c.1, c.2.1 + 1, c.2.2) else failS c 6 (peekS c).2.1
def leaveS (c : Cu) : Cu := if 0 < c.2.1 then (c.1, c.2.1 - 1, c.2.2) else c
theorem cqenter_calls (c : Cu) (p g : Nat) (w : World) (h : CurG w p c g) (hd : 0 ≤ c.2.1 ∧ c.2.1 ≤ 24) (R : Ending → World → Prop) (hR : Hid (∀ w' g', (g' = g ∨ w.heap.size ≤ g') → CurG w' p (enterS c) g' → w.grownBy w' (some p) → R (.returned (.bool (decide (c.2.1 < 24)))) w')) : Calls Tryz.prog 133 #[ptV p] w R := by
 have hpl := h.lt
 have hgl := h.lg
 obtain ⟨o, k, hp, -⟩ := h.op
 by_cases h1 : c.2.1 < 24
 ·have hn : enterS c = (c.1, c.2.1 + 1, c.2.2) := if_pos h1
  rw [hn, decide_eq_true h1] at hR
  have fin := Lib.hid fun W (hb : Below w.heap.size w W) => hR.out _ g (.inl rfl) ((h.all hb).deep (c.2.1 + 1)) (grow_set (o := 1) (grow_bl (p := p) hb) (.int .i64 (c.2.1 + 1)))
  have cM := Lib.hid fun R hR => made_calls c p g w h R hR
  obtain ⟨d1, d2⟩ := hd
  clear hR hn h
  generalize c.2.1 = d at *
  have q1 : (d == 24) = false := by simp; omega
  go_enter Tryz.func133, Tryz.ntmps133
  go_wp2_with fail
  refine cM.out _ (Lib.hid fun w3 n3 => ?_)
  have hq := (n3.block _ hpl).trans hp
  obtain ⟨-, y1, -, -⟩ := four_of hq
  obtain ⟨-, z1, -, -, -⟩ := fz hq
  have f2 := Lib.hid (fin.out _ n3)
  clear n3 fin cM hp hq
  go_wp2_with fail
  exact f2.out
 ·have hn : enterS c = failS c 6 (peekS c).2.1 := if_neg h1
  rw [hn, decide_eq_false h1] at hR
  have cF := Lib.hid fun (W : World) (hb : Below w.heap.size w W) R hR => cqfail_calls c p g 6 W (h.all hb) R hR
  have cM := Lib.hid fun R hR => made_calls c p g w h R hR
  have h2 : c.2.1 = 24 := by omega
  rw [h2] at hp
  clear h h1 hd h2 hn
  go_enter Tryz.func133, Tryz.ntmps133
  go_wp2_with fail
  refine cM.out _ (Lib.hid fun w3 n3 => ?_)
  obtain ⟨-, y1, -, -⟩ := four_of ((n3.block _ hpl).trans hp)
  have cF1 := Lib.hid (cF.out w3 n3)
  have fin := Lib.hid fun W g' (hg : g' = g ∨ w3.heap.size ≤ g') hc (gr : w3.grownBy W (some p)) => hR.out W g' (by have := n3.size; omega) hc (grow_tr (grow_bl n3) gr)
  clear n3 cF cM hp hR
  go_wp2_with fail
  refine cF1.out _ (Lib.hid fun w5 g5 hg5 c5 gr5 => ?_)
  have f2 := Lib.hid (fin.out _ _ hg5 c5 gr5)
  clear fin cF1 hg5 c5 gr5
  go_wp2_with fail
  exact f2.out
theorem depth_calls (c : Cu) (p g : Nat) (w : World) (h : CurG w p c g) (R : Ending → World → Prop) (hR : Hid (∀ w', Below w.heap.size w w' → R (.returned (.int .i64 c.2.1)) w')) : Calls Tryz.prog 231 #[ptV p] w R := by
 obtain ⟨o, k, hp, -⟩ := h.op
 obtain ⟨-, y1, -, -⟩ := four_of hp
 have fin := Lib.hid (hR.out _ (Below.refl _ w))
 clear h hR hp
 generalize c.2.1 = d at *
 go_enter Tryz.func231, Tryz.ntmps231
 go_wp2_with fail
 exact fin.out
theorem cqleave_calls (c : Cu) (p g : Nat) (w : World) (h : CurG w p c g) (hd : 0 ≤ c.2.1 ∧ c.2.1 ≤ 24) (R : Ending → World → Prop) (hR : Hid (∀ w', CurG w' p (leaveS c) g → w.grownBy w' (some p) → R (.returned (.tuple #[])) w')) : Calls Tryz.prog 136 #[ptV p] w R := by
 have hpl := h.lt
 obtain ⟨o, k, hp, -⟩ := h.op
 have cD := Lib.hid fun R hR => depth_calls c p g w h R hR
 obtain ⟨d1, d2⟩ := hd
 by_cases h1 : 0 < c.2.1
 ·have hn : leaveS c = (c.1, c.2.1 - 1, c.2.2) := if_pos h1
  rw [hn] at hR
  have fin := Lib.hid fun W (hb : Below w.heap.size w W) => hR.out _ ((h.all hb).deep (c.2.1 - 1)) (grow_set (o := 1) (grow_bl (p := p) hb) (.int .i64 (c.2.1 - 1)))
  clear hR hn h
  generalize c.2.1 = d at *
  go_enter Tryz.func136, Tryz.ntmps136
  go_wp2_with fail
  refine cD.out _ (Lib.hid fun w3 n3 => ?_)
  have hq := (n3.block _ hpl).trans hp
  obtain ⟨-, y1, -, -⟩ := four_of hq
  obtain ⟨-, z1, -, -, -⟩ := fz hq
  have f2 := Lib.hid (fin.out _ n3)
  clear n3 fin cD hp hq
  go_wp2_with fail
  first | refine bodyPost_ret ?_ rfl f2.out | refine bodyPost_end ?_ rfl f2.out
  simp [results, Tryz.results136, go_sem]
 ·have hn : leaveS c = c := if_neg h1
  rw [hn] at hR
  have fin := Lib.hid fun W (hb : Below w.heap.size w W) => hR.out _ (h.all hb) (grow_bl (p := p) hb)
  clear hR hn h
  generalize c.2.1 = d at *
  go_enter Tryz.func136, Tryz.ntmps136
  go_wp2_with fail
  refine cD.out _ (Lib.hid fun w3 n3 => ?_)
  have f2 := Lib.hid (fin.out _ n3)
  clear n3 fin cD hp
  go_wp2_with fail
  first | refine bodyPost_ret ?_ rfl f2.out | refine bodyPost_end ?_ rfl f2.out
  simp [results, Tryz.results136, go_sem]
theorem set2 {b q : Nat} {w W : World} (hq : b ≤ q) (n : Below b w W) (a0 a1 : Value) : Below b w ((W.setCell ⟨q, 0, none⟩ a0).setCell ⟨q, 1, none⟩ a1) := (n.setCell (p := ⟨q, 0, none⟩) hq a0).setCell (p := ⟨q, 1, none⟩) hq a1
theorem fault_calls (c : Cu) (p g : Nat) (w : World) (h : CurG w p c g) (R : Ending → World → Prop) (hR : Hid (∀ w', Below w.heap.size w w' → R (.returned (.agg #[.int .i64 c.2.2.1, .int .i64 c.2.2.2])) w')) : Calls Tryz.prog 132 #[ptV p] w R := by
 have hpl := h.lt
 obtain ⟨o, k, hp, -⟩ := h.op
 have bA := (Below.refl w.heap.size w).alloc (Nat.le_refl _) (.cells #[.int .i64 0, .int .i64 0] 35)
 have hA : (w.alloc (.cells #[.int .i64 0, .int .i64 0] 35)).heap[w.heap.size]? = some (.cells #[.int .i64 0, .int .i64 0] 35) := heap_alloc_new w _
 have m0 := (Lib.cell_of_heap hA 0).trans rfl
 have m1 := (Lib.cell_of_heap hA 1).trans rfl
 obtain ⟨f0, f1, -, -, -⟩ := fz hA
 obtain ⟨-, -, y2, y3⟩ := four_of ((bA.block _ hpl).trans hp)
 obtain ⟨o1_, ho1_⟩ : ∃ oO_ : Obj, oO_ = .cells #[.int .i64 c.2.2.1, .int .i64 c.2.2.2] 35 := ⟨_, rfl⟩
 have bN := (Below.refl w.heap.size w).alloc (Nat.le_refl _) o1_
 have hN : (w.alloc o1_).heap[w.heap.size]? = some o1_ := heap_alloc_new w _
 subst ho1_
 have n0 := (Lib.cell_of_heap hN 0).trans rfl
 have n1 := (Lib.cell_of_heap hN 1).trans rfl
 have fin := Lib.hid (hR.out _ bN)
 clear bN hN
 clear hR bA hA hp h
 generalize c.2.2.1 = e at *
 generalize c.2.2.2 = z at *
 go_enter Tryz.func132, Tryz.ntmps132
 go_wp2_with fail
 refine bodyPost_ret ?_ rfl fin.out
 simp [results, Tryz.results132, go_sem, m0, m1, n0, n1]
theorem scn_end14 {s : ByteArray} {l : List Tk} (h : scnS s = (some l, 0, 0)) : EndL l := by
 refine endL_scn (s := s) l 0 (Nat.zero_le _) ?_
 unfold scnS at h
 by_cases q : 65536 < s.size
 ·rw [if_pos q] at h; simp at h
 ·rwa [if_neg q] at h
theorem scn_bad14 {s : ByteArray} {e z : Int} (h : scnS s = (none, e, z)) : e ≠ 0 := by
 unfold scnS at h
 by_cases q : 65536 < s.size
 ·rw [if_pos q] at h
  simp only [Prod.mk.injEq, true_and] at h
  omega
 ·rw [if_neg q] at h
  have := scn_fault s.size 0 false e z (by omega) (by omega) h
  omega
theorem rdk_apart2 {w : World} {g o n k q : Nat} {l : List Tk} (h : RdK w (.slice (some ⟨g, o, none⟩) n k) l) (hl : EndL l) {a b : Value} {t : TypeId} (hq : w.heap[q]? = some (.cells #[a, b] t)) : g ≠ q := by
 rintro rfl
 obtain ⟨-, -, -, -, -, -, h3, -⟩ := rdk_first h hl
 rw [Lib.cell_of_heap hq] at h3
 simp at h3
theorem CurG.new {W : World} {l : List Tk} {g o n k : Nat} (rd : RdK W (.slice (some ⟨g, o, none⟩) n k) l) (hl : EndL l) : CurG (W.alloc (.cells #[.slice (some ⟨g, o, none⟩) n k, .int .i64 0, .int .i64 0, .int .i64 0] 210)) W.heap.size (l, 0, 0, 0) g := by
 obtain ⟨hg, rfl, -⟩ := rdk_first rd hl
 have bA := (Below.refl W.heap.size W).alloc (Nat.le_refl _) (.cells #[.slice (some ⟨g, o, none⟩) l.length k, .int .i64 0, .int .i64 0, .int .i64 0] 210)
 refine ⟨by simp, Nat.lt_of_lt_of_le hg bA.size, hl, o, k, ?_, ?_⟩
 ·exact heap_alloc_new W _
 ·exact rdk_blk rd (bA.block _ hg) bA.size
theorem curnew_calls (s : ByteArray) (hs : s.size ≤ maxLen) (w : World) (R : Ending → World → Prop)
  (hR : Hid (∀ l p w', scnS s = (some l, 0, 0) → w.heap.size ≤ p → CurP w' p (l, 0, 0, 0) → Below w.heap.size w w' → R (.returned (.tuple #[ptV p, .agg #[.int .i64 0, .int .i64 0]])) w'))
  (hR2 : Hid (∀ e z w', scnS s = (none, e, z) → Below w.heap.size w w' → R (.returned (.tuple #[.pointer none, .agg #[.int .i64 e, .int .i64 z]])) w')) : Calls Tryz.prog 64 #[.string s] w R := by
 obtain ⟨o2_, ho2_⟩ : ∃ oO_ : Obj, oO_ = .cells #[.int .i64 0, .int .i64 0] 35 := ⟨_, rfl⟩
 have hA : (w.alloc o2_).heap[w.heap.size]? = some o2_ := heap_alloc_new w _
 have hl : w.heap.size < (w.alloc o2_).heap.size := by simp
 have bA := Lib.hid ((Below.refl w.heap.size w).alloc (Nat.le_refl _) o2_)
 subst ho2_
 go_enter Tryz.func64, Tryz.ntmps64
 go_wp2_with fail
 generalize w.alloc (.cells #[.int .i64 0, .int .i64 0] 35) = W2 at *
 refine scan_calls s hs W2 _ (Lib.hid fun l v w3 h3 rd n3 => ?_) (Lib.hid fun e z A k w3 h3 n3 => ?_)
 ·have hE := scn_end14 h3
  obtain ⟨A, k, rfl, -, hr⟩ := rd.op
  obtain ⟨g, o, rfl, -, -⟩ := hr (List.length_pos_iff.2 hE.ne)
  have hB := (n3.block _ hl).trans hA
  have hl3 := Nat.lt_of_lt_of_le hl n3.size
  have bB := bA.out.trans (n3.mono bA.out.size)
  have hgne := rdk_apart2 rd hE hB
  have bC := (Below.refl w3.heap.size w3).alloc (Nat.le_refl _) (.cells #[.int .i64 0, .int .i64 0] 35)
  have hC : (w3.alloc (.cells #[.int .i64 0, .int .i64 0] 35)).heap[w3.heap.size]? = some (.cells #[.int .i64 0, .int .i64 0] 35) := heap_alloc_new w3 _
  have k0 := (Lib.cell_of_heap hC 0).trans rfl
  have k1 := (Lib.cell_of_heap hC 1).trans rfl
  have hD := (bC.block _ hl3).trans hB
  have rdC := rdk_blk rd (bC.block _ (rdk_first rd hE).1) bC.size
  have bD := bB.trans (bC.mono bB.size)
  have hls := Nat.lt_of_lt_of_le hl3 bC.size
  clear hA hB hC bC n3 bA rd hr
  have hs4 : (w3.alloc (.cells #[.int .i64 0, .int .i64 0] 35)).heap.size = w3.heap.size + 1 := by simp
  have cN := CurG.new rdC hE
  rw [hs4] at cN
  replace cN := Lib.hid cN
  have bDs := bD.size
  have hls' := hls
  rw [hs4] at bDs hls
  obtain ⟨o4_, ho4_⟩ : ∃ oO_ : Obj, oO_ = .cells #[.slice (some ⟨g, o, none⟩) l.length k, .int .i64 0, .int .i64 0, .int .i64 0] 210 := ⟨_, rfl⟩
  have bE := bD.alloc bD.size o4_
  have hF := (((Below.refl (w3.alloc (.cells #[.int .i64 0, .int .i64 0] 35)).heap.size (w3.alloc (.cells #[.int .i64 0, .int .i64 0] 35))).alloc (Nat.le_refl _) o4_).block _ hls').trans hD
  subst ho4_
  obtain ⟨f0, f1, -, -, -⟩ := fz hF
  have m0 := (Lib.cell_of_heap hF 0).trans rfl
  have m1 := (Lib.cell_of_heap hF 1).trans rfl
  have hgW := (rdk_first rdC hE).1
  have fin := Lib.hid (hR.out l (w3.heap.size + 1) _ h3 bDs ⟨g, (cN.out.set (q := w.heap.size) (o := 0) (by omega) hgne (.int .i64 0)).set (q := w.heap.size) (o := 1) (by omega) hgne (.int .i64 0)⟩ (set2 (Nat.le_refl _) bE (.int .i64 0) (.int .i64 0)))
  clear hR hR2 bD bE hD hF rdC cN bB hE h3 hl3 hls hls' hl hgW hgne bDs hs4
  go_wp2_with fail
  refine bodyPost_ret ?_ rfl fin.out
  simp [results, Tryz.results64, go_sem, m0, m1]
 ·have he := scn_bad14 h3
  have q1 : (e != 0) = true := by simpa using he
  have hB := (n3.block _ hl).trans hA
  have hl3 := Nat.lt_of_lt_of_le hl n3.size
  have bB := bA.out.trans (n3.mono bA.out.size)
  have bC := (Below.refl w3.heap.size w3).alloc (Nat.le_refl _) (.cells #[.int .i64 e, .int .i64 z] 35)
  have hC : (w3.alloc (.cells #[.int .i64 e, .int .i64 z] 35)).heap[w3.heap.size]? = some (.cells #[.int .i64 e, .int .i64 z] 35) := heap_alloc_new w3 _
  have k0 := (Lib.cell_of_heap hC 0).trans rfl
  have k1 := (Lib.cell_of_heap hC 1).trans rfl
  have hD := (bC.block _ hl3).trans hB
  have bD := Lib.hid (bB.trans (bC.mono bB.size))
  replace hD := Lib.hid hD
  have fin := Lib.hid fun W h => hR2.out e z W h3 h
  clear hA hB hC bC n3 bA bB hR hR2 h3
  go_wp2_with fail
  generalize w3.alloc (.cells #[.int .i64 e, .int .i64 z] 35) = W4 at *
  have hl4 := Lib.hid hl3
  go_still_tail 2, (by kernel_rfl)
  repeat still_step
  change wpList _ _ _ _ _ W4.drew
  obtain ⟨f0, f1, -, -, -⟩ := fz hD.out
  have m0 := (Lib.cell_of_heap hD.out 0).trans rfl
  have m1 := (Lib.cell_of_heap hD.out 1).trans rfl
  have f2 := Lib.hid (fin.out _ (set2 (Nat.le_refl _) bD.out.drew (.int .i64 e) (.int .i64 z)))
  clear fin bD hD
  go_wp2_with fail
  refine bodyPost_ret ?_ rfl f2.out
  simp [results, Tryz.results64, go_sem, m0, m1]
end Go.Proofs.YtncijmodlhijoaaGreat.Cur
