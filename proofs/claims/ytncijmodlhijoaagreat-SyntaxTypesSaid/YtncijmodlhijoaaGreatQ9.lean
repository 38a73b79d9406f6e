import Derived.Test.YtncijmodlhijoaaGreatQ8
import Derived.StillTailTactics
import Derived.Deep.Cut
import Derived.Test.YtncijmodlhijoaaGreatQ7
set_option linter.unusedVariables false
set_option maxRecDepth 100000
set_option maxHeartbeats 4000000
namespace Go.Proofs.YtncijmodlhijoaaGreat.Syn
open Go.RowKit Go.Lib Utf Tok Cur Nam Lat Kin
theorem may16_calls (p : PS) (v : Value) (w0 w : World) (hb : Below w0.heap.size w0 w) (hx : RdK w0 v p.1) (ok : Ok p) (m : ByteArray) (R : Ending → World → Prop)
  (hR : Hid (∀ v' w', RdK w0 v' ((mayS p m).1).1 → Below w.heap.size w w' → R (.returned (.tuple #[psV v' (mayS p m).1, .bool (mayS p m).2])) w')) : Calls Tryz.prog 243 #[psV v p, .string m] w R := by
 obtain ⟨l, e, z⟩ := p
 obtain ⟨A, cp, rfl, hlc, -⟩ := hx.op
 obtain ⟨o1_, ho1_⟩ : ∃ oO_ : Obj, oO_ = .cells #[.slice A l.length cp, .int .i64 e, .int .i64 z] 142 := ⟨_, rfl⟩
 have bA := (Below.refl w.heap.size w).alloc (Nat.le_refl _) o1_
 have hA := heap_alloc_new w o1_
 obtain ⟨o2_, ho2_⟩ : ∃ oO_ : Obj, oO_ = .cells #[.slice none 0 0, .int .i64 0, .int .i64 0] 142 := ⟨_, rfl⟩
 have b1 := bA.alloc bA.size o2_
 have z1 : (w.alloc o1_).heap.size = w.heap.size + 1 := by simp
 replace hA := (((Below.refl _ _).alloc (Nat.le_refl _) o2_).block (w.heap.size) (by omega)).trans hA
 have hY1 := heap_alloc_new (w.alloc o1_) o2_
 subst ho2_
 subst ho1_
 rw [z1] at hY1
 go_enter Tryz.func243, Tryz.ntmps243
 go_upto_region 1 with fail
 generalize (w.alloc (.cells #[.slice A l.length cp, .int .i64 e, .int .i64 z] 142)).alloc (.cells #[.slice none 0 0, .int .i64 0, .int .i64 0] 142) = V at *
 have nb := b1
 clear bA z1 b1
 have hbV := hb.trans (nb.mono hb.size)
 have j0 := (Lib.cell_of_heap hA 0).trans rfl
 have j1 := (Lib.cell_of_heap hA 1).trans rfl
 have j2 := (Lib.cell_of_heap hA 2).trans rfl
 go_wp2_with fail
 refine fine16_calls (.slice A l.length cp) (l, e, z) ⟨_, _, _, rfl⟩ V _ (Lib.hid fun w1 n1 => ?_)
 replace hA := (n1.block _ (blt hA)).trans hA
 replace hY1 := (n1.block _ (blt hY1)).trans hY1
 replace nb := nb.trans (n1.mono nb.size)
 replace hbV := hb.trans (nb.mono hb.size)
 clear j0 j1 j2 n1
 have j0 := (Lib.cell_of_heap hA 0).trans rfl
 have j1 := (Lib.cell_of_heap hA 1).trans rfl
 have j2 := (Lib.cell_of_heap hA 2).trans rfl
 by_cases he : e = 0
 ·subst he
  rw [decide_eq_true (show ((l, 0, z) : PS).2.1 = 0 from rfl)]
  go_wp2_with fail
  refine is16_calls (l, 0, z) (.slice A l.length cp) w0 w1 hbV hx ok 4 m _ (Lib.hid fun w2 n2 => ?_)
  replace hA := (n2.block _ (blt hA)).trans hA
  replace hY1 := (n2.block _ (blt hY1)).trans hY1
  replace nb := nb.trans (n2.mono nb.size)
  replace hbV := hb.trans (nb.mono hb.size)
  clear j0 j1 j2 n2
  have j0 := (Lib.cell_of_heap hA 0).trans rfl
  have j1 := (Lib.cell_of_heap hA 1).trans rfl
  have j2 := (Lib.cell_of_heap hA 2).trans rfl
  cases hi : isS (l, 0, z) 4 m
  ·have hq : mayS (l, 0, z) m = ((l, 0, z), false) := by unfold mayS; rw [if_neg (by rw [hi]; simp)]
   rw [hq] at hR
   clear hi hq
   have y0 := (Lib.cell_of_heap hY1 0).trans rfl
   have yf0 := Lib.frozen_of_heap hY1 0
   have y1 := (Lib.cell_of_heap hY1 1).trans rfl
   have yf1 := Lib.frozen_of_heap hY1 1
   have y2 := (Lib.cell_of_heap hY1 2).trans rfl
   have yf2 := Lib.frozen_of_heap hY1 2
   have fin := Lib.hid (hR.out (.slice A l.length cp) _ hx (set3p (q := w.heap.size + 1) (by omega) nb (.slice A l.length cp) (.int .i64 ((l, 0, z) : PS).2.1) (.int .i64 ((l, 0, z) : PS).2.2)))
   clear hR
   go_wp2_with fail
   refine bodyPost_ret ?_ rfl fin.out
   simp [results, Tryz.results243, go_sem, onS, y0, y1, y2]
  ·have hq : mayS (l, 0, z) m = (onS (l, 0, z), true) := by unfold mayS; rw [if_pos ⟨rfl, hi⟩]
   rw [hq] at hR
   clear hi hq
   go_wp2_with fail
   refine on16_calls (l, 0, z) (.slice A l.length cp) w0 w2 hbV hx ok (.inr (List.length_pos_iff.2 (EndL.ne ok))) _ (Lib.hid fun v3 w3 r3 n3 => ?_)
   replace hA := (n3.block _ (blt hA)).trans hA
   replace hY1 := (n3.block _ (blt hY1)).trans hY1
   replace nb := nb.trans (n3.mono nb.size)
   replace hbV := hb.trans (nb.mono hb.size)
   clear j0 j1 j2 n3
   have j0 := (Lib.cell_of_heap hA 0).trans rfl
   have j1 := (Lib.cell_of_heap hA 1).trans rfl
   have j2 := (Lib.cell_of_heap hA 2).trans rfl
   obtain ⟨A3, c3, rfl, -, -⟩ := r3.op
   generalize hqq : onS (l, 0, z) = q at *
   clear hqq
   have y0 := (Lib.cell_of_heap hY1 0).trans rfl
   have yf0 := Lib.frozen_of_heap hY1 0
   have y1 := (Lib.cell_of_heap hY1 1).trans rfl
   have yf1 := Lib.frozen_of_heap hY1 1
   have y2 := (Lib.cell_of_heap hY1 2).trans rfl
   have yf2 := Lib.frozen_of_heap hY1 2
   have fin := Lib.hid (hR.out (.slice A3 q.1.length c3) _ r3 (set3p (q := w.heap.size + 1) (by omega) nb (.slice A3 q.1.length c3) (.int .i64 q.2.1) (.int .i64 q.2.2)))
   clear hR
   go_wp2_with fail
   refine bodyPost_ret ?_ rfl fin.out
   simp [results, Tryz.results243, go_sem, onS, y0, y1, y2]
 ·rw [decide_eq_false (show ¬ ((l, e, z) : PS).2.1 = 0 from he)]
  have hq : mayS (l, e, z) m = ((l, e, z), false) := by unfold mayS; rw [if_neg (fun q => he q.1)]
  rw [hq] at hR
  clear hq
  have y0 := (Lib.cell_of_heap hY1 0).trans rfl
  have yf0 := Lib.frozen_of_heap hY1 0
  have y1 := (Lib.cell_of_heap hY1 1).trans rfl
  have yf1 := Lib.frozen_of_heap hY1 1
  have y2 := (Lib.cell_of_heap hY1 2).trans rfl
  have yf2 := Lib.frozen_of_heap hY1 2
  have fin := Lib.hid (hR.out (.slice A l.length cp) _ hx (set3p (q := w.heap.size + 1) (by omega) nb (.slice A l.length cp) (.int .i64 ((l, e, z) : PS).2.1) (.int .i64 ((l, e, z) : PS).2.2)))
  clear hR
  go_wp2_with fail
  refine bodyPost_ret ?_ rfl fin.out
  simp [results, Tryz.results243, go_sem, onS, y0, y1, y2]
end Go.Proofs.YtncijmodlhijoaaGreat.Syn
namespace Go.Proofs.YtncijmodlhijoaaGreat
open Go.RowKit Go.Lib
section
variable {P : Program} {md : Region.Mode} {ops : Array Oper} {Q : Exit → Act → World → Prop} {C : World → Prop}
def YC (P : Program) (ops : Array Oper) (C : World → Prop) (o : Oper) (v : Value) (a : Act) : Prop :=
 (Region.wanted o (yielded ops a.tmps) = true ∧ ∀ w, C w → (execOp a.eval o).run P w = .ok (.value v) w) ∨ (Region.wanted o (yielded ops a.tmps) = false ∧ v = undef)
theorem YC.same {o : Oper} {v : Value} {a b : Act} (h : YC P ops C o v a) (he : execOp b.eval o = execOp a.eval o) (hw : Region.wanted o (yielded ops b.tmps) = Region.wanted o (yielded ops a.tmps)) : YC P ops C o v b := by
 unfold YC; rw [he, hw]; exact h
theorem wpOp_keep {j : Nat} {oj : Oper} (hj : ops[j]? = some oj) {Z : Act → Prop} {K : Act → World → Prop} {a : Act} {w : World} (hz : ∀ b : Act, b = a ∨ (∃ d, b = { a with defers := d :: a.defers }) → ∀ u, Z (b.put oj.dst u)) (h : wpOp P ops Q j K a w) :
  wpOp P ops Q j (fun b w' => Z b ∧ K b w') a w := by
 have z0 := hz a (.inl rfl)
 unfold wpOp at h ⊢
 simp only [hj] at h ⊢
 split
 ·next hw =>
  rw [if_pos hw] at h
  refine h.imp (fun h => ?_) id
  unfold Oper.wp at h ⊢
  generalize (execOp a.eval oj).run P w = r at *
  cases r with
  | halt x w' => cases x <;> exact h
  | ok n w' =>
   cases n <;> simp only [Oper.upon] at h ⊢
   case value u => exact ⟨z0 u, h⟩
   case skip => exact ⟨z0 _, h⟩
   case defer d => exact ⟨hz _ (.inr ⟨d, rfl⟩) _, h⟩
   case enter f args => exact Calls.mono h fun e w'' he => by cases e <;> first | exact ⟨z0 _, he⟩ | exact he
   case row r args => exact Rows.mono h fun u w'' he => ⟨z0 _, he⟩
 ·next hw =>
  rw [if_neg hw] at h
  exact ⟨z0 _, h⟩
theorem wpOp_behind {j : Nat} {oi oj : Oper} {v : Value} (hj : ops[j]? = some oj) (hap : oi.apart ops oj = true) (hsi : ∀ cs b, oi.op ≠ .select cs b) (hsj : ∀ cs b, oj.op ≠ .select cs b)
  (hQ : ∀ c a w, Q (.panic c) (a.put oi.dst v) w → Q (.panic c) a w) {K : Act → World → Prop} {a : Act} {w : World} (hy : YC P ops C oi v a) (h : wpOp P ops Q j K (a.put oi.dst v) w) :
  wpOp P ops Q j (fun b w' => YC P ops C oi v b ∧ K (b.put oi.dst v) w') a w := by
 obtain ⟨h1, h2, h3⟩ := Oper.apart_spec hap
 let ok : Oper := { oi with op := .assign (.const v), guard := none }
 have hap' : ok.apart ops oj = true := by
  unfold Oper.apart at hap ⊢
  rw [Bool.and_eq_true] at hap ⊢
  refine ⟨hap.1, ?_⟩
  cases hd : oj.dst with
  | none => rfl
  | some d => simp [ok, Oper.looksAt, Op.operands]
 have hyk : Yields P ops ok v a := .inl ⟨by simp [ok, Region.wanted], fun w => by simp [ok, execOp, Act.eval, Sem.run_pure]⟩
 have := wpOp_put (oi := ok) hj hap' (fun cs b => by simp [ok]) hsj hQ hyk h
 refine wpOp_keep hj (fun b hb u => ?_) (wpOp_mono (fun b w' hb => hb.2) this)
 rcases hb with rfl | ⟨d, rfl⟩
 ·exact hy.same (execOp_put oi hsi _ _ u h3) (wanted_put oi _ _ u h3)
 ·exact (hy.same rfl rfl : YC P ops C oi v _).same (execOp_put oi hsi _ _ u h3) (wanted_put oi _ _ u h3)
theorem YC.wpOp {i : Nat} {o : Oper} {v : Value} {a : Act} {w : World} (hi : ops[i]? = some o) (hy : YC P ops C o v a) (hw : C w) {K : Act → World → Prop} (h : K (a.put o.dst v) w) : wpOp P ops Q i K a w := by
 unfold Go.wpOp
 simp only [hi]
 rcases hy with ⟨hg, hv⟩ | ⟨hg, rfl⟩
 ·rw [if_pos hg]
  exact .inl (by unfold Oper.wp; rw [hv w hw]; exact h)
 ·rw [if_neg (by rw [hg]; exact Bool.false_ne_true)]
  exact h
def anyC (P : Program) (md : Region.Mode) (ops : Array Oper) (C : World → Prop) (Q : Exit → Act → World → Prop) : Nat → Array Bool → Act → World → Prop
 | 0, l, a, w => Region.ready md ops l = [] ∧ Q .normal a w
 | f + 1, l, a, w => (Region.ready md ops l = [] → Q .normal a w) ∧ ∀ i ∈ Region.ready md ops l, wpOp P ops Q i (fun b w' => C w' ∧ anyC P md ops C Q f (l.setIfInBounds i true) b w') a w
theorem any_of_C : ∀ (f : Nat) (l : Array Bool) (a : Act) (w : World), anyC P md ops C Q f l a w → wpAny P md ops Q f l a w
 | 0, _, _, _, h => h
 | f + 1, l, a, w, h => ⟨h.1, fun i hi => wpOp_mono (fun b w' hb => any_of_C f _ b w' hb.2) (h.2 i hi)⟩
theorem anyC_first {i : Nat} {oi : Oper} {v : Value} (hi : ops[i]? = some oi) (hs : Region.noSelect ops = true) (hQ : ∀ c a w, Q (.panic c) (a.put oi.dst v) w → Q (.panic c) a w) : ∀ (f : Nat) (l : Array Bool) (a : Act) (w : World), C w →
  (∀ j oj, ops[j]? = some oj → j ≠ i → l.getD j true = false → (∀ e ∈ oj.after, Region.binds md e = true → e.on ≠ i) → oi.apart ops oj = true) → i ∈ Region.ready md ops l → YC P ops C oi v a →
  anyC P md ops C Q f (l.setIfInBounds i true) (a.put oi.dst v) w → anyC P md ops C Q (f + 1) l a w := by
 have hsel := Region.noSelect_spec hs
 intro f
 induction f with
 | zero =>
  intro l a w hw hfree hr hy H
  refine ⟨fun h => (by rw [h] at hr; cases hr), fun j hj => ?_⟩
  by_cases e : j = i
  ·subst e; exact hy.wpOp hi hw ⟨hw, H⟩
  ·have := ready_mono hj e
   rw [H.1] at this; cases this
 | succ f ih =>
  intro l a w hw hfree hr hy H
  refine ⟨fun h => (by rw [h] at hr; cases hr), fun j hj => ?_⟩
  by_cases e : j = i
  ·subst e; exact hy.wpOp hi hw ⟨hw, H⟩
  ·obtain ⟨hun, oj, hoj, hall⟩ := mem_ready.1 hj
   have hi0 := (mem_ready.1 hr).1
   have hno : ∀ x ∈ oj.after, Region.binds md x = true → x.on ≠ i := fun x hx hb q => by
    have h1 := hall x hx hb
    rw [q] at h1
    cases hl : l[i]? <;> simp [Array.getD_eq_getD_getElem?, hl] at hi0 h1
    rw [hi0] at h1; cases h1
   have hmix := wpOp_behind (C := C) hoj (hfree j oj hoj e hun hno) (fun cs b => hsel i oi cs b hi) (fun cs b => hsel j oj cs b hoj) hQ hy (H.2 j (ready_mono hj e))
   refine wpOp_mono (fun b w' hb => ⟨hb.2.1, ih _ b w' hb.2.1 (fun k ok hk hki hku hkn => hfree k ok hk hki ?_ hkn) (ready_mono hr (Ne.symm e)) hb.1 ?_⟩) hmix
   ·by_cases q : j = k
    ·rw [← q]; exact hun
    ·rwa [getD_set_ne true q] at hku
   ·rw [Array.setIfInBounds_comm _ _ e]; exact hb.2.2
def stillB (o : Oper) : Bool := match o.op with
 | .move _ | .assign _ | .pick _ _ _ | .load _ _ | .binOp _ _ _ _ _ | .unOp _ _ _ | .indexAddr _ _ _ | .fieldAddr _ _ _ | .build _ _ | .extract _ _ | .field _ _ _ => true
 | _ => false
theorem still_value {o : Oper} (h : stillB o = true) {ρ : Operand → Value} {w w' : World} {n : Next} (hr : (execOp ρ o).run P w = .ok n w') : ∃ u, n = .value u := by
 have key : ∀ {α : Type} (m : Sem α) (g : α → Value) {w w' : World} {n : Next}, (do pure (Next.value (g (← m))) : Sem Next).run P w = .ok n w' → ∃ u, n = .value u := fun m g w w' n h => by
  rw [Sem.run_bind] at h
  cases hm : m.run P w with
  | ok u w1 => rw [hm] at h; simp [Result.andThen, Sem.run_pure] at h; exact ⟨_, h.1.symm⟩
  | halt x w1 => rw [hm] at h; simp [Result.andThen] at h
 unfold stillB at h
 unfold execOp at hr
 cases hop : o.op <;> simp only [hop] at h hr <;> first
  | exact key _ _ hr
  | (simp only [Sem.run_pure] at hr; cases hr; exact ⟨_, rfl⟩)
  | cases h
def pickO (ops : Array Oper) (l : List Nat) : List Oper := l.filterMap (ops[·]?)
def quietB (md : Region.Mode) (ops : Array Oper) : List Nat → Array Bool → Option (Array Bool)
 | [], l => some l
 | i :: qs, l => match ops[i]? with
  | none => none
  | some o => if (Region.ready md ops l).contains i && Region.free md ops l i && stillB o then quietB md ops qs (l.setIfInBounds i true) else none
theorem quiet_any (hs : Region.noSelect ops = true) (hQ : ∀ c a d v w, Q (.panic c) (a.put d v) w → Q (.panic c) a w) {w : World} (hw : C w) {f : Nat} {Kp : Act → Prop} : ∀ (qs : List Nat) (l l' : Array Bool) (a : Act), quietB md ops qs l = some l' →
  wpQuiet P ops C Kp (pickO ops qs) a → (∀ b, Kp b → anyC P md ops C Q f l' b w) → anyC P md ops C Q (qs.length + f) l a w
 | [], l, l', a, hb, h, hk => by
  simp only [quietB, Option.some.injEq] at hb
  subst hb
  rw [List.length_nil, Nat.zero_add]
  exact hk a h
 | i :: qs, l, l', a, hb, h, hk => by
  cases ho : ops[i]? with
  | none => simp [quietB, ho] at hb
  | some o =>
   simp only [quietB, ho] at hb
   split at hb
   ·next hc =>
    rw [Bool.and_eq_true, Bool.and_eq_true] at hc
    rw [show pickO ops (i :: qs) = o :: pickO ops qs by simp [pickO, ho]] at h
    have hv : ∃ v, YC P ops C o v a ∧ wpQuiet P ops C Kp (pickO ops qs) (a.put o.dst v) := by
     unfold wpQuiet at h
     by_cases hg : Region.wanted o (yielded ops a.tmps) = true
     ·rw [if_pos hg] at h
      obtain ⟨v, h1, h2⟩ := h
      refine ⟨v, .inl ⟨hg, fun x hx => ?_⟩, h2⟩
      have h3 := h1 x hx
      unfold Oper.quietAt at h3
      cases hr : (execOp a.eval o).run P x with
      | halt y x' => rw [hr] at h3; simp only [Oper.quietUpon] at h3
      | ok n x' =>
       obtain ⟨u, rfl⟩ := still_value hc.2 hr
       rw [hr] at h3
       simp only [Oper.quietUpon] at h3
       obtain ⟨rfl, rfl⟩ := h3
       rfl
     ·rw [if_neg hg] at h
      exact ⟨undef, .inr ⟨by simpa using hg, rfl⟩, h⟩
    obtain ⟨v, hy, h2⟩ := hv
    have := anyC_first ho hs (fun c a w => hQ c a _ _ w) (qs.length + f) l a w hw (Region.free_spec ho hc.1.2) (by simpa using hc.1.1) hy (quiet_any hs hQ hw qs _ l' _ hb h2 hk)
    rwa [show (i :: qs).length + f = qs.length + f + 1 by simp; omega]
   ·cases hb
def mixP (P : Program) (ops : Array Oper) (C : World → Prop) (Q : Exit → Act → World → Prop) : List (List Nat × Nat) → List Nat → Act → World → Prop
 | [], last, a, w => wpQuiet P ops C (fun b => Q .normal b w) (pickO ops last) a
 | (qs, k) :: rest, last, a, w => wpQuiet P ops C (fun b => wpOp P ops Q k (fun b' w' => C w' ∧ mixP P ops C Q rest last b' w') b w) (pickO ops qs) a
def mixB (md : Region.Mode) (ops : Array Oper) : List (List Nat × Nat) → List Nat → Array Bool → Bool
 | [], last, l => match quietB md ops last l with
  | some l' => (Region.ready md ops l').isEmpty
  | none => false
 | (qs, k) :: rest, last, l => match quietB md ops qs l with
  | some l' => decide (Region.ready md ops l' = [k]) && mixB md ops rest last (l'.setIfInBounds k true)
  | none => false
def mixN : List (List Nat × Nat) → List Nat → Nat
 | [], last => last.length
 | (qs, _) :: rest, last => qs.length + (mixN rest last + 1)
theorem mix_any (hs : Region.noSelect ops = true) (hQ : ∀ c a d v w, Q (.panic c) (a.put d v) w → Q (.panic c) a w) : ∀ (segs : List (List Nat × Nat)) (last : List Nat) (l : Array Bool) (a : Act) (w : World), C w → mixB md ops segs last l = true →
  mixP P ops C Q segs last a w → anyC P md ops C Q (mixN segs last) l a w
 | [], last, l, a, w, hw, hb, h => by
  unfold mixB at hb
  split at hb
  ·next l' hl =>
   refine quiet_any hs hQ hw (f := 0) last l l' a hl h fun b hk => ?_
   exact ⟨by simpa using hb, hk⟩
  ·cases hb
 | (qs, k) :: rest, last, l, a, w, hw, hb, h => by
  unfold mixB at hb
  split at hb
  ·next l' hl =>
   rw [Bool.and_eq_true, decide_eq_true_iff] at hb
   refine quiet_any hs hQ hw qs l l' a hl h fun b hk => ?_
   refine ⟨fun h0 => (by rw [hb.1] at h0; cases h0), fun i hi => ?_⟩
   rw [hb.1] at hi
   obtain rfl := List.mem_singleton.1 hi
   exact wpOp_mono (fun b' w' hbw => ⟨hbw.1, mix_any hs hQ rest last _ b' w' hbw.1 hb.2 hbw.2⟩) hk
  ·cases hb
theorem mix_cons {qs : List Nat} {k : Nat} {rest : List (List Nat × Nat)} {last : List Nat} {a : Act} {w : World} {os : List Oper} (ho : pickO ops qs = os)
  (h : ∀ Kp : Act → Prop, (∀ b, wpOp P ops Q k (fun b' w' => C w' ∧ mixP P ops C Q rest last b' w') b w → Kp b) → wpQuiet P ops C Kp os a) : mixP P ops C Q ((qs, k) :: rest) last a w := by
 subst ho; exact h _ fun _ h => h
theorem mix_nil {last : List Nat} {a : Act} {w : World} {os : List Oper} (ho : pickO ops last = os) (h : ∀ Kp : Act → Prop, (∀ b, Q .normal b w → Kp b) → wpQuiet P ops C Kp os a) : mixP P ops C Q [] last a w := by
 subst ho; exact h _ fun _ h => h
theorem loud {k : Nat} {o : Oper} {a : Act} {w : World} {rest : List (List Nat × Nat)} {last : List Nat} (ho : ops[k]? = some o) (hg : Region.wanted o (yielded ops a.tmps) = true)
  (h : ∀ K : Act → World → Prop, (∀ b w', C w' → mixP P ops C Q rest last b w' → K b w') → Oper.wp P o a w K Q) : wpOp P ops Q k (fun b' w' => C w' ∧ mixP P ops C Q rest last b' w') a w := by
 unfold Go.wpOp
 simp only [ho]
 rw [if_pos hg]
 exact .inl (h _ fun b w' h1 h2 => ⟨h1, h2⟩)
end
structure GW (W : World) (p q : Nat) where
 w : World
 s : W.heap.size ≤ w.heap.size
 b : ∀ k, k < W.heap.size → k ≠ p → k ≠ q → w.heap[k]? = W.heap[k]?
theorem GW.cell {W : World} {p q : Nat} (x : GW W p q) {g o : Nat} (h : g < W.heap.size) (h1 : g ≠ p) (h2 : g ≠ q) {u : Value} (hc : W.cell? ⟨g, o, none⟩ = some u) : x.w.cell? ⟨g, o, none⟩ = some u := (World.cell?_of_block (a := ⟨g, o, none⟩) (x.b g h h1 h2)).trans hc
theorem wp_region_mixG {P : Program} {id : Nat} {Q : Exit → Act → World → Prop} {a : Act} {w : World} {l : List Oper} (p q : Nat) (segs : List (List Nat × Nat)) (last : List Nat) (hm : P.follows .mixedOrders = true) (hs : Region.noSelect l.toArray = true)
  (hB : mixB .any l.toArray segs last (Array.replicate l.toArray.size false) = true) (hN : mixN segs last = l.toArray.size) (hQ : ∀ c a d v w, Q (.panic c) (a.put d v) w → Q (.panic c) a w)
  (h : mixP P l.toArray (fun w' => ∃ x : GW w p q, w' = x.w) Q segs last a (w.drewN 1)) : (Code.region id l.toArray true).wp P Q a w :=
 wp_region_any hm (any_of_C (C := fun w' => ∃ x : GW w p q, w' = x.w) _ _ _ _ (by
  have := mix_any hs hQ segs last _ a _ (C := fun w' => ∃ x : GW w p q, w' = x.w) ⟨⟨w.drewN 1, Nat.le_refl _, fun k hk _ _ => rfl⟩, rfl⟩ hB h
  rw [hN] at this
  exact this))
theorem GW.set {W W' : World} {p q o : Nat} (h : ∃ x : GW W p q, W' = x.w) (a : Value) : ∃ x : GW W p q, W'.setCell ⟨q, o, none⟩ a = x.w := by
 obtain ⟨⟨W', s, bl⟩, rfl⟩ := h
 exact ⟨⟨_, Nat.le_trans s ((Below.refl q W').setCell (p := ⟨q, o, none⟩) (Nat.le_refl _) a).size, fun k hk h1 h2 => (Below.heap_setCell _ ⟨q, o, none⟩ a k h2).trans (bl k hk h1 h2)⟩, rfl⟩
theorem GW.bl {W W' : World} {p q : Nat} (h : Below W.heap.size W W') : ∃ x : GW W p q, W' = x.w := ⟨⟨W', h.size, fun k hk _ _ => h.block k hk⟩, rfl⟩
end Go.Proofs.YtncijmodlhijoaaGreat
