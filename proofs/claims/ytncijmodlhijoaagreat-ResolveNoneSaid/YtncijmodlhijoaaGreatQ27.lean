import Derived.Test.YtncijmodlhijoaaGreatQ4
import Derived.StillTail
set_option linter.unusedVariables false
set_option maxRecDepth 100000
set_option maxHeartbeats 4000000
namespace Go.Proofs.YtncijmodlhijoaaGreat
open Go.RowKit Go.Lib
theorem nil_value {P : Program} {o : Oper} {x : Operand} {ρ : Operand → Value} {w w' : World} {n : Next} (ho : o.op = .nilCheck x) (hr : (execOp ρ o).run P w = .ok n w') : ∃ u, n = .value u := by
  unfold execOp at hr
  simp only [ho] at hr
  split at hr
  · simp [go_sem] at hr
  · simp [go_sem] at hr
  · simp [go_sem] at hr
  · split at hr
    · simp [go_sem] at hr
    · rw [Sem.run_bind] at hr
      generalize (program : Sem Program).run P w = A at hr
      cases A with
      | halt a b => simp [Result.andThen] at hr
      | ok pr w1 =>
        simp only [Result.andThen] at hr
        rw [Sem.run_bind] at hr
        generalize Sem.run P (nilAhead _ _ _ _) w1 = B at hr
        cases B with
        | halt a b => simp [Result.andThen] at hr
        | ok c w2 =>
          simp only [Result.andThen] at hr
          split at hr
          · simp [go_sem, Sem.run_bind, unsupported, Result.andThen] at hr
          · simp [go_sem] at hr
            exact ⟨_, hr.1.symm⟩
    · simp [go_sem] at hr
      exact ⟨_, hr.1.symm⟩
  · simp only [Sem.run_pure] at hr
    cases hr
    exact ⟨_, rfl⟩
def stillT (o : Oper) : Bool := stillB o || (match o.op with | .nilCheck _ => true | _ => false)
theorem stillT_value {P : Program} {o : Oper} (h : stillT o = true) {ρ : Operand → Value} {w w' : World} {n : Next} (hr : (execOp ρ o).run P w = .ok n w') : ∃ u, n = .value u := by
  unfold stillT at h
  rw [Bool.or_eq_true] at h
  rcases h with h | h
  · exact still_value h hr
  · split at h
    · rename_i x hx
      exact nil_value hx hr
    · cases h
section
variable {P : Program} {md : Region.Mode} {ops : Array Oper} {Q : Exit → Act → World → Prop} {C : World → Prop}
def anyD (P : Program) (md : Region.Mode) (ops : Array Oper) (C : World → Prop) (k : Nat) (Q : Exit → Act → World → Prop) : Nat → Array Bool → Act → World → Prop
  | 0, l, a, w => Region.ready md ops l = [] ∧ Q .normal a w
  | f + 1, l, a, w => (Region.ready md ops l = [] → Q .normal a w) ∧ ∀ i ∈ Region.ready md ops l, wpOp P ops Q i (fun b w' => ((l.setIfInBounds i true).getD k true = false → C w') ∧ anyD P md ops C k Q f (l.setIfInBounds i true) b w') a w
theorem any_of_D {k : Nat} : ∀ (f : Nat) (l : Array Bool) (a : Act) (w : World), anyD P md ops C k Q f l a w → wpAny P md ops Q f l a w
  | 0, _, _, _, h => h
  | f + 1, l, a, w, h => ⟨h.1, fun i hi => wpOp_mono (fun b w' hb => any_of_D f _ b w' hb.2) (h.2 i hi)⟩
theorem anyD_first {i k : Nat} {oi : Oper} {v : Value} (hi : ops[i]? = some oi) (hs : Region.noSelect ops = true) (hQ : ∀ c a w, Q (.panic c) (a.put oi.dst v) w → Q (.panic c) a w) (hik : i ≠ k) (hki : Region.waitsFor md ops k i = true) : ∀ (f : Nat) (l : Array Bool) (a : Act) (w : World), C w → l.getD k true = false →
    (∀ j oj, ops[j]? = some oj → j ≠ i → l.getD j true = false → (∀ e ∈ oj.after, Region.binds md e = true → e.on ≠ i) → oi.apart ops oj = true) → i ∈ Region.ready md ops l → YC P ops C oi v a →
    anyD P md ops C k Q f (l.setIfInBounds i true) (a.put oi.dst v) w → anyD P md ops C k Q (f + 1) l a w := by
  have hsel := Region.noSelect_spec hs
  intro f
  induction f with
  | zero =>
    intro l a w hw hk0 hfree hr hy H
    refine ⟨fun h => (by rw [h] at hr; cases hr), fun j hj => ?_⟩
    by_cases e : j = i
    · subst e; exact hy.wpOp hi hw ⟨fun _ => hw, H⟩
    · have := ready_mono hj e
      rw [H.1] at this; cases this
  | succ f ih =>
    intro l a w hw hk0 hfree hr hy H
    refine ⟨fun h => (by rw [h] at hr; cases hr), fun j hj => ?_⟩
    by_cases e : j = i
    · subst e; exact hy.wpOp hi hw ⟨fun _ => hw, H⟩
    · obtain ⟨hun, oj, hoj, hall⟩ := mem_ready.1 hj
      have hi0 := (mem_ready.1 hr).1
      have hno : ∀ x ∈ oj.after, Region.binds md x = true → x.on ≠ i := fun x hx hb q => by
        have h1 := hall x hx hb
        rw [q] at h1
        cases hl : l[i]? <;> simp [Array.getD_eq_getD_getElem?, hl] at hi0 h1
        rw [hi0] at h1; cases h1
      have hjk : j ≠ k := by
        rintro rfl
        obtain ⟨ok, ho, x, hx, hb, hxe⟩ := Region.waitsFor_spec hki
        have : ok = oj := Option.some.inj (ho.symm.trans hoj)
        subst this
        exact hno x hx hb hxe
      have hk1 : (l.setIfInBounds j true).getD k true = false := by rw [getD_set_ne true hjk]; exact hk0
      have hk2 : ((l.setIfInBounds i true).setIfInBounds j true).getD k true = false := by rw [getD_set_ne true hjk, getD_set_ne true hik]; exact hk0
      have hmix := wpOp_behind (C := C) hoj (hfree j oj hoj e hun hno) (fun cs b => hsel i oi cs b hi) (fun cs b => hsel j oj cs b hoj) hQ hy (H.2 j (ready_mono hj e))
      refine wpOp_mono (fun b w' hb => ⟨fun _ => hb.2.1 hk2, ih _ b w' (hb.2.1 hk2) hk1 (fun k ok hk hki hku hkn => hfree k ok hk hki ?_ hkn) (ready_mono hr (Ne.symm e)) hb.1 ?_⟩) hmix
      · by_cases q : j = k
        · rw [← q]; exact hun
        · rwa [getD_set_ne true q] at hku
      · rw [Array.setIfInBounds_comm _ _ e]; exact hb.2.2
def quietT (md : Region.Mode) (ops : Array Oper) (k : Nat) : List Nat → Array Bool → Option (Array Bool)
  | [], l => some l
  | i :: qs, l => match ops[i]? with
    | none => none
    | some o => if (Region.ready md ops l).contains i && Region.free md ops l i && stillT o && Region.waitsFor md ops k i && decide (i ≠ k) then quietT md ops k qs (l.setIfInBounds i true) else none
theorem quietT_keep {k : Nat} : ∀ (qs : List Nat) (l l' : Array Bool), quietT md ops k qs l = some l' → l.getD k true = false → l'.getD k true = false
  | [], l, l', hb, h => by
    simp only [quietT, Option.some.injEq] at hb
    subst hb
    exact h
  | i :: qs, l, l', hb, h => by
    cases ho : ops[i]? with
    | none => simp [quietT, ho] at hb
    | some o =>
      simp only [quietT, ho] at hb
      split at hb
      · next hc =>
        simp only [Bool.and_eq_true, decide_eq_true_eq] at hc
        exact quietT_keep qs _ l' hb (by rw [getD_set_ne true hc.2]; exact h)
      · cases hb
theorem quietT_any (hs : Region.noSelect ops = true) (hQ : ∀ c a d v w, Q (.panic c) (a.put d v) w → Q (.panic c) a w) {w : World} (hw : C w) {f k : Nat} {Kp : Act → Prop} : ∀ (qs : List Nat) (l l' : Array Bool) (a : Act), quietT md ops k qs l = some l' → l.getD k true = false →
    wpQuiet P ops C Kp (pickO ops qs) a → (∀ b, Kp b → anyD P md ops C k Q f l' b w) → anyD P md ops C k Q (qs.length + f) l a w
  | [], l, l', a, hb, hk0, h, hk => by
    simp only [quietT, Option.some.injEq] at hb
    subst hb
    rw [List.length_nil, Nat.zero_add]
    exact hk a h
  | i :: qs, l, l', a, hb, hk0, h, hk => by
    cases ho : ops[i]? with
    | none => simp [quietT, ho] at hb
    | some o =>
      simp only [quietT, ho] at hb
      split at hb
      · next hc =>
        simp only [Bool.and_eq_true, decide_eq_true_eq] at hc
        obtain ⟨⟨⟨⟨hc1, hc2⟩, hc3⟩, hc4⟩, hc5⟩ := hc
        rw [show pickO ops (i :: qs) = o :: pickO ops qs by simp [pickO, ho]] at h
        have hv : ∃ v, YC P ops C o v a ∧ wpQuiet P ops C Kp (pickO ops qs) (a.put o.dst v) := by
          unfold wpQuiet at h
          by_cases hg : Region.wanted o (yielded ops a.tmps) = true
          · rw [if_pos hg] at h
            obtain ⟨v, h1, h2⟩ := h
            refine ⟨v, .inl ⟨hg, fun x hx => ?_⟩, h2⟩
            have h3 := h1 x hx
            unfold Oper.quietAt at h3
            cases hr : (execOp a.eval o).run P x with
            | halt y x' => rw [hr] at h3; simp only [Oper.quietUpon] at h3
            | ok n x' =>
              obtain ⟨u, rfl⟩ := stillT_value hc3 hr
              rw [hr] at h3
              simp only [Oper.quietUpon] at h3
              obtain ⟨rfl, rfl⟩ := h3
              rfl
          · rw [if_neg hg] at h
            exact ⟨undef, .inr ⟨by simpa using hg, rfl⟩, h⟩
        obtain ⟨v, hy, h2⟩ := hv
        have := anyD_first ho hs (fun c a w => hQ c a _ _ w) hc5 hc4 (qs.length + f) l a w hw hk0 (Region.free_spec ho hc2) (by simpa using hc1) hy (quietT_any hs hQ hw qs _ l' _ hb (by rw [getD_set_ne true hc5]; exact hk0) h2 hk)
        rwa [show (i :: qs).length + f = qs.length + f + 1 by simp; omega]
      · cases hb
def mixTP (P : Program) (ops : Array Oper) (C : World → Prop) (Q : Exit → Act → World → Prop) : List (List Nat × Nat) → List Nat → Nat → Act → World → Prop
  | [], qs, k, a, w => wpQuiet P ops C (fun b => wpOp P ops Q k (fun b' w' => Q .normal b' w') b w) (pickO ops qs) a
  | (q, j) :: rest, qs, k, a, w => wpQuiet P ops C (fun b => wpOp P ops Q j (fun b' w' => C w' ∧ mixTP P ops C Q rest qs k b' w') b w) (pickO ops q) a
def mixTB (md : Region.Mode) (ops : Array Oper) (qs : List Nat) (k : Nat) : List (List Nat × Nat) → Array Bool → Bool
  | [], l => match quietT md ops k qs l with
    | some l' => decide (Region.ready md ops l' = [k]) && (Region.ready md ops (l'.setIfInBounds k true)).isEmpty && decide (k < l'.size)
    | none => false
  | (q, j) :: rest, l => match quietT md ops k q l with
    | some l' => decide (Region.ready md ops l' = [j]) && decide (j ≠ k) && mixTB md ops qs k rest (l'.setIfInBounds j true)
    | none => false
def mixTN (qs : List Nat) : List (List Nat × Nat) → Nat
  | [] => qs.length + 1
  | (q, _) :: rest => q.length + (mixTN qs rest + 1)
theorem mixT_any (hs : Region.noSelect ops = true) (hQ : ∀ c a d v w, Q (.panic c) (a.put d v) w → Q (.panic c) a w) (qs : List Nat) (k : Nat) : ∀ (segs : List (List Nat × Nat)) (l : Array Bool) (a : Act) (w : World), C w → l.getD k true = false → mixTB md ops qs k segs l = true →
    mixTP P ops C Q segs qs k a w → anyD P md ops C k Q (mixTN qs segs) l a w
  | [], l, a, w, hw, hk0, hb, h => by
    unfold mixTB at hb
    split at hb
    · next l' hl =>
      simp only [Bool.and_eq_true, decide_eq_true_eq] at hb
      obtain ⟨⟨h1, h2⟩, h3⟩ := hb
      refine quietT_any hs hQ hw (f := 1) qs l l' a hl hk0 h fun b hk => ⟨fun h0 => (by rw [h1] at h0; cases h0), fun i hi => ?_⟩
      rw [h1] at hi
      obtain rfl := List.mem_singleton.1 hi
      exact wpOp_mono (fun b' w' hbw => ⟨fun e => (by simp [h3] at e), (by simpa using h2), hbw⟩) hk
    · cases hb
  | (q, j) :: rest, l, a, w, hw, hk0, hb, h => by
    unfold mixTB at hb
    split at hb
    · next l' hl =>
      simp only [Bool.and_eq_true, decide_eq_true_eq] at hb
      obtain ⟨⟨h1, h2⟩, h3⟩ := hb
      refine quietT_any hs hQ hw q l l' a hl hk0 h fun b hk => ?_
      refine ⟨fun h0 => (by rw [h1] at h0; cases h0), fun i hi => ?_⟩
      rw [h1] at hi
      obtain rfl := List.mem_singleton.1 hi
      exact wpOp_mono (fun b' w' hbw => ⟨fun _ => hbw.1, mixT_any hs hQ qs k rest _ b' w' hbw.1 (by rw [getD_set_ne true h2]; exact quietT_keep q l l' hl hk0) h3 hbw.2⟩) hk
    · cases hb
theorem mixt_cons {q : List Nat} {j k : Nat} {rest : List (List Nat × Nat)} {qs : List Nat} {a : Act} {w : World} {os : List Oper} (ho : pickO ops q = os)
    (h : ∀ Kp : Act → Prop, (∀ b, wpOp P ops Q j (fun b' w' => C w' ∧ mixTP P ops C Q rest qs k b' w') b w → Kp b) → wpQuiet P ops C Kp os a) : mixTP P ops C Q ((q, j) :: rest) qs k a w := by
  subst ho; exact h _ fun _ h => h
theorem mixt_last {k : Nat} {qs : List Nat} {a : Act} {w : World} {os : List Oper} (ho : pickO ops qs = os) (h : ∀ Kp : Act → Prop, (∀ b, wpOp P ops Q k (fun b' w' => Q .normal b' w') b w → Kp b) → wpQuiet P ops C Kp os a) : mixTP P ops C Q [] qs k a w := by
  subst ho; exact h _ fun _ h => h
theorem loudt {k j : Nat} {o : Oper} {a : Act} {w : World} {rest : List (List Nat × Nat)} {qs : List Nat} (ho : ops[j]? = some o) (hg : Region.wanted o (yielded ops a.tmps) = true)
    (h : ∀ K : Act → World → Prop, (∀ b w', C w' → mixTP P ops C Q rest qs k b w' → K b w') → Oper.wp P o a w K Q) : wpOp P ops Q j (fun b' w' => C w' ∧ mixTP P ops C Q rest qs k b' w') a w := by
  unfold Go.wpOp
  simp only [ho]
  rw [if_pos hg]
  exact .inl (h _ fun b w' h1 h2 => ⟨h1, h2⟩)
theorem loudl {k : Nat} {o : Oper} {a : Act} {w : World} (ho : ops[k]? = some o) (hg : Region.wanted o (yielded ops a.tmps) = true) (h : Oper.wp P o a w (fun b' w' => Q .normal b' w') Q) : wpOp P ops Q k (fun b' w' => Q .normal b' w') a w := by
  unfold Go.wpOp
  simp only [ho]
  rw [if_pos hg]
  exact .inl h
end
theorem wp_region_mixT {P : Program} {id : Nat} {Q : Exit → Act → World → Prop} {a : Act} {w : World} {l : List Oper} (segs : List (List Nat × Nat)) (qs : List Nat) (k : Nat) (hm : P.follows .mixedOrders = true) (hs : Region.noSelect l.toArray = true)
    (hB : mixTB .any l.toArray qs k segs (Array.replicate l.toArray.size false) = true) (hN : mixTN qs segs = l.toArray.size) (hk : k < l.toArray.size) (hQ : ∀ c a d v w, Q (.panic c) (a.put d v) w → Q (.panic c) a w)
    (h : mixTP P l.toArray (fun w' => ∃ x : BW w, w' = x.w) Q segs qs k a (w.drewN 1)) : (Code.region id l.toArray true).wp P Q a w :=
  wp_region_any hm (any_of_D (C := fun w' => ∃ x : BW w, w' = x.w) (k := k) _ _ _ _ (by
    have := mixT_any hs hQ qs k segs _ a _ (C := fun w' => ∃ x : BW w, w' = x.w) ⟨⟨w.drewN 1, below_drewN (Below.refl _ _) 1⟩, rfl⟩ (by simp only [List.size_toArray] at hk; simp [Array.getD, hk]) hB h
    rw [hN] at this
    exact this))
theorem BW.of {W V : World} (h : Below W.heap.size W V) : ∃ x : BW W, V = x.w := ⟨⟨V, h⟩, rfl⟩
end Go.Proofs.YtncijmodlhijoaaGreat
