import Derived.Test.YtbnmkbpjdelokaaGreatQ3
import Derived.StillTail
import Derived.Test.YtbnmkbpjdelokaaGreatQ15
import Derived.Test.YtbnmkbpjdelokaaGreatQ23
set_option linter.unusedVariables false
set_option maxRecDepth 100000
set_option maxHeartbeats 4000000
namespace Go.Proofs.YtbnmkbpjdelokaaGreat
open Go.RowKit Go.Lib
theorem nil_value {P : Program} {o : Oper} {x : Operand} {ρ : Operand → Value} {w w' : World} {n : Next} (ho : o.op = .nilCheck x) (hr : (execOp ρ o).run P w = .ok n w') : ∃ u, n = .value u := by
  unfold execOp at hr
  simp only [ho] at hr
  split at hr
  · simp [go_sem] at hr
  · simp [go_sem] at hr
  · simp [go_sem] at hr
  · split at hr
    · simp [go_sem] at hr
    · rw [Sem.run_bind] at hr
      generalize (program : Sem Program).run P w = A at hr
      cases A with
      | halt a b => simp [Result.andThen] at hr
      | ok pr w1 =>
        simp only [Result.andThen] at hr
        rw [Sem.run_bind] at hr
        generalize Sem.run P (nilAhead _ _ _ _) w1 = B at hr
        cases B with
        | halt a b => simp [Result.andThen] at hr
        | ok c w2 =>
          simp only [Result.andThen] at hr
          split at hr
          · simp [go_sem, Sem.run_bind, unsupported, Result.andThen] at hr
          · simp [go_sem] at hr
            exact ⟨_, hr.1.symm⟩
    · simp [go_sem] at hr
      exact ⟨_, hr.1.symm⟩
  · simp only [Sem.run_pure] at hr
    cases hr
    exact ⟨_, rfl⟩
def stillT (o : Oper) : Bool := stillB o || (match o.op with | .nilCheck _ => true | _ => false)
theorem stillT_value {P : Program} {o : Oper} (h : stillT o = true) {ρ : Operand → Value} {w w' : World} {n : Next} (hr : (execOp ρ o).run P w = .ok n w') : ∃ u, n = .value u := by
  unfold stillT at h
  rw [Bool.or_eq_true] at h
  rcases h with h | h
  · exact still_value h hr
  · split at h
    · rename_i x hx
      exact nil_value hx hr
    · cases h
section
variable {P : Program} {md : Region.Mode} {ops : Array Oper} {Q : Exit → Act → World → Prop} {C : World → Prop}
def anyD (P : Program) (md : Region.Mode) (ops : Array Oper) (C : World → Prop) (k : Nat) (Q : Exit → Act → World → Prop) : Nat → Array Bool → Act → World → Prop
  | 0, l, a, w => Region.ready md ops l = [] ∧ Q .normal a w
  | f + 1, l, a, w => (Region.ready md ops l = [] → Q .normal a w) ∧ ∀ i ∈ Region.ready md ops l, wpOp P ops Q i (fun b w' => ((l.setIfInBounds i true).getD k true = false → C w') ∧ anyD P md ops C k Q f (l.setIfInBounds i true) b w') a w
theorem any_of_D {k : Nat} : ∀ (f : Nat) (l : Array Bool) (a : Act) (w : World), anyD P md ops C k Q f l a w → wpAny P md ops Q f l a w
  | 0, _, _, _, h => h
  | f + 1, l, a, w, h => ⟨h.1, fun i hi => wpOp_mono (fun b w' hb => any_of_D f _ b w' hb.2) (h.2 i hi)⟩
theorem anyD_first {i k : Nat} {oi : Oper} {v : Value} (hi : ops[i]? = some oi) (hs : Region.noSelect ops = true) (hQ : ∀ c a w, Q (.panic c) (a.put oi.dst v) w → Q (.panic c) a w) (hik : i ≠ k) (hki : Region.waitsFor md ops k i = true) : ∀ (f : Nat) (l : Array Bool) (a : Act) (w : World), C w → l.getD k true = false →
    (∀ j oj, ops[j]? = some oj → j ≠ i → l.getD j true = false → (∀ e ∈ oj.after, Region.binds md e = true → e.on ≠ i) → oi.apart ops oj = true) → i ∈ Region.ready md ops l → YC P ops C oi v a →
    anyD P md ops C k Q f (l.setIfInBounds i true) (a.put oi.dst v) w → anyD P md ops C k Q (f + 1) l a w := by
  have hsel := Region.noSelect_spec hs
  intro f
  induction f with
  | zero =>
    intro l a w hw hk0 hfree hr hy H
    refine ⟨fun h => (by rw [h] at hr; cases hr), fun j hj => ?_⟩
    by_cases e : j = i
    · subst e; exact hy.wpOp hi hw ⟨fun _ => hw, H⟩
    · have := ready_mono hj e
      rw [H.1] at this; cases this
  | succ f ih =>
    intro l a w hw hk0 hfree hr hy H
    refine ⟨fun h => (by rw [h] at hr; cases hr), fun j hj => ?_⟩
    by_cases e : j = i
    · subst e; exact hy.wpOp hi hw ⟨fun _ => hw, H⟩
    · obtain ⟨hun, oj, hoj, hall⟩ := mem_ready.1 hj
      have hi0 := (mem_ready.1 hr).1
      have hno : ∀ x ∈ oj.after, Region.binds md x = true → x.on ≠ i := fun x hx hb q => by
        have h1 := hall x hx hb
        rw [q] at h1
        cases hl : l[i]? <;> simp [Array.getD_eq_getD_getElem?, hl] at hi0 h1
        rw [hi0] at h1; cases h1
      have hjk : j ≠ k := by
        rintro rfl
        obtain ⟨ok, ho, x, hx, hb, hxe⟩ := Region.waitsFor_spec hki
        have : ok = oj := Option.some.inj (ho.symm.trans hoj)
        subst this
        exact hno x hx hb hxe
      have hk1 : (l.setIfInBounds j true).getD k true = false := by rw [getD_set_ne true hjk]; exact hk0
      have hk2 : ((l.setIfInBounds i true).setIfInBounds j true).getD k true = false := by rw [getD_set_ne true hjk, getD_set_ne true hik]; exact hk0
      have hmix := wpOp_behind (C := C) hoj (hfree j oj hoj e hun hno) (fun cs b => hsel i oi cs b hi) (fun cs b => hsel j oj cs b hoj) hQ hy (H.2 j (ready_mono hj e))
      refine wpOp_mono (fun b w' hb => ⟨fun _ => hb.2.1 hk2, ih _ b w' (hb.2.1 hk2) hk1 (fun k ok hk hki hku hkn => hfree k ok hk hki ?_ hkn) (ready_mono hr (Ne.symm e)) hb.1 ?_⟩) hmix
      · by_cases q : j = k
        · rw [← q]; exact hun
        · rwa [getD_set_ne true q] at hku
      · rw [Array.setIfInBounds_comm _ _ e]; exact hb.2.2
def quietT (md : Region.Mode) (ops : Array Oper) (k : Nat) : List Nat → Array Bool → Option (Array Bool)
  | [], l => some l
  | i :: qs, l => match ops[i]? with
    | none => none
    | some o => if (Region.ready md ops l).contains i && Region.free md ops l i && stillT o && Region.waitsFor md ops k i && decide (i ≠ k) then quietT md ops k qs (l.setIfInBounds i true) else none
theorem quietT_keep {k : Nat} : ∀ (qs : List Nat) (l l' : Array Bool), quietT md ops k qs l = some l' → l.getD k true = false → l'.getD k true = false
  | [], l, l', hb, h => by
    simp only [quietT, Option.some.injEq] at hb
    subst hb
    exact h
  | i :: qs, l, l', hb, h => by
    cases ho : ops[i]? with
    | none => simp [quietT, ho] at hb
    | some o =>
      simp only [quietT, ho] at hb
      split at hb
      · next hc =>
        simp only [Bool.and_eq_true, decide_eq_true_eq] at hc
        exact quietT_keep qs _ l' hb (by rw [getD_set_ne true hc.2]; exact h)
      · cases hb
theorem quietT_any (hs : Region.noSelect ops = true) (hQ : ∀ c a d v w, Q (.panic c) (a.put d v) w → Q (.panic c) a w) {w : World} (hw : C w) {f k : Nat} {Kp : Act → Prop} : ∀ (qs : List Nat) (l l' : Array Bool) (a : Act), quietT md ops k qs l = some l' → l.getD k true = false →
    wpQuiet P ops C Kp (pickO ops qs) a → (∀ b, Kp b → anyD P md ops C k Q f l' b w) → anyD P md ops C k Q (qs.length + f) l a w
  | [], l, l', a, hb, hk0, h, hk => by
    simp only [quietT, Option.some.injEq] at hb
    subst hb
    rw [List.length_nil, Nat.zero_add]
    exact hk a h
  | i :: qs, l, l', a, hb, hk0, h, hk => by
    cases ho : ops[i]? with
    | none => simp [quietT, ho] at hb
    | some o =>
      simp only [quietT, ho] at hb
      split at hb
      · next hc =>
        simp only [Bool.and_eq_true, decide_eq_true_eq] at hc
        obtain ⟨⟨⟨⟨hc1, hc2⟩, hc3⟩, hc4⟩, hc5⟩ := hc
        rw [show pickO ops (i :: qs) = o :: pickO ops qs by simp [pickO, ho]] at h
        have hv : ∃ v, YC P ops C o v a ∧ wpQuiet P ops C Kp (pickO ops qs) (a.put o.dst v) := by
          unfold wpQuiet at h
          by_cases hg : Region.wanted o (yielded ops a.tmps) = true
          · rw [if_pos hg] at h
            obtain ⟨v, h1, h2⟩ := h
            refine ⟨v, .inl ⟨hg, fun x hx => ?_⟩, h2⟩
            have h3 := h1 x hx
            unfold Oper.quietAt at h3
            cases hr : (execOp a.eval o).run P x with
            | halt y x' => rw [hr] at h3; simp only [Oper.quietUpon] at h3
            | ok n x' =>
              obtain ⟨u, rfl⟩ := stillT_value hc3 hr
              rw [hr] at h3
              simp only [Oper.quietUpon] at h3
              obtain ⟨rfl, rfl⟩ := h3
              rfl
          · rw [if_neg hg] at h
            exact ⟨undef, .inr ⟨by simpa using hg, rfl⟩, h⟩
        obtain ⟨v, hy, h2⟩ := hv
        have := anyD_first ho hs (fun c a w => hQ c a _ _ w) hc5 hc4 (qs.length + f) l a w hw hk0 (Region.free_spec ho hc2) (by simpa using hc1) hy (quietT_any hs hQ hw qs _ l' _ hb (by rw [getD_set_ne true hc5]; exact hk0) h2 hk)
        rwa [show (i :: qs).length + f = qs.length + f + 1 by simp; omega]
      · cases hb
def mixTP (P : Program) (ops : Array Oper) (C : World → Prop) (Q : Exit → Act → World → Prop) : List (List Nat × Nat) → List Nat → Nat → Act → World → Prop
  | [], qs, k, a, w => wpQuiet P ops C (fun b => wpOp P ops Q k (fun b' w' => Q .normal b' w') b w) (pickO ops qs) a
  | (q, j) :: rest, qs, k, a, w => wpQuiet P ops C (fun b => wpOp P ops Q j (fun b' w' => C w' ∧ mixTP P ops C Q rest qs k b' w') b w) (pickO ops q) a
def mixTB (md : Region.Mode) (ops : Array Oper) (qs : List Nat) (k : Nat) : List (List Nat × Nat) → Array Bool → Bool
  | [], l => match quietT md ops k qs l with
    | some l' => decide (Region.ready md ops l' = [k]) && (Region.ready md ops (l'.setIfInBounds k true)).isEmpty && decide (k < l'.size)
    | none => false
  | (q, j) :: rest, l => match quietT md ops k q l with
    | some l' => decide (Region.ready md ops l' = [j]) && decide (j ≠ k) && mixTB md ops qs k rest (l'.setIfInBounds j true)
    | none => false
def mixTN (qs : List Nat) : List (List Nat × Nat) → Nat
  | [] => qs.length + 1
  | (q, _) :: rest => q.length + (mixTN qs rest + 1)
theorem mixT_any (hs : Region.noSelect ops = true) (hQ : ∀ c a d v w, Q (.panic c) (a.put d v) w → Q (.panic c) a w) (qs : List Nat) (k : Nat) : ∀ (segs : List (List Nat × Nat)) (l : Array Bool) (a : Act) (w : World), C w → l.getD k true = false → mixTB md ops qs k segs l = true →
    mixTP P ops C Q segs qs k a w → anyD P md ops C k Q (mixTN qs segs) l a w
  | [], l, a, w, hw, hk0, hb, h => by
    unfold mixTB at hb
    split at hb
    · next l' hl =>
      simp only [Bool.and_eq_true, decide_eq_true_eq] at hb
      obtain ⟨⟨h1, h2⟩, h3⟩ := hb
      refine quietT_any hs hQ hw (f := 1) qs l l' a hl hk0 h fun b hk => ⟨fun h0 => (by rw [h1] at h0; cases h0), fun i hi => ?_⟩
      rw [h1] at hi
      obtain rfl := List.mem_singleton.1 hi
      exact wpOp_mono (fun b' w' hbw => ⟨fun e => (by simp [h3] at e), (by simpa using h2), hbw⟩) hk
    · cases hb
  | (q, j) :: rest, l, a, w, hw, hk0, hb, h => by
    unfold mixTB at hb
    split at hb
    · next l' hl =>
      simp only [Bool.and_eq_true, decide_eq_true_eq] at hb
      obtain ⟨⟨h1, h2⟩, h3⟩ := hb
      refine quietT_any hs hQ hw q l l' a hl hk0 h fun b hk => ?_
      refine ⟨fun h0 => (by rw [h1] at h0; cases h0), fun i hi => ?_⟩
      rw [h1] at hi
      obtain rfl := List.mem_singleton.1 hi
      exact wpOp_mono (fun b' w' hbw => ⟨fun _ => hbw.1, mixT_any hs hQ qs k rest _ b' w' hbw.1 (by rw [getD_set_ne true h2]; exact quietT_keep q l l' hl hk0) h3 hbw.2⟩) hk
    · cases hb
theorem mixt_cons {q : List Nat} {j k : Nat} {rest : List (List Nat × Nat)} {qs : List Nat} {a : Act} {w : World} {os : List Oper} (ho : pickO ops q = os)
    (h : ∀ Kp : Act → Prop, (∀ b, wpOp P ops Q j (fun b' w' => C w' ∧ mixTP P ops C Q rest qs k b' w') b w → Kp b) → wpQuiet P ops C Kp os a) : mixTP P ops C Q ((q, j) :: rest) qs k a w := by
  subst ho; exact h _ fun _ h => h
theorem mixt_last {k : Nat} {qs : List Nat} {a : Act} {w : World} {os : List Oper} (ho : pickO ops qs = os) (h : ∀ Kp : Act → Prop, (∀ b, wpOp P ops Q k (fun b' w' => Q .normal b' w') b w → Kp b) → wpQuiet P ops C Kp os a) : mixTP P ops C Q [] qs k a w := by
  subst ho; exact h _ fun _ h => h
theorem loudt {k j : Nat} {o : Oper} {a : Act} {w : World} {rest : List (List Nat × Nat)} {qs : List Nat} (ho : ops[j]? = some o) (hg : Region.wanted o (yielded ops a.tmps) = true)
    (h : ∀ K : Act → World → Prop, (∀ b w', C w' → mixTP P ops C Q rest qs k b w' → K b w') → Oper.wp P o a w K Q) : wpOp P ops Q j (fun b' w' => C w' ∧ mixTP P ops C Q rest qs k b' w') a w := by
  unfold Go.wpOp
  simp only [ho]
  rw [if_pos hg]
  exact .inl (h _ fun b w' h1 h2 => ⟨h1, h2⟩)
theorem loudl {k : Nat} {o : Oper} {a : Act} {w : World} (ho : ops[k]? = some o) (hg : Region.wanted o (yielded ops a.tmps) = true) (h : Oper.wp P o a w (fun b' w' => Q .normal b' w') Q) : wpOp P ops Q k (fun b' w' => Q .normal b' w') a w := by
  unfold Go.wpOp
  simp only [ho]
  rw [if_pos hg]
  exact .inl h
end
theorem wp_region_mixT {P : Program} {id : Nat} {Q : Exit → Act → World → Prop} {a : Act} {w : World} {l : List Oper} (segs : List (List Nat × Nat)) (qs : List Nat) (k : Nat) (hm : P.follows .mixedOrders = true) (hs : Region.noSelect l.toArray = true)
    (hB : mixTB .any l.toArray qs k segs (Array.replicate l.toArray.size false) = true) (hN : mixTN qs segs = l.toArray.size) (hk : k < l.toArray.size) (hQ : ∀ c a d v w, Q (.panic c) (a.put d v) w → Q (.panic c) a w)
    (h : mixTP P l.toArray (fun w' => ∃ x : BW w, w' = x.w) Q segs qs k a (w.drewN 1)) : (Code.region id l.toArray true).wp P Q a w :=
  wp_region_any hm (any_of_D (C := fun w' => ∃ x : BW w, w' = x.w) (k := k) _ _ _ _ (by
    have := mixT_any hs hQ qs k segs _ a _ (C := fun w' => ∃ x : BW w, w' = x.w) ⟨⟨w.drewN 1, below_drewN (Below.refl _ _) 1⟩, rfl⟩ (by simp only [List.size_toArray] at hk; simp [Array.getD, hk]) hB h
    rw [hN] at this
    exact this))
theorem BW.of {W V : World} (h : Below W.heap.size W V) : ∃ x : BW W, V = x.w := ⟨⟨V, h⟩, rfl⟩
end Go.Proofs.YtbnmkbpjdelokaaGreat
namespace Go.Proofs.YtbnmkbpjdelokaaGreat.Res
open Go.RowKit Go.Lib Utf Nam Lat Kin Unp Rel
section
variable {base B : Nat} {lv tv tab : Value} {rh : TH} {rnv rpv : Value} {w0 : World}
def tallyS (s : BS) (h : TH) (f : Ft) : (Int × Int) × BS := ((0, 0), if h.kind = 9 then s else { s with count := wrap64 (s.count + 1) })
theorem isF_tally : IsF 134 := by
  intro args w
  unfold callFunc
  simp [go_sem, Tryz.func134]
  rfl
theorem tally_calls (G : TH → Ft → Prop) : OpQ G (BF base B lv tv tab rh rnv rpv) w0 134 (.pointer (some ⟨B, 0, none⟩)) tallyS := by
  intro s h f nv' pv' w hI hb hy hg R hR
  obtain ⟨An, cn, rfl, -, -⟩ := hy.n.op
  obtain ⟨Ap, cp, rfl, -⟩ := hy.p.sl
  have m0 := Hq.nil hI
  obtain ⟨V1, e1, m1, z1⟩ := m0.new (.cells (tyL h (.slice An h.names.length cn) (.slice Ap f.len cp)).toArray 29)
  obtain ⟨V, e2, n, z2⟩ := m1.new (.cells #[.int .i64 0, .int .i64 0] 37)
  clear m0 m1 z1 z2
  go_enter Tryz.func134, Tryz.ntmps134
  go_upto_region 1 with fail
  clear e1 e2
  have t0 := n.c 1 0 rfl rfl
  have b13 := n.bc 13 rfl
  have bf := n.bf 13
  by_cases hk : h.kind = 9
  · have e : tallyS s h f = ((0, 0), s) := by unfold tallyS; rw [if_pos hk]
    rw [e] at hR
    have q0 : (h.kind != 9) = false := by simpa using hk
    clear e hk
    go_upto_region 3 with fail
    clear t0 b13 bf
    have y0 := n.c 0 0 rfl rfl
    have yf0 := n.f 0 0 rfl
    have y1 := n.c 0 1 rfl rfl
    have yf1 := n.f 0 1 rfl
    obtain ⟨VE, eE, nE, -⟩ := n.put (j := 0) rfl [(0, .int .i64 0), (1, .int .i64 0)]
    simp only [stL] at eE
    simp only [stA, List.setIfInBounds_toArray, List.set_cons_succ, List.set_cons_zero] at nE
    have w0_ := nE.c 0 0 rfl rfl
    have w1_ := nE.c 0 1 rfl rfl
    have fin := Lib.hid (hR.out _ nE.fin)
    clear nE n hR
    go_wp2_with fail
    first | refine bodyPost_ret ?_ rfl fin.out | refine bodyPost_end ?_ rfl fin.out
    simp [results, Tryz.results134, go_sem, w0_, w1_]
  · have e : tallyS s h f = ((0, 0), { s with count := wrap64 (s.count + 1) }) := by unfold tallyS; rw [if_neg hk]
    rw [e] at hR
    have q0 : (h.kind != 9) = true := by simpa using hk
    clear e hk
    obtain ⟨V2, e2, n2⟩ : ∃ V2, V.setCell ⟨B, 13, none⟩ (.int .i64 (wrap64 (s.count + 1))) = V2 ∧ Hq (BF base B lv tv tab rh rnv rpv) s { s with count := wrap64 (s.count + 1) } w V2 [(V1.heap.size, .cells #[.int .i64 0, .int .i64 0] 37), (w.heap.size, .cells (tyL h (.slice An h.names.length cn) (.slice Ap f.len cp)).toArray 29)] := ⟨_, rfl, n.cellB 13 _ rfl rfl rfl rfl rfl rfl⟩
    clear n
    have n := n2
    clear n2
    go_upto_region 3 with fail
    clear t0 b13 bf e2
    have y0 := n.c 0 0 rfl rfl
    have yf0 := n.f 0 0 rfl
    have y1 := n.c 0 1 rfl rfl
    have yf1 := n.f 0 1 rfl
    obtain ⟨VE, eE, nE, -⟩ := n.put (j := 0) rfl [(0, .int .i64 0), (1, .int .i64 0)]
    simp only [stL] at eE
    simp only [stA, List.setIfInBounds_toArray, List.set_cons_succ, List.set_cons_zero] at nE
    have w0_ := nE.c 0 0 rfl rfl
    have w1_ := nE.c 0 1 rfl rfl
    have fin := Lib.hid (hR.out _ nE.fin)
    clear nE n hR
    go_wp2_with fail
    first | refine bodyPost_ret ?_ rfl fin.out | refine bodyPost_end ?_ rfl fin.out
    simp [results, Tryz.results134, go_sem, w0_, w1_]
noncomputable def kindsS (s : BS) (h : TH) (f : Ft) : (Int × Int) × BS :=
  if (wcS h f).1 ≠ 0 then (((wcS h f).1, (wcS h f).2.1), s) else
  if 512 < wrap64 (s.total + cW f 1) then ((8, h.at_), { s with total := wrap64 (s.total + cW f 1) }) else ((0, 0), { s with total := wrap64 (s.total + cW f 1) })
theorem isF_kinds : IsF 84 := by
  intro args w
  unfold callFunc
  simp [go_sem, Tryz.func84]
  rfl
theorem kinds_calls (hlow : w0.heap.size ≤ base) : OpQ GoodT (BF base B lv tv tab rh rnv rpv) w0 84 (.pointer (some ⟨B, 0, none⟩)) kindsS := by
  intro s h f nv' pv' w hI hb hy hg R hR
  obtain ⟨An, cn, rfl, -, -⟩ := hy.n.op
  obtain ⟨Ap, cp, rfl, -⟩ := hy.p.sl
  have m0 := Hq.nil hI
  obtain ⟨V1, e1, m1, z1⟩ := m0.new (.cells (tyL h (.slice An h.names.length cn) (.slice Ap f.len cp)).toArray 29)
  obtain ⟨V, e2, n, z2⟩ := m1.new (.cells #[.int .i64 0, .int .i64 0] 37)
  clear m0 m1 z1 z2
  go_enter Tryz.func84, Tryz.ntmps84
  go_upto_region 1 with fail
  clear e1 e2
  obtain ⟨gh, hfl, hga⟩ := hg
  have hbV := hb.trans (n.below hb.size (bF_low base B lv tv tab rh rnv rpv hlow s))
  have rT := n.rg 1 rfl
  have t1 := n.c 1 1 rfl rfl
  go_wp2_with (refine wpList_load_g (by rfl) 29 _ rfl w.heap.size (0) rfl _ _ rT Tryz.underlying29 rfl (by kernel_rfl) ?_; go_simp)
  refine right15_calls f h _ _ V gh hfl hga (hy.below hbV) _ (Lib.hid fun W1 m1 => ?_)
  replace n := n.bl m1
  clear m1 rT hbV t1
  unfold kindsS at hR
  generalize hwc : wcS h f = a at *
  obtain ⟨a0, a1, a2⟩ := a
  simp only at hR ⊢
  obtain ⟨V2, e2, n, z2⟩ := n.new (.cells #[.int .i64 a0, .int .i64 a1] 37)
  go_upto_region 2 with fail
  clear e2 z2
  have a_0 := n.c 0 0 rfl rfl
  have a_1 := n.c 0 1 rfl rfl
  by_cases h0 : a0 = 0
  · subst h0
    rw [if_neg (by decide)] at hR
    go_upto_region 4 with fail
    clear a_0 a_1
    replace n := n.tail
    have hbV := hb.trans (n.below hb.size (bF_low base B lv tv tab rh rnv rpv hlow s))
    have b12 := fun y : BW V2 => y.cell n.bl_ (n.bc 12 rfl)
    have rT := fun (W : World) (e : ∃ y : BW V2, W = y.w) => (show W.rangeAt w.heap.size 0 (tyL h (.slice An h.names.length cn) (.slice Ap f.len cp)) from by
      obtain ⟨y, rfl⟩ := e
      exact (n.bl y.b).rg 1 rfl)
    refine wp_region_mixT [([0, 1, 2, 3, 4], 5), ([6], 7)] [8] 9 (by kernel_rfl) (by kernel_rfl) (by kernel_rfl) (by kernel_rfl) (by decide) (fun _ _ d _ _ h => by cases d <;> exact h) ?_
    have gW : Below V2.heap.size V2 (V2.drewN 1) := below_drewN (Below.refl _ _) 1
    refine mixt_cons (os := [_, _, _, _, _]) (by simp only [pickO, List.filterMap_cons, List.filterMap_nil, List.getElem?_toArray, List.getElem?_cons_succ, List.getElem?_cons_zero]; rfl) (fun Kp hKp => ?_)
    iterate 4 (go_big_quiet_step (exact rfl))
    refine wpQuiet_load rfl 29 _ rfl (w.heap.size) 0 rfl _ _ rT Tryz.underlying29 rfl (by kernel_rfl) ?_
    go_simp
    refine wpQuiet_nil ?_
    refine hKp _ ?_
    clear hKp
    refine loudt (by rfl) (by kernel_rfl) (fun K2 hK2 => ?_)
    go_simp
    refine count_calls f h _ _ _ hfl hga (hy.below (hbV.trans (gW.mono hbV.size))) _ (Lib.hid fun W3 m3 => ?_)
    have gL := gW.trans (m3.mono gW.size)
    refine hK2 _ _ (BW.of gL) ?_
    clear hK2
    refine mixt_cons (os := [_]) (by simp only [pickO, List.filterMap_cons, List.filterMap_nil, List.getElem?_toArray, List.getElem?_cons_succ, List.getElem?_cons_zero]; rfl) (fun Kp hKp => ?_)
    repeat (go_big_quiet_step (exact rfl))
    refine wpQuiet_nil ?_
    refine hKp _ ?_
    clear hKp
    refine loudt (by rfl) (by kernel_rfl) (fun K3 hK3 => ?_)
    go_simp
    refine hK3 _ _ (BW.of gL) ?_
    clear hK3
    refine mixt_last (os := [_]) (by simp only [pickO, List.filterMap_cons, List.filterMap_nil, List.getElem?_toArray, List.getElem?_cons_succ, List.getElem?_cons_zero]; rfl) (fun Kp hKp => ?_)
    repeat (go_big_quiet_step (exact rfl))
    refine wpQuiet_nil ?_
    refine hKp _ ?_
    clear hKp
    replace n := n.bl gL
    have bf := n.bf 12
    have b12' := n.bc 12 rfl
    obtain ⟨V4, e4, n⟩ : ∃ V4, W3.setCell ⟨B, 12, none⟩ (.int .i64 (wrap64 (s.total + cW f 1))) = V4 ∧ Hq (BF base B lv tv tab rh rnv rpv) s { s with total := wrap64 (s.total + cW f 1) } w V4 [(V1.heap.size, .cells #[.int .i64 0, .int .i64 0] 37), (w.heap.size, .cells (tyL h (.slice An h.names.length cn) (.slice Ap f.len cp)).toArray 29)] := ⟨_, rfl, n.cellB 12 _ rfl rfl rfl rfl rfl rfl⟩
    refine loudl (by rfl) (by kernel_rfl) ?_
    go_simp
    clear e4 bf b12' gL m3 gW rT b12 hbV hwc
    have t1 := n.c 1 1 rfl rfl
    have b12 := n.bc 12 rfl
    generalize wrap64 (s.total + cW f 1) = t at *
    by_cases h5 : 512 < t
    · rw [if_pos h5] at hR
      go_upto_region 6 with fail
      clear b12
      have y0 := n.c 0 0 rfl rfl
      have yf0 := n.f 0 0 rfl
      have y1 := n.c 0 1 rfl rfl
      have yf1 := n.f 0 1 rfl
      obtain ⟨VE, eE, nE, -⟩ := n.put (j := 0) rfl [(0, .int .i64 8), (1, .int .i64 h.at_)]
      simp only [stL] at eE
      simp only [stA, List.setIfInBounds_toArray, List.set_cons_succ, List.set_cons_zero] at nE
      have w0_ := nE.c 0 0 rfl rfl
      have w1_ := nE.c 0 1 rfl rfl
      have fin := Lib.hid (hR.out _ nE.fin)
      clear nE n hR
      go_wp2_with fail
      first | refine bodyPost_ret ?_ rfl fin.out | refine bodyPost_end ?_ rfl fin.out
      simp [results, Tryz.results84, go_sem, w0_, w1_]
    · rw [if_neg h5] at hR
      go_upto_region 7 with fail
      clear b12
      have y0 := n.c 0 0 rfl rfl
      have yf0 := n.f 0 0 rfl
      have y1 := n.c 0 1 rfl rfl
      have yf1 := n.f 0 1 rfl
      obtain ⟨VE, eE, nE, -⟩ := n.put (j := 0) rfl [(0, .int .i64 0), (1, .int .i64 0)]
      simp only [stL] at eE
      simp only [stA, List.setIfInBounds_toArray, List.set_cons_succ, List.set_cons_zero] at nE
      have w0_ := nE.c 0 0 rfl rfl
      have w1_ := nE.c 0 1 rfl rfl
      have fin := Lib.hid (hR.out _ nE.fin)
      clear nE n hR
      go_wp2_with fail
      first | refine bodyPost_ret ?_ rfl fin.out | refine bodyPost_end ?_ rfl fin.out
      simp [results, Tryz.results84, go_sem, w0_, w1_]
  · rw [if_pos h0] at hR
    have q0 : (a0 != 0) = true := by simpa using h0
    clear h0 hwc
    go_upto_region 3 with fail
    have y0 := n.c 1 0 rfl rfl
    have yf0 := n.f 1 0 rfl
    have y1 := n.c 1 1 rfl rfl
    have yf1 := n.f 1 1 rfl
    obtain ⟨VE, eE, nE, -⟩ := n.put (j := 1) rfl [(0, .int .i64 a0), (1, .int .i64 a1)]
    simp only [stL] at eE
    simp only [stA, List.setIfInBounds_toArray, List.set_cons_succ, List.set_cons_zero] at nE
    have w0_ := nE.c 1 0 rfl rfl
    have w1_ := nE.c 1 1 rfl rfl
    have fin := Lib.hid (hR.out _ nE.fin)
    clear nE n hR
    go_wp2_with fail
    first | refine bodyPost_ret ?_ rfl fin.out | refine bodyPost_end ?_ rfl fin.out
    simp [results, Tryz.results84, go_sem, w0_, w1_]
end
end Go.Proofs.YtbnmkbpjdelokaaGreat.Res
