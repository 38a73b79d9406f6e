import Derived.Test.YtncijmodlhijoaaGreatQ28
import Derived.Test.YtncijmodlhijoaaGreatQ30
import Derived.Test.YtncijmodlhijoaaGreatQ36
import Derived.Test.YtncijmodlhijoaaGreatQ27
set_option linter.unusedVariables false
set_option maxRecDepth 100000
set_option maxHeartbeats 4000000
namespace Go.Proofs.YtncijmodlhijoaaGreat.Res
open Go.RowKit Go.Lib Utf Nam Lat Kin Unp Rel
section
variable {base B : Nat} {lv tv tab : Value} {rh : TH} {rnv rpv : Value} {w0 : World}
theorem typ_alloc (ρ : Operand → Value) (W : World) (o : Oper) (h : o.op = .alloc 29) : (execOp ρ o).run Tryz.prog W = .ok (.value (ptA W.heap.size)) (W.alloc (.cells #[.int .i64 0, .int .i64 0, .int .i64 0, .int .i64 0, .int .i64 0, .slice none 0 0, .slice none 0 0, .string ⟨#[]⟩, .int .i64 0] 29)) := by
  simp [execOp, h, go_sem, ptA]
def tgtS (tys : List Nd) : Nat → ByteArray → Int × Bool
  | 0, _ => (0, false)
  | n + 1, x => if (nN tys (finS (nms (tw tys)) x).1.toNat).2.1.kind ≠ 9 then ((finS (nms (tw tys)) x).1, true) else tgtS tys n (nN tys (finS (nms (tw tys)) x).1.toNat).2.1.name
theorem fin_in {xs : List ByteArray} (x : ByteArray) (h : 0 < xs.length) : ∃ I : Nat, (finS xs x).1 = (I : Int) ∧ I < xs.length := by
  rcases find_cases xs x with ⟨h1, -⟩ | ⟨k, h1, -, -, h4⟩
  · rw [fin_no (by rw [h1]; decide)]
    exact ⟨0, rfl, h⟩
  · rw [fin_yes (by rw [h4]; omega)]
    exact ⟨k, h4, h1⟩
theorem target_calls {tys : List Nd} (ht : RdNs w0 tv tys) (hT : RdT w0 tab (nms (tw tys))) (hlow : w0.heap.size ≤ base) (hl : tys.length ≤ 1000000) (s : BS) (x0 : ByteArray) (w : World) (hI : (BF base B lv tv tab rh rnv rpv).Inv w s) (hb : Below w0.heap.size w0 w) (R : Ending → World → Prop)
    (hR : Hid (∀ W, Hq (BF base B lv tv tab rh rnv rpv) s s w W [] → R (.returned (.tuple #[.int .i64 (tgtS tys tys.length x0).1, .bool (tgtS tys tys.length x0).2])) W)) : Calls Tryz.prog 202 #[.pointer (some ⟨B, 0, none⟩), .string x0] w R := by
  obtain ⟨A, c, rfl, hc, hel⟩ := nds_el ht
  have hlen : (nms (tw tys)).length = tys.length := by simp [nms, tw_len]
  have n := Hq.nil hI
  have b1 := n.bc 1 rfl
  replace hel := Lib.hid hel
  go_enter Tryz.func202, Tryz.ntmps202
  go_wp2_with fail
  clear b1
  go_loopg [1, 14] tys.length (fun g sx i wr => ∃ (K : Nat) (y : ByteArray), sx = .string y ∧ i = .int .i64 K ∧ K + g = tys.length ∧ Hid (tgtS tys tys.length x0 = tgtS tys g y) ∧ Hid (Hq (BF base B lv (.slice A tys.length c) tab rh rnv rpv) s s w wr []))
  case atStart => exact ⟨0, x0, rfl, rfl, by omega, Lib.hid rfl, Lib.hid n⟩
  case round =>
    clear n
    obtain ⟨K, y, rfl, rfl, e1, e2, n⟩ := hrel
    replace n := n.out
    by_cases hK : K < tys.length
    · have hbW := hb.trans (n.below hb.size (bF_low base B lv (.slice A tys.length c) tab rh rnv rpv hlow s))
      have b1 := n.bc 1 rfl
      have b11 := n.bc 11 rfl
      obtain ⟨I, hI1, hI2⟩ := fin_in (xs := nms (tw tys)) y (by omega)
      obtain ⟨g', rfl⟩ : ∃ g', gk = g' + 1 := ⟨gk - 1, by omega⟩
      have e3 : tgtS tys tys.length x0 = if (nN tys I).2.1.kind ≠ 9 then ((I : Int), true) else tgtS tys g' (nN tys I).2.1.name := by
        rw [e2.out]
        show (if (nN tys (finS (nms (tw tys)) y).1.toNat).2.1.kind ≠ 9 then _ else _) = _
        rw [hI1, Int.toNat_natCast]
      rw [hlen] at hI2
      obtain ⟨g, o, N1, N3, M1, M3, rfl, hxy, hrg⟩ := hel.out I hI2
      go_wp2_with fail
      refine find_calls (nms (tw tys)) y tab wr (by omega) (hT.below hbW) _ (Lib.hid fun nq => ?_)
      rw [hI1]
      replace n := n.bl (below_drewN (Below.refl _ _) nq)
      generalize wr.drewN nq = V at *
      have hbV := hb.trans (n.below hb.size (bF_low base B lv (.slice (some ⟨g, o, none⟩) tys.length c) tab rh rnv rpv hlow s))
      have rg0 := hrg V hbV
      clear b1 b11 hbW e2 hrg hI1
      have b1 := n.bc 1 rfl
      have i0 : (0 : Int) ≤ (I : Int) := by omega
      have i1 : (I : Int) < (tys.length : Int) := by omega
      generalize nN tys I = x at *
      have rg : V.rangeAt g (o + I * 11 + 2) (tyL x.2.1 (.slice N1 x.2.1.names.length N3) (.slice M1 x.2.2.len M3)) := fun j v e => by
        have := rg0 (2 + j) v (by rw [Nat.add_comm]; exact e)
        rwa [← Nat.add_assoc] at this
      clear rg0
      obtain ⟨V3, e4, n, z3⟩ := n.new (.cells (tyL x.2.1 (.slice N1 x.2.1.names.length N3) (.slice M1 x.2.2.len M3)).toArray 29)
      go_upto_region 5 with (first | (refine wpList_load_g (by rfl) 29 _ rfl g (o + I * 11 + 2) rfl _ _ rg Tryz.underlying29 rfl (by kernel_rfl) ?_; go_simp) | (refine wpList_copy (tyL x.2.1 (.slice N1 x.2.1.names.length N3) (.slice M1 x.2.2.len M3)).toArray ⟨rfl, rfl, rfl⟩ ⟨rfl, rfl, rfl⟩ typ_alloc (by kernel_rfl) ⟨rfl, by simp [Value.oneCell']⟩ (fun _ => ⟨rfl, rfl⟩) ?_; go_simp))
      clear e4 z3 rg b1
      have t0 := n.c 0 0 rfl rfl
      have t7 := n.c 0 7 rfl rfl
      by_cases hk : x.2.1.kind = 9
      · rw [if_neg (by simpa using hk)] at e3
        have q0 : (x.2.1.kind != 9) = false := by simpa using hk
        replace n := Lib.hid n.tail
        replace e3 := Lib.hid e3
        clear hR hk
        go_wp2_with fail
        go_roundg g'
        case measure => omega
        case rel => exact ⟨K + 1, _, rfl, by go_num, by omega, e3, n⟩
      · rw [if_pos (by simpa using hk)] at e3
        have q0 : (x.2.1.kind != 9) = true := by simpa using hk
        rw [e3] at hR
        have fin := Lib.hid (hR.out _ n.fin)
        clear hR hk n
        go_wp2_with fail
        exact fin.out
    · obtain rfl : gk = 0 := by omega
      have e3 : tgtS tys tys.length x0 = (0, false) := e2.out
      rw [e3] at hR
      have fin := Lib.hid (hR.out _ n.fin)
      clear hR n
      go_wp2_with fail
      exact fin.out
end
end Go.Proofs.YtncijmodlhijoaaGreat.Res
namespace Go.Proofs.YtncijmodlhijoaaGreat
open Go.RowKit Go.Lib
inductive Tr where
  | done (qs : List Nat)
  | last (qs : List Nat)
  | one (qs : List Nat) (j : Nat) (t : Tr)
  | two (qs : List Nat) (j1 : Nat) (t1 : Tr) (j2 : Nat) (t2 : Tr)
section
variable {P : Program} {md : Region.Mode} {ops : Array Oper} {Q : Exit → Act → World → Prop} {C : World → Prop}
def trP (P : Program) (ops : Array Oper) (C : World → Prop) (k : Nat) (Q : Exit → Act → World → Prop) : Tr → Act → World → Prop
  | .done qs, a, w => wpQuiet P ops C (fun b => Q .normal b w) (pickO ops qs) a
  | .last qs, a, w => wpQuiet P ops C (fun b => wpOp P ops Q k (fun b' w' => Q .normal b' w') b w) (pickO ops qs) a
  | .one qs j t, a, w => wpQuiet P ops C (fun b => wpOp P ops Q j (fun b' w' => C w' ∧ trP P ops C k Q t b' w') b w) (pickO ops qs) a
  | .two qs j1 t1 j2 t2, a, w => wpQuiet P ops C (fun b => wpOp P ops Q j1 (fun b' w' => C w' ∧ trP P ops C k Q t1 b' w') b w ∧ wpOp P ops Q j2 (fun b' w' => C w' ∧ trP P ops C k Q t2 b' w') b w) (pickO ops qs) a
def trN : Tr → Nat
  | .done qs => qs.length
  | .last qs => qs.length + 1
  | .one qs _ t => qs.length + (trN t + 1)
  | .two qs _ t1 _ _ => qs.length + (trN t1 + 1)
def trB (md : Region.Mode) (ops : Array Oper) (k : Nat) : Tr → Array Bool → Bool
  | .done qs, l => match quietT md ops k qs l with
    | some l' => (Region.ready md ops l').isEmpty
    | none => false
  | .last qs, l => match quietT md ops k qs l with
    | some l' => decide (Region.ready md ops l' = [k]) && (Region.ready md ops (l'.setIfInBounds k true)).isEmpty && decide (k < l'.size)
    | none => false
  | .one qs j t, l => match quietT md ops k qs l with
    | some l' => decide (Region.ready md ops l' = [j]) && decide (j ≠ k) && trB md ops k t (l'.setIfInBounds j true)
    | none => false
  | .two qs j1 t1 j2 t2, l => match quietT md ops k qs l with
    | some l' => decide (Region.ready md ops l' = [j1, j2]) && decide (j1 ≠ k) && decide (j2 ≠ k) && decide (trN t1 = trN t2) && trB md ops k t1 (l'.setIfInBounds j1 true) && trB md ops k t2 (l'.setIfInBounds j2 true)
    | none => false
theorem tr_any (hs : Region.noSelect ops = true) (hQ : ∀ c a d v w, Q (.panic c) (a.put d v) w → Q (.panic c) a w) (k : Nat) : ∀ (t : Tr) (l : Array Bool) (a : Act) (w : World), C w → l.getD k true = false → trB md ops k t l = true →
    trP P ops C k Q t a w → anyD P md ops C k Q (trN t) l a w
  | .done qs, l, a, w, hw, hk0, hb, h => by
    unfold trB at hb
    split at hb
    · next l' hl =>
      refine quietT_any hs hQ hw (f := 0) qs l l' a hl hk0 h fun b hk => ⟨by simpa using hb, hk⟩
    · cases hb
  | .last qs, l, a, w, hw, hk0, hb, h => by
    unfold trB at hb
    split at hb
    · next l' hl =>
      simp only [Bool.and_eq_true, decide_eq_true_eq] at hb
      obtain ⟨⟨h1, h2⟩, h3⟩ := hb
      refine quietT_any hs hQ hw (f := 1) qs l l' a hl hk0 h fun b hk => ⟨fun h0 => (by rw [h1] at h0; cases h0), fun i hi => ?_⟩
      rw [h1] at hi
      obtain rfl := List.mem_singleton.1 hi
      exact wpOp_mono (fun b' w' hbw => ⟨fun e => (by simp [h3] at e), (by simpa using h2), hbw⟩) hk
    · cases hb
  | .one qs j t, l, a, w, hw, hk0, hb, h => by
    unfold trB at hb
    split at hb
    · next l' hl =>
      simp only [Bool.and_eq_true, decide_eq_true_eq] at hb
      obtain ⟨⟨h1, h2⟩, h3⟩ := hb
      refine quietT_any hs hQ hw qs l l' a hl hk0 h fun b hk => ?_
      refine ⟨fun h0 => (by rw [h1] at h0; cases h0), fun i hi => ?_⟩
      rw [h1] at hi
      obtain rfl := List.mem_singleton.1 hi
      exact wpOp_mono (fun b' w' hbw => ⟨fun _ => hbw.1, tr_any hs hQ k t _ b' w' hbw.1 (by rw [getD_set_ne true h2]; exact quietT_keep qs l l' hl hk0) h3 hbw.2⟩) hk
    · cases hb
  | .two qs j1 t1 j2 t2, l, a, w, hw, hk0, hb, h => by
    unfold trB at hb
    split at hb
    · next l' hl =>
      simp only [Bool.and_eq_true, decide_eq_true_eq] at hb
      obtain ⟨⟨⟨⟨⟨h1, h2⟩, h2'⟩, hn⟩, h3⟩, h4⟩ := hb
      refine quietT_any hs hQ hw qs l l' a hl hk0 h fun b hk => ?_
      refine ⟨fun h0 => (by rw [h1] at h0; cases h0), fun i hi => ?_⟩
      rw [h1] at hi
      rcases List.mem_cons.1 hi with rfl | hi
      · exact wpOp_mono (fun b' w' hbw => ⟨fun _ => hbw.1, tr_any hs hQ k t1 _ b' w' hbw.1 (by rw [getD_set_ne true h2]; exact quietT_keep qs l l' hl hk0) h3 hbw.2⟩) hk.1
      · obtain rfl := List.mem_singleton.1 hi
        rw [hn]
        exact wpOp_mono (fun b' w' hbw => ⟨fun _ => hbw.1, tr_any hs hQ k t2 _ b' w' hbw.1 (by rw [getD_set_ne true h2']; exact quietT_keep qs l l' hl hk0) h4 hbw.2⟩) hk.2
    · cases hb
theorem tr_one {q : List Nat} {j k : Nat} {t : Tr} {a : Act} {w : World} {os : List Oper} (ho : pickO ops q = os)
    (h : ∀ Kp : Act → Prop, (∀ b, wpOp P ops Q j (fun b' w' => C w' ∧ trP P ops C k Q t b' w') b w → Kp b) → wpQuiet P ops C Kp os a) : trP P ops C k Q (.one q j t) a w := by
  subst ho; exact h _ fun _ h => h
theorem tr_two {q : List Nat} {j1 j2 k : Nat} {t1 t2 : Tr} {a : Act} {w : World} {os : List Oper} (ho : pickO ops q = os)
    (h : ∀ Kp : Act → Prop, (∀ b, wpOp P ops Q j1 (fun b' w' => C w' ∧ trP P ops C k Q t1 b' w') b w → wpOp P ops Q j2 (fun b' w' => C w' ∧ trP P ops C k Q t2 b' w') b w → Kp b) → wpQuiet P ops C Kp os a) : trP P ops C k Q (.two q j1 t1 j2 t2) a w := by
  subst ho; exact h _ fun _ h1 h2 => ⟨h1, h2⟩
theorem tr_last {k : Nat} {qs : List Nat} {a : Act} {w : World} {os : List Oper} (ho : pickO ops qs = os) (h : ∀ Kp : Act → Prop, (∀ b, wpOp P ops Q k (fun b' w' => Q .normal b' w') b w → Kp b) → wpQuiet P ops C Kp os a) : trP P ops C k Q (.last qs) a w := by
  subst ho; exact h _ fun _ h => h
theorem loudr {k j : Nat} {o : Oper} {a : Act} {w : World} {t : Tr} (ho : ops[j]? = some o) (hg : Region.wanted o (yielded ops a.tmps) = true)
    (h : ∀ K : Act → World → Prop, (∀ b w', C w' → trP P ops C k Q t b w' → K b w') → Oper.wp P o a w K Q) : wpOp P ops Q j (fun b' w' => C w' ∧ trP P ops C k Q t b' w') a w := by
  unfold Go.wpOp
  simp only [ho]
  rw [if_pos hg]
  exact .inl (h _ fun b w' h1 h2 => ⟨h1, h2⟩)
end
theorem wp_region_tr {P : Program} {id : Nat} {Q : Exit → Act → World → Prop} {a : Act} {w : World} {l : List Oper} (t : Tr) (k : Nat) (hm : P.follows .mixedOrders = true) (hs : Region.noSelect l.toArray = true)
    (hB : trB .any l.toArray k t (Array.replicate l.toArray.size false) = true) (hN : trN t = l.toArray.size) (hk : k < l.toArray.size) (hQ : ∀ c a d v w, Q (.panic c) (a.put d v) w → Q (.panic c) a w)
    (h : trP P l.toArray (fun w' => ∃ x : BW w, w' = x.w) k Q t a (w.drewN 1)) : (Code.region id l.toArray true).wp P Q a w :=
  wp_region_any hm (any_of_D (C := fun w' => ∃ x : BW w, w' = x.w) (k := k) _ _ _ _ (by
    have := tr_any hs hQ k t _ a _ (C := fun w' => ∃ x : BW w, w' = x.w) ⟨⟨w.drewN 1, below_drewN (Below.refl _ _) 1⟩, rfl⟩ (by simp only [List.size_toArray] at hk; simp [Array.getD, hk]) hB h
    rw [hN] at this
    exact this))
end Go.Proofs.YtncijmodlhijoaaGreat
