/- Layer 17: the reference: labels, parts. -/
import Derived.Test.YtbochlbgjnmgjaaGreatG9
import Derived.Test.YtbochlbgjnmgjaaGreatG13
import Derived.Test.YtbochlbgjnmgjaaGreatG3
import Derived.Test.YtbochlbgjnmgjaaGreatCls
import Derived.Deep.CutRange
set_option maxRecDepth 100000
set_option linter.unusedVariables false
namespace Go.Proofs.YtbochlbgjnmgjaaGreat.Unp
open Go.RowKit Go.Lib Go.Proofs.YtbochlbgjnmgjaaGreat.Nam Go.Proofs.YtbochlbgjnmgjaaGreat.Lat Go.Proofs.YtbochlbgjnmgjaaGreat.Kin Go.Proofs.YtbochlbgjnmgjaaGreat.Dig

set_option maxRecDepth 100000 in
set_option maxHeartbeats 2000000 in
theorem reflabel17_calls (l : List Wr) (v : Value) (w : World) (hr : RdW w v l) (hl : l.length ≤ maxLen) (hz : (lblT l).size ≤ 1000000000) (R : Ending → World → Prop)
    (hR : Hid (∀ w', Below w.heap.size w w' → R (.returned (.string (lblT l))) w')) : Calls Tryz.prog 176 #[v] w R := by
  replace hl : l.length ≤ 9223372036854775807 := hl
  obtain ⟨A, cp, rfl, hlc, hrd⟩ := hr.op
  have hT : ∀ x r, l = x :: r → lblT l = tAt ++ (x.1 ++ sepT tPlus (·.1) 1 r) := fun x r e => by subst e; rfl
  replace hT := Lib.hid hT
  replace hrd := Lib.hid hrd
  go_enter Tryz.func176, Tryz.ntmps176
  go_wp2_with fail
  go_loopg [3, 4] l.length (fun g0 s i wr => ∃ (K : Nat) (c : ByteArray), i = .int .i64 K ∧ s = .string c ∧ K + g0 = l.length ∧ Hid ((K = 0 ∧ c = ByteArray.empty) ∨ (0 < K ∧ lblT l = c ++ sepT tPlus (·.1) K (l.drop K))) ∧ Hid (Below w.heap.size w wr))
  case atStart => exact ⟨0, _, rfl, rfl, by omega, Lib.hid (.inl ⟨rfl, rfl⟩), Lib.hid (Below.refl _ _)⟩
  case round =>
    obtain ⟨K, c, rfl, rfl, c1, hc, nb⟩ := hrel
    by_cases hK : K < l.length
    · obtain ⟨g, o, rfl, hg, hca⟩ := hrd.out (by omega)
      have ca := (nb.out.cell (p := ⟨g, o + K * 2, none⟩) hg).trans (hca K hK).1
      have hd := List.drop_eq_getElem_cons hK
      rw [wN_get hK] at ca
      generalize l[K] = n at *
      obtain ⟨n0, n1⟩ := n
      simp only at ca
      have i0 : (0 : Int) ≤ (K : Int) := by omega
      have i1 : (K : Int) < (l.length : Int) := by omega
      clear hca hg
      by_cases hk : K = 0
      · subst hk
        have hc2 := Lib.hid (show (0 + 1 = 0 ∧ (tAt ++ n0) = ByteArray.empty) ∨ (0 < 0 + 1 ∧ lblT l = tAt ++ n0 ++ sepT tPlus (·.1) (0 + 1) (l.drop (0 + 1))) from .inr ⟨by omega, by rw [hT.out (n0, n1) (l.drop (0 + 1)) hd, ByteArray.append_assoc]⟩)
        have hz2 : n0.size ≤ 1000000000 := by rw [hT.out (n0, n1) (l.drop (0 + 1)) hd, ByteArray.size_append, ByteArray.size_append] at hz; simp only at hz; omega
        simp only [Nat.zero_mul, Nat.add_zero] at ca
        have z0 : tAt.size ≤ 10 := by decide
        clear hd hc
        go_wp2_with fail
        go_roundg (gk - 1)
        case measure => omega
        case rel => exact ⟨0 + 1, tAt ++ n0, by go_num, rfl, by omega, hc2, nb⟩
      · have i2 : ((K : Int) == 0) = false := by simpa using hk
        have hc2 := Lib.hid (show (K + 1 = 0 ∧ (c ++ tPlus ++ n0) = ByteArray.empty) ∨ (0 < K + 1 ∧ lblT l = c ++ tPlus ++ n0 ++ sepT tPlus (·.1) (K + 1) (l.drop (K + 1))) from .inr ⟨by omega, by
          rcases hc.out with ⟨q, -⟩ | ⟨-, q⟩
          · exact absurd q hk
          · rw [q, hd]
            show c ++ ((if K = 0 then n0 else tPlus ++ n0) ++ sepT tPlus (·.1) (K + 1) (l.drop (K + 1))) = _
            rw [if_neg hk]
            simp only [ByteArray.append_assoc]⟩)
        have hz2 : c.size + 1 + n0.size ≤ 1000000000 := by
          rcases hc2.out with ⟨q, -⟩ | ⟨-, q⟩
          · omega
          · rw [q, ByteArray.size_append, ByteArray.size_append, ByteArray.size_append] at hz
            have eP : tPlus.size = 1 := rfl
            omega
        have eP : tPlus.size = 1 := rfl
        have z0 : c.size ≤ 1000000000 := by omega
        have z1 : n0.size ≤ 1000000000 := by omega
        have z2 : (c ++ tPlus).size ≤ 1000000000 := by rw [ByteArray.size_append]; omega
        have z3 : tPlus.size ≤ 10 := by omega
        clear eP
        clear hd hc hk
        go_wp2_with fail
        go_roundg (gk - 1)
        case measure => omega
        case rel => exact ⟨K + 1, c ++ tPlus ++ n0, by go_num, rfl, by omega, hc2, nb⟩
    · obtain rfl : K = l.length := by omega
      have he : lblT l = c := by
        rcases hc.out with ⟨q, e⟩ | ⟨-, q⟩
        · rw [e]; unfold lblT; rw [if_pos (List.length_eq_zero_iff.1 q)]
        · rw [q, sep_end, ByteArray.append_empty]
      rw [he] at hR
      have fin := Lib.hid (hR.out _ nb.out)
      clear hR hc he hT
      go_wp2_with fail
      exact fin.out
set_option maxRecDepth 100000 in
set_option maxHeartbeats 1000000 in
theorem refcomma17_calls (s : ByteArray) (i : Int) (w : World) (hz : s.size ≤ 1000000000) (R : Ending → World → Prop) (hR : Hid (∀ w', Below w.heap.size w w' → R (.returned (.string (if 0 < i then s ++ tComma else s))) w')) : Calls Tryz.prog 44 #[.string s, .int .i64 i] w R := by
  have fin := hR.out _ (Below.refl _ _)
  have z0 : tComma.size ≤ 10 := by decide
  clear hR
  by_cases h : 0 < i
  · rw [if_pos h] at fin
    replace fin := Lib.hid fin
    go_enter Tryz.func44, Tryz.ntmps44
    go_wp2_with fail
    exact fin.out
  · rw [if_neg h] at fin
    replace fin := Lib.hid fin
    go_enter Tryz.func44, Tryz.ntmps44
    go_wp2_with fail
    exact fin.out
theorem wpQuiet_k {P : Program} {ops : Array Oper} {C : World → Prop} {Q : Act → Prop} {a : Act} {l : List Oper} (h : ∀ Kp : Act → Prop, (∀ b, Q b → Kp b) → wpQuiet P ops C Kp l a) : wpQuiet P ops C Q l a := h _ fun _ h => h
/-- The contract of the reference's Type. -/
def TxQ (f : Ft) : Prop := ∀ (t : TH) (nv pv : Value) (w : World), okT t f → GoodH t → f.All GoodH GoodL → f.len ≤ maxLen → RdY w t f nv pv → (txT t f).size ≤ 1000000000 → ∀ R : Ending → World → Prop,
  Hid (∀ w', Below w.heap.size w w' → R (.returned (.string (txT t f))) w') → Calls Tryz.prog 45 #[tyV t nv pv] w R
theorem RdPt.below {W W' : World} {p : PH} {t : TH} {f : Ft} {lv cv nv pv : Value} (h : RdPt W p t f lv cv nv pv) (b : Below W.heap.size W W') : RdPt W' p t f lv cv nv pv := ⟨h.l.kp (Kp.of_below b), h.c.kp (Kp.of_below b), h.y.below b⟩
def ptT (tag : Bool) (p : PH) (t : ByteArray) : ByteArray := if tag then tagT p t else fldT p t
set_option maxRecDepth 100000 in
set_option maxHeartbeats 4000000 in
theorem refpart17_calls (p : PH) (t : TH) (f : Ft) (ih : TxQ f) (K : Int) (tag : Bool) (hK : (tag = false ∧ K = 7) ∨ (tag = true ∧ K = 8)) (pt : PtW K p t f) (lv cv nv pv : Value) (w : World) (rd : RdPt w p t f lv cv nv pv) (hz : (ptT tag p (txT t f)).size ≤ 1000000000) (R : Ending → World → Prop)
    (hR : Hid (∀ w', Below w.heap.size w w' → R (.returned (.string (ptT tag p (txT t f)))) w')) : Calls Tryz.prog 107 #[.agg #[.string p.name, .int .i64 p.at_, .bool p.bare, lv, .int .i64 p.wide, .int .i64 p.ck, .int .i64 p.cn, .int .i64 p.cat, cv, .int .i64 t.kind, .int .i64 t.at_, .int .i64 t.lo, .int .i64 t.hi, .int .i64 t.most, nv, pv, .string t.name, .int .i64 t.nat], .bool tag] w R := by
  obtain ⟨L1, d1, L2, d2, N1, N3, M1, M3, rfl, rfl, rfl, rfl⟩ := rd.op
  have hA := heap_alloc_new w (.cells #[.string p.name, .int .i64 p.at_, .bool p.bare, .slice L1 p.label.length d1, .int .i64 p.wide, .int .i64 p.ck, .int .i64 p.cn, .int .i64 p.cat, .slice L2 p.cl.length d2, .int .i64 t.kind, .int .i64 t.at_, .int .i64 t.lo, .int .i64 t.hi, .int .i64 t.most, .slice N1 t.names.length N3, .slice M1 f.len M3, .string t.name, .int .i64 t.nat] 75)
  have n := (Below.refl w.heap.size w).alloc (Nat.le_refl _) (.cells #[.string p.name, .int .i64 p.at_, .bool p.bare, .slice L1 p.label.length d1, .int .i64 p.wide, .int .i64 p.ck, .int .i64 p.cn, .int .i64 p.cat, .slice L2 p.cl.length d2, .int .i64 t.kind, .int .i64 t.at_, .int .i64 t.lo, .int .i64 t.hi, .int .i64 t.most, .slice N1 t.names.length N3, .slice M1 f.len M3, .string t.name, .int .i64 t.nat] 75)
  replace rd := Lib.hid (rd.below n)
  go_enter Tryz.func107, Tryz.ntmps107
  go_upto_region 1 with fail
  generalize w.alloc (.cells #[.string p.name, .int .i64 p.at_, .bool p.bare, .slice L1 p.label.length d1, .int .i64 p.wide, .int .i64 p.ck, .int .i64 p.cn, .int .i64 p.cat, .slice L2 p.cl.length d2, .int .i64 t.kind, .int .i64 t.at_, .int .i64 t.lo, .int .i64 t.hi, .int .i64 t.most, .slice N1 t.names.length N3, .slice M1 f.len M3, .string t.name, .int .i64 t.nat] 75) = V at *
  generalize w.heap.size = P at hA ⊢
  rcases Bool.eq_false_or_eq_true p.bare with hb | hb
  · have hT : ptT tag p (txT t f) = p.name := by
      have h8 := (pt.oo.2.1 hb).1
      have : tag = true := by
        rcases hK with ⟨-, q⟩ | ⟨q, -⟩
        · omega
        · exact q
      unfold ptT tagT
      rw [this, if_pos rfl, if_pos hb]
    rw [hT] at hR
    clear hT
    have a1 := (Lib.cell_of_heap hA 2).trans rfl
    rw [hb] at a1
    have fin := Lib.hid (hR.out _ n)
    clear hR hb
    have a0 := (Lib.cell_of_heap hA 0).trans rfl
    go_wp2_with fail
    exact fin.out
  · have hT : ptT tag p (txT t f) = (if tag then p.name ++ tLpar ++ txT t f ++ tRpar else p.name ++ tColon ++ txT t f) ++ lblT p.label ++ widT p.wide ++ (coaT p.ck p.cn ++ lblT p.cl) := by
      unfold ptT tagT fldT mrkT
      cases tag
      · simp only [Bool.false_eq_true, if_false, ByteArray.append_assoc]
      · simp only [if_true, hb, Bool.false_eq_true, if_false, ByteArray.append_assoc]
    rw [hT] at hR hz
    clear hT
    have eP : tPlus.size = 1 := rfl
    have eA : tAt.size = 2 := rfl
    have eL : tLpar.size = 1 := rfl
    have eR : tRpar.size = 1 := rfl
    have eC : tColon.size = 2 := rfl
    have eM : tComma.size = 2 := rfl
    have eH : tHash.size = 2 := rfl
    have eF : tFloor.size = 8 := rfl
    have eG : tFirst.size = 8 := rfl
    have eN : tCount.size = 7 := rfl
    (try simp only [ByteArray.size_append] at hz)
    have hzX : p.name.size + (txT t f).size + 2 + (lblT p.label).size + (widT p.wide).size + (coaT p.ck p.cn).size + (lblT p.cl).size ≤ 1000000000 := by cases tag <;> simp only [if_true, Bool.false_eq_true, if_false, ByteArray.size_append] at hz <;> omega
    have a2 := (Lib.cell_of_heap hA 2).trans rfl
    rw [hb] at a2
    have cT := Lib.hid fun R hR => ih t (.slice N1 t.names.length N3) (.slice M1 f.len M3) V (pt.tt hb) pt.gh pt.ga pt.fl rd.out.y (by cases tag <;> simp only [if_true, Bool.false_eq_true, if_false, ByteArray.size_append] at hz <;> omega) R hR
    have hw0 := (pt.oo.2.2 hb).1
    have iw : I64 p.wide := pt.g.2.2.2.1
    have icn : I64 p.cn := pt.g.2.2.2.2.2.1
    have hll : p.label.length ≤ maxLen := pt.g.2.2.2.2.2.2.2.2.1
    have hcl : p.cl.length ≤ maxLen := pt.g.2.2.2.2.2.2.2.2.2
    clear hb hK pt
    have hzL : (lblT p.label).size ≤ 1000000000 := by omega
    have hzC : (lblT p.cl).size ≤ 1000000000 := by omega
    generalize txT t f = X at *
    have a0 := (Lib.cell_of_heap hA 0).trans rfl
    go_upto_if 12 with fail
    clear a2
    have hYs : (if tag then p.name ++ tLpar ++ X ++ tRpar else p.name ++ tColon ++ X).size = p.name.size + X.size + 2 := by cases tag <;> simp only [if_true, Bool.false_eq_true, if_false, ByteArray.size_append] <;> omega
    clear hz
    generalize hY : (if tag then p.name ++ tLpar ++ X ++ tRpar else p.name ++ tColon ++ X) = Y at *
    go_cut [5] from 13 to 25 (fun s5 wx => s5 = .string Y ∧ Below V.heap.size V wx)
    case first =>
      have rT : V.rangeAt P 9 [.int .i64 t.kind, .int .i64 t.at_, .int .i64 t.lo, .int .i64 t.hi, .int .i64 t.most, .slice N1 t.names.length N3, .slice M1 f.len M3, .string t.name, .int .i64 t.nat] := fun j v h => by rw [Lib.cell_of_heap hA, List.getElem?_toArray, ← List.getElem?_drop]; exact h
      cases tag
      · have z0 : (p.name).size ≤ 1000000000 := by (try simp only [ByteArray.size_append]); omega
        have z1 : (p.name ++ tColon).size ≤ 1000000000 := by (try simp only [ByteArray.size_append]); omega
        have z2 : (X).size ≤ 1000000000 := by (try simp only [ByteArray.size_append]); omega
        have z3 : (p.name ++ tColon ++ X).size ≤ 1000000000 := by (try simp only [ByteArray.size_append]); omega
        have z4 : (tColon).size ≤ 1000000000 := by (try simp only [ByteArray.size_append]); omega
        go_wp2_with (refine wpList_load_g (by rfl) 30 _ rfl P 9 rfl [.int .i64 t.kind, .int .i64 t.at_, .int .i64 t.lo, .int .i64 t.hi, .int .i64 t.most, .slice N1 t.names.length N3, .slice M1 f.len M3, .string t.name, .int .i64 t.nat] _ rT Tryz.underlying30 rfl (by kernel_rfl) ?_; go_simp)
        refine cT.out _ (Lib.hid fun w1 m1 => ?_)
        clear a0 rT cT hR
        have hY2 : Y = p.name ++ tColon ++ X := by rw [← hY]; rfl
        clear hY
        go_wp2_with fail
        go_meet
        exact ⟨by rw [hY2], m1⟩
      · have z0 : (p.name).size ≤ 1000000000 := by (try simp only [ByteArray.size_append]); omega
        have z1 : (p.name ++ tLpar).size ≤ 1000000000 := by (try simp only [ByteArray.size_append]); omega
        have z2 : (X).size ≤ 1000000000 := by (try simp only [ByteArray.size_append]); omega
        have z3 : (p.name ++ tLpar ++ X).size ≤ 1000000000 := by (try simp only [ByteArray.size_append]); omega
        have z4 : (tRpar).size ≤ 1000000000 := by (try simp only [ByteArray.size_append]); omega
        go_wp2_with (refine wpList_load_g (by rfl) 30 _ rfl P 9 rfl [.int .i64 t.kind, .int .i64 t.at_, .int .i64 t.lo, .int .i64 t.hi, .int .i64 t.most, .slice N1 t.names.length N3, .slice M1 f.len M3, .string t.name, .int .i64 t.nat] _ rT Tryz.underlying30 rfl (by kernel_rfl) ?_; go_simp)
        refine cT.out _ (Lib.hid fun w1 m1 => ?_)
        clear a0 rT cT hR
        have hY2 : Y = p.name ++ tLpar ++ X ++ tRpar := by rw [← hY]; rfl
        clear hY
        go_wp2_with fail
        go_meet
        exact ⟨by rw [hY2], m1⟩
    case rest =>
      clear cT a0 hY
      obtain ⟨rfl, m1⟩ := hcut
      replace hA := (m1.block _ (blt hA)).trans hA
      replace n := n.trans (m1.mono n.size)
      replace rd := Lib.hid (rd.out.below m1)
      clear m1
      have cL := Lib.hid fun R hR => reflabel17_calls p.label (.slice L1 p.label.length d1) _ rd.out.l hll hzL R hR
      have a3 := (Lib.cell_of_heap hA 3).trans rfl
      go_wp2_with fail
      refine cL.out _ (Lib.hid fun w2 m2 => ?_)
      clear cL a3
      replace hA := (m2.block _ (blt hA)).trans hA
      replace n := n.trans (m2.mono n.size)
      replace rd := Lib.hid (rd.out.below m2)
      clear m2
      generalize lblT p.label = Z at *
      have z0 : (Y).size ≤ 1000000000 := by (try simp only [ByteArray.size_append]); omega
      have z1 : (Z).size ≤ 1000000000 := by (try simp only [ByteArray.size_append]); omega
      have z2 : (Y ++ Z).size ≤ 1000000000 := by (try simp only [ByteArray.size_append]); omega
      have a4 := (Lib.cell_of_heap hA 4).trans rfl
      have cD := Lib.hid fun (W : World) R hR => refput_calls p.wide.natAbs p.wide (Nat.le_refl _) iw.1 iw.2 W R hR
      go_upto_if 33 with fail
      generalize hqw : decide (0 < p.wide) = qw at *
      go_cut [5] from 34 to 39 (fun s5 wx => s5 = .string (Y ++ Z ++ widT p.wide) ∧ Below w2.heap.size w2 wx)
      case first =>
        clear hR
        cases qw
        · have hw : ¬ 0 < p.wide := by simpa using hqw
          clear hqw
          have e : widT p.wide = ByteArray.empty := by unfold widT; rw [if_pos (by omega)]
          have e2 := Lib.hid (show (Value.string (Y ++ Z)) = .string (Y ++ Z ++ widT p.wide) by rw [e, ByteArray.append_empty])
          clear e
          go_wp2_with fail
          go_meet
          exact ⟨e2.out, Below.refl _ _⟩
        · have hw : 0 < p.wide := by simpa using hqw
          clear hqw
          have e : widT p.wide = tHash ++ putS p.wide := by unfold widT; rw [if_neg (by omega)]
          have ps := put_sz iw
          have z5 : (Y ++ Z ++ tHash).size ≤ 1000000000 := by rw [e] at hzX; simp only [ByteArray.size_append] at hzX ⊢; omega
          have e2 := Lib.hid (show (Value.string (Y ++ Z ++ tHash ++ putS p.wide)) = .string (Y ++ Z ++ widT p.wide) by rw [e]; simp only [ByteArray.append_assoc])
          clear e
          go_wp2_with fail
          refine cD.out _ _ (Lib.hid fun w3 m3 => ?_)
          clear a4 cD
          go_wp2_with fail
          go_meet
          exact ⟨e2.out, m3⟩
      case rest =>
        clear cD a4 hqw
        obtain ⟨rfl, m3⟩ := hcut
        replace hA := (m3.block _ (blt hA)).trans hA
        replace n := n.trans (m3.mono n.size)
        replace rd := Lib.hid (rd.out.below m3)
        clear m3
        have hU : (Y ++ Z ++ widT p.wide).size + (coaT p.ck p.cn).size + (lblT p.cl).size ≤ 1000000000 := by simp only [ByteArray.size_append]; omega
        clear z0 z1 z2
        generalize Y ++ Z ++ widT p.wide = U at *
        have cD := Lib.hid fun (W : World) R hR => refput_calls p.cn.natAbs p.cn (Nat.le_refl _) icn.1 icn.2 W R hR
        have cL := Lib.hid fun (W : World) m R hR => reflabel17_calls p.cl (.slice L2 p.cl.length d2) W (rd.out.below m).c hcl hzC R hR
        generalize lblT p.cl = Q at *
        by_cases h1 : p.ck = 1
        · have hk := h1
          clear h1
          have hT : coaT p.ck p.cn = tFloor ++ putS p.cn ++ tRpar := by rw [hk]; rfl
          have q1 : (p.ck == 1) = true := by simpa using hk
          rw [hT] at hR
          have hT0 := hT
          clear hT hk
          rw [hT0] at hU
          simp only [ByteArray.size_append] at hU
          have ps := put_sz icn
          have fin := Lib.hid fun w' m => hR.out w' m
          generalize putS p.cn = N at *
          have s0 : (U).size ≤ 1000000000 := by (try simp only [ByteArray.size_append]); omega
          have s1 : (U ++ tFloor).size ≤ 1000000000 := by (try simp only [ByteArray.size_append]); omega
          have s2 : (U ++ tFloor ++ N).size ≤ 1000000000 := by (try simp only [ByteArray.size_append]); omega
          have s3 : (U ++ tFloor ++ N ++ tRpar).size ≤ 1000000000 := by (try simp only [ByteArray.size_append]); omega
          have s4 : (N).size ≤ 1000000000 := by (try simp only [ByteArray.size_append]); omega
          have s5 : (Q).size ≤ 1000000000 := by (try simp only [ByteArray.size_append]); omega
          have s6 : (tRpar).size ≤ 1000000000 := by (try simp only [ByteArray.size_append]); omega
          have s7 : (tFloor).size ≤ 1000000000 := by (try simp only [ByteArray.size_append]); omega
          clear hT0
          have a5 := (Lib.cell_of_heap hA 5).trans rfl
          have a6 := (Lib.cell_of_heap hA 6).trans rfl
          go_wp2_with fail
          refine cD.out _ _ (Lib.hid fun w4 m4 => ?_)
          clear cD a5 a6
          replace hA := (m4.block _ (blt hA)).trans hA
          have cM := Lib.hid fun R hR => cL.out w4 m4 R hR
          have a5 := (Lib.cell_of_heap hA 5).trans rfl
          have a8 := (Lib.cell_of_heap hA 8).trans rfl
          clear cL
          go_wp2_with fail
          refine cM.out _ (Lib.hid fun w5 m5 => ?_)
          have e := Lib.hid (fin.out _ ((n.trans (m4.mono n.size)).trans (m5.mono (n.trans (m4.mono n.size)).size)))
          clear hR fin cM
          go_wp2_with fail
          have e2 : U ++ tFloor ++ N ++ tRpar ++ Q = U ++ (tFloor ++ N ++ tRpar ++ Q) := by simp only [ByteArray.append_assoc]
          rw [e2]
          exact e.out
        by_cases h2 : p.ck = 2
        · have hk := h2
          clear h1 h2
          have hT : coaT p.ck p.cn = tFirst ++ putS p.cn ++ tRpar := by rw [hk]; rfl
          have q1 : (p.ck == 2) = true := by simpa using hk
          have q0 : (p.ck == 1) = false := by rw [hk]; rfl
          rw [hT] at hR
          have hT0 := hT
          clear hT hk
          rw [hT0] at hU
          simp only [ByteArray.size_append] at hU
          have ps := put_sz icn
          have fin := Lib.hid fun w' m => hR.out w' m
          generalize putS p.cn = N at *
          have s0 : (U).size ≤ 1000000000 := by (try simp only [ByteArray.size_append]); omega
          have s1 : (U ++ tFirst).size ≤ 1000000000 := by (try simp only [ByteArray.size_append]); omega
          have s2 : (U ++ tFirst ++ N).size ≤ 1000000000 := by (try simp only [ByteArray.size_append]); omega
          have s3 : (U ++ tFirst ++ N ++ tRpar).size ≤ 1000000000 := by (try simp only [ByteArray.size_append]); omega
          have s4 : (N).size ≤ 1000000000 := by (try simp only [ByteArray.size_append]); omega
          have s5 : (Q).size ≤ 1000000000 := by (try simp only [ByteArray.size_append]); omega
          have s6 : (tRpar).size ≤ 1000000000 := by (try simp only [ByteArray.size_append]); omega
          have s7 : (tFirst).size ≤ 1000000000 := by (try simp only [ByteArray.size_append]); omega
          clear hT0
          have a5 := (Lib.cell_of_heap hA 5).trans rfl
          have a6 := (Lib.cell_of_heap hA 6).trans rfl
          go_wp2_with fail
          refine cD.out _ _ (Lib.hid fun w4 m4 => ?_)
          clear cD a5 a6
          replace hA := (m4.block _ (blt hA)).trans hA
          have cM := Lib.hid fun R hR => cL.out w4 m4 R hR
          have a5 := (Lib.cell_of_heap hA 5).trans rfl
          have a8 := (Lib.cell_of_heap hA 8).trans rfl
          clear cL
          go_wp2_with fail
          refine cM.out _ (Lib.hid fun w5 m5 => ?_)
          have e := Lib.hid (fin.out _ ((n.trans (m4.mono n.size)).trans (m5.mono (n.trans (m4.mono n.size)).size)))
          clear hR fin cM
          go_wp2_with fail
          have e2 : U ++ tFirst ++ N ++ tRpar ++ Q = U ++ (tFirst ++ N ++ tRpar ++ Q) := by simp only [ByteArray.append_assoc]
          rw [e2]
          exact e.out
        by_cases h3 : p.ck = 3
        · have hk := h3
          clear h1 h2 h3
          have hT : coaT p.ck p.cn = tCount := by rw [hk]; rfl
          have q1 : (p.ck == 3) = true := by simpa using hk
          have q0 : (p.ck == 1) = false := by rw [hk]; rfl
          have q2 : (p.ck == 2) = false := by rw [hk]; rfl
          rw [hT] at hR hU
          clear hT hk
          have s0 : (U).size ≤ 1000000000 := by (try simp only [ByteArray.size_append]); omega
          have s1 : (U ++ tCount).size ≤ 1000000000 := by (try simp only [ByteArray.size_append]); omega
          have s2 : (tCount).size ≤ 1000000000 := by (try simp only [ByteArray.size_append]); omega
          have s3 : (Q).size ≤ 1000000000 := by (try simp only [ByteArray.size_append]); omega
          have cM := Lib.hid fun R hR => cL.out _ (Below.refl _ _) R hR
          have a5 := (Lib.cell_of_heap hA 5).trans rfl
          have a8 := (Lib.cell_of_heap hA 8).trans rfl
          clear cL cD
          go_wp2_with fail
          refine cM.out _ (Lib.hid fun w5 m5 => ?_)
          have e := Lib.hid (hR.out _ (n.trans (m5.mono n.size)))
          clear hR cM
          go_wp2_with fail
          have e2 : U ++ tCount ++ Q = U ++ (tCount ++ Q) := by simp only [ByteArray.append_assoc]
          rw [e2]
          exact e.out
        have hT : coaT p.ck p.cn = ByteArray.empty := by unfold coaT; rw [if_neg h1, if_neg h2, if_neg h3]
        have q1 : (p.ck == 3) = false := by simpa using h3
        have q0 : (p.ck == 1) = false := by simpa using h1
        have q2 : (p.ck == 2) = false := by simpa using h2
        rw [hT] at hR hU
        clear hT h1 h2 h3
        have eE : ByteArray.empty.size = 0 := rfl
        have s0 : (U).size ≤ 1000000000 := by (try simp only [ByteArray.size_append]); omega
        have s1 : (Q).size ≤ 1000000000 := by (try simp only [ByteArray.size_append]); omega
        have cM := Lib.hid fun R hR => cL.out _ (Below.refl _ _) R hR
        have a5 := (Lib.cell_of_heap hA 5).trans rfl
        have a8 := (Lib.cell_of_heap hA 8).trans rfl
        clear cL cD
        go_wp2_with fail
        refine cM.out _ (Lib.hid fun w5 m5 => ?_)
        have e := Lib.hid (hR.out _ (n.trans (m5.mono n.size)))
        clear hR cM
        go_wp2_with fail
        rw [ByteArray.empty_append] at e
        exact e.out
end Go.Proofs.YtbochlbgjnmgjaaGreat.Unp
