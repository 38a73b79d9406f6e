import Derived.Test.YtbochlbgjnmgjaaGreatG2
import Derived.Test.YtbochlbgjnmgjaaGreatCls
import Derived.Test.YtbochlbgjnmgjaaGreatNamA
import Derived.Deep.Cut
import Derived.Test.YtbochlbgjnmgjaaGreatMix
import Derived.Laws.Tables
import Derived.Deep.MidRow
import Derived.BigFrame
/- Layer 15: the reference's words, still, Label. -/
set_option maxRecDepth 100000
set_option linter.unusedVariables false
namespace Go.Proofs.YtbochlbgjnmgjaaGreat.Kin
open Go.RowKit Go.Lib Go.Proofs.YtbochlbgjnmgjaaGreat.Utf Go.Proofs.YtbochlbgjnmgjaaGreat.Nam Go.Proofs.YtbochlbgjnmgjaaGreat.Lat

theorem sq_t {a b : ByteArray} (h : a = b) : (a.toList == b.toList) = true := by rw [h]; simp
theorem sq_f {a b : ByteArray} (h : a ≠ b) : (a.toList == b.toList) = false := by rw [bl_inj, decide_eq_false (fun e => h (bl_ext e))]
theorem nms_tail {a b : List Wr} (h : a.length = b.length) (i : Nat) (hi : i < a.length) : (nms (a.drop i) = nms (b.drop i)) ↔ ((wN a i).1 = (wN b i).1 ∧ nms (a.drop (i + 1)) = nms (b.drop (i + 1))) := by
  have ea : a.drop i = wN a i :: a.drop (i + 1) := by rw [wN_get hi]; exact List.drop_eq_getElem_cons hi
  have eb : b.drop i = wN b i :: b.drop (i + 1) := by rw [wN_get (by omega)]; exact List.drop_eq_getElem_cons (by omega)
  rw [ea, eb]
  simp [nms]
set_option maxRecDepth 100000 in
set_option maxHeartbeats 1000000 in
theorem words15_calls (a b : List Wr) (hm : a.length ≤ maxLen) (va vb : Value) (w : World) (ha : RdW w va a) (hb : RdW w vb b) (R : Ending → World → Prop) (hR : Hid (∀ w', Below w.heap.size w w' → R (.returned (.bool (sameW a b))) w')) : Calls Tryz.prog 38 #[va, vb] w R := by
  replace hm : a.length ≤ 9223372036854775807 := hm
  obtain ⟨A, ca, rfl, hca, hra⟩ := ha.op
  obtain ⟨B, cb, rfl, hcb, hrb⟩ := hb.op
  by_cases hl : a.length = b.length
  · have q1 : ((a.length : Int) != (b.length : Int)) = false := by simp [hl]
    have hs : sameW a b = decide (nms (a.drop 0) = nms (b.drop 0)) := rfl
    replace hra := Lib.hid hra
    replace hrb := Lib.hid hrb
    replace hl := Lib.hid hl
    clear ha hb
    go_enter Tryz.func38, Tryz.ntmps38
    go_wp2_with fail
    go_loopg [5] a.length (fun g i wr => ∃ K : Nat, i = .int .i64 K ∧ K + g = a.length ∧ Hid (Below w.heap.size w wr) ∧ sameW a b = decide (nms (a.drop K) = nms (b.drop K)))
    case atStart => exact ⟨0, rfl, by omega, Lib.hid (Below.refl _ _), hs⟩
    case round =>
      obtain ⟨K, rfl, e1, nb, e2⟩ := hrel
      by_cases hK : K < a.length
      · have hK2 : K < b.length := by have := hl.out; omega
        obtain ⟨ga, oa, rfl, hga, ca⟩ := hra.out (by omega)
        obtain ⟨gb, ob, rfl, hgb, cb⟩ := hrb.out (by omega)
        have x0 := (nb.out.cell (p := ⟨ga, oa + K * 2, none⟩) hga).trans (ca K hK).1
        have y0 := (nb.out.cell (p := ⟨gb, ob + K * 2, none⟩) hgb).trans (cb K hK2).1
        have i0 : (0 : Int) ≤ (K : Int) := by omega
        have i1 : (K : Int) < (a.length : Int) := by omega
        have i2 : (K : Int) < (b.length : Int) := by omega
        have ht := nms_tail hl.out K hK
        clear ca cb
        by_cases hq : (wN a K).1 = (wN b K).1
        · have q2 := sq_t hq
          have e3 : sameW a b = decide (nms (a.drop (K + 1)) = nms (b.drop (K + 1))) := by rw [e2]; exact decide_eq_decide.2 (ht.trans ⟨fun q => q.2, fun q => ⟨hq, q⟩⟩)
          clear hq ht e2
          generalize (wN a K).1 = s at *
          generalize (wN b K).1 = t at *
          go_wp2_with fail
          go_region
          go_wp2_with fail
          go_roundg (gk - 1)
          case measure => omega
          case rel => exact ⟨K + 1, by go_num, by omega, Lib.hid nb.out.drew, e3⟩
        · have q2 := sq_f hq
          have e3 : sameW a b = false := by rw [e2, decide_eq_false_iff_not]; rw [ht]; exact fun q => hq q.1
          have fin := Lib.hid (hR.out _ nb.out.drew)
          rw [e3] at fin
          clear hq ht e2 hR
          generalize (wN a K).1 = s at *
          generalize (wN b K).1 = t at *
          go_wp2_with fail
          go_region
          go_wp2_with fail
          exact fin.out
      · have hK2 : b.length ≤ K := by have := hl.out; omega
        have e3 : sameW a b = true := by rw [e2, List.drop_eq_nil_of_le (by omega), List.drop_eq_nil_of_le hK2]; simp
        have fin := Lib.hid (hR.out _ nb.out)
        rw [e3] at fin
        obtain rfl : K = a.length := by omega
        clear e2 hR
        go_wp2_with fail
        exact fin.out
  · have q1 : ((a.length : Int) != (b.length : Int)) = true := by simp; omega
    have e3 : sameW a b = false := by
      unfold sameW
      rw [decide_eq_false_iff_not]
      intro q
      have := congrArg List.length q
      rw [nms_len, nms_len] at this
      exact hl this
    have fin := Lib.hid (hR.out _ (Below.refl _ _))
    rw [e3] at fin
    clear hl hR ha hb hra hrb
    go_enter Tryz.func38, Tryz.ntmps38
    go_wp2_with fail
    exact fin.out
theorem still_drop {l : List Wr} {i : Nat} (hi : i < l.length) : stillW (l.drop i) = (decide ((wN l i).2 = 0) && stillW (l.drop (i + 1))) := by
  have ea : l.drop i = wN l i :: l.drop (i + 1) := by rw [wN_get hi]; exact List.drop_eq_getElem_cons hi
  rw [ea]
  simp [stillW]
set_option maxRecDepth 100000 in
set_option maxHeartbeats 1000000 in
theorem still15_calls (a : List Wr) (hm : a.length ≤ maxLen) (va : Value) (w : World) (ha : RdW w va a) (R : Ending → World → Prop) (hR : Hid (∀ w', Below w.heap.size w w' → R (.returned (.bool (stillW a))) w')) : Calls Tryz.prog 123 #[va] w R := by
  replace hm : a.length ≤ 9223372036854775807 := hm
  obtain ⟨A, ca, rfl, hca, hra⟩ := ha.op
  have hs : stillW a = stillW (a.drop 0) := rfl
  replace hra := Lib.hid hra
  clear ha
  go_enter Tryz.func123, Tryz.ntmps123
  go_wp2_with fail
  go_loopg [3] a.length (fun g i wr => ∃ K : Nat, i = .int .i64 K ∧ K + g = a.length ∧ Hid (Below w.heap.size w wr) ∧ stillW a = stillW (a.drop K))
  case atStart => exact ⟨0, rfl, by omega, Lib.hid (Below.refl _ _), hs⟩
  case round =>
    obtain ⟨K, rfl, e1, nb, e2⟩ := hrel
    by_cases hK : K < a.length
    · obtain ⟨ga, oa, rfl, hga, ca⟩ := hra.out (by omega)
      have x0 := (nb.out.cell (p := ⟨ga, oa + K * 2 + 1, none⟩) hga).trans (ca K hK).2
      have i0 : (0 : Int) ≤ (K : Int) := by omega
      have i1 : (K : Int) < (a.length : Int) := by omega
      rw [still_drop hK] at e2
      clear ca
      generalize (wN a K).2 = z at *
      by_cases hq : z = 0
      · subst hq
        have e3 : stillW a = stillW (a.drop (K + 1)) := by rw [e2]; simp
        clear e2
        go_wp2_with fail
        go_roundg (gk - 1)
        case measure => omega
        case rel => exact ⟨K + 1, by go_num, by omega, nb, e3⟩
      · have q2 : (z != 0) = true := by simpa using hq
        have e3 : stillW a = false := by rw [e2, decide_eq_false hq]; rfl
        have fin := Lib.hid (hR.out _ nb.out)
        rw [e3] at fin
        clear e2 hR
        go_wp2_with fail
        exact fin.out
    · have e3 : stillW a = true := by rw [e2, List.drop_eq_nil_of_le (by omega)]; rfl
      have fin := Lib.hid (hR.out _ nb.out)
      rw [e3] at fin
      obtain rfl : K = a.length := by omega
      clear e2 hR
      go_wp2_with fail
      exact fin.out
end Go.Proofs.YtbochlbgjnmgjaaGreat.Kin

/- Layer 15: the reference's Plain. -/
set_option maxRecDepth 100000
set_option linter.unusedVariables false
namespace Go.Proofs.YtbochlbgjnmgjaaGreat.Kin
open Go.RowKit Go.Lib Go.Proofs.YtbochlbgjnmgjaaGreat.Utf Go.Proofs.YtbochlbgjnmgjaaGreat.Nam Go.Proofs.YtbochlbgjnmgjaaGreat.Lat

/-- A part as a value. -/
abbrev ptL (p : PH) (lv cv : Value) (h : TH) (nv pv : Value) : List Value := [.string p.name, .int .i64 p.at_, .bool p.bare, lv, .int .i64 p.wide, .int .i64 p.ck, .int .i64 p.cn, .int .i64 p.cat, cv, .int .i64 h.kind, .int .i64 h.at_, .int .i64 h.lo, .int .i64 h.hi, .int .i64 h.most, nv, pv, .string h.name, .int .i64 h.nat]
abbrev ptV (p : PH) (lv cv : Value) (h : TH) (nv pv : Value) : Value := .agg (ptL p lv cv h nv pv).toArray
/-- What Plain reads of a part in a box. -/
structure PB (w : World) (B : Nat) (p : PH) (lv cv : Value) : Prop where
  lt : B < w.heap.size
  k2 : w.cell? ⟨B, 2, none⟩ = some (.bool p.bare)
  k3 : w.cell? ⟨B, 3, none⟩ = some lv
  k4 : w.cell? ⟨B, 4, none⟩ = some (.int .i64 p.wide)
  k5 : w.cell? ⟨B, 5, none⟩ = some (.int .i64 p.ck)
  k6 : w.cell? ⟨B, 6, none⟩ = some (.int .i64 p.cn)
  k8 : w.cell? ⟨B, 8, none⟩ = some cv
theorem PB.new (w : World) (p : PH) (lv cv : Value) (h : TH) (nv pv : Value) (t : TypeId) : PB (w.alloc (.cells #[.string p.name, .int .i64 p.at_, .bool p.bare, lv, .int .i64 p.wide, .int .i64 p.ck, .int .i64 p.cn, .int .i64 p.cat, cv, .int .i64 h.kind, .int .i64 h.at_, .int .i64 h.lo, .int .i64 h.hi, .int .i64 h.most, nv, pv, .string h.name, .int .i64 h.nat] t)) w.heap.size p lv cv := by
  have q := heap_alloc_new w (.cells #[.string p.name, .int .i64 p.at_, .bool p.bare, lv, .int .i64 p.wide, .int .i64 p.ck, .int .i64 p.cn, .int .i64 p.cat, cv, .int .i64 h.kind, .int .i64 h.at_, .int .i64 h.lo, .int .i64 h.hi, .int .i64 h.most, nv, pv, .string h.name, .int .i64 h.nat] t)
  refine ⟨by simp, ?_, ?_, ?_, ?_, ?_, ?_⟩ <;> (rw [Lib.cell_of_heap q]; rfl)
theorem PB.below {w w' : World} {B : Nat} {p : PH} {lv cv : Value} (h : PB w B p lv cv) (hb : Below w.heap.size w w') : PB w' B p lv cv :=
  ⟨Nat.lt_of_lt_of_le h.lt hb.size, (hb.cell (p := ⟨B, 2, none⟩) h.lt).trans h.k2, (hb.cell (p := ⟨B, 3, none⟩) h.lt).trans h.k3, (hb.cell (p := ⟨B, 4, none⟩) h.lt).trans h.k4, (hb.cell (p := ⟨B, 5, none⟩) h.lt).trans h.k5, (hb.cell (p := ⟨B, 6, none⟩) h.lt).trans h.k6, (hb.cell (p := ⟨B, 8, none⟩) h.lt).trans h.k8⟩
set_option maxRecDepth 100000 in
set_option maxHeartbeats 2000000 in
theorem plain15_calls (p q : PH) (lv cv lv' cv' nv pv nv' pv' : Value) (h h' : TH) (w : World) (l1 : p.label.length ≤ maxLen) (l2 : p.cl.length ≤ maxLen) (hl : RdW w lv p.label) (hc : RdW w cv p.cl) (hl' : RdW w lv' q.label) (hc' : RdW w cv' q.cl) (R : Ending → World → Prop)
    (hR : Hid (∀ w', Below w.heap.size w w' → R (.returned (.bool (plainB p q))) w')) : Calls Tryz.prog 39 #[ptV p lv cv h nv pv, ptV q lv' cv' h' nv' pv'] w R := by
  have bA := (Below.refl w.heap.size w).alloc (Nat.le_refl _) (.cells (ptL p lv cv h nv pv).toArray 75)
  have bB := Lib.hid (bA.alloc bA.size (.cells (ptL q lv' cv' h' nv' pv').toArray 75))
  have kA := Lib.hid ((PB.new w p lv cv h nv pv 75).below ((Below.refl _ _).alloc (Nat.le_refl _) (.cells (ptL q lv' cv' h' nv' pv').toArray 75)))
  have kB := Lib.hid (PB.new (w.alloc (.cells (ptL p lv cv h nv pv).toArray 75)) q lv' cv' h' nv' pv' 75)
  have hs1 : (w.alloc (.cells (ptL p lv cv h nv pv).toArray 75)).heap.size = w.heap.size + 1 := by simp
  have cW1 := Lib.hid fun (W : World) (b : Below w.heap.size w W) R hR => words15_calls p.label q.label l1 lv lv' W (hl.below b) (hl'.below b) R hR
  have cW2 := Lib.hid fun (W : World) (b : Below w.heap.size w W) R hR => words15_calls p.cl q.cl l2 cv cv' W (hc.below b) (hc'.below b) R hR
  have hp : plainB p q = ((p.bare == q.bare) && decide (p.wide = q.wide) && sameW p.label q.label && decide (p.ck = q.ck) && decide (p.cn = q.cn) && sameW p.cl q.cl) := rfl
  rw [hp] at hR
  obtain ⟨Al, nl, rfl, -, -⟩ := hl.op
  obtain ⟨Ac, nc, rfl, -, -⟩ := hc.op
  obtain ⟨Al', nl', rfl, -, -⟩ := hl'.op
  obtain ⟨Ac', nc', rfl, -, -⟩ := hc'.op
  clear bA hl hc hl' hc' hp l1 l2
  rw [hs1] at kB
  go_enter Tryz.func39, Tryz.ntmps39
  go_upto_region 1 with fail
  generalize (w.alloc (.cells (ptL p (.slice Al p.label.length nl) (.slice Ac p.cl.length nc) h nv pv).toArray 75)).alloc (.cells (ptL q (.slice Al' q.label.length nl') (.slice Ac' q.cl.length nc') h' nv' pv').toArray 75) = W2 at *
  clear hs1
  obtain ⟨-, a2, a3, a4, a5, a6, a8⟩ := kA.out
  obtain ⟨-, b2, b3, b4, b5, b6, b8⟩ := kB.out
  have nW := bB
  clear bB
  by_cases c0 : p.bare = q.bare
  · have q0 : (p.bare == q.bare) = true := by simpa using c0
    rw [q0] at hR
    simp only [Bool.true_and, Bool.and_true] at hR
    clear c0
    by_cases c1 : p.wide = q.wide
    · have q1 : (p.wide == q.wide) = true := by simpa using c1
      rw [decide_eq_true c1] at hR
      simp only [Bool.true_and, Bool.and_true] at hR
      clear c1
      have cX1 := Lib.hid fun R hR => cW1.out W2 nW.out R hR
      generalize sameW p.label q.label = S1 at *
      go_wp2_with fail
      refine cX1.out _ (Lib.hid fun w3 n3 => ?_)
      replace nW := Lib.hid (nW.out.trans (n3.mono nW.out.size))
      replace a5 := (n3.cell (p := ⟨w.heap.size, 5, none⟩) kA.out.lt).trans a5
      replace b5 := (n3.cell (p := ⟨w.heap.size + 1, 5, none⟩) kB.out.lt).trans b5
      replace a6 := (n3.cell (p := ⟨w.heap.size, 6, none⟩) kA.out.lt).trans a6
      replace b6 := (n3.cell (p := ⟨w.heap.size + 1, 6, none⟩) kB.out.lt).trans b6
      replace a8 := (n3.cell (p := ⟨w.heap.size, 8, none⟩) kA.out.lt).trans a8
      replace b8 := (n3.cell (p := ⟨w.heap.size + 1, 8, none⟩) kB.out.lt).trans b8
      clear n3 cX1
      cases S1
      · try simp only [Bool.false_and, Bool.and_false] at hR
        have fin := Lib.hid (hR.out _ nW.out)
        clear hR nW
        go_wp2_with fail
        exact fin.out
      · try simp only [Bool.true_and, Bool.and_true] at hR
        by_cases c3 : p.ck = q.ck
        · have q3 : (p.ck == q.ck) = true := by simpa using c3
          rw [decide_eq_true c3] at hR
          simp only [Bool.true_and, Bool.and_true] at hR
          clear c3
          by_cases c4 : p.cn = q.cn
          · have q4 : (p.cn == q.cn) = true := by simpa using c4
            rw [decide_eq_true c4] at hR
            simp only [Bool.true_and, Bool.and_true] at hR
            clear c4
            have cX2 := Lib.hid fun R hR => cW2.out w3 nW.out R hR
            generalize sameW p.cl q.cl = S2 at *
            go_wp2_with fail
            refine cX2.out _ (Lib.hid fun w4 n3 => ?_)
            replace nW := Lib.hid (nW.out.trans (n3.mono nW.out.size))
            clear n3 cX2
            cases S2
            · try simp only [Bool.false_and, Bool.and_false] at hR
              have fin := Lib.hid (hR.out _ nW.out)
              clear hR nW
              go_wp2_with fail
              exact fin.out
            · try simp only [Bool.true_and, Bool.and_true] at hR
              have fin := Lib.hid (hR.out _ nW.out)
              clear hR nW
              go_wp2_with fail
              first | exact fin.out | simpa using fin.out
          · have q4 : (p.cn == q.cn) = false := by simpa using c4
            rw [decide_eq_false c4] at hR
            simp only [Bool.false_and, Bool.and_false] at hR
            clear c4
            have fin := Lib.hid (hR.out _ nW.out)
            clear hR nW
            go_wp2_with fail
            exact fin.out
        · have q3 : (p.ck == q.ck) = false := by simpa using c3
          rw [decide_eq_false c3] at hR
          simp only [Bool.false_and, Bool.and_false] at hR
          clear c3
          have fin := Lib.hid (hR.out _ nW.out)
          clear hR nW
          go_wp2_with fail
          exact fin.out
    · have q1 : (p.wide == q.wide) = false := by simpa using c1
      rw [decide_eq_false c1] at hR
      simp only [Bool.false_and, Bool.and_false] at hR
      clear c1
      have fin := Lib.hid (hR.out _ nW.out)
      clear hR nW
      go_wp2_with fail
      exact fin.out
  · have q0 : (p.bare == q.bare) = false := by simpa using c0
    rw [q0] at hR
    simp only [Bool.false_and, Bool.and_false] at hR
    clear c0
    have fin := Lib.hid (hR.out _ nW.out)
    clear hR nW
    go_wp2_with fail
    exact fin.out
end Go.Proofs.YtbochlbgjnmgjaaGreat.Kin

/- A region that draws its order and copies two structs into two boxes of its own ('p, q := a[i], b[j]'): the reads are taken first, then the two boxes and the two stores in any order. -/
set_option maxRecDepth 100000
set_option linter.unusedVariables false
namespace Go.Proofs.YtbochlbgjnmgjaaGreat
open Go.RowKit Go.Lib

abbrev ptA (B : Nat) : Value := .pointer (some ⟨B, 0, none⟩)
/-- A load of a whole struct among the quiet operations, in one step. -/
theorem wpQuiet_load {P : Program} {ops : Array Oper} {C : World → Prop} {Q : Act → Prop} {a : Act} {o : Oper} {rest : List Oper} (hg : o.guard = none) (ty : TypeId) (x : Operand) (ho : o.op = .load ty x) (b off : Nat) (hx : a.eval x = .pointer (some ⟨b, off, none⟩))
    (cs : List Value) (d : TypeDesc) (hc : ∀ w, C w → w.rangeAt b off cs) (hu : P.underlying ty = some d) (hd : d.isRow = true) (hi : (P.info? ty).map (·.size) = some cs.length) (h : wpQuiet P ops C Q rest (a.put o.dst (.agg cs.toArray))) : wpQuiet P ops C Q (o :: rest) a := by
  unfold wpQuiet
  rw [if_pos (by simp [Region.wanted, hg])]
  refine ⟨_, fun w hw => ?_, h⟩
  unfold Oper.quietAt execOp
  simp only [ho, hx, Instr.loadAt, Instr.sureAddr, Sem.run_bind, Sem.run_pure, Result.andThen_ok, run_loadVar_mid w b off ty cs d (hc w hw) hu hd hi]
  simp [Oper.quietUpon]
/-- A load of a whole struct in a region in the text's order, in one step; it may be guarded. -/
theorem wpList_load_g {P : Program} {ops : Array Oper} {rest : List Oper} {op : Oper} {a : Act} {w : World} {Q : Exit → Act → World → Prop} (hw : Region.wanted op (yielded ops a.tmps) = true) (ty : TypeId) (x : Operand) (ho : op.op = .load ty x) (b o : Nat) (hx : a.eval x = .pointer (some ⟨b, o, none⟩))
    (cs : List Value) (d : TypeDesc) (hc : w.rangeAt b o cs) (hu : P.underlying ty = some d) (hd : d.isRow = true) (hi : (P.info? ty).map (·.size) = some cs.length) (h : wpList P ops Q rest (a.put op.dst (.agg cs.toArray)) w) : wpList P ops Q (op :: rest) a w :=
  BigFrame.wpList_want hw fun _ hK => wp_load_mid ty x ho b o hx cs d hc hu hd hi (hK _ _ h)
section
variable {P : Program} {md : Region.Mode} {ops : Array Oper} {Q : Exit → Act → World → Prop} {C : World → Prop}
theorem anyC_fork {f : Nat} {l : Array Bool} {a : Act} {W : World} {ks : List Nat} (hr : (!(Region.ready md ops l).isEmpty && (Region.ready md ops l).all fun i => ks.contains i) = true) (h : ∀ i ∈ ks, wpOp P ops Q i (fun b w' => C w' ∧ anyC P md ops C Q f (l.setIfInBounds i true) b w') a W) : anyC P md ops C Q (f + 1) l a W := by
  rw [Bool.and_eq_true, List.all_eq_true] at hr
  exact ⟨fun e => (by rw [e] at hr; simp at hr), fun i hi => h i (by simpa using hr.2 i hi)⟩
theorem wpOp_run {i : Nat} {o : Oper} {a : Act} {W : World} {K : Act → World → Prop} (e : ops[i]? = some o) (hg : o.guard = none) (h : o.wp P a W K Q) : wpOp P ops Q i K a W := by
  unfold wpOp
  rw [e]
  simp only
  rw [if_pos (by simp [Region.wanted, hg])]
  exact .inl h
theorem wpOp_al {i : Nat} {o : Oper} {d : Tmp} {T : TypeId} {z : Array Value} {a : Act} {W : World} {K : Act → World → Prop} (e : ops[i]? = some o) (hg : o.guard = none) (hd : o.dst = some d)
    (hz : ∀ (ρ : Operand → Value) (W : World), (execOp ρ o).run P W = .ok (.value (ptA W.heap.size)) (W.alloc (.cells z T))) (h : K (a.put (some d) (ptA W.heap.size)) (W.alloc (.cells z T))) : wpOp P ops Q i K a W :=
  wpOp_run e hg (by unfold Oper.wp; rw [hz, Oper.upon_value, hd]; exact h)
theorem wpOp_st {j : Nat} {s : Oper} {x y : Operand} {T : TypeId} {z c : Array Value} {a : Act} {W : World} {K : Act → World → Prop} {B : Nat} (e : ops[j]? = some s) (hg : s.guard = none) (hd : s.dst = none) (ho : s.op = .store T x y)
    (hi : (P.info? T).map (·.size) = some c.size) (hx : a.eval x = ptA B) (hy : a.eval y = .agg c) (hh : W.heap[B]? = some (.cells z T)) (hold : z.size = c.size) (h1 : c.all (·.oneCell') = true) (h : K a (W.setRow B c)) : wpOp P ops Q j K a W :=
  wpOp_run e hg (wp_store_row T x y ho B c hx hy T z hh hi hold h1 (by rw [hd]; exact h))
theorem below_setRow {base B : Nat} {w W : World} {c : Array Value} (hb : base ≤ B) (h : Below base w W) : Below base w (W.setRow B c) :=
  ⟨h.os, h.tape, h.output, by rw [setRow_size]; exact h.size, fun k hk => (setRow_other W B k c (by omega)).trans (h.block k hk)⟩
/-- Behind the reads: what is copied, where it goes; what holds at the end. -/
def TwoK (Q : Exit → Act → World → Prop) (w : World) (T : TypeId) (z : Array Value) (d1 d2 n1 n2 : Tmp) (b : Act) : Prop := ∃ c1 c2 : Array Value,
  (z.size = c1.size ∧ c1.all (·.oneCell') = true) ∧ (z.size = c2.size ∧ c2.all (·.oneCell') = true) ∧
  (∀ p, (b.put (some d1) p).eval (.tmp d1) = p ∧ (b.put (some d1) p).eval (.tmp n1) = .agg c1) ∧ (∀ q, (b.put (some d2) q).eval (.tmp d2) = q ∧ (b.put (some d2) q).eval (.tmp n2) = .agg c2) ∧
  (∀ p q, ((b.put (some d1) p).put (some d2) q).eval (.tmp d1) = p ∧ ((b.put (some d1) p).put (some d2) q).eval (.tmp d2) = q ∧ ((b.put (some d1) p).put (some d2) q).eval (.tmp n1) = .agg c1 ∧ ((b.put (some d1) p).put (some d2) q).eval (.tmp n2) = .agg c2 ∧
    (b.put (some d2) q).put (some d1) p = (b.put (some d1) p).put (some d2) q) ∧
  ∀ B1 B2 V, w.heap.size ≤ B1 → w.heap.size ≤ B2 → B1 ≠ B2 → Below w.heap.size w V → V.heap[B1]? = some (.cells c1 T) → V.heap[B2]? = some (.cells c2 T) → Q .normal ((b.put (some d1) (ptA B1)).put (some d2) (ptA B2)) V
/-- What comes up when, of two boxes and two stores. -/
def twoB (md : Region.Mode) (ops : Array Oper) (l : Array Bool) (i1 i2 j1 j2 : Nat) : Bool :=
  let s := fun (l : Array Bool) (i : Nat) => l.setIfInBounds i true
  let r := fun (l : Array Bool) (ks : List Nat) => !(Region.ready md ops l).isEmpty && (Region.ready md ops l).all fun i => ks.contains i
  let n := fun (l : Array Bool) => decide (Region.ready md ops l = [])
  r l [i1, i2] && r (s l i1) [i2, j1] && r (s l i2) [i1, j2] && r (s (s l i1) i2) [j1, j2] && r (s (s l i2) i1) [j1, j2] && r (s (s l i1) j1) [i2] && r (s (s l i2) j2) [i1] &&
  r (s (s (s l i1) i2) j1) [j2] && r (s (s (s l i1) i2) j2) [j1] && r (s (s (s l i2) i1) j1) [j2] && r (s (s (s l i2) i1) j2) [j1] && r (s (s (s l i1) j1) i2) [j2] && r (s (s (s l i2) j2) i1) [j1] &&
  n (s (s (s (s l i1) i2) j1) j2) && n (s (s (s (s l i1) i2) j2) j1) && n (s (s (s (s l i2) i1) j1) j2) && n (s (s (s (s l i2) i1) j2) j1) && n (s (s (s (s l i1) j1) i2) j2) && n (s (s (s (s l i2) j2) i1) j1)
theorem two_tail {i1 i2 j1 j2 : Nat} {o1 o2 s1 s2 : Oper} {d1 d2 n1 n2 : Tmp} {T : TypeId} {z : Array Value} {l : Array Bool} {b : Act} {w W : World} (hB : twoB md ops l i1 i2 j1 j2 = true)
    (e1 : ops[i1]? = some o1) (e2 : ops[i2]? = some o2) (f1 : ops[j1]? = some s1) (f2 : ops[j2]? = some s2) (p1 : o1.guard = none ∧ o1.dst = some d1) (p2 : o2.guard = none ∧ o2.dst = some d2)
    (q1 : s1.guard = none ∧ s1.dst = none ∧ s1.op = .store T (.tmp d1) (.tmp n1)) (q2 : s2.guard = none ∧ s2.dst = none ∧ s2.op = .store T (.tmp d2) (.tmp n2))
    (z1 : ∀ (ρ : Operand → Value) (W : World), (execOp ρ o1).run P W = .ok (.value (ptA W.heap.size)) (W.alloc (.cells z T))) (z2 : ∀ (ρ : Operand → Value) (W : World), (execOp ρ o2).run P W = .ok (.value (ptA W.heap.size)) (W.alloc (.cells z T)))
    (hi : (P.info? T).map (·.size) = some z.size) (hW : Below w.heap.size w W) (hK : TwoK Q w T z d1 d2 n1 n2 b) : anyC P md ops (fun w' => ∃ x : BW w, w' = x.w) Q 4 l b W := by
  obtain ⟨c1, c2, ⟨k1, k1'⟩, ⟨k2, k2'⟩, h1, h2, h12, fin⟩ := hK
  unfold twoB at hB
  rw [Bool.and_eq_true, Bool.and_eq_true, Bool.and_eq_true, Bool.and_eq_true, Bool.and_eq_true, Bool.and_eq_true, Bool.and_eq_true, Bool.and_eq_true, Bool.and_eq_true, Bool.and_eq_true, Bool.and_eq_true, Bool.and_eq_true, Bool.and_eq_true, Bool.and_eq_true, Bool.and_eq_true, Bool.and_eq_true, Bool.and_eq_true, Bool.and_eq_true] at hB
  obtain ⟨⟨⟨⟨⟨⟨⟨⟨⟨⟨⟨⟨⟨⟨⟨⟨⟨⟨r0, r1⟩, r2⟩, r12⟩, r21⟩, r1j⟩, r2j⟩, ra1⟩, ra2⟩, rb1⟩, rb2⟩, rc⟩, rd⟩, t1⟩, t2⟩, t3⟩, t4⟩, t5⟩, t6⟩ := hB
  have hi1 : (P.info? T).map (·.size) = some c1.size := by rw [hi, k1]
  have hi2 : (P.info? T).map (·.size) = some c2.size := by rw [hi, k2]
  have cin : ∀ V, Below w.heap.size w V → ∃ x : BW w, V = x.w := fun V h => ⟨⟨V, h⟩, rfl⟩
  have sz : ∀ (V : World) (o : Obj), (V.alloc o).heap.size = V.heap.size + 1 := fun V o => by simp
  have lo : ∀ (V : World) (o : Obj) (k : Nat), k < V.heap.size → (V.alloc o).heap[k]? = V.heap[k]? := fun V o k h => ((Below.refl V.heap.size V).alloc (Nat.le_refl _) o).block k h
  have s0 := hW.size
  have bz : ∀ V, Below w.heap.size w V → Below w.heap.size w (V.alloc (.cells z T)) := fun V h => h.alloc h.size _
  have e0 := heap_alloc_new W (.cells z T)
  refine anyC_fork r0 fun i hi' => ?_
  rcases List.mem_cons.1 hi' with rfl | hi'
  · -- the first box first
    refine wpOp_al e1 p1.1 p1.2 z1 ⟨cin _ (bz W hW), ?_⟩
    refine anyC_fork r1 fun i hi' => ?_
    rcases List.mem_cons.1 hi' with rfl | hi'
    · refine wpOp_al e2 p2.1 p2.2 z2 ⟨cin _ (bz _ (bz W hW)), ?_⟩
      have g1 := (lo (W.alloc (.cells z T)) (.cells z T) W.heap.size (by rw [sz]; omega)).trans e0
      have g2 := heap_alloc_new (W.alloc (.cells z T)) (.cells z T)
      rw [sz] at g2 ⊢
      have bb := bz _ (bz W hW)
      generalize (W.alloc (.cells z T)).alloc (.cells z T) = V at *
      refine anyC_fork r12 fun i hi' => ?_
      rcases List.mem_cons.1 hi' with rfl | hi'
      · refine wpOp_st f1 q1.1 q1.2.1 q1.2.2 hi1 (h12 _ _).1 (h12 _ _).2.2.1 g1 k1 k1' ⟨cin _ (below_setRow s0 bb), ?_⟩
        refine anyC_fork ra1 fun i hi' => ?_
        obtain rfl := List.mem_singleton.1 hi'
        refine wpOp_st f2 q2.1 q2.2.1 q2.2.2 hi2 (h12 _ _).2.1 (h12 _ _).2.2.2.1 ((setRow_other V _ _ c1 (by omega)).trans g2) k2 k2' ⟨cin _ (below_setRow (by omega) (below_setRow s0 bb)), of_decide_eq_true t1, ?_⟩
        exact fin _ _ _ s0 (by omega) (by omega) (below_setRow (by omega) (below_setRow s0 bb)) ((setRow_other _ _ _ c2 (by omega)).trans (setRow_heap V _ z c1 T _ g1)) (setRow_heap _ _ z c2 T _ ((setRow_other V _ _ c1 (by omega)).trans g2))
      · obtain rfl := List.mem_singleton.1 hi'
        refine wpOp_st f2 q2.1 q2.2.1 q2.2.2 hi2 (h12 _ _).2.1 (h12 _ _).2.2.2.1 g2 k2 k2' ⟨cin _ (below_setRow (by omega) bb), ?_⟩
        refine anyC_fork ra2 fun i hi' => ?_
        obtain rfl := List.mem_singleton.1 hi'
        refine wpOp_st f1 q1.1 q1.2.1 q1.2.2 hi1 (h12 _ _).1 (h12 _ _).2.2.1 ((setRow_other V _ _ c2 (by omega)).trans g1) k1 k1' ⟨cin _ (below_setRow s0 (below_setRow (by omega) bb)), of_decide_eq_true t2, ?_⟩
        exact fin _ _ _ s0 (by omega) (by omega) (below_setRow s0 (below_setRow (by omega) bb)) (setRow_heap _ _ z c1 T _ ((setRow_other V _ _ c2 (by omega)).trans g1)) ((setRow_other _ _ _ c1 (by omega)).trans (setRow_heap V _ z c2 T _ g2))
    · obtain rfl := List.mem_singleton.1 hi'
      have bb := bz W hW
      have zz := sz W (.cells z T)
      generalize W.alloc (.cells z T) = V at *
      have g1 := setRow_heap V _ z c1 T _ e0
      refine wpOp_st f1 q1.1 q1.2.1 q1.2.2 hi1 (h1 _).1 (h1 _).2 e0 k1 k1' ⟨cin _ (below_setRow s0 bb), ?_⟩
      have bc := below_setRow (c := c1) s0 bb
      have zc : (V.setRow W.heap.size c1).heap.size = W.heap.size + 1 := by rw [setRow_size, zz]
      generalize V.setRow W.heap.size c1 = U at *
      refine anyC_fork r1j fun i hi' => ?_
      obtain rfl := List.mem_singleton.1 hi'
      refine wpOp_al e2 p2.1 p2.2 z2 ⟨cin _ (bz _ bc), ?_⟩
      have g3 := (lo U (.cells z T) W.heap.size (by omega)).trans g1
      have g2 := heap_alloc_new U (.cells z T)
      have bd := bz _ bc
      rw [zc] at g2 ⊢
      generalize U.alloc (.cells z T) = X at *
      refine anyC_fork rc fun i hi' => ?_
      obtain rfl := List.mem_singleton.1 hi'
      refine wpOp_st f2 q2.1 q2.2.1 q2.2.2 hi2 (h12 _ _).2.1 (h12 _ _).2.2.2.1 g2 k2 k2' ⟨cin _ (below_setRow (by omega) bd), of_decide_eq_true t5, ?_⟩
      exact fin _ _ _ s0 (by omega) (by omega) (below_setRow (by omega) bd) ((setRow_other X _ _ c2 (by omega)).trans g3) (setRow_heap X _ z c2 T _ g2)
  · obtain rfl := List.mem_singleton.1 hi'
    refine wpOp_al e2 p2.1 p2.2 z2 ⟨cin _ (bz W hW), ?_⟩
    refine anyC_fork r2 fun i hi' => ?_
    rcases List.mem_cons.1 hi' with rfl | hi'
    · refine wpOp_al e1 p1.1 p1.2 z1 ⟨cin _ (bz _ (bz W hW)), ?_⟩
      rw [(h12 _ _).2.2.2.2]
      have g2 := (lo (W.alloc (.cells z T)) (.cells z T) W.heap.size (by rw [sz]; omega)).trans e0
      have g1 := heap_alloc_new (W.alloc (.cells z T)) (.cells z T)
      rw [sz] at g1 ⊢
      have bb := bz _ (bz W hW)
      generalize (W.alloc (.cells z T)).alloc (.cells z T) = V at *
      refine anyC_fork r21 fun i hi' => ?_
      rcases List.mem_cons.1 hi' with rfl | hi'
      · refine wpOp_st f1 q1.1 q1.2.1 q1.2.2 hi1 (h12 _ _).1 (h12 _ _).2.2.1 g1 k1 k1' ⟨cin _ (below_setRow (by omega) bb), ?_⟩
        refine anyC_fork rb1 fun i hi' => ?_
        obtain rfl := List.mem_singleton.1 hi'
        refine wpOp_st f2 q2.1 q2.2.1 q2.2.2 hi2 (h12 _ _).2.1 (h12 _ _).2.2.2.1 ((setRow_other V _ _ c1 (by omega)).trans g2) k2 k2' ⟨cin _ (below_setRow s0 (below_setRow (by omega) bb)), of_decide_eq_true t3, ?_⟩
        exact fin _ _ _ (by omega) s0 (by omega) (below_setRow s0 (below_setRow (by omega) bb)) ((setRow_other _ _ _ c2 (by omega)).trans (setRow_heap V _ z c1 T _ g1)) (setRow_heap _ _ z c2 T _ ((setRow_other V _ _ c1 (by omega)).trans g2))
      · obtain rfl := List.mem_singleton.1 hi'
        refine wpOp_st f2 q2.1 q2.2.1 q2.2.2 hi2 (h12 _ _).2.1 (h12 _ _).2.2.2.1 g2 k2 k2' ⟨cin _ (below_setRow s0 bb), ?_⟩
        refine anyC_fork rb2 fun i hi' => ?_
        obtain rfl := List.mem_singleton.1 hi'
        refine wpOp_st f1 q1.1 q1.2.1 q1.2.2 hi1 (h12 _ _).1 (h12 _ _).2.2.1 ((setRow_other V _ _ c2 (by omega)).trans g1) k1 k1' ⟨cin _ (below_setRow (by omega) (below_setRow s0 bb)), of_decide_eq_true t4, ?_⟩
        exact fin _ _ _ (by omega) s0 (by omega) (below_setRow (by omega) (below_setRow s0 bb)) (setRow_heap _ _ z c1 T _ ((setRow_other V _ _ c2 (by omega)).trans g1)) ((setRow_other _ _ _ c1 (by omega)).trans (setRow_heap V _ z c2 T _ g2))
    · obtain rfl := List.mem_singleton.1 hi'
      have bb := bz W hW
      have zz := sz W (.cells z T)
      generalize W.alloc (.cells z T) = V at *
      have g2 := setRow_heap V _ z c2 T _ e0
      refine wpOp_st f2 q2.1 q2.2.1 q2.2.2 hi2 (h2 _).1 (h2 _).2 e0 k2 k2' ⟨cin _ (below_setRow s0 bb), ?_⟩
      have bc := below_setRow (c := c2) s0 bb
      have zc : (V.setRow W.heap.size c2).heap.size = W.heap.size + 1 := by rw [setRow_size, zz]
      generalize V.setRow W.heap.size c2 = U at *
      refine anyC_fork r2j fun i hi' => ?_
      obtain rfl := List.mem_singleton.1 hi'
      refine wpOp_al e1 p1.1 p1.2 z1 ⟨cin _ (bz _ bc), ?_⟩
      rw [(h12 _ _).2.2.2.2]
      have g3 := (lo U (.cells z T) W.heap.size (by omega)).trans g2
      have g1 := heap_alloc_new U (.cells z T)
      have bd := bz _ bc
      rw [zc] at g1 ⊢
      generalize U.alloc (.cells z T) = X at *
      refine anyC_fork rd fun i hi' => ?_
      obtain rfl := List.mem_singleton.1 hi'
      refine wpOp_st f1 q1.1 q1.2.1 q1.2.2 hi1 (h12 _ _).1 (h12 _ _).2.2.1 g1 k1 k1' ⟨cin _ (below_setRow (by omega) bd), of_decide_eq_true t6, ?_⟩
      exact fin _ _ _ (by omega) s0 (by omega) (below_setRow (by omega) bd) (setRow_heap X _ z c1 T _ g1) ((setRow_other X _ _ c1 (by omega)).trans g3)
end
theorem setRow_alloc (w : World) (z c : Array Value) (T : TypeId) : (w.alloc (.cells z T)).setRow w.heap.size c = w.alloc (.cells c T) := by
  have e : ((w.alloc (.cells z T)).setRow w.heap.size c).heap = (w.alloc (.cells c T)).heap := by
    refine Array.ext_getElem? fun k => ?_
    by_cases hk : k = w.heap.size
    · subst hk
      rw [setRow_heap _ _ z c T _ (heap_alloc_new w (.cells z T)), heap_alloc_new]
    · rw [setRow_other _ _ _ _ hk]
      show (w.heap.push _)[k]? = (w.heap.push _)[k]?
      rw [Array.getElem?_push, Array.getElem?_push, if_neg hk, if_neg hk]
  unfold World.setRow at e ⊢
  simp only [World.alloc] at e ⊢
  rw [e]
/-- A struct copied into a new box, in two operations of a region in the text's order. -/
theorem wpList_copy {P : Program} {ops : Array Oper} {rest : List Oper} {o s : Oper} {a : Act} {w : World} {Q : Exit → Act → World → Prop} {T : TypeId} {z : Array Value} {d n : Tmp} (c : Array Value) (p1 : o.guard = none ∧ o.dst = some d ∧ o.op = .alloc T) (q1 : s.guard = none ∧ s.dst = none ∧ s.op = .store T (.tmp d) (.tmp n))
    (hz : ∀ (ρ : Operand → Value) (W : World) (o : Oper), o.op = .alloc T → (execOp ρ o).run P W = .ok (.value (ptA W.heap.size)) (W.alloc (.cells z T))) (hi : (P.info? T).map (·.size) = some z.size) (hs : z.size = c.size ∧ c.all (·.oneCell') = true)
    (he : ∀ p, (a.put (some d) p).eval (.tmp d) = p ∧ (a.put (some d) p).eval (.tmp n) = .agg c) (h : wpList P ops Q rest (a.put (some d) (ptA w.heap.size)) (w.alloc (.cells c T))) : wpList P ops Q (o :: s :: rest) a w := by
  refine wpList_plain p1.1 fun K hK => ?_
  unfold Oper.wp
  rw [hz _ _ _ p1.2.2, Oper.upon_value, p1.2.1]
  refine hK _ _ ?_
  refine wpList_store_row q1.1 T _ _ q1.2.2 w.heap.size c (he _).1 (he _).2 T z (heap_alloc_new w _) (by rw [hi, hs.1]) hs.1 hs.2 ?_
  rw [q1.2.1, setRow_alloc]
  exact h
def twoAll (md : Region.Mode) (ops : Array Oper) (qs : List Nat) (i1 i2 j1 j2 : Nat) : Bool := match quietB md ops qs (Array.replicate ops.size false) with
  | some l => decide (qs.length + 4 = ops.size) && twoB md ops l i1 i2 j1 j2
  | none => false
theorem wp_region_two {P : Program} {id : Nat} {Q : Exit → Act → World → Prop} {a : Act} {w : World} {l os : List Oper} (qs : List Nat) (i1 i2 j1 j2 : Nat) {o1 o2 s1 s2 : Oper} {d1 d2 n1 n2 : Tmp} {T : TypeId} {z : Array Value} (hm : P.follows .mixedOrders = true) (hs : Region.noSelect l.toArray = true)
    (hB : twoAll .any l.toArray qs i1 i2 j1 j2 = true) (hQ : ∀ c a d v w, Q (.panic c) (a.put d v) w → Q (.panic c) a w)
    (e1 : l.toArray[i1]? = some o1) (e2 : l.toArray[i2]? = some o2) (f1 : l.toArray[j1]? = some s1) (f2 : l.toArray[j2]? = some s2) (p1 : o1.guard = none ∧ o1.dst = some d1 ∧ o1.op = .alloc T) (p2 : o2.guard = none ∧ o2.dst = some d2 ∧ o2.op = .alloc T)
    (q1 : s1.guard = none ∧ s1.dst = none ∧ s1.op = .store T (.tmp d1) (.tmp n1)) (q2 : s2.guard = none ∧ s2.dst = none ∧ s2.op = .store T (.tmp d2) (.tmp n2))
    (hz : ∀ (ρ : Operand → Value) (W : World) (o : Oper), o.op = .alloc T → (execOp ρ o).run P W = .ok (.value (ptA W.heap.size)) (W.alloc (.cells z T)))
    (hi : (P.info? T).map (·.size) = some z.size) (ho : pickO l.toArray qs = os) (h : ∀ Kp : Act → Prop, (∀ b, TwoK Q w T z d1 d2 n1 n2 b → Kp b) → wpQuiet P l.toArray (fun w' => ∃ x : BW w, w' = x.w) Kp os a) : (Code.region id l.toArray true).wp P Q a w := by
  unfold twoAll at hB
  split at hB
  · next l' hl =>
    rw [Bool.and_eq_true, decide_eq_true_iff] at hB
    have bD : Below w.heap.size w (w.drewN 1) := below_drewN (Below.refl _ _) 1
    subst ho
    have := quiet_any (C := fun w' => ∃ x : BW w, w' = x.w) (f := 4) hs hQ ⟨⟨w.drewN 1, bD⟩, rfl⟩ qs _ l' a hl (h _ fun _ h => h) fun b hb => two_tail hB.2 e1 e2 f1 f2 ⟨p1.1, p1.2.1⟩ ⟨p2.1, p2.2.1⟩ q1 q2 (fun ρ W => hz ρ W o1 p1.2.2) (fun ρ W => hz ρ W o2 p2.2.2) hi bD hb
    rw [hB.1] at this
    exact wp_region_any hm (any_of_C (C := fun w' => ∃ x : BW w, w' = x.w) _ _ _ _ this)
  · cases hB
end Go.Proofs.YtbochlbgjnmgjaaGreat

/- Layer 15: the reference's Same. -/
set_option maxRecDepth 100000
set_option linter.unusedVariables false
namespace Go.Proofs.YtbochlbgjnmgjaaGreat.Kin
open Go.RowKit Go.Lib Go.Proofs.YtbochlbgjnmgjaaGreat.Utf Go.Proofs.YtbochlbgjnmgjaaGreat.Nam Go.Proofs.YtbochlbgjnmgjaaGreat.Lat

abbrev tyL (h : TH) (nv pv : Value) : List Value := [.int .i64 h.kind, .int .i64 h.at_, .int .i64 h.lo, .int .i64 h.hi, .int .i64 h.most, nv, pv, .string h.name, .int .i64 h.nat]
/-- A type in a box. -/
structure TB (w : World) (B : Nat) (h : TH) (nv pv : Value) : Prop where
  lt : B < w.heap.size
  k0 : w.cell? ⟨B, 0, none⟩ = some (.int .i64 h.kind)
  k1 : w.cell? ⟨B, 1, none⟩ = some (.int .i64 h.at_)
  k2 : w.cell? ⟨B, 2, none⟩ = some (.int .i64 h.lo)
  k3 : w.cell? ⟨B, 3, none⟩ = some (.int .i64 h.hi)
  k4 : w.cell? ⟨B, 4, none⟩ = some (.int .i64 h.most)
  k5 : w.cell? ⟨B, 5, none⟩ = some nv
  k6 : w.cell? ⟨B, 6, none⟩ = some pv
  k7 : w.cell? ⟨B, 7, none⟩ = some (.string h.name)
  k8 : w.cell? ⟨B, 8, none⟩ = some (.int .i64 h.nat)
theorem TB.new (w : World) (h : TH) (nv pv : Value) (t : TypeId) : TB (w.alloc (.cells (tyL h nv pv).toArray t)) w.heap.size h nv pv := by
  have q := heap_alloc_new w (.cells (tyL h nv pv).toArray t)
  refine ⟨by simp, ?_, ?_, ?_, ?_, ?_, ?_, ?_, ?_, ?_⟩ <;> (rw [Lib.cell_of_heap q]; rfl)
theorem TB.below {w w' : World} {B : Nat} {h : TH} {nv pv : Value} (q : TB w B h nv pv) (hb : Below w.heap.size w w') : TB w' B h nv pv := by
  have k := fun j => hb.cell (p := ⟨B, j, none⟩) q.lt
  exact ⟨Nat.lt_of_lt_of_le q.lt hb.size, (k 0).trans q.k0, (k 1).trans q.k1, (k 2).trans q.k2, (k 3).trans q.k3, (k 4).trans q.k4, (k 5).trans q.k5, (k 6).trans q.k6, (k 7).trans q.k7, (k 8).trans q.k8⟩
theorem all_at {GH : TH → Prop} {GL : PH → Prop} : ∀ (n : Nat) {f : Ft} {p : PH} {x : TH} {k r : Ft}, f.All GH GL → f.drop n = .cons p x k r → GL p ∧ GH x ∧ k.len ≤ maxLen ∧ k.All GH GL
  | 0, f, p, x, k, r, a, e => by
    have e' : f = .cons p x k r := e
    rw [e'] at a
    exact ⟨a.1, a.2.1, a.2.2.1, a.2.2.2.1⟩
  | n + 1, .nil, p, x, k, r, a, e => by simp [Fo.drop] at e
  | n + 1, .cons _ _ _ f, p, x, k, r, a, e => all_at n (f := f) a.2.2.2.2 e
theorem sameF_len : ∀ {f g : Ft}, sameF f g = true → f.len = g.len
  | .nil, .nil, _ => rfl
  | .cons .., .cons .., h => by
    unfold sameF at h
    rw [Bool.and_eq_true] at h
    simp [Fo.len, sameF_len h.2]
  | .nil, .cons .., h => by simp [sameF] at h
  | .cons .., .nil, h => by simp [sameF] at h
theorem part_alloc (ρ : Operand → Value) (W : World) (o : Oper) (h : o.op = .alloc 75) : (execOp ρ o).run Tryz.prog W = .ok (.value (ptA W.heap.size)) (W.alloc (.cells #[.string ⟨#[]⟩, .int .i64 0, .bool false, .slice none 0 0, .int .i64 0, .int .i64 0, .int .i64 0, .int .i64 0, .slice none 0 0, .int .i64 0, .int .i64 0, .int .i64 0, .int .i64 0, .int .i64 0, .slice none 0 0, .slice none 0 0, .string ⟨#[]⟩, .int .i64 0] 75)) := by
  simp [execOp, h, go_sem, ptA]
/-- The contract of Same at a tree of these parts. -/
def SameQ (f : Ft) : Prop := ∀ (h h' : TH) (g : Ft) (nv pv nv' pv' : Value) (w : World), h.names.length ≤ maxLen → f.len ≤ maxLen → f.All GoodH GoodL → RdY w h f nv pv → RdY w h' g nv' pv' → ∀ R : Ending → World → Prop,
  Hid (∀ w', Below w.heap.size w w' → R (.returned (.bool (sameS h f h' g))) w') → Calls Tryz.prog 16 #[tyV h nv pv, tyV h' nv' pv'] w R
set_option maxRecDepth 100000 in
set_option maxHeartbeats 4000000 in
theorem same15_step (f : Ft) (ih : Fo.AllK SameQ f) : SameQ f := by
  intro h h' g nv pv nv' pv' w hm hfl hga hy hy' R hR
  replace hfl : f.len ≤ 9223372036854775807 := hfl
  have bA := (Below.refl w.heap.size w).alloc (Nat.le_refl _) (.cells (tyL h nv pv).toArray 30)
  have bB := Lib.hid (bA.alloc bA.size (.cells (tyL h' nv' pv').toArray 30))
  have kA := Lib.hid ((TB.new w h nv pv 30).below ((Below.refl _ _).alloc (Nat.le_refl _) (.cells (tyL h' nv' pv').toArray 30)))
  have kB := TB.new (w.alloc (.cells (tyL h nv pv).toArray 30)) h' nv' pv' 30
  have hs1 : (w.alloc (.cells (tyL h nv pv).toArray 30)).heap.size = w.heap.size + 1 := by simp
  rw [hs1] at kB
  replace kB := Lib.hid kB
  have cW1 := Lib.hid fun (W : World) (b : Below w.heap.size w W) R hR => words15_calls h.names h'.names hm nv nv' W (hy.n.below b) (hy'.n.below b) R hR
  have hp : sameS h f h' g = ((decide (h.kind = h'.kind) && decide (h.lo = h'.lo) && decide (h.hi = h'.hi) && decide (h.most = h'.most) && decide (h.name = h'.name) && sameW h.names h'.names) && sameF f g) := rfl
  rw [hp] at hR
  obtain ⟨An, cn, rfl, -, -⟩ := hy.n.op
  obtain ⟨An', cn', rfl, -, -⟩ := hy'.n.op
  obtain ⟨Ap, cp, rfl, hpl⟩ := hy.p.sl
  obtain ⟨Ap', cp', rfl, hpl'⟩ := hy'.p.sl
  replace hy := Lib.hid hy
  replace hy' := Lib.hid hy'
  replace hga := Lib.hid hga
  replace ih := Lib.hid ih
  clear bA hp hm
  go_enter Tryz.func16, Tryz.ntmps16
  go_upto_region 1 with fail
  generalize (w.alloc (.cells (tyL h (.slice An h.names.length cn) (.slice Ap f.len cp)).toArray 30)).alloc (.cells (tyL h' (.slice An' h'.names.length cn') (.slice Ap' g.len cp')).toArray 30) = W2 at *
  clear hs1
  obtain ⟨-, a0, -, a2, a3, a4, a5, a6, a7, -⟩ := kA.out
  obtain ⟨-, b0, -, b2, b3, b4, b5, b6, b7, -⟩ := kB.out
  have nW := bB
  clear bB
  by_cases c0 : h.kind = h'.kind
  · have q0 : (h.kind != h'.kind) = false := by simpa using c0
    rw [decide_eq_true c0] at hR
    simp only [Bool.true_and, Bool.and_true] at hR
    clear c0
    by_cases c1 : h.lo = h'.lo
    · have q1 : (h.lo != h'.lo) = false := by simpa using c1
      rw [decide_eq_true c1] at hR
      simp only [Bool.true_and, Bool.and_true] at hR
      clear c1
      by_cases c2 : h.hi = h'.hi
      · have q2 : (h.hi != h'.hi) = false := by simpa using c2
        rw [decide_eq_true c2] at hR
        simp only [Bool.true_and, Bool.and_true] at hR
        clear c2
        by_cases c3 : h.most = h'.most
        · have q3 : (h.most != h'.most) = false := by simpa using c3
          rw [decide_eq_true c3] at hR
          simp only [Bool.true_and, Bool.and_true] at hR
          clear c3
          by_cases c4 : h.name = h'.name
          · have q4 := sq_t c4
            rw [decide_eq_true c4] at hR
            simp only [Bool.true_and, Bool.and_true] at hR
            clear c4
            have cX1 := Lib.hid fun R hR => cW1.out W2 nW.out R hR
            generalize sameW h.names h'.names = S1 at *
            go_wp2_with fail
            refine cX1.out _ (Lib.hid fun w3 n3 => ?_)
            replace nW := Lib.hid (nW.out.trans (n3.mono nW.out.size))
            have kA3 := kA.out.below n3
            have kB3 := kB.out.below n3
            clear n3 cX1 a0 a2 a3 a4 a5 a6 a7 b0 b2 b3 b4 b5 b6 b7 kA kB cW1
            have a6 := kA3.k6
            have b6 := kB3.k6
            replace kA3 := Lib.hid kA3
            replace kB3 := Lib.hid kB3
            cases S1
            · simp only [Bool.false_and, Bool.and_false] at hR
              have fin := Lib.hid (hR.out _ nW.out)
              clear hR nW
              go_wp2_with fail
              exact fin.out
            · simp only [Bool.true_and, Bool.and_true] at hR
              by_cases c6 : f.len = g.len
              · have q6 : ((f.len : Int) != (g.len : Int)) = false := by simp [c6]
                replace c6 := Lib.hid c6
                go_wp2_with fail
                go_loopg [5] f.len (fun g0 i wr => ∃ K : Nat, i = .int .i64 K ∧ K + g0 = f.len ∧ Hid (Below w.heap.size w wr) ∧ Hid (TB wr w.heap.size h (.slice An h.names.length cn) (.slice Ap f.len cp)) ∧ Hid (TB wr (w.heap.size + 1) h' (.slice An' h'.names.length cn') (.slice Ap' g.len cp')) ∧ sameF f g = sameF (f.drop K) (g.drop K))
                case atStart => exact ⟨0, rfl, by omega, nW, kA3, kB3, rfl⟩
                case round =>
                  clear nW kA3 kB3 a6 b6
                  obtain ⟨K, rfl, e1, nW, kA, kB, e2⟩ := hrel
                  have a6 := kA.out.k6
                  have b6 := kB.out.k6
                  by_cases hK : K < f.len
                  · have hK' : K < g.len := by have := c6.out; omega
                    obtain ⟨p, x, kd, r, e⟩ := Fo.drop_lt hK
                    obtain ⟨q, y, ls, s, e'⟩ := Fo.drop_lt hK'
                    obtain ⟨ga, oa, lv, cv, nx, px, rfl, hga', hlv, hcv, hyx, hc⟩ := (hy.out.below nW.out).p.part e
                    obtain ⟨gb, ob, lv', cv', ny, py, rfl, hgb', hlv', hcv', hyy, hc'⟩ := (hy'.out.below nW.out).p.part e'
                    obtain ⟨A1, n1, rfl, -, -⟩ := hlv.op
                    obtain ⟨A2, n2, rfl, -, -⟩ := hcv.op
                    obtain ⟨A3, n3, rfl, -, -⟩ := hlv'.op
                    obtain ⟨A4, n4, rfl, -, -⟩ := hcv'.op
                    obtain ⟨A5, n5, rfl, -, -⟩ := hyx.n.op
                    obtain ⟨A6, n6, rfl, -, -⟩ := hyy.n.op
                    obtain ⟨A7, n7, rfl, hk7⟩ := hyx.p.sl
                    obtain ⟨A8, n8, rfl, hk8⟩ := hyy.p.sl
                    have i0 : (0 : Int) ≤ (K : Int) := by omega
                    have i1 : (K : Int) < (f.len : Int) := by omega
                    have i2 : (K : Int) < (g.len : Int) := by omega
                    have ltA := kA.out.lt
                    have ltB := kB.out.lt
                    go_wp2_with fail
                    replace a6 := fun u : BW wr => u.cell ltA a6
                    replace b6 := fun u : BW wr => u.cell ltB b6
                    refine wp_region_two (os := [_, _, _, _, _, _, _, _, _, _]) [0, 1, 2, 3, 4, 5, 6, 7, 8, 9] 10 11 12 13 (T := 75) (z := #[.string ⟨#[]⟩, .int .i64 0, .bool false, .slice none 0 0, .int .i64 0, .int .i64 0, .int .i64 0, .int .i64 0, .slice none 0 0, .int .i64 0, .int .i64 0, .int .i64 0, .int .i64 0, .int .i64 0, .slice none 0 0, .slice none 0 0, .string ⟨#[]⟩, .int .i64 0]) (by kernel_rfl) (by kernel_rfl) (by kernel_rfl) (fun _ _ d _ _ h => by cases d <;> exact h) rfl rfl rfl rfl ⟨rfl, rfl, rfl⟩ ⟨rfl, rfl, rfl⟩ ⟨rfl, rfl, rfl⟩ ⟨rfl, rfl, rfl⟩ part_alloc (by kernel_rfl) (by simp only [pickO, List.filterMap_cons, List.filterMap_nil, List.getElem?_toArray, List.getElem?_cons_succ, List.getElem?_cons_zero]; rfl) (fun Kp hKp => ?_)
                    iterate 4 (go_big_quiet_step (exact rfl))
                    refine wpQuiet_load rfl _ _ rfl ga (oa + K * 18) rfl #[.string p.name, .int .i64 p.at_, .bool p.bare, .slice A1 p.label.length n1, .int .i64 p.wide, .int .i64 p.ck, .int .i64 p.cn, .int .i64 p.cat, .slice A2 p.cl.length n2, .int .i64 x.kind, .int .i64 x.at_, .int .i64 x.lo, .int .i64 x.hi, .int .i64 x.most, .slice A5 x.names.length n5, .slice A7 kd.len n7, .string x.name, .int .i64 x.nat].toList _ (fun _ ⟨u, e⟩ => by subst e; exact fun j v h => u.cell hga' (hc j v h)) Tryz.underlying75 rfl (by kernel_rfl) ?_
                    go_simp
                    iterate 4 (go_big_quiet_step (exact rfl))
                    refine wpQuiet_load rfl _ _ rfl gb (ob + K * 18) rfl #[.string q.name, .int .i64 q.at_, .bool q.bare, .slice A3 q.label.length n3, .int .i64 q.wide, .int .i64 q.ck, .int .i64 q.cn, .int .i64 q.cat, .slice A4 q.cl.length n4, .int .i64 y.kind, .int .i64 y.at_, .int .i64 y.lo, .int .i64 y.hi, .int .i64 y.most, .slice A6 y.names.length n6, .slice A8 ls.len n8, .string y.name, .int .i64 y.nat].toList _ (fun _ ⟨u, e⟩ => by subst e; exact fun j v h => u.cell hgb' (hc' j v h)) Tryz.underlying75 rfl (by kernel_rfl) ?_
                    go_simp
                    refine wpQuiet_nil ?_
                    refine hKp _ ?_
                    clear hKp
                    refine ⟨#[.string p.name, .int .i64 p.at_, .bool p.bare, .slice A1 p.label.length n1, .int .i64 p.wide, .int .i64 p.ck, .int .i64 p.cn, .int .i64 p.cat, .slice A2 p.cl.length n2, .int .i64 x.kind, .int .i64 x.at_, .int .i64 x.lo, .int .i64 x.hi, .int .i64 x.most, .slice A5 x.names.length n5, .slice A7 kd.len n7, .string x.name, .int .i64 x.nat], #[.string q.name, .int .i64 q.at_, .bool q.bare, .slice A3 q.label.length n3, .int .i64 q.wide, .int .i64 q.ck, .int .i64 q.cn, .int .i64 q.cat, .slice A4 q.cl.length n4, .int .i64 y.kind, .int .i64 y.at_, .int .i64 y.lo, .int .i64 y.hi, .int .i64 y.most, .slice A6 y.names.length n6, .slice A8 ls.len n8, .string y.name, .int .i64 y.nat], ⟨rfl, by simp [Value.oneCell']⟩, ⟨rfl, by simp [Value.oneCell']⟩, fun _ => ⟨rfl, rfl⟩, fun _ => ⟨rfl, rfl⟩, fun _ _ => ⟨rfl, rfl, rfl, rfl, rfl⟩, fun B6 B7 V h6 h7 hne bV g6 g7 => ?_⟩
                    have l6 := (Array.getElem?_eq_some_iff.1 g6).1
                    have l7 := (Array.getElem?_eq_some_iff.1 g7).1
                    have u0 := (Lib.cell_of_heap g6 0).trans rfl
                    have v0 := (Lib.cell_of_heap g7 0).trans rfl
                    have r6 : V.rangeAt B6 0 #[.string p.name, .int .i64 p.at_, .bool p.bare, .slice A1 p.label.length n1, .int .i64 p.wide, .int .i64 p.ck, .int .i64 p.cn, .int .i64 p.cat, .slice A2 p.cl.length n2, .int .i64 x.kind, .int .i64 x.at_, .int .i64 x.lo, .int .i64 x.hi, .int .i64 x.most, .slice A5 x.names.length n5, .slice A7 kd.len n7, .string x.name, .int .i64 x.nat].toList := fun j v h => by rw [Nat.zero_add, Lib.cell_of_heap g6]; simpa using h
                    have r7 : V.rangeAt B7 0 #[.string q.name, .int .i64 q.at_, .bool q.bare, .slice A3 q.label.length n3, .int .i64 q.wide, .int .i64 q.ck, .int .i64 q.cn, .int .i64 q.cat, .slice A4 q.cl.length n4, .int .i64 y.kind, .int .i64 y.at_, .int .i64 y.lo, .int .i64 y.hi, .int .i64 y.most, .slice A6 y.names.length n6, .slice A8 ls.len n8, .string y.name, .int .i64 y.nat].toList := fun j v h => by rw [Nat.zero_add, Lib.cell_of_heap g7]; simpa using h
                    have nV := Lib.hid (nW.out.trans (bV.mono nW.out.size))
                    have kA' := Lib.hid (kA.out.below bV)
                    have kB' := Lib.hid (kB.out.below bV)
                    have hyx' := Lib.hid (hyx.below bV)
                    have hyy' := Lib.hid (hyy.below bV)
                    have hlv2 := Lib.hid (hlv.below bV)
                    have hcv2 := Lib.hid (hcv.below bV)
                    have hlw2 := Lib.hid (hlv'.below bV)
                    have hcw2 := Lib.hid (hcv'.below bV)
                    obtain ⟨gp, gx, gk', ga2⟩ := all_at K hga.out e
                    have ihK := Lib.hid ((ih.out).at_ e)
                    rw [e, e'] at e2
                    have d1 := Fo.drop_succ K e
                    have d2 := Fo.drop_succ K e'
                    clear hc hc' a6 b6 kA kB hyx hyy hlv hcv hlv' hcv' bV g6 g7 e e' h6 h7 hne nW
                    have e3 : sameF f g = ((decide (p.name = q.name) && plainB p q && sameS x kd y ls) && sameF r s) := e2
                    clear e2
                    have no : sameF f g = false → ∀ W, Below w.heap.size w W → Hid (R (.returned (.bool false)) W) := fun h W b => by
                      have := hR.out W b
                      rw [h] at this
                      exact Lib.hid this
                    by_cases c7 : p.name = q.name
                    · have q7 := sq_t c7
                      rw [decide_eq_true c7, Bool.true_and] at e3
                      clear c7
                      go_wp2_with (first | (refine wpList_load_g (by rfl) _ _ rfl B6 0 rfl #[.string p.name, .int .i64 p.at_, .bool p.bare, .slice A1 p.label.length n1, .int .i64 p.wide, .int .i64 p.ck, .int .i64 p.cn, .int .i64 p.cat, .slice A2 p.cl.length n2, .int .i64 x.kind, .int .i64 x.at_, .int .i64 x.lo, .int .i64 x.hi, .int .i64 x.most, .slice A5 x.names.length n5, .slice A7 kd.len n7, .string x.name, .int .i64 x.nat].toList _ r6 Tryz.underlying75 rfl (by kernel_rfl) ?_; go_simp) | (refine wpList_load_g (by rfl) _ _ rfl B7 0 rfl #[.string q.name, .int .i64 q.at_, .bool q.bare, .slice A3 q.label.length n3, .int .i64 q.wide, .int .i64 q.ck, .int .i64 q.cn, .int .i64 q.cat, .slice A4 q.cl.length n4, .int .i64 y.kind, .int .i64 y.at_, .int .i64 y.lo, .int .i64 y.hi, .int .i64 y.most, .slice A6 y.names.length n6, .slice A8 ls.len n8, .string y.name, .int .i64 y.nat].toList _ r7 Tryz.underlying75 rfl (by kernel_rfl) ?_; go_simp))
                      refine plain15_calls p q _ _ _ _ _ _ _ _ x y V gp.2.2.2.2.2.2.2.2.1 gp.2.2.2.2.2.2.2.2.2 hlv2.out hcv2.out hlw2.out hcw2.out _ (Lib.hid fun w4 n4 => ?_)
                      have nX := Lib.hid (nV.out.trans (n4.mono nV.out.size))
                      cases hS : plainB p q
                      · rw [hS] at e3
                        have fin := no (by rw [e3]; rfl) _ nX.out
                        clear no hR e3 hS n4
                        go_wp2_with fail
                        exact fin.out
                      · rw [hS, Bool.true_and] at e3
                        have s6 : w4.rangeAt B6 9 [.int .i64 x.kind, .int .i64 x.at_, .int .i64 x.lo, .int .i64 x.hi, .int .i64 x.most, .slice A5 x.names.length n5, .slice A7 kd.len n7, .string x.name, .int .i64 x.nat] := fun j v h => (n4.cell (p := ⟨B6, 9 + j, none⟩) l6).trans (by have := r6 (9 + j) v (by rw [← List.getElem?_drop]; exact h); rwa [Nat.zero_add] at this)
                        have s7 : w4.rangeAt B7 9 [.int .i64 y.kind, .int .i64 y.at_, .int .i64 y.lo, .int .i64 y.hi, .int .i64 y.most, .slice A6 y.names.length n6, .slice A8 ls.len n8, .string y.name, .int .i64 y.nat] := fun j v h => (n4.cell (p := ⟨B7, 9 + j, none⟩) l7).trans (by have := r7 (9 + j) v (by rw [← List.getElem?_drop]; exact h); rwa [Nat.zero_add] at this)
                        have hyx2 := hyx'.out.below n4
                        have hyy2 := hyy'.out.below n4
                        have kA2 := Lib.hid (kA'.out.below n4)
                        have kB2 := Lib.hid (kB'.out.below n4)
                        have cS := Lib.hid fun R hR => ihK.out x y ls _ _ _ _ w4 gx.2.2.2.2.2.2.2.2 gk' ga2 hyx2 hyy2 R hR
                        clear hS n4 hyx2 hyy2 r6 r7 u0 v0 kA' kB' hyx' hyy' hlv2 hcv2 hlw2 hcw2 nV
                        go_wp2_with (first | (refine wpList_load_g (by rfl) _ _ rfl B6 9 rfl [.int .i64 x.kind, .int .i64 x.at_, .int .i64 x.lo, .int .i64 x.hi, .int .i64 x.most, .slice A5 x.names.length n5, .slice A7 kd.len n7, .string x.name, .int .i64 x.nat] _ s6 Tryz.underlying30 rfl (by kernel_rfl) ?_; go_simp) | (refine wpList_load_g (by rfl) _ _ rfl B7 9 rfl [.int .i64 y.kind, .int .i64 y.at_, .int .i64 y.lo, .int .i64 y.hi, .int .i64 y.most, .slice A6 y.names.length n6, .slice A8 ls.len n8, .string y.name, .int .i64 y.nat] _ s7 Tryz.underlying30 rfl (by kernel_rfl) ?_; go_simp))
                        refine cS.out _ (Lib.hid fun w5 n5 => ?_)
                        have nY := Lib.hid (nX.out.trans (n5.mono nX.out.size))
                        have kA3 := Lib.hid (kA2.out.below n5)
                        have kB3 := Lib.hid (kB2.out.below n5)
                        clear n5 cS kA2 kB2
                        cases hS : sameS x kd y ls
                        · rw [hS] at e3
                          have fin := no (by rw [e3]; rfl) _ nY.out
                          clear no hR e3 hS
                          go_wp2_with fail
                          exact fin.out
                        · rw [hS, Bool.true_and, ← d1, ← d2] at e3
                          clear hS no
                          go_wp2_with fail
                          go_roundg (gk - 1)
                          case measure => omega
                          case rel => exact ⟨K + 1, by go_num, by omega, nY, kA3, kB3, e3⟩
                    · have q7 := sq_f c7
                      rw [decide_eq_false c7] at e3
                      have fin := no (by rw [e3]; simp) _ nV.out
                      clear no hR e3 c7
                      go_wp2_with fail
                      exact fin.out
                  · obtain rfl : K = f.len := by omega
                    have hz : sameF f g = true := by rw [e2, Fo.drop_all (Nat.le_refl _), Fo.drop_all (by have := c6.out; omega)]; rfl
                    have fin := Lib.hid (hR.out _ nW.out)
                    rw [hz] at fin
                    clear hz hR e2 kA kB
                    go_wp2_with fail
                    exact fin.out
              · have q6 : ((f.len : Int) != (g.len : Int)) = true := by simp; omega
                have hz : sameF f g = false := Bool.eq_false_iff.2 fun q => c6 (sameF_len q)
                rw [hz] at hR
                clear hz
                have fin := Lib.hid (hR.out _ nW.out)
                clear hR nW
                go_wp2_with fail
                exact fin.out
          · have q4 := sq_f c4
            rw [decide_eq_false c4] at hR
            simp only [Bool.false_and, Bool.and_false] at hR
            clear c4
            have fin := Lib.hid (hR.out _ nW.out)
            clear hR nW
            go_wp2_with fail
            exact fin.out
        · have q3 : (h.most != h'.most) = true := by simpa using c3
          rw [decide_eq_false c3] at hR
          simp only [Bool.false_and, Bool.and_false] at hR
          clear c3
          have fin := Lib.hid (hR.out _ nW.out)
          clear hR nW
          go_wp2_with fail
          exact fin.out
      · have q2 : (h.hi != h'.hi) = true := by simpa using c2
        rw [decide_eq_false c2] at hR
        simp only [Bool.false_and, Bool.and_false] at hR
        clear c2
        have fin := Lib.hid (hR.out _ nW.out)
        clear hR nW
        go_wp2_with fail
        exact fin.out
    · have q1 : (h.lo != h'.lo) = true := by simpa using c1
      rw [decide_eq_false c1] at hR
      simp only [Bool.false_and, Bool.and_false] at hR
      clear c1
      have fin := Lib.hid (hR.out _ nW.out)
      clear hR nW
      go_wp2_with fail
      exact fin.out
  · have q0 : (h.kind != h'.kind) = true := by simpa using c0
    rw [decide_eq_false c0] at hR
    simp only [Bool.false_and, Bool.and_false] at hR
    clear c0
    have fin := Lib.hid (hR.out _ nW.out)
    clear hR nW
    go_wp2_with fail
    exact fin.out
end Go.Proofs.YtbochlbgjnmgjaaGreat.Kin
