/- Layer 15: the reference's Plain. -/
import Derived.Test.YtpepomnkoghjpaaTypB
import Derived.Deep.Cut
set_option maxRecDepth 100000
set_option linter.unusedVariables false
namespace Go.Proofs.Ytpepomnkoghjpaa.Kin
open Go.RowKit Go.Lib Go.Proofs.Ytpepomnkoghjpaa.Utf Go.Proofs.Ytpepomnkoghjpaa.Nam Go.Proofs.Ytpepomnkoghjpaa.Lat

/-- A part as a value. -/
abbrev ptL (p : PH) (lv cv : Value) (h : TH) (nv pv : Value) : List Value := [.string p.name, .int .i64 p.at_, .bool p.bare, lv, .int .i64 p.wide, .int .i64 p.ck, .int .i64 p.cn, .int .i64 p.cat, cv, .int .i64 h.kind, .int .i64 h.at_, .int .i64 h.lo, .int .i64 h.hi, .int .i64 h.most, nv, pv, .string h.name, .int .i64 h.nat]
abbrev ptV (p : PH) (lv cv : Value) (h : TH) (nv pv : Value) : Value := .agg (ptL p lv cv h nv pv).toArray
/-- What Plain reads of a part in a box. -/
structure PB (w : World) (B : Nat) (p : PH) (lv cv : Value) : Prop where
  lt : B < w.heap.size
  k2 : w.cell? ⟨B, 2, none⟩ = some (.bool p.bare)
  k3 : w.cell? ⟨B, 3, none⟩ = some lv
  k4 : w.cell? ⟨B, 4, none⟩ = some (.int .i64 p.wide)
  k5 : w.cell? ⟨B, 5, none⟩ = some (.int .i64 p.ck)
  k6 : w.cell? ⟨B, 6, none⟩ = some (.int .i64 p.cn)
  k8 : w.cell? ⟨B, 8, none⟩ = some cv
theorem PB.new (w : World) (p : PH) (lv cv : Value) (h : TH) (nv pv : Value) (t : TypeId) : PB (w.alloc (.cells #[.string p.name, .int .i64 p.at_, .bool p.bare, lv, .int .i64 p.wide, .int .i64 p.ck, .int .i64 p.cn, .int .i64 p.cat, cv, .int .i64 h.kind, .int .i64 h.at_, .int .i64 h.lo, .int .i64 h.hi, .int .i64 h.most, nv, pv, .string h.name, .int .i64 h.nat] t)) w.heap.size p lv cv := by
  have q := heap_alloc_new w (.cells #[.string p.name, .int .i64 p.at_, .bool p.bare, lv, .int .i64 p.wide, .int .i64 p.ck, .int .i64 p.cn, .int .i64 p.cat, cv, .int .i64 h.kind, .int .i64 h.at_, .int .i64 h.lo, .int .i64 h.hi, .int .i64 h.most, nv, pv, .string h.name, .int .i64 h.nat] t)
  refine ⟨by simp, ?_, ?_, ?_, ?_, ?_, ?_⟩ <;> (rw [Lib.cell_of_heap q]; rfl)
theorem PB.below {w w' : World} {B : Nat} {p : PH} {lv cv : Value} (h : PB w B p lv cv) (hb : Below w.heap.size w w') : PB w' B p lv cv :=
  ⟨Nat.lt_of_lt_of_le h.lt hb.size, (hb.cell (p := ⟨B, 2, none⟩) h.lt).trans h.k2, (hb.cell (p := ⟨B, 3, none⟩) h.lt).trans h.k3, (hb.cell (p := ⟨B, 4, none⟩) h.lt).trans h.k4, (hb.cell (p := ⟨B, 5, none⟩) h.lt).trans h.k5, (hb.cell (p := ⟨B, 6, none⟩) h.lt).trans h.k6, (hb.cell (p := ⟨B, 8, none⟩) h.lt).trans h.k8⟩
set_option maxRecDepth 100000 in
set_option maxHeartbeats 2000000 in
theorem plain15_calls (p q : PH) (lv cv lv' cv' nv pv nv' pv' : Value) (h h' : TH) (w : World) (l1 : p.label.length ≤ maxLen) (l2 : p.cl.length ≤ maxLen) (hl : RdW w lv p.label) (hc : RdW w cv p.cl) (hl' : RdW w lv' q.label) (hc' : RdW w cv' q.cl) (R : Ending → World → Prop)
    (hR : Hid (∀ w', Below w.heap.size w w' → R (.returned (.bool (plainB p q))) w')) : Calls Try.prog 22 #[ptV p lv cv h nv pv, ptV q lv' cv' h' nv' pv'] w R := by
  have bA := (Below.refl w.heap.size w).alloc (Nat.le_refl _) (.cells (ptL p lv cv h nv pv).toArray 52)
  have bB := Lib.hid (bA.alloc bA.size (.cells (ptL q lv' cv' h' nv' pv').toArray 52))
  have kA := Lib.hid ((PB.new w p lv cv h nv pv 52).below ((Below.refl _ _).alloc (Nat.le_refl _) (.cells (ptL q lv' cv' h' nv' pv').toArray 52)))
  have kB := Lib.hid (PB.new (w.alloc (.cells (ptL p lv cv h nv pv).toArray 52)) q lv' cv' h' nv' pv' 52)
  have hs1 : (w.alloc (.cells (ptL p lv cv h nv pv).toArray 52)).heap.size = w.heap.size + 1 := by simp
  have cW1 := Lib.hid fun (W : World) (b : Below w.heap.size w W) R hR => words15_calls p.label q.label l1 lv lv' W (hl.below b) (hl'.below b) R hR
  have cW2 := Lib.hid fun (W : World) (b : Below w.heap.size w W) R hR => words15_calls p.cl q.cl l2 cv cv' W (hc.below b) (hc'.below b) R hR
  have hp : plainB p q = ((p.bare == q.bare) && decide (p.wide = q.wide) && sameW p.label q.label && decide (p.ck = q.ck) && decide (p.cn = q.cn) && sameW p.cl q.cl) := rfl
  rw [hp] at hR
  obtain ⟨Al, nl, rfl, -, -⟩ := hl.op
  obtain ⟨Ac, nc, rfl, -, -⟩ := hc.op
  obtain ⟨Al', nl', rfl, -, -⟩ := hl'.op
  obtain ⟨Ac', nc', rfl, -, -⟩ := hc'.op
  clear bA hl hc hl' hc' hp l1 l2
  rw [hs1] at kB
  go_enter Try.func22, Try.ntmps22
  go_upto_region 1 with fail
  generalize (w.alloc (.cells (ptL p (.slice Al p.label.length nl) (.slice Ac p.cl.length nc) h nv pv).toArray 52)).alloc (.cells (ptL q (.slice Al' q.label.length nl') (.slice Ac' q.cl.length nc') h' nv' pv').toArray 52) = W2 at *
  clear hs1
  obtain ⟨-, a2, a3, a4, a5, a6, a8⟩ := kA.out
  obtain ⟨-, b2, b3, b4, b5, b6, b8⟩ := kB.out
  have nW := bB
  clear bB
  by_cases c0 : p.bare = q.bare
  · have q0 : (p.bare == q.bare) = true := by simpa using c0
    rw [q0] at hR
    simp only [Bool.true_and, Bool.and_true] at hR
    clear c0
    by_cases c1 : p.wide = q.wide
    · have q1 : (p.wide == q.wide) = true := by simpa using c1
      rw [decide_eq_true c1] at hR
      simp only [Bool.true_and, Bool.and_true] at hR
      clear c1
      have cX1 := Lib.hid fun R hR => cW1.out W2 nW.out R hR
      generalize sameW p.label q.label = S1 at *
      go_wp2_with fail
      refine cX1.out _ (Lib.hid fun w3 n3 => ?_)
      replace nW := Lib.hid (nW.out.trans (n3.mono nW.out.size))
      replace a5 := (n3.cell (p := ⟨w.heap.size, 5, none⟩) kA.out.lt).trans a5
      replace b5 := (n3.cell (p := ⟨w.heap.size + 1, 5, none⟩) kB.out.lt).trans b5
      replace a6 := (n3.cell (p := ⟨w.heap.size, 6, none⟩) kA.out.lt).trans a6
      replace b6 := (n3.cell (p := ⟨w.heap.size + 1, 6, none⟩) kB.out.lt).trans b6
      replace a8 := (n3.cell (p := ⟨w.heap.size, 8, none⟩) kA.out.lt).trans a8
      replace b8 := (n3.cell (p := ⟨w.heap.size + 1, 8, none⟩) kB.out.lt).trans b8
      clear n3 cX1
      cases S1
      · try simp only [Bool.false_and, Bool.and_false] at hR
        have fin := Lib.hid (hR.out _ nW.out)
        clear hR nW
        go_wp2_with fail
        exact fin.out
      · try simp only [Bool.true_and, Bool.and_true] at hR
        by_cases c3 : p.ck = q.ck
        · have q3 : (p.ck == q.ck) = true := by simpa using c3
          rw [decide_eq_true c3] at hR
          simp only [Bool.true_and, Bool.and_true] at hR
          clear c3
          by_cases c4 : p.cn = q.cn
          · have q4 : (p.cn == q.cn) = true := by simpa using c4
            rw [decide_eq_true c4] at hR
            simp only [Bool.true_and, Bool.and_true] at hR
            clear c4
            have cX2 := Lib.hid fun R hR => cW2.out w3 nW.out R hR
            generalize sameW p.cl q.cl = S2 at *
            go_wp2_with fail
            refine cX2.out _ (Lib.hid fun w4 n3 => ?_)
            replace nW := Lib.hid (nW.out.trans (n3.mono nW.out.size))
            clear n3 cX2
            cases S2
            · try simp only [Bool.false_and, Bool.and_false] at hR
              have fin := Lib.hid (hR.out _ nW.out)
              clear hR nW
              go_wp2_with fail
              exact fin.out
            · try simp only [Bool.true_and, Bool.and_true] at hR
              have fin := Lib.hid (hR.out _ nW.out)
              clear hR nW
              go_wp2_with fail
              first | exact fin.out | simpa using fin.out
          · have q4 : (p.cn == q.cn) = false := by simpa using c4
            rw [decide_eq_false c4] at hR
            simp only [Bool.false_and, Bool.and_false] at hR
            clear c4
            have fin := Lib.hid (hR.out _ nW.out)
            clear hR nW
            go_wp2_with fail
            exact fin.out
        · have q3 : (p.ck == q.ck) = false := by simpa using c3
          rw [decide_eq_false c3] at hR
          simp only [Bool.false_and, Bool.and_false] at hR
          clear c3
          have fin := Lib.hid (hR.out _ nW.out)
          clear hR nW
          go_wp2_with fail
          exact fin.out
    · have q1 : (p.wide == q.wide) = false := by simpa using c1
      rw [decide_eq_false c1] at hR
      simp only [Bool.false_and, Bool.and_false] at hR
      clear c1
      have fin := Lib.hid (hR.out _ nW.out)
      clear hR nW
      go_wp2_with fail
      exact fin.out
  · have q0 : (p.bare == q.bare) = false := by simpa using c0
    rw [q0] at hR
    simp only [Bool.false_and, Bool.and_false] at hR
    clear c0
    have fin := Lib.hid (hR.out _ nW.out)
    clear hR nW
    go_wp2_with fail
    exact fin.out
end Go.Proofs.Ytpepomnkoghjpaa.Kin
