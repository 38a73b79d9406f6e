/- The code of layer 11: faultAt, checkCounts, namesOf. -/
import Derived.Test.YtoeianacjnlepaaLatD
import Derived.Test.YtoeianacjnlepaaLatK
set_option maxRecDepth 100000
set_option linter.unusedVariables false
namespace Go.Proofs.Ytoeianacjnlepaa.Lat
open Go.RowKit Go.Lib Go.Proofs.Ytoeianacjnlepaa.Rel Go.Proofs.Ytoeianacjnlepaa.Nam

set_option maxHeartbeats 1000000 in
theorem faultat_calls (s : ByteArray) (z e : Int) (w : World) (R : Ending → World → Prop) (hR : Hid (∀ w', Below w.heap.size w w' → R (.returned (.agg #[.int .i64 e, .int .i64 z])) w')) : Calls Try.prog 33 #[.agg #[.string s, .int .i64 z], .int .i64 e] w R := by
  go_enter Try.func33, Try.ntmps33
  go_wp2_with fail
  refine bodyPost_ret (v := .agg #[.int .i64 e, .int .i64 z]) ?_ rfl (hR.out _ ?_)
  · simp [results, Try.results33, go_sem]
  · exact ((Below.refl _ _).alloc (Nat.le_refl _) _).alloc (by simp) _

/-- A fault's block of the call's own, before it is told. -/
structure Flt (w : World) (H : Nat) (W : World) : Prop where
  nb : Below H w W
  lt : H < W.heap.size
  c0 : W.cell? ⟨H, 0, none⟩ = some (.int .i64 0)
  c1 : W.cell? ⟨H, 1, none⟩ = some (.int .i64 0)
  f0 : W.frozen? ⟨H, 0, none⟩ = false
  f1 : W.frozen? ⟨H, 1, none⟩ = false
theorem Flt.new (w : World) : Flt w w.heap.size (w.alloc (.cells #[.int .i64 0, .int .i64 0] 29)) := by
  obtain ⟨c0, c1, f0, f1⟩ := fault_new w
  exact ⟨(Below.refl _ _).alloc (Nat.le_refl _) _, by simp, c0, c1, f0, f1⟩
theorem Flt.below {w W W' : World} {H : Nat} (h : Flt w H W) (hb : Below W.heap.size W W') : Flt w H W' :=
  ⟨h.nb.trans (hb.mono (Nat.le_of_lt h.lt)), Nat.lt_of_lt_of_le h.lt hb.size, (hb.cell (p := ⟨H, 0, none⟩) h.lt).trans h.c0, (hb.cell (p := ⟨H, 1, none⟩) h.lt).trans h.c1, (hb.frozen (p := ⟨H, 0, none⟩) h.lt).trans h.f0, (hb.frozen (p := ⟨H, 1, none⟩) h.lt).trans h.f1⟩
theorem Flt.told {w W : World} {H : Nat} (h : Flt w H W) (e z : Value) : Below H w ((W.setCell ⟨H, 0, none⟩ e).setCell ⟨H, 1, none⟩ z) ∧ ((W.setCell ⟨H, 0, none⟩ e).setCell ⟨H, 1, none⟩ z).cell? ⟨H, 0, none⟩ = some e ∧ ((W.setCell ⟨H, 0, none⟩ e).setCell ⟨H, 1, none⟩ z).cell? ⟨H, 1, none⟩ = some z :=
  ⟨(h.nb.setCell (p := ⟨H, 0, none⟩) (Nat.le_refl _) e).setCell (p := ⟨H, 1, none⟩) (Nat.le_refl _) z, st_fault H W e z h.c0 h.c1⟩
/-- What is wrong with how many levels and pairs there are. -/
def cntS (ws : List Wr) (ps : List Pr) : Int × Int := if ws.length = 0 then (15, 0) else if 32 < ws.length then (8, (wN ws 32).2) else if 256 < ps.length then (8, (pN ps 256).1.2) else (0, 0)
set_option maxRecDepth 100000 in
set_option maxHeartbeats 1000000 in
theorem latcounts_calls (ws : List Wr) (ps : List Pr) (vw vp : Value) (w : World) (hw : RdW w vw ws) (hp : RdPr w vp ps) (R : Ending → World → Prop)
    (hR : Hid (∀ w', Below w.heap.size w w' → R (.returned (.agg #[.int .i64 (cntS ws ps).1, .int .i64 (cntS ws ps).2])) w')) : Calls Try.prog 26 #[vw, vp] w R := by
  obtain ⟨Aw, cw, rfl, hcw, hrw⟩ := hw.op
  obtain ⟨Ap, cp, rfl, hcp, hrp⟩ := hp.op
  have T := Flt.new w
  replace hrw := Lib.hid hrw
  replace hrp := Lib.hid hrp
  clear hw hp
  go_enter Try.func26, Try.ntmps26
  go_upto_region 1 with fail
  generalize w.alloc (.cells #[.int .i64 0, .int .i64 0] 29) = W0 at *
  generalize hHH : w.heap.size = H at *
  replace hHH := Lib.hid hHH
  by_cases h0 : ws.length = 0
  · have e : cntS ws ps = (15, 0) := if_pos h0
    rw [e] at hR
    obtain ⟨nf, s0, s1⟩ := T.told (.int .i64 15) (.int .i64 0)
    have c0 := T.c0
    have c1 := T.c1
    have f0 := T.f0
    have f1 := T.f1
    replace nf := Lib.hid nf
    replace s0 := Lib.hid s0
    replace s1 := Lib.hid s1
    clear T e
    go_wp2_with fail
    replace s0 := s0.out
    replace s1 := s1.out
    clear c0 c1 f0 f1
    generalize (W0.setCell ⟨H, 0, none⟩ _).setCell ⟨H, 1, none⟩ _ = Wz at *
    refine bodyPost_ret ?_ rfl (hR.out _ nf.out)
    simp [results, Try.results26, go_sem, s0, s1]
  by_cases h1 : 32 < ws.length
  · have e : cntS ws ps = (8, (wN ws 32).2) := by unfold cntS; rw [if_neg h0, if_pos h1]
    rw [e] at hR
    obtain ⟨g, o, rfl, hg, hca⟩ := hrw.out (by omega)
    obtain ⟨x0, x1⟩ := hca 32 h1
    have e0 := (T.nb.cell (p := ⟨g, o + 32 * 2, none⟩) (by have := hHH.out; simp only; omega)).trans x0
    have e1 := (T.nb.cell (p := ⟨g, o + 32 * 2 + 1, none⟩) (by have := hHH.out; simp only; omega)).trans x1
    clear hca x0 x1 e
    generalize (wN ws 32).1 = s at *
    generalize (wN ws 32).2 = z at *
    have i1 : (32 : Int) < (ws.length : Int) := by omega
    have i2 : 32 < ws.length := by omega
    replace T := Lib.hid T
    go_wp2_with fail
    refine faultat_calls s z 8 _ _ (Lib.hid fun w3 n3 => ?_)
    have T3 := T.out.below n3
    obtain ⟨nf, s0, s1⟩ := T3.told (.int .i64 8) (.int .i64 z)
    have c0 := T3.c0
    have c1 := T3.c1
    have f0 := T3.f0
    have f1 := T3.f1
    replace nf := Lib.hid nf
    replace s0 := Lib.hid s0
    replace s1 := Lib.hid s1
    clear T3 n3 T e0 e1
    go_wp2_with fail
    replace s0 := s0.out
    replace s1 := s1.out
    clear c0 c1 f0 f1
    generalize (w3.setCell ⟨H, 0, none⟩ _).setCell ⟨H, 1, none⟩ _ = Wz at *
    refine bodyPost_ret ?_ rfl (hR.out _ nf.out)
    simp [results, Try.results26, go_sem, s0, s1]
  by_cases h2 : 256 < ps.length
  · have e : cntS ws ps = (8, (pN ps 256).1.2) := by unfold cntS; rw [if_neg h0, if_neg h1, if_pos h2]
    rw [e] at hR
    obtain ⟨g, o, rfl, hg, hca⟩ := hrp.out (by omega)
    obtain ⟨x0, x1, -, -⟩ := hca 256 h2
    have e0 := (T.nb.cell (p := ⟨g, o + 256 * 4, none⟩) (by have := hHH.out; simp only; omega)).trans x0
    have e1 := (T.nb.cell (p := ⟨g, o + 256 * 4 + 1, none⟩) (by have := hHH.out; simp only; omega)).trans x1
    clear hca x0 x1 e
    generalize (pN ps 256).1.1 = s at *
    generalize (pN ps 256).1.2 = z at *
    have i1 : (256 : Int) < (ps.length : Int) := by omega
    have i2 : 256 < ps.length := by omega
    replace T := Lib.hid T
    go_wp2_with fail
    refine faultat_calls s z 8 _ _ (Lib.hid fun w3 n3 => ?_)
    have T3 := T.out.below n3
    obtain ⟨nf, s0, s1⟩ := T3.told (.int .i64 8) (.int .i64 z)
    have c0 := T3.c0
    have c1 := T3.c1
    have f0 := T3.f0
    have f1 := T3.f1
    replace nf := Lib.hid nf
    replace s0 := Lib.hid s0
    replace s1 := Lib.hid s1
    clear T3 n3 T e0 e1
    go_wp2_with fail
    replace s0 := s0.out
    replace s1 := s1.out
    clear c0 c1 f0 f1
    generalize (w3.setCell ⟨H, 0, none⟩ _).setCell ⟨H, 1, none⟩ _ = Wz at *
    refine bodyPost_ret ?_ rfl (hR.out _ nf.out)
    simp [results, Try.results26, go_sem, s0, s1]
  · have e : cntS ws ps = (0, 0) := by unfold cntS; rw [if_neg h0, if_neg h1, if_neg h2]
    rw [e] at hR
    obtain ⟨nf, s0, s1⟩ := T.told (.int .i64 0) (.int .i64 0)
    have c0 := T.c0
    have c1 := T.c1
    have f0 := T.f0
    have f1 := T.f1
    replace nf := Lib.hid nf
    replace s0 := Lib.hid s0
    replace s1 := Lib.hid s1
    clear T e
    go_wp2_with fail
    replace s0 := s0.out
    replace s1 := s1.out
    clear c0 c1 f0 f1
    generalize (W0.setCell ⟨H, 0, none⟩ _).setCell ⟨H, 1, none⟩ _ = Wz at *
    refine bodyPost_ret ?_ rfl (hR.out _ nf.out)
    simp [results, Try.results26, go_sem, s0, s1]
end Go.Proofs.Ytoeianacjnlepaa.Lat
