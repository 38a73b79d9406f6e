/- Layer 15: the reference's Size. -/
import Derived.Test.YtbochlbgjnmgjaaGreatG3
set_option maxRecDepth 100000
set_option linter.unusedVariables false
namespace Go.Proofs.YtbochlbgjnmgjaaGreat.Kin
open Go.RowKit Go.Lib Go.Proofs.YtbochlbgjnmgjaaGreat.Utf Go.Proofs.YtbochlbgjnmgjaaGreat.Nam Go.Proofs.YtbochlbgjnmgjaaGreat.Lat

theorem same15_calls (f : Ft) : SameQ f := Fo.deep same15_step f
/-- How many types there are in parts, and how deep they lie, as the machine counts. -/
def cW : Ft → Int → Int
  | .nil, a => a
  | .cons p _ k r, a => cW r (if p.bare then a else wrap64 (a + cW k 1))
def dW : Ft → Int → Int
  | .nil, a => a
  | .cons p _ k r, a => dW r (if p.bare then a else if a < wrap64 (dW k 0 + 1) then wrap64 (dW k 0 + 1) else a)
def SizeQ (f : Ft) : Prop := ∀ (h : TH) (nv pv : Value) (w : World), f.len ≤ maxLen → f.All GoodH GoodL → RdY w h f nv pv → ∀ R : Ending → World → Prop,
  Hid (∀ w', Below w.heap.size w w' → R (.returned (.tuple #[.int .i64 (cW f 1), .int .i64 (wrap64 (dW f 0 + 1))])) w') → Calls Tryz.prog 40 #[tyV h nv pv] w R
set_option maxRecDepth 100000 in
set_option maxHeartbeats 4000000 in
theorem size15_step (f : Ft) (ih : Fo.AllK SizeQ f) : SizeQ f := by
  intro h nv pv w hfl hga hy R hR
  replace hfl : f.len ≤ 9223372036854775807 := hfl
  have bA := (Below.refl w.heap.size w).alloc (Nat.le_refl _) (.cells (tyL h nv pv).toArray 30)
  have kA := TB.new w h nv pv 30
  obtain ⟨Ap, cp, rfl, hpl⟩ := hy.p.sl
  obtain ⟨An, cn, rfl, -, -⟩ := hy.n.op
  replace hy := Lib.hid (hy.below bA)
  replace hga := Lib.hid hga
  replace ih := Lib.hid ih
  replace bA := Lib.hid bA
  replace kA := Lib.hid kA
  go_enter Tryz.func40, Tryz.ntmps40
  go_upto_region 1 with fail
  generalize w.alloc (.cells (tyL h (.slice An h.names.length cn) (.slice Ap f.len cp)).toArray 30) = W2 at *
  go_wp2_with fail
  go_loopg [4, 5, 6] f.len (fun g0 n d i wr => ∃ (K : Nat) (a b : Int), n = .int .i64 a ∧ d = .int .i64 b ∧ i = .int .i64 K ∧ K + g0 = f.len ∧ Hid (Below W2.heap.size W2 wr) ∧ cW f 1 = cW (f.drop K) a ∧ dW f 0 = dW (f.drop K) b)
  case atStart => exact ⟨0, 1, 0, rfl, rfl, rfl, by omega, Lib.hid (Below.refl _ _), rfl, rfl⟩
  case round =>
    obtain ⟨K, a, b, rfl, rfl, rfl, e1, nW, e2, e3⟩ := hrel
    have a6 := (kA.out.below nW.out).k6
    by_cases hK : K < f.len
    · obtain ⟨p, x, kd, r, e⟩ := Fo.drop_lt hK
      obtain ⟨g, o, lv, cv, nx, px, rfl, hg, -, -, hyx, hc⟩ := (hy.out.below nW.out).p.part e
      have x2 := hc 2 _ rfl
      obtain ⟨gp, gx, gk', ga2⟩ := all_at K hga.out e
      have ihK := Lib.hid ((ih.out).at_ e)
      rw [e] at e2 e3
      have d1 := Fo.drop_succ K e
      have i0 : (0 : Int) ≤ (K : Int) := by omega
      have i1 : (K : Int) < (f.len : Int) := by omega
      have e4 : cW f 1 = cW r (if p.bare then a else wrap64 (a + cW kd 1)) := e2
      have e5 : dW f 0 = dW r (if p.bare then b else if b < wrap64 (dW kd 0 + 1) then wrap64 (dW kd 0 + 1) else b) := e3
      clear e2 e3
      cases hb : p.bare
      · rw [hb] at x2 e4 e5
        simp only [Bool.false_eq_true, if_false] at e4 e5
        have s6 : wr.rangeAt g (o + K * 18 + 9) [.int .i64 x.kind, .int .i64 x.at_, .int .i64 x.lo, .int .i64 x.hi, .int .i64 x.most, nx, px, .string x.name, .int .i64 x.nat] := fun j v h => by rw [Nat.add_assoc]; exact hc (9 + j) v (by rw [← List.getElem?_drop]; exact h)
        have cS := Lib.hid fun R hR => ihK.out x nx px wr gk' ga2 hyx R hR
        clear hc e hyx ihK
        go_wp2_with (refine wpList_load_g (by rfl) _ _ rfl g (o + K * 18 + 9) rfl [.int .i64 x.kind, .int .i64 x.at_, .int .i64 x.lo, .int .i64 x.hi, .int .i64 x.most, nx, px, .string x.name, .int .i64 x.nat] _ s6 Tryz.underlying30 rfl (by kernel_rfl) ?_; go_simp)
        refine cS.out _ (Lib.hid fun w5 n5 => ?_)
        have nY := Lib.hid (nW.out.trans (n5.mono nW.out.size))
        generalize cW kd 1 = ck at *
        generalize wrap64 (dW kd 0 + 1) = dk at *
        clear s6 cS n5
        rw [← d1] at e4 e5
        by_cases hbd : b < dk
        · rw [if_pos hbd] at e5
          go_wp2_with fail
          go_roundg (gk - 1)
          case measure => omega
          case rel => exact ⟨K + 1, _, _, rfl, rfl, by go_num, by omega, nY, e4, e5⟩
        · rw [if_neg hbd] at e5
          go_wp2_with fail
          go_roundg (gk - 1)
          case measure => omega
          case rel => exact ⟨K + 1, _, _, rfl, rfl, by go_num, by omega, nY, e4, e5⟩
      · rw [hb] at x2 e4 e5
        simp only [if_true] at e4 e5
        rw [← d1] at e4 e5
        clear hc e hyx ihK
        go_wp2_with fail
        go_roundg (gk - 1)
        case measure => omega
        case rel => exact ⟨K + 1, a, b, rfl, rfl, by go_num, by omega, nW, e4, e5⟩
    · obtain rfl : K = f.len := by omega
      rw [Fo.drop_all (Nat.le_refl _)] at e2 e3
      have e4 : cW f 1 = a := e2
      have e5 : dW f 0 = b := e3
      have fin := Lib.hid (hR.out _ (bA.out.trans (nW.out.mono bA.out.size)))
      rw [e4, e5] at fin
      clear hR e2 e3 e4 e5
      go_wp2_with fail
      exact fin.out
theorem size15_calls (f : Ft) : SizeQ f := Fo.deep size15_step f
end Go.Proofs.YtbochlbgjnmgjaaGreat.Kin
