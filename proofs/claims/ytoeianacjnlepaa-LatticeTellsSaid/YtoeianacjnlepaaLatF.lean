/- LatticeBuilds: the law's walk. -/
import Derived.Test.YtoeianacjnlepaaLatE
set_option maxRecDepth 100000
set_option linter.unusedVariables false
namespace Go.Proofs.Ytoeianacjnlepaa.Lat
open Go.RowKit Go.Lib Go.Proofs.Ytoeianacjnlepaa.Rel Go.Proofs.Ytoeianacjnlepaa.Nam

set_option maxRecDepth 100000 in
set_option maxHeartbeats 1000000 in
theorem great_calls (ws : List Wr) (ps : List Pr) (vw vp : Value) (w : World) (hw : RdW w vw ws) (hp : RdPr w vp ps) (b : Bool) (hb : b = decide (40 < ws.length ∨ 300 < ps.length)) (R : Ending → World → Prop) (hR : Hid (R (.returned (.bool b)) w)) : Calls Try.prog 7 #[vw, vp] w R := by
  obtain ⟨Aw, cw, rfl, -, -⟩ := hw.op
  obtain ⟨Ap, cp, rfl, -, -⟩ := hp.op
  clear hw hp
  by_cases h1 : 40 < ws.length
  · obtain rfl : b = true := by rw [hb]; exact decide_eq_true (.inl h1)
    clear hb
    go_enter Try.func7, Try.ntmps7
    go_wp2_with fail
    exact hR.out
  · by_cases h2 : 300 < ps.length
    · obtain rfl : b = true := by rw [hb]; exact decide_eq_true (.inr h2)
      clear hb
      go_enter Try.func7, Try.ntmps7
      go_wp2_with fail
      exact retB hR.out (by simp; omega)
    · obtain rfl : b = false := by rw [hb]; exact decide_eq_false (by omega)
      clear hb
      go_enter Try.func7, Try.ntmps7
      go_wp2_with fail
      exact retB hR.out (by simp; omega)

/-- A fault laid in a variable of its own. -/
theorem fault_box {B : Nat} {w : World} (W : World) (e z : Int) (h : B ≤ W.heap.size) (hb : Below B w W) : (W.alloc (.cells #[.int .i64 e, .int .i64 z] 29)).cell? ⟨W.heap.size, 0, none⟩ = some (.int .i64 e) ∧ (W.alloc (.cells #[.int .i64 e, .int .i64 z] 29)).cell? ⟨W.heap.size, 1, none⟩ = some (.int .i64 z) ∧
    Below B w (W.alloc (.cells #[.int .i64 e, .int .i64 z] 29)) ∧ W.heap.size < (W.alloc (.cells #[.int .i64 e, .int .i64 z] 29)).heap.size := by
  have q1 := heap_alloc_new W (.cells #[.int .i64 e, .int .i64 z] 29)
  exact ⟨by rw [Lib.cell_of_heap q1]; rfl, by rw [Lib.cell_of_heap q1]; rfl, hb.alloc h _, by simp⟩
set_option maxRecDepth 100000 in
set_option maxHeartbeats 2000000 in
theorem builds11_walk (ws : List Wr) (ps : List Pr) (vw vp : Value) (w : World) (hw : RdW w vw ws) (hp : RdPr w vp ps) (hgw : ∀ x ∈ ws, GoodW x) (hgp : ∀ x ∈ ps, GoodR x) (R : Ending → World → Prop)
    (hR : Hid (∀ w', Below w.heap.size w w' → R (.returned (.bool true)) w')) : Calls Try.prog 3 #[vw, vp] w R := by
  have cL := Lib.hid fun (W : World) R hR => lives11_calls W R hR
  have cG := Lib.hid fun R hR => great_calls ws ps vw vp w hw hp _ rfl R hR
  by_cases hg : 40 < ws.length ∨ 300 < ps.length
  · replace cG := cG.out
    rw [decide_eq_true hg] at cG
    replace cG := Lib.hid cG
    obtain ⟨Aw, cw, rfl, -, -⟩ := hw.op
    obtain ⟨Ap, cp, rfl, -, -⟩ := hp.op
    clear hw hp hg
    go_enter Try.func3, Try.ntmps3
    go_wp2_with fail
    refine cG.out _ (Lib.hid ?_)
    go_wp2_with fail
    refine cL.out _ _ (Lib.hid fun w1 n1 => ?_)
    replace n1 := Lib.hid n1
    go_wp2_with fail
    exact hR.out _ n1.out
  · replace cG := cG.out
    rw [decide_eq_false hg] at cG
    replace cG := Lib.hid cG
    have cB := Lib.hid fun R hR hR2 => build_calls ws ps vw vp w hw hp hgw hgp (by unfold maxLen; omega) (by unfold maxLen; omega) R hR hR2
    have cW := Lib.hid fun (W : World) (hb : Below w.heap.size w W) R hR => refwrong_calls ws ps vw vp W (hw.below hb) (hp.below hb) hgw (by omega) (by omega) R hR
    obtain ⟨Aw, cw, rfl, -, -⟩ := hw.op
    obtain ⟨Ap, cp, rfl, -, -⟩ := hp.op
    clear hw hp hg hgw hgp
    generalize wrongS ws ps = V at *
    obtain ⟨e, z⟩ := V
    simp only at cB cW
    go_enter Try.func3, Try.ntmps3
    go_wp2_with fail
    refine cG.out _ (Lib.hid ?_)
    go_wp2_with fail
    refine cB.out _ (Lib.hid fun v w2 he l2 n2 => ?_) (Lib.hid fun w2 he n2 => ?_)
    · obtain ⟨p, rfl⟩ := l2.ptr
      simp only [Prod.mk.injEq] at he
      obtain ⟨rfl, rfl⟩ := he
      clear l2
      obtain ⟨c0, c1, n4, hH⟩ := fault_box w2 0 0 n2.size n2
      replace c0 := Lib.hid c0
      replace c1 := Lib.hid c1
      replace n4 := Lib.hid n4
      replace hH := Lib.hid hH
      clear n2
      go_wp2_with fail
      replace c0 := c0.out
      replace c1 := c1.out
      replace hH := hH.out
      generalize hW : w2.alloc (.cells #[.int .i64 0, .int .i64 0] 29) = W at *
      replace hW := Lib.hid hW
      generalize w2.heap.size = H at *
      have k0 := fun x : BW W => x.cell hH c0
      have k1 := fun x : BW W => x.cell hH c1
      have cX := Lib.hid fun x : BW W => cW.out x.w (n4.out.trans (x.b.mono n4.out.size)) (fun e' w' => e' = .returned (.agg #[.int .i64 0, .int .i64 0]) ∧ Below x.w.heap.size x.w w') (Lib.hid fun _ n => ⟨rfl, n⟩)
      have cZ := Lib.hid fun x : BW W => cL.out x.w (fun e' w' => e' = .returned (.bool true) ∧ Below x.w.heap.size x.w w') (Lib.hid fun _ n => ⟨rfl, n⟩)
      clear c0 c1
      refine wp_region_below_lit (by kernel_rfl) (by kernel_rfl) ?_
      repeat (go_big_quiet_step ((first | (with_reducible exact calls_below (cX.out _)) | (with_reducible exact calls_below (cZ.out _)))))
      refine wpQuiet_nil ?_
      rintro _ ⟨y, rfl⟩
      have ny := Lib.hid (n4.out.trans (y.b.mono n4.out.size))
      generalize y.w = wy at *
      go_wp2_with fail
      exact hR.out _ ny.out
    · have q0 : (e == 0) = false := by simpa using he
      clear he
      obtain ⟨c0, c1, n4, hH⟩ := fault_box w2 e z n2.size n2
      replace c0 := Lib.hid c0
      replace c1 := Lib.hid c1
      replace n4 := Lib.hid n4
      replace hH := Lib.hid hH
      clear n2
      go_wp2_with fail
      replace c0 := c0.out
      replace c1 := c1.out
      replace hH := hH.out
      generalize hW : w2.alloc (.cells #[.int .i64 e, .int .i64 z] 29) = W at *
      replace hW := Lib.hid hW
      generalize w2.heap.size = H at *
      have k0 := fun x : BW W => x.cell hH c0
      have k1 := fun x : BW W => x.cell hH c1
      have cX := Lib.hid fun x : BW W => cW.out x.w (n4.out.trans (x.b.mono n4.out.size)) (fun e' w' => e' = .returned (.agg #[.int .i64 e, .int .i64 z]) ∧ Below x.w.heap.size x.w w') (Lib.hid fun _ n => ⟨rfl, n⟩)
      have cZ := Lib.hid fun x : BW W => cL.out x.w (fun e' w' => e' = .returned (.bool true) ∧ Below x.w.heap.size x.w w') (Lib.hid fun _ n => ⟨rfl, n⟩)
      clear c0 c1
      refine wp_region_below_lit (by kernel_rfl) (by kernel_rfl) ?_
      repeat (go_big_quiet_step ((first | (with_reducible exact calls_below (cX.out _)) | (with_reducible exact calls_below (cZ.out _)))))
      refine wpQuiet_nil ?_
      rintro _ ⟨y, rfl⟩
      have ny := Lib.hid (n4.out.trans (y.b.mono n4.out.size))
      generalize y.w = wy at *
      go_wp2_with fail
      exact hR.out _ ny.out
end Go.Proofs.Ytoeianacjnlepaa.Lat
