import Derived.Test.YtlijjbcamkhhaaaG12
import Derived.Test.YtlijjbcamkhhaaaZLatE
/- Layer 12: the struct that comes in, great; the chapter's example, lives. -/
set_option maxRecDepth 100000
set_option linter.unusedVariables false
namespace Go.Proofs.Ytlijjbcamkhhaaa.Lab
open Go.RowKit Go.Lib Go.Proofs.Ytlijjbcamkhhaaa.Rel Go.Proofs.Ytlijjbcamkhhaaa.Nam Go.Proofs.Ytlijjbcamkhhaaa.Lat Go.ChangeShapes Go.WideShapes

/-- A lattice as it came in: its two slices, its levels, its pairs. -/
abbrev Ltw := Value × Value × List Wr × List Pr
theorem arg_ltw {H : Type} {enc' : TypeId × Value → H} {W : World} {base : Nat} {v : Value} {d : DataW H} {p : List MemPlace} (hv : Value.okWide Try.prog W .any base 25 v)
    (h : DataW.Trod enc' Try.prog W 0 (fun _ => true) true 25 v d p) : ∃ q : Ltw, v = .agg #[q.1, q.2.1] ∧ RdW W q.1 q.2.2.1 ∧ RdPr W q.2.1 q.2.2.2 ∧ (∀ x ∈ q.2.2.1, GoodW x) ∧ (∀ x ∈ q.2.2.2, GoodR x) := by
  unfold Value.okWide at hv
  rw [Try.underlying25] at hv
  obtain ⟨cs, rfl, hs, ts, ht, -, hc⟩ := hv
  have c2 : Try.prog.cellsOf 25 = 2 := by kernel_rfl
  have cw : Try.prog.cellsOf 22 = 1 := by kernel_rfl
  have cp : Try.prog.cellsOf 23 = 1 := by kernel_rfl
  have hts : Try.prog.cellTypes Try.prog.depth 25 = some [22, 23] := by kernel_rfl
  rw [hts] at ht
  obtain rfl := Option.some.inj ht
  rw [c2] at hs
  obtain ⟨fuel, hf⟩ := h
  obtain ⟨ys, m, -, -, -, hys, hg⟩ := DataW.trod_struct Try.underlying25 hf
  obtain ⟨l⟩ := cs
  match ys, hys, l, hs, hc with
  | [y0, y1], _, [v0, v1], _, hc =>
    have g0 := hg 0 _ rfl
    have g1 := hg 1 _ rfl
    simp [cw, cp, Value.cells] at g0 g1
    obtain ⟨u0, e0, k0⟩ := hc 0 v0 rfl
    obtain ⟨u1, e1, k1⟩ := hc 1 v1 rfl
    simp at e0 e1
    subst e0 e1
    have k0' : Value.okWide Try.prog W .any base 22 v0 := by unfold Value.okWide; rw [Try.underlying22]; exact k0
    have k1' : Value.okWide Try.prog W .any base 23 v1 := by unfold Value.okWide; rw [Try.underlying23]; exact k1
    obtain ⟨A0, n0, p0, rfl⟩ := okWide_slice Try.underlying22 k0'
    obtain ⟨A1, n1, p1, rfl⟩ := okWide_slice Try.underlying23 k1'
    obtain ⟨ws, r0, q0, -⟩ := arg_words k0' ⟨m, g0⟩
    obtain ⟨ps, r1, q1, -⟩ := arg_prs k1' ⟨m, g1⟩
    exact ⟨(_, _, ws, ps), rfl, r0, r1, q0, q1⟩
theorem arg_ints {H : Type} {enc' : TypeId × Value → H} {W : World} {base : Nat} {v : Value} {d : DataW H} {p : List MemPlace} (hv : Value.okWide Try.prog W .any base 42 v)
    (h : DataW.Trod enc' Try.prog W 0 (fun _ => true) true 42 v d p) : ∃ xs : List Int, RdZ W v xs ∧ (∀ x ∈ xs, Bd x) ∧ (xs = [] ∨ ∃ es sp, d = .slice es sp ∧ es.length = xs.length) := by
  haveI : Inhabited Int := ⟨0⟩
  obtain ⟨xs, h1, h2, h3⟩ := arg_flat (enc := fun x : Int => [Value.int .i64 x]) (k := 1) (fun _ => rfl) (by decide) Bd Try.underlying42 (by kernel_rfl) hv h (fun n cs x hx hl => by
    match cs, hl with
    | [v0], _ =>
      obtain ⟨n0, h0, -, w0⟩ := DataW.trod_int Try.underlying3 hx
      simp at h0
      subst h0
      exact ⟨n0, rfl, wf64 w0⟩)
  refine ⟨xs, ?_, h2, h3⟩
  have e : ∀ xs : List Int, flatG (fun x : Int => [Value.int .i64 x]) xs = izv xs := by
    intro xs
    unfold flatG izv
    induction xs with
    | nil => rfl
    | cons x xs ih => rw [List.flatMap_cons, ih]; rfl
  unfold RdG at h1
  rw [e] at h1
  exact h1

/-- Is it more than is gone through, or no lattice? -/
def greatB (ws : List Wr) (ps : List Pr) : Bool := decide (32 < ws.length ∨ 256 < ps.length ∨ wrongS ws ps ≠ (0, 0))
theorem box_two (w : World) (a b : Value) (t : TypeId) : (w.alloc (.cells #[a, b] t)).cell? ⟨w.heap.size, 0, none⟩ = some a ∧ (w.alloc (.cells #[a, b] t)).cell? ⟨w.heap.size, 1, none⟩ = some b := by
  have q1 := heap_alloc_new w (.cells #[a, b] t)
  exact ⟨by rw [Lib.cell_of_heap q1]; rfl, by rw [Lib.cell_of_heap q1]; rfl⟩
set_option maxRecDepth 100000 in
set_option maxHeartbeats 1000000 in
theorem great12_calls (ws : List Wr) (ps : List Pr) (vw vp : Value) (w : World) (hw : RdW w vw ws) (hp : RdPr w vp ps) (hgw : ∀ x ∈ ws, GoodW x) (R : Ending → World → Prop)
    (hR : Hid (∀ w', Below w.heap.size w w' → R (.returned (.bool (greatB ws ps))) w')) : Calls Try.prog 7 #[.agg #[vw, vp]] w R := by
  have b1 := (Below.refl w.heap.size w).alloc (Nat.le_refl _) (.cells #[vw, vp] 25)
  obtain ⟨k0, k1⟩ := box_two w vw vp 25
  have hw1 := hw.below b1
  have hp1 := hp.below b1
  have cW := Lib.hid fun (h1 : ws.length ≤ 32) (h2 : ps.length ≤ 256) R hR => refwrong_calls ws ps vw vp _ hw1 hp1 hgw (by omega) (by omega) R hR
  obtain ⟨Aw, cw, rfl, -, -⟩ := hw.op
  obtain ⟨Ap, cp, rfl, -, -⟩ := hp.op
  have hg : greatB ws ps = decide (32 < ws.length ∨ 256 < ps.length ∨ wrongS ws ps ≠ (0, 0)) := rfl
  replace b1 := Lib.hid b1
  clear hw hp hw1 hp1 hgw
  by_cases h1 : 32 < ws.length
  · rw [hg, decide_eq_true (.inl h1)] at hR
    clear hg
    go_enter Try.func7, Try.ntmps7
    go_wp2_with fail
    exact hR.out _ b1.out
  by_cases h2 : 256 < ps.length
  · rw [hg, decide_eq_true (.inr (.inl h2))] at hR
    clear hg
    go_enter Try.func7, Try.ntmps7
    go_wp2_with fail
    exact hR.out _ b1.out
  have cW1 := Lib.hid (cW.out (by omega) (by omega))
  have d1 : decide (32 < (ws.length : Int)) = false := decide_eq_false (by omega)
  have d2 : decide (256 < (ps.length : Int)) = false := decide_eq_false (by omega)
  by_cases h3 : (wrongS ws ps).1 = 0
  · have e := (wrong_ok h3).1
    rw [hg, decide_eq_false (by rw [e]; rintro (h | h | h); exact h1 h; exact h2 h; exact h rfl)] at hR
    replace cW1 := cW1.out
    rw [e] at cW1
    replace cW1 := Lib.hid cW1
    clear hg e h3 cW
    go_enter Try.func7, Try.ntmps7
    go_wp2_with fail
    refine cW1.out _ (Lib.hid fun w2 n2 => ?_)
    have nf := Lib.hid (b1.out.trans (n2.mono b1.out.size))
    clear n2 k0 k1
    go_wp2_with fail
    exact hR.out _ nf.out
  · rw [hg, decide_eq_true (.inr (.inr fun e => h3 (by rw [e])))] at hR
    clear hg cW
    generalize wrongS ws ps = V at *
    obtain ⟨e, z⟩ := V
    have q0 : (e == 0) = false := by simpa using h3
    clear h3
    go_enter Try.func7, Try.ntmps7
    go_wp2_with fail
    refine cW1.out _ (Lib.hid fun w2 n2 => ?_)
    have nf := Lib.hid (b1.out.trans (n2.mono b1.out.size))
    clear n2 k0 k1
    go_wp2_with fail
    exact hR.out _ nf.out
theorem dia_h1 : higS 4 (leqF dW dP) (lvS 4 [0, 1, 0]) = [1] := by decide +kernel
theorem dia_h2 : higS 4 (leqF dW dP) (lvS 4 [1, 2]) = [1, 2] := by decide +kernel
theorem dia_h3 : txtS (nms dW) (higS 4 (leqF dW dP) (lvS 4 [2, 1])) = ⟨#[97, 43, 98]⟩ := by decide +kernel
end Go.Proofs.Ytlijjbcamkhhaaa.Lab

/- Layer 12: lives. -/
set_option maxRecDepth 100000
set_option linter.unusedVariables false
namespace Go.Proofs.Ytlijjbcamkhhaaa.Lab
open Go.RowKit Go.Lib Go.Proofs.Ytlijjbcamkhhaaa.Rel Go.Proofs.Ytlijjbcamkhhaaa.Nam Go.Proofs.Ytlijjbcamkhhaaa.Lat Go.ChangeShapes Go.WideShapes

theorem own_row {w : World} {base : Nat} {v : Value} {L : Nat} {l : List Nat} (h : w.ownsRow base 3 1 v L (ivR l)) : L = l.length ∧ RdZ w v (l.map fun (a : Nat) => (a : Int)) ∧ ∃ A c, v = .slice A l.length c := by
  have hl := h.1
  rw [ivR_len] at hl
  have e : L = l.length := by omega
  have r := RdAt.of_own h
  refine ⟨e, by rw [RdZ, ← iv_izv]; exact r, ?_⟩
  obtain ⟨A, c, e2, -, -⟩ := ivR_at r
  exact ⟨A, c, e2⟩
theorem rdz_new (W : World) (us : Array Value) (xs : List Int) (h : us.toList = izv xs) : RdZ (W.alloc (.cells us 3)) (.slice (some ⟨W.heap.size, 0, none⟩) xs.length xs.length) xs := by
  have := rd_new W us 3 1 xs.length (by rw [← Array.length_toList, h, izv_len, Nat.mul_one])
  rwa [h] at this
set_option maxRecDepth 100000 in
set_option maxHeartbeats 4000000 in
theorem lives12_calls (w : World) (R : Ending → World → Prop) (hR : Hid (∀ w', Below w.heap.size w w' → R (.returned (.bool true)) w')) : Calls Try.prog 8 #[] w R := by
  obtain ⟨nb, z0, a0, a1, b0, b1, c0, c1, d0, d1⟩ := four_words w
  have cB := Lib.hid fun vw vp (W : World) hw hp R hR hR2 => build_calls dW dP vw vp W hw hp (by decide) (by decide) (by decide) (by decide) R hR hR2
  have cH1 := fun v vx (W : World) h hx R hR => labhighest_calls (nms dW) (leqF dW dP) v W h [0, 1, 0] vx hx (by decide) (by decide) R hR
  have cH2 := fun v vx (W : World) h hx R hR => labhighest_calls (nms dW) (leqF dW dP) v W h [1, 2] vx hx (by decide) (by decide) R hR
  have cT := fun v vx (W : World) h hx R hR => labtext_calls (nms dW) (leqF dW dP) v W h (by decide) [2, 1] vx hx (by decide) (by decide) R hR
  rw [show (nms dW).length = 4 from rfl] at cH1 cH2 cT
  rw [dia_h1] at cH1
  rw [dia_h2] at cH2
  rw [dia_h3] at cT
  replace cH1 := Lib.hid cH1
  replace cH2 := Lib.hid cH2
  replace cT := Lib.hid cT
  have cS := Lib.hid fun xs ys va vb (W : World) hx hy hxl hyl R hR => refsame12_calls xs ys va vb W hx hy hxl hyl R hR
  go_enter Try.func8, Try.ntmps8
  go_upto_region 2 with fail
  rw [show (⟨#[108, 111, 119]⟩ : ByteArray) = nLow from rfl, show (⟨#[97]⟩ : ByteArray) = nA from rfl, show (⟨#[98]⟩ : ByteArray) = nB from rfl, show (⟨#[104, 105, 103, 104]⟩ : ByteArray) = nHigh from rfl]
  generalize ((((w.alloc (.cells #[.string nLow, .int .i64 0] 45)).alloc (.cells #[.string nA, .int .i64 0] 45)).alloc (.cells #[.string nB, .int .i64 0] 45)).alloc (.cells #[.string nHigh, .int .i64 0] 45)) = W at *
  have hh : Hid (w.heap.size < W.heap.size ∧ w.heap.size + 1 < W.heap.size ∧ w.heap.size + 1 + 1 < W.heap.size ∧ w.heap.size + 1 + 1 + 1 < W.heap.size) := Lib.hid ⟨by omega, by omega, by omega, by omega⟩
  replace nb := Lib.hid nb
  replace z0 := Lib.hid z0
  generalize w.heap.size + 1 + 1 + 1 = H3 at *
  generalize w.heap.size + 1 + 1 = H2 at *
  generalize w.heap.size + 1 = H1 at *
  generalize hH0 : w.heap.size = H0 at *
  replace hH0 := Lib.hid hH0
  obtain ⟨h0, h1, h2, h3⟩ := hh.out
  have wB := fun o => (Below.refl W.heap.size W).alloc (Nat.le_refl _) o
  let oW : Obj := .cells #[.string nLow, .int .i64 0, .string nA, .int .i64 0, .string nB, .int .i64 0, .string nHigh, .int .i64 0] 45
  have ka0 := alloc_cell oW h0 a0
  have ka1 := alloc_cell oW h0 a1
  have kb0 := alloc_cell oW h1 b0
  have kb1 := alloc_cell oW h1 b1
  have kc0 := alloc_cell oW h2 c0
  have kc1 := alloc_cell oW h2 c1
  have kd0 := alloc_cell oW h3 d0
  have kd1 := alloc_cell oW h3 d1
  replace wB := Lib.hid wB
  go_wp2_with fail
  clear ka0 ka1 kb0 kb1 kc0 kc1 kd0 kd1
  have r1 := (rd_new W #[.string nLow, .int .i64 0, .string nA, .int .i64 0, .string nB, .int .i64 0, .string nHigh, .int .i64 0] 45 2 4 rfl).below ((Below.refl _ _).alloc (Nat.le_refl _) (.cells #[.string nLow, .int .i64 0, .string nA, .int .i64 0, .string nLow, .int .i64 0, .string nB, .int .i64 0, .string nA, .int .i64 0, .string nHigh, .int .i64 0, .string nB, .int .i64 0, .string nHigh, .int .i64 0] 62))
  have r2 := rd_new (W.alloc (.cells #[.string nLow, .int .i64 0, .string nA, .int .i64 0, .string nB, .int .i64 0, .string nHigh, .int .i64 0] 45)) #[.string nLow, .int .i64 0, .string nA, .int .i64 0, .string nLow, .int .i64 0, .string nB, .int .i64 0, .string nA, .int .i64 0, .string nHigh, .int .i64 0, .string nB, .int .i64 0, .string nHigh, .int .i64 0] 62 4 4 rfl
  rw [show (W.alloc (.cells #[.string nLow, .int .i64 0, .string nA, .int .i64 0, .string nB, .int .i64 0, .string nHigh, .int .i64 0] 45)).heap.size = W.heap.size + 1 by simp] at r2
  have n0 := (nb.out.alloc (Nat.le_of_lt h0) (.cells #[.string nLow, .int .i64 0, .string nA, .int .i64 0, .string nB, .int .i64 0, .string nHigh, .int .i64 0] 45)).alloc (by simp; omega) (.cells #[.string nLow, .int .i64 0, .string nA, .int .i64 0, .string nLow, .int .i64 0, .string nB, .int .i64 0, .string nA, .int .i64 0, .string nHigh, .int .i64 0, .string nB, .int .i64 0, .string nHigh, .int .i64 0] 62)
  refine cB.out _ _ _ r1 r2 _ (Lib.hid fun v w2 _ l2 n2 => ?_) (Lib.hid fun w2 h _ => absurd (show (wrongS dW dP).1 = 0 by rw [dia_ok]) h)
  clear r1 r2 a0 a1 b0 b1 c0 c1 d0 d1 h0 h1 h2 h3 hh wB z0 oW nb
  have hs0 := n0.size
  have n3 := n0.trans (n2.mono (by have := hH0.out; omega))
  obtain ⟨p, rfl⟩ := l2.ptr
  have f3 := (Below.refl w2.heap.size w2).alloc (Nat.le_refl _) (.cells #[.int .i64 0, .int .i64 0] 31)
  have hw2 : w.heap.size ≤ w2.heap.size := n3.size
  have n4 := n3.alloc (by have := hH0.out; omega) (.cells #[.int .i64 0, .int .i64 0] 31)
  have z4 : (w2.alloc (.cells #[.int .i64 0, .int .i64 0] 31)).heap.size = w2.heap.size + 1 := by simp
  have l4 := l2.below f3
  have b4 := (Below.refl (w2.alloc (.cells #[.int .i64 0, .int .i64 0] 31)).heap.size (w2.alloc (.cells #[.int .i64 0, .int .i64 0] 31))).alloc (Nat.le_refl _) (.cells #[.int .i64 0, .int .i64 1, .int .i64 0] 3)
  have l5 := l4.below b4
  have n5 := n4.alloc (by rw [z4]; have := hH0.out; omega) (.cells #[.int .i64 0, .int .i64 1, .int .i64 0] 3)
  have x5 : RdZ _ (.slice (some ⟨_, 0, none⟩) 3 3) [0, 1, 0] := rdz_new (w2.alloc (.cells #[.int .i64 0, .int .i64 0] 31)) #[.int .i64 0, .int .i64 1, .int .i64 0] [0, 1, 0] rfl
  rw [z4] at x5
  replace l5 := Lib.hid l5
  replace x5 := Lib.hid x5
  replace n5 := Lib.hid n5
  replace z4 := Lib.hid z4
  clear n0 n2 n3 l2 f3 n4 l4 b4 hs0
  go_wp2_with fail
  refine cH1.out _ _ _ l5.out x5.out _ (Lib.hid fun v6 L6 w6 o6 n6 => ?_)
  obtain ⟨rfl, r6, A6, c6, rfl⟩ := own_row o6
  have r6 : RdZ w6 (.slice A6 1 c6) [1] := r6
  have n7 := n5.out.trans (n6.mono (by have := n5.out.size; have := hH0.out; omega))
  have l7 := l5.out.below n6
  have b7 := (Below.refl w6.heap.size w6).alloc (Nat.le_refl _) (.cells #[.int .i64 1] 3)
  have s7 : RdZ _ (.slice (some ⟨_, 0, none⟩) 1 1) [1] := rdz_new w6 #[.int .i64 1] [1] rfl
  have r7 := r6.below b7
  have n8 := n7.alloc (by have := n7.size; have := hH0.out; omega) (.cells #[.int .i64 1] 3)
  have l8 := l7.below b7
  replace s7 := Lib.hid s7
  replace r7 := Lib.hid r7
  replace n8 := Lib.hid n8
  replace l8 := Lib.hid l8
  clear o6 n6 r6 n7 l7 b7 l5 x5 n5 z4 cB
  change Hid (RdZ _ (.slice A6 [1].length c6) [1]) at r7
  go_wp2_with fail
  refine cS.out [1] [1] _ _ _ r7.out s7.out (by decide) (by decide) _ (Lib.hid fun w9 n9 => ?_)
  rw [show decide (([1] : List Int) = [1]) = true from rfl]
  have n10 := n8.out.trans (n9.mono (by have := n8.out.size; have := hH0.out; omega))
  have l10 := l8.out.below n9
  have b10 := (Below.refl w9.heap.size w9).alloc (Nat.le_refl _) (.cells #[.int .i64 1, .int .i64 2] 3)
  have l11 := Lib.hid (l10.below b10)
  have x11 : RdZ _ (.slice (some ⟨_, 0, none⟩) 2 2) [1, 2] := rdz_new w9 #[.int .i64 1, .int .i64 2] [1, 2] rfl
  replace x11 := Lib.hid x11
  have n11 := Lib.hid (n10.alloc (by have := n10.size; have := hH0.out; omega) (.cells #[.int .i64 1, .int .i64 2] 3))
  clear n9 n10 l10 b10 r7 s7 n8 l8
  go_wp2_with fail
  refine cH2.out _ _ _ l11.out x11.out _ (Lib.hid fun v6 L6 w6 o6 n6 => ?_)
  obtain ⟨rfl, r6, A6, c6, rfl⟩ := own_row o6
  have r6 : RdZ w6 (.slice A6 2 c6) [1, 2] := r6
  have n7 := n11.out.trans (n6.mono (by have := n11.out.size; have := hH0.out; omega))
  have l7 := l11.out.below n6
  have b7 := (Below.refl w6.heap.size w6).alloc (Nat.le_refl _) (.cells #[.int .i64 1, .int .i64 2] 3)
  have s7 : RdZ _ (.slice (some ⟨_, 0, none⟩) 2 2) [1, 2] := rdz_new w6 #[.int .i64 1, .int .i64 2] [1, 2] rfl
  have r7 := r6.below b7
  have n8 := n7.alloc (by have := n7.size; have := hH0.out; omega) (.cells #[.int .i64 1, .int .i64 2] 3)
  have l8 := l7.below b7
  replace s7 := Lib.hid s7
  replace r7 := Lib.hid r7
  replace n8 := Lib.hid n8
  replace l8 := Lib.hid l8
  clear o6 n6 r6 n7 l7 b7 l11 x11 n11
  change Hid (RdZ _ (.slice A6 [1, 2].length c6) [1, 2]) at r7
  go_wp2_with fail
  refine cS.out [1, 2] [1, 2] _ _ _ r7.out s7.out (by decide) (by decide) _ (Lib.hid fun w12 n12 => ?_)
  rw [show decide (([1, 2] : List Int) = [1, 2]) = true from rfl]
  have n13 := n8.out.trans (n12.mono (by have := n8.out.size; have := hH0.out; omega))
  have l13 := l8.out.below n12
  have b13 := (Below.refl w12.heap.size w12).alloc (Nat.le_refl _) (.cells #[.int .i64 2, .int .i64 1] 3)
  have l14 := Lib.hid (l13.below b13)
  have x14 : RdZ _ (.slice (some ⟨_, 0, none⟩) 2 2) [2, 1] := rdz_new w12 #[.int .i64 2, .int .i64 1] [2, 1] rfl
  replace x14 := Lib.hid x14
  have n14 := Lib.hid (n13.alloc (by have := n13.size; have := hH0.out; omega) (.cells #[.int .i64 2, .int .i64 1] 3))
  clear n12 n13 l13 b13 r7 s7 n8 l8
  go_wp2_with fail
  refine cT.out _ _ _ l14.out x14.out _ (Lib.hid fun w15 n15 => ?_)
  have nf := Lib.hid (n14.out.trans (n15.mono (by have := n14.out.size; have := hH0.out; omega)))
  have eS : ((⟨#[97, 43, 98]⟩ : ByteArray).toList == (⟨#[97, 43, 98]⟩ : ByteArray).toList) = true := seq_t rfl
  clear n14 n15 l14 x14
  go_wp2_with fail
  exact hR.out _ nf.out
end Go.Proofs.Ytlijjbcamkhhaaa.Lab
