/- The code's text of a step and Format. -/
import Derived.Test.YtjcmljdkegpjbaaPatG
import Derived.Test.YtjcmljdkegpjbaaPatB
import Derived.Test.YtjcmljdkegpjbaaDigB
set_option linter.unusedVariables false
namespace Go.Proofs.Ytjcmljdkegpjbaa.Pat
open Go.RowKit Go.Lib Go.Proofs.Ytjcmljdkegpjbaa.Utf Go.Proofs.Ytjcmljdkegpjbaa.Nam Go.Proofs.Ytjcmljdkegpjbaa.Dig Go.Proofs.Ytjcmljdkegpjbaa.Bld

set_option maxRecDepth 100000 in
set_option maxHeartbeats 2000000 in
theorem text_calls (x : St) (hx : GoodS x) (hr : RightSt x) (w : World) (R : Ending → World → Prop)
    (hR : Hid (∀ w' t, Below w.heap.size w w' → bl t = txt x → R (.returned (.string t)) w')) : Calls Try.prog 23 #[stV x] w R := by
  have nW := Lib.hid ((Below.refl w.heap.size w).alloc (Nat.le_refl _) (.cells #[.int .i64 x.1, .int .i64 x.2.1, .string x.2.2] 36))
  rcases right_cases hr with ⟨nm, rfl, hn⟩ | ⟨n, rfl, hn⟩ | rfl | rfl | ⟨nm, rfl, hn⟩
  all_goals
    unfold stV
    obtain ⟨b1, b2, b3⟩ := hx
    simp only at nW b1 b2 b3 ⊢
  · have h32 := rightS_pos hn
    clear hr hn
    go_enter Try.func23, Try.ntmps23
    go_wp2_with fail
    exact hR.out _ _ nW.out (by rw [bl_append]; rfl)
  · have cP := fun (W : World) R hR => put_calls n b2.1 b2.2 W R hR
    have hpl := putL_bd b2.1 b2.2
    have hps : (putS n).size ≤ 20 := by rw [← bl_length, bl_put]; exact hpl
    have hpb := Lib.hid (bl_put n)
    clear hr hpl
    generalize putS n = p at *
    replace cP := Lib.hid cP
    go_enter Try.func23, Try.ntmps23
    go_wp2_with fail
    refine cP.out _ _ (Lib.hid fun w2 n2 => ?_)
    have n3 := Lib.hid (nW.out.trans (n2.mono nW.out.size))
    clear n2
    go_wp2_with fail
    exact hR.out _ _ n3.out (by rw [bl_append, bl_append, hpb.out]; rfl)
  · clear hr
    go_enter Try.func23, Try.ntmps23
    go_wp2_with fail
    exact hR.out _ _ nW.out rfl
  · clear hr
    go_enter Try.func23, Try.ntmps23
    go_wp2_with fail
    exact hR.out _ _ nW.out rfl
  · have h32 := rightS_pos hn
    clear hr hn
    go_enter Try.func23, Try.ntmps23
    go_wp2_with fail
    exact hR.out _ _ nW.out (by rw [bl_append]; rfl)

set_option maxRecDepth 100000 in
set_option maxHeartbeats 2000000 in
theorem format_steps (xs : List St) (v : Value) (w : World) (hx : RdP w v xs) (hg : ∀ x ∈ xs, GoodS x) (R : Ending → World → Prop)
    (hR : Hid (∀ w', Below w.heap.size w w' → R (.returned (.string (fmtS xs))) w')) : Calls Try.prog 11 #[v] w R := by
  have cR := fun R hR => right_steps xs v w hx hg R hR
  obtain ⟨A, c, rfl, hlc, hr⟩ := hx.op
  replace hr := Lib.hid hr
  clear hx
  by_cases hP : RightP xs
  · rw [decide_eq_true hP] at cR
    replace cR := Lib.hid cR
    have h64 := hP.1
    replace hP := Lib.hid hP
    go_enter Try.func11, Try.ntmps11
    go_wp2_with fail
    refine cR.out _ (Lib.hid fun w1 n1 => ?_)
    have z1 := n1.size
    have b0 := Lib.hid (Bld.fresh w1)
    have n2 := Lib.hid (n1.alloc z1 (.cells #[.pointer none, .slice none 0 0] 45))
    have hlt : w1.heap.size < (w1.alloc (.cells #[.pointer none, .slice none 0 0] 45)).heap.size := by simp
    have hBw : w.heap.size ≤ w1.heap.size := z1
    go_wp2_with fail
    generalize w1.alloc (.cells #[.pointer none, .slice none 0 0] 45) = w2 at *
    generalize hB : w1.heap.size = B at *
    clear hB n1
    go_loopg [11] xs.length (fun k i wr => ∃ (K : Nat) (out : ByteArray), Below w.heap.size w wr ∧ Hid (Bld B B out wr) ∧ i = .int .i64 K ∧ K + k = xs.length ∧ out.size ≤ 34 * K ∧ B ≤ wr.heap.size ∧ Hid (bl out = fmtL (xs.take K)))
    case atStart => exact ⟨0, ByteArray.empty, n2.out, b0, rfl, by omega, by decide, by omega, Lib.hid (by rfl)⟩
    case round =>
      obtain ⟨K, out, hbel, hb, rfl, c1, c3, c4, c2⟩ := hrel
      have hsz := hbel.size
      by_cases hK : K < xs.length
      · obtain ⟨g, o, rfl, hg1, hca⟩ := hr.out (by omega)
        obtain ⟨a0, a1, a2⟩ := hca K hK
        have e0 := (hbel.cell (p := ⟨g, o + K * 3, none⟩) hg1).trans a0
        have e1 := (hbel.cell (p := ⟨g, o + K * 3 + 1, none⟩) hg1).trans a1
        have e2 := (hbel.cell (p := ⟨g, o + K * 3 + 2, none⟩) hg1).trans a2
        have hq := fmtL_take hK
        rw [← c2.out] at hq
        have hrs := hP.out.2 _ (stN_mem hK)
        have hgx := hg _ (stN_mem hK)
        have hbd := txt_bd hrs hgx.2.1.2
        have cT := fun (W : World) R hR => text_calls (stN xs K) hgx hrs W R hR
        have hK64 : 34 * K ≤ 2176 := by omega
        clear hca a0 a1 a2 c2 hgx hrs
        generalize stN xs K = x at *
        obtain ⟨k, n, nm⟩ := x
        unfold stV at cT
        simp only at e0 e1 e2 cT
        replace cT := Lib.hid cT
        replace hq := Lib.hid hq
        have nA := Lib.hid (hbel.alloc hsz (.cells #[.int .i64 k, .int .i64 n, .string nm] 36))
        have bA := Lib.hid (hb.out.alloc (.cells #[.int .i64 k, .int .i64 n, .string nm] 36))
        go_wp2_with fail
        refine cT.out _ _ (Lib.hid fun w3 t n3 ht => ?_)
        have z3 := n3.size
        have b3 := Lib.hid (bA.out.below n3)
        have n4 := nA.out.trans (n3.mono nA.out.size)
        have z4 := n4.size
        have z5 : B ≤ w3.heap.size := by have := b3.out.lt; omega
        have tl : t.size ≤ 34 := by rw [← bl_length, ht]; exact hbd
        replace n4 := Lib.hid n4
        have hq2 : bl (out ++ t) = fmtL (xs.take (K + 1)) := by rw [hq.out, bl_append, ht]
        have hs2 : (out ++ t).size ≤ 34 * (K + 1) := by rw [ByteArray.size_append]; omega
        replace hq2 := Lib.hid hq2
        clear n3 ht hbd
        go_wp2_with fail
        refine wstr_calls B B out t _ b3.out (by omega) z5 _ (Lib.hid fun w5 b5 n5 k5 => ?_)
        have n6 := Lib.hid (n4.out.trans (n5.mono hBw))
        have z6 := n5.size
        replace b5 := Lib.hid b5
        clear n5 k5
        go_wp2_with fail
        go_roundg (gk - 1)
        case measure => omega
        case rel => exact ⟨K + 1, _, n6.out, b5, by go_num, by omega, hs2, by omega, hq2⟩
      · have e := c2.out
        rw [List.take_of_length_le (by omega)] at e
        have e' := fmt_of hP.out e
        rw [← e'] at hR
        clear c2 e e'
        go_wp2_with fail
        refine bstr_calls B B _ _ hb.out c4 _ (Lib.hid fun w3 b3 n3 k3 => ?_)
        have n4 := Lib.hid (hbel.trans (n3.mono hBw))
        clear n3 k3 b3
        go_wp2_with fail
        exact hR.out _ n4.out
  · rw [decide_eq_false hP] at cR
    replace cR := Lib.hid cR
    have e : fmtS xs = ⟨#[]⟩ := by unfold fmtS; rw [if_neg hP]
    rw [e] at hR
    clear e hP
    go_enter Try.func11, Try.ntmps11
    go_wp2_with fail
    refine cR.out _ (Lib.hid fun w1 n1 => ?_)
    go_wp2_with fail
    exact hR.out _ n1
end Go.Proofs.Ytjcmljdkegpjbaa.Pat
