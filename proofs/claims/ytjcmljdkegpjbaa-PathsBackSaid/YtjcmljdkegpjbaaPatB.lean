/- The reference's Format. -/
import Derived.Test.YtjcmljdkegpjbaaPatA
import Derived.Test.YtjcmljdkegpjbaaDigP
set_option linter.unusedVariables false
namespace Go.Proofs.Ytjcmljdkegpjbaa.Pat
open Go.RowKit Go.Lib Go.Proofs.Ytjcmljdkegpjbaa.Utf Go.Proofs.Ytjcmljdkegpjbaa.Nam Go.Proofs.Ytjcmljdkegpjbaa.Dig

theorem take_succP (xs : List St) (k : Nat) (h : k < xs.length) : xs.take (k + 1) = xs.take k ++ [stN xs k] := by
  rw [List.take_add_one, stN, List.getD, List.getElem?_eq_getElem h]; rfl
theorem fmtL_take {xs : List St} {K : Nat} (h : K < xs.length) : fmtL (xs.take (K + 1)) = fmtL (xs.take K) ++ txt (stN xs K) := by
  rw [take_succP xs K h, fmtL_append]; simp [fmtL]
theorem fmt_of {l : List St} {a : ByteArray} (h : RightP l) (e : bl a = fmtL l) : a = fmtS l := bl_ext (by rw [e, bl_fmt h])
theorem txt_bd {x : St} (h : RightSt x) (hb : x.2.1 ≤ 9223372036854775807) : (txt x).length ≤ 34 := by
  rcases right_cases h with ⟨nm, rfl, hn⟩ | ⟨n, rfl, hn⟩ | rfl | rfl | ⟨nm, rfl, hn⟩
  · have := rightS_pos hn; simp [txt, bl_length]; omega
  · have := putL_bd (n := n) (by omega) hb; simp [txt]; omega
  · decide
  · decide
  · have := rightS_pos hn; simp [txt, bl_length]; omega

set_option maxRecDepth 100000 in
set_option maxHeartbeats 2000000 in
theorem refformat_calls (xs : List St) (v : Value) (w : World) (hx : RdP w v xs) (hg : ∀ x ∈ xs, GoodS x) (R : Ending → World → Prop)
    (hR : Hid (∀ w', Below w.heap.size w w' → R (.returned (.string (fmtS xs))) w')) : Calls Try.prog 12 #[v] w R := by
  have cR := fun R hR => refright_steps xs v w hx hg R hR
  obtain ⟨A, c, rfl, hlc, hr⟩ := hx.op
  replace hr := Lib.hid hr
  clear hx
  by_cases hP : RightP xs
  · rw [decide_eq_true hP] at cR
    replace cR := Lib.hid cR
    have h64 := hP.1
    replace hP := Lib.hid hP
    go_enter Try.func12, Try.ntmps12
    go_wp2_with fail
    refine cR.out _ (Lib.hid fun w1 n1 => ?_)
    replace n1 := Lib.hid n1
    go_wp2_with fail
    go_loopg [3, 4] xs.length (fun k s i wr => ∃ (K : Nat) (out : ByteArray), Below w.heap.size w wr ∧ s = .string out ∧ i = .int .i64 K ∧ K + k = xs.length ∧ out.size ≤ 34 * K ∧ Hid (bl out = fmtL (xs.take K)))
    case atStart => exact ⟨0, ⟨#[]⟩, n1.out, rfl, rfl, by omega, by decide, Lib.hid (by rfl)⟩
    case round =>
      obtain ⟨K, out, hbel, rfl, rfl, c1, c3, c2⟩ := hrel
      have hsz := hbel.size
      by_cases hK : K < xs.length
      · obtain ⟨g, o, rfl, hg1, hca⟩ := hr.out (by omega)
        obtain ⟨a0, a1, a2⟩ := hca K hK
        have e0 := (hbel.cell (p := ⟨g, o + K * 3, none⟩) hg1).trans a0
        have e1 := (hbel.cell (p := ⟨g, o + K * 3 + 1, none⟩) hg1).trans a1
        have e2 := (hbel.cell (p := ⟨g, o + K * 3 + 2, none⟩) hg1).trans a2
        have hq := fmtL_take hK
        rw [← c2.out] at hq
        have hrs := hP.out.2 _ (stN_mem hK)
        obtain ⟨b1, b2, b3⟩ := hg _ (stN_mem hK)
        have hbd := txt_bd hrs b2.2
        have hK64 : 34 * K ≤ 2176 := by omega
        clear hca a0 a1 a2 c2
        generalize stN xs K = x at *
        have fin : ∀ a : ByteArray, bl a = bl out ++ txt x → a.size ≤ 34 * (K + 1) ∧ bl a = fmtL (xs.take (K + 1)) := fun a h => by
          refine ⟨?_, by rw [h, hq]⟩
          have := congrArg List.length h
          rw [bl_length, List.length_append, bl_length] at this
          omega
        replace fin := Lib.hid fin
        replace hq := Lib.hid hq
        rcases right_cases hrs with ⟨nm, rfl, hn⟩ | ⟨n, rfl, hn⟩ | rfl | rfl | ⟨nm, rfl, hn⟩
        · have h32 := rightS_pos hn
          simp only at e0 e1 e2 b1 b2 b3
          clear hrs hbd hn
          go_wp2_with fail
          obtain ⟨q1, q2⟩ := fin.out (out ++ ⟨#[46]⟩ ++ nm) (by rw [bl_append, bl_append, List.append_assoc]; rfl)
          go_roundg (gk - 1)
          case measure => omega
          case rel => exact ⟨K + 1, _, hbel, rfl, by go_num, by omega, q1, Lib.hid q2⟩
        · simp only at e0 e1 e2 b1 b2 b3
          have cP := fun (W : World) R hR => refput_calls n.natAbs n (Nat.le_refl _) b2.1 b2.2 W R hR
          have hpl := putL_bd b2.1 b2.2
          have hps : (putS n).size ≤ 20 := by rw [← bl_length, bl_put]; exact hpl
          have hpb := Lib.hid (bl_put n)
          clear hrs hbd hpl
          generalize putS n = p at *
          replace cP := Lib.hid cP
          go_wp2_with fail
          refine cP.out _ _ (Lib.hid fun w2 n2 => ?_)
          have n3 := Lib.hid (hbel.trans (n2.mono hsz))
          clear n2
          go_wp2_with fail
          obtain ⟨q1, q2⟩ := fin.out (out ++ ⟨#[91]⟩ ++ p ++ ⟨#[93]⟩) (by rw [bl_append, bl_append, bl_append, hpb.out, List.append_assoc, List.append_assoc]; rfl)
          go_roundg (gk - 1)
          case measure => omega
          case rel => exact ⟨K + 1, _, n3.out, rfl, by go_num, by omega, q1, Lib.hid q2⟩
        · simp only at e0 e1 e2 b1 b2 b3
          clear hrs hbd
          go_wp2_with fail
          obtain ⟨q1, q2⟩ := fin.out (out ++ ⟨#[91, 93]⟩) (by rw [bl_append]; rfl)
          go_roundg (gk - 1)
          case measure => omega
          case rel => exact ⟨K + 1, _, hbel, rfl, by go_num, by omega, q1, Lib.hid q2⟩
        · simp only at e0 e1 e2 b1 b2 b3
          clear hrs hbd
          go_wp2_with fail
          obtain ⟨q1, q2⟩ := fin.out (out ++ ⟨#[63]⟩) (by rw [bl_append]; rfl)
          go_roundg (gk - 1)
          case measure => omega
          case rel => exact ⟨K + 1, _, hbel, rfl, by go_num, by omega, q1, Lib.hid q2⟩
        · have h32 := rightS_pos hn
          simp only at e0 e1 e2 b1 b2 b3
          clear hrs hbd hn
          go_wp2_with fail
          obtain ⟨q1, q2⟩ := fin.out (out ++ ⟨#[33]⟩ ++ nm) (by rw [bl_append, bl_append, List.append_assoc]; rfl)
          go_roundg (gk - 1)
          case measure => omega
          case rel => exact ⟨K + 1, _, hbel, rfl, by go_num, by omega, q1, Lib.hid q2⟩
      · have e := c2.out
        rw [List.take_of_length_le (by omega)] at e
        have e' := fmt_of hP.out e
        rw [← e'] at hR
        clear c2 e e'
        go_wp2_with fail
        exact hR.out _ hbel
  · rw [decide_eq_false hP] at cR
    replace cR := Lib.hid cR
    have e : fmtS xs = ⟨#[]⟩ := by unfold fmtS; rw [if_neg hP]
    rw [e] at hR
    clear e hP
    go_enter Try.func12, Try.ntmps12
    go_wp2_with fail
    refine cR.out _ (Lib.hid fun w1 n1 => ?_)
    go_wp2_with fail
    exact hR.out _ n1
end Go.Proofs.Ytjcmljdkegpjbaa.Pat
