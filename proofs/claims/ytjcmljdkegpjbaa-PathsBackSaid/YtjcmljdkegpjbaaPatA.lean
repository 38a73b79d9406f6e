/- A slice of steps as a list; the reference's Right. -/
import Derived.Test.YtjcmljdkegpjbaaFlat
import Derived.Test.YtjcmljdkegpjbaaPatS
import Derived.Test.YtjcmljdkegpjbaaNamA
import Derived.ChangeArms
set_option linter.unusedVariables false
namespace Go.Proofs.Ytjcmljdkegpjbaa.Pat
open Go.RowKit Go.Lib Go.Proofs.Ytjcmljdkegpjbaa.Utf Go.Proofs.Ytjcmljdkegpjbaa.Nam Go.Proofs.Ytjcmljdkegpjbaa.Dig Go.ChangeShapes Go.WideShapes

def encP (x : St) : List Value := [.int .i64 x.1, .int .i64 x.2.1, .string x.2.2]
theorem encP_len (x : St) : (encP x).length = 3 := rfl
abbrev RdP := RdG encP 3
/-- A step as a value. -/
def stV (x : St) : Value := .agg #[.int .i64 x.1, .int .i64 x.2.1, .string x.2.2]
/-- What a step that came in fits. -/
def GoodS (x : St) : Prop := (-9223372036854775808 ≤ x.1 ∧ x.1 ≤ 9223372036854775807) ∧ (-9223372036854775808 ≤ x.2.1 ∧ x.2.1 ≤ 9223372036854775807) ∧ x.2.2.size ≤ maxLen
theorem arg_steps {H : Type} {enc' : TypeId × Value → H} {W : World} {base : Nat} {v : Value} {d : DataW H} {p : List MemPlace} (hv : Value.okWide Try.prog W .any base 22 v)
    (h : DataW.Trod enc' Try.prog W 0 (fun _ => true) true 22 v d p) : ∃ xs : List St, RdP W v xs ∧ (∀ x ∈ xs, GoodS x) ∧ (xs = [] ∨ ∃ es sp, d = .slice es sp ∧ es.length = xs.length) := by
  haveI : Inhabited St := ⟨(0, 0, ⟨#[]⟩)⟩
  refine arg_flat encP_len (by decide) GoodS Try.underlying22 (by kernel_rfl) hv h fun n cs x hx hl => ?_
  obtain ⟨ys, m, -, -, -, hys, hf⟩ := DataW.trod_struct Try.underlying36 hx
  match ys, hys, cs, hl with
  | [y0, y1, y2], _, [v0, v1, v2], _ =>
    have g0 := hf 0 _ rfl
    have g1 := hf 1 _ rfl
    have g2 := hf 2 _ rfl
    have c3 : Try.prog.cellsOf 3 = 1 := by kernel_rfl
    have c9 : Try.prog.cellsOf 9 = 1 := by kernel_rfl
    simp [c3, c9] at g0 g1 g2
    obtain ⟨n0, h0, -, w0⟩ := DataW.trod_int Try.underlying3 g0
    obtain ⟨n1, h1, -, w1⟩ := DataW.trod_int Try.underlying3 g1
    obtain ⟨s2, h2, -, w2⟩ := DataW.trod_string Try.underlying9 g2
    simp at h0 h1 h2
    subst h0 h1 h2
    exact ⟨(n0, n1, s2), rfl, wf64 w0, wf64 w1, w2⟩
abbrev stN (xs : List St) (i : Nat) : St := xs.getD i (0, 0, ⟨#[]⟩)
theorem stN_get {xs : List St} {i : Nat} (h : i < xs.length) : stN xs i = xs[i] := by simp [stN, List.getD, List.getElem?_eq_getElem h]
theorem stN_mem {xs : List St} {i : Nat} (h : i < xs.length) : stN xs i ∈ xs := by rw [stN_get h]; exact List.getElem_mem h
theorem RdP.op {w : World} {v : Value} {xs : List St} (h : RdP w v xs) : ∃ (A : Option Addr) (c : Nat), v = .slice A xs.length c ∧ xs.length ≤ c ∧
    (0 < xs.length → ∃ g o, A = some ⟨g, o, none⟩ ∧ g < w.heap.size ∧ ∀ i, i < xs.length → w.cell? ⟨g, o + i * 3, none⟩ = some (.int .i64 (stN xs i).1) ∧ w.cell? ⟨g, o + i * 3 + 1, none⟩ = some (.int .i64 (stN xs i).2.1) ∧ w.cell? ⟨g, o + i * 3 + 2, none⟩ = some (.string (stN xs i).2.2)) := by
  obtain ⟨A, c, rfl, hc, hr⟩ := RdG.open encP_len (by decide) h
  refine ⟨A, c, rfl, hc, fun h0 => ?_⟩
  obtain ⟨g, o, rfl, hg, hca⟩ := hr h0
  refine ⟨g, o, rfl, hg, fun i hi => ?_⟩
  rw [stN_get hi]
  exact ⟨hca i hi 0 (by decide), hca i hi 1 (by decide), hca i hi 2 (by decide)⟩
theorem RdP.lt {w : World} {g o c n : Nat} {xs : List St} (h : RdP w (.slice (some ⟨g, o, none⟩) n c) xs) (h0 : 0 < xs.length) : g < w.heap.size := by
  obtain ⟨A, c', e, -, hr⟩ := h.op
  obtain ⟨g', o', e2, hg, -⟩ := hr h0
  simp only [Value.slice.injEq] at e
  rw [← e.1] at e2
  simp only [Option.some.injEq, Addr.mk.injEq] at e2
  omega
theorem right_iff {k n : Int} {nm : ByteArray} : RightSt (k, n, nm) ↔ 1 ≤ k ∧ k ≤ 5 ∧ ((k = 1 ∨ k = 5) ↔ nm.size ≠ 0) ∧ ((k = 1 ∨ k = 5) → rightS nm = true) ∧ (k ≠ 2 → n = 0) ∧ 0 ≤ n := Iff.rfl

set_option maxRecDepth 100000 in
set_option maxHeartbeats 2000000 in
theorem refright_steps (xs : List St) (v : Value) (w : World) (hx : RdP w v xs) (hg : ∀ x ∈ xs, GoodS x) (R : Ending → World → Prop)
    (hR : Hid (∀ w', Below w.heap.size w w' → R (.returned (.bool (decide (RightP xs)))) w')) : Calls Try.prog 10 #[v] w R := by
  obtain ⟨A, c, rfl, hlc, hr⟩ := hx.op
  replace hr := Lib.hid hr
  clear hx
  by_cases h64 : 64 < xs.length
  · rw [decide_eq_false (fun h => by have := h.1; omega)] at hR
    go_enter Try.func10, Try.ntmps10
    go_wp2_with fail
    exact hR.out _ (Below.refl _ _)
  go_enter Try.func10, Try.ntmps10
  go_wp2_with fail
  go_loopg [3] xs.length (fun k i wr => ∃ (K : Nat), Below w.heap.size w wr ∧ i = .int .i64 K ∧ K + k = xs.length ∧ Hid (∀ j, j < K → RightSt (stN xs j)))
  case atStart => exact ⟨0, Below.refl _ _, rfl, by omega, Lib.hid fun j h => by omega⟩
  case round =>
    obtain ⟨K, hbel, rfl, c1, c2⟩ := hrel
    have hsz := hbel.size
    by_cases hK : K < xs.length
    · obtain ⟨g, o, rfl, hg1, hca⟩ := hr.out (by omega)
      obtain ⟨a0, a1, a2⟩ := hca K hK
      have e0 := (hbel.cell (p := ⟨g, o + K * 3, none⟩) hg1).trans a0
      have e1 := (hbel.cell (p := ⟨g, o + K * 3 + 1, none⟩) hg1).trans a1
      have e2 := (hbel.cell (p := ⟨g, o + K * 3 + 2, none⟩) hg1).trans a2
      have hbad : ¬ RightSt (stN xs K) → decide (RightP xs) = false := fun h => decide_eq_false fun q => h (q.2 _ (stN_mem hK))
      have hgood : RightSt (stN xs K) → ∀ j, j < K + 1 → RightSt (stN xs j) := fun h j hj => by
        rcases Nat.eq_or_lt_of_le (Nat.le_of_lt_succ hj) with e | q
        · subst e; exact h
        · exact c2.out j q
      obtain ⟨b1, b2, b3⟩ := hg _ (stN_mem hK)
      clear hca a0 a1 a2 c2
      generalize stN xs K = x at *
      obtain ⟨k, n, nm⟩ := x
      simp only at e0 e1 e2 b1 b2 b3
      rw [right_iff] at hbad hgood
      have nW := Lib.hid (hbel.alloc hsz (.cells #[.int .i64 k, .int .i64 n, .string nm] 36))
      have cR := fun (W : World) R hR => refright_calls nm b3 W R hR
      by_cases k1 : k < 1
      · rw [hbad (fun h => by omega)] at hR
        clear hbad hgood cR
        go_wp2_with fail
        exact hR.out _ nW.out
      by_cases k5 : 5 < k
      · rw [hbad (fun h => by omega)] at hR
        clear hbad hgood cR
        go_wp2_with fail
        exact hR.out _ nW.out
      by_cases hz : nm.size = 0
      · have hE := isE_nil hz
        have hk : k = 1 ∨ k = 5 ∨ k = 2 ∨ k = 3 ∨ k = 4 := by omega
        rcases hk with rfl | rfl | rfl | rfl | rfl
        · rw [hbad (fun h => h.2.2.1.1 (.inl rfl) hz)] at hR
          clear hbad hgood cR
          go_wp2_with fail
          exact hR.out _ nW.out
        · rw [hbad (fun h => h.2.2.1.1 (.inr rfl) hz)] at hR
          clear hbad hgood cR
          go_wp2_with fail
          exact hR.out _ nW.out
        · by_cases hn : n < 0
          · rw [hbad (fun h => by have := h.2.2.2.2.2; omega)] at hR
            clear hbad hgood cR
            go_wp2_with fail
            exact hR.out _ nW.out
          · have q := Lib.hid (hgood ⟨by decide, by decide, ⟨fun h => by omega, fun h => absurd hz h⟩, fun h => by omega, fun h => absurd rfl h, by omega⟩)
            clear hbad hgood cR
            go_wp2_with fail
            go_roundg (gk - 1)
            case measure => omega
            case rel => exact ⟨K + 1, nW.out, by go_num, by omega, q⟩
        all_goals
          by_cases hn : n = 0
          · subst hn
            have q := Lib.hid (hgood ⟨by decide, by decide, ⟨fun h => by omega, fun h => absurd hz h⟩, fun h => by omega, fun _ => rfl, by omega⟩)
            clear hbad hgood cR
            go_wp2_with fail
            go_roundg (gk - 1)
            case measure => omega
            case rel => exact ⟨K + 1, nW.out, by go_num, by omega, q⟩
          · rw [hbad (fun h => hn (h.2.2.2.2.1 (by decide)))] at hR
            have hn' : (n != 0) = true := by simpa using hn
            clear hbad hgood cR
            go_wp2_with fail
            exact hR.out _ nW.out
      · have hE := isE_pos (s := nm) (by omega)
        have hk : k = 1 ∨ k = 5 ∨ k = 2 ∨ k = 3 ∨ k = 4 := by omega
        rcases hk with rfl | rfl | rfl | rfl | rfl
        rotate_left 2
        · rw [hbad (fun h => by have := h.2.2.1.2 hz; omega)] at hR
          clear hbad hgood cR
          go_wp2_with fail
          exact hR.out _ nW.out
        · rw [hbad (fun h => by have := h.2.2.1.2 hz; omega)] at hR
          clear hbad hgood cR
          go_wp2_with fail
          exact hR.out _ nW.out
        · rw [hbad (fun h => by have := h.2.2.1.2 hz; omega)] at hR
          clear hbad hgood cR
          go_wp2_with fail
          exact hR.out _ nW.out
        all_goals
          cases hb : rightS nm
          · rw [hbad (fun h => by have := h.2.2.2.1 (by decide); rw [hb] at this; cases this)] at hR
            rw [hb] at cR
            replace cR := Lib.hid cR
            clear hbad hgood hb
            go_wp2_with fail
            refine cR.out _ _ (Lib.hid ?_)
            go_wp2_with fail
            exact hR.out _ nW.out
          · rw [hb] at cR
            replace cR := Lib.hid cR
            by_cases hn : n = 0
            · subst hn
              have q := Lib.hid (hgood ⟨by decide, by decide, ⟨fun _ => hz, fun _ => by decide⟩, fun _ => hb, fun _ => rfl, by omega⟩)
              clear hbad hgood hb
              go_wp2_with fail
              refine cR.out _ _ (Lib.hid ?_)
              go_wp2_with fail
              go_roundg (gk - 1)
              case measure => omega
              case rel => exact ⟨K + 1, nW.out, by go_num, by omega, q⟩
            · rw [hbad (fun h => hn (h.2.2.2.2.1 (by decide)))] at hR
              have hn' : (n != 0) = true := by simpa using hn
              clear hbad hgood hb
              go_wp2_with fail
              refine cR.out _ _ (Lib.hid ?_)
              go_wp2_with fail
              exact hR.out _ nW.out
    · have e : decide (RightP xs) = true := decide_eq_true ⟨by omega, fun x hx => by
        obtain ⟨i, hi, e⟩ := List.getElem_of_mem hx
        rw [← e, ← stN_get hi]
        exact c2.out i (by omega)⟩
      rw [e] at hR
      clear c2
      go_wp2_with fail
      exact hR.out _ hbel
end Go.Proofs.Ytjcmljdkegpjbaa.Pat
