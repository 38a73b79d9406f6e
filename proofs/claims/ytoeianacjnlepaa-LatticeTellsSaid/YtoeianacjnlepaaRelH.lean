/- The code of layer 10: closedRow, whose rows restart by a goto. -/
import Derived.Test.YtoeianacjnlepaaRelG
import Derived.WalkMore
import Derived.ScopeJumps
set_option maxRecDepth 100000
set_option linter.unusedVariables false
namespace Go.Proofs.Ytoeianacjnlepaa.Rel
open Go.RowKit Go.Lib

theorem wp_scope_first {P : Program} {a : Act} {w : World} {Q : Exit → Act → World → Prop} {c rest : Code} (l : Nat) (J : Act → World → Prop) (μ : Act → World → Nat) (hf : findLabel c l = some (Code.skip.seq rest))
    (pass : ∀ a w, J a w → rest.wp P (Exit.jump l (fun a' w' => J a' w' ∧ μ a' w' < μ a w) Q) a w)
    (first : (∀ a w, J a w → rest.wp P (Exit.jump l J Q) a w) → c.wp P (Exit.jump l J Q) a w) : (Code.scope c).wp P Q a w :=
  wp_scope_jumps l J μ hf (first fun a w h => Code.wp_mono (fun e a' w' => by
    cases e <;> try exact id
    exact fun ⟨h1, h2⟩ => ⟨h1, h2.1⟩) (pass a w h)) fun a w h => wp_seq (wp_skip (pass a w h))
theorem and_row {x K : Nat} (hx : Wd x) (hK : K < 64) : ∃ X : Nat, bits .and .u64 (x : Nat) (bitN K : Nat) = (X : Int) ∧ (x.testBit K = true → 0 < X) ∧ (x.testBit K = false → X = 0) := by
  refine ⟨_, bits_and hx (bit_wd hK), fun h => ?_, fun h => ?_⟩
  · rw [and_bit, if_pos h]; exact bit_pos K
  · rw [and_bit, h]; rfl

set_option maxRecDepth 100000 in
set_option maxHeartbeats 1000000 in
theorem relrow_calls (n : Nat) (P : List (Nat × Nat)) (a : Nat) (hP : InR n P) (hn : n ≤ 64) (ha : a < n) (v : Value) (w : World) (h : RelP w v n P) (R : Ending → World → Prop)
    (hR : Hid (∀ x : Nat, Wd x → (∀ i, x.testBit i = ld n P a i) → R (.returned (.int .u64 x)) w)) : Calls Try.prog 54 #[v, .int .i64 a] w R := by
  obtain ⟨p, f, rfl, hp, h0, h1, hf⟩ := h
  replace h1 := Lib.hid h1
  have w0 := Lib.hid (Way.one (P := P) (show a < 64 by omega))
  obtain ⟨M, hM⟩ : ∃ M : Nat, M = 18446744073709551616 := ⟨_, rfl⟩
  replace hM := Lib.hid hM
  replace hf := Lib.hid hf
  replace hP := Lib.hid hP
  go_enter Try.func54, Try.ntmps54
  go_wp2_with fail
  refine wp_scope_first 0 (fun a' w' => w' = w ∧ ∃ (x : Nat) (u6 u7 u8 u9 u10 u11 u12 u13 u14 u15 u16 u17 u18 u19 u20 u21 u22 u23 u24 u25 u26 u27 u28 u29 u30 u31 u32 u33 u34 u35 u36 u37 u38 u39 u40 u41 : Value),
      a' = { tmps := #[.pointer (some ⟨p, 0, none⟩), .int .i64 a, undef, undef, .int .u64 0, .int .u64 x, u6, u7, u8, u9, u10, u11, u12, u13, u14, u15, u16, u17, u18, u19, u20, u21, u22, u23, u24, u25, u26, u27, u28, u29, u30, u31, u32, u33, u34, u35, u36, u37, u38, u39, u40, u41], defers := [] } ∧ Hid (Way P a x))
    (fun a' _ => M - (intOf (a'.tmps.getD 5 undef)).toNat) rfl ?_ ?_
  · rintro a' w' ⟨rfl, x, u6, u7, u8, u9, u10, u11, u12, u13, u14, u15, u16, u17, u18, u19, u20, u21, u22, u23, u24, u25, u26, u27, u28, u29, u30, u31, u32, u33, u34, u35, u36, u37, u38, u39, u40, u41, rfl, hw⟩
    clear w0
    go_wp2_with fail
    go_loopg [5, 13] n (fun g s i wr => ∃ K : Nat, s = .int .u64 (x : Nat) ∧ i = .int .i64 K ∧ K + g = n ∧ wr = w' ∧ Hid (∀ b, b < K → x.testBit b = true → less (f b) x = 0))
    case atStart => exact ⟨0, rfl, rfl, by omega, rfl, Lib.hid fun b h => by omega⟩
    case round =>
      obtain ⟨K, rfl, rfl, c1, rfl, hc⟩ := hrel
      by_cases hK : K < n
      · have hK64 : K < 64 := by omega
        have hwd := hw.out.1
        obtain ⟨gf, -⟩ := hf.out K hK64
        obtain ⟨X, hX, X1, X2⟩ := and_row hwd hK64
        have e1 := h1.out K hK64
        have e2 := bits_less gf hwd
        have e3 := bits_or hwd gf
        have hc1 : x.testBit K = false ∨ (x.testBit K = true ∧ less (f K) x = 0) → ∀ b, b < K + 1 → x.testBit b = true → less (f b) x = 0 := fun h b hb hx => by
          rcases Nat.eq_or_lt_of_le (Nat.le_of_lt_succ hb) with e | q
          · subst e
            rcases h with h | h
            · rw [h] at hx; cases hx
            · exact h.2
          · exact hc.out b q hx
        cases hb : x.testBit K
        · obtain rfl := X2 hb
          have q0 : ((0 : Int) != 0) = false := by decide
          have hc2 := Lib.hid (hc1 (.inl hb))
          clear hb X1 X2 e1 e2 e3 hc1 hc
          go_wp2_with fail
          refine bit_calls _ hK64 _ _ (Lib.hid ?_)
          go_wp2_with fail
          go_roundg (gk - 1)
          case measure => omega
          case rel => exact ⟨K + 1, rfl, by go_num, by omega, rfl, hc2⟩
        · have hX0 := X1 hb
          have q0 : ((X : Int) != 0) = true := by simp; omega
          by_cases hl : less (f K) x = 0
          · have hc2 := Lib.hid (hc1 (.inr ⟨hb, hl⟩))
            rw [hl] at e2
            have q1 : ((0 : Int) != 0) = false := by decide
            clear hb X1 X2 e3 hc1 hc hl
            go_wp2_with fail
            refine bit_calls _ hK64 _ _ (Lib.hid ?_)
            go_wp2_with fail
            go_roundg (gk - 1)
            case measure => omega
            case rel => exact ⟨K + 1, rfl, by go_num, by omega, rfl, hc2⟩
          · have q1 : (((less (f K) x : Nat) : Int) != 0) = true := by simp; omega
            have hw2 := hw.out.put hf.out hK64 hb
            have hlt := or_lt hwd gf hl
            have hlt2 : x ||| f K < M := by rw [hM.out]; exact hw2.1
            replace hw2 := Lib.hid hw2
            generalize less (f K) x = L at *
            generalize x ||| f K = y at *
            clear hb X1 X2 hc1 hc hl
            go_wp2_with fail
            refine bit_calls _ hK64 _ _ (Lib.hid ?_)
            go_wp2_with fail
            go_step3
            exact ⟨rfl, ⟨rfl, y, _, _, _, _, _, _, _, _, _, _, _, _, _, _, _, _, _, _, _, _, _, _, _, _, _, _, _, _, _, _, _, _, _, _, _, _, rfl, hw2⟩, Nat.sub_lt_sub_left (Nat.lt_trans hlt hlt2) hlt⟩
      · obtain rfl : K = n := by omega
        have hfin := hw.out.fin hP.out hn hf.out ha (fun b hb => hc.out b hb)
        have hwd := hw.out.1
        have fin := Lib.hid (hR.out x hwd hfin)
        clear hfin hwd hc hw
        go_wp2_with fail
        exact fin.out
  · intro key
    replace key := Lib.hid key
    go_wp2_with fail
    refine bit_calls _ (by omega) _ _ (Lib.hid ?_)
    go_wp2_with fail
    go_step3
    rename_i Q' K hK
    exact hK _ _ (key.out _ _ ⟨rfl, bitN a, _, _, _, _, _, _, _, _, _, _, _, _, _, _, _, _, _, _, _, _, _, _, _, _, _, _, _, _, _, _, _, _, _, _, _, _, rfl, w0⟩)
end Go.Proofs.Ytoeianacjnlepaa.Rel
