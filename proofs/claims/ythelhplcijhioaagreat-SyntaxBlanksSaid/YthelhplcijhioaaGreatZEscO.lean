/- The reference's One. -/
import Derived.Test.YthelhplcijhioaaGreatZEscQ
set_option maxRecDepth 100000
set_option linter.unusedVariables false
namespace Go.Proofs.YthelhplcijhioaaGreat.Esc
open Go.RowKit Go.Lib Go.Proofs.YthelhplcijhioaaGreat.Utf Go.Proofs.YthelhplcijhioaaGreat.Ran Go.Proofs.YthelhplcijhioaaGreat.Cel

abbrev oneR (p : List Int × Nat) : Value := .tuple #[.string (strOfNums p.1), .int .i64 p.2]
theorem uniP_some {l : List Int} {o : Nat} (h : UP l o) : uniP l = (encL (hexV ((l.drop 1).take o)), o + 4) := by unfold uniP; rw [uni_some h]
theorem uniP_no {l : List Int} (h : ∀ o, 1 ≤ o → o ≤ 6 → ¬ UP l o) : uniP l = ([], 0) := by unfold uniP; rw [uni_no h]
/-- UP told of a string t whose second byte is behind the backslash. -/
theorem up_iff {t : ByteArray} {K : Nat} (h4 : 4 ≤ K) (hK : K < t.size) :
    UP ((bl t).drop 2) (K - 3) ↔ byN t 2 = 123 ∧ byN t K = 125 ∧ 0 ≤ hexV (bl (t.extract 3 K)) ∧ scalarB (hexV (bl (t.extract 3 K))) = true := by
  have e1 : ((bl t).drop 2).head? = some (byN t 2 : Int) := by rw [List.head?_drop, bl_get t 2 (by omega)]
  have e2 : ((bl t).drop 2)[1 + (K - 3)]? = some (byN t K : Int) := by rw [List.getElem?_drop, show 2 + (1 + (K - 3)) = K by omega, bl_get t K hK]
  have e3 : ((((bl t).drop 2).drop 1).take (K - 3)) = bl (t.extract 3 K) := by rw [List.drop_drop, bl_extract, List.drop_take]
  unfold UP
  rw [e1, e2, e3]
  simp only [Option.some.injEq]
  constructor
  · rintro ⟨a, b, c⟩; exact ⟨by omega, by omega, c⟩
  · rintro ⟨a, b, c⟩; exact ⟨by omega, by omega, c⟩
theorem up_end {t : ByteArray} {o : Nat} (h : t.size ≤ o + 3) : ¬ UP ((bl t).drop 2) o := by
  rintro ⟨-, h2, -⟩
  rw [List.getElem?_drop, List.getElem?_eq_none (by rw [bl_length]; omega)] at h2
  cases h2

section
variable (q : ByteArray) (k : Nat) (hk : k + 1 < q.size) (w : World) (hs : q.size ≤ 1000000) (t : ByteArray) (ht : q.extract k q.size = t) (R : Ending → World → Prop)
include hk hs ht
set_option maxRecDepth 100000 in
set_option maxHeartbeats 1000000 in
theorem refone_u (h0 : byN q k = 92) (h1 : byN t 1 = 117)
    (hR : Hid (∀ w', Below w.heap.size w w' → R (.returned (oneR (uniP ((bl t).drop 2)))) w')) : Calls Tryz.prog 118 #[.string q, .int .i64 k] w R := by
  have hz : t.size = q.size - k := by rw [← ht, ByteArray.size_extract]; omega
  have c1 : ¬ (q.size : Int) ≤ k := by omega
  have c2 : ¬ (q.size : Int) - k < 2 := by omega
  have c3 : (k : Int) ≤ q.size := by omega
  have c5 : 1 < t.size := by omega
  have g0 := byN_get q k (by omega)
  have g1 := byN_get t 1 c5
  rw [h0] at g0
  rw [h1] at g1
  clear h0 h1
  have hts : t.size ≤ 1000000 := by omega
  go_enter Tryz.func118, Tryz.ntmps118
  go_wp2_with fail
  go_loopg [7] 6 (fun g v wr => ∃ K : Nat, wr = w ∧ v = .int .i64 K ∧ 4 ≤ K ∧ K + g = 10 ∧ Hid (∀ o, 1 ≤ o → o + 3 < K → ¬ UP ((bl t).drop 2) o))
  case atStart => exact ⟨4, rfl, rfl, by omega, by omega, Lib.hid (fun o h1 h2 => by omega)⟩
  case round =>
    obtain ⟨K, rfl, rfl, d1, d2, d3⟩ := hrel
    by_cases hK : K ≤ 9 ∧ K < t.size
    · obtain ⟨hK9, hKt⟩ := hK
      have hup := up_iff d1 hKt
      have b2 := byN_get t 2 (by omega)
      have bK := byN_get t K hKt
      have m2 := byN_lt t 2
      have mK := byN_lt t K
      have c6 : 2 < t.size := by omega
      have c7 : (3 : Int) ≤ (K : Int) := by omega
      have c8 : (K : Int) ≤ (t.size : Int) := by omega
      have nxt : ¬ UP ((bl t).drop 2) (K - 3) → ∀ o, 1 ≤ o → o + 3 < K + 1 → ¬ UP ((bl t).drop 2) o := fun h o h1 h2 => by
        by_cases h3 : o + 3 < K
        · exact d3.out o h1 h3
        · have : o = K - 3 := by omega
          subst this; exact h
      have hdz : (t.extract 3 K).size ≤ 1000000 := by rw [ByteArray.size_extract]; omega
      have cX := fun (W : World) R hR => refhexv_calls (t.extract 3 K) W hdz R hR
      have hvb := hexV_bd (bl (t.extract 3 K))
      have hsome : UP ((bl t).drop 2) (K - 3) → R (.returned (oneR (encL (hexV (bl (t.extract 3 K))), K + 1))) wr ∧ ∀ w', Below wr.heap.size wr w' → R (.returned (oneR (encL (hexV (bl (t.extract 3 K))), K + 1))) w' := fun h => by
        have e := uniP_some h
        have e3 : ((((bl t).drop 2).drop 1).take (K - 3)) = bl (t.extract 3 K) := by rw [List.drop_drop, bl_extract, List.drop_take]
        rw [e3, show K - 3 + 4 = K + 1 by omega] at e
        have hR' := hR.out
        rw [e] at hR'
        exact ⟨hR' _ (Below.refl _ _), hR'⟩
      clear d3
      generalize hexV (bl (t.extract 3 K)) = v at *
      generalize hDD : t.extract 3 K = D at *
      generalize byN t 2 = x2 at *
      generalize byN t K = xK at *
      replace cX := Lib.hid cX
      replace nxt := Lib.hid nxt
      replace hsome := Lib.hid hsome
      by_cases e2 : x2 = 123
      · by_cases eK : xK = 125
        · subst e2 eK
          by_cases hv : 0 ≤ v
          · have hv' : 0 ≤ v := hv
            have cS := fun (W : World) R h => scalar2_calls v W R h
            have hb2 := hvb.2.1
            clear hvb
            cases hsc : scalarB v
            · rw [hsc] at cS hup
              have nx := Lib.hid (nxt.out (fun h => by have := hup.1 h; simp at this))
              clear hup nxt hsome hsc
              replace cS := Lib.hid cS
              go_wp2_with fail
              refine cX.out _ _ (Lib.hid ?_)
              go_wp2_with fail
              refine cX.out _ _ (Lib.hid ?_)
              go_wp2_with fail
              refine cS.out _ _ ?_
              go_wp2_with fail
              go_roundg (gk - 1)
              case measure => omega
              case rel => exact ⟨K + 1, rfl, by go_num, by omega, by omega, nx⟩
            · have hf := Lib.hid (hsome.out (hup.2 ⟨rfl, rfl, hv, hsc⟩)).2
              rw [hsc] at cS
              clear hup nxt hsome hsc
              have cE := fun (W : World) R h => ref_calls v W R h
              replace cS := Lib.hid cS
              replace cE := Lib.hid cE
              go_wp2_with fail
              refine cX.out _ _ (Lib.hid ?_)
              go_wp2_with fail
              refine cX.out _ _ (Lib.hid ?_)
              go_wp2_with fail
              refine cS.out _ _ ?_
              go_wp2_with fail
              refine cX.out _ _ (Lib.hid ?_)
              go_wp2_with fail
              refine cE.out _ _ (Lib.hid fun w2 n2 => ?_)
              go_wp2_with fail
              exact ret2si' (hf.out _ n2) rfl (by omega)
          · have nx := Lib.hid (nxt.out (fun h => hv (hup.1 h).2.2.1))
            clear hup nxt hsome hvb
            go_wp2_with fail
            refine cX.out _ _ (Lib.hid ?_)
            go_wp2_with fail
            go_roundg (gk - 1)
            case measure => omega
            case rel => exact ⟨K + 1, rfl, by go_num, by omega, by omega, nx⟩
        · have nx := Lib.hid (nxt.out (fun h => eK (hup.1 h).2.1))
          subst e2
          have eK' : ((xK : Int) == 125) = false := by simp; omega
          have eK2 : ¬ (xK : Int) = 125 := by omega
          clear hup nxt hsome hvb
          go_wp2_with fail
          go_roundg (gk - 1)
          case measure => omega
          case rel => exact ⟨K + 1, rfl, by go_num, by omega, by omega, nx⟩
      · have nx := Lib.hid (nxt.out (fun h => e2 (hup.1 h).1))
        have e2' : ((x2 : Int) == 123) = false := by simp; omega
        have e22 : ¬ (x2 : Int) = 123 := by omega
        clear hup nxt hsome hvb
        go_wp2_with fail
        go_roundg (gk - 1)
        case measure => omega
        case rel => exact ⟨K + 1, rfl, by go_num, by omega, by omega, nx⟩
    · have hno : uniP ((bl t).drop 2) = ([], 0) := uniP_no fun o h1 h2 => by
        by_cases h3 : o + 3 < K
        · exact d3.out o h1 h3
        · exact up_end (by omega)
      rw [hno] at hR
      clear hno d3
      by_cases h9 : K ≤ 9
      · have h10 : (K : Int) ≤ 9 := by omega
        have h11 : ¬ (K : Int) < t.size := by omega
        go_wp2_with fail
        exact hR.out _ (Below.refl _ _)
      · have h10 : ¬ (K : Int) ≤ 9 := by omega
        go_wp2_with fail
        exact hR.out _ (Below.refl _ _)
end
set_option maxRecDepth 100000 in
set_option maxHeartbeats 2000000 in
theorem refone_calls (q : ByteArray) (i : Int) (hi : -9223372036854775808 ≤ i ∧ i ≤ 9223372036854775807) (w : World) (hs : q.size ≤ 1000000) (R : Ending → World → Prop)
    (hR : Hid (∀ w', Below w.heap.size w w' → R (.returned (oneR (oneP q i))) w')) : Calls Tryz.prog 118 #[.string q, .int .i64 i] w R := by
  by_cases ho : i < 0 ∨ (q.size : Int) ≤ i + 1
  · have hu : oneP q i = ([], 0) := if_pos ho
    rw [hu] at hR
    clear hu
    by_cases h : i < 0
    · go_enter Tryz.func118, Tryz.ntmps118
      go_wp2_with fail
      exact hR.out _ (Below.refl _ _)
    · by_cases h3 : (q.size : Int) ≤ i
      · go_enter Tryz.func118, Tryz.ntmps118
        go_wp2_with fail
        exact hR.out _ (Below.refl _ _)
      · have h2 : (q.size : Int) - i < 2 := by omega
        go_enter Tryz.func118, Tryz.ntmps118
        go_wp2_with fail
        exact hR.out _ (Below.refl _ _)
  · have hu : oneP q i = oneL ((bl q).drop i.toNat) := if_neg ho
    obtain ⟨k, rfl⟩ : ∃ k : Nat, i = k := ⟨i.toNat, by omega⟩
    have hk : k + 1 < q.size := by omega
    obtain ⟨t, ht⟩ : ∃ t, q.extract k q.size = t := ⟨_, rfl⟩
    have hz : t.size = q.size - k := by rw [← ht, ByteArray.size_extract]; omega
    have hbt : (bl q).drop k = bl t := by rw [← ht, bl_from]
    have h10 : byN q k = byN t 0 := by rw [← ht, byN_ext q k q.size 0 (by omega) (Nat.le_refl _), Nat.add_zero]
    rw [Int.toNat_natCast, hbt, ← List.drop_zero (l := bl t), bl_drop (by omega : 0 < t.size), bl_drop (by omega : 0 + 1 < t.size)] at hu
    rw [hu] at hR
    clear hu ho hi
    by_cases h0 : byN t 0 = 92
    · rw [h0, show ((92 : Nat) : Int) = 92 from rfl, oneL_esc, show 0 + 1 = 1 from rfl] at hR
      rw [h0] at h10
      by_cases hc17 : byN t 1 = 117
      · rw [hc17] at hR
        rw [if_neg (by decide), if_neg (by decide), if_neg (by decide), if_neg (by decide), if_neg (by decide), if_pos (by decide)] at hR
        exact refone_u q k hk w hs t ht R h10 hc17 hR
      have c1 : ¬ (q.size : Int) ≤ k := by omega
      have c2 : ¬ (q.size : Int) - k < 2 := by omega
      have c3 : (k : Int) ≤ q.size := by omega
      have c5 : 1 < t.size := by omega
      have g0 := byN_get q k (by omega)
      have g1 := byN_get t 1 c5
      have m1 := byN_lt t 1
      have hone := bl_one t 1 c5
      have c6 : (2 : Int) ≤ (t.size : Int) := by omega
      rw [h10] at g0
      have hts : t.size ≤ 1000000 := by omega
      have hc2 : (1 + 1 : Nat) = 2 := rfl
      rw [hc2] at hR hone
      by_cases h1 : byN t 1 = 34
      · rw [h1] at hR g1 hone
        rw [if_pos (by decide)] at hR
        have hF : t.extract 1 2 = strOfNums [34] := bl_ext (by rw [hone]; rfl)
        go_enter Tryz.func118, Tryz.ntmps118
        go_wp2_with fail
        exact hR.out _ (Below.refl _ _)
      by_cases h2 : byN t 1 = 92
      · rw [h2] at hR g1 hone
        rw [if_pos (by decide)] at hR
        have hF : t.extract 1 2 = strOfNums [92] := bl_ext (by rw [hone]; rfl)
        go_enter Tryz.func118, Tryz.ntmps118
        go_wp2_with fail
        exact hR.out _ (Below.refl _ _)
      clear hone
      rw [if_neg (by omega)] at hR
      by_cases h3 : byN t 1 = 116
      · rw [h3] at hR g1
        rw [if_pos (by decide)] at hR
        go_enter Tryz.func118, Tryz.ntmps118
        go_wp2_with fail
        exact hR.out _ (Below.refl _ _)
      rw [if_neg (by omega)] at hR
      by_cases h4 : byN t 1 = 110
      · rw [h4] at hR g1
        rw [if_pos (by decide)] at hR
        go_enter Tryz.func118, Tryz.ntmps118
        go_wp2_with fail
        exact hR.out _ (Below.refl _ _)
      rw [if_neg (by omega)] at hR
      by_cases h5 : byN t 1 = 114
      · rw [h5] at hR g1
        rw [if_pos (by decide)] at hR
        go_enter Tryz.func118, Tryz.ntmps118
        go_wp2_with fail
        exact hR.out _ (Below.refl _ _)
      rw [if_neg (by omega)] at hR
      by_cases h6 : byN t 1 = 120
      · rw [h6] at hR g1
        rw [if_pos (by decide)] at hR
        unfold byteP at hR
        rw [List.length_drop, bl_length] at hR
        by_cases hl : 3 < t.size
        · have c7 : (4 : Int) ≤ (t.size : Int) := by omega
          have hbd : bl (t.extract 2 4) = ((bl t).drop 2).take 2 := by rw [bl_extract, List.drop_take]
          have hdz : (t.extract 2 4).size ≤ 1000000 := by rw [ByteArray.size_extract]; omega
          have cX := fun (W : World) R hR => refhexv_calls (t.extract 2 4) W hdz R hR
          rw [hbd] at cX
          have hvb := hexV_bd (((bl t).drop 2).take 2)
          have hvb1 := hvb.1
          have hvb2 := hvb.2.2.2 (by rw [List.length_take]; omega)
          clear hvb hbd
          generalize hexV (((bl t).drop 2).take 2) = v at *
          generalize hDD : t.extract 2 4 = D at *
          replace cX := Lib.hid cX
          have cv := cvB
          by_cases hv : 0 ≤ v
          · rw [if_pos ⟨by omega, hv⟩] at hR
            go_enter Tryz.func118, Tryz.ntmps118
            go_wp2_with fail
            refine cX.out _ _ (Lib.hid ?_)
            go_wp2_with fail
            refine cX.out _ _ (Lib.hid ?_)
            go_wp2_with fail
            exact hR.out _ ((Below.refl _ _).alloc (Nat.le_refl _) _)
          · rw [if_neg (fun e => hv e.2)] at hR
            go_enter Tryz.func118, Tryz.ntmps118
            go_wp2_with fail
            refine cX.out _ _ (Lib.hid ?_)
            go_wp2_with fail
            exact hR.out _ (Below.refl _ _)
        · rw [if_neg (fun e => by omega)] at hR
          have c7 : ¬ (3 : Int) < (t.size : Int) := by omega
          go_enter Tryz.func118, Tryz.ntmps118
          go_wp2_with fail
          exact hR.out _ (Below.refl _ _)
      rw [if_neg (by omega), if_neg (by omega)] at hR
      have e1 : ((byN t 1 : Int) == 34) = false := by simp; omega
      have e2 : ((byN t 1 : Int) == 92) = false := by simp; omega
      have e3 : ((byN t 1 : Int) == 116) = false := by simp; omega
      have e4 : ((byN t 1 : Int) == 110) = false := by simp; omega
      have e5 : ((byN t 1 : Int) == 114) = false := by simp; omega
      have e6 : ((byN t 1 : Int) == 120) = false := by simp; omega
      have e7 : ((byN t 1 : Int) == 117) = false := by simp; omega
      generalize byN t 1 = c at *
      go_enter Tryz.func118, Tryz.ntmps118
      go_wp2_with fail
      exact hR.out _ (Below.refl _ _)
    · rw [oneL_other (by omega)] at hR
      have c1 : ¬ (q.size : Int) ≤ k := by omega
      have c2 : ¬ (q.size : Int) - k < 2 := by omega
      have g0 := byN_get q k (by omega)
      rw [h10] at g0
      have m0 := byN_lt t 0
      have e2 : ¬ (byN t 0 : Int) = 92 := by omega
      have e3 : ((byN t 0 : Int) != 92) = true := by simpa using e2
      generalize byN t 0 = c at *
      go_enter Tryz.func118, Tryz.ntmps118
      go_wp2_with fail
      exact hR.out _ (Below.refl _ _)
end Go.Proofs.YthelhplcijhioaaGreat.Esc
