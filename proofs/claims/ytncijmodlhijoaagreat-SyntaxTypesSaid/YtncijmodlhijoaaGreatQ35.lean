import Derived.Test.YtncijmodlhijoaaGreatQ34
import Derived.Test.YtncijmodlhijoaaGreatQ33
import Derived.Test.YtncijmodlhijoaaGreatQ30
set_option linter.unusedVariables false
set_option maxRecDepth 100000
set_option maxHeartbeats 4000000
namespace Go.Proofs.YtncijmodlhijoaaGreat.Esc
open Go.RowKit Go.Lib Utf Ran Cel
def oneP (q : ByteArray) (i : Int) : List Int × Nat := if i < 0 ∨ (q.size : Int) ≤ i + 1 then ([], 0) else oneL ((bl q).drop i.toNat)
theorem oneL_other {c0 c : Int} {l : List Int} (h : c0 ≠ 92) : oneL (c0 :: c :: l) = ([], 0) := by rw [oneL, if_pos h]
theorem oneL_esc {c : Int} {l : List Int} : oneL (92 :: c :: l) = if c = 34 ∨ c = 92 then ([c], 2) else if c = 116 then ([9], 2) else if c = 110 then ([10], 2) else if c = 114 then ([13], 2)
  else if c = 120 then byteP l else if c = 117 then uniP l else ([], 0) := by rw [oneL, if_neg (by decide)]; rfl
theorem one_calls (q : ByteArray) (i : Int) (w : World) (hs : q.size ≤ 1000000) (R : Ending → World → Prop)
  (hR : Hid (∀ w', Below w.heap.size w w' → R (.returned (oneT (oneP q i))) w')) : Calls Tryz.prog 349 #[.string q, .int .i64 i] w R := by
 by_cases ho : i < 0 ∨ (q.size : Int) ≤ i + 1
 ·have hu : oneP q i = ([], 0) := if_pos ho
  rw [hu] at hR
  clear hu
  by_cases h : i < 0
  ·go_enter Tryz.func349, Tryz.ntmps349
   go_wp2_with fail
   go_ret3
   exact hR.out _ (Below.refl _ _)
  ·have h2 : (q.size : Int) - 1 ≤ i := by omega
   go_enter Tryz.func349, Tryz.ntmps349
   go_wp2_with fail
   go_ret3
   exact hR.out _ (Below.refl _ _)
 ·have hu : oneP q i = oneL ((bl q).drop i.toNat) := if_neg ho
  obtain ⟨k, rfl⟩ : ∃ k : Nat, i = k := ⟨i.toNat, by omega⟩
  have hk : k + 1 < q.size := by omega
  rw [Int.toNat_natCast, bl_drop (by omega), bl_drop hk, ← bl_from (i := k + 1 + 1)] at hu
  rw [hu] at hR
  clear hu ho
  have hk1 : ¬ (q.size : Int) - 1 ≤ k := by omega
  have hk2 : (k : Int) + 2 ≤ q.size := by omega
  have hb0 := byN_lt q k
  have hb1 := byN_lt q (k + 1)
  have g0 := byN_get q k (by omega)
  have g1 := byN_get q (k + 1) hk
  have hz : (q.extract (k + 1 + 1) q.size).size ≤ 1000000 := by rw [ByteArray.size_extract]; omega
  have cB := fun (W : World) R hR => oneByte_calls (q.extract (k + 1 + 1) q.size) W hz R hR
  have cU := fun (W : World) R hR => oneScalar_calls (q.extract (k + 1 + 1) q.size) W hz R hR
  generalize byN q k = c0 at *
  generalize byN q (k + 1) = c at *
  by_cases h0 : c0 = 92
  ·subst h0
   rw [show ((92 : Nat) : Int) = 92 from rfl, oneL_esc] at hR
   by_cases h1 : c = 34
   ·subst h1
    clear cB cU
    rw [if_pos (by decide)] at hR
    go_enter Tryz.func349, Tryz.ntmps349
    go_wp2_with fail
    go_ret3
    exact hR.out _ (Below.refl _ _)
   by_cases h2 : c = 92
   ·subst h2
    clear cB cU
    rw [if_pos (by decide)] at hR
    go_enter Tryz.func349, Tryz.ntmps349
    go_wp2_with fail
    go_ret3
    exact hR.out _ (Below.refl _ _)
   rw [if_neg (by omega)] at hR
   by_cases h3 : c = 116
   ·subst h3
    clear cB cU
    rw [if_pos (by decide)] at hR
    go_enter Tryz.func349, Tryz.ntmps349
    go_wp2_with fail
    go_ret3
    exact hR.out _ (Below.refl _ _)
   rw [if_neg (by omega)] at hR
   by_cases h4 : c = 110
   ·subst h4
    clear cB cU
    rw [if_pos (by decide)] at hR
    go_enter Tryz.func349, Tryz.ntmps349
    go_wp2_with fail
    go_ret3
    exact hR.out _ (Below.refl _ _)
   rw [if_neg (by omega)] at hR
   by_cases h5 : c = 114
   ·subst h5
    clear cB cU
    rw [if_pos (by decide)] at hR
    go_enter Tryz.func349, Tryz.ntmps349
    go_wp2_with fail
    go_ret3
    exact hR.out _ (Below.refl _ _)
   rw [if_neg (by omega)] at hR
   by_cases h6 : c = 120
   ·subst h6
    clear cU
    rw [if_pos (by decide)] at hR
    generalize byteP (bl (q.extract (k + 1 + 1) q.size)) = p at *
    replace cB := Lib.hid cB
    go_enter Tryz.func349, Tryz.ntmps349
    go_wp2_with fail
    refine cB.out _ _ (fun w1 n1 => ?_)
    go_wp2_with fail
    go_ret3
    exact ret3t (hR.out _ n1) rfl rfl (by simp)
   rw [if_neg (by omega)] at hR
   by_cases h7 : c = 117
   ·subst h7
    clear cB
    rw [if_pos (by decide)] at hR
    generalize uniP (bl (q.extract (k + 1 + 1) q.size)) = p at *
    replace cU := Lib.hid cU
    go_enter Tryz.func349, Tryz.ntmps349
    go_wp2_with fail
    refine cU.out _ _ (fun w1 n1 => ?_)
    go_wp2_with fail
    go_ret3
    exact ret3t (hR.out _ n1) rfl rfl (by simp)
   rw [if_neg (by omega)] at hR
   clear cB cU
   have e1 : ¬ (c : Int) = 34 := by omega
   have e2 : ¬ (c : Int) = 92 := by omega
   have e3 : ¬ (c : Int) = 116 := by omega
   have e4 : ¬ (c : Int) = 110 := by omega
   have e5 : ¬ (c : Int) = 114 := by omega
   have e6 : ¬ (c : Int) = 120 := by omega
   have e7 : ¬ (c : Int) = 117 := by omega
   go_enter Tryz.func349, Tryz.ntmps349
   go_wp2_with fail
   go_ret3
   exact hR.out _ (Below.refl _ _)
  ·clear cB cU
   rw [oneL_other (by omega)] at hR
   have e2 : ¬ (c0 : Int) = 92 := by omega
   have e3 : ((c0 : Int) != 92) = true := by simpa using e2
   go_enter Tryz.func349, Tryz.ntmps349
   go_wp2_with fail
   go_ret3
   exact hR.out _ (Below.refl _ _)
theorem hexV_in {l : List Int} (h1 : 1 ≤ l.length) (h6 : l.length ≤ 6) : hexV l = numF 0 l := by unfold hexV; rw [if_neg (by omega)]
theorem refhexv_calls (t : ByteArray) (w : World) (hs : t.size ≤ 1000000) (R : Ending → World → Prop)
  (hR : Hid (R (.returned (.int .i64 (hexV (bl t)))) w)) : Calls Tryz.prog 323 #[.string t] w R := by
 by_cases h1 : t.size < 1
 ·have hx : hexV (bl t) = -1 := by unfold hexV; rw [if_pos (by rw [bl_length]; omega)]
  rw [hx] at hR
  have h0 : t.size = 0 := by omega
  go_enter Tryz.func323, Tryz.ntmps323
  go_wp2_with fail
  exact hR.out
 by_cases h6 : 6 < t.size
 ·have hx : hexV (bl t) = -1 := by unfold hexV; rw [if_pos (by rw [bl_length]; omega)]
  rw [hx] at hR
  have h6' : (6 : Int) < (t.size : Int) := by omega
  have h1' : ¬ (t.size : Int) < 1 := by omega
  go_enter Tryz.func323, Tryz.ntmps323
  go_wp2_with fail
  exact hR.out
 have hx : hexV (bl t) = numF 0 (bl t) := hexV_in (by rw [bl_length]; omega) (by rw [bl_length]; omega)
 rw [hx] at hR
 have h6' : ¬ (6 : Int) < (t.size : Int) := by omega
 have h1' : ¬ (t.size : Int) < 1 := by omega
 go_enter Tryz.func323, Tryz.ntmps323
 go_wp2_with fail
 go_loopg [3, 4] t.size (fun k v a wr => ∃ (j : Nat) (n : Int), wr = w ∧ v = .int .i64 n ∧ a = .int .i64 j ∧ j + k = t.size ∧ 0 ≤ n ∧ n < 16 ^ j ∧ Hid (numF n ((bl t).drop j) = numF 0 (bl t)))
 case atStart => exact ⟨0, 0, rfl, rfl, rfl, by omega, by omega, by decide, Lib.hid (by rw [List.drop_zero])⟩
 case round =>
  obtain ⟨j, n, rfl, rfl, rfl, c1, c2, c3, c4⟩ := hrel
  have e := c4.out
  clear c4
  by_cases hj : j < t.size
  ·rw [bl_drop hj, numF] at e
   have h16 : n < 16777216 := by
    have : (16 : Int) ^ j ≤ 16 ^ 6 := by exact_mod_cast Nat.pow_le_pow_right (by omega) (by omega : j ≤ 6)
    have : (16 : Int) ^ 6 = 16777216 := by decide
    omega
   have hb := byN_lt t j
   have hg := byN_get t j hj
   have hc : (48 ≤ (byN t j : Int) ∧ (byN t j : Int) < 58 ∧ valD (byN t j) = (byN t j : Int) - 48) ∨ (¬ (48 ≤ (byN t j : Int) ∧ (byN t j : Int) < 58) ∧ 65 ≤ (byN t j : Int) ∧ (byN t j : Int) < 71 ∧ valD (byN t j) = (byN t j : Int) - 55) ∨
     (¬ (48 ≤ (byN t j : Int) ∧ (byN t j : Int) < 58) ∧ ¬ (65 ≤ (byN t j : Int) ∧ (byN t j : Int) < 71) ∧ 97 ≤ (byN t j : Int) ∧ (byN t j : Int) < 103 ∧ valD (byN t j) = (byN t j : Int) - 87) ∨
     (¬ (48 ≤ (byN t j : Int) ∧ (byN t j : Int) < 58) ∧ ¬ (65 ≤ (byN t j : Int) ∧ (byN t j : Int) < 71) ∧ ¬ (97 ≤ (byN t j : Int) ∧ (byN t j : Int) < 103) ∧ valD (byN t j) = -1) := by
    unfold valD; (repeat' split) <;> omega
   generalize valD (byN t j) = v at *
   generalize byN t j = c at *
   rcases hc with ⟨d1, d2, d3⟩ | ⟨d0, d1, d2, d3⟩ | ⟨d0, d0', d1, d2, d3⟩ | ⟨d0, d0', d0'', d3⟩
   ·subst d3
    rw [if_neg (by omega)] at e
    replace e := Lib.hid e
    have q2 : ¬ 65 ≤ (c : Int) := by omega
    have q3 : ¬ 97 ≤ (c : Int) := by omega
    have q4 : ¬ (c : Int) - 48 < 0 := by omega
    go_wp2_with fail
    go_roundg (gk - 1)
    case measure => omega
    case rel => exact ⟨j + 1, 16 * n + ((c : Int) - 48), rfl, by go_num, by go_num, by omega, by omega, by rw [Int.pow_succ]; omega, e⟩
   ·subst d3
    rw [if_neg (by omega)] at e
    replace e := Lib.hid e
    have q1 : 48 ≤ (c : Int) := by omega
    have q2 : ¬ (c : Int) < 58 := by omega
    have q3 : ¬ 97 ≤ (c : Int) := by omega
    have q4 : ¬ (c : Int) - 55 < 0 := by omega
    go_wp2_with fail
    go_roundg (gk - 1)
    case measure => omega
    case rel => exact ⟨j + 1, 16 * n + ((c : Int) - 55), rfl, by go_num, by go_num, by omega, by omega, by rw [Int.pow_succ]; omega, e⟩
   ·subst d3
    rw [if_neg (by omega)] at e
    replace e := Lib.hid e
    have q1 : 48 ≤ (c : Int) := by omega
    have q2 : ¬ (c : Int) < 58 := by omega
    have q3 : 65 ≤ (c : Int) := by omega
    have q4 : ¬ (c : Int) < 71 := by omega
    have q5 : ¬ (c : Int) - 87 < 0 := by omega
    go_wp2_with fail
    go_roundg (gk - 1)
    case measure => omega
    case rel => exact ⟨j + 1, 16 * n + ((c : Int) - 87), rfl, by go_num, by go_num, by omega, by omega, by rw [Int.pow_succ]; omega, e⟩
   ·subst d3
    rw [if_pos (by omega)] at e
    rw [← e] at hR
    clear e
    go_wp2_with fail
    all_goals exact hR.out
  ·rw [List.drop_eq_nil_of_le (by rw [bl_length]; omega), numF] at e
   rw [← e] at hR
   clear e c3
   go_wp2_with fail
   exact hR.out
theorem numF_all : ∀ (l : List Int) (n : Int), 0 ≤ numF n l → ∀ x ∈ l, 0 ≤ valD x
 | [], n, h, x, hx => by simp at hx
 | c :: l, n, h, x, hx => by
  rw [numF] at h
  by_cases hc : valD c < 0
  ·rw [if_pos hc] at h; omega
  ·rw [if_neg hc] at h
   rcases List.mem_cons.1 hx with rfl | hx
   ·omega
   ·exact numF_all l _ h x hx
theorem hexV_all {l : List Int} (h : 0 ≤ hexV l) : 1 ≤ l.length ∧ l.length ≤ 6 ∧ ∀ x ∈ l, x ≠ 125 := by
 unfold hexV at h
 by_cases h1 : l.length < 1 ∨ 6 < l.length
 ·rw [if_pos h1] at h; omega
 ·rw [if_neg h1] at h
  refine ⟨by omega, by omega, fun x hx e => ?_⟩
  have := numF_all l 0 h x hx
  subst e
  exact absurd this (by decide)
def UP (l : List Int) (o : Nat) : Prop := l.head? = some 123 ∧ l[1 + o]? = some 125 ∧ 0 ≤ hexV ((l.drop 1).take o) ∧ scalarB (hexV ((l.drop 1).take o)) = true
theorem uni_some {l : List Int} {o : Nat} (h : UP l o) : uniS l = some (hexV ((l.drop 1).take o), o) := by
 obtain ⟨h1, h2, h3, h4⟩ := h
 have hl : 1 + o < l.length := (List.getElem?_eq_some_iff.1 h2).1
 obtain ⟨a1, a2, a3⟩ := hexV_all h3
 rw [List.length_take, List.length_drop] at a1 a2
 have ho : o ≤ 6 := by omega
 have hf : fi ((l.drop 1).take 7) = o := by
  refine fi_hit ?_ fun j hj e => ?_
  ·rw [List.getElem?_take_of_lt (by omega), List.getElem?_drop, h2]
  ·rw [List.getElem?_take_of_lt (by omega)] at e
   have hm : (125 : Int) ∈ (l.drop 1).take o := by
    refine List.mem_of_getElem? (i := j) ?_
    rw [List.getElem?_take_of_lt hj, e]
   exact a3 _ hm rfl
 have ht : ((l.drop 1).take 7).take o = (l.drop 1).take o := by rw [List.take_take]; congr 1; omega
 unfold uniS
 rw [if_pos h1, hf, ht, if_pos]
 exact ⟨by rw [List.length_take, List.length_drop]; omega, h3, h4⟩
theorem uni_no {l : List Int} (h : ∀ o, 1 ≤ o → o ≤ 6 → ¬ UP l o) : uniS l = none := by
 unfold uniS
 by_cases h1 : l.head? = some 123
 ·rw [if_pos h1]
  rw [if_neg]
  rintro ⟨a1, a2, a3⟩
  generalize ho : fi ((l.drop 1).take 7) = o at *
  obtain ⟨b1, b2, -⟩ := hexV_all a2
  rw [List.length_take] at a1 b1
  have ht : ((l.drop 1).take 7).take o = (l.drop 1).take o := by rw [List.take_take]; congr 1; omega
  rw [ht] at a2 a3
  refine h o (by omega) (by omega) ⟨h1, ?_, a2, a3⟩
  have hlt : List.findIdx (fun x => x == 125) ((l.drop 1).take 7) < ((l.drop 1).take 7).length := by
   have : fi ((l.drop 1).take 7) < ((l.drop 1).take 7).length := by rw [ho, List.length_take]; omega
   exact this
  have hg := List.findIdx_getElem (w := hlt)
  have hg2 : ((l.drop 1).take 7)[o]? = some 125 := by
   have e : List.findIdx (fun x => x == 125) ((l.drop 1).take 7) = o := ho
   have h5 : ((l.drop 1).take 7)[List.findIdx (fun x => x == 125) ((l.drop 1).take 7)]? = some 125 := by
    rw [List.getElem?_eq_getElem hlt]
    simpa using hg
   rwa [e] at h5
  rw [List.getElem?_take_of_lt (by omega), List.getElem?_drop] at hg2
  exact hg2
 ·rw [if_neg h1]
abbrev oneR (p : List Int × Nat) : Value := .tuple #[.string (strOfNums p.1), .int .i64 p.2]
theorem uniP_some {l : List Int} {o : Nat} (h : UP l o) : uniP l = (encL (hexV ((l.drop 1).take o)), o + 4) := by unfold uniP; rw [uni_some h]
theorem uniP_no {l : List Int} (h : ∀ o, 1 ≤ o → o ≤ 6 → ¬ UP l o) : uniP l = ([], 0) := by unfold uniP; rw [uni_no h]
theorem up_iff {t : ByteArray} {K : Nat} (h4 : 4 ≤ K) (hK : K < t.size) :
  UP ((bl t).drop 2) (K - 3) ↔ byN t 2 = 123 ∧ byN t K = 125 ∧ 0 ≤ hexV (bl (t.extract 3 K)) ∧ scalarB (hexV (bl (t.extract 3 K))) = true := by
 have e1 : ((bl t).drop 2).head? = some (byN t 2 : Int) := by rw [List.head?_drop, bl_get t 2 (by omega)]
 have e2 : ((bl t).drop 2)[1 + (K - 3)]? = some (byN t K : Int) := by rw [List.getElem?_drop, show 2 + (1 + (K - 3)) = K by omega, bl_get t K hK]
 have e3 : ((((bl t).drop 2).drop 1).take (K - 3)) = bl (t.extract 3 K) := by rw [List.drop_drop, bl_extract, List.drop_take]
 unfold UP
 rw [e1, e2, e3]
 simp only [Option.some.injEq]
 constructor
 ·rintro ⟨a, b, c⟩; exact ⟨by omega, by omega, c⟩
 ·rintro ⟨a, b, c⟩; exact ⟨by omega, by omega, c⟩
theorem up_end {t : ByteArray} {o : Nat} (h : t.size ≤ o + 3) : ¬ UP ((bl t).drop 2) o := by
 rintro ⟨-, h2, -⟩
 rw [List.getElem?_drop, List.getElem?_eq_none (by rw [bl_length]; omega)] at h2
 cases h2
section
variable (q : ByteArray) (k : Nat) (hk : k + 1 < q.size) (w : World) (hs : q.size ≤ 1000000) (t : ByteArray) (ht : q.extract k q.size = t) (R : Ending → World → Prop)
include hk hs ht
theorem refone_u (h0 : byN q k = 92) (h1 : byN t 1 = 117)
  (hR : Hid (∀ w', Below w.heap.size w w' → R (.returned (oneR (uniP ((bl t).drop 2)))) w')) : Calls Tryz.prog 287 #[.string q, .int .i64 k] w R := by
 have hz : t.size = q.size - k := by rw [← ht, ByteArray.size_extract]; omega
 have c1 : ¬ (q.size : Int) ≤ k := by omega
 have c2 : ¬ (q.size : Int) - k < 2 := by omega
 have c3 : (k : Int) ≤ q.size := by omega
 have c5 : 1 < t.size := by omega
 have g0 := byN_get q k (by omega)
 have g1 := byN_get t 1 c5
 rw [h0] at g0
 rw [h1] at g1
 clear h0 h1
 have hts : t.size ≤ 1000000 := by omega
 go_enter Tryz.func287, Tryz.ntmps287
 go_wp2_with fail
 go_loopg [7] 6 (fun g v wr => ∃ K : Nat, wr = w ∧ v = .int .i64 K ∧ 4 ≤ K ∧ K + g = 10 ∧ Hid (∀ o, 1 ≤ o → o + 3 < K → ¬ UP ((bl t).drop 2) o))
 case atStart => exact ⟨4, rfl, rfl, by omega, by omega, Lib.hid (fun o h1 h2 => by omega)⟩
 case round =>
  obtain ⟨K, rfl, rfl, d1, d2, d3⟩ := hrel
  by_cases hK : K ≤ 9 ∧ K < t.size
  ·obtain ⟨hK9, hKt⟩ := hK
   have hup := up_iff d1 hKt
   have b2 := byN_get t 2 (by omega)
   have bK := byN_get t K hKt
   have m2 := byN_lt t 2
   have mK := byN_lt t K
   have c6 : 2 < t.size := by omega
   have c7 : (3 : Int) ≤ (K : Int) := by omega
   have c8 : (K : Int) ≤ (t.size : Int) := by omega
   have nxt : ¬ UP ((bl t).drop 2) (K - 3) → ∀ o, 1 ≤ o → o + 3 < K + 1 → ¬ UP ((bl t).drop 2) o := fun h o h1 h2 => by
    by_cases h3 : o + 3 < K
    ·exact d3.out o h1 h3
    ·have : o = K - 3 := by omega
     subst this; exact h
   have hdz : (t.extract 3 K).size ≤ 1000000 := by rw [ByteArray.size_extract]; omega
   have cX := fun (W : World) R hR => refhexv_calls (t.extract 3 K) W hdz R hR
   have hvb := hexV_bd (bl (t.extract 3 K))
   have hsome : UP ((bl t).drop 2) (K - 3) → R (.returned (oneR (encL (hexV (bl (t.extract 3 K))), K + 1))) wr ∧ ∀ w', Below wr.heap.size wr w' → R (.returned (oneR (encL (hexV (bl (t.extract 3 K))), K + 1))) w' := fun h => by
    have e := uniP_some h
    have e3 : ((((bl t).drop 2).drop 1).take (K - 3)) = bl (t.extract 3 K) := by rw [List.drop_drop, bl_extract, List.drop_take]
    rw [e3, show K - 3 + 4 = K + 1 by omega] at e
    have hR' := hR.out
    rw [e] at hR'
    exact ⟨hR' _ (Below.refl _ _), hR'⟩
   clear d3
   generalize hexV (bl (t.extract 3 K)) = v at *
   generalize hDD : t.extract 3 K = D at *
   generalize byN t 2 = x2 at *
   generalize byN t K = xK at *
   replace cX := Lib.hid cX
   replace nxt := Lib.hid nxt
   replace hsome := Lib.hid hsome
   by_cases e2 : x2 = 123
   ·by_cases eK : xK = 125
    ·subst e2 eK
     by_cases hv : 0 ≤ v
     ·have hv' : 0 ≤ v := hv
      have cS := fun (W : World) R h => scalar2_calls v W R h
      have hb2 := hvb.2.1
      clear hvb
      cases hsc : scalarB v
      ·rw [hsc] at cS hup
       have nx := Lib.hid (nxt.out (fun h => by have := hup.1 h; simp at this))
       clear hup nxt hsome hsc
       replace cS := Lib.hid cS
       go_wp2_with fail
       refine cX.out _ _ (Lib.hid ?_)
       go_wp2_with fail
       refine cX.out _ _ (Lib.hid ?_)
       go_wp2_with fail
       refine cS.out _ _ ?_
       go_wp2_with fail
       go_roundg (gk - 1)
       case measure => omega
       case rel => exact ⟨K + 1, rfl, by go_num, by omega, by omega, nx⟩
      ·have hf := Lib.hid (hsome.out (hup.2 ⟨rfl, rfl, hv, hsc⟩)).2
       rw [hsc] at cS
       clear hup nxt hsome hsc
       have cE := fun (W : World) R h => ref_calls v W R h
       replace cS := Lib.hid cS
       replace cE := Lib.hid cE
       go_wp2_with fail
       refine cX.out _ _ (Lib.hid ?_)
       go_wp2_with fail
       refine cX.out _ _ (Lib.hid ?_)
       go_wp2_with fail
       refine cS.out _ _ ?_
       go_wp2_with fail
       refine cX.out _ _ (Lib.hid ?_)
       go_wp2_with fail
       refine cE.out _ _ (Lib.hid fun w2 n2 => ?_)
       go_wp2_with fail
       exact ret2si' (hf.out _ n2) rfl (by omega)
     ·have nx := Lib.hid (nxt.out (fun h => hv (hup.1 h).2.2.1))
      clear hup nxt hsome hvb
      go_wp2_with fail
      refine cX.out _ _ (Lib.hid ?_)
      go_wp2_with fail
      go_roundg (gk - 1)
      case measure => omega
      case rel => exact ⟨K + 1, rfl, by go_num, by omega, by omega, nx⟩
    ·have nx := Lib.hid (nxt.out (fun h => eK (hup.1 h).2.1))
     subst e2
     have eK' : ((xK : Int) == 125) = false := by simp; omega
     have eK2 : ¬ (xK : Int) = 125 := by omega
     clear hup nxt hsome hvb
     go_wp2_with fail
     go_roundg (gk - 1)
     case measure => omega
     case rel => exact ⟨K + 1, rfl, by go_num, by omega, by omega, nx⟩
   ·have nx := Lib.hid (nxt.out (fun h => e2 (hup.1 h).1))
    have e2' : ((x2 : Int) == 123) = false := by simp; omega
    have e22 : ¬ (x2 : Int) = 123 := by omega
    clear hup nxt hsome hvb
    go_wp2_with fail
    go_roundg (gk - 1)
    case measure => omega
    case rel => exact ⟨K + 1, rfl, by go_num, by omega, by omega, nx⟩
  ·have hno : uniP ((bl t).drop 2) = ([], 0) := uniP_no fun o h1 h2 => by
    by_cases h3 : o + 3 < K
    ·exact d3.out o h1 h3
    ·exact up_end (by omega)
   rw [hno] at hR
   clear hno d3
   by_cases h9 : K ≤ 9
   ·have h10 : (K : Int) ≤ 9 := by omega
    have h11 : ¬ (K : Int) < t.size := by omega
    go_wp2_with fail
    exact hR.out _ (Below.refl _ _)
   ·have h10 : ¬ (K : Int) ≤ 9 := by omega
    go_wp2_with fail
    exact hR.out _ (Below.refl _ _)
end
theorem refone_calls (q : ByteArray) (i : Int) (hi : -9223372036854775808 ≤ i ∧ i ≤ 9223372036854775807) (w : World) (hs : q.size ≤ 1000000) (R : Ending → World → Prop)
  (hR : Hid (∀ w', Below w.heap.size w w' → R (.returned (oneR (oneP q i))) w')) : Calls Tryz.prog 287 #[.string q, .int .i64 i] w R := by
 by_cases ho : i < 0 ∨ (q.size : Int) ≤ i + 1
 ·have hu : oneP q i = ([], 0) := if_pos ho
  rw [hu] at hR
  clear hu
  by_cases h : i < 0
  ·go_enter Tryz.func287, Tryz.ntmps287
   go_wp2_with fail
   exact hR.out _ (Below.refl _ _)
  ·by_cases h3 : (q.size : Int) ≤ i
   ·go_enter Tryz.func287, Tryz.ntmps287
    go_wp2_with fail
    exact hR.out _ (Below.refl _ _)
   ·have h2 : (q.size : Int) - i < 2 := by omega
    go_enter Tryz.func287, Tryz.ntmps287
    go_wp2_with fail
    exact hR.out _ (Below.refl _ _)
 ·have hu : oneP q i = oneL ((bl q).drop i.toNat) := if_neg ho
  obtain ⟨k, rfl⟩ : ∃ k : Nat, i = k := ⟨i.toNat, by omega⟩
  have hk : k + 1 < q.size := by omega
  obtain ⟨t, ht⟩ : ∃ t, q.extract k q.size = t := ⟨_, rfl⟩
  have hz : t.size = q.size - k := by rw [← ht, ByteArray.size_extract]; omega
  have hbt : (bl q).drop k = bl t := by rw [← ht, bl_from]
  have h10 : byN q k = byN t 0 := by rw [← ht, byN_ext q k q.size 0 (by omega) (Nat.le_refl _), Nat.add_zero]
  rw [Int.toNat_natCast, hbt, ← List.drop_zero (l := bl t), bl_drop (by omega : 0 < t.size), bl_drop (by omega : 0 + 1 < t.size)] at hu
  rw [hu] at hR
  clear hu ho hi
  by_cases h0 : byN t 0 = 92
  ·rw [h0, show ((92 : Nat) : Int) = 92 from rfl, oneL_esc, show 0 + 1 = 1 from rfl] at hR
   rw [h0] at h10
   by_cases hc17 : byN t 1 = 117
   ·rw [hc17] at hR
    rw [if_neg (by decide), if_neg (by decide), if_neg (by decide), if_neg (by decide), if_neg (by decide), if_pos (by decide)] at hR
    exact refone_u q k hk w hs t ht R h10 hc17 hR
   have c1 : ¬ (q.size : Int) ≤ k := by omega
   have c2 : ¬ (q.size : Int) - k < 2 := by omega
   have c3 : (k : Int) ≤ q.size := by omega
   have c5 : 1 < t.size := by omega
   have g0 := byN_get q k (by omega)
   have g1 := byN_get t 1 c5
   have m1 := byN_lt t 1
   have hone := bl_one t 1 c5
   have c6 : (2 : Int) ≤ (t.size : Int) := by omega
   rw [h10] at g0
   have hts : t.size ≤ 1000000 := by omega
   have hc2 : (1 + 1 : Nat) = 2 := rfl
   rw [hc2] at hR hone
   by_cases h1 : byN t 1 = 34
   ·rw [h1] at hR g1 hone
    rw [if_pos (by decide)] at hR
    have hF : t.extract 1 2 = strOfNums [34] := bl_ext (by rw [hone]; rfl)
    go_enter Tryz.func287, Tryz.ntmps287
    go_wp2_with fail
    exact hR.out _ (Below.refl _ _)
   by_cases h2 : byN t 1 = 92
   ·rw [h2] at hR g1 hone
    rw [if_pos (by decide)] at hR
    have hF : t.extract 1 2 = strOfNums [92] := bl_ext (by rw [hone]; rfl)
    go_enter Tryz.func287, Tryz.ntmps287
    go_wp2_with fail
    exact hR.out _ (Below.refl _ _)
   clear hone
   rw [if_neg (by omega)] at hR
   by_cases h3 : byN t 1 = 116
   ·rw [h3] at hR g1
    rw [if_pos (by decide)] at hR
    go_enter Tryz.func287, Tryz.ntmps287
    go_wp2_with fail
    exact hR.out _ (Below.refl _ _)
   rw [if_neg (by omega)] at hR
   by_cases h4 : byN t 1 = 110
   ·rw [h4] at hR g1
    rw [if_pos (by decide)] at hR
    go_enter Tryz.func287, Tryz.ntmps287
    go_wp2_with fail
    exact hR.out _ (Below.refl _ _)
   rw [if_neg (by omega)] at hR
   by_cases h5 : byN t 1 = 114
   ·rw [h5] at hR g1
    rw [if_pos (by decide)] at hR
    go_enter Tryz.func287, Tryz.ntmps287
    go_wp2_with fail
    exact hR.out _ (Below.refl _ _)
   rw [if_neg (by omega)] at hR
   by_cases h6 : byN t 1 = 120
   ·rw [h6] at hR g1
    rw [if_pos (by decide)] at hR
    unfold byteP at hR
    rw [List.length_drop, bl_length] at hR
    by_cases hl : 3 < t.size
    ·have c7 : (4 : Int) ≤ (t.size : Int) := by omega
     have hbd : bl (t.extract 2 4) = ((bl t).drop 2).take 2 := by rw [bl_extract, List.drop_take]
     have hdz : (t.extract 2 4).size ≤ 1000000 := by rw [ByteArray.size_extract]; omega
     have cX := fun (W : World) R hR => refhexv_calls (t.extract 2 4) W hdz R hR
     rw [hbd] at cX
     have hvb := hexV_bd (((bl t).drop 2).take 2)
     have hvb1 := hvb.1
     have hvb2 := hvb.2.2.2 (by rw [List.length_take]; omega)
     clear hvb hbd
     generalize hexV (((bl t).drop 2).take 2) = v at *
     generalize hDD : t.extract 2 4 = D at *
     replace cX := Lib.hid cX
     have cv := cvB
     by_cases hv : 0 ≤ v
     ·rw [if_pos ⟨by omega, hv⟩] at hR
      go_enter Tryz.func287, Tryz.ntmps287
      go_wp2_with fail
      refine cX.out _ _ (Lib.hid ?_)
      go_wp2_with fail
      refine cX.out _ _ (Lib.hid ?_)
      go_wp2_with fail
      exact hR.out _ ((Below.refl _ _).alloc (Nat.le_refl _) _)
     ·rw [if_neg (fun e => hv e.2)] at hR
      go_enter Tryz.func287, Tryz.ntmps287
      go_wp2_with fail
      refine cX.out _ _ (Lib.hid ?_)
      go_wp2_with fail
      exact hR.out _ (Below.refl _ _)
    ·rw [if_neg (fun e => by omega)] at hR
     have c7 : ¬ (3 : Int) < (t.size : Int) := by omega
     go_enter Tryz.func287, Tryz.ntmps287
     go_wp2_with fail
     exact hR.out _ (Below.refl _ _)
   rw [if_neg (by omega), if_neg (by omega)] at hR
   have e1 : ((byN t 1 : Int) == 34) = false := by simp; omega
   have e2 : ((byN t 1 : Int) == 92) = false := by simp; omega
   have e3 : ((byN t 1 : Int) == 116) = false := by simp; omega
   have e4 : ((byN t 1 : Int) == 110) = false := by simp; omega
   have e5 : ((byN t 1 : Int) == 114) = false := by simp; omega
   have e6 : ((byN t 1 : Int) == 120) = false := by simp; omega
   have e7 : ((byN t 1 : Int) == 117) = false := by simp; omega
   generalize byN t 1 = c at *
   go_enter Tryz.func287, Tryz.ntmps287
   go_wp2_with fail
   exact hR.out _ (Below.refl _ _)
  ·rw [oneL_other (by omega)] at hR
   have c1 : ¬ (q.size : Int) ≤ k := by omega
   have c2 : ¬ (q.size : Int) - k < 2 := by omega
   have g0 := byN_get q k (by omega)
   rw [h10] at g0
   have m0 := byN_lt t 0
   have e2 : ¬ (byN t 0 : Int) = 92 := by omega
   have e3 : ((byN t 0 : Int) != 92) = true := by simpa using e2
   generalize byN t 0 = c at *
   go_enter Tryz.func287, Tryz.ntmps287
   go_wp2_with fail
   exact hR.out _ (Below.refl _ _)
end Go.Proofs.YtncijmodlhijoaaGreat.Esc
namespace Go.Proofs.YtncijmodlhijoaaGreat.Esc
open Go.RowKit Go.Lib Utf Ran Cel Bld
def unP (s : ByteArray) (i : Int) : ByteArray × Nat := if i < 0 ∨ (s.size : Int) ≤ i then (ByteArray.empty, 0) else unS s i.toNat
end Go.Proofs.YtncijmodlhijoaaGreat.Esc
