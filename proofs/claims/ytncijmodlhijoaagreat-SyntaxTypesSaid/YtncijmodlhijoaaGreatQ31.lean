import Derived.Test.YtncijmodlhijoaaGreatQ30
import Derived.Deep.DeepCutAuto
import Derived.Deep.CutBlock
set_option linter.unusedVariables false
set_option maxRecDepth 100000
set_option maxHeartbeats 4000000
namespace Go.Proofs.YtncijmodlhijoaaGreat.Dig
open Go.RowKit Go.Lib Utf
def mostS (neg : Bool) : ByteArray := if neg then ⟨#[57, 50, 50, 51, 51, 55, 50, 48, 51, 54, 56, 53, 52, 55, 55, 53, 56, 48, 56]⟩ else ⟨#[57, 50, 50, 51, 51, 55, 50, 48, 51, 54, 56, 53, 52, 55, 55, 53, 56, 48, 55]⟩
theorem most_ok (neg : Bool) : Dg (bl (mostS neg)) ∧ (bl (mostS neg)).length = 19 ∧ valN (bl (mostS neg)) = lowN neg ∧ (mostS neg).size = 19 := by
 cases neg
 ·refine ⟨fun x hx => ?_, by decide, by decide, by decide⟩
  have : ∀ x ∈ bl (mostS false), 48 ≤ x ∧ x ≤ 57 := by decide
  exact this x hx
 ·refine ⟨fun x hx => ?_, by decide, by decide, by decide⟩
  have : ∀ x ∈ bl (mostS true), 48 ≤ x ∧ x ≤ 57 := by decide
  exact this x hx
theorem reftake_calls (s : ByteArray) (i : Int) (hi : -9223372036854775808 ≤ i ∧ i ≤ 9223372036854775807) (w : World) (hs : s.size ≤ 1000000000000000) (R : Ending → World → Prop)
  (hR : Hid (∀ w', Below w.heap.size w w' → R (.returned (tkT (tkS s i))) w')) : Calls Tryz.prog 240 #[.string s, .int .i64 i] w R := by
 unfold tkS at hR
 by_cases hb : i < 0 ∨ (s.size : Int) < i
 ·rw [if_pos hb] at hR
  rcases hb with hb | hb
  ·go_enter Tryz.func240, Tryz.ntmps240
   go_wp2_with fail
   refine bodyPost_ret ?_ rfl (hR.out _ ((Below.refl w.heap.size w).alloc (Nat.le_refl _) _))
   simp [results, Tryz.results240, go_sem, tkT]
  ·have hb2 : ¬ i < 0 := by omega
   go_enter Tryz.func240, Tryz.ntmps240
   go_wp2_with fail
   refine bodyPost_ret ?_ rfl (hR.out _ ((Below.refl w.heap.size w).alloc (Nat.le_refl _) _))
   simp [results, Tryz.results240, go_sem, tkT]
 ·rw [if_neg hb] at hR
  obtain ⟨a, rfl⟩ : ∃ a : Nat, i = a := ⟨i.toNat, by omega⟩
  rw [Int.toNat_natCast, tkN_eq] at hR
  have ha : a ≤ s.size := by omega
  clear hb hi
  obtain ⟨w0, hw0⟩ : ∃ w0, w0 = w.alloc (.cells #[.int .i64 0, .int .i64 0] 35) := ⟨_, rfl⟩
  have z0 : w0.heap.size = w.heap.size + 1 := by rw [hw0]; simp
  have h0 : w0.heap[w.heap.size]? = some (.cells #[.int .i64 0, .int .i64 0] 35 (0, 0)) := by rw [hw0]; exact Array.getElem?_push_size
  have b0 : Below w.heap.size w w0 := by rw [hw0]; exact (Below.refl _ _).alloc (Nat.le_refl _) _
  have fin : ∀ W : World, Below (w.heap.size + 1) w0 W → W.cell? ⟨w.heap.size, 0, none⟩ = some (.int .i64 0) ∧ W.cell? ⟨w.heap.size, 1, none⟩ = some (.int .i64 0) ∧ W.frozen? ⟨w.heap.size, 0, none⟩ = false ∧ W.frozen? ⟨w.heap.size, 1, none⟩ = false ∧ Below w.heap.size w W := fun W hW => by
   have hh : W.heap[w.heap.size]? = some (.cells #[.int .i64 0, .int .i64 0] 35 (0, 0)) := by rw [hW.block _ (by omega)]; exact h0
   exact ⟨by rw [Lib.cell_of_heap hh]; rfl, by rw [Lib.cell_of_heap hh]; rfl, Lib.frozen_of_heap hh 0, Lib.frozen_of_heap hh 1, b0.trans (hW.mono (by omega))⟩
  have n0 : Below (w.heap.size + 1) w0 (w.alloc (.cells #[.int .i64 0, .int .i64 0] 35)) := by rw [← hw0]; exact Below.refl _ _
  have hns : ¬ s.size < a := by omega
  replace n0 := Lib.hid n0
  replace fin := Lib.hid fin
  clear h0 b0
  by_cases hneg : a < s.size ∧ byN s a = 45
  ·rw [if_pos hneg, decide_eq_true hneg] at hR
   obtain ⟨has, h45⟩ := hneg
   have hg := byN_get s a has
   rw [h45] at hg
   have hfa : ((a + 1 : Nat) : Int) = (a : Int) + 1 := by omega
   have hfs : a + 1 ≤ s.size := by omega
   obtain ⟨E, hE⟩ : ∃ E, a + 1 + (dgs s (a + 1)).length = E := ⟨_, rfl⟩
   have hEs := dgs_len hfs
   rw [hE] at hEs
   go_enter Tryz.func240, Tryz.ntmps240
   go_upto_block 0 with fail
   go_cut [10] (fun e wx => e = .int .i64 E ∧ Below (w.heap.size + 1) w0 wx)
   case first =>
    clear hg
    go_wp2_with fail
    go_loopg [10] (s.size - (a + 1)) (fun g e wr => ∃ j : Nat, Hid (Below (w.heap.size + 1) w0 wr) ∧ e = .int .i64 j ∧ j ≤ s.size ∧ a + 1 ≤ j ∧ g = s.size - j ∧ Hid (j + (dgs s j).length = E))
    case atStart => exact ⟨a + 1, n0, by go_num, hfs, Nat.le_refl _, rfl, Lib.hid hE⟩
    case round =>
     obtain ⟨j, bel, rfl, c1, c2, c3, c4⟩ := hrel
     have e := c4.out
     clear c4 hE n0
     by_cases hj : j < s.size
     ·have hg2 := byN_get s j hj
      have hbl := byN_lt s j
      have cD := fun (W : World) R hR => isdigit_calls (byN s j) hbl W R hR
      by_cases hd : 48 ≤ byN s j ∧ byN s j ≤ 57
      ·rw [dgs_step hj hd, List.length_cons] at e
       rw [decide_eq_true hd] at cD
       generalize byN s j = c at *
       clear hd
       replace cD := Lib.hid cD
       go_wp2_with fail
       refine cD.out _ _ (Lib.hid ?_)
       go_wp2_with fail
       go_roundg (gk - 1)
       case measure => omega
       case rel => exact ⟨j + 1, bel, by go_num, by omega, by omega, by omega, Lib.hid (by omega)⟩
      ·rw [dgs_stop hj hd, List.length_nil, Nat.add_zero] at e
       rw [decide_eq_false hd] at cD
       generalize byN s j = c at *
       clear hd
       subst e
       replace cD := Lib.hid cD
       go_wp2_with fail
       refine cD.out _ _ (Lib.hid ?_)
       go_wp2_with fail
       go_meet
       case rel => exact ⟨rfl, bel.out⟩
     ·rw [dgs_end (by omega), List.length_nil, Nat.add_zero] at e
      subst e
      go_wp2_with fail
      go_meet
      case rel => exact ⟨rfl, bel.out⟩
   case rest =>
    obtain ⟨rfl, n1⟩ := hcut
    clear n0
    have hdg := dgs_dg s (a + 1)
    obtain ⟨r, hr⟩ := dgs_pre s (a + 1)
    have hx2 : (s.extract (a + 1) E).size = E - (a + 1) := by rw [ByteArray.size_extract]; omega
    have hbx : bl (s.extract (a + 1) E) = dgs s (a + 1) := by rw [← hE]; exact dgs_ext hfs
    have hend : a + 1 = s.size → dgs s (a + 1) = [] := fun e => dgs_end (by omega)
    have hgf := fun h : a + 1 < s.size => byN_get s (a + 1) h
    have hb8 := byN_lt s (a + 1)
    have hby := fun (j : Nat) (x : Int) (h : (dgs s (a + 1))[j]? = some x) => byN_drop hr h
    have cG := fun (W : World) R hR => great_calls (s.extract (a + 1) E) (mostS true) W (by omega) (most_ok true).2.2.2 R hR
    rw [hbx] at cG
    clear hr hbx
    unfold tkG at hR
    generalize dgs s (a + 1) = L at *
    by_cases hL : L = []
    ·rw [if_pos hL] at hR
     subst hL
     rw [List.length_nil, Nat.add_zero] at hE
     subst hE
     clear cG hdg hx2 hend hby
     simp only [hfa] at hR
     by_cases hfe : a + 1 = s.size
     ·rw [if_pos hfe] at hR
      replace hfe : s.size ≤ a + 1 := by omega
      obtain ⟨c0, c1, g0, g1, n4⟩ := fin.out wc n1
      clear fin
      go_wp2_with fail
      all_goals (refine bodyPost_ret ?_ rfl (hR.out _ ((n4.setCell (p := ⟨w.heap.size, 0, none⟩) (Nat.le_refl _) _).setCell (p := ⟨w.heap.size, 1, none⟩) (Nat.le_refl _) _)); simp [results, Tryz.results240, go_sem, tkT, c0, c1])
     ·rw [if_neg hfe] at hR
      obtain ⟨c0, c1, g0, g1, n4⟩ := fin.out wc n1
      clear fin
      go_wp2_with fail
      all_goals (refine bodyPost_ret ?_ rfl (hR.out _ ((n4.setCell (p := ⟨w.heap.size, 0, none⟩) (Nat.le_refl _) _).setCell (p := ⟨w.heap.size, 1, none⟩) (Nat.le_refl _) _)); simp [results, Tryz.results240, go_sem, tkT, c0, c1])
    ·rw [if_neg hL] at hR
     have hf3 : a + 1 < s.size := by
      rcases Nat.lt_or_ge (a + 1) s.size with h | h
      ·exact h
      ·exact absurd (hend (by omega)) hL
     replace hgf := hgf hf3
     have hl1 : 1 ≤ L.length := List.length_pos_iff.2 hL
     rw [hE] at hR
     have hfE : a + 1 < E := by omega
     clear hend hL
     by_cases h48 : byN s (a + 1) = 48 ∧ (1 < L.length ∨ true = true)
     ·rw [if_pos h48] at hR
      obtain ⟨h48, hor⟩ := h48
      have hlen : True := trivial
      clear cG hor hby hdg
      obtain ⟨c0, c1, g0, g1, n4⟩ := fin.out wc n1
      clear fin
      go_wp2_with fail
      all_goals (refine bodyPost_ret ?_ rfl (hR.out _ ((n4.setCell (p := ⟨w.heap.size, 0, none⟩) (Nat.le_refl _) _).setCell (p := ⟨w.heap.size, 1, none⟩) (Nat.le_refl _) _)); simp [results, Tryz.results240, go_sem, tkT, c0, c1])
     ·rw [if_neg h48] at hR
      have hm := most_ok true
      have h0h : ∀ c m, L = c :: m → c = 48 → m = [] := fun c m e1 e2 => by
       have hb0 := hby 0 c (by rw [e1]; rfl)
       rw [Nat.add_zero] at hb0
       rcases Nat.lt_or_ge 1 L.length with q | q
       ·exact absurd ⟨by omega, .inl q⟩ h48
       ·rw [e1, List.length_cons] at q
        exact List.length_eq_zero_iff.1 (by omega)
      have hgv := great_val hdg hm.1 hm.2.1 (by rw [hm.2.2.1]; decide) h0h
      rw [hm.2.2.1] at hgv
      rw [hgv] at cG
      have hms : mostS true = ⟨#[57, 50, 50, 51, 51, 55, 50, 48, 51, 54, 56, 53, 52, 55, 55, 53, 56, 48, 56]⟩ := rfl
      rw [hms] at cG
      clear hgv hm hms h0h
      have h0 : ¬ byN s (a + 1) = 48 := fun h => h48 ⟨h, .inr rfl⟩
      clear h48
      by_cases hbig : lowN true < valN L
      ·rw [if_pos hbig] at hR
       rw [decide_eq_true hbig] at cG
       replace cG := Lib.hid cG
       clear hbig hby hdg
       go_wp2_with fail
       refine cG.out _ _ (Lib.hid ?_)
       obtain ⟨c0, c1, g0, g1, n4⟩ := fin.out wc n1
       clear fin
       go_wp2_with fail
       all_goals (refine bodyPost_ret ?_ rfl (hR.out _ ((n4.setCell (p := ⟨w.heap.size, 0, none⟩) (Nat.le_refl _) _).setCell (p := ⟨w.heap.size, 1, none⟩) (Nat.le_refl _) _)); simp [results, Tryz.results240, go_sem, tkT, c0, c1])
      ·rw [if_neg hbig] at hR
       rw [decide_eq_false hbig] at cG
       replace cG := Lib.hid cG
       obtain ⟨V, hV⟩ : ∃ V, valN L = V := ⟨_, rfl⟩
       rw [hV] at hR hbig
       have hVb : V ≤ 9223372036854775808 := by
        have : lowN true = 9223372036854775808 := rfl
        omega
       replace hV : valA 0 (L.drop 0) = V := hV
       replace hV := Lib.hid hV
       replace hby := Lib.hid hby
       replace hdg := Lib.hid hdg
       replace n1 := Lib.hid n1
       clear hbig
       simp only at hR
       go_wp2_with fail
       refine cG.out _ _ (Lib.hid ?_)
       go_wp2_with fail
       go_loopg [11, 12] L.length (fun g n k wr => ∃ (j x : Nat), Hid (Below (w.heap.size + 1) w0 wr) ∧ n = .int .i64 (-(x : Int)) ∧ k = .int .i64 (a + 1 + j : Nat) ∧ j + g = L.length ∧ Hid (valA x (L.drop j) = V))
       case atStart => exact ⟨0, 0, n1, rfl, by go_num, by omega, hV⟩
       case round =>
        obtain ⟨j, x, bel, rfl, rfl, d1, d2⟩ := hrel
        have e := d2.out
        clear d2 hV
        by_cases hj : j < L.length
        ·obtain ⟨y, hy⟩ : ∃ y, L[j]? = some y := ⟨L[j], List.getElem?_eq_getElem hj⟩
         have hyb := hby.out j y hy
         have hyd := hdg.out y (List.mem_of_getElem? hy)
         rw [List.drop_eq_getElem_cons hj, valA_cons] at e
         rw [List.getElem?_eq_getElem hj, Option.some.injEq] at hy
         rw [hy] at e
         have hg2 := byN_get s (a + 1 + j) (by omega)
         obtain ⟨d, hdq⟩ : ∃ d : Nat, byN s (a + 1 + j) = 48 + d := ⟨byN s (a + 1 + j) - 48, by omega⟩
         rw [hdq] at hg2 hyb
         have hd9 : d ≤ 9 := by omega
         rw [show (y - 48).toNat = d by omega] at e
         have hmo := valA_mono (L.drop (j + 1)) (10 * x + d)
         rw [e] at hmo
         replace e := Lib.hid e
         clear hy hyb hyd hdq
         have hfj : ((a + 1 + j : Nat) : Int) = (a : Int) + 1 + j := by omega
         go_wp2_with fail
         go_roundg (gk - 1)
         case measure => omega
         case rel => exact ⟨j + 1, 10 * x + d, bel, by go_num, by go_num, by omega, e⟩
        ·rw [List.drop_eq_nil_of_le (by omega)] at e
         replace e : x = V := e
         subst e
         obtain ⟨c0, c1, g0, g1, n4⟩ := fin.out wr bel.out
         clear fin
         have hfj : ((a + 1 + j : Nat) : Int) = (a : Int) + 1 + j := by omega
         go_wp2_with fail
         all_goals (refine bodyPost_ret ?_ rfl (hR.out _ ((n4.setCell (p := ⟨w.heap.size, 0, none⟩) (Nat.le_refl _) _).setCell (p := ⟨w.heap.size, 1, none⟩) (Nat.le_refl _) _)); simp [results, Tryz.results240, go_sem, tkT, c0, c1])
  ·rw [if_neg hneg, decide_eq_false hneg] at hR
   have hfs := ha
   by_cases has : a < s.size
   ·have h45 : ¬ byN s a = 45 := fun h => hneg ⟨has, h⟩
    have hg := byN_get s a has
    have h45b : ((byN s a : Int) == 45) = false := by simp; omega
    have hbl0 := byN_lt s a
    clear hneg
    obtain ⟨E, hE⟩ : ∃ E, a + (dgs s a).length = E := ⟨_, rfl⟩
    have hEs := dgs_len hfs
    rw [hE] at hEs
    go_enter Tryz.func240, Tryz.ntmps240
    go_upto_block 0 with fail
    go_cut [10] (fun e wx => e = .int .i64 E ∧ Below (w.heap.size + 1) w0 wx)
    case first =>
     clear hg hbl0
     go_wp2_with fail
     go_loopg [10] (s.size - a) (fun g e wr => ∃ j : Nat, Hid (Below (w.heap.size + 1) w0 wr) ∧ e = .int .i64 j ∧ j ≤ s.size ∧ a ≤ j ∧ g = s.size - j ∧ Hid (j + (dgs s j).length = E))
     case atStart => exact ⟨a, n0, by go_num, hfs, Nat.le_refl _, rfl, Lib.hid hE⟩
     case round =>
      obtain ⟨j, bel, rfl, c1, c2, c3, c4⟩ := hrel
      have e := c4.out
      clear c4 hE n0
      by_cases hj : j < s.size
      ·have hg2 := byN_get s j hj
       have hbl := byN_lt s j
       have cD := fun (W : World) R hR => isdigit_calls (byN s j) hbl W R hR
       by_cases hd : 48 ≤ byN s j ∧ byN s j ≤ 57
       ·rw [dgs_step hj hd, List.length_cons] at e
        rw [decide_eq_true hd] at cD
        generalize byN s j = c at *
        clear hd
        replace cD := Lib.hid cD
        go_wp2_with fail
        refine cD.out _ _ (Lib.hid ?_)
        go_wp2_with fail
        go_roundg (gk - 1)
        case measure => omega
        case rel => exact ⟨j + 1, bel, by go_num, by omega, by omega, by omega, Lib.hid (by omega)⟩
       ·rw [dgs_stop hj hd, List.length_nil, Nat.add_zero] at e
        rw [decide_eq_false hd] at cD
        generalize byN s j = c at *
        clear hd
        subst e
        replace cD := Lib.hid cD
        go_wp2_with fail
        refine cD.out _ _ (Lib.hid ?_)
        go_wp2_with fail
        go_meet
        case rel => exact ⟨rfl, bel.out⟩
      ·rw [dgs_end (by omega), List.length_nil, Nat.add_zero] at e
       subst e
       go_wp2_with fail
       go_meet
       case rel => exact ⟨rfl, bel.out⟩
    case rest =>
     obtain ⟨rfl, n1⟩ := hcut
     clear n0
     have hdg := dgs_dg s a
     obtain ⟨r, hr⟩ := dgs_pre s a
     have hx2 : (s.extract a E).size = E - a := by rw [ByteArray.size_extract]; omega
     have hbx : bl (s.extract a E) = dgs s a := by rw [← hE]; exact dgs_ext hfs
     have hend : a = s.size → dgs s a = [] := fun e => dgs_end (by omega)
     have hgf := fun h : a < s.size => byN_get s a h
     have hb8 := byN_lt s a
     have hby := fun (j : Nat) (x : Int) (h : (dgs s a)[j]? = some x) => byN_drop hr h
     have cG := fun (W : World) R hR => great_calls (s.extract a E) (mostS false) W (by omega) (most_ok false).2.2.2 R hR
     rw [hbx] at cG
     clear hr hbx
     unfold tkG at hR
     generalize dgs s a = L at *
     by_cases hL : L = []
     ·rw [if_pos hL] at hR
      subst hL
      rw [List.length_nil, Nat.add_zero] at hE
      subst hE
      clear cG hdg hx2 hend hby
      by_cases hfe : a = s.size
      ·rw [if_pos hfe] at hR
       replace hfe : s.size ≤ a := by omega
       obtain ⟨c0, c1, g0, g1, n4⟩ := fin.out wc n1
       clear fin
       go_wp2_with fail
       all_goals (refine bodyPost_ret ?_ rfl (hR.out _ ((n4.setCell (p := ⟨w.heap.size, 0, none⟩) (Nat.le_refl _) _).setCell (p := ⟨w.heap.size, 1, none⟩) (Nat.le_refl _) _)); simp [results, Tryz.results240, go_sem, tkT, c0, c1])
      ·rw [if_neg hfe] at hR
       obtain ⟨c0, c1, g0, g1, n4⟩ := fin.out wc n1
       clear fin
       go_wp2_with fail
       all_goals (refine bodyPost_ret ?_ rfl (hR.out _ ((n4.setCell (p := ⟨w.heap.size, 0, none⟩) (Nat.le_refl _) _).setCell (p := ⟨w.heap.size, 1, none⟩) (Nat.le_refl _) _)); simp [results, Tryz.results240, go_sem, tkT, c0, c1])
     ·rw [if_neg hL] at hR
      have hf3 : a < s.size := by
       rcases Nat.lt_or_ge a s.size with h | h
       ·exact h
       ·exact absurd (hend (by omega)) hL
      replace hgf := hgf hf3
      have hl1 : 1 ≤ L.length := List.length_pos_iff.2 hL
      rw [hE] at hR
      have hfE : a < E := by omega
      clear hend hL
      by_cases h48 : byN s a = 48 ∧ (1 < L.length ∨ false = true)
      ·rw [if_pos h48] at hR
       obtain ⟨h48, hor⟩ := h48
       have hlen : a + 1 < E := by
        rcases hor with h | h
        ·omega
        ·cases h
       clear cG hor hby hdg
       obtain ⟨c0, c1, g0, g1, n4⟩ := fin.out wc n1
       clear fin
       go_wp2_with fail
       all_goals (refine bodyPost_ret ?_ rfl (hR.out _ ((n4.setCell (p := ⟨w.heap.size, 0, none⟩) (Nat.le_refl _) _).setCell (p := ⟨w.heap.size, 1, none⟩) (Nat.le_refl _) _)); simp [results, Tryz.results240, go_sem, tkT, c0, c1])
      ·rw [if_neg h48] at hR
       have hm := most_ok false
       have h0h : ∀ c m, L = c :: m → c = 48 → m = [] := fun c m e1 e2 => by
        have hb0 := hby 0 c (by rw [e1]; rfl)
        rw [Nat.add_zero] at hb0
        rcases Nat.lt_or_ge 1 L.length with q | q
        ·exact absurd ⟨by omega, .inl q⟩ h48
        ·rw [e1, List.length_cons] at q
         exact List.length_eq_zero_iff.1 (by omega)
       have hgv := great_val hdg hm.1 hm.2.1 (by rw [hm.2.2.1]; decide) h0h
       rw [hm.2.2.1] at hgv
       rw [hgv] at cG
       have hms : mostS false = ⟨#[57, 50, 50, 51, 51, 55, 50, 48, 51, 54, 56, 53, 52, 55, 55, 53, 56, 48, 55]⟩ := rfl
       rw [hms] at cG
       clear hgv hm hms h0h
       by_cases h0 : byN s a = 48
       ·have hlen : E ≤ a + 1 := by
         have : ¬ 1 < L.length := fun h => h48 ⟨h0, .inl h⟩
         omega
        clear h48
        by_cases hbig : lowN false < valN L
        ·rw [if_pos hbig] at hR
         rw [decide_eq_true hbig] at cG
         replace cG := Lib.hid cG
         clear hbig hby hdg
         go_wp2_with fail
         refine cG.out _ _ (Lib.hid ?_)
         obtain ⟨c0, c1, g0, g1, n4⟩ := fin.out wc n1
         clear fin
         go_wp2_with fail
         all_goals (refine bodyPost_ret ?_ rfl (hR.out _ ((n4.setCell (p := ⟨w.heap.size, 0, none⟩) (Nat.le_refl _) _).setCell (p := ⟨w.heap.size, 1, none⟩) (Nat.le_refl _) _)); simp [results, Tryz.results240, go_sem, tkT, c0, c1])
        ·rw [if_neg hbig] at hR
         rw [decide_eq_false hbig] at cG
         replace cG := Lib.hid cG
         obtain ⟨V, hV⟩ : ∃ V, valN L = V := ⟨_, rfl⟩
         rw [hV] at hR hbig
         have hVb : V ≤ 9223372036854775807 := by
          have : lowN false = 9223372036854775807 := rfl
          omega
         replace hV : valA 0 (L.drop 0) = V := hV
         replace hV := Lib.hid hV
         replace hby := Lib.hid hby
         replace hdg := Lib.hid hdg
         replace n1 := Lib.hid n1
         clear hbig
         go_wp2_with fail
         refine cG.out _ _ (Lib.hid ?_)
         go_wp2_with fail
         go_loopg [11, 12] L.length (fun g n k wr => ∃ (j x : Nat), Hid (Below (w.heap.size + 1) w0 wr) ∧ n = .int .i64 ((x : Int)) ∧ k = .int .i64 (a + j : Nat) ∧ j + g = L.length ∧ Hid (valA x (L.drop j) = V))
         case atStart => exact ⟨0, 0, n1, rfl, by go_num, by omega, hV⟩
         case round =>
          obtain ⟨j, x, bel, rfl, rfl, d1, d2⟩ := hrel
          have e := d2.out
          clear d2 hV
          by_cases hj : j < L.length
          ·obtain ⟨y, hy⟩ : ∃ y, L[j]? = some y := ⟨L[j], List.getElem?_eq_getElem hj⟩
           have hyb := hby.out j y hy
           have hyd := hdg.out y (List.mem_of_getElem? hy)
           rw [List.drop_eq_getElem_cons hj, valA_cons] at e
           rw [List.getElem?_eq_getElem hj, Option.some.injEq] at hy
           rw [hy] at e
           have hg2 := byN_get s (a + j) (by omega)
           obtain ⟨d, hdq⟩ : ∃ d : Nat, byN s (a + j) = 48 + d := ⟨byN s (a + j) - 48, by omega⟩
           rw [hdq] at hg2 hyb
           have hd9 : d ≤ 9 := by omega
           rw [show (y - 48).toNat = d by omega] at e
           have hmo := valA_mono (L.drop (j + 1)) (10 * x + d)
           rw [e] at hmo
           replace e := Lib.hid e
           clear hy hyb hyd hdq
           go_wp2_with fail
           go_roundg (gk - 1)
           case measure => omega
           case rel => exact ⟨j + 1, 10 * x + d, bel, by go_num, by go_num, by omega, e⟩
          ·rw [List.drop_eq_nil_of_le (by omega)] at e
           replace e : x = V := e
           subst e
           obtain ⟨c0, c1, g0, g1, n4⟩ := fin.out wr bel.out
           clear fin
           go_wp2_with fail
           all_goals (refine bodyPost_ret ?_ rfl (hR.out _ ((n4.setCell (p := ⟨w.heap.size, 0, none⟩) (Nat.le_refl _) _).setCell (p := ⟨w.heap.size, 1, none⟩) (Nat.le_refl _) _)); simp [results, Tryz.results240, go_sem, tkT, c0, c1])
       ·clear h48
        by_cases hbig : lowN false < valN L
        ·rw [if_pos hbig] at hR
         rw [decide_eq_true hbig] at cG
         replace cG := Lib.hid cG
         clear hbig hby hdg
         go_wp2_with fail
         refine cG.out _ _ (Lib.hid ?_)
         obtain ⟨c0, c1, g0, g1, n4⟩ := fin.out wc n1
         clear fin
         go_wp2_with fail
         all_goals (refine bodyPost_ret ?_ rfl (hR.out _ ((n4.setCell (p := ⟨w.heap.size, 0, none⟩) (Nat.le_refl _) _).setCell (p := ⟨w.heap.size, 1, none⟩) (Nat.le_refl _) _)); simp [results, Tryz.results240, go_sem, tkT, c0, c1])
        ·rw [if_neg hbig] at hR
         rw [decide_eq_false hbig] at cG
         replace cG := Lib.hid cG
         obtain ⟨V, hV⟩ : ∃ V, valN L = V := ⟨_, rfl⟩
         rw [hV] at hR hbig
         have hVb : V ≤ 9223372036854775807 := by
          have : lowN false = 9223372036854775807 := rfl
          omega
         replace hV : valA 0 (L.drop 0) = V := hV
         replace hV := Lib.hid hV
         replace hby := Lib.hid hby
         replace hdg := Lib.hid hdg
         replace n1 := Lib.hid n1
         clear hbig
         go_wp2_with fail
         refine cG.out _ _ (Lib.hid ?_)
         go_wp2_with fail
         go_loopg [11, 12] L.length (fun g n k wr => ∃ (j x : Nat), Hid (Below (w.heap.size + 1) w0 wr) ∧ n = .int .i64 ((x : Int)) ∧ k = .int .i64 (a + j : Nat) ∧ j + g = L.length ∧ Hid (valA x (L.drop j) = V))
         case atStart => exact ⟨0, 0, n1, rfl, by go_num, by omega, hV⟩
         case round =>
          obtain ⟨j, x, bel, rfl, rfl, d1, d2⟩ := hrel
          have e := d2.out
          clear d2 hV
          by_cases hj : j < L.length
          ·obtain ⟨y, hy⟩ : ∃ y, L[j]? = some y := ⟨L[j], List.getElem?_eq_getElem hj⟩
           have hyb := hby.out j y hy
           have hyd := hdg.out y (List.mem_of_getElem? hy)
           rw [List.drop_eq_getElem_cons hj, valA_cons] at e
           rw [List.getElem?_eq_getElem hj, Option.some.injEq] at hy
           rw [hy] at e
           have hg2 := byN_get s (a + j) (by omega)
           obtain ⟨d, hdq⟩ : ∃ d : Nat, byN s (a + j) = 48 + d := ⟨byN s (a + j) - 48, by omega⟩
           rw [hdq] at hg2 hyb
           have hd9 : d ≤ 9 := by omega
           rw [show (y - 48).toNat = d by omega] at e
           have hmo := valA_mono (L.drop (j + 1)) (10 * x + d)
           rw [e] at hmo
           replace e := Lib.hid e
           clear hy hyb hyd hdq
           go_wp2_with fail
           go_roundg (gk - 1)
           case measure => omega
           case rel => exact ⟨j + 1, 10 * x + d, bel, by go_num, by go_num, by omega, e⟩
          ·rw [List.drop_eq_nil_of_le (by omega)] at e
           replace e : x = V := e
           subst e
           obtain ⟨c0, c1, g0, g1, n4⟩ := fin.out wr bel.out
           clear fin
           go_wp2_with fail
           all_goals (refine bodyPost_ret ?_ rfl (hR.out _ ((n4.setCell (p := ⟨w.heap.size, 0, none⟩) (Nat.le_refl _) _).setCell (p := ⟨w.heap.size, 1, none⟩) (Nat.le_refl _) _)); simp [results, Tryz.results240, go_sem, tkT, c0, c1])
   ·have has2 : s.size ≤ a := by omega
    clear hneg
    obtain ⟨E, hE⟩ : ∃ E, a + (dgs s a).length = E := ⟨_, rfl⟩
    have hEs := dgs_len hfs
    rw [hE] at hEs
    go_enter Tryz.func240, Tryz.ntmps240
    go_upto_block 0 with fail
    go_cut [10] (fun e wx => e = .int .i64 E ∧ Below (w.heap.size + 1) w0 wx)
    case first =>
     go_wp2_with fail
     go_loopg [10] (s.size - a) (fun g e wr => ∃ j : Nat, Hid (Below (w.heap.size + 1) w0 wr) ∧ e = .int .i64 j ∧ j ≤ s.size ∧ a ≤ j ∧ g = s.size - j ∧ Hid (j + (dgs s j).length = E))
     case atStart => exact ⟨a, n0, by go_num, hfs, Nat.le_refl _, rfl, Lib.hid hE⟩
     case round =>
      obtain ⟨j, bel, rfl, c1, c2, c3, c4⟩ := hrel
      have e := c4.out
      clear c4 hE n0
      by_cases hj : j < s.size
      ·have hg2 := byN_get s j hj
       have hbl := byN_lt s j
       have cD := fun (W : World) R hR => isdigit_calls (byN s j) hbl W R hR
       by_cases hd : 48 ≤ byN s j ∧ byN s j ≤ 57
       ·rw [dgs_step hj hd, List.length_cons] at e
        rw [decide_eq_true hd] at cD
        generalize byN s j = c at *
        clear hd
        replace cD := Lib.hid cD
        go_wp2_with fail
        refine cD.out _ _ (Lib.hid ?_)
        go_wp2_with fail
        go_roundg (gk - 1)
        case measure => omega
        case rel => exact ⟨j + 1, bel, by go_num, by omega, by omega, by omega, Lib.hid (by omega)⟩
       ·rw [dgs_stop hj hd, List.length_nil, Nat.add_zero] at e
        rw [decide_eq_false hd] at cD
        generalize byN s j = c at *
        clear hd
        subst e
        replace cD := Lib.hid cD
        go_wp2_with fail
        refine cD.out _ _ (Lib.hid ?_)
        go_wp2_with fail
        go_meet
        case rel => exact ⟨rfl, bel.out⟩
      ·rw [dgs_end (by omega), List.length_nil, Nat.add_zero] at e
       subst e
       go_wp2_with fail
       go_meet
       case rel => exact ⟨rfl, bel.out⟩
    case rest =>
     obtain ⟨rfl, n1⟩ := hcut
     clear n0
     have hL : dgs s a = [] := dgs_end (by omega)
     have haz : a = s.size := by omega
     rw [hL, List.length_nil, Nat.add_zero] at hE
     subst hE
     unfold tkG at hR
     rw [if_pos hL, if_pos haz] at hR
     clear hL haz
     obtain ⟨c0, c1, g0, g1, n4⟩ := fin.out wc n1
     clear fin
     go_wp2_with fail
     all_goals (refine bodyPost_ret ?_ rfl (hR.out _ ((n4.setCell (p := ⟨w.heap.size, 0, none⟩) (Nat.le_refl _) _).setCell (p := ⟨w.heap.size, 1, none⟩) (Nat.le_refl _) _)); simp [results, Tryz.results240, go_sem, tkT, c0, c1])
end Go.Proofs.YtncijmodlhijoaaGreat.Dig
