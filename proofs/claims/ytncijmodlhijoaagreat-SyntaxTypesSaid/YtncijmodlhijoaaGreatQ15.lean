import Derived.Test.YtncijmodlhijoaaGreatQ13
import Derived.Test.YtncijmodlhijoaaGreatQ14
set_option linter.unusedVariables false
set_option maxRecDepth 100000
set_option maxHeartbeats 4000000
namespace Go.Proofs.YtncijmodlhijoaaGreat.Syn
open Go.RowKit Go.Lib Utf Tok Cur Nam Lat Kin
theorem loop_fail {α : Type} {el : PS → α × PS} {en : ByteArray} {n : Nat} {acc : List α} {q : PS} (h : q.2.1 ≠ 0) : loopR el en n acc q = ([], q) := by
 cases n with
 | zero => rfl
 | succ n => unfold loopR; rw [if_pos h]
theorem loop_step {α : Type} {el : PS → α × PS} {en : ByteArray} {n : Nat} {acc : List α} {q : PS} (h : q.2.1 = 0) : loopR el en (n + 1) acc q = if (mayS (el q).2 en).2 = true then (acc ++ [(el q).1], (mayS (el q).2 en).1) else loopR el en n (acc ++ [(el q).1]) (markS (el q).2 comma) := if_neg (by simpa using h)
theorem mark_fine {q : PS} {m : ByteArray} (ok : Ok q) (h : (markS q m).2.1 = 0) : (markS q m).1.length < q.1.length := by
 unfold markS needS at *
 by_cases c : q.2.1 ≠ 0
 ·rw [if_pos c] at h; exact absurd h c
 ·rw [if_neg c] at h ⊢
  by_cases i : isS q 4 m = true
  ·rw [if_pos i, on_len]
   have := List.length_pos_iff.2 (EndL.ne ok)
   omega
  ·rw [if_neg i] at h
   exfalso
   unfold wrongS at h
   rw [if_neg c] at h
   have h2 : (if (Cur.hdT q.1).1 = 0 then (5 : Int) else 4) = 0 := h
   by_cases d : (Cur.hdT q.1).1 = 0
   ·rw [if_pos d] at h2; exact absurd h2 (by decide)
   ·rw [if_neg d] at h2; exact absurd h2 (by decide)
def mesS (q : PS) : Nat := if q.2.1 = 0 then q.1.length + 1 else 0
theorem names16_calls (en : ByteArray) (p : PS) (v : Value) (w0 w : World) (hb : Below w0.heap.size w0 w) (hx : RdK w0 v p.1) (ok : Ok p) (hl : p.1.length ≤ 1000000) (R : Ending → World → Prop)
  (hR : Hid (∀ lv v' w', RdW (empW (lowS w.heap.size) w') lv (namesP en p).1 → RdK w0 v' (namesP en p).2.1 → Ok (namesP en p).2 → Below w.heap.size w w' → R (.returned (.tuple #[lv, psV v' (namesP en p).2])) w')) : Calls Tryz.prog 146 #[psV v p, .string en] w R := by
 obtain ⟨ti, hI, hZ⟩ : ∃ i0, Tryz.prog.info? 27 = some i0 ∧ (i0.zero, i0.size, i0.bytes) = (some (.agg #[.string ⟨#[]⟩, .int .i64 0]), 2, 24) := by
  have := wrInfoR
  cases h : Tryz.prog.info? 27 with
  | none => rw [h] at this; cases this
  | some i0 => rw [h] at this; exact ⟨i0, rfl, by simpa using this⟩
 simp only [Prod.mk.injEq] at hZ
 obtain ⟨hz0, hz1, hz2⟩ := hZ
 have eL : namesP en p = loopR nameS en (p.1.length + 1) [] p := rfl
 have okL := (gd_loopR gd_name en (p.1.length + 1) [] p ok).1
 rw [eL] at hR
 clear eL
 obtain ⟨A, cp, rfl, hlc, -⟩ := hx.op
 obtain ⟨o1_, ho1_⟩ : ∃ oO_ : Obj, oO_ = .cells #[.slice A p.1.length cp, .int .i64 p.2.1, .int .i64 p.2.2] 142 := ⟨_, rfl⟩
 have hA := heap_alloc_new w o1_
 have n := alB w o1_
 have zz1 : (w.alloc o1_).heap.size = w.heap.size + 1 := by simp
 obtain ⟨o2_, ho2_⟩ : ∃ oO_ : Obj, oO_ = .cells #[.slice none 0 0, .int .i64 0, .int .i64 0] 142 := ⟨_, rfl⟩
 have hY := heap_alloc_new (w.alloc o1_) o2_
 subst ho1_
 rw [zz1] at hY
 replace hA := obB (alB _ o2_) hA
 replace n := n.alloc n.size o2_
 subst ho2_
 go_enter Tryz.func146, Tryz.ntmps146
 go_upto_region 2 with fail
 generalize ((w.alloc (.cells #[.slice A p.1.length cp, .int .i64 p.2.1, .int .i64 p.2.2] 142))).alloc (.cells #[.slice none 0 0, .int .i64 0, .int .i64 0] 142) = V at *
 clear zz1
 go_loopg [6] (mesS p) (fun gk lv wr => ∃ (acc : List Wr) (q : PS) (n0 : Nat) (lv' vq : Value), lv' = lv ∧ gk = mesS q ∧ (q.2.1 = 0 → acc.length + q.1.length ≤ p.1.length ∧ q.1.length < n0) ∧ Hid (loopR nameS en (p.1.length + 1) [] p = loopR nameS en n0 acc q) ∧ Ok q ∧ Hid (RdK w0 vq q.1) ∧ Hid (wr.heap[w.heap.size]? = some (.cells #[vq, .int .i64 q.2.1, .int .i64 q.2.2] 142)) ∧ Hid (wr.heap[w.heap.size + 1]? = some (.cells #[.slice none 0 0, .int .i64 0, .int .i64 0] 142)) ∧ Hid (Below w.heap.size w wr) ∧ Hid (wr.ownsRow (w.heap.size + 2) 27 2 lv' acc.length (flatG encW acc)))
 case atStart => exact ⟨[], p, p.1.length + 1, _, _, rfl, rfl, fun _ => ⟨by simp, by omega⟩, Lib.hid rfl, ok, Lib.hid hx, Lib.hid hA, Lib.hid hY, Lib.hid n, Lib.hid (World.ownsRow_nil _ _ _ _)⟩
 case round =>
  clear n hA hY hx ok
  obtain ⟨acc, q, n0, lv, vq, rfl, rfl, e1, e3, ok, hx, hA, hY, n, own⟩ := hrel
  replace hA := hA.out
  replace hY := hY.out
  replace n := n.out
  replace own := own.out
  replace hx := hx.out
  replace e3 := e3.out
  obtain ⟨A1, c1, rfl, -, -⟩ := hx.op
  have a0 := (Lib.cell_of_heap hA 0).trans rfl
  have a1 := (Lib.cell_of_heap hA 1).trans rfl
  have a2 := (Lib.cell_of_heap hA 2).trans rfl
  go_wp2_with fail
  refine fine16_calls (.slice A1 q.1.length c1) q ⟨_, _, _, rfl⟩ _ _ (Lib.hid fun w1 m1 => ?_)
  replace hA := obB m1 hA
  replace hY := obB m1 hY
  replace own := ownBl own m1
  replace n := n.trans (m1.mono n.size)
  clear m1 a0 a1 a2
  by_cases hf : q.2.1 = 0
  ·rw [decide_eq_true hf]
   obtain ⟨e1, e2⟩ := e1 hf
   obtain ⟨n1, rfl⟩ : ∃ n1, n0 = n1 + 1 := ⟨n0 - 1, by omega⟩
   rw [loop_step hf] at e3
   have mq : mesS q = q.1.length + 1 := if_pos hf
   clear hf
   have hbV := hb.trans (n.mono hb.size)
   have gn := gd_name q ok
   have a0 := (Lib.cell_of_heap hA 0).trans rfl
   have a1 := (Lib.cell_of_heap hA 1).trans rfl
   have a2 := (Lib.cell_of_heap hA 2).trans rfl
   go_wp2_with fail
   refine name16_calls q (.slice A1 q.1.length c1) w0 _ hbV hx ok _ (Lib.hid fun v2 w2 r2 m2 => ?_)
   obtain ⟨A2, c2, rfl, -, -⟩ := r2.op
   replace hA := obB m2 hA
   replace hY := obB m2 hY
   replace own := ownBl own m2
   replace n := n.trans (m2.mono n.size)
   clear m2 hx a0 a1 a2 hbV
   generalize (nameS q).1 = x at *
   generalize (nameS q).2 = q2 at *
   obtain ⟨x0, x1⟩ := x
   have lw2 : w.heap.size + 1 < w2.heap.size := blt hY
   have lo : ∀ b, lv.ownBlock = some b → b < w2.heap.size := fun b hb => (own.lt b hb).2
   have lo2 : ∀ b, lv.ownBlock = some b → w.heap.size + 2 ≤ b := fun b hb => (own.lt b hb).1
   obtain ⟨o4_, ho4_⟩ : ∃ oO_ : Obj, oO_ = .cells #[.string x0, .int .i64 x1] 27 := ⟨_, rfl⟩
   have hX := heap_alloc_new w2 o4_
   have z2 : (w2.alloc o4_).heap.size = w2.heap.size + 1 := by simp
   have m3 := alB w2 o4_
   obtain ⟨o3_, ho3_⟩ : ∃ oO_ : Obj, oO_ = .cells #[.slice A2 q2.1.length c2, .int .i64 q2.2.1, .int .i64 q2.2.2] 142 := ⟨_, rfl⟩
   have hP := heap_alloc_new (w2.alloc o4_) o3_
   subst ho4_
   rw [z2] at hP
   replace hX := obB (alB _ o3_) hX
   replace m3 := m3.alloc m3.size o3_
   subst ho3_
   replace hA := obB m3 hA
   replace hY := obB m3 hY
   replace own := ownBl own m3
   replace n := n.trans (m3.mono n.size)
   clear m3 z2
   go_upto_region 4 with fail
   generalize (w2.alloc (.cells #[.string x0, .int .i64 x1] 27)).alloc (.cells #[.slice A2 q2.1.length c2, .int .i64 q2.2.1, .int .i64 q2.2.2] 142) = V3 at *
   generalize w2.heap.size = X at *
   have x_0 := (Lib.cell_of_heap hX 0).trans rfl
   have x_1 := (Lib.cell_of_heap hX 1).trans rfl
   have own2 := Lib.hid own
   have hsz : w.heap.size + 2 ≤ V3.heap.size := by have := blt hP; omega
   have lacc : acc.length ≤ 1000000 := by omega
   go_upto_region 5 with (at_builtin; go_loud (refine appKF V3 #[.string x0, .int .i64 x1] 2 27 rfl _ _ 22 rfl (w.heap.size + 2) ti (.agg #[.string ⟨#[]⟩, .int .i64 0]) 24 Tryz.underlying22 hI hz0 hz1 hz2 rfl (by decide) rfl _ acc.length (flatG encW acc) rfl own2.out _ rfl rfl (by simp [Value.oneCell']) (by unfold maxLen; omega) (by omega) hsz ?_); rintro lv4 w4 hown4 hg4 hb4 hfr)
   replace hA := obApp own hg4 hA (by omega)
   replace hY := obApp own hg4 hY (by omega)
   have hP4 := (hg4.block (X + 1) (blt hP) (fun q => by have := lo (X + 1) q.symm; omega)).trans hP
   have n4 := n.trans (show Below w.heap.size V3 w4 from ⟨hg4.os, hg4.tape, hg4.output, hg4.size, fun k hk => hg4.block k (by have := n.size; omega) (fun q => by have := lo2 k q.symm; omega)⟩)
   have own4 : w4.ownsRow (w.heap.size + 2) 27 2 lv4 (acc ++ [(x0, x1)]).length (flatG encW (acc ++ [(x0, x1)])) := by rw [flatG_snoc, List.length_append]; exact hown4
   clear own own2 hX hP n hg4 hb4 hown4 x_0 x_1 lo lo2 hsz
   have a0 := (Lib.cell_of_heap hP4 0).trans rfl
   have a1 := (Lib.cell_of_heap hP4 1).trans rfl
   have a2 := (Lib.cell_of_heap hP4 2).trans rfl
   have hbV := hb.trans (n4.mono hb.size)
   have ok2 := gn.1
   go_wp2_with fail
   refine may16_calls q2 (.slice A2 q2.1.length c2) w0 _ hbV r2 ok2 en _ (Lib.hid fun v5 w5 r5 m5 => ?_)
   obtain ⟨A5, c5, rfl, -, -⟩ := r5.op
   replace hA := obB m5 hA
   replace hY := obB m5 hY
   replace hP4 := obB m5 hP4
   replace own4 := ownBl own4 m5
   replace n4 := n4.trans (m5.mono n4.size)
   clear m5 a0 a1 a2 hbV
   have lw5 : w.heap.size + 1 < w5.heap.size := blt hY
   generalize (mayS q2 en).1 = q3 at *
   have hQ := heap_alloc_new w5 (.cells #[.slice A5 q3.1.length c5, .int .i64 q3.2.1, .int .i64 q3.2.2] 142)
   have m6 := alB w5 (.cells #[.slice A5 q3.1.length c5, .int .i64 q3.2.1, .int .i64 q3.2.2] 142)
   replace hA := obB m6 hA
   replace hY := obB m6 hY
   replace hP4 := obB m6 hP4
   replace own4 := ownBl own4 m6
   replace n4 := n4.trans (m6.mono n4.size)
   clear m6
   go_upto_region 6 with fail
   generalize w5.alloc (.cells #[.slice A5 q3.1.length c5, .int .i64 q3.2.1, .int .i64 q3.2.2] 142) = V6 at *
   generalize w5.heap.size = Q at *
   cases hm : (mayS q2 en).2
   ·rw [hm, if_neg (by decide)] at e3
    clear hm r5 hQ
    have hbV := hb.trans (n4.mono hb.size)
    have gm := gd_mark q2 comma ok2
    have mf := fun h => mark_fine (m := comma) ok2 h
    go_upto_region 8 with fail
    have a0 := (Lib.cell_of_heap hP4 0).trans rfl
    have a1 := (Lib.cell_of_heap hP4 1).trans rfl
    have a2 := (Lib.cell_of_heap hP4 2).trans rfl
    go_wp2_with fail
    refine mark16_calls q2 (.slice A2 q2.1.length c2) w0 _ hbV r2 ok2 comma _ (Lib.hid fun v7 w7 r7 m7 => ?_)
    obtain ⟨A7, c7, rfl, -, -⟩ := r7.op
    replace hA := obB m7 hA
    replace hY := obB m7 hY
    replace own4 := ownBl own4 m7
    replace n4 := n4.trans (m7.mono n4.size)
    clear m7 a0 a1 a2 hbV
    generalize markS q2 comma = q5 at *
    have a0 := (Lib.cell_of_heap hA 0).trans rfl
    have af0 := Lib.frozen_of_heap hA 0
    have a1 := (Lib.cell_of_heap hA 1).trans rfl
    have af1 := Lib.frozen_of_heap hA 1
    have a2 := (Lib.cell_of_heap hA 2).trans rfl
    have af2 := Lib.frozen_of_heap hA 2
    have hA7 := satR (satR (satR hA 0 (.slice A7 q5.1.length c7)) 1 (.int .i64 q5.2.1)) 2 (.int .i64 q5.2.2)
    simp only [List.setIfInBounds_toArray, List.set_cons_succ, List.set_cons_zero] at hA7
    have hY7 := (sneR (w := (w7.setCell ⟨w.heap.size, 0, none⟩ (.slice A7 q5.1.length c7)).setCell ⟨w.heap.size, 1, none⟩ (.int .i64 q5.2.1)) (q := w.heap.size) (o := 2) (v := .int .i64 q5.2.2) (show w.heap.size + 1 ≠ w.heap.size by omega)).trans ((sneR (w := w7.setCell ⟨w.heap.size, 0, none⟩ (.slice A7 q5.1.length c7)) (q := w.heap.size) (o := 1) (v := .int .i64 q5.2.1) (show w.heap.size + 1 ≠ w.heap.size by omega)).trans ((sneR (w := w7) (q := w.heap.size) (o := 0) (v := .slice A7 q5.1.length c7) (show w.heap.size + 1 ≠ w.heap.size by omega)).trans hY))
    have own7 := ownSet (o := 2) (u := .int .i64 q5.2.2) (ownSet (o := 1) (u := .int .i64 q5.2.1) (ownSet (o := 0) (u := .slice A7 q5.1.length c7) own4 (show w.heap.size < w.heap.size + 2 by omega)) (show w.heap.size < w.heap.size + 2 by omega)) (show w.heap.size < w.heap.size + 2 by omega)
    have n7 := set3p (q := w.heap.size) (Nat.le_refl _) n4 (.slice A7 q5.1.length c7) (.int .i64 q5.2.1) (.int .i64 q5.2.2)
    replace hA7 := Lib.hid hA7
    replace hY7 := Lib.hid hY7
    replace own7 := Lib.hid own7
    replace n7 := Lib.hid n7
    replace e3 := Lib.hid e3
    replace r7 := Lib.hid r7
    have l7 : (acc ++ [(x0, x1)]).length = acc.length + 1 := by simp
    have ms : mesS q5 < mesS q := by
     rw [mq]
     unfold mesS
     have g1 := gn.2
     by_cases h0 : q5.2.1 = 0
     ·have := mf h0
      rw [if_pos h0]
      omega
     ·rw [if_neg h0]
      omega
    have ef : q5.2.1 = 0 → (acc ++ [(x0, x1)]).length + q5.1.length ≤ p.1.length ∧ q5.1.length < n1 := fun h0 => by
     have := mf h0
     have g1 := gn.2
     omega
    clear hA hY own4 n4 hR hP4
    go_wp2_with fail
    go_roundg (mesS q5)
    case measure => omega
    case rel => exact ⟨acc ++ [(x0, x1)], q5, n1, lv4, .slice A7 q5.1.length c7, rfl, rfl, ef, e3, gm.1, r7, hA7, hY7, n7, own7⟩
   ·rw [hm, if_pos rfl] at e3
    go_upto_region 7 with fail
    have jQ : ∀ y : GW V6 (w.heap.size + 1) (w.heap.size + 1), y.w.rangeAt (Q) 0 [.slice A5 q3.1.length c5, .int .i64 q3.2.1, .int .i64 q3.2.2] := fun y j v h => by rw [Nat.zero_add, Lib.cell_of_heap ((y.b _ (blt hQ) (by omega) (by omega)).trans hQ)]; simpa using h
    refine wp_region_mixG (w.heap.size + 1) (w.heap.size + 1) [([0, 1, 2], 3)] [] (by kernel_rfl) (by kernel_rfl) (by kernel_rfl) (by kernel_rfl) (fun _ _ d _ _ h => by cases d <;> exact h) ?_
    have gW : Below V6.heap.size V6 (V6.drewN 1) := ⟨rfl, rfl, rfl, Nat.le_refl _, fun _ _ => rfl⟩
    refine mix_cons (os := [_, _, _]) (by simp only [pickO, List.filterMap_cons, List.filterMap_nil, List.getElem?_toArray, List.getElem?_cons_succ, List.getElem?_cons_zero]; rfl) (fun Kp hKp => ?_)
    go_big_quiet_step (exact rfl)
    refine wpQuiet_load rfl 142 _ rfl (Q) 0 rfl [.slice A5 q3.1.length c5, .int .i64 q3.2.1, .int .i64 q3.2.2] _ (by rintro V ⟨y, rfl⟩; exact jQ y) Tryz.underlying142 rfl (by kernel_rfl) ?_
    go_simp
    go_big_quiet_step (exact rfl)
    refine wpQuiet_nil ?_
    refine hKp _ ?_
    clear hKp
    replace hY := obB gW hY
    replace own4 := ownBl own4 gW
    replace n4 := n4.trans (gW.mono n4.size)
    refine loud (by rfl) (by kernel_rfl) (fun K2 hK2 => ?_)
    have y0 := (Lib.cell_of_heap hY 0).trans rfl
    have yf0 := Lib.frozen_of_heap hY 0
    have y1 := (Lib.cell_of_heap hY 1).trans rfl
    have yf1 := Lib.frozen_of_heap hY 1
    have y2 := (Lib.cell_of_heap hY 2).trans rfl
    have yf2 := Lib.frozen_of_heap hY 2
    go_simp
    refine hK2 _ _ (GW.set (GW.set (GW.set (GW.bl gW) _) _) _) ?_
    clear hK2
    refine mix_nil (os := []) (by rfl) (fun Kp hKp => ?_)
    refine wpQuiet_nil ?_
    refine hKp _ ?_
    clear hKp
    have rdL := RdW.kp (emp_kp (S := lowS (w.heap.size + 2)) (S' := lowS w.heap.size) (w' := (((V6.drewN 1).setCell ⟨w.heap.size + 1, 0, none⟩ (.slice A5 q3.1.length c5)).setCell ⟨w.heap.size + 1, 1, none⟩ (.int .i64 q3.2.1)).setCell ⟨w.heap.size + 1, 2, none⟩ (.int .i64 q3.2.2)) (by simp [World.setCell]) fun g h1 h2 => ⟨by unfold lowS at *; omega, by
     unfold lowS at h2
     rw [sneR (by omega), sneR (by omega), sneR (by omega)]⟩) (show RdW (empW (lowS (w.heap.size + 2)) (V6.drewN 1)) lv4 (acc ++ [(x0, x1)]) from ownEmpR own4)
    rw [e3] at hR okL
    have fin := Lib.hid (hR.out lv4 (.slice A5 q3.1.length c5) _ rdL r5 okL (set3p (q := w.heap.size + 1) (by omega) n4 (.slice A5 q3.1.length c5) (.int .i64 q3.2.1) (.int .i64 q3.2.2)))
    clear hR rdL own4
    go_wp2_with fail
    refine bodyPost_ret ?_ rfl fin.out
    simp [results, Tryz.results146, go_sem, y0, y1, y2]
  ·rw [decide_eq_false hf]
   rw [loop_fail hf] at e3
   clear hf
   go_upto_region 9 with fail
   have jA : ∀ y : GW w1 (w.heap.size + 1) (w.heap.size + 1), y.w.rangeAt (w.heap.size) 0 [.slice A1 q.1.length c1, .int .i64 q.2.1, .int .i64 q.2.2] := fun y j v h => by rw [Nat.zero_add, Lib.cell_of_heap ((y.b _ (blt hA) (by omega) (by omega)).trans hA)]; simpa using h
   refine wp_region_mixG (w.heap.size + 1) (w.heap.size + 1) [([0, 1], 2)] [] (by kernel_rfl) (by kernel_rfl) (by kernel_rfl) (by kernel_rfl) (fun _ _ d _ _ h => by cases d <;> exact h) ?_
   have gW : Below w1.heap.size w1 (w1.drewN 1) := ⟨rfl, rfl, rfl, Nat.le_refl _, fun _ _ => rfl⟩
   refine mix_cons (os := [_, _]) (by simp only [pickO, List.filterMap_cons, List.filterMap_nil, List.getElem?_toArray, List.getElem?_cons_succ, List.getElem?_cons_zero]; rfl) (fun Kp hKp => ?_)
   refine wpQuiet_load rfl 142 _ rfl (w.heap.size) 0 rfl [.slice A1 q.1.length c1, .int .i64 q.2.1, .int .i64 q.2.2] _ (by rintro V ⟨y, rfl⟩; exact jA y) Tryz.underlying142 rfl (by kernel_rfl) ?_
   go_simp
   go_big_quiet_step (exact rfl)
   refine wpQuiet_nil ?_
   refine hKp _ ?_
   clear hKp
   replace hY := obB gW hY
   replace n := n.trans (gW.mono n.size)
   refine loud (by rfl) (by kernel_rfl) (fun K2 hK2 => ?_)
   have y0 := (Lib.cell_of_heap hY 0).trans rfl
   have yf0 := Lib.frozen_of_heap hY 0
   have y1 := (Lib.cell_of_heap hY 1).trans rfl
   have yf1 := Lib.frozen_of_heap hY 1
   have y2 := (Lib.cell_of_heap hY 2).trans rfl
   have yf2 := Lib.frozen_of_heap hY 2
   go_simp
   refine hK2 _ _ (GW.set (GW.set (GW.set (GW.bl gW) _) _) _) ?_
   clear hK2
   refine mix_nil (os := []) (by rfl) (fun Kp hKp => ?_)
   refine wpQuiet_nil ?_
   refine hKp _ ?_
   clear hKp
   rw [e3] at hR okL
   have fin := Lib.hid (hR.out _ (.slice A1 q.1.length c1) _ (rdw_none _) hx okL (set3p (q := w.heap.size + 1) (by omega) n (.slice A1 q.1.length c1) (.int .i64 q.2.1) (.int .i64 q.2.2)))
   clear hR own
   go_wp2_with fail
   refine bodyPost_ret ?_ rfl fin.out
   simp [results, Tryz.results146, go_sem, y0, y1, y2]
end Go.Proofs.YtncijmodlhijoaaGreat.Syn
