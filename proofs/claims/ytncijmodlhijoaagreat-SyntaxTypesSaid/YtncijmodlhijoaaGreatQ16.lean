import Derived.Test.YtncijmodlhijoaaGreatQ15
import Derived.Deep.CutRange
set_option linter.unusedVariables false
set_option maxRecDepth 100000
set_option maxHeartbeats 4000000
namespace Go.Proofs.YtncijmodlhijoaaGreat.Syn
open Go.RowKit Go.Lib Utf Tok Cur Nam Lat Kin
theorem marks16_calls (x : PH) (s_0 s_16 : ByteArray) (k_1 k_9 k_10 k_11 k_12 k_13 k_17 : Int) (b_2 : Bool) (a_14 a_15 : Option Addr) (n_14 n_15 c_14 c_15 : Nat) (p : PS) (v : Value) (w0 w : World) (hb : Below w0.heap.size w0 w) (hx : RdK w0 v p.1) (ok : Ok p) (hl : p.1.length ≤ 1000000) (R : Ending → World → Prop)
  (hR : Hid (∀ lv cv v' w', RdW (empW (lowS w.heap.size) w') lv (marksR x p).1.label → RdW (empW (lowS w.heap.size) w') cv (marksR x p).1.cl → RdK w0 v' (marksR x p).2.1 → Below w.heap.size w w' → R (.returned (.tuple #[.agg #[.string s_0, .int .i64 k_1, .bool b_2, lv, .int .i64 (marksR x p).1.wide, .int .i64 (marksR x p).1.ck, .int .i64 (marksR x p).1.cn, .int .i64 (marksR x p).1.cat, cv, .int .i64 k_9, .int .i64 k_10, .int .i64 k_11, .int .i64 k_12, .int .i64 k_13, .slice a_14 n_14 c_14, .slice a_15 n_15 c_15, .string s_16, .int .i64 k_17], psV v' (marksR x p).2])) w')) : Calls Tryz.prog 288 #[psV v p, .agg #[.string s_0, .int .i64 k_1, .bool b_2, .slice none 0 0, .int .i64 0, .int .i64 0, .int .i64 0, .int .i64 0, .slice none 0 0, .int .i64 k_9, .int .i64 k_10, .int .i64 k_11, .int .i64 k_12, .int .i64 k_13, .slice a_14 n_14 c_14, .slice a_15 n_15 c_15, .string s_16, .int .i64 k_17]] w R := by
 obtain ⟨A0, cp, rfl, hlc, -⟩ := hx.op
 have hq : marksR x p = (⟨x.name, x.at_, x.bare, (labelC p).1, (wideC (labelC p).2).1, (seeR (wideC (labelC p).2).2).1.1, (seeR (wideC (labelC p).2).2).1.2.1, (seeR (wideC (labelC p).2).2).1.2.2.1, (seeR (wideC (labelC p).2).2).1.2.2.2⟩, (seeR (wideC (labelC p).2).2).2) := rfl
 rw [hq] at hR
 simp only at hR
 clear hq
 have gl := gd_label p ok
 have gw := gd_wide _ gl.1
 have hla : labelC p = if (mayS p atS).2 = true then labelP (mayS p atS).1 else ([], (mayS p atS).1) := rfl
 have hwd : ∀ q : PS, wideC q = if (mayS q hash).2 = true then intS (mayS q hash).1 else (0, (mayS q hash).1) := fun _ => rfl
 have hse : ∀ q : PS, seeR q = if (mayS q tilde).2 = true then coaS (mayS q tilde).1 else ((0, 0, 0, []), (mayS q tilde).1) := fun _ => rfl
 have okq := ok
 have rk := hx
 obtain ⟨V, eV, hA, hB, hG, hS, n, -, zz1, zz2, zz3⟩ := box4 w (.cells #[.slice A0 p.1.length cp, .int .i64 p.2.1, .int .i64 p.2.2] 142) (.cells #[.string s_0, .int .i64 k_1, .bool b_2, .slice none 0 0, .int .i64 0, .int .i64 0, .int .i64 0, .int .i64 0, .slice none 0 0, .int .i64 k_9, .int .i64 k_10, .int .i64 k_11, .int .i64 k_12, .int .i64 k_13, .slice a_14 n_14 c_14, .slice a_15 n_15 c_15, .string s_16, .int .i64 k_17] 92) (.cells #[.string ⟨#[]⟩, .int .i64 0, .bool false, .slice none 0 0, .int .i64 0, .int .i64 0, .int .i64 0, .int .i64 0, .slice none 0 0, .int .i64 0, .int .i64 0, .int .i64 0, .int .i64 0, .int .i64 0, .slice none 0 0, .slice none 0 0, .string ⟨#[]⟩, .int .i64 0] 92) (.cells #[.slice none 0 0, .int .i64 0, .int .i64 0] 142)
 replace eV := Lib.hid eV
 go_enter Tryz.func288, Tryz.ntmps288
 go_upto_region 1 with fail
 rw [eV.out]
 clear eV zz1 zz2 zz3
 have hbV := hb.trans (n.mono hb.size)
 obtain ⟨a0, a1, a2⟩ := cl3 hA
 go_wp2_with fail
 refine may16_calls p (.slice A0 p.1.length cp) w0 _ hbV rk okq atS _ (Lib.hid fun v1 w1 r1 m1 => ?_)
 obtain ⟨A1, c1, rfl, -, -⟩ := r1.op
 replace hA := obB m1 hA
 replace hB := obB m1 hB
 replace hG := obB m1 hG
 replace hS := obB m1 hS
 replace n := n.trans (m1.mono n.size)
 have okm := may_ok (m := atS) okq
 have lm := may_len p atS
 clear hbV a0 a1 a2 m1
 generalize (mayS p atS).1 = q1 at *
 obtain ⟨u0, uf0, u1, uf1, u2, uf2⟩ := cf3 hA
 obtain ⟨L1_0, hL1_0⟩ : ∃ L : List (Nat × Value), L = [(0, .slice A1 q1.1.length c1), (1, .int .i64 q1.2.1), (2, .int .i64 q1.2.2)] := ⟨_, rfl⟩
 replace hA := stB_s L1_0 hA
 replace hB := (stB_o (B := w.heap.size) (by omega) L1_0).trans hB
 replace hG := (stB_o (B := w.heap.size) (by omega) L1_0).trans hG
 replace hS := (stB_o (B := w.heap.size) (by omega) L1_0).trans hS
 replace n := stB_n (B := w.heap.size) (by omega) L1_0 n
 obtain ⟨VS1, hVS1⟩ : ∃ W, stB w1 (w.heap.size) L1_0 = W := ⟨_, rfl⟩
 rw [hVS1] at hA hB hG hS n
 subst hL1_0
 simp only [stC, List.setIfInBounds_toArray, List.set_cons_succ, List.set_cons_zero] at hA
 simp only [stB] at hVS1
 go_upto_region 2 with fail
 clear hVS1
 generalize VS1 = V1 at *
 clear u0 uf0 u1 uf1 u2 uf2
 have rk := r1
 have okq := okm
 have lq : q1.1.length ≤ 1000000 := by omega
 generalize labelC p = L at *
 obtain ⟨lb, q2⟩ := L
 simp only at hR gl gw
 generalize (mayS p atS).2 = F1 at *
 go_upto_if 16 with fail
 go_cut [] from 17 to 22 (fun wx => ∃ (AL A2 : Option Addr) (cl c2 : Nat), Below w.heap.size w wx ∧ wx.heap[w.heap.size]? = some (.cells #[.slice A2 q2.1.length c2, .int .i64 q2.2.1, .int .i64 q2.2.2] 142) ∧ wx.heap[w.heap.size + 1]? = some (.cells #[.string s_0, .int .i64 k_1, .bool b_2, .slice AL lb.length cl, .int .i64 0, .int .i64 0, .int .i64 0, .int .i64 0, .slice none 0 0, .int .i64 k_9, .int .i64 k_10, .int .i64 k_11, .int .i64 k_12, .int .i64 k_13, .slice a_14 n_14 c_14, .slice a_15 n_15 c_15, .string s_16, .int .i64 k_17] 92) ∧ wx.heap[w.heap.size + 2]? = some (.cells #[.string ⟨#[]⟩, .int .i64 0, .bool false, .slice none 0 0, .int .i64 0, .int .i64 0, .int .i64 0, .int .i64 0, .slice none 0 0, .int .i64 0, .int .i64 0, .int .i64 0, .int .i64 0, .int .i64 0, .slice none 0 0, .slice none 0 0, .string ⟨#[]⟩, .int .i64 0] 92) ∧ wx.heap[w.heap.size + 3]? = some (.cells #[.slice none 0 0, .int .i64 0, .int .i64 0] 142) ∧ RdW (empW (lowS (w.heap.size + 4)) wx) (.slice AL lb.length cl) lb ∧ RdK w0 (.slice A2 q2.1.length c2) q2.1 ∧ Ok q2 ∧ q2.1.length ≤ 1000000)
 case first =>
  cases F1
  ·rw [if_neg (by decide)] at hla
   simp only [Prod.mk.injEq] at hla
   obtain ⟨rfl, rfl⟩ := hla
   clear hR
   go_wp2_with fail
   go_meet
   exact ⟨none, A1, 0, c1, n, hA, hB, hG, hS, rdw_none _, rk, okq, lq⟩
  ·rw [if_pos rfl] at hla
   have hbV := hb.trans (n.mono hb.size)
   obtain ⟨a0, a1, a2⟩ := cl3 hA
   go_wp2_with fail
   refine label16_calls q1 (.slice A1 q1.1.length c1) w0 _ hbV rk okq lq _ (Lib.hid fun lv v2 w2 rl r2 ok2 m2 => ?_)
   obtain ⟨AL, cl, rfl, -, -⟩ := rl.op
   obtain ⟨A2, c2, rfl, -, -⟩ := r2.op
   rw [← hla] at rl r2 ok2 ⊢
   clear hla
   simp only at rl r2 ok2 ⊢
   have szV : w.heap.size + 4 ≤ V1.heap.size := blt hS
   replace rl := rl.kp (emp_kp (S := lowS V1.heap.size) (S' := lowS (w.heap.size + 4)) (Nat.le_refl _) fun g h1 h2 => ⟨by unfold lowS at *; omega, rfl⟩)
   replace hA := obB m2 hA
   replace hB := obB m2 hB
   replace hG := obB m2 hG
   replace hS := obB m2 hS
   replace n := n.trans (m2.mono n.size)
   clear m2 hbV a0 a1 a2 rk okq hR
   have b3 := (Lib.cell_of_heap hB 3).trans rfl
   have bf3 := Lib.frozen_of_heap hB 3
   obtain ⟨u0, uf0, u1, uf1, u2, uf2⟩ := cf3 hA
   obtain ⟨L17_0, hL17_0⟩ : ∃ L : List (Nat × Value), L = [(3, .slice AL lb.length cl)] := ⟨_, rfl⟩
   obtain ⟨L17_1, hL17_1⟩ : ∃ L : List (Nat × Value), L = [(0, .slice A2 q2.1.length c2), (1, .int .i64 q2.2.1), (2, .int .i64 q2.2.2)] := ⟨_, rfl⟩
   replace hA := (stB_o (B := w.heap.size + 1) (by omega) L17_0).trans hA
   replace hB := stB_s L17_0 hB
   replace hG := (stB_o (B := w.heap.size + 1) (by omega) L17_0).trans hG
   replace hS := (stB_o (B := w.heap.size + 1) (by omega) L17_0).trans hS
   replace n := stB_n (B := w.heap.size + 1) (by omega) L17_0 n
   replace rl := rl.kp (stB_k (B := w.heap.size + 1) (b := w.heap.size + 4) (by omega) L17_0)
   replace hA := stB_s L17_1 hA
   replace hB := (stB_o (B := w.heap.size) (by omega) L17_1).trans hB
   replace hG := (stB_o (B := w.heap.size) (by omega) L17_1).trans hG
   replace hS := (stB_o (B := w.heap.size) (by omega) L17_1).trans hS
   replace n := stB_n (B := w.heap.size) (by omega) L17_1 n
   replace rl := rl.kp (stB_k (B := w.heap.size) (b := w.heap.size + 4) (by omega) L17_1)
   obtain ⟨VS17, hVS17⟩ : ∃ W, stB (stB w2 (w.heap.size + 1) L17_0) (w.heap.size) L17_1 = W := ⟨_, rfl⟩
   rw [hVS17] at hA hB hG hS n rl
   subst hL17_0 hL17_1
   simp only [stC, List.setIfInBounds_toArray, List.set_cons_succ, List.set_cons_zero] at hA hB
   simp only [stB] at hVS17
   go_wp2_with fail
   go_meet
   exact ⟨AL, A2, cl, c2, n, hA, hB, hG, hS, rl, r2, ok2, by have := gl.2; omega⟩
 case rest =>
  clear hla rk okq lq r1 okm lm n hA hB hG hS
  obtain ⟨AL, A2, cl, c2, n, hA, hB, hG, hS, rl, rk, okq, lq⟩ := hcut
  have hbV := hb.trans (n.mono hb.size)
  obtain ⟨a0, a1, a2⟩ := cl3 hA
  go_wp2_with fail
  refine may16_calls q2 (.slice A2 q2.1.length c2) w0 _ hbV rk okq hash _ (Lib.hid fun v3 w3 r3 m3 => ?_)
  obtain ⟨A3, c3, rfl, -, -⟩ := r3.op
  replace hA := obB m3 hA
  replace hB := obB m3 hB
  replace hG := obB m3 hG
  replace hS := obB m3 hS
  replace n := n.trans (m3.mono n.size)
  replace rl := rl.kp (emp_bl (b0 := w.heap.size + 4) (Nat.le_refl _) m3)
  have okm := may_ok (m := hash) okq
  have lm := may_len q2 hash
  clear hbV a0 a1 a2 m3
  have hw_ := hwd q2
  clear hwd
  generalize (mayS q2 hash).1 = q3 at *
  obtain ⟨u0, uf0, u1, uf1, u2, uf2⟩ := cf3 hA
  obtain ⟨L18_0, hL18_0⟩ : ∃ L : List (Nat × Value), L = [(0, .slice A3 q3.1.length c3), (1, .int .i64 q3.2.1), (2, .int .i64 q3.2.2)] := ⟨_, rfl⟩
  replace hA := stB_s L18_0 hA
  replace hB := (stB_o (B := w.heap.size) (by omega) L18_0).trans hB
  replace hG := (stB_o (B := w.heap.size) (by omega) L18_0).trans hG
  replace hS := (stB_o (B := w.heap.size) (by omega) L18_0).trans hS
  replace n := stB_n (B := w.heap.size) (by omega) L18_0 n
  replace rl := rl.kp (stB_k (B := w.heap.size) (b := w.heap.size + 4) (by omega) L18_0)
  obtain ⟨VS18, hVS18⟩ : ∃ W, stB w3 (w.heap.size) L18_0 = W := ⟨_, rfl⟩
  rw [hVS18] at hA hB hG hS n rl
  subst hL18_0
  simp only [stC, List.setIfInBounds_toArray, List.set_cons_succ, List.set_cons_zero] at hA
  simp only [stB] at hVS18
  go_upto_region 5 with fail
  clear hVS18
  generalize VS18 = V3 at *
  clear u0 uf0 u1 uf1 u2 uf2
  have lq3 : q3.1.length ≤ 1000000 := by omega
  generalize wideC q2 = L2 at *
  obtain ⟨wd, q4⟩ := L2
  simp only at hR gw
  generalize (mayS q2 hash).2 = F3 at *
  go_upto_if 28 with fail
  go_cut [8, 9] from 29 to 37 (fun s8 s9 wx => ∃ (A4 : Option Addr) (c4 : Nat), Below w.heap.size w wx ∧ wx.heap[w.heap.size]? = some (.cells #[.slice A4 q4.1.length c4, .int .i64 q4.2.1, .int .i64 q4.2.2] 142) ∧ wx.heap[w.heap.size + 1]? = some (.cells #[.string s_0, .int .i64 k_1, .bool b_2, .slice AL lb.length cl, .int .i64 wd, .int .i64 0, .int .i64 0, .int .i64 0, .slice none 0 0, .int .i64 k_9, .int .i64 k_10, .int .i64 k_11, .int .i64 k_12, .int .i64 k_13, .slice a_14 n_14 c_14, .slice a_15 n_15 c_15, .string s_16, .int .i64 k_17] 92) ∧ wx.heap[w.heap.size + 2]? = some (.cells #[.string ⟨#[]⟩, .int .i64 0, .bool false, .slice none 0 0, .int .i64 0, .int .i64 0, .int .i64 0, .int .i64 0, .slice none 0 0, .int .i64 0, .int .i64 0, .int .i64 0, .int .i64 0, .int .i64 0, .slice none 0 0, .slice none 0 0, .string ⟨#[]⟩, .int .i64 0] 92) ∧ wx.heap[w.heap.size + 3]? = some (.cells #[.slice none 0 0, .int .i64 0, .int .i64 0] 142) ∧ RdW (empW (lowS (w.heap.size + 4)) wx) (.slice AL lb.length cl) lb ∧ RdK w0 (.slice A4 q4.1.length c4) q4.1 ∧ Ok q4 ∧ q4.1.length ≤ 1000000)
  case first =>
   cases F3
   ·rw [if_neg (by decide)] at hw_
    simp only [Prod.mk.injEq] at hw_
    obtain ⟨rfl, rfl⟩ := hw_
    clear hR
    go_wp2_with fail
    go_meet
    exact ⟨A3, c3, n, hA, hB, hG, hS, rl, r3, okm, lq3⟩
   ·rw [if_pos rfl] at hw_
    have hbV := hb.trans (n.mono hb.size)
    have ga := gd_int q3 okm
    have ei : intS q3 = ((anyS q3 2).1.2.2.2.2, (anyS q3 2).2) := rfl
    rw [ei] at hw_ ga
    simp only at hw_ ga
    clear ei hR
    obtain ⟨a0, a1, a2⟩ := cl3 hA
    go_wp2_with fail
    refine any16_calls q3 (.slice A3 q3.1.length c3) w0 _ hbV r3 okm 2 _ (Lib.hid fun v4 w4 r4 m4 => ?_)
    obtain ⟨A4, c4, rfl, -, -⟩ := r4.op
    replace hA := obB m4 hA
    replace hB := obB m4 hB
    replace hG := obB m4 hG
    replace hS := obB m4 hS
    replace n := n.trans (m4.mono n.size)
    replace rl := rl.kp (emp_bl (b0 := w.heap.size + 4) (Nat.le_refl _) m4)
    have lq4 : (anyS q3 2).2.1.length ≤ 1000000 := by have := ga.2; omega
    have okq4 := ga.1
    clear m4 hbV a0 a1 a2
    generalize anyS q3 2 = Y at *
    obtain ⟨⟨t0, t1, t2, t3, t4⟩, q5⟩ := Y
    simp only [Prod.mk.injEq] at hw_
    obtain ⟨e1, e2⟩ := hw_
    replace e1 := e1.symm
    replace e2 := e2.symm
    subst e1 e2
    simp only at r4 okq4 lq4
    simp only [tkV]
    have lw4 : w.heap.size + 3 < w4.heap.size := blt hS
    obtain ⟨o1_, ho1_⟩ : ∃ oO_ : Obj, oO_ = .cells #[.int .i64 t0, .int .i64 t1, .int .i64 t2, .string t3, .int .i64 t4] 212 := ⟨_, rfl⟩
    have hT := heap_alloc_new w4 o1_
    have z4 : (w4.alloc o1_).heap.size = w4.heap.size + 1 := by simp
    have m5 := alB w4 o1_
    obtain ⟨o2_, ho2_⟩ : ∃ oO_ : Obj, oO_ = .cells #[.slice A4 q5.1.length c4, .int .i64 q5.2.1, .int .i64 q5.2.2] 142 := ⟨_, rfl⟩
    have hU := heap_alloc_new (w4.alloc o1_) o2_
    subst ho1_
    rw [z4] at hU
    replace hT := obB (alB _ o2_) hT
    replace m5 := m5.alloc m5.size o2_
    subst ho2_
    replace hA := obB m5 hA
    replace hB := obB m5 hB
    replace hG := obB m5 hG
    replace hS := obB m5 hS
    replace n := n.trans (m5.mono n.size)
    replace rl := rl.kp (emp_bl (b0 := w.heap.size + 4) (Nat.le_refl _) m5)
    clear m5 z4
    go_upto_region 7 with fail
    generalize (w4.alloc (.cells #[.int .i64 t0, .int .i64 t1, .int .i64 t2, .string t3, .int .i64 t4] 212)).alloc (.cells #[.slice A4 q5.1.length c4, .int .i64 q5.2.1, .int .i64 q5.2.2] 142) = V4 at *
    generalize w4.heap.size = T at *
    have s4 := (Lib.cell_of_heap hT 4).trans rfl
    have b4 := (Lib.cell_of_heap hB 4).trans rfl
    have bf4 := Lib.frozen_of_heap hB 4
    obtain ⟨L19_0, hL19_0⟩ : ∃ L : List (Nat × Value), L = [(4, .int .i64 t4)] := ⟨_, rfl⟩
    replace hA := (stB_o (B := w.heap.size + 1) (by omega) L19_0).trans hA
    replace hB := stB_s L19_0 hB
    replace hG := (stB_o (B := w.heap.size + 1) (by omega) L19_0).trans hG
    replace hS := (stB_o (B := w.heap.size + 1) (by omega) L19_0).trans hS
    replace hU := (stB_o (B := w.heap.size + 1) (by omega) L19_0).trans hU
    replace n := stB_n (B := w.heap.size + 1) (by omega) L19_0 n
    replace rl := rl.kp (stB_k (B := w.heap.size + 1) (b := w.heap.size + 4) (by omega) L19_0)
    obtain ⟨VS19, hVS19⟩ : ∃ W, stB V4 (w.heap.size + 1) L19_0 = W := ⟨_, rfl⟩
    rw [hVS19] at hA hB hG hS hU n rl
    subst hL19_0
    simp only [stC, List.setIfInBounds_toArray, List.set_cons_succ, List.set_cons_zero] at hB
    simp only [stB] at hVS19
    go_upto_region 8 with fail
    clear hVS19
    generalize VS19 = V5 at *
    clear s4 b4 bf4
    obtain ⟨e0, e1, e2⟩ := cl3 hU
    obtain ⟨u0, uf0, u1, uf1, u2, uf2⟩ := cf3 hA
    obtain ⟨L20_0, hL20_0⟩ : ∃ L : List (Nat × Value), L = [(0, .slice A4 q5.1.length c4), (1, .int .i64 q5.2.1), (2, .int .i64 q5.2.2)] := ⟨_, rfl⟩
    replace hA := stB_s L20_0 hA
    replace hB := (stB_o (B := w.heap.size) (by omega) L20_0).trans hB
    replace hG := (stB_o (B := w.heap.size) (by omega) L20_0).trans hG
    replace hS := (stB_o (B := w.heap.size) (by omega) L20_0).trans hS
    replace n := stB_n (B := w.heap.size) (by omega) L20_0 n
    replace rl := rl.kp (stB_k (B := w.heap.size) (b := w.heap.size + 4) (by omega) L20_0)
    obtain ⟨VS20, hVS20⟩ : ∃ W, stB V5 (w.heap.size) L20_0 = W := ⟨_, rfl⟩
    rw [hVS20] at hA hB hG hS n rl
    subst hL20_0
    simp only [stC, List.setIfInBounds_toArray, List.set_cons_succ, List.set_cons_zero] at hA
    simp only [stB] at hVS20
    go_wp2_with fail
    go_meet
    exact ⟨A4, c4, n, hA, hB, hG, hS, rl, r4, okq4, lq4⟩
  case rest =>
   clear hw_ rk okq lq r3 okm lm lq3 n hA hB hG hS rl
   obtain ⟨A4, c4, n, hA, hB, hG, hS, rl, rk, okq, lq⟩ := hcut
   have hbV := hb.trans (n.mono hb.size)
   obtain ⟨a0, a1, a2⟩ := cl3 hA
   go_wp2_with fail
   refine may16_calls q4 (.slice A4 q4.1.length c4) w0 _ hbV rk okq tilde _ (Lib.hid fun v5 w5 r5 m5 => ?_)
   obtain ⟨A5, c5, rfl, -, -⟩ := r5.op
   replace hA := obB m5 hA
   replace hB := obB m5 hB
   replace hG := obB m5 hG
   replace hS := obB m5 hS
   replace n := n.trans (m5.mono n.size)
   replace rl := rl.kp (emp_bl (b0 := w.heap.size + 4) (Nat.le_refl _) m5)
   have okm := may_ok (m := tilde) okq
   have lm := may_len q4 tilde
   clear hbV a0 a1 a2 m5
   have hs_ := hse q4
   clear hse
   generalize (mayS q4 tilde).1 = q6 at *
   obtain ⟨u0, uf0, u1, uf1, u2, uf2⟩ := cf3 hA
   obtain ⟨L21_0, hL21_0⟩ : ∃ L : List (Nat × Value), L = [(0, .slice A5 q6.1.length c5), (1, .int .i64 q6.2.1), (2, .int .i64 q6.2.2)] := ⟨_, rfl⟩
   replace hA := stB_s L21_0 hA
   replace hB := (stB_o (B := w.heap.size) (by omega) L21_0).trans hB
   replace hG := (stB_o (B := w.heap.size) (by omega) L21_0).trans hG
   replace hS := (stB_o (B := w.heap.size) (by omega) L21_0).trans hS
   replace n := stB_n (B := w.heap.size) (by omega) L21_0 n
   replace rl := rl.kp (stB_k (B := w.heap.size) (b := w.heap.size + 4) (by omega) L21_0)
   obtain ⟨VS21, hVS21⟩ : ∃ W, stB w5 (w.heap.size) L21_0 = W := ⟨_, rfl⟩
   rw [hVS21] at hA hB hG hS n rl
   subst hL21_0
   simp only [stC, List.setIfInBounds_toArray, List.set_cons_succ, List.set_cons_zero] at hA
   simp only [stB] at hVS21
   go_upto_region 10 with fail
   clear hVS21
   generalize VS21 = V6 at *
   clear u0 uf0 u1 uf1 u2 uf2
   have lq6 : q6.1.length ≤ 1000000 := by omega
   generalize seeR q4 = L3 at *
   obtain ⟨co, q8⟩ := L3
   simp only at hR
   generalize (mayS q4 tilde).2 = F5 at *
   go_upto_if 43 with fail
   go_cut [] from 44 to 49 (fun wx => ∃ (A7 A8 : Option Addr) (c7 c8 : Nat), Below w.heap.size w wx ∧ wx.heap[w.heap.size]? = some (.cells #[.slice A7 q8.1.length c7, .int .i64 q8.2.1, .int .i64 q8.2.2] 142) ∧ wx.heap[w.heap.size + 1]? = some (.cells #[.string s_0, .int .i64 k_1, .bool b_2, .slice AL lb.length cl, .int .i64 wd, .int .i64 co.1, .int .i64 co.2.1, .int .i64 co.2.2.1, .slice A8 co.2.2.2.length c8, .int .i64 k_9, .int .i64 k_10, .int .i64 k_11, .int .i64 k_12, .int .i64 k_13, .slice a_14 n_14 c_14, .slice a_15 n_15 c_15, .string s_16, .int .i64 k_17] 92) ∧ wx.heap[w.heap.size + 2]? = some (.cells #[.string ⟨#[]⟩, .int .i64 0, .bool false, .slice none 0 0, .int .i64 0, .int .i64 0, .int .i64 0, .int .i64 0, .slice none 0 0, .int .i64 0, .int .i64 0, .int .i64 0, .int .i64 0, .int .i64 0, .slice none 0 0, .slice none 0 0, .string ⟨#[]⟩, .int .i64 0] 92) ∧ wx.heap[w.heap.size + 3]? = some (.cells #[.slice none 0 0, .int .i64 0, .int .i64 0] 142) ∧ RdW (empW (lowS (w.heap.size + 4)) wx) (.slice AL lb.length cl) lb ∧ RdW (empW (lowS (w.heap.size + 4)) wx) (.slice A8 co.2.2.2.length c8) co.2.2.2 ∧ RdK w0 (.slice A7 q8.1.length c7) q8.1 ∧ Ok q8 ∧ q8.1.length ≤ 1000000)
   case first =>
    cases F5
    ·rw [if_neg (by decide)] at hs_
     simp only [Prod.mk.injEq] at hs_
     obtain ⟨rfl, rfl⟩ := hs_
     clear hR
     go_wp2_with fail
     go_meet
     exact ⟨A5, none, c5, 0, n, hA, hB, hG, hS, rl, rdw_none _, r5, okm, lq6⟩
    ·rw [if_pos rfl] at hs_
     clear hR
     have hbV := hb.trans (n.mono hb.size)
     have gco := gd_coaS q6 okm
     obtain ⟨a0, a1, a2⟩ := cl3 hA
     go_wp2_with fail
     refine coarse16_calls q6 (.slice A5 q6.1.length c5) w0 _ hbV r5 okm lq6 _ (Lib.hid fun cv v7 w7 rc r7 ok7 m7 => ?_)
     obtain ⟨A8, c8, rfl, -, -⟩ := rc.op
     obtain ⟨A7, c7, rfl, -, -⟩ := r7.op
     rw [← hs_] at rc r7 ok7 gco ⊢
     clear hs_
     simp only at rc r7 ok7 gco ⊢
     have szV : w.heap.size + 4 ≤ V6.heap.size := blt hS
     replace rc := rc.kp (emp_kp (S := lowS V6.heap.size) (S' := lowS (w.heap.size + 4)) (Nat.le_refl _) fun g h1 h2 => ⟨by unfold lowS at *; omega, rfl⟩)
     replace rl := rl.kp (emp_bl (b0 := w.heap.size + 4) (Nat.le_refl _) m7)
     replace hA := obB m7 hA
     replace hB := obB m7 hB
     replace hG := obB m7 hG
     replace hS := obB m7 hS
     replace n := n.trans (m7.mono n.size)
     clear m7 hbV a0 a1 a2
     have b5 := (Lib.cell_of_heap hB 5).trans rfl
     have bf5 := Lib.frozen_of_heap hB 5
     have b6 := (Lib.cell_of_heap hB 6).trans rfl
     have bf6 := Lib.frozen_of_heap hB 6
     have b7 := (Lib.cell_of_heap hB 7).trans rfl
     have bf7 := Lib.frozen_of_heap hB 7
     have b8 := (Lib.cell_of_heap hB 8).trans rfl
     have bf8 := Lib.frozen_of_heap hB 8
     obtain ⟨u0, uf0, u1, uf1, u2, uf2⟩ := cf3 hA
     obtain ⟨L22_0, hL22_0⟩ : ∃ L : List (Nat × Value), L = [(5, .int .i64 co.1), (6, .int .i64 co.2.1), (7, .int .i64 co.2.2.1), (8, .slice A8 co.2.2.2.length c8)] := ⟨_, rfl⟩
     obtain ⟨L22_1, hL22_1⟩ : ∃ L : List (Nat × Value), L = [(0, .slice A7 q8.1.length c7), (1, .int .i64 q8.2.1), (2, .int .i64 q8.2.2)] := ⟨_, rfl⟩
     replace hA := (stB_o (B := w.heap.size + 1) (by omega) L22_0).trans hA
     replace hB := stB_s L22_0 hB
     replace hG := (stB_o (B := w.heap.size + 1) (by omega) L22_0).trans hG
     replace hS := (stB_o (B := w.heap.size + 1) (by omega) L22_0).trans hS
     replace n := stB_n (B := w.heap.size + 1) (by omega) L22_0 n
     replace rl := rl.kp (stB_k (B := w.heap.size + 1) (b := w.heap.size + 4) (by omega) L22_0)
     replace rc := rc.kp (stB_k (B := w.heap.size + 1) (b := w.heap.size + 4) (by omega) L22_0)
     replace hA := stB_s L22_1 hA
     replace hB := (stB_o (B := w.heap.size) (by omega) L22_1).trans hB
     replace hG := (stB_o (B := w.heap.size) (by omega) L22_1).trans hG
     replace hS := (stB_o (B := w.heap.size) (by omega) L22_1).trans hS
     replace n := stB_n (B := w.heap.size) (by omega) L22_1 n
     replace rl := rl.kp (stB_k (B := w.heap.size) (b := w.heap.size + 4) (by omega) L22_1)
     replace rc := rc.kp (stB_k (B := w.heap.size) (b := w.heap.size + 4) (by omega) L22_1)
     obtain ⟨VS22, hVS22⟩ : ∃ W, stB (stB w7 (w.heap.size + 1) L22_0) (w.heap.size) L22_1 = W := ⟨_, rfl⟩
     rw [hVS22] at hA hB hG hS n rl rc
     subst hL22_0 hL22_1
     simp only [stC, List.setIfInBounds_toArray, List.set_cons_succ, List.set_cons_zero] at hA hB
     simp only [stB] at hVS22
     go_wp2_with fail
     go_meet
     exact ⟨A7, A8, c7, c8, n, hA, hB, hG, hS, rl, rc, r7, ok7, by have := gco.2; omega⟩
   case rest =>
    clear hs_ rk okq lq r5 okm lm lq6 n hA hB hG hS rl
    obtain ⟨A7, A8, c7, c8, n, hA, hB, hG, hS, rl, rc, rk, okq, lq⟩ := hcut
    go_upto_region 12 with fail
    have jB := jf (p := w.heap.size + 2) (q := w.heap.size + 3) hB (by omega) (by omega)
    have jA := jf (p := w.heap.size + 2) (q := w.heap.size + 3) hA (by omega) (by omega)
    refine wp_region_mixG (w.heap.size + 2) (w.heap.size + 3) [([0, 1], 2), ([], 3)] [] (by kernel_rfl) (by kernel_rfl) (by kernel_rfl) (by kernel_rfl) (fun _ _ d _ _ h => by cases d <;> exact h) ?_
    have gW : Below wc.heap.size wc (wc.drewN 1) := ⟨rfl, rfl, rfl, Nat.le_refl _, fun _ _ => rfl⟩
    replace hG := obB gW hG
    replace hS := obB gW hS
    replace n := n.trans (gW.mono n.size)
    refine mix_cons (os := [_, _]) (by simp only [pickO, List.filterMap_cons, List.filterMap_nil, List.getElem?_toArray, List.getElem?_cons_succ, List.getElem?_cons_zero]; rfl) (fun Kp hKp => ?_)
    refine wpQuiet_load rfl 92 _ rfl (w.heap.size + 1) 0 rfl _ _ jB Tryz.underlying92 rfl (by kernel_rfl) ?_
    go_simp
    refine wpQuiet_load rfl 142 _ rfl (w.heap.size) 0 rfl _ _ jA Tryz.underlying142 rfl (by kernel_rfl) ?_
    go_simp
    refine wpQuiet_nil ?_
    refine hKp _ ?_
    clear hKp
    refine loud (by rfl) (by kernel_rfl) (fun K2 hK2 => ?_)
    obtain ⟨LV, hLV⟩ : ∃ L : List Value, L = [.string s_0, .int .i64 k_1, .bool b_2, .slice AL lb.length cl, .int .i64 wd, .int .i64 co.1, .int .i64 co.2.1, .int .i64 co.2.2.1, .slice A8 co.2.2.2.length c8, .int .i64 k_9, .int .i64 k_10, .int .i64 k_11, .int .i64 k_12, .int .i64 k_13, .slice a_14 n_14 c_14, .slice a_15 n_15 c_15, .string s_16, .int .i64 k_17] := ⟨_, rfl⟩
    obtain ⟨ht_, gp_, hq_, n_, xx⟩ := sc_all LV hG (by rw [hLV]; rfl) (GW.bl gW) (by omega) hS (by omega) n
    have rl9 := (rl.kp (emp_bl (b0 := w.heap.size + 4) (Nat.le_refl _) gW)).kp (kpL (b := w.heap.size + 4) (p := w.heap.size + 2) (by omega) LV)
    have rc9 := (rc.kp (emp_bl (b0 := w.heap.size + 4) (Nat.le_refl _) gW)).kp (kpL (b := w.heap.size + 4) (p := w.heap.size + 2) (by omega) LV)
    refine wp_store_mid 92 _ _ (by rfl) (w.heap.size + 2) 0 LV.toArray (by rfl) (by rw [hLV]; rfl) ht_ (by rw [hLV]; kernel_rfl) (by rw [hLV]; simp [Value.oneCell']) ?_
    rw [show LV.toArray.toList = LV from rfl]
    refine hK2 _ _ gp_ ?_
    clear hK2 ht_
    generalize (wc.drewN 1).setCells (w.heap.size + 2) 0 LV = W8 at *
    refine mix_cons (os := []) (by rfl) (fun Kp hKp => ?_)
    refine wpQuiet_nil ?_
    refine hKp _ ?_
    clear hKp
    refine loud (by rfl) (by kernel_rfl) (fun K3 hK3 => ?_)
    obtain ⟨z0, zf0, z1, zf1, z2, zf2⟩ := cf3 hq_
    obtain ⟨gq_, n9, xx⟩ := st3 gp_ (by omega) (by omega) n_ xx (.slice A7 q8.1.length c7) (.int .i64 q8.2.1) (.int .i64 q8.2.2)
    go_simp
    refine hK3 _ _ gq_ ?_
    clear hK3
    refine mix_nil (os := []) (by rfl) (fun Kp hKp => ?_)
    refine wpQuiet_nil ?_
    refine hKp _ ?_
    clear hKp
    have rlF := (rl9.kp (kp3 (b := w.heap.size + 4) (q := w.heap.size + 3) (by omega) (.slice A7 q8.1.length c7) (.int .i64 q8.2.1) (.int .i64 q8.2.2))).kp (kp_lw (b0 := w.heap.size) (by omega))
    have rcF := (rc9.kp (kp3 (b := w.heap.size + 4) (q := w.heap.size + 3) (by omega) (.slice A7 q8.1.length c7) (.int .i64 q8.2.1) (.int .i64 q8.2.2))).kp (kp_lw (b0 := w.heap.size) (by omega))
    have fin := Lib.hid (hR.out _ _ _ _ rlF rcF rk n9)
    clear hR
    clear gp_ gq_
    subst hLV
    go_wp2_with fail
    refine bodyPost_ret ?_ rfl fin.out
    simp [results, Tryz.results288, go_sem, xx.out 0 _ rfl, xx.out 1 _ rfl, xx.out 2 _ rfl, xx.out 3 _ rfl, xx.out 4 _ rfl, xx.out 5 _ rfl, xx.out 6 _ rfl, xx.out 7 _ rfl, xx.out 8 _ rfl, xx.out 9 _ rfl, xx.out 10 _ rfl, xx.out 11 _ rfl, xx.out 12 _ rfl, xx.out 13 _ rfl, xx.out 14 _ rfl, xx.out 15 _ rfl, xx.out 16 _ rfl, xx.out 17 _ rfl, z0, z1, z2]
end Go.Proofs.YtncijmodlhijoaaGreat.Syn
