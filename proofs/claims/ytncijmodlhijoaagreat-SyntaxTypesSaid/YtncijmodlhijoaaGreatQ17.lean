import Derived.Test.YtncijmodlhijoaaGreatQ8
import Derived.Deep.Cut
import Derived.Test.YtncijmodlhijoaaGreatQ10
import Derived.Test.YtncijmodlhijoaaGreatQ16
set_option linter.unusedVariables false
set_option maxRecDepth 100000
set_option maxHeartbeats 4000000
namespace Go.Proofs.YtncijmodlhijoaaGreat.Kin
open Go.RowKit Go.Lib Utf Nam Lat
abbrev ptL (p : PH) (lv cv : Value) (h : TH) (nv pv : Value) : List Value := [.string p.name, .int .i64 p.at_, .bool p.bare, lv, .int .i64 p.wide, .int .i64 p.ck, .int .i64 p.cn, .int .i64 p.cat, cv, .int .i64 h.kind, .int .i64 h.at_, .int .i64 h.lo, .int .i64 h.hi, .int .i64 h.most, nv, pv, .string h.name, .int .i64 h.nat]
abbrev ptV (p : PH) (lv cv : Value) (h : TH) (nv pv : Value) : Value := .agg (ptL p lv cv h nv pv).toArray
structure PB (w : World) (B : Nat) (p : PH) (lv cv : Value) : Prop where
 lt : B < w.heap.size
 k2 : w.cell? ⟨B, 2, none⟩ = some (.bool p.bare)
 k3 : w.cell? ⟨B, 3, none⟩ = some lv
 k4 : w.cell? ⟨B, 4, none⟩ = some (.int .i64 p.wide)
 k5 : w.cell? ⟨B, 5, none⟩ = some (.int .i64 p.ck)
 k6 : w.cell? ⟨B, 6, none⟩ = some (.int .i64 p.cn)
 k8 : w.cell? ⟨B, 8, none⟩ = some cv
abbrev tyL (h : TH) (nv pv : Value) : List Value := [.int .i64 h.kind, .int .i64 h.at_, .int .i64 h.lo, .int .i64 h.hi, .int .i64 h.most, nv, pv, .string h.name, .int .i64 h.nat]
structure TB (w : World) (B : Nat) (h : TH) (nv pv : Value) : Prop where
 lt : B < w.heap.size
 k0 : w.cell? ⟨B, 0, none⟩ = some (.int .i64 h.kind)
 k1 : w.cell? ⟨B, 1, none⟩ = some (.int .i64 h.at_)
 k2 : w.cell? ⟨B, 2, none⟩ = some (.int .i64 h.lo)
 k3 : w.cell? ⟨B, 3, none⟩ = some (.int .i64 h.hi)
 k4 : w.cell? ⟨B, 4, none⟩ = some (.int .i64 h.most)
 k5 : w.cell? ⟨B, 5, none⟩ = some nv
 k6 : w.cell? ⟨B, 6, none⟩ = some pv
 k7 : w.cell? ⟨B, 7, none⟩ = some (.string h.name)
 k8 : w.cell? ⟨B, 8, none⟩ = some (.int .i64 h.nat)
theorem TB.new (w : World) (h : TH) (nv pv : Value) (t : TypeId) : TB (w.alloc (.cells (tyL h nv pv).toArray t)) w.heap.size h nv pv := by
 have q := heap_alloc_new w (.cells (tyL h nv pv).toArray t)
 refine ⟨by simp, ?_, ?_, ?_, ?_, ?_, ?_, ?_, ?_, ?_⟩ <;> (rw [Lib.cell_of_heap q]; rfl)
theorem TB.below {w w' : World} {B : Nat} {h : TH} {nv pv : Value} (q : TB w B h nv pv) (hb : Below w.heap.size w w') : TB w' B h nv pv := by
 have k := fun j => hb.cell (p := ⟨B, j, none⟩) q.lt
 exact ⟨Nat.lt_of_lt_of_le q.lt hb.size, (k 0).trans q.k0, (k 1).trans q.k1, (k 2).trans q.k2, (k 3).trans q.k3, (k 4).trans q.k4, (k 5).trans q.k5, (k 6).trans q.k6, (k 7).trans q.k7, (k 8).trans q.k8⟩
theorem all_at {GH : TH → Prop} {GL : PH → Prop} : ∀ (n : Nat) {f : Ft} {p : PH} {x : TH} {k r : Ft}, f.All GH GL → f.drop n = .cons p x k r → GL p ∧ GH x ∧ k.len ≤ maxLen ∧ k.All GH GL
 | 0, f, p, x, k, r, a, e => by
  have e' : f = .cons p x k r := e
  rw [e'] at a
  exact ⟨a.1, a.2.1, a.2.2.1, a.2.2.2.1⟩
 | n + 1, .nil, p, x, k, r, a, e => by simp [Fo.drop] at e
 | n + 1, .cons _ _ _ f, p, x, k, r, a, e => all_at n (f := f) a.2.2.2.2 e
theorem part_alloc (ρ : Operand → Value) (W : World) (o : Oper) (h : o.op = .alloc 92) : (execOp ρ o).run Tryz.prog W = .ok (.value (ptA W.heap.size)) (W.alloc (.cells #[.string ⟨#[]⟩, .int .i64 0, .bool false, .slice none 0 0, .int .i64 0, .int .i64 0, .int .i64 0, .int .i64 0, .slice none 0 0, .int .i64 0, .int .i64 0, .int .i64 0, .int .i64 0, .int .i64 0, .slice none 0 0, .slice none 0 0, .string ⟨#[]⟩, .int .i64 0] 92)) := by
 simp [execOp, h, go_sem, ptA]
def SameQ (f : Ft) : Prop := ∀ (h h' : TH) (g : Ft) (nv pv nv' pv' : Value) (w : World), h.names.length ≤ maxLen → f.len ≤ maxLen → f.All GoodH GoodL → RdY w h f nv pv → RdY w h' g nv' pv' → ∀ R : Ending → World → Prop,
 Hid (∀ w', Below w.heap.size w w' → R (.returned (.bool (sameS h f h' g))) w') → Calls Tryz.prog 179 #[tyV h nv pv, tyV h' nv' pv'] w R
end Go.Proofs.YtncijmodlhijoaaGreat.Kin
namespace Go.Proofs.YtncijmodlhijoaaGreat.Syn
open Go.RowKit Go.Lib Utf Tok Cur Nam Lat Kin
def KindQ (n : Nat) : Prop := ∀ (p : PS) (v : Value) (w0 w : World), Below w0.heap.size w0 w → RdK w0 v p.1 → Ok p → p.1.length ≤ 1000000 → ∀ R : Ending → World → Prop,
 Hid (∀ nv pv v' w', RdY (empW (lowS w.heap.size) w') (kindR n p).1.1 (kindR n p).1.2 nv pv → RdK w0 v' (kindR n p).2.1 → Below w.heap.size w w' → R (.returned (.tuple #[tyV (kindR n p).1.1 nv pv, psV v' (kindR n p).2])) w') → Calls Tryz.prog 68 #[psV v p, .int .i64 (24 - (n : Int))] w R
abbrev prR (y : Pt) (lv cv nv pv : Value) : Value := .agg #[.string y.1.name, .int .i64 y.1.at_, .bool y.1.bare, lv, .int .i64 y.1.wide, .int .i64 y.1.ck, .int .i64 y.1.cn, .int .i64 y.1.cat, cv, .int .i64 y.2.1.kind, .int .i64 y.2.1.at_, .int .i64 y.2.1.lo, .int .i64 y.2.1.hi, .int .i64 y.2.1.most, nv, pv, .string y.2.1.name, .int .i64 y.2.1.nat]
structure RdR (w : World) (y : Pt) (lv cv nv pv : Value) : Prop where
 l : RdW w lv y.1.label
 c : RdW w cv y.1.cl
 t : RdY w y.2.1 y.2.2 nv pv
theorem RdR.kp {w w' : World} {y : Pt} {lv cv nv pv : Value} (h : RdR w y lv cv nv pv) (k : Kp w w') : RdR w' y lv cv nv pv := ⟨h.l.kp k, h.c.kp k, RdY.kp k h.t⟩
theorem rowR {w : World} {B : Nat} {cs : Array Value} {t : TypeId} (h : w.heap[B]? = some (.cells cs t)) (c : Array Value) : (w.setRow B c).heap[B]? = some (.cells c t) := by
 simp [World.setRow, Array.getElem?_modify, h]
theorem emp_row {W : World} {b b0 B : Nat} (h : b0 ≤ b) (hB : B < b) (c : Array Value) : Kp (empW (lowS b) W) (empW (lowS b0) (W.setRow B c)) :=
 emp_kp (by rw [setRow_size]; exact Nat.le_refl _) fun g h1 h2 => ⟨by unfold lowS at *; omega, setRow_other W B g c (by unfold lowS at h2; omega)⟩
theorem row_bl {base B : Nat} {w W : World} {c : Array Value} (hb : base ≤ B) (h : Below base w W) : Below base w (W.setRow B c) :=
 ⟨h.os, h.tape, h.output, by rw [setRow_size]; exact h.size, fun k hk => (setRow_other W B k c (by omega)).trans (h.block k hk)⟩
theorem partF16_calls (k : Nat) (hk : KindQ k) (p : PS) (v : Value) (w0 w : World) (hb : Below w0.heap.size w0 w) (hx : RdK w0 v p.1) (ok : Ok p) (hl : p.1.length ≤ 1000000) (R : Ending → World → Prop)
  (hR : Hid (∀ lv cv nv pv v' w', RdR (empW (lowS w.heap.size) w') (partR (kindR k) false p).1 lv cv nv pv → RdK w0 v' (partR (kindR k) false p).2.1 → Below w.heap.size w w' → R (.returned (.tuple #[prR (partR (kindR k) false p).1 lv cv nv pv, psV v' (partR (kindR k) false p).2])) w')) : Calls Tryz.prog 244 #[psV v p, .bool false, .int .i64 (24 - (k : Int))] w R := by
 have hq : partR (kindR k) false p = (((marksR (nP (nameS p).1) (kindR k (markS (nameS p).2 colon)).2).1, (kindR k (markS (nameS p).2 colon)).1), (marksR (nP (nameS p).1) (kindR k (markS (nameS p).2 colon)).2).2) := if_pos rfl
 rw [hq] at hR
 simp only at hR
 clear hq
 obtain ⟨A0, cp, rfl, hlc, -⟩ := hx.op
 have gn := gd_name p ok
 obtain ⟨V, eV, hA, hG, hS, n, -, zz1, zz2⟩ := box3 w (.cells #[.slice A0 p.1.length cp, .int .i64 p.2.1, .int .i64 p.2.2] 142) (.cells #[.string ⟨#[]⟩, .int .i64 0, .bool false, .slice none 0 0, .int .i64 0, .int .i64 0, .int .i64 0, .int .i64 0, .slice none 0 0, .int .i64 0, .int .i64 0, .int .i64 0, .int .i64 0, .int .i64 0, .slice none 0 0, .slice none 0 0, .string ⟨#[]⟩, .int .i64 0] 92) (.cells #[.slice none 0 0, .int .i64 0, .int .i64 0] 142)
 replace eV := Lib.hid eV
 go_enter Tryz.func244, Tryz.ntmps244
 go_upto_region 1 with fail
 rw [eV.out]
 clear eV zz1 zz2
 have hbV := hb.trans (n.mono hb.size)
 obtain ⟨a0, a1, a2⟩ := cl3 hA
 go_wp2_with fail
 refine name16_calls p (.slice A0 p.1.length cp) w0 _ hbV hx ok _ (Lib.hid fun v1 w1 r1 m1 => ?_)
 obtain ⟨A1, c1, rfl, -, -⟩ := r1.op
 replace hA := obB m1 hA
 replace hG := obB m1 hG
 replace hS := obB m1 hS
 replace n := n.trans (m1.mono n.size)
 clear m1 hbV a0 a1 a2
 generalize (nameS p).1 = x at *
 generalize (nameS p).2 = q1 at *
 obtain ⟨x0, x1⟩ := x
 have lX : w.heap.size + 2 < w1.heap.size := blt hS
 obtain ⟨o1_, ho1_⟩ : ∃ oO_ : Obj, oO_ = .cells #[.string x0, .int .i64 x1] 27 := ⟨_, rfl⟩
 have hX := heap_alloc_new w1 o1_
 replace hA := obB (alB w1 o1_) hA
 replace hG := obB (alB w1 o1_) hG
 replace hS := obB (alB w1 o1_) hS
 replace n := n.trans ((alB w1 o1_).mono n.size)
 subst ho1_
 obtain ⟨u0, uf0, u1, uf1, u2, uf2⟩ := cf3 hA
 generalize hV1 : w1.alloc (.cells #[.string x0, .int .i64 x1] 27) = V1 at *
 generalize hX0 : w1.heap.size = X at *
 obtain ⟨L1_0, hL1_0⟩ : ∃ L : List (Nat × Value), L = [(0, .slice A1 q1.1.length c1), (1, .int .i64 q1.2.1), (2, .int .i64 q1.2.2)] := ⟨_, rfl⟩
 replace hA := stB_s L1_0 hA
 replace hG := (stB_o (B := w.heap.size) (by omega) L1_0).trans hG
 replace hS := (stB_o (B := w.heap.size) (by omega) L1_0).trans hS
 replace hX := (stB_o (B := w.heap.size) (by omega) L1_0).trans hX
 replace n := stB_n (B := w.heap.size) (by omega) L1_0 n
 obtain ⟨VS1, hVS1⟩ : ∃ W, stB V1 (w.heap.size) L1_0 = W := ⟨_, rfl⟩
 rw [hVS1] at hA hG hS hX n
 subst hL1_0
 simp only [stC, List.setIfInBounds_toArray, List.set_cons_succ, List.set_cons_zero] at hA
 simp only [stB] at hVS1
 go_upto_region 2 with fail
 clear hV1 hX0 u0 uf0 u1 uf1 u2 uf2
 clear hVS1
 generalize VS1 = V2 at *
 have s0 := (Lib.cell_of_heap hX 0).trans rfl
 have s1 := (Lib.cell_of_heap hX 1).trans rfl
 have lD : X < V2.heap.size := blt hX
 obtain ⟨V3, eV, hD, m_, -⟩ := box1 V2 (.cells #[.string x0, .int .i64 x1, .bool false, .slice none 0 0, .int .i64 0, .int .i64 0, .int .i64 0, .int .i64 0, .slice none 0 0, .int .i64 0, .int .i64 0, .int .i64 0, .int .i64 0, .int .i64 0, .slice none 0 0, .slice none 0 0, .string ⟨#[]⟩, .int .i64 0] 92)
 replace eV := Lib.hid eV
 replace hA := obB m_ hA
 replace hG := obB m_ hG
 replace hS := obB m_ hS
 replace hX := obB m_ hX
 replace n := n.trans (m_.mono n.size)
 go_upto_region 3 with (refine wpList_copy #[.string x0, .int .i64 x1, .bool false, .slice none 0 0, .int .i64 0, .int .i64 0, .int .i64 0, .int .i64 0, .slice none 0 0, .int .i64 0, .int .i64 0, .int .i64 0, .int .i64 0, .int .i64 0, .slice none 0 0, .slice none 0 0, .string ⟨#[]⟩, .int .i64 0] ⟨rfl, rfl, rfl⟩ ⟨rfl, rfl, rfl⟩ part_alloc (by kernel_rfl) ⟨rfl, by simp [Value.oneCell']⟩ (fun _ => ⟨rfl, rfl⟩) ?_; go_simp)
 rw [eV.out]
 clear eV m_
 generalize V2.heap.size = D at *
 clear s0 s1
 go_upto_region 4 with fail
 have hbV := hb.trans (n.mono hb.size)
 have gm := gd_mark q1 colon gn.1
 obtain ⟨a0, a1, a2⟩ := cl3 hA
 go_wp2_with fail
 refine mark16_calls q1 (.slice A1 q1.1.length c1) w0 _ hbV r1 gn.1 colon _ (Lib.hid fun v4 w4 r4 m4 => ?_)
 obtain ⟨A4, c4, rfl, -, -⟩ := r4.op
 replace hA := obB m4 hA
 replace hG := obB m4 hG
 replace hS := obB m4 hS
 replace hX := obB m4 hX
 replace hD := obB m4 hD
 replace n := n.trans (m4.mono n.size)
 clear m4 hbV a0 a1 a2
 generalize markS q1 colon = q2 at *
 have hbV := hb.trans (n.mono hb.size)
 have gk := gd_kindR k q2 gm.1
 go_wp2_with fail
 refine hk q2 (.slice A4 q2.1.length c4) w0 _ hbV r4 gm.1 (by omega) _ (Lib.hid fun nv pv v5 w5 r5 rk m5 => ?_)
 obtain ⟨A3, c3, rfl, -, -⟩ := r5.n.op
 obtain ⟨A4', c4', rfl, -⟩ := r5.p.sl
 obtain ⟨A5, c5, rfl, -, -⟩ := rk.op
 have lDV : D < w4.heap.size := blt hD
 replace r5 := RdY.kp (kp_lw (b0 := D + 1) (by omega)) r5
 replace hA := obB m5 hA
 replace hG := obB m5 hG
 replace hS := obB m5 hS
 replace hX := obB m5 hX
 replace hD := obB m5 hD
 replace n := n.trans (m5.mono n.size)
 clear m5 hbV r4
 generalize kindR k q2 = K at *
 obtain ⟨⟨hh, ff⟩, q3⟩ := K
 simp only at r5 rk gk hR
 have y9 := (Lib.cell_of_heap hD 9).trans rfl
 have yf9 := Lib.frozen_of_heap hD 9
 have y10 := (Lib.cell_of_heap hD 10).trans rfl
 have yf10 := Lib.frozen_of_heap hD 10
 have y11 := (Lib.cell_of_heap hD 11).trans rfl
 have yf11 := Lib.frozen_of_heap hD 11
 have y12 := (Lib.cell_of_heap hD 12).trans rfl
 have yf12 := Lib.frozen_of_heap hD 12
 have y13 := (Lib.cell_of_heap hD 13).trans rfl
 have yf13 := Lib.frozen_of_heap hD 13
 have y14 := (Lib.cell_of_heap hD 14).trans rfl
 have yf14 := Lib.frozen_of_heap hD 14
 have y15 := (Lib.cell_of_heap hD 15).trans rfl
 have yf15 := Lib.frozen_of_heap hD 15
 have y16 := (Lib.cell_of_heap hD 16).trans rfl
 have yf16 := Lib.frozen_of_heap hD 16
 have y17 := (Lib.cell_of_heap hD 17).trans rfl
 have yf17 := Lib.frozen_of_heap hD 17
 obtain ⟨u0, uf0, u1, uf1, u2, uf2⟩ := cf3 hA
 clear hX
 obtain ⟨L2_0, hL2_0⟩ : ∃ L : List (Nat × Value), L = [(9, .int .i64 hh.kind), (10, .int .i64 hh.at_), (11, .int .i64 hh.lo), (12, .int .i64 hh.hi), (13, .int .i64 hh.most), (14, .slice A3 hh.names.length c3), (15, .slice A4' ff.len c4'), (16, .string hh.name), (17, .int .i64 hh.nat)] := ⟨_, rfl⟩
 obtain ⟨L2_1, hL2_1⟩ : ∃ L : List (Nat × Value), L = [(0, .slice A5 q3.1.length c5), (1, .int .i64 q3.2.1), (2, .int .i64 q3.2.2)] := ⟨_, rfl⟩
 replace hA := (stB_o (B := D) (by omega) L2_0).trans hA
 replace hG := (stB_o (B := D) (by omega) L2_0).trans hG
 replace hS := (stB_o (B := D) (by omega) L2_0).trans hS
 replace hD := stB_s L2_0 hD
 replace n := stB_n (B := D) (by omega) L2_0 n
 replace r5 := RdY.kp (stB_k (B := D) (b := D + 1) (by omega) L2_0) r5
 replace hA := stB_s L2_1 hA
 replace hG := (stB_o (B := w.heap.size) (by omega) L2_1).trans hG
 replace hS := (stB_o (B := w.heap.size) (by omega) L2_1).trans hS
 replace hD := (stB_o (B := w.heap.size) (by omega) L2_1).trans hD
 replace n := stB_n (B := w.heap.size) (by omega) L2_1 n
 replace r5 := RdY.kp (stB_k (B := w.heap.size) (b := D + 1) (by omega) L2_1) r5
 obtain ⟨VS2, hVS2⟩ : ∃ W, stB (stB w5 D L2_0) (w.heap.size) L2_1 = W := ⟨_, rfl⟩
 rw [hVS2] at hA hG hS hD n r5
 subst hL2_0 hL2_1
 simp only [stC, List.setIfInBounds_toArray, List.set_cons_succ, List.set_cons_zero] at hA hD
 simp only [stB] at hVS2
 go_upto_region 5 with fail
 clear u0 uf0 u1 uf1 u2 uf2 y9 yf9 y10 yf10 y11 yf11 y12 yf12 y13 yf13 y14 yf14 y15 yf15 y16 yf16 y17 yf17
 clear hVS2
 generalize VS2 = V5 at *
 have rD : V5.rangeAt D 0 [.string x0, .int .i64 x1, .bool false, .slice none 0 0, .int .i64 0, .int .i64 0, .int .i64 0, .int .i64 0, .slice none 0 0, .int .i64 hh.kind, .int .i64 hh.at_, .int .i64 hh.lo, .int .i64 hh.hi, .int .i64 hh.most, .slice A3 hh.names.length c3, .slice A4' ff.len c4', .string hh.name, .int .i64 hh.nat] := fun j v e => by rw [Nat.zero_add, Lib.cell_of_heap hD]; simpa using e
 have hbV := hb.trans (n.mono hb.size)
 have szS := blt hS
 obtain ⟨a0, a1, a2⟩ := cl3 hA
 go_wp2_with (refine wpList_load_g (by rfl) 92 _ rfl D 0 rfl [.string x0, .int .i64 x1, .bool false, .slice none 0 0, .int .i64 0, .int .i64 0, .int .i64 0, .int .i64 0, .slice none 0 0, .int .i64 hh.kind, .int .i64 hh.at_, .int .i64 hh.lo, .int .i64 hh.hi, .int .i64 hh.most, .slice A3 hh.names.length c3, .slice A4' ff.len c4', .string hh.name, .int .i64 hh.nat] _ rD Tryz.underlying92 rfl (by kernel_rfl) ?_; go_simp)
 refine marks16_calls (nP (x0, x1)) x0 hh.name x1 hh.kind hh.at_ hh.lo hh.hi hh.most hh.nat false A3 A4' hh.names.length ff.len c3 c4' q3 (.slice A5 q3.1.length c5) w0 V5 hbV rk gk.1 (by omega) _ (Lib.hid fun lv cv v6 w6 rl rc r6 m6 => ?_)
 obtain ⟨A6, c6, rfl, -, -⟩ := rl.op
 obtain ⟨A7, c7, rfl, -, -⟩ := rc.op
 obtain ⟨A8, c8, rfl, -, -⟩ := r6.op
 have lDW : D < V5.heap.size := blt hD
 replace rl := rl.kp (kp_lw (b0 := D + 1) (by omega))
 replace rc := rc.kp (kp_lw (b0 := D + 1) (by omega))
 replace r5 := RdY.kp (emp_bl (b0 := D + 1) (Nat.le_refl _) m6) r5
 replace hG := obB m6 hG
 replace hS := obB m6 hS
 replace n := n.trans (m6.mono n.size)
 clear m6 hbV a0 a1 a2 rD
 have e1 : (marksR (nP (x0, x1)) q3).1.name = x0 ∧ (marksR (nP (x0, x1)) q3).1.at_ = x1 ∧ (marksR (nP (x0, x1)) q3).1.bare = false := ⟨rfl, rfl, rfl⟩
 generalize marksR (nP (x0, x1)) q3 = M at *
 obtain ⟨⟨y_0, y_1, y_2, y_l, y_w, y_k, y_n, y_a, y_c⟩, q6⟩ := M
 simp only at rl rc r6 e1 hR ⊢
 obtain ⟨e1, e2, e3⟩ := e1
 replace e1 := e1.symm
 replace e2 := e2.symm
 replace e3 := e3.symm
 subst e1 e2 e3
 have hGr := hG
 have hS2 := (setRow_other w6 (w.heap.size + 1) (w.heap.size + 2) #[.string x0, .int .i64 x1, .bool false, .slice A6 y_l.length c6, .int .i64 y_w, .int .i64 y_k, .int .i64 y_n, .int .i64 y_a, .slice A7 y_c.length c7, .int .i64 hh.kind, .int .i64 hh.at_, .int .i64 hh.lo, .int .i64 hh.hi, .int .i64 hh.most, .slice A3 hh.names.length c3, .slice A4' ff.len c4', .string hh.name, .int .i64 hh.nat] (by omega)).trans hS
 have hG2 := rowR hG #[.string x0, .int .i64 x1, .bool false, .slice A6 y_l.length c6, .int .i64 y_w, .int .i64 y_k, .int .i64 y_n, .int .i64 y_a, .slice A7 y_c.length c7, .int .i64 hh.kind, .int .i64 hh.at_, .int .i64 hh.lo, .int .i64 hh.hi, .int .i64 hh.most, .slice A3 hh.names.length c3, .slice A4' ff.len c4', .string hh.name, .int .i64 hh.nat]
 have n2 := row_bl (B := w.heap.size + 1) (c := #[.string x0, .int .i64 x1, .bool false, .slice A6 y_l.length c6, .int .i64 y_w, .int .i64 y_k, .int .i64 y_n, .int .i64 y_a, .slice A7 y_c.length c7, .int .i64 hh.kind, .int .i64 hh.at_, .int .i64 hh.lo, .int .i64 hh.hi, .int .i64 hh.most, .slice A3 hh.names.length c3, .slice A4' ff.len c4', .string hh.name, .int .i64 hh.nat]) (by omega) n
 obtain ⟨z0, zf0, z1, zf1, z2, zf2⟩ := cf3 hS2
 have hG3 := ((sneR (w := (((w6.setRow (w.heap.size + 1) #[.string x0, .int .i64 x1, .bool false, .slice A6 y_l.length c6, .int .i64 y_w, .int .i64 y_k, .int .i64 y_n, .int .i64 y_a, .slice A7 y_c.length c7, .int .i64 hh.kind, .int .i64 hh.at_, .int .i64 hh.lo, .int .i64 hh.hi, .int .i64 hh.most, .slice A3 hh.names.length c3, .slice A4' ff.len c4', .string hh.name, .int .i64 hh.nat]).setCell ⟨w.heap.size + 2, 0, none⟩ (.slice A8 q6.1.length c8)).setCell ⟨w.heap.size + 2, 1, none⟩ (.int .i64 q6.2.1))) (q := w.heap.size + 2) (o := 2) (v := .int .i64 q6.2.2) (by omega)).trans ((sneR (w := ((w6.setRow (w.heap.size + 1) #[.string x0, .int .i64 x1, .bool false, .slice A6 y_l.length c6, .int .i64 y_w, .int .i64 y_k, .int .i64 y_n, .int .i64 y_a, .slice A7 y_c.length c7, .int .i64 hh.kind, .int .i64 hh.at_, .int .i64 hh.lo, .int .i64 hh.hi, .int .i64 hh.most, .slice A3 hh.names.length c3, .slice A4' ff.len c4', .string hh.name, .int .i64 hh.nat]).setCell ⟨w.heap.size + 2, 0, none⟩ (.slice A8 q6.1.length c8))) (q := w.heap.size + 2) (o := 1) (v := .int .i64 q6.2.1) (by omega)).trans ((sneR (w := (w6.setRow (w.heap.size + 1) #[.string x0, .int .i64 x1, .bool false, .slice A6 y_l.length c6, .int .i64 y_w, .int .i64 y_k, .int .i64 y_n, .int .i64 y_a, .slice A7 y_c.length c7, .int .i64 hh.kind, .int .i64 hh.at_, .int .i64 hh.lo, .int .i64 hh.hi, .int .i64 hh.most, .slice A3 hh.names.length c3, .slice A4' ff.len c4', .string hh.name, .int .i64 hh.nat])) (q := w.heap.size + 2) (o := 0) (v := .slice A8 q6.1.length c8) (by omega)).trans hG2)))
 have fin := Lib.hid (hR.out _ _ _ _ _ _ (((((RdR.kp ⟨rl, rc, r5⟩ (emp_row (B := w.heap.size + 1) (b := D + 1) (b0 := D + 1) (Nat.le_refl _) (by omega) #[.string x0, .int .i64 x1, .bool false, .slice A6 y_l.length c6, .int .i64 y_w, .int .i64 y_k, .int .i64 y_n, .int .i64 y_a, .slice A7 y_c.length c7, .int .i64 hh.kind, .int .i64 hh.at_, .int .i64 hh.lo, .int .i64 hh.hi, .int .i64 hh.most, .slice A3 hh.names.length c3, .slice A4' ff.len c4', .string hh.name, .int .i64 hh.nat])).kp (emp_set (B := w.heap.size + 2) (b := D + 1) (b0 := D + 1) (Nat.le_refl _) (by omega) 0 (.slice A8 q6.1.length c8))).kp (emp_set (B := w.heap.size + 2) (b := D + 1) (b0 := D + 1) (Nat.le_refl _) (by omega) 1 (.int .i64 q6.2.1))).kp (emp_set (B := w.heap.size + 2) (b := D + 1) (b0 := D + 1) (Nat.le_refl _) (by omega) 2 (.int .i64 q6.2.2))).kp (kp_lw (by omega))) r6 (((n2.setCell (p := ⟨w.heap.size + 2, 0, none⟩) (by show w.heap.size ≤ w.heap.size + 2; omega) (.slice A8 q6.1.length c8)).setCell (p := ⟨w.heap.size + 2, 1, none⟩) (by show w.heap.size ≤ w.heap.size + 2; omega) (.int .i64 q6.2.1)).setCell (p := ⟨w.heap.size + 2, 2, none⟩) (by show w.heap.size ≤ w.heap.size + 2; omega) (.int .i64 q6.2.2)))
 clear hR n n2 rl rc r5
 have x0_ := (Lib.cell_of_heap hG3 0).trans rfl
 have x1_ := (Lib.cell_of_heap hG3 1).trans rfl
 have x2_ := (Lib.cell_of_heap hG3 2).trans rfl
 have x3_ := (Lib.cell_of_heap hG3 3).trans rfl
 have x4_ := (Lib.cell_of_heap hG3 4).trans rfl
 have x5_ := (Lib.cell_of_heap hG3 5).trans rfl
 have x6_ := (Lib.cell_of_heap hG3 6).trans rfl
 have x7_ := (Lib.cell_of_heap hG3 7).trans rfl
 have x8_ := (Lib.cell_of_heap hG3 8).trans rfl
 have x9_ := (Lib.cell_of_heap hG3 9).trans rfl
 have x10_ := (Lib.cell_of_heap hG3 10).trans rfl
 have x11_ := (Lib.cell_of_heap hG3 11).trans rfl
 have x12_ := (Lib.cell_of_heap hG3 12).trans rfl
 have x13_ := (Lib.cell_of_heap hG3 13).trans rfl
 have x14_ := (Lib.cell_of_heap hG3 14).trans rfl
 have x15_ := (Lib.cell_of_heap hG3 15).trans rfl
 have x16_ := (Lib.cell_of_heap hG3 16).trans rfl
 have x17_ := (Lib.cell_of_heap hG3 17).trans rfl
 go_wp2_with (refine wpList_store_row (by rfl) 92 _ _ (by rfl) (w.heap.size + 1) #[.string x0, .int .i64 x1, .bool false, .slice A6 y_l.length c6, .int .i64 y_w, .int .i64 y_k, .int .i64 y_n, .int .i64 y_a, .slice A7 y_c.length c7, .int .i64 hh.kind, .int .i64 hh.at_, .int .i64 hh.lo, .int .i64 hh.hi, .int .i64 hh.most, .slice A3 hh.names.length c3, .slice A4' ff.len c4', .string hh.name, .int .i64 hh.nat] (by rfl) (by rfl) 92 _ hGr (by kernel_rfl) rfl (by simp [Value.oneCell']) ?_; go_simp)
 first | refine bodyPost_ret ?_ rfl fin.out | refine bodyPost_end ?_ rfl fin.out
 simp [results, Tryz.results244, go_sem, z0, z1, z2, x0_, x1_, x2_, x3_, x4_, x5_, x6_, x7_, x8_, x9_, x10_, x11_, x12_, x13_, x14_, x15_, x16_, x17_]
theorem partN16_calls (k : Nat) (hk : KindQ k) (p : PS) (v : Value) (w0 w : World) (hb : Below w0.heap.size w0 w) (hx : RdK w0 v p.1) (ok : Ok p) (hl : p.1.length ≤ 1000000) (hm : (mayS (nameS p).2 lpar).2 = false) (R : Ending → World → Prop)
  (hR : Hid (∀ lv cv nv pv v' w', RdR (empW (lowS w.heap.size) w') (partR (kindR k) true p).1 lv cv nv pv → RdK w0 v' (partR (kindR k) true p).2.1 → Below w.heap.size w w' → R (.returned (.tuple #[prR (partR (kindR k) true p).1 lv cv nv pv, psV v' (partR (kindR k) true p).2])) w')) : Calls Tryz.prog 244 #[psV v p, .bool true, .int .i64 (24 - (k : Int))] w R := by
 have hq : partR (kindR k) true p = if (mayS (nameS p).2 lpar).2 = true then (((marksR (nP (nameS p).1) (markS (kindR k (mayS (nameS p).2 lpar).1).2 rpar)).1, (kindR k (mayS (nameS p).2 lpar).1).1), (marksR (nP (nameS p).1) (markS (kindR k (mayS (nameS p).2 lpar).1).2 rpar)).2) else ((nB (nameS p).1, zTH, .nil), (mayS (nameS p).2 lpar).1) := if_neg (by decide)
 rw [hm, if_neg (by decide)] at hq
 rw [hq] at hR
 simp only at hR
 clear hq
 obtain ⟨A0, cp, rfl, hlc, -⟩ := hx.op
 have gn := gd_name p ok
 obtain ⟨V, eV, hA, hG, hS, n, -, zz1, zz2⟩ := box3 w (.cells #[.slice A0 p.1.length cp, .int .i64 p.2.1, .int .i64 p.2.2] 142) (.cells #[.string ⟨#[]⟩, .int .i64 0, .bool false, .slice none 0 0, .int .i64 0, .int .i64 0, .int .i64 0, .int .i64 0, .slice none 0 0, .int .i64 0, .int .i64 0, .int .i64 0, .int .i64 0, .int .i64 0, .slice none 0 0, .slice none 0 0, .string ⟨#[]⟩, .int .i64 0] 92) (.cells #[.slice none 0 0, .int .i64 0, .int .i64 0] 142)
 replace eV := Lib.hid eV
 go_enter Tryz.func244, Tryz.ntmps244
 go_upto_region 1 with fail
 rw [eV.out]
 clear eV zz1 zz2
 have hbV := hb.trans (n.mono hb.size)
 obtain ⟨a0, a1, a2⟩ := cl3 hA
 go_wp2_with fail
 refine name16_calls p (.slice A0 p.1.length cp) w0 _ hbV hx ok _ (Lib.hid fun v1 w1 r1 m1 => ?_)
 obtain ⟨A1, c1, rfl, -, -⟩ := r1.op
 replace hA := obB m1 hA
 replace hG := obB m1 hG
 replace hS := obB m1 hS
 replace n := n.trans (m1.mono n.size)
 clear m1 hbV a0 a1 a2
 generalize (nameS p).1 = x at *
 generalize (nameS p).2 = q1 at *
 obtain ⟨x0, x1⟩ := x
 have lX : w.heap.size + 2 < w1.heap.size := blt hS
 obtain ⟨o1_, ho1_⟩ : ∃ oO_ : Obj, oO_ = .cells #[.string x0, .int .i64 x1] 27 := ⟨_, rfl⟩
 have hX := heap_alloc_new w1 o1_
 replace hA := obB (alB w1 o1_) hA
 replace hG := obB (alB w1 o1_) hG
 replace hS := obB (alB w1 o1_) hS
 replace n := n.trans ((alB w1 o1_).mono n.size)
 subst ho1_
 obtain ⟨u0, uf0, u1, uf1, u2, uf2⟩ := cf3 hA
 generalize hV1 : w1.alloc (.cells #[.string x0, .int .i64 x1] 27) = V1 at *
 generalize hX0 : w1.heap.size = X at *
 obtain ⟨L1_0, hL1_0⟩ : ∃ L : List (Nat × Value), L = [(0, .slice A1 q1.1.length c1), (1, .int .i64 q1.2.1), (2, .int .i64 q1.2.2)] := ⟨_, rfl⟩
 replace hA := stB_s L1_0 hA
 replace hG := (stB_o (B := w.heap.size) (by omega) L1_0).trans hG
 replace hS := (stB_o (B := w.heap.size) (by omega) L1_0).trans hS
 replace hX := (stB_o (B := w.heap.size) (by omega) L1_0).trans hX
 replace n := stB_n (B := w.heap.size) (by omega) L1_0 n
 obtain ⟨VS1, hVS1⟩ : ∃ W, stB V1 (w.heap.size) L1_0 = W := ⟨_, rfl⟩
 rw [hVS1] at hA hG hS hX n
 subst hL1_0
 simp only [stC, List.setIfInBounds_toArray, List.set_cons_succ, List.set_cons_zero] at hA
 simp only [stB] at hVS1
 go_upto_region 2 with fail
 clear hV1 hX0 u0 uf0 u1 uf1 u2 uf2
 clear hVS1
 generalize VS1 = V2 at *
 have s0 := (Lib.cell_of_heap hX 0).trans rfl
 have s1 := (Lib.cell_of_heap hX 1).trans rfl
 have lD : X < V2.heap.size := blt hX
 obtain ⟨V3, eV, hD, m_, -⟩ := box1 V2 (.cells #[.string x0, .int .i64 x1, .bool false, .slice none 0 0, .int .i64 0, .int .i64 0, .int .i64 0, .int .i64 0, .slice none 0 0, .int .i64 0, .int .i64 0, .int .i64 0, .int .i64 0, .int .i64 0, .slice none 0 0, .slice none 0 0, .string ⟨#[]⟩, .int .i64 0] 92)
 replace eV := Lib.hid eV
 replace hA := obB m_ hA
 replace hG := obB m_ hG
 replace hS := obB m_ hS
 replace hX := obB m_ hX
 replace n := n.trans (m_.mono n.size)
 go_upto_region 3 with (refine wpList_copy #[.string x0, .int .i64 x1, .bool false, .slice none 0 0, .int .i64 0, .int .i64 0, .int .i64 0, .int .i64 0, .slice none 0 0, .int .i64 0, .int .i64 0, .int .i64 0, .int .i64 0, .int .i64 0, .slice none 0 0, .slice none 0 0, .string ⟨#[]⟩, .int .i64 0] ⟨rfl, rfl, rfl⟩ ⟨rfl, rfl, rfl⟩ part_alloc (by kernel_rfl) ⟨rfl, by simp [Value.oneCell']⟩ (fun _ => ⟨rfl, rfl⟩) ?_; go_simp)
 rw [eV.out]
 clear eV m_
 generalize V2.heap.size = D at *
 clear s0 s1
 go_upto_region 6 with fail
 have hbV := hb.trans (n.mono hb.size)
 have gm := gd_may q1 lpar gn.1
 obtain ⟨a0, a1, a2⟩ := cl3 hA
 go_wp2_with fail
 refine may16_calls q1 (.slice A1 q1.1.length c1) w0 _ hbV r1 gn.1 lpar _ (Lib.hid fun v4 w4 r4 m4 => ?_)
 obtain ⟨A4, c4, rfl, -, -⟩ := r4.op
 replace hA := obB m4 hA
 replace hG := obB m4 hG
 replace hS := obB m4 hS
 replace hX := obB m4 hX
 replace hD := obB m4 hD
 replace n := n.trans (m4.mono n.size)
 clear m4 hbV a0 a1 a2
 rw [hm]
 clear hm
 generalize (mayS q1 lpar).1 = q2 at *
 obtain ⟨u0, uf0, u1, uf1, u2, uf2⟩ := cf3 hA
 obtain ⟨L3_0, hL3_0⟩ : ∃ L : List (Nat × Value), L = [(0, .slice A4 q2.1.length c4), (1, .int .i64 q2.2.1), (2, .int .i64 q2.2.2)] := ⟨_, rfl⟩
 replace hA := stB_s L3_0 hA
 replace hG := (stB_o (B := w.heap.size) (by omega) L3_0).trans hG
 replace hS := (stB_o (B := w.heap.size) (by omega) L3_0).trans hS
 replace hX := (stB_o (B := w.heap.size) (by omega) L3_0).trans hX
 replace hD := (stB_o (B := w.heap.size) (by omega) L3_0).trans hD
 replace n := stB_n (B := w.heap.size) (by omega) L3_0 n
 obtain ⟨VS3, hVS3⟩ : ∃ W, stB w4 (w.heap.size) L3_0 = W := ⟨_, rfl⟩
 rw [hVS3] at hA hG hS hX hD n
 subst hL3_0
 simp only [stC, List.setIfInBounds_toArray, List.set_cons_succ, List.set_cons_zero] at hA
 simp only [stB] at hVS3
 go_upto_region 7 with fail
 clear u0 uf0 u1 uf1 u2 uf2
 clear hVS3
 generalize VS3 = V4 at *
 go_upto_region 8 with fail
 have y2 := (Lib.cell_of_heap hD 2).trans rfl
 have yf2 := Lib.frozen_of_heap hD 2
 clear hX
 obtain ⟨L4_0, hL4_0⟩ : ∃ L : List (Nat × Value), L = [(2, .bool true)] := ⟨_, rfl⟩
 replace hA := (stB_o (B := D) (by omega) L4_0).trans hA
 replace hG := (stB_o (B := D) (by omega) L4_0).trans hG
 replace hS := (stB_o (B := D) (by omega) L4_0).trans hS
 replace hD := stB_s L4_0 hD
 replace n := stB_n (B := D) (by omega) L4_0 n
 obtain ⟨VS4, hVS4⟩ : ∃ W, stB V4 D L4_0 = W := ⟨_, rfl⟩
 rw [hVS4] at hA hG hS hD n
 subst hL4_0
 simp only [stC, List.setIfInBounds_toArray, List.set_cons_succ, List.set_cons_zero] at hD
 simp only [stB] at hVS4
 go_upto_region 9 with fail
 clear y2 yf2
 clear hVS4
 generalize VS4 = V5 at *
 have jD := jf (p := w.heap.size + 1) (q := w.heap.size + 2) hD (by omega) (by omega)
 have jA := jf (p := w.heap.size + 1) (q := w.heap.size + 2) hA (by omega) (by omega)
 refine wp_region_mixG (w.heap.size + 1) (w.heap.size + 2) [([0, 1], 2), ([], 3)] [] (by kernel_rfl) (by kernel_rfl) (by kernel_rfl) (by kernel_rfl) (fun _ _ d _ _ h => by cases d <;> exact h) ?_
 have gW : Below V5.heap.size V5 (V5.drewN 1) := ⟨rfl, rfl, rfl, Nat.le_refl _, fun _ _ => rfl⟩
 replace hG := obB gW hG
 replace hS := obB gW hS
 replace n := n.trans (gW.mono n.size)
 refine mix_cons (os := [_, _]) (by simp only [pickO, List.filterMap_cons, List.filterMap_nil, List.getElem?_toArray, List.getElem?_cons_succ, List.getElem?_cons_zero]; rfl) (fun Kp hKp => ?_)
 refine wpQuiet_load rfl 92 _ rfl (D) 0 rfl _ _ jD Tryz.underlying92 rfl (by kernel_rfl) ?_
 go_simp
 refine wpQuiet_load rfl 142 _ rfl (w.heap.size) 0 rfl _ _ jA Tryz.underlying142 rfl (by kernel_rfl) ?_
 go_simp
 refine wpQuiet_nil ?_
 refine hKp _ ?_
 clear hKp
 have hv : prR (nB (x0, x1), zTH, Fo.nil) (.slice none 0 0) (.slice none 0 0) (.slice none 0 0) (.slice none 0 0) = .agg #[.string x0, .int .i64 x1, .bool true, .slice none 0 0, .int .i64 0, .int .i64 0, .int .i64 0, .int .i64 0, .slice none 0 0, .int .i64 0, .int .i64 0, .int .i64 0, .int .i64 0, .int .i64 0, .slice none 0 0, .slice none 0 0, .string ⟨#[]⟩, .int .i64 0] := rfl
 refine loud (by rfl) (by kernel_rfl) (fun K2 hK2 => ?_)
 obtain ⟨LV, hLV⟩ : ∃ L : List Value, L = [.string x0, .int .i64 x1, .bool true, .slice none 0 0, .int .i64 0, .int .i64 0, .int .i64 0, .int .i64 0, .slice none 0 0, .int .i64 0, .int .i64 0, .int .i64 0, .int .i64 0, .int .i64 0, .slice none 0 0, .slice none 0 0, .string ⟨#[]⟩, .int .i64 0] := ⟨_, rfl⟩
 obtain ⟨ht_, gp_, hq_, n_, xx⟩ := sc_all LV hG (by rw [hLV]; rfl) (GW.bl gW) (by omega) hS (by omega) n
 refine wp_store_mid 92 _ _ (by rfl) (w.heap.size + 1) 0 LV.toArray (by rfl) (by rw [hLV]; rfl) ht_ (by rw [hLV]; kernel_rfl) (by rw [hLV]; simp [Value.oneCell']) ?_
 rw [show LV.toArray.toList = LV from rfl]
 refine hK2 _ _ gp_ ?_
 clear hK2 ht_
 generalize (V5.drewN 1).setCells (w.heap.size + 1) 0 LV = W8 at *
 refine mix_cons (os := []) (by rfl) (fun Kp hKp => ?_)
 refine wpQuiet_nil ?_
 refine hKp _ ?_
 clear hKp
 refine loud (by rfl) (by kernel_rfl) (fun K3 hK3 => ?_)
 obtain ⟨z0, zf0, z1, zf1, z2, zf2⟩ := cf3 hq_
 obtain ⟨gq_, n9, xx⟩ := st3 gp_ (by omega) (by omega) n_ xx (.slice A4 q2.1.length c4) (.int .i64 q2.2.1) (.int .i64 q2.2.2)
 go_simp
 refine hK3 _ _ gq_ ?_
 clear hK3
 refine mix_nil (os := []) (by rfl) (fun Kp hKp => ?_)
 refine wpQuiet_nil ?_
 refine hKp _ ?_
 clear hKp
 have fin := hR.out (.slice none 0 0) (.slice none 0 0) (.slice none 0 0) (.slice none 0 0) _ _ ⟨rdw_none _, rdw_none _, ⟨rdw_none _, RdSl.nil _ none 0⟩⟩ r4 n9
 rw [hv] at fin
 replace fin := Lib.hid fin
 clear hR hv
 clear gp_ gq_
 subst hLV
 go_wp2_with fail
 refine bodyPost_ret ?_ rfl fin.out
 simp [results, Tryz.results244, go_sem, xx.out 0 _ rfl, xx.out 1 _ rfl, xx.out 2 _ rfl, xx.out 3 _ rfl, xx.out 4 _ rfl, xx.out 5 _ rfl, xx.out 6 _ rfl, xx.out 7 _ rfl, xx.out 8 _ rfl, xx.out 9 _ rfl, xx.out 10 _ rfl, xx.out 11 _ rfl, xx.out 12 _ rfl, xx.out 13 _ rfl, xx.out 14 _ rfl, xx.out 15 _ rfl, xx.out 16 _ rfl, xx.out 17 _ rfl, z0, z1, z2]
end Go.Proofs.YtncijmodlhijoaaGreat.Syn
