import Derived.Test.YtncijmodlhijoaaGreatQ18
set_option linter.unusedVariables false
set_option maxRecDepth 100000
set_option maxHeartbeats 4000000
namespace Go.Proofs.YtncijmodlhijoaaGreat.Syn
open Go.RowKit Go.Lib Utf Tok Cur Nam Lat Kin
theorem partsE16_calls (k : Nat) (hk : KindQ k) (tag : Bool) (p : PS) (v : Value) (w0 w : World) (hb : Below w0.heap.size w0 w) (hx : RdK w0 v p.1) (ok : Ok p) (hl : p.1.length ≤ 1000000) (hm : (mayS (markS p lbrace) rbrace).2 = true) (htag : tag = false) (R : Ending → World → Prop)
  (hR : Hid (∀ lv v' w', RdP (empW (lowS w.heap.size) w') lv (ofL (partsP (kindR k) tag p).1) → RdK w0 v' (partsP (kindR k) tag p).2.1 → Ok (partsP (kindR k) tag p).2 → Below w.heap.size w w' → R (.returned (.tuple #[lv, psV v' (partsP (kindR k) tag p).2])) w')) : Calls Tryz.prog 147 #[psV v p, .bool tag, .int .i64 (24 - (k : Int))] w R := by
 obtain ⟨ti, hI, hZ⟩ : ∃ i0, Tryz.prog.info? 92 = some i0 ∧ (i0.zero, i0.size, i0.bytes) = (some (.agg #[.string ⟨#[]⟩, .int .i64 0, .bool false, .slice none 0 0, .int .i64 0, .int .i64 0, .int .i64 0, .int .i64 0, .slice none 0 0, .int .i64 0, .int .i64 0, .int .i64 0, .int .i64 0, .int .i64 0, .slice none 0 0, .slice none 0 0, .string ⟨#[]⟩, .int .i64 0]), 18, 224) := by
  have := prInfoR
  cases h : Tryz.prog.info? 92 with
  | none => rw [h] at this; cases this
  | some i0 => rw [h] at this; exact ⟨i0, rfl, by simpa using this⟩
 simp only [Prod.mk.injEq] at hZ
 obtain ⟨hz0, hz1, hz2⟩ := hZ
 have okL := (gd_partsP (gd_kindR k) tag p ok).1
 have hq : partsP (kindR k) tag p = if (mayS (markS p lbrace) rbrace).2 = true ∧ tag = false then ([], (mayS (markS p lbrace) rbrace).1) else loopR (partR (kindR k) tag) rbrace ((markS p lbrace).1.length + 1) [] (markS p lbrace) := rfl
 obtain ⟨A, cp, rfl, hlc, -⟩ := hx.op
 obtain ⟨V, eV, hA, hY, n, -, zz1⟩ := box2 w (.cells #[.slice A p.1.length cp, .int .i64 p.2.1, .int .i64 p.2.2] 142) (.cells #[.slice none 0 0, .int .i64 0, .int .i64 0] 142)
 replace eV := Lib.hid eV
 go_enter Tryz.func147, Tryz.ntmps147
 go_upto_region 1 with fail
 rw [eV.out]
 clear eV zz1
 have hbV := hb.trans (n.mono hb.size)
 have gm := gd_mark p lbrace ok
 obtain ⟨a0, a1, a2⟩ := cl3 hA
 go_wp2_with fail
 refine mark16_calls p (.slice A p.1.length cp) w0 _ hbV hx ok lbrace _ (Lib.hid fun v1 w1 r1 m1 => ?_)
 obtain ⟨A1, c1, rfl, -, -⟩ := r1.op
 replace hA := obB m1 hA
 replace hY := obB m1 hY
 replace n := n.trans (m1.mono n.size)
 clear m1 hbV a0 a1 a2
 generalize markS p lbrace = p1 at *
 obtain ⟨u0, uf0, u1, uf1, u2, uf2⟩ := cf3 hA
 obtain ⟨L1_0, hL1_0⟩ : ∃ L : List (Nat × Value), L = [(0, .slice A1 p1.1.length c1), (1, .int .i64 p1.2.1), (2, .int .i64 p1.2.2)] := ⟨_, rfl⟩
 replace hA := stB_s L1_0 hA
 replace hY := (stB_o (B := w.heap.size) (by omega) L1_0).trans hY
 replace n := stB_n (B := w.heap.size) (by omega) L1_0 n
 obtain ⟨VS1, hVS1⟩ : ∃ W, stB w1 (w.heap.size) L1_0 = W := ⟨_, rfl⟩
 rw [hVS1] at hA hY n
 subst hL1_0
 simp only [stC, List.setIfInBounds_toArray, List.set_cons_succ, List.set_cons_zero] at hA
 simp only [stB] at hVS1
 go_upto_region 2 with fail
 clear u0 uf0 u1 uf1 u2 uf2
 clear hVS1
 generalize VS1 = V1 at *
 have hbV := hb.trans (n.mono hb.size)
 obtain ⟨a0, a1, a2⟩ := cl3 hA
 go_wp2_with fail
 refine may16_calls p1 (.slice A1 p1.1.length c1) w0 _ hbV r1 gm.1 rbrace _ (Lib.hid fun v2 w2 r2 m2 => ?_)
 obtain ⟨A2, c2, rfl, -, -⟩ := r2.op
 replace hA := obB m2 hA
 replace hY := obB m2 hY
 replace n := n.trans (m2.mono n.size)
 clear m2 hbV a0 a1 a2
 have lB : w.heap.size + 1 < w2.heap.size := blt hY
 generalize hp2 : (mayS p1 rbrace).1 = p2 at *
 obtain ⟨V2, eV, hB, m_, -⟩ := box1 w2 (.cells #[.slice A2 p2.1.length c2, .int .i64 p2.2.1, .int .i64 p2.2.2] 142)
 replace eV := Lib.hid eV
 replace hA := obB m_ hA
 replace hY := obB m_ hY
 replace n := n.trans (m_.mono n.size)
 go_upto_region 3 with fail
 rw [eV.out]
 clear eV m_
 generalize w2.heap.size = B at *
 subst htag
 rw [if_pos ⟨hm, rfl⟩] at hq
 rw [hq] at hR okL
 clear hq hm hp2
 go_upto_region 4 with fail
 have jB := jf (p := w.heap.size + 1) (q := w.heap.size + 1) hB (by omega) (by omega)
 refine wp_region_mixG (w.heap.size + 1) (w.heap.size + 1) [([0, 1], 2)] [] (by kernel_rfl) (by kernel_rfl) (by kernel_rfl) (by kernel_rfl) (fun _ _ d _ _ h => by cases d <;> exact h) ?_
 have gW : Below V2.heap.size V2 (V2.drewN 1) := ⟨rfl, rfl, rfl, Nat.le_refl _, fun _ _ => rfl⟩
 refine mix_cons (os := [_, _]) (by simp only [pickO, List.filterMap_cons, List.filterMap_nil, List.getElem?_toArray, List.getElem?_cons_succ, List.getElem?_cons_zero]; rfl) (fun Kp hKp => ?_)
 refine wpQuiet_load rfl 142 _ rfl (B) 0 rfl _ _ jB Tryz.underlying142 rfl (by kernel_rfl) ?_
 go_simp
 go_big_quiet_step (exact rfl)
 refine wpQuiet_nil ?_
 refine hKp _ ?_
 clear hKp
 replace hY := obB gW hY
 replace n := n.trans (gW.mono n.size)
 refine loud (by rfl) (by kernel_rfl) (fun K2 hK2 => ?_)
 obtain ⟨y0, yf0, y1, yf1, y2, yf2⟩ := cf3 hY
 go_simp
 refine hK2 _ _ (GW.set (GW.set (GW.set (GW.bl gW) _) _) _) ?_
 clear hK2
 refine mix_nil (os := []) (by rfl) (fun Kp hKp => ?_)
 refine wpQuiet_nil ?_
 refine hKp _ ?_
 clear hKp
 have fin := Lib.hid (hR.out _ (.slice A2 p2.1.length c2) _ (RdSl.nil _ none 0) r2 okL (set3p (q := w.heap.size + 1) (by omega) n (.slice A2 p2.1.length c2) (.int .i64 p2.2.1) (.int .i64 p2.2.2)))
 clear hR
 go_wp2_with fail
 refine bodyPost_ret ?_ rfl fin.out
 simp [results, Tryz.results147, go_sem, y0, y1, y2]
theorem partsA16_calls (k : Nat) (hk : KindQ k) (tag : Bool) (p : PS) (v : Value) (w0 w : World) (hb : Below w0.heap.size w0 w) (hx : RdK w0 v p.1) (ok : Ok p) (hl : p.1.length ≤ 1000000) (hm : (mayS (markS p lbrace) rbrace).2 = false) (R : Ending → World → Prop)
  (hR : Hid (∀ lv v' w', RdP (empW (lowS w.heap.size) w') lv (ofL (partsP (kindR k) tag p).1) → RdK w0 v' (partsP (kindR k) tag p).2.1 → Ok (partsP (kindR k) tag p).2 → Below w.heap.size w w' → R (.returned (.tuple #[lv, psV v' (partsP (kindR k) tag p).2])) w')) : Calls Tryz.prog 147 #[psV v p, .bool tag, .int .i64 (24 - (k : Int))] w R := by
 obtain ⟨ti, hI, hZ⟩ : ∃ i0, Tryz.prog.info? 92 = some i0 ∧ (i0.zero, i0.size, i0.bytes) = (some (.agg #[.string ⟨#[]⟩, .int .i64 0, .bool false, .slice none 0 0, .int .i64 0, .int .i64 0, .int .i64 0, .int .i64 0, .slice none 0 0, .int .i64 0, .int .i64 0, .int .i64 0, .int .i64 0, .int .i64 0, .slice none 0 0, .slice none 0 0, .string ⟨#[]⟩, .int .i64 0]), 18, 224) := by
  have := prInfoR
  cases h : Tryz.prog.info? 92 with
  | none => rw [h] at this; cases this
  | some i0 => rw [h] at this; exact ⟨i0, rfl, by simpa using this⟩
 simp only [Prod.mk.injEq] at hZ
 obtain ⟨hz0, hz1, hz2⟩ := hZ
 have okL := (gd_partsP (gd_kindR k) tag p ok).1
 have hq : partsP (kindR k) tag p = if (mayS (markS p lbrace) rbrace).2 = true ∧ tag = false then ([], (mayS (markS p lbrace) rbrace).1) else loopR (partR (kindR k) tag) rbrace ((markS p lbrace).1.length + 1) [] (markS p lbrace) := rfl
 obtain ⟨A, cp, rfl, hlc, -⟩ := hx.op
 obtain ⟨V, eV, hA, hY, n, -, zz1⟩ := box2 w (.cells #[.slice A p.1.length cp, .int .i64 p.2.1, .int .i64 p.2.2] 142) (.cells #[.slice none 0 0, .int .i64 0, .int .i64 0] 142)
 replace eV := Lib.hid eV
 go_enter Tryz.func147, Tryz.ntmps147
 go_upto_region 1 with fail
 rw [eV.out]
 clear eV zz1
 have hbV := hb.trans (n.mono hb.size)
 have gm := gd_mark p lbrace ok
 obtain ⟨a0, a1, a2⟩ := cl3 hA
 go_wp2_with fail
 refine mark16_calls p (.slice A p.1.length cp) w0 _ hbV hx ok lbrace _ (Lib.hid fun v1 w1 r1 m1 => ?_)
 obtain ⟨A1, c1, rfl, -, -⟩ := r1.op
 replace hA := obB m1 hA
 replace hY := obB m1 hY
 replace n := n.trans (m1.mono n.size)
 clear m1 hbV a0 a1 a2
 generalize markS p lbrace = p1 at *
 obtain ⟨u0, uf0, u1, uf1, u2, uf2⟩ := cf3 hA
 obtain ⟨L2_0, hL2_0⟩ : ∃ L : List (Nat × Value), L = [(0, .slice A1 p1.1.length c1), (1, .int .i64 p1.2.1), (2, .int .i64 p1.2.2)] := ⟨_, rfl⟩
 replace hA := stB_s L2_0 hA
 replace hY := (stB_o (B := w.heap.size) (by omega) L2_0).trans hY
 replace n := stB_n (B := w.heap.size) (by omega) L2_0 n
 obtain ⟨VS2, hVS2⟩ : ∃ W, stB w1 (w.heap.size) L2_0 = W := ⟨_, rfl⟩
 rw [hVS2] at hA hY n
 subst hL2_0
 simp only [stC, List.setIfInBounds_toArray, List.set_cons_succ, List.set_cons_zero] at hA
 simp only [stB] at hVS2
 go_upto_region 2 with fail
 clear u0 uf0 u1 uf1 u2 uf2
 clear hVS2
 generalize VS2 = V1 at *
 have hbV := hb.trans (n.mono hb.size)
 obtain ⟨a0, a1, a2⟩ := cl3 hA
 go_wp2_with fail
 refine may16_calls p1 (.slice A1 p1.1.length c1) w0 _ hbV r1 gm.1 rbrace _ (Lib.hid fun v2 w2 r2 m2 => ?_)
 obtain ⟨A2, c2, rfl, -, -⟩ := r2.op
 replace hA := obB m2 hA
 replace hY := obB m2 hY
 replace n := n.trans (m2.mono n.size)
 clear m2 hbV a0 a1 a2
 have lB : w.heap.size + 1 < w2.heap.size := blt hY
 generalize hp2 : (mayS p1 rbrace).1 = p2 at *
 obtain ⟨V2, eV, hB, m_, -⟩ := box1 w2 (.cells #[.slice A2 p2.1.length c2, .int .i64 p2.2.1, .int .i64 p2.2.2] 142)
 replace eV := Lib.hid eV
 replace hA := obB m_ hA
 replace hY := obB m_ hY
 replace n := n.trans (m_.mono n.size)
 go_upto_region 3 with fail
 rw [eV.out]
 clear eV m_
 generalize w2.heap.size = B at *
 rw [if_neg (fun e => by rw [hm] at e; exact absurd e.1 (by decide))] at hq
 rw [hq] at hR okL
 clear hq hp2 r2
 obtain ⟨tg, htg⟩ : ∃ tg, tg = tag := ⟨_, rfl⟩
 rw [← htg] at hR okL
 replace htg := Lib.hid htg
 have cP : Hid (∀ b, b = tg → ∀ (q : PS) (vq : Value) (W : World), Below w0.heap.size w0 W → RdK w0 vq q.1 → Ok q → q.1.length ≤ 1000000 → ∀ R : Ending → World → Prop, Hid (∀ lv cv nv pv v' w', RdR (empW (lowS W.heap.size) w') (partR (kindR k) tg q).1 lv cv nv pv → RdK w0 v' (partR (kindR k) tg q).2.1 → Below W.heap.size W w' → R (.returned (.tuple #[prR (partR (kindR k) tg q).1 lv cv nv pv, psV v' (partR (kindR k) tg q).2])) w') → Calls Tryz.prog 244 #[psV vq q, .bool b, .int .i64 (24 - (k : Int))] W R) := Lib.hid (by rintro _ rfl; exact fun q vq W h1 h2 h3 h4 R hR => part16_calls k hk _ q vq w0 W h1 h2 h3 h4 R hR)
 clear hm
 have lp1 : p1.1.length ≤ 1000000 := by have := gm.2; omega
 have okq := gm.1
 go_upto_region 6 with fail
 clear hB
 go_loopg [10] (mesS p1) (fun gk lv wr => ∃ (acc : List Pt) (q : PS) (n0 : Nat) (lv' vq : Value) (xs : List Value), lv' = lv ∧ gk = mesS q ∧ (q.2.1 = 0 → acc.length + q.1.length ≤ p1.1.length ∧ q.1.length < n0) ∧ Hid (loopR (partR (kindR k) tg) rbrace (p1.1.length + 1) [] p1 = loopR (partR (kindR k) tg) rbrace n0 acc q) ∧ Ok q ∧ Hid (RdK w0 vq q.1) ∧ Hid (wr.heap[w.heap.size]? = some (.cells #[vq, .int .i64 q.2.1, .int .i64 q.2.2] 142)) ∧ Hid (wr.heap[w.heap.size + 1]? = some (.cells #[.slice none 0 0, .int .i64 0, .int .i64 0] 142)) ∧ Hid (Below w.heap.size w wr) ∧ Hid (wr.ownsRow (w.heap.size + 2) 92 18 lv' acc.length xs) ∧ Hid (RdsR (empW (rowS (w.heap.size + 2) lv') wr) xs (ofL acc)))
 case atStart => exact ⟨[], p1, p1.1.length + 1, _, _, [], rfl, rfl, fun _ => ⟨by simp, by omega⟩, Lib.hid rfl, okq, Lib.hid r1, Lib.hid hA, Lib.hid hY, Lib.hid n, Lib.hid (World.ownsRow_nil _ _ _ _), Lib.hid rfl⟩
 case round =>
  clear n hA hY r1 okq gm ok hx
  obtain ⟨acc, q, n0, lv, vq, xs, rfl, rfl, e1, e3, okq, hx, hA, hY, n, own, rds⟩ := hrel
  replace hA := hA.out
  replace hY := hY.out
  replace n := n.out
  replace own := own.out
  replace hx := hx.out
  replace e3 := e3.out
  replace rds := rds.out
  obtain ⟨A1, c1, rfl, -, -⟩ := hx.op
  obtain ⟨a0, a1, a2⟩ := cl3 hA
  go_wp2_with fail
  refine fine16_calls (.slice A1 q.1.length c1) q ⟨_, _, _, rfl⟩ _ _ (Lib.hid fun w1 m1 => ?_)
  replace hA := obB m1 hA
  replace hY := obB m1 hY
  replace rds := rds.kp (kp_rowbl m1)
  replace own := ownBl own m1
  replace n := n.trans (m1.mono n.size)
  clear m1 a0 a1 a2
  by_cases hf : q.2.1 = 0
  ·rw [decide_eq_true hf]
   obtain ⟨e1, e2⟩ := e1 hf
   obtain ⟨n1, rfl⟩ : ∃ n1, n0 = n1 + 1 := ⟨n0 - 1, by omega⟩
   rw [loop_step hf] at e3
   have mq : mesS q = q.1.length + 1 := if_pos hf
   clear hf
   have hbV := hb.trans (n.mono hb.size)
   have gn := gd_partR (gd_kindR k) tg q okq
   have hs1 : w.heap.size + 2 ≤ w1.heap.size := by have := blt hY; omega
   obtain ⟨a0, a1, a2⟩ := cl3 hA
   go_wp2_with fail
   refine cP.out _ htg.out.symm q (.slice A1 q.1.length c1) _ hbV hx okq (by omega) _ (Lib.hid fun lbv clv nav pav v2 w2 rd2 r2 m2 => ?_)
   obtain ⟨A2, c2, rfl, -, -⟩ := r2.op
   have hlt := fun b hb => (own.lt b hb).2
   replace hA := obB m2 hA
   replace hY := obB m2 hY
   replace rds := rds.kp (kp_rowbl m2)
   replace own := ownBl own m2
   replace n := n.trans (m2.mono n.size)
   clear m2 hx a0 a1 a2 hbV
   generalize (partR (kindR k) tg q).1 = y at *
   generalize (partR (kindR k) tg q).2 = q2 at *
   obtain ⟨L1, d1, rfl, -, -⟩ := rd2.l.op
   obtain ⟨L2, d2, rfl, -, -⟩ := rd2.c.op
   obtain ⟨L3, d3, rfl, -, -⟩ := rd2.t.n.op
   obtain ⟨L4, d4, rfl, -⟩ := rd2.t.p.sl
   have lw2 : w.heap.size + 1 < w2.heap.size := blt hY
   have lo : ∀ b, lv.ownBlock = some b → b < w2.heap.size := fun b hb => (own.lt b hb).2
   have lo2 : ∀ b, lv.ownBlock = some b → w.heap.size + 2 ≤ b := fun b hb => (own.lt b hb).1
   obtain ⟨o1_, ho1_⟩ : ∃ oO_ : Obj, oO_ = .cells #[.string y.1.name, .int .i64 y.1.at_, .bool y.1.bare, .slice L1 y.1.label.length d1, .int .i64 y.1.wide, .int .i64 y.1.ck, .int .i64 y.1.cn, .int .i64 y.1.cat, .slice L2 y.1.cl.length d2, .int .i64 y.2.1.kind, .int .i64 y.2.1.at_, .int .i64 y.2.1.lo, .int .i64 y.2.1.hi, .int .i64 y.2.1.most, .slice L3 y.2.1.names.length d3, .slice L4 y.2.2.len d4, .string y.2.1.name, .int .i64 y.2.1.nat] 92 := ⟨_, rfl⟩
   have hX := heap_alloc_new w2 o1_
   have z2 : (w2.alloc o1_).heap.size = w2.heap.size + 1 := by simp
   have m3 := alB w2 o1_
   obtain ⟨o2_, ho2_⟩ : ∃ oO_ : Obj, oO_ = .cells #[.slice A2 q2.1.length c2, .int .i64 q2.2.1, .int .i64 q2.2.2] 142 := ⟨_, rfl⟩
   have hP := heap_alloc_new (w2.alloc o1_) o2_
   subst ho1_
   rw [z2] at hP
   replace hX := obB (alB _ o2_) hX
   replace m3 := m3.alloc m3.size o2_
   subst ho2_
   replace hA := obB m3 hA
   replace hY := obB m3 hY
   replace own := ownBl own m3
   replace rds := rds.kp (kp_rowbl m3)
   replace n := n.trans (m3.mono n.size)
   replace rd2 := rd2.kp (emp_bl (Nat.le_refl _) m3)
   clear m3 z2
   go_upto_region 8 with fail
   generalize (w2.alloc (.cells #[.string y.1.name, .int .i64 y.1.at_, .bool y.1.bare, .slice L1 y.1.label.length d1, .int .i64 y.1.wide, .int .i64 y.1.ck, .int .i64 y.1.cn, .int .i64 y.1.cat, .slice L2 y.1.cl.length d2, .int .i64 y.2.1.kind, .int .i64 y.2.1.at_, .int .i64 y.2.1.lo, .int .i64 y.2.1.hi, .int .i64 y.2.1.most, .slice L3 y.2.1.names.length d3, .slice L4 y.2.2.len d4, .string y.2.1.name, .int .i64 y.2.1.nat] 92)).alloc (.cells #[.slice A2 q2.1.length c2, .int .i64 q2.2.1, .int .i64 q2.2.2] 142) = V3 at *
   generalize w2.heap.size = X at *
   have rX : V3.rangeAt X 0 [.string y.1.name, .int .i64 y.1.at_, .bool y.1.bare, .slice L1 y.1.label.length d1, .int .i64 y.1.wide, .int .i64 y.1.ck, .int .i64 y.1.cn, .int .i64 y.1.cat, .slice L2 y.1.cl.length d2, .int .i64 y.2.1.kind, .int .i64 y.2.1.at_, .int .i64 y.2.1.lo, .int .i64 y.2.1.hi, .int .i64 y.2.1.most, .slice L3 y.2.1.names.length d3, .slice L4 y.2.2.len d4, .string y.2.1.name, .int .i64 y.2.1.nat] := fun j v e => by rw [Nat.zero_add, Lib.cell_of_heap hX]; simpa using e
   have own2 := Lib.hid own
   have hsz : w.heap.size + 2 ≤ V3.heap.size := by have := blt hP; omega
   have lacc : acc.length ≤ 1000000 := by omega
   go_upto_region 9 with (first | (refine wpList_load_g (by rfl) 92 _ rfl X 0 rfl [.string y.1.name, .int .i64 y.1.at_, .bool y.1.bare, .slice L1 y.1.label.length d1, .int .i64 y.1.wide, .int .i64 y.1.ck, .int .i64 y.1.cn, .int .i64 y.1.cat, .slice L2 y.1.cl.length d2, .int .i64 y.2.1.kind, .int .i64 y.2.1.at_, .int .i64 y.2.1.lo, .int .i64 y.2.1.hi, .int .i64 y.2.1.most, .slice L3 y.2.1.names.length d3, .slice L4 y.2.2.len d4, .string y.2.1.name, .int .i64 y.2.1.nat] _ rX Tryz.underlying92 rfl (by kernel_rfl) ?_; go_simp) | (at_builtin; go_loud (refine appKF V3 #[.string y.1.name, .int .i64 y.1.at_, .bool y.1.bare, .slice L1 y.1.label.length d1, .int .i64 y.1.wide, .int .i64 y.1.ck, .int .i64 y.1.cn, .int .i64 y.1.cat, .slice L2 y.1.cl.length d2, .int .i64 y.2.1.kind, .int .i64 y.2.1.at_, .int .i64 y.2.1.lo, .int .i64 y.2.1.hi, .int .i64 y.2.1.most, .slice L3 y.2.1.names.length d3, .slice L4 y.2.2.len d4, .string y.2.1.name, .int .i64 y.2.1.nat] 18 92 rfl _ _ 25 rfl (w.heap.size + 2) ti (.agg #[.string ⟨#[]⟩, .int .i64 0, .bool false, .slice none 0 0, .int .i64 0, .int .i64 0, .int .i64 0, .int .i64 0, .slice none 0 0, .int .i64 0, .int .i64 0, .int .i64 0, .int .i64 0, .int .i64 0, .slice none 0 0, .slice none 0 0, .string ⟨#[]⟩, .int .i64 0]) 224 Tryz.underlying25 hI hz0 hz1 hz2 rfl (by decide) rfl _ acc.length xs rfl own2.out _ rfl rfl (by simp [Value.oneCell']) (by unfold maxLen; omega) (by omega) hsz ?_); rintro lv4 w4 hown4 hg4 hb4 hfr))
   have kab := rowNewR (b0 := w1.heap.size) own hg4 hfr hs1
   have rdA := RdsR.snoc (rds.kp kab.1) (rd2.kp (kab.2 hlt))
   replace hA := obApp own hg4 hA (by omega)
   replace hY := obApp own hg4 hY (by omega)
   have hP4 := (hg4.block (X + 1) (blt hP) (fun q => by have := lo (X + 1) q.symm; omega)).trans hP
   have n4 := n.trans (show Below w.heap.size V3 w4 from ⟨hg4.os, hg4.tape, hg4.output, hg4.size, fun k hk => hg4.block k (by have := n.size; omega) (fun q => by have := lo2 k q.symm; omega)⟩)
   have own4 : w4.ownsRow (w.heap.size + 2) 92 18 lv4 (acc ++ [y]).length (xs ++ prX y (.slice L1 y.1.label.length d1) (.slice L2 y.1.cl.length d2) (.slice L3 y.2.1.names.length d3) (.slice L4 y.2.2.len d4)) := by rw [List.length_append]; exact hown4
   clear own own2 hX hP n hg4 hb4 hown4 lo lo2 hsz rX rds rd2 kab hlt hfr cP
   generalize xs ++ prX y (.slice L1 y.1.label.length d1) (.slice L2 y.1.cl.length d2) (.slice L3 y.2.1.names.length d3) (.slice L4 y.2.2.len d4) = ys at *
   obtain ⟨a0, a1, a2⟩ := cl3 hP4
   have hbV := hb.trans (n4.mono hb.size)
   have ok2 := gn.1
   go_wp2_with fail
   refine may16_calls q2 (.slice A2 q2.1.length c2) w0 _ hbV r2 ok2 rbrace _ (Lib.hid fun v5 w5 r5 m5 => ?_)
   obtain ⟨A5, c5, rfl, -, -⟩ := r5.op
   replace hA := obB m5 hA
   replace hY := obB m5 hY
   replace hP4 := obB m5 hP4
   replace rdA := rdA.kp (kp_rowbl m5)
   replace own4 := ownBl own4 m5
   replace n4 := n4.trans (m5.mono n4.size)
   clear m5 a0 a1 a2 hbV
   have lw5 : w.heap.size + 1 < w5.heap.size := blt hY
   generalize (mayS q2 rbrace).1 = q3 at *
   have hQ := heap_alloc_new w5 (.cells #[.slice A5 q3.1.length c5, .int .i64 q3.2.1, .int .i64 q3.2.2] 142)
   have m6 := alB w5 (.cells #[.slice A5 q3.1.length c5, .int .i64 q3.2.1, .int .i64 q3.2.2] 142)
   replace hA := obB m6 hA
   replace hY := obB m6 hY
   replace hP4 := obB m6 hP4
   replace rdA := rdA.kp (kp_rowbl m6)
   replace own4 := ownBl own4 m6
   replace n4 := n4.trans (m6.mono n4.size)
   clear m6
   go_upto_region 10 with fail
   generalize w5.alloc (.cells #[.slice A5 q3.1.length c5, .int .i64 q3.2.1, .int .i64 q3.2.2] 142) = V6 at *
   generalize w5.heap.size = Q at *
   cases hm : (mayS q2 rbrace).2
   ·rw [hm, if_neg (by decide)] at e3
    clear hm r5 hQ
    have hbV := hb.trans (n4.mono hb.size)
    have gm := gd_mark q2 comma ok2
    have mf := fun h => mark_fine (m := comma) ok2 h
    go_upto_region 12 with fail
    obtain ⟨a0, a1, a2⟩ := cl3 hP4
    go_wp2_with fail
    refine mark16_calls q2 (.slice A2 q2.1.length c2) w0 _ hbV r2 ok2 comma _ (Lib.hid fun v7 w7 r7 m7 => ?_)
    obtain ⟨A7, c7, rfl, -, -⟩ := r7.op
    replace hA := obB m7 hA
    replace hY := obB m7 hY
    replace rdA := rdA.kp (kp_rowbl m7)
    replace own4 := ownBl own4 m7
    replace n4 := n4.trans (m7.mono n4.size)
    clear m7 a0 a1 a2 hbV
    generalize markS q2 comma = q5 at *
    obtain ⟨a0, af0, a1, af1, a2, af2⟩ := cf3 hA
    have hA7 := satR (satR (satR hA 0 (.slice A7 q5.1.length c7)) 1 (.int .i64 q5.2.1)) 2 (.int .i64 q5.2.2)
    simp only [List.setIfInBounds_toArray, List.set_cons_succ, List.set_cons_zero] at hA7
    have hY7 := (sneR (w := (w7.setCell ⟨w.heap.size, 0, none⟩ (.slice A7 q5.1.length c7)).setCell ⟨w.heap.size, 1, none⟩ (.int .i64 q5.2.1)) (q := w.heap.size) (o := 2) (v := .int .i64 q5.2.2) (show w.heap.size + 1 ≠ w.heap.size by omega)).trans ((sneR (w := w7.setCell ⟨w.heap.size, 0, none⟩ (.slice A7 q5.1.length c7)) (q := w.heap.size) (o := 1) (v := .int .i64 q5.2.1) (show w.heap.size + 1 ≠ w.heap.size by omega)).trans ((sneR (w := w7) (q := w.heap.size) (o := 0) (v := .slice A7 q5.1.length c7) (show w.heap.size + 1 ≠ w.heap.size by omega)).trans hY))
    have own7 := ownSet (o := 2) (u := .int .i64 q5.2.2) (ownSet (o := 1) (u := .int .i64 q5.2.1) (ownSet (o := 0) (u := .slice A7 q5.1.length c7) own4 (show w.heap.size < w.heap.size + 2 by omega)) (show w.heap.size < w.heap.size + 2 by omega)) (show w.heap.size < w.heap.size + 2 by omega)
    have rd7 := ((rdA.kp (kp_rowset (B := w.heap.size) (o := 0) (u := .slice A7 q5.1.length c7) (by omega))).kp (kp_rowset (B := w.heap.size) (o := 1) (u := .int .i64 q5.2.1) (by omega))).kp (kp_rowset (B := w.heap.size) (o := 2) (u := .int .i64 q5.2.2) (by omega))
    have n7 := set3p (q := w.heap.size) (Nat.le_refl _) n4 (.slice A7 q5.1.length c7) (.int .i64 q5.2.1) (.int .i64 q5.2.2)
    replace hA7 := Lib.hid hA7
    replace hY7 := Lib.hid hY7
    replace own7 := Lib.hid own7
    replace rd7 := Lib.hid rd7
    replace n7 := Lib.hid n7
    replace e3 := Lib.hid e3
    replace r7 := Lib.hid r7
    have l7 : (acc ++ [y]).length = acc.length + 1 := by simp
    have ms : mesS q5 < mesS q := by
     rw [mq]
     unfold mesS
     have g1 := gn.2
     by_cases h0 : q5.2.1 = 0
     ·have := mf h0
      rw [if_pos h0]
      omega
     ·rw [if_neg h0]
      omega
    have ef : q5.2.1 = 0 → (acc ++ [y]).length + q5.1.length ≤ p1.1.length ∧ q5.1.length < n1 := fun h0 => by
     have := mf h0
     have g1 := gn.2
     omega
    clear hA hY own4 n4 hR hP4 rdA
    go_wp2_with fail
    go_roundg (mesS q5)
    case measure => omega
    case rel => exact ⟨acc ++ [y], q5, n1, lv4, .slice A7 q5.1.length c7, ys, rfl, rfl, ef, e3, gm.1, r7, hA7, hY7, n7, own7, rd7⟩
   ·rw [hm, if_pos rfl] at e3
    go_upto_region 11 with fail
    have jQ := jf (p := w.heap.size + 1) (q := w.heap.size + 1) hQ (by omega) (by omega)
    refine wp_region_mixG (w.heap.size + 1) (w.heap.size + 1) [([0, 1, 2], 3)] [] (by kernel_rfl) (by kernel_rfl) (by kernel_rfl) (by kernel_rfl) (fun _ _ d _ _ h => by cases d <;> exact h) ?_
    have gW : Below V6.heap.size V6 (V6.drewN 1) := ⟨rfl, rfl, rfl, Nat.le_refl _, fun _ _ => rfl⟩
    refine mix_cons (os := [_, _, _]) (by simp only [pickO, List.filterMap_cons, List.filterMap_nil, List.getElem?_toArray, List.getElem?_cons_succ, List.getElem?_cons_zero]; rfl) (fun Kp hKp => ?_)
    go_big_quiet_step (exact rfl)
    refine wpQuiet_load rfl 142 _ rfl (Q) 0 rfl _ _ jQ Tryz.underlying142 rfl (by kernel_rfl) ?_
    go_simp
    go_big_quiet_step (exact rfl)
    refine wpQuiet_nil ?_
    refine hKp _ ?_
    clear hKp
    replace hY := obB gW hY
    replace rdA := rdA.kp (kp_rowbl gW)
    replace own4 := ownBl own4 gW
    replace n4 := n4.trans (gW.mono n4.size)
    refine loud (by rfl) (by kernel_rfl) (fun K2 hK2 => ?_)
    obtain ⟨y0, yf0, y1, yf1, y2, yf2⟩ := cf3 hY
    go_simp
    refine hK2 _ _ (GW.set (GW.set (GW.set (GW.bl gW) _) _) _) ?_
    clear hK2
    refine mix_nil (os := []) (by rfl) (fun Kp hKp => ?_)
    refine wpQuiet_nil ?_
    refine hKp _ ?_
    clear hKp
    have ownF := ownSet (o := 2) (u := .int .i64 q3.2.2) (ownSet (o := 1) (u := .int .i64 q3.2.1) (ownSet (o := 0) (u := .slice A5 q3.1.length c5) own4 (show w.heap.size + 1 < w.heap.size + 2 by omega)) (show w.heap.size + 1 < w.heap.size + 2 by omega)) (show w.heap.size + 1 < w.heap.size + 2 by omega)
    have rdF := ((rdA.kp (kp_rowset (B := w.heap.size + 1) (o := 0) (u := .slice A5 q3.1.length c5) (by omega))).kp (kp_rowset (B := w.heap.size + 1) (o := 1) (u := .int .i64 q3.2.1) (by omega))).kp (kp_rowset (B := w.heap.size + 1) (o := 2) (u := .int .i64 q3.2.2) (by omega))
    have rdL := RdSl.kp (hd := hdT) (pl := plT) (fun _ _ _ _ _ q h => hdT.kp q h) (fun _ _ _ _ q h => plT.kp q h) (kp_lw (b := w.heap.size + 2) (b0 := w.heap.size) (by omega)) (rowsR ownF (ofL_len _).symm rdF)
    rw [e3] at hR okL
    have fin := Lib.hid (hR.out lv4 (.slice A5 q3.1.length c5) _ rdL r5 okL (set3p (q := w.heap.size + 1) (by omega) n4 (.slice A5 q3.1.length c5) (.int .i64 q3.2.1) (.int .i64 q3.2.2)))
    clear hR rdL own4 rdF ownF rdA
    go_wp2_with fail
    refine bodyPost_ret ?_ rfl fin.out
    simp [results, Tryz.results147, go_sem, y0, y1, y2]
  ·rw [decide_eq_false hf]
   rw [loop_fail hf] at e3
   clear hf cP
   go_upto_region 13 with fail
   have jA := jf (p := w.heap.size + 1) (q := w.heap.size + 1) hA (by omega) (by omega)
   refine wp_region_mixG (w.heap.size + 1) (w.heap.size + 1) [([0, 1], 2)] [] (by kernel_rfl) (by kernel_rfl) (by kernel_rfl) (by kernel_rfl) (fun _ _ d _ _ h => by cases d <;> exact h) ?_
   have gW : Below w1.heap.size w1 (w1.drewN 1) := ⟨rfl, rfl, rfl, Nat.le_refl _, fun _ _ => rfl⟩
   refine mix_cons (os := [_, _]) (by simp only [pickO, List.filterMap_cons, List.filterMap_nil, List.getElem?_toArray, List.getElem?_cons_succ, List.getElem?_cons_zero]; rfl) (fun Kp hKp => ?_)
   refine wpQuiet_load rfl 142 _ rfl (w.heap.size) 0 rfl _ _ jA Tryz.underlying142 rfl (by kernel_rfl) ?_
   go_simp
   go_big_quiet_step (exact rfl)
   refine wpQuiet_nil ?_
   refine hKp _ ?_
   clear hKp
   replace hY := obB gW hY
   replace n := n.trans (gW.mono n.size)
   refine loud (by rfl) (by kernel_rfl) (fun K2 hK2 => ?_)
   obtain ⟨y0, yf0, y1, yf1, y2, yf2⟩ := cf3 hY
   go_simp
   refine hK2 _ _ (GW.set (GW.set (GW.set (GW.bl gW) _) _) _) ?_
   clear hK2
   refine mix_nil (os := []) (by rfl) (fun Kp hKp => ?_)
   refine wpQuiet_nil ?_
   refine hKp _ ?_
   clear hKp
   rw [e3] at hR okL
   have fin := Lib.hid (hR.out _ (.slice A1 q.1.length c1) _ (RdSl.nil _ none 0) hx okL (set3p (q := w.heap.size + 1) (by omega) n (.slice A1 q.1.length c1) (.int .i64 q.2.1) (.int .i64 q.2.2)))
   clear hR own rds
   go_wp2_with fail
   refine bodyPost_ret ?_ rfl fin.out
   simp [results, Tryz.results147, go_sem, y0, y1, y2]
end Go.Proofs.YtncijmodlhijoaaGreat.Syn
