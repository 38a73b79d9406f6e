import Derived.Test.YtlijjbcamkhhaaaG10
import Derived.Deep.DeepCutAuto
import Derived.Test.YtlijjbcamkhhaaaApp2
/- LabelsReads: the law's walk. -/
set_option maxRecDepth 100000
set_option linter.unusedVariables false
namespace Go.Proofs.Ytlijjbcamkhhaaa.Lab
open Go.RowKit Go.Lib Go.Proofs.Ytlijjbcamkhhaaa.Rel Go.Proofs.Ytlijjbcamkhhaaa.Nam Go.Proofs.Ytlijjbcamkhhaaa.Lat Go.ChangeShapes Go.WideShapes

/-- The levels that a parsed text denotes: its maximal ones. -/
def parH (n : Nat) (F : Nat → Nat → Bool) (V : Option (List Nat) × Int × Int) : List Nat := match V.1 with
  | some l => higS n F l
  | none => []
theorem par_some {nm : List ByteArray} {s : ByteArray} {l : List Nat} {e z : Int} (h : parS nm s = (some l, e, z)) : e = 0 ∧ z = 0 := (par_lt _ _ _ _ _ _ (by simp) h).2
theorem higS_congr {n : Nat} {F G : Nat → Nat → Bool} {l : List Nat} (hl : ∀ a ∈ l, a < n) (h : ∀ a b, a < n → b < n → F a b = G a b) : higS n F l = higS n G l := by
  unfold higS
  refine List.filter_congr fun c hc => ?_
  have hn := List.mem_range.1 hc
  rw [Bool.eq_iff_iff, hig_iff, hig_iff]
  exact and_congr Iff.rfl ⟨fun q a ha hf => q a ha (by rw [h c a hn (hl a ha)]; exact hf), fun q a ha hf => q a ha (by rw [← h c a hn (hl a ha)]; exact hf)⟩
theorem refparse1_calls (ws : List Wr) (f : Nat → List Bool) (v : Value) (w : World) (hm : RdM w v ws.length f) (hn : ws.length ≤ 64) (vw : Value) (hw : RdW w vw ws) (s : ByteArray) (hsz : s.size ≤ 1000000) (R : Ending → World → Prop)
    (hR : Hid (∀ v' L w', w'.ownsRow w.heap.size 3 1 v' L (ivR (parH ws.length (fun a b => on (f a) b) (parS (nms ws) s))) → Below w.heap.size w w' → R (.returned (.tuple #[v', .agg #[.int .i64 (parS (nms ws) s).2.1, .int .i64 (parS (nms ws) s).2.2]])) w')) : Calls Try.prog 22 #[vw, v, .string s] w R := by
  refine refparse_calls ws f v w hm hn vw hw s hsz R (Lib.hid fun l v' L w' e r n => ?_) (Lib.hid fun e z w' e2 n => ?_)
  · have := hR.out v' L w' (by rw [e]; exact r) n
    rw [e] at this
    exact this
  · have := hR.out (.slice none 0 0) 0 w' (by rw [e2]; exact World.ownsRow_nil _ _ _ _) n
    rw [e2] at this
    exact this
theorem labparse1_calls (nm : List ByteArray) (F : Nat → Nat → Bool) (v : Value) (w : World) (h : LatP w v nm F) (s : ByteArray) (hs : s.size ≤ 1000000) (R : Ending → World → Prop)
    (hR : Hid (∀ v' w', RdAt w' v' 1 (ivR (parH nm.length F (parS nm s))) → Below w.heap.size w w' → R (.returned (.tuple #[v', .agg #[.int .i64 (parS nm s).2.1, .int .i64 (parS nm s).2.2]])) w')) : Calls Try.prog 21 #[v, .string s] w R := by
  refine labparse_calls nm F v w h s hs R (Lib.hid fun l v' w' e r n => ?_) (Lib.hid fun e z A c w' e2 n => ?_)
  · have := hR.out v' w' (by rw [e]; exact r) n
    rw [e] at this
    exact this
  · have := hR.out (.slice A 0 c) w' (by rw [e2]; exact ⟨A, 0, c, rfl, rfl, Nat.zero_le _, fun h => absurd h (by simp [parH, ivR])⟩) n
    rw [e2] at this
    exact this
theorem great_fine {ws : List Wr} {ps : List Pr} (h : greatB ws ps = false) : wrongS ws ps = (0, 0) ∧ Fine ws ps := by
  have h2 := of_decide_eq_false (show decide (32 < ws.length ∨ 256 < ps.length ∨ wrongS ws ps ≠ (0, 0)) = false from h)
  have e : wrongS ws ps = (0, 0) := Classical.byContradiction fun q => h2 (.inr (.inr q))
  exact ⟨e, (wrong_ok (by rw [e])).2⟩
theorem refsame_self (xs : List Int) (va vb : Value) (w : World) (hx : RdZ w va xs) (hy : RdZ w vb xs) (hxl : xs.length ≤ 1000000) (R : Ending → World → Prop) (hR : Hid (∀ w', Below w.heap.size w w' → R (.returned (.bool true)) w')) : Calls Try.prog 17 #[va, vb] w R :=
  refsame12_calls xs xs va vb w hx hy hxl hxl R (Lib.hid fun w' hb => by rw [decide_eq_true rfl]; exact hR.out w' hb)
theorem keepB {W w' : World} {g : Nat} {a b : Value} (h : Below W.heap.size W w') (hg : g < W.heap.size) (e0 : W.cell? ⟨g, 0, none⟩ = some a) (e1 : W.cell? ⟨g, 1, none⟩ = some b) : w'.cell? ⟨g, 0, none⟩ = some a ∧ w'.cell? ⟨g, 1, none⟩ = some b ∧ Below W.heap.size W w' :=
  ⟨(h.cell (p := ⟨g, 0, none⟩) hg).trans e0, (h.cell (p := ⟨g, 1, none⟩) hg).trans e1, h⟩
set_option maxRecDepth 100000 in
set_option maxHeartbeats 2000000 in
theorem reads12_walk (ws : List Wr) (ps : List Pr) (vw vp : Value) (w : World) (hw : RdW w vw ws) (hp : RdPr w vp ps) (hgw : ∀ x ∈ ws, GoodW x) (hgp : ∀ x ∈ ps, GoodR x) (s : ByteArray) (hs : s.size ≤ maxLen) (R : Ending → World → Prop)
    (hR : Hid (∀ w', Below w.heap.size w w' → R (.returned (.bool true)) w')) : Calls Try.prog 5 #[.agg #[vw, vp], .string s] w R := by
  have b1 := (Below.refl w.heap.size w).alloc (Nat.le_refl _) (.cells #[vw, vp] 25)
  obtain ⟨k0, k1⟩ := box_two w vw vp 25
  have hH : w.heap.size < (w.alloc (.cells #[vw, vp] 25)).heap.size := by simp
  have cG := Lib.hid fun R hR => great12_calls ws ps vw vp _ (hw.below b1) (hp.below b1) hgw R hR
  have cL := Lib.hid fun (W : World) R hR => lives12_calls W R hR
  replace hs : s.size ≤ 9223372036854775807 := hs
  cases hg : greatB ws ps
  · obtain ⟨eW, hF⟩ := great_fine hg
    rw [hg] at cG
    by_cases hs2 : 1000 < s.size
    · obtain ⟨Aw, cw, rfl, -, -⟩ := hw.op
      obtain ⟨Ap, cp, rfl, -, -⟩ := hp.op
      replace b1 := Lib.hid b1
      clear hw hp hgw hgp hg eW hF
      go_enter Try.func5, Try.ntmps5
      go_wp2_with fail
      refine cG.out _ (Lib.hid fun w2 n2 => ?_)
      have n3 := Lib.hid (b1.out.trans (n2.mono b1.out.size))
      clear n2 k0 k1
      go_wp2_with fail
      refine cL.out _ _ (Lib.hid fun w4 n4 => ?_)
      have nf := Lib.hid (n3.out.trans (n4.mono n3.out.size))
      clear n4 n3
      go_wp2_with fail
      exact hR.out _ nf.out
    · have d1 : decide (1000 < (s.size : Int)) = false := decide_eq_false (by omega)
      have h32 := hF.le
      have cB := Lib.hid fun (W : World) (hb : Below w.heap.size w W) R hR hR2 => build0_calls ws ps vw vp W (hw.below hb) (hp.below hb) hgw hgp R hR hR2
      have cQ := Lib.hid fun (W : World) (hb : Below w.heap.size w W) R hR => refleq_calls ws ps vw vp W (hw.below hb) (hp.below hb) hF.right (by have := hF.pairs; omega) R hR
      have cP := fun (W : World) (hb : Below w.heap.size w W) v hm R hR => refparse1_calls ws (ldR ws.length (toN (idxQ ws ps))) v W hm (by omega) vw (hw.below hb) s (by omega) R hR
      have cA := fun v (W : World) h R hR => labparse1_calls (nms ws) (leqF ws ps) v W h s (by omega) R hR
      have cN := Lib.hid fun (W : World) R hR => labparseN_calls W s (by omega) R hR
      rw [nms_len] at cA
      change ∀ (W : World) (hb : Below w.heap.size w W) v hm R hR, _ at cP
      have cS := Lib.hid fun (xs : List Int) va vb (W : World) hx hy hxl R (hR : Hid (∀ w', Below W.heap.size W w' → R (.returned (.bool true)) w')) => refsame_self xs va vb W hx hy hxl R hR
      obtain ⟨Aw, cw, rfl, -, -⟩ := hw.op
      obtain ⟨Ap, cp, rfl, -, -⟩ := hp.op
      have hHl : (parH ws.length (leqF ws ps) (parS (nms ws) s)).length ≤ 1000000 := by
        unfold parH
        split
        · exact Nat.le_trans (higS_len _) (by omega)
        · simp
      change ∀ (W : World) (hb : Below w.heap.size w W) v (hm : RdM W v ws.length (ldR ws.length (toN (idxQ ws ps)))) (R : Ending → World → Prop) (hR : Hid (∀ v' L w', w'.ownsRow W.heap.size 3 1 v' L (ivR (parH ws.length (leqF ws ps) (parS (nms ws) s))) → Below W.heap.size W w' → R (.returned (.tuple #[v', .agg #[.int .i64 (parS (nms ws) s).2.1, .int .i64 (parS (nms ws) s).2.2]])) w')), Calls Try.prog 22 #[.slice Aw ws.length cw, v, .string s] W R at cP
      generalize parH ws.length (leqF ws ps) (parS (nms ws) s) = Hh at *
      generalize (parS (nms ws) s).2.1 = E at *
      generalize (parS (nms ws) s).2.2 = Z at *
      replace cP := Lib.hid cP
      replace cA := Lib.hid cA
      replace b1 := Lib.hid b1
      replace eW := Lib.hid eW
      replace hHl := Lib.hid hHl
      clear hw hp hgw hgp hg hF
      go_enter Try.func5, Try.ntmps5
      go_wp2_with fail
      refine cG.out _ (Lib.hid fun w2 n2 => ?_)
      have e0 := (n2.cell (p := ⟨w.heap.size, 0, none⟩) hH).trans k0
      have e1 := (n2.cell (p := ⟨w.heap.size, 1, none⟩) hH).trans k1
      have hH2 := Nat.lt_of_lt_of_le hH n2.size
      have n3 := Lib.hid (b1.out.trans (n2.mono b1.out.size))
      clear n2 k0 k1 hH cG b1
      go_wp2_with fail
      refine cB.out w2 n3.out _ (Lib.hid fun v w4 _ l4 n4 => ?_) (Lib.hid fun w4 h _ => absurd (show (wrongS ws ps).1 = 0 by rw [eW.out]) h)
      obtain ⟨p, rfl⟩ := l4.ptr
      have f5 := (Below.refl w4.heap.size w4).alloc (Nat.le_refl _) (.cells #[.int .i64 0, .int .i64 0] 31)
      have b5 := n4.trans (f5.mono n4.size)
      have k0 := (b5.cell (p := ⟨w.heap.size, 0, none⟩) hH2).trans e0
      have k1 := (b5.cell (p := ⟨w.heap.size, 1, none⟩) hH2).trans e1
      have hH5 := Nat.lt_of_lt_of_le hH2 b5.size
      have n5 := Lib.hid (n3.out.trans (b5.mono n3.out.size))
      have l5 := Lib.hid (l4.below f5)
      clear f5 b5 e0 e1 hH2 n3 l4 n4 cB
      go_wp2_with fail
      refine cA.out _ _ l5.out _ (Lib.hid fun v6 w6 r6 n6 => ?_)
      obtain ⟨A6, c6, rfl, -, -⟩ := ivR_at r6
      have q8 := heap_alloc_new w6 (.cells #[.int .i64 E, .int .i64 Z] 31)
      have f8 := (Below.refl w6.heap.size w6).alloc (Nat.le_refl _) (.cells #[.int .i64 E, .int .i64 Z] 31)
      have b8 := n6.trans (f8.mono n6.size)
      have e0 := (b8.cell (p := ⟨w.heap.size, 0, none⟩) hH5).trans k0
      have e1 := (b8.cell (p := ⟨w.heap.size, 1, none⟩) hH5).trans k1
      have hH8 := Nat.lt_of_lt_of_le hH5 b8.size
      have n8 := Lib.hid (n5.out.trans (b8.mono n5.out.size))
      have r8 := Lib.hid (RdAt.below r6 f8)
      have x0 : (w6.alloc (.cells #[.int .i64 E, .int .i64 Z] 31)).cell? ⟨w6.heap.size, 0, none⟩ = some (.int .i64 E) := by rw [Lib.cell_of_heap q8]; rfl
      have x1 : (w6.alloc (.cells #[.int .i64 E, .int .i64 Z] 31)).cell? ⟨w6.heap.size, 1, none⟩ = some (.int .i64 Z) := by rw [Lib.cell_of_heap q8]; rfl
      have hx : w6.heap.size < (w6.alloc (.cells #[.int .i64 E, .int .i64 Z] 31)).heap.size := by simp
      replace x0 := Lib.hid x0
      replace x1 := Lib.hid x1
      replace hx := Lib.hid hx
      clear q8 f8 b8 k0 k1 hH5 n5 l5 r6 n6 cA
      go_upto_region 5 with fail
      generalize w6.alloc (.cells #[.int .i64 E, .int .i64 Z] 31) = W8 at *
      go_cut [9, 10] (fun s9 s10 wx => ∃ (A : Option Addr) (c Hx : Nat), s9 = .slice A Hh.length c ∧ s10 = .pointer (some ⟨Hx, 0, none⟩) ∧ Hid (Below W8.heap.size W8 wx) ∧ Hid (RdAt wx (.slice A Hh.length c) 1 (ivR Hh)) ∧ Hid (wx.cell? ⟨Hx, 0, none⟩ = some (.int .i64 E)) ∧ Hid (wx.cell? ⟨Hx, 1, none⟩ = some (.int .i64 Z)) ∧ Hx < wx.heap.size)
      case first =>
        have nW := (Below.refl W8.heap.size W8).drew
        replace n8 := n8.out
        go_region_held3 (fun w' => w'.cell? ⟨w.heap.size, 0, none⟩ = some (.slice Aw ws.length cw) ∧ w'.cell? ⟨w.heap.size, 1, none⟩ = some (.slice Ap ps.length cp) ∧ Below W8.heap.size W8 w')
          (first
            | exact keepB nW hH8 e0 e1
            | exact keepB (nW.alloc nW.size _) hH8 e0 e1
            | exact keepB ((nW.setCell (p := ⟨_, 0, none⟩) gH _).setCell (p := ⟨_, 1, none⟩) gH _) hH8 e0 e1
            | exact keepB (nW.alloc nW.size _).drew hH8 e0 e1
            | trace_state)
          (first
            | (go_at_call 10; refine cQ.out _ (n8.trans (nW.mono n8.size)) _ (Lib.hid fun v9 w9 m9 n9 => ?_); have rM := m9; have nW := nW.trans (n9.mono nW.size); obtain ⟨A9, c9, rfl, -, -⟩ := m9.op)
            | (go_at_call 10; refine cQ.out _ (n8.trans ((nW.alloc nW.size _).mono n8.size)) _ (Lib.hid fun v9 w9 m9 n9 => ?_); have rM := m9; have T : Flt W8.drew W8.heap.size w9 := Flt.below (Flt.new W8.drew) n9; have gH : W8.heap.size ≤ W8.heap.size := Nat.le_refl _; have c0 := T.c0; have c1 := T.c1; have f0 := T.f0; have f1 := T.f1; have nW := (nW.alloc nW.size _).trans (n9.mono (nW.alloc nW.size _).size); obtain ⟨A9, c9, rfl, -, -⟩ := m9.op)
            | (go_at_call 22; refine cP.out _ (n8.trans (nW.mono n8.size)) _ rM _ (Lib.hid fun v10 L10 w10 m10 n10 => ?_); have rP := m10; have nW := nW.trans (n10.mono nW.size); obtain ⟨A10, c10, rfl, -, -⟩ := ivR_at (RdAt.of_own m10); try (have gB := T.lt; have T := Flt.below T n10; have c0 := T.c0; have c1 := T.c1; have f0 := T.f0; have f1 := T.f1))
            | (go_at_call 22; refine cP.out _ (n8.trans ((nW.alloc nW.size _).mono n8.size)) _ (rM.below ((Below.refl _ _).alloc (Nat.le_refl _) _)) _ (Lib.hid fun v10 L10 w10 m10 n10 => ?_); have rP := m10; have gB := (Flt.new w9).lt; have T := Flt.below (Flt.new w9) n10; have gH := nW.size; have c0 := T.c0; have c1 := T.c1; have f0 := T.f0; have f1 := T.f1; have nW := (nW.alloc nW.size _).trans (n10.mono (nW.alloc nW.size _).size); obtain ⟨A10, c10, rfl, -, -⟩ := ivR_at (RdAt.of_own m10)))
        all_goals
          go_wp2_with fail
          go_meet
          first
            | exact ⟨_, _, _, rfl, rfl, Lib.hid (nW.alloc nW.size _), Lib.hid (RdAt.below (RdAt.of_own rP) ((Below.refl _ _).alloc (Nat.le_refl _) _)), Lib.hid (box_two _ _ _ _).1, Lib.hid (box_two _ _ _ _).2, by simp⟩
            | exact ⟨_, _, _, rfl, rfl, Lib.hid ((nW.setCell (p := ⟨_, 0, none⟩) gH _).setCell (p := ⟨_, 1, none⟩) gH _), Lib.hid (RdAt.of_own (ownsRow_setCell_below (ownsRow_setCell_below rP (a := ⟨_, 0, none⟩) gB _) (a := ⟨_, 1, none⟩) gB _)), Lib.hid (T.told _ _).2.1, Lib.hid (T.told _ _).2.2, by simpa [World.setCell] using T.lt⟩
      case rest =>
        obtain ⟨A9, c9, Hx, rfl, rfl, n9, r9, y0, y1, hy⟩ := hcut
        have n8' := n8.out
        clear e0 e1 hH8 cQ cP
        replace hy := Lib.hid hy
        go_wp2_with fail
        refine cN.out _ _ (Lib.hid fun A10 c10 w10 n10 => ?_)
        have f11 := (Below.refl w10.heap.size w10).alloc (Nat.le_refl _) (.cells #[.int .i64 1, .int .i64 0] 31)
        have b11 := n10.trans (f11.mono n10.size)
        have x0f := (b11.cell (p := ⟨w6.heap.size, 0, none⟩) (Nat.lt_of_lt_of_le hx.out n9.out.size)).trans ((n9.out.cell (p := ⟨w6.heap.size, 0, none⟩) hx.out).trans x0.out)
        have x1f := (b11.cell (p := ⟨w6.heap.size, 1, none⟩) (Nat.lt_of_lt_of_le hx.out n9.out.size)).trans ((n9.out.cell (p := ⟨w6.heap.size, 1, none⟩) hx.out).trans x1.out)
        have y0f := (b11.cell (p := ⟨Hx, 0, none⟩) hy.out).trans y0.out
        have y1f := (b11.cell (p := ⟨Hx, 1, none⟩) hy.out).trans y1.out
        obtain ⟨u0, u1⟩ := box_two w10 (.int .i64 1) (.int .i64 0) 31
        have hx11 := Nat.lt_of_lt_of_le (Nat.lt_of_lt_of_le hx.out n9.out.size) b11.size
        have hy11 := Nat.lt_of_lt_of_le hy.out b11.size
        have hu11 : w10.heap.size < (w10.alloc (.cells #[.int .i64 1, .int .i64 0] 31)).heap.size := by simp
        have ra := RdAt.below (RdAt.below r8.out n9.out) b11
        have rb := RdAt.below r9.out b11
        rw [iv_izv] at ra rb
        have n11 := n8'.trans ((n9.out.trans (b11.mono n9.out.size)).mono n8'.size)
        replace x0f := Lib.hid x0f
        replace x1f := Lib.hid x1f
        replace y0f := Lib.hid y0f
        replace y1f := Lib.hid y1f
        replace u0 := Lib.hid u0
        replace u1 := Lib.hid u1
        replace ra := Lib.hid ra
        replace rb := Lib.hid rb
        replace n11 := Lib.hid n11
        replace hx11 := Lib.hid hx11
        replace hy11 := Lib.hid hy11
        replace hu11 := Lib.hid hu11
        clear f11 b11 n10 n9 n8 n8' x0 x1 y0 y1 hx hy r8 r9 cN
        go_wp2_with fail
        refine cS.out _ _ _ _ ra.out rb.out (by rw [List.length_map]; exact hHl.out) _ (Lib.hid fun w12 n12 => ?_)
        have x0 := (n12.cell (p := ⟨w6.heap.size, 0, none⟩) hx11.out).trans x0f.out
        have x1 := (n12.cell (p := ⟨w6.heap.size, 1, none⟩) hx11.out).trans x1f.out
        have y0 := (n12.cell (p := ⟨Hx, 0, none⟩) hy11.out).trans y0f.out
        have y1 := (n12.cell (p := ⟨Hx, 1, none⟩) hy11.out).trans y1f.out
        have u0' := (n12.cell (p := ⟨w10.heap.size, 0, none⟩) hu11.out).trans u0.out
        have u1' := (n12.cell (p := ⟨w10.heap.size, 1, none⟩) hu11.out).trans u1.out
        have n13 := Lib.hid (n11.out.trans (n12.mono n11.out.size))
        clear n12 ra rb n11 x0f x1f y0f y1f u0 u1
        go_wp2_with fail
        refine cL.out _ _ (Lib.hid fun w14 n14 => ?_)
        have nf := Lib.hid (n13.out.trans (n14.mono n13.out.size))
        clear n14 n13 x0 x1 y0 y1 u0' u1'
        go_wp2_with fail
        exact hR.out _ nf.out
  · rw [hg] at cG
    obtain ⟨Aw, cw, rfl, -, -⟩ := hw.op
    obtain ⟨Ap, cp, rfl, -, -⟩ := hp.op
    replace b1 := Lib.hid b1
    clear hw hp hgw hgp hg
    go_enter Try.func5, Try.ntmps5
    go_wp2_with fail
    refine cG.out _ (Lib.hid fun w2 n2 => ?_)
    have n3 := Lib.hid (b1.out.trans (n2.mono b1.out.size))
    clear n2 k0 k1
    go_wp2_with fail
    refine cL.out _ _ (Lib.hid fun w4 n4 => ?_)
    have nf := Lib.hid (n3.out.trans (n4.mono n3.out.size))
    clear n4 n3
    go_wp2_with fail
    exact hR.out _ nf.out
end Go.Proofs.Ytlijjbcamkhhaaa.Lab

/- LabelsHighest: the law's walk. -/
set_option maxRecDepth 100000
set_option linter.unusedVariables false
namespace Go.Proofs.Ytlijjbcamkhhaaa.Lab
open Go.RowKit Go.Lib Go.Proofs.Ytlijjbcamkhhaaa.Utf Go.Proofs.Ytlijjbcamkhhaaa.Rel Go.Proofs.Ytlijjbcamkhhaaa.Nam Go.Proofs.Ytlijjbcamkhhaaa.Lat Go.Proofs.Ytlijjbcamkhhaaa.Pat Go.ChangeShapes Go.WideShapes

theorem wrong_names {ws : List Wr} {ps : List Pr} (h : (wrongS ws ps).1 = 0) : ∀ i, i < ws.length → rightS (wN ws i).1 = true := by
  have hf := (wrong_ok h).2
  cases e1 : firF (lvAt ws) ws.length 0 with
  | some f =>
    rw [w_lv hf.latt.pos hf.le hf.pairs e1] at h
    obtain ⟨j, -, -, hj⟩ := fir_some _ _ e1
    unfold lvAt at hj
    split at hj
    · cases hj; simp at h
    · split at hj
      · cases hj; simp at h
      · cases hj
  | none =>
    intro i hi
    have := fir_none _ _ e1 i (Nat.zero_le _) (by omega)
    unfold lvAt at this
    split at this
    · cases this
    · next q => simpa using q
theorem names_ok {ws : List Wr} {ps : List Pr} (h : (wrongS ws ps).1 = 0) : NmOk (nms ws) := fun a ha => by
  rw [nms_len] at ha
  rw [nms_at ha]
  exact ⟨wrong_names h a ha, (wrong_ok h).2.one a ha⟩
theorem names_le {ws : List Wr} {ps : List Pr} (h : (wrongS ws ps).1 = 0) : ∀ s ∈ nms ws, s.size ≤ 32 := fun s hs => by
  obtain ⟨i, hi, e⟩ := List.getElem_of_mem hs
  rw [nms_len] at hi
  have := (rightS_pos (wrong_names h i hi)).2.1
  rw [← nms_at hi] at this
  rw [List.getD, List.getElem?_eq_getElem (by rw [nms_len]; exact hi)] at this
  rw [← e]; exact this
theorem seq_self (a : ByteArray) : (a.toList == a.toList) = true := seq_t rfl
/-- A row of a matrix read twice. -/
theorem mat_cell {w : World} {v : Value} {n : Nat} {f : Nat → List Bool} (hm : RdM w v n f) {a b : Nat} (ha : a < n) (hb : b < n) : ∃ g o c g1 o1 c1, v = .slice (some ⟨g, o, none⟩) n c ∧ w.cell? ⟨g, o + a, none⟩ = some (.slice (some ⟨g1, o1, none⟩) n c1) ∧ w.cell? ⟨g1, o1 + b, none⟩ = some (.bool (on (f a) b)) := by
  obtain ⟨A, c, rfl, -, hr⟩ := hm.op
  obtain ⟨g, o, rfl, hg, hrow⟩ := hr (by omega)
  obtain ⟨g1, o1, c1, h1, h2, h3⟩ := hrow a ha
  exact ⟨g, o, c, g1, o1, c1, rfl, h1, h3 b hb⟩
theorem refleast_quiet (n : Nat) (f : Nat → List Bool) (v : Value) (w : World) (hm : RdM w v n f) (hn : n ≤ 64) (l : List Nat) (vl : Value) (hx : RdAt w vl 1 (ivR l)) (hl : ∀ a ∈ l, a < n) (hll : l.length ≤ 1000000) (V : Int) (hV : lubZ n (fun a b => on (f a) b) l = V) (m : Nat) :
    Calls Try.prog 16 #[v, vl] (w.drewN m) fun e w' => e = .returned (.int .i64 V) ∧ w' = w.drewN m :=
  refleast_calls n f v (w.drewN m) (hm.below (below_drewN (Below.refl _ _) m)) hn l vl (hx.below (below_drewN (Below.refl _ _) m)) hl hll _ (Lib.hid ⟨by rw [hV], rfl⟩)
set_option maxRecDepth 100000 in
set_option maxHeartbeats 2000000 in
theorem highest12_live (ws : List Wr) (ps : List Pr) (vw vp : Value) (w : World) (hw : RdW w vw ws) (hp : RdPr w vp ps) (hgw : ∀ x ∈ ws, GoodW x) (xs ys : List Int) (vx vy : Value) (hx : RdZ w vx xs) (hy : RdZ w vy ys) (hc : greatB ws ps = true ∨ 100 < xs.length ∨ 100 < ys.length) (R : Ending → World → Prop)
    (hR : Hid (∀ w', Below w.heap.size w w' → R (.returned (.bool true)) w')) : Calls Try.prog 4 #[.agg #[vw, vp], vx, vy] w R := by
  have b1 := (Below.refl w.heap.size w).alloc (Nat.le_refl _) (.cells #[vw, vp] 25)
  obtain ⟨k0, k1⟩ := box_two w vw vp 25
  have cG := fun R hR => great12_calls ws ps vw vp _ (hw.below b1) (hp.below b1) hgw R hR
  have cL := Lib.hid fun (W : World) R hR => lives12_calls W R hR
  obtain ⟨Aw, cw, rfl, -, -⟩ := hw.op
  obtain ⟨Ap, cp, rfl, -, -⟩ := hp.op
  obtain ⟨Ax, cx, rfl, -, -⟩ := hx.op
  obtain ⟨Ay, cy, rfl, -, -⟩ := hy.op
  replace b1 := Lib.hid b1
  clear hw hp hgw hx hy
  cases hg : greatB ws ps
  · rw [hg] at cG hc
    replace cG := Lib.hid cG
    by_cases h1 : 100 < xs.length
    · clear hc hg
      go_enter Try.func4, Try.ntmps4
      go_wp2_with fail
      refine cG.out _ (Lib.hid fun w2 n2 => ?_)
      have n3 := Lib.hid (b1.out.trans (n2.mono b1.out.size))
      clear n2 k0 k1
      go_wp2_with fail
      refine cL.out _ _ (Lib.hid fun w4 n4 => ?_)
      have nf := Lib.hid (n3.out.trans (n4.mono n3.out.size))
      clear n4 n3
      go_wp2_with fail
      exact hR.out _ nf.out
    · have h2 : 100 < ys.length := by
        rcases hc with h | h | h
        · cases h
        · exact absurd h h1
        · exact h
      clear hc hg
      go_enter Try.func4, Try.ntmps4
      go_wp2_with fail
      refine cG.out _ (Lib.hid fun w2 n2 => ?_)
      have n3 := Lib.hid (b1.out.trans (n2.mono b1.out.size))
      clear n2 k0 k1
      go_wp2_with fail
      refine cL.out _ _ (Lib.hid fun w4 n4 => ?_)
      have nf := Lib.hid (n3.out.trans (n4.mono n3.out.size))
      clear n4 n3
      go_wp2_with fail
      exact hR.out _ nf.out
  · rw [hg] at cG
    replace cG := Lib.hid cG
    clear hc hg
    go_enter Try.func4, Try.ntmps4
    go_wp2_with fail
    refine cG.out _ (Lib.hid fun w2 n2 => ?_)
    have n3 := Lib.hid (b1.out.trans (n2.mono b1.out.size))
    clear n2 k0 k1
    go_wp2_with fail
    refine cL.out _ _ (Lib.hid fun w4 n4 => ?_)
    have nf := Lib.hid (n3.out.trans (n4.mono n3.out.size))
    clear n4 n3
    go_wp2_with fail
    exact hR.out _ nf.out
set_option maxRecDepth 100000 in
set_option maxHeartbeats 4000000 in
theorem highest12_walk (ws : List Wr) (ps : List Pr) (vw vp : Value) (w : World) (hw : RdW w vw ws) (hp : RdPr w vp ps) (hgw : ∀ x ∈ ws, GoodW x) (hgp : ∀ x ∈ ps, GoodR x) (xs ys : List Int) (vx vy : Value) (hx : RdZ w vx xs) (hy : RdZ w vy ys) (hgx : ∀ x ∈ xs, Bd x) (hgy : ∀ x ∈ ys, Bd x) (R : Ending → World → Prop)
    (hR : Hid (∀ w', Below w.heap.size w w' → R (.returned (.bool true)) w')) : Calls Try.prog 4 #[.agg #[vw, vp], vx, vy] w R := by
  by_cases hc : greatB ws ps = true ∨ 100 < xs.length ∨ 100 < ys.length
  · exact highest12_live ws ps vw vp w hw hp hgw xs ys vx vy hx hy hc R hR
  have hg : greatB ws ps = false := by
    cases h : greatB ws ps
    · rfl
    · exact absurd (.inl h) hc
  have hxl : xs.length ≤ 100 := Nat.le_of_not_lt fun h => hc (.inr (.inl h))
  have hyl : ys.length ≤ 100 := Nat.le_of_not_lt fun h => hc (.inr (.inr h))
  obtain ⟨eW, hF⟩ := great_fine hg
  have h32 := hF.le
  have hL := hF.latt
  have e1 : (wrongS ws ps).1 = 0 := by rw [eW]
  have hnl := names_le e1
  have b1 := (Below.refl w.heap.size w).alloc (Nat.le_refl _) (.cells #[vw, vp] 25)
  obtain ⟨k0, k1⟩ := box_two w vw vp 25
  have hH : w.heap.size < (w.alloc (.cells #[vw, vp] 25)).heap.size := by simp
  have cG := fun R hR => great12_calls ws ps vw vp _ (hw.below b1) (hp.below b1) hgw R hR
  rw [hg] at cG
  have cL := Lib.hid fun (W : World) R hR => lives12_calls W R hR
  have d1 : decide (100 < (xs.length : Int)) = false := decide_eq_false (by omega)
  have d2 : decide (100 < (ys.length : Int)) = false := decide_eq_false (by omega)
  have cB := Lib.hid fun (W : World) (hb : Below w.heap.size w W) R hR hR2 => build0_calls ws ps vw vp W (hw.below hb) (hp.below hb) hgw hgp R hR hR2
  have cQ := Lib.hid fun (W : World) (hb : Below w.heap.size w W) R hR => refleq_calls ws ps vw vp W (hw.below hb) (hp.below hb) hF.right (by have := hF.pairs; omega) R hR
  have cVx := Lib.hid fun (W : World) (hb : Below w.heap.size w W) v hm R hR => reflevels_calls ws.length (ldR ws.length (toN (idxQ ws ps))) v W hm (by omega) xs vx (hx.below hb) (by omega) R hR
  have cVy := Lib.hid fun (W : World) (hb : Below w.heap.size w W) v hm R hR => reflevels_calls ws.length (ldR ws.length (toN (idxQ ws ps))) v W hm (by omega) ys vy (hy.below hb) (by omega) R hR
  have cHr := Lib.hid fun (W : World) v (hm : RdM W v ws.length (ldR ws.length (toN (idxQ ws ps)))) l vl hl1 hl2 hl3 (R : Ending → World → Prop) (hR : Hid (∀ v' L w', w'.ownsRow W.heap.size 3 1 v' L (ivR (higS ws.length (leqF ws ps) l)) → Below W.heap.size W w' → R (.returned v') w')) => refhighest_calls ws.length (ldR ws.length (toN (idxQ ws ps))) v W hm (by omega) l vl hl1 hl2 hl3 R hR
  have cQt := Lib.hid fun (W : World) v (hm : RdM W v ws.length (ldR ws.length (toN (idxQ ws ps)))) l vl hl1 hl2 hl3 V (hV : lubZ ws.length (leqF ws ps) l = V) m => refleast_quiet ws.length (ldR ws.length (toN (idxQ ws ps))) v W hm (by omega) l vl hl1 hl2 hl3 V hV m
  have cH := fun v (W : World) h hb R hR => labhighest_calls (nms ws) (leqF ws ps) v W h xs vx (hx.below hb) hgx (by omega) R hR
  have cT := fun v (W : World) h hb R hR => labtext_calls (nms ws) (leqF ws ps) v W h hnl xs vx (hx.below hb) hgx (by omega) R hR
  have cU := fun v (W : World) h hb R hR => labunder_calls (nms ws) (leqF ws ps) v W h xs ys vx vy (hx.below hb) (hy.below hb) hgx hgy (by omega) (by omega) R hR
  have cHN := Lib.hid fun (W : World) hb R hR => labhighestN_calls W xs vx (hx.below hb) hgx (by omega) R hR
  have cUN := Lib.hid fun (W : World) hb R hR => labunderN_calls W xs ys vx vy (hx.below hb) (hy.below hb) hgx hgy (by omega) (by omega) R hR
  have cS := Lib.hid fun (xs : List Int) va vb (W : World) hx hy hxl R (hR : Hid (∀ w', Below W.heap.size W w' → R (.returned (.bool true)) w')) => refsame_self xs va vb W hx hy hxl R hR
  rw [nms_len] at cH cT cU
  obtain ⟨ax, hax⟩ : ∃ l, lvS ws.length xs = l := ⟨_, rfl⟩
  obtain ⟨ay, hay⟩ : ∃ l, lvS ws.length ys = l := ⟨_, rfl⟩
  have hltx : ∀ a ∈ ax, a < ws.length := by rw [← hax]; exact lvS_lt
  have hlty : ∀ a ∈ ay, a < ws.length := by rw [← hay]; exact lvS_lt
  have hlx : ax.length ≤ 1000000 := by
    rw [← hax]; unfold lvS; rw [List.length_map]
    exact Nat.le_trans (List.length_filter_le _ _) (by omega)
  have hly : ay.length ≤ 1000000 := by
    rw [← hay]; unfold lvS; rw [List.length_map]
    exact Nat.le_trans (List.length_filter_le _ _) (by omega)
  rw [hax] at cH cT cU
  rw [hay] at cU
  replace cVx := cVx.out
  replace cVy := cVy.out
  rw [hax] at cVx
  rw [hay] at cVy
  obtain ⟨ux, ux1, -⟩ := lub_nat hL hltx
  obtain ⟨uy, uy1, -⟩ := lub_nat hL hlty
  obtain ⟨hl, hhl⟩ : ∃ l, higS ws.length (leqF ws ps) ax = l := ⟨_, rfl⟩
  have hhlt : ∀ a ∈ hl, a < ws.length := by rw [← hhl]; exact higS_lt
  have hhll : hl.length ≤ 32 := by rw [← hhl]; exact Nat.le_trans (higS_len _) h32
  rw [hhl] at cH cT
  have htx := fun K => txt_size (nm := nms ws) (l := hl) hnl K
  obtain ⟨Aw, cw, rfl, -, hrw⟩ := hw.op
  obtain ⟨Ap, cp, rfl, -, -⟩ := hp.op
  obtain ⟨Ax, cx, rfl, -, -⟩ := hx.op
  obtain ⟨Ay, cy, rfl, -, -⟩ := hy.op
  replace cG := Lib.hid cG
  replace cH := Lib.hid cH
  replace cT := Lib.hid cT
  replace cU := Lib.hid cU
  replace cVx := Lib.hid cVx
  replace cVy := Lib.hid cVy
  replace b1 := Lib.hid b1
  replace eW := Lib.hid eW
  replace hnl := Lib.hid hnl
  replace htx := Lib.hid htx
  replace hrw := Lib.hid hrw
  replace hL := Lib.hid hL
  replace hltx := Lib.hid hltx
  replace hlty := Lib.hid hlty
  replace hhlt := Lib.hid hhlt
  replace hax := Lib.hid hax
  replace hay := Lib.hid hay
  replace hhl := Lib.hid hhl
  replace ux := Lib.hid ux
  replace uy := Lib.hid uy
  clear hw hp hgw hgp hg hF e1 hc hx hy hgx hgy
  go_enter Try.func4, Try.ntmps4
  go_wp2_with fail
  refine cG.out _ (Lib.hid fun w2 n2 => ?_)
  have e0 := (n2.cell (p := ⟨w.heap.size, 0, none⟩) hH).trans k0
  have e1 := (n2.cell (p := ⟨w.heap.size, 1, none⟩) hH).trans k1
  have hH2 := Nat.lt_of_lt_of_le hH n2.size
  have n3 := Lib.hid (b1.out.trans (n2.mono b1.out.size))
  clear n2 k0 k1 hH cG b1
  go_wp2_with fail
  refine cB.out w2 n3.out _ (Lib.hid fun v w4 _ l4 n4 => ?_) (Lib.hid fun w4 h _ => absurd (show (wrongS ws ps).1 = 0 by rw [eW.out]) h)
  obtain ⟨p, rfl⟩ := l4.ptr
  have f5 := (Below.refl w4.heap.size w4).alloc (Nat.le_refl _) (.cells #[.int .i64 0, .int .i64 0] 31)
  have b5 := n4.trans (f5.mono n4.size)
  have k0 := (b5.cell (p := ⟨w.heap.size, 0, none⟩) hH2).trans e0
  have k1 := (b5.cell (p := ⟨w.heap.size, 1, none⟩) hH2).trans e1
  have hH5 := Nat.lt_of_lt_of_le hH2 b5.size
  have n5 := Lib.hid (n3.out.trans (b5.mono n3.out.size))
  have l5 := Lib.hid (l4.below f5)
  clear f5 b5 e0 e1 hH2 n3 l4 n4 cB
  go_wp2_with fail
  generalize w4.alloc (.cells #[.int .i64 0, .int .i64 0] 31) = W5 at *
  refine cQ.out W5 n5.out _ (Lib.hid fun v1 w6 m6 n6 => ?_)
  obtain ⟨A6, c6, rfl, -, -⟩ := m6.op
  have k0' := Lib.hid ((n6.cell (p := ⟨w.heap.size, 0, none⟩) hH5).trans k0)
  have hH6 := Nat.lt_of_lt_of_le hH5 n6.size
  have n7 := Lib.hid (n5.out.trans (n6.mono n5.out.size))
  have l7 := Lib.hid (l5.out.below n6)
  replace m6 := Lib.hid m6
  clear k0 k1 hH5 n5 l5 n6 cQ
  go_wp2_with fail
  refine cVx.out w6 n7.out _ m6.out _ (Lib.hid fun v8 w8 r8 n8 => ?_)
  have n9 := Lib.hid (n7.out.trans (n8.mono n7.out.size))
  have l9 := Lib.hid (l7.out.below n8)
  have m9 := Lib.hid (m6.out.below n8)
  have k2 := Lib.hid ((n8.cell (p := ⟨w.heap.size, 0, none⟩) hH6).trans k0'.out)
  have hH8 := Nat.lt_of_lt_of_le hH6 n8.size
  obtain ⟨A8, c8, rfl, -, -⟩ := ivR_at r8
  replace r8 := Lib.hid r8
  clear n7 l7 m6 k0' hH6 n8 cVx
  go_wp2_with fail
  refine cVy.out w8 n9.out _ m9.out _ (Lib.hid fun v10 w10 r10 n10 => ?_)
  have n11 := Lib.hid (n9.out.trans (n10.mono n9.out.size))
  have l11 := Lib.hid (l9.out.below n10)
  have m11 := Lib.hid (m9.out.below n10)
  have k3 := Lib.hid ((n10.cell (p := ⟨w.heap.size, 0, none⟩) hH8).trans k2.out)
  have hH10 := Nat.lt_of_lt_of_le hH8 n10.size
  have r11 := Lib.hid (r8.out.below n10)
  obtain ⟨A10, c10, rfl, -, -⟩ := ivR_at r10
  replace r10 := Lib.hid r10
  clear n9 l9 m9 k2 hH8 r8 n10 cVy
  go_wp2_with fail
  refine cHr.out w10 _ m11.out ax _ r11.out hltx.out hlx _ (Lib.hid fun v12 L12 w12 o12 n12 => ?_)
  rw [hhl.out] at o12
  have n13 := Lib.hid (n11.out.trans (n12.mono n11.out.size))
  have l13 := Lib.hid (l11.out.below n12)
  have m13 := Lib.hid (m11.out.below n12)
  have k4 := (n12.cell (p := ⟨w.heap.size, 0, none⟩) hH10).trans k3.out
  have hH12 := Nat.lt_of_lt_of_le hH10 n12.size
  have r13 := Lib.hid (r11.out.below n12)
  have s13 := Lib.hid (r10.out.below n12)
  obtain ⟨A12, c12, rfl, -, hr12⟩ := ivR_at (RdAt.of_own o12)
  have q12 := Lib.hid (RdAt.of_own o12)
  replace hr12 := Lib.hid hr12
  clear n11 l11 m11 k3 hH10 r11 r10 n12 o12 cHr
  go_wp2_with fail
  go_loopg [13, 14] hl.length (fun g t i wr => ∃ (K : Nat) (tx : ByteArray), t = .string tx ∧ i = .int .i64 K ∧ K + g = hl.length ∧ Hid (Below w12.heap.size w12 wr) ∧ Hid (txtK (nms ws) hl K = tx))
  case atStart => exact ⟨0, _, rfl, rfl, by omega, Lib.hid (Below.refl _ _), Lib.hid rfl⟩
  case round =>
    obtain ⟨K, tx, rfl, rfl, c1, nb, ht⟩ := hrel
    by_cases hK : K < hl.length
    · obtain ⟨g, o, rfl, hg, hca⟩ := hr12.out (by omega)
      have y0 := (nb.out.cell (p := ⟨g, o + K, none⟩) hg).trans (hca K hK)
      have ha : hl.getD K 0 < ws.length := hhlt.out _ (getD_mem hK)
      obtain ⟨gw, ow, rfl, hgw, hwc⟩ := hrw.out (by omega)
      have y1 := (nb.out.cell (p := ⟨gw, ow + hl.getD K 0 * 2, none⟩) (Nat.lt_of_lt_of_le hgw n13.out.size)).trans ((n13.out.cell (p := ⟨gw, ow + hl.getD K 0 * 2, none⟩) hgw).trans (hwc _ ha).1)
      have y2 := (nb.out.cell (p := ⟨w.heap.size, 0, none⟩) hH12).trans k4
      have hs1 := htx.out K
      have hs2 : (nmK (nms ws) hl K).size ≤ 32 := by
        unfold nmK
        exact hnl.out _ (by rw [List.getD, List.getElem?_eq_getElem (by rw [nms_len]; exact ha)]; exact List.getElem_mem _)
      have hst : txtK (nms ws) hl (K + 1) = (if K = 0 then txtK (nms ws) hl K else txtK (nms ws) hl K ++ ⟨#[43]⟩) ++ nmK (nms ws) hl K := rfl
      have hnm : nmK (nms ws) hl K = (wN ws (hl.getD K 0)).1 := nms_at ha
      rw [hnm] at hs2 hst
      rw [ht.out] at hs1 hst
      have i0 : (0 : Int) ≤ (K : Int) := by omega
      have i1 : (K : Int) < (hl.length : Int) := by omega
      clear hca hwc ht hnm
      generalize (wN ws (hl.getD K 0)).1 = s at *
      generalize hl.getD K 0 = a at *
      have i2 : (0 : Int) ≤ (a : Int) := by omega
      have i3 : (a : Int) < (ws.length : Int) := by omega
      by_cases h0 : K = 0
      · rw [if_pos h0] at hst
        have hcat : ¬ 9223372036854775807 < tx.size + s.size := by omega
        replace hst := Lib.hid hst
        clear hs1 hs2
        subst h0
        rw [Nat.add_zero] at y0
        go_wp2_with fail
        go_quiet (fail)
        have nb2 := Lib.hid (below_drewN nb.out nq)
        go_wp2_with fail
        go_roundg (gk - 1)
        case measure => omega
        case rel => exact ⟨1, _, rfl, by go_num, by omega, nb2, hst⟩
      · rw [if_neg h0] at hst
        have hz : (tx ++ ⟨#[43]⟩ : ByteArray).size = tx.size + 1 := by rw [ByteArray.size_append]; rfl
        have hcat0 : ¬ 9223372036854775807 < tx.size + (⟨#[43]⟩ : ByteArray).size := by have : (⟨#[43]⟩ : ByteArray).size = 1 := rfl; omega
        have hcat : ¬ 9223372036854775807 < (tx ++ ⟨#[43]⟩ : ByteArray).size + s.size := by omega
        have h0' : 0 < K := by omega
        replace hst := Lib.hid hst
        clear hs1 hs2 hz
        go_wp2_with fail
        go_quiet (fail)
        have nb2 := Lib.hid (below_drewN nb.out nq)
        go_wp2_with fail
        go_roundg (gk - 1)
        case measure => omega
        case rel => exact ⟨K + 1, _, rfl, by go_num, by omega, nb2, hst⟩
    · obtain rfl : K = hl.length := by omega
      have n14 := Lib.hid (n13.out.trans (nb.out.mono n13.out.size))
      have l14 := Lib.hid (l13.out.below nb.out)
      have m14 := m13.out.below nb.out
      have r14 := r13.out.below nb.out
      have s14 := s13.out.below nb.out
      have q14 := Lib.hid (q12.out.below nb.out)
      obtain ⟨X, hX⟩ : ∃ X, lubN ws.length (leqF ws ps) ax = X := ⟨_, rfl⟩
      obtain ⟨Y, hY⟩ : ∃ Y, lubN ws.length (leqF ws ps) ay = Y := ⟨_, rfl⟩
      rw [hX] at ux1
      rw [hY] at uy1
      have cx1 := Lib.hid fun m => cQt.out wr _ m14 ax _ r14 hltx.out hlx X (by rw [ux.out, hX]) m
      have cy1 := Lib.hid fun m => cQt.out wr _ m14 ay _ s14 hlty.out hly Y (by rw [uy.out, hY]) m
      obtain ⟨gm, om, cm, g1, o1, c1', em, z0, z1⟩ := mat_cell m14 ux1 uy1
      simp only [Value.slice.injEq] at em
      obtain ⟨rfl, -, rfl⟩ := em
      rw [show on (ldR ws.length (toN (idxQ ws ps)) X) Y = leqF ws ps X Y from rfl] at z1
      replace cU := cU.out
      rw [hX, hY] at cU
      replace cU := Lib.hid cU
      have etx : txtS (nms ws) hl = tx := ht.out
      replace cT := cT.out
      rw [etx] at cT
      replace cT := Lib.hid cT
      generalize leqF ws ps X Y = B at *
      have j0 : (0 : Int) ≤ (X : Int) := by omega
      have j1 : (X : Int) < (ws.length : Int) := by omega
      have j2 : (0 : Int) ≤ (Y : Int) := by omega
      have j3 : (Y : Int) < (ws.length : Int) := by omega
      replace hX := Lib.hid hX
      replace hY := Lib.hid hY
      clear m14 r14 s14 cQt n13 l13 m13 r13 s13 q12 nb ht htx etx hr12 k4 hH12
      go_wp2_with fail
      go_quiet (first | (with_reducible exact Calls.quiet_of_same (cx1.out _)) | (with_reducible exact Calls.quiet_of_same (cy1.out _)))
      have bm := below_drewN (Below.refl wr.heap.size wr) nq
      have n15 := Lib.hid (n14.out.trans (bm.mono n14.out.size))
      have l15 := Lib.hid (l14.out.below bm)
      have q15 := Lib.hid (q14.out.below bm)
      clear bm n14 l14 q14 cx1 cy1 z0 z1
      generalize wr.drewN nq = W15 at *
      go_wp2_with fail
      refine cH.out _ W15 l15.out n15.out _ (Lib.hid fun v16 L16 w16 o16 n16 => ?_)
      have n17 := Lib.hid (n15.out.trans (n16.mono n15.out.size))
      have l17 := Lib.hid (l15.out.below n16)
      have q17 := q15.out.below n16
      rw [iv_izv] at q17
      obtain ⟨-, t17, A16, c16, rfl⟩ := own_row o16
      replace q17 := Lib.hid q17
      replace t17 := Lib.hid t17
      clear n15 l15 q15 n16 o16 cH
      go_wp2_with fail
      refine cS.out _ _ _ w16 t17.out q17.out (by rw [List.length_map]; omega) _ (Lib.hid fun w18 n18 => ?_)
      have n19 := Lib.hid (n17.out.trans (n18.mono n17.out.size))
      have l19 := Lib.hid (l17.out.below n18)
      clear n17 l17 t17 q17 n18
      go_wp2_with fail
      refine cT.out _ w18 l19.out n19.out _ (Lib.hid fun w20 n20 => ?_)
      have n21 := Lib.hid (n19.out.trans (n20.mono n19.out.size))
      have l21 := Lib.hid (l19.out.below n20)
      have eS := seq_self tx
      clear n19 l19 n20
      go_wp2_with fail
      refine cU.out _ w20 l21.out n21.out _ (Lib.hid fun w22 n22 => ?_)
      have n23 := Lib.hid (n21.out.trans (n22.mono n21.out.size))
      clear n21 l21 n22 eS
      go_wp2_with fail
      refine cHN.out w22 n23.out _ (Lib.hid fun A24 c24 w24 n24 => ?_)
      have n25 := Lib.hid (n23.out.trans (n24.mono n23.out.size))
      clear n23 n24
      go_wp2_with fail
      refine cUN.out w24 n25.out _ (Lib.hid fun w26 n26 => ?_)
      have n27 := Lib.hid (n25.out.trans (n26.mono n25.out.size))
      clear n25 n26
      go_wp2_with fail
      refine cL.out w26 _ (Lib.hid fun w28 n28 => ?_)
      have nf := Lib.hid (n27.out.trans (n28.mono n27.out.size))
      clear n27 n28
      go_wp2_with fail
      exact hR.out _ nf.out
end Go.Proofs.Ytlijjbcamkhhaaa.Lab

/- LabelsJoin: the law's walk. -/
set_option maxRecDepth 100000
set_option linter.unusedVariables false
namespace Go.Proofs.Ytlijjbcamkhhaaa.Lab
open Go.RowKit Go.Lib Go.Proofs.Ytlijjbcamkhhaaa.Utf Go.Proofs.Ytlijjbcamkhhaaa.Rel Go.Proofs.Ytlijjbcamkhhaaa.Nam Go.Proofs.Ytlijjbcamkhhaaa.Lat Go.Proofs.Ytlijjbcamkhhaaa.Pat Go.ChangeShapes Go.WideShapes

/-- What Of hands back. -/
def ofV (nm : List ByteArray) (n : Nat) (F : Nat → Nat → Bool) (qs : List Wr) : Int × Int × Int := match firF (ofAt nm qs) qs.length 0 with
  | some x => (0, x.1, x.2)
  | none => (lubZ n F (fndL nm qs), 0, 0)
theorem ofV_none {nm : List ByteArray} {n : Nat} {F : Nat → Nat → Bool} {qs : List Wr} (h : firF (ofAt nm qs) qs.length 0 = none) : ofV nm n F qs = (lubZ n F (fndL nm qs), 0, 0) := by unfold ofV; rw [h]
theorem ofV_some {nm : List ByteArray} {n : Nat} {F : Nat → Nat → Bool} {qs : List Wr} {x : Int × Int} (h : firF (ofAt nm qs) qs.length 0 = some x) : ofV nm n F qs = (0, x.1, x.2) := by unfold ofV; rw [h]
theorem of_err {nm : List ByteArray} {qs : List Wr} {x : Int × Int} (h : firF (ofAt nm qs) qs.length 0 = some x) : x.1 ≠ 0 := by
  obtain ⟨j, -, -, hj⟩ := fir_some _ _ h
  unfold ofAt at hj
  split at hj
  · cases hj; simp
  · cases hj
theorem of_lt {nm : List ByteArray} {qs : List Wr} (h : firF (ofAt nm qs) qs.length 0 = none) : ∀ a ∈ fndL nm qs, a < nm.length := fnd_lt fun j hj => fir_none _ _ h j (Nat.zero_le _) (by omega)
theorem labof1_calls (nm : List ByteArray) (F : Nat → Nat → Bool) (v : Value) (w : World) (h : LatP w v nm F) (qs : List Wr) (vq : Value) (hq : RdW w vq qs) (hgq : ∀ x ∈ qs, GoodW x) (hql : qs.length ≤ 1000) (R : Ending → World → Prop)
    (hR : Hid (∀ w', Below w.heap.size w w' → R (.returned (.tuple #[.int .i64 (ofV nm nm.length F qs).1, .agg #[.int .i64 (ofV nm nm.length F qs).2.1, .int .i64 (ofV nm nm.length F qs).2.2]])) w')) : Calls Try.prog 11 #[v, vq] w R := by
  refine labof_calls nm F v w h qs vq hq hgq hql R (Lib.hid fun w' e n => ?_) (Lib.hid fun x w' e n => ?_)
  · have := hR.out w' n
    rw [ofV_none e] at this
    exact this
  · have := hR.out w' n
    rw [ofV_some e] at this
    exact this
theorem refof1_calls (ws : List Wr) (f : Nat → List Bool) (v : Value) (w : World) (hm : RdM w v ws.length f) (hn : ws.length ≤ 64) (vw : Value) (hw : RdW w vw ws) (qs : List Wr) (vq : Value) (hq : RdW w vq qs) (hql : qs.length ≤ 1000000) (R : Ending → World → Prop)
    (hR : Hid (∀ w', Below w.heap.size w w' → R (.returned (.tuple #[.int .i64 (ofV (nms ws) ws.length (fun a b => on (f a) b) qs).1, .agg #[.int .i64 (ofV (nms ws) ws.length (fun a b => on (f a) b) qs).2.1, .int .i64 (ofV (nms ws) ws.length (fun a b => on (f a) b) qs).2.2]])) w')) : Calls Try.prog 12 #[vw, v, vq] w R := by
  refine refof_calls ws f v w hm hn vw hw qs vq hq hql R (Lib.hid fun w' e n => ?_) (Lib.hid fun x w' e n => ?_)
  · have := hR.out w' n
    rw [ofV_none e] at this
    exact this
  · have := hR.out w' n
    rw [ofV_some e] at this
    exact this
/-- What Of and Sees say, in cases. -/
theorem of_cases {ws : List Wr} {F : Nat → Nat → Bool} (hL : Latt ws.length F) (qs : List Wr) (obs : Int) :
    ((ofV (nms ws) ws.length F qs).2.1 ≠ 0 ∧ seesS (nms ws) F qs obs = false) ∨
    (∃ b : Nat, b < ws.length ∧ ofV (nms ws) ws.length F qs = ((b : Int), 0, 0) ∧ seesS (nms ws) F qs obs = (decide (0 ≤ obs ∧ obs < ws.length) && F b obs.toNat)) := by
  cases e : firF (ofAt (nms ws) qs) qs.length 0 with
  | some x =>
    refine .inl ⟨by rw [ofV_some e]; exact of_err e, ?_⟩
    unfold seesS; rw [e]; simp
  | none =>
    have hl := of_lt e
    rw [nms_len] at hl
    obtain ⟨h1, h2, -, -⟩ := lub_nat hL hl
    refine .inr ⟨_, h2, by rw [ofV_none e, h1], ?_⟩
    unfold seesS; rw [e, nms_len]; simp
set_option maxRecDepth 100000 in
set_option maxHeartbeats 2000000 in
theorem join12_live (ws : List Wr) (ps : List Pr) (vw vp : Value) (w : World) (hw : RdW w vw ws) (hp : RdPr w vp ps) (hgw : ∀ x ∈ ws, GoodW x) (qs : List Wr) (vq : Value) (hq : RdW w vq qs) (obs : Int) (hc : greatB ws ps = true ∨ 100 < qs.length) (R : Ending → World → Prop)
    (hR : Hid (∀ w', Below w.heap.size w w' → R (.returned (.bool true)) w')) : Calls Try.prog 3 #[.agg #[vw, vp], vq, .int .i64 obs] w R := by
  have b1 := (Below.refl w.heap.size w).alloc (Nat.le_refl _) (.cells #[vw, vp] 25)
  obtain ⟨k0, k1⟩ := box_two w vw vp 25
  have cG := fun R hR => great12_calls ws ps vw vp _ (hw.below b1) (hp.below b1) hgw R hR
  have cL := Lib.hid fun (W : World) R hR => lives12_calls W R hR
  obtain ⟨Aw, cw, rfl, -, -⟩ := hw.op
  obtain ⟨Ap, cp, rfl, -, -⟩ := hp.op
  obtain ⟨Aq, cq, rfl, -, -⟩ := hq.op
  replace b1 := Lib.hid b1
  clear hw hp hgw hq
  cases hg : greatB ws ps
  · rw [hg] at cG hc
    replace cG := Lib.hid cG
    have h1 : 100 < qs.length := by
      rcases hc with h | h
      · cases h
      · exact h
    clear hc hg
    go_enter Try.func3, Try.ntmps3
    go_wp2_with fail
    refine cG.out _ (Lib.hid fun w2 n2 => ?_)
    have n3 := Lib.hid (b1.out.trans (n2.mono b1.out.size))
    clear n2 k0 k1
    go_wp2_with fail
    refine cL.out _ _ (Lib.hid fun w4 n4 => ?_)
    have nf := Lib.hid (n3.out.trans (n4.mono n3.out.size))
    clear n4 n3
    go_wp2_with fail
    exact hR.out _ nf.out
  · rw [hg] at cG
    replace cG := Lib.hid cG
    clear hc hg
    go_enter Try.func3, Try.ntmps3
    go_wp2_with fail
    refine cG.out _ (Lib.hid fun w2 n2 => ?_)
    have n3 := Lib.hid (b1.out.trans (n2.mono b1.out.size))
    clear n2 k0 k1
    go_wp2_with fail
    refine cL.out _ _ (Lib.hid fun w4 n4 => ?_)
    have nf := Lib.hid (n3.out.trans (n4.mono n3.out.size))
    clear n4 n3
    go_wp2_with fail
    exact hR.out _ nf.out
/-- A fault's box, seen from any world behind. -/
structure Bxf (H : Nat) (e z : Int) (W : World) : Prop where
  lt : H < W.heap.size
  c0 : W.cell? ⟨H, 0, none⟩ = some (.int .i64 e)
  c1 : W.cell? ⟨H, 1, none⟩ = some (.int .i64 z)
theorem Bxf.new (W : World) (e z : Int) : Bxf W.heap.size e z (W.alloc (.cells #[.int .i64 e, .int .i64 z] 31)) := ⟨by simp, (box_two _ _ _ _).1, (box_two _ _ _ _).2⟩
theorem Bxf.below {H : Nat} {e z : Int} {W W' : World} (h : Bxf H e z W) (hb : Below W.heap.size W W') : Bxf H e z W' :=
  ⟨Nat.lt_of_lt_of_le h.lt hb.size, (hb.cell (p := ⟨H, 0, none⟩) h.lt).trans h.c0, (hb.cell (p := ⟨H, 1, none⟩) h.lt).trans h.c1⟩
set_option maxRecDepth 100000 in
set_option maxHeartbeats 4000000 in
theorem join12_walk (ws : List Wr) (ps : List Pr) (vw vp : Value) (w : World) (hw : RdW w vw ws) (hp : RdPr w vp ps) (hgw : ∀ x ∈ ws, GoodW x) (hgp : ∀ x ∈ ps, GoodR x) (qs : List Wr) (vq : Value) (hq : RdW w vq qs) (hgq : ∀ x ∈ qs, GoodW x) (obs : Int) (ho : Bd obs) (R : Ending → World → Prop)
    (hR : Hid (∀ w', Below w.heap.size w w' → R (.returned (.bool true)) w')) : Calls Try.prog 3 #[.agg #[vw, vp], vq, .int .i64 obs] w R := by
  by_cases hc : greatB ws ps = true ∨ 100 < qs.length
  · exact join12_live ws ps vw vp w hw hp hgw qs vq hq obs hc R hR
  have hg : greatB ws ps = false := by
    cases h : greatB ws ps
    · rfl
    · exact absurd (.inl h) hc
  have hql : qs.length ≤ 100 := Nat.le_of_not_lt fun h => hc (.inr h)
  obtain ⟨eW, hF⟩ := great_fine hg
  have h32 := hF.le
  have hL := hF.latt
  have hpos := hL.pos
  have b1 := (Below.refl w.heap.size w).alloc (Nat.le_refl _) (.cells #[vw, vp] 25)
  obtain ⟨k0, k1⟩ := box_two w vw vp 25
  have hH : w.heap.size < (w.alloc (.cells #[vw, vp] 25)).heap.size := by simp
  have cG := fun R hR => great12_calls ws ps vw vp _ (hw.below b1) (hp.below b1) hgw R hR
  rw [hg] at cG
  have cL := Lib.hid fun (W : World) R hR => lives12_calls W R hR
  have d1 : decide (100 < (qs.length : Int)) = false := decide_eq_false (by omega)
  have cB := Lib.hid fun (W : World) (hb : Below w.heap.size w W) R hR hR2 => build0_calls ws ps vw vp W (hw.below hb) (hp.below hb) hgw hgp R hR hR2
  have cQ := Lib.hid fun (W : World) (hb : Below w.heap.size w W) R hR => refleq_calls ws ps vw vp W (hw.below hb) (hp.below hb) hF.right (by have := hF.pairs; omega) R hR
  have cA := fun v (W : World) h (hb : Below w.heap.size w W) R hR => labof1_calls (nms ws) (leqF ws ps) v W h qs vq (hq.below hb) hgq (by omega) R hR
  have cF := fun (W : World) (hb : Below w.heap.size w W) v (hm : RdM W v ws.length (ldR ws.length (toN (idxQ ws ps)))) (R : Ending → World → Prop) (hR : Hid (∀ w', Below W.heap.size W w' → R (.returned (.tuple #[.int .i64 (ofV (nms ws) ws.length (leqF ws ps) qs).1, .agg #[.int .i64 (ofV (nms ws) ws.length (leqF ws ps) qs).2.1, .int .i64 (ofV (nms ws) ws.length (leqF ws ps) qs).2.2]])) w')) => refof1_calls ws (ldR ws.length (toN (idxQ ws ps))) v W hm (by omega) vw (hw.below hb) qs vq (hq.below hb) (by omega) R hR
  have cN := Lib.hid fun (W : World) (hb : Below w.heap.size w W) R hR => labofN_calls W qs vq (hq.below hb) hgq (by omega) R hR
  have cE := fun v (W : World) h (hb : Below w.heap.size w W) R hR => labsees_calls (nms ws) (leqF ws ps) v W h obs ho qs vq (hq.below hb) hgq (by omega) R hR
  have cEN := Lib.hid fun (W : World) (hb : Below w.heap.size w W) R hR => labseesN_calls W obs ho qs vq (hq.below hb) hgq (by omega) R hR
  rw [nms_len] at cA
  have key := of_cases hL qs obs
  obtain ⟨B, hB⟩ : ∃ B, seesS (nms ws) (leqF ws ps) qs obs = B := ⟨_, rfl⟩
  rw [hB] at cE key
  generalize ofV (nms ws) ws.length (leqF ws ps) qs = V at *
  obtain ⟨a, E, Z⟩ := V
  simp only at cA cF key
  obtain ⟨Aw, cw, rfl, -, -⟩ := hw.op
  obtain ⟨Ap, cp, rfl, -, -⟩ := hp.op
  obtain ⟨Aq, cq, rfl, -, -⟩ := hq.op
  replace cG := Lib.hid cG
  replace cA := Lib.hid cA
  replace cF := Lib.hid cF
  replace cE := Lib.hid cE
  replace key := Lib.hid key
  replace b1 := Lib.hid b1
  replace eW := Lib.hid eW
  replace hB := Lib.hid hB
  clear hw hp hgw hgp hg hF hc hq hgq hL
  go_enter Try.func3, Try.ntmps3
  go_wp2_with fail
  refine cG.out _ (Lib.hid fun w2 n2 => ?_)
  have e0 := (n2.cell (p := ⟨w.heap.size, 0, none⟩) hH).trans k0
  have e1 := (n2.cell (p := ⟨w.heap.size, 1, none⟩) hH).trans k1
  have hH2 := Nat.lt_of_lt_of_le hH n2.size
  have n3 := Lib.hid (b1.out.trans (n2.mono b1.out.size))
  clear n2 k0 k1 hH cG b1
  go_wp2_with fail
  refine cB.out w2 n3.out _ (Lib.hid fun v w4 _ l4 n4 => ?_) (Lib.hid fun w4 h _ => absurd (show (wrongS ws ps).1 = 0 by rw [eW.out]) h)
  obtain ⟨p, rfl⟩ := l4.ptr
  have f5 := (Below.refl w4.heap.size w4).alloc (Nat.le_refl _) (.cells #[.int .i64 0, .int .i64 0] 31)
  have b5 := n4.trans (f5.mono n4.size)
  have k0 := (b5.cell (p := ⟨w.heap.size, 0, none⟩) hH2).trans e0
  have k1 := (b5.cell (p := ⟨w.heap.size, 1, none⟩) hH2).trans e1
  have hH5 := Nat.lt_of_lt_of_le hH2 b5.size
  have n5 := Lib.hid (n3.out.trans (b5.mono n3.out.size))
  have l5 := Lib.hid (l4.below f5)
  clear f5 b5 e0 e1 hH2 n3 l4 n4 cB
  go_wp2_with fail
  generalize w4.alloc (.cells #[.int .i64 0, .int .i64 0] 31) = W5 at *
  refine cQ.out W5 n5.out _ (Lib.hid fun v1 w6 m6 n6 => ?_)
  obtain ⟨A6, c6, rfl, -, -⟩ := m6.op
  have k2 := Lib.hid ((n6.cell (p := ⟨w.heap.size, 0, none⟩) hH5).trans k0)
  have k3 := Lib.hid ((n6.cell (p := ⟨w.heap.size, 1, none⟩) hH5).trans k1)
  have hH6 := Nat.lt_of_lt_of_le hH5 n6.size
  have n7 := Lib.hid (n5.out.trans (n6.mono n5.out.size))
  have l7 := Lib.hid (l5.out.below n6)
  replace m6 := Lib.hid m6
  clear k0 k1 hH5 n5 l5 n6 cQ
  go_wp2_with fail
  refine cA.out _ w6 l7.out n7.out _ (Lib.hid fun w8 n8 => ?_)
  have f9 := (Below.refl w8.heap.size w8).alloc (Nat.le_refl _) (.cells #[.int .i64 E, .int .i64 Z] 31)
  have b9 := n8.trans (f9.mono n8.size)
  have x9 := Lib.hid (Bxf.new w8 E Z)
  have k0 := (b9.cell (p := ⟨w.heap.size, 0, none⟩) hH6).trans k2.out
  have k1 := (b9.cell (p := ⟨w.heap.size, 1, none⟩) hH6).trans k3.out
  have hH9 := Nat.lt_of_lt_of_le hH6 b9.size
  have n9 := Lib.hid (n7.out.trans (b9.mono n7.out.size))
  have l9 := Lib.hid (l7.out.below b9)
  have m9 := Lib.hid (m6.out.below b9)
  clear f9 b9 n8 k2 k3 hH6 n7 l7 m6 cA
  go_wp2_with fail
  generalize w8.alloc (.cells #[.int .i64 E, .int .i64 Z] 31) = W9 at *
  generalize w8.heap.size = H8 at *
  refine cF.out W9 n9.out _ m9.out _ (Lib.hid fun w10 n10 => ?_)
  have f11 := (Below.refl w10.heap.size w10).alloc (Nat.le_refl _) (.cells #[.int .i64 E, .int .i64 Z] 31)
  have b11 := n10.trans (f11.mono n10.size)
  have x11 := Lib.hid (x9.out.below b11)
  have y11 := Lib.hid (Bxf.new w10 E Z)
  have n11 := Lib.hid (n9.out.trans (b11.mono n9.out.size))
  have l11 := Lib.hid (l9.out.below b11)
  have m11 := Lib.hid (m9.out.below b11)
  clear f11 b11 n10 k0 k1 hH9 n9 l9 m9 x9 cF
  go_wp2_with fail
  generalize w10.alloc (.cells #[.int .i64 E, .int .i64 Z] 31) = W11 at *
  generalize w10.heap.size = H10 at *
  refine cN.out W11 n11.out _ (Lib.hid fun w12 n12 => ?_)
  have f13 := (Below.refl w12.heap.size w12).alloc (Nat.le_refl _) (.cells #[.int .i64 1, .int .i64 0] 31)
  have b13 := n12.trans (f13.mono n12.size)
  have x13 := Lib.hid (x11.out.below b13)
  have y13 := y11.out.below b13
  have u13 := Lib.hid (Bxf.new w12 1 0)
  have n13 := Lib.hid (n11.out.trans (b13.mono n11.out.size))
  have l13 := Lib.hid (l11.out.below b13)
  have m13 := m11.out.below b13
  clear f13 b13 n12 x11 y11 n11 l11 m11 cN
  go_upto_region 8 with fail
  generalize w12.alloc (.cells #[.int .i64 1, .int .i64 0] 31) = W13 at *
  generalize w12.heap.size = H12 at *
  have y0 := y13.c0
  have hrow := fun (b : Nat) (hb : b < ws.length) (o : Nat) (ho : o < ws.length) => mat_cell m13 hb ho
  replace hrow := Lib.hid hrow
  replace y13 := Lib.hid y13
  clear m13
  go_cut [16] (fun e wx => e = .bool B ∧ ∃ q, wx = W13.drewN q)
  case first =>
    clear cE cEN cL
    rcases key.out with ⟨h1, h2⟩ | ⟨b, hb, h1, h2⟩
    · subst h2
      have q0 : (E == 0) = false := by simpa using h1
      clear key h1 hB hrow
      go_wp2_with fail
      go_quiet (fail)
      go_wp2_with fail
      go_meet
      exact ⟨rfl, _, rfl⟩
    · obtain ⟨rfl, rfl, rfl⟩ : a = (b : Int) ∧ E = 0 ∧ Z = 0 := by
        have := h1
        simp only [Prod.mk.injEq] at this
        exact this
      clear h1
      by_cases o0 : 0 ≤ obs
      · by_cases o1 : obs < ws.length
        · obtain ⟨o, rfl⟩ : ∃ o : Nat, obs = o := ⟨obs.toNat, by omega⟩
          rw [decide_eq_true ⟨o0, o1⟩, Bool.true_and, Int.toNat_natCast] at h2
          obtain ⟨gm, om, cm, g1, o1', c1', em, z0, z1⟩ := hrow.out b hb o (by omega)
          simp only [Value.slice.injEq] at em
          obtain ⟨rfl, -, rfl⟩ := em
          rw [show on (ldR ws.length (toN (idxQ ws ps)) b) o = leqF ws ps b o from rfl, ← h2] at z1
          have et : (o : Int).tmod (ws.length : Int) = (o : Int) := by rw [Int.tmod_eq_emod_of_nonneg (by omega)]; exact Int.emod_eq_of_lt (by omega) (by omega)
          have j0 : (0 : Int) ≤ (b : Int) := by omega
          have j1 : (b : Int) < (ws.length : Int) := by omega
          have j2 : (0 : Int) ≤ (o : Int) := by omega
          have j3 : (o : Int) < (ws.length : Int) := by omega
          have j4 : ((ws.length : Int) == 0) = false := beq_eq_false_iff_ne.2 (by omega)
          clear key h2 hB hrow
          go_wp2_with fail
          go_quiet (fail)
          go_wp2_with fail
          go_meet
          exact ⟨rfl, _, rfl⟩
        · rw [decide_eq_false (fun h => o1 h.2), Bool.false_and] at h2
          subst h2
          have g0 : decide (0 ≤ obs) = true := decide_eq_true o0
          have g1 : decide (obs < (ws.length : Int)) = false := decide_eq_false o1
          clear key hB hrow
          go_wp2_with fail
          go_quiet (fail)
          go_wp2_with fail
          go_meet
          exact ⟨rfl, _, rfl⟩
      · rw [decide_eq_false (fun h => o0 h.1), Bool.false_and] at h2
        subst h2
        have g0 : decide (0 ≤ obs) = false := decide_eq_false o0
        clear key hB hrow
        go_wp2_with fail
        go_quiet (fail)
        go_wp2_with fail
        go_meet
        exact ⟨rfl, _, rfl⟩
  case rest =>
    obtain ⟨rfl, q, rfl⟩ := hcut
    have bm := below_drewN (Below.refl W13.heap.size W13) q
    have x14 := (x13.out.below bm)
    have y14 := (y13.out.below bm)
    have u14 := (u13.out.below bm)
    have n14 := Lib.hid (n13.out.trans (bm.mono n13.out.size))
    have l14 := Lib.hid (l13.out.below bm)
    have x0 := x14.c0
    have x1 := x14.c1
    have yy0 := y14.c0
    have y1 := y14.c1
    have u0 := u14.c0
    have u1 := u14.c1
    clear bm x14 y14 u14 x13 y13 u13 n13 l13 y0 hrow key hB
    generalize W13.drewN q = W14 at *
    go_wp2_with fail
    refine cE.out _ W14 l14.out n14.out _ (Lib.hid fun w15 n15 => ?_)
    have n16 := Lib.hid (n14.out.trans (n15.mono n14.out.size))
    clear n14 n15 l14 x0 x1 yy0 y1 u0 u1
    go_wp2_with fail
    refine cEN.out w15 n16.out _ (Lib.hid fun w17 n17 => ?_)
    have n18 := Lib.hid (n16.out.trans (n17.mono n16.out.size))
    clear n16 n17
    go_wp2_with fail
    refine cL.out w17 _ (Lib.hid fun w19 n19 => ?_)
    have nf := Lib.hid (n18.out.trans (n19.mono n18.out.size))
    clear n18 n19
    go_wp2_with fail
    exact hR.out _ nf.out
end Go.Proofs.Ytlijjbcamkhhaaa.Lab

/- LabelsSame: the law's walk. -/
set_option maxRecDepth 100000
set_option linter.unusedVariables false
namespace Go.Proofs.Ytlijjbcamkhhaaa.Lab
open Go.RowKit Go.Lib Go.Proofs.Ytlijjbcamkhhaaa.Utf Go.Proofs.Ytlijjbcamkhhaaa.Rel Go.Proofs.Ytlijjbcamkhhaaa.Nam Go.Proofs.Ytlijjbcamkhhaaa.Lat Go.Proofs.Ytlijjbcamkhhaaa.Pat Go.ChangeShapes Go.WideShapes

/-- The levels among the first K words; whether an observer sees each of these. -/
def fndK (nm : List ByteArray) (qs : List Wr) (K : Nat) : List Nat := ((qs.take K).filter fun q => decide (0 ≤ findS nm q.1)).map fun q => (findS nm q.1).toNat
def echB (nm : List ByteArray) (n : Nat) (F : Nat → Nat → Bool) (obs : Int) (q : ByteArray) : Bool := decide (0 ≤ findS nm q) && (decide (0 ≤ obs ∧ obs < n) && F (findS nm q).toNat obs.toNat)
def echK (nm : List ByteArray) (n : Nat) (F : Nat → Nat → Bool) (obs : Int) (qs : List Wr) (K : Nat) : Bool := (qs.take K).all fun q => echB nm n F obs q.1
theorem take_wN {qs : List Wr} {K : Nat} (h : K < qs.length) : qs.take (K + 1) = qs.take K ++ [wN qs K] := by rw [List.take_succ_eq_append_getElem h, wN_get h]
theorem fndK_yes {nm : List ByteArray} {qs : List Wr} {K : Nat} (h : K < qs.length) (hk : 0 ≤ findS nm (wN qs K).1) : fndK nm qs (K + 1) = fndK nm qs K ++ [(findS nm (wN qs K).1).toNat] := by
  unfold fndK
  rw [take_wN h, List.filter_append, List.filter_cons_of_pos (by simpa using hk), List.map_append]
  rfl
theorem fndK_no {nm : List ByteArray} {qs : List Wr} {K : Nat} (h : K < qs.length) (hk : ¬ 0 ≤ findS nm (wN qs K).1) : fndK nm qs (K + 1) = fndK nm qs K := by
  unfold fndK
  rw [take_wN h, List.filter_append, List.filter_cons_of_neg (by simpa using hk), List.filter_nil, List.append_nil]
theorem echK_succ {nm : List ByteArray} {n : Nat} {F : Nat → Nat → Bool} {obs : Int} {qs : List Wr} {K : Nat} (h : K < qs.length) : echK nm n F obs qs (K + 1) = (echK nm n F obs qs K && echB nm n F obs (wN qs K).1) := by
  unfold echK
  rw [take_wN h, List.all_append]; simp
theorem fndK_lt (nm : List ByteArray) (qs : List Wr) (K : Nat) : ∀ a ∈ fndK nm qs K, a < nm.length := fun a ha => by
  obtain ⟨q, hq, rfl⟩ := List.mem_map.1 ha
  have h1 := (List.mem_filter.1 hq).2
  rw [decide_eq_true_iff] at h1
  have := find_lt nm q.1
  omega
theorem fndK_len (nm : List ByteArray) (qs : List Wr) (K : Nat) : (fndK nm qs K).length ≤ K := by
  unfold fndK
  rw [List.length_map]
  exact Nat.le_trans (List.length_filter_le _ _) (by rw [List.length_take]; omega)
/-- An observer sees a label exactly if it sees each of its levels. -/
theorem sees_each {ws : List Wr} {F : Nat → Nat → Bool} (hL : Latt ws.length F) (qs : List Wr) (obs : Int) (hv : 0 ≤ obs ∧ obs < ws.length) : seesS (nms ws) F qs obs = echK (nms ws) ws.length F obs qs qs.length := by
  unfold seesS echK
  rw [List.take_length, nms_len, decide_eq_true hv, Bool.true_and]
  cases e : firF (ofAt (nms ws) qs) qs.length 0 with
  | some x =>
    obtain ⟨j, -, h1, h2⟩ := fir_some _ _ e
    rw [Nat.zero_add] at h1
    have hlt : findS (nms ws) (wN qs j).1 < 0 := by
      unfold ofAt at h2
      split at h2
      · assumption
      · cases h2
    have : qs.all (fun q => echB (nms ws) ws.length F obs q.1) = false := by
      rw [List.all_eq_false]
      refine ⟨wN qs j, wN_mem h1, ?_⟩
      unfold echB
      rw [decide_eq_false (by omega : ¬ 0 ≤ findS (nms ws) (wN qs j).1)]; simp
    rw [this]; rfl
  | none =>
    have hl := of_lt e
    rw [nms_len] at hl
    have hall : ∀ j, j < qs.length → 0 ≤ findS (nms ws) (wN qs j).1 := fun j hj => by
      have := fir_none _ _ e j (Nat.zero_le _) (by omega)
      unfold ofAt at this
      split at this
      · cases this
      · omega
    rw [lub_le hL hl (by omega : obs.toNat < ws.length)]
    simp only [Option.isNone_none, Bool.true_and]
    rw [Bool.eq_iff_iff, over_iff, List.all_eq_true]
    constructor
    · intro h q hq
      obtain ⟨i, hi, rfl⟩ := List.getElem_of_mem hq
      have h1 := hall i hi
      rw [wN_get hi] at h1
      unfold echB
      rw [decide_eq_true h1, decide_eq_true hv, Bool.true_and, Bool.true_and]
      exact h _ (List.mem_map.2 ⟨_, hq, rfl⟩)
    · intro h a ha
      obtain ⟨q, hq, rfl⟩ := List.mem_map.1 ha
      have := h q hq
      unfold echB at this
      rw [Bool.and_eq_true, Bool.and_eq_true] at this
      exact this.2.2
theorem cast_bd {l : List Nat} {n : Nat} (h : ∀ a ∈ l, a < n) (hn : n ≤ 32) : ∀ x ∈ l.map (fun (a : Nat) => (a : Int)), Bd x := fun x hx => by
  obtain ⟨a, ha, rfl⟩ := List.mem_map.1 hx
  have := h a ha
  exact ⟨by omega, by omega⟩
set_option maxRecDepth 100000 in
set_option maxHeartbeats 2000000 in
theorem same12_live (ws : List Wr) (ps : List Pr) (vw vp : Value) (w : World) (hw : RdW w vw ws) (hp : RdPr w vp ps) (hgw : ∀ x ∈ ws, GoodW x) (hgp : ∀ x ∈ ps, GoodR x) (qs : List Wr) (vq : Value) (hq : RdW w vq qs) (obs : Int) (hc : (wrongS ws ps).1 ≠ 0 ∨ 100 < qs.length) (R : Ending → World → Prop)
    (hR : Hid (∀ w', Below w.heap.size w w' → R (.returned (.bool true)) w')) : Calls Try.prog 6 #[.agg #[vw, vp], vq, .int .i64 obs] w R := by
  have b1 := (Below.refl w.heap.size w).alloc (Nat.le_refl _) (.cells #[vw, vp] 25)
  obtain ⟨k0, k1⟩ := box_two w vw vp 25
  have cB := Lib.hid fun R hR hR2 => build0_calls ws ps vw vp _ (hw.below b1) (hp.below b1) hgw hgp R hR hR2
  have cL := Lib.hid fun (W : World) R hR => lives12_calls W R hR
  obtain ⟨Aw, cw, rfl, -, -⟩ := hw.op
  obtain ⟨Ap, cp, rfl, -, -⟩ := hp.op
  obtain ⟨Aq, cq, rfl, -, -⟩ := hq.op
  replace b1 := Lib.hid b1
  replace hc := Lib.hid hc
  clear hw hp hgw hgp hq
  go_enter Try.func6, Try.ntmps6
  go_wp2_with fail
  refine cB.out _ (Lib.hid fun v w2 e l2 n2 => ?_) (Lib.hid fun w2 he n2 => ?_)
  · have h1 : 100 < qs.length := by
      rcases hc.out with h | h
      · exact absurd (by rw [e]) h
      · exact h
    obtain ⟨p, rfl⟩ := l2.ptr
    have n3 := b1.out.trans (n2.mono b1.out.size)
    have n4 := Lib.hid (n3.alloc n3.size (.cells #[.int .i64 0, .int .i64 0] 31))
    clear n2 k0 k1 e l2 n3
    go_wp2_with fail
    refine cL.out _ _ (Lib.hid fun w4 n5 => ?_)
    have nf := Lib.hid (n4.out.trans (n5.mono n4.out.size))
    clear n4 n5
    go_wp2_with fail
    exact hR.out _ nf.out
  · generalize wrongS ws ps = V at *
    obtain ⟨e, z⟩ := V
    have q0 : (e != 0) = true := by simpa using he
    have n3 := b1.out.trans (n2.mono b1.out.size)
    have n4 := Lib.hid (n3.alloc n3.size (.cells #[.int .i64 e, .int .i64 z] 31))
    clear n2 k0 k1 he n3
    go_wp2_with fail
    refine cL.out _ _ (Lib.hid fun w4 n5 => ?_)
    have nf := Lib.hid (n4.out.trans (n5.mono n4.out.size))
    clear n4 n5
    go_wp2_with fail
    exact hR.out _ nf.out
set_option maxRecDepth 100000 in
set_option maxHeartbeats 4000000 in
theorem same12_walk (ws : List Wr) (ps : List Pr) (vw vp : Value) (w : World) (hw : RdW w vw ws) (hp : RdPr w vp ps) (hgw : ∀ x ∈ ws, GoodW x) (hgp : ∀ x ∈ ps, GoodR x) (qs : List Wr) (vq : Value) (hq : RdW w vq qs) (hgq : ∀ x ∈ qs, GoodW x) (obs : Int) (ho : Bd obs) (R : Ending → World → Prop)
    (hR : Hid (∀ w', Below w.heap.size w w' → R (.returned (.bool true)) w')) : Calls Try.prog 6 #[.agg #[vw, vp], vq, .int .i64 obs] w R := by
  by_cases hc : (wrongS ws ps).1 ≠ 0 ∨ 100 < qs.length
  · exact same12_live ws ps vw vp w hw hp hgw hgp qs vq hq obs hc R hR
  have h0 : (wrongS ws ps).1 = 0 := Classical.byContradiction fun h => hc (.inl h)
  have hql : qs.length ≤ 100 := Nat.le_of_not_lt fun h => hc (.inr h)
  obtain ⟨eW, hF⟩ := wrong_ok h0
  have h32 := hF.le
  have hL := hF.latt
  have hnl := names_le h0
  have hok := names_ok h0
  have hrn := wrong_names h0
  have b1 := (Below.refl w.heap.size w).alloc (Nat.le_refl _) (.cells #[vw, vp] 25)
  obtain ⟨k0, k1⟩ := box_two w vw vp 25
  have cB := Lib.hid fun R hR hR2 => build0_calls ws ps vw vp _ (hw.below b1) (hp.below b1) hgw hgp R hR hR2
  have cL := Lib.hid fun (W : World) R hR => lives12_calls W R hR
  have d1 : decide (100 < (qs.length : Int)) = false := decide_eq_false (by omega)
  have cF := Lib.hid fun v (W : World) h s hs R hR => latfind_calls (nms ws) (leqF ws ps) v W h R s hs hR
  have cQ := Lib.hid fun v (W : World) h (k : Int) (hk : Bd k) R hR => latleq_calls (nms ws) (leqF ws ps) v W h R k obs hk ho hR
  have cNm := Lib.hid fun v (W : World) h R hR => latname_calls (nms ws) (leqF ws ps) v W h R obs ho hR
  have cE := Lib.hid fun v (W : World) h (hb : Below w.heap.size w W) R hR => labsees_calls (nms ws) (leqF ws ps) v W h obs ho qs vq (hq.below hb) hgq (by omega) R hR
  have cH := Lib.hid fun v (W : World) h xs vx hx hgx hxl R hR => labhighest_calls (nms ws) (leqF ws ps) v W h xs vx hx hgx hxl R hR
  have cT := Lib.hid fun v (W : World) h xs vx hx hgx hxl R hR => labtext_calls (nms ws) (leqF ws ps) v W h hnl xs vx hx hgx hxl R hR
  have cU := Lib.hid fun v (W : World) h xs ys vx vy hx hy hgx hgy hxl hyl R hR => labunder_calls (nms ws) (leqF ws ps) v W h xs ys vx vy hx hy hgx hgy hxl hyl R hR
  have cP := Lib.hid fun v (W : World) h s hs R hR => labparse1_calls (nms ws) (leqF ws ps) v W h s hs R hR
  have cS := Lib.hid fun (xs : List Int) va vb (W : World) hx hy hxl R (hR : Hid (∀ w', Below W.heap.size W w' → R (.returned (.bool true)) w')) => refsame_self xs va vb W hx hy hxl R hR
  have hsee := sees_each hL qs obs
  have hgs := fun i (h : i < qs.length) => (hgq _ (wN_mem h)).1
  obtain ⟨Aw, cw, rfl, -, -⟩ := hw.op
  obtain ⟨Ap, cp, rfl, -, -⟩ := hp.op
  obtain ⟨Aq, cq, rfl, -, hrq⟩ := hq.op
  obtain ⟨j0, hJi, yz0, yz1, yz2⟩ := info_parts infoIntR
  replace b1 := Lib.hid b1
  replace eW := Lib.hid eW
  replace hL := Lib.hid hL
  replace hnl := Lib.hid hnl
  replace hok := Lib.hid hok
  replace hrn := Lib.hid hrn
  replace hsee := Lib.hid hsee
  replace hgs := Lib.hid hgs
  replace hrq := Lib.hid hrq
  clear hw hp hgw hgp hF hc hq hgq h0
  go_enter Try.func6, Try.ntmps6
  go_wp2_with fail
  refine cB.out _ (Lib.hid fun v w4 _ l4 n4 => ?_) (Lib.hid fun w4 h _ => absurd (show (wrongS ws ps).1 = 0 by rw [eW.out]) h)
  obtain ⟨p, rfl⟩ := l4.ptr
  have f5 := (Below.refl w4.heap.size w4).alloc (Nat.le_refl _) (.cells #[.int .i64 0, .int .i64 0] 31)
  have b5 := n4.trans (f5.mono n4.size)
  have n5 := Lib.hid (b1.out.trans (b5.mono b1.out.size))
  have l5 := Lib.hid (l4.below f5)
  clear f5 b5 b1 l4 n4 cB k0 k1
  go_wp2_with fail
  generalize w4.alloc (.cells #[.int .i64 0, .int .i64 0] 31) = W5 at *
  go_loopg [9, 10, 11] qs.length (fun g s9 s10 i wr => ∃ (K L : Nat) (vo : Value) (l : List Nat) (B : Bool), vo = s9 ∧ s10 = .bool B ∧ i = .int .i64 K ∧ K + g = qs.length ∧ L ≤ K ∧ Hid (l.length = L) ∧ Hid (Below W5.heap.size W5 wr) ∧ Hid (wr.ownsRow W5.heap.size 3 1 vo L (ivR l)) ∧ Hid (fndK (nms ws) qs K = l) ∧ Hid (echK (nms ws) ws.length (leqF ws ps) obs qs K = B))
  case atStart => exact ⟨0, 0, _, [], true, rfl, rfl, rfl, by omega, by omega, Lib.hid rfl, Lib.hid (Below.refl _ _), Lib.hid (World.ownsRow_nil _ _ _ _), Lib.hid rfl, Lib.hid rfl⟩
  case round =>
    obtain ⟨K, L, vo, l, B, rfl, rfl, rfl, c1, c2, hLl, nb, own, hs, he⟩ := hrel
    have hsz := nb.out.size
    by_cases hK : K < qs.length
    · obtain ⟨g, o, rfl, hg, hca⟩ := hrq.out (by omega)
      have y0 := (nb.out.cell (p := ⟨g, o + K * 2, none⟩) (Nat.lt_of_lt_of_le hg n5.out.size)).trans ((n5.out.cell (p := ⟨g, o + K * 2, none⟩) hg).trans (hca K hK).1)
      have hgk := hgs.out K hK
      have e1 := echK_succ (nm := nms ws) (n := ws.length) (F := leqF ws ps) (obs := obs) hK
      rw [he.out] at e1
      have e2 := fndK_yes (nm := nms ws) hK
      have e3 := fndK_no (nm := nms ws) hK
      rw [hs.out] at e2 e3
      have cF1 := cF.out _ wr (l5.out.below nb.out) (wN qs K).1 hgk
      have hfl := find_lt (nms ws) (wN qs K).1
      rw [nms_len] at hfl
      have cQ1 := fun (W : World) h k hk R hR => cQ.out (.pointer (some ⟨p, 0, none⟩)) W h k hk R hR
      rw [nms_len] at cQ1
      unfold echB at e1
      have lr := Lib.hid (l5.out.below nb.out)
      have i0 : (0 : Int) ≤ (K : Int) := by omega
      have i1 : (K : Int) < (qs.length : Int) := by omega
      clear hca hs he hgk
      generalize (wN qs K).1 = s at *
      generalize findS (nms ws) s = k at *
      by_cases hk : 0 ≤ k
      · obtain ⟨a, rfl⟩ : ∃ a : Nat, k = a := ⟨k.toNat, by omega⟩
        rw [decide_eq_true hk, Bool.true_and, Int.toNat_natCast] at e1
        have e4 := e2 hk
        rw [Int.toNat_natCast] at e4
        rw [if_neg (by omega), decide_eq_true hk] at cF1
        obtain ⟨D, hD⟩ : ∃ D, (decide (0 ≤ obs ∧ obs < ws.length) && leqF ws ps a obs.toNat) = D := ⟨_, rfl⟩
        rw [hD] at e1
        have hq : (decide (0 ≤ (a : Int) ∧ (a : Int) < (ws.length : Int) ∧ 0 ≤ obs ∧ obs < (ws.length : Int)) && leqF ws ps (a : Int).toNat obs.toNat) = D := by
          rw [← hD, Int.toNat_natCast]
          congr 1
          exact decide_eq_decide.2 ⟨fun h => ⟨h.2.2.1, h.2.2.2⟩, fun h => ⟨by omega, by omega, h.1, h.2⟩⟩
        have cQ2 := fun (W : World) h R hR => cQ1 W h (a : Int) ⟨by omega, by omega⟩ R hR
        rw [hq] at cQ2
        replace cF1 := Lib.hid cF1
        replace cQ2 := Lib.hid cQ2
        replace e1 := Lib.hid e1
        replace e4 := Lib.hid e4
        clear e2 e3 hk hD hq cQ1 hfl
        cases B
        · go_wp2_with fail
          refine cF1.out _ (Lib.hid fun w6 n6 => ?_)
          have n7 := Lib.hid (nb.out.trans (n6.mono hsz))
          have hsz7 := n7.out.size
          have ow7 := own_below own.out n6
          clear n6
          go_wp2_with (at_builtin; refine app1 w6 (.int .i64 (a : Nat)) 3 rfl _ _ 42 rfl W5.heap.size j0 (.int .i64 0) 8 Try.underlying42 hJi yz0 yz1 yz2 rfl vo _ _ rfl ow7 rfl rfl (by unfold maxLen; omega) (by omega) hsz7 ?_; intro v' w8 hown3 hg3 hb3)
          have n9 := Lib.hid (n7.out.trans (hb3.mono (Nat.le_refl _)))
          go_roundg (gk - 1)
          case measure => omega
          case rel => exact ⟨K + 1, L + 1, v', l ++ [a], false, rfl, rfl, by go_num, by omega, by omega, Lib.hid (by simp [hLl.out]), n9, Lib.hid (by rw [show ivR (l ++ [a]) = ivR l ++ [.int .i64 (a : Nat)] by simp [ivR]]; exact hown3), e4, e1⟩
        · go_wp2_with fail
          refine cF1.out _ (Lib.hid fun w6 n6 => ?_)
          have n7 := Lib.hid (nb.out.trans (n6.mono hsz))
          have l7 := lr.out.below n6
          have ow7 := Lib.hid (own_below own.out n6)
          clear n6
          go_wp2_with fail
          refine cQ2.out _ l7 _ (Lib.hid fun w8 n8 => ?_)
          have n9 := Lib.hid (n7.out.trans (n8.mono n7.out.size))
          have hsz9 := n9.out.size
          have ow9 := own_below ow7.out n8
          clear n8 l7 n7 ow7
          go_wp2_with (at_builtin; refine app1 w8 (.int .i64 (a : Nat)) 3 rfl _ _ 42 rfl W5.heap.size j0 (.int .i64 0) 8 Try.underlying42 hJi yz0 yz1 yz2 rfl vo _ _ rfl ow9 rfl rfl (by unfold maxLen; omega) (by omega) hsz9 ?_; intro v' w10 hown3 hg3 hb3)
          have n11 := Lib.hid (n9.out.trans (hb3.mono (Nat.le_refl _)))
          go_roundg (gk - 1)
          case measure => omega
          case rel => exact ⟨K + 1, L + 1, v', l ++ [a], D, rfl, rfl, by go_num, by omega, by omega, Lib.hid (by simp [hLl.out]), n11, Lib.hid (by rw [show ivR (l ++ [a]) = ivR l ++ [.int .i64 (a : Nat)] by simp [ivR]]; exact hown3), e4, Lib.hid (by rw [e1.out]; rfl)⟩
      · rw [decide_eq_false hk, Bool.false_and, Bool.and_false] at e1
        have e4 := e3 hk
        rw [if_pos (by omega), decide_eq_false hk] at cF1
        replace cF1 := Lib.hid cF1
        replace e1 := Lib.hid e1
        replace e4 := Lib.hid e4
        clear e2 e3 hk cQ1 hfl
        cases B
        all_goals
          go_wp2_with fail
          refine cF1.out _ (Lib.hid fun w6 n6 => ?_)
          have n7 := Lib.hid (nb.out.trans (n6.mono hsz))
          have ow7 := Lib.hid (own_below own.out n6)
          clear n6
          go_wp2_with fail
          go_roundg (gk - 1)
          case measure => omega
          case rel => exact ⟨K + 1, L, vo, l, false, rfl, rfl, by go_num, by omega, by omega, hLl, n7, ow7, e4, e1⟩
    · obtain rfl : K = qs.length := by omega
      have hlt : ∀ a ∈ l, a < ws.length := by
        have := fndK_lt (nms ws) qs qs.length
        rw [hs.out, nms_len] at this
        exact this
      obtain ⟨hh, hhh⟩ : ∃ h, higS ws.length (leqF ws ps) l = h := ⟨_, rfl⟩
      have hhlt : ∀ a ∈ hh, a < ws.length := by rw [← hhh]; exact higS_lt
      have hhll : hh.length ≤ 32 := by rw [← hhh]; exact Nat.le_trans (higS_len _) h32
      have hv1 : lvS ws.length (l.map fun (a : Nat) => (a : Int)) = l := lvS_nat hlt
      have hv2 : lvS ws.length (hh.map fun (a : Nat) => (a : Int)) = hh := lvS_nat hhlt
      have hu := hig_lub hL.out hlt
      rw [hhh] at hu
      have hv3 : ∃ t, lvS ws.length ((hh.map fun (a : Nat) => (a : Int)) ++ [obs]) = hh ++ t := ⟨_, by rw [lvS_append, hv2]⟩
      obtain ⟨t3, hv3⟩ := hv3
      have hu3 : leqF ws ps (lubN ws.length (leqF ws ps) l) (lubN ws.length (leqF ws ps) (hh ++ t3)) = true := by
        refine lub_mono hL.out hlt (by rw [← hv3]; exact lvS_lt) fun a ha => ?_
        obtain ⟨b, hb, hab⟩ := hig_over hL.out.ord hlt a ha
        rw [hhh] at hb
        exact ⟨b, List.mem_append_left _ hb, hab⟩
      have hLL : l.length ≤ 1000 := by rw [hLl.out]; omega
      have rx := RdAt.of_own own.out
      rw [iv_izv] at rx
      have bdx := cast_bd hlt h32
      have bdh := cast_bd hhlt h32
      have n8 := Lib.hid (n5.out.trans (nb.out.mono n5.out.size))
      have l8 := Lib.hid (l5.out.below nb.out)
      obtain ⟨A9, c9, rfl⟩ : ∃ A c, vo = .slice A l.length c := by
        obtain ⟨A, c, e, -, -⟩ := ivR_at (RdAt.of_own own.out)
        exact ⟨A, c, e⟩
      have cH1 := cH.out _ wr l8.out _ _ rx bdx (by rw [List.length_map]; exact hLL)
      rw [nms_len, hv1, hhh] at cH1
      replace cH1 := Lib.hid cH1
      replace rx := Lib.hid rx
      replace bdx := Lib.hid bdx
      replace bdh := Lib.hid bdh
      replace hlt := Lib.hid hlt
      replace hhlt := Lib.hid hhlt
      replace hv1 := Lib.hid hv1
      replace hv2 := Lib.hid hv2
      replace hv3 := Lib.hid hv3
      replace hhh := Lib.hid hhh
      replace hu := Lib.hid hu
      replace hu3 := Lib.hid hu3
      clear own hs nb l5 n5 cF cQ hgs hrq
      have hwr : w.heap.size ≤ wr.heap.size := n8.out.size
      have nq0 : l ≠ [] → hh ≠ [] := fun h => by rw [← hhh.out]; exact hig_nil hL.out.ord hlt.out h
      have hpar : hh ≠ [] → parS (nms ws) (txtS (nms ws) hh) = (some hh, 0, 0) := fun h => par_txt hok.out (by rw [nms_len]; exact hhlt.out) h
      have hpp : higS ws.length (leqF ws ps) hh = hh := by rw [← hhh.out]; exact hig_hig l
      have htz := txt_size (nm := nms ws) (l := hh) hnl.out hh.length
      replace nq0 := Lib.hid nq0
      replace hpar := Lib.hid hpar
      replace hpp := Lib.hid hpp
      replace htz := Lib.hid (Nat.le_trans htz (show 33 * hh.length ≤ 1000000 by omega))
      go_wp2_with fail
      refine cH1.out _ (Lib.hid fun v10 L10 w10 o10 n10 => ?_)
      obtain ⟨rfl, r10, A10, c10, rfl⟩ := own_row o10
      have nw := Lib.hid n10
      have cN1 := cNm.out _ w10 (l8.out.below n10)
      replace r10 := Lib.hid r10
      replace o10 := Lib.hid o10
      clear n10 cH1 cH cNm
      by_cases hv : 0 ≤ obs ∧ obs < ws.length
      · have hnv := hrn.out obs.toNat (by omega)
        have hnz := (rightS_pos hnv).1
        rw [nms_len, if_pos hv, nms_at (by omega)] at cN1
        have eS : ((wN ws obs.toNat).1.toList != (⟨#[]⟩ : ByteArray).toList) = true := sne_t (fun h => by rw [h] at hnz; exact absurd hnz (by decide))
        have hE1 : (wN ws obs.toNat).1.toList.isEmpty = false := by
          cases h : (wN ws obs.toNat).1.toList.isEmpty
          · rfl
          · have h2 := List.isEmpty_iff.1 h
            rw [ba_toList] at h2
            have h3 : (wN ws obs.toNat).1.size = 0 := by rw [← ByteArray.size_data, ← Array.length_toList, h2]; rfl
            omega
        have hE2 : ¬ (wN ws obs.toNat).1.toList = [] := fun h => by rw [h] at hE1; cases hE1
        have hsee1 := hsee.out hv
        rw [he.out] at hsee1
        generalize (wN ws obs.toNat).1 = sN at *
        replace cN1 := Lib.hid cN1
        have eB : (B != B) = false := by cases B <;> rfl
        replace hv := Lib.hid hv
        replace hnv := Lib.hid hnv
        replace eS := Lib.hid eS
        replace hE1 := Lib.hid hE1
        replace hE2 := Lib.hid hE2
        replace hsee1 := Lib.hid hsee1
        replace eB := Lib.hid eB
        clear hnz hrn
        go_wp2_with fail
        refine cN1.out _ (Lib.hid fun w12 n12 => ?_)
        have nw12 := Lib.hid (nw.out.trans (n12.mono nw.out.size))
        have nv12 := Lib.hid n12
        have cE1 := cE.out _ w12 (l8.out.below nw12.out) (n8.out.trans (nw12.out.mono hwr))
        rw [hsee1.out] at cE1
        replace cE1 := Lib.hid cE1
        replace eS := eS.out
        replace hE1 := hE1.out
        replace hE2 := hE2.out
        clear n12 nw cN1 cE hsee hsee1
        go_wp2_with fail
        refine cE1.out _ (Lib.hid fun w14 n14 => ?_)
        have nw14 := Lib.hid (nw12.out.trans (n14.mono nw12.out.size))
        have nv14 := Lib.hid (nv12.out.trans (n14.mono nv12.out.size))
        replace eS := Lib.hid eS
        replace hE1 := Lib.hid hE1
        replace hE2 := Lib.hid hE2
        replace eB := eB.out
        clear n14 nw12 nv12 cE1
        have cU1 := cU.out _ w14 (l8.out.below nw14.out) _ _ _ _ (RdAt.below rx.out nw14.out) (RdAt.below r10.out nv14.out) bdx.out bdh.out (by rw [List.length_map]; exact hLL) (by rw [List.length_map]; omega)
        rw [nms_len, hv1.out, hv2.out, hu.out.1] at cU1
        replace cU1 := Lib.hid cU1
        go_wp2_with fail
        refine cU1.out _ (Lib.hid fun w16 n16 => ?_)
        have nw16 := Lib.hid (nw14.out.trans (n16.mono nw14.out.size))
        have nv16 := Lib.hid (nv14.out.trans (n16.mono nv14.out.size))
        clear nw14 nv14 n16 cU1
        have cU2 := cU.out _ w16 (l8.out.below nw16.out) _ _ _ _ (RdAt.below r10.out nv16.out) (RdAt.below rx.out nw16.out) bdh.out bdx.out (by rw [List.length_map]; omega) (by rw [List.length_map]; exact hLL)
        rw [nms_len, hv1.out, hv2.out, hu.out.2] at cU2
        replace cU2 := Lib.hid cU2
        go_wp2_with fail
        refine cU2.out _ (Lib.hid fun w18 n18 => ?_)
        have nw18 := Lib.hid (nw16.out.trans (n18.mono nw16.out.size))
        have nv18 := Lib.hid (nv16.out.trans (n18.mono nv16.out.size))
        have o19 := own_below o10.out nv18.out
        have hb19 : wr.heap.size ≤ w18.heap.size := nw18.out.size
        clear nw16 nv16 n18 cU2
        go_wp2_with (at_builtin; go_loud (refine app1kg w18 (.int .i64 obs) 3 (by kernel_rfl) _ _ 42 rfl wr.heap.size j0 (.int .i64 0) 8 Try.underlying42 hJi yz0 yz1 yz2 rfl (.slice A10 hh.length c10) _ _ rfl o19 rfl rfl (by unfold maxLen; omega) (by omega) hb19 ?_); intro v20 w20 hown3 hg3 hb3 hrd3)
        have bd20 : ∀ x ∈ (hh.map fun (a : Nat) => (a : Int)) ++ [obs], Bd x := fun x hx => by
          rcases List.mem_append.1 hx with h | h
          · exact bdh.out x h
          · rw [List.mem_singleton.1 h]; exact ho
        have r20 := RdAt.of_own hown3
        rw [iv_izv, show izv (hh.map fun (a : Nat) => (a : Int)) ++ [.int .i64 obs] = izv ((hh.map fun (a : Nat) => (a : Int)) ++ [obs]) by simp [izv]] at r20
        rw [iv_izv] at hrd3
        have nw20 := Lib.hid (nw18.out.trans hb3)
        have nz20 := Lib.hid (Below.refl w20.heap.size w20)
        have cU3 := cU.out _ w20 (l8.out.below nw20.out) _ _ _ _ (RdAt.below rx.out nw20.out) r20 bdx.out bd20 (by rw [List.length_map]; exact hLL) (by rw [List.length_append, List.length_map]; simp; omega)
        rw [nms_len, hv1.out, hv3.out, hu3.out] at cU3
        replace cU3 := Lib.hid cU3
        replace hrd3 := Lib.hid hrd3
        clear o19 hb19 hown3 hg3 hb3 bd20 r20 nw18 nv18
        go_wp2_with fail
        refine cU3.out _ (Lib.hid fun w22 n22 => ?_)
        have nw22 := Lib.hid (nw20.out.trans (n22.mono nw20.out.size))
        have nz22 := Lib.hid (nz20.out.trans (n22.mono nz20.out.size))
        have cT1 := cT.out _ w22 (l8.out.below nw22.out) _ _ (RdAt.below rx.out nw22.out) bdx.out (by rw [List.length_map]; exact hLL)
        rw [nms_len, hv1.out, hhh.out] at cT1
        replace cT1 := Lib.hid cT1
        clear nw20 nz20 n22 cU3 cU cT
        go_wp2_with fail
        refine cT1.out _ (Lib.hid fun w24 n24 => ?_)
        have nw24 := Lib.hid (nw22.out.trans (n24.mono nw22.out.size))
        have nz24 := Lib.hid (nz22.out.trans (n24.mono nz22.out.size))
        have cP1 := cP.out _ w24 (l8.out.below nw24.out) (txtS (nms ws) hh) htz.out
        rw [nms_len] at cP1
        clear nw22 nz22 n24 cT1 cP
        by_cases hl0 : l = []
        · generalize parH ws.length (leqF ws ps) (parS (nms ws) (txtS (nms ws) hh)) = H at *
          generalize (parS (nms ws) (txtS (nms ws) hh)).2.1 = E at *
          generalize (parS (nms ws) (txtS (nms ws) hh)).2.2 = Z at *
          replace cP1 := Lib.hid cP1
          have hl0' : l.length = 0 := by rw [hl0]; rfl
          have e0 : ((l.length : Int) == 0) = true := by rw [hl0']; rfl
          replace hl0 := Lib.hid hl0
          replace hl0' := Lib.hid hl0'
          replace e0 := Lib.hid e0
          go_wp2_with fail
          refine cP1.out _ (Lib.hid fun v26 w26 r26 n26 => ?_)
          have nw26 := Lib.hid (nw24.out.trans (n26.mono nw24.out.size))
          have n28 := (n8.out.trans (nw26.out.mono hwr))
          have n29 := Lib.hid (n28.alloc n28.size (.cells #[.int .i64 E, .int .i64 Z] 31))
          replace e0 := e0.out
          clear n26 r26 cP1 nw24 nw26 n28 nz24
          go_wp2_with fail
          refine cL.out _ _ (Lib.hid fun w30 n30 => ?_)
          have nf := Lib.hid (n29.out.trans (n30.mono n29.out.size))
          clear n29 n30
          go_wp2_with fail
          exact hR.out _ nf.out
        · have hp := hpar.out (nq0.out hl0)
          rw [hp] at cP1
          simp only at cP1
          change ∀ R hR, _ at cP1
          have e0 : ((l.length : Int) == 0) = false := by
            have : 0 < l.length := List.length_pos_iff.2 hl0
            exact beq_eq_false_iff_ne.2 (by omega)
          have hpH : parH ws.length (leqF ws ps) (some hh, 0, 0) = hh := hpp.out
          rw [hpH] at cP1
          replace cP1 := Lib.hid cP1
          replace e0 := Lib.hid e0
          replace hl0 := Lib.hid hl0
          replace hp := Lib.hid hp
          replace hpH := Lib.hid hpH
          go_wp2_with fail
          refine cP1.out _ (Lib.hid fun v26 w26 r26 n26 => ?_)
          obtain ⟨A26, c26, rfl, -, -⟩ := ivR_at r26
          have f27 := (Below.refl w26.heap.size w26).alloc (Nat.le_refl _) (.cells #[.int .i64 0, .int .i64 0] 31)
          have b27 := n26.trans (f27.mono n26.size)
          have nw27 := nw24.out.trans (b27.mono nw24.out.size)
          have nz27 := nz24.out.trans (b27.mono nz24.out.size)
          have n29 := Lib.hid (n8.out.trans (nw27.mono hwr))
          have ra := RdAt.below r26 f27
          rw [iv_izv] at ra
          have rb := RdAt.below hrd3.out nz27
          obtain ⟨u0, u1⟩ := box_two w26 (.int .i64 0) (.int .i64 0) 31
          replace ra := Lib.hid ra
          replace rb := Lib.hid rb
          replace e0 := e0.out
          clear n26 r26 cP1 nw24 nz24 nw27 nz27 f27 b27
          go_wp2_with fail
          refine cS.out _ _ _ _ ra.out rb.out (by rw [List.length_map]; omega) _ (Lib.hid fun w28 n28 => ?_)
          have n30 := Lib.hid (n29.out.trans (n28.mono n29.out.size))
          clear n29 n28 ra rb u0 u1
          go_wp2_with fail
          refine cL.out _ _ (Lib.hid fun w31 n31 => ?_)
          have nf := Lib.hid (n30.out.trans (n31.mono n30.out.size))
          clear n30 n31
          go_wp2_with fail
          exact hR.out _ nf.out
      · rw [nms_len, if_neg hv] at cN1
        have eS : ((ByteArray.empty).toList != (⟨#[]⟩ : ByteArray).toList) = false := sne_f rfl
        replace cN1 := Lib.hid cN1
        replace hv := Lib.hid hv
        replace eS := Lib.hid eS
        clear hrn
        go_wp2_with fail
        refine cN1.out _ (Lib.hid fun w14 n14 => ?_)
        have nw14 := Lib.hid (nw.out.trans (n14.mono nw.out.size))
        have nv14 := Lib.hid n14
        replace eS := eS.out
        clear n14 nw cN1 cE hsee
        have cU1 := cU.out _ w14 (l8.out.below nw14.out) _ _ _ _ (RdAt.below rx.out nw14.out) (RdAt.below r10.out nv14.out) bdx.out bdh.out (by rw [List.length_map]; exact hLL) (by rw [List.length_map]; omega)
        rw [nms_len, hv1.out, hv2.out, hu.out.1] at cU1
        replace cU1 := Lib.hid cU1
        go_wp2_with fail
        refine cU1.out _ (Lib.hid fun w16 n16 => ?_)
        have nw16 := Lib.hid (nw14.out.trans (n16.mono nw14.out.size))
        have nv16 := Lib.hid (nv14.out.trans (n16.mono nv14.out.size))
        clear nw14 nv14 n16 cU1
        have cU2 := cU.out _ w16 (l8.out.below nw16.out) _ _ _ _ (RdAt.below r10.out nv16.out) (RdAt.below rx.out nw16.out) bdh.out bdx.out (by rw [List.length_map]; omega) (by rw [List.length_map]; exact hLL)
        rw [nms_len, hv1.out, hv2.out, hu.out.2] at cU2
        replace cU2 := Lib.hid cU2
        go_wp2_with fail
        refine cU2.out _ (Lib.hid fun w18 n18 => ?_)
        have nw18 := Lib.hid (nw16.out.trans (n18.mono nw16.out.size))
        have nv18 := Lib.hid (nv16.out.trans (n18.mono nv16.out.size))
        have o19 := own_below o10.out nv18.out
        have hb19 : wr.heap.size ≤ w18.heap.size := nw18.out.size
        clear nw16 nv16 n18 cU2
        go_wp2_with (at_builtin; go_loud (refine app1kg w18 (.int .i64 obs) 3 (by kernel_rfl) _ _ 42 rfl wr.heap.size j0 (.int .i64 0) 8 Try.underlying42 hJi yz0 yz1 yz2 rfl (.slice A10 hh.length c10) _ _ rfl o19 rfl rfl (by unfold maxLen; omega) (by omega) hb19 ?_); intro v20 w20 hown3 hg3 hb3 hrd3)
        have bd20 : ∀ x ∈ (hh.map fun (a : Nat) => (a : Int)) ++ [obs], Bd x := fun x hx => by
          rcases List.mem_append.1 hx with h | h
          · exact bdh.out x h
          · rw [List.mem_singleton.1 h]; exact ho
        have r20 := RdAt.of_own hown3
        rw [iv_izv, show izv (hh.map fun (a : Nat) => (a : Int)) ++ [.int .i64 obs] = izv ((hh.map fun (a : Nat) => (a : Int)) ++ [obs]) by simp [izv]] at r20
        rw [iv_izv] at hrd3
        have nw20 := Lib.hid (nw18.out.trans hb3)
        have nz20 := Lib.hid (Below.refl w20.heap.size w20)
        have cU3 := cU.out _ w20 (l8.out.below nw20.out) _ _ _ _ (RdAt.below rx.out nw20.out) r20 bdx.out bd20 (by rw [List.length_map]; exact hLL) (by rw [List.length_append, List.length_map]; simp; omega)
        rw [nms_len, hv1.out, hv3.out, hu3.out] at cU3
        replace cU3 := Lib.hid cU3
        replace hrd3 := Lib.hid hrd3
        clear o19 hb19 hown3 hg3 hb3 bd20 r20 nw18 nv18
        go_wp2_with fail
        refine cU3.out _ (Lib.hid fun w22 n22 => ?_)
        have nw22 := Lib.hid (nw20.out.trans (n22.mono nw20.out.size))
        have nz22 := Lib.hid (nz20.out.trans (n22.mono nz20.out.size))
        have cT1 := cT.out _ w22 (l8.out.below nw22.out) _ _ (RdAt.below rx.out nw22.out) bdx.out (by rw [List.length_map]; exact hLL)
        rw [nms_len, hv1.out, hhh.out] at cT1
        replace cT1 := Lib.hid cT1
        clear nw20 nz20 n22 cU3 cU cT
        go_wp2_with fail
        refine cT1.out _ (Lib.hid fun w24 n24 => ?_)
        have nw24 := Lib.hid (nw22.out.trans (n24.mono nw22.out.size))
        have nz24 := Lib.hid (nz22.out.trans (n24.mono nz22.out.size))
        have cP1 := cP.out _ w24 (l8.out.below nw24.out) (txtS (nms ws) hh) htz.out
        rw [nms_len] at cP1
        clear nw22 nz22 n24 cT1 cP
        by_cases hl0 : l = []
        · generalize parH ws.length (leqF ws ps) (parS (nms ws) (txtS (nms ws) hh)) = H at *
          generalize (parS (nms ws) (txtS (nms ws) hh)).2.1 = E at *
          generalize (parS (nms ws) (txtS (nms ws) hh)).2.2 = Z at *
          replace cP1 := Lib.hid cP1
          have hl0' : l.length = 0 := by rw [hl0]; rfl
          have e0 : ((l.length : Int) == 0) = true := by rw [hl0']; rfl
          replace hl0 := Lib.hid hl0
          replace hl0' := Lib.hid hl0'
          replace e0 := Lib.hid e0
          go_wp2_with fail
          refine cP1.out _ (Lib.hid fun v26 w26 r26 n26 => ?_)
          have nw26 := Lib.hid (nw24.out.trans (n26.mono nw24.out.size))
          have n28 := (n8.out.trans (nw26.out.mono hwr))
          have n29 := Lib.hid (n28.alloc n28.size (.cells #[.int .i64 E, .int .i64 Z] 31))
          replace e0 := e0.out
          clear n26 r26 cP1 nw24 nw26 n28 nz24
          go_wp2_with fail
          refine cL.out _ _ (Lib.hid fun w30 n30 => ?_)
          have nf := Lib.hid (n29.out.trans (n30.mono n29.out.size))
          clear n29 n30
          go_wp2_with fail
          exact hR.out _ nf.out
        · have hp := hpar.out (nq0.out hl0)
          rw [hp] at cP1
          simp only at cP1
          change ∀ R hR, _ at cP1
          have e0 : ((l.length : Int) == 0) = false := by
            have : 0 < l.length := List.length_pos_iff.2 hl0
            exact beq_eq_false_iff_ne.2 (by omega)
          have hpH : parH ws.length (leqF ws ps) (some hh, 0, 0) = hh := hpp.out
          rw [hpH] at cP1
          replace cP1 := Lib.hid cP1
          replace e0 := Lib.hid e0
          replace hl0 := Lib.hid hl0
          replace hp := Lib.hid hp
          replace hpH := Lib.hid hpH
          go_wp2_with fail
          refine cP1.out _ (Lib.hid fun v26 w26 r26 n26 => ?_)
          obtain ⟨A26, c26, rfl, -, -⟩ := ivR_at r26
          have f27 := (Below.refl w26.heap.size w26).alloc (Nat.le_refl _) (.cells #[.int .i64 0, .int .i64 0] 31)
          have b27 := n26.trans (f27.mono n26.size)
          have nw27 := nw24.out.trans (b27.mono nw24.out.size)
          have nz27 := nz24.out.trans (b27.mono nz24.out.size)
          have n29 := Lib.hid (n8.out.trans (nw27.mono hwr))
          have ra := RdAt.below r26 f27
          rw [iv_izv] at ra
          have rb := RdAt.below hrd3.out nz27
          obtain ⟨u0, u1⟩ := box_two w26 (.int .i64 0) (.int .i64 0) 31
          replace ra := Lib.hid ra
          replace rb := Lib.hid rb
          replace e0 := e0.out
          clear n26 r26 cP1 nw24 nz24 nw27 nz27 f27 b27
          go_wp2_with fail
          refine cS.out _ _ _ _ ra.out rb.out (by rw [List.length_map]; omega) _ (Lib.hid fun w28 n28 => ?_)
          have n30 := Lib.hid (n29.out.trans (n28.mono n29.out.size))
          clear n29 n28 ra rb u0 u1
          go_wp2_with fail
          refine cL.out _ _ (Lib.hid fun w31 n31 => ?_)
          have nf := Lib.hid (n30.out.trans (n31.mono n30.out.size))
          clear n30 n31
          go_wp2_with fail
          exact hR.out _ nf.out
end Go.Proofs.Ytlijjbcamkhhaaa.Lab
