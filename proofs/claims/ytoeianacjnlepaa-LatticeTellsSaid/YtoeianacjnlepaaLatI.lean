/- LatticeTells: the law's walk. -/
import Derived.Test.YtoeianacjnlepaaLatG
import Derived.Test.YtoeianacjnlepaaMix
set_option maxRecDepth 100000
set_option linter.unusedVariables false
namespace Go.Proofs.Ytoeianacjnlepaa.Lat
open Go.RowKit Go.Lib Go.Proofs.Ytoeianacjnlepaa.Rel Go.Proofs.Ytoeianacjnlepaa.Nam

set_option maxRecDepth 100000 in
set_option maxHeartbeats 2000000 in
theorem tells11_wrong (ws : List Wr) (ps : List Pr) (s : ByteArray) (vw vp : Value) (w : World) (hw : RdW w vw ws) (hp : RdPr w vp ps) (hgw : ∀ x ∈ ws, GoodW x) (hg : (40 < ws.length ∨ 300 < ps.length) ∨ wrongS ws ps ≠ (0, 0)) (R : Ending → World → Prop)
    (hR : Hid (∀ w', Below w.heap.size w w' → R (.returned (.bool true)) w')) : Calls Try.prog 4 #[vw, vp, .string s] w R := by
  have cL := Lib.hid fun (W : World) R hR => lives11_calls W R hR
  have cG := Lib.hid fun R hR => great_calls ws ps vw vp w hw hp _ rfl R hR
  by_cases h : 40 < ws.length ∨ 300 < ps.length
  · replace cG := cG.out
    rw [decide_eq_true h] at cG
    replace cG := Lib.hid cG
    obtain ⟨Aw, cw, rfl, -, -⟩ := hw.op
    obtain ⟨Ap, cp, rfl, -, -⟩ := hp.op
    clear hw hp hg h
    go_enter Try.func4, Try.ntmps4
    go_wp2_with fail
    refine cG.out _ (Lib.hid ?_)
    go_wp2_with fail
    refine cL.out _ _ (Lib.hid fun w1 n1 => ?_)
    replace n1 := Lib.hid n1
    go_wp2_with fail
    exact hR.out _ n1.out
  · replace cG := cG.out
    rw [decide_eq_false h] at cG
    replace cG := Lib.hid cG
    have cW := Lib.hid fun R hR => refwrong_calls ws ps vw vp w hw hp hgw (by omega) (by omega) R hR
    have hv : wrongS ws ps ≠ (0, 0) := hg.resolve_left h
    obtain ⟨Aw, cw, rfl, -, -⟩ := hw.op
    obtain ⟨Ap, cp, rfl, -, -⟩ := hp.op
    have h0 : ¬ (wrongS ws ps).1 = 0 := fun q => hv (wrong_ok q).1
    clear hw hp hg h hv
    generalize wrongS ws ps = V at *
    obtain ⟨e, z⟩ := V
    simp only at cW h0
    have q0 : (e == 0) = false := by simpa using h0
    clear h0
    go_enter Try.func4, Try.ntmps4
    go_wp2_with fail
    refine cG.out _ (Lib.hid ?_)
    go_wp2_with fail
    refine cW.out _ (Lib.hid fun w1 n1 => ?_)
    replace n1 := Lib.hid n1
    go_wp2_with fail
    refine cL.out _ _ (Lib.hid fun w2 n2 => ?_)
    have n3 := Lib.hid (n1.out.trans (n2.mono n1.out.size))
    go_wp2_with fail
    exact hR.out _ n3.out

set_option maxRecDepth 100000 in
set_option maxHeartbeats 4000000 in
theorem tells11_right (ws : List Wr) (ps : List Pr) (s : ByteArray) (hs : s.size ≤ maxLen) (vw vp : Value) (w : World) (hw : RdW w vw ws) (hp : RdPr w vp ps) (hgw : ∀ x ∈ ws, GoodW x) (hgp : ∀ x ∈ ps, GoodR x) (hg : ¬ (40 < ws.length ∨ 300 < ps.length)) (he : wrongS ws ps = (0, 0)) (R : Ending → World → Prop)
    (hR : Hid (∀ w', Below w.heap.size w w' → R (.returned (.bool true)) w')) : Calls Try.prog 4 #[vw, vp, .string s] w R := by
  have hF := (wrong_ok (ws := ws) (ps := ps) (by rw [he])).2
  have hL := hF.latt
  have h32 := hF.le
  have hpos := hL.pos
  have cL := Lib.hid fun (W : World) R hR => lives11_calls W R hR
  have cG := fun R hR => great_calls ws ps vw vp w hw hp _ rfl R hR
  rw [decide_eq_false hg] at cG
  replace cG := Lib.hid cG
  have cW := fun R hR => refwrong_calls ws ps vw vp w hw hp hgw (by omega) (by omega) R hR
  rw [he] at cW
  replace cW := Lib.hid cW
  have cB := Lib.hid fun (W : World) (hb : Below w.heap.size w W) R hR hR2 => build_calls ws ps vw vp W (hw.below hb) (hp.below hb) hgw hgp (by unfold maxLen; omega) (by unfold maxLen; omega) R hR hR2
  have cQ := Lib.hid fun (W : World) (hb : Below w.heap.size w W) R hR => refleq_calls ws ps vw vp W (hw.below hb) (hp.below hb) hF.right (by omega) R hR
  have cT := Lib.hid fun (W : World) v h R hR => refturn_calls ws.length (ldR ws.length (toN (idxQ ws ps))) v W h (by omega) R hR
  have cF := Lib.hid fun (W : World) (hb : Below w.heap.size w W) R hR => reffind11_calls ws s vw W (hw.below hb) (by omega) R hR
  have e0 := nms_len ws
  have cf := fun v (W : World) h R hR => latfind_calls (nms ws) (leqF ws ps) v W h R s hs hR
  have cn := Lib.hid fun v (W : World) h R hR => latlen_calls (nms ws) (leqF ws ps) v W h R hR
  have cN := Lib.hid fun v (W : World) h R hR => latnames_calls (nms ws) (leqF ws ps) v W h R hR
  have hfc := find_cases (nms ws) s
  obtain ⟨Aw, cw, rfl, hcw, hrw⟩ := hw.op
  obtain ⟨Ap, cp, rfl, -, -⟩ := hp.op
  replace hrw := Lib.hid hrw
  replace he := Lib.hid he
  replace hL := Lib.hid hL
  have hq : findS (nms ws) s = -1 ∨ ∃ m : Nat, findS (nms ws) s = m := by
    rcases hfc with ⟨h, -⟩ | ⟨m, -, -, -, h⟩
    · exact .inl h
    · exact .inr ⟨m, h⟩
  clear hw hp hgw hgp hF hfc hg
  generalize findS (nms ws) s = k at *
  obtain ⟨D, hD⟩ : ∃ D : Int, (if k < 0 then 0 else k) = D := ⟨_, rfl⟩
  obtain ⟨B, hB⟩ : ∃ B : Bool, decide (0 ≤ k) = B := ⟨_, rfl⟩
  rw [hD, hB] at cf
  replace cf := Lib.hid cf
  replace hD := Lib.hid hD
  replace hB := Lib.hid hB
  go_enter Try.func4, Try.ntmps4
  go_wp2_with fail
  refine cG.out _ (Lib.hid ?_)
  go_wp2_with fail
  refine cW.out _ (Lib.hid fun w1 n1 => ?_)
  replace n1 := Lib.hid n1
  go_wp2_with fail
  refine cB.out _ n1.out _ (Lib.hid fun v w2 _ l2 n2 => ?_) (Lib.hid fun w2 h _ => absurd (show (wrongS ws ps).1 = 0 by rw [he.out]) h)
  obtain ⟨p, rfl⟩ := l2.ptr
  have n3 := n1.out.trans (n2.mono n1.out.size)
  have n4 := Lib.hid (n3.alloc n3.size (.cells #[.int .i64 0, .int .i64 0] 29))
  have l4 := Lib.hid (l2.below ((Below.refl w2.heap.size w2).alloc (Nat.le_refl _) (.cells #[.int .i64 0, .int .i64 0] 29)))
  clear n1 n2 n3 l2 cB cW cG
  go_wp2_with fail
  refine cQ.out _ n4.out _ (Lib.hid fun v1 w5 m5 n5 => ?_)
  have n6 := Lib.hid (n4.out.trans (n5.mono n4.out.size))
  have l6 := Lib.hid (l4.out.below n5)
  obtain ⟨A1, c1, rfl, -, -⟩ := m5.op
  replace m5 := Lib.hid m5
  clear n4 n5 l4 cQ
  go_wp2_with fail
  refine cT.out _ _ m5.out _ (Lib.hid fun v2 w7 m7 n7 => ?_)
  have n8 := Lib.hid (n6.out.trans (n7.mono n6.out.size))
  have l8 := Lib.hid (l6.out.below n7)
  have m8 := Lib.hid (m5.out.below n7)
  obtain ⟨A2, c2, rfl, -, -⟩ := m7.op
  replace m7 := Lib.hid m7
  clear n6 n7 l6 m5 cT
  go_wp2_with fail
  refine cf.out _ _ l8.out _ (Lib.hid fun w9 n9 => ?_)
  have n10 := Lib.hid (n8.out.trans (n9.mono n8.out.size))
  have l10 := Lib.hid (l8.out.below n9)
  have m10 := Lib.hid (m8.out.below n9)
  have u10 := Lib.hid (m7.out.below n9)
  clear n8 n9 l8 m8 m7 cf
  go_wp2_with fail
  refine cF.out _ n10.out _ (Lib.hid ?_)
  clear cF
  go_upto_region 8 with fail
  go_cut [82] (fun e wx => e = .bool false ∧ Below w9.heap.size w9 wx)
  case first =>
    clear m10 u10 cL hrw hL hpos
    rcases hq with rfl | ⟨m, rfl⟩
    · obtain rfl : 0 = D := hD.out
      obtain rfl : false = B := hB.out
      clear hD hB
      go_wp2_with fail
      refine cn.out _ _ l10.out _ (Lib.hid fun w11 n11 => ?_)
      have l12 := Lib.hid (l10.out.below n11)
      replace n11 := Lib.hid n11
      rw [e0]
      go_wp2_with fail
      refine cN.out _ _ l12.out _ (Lib.hid fun v9 w12 r12 n12 => ?_)
      have n13 := Lib.hid (n11.out.trans (n12.mono n11.out.size))
      obtain ⟨A9, c9, rfl, -, -⟩ := r12.open
      clear r12
      rw [e0]
      go_wp2_with fail
      go_meet
      exact ⟨rfl, n13.out⟩
    · obtain rfl : (m : Int) = D := by rw [← hD.out, if_neg (by omega)]
      obtain rfl : true = B := by rw [← hB.out]; exact (decide_eq_true (by omega)).symm
      have q1 : (0 : Int) ≤ (m : Int) := by omega
      clear hD hB
      go_wp2_with fail
      refine cn.out _ _ l10.out _ (Lib.hid fun w11 n11 => ?_)
      have l12 := Lib.hid (l10.out.below n11)
      replace n11 := Lib.hid n11
      rw [e0]
      go_wp2_with fail
      refine cN.out _ _ l12.out _ (Lib.hid fun v9 w12 r12 n12 => ?_)
      have n13 := Lib.hid (n11.out.trans (n12.mono n11.out.size))
      obtain ⟨A9, c9, rfl, -, -⟩ := r12.open
      clear r12
      rw [e0]
      go_wp2_with fail
      go_meet
      exact ⟨rfl, n13.out⟩
  case rest =>
    obtain ⟨rfl, n11⟩ := hcut
    have n12 := Lib.hid (n10.out.trans (n11.mono n10.out.size))
    have l12 := Lib.hid (l10.out.below n11)
    have m12 := Lib.hid (m10.out.below n11)
    have u12 := Lib.hid (u10.out.below n11)
    clear n10 n11 l10 m10 u10 cn hq hD hB
    obtain ⟨A3, c3, e3, -, hm⟩ := m12.out.op
    simp only [Value.slice.injEq] at e3
    obtain ⟨rfl, -, rfl⟩ := e3
    replace hm := Lib.hid hm
    obtain ⟨T, hT1, hT2⟩ := hL.out.top
    obtain ⟨Bt, hB1, hB2⟩ := hL.out.flip.top
    have hT3 := Lib.hid fun t (h1 : t < (nms ws).length) (h2 : ∀ a, a < (nms ws).length → leqF ws ps a t = true) => hL.out.top_one (by rw [← e0]; exact h1) hT1 (by rw [← e0]; exact h2) hT2
    have hB3 := Lib.hid fun t (h1 : t < (nms ws).length) (h2 : ∀ a, a < (nms ws).length → leqF ws ps t a = true) => hL.out.flip.top_one (by rw [← e0]; exact h1) hB1 (by rw [← e0]; exact h2) hB2
    replace hT2 := Lib.hid hT2
    replace hB2 := Lib.hid hB2
    have hn64 : ws.length ≤ 64 := by omega
    replace e0 := Lib.hid e0
    go_wp2_with fail
    go_loopg [14] ws.length (fun g a wr => ∃ K : Nat, a = .int .i64 K ∧ K + g = ws.length ∧ Hid (Below wc.heap.size wc wr))
    case atStart => exact ⟨0, rfl, by omega, Lib.hid (Below.refl _ _)⟩
    case round =>
      obtain ⟨K, rfl, d1, nr⟩ := hrel
      by_cases hK : K < ws.length
      · obtain ⟨kO, rfl⟩ : ∃ kO, gk = kO + 1 := ⟨gk - 1, by omega⟩
        go_wp2_with fail
        go_loopg [15, 16] ws.length (fun g m b wr => ∃ L : Nat, b = .int .i64 L ∧ m = .int .i64 ((seesF (leqF ws ps) K L).length : Nat) ∧ L + g = ws.length ∧ Hid (Below wc.heap.size wc wr))
        case atStart => exact ⟨0, rfl, rfl, by omega, nr⟩
        case round =>
          obtain ⟨L, rfl, rfl, d2, nx⟩ := hrel
          by_cases hL2 : L < ws.length
          · obtain ⟨g, o, rfl, hg, hrow⟩ := hm.out (by omega)
            obtain ⟨g1, o1, c5, x0, hg1, hc1⟩ := hrow K hK
            obtain ⟨g2, o2, c6, y0, hg2, hc2⟩ := hrow L hL2
            have x1 := hc1 L hL2
            have y1 := hc2 K hK
            have hsz := nx.out.size
            have k0 := fun x : BW wr => x.cell (Nat.lt_of_lt_of_le hg hsz) ((nx.out.cell (p := ⟨g, o + K, none⟩) hg).trans x0)
            have k1 := fun x : BW wr => x.cell (Nat.lt_of_lt_of_le hg1 hsz) ((nx.out.cell (p := ⟨g1, o1 + L, none⟩) hg1).trans x1)
            have k2 := Lib.hid fun x : BW wr => x.cell (Nat.lt_of_lt_of_le hg hsz) ((nx.out.cell (p := ⟨g, o + L, none⟩) hg).trans y0)
            have k3 := Lib.hid fun x : BW wr => x.cell (Nat.lt_of_lt_of_le hg2 hsz) ((nx.out.cell (p := ⟨g2, o2 + K, none⟩) hg2).trans y1)
            clear hrow hc1 hc2 x0 x1 y0 y1
            have lr := l12.out.below nx.out
            have mr := m12.out.below nx.out
            have ur := u12.out.below nx.out
            have hK' : K < (nms ws).length := by rw [e0.out]; exact hK
            have hL' : L < (nms ws).length := by rw [e0.out]; exact hL2
            have hT' : T < (nms ws).length := by rw [e0.out]; exact hT1
            have hB' : Bt < (nms ws).length := by rw [e0.out]; exact hB1
            obtain ⟨Q, hQ⟩ : ∃ Q, on (ldR ws.length (toN (idxQ ws ps)) K) L = Q := ⟨_, rfl⟩
            obtain ⟨X, hX⟩ : ∃ X, joinS ws.length (leqF ws ps) K L = X := ⟨_, rfl⟩
            obtain ⟨Y, hY⟩ : ∃ Y, joinS ws.length (flp (leqF ws ps)) K L = Y := ⟨_, rfl⟩
            rw [hQ] at k1
            have cA := Lib.hid fun x : BW wr => lq_calls (lr.below x.b) K L hK' hL' Q hQ (fun e w' => e = .returned (.bool Q) ∧ Below x.w.heap.size x.w w') (Lib.hid fun _ n => ⟨rfl, n⟩)
            have cB := Lib.hid fun x : BW wr => latjoin_calls (nms ws) (leqF ws ps) _ _ (lr.below x.b) (fun e w' => e = .returned (.int .i64 X) ∧ Below x.w.heap.size x.w w') K L (by omega) (by omega) (Lib.hid fun _ n => ⟨by rw [if_pos (by omega), Int.toNat_natCast, Int.toNat_natCast, e0.out, hX], n⟩)
            have cC := Lib.hid fun x : BW wr => latmeet_calls (nms ws) (leqF ws ps) _ _ (lr.below x.b) (fun e w' => e = .returned (.int .i64 Y) ∧ Below x.w.heap.size x.w w') K L (by omega) (by omega) (Lib.hid fun _ n => ⟨by rw [if_pos (by omega), Int.toNat_natCast, Int.toNat_natCast, e0.out, hY], n⟩)
            have cD := Lib.hid fun x : BW wr => refjoin_calls ws.length (ldR ws.length (toN (idxQ ws ps))) _ _ (mr.below x.b) hn64 K L hK hL2 (fun e w' => e = .returned (.int .i64 X) ∧ Below x.w.heap.size x.w w') (Lib.hid ⟨by rw [← hX]; rfl, Below.refl _ _⟩)
            have cE := Lib.hid fun x : BW wr => refjoin_calls ws.length (turnR ws.length (ldR ws.length (toN (idxQ ws ps)))) _ _ (ur.below x.b) hn64 K L hK hL2 (fun e w' => e = .returned (.int .i64 Y) ∧ Below x.w.heap.size x.w w') (Lib.hid ⟨by rw [join_turn, ← hY]; rfl, Below.refl _ _⟩)
            have cT := Lib.hid fun x : BW wr => lattop_calls (nms ws) (leqF ws ps) _ _ (lr.below x.b) (fun e w' => e = .returned (.int .i64 T) ∧ Below x.w.heap.size x.w w') (Lib.hid fun t _ h1 h2 n => ⟨by rw [hT3.out t h1 h2], n⟩)
            have cU := Lib.hid fun x : BW wr => latbottom_calls (nms ws) (leqF ws ps) _ _ (lr.below x.b) (fun e w' => e = .returned (.int .i64 Bt) ∧ Below x.w.heap.size x.w w') (Lib.hid fun t _ h1 h2 n => ⟨by rw [hB3.out t h1 h2], n⟩)
            have cV := Lib.hid fun x : BW wr => lq_calls (lr.below x.b) K T hK' hT' true (hT2.out K hK) (fun e w' => e = .returned (.bool true) ∧ Below x.w.heap.size x.w w') (Lib.hid fun _ n => ⟨rfl, n⟩)
            have cX := Lib.hid fun x : BW wr => lq_calls (lr.below x.b) Bt K hB' hK' true (hB2.out K hK) (fun e w' => e = .returned (.bool true) ∧ Below x.w.heap.size x.w w') (Lib.hid fun _ n => ⟨rfl, n⟩)
            replace lr := Lib.hid lr
            have ik0 : (0 : Int) ≤ (K : Int) := by omega
            have ik1 : (K : Int) < (ws.length : Int) := by omega
            have il0 : (0 : Int) ≤ (L : Int) := by omega
            have il1 : (L : Int) < (ws.length : Int) := by omega
            replace hX := Lib.hid hX
            replace hY := Lib.hid hY
            replace hQ := Lib.hid hQ
            clear mr ur
            go_wp2_with fail
            refine wp_region_below_lit (by kernel_rfl) (by kernel_rfl) ?_
            repeat (go_big_quiet_step ((first | (with_reducible exact calls_below (cA.out _)) | (with_reducible exact calls_below (cB.out _)) | (with_reducible exact calls_below (cC.out _)) | (with_reducible exact calls_below (cD.out _)) | (with_reducible exact calls_below (cE.out _)) | (with_reducible exact calls_below (cT.out _)) | (with_reducible exact calls_below (cU.out _)) | (with_reducible exact calls_below (cV.out _)) | (with_reducible exact calls_below (cX.out _)))))
            refine wpQuiet_nil ?_
            rintro _ ⟨y, rfl⟩
            have ny := Lib.hid (nx.out.trans (y.b.mono hsz))
            have ly := Lib.hid (lr.out.below y.b)
            have y0 := k2.out y
            have y1 := k3.out y
            clear k0 k1 k2 k3 cA cB cC cD cE cT cU cV cX lr
            generalize y.w = wy at *
            obtain ⟨Q2, hQ2⟩ : ∃ Q, on (ldR ws.length (toN (idxQ ws ps)) L) K = Q := ⟨_, rfl⟩
            rw [hQ2] at y1
            have hsF : seesF (leqF ws ps) K (L + 1) = if Q2 = true then seesF (leqF ws ps) K L ++ [L] else seesF (leqF ws ps) K L := by rw [← hQ2]; rfl
            cases Q2
            · rw [if_neg (by simp)] at hsF
              replace hsF := Lib.hid hsF
              replace hQ2 := Lib.hid hQ2
              go_wp2_with fail
              go_roundg (gk - 1)
              case measure => omega
              case rel => exact ⟨L + 1, by go_num, by rw [hsF.out], by omega, ny⟩
            · rw [if_pos rfl] at hsF
              obtain ⟨hs1, hs2⟩ := sees_at (F := leqF ws ps) (a := K) hL2 hQ2
              have hSn := sees_len (leqF ws ps) K ws.length
              have hlen : (seesF (leqF ws ps) K (L + 1)).length = (seesF (leqF ws ps) K L).length + 1 := by rw [hsF]; simp
              have cS := fun (W : World) h R hR => latsees_calls (nms ws) (leqF ws ps) (.pointer (some ⟨p, 0, none⟩)) W h R K (by omega) hR
              rw [if_pos (by omega), Int.toNat_natCast, e0.out] at cS
              replace hlen := Lib.hid hlen
              replace cS := Lib.hid cS
              replace hQ2 := Lib.hid hQ2
              clear hsF
              generalize (seesF (leqF ws ps) K L).length = m at *
              generalize seesF (leqF ws ps) K ws.length = S at *
              obtain ⟨SL, hSL⟩ : ∃ SL, S.length = SL := ⟨_, rfl⟩
              rw [hSL] at hs1 hSn
              have j0 : (0 : Int) ≤ (m : Int) := by omega
              have j1 : (m : Int) < (SL : Int) := by omega
              have j2 : decide ((SL : Int) ≤ (m : Int)) = false := decide_eq_false (by omega)
              replace hs2 := Lib.hid hs2
              go_wp2_with fail
              refine cS.out _ ly.out _ (Lib.hid fun v8 w13 r8 n13 => ?_)
              have N13 := Lib.hid (ny.out.trans (n13.mono ny.out.size))
              have l13 := Lib.hid (ly.out.below n13)
              obtain ⟨A8, c8, rfl, hc8, -⟩ := ivR_at r8
              rw [hSL] at hc8 ⊢
              replace hSL := Lib.hid hSL
              clear ny n13 ly r8 y0 y1
              go_wp2_with fail
              refine cS.out _ l13.out _ (Lib.hid fun v9 w14 r9 n14 => ?_)
              have N14 := Lib.hid (N13.out.trans (n14.mono N13.out.size))
              obtain ⟨A9, c9, rfl, hc9, hr9⟩ := ivR_at r9
              obtain ⟨g9, p9, rfl, hg9, hcc⟩ := hr9 (by rw [hSL.out]; omega)
              have e9 := hcc m (by rw [hSL.out]; omega)
              rw [hs2.out] at e9
              rw [hSL.out] at hc9 ⊢
              clear N13 n14 l13 r9 hr9 hcc
              go_wp2_with fail
              go_roundg (gk - 1)
              case measure => omega
              case rel => exact ⟨L + 1, by go_num, by rw [hlen.out]; go_num, by omega, N14⟩
          · obtain rfl : L = ws.length := by omega
            have cS := fun (W : World) h R hR => latsees_calls (nms ws) (leqF ws ps) (.pointer (some ⟨p, 0, none⟩)) W h R K (by omega) hR
            rw [if_pos (by rw [e0.out]; omega), Int.toNat_natCast, e0.out] at cS
            have cM := fun (W : World) h R hR => latname_calls (nms ws) (leqF ws ps) (.pointer (some ⟨p, 0, none⟩)) W h R K (by omega) hR
            rw [if_pos (by rw [e0.out]; omega), Int.toNat_natCast] at cM
            have hnm : (nms ws).getD K ByteArray.empty = (wN ws K).1 := by rw [List.getD, nms_get hK]; rfl
            obtain ⟨g, o, rfl, hgw, hwc⟩ := hrw.out (by omega)
            have e1 := (nx.out.cell (p := ⟨g, o + K * 2, none⟩) (Nat.lt_of_lt_of_le hgw n12.out.size)).trans ((n12.out.cell (p := ⟨g, o + K * 2, none⟩) hgw).trans (hwc K hK).1)
            clear hwc
            rw [hnm] at cM
            replace hnm := Lib.hid hnm
            generalize (wN ws K).1 = sK at *
            generalize hSS : seesF (leqF ws ps) K ws.length = S at *
            obtain ⟨SL, hSL⟩ : ∃ SL, S.length = SL := ⟨_, rfl⟩
            rw [hSL]
            replace hSL := Lib.hid hSL
            replace hSS := Lib.hid hSS
            replace cS := Lib.hid cS
            replace cM := Lib.hid cM
            have lx := Lib.hid (l12.out.below nx.out)
            have hgr : g < wr.heap.size := Nat.lt_of_lt_of_le hgw (Nat.le_trans n12.out.size nx.out.size)
            have cNm := Lib.hid fun (W : World) h R hR => cN.out (.pointer (some ⟨p, 0, none⟩)) W h R hR
            have ik0 : (0 : Int) ≤ (K : Int) := by omega
            have ik1 : (K : Int) < (ws.length : Int) := by omega
            clear cN hT3 hB3 hT2 hB2 m12 u12 l12
            go_wp2_with fail
            have k0 := fun x : BW wr => x.cell hgr e1
            refine wp_region_mix [([0, 1, 2], 3), ([], 4), ([5, 6, 7, 8, 10, 11, 12, 13, 14], 9), ([15, 16, 17, 18, 23, 24, 25, 26, 27, 20], 19), ([21], 22)] [28, 29] (by kernel_rfl) (by kernel_rfl) (by kernel_rfl) (by kernel_rfl) (fun _ _ d _ _ h => by cases d <;> exact h) ?_
            have nW := below_drewN (Below.refl wr.heap.size wr) 1
            refine mix_cons (os := [_, _, _]) (by simp only [pickO, List.filterMap_cons, List.filterMap_nil, List.getElem?_toArray, List.getElem?_cons_succ, List.getElem?_cons_zero]; rfl) (fun Kp hKp => ?_)
            repeat (go_big_quiet_step (fail))
            refine wpQuiet_nil ?_
            refine hKp _ ?_
            clear hKp
            refine loud (by rfl) (by kernel_rfl) (fun K3 hK3 => ?_)
            go_simp
            refine cS.out _ (lx.out.below nW) _ (Lib.hid fun v8 w8 r8 n8 => ?_)
            replace nW := nW.trans (n8.mono nW.size)
            obtain ⟨A8, c8, rfl, -, -⟩ := ivR_at r8
            rw [hSL.out]
            clear r8 n8
            refine hK3 _ _ ⟨⟨_, nW⟩, rfl⟩ ?_
            clear hK3
            refine mix_cons (os := []) (by rfl) (fun Kp hKp => ?_)
            refine wpQuiet_nil ?_
            refine hKp _ ?_
            clear hKp
            refine loud (by rfl) (by kernel_rfl) (fun K4 hK4 => ?_)
            go_simp
            refine hK4 _ _ ⟨⟨_, nW⟩, rfl⟩ ?_
            clear hK4
            refine mix_cons (os := [_, _, _, _, _, _, _, _, _]) (by simp only [pickO, List.filterMap_cons, List.filterMap_nil, List.getElem?_toArray, List.getElem?_cons_succ, List.getElem?_cons_zero]; rfl) (fun Kp hKp => ?_)
            repeat (go_big_quiet_step (fail))
            refine wpQuiet_nil ?_
            refine hKp _ ?_
            clear hKp
            refine loud (by rfl) (by kernel_rfl) (fun K9 hK9 => ?_)
            go_simp
            refine cM.out _ (lx.out.below nW) _ (Lib.hid fun w9 n9 => ?_)
            replace nW := nW.trans (n9.mono nW.size)
            clear n9
            refine hK9 _ _ ⟨⟨_, nW⟩, rfl⟩ ?_
            clear hK9
            refine mix_cons (os := [_, _, _, _, _, _, _, _, _, _]) (by simp only [pickO, List.filterMap_cons, List.filterMap_nil, List.getElem?_toArray, List.getElem?_cons_succ, List.getElem?_cons_zero]; rfl) (fun Kp hKp => ?_)
            repeat (go_big_quiet_step (fail))
            refine wpQuiet_nil ?_
            refine hKp _ ?_
            clear hKp
            refine loud (by rfl) (by kernel_rfl) (fun K19 hK19 => ?_)
            go_simp
            refine cNm.out _ (lx.out.below nW) _ (Lib.hid fun v10 w10 r10 n10 => ?_)
            replace nW := nW.trans (n10.mono nW.size)
            obtain ⟨A10, c10, rfl, hc10, hr10⟩ := r10.open
            obtain ⟨g10, o10, rfl, hg10, hcc⟩ := hr10 (by rw [e0.out]; omega)
            have e10 := hcc K (by rw [e0.out]; exact hK)
            rw [hnm.out] at e10
            rw [e0.out]
            clear r10 n10 hr10 hcc hc10
            refine hK19 _ _ ⟨⟨_, nW⟩, rfl⟩ ?_
            clear hK19
            refine mix_cons (os := [_]) (by simp only [pickO, List.filterMap_cons, List.filterMap_nil, List.getElem?_toArray, List.getElem?_cons_succ, List.getElem?_cons_zero]; rfl) (fun Kp hKp => ?_)
            repeat (go_big_quiet_step (fail))
            refine wpQuiet_nil ?_
            refine hKp _ ?_
            clear hKp
            refine loud (by rfl) (by kernel_rfl) (fun K22 hK22 => ?_)
            go_simp
            refine hK22 _ _ ⟨⟨_, nW⟩, rfl⟩ ?_
            clear hK22
            refine mix_nil (os := [_, _]) (by simp only [pickO, List.filterMap_cons, List.filterMap_nil, List.getElem?_toArray, List.getElem?_cons_succ, List.getElem?_cons_zero]; rfl) (fun Kp hKp => ?_)
            repeat (go_big_quiet_step (fail))
            refine wpQuiet_nil ?_
            refine hKp _ ?_
            clear hKp
            have nf := Lib.hid (nx.out.trans (nW.mono nx.out.size))
            clear nW k0 e1
            go_wp2_with fail
            go_roundg kO
            case measure => omega
            case rel => exact ⟨K + 1, by go_num, by omega, nf⟩
      · obtain rfl : K = ws.length := by omega
        go_wp2_with fail
        refine cL.out _ _ (Lib.hid fun wz nz => ?_)
        have nf := Lib.hid (n12.out.trans ((nr.out.trans (nz.mono nr.out.size)).mono n12.out.size))
        go_wp2_with fail
        exact hR.out _ nf.out
theorem tells11_walk (ws : List Wr) (ps : List Pr) (s : ByteArray) (hs : s.size ≤ maxLen) (vw vp : Value) (w : World) (hw : RdW w vw ws) (hp : RdPr w vp ps) (hgw : ∀ x ∈ ws, GoodW x) (hgp : ∀ x ∈ ps, GoodR x) (R : Ending → World → Prop)
    (hR : Hid (∀ w', Below w.heap.size w w' → R (.returned (.bool true)) w')) : Calls Try.prog 4 #[vw, vp, .string s] w R := by
  by_cases hg : 40 < ws.length ∨ 300 < ps.length
  · exact tells11_wrong ws ps s vw vp w hw hp hgw (.inl hg) R hR
  · by_cases he : wrongS ws ps = (0, 0)
    · exact tells11_right ws ps s hs vw vp w hw hp hgw hgp hg he R hR
    · exact tells11_wrong ws ps s vw vp w hw hp hgw (.inr he) R hR
end Go.Proofs.Ytoeianacjnlepaa.Lat
