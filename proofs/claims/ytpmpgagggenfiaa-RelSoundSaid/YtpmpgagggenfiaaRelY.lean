/- RelCloses: the law's walk where the pairs are right. -/
import Derived.Test.YtpmpgagggenfiaaRelU
import Derived.Test.YtpmpgagggenfiaaRelV
import Derived.Test.YtpmpgagggenfiaaCls
import Derived.Deep.DeepCutAuto
set_option linter.unusedVariables false
namespace Go.Proofs.Ytpmpgagggenfiaa.Rel
open Go.RowKit Go.Lib

set_option maxRecDepth 100000 in
set_option maxHeartbeats 2000000 in
theorem closes10_right (n : Int) (hn : -9223372036854775808 ≤ n ∧ n ≤ 9223372036854775807) (xs : List Pq) (q0 q1 : Int) (hq0 : -9223372036854775808 ≤ q0 ∧ q0 ≤ 9223372036854775807) (hq1 : -9223372036854775808 ≤ q1 ∧ q1 ≤ 9223372036854775807) (v : Value) (w : World) (hx : RdQ w v xs) (hg : ∀ x ∈ xs, GoodQ x) (h300 : ¬ 300 < xs.length) (hr : RightQ n xs) (R : Ending → World → Prop)
    (hR : Hid (∀ w', Below w.heap.size w w' → R (.returned (.bool true)) w')) : Calls Try.prog 3 #[.int .i64 n, v, .agg #[.int .i64 q0, .int .i64 q1]] w R := by
  have cL := Lib.hid fun (W : World) R hR => lives10_calls W R hR
  obtain ⟨A, c, rfl, hlc, hr0⟩ := hx.op
  replace hr0 := Lib.hid hr0
  have b1 := (Below.refl w.heap.size w).alloc (Nat.le_refl _) (.cells #[.int .i64 q0, .int .i64 q1] 23)
  have k0 : (w.alloc (.cells #[.int .i64 q0, .int .i64 q1] 23)).cell? ⟨w.heap.size, 0, none⟩ = some (.int .i64 q0) := by rw [World.cell?_alloc_new]; rfl
  have k1 : (w.alloc (.cells #[.int .i64 q0, .int .i64 q1] 23)).cell? ⟨w.heap.size, 1, none⟩ = some (.int .i64 q1) := by rw [World.cell?_alloc_new]; rfl
  have z1 : (w.alloc (.cells #[.int .i64 q0, .int .i64 q1] 23)).heap.size = w.heap.size + 1 := by simp
  have hx1 := hx.below b1
  have cN := fun R hR hR2 => relnew_calls n hn xs _ _ hx1 hg (by unfold maxLen; omega) R hR hR2
  have cQ := fun (W : World) (hb : Below w.heap.size w W) R hR => refright_pairs n xs _ W (hx.below hb) (by unfold maxLen; omega) R hR
  replace cN := Lib.hid cN
  rw [decide_eq_true hr] at cQ
  obtain ⟨N, rfl⟩ : ∃ N : Nat, n = N := ⟨n.toNat, by have := hr.1; omega⟩
  have hN : N ≤ 64 := by have := hr.1; omega
  have hP := toN_in hr
  have cD := fun (W : World) (hb : Below w.heap.size w W) R hR => leads_calls N xs _ W (hx.below hb) hr (by unfold maxLen; omega) R hR
  have cC := fun (W : World) v h R hR => relclose_calls N (toN xs) hP hN v W h R hR
  have cH := fun (W : World) v h R hR => relhas_calls N (toN xs) q0 q1 hP hN hq0 hq1 v W h R hR
  have cG := fun (W : World) a b (ha : -9223372036854775808 ≤ a ∧ a ≤ 9223372036854775807) (hb : -9223372036854775808 ≤ b ∧ b ≤ 9223372036854775807) v h R hR => relhas_calls N (cloL N (toN xs)) a b (clo_in _ _) hN ha hb v W h R hR
  have cE := fun (W : World) v h R hR => rellen_calls N (toN xs) v W h R hR
  have cF := fun (W : World) v h R hR => rellen_calls N (cloL N (toN xs)) v W h R hR
  replace cQ := Lib.hid cQ
  replace cD := Lib.hid cD
  replace cC := Lib.hid cC
  replace cH := Lib.hid cH
  replace cG := Lib.hid cG
  replace cE := Lib.hid cE
  replace cF := Lib.hid cF
  replace hP := Lib.hid hP
  replace hr := Lib.hid hr
  clear hx hx1
  go_enter Try.func3, Try.ntmps3
  go_wp2_with fail
  generalize w.alloc (.cells #[.int .i64 q0, .int .i64 q1] 23) = W0 at *
  have hH : w.heap.size < W0.heap.size := by omega
  generalize hHH : w.heap.size = H at *
  replace z1 := Lib.hid z1
  refine cN.out _ (Lib.hid fun tv w2 _ t2 n2 => ?_) (Lib.hid fun _ h => absurd hr.out h)
  rw [Int.toNat_natCast] at t2
  replace t2 := Lib.hid t2
  obtain ⟨p, rfl⟩ := t2.out.ptr
  have a0 := (n2.cell (p := ⟨H, 0, none⟩) hH).trans k0
  have a1 := (n2.cell (p := ⟨H, 1, none⟩) hH).trans k1
  replace n2 := Lib.hid n2
  go_wp2_with fail
  refine relhasnone_calls _ _ _ _ (Lib.hid fun w3 n3 => ?_)
  have n4 := Lib.hid (n2.out.trans (n3.mono n2.out.size))
  have t4 := Lib.hid (t2.out.below n3)
  clear n2 n3 t2 a0 a1
  go_wp2_with fail
  refine rellennone_calls _ _ (Lib.hid fun w5 n5 => ?_)
  have n6 := Lib.hid (n4.out.trans (n5.mono n4.out.size))
  have t6 := Lib.hid (t4.out.below n5)
  clear n4 n5 t4
  go_wp2_with fail
  refine relclosenone_calls _ _ (Lib.hid fun w7 n7 => ?_)
  have n8 := Lib.hid (n6.out.trans (n7.mono n6.out.size))
  have t8 := Lib.hid (t6.out.below n7)
  clear n6 n7 t6
  go_wp2_with fail
  refine cQ.out _ (b1.trans (n8.out.mono (by omega))) _ (Lib.hid fun w9 n9 => ?_)
  have n10 := Lib.hid (n8.out.trans (n9.mono n8.out.size))
  have t10 := Lib.hid (t8.out.below n9)
  clear n8 n9 t8
  go_wp2_with fail
  go_loopg [10, 11] xs.length (fun g x i wr => ∃ (K q : Nat) (b : Bool), wr = w9.drewN q ∧ x = .bool b ∧ i = .int .i64 K ∧ K + g = xs.length ∧ Hid (Found xs (q0, q1) K b))
  case atStart => exact ⟨0, 0, false, rfl, rfl, rfl, by omega, Lib.hid (by unfold Found; simp)⟩
  case round =>
    obtain ⟨K, q, b, rfl, rfl, rfl, d1, d2⟩ := hrel
    by_cases hK : K < xs.length
    · obtain ⟨g, o, rfl, hg1, hca⟩ := hr0.out (by omega)
      obtain ⟨x0, x1⟩ := hca K hK
      have e0 : w9.cell? ⟨g, o + K * 2, none⟩ = _ := (n10.out.cell (p := ⟨g, o + K * 2, none⟩) (by simp only; omega)).trans ((b1.cell (p := ⟨g, o + K * 2, none⟩) (by simp only; omega)).trans x0)
      have e1 : w9.cell? ⟨g, o + K * 2 + 1, none⟩ = _ := (n10.out.cell (p := ⟨g, o + K * 2 + 1, none⟩) (by simp only; omega)).trans ((b1.cell (p := ⟨g, o + K * 2 + 1, none⟩) (by simp only; omega)).trans x1)
      have a0 : w9.cell? ⟨H, 0, none⟩ = _ := (n10.out.cell (p := ⟨H, 0, none⟩) hH).trans k0
      have a1 : w9.cell? ⟨H, 1, none⟩ = _ := (n10.out.cell (p := ⟨H, 1, none⟩) hH).trans k1
      have hf := d2.out.next
      have hi0 : (0 : Int) ≤ (K : Int) := by omega
      have hi1 : (K : Int) < (xs.length : Int) := by omega
      clear hca x0 x1 d2
      generalize pqN xs K = y at *
      obtain ⟨y0, y1⟩ := y
      simp only at e0 e1 hf
      have e2 : decide ((y0, y1) = (q0, q1)) = (y0 == q0 && y1 == q1) := by
        rw [Bool.eq_iff_iff]; simp
      rw [e2] at hf
      clear e2
      cases b
      · rw [Bool.false_or] at hf
        replace hf := Lib.hid hf
        go_wp2_with fail
        go_quiet (fail)
        go_wp2_with fail
        go_roundg (gk - 1)
        case measure => omega
        case rel => exact ⟨K + 1, _, _, rfl, rfl, by go_num, by omega, hf⟩
      · rw [Bool.true_or] at hf
        replace hf := Lib.hid hf
        go_wp2_with fail
        go_quiet (fail)
        go_wp2_with fail
        go_roundg (gk - 1)
        case measure => omega
        case rel => exact ⟨K + 1, _, true, rfl, rfl, by go_num, by omega, hf⟩
    · obtain rfl : K = xs.length := by omega
      have hfin := d2.out.fin hr.out
      have n11 := Lib.hid (below_drewN n10.out q)
      have t11 := Lib.hid (t10.out.below (below_drewN (Below.refl _ _) q))
      clear d2 n10 t10
      generalize w9.drewN q = w11 at *
      rw [hfin] at cH
      have hfin := Lib.hid hfin
      replace cH := Lib.hid cH.out
      go_wp2_with fail
      refine cC.out w11 _ t11.out _ (Lib.hid fun cv w12 tc nc => ?_)
      have n13 := Lib.hid (n11.out.trans (nc.mono n11.out.size))
      have t13 := Lib.hid (t11.out.below nc)
      replace tc := Lib.hid tc
      obtain ⟨pc, rfl⟩ := tc.out.ptr
      clear n11 t11 nc
      go_wp2_with fail
      refine cD.out w12 (b1.trans (n13.out.mono (by omega))) _ (Lib.hid fun mv w14 tm nm => ?_)
      have n15 := Lib.hid (n13.out.trans (nm.mono n13.out.size))
      have t15 := Lib.hid (t13.out.below nm)
      have tc2 := Lib.hid (tc.out.below nm)
      obtain ⟨A2, c2, rfl, hc2, hm⟩ := tm.op
      replace hm := Lib.hid hm
      clear n13 t13 tc nm tm
      have a0 : w14.cell? ⟨H, 0, none⟩ = _ := (n15.out.cell (p := ⟨H, 0, none⟩) hH).trans k0
      have a1 : w14.cell? ⟨H, 1, none⟩ = _ := (n15.out.cell (p := ⟨H, 1, none⟩) hH).trans k1
      have hH14 : H < w14.heap.size := by have := n15.out.size; omega
      obtain ⟨M, hM⟩ : ∃ M, decide (0 ≤ q0 ∧ q0 < N ∧ 0 ≤ q1 ∧ q1 < N) = M := ⟨_, rfl⟩
      go_upto_region 16 with fail
      go_cut [14] (fun e wx => e = .bool M ∧ w14 = wx)
      case first =>
        by_cases c0 : 0 ≤ q0
        · by_cases c1 : q0 < N
          · by_cases c2 : 0 ≤ q1
            · by_cases c3 : q1 < N
              · obtain rfl : M = true := by rw [← hM]; exact decide_eq_true ⟨c0, c1, c2, c3⟩
                go_wp2_with fail
                go_meet
                exact ⟨rfl, rfl⟩
              · obtain rfl : M = false := by rw [← hM]; exact decide_eq_false (fun h => c3 h.2.2.2)
                go_wp2_with fail
                go_meet
                exact ⟨rfl, rfl⟩
            · obtain rfl : M = false := by rw [← hM]; exact decide_eq_false (fun h => c2 h.2.2.1)
              go_wp2_with fail
              go_meet
              exact ⟨rfl, rfl⟩
          · obtain rfl : M = false := by rw [← hM]; exact decide_eq_false (fun h => c1 h.2.1)
            go_wp2_with fail
            go_meet
            exact ⟨rfl, rfl⟩
        · obtain rfl : M = false := by rw [← hM]; exact decide_eq_false (fun h => c0 h.1)
          go_wp2_with fail
          go_meet
          exact ⟨rfl, rfl⟩
      case rest =>
        obtain ⟨rfl, rfl⟩ := hcut
        replace hM := Lib.hid hM
        have n14 := Lib.hid (Below.refl w14.heap.size w14)
        go_wp2_with fail
        go_loopg [15, 16] N (fun g i _ wr => ∃ K : Nat, i = .int .i64 K ∧ K + g = N ∧ Hid (Below w14.heap.size w14 wr))
        case atStart => exact ⟨0, rfl, by omega, n14⟩
        case round =>
          obtain ⟨K, rfl, d1, nr⟩ := hrel
          by_cases hK : K < N
          · obtain ⟨kO, rfl⟩ : ∃ kO, gk = kO + 1 := ⟨gk - 1, by omega⟩
            go_wp2_with fail
            go_loopg [16] N (fun g j w2 => ∃ L : Nat, j = .int .i64 L ∧ L + g = N ∧ Hid (Below w14.heap.size w14 w2))
            case atStart => exact ⟨0, rfl, by omega, nr⟩
            case round =>
              obtain ⟨L, rfl, d2, nx⟩ := hrel
              by_cases hL : L < N
              · obtain ⟨g, o, rfl, hg, hrow⟩ := hm.out (by omega)
                obtain ⟨g1, o1, c3, x0, hg1, hc1⟩ := hrow K hK
                have x1 := hc1 L hL
                have e : hasQ (cloL N (toN xs)) K L = on (ldR N (toN xs) K) L := hasQ_clo hK hL
                generalize on (ldR N (toN xs) K) L = B at *
                clear hrow hc1
                replace e := Lib.hid e
                have nW := nx.out.drew
                go_wp2_with fail
                go_region_held3 (fun w' => w'.cell? ⟨g, o + K, none⟩ = some (.slice (some ⟨g1, o1, none⟩) N c3) ∧ w'.cell? ⟨g1, o1 + L, none⟩ = some (.bool B) ∧ Below w14.heap.size w14 w')
                  (first | exact ⟨(nW.cell (p := ⟨g, o + K, none⟩) hg).trans x0, (nW.cell (p := ⟨g1, o1 + L, none⟩) hg1).trans x1, nW⟩ | trace_state)
                  ((go_at_call 8; go_loud (refine cG.out _ _ _ ⟨by omega, by omega⟩ ⟨by omega, by omega⟩ _ (tc2.out.below nW) _ (Lib.hid fun wn n => ?_); rw [e.out]; have nW := nW.trans (n.mono nW.size))))
                go_wp2_with fail
                go_roundg (gk - 1)
                case measure => omega
                case rel => exact ⟨L + 1, by go_num, by omega, Lib.hid nW⟩
              · obtain rfl : L = N := by omega
                go_wp2_with fail
                go_roundg kO
                case measure => omega
                case rel => exact ⟨K + 1, by go_num, by omega, nx⟩
          · obtain rfl : K = N := by omega
            have eG := clo_in_has (N := K) (P := toN xs) (q0 := q0) (q1 := q1)
            rw [hM.out] at eG
            have nW := nr.out
            have a2 : wr.cell? ⟨H, 0, none⟩ = _ := (nW.cell (p := ⟨H, 0, none⟩) hH14).trans a0
            have a3 : wr.cell? ⟨H, 1, none⟩ = _ := (nW.cell (p := ⟨H, 1, none⟩) hH14).trans a1
            have hHr : H < wr.heap.size := Nat.lt_of_lt_of_le hH14 nW.size
            have k2 := fun x : BW wr => x.cell hHr a2
            have k3 := fun x : BW wr => x.cell hHr a3
            have cP := Lib.hid fun x : BW wr => cE.out x.w _ ((t15.out.below nW).below x.b) (fun e w' => e = .returned (.int .i64 (K : Nat)) ∧ Below x.w.heap.size x.w w') (Lib.hid fun _ n => ⟨rfl, n⟩)
            have cQ := Lib.hid fun x : BW wr => cF.out x.w _ ((tc2.out.below nW).below x.b) (fun e w' => e = .returned (.int .i64 (K : Nat)) ∧ Below x.w.heap.size x.w w') (Lib.hid fun _ n => ⟨rfl, n⟩)
            have cX := Lib.hid fun x : BW wr => cH.out x.w _ ((t15.out.below nW).below x.b) (fun e w' => e = .returned (.bool b) ∧ Below x.w.heap.size x.w w') (Lib.hid fun _ n => ⟨rfl, n⟩)
            have cY := fun x : BW wr => cG.out x.w q0 q1 hq0 hq1 _ ((tc2.out.below nW).below x.b) (fun e w' => e = .returned (.bool (hasQ (cloL K (toN xs)) q0 q1)) ∧ Below x.w.heap.size x.w w') (Lib.hid fun _ n => ⟨rfl, n⟩)
            rw [eG] at cY
            have cZ := Lib.hid fun x : BW wr => cL.out x.w (fun e w' => e = .returned (.bool true) ∧ Below x.w.heap.size x.w w') (Lib.hid fun _ n => ⟨rfl, n⟩)
            have n99 := Lib.hid (b1.trans ((n15.out.trans (nW.mono n15.out.size)).mono (by omega)))
            cases M
            · rw [Bool.false_and] at cY
              replace cY := Lib.hid cY
              clear eG d1 hm cH cG cE cF cL cC cD t15 tc2 a2 a3 a0 a1 n15 n14 nr nW hM b1 hHr cN
              go_wp2_with fail
              refine wp_region_below_lit (by kernel_rfl) (by kernel_rfl) ?_
              repeat (go_big_quiet_step ((first | (with_reducible exact calls_below (cP.out _)) | (with_reducible exact calls_below (cQ.out _)) | (with_reducible exact calls_below (cX.out _)) | (with_reducible exact calls_below (cY.out _)) | (with_reducible exact calls_below (cZ.out _)))))
              refine wpQuiet_nil ?_
              rintro _ ⟨y, rfl⟩
              have ny := Lib.hid y.b
              generalize y.w = wy at *
              go_wp2_with fail
              exact hR.out _ (n99.out.trans (ny.out.mono (by have := n99.out.size; omega)))
            · have hq := of_decide_eq_true hM.out
              obtain ⟨u0, rfl⟩ : ∃ u : Nat, q0 = u := ⟨q0.toNat, by omega⟩
              obtain ⟨u1, rfl⟩ : ∃ u : Nat, q1 = u := ⟨q1.toNat, by omega⟩
              have hu0 : u0 < K := by omega
              have hu1 : u1 < K := by omega
              obtain ⟨g, o, rfl, hg, hrow⟩ := hm.out (by omega)
              obtain ⟨g1, o1, c3, x0, hg1, hc1⟩ := hrow u0 hu0
              have x1 := hc1 u1 hu1
              rw [Bool.true_and, Int.toNat_natCast, Int.toNat_natCast, show ld K (toN xs) u0 u1 = on (ldR K (toN xs) u0) u1 from rfl] at cY
              generalize on (ldR K (toN xs) u0) u1 = B at *
              have k4 := fun x : BW wr => x.cell (Nat.lt_of_lt_of_le hg nW.size) ((nW.cell (p := ⟨g, o + u0, none⟩) hg).trans x0)
              have k5 := fun x : BW wr => x.cell (Nat.lt_of_lt_of_le hg1 nW.size) ((nW.cell (p := ⟨g1, o1 + u1, none⟩) hg1).trans x1)
              have m1 : max (K : Int) 1 = (K : Int) := by omega
              have m2 : ¬ (K : Int) = 0 := by omega
              have m3 : Int.tmod (u0 : Int) (K : Int) = (u0 : Int) := by rw [Int.tmod_eq_emod_of_nonneg (by omega), Int.emod_eq_of_lt (by omega) (by omega)]
              have m4 : Int.tmod (u1 : Int) (K : Int) = (u1 : Int) := by rw [Int.tmod_eq_emod_of_nonneg (by omega), Int.emod_eq_of_lt (by omega) (by omega)]
              have i0 : (0 : Int) ≤ (u0 : Int) := by omega
              have i1 : (0 : Int) ≤ (u1 : Int) := by omega
              have i2 : (u0 : Int) < (K : Int) := by omega
              have i3 : (u1 : Int) < (K : Int) := by omega
              replace cY := Lib.hid cY
              clear eG d1 hm cH cG cE cF cL cC cD t15 tc2 a2 a3 a0 a1 n15 n14 nr nW hM b1 hHr cN hrow hc1 x0 x1 hq
              go_wp2_with fail
              refine wp_region_below_lit (by kernel_rfl) (by kernel_rfl) ?_
              repeat (go_big_quiet_step ((first | (with_reducible exact calls_below (cP.out _)) | (with_reducible exact calls_below (cQ.out _)) | (with_reducible exact calls_below (cX.out _)) | (with_reducible exact calls_below (cY.out _)) | (with_reducible exact calls_below (cZ.out _)))))
              refine wpQuiet_nil ?_
              rintro _ ⟨y, rfl⟩
              have ny := Lib.hid y.b
              generalize y.w = wy at *
              go_wp2_with fail
              exact hR.out _ (n99.out.trans (ny.out.mono (by have := n99.out.size; omega)))
end Go.Proofs.Ytpmpgagggenfiaa.Rel
