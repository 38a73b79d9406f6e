/- RelSound: the law's walk. -/
import Derived.Test.YtpmpgagggenfiaaRelY
import Derived.Test.YtpmpgagggenfiaaRelQ
set_option linter.unusedVariables false
namespace Go.Proofs.Ytpmpgagggenfiaa.Rel
open Go.RowKit Go.Lib

theorem closes10_walk (n : Int) (hn : -9223372036854775808 ≤ n ∧ n ≤ 9223372036854775807) (xs : List Pq) (q0 q1 : Int) (hq0 : -9223372036854775808 ≤ q0 ∧ q0 ≤ 9223372036854775807) (hq1 : -9223372036854775808 ≤ q1 ∧ q1 ≤ 9223372036854775807) (v : Value) (w : World) (hx : RdQ w v xs) (hg : ∀ x ∈ xs, GoodQ x) (R : Ending → World → Prop)
    (hR : Hid (∀ w', Below w.heap.size w w' → R (.returned (.bool true)) w')) : Calls Try.prog 3 #[.int .i64 n, v, .agg #[.int .i64 q0, .int .i64 q1]] w R := by
  by_cases h : 300 < xs.length
  · exact closes10_many n hn xs q0 q1 hq0 hq1 v w hx hg h R hR
  · by_cases hr : RightQ n xs
    · exact closes10_right n hn xs q0 q1 hq0 hq1 v w hx hg h hr R hR
    · exact closes10_wrong n hn xs q0 q1 hq0 hq1 v w hx hg h hr R hR

theorem hasQ_cloT {n : Nat} {P : List (Nat × Nat)} (hP : InR n P) {a b c : Int} (h1 : hasQ (cloL n P) a b = true) (h2 : hasQ (cloL n P) b c = true) : hasQ (cloL n P) a c = true := by
  obtain ⟨a0, b0, m1⟩ := hasQ_iff.1 h1
  obtain ⟨_, c0, m2⟩ := hasQ_iff.1 h2
  obtain ⟨q1, q2, q3⟩ := clo_mem.1 m1
  obtain ⟨q4, q5, q6⟩ := clo_mem.1 m2
  exact hasQ_iff.2 ⟨a0, c0, clo_mem.2 ⟨q1, q5, ld_trans hP q1 q3 q6⟩⟩
theorem hasQ_cloR {n : Nat} {P : List (Nat × Nat)} (hP : InR n P) {a : Int} (h0 : 0 ≤ a) (h1 : a < n) : hasQ (cloL n P) a a = true :=
  hasQ_iff.2 ⟨h0, h0, clo_mem.2 ⟨by omega, by omega, ld_refl hP (by omega)⟩⟩
theorem hasQ_cloC {n : Nat} {P : List (Nat × Nat)} (hP : InR n P) (a b : Int) : hasQ (cloL n (cloL n P)) a b = hasQ (cloL n P) a b := by
  rw [Bool.eq_iff_iff, hasQ_iff, hasQ_iff, clo_mem, clo_mem]
  constructor
  · rintro ⟨h0, h1, h2, h3, h4⟩; rw [clo_clo hP h2] at h4; exact ⟨h0, h1, h2, h3, h4⟩
  · rintro ⟨h0, h1, h2, h3, h4⟩; rw [← clo_clo hP h2] at h4; exact ⟨h0, h1, h2, h3, h4⟩
theorem hasQ_cloP {n : Nat} {P : List (Nat × Nat)} (hP : InR n P) {a b : Nat} (h : (a, b) ∈ P) : hasQ (cloL n P) a b = true := by
  have := hP _ h
  rw [hasQ_clo this.1 this.2]
  exact (ld_iff hP this.1 b).2 (.one h)
theorem hasQ_ord {n : Nat} {P : List (Nat × Nat)} (hP : InR n P) {o : List Nat} (h : Ord n (ld n P) o) {i k : Nat} (hki : k < i) (hi : i < o.length) : o.getD k 0 ≠ o.getD i 0 ∧ hasQ P (o.getD i 0 : Nat) (o.getD k 0 : Nat) = false := by
  have hk : k < o.length := by omega
  rw [List.getD, List.getD, List.getElem?_eq_getElem hi, List.getElem?_eq_getElem hk]
  obtain ⟨h1, h2⟩ := h.noback hki hi
  refine ⟨h1, ?_⟩
  show hasQ P (o[i] : Nat) (o[k] : Nat) = false
  cases e : hasQ P (o[i] : Nat) (o[k] : Nat)
  · rfl
  · have hin := hasQ_nat.1 e
    have := (ld_iff hP (h.lt _ (List.getElem_mem hi)) o[k]).2 (.one hin)
    rw [h2] at this; cases this

set_option maxRecDepth 100000 in
set_option maxHeartbeats 2000000 in
theorem sound10_walk (n : Int) (hn : -9223372036854775808 ≤ n ∧ n ≤ 9223372036854775807) (xs : List Pq) (x0 x1 x2 : Int) (v : Value) (w : World) (hl : xs.length ≤ maxLen) (hx : RdQ w v xs) (hg : ∀ x ∈ xs, GoodQ x) (R : Ending → World → Prop)
    (hR : Hid (∀ w', Below w.heap.size w w' → R (.returned (.bool true)) w')) : Calls Try.prog 5 #[.int .i64 n, v, .agg #[.int .i64 x0, .int .i64 x1, .int .i64 x2]] w R := by
  have cL := Lib.hid fun (W : World) R hR => lives10_calls W R hR
  obtain ⟨A, c, rfl, hlc, hr0⟩ := hx.op
  replace hr0 := Lib.hid hr0
  have b1 := (Below.refl w.heap.size w).alloc (Nat.le_refl _) (.cells #[.int .i64 x0, .int .i64 x1, .int .i64 x2] 43)
  have k0 : (w.alloc (.cells #[.int .i64 x0, .int .i64 x1, .int .i64 x2] 43)).cell? ⟨w.heap.size, 0, none⟩ = some (.int .i64 x0) := by rw [World.cell?_alloc_new]; rfl
  have k1 : (w.alloc (.cells #[.int .i64 x0, .int .i64 x1, .int .i64 x2] 43)).cell? ⟨w.heap.size, 1, none⟩ = some (.int .i64 x1) := by rw [World.cell?_alloc_new]; rfl
  have k2 : (w.alloc (.cells #[.int .i64 x0, .int .i64 x1, .int .i64 x2] 43)).cell? ⟨w.heap.size, 2, none⟩ = some (.int .i64 x2) := by rw [World.cell?_alloc_new]; rfl
  have z1 : (w.alloc (.cells #[.int .i64 x0, .int .i64 x1, .int .i64 x2] 43)).heap.size = w.heap.size + 1 := by simp
  have hx1 := hx.below b1
  have cN := fun R hR hR2 => relnew_calls n hn xs _ _ hx1 hg hl R hR hR2
  replace cN := Lib.hid cN
  replace hl : xs.length ≤ 9223372036854775807 := hl
  clear hx1
  by_cases hr : RightQ n xs
  · obtain ⟨N, rfl⟩ : ∃ N : Nat, n = N := ⟨n.toNat, by have := hr.1; omega⟩
    have hN : N ≤ 64 := by have := hr.1; omega
    have hP := toN_in hr
    have cC := Lib.hid fun (W : World) v h R hR => relclose_calls N (toN xs) hP hN v W h R hR
    have cD := Lib.hid fun (W : World) v h R hR => relclose_calls N (cloL N (toN xs)) (clo_in _ _) hN v W h R hR
    have cO := Lib.hid fun (W : World) v h R hR hR2 => relorder_calls N (toN xs) hP hN v W h R hR hR2
    have cH := Lib.hid fun (W : World) a b v h (m : Nat) => relhasx_calls N (toN xs) a b hP hN v (W.drewN m) (RelP.below h (below_drewN (Below.refl W.heap.size W) m)) (fun e w' => e = .returned (.bool (hasQ (toN xs) a b)) ∧ ∃ q, w' = (W.drewN m).drewN q) (Lib.hid fun q => ⟨rfl, q, rfl⟩)
    have cG := Lib.hid fun (W : World) a b v h (m : Nat) => relhasx_calls N (cloL N (toN xs)) a b (clo_in _ _) hN v (W.drewN m) (RelP.below h (below_drewN (Below.refl W.heap.size W) m)) (fun e w' => e = .returned (.bool (hasQ (cloL N (toN xs)) a b)) ∧ ∃ q, w' = (W.drewN m).drewN q) (Lib.hid fun q => ⟨rfl, q, rfl⟩)
    have cK := Lib.hid fun (W : World) a b v h (m : Nat) => relhasx_calls N (cloL N (cloL N (toN xs))) a b (clo_in _ _) hN v (W.drewN m) (RelP.below h (below_drewN (Below.refl W.heap.size W) m)) (fun e w' => e = .returned (.bool (hasQ (cloL N (cloL N (toN xs))) a b)) ∧ ∃ q, w' = (W.drewN m).drewN q) (Lib.hid fun q => ⟨rfl, q, rfl⟩)
    replace hr := Lib.hid hr
    replace hP := Lib.hid hP
    go_enter Try.func5, Try.ntmps5
    go_wp2_with fail
    generalize w.alloc (.cells #[.int .i64 x0, .int .i64 x1, .int .i64 x2] 43) = W0 at *
    have hH : w.heap.size < W0.heap.size := by omega
    generalize hHH : w.heap.size = H at *
    replace hHH := Lib.hid hHH
    replace z1 := Lib.hid z1
    refine cN.out _ (Lib.hid fun tv w2 _ t2 n2 => ?_) (Lib.hid fun _ h => absurd hr.out h)
    rw [Int.toNat_natCast] at t2
    replace t2 := Lib.hid t2
    obtain ⟨p, rfl⟩ := t2.out.ptr
    replace n2 := Lib.hid n2
    go_wp2_with fail
    refine cC.out w2 _ t2.out _ (Lib.hid fun cv w3 tc n3 => ?_)
    have n4 := Lib.hid (n2.out.trans (n3.mono n2.out.size))
    have t4 := Lib.hid (t2.out.below n3)
    replace tc := Lib.hid tc
    obtain ⟨pc, rfl⟩ := tc.out.ptr
    clear n2 n3 t2
    go_wp2_with fail
    refine cD.out w3 _ tc.out _ (Lib.hid fun dv w5 td n5 => ?_)
    have n6 := Lib.hid (n4.out.trans (n5.mono n4.out.size))
    have t6 := Lib.hid (t4.out.below n5)
    have tc6 := Lib.hid (tc.out.below n5)
    replace td := Lib.hid td
    obtain ⟨pd, rfl⟩ := td.out.ptr
    have a0 : w5.cell? ⟨H, 0, none⟩ = _ := (n6.out.cell (p := ⟨H, 0, none⟩) hH).trans k0
    have a1 : w5.cell? ⟨H, 1, none⟩ = _ := (n6.out.cell (p := ⟨H, 1, none⟩) hH).trans k1
    have a2 : w5.cell? ⟨H, 2, none⟩ = _ := (n6.out.cell (p := ⟨H, 2, none⟩) hH).trans k2
    clear n4 n5 t4 tc k0 k1 k2
    have cX := Lib.hid fun (W : World) (hW : Below w5.heap.size w5 W) a b B (hB : hasQ (cloL N (toN xs)) a b = B) m => hB ▸ cG.out W a b _ (tc6.out.below hW) m
    have cY := Lib.hid fun (W : World) (hW : Below w5.heap.size w5 W) a b B (hB : hasQ (cloL N (cloL N (toN xs))) a b = B) m => hB ▸ cK.out W a b _ (td.out.below hW) m
    replace a0 := Lib.hid a0
    replace a1 := Lib.hid a1
    replace a2 := Lib.hid a2
    clear cN cC cD cG cK
    go_wp2_with fail
    go_loopg [11] xs.length (fun g i wr => ∃ K : Nat, i = .int .i64 K ∧ K + g = xs.length ∧ Hid (Below w5.heap.size w5 wr))
    case atStart => exact ⟨0, rfl, by omega, Lib.hid (Below.refl _ _)⟩
    case round =>
      obtain ⟨K, rfl, d1, nr⟩ := hrel
      have hsz := nr.out.size
      by_cases hK : K < xs.length
      · obtain ⟨g, o, rfl, hg1, hca⟩ := hr0.out (by omega)
        obtain ⟨y0, y1⟩ := hca K hK
        have hg5 : g < w5.heap.size := by have := n6.out.size; omega
        have e0 : w5.cell? ⟨g, o + K * 2, none⟩ = _ := (n6.out.cell (p := ⟨g, o + K * 2, none⟩) (by simp only; omega)).trans ((b1.cell (p := ⟨g, o + K * 2, none⟩) (by simp only; omega)).trans y0)
        have e1 : w5.cell? ⟨g, o + K * 2 + 1, none⟩ = _ := (n6.out.cell (p := ⟨g, o + K * 2 + 1, none⟩) (by simp only; omega)).trans ((b1.cell (p := ⟨g, o + K * 2 + 1, none⟩) (by simp only; omega)).trans y1)
        replace e0 := (nr.out.cell (p := ⟨g, o + K * 2, none⟩) hg5).trans e0
        replace e1 := (nr.out.cell (p := ⟨g, o + K * 2 + 1, none⟩) hg5).trans e1
        have hin : hasQ (cloL N (toN xs)) (pqN xs K).1 (pqN xs K).2 = true := by
          have h1 := pqN_mem hK
          have h2 := hr.out.2 _ h1
          have := hasQ_cloP hP.out (List.mem_map.2 ⟨_, h1, rfl⟩ : ((pqN xs K).1.toNat, (pqN xs K).2.toNat) ∈ toN xs)
          rwa [Int.toNat_of_nonneg h2.1.1, Int.toNat_of_nonneg h2.2.1] at this
        have hi0 : (0 : Int) ≤ (K : Int) := by omega
        have hi1 : (K : Int) < (xs.length : Int) := by omega
        have cX2 := Lib.hid (cX.out wr nr.out _ _ _ hin)
        clear hca y0 y1 hin
        generalize pqN xs K = y at *
        obtain ⟨u0, u1⟩ := y
        simp only at e0 e1
        go_wp2_with fail
        go_quiet ((with_reducible exact Calls.quiet_of (cX2.out _)))
        go_wp2_with fail
        go_roundg (gk - 1)
        case measure => omega
        case rel => exact ⟨K + 1, by go_num, by omega, Lib.hid (below_drewN nr.out _)⟩
      · have nW := nr.out
        have hH5 : H < w5.heap.size := by have := n6.out.size; omega
        have e0 : wr.cell? ⟨H, 0, none⟩ = _ := (nW.cell (p := ⟨H, 0, none⟩) hH5).trans a0.out
        have e1 : wr.cell? ⟨H, 1, none⟩ = _ := (nW.cell (p := ⟨H, 1, none⟩) hH5).trans a1.out
        have e2 : wr.cell? ⟨H, 2, none⟩ = _ := (nW.cell (p := ⟨H, 2, none⟩) hH5).trans a2.out
        have cX2 := fun a b B hB => cX.out wr nW a b B hB
        have cY2 := fun a b B hB => cY.out wr nW a b B hB
        obtain ⟨QA, hA⟩ : ∃ B, hasQ (cloL N (toN xs)) x0 x1 = B := ⟨_, rfl⟩
        obtain ⟨QB, hB⟩ : ∃ B, hasQ (cloL N (toN xs)) x1 x2 = B := ⟨_, rfl⟩
        have hD := hasQ_cloC hP.out x0 x1
        rw [hA] at hD
        have cA := Lib.hid (cX2 _ _ _ hA)
        have cB := Lib.hid (cX2 _ _ _ hB)
        have cE := Lib.hid (cY2 _ _ _ hD)
        have cF : 0 ≤ x0 → x0 < N → _ := fun h0 h1 => cX2 _ _ _ (hasQ_cloR hP.out h0 h1)
        replace cF := Lib.hid cF
        have cT : QA = true → QB = true → _ := fun h0 h1 => cX2 _ _ _ (hasQ_cloT hP.out (hA.trans h0) (hB.trans h1))
        replace cT := Lib.hid cT
        replace hA := Lib.hid hA
        replace hB := Lib.hid hB
        replace hD := Lib.hid hD
        clear cX2 cY2 hH5
        replace nW := Lib.hid nW
        go_upto_region 11 with fail
        go_cut [105] (fun e wx => e = .bool false ∧ ∃ q, wx = wr.drewN q)
        case first =>
          clear cO cH cL
          cases QA
          · replace cT := Lib.hid True.intro
            by_cases c0 : 0 ≤ x0
            · by_cases c1 : x0 < N
              · have cF2 := Lib.hid (cF.out c0 c1)
                go_wp2_with fail
                go_quiet ((first | (with_reducible exact Calls.quiet_of (cA.out _)) | (with_reducible exact Calls.quiet_of (cE.out _)) | (with_reducible exact Calls.quiet_of (cF2.out _))))
                go_wp2_with fail
                go_meet
                exact ⟨rfl, _, rfl⟩
              · have c2 : decide (x0 < (N : Int)) = false := decide_eq_false c1
                go_wp2_with fail
                go_quiet ((first | (with_reducible exact Calls.quiet_of (cA.out _)) | (with_reducible exact Calls.quiet_of (cE.out _))))
                go_wp2_with fail
                go_meet
                exact ⟨rfl, _, rfl⟩
            · have c2 : decide (0 ≤ x0) = false := decide_eq_false c0
              go_wp2_with fail
              go_quiet ((first | (with_reducible exact Calls.quiet_of (cA.out _)) | (with_reducible exact Calls.quiet_of (cE.out _))))
              go_wp2_with fail
              go_meet
              exact ⟨rfl, _, rfl⟩
          · cases QB
            · replace cT := Lib.hid True.intro
              by_cases c0 : 0 ≤ x0
              · by_cases c1 : x0 < N
                · have cF2 := Lib.hid (cF.out c0 c1)
                  go_wp2_with fail
                  go_quiet ((first | (with_reducible exact Calls.quiet_of (cA.out _)) | (with_reducible exact Calls.quiet_of (cB.out _)) | (with_reducible exact Calls.quiet_of (cE.out _)) | (with_reducible exact Calls.quiet_of (cF2.out _))))
                  go_wp2_with fail
                  go_meet
                  exact ⟨rfl, _, rfl⟩
                · have c2 : decide (x0 < (N : Int)) = false := decide_eq_false c1
                  go_wp2_with fail
                  go_quiet ((first | (with_reducible exact Calls.quiet_of (cA.out _)) | (with_reducible exact Calls.quiet_of (cB.out _)) | (with_reducible exact Calls.quiet_of (cE.out _))))
                  go_wp2_with fail
                  go_meet
                  exact ⟨rfl, _, rfl⟩
              · have c2 : decide (0 ≤ x0) = false := decide_eq_false c0
                go_wp2_with fail
                go_quiet ((first | (with_reducible exact Calls.quiet_of (cA.out _)) | (with_reducible exact Calls.quiet_of (cB.out _)) | (with_reducible exact Calls.quiet_of (cE.out _))))
                go_wp2_with fail
                go_meet
                exact ⟨rfl, _, rfl⟩
            · have cT2 := Lib.hid (cT.out rfl rfl)
              clear cT
              by_cases c0 : 0 ≤ x0
              · by_cases c1 : x0 < N
                · have cF2 := Lib.hid (cF.out c0 c1)
                  go_wp2_with fail
                  go_quiet ((first | (with_reducible exact Calls.quiet_of (cA.out _)) | (with_reducible exact Calls.quiet_of (cB.out _)) | (with_reducible exact Calls.quiet_of (cE.out _)) | (with_reducible exact Calls.quiet_of (cT2.out _)) | (with_reducible exact Calls.quiet_of (cF2.out _))))
                  go_wp2_with fail
                  go_meet
                  exact ⟨rfl, _, rfl⟩
                · have c2 : decide (x0 < (N : Int)) = false := decide_eq_false c1
                  go_wp2_with fail
                  go_quiet ((first | (with_reducible exact Calls.quiet_of (cA.out _)) | (with_reducible exact Calls.quiet_of (cB.out _)) | (with_reducible exact Calls.quiet_of (cE.out _)) | (with_reducible exact Calls.quiet_of (cT2.out _))))
                  go_wp2_with fail
                  go_meet
                  exact ⟨rfl, _, rfl⟩
              · have c2 : decide (0 ≤ x0) = false := decide_eq_false c0
                go_wp2_with fail
                go_quiet ((first | (with_reducible exact Calls.quiet_of (cA.out _)) | (with_reducible exact Calls.quiet_of (cB.out _)) | (with_reducible exact Calls.quiet_of (cE.out _)) | (with_reducible exact Calls.quiet_of (cT2.out _))))
                go_wp2_with fail
                go_meet
                exact ⟨rfl, _, rfl⟩
        case rest =>
          obtain ⟨rfl, q, rfl⟩ := hcut
          clear cA cB cE cF cT e0 e1 e2 cX cY a0 a1 a2 hA hB hD
          have n7 := Lib.hid (n6.out.trans ((below_drewN nW.out q).mono n6.out.size))
          have t7 := Lib.hid (t6.out.below (below_drewN nW.out q))
          clear n6 t6 nW nr tc6 td
          generalize wr.drewN q = w7 at *
          have hlen : loopS N (ld N (toN xs)) = -1 → (ordS N (ld N (toN xs))).length = N := fun h => ord_len hP.out (loop_none.1 h)
          have hord := ord_ok N (ld N (toN xs))
          have hback := fun (i k : Nat) (h1 : k < i) (h2 : i < (ordS N (ld N (toN xs))).length) => hasQ_ord hP.out hord h1 h2
          generalize ordS N (ld N (toN xs)) = o at *
          generalize loopS N (ld N (toN xs)) = l at *
          replace hlen := Lib.hid hlen
          replace hback := Lib.hid hback
          clear hord
          go_wp2_with fail
          refine cO.out w7 _ t7.out _ (Lib.hid fun ov w8 hl8 r8 n8 => ?_) (Lib.hid fun A8 c8 w8 _ n8 => ?_)
          · have n9 := Lib.hid (n7.out.trans (n8.mono n7.out.size))
            have t9 := Lib.hid (t7.out.below n8)
            have hlN := hlen.out hl8
            obtain ⟨A9, c9, rfl, hc9, hca⟩ := ivR_at r8
            replace hca := Lib.hid hca
            clear n7 n8 t7 r8 hl8 cO hlen
            obtain ⟨L, hL⟩ : ∃ L, o.length = L := ⟨_, rfl⟩
            rw [hL] at hc9 hca hlN hback ⊢
            obtain rfl := hlN
            replace hL := Lib.hid hL
            go_wp2_with fail
            go_loopg [14, 15] L (fun g i _ wr => ∃ I : Nat, i = .int .i64 I ∧ I + g = L ∧ Hid (Below w8.heap.size w8 wr))
            case atStart => exact ⟨0, rfl, by omega, Lib.hid (Below.refl _ _)⟩
            case round =>
              obtain ⟨I, rfl, f1, nI⟩ := hrel
              by_cases hI : I < L
              · obtain ⟨kO, rfl⟩ : ∃ kO, gk = kO + 1 := ⟨gk - 1, by omega⟩
                go_wp2_with fail
                go_loopg [15] I (fun g k wr => ∃ J : Nat, k = .int .i64 J ∧ J + g = I ∧ Hid (Below w8.heap.size w8 wr))
                case atStart => exact ⟨0, rfl, by omega, nI⟩
                case round =>
                  obtain ⟨J, rfl, f2, nJ⟩ := hrel
                  by_cases hJ : J < I
                  · obtain ⟨h1, h2⟩ := hback.out I J hJ hI
                    obtain ⟨g, p0, rfl, hg8, hcc⟩ := hca.out (by omega)
                    have e0 := (nJ.out.cell (p := ⟨g, p0 + J, none⟩) hg8).trans (hcc J (by omega))
                    have e1 := (nJ.out.cell (p := ⟨g, p0 + I, none⟩) hg8).trans (hcc I (by omega))
                    generalize o.getD J 0 = y at *
                    generalize o.getD I 0 = z at *
                    have q0 : ((y : Int) == (z : Int)) = false := by simp; omega
                    have cH2 := fun m => cH.out wr z y _ (t9.out.below nJ.out) m
                    rw [h2] at cH2
                    replace cH2 := Lib.hid cH2
                    have i0 : (0 : Int) ≤ (J : Int) := by omega
                    have i1 : (J : Int) < (L : Int) := by omega
                    have i2 : (0 : Int) ≤ (I : Int) := by omega
                    have i3 : (I : Int) < (L : Int) := by omega
                    clear hcc h1 h2
                    go_wp2_with fail
                    go_quiet ((with_reducible exact Calls.quiet_of (cH2.out _)))
                    go_wp2_with fail
                    go_roundg (gk - 1)
                    case measure => omega
                    case rel => exact ⟨J + 1, by go_num, by omega, Lib.hid (below_drewN nJ.out _)⟩
                  · obtain rfl : J = I := by omega
                    go_wp2_with fail
                    go_roundg kO
                    case measure => omega
                    case rel => exact ⟨J + 1, by go_num, by omega, nJ⟩
              · obtain rfl : I = L := by omega
                go_wp2_with fail
                refine cL.out _ _ (Lib.hid fun wz nz => ?_)
                have nf := n9.out.trans ((nI.out.trans (nz.mono nI.out.size)).mono n9.out.size)
                have nf2 := Lib.hid (b1.trans (nf.mono (by omega)))
                clear nf
                go_wp2_with fail
                exact hR.out _ nf2.out
          · have n9 := Lib.hid (n7.out.trans (n8.mono n7.out.size))
            clear n7 n8 t7 cO hlen hback
            go_wp2_with fail
            go_loopg [14, 15] 0 (fun g i _ wr => i = .int .i64 0 ∧ wr = w8)
            case atStart => exact ⟨rfl, rfl⟩
            case round =>
              obtain ⟨rfl, rfl⟩ := hrel
              go_wp2_with fail
              refine cL.out _ _ (Lib.hid fun wz nz => ?_)
              have nf := n9.out.trans (nz.mono n9.out.size)
              have nf2 := Lib.hid (b1.trans (nf.mono (by omega)))
              clear nf
              go_wp2_with fail
              exact hR.out _ nf2.out
  · replace hr := Lib.hid hr
    clear k0 k1 k2 hx
    go_enter Try.func5, Try.ntmps5
    go_wp2_with fail
    refine cN.out _ (Lib.hid fun _ _ h => absurd h hr.out) (Lib.hid fun w2 _ n2 => ?_)
    replace n2 := Lib.hid n2
    go_wp2_with fail
    refine cL.out _ _ (Lib.hid fun wz nz => ?_)
    have nf2 := Lib.hid (b1.trans ((n2.out.trans (nz.mono n2.out.size)).mono (by simp)))
    go_wp2_with fail
    exact hR.out _ nf2.out
end Go.Proofs.Ytpmpgagggenfiaa.Rel
