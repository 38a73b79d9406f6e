/- The code of layer 10: next, Order, Loop. -/
import Derived.Test.YtoeianacjnlepaaRelI
set_option maxRecDepth 100000
set_option linter.unusedVariables false
namespace Go.Proofs.Ytoeianacjnlepaa.Rel
open Go.RowKit Go.Lib

theorem inLoop_none {n : Nat} {F : Nat → Nat → Bool} {K : Nat} (h : ∀ b, b < n → ¬ (K ≠ b ∧ F K b = true ∧ F b K = true)) : ¬ inLoop n F K = true := fun q => by
  obtain ⟨b, h1, h2, h3, h4⟩ := inLoop_iff.1 q
  exact h b h1 ⟨h2, h3, h4⟩
set_option maxRecDepth 100000 in
set_option maxHeartbeats 1000000 in
theorem relloopx_calls (n : Nat) (P : List (Nat × Nat)) (hP : InR n P) (hn : n ≤ 64) (v : Value) (w : World) (h : RelP w v n P) (R : Ending → World → Prop)
    (hR : Hid (∀ (m : Nat) w', loopS n (ld n P) = m → Below w.heap.size w w' → R (.returned (.tuple #[.int .i64 m, .bool true])) w'))
    (hR2 : Hid (∀ w', loopS n (ld n P) = -1 → Below w.heap.size w w' → R (.returned (.tuple #[.int .i64 0, .bool false])) w')) : Calls Try.prog 32 #[v] w R := by
  have cC := Lib.hid fun R hR => relclose_calls n P hP hn v w h R hR
  have cL := Lib.hid fun (W : World) (hb : Below w.heap.size w W) R hR => rellenx_calls n P v W (h.below hb) R hR
  obtain ⟨p, rfl⟩ := h.ptr
  clear h
  go_enter Try.func32, Try.ntmps32
  go_wp2_with fail
  refine cC.out _ (Lib.hid fun cv W rc nb => ?_)
  have cH := fun (q : Nat) (a b : Nat) (ha : a < n) (hb : b < n) R hR => relhasx_calls n (cloL n P) a b (clo_in n P) hn cv (W.drewN q) (rc.below (below_drewN (Below.refl _ _) q)) R hR
  obtain ⟨pc, rfl⟩ := rc.ptr
  have cH2 : Hid (∀ (q : Nat) (a b : Nat), a < n → b < n → ∀ B, ld n P a b = B → ∀ R, Hid (∀ m, R (.returned (.bool B)) ((W.drewN q).drewN m)) → Calls Try.prog 50 #[.pointer (some ⟨pc, 0, none⟩), .int .i64 (a : Nat), .int .i64 (b : Nat)] (W.drewN q) R) := Lib.hid fun q a b ha hb B hB R hR => by
    have := cH q a b ha hb R
    rw [hasQ_clo ha hb, hB] at this
    exact this hR
  have cL2 := Lib.hid fun (q : Nat) R hR => cL.out (W.drewN q) (below_drewN nb q) R hR
  have cL3 := Lib.hid fun R hR => cL.out W nb R hR
  replace nb := Lib.hid nb
  clear cH cC rc cL
  generalize ld n P = F at *
  go_wp2_with fail
  refine cL3.out _ (Lib.hid ?_)
  go_wp2_with fail
  go_loopg [11] n (fun g i wr => ∃ (K q : Nat), i = .int .i64 K ∧ K + g = n ∧ wr = W.drewN q ∧ Hid (leastF (inLoop n F) g K = loopS n F))
  case atStart => exact ⟨0, 0, rfl, by omega, rfl, Lib.hid rfl⟩
  case round =>
    obtain ⟨K, q, rfl, c1, rfl, hc⟩ := hrel
    clear cL3
    by_cases hK : K < n
    · obtain ⟨kO, rfl⟩ : ∃ k, gk = k + 1 := ⟨gk - 1, by omega⟩
      have hc2 := hc.out
      rw [leastF] at hc2
      replace hc2 := Lib.hid hc2
      clear hc
      go_wp2_with fail
      refine cL2.out q _ (Lib.hid ?_)
      go_wp2_with fail
      go_loopg [16] n (fun g i wr => ∃ (L q : Nat), i = .int .i64 L ∧ L + g = n ∧ wr = W.drewN q ∧ Hid (∀ b, b < L → ¬ (K ≠ b ∧ F K b = true ∧ F b K = true)))
      case atStart => exact ⟨0, q, rfl, by omega, rfl, Lib.hid fun b h => by omega⟩
      case round =>
        obtain ⟨L, q2, rfl, d1, rfl, hd⟩ := hrel
        by_cases hL : L < n
        · have hnext : ¬ (K ≠ L ∧ F K L = true ∧ F L K = true) → ∀ b, b < L + 1 → ¬ (K ≠ b ∧ F K b = true ∧ F b K = true) := fun h b hb => by
            rcases Nat.eq_or_lt_of_le (Nat.le_of_lt_succ hb) with e | q
            · subst e; exact h
            · exact hd.out b q
          have cA := Lib.hid (fun q => cH2.out q K L hK hL)
          have cB := Lib.hid (fun q => cH2.out q L K hL hK)
          by_cases e : K = L
          · subst e
            have hd2 := Lib.hid (hnext (fun h => h.1 rfl))
            clear hd hnext
            go_wp2_with fail
            go_roundg (gk - 1)
            case measure => omega
            case rel => exact ⟨K + 1, q2, by go_num, by omega, rfl, hd2⟩
          · have q0 : ((K : Int) != (L : Int)) = true := by simp; omega
            cases e1 : F K L
            · have hd2 := Lib.hid (hnext (fun h => by rw [e1] at h; simp at h))
              replace e1 := Lib.hid e1
              clear hd hnext
              go_wp2_with fail
              refine cA.out q2 false e1.out _ (Lib.hid fun m => ?_)
              go_wp2_with fail
              go_roundg (gk - 1)
              case measure => omega
              case rel => exact ⟨L + 1, q2 + m, by go_num, by omega, rfl, hd2⟩
            · cases e2 : F L K
              · have hd2 := Lib.hid (hnext (fun h => by rw [e2] at h; simp at h))
                replace e1 := Lib.hid e1
                replace e2 := Lib.hid e2
                clear hd hnext
                go_wp2_with fail
                refine cA.out q2 true e1.out _ (Lib.hid fun m => ?_)
                go_wp2_with fail
                refine cB.out (q2 + m) false e2.out _ (Lib.hid fun m2 => ?_)
                go_wp2_with fail
                go_roundg (gk - 1)
                case measure => omega
                case rel => exact ⟨L + 1, q2 + m + m2, by go_num, by omega, rfl, hd2⟩
              · have hin : inLoop n F K = true := inLoop_iff.2 ⟨L, hL, e, e1, e2⟩
                have e3 := hc2.out
                rw [if_pos hin] at e3
                have fin := Lib.hid fun q => hR.out K (W.drewN q) e3.symm (below_drewN nb.out q)
                replace e1 := Lib.hid e1
                replace e2 := Lib.hid e2
                clear hd hnext hin e3
                go_wp2_with fail
                refine cA.out q2 true e1.out _ (Lib.hid fun m => ?_)
                go_wp2_with fail
                refine cB.out (q2 + m) true e2.out _ (Lib.hid fun m2 => ?_)
                go_wp2_with fail
                exact fin.out _
        · obtain rfl : L = n := by omega
          have e3 := hc2.out
          rw [if_neg (inLoop_none hd.out)] at e3
          replace e3 := Lib.hid e3
          clear hd hc2
          go_wp2_with fail
          go_roundg kO
          case measure => omega
          case rel => exact ⟨K + 1, q2, by go_num, by omega, rfl, e3⟩
    · obtain rfl : gk = 0 := by omega
      have fin := Lib.hid (hR2.out _ hc.out.symm (below_drewN nb.out q))
      clear hc cH2 cL2
      go_wp2_with fail
      exact fin.out
theorem relloop_calls (n : Nat) (P : List (Nat × Nat)) (hP : InR n P) (hn : n ≤ 64) (v : Value) (w : World) (h : RelP w v n P) (R : Ending → World → Prop)
    (hR : Hid (∀ w', Below w.heap.size w w' → R (.returned (.tuple #[.int .i64 (if loopS n (ld n P) < 0 then 0 else loopS n (ld n P)), .bool (decide (0 ≤ loopS n (ld n P)))])) w')) : Calls Try.prog 32 #[v] w R :=
  relloopx_calls n P hP hn v w h R (Lib.hid fun m w' hm hb => by
    have := hR.out w' hb
    rw [hm, if_neg (by omega), decide_eq_true (by omega : (0 : Int) ≤ (m : Int))] at this
    exact this) (Lib.hid fun w' hm hb => by
    have := hR.out w' hb
    rw [hm] at this
    exact this)
end Go.Proofs.Ytoeianacjnlepaa.Rel
