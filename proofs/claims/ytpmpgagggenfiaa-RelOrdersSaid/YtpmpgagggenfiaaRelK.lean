/- The code of layer 10: next, Order, Loop. -/
import Derived.Test.YtpmpgagggenfiaaRelI
set_option linter.unusedVariables false
namespace Go.Proofs.Ytpmpgagggenfiaa.Rel
open Go.RowKit Go.Lib

set_option maxRecDepth 100000 in
set_option maxHeartbeats 1000000 in
theorem relnext_calls (n : Nat) (P : List (Nat × Nat)) (hP : InR n P) (hn : n ≤ 64) (o : List Nat) (y : Nat) (hy : Placed o y) (v : Value) (w : World) (h : RelP w v n P) (R : Ending → World → Prop)
    (hR : Hid (∀ (m q : Nat), nextS n (dir P) o = m → R (.returned (.tuple #[.int .i64 m, .bool true])) (w.drewN q)))
    (hR2 : Hid (∀ (q : Nat), nextS n (dir P) o = -1 → R (.returned (.tuple #[.int .i64 0, .bool false])) (w.drewN q))) : Calls Try.prog 20 #[v, .int .u64 y] w R := by
  have cS := Lib.hid fun (q : Nat) (b : Nat) (hb : b < n) R hR => relsources_calls n P hP hn b hb v (w.drewN q) (h.below (below_drewN (Below.refl _ _) q)) R hR
  obtain ⟨p, f0, rfl, hp, h0, -, -⟩ := h
  replace hy := Lib.hid hy
  go_enter Try.func20, Try.ntmps20
  go_wp2_with fail
  go_loopg [11] n (fun g i wr => ∃ (K q : Nat), i = .int .i64 K ∧ K + g = n ∧ wr = w.drewN q ∧ Hid (leastF (free n (dir P) o) g K = nextS n (dir P) o))
  case atStart => exact ⟨0, 0, rfl, by omega, rfl, Lib.hid rfl⟩
  case round =>
    obtain ⟨K, q, rfl, c1, rfl, hc⟩ := hrel
    by_cases hK : K < n
    · obtain ⟨kI, rfl⟩ : ∃ k, gk = k + 1 := ⟨gk - 1, by omega⟩
      have hK64 : K < 64 := by omega
      have hc2 := hc.out
      rw [leastF] at hc2
      have hwd := hy.out.1
      obtain ⟨X, hX, X1, X2⟩ := and_row hwd hK64
      have cS2 := Lib.hid (cS.out q K hK)
      have hcf := fun x (hx : Col P K n x) => col_free hx hy.out
      cases hb : y.testBit K
      · obtain rfl := X2 hb
        have q0 : ((0 : Int) == 0) = true := by decide
        rw [hb] at hcf
        replace hcf := Lib.hid hcf
        replace hc2 := Lib.hid hc2
        clear hb X1 X2 hc
        go_wp2_with fail
        refine bit_calls _ hK64 _ _ (Lib.hid ?_)
        go_wp2_with fail
        refine cS2.out _ (Lib.hid fun x q2 hx => ?_)
        have e2 := bits_less hx.1 hwd
        have hcf2 := hcf.out x hx
        clear hx
        by_cases hl : less x y = 0
        · rw [hl] at hcf2 e2
          have hfr : free n (dir P) o K = true := by rw [← hcf2]; rfl
          have e := hc2.out
          rw [if_pos hfr] at e
          replace e := Lib.hid e.symm
          clear hcf2 hfr hc2 hl
          go_wp2_with fail
          exact hR.out K _ e.out
        · have hfr : ¬ free n (dir P) o K = true := by rw [← hcf2]; simp [hl]
          have e := hc2.out
          rw [if_neg hfr] at e
          replace e := Lib.hid e
          have q1 : (((less x y : Nat) : Int) == 0) = false := by simp; omega
          clear hcf2 hfr hc2 hl
          generalize less x y = L at *
          go_wp2_with fail
          go_roundg kI
          case measure => omega
          case rel => exact ⟨K + 1, q + q2, by go_num, by omega, rfl, e⟩
      · have hX0 := X1 hb
        have q0 : ((X : Int) == 0) = false := by simp; omega
        have hfr : ¬ free n (dir P) o K = true := fun h => by
          have := (free_iff.1 h).1
          rw [hy.out.2] at hb
          exact this (List.contains_iff_mem.1 hb)
        rw [if_neg hfr] at hc2
        replace hc2 := Lib.hid hc2
        clear hb X1 X2 hc hfr hcf
        go_wp2_with fail
        refine bit_calls _ hK64 _ _ (Lib.hid ?_)
        go_wp2_with fail
        go_roundg kI
        case measure => omega
        case rel => exact ⟨K + 1, q, by go_num, by omega, rfl, hc2⟩
    · obtain rfl : gk = 0 := by omega
      have fin := Lib.hid (hR2.out q hc.out.symm)
      clear cS hc
      go_wp2_with fail
      exact fin.out

set_option maxRecDepth 100000 in
set_option maxHeartbeats 1000000 in
theorem relorder_calls (n : Nat) (P : List (Nat × Nat)) (hP : InR n P) (hn : n ≤ 64) (v : Value) (w : World) (h : RelP w v n P) (R : Ending → World → Prop)
    (hR : Hid (∀ v' w', loopS n (ld n P) = -1 → RdAt w' v' 1 (ivR (ordS n (ld n P))) → Below w.heap.size w w' → R (.returned (.tuple #[v', .bool true])) w'))
    (hR2 : Hid (∀ A c w', 0 ≤ loopS n (ld n P) → Below w.heap.size w w' → R (.returned (.tuple #[.slice A 0 c, .bool false])) w')) : Calls Try.prog 15 #[v] w R := by
  have cN := Lib.hid fun (W : World) (hb : Below w.heap.size w W) o y hy R hR hR2 => relnext_calls n P hP hn o y hy v W (h.below hb) R hR hR2
  have cL := Lib.hid fun R hR => rellenx_calls n P v w h R hR
  obtain ⟨p, rfl⟩ := h.ptr
  obtain ⟨j0, hJ, yz0, yz1, yz2⟩ := info_parts infoIntR
  clear h
  go_enter Try.func15, Try.ntmps15
  go_wp2_with fail
  refine cL.out _ (Lib.hid ?_)
  go_wp2_with fail
  go_loopg [4, 5, 10] n (fun g s y i wr => ∃ (o : List Nat) (x : Nat) (vo : Value), vo = s ∧ y = .int .u64 (x : Nat) ∧ i = .int .i64 (o.length : Nat) ∧ o.length + g = n ∧ Hid (Below w.heap.size w wr) ∧ wr.ownsRow w.heap.size 3 1 vo o.length (ivR o) ∧ Hid (Placed o x) ∧ Hid (Ord n (ld n P) o) ∧ Hid (ordF n (ld n P) g o = ordS n (ld n P)))
  case atStart => exact ⟨[], 0, _, rfl, rfl, rfl, by simp, Lib.hid (Below.refl _ _), World.ownsRow_nil _ _ _ _, Lib.hid Placed.nil, Lib.hid (Ord.nil _ _), Lib.hid rfl⟩
  case round =>
    obtain ⟨o, x, vo, rfl, rfl, rfl, c1, nb, own, hp, ho, hs⟩ := hrel
    have hsz := nb.out.size
    by_cases hK : o.length < n
    · obtain ⟨kI, rfl⟩ : ∃ k, gk = k + 1 := ⟨gk - 1, by omega⟩
      have cN2 := Lib.hid (cN.out wr nb.out o x hp.out)
      obtain ⟨L, hL⟩ : ∃ L, o.length = L := ⟨_, rfl⟩
      rw [hL] at own hK c1 ⊢
      replace hL := Lib.hid hL
      replace own := Lib.hid own
      go_wp2_with fail
      refine cN2.out _ (Lib.hid fun m q hm => ?_) (Lib.hid fun q hm => ?_)
      · have hmd := hm
        rw [next_dir hP ho.out] at hm
        have hs2 := hs.out
        rw [ordF, if_neg (by omega), hm, Int.toNat_natCast] at hs2
        have hmf : m < n ∧ free n (ld n P) o m = true := by
          rcases next_cases (n := n) (f := ld n P) (o := o) with ⟨e, -⟩ | ⟨m', h1, h2, e⟩
          · omega
          · obtain rfl : m = m' := by omega
            exact ⟨h1, h2⟩
        have ho2 := Lib.hid (ho.out.put hmf.1 hmf.2)
        have hp2 := Lib.hid (hp.out.put (show m < 64 by omega))
        have hm64 : m < 64 := by omega
        have e3 := bits_or hp.out.1 (bit_wd hm64)
        have nW := Lib.hid (below_drewN nb.out q)
        have ow2 := own_below own.out (below_drewN (Below.refl wr.heap.size wr) q)
        replace hs2 := Lib.hid hs2
        clear cN cN2 hm hmd hs ho hp own nb hmf
        have hsz2 : w.heap.size ≤ (wr.drewN q).heap.size := hsz
        generalize wr.drewN q = W1 at *
        generalize x ||| bitN m = x2 at *
        replace e3 := Lib.hid e3
        go_wp2_with (at_builtin; refine app1 W1 (.int .i64 (m : Nat)) 3 rfl _ _ 39 rfl w.heap.size j0 (.int .i64 0) 8 Try.underlying39 hJ yz0 yz1 yz2 rfl vo _ _ rfl ow2 rfl rfl (by unfold maxLen; omega) (by omega) hsz2 ?_; intro v' w3 hown3 hg3 hb3)
        have n3 := Lib.hid (nW.out.trans (hb3.mono (Nat.le_refl _)))
        go_wp2_with fail
        refine bit_calls _ hm64 _ _ (Lib.hid ?_)
        replace e3 := e3.out
        go_wp2_with fail
        go_roundg kI
        case measure => omega
        case rel =>
          refine ⟨o ++ [m], x2, v', rfl, rfl, by rw [show (o ++ [m]).length = L + 1 by simp [hL.out]]; go_num, by simp [hL.out]; omega, n3, ?_, hp2, ho2, hs2⟩
          rw [show (o ++ [m]).length = L + 1 by simp [hL.out], show ivR (o ++ [m]) = ivR o ++ [.int .i64 (m : Nat)] by simp [ivR]]
          exact hown3
      · rw [next_dir hP ho.out] at hm
        have hlp := next_loop hP ho.out (by rw [hL.out]; exact hK) hm
        have fin := Lib.hid (hR2.out none 0 _ hlp (below_drewN nb.out q))
        clear cN cN2 hm hs ho hp own nb hlp
        go_wp2_with fail
        exact fin.out
    · have hl : o.length = n := by omega
      obtain rfl : gk = 0 := by omega
      have hfull := full_none ho.out hl
      have rd := RdAt.of_own own
      have e := hs.out
      rw [ordF] at e
      rw [e] at rd
      have fin := Lib.hid (hR.out _ _ hfull rd nb.out)
      obtain ⟨L, hL⟩ : ∃ L, o.length = L := ⟨_, rfl⟩
      rw [hL] at hK hl ⊢
      replace hl := Lib.hid hl
      clear cN hs ho hp own nb hfull rd e hL c1
      go_wp2_with fail
      exact fin.out

theorem inLoop_none {n : Nat} {F : Nat → Nat → Bool} {K : Nat} (h : ∀ b, b < n → ¬ (K ≠ b ∧ F K b = true ∧ F b K = true)) : ¬ inLoop n F K = true := fun q => by
  obtain ⟨b, h1, h2, h3, h4⟩ := inLoop_iff.1 q
  exact h b h1 ⟨h2, h3, h4⟩
set_option maxRecDepth 100000 in
set_option maxHeartbeats 1000000 in
theorem relloopx_calls (n : Nat) (P : List (Nat × Nat)) (hP : InR n P) (hn : n ≤ 64) (v : Value) (w : World) (h : RelP w v n P) (R : Ending → World → Prop)
    (hR : Hid (∀ (m : Nat) w', loopS n (ld n P) = m → Below w.heap.size w w' → R (.returned (.tuple #[.int .i64 m, .bool true])) w'))
    (hR2 : Hid (∀ w', loopS n (ld n P) = -1 → Below w.heap.size w w' → R (.returned (.tuple #[.int .i64 0, .bool false])) w')) : Calls Try.prog 13 #[v] w R := by
  have cC := Lib.hid fun R hR => relclose_calls n P hP hn v w h R hR
  have cL := Lib.hid fun (W : World) (hb : Below w.heap.size w W) R hR => rellenx_calls n P v W (h.below hb) R hR
  obtain ⟨p, rfl⟩ := h.ptr
  clear h
  go_enter Try.func13, Try.ntmps13
  go_wp2_with fail
  refine cC.out _ (Lib.hid fun cv W rc nb => ?_)
  have cH := fun (q : Nat) (a b : Nat) (ha : a < n) (hb : b < n) R hR => relhasx_calls n (cloL n P) a b (clo_in n P) hn cv (W.drewN q) (rc.below (below_drewN (Below.refl _ _) q)) R hR
  obtain ⟨pc, rfl⟩ := rc.ptr
  have cH2 : Hid (∀ (q : Nat) (a b : Nat), a < n → b < n → ∀ B, ld n P a b = B → ∀ R, Hid (∀ m, R (.returned (.bool B)) ((W.drewN q).drewN m)) → Calls Try.prog 8 #[.pointer (some ⟨pc, 0, none⟩), .int .i64 (a : Nat), .int .i64 (b : Nat)] (W.drewN q) R) := Lib.hid fun q a b ha hb B hB R hR => by
    have := cH q a b ha hb R
    rw [hasQ_clo ha hb, hB] at this
    exact this hR
  have cL2 := Lib.hid fun (q : Nat) R hR => cL.out (W.drewN q) (below_drewN nb q) R hR
  have cL3 := Lib.hid fun R hR => cL.out W nb R hR
  replace nb := Lib.hid nb
  clear cH cC rc cL
  generalize ld n P = F at *
  go_wp2_with fail
  refine cL3.out _ (Lib.hid ?_)
  go_wp2_with fail
  go_loopg [11] n (fun g i wr => ∃ (K q : Nat), i = .int .i64 K ∧ K + g = n ∧ wr = W.drewN q ∧ Hid (leastF (inLoop n F) g K = loopS n F))
  case atStart => exact ⟨0, 0, rfl, by omega, rfl, Lib.hid rfl⟩
  case round =>
    obtain ⟨K, q, rfl, c1, rfl, hc⟩ := hrel
    clear cL3
    by_cases hK : K < n
    · obtain ⟨kO, rfl⟩ : ∃ k, gk = k + 1 := ⟨gk - 1, by omega⟩
      have hc2 := hc.out
      rw [leastF] at hc2
      replace hc2 := Lib.hid hc2
      clear hc
      go_wp2_with fail
      refine cL2.out q _ (Lib.hid ?_)
      go_wp2_with fail
      go_loopg [16] n (fun g i wr => ∃ (L q : Nat), i = .int .i64 L ∧ L + g = n ∧ wr = W.drewN q ∧ Hid (∀ b, b < L → ¬ (K ≠ b ∧ F K b = true ∧ F b K = true)))
      case atStart => exact ⟨0, q, rfl, by omega, rfl, Lib.hid fun b h => by omega⟩
      case round =>
        obtain ⟨L, q2, rfl, d1, rfl, hd⟩ := hrel
        by_cases hL : L < n
        · have hnext : ¬ (K ≠ L ∧ F K L = true ∧ F L K = true) → ∀ b, b < L + 1 → ¬ (K ≠ b ∧ F K b = true ∧ F b K = true) := fun h b hb => by
            rcases Nat.eq_or_lt_of_le (Nat.le_of_lt_succ hb) with e | q
            · subst e; exact h
            · exact hd.out b q
          have cA := Lib.hid (fun q => cH2.out q K L hK hL)
          have cB := Lib.hid (fun q => cH2.out q L K hL hK)
          by_cases e : K = L
          · subst e
            have hd2 := Lib.hid (hnext (fun h => h.1 rfl))
            clear hd hnext
            go_wp2_with fail
            go_roundg (gk - 1)
            case measure => omega
            case rel => exact ⟨K + 1, q2, by go_num, by omega, rfl, hd2⟩
          · have q0 : ((K : Int) != (L : Int)) = true := by simp; omega
            cases e1 : F K L
            · have hd2 := Lib.hid (hnext (fun h => by rw [e1] at h; simp at h))
              replace e1 := Lib.hid e1
              clear hd hnext
              go_wp2_with fail
              refine cA.out q2 false e1.out _ (Lib.hid fun m => ?_)
              go_wp2_with fail
              go_roundg (gk - 1)
              case measure => omega
              case rel => exact ⟨L + 1, q2 + m, by go_num, by omega, rfl, hd2⟩
            · cases e2 : F L K
              · have hd2 := Lib.hid (hnext (fun h => by rw [e2] at h; simp at h))
                replace e1 := Lib.hid e1
                replace e2 := Lib.hid e2
                clear hd hnext
                go_wp2_with fail
                refine cA.out q2 true e1.out _ (Lib.hid fun m => ?_)
                go_wp2_with fail
                refine cB.out (q2 + m) false e2.out _ (Lib.hid fun m2 => ?_)
                go_wp2_with fail
                go_roundg (gk - 1)
                case measure => omega
                case rel => exact ⟨L + 1, q2 + m + m2, by go_num, by omega, rfl, hd2⟩
              · have hin : inLoop n F K = true := inLoop_iff.2 ⟨L, hL, e, e1, e2⟩
                have e3 := hc2.out
                rw [if_pos hin] at e3
                have fin := Lib.hid fun q => hR.out K (W.drewN q) e3.symm (below_drewN nb.out q)
                replace e1 := Lib.hid e1
                replace e2 := Lib.hid e2
                clear hd hnext hin e3
                go_wp2_with fail
                refine cA.out q2 true e1.out _ (Lib.hid fun m => ?_)
                go_wp2_with fail
                refine cB.out (q2 + m) true e2.out _ (Lib.hid fun m2 => ?_)
                go_wp2_with fail
                exact fin.out _
        · obtain rfl : L = n := by omega
          have e3 := hc2.out
          rw [if_neg (inLoop_none hd.out)] at e3
          replace e3 := Lib.hid e3
          clear hd hc2
          go_wp2_with fail
          go_roundg kO
          case measure => omega
          case rel => exact ⟨K + 1, q2, by go_num, by omega, rfl, e3⟩
    · obtain rfl : gk = 0 := by omega
      have fin := Lib.hid (hR2.out _ hc.out.symm (below_drewN nb.out q))
      clear hc cH2 cL2
      go_wp2_with fail
      exact fin.out
theorem relloop_calls (n : Nat) (P : List (Nat × Nat)) (hP : InR n P) (hn : n ≤ 64) (v : Value) (w : World) (h : RelP w v n P) (R : Ending → World → Prop)
    (hR : Hid (∀ w', Below w.heap.size w w' → R (.returned (.tuple #[.int .i64 (if loopS n (ld n P) < 0 then 0 else loopS n (ld n P)), .bool (decide (0 ≤ loopS n (ld n P)))])) w')) : Calls Try.prog 13 #[v] w R :=
  relloopx_calls n P hP hn v w h R (Lib.hid fun m w' hm hb => by
    have := hR.out w' hb
    rw [hm, if_neg (by omega), decide_eq_true (by omega : (0 : Int) ≤ (m : Int))] at this
    exact this) (Lib.hid fun w' hm hb => by
    have := hR.out w' hb
    rw [hm] at this
    exact this)
end Go.Proofs.Ytpmpgagggenfiaa.Rel
