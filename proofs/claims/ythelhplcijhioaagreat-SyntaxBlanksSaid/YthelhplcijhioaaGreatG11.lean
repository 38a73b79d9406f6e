import Derived.Test.YthelhplcijhioaaGreatZTokH
import Derived.Test.YthelhplcijhioaaGreatG9
import Derived.Test.YthelhplcijhioaaGreatG2
import Derived.Test.YthelhplcijhioaaGreatG25
import Derived.Test.YthelhplcijhioaaGreatFltK
import Derived.Deep.DeepCutAuto
import Derived.Test.YthelhplcijhioaaGreatZTokC
import Derived.Test.YthelhplcijhioaaGreatG10
import Derived.Test.YthelhplcijhioaaGreatG23
import Derived.Deep.Heap
import Derived.Deep.CutBlock
import Derived.Test.YthelhplcijhioaaGreatZTokD
import Derived.WalkMore
/- The code of layer 13: comment, takeName, takeMark. -/
set_option maxRecDepth 100000
set_option linter.unusedVariables false
namespace Go.Proofs.YthelhplcijhioaaGreat.Tok
open Go.RowKit Go.Lib Go.Proofs.YthelhplcijhioaaGreat.Utf Go.Proofs.YthelhplcijhioaaGreat.Ran Go.Proofs.YthelhplcijhioaaGreat.Cel Go.Proofs.YthelhplcijhioaaGreat.Esc Go.Proofs.YthelhplcijhioaaGreat.Dig Go.Proofs.YthelhplcijhioaaGreat.Nam Go.Proofs.YthelhplcijhioaaGreat.Pat

theorem scn_nl {s : ByteArray} {j : Nat} (h : s.size ≤ j ∨ byN s j = 10) (hj : j ≤ s.size) : scnI s j true = scnI s j false := by
  by_cases hi : j < s.size
  · have h10 : byN s j = 10 := by omega
    rw [scn_step true hi, scn_step false hi, h10]; simp [inB, blankB]
  · rw [scn_end true (by omega), scn_end false (by omega)]
theorem flk_drew {w W : World} {H : Nat} (h : Flk w H W) (n : Nat) : Flk w H (W.drewN n) := h.below (Cut.bdq (Below.refl _ _) n)
set_option maxRecDepth 100000 in
set_option maxHeartbeats 1000000 in
theorem comment_calls (s : ByteArray) (i : Nat) (hi : i < s.size) (h59 : byN s i = 59) (hs : s.size ≤ 65536) (w : World) (R : Ending → World → Prop)
    (hR : Hid (∀ (j : Nat) w', i < j → j ≤ s.size → scnI s i false = scnI s j false → Below w.heap.size w w' → R (.returned (.tuple #[.int .i64 j, .agg #[.int .i64 0, .int .i64 0]])) w'))
    (hR2 : Hid (∀ e z w', scnI s i false = (none, e, z) → e ≠ 0 → Below w.heap.size w w' → R (.returned (.tuple #[.int .i64 0, .agg #[.int .i64 e, .int .i64 z]])) w')) : Calls Tryz.prog 61 #[.string s, .int .i64 i] w R := by
  have T := Flk.new w
  have cD := Lib.hid fun (k : Nat) (W : World) R hR => dec_calls s k W (by unfold maxLen; omega) R hR
  obtain ⟨V, hV⟩ : ∃ V, V = scnI s i false := ⟨_, rfl⟩
  rw [← hV] at hR hR2
  go_enter Tryz.func61, Tryz.ntmps61
  go_upto_region 1 with fail
  generalize w.alloc (.cells #[.int .i64 0, .int .i64 0] 35) = W0 at *
  have T0 := Lib.hid T
  clear T
  replace hV := Lib.hid hV
  replace h59 := Lib.hid h59
  go_loopg [1] (s.size - i) (fun g a wr => ∃ (J : Nat) (b : Bool), a = .int .i64 J ∧ J + g = s.size ∧ i ≤ J ∧ Hid (Flk w w.heap.size wr) ∧ Hid (scnI s J b = V) ∧ Hid (b = true ↔ i < J))
  case atStart => exact ⟨i, false, rfl, by omega, by omega, T0, Lib.hid hV.out.symm, Lib.hid (by simp)⟩
  case round =>
    clear T0 hV
    obtain ⟨J, b, rfl, c1, c2, T, hsc, hb⟩ := hrel
    by_cases hJ : J < s.size
    · have hg := byN_get s J hJ
      have hbl := byN_lt s J
      have hd := decS_spec s J hJ
      by_cases h10 : byN s J = 10
      · have hbt : b = true := by
          cases b
          · have : ¬ i < J := fun q => by simpa using hb.out.2 q
            obtain rfl : i = J := by omega
            rw [h59.out] at h10; omega
          · rfl
        subst hbt
        have hlt : i < J := hb.out.1 rfl
        have fin := Lib.hid fun w' hb => hR.out J w' hlt (by omega) ((hsc.out.symm).trans (scn_nl (.inr h10) (by omega))) hb
        have q10 : ((byN s J : Int) != 10) = false := by simp [h10]
        generalize byN s J = c at *
        clear h10 hd hsc hb hR hR2 cD h59
        replace T := T.out
        obtain ⟨nf, s0', s1'⟩ := T.told (.int .i64 0) (.int .i64 0)
        have c0 := T.c0
        have c1 := T.c1
        have f0' := T.f0
        have f1' := T.f1
        replace nf := Lib.hid nf
        replace s0' := Lib.hid s0'
        replace s1' := Lib.hid s1'
        clear T
        go_wp2_with fail
        replace s0' := s0'.out
        replace s1' := s1'.out
        clear c0 c1 f0' f1'
        generalize (wr.setCell ⟨w.heap.size, 0, none⟩ _).setCell ⟨w.heap.size, 1, none⟩ _ = Wz at *
        refine bodyPost_ret ?_ rfl (fin.out _ nf.out)
        simp [results, Tryz.results61, go_sem, s0', s1']
      have hs2 := hsc.out
      have hin : inB (byN s J) b = true := by
        cases b
        · have : ¬ i < J := fun q => by simpa using hb.out.2 q
          obtain rfl : i = J := by omega
          rw [h59.out]; rfl
        · unfold inB
          simp [h10]
      rw [scn_step b hJ, if_neg (by rw [hin]; simp)] at hs2
      have q10 : ((byN s J : Int) != 10) = true := by simp; omega
      have cD2 := cD.out J wr
      generalize byN s J = c at *
      clear h10 hin hsc hb cD h59
      generalize decS s (J : Nat) = U at *
      obtain ⟨r, n, ok⟩ := U
      simp only at cD2 hs2 hd
      replace cD2 := Lib.hid cD2
      cases ok
      · rw [if_pos rfl] at hs2
        have fin := Lib.hid fun w' hb => hR2.out 2 J w' hs2.symm (by decide) hb
        clear hs2 hd hR hR2
        go_wp2_with fail
        refine cD2.out _ (Lib.hid fun nq => ?_)
        have T3 := flk_drew T.out nq
        clear T
        generalize wr.drewN nq = w2 at *
        obtain ⟨nf, s0', s1'⟩ := T3.told (.int .i64 2) (.int .i64 J)
        have c0 := T3.c0
        have c1 := T3.c1
        have f0' := T3.f0
        have f1' := T3.f1
        replace nf := Lib.hid nf
        replace s0' := Lib.hid s0'
        replace s1' := Lib.hid s1'
        clear T3
        go_wp2_with fail
        replace s0' := s0'.out
        replace s1' := s1'.out
        clear c0 c1 f0' f1'
        generalize (w2.setCell ⟨w.heap.size, 0, none⟩ _).setCell ⟨w.heap.size, 1, none⟩ _ = Wz at *
        refine bodyPost_ret ?_ rfl (fin.out _ nf.out)
        simp [results, Tryz.results61, go_sem, s0', s1']
      · rw [if_neg (by simp)] at hs2
        obtain ⟨m, rfl⟩ : ∃ m : Nat, n = m := ⟨n.toNat, by omega⟩
        rw [Int.toNat_natCast] at hs2
        have cK := fun (W : World) R hR => isUnsafe_calls r W R hR
        by_cases hr9 : r = 9
        · rw [if_neg (fun q => q.1 hr9)] at hs2
          have q1 : (r != 9) = false := by simp [hr9]
          replace hs2 := Lib.hid hs2
          clear hr9 cK hR hR2
          go_wp2_with fail
          refine cD2.out _ (Lib.hid fun nq => ?_)
          have T3 := Lib.hid (flk_drew T.out nq)
          clear T
          generalize wr.drewN nq = w2 at *
          go_wp2_with fail
          go_roundg (gk - m)
          case measure => omega
          case rel => exact ⟨J + m, true, by go_num, by omega, by omega, T3, hs2, Lib.hid ⟨fun _ => by omega, fun _ => rfl⟩⟩
        · have q1 : (r != 9) = true := by simpa using hr9
          by_cases hk0 : kindS r = 0
          · rw [if_neg (fun q => q.2 hk0)] at hs2
            replace hs2 := Lib.hid hs2
            rw [decide_eq_false (by simp [hk0])] at cK
            replace cK := Lib.hid cK
            clear hr9 hk0 hR hR2
            go_wp2_with fail
            refine cD2.out _ (Lib.hid fun nq => ?_)
            have T3 := Lib.hid (flk_drew T.out nq)
            clear T
            generalize wr.drewN nq = w2 at *
            go_wp2_with fail
            refine cK.out _ _ (Lib.hid fun w3 n3 => ?_)
            have T4 := Lib.hid (T3.out.below n3)
            clear n3 T3
            go_wp2_with fail
            go_roundg (gk - m)
            case measure => omega
            case rel => exact ⟨J + m, true, by go_num, by omega, by omega, T4, hs2, Lib.hid ⟨fun _ => by omega, fun _ => rfl⟩⟩
          · rw [if_pos ⟨hr9, hk0⟩] at hs2
            have fin := Lib.hid fun w' hb => hR2.out 3 J w' hs2.symm (by decide) hb
            rw [decide_eq_true hk0] at cK
            replace cK := Lib.hid cK
            clear hs2 hd hr9 hk0 hR hR2
            go_wp2_with fail
            refine cD2.out _ (Lib.hid fun nq => ?_)
            have T3 := Lib.hid (flk_drew T.out nq)
            clear T
            generalize wr.drewN nq = w2 at *
            go_wp2_with fail
            refine cK.out _ _ (Lib.hid fun w3 n3 => ?_)
            have T4 := T3.out.below n3
            clear n3 T3
            obtain ⟨nf, s0', s1'⟩ := T4.told (.int .i64 3) (.int .i64 J)
            have c0 := T4.c0
            have c1 := T4.c1
            have f0' := T4.f0
            have f1' := T4.f1
            replace nf := Lib.hid nf
            replace s0' := Lib.hid s0'
            replace s1' := Lib.hid s1'
            clear T4
            go_wp2_with fail
            replace s0' := s0'.out
            replace s1' := s1'.out
            clear c0 c1 f0' f1'
            generalize (w3.setCell ⟨w.heap.size, 0, none⟩ _).setCell ⟨w.heap.size, 1, none⟩ _ = Wz at *
            refine bodyPost_ret ?_ rfl (fin.out _ nf.out)
            simp [results, Tryz.results61, go_sem, s0', s1']
    · obtain rfl : J = s.size := by omega
      have hlt : i < s.size := hi
      have hbt : b = true := hb.out.2 hlt
      subst hbt
      have fin := Lib.hid fun w' hb => hR.out s.size w' hlt (Nat.le_refl _) ((hsc.out.symm).trans (scn_nl (.inl (Nat.le_refl _)) (Nat.le_refl _))) hb
      clear hsc hb hR hR2 cD h59
      replace T := T.out
      obtain ⟨nf, s0', s1'⟩ := T.told (.int .i64 0) (.int .i64 0)
      have c0 := T.c0
      have c1 := T.c1
      have f0' := T.f0
      have f1' := T.f1
      replace nf := Lib.hid nf
      replace s0' := Lib.hid s0'
      replace s1' := Lib.hid s1'
      clear T
      go_wp2_with fail
      replace s0' := s0'.out
      replace s1' := s1'.out
      clear c0 c1 f0' f1'
      generalize (wr.setCell ⟨w.heap.size, 0, none⟩ _).setCell ⟨w.heap.size, 1, none⟩ _ = Wz at *
      refine bodyPost_ret ?_ rfl (fin.out _ nf.out)
      simp [results, Tryz.results61, go_sem, s0', s1']

set_option maxRecDepth 100000 in
set_option maxHeartbeats 1000000 in
/-- takeName, where a letter stands. -/
theorem takename_calls (s : ByteArray) (k : Nat) (hk : k < s.size) (h0 : 0 < sigS s k) (hs : s.size ≤ 65536) (w : World) (R : Ending → World → Prop)
    (hR : Hid (∀ w', Below w.heap.size w w' → R (.returned (if 32 < sigS s k then .tuple #[.string ⟨#[]⟩, .int .i64 0, .agg #[.int .i64 9, .int .i64 k]] else .tuple #[.string (s.extract k (k + sigS s k)), .int .i64 ((k + sigS s k : Nat) : Int), .agg #[.int .i64 0, .int .i64 0]])) w')) : Calls Tryz.prog 105 #[.string s, .int .i64 k] w R := by
  have cT := fun (W : World) R hR => take_calls s (k : Int) (by unfold maxLen; omega) W R hR
  rw [takS_nat hk] at cT
  have hl := sig_len hk
  have xz : (s.extract k (k + sigS s k)).size = sigS s k := by rw [ByteArray.size_extract]; omega
  have cR := fun (W : World) R hR => right_calls (s.extract k (k + sigS s k)) (by rw [xz]; unfold maxLen; omega) W R hR
  have T := Flk.new w
  have hk2 : 32 < sigS s k → rightS (s.extract k (k + sigS s k)) = false := fun h => by
    cases hb : rightS (s.extract k (k + sigS s k))
    · rfl
    · have := rightS_pos hb
      omega
  have hk3 : ¬ 32 < sigS s k → rightS (s.extract k (k + sigS s k)) = true := fun h => (right_cut h0 (by omega)).1
  generalize s.extract k (k + sigS s k) = x at *
  generalize sigS s k = m at *
  simp only at cT
  replace cT := Lib.hid cT
  by_cases h1 : 32 < m
  · rw [hk2 h1] at cR
    rw [if_pos h1] at hR
    replace cR := Lib.hid cR
    clear hk2 hk3 xz hl h0
    go_enter Tryz.func105, Tryz.ntmps105
    go_upto_region 1 with fail
    generalize w.alloc (.cells #[.int .i64 0, .int .i64 0] 35) = W0 at *
    replace T := Lib.hid T
    go_wp2_with fail
    refine cT.out _ _ (Lib.hid ?_)
    go_wp2_with fail
    refine cR.out _ _ (Lib.hid ?_)
    replace T := T.out
    obtain ⟨nf, s0', s1'⟩ := T.told (.int .i64 9) (.int .i64 k)
    have c0 := T.c0
    have c1 := T.c1
    have f0' := T.f0
    have f1' := T.f1
    replace nf := Lib.hid nf
    replace s0' := Lib.hid s0'
    replace s1' := Lib.hid s1'
    clear T
    go_wp2_with fail
    replace s0' := s0'.out
    replace s1' := s1'.out
    clear c0 c1 f0' f1'
    generalize (W0.setCell ⟨w.heap.size, 0, none⟩ _).setCell ⟨w.heap.size, 1, none⟩ _ = Wz at *
    refine bodyPost_ret ?_ rfl (hR.out _ nf.out)
    simp [results, Tryz.results105, go_sem, s0', s1']
  · rw [hk3 h1] at cR
    rw [if_neg h1] at hR
    replace cR := Lib.hid cR
    clear hk2 hk3 xz hl h0
    go_enter Tryz.func105, Tryz.ntmps105
    go_upto_region 1 with fail
    generalize w.alloc (.cells #[.int .i64 0, .int .i64 0] 35) = W0 at *
    replace T := Lib.hid T
    go_wp2_with fail
    refine cT.out _ _ (Lib.hid ?_)
    go_wp2_with fail
    refine cR.out _ _ (Lib.hid ?_)
    replace T := T.out
    obtain ⟨nf, s0', s1'⟩ := T.told (.int .i64 0) (.int .i64 0)
    have c0 := T.c0
    have c1 := T.c1
    have f0' := T.f0
    have f1' := T.f1
    replace nf := Lib.hid nf
    replace s0' := Lib.hid s0'
    replace s1' := Lib.hid s1'
    clear T
    go_wp2_with fail
    replace s0' := s0'.out
    replace s1' := s1'.out
    clear c0 c1 f0' f1'
    generalize (W0.setCell ⟨w.heap.size, 0, none⟩ _).setCell ⟨w.heap.size, 1, none⟩ _ = Wz at *
    refine bodyPost_ret ?_ rfl (hR.out _ nf.out)
    simp [results, Tryz.results105, go_sem, s0', s1']

set_option maxRecDepth 100000 in
set_option maxHeartbeats 1000000 in
/-- takeMark. -/
theorem takemark_calls (s : ByteArray) (k : Nat) (hk : k < s.size) (hs : s.size ≤ 65536) (w : World) (R : Ending → World → Prop)
    (hR : Hid (∀ w', Below w.heap.size w w' → R (.returned (if 0 < markN s k then .tuple #[.string (s.extract k (k + markN s k)), .int .i64 ((k + markN s k : Nat) : Int), .agg #[.int .i64 0, .int .i64 0]] else .tuple #[.string ⟨#[]⟩, .int .i64 0, .agg #[.int .i64 (if (decS s k).2.2 = false then 2 else 3), .int .i64 k]])) w')) : Calls Tryz.prog 108 #[.string s, .int .i64 k] w R := by
  have cM := fun (W : World) R hR => mark_calls s (k : Int) (by unfold maxLen; omega) (by omega) W R hR
  rw [markS_nat] at cM
  have cD := Lib.hid fun (W : World) R hR => dec_calls s k W (by unfold maxLen; omega) R hR
  have hl := mark_len (s := s) (i := k) (by omega)
  have xz : (s.extract k (k + markN s k)).size = markN s k := by rw [ByteArray.size_extract]; omega
  have T := Flk.new w
  generalize s.extract k (k + markN s k) = x at *
  by_cases h0 : 0 < markN s k
  · rw [if_pos h0] at hR
    have hE := Nam.isE_pos (s := x) (by omega)
    have hc : ((k + markN s k : Nat) : Int) = (k : Int) + (x.size : Int) := by omega
    rw [hc] at hR
    have hx1 : x.size ≤ 65536 := by omega
    have hx2 : 0 < x.size := by omega
    have hx3 : ¬ x.toList = [] := fun e => by rw [e] at hE; simp at hE
    clear h0 cD hc xz hl
    replace cM := Lib.hid cM
    go_enter Tryz.func108, Tryz.ntmps108
    go_upto_region 1 with fail
    generalize w.alloc (.cells #[.int .i64 0, .int .i64 0] 35) = W0 at *
    replace T := Lib.hid T
    go_wp2_with fail
    refine cM.out _ _ (Lib.hid fun w1 n1 => ?_)
    have T3 := T.out.below n1
    clear T n1
    obtain ⟨nf, s0', s1'⟩ := T3.told (.int .i64 0) (.int .i64 0)
    have c0 := T3.c0
    have c1 := T3.c1
    have f0' := T3.f0
    have f1' := T3.f1
    replace nf := Lib.hid nf
    replace s0' := Lib.hid s0'
    replace s1' := Lib.hid s1'
    clear T3
    go_wp2_with fail
    replace s0' := s0'.out
    replace s1' := s1'.out
    clear c0 c1 f0' f1'
    generalize (w1.setCell ⟨w.heap.size, 0, none⟩ _).setCell ⟨w.heap.size, 1, none⟩ _ = Wz at *
    refine bodyPost_ret ?_ rfl (hR.out _ nf.out)
    simp [results, Tryz.results108, go_sem, s0', s1']
  · rw [if_neg h0] at hR
    have hx : x.size = 0 := by omega
    have hE := Nam.isE_nil (s := x) hx
    clear xz hl h0
    replace cM := Lib.hid cM
    have cD2 := cD.out
    clear cD
    generalize decS s (k : Nat) = U at *
    obtain ⟨r, n, ok⟩ := U
    simp only at cD2 hR
    replace cD2 := Lib.hid cD2
    cases ok
    · rw [if_pos rfl] at hR
      go_enter Tryz.func108, Tryz.ntmps108
      go_upto_region 1 with fail
      generalize w.alloc (.cells #[.int .i64 0, .int .i64 0] 35) = W0 at *
      replace T := Lib.hid T
      go_wp2_with fail
      refine cM.out _ _ (Lib.hid fun w1 n1 => ?_)
      have T3 := Lib.hid (T.out.below n1)
      clear T n1
      go_wp2_with fail
      refine cD2.out _ _ (Lib.hid fun nq => ?_)
      have T4 := flk_drew T3.out nq
      clear T3
      generalize w1.drewN nq = w2 at *
      obtain ⟨nf, s0', s1'⟩ := T4.told (.int .i64 2) (.int .i64 k)
      have c0 := T4.c0
      have c1 := T4.c1
      have f0' := T4.f0
      have f1' := T4.f1
      replace nf := Lib.hid nf
      replace s0' := Lib.hid s0'
      replace s1' := Lib.hid s1'
      clear T4
      go_wp2_with fail
      replace s0' := s0'.out
      replace s1' := s1'.out
      clear c0 c1 f0' f1'
      generalize (w2.setCell ⟨w.heap.size, 0, none⟩ _).setCell ⟨w.heap.size, 1, none⟩ _ = Wz at *
      refine bodyPost_ret ?_ rfl (hR.out _ nf.out)
      simp [results, Tryz.results108, go_sem, s0', s1']
    · rw [if_neg (by simp)] at hR
      go_enter Tryz.func108, Tryz.ntmps108
      go_upto_region 1 with fail
      generalize w.alloc (.cells #[.int .i64 0, .int .i64 0] 35) = W0 at *
      replace T := Lib.hid T
      go_wp2_with fail
      refine cM.out _ _ (Lib.hid fun w1 n1 => ?_)
      have T3 := Lib.hid (T.out.below n1)
      clear T n1
      go_wp2_with fail
      refine cD2.out _ _ (Lib.hid fun nq => ?_)
      have T4 := flk_drew T3.out nq
      clear T3
      generalize w1.drewN nq = w2 at *
      obtain ⟨nf, s0', s1'⟩ := T4.told (.int .i64 3) (.int .i64 k)
      have c0 := T4.c0
      have c1 := T4.c1
      have f0' := T4.f0
      have f1' := T4.f1
      replace nf := Lib.hid nf
      replace s0' := Lib.hid s0'
      replace s1' := Lib.hid s1'
      clear T4
      go_wp2_with fail
      replace s0' := s0'.out
      replace s1' := s1'.out
      clear c0 c1 f0' f1'
      generalize (w2.setCell ⟨w.heap.size, 0, none⟩ _).setCell ⟨w.heap.size, 1, none⟩ _ = Wz at *
      refine bodyPost_ret ?_ rfl (hR.out _ nf.out)
      simp [results, Tryz.results108, go_sem, s0', s1']
end Go.Proofs.YthelhplcijhioaaGreat.Tok

/- The code of layer 13: take's boxes. -/
set_option maxRecDepth 100000
set_option linter.unusedVariables false
namespace Go.Proofs.YthelhplcijhioaaGreat.Tok
open Go.RowKit Go.Lib Go.Proofs.YthelhplcijhioaaGreat.Utf Go.Proofs.YthelhplcijhioaaGreat.Ran Go.Proofs.YthelhplcijhioaaGreat.Cel Go.Proofs.YthelhplcijhioaaGreat.Esc Go.Proofs.YthelhplcijhioaaGreat.Dig Go.Proofs.YthelhplcijhioaaGreat.Nam Go.Proofs.YthelhplcijhioaaGreat.Pat

theorem heap_setCell_in {w : World} {b : Nat} {C : Array Value} {t : TypeId} {fr : Nat × Nat} (h : w.heap[b]? = some (.cells C t fr)) (o : Nat) (v : Value) : (w.setCell ⟨b, o, none⟩ v).heap[b]? = some (.cells (C.setIfInBounds o v) t fr) := by
  show (w.heap.modify b _)[b]? = _
  rw [Array.getElem?_modify, if_pos rfl, h]
  rfl
theorem heap_setCell_out {w : World} {b c : Nat} {X : Option Obj} (h : w.heap[b]? = X) (o : Nat) (v : Value) (hne : b ≠ c) : (w.setCell ⟨c, o, none⟩ v).heap[b]? = X := (Go.Deep.blk_setCell_other w ⟨c, o, none⟩ v b hne).trans h
/-- The four boxes of take: a token's and a fault's that are handed back, a token's and a fault's of its own. -/
structure Tk4 (w : World) (H : Nat) (K k en : Int) (x : ByteArray) (n e z : Int) (W : World) : Prop where
  nb : Below H w W
  lt : H + 3 < W.heap.size
  r0 : W.heap[H]? = some (.cells #[.int .i64 0, .int .i64 0, .int .i64 0, .string ⟨#[]⟩, .int .i64 0] 76 (0, 0))
  r1 : W.heap[H + 1]? = some (.cells #[.int .i64 0, .int .i64 0] 35 (0, 0))
  r2 : W.heap[H + 2]? = some (.cells #[.int .i64 K, .int .i64 k, .int .i64 en, .string x, .int .i64 n] 76 (0, 0))
  r3 : W.heap[H + 3]? = some (.cells #[.int .i64 e, .int .i64 z] 35 (0, 0))
theorem Tk4.below {w W W' : World} {H : Nat} {K k en : Int} {x : ByteArray} {n e z : Int} (h : Tk4 w H K k en x n e z W) (hb : Below W.heap.size W W') : Tk4 w H K k en x n e z W' :=
  have l := h.lt
  ⟨h.nb.trans (hb.mono (by omega)), Nat.lt_of_lt_of_le l hb.size, (hb.block H (by omega)).trans h.r0, (hb.block (H + 1) (by omega)).trans h.r1, (hb.block (H + 2) (by omega)).trans h.r2, (hb.block (H + 3) l).trans h.r3⟩
theorem Tk4.setT {w W : World} {H : Nat} {K k en : Int} {x : ByteArray} {n e z : Int} (h : Tk4 w H K k en x n e z W) (o : Nat) (v : Value) (K' k' en' : Int) (x' : ByteArray) (n' : Int)
    (q : (#[.int .i64 K, .int .i64 k, .int .i64 en, .string x, .int .i64 n] : Array Value).setIfInBounds o v = #[.int .i64 K', .int .i64 k', .int .i64 en', .string x', .int .i64 n']) : Tk4 w H K' k' en' x' n' e z (W.setCell ⟨H + 2, o, none⟩ v) :=
  ⟨h.nb.setCell (p := ⟨H + 2, o, none⟩) (by show H ≤ H + 2; omega) v, by simpa [World.setCell] using h.lt, heap_setCell_out h.r0 o v (by omega), heap_setCell_out h.r1 o v (by omega), (heap_setCell_in h.r2 o v).trans (by rw [q]), heap_setCell_out h.r3 o v (by omega)⟩
theorem Tk4.setF {w W : World} {H : Nat} {K k en : Int} {x : ByteArray} {n e z : Int} (h : Tk4 w H K k en x n e z W) (o : Nat) (v : Value) (e' z' : Int)
    (q : (#[.int .i64 e, .int .i64 z] : Array Value).setIfInBounds o v = #[.int .i64 e', .int .i64 z']) : Tk4 w H K k en x n e' z' (W.setCell ⟨H + 3, o, none⟩ v) :=
  ⟨h.nb.setCell (p := ⟨H + 3, o, none⟩) (by show H ≤ H + 3; omega) v, by simpa [World.setCell] using h.lt, heap_setCell_out h.r0 o v (by omega), heap_setCell_out h.r1 o v (by omega), heap_setCell_out h.r2 o v (by omega), (heap_setCell_in h.r3 o v).trans (by rw [q])⟩
/-- What the switch lays into them: a text, or a number. -/
theorem Tk4.txt {w W : World} {H : Nat} {K k : Int} (h : Tk4 w H K k 0 ⟨#[]⟩ 0 0 0 W) (en : Int) (x : ByteArray) (e z : Int) : Tk4 w H K k en x 0 e z ((((W.setCell ⟨H + 2, 3, none⟩ (.string x)).setCell ⟨H + 2, 2, none⟩ (.int .i64 en)).setCell ⟨H + 3, 0, none⟩ (.int .i64 e)).setCell ⟨H + 3, 1, none⟩ (.int .i64 z)) :=
  (((h.setT 3 (.string x) K k 0 x 0 rfl).setT 2 (.int .i64 en) K k en x 0 rfl).setF 0 (.int .i64 e) e 0 rfl).setF 1 (.int .i64 z) e z rfl
theorem Tk4.num {w W : World} {H : Nat} {K k : Int} (h : Tk4 w H K k 0 ⟨#[]⟩ 0 0 0 W) (en n e z : Int) : Tk4 w H K k en ⟨#[]⟩ n e z ((((W.setCell ⟨H + 2, 4, none⟩ (.int .i64 n)).setCell ⟨H + 2, 2, none⟩ (.int .i64 en)).setCell ⟨H + 3, 0, none⟩ (.int .i64 e)).setCell ⟨H + 3, 1, none⟩ (.int .i64 z)) :=
  (((h.setT 4 (.int .i64 n) K k 0 ⟨#[]⟩ n rfl).setT 2 (.int .i64 en) K k en ⟨#[]⟩ n rfl).setF 0 (.int .i64 e) e 0 rfl).setF 1 (.int .i64 z) e z rfl
theorem Tk4.cells {w W : World} {H : Nat} {K k en : Int} {x : ByteArray} {n e z : Int} (h : Tk4 w H K k en x n e z W) : (W.cell? ⟨H, 0, none⟩ = some (.int .i64 0) ∧ W.cell? ⟨H, 1, none⟩ = some (.int .i64 0) ∧ W.cell? ⟨H, 2, none⟩ = some (.int .i64 0) ∧ W.cell? ⟨H, 3, none⟩ = some (.string ⟨#[]⟩) ∧ W.cell? ⟨H, 4, none⟩ = some (.int .i64 0)) ∧
    (W.cell? ⟨H + 1, 0, none⟩ = some (.int .i64 0) ∧ W.cell? ⟨H + 1, 1, none⟩ = some (.int .i64 0)) ∧
    (W.cell? ⟨H + 2, 0, none⟩ = some (.int .i64 K) ∧ W.cell? ⟨H + 2, 1, none⟩ = some (.int .i64 k) ∧ W.cell? ⟨H + 2, 2, none⟩ = some (.int .i64 en) ∧ W.cell? ⟨H + 2, 3, none⟩ = some (.string x) ∧ W.cell? ⟨H + 2, 4, none⟩ = some (.int .i64 n)) ∧
    (W.cell? ⟨H + 3, 0, none⟩ = some (.int .i64 e) ∧ W.cell? ⟨H + 3, 1, none⟩ = some (.int .i64 z)) := by
  refine ⟨⟨?_, ?_, ?_, ?_, ?_⟩, ⟨?_, ?_⟩, ⟨?_, ?_, ?_, ?_, ?_⟩, ?_, ?_⟩
  all_goals first | (rw [Lib.cell_of_heap h.r0]; rfl) | (rw [Lib.cell_of_heap h.r1]; rfl) | (rw [Lib.cell_of_heap h.r2]; rfl) | (rw [Lib.cell_of_heap h.r3]; rfl)
theorem Tk4.marks {w W : World} {H : Nat} {K k en : Int} {x : ByteArray} {n e z : Int} (h : Tk4 w H K k en x n e z W) : (∀ j, W.frozen? ⟨H, j, none⟩ = false) ∧ (∀ j, W.frozen? ⟨H + 1, j, none⟩ = false) ∧ (∀ j, W.frozen? ⟨H + 2, j, none⟩ = false) ∧ (∀ j, W.frozen? ⟨H + 3, j, none⟩ = false) :=
  ⟨fun j => Lib.frozen_of_heap h.r0 j, fun j => Lib.frozen_of_heap h.r1 j, fun j => Lib.frozen_of_heap h.r2 j, fun j => Lib.frozen_of_heap h.r3 j⟩
theorem Tk4.new (w : World) (K k : Int) : Tk4 w w.heap.size K k 0 ⟨#[]⟩ 0 0 0 ((((w.alloc (.cells #[.int .i64 0, .int .i64 0, .int .i64 0, .string ⟨#[]⟩, .int .i64 0] 76)).alloc (.cells #[.int .i64 0, .int .i64 0] 35)).alloc (.cells #[.int .i64 K, .int .i64 k, .int .i64 0, .string ⟨#[]⟩, .int .i64 0] 76)).alloc (.cells #[.int .i64 0, .int .i64 0] 35)) := by
  generalize hA : (w.alloc (.cells #[.int .i64 0, .int .i64 0, .int .i64 0, .string ⟨#[]⟩, .int .i64 0] 76)).alloc (.cells #[.int .i64 0, .int .i64 0] 35) = W
  have T := Tkb.new w
  rw [hA] at T
  have z : W.heap.size = w.heap.size + 2 := by rw [← hA]; simp
  have b1 := (Below.refl W.heap.size W).alloc (Nat.le_refl _) (.cells #[.int .i64 K, .int .i64 k, .int .i64 0, .string ⟨#[]⟩, .int .i64 0] 76)
  have b2 := b1.alloc b1.size (.cells #[.int .i64 0, .int .i64 0] 35)
  obtain ⟨q1, q2⟩ := heap_two W (.cells #[.int .i64 K, .int .i64 k, .int .i64 0, .string ⟨#[]⟩, .int .i64 0] 76) (.cells #[.int .i64 0, .int .i64 0] 35)
  rw [z] at q1 q2
  have T2 := T.below b2
  exact ⟨T2.nb, by simp [z], T2.r0, T2.r1, q1, q2⟩
end Go.Proofs.YthelhplcijhioaaGreat.Tok

/- The code of layer 13: take. -/
set_option maxRecDepth 100000
set_option linter.unusedVariables false
namespace Go.Proofs.YthelhplcijhioaaGreat.Tok
open Go.RowKit Go.Lib Go.Proofs.YthelhplcijhioaaGreat.Utf Go.Proofs.YthelhplcijhioaaGreat.Ran Go.Proofs.YthelhplcijhioaaGreat.Cel Go.Proofs.YthelhplcijhioaaGreat.Esc Go.Proofs.YthelhplcijhioaaGreat.Dig Go.Proofs.YthelhplcijhioaaGreat.Nam Go.Proofs.YthelhplcijhioaaGreat.Pat

theorem kind_sig {s : ByteArray} {k : Nat} (hk : k < s.size) : 97 ≤ byN s k ∧ byN s k ≤ 122 ↔ 0 < sigS s k := by
  unfold sigS
  constructor
  · intro h
    rw [if_pos ⟨hk, h⟩, runF_step hk (small_sign h)]
    omega
  · intro h
    split at h
    · rename_i q; exact q.2
    · omega
/-- What take answers, by what the switch lays into its boxes. -/
def TkA (s : ByteArray) (k : Nat) (K en : Int) (x : ByteArray) (n e z : Int) : Prop := (e ≠ 0 → tokS s k = (zT, e, z)) ∧ (e = 0 → z = 0 ∧ tokS s k = ((K, (k : Int), en, x, n), 0, 0))
theorem kd_1 {s : ByteArray} {k : Nat} (hk : k < s.size) (h : kindN (byN s k) = 1) : 0 < sigS s k := by
  rw [← kind_sig hk]
  unfold kindN at h
  split at h
  · assumption
  · (repeat' split at h) <;> omega
theorem kd_2 {s : ByteArray} {k : Nat} (hk : k < s.size) (h : kindN (byN s k) = 2) : ¬ 0 < sigS s k ∧ (byN s k = 45 ∨ (48 ≤ byN s k ∧ byN s k ≤ 57)) := by
  rw [← kind_sig hk]
  unfold kindN at h
  (repeat' split at h) <;> first | omega | exact ⟨by assumption, by assumption⟩
theorem kd_3 {s : ByteArray} {k : Nat} (hk : k < s.size) (h : kindN (byN s k) = 3) : ¬ 0 < sigS s k ∧ ¬ (byN s k = 45 ∨ (48 ≤ byN s k ∧ byN s k ≤ 57)) ∧ byN s k = 34 := by
  rw [← kind_sig hk]
  unfold kindN at h
  (repeat' split at h) <;> first | omega | exact ⟨by assumption, by assumption, by assumption⟩
theorem kd_4 {s : ByteArray} {k : Nat} (hk : k < s.size) (h : kindN (byN s k) = 4) : ¬ 0 < sigS s k ∧ ¬ (byN s k = 45 ∨ (48 ≤ byN s k ∧ byN s k ≤ 57)) ∧ ¬ byN s k = 34 := by
  rw [← kind_sig hk]
  unfold kindN at h
  (repeat' split at h) <;> first | omega | exact ⟨by assumption, by assumption, by assumption⟩
theorem kd_any (c : Nat) : kindN c = 1 ∨ kindN c = 2 ∨ kindN c = 3 ∨ kindN c = 4 := by
  unfold kindN
  (repeat' split) <;> omega
theorem name_ok (s : ByteArray) (k : Nat) (hk : k < s.size) (h : kindN (byN s k) = 1) (hs : s.size ≤ 65536) (w : World) (R : Ending → World → Prop)
    (hR : Hid (∀ en x e z w', TkA s k 1 en x 0 e z → Below w.heap.size w w' → R (.returned (.tuple #[.string x, .int .i64 en, .agg #[.int .i64 e, .int .i64 z]])) w')) : Calls Tryz.prog 105 #[.string s, .int .i64 k] w R := by
  have h1 := kd_1 hk h
  refine takename_calls s k hk h1 hs w R (Lib.hid fun w' hb => ?_)
  by_cases h2 : 32 < sigS s k
  · rw [if_pos h2]
    exact hR.out _ _ _ _ _ ⟨fun _ => by unfold tokS; rw [if_pos h1, if_pos h2], fun q => absurd q (by decide)⟩ hb
  · rw [if_neg h2]
    exact hR.out _ _ _ _ _ ⟨fun q => absurd rfl q, fun _ => ⟨rfl, by unfold tokS; rw [if_pos h1, if_neg h2]⟩⟩ hb
theorem num_ok (s : ByteArray) (k : Nat) (hk : k < s.size) (h : kindN (byN s k) = 2) (hs : s.size ≤ 65536) (w : World) (R : Ending → World → Prop)
    (hR : Hid (∀ en n e z w', TkA s k 2 en ⟨#[]⟩ n e z → Below w.heap.size w w' → R (.returned (.tuple #[.int .i64 n, .int .i64 en, .agg #[.int .i64 e, .int .i64 z]])) w')) : Calls Tryz.prog 106 #[.string s, .int .i64 k] w R := by
  obtain ⟨h1, h2⟩ := kd_2 hk h
  refine Dig.take_calls s k (by omega) w (by omega) R (Lib.hid fun w' hb => ?_)
  rw [tkS_nat hk]
  refine hR.out _ _ _ _ _ ⟨fun q => by unfold tokS; rw [if_neg h1, if_pos h2, if_pos q], fun q => ?_⟩ hb
  have hz : (tkN s k).2.2.2 = 0 := tk_ok q
  exact ⟨hz, by unfold tokS; rw [if_neg h1, if_pos h2, if_neg (by omega)]; rfl⟩
theorem text_ok (s : ByteArray) (k : Nat) (hk : k < s.size) (h : kindN (byN s k) = 3) (hs : s.size ≤ 65536) (w : World) (R : Ending → World → Prop)
    (hR : Hid (∀ en x e z w', TkA s k 3 en x 0 e z → Below w.heap.size w w' → R (.returned (.tuple #[.string x, .int .i64 en, .agg #[.int .i64 e, .int .i64 z]])) w')) : Calls Tryz.prog 107 #[.string s, .int .i64 k] w R := by
  obtain ⟨h1, h2, h3⟩ := kd_3 hk h
  refine unquote_calls s k w (by omega) R (Lib.hid fun w' hb => ?_)
  rw [unqS_nat hk h3]
  refine hR.out _ _ _ _ _ ⟨fun q => by unfold tokS; rw [if_neg h1, if_neg h2, if_pos h3, if_pos q], fun q => ?_⟩ hb
  have hz : (unqF s (k + 1) ByteArray.empty).2.2.2 = 0 := unq_ok _ _ _ (Nat.le_refl _) q
  exact ⟨hz, by unfold tokS; rw [if_neg h1, if_neg h2, if_pos h3, if_neg (by omega)]⟩
theorem mark_ok (s : ByteArray) (k : Nat) (hk : k < s.size) (h : kindN (byN s k) = 4) (hs : s.size ≤ 65536) (w : World) (R : Ending → World → Prop)
    (hR : Hid (∀ en x e z w', TkA s k 4 en x 0 e z → Below w.heap.size w w' → R (.returned (.tuple #[.string x, .int .i64 en, .agg #[.int .i64 e, .int .i64 z]])) w')) : Calls Tryz.prog 108 #[.string s, .int .i64 k] w R := by
  obtain ⟨h1, h2, h3⟩ := kd_4 hk h
  refine takemark_calls s k hk hs w R (Lib.hid fun w' hb => ?_)
  by_cases h4 : 0 < markN s k
  · rw [if_pos h4]
    exact hR.out _ _ _ _ _ ⟨fun q => absurd rfl q, fun _ => ⟨rfl, by unfold tokS; rw [if_neg h1, if_neg h2, if_neg h3, if_pos h4]⟩⟩ hb
  · rw [if_neg h4]
    refine hR.out _ _ _ _ _ ⟨fun _ => ?_, fun q => ?_⟩ hb
    · unfold tokS; rw [if_neg h1, if_neg h2, if_neg h3, if_neg h4]
      by_cases h5 : (decS s k).2.2 = false
      · rw [if_pos h5, if_pos h5]
      · rw [if_neg h5, if_neg h5]
    · exfalso; revert q; split <;> decide
theorem Tk4.tkb {w W : World} {H : Nat} {K k en : Int} {x : ByteArray} {n e z : Int} (h : Tk4 w H K k en x n e z W) : Tkb w H W := ⟨h.nb, by have := h.lt; omega, h.r0, h.r1⟩
set_option maxRecDepth 100000 in
set_option maxHeartbeats 4000000 in
theorem toktake_calls (s : ByteArray) (k : Nat) (hk : k < s.size) (hs : s.size ≤ 65536) (w : World) (R : Ending → World → Prop)
    (hR : Hid (∀ w', Below w.heap.size w w' → R (.returned (.tuple #[tkV (tokS s k).1, .agg #[.int .i64 (tokS s k).2.1, .int .i64 (tokS s k).2.2]])) w')) : Calls Tryz.prog 62 #[.string s, .int .i64 k] w R := by
  have hg := byN_get s k hk
  have hbl := byN_lt s k
  have cK := Lib.hid fun (W : World) R hR => tkind_calls (byN s k) W R hR
  have c1 := Lib.hid fun (W : World) R h hR => name_ok s k hk h hs W R hR
  have c2 := Lib.hid fun (W : World) R h hR => num_ok s k hk h hs W R hR
  have c3 := Lib.hid fun (W : World) R h hR => text_ok s k hk h hs W R hR
  have c4 := Lib.hid fun (W : World) R h hR => mark_ok s k hk h hs W R hR
  have hK4 := kd_any (byN s k)
  have T := fun K => Tk4.new w K (k : Int)
  obtain ⟨K, hK⟩ : ∃ K, kindN (byN s k) = K := ⟨_, rfl⟩
  rw [hK] at cK c1 c2 c3 c4 hK4
  clear hK
  replace T := Lib.hid (T K)
  replace hK4 := Lib.hid hK4
  generalize byN s k = c at *
  go_enter Tryz.func62, Tryz.ntmps62
  go_wp2_with fail
  refine cK.out _ _ (Lib.hid ?_)
  go_upto_region 3 with fail
  replace T := T.out
  generalize (((w.alloc _).alloc _).alloc _).alloc _ = W0 at *
  obtain ⟨⟨-, -, -, -, -⟩, ⟨-, -⟩, ⟨k0, -, -, -, -⟩, -, -⟩ := T.cells
  replace T := Lib.hid T
  replace c1 := Lib.hid c1.out
  have hK4' := hK4.out
  clear hK4
  go_upto_block 0 with fail
  go_cut [14] (fun e wx => e = .pointer (some ⟨w.heap.size + 2, 0, none⟩) ∧ ∃ (en : Int) (x : ByteArray) (n e z : Int), Hid (Tk4 w w.heap.size K k en x n e z wx) ∧ Hid (TkA s k K en x n e z))
  case first =>
    clear hR cK
    rcases hK4' with rfl | rfl | rfl | rfl
    · go_wp2_with fail
      refine c1.out _ _ trivial (Lib.hid fun en x e z w1 ha n1 => ?_)
      have T1 := T.out.below n1
      have TT := Lib.hid (T1.txt en x e z)
      obtain ⟨-, -, ⟨m0, m1, m2, m3, m4⟩, m5, m6⟩ := T1.cells
      obtain ⟨-, -, fz, fy⟩ := T1.marks
      have zz2 := fz 2
      have zz3 := fz 3
      have yy0 := fy 0
      have yy1 := fy 1
      replace ha := Lib.hid ha
      clear fz fy T T1 n1 c1 c2 c3 c4
      go_wp2_with fail
      go_meet
      exact ⟨rfl, en, x, 0, e, z, TT, ha⟩
    · go_wp2_with fail
      refine c2.out _ _ trivial (Lib.hid fun en n e z w1 ha n1 => ?_)
      have T1 := T.out.below n1
      have TT := Lib.hid (T1.num en n e z)
      obtain ⟨-, -, ⟨m0, m1, m2, m3, m4⟩, m5, m6⟩ := T1.cells
      obtain ⟨-, -, fz, fy⟩ := T1.marks
      have zz2 := fz 2
      have zz4 := fz 4
      have yy0 := fy 0
      have yy1 := fy 1
      replace ha := Lib.hid ha
      clear fz fy T T1 n1 c1 c2 c3 c4
      go_wp2_with fail
      go_meet
      exact ⟨rfl, en, ⟨#[]⟩, n, e, z, TT, ha⟩
    · go_wp2_with fail
      refine c3.out _ _ trivial (Lib.hid fun en x e z w1 ha n1 => ?_)
      have T1 := T.out.below n1
      have TT := Lib.hid (T1.txt en x e z)
      obtain ⟨-, -, ⟨m0, m1, m2, m3, m4⟩, m5, m6⟩ := T1.cells
      obtain ⟨-, -, fz, fy⟩ := T1.marks
      have zz2 := fz 2
      have zz3 := fz 3
      have yy0 := fy 0
      have yy1 := fy 1
      replace ha := Lib.hid ha
      clear fz fy T T1 n1 c1 c2 c3 c4
      go_wp2_with fail
      go_meet
      exact ⟨rfl, en, x, 0, e, z, TT, ha⟩
    · go_wp2_with fail
      refine c4.out _ _ trivial (Lib.hid fun en x e z w1 ha n1 => ?_)
      have T1 := T.out.below n1
      have TT := Lib.hid (T1.txt en x e z)
      obtain ⟨-, -, ⟨m0, m1, m2, m3, m4⟩, m5, m6⟩ := T1.cells
      obtain ⟨-, -, fz, fy⟩ := T1.marks
      have zz2 := fz 2
      have zz3 := fz 3
      have yy0 := fy 0
      have yy1 := fy 1
      replace ha := Lib.hid ha
      clear fz fy T T1 n1 c1 c2 c3 c4
      go_wp2_with fail
      go_meet
      exact ⟨rfl, en, x, 0, e, z, TT, ha⟩
  case rest =>
    obtain ⟨rfl, en, x, n, e, z, T4, ha⟩ := hcut
    clear c1 c2 c3 c4 cK hK4' T k0
    have T5 := T4.out
    clear T4
    obtain ⟨⟨m0, m1, m2, m3, m4⟩, ⟨m5, m6⟩, ⟨d0, d1, d2, d3, d4⟩, d5, d6⟩ := T5.cells
    obtain ⟨fx, fw, fz, fy⟩ := T5.marks
    by_cases he : e = 0
    · subst he
      obtain ⟨rfl, ht⟩ := ha.out.2 rfl
      rw [ht] at hR
      clear ha ht
      have fin := Lib.hid hR.out
      clear hR
      obtain ⟨nf, r0, r1, s00, s01, s02, s03, s04, s10, s11⟩ := T5.tkb.told (.int .i64 K) (.int .i64 k) (.int .i64 en) (.string x) (.int .i64 n) (.int .i64 0) (.int .i64 0)
      have rd := Lib.hid T5.r2
      clear T5 fx fw fz fy m0 m1 m2 m3 m4 m5 m6
      replace nf := Lib.hid nf
      replace s00 := Lib.hid s00
      replace s01 := Lib.hid s01
      replace s02 := Lib.hid s02
      replace s03 := Lib.hid s03
      replace s04 := Lib.hid s04
      replace s10 := Lib.hid s10
      replace s11 := Lib.hid s11
      replace r0 := Lib.hid r0
      replace r1 := Lib.hid r1
      go_wp2_with (first | refine wpList_store_rowTo rfl 76 _ _ rfl rfl w.heap.size (#[.int .i64 K, .int .i64 k, .int .i64 en, .string x, .int .i64 n]) rfl rfl 76 _ r0.out (by kernel_rfl) rfl (all_list rfl) ?_ | refine wpList_store_rowTo rfl 35 _ _ rfl rfl (w.heap.size + 1) (#[.int .i64 0, .int .i64 0]) rfl rfl 35 _ r1.out (by kernel_rfl) rfl (all_list rfl) ?_)
      generalize (wc.setRow w.heap.size _).setRow (w.heap.size + 1) _ = Wz at *
      replace s00 := s00.out
      replace s01 := s01.out
      replace s02 := s02.out
      replace s03 := s03.out
      replace s04 := s04.out
      replace s10 := s10.out
      replace s11 := s11.out
      refine bodyPost_ret ?_ rfl (fin.out _ nf.out)
      simp [results, Tryz.results62, go_sem, s00, s01, s02, s03, s04, s10, s11, tkV] <;> rfl
    · have ht := ha.out.1 he
      rw [ht] at hR
      clear ha ht
      have fin := Lib.hid hR.out
      clear hR
      have q1 : (e != 0) = true := by simpa using he
      have zz0 := fx 0
      have zz1 := fx 1
      have zz2 := fx 2
      have zz3 := fx 3
      have zz4 := fx 4
      have yy0 := fw 0
      have yy1 := fw 1
      have ne0 : ¬ w.heap.size + 3 = w.heap.size := by omega
      have ne1 : ¬ w.heap.size + 3 = w.heap.size + 1 := by omega
      have ne2 : ¬ w.heap.size = w.heap.size + 3 := by omega
      have nb := Lib.hid T5.nb
      clear fx fw fz fy he T5
      go_upto_region 12 with fail
      go_region
      all_goals
        go_wp2_with fail
        refine bodyPost_ret ?_ rfl (fin.out _ ?_)
        · simp [results, Tryz.results62, go_sem, m0, m1, m2, m3, m4, m5, m6, tkV, zT] <;> rfl
        · exact (seven nb.out _ _ _ _ _ _ _).drew
end Go.Proofs.YthelhplcijhioaaGreat.Tok

/- The code of layer 13: Scan. -/
set_option maxRecDepth 100000
set_option linter.unusedVariables false
namespace Go.Proofs.YthelhplcijhioaaGreat.Tok
open Go.RowKit Go.Lib Go.Proofs.YthelhplcijhioaaGreat.Utf Go.Proofs.YthelhplcijhioaaGreat.Ran Go.Proofs.YthelhplcijhioaaGreat.Cel Go.Proofs.YthelhplcijhioaaGreat.Esc Go.Proofs.YthelhplcijhioaaGreat.Dig Go.Proofs.YthelhplcijhioaaGreat.Nam Go.Proofs.YthelhplcijhioaaGreat.Pat

/-- Two boxes of a fault: the one that is handed back, and the one of its own. -/
structure Fl2 (w : World) (H : Nat) (e z : Int) (W : World) : Prop where
  nb : Below H w W
  lt : H + 1 < W.heap.size
  r0 : W.heap[H]? = some (.cells #[.int .i64 0, .int .i64 0] 35 (0, 0))
  r1 : W.heap[H + 1]? = some (.cells #[.int .i64 e, .int .i64 z] 35 (0, 0))
theorem Fl2.new (w : World) : Fl2 w w.heap.size 0 0 ((w.alloc (.cells #[.int .i64 0, .int .i64 0] 35)).alloc (.cells #[.int .i64 0, .int .i64 0] 35)) := by
  have b1 := (Below.refl w.heap.size w).alloc (Nat.le_refl _) (.cells #[.int .i64 0, .int .i64 0] 35)
  have b2 := b1.alloc b1.size (.cells #[.int .i64 0, .int .i64 0] 35)
  obtain ⟨q1, q2⟩ := heap_two w (.cells #[.int .i64 0, .int .i64 0] 35) (.cells #[.int .i64 0, .int .i64 0] 35)
  exact ⟨b2, by simp, q1, q2⟩
theorem Fl2.below2 {w W W' : World} {H : Nat} {e z : Int} (h : Fl2 w H e z W) (hb : Below (H + 2) W W') : Fl2 w H e z W' :=
  ⟨h.nb.trans (hb.mono (by omega)), Nat.lt_of_lt_of_le h.lt hb.size, (hb.block H (by omega)).trans h.r0, (hb.block (H + 1) (by omega)).trans h.r1⟩
theorem Fl2.below {w W W' : World} {H : Nat} {e z : Int} (h : Fl2 w H e z W) (hb : Below W.heap.size W W') : Fl2 w H e z W' :=
  h.below2 (hb.mono (by have := h.lt; omega))
theorem Fl2.set0 {w W : World} {H : Nat} {e z : Int} (h : Fl2 w H e z W) (v : Value) (e' z' : Int) (q : (#[.int .i64 e, .int .i64 z] : Array Value).setIfInBounds 0 v = #[.int .i64 e', .int .i64 z']) : Fl2 w H e' z' (W.setCell ⟨H + 1, 0, none⟩ v) :=
  ⟨h.nb.setCell (p := ⟨H + 1, 0, none⟩) (Nat.le_succ H) v, by simpa [World.setCell] using h.lt, heap_setCell_out h.r0 0 v (by omega), (heap_setCell_in h.r1 0 v).trans (by rw [q])⟩
theorem Fl2.set1 {w W : World} {H : Nat} {e z : Int} (h : Fl2 w H e z W) (v : Value) (e' z' : Int) (q : (#[.int .i64 e, .int .i64 z] : Array Value).setIfInBounds 1 v = #[.int .i64 e', .int .i64 z']) : Fl2 w H e' z' (W.setCell ⟨H + 1, 1, none⟩ v) :=
  ⟨h.nb.setCell (p := ⟨H + 1, 1, none⟩) (Nat.le_succ H) v, by simpa [World.setCell] using h.lt, heap_setCell_out h.r0 1 v (by omega), (heap_setCell_in h.r1 1 v).trans (by rw [q])⟩
theorem Fl2.cells {w W : World} {H : Nat} {e z : Int} (h : Fl2 w H e z W) : W.cell? ⟨H, 0, none⟩ = some (.int .i64 0) ∧ W.cell? ⟨H, 1, none⟩ = some (.int .i64 0) ∧ W.cell? ⟨H + 1, 0, none⟩ = some (.int .i64 e) ∧ W.cell? ⟨H + 1, 1, none⟩ = some (.int .i64 z) ∧
    W.frozen? ⟨H, 0, none⟩ = false ∧ W.frozen? ⟨H, 1, none⟩ = false ∧ W.frozen? ⟨H + 1, 0, none⟩ = false ∧ W.frozen? ⟨H + 1, 1, none⟩ = false := by
  refine ⟨?_, ?_, ?_, ?_, Lib.frozen_of_heap h.r0 0, Lib.frozen_of_heap h.r0 1, Lib.frozen_of_heap h.r1 0, Lib.frozen_of_heap h.r1 1⟩
  all_goals first | (rw [Lib.cell_of_heap h.r0]; rfl) | (rw [Lib.cell_of_heap h.r1]; rfl)
theorem Fl2.told {w W : World} {H : Nat} {e z : Int} (h : Fl2 w H e z W) (a b : Value) : Below H w ((W.setCell ⟨H, 0, none⟩ a).setCell ⟨H, 1, none⟩ b) ∧ ((W.setCell ⟨H, 0, none⟩ a).setCell ⟨H, 1, none⟩ b).cell? ⟨H, 0, none⟩ = some a ∧ ((W.setCell ⟨H, 0, none⟩ a).setCell ⟨H, 1, none⟩ b).cell? ⟨H, 1, none⟩ = some b := by
  obtain ⟨c0, c1, -⟩ := h.cells
  exact ⟨(h.nb.setCell (p := ⟨H, 0, none⟩) (Nat.le_refl _) a).setCell (p := ⟨H, 1, none⟩) (Nat.le_refl _) b,
    (World.cell?_setCell_other _ _ _ _ (by simp)).trans (World.cell?_setCell_same _ _ _ c0), World.cell?_setCell_same _ _ _ ((World.cell?_setCell_other _ _ _ _ (by simp)).trans c1)⟩
set_option maxRecDepth 100000 in
set_option maxHeartbeats 8000000 in
theorem scan0_calls (s : ByteArray) (hs0 : s.size ≤ maxLen) (w : World) (R : Ending → World → Prop)
    (hR : Hid (∀ l v' w', scnS s = (some l, 0, 0) → RdK w' v' l → FrV w.heap.size v' → Below w.heap.size w w' → R (.returned (.tuple #[v', .agg #[.int .i64 0, .int .i64 0]])) w'))
    (hR2 : Hid (∀ e z w', scnS s = (none, e, z) → Below w.heap.size w w' → R (.returned (.tuple #[.slice none 0 0, .agg #[.int .i64 e, .int .i64 z]])) w')) : Calls Tryz.prog 27 #[.string s] w R := by
  replace hs0 : s.size ≤ 9223372036854775807 := hs0
  unfold scnS at hR hR2
  by_cases hbig : 65536 < s.size
  · rw [if_pos hbig] at hR2
    have T := Flk.new w
    have fin := Lib.hid fun w' hb => hR2.out 7 65536 w' rfl hb
    clear hR hR2
    go_enter Tryz.func27, Tryz.ntmps27
    go_upto_region 1 with fail
    generalize w.alloc (.cells #[.int .i64 0, .int .i64 0] 35) = W0 at *
    obtain ⟨nf, s0', s1'⟩ := T.told (.int .i64 7) (.int .i64 65536)
    have c0 := T.c0
    have c1 := T.c1
    have f0' := T.f0
    have f1' := T.f1
    replace nf := Lib.hid nf
    replace s0' := Lib.hid s0'
    replace s1' := Lib.hid s1'
    clear T 
    go_step3
    go_wp2_with fail
    replace s0' := s0'.out
    replace s1' := s1'.out
    clear c0 c1 f0' f1'
    generalize (W0.setCell ⟨w.heap.size, 0, none⟩ _).setCell ⟨w.heap.size, 1, none⟩ _ = Wz at *
    refine bodyPost_ret ?_ rfl (fin.out _ nf.out)
    simp [results, Tryz.results27, go_sem, s0', s1']
  rw [if_neg hbig] at hR hR2
  have hs : s.size ≤ 65536 := by omega
  have T := Fl2.new w
  have cB := Lib.hid fun (c : Nat) hc (W : World) R hR => blank_calls c hc W R hR
  have cC := Lib.hid fun (W : World) (k : Nat) hk h59 R hR hR2 => comment_calls s k hk h59 hs W R hR hR2
  have cO := Lib.hid fun (W : World) k hk R hR => toktake_calls s k hk hs W R hR
  obtain ⟨i0, hInf, hz0, hz1, hz2⟩ := info_parts infoTok
  obtain ⟨V, hV⟩ : ∃ V, V = scnI s 0 false := ⟨_, rfl⟩
  rw [← hV] at hR hR2
  have hV0 : Hid (preT [] (scnI s 0 false) = V) := Lib.hid (by rw [pre_nil]; exact hV.symm)
  clear hV hbig
  go_enter Tryz.func27, Tryz.ntmps27
  go_upto_region 1 with fail
  go_step3
  go_upto_region 5 with fail
  generalize (w.alloc (.cells #[.int .i64 0, .int .i64 0] 35)).alloc (.cells #[.int .i64 0, .int .i64 0] 35) = W0 at *
  have T0 := Lib.hid T
  clear T
  go_wp2_with fail
  go_step3
  go_wp2_with fail
  go_outline
  go_loopg [4, 6] s.size (fun g sl at' wr => ∃ (I L : Nat) (vo : Value) (l : List Tk), vo = sl ∧ at' = .int .i64 I ∧ I + g = s.size ∧ I ≤ s.size ∧ L ≤ I ∧ Hid (l.length = L) ∧ Hid (Fl2 w w.heap.size 0 0 wr) ∧ Hid (wr.ownsRow (w.heap.size + 2) 76 5 vo L (flatG encT l)) ∧ Hid (preT l (scnI s I false) = V))
  case atStart => exact ⟨0, 0, _, [], rfl, rfl, by omega, by omega, by omega, Lib.hid rfl, T0, Lib.hid (World.ownsRow_nil _ _ _ _), hV0⟩
  case round =>
    clear T0 hV0
    obtain ⟨I, L, vo, l, rfl, rfl, c1, c2, c3, hL, T, own, hsc⟩ := hrel
    by_cases hI : I < s.size
    · have hg := byN_get s I hI
      have hbl := byN_lt s I
      have hsc2 := hsc.out
      have cB2 := Lib.hid fun W R hR => cB.out (byN s I) hbl W R hR
      have cC2 := Lib.hid fun W h59 R hR hR2 => cC.out W I hI h59 R hR hR2
      have cO2 := Lib.hid fun W R hR => cO.out W I hI R hR
      have ht := tok_bd hI
      clear cB cC cO
      by_cases hbk : blankB (byN s I) = true
      · rw [scn_step false hI, if_pos (by unfold inB; unfold blankB at hbk; simp at hbk ⊢; omega), if_pos hbk] at hsc2
        rw [hbk] at cB2
        replace hsc2 := Lib.hid hsc2
        generalize byN s I = c at *
        clear hbk hsc cC2 cO2 ht
        go_wp2_with fail
        refine cB2.out _ _ (Lib.hid fun w2 n2 => ?_)
        have T3 := Lib.hid (T.out.below n2)
        have own3 := Lib.hid (own_below own.out n2)
        clear n2 T own
        go_wp2_with fail
        go_roundg (gk - 1)
        case measure => omega
        case rel => exact ⟨I + 1, L, vo, l, rfl, by go_num, by omega, by omega, by omega, hL, T3, own3, hsc2⟩
      have hbk' : blankB (byN s I) = false := by simpa using hbk
      rw [hbk'] at cB2
      by_cases h59 : byN s I = 59
      · have q59 : ((byN s I : Int) == 59) = true := by simp [h59]
        have cC3 := Lib.hid fun W R hR hR2 => cC2.out W h59 R hR hR2
        generalize byN s I = c at *
        clear h59 hbk hbk' cC2 cO2 hsc ht
        go_wp2_with fail
        refine cB2.out _ _ (Lib.hid fun w2 n2 => ?_)
        have T3 := Lib.hid (T.out.below n2)
        have own3 := Lib.hid (own_below own.out n2)
        clear n2 T own
        go_wp2_with fail
        refine cC3.out _ _ (Lib.hid fun J w3 hlt hle heq n3 => ?_) (Lib.hid fun e z w3 heq hne n3 => ?_)
        · rw [heq] at hsc2
          replace hsc2 := Lib.hid hsc2
          have bA := (Below.refl w3.heap.size w3).alloc (Nat.le_refl _) (.cells #[.int .i64 0, .int .i64 0] 35)
          have T4 := Lib.hid ((T3.out.below n3).below bA)
          have own4 := Lib.hid (own_below (own_below own3.out n3) bA)
          obtain ⟨k5, k6⟩ := box_f w3 (.int .i64 0) (.int .i64 0) 35
          clear n3 T3 own3 bA heq
          go_wp2_with fail
          go_roundg (gk - (J - I))
          case measure => omega
          case rel => exact ⟨J, L, vo, l, rfl, rfl, by omega, by omega, by omega, hL, T4, own4, hsc2⟩
        · rw [heq, pre_none] at hsc2
          have fin := Lib.hid fun w' hb => hR2.out e z w' hsc2.symm hb
          have q1 : (e != 0) = true := by simpa using hne
          have bA := (Below.refl w3.heap.size w3).alloc (Nat.le_refl _) (.cells #[.int .i64 e, .int .i64 z] 35)
          have T4 := Lib.hid ((T3.out.below n3).below bA)
          obtain ⟨k5, k6⟩ := box_f w3 (.int .i64 e) (.int .i64 z) 35
          clear n3 T3 own3 bA heq hsc2 hne hR hR2
          go_upto_region 17 with fail
          generalize w3.alloc (.cells #[.int .i64 e, .int .i64 z] 35) = W4 at *
          obtain ⟨c0, c1, d0, d1, f0', f1', g0, g1⟩ := T4.out.cells
          have T5 := Lib.hid ((T4.out.set0 (.int .i64 e) e 0 rfl).set1 (.int .i64 z) e z rfl)
          clear T4
          go_wp2_with fail
          clear c0 c1 d0 d1 f0' f1' g0 g1 k5 k6
          generalize (W4.setCell ⟨w.heap.size + 1, 0, none⟩ _).setCell ⟨w.heap.size + 1, 1, none⟩ _ = W5 at *
          obtain ⟨c0, c1, d0, d1, f0', f1', g0, g1⟩ := T5.out.cells
          clear c0 c1 f0' f1' g0 g1
          go_wp2_with fail
          go_still_tail 2, (by kernel_rfl)
          repeat still_step
          change wpList _ _ _ _ _ W5.drew
          have T6 := T5.out.below (Below.refl _ _).drew
          clear T5 d0 d1
          generalize W5.drew = W6 at *
          obtain ⟨c0, c1, -, -, f0', f1', -, -⟩ := T6.cells
          obtain ⟨nf, s0', s1'⟩ := T6.told (.int .i64 e) (.int .i64 z)
          replace nf := Lib.hid nf
          replace s0' := Lib.hid s0'
          replace s1' := Lib.hid s1'
          clear T6
          go_wp2_with fail
          replace s0' := s0'.out
          replace s1' := s1'.out
          clear c0 c1 f0' f1'
          generalize (W6.setCell ⟨w.heap.size, 0, none⟩ _).setCell ⟨w.heap.size, 1, none⟩ _ = Wz at *
          refine bodyPost_ret ?_ rfl (fin.out _ nf.out)
          simp [results, Tryz.results27, go_sem, s0', s1']
      · rw [scn_step false hI, if_pos (by unfold inB; simp [h59]), if_neg hbk] at hsc2
        have q59 : ((byN s I : Int) == 59) = false := by simp; omega
        generalize byN s I = c at *
        clear h59 hbk hbk' cC2 hsc
        generalize tokS s I = U at *
        obtain ⟨⟨t0, t1, t2, t3, t4⟩, e, z⟩ := U
        simp only [tkV] at cO2 hsc2 ht
        by_cases he : e = 0
        · rw [if_neg (by simpa using he)] at hsc2
          obtain ⟨hz, ht1, ht2, ht3, ht4, ht5⟩ := ht.1 he
          subst he hz ht3
          obtain ⟨E, rfl⟩ : ∃ E : Nat, t2 = E := ⟨t2.toNat, by omega⟩
          rw [Int.toNat_natCast, pre_pre] at hsc2
          replace hsc2 := Lib.hid hsc2
          clear ht
          go_wp2_with fail
          refine cB2.out _ _ (Lib.hid fun w1 n1 => ?_)
          have T2 := Lib.hid (T.out.below n1)
          have own2 := Lib.hid (own_below own.out n1)
          clear n1 T own
          go_wp2_with fail
          refine cO2.out _ _ (Lib.hid fun w2 n2 => ?_)
          have T3 := T2.out.below n2
          have own3 := own_below own2.out n2
          have bA := (Below.refl w2.heap.size w2).alloc (Nat.le_refl _) (.cells #[.int .i64 t0, .int .i64 (I : Nat), .int .i64 (E : Nat), .string t3, .int .i64 t4] 76)
          have bB := bA.alloc bA.size (.cells #[.int .i64 0, .int .i64 0] 35)
          have T4 := T3.below bB
          have own4 := own_below own3 bB
          obtain ⟨k0, k1, k2, k3, k4, k5, k6⟩ := boxes_tf w2 t0 (I : Nat) (E : Nat) t3 t4 0 0
          have hB : w2.heap.size < ((w2.alloc (.cells #[.int .i64 t0, .int .i64 (I : Nat), .int .i64 (E : Nat), .string t3, .int .i64 t4] 76)).alloc (.cells #[.int .i64 0, .int .i64 0] 35)).heap.size := by simp; omega
          have hlt4 : w.heap.size + 2 ≤ ((w2.alloc (.cells #[.int .i64 t0, .int .i64 (I : Nat), .int .i64 (E : Nat), .string t3, .int .i64 t4] 76)).alloc (.cells #[.int .i64 0, .int .i64 0] 35)).heap.size := T4.lt
          replace T4 := Lib.hid T4
          have hne := Lib.hid (show vo.ownBlock ≠ some w2.heap.size from fun e => by have := (own3.lt _ e).2; omega)
          replace own4 := Lib.hid own4
          clear n2 T2 own2 T3 own3 bA bB
          go_wp2_with (at_builtin; go_loud (refine appK _ #[.int .i64 t0, .int .i64 (I : Nat), .int .i64 (E : Nat), .string t3, .int .i64 t4] 5 76 rfl _ _ 51 rfl (w.heap.size + 2) i0 (tkV zT) 48 Tryz.underlying51 hInf hz0 hz1 hz2 rfl (by decide) rfl vo L (flatG encT l) rfl own4.out _ rfl (by simp) (by simp [Value.oneCell']) (by unfold maxLen; omega) (by omega) hlt4 ?_); intro v' w3 hown3 hg3 hb3; have k2' := (World.cell?_of_block (a := ⟨w2.heap.size, 2, none⟩) (hg3.block w2.heap.size hB (fun e => hne.out e.symm))).trans k2)
          have T5 := Lib.hid (T4.out.below2 hb3)
          have own5 := Lib.hid (show w3.ownsRow (w.heap.size + 2) 76 5 v' (L + 1) (flatG encT (l ++ [(t0, (I : Int), (E : Int), t3, t4)])) by rw [flatG_snoc]; exact hown3)
          have hL2 := Lib.hid (show (l ++ [(t0, (I : Int), (E : Int), t3, t4)]).length = L + 1 by simp [hL.out])
          clear hown3 hg3 hb3 T4 own4
          go_wp2_with fail
          go_roundg (gk - (E - I))
          case measure => omega
          case rel => exact ⟨E, L + 1, v', _, rfl, rfl, by omega, by omega, by omega, hL2, T5, own5, hsc2⟩
        · rw [if_pos (by simpa using he), pre_none] at hsc2
          have fin := Lib.hid fun w' hb => hR2.out e z w' hsc2.symm hb
          have q1 : (e != 0) = true := by simpa using he
          clear hsc2 ht own he hR hR2
          go_wp2_with fail
          refine cB2.out _ _ (Lib.hid fun w1 n1 => ?_)
          have T2 := Lib.hid (T.out.below n1)
          clear n1 T
          go_wp2_with fail
          refine cO2.out _ _ (Lib.hid fun w2 n2 => ?_)
          have T3 := T2.out.below n2
          have bA := (Below.refl w2.heap.size w2).alloc (Nat.le_refl _) (.cells #[.int .i64 t0, .int .i64 t1, .int .i64 t2, .string t3, .int .i64 t4] 76)
          have bB := bA.alloc bA.size (.cells #[.int .i64 e, .int .i64 z] 35)
          have T4 := Lib.hid (T3.below bB)
          obtain ⟨k0, k1, k2, k3, k4, k5, k6⟩ := boxes_tf w2 t0 t1 t2 t3 t4 e z
          clear n2 T2 T3 bA bB k0 k1 k2 k3 k4
          go_upto_region 9 with fail
          generalize (w2.alloc (.cells #[.int .i64 t0, .int .i64 t1, .int .i64 t2, .string t3, .int .i64 t4] 76)).alloc (.cells #[.int .i64 e, .int .i64 z] 35) = W4 at *
          obtain ⟨c0, c1, d0, d1, f0', f1', g0, g1⟩ := T4.out.cells
          have T5 := Lib.hid ((T4.out.set0 (.int .i64 e) e 0 rfl).set1 (.int .i64 z) e z rfl)
          clear T4
          go_wp2_with fail
          clear c0 c1 d0 d1 f0' f1' g0 g1 k5 k6
          generalize (W4.setCell ⟨w.heap.size + 1, 0, none⟩ _).setCell ⟨w.heap.size + 1, 1, none⟩ _ = W5 at *
          obtain ⟨c0, c1, d0, d1, f0', f1', g0, g1⟩ := T5.out.cells
          clear c0 c1 f0' f1' g0 g1
          go_wp2_with fail
          go_still_tail 2, (by kernel_rfl)
          repeat still_step
          change wpList _ _ _ _ _ W5.drew
          have T6 := T5.out.below (Below.refl _ _).drew
          clear T5 d0 d1
          generalize W5.drew = W6 at *
          obtain ⟨c0, c1, -, -, f0', f1', -, -⟩ := T6.cells
          obtain ⟨nf, s0', s1'⟩ := T6.told (.int .i64 e) (.int .i64 z)
          replace nf := Lib.hid nf
          replace s0' := Lib.hid s0'
          replace s1' := Lib.hid s1'
          clear T6
          go_wp2_with fail
          replace s0' := s0'.out
          replace s1' := s1'.out
          clear c0 c1 f0' f1'
          generalize (W6.setCell ⟨w.heap.size, 0, none⟩ _).setCell ⟨w.heap.size, 1, none⟩ _ = Wz at *
          refine bodyPost_ret ?_ rfl (fin.out _ nf.out)
          simp [results, Tryz.results27, go_sem, s0', s1']
    · obtain rfl : I = s.size := by omega
      have hs2 := hsc.out
      rw [scn_end false rfl] at hs2
      have hv : V = (some (l ++ [endT s]), 0, 0) := hs2.symm
      have fin := Lib.hid fun v' w' rd fr hb => hR.out (l ++ [endT s]) v' w' hv rd fr hb
      have hlt : w.heap.size + 2 ≤ wr.heap.size := T.out.lt
      have ow := own.out
      obtain ⟨c0, c1, d0, d1, f0', f1', g0, g1⟩ := T.out.cells
      clear hsc hs2 hv own hR hR2 c0 c1 f0' f1' g0 g1
      go_wp2_with (at_builtin; go_loud (refine appK wr #[.int .i64 0, .int .i64 (s.size : Nat), .int .i64 (s.size : Nat), .string ⟨#[]⟩, .int .i64 0] 5 76 rfl _ _ 51 rfl (w.heap.size + 2) i0 (tkV zT) 48 Tryz.underlying51 hInf hz0 hz1 hz2 rfl (by decide) rfl vo L (flatG encT l) rfl ow _ rfl rfl (by simp [Value.oneCell']) (by unfold maxLen; omega) (by omega) hlt ?_); intro v' w3 hown3 hg3 hb3; have T3 := T.out.below2 hb3; obtain ⟨c0, c1, -, -, f0', f1', -, -⟩ := T3.cells)
      obtain ⟨nf, s0', s1'⟩ := T3.told (.int .i64 0) (.int .i64 0)
      have rd := RdG.of_own (l := l ++ [endT s]) (enc := encT) (k := 5) (by
        have := ownsRow_setCell_below (ownsRow_setCell_below hown3 (a := ⟨w.heap.size, 0, none⟩) (Nat.lt_succ_of_lt (Nat.lt_succ_self _)) (.int .i64 0)) (a := ⟨w.heap.size, 1, none⟩) (Nat.lt_succ_of_lt (Nat.lt_succ_self _)) (.int .i64 0)
        rw [flatG_snoc]
        exact this)
      have fr : FrV w.heap.size v' := fun g o n c h => by have := FrV.of_own hown3 g o n c h; omega
      clear hown3 hg3 hb3 T3 c0 c1 f0' f1' d0 d1
      generalize (w3.setCell ⟨w.heap.size, 0, none⟩ _).setCell ⟨w.heap.size, 1, none⟩ _ = Wz at *
      refine bodyPost_ret ?_ rfl (fin.out _ _ rd fr nf)
      simp [results, Tryz.results27, go_sem, s0', s1']
theorem scan_calls (s : ByteArray) (hs : s.size ≤ maxLen) (w : World) (R : Ending → World → Prop)
    (hR : Hid (∀ l v' w', scnS s = (some l, 0, 0) → RdK w' v' l → Below w.heap.size w w' → R (.returned (.tuple #[v', .agg #[.int .i64 0, .int .i64 0]])) w'))
    (hR2 : Hid (∀ e z A c w', scnS s = (none, e, z) → Below w.heap.size w w' → R (.returned (.tuple #[.slice A 0 c, .agg #[.int .i64 e, .int .i64 z]])) w')) : Calls Tryz.prog 27 #[.string s] w R :=
  scan0_calls s hs w R (Lib.hid fun l v' w' h rd _ hb => hR.out l v' w' h rd hb) (Lib.hid fun e z w' h hb => hR2.out e z none 0 w' h hb)
end Go.Proofs.YthelhplcijhioaaGreat.Tok

/- Layer 13: the code's contracts, all together. -/
set_option maxRecDepth 100000
namespace Go.Proofs.YthelhplcijhioaaGreat.Tok
end Go.Proofs.YthelhplcijhioaaGreat.Tok
