/- The walks of SafeTells, SafeScrubs, SafeBack. -/
import Derived.Test.YtikcblnemdbjnaaSafR
set_option linter.unusedVariables false
namespace Go.Proofs.Ytikcblnemdbjnaa.Saf
open Go.RowKit Go.Lib Go.Proofs.Ytikcblnemdbjnaa.Utf Go.Proofs.Ytikcblnemdbjnaa.Ran Go.Proofs.Ytikcblnemdbjnaa.Cel Go.Proofs.Ytikcblnemdbjnaa.Esc Go.Proofs.Ytikcblnemdbjnaa.Bld

set_option maxRecDepth 100000 in
set_option maxHeartbeats 1000000 in
theorem tells_walk6 (s : ByteArray) (w : World) (R : Ending → World → Prop) (hs : s.size ≤ maxLen)
    (hR : Hid (∀ w', Below w.heap.size w w' → R (.returned (.bool true)) w')) : Calls Try.prog 3 #[.string s] w R := by
  unfold maxLen at hs
  have cL := fun (W : World) R hR => lives6_calls W R hR
  replace cL := Lib.hid cL
  by_cases h1 : 3000 < s.size
  · have h1' : (3000 : Int) < s.size := by omega
    go_enter Try.func3, Try.ntmps3
    go_wp2_with fail
    refine cL.out _ _ (Lib.hid fun w1 n1 => ?_)
    go_wp2_with fail
    exact hR.out _ n1
  have h1' : ¬ (3000 : Int) < s.size := by omega
  have cF := fun (W : World) R hR => sfirst_calls s W (by omega) R hR
  have cG := fun (W : World) R hR => reffirst_calls s W (by omega) R hR
  have cI := fun (W : World) R hR => sis_calls s W (by omega) R hR
  generalize firS s = n at *
  by_cases h : n = s.size
  · subst h
    rw [decide_eq_true rfl] at cI
    replace cF := Lib.hid cF
    replace cG := Lib.hid cG
    replace cI := Lib.hid cI
    go_enter Try.func3, Try.ntmps3
    go_wp2_with fail
    refine cG.out _ _ (Lib.hid fun w1 n1 => ?_)
    go_wp2_with fail
    refine cF.out _ _ (Lib.hid fun w2 n2 => ?_)
    replace n2 := n1.trans (n2.mono n1.size)
    go_wp2_with fail
    refine cI.out _ _ (Lib.hid fun w3 n3 => ?_)
    replace n3 := n2.trans (n3.mono n2.size)
    go_wp2_with fail
    refine cL.out _ _ (Lib.hid fun w4 n4 => ?_)
    replace n4 := n3.trans (n4.mono n3.size)
    go_wp2_with fail
    exact hR.out _ n4
  · rw [decide_eq_false h] at cI
    have b1 : ((n : Int) == (s.size : Int)) = false := by simp; omega
    have b2 : ¬ (n : Int) = (s.size : Int) := by omega
    replace cF := Lib.hid cF
    replace cG := Lib.hid cG
    replace cI := Lib.hid cI
    go_enter Try.func3, Try.ntmps3
    go_wp2_with fail
    refine cG.out _ _ (Lib.hid fun w1 n1 => ?_)
    go_wp2_with fail
    refine cF.out _ _ (Lib.hid fun w2 n2 => ?_)
    replace n2 := n1.trans (n2.mono n1.size)
    go_wp2_with fail
    refine cI.out _ _ (Lib.hid fun w3 n3 => ?_)
    replace n3 := n2.trans (n3.mono n2.size)
    go_wp2_with fail
    refine cL.out _ _ (Lib.hid fun w4 n4 => ?_)
    replace n4 := n3.trans (n4.mono n3.size)
    go_wp2_with fail
    exact hR.out _ n4

set_option maxRecDepth 100000 in
set_option maxHeartbeats 1000000 in
theorem scrubs_walk6 (s : ByteArray) (w : World) (R : Ending → World → Prop) (hs : s.size ≤ maxLen)
    (hR : Hid (∀ w', Below w.heap.size w w' → R (.returned (.bool true)) w')) : Calls Try.prog 4 #[.string s] w R := by
  unfold maxLen at hs
  have cL := fun (W : World) R hR => lives6_calls W R hR
  replace cL := Lib.hid cL
  by_cases h1 : 1000 < s.size
  · have h1' : (1000 : Int) < s.size := by omega
    go_enter Try.func4, Try.ntmps4
    go_wp2_with fail
    refine cL.out _ _ (Lib.hid fun w1 n1 => ?_)
    go_wp2_with fail
    exact hR.out _ n1
  have h1' : ¬ (1000 : Int) < s.size := by omega
  have cU := fun (W : World) R hR => unscrub_calls s W (by omega) R hR
  have cV := fun (W : World) R hR => refuns_calls s W (by omega) R hR
  have cS := fun (W : World) R hR => scrub_calls s W (by omega) R hR
  have cT := fun (W : World) R hR => refscrub_calls s W (by omega) R hR
  generalize unscrubS s = U at *
  generalize scrubS s = q at *
  obtain ⟨u, E, A⟩ := U
  simp only [unsT] at cU cV
  replace cU := Lib.hid cU
  replace cV := Lib.hid cV
  replace cS := Lib.hid cS
  replace cT := Lib.hid cT
  have hi0 : ∀ (W : World) (a b : Int), (W.alloc (.cells #[.int .i64 a, .int .i64 b] 27)).cell? ⟨W.heap.size, 0, none⟩ = some (.int .i64 a) ∧ (W.alloc (.cells #[.int .i64 a, .int .i64 b] 27)).cell? ⟨W.heap.size, 1, none⟩ = some (.int .i64 b) := fun W a b => by
    constructor <;> simp
  have hop : ∀ (W : World) (o : Obj) (a : Addr), a.block < W.heap.size → (W.alloc o).cell? a = W.cell? a := fun W o a h => ((Below.refl W.heap.size W).alloc (Nat.le_refl _) o).cell h
  replace hi0 := Lib.hid hi0
  replace hop := Lib.hid hop
  clear h1
  go_enter Try.func4, Try.ntmps4
  go_wp2_with fail
  refine cU.out _ _ (Lib.hid fun w1 n1 => ?_)
  go_wp2_with fail
  have n1' := n1.alloc n1.size (.cells #[.int .i64 E, .int .i64 A] 27)
  have s1 : (w1.alloc (.cells #[.int .i64 E, .int .i64 A] 27)).heap.size = w1.heap.size + 1 := by simp
  have k1 := hi0.out w1 E A
  refine cV.out _ _ (Lib.hid fun w2 n2 => ?_)
  go_wp2_with fail
  have k10 : w2.cell? ⟨w1.heap.size, 0, none⟩ = some (.int .i64 E) := by rw [n2.cell (by simp), k1.1]
  have k11 : w2.cell? ⟨w1.heap.size, 1, none⟩ = some (.int .i64 A) := by rw [n2.cell (by simp), k1.2]
  have z1 : w1.heap.size < w2.heap.size := by have := n2.size; omega
  replace n2 := n1'.trans (n2.mono n1'.size)
  have k2 := hi0.out w2 E A
  have p10 := (hop.out w2 (.cells #[.int .i64 E, .int .i64 A] 27) ⟨w1.heap.size, 0, none⟩ z1).trans k10
  have p11 := (hop.out w2 (.cells #[.int .i64 E, .int .i64 A] 27) ⟨w1.heap.size, 1, none⟩ z1).trans k11
  have s2 : (w2.alloc (.cells #[.int .i64 E, .int .i64 A] 27)).heap.size = w2.heap.size + 1 := by simp
  replace n2 := n2.alloc n2.size (.cells #[.int .i64 E, .int .i64 A] 27)
  generalize w2.alloc (.cells #[.int .i64 E, .int .i64 A] 27) = X2 at *
  clear k10 k11 k1 n1' n1 s1
  refine cS.out _ _ (Lib.hid fun w3 n3 => ?_)
  go_wp2_with fail
  refine cT.out _ _ (Lib.hid fun w4 n4 => ?_)
  replace n4 := n3.trans (n4.mono n3.size)
  have m10 := (n4.cell (p := ⟨w1.heap.size, 0, none⟩) (by simp only; omega)).trans p10
  have m11 := (n4.cell (p := ⟨w1.heap.size, 1, none⟩) (by simp only; omega)).trans p11
  have m20 := (n4.cell (p := ⟨w2.heap.size, 0, none⟩) (by simp only; omega)).trans k2.1
  have m21 := (n4.cell (p := ⟨w2.heap.size, 1, none⟩) (by simp only; omega)).trans k2.2
  have nn := n2.trans (n4.mono n2.size)
  go_wp2_with fail
  refine cL.out _ _ (Lib.hid fun w7 n7 => ?_)
  replace n7 := nn.trans (n7.mono nn.size)
  go_wp2_with fail
  exact hR.out _ n7

/-- How many of the first j bytes are c. -/
def cT (s : ByteArray) (c : Int) (j : Nat) : Nat := ((bl s).take j).count c
theorem cT_step {s : ByteArray} (c : Int) {j : Nat} (hj : j < s.size) : cT s c (j + 1) = cT s c j + if (byN s j : Int) = c then 1 else 0 := by
  unfold cT
  have e : (bl s).take (j + 1) = (bl s).take j ++ [(byN s j : Int)] := by rw [List.take_add_one, bl_get s j hj]; rfl
  rw [e, List.count_append]
  congr 1
  split
  · next h => rw [h]; simp
  · next h => simp [h]
theorem cT_end (s : ByteArray) (c : Int) : cT s c s.size = (bl s).count c := by
  unfold cT
  rw [List.take_of_length_le (by rw [bl_length]; exact Nat.le_refl _)]

set_option maxRecDepth 100000 in
set_option maxHeartbeats 2000000 in
theorem back_walk6 (s : ByteArray) (w : World) (R : Ending → World → Prop) (hs : s.size ≤ maxLen)
    (hR : Hid (∀ w', Below w.heap.size w w' → R (.returned (.bool true)) w')) : Calls Try.prog 5 #[.string s] w R := by
  unfold maxLen at hs
  have cL := fun (W : World) R hR => lives6_calls W R hR
  replace cL := Lib.hid cL
  by_cases h1 : 2000 < s.size
  · have h1' : (2000 : Int) < s.size := by omega
    go_enter Try.func5, Try.ntmps5
    go_wp2_with fail
    refine cL.out _ _ (Lib.hid fun w1 n1 => ?_)
    go_wp2_with fail
    exact hR.out _ n1
  have h1' : ¬ (2000 : Int) < s.size := by omega
  have hqz := scF_size0 s
  have cS := fun (W : World) R hR => scrub_calls s W (by omega) R hR
  have cU := fun (W : World) R hR => unscrub_calls (scrubS s) W (by omega) R hR
  rw [unscrub_scrub] at cU
  have cI := fun (W : World) R hR => sis_calls (scrubS s) W (by omega) R hR
  rw [decide_eq_true (scrub_safe s)] at cI
  have cJ := fun (W : World) R hR => sis_calls s W (by omega) R hR
  have hcnt := scrub_count s
  have key : firS s ≠ s.size ∨ (firS s = s.size ∧ 0 < (bl s).count 92) ∨ (firS s = s.size ∧ (bl s).count 92 = 0 ∧ scrubS s = s) := by
    by_cases a : firS s = s.size
    · by_cases b : (bl s).count 92 = 0
      · exact .inr (.inr ⟨a, b, scrub_same a b⟩)
      · exact .inr (.inl ⟨a, by omega⟩)
    · exact .inl a
  generalize firS s = F at *
  generalize scrubS s = q at *
  simp only [unsT] at cU
  replace cS := Lib.hid cS
  replace cU := Lib.hid cU
  replace cI := Lib.hid cI
  replace cJ := Lib.hid cJ
  replace key := Lib.hid key
  replace hcnt := Lib.hid hcnt
  have hs2 : s.size ≤ 2000 := by omega
  have hq2 : q.size ≤ 20000 := by omega
  clear h1 hqz
  have hi0 : ∀ (W : World) (a b : Int), (W.alloc (.cells #[.int .i64 a, .int .i64 b] 27)).cell? ⟨W.heap.size, 0, none⟩ = some (.int .i64 a) ∧ (W.alloc (.cells #[.int .i64 a, .int .i64 b] 27)).cell? ⟨W.heap.size, 1, none⟩ = some (.int .i64 b) := fun W a b => by
    constructor <;> simp
  replace hi0 := Lib.hid hi0
  go_enter Try.func5, Try.ntmps5
  go_wp2_with fail
  refine cS.out _ _ (Lib.hid fun w1 n1 => ?_)
  go_wp2_with fail
  refine cU.out _ _ (Lib.hid fun w2 n2 => ?_)
  replace n2 := n1.trans (n2.mono n1.size)
  replace n2 := n2.alloc n2.size (.cells #[.int .i64 0, .int .i64 0] 27)
  have k2 := hi0.out w2 0 0
  have s2 : (w2.alloc (.cells #[.int .i64 0, .int .i64 0] 27)).heap.size = w2.heap.size + 1 := by simp
  go_wp2_with fail
  generalize w2.alloc (.cells #[.int .i64 0, .int .i64 0] 27) = X at *
  go_loopg [6, 7, 8] s.size (fun k a b i wr => ∃ (j L M : Nat), wr = X ∧ a = .int .i64 L ∧ b = .int .i64 M ∧ i = .int .i64 j ∧ j + k = s.size ∧ L ≤ j ∧ M ≤ j ∧ Hid (L = cT s 10 j ∧ M = cT s 92 j))
  case atStart => exact ⟨0, 0, 0, rfl, rfl, rfl, rfl, by omega, by omega, by omega, Lib.hid ⟨rfl, rfl⟩⟩
  case round =>
    obtain ⟨j, L, M, rfl, rfl, rfl, rfl, c1, c2, c3, c4⟩ := hrel
    by_cases hj : j < s.size
    · obtain ⟨e1, e2⟩ := c4.out
      have t1 := cT_step 10 hj
      have t2 := cT_step 92 hj
      have hg := byN_get s j hj
      clear c4
      by_cases h10 : byN s j = 10
      · rw [h10] at hg t1 t2
        rw [if_pos (by decide)] at t1
        rw [if_neg (by decide)] at t2
        have e := Lib.hid (show L + 1 = cT s 10 (j + 1) ∧ M = cT s 92 (j + 1) by omega)
        clear e1 e2 t1 t2
        go_wp2_with fail
        go_roundg (gk - 1)
        case measure => omega
        case rel => exact ⟨j + 1, L + 1, M, rfl, by go_num, rfl, by go_num, by omega, by omega, by omega, e⟩
      by_cases h92 : byN s j = 92
      · rw [h92] at hg t1 t2
        rw [if_neg (by decide)] at t1
        rw [if_pos (by decide)] at t2
        have e := Lib.hid (show L = cT s 10 (j + 1) ∧ M + 1 = cT s 92 (j + 1) by omega)
        clear e1 e2 t1 t2
        go_wp2_with fail
        go_roundg (gk - 1)
        case measure => omega
        case rel => exact ⟨j + 1, L, M + 1, rfl, rfl, by go_num, by go_num, by omega, by omega, by omega, e⟩
      rw [if_neg (by omega)] at t1 t2
      have e := Lib.hid (show L = cT s 10 (j + 1) ∧ M = cT s 92 (j + 1) by omega)
      have b1 : ((byN s j : Int) == 10) = false := by simp; omega
      have b2 : ((byN s j : Int) == 92) = false := by simp; omega
      have b3 : ¬ (byN s j : Int) = 10 := by omega
      have b4 : ¬ (byN s j : Int) = 92 := by omega
      have hbl := byN_lt s j
      generalize byN s j = c at *
      clear e1 e2 t1 t2 h10 h92
      go_wp2_with fail
      go_roundg (gk - 1)
      case measure => omega
      case rel => exact ⟨j + 1, L, M, rfl, rfl, rfl, by go_num, by omega, by omega, by omega, e⟩
    · have hjs : j = s.size := by omega
      obtain ⟨e1, e2⟩ := c4.out
      rw [hjs, cT_end] at e1 e2
      clear c4
      replace e1 := Lib.hid e1
      replace e2 := Lib.hid e2
      go_wp2_with fail
      go_loopg [6, 9] q.size (fun k a i wy => ∃ (j2 : Nat) (D : Int), wy = wr ∧ a = .int .i64 D ∧ i = .int .i64 j2 ∧ j2 + k = q.size ∧ D ≤ 2000 ∧ 0 ≤ D + j2 ∧ Hid (D = L - (cT q 10 j2 : Nat)))
      case atStart => exact ⟨0, L, rfl, rfl, rfl, by omega, by omega, by omega, Lib.hid (by show (L : Int) = L - (0 : Nat); omega)⟩
      case round =>
        obtain ⟨j2, D, rfl, rfl, rfl, d1, d2, d3, d4⟩ := hrel
        by_cases hj2 : j2 < q.size
        · have e3 := d4.out
          have t1 := cT_step 10 hj2
          have hg := byN_get q j2 hj2
          clear d4
          by_cases h10 : byN q j2 = 10
          · rw [h10] at hg t1
            rw [if_pos (by decide)] at t1
            have e := Lib.hid (show D - 1 = L - (cT q 10 (j2 + 1) : Nat) by omega)
            clear e3 t1
            go_wp2_with fail
            go_roundg (gk - 1)
            case measure => omega
            case rel => exact ⟨j2 + 1, D - 1, rfl, by go_num, by go_num, by omega, by omega, by omega, e⟩
          rw [if_neg (by omega)] at t1
          have e := Lib.hid (show D = L - (cT q 10 (j2 + 1) : Nat) by omega)
          have b1 : ((byN q j2 : Int) == 10) = false := by simp; omega
          have b3 : ¬ (byN q j2 : Int) = 10 := by omega
          have hbl := byN_lt q j2
          generalize byN q j2 = c at *
          clear e3 t1 h10
          go_wp2_with fail
          go_roundg (gk - 1)
          case measure => omega
          case rel => exact ⟨j2 + 1, D, rfl, rfl, by go_num, by omega, by omega, by omega, e⟩
        · have hjq : j2 = q.size := by omega
          have e3 := d4.out
          rw [hjq, cT_end, hcnt.out, ← e1.out] at e3
          have hD : D = 0 := by omega
          subst hD
          clear d4 e3 hcnt
          go_wp2_with fail
          refine cI.out _ _ (Lib.hid fun w3 n3 => ?_)
          have m0 := (n3.cell (p := ⟨w2.heap.size, 0, none⟩) (by simp only; omega)).trans k2.1
          have m1 := (n3.cell (p := ⟨w2.heap.size, 1, none⟩) (by simp only; omega)).trans k2.2
          have n4 := n2.trans (n3.mono n2.size)
          rcases key.out with a | ⟨a, b⟩ | ⟨a, b, hq⟩
          · replace cJ := cJ.out
            rw [decide_eq_false a] at cJ
            replace cJ := Lib.hid cJ
            clear key a
            go_wp2_with fail
            refine cJ.out _ _ (Lib.hid fun w5 n5 => ?_)
            replace n5 := n4.trans (n5.mono n4.size)
            go_wp2_with fail
            refine cL.out _ _ (Lib.hid fun w6 n6 => ?_)
            replace n6 := n5.trans (n6.mono n5.size)
            go_wp2_with fail
            exact hR.out _ n6
          · replace cJ := cJ.out
            rw [decide_eq_true a] at cJ
            replace cJ := Lib.hid cJ
            rw [← e2.out] at b
            have b5 : (0 : Int) < M := by omega
            clear key a
            go_wp2_with fail
            refine cJ.out _ _ (Lib.hid fun w5 n5 => ?_)
            replace n5 := n4.trans (n5.mono n4.size)
            go_wp2_with fail
            refine cL.out _ _ (Lib.hid fun w6 n6 => ?_)
            replace n6 := n5.trans (n6.mono n5.size)
            go_wp2_with fail
            exact hR.out _ n6
          · replace cJ := cJ.out
            rw [decide_eq_true a] at cJ
            replace cJ := Lib.hid cJ
            rw [← e2.out] at b
            subst b hq
            clear key a
            go_wp2_with fail
            refine cJ.out _ _ (Lib.hid fun w5 n5 => ?_)
            replace n5 := n4.trans (n5.mono n4.size)
            go_wp2_with fail
            refine cL.out _ _ (Lib.hid fun w6 n6 => ?_)
            replace n6 := n5.trans (n6.mono n5.size)
            go_wp2_with fail
            exact hR.out _ n6
end Go.Proofs.Ytikcblnemdbjnaa.Saf
