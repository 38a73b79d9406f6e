import Derived.Test.YthelhplcijhioaaGreatG2
/- Contracts of the reference's reckoned and begins. -/
set_option maxRecDepth 100000
set_option linter.unusedVariables false
namespace Go.Proofs.YthelhplcijhioaaGreat.Utf
open Go.RowKit Go.Lib

def reckS (s : ByteArray) : Int :=
  let x (i : Nat) : Int := (byN s i : Int) - 128
  if s.size = 1 then x 0 + 128
  else if s.size = 2 then (x 0 - 64) * 64 + x 1
  else if s.size = 3 then (x 0 - 96) * 4096 + x 1 * 64 + x 2
  else (x 0 - 112) * 262144 + x 1 * 4096 + x 2 * 64 + x 3

set_option maxRecDepth 100000 in
theorem reck_1 (s : ByteArray) (w : World) (hs : s.size = 1) (R : Ending → World → Prop)
    (hR : Hid (∀ w', Below w.heap.size w w' → R (.returned (.int .i64 (reckS s))) w')) : Calls Tryz.prog 71 #[.string s] w R := by
  have hE : reckS s = (byN s 0 : Int) := by unfold reckS; rw [if_pos hs]; simp only []; omega
  replace hE := Lib.hid hE
  have hb := byN_get s
  have h0 := byN_lt s 0
  go_enter Tryz.func71, Tryz.ntmps71
  go_wp2_with fail
  refine wp_loop_rounds 2 ?_
  rw [rounds_succ]
  go_wp2_with fail
  rw [rounds_succ]
  go_wp2_with fail
  exact retI (hR.out _ ((Below.refl _ _).alloc (Nat.le_refl _) _)) (by rw [hE.out]; try omega)
set_option maxRecDepth 100000 in
theorem reck_2 (s : ByteArray) (w : World) (hs : s.size = 2) (R : Ending → World → Prop)
    (hR : Hid (∀ w', Below w.heap.size w w' → R (.returned (.int .i64 (reckS s))) w')) : Calls Tryz.prog 71 #[.string s] w R := by
  have hE : reckS s = ((byN s 0 : Int) - 128 - 64) * 64 + ((byN s 1 : Int) - 128) := by unfold reckS; rw [if_neg (by omega), if_pos hs]
  replace hE := Lib.hid hE
  have hb := byN_get s
  have h0 := byN_lt s 0
  have h1 := byN_lt s 1
  go_enter Tryz.func71, Tryz.ntmps71
  go_wp2_with fail
  refine wp_loop_rounds 3 ?_
  rw [rounds_succ]
  go_wp2_with fail
  rw [rounds_succ]
  go_wp2_with fail
  rw [rounds_succ]
  go_wp2_with fail
  exact retI (hR.out _ ((Below.refl _ _).alloc (Nat.le_refl _) _)) (by rw [hE.out]; try omega)
set_option maxRecDepth 100000 in
theorem reck_3 (s : ByteArray) (w : World) (hs : s.size = 3) (R : Ending → World → Prop)
    (hR : Hid (∀ w', Below w.heap.size w w' → R (.returned (.int .i64 (reckS s))) w')) : Calls Tryz.prog 71 #[.string s] w R := by
  have hE : reckS s = ((byN s 0 : Int) - 128 - 96) * 4096 + ((byN s 1 : Int) - 128) * 64 + ((byN s 2 : Int) - 128) := by unfold reckS; rw [if_neg (by omega), if_neg (by omega), if_pos hs]
  replace hE := Lib.hid hE
  have hb := byN_get s
  have h0 := byN_lt s 0
  have h1 := byN_lt s 1
  have h2 := byN_lt s 2
  go_enter Tryz.func71, Tryz.ntmps71
  go_wp2_with fail
  refine wp_loop_rounds 4 ?_
  rw [rounds_succ]
  go_wp2_with fail
  rw [rounds_succ]
  go_wp2_with fail
  rw [rounds_succ]
  go_wp2_with fail
  rw [rounds_succ]
  go_wp2_with fail
  exact retI (hR.out _ ((Below.refl _ _).alloc (Nat.le_refl _) _)) (by rw [hE.out]; try omega)
set_option maxRecDepth 100000 in
theorem reck_4 (s : ByteArray) (w : World) (hs : s.size = 4) (R : Ending → World → Prop)
    (hR : Hid (∀ w', Below w.heap.size w w' → R (.returned (.int .i64 (reckS s))) w')) : Calls Tryz.prog 71 #[.string s] w R := by
  have hE : reckS s = ((byN s 0 : Int) - 128 - 112) * 262144 + ((byN s 1 : Int) - 128) * 4096 + ((byN s 2 : Int) - 128) * 64 + ((byN s 3 : Int) - 128) := by unfold reckS; rw [if_neg (by omega), if_neg (by omega), if_neg (by omega)]
  replace hE := Lib.hid hE
  have hb := byN_get s
  have h0 := byN_lt s 0
  have h1 := byN_lt s 1
  have h2 := byN_lt s 2
  have h3 := byN_lt s 3
  go_enter Tryz.func71, Tryz.ntmps71
  go_wp2_with fail
  refine wp_loop_rounds 5 ?_
  rw [rounds_succ]
  go_wp2_with fail
  rw [rounds_succ]
  go_wp2_with fail
  rw [rounds_succ]
  go_wp2_with fail
  rw [rounds_succ]
  go_wp2_with fail
  rw [rounds_succ]
  go_wp2_with fail
  exact retI (hR.out _ ((Below.refl _ _).alloc (Nat.le_refl _) _)) (by rw [hE.out]; try omega)
theorem reck_calls (s : ByteArray) (w : World) (h1 : 1 ≤ s.size) (h4 : s.size ≤ 4) (R : Ending → World → Prop)
    (hR : Hid (∀ w', Below w.heap.size w w' → R (.returned (.int .i64 (reckS s))) w')) : Calls Tryz.prog 71 #[.string s] w R := by
  rcases (by omega : s.size = 1 ∨ s.size = 2 ∨ s.size = 3 ∨ s.size = 4) with h | h | h | h
  · exact reck_1 s w h R hR
  · exact reck_2 s w h R hR
  · exact reck_3 s w h R hR
  · exact reck_4 s w h R hR
theorem reckS_bd (s : ByteArray) : -67108864 ≤ reckS s ∧ reckS s ≤ 67108864 := by
  have h0 := byN_lt s 0
  have h1 := byN_lt s 1
  have h2 := byN_lt s 2
  have h3 := byN_lt s 3
  unfold reckS
  simp only []
  repeat' split
  all_goals omega

def beginsB (n : Int) (p : ByteArray) : Bool := decide (p.size < (encS n).size) && (((encS n).extract 0 p.size).toList == p.toList)

theorem begins_calls (n : Int) (p : ByteArray) (w : World) (h1 : -67108864 ≤ n) (h2 : n ≤ 67108864) (hp : p.size ≤ maxLen) (R : Ending → World → Prop)
    (hR : Hid (∀ w', Below w.heap.size w w' → R (.returned (.bool (beginsB n p))) w')) : Calls Tryz.prog 113 #[.int .i64 n, .string p] w R := by
  unfold maxLen at hp
  have hE : beginsB n p = (decide (p.size < (encS n).size) && (((encS n).extract 0 p.size).toList == p.toList)) := rfl
  replace hE := Lib.hid hE
  have hz : (encS n).size ≤ 4 := by
    unfold encS; rw [strOfNums_size]; unfold encL; repeat' split
    all_goals simp
  generalize he : encS n = e at *
  replace he := Lib.hid he
  by_cases hlt : p.size < e.size
  · go_enter Tryz.func113, Tryz.ntmps113
    go_wp2_with fail
    refine ref_calls _ _ _ (fun w1 hb1 => ?_)
    rw [he.out]
    go_wp2_with fail
    exact retB (hR.out _ hb1) (by rw [hE.out]; simp [hlt])
  · go_enter Tryz.func113, Tryz.ntmps113
    go_wp2_with fail
    refine ref_calls _ _ _ (fun w1 hb1 => ?_)
    rw [he.out]
    go_wp2_with fail
    exact retB (hR.out _ hb1) (by rw [hE.out]; simp [hlt])

/-- p, followed by j bytes c. -/
def extB (p : ByteArray) (c : Int) : Nat → ByteArray
  | 0 => p
  | j + 1 => extB p c j ++ strOfNums [c]
theorem extB_size (p : ByteArray) (c : Int) (j : Nat) : (extB p c j).size = p.size + j := by
  induction j with
  | zero => rfl
  | succ j ih => rw [extB, ByteArray.size_append, ih, strOfNums_size]; simp; omega
def leftGo (p : ByteArray) : Nat → Nat → Bool
  | 0, _ => false
  | k + 1, i => (decide (0 < min i (4 - p.size)) && (beginsB (reckS (extB p 128 (min i (4 - p.size)))) p || beginsB (reckS (extB p 191 (min i (4 - p.size)))) p)) || leftGo p k (i + 1)
def leftS (p : ByteArray) : Bool := leftGo p 4 0

set_option maxRecDepth 100000 in
theorem left_calls (p : ByteArray) (w : World) (hp1 : 1 ≤ p.size) (hp : p.size ≤ 3) (R : Ending → World → Prop)
    (hR : Hid (∀ w', Below w.heap.size w w' → R (.returned (.bool (leftS p))) w')) : Calls Tryz.prog 74 #[.string p] w R := by
  have cv := cvB
  have z1 : (strOfNums [128]).size = 1 := by rw [strOfNums_size]; rfl
  have z2 : (strOfNums [191]).size = 1 := by rw [strOfNums_size]; rfl
  go_enter Tryz.func74, Tryz.ntmps74
  go_wp2_with fail
  go_loopg [3, 4, 5] 4 (fun k a z i wr => ∃ (I : Nat) (A Z : ByteArray), Below w.heap.size w wr ∧ a = .string A ∧ z = .string Z ∧ i = .int .i64 I ∧ I + k = 4 ∧ A.size = p.size + min I (4 - p.size) ∧ Z.size = p.size + min I (4 - p.size) ∧
    Hid (A = extB p 128 (min I (4 - p.size)) ∧ Z = extB p 191 (min I (4 - p.size)) ∧ leftGo p k I = leftS p))
  case atStart => exact ⟨0, p, p, Below.refl _ _, rfl, rfl, rfl, by omega, by omega, by omega, by rw [Nat.zero_min]; exact ⟨rfl, rfl, rfl⟩⟩
  case round =>
    obtain ⟨I, A, Z, hbel, rfl, rfl, rfl, c1, c2, c3, c4⟩ := hrel
    have hsz := hbel.size
    obtain ⟨m, hm⟩ : ∃ m, m = min I (4 - p.size) := ⟨_, rfl⟩
    rw [← hm] at c2 c3 c4
    obtain ⟨q4, q5, q6⟩ := c4.out
    clear c4
    replace q4 := Lib.hid q4
    replace q5 := Lib.hid q5
    by_cases hI : I < 4
    · obtain ⟨k, rfl⟩ : ∃ k, gk = k + 1 := ⟨gk - 1, by omega⟩
      rw [leftGo, ← hm, ← q4.out, ← q5.out] at q6
      by_cases hI0 : I = 0
      · subst hI0
        obtain rfl : m = 0 := by omega
        replace q6 := Lib.hid q6
        replace hm := Lib.hid hm
        go_wp2_with fail
        go_roundg k
        case measure => omega
        case rel =>
          have e : min 1 (4 - p.size) = 1 := by omega
          exact ⟨1, _, _, ((hbel.alloc hsz _).alloc (by simp; omega) _), rfl, rfl, rfl, by omega, by rw [ByteArray.size_append, z1, e]; omega, by rw [ByteArray.size_append, z2, e]; omega, by
            rw [e]; exact ⟨by rw [q4.out]; rfl, by rw [q5.out]; rfl, by rw [← q6.out]; simp⟩⟩
      · have hm0 : 0 < m := by omega
        have hm4 : p.size + m ≤ 4 := by omega
        have hnx : min (I + 1) (4 - p.size) = if p.size + m < 4 then m + 1 else m := by split <;> omega
        replace hnx := Lib.hid hnx
        replace hm := Lib.hid hm
        rw [show decide (0 < m) = true by simpa using hm0, Bool.true_and] at q6
        have bA := reckS_bd A
        have bZ := reckS_bd Z
        have hp' : p.size ≤ maxLen := by unfold maxLen; omega
        have lA : 1 ≤ A.size ∧ A.size ≤ 4 := by omega
        have lZ : 1 ≤ Z.size ∧ Z.size ≤ 4 := by omega
        by_cases hA4 : p.size + m < 4
        all_goals
          go_wp2_with fail
          refine reck_calls _ _ lA.1 lA.2 _ (fun w1 hb1 => ?_)
          go_wp2_with fail
          refine begins_calls _ _ _ bA.1 bA.2 hp' _ (fun w2 hb2 => ?_)
          have hbel2 := (hbel.trans (hb1.mono hsz)).trans (hb2.mono (Nat.le_trans hsz hb1.size))
          have hsz2 := hbel2.size
          cases hB1 : beginsB (reckS A) p
          rotate_left
          · rw [hB1] at q6
            have e : true = leftS p := by rw [← q6]; simp
            replace e := Lib.hid e
            clear q6 hB1
            go_wp2_with fail
            exact retB (hR.out _ hbel2) e.out.symm
          rw [hB1, Bool.false_or] at q6
          replace q6 := Lib.hid q6
          clear hB1
          go_wp2_with fail
          refine reck_calls _ _ lZ.1 lZ.2 _ (fun w3 hb3 => ?_)
          go_wp2_with fail
          refine begins_calls _ _ _ bZ.1 bZ.2 hp' _ (fun w4 hb4 => ?_)
          have hbel4 := (hbel2.trans (hb3.mono hsz2)).trans (hb4.mono (Nat.le_trans hsz2 hb3.size))
          have hsz4 := hbel4.size
          replace q6 := q6.out
          cases hB2 : beginsB (reckS Z) p
          rotate_left
          · rw [hB2] at q6
            have e : true = leftS p := by rw [← q6]; simp
            replace e := Lib.hid e
            clear q6 hB2
            go_wp2_with fail
            exact retB (hR.out _ hbel4) e.out.symm
          rw [hB2, Bool.false_or] at q6
          replace q6 := Lib.hid q6
          clear hB2
          go_wp2_with fail
          go_roundg k
          case measure => omega
          case rel =>
            have e := hnx.out
            first
              | (rw [if_pos hA4] at e
                 exact ⟨I + 1, _, _, ((hbel4.alloc hsz4 _).alloc (by simp; omega) _), rfl, rfl, by go_num, by omega, by rw [ByteArray.size_append, z1, e]; omega, by rw [ByteArray.size_append, z2, e]; omega, by
                   rw [e]; exact ⟨by rw [q4.out]; rfl, by rw [q5.out]; rfl, q6.out⟩⟩)
              | (rw [if_neg hA4] at e
                 exact ⟨I + 1, _, _, hbel4, rfl, rfl, by go_num, by omega, by rw [e]; omega, by rw [e]; omega, by
                   rw [e]; exact ⟨q4.out, q5.out, q6.out⟩⟩)
    · have e : false = leftS p := by rw [← q6]; obtain rfl : gk = 0 := by omega
                                     rfl
      replace e := Lib.hid e
      clear q6
      replace hm := Lib.hid hm
      go_wp2_with fail
      exact retB (hR.out _ hbel) e.out.symm
end Go.Proofs.YthelhplcijhioaaGreat.Utf

/- The contract of the reference's Decode. -/
set_option maxRecDepth 100000
set_option linter.unusedVariables false
namespace Go.Proofs.YthelhplcijhioaaGreat.Utf
open Go.RowKit Go.Lib

def eqB (a b : ByteArray) : Bool := a.toList == b.toList
/-- The first loop: is some n, from n on, the length of a scalar's bytes? -/
def refFind (t : ByteArray) : Nat → Nat → Option (Int × Nat)
  | 0, _ => none
  | k + 1, n => if n < 5 ∧ n ≤ t.size then
      (if scalarB (reckS (t.extract 0 n)) && (encS (reckS (t.extract 0 n))).toList == (t.extract 0 n).toList then some (reckS (t.extract 0 n), n) else refFind t k (n + 1)) else none
def refMany (t : ByteArray) : Nat → Nat → Nat → Nat
  | 0, _, m => m
  | k + 1, n, m => if n < 4 ∧ n ≤ t.size then refMany t k (n + 1) (if leftS (t.extract 0 n) then n else m) else m
def decR (s : ByteArray) (i : Int) : Int × Int × Bool :=
  if i < 0 ∨ (s.size : Int) ≤ i then (0, 0, false)
  else match refFind (s.extract i.toNat s.size) 4 1 with
    | some (r, n) => (r, n, true)
    | none => (0, refMany (s.extract i.toNat s.size) 3 2 1, false)

set_option maxRecDepth 100000 in
set_option maxHeartbeats 2000000 in
theorem refdec_in (s : ByteArray) (i : Nat) (w : World) (hs : s.size ≤ maxLen) (hi : i < s.size) (R : Ending → World → Prop)
    (hR : Hid (∀ w', Below w.heap.size w w' → R (.returned (.tuple #[.int .i32 (decR s i).1, .int .i64 (decR s i).2.1, .bool (decR s i).2.2])) w')) :
    Calls Tryz.prog 42 #[.string s, .int .i64 i] w R := by
  have hD : decR s i = match refFind (s.extract i s.size) 4 1 with
    | some (r, n) => (r, (n : Int), true)
    | none => (0, (refMany (s.extract i s.size) 3 2 1 : Int), false) := by unfold decR; rw [if_neg (by omega)]; rfl
  have htz : (s.extract i s.size).size = s.size - i := by rw [ByteArray.size_extract]; omega
  replace hD := Lib.hid hD
  unfold maxLen at hs
  have hd1 : decide (s.size ≤ i) = false := by simp; omega
  go_enter Tryz.func42, Tryz.ntmps42
  go_wp2_with fail
  go_loopg [7] 4 (fun k n wr => ∃ (N : Nat), Below w.heap.size w wr ∧ n = .int .i64 N ∧ N + k = 5 ∧ 1 ≤ N ∧ Hid (refFind (s.extract i s.size) k N = refFind (s.extract i s.size) 4 1))
  case atStart => exact ⟨1, Below.refl _ _, rfl, by omega, by omega, rfl⟩
  case round =>
    obtain ⟨N, hbel, rfl, c1, c2, c3⟩ := hrel
    have hsz := hbel.size
    by_cases hN : N < 5 ∧ N ≤ s.size - i
    · obtain ⟨k, rfl⟩ : ∃ k, gk = k + 1 := ⟨gk - 1, by omega⟩
      have hp : ((s.extract i s.size).extract 0 N).size = N := by rw [ByteArray.size_extract]; omega
      have hr := reckS_bd ((s.extract i s.size).extract 0 N)
      have lp : 1 ≤ ((s.extract i s.size).extract 0 N).size ∧ ((s.extract i s.size).extract 0 N).size ≤ 4 := by omega
      replace hp := Lib.hid hp
      replace lp := Lib.hid lp
      obtain ⟨n1, n2⟩ := hN
      have e := c3.out
      rw [refFind, if_pos ⟨n1, by omega⟩] at e
      have e := Lib.hid e
      clear c3
      have e := e.out
      by_cases hsc : scalarB (reckS ((s.extract i s.size).extract 0 N)) = true
      · cases hq : ((encS (reckS ((s.extract i s.size).extract 0 N))).toList == ((s.extract i s.size).extract 0 N).toList)
        all_goals
          rw [hsc, hq] at e
          simp only [Bool.true_and, Bool.false_eq_true, if_true, if_false] at e
          replace e := Lib.hid e
          go_wp2_with fail
          refine reck_calls _ _ lp.out.1 lp.out.2 _ (fun w1 hb1 => ?_)
          go_wp2_with fail
          have hb := hbel.trans (hb1.mono hsz)
          have hbz := hb.size
          go_region_held3 (fun w' => Below w.heap.size w w') (first | exact hb.drew | exact Below.trans (by assumption) (Below.mono (by assumption) (Below.size (by assumption))) | trace_state) (first | (go_at_call 72; refine scalar2_calls _ _ _ ?_; rw [hsc]) | (go_at_call 73; refine ref_calls _ _ _ (fun w2 hb2 => ?_)))
        · go_wp2_with fail
          go_roundg k
          case measure => omega
          case rel => exact ⟨N + 1, by assumption, by go_num, by omega, by omega, e.out⟩
        · go_wp2_with fail
          go_ret3
          have e2 := hD.out
          rw [← e.out] at e2
          exact ret3e (hR.out _ (by assumption)) e2.symm
      · have hsc : scalarB (reckS ((s.extract i s.size).extract 0 N)) = false := by simpa using hsc
        rw [hsc] at e
        simp only [Bool.false_and, Bool.false_eq_true, if_false] at e
        replace e := Lib.hid e
        go_wp2_with fail
        refine reck_calls _ _ lp.out.1 lp.out.2 _ (fun w1 hb1 => ?_)
        go_wp2_with fail
        have hb := hbel.trans (hb1.mono hsz)
        have hbz := hb.size
        go_quiet ((go_at_call 72; exact Calls.quiet_of_same (scalar2_calls _ _ _ ⟨by rw [hsc], rfl⟩)))
        go_wp2_with fail
        go_roundg k
        case measure => omega
        case rel => exact ⟨N + 1, below_drewN hb _, by go_num, by omega, by omega, e.out⟩
    · have e : refFind (s.extract i s.size) gk N = none := by cases gk <;> simp [refFind]; omega
      have e2 := hD.out
      rw [← c3.out, e] at e2
      clear e
      replace e2 := Lib.hid e2
      clear c3 hD
      have hN1 : N = 5 ∨ N < 5 ∧ s.size - i < N := by omega
      go_wp2_with fail
      all_goals
        go_loopg [9, 10] 3 (fun k m n wq => ∃ (M N2 : Nat), Below w.heap.size w wq ∧ m = .int .i64 M ∧ n = .int .i64 N2 ∧ N2 + k = 5 ∧ 2 ≤ N2 ∧ Hid (refMany (s.extract i s.size) k N2 M = refMany (s.extract i s.size) 3 2 1))
        case atStart => exact ⟨1, 2, hbel, rfl, rfl, by omega, by omega, rfl⟩
        case round =>
          obtain ⟨M, N2, hbq, rfl, rfl, m1, m2, m3⟩ := hrel
          have hsq := hbq.size
          by_cases hN2 : N2 < 4 ∧ N2 ≤ s.size - i
          · obtain ⟨k, rfl⟩ : ∃ k, gk = k + 1 := ⟨gk - 1, by omega⟩
            have hp : 1 ≤ ((s.extract i s.size).extract 0 N2).size ∧ ((s.extract i s.size).extract 0 N2).size ≤ 3 := by rw [ByteArray.size_extract]; omega
            replace hp := Lib.hid hp
            obtain ⟨n1, n2⟩ := hN2
            have e := m3.out
            rw [refMany, if_pos ⟨n1, by omega⟩] at e
            clear m3
            go_wp2_with fail
            refine left_calls _ _ hp.out.1 hp.out.2 _ (fun w1 hb1 => ?_)
            have hb := hbq.trans (hb1.mono hsq)
            cases hq : leftS ((s.extract i s.size).extract 0 N2)
            all_goals
              rw [hq] at e
              simp only [Bool.false_eq_true, if_true, if_false] at e
              replace e := Lib.hid e
              clear hq
              go_wp2_with fail
              go_roundg k
              case measure => omega
              case rel => exact ⟨_, N2 + 1, hb, rfl, by go_num, by omega, by omega, e.out⟩
          · have e : refMany (s.extract i s.size) gk N2 M = M := by cases gk <;> simp [refMany]; omega
            have e3 := e2.out
            rw [← m3.out, e] at e3
            clear e m3
            replace e3 := Lib.hid e3
            have hN2' : N2 = 4 ∨ N2 = 5 ∨ N2 < 4 ∧ s.size - i < N2 := by omega
            go_wp2_with fail
            all_goals
              go_ret3
              exact ret3e (hR.out _ hbq) e3.out.symm

set_option maxRecDepth 100000 in
theorem refdec_calls (s : ByteArray) (i : Int) (w : World) (hs : s.size ≤ maxLen) (R : Ending → World → Prop)
    (hR : Hid (∀ w', Below w.heap.size w w' → R (.returned (.tuple #[.int .i32 (decR s i).1, .int .i64 (decR s i).2.1, .bool (decR s i).2.2])) w')) :
    Calls Tryz.prog 42 #[.string s, .int .i64 i] w R := by
  by_cases h : i < 0 ∨ (s.size : Int) ≤ i
  · have hD : (0, 0, false) = decR s i := by unfold decR; rw [if_pos h]
    replace hD := Lib.hid hD
    unfold maxLen at hs
    rcases h with h | h
    all_goals
      go_enter Tryz.func42, Tryz.ntmps42
      go_wp2_with fail
      all_goals
        go_ret3
        exact ret3e (hR.out _ (Below.refl _ _)) hD.out
  · obtain ⟨j, rfl⟩ := Int.eq_ofNat_of_zero_le (by omega : 0 ≤ i)
    exact refdec_in s j w hs (by omega) R hR
end Go.Proofs.YthelhplcijhioaaGreat.Utf

/- Plain mathematics: the reference's Decode is Decode. -/
set_option maxRecDepth 100000
set_option linter.unusedVariables false
set_option linter.unusedSectionVars false
namespace Go.Proofs.YthelhplcijhioaaGreat.Utf
open Go.RowKit Go.Lib

theorem encL_range (r : Int) : ∀ x ∈ encL r, 0 ≤ x ∧ x < 256 := by
  intro x hx
  unfold encL at hx
  split at hx
  · rename_i hs
    unfold scalarB at hs
    simp only [decide_eq_true_eq] at hs
    split at hx
    · simp at hx; omega
    split at hx
    · simp at hx; omega
    split at hx
    · simp at hx; omega
    · simp at hx; omega
  · simp at hx
theorem bl_encS (r : Int) : bl (encS r) = encL r := bl_strOfNums _ (encL_range r)
theorem enc1 (a : Int) (h0 : 0 ≤ a) (h1 : a < 256) : (scalarB a = true ∧ encL a = [a]) ↔ a < 128 := by
  unfold encL scalarB
  constructor
  · rintro ⟨h, e⟩
    rw [if_pos h] at e
    simp only [decide_eq_true_eq] at h
    split at e
    · assumption
    split at e
    · simp at e
    · omega
  · intro h
    have hs : 0 ≤ a ∧ a ≤ 1114111 ∧ ¬(55296 ≤ a ∧ a ≤ 57343) := by omega
    simp [hs, h]
theorem enc2 (a b : Int) (h0 : 0 ≤ a) (h1 : a < 256) (h2 : 0 ≤ b) (h3 : b < 256) :
    (scalarB ((a - 128 - 64) * 64 + (b - 128)) = true ∧ encL ((a - 128 - 64) * 64 + (b - 128)) = [a, b]) ↔ 194 ≤ a ∧ a < 224 ∧ 128 ≤ b ∧ b ≤ 191 := by
  generalize hr : (a - 128 - 64) * 64 + (b - 128) = r
  unfold encL scalarB
  constructor
  · rintro ⟨h, e⟩
    rw [if_pos h] at e
    simp only [decide_eq_true_eq] at h
    split at e
    · simp at e
    split at e
    · simp at e; omega
    split at e
    · simp at e
    · simp at e
  · intro h
    have hs : 0 ≤ r ∧ r ≤ 1114111 ∧ ¬(55296 ≤ r ∧ r ≤ 57343) := by omega
    rw [if_pos (decide_eq_true hs), if_neg (by omega), if_pos (by omega)]
    refine ⟨decide_eq_true hs, ?_⟩
    simp; omega
theorem enc3 (a b c : Int) (h0 : 0 ≤ a) (h1 : a < 256) (h2 : 0 ≤ b) (h3 : b < 256) (h4 : 0 ≤ c) (h5 : c < 256) :
    (scalarB ((a - 128 - 96) * 4096 + (b - 128) * 64 + (c - 128)) = true ∧ encL ((a - 128 - 96) * 4096 + (b - 128) * 64 + (c - 128)) = [a, b, c]) ↔
      224 ≤ a ∧ a < 240 ∧ 128 ≤ b ∧ b ≤ 191 ∧ (a = 224 → 160 ≤ b) ∧ (a = 237 → b ≤ 159) ∧ 128 ≤ c ∧ c ≤ 191 := by
  generalize hr : (a - 128 - 96) * 4096 + (b - 128) * 64 + (c - 128) = r
  unfold encL scalarB
  constructor
  · rintro ⟨h, e⟩
    rw [if_pos h] at e
    simp only [decide_eq_true_eq] at h
    split at e
    · simp at e
    split at e
    · simp at e
    split at e
    · simp at e; omega
    · simp at e
  · intro h
    have hs : 0 ≤ r ∧ r ≤ 1114111 ∧ ¬(55296 ≤ r ∧ r ≤ 57343) := by omega
    rw [if_pos (decide_eq_true hs), if_neg (by omega), if_neg (by omega), if_pos (by omega)]
    refine ⟨decide_eq_true hs, ?_⟩
    simp; omega
theorem enc4 (a b c d : Int) (h0 : 0 ≤ a) (h1 : a < 256) (h2 : 0 ≤ b) (h3 : b < 256) (h4 : 0 ≤ c) (h5 : c < 256) (h6 : 0 ≤ d) (h7 : d < 256) :
    (scalarB ((a - 128 - 112) * 262144 + (b - 128) * 4096 + (c - 128) * 64 + (d - 128)) = true ∧ encL ((a - 128 - 112) * 262144 + (b - 128) * 4096 + (c - 128) * 64 + (d - 128)) = [a, b, c, d]) ↔
      240 ≤ a ∧ a < 245 ∧ 128 ≤ b ∧ b ≤ 191 ∧ (a = 240 → 144 ≤ b) ∧ (a = 244 → b ≤ 143) ∧ 128 ≤ c ∧ c ≤ 191 ∧ 128 ≤ d ∧ d ≤ 191 := by
  generalize hr : (a - 128 - 112) * 262144 + (b - 128) * 4096 + (c - 128) * 64 + (d - 128) = r
  unfold encL scalarB
  constructor
  · rintro ⟨h, e⟩
    rw [if_pos h] at e
    simp only [decide_eq_true_eq] at h
    split at e
    · simp at e
    split at e
    · simp at e
    split at e
    · simp at e
    · simp at e; omega
  · intro h
    have hs : 0 ≤ r ∧ r ≤ 1114111 ∧ ¬(55296 ≤ r ∧ r ≤ 57343) := by omega
    rw [if_pos (decide_eq_true hs), if_neg (by omega), if_neg (by omega), if_neg (by omega)]
    refine ⟨decide_eq_true hs, ?_⟩
    simp; omega

/-- Do a number's bytes properly begin with others? -/
def begL (n : Int) (p : List Int) : Prop := p.length < (encL n).length ∧ (encL n).take p.length = p
theorem beginsB_iff (n : Int) (p : ByteArray) : beginsB n p = true ↔ begL n (bl p) := by
  unfold beginsB begL
  have h : (encS n).size = (encL n).length := by rw [← bl_length, bl_encS]
  rw [bl_inj, bl_extract, bl_encS, bl_length, h]
  simp
theorem beg2 (n a b : Int) : begL n [a, b] ↔ (0 ≤ n ∧ n ≤ 1114111 ∧ ¬(55296 ≤ n ∧ n ≤ 57343)) ∧ ((2048 ≤ n ∧ n < 65536 ∧ 224 + n / 4096 = a ∧ 128 + n / 64 % 64 = b) ∨ (65536 ≤ n ∧ 240 + n / 262144 = a ∧ 128 + n / 4096 % 64 = b)) := by
  unfold begL encL scalarB
  by_cases hs : 0 ≤ n ∧ n ≤ 1114111 ∧ ¬(55296 ≤ n ∧ n ≤ 57343)
  · rw [if_pos (decide_eq_true hs)]
    (repeat' split) <;> simp <;> omega
  · rw [if_neg (fun h => hs (of_decide_eq_true h))]
    simp; omega
theorem beg3 (n a b c : Int) : begL n [a, b, c] ↔ (0 ≤ n ∧ n ≤ 1114111 ∧ ¬(55296 ≤ n ∧ n ≤ 57343)) ∧ 65536 ≤ n ∧ 240 + n / 262144 = a ∧ 128 + n / 4096 % 64 = b ∧ 128 + n / 64 % 64 = c := by
  unfold begL encL scalarB
  by_cases hs : 0 ≤ n ∧ n ≤ 1114111 ∧ ¬(55296 ≤ n ∧ n ≤ 57343)
  · rw [if_pos (decide_eq_true hs)]
    (repeat' split) <;> simp <;> omega
  · rw [if_neg (fun h => hs (of_decide_eq_true h))]
    simp; omega

theorem bl_extB (p : ByteArray) (c : Int) (hc : 0 ≤ c ∧ c < 256) (j : Nat) : bl (extB p c j) = bl p ++ List.replicate j c := by
  induction j with
  | zero => simp [extB]
  | succ j ih =>
    rw [extB, bl_append, ih, bl_strOfNums [c] (by simpa using hc), List.append_assoc, List.replicate_succ']
theorem reck3 {s : ByteArray} {a b c : Int} (h : bl s = [a, b, c]) : reckS s = (a - 128 - 96) * 4096 + (b - 128) * 64 + (c - 128) := by
  have hz : s.size = 3 := by rw [← bl_length, h]; rfl
  have e0 : (byN s 0 : Int) = a := byN_of_bl (by rw [h]; rfl)
  have e1 : (byN s 1 : Int) = b := byN_of_bl (by rw [h]; rfl)
  have e2 : (byN s 2 : Int) = c := byN_of_bl (by rw [h]; rfl)
  unfold reckS
  rw [if_neg (by omega), if_neg (by omega), if_pos hz]
  simp only [e0, e1, e2]
theorem reck4 {s : ByteArray} {a b c d : Int} (h : bl s = [a, b, c, d]) : reckS s = (a - 128 - 112) * 262144 + (b - 128) * 4096 + (c - 128) * 64 + (d - 128) := by
  have hz : s.size = 4 := by rw [← bl_length, h]; rfl
  have e0 : (byN s 0 : Int) = a := byN_of_bl (by rw [h]; rfl)
  have e1 : (byN s 1 : Int) = b := byN_of_bl (by rw [h]; rfl)
  have e2 : (byN s 2 : Int) = c := byN_of_bl (by rw [h]; rfl)
  have e3 : (byN s 3 : Int) = d := byN_of_bl (by rw [h]; rfl)
  unfold reckS
  rw [if_neg (by omega), if_neg (by omega), if_neg (by omega)]
  simp only [e0, e1, e2, e3]
theorem reck2 {s : ByteArray} {a b : Int} (h : bl s = [a, b]) : reckS s = (a - 128 - 64) * 64 + (b - 128) := by
  have hz : s.size = 2 := by rw [← bl_length, h]; rfl
  have e0 : (byN s 0 : Int) = a := byN_of_bl (by rw [h]; rfl)
  have e1 : (byN s 1 : Int) = b := byN_of_bl (by rw [h]; rfl)
  unfold reckS
  rw [if_neg (by omega), if_pos hz]
  simp only [e0, e1]
theorem reck1 {s : ByteArray} {a : Int} (h : bl s = [a]) : reckS s = a := by
  have hz : s.size = 1 := by rw [← bl_length, h]; rfl
  have e0 : (byN s 0 : Int) = a := byN_of_bl (by rw [h]; rfl)
  unfold reckS
  rw [if_pos hz]
  simp only [e0]; omega

theorem left2 {p : ByteArray} {a b : Int} (h : bl p = [a, b]) (h0 : 0 ≤ a) (h1 : a < 256) (h2 : 0 ≤ b) (h3 : b < 256) :
    leftS p = true ↔ 224 ≤ a ∧ a < 245 ∧ 128 ≤ b ∧ b ≤ 191 ∧ (a = 224 → 160 ≤ b) ∧ (a = 237 → b ≤ 159) ∧ (a = 240 → 144 ≤ b) ∧ (a = 244 → b ≤ 143) := by
  have hz : p.size = 2 := by rw [← bl_length, h]; rfl
  have e1 := reck3 (s := extB p 128 1) (a := a) (b := b) (c := 128) (by rw [bl_extB _ _ (by decide), h]; rfl)
  have e2 := reck3 (s := extB p 191 1) (a := a) (b := b) (c := 191) (by rw [bl_extB _ _ (by decide), h]; rfl)
  have e3 := reck4 (s := extB p 128 2) (a := a) (b := b) (c := 128) (d := 128) (by rw [bl_extB _ _ (by decide), h]; rfl)
  have e4 := reck4 (s := extB p 191 2) (a := a) (b := b) (c := 191) (d := 191) (by rw [bl_extB _ _ (by decide), h]; rfl)
  have e : leftS p = (beginsB (reckS (extB p 128 1)) p || beginsB (reckS (extB p 191 1)) p || (beginsB (reckS (extB p 128 2)) p || beginsB (reckS (extB p 191 2)) p)) := by
    simp [leftS, leftGo, hz]
  rw [e, e1, e2, e3, e4]
  simp only [Bool.or_eq_true, beginsB_iff, h, beg2]
  constructor
  · rintro ((h | h) | h | h)
    all_goals
      obtain ⟨⟨g1, g2, g3⟩, ⟨g4, g5, g6, g7⟩ | ⟨g4, g5, g6⟩⟩ := h
      all_goals omega
  · intro h
    by_cases ha : a < 240
    · refine Or.inl (Or.inl ?_)
      omega
    · refine Or.inr (Or.inl ?_)
      omega
theorem left3 {p : ByteArray} {a b c : Int} (h : bl p = [a, b, c]) (h0 : 0 ≤ a) (h1 : a < 256) (h2 : 0 ≤ b) (h3 : b < 256) (h4 : 0 ≤ c) (h5 : c < 256) :
    leftS p = true ↔ 240 ≤ a ∧ a < 245 ∧ 128 ≤ b ∧ b ≤ 191 ∧ (a = 240 → 144 ≤ b) ∧ (a = 244 → b ≤ 143) ∧ 128 ≤ c ∧ c ≤ 191 := by
  have hz : p.size = 3 := by rw [← bl_length, h]; rfl
  have e3 := reck4 (s := extB p 128 1) (a := a) (b := b) (c := c) (d := 128) (by rw [bl_extB _ _ (by decide), h]; rfl)
  have e4 := reck4 (s := extB p 191 1) (a := a) (b := b) (c := c) (d := 191) (by rw [bl_extB _ _ (by decide), h]; rfl)
  have e : leftS p = (beginsB (reckS (extB p 128 1)) p || beginsB (reckS (extB p 191 1)) p) := by
    simp [leftS, leftGo, hz]
  rw [e, e3, e4]
  simp only [Bool.or_eq_true, beginsB_iff, h, beg3]
  omega

/-- The first bytes of a string, as a list. -/
theorem seg (s : ByteArray) (i n : Nat) (h : i + n ≤ s.size) : bl ((s.extract i s.size).extract 0 n) = (List.range n).map fun k => (byN s (i + k) : Int) := by
  have hz : (s.extract i s.size).size = s.size - i := by rw [ByteArray.size_extract]; omega
  apply List.ext_getElem?
  intro k
  by_cases hk : k < n
  · have h1 : k < ((s.extract i s.size).extract 0 n).size := by rw [ByteArray.size_extract]; omega
    rw [bl_get _ _ h1, byN_ext _ _ _ _ (by omega) (by omega), byN_ext _ _ _ _ (by omega) (by omega)]
    simp [hk]
  · rw [List.getElem?_eq_none, List.getElem?_eq_none]
    · simp; omega
    · rw [bl_length, ByteArray.size_extract]; omega

def W2 (a b : Int) : Prop := 194 ≤ a ∧ a < 224 ∧ 128 ≤ b ∧ b ≤ 191
def W3 (a b c : Int) : Prop := 224 ≤ a ∧ a < 240 ∧ 128 ≤ b ∧ b ≤ 191 ∧ (a = 224 → 160 ≤ b) ∧ (a = 237 → b ≤ 159) ∧ 128 ≤ c ∧ c ≤ 191
def W4 (a b c d : Int) : Prop := 240 ≤ a ∧ a < 245 ∧ 128 ≤ b ∧ b ≤ 191 ∧ (a = 240 → 144 ≤ b) ∧ (a = 244 → b ≤ 143) ∧ 128 ≤ c ∧ c ≤ 191 ∧ 128 ≤ d ∧ d ≤ 191
def V2 (a b : Int) : Prop := 224 ≤ a ∧ a < 245 ∧ 128 ≤ b ∧ b ≤ 191 ∧ (a = 224 → 160 ≤ b) ∧ (a = 237 → b ≤ 159) ∧ (a = 240 → 144 ≤ b) ∧ (a = 244 → b ≤ 143)
def V3 (a b c : Int) : Prop := 240 ≤ a ∧ a < 245 ∧ 128 ≤ b ∧ b ≤ 191 ∧ (a = 240 → 144 ≤ b) ∧ (a = 244 → b ≤ 143) ∧ 128 ≤ c ∧ c ≤ 191

def CB (t : ByteArray) (n : Nat) : Bool := scalarB (reckS (t.extract 0 n)) && (encS (reckS (t.extract 0 n))).toList == (t.extract 0 n).toList
theorem CB_iff {t : ByteArray} {n : Nat} {l : List Int} {r : Int} (h : bl (t.extract 0 n) = l) (hr : reckS (t.extract 0 n) = r) : CB t n = true ↔ (scalarB r = true ∧ encL r = l) := by
  unfold CB
  rw [bl_inj, bl_encS, h, hr]; simp
theorem find_step (t : ByteArray) (k n : Nat) (h1 : n < 5) (h2 : n ≤ t.size) : refFind t (k + 1) n = if CB t n = true then some (reckS (t.extract 0 n), n) else refFind t k (n + 1) := by
  rw [refFind, if_pos ⟨h1, h2⟩]; rfl
theorem find_stop (t : ByteArray) (k n : Nat) (h2 : ¬ (n < 5 ∧ n ≤ t.size)) : refFind t k n = none := by
  cases k with
  | zero => rfl
  | succ k => rw [refFind, if_neg h2]

section
variable (s : ByteArray) (i : Nat) (hi : i < s.size)
include hi
theorem fz : (s.extract i s.size).size = s.size - i := by rw [ByteArray.size_extract]; omega
theorem sg1 : bl ((s.extract i s.size).extract 0 1) = [(byN s i : Int)] := by rw [seg s i 1 (by omega)]; rfl
theorem sg2 (h : 2 ≤ s.size - i) : bl ((s.extract i s.size).extract 0 2) = [(byN s i : Int), (byN s (i + 1) : Int)] := by rw [seg s i 2 (by omega)]; rfl
theorem sg3 (h : 3 ≤ s.size - i) : bl ((s.extract i s.size).extract 0 3) = [(byN s i : Int), (byN s (i + 1) : Int), (byN s (i + 2) : Int)] := by rw [seg s i 3 (by omega)]; rfl
theorem sg4 (h : 4 ≤ s.size - i) : bl ((s.extract i s.size).extract 0 4) = [(byN s i : Int), (byN s (i + 1) : Int), (byN s (i + 2) : Int), (byN s (i + 3) : Int)] := by rw [seg s i 4 (by omega)]; rfl
theorem bd (k : Nat) : 0 ≤ (byN s (i + k) : Int) ∧ (byN s (i + k) : Int) < 256 := by have := byN_lt s (i + k); omega
theorem bd0 : 0 ≤ (byN s i : Int) ∧ (byN s i : Int) < 256 := by have := byN_lt s i; omega
theorem cb1 : CB (s.extract i s.size) 1 = true ↔ (byN s i : Int) < 128 :=
  (CB_iff (sg1 s i hi) (reck1 (sg1 s i hi))).trans (enc1 _ (bd0 s i hi).1 (bd0 s i hi).2)
theorem cb2 (h : 2 ≤ s.size - i) : CB (s.extract i s.size) 2 = true ↔ W2 (byN s i) (byN s (i + 1)) :=
  (CB_iff (sg2 s i hi h) (reck2 (sg2 s i hi h))).trans (enc2 _ _ (bd0 s i hi).1 (bd0 s i hi).2 (bd s i hi 1).1 (bd s i hi 1).2)
theorem cb3 (h : 3 ≤ s.size - i) : CB (s.extract i s.size) 3 = true ↔ W3 (byN s i) (byN s (i + 1)) (byN s (i + 2)) :=
  (CB_iff (sg3 s i hi h) (reck3 (sg3 s i hi h))).trans (enc3 _ _ _ (bd0 s i hi).1 (bd0 s i hi).2 (bd s i hi 1).1 (bd s i hi 1).2 (bd s i hi 2).1 (bd s i hi 2).2)
theorem cb4 (h : 4 ≤ s.size - i) : CB (s.extract i s.size) 4 = true ↔ W4 (byN s i) (byN s (i + 1)) (byN s (i + 2)) (byN s (i + 3)) :=
  (CB_iff (sg4 s i hi h) (reck4 (sg4 s i hi h))).trans (enc4 _ _ _ _ (bd0 s i hi).1 (bd0 s i hi).2 (bd s i hi 1).1 (bd s i hi 1).2 (bd s i hi 2).1 (bd s i hi 2).2 (bd s i hi 3).1 (bd s i hi 3).2)
theorem lb2 (h : 2 ≤ s.size - i) : leftS ((s.extract i s.size).extract 0 2) = true ↔ V2 (byN s i) (byN s (i + 1)) :=
  left2 (sg2 s i hi h) (bd0 s i hi).1 (bd0 s i hi).2 (bd s i hi 1).1 (bd s i hi 1).2
theorem lb3 (h : 3 ≤ s.size - i) : leftS ((s.extract i s.size).extract 0 3) = true ↔ V3 (byN s i) (byN s (i + 1)) (byN s (i + 2)) :=
  left3 (sg3 s i hi h) (bd0 s i hi).1 (bd0 s i hi).2 (bd s i hi 1).1 (bd s i hi 1).2 (bd s i hi 2).1 (bd s i hi 2).2

theorem F1 (h : (byN s i : Int) < 128) : refFind (s.extract i s.size) 4 1 = some ((byN s i : Int), 1) := by
  have hz := fz s i hi
  rw [find_step _ _ _ (by omega) (by omega), if_pos ((cb1 s i hi).2 h), reck1 (sg1 s i hi)]
theorem Fa (h : ¬ (byN s i : Int) < 128) : refFind (s.extract i s.size) 4 1 = refFind (s.extract i s.size) 3 2 := by
  have hz := fz s i hi
  rw [find_step _ _ _ (by omega) (by omega), if_neg (fun e => h ((cb1 s i hi).1 e))]
theorem F2 (z : 2 ≤ s.size - i) (h : W2 (byN s i) (byN s (i + 1))) : refFind (s.extract i s.size) 4 1 = some (((byN s i : Int) - 128 - 64) * 64 + ((byN s (i + 1) : Int) - 128), 2) := by
  have hz := fz s i hi
  rw [Fa s i hi (by unfold W2 at h; omega), find_step _ _ _ (by omega) (by omega), if_pos ((cb2 s i hi z).2 h), reck2 (sg2 s i hi z)]
theorem Fb (h : ¬ (byN s i : Int) < 128) (h2 : ¬ W2 (byN s i) (byN s (i + 1))) (z : 2 ≤ s.size - i) : refFind (s.extract i s.size) 4 1 = refFind (s.extract i s.size) 2 3 := by
  have hz := fz s i hi
  rw [Fa s i hi h, find_step _ _ _ (by omega) (by omega), if_neg (fun e => h2 ((cb2 s i hi z).1 e))]
theorem F3 (z : 3 ≤ s.size - i) (h : W3 (byN s i) (byN s (i + 1)) (byN s (i + 2))) :
    refFind (s.extract i s.size) 4 1 = some (((byN s i : Int) - 128 - 96) * 4096 + ((byN s (i + 1) : Int) - 128) * 64 + ((byN s (i + 2) : Int) - 128), 3) := by
  have hz := fz s i hi
  rw [Fb s i hi (by unfold W3 at h; omega) (by unfold W3 at h; unfold W2; omega) (by omega), find_step _ _ _ (by omega) (by omega), if_pos ((cb3 s i hi z).2 h), reck3 (sg3 s i hi z)]
theorem Fc (h : ¬ (byN s i : Int) < 128) (h2 : ¬ W2 (byN s i) (byN s (i + 1))) (h3 : ¬ W3 (byN s i) (byN s (i + 1)) (byN s (i + 2))) (z : 3 ≤ s.size - i) : refFind (s.extract i s.size) 4 1 = refFind (s.extract i s.size) 1 4 := by
  have hz := fz s i hi
  rw [Fb s i hi h h2 (by omega), find_step _ _ _ (by omega) (by omega), if_neg (fun e => h3 ((cb3 s i hi z).1 e))]
theorem F4 (z : 4 ≤ s.size - i) (h : W4 (byN s i) (byN s (i + 1)) (byN s (i + 2)) (byN s (i + 3))) :
    refFind (s.extract i s.size) 4 1 = some (((byN s i : Int) - 128 - 112) * 262144 + ((byN s (i + 1) : Int) - 128) * 4096 + ((byN s (i + 2) : Int) - 128) * 64 + ((byN s (i + 3) : Int) - 128), 4) := by
  have hz := fz s i hi
  rw [Fc s i hi (by unfold W4 at h; omega) (by unfold W4 at h; unfold W2; omega) (by unfold W4 at h; unfold W3; omega) (by omega), find_step _ _ _ (by omega) (by omega), if_pos ((cb4 s i hi z).2 h), reck4 (sg4 s i hi z)]
theorem Fn (h : ¬ (byN s i : Int) < 128) (h2 : 2 ≤ s.size - i → ¬ W2 (byN s i) (byN s (i + 1))) (h3 : 3 ≤ s.size - i → ¬ W3 (byN s i) (byN s (i + 1)) (byN s (i + 2)))
    (h4 : 4 ≤ s.size - i → ¬ W4 (byN s i) (byN s (i + 1)) (byN s (i + 2)) (byN s (i + 3))) : refFind (s.extract i s.size) 4 1 = none := by
  have hz := fz s i hi
  by_cases z2 : 2 ≤ s.size - i
  rotate_left
  · rw [Fa s i hi h, find_stop _ _ _ (by omega)]
  by_cases z3 : 3 ≤ s.size - i
  rotate_left
  · rw [Fb s i hi h (h2 z2) z2, find_stop _ _ _ (by omega)]
  by_cases z4 : 4 ≤ s.size - i
  rotate_left
  · rw [Fc s i hi h (h2 z2) (h3 z3) z3, find_stop _ _ _ (by omega)]
  rw [Fc s i hi h (h2 z2) (h3 z3) z3, find_step _ _ _ (by omega) (by omega), if_neg (fun e => h4 z4 ((cb4 s i hi z4).1 e)), find_stop _ _ _ (by omega)]
theorem many_eq : refMany (s.extract i s.size) 3 2 1 =
    if 3 ≤ s.size - i ∧ leftS ((s.extract i s.size).extract 0 3) = true then 3 else if 2 ≤ s.size - i ∧ leftS ((s.extract i s.size).extract 0 2) = true then 2 else 1 := by
  have hz := fz s i hi
  rw [refMany]
  by_cases z2 : 2 ≤ s.size - i
  · rw [if_pos (c := 2 < 4 ∧ 2 ≤ (s.extract i s.size).size) (by omega), refMany]
    by_cases z3 : 3 ≤ s.size - i
    · rw [if_pos (c := 2 + 1 < 4 ∧ 2 + 1 ≤ (s.extract i s.size).size) (by omega), refMany, if_neg (c := 2 + 1 + 1 < 4 ∧ 2 + 1 + 1 ≤ (s.extract i s.size).size) (by omega)]
      simp only [z2, z3, true_and]
    · rw [if_neg (c := 2 + 1 < 4 ∧ 2 + 1 ≤ (s.extract i s.size).size) (by omega)]
      simp only [z2, z3, false_and, if_false, true_and]
  · rw [if_neg (c := 2 < 4 ∧ 2 ≤ (s.extract i s.size).size) (by omega), if_neg (by omega), if_neg (by omega)]
theorem M3 (z : 3 ≤ s.size - i) (h : V3 (byN s i) (byN s (i + 1)) (byN s (i + 2))) : refMany (s.extract i s.size) 3 2 1 = 3 := by
  rw [many_eq s i hi, if_pos ⟨z, (lb3 s i hi z).2 h⟩]
theorem M2 (z : 2 ≤ s.size - i) (h : V2 (byN s i) (byN s (i + 1))) (h3 : 3 ≤ s.size - i → ¬ V3 (byN s i) (byN s (i + 1)) (byN s (i + 2))) : refMany (s.extract i s.size) 3 2 1 = 2 := by
  rw [many_eq s i hi, if_neg (fun e => h3 e.1 ((lb3 s i hi e.1).1 e.2)), if_pos ⟨z, (lb2 s i hi z).2 h⟩]
theorem M1 (h2 : 2 ≤ s.size - i → ¬ V2 (byN s i) (byN s (i + 1))) : refMany (s.extract i s.size) 3 2 1 = 1 := by
  rw [many_eq s i hi, if_neg (fun e => h2 (by omega) (by have := (lb3 s i hi e.1).1 e.2; unfold V3 at this; unfold V2; omega)), if_neg (fun e => h2 e.1 ((lb2 s i hi e.1).1 e.2))]
end

theorem decR_in {s : ByteArray} {i : Nat} (hi : i < s.size) : decR s i = match refFind (s.extract i s.size) 4 1 with
    | some (r, n) => (r, (n : Int), true)
    | none => (0, (refMany (s.extract i s.size) 3 2 1 : Int), false) := by unfold decR; rw [if_neg (by omega)]; rfl
theorem decS_in {s : ByteArray} {i L : Nat} {lo hi' : Int} (hi : i < s.size) (hl : leadL (byN s i) = ((L : Int), lo, hi')) (h1 : 1 ≤ L) :
    decS s i = decGo s i L (L - 1) 1 lo hi' ((byN s i : Int) - markL L) := by
  unfold decS
  rw [if_neg (by omega)]
  simp only [Int.toNat_natCast, hl]
  rw [if_neg (by omega)]
theorem go_bad {s : ByteArray} {i L k n : Nat} {lo hi r : Int} (h : n = s.size - i ∨ (byN s (i + n) : Int) < lo ∨ hi < (byN s (i + n) : Int)) : decGo s i L (k + 1) n lo hi r = (0, (n : Int), false) := by rw [decGo, if_pos h]
theorem go_ok {s : ByteArray} {i L k n : Nat} {lo hi r : Int} (h : ¬ (n = s.size - i ∨ (byN s (i + n) : Int) < lo ∨ hi < (byN s (i + n) : Int))) :
    decGo s i L (k + 1) n lo hi r = decGo s i L k (n + 1) 128 191 (r * 64 + ((byN s (i + n) : Int) - 128)) := by rw [decGo, if_neg h]
theorem lead2 (c : Int) (h : 194 ≤ c ∧ c < 224) : leadL c = (((2 : Nat) : Int), 128, 191) := by
  unfold leadL; rw [if_neg (by omega), if_neg (by omega), if_pos (by omega)]; rfl
theorem lead3 (c : Int) (h : 224 ≤ c ∧ c < 240) : leadL c = (((3 : Nat) : Int), if c = 224 then 160 else 128, if c = 237 then 159 else 191) := by
  unfold leadL; rw [if_neg (by omega), if_neg (by omega), if_neg (by omega)]
  by_cases h1 : c = 224
  · rw [if_pos h1, if_pos h1, if_neg (by omega)]; rfl
  rw [if_neg h1, if_neg h1]
  by_cases h2 : c = 237
  · rw [if_pos h2, if_pos h2]; rfl
  rw [if_neg h2, if_neg h2, if_pos (by omega)]; rfl
theorem lead4 (c : Int) (h : 240 ≤ c ∧ c < 245) : leadL c = (((4 : Nat) : Int), if c = 240 then 144 else 128, if c = 244 then 143 else 191) := by
  unfold leadL; rw [if_neg (by omega), if_neg (by omega), if_neg (by omega), if_neg (by omega), if_neg (by omega), if_neg (by omega)]
  by_cases h1 : c = 240
  · rw [if_pos h1, if_pos h1, if_neg (by omega)]; rfl
  rw [if_neg h1, if_neg h1]
  by_cases h2 : c = 244
  · rw [if_neg (by omega), if_pos h2, if_pos h2]; rfl
  rw [if_pos (by omega), if_neg h2]; rfl
theorem lead0 (c : Int) (h : 128 ≤ c ∧ c < 194 ∨ 245 ≤ c) : leadL c = (0, 0, 0) := by
  unfold leadL
  rcases h with h | h
  · rw [if_neg (by omega), if_pos (by omega)]
  · rw [if_neg (by omega), if_neg (by omega), if_neg (by omega), if_neg (by omega), if_neg (by omega), if_neg (by omega), if_neg (by omega), if_neg (by omega), if_neg (by omega)]

theorem decR_eq (s : ByteArray) (i : Int) : decR s i = decS s i := by
  by_cases h : i < 0 ∨ (s.size : Int) ≤ i
  · unfold decR decS; rw [if_pos h, if_pos h]
  obtain ⟨i, rfl⟩ := Int.eq_ofNat_of_zero_le (by omega : 0 ≤ i)
  have hi : i < s.size := by omega
  clear h
  rw [decR_in hi]
  have b0 := bd0 s i hi
  have b1 := bd s i hi 1
  have b2 := bd s i hi 2
  have b3 := bd s i hi 3
  by_cases c1 : (byN s i : Int) < 128
  · rw [F1 s i hi c1, decS_in (L := 1) (lo := 0) (hi' := 0) hi (by unfold leadL; rw [if_pos c1]; rfl) (by omega)]
    simp [decGo, markL]
  by_cases c2 : (byN s i : Int) < 194 ∨ 245 ≤ (byN s i : Int)
  · rw [Fn s i hi c1 (fun _ h => by unfold W2 at h; omega) (fun _ h => by unfold W3 at h; omega) (fun _ h => by unfold W4 at h; omega), M1 s i hi (fun _ h => by unfold V2 at h; omega)]
    unfold decS
    rw [if_neg (by omega)]
    simp only [Int.toNat_natCast, lead0 _ (by omega : 128 ≤ (byN s i : Int) ∧ (byN s i : Int) < 194 ∨ 245 ≤ (byN s i : Int))]
    rfl
  by_cases c3 : (byN s i : Int) < 224
  · rw [decS_in hi (lead2 _ (by omega)) (by omega)]
    by_cases g : 1 = s.size - i ∨ (byN s (i + 1) : Int) < 128 ∨ 191 < (byN s (i + 1) : Int)
    · rw [Fn s i hi c1 (fun _ h => by unfold W2 at h; omega) (fun _ h => by unfold W3 at h; omega) (fun _ h => by unfold W4 at h; omega), M1 s i hi (fun _ h => by unfold V2 at h; omega), go_bad g]
    · rw [F2 s i hi (by omega) (by unfold W2; omega), go_ok g]
      simp [decGo, markL]; omega
  by_cases c4 : (byN s i : Int) < 240
  · rw [decS_in hi (lead3 _ (by omega)) (by omega)]
    generalize hlo : (if (byN s i : Int) = 224 then 160 else 128 : Int) = lo
    generalize hhi : (if (byN s i : Int) = 237 then 159 else 191 : Int) = up
    have hlo1 : ((byN s i : Int) = 224 → lo = 160) ∧ (¬ (byN s i : Int) = 224 → lo = 128) := by subst hlo; constructor <;> intro h <;> simp [h]
    have hhi1 : ((byN s i : Int) = 237 → up = 159) ∧ (¬ (byN s i : Int) = 237 → up = 191) := by subst hhi; constructor <;> intro h <;> simp [h]
    clear hlo hhi
    by_cases g : 1 = s.size - i ∨ (byN s (i + 1) : Int) < lo ∨ up < (byN s (i + 1) : Int)
    · rw [Fn s i hi c1 (fun _ h => by unfold W2 at h; omega) (fun _ h => by unfold W3 at h; omega) (fun _ h => by unfold W4 at h; omega), M1 s i hi (fun _ h => by unfold V2 at h; omega), go_bad g]
    rw [go_ok g]
    by_cases g2 : 2 = s.size - i ∨ (byN s (i + 2) : Int) < 128 ∨ 191 < (byN s (i + 2) : Int)
    · rw [Fn s i hi c1 (fun _ h => by unfold W2 at h; omega) (fun _ h => by unfold W3 at h; omega) (fun _ h => by unfold W4 at h; omega), M2 s i hi (by omega) (by unfold V2; omega) (fun _ h => by unfold V3 at h; omega), go_bad g2]
    · rw [F3 s i hi (by omega) (by unfold W3; omega), go_ok g2]
      simp [decGo, markL]; omega
  · rw [decS_in hi (lead4 _ (by omega)) (by omega)]
    generalize hlo : (if (byN s i : Int) = 240 then 144 else 128 : Int) = lo
    generalize hhi : (if (byN s i : Int) = 244 then 143 else 191 : Int) = up
    have hlo1 : ((byN s i : Int) = 240 → lo = 144) ∧ (¬ (byN s i : Int) = 240 → lo = 128) := by subst hlo; constructor <;> intro h <;> simp [h]
    have hhi1 : ((byN s i : Int) = 244 → up = 143) ∧ (¬ (byN s i : Int) = 244 → up = 191) := by subst hhi; constructor <;> intro h <;> simp [h]
    clear hlo hhi
    by_cases g : 1 = s.size - i ∨ (byN s (i + 1) : Int) < lo ∨ up < (byN s (i + 1) : Int)
    · rw [Fn s i hi c1 (fun _ h => by unfold W2 at h; omega) (fun _ h => by unfold W3 at h; omega) (fun _ h => by unfold W4 at h; omega), M1 s i hi (fun _ h => by unfold V2 at h; omega), go_bad g]
    rw [go_ok g]
    by_cases g2 : 2 = s.size - i ∨ (byN s (i + 2) : Int) < 128 ∨ 191 < (byN s (i + 2) : Int)
    · rw [Fn s i hi c1 (fun _ h => by unfold W2 at h; omega) (fun _ h => by unfold W3 at h; omega) (fun _ h => by unfold W4 at h; omega), M2 s i hi (by omega) (by unfold V2; omega) (fun _ h => by unfold V3 at h; omega), go_bad g2]
    rw [go_ok g2]
    by_cases g3 : 3 = s.size - i ∨ (byN s (i + 3) : Int) < 128 ∨ 191 < (byN s (i + 3) : Int)
    · rw [Fn s i hi c1 (fun _ h => by unfold W2 at h; omega) (fun _ h => by unfold W3 at h; omega) (fun _ h => by unfold W4 at h; omega), M3 s i hi (by omega) (by unfold V3; omega), go_bad g3]
    · rw [F4 s i hi (by omega) (by unfold W4; omega), go_ok g3]
      simp [decGo, markL]; omega
end Go.Proofs.YthelhplcijhioaaGreat.Utf
