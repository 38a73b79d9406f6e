import Derived.Test.YtncijmodlhijoaaGreatQ0
set_option linter.unusedVariables false
set_option maxRecDepth 100000
set_option maxHeartbeats 4000000
namespace Go.Proofs.YtncijmodlhijoaaGreat.Utf
open Go.RowKit Go.Lib
def reckS (s : ByteArray) : Int :=
 let x (i : Nat) : Int := (byN s i : Int) - 128
 if s.size = 1 then x 0 + 128
 else if s.size = 2 then (x 0 - 64) * 64 + x 1
 else if s.size = 3 then (x 0 - 96) * 4096 + x 1 * 64 + x 2
 else (x 0 - 112) * 262144 + x 1 * 4096 + x 2 * 64 + x 3
theorem reck_1 (s : ByteArray) (w : World) (hs : s.size = 1) (R : Ending → World → Prop)
  (hR : Hid (∀ w', Below w.heap.size w w' → R (.returned (.int .i64 (reckS s))) w')) : Calls Tryz.prog 232 #[.string s] w R := by
 have hE : reckS s = (byN s 0 : Int) := by unfold reckS; rw [if_pos hs]; simp only []; omega
 replace hE := Lib.hid hE
 have hb := byN_get s
 have h0 := byN_lt s 0
 go_enter Tryz.func232, Tryz.ntmps232
 go_wp2_with fail
 refine wp_loop_rounds 2 ?_
 rw [rounds_succ]
 go_wp2_with fail
 rw [rounds_succ]
 go_wp2_with fail
 exact retI (hR.out _ ((Below.refl _ _).alloc (Nat.le_refl _) _)) (by rw [hE.out]; try omega)
theorem reck_2 (s : ByteArray) (w : World) (hs : s.size = 2) (R : Ending → World → Prop)
  (hR : Hid (∀ w', Below w.heap.size w w' → R (.returned (.int .i64 (reckS s))) w')) : Calls Tryz.prog 232 #[.string s] w R := by
 have hE : reckS s = ((byN s 0 : Int) - 128 - 64) * 64 + ((byN s 1 : Int) - 128) := by unfold reckS; rw [if_neg (by omega), if_pos hs]
 replace hE := Lib.hid hE
 have hb := byN_get s
 have h0 := byN_lt s 0
 have h1 := byN_lt s 1
 go_enter Tryz.func232, Tryz.ntmps232
 go_wp2_with fail
 refine wp_loop_rounds 3 ?_
 rw [rounds_succ]
 go_wp2_with fail
 rw [rounds_succ]
 go_wp2_with fail
 rw [rounds_succ]
 go_wp2_with fail
 exact retI (hR.out _ ((Below.refl _ _).alloc (Nat.le_refl _) _)) (by rw [hE.out]; try omega)
theorem reck_3 (s : ByteArray) (w : World) (hs : s.size = 3) (R : Ending → World → Prop)
  (hR : Hid (∀ w', Below w.heap.size w w' → R (.returned (.int .i64 (reckS s))) w')) : Calls Tryz.prog 232 #[.string s] w R := by
 have hE : reckS s = ((byN s 0 : Int) - 128 - 96) * 4096 + ((byN s 1 : Int) - 128) * 64 + ((byN s 2 : Int) - 128) := by unfold reckS; rw [if_neg (by omega), if_neg (by omega), if_pos hs]
 replace hE := Lib.hid hE
 have hb := byN_get s
 have h0 := byN_lt s 0
 have h1 := byN_lt s 1
 have h2 := byN_lt s 2
 go_enter Tryz.func232, Tryz.ntmps232
 go_wp2_with fail
 refine wp_loop_rounds 4 ?_
 rw [rounds_succ]
 go_wp2_with fail
 rw [rounds_succ]
 go_wp2_with fail
 rw [rounds_succ]
 go_wp2_with fail
 rw [rounds_succ]
 go_wp2_with fail
 exact retI (hR.out _ ((Below.refl _ _).alloc (Nat.le_refl _) _)) (by rw [hE.out]; try omega)
theorem reck_4 (s : ByteArray) (w : World) (hs : s.size = 4) (R : Ending → World → Prop)
  (hR : Hid (∀ w', Below w.heap.size w w' → R (.returned (.int .i64 (reckS s))) w')) : Calls Tryz.prog 232 #[.string s] w R := by
 have hE : reckS s = ((byN s 0 : Int) - 128 - 112) * 262144 + ((byN s 1 : Int) - 128) * 4096 + ((byN s 2 : Int) - 128) * 64 + ((byN s 3 : Int) - 128) := by unfold reckS; rw [if_neg (by omega), if_neg (by omega), if_neg (by omega)]
 replace hE := Lib.hid hE
 have hb := byN_get s
 have h0 := byN_lt s 0
 have h1 := byN_lt s 1
 have h2 := byN_lt s 2
 have h3 := byN_lt s 3
 go_enter Tryz.func232, Tryz.ntmps232
 go_wp2_with fail
 refine wp_loop_rounds 5 ?_
 rw [rounds_succ]
 go_wp2_with fail
 rw [rounds_succ]
 go_wp2_with fail
 rw [rounds_succ]
 go_wp2_with fail
 rw [rounds_succ]
 go_wp2_with fail
 rw [rounds_succ]
 go_wp2_with fail
 exact retI (hR.out _ ((Below.refl _ _).alloc (Nat.le_refl _) _)) (by rw [hE.out]; try omega)
theorem reck_calls (s : ByteArray) (w : World) (h1 : 1 ≤ s.size) (h4 : s.size ≤ 4) (R : Ending → World → Prop)
  (hR : Hid (∀ w', Below w.heap.size w w' → R (.returned (.int .i64 (reckS s))) w')) : Calls Tryz.prog 232 #[.string s] w R := by
 rcases (by omega : s.size = 1 ∨ s.size = 2 ∨ s.size = 3 ∨ s.size = 4) with h | h | h | h
 ·exact reck_1 s w h R hR
 ·exact reck_2 s w h R hR
 ·exact reck_3 s w h R hR
 ·exact reck_4 s w h R hR
theorem reckS_bd (s : ByteArray) : -67108864 ≤ reckS s ∧ reckS s ≤ 67108864 := by
 have h0 := byN_lt s 0
 have h1 := byN_lt s 1
 have h2 := byN_lt s 2
 have h3 := byN_lt s 3
 unfold reckS
 simp only []
 repeat' split
 all_goals omega
def beginsB (n : Int) (p : ByteArray) : Bool := decide (p.size < (encS n).size) && (((encS n).extract 0 p.size).toList == p.toList)
theorem begins_calls (n : Int) (p : ByteArray) (w : World) (h1 : -67108864 ≤ n) (h2 : n ≤ 67108864) (hp : p.size ≤ maxLen) (R : Ending → World → Prop)
  (hR : Hid (∀ w', Below w.heap.size w w' → R (.returned (.bool (beginsB n p))) w')) : Calls Tryz.prog 282 #[.int .i64 n, .string p] w R := by
 unfold maxLen at hp
 have hE : beginsB n p = (decide (p.size < (encS n).size) && (((encS n).extract 0 p.size).toList == p.toList)) := rfl
 replace hE := Lib.hid hE
 have hz : (encS n).size ≤ 4 := by
  unfold encS; rw [strOfNums_size]; unfold encL; repeat' split
  all_goals simp
 generalize he : encS n = e at *
 replace he := Lib.hid he
 by_cases hlt : p.size < e.size
 ·go_enter Tryz.func282, Tryz.ntmps282
  go_wp2_with fail
  refine ref_calls _ _ _ (fun w1 hb1 => ?_)
  rw [he.out]
  go_wp2_with fail
  exact retB (hR.out _ hb1) (by rw [hE.out]; simp [hlt])
 ·go_enter Tryz.func282, Tryz.ntmps282
  go_wp2_with fail
  refine ref_calls _ _ _ (fun w1 hb1 => ?_)
  rw [he.out]
  go_wp2_with fail
  exact retB (hR.out _ hb1) (by rw [hE.out]; simp [hlt])
def extB (p : ByteArray) (c : Int) : Nat → ByteArray
 | 0 => p
 | j + 1 => extB p c j ++ strOfNums [c]
def leftGo (p : ByteArray) : Nat → Nat → Bool
 | 0, _ => false
 | k + 1, i => (decide (0 < min i (4 - p.size)) && (beginsB (reckS (extB p 128 (min i (4 - p.size)))) p || beginsB (reckS (extB p 191 (min i (4 - p.size)))) p)) || leftGo p k (i + 1)
def leftS (p : ByteArray) : Bool := leftGo p 4 0
theorem left_calls (p : ByteArray) (w : World) (hp1 : 1 ≤ p.size) (hp : p.size ≤ 3) (R : Ending → World → Prop)
    (hR : Hid (∀ w', Below w.heap.size w w' → R (.returned (.bool (leftS p))) w')) : Calls Tryz.prog 235 #[.string p] w R := by
  have cv := cvB
  have z1 : (strOfNums [128]).size = 1 := by rw [strOfNums_size]; rfl
  have z2 : (strOfNums [191]).size = 1 := by rw [strOfNums_size]; rfl
  go_enter Tryz.func235, Tryz.ntmps235
  go_wp2_with fail
  go_loopg [3, 4, 5] 4 (fun k a z i wr => ∃ (I : Nat) (A Z : ByteArray), Below w.heap.size w wr ∧ a = .string A ∧ z = .string Z ∧ i = .int .i64 I ∧ I + k = 4 ∧ A.size = p.size + min I (4 - p.size) ∧ Z.size = p.size + min I (4 - p.size) ∧
    Hid (A = extB p 128 (min I (4 - p.size)) ∧ Z = extB p 191 (min I (4 - p.size)) ∧ leftGo p k I = leftS p))
  case atStart => exact ⟨0, p, p, Below.refl _ _, rfl, rfl, rfl, by omega, by omega, by omega, by rw [Nat.zero_min]; exact ⟨rfl, rfl, rfl⟩⟩
  case round =>
    obtain ⟨I, A, Z, hbel, rfl, rfl, rfl, c1, c2, c3, c4⟩ := hrel
    have hsz := hbel.size
    obtain ⟨m, hm⟩ : ∃ m, m = min I (4 - p.size) := ⟨_, rfl⟩
    rw [← hm] at c2 c3 c4
    obtain ⟨q4, q5, q6⟩ := c4.out
    clear c4
    replace q4 := Lib.hid q4
    replace q5 := Lib.hid q5
    by_cases hI : I < 4
    · obtain ⟨k, rfl⟩ : ∃ k, gk = k + 1 := ⟨gk - 1, by omega⟩
      rw [leftGo, ← hm, ← q4.out, ← q5.out] at q6
      by_cases hI0 : I = 0
      · subst hI0
        obtain rfl : m = 0 := by omega
        replace q6 := Lib.hid q6
        replace hm := Lib.hid hm
        go_wp2_with fail
        go_roundg k
        case measure => omega
        case rel =>
          have e : min 1 (4 - p.size) = 1 := by omega
          exact ⟨1, _, _, ((hbel.alloc hsz _).alloc (by simp; omega) _), rfl, rfl, rfl, by omega, by rw [ByteArray.size_append, z1, e]; omega, by rw [ByteArray.size_append, z2, e]; omega, by
            rw [e]; exact ⟨by rw [q4.out]; rfl, by rw [q5.out]; rfl, by rw [← q6.out]; simp⟩⟩
      · have hm0 : 0 < m := by omega
        have hm4 : p.size + m ≤ 4 := by omega
        have hnx : min (I + 1) (4 - p.size) = if p.size + m < 4 then m + 1 else m := by split <;> omega
        replace hnx := Lib.hid hnx
        replace hm := Lib.hid hm
        rw [show decide (0 < m) = true by simpa using hm0, Bool.true_and] at q6
        have bA := reckS_bd A
        have bZ := reckS_bd Z
        have hp' : p.size ≤ maxLen := by unfold maxLen; omega
        have lA : 1 ≤ A.size ∧ A.size ≤ 4 := by omega
        have lZ : 1 ≤ Z.size ∧ Z.size ≤ 4 := by omega
        by_cases hA4 : p.size + m < 4
        all_goals
          go_wp2_with fail
          refine reck_calls _ _ lA.1 lA.2 _ (fun w1 hb1 => ?_)
          go_wp2_with fail
          refine begins_calls _ _ _ bA.1 bA.2 hp' _ (fun w2 hb2 => ?_)
          have hbel2 := (hbel.trans (hb1.mono hsz)).trans (hb2.mono (Nat.le_trans hsz hb1.size))
          have hsz2 := hbel2.size
          cases hB1 : beginsB (reckS A) p
          rotate_left
          · rw [hB1] at q6
            have e : true = leftS p := by rw [← q6]; simp
            replace e := Lib.hid e
            clear q6 hB1
            go_wp2_with fail
            exact retB (hR.out _ hbel2) e.out.symm
          rw [hB1, Bool.false_or] at q6
          replace q6 := Lib.hid q6
          clear hB1
          go_wp2_with fail
          refine reck_calls _ _ lZ.1 lZ.2 _ (fun w3 hb3 => ?_)
          go_wp2_with fail
          refine begins_calls _ _ _ bZ.1 bZ.2 hp' _ (fun w4 hb4 => ?_)
          have hbel4 := (hbel2.trans (hb3.mono hsz2)).trans (hb4.mono (Nat.le_trans hsz2 hb3.size))
          have hsz4 := hbel4.size
          replace q6 := q6.out
          cases hB2 : beginsB (reckS Z) p
          rotate_left
          · rw [hB2] at q6
            have e : true = leftS p := by rw [← q6]; simp
            replace e := Lib.hid e
            clear q6 hB2
            go_wp2_with fail
            exact retB (hR.out _ hbel4) e.out.symm
          rw [hB2, Bool.false_or] at q6
          replace q6 := Lib.hid q6
          clear hB2
          go_wp2_with fail
          go_roundg k
          case measure => omega
          case rel =>
            have e := hnx.out
            first
              | (rw [if_pos hA4] at e
                 exact ⟨I + 1, _, _, ((hbel4.alloc hsz4 _).alloc (by simp; omega) _), rfl, rfl, by go_num, by omega, by rw [ByteArray.size_append, z1, e]; omega, by rw [ByteArray.size_append, z2, e]; omega, by
                   rw [e]; exact ⟨by rw [q4.out]; rfl, by rw [q5.out]; rfl, q6.out⟩⟩)
              | (rw [if_neg hA4] at e
                 exact ⟨I + 1, _, _, hbel4, rfl, rfl, by go_num, by omega, by rw [e]; omega, by rw [e]; omega, by
                   rw [e]; exact ⟨q4.out, q5.out, q6.out⟩⟩)
    · have e : false = leftS p := by rw [← q6]; obtain rfl : gk = 0 := by omega
                                     rfl
      replace e := Lib.hid e
      clear q6
      replace hm := Lib.hid hm
      go_wp2_with fail
      exact retB (hR.out _ hbel) e.out.symm
def eqB (a b : ByteArray) : Bool := a.toList == b.toList
def refFind (t : ByteArray) : Nat → Nat → Option (Int × Nat)
 | 0, _ => none
 | k + 1, n => if n < 5 ∧ n ≤ t.size then
   (if scalarB (reckS (t.extract 0 n)) && (encS (reckS (t.extract 0 n))).toList == (t.extract 0 n).toList then some (reckS (t.extract 0 n), n) else refFind t k (n + 1)) else none
def refMany (t : ByteArray) : Nat → Nat → Nat → Nat
 | 0, _, m => m
 | k + 1, n, m => if n < 4 ∧ n ≤ t.size then refMany t k (n + 1) (if leftS (t.extract 0 n) then n else m) else m
def decR (s : ByteArray) (i : Int) : Int × Int × Bool :=
 if i < 0 ∨ (s.size : Int) ≤ i then (0, 0, false)
 else match refFind (s.extract i.toNat s.size) 4 1 with
  | some (r, n) => (r, n, true)
  | none => (0, refMany (s.extract i.toNat s.size) 3 2 1, false)
theorem refdec_in (s : ByteArray) (i : Nat) (w : World) (hs : s.size ≤ maxLen) (hi : i < s.size) (R : Ending → World → Prop)
  (hR : Hid (∀ w', Below w.heap.size w w' → R (.returned (.tuple #[.int .i32 (decR s i).1, .int .i64 (decR s i).2.1, .bool (decR s i).2.2])) w')) :
  Calls Tryz.prog 137 #[.string s, .int .i64 i] w R := by
 have hD : decR s i = match refFind (s.extract i s.size) 4 1 with
  | some (r, n) => (r, (n : Int), true)
  | none => (0, (refMany (s.extract i s.size) 3 2 1 : Int), false) := by unfold decR; rw [if_neg (by omega)]; rfl
 have htz : (s.extract i s.size).size = s.size - i := by rw [ByteArray.size_extract]; omega
 replace hD := Lib.hid hD
 unfold maxLen at hs
 have hd1 : decide (s.size ≤ i) = false := by simp; omega
 go_enter Tryz.func137, Tryz.ntmps137
 go_wp2_with fail
 go_loopg [7] 4 (fun k n wr => ∃ (N : Nat), Below w.heap.size w wr ∧ n = .int .i64 N ∧ N + k = 5 ∧ 1 ≤ N ∧ Hid (refFind (s.extract i s.size) k N = refFind (s.extract i s.size) 4 1))
 case atStart => exact ⟨1, Below.refl _ _, rfl, by omega, by omega, rfl⟩
 case round =>
  obtain ⟨N, hbel, rfl, c1, c2, c3⟩ := hrel
  have hsz := hbel.size
  by_cases hN : N < 5 ∧ N ≤ s.size - i
  ·obtain ⟨k, rfl⟩ : ∃ k, gk = k + 1 := ⟨gk - 1, by omega⟩
   have hp : ((s.extract i s.size).extract 0 N).size = N := by rw [ByteArray.size_extract]; omega
   have hr := reckS_bd ((s.extract i s.size).extract 0 N)
   have lp : 1 ≤ ((s.extract i s.size).extract 0 N).size ∧ ((s.extract i s.size).extract 0 N).size ≤ 4 := by omega
   replace hp := Lib.hid hp
   replace lp := Lib.hid lp
   obtain ⟨n1, n2⟩ := hN
   have e := c3.out
   rw [refFind, if_pos ⟨n1, by omega⟩] at e
   have e := Lib.hid e
   clear c3
   have e := e.out
   by_cases hsc : scalarB (reckS ((s.extract i s.size).extract 0 N)) = true
   ·cases hq : ((encS (reckS ((s.extract i s.size).extract 0 N))).toList == ((s.extract i s.size).extract 0 N).toList)
    all_goals
     rw [hsc, hq] at e
     simp only [Bool.true_and, Bool.false_eq_true, if_true, if_false] at e
     replace e := Lib.hid e
     go_wp2_with fail
     refine reck_calls _ _ lp.out.1 lp.out.2 _ (fun w1 hb1 => ?_)
     go_wp2_with fail
     have hb := hbel.trans (hb1.mono hsz)
     have hbz := hb.size
     go_region_held3 (fun w' => Below w.heap.size w w') (first | exact hb.drew | exact Below.trans (by assumption) (Below.mono (by assumption) (Below.size (by assumption))) | trace_state) (first | (go_at_call 233; refine scalar2_calls _ _ _ ?_; rw [hsc]) | (go_at_call 234; refine ref_calls _ _ _ (fun w2 hb2 => ?_)))
    ·go_wp2_with fail
     go_roundg k
     case measure => omega
     case rel => exact ⟨N + 1, by assumption, by go_num, by omega, by omega, e.out⟩
    ·go_wp2_with fail
     go_ret3
     have e2 := hD.out
     rw [← e.out] at e2
     exact ret3e (hR.out _ (by assumption)) e2.symm
   ·have hsc : scalarB (reckS ((s.extract i s.size).extract 0 N)) = false := by simpa using hsc
    rw [hsc] at e
    simp only [Bool.false_and, Bool.false_eq_true, if_false] at e
    replace e := Lib.hid e
    go_wp2_with fail
    refine reck_calls _ _ lp.out.1 lp.out.2 _ (fun w1 hb1 => ?_)
    go_wp2_with fail
    have hb := hbel.trans (hb1.mono hsz)
    have hbz := hb.size
    go_quiet ((go_at_call 233; exact Calls.quiet_of_same (scalar2_calls _ _ _ ⟨by rw [hsc], rfl⟩)))
    go_wp2_with fail
    go_roundg k
    case measure => omega
    case rel => exact ⟨N + 1, below_drewN hb _, by go_num, by omega, by omega, e.out⟩
  ·have e : refFind (s.extract i s.size) gk N = none := by cases gk <;> simp [refFind]; omega
   have e2 := hD.out
   rw [← c3.out, e] at e2
   clear e
   replace e2 := Lib.hid e2
   clear c3 hD
   have hN1 : N = 5 ∨ N < 5 ∧ s.size - i < N := by omega
   go_wp2_with fail
   all_goals
    go_loopg [9, 10] 3 (fun k m n wq => ∃ (M N2 : Nat), Below w.heap.size w wq ∧ m = .int .i64 M ∧ n = .int .i64 N2 ∧ N2 + k = 5 ∧ 2 ≤ N2 ∧ Hid (refMany (s.extract i s.size) k N2 M = refMany (s.extract i s.size) 3 2 1))
    case atStart => exact ⟨1, 2, hbel, rfl, rfl, by omega, by omega, rfl⟩
    case round =>
     obtain ⟨M, N2, hbq, rfl, rfl, m1, m2, m3⟩ := hrel
     have hsq := hbq.size
     by_cases hN2 : N2 < 4 ∧ N2 ≤ s.size - i
     ·obtain ⟨k, rfl⟩ : ∃ k, gk = k + 1 := ⟨gk - 1, by omega⟩
      have hp : 1 ≤ ((s.extract i s.size).extract 0 N2).size ∧ ((s.extract i s.size).extract 0 N2).size ≤ 3 := by rw [ByteArray.size_extract]; omega
      replace hp := Lib.hid hp
      obtain ⟨n1, n2⟩ := hN2
      have e := m3.out
      rw [refMany, if_pos ⟨n1, by omega⟩] at e
      clear m3
      go_wp2_with fail
      refine left_calls _ _ hp.out.1 hp.out.2 _ (fun w1 hb1 => ?_)
      have hb := hbq.trans (hb1.mono hsq)
      cases hq : leftS ((s.extract i s.size).extract 0 N2)
      all_goals
       rw [hq] at e
       simp only [Bool.false_eq_true, if_true, if_false] at e
       replace e := Lib.hid e
       clear hq
       go_wp2_with fail
       go_roundg k
       case measure => omega
       case rel => exact ⟨_, N2 + 1, hb, rfl, by go_num, by omega, by omega, e.out⟩
     ·have e : refMany (s.extract i s.size) gk N2 M = M := by cases gk <;> simp [refMany]; omega
      have e3 := e2.out
      rw [← m3.out, e] at e3
      clear e m3
      replace e3 := Lib.hid e3
      have hN2' : N2 = 4 ∨ N2 = 5 ∨ N2 < 4 ∧ s.size - i < N2 := by omega
      go_wp2_with fail
      all_goals
       go_ret3
       exact ret3e (hR.out _ hbq) e3.out.symm
theorem refdec_calls (s : ByteArray) (i : Int) (w : World) (hs : s.size ≤ maxLen) (R : Ending → World → Prop)
  (hR : Hid (∀ w', Below w.heap.size w w' → R (.returned (.tuple #[.int .i32 (decR s i).1, .int .i64 (decR s i).2.1, .bool (decR s i).2.2])) w')) :
  Calls Tryz.prog 137 #[.string s, .int .i64 i] w R := by
 by_cases h : i < 0 ∨ (s.size : Int) ≤ i
 ·have hD : (0, 0, false) = decR s i := by unfold decR; rw [if_pos h]
  replace hD := Lib.hid hD
  unfold maxLen at hs
  rcases h with h | h
  all_goals
   go_enter Tryz.func137, Tryz.ntmps137
   go_wp2_with fail
   all_goals
    go_ret3
    exact ret3e (hR.out _ (Below.refl _ _)) hD.out
 ·obtain ⟨j, rfl⟩ := Int.eq_ofNat_of_zero_le (by omega : 0 ≤ i)
  exact refdec_in s j w hs (by omega) R hR
end Go.Proofs.YtncijmodlhijoaaGreat.Utf
