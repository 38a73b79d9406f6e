/- Contracts of the reference's reckoned and begins. -/
import Derived.Test.YtikcblnemdbjnaaUtfD
set_option linter.unusedVariables false
namespace Go.Proofs.Ytikcblnemdbjnaa.Utf
open Go.RowKit Go.Lib

def reckS (s : ByteArray) : Int :=
  let x (i : Nat) : Int := (byN s i : Int) - 128
  if s.size = 1 then x 0 + 128
  else if s.size = 2 then (x 0 - 64) * 64 + x 1
  else if s.size = 3 then (x 0 - 96) * 4096 + x 1 * 64 + x 2
  else (x 0 - 112) * 262144 + x 1 * 4096 + x 2 * 64 + x 3

set_option maxRecDepth 100000 in
theorem reck_1 (s : ByteArray) (w : World) (hs : s.size = 1) (R : Ending → World → Prop)
    (hR : Hid (∀ w', Below w.heap.size w w' → R (.returned (.int .i64 (reckS s))) w')) : Calls Try.prog 36 #[.string s] w R := by
  have hE : reckS s = (byN s 0 : Int) := by unfold reckS; rw [if_pos hs]; simp only []; omega
  replace hE := Lib.hid hE
  have hb := byN_get s
  have h0 := byN_lt s 0
  go_enter Try.func36, Try.ntmps36
  go_wp2_with fail
  refine wp_loop_rounds 2 ?_
  rw [rounds_succ]
  go_wp2_with fail
  rw [rounds_succ]
  go_wp2_with fail
  exact retI (hR.out _ ((Below.refl _ _).alloc (Nat.le_refl _) _)) (by rw [hE.out]; try omega)
set_option maxRecDepth 100000 in
theorem reck_2 (s : ByteArray) (w : World) (hs : s.size = 2) (R : Ending → World → Prop)
    (hR : Hid (∀ w', Below w.heap.size w w' → R (.returned (.int .i64 (reckS s))) w')) : Calls Try.prog 36 #[.string s] w R := by
  have hE : reckS s = ((byN s 0 : Int) - 128 - 64) * 64 + ((byN s 1 : Int) - 128) := by unfold reckS; rw [if_neg (by omega), if_pos hs]
  replace hE := Lib.hid hE
  have hb := byN_get s
  have h0 := byN_lt s 0
  have h1 := byN_lt s 1
  go_enter Try.func36, Try.ntmps36
  go_wp2_with fail
  refine wp_loop_rounds 3 ?_
  rw [rounds_succ]
  go_wp2_with fail
  rw [rounds_succ]
  go_wp2_with fail
  rw [rounds_succ]
  go_wp2_with fail
  exact retI (hR.out _ ((Below.refl _ _).alloc (Nat.le_refl _) _)) (by rw [hE.out]; try omega)
set_option maxRecDepth 100000 in
theorem reck_3 (s : ByteArray) (w : World) (hs : s.size = 3) (R : Ending → World → Prop)
    (hR : Hid (∀ w', Below w.heap.size w w' → R (.returned (.int .i64 (reckS s))) w')) : Calls Try.prog 36 #[.string s] w R := by
  have hE : reckS s = ((byN s 0 : Int) - 128 - 96) * 4096 + ((byN s 1 : Int) - 128) * 64 + ((byN s 2 : Int) - 128) := by unfold reckS; rw [if_neg (by omega), if_neg (by omega), if_pos hs]
  replace hE := Lib.hid hE
  have hb := byN_get s
  have h0 := byN_lt s 0
  have h1 := byN_lt s 1
  have h2 := byN_lt s 2
  go_enter Try.func36, Try.ntmps36
  go_wp2_with fail
  refine wp_loop_rounds 4 ?_
  rw [rounds_succ]
  go_wp2_with fail
  rw [rounds_succ]
  go_wp2_with fail
  rw [rounds_succ]
  go_wp2_with fail
  rw [rounds_succ]
  go_wp2_with fail
  exact retI (hR.out _ ((Below.refl _ _).alloc (Nat.le_refl _) _)) (by rw [hE.out]; try omega)
set_option maxRecDepth 100000 in
theorem reck_4 (s : ByteArray) (w : World) (hs : s.size = 4) (R : Ending → World → Prop)
    (hR : Hid (∀ w', Below w.heap.size w w' → R (.returned (.int .i64 (reckS s))) w')) : Calls Try.prog 36 #[.string s] w R := by
  have hE : reckS s = ((byN s 0 : Int) - 128 - 112) * 262144 + ((byN s 1 : Int) - 128) * 4096 + ((byN s 2 : Int) - 128) * 64 + ((byN s 3 : Int) - 128) := by unfold reckS; rw [if_neg (by omega), if_neg (by omega), if_neg (by omega)]
  replace hE := Lib.hid hE
  have hb := byN_get s
  have h0 := byN_lt s 0
  have h1 := byN_lt s 1
  have h2 := byN_lt s 2
  have h3 := byN_lt s 3
  go_enter Try.func36, Try.ntmps36
  go_wp2_with fail
  refine wp_loop_rounds 5 ?_
  rw [rounds_succ]
  go_wp2_with fail
  rw [rounds_succ]
  go_wp2_with fail
  rw [rounds_succ]
  go_wp2_with fail
  rw [rounds_succ]
  go_wp2_with fail
  rw [rounds_succ]
  go_wp2_with fail
  exact retI (hR.out _ ((Below.refl _ _).alloc (Nat.le_refl _) _)) (by rw [hE.out]; try omega)
theorem reck_calls (s : ByteArray) (w : World) (h1 : 1 ≤ s.size) (h4 : s.size ≤ 4) (R : Ending → World → Prop)
    (hR : Hid (∀ w', Below w.heap.size w w' → R (.returned (.int .i64 (reckS s))) w')) : Calls Try.prog 36 #[.string s] w R := by
  rcases (by omega : s.size = 1 ∨ s.size = 2 ∨ s.size = 3 ∨ s.size = 4) with h | h | h | h
  · exact reck_1 s w h R hR
  · exact reck_2 s w h R hR
  · exact reck_3 s w h R hR
  · exact reck_4 s w h R hR
theorem reckS_bd (s : ByteArray) : -67108864 ≤ reckS s ∧ reckS s ≤ 67108864 := by
  have h0 := byN_lt s 0
  have h1 := byN_lt s 1
  have h2 := byN_lt s 2
  have h3 := byN_lt s 3
  unfold reckS
  simp only []
  repeat' split
  all_goals omega

def beginsB (n : Int) (p : ByteArray) : Bool := decide (p.size < (encS n).size) && (((encS n).extract 0 p.size).toList == p.toList)

theorem begins_calls (n : Int) (p : ByteArray) (w : World) (h1 : -67108864 ≤ n) (h2 : n ≤ 67108864) (hp : p.size ≤ maxLen) (R : Ending → World → Prop)
    (hR : Hid (∀ w', Below w.heap.size w w' → R (.returned (.bool (beginsB n p))) w')) : Calls Try.prog 50 #[.int .i64 n, .string p] w R := by
  unfold maxLen at hp
  have hE : beginsB n p = (decide (p.size < (encS n).size) && (((encS n).extract 0 p.size).toList == p.toList)) := rfl
  replace hE := Lib.hid hE
  have hz : (encS n).size ≤ 4 := by
    unfold encS; rw [strOfNums_size]; unfold encL; repeat' split
    all_goals simp
  generalize he : encS n = e at *
  replace he := Lib.hid he
  by_cases hlt : p.size < e.size
  · go_enter Try.func50, Try.ntmps50
    go_wp2_with fail
    refine ref_calls _ _ _ (fun w1 hb1 => ?_)
    rw [he.out]
    go_wp2_with fail
    exact retB (hR.out _ hb1) (by rw [hE.out]; simp [hlt])
  · go_enter Try.func50, Try.ntmps50
    go_wp2_with fail
    refine ref_calls _ _ _ (fun w1 hb1 => ?_)
    rw [he.out]
    go_wp2_with fail
    exact retB (hR.out _ hb1) (by rw [hE.out]; simp [hlt])

/-- p, followed by j bytes c. -/
def extB (p : ByteArray) (c : Int) : Nat → ByteArray
  | 0 => p
  | j + 1 => extB p c j ++ strOfNums [c]
theorem extB_size (p : ByteArray) (c : Int) (j : Nat) : (extB p c j).size = p.size + j := by
  induction j with
  | zero => rfl
  | succ j ih => rw [extB, ByteArray.size_append, ih, strOfNums_size]; simp; omega
def leftGo (p : ByteArray) : Nat → Nat → Bool
  | 0, _ => false
  | k + 1, i => (decide (0 < min i (4 - p.size)) && (beginsB (reckS (extB p 128 (min i (4 - p.size)))) p || beginsB (reckS (extB p 191 (min i (4 - p.size)))) p)) || leftGo p k (i + 1)
def leftS (p : ByteArray) : Bool := leftGo p 4 0

set_option maxRecDepth 100000 in
theorem left_calls (p : ByteArray) (w : World) (hp1 : 1 ≤ p.size) (hp : p.size ≤ 3) (R : Ending → World → Prop)
    (hR : Hid (∀ w', Below w.heap.size w w' → R (.returned (.bool (leftS p))) w')) : Calls Try.prog 37 #[.string p] w R := by
  have cv := cvB
  have z1 : (strOfNums [128]).size = 1 := by rw [strOfNums_size]; rfl
  have z2 : (strOfNums [191]).size = 1 := by rw [strOfNums_size]; rfl
  go_enter Try.func37, Try.ntmps37
  go_wp2_with fail
  go_loopg [3, 4, 5] 4 (fun k a z i wr => ∃ (I : Nat) (A Z : ByteArray), Below w.heap.size w wr ∧ a = .string A ∧ z = .string Z ∧ i = .int .i64 I ∧ I + k = 4 ∧ A.size = p.size + min I (4 - p.size) ∧ Z.size = p.size + min I (4 - p.size) ∧
    Hid (A = extB p 128 (min I (4 - p.size)) ∧ Z = extB p 191 (min I (4 - p.size)) ∧ leftGo p k I = leftS p))
  case atStart => exact ⟨0, p, p, Below.refl _ _, rfl, rfl, rfl, by omega, by omega, by omega, by rw [Nat.zero_min]; exact ⟨rfl, rfl, rfl⟩⟩
  case round =>
    obtain ⟨I, A, Z, hbel, rfl, rfl, rfl, c1, c2, c3, c4⟩ := hrel
    have hsz := hbel.size
    obtain ⟨m, hm⟩ : ∃ m, m = min I (4 - p.size) := ⟨_, rfl⟩
    rw [← hm] at c2 c3 c4
    obtain ⟨q4, q5, q6⟩ := c4.out
    clear c4
    replace q4 := Lib.hid q4
    replace q5 := Lib.hid q5
    by_cases hI : I < 4
    · obtain ⟨k, rfl⟩ : ∃ k, gk = k + 1 := ⟨gk - 1, by omega⟩
      rw [leftGo, ← hm, ← q4.out, ← q5.out] at q6
      by_cases hI0 : I = 0
      · subst hI0
        obtain rfl : m = 0 := by omega
        replace q6 := Lib.hid q6
        replace hm := Lib.hid hm
        go_wp2_with fail
        go_roundg k
        case measure => omega
        case rel =>
          have e : min 1 (4 - p.size) = 1 := by omega
          exact ⟨1, _, _, ((hbel.alloc hsz _).alloc (by simp; omega) _), rfl, rfl, rfl, by omega, by rw [ByteArray.size_append, z1, e]; omega, by rw [ByteArray.size_append, z2, e]; omega, by
            rw [e]; exact ⟨by rw [q4.out]; rfl, by rw [q5.out]; rfl, by rw [← q6.out]; simp⟩⟩
      · have hm0 : 0 < m := by omega
        have hm4 : p.size + m ≤ 4 := by omega
        have hnx : min (I + 1) (4 - p.size) = if p.size + m < 4 then m + 1 else m := by split <;> omega
        replace hnx := Lib.hid hnx
        replace hm := Lib.hid hm
        rw [show decide (0 < m) = true by simpa using hm0, Bool.true_and] at q6
        have bA := reckS_bd A
        have bZ := reckS_bd Z
        have hp' : p.size ≤ maxLen := by unfold maxLen; omega
        have lA : 1 ≤ A.size ∧ A.size ≤ 4 := by omega
        have lZ : 1 ≤ Z.size ∧ Z.size ≤ 4 := by omega
        by_cases hA4 : p.size + m < 4
        all_goals
          go_wp2_with fail
          refine reck_calls _ _ lA.1 lA.2 _ (fun w1 hb1 => ?_)
          go_wp2_with fail
          refine begins_calls _ _ _ bA.1 bA.2 hp' _ (fun w2 hb2 => ?_)
          have hbel2 := (hbel.trans (hb1.mono hsz)).trans (hb2.mono (Nat.le_trans hsz hb1.size))
          have hsz2 := hbel2.size
          cases hB1 : beginsB (reckS A) p
          rotate_left
          · rw [hB1] at q6
            have e : true = leftS p := by rw [← q6]; simp
            replace e := Lib.hid e
            clear q6 hB1
            go_wp2_with fail
            exact retB (hR.out _ hbel2) e.out.symm
          rw [hB1, Bool.false_or] at q6
          replace q6 := Lib.hid q6
          clear hB1
          go_wp2_with fail
          refine reck_calls _ _ lZ.1 lZ.2 _ (fun w3 hb3 => ?_)
          go_wp2_with fail
          refine begins_calls _ _ _ bZ.1 bZ.2 hp' _ (fun w4 hb4 => ?_)
          have hbel4 := (hbel2.trans (hb3.mono hsz2)).trans (hb4.mono (Nat.le_trans hsz2 hb3.size))
          have hsz4 := hbel4.size
          replace q6 := q6.out
          cases hB2 : beginsB (reckS Z) p
          rotate_left
          · rw [hB2] at q6
            have e : true = leftS p := by rw [← q6]; simp
            replace e := Lib.hid e
            clear q6 hB2
            go_wp2_with fail
            exact retB (hR.out _ hbel4) e.out.symm
          rw [hB2, Bool.false_or] at q6
          replace q6 := Lib.hid q6
          clear hB2
          go_wp2_with fail
          go_roundg k
          case measure => omega
          case rel =>
            have e := hnx.out
            first
              | (rw [if_pos hA4] at e
                 exact ⟨I + 1, _, _, ((hbel4.alloc hsz4 _).alloc (by simp; omega) _), rfl, rfl, by go_num, by omega, by rw [ByteArray.size_append, z1, e]; omega, by rw [ByteArray.size_append, z2, e]; omega, by
                   rw [e]; exact ⟨by rw [q4.out]; rfl, by rw [q5.out]; rfl, q6.out⟩⟩)
              | (rw [if_neg hA4] at e
                 exact ⟨I + 1, _, _, hbel4, rfl, rfl, by go_num, by omega, by rw [e]; omega, by rw [e]; omega, by
                   rw [e]; exact ⟨q4.out, q5.out, q6.out⟩⟩)
    · have e : false = leftS p := by rw [← q6]; obtain rfl : gk = 0 := by omega
                                     rfl
      replace e := Lib.hid e
      clear q6
      replace hm := Lib.hid hm
      go_wp2_with fail
      exact retB (hR.out _ hbel) e.out.symm
end Go.Proofs.Ytikcblnemdbjnaa.Utf
