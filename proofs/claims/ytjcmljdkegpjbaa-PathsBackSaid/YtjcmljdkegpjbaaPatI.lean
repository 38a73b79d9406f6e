/- The code's takeNamed, takeBracketed, take. -/
import Derived.Test.YtjcmljdkegpjbaaPatD
import Derived.Test.YtjcmljdkegpjbaaDigC
import Derived.Test.YtjcmljdkegpjbaaPatF
set_option linter.unusedVariables false
namespace Go.Proofs.Ytjcmljdkegpjbaa.Pat
open Go.RowKit Go.Lib Go.Proofs.Ytjcmljdkegpjbaa.Utf Go.Proofs.Ytjcmljdkegpjbaa.Nam Go.Proofs.Ytjcmljdkegpjbaa.Dig

/-- What takeNamed hands back. -/
def nmS (s : ByteArray) (k : Nat) (kind : Int) : St × Int × Int × Int :=
  if sigS s k < 1 ∨ 32 < sigS s k then ((0, 0, ⟨#[]⟩), 0, 9, (k : Int)) else ((kind, 0, s.extract k (k + sigS s k)), ((k + sigS s k : Nat) : Int), 0, 0)
theorem taks_any (s : ByteArray) (k : Nat) : (takS s k).1 = s.extract k (k + sigS s k) ∧ (sigS s k ≠ 0 → (takS s k).2 = ((k + sigS s k : Nat) : Int)) := by
  by_cases h : k < s.size
  · rw [takS_nat h]; exact ⟨rfl, fun _ => rfl⟩
  · unfold takS
    rw [if_neg (by omega), sig_zero (by omega)]
    refine ⟨?_, fun h => absurd rfl h⟩
    rw [Nat.add_zero]
    exact (size0 (by rw [ByteArray.size_extract]; omega)).symm
theorem right_cut_not {s : ByteArray} {k : Nat} (h : sigS s k < 1 ∨ 32 < sigS s k) (hk : k ≤ s.size) : rightS (s.extract k (k + sigS s k)) = false := by
  cases hb : rightS (s.extract k (k + sigS s k))
  · rfl
  · have h1 := rightS_pos hb
    have h2 := sig_le (s := s) (j := k) hk
    rw [ByteArray.size_extract] at h1
    omega
set_option maxRecDepth 100000 in
set_option maxHeartbeats 2000000 in
theorem named_calls (s : ByteArray) (k : Nat) (kind : Int) (hk : k ≤ s.size) (hs : s.size ≤ 1000000) (w : World) (R : Ending → World → Prop)
    (hR : Hid (∀ w', Below w.heap.size w w' → R (.returned (stT (nmS s k kind))) w')) : Calls Try.prog 30 #[.string s, .int .i64 k, .int .i64 kind] w R := by
  have cT := fun (W : World) R hR => take_calls s (k : Int) (by unfold maxLen; omega) W R hR
  obtain ⟨t1, t2⟩ := taks_any s k
  have cR := fun (W : World) R hR => right_calls (takS s k).1 (by rw [t1, ByteArray.size_extract]; unfold maxLen; omega) W R hR
  unfold nmS at hR
  by_cases h : sigS s k < 1 ∨ 32 < sigS s k
  · rw [if_pos h] at hR
    have hb := right_cut_not h hk
    rw [← t1] at hb
    rw [hb] at cR
    clear t1 t2 hb h
    generalize takS s k = T at *
    obtain ⟨nm, e⟩ := T
    simp only at cT cR
    replace cT := Lib.hid cT
    replace cR := Lib.hid cR
    go_enter Try.func30, Try.ntmps30
    go_wp2_with fail
    refine cT.out _ _ (Lib.hid ?_)
    go_wp2_with fail
    refine cR.out _ _ (Lib.hid ?_)
    go_wp2_with fail
    refine bodyPost_ret ?_ rfl (hR.out _ ?_)
    · simp [results, Try.results30, go_sem, stT, stV]
    · exact ((Below.refl w.heap.size w).alloc (Nat.le_refl _) _).alloc (by simp) _
  · rw [if_neg h] at hR
    have h1 : 0 < sigS s k := by omega
    obtain ⟨hb, -⟩ := right_cut h1 (by omega)
    rw [← t1] at hb
    have t3 := t2 (by omega)
    rw [← t1, ← t3] at hR
    rw [hb] at cR
    clear t1 t2 t3 hb h h1
    generalize takS s k = T at *
    obtain ⟨nm, e⟩ := T
    simp only at cT cR hR
    replace cT := Lib.hid cT
    replace cR := Lib.hid cR
    go_enter Try.func30, Try.ntmps30
    go_wp2_with fail
    refine cT.out _ _ (Lib.hid ?_)
    go_wp2_with fail
    refine cR.out _ _ (Lib.hid ?_)
    go_wp2_with fail
    refine bodyPost_ret ?_ rfl (hR.out _ ?_)
    · simp [results, Try.results30, go_sem, stT, stV]
    · exact ((Below.refl w.heap.size w).alloc (Nat.le_refl _) _).alloc (by simp) _

/-- What takeBracketed hands back, k the index behind the bracket. -/
def brS (s : ByteArray) (k : Nat) : St × Int × Int × Int :=
  if k < s.size ∧ byN s k = 93 then ((3, 0, ⟨#[]⟩), ((k + 1 : Nat) : Int), 0, 0)
  else if (tkN s k).2.2.1 ≠ 0 then ((0, 0, ⟨#[]⟩), 0, (tkN s k).2.2.1, (tkN s k).2.2.2)
  else if (tkN s k).1 < 0 then ((0, 0, ⟨#[]⟩), 0, 20, (k : Int))
  else if (s.size : Int) ≤ (tkN s k).2.1 ∨ byN s (tkN s k).2.1.toNat ≠ 93 then ((0, 0, ⟨#[]⟩), 0, 4, (tkN s k).2.1)
  else ((2, (tkN s k).1, ⟨#[]⟩), (tkN s k).2.1 + 1, 0, 0)
theorem pre_at {s : ByteArray} {k : Nat} (hk : k ≤ s.size) (c : Nat) : decide (1 ≤ (s.extract k s.size).size ∧ byN (s.extract k s.size) 0 = c) = decide (k < s.size ∧ byN s k = c) := by
  apply decide_eq_decide.2
  have hz : (s.extract k s.size).size = s.size - k := by rw [ByteArray.size_extract]; omega
  rw [hz]
  by_cases h : k < s.size
  · rw [byN_ext _ _ _ _ (by omega) (Nat.le_refl _), Nat.add_zero]
    exact ⟨fun q => ⟨h, q.2⟩, fun q => ⟨by omega, q.2⟩⟩
  · exact ⟨fun q => by omega, fun q => by omega⟩
theorem two_fin (w w1 : World) (n1 : Below ((w.alloc (.cells #[.int .i64 0, .int .i64 0, .string ⟨#[]⟩] 36)).alloc (.cells #[.int .i64 0, .int .i64 0] 26)).heap.size ((w.alloc (.cells #[.int .i64 0, .int .i64 0, .string ⟨#[]⟩] 36)).alloc (.cells #[.int .i64 0, .int .i64 0] 26)) w1) :
    (w1.cell? ⟨w.heap.size, 0, none⟩ = some (.int .i64 0) ∧ w1.cell? ⟨w.heap.size, 1, none⟩ = some (.int .i64 0) ∧ w1.cell? ⟨w.heap.size, 2, none⟩ = some (.string ⟨#[]⟩)) ∧
    (w1.cell? ⟨w.heap.size + 1, 0, none⟩ = some (.int .i64 0) ∧ w1.cell? ⟨w.heap.size + 1, 1, none⟩ = some (.int .i64 0)) ∧
    (∀ j, w1.frozen? ⟨w.heap.size, j, none⟩ = false) ∧ (∀ j, w1.frozen? ⟨w.heap.size + 1, j, none⟩ = false) ∧ w.heap.size + 1 < w1.heap.size ∧ Below w.heap.size w w1 := by
  have b1 := (Below.refl w.heap.size w).alloc (Nat.le_refl _) (.cells #[.int .i64 0, .int .i64 0, .string ⟨#[]⟩] 36)
  have b2 := b1.alloc b1.size (.cells #[.int .i64 0, .int .i64 0] 26)
  obtain ⟨h1, h2⟩ := two_heap w (.cells #[.int .i64 0, .int .i64 0, .string ⟨#[]⟩] 36) (.cells #[.int .i64 0, .int .i64 0] 26)
  have hs := n1.size
  have q1 := (n1.block w.heap.size (by simp; omega)).trans h1
  have q2 := (n1.block (w.heap.size + 1) (by simp)).trans h2
  refine ⟨⟨?_, ?_, ?_⟩, ⟨?_, ?_⟩, fun j => Lib.frozen_of_heap q1 j, fun j => Lib.frozen_of_heap q2 j, by simp at hs; omega, b2.trans (n1.mono (by simp; omega))⟩
  · rw [Lib.cell_of_heap q1]; rfl
  · rw [Lib.cell_of_heap q1]; rfl
  · rw [Lib.cell_of_heap q1]; rfl
  · rw [Lib.cell_of_heap q2]; rfl
  · rw [Lib.cell_of_heap q2]; rfl
/-- Behind the two stores of a fault. -/
theorem st_two (H : Nat) (w1 : World) (f z : Value) (r0 : w1.cell? ⟨H, 0, none⟩ = some (.int .i64 0)) (r1 : w1.cell? ⟨H, 1, none⟩ = some (.int .i64 0)) (r2 : w1.cell? ⟨H, 2, none⟩ = some (.string ⟨#[]⟩))
    (r3 : w1.cell? ⟨H + 1, 0, none⟩ = some (.int .i64 0)) (r4 : w1.cell? ⟨H + 1, 1, none⟩ = some (.int .i64 0)) :
    ((w1.setCell ⟨H + 1, 0, none⟩ f).setCell ⟨H + 1, 1, none⟩ z).cell? ⟨H, 0, none⟩ = some (.int .i64 0) ∧ ((w1.setCell ⟨H + 1, 0, none⟩ f).setCell ⟨H + 1, 1, none⟩ z).cell? ⟨H, 1, none⟩ = some (.int .i64 0) ∧
    ((w1.setCell ⟨H + 1, 0, none⟩ f).setCell ⟨H + 1, 1, none⟩ z).cell? ⟨H, 2, none⟩ = some (.string ⟨#[]⟩) ∧
    ((w1.setCell ⟨H + 1, 0, none⟩ f).setCell ⟨H + 1, 1, none⟩ z).cell? ⟨H + 1, 0, none⟩ = some f ∧ ((w1.setCell ⟨H + 1, 0, none⟩ f).setCell ⟨H + 1, 1, none⟩ z).cell? ⟨H + 1, 1, none⟩ = some z := by
  refine ⟨?_, ?_, ?_, ?_, ?_⟩
  · rw [World.cell?_setCell_far _ _ _ _ (by simp), World.cell?_setCell_far _ _ _ _ (by simp)]; exact r0
  · rw [World.cell?_setCell_far _ _ _ _ (by simp), World.cell?_setCell_far _ _ _ _ (by simp)]; exact r1
  · rw [World.cell?_setCell_far _ _ _ _ (by simp), World.cell?_setCell_far _ _ _ _ (by simp)]; exact r2
  · exact (World.cell?_setCell_other _ _ _ _ (by simp)).trans (World.cell?_setCell_same _ _ _ r3)
  · exact World.cell?_setCell_same _ _ _ ((World.cell?_setCell_other _ _ _ _ (by simp)).trans r4)
set_option maxRecDepth 100000 in
set_option maxHeartbeats 2000000 in
theorem brack_calls (s : ByteArray) (k : Nat) (hk : k ≤ s.size) (hs : s.size ≤ 1000000) (w : World) (R : Ending → World → Prop)
    (hR : Hid (∀ w', Below w.heap.size w w' → R (.returned (stT (brS s k))) w')) : Calls Try.prog 31 #[.string s, .int .i64 k] w R := by
  unfold brS at hR
  have cP := fun (j : Nat) (hj : j ≤ s.size) (W : World) R hR => hasprefix_calls 93 (s.extract j s.size) W (by rw [ByteArray.size_extract]; omega) R hR
  have cQ := fun (j : Nat) (hj : j ≤ s.size) => pre_at (s := s) (k := j) hj 93
  have cP0 := cP k hk
  have cQ0 := cQ k hk
  rw [show (93 : UInt8).toNat = 93 from rfl, cQ0] at cP0
  by_cases c1 : k < s.size ∧ byN s k = 93
  · rw [if_pos c1] at hR
    rw [decide_eq_true c1] at cP0
    replace cP0 := Lib.hid cP0
    clear cP cQ cQ0 c1
    go_enter Try.func31, Try.ntmps31
    go_wp2_with fail
    refine cP0.out _ _ (Lib.hid ?_)
    go_wp2_with fail
    refine bodyPost_ret ?_ rfl (hR.out _ ?_)
    · simp [results, Try.results31, go_sem, stT, stV]
    · exact ((Below.refl w.heap.size w).alloc (Nat.le_refl _) _).alloc (by simp) _
  · rw [if_neg c1] at hR
    rw [decide_eq_false c1] at cP0
    replace cP0 := Lib.hid cP0
    have ht : tkS s (k : Int) = tkN s k := by unfold tkS; rw [if_neg (by omega)]; rfl
    have cT := fun (W : World) R hR => Dig.take_calls s (k : Int) (by omega) W (by omega) R hR
    rw [ht] at cT
    have hT : (tkN s k).2.2.1 = 0 → ∃ e : Nat, (tkN s k).2.1 = e ∧ k < e ∧ e ≤ s.size := fun h => by
      obtain ⟨r, -, e2, -, -, e5⟩ := take_text (s := s) (i := k) hk h
      have := putL_len (tkN s k).1
      exact ⟨_, e2, by omega, e5⟩
    clear ht cQ0 c1
    generalize tkN s k = d at *
    obtain ⟨n, e, f, z⟩ := d
    simp only at hR hT
    unfold tkT at cT
    simp only at cT
    replace cT := Lib.hid cT
    have fin := Lib.hid (two_fin w)
    by_cases hf : f = 0
    · subst hf
      rw [if_neg (by decide)] at hR
      obtain ⟨E, rfl, hE1, hE2⟩ := hT rfl
      clear hT
      have cP1 := cP E hE2
      have cQ1 := cQ E hE2
      rw [show (93 : UInt8).toNat = 93 from rfl, cQ1] at cP1
      clear cP cQ cQ1
      rw [Int.toNat_natCast] at hR
      by_cases hn : n < 0
      · rw [if_pos hn] at hR
        clear cP1
        go_enter Try.func31, Try.ntmps31
        go_wp2_with fail
        refine cP0.out _ _ (Lib.hid ?_)
        go_wp2_with fail
        refine cT.out _ _ (Lib.hid fun w1 n1 => ?_)
        obtain ⟨⟨r0, r1, r2⟩, ⟨r3, r4⟩, r5, r6, r7, r8⟩ := fin.out w1 n1
        obtain ⟨s0, s1, s2, s3, s4⟩ := st_two w.heap.size w1 (.int .i64 0) (.int .i64 z) r0 r1 r2 r3 r4
        replace s0 := Lib.hid s0
        replace s1 := Lib.hid s1
        replace s2 := Lib.hid s2
        replace s3 := Lib.hid s3
        replace s4 := Lib.hid s4
        have nb := Lib.hid ((r8.setCell (p := ⟨w.heap.size + 1, 0, none⟩) (Nat.le_succ _) (.int .i64 0)).setCell (p := ⟨w.heap.size + 1, 1, none⟩) (Nat.le_succ _) (.int .i64 z))
        clear n1 r8
        go_wp2_with fail
        replace s0 := s0.out
        replace s1 := s1.out
        replace s2 := s2.out
        replace s3 := s3.out
        replace s4 := s4.out
        clear r0 r1 r2 r3 r4 r5 r6
        generalize (w1.setCell ⟨w.heap.size + 1, 0, none⟩ (.int .i64 0)).setCell ⟨w.heap.size + 1, 1, none⟩ (.int .i64 z) = W at *
        refine bodyPost_ret ?_ rfl (hR.out _ ?_)
        · simp [results, Try.results31, go_sem, stT, stV, s0, s1, s2, s3, s4]
        · exact five nb.out _ _ _ _ _
      · rw [if_neg hn] at hR
        by_cases hc : E < s.size ∧ byN s E = 93
        · rw [if_neg (by rintro (q | q) <;> omega)] at hR
          rw [decide_eq_true hc] at cP1
          replace cP1 := Lib.hid cP1
          clear hc
          go_enter Try.func31, Try.ntmps31
          go_wp2_with fail
          refine cP0.out _ _ (Lib.hid ?_)
          go_wp2_with fail
          refine cT.out _ _ (Lib.hid fun w1 n1 => ?_)
          obtain ⟨⟨r0, r1, r2⟩, ⟨r3, r4⟩, r5, r6, r7, r8⟩ := fin.out w1 n1
          obtain ⟨s0, s1, s2, s3, s4⟩ := st_two w.heap.size w1 (.int .i64 0) (.int .i64 z) r0 r1 r2 r3 r4
          replace s0 := Lib.hid s0
          replace s1 := Lib.hid s1
          replace s2 := Lib.hid s2
          replace s3 := Lib.hid s3
          replace s4 := Lib.hid s4
          have nb := Lib.hid ((r8.setCell (p := ⟨w.heap.size + 1, 0, none⟩) (Nat.le_succ _) (.int .i64 0)).setCell (p := ⟨w.heap.size + 1, 1, none⟩) (Nat.le_succ _) (.int .i64 z))
          clear n1 r8
          go_wp2_with fail
          refine cP1.out _ _ (Lib.hid ?_)
          go_wp2_with fail
          replace s0 := s0.out
          replace s1 := s1.out
          replace s2 := s2.out
          replace s3 := s3.out
          replace s4 := s4.out
          clear r0 r1 r2 r3 r4 r5 r6
          generalize (w1.setCell ⟨w.heap.size + 1, 0, none⟩ (.int .i64 0)).setCell ⟨w.heap.size + 1, 1, none⟩ (.int .i64 z) = W at *
          refine bodyPost_ret ?_ rfl (hR.out _ ?_)
          · simp [results, Try.results31, go_sem, stT, stV, s0, s1, s2, s3, s4]
          · exact five nb.out _ _ _ _ _
        · rw [if_pos (by by_cases q : E < s.size; exact .inr (fun h => hc ⟨q, h⟩); exact .inl (by omega))] at hR
          rw [decide_eq_false hc] at cP1
          replace cP1 := Lib.hid cP1
          clear hc
          go_enter Try.func31, Try.ntmps31
          go_wp2_with fail
          refine cP0.out _ _ (Lib.hid ?_)
          go_wp2_with fail
          refine cT.out _ _ (Lib.hid fun w1 n1 => ?_)
          obtain ⟨⟨r0, r1, r2⟩, ⟨r3, r4⟩, r5, r6, r7, r8⟩ := fin.out w1 n1
          obtain ⟨s0, s1, s2, s3, s4⟩ := st_two w.heap.size w1 (.int .i64 0) (.int .i64 z) r0 r1 r2 r3 r4
          replace s0 := Lib.hid s0
          replace s1 := Lib.hid s1
          replace s2 := Lib.hid s2
          replace s3 := Lib.hid s3
          replace s4 := Lib.hid s4
          have nb := Lib.hid ((r8.setCell (p := ⟨w.heap.size + 1, 0, none⟩) (Nat.le_succ _) (.int .i64 0)).setCell (p := ⟨w.heap.size + 1, 1, none⟩) (Nat.le_succ _) (.int .i64 z))
          clear n1 r8
          go_wp2_with fail
          refine cP1.out _ _ (Lib.hid ?_)
          go_wp2_with fail
          replace s0 := s0.out
          replace s1 := s1.out
          replace s2 := s2.out
          replace s3 := s3.out
          replace s4 := s4.out
          clear r0 r1 r2 r3 r4 r5 r6
          generalize (w1.setCell ⟨w.heap.size + 1, 0, none⟩ (.int .i64 0)).setCell ⟨w.heap.size + 1, 1, none⟩ (.int .i64 z) = W at *
          refine bodyPost_ret ?_ rfl (hR.out _ ?_)
          · simp [results, Try.results31, go_sem, stT, stV, s0, s1, s2, s3, s4]
          · exact five nb.out _ _ _ _ _
    · rw [if_pos hf] at hR
      have hf' : (f == 0) = false := by simpa using hf
      have hf'' : (f != 0) = true := by simpa using hf
      clear hf hT cP cQ
      go_enter Try.func31, Try.ntmps31
      go_wp2_with fail
      refine cP0.out _ _ (Lib.hid ?_)
      go_wp2_with fail
      refine cT.out _ _ (Lib.hid fun w1 n1 => ?_)
      obtain ⟨⟨r0, r1, r2⟩, ⟨r3, r4⟩, r5, r6, r7, r8⟩ := fin.out w1 n1
      clear n1
      have y0 := r5 0
      have y1 := r5 1
      have y2 := r5 2
      have y3 := r6 0
      have y4 := r6 1
      clear r5 r6
      obtain ⟨s0, s1, s2, s3, s4⟩ := st_two w.heap.size w1 (.int .i64 f) (.int .i64 z) r0 r1 r2 r3 r4
      replace s0 := Lib.hid s0
      replace s1 := Lib.hid s1
      replace s2 := Lib.hid s2
      replace s3 := Lib.hid s3
      replace s4 := Lib.hid s4
      have nb := Lib.hid ((r8.setCell (p := ⟨w.heap.size + 1, 0, none⟩) (Nat.le_succ _) (.int .i64 f)).setCell (p := ⟨w.heap.size + 1, 1, none⟩) (Nat.le_succ _) (.int .i64 z))
      go_wp2_with fail
      replace s0 := s0.out
      replace s1 := s1.out
      replace s2 := s2.out
      replace s3 := s3.out
      replace s4 := s4.out
      have x0 : ((w1.setCell ⟨w.heap.size + 1, 0, none⟩ (.int .i64 f)).setCell ⟨w.heap.size + 1, 1, none⟩ (.int .i64 z)).frozen? ⟨w.heap.size, 0, none⟩ = false := by simpa using y0
      have x1 : ((w1.setCell ⟨w.heap.size + 1, 0, none⟩ (.int .i64 f)).setCell ⟨w.heap.size + 1, 1, none⟩ (.int .i64 z)).frozen? ⟨w.heap.size, 1, none⟩ = false := by simpa using y1
      have x2 : ((w1.setCell ⟨w.heap.size + 1, 0, none⟩ (.int .i64 f)).setCell ⟨w.heap.size + 1, 1, none⟩ (.int .i64 z)).frozen? ⟨w.heap.size, 2, none⟩ = false := by simpa using y2
      have x3 : ((w1.setCell ⟨w.heap.size + 1, 0, none⟩ (.int .i64 f)).setCell ⟨w.heap.size + 1, 1, none⟩ (.int .i64 z)).frozen? ⟨w.heap.size + 1, 0, none⟩ = false := by simpa using y3
      have x4 : ((w1.setCell ⟨w.heap.size + 1, 0, none⟩ (.int .i64 f)).setCell ⟨w.heap.size + 1, 1, none⟩ (.int .i64 z)).frozen? ⟨w.heap.size + 1, 1, none⟩ = false := by simpa using y4
      clear r0 r1 r2 r3 r4 y0 y1 y2 y3 y4 r8
      generalize (w1.setCell ⟨w.heap.size + 1, 0, none⟩ (.int .i64 f)).setCell ⟨w.heap.size + 1, 1, none⟩ (.int .i64 z) = W at *
      go_region
      go_wp2_with fail
      refine bodyPost_ret ?_ rfl (hR.out _ ?_)
      · simp [results, Try.results31, go_sem, stT, stV, s0, s1, s2, s3, s4]
      · exact (five nb.out _ _ _ _ _).drew
end Go.Proofs.Ytjcmljdkegpjbaa.Pat
