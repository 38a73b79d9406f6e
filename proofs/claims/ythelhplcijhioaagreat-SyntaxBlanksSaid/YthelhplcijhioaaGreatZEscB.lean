/- The code's number: a range over a string. -/
import Derived.Test.YthelhplcijhioaaGreatZEscA
set_option maxRecDepth 100000
set_option linter.unusedVariables false
namespace Go.Proofs.YthelhplcijhioaaGreat.Esc
open Go.RowKit Go.Lib Go.Proofs.YthelhplcijhioaaGreat.Utf Go.Proofs.YthelhplcijhioaaGreat.Ran Go.Proofs.YthelhplcijhioaaGreat.Cel

theorem ret2ib {R : Ending → World → Prop} {w : World} {k : IntKind} {a a' : Int} {b b' : Bool} (h : R (.returned (.tuple #[.int k a, .bool b])) w) (e1 : a = a') (e2 : b = b') :
    R (.returned (.tuple #[.int k a', .bool b'])) w := by subst e1 e2; exact h
theorem or16 (n v : Int) (h0 : 0 ≤ n) (h1 : n < 16777216) (h2 : 0 ≤ v) (h3 : v < 16) : bits BinOp.or IntKind.u32 (n * 16) v = 16 * n + v := by
  obtain ⟨a, rfl⟩ := Int.eq_ofNat_of_zero_le h0
  obtain ⟨b, rfl⟩ := Int.eq_ofNat_of_zero_le h2
  have key : (BitVec.ofInt 32 ((a : Int) * 16) ||| BitVec.ofInt 32 (b : Int)).toNat = a * 16 + b := by
    rw [BitVec.toNat_or, BitVec.toNat_ofInt, BitVec.toNat_ofInt]
    have e1 : (((a : Int) * 16) % ((2 ^ 32 : Nat) : Int)).toNat = a * 2 ^ 4 := by omega
    have e2 : ((b : Int) % ((2 ^ 32 : Nat) : Int)).toNat = b := by omega
    rw [e1, e2, ← Nat.shiftLeft_eq, ← Nat.shiftLeft_add_eq_or_of_lt (by omega : b < 2 ^ 4), Nat.shiftLeft_eq]
  show IntKind.u32.wrap ((BitVec.ofInt 32 ((a : Int) * 16) ||| BitVec.ofInt 32 (b : Int)).toNat : Nat) = _
  rw [key]
  unfold IntKind.wrap
  simp [IntKind.bits, IntKind.signed]
  omega
set_option maxRecDepth 100000 in
set_option maxHeartbeats 1000000 in
theorem number_calls (t : ByteArray) (ht : t.size ≤ 6) (w : World) (R : Ending → World → Prop)
    (hR : Hid (∀ w', Below w.heap.size w w' → R (.returned (.tuple #[.int .u32 (if hexV (bl t) < 0 then 0 else hexV (bl t)), .bool (decide (0 ≤ hexV (bl t)))])) w')) :
    Calls Tryz.prog 159 #[.string t] w R := by
  go_enter Tryz.func159, Tryz.ntmps159
  go_wp2_with fail
  go_loopg [2] t.size (fun k v wr => ∃ (pos : Nat) (n : Int), wr.heap[w.heap.size]? = some (.stringIter t pos) ∧ Below w.heap.size w wr ∧ v = .int .u32 n ∧ pos + k = t.size ∧ 0 ≤ n ∧ n < 16 ^ pos ∧ Hid (numF n ((bl t).drop pos) = numF 0 (bl t)))
  case atStart =>
    exact ⟨0, 0, World.iter_heap w t 0, (Below.refl _ _).alloc (Nat.le_refl _) _, rfl, by omega, by omega, by decide, Lib.hid (by rw [List.drop_zero])⟩
  case round =>
    obtain ⟨pos, n, hit, hbel, rfl, c1, c2, c3, c4⟩ := hrel
    have hsz := hbel.size
    by_cases hp : pos < t.size
    · have hnx : ∀ ty, (Instr.next (.pointer (some ⟨w.heap.size, 0, none⟩)) true ty).run Tryz.prog wr = _ := fun ty => Lib.run_next_any_at wr w.heap.size t pos ty hit hp
      have e := c4.out
      rw [bl_drop hp, numF] at e
      clear c4
      have h16 : n < 16777216 := by
        have : (16 : Int) ^ pos ≤ 16 ^ 6 := by exact_mod_cast Nat.pow_le_pow_right (by omega) (by omega : pos ≤ 6)
        have : (16 : Int) ^ 6 = 16777216 := by decide
        omega
      have hit2 := Lib.iterAt_heap wr w.heap.size t pos (pos + (Utf8.decode t pos).2) hit
      have hbel2 := Lib.below_iterAt hbel (k := w.heap.size) (by omega) t (pos + (Utf8.decode t pos).2)
      have hdl := decode_le t pos
      have hbad : ∀ x : Int, valD x < 0 → numF 0 (bl t) = -1 → hexV (bl t) = -1 := by
        intro x _ h; unfold hexV; split
        · rfl
        · exact h
      by_cases hA : byN t pos < 128
      · have hd : Utf8.decode t pos = (byN t pos, 1) := by
          rw [decode_ascii t pos hp (by rw [byN_get]; exact hA), byN_get]
        rw [hd] at hnx hit2 hbel2
        simp only at hnx hit2 hbel2
        have cV := fun (W : World) R hR => value_calls (byN t pos : Int) W (by omega) R hR
        have hvb := valD_bd (byN t pos)
        by_cases hv : valD (byN t pos) < 0
        · rw [if_pos hv] at e
          have hx := hbad _ hv e.symm
          rw [hx, if_pos (by decide)] at hR
          rw [if_pos hv, decide_eq_false (by omega)] at cV
          generalize valD (byN t pos) = v at *
          generalize byN t pos = c at *
          clear hbad hd e
          replace cV := Lib.hid cV
          go_wp2_with fail
          refine cV.out _ _ (Lib.hid ?_)
          go_wp2_with fail
          exact hR.out _ hbel2
        · rw [if_neg hv] at e
          rw [if_neg hv, decide_eq_true (by omega)] at cV
          have ho := or16 n (valD (byN t pos)) c2 h16 (by omega) (by omega)
          generalize valD (byN t pos) = v at *
          generalize byN t pos = c at *
          clear hbad hd
          replace cV := Lib.hid cV
          replace e := Lib.hid e
          replace hvb : 0 ≤ v ∧ v ≤ 15 := by omega
          go_wp2_with fail
          refine cV.out _ _ (Lib.hid ?_)
          go_wp2_with fail
          go_roundg (gk - 1)
          case measure => omega
          case rel => exact ⟨pos + 1, 16 * n + v, hit2, hbel2, by go_num, by omega, by omega, by rw [Int.pow_succ]; omega, e⟩
      · have hh := (decode_high t pos hp (by rw [byN_get]; omega)).1
        have hv : valD (byN t pos) < 0 := by unfold valD; rw [if_neg (by omega), if_neg (by omega), if_neg (by omega)]; decide
        have hv2 : valD ((Utf8.decode t pos).1 : Int) = -1 := by unfold valD; rw [if_neg (by omega), if_neg (by omega), if_neg (by omega)]
        rw [if_pos hv] at e
        have hx := hbad _ hv e.symm
        rw [hx, if_pos (by decide)] at hR
        have cV := fun (W : World) R hR => value_calls ((Utf8.decode t pos).1 : Int) W (by omega) R hR
        rw [hv2, if_pos (by decide), decide_eq_false (by decide)] at cV
        generalize Utf8.decode t pos = d at *
        clear hbad hv e hv2
        replace cV := Lib.hid cV
        go_wp2_with fail
        refine cV.out _ _ (Lib.hid ?_)
        go_wp2_with fail
        exact hR.out _ hbel2
    · have hnx : ∀ ty, (Instr.next (.pointer (some ⟨w.heap.size, 0, none⟩)) true ty).run Tryz.prog wr = _ := fun ty => Lib.run_next_end_at wr w.heap.size t pos ty hit hp
      have e := c4.out
      rw [List.drop_eq_nil_of_le (by rw [bl_length]; omega), numF] at e
      clear c4
      by_cases h0 : t.size = 0
      · have hx : hexV (bl t) = -1 := by unfold hexV; rw [if_pos (by rw [bl_length]; omega)]
        rw [hx, if_pos (by decide)] at hR
        have hn : n = 0 := by
          have : pos = 0 := by omega
          subst this
          simp only [Int.pow_zero] at c3
          omega
        subst hn
        have hE := isE_nil h0
        clear e c3
        go_wp2_with fail
        exact hR.out _ hbel
      · have hx : hexV (bl t) = n := by unfold hexV; rw [if_neg (by rw [bl_length]; omega), e]
        rw [hx, if_neg (by omega), decide_eq_true c2] at hR
        have hE := isE_pos (s := t) (by omega)
        clear e c3
        go_wp2_with fail
        exact hR.out _ hbel
end Go.Proofs.YthelhplcijhioaaGreat.Esc
