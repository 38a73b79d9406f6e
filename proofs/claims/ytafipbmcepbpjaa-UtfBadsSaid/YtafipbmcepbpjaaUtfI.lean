/- Contracts of utf.Runes and of the reference's Walk and Same. -/
import Derived.Test.YtafipbmcepbpjaaUtfD
import Derived.Test.YtafipbmcepbpjaaUtfM
import Derived.Test.YtafipbmcepbpjaaOwn
set_option linter.unusedVariables false
namespace Go.Proofs.Ytafipbmcepbpjaa.Utf
open Go.RowKit Go.Lib

/-- The scalars from index i on, up to the first place that is not well-formed. -/
def runesGo (s : ByteArray) : Nat → Nat → List Int
  | 0, _ => []
  | k + 1, i => if i < s.size then (if (decS s i).2.2 then (decS s i).1 :: runesGo s k (i + (decS s i).2.1.toNat) else []) else []
def runesS (s : ByteArray) : List Int := runesGo s s.size 0
theorem badGo_ge (s : ByteArray) : ∀ k i, i ≤ badGo s k i
  | 0, i => Nat.le_refl _
  | k + 1, i => by
    rw [badGo]; split
    · split
      · exact Nat.le_trans (Nat.le_add_right _ _) (badGo_ge s k _)
      · exact Nat.le_refl _
    · exact Nat.le_refl _
theorem badGo_le (s : ByteArray) : ∀ k i, i ≤ s.size → badGo s k i ≤ s.size
  | 0, i, h => h
  | k + 1, i, h => by
    rw [badGo]; split
    · rename_i hi
      split
      · refine badGo_le s k _ ?_
        obtain ⟨d1, d2, d3, d4⟩ := decS_spec s i hi
        omega
      · exact h
    · exact h
theorem badS_le (s : ByteArray) : badS s ≤ s.size := badGo_le s _ _ (by omega)
theorem runesGo_len (s : ByteArray) : ∀ k i, (runesGo s k i).length ≤ k
  | 0, i => Nat.le_refl _
  | k + 1, i => by
    rw [runesGo]; split
    · split
      · simp; exact runesGo_len s k _
      · simp
    · simp
/-- Where the index is ahead of the first bad place, a scalar stands there. -/
theorem at_ok {s : ByteArray} {k i : Nat} (h : i < badGo s (k + 1) i) : i < s.size ∧ (decS s i).2.2 = true ∧ badGo s (k + 1) i = badGo s k (i + (decS s i).2.1.toNat) ∧ runesGo s (k + 1) i = (decS s i).1 :: runesGo s k (i + (decS s i).2.1.toNat) := by
  rw [badGo] at h ⊢
  rw [runesGo]
  by_cases h1 : i < s.size
  · rw [if_pos h1] at h ⊢
    by_cases h2 : (decS s i).2.2 = true
    · rw [if_pos h2, if_pos h1, if_pos h2]; exact ⟨h1, h2, rfl, rfl⟩
    · rw [if_neg h2] at h; omega
  · rw [if_neg h1] at h; omega
theorem at_end {s : ByteArray} {k i : Nat} (h : ¬ i < badGo s k i) : runesGo s k i = [] := by
  cases k with
  | zero => rfl
  | succ k =>
    rw [badGo] at h
    rw [runesGo]
    split
    · rename_i h1
      rw [if_pos h1] at h
      split
      · rename_i h2
        rw [if_pos h2] at h
        have := badGo_ge s k (i + (decS s i).2.1.toNat)
        have := (decS_spec s i h1).1
        omega
      · rfl
    · rfl
def runeV (l : List Int) : List Value := l.map (Value.int .i32)

theorem info32 : (Try.prog.info? 21).map (fun i => (i.zero, i.size, i.bytes)) = some (some (.int .i32 0), 1, 4) := by kernel_rfl

set_option maxRecDepth 100000 in
set_option maxHeartbeats 1000000 in
theorem runes_calls (s : ByteArray) (w : World) (hs : s.size ≤ 16777216) (R : Ending → World → Prop)
    (hR : Hid (∀ v w', w'.ownsRow w.heap.size 21 1 v (runesS s).length (runeV (runesS s)) → Below w.heap.size w w' → R (.returned (.tuple #[v, .int .i64 (badS s)])) w')) :
    Calls Try.prog 15 #[.string s] w R := by
  have hs' : s.size ≤ maxLen := by unfold maxLen; omega
  have hbl := badS_le s
  obtain ⟨i0, hi, hz0, hz1, hz2⟩ := info_parts info32
  go_enter Try.func15, Try.ntmps15
  go_wp2_with fail
  refine bad_calls s _ hs' _ (fun n1 => ?_)
  go_wp2_with fail
  go_loopg [5, 6] s.size (fun k l a wr => ∃ (A : Nat) (v : Value) (xs : List Int), v = l ∧ Below w.heap.size w wr ∧ a = .int .i64 A ∧ wr.ownsRow w.heap.size 21 1 v xs.length (runeV xs) ∧ A ≤ s.size ∧ s.size ≤ A + k ∧ xs.length ≤ A ∧ Hid (badGo s k A = badS s ∧ xs ++ runesGo s k A = runesS s))
  case atStart => exact ⟨0, _, [], rfl, below_drewN (Below.refl _ _) _, rfl, World.ownsRow_nil _ _ _ _, by omega, by omega, by simp, rfl, rfl⟩
  case round =>
    obtain ⟨A, v, xs, rfl, hbel, rfl, hown, c1, c2, c3, c4⟩ := hrel
    obtain ⟨c5, c6⟩ := c4.out
    have hsz := hbel.size
    by_cases hA : A < badS s
    · obtain ⟨k, rfl⟩ : ∃ k, gk = k + 1 := ⟨gk - 1, by omega⟩
      obtain ⟨e1, e2, e3, e4⟩ := at_ok (k := k) (by rw [c5]; exact hA)
      rw [e3] at c5
      rw [e4] at c6
      clear c4 e3 e4
      obtain ⟨d1, d2, d3, d4⟩ := decS_spec s A e1
      generalize hd : decS s A = d at *
      obtain ⟨r, n, ok⟩ := d
      simp only at d1 d2 d3 e2 c5 c6
      subst e2
      obtain ⟨n, rfl⟩ := Int.eq_ofNat_of_zero_le (by omega : 0 ≤ n)
      simp only [Int.toNat_natCast] at c5 c6
      replace hd := Lib.hid hd
      replace c5 := Lib.hid c5
      replace c6 := Lib.hid c6
      clear d4
      go_wp2_with fail
      refine dec_calls s A _ hs' _ (fun nq => ?_)
      rw [hd.out]
      have hb2 := below_drewN hbel nq
      have hsz2 := hb2.size
      have hown2 : (wr.drewN nq).ownsRow w.heap.size 21 1 v xs.length (runeV xs) := hown
      generalize wr.drewN nq = W1 at *
      go_wp2_with (at_builtin; refine app1 W1 (.int .i32 r) 21 rfl _ _ 28 rfl w.heap.size i0 (.int .i32 0) 4 Try.underlying28 hi hz0 hz1 hz2 rfl v _ _ rfl hown2 rfl rfl (by unfold maxLen; omega) (by omega) hsz2 ?_; intro v' w3 hown3 hg3 hb3)
      go_roundg k
      case measure => omega
      case rel => exact ⟨A + n, v', xs ++ [r], rfl, hb2.trans (hb3.mono (Nat.le_refl _)), by go_num, by simpa [runeV] using hown3, by omega, by omega, by simp; omega, c5.out, by rw [← c6.out]; simp⟩
    · have e1 : badGo s gk A = A := by have := badGo_ge s gk A; omega
      have e2 : xs = runesS s := by rw [← c6, at_end (by omega)]; simp
      subst e2
      clear c4 c6
      replace c5 := Lib.hid c5
      replace e1 := Lib.hid e1
      go_wp2_with fail
      exact hR.out _ _ hown hbel

theorem runeV_get {l : List Int} {k : Nat} (h : k < l.length) : (runeV l)[k]? = some (.int .i32 (l.getD k 0)) := by
  unfold runeV
  simp [List.getElem?_eq_getElem h, List.getD]
theorem eq_take_succ {a b : List Int} {k : Nat} (h : a.take k = b.take k) (h1 : k < a.length) (h2 : k < b.length) (e : a.getD k 0 = b.getD k 0) : a.take (k + 1) = b.take (k + 1) := by
  rw [List.take_succ_eq_append_getElem h1, List.take_succ_eq_append_getElem h2, h]
  simp [List.getD, List.getElem?_eq_getElem h1, List.getElem?_eq_getElem h2] at e
  rw [e]

set_option maxRecDepth 100000 in
theorem same_calls (xs ys : List Int) (va vb : Value) (w : World) (hx : RdAt w va 1 (runeV xs)) (hy : RdAt w vb 1 (runeV ys)) (hlx : xs.length ≤ 16777216) (hly : ys.length ≤ 16777216) (R : Ending → World → Prop)
    (hR : Hid (∀ nq, R (.returned (.bool (decide (xs = ys)))) (w.drewN nq))) : Calls Try.prog 16 #[va, vb] w R := by
  obtain ⟨A, n, c, rfl, hl1, hn1, hc1⟩ := hx
  obtain ⟨B, m, d, rfl, hl2, hn2, hc2⟩ := hy
  have hl1 : xs.length = n := by simpa [runeV] using hl1
  have hl2 : ys.length = m := by simpa [runeV] using hl2
  subst hl1 hl2
  by_cases hlen : xs.length = ys.length
  · by_cases h0 : 0 < ys.length
    · obtain ⟨g, o, rfl, hg, hca⟩ := hc1 (by simpa [runeV] using (by omega : 0 < xs.length))
      obtain ⟨g', o', rfl, hg', hcb⟩ := hc2 (by simpa [runeV] using h0)
      clear hc1 hc2
      replace hca := Lib.hid hca
      replace hcb := Lib.hid hcb
      go_enter Try.func16, Try.ntmps16
      go_wp2_with fail
      go_loopg [5] ys.length (fun k i wr => ∃ (K nq : Nat), wr = w.drewN nq ∧ i = .int .i64 K ∧ K + k = ys.length ∧ Hid (xs.take K = ys.take K))
      case atStart => exact ⟨0, 0, rfl, rfl, by omega, rfl⟩
      case round =>
        obtain ⟨K, nq, rfl, rfl, c1, c2⟩ := hrel
        by_cases hK : K < ys.length
        · obtain ⟨k, rfl⟩ : ∃ k, gk = k + 1 := ⟨gk - 1, by omega⟩
          have ha := hca.out K _ (runeV_get (by omega))
          have hb := hcb.out K _ (runeV_get hK)
          generalize hX : xs.getD K 0 = X at *
          generalize hY : ys.getD K 0 = Y at *
          replace hX := Lib.hid hX
          replace hY := Lib.hid hY
          by_cases hXY : X = Y
          · subst hXY
            go_wp2_with fail
            go_quiet (fail)
            go_wp2_with fail
            go_roundg k
            case measure => omega
            case rel => exact ⟨K + 1, _, rfl, by go_num, by omega, eq_take_succ c2.out (by omega) hK (by rw [hX.out, hY.out])⟩
          · have e : decide (xs = ys) = false := by
              simp; intro h; subst h; exact hXY (by rw [← hX.out, ← hY.out])
            replace e := Lib.hid e
            go_wp2_with fail
            go_quiet (fail)
            go_wp2_with fail
            exact retB (by rw [World.drewN_drewN]; exact hR.out _) e.out
        · have e : decide (xs = ys) = true := by
            have h := c2.out
            rw [List.take_of_length_le (by omega), List.take_of_length_le (by omega)] at h
            simpa using h
          replace e := Lib.hid e
          clear c2
          go_wp2_with fail
          exact retB (hR.out _) e.out
    · have e : decide (xs = ys) = true := by
        rw [List.length_eq_zero_iff.1 (by omega : xs.length = 0), List.length_eq_zero_iff.1 (by omega : ys.length = 0)]; rfl
      replace e := Lib.hid e
      have hz : xs.length = 0 := by omega
      have hz2 : ys.length = 0 := by omega
      clear hlen h0 hc1 hc2
      go_enter Try.func16, Try.ntmps16
      go_wp2_with fail
      refine wp_loop_rounds 1 ?_
      rw [rounds_succ]
      go_wp2_with fail
      exact retB (hR.out 0) e.out
  · have e : decide (xs = ys) = false := by simp; intro h; exact hlen (by rw [h])
    replace e := Lib.hid e
    clear hc1 hc2
    go_enter Try.func16, Try.ntmps16
    go_wp2_with fail
    exact retB (hR.out 0) e.out

set_option maxRecDepth 100000 in
set_option maxHeartbeats 1000000 in
theorem walk_calls (s : ByteArray) (w : World) (hs : s.size ≤ 16777216) (R : Ending → World → Prop)
    (hR : Hid (∀ v w', w'.ownsRow w.heap.size 21 1 v (runesS s).length (runeV (runesS s)) → Below w.heap.size w w' → R (.returned (.tuple #[v, .int .i64 (badS s), .int .i64 (countS s)])) w')) :
    Calls Try.prog 14 #[.string s] w R := by
  have hs' : s.size ≤ maxLen := by unfold maxLen; omega
  obtain ⟨i0, hi, hz0, hz1, hz2⟩ := info_parts info32
  go_enter Try.func14, Try.ntmps14
  go_wp2_with fail
  go_loopg [5, 6, 7, 8] s.size (fun k l b m a wr => ∃ (A M : Nat) (B : Int) (v : Value) (xs : List Int), v = l ∧ Below w.heap.size w wr ∧ a = .int .i64 A ∧ m = .int .i64 M ∧ b = .int .i64 B ∧ wr.ownsRow w.heap.size 21 1 v xs.length (runeV xs) ∧ A ≤ s.size ∧ s.size ≤ A + k ∧ xs.length ≤ A ∧ M ≤ A ∧ Hid (countGo s k A + M = countS s) ∧
    Hid (B = -1 ∧ badGo s k A = badS s ∧ xs ++ runesGo s k A = runesS s ∨ B = badS s ∧ xs = runesS s))
  case atStart => exact ⟨0, 0, -1, _, [], rfl, Below.refl _ _, rfl, rfl, rfl, World.ownsRow_nil _ _ _ _, by omega, by omega, by simp, by omega, rfl, Or.inl ⟨rfl, rfl, rfl⟩⟩
  case round =>
    obtain ⟨A, M, B, v, xs, rfl, hbel, rfl, rfl, rfl, hown, c1, c2, c3, c4, c5, c6⟩ := hrel
    have hsz := hbel.size
    by_cases hA : A < s.size
    · obtain ⟨k, rfl⟩ : ∃ k, gk = k + 1 := ⟨gk - 1, by omega⟩
      replace c5 := c5.out
      rw [countGo, if_pos hA] at c5
      obtain ⟨d1, d2, d3, d4⟩ := decS_spec s A hA
      replace c6 := c6.out
      rw [badGo, runesGo, if_pos hA, if_pos hA] at c6
      have hR2 := Lib.hid (decR_eq s A)
      generalize hd : decS s A = d at *
      obtain ⟨r, n, ok⟩ := d
      simp only at d1 d2 d3 c5 c6
      obtain ⟨n, rfl⟩ := Int.eq_ofNat_of_zero_le (by omega : 0 ≤ n)
      simp only [Int.toNat_natCast] at c5 c6
      clear d4 hd
      replace c5 := Lib.hid c5
      rcases c6 with ⟨hB, e1, e2⟩ | ⟨hB, e2⟩
      · subst hB
        cases ok
        · simp only [Bool.false_eq_true, if_false, List.append_nil] at e1 e2
          have e3 : Hid ((A : Int) = badS s ∧ xs = runesS s) := ⟨by rw [← e1], e2⟩
          clear e1 e2
          go_wp2_with fail
          refine refdec_calls s A _ hs' _ (fun w2 h2 => ?_)
          rw [hR2.out]
          go_wp2_with fail
          go_roundg k
          case measure => omega
          case rel => exact ⟨A + n, M + 1, A, v, xs, rfl, hbel.trans (h2.mono hsz), by go_num, by go_num, rfl, hown.kept ⟨h2.os, h2.tape, h2.output, h2.size, fun k hk _ => h2.block k hk⟩ (row := none) (by cases hv : v.ownBlock <;> simp), by omega, by omega, by omega, by omega, by rw [← c5.out]; simp [Hid]; omega, Or.inr e3⟩
        · simp only [if_true] at e1 e2
          replace e1 := Lib.hid e1
          replace e2 := Lib.hid e2
          go_wp2_with fail
          refine refdec_calls s A _ hs' _ (fun w2 h2 => ?_)
          rw [hR2.out]
          have hown2 : w2.ownsRow w.heap.size 21 1 v xs.length (runeV xs) := hown.kept ⟨h2.os, h2.tape, h2.output, h2.size, fun k hk _ => h2.block k hk⟩ (row := none) (by cases hv : v.ownBlock <;> simp)
          have hb2 := hbel.trans (h2.mono hsz)
          have hsz2 := hb2.size
          go_wp2_with (at_builtin; refine app1 w2 (.int .i32 r) 21 rfl _ _ 28 rfl w.heap.size i0 (.int .i32 0) 4 Try.underlying28 hi hz0 hz1 hz2 rfl v _ _ rfl hown2 rfl rfl (by unfold maxLen; omega) (by omega) hsz2 ?_; intro v' w3 hown3 hg3 hb3)
          go_roundg k
          case measure => omega
          case rel => exact ⟨A + n, M + 1, -1, v', xs ++ [r], rfl, hb2.trans hb3, by go_num, by go_num, rfl, by simpa [runeV] using hown3, by omega, by omega, by simp; omega, by omega, by rw [← c5.out]; simp [Hid]; omega, Or.inl ⟨rfl, e1.out, by rw [← e2.out]; simp⟩⟩
      · have hB0 : ¬ B < 0 := by omega
        replace e2 : Hid (B = badS s ∧ xs = runesS s) := ⟨hB, e2⟩
        clear hB
        cases ok
        all_goals
          go_wp2_with fail
          refine refdec_calls s A _ hs' _ (fun w2 h2 => ?_)
          rw [hR2.out]
          go_wp2_with fail
          go_roundg k
          case measure => omega
          case rel => exact ⟨A + n, M + 1, B, v, xs, rfl, hbel.trans (h2.mono hsz), by go_num, by go_num, rfl, hown.kept ⟨h2.os, h2.tape, h2.output, h2.size, fun k hk _ => h2.block k hk⟩ (row := none) (by cases hv : v.ownBlock <;> simp), by omega, by omega, by omega, by omega, by rw [← c5.out]; simp [Hid]; omega, Or.inr e2.out⟩
    · have hM : M = countS s := by have := c5.out; rw [← this]; cases gk <;> simp [countGo, hA]
      have hA2 : A = s.size := by omega
      replace hM := Lib.hid hM
      rcases c6.out with ⟨hB, e1, e2⟩ | ⟨hB, e2⟩
      · subst hB
        have e3 : s.size = badS s := by rw [← e1, hA2]; cases gk <;> simp [badGo]
        have e4 : xs = runesS s := by rw [← e2]; cases gk <;> simp [runesGo, hA]
        subst e4
        replace e3 := Lib.hid e3
        clear e1 e2 hA2 c6
        go_wp2_with fail
        go_ret3
        exact ret3 (hR.out _ _ hown hbel) rfl (vI (by rw [← e3.out])) (vI (by rw [← hM.out]))
      · have hB0 : ¬ B < 0 := by omega
        subst e2
        replace hB := Lib.hid hB
        clear c6 hA2
        go_wp2_with fail
        go_ret3
        exact ret3 (hR.out _ _ hown hbel) rfl (vI (by rw [hB.out])) (vI (by rw [← hM.out]))
end Go.Proofs.Ytafipbmcepbpjaa.Utf
