/- Contracts of utf.Runes and of the reference's Walk and Same. -/
import Derived.Test.YtheeabngdnhibaaUtfD
import Derived.Test.YtheeabngdnhibaaUtfM
import Derived.Test.YtheeabngdnhibaaOwn
set_option linter.unusedVariables false
namespace Go.Proofs.Ytheeabngdnhibaa.Utf
open Go.RowKit Go.Lib

/-- The scalars from index i on, up to the first place that is not well-formed. -/
def runesGo (s : ByteArray) : Nat → Nat → List Int
  | 0, _ => []
  | k + 1, i => if i < s.size then (if (decS s i).2.2 then (decS s i).1 :: runesGo s k (i + (decS s i).2.1.toNat) else []) else []
def runesS (s : ByteArray) : List Int := runesGo s s.size 0
theorem badGo_ge (s : ByteArray) : ∀ k i, i ≤ badGo s k i
  | 0, i => Nat.le_refl _
  | k + 1, i => by
    rw [badGo]; split
    · split
      · exact Nat.le_trans (Nat.le_add_right _ _) (badGo_ge s k _)
      · exact Nat.le_refl _
    · exact Nat.le_refl _
theorem badGo_le (s : ByteArray) : ∀ k i, i ≤ s.size → badGo s k i ≤ s.size
  | 0, i, h => h
  | k + 1, i, h => by
    rw [badGo]; split
    · rename_i hi
      split
      · refine badGo_le s k _ ?_
        obtain ⟨d1, d2, d3, d4⟩ := decS_spec s i hi
        omega
      · exact h
    · exact h
theorem badS_le (s : ByteArray) : badS s ≤ s.size := badGo_le s _ _ (by omega)
theorem runesGo_len (s : ByteArray) : ∀ k i, (runesGo s k i).length ≤ k
  | 0, i => Nat.le_refl _
  | k + 1, i => by
    rw [runesGo]; split
    · split
      · simp; exact runesGo_len s k _
      · simp
    · simp
/-- Where the index is ahead of the first bad place, a scalar stands there. -/
theorem at_ok {s : ByteArray} {k i : Nat} (h : i < badGo s (k + 1) i) : i < s.size ∧ (decS s i).2.2 = true ∧ badGo s (k + 1) i = badGo s k (i + (decS s i).2.1.toNat) ∧ runesGo s (k + 1) i = (decS s i).1 :: runesGo s k (i + (decS s i).2.1.toNat) := by
  rw [badGo] at h ⊢
  rw [runesGo]
  by_cases h1 : i < s.size
  · rw [if_pos h1] at h ⊢
    by_cases h2 : (decS s i).2.2 = true
    · rw [if_pos h2, if_pos h1, if_pos h2]; exact ⟨h1, h2, rfl, rfl⟩
    · rw [if_neg h2] at h; omega
  · rw [if_neg h1] at h; omega
theorem at_end {s : ByteArray} {k i : Nat} (h : ¬ i < badGo s k i) : runesGo s k i = [] := by
  cases k with
  | zero => rfl
  | succ k =>
    rw [badGo] at h
    rw [runesGo]
    split
    · rename_i h1
      rw [if_pos h1] at h
      split
      · rename_i h2
        rw [if_pos h2] at h
        have := badGo_ge s k (i + (decS s i).2.1.toNat)
        have := (decS_spec s i h1).1
        omega
      · rfl
    · rfl
def runeV (l : List Int) : List Value := l.map (Value.int .i32)

theorem info32 : (Try.prog.info? 21).map (fun i => (i.zero, i.size, i.bytes)) = some (some (.int .i32 0), 1, 4) := by kernel_rfl

set_option maxRecDepth 100000 in
set_option maxHeartbeats 1000000 in
theorem runes_calls (s : ByteArray) (w : World) (hs : s.size ≤ 16777216) (R : Ending → World → Prop)
    (hR : Hid (∀ v w', w'.ownsRow w.heap.size 21 1 v (runesS s).length (runeV (runesS s)) → Below w.heap.size w w' → R (.returned (.tuple #[v, .int .i64 (badS s)])) w')) :
    Calls Try.prog 21 #[.string s] w R := by
  have hs' : s.size ≤ maxLen := by unfold maxLen; omega
  have hbl := badS_le s
  obtain ⟨i0, hi, hz0, hz1, hz2⟩ := info_parts info32
  go_enter Try.func21, Try.ntmps21
  go_wp2_with fail
  refine bad_calls s _ hs' _ (fun n1 => ?_)
  go_wp2_with fail
  go_loopg [5, 6] s.size (fun k l a wr => ∃ (A : Nat) (v : Value) (xs : List Int), v = l ∧ Below w.heap.size w wr ∧ a = .int .i64 A ∧ wr.ownsRow w.heap.size 21 1 v xs.length (runeV xs) ∧ A ≤ s.size ∧ s.size ≤ A + k ∧ xs.length ≤ A ∧ Hid (badGo s k A = badS s ∧ xs ++ runesGo s k A = runesS s))
  case atStart => exact ⟨0, _, [], rfl, below_drewN (Below.refl _ _) _, rfl, World.ownsRow_nil _ _ _ _, by omega, by omega, by simp, rfl, rfl⟩
  case round =>
    obtain ⟨A, v, xs, rfl, hbel, rfl, hown, c1, c2, c3, c4⟩ := hrel
    obtain ⟨c5, c6⟩ := c4.out
    have hsz := hbel.size
    by_cases hA : A < badS s
    · obtain ⟨k, rfl⟩ : ∃ k, gk = k + 1 := ⟨gk - 1, by omega⟩
      obtain ⟨e1, e2, e3, e4⟩ := at_ok (k := k) (by rw [c5]; exact hA)
      rw [e3] at c5
      rw [e4] at c6
      clear c4 e3 e4
      obtain ⟨d1, d2, d3, d4⟩ := decS_spec s A e1
      generalize hd : decS s A = d at *
      obtain ⟨r, n, ok⟩ := d
      simp only at d1 d2 d3 e2 c5 c6
      subst e2
      obtain ⟨n, rfl⟩ := Int.eq_ofNat_of_zero_le (by omega : 0 ≤ n)
      simp only [Int.toNat_natCast] at c5 c6
      replace hd := Lib.hid hd
      replace c5 := Lib.hid c5
      replace c6 := Lib.hid c6
      clear d4
      go_wp2_with fail
      refine dec_calls s A _ hs' _ (fun nq => ?_)
      rw [hd.out]
      have hb2 := below_drewN hbel nq
      have hsz2 := hb2.size
      have hown2 : (wr.drewN nq).ownsRow w.heap.size 21 1 v xs.length (runeV xs) := hown
      generalize wr.drewN nq = W1 at *
      go_wp2_with (at_builtin; refine app1 W1 (.int .i32 r) 21 rfl _ _ 41 rfl w.heap.size i0 (.int .i32 0) 4 Try.underlying41 hi hz0 hz1 hz2 rfl v _ _ rfl hown2 rfl rfl (by unfold maxLen; omega) (by omega) hsz2 ?_; intro v' w3 hown3 hg3 hb3)
      go_roundg k
      case measure => omega
      case rel => exact ⟨A + n, v', xs ++ [r], rfl, hb2.trans (hb3.mono (Nat.le_refl _)), by go_num, by simpa [runeV] using hown3, by omega, by omega, by simp; omega, c5.out, by rw [← c6.out]; simp⟩
    · have e1 : badGo s gk A = A := by have := badGo_ge s gk A; omega
      have e2 : xs = runesS s := by rw [← c6, at_end (by omega)]; simp
      subst e2
      clear c4 c6
      replace c5 := Lib.hid c5
      replace e1 := Lib.hid e1
      go_wp2_with fail
      exact hR.out _ _ hown hbel

theorem runeV_get {l : List Int} {k : Nat} (h : k < l.length) : (runeV l)[k]? = some (.int .i32 (l.getD k 0)) := by
  unfold runeV
  simp [List.getElem?_eq_getElem h, List.getD]
theorem eq_take_succ {a b : List Int} {k : Nat} (h : a.take k = b.take k) (h1 : k < a.length) (h2 : k < b.length) (e : a.getD k 0 = b.getD k 0) : a.take (k + 1) = b.take (k + 1) := by
  rw [List.take_succ_eq_append_getElem h1, List.take_succ_eq_append_getElem h2, h]
  simp [List.getD, List.getElem?_eq_getElem h1, List.getElem?_eq_getElem h2] at e
  rw [e]

end Go.Proofs.Ytheeabngdnhibaa.Utf
