/- The code's Canonical; the walks of EscapeBack and EscapeSafe. -/
import Derived.Test.YtheeabngdnhibaaEscF
import Derived.Test.YtheeabngdnhibaaUtfI
set_option linter.unusedVariables false
namespace Go.Proofs.Ytheeabngdnhibaa.Esc
open Go.RowKit Go.Lib Go.Proofs.Ytheeabngdnhibaa.Utf Go.Proofs.Ytheeabngdnhibaa.Ran Go.Proofs.Ytheeabngdnhibaa.Cel Go.Proofs.Ytheeabngdnhibaa.Bld

theorem unqF_size (q : ByteArray) : ∀ (k i : Nat) (acc : ByteArray), q.size - i ≤ k → (unqF q i acc).1.size ≤ acc.size + 4 * (q.size - i)
  | k, i, acc, h => by
    by_cases hi : i < q.size
    · cases k with
      | zero => omega
      | succ k =>
        have hb := den_bd q i hi
        rw [unqF_step acc hi]
        split
        · simp only; omega
        · split
          · show 0 ≤ _; omega
          · have h2 := unqF_size q k (i + (denS q i).2.2) (acc ++ (denS q i).2.1) (by have := hb.2.2.2.1 (by omega); omega)
            rw [ByteArray.size_append] at h2
            have := hb.2.2.2.1 (by omega)
            omega
    · rw [unqF_end acc (by omega)]; show 0 ≤ _; omega
theorem unqS_size (q : ByteArray) (i : Int) : (unqS q i).1.size ≤ 4 * q.size := by
  unfold unqS
  split
  · show 0 ≤ _; omega
  · split
    · show 0 ≤ _; omega
    · split
      · show 0 ≤ _; omega
      · have := unqF_size q _ (i.toNat + 1) ByteArray.empty (Nat.le_refl _)
        have h0 : ByteArray.empty.size = 0 := rfl
        omega
def canS (q : ByteArray) : Bool := decide ((unqS q 0).2.2.1 = 0) && (q.toList == (quoteS (unqS q 0).1).toList)
set_option maxRecDepth 100000 in
theorem canonical_calls (q : ByteArray) (w : World) (hs : q.size ≤ 24000) (R : Ending → World → Prop)
    (hR : Hid (∀ w', Below w.heap.size w w' → R (.returned (.bool (canS q))) w')) : Calls Try.prog 20 #[.string q] w R := by
  have cU := fun (W : World) R hR => unquote_calls q 0 W (by omega) R hR
  have hz := unqS_size q 0
  unfold canS at hR
  generalize unqS q 0 = U at *
  obtain ⟨s, n, E, A⟩ := U
  simp only at hz hR
  simp only [unqT] at cU
  replace cU := Lib.hid cU
  by_cases hE : E = 0
  · subst hE
    rw [decide_eq_true rfl, Bool.true_and] at hR
    have cQ := fun (W : World) R hR => quote_calls s W (by omega) R hR
    generalize quoteS s = y at *
    generalize hb : (q.toList == y.toList) = b at *
    replace cQ := Lib.hid cQ
    go_enter Try.func20, Try.ntmps20
    go_wp2_with fail
    refine cU.out _ _ (Lib.hid fun w1 n1 => ?_)
    have n2 := n1.alloc n1.size (.cells #[.int .i64 0, .int .i64 A] 33)
    go_wp2_with fail
    refine cQ.out _ _ (Lib.hid fun w3 n3 => ?_)
    replace n3 := n2.trans (n3.mono n2.size)
    go_wp2_with fail
    exact hR.out _ n3
  · rw [decide_eq_false hE, Bool.false_and] at hR
    have b1 : (E == 0) = false := by simpa using hE
    go_enter Try.func20, Try.ntmps20
    go_wp2_with fail
    refine cU.out _ _ (Lib.hid fun w1 n1 => ?_)
    have n2 := n1.alloc n1.size (.cells #[.int .i64 E, .int .i64 A] 33)
    go_wp2_with fail
    exact hR.out _ n2
theorem can_quote (s : ByteArray) : canS (quoteS s) = true := by
  unfold canS
  rw [unq_quote0]
  simp

set_option maxRecDepth 100000 in
set_option maxHeartbeats 1000000 in
theorem back_walk5 (s a b : ByteArray) (w : World) (R : Ending → World → Prop) (hs : s.size ≤ maxLen) (ha : a.size ≤ maxLen) (hb : b.size ≤ maxLen)
    (hR : Hid (∀ w', Below w.heap.size w w' → R (.returned (.bool true)) w')) : Calls Try.prog 5 #[.string s, .string a, .string b] w R := by
  unfold maxLen at hs ha hb
  have cL := fun (W : World) R hR => lives5_calls W R hR
  replace cL := Lib.hid cL
  by_cases h1 : 2000 < s.size
  · have h1' : (2000 : Int) < s.size := by omega
    go_enter Try.func5, Try.ntmps5
    go_wp2_with fail
    refine cL.out _ _ (Lib.hid fun w1 n1 => ?_)
    go_wp2_with fail
    exact hR.out _ n1
  by_cases h2 : 200 < a.size
  · have h1' : ¬ (2000 : Int) < s.size := by omega
    have h2' : (200 : Int) < a.size := by omega
    go_enter Try.func5, Try.ntmps5
    go_wp2_with fail
    refine cL.out _ _ (Lib.hid fun w1 n1 => ?_)
    go_wp2_with fail
    exact hR.out _ n1
  by_cases h3 : 200 < b.size
  · have h1' : ¬ (2000 : Int) < s.size := by omega
    have h2' : ¬ (200 : Int) < a.size := by omega
    have h3' : (200 : Int) < b.size := by omega
    go_enter Try.func5, Try.ntmps5
    go_wp2_with fail
    refine cL.out _ _ (Lib.hid fun w1 n1 => ?_)
    go_wp2_with fail
    exact hR.out _ n1
  have h1' : ¬ (2000 : Int) < s.size := by omega
  have h2' : ¬ (200 : Int) < a.size := by omega
  have h3' : ¬ (200 : Int) < b.size := by omega
  have cQ := fun (W : World) R hR => quote_calls s W (by omega) R hR
  have hq := quote_size s
  have hu := unq_quote s a b
  have hcan := can_quote s
  have cC := fun (W : World) R hR => canonical_calls (quoteS s) W (by omega) R hR
  rw [hcan] at cC
  have cU := fun (W : World) R hR => unquote_calls (a ++ quoteS s ++ b) (a.size : Nat) W (by rw [ByteArray.size_append, ByteArray.size_append]; omega) R hR
  rw [hu] at cU
  simp only [unqT] at cU
  clear hu hcan
  generalize quoteS s = q at *
  replace cQ := Lib.hid cQ
  replace cU := Lib.hid cU
  replace cC := Lib.hid cC
  clear h1 h2 h3
  have hqz : q.size ≤ 20002 := by omega
  go_enter Try.func5, Try.ntmps5
  go_wp2_with fail
  refine cQ.out _ _ (Lib.hid fun w1 n1 => ?_)
  go_wp2_with fail
  refine cU.out _ _ (Lib.hid fun w2 n2 => ?_)
  replace n2 := n1.trans (n2.mono n1.size)
  replace n2 := n2.alloc n2.size (.cells #[.int .i64 0, .int .i64 0] 33)
  go_wp2_with fail
  refine cC.out _ _ (Lib.hid fun w3 n3 => ?_)
  replace n3 := n2.trans (n3.mono n2.size)
  go_wp2_with fail
  refine cL.out _ _ (Lib.hid fun w4 n4 => ?_)
  replace n4 := n3.trans (n4.mono n3.size)
  go_wp2_with fail
  exact hR.out _ n4

set_option maxRecDepth 100000 in
set_option maxHeartbeats 1000000 in
theorem safe_walk5 (s : ByteArray) (w : World) (R : Ending → World → Prop) (hs : s.size ≤ maxLen)
    (hR : Hid (∀ w', Below w.heap.size w w' → R (.returned (.bool true)) w')) : Calls Try.prog 6 #[.string s] w R := by
  unfold maxLen at hs
  have cL := fun (W : World) R hR => lives5_calls W R hR
  replace cL := Lib.hid cL
  by_cases h1 : 2000 < s.size
  · have h1' : (2000 : Int) < s.size := by omega
    go_enter Try.func6, Try.ntmps6
    go_wp2_with fail
    refine cL.out _ _ (Lib.hid fun w1 n1 => ?_)
    go_wp2_with fail
    exact hR.out _ n1
  have h1' : ¬ (2000 : Int) < s.size := by omega
  have cQ := fun (W : World) R hR => quote_calls s W (by omega) R hR
  have hq := quote_size s
  obtain ⟨hbad, hsafe, hlen⟩ := quote_safe s
  have cR := fun (W : World) R hR => runes_calls (quoteS s) W (by omega) R hR
  rw [hbad] at cR
  have hlen2 : (runesS (quoteS s)).length ≤ (quoteS s).size := runesGo_len _ _ _
  clear hbad
  generalize runesS (quoteS s) = l at *
  generalize quoteS s = q at *
  replace cQ := Lib.hid cQ
  replace cR := Lib.hid cR
  replace hsafe := Lib.hid hsafe
  go_enter Try.func6, Try.ntmps6
  go_wp2_with fail
  refine cQ.out _ _ (Lib.hid fun w1 n1 => ?_)
  go_wp2_with fail
  refine cR.out _ _ (Lib.hid fun v w2 own n2 => ?_)
  replace n2 := n1.trans (n2.mono n1.size)
  obtain ⟨g, cap, rfl, hg1, hg2, hcap, hcell⟩ := own_at own (by omega)
  clear own
  replace hcell := Lib.hid hcell
  go_wp2_with fail
  go_loopg [5] l.length (fun k i wr => ∃ K : Nat, Hid (Below w2.heap.size w2 wr) ∧ i = .int .i64 K ∧ K + k = l.length)
  case atStart => exact ⟨0, Lib.hid (Below.refl _ _), rfl, by omega⟩
  case round =>
    obtain ⟨K, bel, rfl, c1⟩ := hrel
    by_cases hK : K < l.length
    · have hc : wr.cell? ⟨g, K, none⟩ = some (.int .i32 (l.getD K 0)) := by
        rw [bel.out.cell (p := ⟨g, K, none⟩) hg2, hcell.out K (by omega), runeV_get hK]
      have hk0 : kindS (l.getD K 0) = 0 := hsafe.out _ (by rw [List.getD, List.getElem?_eq_getElem hK]; exact List.getElem_mem hK)
      have cI := fun (W : World) R hR => isUnsafe_calls (l.getD K 0) W R hR
      rw [decide_eq_false (by rw [hk0]; decide)] at cI
      generalize l.getD K 0 = r at *
      replace cI := Lib.hid cI
      go_wp2_with fail
      refine cI.out _ _ (Lib.hid fun w3 n3 => ?_)
      replace n3 := bel.out.trans (n3.mono bel.out.size)
      go_wp2_with fail
      go_roundg (gk - 1)
      case measure => omega
      case rel => exact ⟨K + 1, Lib.hid n3, by go_num, by omega⟩
    · have n3 := n2.trans (bel.out.mono n2.size)
      go_wp2_with fail
      refine cQ.out _ _ (Lib.hid fun w4 n4 => ?_)
      replace n4 := n3.trans (n4.mono n3.size)
      have hl1 : (1 : Int) < l.length := by omega
      go_wp2_with fail
      refine cL.out _ _ (Lib.hid fun w5 n5 => ?_)
      replace n5 := n4.trans (n5.mono n4.size)
      go_wp2_with fail
      exact hR.out _ n5
end Go.Proofs.Ytheeabngdnhibaa.Esc
