/- The code of layer 10: Close; sources, next. -/
import Derived.Test.YtoeianacjnlepaaRelH
set_option maxRecDepth 100000
set_option linter.unusedVariables false
namespace Go.Proofs.Ytoeianacjnlepaa.Rel
open Go.RowKit Go.Lib

/-- The word of the elements below k with a property. -/
def maskN (p : Nat → Bool) : Nat → Nat
  | 0 => 0
  | k + 1 => if p k = true then maskN p k ||| bitN k else maskN p k
theorem maskN_bit (p : Nat → Bool) : ∀ (k i : Nat), (maskN p k).testBit i = (decide (i < k) && p i)
  | 0, i => by rw [maskN, Nat.zero_testBit]; simp
  | k + 1, i => by
    rw [maskN]
    rcases Nat.lt_trichotomy i k with q | q | q
    · rw [decide_eq_true (by omega : i < k + 1), Bool.true_and]
      split
      · rw [or_bit, maskN_bit p k, decide_eq_true q, decide_eq_false (by omega : ¬ k = i)]; simp
      · rw [maskN_bit p k, decide_eq_true q]; rfl
    · subst q
      rw [decide_eq_true (by omega : i < i + 1), Bool.true_and]
      split
      · next h => rw [or_bit, maskN_bit p i, h]; simp
      · next h => rw [maskN_bit p i]; simp at h; simp [h]
    · rw [decide_eq_false (by omega : ¬ i < k + 1), Bool.false_and]
      split
      · rw [or_bit, maskN_bit p k, decide_eq_false (by omega : ¬ i < k), decide_eq_false (by omega : ¬ k = i)]; rfl
      · rw [maskN_bit p k, decide_eq_false (by omega : ¬ i < k)]; rfl
theorem maskN_wd (p : Nat → Bool) : ∀ (k : Nat), k ≤ 64 → Wd (maskN p k)
  | 0, _ => zero_wd
  | k + 1, h => by
    rw [maskN]
    split
    · exact or_wd (maskN_wd p k (by omega)) (bit_wd (by omega))
    · exact maskN_wd p k (by omega)
theorem ld_lt {n : Nat} {P : List (Nat × Nat)} {a b : Nat} (h : ld n P a b = true) : b < n := by
  have := on_lt h
  rwa [ldR_len] at this
/-- The row of a closure. -/
def rowN (n : Nat) (P : List (Nat × Nat)) (a : Nat) : Nat := maskN (ld n P a) n
theorem rowN_bit (n : Nat) (P : List (Nat × Nat)) (a i : Nat) : (rowN n P a).testBit i = ld n P a i := by
  unfold rowN
  rw [maskN_bit]
  cases h : ld n P a i
  · simp
  · rw [decide_eq_true (ld_lt h)]; rfl
theorem relrowx_calls (n : Nat) (P : List (Nat × Nat)) (a : Nat) (hP : InR n P) (hn : n ≤ 64) (ha : a < n) (v : Value) (w : World) (h : RelP w v n P) :
    Calls Try.prog 54 #[v, .int .i64 a] w fun e w' => e = .returned (.int .u64 (rowN n P a : Nat)) ∧ w' = w :=
  relrow_calls n P a hP hn ha v w h _ (Lib.hid fun x _ hx => ⟨by rw [show x = rowN n P a from Nat.eq_of_testBit_eq fun i => by rw [hx, rowN_bit]], rfl⟩)
/-- A closure under way: the first K rows. -/
def CloR (n : Nat) (P : List (Nat × Nat)) (K : Nat) (f : Nat → Nat) : Prop := ∀ a, a < 64 → Wd (f a) ∧ ∀ b, (f a).testBit b = (decide (a < K) && ld n P a b)
theorem CloR.nil (n : Nat) (P : List (Nat × Nat)) : CloR n P 0 (fun _ => 0) := fun a _ => ⟨zero_wd, fun b => by rw [Nat.zero_testBit]; simp⟩
theorem CloR.put {n : Nat} {P : List (Nat × Nat)} {K : Nat} {f : Nat → Nat} (h : CloR n P K f) (hn : n ≤ 64) : CloR n P (K + 1) (upd f K (rowN n P K)) := by
  intro a ha
  obtain ⟨g1, g2⟩ := h a ha
  unfold upd
  by_cases e : a = K
  · subst e
    rw [if_pos rfl]
    exact ⟨maskN_wd _ _ hn, fun b => by rw [rowN_bit, decide_eq_true (by omega : a < a + 1)]; rfl⟩
  · rw [if_neg e]
    refine ⟨g1, fun b => ?_⟩
    rw [g2]
    by_cases q : a < K
    · rw [decide_eq_true q, decide_eq_true (by omega : a < K + 1)]
    · rw [decide_eq_false q, decide_eq_false (by omega : ¬ a < K + 1)]
theorem CloR.fin {n : Nat} {P : List (Nat × Nat)} {f : Nat → Nat} (h : CloR n P n f) : Rows (cloL n P) f := by
  intro a ha
  obtain ⟨g1, g2⟩ := h a ha
  refine ⟨g1, fun b => ?_⟩
  rw [g2, Bool.eq_iff_iff, Bool.and_eq_true, decide_eq_true_iff, decide_eq_true_iff, clo_mem]
  exact ⟨fun ⟨h1, h2⟩ => ⟨h1, ld_lt h2, h2⟩, fun ⟨h1, _, h2⟩ => ⟨h1, h2⟩⟩

set_option maxRecDepth 100000 in
set_option maxHeartbeats 1000000 in
theorem relclose_calls (n : Nat) (P : List (Nat × Nat)) (hP : InR n P) (hn : n ≤ 64) (v : Value) (w : World) (h : RelP w v n P) (R : Ending → World → Prop)
    (hR : Hid (∀ v' w', RelP w' v' n (cloL n P) → Below w.heap.size w w' → R (.returned v') w')) : Calls Try.prog 35 #[v] w R := by
  have cr := Lib.hid fun (W : World) (hb : Below w.heap.size w W) (a : Nat) (ha : a < n) => relrowx_calls n P a hP hn ha v W (h.below hb)
  obtain ⟨p, f0, rfl, hp, h0, -, -⟩ := h
  obtain ⟨C, hC⟩ : ∃ C, C = relC n := ⟨_, rfl⟩
  have hB : ∀ l, l = [(0, Value.int .i64 n)] → Try.prog.built 94 l = some C := fun l h => by rw [h, hC]; exact built_rel n
  replace hB := Lib.hid hB
  have hCs : C.size = 65 := by rw [hC]; kernel_rfl
  have hCv : C.toList = relV n (fun _ => 0) := by rw [hC]; exact relV_zero n
  have hO := own_made (n := 65) (w := w) (t := 94) hCv (relV_len _ _) (by unfold maxLen; omega)
  replace hO := Lib.hid hO
  have b1 := Lib.hid ((Below.refl w.heap.size w).alloc (Nat.le_refl _) (.cells C 94))
  have h9 := (b1.out.cell (p := ⟨p, 0, none⟩) hp).trans h0
  clear hC hCv
  go_enter Try.func35, Try.ntmps35
  go_wp2_with (refine wpList_buildTo rfl 94 _ rfl (some 11) rfl C (hB.out _ (by simp [go_sem])) ?_)
  go_loopg [17] n (fun g i wr => ∃ (K : Nat) (f : Nat → Nat), i = .int .i64 K ∧ K + g = n ∧ Hid (Below w.heap.size w wr) ∧ Hid (OwnR wr w.heap.size w.heap.size n f) ∧ Hid (CloR n P K f))
  case atStart => exact ⟨0, _, rfl, by omega, b1, hO, Lib.hid (CloR.nil n P)⟩
  case round =>
    obtain ⟨K, f, rfl, c1, nb, ow, hf⟩ := hrel
    clear hO b1 hB h9
    by_cases hK : K < n
    · have hK64 : K < 64 := by omega
      have hi0 : (0 : Int) ≤ (K : Int) := by omega
      have hi1 : (K : Int) < 64 := by omega
      have ow3 := ow.out.drew
      have nW3 := nb.out.drew
      have r3 := World.ownsRow.frozenAt ow3 (1 + K)
      have r4 := (World.ownsRow.cellAt ow3 (1 + K) (by omega)).trans (relV_get n f hK64)
      obtain ⟨o4, -⟩ := World.ownsRow.stored ow3 (1 + K) (.int .u64 (rowN n P K : Nat))
      rw [relV_set n f hK64] at o4
      have n4 := Lib.hid (nW3.setCell (p := ⟨w.heap.size, 1 + K, none⟩) (Nat.le_refl _) (.int .u64 (rowN n P K : Nat)))
      have hf4 := Lib.hid (hf.out.put hn)
      have c3 := Lib.hid (cr.out wr.drew nW3 K hK)
      replace o4 := Lib.hid o4
      clear ow ow3 nb nW3 hf cr
      go_wp2_with fail
      go_still_tail 8, (by kernel_rfl)
      still_call c3.out
      repeat still_step
      refine wpStill_nil ?_
      change wpList _ _ _ _ _ wr.drew
      clear c3
      generalize wr.drew = W2 at *
      generalize rowN n P K = y at *
      go_wp2_with fail
      go_roundg (gk - 1)
      case measure => omega
      case rel => exact ⟨K + 1, _, by go_num, by omega, n4, o4, hf4⟩
    · obtain rfl : K = n := by omega
      have fin := Lib.hid (hR.out _ _ (RelP.of_own ow.out hf.out.fin) nb.out)
      clear cr ow nb hf
      go_wp2_with fail
      exact fin.out
set_option maxHeartbeats 400000 in
theorem relclosenonex_calls (w : World) (R : Ending → World → Prop) (hR : Hid (R (.returned (.pointer none)) w)) : Calls Try.prog 35 #[.pointer none] w R := by
  go_enter Try.func35, Try.ntmps35
  go_wp2_with fail
  exact hR.out

end Go.Proofs.Ytoeianacjnlepaa.Rel
