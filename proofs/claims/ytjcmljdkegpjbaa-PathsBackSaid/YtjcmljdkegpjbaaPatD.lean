/- The reference's step. -/
import Derived.Test.YtjcmljdkegpjbaaPatA
import Derived.Test.YtjcmljdkegpjbaaDigQ
import Derived.Deep.WholeRow
set_option linter.unusedVariables false
namespace Go.Proofs.Ytjcmljdkegpjbaa.Pat
open Go.RowKit Go.Lib Go.Proofs.Ytjcmljdkegpjbaa.Utf Go.Proofs.Ytjcmljdkegpjbaa.Nam Go.Proofs.Ytjcmljdkegpjbaa.Dig

/-- What step hands back. -/
def stT (d : St × Int × Int × Int) : Value := .tuple #[stV d.1, .int .i64 d.2.1, .agg #[.int .i64 d.2.2.1, .int .i64 d.2.2.2]]
theorem signs_any (s : ByteArray) (k : Nat) (hk : k ≤ s.size) (hs : s.size ≤ maxLen) (w : World) (R : Ending → World → Prop)
    (hR : Hid (R (.returned (.int .i64 (sigS s k : Nat))) w)) : k < s.size → Calls Try.prog 32 #[.string s, .int .i64 k] w R := fun h => signs_calls s k h hs w R hR
theorem stpS_eq (s : ByteArray) (i : Nat) : stpS s i =
  if byN s i = 46 ∨ byN s i = 33 then
    (if sigS s (i + 1) < 1 ∨ 32 < sigS s (i + 1) then ((0, 0, ⟨#[]⟩), 0, 9, ((i + 1 : Nat) : Int))
      else ((if byN s i = 33 then 5 else 1, 0, s.extract (i + 1) (i + 1 + sigS s (i + 1))), ((i + 1 + sigS s (i + 1) : Nat) : Int), 0, 0))
  else if byN s i = 63 then ((4, 0, ⟨#[]⟩), ((i + 1 : Nat) : Int), 0, 0)
  else if byN s i ≠ 91 then ((0, 0, ⟨#[]⟩), 0, 4, (i : Int))
  else if i + 1 < s.size ∧ byN s (i + 1) = 93 then ((3, 0, ⟨#[]⟩), ((i + 2 : Nat) : Int), 0, 0)
  else if (tkN s (i + 1)).2.2.1 ≠ 0 then ((0, 0, ⟨#[]⟩), 0, (tkN s (i + 1)).2.2.1, (tkN s (i + 1)).2.2.2)
  else if (tkN s (i + 1)).1 < 0 then ((0, 0, ⟨#[]⟩), 0, 20, ((i + 1 : Nat) : Int))
  else if (s.size : Int) ≤ (tkN s (i + 1)).2.1 ∨ byN s (tkN s (i + 1)).2.1.toNat ≠ 93 then ((0, 0, ⟨#[]⟩), 0, 4, (tkN s (i + 1)).2.1)
  else ((2, (tkN s (i + 1)).1, ⟨#[]⟩), (tkN s (i + 1)).2.1 + 1, 0, 0) := rfl

theorem alloc_c {W : World} {o : Obj} {g x : Nat} {u : Value} (hc : W.cell? ⟨g, x, none⟩ = some u) : (W.alloc o).cell? ⟨g, x, none⟩ = some u :=
  (((Below.refl W.heap.size W).alloc (Nat.le_refl _) o).cell (p := ⟨g, x, none⟩) (World.block_lt_of_cell? W (a := ⟨g, x, none⟩) hc)).trans hc
theorem alloc_f {W : World} {o : Obj} {g x : Nat} (hg : g < W.heap.size) (hc : W.frozen? ⟨g, x, none⟩ = false) : (W.alloc o).frozen? ⟨g, x, none⟩ = false :=
  (((Below.refl W.heap.size W).alloc (Nat.le_refl _) o).frozen (p := ⟨g, x, none⟩) hg).trans hc
theorem box_c (W : World) (a b : Int) : (W.alloc (.cells #[.int .i64 a, .int .i64 b] 26)).cell? ⟨W.heap.size, 0, none⟩ = some (.int .i64 a) := by rw [World.cell?_alloc_new]; rfl
theorem box_c1 (W : World) (a b : Int) : (W.alloc (.cells #[.int .i64 a, .int .i64 b] 26)).cell? ⟨W.heap.size, 1, none⟩ = some (.int .i64 b) := by rw [World.cell?_alloc_new]; rfl
theorem five {H : Nat} {w W : World} (nb : Below H w W) (a b c d e : Value) : Below H w (((((W.setCell ⟨H, 0, none⟩ a).setCell ⟨H, 1, none⟩ b).setCell ⟨H, 2, none⟩ c).setCell ⟨H + 1, 0, none⟩ d).setCell ⟨H + 1, 1, none⟩ e) :=
  ((((nb.setCell (p := ⟨H, 0, none⟩) (Nat.le_refl _) _).setCell (p := ⟨H, 1, none⟩) (Nat.le_refl _) _).setCell (p := ⟨H, 2, none⟩) (Nat.le_refl _) _).setCell (p := ⟨H + 1, 0, none⟩) (Nat.le_succ _) _).setCell (p := ⟨H + 1, 1, none⟩) (Nat.le_succ _) _
theorem two_heap (w : World) (a b : Obj) : ((w.alloc a).alloc b).heap[w.heap.size]? = some a ∧ ((w.alloc a).alloc b).heap[w.heap.size + 1]? = some b := by
  constructor
  · show ((w.heap.push a).push b)[w.heap.size]? = some a
    rw [Array.getElem?_push, if_neg (by simp), Array.getElem?_push_size]
  · show ((w.heap.push a).push b)[w.heap.size + 1]? = some b
    rw [show w.heap.size + 1 = (w.heap.push a).size by simp, Array.getElem?_push_size]
set_option maxRecDepth 100000 in
set_option maxHeartbeats 2000000 in
theorem refstep_calls (s : ByteArray) (k : Nat) (hk : k < s.size) (hs : s.size ≤ 1000000) (w : World) (R : Ending → World → Prop)
    (hR : Hid (∀ w', Below w.heap.size w w' → R (.returned (stT (stpS s k))) w')) : Calls Try.prog 17 #[.string s, .int .i64 k] w R := by
  rw [stpS_eq] at hR
  have hg := byN_get s k hk
  have hb := byN_lt s k
  have b1 := (Below.refl w.heap.size w).alloc (Nat.le_refl _) (.cells #[.int .i64 0, .int .i64 0, .string ⟨#[]⟩] 36)
  have b2 := b1.alloc b1.size (.cells #[.int .i64 0, .int .i64 0] 26)
  by_cases c1 : byN s k = 46 ∨ byN s k = 33
  · rw [if_pos c1] at hR
    have hcast : ((k : Int) + 1) = ((k + 1 : Nat) : Int) := by omega
    have cS : k + 1 < s.size → ∀ (W : World) R, Hid (R (.returned (.int .i64 (sigS s (k + 1) : Nat))) W) → Calls Try.prog 32 #[.string s, .int .i64 ((k : Int) + 1)] W R := fun h W R hR => by
      rw [hcast]; exact signs_calls s (k + 1) h (by unfold maxLen; omega) W R hR
    have hz : s.size ≤ k + 1 → sigS s (k + 1) = 0 := sig_zero
    have hl := sig_le (s := s) (j := k + 1) (by omega)
    clear hcast
    generalize sigS s (k + 1) = n at *
    by_cases hs1 : k + 1 < s.size
    · have cS' := Lib.hid (cS hs1)
      clear cS hz
      by_cases hn : n < 1 ∨ 32 < n
      · rw [if_pos hn] at hR
        rcases c1 with c1 | c1 <;> rcases hn with hn | hn
        all_goals
          rw [c1] at hg hb
          go_enter Try.func17, Try.ntmps17
          go_wp2_with fail
          refine cS'.out _ _ (Lib.hid ?_)
          go_wp2_with fail
          refine bodyPost_ret ?_ rfl (hR.out _ ?_)
          · simp [results, Try.results17, go_sem, stT, stV]
          · exact ((Below.refl w.heap.size w).alloc (Nat.le_refl _) _).alloc (by simp) _
      · rw [if_neg hn] at hR
        have n1 : ¬ n < 1 := fun h => hn (.inl h)
        have n32 : ¬ 32 < n := fun h => hn (.inr h)
        clear hn
        rcases c1 with c1 | c1
        · rw [if_neg (by omega : ¬ byN s k = 33)] at hR
          rw [c1] at hg hb
          go_enter Try.func17, Try.ntmps17
          go_wp2_with fail
          refine cS'.out _ _ (Lib.hid ?_)
          go_wp2_with fail
          refine bodyPost_ret ?_ rfl (hR.out _ ?_)
          · simp [results, Try.results17, go_sem, stT, stV]
          · exact (((Below.refl w.heap.size w).alloc (Nat.le_refl _) _).alloc (by simp) _).alloc (by simp; omega) _
        · rw [if_pos c1] at hR
          rw [c1] at hg hb
          go_enter Try.func17, Try.ntmps17
          go_wp2_with fail
          refine cS'.out _ _ (Lib.hid ?_)
          go_wp2_with fail
          refine bodyPost_ret ?_ rfl (hR.out _ ?_)
          · simp [results, Try.results17, go_sem, stT, stV]
          · exact (((Below.refl w.heap.size w).alloc (Nat.le_refl _) _).alloc (by simp) _).alloc (by simp; omega) _
    · have hn0 := hz (by omega)
      subst hn0
      rw [if_pos (.inl (by decide))] at hR
      clear cS hz hl
      rcases c1 with c1 | c1
      all_goals
        rw [c1] at hg hb
        go_enter Try.func17, Try.ntmps17
        go_wp2_with fail
        refine bodyPost_ret ?_ rfl (hR.out _ ?_)
        · simp [results, Try.results17, go_sem, stT, stV]
        · exact ((Below.refl w.heap.size w).alloc (Nat.le_refl _) _).alloc (by simp) _
  · rw [if_neg c1] at hR
    have n46 : ¬ byN s k = 46 := fun h => c1 (.inl h)
    have n33 : ¬ byN s k = 33 := fun h => c1 (.inr h)
    have m46 : (((byN s k : Nat) : Int) == 46) = false := by simp; omega
    have m33 : (((byN s k : Nat) : Int) == 33) = false := by simp; omega
    by_cases c2 : byN s k = 63
    · rw [if_pos c2] at hR
      rw [c2] at hg
      clear m46 m33
      go_enter Try.func17, Try.ntmps17
      go_wp2_with fail
      refine bodyPost_ret ?_ rfl (hR.out _ ?_)
      · simp [results, Try.results17, go_sem, stT, stV]
      · exact ((Below.refl w.heap.size w).alloc (Nat.le_refl _) _).alloc (by simp) _
    · rw [if_neg c2] at hR
      have m63 : (((byN s k : Nat) : Int) == 63) = false := by simp; omega
      by_cases c3 : byN s k ≠ 91
      · rw [if_pos c3] at hR
        have m91 : (((byN s k : Nat) : Int) != 91) = true := by simp; omega
        clear c1 c2 c3 n46 n33
        generalize byN s k = c at *
        go_enter Try.func17, Try.ntmps17
        go_wp2_with fail
        refine bodyPost_ret ?_ rfl (hR.out _ ?_)
        · simp [results, Try.results17, go_sem, stT, stV]
        · exact ((Below.refl w.heap.size w).alloc (Nat.le_refl _) _).alloc (by simp) _
      · rw [if_neg c3] at hR
        rw [Decidable.not_not.1 c3] at hg hb
        clear c1 c2 n46 n33 m46 m33 m63
        by_cases c4 : k + 1 < s.size ∧ byN s (k + 1) = 93
        · rw [if_pos c4] at hR
          obtain ⟨hs1, h93⟩ := c4
          have hg1 := byN_get s (k + 1) hs1
          rw [h93] at hg1
          go_enter Try.func17, Try.ntmps17
          go_wp2_with fail
          refine bodyPost_ret ?_ rfl (hR.out _ ?_)
          · simp [results, Try.results17, go_sem, stT, stV]
          · exact ((Below.refl w.heap.size w).alloc (Nat.le_refl _) _).alloc (by simp) _
        · rw [if_neg c4] at hR
          have ht : tkS s ((k + 1 : Nat) : Int) = tkN s (k + 1) := by unfold tkS; rw [if_neg (by omega)]; rfl
          have cT := fun (W : World) R hR => reftake_calls s ((k + 1 : Nat) : Int) (by omega) W (by omega) R hR
          rw [ht, show ((k + 1 : Nat) : Int) = (k : Int) + 1 by omega] at cT
          have hT : (tkN s (k + 1)).2.2.1 = 0 → ∃ e : Nat, (tkN s (k + 1)).2.1 = e ∧ k + 1 < e ∧ e ≤ s.size := fun h => by
            obtain ⟨r, -, e2, -, -, e5⟩ := take_text (s := s) (i := k + 1) (by omega) h
            have := putL_len (tkN s (k + 1)).1
            exact ⟨_, e2, by omega, e5⟩
          have hnb : ∀ h : k + 1 < s.size, ¬ s[k + 1].toNat = 93 := fun h e => c4 ⟨h, by rw [← byN_get s (k + 1) h]; exact e⟩
          have hnx : k + 1 < s.size → ((byN s (k + 1) : Nat) : Int) ≠ 93 := fun h e => c4 ⟨h, by omega⟩
          clear ht c3 c4
          generalize tkN s (k + 1) = d at *
          obtain ⟨n, e, f, z⟩ := d
          simp only at hR hT
          unfold tkT at cT
          simp only at cT
          replace cT := Lib.hid cT
          have fin : ∀ w1 : World, Below ((w.alloc (.cells #[.int .i64 0, .int .i64 0, .string ⟨#[]⟩] 36)).alloc (.cells #[.int .i64 0, .int .i64 0] 26)).heap.size ((w.alloc (.cells #[.int .i64 0, .int .i64 0, .string ⟨#[]⟩] 36)).alloc (.cells #[.int .i64 0, .int .i64 0] 26)) w1 →
              (w1.cell? ⟨w.heap.size, 0, none⟩ = some (.int .i64 0) ∧ w1.cell? ⟨w.heap.size, 1, none⟩ = some (.int .i64 0) ∧ w1.cell? ⟨w.heap.size, 2, none⟩ = some (.string ⟨#[]⟩)) ∧
              (w1.cell? ⟨w.heap.size + 1, 0, none⟩ = some (.int .i64 0) ∧ w1.cell? ⟨w.heap.size + 1, 1, none⟩ = some (.int .i64 0)) ∧
              (∀ j, w1.frozen? ⟨w.heap.size, j, none⟩ = false) ∧ (∀ j, w1.frozen? ⟨w.heap.size + 1, j, none⟩ = false) ∧ w.heap.size + 1 < w1.heap.size ∧ Below w.heap.size w w1 := fun w1 n1 => by
            obtain ⟨h1, h2⟩ := two_heap w (.cells #[.int .i64 0, .int .i64 0, .string ⟨#[]⟩] 36) (.cells #[.int .i64 0, .int .i64 0] 26)
            have hs := n1.size
            have q1 := (n1.block w.heap.size (by simp; omega)).trans h1
            have q2 := (n1.block (w.heap.size + 1) (by simp)).trans h2
            refine ⟨⟨?_, ?_, ?_⟩, ⟨?_, ?_⟩, fun j => Lib.frozen_of_heap q1 j, fun j => Lib.frozen_of_heap q2 j, by simp at hs; omega, b2.trans (n1.mono (by simp; omega))⟩
            · rw [Lib.cell_of_heap q1]; rfl
            · rw [Lib.cell_of_heap q1]; rfl
            · rw [Lib.cell_of_heap q1]; rfl
            · rw [Lib.cell_of_heap q2]; rfl
            · rw [Lib.cell_of_heap q2]; rfl
          replace fin := Lib.hid fin
          clear b1 b2
          by_cases hf : f = 0
          · subst hf
            rw [if_neg (by decide)] at hR
            obtain ⟨E, rfl, hE1, hE2⟩ := hT rfl
            have hs1 : k + 1 < s.size := by omega
            have hx := hnx hs1
            have hg1 := byN_get s (k + 1) hs1
            have hm : (((byN s (k + 1) : Nat) : Int) == 93) = false := by simpa using hx
            clear hnb hnx hx hT
            generalize byN s (k + 1) = x1 at *
            by_cases hn : n < 0
            · rw [if_pos hn] at hR
              go_enter Try.func17, Try.ntmps17
              go_wp2_with fail
              refine cT.out _ _ (Lib.hid fun w1 n1 => ?_)
              obtain ⟨⟨r0, r1, r2⟩, ⟨r3, r4⟩, r5, r6, r7, r8⟩ := fin.out w1 n1
              replace r5 := Lib.hid r5
              replace r6 := Lib.hid r6
              clear n1
              go_wp2_with fail
              have s0 := alloc_c (o := .cells #[.int .i64 20, .int .i64 ((k : Int) + 1)] 26) r0
              have s1 := alloc_c (o := .cells #[.int .i64 20, .int .i64 ((k : Int) + 1)] 26) r1
              have s2 := alloc_c (o := .cells #[.int .i64 20, .int .i64 ((k : Int) + 1)] 26) r2
              have s3 := alloc_c (o := .cells #[.int .i64 20, .int .i64 ((k : Int) + 1)] 26) r3
              have s4 := alloc_c (o := .cells #[.int .i64 20, .int .i64 ((k : Int) + 1)] 26) r4
              have y0 := alloc_f (o := .cells #[.int .i64 20, .int .i64 ((k : Int) + 1)] 26) (show w.heap.size < w1.heap.size by omega) (r5.out 0)
              have y1 := alloc_f (o := .cells #[.int .i64 20, .int .i64 ((k : Int) + 1)] 26) (show w.heap.size < w1.heap.size by omega) (r5.out 1)
              have y2 := alloc_f (o := .cells #[.int .i64 20, .int .i64 ((k : Int) + 1)] 26) (show w.heap.size < w1.heap.size by omega) (r5.out 2)
              have y3 := alloc_f (o := .cells #[.int .i64 20, .int .i64 ((k : Int) + 1)] 26) r7 (r6.out 0)
              have y4 := alloc_f (o := .cells #[.int .i64 20, .int .i64 ((k : Int) + 1)] 26) r7 (r6.out 1)
              have x0 := box_c w1 20 ((k : Int) + 1)
              have x1' := box_c1 w1 20 ((k : Int) + 1)
              have nb := Lib.hid (r8.alloc r8.size (.cells #[.int .i64 20, .int .i64 ((k : Int) + 1)] 26))
              generalize w1.alloc (.cells #[.int .i64 20, .int .i64 ((k : Int) + 1)] 26) = W at *
              go_region
              go_wp2_with fail
              refine bodyPost_ret ?_ rfl (hR.out _ ?_)
              · simp [results, Try.results17, go_sem, stT, stV, s0, s1, s2, s3, s4]
              · exact (five nb.out _ _ _ _ _).drew
            · rw [if_neg hn] at hR
              by_cases hE3 : E < s.size
              · have hg2 := byN_get s E hE3
                have hgb := byN_lt s E
                rw [Int.toNat_natCast] at hR
                by_cases hc : byN s E = 93
                · rw [if_neg (by omega)] at hR
                  rw [hc] at hg2
                  clear hc
                  go_enter Try.func17, Try.ntmps17
                  go_wp2_with fail
                  refine cT.out _ _ (Lib.hid fun w1 n1 => ?_)
                  obtain ⟨⟨r0, r1, r2⟩, ⟨r3, r4⟩, r5, r6, r7, r8⟩ := fin.out w1 n1
                  replace r5 := Lib.hid r5
                  replace r6 := Lib.hid r6
                  clear n1
                  have s0 := alloc_c (o := .cells #[.int .i64 0, .int .i64 z] 26) r0
                  have s1 := alloc_c (o := .cells #[.int .i64 0, .int .i64 z] 26) r1
                  have s2 := alloc_c (o := .cells #[.int .i64 0, .int .i64 z] 26) r2
                  have s3 := alloc_c (o := .cells #[.int .i64 0, .int .i64 z] 26) r3
                  have s4 := alloc_c (o := .cells #[.int .i64 0, .int .i64 z] 26) r4
                  have y0 := alloc_f (o := .cells #[.int .i64 0, .int .i64 z] 26) (show w.heap.size < w1.heap.size by omega) (r5.out 0)
                  have y1 := alloc_f (o := .cells #[.int .i64 0, .int .i64 z] 26) (show w.heap.size < w1.heap.size by omega) (r5.out 1)
                  have y2 := alloc_f (o := .cells #[.int .i64 0, .int .i64 z] 26) (show w.heap.size < w1.heap.size by omega) (r5.out 2)
                  have y3 := alloc_f (o := .cells #[.int .i64 0, .int .i64 z] 26) r7 (r6.out 0)
                  have y4 := alloc_f (o := .cells #[.int .i64 0, .int .i64 z] 26) r7 (r6.out 1)
                  have x0 := box_c w1 0 z
                  have x1' := box_c1 w1 0 z
                  have nb := Lib.hid (r8.alloc r8.size (.cells #[.int .i64 0, .int .i64 z] 26))
                  go_wp2_with fail
                  refine bodyPost_ret ?_ rfl (hR.out _ ?_)
                  · simp [results, Try.results17, go_sem, stT, stV, s0, s1, s2, s3, s4]
                  · exact five nb.out _ _ _ _ _
                · rw [if_pos (.inr hc)] at hR
                  have hm2 : (((byN s E : Nat) : Int) != 93) = true := by simp; omega
                  clear hc
                  generalize byN s E = x2 at *
                  go_enter Try.func17, Try.ntmps17
                  go_wp2_with fail
                  refine cT.out _ _ (Lib.hid fun w1 n1 => ?_)
                  obtain ⟨⟨r0, r1, r2⟩, ⟨r3, r4⟩, r5, r6, r7, r8⟩ := fin.out w1 n1
                  replace r5 := Lib.hid r5
                  replace r6 := Lib.hid r6
                  clear n1
                  go_wp2_with fail
                  have s0 := alloc_c (o := .cells #[.int .i64 4, .int .i64 (E : Int)] 26) r0
                  have s1 := alloc_c (o := .cells #[.int .i64 4, .int .i64 (E : Int)] 26) r1
                  have s2 := alloc_c (o := .cells #[.int .i64 4, .int .i64 (E : Int)] 26) r2
                  have s3 := alloc_c (o := .cells #[.int .i64 4, .int .i64 (E : Int)] 26) r3
                  have s4 := alloc_c (o := .cells #[.int .i64 4, .int .i64 (E : Int)] 26) r4
                  have y0 := alloc_f (o := .cells #[.int .i64 4, .int .i64 (E : Int)] 26) (show w.heap.size < w1.heap.size by omega) (r5.out 0)
                  have y1 := alloc_f (o := .cells #[.int .i64 4, .int .i64 (E : Int)] 26) (show w.heap.size < w1.heap.size by omega) (r5.out 1)
                  have y2 := alloc_f (o := .cells #[.int .i64 4, .int .i64 (E : Int)] 26) (show w.heap.size < w1.heap.size by omega) (r5.out 2)
                  have y3 := alloc_f (o := .cells #[.int .i64 4, .int .i64 (E : Int)] 26) r7 (r6.out 0)
                  have y4 := alloc_f (o := .cells #[.int .i64 4, .int .i64 (E : Int)] 26) r7 (r6.out 1)
                  have x0 := box_c w1 4 (E : Int)
                  have x1' := box_c1 w1 4 (E : Int)
                  have nb := Lib.hid (r8.alloc r8.size (.cells #[.int .i64 4, .int .i64 (E : Int)] 26))
                  generalize w1.alloc (.cells #[.int .i64 4, .int .i64 (E : Int)] 26) = W at *
                  go_region
                  go_wp2_with fail
                  refine bodyPost_ret ?_ rfl (hR.out _ ?_)
                  · simp [results, Try.results17, go_sem, stT, stV, s0, s1, s2, s3, s4]
                  · exact (five nb.out _ _ _ _ _).drew
              · rw [if_pos (.inl (by omega))] at hR
                go_enter Try.func17, Try.ntmps17
                go_wp2_with fail
                refine cT.out _ _ (Lib.hid fun w1 n1 => ?_)
                obtain ⟨⟨r0, r1, r2⟩, ⟨r3, r4⟩, r5, r6, r7, r8⟩ := fin.out w1 n1
                replace r5 := Lib.hid r5
                replace r6 := Lib.hid r6
                clear n1
                go_wp2_with fail
                have s0 := alloc_c (o := .cells #[.int .i64 4, .int .i64 (E : Int)] 26) r0
                have s1 := alloc_c (o := .cells #[.int .i64 4, .int .i64 (E : Int)] 26) r1
                have s2 := alloc_c (o := .cells #[.int .i64 4, .int .i64 (E : Int)] 26) r2
                have s3 := alloc_c (o := .cells #[.int .i64 4, .int .i64 (E : Int)] 26) r3
                have s4 := alloc_c (o := .cells #[.int .i64 4, .int .i64 (E : Int)] 26) r4
                have y0 := alloc_f (o := .cells #[.int .i64 4, .int .i64 (E : Int)] 26) (show w.heap.size < w1.heap.size by omega) (r5.out 0)
                have y1 := alloc_f (o := .cells #[.int .i64 4, .int .i64 (E : Int)] 26) (show w.heap.size < w1.heap.size by omega) (r5.out 1)
                have y2 := alloc_f (o := .cells #[.int .i64 4, .int .i64 (E : Int)] 26) (show w.heap.size < w1.heap.size by omega) (r5.out 2)
                have y3 := alloc_f (o := .cells #[.int .i64 4, .int .i64 (E : Int)] 26) r7 (r6.out 0)
                have y4 := alloc_f (o := .cells #[.int .i64 4, .int .i64 (E : Int)] 26) r7 (r6.out 1)
                have x0 := box_c w1 4 (E : Int)
                have x1' := box_c1 w1 4 (E : Int)
                have nb := Lib.hid (r8.alloc r8.size (.cells #[.int .i64 4, .int .i64 (E : Int)] 26))
                generalize w1.alloc (.cells #[.int .i64 4, .int .i64 (E : Int)] 26) = W at *
                go_region
                go_wp2_with fail
                refine bodyPost_ret ?_ rfl (hR.out _ ?_)
                · simp [results, Try.results17, go_sem, stT, stV, s0, s1, s2, s3, s4]
                · exact (five nb.out _ _ _ _ _).drew
          · rw [if_pos hf] at hR
            have hf' : (f == 0) = false := by simpa using hf
            have hf'' : (f != 0) = true := by simpa using hf
            clear hf hT
            rcases Nat.lt_or_ge (k + 1) s.size with hs1 | hs1
            · have hx := hnx hs1
              have hg1 := byN_get s (k + 1) hs1
              have hm : (((byN s (k + 1) : Nat) : Int) == 93) = false := by simpa using hx
              clear hnb hnx hx
              generalize byN s (k + 1) = x1 at *
              go_enter Try.func17, Try.ntmps17
              go_wp2_with fail
              refine cT.out _ _ (Lib.hid fun w1 n1 => ?_)
              obtain ⟨⟨r0, r1, r2⟩, ⟨r3, r4⟩, r5, r6, r7, r8⟩ := fin.out w1 n1
              replace r5 := Lib.hid r5
              replace r6 := Lib.hid r6
              clear n1
              go_wp2_with fail
              have s0 := alloc_c (o := .cells #[.int .i64 f, .int .i64 z] 26) r0
              have s1 := alloc_c (o := .cells #[.int .i64 f, .int .i64 z] 26) r1
              have s2 := alloc_c (o := .cells #[.int .i64 f, .int .i64 z] 26) r2
              have s3 := alloc_c (o := .cells #[.int .i64 f, .int .i64 z] 26) r3
              have s4 := alloc_c (o := .cells #[.int .i64 f, .int .i64 z] 26) r4
              have y0 := alloc_f (o := .cells #[.int .i64 f, .int .i64 z] 26) (show w.heap.size < w1.heap.size by omega) (r5.out 0)
              have y1 := alloc_f (o := .cells #[.int .i64 f, .int .i64 z] 26) (show w.heap.size < w1.heap.size by omega) (r5.out 1)
              have y2 := alloc_f (o := .cells #[.int .i64 f, .int .i64 z] 26) (show w.heap.size < w1.heap.size by omega) (r5.out 2)
              have y3 := alloc_f (o := .cells #[.int .i64 f, .int .i64 z] 26) r7 (r6.out 0)
              have y4 := alloc_f (o := .cells #[.int .i64 f, .int .i64 z] 26) r7 (r6.out 1)
              have x0 := box_c w1 f z
              have x1' := box_c1 w1 f z
              have nb := Lib.hid (r8.alloc r8.size (.cells #[.int .i64 f, .int .i64 z] 26))
              generalize w1.alloc (.cells #[.int .i64 f, .int .i64 z] 26) = W at *
              go_region
              go_wp2_with fail
              refine bodyPost_ret ?_ rfl (hR.out _ ?_)
              · simp [results, Try.results17, go_sem, stT, stV, s0, s1, s2, s3, s4]
              · exact (five nb.out _ _ _ _ _).drew
            · clear hnb hnx
              go_enter Try.func17, Try.ntmps17
              go_wp2_with fail
              refine cT.out _ _ (Lib.hid fun w1 n1 => ?_)
              obtain ⟨⟨r0, r1, r2⟩, ⟨r3, r4⟩, r5, r6, r7, r8⟩ := fin.out w1 n1
              replace r5 := Lib.hid r5
              replace r6 := Lib.hid r6
              clear n1
              go_wp2_with fail
              have s0 := alloc_c (o := .cells #[.int .i64 f, .int .i64 z] 26) r0
              have s1 := alloc_c (o := .cells #[.int .i64 f, .int .i64 z] 26) r1
              have s2 := alloc_c (o := .cells #[.int .i64 f, .int .i64 z] 26) r2
              have s3 := alloc_c (o := .cells #[.int .i64 f, .int .i64 z] 26) r3
              have s4 := alloc_c (o := .cells #[.int .i64 f, .int .i64 z] 26) r4
              have y0 := alloc_f (o := .cells #[.int .i64 f, .int .i64 z] 26) (show w.heap.size < w1.heap.size by omega) (r5.out 0)
              have y1 := alloc_f (o := .cells #[.int .i64 f, .int .i64 z] 26) (show w.heap.size < w1.heap.size by omega) (r5.out 1)
              have y2 := alloc_f (o := .cells #[.int .i64 f, .int .i64 z] 26) (show w.heap.size < w1.heap.size by omega) (r5.out 2)
              have y3 := alloc_f (o := .cells #[.int .i64 f, .int .i64 z] 26) r7 (r6.out 0)
              have y4 := alloc_f (o := .cells #[.int .i64 f, .int .i64 z] 26) r7 (r6.out 1)
              have x0 := box_c w1 f z
              have x1' := box_c1 w1 f z
              have nb := Lib.hid (r8.alloc r8.size (.cells #[.int .i64 f, .int .i64 z] 26))
              generalize w1.alloc (.cells #[.int .i64 f, .int .i64 z] 26) = W at *
              go_region
              go_wp2_with fail
              refine bodyPost_ret ?_ rfl (hR.out _ ?_)
              · simp [results, Try.results17, go_sem, stT, stV, s0, s1, s2, s3, s4]
              · exact (five nb.out _ _ _ _ _).drew
end Go.Proofs.Ytjcmljdkegpjbaa.Pat
