/- The code's Parse. -/
import Derived.Test.YtjcmljdkegpjbaaPatJ
import Derived.Test.YtjcmljdkegpjbaaPatE
import Derived.WalkMore
set_option linter.unusedVariables false
namespace Go.Proofs.Ytjcmljdkegpjbaa.Pat
open Go.RowKit Go.Lib Go.Proofs.Ytjcmljdkegpjbaa.Utf Go.Proofs.Ytjcmljdkegpjbaa.Nam Go.Proofs.Ytjcmljdkegpjbaa.Dig

theorem two_fault (w w1 : World) (n1 : Below (w.heap.size + 2) ((w.alloc (.cells #[.int .i64 0, .int .i64 0] 26)).alloc (.cells #[.int .i64 0, .int .i64 0] 26)) w1) :
    (w1.cell? ⟨w.heap.size, 0, none⟩ = some (.int .i64 0) ∧ w1.cell? ⟨w.heap.size, 1, none⟩ = some (.int .i64 0)) ∧
    (w1.cell? ⟨w.heap.size + 1, 0, none⟩ = some (.int .i64 0) ∧ w1.cell? ⟨w.heap.size + 1, 1, none⟩ = some (.int .i64 0)) ∧
    (∀ j, w1.frozen? ⟨w.heap.size, j, none⟩ = false) ∧ (∀ j, w1.frozen? ⟨w.heap.size + 1, j, none⟩ = false) ∧ w.heap.size + 1 < w1.heap.size ∧ Below w.heap.size w w1 := by
  have b1 := (Below.refl w.heap.size w).alloc (Nat.le_refl _) (.cells #[.int .i64 0, .int .i64 0] 26)
  have b2 := b1.alloc b1.size (.cells #[.int .i64 0, .int .i64 0] 26)
  obtain ⟨h1, h2⟩ := two_heap w (.cells #[.int .i64 0, .int .i64 0] 26) (.cells #[.int .i64 0, .int .i64 0] 26)
  have hs := n1.size
  have q1 := (n1.block w.heap.size (by omega)).trans h1
  have q2 := (n1.block (w.heap.size + 1) (by omega)).trans h2
  refine ⟨⟨?_, ?_⟩, ⟨?_, ?_⟩, fun j => Lib.frozen_of_heap q1 j, fun j => Lib.frozen_of_heap q2 j, by simp at hs; omega, b2.trans (n1.mono (by omega))⟩
  · rw [Lib.cell_of_heap q1]; rfl
  · rw [Lib.cell_of_heap q1]; rfl
  · rw [Lib.cell_of_heap q2]; rfl
  · rw [Lib.cell_of_heap q2]; rfl
theorem st_two2 (H : Nat) (w1 : World) (f z : Value) (r0 : w1.cell? ⟨H, 0, none⟩ = some (.int .i64 0)) (r1 : w1.cell? ⟨H, 1, none⟩ = some (.int .i64 0))
    (r3 : w1.cell? ⟨H + 1, 0, none⟩ = some (.int .i64 0)) (r4 : w1.cell? ⟨H + 1, 1, none⟩ = some (.int .i64 0)) :
    ((w1.setCell ⟨H + 1, 0, none⟩ f).setCell ⟨H + 1, 1, none⟩ z).cell? ⟨H, 0, none⟩ = some (.int .i64 0) ∧ ((w1.setCell ⟨H + 1, 0, none⟩ f).setCell ⟨H + 1, 1, none⟩ z).cell? ⟨H, 1, none⟩ = some (.int .i64 0) ∧
    ((w1.setCell ⟨H + 1, 0, none⟩ f).setCell ⟨H + 1, 1, none⟩ z).cell? ⟨H + 1, 0, none⟩ = some f ∧ ((w1.setCell ⟨H + 1, 0, none⟩ f).setCell ⟨H + 1, 1, none⟩ z).cell? ⟨H + 1, 1, none⟩ = some z := by
  refine ⟨?_, ?_, ?_, ?_⟩
  · rw [World.cell?_setCell_far _ _ _ _ (by simp), World.cell?_setCell_far _ _ _ _ (by simp)]; exact r0
  · rw [World.cell?_setCell_far _ _ _ _ (by simp), World.cell?_setCell_far _ _ _ _ (by simp)]; exact r1
  · exact (World.cell?_setCell_other _ _ _ _ (by simp)).trans (World.cell?_setCell_same _ _ _ r3)
  · exact World.cell?_setCell_same _ _ _ ((World.cell?_setCell_other _ _ _ _ (by simp)).trans r4)

set_option maxRecDepth 100000 in
set_option maxHeartbeats 2000000 in
theorem parse_steps (s : ByteArray) (hs : s.size ≤ 1000000) (w : World) (R : Ending → World → Prop)
    (hR : Hid (∀ v' w', RdP w' v' (parS s).1 → Below w.heap.size w w' → R (.returned (.tuple #[v', .agg #[.int .i64 (parS s).2.1, .int .i64 (parS s).2.2]])) w')) : Calls Try.prog 6 #[.string s] w R := by
  obtain ⟨i0, hI, hz0, hz1, hz2⟩ := info_parts infoSt
  have fin := two_fault w
  have z0 : ((w.alloc (.cells #[.int .i64 0, .int .i64 0] 26)).alloc (.cells #[.int .i64 0, .int .i64 0] 26)).heap.size = w.heap.size + 2 := by simp
  obtain ⟨V, hV⟩ : ∃ V, parS s = V := ⟨_, rfl⟩
  rw [hV] at hR
  replace hV : parF s (s.size + 1) 0 [] = V := hV
  replace fin := Lib.hid fin
  replace z0 := Lib.hid z0
  go_enter Try.func6, Try.ntmps6
  go_wp2_with fail
  go_step3
  go_wp2_with fail
  go_step3
  go_wp2_with fail
  generalize (w.alloc (.cells #[.int .i64 0, .int .i64 0] 26)).alloc (.cells #[.int .i64 0, .int .i64 0] 26) = w0 at *
  go_loopg [4, 6] s.size (fun g l a wr => ∃ (i : Nat) (v : Value) (acc : List St), v = l ∧ a = .int .i64 i ∧ Below (w.heap.size + 2) w0 wr ∧ wr.ownsRow (w.heap.size + 2) 36 3 v acc.length (flatG encP acc) ∧ i ≤ s.size ∧ g = s.size - i ∧ acc.length ≤ 64 ∧ Hid (parF s (s.size + 1) i acc = V))
  case atStart => exact ⟨0, _, [], rfl, rfl, Below.refl _ _, World.ownsRow_nil _ _ _ _, by omega, rfl, by decide, Lib.hid hV⟩
  case round =>
    obtain ⟨i, v, acc, rfl, rfl, hbel, hown, c1, c2, c4, c3⟩ := hrel
    have hsz := hbel.size
    have hle : w.heap.size + 2 ≤ wr.heap.size := by have := z0.out; omega
    have e := c3.out
    clear c3 hV
    obtain ⟨A1, cc, rfl⟩ : ∃ A c, v = .slice A acc.length c := by
      obtain ⟨A, n, c, h, hl, -⟩ := RdAt.of_own hown
      rw [flatG_len encP_len] at hl
      obtain rfl : n = acc.length := (Nat.eq_of_mul_eq_mul_right (by decide) hl).symm
      exact ⟨A, c, h⟩
    by_cases hi : i < s.size
    · have cS := fun (W : World) R hR => tak_calls s i hi hs W R hR
      unfold stT stV at cS
      have hok := stp_ok hi
      have hst := fun ha => parF_at hi ha (hv := e)
      have hbad := fun ha => parF_bad (f := s.size + 1) (acc := acc) hi (by omega) ha
      generalize stpS s i = d at *
      obtain ⟨⟨k, n, nm⟩, en, f, z⟩ := d
      simp only at cS hok hst hbad
      replace cS := Lib.hid cS
      by_cases ha : 63 < acc.length
      · rw [parF_many hi (by omega) ha] at e
        subst e
        have hl : ((acc.length : Int) == 64) = true := by simp; omega
        simp only at hR
        clear hst hbad hok ha
        go_wp2_with fail
        refine cS.out _ _ (Lib.hid fun w1 n1 => ?_)
        have hbel1 := hbel.trans (n1.mono (by omega))
        clear n1 hown hbel
        have hle1 : w.heap.size + 2 ≤ w1.heap.size := by have := z0.out; have := hbel1.size; omega
        have bb := (hbel1.alloc hle1 (.cells #[.int .i64 k, .int .i64 n, .string nm] 36)).alloc (by simp; omega) (.cells #[.int .i64 f, .int .i64 z] 26)
        obtain ⟨⟨r0, r1⟩, ⟨r3, r4⟩, r5, r6, r7, r8⟩ := fin.out _ bb
        have y0 := r5 0
        have y1 := r5 1
        have y3 := r6 0
        have y4 := r6 1
        clear r5 r6
        obtain ⟨s0, s1, s3, s4⟩ := st_two2 w.heap.size _ (.int .i64 8) (.int .i64 (i : Int)) r0 r1 r3 r4
        replace s0 := Lib.hid s0
        replace s1 := Lib.hid s1
        replace s3 := Lib.hid s3
        replace s4 := Lib.hid s4
        replace r8 := Lib.hid r8
        clear bb hbel1
        go_wp2_with fail
        replace s0 := s0.out
        replace s1 := s1.out
        replace s3 := s3.out
        replace s4 := s4.out
        have x0 : ((((w1.alloc (.cells #[.int .i64 k, .int .i64 n, .string nm] 36)).alloc (.cells #[.int .i64 f, .int .i64 z] 26)).setCell ⟨w.heap.size + 1, 0, none⟩ (.int .i64 8)).setCell ⟨w.heap.size + 1, 1, none⟩ (.int .i64 (i : Int))).frozen? ⟨w.heap.size, 0, none⟩ = false := by simpa using y0
        have x1 : ((((w1.alloc (.cells #[.int .i64 k, .int .i64 n, .string nm] 36)).alloc (.cells #[.int .i64 f, .int .i64 z] 26)).setCell ⟨w.heap.size + 1, 0, none⟩ (.int .i64 8)).setCell ⟨w.heap.size + 1, 1, none⟩ (.int .i64 (i : Int))).frozen? ⟨w.heap.size, 1, none⟩ = false := by simpa using y1
        have nb := Lib.hid ((r8.out.setCell (p := ⟨w.heap.size + 1, 0, none⟩) (Nat.le_succ _) (.int .i64 8)).setCell (p := ⟨w.heap.size + 1, 1, none⟩) (Nat.le_succ _) (.int .i64 (i : Int)))
        clear r0 r1 r3 r4 y0 y1 y3 y4 r8
        generalize ((((w1.alloc (.cells #[.int .i64 k, .int .i64 n, .string nm] 36)).alloc (.cells #[.int .i64 f, .int .i64 z] 26)).setCell ⟨w.heap.size + 1, 0, none⟩ (.int .i64 8)).setCell ⟨w.heap.size + 1, 1, none⟩ (.int .i64 (i : Int))) = W at *
        go_region
        go_wp2_with fail
        refine bodyPost_ret ?_ rfl (hR.out (.slice none 0 0) _ (RdG.none0 _ _ _) ?_)
        · simp [results, Try.results6, go_sem, s0, s1, s3, s4]
        · exact ((nb.out.setCell (p := ⟨w.heap.size, 0, none⟩) (Nat.le_refl _) _).setCell (p := ⟨w.heap.size, 1, none⟩) (Nat.le_refl _) _).drew
      · have hl : ((acc.length : Int) == 64) = false := by simp; omega
        by_cases hf : f = 0
        · subst hf
          obtain ⟨-, -, hen, h5, h6, -, -⟩ := hok rfl
          generalize (txt (k, n, nm)).length = L at *
          subst hen
          have hst' := hst ha rfl
          rw [Int.toNat_natCast] at hst'
          replace hst' := Lib.hid hst'
          clear hst hbad hok e
          go_wp2_with fail
          refine cS.out _ _ (Lib.hid fun w1 n1 => ?_)
          have hbel1 := hbel.trans (n1.mono (by omega))
          have hown1 := own_below hown n1
          have hsz1 := hbel1.size
          clear n1 hown hbel
          have hle1 : w.heap.size + 2 ≤ w1.heap.size := by have := z0.out; omega
          have bb := (hbel1.alloc hle1 (.cells #[.int .i64 k, .int .i64 n, .string nm] 36)).alloc (by simp; omega) (.cells #[.int .i64 0, .int .i64 z] 26)
          replace bb := Lib.hid bb
          go_wp2_with (at_builtin; go_loud (refine appK _ #[.int .i64 k, .int .i64 n, .string nm] 3 36 rfl _ _ 22 rfl (w.heap.size + 2) i0 (.agg #[.int .i64 0, .int .i64 0, .string ByteArray.empty]) 32 Try.underlying22 hI hz0 hz1 hz2 rfl (by decide) rfl _ _ _ rfl ((hown1.alloc _).alloc _) _ rfl (by simp) (by simp [Value.oneCell']) (by unfold maxLen; omega) (by omega) (by simp; omega) ?_); intro v' w3 hown3 hg3 hb3)
          have nb := bb.out.trans hb3
          have hown4 : w3.ownsRow (w.heap.size + 2) 36 3 v' (acc.length + 1) (flatG encP (acc ++ [(k, n, nm)])) := by rw [flatG_snoc]; exact hown3
          go_roundg (s.size - (i + L))
          case measure => omega
          case rel => exact ⟨i + L, v', acc ++ [(k, n, nm)], rfl, by go_num, nb, by rw [show (acc ++ [(k, n, nm)]).length = acc.length + 1 by simp]; exact hown4, by omega, rfl, by simp; omega, hst'⟩
        · have hb := hbad ha hf
          rw [hb] at e
          subst e
          have hf' : (f == 0) = false := by simpa using hf
          have hf'' : (f != 0) = true := by simpa using hf
          simp only at hR
          clear hst hbad hok hf hb
          go_wp2_with fail
          refine cS.out _ _ (Lib.hid fun w1 n1 => ?_)
          have hbel1 := hbel.trans (n1.mono (by omega))
          clear n1 hown hbel
          have hle1 : w.heap.size + 2 ≤ w1.heap.size := by have := z0.out; have := hbel1.size; omega
          have bb := (hbel1.alloc hle1 (.cells #[.int .i64 k, .int .i64 n, .string nm] 36)).alloc (by simp; omega) (.cells #[.int .i64 f, .int .i64 z] 26)
          obtain ⟨⟨r0, r1⟩, ⟨r3, r4⟩, r5, r6, r7, r8⟩ := fin.out _ bb
          have y0 := r5 0
          have y1 := r5 1
          have y3 := r6 0
          have y4 := r6 1
          clear r5 r6
          obtain ⟨s0, s1, s3, s4⟩ := st_two2 w.heap.size _ (.int .i64 f) (.int .i64 z) r0 r1 r3 r4
          replace s0 := Lib.hid s0
          replace s1 := Lib.hid s1
          replace s3 := Lib.hid s3
          replace s4 := Lib.hid s4
          replace r8 := Lib.hid r8
          clear bb hbel1
          go_wp2_with fail
          replace s0 := s0.out
          replace s1 := s1.out
          replace s3 := s3.out
          replace s4 := s4.out
          have x0 : ((((w1.alloc (.cells #[.int .i64 k, .int .i64 n, .string nm] 36)).alloc (.cells #[.int .i64 f, .int .i64 z] 26)).setCell ⟨w.heap.size + 1, 0, none⟩ (.int .i64 f)).setCell ⟨w.heap.size + 1, 1, none⟩ (.int .i64 z)).frozen? ⟨w.heap.size, 0, none⟩ = false := by simpa using y0
          have x1 : ((((w1.alloc (.cells #[.int .i64 k, .int .i64 n, .string nm] 36)).alloc (.cells #[.int .i64 f, .int .i64 z] 26)).setCell ⟨w.heap.size + 1, 0, none⟩ (.int .i64 f)).setCell ⟨w.heap.size + 1, 1, none⟩ (.int .i64 z)).frozen? ⟨w.heap.size, 1, none⟩ = false := by simpa using y1
          have nb := Lib.hid ((r8.out.setCell (p := ⟨w.heap.size + 1, 0, none⟩) (Nat.le_succ _) (.int .i64 f)).setCell (p := ⟨w.heap.size + 1, 1, none⟩) (Nat.le_succ _) (.int .i64 z))
          clear r0 r1 r3 r4 y0 y1 y3 y4 r8
          generalize ((((w1.alloc (.cells #[.int .i64 k, .int .i64 n, .string nm] 36)).alloc (.cells #[.int .i64 f, .int .i64 z] 26)).setCell ⟨w.heap.size + 1, 0, none⟩ (.int .i64 f)).setCell ⟨w.heap.size + 1, 1, none⟩ (.int .i64 z)) = W at *
          go_region
          go_wp2_with fail
          refine bodyPost_ret ?_ rfl (hR.out (.slice none 0 0) _ (RdG.none0 _ _ _) ?_)
          · simp [results, Try.results6, go_sem, s0, s1, s3, s4]
          · exact ((nb.out.setCell (p := ⟨w.heap.size, 0, none⟩) (Nat.le_refl _) _).setCell (p := ⟨w.heap.size, 1, none⟩) (Nat.le_refl _) _).drew
    · rw [parF_end (by omega)] at e
      subst e
      obtain ⟨⟨r0, r1⟩, ⟨r3, r4⟩, r5, r6, r7, r8⟩ := fin.out wr hbel
      simp only at hR
      have rd := Lib.hid (RdG.of_own (enc := encP) hown)
      have rd2 := Lib.hid (RdG.of_own (enc := encP) (ownsRow_setCell_below (ownsRow_setCell_below hown (a := ⟨w.heap.size, 0, none⟩) (by simp) (.int .i64 0)) (a := ⟨w.heap.size, 1, none⟩) (by simp) (.int .i64 0)))
      clear hown
      go_wp2_with fail
      refine bodyPost_ret ?_ rfl (hR.out (.slice A1 acc.length cc) _ rd2.out ((r8.setCell (p := ⟨w.heap.size, 0, none⟩) (Nat.le_refl _) _).setCell (p := ⟨w.heap.size, 1, none⟩) (Nat.le_refl _) _))
      simp [results, Try.results6, go_sem, r0, r1]
end Go.Proofs.Ytjcmljdkegpjbaa.Pat
