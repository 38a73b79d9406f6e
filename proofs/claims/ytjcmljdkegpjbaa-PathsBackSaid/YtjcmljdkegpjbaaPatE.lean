/- The reference's Parse. -/
import Derived.Test.YtjcmljdkegpjbaaPatD
set_option linter.unusedVariables false
namespace Go.Proofs.Ytjcmljdkegpjbaa.Pat
open Go.RowKit Go.Lib Go.Proofs.Ytjcmljdkegpjbaa.Utf Go.Proofs.Ytjcmljdkegpjbaa.Nam Go.Proofs.Ytjcmljdkegpjbaa.Dig

theorem infoSt : (Try.prog.info? 36).map (fun i => (i.zero, i.size, i.bytes)) = some (some (.agg #[.int .i64 0, .int .i64 0, .string ByteArray.empty]), 3, 32) := by kernel_rfl
theorem parF_at {s : ByteArray} {i : Nat} {acc : List St} (h : i < s.size) (ha : ¬ 63 < acc.length) (hb : (stpS s i).2.2.1 = 0) {V : List St × Int × Int} (hv : parF s (s.size + 1) i acc = V) : parF s (s.size + 1) (stpS s i).2.1.toNat (acc ++ [(stpS s i).1]) = V := by
  rw [← hv, parF_step h (by omega) ha hb]

set_option maxRecDepth 100000 in
set_option maxHeartbeats 2000000 in
theorem refparse_calls (s : ByteArray) (hs : s.size ≤ 1000000) (w : World) (R : Ending → World → Prop)
    (hR : Hid (∀ v' w', RdP w' v' (parS s).1 → Below w.heap.size w w' → R (.returned (.tuple #[v', .agg #[.int .i64 (parS s).2.1, .int .i64 (parS s).2.2]])) w')) : Calls Try.prog 7 #[.string s] w R := by
  obtain ⟨i0, hI, hz0, hz1, hz2⟩ := info_parts infoSt
  have b0 := (Below.refl w.heap.size w).alloc (Nat.le_refl _) (.cells #[.int .i64 0, .int .i64 0] 26)
  have q0 : (w.alloc (.cells #[.int .i64 0, .int .i64 0] 26)).heap[w.heap.size]? = some (.cells #[.int .i64 0, .int .i64 0] 26 (0, 0)) := heap_alloc_last _ _
  have z0 : (w.alloc (.cells #[.int .i64 0, .int .i64 0] 26)).heap.size = w.heap.size + 1 := by simp
  obtain ⟨V, hV⟩ : ∃ V, parS s = V := ⟨_, rfl⟩
  rw [hV] at hR
  replace hV : parF s (s.size + 1) 0 [] = V := hV
  go_enter Try.func7, Try.ntmps7
  go_wp2_with fail
  generalize w.alloc (.cells #[.int .i64 0, .int .i64 0] 26) = w0 at *
  have fin : ∀ W : World, Below (w.heap.size + 1) w0 W → W.cell? ⟨w.heap.size, 0, none⟩ = some (.int .i64 0) ∧ W.cell? ⟨w.heap.size, 1, none⟩ = some (.int .i64 0) ∧ W.frozen? ⟨w.heap.size, 0, none⟩ = false ∧ W.frozen? ⟨w.heap.size, 1, none⟩ = false ∧ Below w.heap.size w W := fun W hW => by
    have hh : W.heap[w.heap.size]? = some (.cells #[.int .i64 0, .int .i64 0] 26 (0, 0)) := by rw [hW.block _ (by omega)]; exact q0
    exact ⟨by rw [Lib.cell_of_heap hh]; rfl, by rw [Lib.cell_of_heap hh]; rfl, Lib.frozen_of_heap hh 0, Lib.frozen_of_heap hh 1, b0.trans (hW.mono (by omega))⟩
  replace fin := Lib.hid fin
  replace z0 := Lib.hid z0
  clear q0 b0
  go_loopg [4, 5] s.size (fun g l a wr => ∃ (i : Nat) (v : Value) (acc : List St), v = l ∧ a = .int .i64 i ∧ Below (w.heap.size + 1) w0 wr ∧ wr.ownsRow (w.heap.size + 1) 36 3 v acc.length (flatG encP acc) ∧ i ≤ s.size ∧ g = s.size - i ∧ acc.length ≤ 64 ∧ Hid (parF s (s.size + 1) i acc = V))
  case atStart => exact ⟨0, _, [], rfl, rfl, Below.refl _ _, World.ownsRow_nil _ _ _ _, by omega, rfl, by decide, Lib.hid hV⟩
  case round =>
    obtain ⟨i, v, acc, rfl, rfl, hbel, hown, c1, c2, c4, c3⟩ := hrel
    have hsz := hbel.size
    have hle : w.heap.size + 1 ≤ wr.heap.size := by have := z0.out; omega
    have e := c3.out
    clear c3 hV
    obtain ⟨A1, cc, rfl⟩ : ∃ A c, v = .slice A acc.length c := by
      obtain ⟨A, n, c, h, hl, -⟩ := RdAt.of_own hown
      rw [flatG_len encP_len] at hl
      obtain rfl : n = acc.length := (Nat.eq_of_mul_eq_mul_right (by decide) hl).symm
      exact ⟨A, c, h⟩
    by_cases hi : i < s.size
    · by_cases ha : 63 < acc.length
      · rw [parF_many hi (by omega) ha] at e
        subst e
        obtain ⟨r0, r1, r2, r3, r4⟩ := fin.out wr hbel
        simp only at hR
        go_wp2_with fail
        refine bodyPost_ret ?_ rfl (hR.out (.slice none 0 0) _ (RdG.none0 _ _ _) ((r4.setCell (p := ⟨w.heap.size, 0, none⟩) (Nat.le_refl _) _).setCell (p := ⟨w.heap.size, 1, none⟩) (Nat.le_refl _) _))
        simp [results, Try.results7, go_sem, r0, r1]
      · have cS := fun (W : World) R hR => refstep_calls s i hi hs W R hR
        unfold stT stV at cS
        have hok := stp_ok hi
        have hst := parF_at hi ha (hv := e)
        have hbad := parF_bad (f := s.size + 1) hi (by omega) ha
        generalize stpS s i = d at *
        obtain ⟨⟨k, n, nm⟩, en, f, z⟩ := d
        simp only at cS hok hst hbad
        replace cS := Lib.hid cS
        by_cases hf : f = 0
        · subst hf
          obtain ⟨-, -, hen, h5, h6, -, -⟩ := hok rfl
          generalize (txt (k, n, nm)).length = L at *
          subst hen
          have hst' := hst rfl
          rw [Int.toNat_natCast] at hst'
          replace hst' := Lib.hid hst'
          clear hst hbad hok e
          go_wp2_with fail
          refine cS.out _ _ (Lib.hid fun w1 n1 => ?_)
          have hbel1 := hbel.trans (n1.mono (by omega))
          have hown1 := own_below hown n1
          have hsz1 := hbel1.size
          clear n1 hown hbel
          have hle1 : w.heap.size + 1 ≤ w1.heap.size := by have := z0.out; omega
          have bb := (hbel1.alloc hle1 (.cells #[.int .i64 k, .int .i64 n, .string nm] 36)).alloc (by simp; omega) (.cells #[.int .i64 0, .int .i64 z] 26)
          replace bb := Lib.hid bb
          go_wp2_with (at_builtin; go_loud (refine appK _ #[.int .i64 k, .int .i64 n, .string nm] 3 36 rfl _ _ 22 rfl (w.heap.size + 1) i0 (.agg #[.int .i64 0, .int .i64 0, .string ByteArray.empty]) 32 Try.underlying22 hI hz0 hz1 hz2 rfl (by decide) rfl _ _ _ rfl ((hown1.alloc _).alloc _) _ rfl (by simp) (by simp [Value.oneCell']) (by unfold maxLen; omega) (by omega) (by simp; omega) ?_); intro v' w3 hown3 hg3 hb3)
          have nb := bb.out.trans hb3
          have hown4 : w3.ownsRow (w.heap.size + 1) 36 3 v' (acc.length + 1) (flatG encP (acc ++ [(k, n, nm)])) := by rw [flatG_snoc]; exact hown3
          go_roundg (s.size - (i + L))
          case measure => omega
          case rel => exact ⟨i + L, v', acc ++ [(k, n, nm)], rfl, by go_num, nb, by rw [show (acc ++ [(k, n, nm)]).length = acc.length + 1 by simp]; exact hown4, by omega, rfl, by simp; omega, hst'⟩
        · have hb := hbad hf
          rw [hb] at e
          subst e
          have hf' : (f == 0) = false := by simpa using hf
          have hf'' : (f != 0) = true := by simpa using hf
          simp only at hR
          clear hst hbad hok hf hb
          go_wp2_with fail
          refine cS.out _ _ (Lib.hid fun w1 n1 => ?_)
          have hbel1 := hbel.trans (n1.mono (by omega))
          clear n1 hown hbel
          have hle1 : w.heap.size + 1 ≤ w1.heap.size := by have := z0.out; have := hbel1.size; omega
          go_wp2_with fail
          obtain ⟨r0, r1, r2, r3, r4⟩ := fin.out _ ((hbel1.alloc hle1 (.cells #[.int .i64 k, .int .i64 n, .string nm] 36)).alloc (by simp; omega) (.cells #[.int .i64 f, .int .i64 z] 26))
          have x0 := box_c (w1.alloc (.cells #[.int .i64 k, .int .i64 n, .string nm] 36)) f z
          have x1 := box_c1 (w1.alloc (.cells #[.int .i64 k, .int .i64 n, .string nm] 36)) f z
          rw [show (w1.alloc (.cells #[.int .i64 k, .int .i64 n, .string nm] 36)).heap.size = w1.heap.size + 1 by simp] at x0 x1
          replace r4 := Lib.hid r4
          generalize (w1.alloc (.cells #[.int .i64 k, .int .i64 n, .string nm] 36)).alloc (.cells #[.int .i64 f, .int .i64 z] 26) = W at *
          go_region
          go_wp2_with fail
          refine bodyPost_ret ?_ rfl (hR.out (.slice none 0 0) _ (RdG.none0 _ _ _) ?_)
          · simp [results, Try.results7, go_sem, r0, r1]
          · exact ((r4.out.setCell (p := ⟨w.heap.size, 0, none⟩) (Nat.le_refl _) _).setCell (p := ⟨w.heap.size, 1, none⟩) (Nat.le_refl _) _).drew
    · rw [parF_end (by omega)] at e
      subst e
      obtain ⟨r0, r1, r2, r3, r4⟩ := fin.out wr hbel
      simp only at hR
      have rd := Lib.hid (RdG.of_own (enc := encP) hown)
      have rd2 := Lib.hid (RdG.of_own (enc := encP) (ownsRow_setCell_below (ownsRow_setCell_below hown (a := ⟨w.heap.size, 0, none⟩) (Nat.lt_succ_self _) (.int .i64 0)) (a := ⟨w.heap.size, 1, none⟩) (Nat.lt_succ_self _) (.int .i64 0)))
      clear hown
      go_wp2_with fail
      refine bodyPost_ret ?_ rfl (hR.out (.slice A1 acc.length cc) _ rd2.out ((r4.setCell (p := ⟨w.heap.size, 0, none⟩) (Nat.le_refl _) _).setCell (p := ⟨w.heap.size, 1, none⟩) (Nat.le_refl _) _))
      simp [results, Try.results7, go_sem, r0, r1]
end Go.Proofs.Ytjcmljdkegpjbaa.Pat
