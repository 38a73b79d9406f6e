/- The code's Take, Parse; lives. -/
import Derived.Test.YtjcmljdkegpjbaaDigB
set_option linter.unusedVariables false
namespace Go.Proofs.Ytjcmljdkegpjbaa.Dig
open Go.RowKit Go.Lib Go.Proofs.Ytjcmljdkegpjbaa.Utf

/-- What Take hands back. -/
def tkT (t : Int × Int × Int × Int) : Value := .tuple #[.int .i64 t.1, .int .i64 t.2.1, .agg #[.int .i64 t.2.2.1, .int .i64 t.2.2.2]]
/-- Take behind the sign. -/
def tkG (s : ByteArray) (a f : Nat) (neg : Bool) : Int × Int × Int × Int :=
  if dgs s f = [] then (0, 0, if f = s.size then 5 else 19, f)
  else if byN s f = 48 ∧ (1 < (dgs s f).length ∨ neg = true) then (0, 0, 19, a)
  else if lowN neg < valN (dgs s f) then (0, 0, 13, a)
  else (if neg then -(valN (dgs s f) : Int) else (valN (dgs s f) : Int), (f + (dgs s f).length : Nat), 0, 0)
theorem tkN_eq (s : ByteArray) (a : Nat) : tkN s a = tkG s a (if a < s.size ∧ byN s a = 45 then a + 1 else a) (decide (a < s.size ∧ byN s a = 45)) := by
  unfold tkN tkG lowN
  by_cases h : a < s.size ∧ byN s a = 45
  · simp only [h, and_self, decide_true, if_true, or_true]
  · simp only [h, decide_false, if_false, Bool.false_eq_true]

set_option maxRecDepth 100000 in
set_option maxHeartbeats 1000000 in
theorem take_calls (s : ByteArray) (i : Int) (hi : -9223372036854775808 ≤ i ∧ i ≤ 9223372036854775807) (w : World) (hs : s.size ≤ 1000000000000000) (R : Ending → World → Prop)
    (hR : Hid (∀ w', Below w.heap.size w w' → R (.returned (tkT (tkS s i))) w')) : Calls Try.prog 43 #[.string s, .int .i64 i] w R := by
  unfold tkS at hR
  by_cases hb : i < 0 ∨ (s.size : Int) < i
  · rw [if_pos hb] at hR
    rcases hb with hb | hb
    · go_enter Try.func43, Try.ntmps43
      go_wp2_with fail
      refine bodyPost_ret ?_ rfl (hR.out _ ((Below.refl w.heap.size w).alloc (Nat.le_refl _) _))
      simp [results, Try.results43, go_sem, tkT]
    · have hb2 : ¬ i < 0 := by omega
      go_enter Try.func43, Try.ntmps43
      go_wp2_with fail
      refine bodyPost_ret ?_ rfl (hR.out _ ((Below.refl w.heap.size w).alloc (Nat.le_refl _) _))
      simp [results, Try.results43, go_sem, tkT]
  · rw [if_neg hb] at hR
    obtain ⟨a, rfl⟩ : ∃ a : Nat, i = a := ⟨i.toNat, by omega⟩
    rw [Int.toNat_natCast, tkN_eq] at hR
    have ha : a ≤ s.size := by omega
    clear hb hi
    have hxz : (s.extract a s.size).size = s.size - a := by rw [ByteArray.size_extract]; omega
    have hpre : decide (1 ≤ (s.extract a s.size).size ∧ byN (s.extract a s.size) 0 = (45 : UInt8).toNat) = decide (a < s.size ∧ byN s a = 45) := by
      rw [hxz]
      by_cases h : a < s.size
      · rw [byN_ext s a s.size 0 (by omega) (Nat.le_refl _), Nat.add_zero]
        simp only [h, true_and, show 1 ≤ s.size - a by omega]
        rfl
      · rw [decide_eq_false (fun e => by omega), decide_eq_false (fun e => h e.1)]
    have cH := fun (W : World) R hR => hasprefix_calls 45 (s.extract a s.size) W (by omega) R hR
    rw [hpre] at cH
    obtain ⟨f, hf⟩ : ∃ f, (if a < s.size ∧ byN s a = 45 then a + 1 else a) = f := ⟨_, rfl⟩
    rw [hf] at hR
    obtain ⟨neg, hneg⟩ : ∃ neg, decide (a < s.size ∧ byN s a = 45) = neg := ⟨_, rfl⟩
    rw [hneg] at hR cH
    have hf2 : f = (if neg then a + 1 else a) := by rw [← hf, ← hneg]; by_cases h : a < s.size ∧ byN s a = 45 <;> simp [h]
    have hfs : f ≤ s.size := by
      rw [← hf]; split <;> omega
    clear hf hneg hpre
    have cB := fun (W : World) R hR => behind_calls s f hfs W hs R hR
    have hl := dgs_len hfs
    have hx2 : (s.extract f (f + (dgs s f).length)).size = (dgs s f).length := by rw [ByteArray.size_extract]; omega
    have cV := fun (W : World) R hR => value_calls (s.extract f (f + (dgs s f).length)) neg (by rw [dgs_ext hfs]; exact dgs_dg s f) W (by omega) R hR
    rw [dgs_ext hfs] at cV
    have hend : f = s.size → dgs s f = [] := fun e => dgs_end (by omega)
    have hg := fun h : f < s.size => byN_get s f h
    have hb8 := byN_lt s f
    unfold tkG at hR
    unfold valR at cV
    obtain ⟨w0, hw0⟩ : ∃ w0, w0 = w.alloc (.cells #[.int .i64 0, .int .i64 0] 26) := ⟨_, rfl⟩
    have z0 : w0.heap.size = w.heap.size + 1 := by rw [hw0]; simp
    have h0 : w0.heap[w.heap.size]? = some (.cells #[.int .i64 0, .int .i64 0] 26 (0, 0)) := by rw [hw0]; exact Array.getElem?_push_size
    have b0 : Below w.heap.size w w0 := by rw [hw0]; exact (Below.refl _ _).alloc (Nat.le_refl _) _
    have fin : ∀ W : World, Below (w.heap.size + 1) w0 W → W.cell? ⟨w.heap.size, 0, none⟩ = some (.int .i64 0) ∧ W.cell? ⟨w.heap.size, 1, none⟩ = some (.int .i64 0) ∧ W.frozen? ⟨w.heap.size, 0, none⟩ = false ∧ W.frozen? ⟨w.heap.size, 1, none⟩ = false ∧ Below w.heap.size w W := fun W hW => by
      have hh : W.heap[w.heap.size]? = some (.cells #[.int .i64 0, .int .i64 0] 26 (0, 0)) := by rw [hW.block _ (by omega)]; exact h0
      exact ⟨by rw [Lib.cell_of_heap hh]; rfl, by rw [Lib.cell_of_heap hh]; rfl, Lib.frozen_of_heap hh 0, Lib.frozen_of_heap hh 1, b0.trans (hW.mono (by omega))⟩
    replace fin := Lib.hid fin
    clear h0 b0
    generalize dgs s f = L at *
    replace cH := Lib.hid cH
    replace cB := Lib.hid cB
    by_cases hL : L = []
    · rw [if_pos hL] at hR
      subst hL
      rw [List.length_nil, Nat.add_zero] at cB
      clear cV hx2 hend
      by_cases hfe : f = s.size
      · rw [if_pos hfe] at hR
        replace hfe : s.size ≤ f := by omega
        cases neg
        · simp only [Bool.false_eq_true, if_false] at hf2
          subst hf2
          go_enter Try.func43, Try.ntmps43
          go_wp2_with fail
          refine cH.out _ _ (Lib.hid ?_)
          go_wp2_with fail
          refine cB.out _ _ (Lib.hid fun w1 n1 => ?_)
          rw [← hw0, z0] at n1
          obtain ⟨c0, c1, g0, g1, n4⟩ := fin.out w1 n1
          clear fin
          go_wp2_with fail
          refine bodyPost_ret ?_ rfl (hR.out _ ((n4.setCell (p := ⟨w.heap.size, 0, none⟩) (Nat.le_refl _) _).setCell (p := ⟨w.heap.size, 1, none⟩) (Nat.le_refl _) _))
          simp [results, Try.results43, go_sem, tkT, c0, c1]
        · simp only [if_true] at hf2
          subst hf2
          have hfa : ((a + 1 : Nat) : Int) = (a : Int) + 1 := by omega
          simp only [hfa] at cB hR
          go_enter Try.func43, Try.ntmps43
          go_wp2_with fail
          refine cH.out _ _ (Lib.hid ?_)
          go_wp2_with fail
          refine cB.out _ _ (Lib.hid fun w1 n1 => ?_)
          rw [← hw0, z0] at n1
          obtain ⟨c0, c1, g0, g1, n4⟩ := fin.out w1 n1
          clear fin
          go_wp2_with fail
          refine bodyPost_ret ?_ rfl (hR.out _ ((n4.setCell (p := ⟨w.heap.size, 0, none⟩) (Nat.le_refl _) _).setCell (p := ⟨w.heap.size, 1, none⟩) (Nat.le_refl _) _))
          simp [results, Try.results43, go_sem, tkT, c0, c1]
      · rw [if_neg hfe] at hR
        cases neg
        · simp only [Bool.false_eq_true, if_false] at hf2
          subst hf2
          go_enter Try.func43, Try.ntmps43
          go_wp2_with fail
          refine cH.out _ _ (Lib.hid ?_)
          go_wp2_with fail
          refine cB.out _ _ (Lib.hid fun w1 n1 => ?_)
          rw [← hw0, z0] at n1
          obtain ⟨c0, c1, g0, g1, n4⟩ := fin.out w1 n1
          clear fin
          go_wp2_with fail
          refine bodyPost_ret ?_ rfl (hR.out _ ((n4.setCell (p := ⟨w.heap.size, 0, none⟩) (Nat.le_refl _) _).setCell (p := ⟨w.heap.size, 1, none⟩) (Nat.le_refl _) _))
          simp [results, Try.results43, go_sem, tkT, c0, c1]
        · simp only [if_true] at hf2
          subst hf2
          have hfa : ((a + 1 : Nat) : Int) = (a : Int) + 1 := by omega
          simp only [hfa] at cB hR
          go_enter Try.func43, Try.ntmps43
          go_wp2_with fail
          refine cH.out _ _ (Lib.hid ?_)
          go_wp2_with fail
          refine cB.out _ _ (Lib.hid fun w1 n1 => ?_)
          rw [← hw0, z0] at n1
          obtain ⟨c0, c1, g0, g1, n4⟩ := fin.out w1 n1
          clear fin
          go_wp2_with fail
          refine bodyPost_ret ?_ rfl (hR.out _ ((n4.setCell (p := ⟨w.heap.size, 0, none⟩) (Nat.le_refl _) _).setCell (p := ⟨w.heap.size, 1, none⟩) (Nat.le_refl _) _))
          simp [results, Try.results43, go_sem, tkT, c0, c1]
    · rw [if_neg hL] at hR
      have hf3 : f < s.size := by
        rcases Nat.lt_or_ge f s.size with h | h
        · exact h
        · exact absurd (hend (by omega)) hL
      replace hg := hg hf3
      have hl1 : 1 ≤ L.length := List.length_pos_iff.2 hL
      obtain ⟨E, hE⟩ : ∃ E, f + L.length = E := ⟨_, rfl⟩
      rw [hE] at cB hx2 hl
      simp only [hE] at cV hR
      have hfE : f < E := by omega
      clear hend hL
      by_cases h48 : byN s f = 48 ∧ (1 < L.length ∨ neg = true)
      · rw [if_pos h48] at hR
        obtain ⟨h48, hor⟩ := h48
        clear cV
        cases neg
        · have hlen : f + 1 < E := by
            rcases hor with h | h
            · omega
            · cases h
          simp only [Bool.false_eq_true, if_false] at hf2
          subst hf2
          go_enter Try.func43, Try.ntmps43
          go_wp2_with fail
          refine cH.out _ _ (Lib.hid ?_)
          go_wp2_with fail
          refine cB.out _ _ (Lib.hid fun w1 n1 => ?_)
          rw [← hw0, z0] at n1
          obtain ⟨c0, c1, g0, g1, n4⟩ := fin.out w1 n1
          clear fin
          go_wp2_with fail
          refine bodyPost_ret ?_ rfl (hR.out _ ((n4.setCell (p := ⟨w.heap.size, 0, none⟩) (Nat.le_refl _) _).setCell (p := ⟨w.heap.size, 1, none⟩) (Nat.le_refl _) _))
          simp [results, Try.results43, go_sem, tkT, c0, c1]
        · simp only [if_true] at hf2
          subst hf2
          have hfa : ((a + 1 : Nat) : Int) = (a : Int) + 1 := by omega
          simp only [hfa] at cB hR
          go_enter Try.func43, Try.ntmps43
          go_wp2_with fail
          refine cH.out _ _ (Lib.hid ?_)
          go_wp2_with fail
          refine cB.out _ _ (Lib.hid fun w1 n1 => ?_)
          rw [← hw0, z0] at n1
          obtain ⟨c0, c1, g0, g1, n4⟩ := fin.out w1 n1
          clear fin
          go_wp2_with fail
          refine bodyPost_ret ?_ rfl (hR.out _ ((n4.setCell (p := ⟨w.heap.size, 0, none⟩) (Nat.le_refl _) _).setCell (p := ⟨w.heap.size, 1, none⟩) (Nat.le_refl _) _))
          simp [results, Try.results43, go_sem, tkT, c0, c1]
      · rw [if_neg h48] at hR
        by_cases hbig : lowN neg < valN L
        · rw [if_pos hbig] at hR
          rw [if_pos hbig] at cV
          simp only at cV hR
          replace cV := Lib.hid cV
          clear hbig
          cases neg
          · simp only [Bool.false_eq_true, if_false] at hf2
            subst hf2
            by_cases h0 : byN s f = 48
            · have hlen : E ≤ f + 1 := by
                have : ¬ 1 < L.length := fun h => h48 ⟨h0, .inl h⟩
                omega
              clear h48
              go_enter Try.func43, Try.ntmps43
              go_wp2_with fail
              refine cH.out _ _ (Lib.hid ?_)
              go_wp2_with fail
              refine cB.out _ _ (Lib.hid fun w1 n1 => ?_)
              rw [← hw0, z0] at n1
              go_wp2_with fail
              refine cV.out _ _ (Lib.hid fun w2 n2 => ?_)
              replace n2 := n1.trans (n2.mono (by have := n1.size; omega))
              obtain ⟨c0, c1, g0, g1, n4⟩ := fin.out w2 n2
              clear fin
              go_wp2_with fail
              refine bodyPost_ret ?_ rfl (hR.out _ ((n4.setCell (p := ⟨w.heap.size, 0, none⟩) (Nat.le_refl _) _).setCell (p := ⟨w.heap.size, 1, none⟩) (Nat.le_refl _) _))
              simp [results, Try.results43, go_sem, tkT, c0, c1]
            · clear h48
              go_enter Try.func43, Try.ntmps43
              go_wp2_with fail
              refine cH.out _ _ (Lib.hid ?_)
              go_wp2_with fail
              refine cB.out _ _ (Lib.hid fun w1 n1 => ?_)
              rw [← hw0, z0] at n1
              go_wp2_with fail
              refine cV.out _ _ (Lib.hid fun w2 n2 => ?_)
              replace n2 := n1.trans (n2.mono (by have := n1.size; omega))
              obtain ⟨c0, c1, g0, g1, n4⟩ := fin.out w2 n2
              clear fin
              go_wp2_with fail
              refine bodyPost_ret ?_ rfl (hR.out _ ((n4.setCell (p := ⟨w.heap.size, 0, none⟩) (Nat.le_refl _) _).setCell (p := ⟨w.heap.size, 1, none⟩) (Nat.le_refl _) _))
              simp [results, Try.results43, go_sem, tkT, c0, c1]
          · have h0 : ¬ byN s f = 48 := fun h => h48 ⟨h, .inr rfl⟩
            clear h48
            simp only [if_true] at hf2
            subst hf2
            have hfa : ((a + 1 : Nat) : Int) = (a : Int) + 1 := by omega
            simp only [hfa] at cB hR
            go_enter Try.func43, Try.ntmps43
            go_wp2_with fail
            refine cH.out _ _ (Lib.hid ?_)
            go_wp2_with fail
            refine cB.out _ _ (Lib.hid fun w1 n1 => ?_)
            rw [← hw0, z0] at n1
            go_wp2_with fail
            refine cV.out _ _ (Lib.hid fun w2 n2 => ?_)
            replace n2 := n1.trans (n2.mono (by have := n1.size; omega))
            obtain ⟨c0, c1, g0, g1, n4⟩ := fin.out w2 n2
            clear fin
            go_wp2_with fail
            refine bodyPost_ret ?_ rfl (hR.out _ ((n4.setCell (p := ⟨w.heap.size, 0, none⟩) (Nat.le_refl _) _).setCell (p := ⟨w.heap.size, 1, none⟩) (Nat.le_refl _) _))
            simp [results, Try.results43, go_sem, tkT, c0, c1]
        · rw [if_neg hbig] at hR
          rw [if_neg hbig] at cV
          simp only at cV hR
          have hv : (lowN neg : Int) ≤ 9223372036854775808 := by unfold lowN; split <;> omega
          have hvb : valN L ≤ lowN neg := by omega
          generalize valN L = V at *
          clear hbig
          replace cV := Lib.hid cV
          cases neg
          · simp only [Bool.false_eq_true, if_false] at hf2
            subst hf2
            by_cases h0 : byN s f = 48
            · have hlen : E ≤ f + 1 := by
                have : ¬ 1 < L.length := fun h => h48 ⟨h0, .inl h⟩
                omega
              clear h48
              go_enter Try.func43, Try.ntmps43
              go_wp2_with fail
              refine cH.out _ _ (Lib.hid ?_)
              go_wp2_with fail
              refine cB.out _ _ (Lib.hid fun w1 n1 => ?_)
              rw [← hw0, z0] at n1
              go_wp2_with fail
              refine cV.out _ _ (Lib.hid fun w2 n2 => ?_)
              replace n2 := n1.trans (n2.mono (by have := n1.size; omega))
              obtain ⟨c0, c1, g0, g1, n4⟩ := fin.out w2 n2
              clear fin
              go_wp2_with fail
              refine bodyPost_ret ?_ rfl (hR.out _ ((n4.setCell (p := ⟨w.heap.size, 0, none⟩) (Nat.le_refl _) _).setCell (p := ⟨w.heap.size, 1, none⟩) (Nat.le_refl _) _))
              simp [results, Try.results43, go_sem, tkT, c0, c1]
            · clear h48
              go_enter Try.func43, Try.ntmps43
              go_wp2_with fail
              refine cH.out _ _ (Lib.hid ?_)
              go_wp2_with fail
              refine cB.out _ _ (Lib.hid fun w1 n1 => ?_)
              rw [← hw0, z0] at n1
              go_wp2_with fail
              refine cV.out _ _ (Lib.hid fun w2 n2 => ?_)
              replace n2 := n1.trans (n2.mono (by have := n1.size; omega))
              obtain ⟨c0, c1, g0, g1, n4⟩ := fin.out w2 n2
              clear fin
              go_wp2_with fail
              refine bodyPost_ret ?_ rfl (hR.out _ ((n4.setCell (p := ⟨w.heap.size, 0, none⟩) (Nat.le_refl _) _).setCell (p := ⟨w.heap.size, 1, none⟩) (Nat.le_refl _) _))
              simp [results, Try.results43, go_sem, tkT, c0, c1]
          · have h0 : ¬ byN s f = 48 := fun h => h48 ⟨h, .inr rfl⟩
            clear h48
            simp only [if_true] at hf2
            subst hf2
            have hfa : ((a + 1 : Nat) : Int) = (a : Int) + 1 := by omega
            simp only [hfa] at cB hR
            go_enter Try.func43, Try.ntmps43
            go_wp2_with fail
            refine cH.out _ _ (Lib.hid ?_)
            go_wp2_with fail
            refine cB.out _ _ (Lib.hid fun w1 n1 => ?_)
            rw [← hw0, z0] at n1
            go_wp2_with fail
            refine cV.out _ _ (Lib.hid fun w2 n2 => ?_)
            replace n2 := n1.trans (n2.mono (by have := n1.size; omega))
            obtain ⟨c0, c1, g0, g1, n4⟩ := fin.out w2 n2
            clear fin
            go_wp2_with fail
            refine bodyPost_ret ?_ rfl (hR.out _ ((n4.setCell (p := ⟨w.heap.size, 0, none⟩) (Nat.le_refl _) _).setCell (p := ⟨w.heap.size, 1, none⟩) (Nat.le_refl _) _))
            simp [results, Try.results43, go_sem, tkT, c0, c1]
end Go.Proofs.Ytjcmljdkegpjbaa.Dig
