/- set: a table's ranges into a new slice, and the set of them. -/
import Derived.Test.YtcgknfpcpjiciaaRanK
import Derived.Test.YtcgknfpcpjiciaaPinK
set_option linter.unusedVariables false
namespace Go.Proofs.Ytcgknfpcpjiciaa.Ran
open Go.RowKit Go.Lib

/-- A block of n ranges of which the first are written. -/
def Filled (w : World) (g n : Nat) (t : TypeId) (l : List Rg) : Prop := ∃ cs : Array Value, w.heap[g]? = some (.cells cs t (0, 0)) ∧ cs.size = n * 2 ∧ ∀ (j : Nat) (u : Value), (flat l)[j]? = some u → cs[j]? = some u
theorem Filled.cell {w : World} {g n : Nat} {t : TypeId} {l : List Rg} (h : Filled w g n t l) {j : Nat} (hj : j < n * 2) : ∃ v, w.cell? ⟨g, j, none⟩ = some v := by
  obtain ⟨cs, h1, h2, -⟩ := h
  exact ⟨cs[j], by rw [cell_of_row _ _ j _ t (0, 0) h1]; exact Array.getElem?_eq_getElem (by omega)⟩
theorem Filled.fz {w : World} {g n : Nat} {t : TypeId} {l : List Rg} (h : Filled w g n t l) (j : Nat) : w.frozen? ⟨g, j, none⟩ = false := by
  obtain ⟨cs, h1, -⟩ := h
  simp [World.frozen?, h1]
theorem Filled.lt {w : World} {g n : Nat} {t : TypeId} {l : List Rg} (h : Filled w g n t l) : g < w.heap.size := by
  obtain ⟨cs, h1, -⟩ := h
  exact (Array.getElem?_eq_some_iff.1 h1).1
theorem Filled.alloc {w : World} {g n : Nat} {t : TypeId} {l : List Rg} (h : Filled w g n t l) (o : Obj) : Filled (w.alloc o) g n t l := by
  obtain ⟨cs, h1, h2⟩ := h
  exact ⟨cs, heap_old _ _ _ _ h1, h2⟩
theorem Filled.put {w : World} {g n : Nat} {t : TypeId} {l : List Rg} (h : Filled w g n t l) (hl : l.length < n) (x : Rg) :
    Filled ((w.setCell ⟨g, l.length * 2, none⟩ (.int .i32 x.1)).setCell ⟨g, l.length * 2 + 1, none⟩ (.int .i32 x.2)) g n t (l ++ [x]) := by
  obtain ⟨cs, h1, h2, h3⟩ := h
  have e1 := setCell_eq_setRow w g (l.length * 2) cs t (0, 0) (.int .i32 x.1) h1
  have h4 := setRow_heap w g cs (cs.setIfInBounds (l.length * 2) (.int .i32 x.1)) t (0, 0) h1
  rw [← e1] at h4
  have e2 := setCell_eq_setRow _ g (l.length * 2 + 1) _ t (0, 0) (.int .i32 x.2) h4
  refine ⟨_, by rw [e2]; exact setRow_heap _ g _ _ t (0, 0) h4, by simpa using h2, fun j u hj => ?_⟩
  rw [flat_append, List.getElem?_append, flat_len] at hj
  rw [Array.getElem?_setIfInBounds, Array.getElem?_setIfInBounds]
  by_cases a : j < l.length * 2
  · rw [if_pos a] at hj
    rw [if_neg (by omega), if_neg (by omega)]
    exact h3 j u hj
  · rw [if_neg a] at hj
    by_cases b : j = l.length * 2
    · subst b
      rw [if_neg (by omega), if_pos rfl]
      simp [flat, enc] at hj
      rw [if_pos (by omega), hj]
    · by_cases c : j = l.length * 2 + 1
      · subst c
        rw [if_pos rfl]
        simp [flat, enc] at hj
        rw [if_pos (by simp; omega), hj]
      · obtain ⟨m, rfl⟩ : ∃ m, j = l.length * 2 + (m + 2) := ⟨j - l.length * 2 - 2, by omega⟩
        rw [Nat.add_sub_cancel_left] at hj
        simp [flat, enc] at hj
theorem Filled.rd {w : World} {g n : Nat} {t : TypeId} {l : List Rg} (h : Filled w g n t l) (hn : l.length = n) : RdR w (.slice (some ⟨g, 0, none⟩) n n) l := by
  obtain ⟨cs, h1, h2, h3⟩ := h
  exact ⟨_, _, _, rfl, by rw [flat_len, hn], Nat.le_refl _, fun _ => ⟨g, 0, rfl, (Array.getElem?_eq_some_iff.1 h1).1, fun j u hj => by
    rw [Nat.zero_add, cell_of_row _ _ j _ t (0, 0) h1]; exact h3 j u hj⟩⟩
theorem mk_rg (n : Nat) (hn : n ≤ 1000000) : ∃ M : Array Value, M.size = n * 2 ∧
    ∀ w, (Instr.makeSlice 25 (.int .i64 n) (.int .i64 n)).run Try.prog w = .ok (.slice (some ⟨w.heap.size, 0, none⟩) n n) (w.alloc (.cells M 54)) := by
  obtain ⟨i0, hi, hz0, hz1, hz2⟩ := info_parts infoRg
  refine ⟨madeCells (#[.int .i32 0, .int .i32 0]) (n * 2), size_madeCells _ _, fun w => ?_⟩
  have := run_make (P := Try.prog) w 25 54 i0 _ Try.underlying25 hi hz0 .i64 .i64 n n (by omega) (Int.le_refl _) (by rw [hz2]; omega) (by omega)
  rw [hz1] at this
  exact this

set_option maxRecDepth 100000 in
set_option maxHeartbeats 1000000 in
theorem set_calls (T : List Rg) (v : Value) (w : World) (hx : RdR w v T) (hT : T.length ≤ 1000) (R : Ending → World → Prop)
    (hR : Hid (∀ v' l w', RdN w' w.heap.size v' l → Can 0 l → (∀ r, hasB l r = inB T r) → Below w.heap.size w w' → R (.returned (.agg #[v'])) w')) : Calls Try.prog 35 #[v] w R := by
  obtain ⟨M, hM, hmk⟩ := mk_rg T.length (by omega)
  obtain ⟨A, c, rfl, hlc, hr⟩ := hx.open
  replace hr := Lib.hid hr
  clear hx
  have hB0 : Below w.heap.size w (w.alloc (.cells #[.slice none 0 0] 27)) := (Below.refl _ _).alloc (Nat.le_refl _) _
  go_enter Try.func35, Try.ntmps35
  go_wp2_with fail
  go_loopg [11] T.length (fun k i wr => ∃ (K : Nat), Below w.heap.size w wr ∧ i = .int .i64 K ∧ K + k = T.length ∧ Filled wr (w.heap.size + 1) T.length 54 (T.take K) ∧
    wr.cell? ⟨w.heap.size, 0, none⟩ = some (.slice none 0 0) ∧ wr.frozen? ⟨w.heap.size, 0, none⟩ = false)
  case atStart =>
    refine ⟨0, hB0.alloc (by simp) _, rfl, by omega, ⟨M, ?_, hM, fun j u h => by simp [flat] at h⟩, ?_, ?_⟩
    · have := heap_alloc_last (w.alloc (.cells #[.slice none 0 0] 27)) (.cells M 54)
      rwa [show (w.alloc (.cells #[.slice none 0 0] 27)).heap.size = w.heap.size + 1 by simp] at this
    · rw [cell_of_row _ _ 0 _ 27 (0, 0) (heap_old _ _ _ _ (heap_alloc_last w _))]; rfl
    · have h := heap_old _ (.cells M 54) _ _ (heap_alloc_last w (.cells #[.slice none 0 0] 27))
      simp [World.frozen?, h]
  case round =>
    obtain ⟨K, hbel, rfl, c1, c2, c3, c4⟩ := hrel
    have hsz := hbel.size
    by_cases hK : K < T.length
    · obtain ⟨k, rfl⟩ : ∃ k, gk = k + 1 := ⟨gk - 1, by omega⟩
      obtain ⟨g, o, rfl, hg, hca⟩ := hr.out (by omega)
      obtain ⟨h0, h1⟩ := hca K hK
      have e0 := (hbel.cell (p := ⟨g, o + K * 2, none⟩) hg).trans h0
      have e1 := (hbel.cell (p := ⟨g, o + K * 2 + 1, none⟩) hg).trans h1
      have e2 := take_succ T K hK
      have e3 : (T.take K).length = K := by simp; omega
      clear h0 h1 hca
      generalize T.getD K (0, 0) = G at *
      obtain ⟨X, Y⟩ := G
      simp only at e0 e1
      obtain ⟨u0, y0⟩ := c2.cell (j := K * 2) (by omega)
      obtain ⟨u1, y1⟩ := c2.cell (j := K * 2 + 1) (by omega)
      have z0 := c2.fz (K * 2)
      have z1 := c2.fz (K * 2 + 1)
      have d1 := (c2.put (by omega) (X, Y)).alloc (.cells #[.int .i32 X, .int .i32 Y] 36)
      rw [e3, ← e2] at d1
      have d2 := c2.lt
      have nb : Below w.heap.size w ((((wr.setCell ⟨w.heap.size + 1, K * 2, none⟩ (.int .i32 X)).setCell ⟨w.heap.size + 1, K * 2 + 1, none⟩ (.int .i32 Y))).alloc (.cells #[.int .i32 X, .int .i32 Y] 36)) :=
        ((hbel.setCell (p := ⟨w.heap.size + 1, K * 2, none⟩) (by simp) _).setCell (p := ⟨w.heap.size + 1, K * 2 + 1, none⟩) (by simp) _).alloc (by simpa [World.setCell] using hsz) _
      have n3 : Below (w.heap.size + 1) wr ((((wr.setCell ⟨w.heap.size + 1, K * 2, none⟩ (.int .i32 X)).setCell ⟨w.heap.size + 1, K * 2 + 1, none⟩ (.int .i32 Y))).alloc (.cells #[.int .i32 X, .int .i32 Y] 36)) :=
        (((Below.refl _ _).setCell (p := ⟨w.heap.size + 1, K * 2, none⟩) (by simp) _).setCell (p := ⟨w.heap.size + 1, K * 2 + 1, none⟩) (by simp) _).alloc (by simp [World.setCell]; omega) _
      have f3 := (n3.cell (p := ⟨w.heap.size, 0, none⟩) (by simp)).trans c3
      have f4 := (n3.frozen (p := ⟨w.heap.size, 0, none⟩) (by simp)).trans c4
      replace d1 := Lib.hid d1
      replace f3 := Lib.hid f3
      replace f4 := Lib.hid f4
      replace nb := Lib.hid nb
      clear n3 c2
      go_wp2_with fail
      go_roundg k
      case measure => omega
      case rel => exact ⟨K + 1, nb.out, by go_num, by omega, d1.out, f3.out, f4.out⟩
    · obtain rfl : K = T.length := by omega
      rw [List.take_length] at c2
      have r2 := c2.rd rfl
      replace r2 := Lib.hid r2
      clear c2
      go_wp2_with fail
      refine new_calls T _ _ r2.out (by omega) _ (fun v2 l w2 r3 cn hs n2 => ?_)
      have lt0 : w.heap.size < wr.heap.size := by
        rcases Nat.lt_or_ge w.heap.size wr.heap.size with h | h
        · exact h
        · simp [World.cell?, Array.getElem?_eq_none h] at c3
      have f0 := (n2.cell (p := ⟨w.heap.size, 0, none⟩) lt0).trans c3
      have f1 := (n2.frozen (p := ⟨w.heap.size, 0, none⟩) lt0).trans c4
      have r4 := Lib.hid ((r3.setCell (p := ⟨w.heap.size, 0, none⟩) lt0 v2).mono hsz)
      obtain ⟨A2, c2, rfl⟩ := r3.len
      have n4 := Lib.hid ((hbel.trans (n2.mono hsz)).setCell (p := ⟨w.heap.size, 0, none⟩) (Nat.le_refl _) (.slice A2 l.length c2))
      replace cn := Lib.hid cn
      replace hs := Lib.hid hs
      clear r3 n2
      go_wp2_with fail
      exact bodyPost_ret (v := .agg #[.slice A2 l.length c2]) (by simp [results, Try.results35, go_sem, f0]) rfl (hR.out _ _ _ r4.out cn.out hs.out n4.out)
end Go.Proofs.Ytcgknfpcpjiciaa.Ran
