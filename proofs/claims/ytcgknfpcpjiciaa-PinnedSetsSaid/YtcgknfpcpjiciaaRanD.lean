/- Contracts: merge. -/
import Derived.Test.YtcgknfpcpjiciaaRanA
import Derived.IntWalk
import Derived.RegionTactic
import Derived.ChangeAlike
set_option linter.unusedVariables false
namespace Go.Proofs.Ytcgknfpcpjiciaa.Ran
open Go.RowKit Go.Lib

/-- A slice that reads as a list of ranges: nil, or in a block from base on. -/
def RdN (w : World) (base : Nat) (v : Value) (l : List Rg) : Prop := RdR w v l ∧ (v = .slice none 0 0 ∨ ∃ g o n c, v = .slice (some ⟨g, o, none⟩) n c ∧ base ≤ g)
theorem RdN.of_own {w : World} {base base' : Nat} {e : TypeId} {n : Nat} {v : Value} {l : List Rg} (h : w.ownsRow base e 2 v n (flat l)) (hb : base' ≤ base) : RdN w base' v l := by
  refine ⟨RdR.of_own h, ?_⟩
  obtain ⟨-, ⟨rfl, -⟩ | ⟨g, cap, cur, rfl, h1, h2⟩⟩ := h
  · exact .inl rfl
  · exact .inr ⟨g, 0, n, cap, rfl, Nat.le_trans hb h1⟩
theorem RdN.mono {w : World} {base base' : Nat} {v : Value} {l : List Rg} (h : RdN w base v l) (hb : base' ≤ base) : RdN w base' v l := by
  refine ⟨h.1, ?_⟩
  rcases h.2 with e | ⟨g, o, n, c, e, h1⟩
  · exact .inl e
  · exact .inr ⟨g, o, n, c, e, Nat.le_trans hb h1⟩
theorem RdN.below {w w' : World} {base : Nat} {v : Value} {l : List Rg} (h : RdN w base v l) (hb : Below w.heap.size w w') : RdN w' base v l := ⟨h.1.below hb, h.2⟩
theorem RdN.setCell {w : World} {base : Nat} {v : Value} {l : List Rg} (h : RdN w base v l) {p : Addr} (hp : p.block < base) (u : Value) : RdN (w.setCell p u) base v l := by
  refine ⟨?_, h.2⟩
  obtain ⟨A, n, c, rfl, hl, hn, hr⟩ := h.1
  refine ⟨A, n, c, rfl, hl, hn, fun h0 => ?_⟩
  obtain ⟨g, o, rfl, hg, hc⟩ := hr h0
  have hb : base ≤ g := by
    rcases h.2 with e | ⟨g', o', n', c', e, h1⟩
    · cases e
    · simp only [Value.slice.injEq, Option.some.injEq, Addr.mk.injEq] at e
      obtain ⟨⟨rfl, -⟩, -⟩ := e
      exact h1
  refine ⟨g, o, rfl, by simpa [World.setCell] using hg, fun j u' hj => ?_⟩
  rw [World.cell?_of_block (a := ⟨g, o + j, none⟩) (Below.heap_setCell _ _ _ _ (by simp only at hb ⊢; omega))]
  exact hc j u' hj
theorem RdN.cases {w : World} {base : Nat} {v : Value} {l : List Rg} (h : RdN w base v l) : (v = .slice none 0 0 ∧ l = []) ∨
    ∃ g o c, v = .slice (some ⟨g, o, none⟩) l.length c ∧ l.length ≤ c ∧ ∀ j u, (flat l)[j]? = some u → w.cell? ⟨g, o + j, none⟩ = some u := by
  obtain ⟨⟨A, n, c, rfl, hl, hn, hr⟩, h2⟩ := h
  rw [flat_len] at hl
  obtain rfl : n = l.length := by omega
  rcases h2 with e | ⟨g, o, n', c', e, -⟩
  · simp only [Value.slice.injEq] at e
    exact .inl ⟨by rw [e.1, e.2.1, e.2.2], List.eq_nil_of_length_eq_zero e.2.1⟩
  · simp only [Value.slice.injEq] at e
    obtain ⟨rfl, -, -⟩ := e
    refine .inr ⟨g, o, c, rfl, hn, fun j u hj => ?_⟩
    have hp : 0 < (flat l).length := by have := (List.getElem?_eq_some_iff.1 hj).1; omega
    obtain ⟨g', o', e, -, hc⟩ := hr hp
    simp only [Option.some.injEq, Addr.mk.injEq, and_true] at e
    obtain ⟨rfl, rfl⟩ := e
    exact hc j u hj

theorem infoRg : (Try.prog.info? 54).map (fun i => (i.zero, i.size, i.bytes)) = some (some (.agg #[.int .i32 0, .int .i32 0]), 2, 8) := by kernel_rfl
theorem flat_snoc (l : List Rg) (X Y : Int) : flat l ++ [.int .i32 X, .int .i32 Y] = flat (l ++ [(X, Y)]) := by rw [flat_append]; rfl
theorem flat_hi (a : List Rg) (h : Rg) (Y : Int) : (flat (a ++ [h])).set (a.length * 2 + 1) (.int .i32 Y) = flat (a ++ [(h.1, Y)]) := by
  rw [flat_append, flat_append, List.set_append_right _ _ (by rw [flat_len]; omega), flat_len]
  rw [show a.length * 2 + 1 - a.length * 2 = 1 by omega]; rfl
theorem getD_last (a : List Rg) (h : Rg) : (a ++ [h]).getD a.length (0, 0) = h := by simp [List.getD]

def mergeS (xs : List Rg) : List Rg := xs.foldl stepM []
theorem mergeS_succ (xs : List Rg) (K : Nat) (h : K < xs.length) : mergeS (xs.take (K + 1)) = stepM (mergeS (xs.take K)) (xs.getD K (0, 0)) := by
  unfold mergeS; rw [take_succ xs K h, List.foldl_append]; rfl
def Valid (xs : List Rg) : Prop := xs.Pairwise (fun a b => a.1 ≤ b.1) ∧ ∀ g ∈ xs, 0 ≤ g.1 ∧ g.1 ≤ g.2 ∧ g.2 ≤ 1114111
theorem Valid.take {xs : List Rg} (h : Valid xs) (K : Nat) : Valid (xs.take K) := ⟨h.1.sublist (List.take_sublist _ _), fun g hg => h.2 g (List.mem_of_mem_take hg)⟩
theorem mergeS_ok {xs : List Rg} (h : Valid xs) : Can 0 (mergeS xs) ∧ ∀ r, hasB (mergeS xs) r = hasB xs r := by
  have := merge_ok xs [] trivial (fun a h e => by simp at e) h.1 h.2
  exact ⟨this.1, fun r => by have := this.2 r; rw [hasB_nil, Bool.false_or] at this; exact this⟩

set_option maxRecDepth 100000 in
set_option maxHeartbeats 1000000 in
theorem merge_calls (xs : List Rg) (v : Value) (w : World) (hx : RdR w v xs) (hv : Valid xs) (hlen : xs.length ≤ 17592186044416) (R : Ending → World → Prop)
    (hR : Hid (∀ v' w', w'.ownsRow w.heap.size 54 2 v' (mergeS xs).length (flat (mergeS xs)) → Below w.heap.size w w' → R (.returned v') w')) :
    Calls Try.prog 43 #[v] w R := by
  obtain ⟨A, c, rfl, hlc, hr⟩ := hx.open
  obtain ⟨i0, hi, hz0, hz1, hz2⟩ := info_parts infoRg
  replace hr := Lib.hid hr
  replace hv := Lib.hid hv
  go_enter Try.func43, Try.ntmps43
  go_wp2_with fail
  go_loopg [3, 9] xs.length (fun k l i wr => ∃ (K : Nat) (v : Value) (acc : List Rg), v = l ∧ Below w.heap.size w wr ∧ i = .int .i64 K ∧ wr.ownsRow w.heap.size 54 2 v acc.length (flat acc) ∧ K + k = xs.length ∧ acc.length ≤ K ∧ Hid (acc = mergeS (xs.take K)))
  case atStart => exact ⟨0, _, [], rfl, Below.refl _ _, rfl, World.ownsRow_nil _ _ _ _, by omega, by simp, rfl⟩
  case round =>
    obtain ⟨K, v, acc, rfl, hbel, rfl, hown, c1, c2, c3⟩ := hrel
    have hsz := hbel.size
    by_cases hK : K < xs.length
    · obtain ⟨k, rfl⟩ : ∃ k, gk = k + 1 := ⟨gk - 1, by omega⟩
      obtain ⟨g, o, rfl, hg, hca⟩ := hr.out (by omega)
      obtain ⟨h0, h1⟩ := hca K hK
      have e0 := (hbel.cell (p := ⟨g, o + K * 2, none⟩) hg).trans h0
      have e1 := (hbel.cell (p := ⟨g, o + K * 2 + 1, none⟩) hg).trans h1
      have hs := mergeS_succ xs K hK
      rw [← c3.out] at hs
      have hCan : Can 0 acc := by rw [c3.out]; exact (mergeS_ok (hv.out.take K)).1
      obtain ⟨b1, b2, b3⟩ := hv.out.2 (xs.getD K (0, 0)) (by simp [List.getD, List.getElem?_eq_getElem hK])
      clear h0 h1 hca
      generalize xs.getD K (0, 0) = G at *
      obtain ⟨X, Y⟩ := G
      simp only at e0 e1 b1 b2 b3
      rcases snoc_cases acc with rfl | ⟨a, h, rfl⟩
      · rw [stepM_nil] at hs
        replace hs := Lib.hid hs
        clear hCan
        simp only [List.length_nil] at hown
        obtain ⟨hvv, -⟩ := own_nil hown
        have hown2 := hown.alloc (.cells #[.int .i32 X, .int .i32 Y] 54)
        have hl0 : ∃ A c, v = .slice A 0 c := by rcases hvv with rfl | ⟨g, c, rfl⟩ <;> exact ⟨_, _, rfl⟩
        clear hvv
        obtain ⟨A', c', rfl⟩ := hl0
        go_wp2_with fail
        go_quiet (fail)
        go_wp2_with (at_builtin; go_loud (refine appK _ #[.int .i32 X, .int .i32 Y] 2 54 rfl _ _ 25 rfl w.heap.size i0 (.agg #[.int .i32 0, .int .i32 0]) 8 Try.underlying25 hi hz0 hz1 hz2 rfl (by decide) rfl _ _ _ rfl (hown.alloc _) _ rfl (by simp) (by simp [Value.oneCell']) (by unfold maxLen; omega) (by omega) (Nat.le_trans hsz (by simp)) ?_); intro v' w3 hown3 hg3 hb3)
        go_roundg k
        case measure => omega
        case rel => exact ⟨K + 1, v', [(X, Y)], rfl, (below_drewN (hbel.alloc hsz _) _).trans (hb3.mono (Nat.le_refl _)), by go_num, by simpa [flat, enc] using hown3, by omega, by simp, hs.out.symm⟩
      · simp only [List.length_append, List.length_cons, List.length_nil, Nat.zero_add] at hown c2
        obtain ⟨g', cap', rfl, hg1, hg2, hcap, hcells⟩ := own_at hown (by omega)
        have f1 := hcells (a.length * 2 + 1) (by omega)
        have f2 := (flat_get (a ++ [h]) a.length (by simp)).2
        rw [getD_last] at f2
        rw [f2] at f1
        obtain ⟨H1, H2⟩ := h
        simp only at f1
        obtain ⟨q1, q2, q3, q4⟩ := can_snoc.1 hCan
        simp only at q3 q4
        have gd : decide ((a.length : Int) < 0) = false := by rw [decide_eq_false_iff_not]; omega
        obtain ⟨q0, -, -⟩ := can_sorted hCan (H1, H2) (by simp)
        simp only at q0
        have hw := IntWalk.wrap32_in (H2 + 1) (by omega)
        have hlen1 : ((a.length + 1 : Nat) : Int) - 1 = (a.length : Int) := by omega
        clear q1 q2 f2 hcells hCan
        by_cases t : H2 + 1 < X
        · rw [stepM_far _ _ _ t] at hs
          replace hs := Lib.hid hs
          go_wp2_with fail
          go_quiet (fail)
          go_wp2_with (at_builtin; go_loud (refine appK _ #[.int .i32 X, .int .i32 Y] 2 54 rfl _ _ 25 rfl w.heap.size i0 (.agg #[.int .i32 0, .int .i32 0]) 8 Try.underlying25 hi hz0 hz1 hz2 rfl (by decide) rfl _ _ _ rfl (hown.alloc _) _ rfl (by simp) (by simp [Value.oneCell']) (by unfold maxLen; omega) (by omega) (Nat.le_trans hsz (by simp)) ?_); intro v' w3 hown3 hg3 hb3)
          go_roundg k
          case measure => omega
          case rel => exact ⟨K + 1, v', a ++ [(H1, H2)] ++ [(X, Y)], rfl, (below_drewN (hbel.alloc hsz _) _).trans (hb3.mono (Nat.le_refl _)), by go_num, by rw [← flat_snoc]; simpa using hown3, by omega, by simp; omega, hs.out.symm⟩
        · rw [stepM_near _ _ _ t] at hs
          simp only at hs
          replace hs := Lib.hid hs
          go_wp2_with fail
          go_quiet (fail)
          go_wp2_with fail
          have hb : Below wr.heap.size wr ((wr.alloc (.cells #[.int .i32 X, .int .i32 Y] 54)).drewN nq) := below_drewN ((Below.refl _ _).alloc (Nat.le_refl _) _) nq
          have k1 := (hb.cell (p := ⟨g', a.length * 2 + 1, none⟩) hg2).trans f1
          have k2 : ((wr.alloc (.cells #[.int .i32 X, .int .i32 Y] 54)).drewN nq).cell? ⟨wr.heap.size, 1, none⟩ = some (.int .i32 Y) := by
            show (wr.alloc _).cell? _ = _
            rw [World.cell?_alloc_new]; rfl
          have hown2 := own_below hown hb
          have hbel2 := hbel.trans (hb.mono hsz)
          have hsz2 := hbel2.size
          clear hb hown f1 hbel
          generalize (wr.alloc (.cells #[.int .i32 X, .int .i32 Y] 54)).drewN nq = W1 at *
          have fz := World.ownsRow.frozenAt hown2 (a.length * 2 + 1)
          by_cases tm : H2 < Y
          · have mx : max H2 Y = Y := by omega
            replace hs := hs.out; rw [mx] at hs; replace hs := Lib.hid hs
            replace mx := Lib.hid mx
            go_region
            go_wp2_with fail
            go_roundg k
            case measure => omega
            case rel =>
              obtain ⟨o1, o2⟩ := World.ownsRow.stored hown2 (a.length * 2 + 1) (.int .i32 Y)
              rw [flat_hi] at o1
              refine ⟨K + 1, _, a ++ [(H1, Y)], rfl, (hbel2.setCell (p := ⟨g', a.length * 2 + 1, none⟩) hg1 _).drew, by go_num, by simpa using World.ownsRow.drew o1, by omega, by simp; omega, hs.out.symm⟩
          · have mx : max H2 Y = H2 := by omega
            replace hs := hs.out; rw [mx] at hs; replace hs := Lib.hid hs
            replace mx := Lib.hid mx
            go_region
            go_wp2_with fail
            go_roundg k
            case measure => omega
            case rel =>
              obtain ⟨o1, o2⟩ := World.ownsRow.stored hown2 (a.length * 2 + 1) (.int .i32 H2)
              rw [flat_hi] at o1
              refine ⟨K + 1, _, a ++ [(H1, H2)], rfl, (hbel2.setCell (p := ⟨g', a.length * 2 + 1, none⟩) hg1 _).drew, by go_num, by simpa using World.ownsRow.drew o1, by omega, by simp; omega, hs.out.symm⟩
    · have e : acc = mergeS xs := by rw [c3.out, List.take_of_length_le (by omega)]
      subst e
      go_wp2_with fail
      exact hR.out _ _ hown hbel
end Go.Proofs.Ytcgknfpcpjiciaa.Ran
