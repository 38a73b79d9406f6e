/- Ranges and Join: the library's Clone, Grow and Concat. -/
import Derived.Test.YtcgknfpcpjiciaaRanI
import Derived.Laws.AppendOwnNone
set_option linter.unusedVariables false
namespace Go.Proofs.Ytcgknfpcpjiciaa.Ran
open Go.Shelf Go.RowKit Go.Lib

theorem add0 (g o j : Nat) : (⟨g, o, none⟩ : Addr).add j = ⟨g, o + j, none⟩ := by unfold Addr.add; split <;> simp_all
theorem flat_one (l : List Rg) : ∀ u ∈ flat l, u.oneCell' = true := by
  intro u hu
  simp only [flat, List.mem_flatMap, enc, List.mem_cons, List.not_mem_nil, or_false] at hu
  obtain ⟨g, _, rfl | rfl⟩ := hu <;> rfl
theorem clone_calls (l : List Rg) (v : Value) (w : World) (b : Nat) (hx : RdN w b v l) (hl : l.length ≤ 17592186044416) (R : Ending → World → Prop)
    (hR : Hid (∀ v' w', RdN w' w.heap.size v' l → Below w.heap.size w w' → R (.returned v') w')) : Calls Try.prog 39 #[v] w R := by
  obtain ⟨i0, hi, hz0, hz1, hz2⟩ := info_parts infoRg
  rcases hx.cases with ⟨rfl, rfl⟩ | ⟨g, o, c, rfl, hc, hcell⟩
  · have := AnyE.slices_Clone_nil Ytcgknfpcpjiciaa.cloneRg 0 0 w
    change Calls Try.prog 39 _ _ _ at this
    refine this.mono ?_
    rintro e w' ⟨rfl, rfl⟩
    exact hR.out _ _ (RdN.of_own (World.ownsRow_nil _ w'.heap.size 54 2) (Nat.le_refl _)) (Below.refl _ _)
  · have := AnyE.slices_Clone Ytcgknfpcpjiciaa.cloneRg i0 (.agg #[.int .i32 0, .int .i32 0]) 2 8 hi hz0 hz1 hz2 rfl (by decide) Try.sizeOf54 g o l.length c (flat l) w (flat_len l) (by unfold maxLen; omega) (by omega)
      hcell (flat_one l)
    change Calls Try.prog 39 _ _ _ at this
    refine this.mono ?_
    rintro e w' ⟨v', rfl, hown, -, hb⟩
    exact hR.out _ _ (RdN.of_own hown (Nat.le_refl _)) hb

theorem ranges_calls (l : List Rg) (v : Value) (w : World) (b : Nat) (hx : RdN w b v l) (hl : l.length ≤ 17592186044416) (R : Ending → World → Prop)
    (hR : Hid (∀ v' w', RdN w' w.heap.size v' l → Below w.heap.size w w' → R (.returned v') w')) : Calls Try.prog 18 #[.agg #[v]] w R := by
  have hb := (Below.refl w.heap.size w).alloc (Nat.le_refl _) (.cells #[v] 27)
  have hx2 := Lib.hid (hx.below hb)
  replace hx := Lib.hid hx
  replace hb := Lib.hid hb
  obtain ⟨A, n, c, rfl, -⟩ := hx.out.1
  go_enter Try.func18, Try.ntmps18
  go_wp2_with fail
  refine clone_calls l _ _ _ hx2.out hl _ (fun v' w1 r1 b1 => ?_)
  go_wp2_with fail
  exact hR.out _ _ (r1.mono (by simp)) (hb.out.trans (b1.mono (by simp)))

/-- 'append(s, t...)': s a row of the call's own. -/
theorem appRg {ops : Array Oper} {rest : List Oper} {o : Oper} {a : Act} {Q : Exit → Act → World → Prop} (W : World) (hgd : o.guard = none) (s x : Operand)
    (ho : o.op = .call { callee := .builtin .append, args := #[s, x], argTypes := #[25, 25] })
    (base b : Nat) (v vs : Value) (acc l : List Rg) (hs : a.eval s = v) (hown : W.ownsRow base 54 2 v acc.length (flat acc)) (hx : a.eval x = vs) (hr : RdN W b vs l) (hbase : base ≤ W.heap.size)
    (h63 : acc.length + l.length ≤ 17592186044416)
    (h : ∀ v' w', w'.ownsRow base 54 2 v' (acc ++ l).length (flat (acc ++ l)) → Below base W w' → wpList Try.prog ops Q rest (a.put o.dst v') w') :
    wpList Try.prog ops Q (o :: rest) a W := by
  obtain ⟨i0, hi, hz0, hz1, hz2⟩ := info_parts infoRg
  rcases hr.cases with ⟨rfl, rfl⟩ | ⟨g, o', c, rfl, hc, hcell⟩
  · refine wpList_append_own_none hgd s x _ ho base 54 i0 2 Try.underlying25 hi v _ _ hs hown hx ?_
    exact h _ _ (by simpa using hown) (Below.refl _ _)
  · refine wpList_append_own _ hgd s x _ ho base 54 i0 (.agg #[.int .i32 0, .int .i32 0]) 2 8 Try.underlying25 hi hz0 hz1 hz2 rfl (by decide) v _ _ hs hown ⟨g, o', none⟩ l.length c (flat l) hx (flat_len l)
      (fun j u hj => by rw [add0]; exact hcell j u hj) (flat_one l) (by unfold maxLen; omega) (by omega) hbase ?_
    intro v' w' hw' hg _
    exact h v' w' (by rw [flat_append, List.length_append]; exact hw') (grown_below hg hbase (fun k hk => (hown.lt k hk).1))
end Go.Proofs.Ytcgknfpcpjiciaa.Ran
