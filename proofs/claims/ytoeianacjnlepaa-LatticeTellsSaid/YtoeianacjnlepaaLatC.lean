/- The reference's pairs, Leq. -/
import Derived.Test.YtoeianacjnlepaaLatB
import Derived.Deep.AppendLies
import Derived.Deep.RegionLaw
set_option maxRecDepth 100000
set_option linter.unusedVariables false
namespace Go.Proofs.Ytoeianacjnlepaa.Lat
open Go.RowKit Go.Lib Go.Proofs.Ytoeianacjnlepaa.Rel Go.Proofs.Ytoeianacjnlepaa.Nam

theorem infoTwo : (Try.prog.info? 90).map (fun i => (i.zero, i.size, i.bytes)) = some (some (.agg #[.int .i64 0, .int .i64 0]), 2, 16) := by kernel_rfl
theorem idx_take {ws : List Wr} {ps : List Pr} {K : Nat} (hK : K < ps.length) : idxQ ws (ps.take (K + 1)) = idxQ ws (ps.take K) ++ [(findS (nms ws) (pN ps K).1.1, findS (nms ws) (pN ps K).2.1)] := by
  unfold idxQ
  rw [List.take_succ_eq_append_getElem hK, List.map_append, pN_get hK]
  rfl
theorem idx_len (ws : List Wr) (ps : List Pr) : (idxQ ws ps).length = ps.length := by simp [idxQ]
set_option maxRecDepth 100000 in
set_option maxHeartbeats 4000000 in
theorem refpairs_calls (ws : List Wr) (ps : List Pr) (vw vp : Value) (w : World) (hw : RdW w vw ws) (hp : RdPr w vp ps) (hl : ws.length ≤ 1000000) (hl2 : ps.length ≤ 1000000) (R : Ending → World → Prop)
    (hR : Hid (∀ v' w', RdQ w' v' (idxQ ws ps) → Below w.heap.size w w' → R (.returned v') w')) : Calls Try.prog 39 #[vw, vp] w R := by
  obtain ⟨A, c, rfl, hc, hr⟩ := hp.op
  replace hr := Lib.hid hr
  obtain ⟨i0, hI, hz0, hz1, hz2⟩ := info_parts infoTwo
  have cF := Lib.hid fun (W : World) (hb : Below w.heap.size w W) s R hR => reffind11_calls ws s vw W (hw.below hb) hl R hR
  obtain ⟨A1, c1, rfl, -, -⟩ := hw.op
  clear hw hp
  go_enter Try.func39, Try.ntmps39
  go_wp2_with fail
  go_loopg [5, 6] ps.length (fun g s i wr => ∃ (K : Nat) (vo : Value), vo = s ∧ i = .int .i64 K ∧ K + g = ps.length ∧ Hid (Below w.heap.size w wr) ∧ Hid (wr.ownsRow w.heap.size 90 2 vo K (flatG encQ (idxQ ws (ps.take K)))))
  case atStart => exact ⟨0, _, rfl, rfl, by omega, Lib.hid (Below.refl _ _), Lib.hid (World.ownsRow_nil _ _ _ _)⟩
  case round =>
    obtain ⟨K, vo, rfl, rfl, d1, nb, own⟩ := hrel
    have hsz := nb.out.size
    by_cases hK : K < ps.length
    · obtain ⟨g, o, rfl, hg, hca⟩ := hr.out (by omega)
      obtain ⟨y0, -, y1, -⟩ := hca K hK
      have e0 := (nb.out.cell (p := ⟨g, o + K * 4, none⟩) hg).trans y0
      have e1 := (nb.out.cell (p := ⟨g, o + K * 4 + 2, none⟩) hg).trans y1
      have hs := Lib.hid (idx_take (ws := ws) hK)
      generalize (pN ps K).1.1 = s0 at *
      generalize (pN ps K).2.1 = s1 at *
      have cG := Lib.hid fun m s R hR => cF.out (wr.drewN m) (below_drewN nb.out m) s R hR
      have hi0 : (0 : Int) ≤ (K : Int) := by omega
      have hi1 : (K : Int) < (ps.length : Int) := by omega
      have hown := own.out
      generalize idxQ ws (ps.take K) = l0 at *
      clear hca y0 y1 cF own
      replace hown := Lib.hid hown
      go_wp2_with fail
      go_region_law
        (first
          | (refine step_append_lies _ (by rfl) _ _ _ (by rfl) w.heap.size 90 i0 _ 2 16 Try.underlying67 hI hz0 hz1 hz2 rfl (by omega) vo K (flatG encQ l0) (by rfl) ((hown.out.drew).alloc _) ⟨wr.heap.size, 0, none⟩ 1 1 [.int .i64 (findS (nms ws) s0), .int .i64 (findS (nms ws) s1)] (by rfl) (by rfl) (World.news_of_block (cs := #[.int .i64 (findS (nms ws) s0), .int .i64 (findS (nms ws) s1)]) (t := 90) (fr := (0, 0)) (heap_alloc_new _ _)) (by simp [Value.oneCell']) (by omega) (by unfold maxLen; omega) (by omega) (by simp; omega) (wr.heap.size + 1) (by simp) ?_; intro gg cap w2 hown2 hgrow hat hlt2)
          | (go_simp; go_at_call 14; refine cG.out 1 _ _ (Lib.hid ?_)))
      all_goals
        have b1 := grown_below (grown_step hgrow) (show w.heap.size ≤ wr.drew.heap.size from hsz) (fun k hk => (hown.out.lt k hk).1)
        have n2 := Lib.hid (nb.out.drew.trans b1)
        replace hown2 : w2.ownsRow w.heap.size 90 2 (.slice (some ⟨gg, 0, none⟩) (K + 1) cap) (K + 1) (flatG encQ (idxQ ws (ps.take (K + 1)))) := by rw [hs.out, flatG_snoc]; exact hown2
        replace hown2 := Lib.hid hown2
        clear hgrow hat b1 hs hown nb
        go_wp2_with fail
        go_roundg (gk - 1)
        case measure => omega
        case rel => exact ⟨K + 1, _, rfl, by go_num, by omega, n2, hown2⟩
    · obtain rfl : K = ps.length := by omega
      have rd := RdG.of_own own.out
      rw [List.take_length] at rd
      have fin := Lib.hid (hR.out _ _ rd nb.out)
      clear own rd nb
      go_wp2_with fail
      exact fin.out

set_option maxRecDepth 100000 in
set_option maxHeartbeats 1000000 in
theorem refleq_calls (ws : List Wr) (ps : List Pr) (vw vp : Value) (w : World) (hw : RdW w vw ws) (hp : RdPr w vp ps) (hr : RightQ ws.length (idxQ ws ps)) (hl2 : ps.length ≤ 1000000) (R : Ending → World → Prop)
    (hR : Hid (∀ v' w', RdM w' v' ws.length (ldR ws.length (toN (idxQ ws ps))) → Below w.heap.size w w' → R (.returned v') w')) : Calls Try.prog 11 #[vw, vp] w R := by
  have hl : ws.length ≤ 64 := by have := hr.1; omega
  have cP := Lib.hid fun R hR => refpairs_calls ws ps vw vp w hw hp (by omega) hl2 R hR
  have cD := Lib.hid fun (W : World) v h R hR => leads_calls ws.length (idxQ ws ps) v W h hr (by rw [idx_len]; unfold maxLen; omega) R hR
  obtain ⟨A1, c1, rfl, -, -⟩ := hw.op
  obtain ⟨A2, c2, rfl, -, -⟩ := hp.op
  clear hw hp
  go_enter Try.func11, Try.ntmps11
  go_wp2_with fail
  refine cP.out _ (Lib.hid fun v1 w1 r1 n1 => ?_)
  replace r1 := Lib.hid r1
  replace n1 := Lib.hid n1
  go_wp2_with fail
  refine cD.out w1 v1 r1.out _ (Lib.hid fun v2 w2 r2 n2 => ?_)
  have n3 := Lib.hid (n1.out.trans (n2.mono n1.out.size))
  replace r2 := Lib.hid r2
  clear n1 n2
  go_wp2_with fail
  exact hR.out _ _ r2.out n3.out
end Go.Proofs.Ytoeianacjnlepaa.Lat
