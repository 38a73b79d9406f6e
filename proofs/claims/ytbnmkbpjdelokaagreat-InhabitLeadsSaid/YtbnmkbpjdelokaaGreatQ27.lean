import Derived.Test.YtbnmkbpjdelokaaGreatQ26
import Derived.Test.YtbnmkbpjdelokaaGreatQ10
import Derived.Test.YtbnmkbpjdelokaaGreatQ9
set_option linter.unusedVariables false
set_option maxRecDepth 100000
set_option maxHeartbeats 4000000
namespace Go.Proofs.YtbnmkbpjdelokaaGreat.Lat
open Go.RowKit Go.Lib Rel Nam
theorem built_lat (g n : Nat) (x : Option Addr) : Tryz.prog.built 122 [(0, .slice (some ⟨g, 0, none⟩) n n), (1, .pointer x)] = some (latC (.slice (some ⟨g, 0, none⟩) n n) (.pointer x)) := by kernel_rfl
theorem latC_size (v1 v2 : Value) : (latC v1 v2).size = 2050 := by unfold latC; simp
theorem pr_has {ws : List Wr} {ps : List Pr} {K : Nat} : prAt ws ps K = if findS (nms ws) (pN ps K).1.1 < 0 then some (17, (pN ps K).1.2) else if findS (nms ws) (pN ps K).2.1 < 0 then some (17, (pN ps K).2.2) else none := rfl
theorem fin_no {xs : List ByteArray} {s : ByteArray} (h : findS xs s < 0) : finS xs s = (0, false) := by unfold finS; rw [if_pos h]
theorem fin_yes {xs : List ByteArray} {s : ByteArray} (h : ¬ findS xs s < 0) : finS xs s = (findS xs s, true) := by unfold finS; rw [if_neg h]
theorem Flt.below1 {w W W' : World} {H : Nat} (h : Flt w H W) (hb : Below (H + 1) W W') : Flt w H W' :=
  ⟨h.nb.trans (hb.mono (Nat.le_succ H)), Nat.lt_of_lt_of_le h.lt hb.size, (hb.cell (p := ⟨H, 0, none⟩) (Nat.lt_succ_self H)).trans h.c0, (hb.cell (p := ⟨H, 1, none⟩) (Nat.lt_succ_self H)).trans h.c1, (hb.frozen (p := ⟨H, 0, none⟩) (Nat.lt_succ_self H)).trans h.f0, (hb.frozen (p := ⟨H, 1, none⟩) (Nat.lt_succ_self H)).trans h.f1⟩
theorem pair_box (W : World) (s0 s1 : ByteArray) (z0 z1 : Int) (m : Nat) : ((W.alloc (.cells #[.string s0, .int .i64 z0, .string s1, .int .i64 z1] 128)).drewN m).cell? ⟨W.heap.size, 0, none⟩ = some (.string s0) ∧ ((W.alloc (.cells #[.string s0, .int .i64 z0, .string s1, .int .i64 z1] 128)).drewN m).cell? ⟨W.heap.size, 1, none⟩ = some (.int .i64 z0) ∧
    ((W.alloc (.cells #[.string s0, .int .i64 z0, .string s1, .int .i64 z1] 128)).drewN m).cell? ⟨W.heap.size, 2, none⟩ = some (.string s1) ∧ ((W.alloc (.cells #[.string s0, .int .i64 z0, .string s1, .int .i64 z1] 128)).drewN m).cell? ⟨W.heap.size, 3, none⟩ = some (.int .i64 z1) := by
  have b := below_drewN (Below.refl (W.heap.size + 1) (W.alloc (.cells #[.string s0, .int .i64 z0, .string s1, .int .i64 z1] 128))) m
  have q1 := heap_alloc_new W (.cells #[.string s0, .int .i64 z0, .string s1, .int .i64 z1] 128)
  refine ⟨(b.cell (p := ⟨W.heap.size, 0, none⟩) (by simp)).trans ?_, (b.cell (p := ⟨W.heap.size, 1, none⟩) (by simp)).trans ?_, (b.cell (p := ⟨W.heap.size, 2, none⟩) (by simp)).trans ?_, (b.cell (p := ⟨W.heap.size, 3, none⟩) (by simp)).trans ?_⟩
  all_goals rw [Lib.cell_of_heap q1]; rfl
theorem latnumbered_calls (ws : List Wr) (ps : List Pr) (p : Nat) (vp : Value) (w : World) (hv : LevP w p (nms ws)) (hp : RdPr w vp ps) (hl2 : ps.length ≤ 1000000) (R : Ending → World → Prop)
    (hR : Hid (∀ v' w', firF (prAt ws ps) ps.length 0 = none → RdQ w' v' (idxQ ws ps) → Below w.heap.size w w' → R (.returned (.tuple #[v', .agg #[.int .i64 0, .int .i64 0]])) w'))
    (hR2 : Hid (∀ f w', firF (prAt ws ps) ps.length 0 = some f → Below w.heap.size w w' → R (.returned (.tuple #[.slice none 0 0, .agg #[.int .i64 f.1, .int .i64 f.2]])) w')) : Calls Tryz.prog 73 #[.pointer (some ⟨p, 0, none⟩), vp] w R := by
  obtain ⟨Ap, cp, rfl, hcp, hrp⟩ := hp.op
  obtain ⟨i0, hI, hz0, hz1, hz2⟩ := info_parts infoTwo
  have T := Flt.new w
  have cF := Lib.hid fun (W : World) (hb : Below w.heap.size w W) s R hR => latfindx_calls (nms ws) p W (hv.below hb) s R hR
  replace hrp := Lib.hid hrp
  have z0 : (w.alloc (.cells #[.int .i64 0, .int .i64 0] 37)).heap.size = w.heap.size + 1 := by simp
  clear hp hv
  go_enter Tryz.func73, Tryz.ntmps73
  go_upto_region 1 with fail
  generalize w.alloc (.cells #[.int .i64 0, .int .i64 0] 37) = W0 at *
  have T0 := Lib.hid T
  clear T
  replace z0 := Lib.hid z0
  go_wp2_with fail
  go_loopg [6, 14] ps.length (fun g s i wr => ∃ (K : Nat) (vo : Value), vo = s ∧ i = .int .i64 K ∧ K + g = ps.length ∧ Hid (Flt w w.heap.size wr) ∧ Hid (wr.ownsRow (w.heap.size + 1) 174 2 vo K (flatG encQ (idxQ ws (ps.take K)))) ∧ Hid (∀ j, j < K → prAt ws ps j = none))
  case atStart => exact ⟨0, _, rfl, rfl, by omega, T0, Lib.hid (World.ownsRow_nil _ _ _ _), Lib.hid fun j h => by omega⟩
  case round =>
    clear T0 z0
    obtain ⟨K, vo, rfl, rfl, c1, T, own, hs⟩ := hrel
    have hlt := T.out.lt
    by_cases hK : K < ps.length
    · obtain ⟨g, o, rfl, hg, hca⟩ := hrp.out (by omega)
      obtain ⟨x0, x1, x2, x3⟩ := hca K hK
      have e0 := (T.out.nb.cell (p := ⟨g, o + K * 4, none⟩) hg).trans x0
      have e1 := (T.out.nb.cell (p := ⟨g, o + K * 4 + 1, none⟩) hg).trans x1
      have e2 := (T.out.nb.cell (p := ⟨g, o + K * 4 + 2, none⟩) hg).trans x2
      have e3 := (T.out.nb.cell (p := ⟨g, o + K * 4 + 3, none⟩) hg).trans x3
      have hlv := pr_has (ws := ws) (ps := ps) (K := K)
      have hfir : ∀ f, prAt ws ps K = some f → firF (prAt ws ps) ps.length 0 = some f := fun f hf => fir_is ps.length 0 K (Nat.zero_le _) (by omega) hf (fun j _ hj => hs.out j hj)
      have hnx : prAt ws ps K = none → ∀ j, j < K + 1 → prAt ws ps j = none := fun h j hj => by
        rcases Nat.eq_or_lt_of_le (Nat.le_of_lt_succ hj) with e | q
        · subst e; exact h
        · exact hs.out j q
      have htk := idx_take (ws := ws) hK
      have hi0 : (0 : Int) ≤ (K : Int) := by omega
      have hi1 : (K : Int) < (ps.length : Int) := by omega
      have h0 := fin_no (xs := nms ws) (s := (pN ps K).1.1)
      have h1 := fin_yes (xs := nms ws) (s := (pN ps K).1.1)
      have h2 := fin_no (xs := nms ws) (s := (pN ps K).2.1)
      have h3 := fin_yes (xs := nms ws) (s := (pN ps K).2.1)
      have bA := (Below.refl wr.heap.size wr).alloc (Nat.le_refl _) (.cells #[.string (pN ps K).1.1, .int .i64 (pN ps K).1.2, .string (pN ps K).2.1, .int .i64 (pN ps K).2.2] 128)
      have TA := T.out.below bA
      have zA : (wr.alloc (.cells #[.string (pN ps K).1.1, .int .i64 (pN ps K).1.2, .string (pN ps K).2.1, .int .i64 (pN ps K).2.2] 128)).heap.size = wr.heap.size + 1 := by simp
      have cA := cF.out _ TA.nb (pN ps K).1.1
      have cB := fun m => cF.out _ (below_drewN TA.nb m) (pN ps K).2.1
      have kk := pair_box wr (pN ps K).1.1 (pN ps K).2.1 (pN ps K).1.2 (pN ps K).2.2
      have oA := own_below own.out bA
      generalize (pN ps K).1.1 = s0 at *
      generalize (pN ps K).1.2 = z0 at *
      generalize (pN ps K).2.1 = s1 at *
      generalize (pN ps K).2.2 = z1 at *
      generalize prAt ws ps K = V at *
      generalize idxQ ws (ps.take K) = l0 at *
      generalize hW : wr.alloc (.cells #[.string s0, .int .i64 z0, .string s1, .int .i64 z1] 128) = WA at *
      generalize hHr : wr.heap.size = Hr at *
      have hfar : w.heap.size < Hr := hlt
      have k00 : WA.cell? ⟨Hr, 0, none⟩ = some (.string s0) := (kk 0).1
      have HrW : ∀ m, (WA.drewN m).heap.size = Hr + 1 := fun m => by rw [← zA]; rfl
      replace HrW := Lib.hid HrW
      replace kk := Lib.hid kk
      replace cA := Lib.hid cA
      replace cB := Lib.hid cB
      replace oA := Lib.hid oA
      replace TA := Lib.hid TA
      replace htk := Lib.hid htk
      clear hca x0 x1 x2 x3 hs own T
      by_cases f0 : findS (nms ws) s0 < 0
      · rw [if_pos f0] at hlv
        have fin := Lib.hid fun w' hb => hR2.out _ w' (hfir _ hlv) hb
        replace cA := cA.out
        rw [h0 f0] at cA
        replace cA := Lib.hid cA
        clear hlv hfir hnx h0 h1 h2 h3 f0 cB htk
        go_wp2_with fail
        refine cA.out _ (Lib.hid fun nq => ?_)
        obtain ⟨k0, k1, -, -⟩ := kk.out nq
        have T1 := Lib.hid (TA.out.below (below_drewN (Below.refl _ _) nq))
        clear kk TA oA k00 HrW hW cA
        generalize WA.drewN nq = W1 at *
        go_wp2_with fail
        refine faultat_calls s0 z0 17 _ _ (Lib.hid fun w3 n3 => ?_)
        have T3 := T1.out.below n3
        clear n3 T1 k0 k1 e0 e1 e2 e3
        obtain ⟨nf, s0', s1'⟩ := T3.told (.int .i64 17) (.int .i64 z0)
        have c0 := T3.c0
        have c1 := T3.c1
        have f0' := T3.f0
        have f1' := T3.f1
        replace nf := Lib.hid nf
        replace s0' := Lib.hid s0'
        replace s1' := Lib.hid s1'
        clear T3
        go_wp2_with fail
        replace s0' := s0'.out
        replace s1' := s1'.out
        clear c0 c1 f0' f1'
        generalize (w3.setCell ⟨w.heap.size, 0, none⟩ _).setCell ⟨w.heap.size, 1, none⟩ _ = Wz at *
        refine bodyPost_ret ?_ rfl (fin.out _ nf.out)
        simp [results, Tryz.results73, go_sem, s0', s1']
      · rw [if_neg f0] at hlv
        replace cA := cA.out
        rw [h1 f0] at cA
        replace cA := Lib.hid cA
        by_cases f1 : findS (nms ws) s1 < 0
        · rw [if_pos f1] at hlv
          have fin := Lib.hid fun w' hb => hR2.out _ w' (hfir _ hlv) hb
          replace cB := cB.out
          rw [h2 f1] at cB
          replace cB := Lib.hid cB
          clear hlv hfir hnx h0 h1 h2 h3 f0 f1 htk
          go_wp2_with fail
          refine cA.out _ (Lib.hid fun nq => ?_)
          obtain ⟨-, -, k2, -⟩ := kk.out nq
          have cB2 := Lib.hid (cB.out nq)
          have kk2 := kk.out
          clear k00
          go_wp2_with fail
          refine cB2.out _ (Lib.hid fun nq2 => ?_)
          have bm := below_drewN (Below.refl (WA.drewN nq).heap.size (WA.drewN nq)) nq2
          have T1 := Lib.hid ((TA.out.below (below_drewN (Below.refl _ _) nq)).below bm)
          obtain ⟨-, -, k2', k3'⟩ := kk2 nq
          have k2 := (bm.cell (p := ⟨Hr, 2, none⟩) (by rw [HrW.out]; simp)).trans k2'
          have k3 := (bm.cell (p := ⟨Hr, 3, none⟩) (by rw [HrW.out]; simp)).trans k3'
          clear kk kk2 TA oA HrW hW cA cB cB2 bm k2' k3'
          generalize (WA.drewN nq).drewN nq2 = W1 at *
          go_wp2_with fail
          refine faultat_calls s1 z1 17 _ _ (Lib.hid fun w3 n3 => ?_)
          have T3 := T1.out.below n3
          clear n3 T1 k2 k3 e0 e1 e2 e3
          obtain ⟨nf, s0', s1'⟩ := T3.told (.int .i64 17) (.int .i64 z1)
          have c0 := T3.c0
          have c1 := T3.c1
          have f0' := T3.f0
          have f1' := T3.f1
          replace nf := Lib.hid nf
          replace s0' := Lib.hid s0'
          replace s1' := Lib.hid s1'
          clear T3
          go_wp2_with fail
          replace s0' := s0'.out
          replace s1' := s1'.out
          clear c0 c1 f0' f1'
          generalize (w3.setCell ⟨w.heap.size, 0, none⟩ _).setCell ⟨w.heap.size, 1, none⟩ _ = Wz at *
          refine bodyPost_ret ?_ rfl (fin.out _ nf.out)
          simp [results, Tryz.results73, go_sem, s0', s1']
        · rw [if_neg f1] at hlv
          replace cB := cB.out
          rw [h3 f1] at cB
          replace cB := Lib.hid cB
          have hn2 := Lib.hid (hnx hlv)
          clear hlv hfir hnx h0 h1 h2 h3 f0 f1
          generalize findS (nms ws) s0 = a at *
          generalize findS (nms ws) s1 = b at *
          go_wp2_with fail
          refine cA.out _ (Lib.hid fun nq => ?_)
          obtain ⟨-, -, k2, -⟩ := kk.out nq
          have cB2 := Lib.hid (cB.out nq)
          clear k00
          go_wp2_with fail
          refine cB2.out _ (Lib.hid fun nq2 => ?_)
          have bm0 := below_drewN (Below.refl WA.heap.size WA) nq
          have bm := below_drewN (Below.refl (WA.drewN nq).heap.size (WA.drewN nq)) nq2
          have T1 := (TA.out.below bm0).below bm
          have O1 := own_below (own_below oA.out bm0) bm
          clear kk TA oA HrW hW cA cB cB2 bm bm0 k2
          generalize (WA.drewN nq).drewN nq2 = W1 at *
          have hlt1 : w.heap.size + 1 ≤ W1.heap.size := T1.lt
          replace T1 := Lib.hid T1
          replace O1 := Lib.hid O1
          go_wp2_with (at_builtin; refine appK W1 #[.int .i64 a, .int .i64 b] 2 174 rfl _ _ 136 rfl (w.heap.size + 1) i0 (.agg #[.int .i64 0, .int .i64 0]) 16 Tryz.underlying136 hI hz0 hz1 hz2 rfl (by decide) rfl vo K (flatG encQ l0) rfl O1.out _ rfl (by simp) (by simp [Value.oneCell']) (by unfold maxLen; omega) (by omega) hlt1 ?_; intro v' w3 hown3 hg3 hb3)
          go_roundg (gk - 1)
          case measure => omega
          case rel =>
            refine ⟨K + 1, v', rfl, by go_num, by omega, Lib.hid ?_, Lib.hid ?_, hn2⟩
            · exact T1.out.below1 hb3
            · rw [htk.out, flatG_snoc]; exact hown3
    · obtain rfl : K = ps.length := by omega
      have hno : firF (prAt ws ps) ps.length 0 = none := fir_no ps.length 0 (fun j _ hj => hs.out j (by omega))
      rw [List.take_length] at own
      have T3 := T.out
      obtain ⟨nf, s0', s1'⟩ := T3.told (.int .i64 0) (.int .i64 0)
      have c0 := T3.c0
      have c1 := T3.c1
      have f0' := T3.f0
      have f1' := T3.f1
      replace nf := Lib.hid nf
      replace s0' := Lib.hid s0'
      replace s1' := Lib.hid s1'
      clear T3
      have rd := RdG.of_own (ownsRow_setCell_below (ownsRow_setCell_below own.out (a := ⟨w.heap.size, 0, none⟩) (by simp) (.int .i64 0)) (a := ⟨w.heap.size, 1, none⟩) (by simp) (.int .i64 0))
      have fin := Lib.hid (hR.out _ _ hno rd nf.out)
      replace rd := Lib.hid rd
      clear hno own hs
      go_wp2_with fail
      replace s0' := s0'.out
      replace s1' := s1'.out
      clear c0 c1 f0' f1' rd nf
      replace fin := fin.out
      generalize (wr.setCell ⟨w.heap.size, 0, none⟩ _).setCell ⟨w.heap.size, 1, none⟩ _ = Wz at *
      refine bodyPost_ret ?_ rfl fin
      simp [results, Tryz.results73, go_sem, s0', s1']
end Go.Proofs.YtbnmkbpjdelokaaGreat.Lat
