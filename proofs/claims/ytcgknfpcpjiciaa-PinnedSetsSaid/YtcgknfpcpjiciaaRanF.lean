/- New: the set of the runes that some range of a list contains. -/
import Derived.Test.YtcgknfpcpjiciaaRanE
set_option linter.unusedVariables false
namespace Go.Proofs.Ytcgknfpcpjiciaa.Ran
open Go.RowKit Go.Lib

theorem clip_eq (X Y a b : Int) (h1 : a = if X < 0 then 0 else X) (h2 : b = if 1114111 < Y then 1114111 else Y) : clip (X, Y) = (a, b) := by
  subst h1 h2
  unfold clip
  refine Prod.ext ?_ ?_
  · simp only; split <;> omega
  · simp only; split <;> omega
theorem keptG_step (xs : List Rg) (K : Nat) (h : K < xs.length) (a b : Int) (hc : clip (xs.getD K (0, 0)) = (a, b)) : keptG (xs.take (K + 1)) = keptG (xs.take K) ++ (if a ≤ b then [(a, b)] else []) := by
  rw [take_succ xs K h, keptG_snoc, hc]
  unfold okG
  by_cases t : a ≤ b <;> simp [t]
theorem kept_valid {l l' : List Rg} (h : l'.Perm (keptG l)) (hp : l'.Pairwise (fun a b => a.1 ≤ b.1)) : Valid l' := ⟨hp, fun g hg => keptG_ok l g (h.mem_iff.1 hg)⟩

set_option maxRecDepth 100000 in
set_option maxHeartbeats 2000000 in
theorem new_calls (xs : List Rg) (v : Value) (w : World) (hx : RdR w v xs) (hlen : xs.length ≤ 17592186044416) (R : Ending → World → Prop)
    (hR : Hid (∀ v' l w', RdN w' w.heap.size v' l → Can 0 l → (∀ r, hasB l r = inB xs r) → Below w.heap.size w w' → R (.returned (.agg #[v'])) w')) :
    Calls Try.prog 19 #[v] w R := by
  obtain ⟨i0, hi, hz0, hz1, hz2⟩ := info_parts infoRg
  have hB0 : Below w.heap.size w (w.alloc (.cells #[.slice none 0 0] 27)) := (Below.refl _ _).alloc (Nat.le_refl _) _
  have hx2 := hx.below hB0
  clear hx
  obtain ⟨A, c, rfl, hlc, hr⟩ := hx2.open
  have k0 : (w.alloc (.cells #[.slice none 0 0] 27)).cell? ⟨w.heap.size, 0, none⟩ = some (.slice none 0 0) := by rw [World.cell?_alloc_new]; rfl
  have hz : (w.alloc (.cells #[.slice none 0 0] 27)).heap.size = w.heap.size + 1 := by simp
  have k1 : (w.alloc (.cells #[.slice none 0 0] 27)).frozen? ⟨w.heap.size, 0, none⟩ = false := by simp
  replace hr := Lib.hid hr
  clear hx2
  go_enter Try.func19, Try.ntmps19
  go_wp2_with fail
  replace hB0 := Lib.hid hB0
  generalize w.alloc (.cells #[.slice none 0 0] 27) = W0 at *
  have hb0 : w.heap.size < W0.heap.size := by omega
  replace hz := Lib.hid hz
  go_loopg [3, 8] xs.length (fun k l i wr => ∃ (K : Nat) (v : Value) (kp : List Rg), v = l ∧ Below W0.heap.size W0 wr ∧ i = .int .i64 K ∧ wr.ownsRow W0.heap.size 54 2 v kp.length (flat kp) ∧ K + k = xs.length ∧ kp.length ≤ K ∧ Hid (kp = keptG (xs.take K)))
  case atStart => exact ⟨0, _, [], rfl, Below.refl _ _, rfl, World.ownsRow_nil _ _ _ _, by omega, by simp, rfl⟩
  case round =>
    obtain ⟨K, v, kp, rfl, hbel, rfl, hown, c1, c2, c3⟩ := hrel
    have hsz := hbel.size
    by_cases hK : K < xs.length
    · obtain ⟨k, rfl⟩ : ∃ k, gk = k + 1 := ⟨gk - 1, by omega⟩
      obtain ⟨g, o, rfl, hg, hca⟩ := hr.out (by omega)
      obtain ⟨h0, h1⟩ := hca K hK
      have e0 := (hbel.cell (p := ⟨g, o + K * 2, none⟩) hg).trans h0
      have e1 := (hbel.cell (p := ⟨g, o + K * 2 + 1, none⟩) hg).trans h1
      have hs := keptG_step xs K hK
      rw [← c3.out] at hs
      clear h0 h1 hca
      generalize xs.getD K (0, 0) = G at *
      obtain ⟨X, Y⟩ := G
      simp only at e0 e1
      have hc := hs _ _ (rfl : clip (X, Y) = (max X 0, min Y 1114111))
      clear hs
      obtain ⟨a, ha⟩ : ∃ a, max X 0 = a := ⟨_, rfl⟩
      obtain ⟨b, hb⟩ : ∃ b, min Y 1114111 = b := ⟨_, rfl⟩
      rw [ha, hb] at hc
      by_cases p3 : a ≤ b
      · rw [if_pos p3] at hc
        replace hc := Lib.hid hc
        go_wp2_with (at_builtin; refine appK _ #[.int .i32 a, .int .i32 b] 2 54 rfl _ _ 25 rfl W0.heap.size i0 (.agg #[.int .i32 0, .int .i32 0]) 8 Try.underlying25 hi hz0 hz1 hz2 rfl (by decide) rfl _ _ _ rfl (hown.alloc _) _ rfl (by simp) (by simp [Value.oneCell']) (by unfold maxLen; omega) (by omega) (Nat.le_trans hsz (by simp)) ?_; intro v' w3 hown3 hg3 hb3)
        go_roundg k
        case measure => omega
        case rel => exact ⟨K + 1, v', kp ++ [(a, b)], rfl, (hbel.alloc hsz _).trans hb3, by go_num, by rw [← flat_snoc]; simpa using hown3, by omega, by simp; omega, hc.out.symm⟩
      · rw [if_neg p3] at hc
        replace hc := Lib.hid hc
        go_wp2_with fail
        go_roundg k
        case measure => omega
        case rel => exact ⟨K + 1, v, kp, rfl, hbel.alloc hsz _, by go_num, hown.alloc _, by omega, by omega, by refine Lib.hid ?_; rw [hc.out]; simp⟩
    · have e : kp = keptG xs := by rw [c3.out, List.take_of_length_le (by omega)]
      subst e
      clear c3 hr
      have f0 := (hbel.cell (p := ⟨w.heap.size, 0, none⟩) hb0).trans k0
      have f1 := (hbel.frozen (p := ⟨w.heap.size, 0, none⟩) hb0).trans k1
      clear k0 k1
      go_wp2_with fail
      refine sort_calls _ _ _ W0.heap.size _ hown (by omega) _ (fun l' w1 hp hs hrd hb1 => ?_) hsz
      have hbel1 := hbel.trans hb1
      have hsz1 := hbel1.size
      have g0 := (hb1.cell (p := ⟨w.heap.size, 0, none⟩) hb0).trans f0
      have g1 := (hb1.frozen (p := ⟨w.heap.size, 0, none⟩) hb0).trans f1
      have hv := kept_valid hp hs
      have hll : l'.length ≤ 17592186044416 := by rw [hp.length_eq]; omega
      have hcan := mergeS_ok hv
      have hk := keptG_has (l := xs)
      have hfin : ∀ r, hasB (mergeS l') r = inB xs r := fun r => by rw [hcan.2, hasB_perm hp, keptG_has]
      replace hfin := Lib.hid hfin
      replace hcan := Lib.hid hcan.1
      clear f0 f1 hbel hb1 hs hk hp
      replace hv := Lib.hid hv
      go_wp2_with fail
      refine merge_calls l' _ _ hrd hv.out hll _ (fun v2 w2 hown2 hb2 => ?_)
      have hbel2 := hbel1.trans (hb2.mono hsz1)
      have z0 := (hb2.cell (p := ⟨w.heap.size, 0, none⟩) (by simp; omega)).trans g0
      have z1 := (hb2.frozen (p := ⟨w.heap.size, 0, none⟩) (by simp; omega)).trans g1
      have hsz2 := hbel2.size
      have hown3 := own_mono hown2 hsz1
      clear g0 g1 hb2 hown hown2
      obtain ⟨A2, n2, c2', rfl, -⟩ : ∃ A n c, v2 = .slice A n c ∧ True := by
        obtain ⟨A, n, c, h, -⟩ := RdAt.of_own hown3; exact ⟨A, n, c, h, trivial⟩
      go_wp2_with fail
      refine bodyPost_ret (v := .agg #[.slice A2 n2 c2']) (by simp [results, Try.results19, go_sem, z0]) rfl ?_
      refine hR.out _ (mergeS l') _ (RdN.of_own (ownsRow_setCell_below hown3 (a := ⟨w.heap.size, 0, none⟩) hb0 _) (Nat.le_of_lt hb0)) hcan.out hfin.out ?_
      exact (hB0.out.trans (hbel2.mono hB0.out.size)).setCell (p := ⟨w.heap.size, 0, none⟩) (Nat.le_refl _) _
end Go.Proofs.Ytcgknfpcpjiciaa.Ran
