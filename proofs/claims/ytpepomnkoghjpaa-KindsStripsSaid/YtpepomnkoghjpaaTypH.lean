/- Layer 15: the reference's listed and names. -/
import Derived.Test.YtpepomnkoghjpaaTypG
set_option maxRecDepth 100000
set_option linter.unusedVariables false
namespace Go.Proofs.Ytpepomnkoghjpaa.Kin
open Go.RowKit Go.Lib Go.Proofs.Ytpepomnkoghjpaa.Utf Go.Proofs.Ytpepomnkoghjpaa.Nam Go.Proofs.Ytpepomnkoghjpaa.Lat

theorem nms_at {l : List Wr} {i : Nat} (h : i < l.length) : (nms l).getD i ByteArray.empty = (wN l i).1 := by
  rw [List.getD_eq_getElem?_getD, nms_get h]
  rfl
theorem mem_take {l : List Wr} {i : Nat} (h : i < l.length) (x : ByteArray) : x ∈ (nms l).take (i + 1) ↔ (x ∈ (nms l).take i ∨ (wN l i).1 = x) := by
  have hn : i < (nms l).length := by rw [nms_len]; exact h
  rw [List.take_add_one, List.mem_append, nms_get h]
  simp [eq_comm]
set_option maxRecDepth 100000 in
set_option maxHeartbeats 1000000 in
theorem listed15_calls (a : List Wr) (i : Nat) (hi : i < a.length) (hm : a.length ≤ maxLen) (hg : ∀ x ∈ a, GoodW x) (va : Value) (w : World) (ha : RdW w va a) (R : Ending → World → Prop) (hR : Hid (∀ w', Below w.heap.size w w' → R (.returned (.int .i64 (listedS (nms a) i))) w')) : Calls Try.prog 21 #[va, .int .i64 i] w R := by
  replace hm : a.length ≤ 9223372036854775807 := hm
  obtain ⟨A, ca, rfl, hca, hra⟩ := ha.op
  obtain ⟨ga, oa, rfl, hga, cl⟩ := hra (by omega)
  have hn := nms_at hi
  have j0 : (0 : Int) ≤ (i : Int) := by omega
  have j1 : (i : Int) < (a.length : Int) := by omega
  have x0 := (cl i hi).1
  have hz := (hg _ (wN_mem hi)).1
  have hls : listedS (nms a) i = if rightS (wN a i).1 = false then 9 else if (wN a i).1 ∈ (nms a).take i then 10 else 0 := by unfold listedS; rw [hn]
  have cR := Lib.hid fun R hR => refright_calls (wN a i).1 hz w R hR
  rw [hls] at hR
  replace cl := Lib.hid cl
  clear hls hra ha hn hz
  generalize hxe : (wN a i).1 = x at *
  go_enter Try.func21, Try.ntmps21
  go_wp2_with fail
  refine cR.out _ (Lib.hid ?_)
  cases hr : rightS x
  · rw [hr, if_pos rfl] at hR
    have fin := Lib.hid (hR.out _ (Below.refl _ _))
    clear hR cR hr
    go_wp2_with fail
    exact fin.out
  · rw [hr, if_neg (by simp)] at hR
    clear cR hr
    go_wp2_with fail
    go_loopg [5] i (fun g k wr => ∃ K : Nat, k = .int .i64 K ∧ K + g = i ∧ Hid (Below w.heap.size w wr) ∧ ¬ x ∈ (nms a).take K)
    case atStart => exact ⟨0, rfl, by omega, Lib.hid (Below.refl _ _), by simp⟩
    case round =>
      obtain ⟨K, rfl, e1, nb, e2⟩ := hrel
      by_cases hK : K < i
      · have hKa : K < a.length := by omega
        have y0 := (nb.out.cell (p := ⟨ga, oa + K * 2, none⟩) hga).trans (cl.out K hKa).1
        replace x0 := (nb.out.cell (p := ⟨ga, oa + i * 2, none⟩) hga).trans x0
        have i0 : (0 : Int) ≤ (K : Int) := by omega
        have i1 : (K : Int) < (a.length : Int) := by omega
        have i2 : (K : Int) < (i : Int) := by omega
        have hmt := mem_take hKa x
        by_cases hq : (wN a K).1 = x
        · have q2 := sq_t hq
          have hin : x ∈ (nms a).take i := List.take_subset_take_left _ (by omega) (hmt.2 (.inr hq))
          rw [if_pos hin] at hR
          have fin := Lib.hid (hR.out _ nb.out.drew)
          clear hR hin hmt hq hxe e2
          generalize (wN a K).1 = y at *
          go_wp2_with fail
          go_region
          go_wp2_with fail
          exact fin.out
        · have q2 := sq_f hq
          have e3 : ¬ x ∈ (nms a).take (K + 1) := fun q => by rcases hmt.1 q with q | q; exact e2 q; exact hq q
          clear hmt hq hxe e2
          generalize (wN a K).1 = y at *
          go_wp2_with fail
          go_region
          go_wp2_with fail
          go_roundg (gk - 1)
          case measure => omega
          case rel => exact ⟨K + 1, by go_num, by omega, Lib.hid nb.out.drew, e3⟩
      · obtain rfl : K = i := by omega
        rw [if_neg e2] at hR
        have fin := Lib.hid (hR.out _ nb.out)
        clear hR e2
        go_wp2_with fail
        exact fin.out
theorem pnm_drop : ∀ (n : Nat) {f : Ft} {p : PH} {x : TH} {k r : Ft}, f.drop n = .cons p x k r → (pnm f).take (n + 1) = (pnm f).take n ++ [(p.name, p.at_)]
  | 0, f, p, x, k, r, e => by
    have e' : f = .cons p x k r := e
    rw [e']
    rfl
  | n + 1, .nil, p, x, k, r, e => by simp [Fo.drop] at e
  | n + 1, .cons q y l s, p, x, k, r, e => by
    have := pnm_drop n (f := s) e
    simp only [pnm, List.take_succ_cons, this, List.cons_append]
theorem infoWrd : (Try.prog.info? 25).map (fun i => (i.zero, i.size, i.bytes)) = some (some (.agg #[.string ⟨#[]⟩, .int .i64 0]), 2, 24) := by kernel_rfl
set_option maxRecDepth 100000 in
set_option maxHeartbeats 1000000 in
theorem names15_calls (f : Ft) (hfl : f.len ≤ 64) (pv : Value) (w : World) (hp : RdP w pv f) (R : Ending → World → Prop) (hR : Hid (∀ v' w', RdW w' v' (pnm f) → Below w.heap.size w w' → R (.returned v') w')) : Calls Try.prog 37 #[pv] w R := by
  obtain ⟨ti, hI, hZ⟩ : ∃ i0, Try.prog.info? 25 = some i0 ∧ (i0.zero, i0.size, i0.bytes) = (some (.agg #[.string ⟨#[]⟩, .int .i64 0]), 2, 24) := by
    have := infoWrd
    cases h : Try.prog.info? 25 with
    | none => rw [h] at this; cases this
    | some i0 => rw [h] at this; exact ⟨i0, rfl, by simpa using this⟩
  simp only [Prod.mk.injEq] at hZ
  obtain ⟨hz0, hz1, hz2⟩ := hZ
  obtain ⟨Ap, cp, rfl, hpl⟩ := hp.sl
  replace hp := Lib.hid hp
  go_enter Try.func37, Try.ntmps37
  go_wp2_with fail
  go_loopg [3, 4] f.len (fun g s k wr => ∃ (K : Nat) (v : Value), s = v ∧ k = .int .i64 K ∧ K + g = f.len ∧ Hid (Below w.heap.size w wr) ∧ Hid (wr.ownsRow w.heap.size 25 2 v K (flatG encW ((pnm f).take K))))
  case atStart => exact ⟨0, _, rfl, rfl, by omega, Lib.hid (Below.refl _ _), Lib.hid (by simpa [flatG] using World.ownsRow_nil _ _ _ _)⟩
  case round =>
    obtain ⟨K, v, rfl, rfl, e1, nb, own⟩ := hrel
    by_cases hK : K < f.len
    · obtain ⟨p, x, kd, r, e⟩ := Fo.drop_lt hK
      obtain ⟨g, o, lv, cv, nx, px, rfl, hg, -, -, -, hc⟩ := RdP.part (RdSl.kp (hd := hdT) (pl := plT) (fun _ _ _ _ _ q h => hdT.kp q h) (fun _ _ _ _ q h => plT.kp q h) (Kp.of_below nb.out) hp.out) e
      have x0 := hc 0 _ rfl
      have x1 := hc 1 _ rfl
      rw [Nat.add_zero] at x0
      have i0 : (0 : Int) ≤ (K : Int) := by omega
      have i1 : (K : Int) < (f.len : Int) := by omega
      have ht := pnm_drop K e
      have hsz := nb.out.size
      clear hc e
      go_wp2_with (at_builtin; go_loud (refine appK _ #[.string p.name, .int .i64 p.at_] 2 25 rfl _ _ 22 rfl w.heap.size ti (.agg #[.string ⟨#[]⟩, .int .i64 0]) 24 Try.underlying22 hI hz0 hz1 hz2 rfl (by decide) rfl _ K (flatG encW ((pnm f).take K)) rfl own.out _ rfl rfl (by simp [Value.oneCell']) (by unfold maxLen; omega) (by omega) hsz ?_); rintro v' w3 hown3 hg3 hb3)
      have own2 := Lib.hid (show w3.ownsRow w.heap.size 25 2 v' (K + 1) (flatG encW ((pnm f).take (K + 1))) by rw [ht, flatG_snoc]; exact hown3)
      have nb2 := Lib.hid (nb.out.trans hb3)
      clear hown3 hg3 hb3 own nb ht
      go_wp2_with fail
      go_roundg (gk - 1)
      case measure => omega
      case rel => exact ⟨K + 1, _, rfl, by go_num, by omega, nb2, own2⟩
    · obtain rfl : K = f.len := by omega
      have et : (pnm f).take f.len = pnm f := by rw [← pnm_len, List.take_length]
      have rd := RdG.of_own own.out
      rw [et] at rd
      have fin := Lib.hid (hR.out _ _ rd nb.out)
      clear hR rd own
      go_wp2_with fail
      exact fin.out
end Go.Proofs.Ytpepomnkoghjpaa.Kin
