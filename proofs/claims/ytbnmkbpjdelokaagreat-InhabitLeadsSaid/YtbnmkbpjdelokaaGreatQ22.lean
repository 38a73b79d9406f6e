import Derived.Test.YtbnmkbpjdelokaaGreatQ18
set_option linter.unusedVariables false
set_option maxRecDepth 100000
set_option maxHeartbeats 4000000
namespace Go.Proofs.YtbnmkbpjdelokaaGreat.Kin
open Go.RowKit Go.Lib Utf Nam Lat
def wroS (h : TH) (f : Ft) : Int :=
  if h.kind < 1 ∨ 9 < h.kind then 14
  else if ownB h f = false then 19
  else if h.kind = 2 ∧ h.hi < h.lo then 20
  else if h.kind = 3 ∧ (h.most < 0 ∨ 4096 < h.most) then 20
  else if h.kind = 4 ∧ h.names = [] then 15
  else if (h.kind = 5 ∨ h.kind = 6) ∧ onlyB f = false then 19
  else if h.kind = 5 ∧ (h.most < 0 ∨ 1024 < h.most) then 20
  else if h.kind = 8 ∧ f.len = 0 then 15
  else 0
noncomputable def postS (h : TH) (k : Ft) (sub : Mo → Nat → Nat → Res) (d M : Nat) : Res :=
  if h.kind = 4 then (if 64 < h.names.length then (8, (wN h.names 64).2, M) else ((enumF (nms h.names) 0 h.names).1, (enumF (nms h.names) 0 h.names).2, M))
  else if h.kind = 5 ∨ h.kind = 6 then sub .one (d + 1) M
  else if h.kind = 7 ∨ h.kind = 8 then (if 64 < k.len then (8, (wN (pnm k) 64).2, M) else sub (.parts h.kind (nms (pnm k)) 0) (d + 1) M)
  else if h.kind = 9 then (if rightS h.name = false then (9, h.nat, M) else (0, 0, M))
  else (0, 0, M)
theorem wro_spec (h : TH) (k : Ft) (sub : Mo → Nat → Nat → Res) (d m M : Nat) (hM : M = m + 1) (hd : d ≤ 24) (hm : M ≤ 512) : wrB h k sub d m = if wroS h k ≠ 0 then (wroS h k, h.at_, M) else postS h k sub d M := by
  by_cases c1 : h.kind < 1 ∨ 9 < h.kind
  · rw [wrB_err, if_neg (by omega), if_neg (by omega), if_pos c1]
    unfold wroS
    rw [if_pos c1]
    simp [hM]
  by_cases c2 : ownB h k = false
  · rw [wrB_err, if_neg (by omega), if_neg (by omega), if_neg c1, if_pos c2]
    unfold wroS
    rw [if_neg c1, if_pos c2]
    simp [hM]
  have ho : ownB h k = true := by simpa using c2
  rw [wrB_ok hM hd hm (by omega) (by omega) ho]
  unfold wroS postS
  rw [if_neg c1, if_neg c2]
  have hk : h.kind = 1 ∨ h.kind = 2 ∨ h.kind = 3 ∨ h.kind = 4 ∨ h.kind = 5 ∨ h.kind = 6 ∨ h.kind = 7 ∨ h.kind = 8 ∨ h.kind = 9 := by omega
  rcases hk with q | q | q | q | q | q | q | q | q
  · simp [q]
  · by_cases a : h.hi < h.lo <;> simp [q, a]
  · by_cases a : h.most < 0 ∨ 4096 < h.most <;> simp [q, a]
  · by_cases a : h.names = [] <;> simp [q, a]
  · by_cases a : onlyB k = false
    · simp [q, a]
    · by_cases b : h.most < 0 ∨ 1024 < h.most <;> simp [q, a, b]
  · have hz : h.most = 0 := by
      unfold ownB at ho
      rw [decide_eq_true_iff] at ho
      omega
    by_cases a : onlyB k = false <;> simp [q, a, hz]
  · simp [q]
  · by_cases a : k.len = 0 <;> simp [q, a]
  · simp [q]
theorem wro_elem {h : TH} {k : Ft} (e : wroS h k = 0) : (1 ≤ h.kind ∧ h.kind ≤ 9) ∧ ((h.kind = 5 ∨ h.kind = 6) → onlyB k = true) := by
  unfold wroS at e
  split at e
  · omega
  · split at e
    · omega
    · refine ⟨by omega, fun q => ?_⟩
      cases c : onlyB k
      · rw [if_neg (by omega), if_neg (by omega), if_neg (by omega), if_pos ⟨q, c⟩] at e
        omega
      · rfl
theorem wrong_calls (f : Ft) (h : TH) (nv pv : Value) (w : World) (hm : h.names.length ≤ maxLen) (hfl : f.len ≤ maxLen) (hga : f.All GoodH GoodL) (hy : RdY w h f nv pv) (R : Ending → World → Prop)
    (hR : Hid (∀ w', Below w.heap.size w w' → R (.returned (.int .i64 (wroS h f))) w')) : Calls Tryz.prog 168 #[tyV h nv pv] w R := by
  have gnl : h.names.length ≤ 9223372036854775807 := hm
  have gfl : f.len ≤ 9223372036854775807 := hfl
  obtain ⟨Ap, cp, rfl, hpl⟩ := hy.p.sl
  obtain ⟨An, cn, rfl, -, -⟩ := hy.n.op
  have b1 := (Below.refl w.heap.size w).alloc (Nat.le_refl _) (.cells #[.int .i64 h.kind, .int .i64 h.at_, .int .i64 h.lo, .int .i64 h.hi, .int .i64 h.most, .slice An h.names.length cn, .slice Ap f.len cp, .string h.name, .int .i64 h.nat] 29)
  have hA := heap_alloc_new w (.cells #[.int .i64 h.kind, .int .i64 h.at_, .int .i64 h.lo, .int .i64 h.hi, .int .i64 h.most, .slice An h.names.length cn, .slice Ap f.len cp, .string h.name, .int .i64 h.nat] 29)
  replace hy := Lib.hid hy
  replace hga := Lib.hid hga
  go_enter Tryz.func168, Tryz.ntmps168
  go_upto_region 1 with fail
  generalize w.alloc (.cells #[.int .i64 h.kind, .int .i64 h.at_, .int .i64 h.lo, .int .i64 h.hi, .int .i64 h.most, .slice An h.names.length cn, .slice Ap f.len cp, .string h.name, .int .i64 h.nat] 29) = V at *
  have u0 := (Lib.cell_of_heap hA 0).trans rfl
  by_cases c1 : h.kind < 1 ∨ 9 < h.kind
  · have hq : wroS h f = 14 := if_pos c1
    rcases c1 with c1 | c1
    · have fin := Lib.hid (hR.out _ b1)
      rw [hq] at fin
      clear hR
      go_wp2_with fail
      exact fin.out
    · have c0 : ¬ h.kind < 1 := by omega
      have fin := Lib.hid (hR.out _ b1)
      rw [hq] at fin
      clear hR
      go_wp2_with fail
      exact fin.out
  · have k1 : ¬ h.kind < 1 := by omega
    have k9 : ¬ 9 < h.kind := by omega
    have cF := Lib.hid fun R hR => hasForeign_calls f h (.slice An h.names.length cn) (.slice Ap f.len cp) V ⟨by omega, by omega⟩ hm hfl hga.out (hy.out.below b1) R hR
    have r0 : V.rangeAt w.heap.size 0 [.int .i64 h.kind, .int .i64 h.at_, .int .i64 h.lo, .int .i64 h.hi, .int .i64 h.most, .slice An h.names.length cn, .slice Ap f.len cp, .string h.name, .int .i64 h.nat] := fun j v e => by rw [Nat.zero_add, Lib.cell_of_heap hA]; simpa using e
    go_upto_region 3 with fail
    go_wp2_with (refine wpList_load_g (by rfl) 29 _ rfl w.heap.size 0 rfl [.int .i64 h.kind, .int .i64 h.at_, .int .i64 h.lo, .int .i64 h.hi, .int .i64 h.most, .slice An h.names.length cn, .slice Ap f.len cp, .string h.name, .int .i64 h.nat] _ r0 Tryz.underlying29 rfl (by kernel_rfl) ?_; go_simp)
    refine cF.out _ (Lib.hid fun wB nF => ?_)
    have hB := Lib.hid ((nF.block _ (blt_of hA)).trans hA)
    have nB := Lib.hid (b1.trans (nF.mono b1.size))
    clear u0 r0 cF nF hA b1
    cases ho : ownB h f
    · have hq : wroS h f = 19 := by unfold wroS; rw [if_neg c1, if_pos ho]
      clear ho c1 k1 k9
      have fin := Lib.hid (hR.out _ nB.out)
      rw [hq] at fin
      clear hR
      go_wp2_with fail
      exact fin.out
    · have hk : h.kind = 1 ∨ h.kind = 2 ∨ h.kind = 3 ∨ h.kind = 4 ∨ h.kind = 5 ∨ h.kind = 6 ∨ h.kind = 7 ∨ h.kind = 8 ∨ h.kind = 9 := by omega
      clear k1 k9
      rcases hk with q | q | q | q | q | q | q | q | q
      · have u0 := (Lib.cell_of_heap hB.out 0).trans rfl
        have q0 := Lib.hid q
        rw [q] at u0
        clear q
        have hq : wroS h f = 0 := by unfold wroS; rw [if_neg c1, if_neg (by rw [ho]; simp)]; simp [q0.out]
        have fin := Lib.hid (hR.out _ nB.out)
        rw [hq] at fin
        clear hR
        go_wp2_with fail
        exact fin.out
      · have u0 := (Lib.cell_of_heap hB.out 0).trans rfl
        have u2 := (Lib.cell_of_heap hB.out 2).trans rfl
        have u3 := (Lib.cell_of_heap hB.out 3).trans rfl
        have q0 := Lib.hid q
        rw [q] at u0
        clear q
        by_cases c : h.hi < h.lo
        · have hq : wroS h f = 20 := by unfold wroS; rw [if_neg c1, if_neg (by rw [ho]; simp)]; simp [q0.out, c]
          have fin := Lib.hid (hR.out _ nB.out)
          rw [hq] at fin
          clear hR
          go_wp2_with fail
          exact fin.out
        · have hq : wroS h f = 0 := by unfold wroS; rw [if_neg c1, if_neg (by rw [ho]; simp)]; simp [q0.out, c]
          have fin := Lib.hid (hR.out _ nB.out)
          rw [hq] at fin
          clear hR
          go_wp2_with fail
          exact fin.out
      · have u0 := (Lib.cell_of_heap hB.out 0).trans rfl
        have u4 := (Lib.cell_of_heap hB.out 4).trans rfl
        have q0 := Lib.hid q
        rw [q] at u0
        clear q
        by_cases c : h.most < 0 ∨ 4096 < h.most
        · have hd := decide_eq_true c
          have hq : wroS h f = 20 := by unfold wroS; rw [if_neg c1, if_neg (by rw [ho]; simp)]; simp [q0.out, c]
          clear c
          go_wp2_with fail
          refine outside_calls h.most 4096 _ _ (Lib.hid ?_)
          rw [hd]
          have fin := Lib.hid (hR.out _ nB.out)
          rw [hq] at fin
          clear hR
          go_wp2_with fail
          exact fin.out
        · have hd := decide_eq_false c
          have hq : wroS h f = 0 := by unfold wroS; rw [if_neg c1, if_neg (by rw [ho]; simp)]; simp [q0.out, c]
          clear c
          go_wp2_with fail
          refine outside_calls h.most 4096 _ _ (Lib.hid ?_)
          rw [hd]
          have fin := Lib.hid (hR.out _ nB.out)
          rw [hq] at fin
          clear hR
          go_wp2_with fail
          exact fin.out
      · have u0 := (Lib.cell_of_heap hB.out 0).trans rfl
        have u5 := (Lib.cell_of_heap hB.out 5).trans rfl
        have q0 := Lib.hid q
        rw [q] at u0
        clear q
        by_cases c : h.names = []
        · have l0 : h.names.length = 0 := by rw [c]; rfl
          rw [l0] at u5
          have hq : wroS h f = 15 := by unfold wroS; rw [if_neg c1, if_neg (by rw [ho]; simp)]; simp [q0.out, c]
          clear l0 c
          have fin := Lib.hid (hR.out _ nB.out)
          rw [hq] at fin
          clear hR
          go_wp2_with fail
          exact fin.out
        · have l0 : ((h.names.length : Int) == 0) = false := by simp; exact c
          have hq : wroS h f = 0 := by unfold wroS; rw [if_neg c1, if_neg (by rw [ho]; simp)]; simp [q0.out, c]
          clear c
          have fin := Lib.hid (hR.out _ nB.out)
          rw [hq] at fin
          clear hR
          go_wp2_with fail
          exact fin.out
      · have u0 := (Lib.cell_of_heap hB.out 0).trans rfl
        have q0 := Lib.hid q
        rw [q] at u0
        clear q
        have cE := Lib.hid fun R hR => hasElement_calls f h (.slice An h.names.length cn) (.slice Ap f.len cp) wB hga.out (hy.out.below nB.out) R hR
        have r0 : wB.rangeAt w.heap.size 0 [.int .i64 h.kind, .int .i64 h.at_, .int .i64 h.lo, .int .i64 h.hi, .int .i64 h.most, .slice An h.names.length cn, .slice Ap f.len cp, .string h.name, .int .i64 h.nat] := fun j v e => by rw [Nat.zero_add, Lib.cell_of_heap hB.out]; simpa using e
        go_upto_region 11 with fail
        go_wp2_with (refine wpList_load_g (by rfl) 29 _ rfl w.heap.size 0 rfl [.int .i64 h.kind, .int .i64 h.at_, .int .i64 h.lo, .int .i64 h.hi, .int .i64 h.most, .slice An h.names.length cn, .slice Ap f.len cp, .string h.name, .int .i64 h.nat] _ r0 Tryz.underlying29 rfl (by kernel_rfl) ?_; go_simp)
        refine cE.out _ (Lib.hid fun wE nE => ?_)
        have hE := (nE.block _ (blt_of hB.out)).trans hB.out
        have nBE := Lib.hid (nB.out.trans (nE.mono nB.out.size))
        clear u0 r0 cE nE
        have u0 := (Lib.cell_of_heap hE 0).trans rfl
        have u4 := (Lib.cell_of_heap hE 4).trans rfl
        rw [q0.out] at u0
        cases co : onlyB f
        · have hq : wroS h f = 19 := by unfold wroS; rw [if_neg c1, if_neg (by rw [ho]; simp)]; simp [q0.out, co]
          clear co
          have fin := Lib.hid (hR.out _ nBE.out)
          rw [hq] at fin
          clear hR
          go_wp2_with fail
          exact fin.out
        · by_cases c : h.most < 0 ∨ 1024 < h.most
          · have hd := decide_eq_true c
            have hq : wroS h f = 20 := by unfold wroS; rw [if_neg c1, if_neg (by rw [ho]; simp)]; simp [q0.out, c, co]
            clear c co
            go_wp2_with fail
            refine outside_calls h.most 1024 _ _ (Lib.hid ?_)
            rw [hd]
            have fin := Lib.hid (hR.out _ nBE.out)
            rw [hq] at fin
            clear hR
            go_wp2_with fail
            exact fin.out
          · have hd := decide_eq_false c
            have hq : wroS h f = 0 := by unfold wroS; rw [if_neg c1, if_neg (by rw [ho]; simp)]; simp [q0.out, c, co]
            clear c co
            go_wp2_with fail
            refine outside_calls h.most 1024 _ _ (Lib.hid ?_)
            rw [hd]
            have fin := Lib.hid (hR.out _ nBE.out)
            rw [hq] at fin
            clear hR
            go_wp2_with fail
            exact fin.out
      · have u0 := (Lib.cell_of_heap hB.out 0).trans rfl
        have q0 := Lib.hid q
        rw [q] at u0
        clear q
        have cE := Lib.hid fun R hR => hasElement_calls f h (.slice An h.names.length cn) (.slice Ap f.len cp) wB hga.out (hy.out.below nB.out) R hR
        have r0 : wB.rangeAt w.heap.size 0 [.int .i64 h.kind, .int .i64 h.at_, .int .i64 h.lo, .int .i64 h.hi, .int .i64 h.most, .slice An h.names.length cn, .slice Ap f.len cp, .string h.name, .int .i64 h.nat] := fun j v e => by rw [Nat.zero_add, Lib.cell_of_heap hB.out]; simpa using e
        go_upto_region 11 with fail
        go_wp2_with (refine wpList_load_g (by rfl) 29 _ rfl w.heap.size 0 rfl [.int .i64 h.kind, .int .i64 h.at_, .int .i64 h.lo, .int .i64 h.hi, .int .i64 h.most, .slice An h.names.length cn, .slice Ap f.len cp, .string h.name, .int .i64 h.nat] _ r0 Tryz.underlying29 rfl (by kernel_rfl) ?_; go_simp)
        refine cE.out _ (Lib.hid fun wE nE => ?_)
        have hE := (nE.block _ (blt_of hB.out)).trans hB.out
        have nBE := Lib.hid (nB.out.trans (nE.mono nB.out.size))
        clear u0 r0 cE nE
        have u0 := (Lib.cell_of_heap hE 0).trans rfl
        have u4 := (Lib.cell_of_heap hE 4).trans rfl
        rw [q0.out] at u0
        cases co : onlyB f
        · have hq : wroS h f = 19 := by unfold wroS; rw [if_neg c1, if_neg (by rw [ho]; simp)]; simp [q0.out, co]
          clear co
          have fin := Lib.hid (hR.out _ nBE.out)
          rw [hq] at fin
          clear hR
          go_wp2_with fail
          exact fin.out
        · have hq : wroS h f = 0 := by unfold wroS; rw [if_neg c1, if_neg (by rw [ho]; simp)]; simp [q0.out, co]
          clear co
          have fin := Lib.hid (hR.out _ nBE.out)
          rw [hq] at fin
          clear hR
          go_wp2_with fail
          exact fin.out
      · have u0 := (Lib.cell_of_heap hB.out 0).trans rfl
        have q0 := Lib.hid q
        rw [q] at u0
        clear q
        have hq : wroS h f = 0 := by unfold wroS; rw [if_neg c1, if_neg (by rw [ho]; simp)]; simp [q0.out]
        have fin := Lib.hid (hR.out _ nB.out)
        rw [hq] at fin
        clear hR
        go_wp2_with fail
        exact fin.out
      · have u0 := (Lib.cell_of_heap hB.out 0).trans rfl
        have u6 := (Lib.cell_of_heap hB.out 6).trans rfl
        have q0 := Lib.hid q
        rw [q] at u0
        clear q
        by_cases c : f.len = 0
        · rw [c] at u6
          have hq : wroS h f = 15 := by unfold wroS; rw [if_neg c1, if_neg (by rw [ho]; simp)]; simp [q0.out, c]
          clear c
          have fin := Lib.hid (hR.out _ nB.out)
          rw [hq] at fin
          clear hR
          go_wp2_with fail
          exact fin.out
        · have l0 : ((f.len : Int) == 0) = false := by simp; exact c
          have hq : wroS h f = 0 := by unfold wroS; rw [if_neg c1, if_neg (by rw [ho]; simp)]; simp [q0.out, c]
          clear c
          have fin := Lib.hid (hR.out _ nB.out)
          rw [hq] at fin
          clear hR
          go_wp2_with fail
          exact fin.out
      · have u0 := (Lib.cell_of_heap hB.out 0).trans rfl
        have q0 := Lib.hid q
        rw [q] at u0
        clear q
        have hq : wroS h f = 0 := by unfold wroS; rw [if_neg c1, if_neg (by rw [ho]; simp)]; simp [q0.out]
        have fin := Lib.hid (hR.out _ nB.out)
        rw [hq] at fin
        clear hR
        go_wp2_with fail
        exact fin.out
end Go.Proofs.YtbnmkbpjdelokaaGreat.Kin
