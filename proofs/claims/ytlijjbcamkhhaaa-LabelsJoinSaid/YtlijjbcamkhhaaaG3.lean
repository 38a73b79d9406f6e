import Derived.Test.YtlijjbcamkhhaaaZLatS
import Derived.Test.YtlijjbcamkhhaaaG1
import Derived.Test.YtlijjbcamkhhaaaNamB
import Derived.ChangeArms
import Derived.Deep.DeepCutAuto
import Derived.Deep.AppendLies
import Derived.Deep.RegionLaw
import Derived.Test.YtlijjbcamkhhaaaNamA
/- Levels and pairs of levels in memory; the reference's Find and Join. -/
set_option maxRecDepth 100000
set_option linter.unusedVariables false
namespace Go.Proofs.Ytlijjbcamkhhaaa.Lat
open Go.RowKit Go.Lib Go.Proofs.Ytlijjbcamkhhaaa.Rel Go.Proofs.Ytlijjbcamkhhaaa.Nam Go.ChangeShapes Go.WideShapes

def encW (x : Wr) : List Value := [.string x.1, .int .i64 x.2]
def encR (x : Pr) : List Value := [.string x.1.1, .int .i64 x.1.2, .string x.2.1, .int .i64 x.2.2]
theorem encW_len (x : Wr) : (encW x).length = 2 := rfl
theorem encR_len (x : Pr) : (encR x).length = 4 := rfl
abbrev RdW := RdG encW 2
abbrev RdPr := RdG encR 4
def GoodW (x : Wr) : Prop := x.1.size ≤ maxLen ∧ -9223372036854775808 ≤ x.2 ∧ x.2 ≤ 9223372036854775807
def GoodR (x : Pr) : Prop := GoodW x.1 ∧ GoodW x.2
instance (x : Wr) : Decidable (GoodW x) := by unfold GoodW; infer_instance
instance (x : Pr) : Decidable (GoodR x) := by unfold GoodR; infer_instance
theorem arg_words {H : Type} {enc' : TypeId × Value → H} {W : World} {base : Nat} {v : Value} {d : DataW H} {p : List MemPlace} (hv : Value.okWide Try.prog W .any base 22 v)
    (h : DataW.Trod enc' Try.prog W 0 (fun _ => true) true 22 v d p) : ∃ xs : List Wr, RdW W v xs ∧ (∀ x ∈ xs, GoodW x) ∧ (xs = [] ∨ ∃ es sp, d = .slice es sp ∧ es.length = xs.length) := by
  refine arg_flat encW_len (by decide) GoodW Try.underlying22 (by kernel_rfl) hv h fun n cs x hx hl => ?_
  obtain ⟨ys, m, -, -, -, hys, hf⟩ := DataW.trod_struct Try.underlying45 hx
  match ys, hys, cs, hl with
  | [y0, y1], _, [v0, v1], _ =>
    have g0 := hf 0 _ rfl
    have g1 := hf 1 _ rfl
    have c3 : Try.prog.cellsOf 3 = 1 := by kernel_rfl
    have c9 : Try.prog.cellsOf 9 = 1 := by kernel_rfl
    simp [c3, c9] at g0 g1
    obtain ⟨s0, h0, -, w0⟩ := DataW.trod_string Try.underlying9 g0
    obtain ⟨n1, h1, -, w1⟩ := DataW.trod_int Try.underlying3 g1
    simp at h0 h1
    subst h0 h1
    exact ⟨(s0, n1), rfl, w0, wf64 w1⟩
theorem arg_prs {H : Type} {enc' : TypeId × Value → H} {W : World} {base : Nat} {v : Value} {d : DataW H} {p : List MemPlace} (hv : Value.okWide Try.prog W .any base 23 v)
    (h : DataW.Trod enc' Try.prog W 0 (fun _ => true) true 23 v d p) : ∃ xs : List Pr, RdPr W v xs ∧ (∀ x ∈ xs, GoodR x) ∧ (xs = [] ∨ ∃ es sp, d = .slice es sp ∧ es.length = xs.length) := by
  refine arg_flat encR_len (by decide) GoodR Try.underlying23 (by kernel_rfl) hv h fun n cs x hx hl => ?_
  obtain ⟨ys, m, -, -, -, hys, hf⟩ := DataW.trod_struct Try.underlying62 hx
  match ys, hys, cs, hl with
  | [y0, y1], _, [v0, v1, v2, v3], _ =>
    have g0 := hf 0 _ rfl
    have g1 := hf 1 _ rfl
    have c3 : Try.prog.cellsOf 3 = 1 := by kernel_rfl
    have c9 : Try.prog.cellsOf 9 = 1 := by kernel_rfl
    have cw : Try.prog.cellsOf 45 = 2 := by kernel_rfl
    simp [cw] at g0 g1
    obtain ⟨zs, m0, -, -, -, hzs, hz⟩ := DataW.trod_struct Try.underlying45 g0
    obtain ⟨us, m1, -, -, -, hus, hu⟩ := DataW.trod_struct Try.underlying45 g1
    match zs, hzs, us, hus with
    | [z0, z1], _, [u0, u1], _ =>
      have a0 := hz 0 _ rfl
      have a1 := hz 1 _ rfl
      have b0 := hu 0 _ rfl
      have b1 := hu 1 _ rfl
      simp [c3, c9] at a0 a1 b0 b1
      obtain ⟨s0, h0, -, w0⟩ := DataW.trod_string Try.underlying9 a0
      obtain ⟨n1, h1, -, w1⟩ := DataW.trod_int Try.underlying3 a1
      obtain ⟨s2, h2, -, w2⟩ := DataW.trod_string Try.underlying9 b0
      obtain ⟨n3, h3, -, w3⟩ := DataW.trod_int Try.underlying3 b1
      simp at h0 h1 h2 h3
      subst h0 h1 h2 h3
      exact ⟨((s0, n1), (s2, n3)), rfl, ⟨w0, wf64 w1⟩, w2, wf64 w3⟩
theorem wN_mem {ws : List Wr} {i : Nat} (h : i < ws.length) : wN ws i ∈ ws := by rw [wN_get h]; exact List.getElem_mem h
theorem pN_mem {ps : List Pr} {i : Nat} (h : i < ps.length) : pN ps i ∈ ps := by rw [pN_get h]; exact List.getElem_mem h
theorem RdW.op {w : World} {v : Value} {xs : List Wr} (h : RdW w v xs) : ∃ (A : Option Addr) (c : Nat), v = .slice A xs.length c ∧ xs.length ≤ c ∧
    (0 < xs.length → ∃ g o, A = some ⟨g, o, none⟩ ∧ g < w.heap.size ∧ ∀ i, i < xs.length → w.cell? ⟨g, o + i * 2, none⟩ = some (.string (wN xs i).1) ∧ w.cell? ⟨g, o + i * 2 + 1, none⟩ = some (.int .i64 (wN xs i).2)) := by
  obtain ⟨A, c, rfl, hc, hr⟩ := RdG.open encW_len (by decide) h
  refine ⟨A, c, rfl, hc, fun h0 => ?_⟩
  obtain ⟨g, o, rfl, hg, hca⟩ := hr h0
  refine ⟨g, o, rfl, hg, fun i hi => ?_⟩
  rw [wN_get hi]
  exact ⟨hca i hi 0 (by decide), hca i hi 1 (by decide)⟩
theorem RdPr.op {w : World} {v : Value} {xs : List Pr} (h : RdPr w v xs) : ∃ (A : Option Addr) (c : Nat), v = .slice A xs.length c ∧ xs.length ≤ c ∧
    (0 < xs.length → ∃ g o, A = some ⟨g, o, none⟩ ∧ g < w.heap.size ∧ ∀ i, i < xs.length → w.cell? ⟨g, o + i * 4, none⟩ = some (.string (pN xs i).1.1) ∧ w.cell? ⟨g, o + i * 4 + 1, none⟩ = some (.int .i64 (pN xs i).1.2) ∧
      w.cell? ⟨g, o + i * 4 + 2, none⟩ = some (.string (pN xs i).2.1) ∧ w.cell? ⟨g, o + i * 4 + 3, none⟩ = some (.int .i64 (pN xs i).2.2)) := by
  obtain ⟨A, c, rfl, hc, hr⟩ := RdG.open encR_len (by decide) h
  refine ⟨A, c, rfl, hc, fun h0 => ?_⟩
  obtain ⟨g, o, rfl, hg, hca⟩ := hr h0
  refine ⟨g, o, rfl, hg, fun i hi => ?_⟩
  rw [pN_get hi]
  exact ⟨hca i hi 0 (by decide), hca i hi 1 (by decide), hca i hi 2 (by decide), hca i hi 3 (by decide)⟩

set_option maxRecDepth 100000 in
set_option maxHeartbeats 1000000 in
theorem reffind11_calls (ws : List Wr) (s : ByteArray) (v : Value) (w : World) (hx : RdW w v ws) (hl : ws.length ≤ 1000000) (R : Ending → World → Prop)
    (hR : Hid (R (.returned (.int .i64 (findS (nms ws) s))) w)) : Calls Try.prog 40 #[v, .string s] w R := by
  obtain ⟨A, c, rfl, hlc, hr⟩ := hx.op
  replace hr := Lib.hid hr
  clear hx
  go_enter Try.func40, Try.ntmps40
  go_wp2_with fail
  go_loopg [5] ws.length (fun k i wr => ∃ (K : Nat), wr = w ∧ i = .int .i64 K ∧ K + k = ws.length ∧ Hid (∀ j, j < K → (nms ws)[j]? ≠ some s))
  case atStart => exact ⟨0, rfl, rfl, by omega, Lib.hid fun j h => by omega⟩
  case round =>
    obtain ⟨K, rfl, rfl, c1, c2⟩ := hrel
    by_cases hK : K < ws.length
    · obtain ⟨g, o, rfl, hg, hca⟩ := hr.out (by omega)
      have e0 := (hca K hK).1
      have e1 := nms_get hK
      clear hca
      generalize (wN ws K).1 = x at *
      have hi0 : (0 : Int) ≤ (K : Int) := by omega
      have hi1 : (K : Int) < (ws.length : Int) := by omega
      by_cases hq : x = s
      · have e2 : findS (nms ws) s = K := find_is (by rw [e1, hq]) c2.out
        rw [e2] at hR
        have h3 := seq_t hq
        clear hq e1 c2
        go_wp2_with fail
        exact hR.out
      · have h3 := seq_f hq
        have e2 : ∀ j, j < K + 1 → (nms ws)[j]? ≠ some s := fun j hj => by
          rcases Nat.eq_or_lt_of_le (Nat.le_of_lt_succ hj) with e | h
          · subst e; rw [e1]; exact fun h => hq (Option.some.inj h)
          · exact c2.out j h
        replace e2 := Lib.hid e2
        clear hq e1 c2
        go_wp2_with fail
        go_roundg (gk - 1)
        case measure => omega
        case rel => exact ⟨K + 1, rfl, by go_num, by omega, e2⟩
    · have e : findS (nms ws) s = -1 := find_none fun hm => by
        obtain ⟨j, hj, e⟩ := List.getElem_of_mem hm
        rw [nms_len] at hj
        exact c2.out j (by omega) (by rw [List.getElem?_eq_getElem (by rw [nms_len]; exact hj), e])
      rw [e] at hR
      clear c2
      go_wp2_with fail
      exact hR.out

/-- What the inner loop of Join has found of the first L. -/
def preB (F : Nat → Nat → Bool) (a b c L : Nat) : Bool := F a c && F b c && (List.range L).all fun d => !(F a d && F b d) || F c d
theorem pre_zero (F : Nat → Nat → Bool) (a b c : Nat) : preB F a b c 0 = (F a c && F b c) := by unfold preB; simp
theorem pre_succ (F : Nat → Nat → Bool) (a b c L : Nat) : preB F a b c (L + 1) = (preB F a b c L && (!(F a L && F b L) || F c L)) := by
  unfold preB
  rw [List.range_succ, List.all_append]
  simp [Bool.and_assoc]
set_option maxRecDepth 100000 in
set_option maxHeartbeats 2000000 in
theorem refjoin_calls (n : Nat) (f : Nat → List Bool) (v : Value) (w : World) (hm : RdM w v n f) (hn : n ≤ 64) (a b : Nat) (ha : a < n) (hb : b < n) (R : Ending → World → Prop)
    (hR : Hid (R (.returned (.int .i64 (joinS n (fun a b => on (f a) b) a b))) w)) : Calls Try.prog 53 #[v, .int .i64 a, .int .i64 b] w R := by
  obtain ⟨A, c, rfl, hc, hr⟩ := hm.op
  obtain ⟨g, o, rfl, hg, hrow⟩ := hr (by omega)
  obtain ⟨ga, oa, ca, x0, hga, hca⟩ := hrow a ha
  obtain ⟨gb, ob, cb, x1, hgb, hcb⟩ := hrow b hb
  obtain ⟨F, hF⟩ : ∃ F : Nat → Nat → Bool, F = fun a b => on (f a) b := ⟨_, rfl⟩
  have hF2 : ∀ a b, on (f a) b = F a b := fun a b => by rw [hF]
  simp only [hF2] at hca hcb
  have hrow2 : ∀ i, i < n → ∃ g1 o1 c1, w.cell? ⟨g, o + i, none⟩ = some (.slice (some ⟨g1, o1, none⟩) n c1) ∧ g1 < w.heap.size ∧ ∀ j, j < n → w.cell? ⟨g1, o1 + j, none⟩ = some (.bool (F i j)) := fun i hi => by
    obtain ⟨g1, o1, c1, h1, h2, h3⟩ := hrow i hi
    exact ⟨g1, o1, c1, h1, h2, fun j hj => by rw [← hF2]; exact h3 j hj⟩
  rw [← hF] at hR
  replace hrow2 := Lib.hid hrow2
  replace hca := Lib.hid hca
  replace hcb := Lib.hid hcb
  clear hF hF2 hm hrow hr
  have ia0 : (0 : Int) ≤ (a : Int) := by omega
  have ia1 : (a : Int) < (n : Int) := by omega
  have ib0 : (0 : Int) ≤ (b : Int) := by omega
  have ib1 : (b : Int) < (n : Int) := by omega
  go_enter Try.func53, Try.ntmps53
  go_wp2_with fail
  go_loopg [7] n (fun g c wr => ∃ K : Nat, c = .int .i64 K ∧ K + g = n ∧ wr = w ∧ Hid (leastF (bestB n F a b) g K = joinS n F a b))
  case atStart => exact ⟨0, rfl, by omega, rfl, Lib.hid rfl⟩
  case round =>
    obtain ⟨K, rfl, c1, rfl, hk⟩ := hrel
    by_cases hK : K < n
    · obtain ⟨kO, rfl⟩ : ∃ kO, gk = kO + 1 := ⟨gk - 1, by omega⟩
      obtain ⟨gc, oc, cc, x2, hgc, hcc⟩ := hrow2.out K hK
      have y0 := hca.out K hK
      have y1 := hcb.out K hK
      have hk2 := hk.out
      rw [leastF] at hk2
      replace hcc := Lib.hid hcc
      have hp0 := pre_zero F a b K
      obtain ⟨B0, hB0⟩ : ∃ B, preB F a b K 0 = B := ⟨_, rfl⟩
      have hk3 : bestB n F a b K = preB F a b K n := rfl
      rw [hk3] at hk2
      replace hk2 := Lib.hid hk2
      have ik0 : (0 : Int) ≤ (K : Int) := by omega
      have ik1 : (K : Int) < (n : Int) := by omega
      have hB : B0 = (F a K && F b K) := by rw [← hB0, hp0]
      replace hB0 := Lib.hid hB0
      clear hk hk3 hp0
      generalize F a K = p1 at *
      generalize F b K = p2 at *
      go_upto_region 4 with fail
      go_cut [8] (fun e wx => e = .bool B0 ∧ wx = wr)
      case first =>
        cases p1
        · obtain rfl : B0 = false := hB
          go_wp2_with fail
          go_meet
          exact ⟨rfl, rfl⟩
        · obtain rfl : B0 = p2 := by rw [hB]; rfl
          clear hB
          go_wp2_with fail
          go_meet
          exact ⟨rfl, rfl⟩
      case rest =>
        obtain ⟨rfl, rfl⟩ := hcut
        clear hB y0 y1
        go_wp2_with fail
        go_loopg [8, 9] n (fun g best d wr => ∃ (L : Nat) (B : Bool), best = .bool B ∧ d = .int .i64 L ∧ L + g = n ∧ wr = wc ∧ Hid (preB F a b K L = B))
        case atStart => exact ⟨0, B0, rfl, rfl, by omega, rfl, hB0⟩
        case round =>
          obtain ⟨L, B, rfl, rfl, d1, rfl, hp⟩ := hrel
          by_cases hL : L < n
          · have y0 := hca.out L hL
            have y1 := hcb.out L hL
            have y2 := hcc.out L hL
            have hs := pre_succ F a b K L
            rw [hp.out] at hs
            replace hs := Lib.hid hs
            have il0 : (0 : Int) ≤ (L : Int) := by omega
            have il1 : (L : Int) < (n : Int) := by omega
            clear hB0 hp
            generalize F a L = p1 at *
            generalize F b L = p2 at *
            generalize F K L = p3 at *
            cases p1
            · go_wp2_with fail
              go_roundg (gk - 1)
              case measure => omega
              case rel => exact ⟨L + 1, B, rfl, by go_num, by omega, rfl, Lib.hid (by rw [hs.out]; simp)⟩
            cases p2
            · go_wp2_with fail
              go_roundg (gk - 1)
              case measure => omega
              case rel => exact ⟨L + 1, B, rfl, by go_num, by omega, rfl, Lib.hid (by rw [hs.out]; simp)⟩
            cases p3
            · go_wp2_with fail
              go_roundg (gk - 1)
              case measure => omega
              case rel => exact ⟨L + 1, false, rfl, by go_num, by omega, rfl, Lib.hid (by rw [hs.out]; simp)⟩
            · go_wp2_with fail
              go_roundg (gk - 1)
              case measure => omega
              case rel => exact ⟨L + 1, B, rfl, by go_num, by omega, rfl, Lib.hid (by rw [hs.out]; simp)⟩
          · obtain rfl : L = n := by omega
            have e := hk2.out
            rw [hp.out] at e
            cases B
            · rw [if_neg (by simp)] at e
              replace e := Lib.hid e
              go_wp2_with fail
              go_roundg kO
              case measure => omega
              case rel => exact ⟨K + 1, by go_num, by omega, rfl, e⟩
            · rw [if_pos rfl] at e
              rw [← e] at hR
              go_wp2_with fail
              exact hR.out
    · obtain rfl : gk = 0 := by omega
      have e := hk.out
      rw [leastF] at e
      rw [← e] at hR
      clear hk e
      go_wp2_with fail
      exact hR.out
end Go.Proofs.Ytlijjbcamkhhaaa.Lat

/- The reference's Turn. -/
set_option maxRecDepth 100000
set_option linter.unusedVariables false
namespace Go.Proofs.Ytlijjbcamkhhaaa.Lat
open Go.RowKit Go.Lib Go.Proofs.Ytlijjbcamkhhaaa.Rel Go.Proofs.Ytlijjbcamkhhaaa.Nam

def turnR (n : Nat) (f : Nat → List Bool) (a : Nat) : List Bool := (List.range n).map fun b => on (f b) a
theorem turn_len (n : Nat) (f : Nat → List Bool) (a : Nat) : (turnR n f a).length = n := by simp [turnR]
theorem turn_on {n : Nat} (f : Nat → List Bool) (a : Nat) {b : Nat} (h : b < n) : on (turnR n f a) b = on (f b) a := by
  unfold turnR
  have : on ((List.range n).map fun b => on (f b) a) b = ((List.range n).map fun b => on (f b) a)[b]'(by simpa using h) := by
    unfold on
    rw [List.getD, List.getElem?_eq_getElem (by simpa using h)]
    rfl
  rw [this]; simp
theorem on_setV {r : List Bool} {i : Nat} (hi : i < r.length) (x : Bool) (j : Nat) : on (r.set i x) j = if i = j then x else on r j := by
  unfold on
  rw [List.getD, List.getElem?_set]
  by_cases h : i = j
  · subst h; simp [hi]
  · simp [h]
/-- A row under way: its first J. -/
def TurnW (n : Nat) (f : Nat → List Bool) (K J : Nat) (r : List Bool) : Prop := ∀ b, b < n → on r b = (decide (b < J) && on (f b) K)
theorem TurnW.put {n : Nat} {f : Nat → List Bool} {K J : Nat} {r : List Bool} (h : TurnW n f K J r) (hr : r.length = n) (hJ : J < n) : TurnW n f K (J + 1) (r.set J (on (f J) K)) := fun b hb => by
  rw [on_setV (by omega)]
  by_cases e : J = b
  · subst e; rw [if_pos rfl, decide_eq_true (by omega : J < J + 1)]; rfl
  · rw [if_neg e, h b hb]
    by_cases q : b < J
    · rw [decide_eq_true q, decide_eq_true (by omega : b < J + 1)]
    · rw [decide_eq_false q, decide_eq_false (by omega : ¬ b < J + 1)]
theorem TurnW.fin {n : Nat} {f : Nat → List Bool} {K : Nat} {r : List Bool} (h : TurnW n f K n r) (hr : r.length = n) : r = turnR n f K := by
  refine row_ext (by rw [hr, turn_len]) fun i => ?_
  by_cases hi : i < n
  · rw [h i hi, turn_on f K hi, decide_eq_true hi]; rfl
  · cases e : on r i
    · cases e2 : on (turnR n f K) i
      · rfl
      · have := on_lt e2; rw [turn_len] at this; omega
    · have := on_lt e; omega
set_option maxRecDepth 100000 in
set_option maxHeartbeats 2000000 in
theorem refturn_calls (n : Nat) (f : Nat → List Bool) (v : Value) (w : World) (hm : RdM w v n f) (hn64 : n ≤ 64) (R : Ending → World → Prop)
    (hR : Hid (∀ v' w', RdM w' v' n (turnR n f) → Below w.heap.size w w' → R (.returned v') w')) : Calls Try.prog 52 #[v] w R := by
  obtain ⟨A, c, rfl, hc, hr⟩ := hm.op
  replace hr := Lib.hid hr
  obtain ⟨M, hM, hmk⟩ := mk_bool n (by omega)
  obtain ⟨i0, hI, hz0, hz1, hz2⟩ := info_parts infoRow
  clear hm
  go_enter Try.func52, Try.ntmps52
  go_wp2_with fail
  go_loopg [3, 4] n (fun g o a wr => ∃ (K : Nat) (vo : Value) (vs : List Value), vo = o ∧ a = .int .i64 K ∧ K + g = n ∧ Below w.heap.size w wr ∧ wr.ownsRow w.heap.size 39 1 vo K vs ∧ Hid (∀ j, j < K → ∃ b, wr.ownsRow b 4 1 (rw_ vs j) n (bv (turnR n f j))))
  case atStart => exact ⟨0, _, [], rfl, rfl, by omega, Below.refl _ _, World.ownsRow_nil _ _ _ _, Lib.hid fun j h => by omega⟩
  case round =>
    obtain ⟨K, vo, vs, rfl, rfl, c1, hbel, hown, hrows⟩ := hrel
    obtain ⟨W0, rfl⟩ : ∃ W0, W0 = wr := ⟨wr, rfl⟩
    have hsz := hbel.size
    by_cases hK : K < n
    · obtain ⟨kO, rfl⟩ : ∃ kO, gk = kO + 1 := ⟨gk - 1, by omega⟩
      obtain ⟨g, o, rfl, hg, hrow⟩ := hr.out (by omega)
      replace hrow := Lib.hid hrow
      have hm := Lib.hid (own_made (n := n) (w := W0) (t := 4) hM (by simp [bv]) (by unfold maxLen; omega))
      have b2 := Lib.hid ((Below.refl W0.heap.size W0).alloc (Nat.le_refl _) (.cells M 4))
      have t0 : TurnW n f K 0 (List.replicate n false) := fun b hb => by
        unfold on
        rw [List.getD, List.getElem?_replicate]
        simp [hb]
      replace t0 := Lib.hid t0
      have ik0 : (0 : Int) ≤ (K : Int) := by omega
      have ik1 : (K : Int) < (n : Int) := by omega
      go_wp2_with fail
      go_loopg [6] n (fun g k w2 => ∃ (J : Nat) (r : List Bool), k = .int .i64 J ∧ J + g = n ∧ Below W0.heap.size W0 w2 ∧ w2.ownsRow W0.heap.size 4 1 (.slice (some ⟨W0.heap.size, 0, none⟩) n n) n (bv r) ∧ Hid (TurnW n f K J r))
      case atStart => exact ⟨0, _, rfl, by omega, b2.out, hm.out, t0⟩
      case round =>
        obtain ⟨J, r, rfl, d1, b3, own3, d2⟩ := hrel
        have hrl : r.length = n := by have := own3.1; rw [bv_len] at this; omega
        by_cases hJ : J < n
        · obtain ⟨g1, o1, c3, x0, hg1, hc1⟩ := hrow.out J hJ
          have x1 := hc1 K hK
          have e0 := (b3.cell (p := ⟨g, o + J, none⟩) (Nat.lt_of_lt_of_le hg hsz)).trans ((hbel.cell (p := ⟨g, o + J, none⟩) hg).trans x0)
          have e1 := (b3.cell (p := ⟨g1, o1 + K, none⟩) (Nat.lt_of_lt_of_le hg1 hsz)).trans ((hbel.cell (p := ⟨g1, o1 + K, none⟩) hg1).trans x1)
          have hp := Lib.hid (d2.out.put hrl hJ)
          have r2 := (World.ownsRow.cellAt own3 J (by omega)).trans (bv_get (by omega))
          have r3 := World.ownsRow.frozenAt own3 J
          have o6 := (World.ownsRow.stored own3 J (.bool (on (f J) K))).1
          rw [bv_set] at o6
          have b6 := Lib.hid (b3.setCell (p := ⟨W0.heap.size, J, none⟩) (Nat.le_refl _) (.bool (on (f J) K)))
          replace o6 := Lib.hid o6
          have ij0 : (0 : Int) ≤ (J : Int) := by omega
          have ij1 : (J : Int) < (n : Int) := by omega
          clear hc1 x0 x1 d2 own3 b3
          generalize on (f J) K = B at *
          go_wp2_with fail
          go_roundg (gk - 1)
          case measure => omega
          case rel => exact ⟨J + 1, _, by go_num, by omega, b6.out, o6.out, hp⟩
        · obtain rfl : J = n := by omega
          obtain rfl : r = turnR J f K := d2.out.fin hrl
          clear d2
          have o1 := own_below hown b3
          have hsz2 := Nat.le_trans hsz b3.size
          go_wp2_with (at_builtin; go_loud (refine app1 _ (.slice (some ⟨W0.heap.size, 0, none⟩) J J) 39 rfl _ _ 34 rfl w.heap.size i0 (.slice none 0 0) 24 Try.underlying34 hI hz0 hz1 hz2 rfl vo _ _ rfl o1 rfl rfl (by unfold maxLen; omega) (by omega) hsz2 ?_); intro v' w3 hown3 hg3 hb3)
          have bW := hbel.trans ((b3.mono hsz).trans hb3)
          have hvs : vs.length = K := by have := hown.1; omega
          have hrows2 : ∀ j, j < K + 1 → ∃ b, w3.ownsRow b 4 1 (rw_ (vs ++ [.slice (some ⟨W0.heap.size, 0, none⟩) J J]) j) J (bv (turnR J f j)) := fun j hj => by
            rcases Nat.eq_or_lt_of_le (Nat.le_of_lt_succ hj) with e | hj
            · subst e
              rw [show rw_ (vs ++ [.slice (some ⟨W0.heap.size, 0, none⟩) J J]) j = .slice (some ⟨W0.heap.size, 0, none⟩) J J by simp [rw_, List.getD, ← hvs]]
              exact ⟨_, own3.kept hg3 (own_ne2 own3 o1 (by decide))⟩
            · obtain ⟨b, hb⟩ := hrows.out j hj
              rw [show rw_ (vs ++ [.slice (some ⟨W0.heap.size, 0, none⟩) J J]) j = rw_ vs j by simp [rw_, List.getD, List.getElem?_append_left (show j < vs.length by omega)]]
              have hb' := own_below hb b3
              exact ⟨b, hb'.kept hg3 (own_ne2 hb' o1 (by decide))⟩
          replace hrows2 := Lib.hid hrows2
          go_roundg kO
          case measure => omega
          case rel => exact ⟨K + 1, v', _, rfl, by go_num, by omega, bW, hown3, hrows2⟩
    · obtain rfl : K = n := by omega
      have rd : RdM W0 vo K (turnR K f) := ⟨vs, RdAt.of_own hown, by have := hown.1; omega, fun j hj => by
        obtain ⟨b, hb⟩ := hrows.out j hj
        exact ⟨RdAt.of_own hb, turn_len _ _ _⟩⟩
      replace rd := Lib.hid rd
      clear hown hrows
      go_wp2_with fail
      exact hR.out _ _ rd.out hbel
end Go.Proofs.Ytlijjbcamkhhaaa.Lat

/- The reference's pairs, Leq. -/
set_option maxRecDepth 100000
set_option linter.unusedVariables false
namespace Go.Proofs.Ytlijjbcamkhhaaa.Lat
open Go.RowKit Go.Lib Go.Proofs.Ytlijjbcamkhhaaa.Rel Go.Proofs.Ytlijjbcamkhhaaa.Nam

theorem infoTwo : (Try.prog.info? 107).map (fun i => (i.zero, i.size, i.bytes)) = some (some (.agg #[.int .i64 0, .int .i64 0]), 2, 16) := by kernel_rfl
theorem idx_take {ws : List Wr} {ps : List Pr} {K : Nat} (hK : K < ps.length) : idxQ ws (ps.take (K + 1)) = idxQ ws (ps.take K) ++ [(findS (nms ws) (pN ps K).1.1, findS (nms ws) (pN ps K).2.1)] := by
  unfold idxQ
  rw [List.take_succ_eq_append_getElem hK, List.map_append, pN_get hK]
  rfl
theorem idx_len (ws : List Wr) (ps : List Pr) : (idxQ ws ps).length = ps.length := by simp [idxQ]
set_option maxRecDepth 100000 in
set_option maxHeartbeats 4000000 in
theorem refpairs_calls (ws : List Wr) (ps : List Pr) (vw vp : Value) (w : World) (hw : RdW w vw ws) (hp : RdPr w vp ps) (hl : ws.length ≤ 1000000) (hl2 : ps.length ≤ 1000000) (R : Ending → World → Prop)
    (hR : Hid (∀ v' w', RdQ w' v' (idxQ ws ps) → Below w.heap.size w w' → R (.returned v') w')) : Calls Try.prog 38 #[vw, vp] w R := by
  obtain ⟨A, c, rfl, hc, hr⟩ := hp.op
  replace hr := Lib.hid hr
  obtain ⟨i0, hI, hz0, hz1, hz2⟩ := info_parts infoTwo
  have cF := Lib.hid fun (W : World) (hb : Below w.heap.size w W) s R hR => reffind11_calls ws s vw W (hw.below hb) hl R hR
  obtain ⟨A1, c1, rfl, -, -⟩ := hw.op
  clear hw hp
  go_enter Try.func38, Try.ntmps38
  go_wp2_with fail
  go_loopg [5, 6] ps.length (fun g s i wr => ∃ (K : Nat) (vo : Value), vo = s ∧ i = .int .i64 K ∧ K + g = ps.length ∧ Hid (Below w.heap.size w wr) ∧ Hid (wr.ownsRow w.heap.size 107 2 vo K (flatG encQ (idxQ ws (ps.take K)))))
  case atStart => exact ⟨0, _, rfl, rfl, by omega, Lib.hid (Below.refl _ _), Lib.hid (World.ownsRow_nil _ _ _ _)⟩
  case round =>
    obtain ⟨K, vo, rfl, rfl, d1, nb, own⟩ := hrel
    have hsz := nb.out.size
    by_cases hK : K < ps.length
    · obtain ⟨g, o, rfl, hg, hca⟩ := hr.out (by omega)
      obtain ⟨y0, -, y1, -⟩ := hca K hK
      have e0 := (nb.out.cell (p := ⟨g, o + K * 4, none⟩) hg).trans y0
      have e1 := (nb.out.cell (p := ⟨g, o + K * 4 + 2, none⟩) hg).trans y1
      have hs := Lib.hid (idx_take (ws := ws) hK)
      generalize (pN ps K).1.1 = s0 at *
      generalize (pN ps K).2.1 = s1 at *
      have cG := Lib.hid fun m s R hR => cF.out (wr.drewN m) (below_drewN nb.out m) s R hR
      have hi0 : (0 : Int) ≤ (K : Int) := by omega
      have hi1 : (K : Int) < (ps.length : Int) := by omega
      have hown := own.out
      generalize idxQ ws (ps.take K) = l0 at *
      clear hca y0 y1 cF own
      replace hown := Lib.hid hown
      go_wp2_with fail
      go_region_law
        (first
          | (refine step_append_lies _ (by rfl) _ _ _ (by rfl) w.heap.size 107 i0 _ 2 16 Try.underlying74 hI hz0 hz1 hz2 rfl (by omega) vo K (flatG encQ l0) (by rfl) ((hown.out.drew).alloc _) ⟨wr.heap.size, 0, none⟩ 1 1 [.int .i64 (findS (nms ws) s0), .int .i64 (findS (nms ws) s1)] (by rfl) (by rfl) (World.news_of_block (cs := #[.int .i64 (findS (nms ws) s0), .int .i64 (findS (nms ws) s1)]) (t := 107) (fr := (0, 0)) (heap_alloc_new _ _)) (by simp [Value.oneCell']) (by omega) (by unfold maxLen; omega) (by omega) (by simp; omega) (wr.heap.size + 1) (by simp) ?_; intro gg cap w2 hown2 hgrow hat hlt2)
          | (go_simp; go_at_call 40; refine cG.out 1 _ _ (Lib.hid ?_)))
      all_goals
        have b1 := grown_below (grown_step hgrow) (show w.heap.size ≤ wr.drew.heap.size from hsz) (fun k hk => (hown.out.lt k hk).1)
        have n2 := Lib.hid (nb.out.drew.trans b1)
        replace hown2 : w2.ownsRow w.heap.size 107 2 (.slice (some ⟨gg, 0, none⟩) (K + 1) cap) (K + 1) (flatG encQ (idxQ ws (ps.take (K + 1)))) := by rw [hs.out, flatG_snoc]; exact hown2
        replace hown2 := Lib.hid hown2
        clear hgrow hat b1 hs hown nb
        go_wp2_with fail
        go_roundg (gk - 1)
        case measure => omega
        case rel => exact ⟨K + 1, _, rfl, by go_num, by omega, n2, hown2⟩
    · obtain rfl : K = ps.length := by omega
      have rd := RdG.of_own own.out
      rw [List.take_length] at rd
      have fin := Lib.hid (hR.out _ _ rd nb.out)
      clear own rd nb
      go_wp2_with fail
      exact fin.out

set_option maxRecDepth 100000 in
set_option maxHeartbeats 1000000 in
theorem refleq_calls (ws : List Wr) (ps : List Pr) (vw vp : Value) (w : World) (hw : RdW w vw ws) (hp : RdPr w vp ps) (hr : RightQ ws.length (idxQ ws ps)) (hl2 : ps.length ≤ 1000000) (R : Ending → World → Prop)
    (hR : Hid (∀ v' w', RdM w' v' ws.length (ldR ws.length (toN (idxQ ws ps))) → Below w.heap.size w w' → R (.returned v') w')) : Calls Try.prog 10 #[vw, vp] w R := by
  have hl : ws.length ≤ 64 := by have := hr.1; omega
  have cP := Lib.hid fun R hR => refpairs_calls ws ps vw vp w hw hp (by omega) hl2 R hR
  have cD := Lib.hid fun (W : World) v h R hR => leads_calls ws.length (idxQ ws ps) v W h hr (by rw [idx_len]; unfold maxLen; omega) R hR
  obtain ⟨A1, c1, rfl, -, -⟩ := hw.op
  obtain ⟨A2, c2, rfl, -, -⟩ := hp.op
  clear hw hp
  go_enter Try.func10, Try.ntmps10
  go_wp2_with fail
  refine cP.out _ (Lib.hid fun v1 w1 r1 n1 => ?_)
  replace r1 := Lib.hid r1
  replace n1 := Lib.hid n1
  go_wp2_with fail
  refine cD.out w1 v1 r1.out _ (Lib.hid fun v2 w2 r2 n2 => ?_)
  have n3 := Lib.hid (n1.out.trans (n2.mono n1.out.size))
  replace r2 := Lib.hid r2
  clear n1 n2
  go_wp2_with fail
  exact hR.out _ _ r2.out n3.out
end Go.Proofs.Ytlijjbcamkhhaaa.Lat

/- The reference's Wrong. -/
set_option maxRecDepth 100000
set_option linter.unusedVariables false
namespace Go.Proofs.Ytlijjbcamkhhaaa.Lat
open Go.RowKit Go.Lib Go.Proofs.Ytlijjbcamkhhaaa.Rel Go.Proofs.Ytlijjbcamkhhaaa.Nam

theorem leastF_congr' {p q : Nat → Bool} : ∀ (k i : Nat), (∀ j, j < i + k → p j = q j) → leastF p k i = leastF q k i
  | 0, i, h => rfl
  | k + 1, i, h => by rw [leastF, leastF, h i (by omega), leastF_congr' k (i + 1) (fun j hj => h j (by omega))]
theorem join_congr {n : Nat} {F G : Nat → Nat → Bool} (h : ∀ a b, b < n → F a b = G a b) (a b : Nat) : joinS n F a b = joinS n G a b := by
  refine leastF_congr' n 0 fun c hc => ?_
  rw [Bool.eq_iff_iff, best_iff, best_iff]
  rw [Nat.zero_add] at hc
  constructor
  · rintro ⟨h1, h2, h3⟩
    exact ⟨by rw [← h a c hc]; exact h1, by rw [← h b c hc]; exact h2, fun d hd q1 q2 => by rw [← h c d hd]; exact h3 d hd (by rw [h a d hd]; exact q1) (by rw [h b d hd]; exact q2)⟩
  · rintro ⟨h1, h2, h3⟩
    exact ⟨by rw [h a c hc]; exact h1, by rw [h b c hc]; exact h2, fun d hd q1 q2 => by rw [h c d hd]; exact h3 d hd (by rw [← h a d hd]; exact q1) (by rw [← h b d hd]; exact q2)⟩
theorem join_turn {n : Nat} (f : Nat → List Bool) (a b : Nat) : joinS n (fun a b => on (turnR n f a) b) a b = joinS n (flp fun a b => on (f a) b) a b :=
  join_congr (fun a b hb => turn_on f a hb) a b
theorem loop_or {n : Nat} {f : Nat → Nat → Bool} : loopS n f = -1 ∨ ∃ m : Nat, m < n ∧ loopS n f = m := by
  rcases least_cases n (inLoop n f) with ⟨h, -⟩ | ⟨m, h, -, -, h2⟩
  · exact .inl h
  · exact .inr ⟨m, h, h2⟩
section
variable {ws : List Wr} {ps : List Pr}
theorem w_none (h : ws.length = 0) : wrongS ws ps = (15, 0) := by unfold wrongS; rw [if_pos h]
theorem w_many (h : 32 < ws.length) : wrongS ws ps = (8, (wN ws 32).2) := by unfold wrongS; rw [if_neg (by omega), if_pos h]
theorem w_pairs (h0 : 0 < ws.length) (h1 : ws.length ≤ 32) (h : 256 < ps.length) : wrongS ws ps = (8, (pN ps 256).1.2) := by unfold wrongS; rw [if_neg (by omega), if_neg (by omega), if_pos h]
theorem w_lv (h0 : 0 < ws.length) (h1 : ws.length ≤ 32) (h2 : ps.length ≤ 256) {f : Int × Int} (h : firF (lvAt ws) ws.length 0 = some f) : wrongS ws ps = f := by
  unfold wrongS; rw [if_neg (by omega), if_neg (by omega), if_neg (by omega), h]
theorem w_pr (h0 : 0 < ws.length) (h1 : ws.length ≤ 32) (h2 : ps.length ≤ 256) (h3 : firF (lvAt ws) ws.length 0 = none) {f : Int × Int} (h : firF (prAt ws ps) ps.length 0 = some f) : wrongS ws ps = f := by
  unfold wrongS; rw [if_neg (by omega), if_neg (by omega), if_neg (by omega), h3]; simp only [h]
theorem w_loop (h0 : 0 < ws.length) (h1 : ws.length ≤ 32) (h2 : ps.length ≤ 256) (h3 : firF (lvAt ws) ws.length 0 = none) (h4 : firF (prAt ws ps) ps.length 0 = none) {m : Nat} (h : loopS ws.length (leqF ws ps) = m) : wrongS ws ps = (11, (wN ws m).2) := by
  unfold wrongS; rw [if_neg (by omega), if_neg (by omega), if_neg (by omega), h3]; simp only [h4, h]; rw [if_pos (by omega)]; simp
theorem w_bn (h0 : 0 < ws.length) (h1 : ws.length ≤ 32) (h2 : ps.length ≤ 256) (h3 : firF (lvAt ws) ws.length 0 = none) (h4 : firF (prAt ws ps) ps.length 0 = none) (h5 : loopS ws.length (leqF ws ps) = -1) {f : Int × Int} (h : firF (bnAt ws (leqF ws ps)) ws.length 0 = some f) : wrongS ws ps = f := by
  unfold wrongS; rw [if_neg (by omega), if_neg (by omega), if_neg (by omega), h3]; simp only [h4, h5]; rw [if_neg (by omega), h]
theorem w_ok (h0 : 0 < ws.length) (h1 : ws.length ≤ 32) (h2 : ps.length ≤ 256) (h3 : firF (lvAt ws) ws.length 0 = none) (h4 : firF (prAt ws ps) ps.length 0 = none) (h5 : loopS ws.length (leqF ws ps) = -1) (h : firF (bnAt ws (leqF ws ps)) ws.length 0 = none) : wrongS ws ps = (0, 0) := by
  unfold wrongS; rw [if_neg (by omega), if_neg (by omega), if_neg (by omega), h3]; simp only [h4, h5]; rw [if_neg (by omega), h]
end
/-- Behind the two stores of a fault. -/
theorem st_fault (H : Nat) (w1 : World) (f z : Value) {x y : Value} (r3 : w1.cell? ⟨H, 0, none⟩ = some x) (r4 : w1.cell? ⟨H, 1, none⟩ = some y) :
    ((w1.setCell ⟨H, 0, none⟩ f).setCell ⟨H, 1, none⟩ z).cell? ⟨H, 0, none⟩ = some f ∧ ((w1.setCell ⟨H, 0, none⟩ f).setCell ⟨H, 1, none⟩ z).cell? ⟨H, 1, none⟩ = some z :=
  ⟨(World.cell?_setCell_other _ _ _ _ (by simp)).trans (World.cell?_setCell_same _ _ _ r3), World.cell?_setCell_same _ _ _ ((World.cell?_setCell_other _ _ _ _ (by simp)).trans r4)⟩
theorem fault_new (w : World) : (w.alloc (.cells #[.int .i64 0, .int .i64 0] 31)).cell? ⟨w.heap.size, 0, none⟩ = some (.int .i64 0) ∧ (w.alloc (.cells #[.int .i64 0, .int .i64 0] 31)).cell? ⟨w.heap.size, 1, none⟩ = some (.int .i64 0) ∧
    (w.alloc (.cells #[.int .i64 0, .int .i64 0] 31)).frozen? ⟨w.heap.size, 0, none⟩ = false ∧ (w.alloc (.cells #[.int .i64 0, .int .i64 0] 31)).frozen? ⟨w.heap.size, 1, none⟩ = false := by
  have q1 := heap_alloc_new w (.cells #[.int .i64 0, .int .i64 0] 31)
  exact ⟨by rw [Lib.cell_of_heap q1]; rfl, by rw [Lib.cell_of_heap q1]; rfl, Lib.frozen_of_heap q1 0, Lib.frozen_of_heap q1 1⟩

set_option maxRecDepth 100000 in
set_option maxHeartbeats 4000000 in
theorem refwrong_calls (ws : List Wr) (ps : List Pr) (vw vp : Value) (w : World) (hw : RdW w vw ws) (hp : RdPr w vp ps) (hgw : ∀ x ∈ ws, GoodW x) (hl : ws.length ≤ 1000000) (hl2 : ps.length ≤ 1000000) (R : Ending → World → Prop)
    (hR : Hid (∀ w', Below w.heap.size w w' → R (.returned (.agg #[.int .i64 (wrongS ws ps).1, .int .i64 (wrongS ws ps).2])) w')) : Calls Try.prog 26 #[vw, vp] w R := by
  obtain ⟨Aw, cw, rfl, hcw, hrw⟩ := hw.op
  obtain ⟨Ap, cp, rfl, hcp, hrp⟩ := hp.op
  have nb0 := (Below.refl w.heap.size w).alloc (Nat.le_refl _) (.cells #[.int .i64 0, .int .i64 0] 31)
  obtain ⟨c0, c1, f0, f1⟩ := fault_new w
  have z0 : (w.alloc (.cells #[.int .i64 0, .int .i64 0] 31)).heap.size = w.heap.size + 1 := by simp
  have hw0 := hw.below nb0
  have hp0 := hp.below nb0
  have cF := Lib.hid fun s R hR => reffind11_calls ws s _ _ hw0 hl R hR
  have cR := Lib.hid fun (W : World) s hs R hR => refright_calls s hs W R hR
  have hgood := Lib.hid fun i (h : i < ws.length) => (hgw _ (wN_mem h)).1
  have kw : 0 < ws.length → ∃ g o, Aw = some ⟨g, o, none⟩ ∧ g < w.heap.size ∧ ∀ i, i < ws.length → (w.alloc (.cells #[.int .i64 0, .int .i64 0] 31)).cell? ⟨g, o + i * 2, none⟩ = some (.string (wN ws i).1) ∧ (w.alloc (.cells #[.int .i64 0, .int .i64 0] 31)).cell? ⟨g, o + i * 2 + 1, none⟩ = some (.int .i64 (wN ws i).2) := fun h => by
    obtain ⟨g, o, e, hg, hc⟩ := hrw h
    exact ⟨g, o, e, hg, fun i hi => ⟨(nb0.cell (p := ⟨g, o + i * 2, none⟩) hg).trans (hc i hi).1, (nb0.cell (p := ⟨g, o + i * 2 + 1, none⟩) hg).trans (hc i hi).2⟩⟩
  have kp : 0 < ps.length → ∃ g o, Ap = some ⟨g, o, none⟩ ∧ g < w.heap.size ∧ ∀ i, i < ps.length → (w.alloc (.cells #[.int .i64 0, .int .i64 0] 31)).cell? ⟨g, o + i * 4, none⟩ = some (.string (pN ps i).1.1) ∧ (w.alloc (.cells #[.int .i64 0, .int .i64 0] 31)).cell? ⟨g, o + i * 4 + 1, none⟩ = some (.int .i64 (pN ps i).1.2) ∧
      (w.alloc (.cells #[.int .i64 0, .int .i64 0] 31)).cell? ⟨g, o + i * 4 + 2, none⟩ = some (.string (pN ps i).2.1) ∧ (w.alloc (.cells #[.int .i64 0, .int .i64 0] 31)).cell? ⟨g, o + i * 4 + 3, none⟩ = some (.int .i64 (pN ps i).2.2) := fun h => by
    obtain ⟨g, o, e, hg, hc⟩ := hrp h
    exact ⟨g, o, e, hg, fun i hi => ⟨(nb0.cell (p := ⟨g, o + i * 4, none⟩) hg).trans (hc i hi).1, (nb0.cell (p := ⟨g, o + i * 4 + 1, none⟩) hg).trans (hc i hi).2.1, (nb0.cell (p := ⟨g, o + i * 4 + 2, none⟩) hg).trans (hc i hi).2.2.1, (nb0.cell (p := ⟨g, o + i * 4 + 3, none⟩) hg).trans (hc i hi).2.2.2⟩⟩
  replace kw := Lib.hid kw
  replace kp := Lib.hid kp
  replace nb0 := Lib.hid nb0
  replace hw0 := Lib.hid hw0
  replace hp0 := Lib.hid hp0
  clear hw hp hrw hrp hgw
  go_enter Try.func26, Try.ntmps26
  go_upto_region 1 with fail
  generalize w.alloc (.cells #[.int .i64 0, .int .i64 0] 31) = W0 at *
  generalize hHH : w.heap.size = H at *
  replace hHH := Lib.hid hHH
  have hH0 : H < W0.heap.size := by omega
  replace z0 := Lib.hid z0
  by_cases h0 : ws.length = 0
  · rw [w_none h0] at hR
    obtain ⟨s0, s1⟩ := st_fault H W0 (.int .i64 15) (.int .i64 0) c0 c1
    have nf := (nb0.out.setCell (p := ⟨H, 0, none⟩) (Nat.le_refl _) (.int .i64 15)).setCell (p := ⟨H, 1, none⟩) (Nat.le_refl _) (.int .i64 0)
    replace nf := Lib.hid nf
    replace s0 := Lib.hid s0
    replace s1 := Lib.hid s1
    go_wp2_with fail
    replace s0 := s0.out
    replace s1 := s1.out
    clear c0 c1 f0 f1
    generalize (W0.setCell ⟨H, 0, none⟩ (.int .i64 15)).setCell ⟨H, 1, none⟩ (.int .i64 0) = Wz at *
    refine bodyPost_ret ?_ rfl (hR.out _ nf.out)
    simp [results, Try.results26, go_sem, s0, s1]
  by_cases h1 : 32 < ws.length
  · rw [w_many h1] at hR
    obtain ⟨g, o, rfl, hg, hca⟩ := kw.out (by omega)
    have e1 := (hca 32 h1).2
    clear hca
    generalize (wN ws 32).2 = z at *
    have i1 : (32 : Int) < (ws.length : Int) := by omega
    obtain ⟨s0, s1⟩ := st_fault H W0 (.int .i64 8) (.int .i64 z) c0 c1
    have nf := (nb0.out.setCell (p := ⟨H, 0, none⟩) (Nat.le_refl _) (.int .i64 8)).setCell (p := ⟨H, 1, none⟩) (Nat.le_refl _) (.int .i64 z)
    replace nf := Lib.hid nf
    replace s0 := Lib.hid s0
    replace s1 := Lib.hid s1
    go_wp2_with fail
    replace s0 := s0.out
    replace s1 := s1.out
    clear c0 c1 f0 f1
    generalize (W0.setCell ⟨H, 0, none⟩ (.int .i64 8)).setCell ⟨H, 1, none⟩ (.int .i64 z) = Wz at *
    refine bodyPost_ret ?_ rfl (hR.out _ nf.out)
    simp [results, Try.results26, go_sem, s0, s1]
  by_cases h2 : 256 < ps.length
  · rw [w_pairs (by omega) (by omega) h2] at hR
    obtain ⟨g, o, rfl, hg, hca⟩ := kp.out (by omega)
    have e1 := (hca 256 h2).2.1
    clear hca
    generalize (pN ps 256).1.2 = z at *
    have i1 : (256 : Int) < (ps.length : Int) := by omega
    obtain ⟨s0, s1⟩ := st_fault H W0 (.int .i64 8) (.int .i64 z) c0 c1
    have nf := (nb0.out.setCell (p := ⟨H, 0, none⟩) (Nat.le_refl _) (.int .i64 8)).setCell (p := ⟨H, 1, none⟩) (Nat.le_refl _) (.int .i64 z)
    replace nf := Lib.hid nf
    replace s0 := Lib.hid s0
    replace s1 := Lib.hid s1
    go_wp2_with fail
    replace s0 := s0.out
    replace s1 := s1.out
    clear c0 c1 f0 f1
    generalize (W0.setCell ⟨H, 0, none⟩ (.int .i64 8)).setCell ⟨H, 1, none⟩ (.int .i64 z) = Wz at *
    refine bodyPost_ret ?_ rfl (hR.out _ nf.out)
    simp [results, Try.results26, go_sem, s0, s1]
  have hlv := fun f h => w_lv (ws := ws) (ps := ps) (by omega) (by omega) (by omega) (f := f) h
  replace hlv := Lib.hid hlv
  have t1 : decide (32 < (ws.length : Int)) = false := decide_eq_false (by omega)
  have t0 : ((ws.length : Int) == 0) = false := by rw [beq_eq_false_iff_ne]; omega
  have t2 : decide (256 < (ps.length : Int)) = false := decide_eq_false (by omega)
  go_wp2_with fail
  go_loopg [5] ws.length (fun g i wr => ∃ K : Nat, i = .int .i64 K ∧ K + g = ws.length ∧ wr = W0 ∧ Hid (firF (lvAt ws) g K = firF (lvAt ws) ws.length 0))
  case atStart => exact ⟨0, rfl, by omega, rfl, Lib.hid rfl⟩
  case round =>
    obtain ⟨K, rfl, d1, rfl, hk⟩ := hrel
    by_cases hK : K < ws.length
    · obtain ⟨kI, rfl⟩ : ∃ k, gk = k + 1 := ⟨gk - 1, by omega⟩
      obtain ⟨g, o, rfl, hg, hca⟩ := kw.out (by omega)
      obtain ⟨e0, e1⟩ := hca K hK
      have hk2 := hk.out
      rw [firF] at hk2
      have hsz := hgood.out K hK
      have hi0 : (0 : Int) ≤ (K : Int) := by omega
      have hi1 : (K : Int) < (ws.length : Int) := by omega
      unfold lvAt at hk2
      clear hca hk
      generalize (wN ws K).1 = s at *
      generalize (wN ws K).2 = z at *
      have cR2 := cR.out wr s hsz
      have cF2 := cF.out s
      cases hr : rightS s
      · rw [hr] at hk2 cR2
        rw [if_pos rfl] at hk2
        rw [hlv.out _ hk2.symm] at hR
        replace cR2 := Lib.hid cR2
        replace cF2 := Lib.hid cF2
        clear hk2 hr
        obtain ⟨s0, s1⟩ := st_fault H wr (.int .i64 9) (.int .i64 z) c0 c1
        have nf := (nb0.out.setCell (p := ⟨H, 0, none⟩) (Nat.le_refl _) (.int .i64 9)).setCell (p := ⟨H, 1, none⟩) (Nat.le_refl _) (.int .i64 z)
        replace nf := Lib.hid nf
        replace s0 := Lib.hid s0
        replace s1 := Lib.hid s1
        go_wp2_with fail
        refine cR2.out _ (Lib.hid ?_)
        go_wp2_with fail
        replace s0 := s0.out
        replace s1 := s1.out
        clear c0 c1 f0 f1
        generalize (wr.setCell ⟨H, 0, none⟩ (.int .i64 9)).setCell ⟨H, 1, none⟩ (.int .i64 z) = Wz at *
        refine bodyPost_ret ?_ rfl (hR.out _ nf.out)
        simp [results, Try.results26, go_sem, s0, s1]
      · rw [hr] at hk2 cR2
        rw [if_neg (by simp)] at hk2
        by_cases hf : findS (nms ws) s < (K : Int)
        · rw [if_pos hf] at hk2
          rw [hlv.out _ hk2.symm] at hR
          replace cR2 := Lib.hid cR2
          replace cF2 := Lib.hid cF2
          clear hk2 hr
          generalize findS (nms ws) s = y at *
          obtain ⟨s0, s1⟩ := st_fault H wr (.int .i64 10) (.int .i64 z) c0 c1
          have nf := (nb0.out.setCell (p := ⟨H, 0, none⟩) (Nat.le_refl _) (.int .i64 10)).setCell (p := ⟨H, 1, none⟩) (Nat.le_refl _) (.int .i64 z)
          replace nf := Lib.hid nf
          replace s0 := Lib.hid s0
          replace s1 := Lib.hid s1
          go_wp2_with fail
          refine cR2.out _ (Lib.hid ?_)
          go_wp2_with fail
          refine cF2.out _ (Lib.hid ?_)
          go_wp2_with fail
          replace s0 := s0.out
          replace s1 := s1.out
          clear c0 c1 f0 f1
          generalize (wr.setCell ⟨H, 0, none⟩ (.int .i64 10)).setCell ⟨H, 1, none⟩ (.int .i64 z) = Wz at *
          refine bodyPost_ret ?_ rfl (hR.out _ nf.out)
          simp [results, Try.results26, go_sem, s0, s1]
        · rw [if_neg hf] at hk2
          replace hk2 := Lib.hid hk2
          replace cR2 := Lib.hid cR2
          replace cF2 := Lib.hid cF2
          clear hr
          generalize findS (nms ws) s = y at *
          go_wp2_with fail
          refine cR2.out _ (Lib.hid ?_)
          go_wp2_with fail
          refine cF2.out _ (Lib.hid ?_)
          go_wp2_with fail
          go_roundg kI
          case measure => omega
          case rel => exact ⟨K + 1, by go_num, by omega, rfl, hk2⟩
    · obtain rfl : gk = 0 := by omega
      have h3 := hk.out
      rw [firF] at h3
      replace h3 := h3.symm
      clear hk hlv cR hgood
      have hpr := fun f h => w_pr (ws := ws) (ps := ps) (by omega) (by omega) (by omega) h3 (f := f) h
      replace hpr := Lib.hid hpr
      replace h3 := Lib.hid h3
      go_wp2_with fail
      go_loopg [6] ps.length (fun g i w2 => ∃ K : Nat, i = .int .i64 K ∧ K + g = ps.length ∧ w2 = wr ∧ Hid (firF (prAt ws ps) g K = firF (prAt ws ps) ps.length 0))
      case atStart => exact ⟨0, rfl, by omega, rfl, Lib.hid rfl⟩
      case round =>
        obtain ⟨I, rfl, d2, rfl, hk⟩ := hrel
        by_cases hI : I < ps.length
        · obtain ⟨kI, rfl⟩ : ∃ k, gk = k + 1 := ⟨gk - 1, by omega⟩
          obtain ⟨g, o, rfl, hg, hca⟩ := kp.out (by omega)
          obtain ⟨e0, e1, e2, e3⟩ := hca I hI
          have hk2 := hk.out
          rw [firF] at hk2
          have hi0 : (0 : Int) ≤ (I : Int) := by omega
          have hi1 : (I : Int) < (ps.length : Int) := by omega
          unfold prAt at hk2
          clear hca hk
          generalize pN ps I = x at *
          obtain ⟨⟨s, z⟩, ⟨s', z'⟩⟩ := x
          simp only at e0 e1 e2 e3 hk2
          have cF2 := cF.out s
          have cF3 := cF.out s'
          by_cases hf : findS (nms ws) s < 0
          · rw [if_pos hf] at hk2
            rw [hpr.out _ hk2.symm] at hR
            replace cF2 := Lib.hid cF2
            replace cF3 := Lib.hid cF3
            clear hk2
            generalize findS (nms ws) s = y at *
            obtain ⟨s0, s1⟩ := st_fault H wr (.int .i64 17) (.int .i64 z) c0 c1
            have nf := (nb0.out.setCell (p := ⟨H, 0, none⟩) (Nat.le_refl _) (.int .i64 17)).setCell (p := ⟨H, 1, none⟩) (Nat.le_refl _) (.int .i64 z)
            replace nf := Lib.hid nf
            replace s0 := Lib.hid s0
            replace s1 := Lib.hid s1
            go_wp2_with fail
            refine cF2.out _ (Lib.hid ?_)
            go_wp2_with fail
            replace s0 := s0.out
            replace s1 := s1.out
            clear c0 c1 f0 f1
            generalize (wr.setCell ⟨H, 0, none⟩ (.int .i64 17)).setCell ⟨H, 1, none⟩ (.int .i64 z) = Wz at *
            refine bodyPost_ret ?_ rfl (hR.out _ nf.out)
            simp [results, Try.results26, go_sem, s0, s1]
          · rw [if_neg hf] at hk2
            by_cases hf2 : findS (nms ws) s' < 0
            · rw [if_pos hf2] at hk2
              rw [hpr.out _ hk2.symm] at hR
              replace cF2 := Lib.hid cF2
              replace cF3 := Lib.hid cF3
              clear hk2
              generalize findS (nms ws) s = y at *
              generalize findS (nms ws) s' = y' at *
              obtain ⟨s0, s1⟩ := st_fault H wr (.int .i64 17) (.int .i64 z') c0 c1
              have nf := (nb0.out.setCell (p := ⟨H, 0, none⟩) (Nat.le_refl _) (.int .i64 17)).setCell (p := ⟨H, 1, none⟩) (Nat.le_refl _) (.int .i64 z')
              replace nf := Lib.hid nf
              replace s0 := Lib.hid s0
              replace s1 := Lib.hid s1
              go_wp2_with fail
              refine cF2.out _ (Lib.hid ?_)
              go_wp2_with fail
              refine cF3.out _ (Lib.hid ?_)
              go_wp2_with fail
              replace s0 := s0.out
              replace s1 := s1.out
              clear c0 c1 f0 f1
              generalize (wr.setCell ⟨H, 0, none⟩ (.int .i64 17)).setCell ⟨H, 1, none⟩ (.int .i64 z') = Wz at *
              refine bodyPost_ret ?_ rfl (hR.out _ nf.out)
              simp [results, Try.results26, go_sem, s0, s1]
            · rw [if_neg hf2] at hk2
              replace hk2 := Lib.hid hk2
              replace cF2 := Lib.hid cF2
              replace cF3 := Lib.hid cF3
              generalize findS (nms ws) s = y at *
              generalize findS (nms ws) s' = y' at *
              go_wp2_with fail
              refine cF2.out _ (Lib.hid ?_)
              go_wp2_with fail
              refine cF3.out _ (Lib.hid ?_)
              go_wp2_with fail
              go_roundg kI
              case measure => omega
              case rel => exact ⟨I + 1, by go_num, by omega, rfl, hk2⟩
        · obtain rfl : gk = 0 := by omega
          have h4 := hk.out
          rw [firF] at h4
          replace h4 := h4.symm
          clear hk hpr cF d2 t0 t1 t2
          have hr := idx_right (by omega) h4
          have hn64 : ws.length ≤ 64 := by omega
          have cQ := Lib.hid fun R hR => refleq_calls ws ps _ _ wr hw0.out hp0.out hr (by omega) R hR
          have cL := Lib.hid fun (W : World) v h R hR => refloop_calls ws.length (ldR ws.length (toN (idxQ ws ps))) v W h hn64 R hR
          have cT := Lib.hid fun (W : World) v h R hR => refturn_calls ws.length (ldR ws.length (toN (idxQ ws ps))) v W h hn64 R hR
          have cJ := Lib.hid fun (W : World) v h a b ha hb R hR => refjoin_calls ws.length (ldR ws.length (toN (idxQ ws ps))) v W h hn64 a b ha hb R hR
          have cK := fun (W : World) v h a b ha hb R hR => refjoin_calls ws.length (turnR ws.length (ldR ws.length (toN (idxQ ws ps)))) v W h hn64 a b ha hb R hR
          simp only [join_turn] at cK
          replace cK := Lib.hid cK
          have hlp := fun m h => w_loop (ws := ws) (ps := ps) (by omega) (by omega) (by omega) h3.out h4 (m := m) h
          have hbn := fun f h5 h => w_bn (ws := ws) (ps := ps) (by omega) (by omega) (by omega) h3.out h4 h5 (f := f) h
          have hok := fun h5 h => w_ok (ws := ws) (ps := ps) (by omega) (by omega) (by omega) h3.out h4 h5 h
          replace hlp := Lib.hid hlp
          replace hbn := Lib.hid hbn
          replace hok := Lib.hid hok
          clear h3 h4 hr kp
          go_wp2_with fail
          refine cQ.out _ (Lib.hid fun v1 w1 m1 n1 => ?_)
          have c2 := (n1.cell (p := ⟨H, 0, none⟩) hH0).trans c0
          have c3 := (n1.cell (p := ⟨H, 1, none⟩) hH0).trans c1
          have f2 := (n1.frozen (p := ⟨H, 0, none⟩) hH0).trans f0
          have f3 := (n1.frozen (p := ⟨H, 1, none⟩) hH0).trans f1
          have nb1 := Lib.hid (nb0.out.trans (n1.mono (by omega)))
          have hH1 : H < w1.heap.size := Nat.lt_of_lt_of_le hH0 n1.size
          obtain ⟨A1, cc1, rfl, hcc1, -⟩ := m1.op
          have kw1 : 0 < ws.length → ∃ g o, Aw = some ⟨g, o, none⟩ ∧ g < w1.heap.size ∧ ∀ i, i < ws.length → w1.cell? ⟨g, o + i * 2 + 1, none⟩ = some (.int .i64 (wN ws i).2) := fun h => by
            obtain ⟨g, o, e, hg, hc⟩ := kw.out h
            exact ⟨g, o, e, by omega, fun i hi => (n1.cell (p := ⟨g, o + i * 2 + 1, none⟩) (by simp only; omega)).trans (hc i hi).2⟩
          replace kw1 := Lib.hid kw1
          replace m1 := Lib.hid m1
          clear c0 c1 f0 f1 nb0 n1 kw cQ hw0 hp0
          go_wp2_with fail
          refine cL.out _ _ m1.out _ (Lib.hid ?_)
          rw [show (fun a b => on (ldR ws.length (toN (idxQ ws ps)) a) b) = leqF ws ps from rfl]
          have hlc := loop_or (n := ws.length) (f := leqF ws ps)
          generalize loopS ws.length (leqF ws ps) = l at *
          rcases hlc with rfl | ⟨m, hm, rfl⟩
          · replace hbn := Lib.hid fun f => hbn.out f rfl
            replace hok := Lib.hid (hok.out rfl)
            clear hlp cL
            go_wp2_with fail
            refine cT.out _ _ m1.out _ (Lib.hid fun v2 w2 m2 n2 => ?_)
            have c4 := (n2.cell (p := ⟨H, 0, none⟩) hH1).trans c2
            have c5 := (n2.cell (p := ⟨H, 1, none⟩) hH1).trans c3
            have f4 := (n2.frozen (p := ⟨H, 0, none⟩) hH1).trans f2
            have f5 := (n2.frozen (p := ⟨H, 1, none⟩) hH1).trans f3
            have nb2 := Lib.hid (nb1.out.trans (n2.mono (by omega)))
            have m3 := Lib.hid (m1.out.below n2)
            replace m2 := Lib.hid m2
            obtain ⟨A2, cc2, rfl, hcc2, -⟩ := m2.out.op
            have kw2 : 0 < ws.length → ∃ g o, Aw = some ⟨g, o, none⟩ ∧ g < w2.heap.size ∧ ∀ i, i < ws.length → w2.cell? ⟨g, o + i * 2 + 1, none⟩ = some (.int .i64 (wN ws i).2) := fun h => by
              obtain ⟨g, o, e, hg, hc⟩ := kw1.out h
              exact ⟨g, o, e, Nat.lt_of_lt_of_le hg n2.size, fun i hi => (n2.cell (p := ⟨g, o + i * 2 + 1, none⟩) hg).trans (hc i hi)⟩
            replace kw2 := Lib.hid kw2
            clear c2 c3 f2 f3 nb1 n2 kw1 m1 cT
            go_wp2_with fail
            go_loopg [10] ws.length (fun g b wq => ∃ K : Nat, b = .int .i64 K ∧ K + g = ws.length ∧ wq = w2 ∧ Hid (firF (bnAt ws (leqF ws ps)) g K = firF (bnAt ws (leqF ws ps)) ws.length 0))
            case atStart => exact ⟨0, rfl, by omega, rfl, Lib.hid rfl⟩
            case round =>
              obtain ⟨B, rfl, d3, rfl, hk⟩ := hrel
              by_cases hB : B < ws.length
              · obtain ⟨kO, rfl⟩ : ∃ k, gk = k + 1 := ⟨gk - 1, by omega⟩
                have hk2 := hk.out
                rw [firF] at hk2
                unfold bnAt at hk2
                replace hk2 := Lib.hid hk2
                clear hk
                go_wp2_with fail
                go_loopg [11] B (fun g a w3 => ∃ L : Nat, a = .int .i64 L ∧ L + g = B ∧ w3 = wr ∧ Hid (∀ j, j < L → noB ws.length (leqF ws ps) B j = false))
                case atStart => exact ⟨0, rfl, by omega, rfl, Lib.hid fun j h => by omega⟩
                case round =>
                  obtain ⟨L, rfl, d4, rfl, hj⟩ := hrel
                  by_cases hL : L < B
                  · obtain ⟨g, o, rfl, hg, hca⟩ := kw2.out (by omega)
                    have e1 := hca B hB
                    have hi0 : (0 : Int) ≤ (B : Int) := by omega
                    have hi1 : (B : Int) < (ws.length : Int) := by omega
                    have cJ2 := Lib.hid (cJ.out _ _ m3.out L B (by omega) hB)
                    have cK2 := Lib.hid (cK.out _ _ m2.out L B (by omega) hB)
                    rw [show (fun a b => on (ldR ws.length (toN (idxQ ws ps)) a) b) = leqF ws ps from rfl] at cJ2 cK2
                    have hno : noB ws.length (leqF ws ps) B L = (decide (joinS ws.length (leqF ws ps) L B < 0) || decide (joinS ws.length (flp (leqF ws ps)) L B < 0)) := rfl
                    have hyes : noB ws.length (leqF ws ps) B L = true → wrongS ws ps = (12, (wN ws B).2) := fun h => by
                      have hb : bnB ws.length (leqF ws ps) B = true := List.any_eq_true.2 ⟨L, List.mem_range.2 hL, h⟩
                      have := hk2.out
                      rw [if_pos hb] at this
                      exact hbn.out _ this.symm
                    have hnext : noB ws.length (leqF ws ps) B L = false → ∀ j, j < L + 1 → noB ws.length (leqF ws ps) B j = false := fun h j hjl => by
                      rcases Nat.eq_or_lt_of_le (Nat.le_of_lt_succ hjl) with e | q
                      · subst e; exact h
                      · exact hj.out j q
                    generalize (wN ws B).2 = z at *
                    clear hca hj
                    generalize joinS ws.length (leqF ws ps) L B = x at *
                    generalize joinS ws.length (flp (leqF ws ps)) L B = y at *
                    by_cases hx : x < 0
                    · rw [hyes (by rw [hno, decide_eq_true hx]; rfl)] at hR
                      clear hno hyes hnext
                      obtain ⟨s0, s1⟩ := st_fault H wr (.int .i64 12) (.int .i64 z) c4 c5
                      have nf := (nb2.out.setCell (p := ⟨H, 0, none⟩) (Nat.le_refl _) (.int .i64 12)).setCell (p := ⟨H, 1, none⟩) (Nat.le_refl _) (.int .i64 z)
                      replace nf := Lib.hid nf
                      replace s0 := Lib.hid s0
                      replace s1 := Lib.hid s1
                      go_wp2_with fail
                      refine cJ2.out _ (Lib.hid ?_)
                      go_wp2_with fail
                      replace s0 := s0.out
                      replace s1 := s1.out
                      clear c4 c5 f4 f5
                      generalize (wr.setCell ⟨H, 0, none⟩ (.int .i64 12)).setCell ⟨H, 1, none⟩ (.int .i64 z) = Wz at *
                      refine bodyPost_ret ?_ rfl (hR.out _ nf.out)
                      simp [results, Try.results26, go_sem, s0, s1]
                    · by_cases hy : y < 0
                      · rw [hyes (by rw [hno, decide_eq_true hy, Bool.or_true])] at hR
                        clear hno hyes hnext
                        obtain ⟨s0, s1⟩ := st_fault H wr (.int .i64 12) (.int .i64 z) c4 c5
                        have nf := (nb2.out.setCell (p := ⟨H, 0, none⟩) (Nat.le_refl _) (.int .i64 12)).setCell (p := ⟨H, 1, none⟩) (Nat.le_refl _) (.int .i64 z)
                        replace nf := Lib.hid nf
                        replace s0 := Lib.hid s0
                        replace s1 := Lib.hid s1
                        go_wp2_with fail
                        refine cJ2.out _ (Lib.hid ?_)
                        go_wp2_with fail
                        refine cK2.out _ (Lib.hid ?_)
                        go_wp2_with fail
                        replace s0 := s0.out
                        replace s1 := s1.out
                        clear c4 c5 f4 f5
                        generalize (wr.setCell ⟨H, 0, none⟩ (.int .i64 12)).setCell ⟨H, 1, none⟩ (.int .i64 z) = Wz at *
                        refine bodyPost_ret ?_ rfl (hR.out _ nf.out)
                        simp [results, Try.results26, go_sem, s0, s1]
                      · have hn := Lib.hid (hnext (by rw [hno, decide_eq_false hx, decide_eq_false hy]; rfl))
                        clear hno hyes hnext
                        go_wp2_with fail
                        refine cJ2.out _ (Lib.hid ?_)
                        go_wp2_with fail
                        refine cK2.out _ (Lib.hid ?_)
                        go_wp2_with fail
                        go_roundg (gk - 1)
                        case measure => omega
                        case rel => exact ⟨L + 1, by go_num, by omega, rfl, hn⟩
                  · obtain rfl : L = B := by omega
                    have hnb : ¬ bnB ws.length (leqF ws ps) L = true := fun h => by
                      obtain ⟨j, h1, h2⟩ := List.any_eq_true.1 h
                      rw [hj.out j (List.mem_range.1 h1)] at h2
                      cases h2
                    have e := hk2.out
                    rw [if_neg hnb] at e
                    replace e := Lib.hid e
                    clear hk2 hj hnb
                    go_wp2_with fail
                    go_roundg kO
                    case measure => omega
                    case rel => exact ⟨L + 1, by go_num, by omega, rfl, e⟩
              · obtain rfl : gk = 0 := by omega
                have h6 := hk.out
                rw [firF] at h6
                rw [hok.out h6.symm] at hR
                clear hk h6 hbn cJ cK
                obtain ⟨s0, s1⟩ := st_fault H wr (.int .i64 0) (.int .i64 0) c4 c5
                have nf := (nb2.out.setCell (p := ⟨H, 0, none⟩) (Nat.le_refl _) (.int .i64 0)).setCell (p := ⟨H, 1, none⟩) (Nat.le_refl _) (.int .i64 0)
                replace nf := Lib.hid nf
                replace s0 := Lib.hid s0
                replace s1 := Lib.hid s1
                go_wp2_with fail
                replace s0 := s0.out
                replace s1 := s1.out
                clear c4 c5 f4 f5
                generalize (wr.setCell ⟨H, 0, none⟩ (.int .i64 0)).setCell ⟨H, 1, none⟩ (.int .i64 0) = Wz at *
                refine bodyPost_ret ?_ rfl (hR.out _ nf.out)
                simp [results, Try.results26, go_sem, s0, s1]
          · rw [hlp.out m rfl] at hR
            obtain ⟨g, o, rfl, hg, hca⟩ := kw1.out (by omega)
            have e1 := hca m hm
            have hi0 : (0 : Int) ≤ (m : Int) := by omega
            have hi1 : (m : Int) < (ws.length : Int) := by omega
            clear hca hlp hbn hok cL cT cJ cK
            generalize (wN ws m).2 = z at *
            obtain ⟨s0, s1⟩ := st_fault H w1 (.int .i64 11) (.int .i64 z) c2 c3
            have nf := (nb1.out.setCell (p := ⟨H, 0, none⟩) (Nat.le_refl _) (.int .i64 11)).setCell (p := ⟨H, 1, none⟩) (Nat.le_refl _) (.int .i64 z)
            replace nf := Lib.hid nf
            replace s0 := Lib.hid s0
            replace s1 := Lib.hid s1
            go_wp2_with fail
            replace s0 := s0.out
            replace s1 := s1.out
            clear c2 c3 f2 f3
            generalize (w1.setCell ⟨H, 0, none⟩ (.int .i64 11)).setCell ⟨H, 1, none⟩ (.int .i64 z) = Wz at *
            refine bodyPost_ret ?_ rfl (hR.out _ nf.out)
            simp [results, Try.results26, go_sem, s0, s1]
end Go.Proofs.Ytlijjbcamkhhaaa.Lat
