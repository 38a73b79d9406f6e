/- Levels and pairs of levels in memory; the reference's Find and Join. -/
import Derived.Test.YtoeianacjnlepaaLatS
import Derived.Test.YtoeianacjnlepaaRelD
import Derived.Test.YtoeianacjnlepaaNamB
import Derived.ChangeArms
import Derived.Deep.DeepCutAuto
set_option maxRecDepth 100000
set_option linter.unusedVariables false
namespace Go.Proofs.Ytoeianacjnlepaa.Lat
open Go.RowKit Go.Lib Go.Proofs.Ytoeianacjnlepaa.Rel Go.Proofs.Ytoeianacjnlepaa.Nam Go.ChangeShapes Go.WideShapes

def encW (x : Wr) : List Value := [.string x.1, .int .i64 x.2]
def encR (x : Pr) : List Value := [.string x.1.1, .int .i64 x.1.2, .string x.2.1, .int .i64 x.2.2]
theorem encW_len (x : Wr) : (encW x).length = 2 := rfl
theorem encR_len (x : Pr) : (encR x).length = 4 := rfl
abbrev RdW := RdG encW 2
abbrev RdPr := RdG encR 4
def GoodW (x : Wr) : Prop := x.1.size ≤ maxLen ∧ -9223372036854775808 ≤ x.2 ∧ x.2 ≤ 9223372036854775807
def GoodR (x : Pr) : Prop := GoodW x.1 ∧ GoodW x.2
instance (x : Wr) : Decidable (GoodW x) := by unfold GoodW; infer_instance
instance (x : Pr) : Decidable (GoodR x) := by unfold GoodR; infer_instance
theorem arg_words {H : Type} {enc' : TypeId × Value → H} {W : World} {base : Nat} {v : Value} {d : DataW H} {p : List MemPlace} (hv : Value.okWide Try.prog W .any base 22 v)
    (h : DataW.Trod enc' Try.prog W 0 (fun _ => true) true 22 v d p) : ∃ xs : List Wr, RdW W v xs ∧ (∀ x ∈ xs, GoodW x) ∧ (xs = [] ∨ ∃ es sp, d = .slice es sp ∧ es.length = xs.length) := by
  refine arg_flat encW_len (by decide) GoodW Try.underlying22 (by kernel_rfl) hv h fun n cs x hx hl => ?_
  obtain ⟨ys, m, -, -, -, hys, hf⟩ := DataW.trod_struct Try.underlying50 hx
  match ys, hys, cs, hl with
  | [y0, y1], _, [v0, v1], _ =>
    have g0 := hf 0 _ rfl
    have g1 := hf 1 _ rfl
    have c3 : Try.prog.cellsOf 3 = 1 := by kernel_rfl
    have c9 : Try.prog.cellsOf 9 = 1 := by kernel_rfl
    simp [c3, c9] at g0 g1
    obtain ⟨s0, h0, -, w0⟩ := DataW.trod_string Try.underlying9 g0
    obtain ⟨n1, h1, -, w1⟩ := DataW.trod_int Try.underlying3 g1
    simp at h0 h1
    subst h0 h1
    exact ⟨(s0, n1), rfl, w0, wf64 w1⟩
theorem arg_prs {H : Type} {enc' : TypeId × Value → H} {W : World} {base : Nat} {v : Value} {d : DataW H} {p : List MemPlace} (hv : Value.okWide Try.prog W .any base 23 v)
    (h : DataW.Trod enc' Try.prog W 0 (fun _ => true) true 23 v d p) : ∃ xs : List Pr, RdPr W v xs ∧ (∀ x ∈ xs, GoodR x) ∧ (xs = [] ∨ ∃ es sp, d = .slice es sp ∧ es.length = xs.length) := by
  refine arg_flat encR_len (by decide) GoodR Try.underlying23 (by kernel_rfl) hv h fun n cs x hx hl => ?_
  obtain ⟨ys, m, -, -, -, hys, hf⟩ := DataW.trod_struct Try.underlying78 hx
  match ys, hys, cs, hl with
  | [y0, y1], _, [v0, v1, v2, v3], _ =>
    have g0 := hf 0 _ rfl
    have g1 := hf 1 _ rfl
    have c3 : Try.prog.cellsOf 3 = 1 := by kernel_rfl
    have c9 : Try.prog.cellsOf 9 = 1 := by kernel_rfl
    have cw : Try.prog.cellsOf 50 = 2 := by kernel_rfl
    simp [cw] at g0 g1
    obtain ⟨zs, m0, -, -, -, hzs, hz⟩ := DataW.trod_struct Try.underlying50 g0
    obtain ⟨us, m1, -, -, -, hus, hu⟩ := DataW.trod_struct Try.underlying50 g1
    match zs, hzs, us, hus with
    | [z0, z1], _, [u0, u1], _ =>
      have a0 := hz 0 _ rfl
      have a1 := hz 1 _ rfl
      have b0 := hu 0 _ rfl
      have b1 := hu 1 _ rfl
      simp [c3, c9] at a0 a1 b0 b1
      obtain ⟨s0, h0, -, w0⟩ := DataW.trod_string Try.underlying9 a0
      obtain ⟨n1, h1, -, w1⟩ := DataW.trod_int Try.underlying3 a1
      obtain ⟨s2, h2, -, w2⟩ := DataW.trod_string Try.underlying9 b0
      obtain ⟨n3, h3, -, w3⟩ := DataW.trod_int Try.underlying3 b1
      simp at h0 h1 h2 h3
      subst h0 h1 h2 h3
      exact ⟨((s0, n1), (s2, n3)), rfl, ⟨w0, wf64 w1⟩, w2, wf64 w3⟩
theorem wN_mem {ws : List Wr} {i : Nat} (h : i < ws.length) : wN ws i ∈ ws := by rw [wN_get h]; exact List.getElem_mem h
theorem pN_mem {ps : List Pr} {i : Nat} (h : i < ps.length) : pN ps i ∈ ps := by rw [pN_get h]; exact List.getElem_mem h
theorem RdW.op {w : World} {v : Value} {xs : List Wr} (h : RdW w v xs) : ∃ (A : Option Addr) (c : Nat), v = .slice A xs.length c ∧ xs.length ≤ c ∧
    (0 < xs.length → ∃ g o, A = some ⟨g, o, none⟩ ∧ g < w.heap.size ∧ ∀ i, i < xs.length → w.cell? ⟨g, o + i * 2, none⟩ = some (.string (wN xs i).1) ∧ w.cell? ⟨g, o + i * 2 + 1, none⟩ = some (.int .i64 (wN xs i).2)) := by
  obtain ⟨A, c, rfl, hc, hr⟩ := RdG.open encW_len (by decide) h
  refine ⟨A, c, rfl, hc, fun h0 => ?_⟩
  obtain ⟨g, o, rfl, hg, hca⟩ := hr h0
  refine ⟨g, o, rfl, hg, fun i hi => ?_⟩
  rw [wN_get hi]
  exact ⟨hca i hi 0 (by decide), hca i hi 1 (by decide)⟩
theorem RdPr.op {w : World} {v : Value} {xs : List Pr} (h : RdPr w v xs) : ∃ (A : Option Addr) (c : Nat), v = .slice A xs.length c ∧ xs.length ≤ c ∧
    (0 < xs.length → ∃ g o, A = some ⟨g, o, none⟩ ∧ g < w.heap.size ∧ ∀ i, i < xs.length → w.cell? ⟨g, o + i * 4, none⟩ = some (.string (pN xs i).1.1) ∧ w.cell? ⟨g, o + i * 4 + 1, none⟩ = some (.int .i64 (pN xs i).1.2) ∧
      w.cell? ⟨g, o + i * 4 + 2, none⟩ = some (.string (pN xs i).2.1) ∧ w.cell? ⟨g, o + i * 4 + 3, none⟩ = some (.int .i64 (pN xs i).2.2)) := by
  obtain ⟨A, c, rfl, hc, hr⟩ := RdG.open encR_len (by decide) h
  refine ⟨A, c, rfl, hc, fun h0 => ?_⟩
  obtain ⟨g, o, rfl, hg, hca⟩ := hr h0
  refine ⟨g, o, rfl, hg, fun i hi => ?_⟩
  rw [pN_get hi]
  exact ⟨hca i hi 0 (by decide), hca i hi 1 (by decide), hca i hi 2 (by decide), hca i hi 3 (by decide)⟩

set_option maxRecDepth 100000 in
set_option maxHeartbeats 1000000 in
theorem reffind11_calls (ws : List Wr) (s : ByteArray) (v : Value) (w : World) (hx : RdW w v ws) (hl : ws.length ≤ 1000000) (R : Ending → World → Prop)
    (hR : Hid (R (.returned (.int .i64 (findS (nms ws) s))) w)) : Calls Try.prog 14 #[v, .string s] w R := by
  obtain ⟨A, c, rfl, hlc, hr⟩ := hx.op
  replace hr := Lib.hid hr
  clear hx
  go_enter Try.func14, Try.ntmps14
  go_wp2_with fail
  go_loopg [5] ws.length (fun k i wr => ∃ (K : Nat), wr = w ∧ i = .int .i64 K ∧ K + k = ws.length ∧ Hid (∀ j, j < K → (nms ws)[j]? ≠ some s))
  case atStart => exact ⟨0, rfl, rfl, by omega, Lib.hid fun j h => by omega⟩
  case round =>
    obtain ⟨K, rfl, rfl, c1, c2⟩ := hrel
    by_cases hK : K < ws.length
    · obtain ⟨g, o, rfl, hg, hca⟩ := hr.out (by omega)
      have e0 := (hca K hK).1
      have e1 := nms_get hK
      clear hca
      generalize (wN ws K).1 = x at *
      have hi0 : (0 : Int) ≤ (K : Int) := by omega
      have hi1 : (K : Int) < (ws.length : Int) := by omega
      by_cases hq : x = s
      · have e2 : findS (nms ws) s = K := find_is (by rw [e1, hq]) c2.out
        rw [e2] at hR
        have h3 := seq_t hq
        clear hq e1 c2
        go_wp2_with fail
        exact hR.out
      · have h3 := seq_f hq
        have e2 : ∀ j, j < K + 1 → (nms ws)[j]? ≠ some s := fun j hj => by
          rcases Nat.eq_or_lt_of_le (Nat.le_of_lt_succ hj) with e | h
          · subst e; rw [e1]; exact fun h => hq (Option.some.inj h)
          · exact c2.out j h
        replace e2 := Lib.hid e2
        clear hq e1 c2
        go_wp2_with fail
        go_roundg (gk - 1)
        case measure => omega
        case rel => exact ⟨K + 1, rfl, by go_num, by omega, e2⟩
    · have e : findS (nms ws) s = -1 := find_none fun hm => by
        obtain ⟨j, hj, e⟩ := List.getElem_of_mem hm
        rw [nms_len] at hj
        exact c2.out j (by omega) (by rw [List.getElem?_eq_getElem (by rw [nms_len]; exact hj), e])
      rw [e] at hR
      clear c2
      go_wp2_with fail
      exact hR.out

/-- What the inner loop of Join has found of the first L. -/
def preB (F : Nat → Nat → Bool) (a b c L : Nat) : Bool := F a c && F b c && (List.range L).all fun d => !(F a d && F b d) || F c d
theorem pre_zero (F : Nat → Nat → Bool) (a b c : Nat) : preB F a b c 0 = (F a c && F b c) := by unfold preB; simp
theorem pre_succ (F : Nat → Nat → Bool) (a b c L : Nat) : preB F a b c (L + 1) = (preB F a b c L && (!(F a L && F b L) || F c L)) := by
  unfold preB
  rw [List.range_succ, List.all_append]
  simp [Bool.and_assoc]
set_option maxRecDepth 100000 in
set_option maxHeartbeats 2000000 in
theorem refjoin_calls (n : Nat) (f : Nat → List Bool) (v : Value) (w : World) (hm : RdM w v n f) (hn : n ≤ 64) (a b : Nat) (ha : a < n) (hb : b < n) (R : Ending → World → Prop)
    (hR : Hid (R (.returned (.int .i64 (joinS n (fun a b => on (f a) b) a b))) w)) : Calls Try.prog 19 #[v, .int .i64 a, .int .i64 b] w R := by
  obtain ⟨A, c, rfl, hc, hr⟩ := hm.op
  obtain ⟨g, o, rfl, hg, hrow⟩ := hr (by omega)
  obtain ⟨ga, oa, ca, x0, hga, hca⟩ := hrow a ha
  obtain ⟨gb, ob, cb, x1, hgb, hcb⟩ := hrow b hb
  obtain ⟨F, hF⟩ : ∃ F : Nat → Nat → Bool, F = fun a b => on (f a) b := ⟨_, rfl⟩
  have hF2 : ∀ a b, on (f a) b = F a b := fun a b => by rw [hF]
  simp only [hF2] at hca hcb
  have hrow2 : ∀ i, i < n → ∃ g1 o1 c1, w.cell? ⟨g, o + i, none⟩ = some (.slice (some ⟨g1, o1, none⟩) n c1) ∧ g1 < w.heap.size ∧ ∀ j, j < n → w.cell? ⟨g1, o1 + j, none⟩ = some (.bool (F i j)) := fun i hi => by
    obtain ⟨g1, o1, c1, h1, h2, h3⟩ := hrow i hi
    exact ⟨g1, o1, c1, h1, h2, fun j hj => by rw [← hF2]; exact h3 j hj⟩
  rw [← hF] at hR
  replace hrow2 := Lib.hid hrow2
  replace hca := Lib.hid hca
  replace hcb := Lib.hid hcb
  clear hF hF2 hm hrow hr
  have ia0 : (0 : Int) ≤ (a : Int) := by omega
  have ia1 : (a : Int) < (n : Int) := by omega
  have ib0 : (0 : Int) ≤ (b : Int) := by omega
  have ib1 : (b : Int) < (n : Int) := by omega
  go_enter Try.func19, Try.ntmps19
  go_wp2_with fail
  go_loopg [7] n (fun g c wr => ∃ K : Nat, c = .int .i64 K ∧ K + g = n ∧ wr = w ∧ Hid (leastF (bestB n F a b) g K = joinS n F a b))
  case atStart => exact ⟨0, rfl, by omega, rfl, Lib.hid rfl⟩
  case round =>
    obtain ⟨K, rfl, c1, rfl, hk⟩ := hrel
    by_cases hK : K < n
    · obtain ⟨kO, rfl⟩ : ∃ kO, gk = kO + 1 := ⟨gk - 1, by omega⟩
      obtain ⟨gc, oc, cc, x2, hgc, hcc⟩ := hrow2.out K hK
      have y0 := hca.out K hK
      have y1 := hcb.out K hK
      have hk2 := hk.out
      rw [leastF] at hk2
      replace hcc := Lib.hid hcc
      have hp0 := pre_zero F a b K
      obtain ⟨B0, hB0⟩ : ∃ B, preB F a b K 0 = B := ⟨_, rfl⟩
      have hk3 : bestB n F a b K = preB F a b K n := rfl
      rw [hk3] at hk2
      replace hk2 := Lib.hid hk2
      have ik0 : (0 : Int) ≤ (K : Int) := by omega
      have ik1 : (K : Int) < (n : Int) := by omega
      have hB : B0 = (F a K && F b K) := by rw [← hB0, hp0]
      replace hB0 := Lib.hid hB0
      clear hk hk3 hp0
      generalize F a K = p1 at *
      generalize F b K = p2 at *
      go_upto_region 4 with fail
      go_cut [8] (fun e wx => e = .bool B0 ∧ wx = wr)
      case first =>
        cases p1
        · obtain rfl : B0 = false := hB
          go_wp2_with fail
          go_meet
          exact ⟨rfl, rfl⟩
        · obtain rfl : B0 = p2 := by rw [hB]; rfl
          clear hB
          go_wp2_with fail
          go_meet
          exact ⟨rfl, rfl⟩
      case rest =>
        obtain ⟨rfl, rfl⟩ := hcut
        clear hB y0 y1
        go_wp2_with fail
        go_loopg [8, 9] n (fun g best d wr => ∃ (L : Nat) (B : Bool), best = .bool B ∧ d = .int .i64 L ∧ L + g = n ∧ wr = wc ∧ Hid (preB F a b K L = B))
        case atStart => exact ⟨0, B0, rfl, rfl, by omega, rfl, hB0⟩
        case round =>
          obtain ⟨L, B, rfl, rfl, d1, rfl, hp⟩ := hrel
          by_cases hL : L < n
          · have y0 := hca.out L hL
            have y1 := hcb.out L hL
            have y2 := hcc.out L hL
            have hs := pre_succ F a b K L
            rw [hp.out] at hs
            replace hs := Lib.hid hs
            have il0 : (0 : Int) ≤ (L : Int) := by omega
            have il1 : (L : Int) < (n : Int) := by omega
            clear hB0 hp
            generalize F a L = p1 at *
            generalize F b L = p2 at *
            generalize F K L = p3 at *
            cases p1
            · go_wp2_with fail
              go_roundg (gk - 1)
              case measure => omega
              case rel => exact ⟨L + 1, B, rfl, by go_num, by omega, rfl, Lib.hid (by rw [hs.out]; simp)⟩
            cases p2
            · go_wp2_with fail
              go_roundg (gk - 1)
              case measure => omega
              case rel => exact ⟨L + 1, B, rfl, by go_num, by omega, rfl, Lib.hid (by rw [hs.out]; simp)⟩
            cases p3
            · go_wp2_with fail
              go_roundg (gk - 1)
              case measure => omega
              case rel => exact ⟨L + 1, false, rfl, by go_num, by omega, rfl, Lib.hid (by rw [hs.out]; simp)⟩
            · go_wp2_with fail
              go_roundg (gk - 1)
              case measure => omega
              case rel => exact ⟨L + 1, B, rfl, by go_num, by omega, rfl, Lib.hid (by rw [hs.out]; simp)⟩
          · obtain rfl : L = n := by omega
            have e := hk2.out
            rw [hp.out] at e
            cases B
            · rw [if_neg (by simp)] at e
              replace e := Lib.hid e
              go_wp2_with fail
              go_roundg kO
              case measure => omega
              case rel => exact ⟨K + 1, by go_num, by omega, rfl, e⟩
            · rw [if_pos rfl] at e
              rw [← e] at hR
              go_wp2_with fail
              exact hR.out
    · obtain rfl : gk = 0 := by omega
      have e := hk.out
      rw [leastF] at e
      rw [← e] at hR
      clear hk e
      go_wp2_with fail
      exact hR.out
end Go.Proofs.Ytoeianacjnlepaa.Lat
