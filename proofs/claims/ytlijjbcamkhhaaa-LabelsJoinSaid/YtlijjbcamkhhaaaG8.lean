import Derived.Test.YtlijjbcamkhhaaaG7
import Derived.Test.YtlijjbcamkhhaaaG3
import Derived.Test.YtlijjbcamkhhaaaG6
import Derived.StillTailTactics
/- Layer 12: lists of numbers in memory; the reference's over, Least, Levels. -/
set_option maxRecDepth 100000
set_option linter.unusedVariables false
namespace Go.Proofs.Ytlijjbcamkhhaaa.Lab
open Go.RowKit Go.Lib Go.Proofs.Ytlijjbcamkhhaaa.Rel Go.Proofs.Ytlijjbcamkhhaaa.Nam Go.Proofs.Ytlijjbcamkhhaaa.Lat Go.ChangeShapes Go.WideShapes

/-- Cells of whole numbers. -/
def izv (xs : List Int) : List Value := xs.map fun x => .int .i64 x
theorem izv_len (xs : List Int) : (izv xs).length = xs.length := by simp [izv]
abbrev RdZ (w : World) (v : Value) (xs : List Int) : Prop := RdAt w v 1 (izv xs)
theorem iv_izv (l : List Nat) : ivR l = izv (l.map fun (a : Nat) => (a : Int)) := by simp [ivR, izv]
abbrev zN (xs : List Int) (i : Nat) : Int := xs.getD i 0
theorem zN_get {xs : List Int} {i : Nat} (h : i < xs.length) : zN xs i = xs[i] := by simp [zN, List.getD, List.getElem?_eq_getElem h]
theorem RdZ.op {w : World} {v : Value} {xs : List Int} (h : RdZ w v xs) : ∃ (A : Option Addr) (c : Nat), v = .slice A xs.length c ∧ xs.length ≤ c ∧ (0 < xs.length → ∃ g p, A = some ⟨g, p, none⟩ ∧ g < w.heap.size ∧ ∀ i, i < xs.length → w.cell? ⟨g, p + i, none⟩ = some (.int .i64 (zN xs i))) := by
  obtain ⟨A, n, c, rfl, hl, hn, hc⟩ := h
  rw [izv_len] at hl
  obtain rfl : n = xs.length := by omega
  refine ⟨A, c, rfl, hn, fun h0 => ?_⟩
  obtain ⟨g, p, rfl, hg, hc⟩ := hc (by rw [izv_len]; omega)
  exact ⟨g, p, rfl, hg, fun i hi => hc i _ (by simp [izv, List.getD, List.getElem?_eq_getElem hi])⟩
theorem getD_mem {l : List Nat} {i : Nat} (h : i < l.length) : l.getD i 0 ∈ l := by
  rw [List.getD, List.getElem?_eq_getElem h]
  exact List.getElem_mem h

set_option maxRecDepth 100000 in
set_option maxHeartbeats 1000000 in
theorem refover_calls (n : Nat) (f : Nat → List Bool) (v : Value) (w : World) (hm : RdM w v n f) (l : List Nat) (vl : Value) (hx : RdAt w vl 1 (ivR l)) (hl : ∀ a ∈ l, a < n) (hll : l.length ≤ 1000000) (c : Nat) (hc : c < n) (R : Ending → World → Prop)
    (hR : Hid (R (.returned (.bool (overB (fun a b => on (f a) b) l c))) w)) : Calls Try.prog 41 #[v, vl, .int .i64 c] w R := by
  obtain ⟨A, cc, rfl, -, hr⟩ := hm.op
  obtain ⟨g, o, rfl, hg, hrow⟩ := hr (by omega)
  obtain ⟨Al, cl, rfl, -, hrl⟩ := ivR_at hx
  obtain ⟨F, hF⟩ : ∃ F : Nat → Nat → Bool, F = fun a b => on (f a) b := ⟨_, rfl⟩
  have hrow2 : ∀ i, i < n → ∃ g1 o1 c1, w.cell? ⟨g, o + i, none⟩ = some (.slice (some ⟨g1, o1, none⟩) n c1) ∧ g1 < w.heap.size ∧ ∀ j, j < n → w.cell? ⟨g1, o1 + j, none⟩ = some (.bool (F i j)) := fun i hi => by
    obtain ⟨g1, o1, c1, h1, h2, h3⟩ := hrow i hi
    exact ⟨g1, o1, c1, h1, h2, fun j hj => by rw [hF]; exact h3 j hj⟩
  rw [← hF] at hR
  replace hrow2 := Lib.hid hrow2
  replace hrl := Lib.hid hrl
  replace hl := Lib.hid hl
  have ic0 : (0 : Int) ≤ (c : Int) := by omega
  have ic1 : (c : Int) < (n : Int) := by omega
  clear hF hm hrow hr hx
  go_enter Try.func41, Try.ntmps41
  go_wp2_with fail
  go_loopg [7] l.length (fun g i wr => ∃ K : Nat, i = .int .i64 K ∧ K + g = l.length ∧ wr = w ∧ Hid (∀ j, j < K → F (l.getD j 0) c = true))
  case atStart => exact ⟨0, rfl, by omega, rfl, Lib.hid fun j h => by omega⟩
  case round =>
    obtain ⟨K, rfl, c1, rfl, hs⟩ := hrel
    by_cases hK : K < l.length
    · obtain ⟨g2, o2, rfl, hg2, hcl⟩ := hrl.out (by omega)
      have e0 := hcl K hK
      have ha : l.getD K 0 < n := hl.out _ (getD_mem hK)
      obtain ⟨g1, o1, c1', x0, hg1, hca⟩ := hrow2.out _ ha
      have x1 := hca c hc
      have hno : F (l.getD K 0) c = false → overB F l c = false := fun h => by
        cases q : overB F l c
        · rfl
        · rw [over_iff.1 q _ (getD_mem hK)] at h; cases h
      have hnx : F (l.getD K 0) c = true → ∀ j, j < K + 1 → F (l.getD j 0) c = true := fun h j hj => by
        rcases Nat.eq_or_lt_of_le (Nat.le_of_lt_succ hj) with e | q
        · subst e; exact h
        · exact hs.out j q
      have i0 : (0 : Int) ≤ (K : Int) := by omega
      have i1 : (K : Int) < (l.length : Int) := by omega
      generalize l.getD K 0 = a at *
      have i2 : (0 : Int) ≤ (a : Int) := by omega
      have i3 : (a : Int) < (n : Int) := by omega
      clear hcl hca hs
      cases q : F a c
      · rw [q] at x1
        rw [hno q] at hR
        clear hno hnx q
        go_wp2_with fail
        exact hR.out
      · rw [q] at x1
        have hs := Lib.hid (hnx q)
        clear hno hnx q
        go_wp2_with fail
        go_roundg (gk - 1)
        case measure => omega
        case rel => exact ⟨K + 1, by go_num, by omega, rfl, hs⟩
    · have e : overB F l c = true := over_iff.2 fun a ha => by
        obtain ⟨j, hj, rfl⟩ := List.getElem_of_mem ha
        have := hs.out j (by omega)
        rw [List.getD, List.getElem?_eq_getElem hj] at this
        exact this
      rw [e] at hR
      clear hs e
      go_wp2_with fail
      exact hR.out

/-- What the inner loop of Least has found of the first L. -/
def preL (F : Nat → Nat → Bool) (l : List Nat) (c L : Nat) : Bool := overB F l c && (List.range L).all fun d => !overB F l d || F c d
theorem preL_zero (F : Nat → Nat → Bool) (l : List Nat) (c : Nat) : preL F l c 0 = overB F l c := by unfold preL; simp
theorem preL_succ (F : Nat → Nat → Bool) (l : List Nat) (c L : Nat) : preL F l c (L + 1) = (preL F l c L && (!overB F l L || F c L)) := by
  unfold preL
  rw [List.range_succ, List.all_append]
  simp [Bool.and_assoc]
set_option maxRecDepth 100000 in
set_option maxHeartbeats 2000000 in
theorem refleast_calls (n : Nat) (f : Nat → List Bool) (v : Value) (w : World) (hm : RdM w v n f) (hn : n ≤ 64) (l : List Nat) (vl : Value) (hx : RdAt w vl 1 (ivR l)) (hl : ∀ a ∈ l, a < n) (hll : l.length ≤ 1000000) (R : Ending → World → Prop)
    (hR : Hid (R (.returned (.int .i64 (lubZ n (fun a b => on (f a) b) l))) w)) : Calls Try.prog 16 #[v, vl] w R := by
  obtain ⟨F, hF⟩ : ∃ F : Nat → Nat → Bool, F = fun a b => on (f a) b := ⟨_, rfl⟩
  have cO := fun c (hc : c < n) R hR => refover_calls n f v w hm l vl hx hl hll c hc R hR
  rw [← hF] at cO hR
  replace cO := Lib.hid cO
  obtain ⟨A, cc, rfl, -, hr⟩ := hm.op
  have hrow2 : 0 < n → ∃ g o, A = some ⟨g, o, none⟩ ∧ ∀ i, i < n → ∃ g1 o1 c1, w.cell? ⟨g, o + i, none⟩ = some (.slice (some ⟨g1, o1, none⟩) n c1) ∧ g1 < w.heap.size ∧ ∀ j, j < n → w.cell? ⟨g1, o1 + j, none⟩ = some (.bool (F i j)) := fun h0 => by
    obtain ⟨g, o, e, hg, hrow⟩ := hr h0
    refine ⟨g, o, e, fun i hi => ?_⟩
    obtain ⟨g1, o1, c1, h1, h2, h3⟩ := hrow i hi
    exact ⟨g1, o1, c1, h1, h2, fun j hj => by rw [hF]; exact h3 j hj⟩
  replace hrow2 := Lib.hid hrow2
  obtain ⟨Al, cl, rfl, -, -⟩ := ivR_at hx
  clear hF hm hr hx hl
  go_enter Try.func16, Try.ntmps16
  go_wp2_with fail
  go_loopg [5] n (fun g c wr => ∃ K : Nat, c = .int .i64 K ∧ K + g = n ∧ wr = w ∧ Hid (leastF (lubB n F l) g K = lubZ n F l))
  case atStart => exact ⟨0, rfl, by omega, rfl, Lib.hid rfl⟩
  case round =>
    obtain ⟨K, rfl, c1, rfl, hk⟩ := hrel
    by_cases hK : K < n
    · obtain ⟨kO, rfl⟩ : ∃ kO, gk = kO + 1 := ⟨gk - 1, by omega⟩
      obtain ⟨g, o, rfl, hrow⟩ := hrow2.out (by omega)
      obtain ⟨gc, oc, cc', x2, hgc, hcc⟩ := hrow K hK
      have hk2 := hk.out
      rw [leastF, show lubB n F l K = preL F l K n from rfl] at hk2
      replace hk2 := Lib.hid hk2
      replace hcc := Lib.hid hcc
      have hp0 := preL_zero F l K
      have cO1 := cO.out K hK
      obtain ⟨B0, hB0⟩ : ∃ B, overB F l K = B := ⟨_, rfl⟩
      rw [hB0] at hp0 cO1
      replace cO1 := Lib.hid cO1
      replace hp0 := Lib.hid hp0
      have ik0 : (0 : Int) ≤ (K : Int) := by omega
      have ik1 : (K : Int) < (n : Int) := by omega
      clear hk hrow hB0
      go_wp2_with fail
      refine cO1.out _ (Lib.hid ?_)
      clear cO1
      go_wp2_with fail
      go_loopg [6, 7] n (fun g best d wr' => ∃ (L : Nat) (B : Bool), best = .bool B ∧ d = .int .i64 L ∧ L + g = n ∧ wr' = wr ∧ Hid (preL F l K L = B))
      case atStart => exact ⟨0, B0, rfl, rfl, by omega, rfl, hp0⟩
      case round =>
        obtain ⟨L, B, rfl, rfl, d1, rfl, hp⟩ := hrel
        by_cases hL : L < n
        · have y2 := hcc.out L hL
          have hs := preL_succ F l K L
          rw [hp.out] at hs
          replace hs := Lib.hid hs
          have il0 : (0 : Int) ≤ (L : Int) := by omega
          have il1 : (L : Int) < (n : Int) := by omega
          have cO1 := cO.out L hL
          clear hp hp0
          generalize overB F l L = p1 at *
          generalize F K L = p3 at *
          replace cO1 := Lib.hid cO1
          cases p1
          · go_wp2_with fail
            refine cO1.out _ (Lib.hid ?_)
            go_wp2_with fail
            go_roundg (gk - 1)
            case measure => omega
            case rel => exact ⟨L + 1, B, rfl, by go_num, by omega, rfl, Lib.hid (by rw [hs.out]; simp)⟩
          cases p3
          · go_wp2_with fail
            refine cO1.out _ (Lib.hid ?_)
            go_wp2_with fail
            go_roundg (gk - 1)
            case measure => omega
            case rel => exact ⟨L + 1, false, rfl, by go_num, by omega, rfl, Lib.hid (by rw [hs.out]; simp)⟩
          · go_wp2_with fail
            refine cO1.out _ (Lib.hid ?_)
            go_wp2_with fail
            go_roundg (gk - 1)
            case measure => omega
            case rel => exact ⟨L + 1, B, rfl, by go_num, by omega, rfl, Lib.hid (by rw [hs.out]; simp)⟩
        · obtain rfl : L = n := by omega
          have e := hk2.out
          rw [hp.out] at e
          cases B
          · rw [if_neg (by simp)] at e
            replace e := Lib.hid e
            go_wp2_with fail
            go_roundg kO
            case measure => omega
            case rel => exact ⟨K + 1, by go_num, by omega, rfl, e⟩
          · rw [if_pos rfl] at e
            rw [← e] at hR
            go_wp2_with fail
            exact hR.out
    · obtain rfl : gk = 0 := by omega
      have e := hk.out
      rw [leastF] at e
      rw [← e] at hR
      clear hk e
      go_wp2_with fail
      exact hR.out

theorem lv_take {n : Nat} {xs : List Int} {K : Nat} (h : K < xs.length) : lvS n (xs.take (K + 1)) = lvS n (xs.take K) ++ (if 0 ≤ zN xs K ∧ zN xs K < n then [(zN xs K).toNat] else []) := by
  rw [List.take_succ_eq_append_getElem h, lvS_append, ← zN_get h]
  congr 1
  unfold lvS lvlB
  by_cases q : 0 ≤ zN xs K ∧ zN xs K < n
  · rw [if_pos q, List.filter_cons_of_pos (by simpa using q)]; rfl
  · rw [if_neg q, List.filter_cons_of_neg (by simpa using q)]; rfl
set_option maxRecDepth 100000 in
set_option maxHeartbeats 1000000 in
theorem reflevels_calls (n : Nat) (f : Nat → List Bool) (v : Value) (w : World) (hm : RdM w v n f) (hn : n ≤ 64) (xs : List Int) (vx : Value) (hx : RdZ w vx xs) (hxl : xs.length ≤ 1000000) (R : Ending → World → Prop)
    (hR : Hid (∀ v' w', RdAt w' v' 1 (ivR (lvS n xs)) → Below w.heap.size w w' → R (.returned v') w')) : Calls Try.prog 14 #[v, vx] w R := by
  obtain ⟨A, cc, rfl, -, -⟩ := hm.op
  obtain ⟨Ax, cx, rfl, -, hrx⟩ := hx.op
  obtain ⟨j0, hJ, yz0, yz1, yz2⟩ := info_parts infoIntR
  replace hrx := Lib.hid hrx
  clear hm hx
  go_enter Try.func14, Try.ntmps14
  go_wp2_with fail
  go_loopg [5, 6] xs.length (fun g s i wr => ∃ (K L : Nat) (vo : Value) (l : List Nat), vo = s ∧ i = .int .i64 K ∧ K + g = xs.length ∧ L ≤ K ∧ Hid (l.length = L) ∧ Hid (Below w.heap.size w wr) ∧ Hid (wr.ownsRow w.heap.size 3 1 vo L (ivR l)) ∧ Hid (lvS n (xs.take K) = l))
  case atStart => exact ⟨0, 0, _, [], rfl, rfl, by omega, by omega, Lib.hid rfl, Lib.hid (Below.refl _ _), Lib.hid (World.ownsRow_nil _ _ _ _), Lib.hid rfl⟩
  case round =>
    obtain ⟨K, L, vo, l, rfl, rfl, c1, c2, hL, nb, own, hs⟩ := hrel
    have hsz := nb.out.size
    by_cases hK : K < xs.length
    · obtain ⟨g, o, rfl, hg, hca⟩ := hrx.out (by omega)
      have e0 := (nb.out.cell (p := ⟨g, o + K, none⟩) hg).trans (hca K hK)
      have h1 := lv_take (n := n) hK
      rw [hs.out] at h1
      have i0 : (0 : Int) ≤ (K : Int) := by omega
      have i1 : (K : Int) < (xs.length : Int) := by omega
      clear hca hs
      generalize zN xs K = x at *
      by_cases q0 : 0 ≤ x
      · by_cases q1 : x < n
        · rw [if_pos ⟨q0, q1⟩] at h1
          obtain ⟨a, rfl⟩ : ∃ a : Nat, x = a := ⟨x.toNat, by omega⟩
          rw [Int.toNat_natCast] at h1
          replace h1 := Lib.hid h1
          have ow2 := own.out
          go_wp2_with (at_builtin; refine app1 wr (.int .i64 (a : Nat)) 3 rfl _ _ 42 rfl w.heap.size j0 (.int .i64 0) 8 Try.underlying42 hJ yz0 yz1 yz2 rfl vo _ _ rfl ow2 rfl rfl (by unfold maxLen; omega) (by omega) hsz ?_; intro v' w3 hown3 hg3 hb3)
          have n3 := Lib.hid (nb.out.trans (hb3.mono (Nat.le_refl _)))
          go_roundg (gk - 1)
          case measure => omega
          case rel => exact ⟨K + 1, L + 1, v', l ++ [a], rfl, by go_num, by omega, by omega, Lib.hid (by simp [hL.out]), n3, Lib.hid (by rw [show ivR (l ++ [a]) = ivR l ++ [.int .i64 (a : Nat)] by simp [ivR]]; exact hown3), h1⟩
        · rw [if_neg (fun h => q1 h.2), List.append_nil] at h1
          replace h1 := Lib.hid h1
          go_wp2_with fail
          go_roundg (gk - 1)
          case measure => omega
          case rel => exact ⟨K + 1, L, vo, l, rfl, by go_num, by omega, by omega, hL, nb, own, h1⟩
      · rw [if_neg (fun h => q0 h.1), List.append_nil] at h1
        replace h1 := Lib.hid h1
        go_wp2_with fail
        go_roundg (gk - 1)
        case measure => omega
        case rel => exact ⟨K + 1, L, vo, l, rfl, by go_num, by omega, by omega, hL, nb, own, h1⟩
    · obtain rfl : K = xs.length := by omega
      have e := hs.out
      rw [List.take_length] at e
      have rd := RdAt.of_own own.out
      rw [← e] at rd
      have fin := Lib.hid (hR.out _ _ rd nb.out)
      clear hs own nb rd e hL
      go_wp2_with fail
      exact fin.out
end Go.Proofs.Ytlijjbcamkhhaaa.Lab

/- Layer 12: the reference's Highest, Same. -/
set_option maxRecDepth 100000
set_option linter.unusedVariables false
namespace Go.Proofs.Ytlijjbcamkhhaaa.Lab
open Go.RowKit Go.Lib Go.Proofs.Ytlijjbcamkhhaaa.Rel Go.Proofs.Ytlijjbcamkhhaaa.Nam Go.Proofs.Ytlijjbcamkhhaaa.Lat Go.ChangeShapes Go.WideShapes

/-- What Highest has found of the first J: is it among them, is one of them above it? -/
def inK (l : List Nat) (K J : Nat) : Bool := (l.take J).contains K
def abK (F : Nat → Nat → Bool) (l : List Nat) (K J : Nat) : Bool := (l.take J).any fun a => a != K && F K a
theorem getD_at {l : List Nat} {J : Nat} (h : J < l.length) : l.take (J + 1) = l.take J ++ [l.getD J 0] := by
  rw [List.take_succ_eq_append_getElem h]
  congr 2
  rw [List.getD, List.getElem?_eq_getElem h]; rfl
theorem in_succ {l : List Nat} {K J : Nat} (h : J < l.length) : inK l K (J + 1) = (inK l K J || decide (l.getD J 0 = K)) := by
  unfold inK
  rw [getD_at h, Bool.eq_iff_iff, Bool.or_eq_true, List.contains_iff_mem, List.contains_iff_mem, List.mem_append, List.mem_singleton, decide_eq_true_iff]
  exact or_congr Iff.rfl eq_comm
theorem ab_succ {F : Nat → Nat → Bool} {l : List Nat} {K J : Nat} (h : J < l.length) : abK F l K (J + 1) = (abK F l K J || (decide (l.getD J 0 ≠ K) && F K (l.getD J 0))) := by
  unfold abK
  rw [getD_at h, List.any_append, List.any_cons, List.any_nil, Bool.or_false]
  congr 2
  rw [Bool.eq_iff_iff, decide_eq_true_iff]; simp
theorem hig_fin (F : Nat → Nat → Bool) (l : List Nat) (K : Nat) : higB F l K = (inK l K l.length && !abK F l K l.length) := by unfold higB inK abK; rw [List.take_length]
theorem range_filter (p : Nat → Bool) (K : Nat) : (List.range (K + 1)).filter p = (List.range K).filter p ++ (if p K = true then [K] else []) := by
  rw [List.range_succ, List.filter_append]
  congr 1
  cases h : p K
  · rw [List.filter_cons_of_neg (by simp [h])]; simp
  · rw [List.filter_cons_of_pos h]; simp

set_option maxRecDepth 100000 in
set_option maxHeartbeats 2000000 in
theorem refhighest_calls (n : Nat) (f : Nat → List Bool) (v : Value) (w : World) (hm : RdM w v n f) (hn : n ≤ 64) (l : List Nat) (vl : Value) (hx : RdAt w vl 1 (ivR l)) (hl : ∀ a ∈ l, a < n) (hll : l.length ≤ 1000000) (R : Ending → World → Prop)
    (hR : Hid (∀ v' L w', w'.ownsRow w.heap.size 3 1 v' L (ivR (higS n (fun a b => on (f a) b) l)) → Below w.heap.size w w' → R (.returned v') w')) : Calls Try.prog 15 #[v, vl] w R := by
  obtain ⟨F, hF⟩ : ∃ F : Nat → Nat → Bool, F = fun a b => on (f a) b := ⟨_, rfl⟩
  rw [← hF] at hR
  obtain ⟨A, cc, rfl, -, hr⟩ := hm.op
  have hrow2 : 0 < n → ∃ g o, A = some ⟨g, o, none⟩ ∧ g < w.heap.size ∧ ∀ i, i < n → ∃ g1 o1 c1, w.cell? ⟨g, o + i, none⟩ = some (.slice (some ⟨g1, o1, none⟩) n c1) ∧ g1 < w.heap.size ∧ ∀ j, j < n → w.cell? ⟨g1, o1 + j, none⟩ = some (.bool (F i j)) := fun h0 => by
    obtain ⟨g, o, e, hg, hrow⟩ := hr h0
    refine ⟨g, o, e, hg, fun i hi => ?_⟩
    obtain ⟨g1, o1, c1, h1, h2, h3⟩ := hrow i hi
    exact ⟨g1, o1, c1, h1, h2, fun j hj => by rw [hF]; exact h3 j hj⟩
  replace hrow2 := Lib.hid hrow2
  obtain ⟨Al, cl, rfl, -, hrl⟩ := ivR_at hx
  obtain ⟨j0, hJi, yz0, yz1, yz2⟩ := info_parts infoIntR
  replace hrl := Lib.hid hrl
  replace hl := Lib.hid hl
  clear hF hm hr hx
  go_enter Try.func15, Try.ntmps15
  go_wp2_with fail
  go_loopg [5, 6] n (fun g s i wr => ∃ (K L : Nat) (vo : Value) (o : List Nat), vo = s ∧ i = .int .i64 K ∧ K + g = n ∧ L ≤ K ∧ Hid (o.length = L) ∧ Hid (Below w.heap.size w wr) ∧ Hid (wr.ownsRow w.heap.size 3 1 vo L (ivR o)) ∧ Hid ((List.range K).filter (higB F l) = o))
  case atStart => exact ⟨0, 0, _, [], rfl, rfl, by omega, by omega, Lib.hid rfl, Lib.hid (Below.refl _ _), Lib.hid (World.ownsRow_nil _ _ _ _), Lib.hid rfl⟩
  case round =>
    obtain ⟨K, L, vo, o, rfl, rfl, c1, c2, hL, nb, own, hs⟩ := hrel
    by_cases hK : K < n
    · obtain ⟨kO, rfl⟩ : ∃ kO, gk = kO + 1 := ⟨gk - 1, by omega⟩
      obtain ⟨g, oo, rfl, hg, hrow⟩ := hrow2.out (by omega)
      obtain ⟨gc, oc, cc', x0, hgc, hcc⟩ := hrow K hK
      have h1 := range_filter (higB F l) K
      rw [hs.out, hig_fin] at h1
      replace h1 := Lib.hid h1
      have b0 := Lib.hid (Below.refl wr.heap.size wr)
      have xr := Lib.hid ((nb.out.cell (p := ⟨g, oo + K, none⟩) hg).trans x0)
      replace hcc := Lib.hid hcc
      have ik0 : (0 : Int) ≤ (K : Int) := by omega
      have ik1 : (K : Int) < (n : Int) := by omega
      obtain ⟨W0, rfl⟩ : ∃ W0, W0 = wr := ⟨wr, rfl⟩
      have hsz0 := nb.out.size
      clear hs hrow x0
      go_wp2_with fail
      go_loopg [7, 8, 9] l.length (fun g s7 s8 i w2 => ∃ (J : Nat) (B1 B2 : Bool), s7 = .bool B1 ∧ s8 = .bool B2 ∧ i = .int .i64 J ∧ J + g = l.length ∧ Hid (Below W0.heap.size W0 w2) ∧ Hid (inK l K J = B1) ∧ Hid (abK F l K J = B2))
      case atStart => exact ⟨0, false, false, rfl, rfl, rfl, by omega, b0, Lib.hid (by simp [inK]), Lib.hid (by simp [abK])⟩
      case round =>
        obtain ⟨J, B1, B2, rfl, rfl, rfl, d1, b1, t1, t2⟩ := hrel
        clear b0
        by_cases hJ : J < l.length
        · obtain ⟨gl, ol, rfl, hgl, hcl⟩ := hrl.out (by omega)
          have z1 := b1.out.size
          have e0 := (b1.out.cell (p := ⟨gl, ol + J, none⟩) (Nat.lt_of_lt_of_le hgl hsz0)).trans ((nb.out.cell (p := ⟨gl, ol + J, none⟩) hgl).trans (hcl J hJ))
          have ha : l.getD J 0 < n := hl.out _ (getD_mem hJ)
          have e1 := (b1.out.cell (p := ⟨g, oo + K, none⟩) (Nat.lt_of_lt_of_le hg hsz0)).trans xr.out
          have e2 := (b1.out.cell (p := ⟨gc, oc + l.getD J 0, none⟩) (Nat.lt_of_lt_of_le hgc hsz0)).trans ((nb.out.cell (p := ⟨gc, oc + l.getD J 0, none⟩) hgc).trans (hcc.out _ ha))
          have s1 := in_succ (K := K) hJ
          have s2 := ab_succ (F := F) (K := K) hJ
          rw [t1.out] at s1
          rw [t2.out] at s2
          have ij0 : (0 : Int) ≤ (J : Int) := by omega
          have ij1 : (J : Int) < (l.length : Int) := by omega
          clear hcl t1 t2
          generalize l.getD J 0 = a at *
          have ia0 : (0 : Int) ≤ (a : Int) := by omega
          have ia1 : (a : Int) < (n : Int) := by omega
          generalize F K a = p at *
          obtain ⟨D, hD⟩ : ∃ D, (B1 || decide (a = K)) = D := ⟨_, rfl⟩
          rw [hD] at s1
          replace hD := Lib.hid hD
          have hq : (decide (a = K) = true ∧ ((a : Int) == (K : Int)) = true ∧ ((a : Int) != (K : Int)) = false) ∨ (decide (a = K) = false ∧ ((a : Int) == (K : Int)) = false ∧ ((a : Int) != (K : Int)) = true) := by
            by_cases q : a = K
            · exact .inl ⟨decide_eq_true q, by rw [q]; simp, by rw [q]; simp⟩
            · exact .inr ⟨decide_eq_false q, by simp; omega, by simp; omega⟩
          replace s1 := Lib.hid s1
          replace hq := Lib.hid hq
          go_upto_region 9 with fail
          go_cut [7] (fun e wx => e = .bool D ∧ wx = wr)
          case first =>
            have hd := hD.out
            clear e1 e2
            cases B1
            · rcases hq.out with ⟨t1, t2, t3⟩ | ⟨t1, t2, t3⟩
              · obtain rfl : D = true := by rw [← hd, t1]; rfl
                clear t1 hd
                go_wp2_with fail
                go_meet
                exact ⟨rfl, rfl⟩
              · obtain rfl : D = false := by rw [← hd, t1]; rfl
                clear t1 hd
                go_wp2_with fail
                go_meet
                exact ⟨rfl, rfl⟩
            · obtain rfl : D = true := by rw [← hd]; rfl
              clear hd
              go_wp2_with fail
              go_meet
              exact ⟨rfl, rfl⟩
          case rest =>
            obtain ⟨rfl, rfl⟩ := hcut
            cases B2
            · rcases hq.out with ⟨t1, t2, t3⟩ | ⟨t1, t2, t3⟩
              · have s4 : abK F l K (J + 1) = false := by
                  rw [s2, show decide (a ≠ K) = false by rw [decide_eq_false_iff_not]; intro h; exact h (of_decide_eq_true t1)]; rfl
                replace s4 := Lib.hid s4
                clear t1 s2
                go_wp2_with fail
                go_quiet (fail)
                have b2 := Lib.hid (below_drewN b1.out nq)
                go_wp2_with fail
                go_roundg (gk - 1)
                case measure => omega
                case rel => exact ⟨J + 1, _, _, rfl, rfl, by go_num, by omega, b2, s1, s4⟩
              · have s4 : abK F l K (J + 1) = p := by
                  rw [s2, show decide (a ≠ K) = true by rw [decide_eq_true_iff]; exact of_decide_eq_false t1]; rfl
                replace s4 := Lib.hid s4
                clear t1 s2
                go_wp2_with fail
                go_quiet (fail)
                have b2 := Lib.hid (below_drewN b1.out nq)
                go_wp2_with fail
                go_roundg (gk - 1)
                case measure => omega
                case rel => exact ⟨J + 1, _, _, rfl, rfl, by go_num, by omega, b2, s1, s4⟩
            · have s4 : abK F l K (J + 1) = true := by rw [s2]; rfl
              replace s4 := Lib.hid s4
              clear s2
              go_wp2_with fail
              go_quiet (fail)
              have b2 := Lib.hid (below_drewN b1.out nq)
              go_wp2_with fail
              go_roundg (gk - 1)
              case measure => omega
              case rel => exact ⟨J + 1, _, _, rfl, rfl, by go_num, by omega, b2, s1, s4⟩
        · obtain rfl : J = l.length := by omega
          have h2 := h1.out
          rw [t1.out, t2.out] at h2
          have hsz := Nat.le_trans hsz0 b1.out.size
          have nb2 := Lib.hid (nb.out.trans (b1.out.mono hsz0))
          have ow2 := own_below own.out b1.out
          by_cases q : B1 = true ∧ B2 = false
          · obtain ⟨rfl, rfl⟩ := q
            rw [if_pos (show (true && !false) = true from rfl)] at h2
            replace h2 := Lib.hid h2
            go_wp2_with (at_builtin; go_loud (refine app1 wr (.int .i64 (K : Nat)) 3 rfl _ _ 42 rfl w.heap.size j0 (.int .i64 0) 8 Try.underlying42 hJi yz0 yz1 yz2 rfl vo _ _ rfl ow2 rfl rfl (by unfold maxLen; omega) (by omega) hsz ?_); intro v' w3 hown3 hg3 hb3)
            have n3 := Lib.hid (nb2.out.trans (hb3.mono (Nat.le_refl _)))
            go_roundg kO
            case measure => omega
            case rel => exact ⟨K + 1, L + 1, v', o ++ [K], rfl, by go_num, by omega, by omega, Lib.hid (by simp [hL.out]), n3, Lib.hid (by rw [show ivR (o ++ [K]) = ivR o ++ [.int .i64 (K : Nat)] by simp [ivR]]; exact hown3), h2⟩
          · rw [if_neg (by cases B1 <;> cases B2 <;> simp_all), List.append_nil] at h2
            replace h2 := Lib.hid h2
            replace ow2 := Lib.hid ow2
            cases B1
            · go_wp2_with fail
              go_roundg kO
              case measure => omega
              case rel => exact ⟨K + 1, L, vo, o, rfl, by go_num, by omega, by omega, hL, nb2, ow2, h2⟩
            · cases B2
              · exact absurd ⟨rfl, rfl⟩ q
              · go_wp2_with fail
                go_roundg kO
                case measure => omega
                case rel => exact ⟨K + 1, L, vo, o, rfl, by go_num, by omega, by omega, hL, nb2, ow2, h2⟩
    · obtain rfl : K = n := by omega
      have rd := own.out
      rw [← hs.out] at rd
      have fin := Lib.hid (hR.out _ _ _ rd nb.out)
      clear hs own nb rd hL
      go_wp2_with fail
      exact fin.out

end Go.Proofs.Ytlijjbcamkhhaaa.Lab

/- Layer 12: the reference's Of, Parse. -/
set_option maxRecDepth 100000
set_option linter.unusedVariables false
namespace Go.Proofs.Ytlijjbcamkhhaaa.Lab
open Go.RowKit Go.Lib Go.Proofs.Ytlijjbcamkhhaaa.Utf Go.Proofs.Ytlijjbcamkhhaaa.Rel Go.Proofs.Ytlijjbcamkhhaaa.Nam Go.Proofs.Ytlijjbcamkhhaaa.Lat Go.Proofs.Ytlijjbcamkhhaaa.Pat Go.ChangeShapes Go.WideShapes

set_option maxHeartbeats 400000 in
theorem signs_end (s : ByteArray) (hs : s.size ≤ maxLen) (w : World) (R : Ending → World → Prop) (hR : Hid (R (.returned (.int .i64 0)) w)) : Calls Try.prog 46 #[.string s, .int .i64 (s.size : Nat)] w R := by
  replace hs : s.size ≤ 9223372036854775807 := hs
  go_enter Try.func46, Try.ntmps46
  go_wp2_with fail
  go_loopg [5, 6] 0 (fun g n a wr => n = .int .i64 0 ∧ a = .int .i64 (s.size : Nat) ∧ wr = w)
  case atStart => exact ⟨rfl, rfl, rfl⟩
  case round =>
    obtain ⟨rfl, rfl, rfl⟩ := hrel
    go_wp2_with fail
    exact hR.out
theorem signs_any (s : ByteArray) (k : Nat) (hk : k ≤ s.size) (hs : s.size ≤ maxLen) (w : World) (R : Ending → World → Prop) (hR : Hid (R (.returned (.int .i64 (sigS s k : Nat))) w)) : Calls Try.prog 46 #[.string s, .int .i64 k] w R := by
  rcases Nat.eq_or_lt_of_le hk with e | h
  · subst e
    rw [sig_zero (Nat.le_refl _)] at hR
    exact signs_end s hs w R hR
  · exact signs_calls s k h hs w R hR
/-- The first word that is no level. -/
def ofAt (nm : List ByteArray) (qs : List Wr) (i : Nat) : Option (Int × Int) := if findS nm (wN qs i).1 < 0 then some (17, (wN qs i).2) else none
/-- The levels of words. -/
def fndL (nm : List ByteArray) (qs : List Wr) : List Nat := qs.map fun x => (findS nm x.1).toNat
theorem fnd_len (nm : List ByteArray) (qs : List Wr) : (fndL nm qs).length = qs.length := by simp [fndL]
theorem fnd_take {nm : List ByteArray} {qs : List Wr} {K : Nat} (h : K < qs.length) : fndL nm (qs.take (K + 1)) = fndL nm (qs.take K) ++ [(findS nm (wN qs K).1).toNat] := by
  unfold fndL
  rw [List.take_succ_eq_append_getElem h, List.map_append, wN_get h]
  rfl
theorem fnd_lt {nm : List ByteArray} {qs : List Wr} (h : ∀ j, j < qs.length → ofAt nm qs j = none) : ∀ a ∈ fndL nm qs, a < nm.length := fun a ha => by
  obtain ⟨x, hx, rfl⟩ := List.mem_map.1 ha
  obtain ⟨i, hi, rfl⟩ := List.getElem_of_mem hx
  have h1 := h i hi
  unfold ofAt at h1
  rw [wN_get hi] at h1
  have h2 := find_lt nm qs[i].1
  split at h1
  · cases h1
  · omega
set_option maxRecDepth 100000 in
set_option maxHeartbeats 2000000 in
theorem refof_calls (ws : List Wr) (f : Nat → List Bool) (v : Value) (w : World) (hm : RdM w v ws.length f) (hn : ws.length ≤ 64) (vw : Value) (hw : RdW w vw ws) (qs : List Wr) (vq : Value) (hq : RdW w vq qs) (hql : qs.length ≤ 1000000) (R : Ending → World → Prop)
    (hR : Hid (∀ w', firF (ofAt (nms ws) qs) qs.length 0 = none → Below w.heap.size w w' → R (.returned (.tuple #[.int .i64 (lubZ ws.length (fun a b => on (f a) b) (fndL (nms ws) qs)), .agg #[.int .i64 0, .int .i64 0]])) w'))
    (hR2 : Hid (∀ x w', firF (ofAt (nms ws) qs) qs.length 0 = some x → Below w.heap.size w w' → R (.returned (.tuple #[.int .i64 0, .agg #[.int .i64 x.1, .int .i64 x.2]])) w')) : Calls Try.prog 12 #[vw, v, vq] w R := by
  have cF := Lib.hid fun (W : World) (hb : Below w.heap.size w W) s R hR => reffind11_calls ws s vw W (hw.below hb) (by omega) R hR
  have cL := Lib.hid fun (W : World) (hb : Below w.heap.size w W) l vl hx hl hll R hR => refleast_calls ws.length f v W (hm.below hb) hn l vl hx hl hll R hR
  obtain ⟨Am, cm, rfl, -, -⟩ := hm.op
  obtain ⟨Aw, cw, rfl, -, -⟩ := hw.op
  obtain ⟨Aq, cq, rfl, -, hrq⟩ := hq.op
  obtain ⟨j0, hJi, yz0, yz1, yz2⟩ := info_parts infoIntR
  have T := Flt.new w
  replace hrq := Lib.hid hrq
  clear hm hw hq
  go_enter Try.func12, Try.ntmps12
  go_upto_region 1 with fail
  generalize w.alloc (.cells #[.int .i64 0, .int .i64 0] 31) = W0 at *
  have T0 := Lib.hid T
  clear T
  go_wp2_with fail
  go_loopg [8, 9] qs.length (fun g s i wr => ∃ (K : Nat) (vo : Value), vo = s ∧ i = .int .i64 K ∧ K + g = qs.length ∧ Hid (Flt w w.heap.size wr) ∧ Hid (wr.ownsRow (w.heap.size + 1) 3 1 vo K (ivR (fndL (nms ws) (qs.take K)))) ∧ Hid (∀ j, j < K → ofAt (nms ws) qs j = none))
  case atStart => exact ⟨0, _, rfl, rfl, by omega, T0, Lib.hid (World.ownsRow_nil _ _ _ _), Lib.hid fun j h => by omega⟩
  case round =>
    clear T0
    obtain ⟨K, vo, rfl, rfl, c1, T, own, hs⟩ := hrel
    have hlt : w.heap.size + 1 ≤ wr.heap.size := T.out.lt
    by_cases hK : K < qs.length
    · obtain ⟨g, o, rfl, hg, hca⟩ := hrq.out (by omega)
      obtain ⟨x0, x1⟩ := hca K hK
      have e0 := (T.out.nb.cell (p := ⟨g, o + K * 2, none⟩) hg).trans x0
      have e1 := (T.out.nb.cell (p := ⟨g, o + K * 2 + 1, none⟩) hg).trans x1
      have hlv : ofAt (nms ws) qs K = if findS (nms ws) (wN qs K).1 < 0 then some (17, (wN qs K).2) else none := rfl
      have hfir : ∀ f, ofAt (nms ws) qs K = some f → firF (ofAt (nms ws) qs) qs.length 0 = some f := fun f hf => fir_is qs.length 0 K (Nat.zero_le _) (by omega) hf (fun j _ hj => hs.out j hj)
      have hnx : ofAt (nms ws) qs K = none → ∀ j, j < K + 1 → ofAt (nms ws) qs j = none := fun h j hj => by
        rcases Nat.eq_or_lt_of_le (Nat.le_of_lt_succ hj) with e | q
        · subst e; exact h
        · exact hs.out j q
      have htk := fnd_take (nm := nms ws) hK
      have hi0 : (0 : Int) ≤ (K : Int) := by omega
      have hi1 : (K : Int) < (qs.length : Int) := by omega
      have cA := Lib.hid (cF.out wr T.out.nb (wN qs K).1)
      clear hca x0 x1 hs
      generalize (wN qs K).1 = s at *
      generalize (wN qs K).2 = z at *
      generalize fndL (nms ws) (qs.take K) = l0 at *
      generalize ofAt (nms ws) qs K = V at *
      generalize findS (nms ws) s = k at *
      by_cases q : k < 0
      · rw [if_pos q] at hlv
        have fin := Lib.hid fun w' hb => hR2.out _ w' (hfir _ hlv) hb
        clear hlv hfir hnx htk own
        go_wp2_with fail
        refine cA.out _ (Lib.hid ?_)
        go_wp2_with fail
        go_still_tail 7, (by kernel_rfl)
        repeat still_step
        change wpList _ _ _ _ _ wr.drew
        have T3 := T.out.below (Below.refl _ _).drew
        clear T e0 e1 cA
        generalize wr.drew = W3 at *
        obtain ⟨nf, s0', s1'⟩ := T3.told (.int .i64 17) (.int .i64 z)
        have c0 := T3.c0
        have c1 := T3.c1
        have f0' := T3.f0
        have f1' := T3.f1
        replace nf := Lib.hid nf
        replace s0' := Lib.hid s0'
        replace s1' := Lib.hid s1'
        clear T3
        go_wp2_with fail
        replace s0' := s0'.out
        replace s1' := s1'.out
        clear c0 c1 f0' f1'
        generalize (W3.setCell ⟨w.heap.size, 0, none⟩ _).setCell ⟨w.heap.size, 1, none⟩ _ = Wz at *
        refine bodyPost_ret ?_ rfl (fin.out _ nf.out)
        simp [results, Try.results12, go_sem, s0', s1']
      · rw [if_neg q] at hlv
        have hn2 := Lib.hid (hnx hlv)
        obtain ⟨a, rfl⟩ : ∃ a : Nat, k = a := ⟨k.toNat, by omega⟩
        rw [Int.toNat_natCast] at htk
        replace htk := Lib.hid htk
        have ow2 := own.out
        clear hlv hfir hnx q
        go_wp2_with fail
        refine cA.out _ (Lib.hid ?_)
        go_wp2_with (at_builtin; refine app1 wr (.int .i64 (a : Nat)) 3 rfl _ _ 42 rfl (w.heap.size + 1) j0 (.int .i64 0) 8 Try.underlying42 hJi yz0 yz1 yz2 rfl vo _ _ rfl ow2 rfl rfl (by unfold maxLen; omega) (by omega) hlt ?_; intro v' w3 hown3 hg3 hb3)
        go_roundg (gk - 1)
        case measure => omega
        case rel => exact ⟨K + 1, v', rfl, by go_num, by omega, Lib.hid (T.out.below1 hb3), Lib.hid (by rw [htk.out, show ivR (l0 ++ [a]) = ivR l0 ++ [.int .i64 (a : Nat)] by simp [ivR]]; exact hown3), hn2⟩
    · obtain rfl : K = qs.length := by omega
      have hno : firF (ofAt (nms ws) qs) qs.length 0 = none := fir_no qs.length 0 (fun j _ hj => hs.out j (by omega))
      rw [List.take_length] at own
      have fin := Lib.hid fun w' hb => hR.out w' hno hb
      have cA := Lib.hid (cL.out wr T.out.nb (fndL (nms ws) qs) vo (RdAt.of_own own.out) (fun a ha => by have := fnd_lt (fun j hj => hs.out j hj) a ha; rwa [nms_len] at this) (by rw [fnd_len]; exact hql))
      clear hno own hs
      go_wp2_with fail
      refine cA.out _ (Lib.hid ?_)
      have T3 := T.out
      obtain ⟨nf, s0', s1'⟩ := T3.told (.int .i64 0) (.int .i64 0)
      have c0 := T3.c0
      have c1 := T3.c1
      have f0' := T3.f0
      have f1' := T3.f1
      replace nf := Lib.hid nf
      replace s0' := Lib.hid s0'
      replace s1' := Lib.hid s1'
      clear T3
      go_wp2_with fail
      replace s0' := s0'.out
      replace s1' := s1'.out
      clear c0 c1 f0' f1'
      generalize (wr.setCell ⟨w.heap.size, 0, none⟩ _).setCell ⟨w.heap.size, 1, none⟩ _ = Wz at *
      refine bodyPost_ret ?_ rfl (fin.out _ nf.out)
      simp [results, Try.results12, go_sem, s0', s1']

set_option maxRecDepth 100000 in
set_option maxHeartbeats 4000000 in
theorem refparse_calls (ws : List Wr) (f : Nat → List Bool) (v : Value) (w : World) (hm : RdM w v ws.length f) (hn : ws.length ≤ 64) (vw : Value) (hw : RdW w vw ws) (s : ByteArray) (hsz : s.size ≤ 1000000) (R : Ending → World → Prop)
    (hR : Hid (∀ l v' L w', parS (nms ws) s = (some l, 0, 0) → w'.ownsRow w.heap.size 3 1 v' L (ivR (higS ws.length (fun a b => on (f a) b) l)) → Below w.heap.size w w' → R (.returned (.tuple #[v', .agg #[.int .i64 0, .int .i64 0]])) w'))
    (hR2 : Hid (∀ e z w', parS (nms ws) s = (none, e, z) → Below w.heap.size w w' → R (.returned (.tuple #[.slice none 0 0, .agg #[.int .i64 e, .int .i64 z]])) w')) : Calls Try.prog 22 #[vw, v, .string s] w R := by
  have cF := Lib.hid fun (W : World) (hb : Below w.heap.size w W) s R hR => reffind11_calls ws s vw W (hw.below hb) (by omega) R hR
  have cH := Lib.hid fun (W : World) (hb : Below w.heap.size w W) l vl hx hl hll R hR => refhighest_calls ws.length f v W (hm.below hb) hn l vl hx hl hll R hR
  have cS := Lib.hid fun (W : World) k hk R hR => signs_any s k hk (by unfold maxLen; omega) W R hR
  obtain ⟨Am, cm, rfl, -, -⟩ := hm.op
  obtain ⟨Aw, cw, rfl, -, -⟩ := hw.op
  obtain ⟨j0, hJi, yz0, yz1, yz2⟩ := info_parts infoIntR
  have T := Flt.new w
  have hfl := Lib.hid (find_lt (nms ws))
  obtain ⟨V, hV⟩ : ∃ V, V = parS (nms ws) s := ⟨_, rfl⟩
  rw [← hV] at hR hR2
  have hV0 : Hid (parF (nms ws) s (s.size + 1) 0 [] = V) := Lib.hid hV.symm
  clear hm hw hV
  go_enter Try.func22, Try.ntmps22
  go_upto_region 1 with fail
  generalize w.alloc (.cells #[.int .i64 0, .int .i64 0] 31) = W0 at *
  have T0 := Lib.hid T
  clear T
  go_wp2_with fail
  go_loopg [8, 9] (s.size + 1) (fun g sl i wr => ∃ (I L fu : Nat) (vo : Value) (l : List Nat), vo = sl ∧ i = .int .i64 I ∧ I + g = s.size + 1 ∧ I ≤ s.size ∧ L ≤ I ∧ g ≤ fu ∧ Hid (l.length = L) ∧ Hid (Flt w w.heap.size wr) ∧ Hid (wr.ownsRow (w.heap.size + 1) 3 1 vo L (ivR l)) ∧ Hid (∀ a ∈ l, a < ws.length) ∧ Hid (parF (nms ws) s fu I l = V))
  case atStart => exact ⟨0, 0, s.size + 1, _, [], rfl, rfl, by omega, by omega, by omega, by omega, Lib.hid rfl, T0, Lib.hid (World.ownsRow_nil _ _ _ _), Lib.hid (by simp), hV0⟩
  case round =>
    clear T0 hV0
    obtain ⟨I, L, fu, vo, l, rfl, rfl, c1, c2, c3, c4, hL, T, own, hl, hp⟩ := hrel
    obtain ⟨fu, rfl⟩ : ∃ k, fu = k + 1 := ⟨fu - 1, by omega⟩
    have hlt : w.heap.size + 1 ≤ wr.heap.size := T.out.lt
    have cS1 := Lib.hid (cS.out wr I c2)
    have h1 := hp.out
    rw [parF] at h1
    have hm0 := sig_le (s := s) (j := I) c2
    have hfl2 := hfl.out (s.extract I (I + sigS s I))
    rw [nms_len] at hfl2
    have cF1 := Lib.hid (cF.out wr T.out.nb (s.extract I (I + sigS s I)))
    clear hp
    generalize sigS s I = m at *
    generalize findS (nms ws) (s.extract I (I + m)) = k at *
    by_cases q1 : m < 1 ∨ 32 < m
    · rw [if_pos q1] at h1
      have fin := Lib.hid fun w' hb => hR2.out 9 I w' h1.symm hb
      have T3 := T.out
      clear h1 cF1 own T
      rcases q1 with q1 | q1
      · go_wp2_with fail
        refine cS1.out _ (Lib.hid ?_)
        obtain ⟨nf, s0', s1'⟩ := T3.told (.int .i64 9) (.int .i64 I)
        have c0 := T3.c0
        have c1 := T3.c1
        have f0' := T3.f0
        have f1' := T3.f1
        replace nf := Lib.hid nf
        replace s0' := Lib.hid s0'
        replace s1' := Lib.hid s1'
        clear T3
        go_wp2_with fail
        replace s0' := s0'.out
        replace s1' := s1'.out
        clear c0 c1 f0' f1'
        generalize (wr.setCell ⟨w.heap.size, 0, none⟩ _).setCell ⟨w.heap.size, 1, none⟩ _ = Wz at *
        refine bodyPost_ret ?_ rfl (fin.out _ nf.out)
        simp [results, Try.results22, go_sem, s0', s1']
      · have q2 : ¬ m < 1 := by omega
        go_wp2_with fail
        refine cS1.out _ (Lib.hid ?_)
        obtain ⟨nf, s0', s1'⟩ := T3.told (.int .i64 9) (.int .i64 I)
        have c0 := T3.c0
        have c1 := T3.c1
        have f0' := T3.f0
        have f1' := T3.f1
        replace nf := Lib.hid nf
        replace s0' := Lib.hid s0'
        replace s1' := Lib.hid s1'
        clear T3
        go_wp2_with fail
        replace s0' := s0'.out
        replace s1' := s1'.out
        clear c0 c1 f0' f1'
        generalize (wr.setCell ⟨w.heap.size, 0, none⟩ _).setCell ⟨w.heap.size, 1, none⟩ _ = Wz at *
        refine bodyPost_ret ?_ rfl (fin.out _ nf.out)
        simp [results, Try.results22, go_sem, s0', s1']
    · rw [if_neg q1] at h1
      have q2 : 1 ≤ m := by omega
      have q3 : m ≤ 32 := by omega
      by_cases q4 : k < 0
      · rw [if_pos q4] at h1
        have fin := Lib.hid fun w' hb => hR2.out 17 I w' h1.symm hb
        clear h1 own q1
        go_wp2_with fail
        refine cS1.out _ (Lib.hid ?_)
        go_wp2_with fail
        refine cF1.out _ (Lib.hid ?_)
        have T3 := T.out
        clear T
        obtain ⟨nf, s0', s1'⟩ := T3.told (.int .i64 17) (.int .i64 I)
        have c0 := T3.c0
        have c1 := T3.c1
        have f0' := T3.f0
        have f1' := T3.f1
        replace nf := Lib.hid nf
        replace s0' := Lib.hid s0'
        replace s1' := Lib.hid s1'
        clear T3
        go_wp2_with fail
        replace s0' := s0'.out
        replace s1' := s1'.out
        clear c0 c1 f0' f1'
        generalize (wr.setCell ⟨w.heap.size, 0, none⟩ _).setCell ⟨w.heap.size, 1, none⟩ _ = Wz at *
        refine bodyPost_ret ?_ rfl (fin.out _ nf.out)
        simp [results, Try.results22, go_sem, s0', s1']
      · rw [if_neg q4] at h1
        obtain ⟨a, rfl⟩ : ∃ a : Nat, k = a := ⟨k.toNat, by omega⟩
        rw [Int.toNat_natCast] at h1
        have ow2 := own.out
        have hl2 : ∀ x ∈ l ++ [a], x < ws.length := fun x hx => by
          rcases List.mem_append.1 hx with hx | hx
          · exact hl.out x hx
          · rw [List.mem_singleton.1 hx]; omega
        have hL2 : (l ++ [a]).length = L + 1 := by simp [hL.out]
        replace hl2 := Lib.hid hl2
        replace hL2 := Lib.hid hL2
        replace h1 := Lib.hid h1
        clear q1 own hl hL
        go_wp2_with fail
        refine cS1.out _ (Lib.hid ?_)
        go_wp2_with fail
        refine cF1.out _ (Lib.hid ?_)
        clear cS1 cF1
        replace h1 := h1.out
        by_cases q5 : I + m = s.size
        · rw [if_pos q5] at h1
          replace h1 := Lib.hid h1
          have q6 : ((I : Int) + (m : Int) == (s.size : Int)) = true := by simp; omega
          go_wp2_with (at_builtin; refine app1 wr (.int .i64 (a : Nat)) 3 rfl _ _ 42 rfl (w.heap.size + 1) j0 (.int .i64 0) 8 Try.underlying42 hJi yz0 yz1 yz2 rfl vo _ _ rfl ow2 rfl rfl (by unfold maxLen; omega) (by omega) hlt ?_; intro v' w3 hown3 hg3 hb3)
          have T1 := Lib.hid (T.out.below1 hb3)
          have own3 := Lib.hid (show w3.ownsRow (w.heap.size + 1) 3 1 v' (L + 1) (ivR (l ++ [a])) by rw [show ivR (l ++ [a]) = ivR l ++ [.int .i64 (a : Nat)] by simp [ivR]]; exact hown3)
          clear hown3 hg3 hb3 T ow2
          refine cH.out w3 T1.out.nb (l ++ [a]) v' (RdAt.of_own own3.out) hl2.out (by rw [hL2.out]; omega) _ (Lib.hid fun v4 L4 w4 o4 n4 => ?_)
          have T3 := T1.out.below n4
          have hB := T1.out.lt
          have rd := own_mono (ownsRow_setCell_below (ownsRow_setCell_below o4 (a := ⟨w.heap.size, 0, none⟩) hB (.int .i64 0)) (a := ⟨w.heap.size, 1, none⟩) hB (.int .i64 0)) T1.out.nb.size
          have fin := Lib.hid fun hb => hR.out _ _ _ _ h1.out.symm rd hb
          clear rd o4 n4 T1 own3 h1
          obtain ⟨nf, s0', s1'⟩ := T3.told (.int .i64 0) (.int .i64 0)
          have c0 := T3.c0
          have c1 := T3.c1
          have f0' := T3.f0
          have f1' := T3.f1
          replace nf := Lib.hid nf
          replace s0' := Lib.hid s0'
          replace s1' := Lib.hid s1'
          clear T3
          go_wp2_with fail
          replace s0' := s0'.out
          replace s1' := s1'.out
          clear c0 c1 f0' f1'
          generalize (w4.setCell ⟨w.heap.size, 0, none⟩ _).setCell ⟨w.heap.size, 1, none⟩ _ = Wz at *
          refine bodyPost_ret ?_ rfl (fin.out nf.out)
          simp [results, Try.results22, go_sem, s0', s1']
        · rw [if_neg q5] at h1
          have q6 : ((I : Int) + (m : Int) == (s.size : Int)) = false := by simp; omega
          have hj : I + m < s.size := by omega
          have hg := byN_get s (I + m) hj
          have hbl := byN_lt s (I + m)
          generalize byN s (I + m) = c at *
          by_cases q7 : c = 43
          · rw [if_neg (by simp [q7])] at h1
            have q8 : ((c : Int) != 43) = false := by simp; omega
            replace h1 := Lib.hid h1
            have hg2 := Lib.hid hg
            clear q7
            go_wp2_with (at_builtin; refine app1 wr (.int .i64 (a : Nat)) 3 rfl _ _ 42 rfl (w.heap.size + 1) j0 (.int .i64 0) 8 Try.underlying42 hJi yz0 yz1 yz2 rfl vo _ _ rfl ow2 rfl rfl (by unfold maxLen; omega) (by omega) hlt ?_; intro v' w3 hown3 hg3 hb3)
            have T1 := Lib.hid (T.out.below1 hb3)
            have own3 := Lib.hid (show w3.ownsRow (w.heap.size + 1) 3 1 v' (L + 1) (ivR (l ++ [a])) by rw [show ivR (l ++ [a]) = ivR l ++ [.int .i64 (a : Nat)] by simp [ivR]]; exact hown3)
            clear hown3 hg3 hb3 T ow2
            go_roundg (gk - (m + 1))
            case measure => omega
            case rel => exact ⟨I + m + 1, L + 1, fu, v', l ++ [a], rfl, by go_num, by omega, by omega, by omega, by omega, hL2, T1, own3, hl2, h1⟩
          · rw [if_pos (by simp [q7])] at h1
            have q8 : ((c : Int) != 43) = true := by simp; omega
            have fin := Lib.hid fun w' hb => hR2.out 4 ((I + m : Nat) : Int) w' h1.symm hb
            clear q7 h1
            go_wp2_with (at_builtin; refine app1 wr (.int .i64 (a : Nat)) 3 rfl _ _ 42 rfl (w.heap.size + 1) j0 (.int .i64 0) 8 Try.underlying42 hJi yz0 yz1 yz2 rfl vo _ _ rfl ow2 rfl rfl (by unfold maxLen; omega) (by omega) hlt ?_; intro v' w3 hown3 hg3 hb3; have T3 := T.out.below1 hb3; have c0 := T3.c0; have c1 := T3.c1; have f0' := T3.f0; have f1' := T3.f1)
            obtain ⟨nf, s0', s1'⟩ := T3.told (.int .i64 4) (.int .i64 ((I : Int) + (m : Int)))
            clear c0 c1 f0' f1' T3
            generalize (w3.setCell ⟨w.heap.size, 0, none⟩ _).setCell ⟨w.heap.size, 1, none⟩ _ = Wz at *
            have fin2 := fin.out _ nf
            rw [show ((I + m : Nat) : Int) = (I : Int) + (m : Int) by omega] at fin2
            refine bodyPost_ret ?_ rfl fin2
            simp [results, Try.results22, go_sem, s0', s1']
end Go.Proofs.Ytlijjbcamkhhaaa.Lab

/- Layer 12: the reference's Same. -/
set_option maxRecDepth 100000
set_option linter.unusedVariables false
namespace Go.Proofs.Ytlijjbcamkhhaaa.Lab
open Go.RowKit Go.Lib Go.Proofs.Ytlijjbcamkhhaaa.Rel Go.Proofs.Ytlijjbcamkhhaaa.Nam Go.Proofs.Ytlijjbcamkhhaaa.Lat Go.ChangeShapes Go.WideShapes

set_option maxRecDepth 100000 in
set_option maxHeartbeats 1000000 in
theorem refsame12_calls (xs ys : List Int) (va vb : Value) (w : World) (hx : RdZ w va xs) (hy : RdZ w vb ys) (hxl : xs.length ≤ 1000000) (hyl : ys.length ≤ 1000000) (R : Ending → World → Prop)
    (hR : Hid (∀ w', Below w.heap.size w w' → R (.returned (.bool (decide (xs = ys)))) w')) : Calls Try.prog 17 #[va, vb] w R := by
  obtain ⟨A, c, rfl, -, hr⟩ := hx.op
  obtain ⟨B, d, rfl, -, hs⟩ := hy.op
  replace hr := Lib.hid hr
  replace hs := Lib.hid hs
  clear hx hy
  by_cases hl : xs.length = ys.length
  · have q0 : ((xs.length : Int) != (ys.length : Int)) = false := by rw [hl]; simp
    obtain ⟨m, hm⟩ : ∃ m, m = ys.length := ⟨_, rfl⟩
    rw [← hm] at hl q0 hyl hs
    have hlx : Hid (xs.length = m) := Lib.hid hl
    rw [hl] at q0 hr hxl
    have hym : Hid (m = ys.length) := Lib.hid hm
    rw [show (.slice A xs.length c : Value) = .slice A m c by rw [hl], show (.slice B ys.length d : Value) = .slice B m d by rw [hm]]
    clear hl hm
    go_enter Try.func17, Try.ntmps17
    go_wp2_with fail
    go_loopg [5] m (fun g i wr => ∃ (K : Nat), i = .int .i64 K ∧ K + g = m ∧ Hid (Below w.heap.size w wr) ∧ Hid (∀ j, j < K → zN xs j = zN ys j))
    case atStart => exact ⟨0, rfl, by omega, Lib.hid (Below.refl _ _), Lib.hid fun j h => by omega⟩
    case round =>
      obtain ⟨K, rfl, c1, nb, hk⟩ := hrel
      by_cases hK : K < m
      · obtain ⟨g1, o1, rfl, hg1, hc1⟩ := hr.out (by omega)
        obtain ⟨g2, o2, rfl, hg2, hc2⟩ := hs.out (by omega)
        have e0 := (nb.out.cell (p := ⟨g1, o1 + K, none⟩) hg1).trans (hc1 K hK)
        have e1 := (nb.out.cell (p := ⟨g2, o2 + K, none⟩) hg2).trans (hc2 K hK)
        have i0 : (0 : Int) ≤ (K : Int) := by omega
        have i1 : (K : Int) < (m : Int) := by omega
        have hno : zN xs K ≠ zN ys K → xs ≠ ys := fun h e => h (by rw [e])
        have hnx : zN xs K = zN ys K → ∀ j, j < K + 1 → zN xs j = zN ys j := fun h j hj => by
          rcases Nat.eq_or_lt_of_le (Nat.le_of_lt_succ hj) with e | q
          · subst e; exact h
          · exact hk.out j q
        clear hc1 hc2 hk
        generalize zN xs K = x at *
        generalize zN ys K = y at *
        by_cases q : x = y
        · have h2 := Lib.hid (hnx q)
          have q1 : (x != y) = false := by simp [q]
          clear hno hnx q q0
          go_wp2_with fail
          go_quiet (fail)
          have b2 := Lib.hid (below_drewN nb.out nq)
          go_wp2_with fail
          go_roundg (gk - 1)
          case measure => omega
          case rel => exact ⟨K + 1, by go_num, by omega, b2, h2⟩
        · have h2 := hno q
          have q1 : (x != y) = true := by simp [q]
          have fin := fun w' (hb : Below w.heap.size w w') => hR.out w' hb
          rw [decide_eq_false h2] at fin
          replace fin := Lib.hid fin
          clear hno hnx q q0 h2 hR
          go_wp2_with fail
          go_quiet (fail)
          have b2 := Lib.hid (below_drewN nb.out nq)
          go_wp2_with fail
          exact fin.out _ b2.out
      · have e : xs = ys := List.ext_getElem (by rw [hlx.out, hym.out]) fun j h1 h2 => by
          have := hk.out j (by have := hlx.out; omega)
          rw [zN_get h1, zN_get h2] at this
          exact this
        have fin := hR.out wr nb.out
        rw [decide_eq_true e] at fin
        replace fin := Lib.hid fin
        clear hk e q0 hR
        go_wp2_with fail
        exact fin.out
  · have q0 : ((xs.length : Int) != (ys.length : Int)) = true := by simp; omega
    have fin := hR.out w (Below.refl _ _)
    rw [decide_eq_false (fun e => hl (by rw [e]))] at fin
    replace fin := Lib.hid fin
    clear hl hR
    go_enter Try.func17, Try.ntmps17
    go_wp2_with fail
    exact fin.out
end Go.Proofs.Ytlijjbcamkhhaaa.Lab
