/- The reference's Turn. -/
import Derived.Test.YtoeianacjnlepaaLatA
set_option maxRecDepth 100000
set_option linter.unusedVariables false
namespace Go.Proofs.Ytoeianacjnlepaa.Lat
open Go.RowKit Go.Lib Go.Proofs.Ytoeianacjnlepaa.Rel Go.Proofs.Ytoeianacjnlepaa.Nam

def turnR (n : Nat) (f : Nat → List Bool) (a : Nat) : List Bool := (List.range n).map fun b => on (f b) a
theorem turn_len (n : Nat) (f : Nat → List Bool) (a : Nat) : (turnR n f a).length = n := by simp [turnR]
theorem turn_on {n : Nat} (f : Nat → List Bool) (a : Nat) {b : Nat} (h : b < n) : on (turnR n f a) b = on (f b) a := by
  unfold turnR
  have : on ((List.range n).map fun b => on (f b) a) b = ((List.range n).map fun b => on (f b) a)[b]'(by simpa using h) := by
    unfold on
    rw [List.getD, List.getElem?_eq_getElem (by simpa using h)]
    rfl
  rw [this]; simp
theorem on_setV {r : List Bool} {i : Nat} (hi : i < r.length) (x : Bool) (j : Nat) : on (r.set i x) j = if i = j then x else on r j := by
  unfold on
  rw [List.getD, List.getElem?_set]
  by_cases h : i = j
  · subst h; simp [hi]
  · simp [h]
/-- A row under way: its first J. -/
def TurnW (n : Nat) (f : Nat → List Bool) (K J : Nat) (r : List Bool) : Prop := ∀ b, b < n → on r b = (decide (b < J) && on (f b) K)
theorem TurnW.put {n : Nat} {f : Nat → List Bool} {K J : Nat} {r : List Bool} (h : TurnW n f K J r) (hr : r.length = n) (hJ : J < n) : TurnW n f K (J + 1) (r.set J (on (f J) K)) := fun b hb => by
  rw [on_setV (by omega)]
  by_cases e : J = b
  · subst e; rw [if_pos rfl, decide_eq_true (by omega : J < J + 1)]; rfl
  · rw [if_neg e, h b hb]
    by_cases q : b < J
    · rw [decide_eq_true q, decide_eq_true (by omega : b < J + 1)]
    · rw [decide_eq_false q, decide_eq_false (by omega : ¬ b < J + 1)]
theorem TurnW.fin {n : Nat} {f : Nat → List Bool} {K : Nat} {r : List Bool} (h : TurnW n f K n r) (hr : r.length = n) : r = turnR n f K := by
  refine row_ext (by rw [hr, turn_len]) fun i => ?_
  by_cases hi : i < n
  · rw [h i hi, turn_on f K hi, decide_eq_true hi]; rfl
  · cases e : on r i
    · cases e2 : on (turnR n f K) i
      · rfl
      · have := on_lt e2; rw [turn_len] at this; omega
    · have := on_lt e; omega
set_option maxRecDepth 100000 in
set_option maxHeartbeats 2000000 in
theorem refturn_calls (n : Nat) (f : Nat → List Bool) (v : Value) (w : World) (hm : RdM w v n f) (hn64 : n ≤ 64) (R : Ending → World → Prop)
    (hR : Hid (∀ v' w', RdM w' v' n (turnR n f) → Below w.heap.size w w' → R (.returned v') w')) : Calls Try.prog 12 #[v] w R := by
  obtain ⟨A, c, rfl, hc, hr⟩ := hm.op
  replace hr := Lib.hid hr
  obtain ⟨M, hM, hmk⟩ := mk_bool n (by omega)
  obtain ⟨i0, hI, hz0, hz1, hz2⟩ := info_parts infoRow
  clear hm
  go_enter Try.func12, Try.ntmps12
  go_wp2_with fail
  go_loopg [3, 4] n (fun g o a wr => ∃ (K : Nat) (vo : Value) (vs : List Value), vo = o ∧ a = .int .i64 K ∧ K + g = n ∧ Below w.heap.size w wr ∧ wr.ownsRow w.heap.size 43 1 vo K vs ∧ Hid (∀ j, j < K → ∃ b, wr.ownsRow b 4 1 (rw_ vs j) n (bv (turnR n f j))))
  case atStart => exact ⟨0, _, [], rfl, rfl, by omega, Below.refl _ _, World.ownsRow_nil _ _ _ _, Lib.hid fun j h => by omega⟩
  case round =>
    obtain ⟨K, vo, vs, rfl, rfl, c1, hbel, hown, hrows⟩ := hrel
    obtain ⟨W0, rfl⟩ : ∃ W0, W0 = wr := ⟨wr, rfl⟩
    have hsz := hbel.size
    by_cases hK : K < n
    · obtain ⟨kO, rfl⟩ : ∃ kO, gk = kO + 1 := ⟨gk - 1, by omega⟩
      obtain ⟨g, o, rfl, hg, hrow⟩ := hr.out (by omega)
      replace hrow := Lib.hid hrow
      have hm := Lib.hid (own_made (n := n) (w := W0) (t := 4) hM (by simp [bv]) (by unfold maxLen; omega))
      have b2 := Lib.hid ((Below.refl W0.heap.size W0).alloc (Nat.le_refl _) (.cells M 4))
      have t0 : TurnW n f K 0 (List.replicate n false) := fun b hb => by
        unfold on
        rw [List.getD, List.getElem?_replicate]
        simp [hb]
      replace t0 := Lib.hid t0
      have ik0 : (0 : Int) ≤ (K : Int) := by omega
      have ik1 : (K : Int) < (n : Int) := by omega
      go_wp2_with fail
      go_loopg [6] n (fun g k w2 => ∃ (J : Nat) (r : List Bool), k = .int .i64 J ∧ J + g = n ∧ Below W0.heap.size W0 w2 ∧ w2.ownsRow W0.heap.size 4 1 (.slice (some ⟨W0.heap.size, 0, none⟩) n n) n (bv r) ∧ Hid (TurnW n f K J r))
      case atStart => exact ⟨0, _, rfl, by omega, b2.out, hm.out, t0⟩
      case round =>
        obtain ⟨J, r, rfl, d1, b3, own3, d2⟩ := hrel
        have hrl : r.length = n := by have := own3.1; rw [bv_len] at this; omega
        by_cases hJ : J < n
        · obtain ⟨g1, o1, c3, x0, hg1, hc1⟩ := hrow.out J hJ
          have x1 := hc1 K hK
          have e0 := (b3.cell (p := ⟨g, o + J, none⟩) (Nat.lt_of_lt_of_le hg hsz)).trans ((hbel.cell (p := ⟨g, o + J, none⟩) hg).trans x0)
          have e1 := (b3.cell (p := ⟨g1, o1 + K, none⟩) (Nat.lt_of_lt_of_le hg1 hsz)).trans ((hbel.cell (p := ⟨g1, o1 + K, none⟩) hg1).trans x1)
          have hp := Lib.hid (d2.out.put hrl hJ)
          have r2 := (World.ownsRow.cellAt own3 J (by omega)).trans (bv_get (by omega))
          have r3 := World.ownsRow.frozenAt own3 J
          have o6 := (World.ownsRow.stored own3 J (.bool (on (f J) K))).1
          rw [bv_set] at o6
          have b6 := Lib.hid (b3.setCell (p := ⟨W0.heap.size, J, none⟩) (Nat.le_refl _) (.bool (on (f J) K)))
          replace o6 := Lib.hid o6
          have ij0 : (0 : Int) ≤ (J : Int) := by omega
          have ij1 : (J : Int) < (n : Int) := by omega
          clear hc1 x0 x1 d2 own3 b3
          generalize on (f J) K = B at *
          go_wp2_with fail
          go_roundg (gk - 1)
          case measure => omega
          case rel => exact ⟨J + 1, _, by go_num, by omega, b6.out, o6.out, hp⟩
        · obtain rfl : J = n := by omega
          obtain rfl : r = turnR J f K := d2.out.fin hrl
          clear d2
          have o1 := own_below hown b3
          have hsz2 := Nat.le_trans hsz b3.size
          go_wp2_with (at_builtin; go_loud (refine app1 _ (.slice (some ⟨W0.heap.size, 0, none⟩) J J) 43 rfl _ _ 33 rfl w.heap.size i0 (.slice none 0 0) 24 Try.underlying33 hI hz0 hz1 hz2 rfl vo _ _ rfl o1 rfl rfl (by unfold maxLen; omega) (by omega) hsz2 ?_); intro v' w3 hown3 hg3 hb3)
          have bW := hbel.trans ((b3.mono hsz).trans hb3)
          have hvs : vs.length = K := by have := hown.1; omega
          have hrows2 : ∀ j, j < K + 1 → ∃ b, w3.ownsRow b 4 1 (rw_ (vs ++ [.slice (some ⟨W0.heap.size, 0, none⟩) J J]) j) J (bv (turnR J f j)) := fun j hj => by
            rcases Nat.eq_or_lt_of_le (Nat.le_of_lt_succ hj) with e | hj
            · subst e
              rw [show rw_ (vs ++ [.slice (some ⟨W0.heap.size, 0, none⟩) J J]) j = .slice (some ⟨W0.heap.size, 0, none⟩) J J by simp [rw_, List.getD, ← hvs]]
              exact ⟨_, own3.kept hg3 (own_ne2 own3 o1 (by decide))⟩
            · obtain ⟨b, hb⟩ := hrows.out j hj
              rw [show rw_ (vs ++ [.slice (some ⟨W0.heap.size, 0, none⟩) J J]) j = rw_ vs j by simp [rw_, List.getD, List.getElem?_append_left (show j < vs.length by omega)]]
              have hb' := own_below hb b3
              exact ⟨b, hb'.kept hg3 (own_ne2 hb' o1 (by decide))⟩
          replace hrows2 := Lib.hid hrows2
          go_roundg kO
          case measure => omega
          case rel => exact ⟨K + 1, v', _, rfl, by go_num, by omega, bW, hown3, hrows2⟩
    · obtain rfl : K = n := by omega
      have rd : RdM W0 vo K (turnR K f) := ⟨vs, RdAt.of_own hown, by have := hown.1; omega, fun j hj => by
        obtain ⟨b, hb⟩ := hrows.out j hj
        exact ⟨RdAt.of_own hb, turn_len _ _ _⟩⟩
      replace rd := Lib.hid rd
      clear hown hrows
      go_wp2_with fail
      exact hR.out _ _ rd.out hbel
end Go.Proofs.Ytoeianacjnlepaa.Lat
