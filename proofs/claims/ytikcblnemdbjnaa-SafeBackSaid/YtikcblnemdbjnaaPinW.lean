/- A look into a table: sort.Search over a function literal, and within. -/
import Derived.Test.YtikcblnemdbjnaaRanA
import Derived.Test.YtikcblnemdbjnaaPinT
import Derived.IntWalk
set_option linter.unusedVariables false
namespace Go.Proofs.Ytikcblnemdbjnaa.Ran
open Go.RowKit Go.Lib

set_option maxRecDepth 100000 in
theorem within1_calls (T : List Rg) (r : Int) (k : Nat) (tv : Value) (w : World) (p2 p3 : Nat) (hx : RdR w tv T) (hk : k < T.length) (hT : T.length ≤ 1000000)
    (h2 : w.cell? ⟨p2, 0, none⟩ = some tv) (h3 : w.cell? ⟨p3, 0, none⟩ = some (.int .i32 r)) (R : Ending → World → Prop)
    (hR : Hid (∀ w', Below w.heap.size w w' → R (.returned (.bool (decide (r ≤ (T.getD k (0, 0)).2)))) w')) :
    Calls Try.prog 62 #[.int .i64 k, .pointer (some ⟨p2, 0, none⟩), .pointer (some ⟨p3, 0, none⟩)] w R := by
  obtain ⟨A, c, rfl, hlc, hr⟩ := hx.open
  obtain ⟨g, o, rfl, hg, hca⟩ := hr (by omega)
  obtain ⟨e0, e1⟩ := hca k hk
  clear hca hr hx e0
  generalize (T.getD k (0, 0)).2 = Y at *
  by_cases t : r ≤ Y
  · rw [decide_eq_true t] at hR
    go_enter Try.func62, Try.ntmps62
    go_wp2_with fail
    go_quiet (fail)
    go_wp2_with fail
    exact hR.out _ (bdN (Below.refl _ _) _)
  · rw [decide_eq_false t] at hR
    go_enter Try.func62, Try.ntmps62
    go_wp2_with fail
    go_quiet (fail)
    go_wp2_with fail
    exact retB (hR.out _ (bdN (Below.refl _ _) _)) (decide_eq_false (by omega)).symm

set_option maxRecDepth 100000 in
set_option maxHeartbeats 1000000 in
theorem searchW_calls (T : List Rg) (r : Int) (tv : Value) (w : World) (p2 p3 : Nat) (hx : RdR w tv T) (hc : Can 0 T)
    (h2 : w.cell? ⟨p2, 0, none⟩ = some tv) (h3 : w.cell? ⟨p3, 0, none⟩ = some (.int .i32 r)) (b2 : p2 < w.heap.size) (b3 : p3 < w.heap.size) (R : Ending → World → Prop)
    (hR : Hid (∀ (i : Nat) w', i ≤ T.length → hasB T r = (decide (i < T.length) && decide ((T.getD i (0, 0)).1 ≤ r)) → Below w.heap.size w w' → R (.returned (.int .i64 i)) w')) :
    Calls Try.prog 61 #[.int .i64 T.length, .func (.func 62) #[] #[.pointer (some ⟨p2, 0, none⟩), .pointer (some ⟨p3, 0, none⟩)]] w R := by
  have hl := can_len0 hc
  have hC := Lib.hid hc
  clear hc
  have hF := fun (W : World) (hb : Below w.heap.size w W) (k : Nat) (hk : k < T.length) R hR => within1_calls T r k tv W p2 p3 (hx.below hb) hk (by omega) ((hb.cell (p := ⟨p2, 0, none⟩) b2).trans h2) ((hb.cell (p := ⟨p3, 0, none⟩) b3).trans h3) R hR
  replace hF := Lib.hid hF
  clear hx h2 h3
  go_enter Try.func61, Try.ntmps61
  go_wp2_with fail
  go_loopg [5, 6] T.length (fun k i j wr => ∃ (I J : Nat), Below w.heap.size w wr ∧ i = .int .i64 I ∧ j = .int .i64 J ∧ I ≤ J ∧ J ≤ T.length ∧ J - I ≤ k ∧
    Hid ((∀ k, k < I → (T.getD k (0, 0)).2 < r) ∧ (∀ k, J ≤ k → k < T.length → r ≤ (T.getD k (0, 0)).2)))
  case atStart => exact ⟨0, T.length, Below.refl _ _, rfl, rfl, by omega, by omega, by omega, fun k h => by omega, fun k h1 h2 => by omega⟩
  case round =>
    obtain ⟨I, J, hbel, rfl, rfl, c1, c2, c3, c4⟩ := hrel
    have hsz := hbel.size
    by_cases hK : I < J
    · obtain ⟨k, rfl⟩ : ∃ k, gk = k + 1 := ⟨gk - 1, by omega⟩
      obtain ⟨M, hM⟩ : ∃ M : Nat, ((I : Int) + J) / 2 = M := ⟨(I + J) / 2, by omega⟩
      have m1 : I ≤ M := by omega
      have m2 : M < J := by omega
      have lo : (T.getD M (0, 0)).2 < r → ∀ k, k < M + 1 → (T.getD k (0, 0)).2 < r := by
        intro h k hk
        by_cases t : k = M
        · subst t; exact h
        · have a := can_lt hC.out k M (by omega) (by omega)
          have b := (can_get hC.out (show M < T.length by omega)).2.1
          omega
      have up : r ≤ (T.getD M (0, 0)).2 → ∀ k, M ≤ k → k < T.length → r ≤ (T.getD k (0, 0)).2 := by
        intro h k hk hk2
        by_cases t : k = M
        · subst t; exact h
        · have a := can_lt hC.out M k (by omega) (by omega)
          have b := (can_get hC.out hk2).2.1
          omega
      have hf := fun (W : World) (hb : Below w.heap.size w W) R hR => hF.out W hb M (by omega) R hR
      generalize (T.getD M (0, 0)).2 = Y at *
      replace lo := Lib.hid lo
      replace up := Lib.hid up
      replace hf := Lib.hid hf
      by_cases t : r ≤ Y
      · rw [decide_eq_true t] at hf
        go_wp2_with fail
        refine hf.out _ hbel _ (fun w1 h1 => ?_)
        have hb1 := hbel.trans (h1.mono hsz)
        go_wp2_with fail
        go_roundg k
        case measure => omega
        case rel => exact ⟨I, M, hb1, rfl, by go_num, by omega, by omega, by omega, c4.out.1, up.out t⟩
      · rw [decide_eq_false t] at hf
        go_wp2_with fail
        refine hf.out _ hbel _ (fun w1 h1 => ?_)
        have hb1 := hbel.trans (h1.mono hsz)
        go_wp2_with fail
        go_roundg k
        case measure => omega
        case rel => exact ⟨M + 1, J, hb1, by go_num, rfl, by omega, by omega, by omega, lo.out (by omega), c4.out.2⟩
    · obtain rfl : I = J := by omega
      have hB := hasB_at hC.out I c2 c4.out.1 c4.out.2
      replace hB := Lib.hid hB
      clear c4
      go_wp2_with fail
      exact hR.out I _ c2 hB.out hbel

set_option maxRecDepth 100000 in
set_option maxHeartbeats 1000000 in
theorem within_calls (T : List Rg) (r : Int) (tv : Value) (w : World) (hx : RdR w tv T) (hc : Can 0 T) (R : Ending → World → Prop)
    (hR : Hid (∀ w', Below w.heap.size w w' → R (.returned (.bool (hasB T r))) w')) : Calls Try.prog 55 #[tv, .int .i32 r] w R := by
  obtain ⟨A, c, rfl, hlc, hr⟩ := hx.open
  have hl := can_len0 hc
  have hmf : ∀ (fn : Fn) (first cap : Array Value) (w : World), (Instr.makeFunc fn first cap).run Try.prog w = .ok (.func fn first cap) w := fun _ _ _ _ => rfl
  have b5 := ((Below.refl w.heap.size w).alloc (Nat.le_refl _) (.cells #[.slice A T.length c] 86)).alloc (by simp) (.cells #[.int .i32 r] 21)
  have k5 := cellNew2 w (.slice A T.length c) (.int .i32 r) 86 21
  have k6 : ((w.alloc (.cells #[.slice A T.length c] 86)).alloc (.cells #[.int .i32 r] 21)).cell? ⟨w.heap.size + 1, 0, none⟩ = some (.int .i32 r) := by
    rw [show w.heap.size + 1 = (w.alloc (.cells #[.slice A T.length c] 86)).heap.size by simp]; exact cellNew _ _ _
  have zz : ((w.alloc (.cells #[.slice A T.length c] 86)).alloc (.cells #[.int .i32 r] 21)).heap.size = w.heap.size + 1 + 1 := by simp
  have hx5 := hx.below b5
  replace hr := Lib.hid hr
  replace hx5 := Lib.hid hx5
  replace hc := Lib.hid hc
  clear hx
  go_enter Try.func55, Try.ntmps55
  go_wp2_with fail
  generalize (w.alloc (.cells #[.slice A T.length c] 86)).alloc (.cells #[.int .i32 r] 21) = w3 at *
  have z5 : w.heap.size < w3.heap.size := by omega
  have z6 : w.heap.size + 1 < w3.heap.size := by omega
  go_loud (refine searchW_calls T r _ _ _ _ hx5.out hc.out k5 k6 z5 z6 _ (fun i w1 c1 c2 n1 => ?_))
  have k7 := (n1.cell (p := ⟨w.heap.size, 0, none⟩) z5).trans k5
  have k8 := (n1.cell (p := ⟨w.heap.size + 1, 0, none⟩) z6).trans k6
  have nn := b5.trans (n1.mono b5.size)
  clear k5 k6
  by_cases hi : i < T.length
  · rw [decide_eq_true hi, Bool.true_and] at c2
    obtain ⟨g, o, rfl, hg, hca⟩ := hr.out (by omega)
    obtain ⟨e0, e1⟩ := hca i hi
    have e2 := (nn.cell (p := ⟨g, o + i * 2, none⟩) hg).trans e0
    clear hca e0 e1
    generalize (T.getD i (0, 0)).1 = X at *
    by_cases t : X ≤ r
    · rw [c2, decide_eq_true t] at hR
      go_wp2_with fail
      go_quiet (fail)
      go_wp2_with fail
      exact hR.out _ (bdN nn _)
    · rw [c2, decide_eq_false t] at hR
      go_wp2_with fail
      go_quiet (fail)
      go_wp2_with fail
      exact retB (hR.out _ (bdN nn _)) (decide_eq_false (by omega)).symm
  · rw [decide_eq_false hi, Bool.false_and] at c2
    rw [c2] at hR
    go_wp2_with fail
    go_quiet (fail)
    go_wp2_with fail
    exact hR.out _ (bdN nn _)
end Go.Proofs.Ytikcblnemdbjnaa.Ran
