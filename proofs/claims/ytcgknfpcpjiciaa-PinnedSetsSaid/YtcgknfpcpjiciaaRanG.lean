/- Both, rest, Less, Ranges. -/
import Derived.Test.YtcgknfpcpjiciaaRanF
import Derived.Deep.DeepCutAuto
set_option linter.unusedVariables false
namespace Go.Proofs.Ytcgknfpcpjiciaa.Ran
open Go.RowKit Go.Lib

theorem both_len : ∀ (n : Nat) (a b : List Rg), a.length + b.length ≤ n → (bothS a b).length ≤ a.length + b.length
  | n, [], b, _ => by rw [both_nil1]; simp
  | n, g :: a, [], _ => by rw [both_nil2]; simp
  | 0, g :: a, h :: b, hn => by simp at hn
  | n + 1, g :: a, h :: b, hn => by
    rw [both_cons, List.length_append]
    simp only [List.length_cons] at hn ⊢
    have h1 : (if max g.1 h.1 ≤ min g.2 h.2 then [(max g.1 h.1, min g.2 h.2)] else []).length ≤ 1 := by split <;> simp
    refine Nat.le_trans (Nat.add_le_add_right h1 _) ?_
    clear h1
    split
    · have := both_len n a (h :: b) (by simp; omega)
      simp only [List.length_cons] at this; omega
    · have := both_len n (g :: a) b (by simp; omega)
      simp only [List.length_cons] at this; omega
/-- What is left of a slice behind its first range. -/
theorem RdR.tail {w : World} {g o c : Nat} {x : Rg} {t : List Rg} (h : RdR w (.slice (some ⟨g, o, none⟩) (t.length + 1) c) (x :: t)) (hc : c ≠ 1) : RdR w (.slice (some ⟨g, o + 2, none⟩) t.length (c - 1)) t := by
  obtain ⟨A, c', e, hl, hr⟩ := h.open
  simp only [Value.slice.injEq, List.length_cons] at e
  obtain ⟨rfl, -, rfl⟩ := e
  refine ⟨_, t.length, c - 1, rfl, flat_len t, by simp at hl; omega, fun h0 => ?_⟩
  obtain ⟨g', o', e, hg, hc⟩ := hr (by simp)
  simp only [Option.some.injEq, Addr.mk.injEq, and_true] at e
  obtain ⟨rfl, rfl⟩ := e
  refine ⟨g, o + 2, rfl, hg, fun j u hj => ?_⟩
  obtain ⟨A, n, c'', e, hl2, hn2, hr2⟩ := h
  simp only [Value.slice.injEq] at e
  obtain ⟨rfl, -, -⟩ := e
  obtain ⟨g', o', e, hg, hc2⟩ := hr2 (by rw [flat_len]; simp)
  simp only [Option.some.injEq, Addr.mk.injEq, and_true] at e
  obtain ⟨rfl, rfl⟩ := e
  have := hc2 (j + 2) u (by rw [show flat (x :: t) = .int .i32 x.1 :: .int .i32 x.2 :: flat t from rfl]; simpa using hj)
  rwa [show o + 2 + j = o + (j + 2) by omega]
theorem RdR.cons {w : World} {v : Value} {x : Rg} {t : List Rg} (h : RdR w v (x :: t)) : ∃ g o c, v = .slice (some ⟨g, o, none⟩) (t.length + 1) c ∧ t.length + 1 ≤ c ∧ g < w.heap.size ∧ w.cell? ⟨g, o, none⟩ = some (.int .i32 x.1) ∧ w.cell? ⟨g, o + 1, none⟩ = some (.int .i32 x.2) ∧
    (c ≠ 1 → RdR w (.slice (some ⟨g, o + 2, none⟩) t.length (c - 1)) t) ∧ (c = 1 → t = []) := by
  have h0 := h
  obtain ⟨A, c, rfl, hl, hr⟩ := h.open
  obtain ⟨g, o, rfl, hg, hc⟩ := hr (by simp)
  obtain ⟨e0, e1⟩ := hc 0 (by simp)
  refine ⟨g, o, c, by simp, by simpa using hl, hg, by simpa using e0, by simpa using e1, fun h => RdR.tail (by simpa using h0) h, fun h => ?_⟩
  subst h
  exact List.eq_nil_of_length_eq_zero (by simp only [List.length_cons] at hl; omega)
theorem RdR.none0 (w : World) (A : Option Addr) (c : Nat) : RdR w (.slice A 0 c) [] := ⟨A, 0, c, rfl, rfl, Nat.zero_le _, fun h => absurd h (by simp [flat])⟩

theorem frozen_new (W : World) (cs : Array Value) (T : TypeId) (j : Nat) : (W.alloc (.cells cs T)).frozen? ⟨W.heap.size, j, none⟩ = false := by simp
set_option maxRecDepth 100000 in
set_option maxHeartbeats 4000000 in
theorem both_calls (xs ys : List Rg) (va vb : Value) (w : World) (hx : RdR w va xs) (hy : RdR w vb ys) (hlx : xs.length ≤ 8796093022208) (hly : ys.length ≤ 8796093022208) (R : Ending → World → Prop)
    (hR : Hid (∀ v' w', RdN w' w.heap.size v' (bothS xs ys) → Below w.heap.size w w' → R (.returned (.agg #[v'])) w')) :
    Calls Try.prog 21 #[.agg #[va], .agg #[vb]] w R := by
  obtain ⟨i0, hi, hz0, hz1, hz2⟩ := info_parts infoRg
  have hT : (bothS xs ys).length ≤ xs.length + ys.length := both_len _ _ _ (Nat.le_refl _)
  obtain ⟨A, ca, rfl, -, -⟩ := hx.open
  obtain ⟨B, cb, rfl, -, -⟩ := hy.open
  replace hx := Lib.hid hx
  replace hy := Lib.hid hy
  go_enter Try.func21, Try.ntmps21
  go_wp2_with fail
  go_quiet (fail)
  go_wp2_with fail
  have hB0 : Below w.heap.size w (((w.alloc (.cells #[.slice A xs.length ca] 27)).alloc (.cells #[.slice B ys.length cb] 27)).alloc (.cells #[.slice none 0 0] 27)) :=
    (((Below.refl _ _).alloc (Nat.le_refl _) _).alloc (by simp) _).alloc (by simp; omega) _
  replace hB0 := below_drewN hB0 nq
  have k0 : ((((w.alloc (.cells #[.slice A xs.length ca] 27)).alloc (.cells #[.slice B ys.length cb] 27)).alloc (.cells #[.slice none 0 0] 27)).drewN nq).cell? ⟨w.heap.size + 1 + 1, 0, none⟩ = some (.slice none 0 0) := by
    show (((w.alloc (.cells #[.slice A xs.length ca] 27)).alloc (.cells #[.slice B ys.length cb] 27)).alloc (.cells #[.slice none 0 0] 27)).cell? _ = _
    rw [show w.heap.size + 1 + 1 = ((w.alloc (.cells #[.slice A xs.length ca] 27)).alloc (.cells #[.slice B ys.length cb] 27)).heap.size by simp, World.cell?_alloc_new]; rfl
  have k1 : ((((w.alloc (.cells #[.slice A xs.length ca] 27)).alloc (.cells #[.slice B ys.length cb] 27)).alloc (.cells #[.slice none 0 0] 27)).drewN nq).frozen? ⟨w.heap.size + 1 + 1, 0, none⟩ = false := by
    show (((w.alloc (.cells #[.slice A xs.length ca] 27)).alloc (.cells #[.slice B ys.length cb] 27)).alloc (.cells #[.slice none 0 0] 27)).frozen? _ = _
    rw [show w.heap.size + 1 + 1 = ((w.alloc (.cells #[.slice A xs.length ca] 27)).alloc (.cells #[.slice B ys.length cb] 27)).heap.size by simp]; exact frozen_new _ _ _ _
  have hz : ((((w.alloc (.cells #[.slice A xs.length ca] 27)).alloc (.cells #[.slice B ys.length cb] 27)).alloc (.cells #[.slice none 0 0] 27)).drewN nq).heap.size = w.heap.size + 1 + 1 + 1 := by
    show (((w.alloc (.cells #[.slice A xs.length ca] 27)).alloc (.cells #[.slice B ys.length cb] 27)).alloc (.cells #[.slice none 0 0] 27)).heap.size = _
    simp
  have hx2 := hx.out.below hB0
  have hy2 := hy.out.below hB0
  generalize (((w.alloc (.cells #[.slice A xs.length ca] 27)).alloc (.cells #[.slice B ys.length cb] 27)).alloc (.cells #[.slice none 0 0] 27)).drewN nq = W0 at *
  have hb0 : w.heap.size + 1 + 1 < W0.heap.size := by omega
  have hP : w.heap.size ≤ w.heap.size + 1 + 1 := by omega
  clear hx hy hz
  generalize w.heap.size + 1 + 1 = P at *
  replace hB0 := Lib.hid hB0
  replace hx2 := Lib.hid hx2
  replace hy2 := Lib.hid hy2
  replace hT := Lib.hid hT
  go_loopg [5, 6, 7] (xs.length + ys.length) (fun k l a b wr => ∃ (l1 l2 acc : List Rg) (va vb vl : Value), va = a ∧ vb = b ∧ vl = l ∧ Below W0.heap.size W0 wr ∧ RdR W0 va l1 ∧ RdR W0 vb l2 ∧ wr.ownsRow W0.heap.size 54 2 vl acc.length (flat acc) ∧
    l1.length + l2.length ≤ k ∧ l1.length ≤ xs.length ∧ l2.length ≤ ys.length ∧ acc.length + k ≤ xs.length + ys.length ∧ Hid (acc ++ bothS l1 l2 = bothS xs ys))
  case atStart => exact ⟨xs, ys, [], _, _, _, rfl, rfl, rfl, Below.refl _ _, hx2.out, hy2.out, World.ownsRow_nil _ _ _ _, Nat.le_refl _, Nat.le_refl _, Nat.le_refl _, by simp, rfl⟩
  case round =>
    obtain ⟨l1, l2, acc, va, vb, vl, rfl, rfl, rfl, hbel, ha, hb, hown, c1, c2, c3, c4, c5⟩ := hrel
    have hsz := hbel.size
    clear hx2 hy2
    have fin : ∀ acc, acc = bothS xs ys → wr.ownsRow W0.heap.size 54 2 vl acc.length (flat acc) → ∀ A n c, vl = .slice A n c → True := fun _ _ _ _ _ _ _ => trivial
    clear fin
    rcases l1 with _ | ⟨X, l1⟩
    · obtain ⟨A', ca', rfl, -, -⟩ := ha.open
      obtain ⟨B', cb', rfl, -, -⟩ := hb.open
      rw [both_nil1, List.append_nil] at c5
      obtain ⟨A2, n2, c2', rfl, -⟩ : ∃ A n c, vl = .slice A n c ∧ True := by
        obtain ⟨A, n, c, h, -⟩ := RdAt.of_own hown; exact ⟨A, n, c, h, trivial⟩
      have f0 := (hbel.cell (p := ⟨P, 0, none⟩) hb0).trans k0
      have f1 := (hbel.frozen (p := ⟨P, 0, none⟩) hb0).trans k1
      clear k0 k1 ha hb
      go_wp2_with fail
      refine bodyPost_ret (v := .agg #[.slice A2 n2 c2']) (by simp [results, Try.results21, go_sem, f0]) rfl ?_
      refine hR.out _ _ (by rw [← c5.out]; exact RdN.of_own (ownsRow_setCell_below hown (a := ⟨P, 0, none⟩) hb0 _) hB0.out.size) ?_
      exact (hB0.out.trans (hbel.mono hB0.out.size)).setCell (p := ⟨P, 0, none⟩) hP _
    rcases l2 with _ | ⟨Y, l2⟩
    · obtain ⟨A', ca', rfl, -, -⟩ := ha.open
      obtain ⟨B', cb', rfl, -, -⟩ := hb.open
      rw [both_nil2, List.append_nil] at c5
      obtain ⟨A2, n2, c2', rfl, -⟩ : ∃ A n c, vl = .slice A n c ∧ True := by
        obtain ⟨A, n, c, h, -⟩ := RdAt.of_own hown; exact ⟨A, n, c, h, trivial⟩
      have f0 := (hbel.cell (p := ⟨P, 0, none⟩) hb0).trans k0
      have f1 := (hbel.frozen (p := ⟨P, 0, none⟩) hb0).trans k1
      clear k0 k1 ha hb
      go_wp2_with fail
      refine bodyPost_ret (v := .agg #[.slice A2 n2 c2']) (by simp [results, Try.results21, go_sem, f0]) rfl ?_
      refine hR.out _ _ (by rw [← c5.out]; exact RdN.of_own (ownsRow_setCell_below hown (a := ⟨P, 0, none⟩) hb0 _) hB0.out.size) ?_
      exact (hB0.out.trans (hbel.mono hB0.out.size)).setCell (p := ⟨P, 0, none⟩) hP _
    obtain ⟨g, o, ca', rfl, hca, hg, a0, a1, at1, at2⟩ := ha.cons
    obtain ⟨g', o', cb', rfl, hcb, hg', b0, b1, bt1, bt2⟩ := hb.cons
    have e0 := (hbel.cell (p := ⟨g, o, none⟩) hg).trans a0
    have e1 := (hbel.cell (p := ⟨g, o + 1, none⟩) hg).trans a1
    have e2 := (hbel.cell (p := ⟨g', o', none⟩) hg').trans b0
    have e3 := (hbel.cell (p := ⟨g', o' + 1, none⟩) hg').trans b1
    clear a0 b0
    replace a1 := Lib.hid a1
    replace b1 := Lib.hid b1
    replace ha := Lib.hid ha
    replace hb := Lib.hid hb
    have hgw := Nat.lt_of_lt_of_le hg hsz
    have hgw2 := Nat.lt_of_lt_of_le hg' hsz
    obtain ⟨X1, X2⟩ := X
    obtain ⟨Y1, Y2⟩ := Y
    replace c5 := c5.out
    rw [both_cons] at c5
    simp only at e0 e1 e2 e3 c5
    simp only [List.length_cons] at c1 c2 c3
    obtain ⟨M, hM⟩ : ∃ M, max X1 Y1 = M := ⟨_, rfl⟩
    obtain ⟨N, hN⟩ : ∃ N, min X2 Y2 = N := ⟨_, rfl⟩
    rw [hM, hN] at c5
    replace c5 := Lib.hid c5
    obtain ⟨k, rfl⟩ : ∃ k, gk = k + 1 := ⟨gk - 1, by omega⟩
    have hbel2 := (hbel.alloc hsz (.cells #[.int .i32 M, .int .i32 N] 54)).drew
    replace hbel2 := Lib.hid hbel2
    go_upto_region 4 with fail
    go_cut [8] (fun p wx => p = .pointer (some ⟨wr.heap.size, 0, none⟩) ∧ wx = (wr.alloc (.cells #[.int .i32 M, .int .i32 N] 54)).drew)
    case first =>
      go_region
      go_wp2_with fail
      go_meet
      exact ⟨rfl, rfl⟩
    case rest =>
      obtain ⟨rfl, rfl⟩ := hcut
      replace hM := Lib.hid hM
      replace hN := Lib.hid hN
      clear e0 e1 e2 e3
      go_upto_if 44 with fail
      go_cut [5] (fun l wx => ∃ (acc' : List Rg) (vl' : Value), l = vl' ∧ Below W0.heap.size W0 wx ∧ wx.ownsRow W0.heap.size 54 2 vl' acc'.length (flat acc') ∧ acc'.length ≤ acc.length + 1 ∧ Hid (acc' ++ (if X2 < Y2 then bothS l1 ((Y1, Y2) :: l2) else bothS ((X1, X2) :: l1) l2) = bothS xs ys))
      case first =>
        by_cases p3 : M ≤ N
        · have c6 := c5.out
          rw [if_pos p3] at c6
          replace c6 := Lib.hid c6
          go_wp2_with (at_builtin; go_loud (refine appK _ #[.int .i32 M, .int .i32 N] 2 54 rfl _ _ 25 rfl W0.heap.size i0 (.agg #[.int .i32 0, .int .i32 0]) 8 Try.underlying25 hi hz0 hz1 hz2 rfl (by decide) rfl _ _ _ rfl (hown.alloc _) _ rfl (by first | rfl | simp | (show _ = (wr.alloc _).heap.size; simp)) (by simp [Value.oneCell']) (by unfold maxLen; omega) (by omega) hbel2.out.size ?_); intro v' w3 hown3 hg3 hb3)
          go_meet
          rw [show acc.length + 1 = (acc ++ [(M, N)]).length by simp, flat_snoc] at hown3
          exact ⟨acc ++ [(M, N)], v', rfl, hbel2.out.trans hb3, hown3, by simp, by refine Lib.hid ?_; rw [← c6.out]; simp⟩
        · have c6 := c5.out
          rw [if_neg p3] at c6
          replace c6 := Lib.hid c6
          go_wp2_with fail
          go_meet
          exact ⟨acc, vl, rfl, hbel2.out, hown.alloc _, by omega, c6.out⟩
      case rest =>
        obtain ⟨acc', vl', rfl, hbel3, hown4, c6, c7⟩ := hcut
        clear c5 hbel2 hown
        have z1 := (hbel3.cell (p := ⟨g, o + 1, none⟩) hg).trans a1.out
        have z3 := (hbel3.cell (p := ⟨g', o' + 1, none⟩) hg').trans b1.out
        clear a1 b1
        by_cases p2 : X2 < Y2
        · rw [if_pos p2] at c7
          replace c7 := Lib.hid c7
          go_wp2_with fail
          go_quiet (fail)
          have hbel4 := below_drewN hbel3 nq
          by_cases q1 : ca' = 1
          · have tl := at2 q1
            subst q1
            subst tl
            clear at1 at2 bt1 bt2
            go_wp2_with fail
            go_roundg k
            case measure => omega
            case rel => exact ⟨_, _, acc', _, _, _, rfl, rfl, rfl, hbel4, RdR.none0 _ _ _, hb.out, hown4, by first | omega | (simp at *; omega), by first | omega | (simp at *; omega), by first | omega | (simp at *; omega), by omega, c7.out⟩
          · have tl := Lib.hid (at1 q1)
            clear at1 at2 bt1 bt2
            go_wp2_with fail
            go_roundg k
            case measure => omega
            case rel => exact ⟨_, _, acc', _, _, _, rfl, rfl, rfl, hbel4, tl.out, hb.out, hown4, by first | omega | (simp at *; omega), by first | omega | (simp at *; omega), by first | omega | (simp at *; omega), by omega, c7.out⟩
        · rw [if_neg p2] at c7
          replace c7 := Lib.hid c7
          go_wp2_with fail
          go_quiet (fail)
          have hbel4 := below_drewN hbel3 nq
          by_cases q1 : cb' = 1
          · have tl := bt2 q1
            subst q1
            subst tl
            clear at1 at2 bt1 bt2
            go_wp2_with fail
            go_roundg k
            case measure => omega
            case rel => exact ⟨_, _, acc', _, _, _, rfl, rfl, rfl, hbel4, ha.out, RdR.none0 _ _ _, hown4, by first | omega | (simp at *; omega), by first | omega | (simp at *; omega), by first | omega | (simp at *; omega), by omega, c7.out⟩
          · have tl := Lib.hid (bt1 q1)
            clear at1 at2 bt1 bt2
            go_wp2_with fail
            go_roundg k
            case measure => omega
            case rel => exact ⟨_, _, acc', _, _, _, rfl, rfl, rfl, hbel4, ha.out, tl.out, hown4, by first | omega | (simp at *; omega), by first | omega | (simp at *; omega), by first | omega | (simp at *; omega), by omega, c7.out⟩
end Go.Proofs.Ytcgknfpcpjiciaa.Ran
