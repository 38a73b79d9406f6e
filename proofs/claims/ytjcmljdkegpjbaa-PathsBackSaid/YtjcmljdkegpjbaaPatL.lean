/- The code's Match of a path with itself, Compare of equal paths, Begins. -/
import Derived.Test.YtjcmljdkegpjbaaPatF
import Derived.Test.YtjcmljdkegpjbaaPatC
import Derived.Deep.WholeRow
set_option linter.unusedVariables false
namespace Go.Proofs.Ytjcmljdkegpjbaa.Pat
open Go.RowKit Go.Lib Go.Proofs.Ytjcmljdkegpjbaa.Utf Go.Proofs.Ytjcmljdkegpjbaa.Nam Go.Proofs.Ytjcmljdkegpjbaa.Dig

set_option maxRecDepth 100000 in
set_option maxHeartbeats 1000000 in
theorem covers_self (k n : Int) (nm : ByteArray) (w : World) (R : Ending → World → Prop)
    (hR : Hid (∀ w', Below w.heap.size w w' → R (.returned (.bool true)) w')) : Calls Try.prog 27 #[.agg #[.int .i64 k, .int .i64 n, .string nm], .agg #[.int .i64 k, .int .i64 n, .string nm]] w R := by
  have nb := Lib.hid (((Below.refl w.heap.size w).alloc (Nat.le_refl _) (.cells #[.int .i64 k, .int .i64 n, .string nm] 36)).alloc (by simp) (.cells #[.int .i64 k, .int .i64 n, .string nm] 36))
  have h3 := seq_t (rfl : nm = nm)
  go_enter Try.func27, Try.ntmps27
  go_wp2_with fail
  exact hR.out _ nb.out

set_option maxRecDepth 100000 in
set_option maxHeartbeats 1000000 in
theorem equal_self (xs : List St) (v : Value) (w : World) (hx : RdP w v xs) (hl : xs.length ≤ 1000000) (R : Ending → World → Prop)
    (hR : Hid (∀ w', Below w.heap.size w w' → R (.returned (.bool true)) w')) : Calls Try.prog 26 #[v, v, .func (.func 27) #[] #[]] w R := by
  obtain ⟨A, c, rfl, hlc, hr⟩ := hx.op
  replace hr := Lib.hid hr
  clear hx
  go_enter Try.func26, Try.ntmps26
  go_wp2_with fail
  go_loopg [17] xs.length (fun k i wr => ∃ (K : Nat), Below w.heap.size w wr ∧ i = .int .i64 K ∧ K + k = xs.length)
  case atStart => exact ⟨0, Below.refl _ _, rfl, by omega⟩
  case round =>
    obtain ⟨K, hbel, rfl, c1⟩ := hrel
    have hsz := hbel.size
    by_cases hK : K < xs.length
    · obtain ⟨g, o, rfl, hg1, hca⟩ := hr.out (by omega)
      obtain ⟨a0, a1, a2⟩ := hca K hK
      have e0 := (hbel.cell (p := ⟨g, o + K * 3, none⟩) hg1).trans a0
      have e1 := (hbel.cell (p := ⟨g, o + K * 3 + 1, none⟩) hg1).trans a1
      have e2 := (hbel.cell (p := ⟨g, o + K * 3 + 2, none⟩) hg1).trans a2
      have hgw : g < wr.heap.size := by omega
      clear hca a0 a1 a2
      generalize stN xs K = x at *
      obtain ⟨k, n, nm⟩ := x
      simp only at e0 e1 e2
      have nb := Lib.hid ((hbel.alloc hsz (.cells #[.int .i64 k, .int .i64 n, .string nm] 36)).alloc (by simp; omega) (.cells #[.int .i64 k, .int .i64 n, .string nm] 36))
      go_wp2_with fail
      refine covers_self k n nm _ _ (Lib.hid fun w1 n1 => ?_)
      have n2 := Lib.hid (nb.out.trans (n1.mono nb.out.size))
      clear n1
      go_wp2_with fail
      go_roundg (gk - 1)
      case measure => omega
      case rel => exact ⟨K + 1, n2.out, by go_num, by omega⟩
    · go_wp2_with fail
      exact hR.out _ hbel

theorem match_self (xs : List St) (v : Value) (w : World) (hx : RdP w v xs) (hl : xs.length ≤ 1000000) (R : Ending → World → Prop)
    (hR : Hid (∀ w', Below w.heap.size w w' → R (.returned (.bool true)) w')) : Calls Try.prog 13 #[v, v] w R := by
  have hx' := Lib.hid hx
  obtain ⟨A, c, rfl, hlc, hr⟩ := hx.op
  clear hx hr
  go_enter Try.func13, Try.ntmps13
  go_wp2_with fail
  refine equal_self xs _ _ hx'.out hl _ (Lib.hid fun w1 n1 => ?_)
  go_wp2_with fail
  exact hR.out _ n1

theorem less_self : ∀ l : List UInt8, Op.bytesLess l l = false
  | [] => rfl
  | x :: l => by simp [Op.bytesLess, less_self l]
theorem cmpint_same (a : Int) (w : World) (R : Ending → World → Prop) (hR : Hid (R (.returned (.int .i64 0)) w)) : Calls Try.prog 39 #[.int .i64 a, .int .i64 a] w R := by
  go_enter Try.func39, Try.ntmps39
  go_wp2
  exact hR.out
theorem cmpstr_same (a : ByteArray) (w : World) (R : Ending → World → Prop) (hR : Hid (R (.returned (.int .i64 0)) w)) : Calls Try.prog 40 #[.string a, .string a] w R := by
  have h3 := sne_f (rfl : a = a)
  have h4 := less_self a.toList
  go_enter Try.func40, Try.ntmps40
  go_wp2
  exact hR.out
theorem or3_calls (b : Nat) (w : World) (h0 : w.cell? ⟨b, 0, none⟩ = some (.int .i64 0)) (h1 : w.cell? ⟨b, 1, none⟩ = some (.int .i64 0)) (h2 : w.cell? ⟨b, 2, none⟩ = some (.int .i64 0)) (R : Ending → World → Prop)
    (hR : Hid (R (.returned (.int .i64 0)) w)) : Calls Try.prog 38 #[.slice (some ⟨b, 0, none⟩) 3 3] w R := by
  go_enter Try.func38, Try.ntmps38
  go_wp2_with fail
  go_loopg [8] 3 (fun k i wr => ∃ (K : Nat), wr = w ∧ i = .int .i64 K ∧ K + k = 3)
  case atStart => exact ⟨0, rfl, rfl, rfl⟩
  case round =>
    obtain ⟨K, rfl, rfl, c1⟩ := hrel
    obtain rfl | rfl | rfl | rfl : K = 0 ∨ K = 1 ∨ K = 2 ∨ K = 3 := by omega
    · go_wp2_with fail
      go_roundg 2
      case measure => omega
      case rel => exact ⟨1, rfl, rfl, rfl⟩
    · go_wp2_with fail
      go_roundg 1
      case measure => omega
      case rel => exact ⟨2, rfl, rfl, rfl⟩
    · go_wp2_with fail
      go_roundg 0
      case measure => omega
      case rel => exact ⟨3, rfl, rfl, rfl⟩
    · go_wp2_with fail
      exact hR.out

theorem alloc_c2 {W : World} {o : Obj} {g x : Nat} {u : Value} (hc : W.cell? ⟨g, x, none⟩ = some u) : (W.alloc o).cell? ⟨g, x, none⟩ = some u :=
  (((Below.refl W.heap.size W).alloc (Nat.le_refl _) o).cell (p := ⟨g, x, none⟩) (World.block_lt_of_cell? W (a := ⟨g, x, none⟩) hc)).trans hc
theorem box3 (w : World) (k n : Int) (nm : ByteArray) : (w.alloc (.cells #[.int .i64 k, .int .i64 n, .string nm] 36)).cell? ⟨w.heap.size, 0, none⟩ = some (.int .i64 k) ∧
    (w.alloc (.cells #[.int .i64 k, .int .i64 n, .string nm] 36)).cell? ⟨w.heap.size, 1, none⟩ = some (.int .i64 n) ∧ (w.alloc (.cells #[.int .i64 k, .int .i64 n, .string nm] 36)).cell? ⟨w.heap.size, 2, none⟩ = some (.string nm) :=
  ⟨by rw [World.cell?_alloc_new]; rfl, by rw [World.cell?_alloc_new]; rfl, by rw [World.cell?_alloc_new]; rfl⟩
theorem below_drew2 {H : Nat} {w W : World} (h : Below H w W) : Below H w W.drew := h.drew

set_option maxRecDepth 100000 in
set_option maxHeartbeats 2000000 in
theorem cmpsteps_self (k n : Int) (nm : ByteArray) (w : World) (R : Ending → World → Prop)
    (hR : Hid (∀ w', Below w.heap.size w w' → R (.returned (.int .i64 0)) w')) : Calls Try.prog 29 #[.agg #[.int .i64 k, .int .i64 n, .string nm], .agg #[.int .i64 k, .int .i64 n, .string nm]] w R := by
  have b1 := (Below.refl w.heap.size w).alloc (Nat.le_refl _) (.cells #[.int .i64 k, .int .i64 n, .string nm] 36)
  have nb := b1.alloc b1.size (.cells #[.int .i64 k, .int .i64 n, .string nm] 36)
  obtain ⟨c0, c1, c2⟩ := box3 w k n nm
  obtain ⟨d0, d1, d2⟩ := box3 (w.alloc (.cells #[.int .i64 k, .int .i64 n, .string nm] 36)) k n nm
  have c0' := alloc_c2 (o := .cells #[.int .i64 k, .int .i64 n, .string nm] 36) c0
  have c1' := alloc_c2 (o := .cells #[.int .i64 k, .int .i64 n, .string nm] 36) c1
  have c2' := alloc_c2 (o := .cells #[.int .i64 k, .int .i64 n, .string nm] 36) c2
  have hz : (w.alloc (.cells #[.int .i64 k, .int .i64 n, .string nm] 36)).heap.size = w.heap.size + 1 := by simp
  rw [hz] at d0 d1 d2
  have hz2 : w.heap.size + 1 < ((w.alloc (.cells #[.int .i64 k, .int .i64 n, .string nm] 36)).alloc (.cells #[.int .i64 k, .int .i64 n, .string nm] 36)).heap.size := by simp
  clear c0 c1 c2 hz b1
  replace nb := Lib.hid nb
  go_enter Try.func29, Try.ntmps29
  go_wp2_with fail
  generalize (w.alloc (.cells #[.int .i64 k, .int .i64 n, .string nm] 36)).alloc (.cells #[.int .i64 k, .int .i64 n, .string nm] 36) = W at *
  have hz3 : w.heap.size < W.heap.size := by omega
  generalize w.heap.size = H at *
  go_region_held3 (fun w' => w'.cell? ⟨H, 0, none⟩ = some (.int .i64 k) ∧ w'.cell? ⟨H, 1, none⟩ = some (.int .i64 n) ∧ w'.cell? ⟨H, 2, none⟩ = some (.string nm) ∧ w'.cell? ⟨H + 1, 0, none⟩ = some (.int .i64 k) ∧ w'.cell? ⟨H + 1, 1, none⟩ = some (.int .i64 n) ∧ w'.cell? ⟨H + 1, 2, none⟩ = some (.string nm))
    (first | exact ⟨c0', c1', c2', d0, d1, d2⟩ | exact ⟨alloc_keep hz3 c0', alloc_keep hz3 c1', alloc_keep hz3 c2', alloc_keep hz2 d0, alloc_keep hz2 d1, alloc_keep hz2 d2⟩ | trace_state)
    (first
      | (go_at_call 39; refine cmpint_same _ _ _ (Lib.hid ?_))
      | (go_at_call 40; refine cmpstr_same _ _ _ (Lib.hid ?_))
      | (go_at_call 38; refine or3_calls _ _ (by exact (cell_of_row _ _ 0 _ _ (0, 0) (heap_alloc_last _ _)).trans rfl) (by exact (cell_of_row _ _ 1 _ _ (0, 0) (heap_alloc_last _ _)).trans rfl) (by exact (cell_of_row _ _ 2 _ _ (0, 0) (heap_alloc_last _ _)).trans rfl) _ (Lib.hid ?_)))
  all_goals
    go_wp2_with fail
    exact hR.out _ (nb.out.alloc (Nat.le_of_lt hz3) _).drew

set_option maxRecDepth 100000 in
set_option maxHeartbeats 2000000 in
theorem begins_steps (a b : List St) (va vb : Value) (w : World) (ha : RdP w va a) (hb : RdP w vb b) (hla : a.length ≤ 1000000) (hlb : b.length ≤ 1000000) (R : Ending → World → Prop)
    (hR : Hid (∀ w', Below w.heap.size w w' → R (.returned (.bool (decide (begS a b)))) w')) : Calls Try.prog 15 #[va, vb] w R := by
  obtain ⟨A, c, rfl, hlc, hca⟩ := ha.op
  obtain ⟨B, d, rfl, hld, hcb⟩ := hb.op
  replace hca := Lib.hid hca
  replace hcb := Lib.hid hcb
  clear ha hb
  by_cases hlen : b.length ≤ a.length
  · go_enter Try.func15, Try.ntmps15
    go_wp2_with fail
    go_loopg [14] b.length (fun k i wr => ∃ (K : Nat), Below w.heap.size w wr ∧ i = .int .i64 K ∧ K + k = b.length ∧ Hid (b.take K = a.take K))
    case atStart => exact ⟨0, Below.refl _ _, rfl, by omega, Lib.hid (by simp)⟩
    case round =>
      obtain ⟨K, hbel, rfl, c1, c2⟩ := hrel
      have hsz := hbel.size
      by_cases hK : K < b.length
      · have hKa : K < a.length := by omega
        obtain ⟨g, o, rfl, hg, ha⟩ := hca.out (by omega)
        obtain ⟨g', o', rfl, hg', hb⟩ := hcb.out (by omega)
        obtain ⟨a0, a1, a2⟩ := ha K hKa
        obtain ⟨b0, b1, b2⟩ := hb K hK
        have st : stN a K = stN b K → b.take (K + 1) = a.take (K + 1) := fun h => by rw [take_succP' b K hK, take_succP' a K hKa, c2.out, h]
        have dn : stN a K ≠ stN b K → decide (begS a b) = false := fun h => decide_eq_false fun q => h (beg_at q hK)
        have hi0 : (0 : Int) ≤ (K : Int) := by omega
        have hi1 : (K : Int) < (a.length : Int) := by omega
        have hi2 : (K : Int) < (b.length : Int) := by omega
        replace a0 := (hbel.cell (p := ⟨g, o + K * 3, none⟩) hg).trans a0
        replace a1 := (hbel.cell (p := ⟨g, o + K * 3 + 1, none⟩) hg).trans a1
        replace a2 := (hbel.cell (p := ⟨g, o + K * 3 + 2, none⟩) hg).trans a2
        replace b0 := (hbel.cell (p := ⟨g', o' + K * 3, none⟩) hg').trans b0
        replace b1 := (hbel.cell (p := ⟨g', o' + K * 3 + 1, none⟩) hg').trans b1
        replace b2 := (hbel.cell (p := ⟨g', o' + K * 3 + 2, none⟩) hg').trans b2
        clear ha hb c2
        generalize stN a K = X at *
        generalize stN b K = Y at *
        obtain ⟨X0, X1, X2⟩ := X
        obtain ⟨Y0, Y1, Y2⟩ := Y
        simp only at a0 a1 a2 b0 b1 b2
        have nb := Lib.hid (hbel.alloc hsz (.cells #[.int .i64 Y0, .int .i64 Y1, .string Y2] 36))
        have A0 := alloc_c2 (o := .cells #[.int .i64 Y0, .int .i64 Y1, .string Y2] 36) a0
        have A1 := alloc_c2 (o := .cells #[.int .i64 Y0, .int .i64 Y1, .string Y2] 36) a1
        have A2 := alloc_c2 (o := .cells #[.int .i64 Y0, .int .i64 Y1, .string Y2] 36) a2
        obtain ⟨B0, B1, B2⟩ := box3 wr Y0 Y1 Y2
        go_wp2_with fail
        clear a0 a1 a2 b0 b1 b2
        generalize wr.alloc (.cells #[.int .i64 Y0, .int .i64 Y1, .string Y2] 36) = W at *
        by_cases e0 : X0 = Y0
        · subst e0
          by_cases e1 : X1 = Y1
          · subst e1
            by_cases e2 : X2 = Y2
            · have q := Lib.hid (st (by rw [e2]))
              have h3 := seq_t e2
              clear st dn e2
              go_quiet (fail)
              go_wp2_with fail
              go_roundg (gk - 1)
              case measure => omega
              case rel => exact ⟨K + 1, below_drewN nb.out _, by go_num, by omega, q⟩
            · rw [dn (fun h => e2 (by simpa using h))] at hR
              have h3 := seq_f e2
              clear st dn e2
              go_quiet (fail)
              go_wp2_with fail
              exact hR.out _ (below_drewN nb.out _)
          · rw [dn (fun h => e1 (by simp at h; exact h.1))] at hR
            clear st dn
            go_quiet (fail)
            go_wp2_with fail
            exact hR.out _ (below_drewN nb.out _)
        · rw [dn (fun h => e0 (by simp at h; exact h.1))] at hR
          clear st dn
          go_quiet (fail)
          go_wp2_with fail
          exact hR.out _ (below_drewN nb.out _)
      · have e : decide (begS a b) = true := decide_eq_true (by
          have h := c2.out
          rw [List.take_of_length_le (by omega)] at h
          unfold begS
          rw [show b.length = K by omega]
          exact h)
        rw [e] at hR
        clear c2
        go_wp2_with fail
        exact hR.out _ hbel
  · rw [decide_eq_false (fun h => by have := beg_len h; omega)] at hR
    go_enter Try.func15, Try.ntmps15
    go_wp2_with fail
    exact hR.out _ (Below.refl _ _)

set_option maxRecDepth 100000 in
set_option maxHeartbeats 2000000 in
theorem cmpfunc_same (xs : List St) (va vb : Value) (w : World) (ha : RdP w va xs) (hb : RdP w vb xs) (hl : xs.length ≤ 1000000) (R : Ending → World → Prop)
    (hR : Hid (∀ w', Below w.heap.size w w' → R (.returned (.int .i64 0)) w')) : Calls Try.prog 28 #[va, vb, .func (.func 29) #[] #[]] w R := by
  obtain ⟨A, c, rfl, hlc, hca⟩ := ha.op
  obtain ⟨B, d, rfl, hld, hcb⟩ := hb.op
  replace hca := Lib.hid hca
  replace hcb := Lib.hid hcb
  clear ha hb
  go_enter Try.func28, Try.ntmps28
  go_wp2_with fail
  go_loopg [13] xs.length (fun k i wr => ∃ (K : Nat), Below w.heap.size w wr ∧ i = .int .i64 K ∧ K + k = xs.length)
  case atStart => exact ⟨0, Below.refl _ _, rfl, by omega⟩
  case round =>
    obtain ⟨K, hbel, rfl, c1⟩ := hrel
    have hsz := hbel.size
    by_cases hK : K < xs.length
    · obtain ⟨g, o, rfl, hg1, ha⟩ := hca.out (by omega)
      obtain ⟨g', o', rfl, hg1', hb⟩ := hcb.out (by omega)
      obtain ⟨a0, a1, a2⟩ := ha K hK
      obtain ⟨b0, b1, b2⟩ := hb K hK
      replace a0 := (hbel.cell (p := ⟨g, o + K * 3, none⟩) hg1).trans a0
      replace a1 := (hbel.cell (p := ⟨g, o + K * 3 + 1, none⟩) hg1).trans a1
      replace a2 := (hbel.cell (p := ⟨g, o + K * 3 + 2, none⟩) hg1).trans a2
      replace b0 := (hbel.cell (p := ⟨g', o' + K * 3, none⟩) hg1').trans b0
      replace b1 := (hbel.cell (p := ⟨g', o' + K * 3 + 1, none⟩) hg1').trans b1
      replace b2 := (hbel.cell (p := ⟨g', o' + K * 3 + 2, none⟩) hg1').trans b2
      have hgw : g < wr.heap.size := by omega
      have hgw' : g' < wr.heap.size := by omega
      clear ha hb
      generalize stN xs K = x at *
      obtain ⟨k, n, nm⟩ := x
      simp only at a0 a1 a2 b0 b1 b2
      have nb := Lib.hid ((hbel.alloc hsz (.cells #[.int .i64 k, .int .i64 n, .string nm] 36)).alloc (by simp; omega) (.cells #[.int .i64 k, .int .i64 n, .string nm] 36))
      go_wp2_with fail
      refine cmpsteps_self k n nm _ _ (Lib.hid fun w1 n1 => ?_)
      have n2 := Lib.hid (nb.out.trans (n1.mono nb.out.size))
      clear n1
      go_wp2_with fail
      go_roundg (gk - 1)
      case measure => omega
      case rel => exact ⟨K + 1, n2.out, by go_num, by omega⟩
    · go_wp2_with fail
      exact hR.out _ hbel
theorem compare_same (xs : List St) (va vb : Value) (w : World) (ha : RdP w va xs) (hb : RdP w vb xs) (hl : xs.length ≤ 1000000) (R : Ending → World → Prop)
    (hR : Hid (∀ w', Below w.heap.size w w' → R (.returned (.int .i64 0)) w')) : Calls Try.prog 14 #[va, vb] w R := by
  have ha' := Lib.hid ha
  have hb' := Lib.hid hb
  obtain ⟨A, c, rfl, hlc, -⟩ := ha.op
  obtain ⟨B, d, rfl, hld, -⟩ := hb.op
  clear ha hb
  go_enter Try.func14, Try.ntmps14
  go_wp2_with fail
  refine cmpfunc_same xs _ _ _ ha'.out hb'.out hl _ (Lib.hid fun w1 n1 => ?_)
  go_wp2_with fail
  exact hR.out _ n1
end Go.Proofs.Ytjcmljdkegpjbaa.Pat
