import Derived.Test.YtncijmodlhijoaaGreatQ32
set_option linter.unusedVariables false
set_option maxRecDepth 100000
set_option maxHeartbeats 4000000
namespace Go.Proofs.YtncijmodlhijoaaGreat.Lat
open Go.RowKit Go.Lib Rel Nam
theorem OwnL.lt {w : World} {base B : Nat} {v1 v2 : Value} {h : Nat → Int} (ow : OwnL w base B v1 v2 h) : B < w.heap.size := by
  obtain ⟨g, c, e, -, hg, -⟩ := own_at ow (by omega)
  simp only [Value.slice.injEq, Option.some.injEq, Addr.mk.injEq] at e
  rw [e.1.1]; exact hg
theorem join_lt {n : Nat} {F : Nat → Nat → Bool} {a b : Nat} (h : 0 ≤ joinS n F a b) : ∃ k : Nat, k < n ∧ joinS n F a b = k := by
  rcases join_cases n F a b with ⟨q, -⟩ | ⟨m, h1, -, h3⟩
  · omega
  · exact ⟨m, h1, h3⟩
theorem noB_is {n : Nat} {F : Nat → Nat → Bool} {a b : Nat} : noB n F a b = (decide (joinS n F a b < 0) || decide (joinS n (flp F) a b < 0)) := by
  unfold noB
  rw [join_comm n F a b, join_comm n (flp F) a b]
theorem idx32_quiet (n : Nat) (f : Nat → Nat) (g c : Nat) (y : Nat) (V : Int) (hV : idxN f n y = V) (w : World) (hn : n ≤ 32) (hca : ∀ i, i < n → w.cell? ⟨g, i, none⟩ = some (.int .u32 (f i : Nat))) (m : Nat) :
    Calls Tryz.prog 190 #[.slice (some ⟨g, 0, none⟩) n c, .int .u32 (y : Nat)] (w.drewN m) fun e w' => e = .returned (.int .i64 V) ∧ w' = w.drewN m :=
  idx32_calls n f g c y (w.drewN m) hn hca _ (Lib.hid ⟨by rw [hV], rfl⟩)
theorem latfill_calls (n : Nat) (Q : List (Nat × Nat)) (hQ : InR n Q) (h0 : 0 < n) (hn : n ≤ 32) (F : Nat → Nat → Bool) (hF : ∀ a b : Nat, a < n → b < n → hasQ Q (a : Nat) (b : Nat) = F a b) (hO : Ordr n F) (base B : Nat) (v1 v2 : Value) (v : Value) (w : World) (h : RelP w v n Q) (ow : OwnL w base B v1 v2 (fun _ => 0)) (R : Ending → World → Prop)
    (hR : Hid (∀ w' h, OwnL w' base B v1 v2 h → FilM 0 (joinS n F) n 0 h → FilM 1024 (joinS n (flp F)) n 0 h → (∀ b, b < n → bnB n F b = false) → Below B w w' → R (.returned (.tuple #[.int .i64 0, .bool true])) w'))
    (hR2 : Hid (∀ (a : Nat) w', a < n → bnB n F a = true → (∀ b, b < a → bnB n F b = false) → Below B w w' → R (.returned (.tuple #[.int .i64 (a : Nat), .bool false])) w')) : Calls Tryz.prog 111 #[.pointer (some ⟨B, 0, none⟩), v] w R := by
  have cB := Lib.hid fun R hR => latbounds_calls n Q hQ h0 hn F hF v w h R hR
  have cL := Lib.hid fun (W : World) (hb : Below w.heap.size w W) R hR => rellenx_calls n Q v W (h.below hb) R hR
  obtain ⟨pr, rfl⟩ := h.ptr
  have hB := ow.lt
  replace ow := Lib.hid ow
  replace hO := Lib.hid hO
  clear h hF hQ
  go_enter Tryz.func111, Tryz.ntmps111
  go_wp2_with fail
  refine cB.out _ (Lib.hid fun g1 g2 f1 f2 w1 d1 d2 l1 l2 o1 o2 n1 => ?_)
  have cL1 := Lib.hid fun R hR => cL.out w1 n1 R hR
  have k1 := Lib.hid fun i (hi : i < n) => o1.cell hi
  have k2 := Lib.hid fun i (hi : i < n) => o2.cell hi
  have t1 := o1.lt h0
  have t2 := o2.lt h0
  have ow1 := Lib.hid (own_below ow.out n1)
  have nb1 := Lib.hid (n1.mono (Nat.le_of_lt hB))
  have hd1 := Lib.hid fun a b (ha : a < n) (hb : b < n) => idx_join d1 hO.out ha hb
  have hd2 := Lib.hid fun a b (ha : a < n) (hb : b < n) => idx_join d2 hO.out.flip ha hb
  have hw1 := Lib.hid fun a (ha : a < n) => (d1 a ha).1
  have hw2 := Lib.hid fun a (ha : a < n) => (d2 a ha).1
  have hself := Lib.hid fun a (ha : a < n) => join_self hO.out ha
  have hself2 := Lib.hid fun a (ha : a < n) => join_self hO.out.flip ha
  have x1 : g1 ≠ B := by omega
  have x2 : g2 ≠ B := by omega
  clear o1 o2 d1 d2 n1 ow cB cL hO
  go_wp2_with fail
  refine cL1.out _ (Lib.hid ?_)
  clear cL1
  go_wp2_with fail
  go_loopg [19] n (fun g i wr => ∃ (K : Nat) (h : Nat → Int), i = .int .i64 K ∧ K + g = n ∧ Hid (Below B w wr) ∧ Hid (OwnL wr base B v1 v2 h) ∧ Hid (∀ i, i < n → wr.cell? ⟨g1, i, none⟩ = some (.int .u32 (f1 i : Nat))) ∧ Hid (∀ i, i < n → wr.cell? ⟨g2, i, none⟩ = some (.int .u32 (f2 i : Nat))) ∧ g1 < wr.heap.size ∧ g2 < wr.heap.size ∧
    Hid (FilM 0 (joinS n F) K 0 h) ∧ Hid (FilM 1024 (joinS n (flp F)) K 0 h) ∧ Hid (∀ b, b < K → bnB n F b = false))
  case atStart => exact ⟨0, _, rfl, by omega, nb1, ow1, k1, k2, t1, t2, Lib.hid FilM.nil, Lib.hid FilM.nil, Lib.hid fun b h => by omega⟩
  case round =>
    clear nb1 ow1 k1 k2 t1 t2
    obtain ⟨K, h, rfl, c1, nb, ow, k1, k2, t1, t2, m1, m2, hb⟩ := hrel
    by_cases hK : K < n
    · obtain ⟨kO, rfl⟩ : ∃ k, gk = k + 1 := ⟨gk - 1, by omega⟩
      go_wp2_with fail
      go_loopg [24] (K + 1) (fun g i wr => ∃ (L : Nat) (h : Nat → Int), i = .int .i64 L ∧ L + g = K + 1 ∧ Hid (Below B w wr) ∧ Hid (OwnL wr base B v1 v2 h) ∧ Hid (∀ i, i < n → wr.cell? ⟨g1, i, none⟩ = some (.int .u32 (f1 i : Nat))) ∧ Hid (∀ i, i < n → wr.cell? ⟨g2, i, none⟩ = some (.int .u32 (f2 i : Nat))) ∧ g1 < wr.heap.size ∧ g2 < wr.heap.size ∧
        Hid (FilM 0 (joinS n F) K L h) ∧ Hid (FilM 1024 (joinS n (flp F)) K L h) ∧ Hid (∀ b, b < L → noB n F K b = false))
      case atStart => exact ⟨0, h, rfl, by omega, nb, ow, k1, k2, t1, t2, m1, m2, Lib.hid fun b h => by omega⟩
      case round =>
        clear nb ow k1 k2 t1 t2 m1 m2 h
        obtain ⟨L, h, rfl, d1, nb, ow, k1, k2, t1, t2, m1, m2, hl⟩ := hrel
        by_cases hL : L < K + 1
        · have hLn : L < n := by omega
          have e0 := k1.out K hK
          have e1 := k1.out L hLn
          have eA := bits_and32 (hw1.out K hK) (hw1.out L hLn)
          have eV := hd1.out K L hK hLn
          obtain ⟨y, hy⟩ : ∃ y, f1 K &&& f1 L = y := ⟨_, rfl⟩
          rw [hy] at eA eV
          have cX := Lib.hid fun m => idx32_quiet n f1 g1 n y _ eV wr hn k1.out m
          have ik0 : (0 : Int) ≤ (K : Int) := by omega
          have ik1 : (K : Int) < (n : Int) := by omega
          have il0 : (0 : Int) ≤ (L : Int) := by omega
          have il1 : (L : Int) < (n : Int) := by omega
          replace hy := Lib.hid hy
          replace eV := Lib.hid eV
          generalize f1 K = y1 at *
          generalize f1 L = y2 at *
          go_wp2_with fail
          go_quiet (with_reducible exact Calls.quiet_of_same (cX.out _))
          have bm := below_drewN (Below.refl wr.heap.size wr) nq
          have nb3 := Lib.hid (below_drewN nb.out nq)
          have ow3 := Lib.hid (own_below ow.out bm)
          have k3 := Lib.hid fun i (hi : i < n) => (bm.cell (p := ⟨g1, i, none⟩) t1).trans (k1.out i hi)
          have k4 := Lib.hid fun i (hi : i < n) => (bm.cell (p := ⟨g2, i, none⟩) t2).trans (k2.out i hi)
          have t3 := Nat.lt_of_lt_of_le t1 bm.size
          have t4 := Nat.lt_of_lt_of_le t2 bm.size
          clear bm nb ow k1 k2 t1 t2 cX eA eV hy e0 e1
          generalize wr.drewN nq = W1 at *
          have e0 := k4.out K hK
          have e1 := k4.out L hLn
          have eA := bits_and32 (hw2.out K hK) (hw2.out L hLn)
          have eV := hd2.out K L hK hLn
          obtain ⟨z, hz⟩ : ∃ z, f2 K &&& f2 L = z := ⟨_, rfl⟩
          rw [hz] at eA eV
          have cX := Lib.hid fun m => idx32_quiet n f2 g2 n z _ eV W1 hn k4.out m
          replace hz := Lib.hid hz
          replace eV := Lib.hid eV
          generalize f2 K = z1 at *
          generalize f2 L = z2 at *
          go_wp2_with fail
          go_quiet (with_reducible exact Calls.quiet_of_same (cX.out _))
          have bm := below_drewN (Below.refl W1.heap.size W1) nq
          have nb := Lib.hid (below_drewN nb3.out nq)
          have ow := own_below ow3.out bm
          have k1 := fun i (hi : i < n) => (bm.cell (p := ⟨g1, i, none⟩) t3).trans (k3.out i hi)
          have k2 := fun i (hi : i < n) => (bm.cell (p := ⟨g2, i, none⟩) t4).trans (k4.out i hi)
          have t1 := Nat.lt_of_lt_of_le t3 bm.size
          have t2 := Nat.lt_of_lt_of_le t4 bm.size
          clear bm nb3 ow3 k3 k4 t3 t4 cX eA eV hz e0 e1
          generalize W1.drewN nq = W2 at *
          have hno : noB n F K L = (decide (joinS n F K L < 0) || decide (joinS n (flp F) K L < 0)) := noB_is
          have hs1 : L = K → 0 ≤ joinS n F K L ∧ 0 ≤ joinS n (flp F) K L := fun e => by
            subst e
            rw [hself.out L hK, hself2.out L hK]
            omega
          have hbad : noB n F K L = true → L ≠ K → R (.returned (.tuple #[.int .i64 (K : Nat), .bool false])) W2 := fun q1 q2 =>
            hR2.out K W2 hK (List.any_eq_true.2 ⟨L, List.mem_range.2 (by omega), q1⟩) hb.out nb.out
          by_cases j0 : joinS n F K L < 0
          · have fin := Lib.hid (hbad (by rw [hno, decide_eq_true j0]; rfl) (fun e => by have := (hs1 e).1; omega))
            clear hno hs1 hbad ow k1 k2
            generalize joinS n F K L = j at *
            generalize joinS n (flp F) K L = m at *
            go_wp2_with fail
            exact fin.out
          · by_cases j1 : joinS n (flp F) K L < 0
            · have fin := Lib.hid (hbad (by rw [hno, decide_eq_true j1, Bool.or_true]) (fun e => by have := (hs1 e).2; omega))
              clear hno hs1 hbad ow k1 k2
              generalize joinS n F K L = j at *
              generalize joinS n (flp F) K L = m at *
              go_wp2_with fail
              exact fin.out
            · have hlN : ∀ b, b < L + 1 → noB n F K b = false := fun b hb => by
                rcases Nat.eq_or_lt_of_le (Nat.le_of_lt_succ hb) with e | q
                · subst e; rw [hno, decide_eq_false j0, decide_eq_false j1]; rfl
                · exact hl.out b q
              obtain ⟨j, jl, ej⟩ := join_lt (Int.not_lt.1 j0)
              obtain ⟨m, ml, em⟩ := join_lt (Int.not_lt.1 j1)
              have p1 := m1.out.put (join_comm n F) (show K < 32 by omega) (show L ≤ K by omega)
              have p2 := m2.out.far (q := 0) (y := joinS n F K L) (show K < 32 by omega) (show L < 32 by omega) (by omega)
              have p3 := p2.put (join_comm n (flp F)) (show K < 32 by omega) (show L ≤ K by omega)
              have p4 := p1.far (q := 1024) (y := joinS n (flp F) K L) (show K < 32 by omega) (show L < 32 by omega) (by omega)
              rw [ej, em] at p3 p4
              rw [ej, em]
              have cS := fun R hR => latset_calls base B v1 v2 h W2 ow 0 2 rfl (.inl rfl) K L j (by omega) (by omega) (by omega) R hR
              have cS2 := Lib.hid fun (W : World) ow R hR => latset_calls base B v1 v2 (setZ h 0 K L j) W ow 1024 1026 rfl (.inr rfl) K L m (by omega) (by omega) (by omega) R hR
              replace p3 := Lib.hid p3
              replace p4 := Lib.hid p4
              replace cS := Lib.hid cS
              replace hlN := Lib.hid hlN
              replace k1 := Lib.hid k1
              replace k2 := Lib.hid k2
              clear p1 p2 ej em hno hs1 hbad ow hl m1 m2 j0 j1
              go_wp2_with fail
              refine cS.out _ (Lib.hid fun W3 o3 g3 => ?_)
              have y1' := Lib.hid fun i (hi : i < n) => grown_cell g3 t1 x1 (k1.out i hi)
              have y2' := Lib.hid fun i (hi : i < n) => grown_cell g3 t2 x2 (k2.out i hi)
              have nb4 := Lib.hid (nb.out.trans (below_of_grown g3 (Nat.le_refl _) (Nat.le_trans (Nat.le_of_lt hB) nb.out.size)))
              have t3 := Nat.lt_of_lt_of_le t1 g3.size
              have t4 := Nat.lt_of_lt_of_le t2 g3.size
              replace o3 := Lib.hid o3
              clear cS k1 k2 nb t1 t2 g3
              go_wp2_with fail
              refine cS2.out _ o3.out _ (Lib.hid fun W4 o4 g4 => ?_)
              have k1 := Lib.hid fun i (hi : i < n) => grown_cell g4 t3 x1 (y1'.out i hi)
              have k2 := Lib.hid fun i (hi : i < n) => grown_cell g4 t4 x2 (y2'.out i hi)
              have nb := Lib.hid (nb4.out.trans (below_of_grown g4 (Nat.le_refl _) (Nat.le_trans (Nat.le_of_lt hB) nb4.out.size)))
              have t1 := Nat.lt_of_lt_of_le t3 g4.size
              have t2 := Nat.lt_of_lt_of_le t4 g4.size
              replace o4 := Lib.hid o4
              clear cS2 y1' y2' nb4 t3 t4 g4 o3
              go_wp2_with fail
              go_roundg (gk - 1)
              case measure => omega
              case rel => exact ⟨L + 1, _, by go_num, by omega, nb, o4, k1, k2, t1, t2, p4, p3, hlN⟩
        · obtain rfl : L = K + 1 := by omega
          go_wp2_with fail
          go_roundg kO
          case measure => omega
          case rel => exact ⟨K + 1, h, by go_num, by omega, nb, ow, k1, k2, t1, t2, Lib.hid m1.out.next, Lib.hid m2.out.next, Lib.hid fun b q => by
            rcases Nat.eq_or_lt_of_le (Nat.le_of_lt_succ q) with e | q
            · subst e
              cases e : bnB n F b
              · rfl
              · obtain ⟨x, hx, hx2⟩ := List.any_eq_true.1 e
                rw [hl.out x (by have := List.mem_range.1 hx; omega)] at hx2
                cases hx2
            · exact hb.out b q⟩
    · obtain rfl : K = n := by omega
      have fin := Lib.hid (hR.out _ h ow.out m1.out m2.out hb.out nb.out)
      clear nb ow k1 k2 m1 m2
      go_wp2_with fail
      exact fin.out
end Go.Proofs.YtncijmodlhijoaaGreat.Lat
