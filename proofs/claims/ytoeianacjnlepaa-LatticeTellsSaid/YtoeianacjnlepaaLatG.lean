/- LatticeUndoes: the law's walk. -/
import Derived.Test.YtoeianacjnlepaaLatF
set_option maxRecDepth 100000
set_option linter.unusedVariables false
namespace Go.Proofs.Ytoeianacjnlepaa.Lat
open Go.RowKit Go.Lib Go.Proofs.Ytoeianacjnlepaa.Rel Go.Proofs.Ytoeianacjnlepaa.Nam

section
variable {nm : List ByteArray} {F : Nat → Nat → Bool} {v : Value} {w : World}
theorem jn_calls (h : LatP w v nm F) (a b : Nat) (ha : a < nm.length) (hb : b < nm.length) (c : Nat) (hc : jn nm.length F a b = c) (R : Ending → World → Prop) (hR : Hid (∀ w', Below w.heap.size w w' → R (.returned (.int .i64 (c : Nat))) w')) : Calls Try.prog 18 #[v, .int .i64 a, .int .i64 b] w R := by
  obtain ⟨hL, h32⟩ := h.latt
  refine latjoin_calls nm F v w h R a b (by omega) (by omega) (Lib.hid fun w' hb' => ?_)
  rw [if_pos (by omega), Int.toNat_natCast, Int.toNat_natCast, hL.jn_eq ha hb, hc]
  exact hR.out w' hb'
theorem mt_calls (h : LatP w v nm F) (a b : Nat) (ha : a < nm.length) (hb : b < nm.length) (c : Nat) (hc : jn nm.length (flp F) a b = c) (R : Ending → World → Prop) (hR : Hid (∀ w', Below w.heap.size w w' → R (.returned (.int .i64 (c : Nat))) w')) : Calls Try.prog 20 #[v, .int .i64 a, .int .i64 b] w R := by
  obtain ⟨hL, h32⟩ := h.latt
  refine latmeet_calls nm F v w h R a b (by omega) (by omega) (Lib.hid fun w' hb' => ?_)
  rw [if_pos (by omega), Int.toNat_natCast, Int.toNat_natCast, hL.flip.jn_eq ha hb, hc]
  exact hR.out w' hb'
theorem lq_calls (h : LatP w v nm F) (a b : Nat) (ha : a < nm.length) (hb : b < nm.length) (B : Bool) (hB : F a b = B) (R : Ending → World → Prop) (hR : Hid (∀ w', Below w.heap.size w w' → R (.returned (.bool B)) w')) : Calls Try.prog 17 #[v, .int .i64 a, .int .i64 b] w R := by
  obtain ⟨hL, h32⟩ := h.latt
  refine latleq_calls nm F v w h R a b (by omega) (by omega) (Lib.hid fun w' hb' => ?_)
  rw [decide_eq_true (by omega), Bool.true_and, Int.toNat_natCast, Int.toNat_natCast, hB]
  exact hR.out w' hb'
end
theorem tmod_nat (u n : Nat) : Int.tmod (u : Int) (n : Int) = ((u % n : Nat) : Int) := by rw [Int.tmod_eq_emod_of_nonneg (by omega)]; exact (Int.natCast_emod u n).symm
/-- What the law asks of three levels. -/
theorem undo_facts {n : Nat} {F : Nat → Nat → Bool} (h : Latt n F) {a b c : Nat} (ha : a < n) (hb : b < n) (hc : c < n) :
    ∃ J M X Y X' Y' : Nat, J < n ∧ M < n ∧ Y < n ∧ Y' < n ∧ jn n F a b = J ∧ jn n (flp F) a b = M ∧ jn n F b a = J ∧ jn n (flp F) b a = M ∧ jn n F a M = a ∧ jn n (flp F) a J = a ∧ jn n F J c = X ∧ jn n F b c = Y ∧ jn n F a Y = X ∧
      jn n (flp F) M c = X' ∧ jn n (flp F) b c = Y' ∧ jn n (flp F) a Y' = X' ∧ F a b = decide (J = b) ∧ F a b = decide (M = a) ∧ F J c = (F a c && F b c) ∧ F c M = (F c a && F c b) := by
  refine ⟨_, _, _, _, _, _, h.jn_lt ha hb, h.flip.jn_lt ha hb, h.jn_lt hb hc, h.flip.jn_lt hb hc, rfl, rfl, Latt.comm _ _, Latt.comm _ _, h.absorb ha hb, h.flip.absorb ha hb, rfl, rfl, (h.assoc ha hb hc).symm, rfl, rfl, (h.flip.assoc ha hb hc).symm, h.leq_iff ha hb, ?_, h.join_leq ha hb hc, h.flip.join_leq ha hb hc⟩
  have := h.flip.leq_iff hb ha
  rw [Latt.comm] at this
  exact this
theorem undo_ends {n : Nat} {F : Nat → Nat → Bool} (h : Latt n F) {a : Nat} (ha : a < n) :
    (∀ t, t < n → (∀ b, b < n → F t b = true) → jn n F t a = a) ∧ (∀ t, t < n → (∀ b, b < n → F b t = true) → jn n (flp F) t a = a) :=
  ⟨fun t ht h1 => h.bottom_join ht ha h1, fun t ht h1 => h.flip.bottom_join ht ha h1⟩

set_option maxRecDepth 100000 in
set_option maxHeartbeats 4000000 in
theorem undoes11_walk (ws : List Wr) (ps : List Pr) (x0 x1 x2 : Int) (bx0 : Bd x0) (bx1 : Bd x1) (bx2 : Bd x2) (vw vp : Value) (w : World) (hw : RdW w vw ws) (hp : RdPr w vp ps) (hgw : ∀ x ∈ ws, GoodW x) (hgp : ∀ x ∈ ps, GoodR x) (hl : ws.length ≤ maxLen) (hl2 : ps.length ≤ maxLen) (R : Ending → World → Prop)
    (hR : Hid (∀ w', Below w.heap.size w w' → R (.returned (.bool true)) w')) : Calls Try.prog 6 #[vw, vp, .agg #[.int .i64 x0, .int .i64 x1, .int .i64 x2]] w R := by
  have cL := Lib.hid fun (W : World) R hR => lives11_calls W R hR
  have b1 := (Below.refl w.heap.size w).alloc (Nat.le_refl _) (.cells #[.int .i64 x0, .int .i64 x1, .int .i64 x2] 55)
  have k0 : (w.alloc (.cells #[.int .i64 x0, .int .i64 x1, .int .i64 x2] 55)).cell? ⟨w.heap.size, 0, none⟩ = some (.int .i64 x0) := by rw [World.cell?_alloc_new]; rfl
  have k1 : (w.alloc (.cells #[.int .i64 x0, .int .i64 x1, .int .i64 x2] 55)).cell? ⟨w.heap.size, 1, none⟩ = some (.int .i64 x1) := by rw [World.cell?_alloc_new]; rfl
  have k2 : (w.alloc (.cells #[.int .i64 x0, .int .i64 x1, .int .i64 x2] 55)).cell? ⟨w.heap.size, 2, none⟩ = some (.int .i64 x2) := by rw [World.cell?_alloc_new]; rfl
  have z1 : (w.alloc (.cells #[.int .i64 x0, .int .i64 x1, .int .i64 x2] 55)).heap.size = w.heap.size + 1 := by simp
  have cB := Lib.hid fun R hR hR2 => build_calls ws ps vw vp _ (hw.below b1) (hp.below b1) hgw hgp hl hl2 R hR hR2
  obtain ⟨Aw, cw, rfl, -, -⟩ := hw.op
  obtain ⟨Ap, cp, rfl, -, -⟩ := hp.op
  clear hw hp hgw hgp
  generalize wrongS ws ps = V at *
  obtain ⟨e, z⟩ := V
  simp only at cB
  generalize leqF ws ps = F at *
  generalize nms ws = nm at *
  go_enter Try.func6, Try.ntmps6
  go_wp2_with fail
  generalize w.alloc (.cells #[.int .i64 x0, .int .i64 x1, .int .i64 x2] 55) = W0 at *
  have hH : w.heap.size < W0.heap.size := by omega
  generalize hHH : w.heap.size = H at *
  replace hHH := Lib.hid hHH
  replace z1 := Lib.hid z1
  refine cB.out _ (Lib.hid fun v w2 he l2 n2 => ?_) (Lib.hid fun w2 he n2 => ?_)
  · obtain ⟨p, rfl⟩ := l2.ptr
    simp only [Prod.mk.injEq] at he
    obtain ⟨rfl, rfl⟩ := he
    obtain ⟨c0, c1, n4, hH4⟩ := fault_box w2 0 0 n2.size n2
    obtain ⟨hL, h32⟩ := l2.latt
    have l4 := Lib.hid (l2.below ((Below.refl _ _).alloc (Nat.le_refl _) (.cells #[.int .i64 0, .int .i64 0] 29)))
    have a0 := (n4.cell (p := ⟨H, 0, none⟩) hH).trans k0
    have a1 := (n4.cell (p := ⟨H, 1, none⟩) hH).trans k1
    have a2 := (n4.cell (p := ⟨H, 2, none⟩) hH).trans k2
    have hpos := hL.pos
    replace c0 := Lib.hid c0
    replace c1 := Lib.hid c1
    replace n4 := Lib.hid n4
    replace a0 := Lib.hid a0
    replace a1 := Lib.hid a1
    replace a2 := Lib.hid a2
    replace hL := Lib.hid hL
    clear n2 l2 k0 k1 k2 cB
    go_wp2_with fail
    refine latlen_calls nm F _ _ l4.out _ (Lib.hid fun w5 n5 => ?_)
    have N5 := Lib.hid (n4.out.trans (n5.mono n4.out.size))
    have l5 := Lib.hid (l4.out.below n5)
    have a3 : w5.cell? ⟨H, 0, none⟩ = _ := (n5.cell (p := ⟨H, 0, none⟩) (Nat.lt_of_lt_of_le hH n4.out.size)).trans a0.out
    have a4 : w5.cell? ⟨H, 1, none⟩ = _ := (n5.cell (p := ⟨H, 1, none⟩) (Nat.lt_of_lt_of_le hH n4.out.size)).trans a1.out
    have a5 : w5.cell? ⟨H, 2, none⟩ = _ := (n5.cell (p := ⟨H, 2, none⟩) (Nat.lt_of_lt_of_le hH n4.out.size)).trans a2.out
    clear n5 n4 l4 a0 a1 a2 c0 c1
    have hfin := Lib.hid fun (W : World) (h : Below W0.heap.size W0 W) => hR.out W (b1.trans (h.mono (by omega)))
    by_cases hx : x0 < 0 ∨ x1 < 0 ∨ x2 < 0
    · have hc : (x0 < 0) ∨ (0 ≤ x0 ∧ x1 < 0) ∨ (0 ≤ x0 ∧ 0 ≤ x1 ∧ x2 < 0) := by omega
      clear hx
      have r0 : (0 : Int) < (nm.length : Int) := by omega
      rcases hc with h | ⟨h, h'⟩ | ⟨h, h', h''⟩
      all_goals
        go_wp2_with fail
        refine cL.out _ _ (Lib.hid fun w6 n6 => ?_)
        have N6 := Lib.hid (N5.out.trans (n6.mono N5.out.size))
        go_wp2_with fail
        exact hfin.out _ N6.out
    · obtain ⟨u0, rfl⟩ : ∃ u : Nat, x0 = u := ⟨x0.toNat, by omega⟩
      obtain ⟨u1, rfl⟩ : ∃ u : Nat, x1 = u := ⟨x1.toNat, by omega⟩
      obtain ⟨u2, rfl⟩ : ∃ u : Nat, x2 = u := ⟨x2.toNat, by omega⟩
      obtain ⟨a, ea⟩ : ∃ a, u0 % nm.length = a := ⟨_, rfl⟩
      obtain ⟨b, eb⟩ : ∃ b, u1 % nm.length = b := ⟨_, rfl⟩
      obtain ⟨c, ec⟩ : ∃ c, u2 % nm.length = c := ⟨_, rfl⟩
      have ha : a < nm.length := by rw [← ea]; exact Nat.mod_lt _ hpos
      have hb : b < nm.length := by rw [← eb]; exact Nat.mod_lt _ hpos
      have hc : c < nm.length := by rw [← ec]; exact Nat.mod_lt _ hpos
      have m0 : Int.tmod (u0 : Int) (nm.length : Int) = (a : Int) := by rw [← ea]; exact tmod_nat _ _
      have m1 : Int.tmod (u1 : Int) (nm.length : Int) = (b : Int) := by rw [← eb]; exact tmod_nat _ _
      have m2 : Int.tmod (u2 : Int) (nm.length : Int) = (c : Int) := by rw [← ec]; exact tmod_nat _ _
      have m3 : ¬ (nm.length : Int) = 0 := by omega
      have t0 : ¬ (nm.length : Int) < 1 := by omega
      have t1 : ¬ (u0 : Int) < 0 := by omega
      have t2 : ¬ (u1 : Int) < 0 := by omega
      have t3 : ¬ (u2 : Int) < 0 := by omega
      obtain ⟨J, M, X, Y, X', Y', hJ0, hM0, hY0, hY0', f1, f2, f3, f4, f5, f6, f7, f8, f9, f10, f11, f12, f13, f14, f15, f16⟩ := undo_facts hL.out ha hb hc
      obtain ⟨g1, g2⟩ := undo_ends hL.out ha
      replace g1 := Lib.hid g1
      replace g2 := Lib.hid g2
      obtain ⟨L, hLb⟩ : ∃ L, F a b = L := ⟨_, rfl⟩
      obtain ⟨P1, hP1⟩ : ∃ L, F a c = L := ⟨_, rfl⟩
      obtain ⟨P2, hP2⟩ : ∃ L, F b c = L := ⟨_, rfl⟩
      obtain ⟨Q1, hQ1⟩ : ∃ L, F c a = L := ⟨_, rfl⟩
      obtain ⟨Q2, hQ2⟩ : ∃ L, F c b = L := ⟨_, rfl⟩
      rw [hP1, hP2] at f15
      rw [hQ1, hQ2] at f16
      rw [hLb] at f13 f14
      have s1 : ((J : Int) == (b : Int)) = L := by rw [f13, Bool.eq_iff_iff]; simp; omega
      have s2 : ((M : Int) == (a : Int)) = L := by rw [f14, Bool.eq_iff_iff]; simp; omega
      replace f1 := Lib.hid f1
      replace f2 := Lib.hid f2
      replace f3 := Lib.hid f3
      replace f4 := Lib.hid f4
      replace f5 := Lib.hid f5
      replace f6 := Lib.hid f6
      replace f7 := Lib.hid f7
      replace f8 := Lib.hid f8
      replace f9 := Lib.hid f9
      replace f10 := Lib.hid f10
      replace f11 := Lib.hid f11
      replace f12 := Lib.hid f12
      replace f15 := Lib.hid f15
      replace f16 := Lib.hid f16
      replace hLb := Lib.hid hLb
      replace hP1 := Lib.hid hP1
      replace hP2 := Lib.hid hP2
      replace hQ1 := Lib.hid hQ1
      replace hQ2 := Lib.hid hQ2
      clear f13 f14 ea eb ec hx
      go_wp2_with fail
      go_quiet (fail)
      have N6 := Lib.hid (below_drewN N5.out nq)
      have l6 := Lib.hid (l5.out.below (below_drewN (Below.refl _ _) nq))
      clear N5 l5 a3 a4 a5 m0 m1 m2 m3 t0 t1 t2 t3
      generalize w5.drewN nq = w6 at *
      go_wp2_with fail
      refine jn_calls l6.out a b ha hb _ (f1.out) _ (Lib.hid fun w7 n7 => ?_)
      have N7 := Lib.hid (N6.out.trans (n7.mono N6.out.size))
      have l7 := Lib.hid (l6.out.below n7)
      clear n7 N6 l6
      go_wp2_with fail
      refine mt_calls l7.out a b ha hb _ (f2.out) _ (Lib.hid fun w8 n8 => ?_)
      have N8 := Lib.hid (N7.out.trans (n8.mono N7.out.size))
      have l8 := Lib.hid (l7.out.below n8)
      clear n8 N7 l7
      go_wp2_with fail
      refine jn_calls l8.out b a hb ha _ (f3.out) _ (Lib.hid fun w9 n9 => ?_)
      have N9 := Lib.hid (N8.out.trans (n9.mono N8.out.size))
      have l9 := Lib.hid (l8.out.below n9)
      clear n9 N8 l8
      go_wp2_with fail
      refine mt_calls l9.out b a hb ha _ (f4.out) _ (Lib.hid fun w10 n10 => ?_)
      have N10 := Lib.hid (N9.out.trans (n10.mono N9.out.size))
      have l10 := Lib.hid (l9.out.below n10)
      clear n10 N9 l9
      go_wp2_with fail
      refine jn_calls l10.out a M ha hM0 _ (f5.out) _ (Lib.hid fun w11 n11 => ?_)
      have N11 := Lib.hid (N10.out.trans (n11.mono N10.out.size))
      have l11 := Lib.hid (l10.out.below n11)
      clear n11 N10 l10
      go_wp2_with fail
      refine mt_calls l11.out a J ha hJ0 _ (f6.out) _ (Lib.hid fun w12 n12 => ?_)
      have N12 := Lib.hid (N11.out.trans (n12.mono N11.out.size))
      have l12 := Lib.hid (l11.out.below n12)
      clear n12 N11 l11
      go_wp2_with fail
      refine jn_calls l12.out J c hJ0 hc _ (f7.out) _ (Lib.hid fun w13 n13 => ?_)
      have N13 := Lib.hid (N12.out.trans (n13.mono N12.out.size))
      have l13 := Lib.hid (l12.out.below n13)
      clear n13 N12 l12
      go_wp2_with fail
      refine jn_calls l13.out b c hb hc _ (f8.out) _ (Lib.hid fun w14 n14 => ?_)
      have N14 := Lib.hid (N13.out.trans (n14.mono N13.out.size))
      have l14 := Lib.hid (l13.out.below n14)
      clear n14 N13 l13
      go_wp2_with fail
      refine jn_calls l14.out a Y ha hY0 _ (f9.out) _ (Lib.hid fun w15 n15 => ?_)
      have N15 := Lib.hid (N14.out.trans (n15.mono N14.out.size))
      have l15 := Lib.hid (l14.out.below n15)
      clear n15 N14 l14
      go_wp2_with fail
      refine mt_calls l15.out M c hM0 hc _ (f10.out) _ (Lib.hid fun w16 n16 => ?_)
      have N16 := Lib.hid (N15.out.trans (n16.mono N15.out.size))
      have l16 := Lib.hid (l15.out.below n16)
      clear n16 N15 l15
      go_wp2_with fail
      refine mt_calls l16.out b c hb hc _ (f11.out) _ (Lib.hid fun w17 n17 => ?_)
      have N17 := Lib.hid (N16.out.trans (n17.mono N16.out.size))
      have l17 := Lib.hid (l16.out.below n17)
      clear n17 N16 l16
      go_wp2_with fail
      refine mt_calls l17.out a Y' ha hY0' _ (f12.out) _ (Lib.hid fun w18 n18 => ?_)
      have N18 := Lib.hid (N17.out.trans (n18.mono N17.out.size))
      have l18 := Lib.hid (l17.out.below n18)
      clear n18 N17 l17
      go_wp2_with fail
      refine lq_calls l18.out a b ha hb _ (hLb.out) _ (Lib.hid fun w19 n19 => ?_)
      have N19 := Lib.hid (N18.out.trans (n19.mono N18.out.size))
      have l19 := Lib.hid (l18.out.below n19)
      clear n19 N18 l18
      go_wp2_with fail
      refine lq_calls l19.out a b ha hb _ (hLb.out) _ (Lib.hid fun w20 n20 => ?_)
      have N20 := Lib.hid (N19.out.trans (n20.mono N19.out.size))
      have l20 := Lib.hid (l19.out.below n20)
      clear n20 N19 l19
      go_wp2_with fail
      cases P1
      · replace f15 := f15.out.trans (Bool.false_and _)
        replace f15 := Lib.hid f15
        refine lq_calls l20.out J c hJ0 hc _ (f15.out) _ (Lib.hid fun w21 n21 => ?_)
        have N21 := Lib.hid (N20.out.trans (n21.mono N20.out.size))
        have l21 := Lib.hid (l20.out.below n21)
        clear n21 N20 l20
        go_wp2_with fail
        refine lq_calls l21.out a c ha hc _ (hP1.out) _ (Lib.hid fun w22 n22 => ?_)
        have N22 := Lib.hid (N21.out.trans (n22.mono N21.out.size))
        have l22 := Lib.hid (l21.out.below n22)
        clear n22 N21 l21
        go_wp2_with fail
        cases Q1
        · replace f16 := f16.out.trans (Bool.false_and _)
          replace f16 := Lib.hid f16
          refine lq_calls l22.out c M hc hM0 _ (f16.out) _ (Lib.hid fun w23 n23 => ?_)
          have N23 := Lib.hid (N22.out.trans (n23.mono N22.out.size))
          have l23 := Lib.hid (l22.out.below n23)
          clear n23 N22 l22
          go_wp2_with fail
          refine lq_calls l23.out c a hc ha _ (hQ1.out) _ (Lib.hid fun w24 n24 => ?_)
          have N24 := Lib.hid (N23.out.trans (n24.mono N23.out.size))
          have l24 := Lib.hid (l23.out.below n24)
          clear n24 N23 l23
          go_wp2_with fail
          refine latbottom_calls nm F _ _ l24.out _ (Lib.hid fun t w25 ht h2 n25 => ?_)
          have gt := Lib.hid (g1.out t ht h2)
          have N25 := Lib.hid (N24.out.trans (n25.mono N24.out.size))
          have l25 := Lib.hid (l24.out.below n25)
          clear n25 N24 l24
          go_wp2_with fail
          refine jn_calls l25.out t a ht ha _ gt.out _ (Lib.hid fun w26 n26 => ?_)
          have N26 := Lib.hid (N25.out.trans (n26.mono N25.out.size))
          have l26 := Lib.hid (l25.out.below n26)
          clear n26 N25 l25
          go_wp2_with fail
          refine lattop_calls nm F _ _ l26.out _ (Lib.hid fun u w27 hu h3 n27 => ?_)
          have gu := Lib.hid (g2.out u hu h3)
          have N27 := Lib.hid (N26.out.trans (n27.mono N26.out.size))
          have l27 := Lib.hid (l26.out.below n27)
          clear n27 N26 l26
          go_wp2_with fail
          refine mt_calls l27.out u a hu ha _ gu.out _ (Lib.hid fun w28 n28 => ?_)
          have N28 := Lib.hid (N27.out.trans (n28.mono N27.out.size))
          have l28 := Lib.hid (l27.out.below n28)
          clear n28 N27 l27
          go_wp2_with fail
          refine cL.out _ _ (Lib.hid fun wz nz => ?_)
          have NZ := Lib.hid (N28.out.trans (nz.mono N28.out.size))
          go_wp2_with fail
          exact hfin.out _ NZ.out
        · replace f16 := f16.out.trans (Bool.true_and _)
          replace f16 := Lib.hid f16
          refine lq_calls l22.out c M hc hM0 _ (f16.out) _ (Lib.hid fun w23 n23 => ?_)
          have N23 := Lib.hid (N22.out.trans (n23.mono N22.out.size))
          have l23 := Lib.hid (l22.out.below n23)
          clear n23 N22 l22
          go_wp2_with fail
          refine lq_calls l23.out c a hc ha _ (hQ1.out) _ (Lib.hid fun w24 n24 => ?_)
          have N24 := Lib.hid (N23.out.trans (n24.mono N23.out.size))
          have l24 := Lib.hid (l23.out.below n24)
          clear n24 N23 l23
          go_wp2_with fail
          refine lq_calls l24.out c b hc hb _ (hQ2.out) _ (Lib.hid fun w25 n25 => ?_)
          have N25 := Lib.hid (N24.out.trans (n25.mono N24.out.size))
          have l25 := Lib.hid (l24.out.below n25)
          clear n25 N24 l24
          go_wp2_with fail
          refine latbottom_calls nm F _ _ l25.out _ (Lib.hid fun t w26 ht h2 n26 => ?_)
          have gt := Lib.hid (g1.out t ht h2)
          have N26 := Lib.hid (N25.out.trans (n26.mono N25.out.size))
          have l26 := Lib.hid (l25.out.below n26)
          clear n26 N25 l25
          go_wp2_with fail
          refine jn_calls l26.out t a ht ha _ gt.out _ (Lib.hid fun w27 n27 => ?_)
          have N27 := Lib.hid (N26.out.trans (n27.mono N26.out.size))
          have l27 := Lib.hid (l26.out.below n27)
          clear n27 N26 l26
          go_wp2_with fail
          refine lattop_calls nm F _ _ l27.out _ (Lib.hid fun u w28 hu h3 n28 => ?_)
          have gu := Lib.hid (g2.out u hu h3)
          have N28 := Lib.hid (N27.out.trans (n28.mono N27.out.size))
          have l28 := Lib.hid (l27.out.below n28)
          clear n28 N27 l27
          go_wp2_with fail
          refine mt_calls l28.out u a hu ha _ gu.out _ (Lib.hid fun w29 n29 => ?_)
          have N29 := Lib.hid (N28.out.trans (n29.mono N28.out.size))
          have l29 := Lib.hid (l28.out.below n29)
          clear n29 N28 l28
          go_wp2_with fail
          refine cL.out _ _ (Lib.hid fun wz nz => ?_)
          have NZ := Lib.hid (N29.out.trans (nz.mono N29.out.size))
          go_wp2_with fail
          exact hfin.out _ NZ.out
      · replace f15 := f15.out.trans (Bool.true_and _)
        replace f15 := Lib.hid f15
        refine lq_calls l20.out J c hJ0 hc _ (f15.out) _ (Lib.hid fun w21 n21 => ?_)
        have N21 := Lib.hid (N20.out.trans (n21.mono N20.out.size))
        have l21 := Lib.hid (l20.out.below n21)
        clear n21 N20 l20
        go_wp2_with fail
        refine lq_calls l21.out a c ha hc _ (hP1.out) _ (Lib.hid fun w22 n22 => ?_)
        have N22 := Lib.hid (N21.out.trans (n22.mono N21.out.size))
        have l22 := Lib.hid (l21.out.below n22)
        clear n22 N21 l21
        go_wp2_with fail
        refine lq_calls l22.out b c hb hc _ (hP2.out) _ (Lib.hid fun w23 n23 => ?_)
        have N23 := Lib.hid (N22.out.trans (n23.mono N22.out.size))
        have l23 := Lib.hid (l22.out.below n23)
        clear n23 N22 l22
        go_wp2_with fail
        cases Q1
        · replace f16 := f16.out.trans (Bool.false_and _)
          replace f16 := Lib.hid f16
          refine lq_calls l23.out c M hc hM0 _ (f16.out) _ (Lib.hid fun w24 n24 => ?_)
          have N24 := Lib.hid (N23.out.trans (n24.mono N23.out.size))
          have l24 := Lib.hid (l23.out.below n24)
          clear n24 N23 l23
          go_wp2_with fail
          refine lq_calls l24.out c a hc ha _ (hQ1.out) _ (Lib.hid fun w25 n25 => ?_)
          have N25 := Lib.hid (N24.out.trans (n25.mono N24.out.size))
          have l25 := Lib.hid (l24.out.below n25)
          clear n25 N24 l24
          go_wp2_with fail
          refine latbottom_calls nm F _ _ l25.out _ (Lib.hid fun t w26 ht h2 n26 => ?_)
          have gt := Lib.hid (g1.out t ht h2)
          have N26 := Lib.hid (N25.out.trans (n26.mono N25.out.size))
          have l26 := Lib.hid (l25.out.below n26)
          clear n26 N25 l25
          go_wp2_with fail
          refine jn_calls l26.out t a ht ha _ gt.out _ (Lib.hid fun w27 n27 => ?_)
          have N27 := Lib.hid (N26.out.trans (n27.mono N26.out.size))
          have l27 := Lib.hid (l26.out.below n27)
          clear n27 N26 l26
          go_wp2_with fail
          refine lattop_calls nm F _ _ l27.out _ (Lib.hid fun u w28 hu h3 n28 => ?_)
          have gu := Lib.hid (g2.out u hu h3)
          have N28 := Lib.hid (N27.out.trans (n28.mono N27.out.size))
          have l28 := Lib.hid (l27.out.below n28)
          clear n28 N27 l27
          go_wp2_with fail
          refine mt_calls l28.out u a hu ha _ gu.out _ (Lib.hid fun w29 n29 => ?_)
          have N29 := Lib.hid (N28.out.trans (n29.mono N28.out.size))
          have l29 := Lib.hid (l28.out.below n29)
          clear n29 N28 l28
          go_wp2_with fail
          refine cL.out _ _ (Lib.hid fun wz nz => ?_)
          have NZ := Lib.hid (N29.out.trans (nz.mono N29.out.size))
          go_wp2_with fail
          exact hfin.out _ NZ.out
        · replace f16 := f16.out.trans (Bool.true_and _)
          replace f16 := Lib.hid f16
          refine lq_calls l23.out c M hc hM0 _ (f16.out) _ (Lib.hid fun w24 n24 => ?_)
          have N24 := Lib.hid (N23.out.trans (n24.mono N23.out.size))
          have l24 := Lib.hid (l23.out.below n24)
          clear n24 N23 l23
          go_wp2_with fail
          refine lq_calls l24.out c a hc ha _ (hQ1.out) _ (Lib.hid fun w25 n25 => ?_)
          have N25 := Lib.hid (N24.out.trans (n25.mono N24.out.size))
          have l25 := Lib.hid (l24.out.below n25)
          clear n25 N24 l24
          go_wp2_with fail
          refine lq_calls l25.out c b hc hb _ (hQ2.out) _ (Lib.hid fun w26 n26 => ?_)
          have N26 := Lib.hid (N25.out.trans (n26.mono N25.out.size))
          have l26 := Lib.hid (l25.out.below n26)
          clear n26 N25 l25
          go_wp2_with fail
          refine latbottom_calls nm F _ _ l26.out _ (Lib.hid fun t w27 ht h2 n27 => ?_)
          have gt := Lib.hid (g1.out t ht h2)
          have N27 := Lib.hid (N26.out.trans (n27.mono N26.out.size))
          have l27 := Lib.hid (l26.out.below n27)
          clear n27 N26 l26
          go_wp2_with fail
          refine jn_calls l27.out t a ht ha _ gt.out _ (Lib.hid fun w28 n28 => ?_)
          have N28 := Lib.hid (N27.out.trans (n28.mono N27.out.size))
          have l28 := Lib.hid (l27.out.below n28)
          clear n28 N27 l27
          go_wp2_with fail
          refine lattop_calls nm F _ _ l28.out _ (Lib.hid fun u w29 hu h3 n29 => ?_)
          have gu := Lib.hid (g2.out u hu h3)
          have N29 := Lib.hid (N28.out.trans (n29.mono N28.out.size))
          have l29 := Lib.hid (l28.out.below n29)
          clear n29 N28 l28
          go_wp2_with fail
          refine mt_calls l29.out u a hu ha _ gu.out _ (Lib.hid fun w30 n30 => ?_)
          have N30 := Lib.hid (N29.out.trans (n30.mono N29.out.size))
          have l30 := Lib.hid (l29.out.below n30)
          clear n30 N29 l29
          go_wp2_with fail
          refine cL.out _ _ (Lib.hid fun wz nz => ?_)
          have NZ := Lib.hid (N30.out.trans (nz.mono N30.out.size))
          go_wp2_with fail
          exact hfin.out _ NZ.out
  · have q0 : (e != 0) = true := by simpa using he
    obtain ⟨c0, c1, n4, hH4⟩ := fault_box w2 e z n2.size n2
    replace c0 := Lib.hid c0
    replace c1 := Lib.hid c1
    replace n4 := Lib.hid n4
    clear he n2 k0 k1 k2 cB
    go_wp2_with fail
    refine cL.out _ _ (Lib.hid fun w5 n5 => ?_)
    have n6 := Lib.hid (b1.trans ((n4.out.trans (n5.mono n4.out.size)).mono (by omega)))
    clear n5
    go_wp2_with fail
    exact hR.out _ n6.out
end Go.Proofs.Ytoeianacjnlepaa.Lat
