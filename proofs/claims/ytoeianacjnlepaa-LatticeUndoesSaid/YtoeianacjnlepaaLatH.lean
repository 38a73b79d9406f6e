/- LatticeNone: the law's walk. -/
import Derived.Test.YtoeianacjnlepaaLatG
import Derived.Test.YtoeianacjnlepaaRelQ
set_option maxRecDepth 100000
set_option linter.unusedVariables false
namespace Go.Proofs.Ytoeianacjnlepaa.Lat
open Go.RowKit Go.Lib Go.Proofs.Ytoeianacjnlepaa.Rel Go.Proofs.Ytoeianacjnlepaa.Nam

set_option maxRecDepth 100000 in
set_option maxHeartbeats 4000000 in
theorem none11_walk (a b : Int) (ha : Bd a) (hb : Bd b) (s : ByteArray) (hs : s.size ≤ maxLen) (w : World) (R : Ending → World → Prop)
    (hR : Hid (∀ w', Below w.heap.size w w' → R (.returned (.bool true)) w')) : Calls Try.prog 5 #[.int .i64 a, .int .i64 b, .string s] w R := by
  have cL := Lib.hid fun (W : World) R hR => lives11_calls W R hR
  have cB := Lib.hid fun vw vp (W : World) hw hp R hR hR2 => build_calls dW dP vw vp W hw hp (by decide) (by decide) (by decide) (by decide) R hR hR2
  have hL := dia_fine.latt
  have e4 : (nms dW).length = 4 := rfl
  have cin := Lib.hid fun (v : Value) (W : World) (h : LatP W v (nms dW) (leqF dW dP)) (u : Nat) (hu : u < 4) R hR => lq_calls h u u hu hu true (hL.ord.refl u hu) R hR
  have cij := Lib.hid fun (v : Value) (W : World) (h : LatP W v (nms dW) (leqF dW dP)) (u : Nat) (hu : u < 4) R hR => jn_calls h u u hu hu u (hL.jn_is hu hu hu (hL.ord.refl u hu) (hL.ord.refl u hu) fun d _ hd _ => hd) R hR
  have cl := fun (v : Value) (W : World) (h : LatP W v (nms dW) (leqF dW dP)) (x y : Int) (hx : Bd x) (hy : Bd y) R hR => latleq_calls (nms dW) (leqF dW dP) v W h R x y hx hy hR
  have cj := fun (v : Value) (W : World) (h : LatP W v (nms dW) (leqF dW dP)) (x y : Int) (hx : Bd x) (hy : Bd y) R hR => latjoin_calls (nms dW) (leqF dW dP) v W h R x y hx hy hR
  have cm := fun (v : Value) (W : World) (h : LatP W v (nms dW) (leqF dW dP)) (x y : Int) (hx : Bd x) (hy : Bd y) R hR => latmeet_calls (nms dW) (leqF dW dP) v W h R x y hx hy hR
  have cn := fun (v : Value) (W : World) (h : LatP W v (nms dW) (leqF dW dP)) (x : Int) (hx : Bd x) R hR => latname_calls (nms dW) (leqF dW dP) v W h R x hx hR
  have cs := fun (v : Value) (W : World) (h : LatP W v (nms dW) (leqF dW dP)) (x : Int) (hx : Bd x) R hR => latsees_calls (nms dW) (leqF dW dP) v W h R x hx hR
  rw [e4] at cl cj cm cn cs
  replace cl := Lib.hid cl
  replace cj := Lib.hid cj
  replace cm := Lib.hid cm
  replace cn := Lib.hid cn
  replace cs := Lib.hid cs
  clear hL e4
  have N0 := Lib.hid (Below.refl w.heap.size w)
  have eS : ((ByteArray.empty).toList == (⟨#[]⟩ : ByteArray).toList) = true := seq_t rfl
  have eS2 : ((ByteArray.empty).toList != (⟨#[]⟩ : ByteArray).toList) = false := sne_f rfl
  go_enter Try.func5, Try.ntmps5
  go_wp2_with fail
  refine latfindN_calls _ _ s hs (Lib.hid fun w1 n1 => ?_)
  have N1 := Lib.hid (N0.out.trans (n1.mono N0.out.size))
  clear n1 N0
  go_wp2_with fail
  refine latlenN_calls _ _ (Lib.hid fun w2 n2 => ?_)
  have N2 := Lib.hid (N1.out.trans (n2.mono N1.out.size))
  clear n2 N1
  go_wp2_with fail
  refine latnameN_calls _ _ a ha (Lib.hid fun w3 n3 => ?_)
  have N3 := Lib.hid (N2.out.trans (n3.mono N2.out.size))
  clear n3 N2
  go_wp2_with fail
  refine latnamesN_calls _ _ (Lib.hid fun A1 c1 w4 n4 => ?_)
  have N4 := Lib.hid (N3.out.trans (n4.mono N3.out.size))
  clear n4 N3
  go_wp2_with fail
  refine latleqN_calls _ _ a b ha hb (Lib.hid fun w5 n5 => ?_)
  have N5 := Lib.hid (N4.out.trans (n5.mono N4.out.size))
  clear n5 N4
  go_wp2_with fail
  refine latjoinN_calls _ _ a b ha hb (Lib.hid fun w6 n6 => ?_)
  have N6 := Lib.hid (N5.out.trans (n6.mono N5.out.size))
  clear n6 N5
  go_wp2_with fail
  refine latmeetN_calls _ _ a b ha hb (Lib.hid fun w7 n7 => ?_)
  have N7 := Lib.hid (N6.out.trans (n7.mono N6.out.size))
  clear n7 N6
  go_wp2_with fail
  refine lattopN_calls _ _ (Lib.hid fun w8 n8 => ?_)
  have N8 := Lib.hid (N7.out.trans (n8.mono N7.out.size))
  clear n8 N7
  go_wp2_with fail
  refine latbottomN_calls _ _ (Lib.hid fun w9 n9 => ?_)
  have N9 := Lib.hid (N8.out.trans (n9.mono N8.out.size))
  clear n9 N8
  go_wp2_with fail
  refine latseesN_calls _ _ a ha (Lib.hid fun A2 c2 w10 n10 => ?_)
  have N10 := Lib.hid (N9.out.trans (n10.mono N9.out.size))
  clear n10 N9
  go_wp2_with fail
  refine diamond_calls _ _ (Lib.hid fun v1 v2 wd r1 r2 nd => ?_)
  have Nd := Lib.hid (N10.out.trans (nd.mono N10.out.size))
  replace r1 := Lib.hid r1
  replace r2 := Lib.hid r2
  clear nd N10
  go_wp2_with fail
  refine cB.out _ _ _ r1.out r2.out _ (Lib.hid fun v wb _ lb nb => ?_) (Lib.hid fun wb h _ => absurd (show (wrongS dW dP).1 = 0 by rw [dia_ok]) h)
  have Nb := Lib.hid (Nd.out.trans (nb.mono Nd.out.size))
  obtain ⟨p, rfl⟩ := lb.ptr
  have l0 := Lib.hid (lb.below ((Below.refl wb.heap.size wb).alloc (Nat.le_refl _) (.cells #[.int .i64 0, .int .i64 0] 29)))
  have N20 := Lib.hid (Nb.out.alloc Nb.out.size (.cells #[.int .i64 0, .int .i64 0] 29))
  clear Nd Nb nb lb r1 r2 cB
  by_cases hin : 0 ≤ a ∧ a < 4
  · obtain ⟨h0, h1⟩ := hin
    obtain ⟨u, rfl⟩ : ∃ u : Nat, a = u := ⟨a.toNat, by omega⟩
    have hu : u < 4 := by omega
    clear cl cj cm cn cs
    go_wp2_with fail
    refine cin.out _ _ l0.out u hu _ (Lib.hid fun w21 n21 => ?_)
    have l1 := Lib.hid (l0.out.below n21)
    have N21 := Lib.hid (N20.out.trans (n21.mono N20.out.size))
    clear n21 N20 l0
    go_wp2_with fail
    refine cij.out _ _ l1.out u hu _ (Lib.hid fun w22 n22 => ?_)
    have N22 := Lib.hid (N21.out.trans (n22.mono N21.out.size))
    clear n22 N21 l1
    go_wp2_with fail
    refine cL.out _ _ (Lib.hid fun wz nz => ?_)
    have NZ := Lib.hid (N22.out.trans (nz.mono N22.out.size))
    go_wp2_with fail
    exact hR.out _ NZ.out
  · have cl1 := fun (v : Value) (W : World) h R hR => cl.out v W h a b ha hb R hR
    have cl2 := fun (v : Value) (W : World) h R hR => cl.out v W h b a hb ha R hR
    have cj1 := fun (v : Value) (W : World) h R hR => cj.out v W h a b ha hb R hR
    have cm1 := fun (v : Value) (W : World) h R hR => cm.out v W h b a hb ha R hR
    have cn1 := fun (v : Value) (W : World) h R hR => cn.out v W h a ha R hR
    have cs1 := fun (v : Value) (W : World) h R hR => cs.out v W h a ha R hR
    rw [decide_eq_false (by omega), Bool.false_and] at cl1 cl2
    rw [if_neg (by omega)] at cj1 cm1 cn1 cs1
    replace cl1 := Lib.hid cl1
    replace cl2 := Lib.hid cl2
    replace cj1 := Lib.hid cj1
    replace cm1 := Lib.hid cm1
    replace cn1 := Lib.hid cn1
    replace cs1 := Lib.hid cs1
    clear cl cj cm cn cs cin cij
    have hc : a < 0 ∨ (0 ≤ a ∧ ¬ a < 4) := by omega
    clear hin
    rcases hc with h | ⟨h, h'⟩
    all_goals
      go_wp2_with fail
      refine cl1.out _ _ l0.out _ (Lib.hid fun w21 n21 => ?_)
      have l1 := Lib.hid (l0.out.below n21)
      have N21 := Lib.hid (N20.out.trans (n21.mono N20.out.size))
      clear n21 N20 l0
      go_wp2_with fail
      refine cl2.out _ _ l1.out _ (Lib.hid fun w22 n22 => ?_)
      have l2 := Lib.hid (l1.out.below n22)
      have N22 := Lib.hid (N21.out.trans (n22.mono N21.out.size))
      clear n22 N21 l1
      go_wp2_with fail
      refine cj1.out _ _ l2.out _ (Lib.hid fun w23 n23 => ?_)
      have l3 := Lib.hid (l2.out.below n23)
      have N23 := Lib.hid (N22.out.trans (n23.mono N22.out.size))
      clear n23 N22 l2
      go_wp2_with fail
      refine cm1.out _ _ l3.out _ (Lib.hid fun w24 n24 => ?_)
      have l4 := Lib.hid (l3.out.below n24)
      have N24 := Lib.hid (N23.out.trans (n24.mono N23.out.size))
      clear n24 N23 l3
      go_wp2_with fail
      refine cn1.out _ _ l4.out _ (Lib.hid fun w25 n25 => ?_)
      have l5 := Lib.hid (l4.out.below n25)
      have N25 := Lib.hid (N24.out.trans (n25.mono N24.out.size))
      clear n25 N24 l4
      go_wp2_with fail
      refine cs1.out _ _ l5.out _ (Lib.hid fun o26 w26 r9 n26 => ?_)
      have l6 := Lib.hid (l5.out.below n26)
      have N26 := Lib.hid (N25.out.trans (n26.mono N25.out.size))
      clear n26 N25 l5
      obtain ⟨A3, c3, rfl, -, -⟩ := ivR_at r9
      clear r9
      go_wp2_with fail
      refine cL.out _ _ (Lib.hid fun wz nz => ?_)
      have NZ := Lib.hid (N26.out.trans (nz.mono N26.out.size))
      go_wp2_with fail
      exact hR.out _ NZ.out
end Go.Proofs.Ytoeianacjnlepaa.Lat
