/- The laws' walks of layer 9. -/
import Derived.Test.YtjcmljdkegpjbaaPatX
import Derived.Test.YtjcmljdkegpjbaaPatB
import Derived.Test.YtjcmljdkegpjbaaPatE
set_option linter.unusedVariables false
namespace Go.Proofs.Ytjcmljdkegpjbaa.Pat
open Go.RowKit Go.Lib Go.Proofs.Ytjcmljdkegpjbaa.Utf Go.Proofs.Ytjcmljdkegpjbaa.Nam Go.Proofs.Ytjcmljdkegpjbaa.Dig

/-- The chapter's example. -/
def exS : ByteArray := ⟨#[46, 97, 91, 51, 93, 63, 33, 98]⟩
def exL : List St := [(1, 0, ⟨#[97]⟩), (2, 3, ⟨#[]⟩), (4, 0, ⟨#[]⟩), (5, 0, ⟨#[98]⟩)]
theorem ex_right : RightP exL := by
  refine ⟨by decide, fun x hx => ?_⟩
  simp only [exL, List.mem_cons, List.not_mem_nil, or_false] at hx
  rcases hx with rfl | rfl | rfl | rfl
  · exact right_named (.inl rfl) (by decide +kernel)
  · exact right_item (by decide)
  · exact right_some
  · exact right_named (.inr rfl) (by decide +kernel)
theorem ex_fmt : fmtS exL = exS := by
  apply bl_ext
  rw [bl_fmt ex_right]
  have : putL 3 = [51] := by unfold putL; rw [if_neg (by decide), show (3 : Int).toNat = 3 from rfl, decL_lt (by decide)]; rfl
  simp [exL, fmtL, txt, this, exS, bl]
theorem ex_par : parS exS = (exL, 0, 0) := by
  rw [← ex_fmt]
  refine par_fmt ex_right fun x hx => ?_
  simp only [exL, List.mem_cons, List.not_mem_nil, or_false] at hx
  rcases hx with rfl | rfl | rfl | rfl <;> decide
theorem exL_good : ∀ x ∈ exL, GoodS x := fun x hx => by
  simp only [exL, List.mem_cons, List.not_mem_nil, or_false] at hx
  rcases hx with rfl | rfl | rfl | rfl <;> (unfold GoodS maxLen; decide)
theorem par_good {s : ByteArray} {l : List St} (h : parS s = (l, 0, 0)) : ∀ x ∈ l, GoodS x := fun x hx => by
  obtain ⟨h1, -, h3⟩ := fmt_par h
  have hb := h3 x hx
  rcases right_cases (h1.2 x hx) with ⟨nm, rfl, hn⟩ | ⟨n, rfl, hn⟩ | rfl | rfl | ⟨nm, rfl, hn⟩
  · have := rightS_pos hn; unfold GoodS maxLen; simp only; omega
  · refine ⟨by show (-9223372036854775808 : Int) ≤ 2 ∧ (2 : Int) ≤ 9223372036854775807; decide, ⟨by simp only; omega, hb⟩, by show (⟨#[]⟩ : ByteArray).size ≤ maxLen; unfold maxLen; decide⟩
  · exact ⟨by decide, by decide, by unfold maxLen; decide⟩
  · exact ⟨by decide, by decide, by unfold maxLen; decide⟩
  · have := rightS_pos hn; unfold GoodS maxLen; simp only; omega

set_option maxHeartbeats 1000000 in
theorem lives9_calls (w : World) (R : Ending → World → Prop) (hR : Hid (∀ w', Below w.heap.size w w' → R (.returned (.bool true)) w')) : Calls Try.prog 5 #[] w R := by
  have cP := fun R hR => parse_steps exS (by decide) w R hR
  rw [ex_par] at cP
  have cF := fun (W : World) v h R hR => format_steps exL v W h exL_good R hR
  rw [ex_fmt] at cF
  unfold exS at cP cF
  simp only at cP
  replace cP := Lib.hid cP
  replace cF := Lib.hid cF
  go_enter Try.func5, Try.ntmps5
  go_wp2_with fail
  refine cP.out _ (Lib.hid fun v1 w1 r1 n1 => ?_)
  have hz := n1.size
  have b2 := (Below.refl w1.heap.size w1).alloc (Nat.le_refl _) (.cells #[.int .i64 0, .int .i64 0] 26)
  have r2 := r1.below b2
  have n2 := Lib.hid (n1.trans (b2.mono hz))
  obtain ⟨A, c, rfl, hc, hr⟩ := RdP.op r2
  obtain ⟨g, o, rfl, hg, hca⟩ := hr (by decide)
  obtain ⟨e0, e1, e2⟩ := hca 1 (by decide)
  rw [show stN exL 1 = (2, 3, ⟨#[]⟩) from rfl] at e0 e1 e2
  simp only at e0 e1 e2
  rw [show exL.length = 4 from rfl] at r2
  replace r2 := Lib.hid r2
  rw [show exL.length = 4 from rfl]
  rw [show exL.length = 4 from rfl] at hc
  clear r1 n1 hca hr b2
  go_wp2_with fail
  refine cF.out _ _ r2.out _ (Lib.hid fun w3 n3 => ?_)
  have n4 := Lib.hid (n2.out.trans (n3.mono n2.out.size))
  clear n3
  go_wp2_with fail
  exact hR.out _ n4.out

set_option maxRecDepth 100000 in
set_option maxHeartbeats 2000000 in
theorem reads9_walk (s : ByteArray) (xs : List St) (v : Value) (w : World) (hs : s.size ≤ maxLen) (hx : RdP w v xs) (hg : ∀ x ∈ xs, GoodS x) (R : Ending → World → Prop)
    (hR : Hid (∀ w', Below w.heap.size w w' → R (.returned (.bool true)) w')) : Calls Try.prog 3 #[.string s, v] w R := by
  have cL := Lib.hid fun (W : World) R hR => lives9_calls W R hR
  obtain ⟨A, c, rfl, hlc, -⟩ := hx.op
  replace hs : s.size ≤ 9223372036854775807 := hs
  by_cases h1 : 1000 < s.size
  · clear hx
    go_enter Try.func3, Try.ntmps3
    go_wp2_with fail
    refine cL.out _ _ (Lib.hid fun w1 n1 => ?_)
    go_wp2_with fail
    exact hR.out _ n1
  by_cases h2 : 200 < xs.length
  · clear hx
    go_enter Try.func3, Try.ntmps3
    go_wp2_with fail
    refine cL.out _ _ (Lib.hid fun w1 n1 => ?_)
    go_wp2_with fail
    exact hR.out _ n1
  have cP := fun R hR => parse_steps s (by omega) w R hR
  have cQ := fun (W : World) R hR => refparse_calls s (by omega) W R hR
  have hl : (parS s).1.length ≤ 64 := par_len _ (by decide)
  have cS := fun (W : World) va vb ha hb R hR => refsame_steps (parS s).1 (parS s).1 va vb W ha hb (by omega) (by omega) R hR
  rw [decide_eq_true rfl] at cS
  have cA := fun (W : World) (hb : Below w.heap.size w W) R hR => right_steps xs _ W (hx.below hb) hg R hR
  have cB := fun (W : World) (hb : Below w.heap.size w W) R hR => refright_steps xs _ W (hx.below hb) hg R hR
  have cC := fun (W : World) (hb : Below w.heap.size w W) R hR => format_steps xs _ W (hx.below hb) hg R hR
  have cD := fun (W : World) (hb : Below w.heap.size w W) R hR => refformat_calls xs _ W (hx.below hb) hg R hR
  generalize decide (RightP xs) = b at *
  generalize fmtS xs = F at *
  generalize parS s = d at *
  obtain ⟨P, E, Z⟩ := d
  simp only at cP cQ cS hl
  have q1 : (E == E) = true := by simp
  have q2 : (Z == Z) = true := by simp
  have q3 : (b == b) = true := by simp
  have q4 : (F.toList == F.toList) = true := by simp
  replace cP := Lib.hid cP
  replace cQ := Lib.hid cQ
  replace cS := Lib.hid cS
  replace cA := Lib.hid cA
  replace cB := Lib.hid cB
  replace cC := Lib.hid cC
  replace cD := Lib.hid cD
  clear hx
  go_enter Try.func3, Try.ntmps3
  go_wp2_with fail
  refine cP.out _ (Lib.hid fun v1 w1 r1 n1 => ?_)
  have z1 := n1.size
  have b2 := (Below.refl w1.heap.size w1).alloc (Nat.le_refl _) (.cells #[.int .i64 E, .int .i64 Z] 26)
  have r2 := r1.below b2
  have x2 := box_c w1 E Z
  have y2 := box_c1 w1 E Z
  have l2 : w1.heap.size < (w1.alloc (.cells #[.int .i64 E, .int .i64 Z] 26)).heap.size := by simp
  have n2 := n1.trans (b2.mono z1)
  obtain ⟨A2, c2, rfl, -, -⟩ := RdP.op r2
  clear r1 n1 b2
  go_wp2_with fail
  generalize w1.alloc (.cells #[.int .i64 E, .int .i64 Z] 26) = w2 at *
  generalize w1.heap.size = p1 at *
  replace n2 := Lib.hid n2
  replace r2 := Lib.hid r2
  refine cQ.out _ _ (Lib.hid fun v3 w3 r3 n3 => ?_)
  have z3 := n3.size
  have b4 := (Below.refl w3.heap.size w3).alloc (Nat.le_refl _) (.cells #[.int .i64 E, .int .i64 Z] 26)
  have n24 := n3.trans (b4.mono z3)
  have r4 := r3.below b4
  have x4 := box_c w3 E Z
  have y4 := box_c1 w3 E Z
  have l4 : w3.heap.size < (w3.alloc (.cells #[.int .i64 E, .int .i64 Z] 26)).heap.size := by simp
  have x2' := (n24.cell (p := ⟨p1, 0, none⟩) l2).trans x2
  have y2' := (n24.cell (p := ⟨p1, 1, none⟩) l2).trans y2
  have r2' := Lib.hid (r2.out.below n24)
  have n4 := Lib.hid (n2.out.trans (n24.mono n2.out.size))
  obtain ⟨A4, c4, rfl, -, -⟩ := RdP.op r4
  clear r3 n3 b4 n24 x2 y2 r2 n2
  go_wp2_with fail
  generalize w3.alloc (.cells #[.int .i64 E, .int .i64 Z] 26) = w4 at *
  generalize w3.heap.size = p3 at *
  replace r4 := Lib.hid r4
  refine cS.out _ _ _ r2'.out r4.out _ (Lib.hid fun q => ?_)
  have n5 := Lib.hid (below_drewN n4.out q)
  have x5 : (w4.drewN q).cell? ⟨p1, 0, none⟩ = some (.int .i64 E) := x2'
  have y5 : (w4.drewN q).cell? ⟨p1, 1, none⟩ = some (.int .i64 Z) := y2'
  have x6 : (w4.drewN q).cell? ⟨p3, 0, none⟩ = some (.int .i64 E) := x4
  have y6 : (w4.drewN q).cell? ⟨p3, 1, none⟩ = some (.int .i64 Z) := y4
  clear x2' y2' x4 y4 r2' r4 n4
  generalize w4.drewN q = w5 at *
  go_wp2_with fail
  refine cA.out _ n5.out _ (Lib.hid fun w6 n6 => ?_)
  have n7 := Lib.hid (n5.out.trans (n6.mono n5.out.size))
  clear n6 n5 x5 y5 x6 y6
  go_wp2_with fail
  refine cB.out _ n7.out _ (Lib.hid fun w8 n8 => ?_)
  have n9 := Lib.hid (n7.out.trans (n8.mono n7.out.size))
  clear n8 n7
  go_wp2_with fail
  refine cC.out _ n9.out _ (Lib.hid fun w10 n10 => ?_)
  have n11 := Lib.hid (n9.out.trans (n10.mono n9.out.size))
  clear n10 n9
  go_wp2_with fail
  refine cD.out _ n11.out _ (Lib.hid fun w12 n12 => ?_)
  have n13 := Lib.hid (n11.out.trans (n12.mono n11.out.size))
  clear n12 n11
  go_wp2_with fail
  refine cL.out _ _ (Lib.hid fun w14 n14 => ?_)
  have n15 := Lib.hid (n13.out.trans (n14.mono n13.out.size))
  clear n13 n14
  go_wp2_with fail
  exact hR.out _ n15.out

theorem par_ok0 {s : ByteArray} : ∀ (f : Nat) {i : Nat} {acc : List St}, (parF s f i acc).2.1 = 0 → (parF s f i acc).2.2 = 0
  | 0, i, acc, _ => rfl
  | f + 1, i, acc, h => by
    rw [parF] at h ⊢
    by_cases h1 : i < s.size
    · rw [if_pos h1] at h ⊢
      by_cases h2 : 63 < acc.length
      · rw [if_pos h2] at h; simp at h
      · rw [if_neg h2] at h ⊢
        by_cases h3 : (stpS s i).2.2.1 ≠ 0
        · rw [if_pos h3] at h; exact absurd h h3
        · rw [if_neg h3] at h ⊢
          exact par_ok0 f h
    · rw [if_neg h1]
theorem RdP.take {w : World} {A : Option Addr} {c : Nat} {xs : List St} (h : RdP w (.slice A xs.length c) xs) {k : Nat} (hk : k ≤ xs.length) : RdP w (.slice A k c) (xs.take k) := by
  obtain ⟨A', n, c', e, hl, hn, hc⟩ := h
  simp only [Value.slice.injEq] at e
  obtain ⟨rfl, rfl, rfl⟩ := e
  refine ⟨A, k, c, rfl, by rw [flatG_len encP_len, List.length_take]; omega, by omega, fun h0 => ?_⟩
  have hlt : 0 < (flatG encP xs).length := by
    rw [flatG_len encP_len] at h0 ⊢
    rw [List.length_take] at h0; omega
  obtain ⟨g, o, rfl, hg, hcc⟩ := hc hlt
  refine ⟨g, o, rfl, hg, fun j u hj => hcc j u ?_⟩
  have e : flatG encP xs = flatG encP (xs.take k) ++ flatG encP (xs.drop k) := by rw [← flatG_append, List.take_append_drop]
  rw [e, List.getElem?_append_left (List.getElem?_eq_some_iff.1 hj).1]
  exact hj
theorem beg_take (xs : List St) (k : Nat) (hk : k ≤ xs.length) : begS xs (xs.take k) := by unfold begS; rw [List.length_take, Nat.min_eq_left hk]
theorem fmt_size {l : List St} (h : RightP l) (hb : ∀ x ∈ l, x.2.1 ≤ 9223372036854775807) : (fmtS l).size ≤ 34 * l.length := by
  rw [← bl_length, bl_fmt h]
  have h2 := h.2
  clear h
  induction l with
  | nil => simp [fmtL]
  | cons x l ih =>
    have := txt_bd (h2 x List.mem_cons_self) (hb x List.mem_cons_self)
    have := ih (fun y hy => hb y (List.mem_cons_of_mem _ hy)) (fun y hy => h2 y (List.mem_cons_of_mem _ hy))
    rw [fmtL_cons, List.length_append, List.length_cons]
    omega

set_option maxRecDepth 100000 in
set_option maxHeartbeats 2000000 in
/-- Behind the first half: a text that is a path's is that path's. -/
theorem back9_walk (xs : List St) (s : ByteArray) (v : Value) (w : World) (hs : s.size ≤ maxLen) (hx : RdP w v xs) (hg : ∀ x ∈ xs, GoodS x) (R : Ending → World → Prop)
    (hR : Hid (∀ w', Below w.heap.size w w' → R (.returned (.bool true)) w')) : Calls Try.prog 4 #[v, .string s] w R := by
  have cL := Lib.hid fun (W : World) R hR => lives9_calls W R hR
  obtain ⟨A, c, rfl, hlc, -⟩ := hx.op
  replace hs : s.size ≤ 9223372036854775807 := hs
  by_cases h1 : 1000 < s.size
  · clear hx
    go_enter Try.func4, Try.ntmps4
    go_wp2_with fail
    refine cL.out _ _ (Lib.hid fun w1 n1 => ?_)
    go_wp2_with fail
    exact hR.out _ n1
  have cP := fun (W : World) R hR => parse_steps s (by omega) W R hR
  have hd0 : (parS s).2.1 = 0 → (parS s).2.2 = 0 := par_ok0 _
  have hok : (parS s).2.1 = 0 → (∀ x ∈ (parS s).1, GoodS x) ∧ RightP (parS s).1 ∧ fmtS (parS s).1 = s := fun h => by
    have e : parS s = ((parS s).1, 0, 0) := Prod.ext rfl (Prod.ext h (hd0 h))
    obtain ⟨q1, q2, -⟩ := fmt_par e
    exact ⟨par_good e, q1, q2⟩
  have cRm := fun (W : World) (h : (parS s).2.1 = 0) (v : Value) (hv : RdP W v (parS s).1) R hR => right_steps (parS s).1 v W hv (hok h).1 R hR
  have cFm := fun (W : World) (h : (parS s).2.1 = 0) (v : Value) (hv : RdP W v (parS s).1) R hR => format_steps (parS s).1 v W hv (hok h).1 R hR
  have hRm : (parS s).2.1 = 0 → decide (RightP (parS s).1) = true := fun h => decide_eq_true (hok h).2.1
  have hFm : (parS s).2.1 = 0 → fmtS (parS s).1 = s := fun h => (hok h).2.2
  clear hok
  generalize decide (RightP (parS s).1) = bm at *
  generalize fmtS (parS s).1 = fm at *
  generalize parS s = d at *
  obtain ⟨P, E, Z⟩ := d
  simp only at cP cRm cFm hRm hFm hd0
  replace cP := Lib.hid cP
  replace cRm := Lib.hid cRm
  replace cFm := Lib.hid cFm
  replace hRm := Lib.hid hRm
  replace hFm := Lib.hid hFm
  replace hd0 := Lib.hid hd0
  have hss : (s.toList == s.toList) = true := by simp
  have cA := fun R hR => right_steps xs _ w hx hg R hR
  by_cases hP : RightP xs
  · have h64 := hP.1
    have hb : ∀ x ∈ xs, x.2.1 ≤ 9223372036854775807 := fun x hm => (hg x hm).2.1.2
    have hfz := fmt_size hP hb
    have hpf := par_fmt hP hb
    rw [decide_eq_true hP] at cA
    have cC := fun (W : World) (hb : Below w.heap.size w W) R hR => format_steps xs _ W (hx.below hb) hg R hR
    have cQ := fun (W : World) R hR => parse_steps (fmtS xs) (by omega) W R hR
    rw [hpf] at cQ
    simp only at cQ
    have cS := fun (W : World) (hb : Below w.heap.size w W) va ha R hR => refsame_steps xs xs va _ W ha (hx.below hb) (by omega) (by omega) R hR
    rw [decide_eq_true rfl] at cS
    have cM := fun (W : World) (hb : Below w.heap.size w W) R hR => match_self xs _ W (hx.below hb) (by omega) R hR
    have cO := fun (W : World) (hb : Below w.heap.size w W) vb hvb R hR => compare_same xs _ vb W (hx.below hb) hvb (by omega) R hR
    have hk2 : xs.length / 2 ≤ xs.length := by omega
    have cG := fun (W : World) (hb : Below w.heap.size w W) R hR => begins_steps xs (xs.take (xs.length / 2)) _ (.slice A (xs.length / 2) c) W (hx.below hb) (RdP.take (hx.below hb) hk2) (by omega) (by rw [List.length_take]; omega) R hR
    rw [decide_eq_true (beg_take xs _ hk2)] at cG
    clear hpf hfz hb
    generalize fmtS xs = F at *
    replace cA := Lib.hid cA
    replace cC := Lib.hid cC
    replace cQ := Lib.hid cQ
    replace cS := Lib.hid cS
    replace cM := Lib.hid cM
    replace cO := Lib.hid cO
    replace cG := Lib.hid cG
    clear hx hP
    go_enter Try.func4, Try.ntmps4
    go_wp2_with fail
    refine cA.out _ (Lib.hid fun w1 n1 => ?_)
    replace n1 := Lib.hid n1
    go_wp2_with fail
    refine cC.out _ n1.out _ (Lib.hid fun w2 n2 => ?_)
    have n3 := n1.out.trans (n2.mono n1.out.size)
    clear n1 n2
    replace n3 := Lib.hid n3
    go_wp2_with fail
    refine cQ.out _ _ (Lib.hid fun v4 w4 r4 n4 => ?_)
    have n5 := n3.out.trans (n4.mono n3.out.size)
    have b6 := (Below.refl w4.heap.size w4).alloc (Nat.le_refl _) (.cells #[.int .i64 0, .int .i64 0] 26)
    have r6 := r4.below b6
    have n6 := n5.trans (b6.mono n5.size)
    obtain ⟨A4, c4, rfl, -, -⟩ := RdP.op r6
    clear n3 n4 n5 r4 b6
    go_wp2_with fail
    generalize w4.alloc (.cells #[.int .i64 0, .int .i64 0] 26) = w6 at *
    replace n6 := Lib.hid n6
    replace r6 := Lib.hid r6
    refine cS.out _ n6.out _ r6.out _ (Lib.hid fun q => ?_)
    have n7 := Lib.hid (below_drewN n6.out q)
    have r7 := Lib.hid (RdG.below r6.out (below_drewN (Below.refl _ _) q))
    clear n6 r6
    generalize w6.drewN q = w7 at *
    go_wp2_with fail
    refine cM.out _ n7.out _ (Lib.hid fun w8 n8 => ?_)
    have n9 := Lib.hid (n7.out.trans (n8.mono n7.out.size))
    have r9 := Lib.hid (RdG.below r7.out n8)
    clear n7 r7 n8
    go_wp2_with fail
    refine cO.out _ n9.out _ r9.out _ (Lib.hid fun w10 n10 => ?_)
    have n11 := Lib.hid (n9.out.trans (n10.mono n9.out.size))
    clear n9 r9 n10
    go_wp2_with fail
    refine cG.out _ n11.out _ (Lib.hid fun w12 n12 => ?_)
    have n13 := Lib.hid (n11.out.trans (n12.mono n11.out.size))
    clear n11 n12
    go_wp2_with fail
    by_cases hE : E = 0
    · subst hE
      obtain rfl : Z = 0 := hd0.out rfl
      obtain rfl : bm = true := hRm.out rfl
      obtain rfl : fm = s := hFm.out rfl
      refine cP.out _ _ (Lib.hid fun va wa ra na => ?_)
      have nb := n13.out.trans (na.mono n13.out.size)
      have b6 := (Below.refl wa.heap.size wa).alloc (Nat.le_refl _) (.cells #[.int .i64 0, .int .i64 0] 26)
      have rb := ra.below b6
      have nc := nb.trans (b6.mono nb.size)
      have xb := box_c wa 0 0
      have yb := box_c1 wa 0 0
      obtain ⟨Ab, cb, rfl, -, -⟩ := RdP.op rb
      replace nc := Lib.hid nc
      replace rb := Lib.hid rb
      clear n13 na nb ra b6
      go_wp2_with fail
      refine cRm.out _ (by first | rfl | trivial) _ rb.out _ (Lib.hid fun wd nd => ?_)
      have ne := Lib.hid (nc.out.trans (nd.mono nc.out.size))
      have re := Lib.hid (RdG.below rb.out nd)
      clear nc nd rb
      go_wp2_with fail
      refine cFm.out _ (by first | rfl | trivial) _ re.out _ (Lib.hid fun wf nf => ?_)
      have ng := Lib.hid (ne.out.trans (nf.mono ne.out.size))
      clear ne nf re
      go_wp2_with fail
      refine cL.out _ _ (Lib.hid fun wh nh => ?_)
      have ni := Lib.hid (ng.out.trans (nh.mono ng.out.size))
      clear ng nh
      go_wp2_with fail
      exact hR.out _ ni.out
    · have hE' : (E == 0) = false := by simpa using hE
      clear hE
      refine cP.out _ _ (Lib.hid fun va wa ra na => ?_)
      have nb := n13.out.trans (na.mono n13.out.size)
      have b6 := (Below.refl wa.heap.size wa).alloc (Nat.le_refl _) (.cells #[.int .i64 E, .int .i64 Z] 26)
      have rb := ra.below b6
      have nc := nb.trans (b6.mono nb.size)
      have xb := box_c wa E Z
      have yb := box_c1 wa E Z
      obtain ⟨Ab, cb, rfl, -, -⟩ := RdP.op rb
      replace nc := Lib.hid nc
      replace rb := Lib.hid rb
      clear n13 na nb ra b6
      go_wp2_with fail
      refine cL.out _ _ (Lib.hid fun wh nh => ?_)
      have ni := Lib.hid (nc.out.trans (nh.mono nc.out.size))
      clear nc nh
      go_wp2_with fail
      exact hR.out _ ni.out
  · rw [decide_eq_false hP] at cA
    replace cA := Lib.hid cA
    clear hx hP
    go_enter Try.func4, Try.ntmps4
    go_wp2_with fail
    refine cA.out _ (Lib.hid fun w1 n1 => ?_)
    replace n1 := Lib.hid n1
    go_wp2_with fail
    by_cases hE : E = 0
    · subst hE
      obtain rfl : Z = 0 := hd0.out rfl
      obtain rfl : bm = true := hRm.out rfl
      obtain rfl : fm = s := hFm.out rfl
      refine cP.out _ _ (Lib.hid fun va wa ra na => ?_)
      have nb := n1.out.trans (na.mono n1.out.size)
      have b6 := (Below.refl wa.heap.size wa).alloc (Nat.le_refl _) (.cells #[.int .i64 0, .int .i64 0] 26)
      have rb := ra.below b6
      have nc := nb.trans (b6.mono nb.size)
      have xb := box_c wa 0 0
      have yb := box_c1 wa 0 0
      obtain ⟨Ab, cb, rfl, -, -⟩ := RdP.op rb
      replace nc := Lib.hid nc
      replace rb := Lib.hid rb
      clear n1 na nb ra b6
      go_wp2_with fail
      refine cRm.out _ (by first | rfl | trivial) _ rb.out _ (Lib.hid fun wd nd => ?_)
      have ne := Lib.hid (nc.out.trans (nd.mono nc.out.size))
      have re := Lib.hid (RdG.below rb.out nd)
      clear nc nd rb
      go_wp2_with fail
      refine cFm.out _ (by first | rfl | trivial) _ re.out _ (Lib.hid fun wf nf => ?_)
      have ng := Lib.hid (ne.out.trans (nf.mono ne.out.size))
      clear ne nf re
      go_wp2_with fail
      refine cL.out _ _ (Lib.hid fun wh nh => ?_)
      have ni := Lib.hid (ng.out.trans (nh.mono ng.out.size))
      clear ng nh
      go_wp2_with fail
      exact hR.out _ ni.out
    · have hE' : (E == 0) = false := by simpa using hE
      clear hE
      refine cP.out _ _ (Lib.hid fun va wa ra na => ?_)
      have nb := n1.out.trans (na.mono n1.out.size)
      have b6 := (Below.refl wa.heap.size wa).alloc (Nat.le_refl _) (.cells #[.int .i64 E, .int .i64 Z] 26)
      have rb := ra.below b6
      have nc := nb.trans (b6.mono nb.size)
      have xb := box_c wa E Z
      have yb := box_c1 wa E Z
      obtain ⟨Ab, cb, rfl, -, -⟩ := RdP.op rb
      replace nc := Lib.hid nc
      replace rb := Lib.hid rb
      clear n1 na nb ra b6
      go_wp2_with fail
      refine cL.out _ _ (Lib.hid fun wh nh => ?_)
      have ni := Lib.hid (nc.out.trans (nh.mono nc.out.size))
      clear nc nh
      go_wp2_with fail
      exact hR.out _ ni.out
end Go.Proofs.Ytjcmljdkegpjbaa.Pat
