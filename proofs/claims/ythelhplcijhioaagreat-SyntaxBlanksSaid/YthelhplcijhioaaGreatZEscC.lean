/- The code's One. -/
import Derived.Test.YthelhplcijhioaaGreatZEscB
import Derived.Test.YthelhplcijhioaaGreatZCutV
set_option maxRecDepth 100000
set_option linter.unusedVariables false
namespace Go.Proofs.YthelhplcijhioaaGreat.Esc
open Go.RowKit Go.Lib Go.Proofs.YthelhplcijhioaaGreat.Utf Go.Proofs.YthelhplcijhioaaGreat.Ran Go.Proofs.YthelhplcijhioaaGreat.Cel

theorem ret3t {R : Ending → World → Prop} {w : World} {a a' : ByteArray} {b b' : Int} {c c' : Bool} (h : R (.returned (.tuple #[.string a, .int .i64 b, .bool c])) w) (e1 : a = a') (e2 : b = b') (e3 : c = c') :
    R (.returned (.tuple #[.string a', .int .i64 b', .bool c'])) w := by subst e1 e2 e3; exact h
/-- What One's helpers hand back. -/
abbrev oneT (p : List Int × Nat) : Value := .tuple #[.string (strOfNums p.1), .int .i64 p.2, .bool (decide (p.2 ≠ 0))]
def byteP (l : List Int) : List Int × Nat := if 2 ≤ l.length ∧ 0 ≤ hexV (l.take 2) then ([hexV (l.take 2)], 4) else ([], 0)
def uniP (l : List Int) : List Int × Nat := match uniS l with | some (r, k) => (encL r, k + 4) | none => ([], 0)

set_option maxRecDepth 100000 in
theorem oneByte_calls (x : ByteArray) (w : World) (hs : x.size ≤ 1000000) (R : Ending → World → Prop)
    (hR : Hid (∀ w', Below w.heap.size w w' → R (.returned (oneT (byteP (bl x)))) w')) : Calls Tryz.prog 155 #[.string x] w R := by
  by_cases h2 : 2 ≤ x.size
  · have hz : (x.extract 0 2).size = 2 := by rw [ByteArray.size_extract]; omega
    have cN := fun (W : World) R hR => number_calls (x.extract 0 2) (by omega) W R hR
    rw [bl_upto] at cN
    have hb := hexV_bd ((bl x).take 2)
    have hl : ((bl x).take 2).length ≤ 2 := by rw [List.length_take]; omega
    have hP : byteP (bl x) = if 0 ≤ hexV ((bl x).take 2) then ([hexV ((bl x).take 2)], 4) else ([], 0) := by
      unfold byteP
      rw [bl_length]
      by_cases h : 0 ≤ hexV ((bl x).take 2)
      · rw [if_pos ⟨h2, h⟩, if_pos h]
      · rw [if_neg (fun e => h e.2), if_neg h]
    rw [hP] at hR
    have hb2 := hb.2.2.2 hl
    have hb1 := hb.1
    clear hP hb hl
    generalize hexV ((bl x).take 2) = v at *
    have cv := cvB
    by_cases hv : 0 ≤ v
    · rw [if_pos hv] at hR
      rw [if_neg (by omega), decide_eq_true hv] at cN
      replace cN := Lib.hid cN
      go_enter Tryz.func155, Tryz.ntmps155
      go_wp2_with fail
      refine cN.out _ _ (fun w1 n1 => ?_)
      go_wp2_with fail
      go_ret3
      exact hR.out _ (n1.alloc n1.size _)
    · rw [if_neg hv] at hR
      rw [if_pos (by omega), decide_eq_false hv] at cN
      replace cN := Lib.hid cN
      go_enter Tryz.func155, Tryz.ntmps155
      go_wp2_with fail
      refine cN.out _ _ (fun w1 n1 => ?_)
      go_wp2_with fail
      go_ret3
      exact hR.out _ n1
  · have hP : byteP (bl x) = ([], 0) := by unfold byteP; rw [bl_length, if_neg (fun e => h2 e.1)]
    rw [hP] at hR
    clear hP
    go_enter Tryz.func155, Tryz.ntmps155
    go_wp2_with fail
    go_ret3
    exact hR.out _ (Below.refl _ _)

theorem uni_open {x : ByteArray} (h : ¬ (1 ≤ x.size ∧ byN x 0 = 123)) : uniS (bl x) = none := by
  unfold uniS
  rw [if_neg]
  rw [List.head?_eq_getElem?]
  intro e
  have h1 := byN_of_bl e
  have h0 : 1 ≤ x.size := by
    have := (List.getElem?_eq_some_iff.1 e).1
    rw [bl_length] at this
    omega
  exact h ⟨h0, by omega⟩
theorem uni_head {x : ByteArray} (h1 : 1 ≤ x.size) (h : byN x 0 = 123) : (bl x).head? = some 123 := by
  rw [List.head?_eq_getElem?, bl_get x 0 (by omega), h]; rfl
theorem bl_seven {x : ByteArray} {M : Nat} (hM : M = min (x.size - 1) 7) : bl ((x.extract 1 x.size).extract 0 M) = ((bl x).drop 1).take 7 := by
  rw [bl_upto, bl_from, hM]
  by_cases h : x.size - 1 ≤ 7
  · rw [List.take_of_length_le (by rw [List.length_drop, bl_length]; omega), List.take_of_length_le (by rw [List.length_drop, bl_length]; omega)]
  · rw [show min (x.size - 1) 7 = 7 by omega]
theorem get_bl {y : ByteArray} {j : Nat} {l : List Int} (h : bl y = l) (hj : j < l.length) : l[j]? = some (byN y j : Int) := by
  rw [← h]
  exact bl_get y j (by rw [← bl_length, h]; exact hj)
theorem uni_unclosed {x y : ByteArray} (hy : bl y = ((bl x).drop 1).take 7) (h : ∀ j, j < y.size → byN y j ≠ 125) : uniS (bl x) = none := by
  unfold uniS
  split
  · rw [if_neg]
    intro e
    rw [← hy] at e
    have : fi (bl y) = (bl y).length := fi_none fun j hj e2 => by
      rw [bl_get y j (by rw [← bl_length]; exact hj)] at e2
      simp only [Option.some.injEq] at e2
      exact h j (by rw [← bl_length]; exact hj) (by omega)
    omega
  · rfl
theorem uni_hit {x y : ByteArray} {o : Nat} (h1 : 1 ≤ x.size) (h2 : byN x 0 = 123) (hy : bl y = ((bl x).drop 1).take 7) (ho : o < y.size) (h3 : byN y o = 125) (hn : ∀ j, j < o → byN y j ≠ 125) :
    uniS (bl x) = if 0 ≤ hexV (bl (y.extract 0 o)) ∧ scalarB (hexV (bl (y.extract 0 o))) = true then some (hexV (bl (y.extract 0 o)), o) else none := by
  have hf : fi (bl y) = o := by
    refine fi_hit ?_ fun j hj e => ?_
    · rw [bl_get y o ho, h3]; rfl
    · rw [bl_get y j (by omega)] at e
      simp only [Option.some.injEq] at e
      exact hn j hj (by omega)
  unfold uniS
  rw [if_pos (uni_head h1 h2), ← hy, hf, bl_upto]
  by_cases h : 0 ≤ hexV ((bl y).take o) ∧ scalarB (hexV ((bl y).take o)) = true
  · rw [if_pos ⟨by rw [bl_length]; exact ho, h⟩, if_pos h]
  · rw [if_neg (fun e => h e.2), if_neg h]
theorem pre_yes {x : ByteArray} (h : 1 ≤ x.size ∧ byN x 0 = 123) : Cut.preC 123 x = (x.extract 1 x.size, true) := if_pos h
theorem pre_no {x : ByteArray} (h : ¬ (1 ≤ x.size ∧ byN x 0 = 123)) : Cut.preC 123 x = (x, false) := if_neg h
set_option maxRecDepth 100000 in
set_option maxHeartbeats 1000000 in
theorem oneScalar_calls (x : ByteArray) (w : World) (hs : x.size ≤ 1000000) (R : Ending → World → Prop)
    (hR : Hid (∀ w', Below w.heap.size w w' → R (.returned (oneT (uniP (bl x)))) w')) : Calls Tryz.prog 156 #[.string x] w R := by
  have cP := fun (W : World) R hR => Cut.pre_calls 123 x W hs R hR
  by_cases h1 : 1 ≤ x.size ∧ byN x 0 = 123
  · rw [pre_yes h1] at cP
    have hz : (x.extract 1 x.size).size = x.size - 1 := by rw [ByteArray.size_extract]; omega
    obtain ⟨M, hM⟩ : ∃ M : Nat, M = min (x.size - 1) 7 := ⟨_, rfl⟩
    have hMi : min ((x.extract 1 x.size).size : Int) 7 = (M : Int) := by omega
    have hM7 : M ≤ 7 := by omega
    have hMz : M ≤ (x.extract 1 x.size).size := by omega
    have hy := bl_seven hM
    have hyz : ((x.extract 1 x.size).extract 0 M).size = M := by rw [ByteArray.size_extract]; omega
    have cC := fun (W : World) R hR => Cut.cut_calls 125 ((x.extract 1 x.size).extract 0 M) W (by omega) R hR
    have hu1 := fun h => uni_unclosed hy h
    have hu2 := fun (o : Nat) h3 h4 h5 => uni_hit (o := o) h1.1 h1.2 hy h3 h4 h5
    have hcs := Cut.cut_cases 125 ((x.extract 1 x.size).extract 0 M)
    simp only at cP
    generalize hi : x.extract 1 x.size = inner at *
    generalize hyy : inner.extract 0 M = y at *
    clear hy hM h1 hi hs hz
    rcases hcs with ⟨e, -, hn⟩ | ⟨o, ho, -, e, h125, hn⟩
    · rw [e] at cC
      unfold uniP at hR
      rw [hu1 hn] at hR
      clear hu1 hu2 hn e
      simp only at cC hR
      replace cC := Lib.hid cC
      replace cP := Lib.hid cP
      go_enter Tryz.func156, Tryz.ntmps156
      go_wp2_with fail
      refine cP.out _ _ (Lib.hid ?_)
      go_wp2_with fail
      refine cC.out _ _ (fun w1 n1 => ?_)
      go_wp2_with fail
      go_ret3
      exact hR.out _ n1
    · rw [e] at cC
      unfold uniP at hR
      rw [hu2 o ho h125 hn] at hR
      clear hu1 hu2 hn e h125
      simp only at cC hR
      have hdz : (y.extract 0 o).size = o := by rw [ByteArray.size_extract]; omega
      have cN := fun (W : World) R hR => number_calls (y.extract 0 o) (by omega) W R hR
      have hb := hexV_bd (bl (y.extract 0 o))
      have hb1 := hb.1
      have hb2 := hb.2.1
      clear hb
      generalize hexV (bl (y.extract 0 o)) = v at *
      generalize y.extract 0 o = dgs at *
      replace cC := Lib.hid cC
      replace cP := Lib.hid cP
      by_cases hv : 0 ≤ v
      · rw [if_neg (by omega), decide_eq_true hv] at cN
        replace cN := Lib.hid cN
        have cS := fun (W : World) R h => scalar_calls v W R h
        have cE := fun (W : World) R h => enc_calls v W R h
        cases hsc : scalarB v
        · rw [if_neg (fun e => by rw [hsc] at e; exact absurd e.2 (by decide))] at hR
          rw [hsc] at cS
          clear hsc cE
          simp only at hR
          replace cS := Lib.hid cS
          go_enter Tryz.func156, Tryz.ntmps156
          go_wp2_with fail
          refine cP.out _ _ (Lib.hid ?_)
          go_wp2_with fail
          refine cC.out _ _ (fun w1 n1 => ?_)
          go_wp2_with fail
          refine cN.out _ _ (fun w2 n2 => ?_)
          replace n2 := n1.trans (n2.mono n1.size)
          go_wp2_with fail
          refine cS.out _ _ ?_
          go_wp2_with fail
          go_ret3
          exact hR.out _ n2
        · rw [if_pos ⟨hv, hsc⟩] at hR
          rw [hsc] at cS
          clear hsc
          simp only at hR
          replace cS := Lib.hid cS
          replace cE := Lib.hid cE
          go_enter Tryz.func156, Tryz.ntmps156
          go_wp2_with fail
          refine cP.out _ _ (Lib.hid ?_)
          go_wp2_with fail
          refine cC.out _ _ (fun w1 n1 => ?_)
          go_wp2_with fail
          refine cN.out _ _ (fun w2 n2 => ?_)
          replace n2 := n1.trans (n2.mono n1.size)
          go_wp2_with fail
          refine cS.out _ _ ?_
          go_wp2_with fail
          refine cE.out _ _ (Lib.hid fun w3 n3 => ?_)
          replace n3 := n2.trans (n3.mono n2.size)
          go_wp2_with fail
          go_ret3
          refine ret3t (hR.out _ n3) rfl (by omega) (decide_eq_true (by omega))
      · rw [if_pos (by omega), decide_eq_false hv] at cN
        rw [if_neg (fun e => hv e.1)] at hR
        simp only at hR
        replace cN := Lib.hid cN
        go_enter Tryz.func156, Tryz.ntmps156
        go_wp2_with fail
        refine cP.out _ _ (Lib.hid ?_)
        go_wp2_with fail
        refine cC.out _ _ (fun w1 n1 => ?_)
        go_wp2_with fail
        refine cN.out _ _ (fun w2 n2 => ?_)
        replace n2 := n1.trans (n2.mono n1.size)
        go_wp2_with fail
        go_ret3
        exact hR.out _ n2
  · rw [pre_no h1] at cP
    obtain ⟨M, hM⟩ : ∃ M : Nat, M = min x.size 7 := ⟨_, rfl⟩
    have hMi : min (x.size : Int) 7 = (M : Int) := by omega
    have hMz : M ≤ x.size := by omega
    have hyz : (x.extract 0 M).size = M := by rw [ByteArray.size_extract]; omega
    have cC := fun (W : World) R hR => Cut.cut_calls 125 (x.extract 0 M) W (by omega) R hR
    unfold uniP at hR
    rw [uni_open h1] at hR
    generalize Cut.cutC 125 (x.extract 0 M) = d at *
    obtain ⟨a, b, f⟩ := d
    simp only at cC hR cP
    generalize hyy : x.extract 0 M = y at *
    clear h1 hM
    replace cC := Lib.hid cC
    replace cP := Lib.hid cP
    go_enter Tryz.func156, Tryz.ntmps156
    go_wp2_with fail
    refine cP.out _ _ (Lib.hid ?_)
    go_wp2_with fail
    refine cC.out _ _ (fun w1 n1 => ?_)
    go_wp2_with fail
    go_ret3
    exact hR.out _ n1
end Go.Proofs.YthelhplcijhioaaGreat.Esc
