/- strings.Cut at one byte, strings.CutPrefix of one byte. -/
import Derived.Test.YthelhplcijhioaaGreatG3
import Derived.Test.YthelhplcijhioaaGreatEscH
set_option maxRecDepth 100000
set_option linter.unusedVariables false
namespace Go.Proofs.YthelhplcijhioaaGreat.Cut
open Go.Shelf Go.RowKit Go.Lib Go.Proofs.YthelhplcijhioaaGreat.Utf

theorem bdq {B : Nat} {a w : World} (h : Below B a w) (n : Nat) : Below B a (w.drewN n) := ⟨h.os, h.tape, h.output, h.size, h.block⟩
/-- What strings.Cut at one byte hands back. -/
def cutC (c : UInt8) (x : ByteArray) : ByteArray × ByteArray × Bool :=
  if indexByte x.data.toList c < 0 then (x, ByteArray.empty, false) else (x.extract 0 (indexByte x.data.toList c).toNat, x.extract ((indexByte x.data.toList c).toNat + 1) x.size, true)
theorem mem_byN {x : ByteArray} {o : Nat} (h : o < x.size) (c : UInt8) : x.data.toList[o]? = some c ↔ byN x o = c.toNat := by
  have h' : o < x.data.toList.length := by simpa using h
  unfold byN
  rw [List.getElem?_eq_getElem h']
  simp only [List.getD, List.getElem?_eq_getElem h', Option.getD_some, Option.some.injEq]
  exact ⟨fun h => by rw [h], fun h => UInt8.toNat_inj.1 h⟩
theorem cut_cases (c : UInt8) (x : ByteArray) : (cutC c x = (x, ByteArray.empty, false) ∧ indexByte x.data.toList c = -1 ∧ ∀ j, j < x.size → byN x j ≠ c.toNat) ∨
    ∃ o, o < x.size ∧ indexByte x.data.toList c = (o : Int) ∧ cutC c x = (x.extract 0 o, x.extract (o + 1) x.size, true) ∧ byN x o = c.toNat ∧ ∀ j, j < o → byN x j ≠ c.toNat := by
  have hge := indexByte_ge x.data.toList c
  by_cases h : indexByte x.data.toList c = -1
  · refine .inl ⟨by unfold cutC; rw [if_pos (by omega)], h, fun j hj e => ?_⟩
    exact indexByte_none h j ((mem_byN hj c).2 e)
  · obtain ⟨o, ho⟩ : ∃ o : Nat, indexByte x.data.toList c = o := ⟨(indexByte x.data.toList c).toNat, by omega⟩
    obtain ⟨h1, h2⟩ := indexByte_some ho
    have hlt : o < x.size := by
      have := (List.getElem?_eq_some_iff.1 h1).1
      simpa using this
    refine .inr ⟨o, hlt, ho, by unfold cutC; rw [if_neg (by omega), ho]; rfl, (mem_byN hlt c).1 h1, fun j hj e => ?_⟩
    exact h2 j hj ((mem_byN (by omega) c).2 e)

theorem index_calls (c : UInt8) (x : ByteArray) (w : World) (R : Ending → World → Prop) (hR : Hid (R (.returned (.int .i64 (indexByte x.data.toList c))) w)) :
    Calls Tryz.prog 170 #[.string x, .string ⟨#[c]⟩] w R := by
  have := Any.stringslite_Index_one (ρ := YthelhplcijhioaaGreat.cutL_ren) { YthelhplcijhioaaGreat.cutL with } x c w
  change Calls Tryz.prog 170 _ _ _ at this
  refine this.mono ?_
  rintro e w' ⟨rfl, rfl⟩
  exact hR.out

set_option maxRecDepth 100000 in
set_option maxHeartbeats 1000000 in
theorem slcut_calls (c : UInt8) (x : ByteArray) (w : World) (hs : x.size ≤ 1000000) (R : Ending → World → Prop)
    (hR : Hid (∀ w', Below w.heap.size w w' → R (.returned (.tuple #[.string (cutC c x).1, .string (cutC c x).2.1, .bool (cutC c x).2.2])) w')) :
    Calls Tryz.prog 167 #[.string x, .string ⟨#[c]⟩] w R := by
  have cI := fun (W : World) R hR => index_calls c x W R hR
  obtain ⟨b, hb⟩ : ∃ b : ByteArray, b = ⟨#[c]⟩ := ⟨_, rfl⟩
  have hbz : b.size = 1 := by subst hb; rfl
  rw [← hb] at cI ⊢
  rcases cut_cases c x with ⟨e, hi, -⟩ | ⟨o, ho, hi, e, -⟩
  · rw [e] at hR
    rw [hi] at cI
    clear e hi hb
    replace cI := Lib.hid cI
    go_enter Tryz.func167, Tryz.ntmps167
    go_wp2_with fail
    refine cI.out _ _ (Lib.hid ?_)
    go_wp2_with fail
    go_ret3
    exact hR.out _ (Below.refl _ _)
  · rw [e] at hR
    rw [hi] at cI
    clear e hi hb
    replace cI := Lib.hid cI
    have c1 : (0 : Int) ≤ ↑o := by omega
    have c2 : (↑o : Int) ≤ ↑x.size := by omega
    have c3 : (0 : Int) ≤ ↑o + 1 := by omega
    have c4 : (↑o + 1 : Int) ≤ ↑x.size := by omega
    go_enter Tryz.func167, Tryz.ntmps167
    go_wp2_with fail
    refine cI.out _ _ (Lib.hid ?_)
    go_wp2_with fail
    go_region
    go_wp2_with fail
    go_ret3
    exact hR.out _ (bdq (Below.refl _ _) _)

theorem cut_calls (c : UInt8) (x : ByteArray) (w : World) (hs : x.size ≤ 1000000) (R : Ending → World → Prop)
    (hR : Hid (∀ w', Below w.heap.size w w' → R (.returned (.tuple #[.string (cutC c x).1, .string (cutC c x).2.1, .bool (cutC c x).2.2])) w')) :
    Calls Tryz.prog 161 #[.string x, .string ⟨#[c]⟩] w R := by
  have cI := fun (W : World) R hR => slcut_calls c x W hs R hR
  generalize cutC c x = d at *
  obtain ⟨a, b, f⟩ := d
  simp only at cI hR
  replace cI := Lib.hid cI
  obtain ⟨b', hb⟩ : ∃ b : ByteArray, b = ⟨#[c]⟩ := ⟨_, rfl⟩
  rw [← hb] at cI ⊢
  clear hb
  go_enter Tryz.func161, Tryz.ntmps161
  go_wp2_with fail
  refine cI.out _ _ (fun w1 n1 => ?_)
  go_wp2_with fail
  go_ret3
  exact hR.out _ n1

/-- What strings.CutPrefix of one byte hands back. -/
def preC (c : UInt8) (x : ByteArray) : ByteArray × Bool := if 1 ≤ x.size ∧ byN x 0 = c.toNat then (x.extract 1 x.size, true) else (x, false)
theorem ret2sb {R : Ending → World → Prop} {w : World} {a a' : ByteArray} {b b' : Bool} (h : R (.returned (.tuple #[.string a, .bool b])) w) (e1 : a = a') (e2 : b = b') :
    R (.returned (.tuple #[.string a', .bool b'])) w := by subst e1 e2; exact h
theorem bl_head1 {x : ByteArray} (h : 1 ≤ x.size) : bl (x.extract 0 1) = [(byN x 0 : Int)] := by
  have h0 := bl_get x 0 (by omega)
  rw [bl_extract, List.drop_zero, List.take_one, List.head?_eq_getElem?, h0]
  rfl
theorem head_eq {x : ByteArray} (h : 1 ≤ x.size) (c : UInt8) : ((x.extract 0 1).toList == (⟨#[c]⟩ : ByteArray).toList) = decide (byN x 0 = c.toNat) := by
  rw [bl_inj, bl_head1 h]
  have : bl ⟨#[c]⟩ = [(c.toNat : Int)] := rfl
  rw [this]
  simp
  omega
theorem haspre_calls (c : UInt8) (x : ByteArray) (w : World) (hs : x.size ≤ 1000000) (R : Ending → World → Prop) (hR : Hid (R (.returned (.bool (preC c x).2)) w)) :
    Calls Tryz.prog 146 #[.string x, .string ⟨#[c]⟩] w R := by
  unfold preC at hR
  have hh := fun h : 1 ≤ x.size => head_eq h c
  obtain ⟨b, hb⟩ : ∃ b : ByteArray, b = ⟨#[c]⟩ := ⟨_, rfl⟩
  have hbz : b.size = 1 := by subst hb; rfl
  rw [← hb] at hh ⊢
  clear hb
  by_cases h1 : 1 ≤ x.size
  · have h2 := hh h1
    clear hh
    have e : (if 1 ≤ x.size ∧ byN x 0 = c.toNat then (x.extract 1 x.size, true) else (x, false)).2 = decide (byN x 0 = c.toNat) := by
      by_cases h3 : byN x 0 = c.toNat
      · rw [if_pos ⟨h1, h3⟩]; simp [h3]
      · rw [if_neg (fun h => h3 h.2)]; simp [h3]
    rw [e] at hR
    clear e
    have h5 : (1 : Int) ≤ (x.size : Int) := by omega
    generalize decide (byN x 0 = c.toNat) = d at *
    cases d
    · go_enter Tryz.func146, Tryz.ntmps146
      go_wp2_with fail
      exact hR.out
    · go_enter Tryz.func146, Tryz.ntmps146
      go_wp2_with fail
      exact hR.out
  · clear hh
    rw [if_neg (fun h => h1 h.1)] at hR
    have h0 : x.size = 0 := by omega
    go_enter Tryz.func146, Tryz.ntmps146
    go_wp2_with fail
    exact hR.out
theorem slpre_calls (c : UInt8) (x : ByteArray) (w : World) (hs : x.size ≤ 1000000) (R : Ending → World → Prop)
    (hR : Hid (R (.returned (.tuple #[.string (preC c x).1, .bool (preC c x).2])) w)) :
    Calls Tryz.prog 166 #[.string x, .string ⟨#[c]⟩] w R := by
  have cH := fun (W : World) R hR => haspre_calls c x W hs R hR
  have hp : (preC c x = (x.extract 1 x.size, true) ∧ 1 ≤ x.size) ∨ preC c x = (x, false) := by
    unfold preC; split
    · next h => exact .inl ⟨rfl, h.1⟩
    · exact .inr rfl
  obtain ⟨b, hb⟩ : ∃ b : ByteArray, b = ⟨#[c]⟩ := ⟨_, rfl⟩
  have hbz : b.size = 1 := by subst hb; rfl
  rw [← hb] at cH ⊢
  clear hb
  rcases hp with ⟨e, h1⟩ | e
  · rw [e] at hR cH
    clear e
    simp only at hR cH
    replace cH := Lib.hid cH
    have h5 : (1 : Int) ≤ (x.size : Int) := by omega
    go_enter Tryz.func166, Tryz.ntmps166
    go_wp2_with fail
    refine cH.out _ _ (Lib.hid ?_)
    go_wp2_with fail
    exact hR.out
  · rw [e] at hR cH
    clear e
    simp only at hR cH
    replace cH := Lib.hid cH
    go_enter Tryz.func166, Tryz.ntmps166
    go_wp2_with fail
    refine cH.out _ _ (Lib.hid ?_)
    go_wp2_with fail
    exact hR.out
theorem pre_calls (c : UInt8) (x : ByteArray) (w : World) (hs : x.size ≤ 1000000) (R : Ending → World → Prop)
    (hR : Hid (R (.returned (.tuple #[.string (preC c x).1, .bool (preC c x).2])) w)) :
    Calls Tryz.prog 160 #[.string x, .string ⟨#[c]⟩] w R := by
  have cH := fun (W : World) R hR => slpre_calls c x W hs R hR
  obtain ⟨b, hb⟩ : ∃ b : ByteArray, b = ⟨#[c]⟩ := ⟨_, rfl⟩
  rw [← hb] at cH ⊢
  clear hb
  generalize preC c x = d at *
  obtain ⟨a, f⟩ := d
  simp only at hR cH
  replace cH := Lib.hid cH
  go_enter Tryz.func160, Tryz.ntmps160
  go_wp2_with fail
  refine cH.out _ _ (Lib.hid ?_)
  go_wp2_with fail
  exact hR.out
end Go.Proofs.YthelhplcijhioaaGreat.Cut
