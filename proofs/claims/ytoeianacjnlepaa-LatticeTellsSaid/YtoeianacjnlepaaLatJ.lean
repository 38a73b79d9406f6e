/- The code of layer 11: what a lattice is in memory, and what it tells. -/
import Derived.Test.YtoeianacjnlepaaLatD
import Derived.Test.YtoeianacjnlepaaNamH
import Derived.Test.YtoeianacjnlepaaRelX
set_option maxRecDepth 100000
set_option linter.unusedVariables false
namespace Go.Proofs.Ytoeianacjnlepaa.Lat
open Go.RowKit Go.Lib Go.Proofs.Ytoeianacjnlepaa.Rel Go.Proofs.Ytoeianacjnlepaa.Nam

/-- The levels of a lattice that lies at p: their names, and the table that finds them. -/
def LevP (w : World) (p : Nat) (nm : List ByteArray) : Prop :=
  ∃ v1 v2, p < w.heap.size ∧ w.cell? ⟨p, 0, none⟩ = some v1 ∧ w.cell? ⟨p, 1, none⟩ = some v2 ∧ RdS w v1 nm ∧ (v1 = .slice none 0 0 ∨ ∃ g o n c, v1 = .slice (some ⟨g, o, none⟩) n c) ∧ RdT w v2 nm ∧ nm.length ≤ 32
theorem LevP.below {w w' : World} {p : Nat} {nm : List ByteArray} (h : LevP w p nm) (hb : Below w.heap.size w w') : LevP w' p nm := by
  obtain ⟨v1, v2, hp, h1, h2, h3, h4, h5, h6⟩ := h
  exact ⟨v1, v2, Nat.lt_of_lt_of_le hp hb.size, (hb.cell (p := ⟨p, 0, none⟩) hp).trans h1, (hb.cell (p := ⟨p, 1, none⟩) hp).trans h2, h3.below hb, h4, h5.below hb, h6⟩
theorem LevP.lt {w : World} {p : Nat} {nm : List ByteArray} (h : LevP w p nm) : p < w.heap.size := by
  obtain ⟨v1, v2, hp, -⟩ := h
  exact hp
/-- A matrix of levels that lies at p from the cell o on. -/
def MtP (w : World) (p o n : Nat) (J : Nat → Nat → Int) : Prop := ∀ a b, a < n → b < n → w.cell? ⟨p, o + a * 32 + b, none⟩ = some (.int .i8 (J a b))
theorem MtP.below {w w' : World} {p o n : Nat} {J : Nat → Nat → Int} (h : MtP w p o n J) (hp : p < w.heap.size) (hb : Below w.heap.size w w') : MtP w' p o n J :=
  fun a b ha hb' => (hb.cell (p := ⟨p, o + a * 32 + b, none⟩) hp).trans (h a b ha hb')
/-- A pointer to a lattice of levels with these names, F telling what is at most what. -/
def LatP (w : World) (v : Value) (nm : List ByteArray) (F : Nat → Nat → Bool) : Prop :=
  ∃ p, v = .pointer (some ⟨p, 0, none⟩) ∧ LevP w p nm ∧ MtP w p 2 nm.length (joinS nm.length F) ∧ MtP w p 1026 nm.length (joinS nm.length (flp F)) ∧ Latt nm.length F
theorem LatP.below {w w' : World} {v : Value} {nm : List ByteArray} {F : Nat → Nat → Bool} (h : LatP w v nm F) (hb : Below w.heap.size w w') : LatP w' v nm F := by
  obtain ⟨p, rfl, h1, h2, h3, h4⟩ := h
  exact ⟨p, rfl, h1.below hb, h2.below h1.lt hb, h3.below h1.lt hb, h4⟩
theorem LatP.ptr {w : World} {v : Value} {nm : List ByteArray} {F : Nat → Nat → Bool} (h : LatP w v nm F) : ∃ p, v = .pointer (some ⟨p, 0, none⟩) := by
  obtain ⟨p, rfl, -⟩ := h
  exact ⟨p, rfl⟩
theorem LatP.latt {w : World} {v : Value} {nm : List ByteArray} {F : Nat → Nat → Bool} (h : LatP w v nm F) : Latt nm.length F ∧ nm.length ≤ 32 := by
  obtain ⟨p, rfl, ⟨v1, v2, -, -, -, -, -, -, h6⟩, -, -, h4⟩ := h
  exact ⟨h4, h6⟩

set_option maxHeartbeats 400000 in
theorem latlenx_calls (nm : List ByteArray) (p : Nat) (w : World) (h : LevP w p nm) (R : Ending → World → Prop) (hR : Hid (R (.returned (.int .i64 nm.length)) w)) : Calls Try.prog 15 #[.pointer (some ⟨p, 0, none⟩)] w R := by
  obtain ⟨v1, v2, hp, h1, -, h3, -, -, -⟩ := h
  obtain ⟨A, c, rfl, hc, -⟩ := h3.open
  clear h3
  go_enter Try.func15, Try.ntmps15
  go_wp2_with fail
  exact hR.out
set_option maxHeartbeats 400000 in
theorem latlenN_calls (w : World) (R : Ending → World → Prop) (hR : Hid (∀ w', Below w.heap.size w w' → R (.returned (.int .i64 0)) w')) : Calls Try.prog 15 #[.pointer none] w R := by
  go_enter Try.func15, Try.ntmps15
  go_wp2_with fail
  exact hR.out _ (Below.refl _ _)
set_option maxHeartbeats 400000 in
theorem latlevel_calls (nm : List ByteArray) (p : Nat) (w : World) (h : LevP w p nm) (a : Int) (b : Bool) (hb : b = decide (0 ≤ a ∧ a < nm.length)) (R : Ending → World → Prop) (hR : Hid (R (.returned (.bool b)) w)) : Calls Try.prog 42 #[.pointer (some ⟨p, 0, none⟩), .int .i64 a] w R := by
  have cL := Lib.hid fun R hR => latlenx_calls nm p w h R hR
  clear h
  by_cases h0 : 0 ≤ a
  · by_cases h1 : a < nm.length
    · obtain rfl : b = true := by rw [hb]; exact decide_eq_true ⟨h0, h1⟩
      clear hb
      go_enter Try.func42, Try.ntmps42
      go_wp2_with fail
      refine cL.out _ (Lib.hid ?_)
      go_wp2_with fail
      exact hR.out
    · obtain rfl : b = false := by rw [hb]; exact decide_eq_false (fun h => h1 h.2)
      clear hb
      go_enter Try.func42, Try.ntmps42
      go_wp2_with fail
      refine cL.out _ (Lib.hid ?_)
      go_wp2_with fail
      exact retB hR.out (decide_eq_false (by omega)).symm
  · obtain rfl : b = false := by rw [hb]; exact decide_eq_false (fun h => h0 h.1)
    clear hb
    go_enter Try.func42, Try.ntmps42
    go_wp2_with fail
    exact hR.out
set_option maxHeartbeats 400000 in
theorem latlevelN_calls (w : World) (a : Int) (R : Ending → World → Prop) (hR : Hid (∀ w', Below w.heap.size w w' → R (.returned (.bool false)) w')) : Calls Try.prog 42 #[.pointer none, .int .i64 a] w R := by
  by_cases h0 : 0 ≤ a
  · go_enter Try.func42, Try.ntmps42
    go_wp2_with fail
    refine latlenN_calls _ _ (Lib.hid fun w1 n1 => ?_)
    go_wp2_with fail
    exact retB (hR.out _ n1) (decide_eq_false (by omega)).symm
  · go_enter Try.func42, Try.ntmps42
    go_wp2_with fail
    exact hR.out _ (Below.refl _ _)

set_option maxHeartbeats 400000 in
theorem latnamex_calls (nm : List ByteArray) (p : Nat) (w : World) (h : LevP w p nm) (i : Int) (R : Ending → World → Prop) (hR : Hid (R (.returned (.string (if 0 ≤ i ∧ i < nm.length then nm.getD i.toNat ByteArray.empty else ByteArray.empty))) w)) : Calls Try.prog 24 #[.pointer (some ⟨p, 0, none⟩), .int .i64 i] w R := by
  have cE := Lib.hid fun b hb R hR => latlevel_calls nm p w h i b hb R hR
  obtain ⟨v1, v2, hp, h1, -, h3, -, -, -⟩ := h
  obtain ⟨A, c, rfl, hc, hr⟩ := h3.open
  replace hr := Lib.hid hr
  clear h3
  by_cases hi : 0 ≤ i ∧ i < nm.length
  · rw [if_pos hi] at hR
    replace cE := Lib.hid (cE.out true (decide_eq_true hi).symm)
    obtain ⟨k, rfl⟩ : ∃ k : Nat, i = k := ⟨i.toNat, by omega⟩
    rw [Int.toNat_natCast] at hR
    obtain ⟨g, o, rfl, hg, hca⟩ := hr.out (by omega)
    have e0 := hca k (by omega)
    generalize nm.getD k ByteArray.empty = s at *
    have hi0 : (0 : Int) ≤ (k : Int) := by omega
    have hi1 : (k : Int) < (nm.length : Int) := by omega
    clear hca hi
    go_enter Try.func24, Try.ntmps24
    go_wp2_with fail
    refine cE.out _ (Lib.hid ?_)
    go_wp2_with fail
    exact hR.out
  · rw [if_neg hi] at hR
    replace cE := Lib.hid (cE.out false (decide_eq_false hi).symm)
    clear hi
    go_enter Try.func24, Try.ntmps24
    go_wp2_with fail
    refine cE.out _ (Lib.hid ?_)
    go_wp2_with fail
    exact hR.out
set_option maxHeartbeats 400000 in
theorem latnameN_calls (w : World) (R : Ending → World → Prop) (i : Int) (hi : Bd i) (hR : Hid (∀ w', Below w.heap.size w w' → R (.returned (.string ByteArray.empty)) w')) : Calls Try.prog 24 #[.pointer none, .int .i64 i] w R := by
  go_enter Try.func24, Try.ntmps24
  go_wp2_with fail
  refine latlevelN_calls _ _ _ (Lib.hid fun w1 n1 => ?_)
  go_wp2_with fail
  exact hR.out _ n1
set_option maxHeartbeats 400000 in
theorem latnamesx_calls (nm : List ByteArray) (p : Nat) (w : World) (h : LevP w p nm) (R : Ending → World → Prop) (hR : Hid (∀ v' w', RdS w' v' nm → Below w.heap.size w w' → R (.returned v') w')) : Calls Try.prog 16 #[.pointer (some ⟨p, 0, none⟩)] w R := by
  obtain ⟨v1, v2, hp, h1, -, h3, h4, -, h6⟩ := h
  have cC := Lib.hid fun R hR => clone_calls nm v1 w h3 h4 (by omega) R hR
  obtain ⟨A, c, rfl, -, -⟩ := h3.open
  clear h3 h4
  go_enter Try.func16, Try.ntmps16
  go_wp2_with fail
  refine cC.out _ (Lib.hid fun v' w' q1 q2 => ?_)
  replace q1 := Lib.hid q1
  go_wp2_with fail
  exact hR.out _ _ q1.out q2
set_option maxHeartbeats 400000 in
theorem latnamesN_calls (w : World) (R : Ending → World → Prop) (hR : Hid (∀ A c w', Below w.heap.size w w' → R (.returned (.slice A 0 c)) w')) : Calls Try.prog 16 #[.pointer none] w R := by
  go_enter Try.func16, Try.ntmps16
  go_wp2_with fail
  exact hR.out _ _ _ (Below.refl _ _)
set_option maxHeartbeats 400000 in
theorem latfindx_calls (nm : List ByteArray) (p : Nat) (w : World) (h : LevP w p nm) (s : ByteArray) (R : Ending → World → Prop) (hR : Hid (∀ nq, R (.returned (.tuple #[.int .i64 (finS nm s).1, .bool (finS nm s).2])) (w.drewN nq))) : Calls Try.prog 13 #[.pointer (some ⟨p, 0, none⟩), .string s] w R := by
  obtain ⟨v1, v2, hp, -, h2, -, -, h5, h6⟩ := h
  have cF := Lib.hid fun R hR => find_calls nm s v2 w (by omega) h5 R hR
  clear h5
  generalize finS nm s = V at *
  go_enter Try.func13, Try.ntmps13
  go_wp2_with fail
  refine cF.out _ (Lib.hid fun nq => ?_)
  go_wp2_with fail
  exact hR.out _
set_option maxHeartbeats 400000 in
theorem latfindN_calls (w : World) (R : Ending → World → Prop) (s : ByteArray) (hs : s.size ≤ maxLen) (hR : Hid (∀ w', Below w.heap.size w w' → R (.returned (.tuple #[.int .i64 0, .bool false])) w')) : Calls Try.prog 13 #[.pointer none, .string s] w R := by
  go_enter Try.func13, Try.ntmps13
  go_wp2_with fail
  exact hR.out _ (Below.refl _ _)

set_option maxHeartbeats 1000000 in
theorem latjoinx_calls (nm : List ByteArray) (F : Nat → Nat → Bool) (v : Value) (w : World) (h : LatP w v nm F) (a b : Int) (R : Ending → World → Prop) (hR : Hid (R (.returned (.int .i64 (if 0 ≤ a ∧ a < nm.length ∧ 0 ≤ b ∧ b < nm.length then joinS nm.length F a.toNat b.toNat else -1))) w)) : Calls Try.prog 18 #[v, .int .i64 a, .int .i64 b] w R := by
  obtain ⟨p, rfl, hv, hj, hm, hL⟩ := h
  have cE := Lib.hid fun a b hb R hR => latlevel_calls nm p w hv a b hb R hR
  obtain ⟨v1, v2, hp, -, -, -, -, -, h6⟩ := hv
  by_cases ha : 0 ≤ a ∧ a < nm.length
  · have cA := Lib.hid (cE.out a true (decide_eq_true ha).symm)
    by_cases hb : 0 ≤ b ∧ b < nm.length
    · have cB := Lib.hid (cE.out b true (decide_eq_true hb).symm)
      rw [if_pos ⟨ha.1, ha.2, hb.1, hb.2⟩] at hR
      obtain ⟨A, rfl⟩ : ∃ A : Nat, a = A := ⟨a.toNat, by omega⟩
      obtain ⟨B, rfl⟩ : ∃ B : Nat, b = B := ⟨b.toNat, by omega⟩
      rw [Int.toNat_natCast, Int.toNat_natCast] at hR
      have e0 := hj A B (by omega) (by omega)
      have e1 := hL.jn_eq (show A < nm.length by omega) (show B < nm.length by omega)
      have e2 := hL.jn_lt (show A < nm.length by omega) (show B < nm.length by omega)
      rw [e1] at e0 hR
      generalize jn nm.length F A B = k at *
      have a0 : (0 : Int) ≤ (A : Int) := by omega
      have a1 : (A : Int) < 32 := by omega
      have b0 : (0 : Int) ≤ (B : Int) := by omega
      have b1 : (B : Int) < 32 := by omega
      have k0 : (0 : Int) ≤ (k : Int) := by omega
      have k1 : (k : Int) < 32 := by omega
      clear hj hm hL e1 e2 ha hb cE
      go_enter Try.func18, Try.ntmps18
      go_wp2_with fail
      refine cA.out _ (Lib.hid ?_)
      go_wp2_with fail
      refine cB.out _ (Lib.hid ?_)
      go_wp2_with fail
      exact hR.out
    · have cB := Lib.hid (cE.out b false (decide_eq_false hb).symm)
      rw [if_neg (fun h => hb ⟨h.2.2.1, h.2.2.2⟩)] at hR
      clear hj hm hL ha hb cE
      go_enter Try.func18, Try.ntmps18
      go_wp2_with fail
      refine cA.out _ (Lib.hid ?_)
      go_wp2_with fail
      refine cB.out _ (Lib.hid ?_)
      go_wp2_with fail
      exact hR.out
  · have cA := Lib.hid (cE.out a false (decide_eq_false ha).symm)
    rw [if_neg (fun h => ha ⟨h.1, h.2.1⟩)] at hR
    clear hj hm hL ha cE
    go_enter Try.func18, Try.ntmps18
    go_wp2_with fail
    refine cA.out _ (Lib.hid ?_)
    go_wp2_with fail
    exact hR.out
set_option maxHeartbeats 400000 in
theorem latjoinN_calls (w : World) (R : Ending → World → Prop) (a b : Int) (ha : Bd a) (hb : Bd b) (hR : Hid (∀ w', Below w.heap.size w w' → R (.returned (.int .i64 (-1))) w')) : Calls Try.prog 18 #[.pointer none, .int .i64 a, .int .i64 b] w R := by
  go_enter Try.func18, Try.ntmps18
  go_wp2_with fail
  refine latlevelN_calls _ _ _ (Lib.hid fun w1 n1 => ?_)
  go_wp2_with fail
  exact hR.out _ n1

set_option maxHeartbeats 1000000 in
theorem latmeetx_calls (nm : List ByteArray) (F : Nat → Nat → Bool) (v : Value) (w : World) (h : LatP w v nm F) (a b : Int) (R : Ending → World → Prop) (hR : Hid (R (.returned (.int .i64 (if 0 ≤ a ∧ a < nm.length ∧ 0 ≤ b ∧ b < nm.length then joinS nm.length (flp F) a.toNat b.toNat else -1))) w)) : Calls Try.prog 20 #[v, .int .i64 a, .int .i64 b] w R := by
  obtain ⟨p, rfl, hv, hj, hm, hL⟩ := h
  have cE := Lib.hid fun a b hb R hR => latlevel_calls nm p w hv a b hb R hR
  obtain ⟨v1, v2, hp, -, -, -, -, -, h6⟩ := hv
  by_cases ha : 0 ≤ a ∧ a < nm.length
  · have cA := Lib.hid (cE.out a true (decide_eq_true ha).symm)
    by_cases hb : 0 ≤ b ∧ b < nm.length
    · have cB := Lib.hid (cE.out b true (decide_eq_true hb).symm)
      rw [if_pos ⟨ha.1, ha.2, hb.1, hb.2⟩] at hR
      obtain ⟨A, rfl⟩ : ∃ A : Nat, a = A := ⟨a.toNat, by omega⟩
      obtain ⟨B, rfl⟩ : ∃ B : Nat, b = B := ⟨b.toNat, by omega⟩
      rw [Int.toNat_natCast, Int.toNat_natCast] at hR
      have e0 := hm A B (by omega) (by omega)
      have e1 := hL.flip.jn_eq (show A < nm.length by omega) (show B < nm.length by omega)
      have e2 := hL.flip.jn_lt (show A < nm.length by omega) (show B < nm.length by omega)
      rw [e1] at e0 hR
      generalize jn nm.length (flp F) A B = k at *
      have a0 : (0 : Int) ≤ (A : Int) := by omega
      have a1 : (A : Int) < 32 := by omega
      have b0 : (0 : Int) ≤ (B : Int) := by omega
      have b1 : (B : Int) < 32 := by omega
      have k0 : (0 : Int) ≤ (k : Int) := by omega
      have k1 : (k : Int) < 32 := by omega
      clear hj hm hL e1 e2 ha hb cE
      go_enter Try.func20, Try.ntmps20
      go_wp2_with fail
      refine cA.out _ (Lib.hid ?_)
      go_wp2_with fail
      refine cB.out _ (Lib.hid ?_)
      go_wp2_with fail
      exact hR.out
    · have cB := Lib.hid (cE.out b false (decide_eq_false hb).symm)
      rw [if_neg (fun h => hb ⟨h.2.2.1, h.2.2.2⟩)] at hR
      clear hj hm hL ha hb cE
      go_enter Try.func20, Try.ntmps20
      go_wp2_with fail
      refine cA.out _ (Lib.hid ?_)
      go_wp2_with fail
      refine cB.out _ (Lib.hid ?_)
      go_wp2_with fail
      exact hR.out
  · have cA := Lib.hid (cE.out a false (decide_eq_false ha).symm)
    rw [if_neg (fun h => ha ⟨h.1, h.2.1⟩)] at hR
    clear hj hm hL ha cE
    go_enter Try.func20, Try.ntmps20
    go_wp2_with fail
    refine cA.out _ (Lib.hid ?_)
    go_wp2_with fail
    exact hR.out
set_option maxHeartbeats 400000 in
theorem latmeetN_calls (w : World) (R : Ending → World → Prop) (a b : Int) (ha : Bd a) (hb : Bd b) (hR : Hid (∀ w', Below w.heap.size w w' → R (.returned (.int .i64 (-1))) w')) : Calls Try.prog 20 #[.pointer none, .int .i64 a, .int .i64 b] w R := by
  go_enter Try.func20, Try.ntmps20
  go_wp2_with fail
  refine latlevelN_calls _ _ _ (Lib.hid fun w1 n1 => ?_)
  go_wp2_with fail
  exact hR.out _ n1

set_option maxHeartbeats 1000000 in
theorem latleqx_calls (nm : List ByteArray) (F : Nat → Nat → Bool) (v : Value) (w : World) (h : LatP w v nm F) (a b : Int) (R : Ending → World → Prop) (hR : Hid (R (.returned (.bool (decide (0 ≤ a ∧ a < nm.length ∧ 0 ≤ b ∧ b < nm.length) && F a.toNat b.toNat))) w)) : Calls Try.prog 17 #[v, .int .i64 a, .int .i64 b] w R := by
  have cJ := Lib.hid fun R hR => latjoinx_calls nm F v w h a b R hR
  obtain ⟨p, rfl, hv, -, -, hL⟩ := h
  have cE := Lib.hid fun a b hb R hR => latlevel_calls nm p w hv a b hb R hR
  clear hv
  by_cases hb : 0 ≤ b ∧ b < nm.length
  · have cB := Lib.hid (cE.out b true (decide_eq_true hb).symm)
    by_cases ha : 0 ≤ a ∧ a < nm.length
    · replace cJ := cJ.out
      rw [if_pos ⟨ha.1, ha.2, hb.1, hb.2⟩] at cJ
      rw [decide_eq_true ⟨ha.1, ha.2, hb.1, hb.2⟩, Bool.true_and] at hR
      obtain ⟨A, rfl⟩ : ∃ A : Nat, a = A := ⟨a.toNat, by omega⟩
      obtain ⟨B, rfl⟩ : ∃ B : Nat, b = B := ⟨b.toNat, by omega⟩
      rw [Int.toNat_natCast, Int.toNat_natCast] at hR cJ
      rw [hL.jn_eq (show A < nm.length by omega) (show B < nm.length by omega)] at cJ
      rw [hL.leq_iff (show A < nm.length by omega) (show B < nm.length by omega)] at hR
      generalize jn nm.length F A B = k at *
      have e : ((k : Int) == (B : Int)) = decide (k = B) := by
        rw [Bool.eq_iff_iff]; simp; omega
      generalize decide (k = B) = q at *
      replace cJ := Lib.hid cJ
      replace e := Lib.hid e
      clear hL ha hb cE
      go_enter Try.func17, Try.ntmps17
      go_wp2_with fail
      refine cB.out _ (Lib.hid ?_)
      go_wp2_with fail
      refine cJ.out _ (Lib.hid ?_)
      replace e := e.out
      go_wp2_with fail
      exact hR.out
    · replace cJ := cJ.out
      rw [if_neg (fun h => ha ⟨h.1, h.2.1⟩)] at cJ
      rw [decide_eq_false (fun h => ha ⟨h.1, h.2.1⟩), Bool.false_and] at hR
      have e : ((-1 : Int) == b) = false := by simp; omega
      replace cJ := Lib.hid cJ
      replace e := Lib.hid e
      clear hL ha hb cE
      go_enter Try.func17, Try.ntmps17
      go_wp2_with fail
      refine cB.out _ (Lib.hid ?_)
      go_wp2_with fail
      refine cJ.out _ (Lib.hid ?_)
      replace e := e.out
      go_wp2_with fail
      exact hR.out
  · have cB := Lib.hid (cE.out b false (decide_eq_false hb).symm)
    rw [decide_eq_false (fun h => hb ⟨h.2.2.1, h.2.2.2⟩), Bool.false_and] at hR
    clear hL hb cE cJ
    go_enter Try.func17, Try.ntmps17
    go_wp2_with fail
    refine cB.out _ (Lib.hid ?_)
    go_wp2_with fail
    exact hR.out
set_option maxHeartbeats 400000 in
theorem latleqN_calls (w : World) (R : Ending → World → Prop) (a b : Int) (ha : Bd a) (hb : Bd b) (hR : Hid (∀ w', Below w.heap.size w w' → R (.returned (.bool false)) w')) : Calls Try.prog 17 #[.pointer none, .int .i64 a, .int .i64 b] w R := by
  go_enter Try.func17, Try.ntmps17
  go_wp2_with fail
  refine latlevelN_calls _ _ _ (Lib.hid fun w1 n1 => ?_)
  go_wp2_with fail
  exact hR.out _ n1
end Go.Proofs.Ytoeianacjnlepaa.Lat
