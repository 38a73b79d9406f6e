import Derived.Test.YtbochlbgjnmgjaaGreatG6
import Derived.Test.YtbochlbgjnmgjaaGreatLib
import Derived.Test.YtbochlbgjnmgjaaGreatBldW
import Derived.Deep.WholeRow
/- Add, Floor; the code's behind, value; HasPrefix of one byte. -/
set_option maxRecDepth 100000
set_option linter.unusedVariables false
namespace Go.Proofs.YtbochlbgjnmgjaaGreat.Dig
open Go.RowKit Go.Lib Go.Proofs.YtbochlbgjnmgjaaGreat.Utf

/-- What Add hands back. -/
def addS (a b : Int) : Int × Bool := if -9223372036854775808 ≤ a + b ∧ a + b ≤ 9223372036854775807 then (a + b, true) else (0, false)
/-- What Floor hands back. -/
def floS (n u : Int) : Int × Bool := if u < 1 then (0, false) else addS n (-(n % u))

theorem behind_calls (s : ByteArray) (k : Nat) (hk : k ≤ s.size) (w : World) (hs : s.size ≤ 1000000000000000) (R : Ending → World → Prop)
    (hR : Hid (∀ w', Below w.heap.size w w' → R (.returned (.int .i64 (k + (dgs s k).length : Nat))) w')) : Calls Tryz.prog 225 #[.string s, .int .i64 k] w R := by
  obtain ⟨V, hV⟩ : ∃ V, k + (dgs s k).length = V := ⟨_, rfl⟩
  rw [hV] at hR
  go_enter Tryz.func225, Tryz.ntmps225
  go_wp2_with fail
  go_loopg [1] (s.size - k) (fun g a wr => ∃ j : Nat, Below w.heap.size w wr ∧ a = .int .i64 j ∧ j ≤ s.size ∧ g = s.size - j ∧ Hid (j + (dgs s j).length = V))
  case atStart => exact ⟨k, Below.refl _ _, rfl, hk, rfl, Lib.hid hV⟩
  case round =>
    obtain ⟨j, bel, rfl, c1, c2, c3⟩ := hrel
    have e := c3.out
    clear c3 hV
    by_cases hj : j < s.size
    · have hg := byN_get s j hj
      have hbl := byN_lt s j
      by_cases h1 : 48 ≤ byN s j
      · by_cases h2 : byN s j ≤ 57
        · rw [dgs_step hj ⟨h1, h2⟩, List.length_cons] at e
          generalize byN s j = c at *
          go_wp2_with fail
          go_roundg (gk - 1)
          case measure => omega
          case rel => exact ⟨j + 1, bel, by go_num, by omega, by omega, Lib.hid (by omega)⟩
        · rw [dgs_stop hj (fun h => h2 h.2), List.length_nil, Nat.add_zero] at e
          subst e
          generalize byN s j = c at *
          go_wp2_with fail
          exact hR.out _ bel
      · rw [dgs_stop hj (fun h => h1 h.1), List.length_nil, Nat.add_zero] at e
        subst e
        generalize byN s j = c at *
        go_wp2_with fail
        exact hR.out _ bel
    · rw [dgs_end (by omega), List.length_nil, Nat.add_zero] at e
      subst e
      go_wp2_with fail
      exact hR.out _ bel

/-- What value hands back. -/
def lowN (neg : Bool) : Nat := if neg then 9223372036854775808 else 9223372036854775807
def valR (l : List Int) (neg : Bool) : Int × Bool := if lowN neg < valN l then (0, false) else (if neg then -(valN l : Int) else (valN l : Int), true)
/- strings.HasPrefix of one byte -/
theorem bl_head1 {x : ByteArray} (h : 1 ≤ x.size) : bl (x.extract 0 1) = [(byN x 0 : Int)] := by
  have h0 := bl_get x 0 (by omega)
  rw [bl_extract, List.drop_zero, List.take_one, List.head?_eq_getElem?, h0]
  rfl
theorem head_eq {x : ByteArray} (h : 1 ≤ x.size) (c : UInt8) : ((x.extract 0 1).toList == (⟨#[c]⟩ : ByteArray).toList) = decide (byN x 0 = c.toNat) := by
  rw [bl_inj, bl_head1 h]
  have : bl ⟨#[c]⟩ = [(c.toNat : Int)] := rfl
  rw [this]
  simp
  omega
end Go.Proofs.YtbochlbgjnmgjaaGreat.Dig

/- The code's split, Put, Columns. -/
set_option maxRecDepth 100000
set_option linter.unusedVariables false
namespace Go.Proofs.YtbochlbgjnmgjaaGreat.Dig
open Go.RowKit Go.Lib Go.Proofs.YtbochlbgjnmgjaaGreat.Utf Go.Proofs.YtbochlbgjnmgjaaGreat.Bld

theorem zv19 : ∃ Z : Array Value, (∀ w, (zeroValue 227).run Tryz.prog w = .ok (.agg Z) w) ∧ Z.size = 19 ∧ Z.all (·.oneCell') = true :=
  ⟨Array.replicate 19 (.int .u8 0), (zero_of_info (n := 19) (by kernel_rfl)).1, by simp, by rw [Array.all_replicate]; rfl⟩
/-- A block of 19 bytes of which the first are written. -/
def Arr (w : World) (g : Nat) (l : List Int) : Prop := ∃ cs : Array Value, w.heap[g]? = some (.cells cs 227 (0, 0)) ∧ cs.size = 19 ∧ cs.all (·.oneCell') = true ∧ ∀ (j : Nat) (x : Int), l[j]? = some x → cs[j]? = some (Value.int .u8 x)
theorem Arr.put {w : World} {g : Nat} {l : List Int} (h : Arr w g l) (hl : l.length < 19) (x : Int) : Arr (w.setCell ⟨g, l.length, none⟩ (.int .u8 x)) g (l ++ [x]) := by -- of 227
  obtain ⟨cs, h1, h2, h3, h4⟩ := h
  have e1 := setCell_eq_setRow w g l.length cs 227 (0, 0) (.int .u8 x) h1
  refine ⟨_, by rw [e1]; exact setRow_heap _ g _ _ _ (0, 0) h1, by simpa using h2, ?_, fun j y hj => ?_⟩
  · rw [Array.all_eq_true] at h3 ⊢
    intro i hi
    rw [Array.getElem_setIfInBounds]
    split
    · rfl
    · exact h3 i (by simpa using hi)
  · rw [Array.getElem?_setIfInBounds]
    rw [List.getElem?_append] at hj
    by_cases a : j < l.length
    · rw [if_pos a] at hj
      rw [if_neg (by omega)]
      exact h4 j y hj
    · rw [if_neg a] at hj
      obtain rfl : j = l.length := by
        cases hq : j - l.length with
        | zero => omega
        | succ n => rw [hq] at hj; simp at hj
      rw [Nat.sub_self] at hj
      simp at hj
      rw [if_pos rfl, if_pos (by omega), hj]
theorem Arr.cell {w : World} {g : Nat} {l : List Int} (h : Arr w g l) {j : Nat} (hj : j < 19) : ∃ v, w.cell? ⟨g, j, none⟩ = some v := by -- of 227
  obtain ⟨cs, h1, h2, -⟩ := h
  exact ⟨cs[j], by rw [cell_of_row _ _ j _ _ (0, 0) h1]; exact Array.getElem?_eq_getElem (by omega)⟩
theorem Arr.fz {w : World} {g : Nat} {l : List Int} (h : Arr w g l) (j : Nat) : w.frozen? ⟨g, j, none⟩ = false := by -- of 227
  obtain ⟨cs, h1, -⟩ := h
  simp [World.frozen?, h1]
/-- The whole array, out of its block and into it again. -/
theorem Arr.whole {w : World} {g : Nat} {l : List Int} (h : Arr w g l) : ∃ C : Array Value, C.size = 19 ∧ C.all (·.oneCell') = true ∧ (∀ (j : Nat) (x : Int), l[j]? = some x → C[j]? = some (Value.int .u8 x)) ∧ -- of 227
    w.heap[g]? = some (.cells C 227 (0, 0)) ∧ (storeCells ⟨g, 0, none⟩ C.toList 0).run Tryz.prog w = .ok () w ∧ (Tryz.prog.info? 227).map (·.size) = some C.size := by
  obtain ⟨cs, h1, h2, h3, h4⟩ := h
  have hi : (Tryz.prog.info? 227).map (·.size) = some cs.size := by rw [h2]; kernel_rfl
  refine ⟨cs, h2, h3, h4, h1, ?_, hi⟩
  have hsame : w.setRow g cs = w := by
    cases w with
    | mk heap =>
      simp only [World.setRow]
      congr 1
      apply Array.ext_getElem?
      intro i
      rw [Array.getElem?_modify]
      by_cases hi : g = i
      · subst hi
        simp only at h1
        rw [if_pos rfl, h1]
        rfl
      · rw [if_neg hi]
  have := run_storeVar_row (P := Tryz.prog) w g 227 227 cs cs h1 hi rfl h3
  rw [hsame] at this
  cases hq : Tryz.prog.info? 227 with
  | none => simp [hq] at hi
  | some i =>
    have hs : cs.size = i.size := by simp [hq] at hi; omega
    simpa [storeVar, sizeOf, typeInfo, hq, Value.cells, hs] using this
theorem natAbs_tdiv10 (c : Int) : (c.tdiv 10).natAbs = c.natAbs / 10 := by rw [Int.natAbs_tdiv]; rfl
theorem tdiv10_bd (c : Int) (h1 : -9223372036854775808 ≤ c) (h2 : c ≤ 9223372036854775807) : -9223372036854775808 ≤ c.tdiv 10 ∧ c.tdiv 10 ≤ 9223372036854775807 := by
  have := natAbs_tdiv10 c
  omega
/-- The digits that are still to come, before those that are there. -/
theorem dig_more {c : Int} (h : c.tdiv 10 ≠ 0) : decL c.natAbs = decL (c.tdiv 10).natAbs ++ [48 + ((c.natAbs % 10 : Nat) : Int)] := by
  have := natAbs_tdiv10 c
  rw [this, decL_ge (by omega)]
theorem dig_last {c : Int} (h : c.tdiv 10 = 0) : decL c.natAbs = [48 + ((c.natAbs % 10 : Nat) : Int)] := by
  have := natAbs_tdiv10 c
  rw [decL_lt (by omega), show c.natAbs % 10 = c.natAbs by omega]

set_option maxRecDepth 100000 in
theorem split_calls (n : Int) (h1 : -9223372036854775808 ≤ n) (h2 : n ≤ 9223372036854775807) (w : World) (R : Ending → World → Prop)
    (hR : Hid (∀ (C : Array Value) w', C.size = 19 → C.all (·.oneCell') = true → (∀ (j : Nat) (x : Int), (decL n.natAbs).reverse[j]? = some x → C[j]? = some (Value.int .u8 x)) → Below w.heap.size w w' → R (.returned (.tuple #[.agg C, .int .i64 ((decL n.natAbs).length : Nat)])) w')) :
    Calls Tryz.prog 207 #[.int .i64 n] w R := by
  obtain ⟨D, hD⟩ : ∃ D, decL n.natAbs = D := ⟨_, rfl⟩
  rw [hD] at hR
  obtain ⟨Z, hZ, hZs, hZ1⟩ := zv19
  have hA : Arr (w.alloc (.cells Z 227)) w.heap.size [] := ⟨Z, heap_alloc_last w _, hZs, hZ1, fun j x h => by simp at h⟩
  replace hA := Lib.hid hA
  replace hZ1 := Lib.hid hZ1
  go_enter Tryz.func207, Tryz.ntmps207
  go_wp2_with fail
  go_loopg [0, 6] 19 (fun g c a wr => ∃ (j : Nat) (x : Int) (L : List Int), Below w.heap.size w wr ∧ Hid (Arr wr w.heap.size L) ∧ c = .int .i64 x ∧ a = .int .i64 j ∧ j + g = 19 ∧ L.length = j ∧ (j = 0 ∨ x ≠ 0) ∧ -9223372036854775808 ≤ x ∧ x ≤ 9223372036854775807 ∧
    x.natAbs < 10 ^ g ∧ Hid (decL x.natAbs ++ L.reverse = D))
  case atStart => exact ⟨0, n, [], (Below.refl _ _).alloc (Nat.le_refl _) _, hA, rfl, rfl, rfl, rfl, .inl rfl, h1, h2, by omega, Lib.hid (by simpa using hD)⟩
  case round =>
    obtain ⟨j, x, L, bel, hAr, rfl, rfl, c1, c2, c3, c4, c5, c6, c7⟩ := hrel
    have hsz := bel.size
    have e := c7.out
    clear c7 hD
    have bA := hAr.out
    by_cases hj : j < 19
    · have hq := tdiv10_bd x c4 c5
      have hqa := natAbs_tdiv10 x
      obtain ⟨u, hu⟩ := bA.cell hj
      have hz := bA.fz j
      have hpw : x.natAbs / 10 < 10 ^ (gk - 1) := by
        obtain ⟨k, rfl⟩ : ∃ k, gk = k + 1 := ⟨gk - 1, by omega⟩
        rw [Nat.pow_succ] at c6
        rw [Nat.add_sub_cancel]
        omega
      obtain ⟨T, hT⟩ : ∃ T, x.tmod 10 = T := ⟨_, rfl⟩
      have hTa : T.natAbs = x.natAbs % 10 := by rw [← hT, Int.natAbs_tmod]; rfl
      by_cases hs : 0 ≤ T
      · have bA2 := bA.put (by omega) (48 + T)
        rw [c2] at bA2
        have hmx : max T (-T) = T := by omega
        have e0 : x.tdiv 10 = 0 → D = (L ++ [48 + T]).reverse := fun h => by
          rw [← e, dig_last h, List.reverse_append, show 48 + ((x.natAbs % 10 : Nat) : Int) = 48 + T by omega]; rfl
        have e1 : x.tdiv 10 ≠ 0 → decL (x.tdiv 10).natAbs ++ (L ++ [48 + T]).reverse = D := fun h => by
          rw [← e, dig_more h, List.reverse_append, show 48 + ((x.natAbs % 10 : Nat) : Int) = 48 + T by omega]; simp
        have bel2 := bel.setCell (p := ⟨w.heap.size, j, none⟩) (Nat.le_refl _) (.int .u8 (48 + T))
        rw [← hqa] at hpw
        by_cases hQ : x.tdiv 10 = 0
        · replace e0 := e0 hQ
          obtain ⟨C, w1, w2, w3, w4, w5, w6⟩ := bA2.whole
          have e2 : D.length = j + 1 := by rw [e0]; simp; omega
          rw [e2] at hR
          have e3 : D.reverse = L ++ [48 + T] := by rw [e0, List.reverse_reverse]
          rw [e3] at hR
          have fin := hR.out C _ w1 w2 w3 bel2
          replace fin := Lib.hid fin
          clear e1 e e0 bA hAr hR bA2 w3 hA
          replace w6 := Lib.hid w6
          go_wp2_with (refine wpList_load_row rfl 227 _ rfl w.heap.size rfl 227 C (0, 0) _ w4 Tryz.underlying227 rfl w6.out ?_)
          have hlv := run_loadVar_row (P := Tryz.prog) _ w.heap.size 227 227 C (0, 0) _ w4 Tryz.underlying227 rfl w6.out
          refine bodyPost_ret ?_ rfl fin.out
          simp [results, Tryz.results207, asAddr, hlv]
        · replace e1 := Lib.hid (e1 hQ)
          clear e0 e bA hAr hA
          go_wp2_with fail
          go_roundg (gk - 1)
          case measure => omega
          case rel => exact ⟨j + 1, x.tdiv 10, L ++ [48 + T], bel2, Lib.hid bA2, rfl, by go_num, by omega, by simp; omega, .inr hQ, hq.1, hq.2, hpw, e1⟩
      · have bA2 := bA.put (by omega) (48 + -T)
        rw [c2] at bA2
        have hmx : max T (-T) = -T := by omega
        have e0 : x.tdiv 10 = 0 → D = (L ++ [48 + -T]).reverse := fun h => by
          rw [← e, dig_last h, List.reverse_append, show 48 + ((x.natAbs % 10 : Nat) : Int) = 48 + -T by omega]; rfl
        have e1 : x.tdiv 10 ≠ 0 → decL (x.tdiv 10).natAbs ++ (L ++ [48 + -T]).reverse = D := fun h => by
          rw [← e, dig_more h, List.reverse_append, show 48 + ((x.natAbs % 10 : Nat) : Int) = 48 + -T by omega]; simp
        have bel2 := bel.setCell (p := ⟨w.heap.size, j, none⟩) (Nat.le_refl _) (.int .u8 (48 + -T))
        rw [← hqa] at hpw
        by_cases hQ : x.tdiv 10 = 0
        · replace e0 := e0 hQ
          obtain ⟨C, w1, w2, w3, w4, w5, w6⟩ := bA2.whole
          have e2 : D.length = j + 1 := by rw [e0]; simp; omega
          rw [e2] at hR
          have e3 : D.reverse = L ++ [48 + -T] := by rw [e0, List.reverse_reverse]
          rw [e3] at hR
          have fin := hR.out C _ w1 w2 w3 bel2
          replace fin := Lib.hid fin
          clear e1 e e0 bA hAr hR bA2 w3 hA
          replace w6 := Lib.hid w6
          go_wp2_with (refine wpList_load_row rfl 227 _ rfl w.heap.size rfl 227 C (0, 0) _ w4 Tryz.underlying227 rfl w6.out ?_)
          have hlv := run_loadVar_row (P := Tryz.prog) _ w.heap.size 227 227 C (0, 0) _ w4 Tryz.underlying227 rfl w6.out
          refine bodyPost_ret ?_ rfl fin.out
          simp [results, Tryz.results207, asAddr, hlv]
        · replace e1 := Lib.hid (e1 hQ)
          clear e0 e bA hAr hA
          go_wp2_with fail
          go_roundg (gk - 1)
          case measure => omega
          case rel => exact ⟨j + 1, x.tdiv 10, L ++ [48 + -T], bel2, Lib.hid bA2, rfl, by go_num, by omega, by simp; omega, .inr hQ, hq.1, hq.2, hpw, e1⟩
    · rw [show gk = 0 by omega] at c6
      omega

theorem strOf_app (a b : List Int) : strOfNums (a ++ b) = strOfNums a ++ strOfNums b := by
  apply ByteArray.ext
  apply Array.ext'
  rw [strOfNums_data, ByteArray.data_append, Array.toList_append, strOfNums_data, strOfNums_data, List.map_append]
/-- The text of a number: its sign, its digits. -/
def sgn (n : Int) : List Int := if n < 0 then [45] else []
theorem putS_eq (n : Int) : putS n = strOfNums (sgn n ++ decL n.natAbs) := by
  unfold putS putL sgn
  split
  · rfl
  · rw [show n.toNat = n.natAbs by omega]; rfl

/-- What the loop of Put knows: the builder's text, the array of digits. -/
def PutAt (g : Nat) (C : Array Value) (b : Nat) (X : ByteArray) (w : World) : Prop := Bld b b X w ∧ w.heap[g]? = some (.cells C 227 (0, 0))
theorem PutAt.cell {g : Nat} {C : Array Value} {b : Nat} {X : ByteArray} {w : World} (h : PutAt g C b X w) (j : Nat) : w.cell? ⟨g, j, none⟩ = C[j]? := cell_of_row _ _ j _ _ (0, 0) h.2 -- of 227
theorem ne_arr : 227 ≠ 5 := by decide
theorem PutAt.next {g : Nat} {C : Array Value} {b : Nat} {X Y : ByteArray} {w w' : World} (h : PutAt g C b X w) (hg : b ≠ g) (k : Lib.OthersKept 5 (some b) w w') (hB : Bld b b Y w') : PutAt g C b Y w' := -- of 227
  ⟨hB, k _ _ h.2 (fun e => hg (Option.some.inj e).symm) (fun c fz e => by injection e with _ e2; exact ne_arr e2)⟩

theorem dec_len (n : Nat) (h : n ≤ 9223372036854775808) : (decL n).length ≤ 19 := by
  obtain ⟨x, l, e, h0⟩ := dec_cons n
  rw [e, List.length_cons]
  by_cases h48 : x = 48
  · rw [(h0 h48).2]; decide
  · have hd := dec_dg n x (by rw [e]; exact List.mem_cons_self)
    have h1 := val_ge (l := l) hd h48
    rw [← e, val_dec] at h1
    have h2 : 10 ^ l.length < 10 ^ 19 := by omega
    have := (Nat.pow_lt_pow_iff_right (by decide : 1 < 10)).1 h2
    omega
set_option maxRecDepth 100000 in
set_option maxHeartbeats 1000000 in
theorem put_calls (n : Int) (h1 : -9223372036854775808 ≤ n) (h2 : n ≤ 9223372036854775807) (w : World) (R : Ending → World → Prop)
    (hR : Hid (∀ w', Below w.heap.size w w' → R (.returned (.string (putS n))) w')) : Calls Tryz.prog 168 #[.int .i64 n] w R := by
  rw [putS_eq] at hR
  have cS := fun (W : World) R hR => split_calls n h1 h2 W R hR
  have hdg := dec_dg n.natAbs
  have hlen := dec_len n.natAbs (by omega)
  obtain ⟨D, hD⟩ : ∃ D, decL n.natAbs = D := ⟨_, rfl⟩
  rw [hD] at hR hdg cS hlen
  obtain ⟨V, hV⟩ : ∃ V, strOfNums (sgn n ++ D) = V := ⟨_, rfl⟩
  rw [hV] at hR
  replace cS := Lib.hid cS
  obtain ⟨Z, hZ, hZs, hZ1⟩ := zv19
  by_cases hn : n < 0
  · have hsg : sgn n = [45] := if_pos hn
    rw [hsg] at hV
    go_enter Tryz.func168, Tryz.ntmps168
    go_wp2_with fail
    refine wbyte_calls w.heap.size w.heap.size ByteArray.empty 45 (by decide) (by decide) _ (Bld.fresh w) (by decide) (by simp) _ (Lib.hid fun w1 b1 n1 k1 => ?_)
    replace n1 := ((Below.refl w.heap.size w).alloc (Nat.le_refl _) _).trans n1
    rw [ByteArray.empty_append] at b1
    go_wp2_with fail
    refine cS.out _ _ (Lib.hid fun C w2 hC1 hC2 hC3 n2 => ?_)
    have hC : ∀ w : World, (storeCells ⟨w.heap.size, 0, none⟩ C.toList 0).run Tryz.prog (w.alloc (.cells Z 227)) = .ok () (w.alloc (.cells C 227)) :=
      fun w => run_storeCells_new w _ Z C (by rw [hC1]; kernel_rfl) (by rw [hZs, hC1]) hC2
    replace b1 := b1.below n2
    replace n2 := n1.trans (n2.mono n1.size)
    have hne : w.heap.size ≠ w2.heap.size := by have := b1.lt; omega
    have st : PutAt w2.heap.size C w.heap.size (strOfNums [45]) (w2.alloc (.cells C 227)) := ⟨b1.alloc _, heap_alloc_last w2 _⟩
    have hB0 := n2.size
    replace n2 := n2.alloc n2.size (.cells C 227)
    replace st := Lib.hid st
    clear b1 hC2 n1
    replace hC3 := Lib.hid hC3
    replace hdg := Lib.hid hdg
    go_wp2_with fail
    go_loopg [16] D.length (fun k a wr => ∃ (j : Nat) (X : ByteArray), Below w.heap.size w wr ∧ Hid (PutAt w2.heap.size C w.heap.size X wr) ∧ a = .int .i64 j ∧ j + k = D.length ∧ X.size ≤ j + 1 ∧ Hid (X = strOfNums ([45] ++ D.take j)))
    case atStart => exact ⟨0, _, n2, st, rfl, by omega, by rw [strOfNums_size]; decide, Lib.hid (by rw [List.take_zero, List.append_nil])⟩
    case round =>
      obtain ⟨j, X, bel, hP, rfl, c1, c2, c3⟩ := hrel
      have hsz := bel.size
      have e := c3.out
      have pA := hP.out
      clear c3 hP st hC
      by_cases hj : j < D.length
      · obtain ⟨m, hm⟩ : ∃ m : Nat, D.length = m + 1 + j := ⟨D.length - 1 - j, by omega⟩
        obtain ⟨x, hx⟩ : ∃ x, D[j]? = some x := ⟨D[j], List.getElem?_eq_getElem hj⟩
        have hxd := hdg.out x (List.mem_of_getElem? hx)
        have hcm := hC3.out m x (by rw [List.getElem?_reverse (by omega), show D.length - 1 - m = j by omega]; exact hx)
        have hcell := pA.cell m
        rw [hcm] at hcell
        have hidx : ((D.length : Int) - 1 - (j : Int)) = (m : Int) := by omega
        have e2 : X ++ strOfNums [x] = strOfNums ([45] ++ D.take (j + 1)) := by
          rw [e, ← strOf_app, List.append_assoc, List.take_add_one, hx]; rfl
        have pB := pA.1
        have hm19 : m < 19 := by omega
        have hm2 : m + 1 + j = D.length := hm.symm
        clear e hcm hm
        replace pA := Lib.hid pA
        replace pB := Lib.hid pB
        replace e2 := Lib.hid e2
        go_wp2_with fail
        refine wbyte_calls w.heap.size w.heap.size X x (by omega) (by omega) _ pB.out (by omega) hsz _ (Lib.hid fun w3 b3 n3 k3 => ?_)
        have pC := pA.out.next hne k3 b3
        replace n3 := bel.trans n3
        replace pC := Lib.hid pC
        clear b3 k3 pA pB
        go_wp2_with fail
        go_roundg (gk - 1)
        case measure => omega
        case rel => exact ⟨j + 1, X ++ strOfNums [x], n3, pC, by go_num, by omega, by rw [ByteArray.size_append, strOfNums_size]; simp; omega, e2⟩
      · rw [List.take_of_length_le (by omega)] at e
        have pB := pA.1
        rw [e, hV] at pB
        clear pA
        replace pB := Lib.hid pB
        go_wp2_with fail
        refine bstr_calls w.heap.size w.heap.size _ _ pB.out hsz _ (Lib.hid fun w3 b3 n3 k3 => ?_)
        replace n3 := bel.trans n3
        go_wp2_with fail
        exact hR.out _ n3
  · have hsg : sgn n = [] := if_neg hn
    rw [hsg] at hV
    have b1 := Bld.fresh w
    have n1 := (Below.refl w.heap.size w).alloc (Nat.le_refl _) (.cells #[.pointer none, .slice none 0 0] 92)
    replace b1 := Lib.hid b1
    replace n1 := Lib.hid n1
    go_enter Tryz.func168, Tryz.ntmps168
    go_wp2_with fail
    generalize w.alloc (.cells #[.pointer none, .slice none 0 0] 92) = w1 at *
    replace b1 := b1.out
    replace n1 := n1.out
    rw [show ByteArray.empty = strOfNums [] from rfl] at b1
    refine cS.out _ _ (Lib.hid fun C w2 hC1 hC2 hC3 n2 => ?_)
    have hC : ∀ w : World, (storeCells ⟨w.heap.size, 0, none⟩ C.toList 0).run Tryz.prog (w.alloc (.cells Z 227)) = .ok () (w.alloc (.cells C 227)) :=
      fun w => run_storeCells_new w _ Z C (by rw [hC1]; kernel_rfl) (by rw [hZs, hC1]) hC2
    replace b1 := b1.below n2
    replace n2 := n1.trans (n2.mono n1.size)
    have hne : w.heap.size ≠ w2.heap.size := by have := b1.lt; omega
    have st : PutAt w2.heap.size C w.heap.size (strOfNums []) (w2.alloc (.cells C 227)) := ⟨b1.alloc _, heap_alloc_last w2 _⟩
    have hB0 := n2.size
    replace n2 := n2.alloc n2.size (.cells C 227)
    replace st := Lib.hid st
    clear b1 hC2 n1
    replace hC3 := Lib.hid hC3
    replace hdg := Lib.hid hdg
    go_wp2_with fail
    go_loopg [16] D.length (fun k a wr => ∃ (j : Nat) (X : ByteArray), Below w.heap.size w wr ∧ Hid (PutAt w2.heap.size C w.heap.size X wr) ∧ a = .int .i64 j ∧ j + k = D.length ∧ X.size ≤ j + 1 ∧ Hid (X = strOfNums ([] ++ D.take j)))
    case atStart => exact ⟨0, _, n2, st, rfl, by omega, by rw [strOfNums_size]; decide, Lib.hid (by rw [List.take_zero, List.append_nil])⟩
    case round =>
      obtain ⟨j, X, bel, hP, rfl, c1, c2, c3⟩ := hrel
      have hsz := bel.size
      have e := c3.out
      have pA := hP.out
      clear c3 hP st hC
      by_cases hj : j < D.length
      · obtain ⟨m, hm⟩ : ∃ m : Nat, D.length = m + 1 + j := ⟨D.length - 1 - j, by omega⟩
        obtain ⟨x, hx⟩ : ∃ x, D[j]? = some x := ⟨D[j], List.getElem?_eq_getElem hj⟩
        have hxd := hdg.out x (List.mem_of_getElem? hx)
        have hcm := hC3.out m x (by rw [List.getElem?_reverse (by omega), show D.length - 1 - m = j by omega]; exact hx)
        have hcell := pA.cell m
        rw [hcm] at hcell
        have hidx : ((D.length : Int) - 1 - (j : Int)) = (m : Int) := by omega
        have e2 : X ++ strOfNums [x] = strOfNums ([] ++ D.take (j + 1)) := by
          rw [e, ← strOf_app, List.append_assoc, List.take_add_one, hx]; rfl
        have pB := pA.1
        have hm19 : m < 19 := by omega
        have hm2 : m + 1 + j = D.length := hm.symm
        clear e hcm hm
        replace pA := Lib.hid pA
        replace pB := Lib.hid pB
        replace e2 := Lib.hid e2
        go_wp2_with fail
        refine wbyte_calls w.heap.size w.heap.size X x (by omega) (by omega) _ pB.out (by omega) hsz _ (Lib.hid fun w3 b3 n3 k3 => ?_)
        have pC := pA.out.next hne k3 b3
        replace n3 := bel.trans n3
        replace pC := Lib.hid pC
        clear b3 k3 pA pB
        go_wp2_with fail
        go_roundg (gk - 1)
        case measure => omega
        case rel => exact ⟨j + 1, X ++ strOfNums [x], n3, pC, by go_num, by omega, by rw [ByteArray.size_append, strOfNums_size]; simp; omega, e2⟩
      · rw [List.take_of_length_le (by omega)] at e
        have pB := pA.1
        rw [e, hV] at pB
        clear pA
        replace pB := Lib.hid pB
        go_wp2_with fail
        refine bstr_calls w.heap.size w.heap.size _ _ pB.out hsz _ (Lib.hid fun w3 b3 n3 k3 => ?_)
        replace n3 := bel.trans n3
        go_wp2_with fail
        exact hR.out _ n3


end Go.Proofs.YtbochlbgjnmgjaaGreat.Dig
