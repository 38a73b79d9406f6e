import Derived.Test.YtlijjbcamkhhaaaG8
import Derived.Test.YtlijjbcamkhhaaaZLatX
import Derived.Deep.WholeRow
import Derived.Test.YtlijjbcamkhhaaaG7
import Derived.Test.YtlijjbcamkhhaaaNamB
import Derived.Test.YtlijjbcamkhhaaaJoiH
import Derived.Lib.Join
/- The code of layer 12: isLevel, join, Under. -/
set_option maxRecDepth 100000
set_option linter.unusedVariables false
namespace Go.Proofs.Ytlijjbcamkhhaaa.Lab
open Go.RowKit Go.Lib Go.Proofs.Ytlijjbcamkhhaaa.Rel Go.Proofs.Ytlijjbcamkhhaaa.Nam Go.Proofs.Ytlijjbcamkhhaaa.Lat

section
variable {n : Nat} {F : Nat → Nat → Bool}
theorem lub_nil (h : Latt n F) {t : Nat} (ht : t < n) (hb : ∀ a, a < n → F t a = true) : lubN n F [] = t := by
  have := lub_is h (l := []) ht (lub_iff.2 ⟨rfl, fun d hd _ => hb d hd⟩)
  unfold lubN
  rw [this]; rfl
theorem lub_snoc (h : Latt n F) {l : List Nat} (hl : ∀ a ∈ l, a < n) {a : Nat} (ha : a < n) : lubN n F (l ++ [a]) = jn n F (lubN n F l) a := by
  obtain ⟨-, h1, h2, h3⟩ := lub_nat h hl
  obtain ⟨j0, j1, j2, j3⟩ := h.jn_best h1 ha
  have e := lub_is h (l := l ++ [a]) j0 (lub_iff.2 ⟨by
    rw [over_snoc, Bool.and_eq_true]
    exact ⟨over_iff.2 fun x hx => h.ord.trans _ _ _ (hl x hx) h1 j0 (over_iff.1 h2 x hx) j1, j2⟩, fun d hd ho => by
    rw [over_snoc, Bool.and_eq_true] at ho
    exact j3 d hd (h3 d hd ho.1) ho.2⟩)
  have e2 : lubN n F (l ++ [a]) = (lubZ n F (l ++ [a])).toNat := rfl
  rw [e2, e]; rfl
theorem lub_step (h : Latt n F) {xs : List Int} {K : Nat} (hK : K < xs.length) : lubN n F (lvS n (xs.take (K + 1))) = if 0 ≤ zN xs K ∧ zN xs K < n then jn n F (lubN n F (lvS n (xs.take K))) (zN xs K).toNat else lubN n F (lvS n (xs.take K)) := by
  rw [lv_take hK]
  split
  · exact lub_snoc h lvS_lt (by omega)
  · rw [List.append_nil]
end

set_option maxHeartbeats 400000 in
theorem labislev_calls (nm : List ByteArray) (F : Nat → Nat → Bool) (v : Value) (w : World) (h : LatP w v nm F) (a : Int) (b : Bool) (hb : b = decide (0 ≤ a ∧ a < nm.length)) (R : Ending → World → Prop) (hR : Hid (R (.returned (.bool b)) w)) : Calls Try.prog 42 #[v, .int .i64 a] w R := by
  obtain ⟨p, rfl, hv, -⟩ := h
  have cL := Lib.hid fun R hR => latlenx_calls nm p w hv R hR
  clear hv
  by_cases h0 : 0 ≤ a
  · by_cases h1 : a < nm.length
    · obtain rfl : b = true := by rw [hb]; exact decide_eq_true ⟨h0, h1⟩
      clear hb
      go_enter Try.func42, Try.ntmps42
      go_wp2_with fail
      refine cL.out _ (Lib.hid ?_)
      go_wp2_with fail
      exact hR.out
    · obtain rfl : b = false := by rw [hb]; exact decide_eq_false (fun h => h1 h.2)
      clear hb
      go_enter Try.func42, Try.ntmps42
      go_wp2_with fail
      refine cL.out _ (Lib.hid ?_)
      go_wp2_with fail
      exact retB hR.out (decide_eq_false (by omega)).symm
  · obtain rfl : b = false := by rw [hb]; exact decide_eq_false (fun h => h0 h.1)
    clear hb
    go_enter Try.func42, Try.ntmps42
    go_wp2_with fail
    exact hR.out
set_option maxHeartbeats 400000 in
theorem labislevN_calls (w : World) (a : Int) (R : Ending → World → Prop) (hR : Hid (∀ w', Below w.heap.size w w' → R (.returned (.bool false)) w')) : Calls Try.prog 42 #[.pointer none, .int .i64 a] w R := by
  by_cases h0 : 0 ≤ a
  · go_enter Try.func42, Try.ntmps42
    go_wp2_with fail
    refine latlenN_calls _ _ (Lib.hid fun w1 n1 => ?_)
    go_wp2_with fail
    exact retB (hR.out _ n1) (decide_eq_false (by omega)).symm
  · go_enter Try.func42, Try.ntmps42
    go_wp2_with fail
    exact hR.out _ (Below.refl _ _)

set_option maxRecDepth 100000 in
set_option maxHeartbeats 1000000 in
theorem labjoin_calls (nm : List ByteArray) (F : Nat → Nat → Bool) (v : Value) (w : World) (h : LatP w v nm F) (xs : List Int) (vx : Value) (hx : RdZ w vx xs) (hxl : xs.length ≤ 1000000) (R : Ending → World → Prop)
    (hR : Hid (R (.returned (.int .i64 (lubN nm.length F (lvS nm.length xs) : Nat))) w)) : Calls Try.prog 39 #[v, vx] w R := by
  obtain ⟨hL, h32⟩ := h.latt
  have cB := Lib.hid fun R hR => latbottomx_calls nm F v w h R hR
  have cI := Lib.hid fun a b hb R hR => labislev_calls nm F v w h a b hb R hR
  have cJ := Lib.hid fun (a b : Nat) (ha : a < nm.length) (hb : b < nm.length) (R : Ending → World → Prop) (hR : Hid (R (.returned (.int .i64 (jn nm.length F a b : Nat))) w)) => latjoinx_calls nm F v w h a b R (by rw [if_pos ⟨by omega, by omega, by omega, by omega⟩, Int.toNat_natCast, Int.toNat_natCast, hL.jn_eq ha hb]; exact hR)
  have h0 := Lib.hid fun t (ht : t < nm.length) hb => lub_nil hL ht hb
  have hs := Lib.hid fun K (hK : K < xs.length) => lub_step (n := nm.length) (F := F) hL hK
  have hlt := Lib.hid fun K => (lub_nat hL (lvS_lt (n := nm.length) (xs := xs.take K))).2.1
  have hz : lvS nm.length (xs.take 0) = [] := rfl
  obtain ⟨p, rfl⟩ := h.ptr
  obtain ⟨A, c, rfl, -, hr⟩ := hx.op
  replace hr := Lib.hid hr
  obtain ⟨Z, hZ⟩ : ∃ Z : Nat → Nat, Z = fun K => lubN nm.length F (lvS nm.length (xs.take K)) := ⟨_, rfl⟩
  have hs2 := Lib.hid fun K (hK : K < xs.length) => show Z (K + 1) = if 0 ≤ zN xs K ∧ zN xs K < nm.length then jn nm.length F (Z K) (zN xs K).toNat else Z K by rw [hZ]; exact hs.out K hK
  have hlt2 := Lib.hid fun K => show Z K < nm.length by rw [hZ]; exact hlt.out K
  have h02 := Lib.hid fun t (ht : t < nm.length) hb => show Z 0 = t by rw [hZ]; exact h0.out t ht hb
  have hfin : lubN nm.length F (lvS nm.length xs) = Z xs.length := by rw [hZ]; simp only [List.take_length]
  rw [hfin] at hR
  clear h hx hL h0 hs hlt hz hZ hfin
  generalize nm.length = n at *
  go_enter Try.func39, Try.ntmps39
  go_wp2_with fail
  refine cB.out _ (Lib.hid fun t ht hb => ?_)
  have e0 := Lib.hid (h02.out t ht hb)
  clear hb h02 cB
  go_wp2_with fail
  go_loopg [5, 12] xs.length (fun g s i wr => ∃ K : Nat, s = .int .i64 (Z K : Nat) ∧ i = .int .i64 K ∧ K + g = xs.length ∧ wr = w)
  case atStart => exact ⟨0, by rw [e0.out], rfl, by omega, rfl⟩
  case round =>
    clear e0
    obtain ⟨K, rfl, rfl, c1, rfl⟩ := hrel
    by_cases hK : K < xs.length
    · obtain ⟨g, o, rfl, hg, hca⟩ := hr.out (by omega)
      have x0 := hca K hK
      have h1 := hs2.out K hK
      have h2 := hlt2.out K
      have i0 : (0 : Int) ≤ (K : Int) := by omega
      have i1 : (K : Int) < (xs.length : Int) := by omega
      clear hca
      generalize zN xs K = x at *
      by_cases q : 0 ≤ x ∧ x < n
      · rw [if_pos q] at h1
        have cI2 := Lib.hid (cI.out x true (decide_eq_true q).symm)
        obtain ⟨a, rfl⟩ : ∃ a : Nat, x = a := ⟨x.toNat, by omega⟩
        rw [Int.toNat_natCast] at h1
        have cJ2 := Lib.hid (cJ.out (Z K) a h2 (by omega))
        replace h1 := Lib.hid h1
        generalize jn n F (Z K) a = y at *
        generalize Z K = z at *
        clear q cJ cI hs2 hlt2
        go_wp2_with fail
        refine cI2.out _ (Lib.hid ?_)
        go_wp2_with fail
        refine cJ2.out _ (Lib.hid ?_)
        go_wp2_with fail
        go_roundg (gk - 1)
        case measure => omega
        case rel => exact ⟨K + 1, by rw [h1.out], by go_num, by omega, rfl⟩
      · rw [if_neg q] at h1
        have cI2 := Lib.hid (cI.out x false (decide_eq_false q).symm)
        replace h1 := Lib.hid h1
        clear q cJ cI hs2 hlt2
        go_wp2_with fail
        refine cI2.out _ (Lib.hid ?_)
        go_wp2_with fail
        go_roundg (gk - 1)
        case measure => omega
        case rel => exact ⟨K + 1, by rw [h1.out], by go_num, by omega, rfl⟩
    · obtain rfl : K = xs.length := by omega
      clear cI cJ hs2 hlt2
      go_wp2_with fail
      exact hR.out
set_option maxHeartbeats 1000000 in
theorem labjoinN_calls (w : World) (xs : List Int) (vx : Value) (hx : RdZ w vx xs) (hxl : xs.length ≤ 1000000) (R : Ending → World → Prop)
    (hR : Hid (∀ w', Below w.heap.size w w' → R (.returned (.int .i64 (-1))) w')) : Calls Try.prog 39 #[.pointer none, vx] w R := by
  obtain ⟨A, c, rfl, -, hr⟩ := hx.op
  replace hr := Lib.hid hr
  clear hx
  go_enter Try.func39, Try.ntmps39
  go_wp2_with fail
  refine latbottomN_calls _ _ (Lib.hid fun w1 n1 => ?_)
  replace n1 := Lib.hid n1
  go_wp2_with fail
  go_loopg [5, 12] xs.length (fun g s i wr => ∃ K : Nat, s = .int .i64 (-1) ∧ i = .int .i64 K ∧ K + g = xs.length ∧ Hid (Below w.heap.size w wr))
  case atStart => exact ⟨0, rfl, rfl, by omega, n1⟩
  case round =>
    clear n1
    obtain ⟨K, rfl, rfl, c1, nb⟩ := hrel
    by_cases hK : K < xs.length
    · obtain ⟨g, o, rfl, hg, hca⟩ := hr.out (by omega)
      have x0 := (nb.out.cell (p := ⟨g, o + K, none⟩) hg).trans (hca K hK)
      have i0 : (0 : Int) ≤ (K : Int) := by omega
      have i1 : (K : Int) < (xs.length : Int) := by omega
      clear hca
      generalize zN xs K = x at *
      go_wp2_with fail
      refine labislevN_calls _ _ _ (Lib.hid fun w2 n2 => ?_)
      have nf := Lib.hid (nb.out.trans (n2.mono nb.out.size))
      clear n2 x0
      go_wp2_with fail
      go_roundg (gk - 1)
      case measure => omega
      case rel => exact ⟨K + 1, rfl, by go_num, by omega, nf⟩
    · obtain rfl : K = xs.length := by omega
      have fin := Lib.hid (hR.out _ nb.out)
      clear nb
      go_wp2_with fail
      exact fin.out

set_option maxHeartbeats 1000000 in
theorem labunder_calls (nm : List ByteArray) (F : Nat → Nat → Bool) (v : Value) (w : World) (h : LatP w v nm F) (xs ys : List Int) (vx vy : Value) (hx : RdZ w vx xs) (hy : RdZ w vy ys) (hgx : ∀ x ∈ xs, Bd x) (hgy : ∀ x ∈ ys, Bd x) (hxl : xs.length ≤ 1000) (hyl : ys.length ≤ 1000) (R : Ending → World → Prop)
    (hR : Hid (∀ w', Below w.heap.size w w' → R (.returned (.bool (F (lubN nm.length F (lvS nm.length xs)) (lubN nm.length F (lvS nm.length ys))))) w')) : Calls Try.prog 20 #[v, vx, vy] w R := by
  obtain ⟨hL, h32⟩ := h.latt
  have c1 := Lib.hid fun R hR => labjoin_calls nm F v w h xs vx hx (by omega) R hR
  have c2 := Lib.hid fun R hR => labjoin_calls nm F v w h ys vy hy (by omega) R hR
  have a1 := (lub_nat hL (lvS_lt (n := nm.length) (xs := xs))).2.1
  have a2 := (lub_nat hL (lvS_lt (n := nm.length) (xs := ys))).2.1
  have cQ := Lib.hid fun (a b : Nat) (ha : a < nm.length) (hb : b < nm.length) (R : Ending → World → Prop) (hR : Hid (R (.returned (.bool (F a b))) w)) => latleqx_calls nm F v w h a b R (by rw [decide_eq_true ⟨by omega, by omega, by omega, by omega⟩, Int.toNat_natCast, Int.toNat_natCast, Bool.true_and]; exact hR)
  have cQ2 := Lib.hid (cQ.out _ _ a1 a2)
  have fin := Lib.hid (hR.out _ (Below.refl _ _))
  obtain ⟨p, rfl⟩ := h.ptr
  obtain ⟨A, c, rfl, -, -⟩ := hx.op
  obtain ⟨B, d, rfl, -, -⟩ := hy.op
  clear h hx hy cQ a1 a2 hL
  generalize lubN nm.length F (lvS nm.length xs) = x at *
  generalize lubN nm.length F (lvS nm.length ys) = y at *
  go_enter Try.func20, Try.ntmps20
  go_wp2_with fail
  refine c1.out _ (Lib.hid ?_)
  go_wp2_with fail
  refine c2.out _ (Lib.hid ?_)
  go_wp2_with fail
  refine cQ2.out _ (Lib.hid ?_)
  go_wp2_with fail
  exact fin.out
set_option maxHeartbeats 1000000 in
theorem labunderN_calls (w : World) (xs ys : List Int) (vx vy : Value) (hx : RdZ w vx xs) (hy : RdZ w vy ys) (hgx : ∀ x ∈ xs, Bd x) (hgy : ∀ x ∈ ys, Bd x) (hxl : xs.length ≤ 1000) (hyl : ys.length ≤ 1000) (R : Ending → World → Prop)
    (hR : Hid (∀ w', Below w.heap.size w w' → R (.returned (.bool false)) w')) : Calls Try.prog 20 #[.pointer none, vx, vy] w R := by
  have c1 := Lib.hid fun R hR => labjoinN_calls w xs vx hx (by omega) R hR
  have c2 := Lib.hid fun (W : World) (hb : Below w.heap.size w W) R hR => labjoinN_calls W ys vy (hy.below hb) (by omega) R hR
  obtain ⟨A, c, rfl, -, -⟩ := hx.op
  obtain ⟨B, d, rfl, -, -⟩ := hy.op
  clear hx hy
  go_enter Try.func20, Try.ntmps20
  go_wp2_with fail
  refine c1.out _ (Lib.hid fun w1 n1 => ?_)
  have c3 := Lib.hid (c2.out w1 n1)
  replace n1 := Lib.hid n1
  clear c2
  go_wp2_with fail
  refine c3.out _ (Lib.hid fun w2 n2 => ?_)
  have n3 := Lib.hid (n1.out.trans (n2.mono n1.out.size))
  clear n2
  go_wp2_with fail
  refine latleqN_calls _ _ _ _ (by decide) (by decide) (Lib.hid fun w4 n4 => ?_)
  have n5 := Lib.hid (n3.out.trans (n4.mono n3.out.size))
  clear n4
  go_wp2_with fail
  exact hR.out _ n5.out
end Go.Proofs.Ytlijjbcamkhhaaa.Lab

/- The code of layer 12: an array of which levels are given; maximal, its closure, Highest. -/
set_option maxRecDepth 100000
set_option linter.unusedVariables false
namespace Go.Proofs.Ytlijjbcamkhhaaa.Lab
open Go.RowKit Go.Lib Go.Proofs.Ytlijjbcamkhhaaa.Rel Go.Proofs.Ytlijjbcamkhhaaa.Nam Go.Proofs.Ytlijjbcamkhhaaa.Lat

/-- An array by value that tells which levels are in a list. -/
def ArrB (C : Array Value) (l : List Nat) : Prop := C.size = 32 ∧ C.all (·.oneCell') = true ∧ ∀ j, j < 32 → C[j]? = some (Value.bool (l.contains j))
theorem zvSet : ∃ Z : Array Value, (∀ w, (zeroValue 90).run Try.prog w = .ok (.agg Z) w) ∧ ArrB Z [] :=
  ⟨Array.replicate 32 (.bool false), (zero_of_info (n := 32) (by kernel_rfl)).1, by simp, by rw [Array.all_replicate]; rfl, fun j h => by simp [h]⟩
/-- A block that holds such an array. -/
def Blk (w : World) (g : Nat) (l : List Nat) : Prop := ∃ cs : Array Value, w.heap[g]? = some (.cells cs 90 (0, 0)) ∧ ArrB cs l
theorem Blk.lt {w : World} {g : Nat} {l : List Nat} (h : Blk w g l) : g < w.heap.size := by
  obtain ⟨cs, h1, -⟩ := h
  exact (Array.getElem?_eq_some_iff.1 h1).1
theorem Blk.below {w w' : World} {g : Nat} {l : List Nat} (h : Blk w g l) (hb : Below w.heap.size w w') : Blk w' g l := by
  have hlt := h.lt
  obtain ⟨cs, h1, h2⟩ := h
  exact ⟨cs, by rw [hb.block g hlt]; exact h1, h2⟩
theorem Blk.cell {w : World} {g : Nat} {l : List Nat} (h : Blk w g l) {j : Nat} (hj : j < 32) : w.cell? ⟨g, j, none⟩ = some (.bool (l.contains j)) := by
  obtain ⟨cs, h1, h2, h3, h4⟩ := h
  rw [cell_of_row _ _ j _ _ (0, 0) h1]
  exact h4 j hj
theorem Blk.fz {w : World} {g : Nat} {l : List Nat} (h : Blk w g l) (j : Nat) : w.frozen? ⟨g, j, none⟩ = false := by
  obtain ⟨cs, h1, -⟩ := h
  simp [World.frozen?, h1]
theorem Blk.put {w : World} {g : Nat} {l : List Nat} (h : Blk w g l) (a : Nat) (ha : a < 32) : Blk (w.setCell ⟨g, a, none⟩ (.bool true)) g (l ++ [a]) := by
  obtain ⟨cs, h1, h2, h3, h4⟩ := h
  have e1 := setCell_eq_setRow w g a cs 90 (0, 0) (.bool true) h1
  refine ⟨_, by rw [e1]; exact setRow_heap _ g _ _ _ (0, 0) h1, by simpa using h2, ?_, fun j hj => ?_⟩
  · rw [Array.all_eq_true] at h3 ⊢
    intro i hi
    rw [Array.getElem_setIfInBounds]
    split
    · rfl
    · exact h3 i (by simpa using hi)
  · rw [Array.getElem?_setIfInBounds]
    by_cases e : a = j
    · subst e
      rw [if_pos rfl, if_pos (by omega)]
      simp
    · rw [if_neg e, h4 j hj]
      have e2 : ¬ j = a := fun q => e q.symm
      simp [e2]
/-- The whole array out of its block. -/
theorem Blk.whole {w : World} {g : Nat} {l : List Nat} (h : Blk w g l) : ∃ C : Array Value, ArrB C l ∧ w.heap[g]? = some (.cells C 90 (0, 0)) ∧ (Try.prog.info? 90).map (·.size) = some C.size := by
  obtain ⟨cs, h1, h2⟩ := h
  exact ⟨cs, h2, h1, by rw [h2.1]; kernel_rfl⟩
/-- A block that was just made of such an array. -/
theorem Blk.new (w : World) {C : Array Value} {l : List Nat} (h : ArrB C l) : Blk (w.alloc (.cells C 90)) w.heap.size l := ⟨C, heap_alloc_last w _, h⟩

theorem run_index_arr {P : Program} {w : World} (t e : TypeId) (n : Nat) (cs : Array Value) (k : IntKind) (i : Int) (v : Value) (h : P.underlying t = some (.array n e)) (hs : (P.info? e).map (·.size) = some 1) (ha : (isAgg e).run P w = .ok false w) (h0 : 0 ≤ i) (h1 : i < n) (hv : cs[i.toNat]? = some v) :
    (Instr.index t (.agg cs) (.int k i)).run P w = .ok v w := by
  cases hq : P.info? e with
  | none => simp [hq] at hs
  | some x =>
    have hx : x.size = 1 := by simpa [hq] using hs
    have hlt := (Array.getElem?_eq_some_iff.1 hv).1
    simp [Instr.index, run_underlying h, asIntOf, h0, h1, sizeOf, typeInfo, hq, hx, part, hv, ha, go_sem]

theorem hig_eq {n : Nat} {F : Nat → Nat → Bool} {l : List Nat} {a : Nat} (h : ∀ j, j < 32 → l.contains j = true → j ≠ a → F a j = false) (hl : ∀ b ∈ l, b < 32) : higB F l a = l.contains a := by
  unfold higB
  have : (l.any fun b => b != a && F a b) = false := by
    rw [List.any_eq_false]
    intro b hb q
    rw [Bool.and_eq_true] at q
    have := h b (hl b hb) (List.contains_iff_mem.2 hb) (by simpa using q.1)
    rw [this] at q
    exact absurd q.2 (by simp)
  rw [this]; simp
theorem hig_not {F : Nat → Nat → Bool} {l : List Nat} {a j : Nat} (h1 : l.contains j = true) (h2 : j ≠ a) (h3 : F a j = true) : higB F l a = false := by
  unfold higB
  have : (l.any fun b => b != a && F a b) = true := List.any_eq_true.2 ⟨j, List.contains_iff_mem.1 h1, by rw [h3]; simp [h2]⟩
  rw [this]; simp

set_option maxRecDepth 100000 in
set_option maxHeartbeats 1000000 in
/-- The closure. -/
theorem labismax_calls (nm : List ByteArray) (F : Nat → Nat → Bool) (v : Value) (w : World) (h : LatP w v nm F) (l : List Nat) (hl : ∀ a ∈ l, a < nm.length) (p1 p2 : Nat) (h1 : Blk w p1 l) (h2 : w.cell? ⟨p2, 0, none⟩ = some v) (a : Nat) (ha : a < nm.length) (R : Ending → World → Prop)
    (hR : Hid (R (.returned (.bool (higB F l a))) w)) : Calls Try.prog 67 #[.int .i64 a, .pointer (some ⟨p1, 0, none⟩), .pointer (some ⟨p2, 0, none⟩)] w R := by
  have h32 := h.latt.2
  have cQ := Lib.hid fun (a b : Nat) (ha : a < nm.length) (hb : b < nm.length) (R : Ending → World → Prop) (hR : Hid (R (.returned (.bool (F a b))) w)) => latleqx_calls nm F v w h a b R (by rw [decide_eq_true ⟨by omega, by omega, by omega, by omega⟩, Int.toNat_natCast, Int.toNat_natCast, Bool.true_and]; exact hR)
  have hmem := Lib.hid fun j (hj : l.contains j = true) => hl j (List.contains_iff_mem.1 hj)
  have hend := Lib.hid fun hh => hig_eq (n := nm.length) (F := F) (l := l) (a := a) hh (fun b hb => by have := hl b hb; omega)
  have hnot := Lib.hid fun j h1 h2 h3 => hig_not (F := F) (l := l) (a := a) (j := j) h1 h2 h3
  obtain ⟨p, rfl⟩ := h.ptr
  have e9 := h1.cell (j := a) (by omega)
  have hC := h1.whole
  obtain ⟨C, ⟨hC1, hC2, hC3⟩, hC4, hC5⟩ := hC
  have ha0 : (0 : Int) ≤ (a : Int) := by omega
  have ha1 : (a : Int) < 32 := by omega
  replace hC3 := Lib.hid hC3
  replace hC5 := Lib.hid hC5
  replace e9 := Lib.hid e9
  clear h hl h1 hC1 hC2
  generalize nm.length = n at *
  go_enter Try.func67, Try.ntmps67
  go_wp2_with (refine wpList_load_row rfl 90 _ rfl p1 rfl 90 C (0, 0) _ hC4 Try.underlying90 rfl hC5.out ?_)
  go_loopg [8] 32 (fun g i wr => ∃ K : Nat, i = .int .i64 K ∧ K + g = 32 ∧ wr = w ∧ Hid (∀ j, j < K → l.contains j = true → j ≠ a → F a j = false))
  case atStart => exact ⟨0, rfl, rfl, rfl, Lib.hid fun j h => by omega⟩
  case round =>
    obtain ⟨K, rfl, c1, rfl, hk⟩ := hrel
    by_cases hK : K < 32
    · have x0 := hC3.out K hK
      have i0 : (0 : Int) ≤ (K : Int) := by omega
      have i1 : (K : Int) < 32 := by omega
      have hnx : (l.contains K = true → K ≠ a → F a K = false) → ∀ j, j < K + 1 → l.contains j = true → j ≠ a → F a j = false := fun h j hj => by
        rcases Nat.eq_or_lt_of_le (Nat.le_of_lt_succ hj) with e | q
        · subst e; exact h
        · exact hk.out j q
      have hix := run_index_arr (P := Try.prog) (w := wr) 90 4 32 C .i64 K (.bool (l.contains K)) Try.underlying90 (by kernel_rfl) (Try.isAgg4 _) i0 (by omega) (by rw [Int.toNat_natCast]; exact x0)
      have hnoK := hnot.out K
      have hm := hmem.out K
      clear hk x0 hC4 hnot hmem
      generalize hq : l.contains K = q at *
      cases q
      · have h3 := Lib.hid (hnx (fun h => by simp at h))
        clear hnx hnoK hm hq
        go_wp2_with fail
        go_roundg (gk - 1)
        case measure => omega
        case rel => exact ⟨K + 1, by go_num, by omega, rfl, h3⟩
      · by_cases e : K = a
        · have h3 := Lib.hid (hnx (fun _ h => absurd e h))
          have q0 : ((K : Int) != (a : Int)) = false := by rw [e]; simp
          clear hnx hnoK hm hq e
          go_wp2_with fail
          go_roundg (gk - 1)
          case measure => omega
          case rel => exact ⟨K + 1, by go_num, by omega, rfl, h3⟩
        · have q0 : ((K : Int) != (a : Int)) = true := by simp; omega
          have cQ2 := cQ.out a K ha (hm rfl)
          cases q1 : F a K
          · have h3 := Lib.hid (hnx (fun _ _ => q1))
            rw [q1] at cQ2
            replace cQ2 := Lib.hid cQ2
            clear hnx hnoK hm hq q1 cQ
            go_wp2_with fail
            refine cQ2.out _ (Lib.hid ?_)
            go_wp2_with fail
            go_roundg (gk - 1)
            case measure => omega
            case rel => exact ⟨K + 1, by go_num, by omega, rfl, h3⟩
          · rw [q1] at cQ2
            rw [hnoK rfl e q1] at hR
            replace cQ2 := Lib.hid cQ2
            clear hnx hnoK hm hq q1 cQ
            go_wp2_with fail
            refine cQ2.out _ (Lib.hid ?_)
            go_wp2_with fail
            exact hR.out
    · obtain rfl : K = 32 := by omega
      have e := hend.out hk.out
      rw [e] at hR
      have e9 := e9.out
      clear hk hend hnot hmem cQ hC4 e hC3
      generalize l.contains a = B at *
      go_wp2_with fail
      exact hR.out

theorem higK_succ {n : Nat} {F : Nat → Nat → Bool} {l : List Nat} (K : Nat) : (List.range (K + 1)).filter (higB F l) = (List.range K).filter (higB F l) ++ (if higB F l K = true then [K] else []) := by
  rw [List.range_succ, List.filter_append]
  congr 1
  by_cases h : higB F l K = true
  · rw [if_pos h, List.filter_cons_of_pos h]; rfl
  · rw [if_neg h, List.filter_cons_of_neg h]; rfl
theorem higK_len {F : Nat → Nat → Bool} {l : List Nat} (K : Nat) : ((List.range K).filter (higB F l)).length ≤ K := by
  have := List.length_filter_le (higB F l) (List.range K)
  rwa [List.length_range] at this
set_option maxRecDepth 100000 in
set_option maxHeartbeats 1000000 in
theorem labmaximal_calls (nm : List ByteArray) (F : Nat → Nat → Bool) (v : Value) (w : World) (h : LatP w v nm F) (l : List Nat) (hl : ∀ a ∈ l, a < nm.length) (C : Array Value) (hC : ArrB C l) (R : Ending → World → Prop)
    (hR : Hid (∀ v' L w', w'.ownsRow w.heap.size 3 1 v' L (ivR (higS nm.length F l)) → Below w.heap.size w w' → R (.returned v') w')) : Calls Try.prog 43 #[v, .agg C] w R := by
  have h32 := h.latt.2
  have cM := Lib.hid fun (W : World) (hb : Below w.heap.size w W) p1 p2 h1 h2 a ha R hR => labismax_calls nm F v W (h.below hb) l hl p1 p2 h1 h2 a ha R hR
  have hs := Lib.hid fun K => higK_succ (n := nm.length) (F := F) (l := l) K
  have hln := Lib.hid fun K => higK_len (F := F) (l := l) K
  obtain ⟨j0, hJ, yz0, yz1, yz2⟩ := info_parts infoIntR
  have hlen := Lib.hid fun (W : World) (hb : Below w.heap.size w W) (R : Ending → World → Prop) (hR : Hid (R (.returned (.int .i64 nm.length)) W)) => show Calls Try.prog 66 #[v] W R by
    obtain ⟨p, rfl, hv, -⟩ := h.below hb
    exact latlenx_calls nm p W hv R hR
  obtain ⟨p, rfl⟩ := h.ptr
  obtain ⟨Z, hZ, hZs⟩ := zvSet
  have hSt : ∀ w : World, (storeCells ⟨w.heap.size, 0, none⟩ C.toList 0).run Try.prog (w.alloc (.cells Z 90)) = .ok () (w.alloc (.cells C 90)) :=
    fun w => run_storeCells_new w _ Z C (by rw [hC.1]; kernel_rfl) (by rw [hZs.1, hC.1]) hC.2.1
  have hCs := hC.1
  have nb1 := (Below.refl w.heap.size w).alloc (Nat.le_refl _) (.cells #[.pointer (some ⟨p, 0, none⟩)] 28)
  have k2 : (w.alloc (.cells #[.pointer (some ⟨p, 0, none⟩)] 28)).cell? ⟨w.heap.size, 0, none⟩ = some (.pointer (some ⟨p, 0, none⟩)) := by rw [World.cell?_alloc_new]; rfl
  have z1 : (w.alloc (.cells #[.pointer (some ⟨p, 0, none⟩)] 28)).heap.size = w.heap.size + 1 := by simp
  have B2 := Blk.new (w.alloc (.cells #[.pointer (some ⟨p, 0, none⟩)] 28)) hC
  have bC := (Below.refl (w.heap.size + 1) (w.alloc (.cells #[.pointer (some ⟨p, 0, none⟩)] 28))).alloc (by omega) (.cells C 90)
  have k3 := (bC.cell (p := ⟨w.heap.size, 0, none⟩) (Nat.lt_succ_self _)).trans k2
  have z2 : ((w.alloc (.cells #[.pointer (some ⟨p, 0, none⟩)] 28)).alloc (.cells C 90)).heap.size = w.heap.size + 2 := by simp
  have nb2 := Lib.hid (nb1.trans (bC.mono (Nat.le_succ _)))
  rw [z1] at B2
  replace B2 := Lib.hid B2
  replace k3 := Lib.hid k3
  replace z2 := Lib.hid z2
  clear bC nb1 k2 hC
  go_enter Try.func43, Try.ntmps43
  go_wp2_with fail
  clear z1 hSt hZ hZs hCs
  generalize (w.alloc (.cells #[.pointer (some ⟨p, 0, none⟩)] 28)).alloc (.cells C 90) = w2 at *
  have hlen2 := Lib.hid (hlen.out w2 nb2.out)
  clear hlen
  refine hlen2.out _ (Lib.hid ?_)
  clear hlen2
  generalize hHH : w.heap.size = H at *
  have hHl : Hid (w.heap.size = H) := Lib.hid hHH
  clear hHH
  have hsz2 := z2.out
  have hSl : higS nm.length F l = (List.range nm.length).filter (higB F l) := rfl
  replace hSl := Lib.hid hSl
  obtain ⟨S, hS⟩ : ∃ S : Nat → List Nat, S = fun K => (List.range K).filter (higB F l) := ⟨_, rfl⟩
  have hs2 := Lib.hid fun K => show S (K + 1) = S K ++ (if higB F l K = true then [K] else []) by rw [hS]; exact hs.out K
  have hln2 := Lib.hid fun K => show (S K).length ≤ K by rw [hS]; exact hln.out K
  have hS0 := Lib.hid (show S 0 = [] by rw [hS]; rfl)
  have hSf := Lib.hid (show S nm.length = higS nm.length F l by rw [hS]; rfl)
  clear hS hs hln hSl
  generalize nm.length = n at *
  go_wp2_with fail
  go_loopg [6, 11] n (fun g s i wr => ∃ (K : Nat) (vo : Value), vo = s ∧ i = .int .i64 K ∧ K + g = n ∧ Hid (Below w2.heap.size w2 wr) ∧ Hid (wr.ownsRow (H + 2) 3 1 vo (S K).length (ivR (S K))))
  case atStart => exact ⟨0, _, rfl, rfl, by omega, Lib.hid (Below.refl _ _), Lib.hid (by rw [hS0.out]; exact World.ownsRow_nil _ _ _ _)⟩
  case round =>
    obtain ⟨K, vo, rfl, rfl, c1, nb, own⟩ := hrel
    have hsz := nb.out.size
    by_cases hK : K < n
    · have nw := nb2.out.trans (nb.out.mono (by omega))
      have cM2 := cM.out wr nw (H + 1) H (B2.out.below nb.out) ((nb.out.cell (p := ⟨H, 0, none⟩) (by simp only; omega)).trans k3.out) K hK
      have h1 := hs2.out K
      have h2 := hln2.out K
      generalize higB F l K = q at *
      replace cM2 := Lib.hid cM2
      clear nw cM
      cases q
      · rw [if_neg (by simp), List.append_nil] at h1
        replace h1 := Lib.hid h1
        go_wp2_with fail
        refine cM2.out _ (Lib.hid ?_)
        go_wp2_with fail
        go_roundg (gk - 1)
        case measure => omega
        case rel => exact ⟨K + 1, vo, rfl, by go_num, by omega, nb, Lib.hid (by rw [h1.out]; exact own.out)⟩
      · rw [if_pos rfl] at h1
        replace h1 := Lib.hid h1
        obtain ⟨L, hL⟩ : ∃ L, (S K).length = L := ⟨_, rfl⟩
        rw [hL] at own h2
        replace hL := Lib.hid hL
        have ow2 := own.out
        have hszW : H + 2 ≤ wr.heap.size := by omega
        clear own
        go_wp2_with fail
        refine cM2.out _ (Lib.hid ?_)
        go_wp2_with (at_builtin; refine app1 wr (.int .i64 (K : Nat)) 3 rfl _ _ 42 rfl (H + 2) j0 (.int .i64 0) 8 Try.underlying42 hJ yz0 yz1 yz2 rfl vo _ _ rfl ow2 rfl rfl (by unfold maxLen; omega) (by omega) hszW ?_; intro v' w3 hown3 hg3 hb3)
        have n3 := Lib.hid (nb.out.trans (hb3.mono (by omega)))
        go_roundg (gk - 1)
        case measure => omega
        case rel =>
          refine ⟨K + 1, v', rfl, by go_num, by omega, n3, Lib.hid ?_⟩
          rw [h1.out, show (S K ++ [K]).length = L + 1 by simp [hL.out], show ivR (S K ++ [K]) = ivR (S K) ++ [.int .i64 (K : Nat)] by simp [ivR]]
          exact hown3
    · obtain rfl : K = n := by omega
      have ow := own.out
      rw [hSf.out] at ow
      have fin := Lib.hid (hR.out _ _ _ (own_mono ow (by omega)) (nb2.out.trans (nb.out.mono (by omega))))
      clear own nb ow cM
      go_wp2_with fail
      exact fin.out
set_option maxRecDepth 100000 in
set_option maxHeartbeats 1000000 in
theorem labmaximalN_calls (w : World) (l : List Nat) (C : Array Value) (hC : ArrB C l) (R : Ending → World → Prop)
    (hR : Hid (∀ A c w', Below w.heap.size w w' → R (.returned (.slice A 0 c)) w')) : Calls Try.prog 43 #[.pointer none, .agg C] w R := by
  obtain ⟨Z, hZ, hZs⟩ := zvSet
  have hSt : ∀ w : World, (storeCells ⟨w.heap.size, 0, none⟩ C.toList 0).run Try.prog (w.alloc (.cells Z 90)) = .ok () (w.alloc (.cells C 90)) :=
    fun w => run_storeCells_new w _ Z C (by rw [hC.1]; kernel_rfl) (by rw [hZs.1, hC.1]) hC.2.1
  have hCs := hC.1
  have nb1 := (Below.refl w.heap.size w).alloc (Nat.le_refl _) (.cells #[.pointer none] 28)
  have k2 : (w.alloc (.cells #[.pointer none] 28)).cell? ⟨w.heap.size, 0, none⟩ = some (.pointer none) := by rw [World.cell?_alloc_new]; rfl
  have z1 : (w.alloc (.cells #[.pointer none] 28)).heap.size = w.heap.size + 1 := by simp
  have nb2 := Lib.hid (nb1.alloc nb1.size (.cells C 90))
  clear nb1 hC
  go_enter Try.func43, Try.ntmps43
  go_wp2_with fail
  clear z1 hSt hZ hZs hCs k2
  generalize (w.alloc (.cells #[.pointer none] 28)).alloc (.cells C 90) = w2 at *
  refine latlenN_calls _ _ (Lib.hid fun w3 n3 => ?_)
  have nb3 := Lib.hid (nb2.out.trans (n3.mono nb2.out.size))
  clear nb2 n3
  go_wp2_with fail
  go_loopg [6, 11] 0 (fun g s i wr => s = .slice none 0 0 ∧ i = .int .i64 0 ∧ wr = w3)
  case atStart => exact ⟨rfl, rfl, rfl⟩
  case round =>
    obtain ⟨rfl, rfl, rfl⟩ := hrel
    go_wp2_with fail
    exact hR.out _ _ _ nb3.out

set_option maxRecDepth 100000 in
set_option maxHeartbeats 1000000 in
theorem labhighest_calls (nm : List ByteArray) (F : Nat → Nat → Bool) (v : Value) (w : World) (h : LatP w v nm F) (xs : List Int) (vx : Value) (hx : RdZ w vx xs) (hgx : ∀ x ∈ xs, Bd x) (hxl : xs.length ≤ 1000) (R : Ending → World → Prop)
    (hR : Hid (∀ v' L w', w'.ownsRow w.heap.size 3 1 v' L (ivR (higS nm.length F (lvS nm.length xs))) → Below w.heap.size w w' → R (.returned v') w')) : Calls Try.prog 18 #[v, vx] w R := by
  have h32 := h.latt.2
  have cI := Lib.hid fun (W : World) (hb : Below w.heap.size w W) a b hq R hR => labislev_calls nm F v W (h.below hb) a b hq R hR
  have cM := Lib.hid fun (W : World) (hb : Below w.heap.size w W) l hl C hC R hR => labmaximal_calls nm F v W (h.below hb) l hl C hC R hR
  obtain ⟨p, rfl⟩ := h.ptr
  obtain ⟨A, c, rfl, -, hr⟩ := hx.op
  obtain ⟨Z, hZ, hZs⟩ := zvSet
  have B0 := Lib.hid (Blk.new w hZs)
  have n0 := Lib.hid ((Below.refl w.heap.size w).alloc (Nat.le_refl _) (.cells Z 90))
  replace hr := Lib.hid hr
  replace hZs := Lib.hid hZs
  clear h hx hgx
  go_enter Try.func18, Try.ntmps18
  go_wp2_with fail
  go_loopg [10] xs.length (fun g i wr => ∃ K : Nat, i = .int .i64 K ∧ K + g = xs.length ∧ Hid (Below w.heap.size w wr) ∧ Hid (Blk wr w.heap.size (lvS nm.length (xs.take K))))
  case atStart => exact ⟨0, rfl, by omega, n0, B0⟩
  case round =>
    clear n0 B0
    obtain ⟨K, rfl, c1, nb, Bk⟩ := hrel
    have hH := Bk.out.lt
    by_cases hK : K < xs.length
    · obtain ⟨g, o, rfl, hg, hca⟩ := hr.out (by omega)
      have x0 := (nb.out.cell (p := ⟨g, o + K, none⟩) hg).trans (hca K hK)
      have i0 : (0 : Int) ≤ (K : Int) := by omega
      have i1 : (K : Int) < (xs.length : Int) := by omega
      have htk := lv_take (n := nm.length) hK
      clear hca
      generalize zN xs K = x at *
      by_cases q : 0 ≤ x ∧ x < nm.length
      · have cI2 := Lib.hid (cI.out wr nb.out x true (decide_eq_true q).symm)
        rw [if_pos q] at htk
        obtain ⟨a, rfl⟩ : ∃ a : Nat, x = a := ⟨x.toNat, by omega⟩
        rw [Int.toNat_natCast] at htk
        have ha32 : a < 32 := by omega
        have r1 := Bk.out.cell ha32
        have r2 := Bk.out.fz a
        have B5 := Bk.out.put a ha32
        rw [← htk] at B5
        replace B5 := Lib.hid B5
        have n5 := Lib.hid (nb.out.setCell (p := ⟨w.heap.size, a, none⟩) (Nat.le_refl _) (.bool true))
        have j0 : (0 : Int) ≤ (a : Int) := by omega
        have j1 : (a : Int) < 32 := by omega
        clear q htk nb Bk cI
        go_wp2_with fail
        refine cI2.out _ (Lib.hid ?_)
        go_wp2_with fail
        go_roundg (gk - 1)
        case measure => omega
        case rel => exact ⟨K + 1, by go_num, by omega, n5, B5⟩
      · have cI2 := Lib.hid (cI.out wr nb.out x false (decide_eq_false q).symm)
        rw [if_neg q, List.append_nil] at htk
        have B5 := Bk.out
        rw [← htk] at B5
        replace B5 := Lib.hid B5
        clear q htk Bk cI
        go_wp2_with fail
        refine cI2.out _ (Lib.hid ?_)
        go_wp2_with fail
        go_roundg (gk - 1)
        case measure => omega
        case rel => exact ⟨K + 1, by go_num, by omega, nb, B5⟩
    · obtain rfl : K = xs.length := by omega
      obtain ⟨C, hC, hC4, hC5⟩ := Bk.out.whole
      rw [List.take_length] at hC
      replace hC5 := Lib.hid hC5
      have cM2 := Lib.hid (cM.out wr nb.out _ lvS_lt C hC)
      have fin := Lib.hid fun v' L w' ow (hb : Below wr.heap.size wr w') => hR.out v' L w' (own_mono ow nb.out.size) (nb.out.trans (hb.mono nb.out.size))
      clear Bk hC cI cM nb
      go_wp2_with (refine wpList_load_row rfl 90 _ rfl w.heap.size rfl 90 C (0, 0) _ hC4 Try.underlying90 rfl hC5.out ?_)
      refine cM2.out _ (Lib.hid fun v4 L4 w4 o4 n4 => ?_)
      replace o4 := Lib.hid o4
      replace n4 := Lib.hid n4
      go_wp2_with fail
      exact fin.out _ _ _ o4.out n4.out

set_option maxRecDepth 100000 in
set_option maxHeartbeats 1000000 in
theorem labhighestN_calls (w : World) (xs : List Int) (vx : Value) (hx : RdZ w vx xs) (hgx : ∀ x ∈ xs, Bd x) (hxl : xs.length ≤ 1000) (R : Ending → World → Prop)
    (hR : Hid (∀ A c w', Below w.heap.size w w' → R (.returned (.slice A 0 c)) w')) : Calls Try.prog 18 #[.pointer none, vx] w R := by
  obtain ⟨A, c, rfl, -, hr⟩ := hx.op
  obtain ⟨Z, hZ, hZs⟩ := zvSet
  have B0 := Lib.hid (Blk.new w hZs)
  have n0 := Lib.hid ((Below.refl w.heap.size w).alloc (Nat.le_refl _) (.cells Z 90))
  replace hr := Lib.hid hr
  replace hZs := Lib.hid hZs
  clear hx hgx
  go_enter Try.func18, Try.ntmps18
  go_wp2_with fail
  go_loopg [10] xs.length (fun g i wr => ∃ K : Nat, i = .int .i64 K ∧ K + g = xs.length ∧ Hid (Below w.heap.size w wr) ∧ Hid (Blk wr w.heap.size []))
  case atStart => exact ⟨0, rfl, by omega, n0, B0⟩
  case round =>
    clear n0 B0
    obtain ⟨K, rfl, c1, nb, Bk⟩ := hrel
    have hH := Bk.out.lt
    by_cases hK : K < xs.length
    · obtain ⟨g, o, rfl, hg, hca⟩ := hr.out (by omega)
      have x0 := (nb.out.cell (p := ⟨g, o + K, none⟩) hg).trans (hca K hK)
      have i0 : (0 : Int) ≤ (K : Int) := by omega
      have i1 : (K : Int) < (xs.length : Int) := by omega
      clear hca
      generalize zN xs K = x at *
      go_wp2_with fail
      refine labislevN_calls _ _ _ (Lib.hid fun w2 n2 => ?_)
      have B5 := Lib.hid (Bk.out.below n2)
      have n5 := Lib.hid (nb.out.trans (n2.mono nb.out.size))
      clear nb Bk n2 x0
      go_wp2_with fail
      go_roundg (gk - 1)
      case measure => omega
      case rel => exact ⟨K + 1, by go_num, by omega, n5, B5⟩
    · obtain rfl : K = xs.length := by omega
      obtain ⟨C, hC, hC4, hC5⟩ := Bk.out.whole
      replace hC5 := Lib.hid hC5
      have cM2 := Lib.hid fun R hR => labmaximalN_calls wr [] C hC R hR
      have fin := Lib.hid fun A c w' (hb : Below wr.heap.size wr w') => hR.out A c w' (nb.out.trans (hb.mono nb.out.size))
      clear Bk hC nb
      go_wp2_with (refine wpList_load_row rfl 90 _ rfl w.heap.size rfl 90 C (0, 0) _ hC4 Try.underlying90 rfl hC5.out ?_)
      refine cM2.out _ (Lib.hid fun A4 c4 w4 n4 => ?_)
      replace n4 := Lib.hid n4
      go_wp2_with fail
      exact fin.out _ _ _ n4.out
end Go.Proofs.Ytlijjbcamkhhaaa.Lab

/- The code of layer 12: Of, Sees. -/
set_option maxRecDepth 100000
set_option linter.unusedVariables false
namespace Go.Proofs.Ytlijjbcamkhhaaa.Lab
open Go.RowKit Go.Lib Go.Proofs.Ytlijjbcamkhhaaa.Utf Go.Proofs.Ytlijjbcamkhhaaa.Rel Go.Proofs.Ytlijjbcamkhhaaa.Nam Go.Proofs.Ytlijjbcamkhhaaa.Lat

/-- A row of numbers of the call's own. -/
abbrev OwnZ (w : World) (base B n : Nat) (l : List Value) : Prop := w.ownsRow base 3 1 (.slice (some ⟨B, 0, none⟩) n n) n l
theorem OwnZ.put {w : World} {base B n : Nat} {l : List Value} (ow : OwnZ w base B n l) (i : Nat) (x : Value) : OwnZ (w.setCell ⟨B, i, none⟩ x) base B n (l.set i x) ∧ w.grownBy (w.setCell ⟨B, i, none⟩ x) (some B) := World.ownsRow.stored ow i x
/-- The numbers of the first words. -/
def FilO (nm : List ByteArray) (qs : List Wr) (K : Nat) (l : List Value) : Prop := l.length = qs.length ∧ ∀ j, j < K → l[j]? = some (.int .i64 (findS nm (wN qs j).1))
theorem FilO.put {nm : List ByteArray} {qs : List Wr} {K : Nat} {l : List Value} (h : FilO nm qs K l) (hK : K < qs.length) : FilO nm qs (K + 1) (l.set K (.int .i64 (findS nm (wN qs K).1))) := by
  refine ⟨by rw [List.length_set]; exact h.1, fun j hj => ?_⟩
  rcases Nat.eq_or_lt_of_le (Nat.le_of_lt_succ hj) with e | q
  · subst e; rw [List.getElem?_set_self (by rw [h.1]; exact hK)]
  · rw [List.getElem?_set_ne (by omega)]; exact h.2 j q
theorem FilO.fin {nm : List ByteArray} {qs : List Wr} {l : List Value} (h : FilO nm qs qs.length l) (hs : ∀ j, j < qs.length → ofAt nm qs j = none) : l = izv ((fndL nm qs).map fun (a : Nat) => (a : Int)) := by
  refine List.ext_getElem? fun j => ?_
  by_cases hj : j < qs.length
  · rw [h.2 j hj]
    have h1 := hs j hj
    unfold ofAt at h1
    have h2 : ¬ findS nm (wN qs j).1 < 0 := fun q => by rw [if_pos q] at h1; cases h1
    unfold izv fndL
    rw [List.map_map, List.map_map, List.getElem?_map, List.getElem?_eq_getElem hj, wN_get hj]
    rw [wN_get hj] at h2
    simp only [Option.map_some, Function.comp]
    rw [Int.toNat_of_nonneg (by omega)]
  · rw [List.getElem?_eq_none (by rw [h.1]; omega), List.getElem?_eq_none (by rw [izv_len, List.length_map, fnd_len]; omega)]

theorem box_flt (w : World) (a b : Value) (t : TypeId) : (w.alloc (.cells #[a, b] t)).cell? ⟨w.heap.size, 0, none⟩ = some a ∧ (w.alloc (.cells #[a, b] t)).cell? ⟨w.heap.size, 1, none⟩ = some b := by
  have q1 := heap_alloc_new w (.cells #[a, b] t)
  exact ⟨by rw [Lib.cell_of_heap q1]; rfl, by rw [Lib.cell_of_heap q1]; rfl⟩
set_option maxRecDepth 100000 in
set_option maxHeartbeats 2000000 in
theorem labof_calls (nm : List ByteArray) (F : Nat → Nat → Bool) (v : Value) (w : World) (h : LatP w v nm F) (qs : List Wr) (vq : Value) (hq : RdW w vq qs) (hgq : ∀ x ∈ qs, GoodW x) (hql : qs.length ≤ 1000) (R : Ending → World → Prop)
    (hR : Hid (∀ w', firF (ofAt nm qs) qs.length 0 = none → Below w.heap.size w w' → R (.returned (.tuple #[.int .i64 (lubZ nm.length F (fndL nm qs)), .agg #[.int .i64 0, .int .i64 0]])) w'))
    (hR2 : Hid (∀ x w', firF (ofAt nm qs) qs.length 0 = some x → Below w.heap.size w w' → R (.returned (.tuple #[.int .i64 0, .agg #[.int .i64 x.1, .int .i64 x.2]])) w')) : Calls Try.prog 11 #[v, vq] w R := by
  obtain ⟨hL, h32⟩ := h.latt
  have cF := Lib.hid fun (W : World) (hb : Below w.heap.size w W) s hs R hR => latfind_calls nm F v W (h.below hb) R s hs hR
  have cJ := Lib.hid fun (W : World) (hb : Below w.heap.size w W) xs vx hx hxl R hR => labjoin_calls nm F v W (h.below hb) xs vx hx hxl R hR
  have hgood := Lib.hid fun i (h : i < qs.length) => (hgq _ (wN_mem h)).1
  have hlb := Lib.hid fun hl => (lub_nat hL (l := fndL nm qs) hl).1
  obtain ⟨p, rfl⟩ := h.ptr
  obtain ⟨Aq, cq, rfl, -, hrq⟩ := hq.op
  obtain ⟨M, hM, hmk⟩ := mk_int qs.length (by omega)
  have T := Flt.new w
  have z0 : (w.alloc (.cells #[.int .i64 0, .int .i64 0] 31)).heap.size = w.heap.size + 1 := by simp
  replace hrq := Lib.hid hrq
  clear h hq hL hgq
  go_enter Try.func11, Try.ntmps11
  go_upto_region 1 with fail
  generalize w.alloc (.cells #[.int .i64 0, .int .i64 0] 31) = W0 at *
  have oA := own_made (n := qs.length) (w := W0) (t := 3) (M := M) rfl (by simp [hM]) (by unfold maxLen; omega)
  have T1 := T.below1 ((Below.refl (w.heap.size + 1) W0).alloc (by omega) (.cells M 3))
  generalize hls : M.toList = ls0 at *
  rw [z0] at oA
  have hll : ls0.length = qs.length := by rw [← hls]; simp [hM]
  replace T := Lib.hid T1
  replace oA := Lib.hid oA
  replace hll := Lib.hid hll
  clear T1 hM hls
  go_wp2_with fail
  go_loopg [19] qs.length (fun g i wr => ∃ (K : Nat) (l : List Value), i = .int .i64 K ∧ K + g = qs.length ∧ Hid (Flt w w.heap.size wr) ∧ Hid (OwnZ wr (w.heap.size + 1) (w.heap.size + 1) qs.length l) ∧ Hid (FilO nm qs K l) ∧ Hid (∀ j, j < K → ofAt nm qs j = none))
  case atStart => exact ⟨0, _, rfl, by omega, T, oA, Lib.hid ⟨hll.out, fun j h => by omega⟩, Lib.hid fun j h => by omega⟩
  case round =>
    clear T oA hll
    obtain ⟨K, l, rfl, c1, T, ow, hs, hk⟩ := hrel
    have hlt : w.heap.size + 1 ≤ wr.heap.size := T.out.lt
    generalize hHH : w.heap.size = H at *
    by_cases hK : K < qs.length
    · obtain ⟨g, o, rfl, hg, hca⟩ := hrq.out (by omega)
      obtain ⟨x0, x1⟩ := hca K hK
      have hHl : Hid (w.heap.size = H) := Lib.hid hHH
      have e0 := (T.out.nb.cell (p := ⟨g, o + K * 2, none⟩) (by simp only; omega)).trans x0
      have e1 := (T.out.nb.cell (p := ⟨g, o + K * 2 + 1, none⟩) (by simp only; omega)).trans x1
      have hgs := hgood.out K hK
      have hlv : ofAt nm qs K = if findS nm (wN qs K).1 < 0 then some (17, (wN qs K).2) else none := rfl
      have hfir : ∀ f, ofAt nm qs K = some f → firF (ofAt nm qs) qs.length 0 = some f := fun f hf => fir_is qs.length 0 K (Nat.zero_le _) (by omega) hf (fun j _ hj => hk.out j hj)
      have hnx : ofAt nm qs K = none → ∀ j, j < K + 1 → ofAt nm qs j = none := fun h j hj => by
        rcases Nat.eq_or_lt_of_le (Nat.le_of_lt_succ hj) with e | q
        · subst e; exact h
        · exact hk.out j q
      have hs2 := hs.out.put hK
      have hi0 : (0 : Int) ≤ (K : Int) := by omega
      have hi1 : (K : Int) < (qs.length : Int) := by omega
      clear hca x0 x1 hk hs
      generalize (wN qs K).1 = s at *
      generalize (wN qs K).2 = z at *
      generalize ofAt nm qs K = V at *
      have bA := (Below.refl wr.heap.size wr).alloc (Nat.le_refl _) (.cells #[.string s, .int .i64 z] 45)
      have T2 := T.out.below bA
      have ow2 := own_below ow.out bA
      obtain ⟨k0, k1⟩ := box_flt wr (.string s) (.int .i64 z) 45
      have n2 := T2.nb
      have hB : wr.heap.size < (wr.alloc (.cells #[.string s, .int .i64 z] 45)).heap.size := by simp
      have cF2 := cF.out _ n2 s hgs
      generalize hBX : wr.heap.size = BX at *
      have hBXe := Lib.hid hBX
      generalize findS nm s = k at *
      clear bA ow T n2
      by_cases q : k < 0
      · rw [if_pos q] at hlv
        rw [if_pos q, decide_eq_false (by omega)] at cF2
        have fin := Lib.hid fun w' hb => hR2.out _ w' (hfir _ hlv) hb
        replace cF2 := Lib.hid cF2
        replace T2 := Lib.hid T2
        clear hlv hfir hnx ow2 hs2
        go_wp2_with fail
        clear e0 e1
        generalize wr.alloc (.cells #[.string s, .int .i64 z] 45) = Wb at *
        refine cF2.out _ (Lib.hid fun w3 n3 => ?_)
        have T3 := Lib.hid (T2.out.below n3)
        have k1' := (n3.cell (p := ⟨BX, 1, none⟩) hB).trans k1
        clear T2 n3 k0 k1
        go_wp2_with fail
        go_still_tail 4, (by kernel_rfl)
        repeat still_step
        change wpList _ _ _ _ _ w3.drew
        have T4 := T3.out.below (Below.refl _ _).drew
        clear T3 k1'
        generalize w3.drew = W3 at *
        obtain ⟨nf, s0', s1'⟩ := T4.told (.int .i64 17) (.int .i64 z)
        have c0 := T4.c0
        have c1 := T4.c1
        have f0' := T4.f0
        have f1' := T4.f1
        replace nf := Lib.hid nf
        replace s0' := Lib.hid s0'
        replace s1' := Lib.hid s1'
        clear T4
        go_wp2_with fail
        replace s0' := s0'.out
        replace s1' := s1'.out
        clear c0 c1 f0' f1'
        generalize (W3.setCell ⟨H, 0, none⟩ _).setCell ⟨H, 1, none⟩ _ = Wz at *
        refine bodyPost_ret ?_ rfl (fin.out _ nf.out)
        simp [results, Try.results11, go_sem, s0', s1']
      · rw [if_neg q] at hlv
        rw [if_neg q, decide_eq_true (by omega)] at cF2
        have hn2 := Lib.hid (hnx hlv)
        replace cF2 := Lib.hid cF2
        replace T2 := Lib.hid T2
        replace ow2 := Lib.hid ow2
        replace hs2 := Lib.hid hs2
        clear hlv hfir hnx q k0 k1
        go_wp2_with fail
        clear e0 e1
        generalize wr.alloc (.cells #[.string s, .int .i64 z] 45) = Wb at *
        refine cF2.out _ (Lib.hid fun w3 n3 => ?_)
        have T3 := Lib.hid (T2.out.below n3)
        have ow3 := own_below ow2.out n3
        obtain ⟨o4, g4⟩ := OwnZ.put ow3 K (.int .i64 k)
        have r2 := World.ownsRow.frozenAt ow3 K
        obtain ⟨u, r3⟩ : ∃ u, w3.cell? ⟨H + 1, K, none⟩ = some u := by
          have := World.ownsRow.cellAt ow3 K (by omega)
          have hl2 := ow3.1
          exact ⟨l[K]'(by omega), by rw [this, List.getElem?_eq_getElem]⟩
        have hsz3 : H + 1 ≤ w3.heap.size := T3.out.lt
        have T4 := Lib.hid (T3.out.below1 (below_of_grown g4 (Nat.le_refl _) hsz3))
        replace o4 := Lib.hid o4
        clear T2 n3 T3 ow2 ow3 g4
        go_wp2_with fail
        go_roundg (gk - 1)
        case measure => omega
        case rel => exact ⟨K + 1, _, by go_num, by omega, T4, o4, hs2, hn2⟩
    · obtain rfl : K = qs.length := by omega
      have hno : firF (ofAt nm qs) qs.length 0 = none := fir_no qs.length 0 (fun j _ hj => hk.out j (by omega))
      have e := hs.out.fin (fun j hj => hk.out j hj)
      have hlt2 := fnd_lt (fun j hj => hk.out j hj)
      have hHl : Hid (w.heap.size = H) := Lib.hid hHH
      have rd : RdZ wr (.slice (some ⟨H + 1, 0, none⟩) qs.length qs.length) ((fndL nm qs).map fun (a : Nat) => (a : Int)) := by
        have := RdAt.of_own ow.out
        rw [e] at this
        exact this
      have n2 := T.out.nb
      have cJ2 := cJ.out wr (by exact n2) _ _ rd (by rw [List.length_map, fnd_len]; omega)
      rw [lvS_nat hlt2, ← hlb.out hlt2] at cJ2
      have fin := Lib.hid fun w' hb => hR.out w' hno hb
      replace cJ2 := Lib.hid cJ2
      generalize lubZ nm.length F (fndL nm qs) = V at *
      obtain ⟨nf, s0', s1'⟩ := T.out.told (.int .i64 0) (.int .i64 0)
      have c0 := T.out.c0
      have c1 := T.out.c1
      have f0' := T.out.f0
      have f1' := T.out.f1
      replace nf := Lib.hid nf
      replace s0' := Lib.hid s0'
      replace s1' := Lib.hid s1'
      clear T e hs hk rd n2 ow hno hlt2 hHH cJ cF hlb
      go_wp2_with fail
      refine cJ2.out _ (Lib.hid ?_)
      go_wp2_with fail
      replace s0' := s0'.out
      replace s1' := s1'.out
      clear c0 c1 f0' f1'
      generalize (wr.setCell ⟨H, 0, none⟩ _).setCell ⟨H, 1, none⟩ _ = Wz at *
      refine bodyPost_ret ?_ rfl (fin.out _ nf.out)
      simp [results, Try.results11, go_sem, s0', s1']
theorem labofN_calls (w : World) (qs : List Wr) (vq : Value) (hq : RdW w vq qs) (hgq : ∀ x ∈ qs, GoodW x) (hql : qs.length ≤ 1000) (R : Ending → World → Prop)
    (hR : Hid (∀ w', Below w.heap.size w w' → R (.returned (.tuple #[.int .i64 0, .agg #[.int .i64 1, .int .i64 0]])) w')) : Calls Try.prog 11 #[.pointer none, vq] w R := by
  obtain ⟨Aq, cq, rfl, -, -⟩ := hq.op
  have T := Flt.new w
  clear hq hgq
  go_enter Try.func11, Try.ntmps11
  go_upto_region 1 with fail
  generalize w.alloc (.cells #[.int .i64 0, .int .i64 0] 31) = W0 at *
  generalize hHH : w.heap.size = H at *
  replace hHH := Lib.hid hHH
  obtain ⟨nf, s0', s1'⟩ := T.told (.int .i64 1) (.int .i64 0)
  have c0 := T.c0
  have c1 := T.c1
  have f0' := T.f0
  have f1' := T.f1
  replace nf := Lib.hid nf
  replace s0' := Lib.hid s0'
  replace s1' := Lib.hid s1'
  clear T
  go_wp2_with fail
  replace s0' := s0'.out
  replace s1' := s1'.out
  clear c0 c1 f0' f1'
  generalize (W0.setCell ⟨H, 0, none⟩ _).setCell ⟨H, 1, none⟩ _ = Wz at *
  refine bodyPost_ret ?_ rfl (hR.out _ nf.out)
  simp [results, Try.results11, go_sem, s0', s1']

/-- Does an observer see a label? -/
noncomputable def seesS (nm : List ByteArray) (F : Nat → Nat → Bool) (qs : List Wr) (obs : Int) : Bool := (firF (ofAt nm qs) qs.length 0).isNone && (decide (0 ≤ obs ∧ obs < nm.length) && F (lubN nm.length F (fndL nm qs)) obs.toNat)
theorem of_17 {nm : List ByteArray} {qs : List Wr} {x : Int × Int} (h : firF (ofAt nm qs) qs.length 0 = some x) : x.1 = 17 := by
  obtain ⟨j, -, -, h1⟩ := fir_some _ _ h
  unfold ofAt at h1
  split at h1
  · cases h1; rfl
  · cases h1
set_option maxHeartbeats 1000000 in
theorem labsees_calls (nm : List ByteArray) (F : Nat → Nat → Bool) (v : Value) (w : World) (h : LatP w v nm F) (obs : Int) (ho : Bd obs) (qs : List Wr) (vq : Value) (hq : RdW w vq qs) (hgq : ∀ x ∈ qs, GoodW x) (hql : qs.length ≤ 1000) (R : Ending → World → Prop)
    (hR : Hid (∀ w', Below w.heap.size w w' → R (.returned (.bool (seesS nm F qs obs))) w')) : Calls Try.prog 13 #[v, .int .i64 obs, vq] w R := by
  obtain ⟨hL, h32⟩ := h.latt
  have cO := Lib.hid fun R hR hR2 => labof_calls nm F v w h qs vq hq hgq hql R hR hR2
  have cQ := Lib.hid fun (W : World) (hb : Below w.heap.size w W) a b R hR => latleqx_calls nm F v W (h.below hb) a b R hR
  have hlb := Lib.hid fun hl => lub_nat hL (l := fndL nm qs) hl
  have hS : seesS nm F qs obs = ((firF (ofAt nm qs) qs.length 0).isNone && (decide (0 ≤ obs ∧ obs < nm.length) && F (lubN nm.length F (fndL nm qs)) obs.toNat)) := rfl
  have hfl := Lib.hid fun (hno : firF (ofAt nm qs) qs.length 0 = none) => fnd_lt (nm := nm) (qs := qs) (fun j hj => fir_none _ _ hno j (Nat.zero_le _) (by omega))
  have h17 := Lib.hid fun x hx => of_17 (nm := nm) (qs := qs) (x := x) hx
  obtain ⟨p, rfl⟩ := h.ptr
  obtain ⟨Aq, cq, rfl, -, -⟩ := hq.op
  clear h hq hL hgq
  replace hS := Lib.hid hS
  go_enter Try.func13, Try.ntmps13
  go_wp2_with fail
  refine cO.out _ (Lib.hid fun w1 hno n1 => ?_) (Lib.hid fun x w1 hsm n1 => ?_)
  · have hl := hfl.out hno
    obtain ⟨z1, z2, -, -⟩ := hlb.out hl
    have hS2 := hS.out
    rw [hno] at hS2
    simp only [Option.isNone_none, Bool.true_and] at hS2
    have cQ2 := fun (W : World) (hb : Below w.heap.size w W) R hR => cQ.out W hb (lubZ nm.length F (fndL nm qs)) obs R hR
    rw [z1] at cQ2 ⊢
    rw [Int.toNat_natCast] at cQ2
    have e : decide (0 ≤ ((lubN nm.length F (fndL nm qs) : Nat) : Int) ∧ ((lubN nm.length F (fndL nm qs) : Nat) : Int) < nm.length ∧ 0 ≤ obs ∧ obs < nm.length) = decide (0 ≤ obs ∧ obs < nm.length) := by
      rw [decide_eq_decide]
      exact ⟨fun h => h.2.2, fun h => ⟨by omega, by omega, h⟩⟩
    rw [e, ← hS2] at cQ2
    have nA := n1.alloc n1.size (.cells #[.int .i64 0, .int .i64 0] 31)
    have cQ3 := Lib.hid (cQ2 _ nA)
    have fin := Lib.hid (hR.out _ nA)
    obtain ⟨k0, k1⟩ := box_flt w1 (.int .i64 0) (.int .i64 0) 31
    clear hl hlb hfl h17 z1 z2 hS2 e cQ2 n1 hno hS cQ cO nA hR
    generalize seesS nm F qs obs = V at *
    generalize lubN nm.length F (fndL nm qs) = Y at *
    go_wp2_with fail
    refine cQ3.out _ (Lib.hid ?_)
    go_wp2_with fail
    cases V <;> exact fin.out
  · have e17 := h17.out x hsm
    have hS2 := hS.out
    rw [hsm] at hS2
    simp only [Option.isNone_some, Bool.false_and] at hS2
    rw [hS2] at hR
    obtain ⟨e, z⟩ := x
    simp only at e17
    subst e17
    have nA := Lib.hid (n1.alloc n1.size (.cells #[.int .i64 17, .int .i64 z] 31))
    obtain ⟨k0, k1⟩ := box_flt w1 (.int .i64 17) (.int .i64 z) 31
    clear hS2 hS n1 hsm h17 hfl hlb cQ cO
    go_wp2_with fail
    exact hR.out _ nA.out
set_option maxHeartbeats 1000000 in
theorem labseesN_calls (w : World) (obs : Int) (ho : Bd obs) (qs : List Wr) (vq : Value) (hq : RdW w vq qs) (hgq : ∀ x ∈ qs, GoodW x) (hql : qs.length ≤ 1000) (R : Ending → World → Prop)
    (hR : Hid (∀ w', Below w.heap.size w w' → R (.returned (.bool false)) w')) : Calls Try.prog 13 #[.pointer none, .int .i64 obs, vq] w R := by
  have cO := Lib.hid fun R hR => labofN_calls w qs vq hq hgq hql R hR
  obtain ⟨Aq, cq, rfl, -, -⟩ := hq.op
  clear hq hgq
  go_enter Try.func13, Try.ntmps13
  go_wp2_with fail
  refine cO.out _ (Lib.hid fun w1 n1 => ?_)
  have nA := Lib.hid (n1.alloc n1.size (.cells #[.int .i64 1, .int .i64 0] 31))
  obtain ⟨k0, k1⟩ := box_flt w1 (.int .i64 1) (.int .i64 0) 31
  clear n1 cO
  go_wp2_with fail
  exact hR.out _ nA.out
end Go.Proofs.Ytlijjbcamkhhaaa.Lab

/- strings.Join with "+" between: the text of levels. -/
set_option maxRecDepth 100000
set_option linter.unusedVariables false
namespace Go.Proofs.Ytlijjbcamkhhaaa.Lab
open Go.RowKit Go.Lib Go.Proofs.Ytlijjbcamkhhaaa.Utf Go.Proofs.Ytlijjbcamkhhaaa.Rel Go.Proofs.Ytlijjbcamkhhaaa.Nam Go.Proofs.Ytlijjbcamkhhaaa.Lat Go.Shelf

theorem joiX : Builder.Extra Try.prog Ytlijjbcamkhhaaa.joinL_ren where
  sizeBuilder := by kernel_rfl
  liesBuilder := by kernel_rfl
  t5 := by kernel_rfl
  a5 := Try.isAgg5
  z5 := Try.sizeOf5
  v5 := Try.zeroValue5
  infoByte := by kernel_rfl
  cellsByte := by kernel_rfl
  sizeByte := by kernel_rfl
  neB5 := by decide
/-- The names of levels. -/
def nmL (nm : List ByteArray) (l : List Nat) : List ByteArray := l.map fun c => nm.getD c ByteArray.empty
theorem nmL_len (nm : List ByteArray) (l : List Nat) : (nmL nm l).length = l.length := by simp [nmL]
theorem nmL_snoc (nm : List ByteArray) (l : List Nat) (c : Nat) : nmL nm (l ++ [c]) = nmL nm l ++ [nm.getD c ByteArray.empty] := by simp [nmL]
/-- Strings with "+" between. -/
def plusS (xs : List ByteArray) : ByteArray := ⟨(Lib.join (xs.map (·.data.toList)) [43]).toArray⟩
theorem join_snoc (x : List UInt8) (sep : List UInt8) : ∀ (xs : List (List UInt8)), Lib.join (xs ++ [x]) sep = (if xs = [] then [] else Lib.join xs sep ++ sep) ++ x
  | [] => by rw [List.nil_append, Lib.join_one]; rfl
  | y :: xs => by
    rw [if_neg (by simp), List.cons_append]
    unfold Lib.join
    induction xs generalizing y with
    | nil => simp [List.intercalate]
    | cons z xs ih =>
      have h := ih z
      simp only [List.intercalate, List.intersperse, List.cons_append, List.flatten_cons] at h ⊢
      rw [h]; simp
theorem plus_txt (nm : List ByteArray) (l : List Nat) : ∀ K, K ≤ l.length → txtK nm l K = plusS (nmL nm (l.take K))
  | 0, _ => by unfold plusS nmL; rfl
  | K + 1, h => by
    have hK : K < l.length := by omega
    have hx : l.getD K 0 = l[K] := by simp [List.getD, List.getElem?_eq_getElem hK]
    rw [txtK, plus_txt nm l K (by omega), List.take_succ_eq_append_getElem hK, nmL_snoc, ← hx]
    unfold plusS
    rw [List.map_append, List.map_cons, List.map_nil, join_snoc]
    by_cases h0 : K = 0
    · subst h0
      rw [if_pos rfl]
      simp only [List.take_zero, nmL, List.map_nil, if_true, List.nil_append]
      refine ByteArray.ext (Array.ext' ?_)
      simp [Lib.join_nil]
    · rw [if_neg h0, if_neg (by
        have : (List.take K l).length = K := by rw [List.length_take]; omega
        intro h
        have h2 := congrArg List.length h
        simp only [List.length_map, nmL_len, this, List.length_nil] at h2
        omega)]
      refine ByteArray.ext (Array.ext' ?_)
      simp
theorem txt_plus (nm : List ByteArray) (l : List Nat) : txtS nm l = plusS (nmL nm l) := by
  unfold txtS
  rw [plus_txt nm l l.length (Nat.le_refl _), List.take_length]
theorem join_calls (xs : List ByteArray) (v : Value) (w : World) (hx : RdS w v xs) (hl : xs.length ≤ 1000000) (hz : (plusS xs).size ≤ 1000000) (R : Ending → World → Prop)
    (hR : Hid (∀ w', Below w.heap.size w w' → R (.returned (.string (plusS xs))) w')) : Calls Try.prog 44 #[v, .string ⟨#[43]⟩] w R := by
  obtain ⟨A, c, rfl, hc, hr⟩ := hx.open
  have hz2 : (Lib.join (xs.map (·.data.toList)) [43]).length ≤ 1000000 := by
    have : (plusS xs).size = (Lib.join (xs.map (·.data.toList)) [43]).length := by unfold plusS; simp [ByteArray.size]
    omega
  rcases Nat.eq_zero_or_pos xs.length with h0 | h0
  · obtain rfl := List.eq_nil_of_length_eq_zero h0
    have := Any.strings_Join_none (ρ := Ytlijjbcamkhhaaa.joinL_ren) Ytlijjbcamkhhaaa.joinL joiX A c ⟨#[43]⟩ w
    change Calls Try.prog 44 _ _ _ at this
    refine this.mono fun e w' ⟨he, hw⟩ => ?_
    subst he
    exact hR.out _ (hw ▸ Below.refl _ _)
  · obtain ⟨g, o, rfl, hg, hca⟩ := hr h0
    have := Any.strings_Join (ρ := Ytlijjbcamkhhaaa.joinL_ren) Ytlijjbcamkhhaaa.joinL joiX g o c xs ⟨#[43]⟩ w (fun j x hj => by
      have hj2 := (List.getElem?_eq_some_iff.1 hj).1
      rw [hca j hj2, List.getD, hj]; rfl) hg (by omega) hc (by show (Lib.join (xs.map (·.data.toList)) [43]).length ≤ _; omega)
    change Calls Try.prog 44 _ _ _ at this
    refine this.mono fun e w' ⟨he, hw⟩ => ?_
    subst he
    exact hR.out _ hw
end Go.Proofs.Ytlijjbcamkhhaaa.Lab

/- The code of layer 12: Text. -/
set_option maxRecDepth 100000
set_option linter.unusedVariables false
namespace Go.Proofs.Ytlijjbcamkhhaaa.Lab
open Go.RowKit Go.Lib Go.Proofs.Ytlijjbcamkhhaaa.Utf Go.Proofs.Ytlijjbcamkhhaaa.Rel Go.Proofs.Ytlijjbcamkhhaaa.Nam Go.Proofs.Ytlijjbcamkhhaaa.Lat

theorem txt_le {nm : List ByteArray} {l : List Nat} (h : ∀ s ∈ nm, s.size ≤ 32) (hl : l.length ≤ 32) : (txtS nm l).size ≤ 1000000 := by
  have := txt_size h (l := l) l.length
  unfold txtS
  omega
set_option maxRecDepth 100000 in
set_option maxHeartbeats 1000000 in
theorem labtext_calls (nm : List ByteArray) (F : Nat → Nat → Bool) (v : Value) (w : World) (h : LatP w v nm F) (hnm : ∀ s ∈ nm, s.size ≤ 32) (xs : List Int) (vx : Value) (hx : RdZ w vx xs) (hgx : ∀ x ∈ xs, Bd x) (hxl : xs.length ≤ 1000) (R : Ending → World → Prop)
    (hR : Hid (∀ w', Below w.heap.size w w' → R (.returned (.string (txtS nm (higS nm.length F (lvS nm.length xs))))) w')) : Calls Try.prog 19 #[v, vx] w R := by
  have h32 := h.latt.2
  have cH := Lib.hid fun R hR => labhighest_calls nm F v w h xs vx hx hgx hxl R hR
  have cN := Lib.hid fun (W : World) (hb : Below w.heap.size w W) (a : Nat) (ha : a < nm.length) (R : Ending → World → Prop) (hR : Hid (R (.returned (.string (nm.getD a ByteArray.empty))) W)) => show Calls Try.prog 25 #[v, .int .i64 a] W R by
    obtain ⟨p, rfl, hv, -⟩ := h.below hb
    exact latnamex_calls nm p W hv a R (by rw [if_pos ⟨by omega, by omega⟩, Int.toNat_natCast]; exact hR)
  have hhl := higS_lt (n := nm.length) (F := F) (l := lvS nm.length xs)
  have hln := higS_len (n := nm.length) (F := F) (lvS nm.length xs)
  have hz := txt_le (nm := nm) (l := higS nm.length F (lvS nm.length xs)) hnm (by omega)
  rw [txt_plus] at hR hz
  have cS := Lib.hid fun (W : World) (vs : Value) (hs : RdS W vs (nmL nm (higS nm.length F (lvS nm.length xs)))) R hR => join_calls _ vs W hs (by rw [nmL_len]; omega) hz R hR
  obtain ⟨p, rfl⟩ := h.ptr
  obtain ⟨A, c, rfl, -, -⟩ := hx.op
  obtain ⟨j0, hJ, yz0, yz1, yz2⟩ := info_parts infoStr
  clear h hx hgx
  generalize higS nm.length F (lvS nm.length xs) = hs at *
  generalize hp : plusS (nmL nm hs) = P at *
  replace hhl := Lib.hid hhl
  clear hz
  go_enter Try.func19, Try.ntmps19
  go_wp2_with fail
  refine cH.out _ (Lib.hid fun v1 L1 w1 own1 n1 => ?_)
  obtain ⟨A1, c1, rfl, -, hr1⟩ := ivR_at (RdAt.of_own own1)
  have hsz1 := n1.size
  replace n1 := Lib.hid n1
  replace hr1 := Lib.hid hr1
  clear own1 cH
  go_wp2_with fail
  go_loopg [5, 12] hs.length (fun g s i wr => ∃ (K : Nat) (vo : Value), vo = s ∧ i = .int .i64 K ∧ K + g = hs.length ∧ Hid (Below w1.heap.size w1 wr) ∧ Hid (wr.ownsRow w1.heap.size 9 1 vo K (sv (nmL nm (hs.take K)))))
  case atStart => exact ⟨0, _, rfl, rfl, by omega, Lib.hid (Below.refl _ _), Lib.hid (World.ownsRow_nil _ _ _ _)⟩
  case round =>
    obtain ⟨K, vo, rfl, rfl, c1, nb, own⟩ := hrel
    have hsz := nb.out.size
    by_cases hK : K < hs.length
    · obtain ⟨g, o, rfl, hg, hca⟩ := hr1.out (by omega)
      have e0 := (nb.out.cell (p := ⟨g, o + K, none⟩) hg).trans (hca K hK)
      have ha := hhl.out _ (getD_mem hK)
      have hn2 := n1.out.trans (nb.out.mono hsz1)
      have cN2 := cN.out wr hn2 (hs.getD K 0) ha
      have htk : nmL nm (hs.take (K + 1)) = nmL nm (hs.take K) ++ [nm.getD (hs.getD K 0) ByteArray.empty] := by
        rw [List.take_succ_eq_append_getElem hK, nmL_snoc, show hs.getD K 0 = hs[K] by simp [List.getD, List.getElem?_eq_getElem hK]]
      have i0 : (0 : Int) ≤ (K : Int) := by omega
      have i1 : (K : Int) < (hs.length : Int) := by omega
      have ow2 := own.out
      clear hca hn2 own
      generalize hs.getD K 0 = a at *
      generalize nm.getD a ByteArray.empty = x at *
      replace cN2 := Lib.hid cN2
      replace htk := Lib.hid htk
      clear cN
      go_wp2_with fail
      refine cN2.out _ (Lib.hid ?_)
      clear e0
      go_wp2_with (at_builtin; refine app1 wr (.string x) 9 rfl _ _ 63 rfl w1.heap.size j0 (.string ByteArray.empty) 16 Try.underlying63 hJ yz0 yz1 yz2 rfl vo _ _ rfl ow2 rfl rfl (by unfold maxLen; omega) (by omega) hsz ?_; intro v' w3 hown3 hg3 hb3)
      have n3 := Lib.hid (nb.out.trans (hb3.mono (Nat.le_refl _)))
      go_roundg (gk - 1)
      case measure => omega
      case rel => exact ⟨K + 1, v', rfl, by go_num, by omega, n3, Lib.hid (by rw [htk.out, show sv (nmL nm (hs.take K) ++ [x]) = sv (nmL nm (hs.take K)) ++ [.string x] by simp [sv]]; exact hown3)⟩
    · obtain rfl : K = hs.length := by omega
      have rd := RdAt.of_own own.out
      rw [List.take_length] at rd
      have cS2 := cS.out wr vo rd
      obtain ⟨A2, c2, rfl, -, -⟩ := RdS.open rd
      have n2 := n1.out.trans (nb.out.mono hsz1)
      replace cS2 := Lib.hid cS2
      have fin := Lib.hid fun w' (hb : Below wr.heap.size wr w') => hR.out w' (n2.trans (hb.mono n2.size))
      clear own rd n2 nb cS cN
      go_wp2_with fail
      refine cS2.out _ (Lib.hid fun w4 n4 => ?_)
      replace n4 := Lib.hid n4
      go_wp2_with fail
      exact fin.out _ n4.out
end Go.Proofs.Ytlijjbcamkhhaaa.Lab

/- The code of layer 12: take. -/
set_option maxRecDepth 100000
set_option linter.unusedVariables false
namespace Go.Proofs.Ytlijjbcamkhhaaa.Lab
open Go.RowKit Go.Lib Go.Proofs.Ytlijjbcamkhhaaa.Utf Go.Proofs.Ytlijjbcamkhhaaa.Rel Go.Proofs.Ytlijjbcamkhhaaa.Nam Go.Proofs.Ytlijjbcamkhhaaa.Lat Go.Proofs.Ytlijjbcamkhhaaa.Pat

theorem taks_any (s : ByteArray) (k : Nat) : (takS s k).1 = s.extract k (k + sigS s k) ∧ (sigS s k ≠ 0 → (takS s k).2 = ((k + sigS s k : Nat) : Int)) := by
  by_cases h : k < s.size
  · rw [takS_nat h]; exact ⟨rfl, fun _ => rfl⟩
  · unfold takS
    rw [if_neg (by omega), sig_zero (by omega)]
    refine ⟨?_, fun h => absurd rfl h⟩
    rw [Nat.add_zero]
    exact (size0 (by rw [ByteArray.size_extract]; omega)).symm
theorem right_cut_not {s : ByteArray} {k : Nat} (h : sigS s k < 1 ∨ 32 < sigS s k) (hk : k ≤ s.size) : rightS (s.extract k (k + sigS s k)) = false := by
  cases hb : rightS (s.extract k (k + sigS s k))
  · rfl
  · have h1 := rightS_pos hb
    have h2 := sig_le (s := s) (j := k) hk
    rw [ByteArray.size_extract] at h1
    omega
/-- What take hands back. -/
def takeV (nm : List ByteArray) (s : ByteArray) (i : Nat) : Int × Int × Int × Int :=
  if sigS s i < 1 ∨ 32 < sigS s i then (0, 0, 9, i) else
  if findS nm (s.extract i (i + sigS s i)) < 0 then (0, 0, 17, i) else (findS nm (s.extract i (i + sigS s i)), (i + sigS s i : Nat), 0, 0)
set_option maxRecDepth 100000 in
set_option maxHeartbeats 1000000 in
theorem labtake_calls (nm : List ByteArray) (F : Nat → Nat → Bool) (v : Value) (w : World) (h : LatP w v nm F) (s : ByteArray) (hs : s.size ≤ 1000000) (k : Nat) (hk : k ≤ s.size) (R : Ending → World → Prop)
    (hR : Hid (∀ w', Below w.heap.size w w' → R (.returned (.tuple #[.int .i64 (takeV nm s k).1, .int .i64 (takeV nm s k).2.1, .agg #[.int .i64 (takeV nm s k).2.2.1, .int .i64 (takeV nm s k).2.2.2]])) w')) : Calls Try.prog 45 #[v, .string s, .int .i64 k] w R := by
  have cT := fun (W : World) R hR => take_calls s (k : Int) (by unfold maxLen; omega) W R hR
  obtain ⟨t1, t2⟩ := taks_any s k
  have cR := fun (W : World) R hR => right_calls (takS s k).1 (by rw [t1, ByteArray.size_extract]; unfold maxLen; omega) W R hR
  have cF := fun (W : World) (hb : Below w.heap.size w W) R hR => latfind_calls nm F v W (h.below hb) R (takS s k).1 (by rw [t1, ByteArray.size_extract]; unfold maxLen; omega) hR
  have T := Flt.new w
  unfold takeV at hR
  have hg : (w.alloc (.cells #[.int .i64 0, .int .i64 0] 31)).heap.size = w.heap.size + 1 := by simp
  obtain ⟨p, rfl⟩ := h.ptr
  clear h
  by_cases q : sigS s k < 1 ∨ 32 < sigS s k
  · rw [if_pos q] at hR
    simp only at hR
    have hb := right_cut_not q hk
    rw [← t1] at hb
    rw [hb] at cR
    clear t1 t2 hb q cF
    generalize takS s k = U at *
    obtain ⟨x, e⟩ := U
    simp only at cT cR
    replace cT := Lib.hid cT
    replace cR := Lib.hid cR
    go_enter Try.func45, Try.ntmps45
    go_upto_region 1 with fail
    generalize w.alloc (.cells #[.int .i64 0, .int .i64 0] 31) = W0 at *
    generalize hHH : w.heap.size = H at *
    replace hHH := Lib.hid hHH
    obtain ⟨nf, s0, s1⟩ := T.told (.int .i64 9) (.int .i64 k)
    have c0 := T.c0
    have c1 := T.c1
    have f0 := T.f0
    have f1 := T.f1
    replace nf := Lib.hid nf
    replace s0 := Lib.hid s0
    replace s1 := Lib.hid s1
    clear T
    go_wp2_with fail
    refine cT.out _ _ (Lib.hid ?_)
    go_wp2_with fail
    refine cR.out _ _ (Lib.hid ?_)
    go_wp2_with fail
    replace s0 := s0.out
    replace s1 := s1.out
    clear c0 c1 f0 f1
    generalize (W0.setCell ⟨H, 0, none⟩ _).setCell ⟨H, 1, none⟩ _ = Wz at *
    refine bodyPost_ret ?_ rfl (hR.out _ nf.out)
    simp [results, Try.results45, go_sem, s0, s1]
  · rw [if_neg q] at hR
    have h1 : 0 < sigS s k := by omega
    obtain ⟨hb, -⟩ := right_cut h1 (by omega)
    rw [← t1] at hb hR
    have t3 := t2 (by omega)
    rw [← t3] at hR
    rw [hb] at cR
    clear t1 t2 hb q t3 h1
    generalize takS s k = U at *
    obtain ⟨x, e⟩ := U
    simp only at cT cR cF hR
    replace cT := Lib.hid cT
    replace cR := Lib.hid cR
    by_cases q2 : findS nm x < 0
    · rw [if_pos q2] at hR cF
      rw [decide_eq_false (by omega)] at cF
      simp only at hR
      replace cF := Lib.hid cF
      go_enter Try.func45, Try.ntmps45
      go_upto_region 1 with fail
      generalize w.alloc (.cells #[.int .i64 0, .int .i64 0] 31) = W0 at *
      replace T := Lib.hid T
      go_wp2_with fail
      refine cT.out _ _ (Lib.hid ?_)
      go_wp2_with fail
      refine cR.out _ _ (Lib.hid ?_)
      go_wp2_with fail
      refine cF.out W0 T.out.nb _ (Lib.hid fun W3 n3 => ?_)
      have T3 := T.out.below n3
      clear T n3 cF hg
      generalize hHH : w.heap.size = H at *
      replace hHH := Lib.hid hHH
      obtain ⟨nf, s0, s1⟩ := T3.told (.int .i64 17) (.int .i64 k)
      have c0 := T3.c0
      have c1 := T3.c1
      have f0 := T3.f0
      have f1 := T3.f1
      replace nf := Lib.hid nf
      replace s0 := Lib.hid s0
      replace s1 := Lib.hid s1
      clear T3
      go_wp2_with fail
      replace s0 := s0.out
      replace s1 := s1.out
      clear c0 c1 f0 f1
      generalize (W3.setCell ⟨H, 0, none⟩ _).setCell ⟨H, 1, none⟩ _ = Wz at *
      refine bodyPost_ret ?_ rfl (hR.out _ nf.out)
      simp [results, Try.results45, go_sem, s0, s1]
    · rw [if_neg q2] at hR cF
      rw [decide_eq_true (by omega)] at cF
      simp only at hR
      replace cF := Lib.hid cF
      generalize findS nm x = fx at *
      go_enter Try.func45, Try.ntmps45
      go_upto_region 1 with fail
      generalize w.alloc (.cells #[.int .i64 0, .int .i64 0] 31) = W0 at *
      replace T := Lib.hid T
      go_wp2_with fail
      refine cT.out _ _ (Lib.hid ?_)
      go_wp2_with fail
      refine cR.out _ _ (Lib.hid ?_)
      go_wp2_with fail
      refine cF.out W0 T.out.nb _ (Lib.hid fun W3 n3 => ?_)
      have T3 := T.out.below n3
      clear T n3 cF hg
      generalize hHH : w.heap.size = H at *
      replace hHH := Lib.hid hHH
      obtain ⟨nf, s0, s1⟩ := T3.told (.int .i64 0) (.int .i64 0)
      have c0 := T3.c0
      have c1 := T3.c1
      have f0 := T3.f0
      have f1 := T3.f1
      replace nf := Lib.hid nf
      replace s0 := Lib.hid s0
      replace s1 := Lib.hid s1
      clear T3
      go_wp2_with fail
      replace s0 := s0.out
      replace s1 := s1.out
      clear c0 c1 f0 f1
      generalize (W3.setCell ⟨H, 0, none⟩ _).setCell ⟨H, 1, none⟩ _ = Wz at *
      refine bodyPost_ret ?_ rfl (hR.out _ nf.out)
      simp [results, Try.results45, go_sem, s0, s1]
end Go.Proofs.Ytlijjbcamkhhaaa.Lab

/- The code of layer 12: Parse. -/
set_option maxRecDepth 100000
set_option linter.unusedVariables false
namespace Go.Proofs.Ytlijjbcamkhhaaa.Lab
open Go.RowKit Go.Lib Go.Proofs.Ytlijjbcamkhhaaa.Utf Go.Proofs.Ytlijjbcamkhhaaa.Rel Go.Proofs.Ytlijjbcamkhhaaa.Nam Go.Proofs.Ytlijjbcamkhhaaa.Lat Go.Proofs.Ytlijjbcamkhhaaa.Pat

theorem box_flt2 (w : World) (a b : Value) (t : TypeId) : (w.alloc (.cells #[a, b] t)).cell? ⟨w.heap.size, 0, none⟩ = some a ∧ (w.alloc (.cells #[a, b] t)).cell? ⟨w.heap.size, 1, none⟩ = some b := by
  have q1 := heap_alloc_new w (.cells #[a, b] t)
  exact ⟨by rw [Lib.cell_of_heap q1]; rfl, by rw [Lib.cell_of_heap q1]; rfl⟩
theorem drew_alloc (w : World) (o : Obj) : w.drew.alloc o = (w.alloc o).drew := rfl
set_option maxRecDepth 100000 in
set_option maxHeartbeats 4000000 in
theorem labparse_calls (nm : List ByteArray) (F : Nat → Nat → Bool) (v : Value) (w : World) (h : LatP w v nm F) (s : ByteArray) (hs : s.size ≤ 1000000) (R : Ending → World → Prop)
    (hR : Hid (∀ l v' w', parS nm s = (some l, 0, 0) → RdAt w' v' 1 (ivR (higS nm.length F l)) → Below w.heap.size w w' → R (.returned (.tuple #[v', .agg #[.int .i64 0, .int .i64 0]])) w'))
    (hR2 : Hid (∀ e z A c w', parS nm s = (none, e, z) → Below w.heap.size w w' → R (.returned (.tuple #[.slice A 0 c, .agg #[.int .i64 e, .int .i64 z]])) w')) : Calls Try.prog 21 #[v, .string s] w R := by
  have h32 := h.latt.2
  have cA0 := Lib.hid fun (W : World) (hb : Below w.heap.size w W) k hk R hR => labtake_calls nm F v W (h.below hb) s hs k hk R hR
  have cM := Lib.hid fun (W : World) (hb : Below w.heap.size w W) l hl C hC R hR => labmaximal_calls nm F v W (h.below hb) l hl C hC R hR
  obtain ⟨p, rfl⟩ := h.ptr
  obtain ⟨Z, hZ, hZs⟩ := zvSet
  have T := Flt.new w
  have z0 : (w.alloc (.cells #[.int .i64 0, .int .i64 0] 31)).heap.size = w.heap.size + 1 := by simp
  have hfl := Lib.hid (find_lt nm)
  obtain ⟨V, hV⟩ : ∃ V, V = parS nm s := ⟨_, rfl⟩
  rw [← hV] at hR hR2
  have hV0 : Hid (parF nm s (s.size + 1) 0 [] = V) := Lib.hid hV.symm
  clear h hV
  go_enter Try.func21, Try.ntmps21
  go_upto_region 1 with fail
  generalize w.alloc (.cells #[.int .i64 0, .int .i64 0] 31) = W0 at *
  have B0 := Blk.new W0 hZs
  have T0 := T.below1 ((Below.refl (w.heap.size + 1) W0).alloc (by omega) (.cells Z 90))
  rw [z0] at B0
  replace T0 := Lib.hid T0
  replace B0 := Lib.hid B0
  replace hZs := Lib.hid hZs
  clear T
  go_wp2_with fail
  replace z0 := Lib.hid z0
  go_loopg [7] (s.size + 1) (fun g i wr => ∃ (I fu : Nat) (l : List Nat), i = .int .i64 I ∧ I + g = s.size + 1 ∧ I ≤ s.size ∧ g ≤ fu ∧ Hid (Flt w w.heap.size wr) ∧ Hid (Blk wr (w.heap.size + 1) l) ∧ Hid (∀ a ∈ l, a < nm.length) ∧ Hid (parF nm s fu I l = V))
  case atStart => exact ⟨0, s.size + 1, [], rfl, by omega, by omega, by omega, T0, B0, Lib.hid (by simp), hV0⟩
  case round =>
    clear T0 B0 hV0 z0
    obtain ⟨I, fu, l, rfl, c1, c2, c3, T, Bk, hl, hp⟩ := hrel
    obtain ⟨fu, rfl⟩ : ∃ k, fu = k + 1 := ⟨fu - 1, by omega⟩
    have hlt : w.heap.size + 1 ≤ wr.heap.size := T.out.lt
    have cA := cA0.out wr T.out.nb I c2
    unfold takeV at cA
    have h1 := hp.out
    rw [parF] at h1
    have hm0 := sig_le (s := s) (j := I) c2
    have hfl2 := hfl.out (s.extract I (I + sigS s I))
    clear hp
    generalize sigS s I = m at *
    generalize findS nm (s.extract I (I + m)) = k at *
    by_cases q1 : m < 1 ∨ 32 < m
    · rw [if_pos q1] at h1
      simp only [if_pos q1] at cA
      replace cA := Lib.hid cA
      have fin := Lib.hid fun w' hb => hR2.out 9 I none 0 w' h1.symm hb
      clear h1 Bk hl q1 cM cA0
      go_wp2_with fail
      refine cA.out _ (Lib.hid fun w3 n3 => ?_)
      have T3 := T.out.below n3
      have bA := (Below.refl w3.heap.size w3).alloc (Nat.le_refl _) (.cells #[.int .i64 9, .int .i64 I] 31)
      have T4 := T3.below bA
      obtain ⟨k0, k1⟩ := box_flt2 w3 (.int .i64 9) (.int .i64 I) 31
      replace T4 := Lib.hid T4
      clear T T3 n3 bA
      go_wp2_with fail
      generalize w3.alloc (.cells #[.int .i64 9, .int .i64 I] 31) = W4 at *
      go_still_tail 2, (by kernel_rfl)
      repeat still_step
      change wpList _ _ _ _ _ W4.drew
      have T3 := T4.out.below (Below.refl _ _).drew
      clear T4 k0 k1
      generalize W4.drew = W5 at *
      obtain ⟨nf, s0', s1'⟩ := T3.told (.int .i64 9) (.int .i64 I)
      have c0 := T3.c0
      have c1 := T3.c1
      have f0' := T3.f0
      have f1' := T3.f1
      replace nf := Lib.hid nf
      replace s0' := Lib.hid s0'
      replace s1' := Lib.hid s1'
      clear T3
      go_wp2_with fail
      replace s0' := s0'.out
      replace s1' := s1'.out
      clear c0 c1 f0' f1'
      generalize (W5.setCell ⟨w.heap.size, 0, none⟩ _).setCell ⟨w.heap.size, 1, none⟩ _ = Wz at *
      refine bodyPost_ret ?_ rfl (fin.out _ nf.out)
      simp [results, Try.results21, go_sem, s0', s1']
    · rw [if_neg q1] at h1
      simp only [if_neg q1] at cA
      have q2 : 1 ≤ m := by omega
      have q3 : m ≤ 32 := by omega
      by_cases q4 : k < 0
      · rw [if_pos q4] at h1
        simp only [if_pos q4] at cA
        replace cA := Lib.hid cA
        have fin := Lib.hid fun w' hb => hR2.out 17 I none 0 w' h1.symm hb
        clear h1 Bk hl q1 cM cA0
        go_wp2_with fail
        refine cA.out _ (Lib.hid fun w3 n3 => ?_)
        have T3 := T.out.below n3
        have bA := (Below.refl w3.heap.size w3).alloc (Nat.le_refl _) (.cells #[.int .i64 17, .int .i64 I] 31)
        have T4 := T3.below bA
        obtain ⟨k0, k1⟩ := box_flt2 w3 (.int .i64 17) (.int .i64 I) 31
        replace T4 := Lib.hid T4
        clear T T3 n3 bA
        go_wp2_with fail
        generalize w3.alloc (.cells #[.int .i64 17, .int .i64 I] 31) = W4 at *
        go_still_tail 2, (by kernel_rfl)
        repeat still_step
        change wpList _ _ _ _ _ W4.drew
        have T3 := T4.out.below (Below.refl _ _).drew
        clear T4 k0 k1
        generalize W4.drew = W5 at *
        obtain ⟨nf, s0', s1'⟩ := T3.told (.int .i64 17) (.int .i64 I)
        have c0 := T3.c0
        have c1 := T3.c1
        have f0' := T3.f0
        have f1' := T3.f1
        replace nf := Lib.hid nf
        replace s0' := Lib.hid s0'
        replace s1' := Lib.hid s1'
        clear T3
        go_wp2_with fail
        replace s0' := s0'.out
        replace s1' := s1'.out
        clear c0 c1 f0' f1'
        generalize (W5.setCell ⟨w.heap.size, 0, none⟩ _).setCell ⟨w.heap.size, 1, none⟩ _ = Wz at *
        refine bodyPost_ret ?_ rfl (fin.out _ nf.out)
        simp [results, Try.results21, go_sem, s0', s1']
      · rw [if_neg q4] at h1
        simp only [if_neg q4] at cA
        obtain ⟨a, rfl⟩ : ∃ a : Nat, k = a := ⟨k.toNat, by omega⟩
        rw [Int.toNat_natCast] at h1
        obtain ⟨E, hE⟩ : ∃ E, I + m = E := ⟨_, rfl⟩
        rw [hE] at h1 cA hm0
        have ha32 : a < 32 := by omega
        have hl2 : ∀ x ∈ l ++ [a], x < nm.length := fun x hx => by
          rcases List.mem_append.1 hx with hx | hx
          · exact hl.out x hx
          · rw [List.mem_singleton.1 hx]; omega
        replace hl2 := Lib.hid hl2
        replace h1 := Lib.hid h1
        replace cA := Lib.hid cA
        have i0 : (0 : Int) ≤ (a : Int) := by omega
        have i1 : (a : Int) < 32 := by omega
        clear q1 hl cA0 q4 hfl2
        go_wp2_with fail
        refine cA.out _ (Lib.hid fun w3 n3 => ?_)
        have T3 := T.out.below n3
        have B3 := Bk.out.below n3
        have bA := (Below.refl w3.heap.size w3).alloc (Nat.le_refl _) (.cells #[.int .i64 0, .int .i64 0] 31)
        have T4 := T3.below bA
        have B4 := B3.below bA
        obtain ⟨k0, k1⟩ := box_flt2 w3 (.int .i64 0) (.int .i64 0) 31
        have r1 := B4.cell ha32
        have r2 := B4.fz a
        have B5 := Lib.hid (B4.put a ha32)
        have T5 := Lib.hid (T4.below1 ((Below.refl (w.heap.size + 1) _).setCell (p := ⟨w.heap.size + 1, a, none⟩) (Nat.le_refl _) (.bool true)))
        clear T n3 T3 B3 bA T4 B4 Bk
        replace h1 := h1.out
        by_cases q5 : E = s.size
        · rw [if_pos q5] at h1
          replace h1 := Lib.hid h1
          have q6 : ((E : Int) == (s.size : Int)) = true := by simp; omega
          obtain ⟨C, hC, hC4, hC5⟩ := B5.out.whole
          replace hC5 := Lib.hid hC5
          replace hC := Lib.hid hC
          go_wp2_with (refine wpList_load_row rfl 90 _ rfl (w.heap.size + 1) rfl 90 C (0, 0) _ hC4 Try.underlying90 rfl hC5.out ?_)
          refine cM.out _ T5.out.nb (l ++ [a]) hl2.out C hC.out _ (Lib.hid fun v4 L4 w4 o4 n4 => ?_)
          have T3 := T5.out.below n4
          have hB := T5.out.lt
          have rd := RdAt.of_own (ownsRow_setCell_below (ownsRow_setCell_below o4 (a := ⟨w.heap.size, 0, none⟩) hB (.int .i64 0)) (a := ⟨w.heap.size, 1, none⟩) hB (.int .i64 0))
          have fin := Lib.hid fun hb => hR.out _ _ _ h1.out.symm rd hb
          clear rd o4 n4 T5 B5 h1 hC4 k0 k1 r1 r2
          obtain ⟨nf, s0', s1'⟩ := T3.told (.int .i64 0) (.int .i64 0)
          have c0 := T3.c0
          have c1 := T3.c1
          have f0' := T3.f0
          have f1' := T3.f1
          replace nf := Lib.hid nf
          replace s0' := Lib.hid s0'
          replace s1' := Lib.hid s1'
          clear T3 hB
          go_wp2_with fail
          replace s0' := s0'.out
          replace s1' := s1'.out
          clear c0 c1 f0' f1'
          generalize (w4.setCell ⟨w.heap.size, 0, none⟩ _).setCell ⟨w.heap.size, 1, none⟩ _ = Wz at *
          refine bodyPost_ret ?_ rfl (fin.out nf.out)
          simp [results, Try.results21, go_sem, s0', s1']
        · rw [if_neg q5] at h1
          have q6 : ((E : Int) == (s.size : Int)) = false := by simp; omega
          have hj : E < s.size := by omega
          have hg := byN_get s E hj
          have hbl := byN_lt s E
          generalize byN s E = c at *
          by_cases q7 : c = 43
          · rw [if_neg (by simp [q7])] at h1
            have q8 : ((c : Int) != 43) = false := by simp; omega
            replace h1 := Lib.hid h1
            clear q7
            go_wp2_with fail
            go_roundg (gk - (m + 1))
            case measure => omega
            case rel => exact ⟨E + 1, fu, l ++ [a], by go_num, by omega, by omega, by omega, T5, B5, hl2, h1⟩
          · rw [if_pos (by simp [q7])] at h1
            have q8 : ((c : Int) != 43) = true := by simp; omega
            have fin := Lib.hid fun w' hb => hR2.out 4 (E : Int) none 0 w' h1.symm hb
            clear q7 h1
            have T3 := T5.out
            clear T5 B5
            generalize hW6 : (w3.alloc (.cells #[.int .i64 0, .int .i64 0] 31)).setCell ⟨w.heap.size + 1, a, none⟩ (.bool true) = W6 at *
            obtain ⟨nf, s0', s1'⟩ := T3.told (.int .i64 4) (.int .i64 E)
            have c0 := T3.c0
            have c1 := T3.c1
            have f0' := T3.f0
            have f1' := T3.f1
            rw [← hW6] at c0 c1 f0' f1' nf s0' s1'
            replace nf := Lib.hid nf
            replace s0' := Lib.hid s0'
            replace s1' := Lib.hid s1'
            clear T3 hW6
            go_wp2_with fail
            replace s0' := s0'.out
            replace s1' := s1'.out
            clear c0 c1 f0' f1'
            generalize (((w3.alloc _).setCell ⟨w.heap.size + 1, a, none⟩ _).setCell ⟨w.heap.size, 0, none⟩ _).setCell ⟨w.heap.size, 1, none⟩ _ = Wz at *
            refine bodyPost_ret ?_ rfl (fin.out _ nf.out)
            simp [results, Try.results21, go_sem, s0', s1']
theorem labparseN_calls (w : World) (s : ByteArray) (hs : s.size ≤ 1000000) (R : Ending → World → Prop)
    (hR : Hid (∀ A c w', Below w.heap.size w w' → R (.returned (.tuple #[.slice A 0 c, .agg #[.int .i64 1, .int .i64 0]])) w')) : Calls Try.prog 21 #[.pointer none, .string s] w R := by
  have T := Flt.new w
  go_enter Try.func21, Try.ntmps21
  go_upto_region 1 with fail
  generalize w.alloc (.cells #[.int .i64 0, .int .i64 0] 31) = W0 at *
  generalize hHH : w.heap.size = H at *
  replace hHH := Lib.hid hHH
  obtain ⟨nf, s0', s1'⟩ := T.told (.int .i64 1) (.int .i64 0)
  have c0 := T.c0
  have c1 := T.c1
  have f0' := T.f0
  have f1' := T.f1
  replace nf := Lib.hid nf
  replace s0' := Lib.hid s0'
  replace s1' := Lib.hid s1'
  clear T
  go_wp2_with fail
  replace s0' := s0'.out
  replace s1' := s1'.out
  clear c0 c1 f0' f1'
  generalize (W0.setCell ⟨H, 0, none⟩ _).setCell ⟨H, 1, none⟩ _ = Wz at *
  refine bodyPost_ret ?_ rfl (hR.out none 0 _ nf.out)
  simp [results, Try.results21, go_sem, s0', s1']
end Go.Proofs.Ytlijjbcamkhhaaa.Lab

/- What the code's functions of layer 12 are owed, all told: Of, Sees (LabO), Highest (LabM), Text (LabP), Parse (LabQ), Under (LabL). -/
set_option maxRecDepth 100000
set_option linter.unusedVariables false
namespace Go.Proofs.Ytlijjbcamkhhaaa.Lab
end Go.Proofs.Ytlijjbcamkhhaaa.Lab
