import Derived.Test.YtbnmkbpjdelokaaGreatQ6
import Derived.Test.YtbnmkbpjdelokaaGreatQ2
import Derived.ChangeArms
import Derived.Deep.DeepCutAuto
import Derived.Deep.AppendLies
import Derived.Deep.RegionLaw
import Derived.Test.YtbnmkbpjdelokaaGreatQ3
import Derived.Test.YtbnmkbpjdelokaaGreatQ5
import Derived.Laws.BitsAllLaws
import Derived.Laws.Shifts
set_option linter.unusedVariables false
set_option maxRecDepth 100000
set_option maxHeartbeats 4000000
namespace Go.Proofs.YtbnmkbpjdelokaaGreat.Lat
open Go.RowKit Go.Lib Rel Nam Go.ChangeShapes Go.WideShapes
def encR (x : Pr) : List Value := [.string x.1.1, .int .i64 x.1.2, .string x.2.1, .int .i64 x.2.2]
theorem encR_len (x : Pr) : (encR x).length = 4 := rfl
abbrev RdPr := RdG encR 4
def GoodR (x : Pr) : Prop := GoodW x.1 ∧ GoodW x.2
instance (x : Pr) : Decidable (GoodR x) := by unfold GoodR; infer_instance
theorem RdPr.op {w : World} {v : Value} {xs : List Pr} (h : RdPr w v xs) : ∃ (A : Option Addr) (c : Nat), v = .slice A xs.length c ∧ xs.length ≤ c ∧
    (0 < xs.length → ∃ g o, A = some ⟨g, o, none⟩ ∧ g < w.heap.size ∧ ∀ i, i < xs.length → w.cell? ⟨g, o + i * 4, none⟩ = some (.string (pN xs i).1.1) ∧ w.cell? ⟨g, o + i * 4 + 1, none⟩ = some (.int .i64 (pN xs i).1.2) ∧
      w.cell? ⟨g, o + i * 4 + 2, none⟩ = some (.string (pN xs i).2.1) ∧ w.cell? ⟨g, o + i * 4 + 3, none⟩ = some (.int .i64 (pN xs i).2.2)) := by
  obtain ⟨A, c, rfl, hc, hr⟩ := RdG.open encR_len (by decide) h
  refine ⟨A, c, rfl, hc, fun h0 => ?_⟩
  obtain ⟨g, o, rfl, hg, hca⟩ := hr h0
  refine ⟨g, o, rfl, hg, fun i hi => ?_⟩
  rw [pN_get hi]
  exact ⟨hca i hi 0 (by decide), hca i hi 1 (by decide), hca i hi 2 (by decide), hca i hi 3 (by decide)⟩
def preB (F : Nat → Nat → Bool) (a b c L : Nat) : Bool := F a c && F b c && (List.range L).all fun d => !(F a d && F b d) || F c d
end Go.Proofs.YtbnmkbpjdelokaaGreat.Lat
namespace Go.Proofs.YtbnmkbpjdelokaaGreat.Lat
open Go.RowKit Go.Lib Rel Nam
def turnR (n : Nat) (f : Nat → List Bool) (a : Nat) : List Bool := (List.range n).map fun b => on (f b) a
def TurnW (n : Nat) (f : Nat → List Bool) (K J : Nat) (r : List Bool) : Prop := ∀ b, b < n → on r b = (decide (b < J) && on (f b) K)
theorem infoTwo : (Tryz.prog.info? 174).map (fun i => (i.zero, i.size, i.bytes)) = some (some (.agg #[.int .i64 0, .int .i64 0]), 2, 16) := by kernel_rfl
theorem idx_take {ws : List Wr} {ps : List Pr} {K : Nat} (hK : K < ps.length) : idxQ ws (ps.take (K + 1)) = idxQ ws (ps.take K) ++ [(findS (nms ws) (pN ps K).1.1, findS (nms ws) (pN ps K).2.1)] := by
  unfold idxQ
  rw [List.take_succ_eq_append_getElem hK, List.map_append, pN_get hK]
  rfl
theorem idx_len (ws : List Wr) (ps : List Pr) : (idxQ ws ps).length = ps.length := by simp [idxQ]
theorem loop_or {n : Nat} {f : Nat → Nat → Bool} : loopS n f = -1 ∨ ∃ m : Nat, m < n ∧ loopS n f = m := by
  rcases least_cases n (inLoop n f) with ⟨h, -⟩ | ⟨m, h, -, -, h2⟩
  · exact .inl h
  · exact .inr ⟨m, h, h2⟩
section
variable {ws : List Wr} {ps : List Pr}
theorem w_none (h : ws.length = 0) : wrongS ws ps = (15, 0) := by unfold wrongS; rw [if_pos h]
theorem w_many (h : 32 < ws.length) : wrongS ws ps = (8, (wN ws 32).2) := by unfold wrongS; rw [if_neg (by omega), if_pos h]
theorem w_pairs (h0 : 0 < ws.length) (h1 : ws.length ≤ 32) (h : 256 < ps.length) : wrongS ws ps = (8, (pN ps 256).1.2) := by unfold wrongS; rw [if_neg (by omega), if_neg (by omega), if_pos h]
theorem w_lv (h0 : 0 < ws.length) (h1 : ws.length ≤ 32) (h2 : ps.length ≤ 256) {f : Int × Int} (h : firF (lvAt ws) ws.length 0 = some f) : wrongS ws ps = f := by
  unfold wrongS; rw [if_neg (by omega), if_neg (by omega), if_neg (by omega), h]
theorem w_pr (h0 : 0 < ws.length) (h1 : ws.length ≤ 32) (h2 : ps.length ≤ 256) (h3 : firF (lvAt ws) ws.length 0 = none) {f : Int × Int} (h : firF (prAt ws ps) ps.length 0 = some f) : wrongS ws ps = f := by
  unfold wrongS; rw [if_neg (by omega), if_neg (by omega), if_neg (by omega), h3]; simp only [h]
theorem w_loop (h0 : 0 < ws.length) (h1 : ws.length ≤ 32) (h2 : ps.length ≤ 256) (h3 : firF (lvAt ws) ws.length 0 = none) (h4 : firF (prAt ws ps) ps.length 0 = none) {m : Nat} (h : loopS ws.length (leqF ws ps) = m) : wrongS ws ps = (11, (wN ws m).2) := by
  unfold wrongS; rw [if_neg (by omega), if_neg (by omega), if_neg (by omega), h3]; simp only [h4, h]; rw [if_pos (by omega)]; simp
theorem w_bn (h0 : 0 < ws.length) (h1 : ws.length ≤ 32) (h2 : ps.length ≤ 256) (h3 : firF (lvAt ws) ws.length 0 = none) (h4 : firF (prAt ws ps) ps.length 0 = none) (h5 : loopS ws.length (leqF ws ps) = -1) {f : Int × Int} (h : firF (bnAt ws (leqF ws ps)) ws.length 0 = some f) : wrongS ws ps = f := by
  unfold wrongS; rw [if_neg (by omega), if_neg (by omega), if_neg (by omega), h3]; simp only [h4, h5]; rw [if_neg (by omega), h]
theorem w_ok (h0 : 0 < ws.length) (h1 : ws.length ≤ 32) (h2 : ps.length ≤ 256) (h3 : firF (lvAt ws) ws.length 0 = none) (h4 : firF (prAt ws ps) ps.length 0 = none) (h5 : loopS ws.length (leqF ws ps) = -1) (h : firF (bnAt ws (leqF ws ps)) ws.length 0 = none) : wrongS ws ps = (0, 0) := by
  unfold wrongS; rw [if_neg (by omega), if_neg (by omega), if_neg (by omega), h3]; simp only [h4, h5]; rw [if_neg (by omega), h]
end
theorem st_fault (H : Nat) (w1 : World) (f z : Value) {x y : Value} (r3 : w1.cell? ⟨H, 0, none⟩ = some x) (r4 : w1.cell? ⟨H, 1, none⟩ = some y) :
    ((w1.setCell ⟨H, 0, none⟩ f).setCell ⟨H, 1, none⟩ z).cell? ⟨H, 0, none⟩ = some f ∧ ((w1.setCell ⟨H, 0, none⟩ f).setCell ⟨H, 1, none⟩ z).cell? ⟨H, 1, none⟩ = some z :=
  ⟨(World.cell?_setCell_other _ _ _ _ (by simp)).trans (World.cell?_setCell_same _ _ _ r3), World.cell?_setCell_same _ _ _ ((World.cell?_setCell_other _ _ _ _ (by simp)).trans r4)⟩
theorem fault_new (w : World) : (w.alloc (.cells #[.int .i64 0, .int .i64 0] 37)).cell? ⟨w.heap.size, 0, none⟩ = some (.int .i64 0) ∧ (w.alloc (.cells #[.int .i64 0, .int .i64 0] 37)).cell? ⟨w.heap.size, 1, none⟩ = some (.int .i64 0) ∧
    (w.alloc (.cells #[.int .i64 0, .int .i64 0] 37)).frozen? ⟨w.heap.size, 0, none⟩ = false ∧ (w.alloc (.cells #[.int .i64 0, .int .i64 0] 37)).frozen? ⟨w.heap.size, 1, none⟩ = false := by
  have q1 := heap_alloc_new w (.cells #[.int .i64 0, .int .i64 0] 37)
  exact ⟨by rw [Lib.cell_of_heap q1]; rfl, by rw [Lib.cell_of_heap q1]; rfl, Lib.frozen_of_heap q1 0, Lib.frozen_of_heap q1 1⟩
end Go.Proofs.YtbnmkbpjdelokaaGreat.Lat
namespace Go.Proofs.YtbnmkbpjdelokaaGreat.Rel
def Wd (x : Nat) : Prop := x < 18446744073709551616
theorem wd_pow {x : Nat} : Wd x ↔ x < 2 ^ 64 := by unfold Wd; rw [show (2 : Nat) ^ 64 = 18446744073709551616 from by decide]
def bitN (a : Nat) : Nat := 2 ^ a
theorem bit_wd {a : Nat} (h : a < 64) : Wd (bitN a) := wd_pow.2 (Nat.pow_lt_pow_right (by decide) h)
theorem bit_pos (a : Nat) : 0 < bitN a := Nat.two_pow_pos a
theorem zero_wd : Wd 0 := by unfold Wd; omega
theorem or_wd {x y : Nat} (hx : Wd x) (hy : Wd y) : Wd (x ||| y) := wd_pow.2 (Nat.or_lt_two_pow (wd_pow.1 hx) (wd_pow.1 hy))
theorem bits_or {x y : Nat} (hx : Wd x) (hy : Wd y) : bits .or .u64 (x : Int) (y : Int) = ((x ||| y : Nat) : Int) := u64_or_nat x y hx hy
theorem bits_and {x y : Nat} (hx : Wd x) (hy : Wd y) : bits .and .u64 (x : Int) (y : Int) = ((x &&& y : Nat) : Int) := u64_and_nat x y hx hy
def less (x y : Nat) : Nat := x &&& (18446744073709551615 - y)
theorem bits_less {x y : Nat} (hx : Wd x) (hy : Wd y) : bits .andNot .u64 (x : Int) (y : Int) = ((less x y : Nat) : Int) := u64_andNot_nat x y hx hy
theorem wd_bit {x i : Nat} (hx : Wd x) (h : x.testBit i = true) : i < 64 := by
  refine Nat.lt_of_not_le fun q => ?_
  have : x < 2 ^ i := Nat.lt_of_lt_of_le (wd_pow.1 hx) (Nat.pow_le_pow_right (by decide) q)
  rw [Nat.testBit_lt_two_pow this] at h
  cases h
theorem less_bit {x y i : Nat} (hx : Wd x) (hy : Wd y) : (less x y).testBit i = (x.testBit i && !y.testBit i) := by
  unfold less
  rw [Nat.testBit_and]
  cases h : x.testBit i
  · rfl
  · have hi := wd_bit hx h
    have e : 18446744073709551615 - y = 2 ^ 64 - (y + 1) := by unfold Wd at hy; omega
    rw [e, Nat.testBit_two_pow_sub_succ (wd_pow.1 hy), decide_eq_true hi, Bool.true_and]
theorem zero_iff {x : Nat} : x = 0 ↔ ∀ i, x.testBit i = false := by
  constructor
  · rintro rfl i; exact Nat.zero_testBit i
  · intro h; exact Nat.eq_of_testBit_eq fun i => by rw [h i, Nat.zero_testBit]
theorem less_zero {x y : Nat} (hx : Wd x) (hy : Wd y) : less x y = 0 ↔ ∀ i, x.testBit i = true → y.testBit i = true := by
  rw [zero_iff]
  constructor
  · intro h i hi
    have := h i
    rw [less_bit hx hy, hi] at this
    simpa using this
  · intro h i
    rw [less_bit hx hy]
    cases e : x.testBit i
    · rfl
    · rw [h i e]; rfl
theorem bitN_bit (a i : Nat) : (bitN a).testBit i = decide (a = i) := by unfold bitN; rw [Nat.testBit_two_pow]
theorem or_bit (x a i : Nat) : (x ||| bitN a).testBit i = (x.testBit i || decide (a = i)) := by rw [Nat.testBit_or, bitN_bit]
theorem and_bit (x a : Nat) : x &&& bitN a = if x.testBit a then bitN a else 0 := by
  apply Nat.eq_of_testBit_eq
  intro i
  rw [Nat.testBit_and, bitN_bit]
  by_cases h : a = i
  · subst h
    cases hx : x.testBit a
    · simp
    · simp [bitN_bit]
  · cases hx : x.testBit a <;> simp [h, bitN_bit]
theorem or_lt {x y : Nat} (hx : Wd x) (hy : Wd y) (h : less y x ≠ 0) : x < x ||| y := by
  refine Nat.lt_of_le_of_ne Nat.left_le_or fun e => h ((less_zero hy hx).2 fun i hi => ?_)
  rw [e, Nat.testBit_or, hi, Bool.or_true]
def Rows (P : List (Nat × Nat)) (f : Nat → Nat) : Prop := ∀ a, a < 64 → Wd (f a) ∧ ∀ b, (f a).testBit b = decide ((a, b) ∈ P)
def Way (P : List (Nat × Nat)) (a x : Nat) : Prop := Wd x ∧ x.testBit a = true ∧ ∀ i, x.testBit i = true → Lead P a i
theorem Way.one {P : List (Nat × Nat)} {a : Nat} (h : a < 64) : Way P a (bitN a) := ⟨bit_wd h, by rw [bitN_bit]; simp, fun i hi => by
  rw [bitN_bit, decide_eq_true_iff] at hi
  subst hi; exact .refl _⟩
theorem Way.put {P : List (Nat × Nat)} {f : Nat → Nat} {a b x : Nat} (hf : Rows P f) (h : Way P a x) (hb : b < 64) (hx : x.testBit b = true) : Way P a (x ||| f b) := by
  obtain ⟨h1, h2, h3⟩ := h
  obtain ⟨g1, g2⟩ := hf b hb
  refine ⟨or_wd h1 g1, by rw [Nat.testBit_or, h2]; rfl, fun i hi => ?_⟩
  rw [Nat.testBit_or, Bool.or_eq_true, g2, decide_eq_true_iff] at hi
  rcases hi with hi | hi
  · exact h3 i hi
  · exact .step (h3 b hx) hi
theorem Way.fin {n : Nat} {P : List (Nat × Nat)} {f : Nat → Nat} {a x : Nat} (hP : InR n P) (hn : n ≤ 64) (hf : Rows P f) (ha : a < n) (h : Way P a x) (hc : ∀ b, b < n → x.testBit b = true → less (f b) x = 0) (i : Nat) : x.testBit i = ld n P a i := by
  obtain ⟨h1, h2, h3⟩ := h
  have key : x.testBit i = true ↔ Lead P a i := by
    refine ⟨h3 i, fun hl => ?_⟩
    induction hl with
    | refl => exact h2
    | @step b c hl hp ih =>
      have hb : b < n := (hP _ hp).1
      obtain ⟨g1, g2⟩ := hf b (by omega)
      exact (less_zero g1 h1).1 (hc b hb ih) c (by rw [g2]; exact decide_eq_true hp)
  rw [Bool.eq_iff_iff, key, ld_iff hP ha]
def dir (P : List (Nat × Nat)) (a b : Nat) : Bool := decide ((a, b) ∈ P)
def Placed (o : List Nat) (x : Nat) : Prop := Wd x ∧ ∀ i, x.testBit i = o.contains i
def Col (P : List (Nat × Nat)) (a K x : Nat) : Prop := Wd x ∧ ∀ i, x.testBit i = (decide (i < K) && (!(i == a) && dir P i a))
end Go.Proofs.YtbnmkbpjdelokaaGreat.Rel
namespace Go.Proofs.YtbnmkbpjdelokaaGreat.Rel
open Go.RowKit Go.Lib
def RelP (w : World) (v : Value) (n : Nat) (P : List (Nat × Nat)) : Prop :=
  ∃ (p : Nat) (f : Nat → Nat), v = .pointer (some ⟨p, 0, none⟩) ∧ p < w.heap.size ∧ w.cell? ⟨p, 0, none⟩ = some (.int .i64 n) ∧ (∀ a, a < 64 → w.cell? ⟨p, 1 + a, none⟩ = some (.int .u64 (f a : Nat))) ∧ Rows P f
theorem RelP.below {w w' : World} {v : Value} {n : Nat} {P : List (Nat × Nat)} (h : RelP w v n P) (hb : Below w.heap.size w w') : RelP w' v n P := by
  obtain ⟨p, f, rfl, hp, h0, h1, h2⟩ := h
  exact ⟨p, f, rfl, Nat.lt_of_lt_of_le hp hb.size, (hb.cell (p := ⟨p, 0, none⟩) hp).trans h0, fun a ha => (hb.cell (p := ⟨p, 1 + a, none⟩) hp).trans (h1 a ha), h2⟩
theorem RelP.ptr {w : World} {v : Value} {n : Nat} {P : List (Nat × Nat)} (h : RelP w v n P) : ∃ p, v = .pointer (some ⟨p, 0, none⟩) := by
  obtain ⟨p, f, rfl, -⟩ := h
  exact ⟨p, rfl⟩
theorem wrap_bit {a : Nat} (h : a < 64) : IntKind.u64.wrap (2 ^ a) = ((bitN a : Nat) : Int) := by
  have h1 := bit_wd h
  unfold Wd at h1
  rw [IntKind.wrap_u64, show ((2 : Int) ^ a) = ((bitN a : Nat) : Int) by unfold bitN; simp]
  omega
theorem bit_calls (a : Nat) (ha : a < 64) (w : World) (R : Ending → World → Prop) (hR : Hid (R (.returned (.int .u64 (bitN a : Nat))) w)) : Calls Tryz.prog 116 #[.int .i64 a] w R := by
  have e := wrap_bit ha
  have hm : min a 64 = a := by omega
  have h0 : (0 : Int) ≤ (a : Int) := by omega
  go_enter Tryz.func116, Tryz.ntmps116
  go_wp2_with fail
  exact hR.out
theorem rellenx_calls (n : Nat) (P : List (Nat × Nat)) (v : Value) (w : World) (h : RelP w v n P) (R : Ending → World → Prop) (hR : Hid (R (.returned (.int .i64 n)) w)) : Calls Tryz.prog 117 #[v] w R := by
  obtain ⟨p, f, rfl, hp, h0, -⟩ := h
  go_enter Tryz.func117, Tryz.ntmps117
  go_wp2_with fail
  exact hR.out
theorem relelem_calls (n : Nat) (P : List (Nat × Nat)) (v : Value) (w : World) (h : RelP w v n P) (a : Int) (b : Bool) (hb : b = decide (0 ≤ a ∧ a < n)) (R : Ending → World → Prop) (hR : Hid (R (.returned (.bool b)) w)) : Calls Tryz.prog 115 #[v, .int .i64 a] w R := by
  have cL := Lib.hid fun R hR => rellenx_calls n P v w h R hR
  obtain ⟨p, rfl⟩ := h.ptr
  clear h
  by_cases h0 : 0 ≤ a
  · by_cases h1 : a < n
    · obtain rfl : b = true := by rw [hb]; exact decide_eq_true ⟨h0, h1⟩
      clear hb
      go_enter Tryz.func115, Tryz.ntmps115
      go_wp2_with fail
      refine cL.out _ (Lib.hid ?_)
      go_wp2_with fail
      exact hR.out
    · obtain rfl : b = false := by rw [hb]; exact decide_eq_false (fun h => h1 h.2)
      clear hb
      go_enter Tryz.func115, Tryz.ntmps115
      go_wp2_with fail
      refine cL.out _ (Lib.hid ?_)
      go_wp2_with fail
      exact retB hR.out (decide_eq_false (by omega)).symm
  · obtain rfl : b = false := by rw [hb]; exact decide_eq_false (fun h => h0 h.1)
    clear hb
    go_enter Tryz.func115, Tryz.ntmps115
    go_wp2_with fail
    exact hR.out
theorem relelem_quiet (n : Nat) (P : List (Nat × Nat)) (v : Value) (w : World) (h : RelP w v n P) (a : Int) (b : Bool) (hb : b = decide (0 ≤ a ∧ a < n)) (m : Nat) :
    Calls Tryz.prog 115 #[v, .int .i64 a] (w.drewN m) fun e w' => e = .returned (.bool b) ∧ w' = w.drewN m :=
  relelem_calls n P v _ (h.below (below_drewN (Below.refl _ _) m)) a b hb _ (Lib.hid ⟨rfl, rfl⟩)
theorem bit_quiet (a : Nat) (ha : a < 64) (w : World) : Calls Tryz.prog 116 #[.int .i64 a] w fun e w' => e = .returned (.int .u64 (bitN a : Nat)) ∧ w' = w := bit_calls a ha w _ (Lib.hid ⟨rfl, rfl⟩)
theorem hasQ_out {n : Nat} {P : List (Nat × Nat)} (hP : InR n P) {a b : Int} (h : ¬ ((0 ≤ a ∧ a < n) ∧ 0 ≤ b ∧ b < n)) : hasQ P a b = false := by
  cases e : hasQ P a b
  · rfl
  · obtain ⟨h0, h1, h2⟩ := hasQ_iff.1 e
    have := hP _ h2
    exact absurd ⟨⟨h0, by omega⟩, h1, by omega⟩ h
theorem and_has {P : List (Nat × Nat)} {f : Nat → Nat} (hf : Rows P f) {a b : Nat} (ha : a < 64) (hb : b < 64) :
    ∃ X : Nat, bits .and .u64 (f a : Nat) (bitN b : Nat) = (X : Int) ∧ (hasQ P a b = true → 0 < X) ∧ (hasQ P a b = false → X = 0) := by
  obtain ⟨g1, g2⟩ := hf a ha
  refine ⟨_, bits_and g1 (bit_wd hb), fun h => ?_, fun h => ?_⟩
  · rw [and_bit, g2, if_pos (decide_eq_true (hasQ_nat.1 h))]; exact bit_pos b
  · rw [and_bit, g2, if_neg]
    intro q
    rw [hasQ_nat.2 (of_decide_eq_true q)] at h
    cases h
theorem relhasx_calls (n : Nat) (P : List (Nat × Nat)) (a b : Int) (hP : InR n P) (hn : n ≤ 64) (v : Value) (w : World) (h : RelP w v n P) (R : Ending → World → Prop)
    (hR : Hid (∀ m, R (.returned (.bool (hasQ P a b))) (w.drewN m))) : Calls Tryz.prog 118 #[v, .int .i64 a, .int .i64 b] w R := by
  have cE := Lib.hid fun x B hB m => relelem_quiet n P v w h x B hB m
  by_cases ha : 0 ≤ a ∧ a < n
  · by_cases hb : 0 ≤ b ∧ b < n
    · obtain ⟨A, rfl⟩ : ∃ A : Nat, a = A := ⟨a.toNat, by omega⟩
      obtain ⟨B, rfl⟩ : ∃ B : Nat, b = B := ⟨b.toNat, by omega⟩
      obtain ⟨p, f, rfl, hp, h0, h1, hf⟩ := h
      have hA : A < 64 := by omega
      have hB : B < 64 := by omega
      have k := h1 A hA
      have eA : true = decide (0 ≤ (A : Int) ∧ (A : Int) < n) := (decide_eq_true ha).symm
      have eB : true = decide (0 ≤ (B : Int) ∧ (B : Int) < n) := (decide_eq_true hb).symm
      obtain ⟨X, hX, X1, X2⟩ := and_has hf hA hB
      have cA := Lib.hid (cE.out _ _ eA)
      have cB := Lib.hid (cE.out _ _ eB)
      clear h0 h1 hf ha hb hP hn cE eA eB
      generalize hasQ P A B = Q at *
      cases Q
      · obtain rfl := X2 rfl
        clear X1 X2
        have q0 : ((0 : Int) != 0) = false := by decide
        go_enter Tryz.func118, Tryz.ntmps118
        go_wp2_with fail
        go_quiet (first | (go_at_call 116; exact Calls.quiet_of_same (bit_quiet _ hB _)) | (with_reducible exact Calls.quiet_of_same (cA.out _)) | (with_reducible exact Calls.quiet_of_same (cB.out _)))
        go_wp2_with fail
        exact hR.out _
      · have hX0 := X1 rfl
        clear X1 X2
        have q0 : ((X : Int) != 0) = true := by simp; omega
        go_enter Tryz.func118, Tryz.ntmps118
        go_wp2_with fail
        go_quiet (first | (go_at_call 116; exact Calls.quiet_of_same (bit_quiet _ hB _)) | (with_reducible exact Calls.quiet_of_same (cA.out _)) | (with_reducible exact Calls.quiet_of_same (cB.out _)))
        go_wp2_with fail
        exact hR.out _
    · rw [hasQ_out hP (fun q => hb q.2)] at hR
      have cA := Lib.hid (cE.out a _ (decide_eq_true ha).symm)
      have cB := Lib.hid (cE.out b _ (decide_eq_false hb).symm)
      obtain ⟨p, rfl⟩ := h.ptr
      clear h ha hb hP hn cE
      go_enter Tryz.func118, Tryz.ntmps118
      go_wp2_with fail
      go_quiet (first | (with_reducible exact Calls.quiet_of_same (cA.out _)) | (with_reducible exact Calls.quiet_of_same (cB.out _)))
      go_wp2_with fail
      exact hR.out _
  · rw [hasQ_out hP (fun q => ha q.1)] at hR
    have cA := Lib.hid (cE.out a _ (decide_eq_false ha).symm)
    obtain ⟨p, rfl⟩ := h.ptr
    clear h ha hP hn cE
    go_enter Tryz.func118, Tryz.ntmps118
    go_wp2_with fail
    go_quiet ((with_reducible exact Calls.quiet_of_same (cA.out _)))
    go_wp2_with fail
    exact hR.out _
end Go.Proofs.YtbnmkbpjdelokaaGreat.Rel
