/- What a slice of ranges reads as, and the contracts of layer 2's small functions. -/
import Derived.Test.YthelhplcijhioaaGreatOwn
import Derived.Test.YthelhplcijhioaaGreatG22
set_option maxRecDepth 100000
set_option linter.unusedVariables false
namespace Go.Proofs.YthelhplcijhioaaGreat.Ran
open Go.RowKit Go.Lib

def enc (g : Rg) : List Value := [.int .i32 g.1, .int .i32 g.2]
def flat (l : List Rg) : List Value := l.flatMap enc
theorem flat_len (l : List Rg) : (flat l).length = l.length * 2 := by
  induction l with
  | nil => rfl
  | cons g l ih => rw [show flat (g :: l) = .int .i32 g.1 :: .int .i32 g.2 :: flat l from rfl]; simp [ih]; omega
theorem flat_append (l m : List Rg) : flat (l ++ m) = flat l ++ flat m := by unfold flat; rw [List.flatMap_append]
theorem flat_get : ∀ (l : List Rg) (k : Nat), k < l.length → (flat l)[k * 2]? = some (.int .i32 (l.getD k (0, 0)).1) ∧ (flat l)[k * 2 + 1]? = some (.int .i32 (l.getD k (0, 0)).2)
  | [], k, h => by simp at h
  | g :: l, 0, h => by simp [flat, enc]
  | g :: l, k + 1, h => by
    have := flat_get l k (by simpa using h)
    rw [show flat (g :: l) = .int .i32 g.1 :: .int .i32 g.2 :: flat l from rfl, show (k + 1) * 2 = k * 2 + 1 + 1 by omega]
    simpa using this
/-- A slice that reads as a list of ranges. -/
def RdR (w : World) (v : Value) (l : List Rg) : Prop := RdAt w v 2 (flat l)
theorem RdR.below {w w' : World} {v : Value} {l : List Rg} (h : RdR w v l) (hb : Below w.heap.size w w') : RdR w' v l := RdAt.below h hb
theorem RdR.open {w : World} {v : Value} {l : List Rg} (h : RdR w v l) : ∃ (A : Option Addr) (c : Nat), v = .slice A l.length c ∧ l.length ≤ c ∧
    (0 < l.length → ∃ g o, A = some ⟨g, o, none⟩ ∧ g < w.heap.size ∧ ∀ k, k < l.length → w.cell? ⟨g, o + k * 2, none⟩ = some (.int .i32 (l.getD k (0, 0)).1) ∧ w.cell? ⟨g, o + k * 2 + 1, none⟩ = some (.int .i32 (l.getD k (0, 0)).2)) := by
  obtain ⟨A, n, c, rfl, hl, hn, hc⟩ := h
  rw [flat_len] at hl
  obtain rfl : n = l.length := by omega
  refine ⟨A, c, rfl, hn, fun h0 => ?_⟩
  obtain ⟨g, o, rfl, hg, hc⟩ := hc (by rw [flat_len]; omega)
  refine ⟨g, o, rfl, hg, fun k hk => ?_⟩
  have := flat_get l k hk
  exact ⟨hc _ _ this.1, by have := hc _ _ this.2; rwa [← Nat.add_assoc] at this⟩
theorem RdR.of_own {w : World} {base : Nat} {e : TypeId} {n : Nat} {v : Value} {l : List Rg} (h : w.ownsRow base e 2 v n (flat l)) : RdR w v l := RdAt.of_own h


/-- Each bound is a rune as Go keeps it: 32 bits. -/
def Fit (l : List Rg) : Prop := ∀ k, k < l.length → -2147483648 ≤ (l.getD k (0, 0)).1 ∧ (l.getD k (0, 0)).1 ≤ 2147483647 ∧ -2147483648 ≤ (l.getD k (0, 0)).2 ∧ (l.getD k (0, 0)).2 ≤ 2147483647
theorem Fit.of_can {l : List Rg} (h : Can 0 l) : Fit l := fun k hk => by have := can_get h hk; omega

set_option maxRecDepth 100000 in
theorem hasR_calls (xs : List Rg) (r : Int) (v : Value) (w : World) (hx : RdR w v xs) (hl : xs.length ≤ 16777216) (R : Ending → World → Prop)
    (hR : R (.returned (.bool (inB xs r))) w) : Calls Tryz.prog 75 #[v, .int .i32 r] w R := by
  replace hR := Lib.hid hR
  obtain ⟨A, c, rfl, hlc, hr⟩ := hx.open
  replace hr := Lib.hid hr
  go_enter Tryz.func75, Tryz.ntmps75
  go_wp2_with fail
  go_loopg [5] xs.length (fun k i wr => ∃ (K : Nat), wr = w ∧ i = .int .i64 K ∧ K + k = xs.length ∧ Hid (inB (xs.take K) r = false))
  case atStart => exact ⟨0, rfl, rfl, by omega, by unfold inB; exact Bool.and_false _⟩
  case round =>
    obtain ⟨K, rfl, rfl, c1, c2⟩ := hrel
    by_cases hK : K < xs.length
    · obtain ⟨k, rfl⟩ : ∃ k, gk = k + 1 := ⟨gk - 1, by omega⟩
      obtain ⟨g, o, rfl, hg, hca⟩ := hr.out (by omega)
      obtain ⟨e0, e1⟩ := hca K hK
      have e2 : inB (xs.take (K + 1)) r = (decide (0 ≤ r) && decide (r ≤ 1114111) && (decide ((xs.getD K (0, 0)).1 ≤ r) && decide (r ≤ (xs.getD K (0, 0)).2))) := by
        have := c2.out
        unfold inB at this ⊢
        rw [take_succ xs K hK, hasB_append, Bool.and_or_distrib_left, this, hasB_cons]; simp
      have e3 : xs.getD K (0, 0) ∈ xs := by simp [List.getD, List.getElem?_eq_getElem hK]
      have e4 : decide (0 ≤ r) = true → decide (r ≤ 1114111) = true → decide ((xs.getD K (0, 0)).1 ≤ r) = true → decide (r ≤ (xs.getD K (0, 0)).2) = true → inB xs r = true := by
        intro h1 h2 h3 h4
        unfold inB
        rw [h1, h2, hasB_iff.2 ⟨_, e3, by simpa using h3, by simpa using h4⟩]; rfl
      clear hca e3
      generalize xs.getD K (0, 0) = G at *
      obtain ⟨X, Y⟩ := G
      simp only at e0 e1 e2 e4
      replace e2 := Lib.hid e2
      replace e4 := Lib.hid e4
      by_cases t1 : 0 ≤ r
      · by_cases t2 : r ≤ 1114111
        · by_cases t3 : X ≤ r
          · by_cases t4 : r ≤ Y
            · go_wp2_with fail
              exact retB hR.out (e4.out (by simpa using t1) (by simpa using t2) (by simpa using t3) (by simpa using t4))
            · go_wp2_with fail
              go_roundg k
              case measure => omega
              case rel => exact ⟨K + 1, rfl, by go_num, by omega, by refine Lib.hid ?_; rw [e2.out]; simp <;> (intros; omega)⟩
          · go_wp2_with fail
            go_roundg k
            case measure => omega
            case rel => exact ⟨K + 1, rfl, by go_num, by omega, by refine Lib.hid ?_; rw [e2.out]; simp <;> (intros; omega)⟩
        · go_wp2_with fail
          go_roundg k
          case measure => omega
          case rel => exact ⟨K + 1, rfl, by go_num, by omega, by refine Lib.hid ?_; rw [e2.out]; simp <;> (intros; omega)⟩
      · go_wp2_with fail
        go_roundg k
        case measure => omega
        case rel => exact ⟨K + 1, rfl, by go_num, by omega, by refine Lib.hid ?_; rw [e2.out]; simp <;> (intros; omega)⟩
    · have e : inB xs r = false := by have := c2.out; rwa [List.take_of_length_le (by omega)] at this
      replace e := Lib.hid e
      go_wp2_with fail
      exact retB hR.out e.out

end Go.Proofs.YthelhplcijhioaaGreat.Ran
