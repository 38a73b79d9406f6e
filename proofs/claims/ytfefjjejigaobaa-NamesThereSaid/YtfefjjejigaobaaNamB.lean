/- A slice of strings as a list; the reference's Find, Twice, Same. -/
import Derived.Test.YtfefjjejigaobaaNamS
import Derived.Test.YtfefjjejigaobaaOwn
import Derived.SliceStrings
import Derived.Deep.AppendLies
set_option linter.unusedVariables false
namespace Go.Proofs.Ytfefjjejigaobaa.Nam
open Go.RowKit Go.Lib Go.Proofs.Ytfefjjejigaobaa.Utf Go.ChangeShapes Go.WideShapes

def sv (l : List ByteArray) : List Value := l.map Value.string
theorem sv_len (l : List ByteArray) : (sv l).length = l.length := by simp [sv]
theorem sv_append (l m : List ByteArray) : sv (l ++ m) = sv l ++ sv m := by simp [sv]
theorem sv_get (l : List ByteArray) (k : Nat) (h : k < l.length) : (sv l)[k]? = some (.string (l.getD k ByteArray.empty)) := by simp [sv, List.getD, List.getElem?_eq_getElem h]
/-- A slice that reads as a list of strings. -/
def RdS (w : World) (v : Value) (l : List ByteArray) : Prop := RdAt w v 1 (sv l)
theorem RdS.below {w w' : World} {v : Value} {l : List ByteArray} (h : RdS w v l) (hb : Below w.heap.size w w') : RdS w' v l := RdAt.below h hb
theorem RdS.open {w : World} {v : Value} {l : List ByteArray} (h : RdS w v l) : ∃ (A : Option Addr) (c : Nat), v = .slice A l.length c ∧ l.length ≤ c ∧
    (0 < l.length → ∃ g o, A = some ⟨g, o, none⟩ ∧ g < w.heap.size ∧ ∀ k, k < l.length → w.cell? ⟨g, o + k, none⟩ = some (.string (l.getD k ByteArray.empty))) := by
  obtain ⟨A, n, c, rfl, hl, hn, hc⟩ := h
  rw [sv_len] at hl
  obtain rfl : n = l.length := by omega
  refine ⟨A, c, rfl, hn, fun h0 => ?_⟩
  obtain ⟨g, o, rfl, hg, hc⟩ := hc (by rw [sv_len]; omega)
  exact ⟨g, o, rfl, hg, fun k hk => hc _ _ (sv_get l k hk)⟩
theorem RdS.of_own {w : World} {base : Nat} {e : TypeId} {n : Nat} {v : Value} {l : List ByteArray} (h : w.ownsRow base e 1 v n (sv l)) : RdS w v l := RdAt.of_own h
theorem RdS.none0 (w : World) (A : Option Addr) (c : Nat) : RdS w (.slice A 0 c) [] := ⟨A, 0, c, rfl, rfl, Nat.zero_le _, fun h => absurd h (by simp [sv])⟩

theorem arg_strs {H : Type} {enc' : TypeId × Value → H} {W : World} {base : Nat} {v : Value} {d : DataW H} {p : List MemPlace} (hv : Value.okWide Try.prog W .any base 28 v)
    (h : DataW.Trod enc' Try.prog W 0 (fun _ => true) true 28 v d p) : ∃ xs : List ByteArray, RdS W v xs ∧ (∀ s ∈ xs, s.size ≤ maxLen) ∧ (xs = [] ∨ ∃ es sp, d = .slice es sp ∧ es.length = xs.length) := by
  obtain ⟨a, len, cap, rfl⟩ := okWide_slice Try.underlying28 hv
  obtain ⟨fuel, hf⟩ := h
  rcases open_strings Try.underlying28 Try.underlying9 (by kernel_rfl) hf with ⟨hcs, hx⟩ | ⟨a', len', cap', ss, hcs, hb, hl, hm, hz, hx, hcell, hsz⟩
  · simp [Value.cells] at hcs
    obtain ⟨rfl, rfl, rfl⟩ := hcs
    exact ⟨[], RdS.none0 _ _ _, by simp, .inl rfl⟩
  · simp [Value.cells] at hcs
    obtain ⟨rfl, rfl, rfl⟩ := hcs
    simp only [if_true] at hz
    refine ⟨ss.take len, ⟨some a', len, cap, rfl, by rw [sv_len, List.length_take]; omega, hl, fun h0 => ?_⟩, fun s hs => hsz s (List.mem_of_mem_take hs), .inr ?_⟩
    · rw [sv_len, List.length_take] at h0
      have hp : 0 < ss.length := by omega
      have hc := hcell 0 hp
      obtain ⟨b, off, spot⟩ := a'
      have hspot : spot = none := by simpa [Addr.add] using World.cell?_spot hc
      subst hspot
      have ad : ∀ j, (⟨b, off, none⟩ : Addr).add j = ⟨b, off + j, none⟩ := fun j => by unfold Addr.add; split <;> simp_all
      refine ⟨b, off, rfl, by have := World.block_lt_of_cell? W _ hc; rw [ad] at this; exact this, fun j u hj => ?_⟩
      have hj2 : j < (ss.take len).length := by have := (List.getElem?_eq_some_iff.1 hj).1; rwa [sv_len] at this
      have hj3 : j < len := by rw [List.length_take] at hj2; omega
      rw [sv_get _ j hj2] at hj
      have hc := hcell j (by omega)
      rw [ad] at hc
      rw [hc, ← Option.some.inj hj]
      simp [List.getD, List.getElem?_take_of_lt hj3]
    · simp only [Prod.mk.injEq] at hx
      exact ⟨_, _, hx.1, by simp [strs]⟩

/- What is kept behind an append, an alloc, a store. -/
theorem grown_keep {W w2 : World} {o : Obj} {row : Option Nat} (h : (W.alloc o).drew.grownBy w2 row) {g x : Nat} {u : Value} (hg : g < W.heap.size) (hr : some g ≠ row) (hc : W.cell? ⟨g, x, none⟩ = some u) : w2.cell? ⟨g, x, none⟩ = some u :=
  ((h.cell_far ⟨g, x, none⟩ (by show g < (W.alloc o).heap.size; simp; omega) hr).trans (((Below.refl W.heap.size W).alloc (Nat.le_refl _) o).cell (p := ⟨g, x, none⟩) hg)).trans hc
theorem grown_keepF {W w2 : World} {o : Obj} {row : Option Nat} (h : (W.alloc o).drew.grownBy w2 row) {g x : Nat} {u : Bool} (hg : g < W.heap.size) (hr : some g ≠ row) (hc : W.frozen? ⟨g, x, none⟩ = u) : w2.frozen? ⟨g, x, none⟩ = u :=
  ((h.frozen_far ⟨g, x, none⟩ (by show g < (W.alloc o).heap.size; simp; omega) hr).trans (((Below.refl W.heap.size W).alloc (Nat.le_refl _) o).frozen (p := ⟨g, x, none⟩) hg)).trans hc

theorem alloc_keep {W : World} {o : Obj} {g x : Nat} {u : Value} (hg : g < W.heap.size) (hc : W.cell? ⟨g, x, none⟩ = some u) : ((W.alloc o).drew).cell? ⟨g, x, none⟩ = some u := (((Below.refl W.heap.size W).alloc (Nat.le_refl _) o).cell (p := ⟨g, x, none⟩) hg).trans hc
theorem alloc_keepF {W : World} {o : Obj} {g x : Nat} {u : Bool} (hg : g < W.heap.size) (hc : W.frozen? ⟨g, x, none⟩ = u) : ((W.alloc o).drew).frozen? ⟨g, x, none⟩ = u := (((Below.refl W.heap.size W).alloc (Nat.le_refl _) o).frozen (p := ⟨g, x, none⟩) hg).trans hc
theorem set_keep {W : World} {g x t y : Nat} {u v : Value} (hne : g ≠ t) (hc : W.cell? ⟨g, x, none⟩ = some u) : (W.setCell ⟨t, y, none⟩ v).cell? ⟨g, x, none⟩ = some u := by
  rw [World.cell?_setCell_other _ _ _ _ (by intro e; simp only [Addr.mk.injEq] at e; omega)]; exact hc
theorem set_keepF {W : World} {g x : Nat} {a : Addr} {u : Bool} {v : Value} (hc : W.frozen? ⟨g, x, none⟩ = u) : (W.setCell a v).frozen? ⟨g, x, none⟩ = u := by rw [World.frozen?_setCell]; exact hc
theorem seq_t {a b : ByteArray} (h : a = b) : (a.toList == b.toList) = true := by rw [seq_iff]; exact decide_eq_true h
theorem seq_f {a b : ByteArray} (h : ¬ a = b) : (a.toList == b.toList) = false := by rw [seq_iff]; exact decide_eq_false h
theorem sne_t {a b : ByteArray} (h : ¬ a = b) : (a.toList != b.toList) = true := by unfold bne; rw [seq_f h]; rfl
theorem sne_f {a b : ByteArray} (h : a = b) : (a.toList != b.toList) = false := by unfold bne; rw [seq_t h]; rfl
theorem take_succS (xs : List ByteArray) (k : Nat) (h : k < xs.length) : xs.take (k + 1) = xs.take k ++ [xs.getD k ByteArray.empty] := by
  rw [List.take_add_one, List.getD, List.getElem?_eq_getElem h]; rfl

theorem getD_at {xs : List ByteArray} {j : Nat} (h : j < xs.length) : xs[j]? = some (xs.getD j ByteArray.empty) := by simp [List.getD, List.getElem?_eq_getElem h]
theorem reffind_calls (xs : List ByteArray) (s : ByteArray) (v : Value) (w : World) (hx : RdS w v xs) (hl : xs.length ≤ 16777216) (R : Ending → World → Prop)
    (hR : Hid (R (.returned (.int .i64 (findS xs s))) w)) : Calls Try.prog 13 #[v, .string s] w R := by
  obtain ⟨A, c, rfl, hlc, hr⟩ := hx.open
  replace hr := Lib.hid hr
  clear hx
  go_enter Try.func13, Try.ntmps13
  go_wp2_with fail
  go_loopg [5] xs.length (fun k i wr => ∃ (K : Nat), wr = w ∧ i = .int .i64 K ∧ K + k = xs.length ∧ Hid (∀ j, j < K → xs[j]? ≠ some s))
  case atStart => exact ⟨0, rfl, rfl, by omega, Lib.hid fun j h => by omega⟩
  case round =>
    obtain ⟨K, rfl, rfl, c1, c2⟩ := hrel
    by_cases hK : K < xs.length
    · obtain ⟨g, o, rfl, hg, hca⟩ := hr.out (by omega)
      have e0 := hca K hK
      have e1 := getD_at hK
      clear hca
      generalize xs.getD K ByteArray.empty = x at *
      by_cases hq : x = s
      · have e2 : findS xs s = K := find_is (by rw [e1, hq]) c2.out
        rw [e2] at hR
        have h3 := seq_t hq
        clear hq e1 c2
        go_wp2_with fail
        exact hR.out
      · have h3 := seq_f hq
        have e2 : ∀ j, j < K + 1 → xs[j]? ≠ some s := fun j hj => by
          rcases Nat.eq_or_lt_of_le (Nat.le_of_lt_succ hj) with e | h
          · subst e; rw [e1]; exact fun h => hq (Option.some.inj h)
          · exact c2.out j h
        replace e2 := Lib.hid e2
        clear hq e1 c2
        go_wp2_with fail
        go_roundg (gk - 1)
        case measure => omega
        case rel => exact ⟨K + 1, rfl, by go_num, by omega, e2⟩
    · have e : findS xs s = -1 := find_none fun hm => by
        obtain ⟨j, hj, e⟩ := List.getElem_of_mem hm
        exact c2.out j (by omega) (by rw [List.getElem?_eq_getElem hj, e])
      rw [e] at hR
      clear c2
      go_wp2_with fail
      exact hR.out

theorem find_lt {xs : List ByteArray} {K : Nat} (hK : K < xs.length) : findS xs (xs.getD K ByteArray.empty) < K ↔ xs.getD K ByteArray.empty ∈ xs.take K := by
  rcases find_cases xs (xs.getD K ByteArray.empty) with ⟨-, h⟩ | ⟨m, h1, h2, h3, h4⟩
  · exact absurd (List.mem_of_getElem? (getD_at hK)) h
  · rw [h4]
    constructor
    · intro h
      refine List.mem_take_iff_getElem.2 ⟨m, by omega, ?_⟩
      rw [List.getElem?_eq_getElem h1] at h2
      exact Option.some.inj h2
    · intro h
      obtain ⟨i, hi, e⟩ := List.mem_take_iff_getElem.1 h
      have : ¬ i < m := fun q => h3 i q (by rw [List.getElem?_eq_getElem (by omega), e])
      omega
theorem reftwice_calls (xs : List ByteArray) (v : Value) (w : World) (hx : RdS w v xs) (hl : xs.length ≤ 16777216) (R : Ending → World → Prop)
    (hR : Hid (R (.returned (.int .i64 (twiS xs))) w)) : Calls Try.prog 19 #[v] w R := by
  obtain ⟨A, c, rfl, hlc, hr⟩ := hx.open
  have cF := Lib.hid fun s R hR => reffind_calls xs s _ w hx hl R hR
  replace hr := Lib.hid hr
  clear hx
  go_enter Try.func19, Try.ntmps19
  go_wp2_with fail
  go_loopg [3] xs.length (fun k i wr => ∃ (K : Nat), wr = w ∧ i = .int .i64 K ∧ K + k = xs.length ∧ Hid (∀ j, j < K → xs.getD j ByteArray.empty ∉ xs.take j))
  case atStart => exact ⟨0, rfl, rfl, by omega, Lib.hid fun j h => by omega⟩
  case round =>
    obtain ⟨K, rfl, rfl, c1, c2⟩ := hrel
    by_cases hK : K < xs.length
    · have cG := fun R hR => cF.out (xs.getD K ByteArray.empty) R hR
      obtain ⟨g, o, rfl, hg, hca⟩ := hr.out (by omega)
      have e0 := hca K hK
      have e1 := Lib.hid (find_lt hK)
      have c3 := Lib.hid fun h => twi_is hK h c2.out
      have c4 : xs.getD K ByteArray.empty ∉ xs.take K → ∀ j, j < K + 1 → xs.getD j ByteArray.empty ∉ xs.take j := fun h j hj => by
        rcases Nat.eq_or_lt_of_le (Nat.le_of_lt_succ hj) with e | q
        · subst e; exact h
        · exact c2.out j q
      replace c4 := Lib.hid c4
      clear hca c2 cF
      generalize xs.getD K ByteArray.empty = x at *
      generalize findS xs x = f at *
      replace cG := Lib.hid cG
      by_cases hq : f < K
      · have e := c3.out (e1.out.1 hq)
        rw [e] at hR
        clear c3 c4 e1 e
        go_wp2_with fail
        refine cG.out _ (Lib.hid ?_)
        go_wp2_with fail
        exact hR.out
      · have e := c4.out (fun h => hq (e1.out.2 h))
        replace e := Lib.hid e
        clear c3 c4 e1
        go_wp2_with fail
        refine cG.out _ (Lib.hid ?_)
        go_wp2_with fail
        go_roundg (gk - 1)
        case measure => omega
        case rel => exact ⟨K + 1, rfl, by go_num, by omega, e⟩
    · have e : twiS xs = -1 := twi_none fun j hj => c2.out j (by omega)
      rw [e] at hR
      clear c2
      go_wp2_with fail
      exact hR.out

set_option maxHeartbeats 1000000 in
theorem refsame_calls (xs ys : List ByteArray) (va vb : Value) (w : World) (hx : RdS w va xs) (hy : RdS w vb ys) (hlx : xs.length ≤ 16777216) (hly : ys.length ≤ 16777216) (R : Ending → World → Prop)
    (hR : Hid (∀ nq, R (.returned (.bool (decide (xs = ys)))) (w.drewN nq))) : Calls Try.prog 17 #[va, vb] w R := by
  obtain ⟨A, c, rfl, hlc, hca⟩ := hx.open
  obtain ⟨B, d, rfl, hld, hcb⟩ := hy.open
  replace hca := Lib.hid hca
  replace hcb := Lib.hid hcb
  clear hx hy
  by_cases hlen : xs.length = ys.length
  · have hb : ((xs.length : Int) != (ys.length : Int)) = false := by rw [bne_eq_false_iff_eq]; exact_mod_cast hlen
    have hle : ys.length ≤ xs.length := by omega
    have hle2 : xs.length ≤ ys.length := by omega
    replace hlen := Lib.hid hlen
    go_enter Try.func17, Try.ntmps17
    go_wp2_with fail
    go_loopg [5] ys.length (fun k i wr => ∃ (K nq : Nat), wr = w.drewN nq ∧ i = .int .i64 K ∧ K + k = ys.length ∧ Hid (xs.take K = ys.take K))
    case atStart => exact ⟨0, 0, rfl, rfl, by omega, rfl⟩
    case round =>
      obtain ⟨K, nq, rfl, rfl, c1, c2⟩ := hrel
      by_cases hK : K < ys.length
      · have hKx : K < xs.length := by omega
        obtain ⟨g, o, rfl, hg, ha⟩ := hca.out (by omega)
        obtain ⟨g', o', rfl, hg', hb⟩ := hcb.out (by omega)
        have a0 := ha K hKx
        have b0 := hb K hK
        clear ha hb
        have hX := take_succS xs K hKx
        have hY := take_succS ys K hK
        have dn : xs.getD K ByteArray.empty ≠ ys.getD K ByteArray.empty → decide (xs = ys) = false := by
          intro h; simp; intro e; subst e; exact h rfl
        rw [c2.out] at hX
        generalize xs.getD K ByteArray.empty = X at *
        generalize ys.getD K ByteArray.empty = Y at *
        by_cases e0 : X = Y
        · have st : xs.take (K + 1) = ys.take (K + 1) := by rw [hX, hY, e0]
          have h3 := seq_t e0
          replace st := Lib.hid st
          clear dn hX hY e0
          go_wp2_with fail
          go_quiet (fail)
          go_wp2_with fail
          go_roundg (gk - 1)
          case measure => omega
          case rel => exact ⟨K + 1, _, rfl, by go_num, by omega, st⟩
        · have h3 := seq_f e0
          have dn' := dn e0
          rw [dn'] at hR
          clear dn hX hY e0 dn'
          go_wp2_with fail
          go_quiet (fail)
          go_wp2_with fail
          exact (by rw [World.drewN_drewN]; exact hR.out _)
      · have e : decide (xs = ys) = true := by
          have h := c2.out
          have hl := hlen.out
          rw [List.take_of_length_le (by omega), List.take_of_length_le (by omega)] at h
          simpa using h
        rw [e] at hR
        clear c2
        go_wp2_with fail
        exact hR.out _
  · have hb : ((xs.length : Int) != (ys.length : Int)) = true := by rw [bne_iff_ne]; exact_mod_cast hlen
    have e : decide (xs = ys) = false := by simp; intro h; exact hlen (by rw [h])
    rw [e] at hR
    replace hlen := Lib.hid hlen
    go_enter Try.func17, Try.ntmps17
    go_wp2_with fail
    exact hR.out 0
end Go.Proofs.Ytfefjjejigaobaa.Nam
