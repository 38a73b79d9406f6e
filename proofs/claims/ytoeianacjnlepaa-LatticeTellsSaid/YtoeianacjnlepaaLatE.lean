/- The chapter's example of layer 11: its levels in memory; lives. -/
import Derived.Test.YtoeianacjnlepaaLatX
import Derived.Test.YtoeianacjnlepaaCls
import Derived.BigRegion
import Derived.Laws.StructEq
set_option maxRecDepth 100000
set_option linter.unusedVariables false
namespace Go.Proofs.Ytoeianacjnlepaa.Lat
open Go.RowKit Go.Lib Go.Proofs.Ytoeianacjnlepaa.Rel Go.Proofs.Ytoeianacjnlepaa.Nam

def nLow : ByteArray := ⟨#[108, 111, 119]⟩
def nA : ByteArray := ⟨#[97]⟩
def nB : ByteArray := ⟨#[98]⟩
def nHigh : ByteArray := ⟨#[104, 105, 103, 104]⟩
def dW : List Wr := [(nLow, 0), (nA, 0), (nB, 0), (nHigh, 0)]
def dP : List Pr := [((nLow, 0), (nA, 0)), ((nLow, 0), (nB, 0)), ((nA, 0), (nHigh, 0)), ((nB, 0), (nHigh, 0))]
theorem dia_ok : wrongS dW dP = (0, 0) := by decide +kernel
theorem dia_fine : Fine dW dP := (wrong_ok (by rw [dia_ok])).2
theorem dia_join : joinS 4 (leqF dW dP) 1 2 = 3 := by decide +kernel
theorem dia_meet : joinS 4 (flp (leqF dW dP)) 1 2 = 0 := by decide +kernel
theorem dia_top : ∀ a, a < 4 → leqF dW dP a 3 = true := by decide +kernel

theorem four_words (w : World) : Below w.heap.size w ((((w.alloc (.cells #[.string nLow, .int .i64 0] 50)).alloc (.cells #[.string nA, .int .i64 0] 50)).alloc (.cells #[.string nB, .int .i64 0] 50)).alloc (.cells #[.string nHigh, .int .i64 0] 50)) ∧ ((((w.alloc (.cells #[.string nLow, .int .i64 0] 50)).alloc (.cells #[.string nA, .int .i64 0] 50)).alloc (.cells #[.string nB, .int .i64 0] 50)).alloc (.cells #[.string nHigh, .int .i64 0] 50)).heap.size = w.heap.size + 4 ∧
    ((((w.alloc (.cells #[.string nLow, .int .i64 0] 50)).alloc (.cells #[.string nA, .int .i64 0] 50)).alloc (.cells #[.string nB, .int .i64 0] 50)).alloc (.cells #[.string nHigh, .int .i64 0] 50)).cell? ⟨w.heap.size, 0, none⟩ = some (.string nLow) ∧
    ((((w.alloc (.cells #[.string nLow, .int .i64 0] 50)).alloc (.cells #[.string nA, .int .i64 0] 50)).alloc (.cells #[.string nB, .int .i64 0] 50)).alloc (.cells #[.string nHigh, .int .i64 0] 50)).cell? ⟨w.heap.size, 1, none⟩ = some (.int .i64 0) ∧
    ((((w.alloc (.cells #[.string nLow, .int .i64 0] 50)).alloc (.cells #[.string nA, .int .i64 0] 50)).alloc (.cells #[.string nB, .int .i64 0] 50)).alloc (.cells #[.string nHigh, .int .i64 0] 50)).cell? ⟨w.heap.size + 1, 0, none⟩ = some (.string nA) ∧
    ((((w.alloc (.cells #[.string nLow, .int .i64 0] 50)).alloc (.cells #[.string nA, .int .i64 0] 50)).alloc (.cells #[.string nB, .int .i64 0] 50)).alloc (.cells #[.string nHigh, .int .i64 0] 50)).cell? ⟨w.heap.size + 1, 1, none⟩ = some (.int .i64 0) ∧
    ((((w.alloc (.cells #[.string nLow, .int .i64 0] 50)).alloc (.cells #[.string nA, .int .i64 0] 50)).alloc (.cells #[.string nB, .int .i64 0] 50)).alloc (.cells #[.string nHigh, .int .i64 0] 50)).cell? ⟨w.heap.size + 1 + 1, 0, none⟩ = some (.string nB) ∧
    ((((w.alloc (.cells #[.string nLow, .int .i64 0] 50)).alloc (.cells #[.string nA, .int .i64 0] 50)).alloc (.cells #[.string nB, .int .i64 0] 50)).alloc (.cells #[.string nHigh, .int .i64 0] 50)).cell? ⟨w.heap.size + 1 + 1, 1, none⟩ = some (.int .i64 0) ∧
    ((((w.alloc (.cells #[.string nLow, .int .i64 0] 50)).alloc (.cells #[.string nA, .int .i64 0] 50)).alloc (.cells #[.string nB, .int .i64 0] 50)).alloc (.cells #[.string nHigh, .int .i64 0] 50)).cell? ⟨w.heap.size + 1 + 1 + 1, 0, none⟩ = some (.string nHigh) ∧
    ((((w.alloc (.cells #[.string nLow, .int .i64 0] 50)).alloc (.cells #[.string nA, .int .i64 0] 50)).alloc (.cells #[.string nB, .int .i64 0] 50)).alloc (.cells #[.string nHigh, .int .i64 0] 50)).cell? ⟨w.heap.size + 1 + 1 + 1, 1, none⟩ = some (.int .i64 0) := by
  refine ⟨?_, by simp, ?_⟩
  · have u1 := (Below.refl w.heap.size w).alloc (Nat.le_refl _) (.cells #[.string nLow, .int .i64 0] 50)
    exact ((u1.alloc u1.size _).alloc (by simp; omega) _).alloc (by simp; omega) _
  · refine ⟨?_, ?_, ?_, ?_, ?_, ?_, ?_, ?_⟩ <;> simp [go_sem]
/-- A slice over a block that was just made. -/
theorem rd_new (W : World) (us : Array Value) (t : TypeId) (k n : Nat) (h : us.size = n * k) : RdAt (W.alloc (.cells us t)) (.slice (some ⟨W.heap.size, 0, none⟩) n n) k us.toList :=
  ⟨_, n, n, rfl, by simpa using h, Nat.le_refl _, fun _ => ⟨W.heap.size, 0, rfl, by simp, fun j u hj => by
    have := cells_new W us t j u hj
    rwa [show (⟨W.heap.size, 0, none⟩ : Addr).add j = ⟨W.heap.size, 0 + j, none⟩ by unfold Addr.add; split <;> simp_all] at this⟩⟩
theorem two_below {B : Nat} {w W : World} (h : Below B w W) (hB : B ≤ W.heap.size) (a b : Obj) : Below B w ((W.alloc a).alloc b).drew := ((h.alloc hB a).alloc (by simp; omega) b).drew
theorem alloc_lt {W : World} (o : Obj) {g : Nat} (hg : g < W.heap.size) : g < (W.alloc o).heap.size := by simp; omega
theorem alloc_cell {W : World} (o : Obj) {g x : Nat} {u : Value} (hg : g < W.heap.size) (hc : W.cell? ⟨g, x, none⟩ = some u) : (W.alloc o).cell? ⟨g, x, none⟩ = some u := (((Below.refl W.heap.size W).alloc (Nat.le_refl _) o).cell (p := ⟨g, x, none⟩) hg).trans hc
set_option maxRecDepth 100000 in
set_option maxHeartbeats 2000000 in
theorem diamond_calls (w : World) (R : Ending → World → Prop) (hR : Hid (∀ v1 v2 w', RdW w' v1 dW → RdPr w' v2 dP → Below w.heap.size w w' → R (.returned (.tuple #[v1, v2])) w')) : Calls Try.prog 25 #[] w R := by
  obtain ⟨nb, z0, a0, a1, b0, b1, c0, c1, d0, d1⟩ := four_words w
  go_enter Try.func25, Try.ntmps25
  go_wp2_with fail
  rw [show (⟨#[108, 111, 119]⟩ : ByteArray) = nLow from rfl, show (⟨#[97]⟩ : ByteArray) = nA from rfl, show (⟨#[98]⟩ : ByteArray) = nB from rfl, show (⟨#[104, 105, 103, 104]⟩ : ByteArray) = nHigh from rfl]
  generalize ((((w.alloc (.cells #[.string nLow, .int .i64 0] 50)).alloc (.cells #[.string nA, .int .i64 0] 50)).alloc (.cells #[.string nB, .int .i64 0] 50)).alloc (.cells #[.string nHigh, .int .i64 0] 50)) = W at *
  have ka0 := fun o => alloc_cell o (by omega) a0
  have ka1 := fun o => alloc_cell o (by omega) a1
  have kb0 := fun o => alloc_cell o (by omega) b0
  have kb1 := fun o => alloc_cell o (by omega) b1
  have kc0 := fun o => alloc_cell o (by omega) c0
  have kc1 := fun o => alloc_cell o (by omega) c1
  have kd0 := fun o => alloc_cell o (by omega) d0
  have kd1 := fun o => alloc_cell o (by omega) d1
  have hh : Hid (w.heap.size < W.heap.size ∧ w.heap.size + 1 < W.heap.size ∧ w.heap.size + 1 + 1 < W.heap.size ∧ w.heap.size + 1 + 1 + 1 < W.heap.size) := Lib.hid ⟨by omega, by omega, by omega, by omega⟩
  replace nb := Lib.hid nb
  replace z0 := Lib.hid z0
  generalize w.heap.size + 1 + 1 + 1 = H3 at *
  generalize w.heap.size + 1 + 1 = H2 at *
  generalize w.heap.size + 1 = H1 at *
  generalize w.heap.size = H0 at *
  have hH : H0 < W.heap.size ∧ H1 < W.heap.size ∧ H2 < W.heap.size ∧ H3 < W.heap.size := hh.out
  obtain ⟨h0, h1, h2, h3⟩ := hH
  clear ka0 ka1 kb0 kb1 kc0 kc1 kd0 kd1
  go_region_held3 (fun w' => w'.cell? ⟨H0, 0, none⟩ = some (.string nLow) ∧ w'.cell? ⟨H0, 1, none⟩ = some (.int .i64 0) ∧ w'.cell? ⟨H1, 0, none⟩ = some (.string nA) ∧ w'.cell? ⟨H1, 1, none⟩ = some (.int .i64 0) ∧ w'.cell? ⟨H2, 0, none⟩ = some (.string nB) ∧ w'.cell? ⟨H2, 1, none⟩ = some (.int .i64 0) ∧ w'.cell? ⟨H3, 0, none⟩ = some (.string nHigh) ∧ w'.cell? ⟨H3, 1, none⟩ = some (.int .i64 0) ∧ H0 < w'.heap.size ∧ H1 < w'.heap.size ∧ H2 < w'.heap.size ∧ H3 < w'.heap.size)
    (first | exact ⟨a0, a1, b0, b1, c0, c1, d0, d1, h0, h1, h2, h3⟩ | exact ⟨alloc_cell _ h0 a0, alloc_cell _ h0 a1, alloc_cell _ h1 b0, alloc_cell _ h1 b1, alloc_cell _ h2 c0, alloc_cell _ h2 c1, alloc_cell _ h3 d0, alloc_cell _ h3 d1, alloc_lt _ h0, alloc_lt _ h1, alloc_lt _ h2, alloc_lt _ h3⟩ | exact ⟨alloc_cell _ (alloc_lt _ h0) (alloc_cell _ h0 a0), alloc_cell _ (alloc_lt _ h0) (alloc_cell _ h0 a1), alloc_cell _ (alloc_lt _ h1) (alloc_cell _ h1 b0), alloc_cell _ (alloc_lt _ h1) (alloc_cell _ h1 b1), alloc_cell _ (alloc_lt _ h2) (alloc_cell _ h2 c0), alloc_cell _ (alloc_lt _ h2) (alloc_cell _ h2 c1), alloc_cell _ (alloc_lt _ h3) (alloc_cell _ h3 d0), alloc_cell _ (alloc_lt _ h3) (alloc_cell _ h3 d1), alloc_lt _ (alloc_lt _ h0), alloc_lt _ (alloc_lt _ h1), alloc_lt _ (alloc_lt _ h2), alloc_lt _ (alloc_lt _ h3)⟩ | trace_state)
    (first | fail)
  all_goals
    go_wp2_with fail
  · have r1 := (rd_new W #[.string nLow, .int .i64 0, .string nA, .int .i64 0, .string nB, .int .i64 0, .string nHigh, .int .i64 0] 50 2 4 rfl).below ((Below.refl _ _).alloc (Nat.le_refl _) (.cells #[.string nLow, .int .i64 0, .string nA, .int .i64 0, .string nLow, .int .i64 0, .string nB, .int .i64 0, .string nA, .int .i64 0, .string nHigh, .int .i64 0, .string nB, .int .i64 0, .string nHigh, .int .i64 0] 78))
    have r2 := rd_new (W.alloc (.cells #[.string nLow, .int .i64 0, .string nA, .int .i64 0, .string nB, .int .i64 0, .string nHigh, .int .i64 0] 50)) #[.string nLow, .int .i64 0, .string nA, .int .i64 0, .string nLow, .int .i64 0, .string nB, .int .i64 0, .string nA, .int .i64 0, .string nHigh, .int .i64 0, .string nB, .int .i64 0, .string nHigh, .int .i64 0] 78 4 4 rfl
    rw [show (W.alloc (.cells #[.string nLow, .int .i64 0, .string nA, .int .i64 0, .string nB, .int .i64 0, .string nHigh, .int .i64 0] 50)).heap.size = W.heap.size + 1 by simp] at r2
    exact hR.out _ _ _ (r1.below (Below.refl _ _).drew) (r2.below (Below.refl _ _).drew) (two_below nb.out (Nat.le_of_lt h0) _ _)
  · have r1 := (rd_new W #[.string nLow, .int .i64 0, .string nA, .int .i64 0, .string nLow, .int .i64 0, .string nB, .int .i64 0, .string nA, .int .i64 0, .string nHigh, .int .i64 0, .string nB, .int .i64 0, .string nHigh, .int .i64 0] 78 4 4 rfl).below ((Below.refl _ _).alloc (Nat.le_refl _) (.cells #[.string nLow, .int .i64 0, .string nA, .int .i64 0, .string nB, .int .i64 0, .string nHigh, .int .i64 0] 50))
    have r2 := rd_new (W.alloc (.cells #[.string nLow, .int .i64 0, .string nA, .int .i64 0, .string nLow, .int .i64 0, .string nB, .int .i64 0, .string nA, .int .i64 0, .string nHigh, .int .i64 0, .string nB, .int .i64 0, .string nHigh, .int .i64 0] 78)) #[.string nLow, .int .i64 0, .string nA, .int .i64 0, .string nB, .int .i64 0, .string nHigh, .int .i64 0] 50 2 4 rfl
    rw [show (W.alloc (.cells #[.string nLow, .int .i64 0, .string nA, .int .i64 0, .string nLow, .int .i64 0, .string nB, .int .i64 0, .string nA, .int .i64 0, .string nHigh, .int .i64 0, .string nB, .int .i64 0, .string nHigh, .int .i64 0] 78)).heap.size = W.heap.size + 1 by simp] at r2
    exact hR.out _ _ _ (r2.below (Below.refl _ _).drew) (r1.below (Below.refl _ _).drew) (two_below nb.out (Nat.le_of_lt h0) _ _)

set_option maxRecDepth 100000 in
set_option maxHeartbeats 2000000 in
theorem lives11_calls (w : World) (R : Ending → World → Prop) (hR : Hid (∀ w', Below w.heap.size w w' → R (.returned (.bool true)) w')) : Calls Try.prog 8 #[] w R := by
  have cB := Lib.hid fun vw vp (W : World) hw hp R hR hR2 => build_calls dW dP vw vp W hw hp (by decide) (by decide) (by decide) (by decide) R hR hR2
  have hL := dia_fine.latt
  have cJ := fun v (W : World) h R hR => latjoin_calls (nms dW) (leqF dW dP) v W h R 1 2 (by decide) (by decide) hR
  have cM := fun v (W : World) h R hR => latmeet_calls (nms dW) (leqF dW dP) v W h R 1 2 (by decide) (by decide) hR
  have cT := Lib.hid fun v (W : World) h R hR => lattop_calls (nms dW) (leqF dW dP) v W h R hR
  have top : ∀ t, t < (nms dW).length → (∀ a, a < (nms dW).length → leqF dW dP a t = true) → t = 3 := fun t h1 h2 => hL.top_one h1 (by decide) h2 dia_top
  rw [if_pos (by decide), show joinS (nms dW).length (leqF dW dP) (1 : Int).toNat (2 : Int).toNat = 3 from dia_join] at cJ
  rw [if_pos (by decide), show joinS (nms dW).length (flp (leqF dW dP)) (1 : Int).toNat (2 : Int).toNat = 0 from dia_meet] at cM
  replace cJ := Lib.hid cJ
  replace cM := Lib.hid cM
  replace top := Lib.hid top
  clear hL
  go_enter Try.func8, Try.ntmps8
  go_wp2_with fail
  refine diamond_calls _ _ (Lib.hid fun v1 v2 w1 r1 r2 n1 => ?_)
  replace r1 := Lib.hid r1
  replace r2 := Lib.hid r2
  replace n1 := Lib.hid n1
  go_wp2_with fail
  refine cB.out _ _ _ r1.out r2.out _ (Lib.hid fun v w2 _ l2 n2 => ?_) (Lib.hid fun w2 h _ => absurd (show (wrongS dW dP).1 = 0 by rw [dia_ok]) h)
  have n3 := Lib.hid (n1.out.trans (n2.mono n1.out.size))
  obtain ⟨p, rfl⟩ := l2.ptr
  have l3 := Lib.hid (l2.below ((Below.refl w2.heap.size w2).alloc (Nat.le_refl _) (.cells #[.int .i64 0, .int .i64 0] 29)))
  have n4 := Lib.hid (n3.out.alloc n3.out.size (.cells #[.int .i64 0, .int .i64 0] 29))
  clear n1 n2 n3 l2 r1 r2
  go_wp2_with fail
  refine cJ.out _ _ l3.out _ (Lib.hid fun w5 n5 => ?_)
  have n6 := Lib.hid (n4.out.trans (n5.mono n4.out.size))
  have l6 := Lib.hid (l3.out.below n5)
  clear n4 n5 l3
  go_wp2_with fail
  refine cM.out _ _ l6.out _ (Lib.hid fun w7 n7 => ?_)
  have n8 := Lib.hid (n6.out.trans (n7.mono n6.out.size))
  have l8 := Lib.hid (l6.out.below n7)
  clear n6 n7 l6
  go_wp2_with fail
  refine cT.out _ _ l8.out _ (Lib.hid fun t w9 ht h2 n9 => ?_)
  obtain rfl := top.out t ht h2
  have n10 := Lib.hid (n8.out.trans (n9.mono n8.out.size))
  clear n8 n9 l8 h2 ht
  go_wp2_with fail
  exact hR.out _ n10.out
end Go.Proofs.Ytoeianacjnlepaa.Lat
