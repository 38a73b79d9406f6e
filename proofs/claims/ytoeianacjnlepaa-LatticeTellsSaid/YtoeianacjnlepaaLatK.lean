/- The code of layer 11: slices.Index at words, set, bounds. -/
import Derived.Test.YtoeianacjnlepaaLatL
import Derived.Test.YtoeianacjnlepaaRelX
import Derived.Laws.OwnMore
import Derived.Laws.MakeOwn
set_option maxRecDepth 100000
set_option linter.unusedVariables false
namespace Go.Proofs.Ytoeianacjnlepaa.Lat
open Go.RowKit Go.Lib Go.Proofs.Ytoeianacjnlepaa.Rel Go.Proofs.Ytoeianacjnlepaa.Nam

theorem infoU32 : (Try.prog.info? 100).map (fun i => (i.zero, i.size, i.bytes)) = some (some (.int .u32 0), 1, 4) := by kernel_rfl
theorem mk_u32 (n : Nat) (hn : n ≤ 1000000) : ∃ M : Array Value, M.toList = uv n (fun _ => 0) ∧
    ∀ w, (Instr.makeSlice 96 (.int .i64 n) (.int .i64 n)).run Try.prog w = .ok (.slice (some ⟨w.heap.size, 0, none⟩) n n) (w.alloc (.cells M 100)) := by
  obtain ⟨i0, hi, hz0, hz1, hz2⟩ := info_parts infoU32
  refine ⟨madeCells (#[.int .u32 0]) (n * 1), by rw [toList_madeCells_one, Nat.mul_one]; unfold uv; simp only [List.map_const']; rw [List.length_range]; rfl, fun w => ?_⟩
  have := run_make (P := Try.prog) w 96 100 i0 _ Try.underlying96 hi hz0 .i64 .i64 n n (by omega) (Int.le_refl _) (by rw [hz2]; omega) (by omega)
  rw [hz1] at this
  exact this
theorem grown_trans {w w' w'' : World} {row : Option Nat} (h : w.grownBy w' row) (h' : w'.grownBy w'' row) : w.grownBy w'' row :=
  ⟨h'.os.trans h.os, h'.tape.trans h.tape, h'.output.trans h.output, Nat.le_trans h.size h'.size, fun k hk hr => (h'.block k (Nat.lt_of_lt_of_le hk h.size) hr).trans (h.block k hk hr)⟩
theorem grown_of_below {w w' : World} {row : Option Nat} (h : Below w.heap.size w w') : w.grownBy w' row := ⟨h.os, h.tape, h.output, h.size, fun k hk _ => h.block k hk⟩
theorem below_of_grown {B0 B : Nat} {w w' : World} (h : w.grownBy w' (some B)) (h0 : B0 ≤ B) (h1 : B0 ≤ w.heap.size) : Below B0 w w' := grown_below h h1 (fun k e => by cases e; exact h0)
theorem grown_cell {w w' : World} {B g x : Nat} {u : Value} (h : w.grownBy w' (some B)) (hg : g < w.heap.size) (hn : g ≠ B) (hc : w.cell? ⟨g, x, none⟩ = some u) : w'.cell? ⟨g, x, none⟩ = some u :=
  (World.cell?_of_block (a := ⟨g, x, none⟩) (h.block g hg (by simpa using hn))).trans hc

set_option maxRecDepth 100000 in
set_option maxHeartbeats 1000000 in
theorem idx32_calls (n : Nat) (f : Nat → Nat) (g c : Nat) (y : Nat) (w : World) (hn : n ≤ 32) (hca : ∀ i, i < n → w.cell? ⟨g, i, none⟩ = some (.int .u32 (f i : Nat))) (R : Ending → World → Prop)
    (hR : Hid (R (.returned (.int .i64 (idxN f n y))) w)) : Calls Try.prog 52 #[.slice (some ⟨g, 0, none⟩) n c, .int .u32 (y : Nat)] w R := by
  replace hca := Lib.hid hca
  go_enter Try.func52, Try.ntmps52
  go_wp2_with fail
  go_loopg [5, 8] n (fun k s5 i wr => ∃ (K : Nat), i = .int .i64 K ∧ K + k = n ∧ wr = w ∧ Hid (leastF (fun c => decide (y = f c)) k K = idxN f n y))
  case atStart => exact ⟨0, rfl, by omega, rfl, Lib.hid rfl⟩
  case round =>
    obtain ⟨K, rfl, c1, rfl, hc⟩ := hrel
    by_cases hK : K < n
    · obtain ⟨kI, rfl⟩ : ∃ k, gk = k + 1 := ⟨gk - 1, by omega⟩
      have e0 := hca.out K hK
      have h2 := hc.out
      rw [leastF] at h2
      have hi0 : (0 : Int) ≤ (K : Int) := by omega
      have hi1 : (K : Int) < (n : Int) := by omega
      by_cases e : y = f K
      · rw [if_pos (decide_eq_true e)] at h2
        have q0 : (((y : Nat) : Int) == ((f K : Nat) : Int)) = true := by rw [e]; simp
        rw [← h2] at hR
        clear hc h2 e
        generalize f K = z at *
        go_wp2_with fail
        exact hR.out
      · rw [if_neg (by simp [e])] at h2
        have q0 : (((y : Nat) : Int) == ((f K : Nat) : Int)) = false := by simp; omega
        replace h2 := Lib.hid h2
        clear hc e
        generalize f K = z at *
        go_wp2_with fail
        go_roundg kI
        case measure => omega
        case rel => exact ⟨K + 1, by go_num, by omega, rfl, h2⟩
    · obtain rfl : gk = 0 := by omega
      have h2 := hc.out
      rw [leastF] at h2
      rw [← h2] at hR
      clear hc h2
      go_wp2_with fail
      exact hR.out

/-- The block of a lattice of the call's own. -/
abbrev OwnL (w : World) (base B : Nat) (v1 v2 : Value) (h : Nat → Int) : Prop := w.ownsRow base 66 1 (.slice (some ⟨B, 0, none⟩) 2050 2050) 2050 (latV v1 v2 h)
theorem OwnL.cell {w : World} {base B : Nat} {v1 v2 : Value} {h : Nat → Int} (ow : OwnL w base B v1 v2 h) {i : Nat} (hi : i < 2048) : w.cell? ⟨B, 2 + i, none⟩ = some (.int .i8 (h i)) := (World.ownsRow.cellAt ow (2 + i) (by omega)).trans (latV_get v1 v2 h hi)
theorem OwnL.frozen {w : World} {base B : Nat} {v1 v2 : Value} {h : Nat → Int} (ow : OwnL w base B v1 v2 h) (i : Nat) : w.frozen? ⟨B, i, none⟩ = false := World.ownsRow.frozenAt ow i
theorem OwnL.put {w : World} {base B : Nat} {v1 v2 : Value} {h : Nat → Int} (ow : OwnL w base B v1 v2 h) {i : Nat} (hi : i < 2048) (y : Int) : OwnL (w.setCell ⟨B, 2 + i, none⟩ (.int .i8 y)) base B v1 v2 (updZ h i y) ∧ w.grownBy (w.setCell ⟨B, 2 + i, none⟩ (.int .i8 y)) (some B) := by
  obtain ⟨h1, h2⟩ := World.ownsRow.stored ow (2 + i) (.int .i8 y)
  rw [latV_set v1 v2 h hi] at h1
  exact ⟨h1, h2⟩
set_option maxRecDepth 100000 in
set_option maxHeartbeats 1000000 in
theorem latset_calls (base B : Nat) (v1 v2 : Value) (h : Nat → Int) (w : World) (ow : OwnL w base B v1 v2 h) (q o : Nat) (ho : o = 2 + q) (hq : q = 0 ∨ q = 1024) (a b k : Nat) (ha : a < 32) (hb : b < 32) (hk : k < 32) (R : Ending → World → Prop)
    (hR : Hid (∀ w', OwnL w' base B v1 v2 (setZ h q a b k) → w.grownBy w' (some B) → R (.returned (.tuple #[])) w')) : Calls Try.prog 53 #[.pointer (some ⟨B, o, none⟩), .int .i64 (a : Nat), .int .i64 (b : Nat), .int .i64 (k : Nat)] w R := by
  have p1 : o + a * 32 + b = 2 + (q + (a * 32 + b)) := by omega
  have p2 : o + b * 32 + a = 2 + (q + (b * 32 + a)) := by omega
  have c1 := ow.cell (show q + (a * 32 + b) < 2048 by omega)
  have f1 := ow.frozen (2 + (q + (a * 32 + b)))
  obtain ⟨o2, g2⟩ := ow.put (show q + (a * 32 + b) < 2048 by omega) k
  have c2 := o2.cell (show q + (b * 32 + a) < 2048 by omega)
  have f2 := o2.frozen (2 + (q + (b * 32 + a)))
  obtain ⟨o3, g3⟩ := o2.put (show q + (b * 32 + a) < 2048 by omega) k
  have fin := Lib.hid (hR.out _ o3 (grown_trans g2 g3))
  rw [← p1] at c1 f1 fin c2 f2
  rw [← p2] at c2 f2 fin
  have a0 : (0 : Int) ≤ (a : Int) := by omega
  have a1 : (a : Int) < 32 := by omega
  have b0 : (0 : Int) ≤ (b : Int) := by omega
  have b1 : (b : Int) < 32 := by omega
  have k0 : (0 : Int) ≤ (k : Int) := by omega
  have k1 : (k : Int) < 32 := by omega
  clear p1 p2 o2 g2 o3 g3 ow ho hq hR
  generalize h (q + (a * 32 + b)) = y1 at *
  generalize updZ h (q + (a * 32 + b)) k (q + (b * 32 + a)) = y2 at *
  go_enter Try.func53, Try.ntmps53
  go_wp2_with fail
  refine bodyPost_ret ?_ rfl fin.out
  simp [results, Try.results53, go_sem]
end Go.Proofs.Ytoeianacjnlepaa.Lat
