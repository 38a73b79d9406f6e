import Derived.Test.YtncijmodlhijoaaGreatQ9
import Derived.Laws.OwnMore
import Derived.Laws.MakeOwn
import Derived.Test.YtncijmodlhijoaaGreatQ7
set_option linter.unusedVariables false
set_option maxRecDepth 100000
set_option maxHeartbeats 4000000
namespace Go.Proofs.YtncijmodlhijoaaGreat.Rel
open Go.RowKit Go.Lib
theorem inLoop_none {n : Nat} {F : Nat → Nat → Bool} {K : Nat} (h : ∀ b, b < n → ¬ (K ≠ b ∧ F K b = true ∧ F b K = true)) : ¬ inLoop n F K = true := fun q => by
  obtain ⟨b, h1, h2, h3, h4⟩ := inLoop_iff.1 q
  exact h b h1 ⟨h2, h3, h4⟩
theorem relloopx_calls (n : Nat) (P : List (Nat × Nat)) (hP : InR n P) (hn : n ≤ 64) (v : Value) (w : World) (h : RelP w v n P) (R : Ending → World → Prop)
    (hR : Hid (∀ (m : Nat) w', loopS n (ld n P) = m → Below w.heap.size w w' → R (.returned (.tuple #[.int .i64 m, .bool true])) w'))
    (hR2 : Hid (∀ w', loopS n (ld n P) = -1 → Below w.heap.size w w' → R (.returned (.tuple #[.int .i64 0, .bool false])) w')) : Calls Tryz.prog 109 #[v] w R := by
  have cC := Lib.hid fun R hR => relclose_calls n P hP hn v w h R hR
  have cL := Lib.hid fun (W : World) (hb : Below w.heap.size w W) R hR => rellenx_calls n P v W (h.below hb) R hR
  obtain ⟨p, rfl⟩ := h.ptr
  clear h
  go_enter Tryz.func109, Tryz.ntmps109
  go_wp2_with fail
  refine cC.out _ (Lib.hid fun cv W rc nb => ?_)
  have cH := fun (q : Nat) (a b : Nat) (ha : a < n) (hb : b < n) R hR => relhasx_calls n (cloL n P) a b (clo_in n P) hn cv (W.drewN q) (rc.below (below_drewN (Below.refl _ _) q)) R hR
  obtain ⟨pc, rfl⟩ := rc.ptr
  have cH2 : Hid (∀ (q : Nat) (a b : Nat), a < n → b < n → ∀ B, ld n P a b = B → ∀ R, Hid (∀ m, R (.returned (.bool B)) ((W.drewN q).drewN m)) → Calls Tryz.prog 188 #[.pointer (some ⟨pc, 0, none⟩), .int .i64 (a : Nat), .int .i64 (b : Nat)] (W.drewN q) R) := Lib.hid fun q a b ha hb B hB R hR => by
    have := cH q a b ha hb R
    rw [hasQ_clo ha hb, hB] at this
    exact this hR
  have cL2 := Lib.hid fun (q : Nat) R hR => cL.out (W.drewN q) (below_drewN nb q) R hR
  have cL3 := Lib.hid fun R hR => cL.out W nb R hR
  replace nb := Lib.hid nb
  clear cH cC rc cL
  generalize ld n P = F at *
  go_wp2_with fail
  refine cL3.out _ (Lib.hid ?_)
  go_wp2_with fail
  go_loopg [11] n (fun g i wr => ∃ (K q : Nat), i = .int .i64 K ∧ K + g = n ∧ wr = W.drewN q ∧ Hid (leastF (inLoop n F) g K = loopS n F))
  case atStart => exact ⟨0, 0, rfl, by omega, rfl, Lib.hid rfl⟩
  case round =>
    obtain ⟨K, q, rfl, c1, rfl, hc⟩ := hrel
    clear cL3
    by_cases hK : K < n
    · obtain ⟨kO, rfl⟩ : ∃ k, gk = k + 1 := ⟨gk - 1, by omega⟩
      have hc2 := hc.out
      rw [leastF] at hc2
      replace hc2 := Lib.hid hc2
      clear hc
      go_wp2_with fail
      refine cL2.out q _ (Lib.hid ?_)
      go_wp2_with fail
      go_loopg [16] n (fun g i wr => ∃ (L q : Nat), i = .int .i64 L ∧ L + g = n ∧ wr = W.drewN q ∧ Hid (∀ b, b < L → ¬ (K ≠ b ∧ F K b = true ∧ F b K = true)))
      case atStart => exact ⟨0, q, rfl, by omega, rfl, Lib.hid fun b h => by omega⟩
      case round =>
        obtain ⟨L, q2, rfl, d1, rfl, hd⟩ := hrel
        by_cases hL : L < n
        · have hnext : ¬ (K ≠ L ∧ F K L = true ∧ F L K = true) → ∀ b, b < L + 1 → ¬ (K ≠ b ∧ F K b = true ∧ F b K = true) := fun h b hb => by
            rcases Nat.eq_or_lt_of_le (Nat.le_of_lt_succ hb) with e | q
            · subst e; exact h
            · exact hd.out b q
          have cA := Lib.hid (fun q => cH2.out q K L hK hL)
          have cB := Lib.hid (fun q => cH2.out q L K hL hK)
          by_cases e : K = L
          · subst e
            have hd2 := Lib.hid (hnext (fun h => h.1 rfl))
            clear hd hnext
            go_wp2_with fail
            go_roundg (gk - 1)
            case measure => omega
            case rel => exact ⟨K + 1, q2, by go_num, by omega, rfl, hd2⟩
          · have q0 : ((K : Int) != (L : Int)) = true := by simp; omega
            cases e1 : F K L
            · have hd2 := Lib.hid (hnext (fun h => by rw [e1] at h; simp at h))
              replace e1 := Lib.hid e1
              clear hd hnext
              go_wp2_with fail
              refine cA.out q2 false e1.out _ (Lib.hid fun m => ?_)
              go_wp2_with fail
              go_roundg (gk - 1)
              case measure => omega
              case rel => exact ⟨L + 1, q2 + m, by go_num, by omega, rfl, hd2⟩
            · cases e2 : F L K
              · have hd2 := Lib.hid (hnext (fun h => by rw [e2] at h; simp at h))
                replace e1 := Lib.hid e1
                replace e2 := Lib.hid e2
                clear hd hnext
                go_wp2_with fail
                refine cA.out q2 true e1.out _ (Lib.hid fun m => ?_)
                go_wp2_with fail
                refine cB.out (q2 + m) false e2.out _ (Lib.hid fun m2 => ?_)
                go_wp2_with fail
                go_roundg (gk - 1)
                case measure => omega
                case rel => exact ⟨L + 1, q2 + m + m2, by go_num, by omega, rfl, hd2⟩
              · have hin : inLoop n F K = true := inLoop_iff.2 ⟨L, hL, e, e1, e2⟩
                have e3 := hc2.out
                rw [if_pos hin] at e3
                have fin := Lib.hid fun q => hR.out K (W.drewN q) e3.symm (below_drewN nb.out q)
                replace e1 := Lib.hid e1
                replace e2 := Lib.hid e2
                clear hd hnext hin e3
                go_wp2_with fail
                refine cA.out q2 true e1.out _ (Lib.hid fun m => ?_)
                go_wp2_with fail
                refine cB.out (q2 + m) true e2.out _ (Lib.hid fun m2 => ?_)
                go_wp2_with fail
                exact fin.out _
        · obtain rfl : L = n := by omega
          have e3 := hc2.out
          rw [if_neg (inLoop_none hd.out)] at e3
          replace e3 := Lib.hid e3
          clear hd hc2
          go_wp2_with fail
          go_roundg kO
          case measure => omega
          case rel => exact ⟨K + 1, q2, by go_num, by omega, rfl, e3⟩
    · obtain rfl : gk = 0 := by omega
      have fin := Lib.hid (hR2.out _ hc.out.symm (below_drewN nb.out q))
      clear hc cH2 cL2
      go_wp2_with fail
      exact fin.out
end Go.Proofs.YtncijmodlhijoaaGreat.Rel
namespace Go.Proofs.YtncijmodlhijoaaGreat.Lat
open Go.RowKit Go.Lib Rel Nam
theorem infoU32 : (Tryz.prog.info? 268).map (fun i => (i.zero, i.size, i.bytes)) = some (some (.int .u32 0), 1, 4) := by kernel_rfl
theorem mk_u32 (n : Nat) (hn : n ≤ 1000000) : ∃ M : Array Value, M.toList = uv n (fun _ => 0) ∧
    ∀ w, (Instr.makeSlice 264 (.int .i64 n) (.int .i64 n)).run Tryz.prog w = .ok (.slice (some ⟨w.heap.size, 0, none⟩) n n) (w.alloc (.cells M 268)) := by
  obtain ⟨i0, hi, hz0, hz1, hz2⟩ := info_parts infoU32
  refine ⟨madeCells (#[.int .u32 0]) (n * 1), by rw [toList_madeCells_one, Nat.mul_one]; unfold uv; simp only [List.map_const']; rw [List.length_range]; rfl, fun w => ?_⟩
  have := run_make (P := Tryz.prog) w 264 268 i0 _ Tryz.underlying264 hi hz0 .i64 .i64 n n (by omega) (Int.le_refl _) (by rw [hz2]; omega) (by omega)
  rw [hz1] at this
  exact this
theorem grown_trans {w w' w'' : World} {row : Option Nat} (h : w.grownBy w' row) (h' : w'.grownBy w'' row) : w.grownBy w'' row :=
  ⟨h'.os.trans h.os, h'.tape.trans h.tape, h'.output.trans h.output, Nat.le_trans h.size h'.size, fun k hk hr => (h'.block k (Nat.lt_of_lt_of_le hk h.size) hr).trans (h.block k hk hr)⟩
theorem below_of_grown {B0 B : Nat} {w w' : World} (h : w.grownBy w' (some B)) (h0 : B0 ≤ B) (h1 : B0 ≤ w.heap.size) : Below B0 w w' := grown_below h h1 (fun k e => by cases e; exact h0)
theorem grown_cell {w w' : World} {B g x : Nat} {u : Value} (h : w.grownBy w' (some B)) (hg : g < w.heap.size) (hn : g ≠ B) (hc : w.cell? ⟨g, x, none⟩ = some u) : w'.cell? ⟨g, x, none⟩ = some u :=
  (World.cell?_of_block (a := ⟨g, x, none⟩) (h.block g hg (by simpa using hn))).trans hc
theorem idx32_calls (n : Nat) (f : Nat → Nat) (g c : Nat) (y : Nat) (w : World) (hn : n ≤ 32) (hca : ∀ i, i < n → w.cell? ⟨g, i, none⟩ = some (.int .u32 (f i : Nat))) (R : Ending → World → Prop)
    (hR : Hid (R (.returned (.int .i64 (idxN f n y))) w)) : Calls Tryz.prog 190 #[.slice (some ⟨g, 0, none⟩) n c, .int .u32 (y : Nat)] w R := by
  replace hca := Lib.hid hca
  go_enter Tryz.func190, Tryz.ntmps190
  go_wp2_with fail
  go_loopg [5, 8] n (fun k s5 i wr => ∃ (K : Nat), i = .int .i64 K ∧ K + k = n ∧ wr = w ∧ Hid (leastF (fun c => decide (y = f c)) k K = idxN f n y))
  case atStart => exact ⟨0, rfl, by omega, rfl, Lib.hid rfl⟩
  case round =>
    obtain ⟨K, rfl, c1, rfl, hc⟩ := hrel
    by_cases hK : K < n
    · obtain ⟨kI, rfl⟩ : ∃ k, gk = k + 1 := ⟨gk - 1, by omega⟩
      have e0 := hca.out K hK
      have h2 := hc.out
      rw [leastF] at h2
      have hi0 : (0 : Int) ≤ (K : Int) := by omega
      have hi1 : (K : Int) < (n : Int) := by omega
      by_cases e : y = f K
      · rw [if_pos (decide_eq_true e)] at h2
        have q0 : (((y : Nat) : Int) == ((f K : Nat) : Int)) = true := by rw [e]; simp
        rw [← h2] at hR
        clear hc h2 e
        generalize f K = z at *
        go_wp2_with fail
        exact hR.out
      · rw [if_neg (by simp [e])] at h2
        have q0 : (((y : Nat) : Int) == ((f K : Nat) : Int)) = false := by simp; omega
        replace h2 := Lib.hid h2
        clear hc e
        generalize f K = z at *
        go_wp2_with fail
        go_roundg kI
        case measure => omega
        case rel => exact ⟨K + 1, by go_num, by omega, rfl, h2⟩
    · obtain rfl : gk = 0 := by omega
      have h2 := hc.out
      rw [leastF] at h2
      rw [← h2] at hR
      clear hc h2
      go_wp2_with fail
      exact hR.out
abbrev OwnL (w : World) (base B : Nat) (v1 v2 : Value) (h : Nat → Int) : Prop := w.ownsRow base 116 1 (.slice (some ⟨B, 0, none⟩) 2050 2050) 2050 (latV v1 v2 h)
theorem OwnL.cell {w : World} {base B : Nat} {v1 v2 : Value} {h : Nat → Int} (ow : OwnL w base B v1 v2 h) {i : Nat} (hi : i < 2048) : w.cell? ⟨B, 2 + i, none⟩ = some (.int .i8 (h i)) := (World.ownsRow.cellAt ow (2 + i) (by omega)).trans (latV_get v1 v2 h hi)
theorem OwnL.frozen {w : World} {base B : Nat} {v1 v2 : Value} {h : Nat → Int} (ow : OwnL w base B v1 v2 h) (i : Nat) : w.frozen? ⟨B, i, none⟩ = false := World.ownsRow.frozenAt ow i
theorem OwnL.put {w : World} {base B : Nat} {v1 v2 : Value} {h : Nat → Int} (ow : OwnL w base B v1 v2 h) {i : Nat} (hi : i < 2048) (y : Int) : OwnL (w.setCell ⟨B, 2 + i, none⟩ (.int .i8 y)) base B v1 v2 (updZ h i y) ∧ w.grownBy (w.setCell ⟨B, 2 + i, none⟩ (.int .i8 y)) (some B) := by
  obtain ⟨h1, h2⟩ := World.ownsRow.stored ow (2 + i) (.int .i8 y)
  rw [latV_set v1 v2 h hi] at h1
  exact ⟨h1, h2⟩
theorem latset_calls (base B : Nat) (v1 v2 : Value) (h : Nat → Int) (w : World) (ow : OwnL w base B v1 v2 h) (q o : Nat) (ho : o = 2 + q) (hq : q = 0 ∨ q = 1024) (a b k : Nat) (ha : a < 32) (hb : b < 32) (hk : k < 32) (R : Ending → World → Prop)
    (hR : Hid (∀ w', OwnL w' base B v1 v2 (setZ h q a b k) → w.grownBy w' (some B) → R (.returned (.tuple #[])) w')) : Calls Tryz.prog 191 #[.pointer (some ⟨B, o, none⟩), .int .i64 (a : Nat), .int .i64 (b : Nat), .int .i64 (k : Nat)] w R := by
  have p1 : o + a * 32 + b = 2 + (q + (a * 32 + b)) := by omega
  have p2 : o + b * 32 + a = 2 + (q + (b * 32 + a)) := by omega
  have c1 := ow.cell (show q + (a * 32 + b) < 2048 by omega)
  have f1 := ow.frozen (2 + (q + (a * 32 + b)))
  obtain ⟨o2, g2⟩ := ow.put (show q + (a * 32 + b) < 2048 by omega) k
  have c2 := o2.cell (show q + (b * 32 + a) < 2048 by omega)
  have f2 := o2.frozen (2 + (q + (b * 32 + a)))
  obtain ⟨o3, g3⟩ := o2.put (show q + (b * 32 + a) < 2048 by omega) k
  have fin := Lib.hid (hR.out _ o3 (grown_trans g2 g3))
  rw [← p1] at c1 f1 fin c2 f2
  rw [← p2] at c2 f2 fin
  have a0 : (0 : Int) ≤ (a : Int) := by omega
  have a1 : (a : Int) < 32 := by omega
  have b0 : (0 : Int) ≤ (b : Int) := by omega
  have b1 : (b : Int) < 32 := by omega
  have k0 : (0 : Int) ≤ (k : Int) := by omega
  have k1 : (k : Int) < 32 := by omega
  clear p1 p2 o2 g2 o3 g3 ow ho hq hR
  generalize h (q + (a * 32 + b)) = y1 at *
  generalize updZ h (q + (a * 32 + b)) k (q + (b * 32 + a)) = y2 at *
  go_enter Tryz.func191, Tryz.ntmps191
  go_wp2_with fail
  refine bodyPost_ret ?_ rfl fin.out
  simp [results, Tryz.results191, go_sem]
theorem faultat_calls (s : ByteArray) (z e : Int) (w : World) (R : Ending → World → Prop) (hR : Hid (∀ w', Below w.heap.size w w' → R (.returned (.agg #[.int .i64 e, .int .i64 z])) w')) : Calls Tryz.prog 110 #[.agg #[.string s, .int .i64 z], .int .i64 e] w R := by
  go_enter Tryz.func110, Tryz.ntmps110
  go_wp2_with fail
  refine bodyPost_ret (v := .agg #[.int .i64 e, .int .i64 z]) ?_ rfl (hR.out _ ?_)
  · simp [results, Tryz.results110, go_sem]
  · exact ((Below.refl _ _).alloc (Nat.le_refl _) _).alloc (by simp) _
structure Flt (w : World) (H : Nat) (W : World) : Prop where
  nb : Below H w W
  lt : H < W.heap.size
  c0 : W.cell? ⟨H, 0, none⟩ = some (.int .i64 0)
  c1 : W.cell? ⟨H, 1, none⟩ = some (.int .i64 0)
  f0 : W.frozen? ⟨H, 0, none⟩ = false
  f1 : W.frozen? ⟨H, 1, none⟩ = false
theorem Flt.new (w : World) : Flt w w.heap.size (w.alloc (.cells #[.int .i64 0, .int .i64 0] 35)) := by
  obtain ⟨c0, c1, f0, f1⟩ := fault_new w
  exact ⟨(Below.refl _ _).alloc (Nat.le_refl _) _, by simp, c0, c1, f0, f1⟩
theorem Flt.below {w W W' : World} {H : Nat} (h : Flt w H W) (hb : Below W.heap.size W W') : Flt w H W' :=
  ⟨h.nb.trans (hb.mono (Nat.le_of_lt h.lt)), Nat.lt_of_lt_of_le h.lt hb.size, (hb.cell (p := ⟨H, 0, none⟩) h.lt).trans h.c0, (hb.cell (p := ⟨H, 1, none⟩) h.lt).trans h.c1, (hb.frozen (p := ⟨H, 0, none⟩) h.lt).trans h.f0, (hb.frozen (p := ⟨H, 1, none⟩) h.lt).trans h.f1⟩
theorem Flt.told {w W : World} {H : Nat} (h : Flt w H W) (e z : Value) : Below H w ((W.setCell ⟨H, 0, none⟩ e).setCell ⟨H, 1, none⟩ z) ∧ ((W.setCell ⟨H, 0, none⟩ e).setCell ⟨H, 1, none⟩ z).cell? ⟨H, 0, none⟩ = some e ∧ ((W.setCell ⟨H, 0, none⟩ e).setCell ⟨H, 1, none⟩ z).cell? ⟨H, 1, none⟩ = some z :=
  ⟨(h.nb.setCell (p := ⟨H, 0, none⟩) (Nat.le_refl _) e).setCell (p := ⟨H, 1, none⟩) (Nat.le_refl _) z, st_fault H W e z h.c0 h.c1⟩
def cntS (ws : List Wr) (ps : List Pr) : Int × Int := if ws.length = 0 then (15, 0) else if 32 < ws.length then (8, (wN ws 32).2) else if 256 < ps.length then (8, (pN ps 256).1.2) else (0, 0)
theorem latcounts_calls (ws : List Wr) (ps : List Pr) (vw vp : Value) (w : World) (hw : RdW w vw ws) (hp : RdPr w vp ps) (R : Ending → World → Prop)
    (hR : Hid (∀ w', Below w.heap.size w w' → R (.returned (.agg #[.int .i64 (cntS ws ps).1, .int .i64 (cntS ws ps).2])) w')) : Calls Tryz.prog 104 #[vw, vp] w R := by
  obtain ⟨Aw, cw, rfl, hcw, hrw⟩ := hw.op
  obtain ⟨Ap, cp, rfl, hcp, hrp⟩ := hp.op
  have T := Flt.new w
  replace hrw := Lib.hid hrw
  replace hrp := Lib.hid hrp
  clear hw hp
  go_enter Tryz.func104, Tryz.ntmps104
  go_upto_region 1 with fail
  generalize w.alloc (.cells #[.int .i64 0, .int .i64 0] 35) = W0 at *
  generalize hHH : w.heap.size = H at *
  replace hHH := Lib.hid hHH
  by_cases h0 : ws.length = 0
  · have e : cntS ws ps = (15, 0) := if_pos h0
    rw [e] at hR
    obtain ⟨nf, s0, s1⟩ := T.told (.int .i64 15) (.int .i64 0)
    have c0 := T.c0
    have c1 := T.c1
    have f0 := T.f0
    have f1 := T.f1
    replace nf := Lib.hid nf
    replace s0 := Lib.hid s0
    replace s1 := Lib.hid s1
    clear T e
    go_wp2_with fail
    replace s0 := s0.out
    replace s1 := s1.out
    clear c0 c1 f0 f1
    generalize (W0.setCell ⟨H, 0, none⟩ _).setCell ⟨H, 1, none⟩ _ = Wz at *
    refine bodyPost_ret ?_ rfl (hR.out _ nf.out)
    simp [results, Tryz.results104, go_sem, s0, s1]
  by_cases h1 : 32 < ws.length
  · have e : cntS ws ps = (8, (wN ws 32).2) := by unfold cntS; rw [if_neg h0, if_pos h1]
    rw [e] at hR
    obtain ⟨g, o, rfl, hg, hca⟩ := hrw.out (by omega)
    obtain ⟨x0, x1⟩ := hca 32 h1
    have e0 := (T.nb.cell (p := ⟨g, o + 32 * 2, none⟩) (by have := hHH.out; simp only; omega)).trans x0
    have e1 := (T.nb.cell (p := ⟨g, o + 32 * 2 + 1, none⟩) (by have := hHH.out; simp only; omega)).trans x1
    clear hca x0 x1 e
    generalize (wN ws 32).1 = s at *
    generalize (wN ws 32).2 = z at *
    have i1 : (32 : Int) < (ws.length : Int) := by omega
    have i2 : 32 < ws.length := by omega
    replace T := Lib.hid T
    go_wp2_with fail
    refine faultat_calls s z 8 _ _ (Lib.hid fun w3 n3 => ?_)
    have T3 := T.out.below n3
    obtain ⟨nf, s0, s1⟩ := T3.told (.int .i64 8) (.int .i64 z)
    have c0 := T3.c0
    have c1 := T3.c1
    have f0 := T3.f0
    have f1 := T3.f1
    replace nf := Lib.hid nf
    replace s0 := Lib.hid s0
    replace s1 := Lib.hid s1
    clear T3 n3 T e0 e1
    go_wp2_with fail
    replace s0 := s0.out
    replace s1 := s1.out
    clear c0 c1 f0 f1
    generalize (w3.setCell ⟨H, 0, none⟩ _).setCell ⟨H, 1, none⟩ _ = Wz at *
    refine bodyPost_ret ?_ rfl (hR.out _ nf.out)
    simp [results, Tryz.results104, go_sem, s0, s1]
  by_cases h2 : 256 < ps.length
  · have e : cntS ws ps = (8, (pN ps 256).1.2) := by unfold cntS; rw [if_neg h0, if_neg h1, if_pos h2]
    rw [e] at hR
    obtain ⟨g, o, rfl, hg, hca⟩ := hrp.out (by omega)
    obtain ⟨x0, x1, -, -⟩ := hca 256 h2
    have e0 := (T.nb.cell (p := ⟨g, o + 256 * 4, none⟩) (by have := hHH.out; simp only; omega)).trans x0
    have e1 := (T.nb.cell (p := ⟨g, o + 256 * 4 + 1, none⟩) (by have := hHH.out; simp only; omega)).trans x1
    clear hca x0 x1 e
    generalize (pN ps 256).1.1 = s at *
    generalize (pN ps 256).1.2 = z at *
    have i1 : (256 : Int) < (ps.length : Int) := by omega
    have i2 : 256 < ps.length := by omega
    replace T := Lib.hid T
    go_wp2_with fail
    refine faultat_calls s z 8 _ _ (Lib.hid fun w3 n3 => ?_)
    have T3 := T.out.below n3
    obtain ⟨nf, s0, s1⟩ := T3.told (.int .i64 8) (.int .i64 z)
    have c0 := T3.c0
    have c1 := T3.c1
    have f0 := T3.f0
    have f1 := T3.f1
    replace nf := Lib.hid nf
    replace s0 := Lib.hid s0
    replace s1 := Lib.hid s1
    clear T3 n3 T e0 e1
    go_wp2_with fail
    replace s0 := s0.out
    replace s1 := s1.out
    clear c0 c1 f0 f1
    generalize (w3.setCell ⟨H, 0, none⟩ _).setCell ⟨H, 1, none⟩ _ = Wz at *
    refine bodyPost_ret ?_ rfl (hR.out _ nf.out)
    simp [results, Tryz.results104, go_sem, s0, s1]
  · have e : cntS ws ps = (0, 0) := by unfold cntS; rw [if_neg h0, if_neg h1, if_neg h2]
    rw [e] at hR
    obtain ⟨nf, s0, s1⟩ := T.told (.int .i64 0) (.int .i64 0)
    have c0 := T.c0
    have c1 := T.c1
    have f0 := T.f0
    have f1 := T.f1
    replace nf := Lib.hid nf
    replace s0 := Lib.hid s0
    replace s1 := Lib.hid s1
    clear T e
    go_wp2_with fail
    replace s0 := s0.out
    replace s1 := s1.out
    clear c0 c1 f0 f1
    generalize (W0.setCell ⟨H, 0, none⟩ _).setCell ⟨H, 1, none⟩ _ = Wz at *
    refine bodyPost_ret ?_ rfl (hR.out _ nf.out)
    simp [results, Tryz.results104, go_sem, s0, s1]
end Go.Proofs.YtncijmodlhijoaaGreat.Lat
