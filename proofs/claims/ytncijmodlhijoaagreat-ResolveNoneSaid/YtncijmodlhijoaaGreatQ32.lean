import Derived.Test.YtncijmodlhijoaaGreatQ10
import Derived.StillTailTactics
set_option linter.unusedVariables false
set_option maxRecDepth 100000
set_option maxHeartbeats 4000000
namespace Go.Proofs.YtncijmodlhijoaaGreat.Lat
open Go.RowKit Go.Lib Rel Nam
def WA (n : Nat) (F : Nat → Nat → Bool) (K L : Nat) (f : Nat → Nat) : Prop := ∀ a, a < n → W32 (f a) ∧ ∀ b, (f a).testBit b = (decide ((a < K ∧ b < n) ∨ (a = K ∧ b < L)) && F a b)
def WB (n : Nat) (F : Nat → Nat → Bool) (K L : Nat) (f : Nat → Nat) : Prop := ∀ b, b < n → W32 (f b) ∧ ∀ a, (f b).testBit a = (decide (a < K ∨ (a = K ∧ b < L)) && F a b)
section
variable {n : Nat} {F : Nat → Nat → Bool} {K L : Nat} {f : Nat → Nat}
theorem WA.nil : WA n F 0 0 (fun _ => 0) := fun a _ => ⟨zero_w32, fun b => by rw [Nat.zero_testBit, decide_eq_false (by omega)]; rfl⟩
theorem WB.nil : WB n F 0 0 (fun _ => 0) := fun a _ => ⟨zero_w32, fun b => by rw [Nat.zero_testBit, decide_eq_false (by omega)]; rfl⟩
theorem WA.skip (h : WA n F K L f) (hF : F K L = false) : WA n F K (L + 1) f := fun a ha => ⟨(h a ha).1, fun b => by
  rw [(h a ha).2]
  by_cases e : a = K ∧ b = L
  · obtain ⟨rfl, rfl⟩ := e
    rw [hF]; simp
  · congr 1
    exact decide_eq_decide.2 (by omega)⟩
theorem WB.skip (h : WB n F K L f) (hF : F K L = false) : WB n F K (L + 1) f := fun b hb => ⟨(h b hb).1, fun a => by
  rw [(h b hb).2]
  by_cases e : a = K ∧ b = L
  · obtain ⟨rfl, rfl⟩ := e
    rw [hF]; simp
  · congr 1
    exact decide_eq_decide.2 (by omega)⟩
theorem WA.put (h : WA n F K L f) (hF : F K L = true) (hn : n ≤ 32) (hK : K < n) (hL : L < n) : WA n F K (L + 1) (upd f K (f K ||| bitN L)) := fun a ha => by
  unfold upd
  by_cases e : a = K
  · subst e
    rw [if_pos rfl]
    refine ⟨or_w32 (h a ha).1 (bit_w32 (by omega)), fun b => ?_⟩
    rw [or_bit, (h a ha).2]
    by_cases q : L = b
    · subst q
      rw [hF, decide_eq_true (show (a < a ∧ L < n) ∨ (a = a ∧ L < L + 1) from .inr ⟨rfl, by omega⟩)]
      simp
    · rw [decide_eq_false q, Bool.or_false]
      congr 1
      exact decide_eq_decide.2 (by omega)
  · rw [if_neg e]
    refine ⟨(h a ha).1, fun b => ?_⟩
    rw [(h a ha).2]
    congr 1
    exact decide_eq_decide.2 (by omega)
theorem WB.put (h : WB n F K L f) (hF : F K L = true) (hn : n ≤ 32) (hK : K < n) (hL : L < n) : WB n F K (L + 1) (upd f L (f L ||| bitN K)) := fun b hb => by
  unfold upd
  by_cases e : b = L
  · subst e
    rw [if_pos rfl]
    refine ⟨or_w32 (h b hb).1 (bit_w32 (by omega)), fun a => ?_⟩
    rw [or_bit, (h b hb).2]
    by_cases q : K = a
    · subst q
      rw [hF, decide_eq_true (show K < K ∨ (K = K ∧ b < b + 1) from .inr ⟨rfl, by omega⟩)]
      simp
    · rw [decide_eq_false q, Bool.or_false]
      congr 1
      exact decide_eq_decide.2 (by omega)
  · rw [if_neg e]
    refine ⟨(h b hb).1, fun a => ?_⟩
    rw [(h b hb).2]
    congr 1
    exact decide_eq_decide.2 (by omega)
theorem WA.next (h : WA n F K n f) : WA n F (K + 1) 0 f := fun a ha => ⟨(h a ha).1, fun b => by
  rw [(h a ha).2]
  congr 1
  exact decide_eq_decide.2 (by omega)⟩
theorem WB.next (h : WB n F K n f) : WB n F (K + 1) 0 f := fun b hb => ⟨(h b hb).1, fun a => by
  rw [(h b hb).2]
  congr 1
  exact decide_eq_decide.2 (by omega)⟩
theorem WA.fin (h : WA n F n 0 f) : Wds n F f := fun a ha => ⟨(h a ha).1, fun b => by
  rw [(h a ha).2]
  congr 1
  exact decide_eq_decide.2 (by omega)⟩
theorem WB.fin (h : WB n F n 0 f) : Wds n (flp F) f := fun b hb => ⟨(h b hb).1, fun a => by
  rw [(h b hb).2]
  unfold flp
  congr 1
  exact decide_eq_decide.2 (by omega)⟩
end
abbrev OwnU (w : World) (base B n : Nat) (f : Nat → Nat) : Prop := w.ownsRow base 268 1 (.slice (some ⟨B, 0, none⟩) n n) n (uv n f)
theorem OwnU.cell {w : World} {base B n : Nat} {f : Nat → Nat} (ow : OwnU w base B n f) {i : Nat} (hi : i < n) : w.cell? ⟨B, i, none⟩ = some (.int .u32 (f i : Nat)) := (World.ownsRow.cellAt ow i (by omega)).trans (uv_get n f hi)
theorem OwnU.put {w : World} {base B n : Nat} {f : Nat → Nat} (ow : OwnU w base B n f) (i y : Nat) : OwnU (w.setCell ⟨B, i, none⟩ (.int .u32 (y : Nat))) base B n (upd f i y) ∧ w.grownBy (w.setCell ⟨B, i, none⟩ (.int .u32 (y : Nat))) (some B) := by
  obtain ⟨h1, h2⟩ := World.ownsRow.stored ow i (.int .u32 (y : Nat))
  rw [uv_set] at h1
  exact ⟨h1, h2⟩
theorem OwnU.lt {w : World} {base B n : Nat} {f : Nat → Nat} (ow : OwnU w base B n f) (hn : 0 < n) : B < w.heap.size := by
  obtain ⟨g, c, e, -, hg, -⟩ := own_at ow hn
  simp only [Value.slice.injEq, Option.some.injEq, Addr.mk.injEq] at e
  rw [e.1.1]; exact hg
theorem OwnU.kept {w w' : World} {base B B' n : Nat} {f : Nat → Nat} (ow : OwnU w base B n f) (h : w.grownBy w' (some B')) (hne : B ≠ B') : OwnU w' base B n f := World.ownsRow.kept ow h (.inr (by simpa [Value.ownBlock] using hne))
theorem latbounds_calls (n : Nat) (Q : List (Nat × Nat)) (hQ : InR n Q) (h0 : 0 < n) (hn : n ≤ 32) (F : Nat → Nat → Bool) (hF : ∀ a b : Nat, a < n → b < n → hasQ Q (a : Nat) (b : Nat) = F a b) (v : Value) (w : World) (h : RelP w v n Q) (R : Ending → World → Prop)
    (hR : Hid (∀ g1 g2 f1 f2 w', Wds n F f1 → Wds n (flp F) f2 → w.heap.size ≤ g1 → w.heap.size ≤ g2 → (OwnU w' g1 g1 n f1) → (OwnU w' g2 g2 n f2) → Below w.heap.size w w' → R (.returned (.tuple #[.slice (some ⟨g1, 0, none⟩) n n, .slice (some ⟨g2, 0, none⟩) n n])) w')) : Calls Tryz.prog 189 #[v] w R := by
  have cL := Lib.hid fun (W : World) (hb : Below w.heap.size w W) R hR => rellenx_calls n Q v W (h.below hb) R hR
  have cH := Lib.hid fun (W : World) (hb : Below w.heap.size w W) (a b : Nat) R hR => relhasx_calls n Q a b hQ (by omega) v W (h.below hb) R hR
  obtain ⟨p, rfl⟩ := h.ptr
  obtain ⟨M, hM, hmk⟩ := mk_u32 n (by omega)
  have oA := own_made (n := n) (w := w) (t := 268) hM (uv_len _ _) (by unfold maxLen; omega)
  have oB := own_made (n := n) (w := w.alloc (.cells M 268)) (t := 268) hM (uv_len _ _) (by unfold maxLen; omega)
  have nb1 := (Below.refl w.heap.size w).alloc (Nat.le_refl _) (.cells M 268)
  have nb2 := nb1.alloc (by simp) (.cells M 268)
  have oA2 := Lib.hid (own_below oA ((Below.refl _ _).alloc (Nat.le_refl _) (.cells M 268)))
  have z1 : (w.alloc (.cells M 268)).heap.size = w.heap.size + 1 := by simp
  rw [z1] at oB
  have cL1 := Lib.hid fun R hR => cL.out w (Below.refl _ _) R hR
  have cL2 := Lib.hid fun R hR => cL.out _ nb1 R hR
  replace oB := Lib.hid oB
  replace nb1 := Lib.hid nb1
  replace nb2 := Lib.hid nb2
  replace z1 := Lib.hid z1
  replace hF := Lib.hid hF
  clear oA h hQ
  go_enter Tryz.func189, Tryz.ntmps189
  go_wp2_with fail
  refine cL1.out _ (Lib.hid ?_)
  go_wp2_with fail
  refine cL2.out _ (Lib.hid ?_)
  go_wp2_with fail
  go_loopg [14] n (fun g i wr => ∃ (K : Nat) (f1 f2 : Nat → Nat), i = .int .i64 K ∧ K + g = n ∧ Hid (Below w.heap.size w wr) ∧ Hid (OwnU wr w.heap.size w.heap.size n f1) ∧ Hid (OwnU wr (w.heap.size + 1) (w.heap.size + 1) n f2) ∧ Hid (WA n F K 0 f1) ∧ Hid (WB n F K 0 f2))
  case atStart => exact ⟨0, _, _, rfl, by omega, nb2, oA2, oB, Lib.hid WA.nil, Lib.hid WB.nil⟩
  case round =>
    obtain ⟨K, f1, f2, rfl, c1, nb, o1, o2, a1, a2⟩ := hrel
    clear nb1 nb2 oA2 oB cL1 cL2
    by_cases hK : K < n
    · obtain ⟨kO, rfl⟩ : ∃ k, gk = k + 1 := ⟨gk - 1, by omega⟩
      go_wp2_with fail
      go_loopg [19] n (fun g i wr => ∃ (L : Nat) (f1 f2 : Nat → Nat), i = .int .i64 L ∧ L + g = n ∧ Hid (Below w.heap.size w wr) ∧ Hid (OwnU wr w.heap.size w.heap.size n f1) ∧ Hid (OwnU wr (w.heap.size + 1) (w.heap.size + 1) n f2) ∧ Hid (WA n F K L f1) ∧ Hid (WB n F K L f2))
      case atStart => exact ⟨0, f1, f2, rfl, by omega, nb, o1, o2, a1, a2⟩
      case round =>
        clear nb o1 o2 a1 a2 f1 f2
        obtain ⟨L, f1, f2, rfl, d1, nb, o1, o2, a1, a2⟩ := hrel
        by_cases hL : L < n
        · have cq := cH.out wr nb.out K L
          rw [hF.out K L hK hL] at cq
          cases e : F K L
          · rw [e] at cq
            replace cq := Lib.hid cq
            have p1 := Lib.hid (a1.out.skip e)
            have p2 := Lib.hid (a2.out.skip e)
            clear e a1 a2
            go_wp2_with fail
            refine cq.out _ (Lib.hid fun m => ?_)
            have bm := below_drewN (Below.refl wr.heap.size wr) m
            have q1 := Lib.hid (own_below o1.out bm)
            have q2 := Lib.hid (own_below o2.out bm)
            have nb3 := Lib.hid (below_drewN nb.out m)
            clear bm o1 o2 nb
            go_wp2_with fail
            go_roundg (gk - 1)
            case measure => omega
            case rel => exact ⟨L + 1, f1, f2, by go_num, by omega, nb3, q1, q2, p1, p2⟩
          · rw [e] at cq
            replace cq := Lib.hid cq
            have p1 := Lib.hid (a1.out.put e hn hK hL)
            have p2 := Lib.hid (a2.out.put e hn hK hL)
            have w1 := (a1.out K hK).1
            have w2 := (a2.out L hL).1
            have e1 := bits_or32 w1 (bit_w32 (show L < 32 by omega))
            have e2 := bits_or32 w2 (bit_w32 (show K < 32 by omega))
            have e3 := wrap_bit32 (show L < 32 by omega)
            have e4 := wrap_bit32 (show K < 32 by omega)
            replace e1 := Lib.hid e1
            replace e2 := Lib.hid e2
            replace e3 := Lib.hid e3
            replace e4 := Lib.hid e4
            clear e a1 a2 w1 w2
            go_wp2_with fail
            refine cq.out _ (Lib.hid fun m => ?_)
            have bm := below_drewN (Below.refl wr.heap.size wr) m
            have q1 := own_below o1.out bm
            have q2 := own_below o2.out bm
            have nb3 := below_drewN nb.out m
            clear bm o1 o2 nb
            generalize wr.drewN m = W1 at *
            have r1 := OwnU.cell q1 hK
            have r2 := World.ownsRow.frozenAt q1 K
            replace q1 := Lib.hid q1
            replace q2 := Lib.hid q2
            replace nb3 := Lib.hid nb3
            have ik0 : (0 : Int) ≤ (K : Int) := by omega
            have ik1 : (K : Int) < (n : Int) := by omega
            have il0 : (0 : Int) ≤ (L : Int) := by omega
            have il1 : (L : Int) < (n : Int) := by omega
            have mL : min L 32 = L := by omega
            have mK : min K 32 = K := by omega
            go_wp2_with fail
            replace e1 := e1.out
            replace e3 := e3.out
            go_still_tail 8, (by kernel_rfl)
            repeat still_step
            change wpList _ _ _ _ _ W1.drew
            have q1d := q1.out.drew
            have q2d := q2.out.drew
            have nbd := nb3.out.drew
            clear r1 r2 q1 q2 nb3 e1 e3 mL
            have r3 := World.ownsRow.frozenAt q1d K
            have r4 := OwnU.cell q1d hK
            obtain ⟨o4, g4⟩ := OwnU.put q1d K (f1 K ||| bitN L)
            have o5 := OwnU.kept q2d g4 (by omega)
            have n4 := nbd.trans (below_of_grown g4 (Nat.le_refl _) nbd.size)
            replace o4 := Lib.hid o4
            replace n4 := Lib.hid n4
            replace o5 := Lib.hid o5
            clear g4 q1d q2d nbd
            generalize W1.drew = W2 at *
            generalize f1 K ||| bitN L = y1 at *
            go_wp2_with fail
            clear r3 r4
            generalize W2.setCell ⟨w.heap.size, K, none⟩ (.int .u32 (y1 : Nat)) = W3 at *
            have r1 := OwnU.cell o5.out hL
            have r2 := World.ownsRow.frozenAt o5.out L
            replace e2 := e2.out
            replace e4 := e4.out
            go_still_tail 8, (by kernel_rfl)
            repeat still_step
            change wpList _ _ _ _ _ W3.drew
            have q1d := o4.out.drew
            have q2d := o5.out.drew
            have nbd := n4.out.drew
            clear r1 r2 o4 o5 n4 e2 e4 mK
            have r3 := World.ownsRow.frozenAt q2d L
            have r4 := OwnU.cell q2d hL
            obtain ⟨o6, g6⟩ := OwnU.put q2d L (f2 L ||| bitN K)
            have o7 := OwnU.kept q1d g6 (by omega)
            have n6 := nbd.trans (below_of_grown g6 (by omega) nbd.size)
            replace o6 := Lib.hid o6
            replace n6 := Lib.hid n6
            replace o7 := Lib.hid o7
            clear g6 q1d q2d nbd
            generalize W3.drew = W4 at *
            generalize f2 L ||| bitN K = y2 at *
            go_wp2_with fail
            go_roundg (gk - 1)
            case measure => omega
            case rel => exact ⟨L + 1, _, _, by go_num, by omega, n6, o7, o6, p1, p2⟩
        · obtain rfl : L = n := by omega
          go_wp2_with fail
          go_roundg kO
          case measure => omega
          case rel => exact ⟨K + 1, f1, f2, by go_num, by omega, nb, o1, o2, Lib.hid a1.out.next, Lib.hid a2.out.next⟩
    · obtain rfl : K = n := by omega
      have fin := Lib.hid (hR.out _ _ f1 f2 _ a1.out.fin a2.out.fin (Nat.le_refl _) (by omega) o1.out o2.out nb.out)
      clear nb o1 o2 a1 a2 cH
      go_wp2_with fail
      exact fin.out
end Go.Proofs.YtncijmodlhijoaaGreat.Lat
