import Derived.Test.YtncijmodlhijoaaGreatQ38
import Derived.Test.YtncijmodlhijoaaGreatQ37
import Derived.Test.YtncijmodlhijoaaGreatQ30
import Derived.Test.YtncijmodlhijoaaGreatQ36
import Derived.Deep.Heap
import Derived.Deep.CutBlock
set_option linter.unusedVariables false
set_option maxRecDepth 100000
set_option maxHeartbeats 4000000
namespace Go.Proofs.YtncijmodlhijoaaGreat.Tok
open Go.RowKit Go.Lib Utf Ran Cel Esc Dig Nam Pat
theorem heap_setCell_in {w : World} {b : Nat} {C : Array Value} {t : TypeId} {fr : Nat × Nat} (h : w.heap[b]? = some (.cells C t fr)) (o : Nat) (v : Value) : (w.setCell ⟨b, o, none⟩ v).heap[b]? = some (.cells (C.setIfInBounds o v) t fr) := by
 show (w.heap.modify b _)[b]? = _
 rw [Array.getElem?_modify, if_pos rfl, h]
 rfl
theorem heap_setCell_out {w : World} {b c : Nat} {X : Option Obj} (h : w.heap[b]? = X) (o : Nat) (v : Value) (hne : b ≠ c) : (w.setCell ⟨c, o, none⟩ v).heap[b]? = X := (Go.Deep.blk_setCell_other w ⟨c, o, none⟩ v b hne).trans h
structure Tk4 (w : World) (H : Nat) (K k en : Int) (x : ByteArray) (n e z : Int) (W : World) : Prop where
 nb : Below H w W
 lt : H + 3 < W.heap.size
 r0 : W.heap[H]? = some (.cells #[.int .i64 0, .int .i64 0, .int .i64 0, .string ⟨#[]⟩, .int .i64 0] 212 (0, 0))
 r1 : W.heap[H + 1]? = some (.cells #[.int .i64 0, .int .i64 0] 35 (0, 0))
 r2 : W.heap[H + 2]? = some (.cells #[.int .i64 K, .int .i64 k, .int .i64 en, .string x, .int .i64 n] 212 (0, 0))
 r3 : W.heap[H + 3]? = some (.cells #[.int .i64 e, .int .i64 z] 35 (0, 0))
theorem Tk4.below {w W W' : World} {H : Nat} {K k en : Int} {x : ByteArray} {n e z : Int} (h : Tk4 w H K k en x n e z W) (hb : Below W.heap.size W W') : Tk4 w H K k en x n e z W' :=
 have l := h.lt
 ⟨h.nb.trans (hb.mono (by omega)), Nat.lt_of_lt_of_le l hb.size, (hb.block H (by omega)).trans h.r0, (hb.block (H + 1) (by omega)).trans h.r1, (hb.block (H + 2) (by omega)).trans h.r2, (hb.block (H + 3) l).trans h.r3⟩
theorem Tk4.setT {w W : World} {H : Nat} {K k en : Int} {x : ByteArray} {n e z : Int} (h : Tk4 w H K k en x n e z W) (o : Nat) (v : Value) (K' k' en' : Int) (x' : ByteArray) (n' : Int)
  (q : (#[.int .i64 K, .int .i64 k, .int .i64 en, .string x, .int .i64 n] : Array Value).setIfInBounds o v = #[.int .i64 K', .int .i64 k', .int .i64 en', .string x', .int .i64 n']) : Tk4 w H K' k' en' x' n' e z (W.setCell ⟨H + 2, o, none⟩ v) :=
 ⟨h.nb.setCell (p := ⟨H + 2, o, none⟩) (by show H ≤ H + 2; omega) v, by simpa [World.setCell] using h.lt, heap_setCell_out h.r0 o v (by omega), heap_setCell_out h.r1 o v (by omega), (heap_setCell_in h.r2 o v).trans (by rw [q]), heap_setCell_out h.r3 o v (by omega)⟩
theorem Tk4.setF {w W : World} {H : Nat} {K k en : Int} {x : ByteArray} {n e z : Int} (h : Tk4 w H K k en x n e z W) (o : Nat) (v : Value) (e' z' : Int)
  (q : (#[.int .i64 e, .int .i64 z] : Array Value).setIfInBounds o v = #[.int .i64 e', .int .i64 z']) : Tk4 w H K k en x n e' z' (W.setCell ⟨H + 3, o, none⟩ v) :=
 ⟨h.nb.setCell (p := ⟨H + 3, o, none⟩) (by show H ≤ H + 3; omega) v, by simpa [World.setCell] using h.lt, heap_setCell_out h.r0 o v (by omega), heap_setCell_out h.r1 o v (by omega), heap_setCell_out h.r2 o v (by omega), (heap_setCell_in h.r3 o v).trans (by rw [q])⟩
theorem Tk4.txt {w W : World} {H : Nat} {K k : Int} (h : Tk4 w H K k 0 ⟨#[]⟩ 0 0 0 W) (en : Int) (x : ByteArray) (e z : Int) : Tk4 w H K k en x 0 e z ((((W.setCell ⟨H + 2, 3, none⟩ (.string x)).setCell ⟨H + 2, 2, none⟩ (.int .i64 en)).setCell ⟨H + 3, 0, none⟩ (.int .i64 e)).setCell ⟨H + 3, 1, none⟩ (.int .i64 z)) :=
 (((h.setT 3 (.string x) K k 0 x 0 rfl).setT 2 (.int .i64 en) K k en x 0 rfl).setF 0 (.int .i64 e) e 0 rfl).setF 1 (.int .i64 z) e z rfl
theorem Tk4.num {w W : World} {H : Nat} {K k : Int} (h : Tk4 w H K k 0 ⟨#[]⟩ 0 0 0 W) (en n e z : Int) : Tk4 w H K k en ⟨#[]⟩ n e z ((((W.setCell ⟨H + 2, 4, none⟩ (.int .i64 n)).setCell ⟨H + 2, 2, none⟩ (.int .i64 en)).setCell ⟨H + 3, 0, none⟩ (.int .i64 e)).setCell ⟨H + 3, 1, none⟩ (.int .i64 z)) :=
 (((h.setT 4 (.int .i64 n) K k 0 ⟨#[]⟩ n rfl).setT 2 (.int .i64 en) K k en ⟨#[]⟩ n rfl).setF 0 (.int .i64 e) e 0 rfl).setF 1 (.int .i64 z) e z rfl
theorem Tk4.cells {w W : World} {H : Nat} {K k en : Int} {x : ByteArray} {n e z : Int} (h : Tk4 w H K k en x n e z W) : (W.cell? ⟨H, 0, none⟩ = some (.int .i64 0) ∧ W.cell? ⟨H, 1, none⟩ = some (.int .i64 0) ∧ W.cell? ⟨H, 2, none⟩ = some (.int .i64 0) ∧ W.cell? ⟨H, 3, none⟩ = some (.string ⟨#[]⟩) ∧ W.cell? ⟨H, 4, none⟩ = some (.int .i64 0)) ∧
  (W.cell? ⟨H + 1, 0, none⟩ = some (.int .i64 0) ∧ W.cell? ⟨H + 1, 1, none⟩ = some (.int .i64 0)) ∧
  (W.cell? ⟨H + 2, 0, none⟩ = some (.int .i64 K) ∧ W.cell? ⟨H + 2, 1, none⟩ = some (.int .i64 k) ∧ W.cell? ⟨H + 2, 2, none⟩ = some (.int .i64 en) ∧ W.cell? ⟨H + 2, 3, none⟩ = some (.string x) ∧ W.cell? ⟨H + 2, 4, none⟩ = some (.int .i64 n)) ∧
  (W.cell? ⟨H + 3, 0, none⟩ = some (.int .i64 e) ∧ W.cell? ⟨H + 3, 1, none⟩ = some (.int .i64 z)) := by
 refine ⟨⟨?_, ?_, ?_, ?_, ?_⟩, ⟨?_, ?_⟩, ⟨?_, ?_, ?_, ?_, ?_⟩, ?_, ?_⟩
 all_goals first | (rw [Lib.cell_of_heap h.r0]; rfl) | (rw [Lib.cell_of_heap h.r1]; rfl) | (rw [Lib.cell_of_heap h.r2]; rfl) | (rw [Lib.cell_of_heap h.r3]; rfl)
theorem Tk4.marks {w W : World} {H : Nat} {K k en : Int} {x : ByteArray} {n e z : Int} (h : Tk4 w H K k en x n e z W) : (∀ j, W.frozen? ⟨H, j, none⟩ = false) ∧ (∀ j, W.frozen? ⟨H + 1, j, none⟩ = false) ∧ (∀ j, W.frozen? ⟨H + 2, j, none⟩ = false) ∧ (∀ j, W.frozen? ⟨H + 3, j, none⟩ = false) :=
 ⟨fun j => Lib.frozen_of_heap h.r0 j, fun j => Lib.frozen_of_heap h.r1 j, fun j => Lib.frozen_of_heap h.r2 j, fun j => Lib.frozen_of_heap h.r3 j⟩
theorem Tk4.new (w : World) (K k : Int) : Tk4 w w.heap.size K k 0 ⟨#[]⟩ 0 0 0 ((((w.alloc (.cells #[.int .i64 0, .int .i64 0, .int .i64 0, .string ⟨#[]⟩, .int .i64 0] 212)).alloc (.cells #[.int .i64 0, .int .i64 0] 35)).alloc (.cells #[.int .i64 K, .int .i64 k, .int .i64 0, .string ⟨#[]⟩, .int .i64 0] 212)).alloc (.cells #[.int .i64 0, .int .i64 0] 35)) := by
 generalize hA : (w.alloc (.cells #[.int .i64 0, .int .i64 0, .int .i64 0, .string ⟨#[]⟩, .int .i64 0] 212)).alloc (.cells #[.int .i64 0, .int .i64 0] 35) = W
 have T := Tkb.new w
 rw [hA] at T
 have z : W.heap.size = w.heap.size + 2 := by rw [← hA]; simp
 obtain ⟨o1_, ho1_⟩ : ∃ oO_ : Obj, oO_ = .cells #[.int .i64 K, .int .i64 k, .int .i64 0, .string ⟨#[]⟩, .int .i64 0] 212 := ⟨_, rfl⟩
 have b1 := (Below.refl W.heap.size W).alloc (Nat.le_refl _) o1_
 have b2 := b1.alloc b1.size (.cells #[.int .i64 0, .int .i64 0] 35)
 obtain ⟨q1, q2⟩ := heap_two W o1_ (.cells #[.int .i64 0, .int .i64 0] 35)
 subst ho1_
 rw [z] at q1 q2
 have T2 := T.below b2
 exact ⟨T2.nb, by simp [z], T2.r0, T2.r1, q1, q2⟩
theorem kind_sig {s : ByteArray} {k : Nat} (hk : k < s.size) : 97 ≤ byN s k ∧ byN s k ≤ 122 ↔ 0 < sigS s k := by
 unfold sigS
 constructor
 ·intro h
  rw [if_pos ⟨hk, h⟩, runF_step hk (small_sign h)]
  omega
 ·intro h
  split at h
  ·rename_i q; exact q.2
  ·omega
def TkA (s : ByteArray) (k : Nat) (K en : Int) (x : ByteArray) (n e z : Int) : Prop := (e ≠ 0 → tokS s k = (zT, e, z)) ∧ (e = 0 → z = 0 ∧ tokS s k = ((K, (k : Int), en, x, n), 0, 0))
theorem kd_1 {s : ByteArray} {k : Nat} (hk : k < s.size) (h : kindN (byN s k) = 1) : 0 < sigS s k := by
 rw [← kind_sig hk]
 unfold kindN at h
 split at h
 ·assumption
 ·(repeat' split at h) <;> omega
theorem kd_2 {s : ByteArray} {k : Nat} (hk : k < s.size) (h : kindN (byN s k) = 2) : ¬ 0 < sigS s k ∧ (byN s k = 45 ∨ (48 ≤ byN s k ∧ byN s k ≤ 57)) := by
 rw [← kind_sig hk]
 unfold kindN at h
 (repeat' split at h) <;> first | omega | exact ⟨by assumption, by assumption⟩
theorem kd_3 {s : ByteArray} {k : Nat} (hk : k < s.size) (h : kindN (byN s k) = 3) : ¬ 0 < sigS s k ∧ ¬ (byN s k = 45 ∨ (48 ≤ byN s k ∧ byN s k ≤ 57)) ∧ byN s k = 34 := by
 rw [← kind_sig hk]
 unfold kindN at h
 (repeat' split at h) <;> first | omega | exact ⟨by assumption, by assumption, by assumption⟩
theorem kd_4 {s : ByteArray} {k : Nat} (hk : k < s.size) (h : kindN (byN s k) = 4) : ¬ 0 < sigS s k ∧ ¬ (byN s k = 45 ∨ (48 ≤ byN s k ∧ byN s k ≤ 57)) ∧ ¬ byN s k = 34 := by
 rw [← kind_sig hk]
 unfold kindN at h
 (repeat' split at h) <;> first | omega | exact ⟨by assumption, by assumption, by assumption⟩
theorem kd_any (c : Nat) : kindN c = 1 ∨ kindN c = 2 ∨ kindN c = 3 ∨ kindN c = 4 := by
 unfold kindN
 (repeat' split) <;> omega
theorem name_ok (s : ByteArray) (k : Nat) (hk : k < s.size) (h : kindN (byN s k) = 1) (hs : s.size ≤ 65536) (w : World) (R : Ending → World → Prop)
  (hR : Hid (∀ en x e z w', TkA s k 1 en x 0 e z → Below w.heap.size w w' → R (.returned (.tuple #[.string x, .int .i64 en, .agg #[.int .i64 e, .int .i64 z]])) w')) : Calls Tryz.prog 274 #[.string s, .int .i64 k] w R := by
 have h1 := kd_1 hk h
 refine takename_calls s k hk h1 hs w R (Lib.hid fun w' hb => ?_)
 by_cases h2 : 32 < sigS s k
 ·rw [if_pos h2]
  exact hR.out _ _ _ _ _ ⟨fun _ => by unfold tokS; rw [if_pos h1, if_pos h2], fun q => absurd q (by decide)⟩ hb
 ·rw [if_neg h2]
  exact hR.out _ _ _ _ _ ⟨fun q => absurd rfl q, fun _ => ⟨rfl, by unfold tokS; rw [if_pos h1, if_neg h2]⟩⟩ hb
theorem num_ok (s : ByteArray) (k : Nat) (hk : k < s.size) (h : kindN (byN s k) = 2) (hs : s.size ≤ 65536) (w : World) (R : Ending → World → Prop)
  (hR : Hid (∀ en n e z w', TkA s k 2 en ⟨#[]⟩ n e z → Below w.heap.size w w' → R (.returned (.tuple #[.int .i64 n, .int .i64 en, .agg #[.int .i64 e, .int .i64 z]])) w')) : Calls Tryz.prog 275 #[.string s, .int .i64 k] w R := by
 obtain ⟨h1, h2⟩ := kd_2 hk h
 refine Dig.take_calls s k (by omega) w (by omega) R (Lib.hid fun w' hb => ?_)
 rw [tkS_nat hk]
 refine hR.out _ _ _ _ _ ⟨fun q => by unfold tokS; rw [if_neg h1, if_pos h2, if_pos q], fun q => ?_⟩ hb
 have hz : (tkN s k).2.2.2 = 0 := tk_ok q
 exact ⟨hz, by unfold tokS; rw [if_neg h1, if_pos h2, if_neg (by omega)]; rfl⟩
theorem text_ok (s : ByteArray) (k : Nat) (hk : k < s.size) (h : kindN (byN s k) = 3) (hs : s.size ≤ 65536) (w : World) (R : Ending → World → Prop)
  (hR : Hid (∀ en x e z w', TkA s k 3 en x 0 e z → Below w.heap.size w w' → R (.returned (.tuple #[.string x, .int .i64 en, .agg #[.int .i64 e, .int .i64 z]])) w')) : Calls Tryz.prog 276 #[.string s, .int .i64 k] w R := by
 obtain ⟨h1, h2, h3⟩ := kd_3 hk h
 refine unquote_calls s k w (by omega) R (Lib.hid fun w' hb => ?_)
 rw [unqS_nat hk h3]
 refine hR.out _ _ _ _ _ ⟨fun q => by unfold tokS; rw [if_neg h1, if_neg h2, if_pos h3, if_pos q], fun q => ?_⟩ hb
 have hz : (unqF s (k + 1) ByteArray.empty).2.2.2 = 0 := unq_ok _ _ _ (Nat.le_refl _) q
 exact ⟨hz, by unfold tokS; rw [if_neg h1, if_neg h2, if_pos h3, if_neg (by omega)]⟩
theorem mark_ok (s : ByteArray) (k : Nat) (hk : k < s.size) (h : kindN (byN s k) = 4) (hs : s.size ≤ 65536) (w : World) (R : Ending → World → Prop)
  (hR : Hid (∀ en x e z w', TkA s k 4 en x 0 e z → Below w.heap.size w w' → R (.returned (.tuple #[.string x, .int .i64 en, .agg #[.int .i64 e, .int .i64 z]])) w')) : Calls Tryz.prog 277 #[.string s, .int .i64 k] w R := by
 obtain ⟨h1, h2, h3⟩ := kd_4 hk h
 refine takemark_calls s k hk hs w R (Lib.hid fun w' hb => ?_)
 by_cases h4 : 0 < markN s k
 ·rw [if_pos h4]
  exact hR.out _ _ _ _ _ ⟨fun q => absurd rfl q, fun _ => ⟨rfl, by unfold tokS; rw [if_neg h1, if_neg h2, if_neg h3, if_pos h4]⟩⟩ hb
 ·rw [if_neg h4]
  refine hR.out _ _ _ _ _ ⟨fun _ => ?_, fun q => ?_⟩ hb
  ·unfold tokS; rw [if_neg h1, if_neg h2, if_neg h3, if_neg h4]
   by_cases h5 : (decS s k).2.2 = false
   ·rw [if_pos h5, if_pos h5]
   ·rw [if_neg h5, if_neg h5]
  ·exfalso; revert q; split <;> decide
theorem Tk4.tkb {w W : World} {H : Nat} {K k en : Int} {x : ByteArray} {n e z : Int} (h : Tk4 w H K k en x n e z W) : Tkb w H W := ⟨h.nb, by have := h.lt; omega, h.r0, h.r1⟩
theorem toktake_calls (s : ByteArray) (k : Nat) (hk : k < s.size) (hs : s.size ≤ 65536) (w : World) (R : Ending → World → Prop)
  (hR : Hid (∀ w', Below w.heap.size w w' → R (.returned (.tuple #[tkV (tokS s k).1, .agg #[.int .i64 (tokS s k).2.1, .int .i64 (tokS s k).2.2]])) w')) : Calls Tryz.prog 211 #[.string s, .int .i64 k] w R := by
 have hg := byN_get s k hk
 have hbl := byN_lt s k
 have cK := Lib.hid fun (W : World) R hR => tkind_calls (byN s k) W R hR
 have c1 := Lib.hid fun (W : World) R h hR => name_ok s k hk h hs W R hR
 have c2 := Lib.hid fun (W : World) R h hR => num_ok s k hk h hs W R hR
 have c3 := Lib.hid fun (W : World) R h hR => text_ok s k hk h hs W R hR
 have c4 := Lib.hid fun (W : World) R h hR => mark_ok s k hk h hs W R hR
 have hK4 := kd_any (byN s k)
 have T := fun K => Tk4.new w K (k : Int)
 obtain ⟨K, hK⟩ : ∃ K, kindN (byN s k) = K := ⟨_, rfl⟩
 rw [hK] at cK c1 c2 c3 c4 hK4
 clear hK
 replace T := Lib.hid (T K)
 replace hK4 := Lib.hid hK4
 generalize byN s k = c at *
 go_enter Tryz.func211, Tryz.ntmps211
 go_wp2_with fail
 refine cK.out _ _ (Lib.hid ?_)
 go_upto_region 3 with fail
 replace T := T.out
 generalize (((w.alloc _).alloc _).alloc _).alloc _ = W0 at *
 obtain ⟨⟨-, -, -, -, -⟩, ⟨-, -⟩, ⟨k0, -, -, -, -⟩, -, -⟩ := T.cells
 replace T := Lib.hid T
 replace c1 := Lib.hid c1.out
 have hK4' := hK4.out
 clear hK4
 go_upto_block 0 with fail
 go_cut [14] (fun e wx => e = .pointer (some ⟨w.heap.size + 2, 0, none⟩) ∧ ∃ (en : Int) (x : ByteArray) (n e z : Int), Hid (Tk4 w w.heap.size K k en x n e z wx) ∧ Hid (TkA s k K en x n e z))
 case first =>
  clear hR cK
  rcases hK4' with rfl | rfl | rfl | rfl
  ·go_wp2_with fail
   refine c1.out _ _ trivial (Lib.hid fun en x e z w1 ha n1 => ?_)
   have T1 := T.out.below n1
   have TT := Lib.hid (T1.txt en x e z)
   obtain ⟨-, -, ⟨m0, m1, m2, m3, m4⟩, m5, m6⟩ := T1.cells
   obtain ⟨-, -, fz, fy⟩ := T1.marks
   have zz2 := fz 2
   have zz3 := fz 3
   have yy0 := fy 0
   have yy1 := fy 1
   replace ha := Lib.hid ha
   clear fz fy T T1 n1 c1 c2 c3 c4
   go_wp2_with fail
   go_meet
   exact ⟨rfl, en, x, 0, e, z, TT, ha⟩
  ·go_wp2_with fail
   refine c2.out _ _ trivial (Lib.hid fun en n e z w1 ha n1 => ?_)
   have T1 := T.out.below n1
   have TT := Lib.hid (T1.num en n e z)
   obtain ⟨-, -, ⟨m0, m1, m2, m3, m4⟩, m5, m6⟩ := T1.cells
   obtain ⟨-, -, fz, fy⟩ := T1.marks
   have zz2 := fz 2
   have zz4 := fz 4
   have yy0 := fy 0
   have yy1 := fy 1
   replace ha := Lib.hid ha
   clear fz fy T T1 n1 c1 c2 c3 c4
   go_wp2_with fail
   go_meet
   exact ⟨rfl, en, ⟨#[]⟩, n, e, z, TT, ha⟩
  ·go_wp2_with fail
   refine c3.out _ _ trivial (Lib.hid fun en x e z w1 ha n1 => ?_)
   have T1 := T.out.below n1
   have TT := Lib.hid (T1.txt en x e z)
   obtain ⟨-, -, ⟨m0, m1, m2, m3, m4⟩, m5, m6⟩ := T1.cells
   obtain ⟨-, -, fz, fy⟩ := T1.marks
   have zz2 := fz 2
   have zz3 := fz 3
   have yy0 := fy 0
   have yy1 := fy 1
   replace ha := Lib.hid ha
   clear fz fy T T1 n1 c1 c2 c3 c4
   go_wp2_with fail
   go_meet
   exact ⟨rfl, en, x, 0, e, z, TT, ha⟩
  ·go_wp2_with fail
   refine c4.out _ _ trivial (Lib.hid fun en x e z w1 ha n1 => ?_)
   have T1 := T.out.below n1
   have TT := Lib.hid (T1.txt en x e z)
   obtain ⟨-, -, ⟨m0, m1, m2, m3, m4⟩, m5, m6⟩ := T1.cells
   obtain ⟨-, -, fz, fy⟩ := T1.marks
   have zz2 := fz 2
   have zz3 := fz 3
   have yy0 := fy 0
   have yy1 := fy 1
   replace ha := Lib.hid ha
   clear fz fy T T1 n1 c1 c2 c3 c4
   go_wp2_with fail
   go_meet
   exact ⟨rfl, en, x, 0, e, z, TT, ha⟩
 case rest =>
  obtain ⟨rfl, en, x, n, e, z, T4, ha⟩ := hcut
  clear c1 c2 c3 c4 cK hK4' T k0
  have T5 := T4.out
  clear T4
  obtain ⟨⟨m0, m1, m2, m3, m4⟩, ⟨m5, m6⟩, ⟨d0, d1, d2, d3, d4⟩, d5, d6⟩ := T5.cells
  obtain ⟨fx, fw, fz, fy⟩ := T5.marks
  by_cases he : e = 0
  ·subst he
   obtain ⟨rfl, ht⟩ := ha.out.2 rfl
   rw [ht] at hR
   clear ha ht
   have fin := Lib.hid hR.out
   clear hR
   obtain ⟨nf, r0, r1, s00, s01, s02, s03, s04, s10, s11⟩ := T5.tkb.told (.int .i64 K) (.int .i64 k) (.int .i64 en) (.string x) (.int .i64 n) (.int .i64 0) (.int .i64 0)
   have rd := Lib.hid T5.r2
   clear T5 fx fw fz fy m0 m1 m2 m3 m4 m5 m6
   replace nf := Lib.hid nf
   replace s00 := Lib.hid s00
   replace s01 := Lib.hid s01
   replace s02 := Lib.hid s02
   replace s03 := Lib.hid s03
   replace s04 := Lib.hid s04
   replace s10 := Lib.hid s10
   replace s11 := Lib.hid s11
   replace r0 := Lib.hid r0
   replace r1 := Lib.hid r1
   go_wp2_with (first | refine wpList_store_rowTo rfl 212 _ _ rfl rfl w.heap.size (#[.int .i64 K, .int .i64 k, .int .i64 en, .string x, .int .i64 n]) rfl rfl 212 _ r0.out (by kernel_rfl) rfl (all_list rfl) ?_ | refine wpList_store_rowTo rfl 35 _ _ rfl rfl (w.heap.size + 1) (#[.int .i64 0, .int .i64 0]) rfl rfl 35 _ r1.out (by kernel_rfl) rfl (all_list rfl) ?_)
   generalize (wc.setRow w.heap.size _).setRow (w.heap.size + 1) _ = Wz at *
   replace s00 := s00.out
   replace s01 := s01.out
   replace s02 := s02.out
   replace s03 := s03.out
   replace s04 := s04.out
   replace s10 := s10.out
   replace s11 := s11.out
   refine bodyPost_ret ?_ rfl (fin.out _ nf.out)
   simp [results, Tryz.results211, go_sem, s00, s01, s02, s03, s04, s10, s11, tkV] <;> rfl
  ·have ht := ha.out.1 he
   rw [ht] at hR
   clear ha ht
   have fin := Lib.hid hR.out
   clear hR
   have q1 : (e != 0) = true := by simpa using he
   have zz0 := fx 0
   have zz1 := fx 1
   have zz2 := fx 2
   have zz3 := fx 3
   have zz4 := fx 4
   have yy0 := fw 0
   have yy1 := fw 1
   have ne0 : ¬ w.heap.size + 3 = w.heap.size := by omega
   have ne1 : ¬ w.heap.size + 3 = w.heap.size + 1 := by omega
   have ne2 : ¬ w.heap.size = w.heap.size + 3 := by omega
   have nb := Lib.hid T5.nb
   clear fx fw fz fy he T5
   go_upto_region 12 with fail
   go_region
   all_goals
    go_wp2_with fail
    refine bodyPost_ret ?_ rfl (fin.out _ ?_)
    ·simp [results, Tryz.results211, go_sem, m0, m1, m2, m3, m4, m5, m6, tkV, zT] <;> rfl
    ·exact (seven nb.out _ _ _ _ _ _ _).drew
end Go.Proofs.YtncijmodlhijoaaGreat.Tok
