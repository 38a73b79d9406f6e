import Derived.Test.YtncijmodlhijoaaGreatQ29
import Derived.Test.YtncijmodlhijoaaGreatQ7
import Derived.Test.YtncijmodlhijoaaGreatQ31
import Derived.Test.YtncijmodlhijoaaGreatQ36
import Derived.Test.YtncijmodlhijoaaGreatQ1
import Derived.Test.YtncijmodlhijoaaGreatQ2
import Derived.StillTailTactics
import Derived.Great.BuildSlice
import Derived.Laws.CopyOwn
import Derived.Test.YtncijmodlhijoaaGreatQ6
import Derived.Test.YtncijmodlhijoaaGreatProg
import Derived.Shelf.Small.Strs
set_option linter.unusedVariables false
set_option maxRecDepth 100000
set_option maxHeartbeats 4000000
namespace Go.Proofs.YtncijmodlhijoaaGreat.Tok
open Go.RowKit Go.Lib Utf Ran Cel Esc Dig Nam Pat
theorem all_list {l : List Value} (h : l.all (·.oneCell') = true) : l.toArray.all (·.oneCell') = true := by simpa using h
theorem heap_two (w : World) (a b : Obj) : ((w.alloc a).alloc b).heap[w.heap.size]? = some a ∧ ((w.alloc a).alloc b).heap[w.heap.size + 1]? = some b := by
 constructor
 ·show ((w.heap.push a).push b)[w.heap.size]? = some a
  rw [Array.getElem?_push, if_neg (by simp), Array.getElem?_push_size]
 ·show ((w.heap.push a).push b)[w.heap.size + 1]? = some b
  rw [show w.heap.size + 1 = (w.heap.push a).size by simp, Array.getElem?_push_size]
structure Tkb (w : World) (H : Nat) (W : World) : Prop where
 nb : Below H w W
 lt : H + 1 < W.heap.size
 r0 : W.heap[H]? = some (.cells #[.int .i64 0, .int .i64 0, .int .i64 0, .string ⟨#[]⟩, .int .i64 0] 212 (0, 0))
 r1 : W.heap[H + 1]? = some (.cells #[.int .i64 0, .int .i64 0] 35 (0, 0))
theorem Tkb.new (w : World) : Tkb w w.heap.size ((w.alloc (.cells #[.int .i64 0, .int .i64 0, .int .i64 0, .string ⟨#[]⟩, .int .i64 0] 212)).alloc (.cells #[.int .i64 0, .int .i64 0] 35)) := by
 obtain ⟨o1_, ho1_⟩ : ∃ oO_ : Obj, oO_ = .cells #[.int .i64 0, .int .i64 0, .int .i64 0, .string ⟨#[]⟩, .int .i64 0] 212 := ⟨_, rfl⟩
 have b1 := (Below.refl w.heap.size w).alloc (Nat.le_refl _) o1_
 have b2 := b1.alloc b1.size (.cells #[.int .i64 0, .int .i64 0] 35)
 obtain ⟨q1, q2⟩ := heap_two w o1_ (.cells #[.int .i64 0, .int .i64 0] 35)
 subst ho1_
 exact ⟨b2, by simp, q1, q2⟩
theorem Tkb.below {w W W' : World} {H : Nat} (h : Tkb w H W) (hb : Below W.heap.size W W') : Tkb w H W' :=
 have l1 : H < W.heap.size := Nat.lt_of_succ_lt h.lt
 ⟨h.nb.trans (hb.mono (Nat.le_of_lt l1)), Nat.lt_of_lt_of_le h.lt hb.size, (hb.block H l1).trans h.r0, (hb.block (H + 1) h.lt).trans h.r1⟩
theorem Tkb.row {w W : World} {H : Nat} (h : Tkb w H W) (C D : Array Value) (hC : C.size = 5) : Below H w ((W.setRow H C).setRow (H + 1) D) ∧
  W.heap[H]? = some (.cells #[.int .i64 0, .int .i64 0, .int .i64 0, .string ⟨#[]⟩, .int .i64 0] 212 (0, 0)) ∧
  (W.setRow H C).heap[H + 1]? = some (.cells #[.int .i64 0, .int .i64 0] 35 (0, 0)) ∧
  (∀ j, ((W.setRow H C).setRow (H + 1) D).cell? ⟨H, j, none⟩ = C[j]?) ∧ (∀ j, ((W.setRow H C).setRow (H + 1) D).cell? ⟨H + 1, j, none⟩ = D[j]?) := by
 have r1 := (setRow_other W H (H + 1) C (by omega)).trans h.r1
 refine ⟨Ran.below_setRow (Ran.below_setRow h.nb (Nat.le_refl _) C) (Nat.le_succ _) D, h.r0, r1, fun j => ?_, fun j => cell_setRow_same _ _ j _ D _ _ r1⟩
 exact (cell_setRow_other _ _ D _ (by simp)).trans (cell_setRow_same _ _ j _ C _ _ h.r0)
theorem Tkb.told {w W : World} {H : Nat} (h : Tkb w H W) (a0 a1 a2 a3 a4 b0 b1 : Value) : Below H w ((W.setRow H #[a0, a1, a2, a3, a4]).setRow (H + 1) #[b0, b1]) ∧
  W.heap[H]? = some (.cells #[.int .i64 0, .int .i64 0, .int .i64 0, .string ⟨#[]⟩, .int .i64 0] 212 (0, 0)) ∧
  (W.setRow H #[a0, a1, a2, a3, a4]).heap[H + 1]? = some (.cells #[.int .i64 0, .int .i64 0] 35 (0, 0)) ∧
  ((W.setRow H #[a0, a1, a2, a3, a4]).setRow (H + 1) #[b0, b1]).cell? ⟨H, 0, none⟩ = some a0 ∧ ((W.setRow H #[a0, a1, a2, a3, a4]).setRow (H + 1) #[b0, b1]).cell? ⟨H, 1, none⟩ = some a1 ∧
  ((W.setRow H #[a0, a1, a2, a3, a4]).setRow (H + 1) #[b0, b1]).cell? ⟨H, 2, none⟩ = some a2 ∧ ((W.setRow H #[a0, a1, a2, a3, a4]).setRow (H + 1) #[b0, b1]).cell? ⟨H, 3, none⟩ = some a3 ∧
  ((W.setRow H #[a0, a1, a2, a3, a4]).setRow (H + 1) #[b0, b1]).cell? ⟨H, 4, none⟩ = some a4 ∧ ((W.setRow H #[a0, a1, a2, a3, a4]).setRow (H + 1) #[b0, b1]).cell? ⟨H + 1, 0, none⟩ = some b0 ∧
  ((W.setRow H #[a0, a1, a2, a3, a4]).setRow (H + 1) #[b0, b1]).cell? ⟨H + 1, 1, none⟩ = some b1 := by
 obtain ⟨h1, h2, h3, h4, h5⟩ := h.row #[a0, a1, a2, a3, a4] #[b0, b1] rfl
 exact ⟨h1, h2, h3, h4 0, h4 1, h4 2, h4 3, h4 4, h5 0, h5 1⟩
theorem Tkb.cells {w W : World} {H : Nat} (h : Tkb w H W) : W.cell? ⟨H, 0, none⟩ = some (.int .i64 0) ∧ W.cell? ⟨H, 1, none⟩ = some (.int .i64 0) ∧ W.cell? ⟨H, 2, none⟩ = some (.int .i64 0) ∧ W.cell? ⟨H, 3, none⟩ = some (.string ⟨#[]⟩) ∧ W.cell? ⟨H, 4, none⟩ = some (.int .i64 0) ∧
  W.cell? ⟨H + 1, 0, none⟩ = some (.int .i64 0) ∧ W.cell? ⟨H + 1, 1, none⟩ = some (.int .i64 0) ∧ (∀ j, W.frozen? ⟨H, j, none⟩ = false) ∧ (∀ j, W.frozen? ⟨H + 1, j, none⟩ = false) := by
 refine ⟨?_, ?_, ?_, ?_, ?_, ?_, ?_, fun j => Lib.frozen_of_heap h.r0 j, fun j => Lib.frozen_of_heap h.r1 j⟩
 ·rw [Lib.cell_of_heap h.r0]; rfl
 ·rw [Lib.cell_of_heap h.r0]; rfl
 ·rw [Lib.cell_of_heap h.r0]; rfl
 ·rw [Lib.cell_of_heap h.r0]; rfl
 ·rw [Lib.cell_of_heap h.r0]; rfl
 ·rw [Lib.cell_of_heap h.r1]; rfl
 ·rw [Lib.cell_of_heap h.r1]; rfl
theorem seven {H : Nat} {w W : World} (nb : Below H w W) (a0 a1 a2 a3 a4 b0 b1 : Value) : Below H w (((((((W.setCell ⟨H, 0, none⟩ a0).setCell ⟨H, 1, none⟩ a1).setCell ⟨H, 2, none⟩ a2).setCell ⟨H, 3, none⟩ a3).setCell ⟨H, 4, none⟩ a4).setCell ⟨H + 1, 0, none⟩ b0).setCell ⟨H + 1, 1, none⟩ b1) :=
 ((((((nb.setCell (p := ⟨H, 0, none⟩) (Nat.le_refl _) _).setCell (p := ⟨H, 1, none⟩) (Nat.le_refl _) _).setCell (p := ⟨H, 2, none⟩) (Nat.le_refl _) _).setCell (p := ⟨H, 3, none⟩) (Nat.le_refl _) _).setCell (p := ⟨H, 4, none⟩) (Nat.le_refl _) _).setCell (p := ⟨H + 1, 0, none⟩) (Nat.le_succ _) _).setCell (p := ⟨H + 1, 1, none⟩) (Nat.le_succ _) _
theorem box_f (w : World) (a b : Value) (t : TypeId) : (w.alloc (.cells #[a, b] t)).cell? ⟨w.heap.size, 0, none⟩ = some a ∧ (w.alloc (.cells #[a, b] t)).cell? ⟨w.heap.size, 1, none⟩ = some b := by
 have q1 := heap_alloc_new w (.cells #[a, b] t)
 exact ⟨by rw [Lib.cell_of_heap q1]; rfl, by rw [Lib.cell_of_heap q1]; rfl⟩
theorem tkS_nat {s : ByteArray} {i : Nat} (h : i < s.size) : tkS s i = tkN s i := by unfold tkS; rw [if_neg (by omega)]; rfl
theorem unqS_nat {s : ByteArray} {i : Nat} (h : i < s.size) (h2 : byN s i = 34) : unqS s i = unqF s (i + 1) ByteArray.empty := by
 unfold unqS
 rw [if_neg (by omega), if_neg (by omega), Int.toNat_natCast, if_neg (by omega)]
theorem tk_ok {s : ByteArray} {i : Nat} (h : (tkN s i).2.2.1 = 0) : (tkN s i).2.2.2 = 0 := by
 have key : ∀ (neg : Bool) (D : List Int) (c : Nat) (e : Bool) (i f : Int), (tkC neg D c e i f).2.2.1 = 0 → (tkC neg D c e i f).2.2.2 = 0 := by
  intro neg D c e i f
  unfold tkC
  (repeat' split) <;> simp
 rw [tkN_c] at h ⊢
 split at h
 ·rw [if_pos (by assumption)]; exact key _ _ _ _ _ _ h
 ·rw [if_neg (by assumption)]; exact key _ _ _ _ _ _ h
theorem unq_ok {s : ByteArray} : ∀ (k i : Nat) (acc : ByteArray), s.size - i ≤ k → (unqF s i acc).2.2.1 = 0 → (unqF s i acc).2.2.2 = 0
 | 0, i, acc, h, h0 => by rw [unqF_end acc (by omega)] at h0; simp at h0
 | k + 1, i, acc, h, h0 => by
  by_cases hi : i < s.size
  ·have hb := den_bd s i hi
   rw [unqF_step acc hi] at h0 ⊢
   by_cases h3 : byN s i = 34
   ·rw [if_pos h3]
   rw [if_neg h3] at h0 ⊢
   by_cases h4 : (denS s i).1 ≠ 0
   ·rw [if_pos h4] at h0; exact absurd h0 h4
   ·rw [if_neg h4] at h0 ⊢
    have h5 := hb.2.2.2.1 (by omega)
    exact unq_ok k _ _ (by omega) h0
  ·rw [unqF_end acc (by omega)] at h0; simp at h0
theorem refone13_calls (s : ByteArray) (k : Nat) (hk : k < s.size) (hs : s.size ≤ 65536) (w : World) (R : Ending → World → Prop)
  (hR : Hid (∀ w', Below w.heap.size w w' → R (.returned (.tuple #[tkV (tokS s k).1, .agg #[.int .i64 (tokS s k).2.1, .int .i64 (tokS s k).2.2]])) w')) : Calls Tryz.prog 140 #[.string s, .int .i64 k] w R := by
 have hg := byN_get s k hk
 have hbl := byN_lt s k
 have cS := Lib.hid fun (W : World) R hR => signs_calls s k hk (by unfold maxLen; omega) W R hR
 have cT := Lib.hid fun (W : World) R hR => reftake_calls s k (by omega) W (by omega) R hR
 have cU := Lib.hid fun (W : World) R hR => refunq_calls s k (by omega) W (by omega) R hR
 have cM := Lib.hid fun (W : World) R hR => refmark13_calls s k (by unfold maxLen; omega) W R (by omega) hR
 have cD := Lib.hid fun (W : World) R hR => refdec_calls s k W (by unfold maxLen; omega) R hR
 have T := Tkb.new w
 have hl := sig_len hk
 unfold tokS at hR
 go_enter Tryz.func140, Tryz.ntmps140
 go_upto_region 1 with fail
 generalize (w.alloc (.cells #[.int .i64 0, .int .i64 0, .int .i64 0, .string ⟨#[]⟩, .int .i64 0] 212)).alloc (.cells #[.int .i64 0, .int .i64 0] 35) = W0 at *
 by_cases h1 : 0 < sigS s k
 ·rw [if_pos h1] at hR
  clear cT cU cM cD
  by_cases h2 : 32 < sigS s k
  ·rw [if_pos h2] at hR
   have fin := Lib.hid hR.out
   generalize sigS s k = n at *
   clear hR
   obtain ⟨nf, r0, r1, s00, s01, s02, s03, s04, s10, s11⟩ := T.told (.int .i64 0) (.int .i64 0) (.int .i64 0) (.string ⟨#[]⟩) (.int .i64 0) (.int .i64 9) (.int .i64 k)
   replace nf := Lib.hid nf
   replace s00 := Lib.hid s00
   replace s01 := Lib.hid s01
   replace s02 := Lib.hid s02
   replace s03 := Lib.hid s03
   replace s04 := Lib.hid s04
   replace s10 := Lib.hid s10
   replace s11 := Lib.hid s11
   replace r0 := Lib.hid r0
   replace r1 := Lib.hid r1
   clear T
   go_wp2_with fail
   refine cS.out _ _ (Lib.hid ?_)
   go_wp2_with (first | refine wpList_store_rowTo rfl 212 _ _ rfl rfl w.heap.size (#[.int .i64 0, .int .i64 0, .int .i64 0, .string ⟨#[]⟩, .int .i64 0]) rfl rfl 212 _ r0.out (by kernel_rfl) rfl (all_list rfl) ?_ | refine wpList_store_rowTo rfl 35 _ _ rfl rfl (w.heap.size + 1) (#[.int .i64 9, .int .i64 k]) rfl rfl 35 _ r1.out (by kernel_rfl) rfl (all_list rfl) ?_)
   generalize (W0.setRow w.heap.size _).setRow (w.heap.size + 1) _ = Wz at *
   replace s00 := s00.out
   replace s01 := s01.out
   replace s02 := s02.out
   replace s03 := s03.out
   replace s04 := s04.out
   replace s10 := s10.out
   replace s11 := s11.out
   refine bodyPost_ret ?_ rfl (fin.out _ nf.out)
   simp [results, Tryz.results140, go_sem, s00, s01, s02, s03, s04, s10, s11, tkV, zT] <;> rfl
  ·rw [if_neg h2] at hR
   have fin := Lib.hid hR.out
   have hc : ((k + sigS s k : Nat) : Int) = (k : Int) + (sigS s k : Int) := by omega
   rw [hc] at fin
   generalize sigS s k = n at *
   clear hR hc
   obtain ⟨nf, r0, r1, s00, s01, s02, s03, s04, s10, s11⟩ := T.told (.int .i64 1) (.int .i64 k) (.int .i64 ((k : Int) + (n : Int))) (.string (s.extract k (k + n))) (.int .i64 0) (.int .i64 0) (.int .i64 0)
   replace nf := Lib.hid nf
   replace s00 := Lib.hid s00
   replace s01 := Lib.hid s01
   replace s02 := Lib.hid s02
   replace s03 := Lib.hid s03
   replace s04 := Lib.hid s04
   replace s10 := Lib.hid s10
   replace s11 := Lib.hid s11
   replace r0 := Lib.hid r0
   replace r1 := Lib.hid r1
   clear T
   go_wp2_with fail
   refine cS.out _ _ (Lib.hid ?_)
   go_wp2_with (first | refine wpList_store_rowTo rfl 212 _ _ rfl rfl w.heap.size (#[.int .i64 1, .int .i64 k, .int .i64 ((k : Int) + (n : Int)), .string (s.extract k (k + n)), .int .i64 0]) rfl rfl 212 _ r0.out (by kernel_rfl) rfl (all_list rfl) ?_ | refine wpList_store_rowTo rfl 35 _ _ rfl rfl (w.heap.size + 1) (#[.int .i64 0, .int .i64 0]) rfl rfl 35 _ r1.out (by kernel_rfl) rfl (all_list rfl) ?_)
   generalize (W0.setRow w.heap.size _).setRow (w.heap.size + 1) _ = Wz at *
   replace s00 := s00.out
   replace s01 := s01.out
   replace s02 := s02.out
   replace s03 := s03.out
   replace s04 := s04.out
   replace s10 := s10.out
   replace s11 := s11.out
   refine bodyPost_ret ?_ rfl (fin.out _ nf.out)
   simp [results, Tryz.results140, go_sem, s00, s01, s02, s03, s04, s10, s11, tkV] <;> rfl
 have h1' : sigS s k = 0 := by omega
 rw [if_neg h1] at hR
 rw [h1'] at cS
 clear h1 h1' hl
 by_cases h2 : byN s k = 45 ∨ (48 ≤ byN s k ∧ byN s k ≤ 57)
 ·rw [if_pos h2] at hR
  clear cU cM cD
  have cT2 := cT.out
  rw [tkS_nat hk] at cT2
  have hok := tk_ok (s := s) (i := k)
  generalize tkN s k = U at *
  obtain ⟨x, en, e, z⟩ := U
  simp only [tkT] at cT2 hR hok
  have cT3 := Lib.hid (cT2 W0)
  clear cT cT2
  generalize byN s k = c at *
  have hcs : ((c : Int) == 45) = true ∨ (((c : Int) == 45) = false ∧ (48 : Int) ≤ c ∧ (c : Int) ≤ 57) := by
   by_cases h : c = 45
   ·exact .inl (by simp [h])
   ·exact .inr ⟨by simp; omega, by omega, by omega⟩
  clear h2
  by_cases he : e ≠ 0
  ·rw [if_pos he] at hR
   have fin := Lib.hid hR.out
   have q1 : (e != 0) = true := by simpa using he
   clear hR hok he
   rcases hcs with hc | ⟨hc, hc1, hc2⟩
   ·go_wp2_with fail
    refine cS.out _ _ (Lib.hid ?_)
    go_wp2_with fail
    refine cT3.out _ (Lib.hid fun w1 n1 => ?_)
    have T3 := T.below n1
    have bA := (Below.refl w1.heap.size w1).alloc (Nat.le_refl _) (.cells #[.int .i64 e, .int .i64 z] 35)
    have T4 := T3.below bA
    obtain ⟨k0, k1⟩ := box_f w1 (.int .i64 e) (.int .i64 z) 35
    have hB : w.heap.size + 1 < w1.heap.size := T3.lt
    replace T4 := Lib.hid T4
    clear T T3 n1 bA
    go_wp2_with fail
    generalize w1.alloc (.cells #[.int .i64 e, .int .i64 z] 35) = W4 at *
    obtain ⟨m0, m1, m2, m3, m4, m5, m6, fz, fy⟩ := T4.out.cells
    have zz0 := fz 0
    have zz1 := fz 1
    have zz2 := fz 2
    have zz3 := fz 3
    have zz4 := fz 4
    have yy0 := fy 0
    have yy1 := fy 1
    have ne0 : ¬ w1.heap.size = w.heap.size := by omega
    have ne1 : ¬ w1.heap.size = w.heap.size + 1 := by omega
    have ne2 : ¬ w.heap.size = w1.heap.size := by omega
    clear fz fy
    go_region
    all_goals
     go_wp2_with fail
     refine bodyPost_ret ?_ rfl (fin.out _ ?_)
     ·simp [results, Tryz.results140, go_sem, m0, m1, m2, m3, m4, m5, m6, tkV, zT] <;> rfl
     ·exact (seven T4.out.nb _ _ _ _ _ _ _).drew
   ·go_wp2_with fail
    refine cS.out _ _ (Lib.hid ?_)
    go_wp2_with fail
    refine cT3.out _ (Lib.hid fun w1 n1 => ?_)
    have T3 := T.below n1
    have bA := (Below.refl w1.heap.size w1).alloc (Nat.le_refl _) (.cells #[.int .i64 e, .int .i64 z] 35)
    have T4 := T3.below bA
    obtain ⟨k0, k1⟩ := box_f w1 (.int .i64 e) (.int .i64 z) 35
    have hB : w.heap.size + 1 < w1.heap.size := T3.lt
    replace T4 := Lib.hid T4
    clear T T3 n1 bA
    go_wp2_with fail
    generalize w1.alloc (.cells #[.int .i64 e, .int .i64 z] 35) = W4 at *
    obtain ⟨m0, m1, m2, m3, m4, m5, m6, fz, fy⟩ := T4.out.cells
    have zz0 := fz 0
    have zz1 := fz 1
    have zz2 := fz 2
    have zz3 := fz 3
    have zz4 := fz 4
    have yy0 := fy 0
    have yy1 := fy 1
    have ne0 : ¬ w1.heap.size = w.heap.size := by omega
    have ne1 : ¬ w1.heap.size = w.heap.size + 1 := by omega
    have ne2 : ¬ w.heap.size = w1.heap.size := by omega
    clear fz fy
    go_region
    all_goals
     go_wp2_with fail
     refine bodyPost_ret ?_ rfl (fin.out _ ?_)
     ·simp [results, Tryz.results140, go_sem, m0, m1, m2, m3, m4, m5, m6, tkV, zT] <;> rfl
     ·exact (seven T4.out.nb _ _ _ _ _ _ _).drew
  ·rw [if_neg he] at hR
   obtain rfl : e = 0 := by omega
   obtain rfl : z = 0 := hok rfl
   have fin := Lib.hid hR.out
   clear hR hok he
   rcases hcs with hc | ⟨hc, hc1, hc2⟩
   ·go_wp2_with fail
    refine cS.out _ _ (Lib.hid ?_)
    go_wp2_with fail
    refine cT3.out _ (Lib.hid fun w1 n1 => ?_)
    have T3 := T.below n1
    have bA := (Below.refl w1.heap.size w1).alloc (Nat.le_refl _) (.cells #[.int .i64 0, .int .i64 0] 35)
    have T4 := T3.below bA
    obtain ⟨k0, k1⟩ := box_f w1 (.int .i64 0) (.int .i64 0) 35
    have hB : w.heap.size + 1 < w1.heap.size := T3.lt
    replace T4 := Lib.hid T4
    clear T T3 n1 bA
    go_wp2_with fail
    generalize w1.alloc (.cells #[.int .i64 0, .int .i64 0] 35) = W4 at *
    obtain ⟨m0, m1, m2, m3, m4, m5, m6, fz, fy⟩ := T4.out.cells
    have zz0 := fz 0
    have zz1 := fz 1
    have zz2 := fz 2
    have zz3 := fz 3
    have zz4 := fz 4
    have yy0 := fy 0
    have yy1 := fy 1
    have ne0 : ¬ w1.heap.size = w.heap.size := by omega
    have ne1 : ¬ w1.heap.size = w.heap.size + 1 := by omega
    have ne2 : ¬ w.heap.size = w1.heap.size := by omega
    clear fz fy
    go_region
    all_goals
     go_wp2_with fail
     refine bodyPost_ret ?_ rfl (fin.out _ ?_)
     ·simp [results, Tryz.results140, go_sem, m0, m1, m2, m3, m4, m5, m6, tkV] <;> rfl
     ·exact (seven T4.out.nb _ _ _ _ _ _ _).drew
   ·go_wp2_with fail
    refine cS.out _ _ (Lib.hid ?_)
    go_wp2_with fail
    refine cT3.out _ (Lib.hid fun w1 n1 => ?_)
    have T3 := T.below n1
    have bA := (Below.refl w1.heap.size w1).alloc (Nat.le_refl _) (.cells #[.int .i64 0, .int .i64 0] 35)
    have T4 := T3.below bA
    obtain ⟨k0, k1⟩ := box_f w1 (.int .i64 0) (.int .i64 0) 35
    have hB : w.heap.size + 1 < w1.heap.size := T3.lt
    replace T4 := Lib.hid T4
    clear T T3 n1 bA
    go_wp2_with fail
    generalize w1.alloc (.cells #[.int .i64 0, .int .i64 0] 35) = W4 at *
    obtain ⟨m0, m1, m2, m3, m4, m5, m6, fz, fy⟩ := T4.out.cells
    have zz0 := fz 0
    have zz1 := fz 1
    have zz2 := fz 2
    have zz3 := fz 3
    have zz4 := fz 4
    have yy0 := fy 0
    have yy1 := fy 1
    have ne0 : ¬ w1.heap.size = w.heap.size := by omega
    have ne1 : ¬ w1.heap.size = w.heap.size + 1 := by omega
    have ne2 : ¬ w.heap.size = w1.heap.size := by omega
    clear fz fy
    go_region
    all_goals
     go_wp2_with fail
     refine bodyPost_ret ?_ rfl (fin.out _ ?_)
     ·simp [results, Tryz.results140, go_sem, m0, m1, m2, m3, m4, m5, m6, tkV] <;> rfl
     ·exact (seven T4.out.nb _ _ _ _ _ _ _).drew
 rw [if_neg h2] at hR
 have hc : ((byN s k : Int) == 45) = false := by simp; omega
 have hcs : (byN s k : Int) < 48 ∨ (48 ≤ (byN s k : Int) ∧ ¬ (byN s k : Int) ≤ 57) := by omega
 clear h2 cT
 by_cases h3 : byN s k = 34
 ·rw [if_pos h3] at hR
  clear cM cD
  have cU2 := cU.out
  rw [unqS_nat hk h3] at cU2
  have hok := unq_ok (s := s) _ (k + 1) ByteArray.empty (Nat.le_refl _)
  generalize unqF s (k + 1) ByteArray.empty = U at *
  obtain ⟨x, en, e, z⟩ := U
  simp only at cU2 hR hok
  have cU3 := Lib.hid (cU2 W0)
  clear cU cU2
  rw [h3] at hg hc hcs
  have hcs2 : (34 : Int) < 48 := by decide
  clear h3 hbl hcs
  by_cases he : e ≠ 0
  ·rw [if_pos he] at hR
   have fin := Lib.hid hR.out
   have q1 : (e != 0) = true := by simpa using he
   clear hR hok he
   go_wp2_with fail
   refine cS.out _ _ (Lib.hid ?_)
   go_wp2_with fail
   refine cU3.out _ (Lib.hid fun w1 n1 => ?_)
   have T3 := T.below n1
   have bA := (Below.refl w1.heap.size w1).alloc (Nat.le_refl _) (.cells #[.int .i64 e, .int .i64 z] 35)
   have T4 := T3.below bA
   obtain ⟨k0, k1⟩ := box_f w1 (.int .i64 e) (.int .i64 z) 35
   have hB : w.heap.size + 1 < w1.heap.size := T3.lt
   replace T4 := Lib.hid T4
   clear T T3 n1 bA
   go_wp2_with fail
   generalize w1.alloc (.cells #[.int .i64 e, .int .i64 z] 35) = W4 at *
   obtain ⟨m0, m1, m2, m3, m4, m5, m6, fz, fy⟩ := T4.out.cells
   have zz0 := fz 0
   have zz1 := fz 1
   have zz2 := fz 2
   have zz3 := fz 3
   have zz4 := fz 4
   have yy0 := fy 0
   have yy1 := fy 1
   have ne0 : ¬ w1.heap.size = w.heap.size := by omega
   have ne1 : ¬ w1.heap.size = w.heap.size + 1 := by omega
   have ne2 : ¬ w.heap.size = w1.heap.size := by omega
   clear fz fy
   go_region
   all_goals
    go_wp2_with fail
    refine bodyPost_ret ?_ rfl (fin.out _ ?_)
    ·simp [results, Tryz.results140, go_sem, m0, m1, m2, m3, m4, m5, m6, tkV, zT] <;> rfl
    ·exact (seven T4.out.nb _ _ _ _ _ _ _).drew
  ·rw [if_neg he] at hR
   obtain rfl : e = 0 := by omega
   obtain rfl : z = 0 := hok rfl
   have fin := Lib.hid hR.out
   clear hR hok he
   go_wp2_with fail
   refine cS.out _ _ (Lib.hid ?_)
   go_wp2_with fail
   refine cU3.out _ (Lib.hid fun w1 n1 => ?_)
   have T3 := T.below n1
   have bA := (Below.refl w1.heap.size w1).alloc (Nat.le_refl _) (.cells #[.int .i64 0, .int .i64 0] 35)
   have T4 := T3.below bA
   obtain ⟨k0, k1⟩ := box_f w1 (.int .i64 0) (.int .i64 0) 35
   have hB : w.heap.size + 1 < w1.heap.size := T3.lt
   replace T4 := Lib.hid T4
   clear T T3 n1 bA
   go_wp2_with fail
   generalize w1.alloc (.cells #[.int .i64 0, .int .i64 0] 35) = W4 at *
   obtain ⟨m0, m1, m2, m3, m4, m5, m6, fz, fy⟩ := T4.out.cells
   have zz0 := fz 0
   have zz1 := fz 1
   have zz2 := fz 2
   have zz3 := fz 3
   have zz4 := fz 4
   have yy0 := fy 0
   have yy1 := fy 1
   have ne0 : ¬ w1.heap.size = w.heap.size := by omega
   have ne1 : ¬ w1.heap.size = w.heap.size + 1 := by omega
   have ne2 : ¬ w.heap.size = w1.heap.size := by omega
   clear fz fy
   go_region
   all_goals
    go_wp2_with fail
    refine bodyPost_ret ?_ rfl (fin.out _ ?_)
    ·simp [results, Tryz.results140, go_sem, m0, m1, m2, m3, m4, m5, m6, tkV] <;> rfl
    ·exact (seven T4.out.nb _ _ _ _ _ _ _).drew
 rw [if_neg h3] at hR
 have hc3 : ((byN s k : Int) == 34) = false := by simp; omega
 generalize byN s k = c at *
 clear h3 cU
 have cM2 := cM.out W0
 rw [markS_nat] at cM2
 have hml := mark_len (s := s) (i := k) (by omega)
 by_cases h4 : 0 < markN s k
 ·rw [if_pos h4] at hR
  have fin := Lib.hid hR.out
  have hz : (s.extract k (k + markN s k)).size = markN s k := by rw [ByteArray.size_extract]; omega
  have hk2 : ((k + markN s k : Nat) : Int) = (k : Int) + ((s.extract k (k + markN s k)).size : Int) := by omega
  rw [hk2] at fin
  generalize s.extract k (k + markN s k) = X at *
  have hX0 : 0 < X.size := by omega
  have hXe : X.toList.isEmpty = false := Nam.isE_pos hX0
  have hXn : ¬ X.toList = [] := fun h => by rw [h] at hXe; simp at hXe
  have hXne : X ≠ ⟨#[]⟩ := fun h => by rw [h] at hX0; exact absurd hX0 (by decide)
  replace cM2 := Lib.hid cM2
  have hXs : X.size ≤ 65536 := by omega
  clear hR hk2 hml hz h4 cD cM
  rcases hcs with hcs | ⟨hcs, hcs2⟩
  ·go_wp2_with fail
   refine cS.out _ _ (Lib.hid ?_)
   go_wp2_with fail
   refine cM2.out _ (Lib.hid fun w1 n1 => ?_)
   have T5 := T.below n1
   clear T n1
   obtain ⟨nf, r0, r1, s00, s01, s02, s03, s04, s10, s11⟩ := T5.told (.int .i64 4) (.int .i64 k) (.int .i64 ((k : Int) + (X.size : Int))) (.string X) (.int .i64 0) (.int .i64 0) (.int .i64 0)
   replace nf := Lib.hid nf
   replace s00 := Lib.hid s00
   replace s01 := Lib.hid s01
   replace s02 := Lib.hid s02
   replace s03 := Lib.hid s03
   replace s04 := Lib.hid s04
   replace s10 := Lib.hid s10
   replace s11 := Lib.hid s11
   replace r0 := Lib.hid r0
   replace r1 := Lib.hid r1
   clear T5
   go_wp2_with (first | refine wpList_store_rowTo rfl 212 _ _ rfl rfl w.heap.size (#[.int .i64 4, .int .i64 k, .int .i64 ((k : Int) + (X.size : Int)), .string X, .int .i64 0]) rfl rfl 212 _ r0.out (by kernel_rfl) rfl (all_list rfl) ?_ | refine wpList_store_rowTo rfl 35 _ _ rfl rfl (w.heap.size + 1) (#[.int .i64 0, .int .i64 0]) rfl rfl 35 _ r1.out (by kernel_rfl) rfl (all_list rfl) ?_)
   generalize (w1.setRow w.heap.size _).setRow (w.heap.size + 1) _ = Wz at *
   replace s00 := s00.out
   replace s01 := s01.out
   replace s02 := s02.out
   replace s03 := s03.out
   replace s04 := s04.out
   replace s10 := s10.out
   replace s11 := s11.out
   refine bodyPost_ret ?_ rfl (fin.out _ nf.out)
   simp [results, Tryz.results140, go_sem, s00, s01, s02, s03, s04, s10, s11, tkV]
  ·go_wp2_with fail
   refine cS.out _ _ (Lib.hid ?_)
   go_wp2_with fail
   refine cM2.out _ (Lib.hid fun w1 n1 => ?_)
   have T5 := T.below n1
   clear T n1
   obtain ⟨nf, r0, r1, s00, s01, s02, s03, s04, s10, s11⟩ := T5.told (.int .i64 4) (.int .i64 k) (.int .i64 ((k : Int) + (X.size : Int))) (.string X) (.int .i64 0) (.int .i64 0) (.int .i64 0)
   replace nf := Lib.hid nf
   replace s00 := Lib.hid s00
   replace s01 := Lib.hid s01
   replace s02 := Lib.hid s02
   replace s03 := Lib.hid s03
   replace s04 := Lib.hid s04
   replace s10 := Lib.hid s10
   replace s11 := Lib.hid s11
   replace r0 := Lib.hid r0
   replace r1 := Lib.hid r1
   clear T5
   go_wp2_with (first | refine wpList_store_rowTo rfl 212 _ _ rfl rfl w.heap.size (#[.int .i64 4, .int .i64 k, .int .i64 ((k : Int) + (X.size : Int)), .string X, .int .i64 0]) rfl rfl 212 _ r0.out (by kernel_rfl) rfl (all_list rfl) ?_ | refine wpList_store_rowTo rfl 35 _ _ rfl rfl (w.heap.size + 1) (#[.int .i64 0, .int .i64 0]) rfl rfl 35 _ r1.out (by kernel_rfl) rfl (all_list rfl) ?_)
   generalize (w1.setRow w.heap.size _).setRow (w.heap.size + 1) _ = Wz at *
   replace s00 := s00.out
   replace s01 := s01.out
   replace s02 := s02.out
   replace s03 := s03.out
   replace s04 := s04.out
   replace s10 := s10.out
   replace s11 := s11.out
   refine bodyPost_ret ?_ rfl (fin.out _ nf.out)
   simp [results, Tryz.results140, go_sem, s00, s01, s02, s03, s04, s10, s11, tkV]
 ·rw [if_neg h4] at hR
  have e0 : markN s k = 0 := by omega
  rw [e0, ext_nil] at cM2
  replace cM2 := Lib.hid cM2
  have cD2 := cD.out
  rw [decR_eq] at cD2
  generalize decS s (k : Nat) = U at *
  obtain ⟨x, n, ok⟩ := U
  simp only at cD2 hR
  replace cD2 := Lib.hid cD2
  clear e0 h4 hml cD cM
  cases ok
  ·rw [if_pos rfl] at hR
   have fin := Lib.hid hR.out
   clear hR
   rcases hcs with hcs | ⟨hcs, hcs2⟩
   ·go_wp2_with fail
    refine cS.out _ _ (Lib.hid ?_)
    go_wp2_with fail
    refine cM2.out _ (Lib.hid fun w1 n1 => ?_)
    have T3 := Lib.hid (T.below n1)
    clear T n1
    go_wp2_with fail
    refine cD2.out _ _ (Lib.hid fun w2 n2 => ?_)
    have T5 := T3.out.below n2
    clear T3 n2
    obtain ⟨nf, r0, r1, s00, s01, s02, s03, s04, s10, s11⟩ := T5.told (.int .i64 0) (.int .i64 0) (.int .i64 0) (.string ⟨#[]⟩) (.int .i64 0) (.int .i64 2) (.int .i64 k)
    replace nf := Lib.hid nf
    replace s00 := Lib.hid s00
    replace s01 := Lib.hid s01
    replace s02 := Lib.hid s02
    replace s03 := Lib.hid s03
    replace s04 := Lib.hid s04
    replace s10 := Lib.hid s10
    replace s11 := Lib.hid s11
    replace r0 := Lib.hid r0
    replace r1 := Lib.hid r1
    clear T5
    go_wp2_with (first | refine wpList_store_rowTo rfl 212 _ _ rfl rfl w.heap.size (#[.int .i64 0, .int .i64 0, .int .i64 0, .string ⟨#[]⟩, .int .i64 0]) rfl rfl 212 _ r0.out (by kernel_rfl) rfl (all_list rfl) ?_ | refine wpList_store_rowTo rfl 35 _ _ rfl rfl (w.heap.size + 1) (#[.int .i64 2, .int .i64 k]) rfl rfl 35 _ r1.out (by kernel_rfl) rfl (all_list rfl) ?_)
    generalize (w2.setRow w.heap.size _).setRow (w.heap.size + 1) _ = Wz at *
    replace s00 := s00.out
    replace s01 := s01.out
    replace s02 := s02.out
    replace s03 := s03.out
    replace s04 := s04.out
    replace s10 := s10.out
    replace s11 := s11.out
    refine bodyPost_ret ?_ rfl (fin.out _ nf.out)
    simp [results, Tryz.results140, go_sem, s00, s01, s02, s03, s04, s10, s11, tkV, zT] <;> rfl
   ·go_wp2_with fail
    refine cS.out _ _ (Lib.hid ?_)
    go_wp2_with fail
    refine cM2.out _ (Lib.hid fun w1 n1 => ?_)
    have T3 := Lib.hid (T.below n1)
    clear T n1
    go_wp2_with fail
    refine cD2.out _ _ (Lib.hid fun w2 n2 => ?_)
    have T5 := T3.out.below n2
    clear T3 n2
    obtain ⟨nf, r0, r1, s00, s01, s02, s03, s04, s10, s11⟩ := T5.told (.int .i64 0) (.int .i64 0) (.int .i64 0) (.string ⟨#[]⟩) (.int .i64 0) (.int .i64 2) (.int .i64 k)
    replace nf := Lib.hid nf
    replace s00 := Lib.hid s00
    replace s01 := Lib.hid s01
    replace s02 := Lib.hid s02
    replace s03 := Lib.hid s03
    replace s04 := Lib.hid s04
    replace s10 := Lib.hid s10
    replace s11 := Lib.hid s11
    replace r0 := Lib.hid r0
    replace r1 := Lib.hid r1
    clear T5
    go_wp2_with (first | refine wpList_store_rowTo rfl 212 _ _ rfl rfl w.heap.size (#[.int .i64 0, .int .i64 0, .int .i64 0, .string ⟨#[]⟩, .int .i64 0]) rfl rfl 212 _ r0.out (by kernel_rfl) rfl (all_list rfl) ?_ | refine wpList_store_rowTo rfl 35 _ _ rfl rfl (w.heap.size + 1) (#[.int .i64 2, .int .i64 k]) rfl rfl 35 _ r1.out (by kernel_rfl) rfl (all_list rfl) ?_)
    generalize (w2.setRow w.heap.size _).setRow (w.heap.size + 1) _ = Wz at *
    replace s00 := s00.out
    replace s01 := s01.out
    replace s02 := s02.out
    replace s03 := s03.out
    replace s04 := s04.out
    replace s10 := s10.out
    replace s11 := s11.out
    refine bodyPost_ret ?_ rfl (fin.out _ nf.out)
    simp [results, Tryz.results140, go_sem, s00, s01, s02, s03, s04, s10, s11, tkV, zT] <;> rfl
  ·rw [if_neg (by simp)] at hR
   have fin := Lib.hid hR.out
   clear hR
   rcases hcs with hcs | ⟨hcs, hcs2⟩
   ·go_wp2_with fail
    refine cS.out _ _ (Lib.hid ?_)
    go_wp2_with fail
    refine cM2.out _ (Lib.hid fun w1 n1 => ?_)
    have T3 := Lib.hid (T.below n1)
    clear T n1
    go_wp2_with fail
    refine cD2.out _ _ (Lib.hid fun w2 n2 => ?_)
    have T5 := T3.out.below n2
    clear T3 n2
    obtain ⟨nf, r0, r1, s00, s01, s02, s03, s04, s10, s11⟩ := T5.told (.int .i64 0) (.int .i64 0) (.int .i64 0) (.string ⟨#[]⟩) (.int .i64 0) (.int .i64 3) (.int .i64 k)
    replace nf := Lib.hid nf
    replace s00 := Lib.hid s00
    replace s01 := Lib.hid s01
    replace s02 := Lib.hid s02
    replace s03 := Lib.hid s03
    replace s04 := Lib.hid s04
    replace s10 := Lib.hid s10
    replace s11 := Lib.hid s11
    replace r0 := Lib.hid r0
    replace r1 := Lib.hid r1
    clear T5
    go_wp2_with (first | refine wpList_store_rowTo rfl 212 _ _ rfl rfl w.heap.size (#[.int .i64 0, .int .i64 0, .int .i64 0, .string ⟨#[]⟩, .int .i64 0]) rfl rfl 212 _ r0.out (by kernel_rfl) rfl (all_list rfl) ?_ | refine wpList_store_rowTo rfl 35 _ _ rfl rfl (w.heap.size + 1) (#[.int .i64 3, .int .i64 k]) rfl rfl 35 _ r1.out (by kernel_rfl) rfl (all_list rfl) ?_)
    generalize (w2.setRow w.heap.size _).setRow (w.heap.size + 1) _ = Wz at *
    replace s00 := s00.out
    replace s01 := s01.out
    replace s02 := s02.out
    replace s03 := s03.out
    replace s04 := s04.out
    replace s10 := s10.out
    replace s11 := s11.out
    refine bodyPost_ret ?_ rfl (fin.out _ nf.out)
    simp [results, Tryz.results140, go_sem, s00, s01, s02, s03, s04, s10, s11, tkV, zT] <;> rfl
   ·go_wp2_with fail
    refine cS.out _ _ (Lib.hid ?_)
    go_wp2_with fail
    refine cM2.out _ (Lib.hid fun w1 n1 => ?_)
    have T3 := Lib.hid (T.below n1)
    clear T n1
    go_wp2_with fail
    refine cD2.out _ _ (Lib.hid fun w2 n2 => ?_)
    have T5 := T3.out.below n2
    clear T3 n2
    obtain ⟨nf, r0, r1, s00, s01, s02, s03, s04, s10, s11⟩ := T5.told (.int .i64 0) (.int .i64 0) (.int .i64 0) (.string ⟨#[]⟩) (.int .i64 0) (.int .i64 3) (.int .i64 k)
    replace nf := Lib.hid nf
    replace s00 := Lib.hid s00
    replace s01 := Lib.hid s01
    replace s02 := Lib.hid s02
    replace s03 := Lib.hid s03
    replace s04 := Lib.hid s04
    replace s10 := Lib.hid s10
    replace s11 := Lib.hid s11
    replace r0 := Lib.hid r0
    replace r1 := Lib.hid r1
    clear T5
    go_wp2_with (first | refine wpList_store_rowTo rfl 212 _ _ rfl rfl w.heap.size (#[.int .i64 0, .int .i64 0, .int .i64 0, .string ⟨#[]⟩, .int .i64 0]) rfl rfl 212 _ r0.out (by kernel_rfl) rfl (all_list rfl) ?_ | refine wpList_store_rowTo rfl 35 _ _ rfl rfl (w.heap.size + 1) (#[.int .i64 3, .int .i64 k]) rfl rfl 35 _ r1.out (by kernel_rfl) rfl (all_list rfl) ?_)
    generalize (w2.setRow w.heap.size _).setRow (w.heap.size + 1) _ = Wz at *
    replace s00 := s00.out
    replace s01 := s01.out
    replace s02 := s02.out
    replace s03 := s03.out
    replace s04 := s04.out
    replace s10 := s10.out
    replace s11 := s11.out
    refine bodyPost_ret ?_ rfl (fin.out _ nf.out)
    simp [results, Tryz.results140, go_sem, s00, s01, s02, s03, s04, s10, s11, tkV, zT] <;> rfl
end Go.Proofs.YtncijmodlhijoaaGreat.Tok
namespace Go.Proofs.YtncijmodlhijoaaGreat.Cur
open Go.RowKit Go.Lib Utf Tok
abbrev cuV (v : Value) (c : Cu) : Value := .agg #[v, .int .i64 c.2.1, .int .i64 c.2.2.1, .int .i64 c.2.2.2]
def takeS (c : Cu) (k : Int) (x : ByteArray) (any : Bool) : Cu := if hasS c k x any = true then nextS c else c
end Go.Proofs.YtncijmodlhijoaaGreat.Cur
namespace Go.Proofs.YtncijmodlhijoaaGreat
open Go.Shelf
def ixbL_ren : Go.Shelf.Ren := ⟨fun | 137 => 350 | 217 => 362 | 266 => 368 | n => n, fun | 9 => 9 | 5 => 5 | 3 => 3 | n => n, fun | n => n⟩
theorem ixbL : Go.Proofs.Lays.n137 Tryz.prog ixbL_ren := {
 mixed := by kernel_rfl
 f137 := Tryz.func350.trans (congrArg some (by kernel_rfl))
 f217 := Tryz.func362.trans (congrArg some (by kernel_rfl))
 f266 := Tryz.func368.trans (congrArg some (by kernel_rfl))
 t3 := Tryz.underlying3
 a3 := Tryz.isAgg3
 z3 := Tryz.sizeOf3
 v3 := Tryz.zeroValue3
 t5 := Tryz.underlying5
 a5 := Tryz.isAgg5
 z5 := Tryz.sizeOf5
 v5 := Tryz.zeroValue5
 t9 := Tryz.underlying9
 a9 := Tryz.isAgg9
 z9 := Tryz.sizeOf9
 v9 := Tryz.zeroValue9 }
end Go.Proofs.YtncijmodlhijoaaGreat
