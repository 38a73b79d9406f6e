import Derived.Test.YtncijmodlhijoaaGreatQ37
import Derived.Test.YtncijmodlhijoaaGreatQ38
import Derived.Test.YtncijmodlhijoaaGreatQ33
import Derived.Test.YtncijmodlhijoaaGreatQ39
import Derived.WalkMore
set_option linter.unusedVariables false
set_option maxRecDepth 100000
set_option maxHeartbeats 4000000
namespace Go.Proofs.YtncijmodlhijoaaGreat.Tok
open Go.RowKit Go.Lib Utf Ran Cel Esc Dig Nam Pat
theorem boxes_tf (w : World) (a b c : Int) (x : ByteArray) (d e z : Int) :
  let W := (w.alloc (.cells #[.int .i64 a, .int .i64 b, .int .i64 c, .string x, .int .i64 d] 212)).alloc (.cells #[.int .i64 e, .int .i64 z] 35)
  W.cell? ⟨w.heap.size, 0, none⟩ = some (.int .i64 a) ∧ W.cell? ⟨w.heap.size, 1, none⟩ = some (.int .i64 b) ∧ W.cell? ⟨w.heap.size, 2, none⟩ = some (.int .i64 c) ∧ W.cell? ⟨w.heap.size, 3, none⟩ = some (.string x) ∧ W.cell? ⟨w.heap.size, 4, none⟩ = some (.int .i64 d) ∧
  W.cell? ⟨w.heap.size + 1, 0, none⟩ = some (.int .i64 e) ∧ W.cell? ⟨w.heap.size + 1, 1, none⟩ = some (.int .i64 z) := by
 intro W
 obtain ⟨q1, q2⟩ := heap_two w (.cells #[.int .i64 a, .int .i64 b, .int .i64 c, .string x, .int .i64 d] 212) (.cells #[.int .i64 e, .int .i64 z] 35)
 refine ⟨?_, ?_, ?_, ?_, ?_, ?_, ?_⟩
 ·rw [Lib.cell_of_heap q1]; rfl
 ·rw [Lib.cell_of_heap q1]; rfl
 ·rw [Lib.cell_of_heap q1]; rfl
 ·rw [Lib.cell_of_heap q1]; rfl
 ·rw [Lib.cell_of_heap q1]; rfl
 ·rw [Lib.cell_of_heap q2]; rfl
 ·rw [Lib.cell_of_heap q2]; rfl
def FrV (b : Nat) (v : Value) : Prop := ∀ g o n c, v = .slice (some ⟨g, o, none⟩) n c → b ≤ g
theorem FrV.of_own {w : World} {base : Nat} {e : TypeId} {k n : Nat} {v : Value} {xs : List Value} (h : w.ownsRow base e k v n xs) : FrV base v := by
 obtain ⟨hl, ⟨rfl, rfl⟩ | ⟨g, cap, cur, rfl, hb, -⟩⟩ := h
 ·intro g o n c h
  cases h
 ·intro g' o n c h
  cases h
  exact hb
theorem refscan13_calls (s : ByteArray) (hs0 : s.size ≤ maxLen) (w : World) (R : Ending → World → Prop)
  (hR : Hid (∀ l v' w', scnS s = (some l, 0, 0) → RdK w' v' l → FrV w.heap.size v' → Below w.heap.size w w' → R (.returned (.tuple #[v', .agg #[.int .i64 0, .int .i64 0]])) w'))
  (hR2 : Hid (∀ e z w', scnS s = (none, e, z) → Below w.heap.size w w' → R (.returned (.tuple #[.slice none 0 0, .agg #[.int .i64 e, .int .i64 z]])) w')) : Calls Tryz.prog 67 #[.string s] w R := by
 replace hs0 : s.size ≤ 9223372036854775807 := hs0
 have T := Flk.new w
 unfold scnS at hR hR2
 by_cases hbig : 65536 < s.size
 ·rw [if_pos hbig] at hR2
  have fin := Lib.hid fun w' hb => hR2.out 7 65536 w' rfl hb
  clear hR hR2
  go_enter Tryz.func67, Tryz.ntmps67
  go_upto_region 1 with fail
  generalize w.alloc (.cells #[.int .i64 0, .int .i64 0] 35) = W0 at *
  obtain ⟨nf, s0', s1'⟩ := T.told (.int .i64 7) (.int .i64 65536)
  have c0 := T.c0
  have c1 := T.c1
  have f0' := T.f0
  have f1' := T.f1
  replace nf := Lib.hid nf
  replace s0' := Lib.hid s0'
  replace s1' := Lib.hid s1'
  clear T
  go_wp2_with fail
  replace s0' := s0'.out
  replace s1' := s1'.out
  clear c0 c1 f0' f1'
  generalize (W0.setCell ⟨w.heap.size, 0, none⟩ _).setCell ⟨w.heap.size, 1, none⟩ _ = Wz at *
  refine bodyPost_ret ?_ rfl (fin.out _ nf.out)
  simp [results, Tryz.results67, go_sem, s0', s1']
 rw [if_neg hbig] at hR hR2
 have hs : s.size ≤ 65536 := by omega
 have cD := Lib.hid fun (W : World) (k : Nat) R hR => refdec_calls s k W (by unfold maxLen; omega) R hR
 have cO := Lib.hid fun (W : World) k hk R hR => refone13_calls s k hk hs W R hR
 obtain ⟨i0, hInf, hz0, hz1, hz2⟩ := info_parts infoTok
 obtain ⟨V, hV⟩ : ∃ V, V = scnI s 0 false := ⟨_, rfl⟩
 rw [← hV] at hR hR2
 have hV0 : Hid (preT [] (scnI s 0 false) = V) := Lib.hid (by rw [pre_nil]; exact hV.symm)
 clear hV hbig
 go_enter Tryz.func67, Tryz.ntmps67
 go_upto_region 1 with fail
 generalize w.alloc (.cells #[.int .i64 0, .int .i64 0] 35) = W0 at *
 have T0 := Lib.hid T
 clear T
 go_wp2_with fail
 go_loopg [4, 5, 6] s.size (fun g sl bo at' wr => ∃ (I L : Nat) (b : Bool) (vo : Value) (l : List Tk), vo = sl ∧ bo = .bool b ∧ at' = .int .i64 I ∧ I + g = s.size ∧ I ≤ s.size ∧ L ≤ I ∧ Hid (l.length = L) ∧ Hid (Flk w w.heap.size wr) ∧ Hid (wr.ownsRow (w.heap.size + 1) 212 5 vo L (flatG encT l)) ∧ Hid (preT l (scnI s I b) = V))
 case atStart => exact ⟨0, 0, false, _, [], rfl, rfl, rfl, by omega, by omega, by omega, Lib.hid rfl, T0, Lib.hid (World.ownsRow_nil _ _ _ _), hV0⟩
 case round =>
  clear T0 hV0
  obtain ⟨I, L, b, vo, l, rfl, rfl, rfl, c1, c2, c3, hL, T, own, hsc⟩ := hrel
  by_cases hI : I < s.size
  ·have hg := byN_get s I hI
   have hbl := byN_lt s I
   have hd := decS_spec s I hI
   have hs := hsc.out
   rw [scn_step b hI] at hs
   clear hsc
   replace cD := Lib.hid fun (W : World) R hR => cD.out W I R hR
   generalize byN s I = c at *
   by_cases h10 : c = 10
   ·have q10 : ((c : Int) == 10) = true := by simp [h10]
    have q59 : ((c : Int) == 59) = false := by simp; omega
    have q9 : ((c : Int) == 9) = false := by simp; omega
    rw [if_pos (by subst h10; cases b <;> rfl), if_pos (by subst h10; rfl)] at hs
    replace hs := Lib.hid hs
    clear h10 hd
    go_wp2_with fail
    go_roundg (gk - 1)
    case measure => omega
    case rel => exact ⟨I + 1, L, false, vo, l, rfl, rfl, by go_num, by omega, by omega, by omega, hL, T, own, hs⟩
   have q10 : ((c : Int) == 10) = false := by simp; omega
   by_cases h59 : c = 59
   ·have q59 : ((c : Int) == 59) = true := by simp [h59]
    rw [if_neg (by subst h59; cases b <;> simp [inB])] at hs
    clear h10 h59
    have cD2 := cD.out wr
    rw [decR_eq] at cD2
    have cU := refUnit_calls s I
    have huS : (decS s (I : Nat)).2.2 = true → ((unitS s I).2 : Int) = (decS s (I : Nat)).2.1 := fun h => by
     unfold unitS
     rw [if_pos h]
     simp only
     omega
    generalize (unitS s I).2 = un at *
    generalize (unitS s I).1 = uw at *
    generalize decS s (I : Nat) = U at *
    obtain ⟨r, n, ok⟩ := U
    simp only at cD2 hs huS hd
    replace cD2 := Lib.hid cD2
    cases ok
    ·rw [if_pos rfl, pre_none] at hs
     have fin := Lib.hid fun w' hb => hR2.out 2 I w' hs.symm hb
     clear hs own huS cU hd
     go_wp2_with fail
     refine cD2.out _ (Lib.hid fun w2 n2 => ?_)
     have T3 := T.out.below n2
     clear n2 T
     obtain ⟨nf, s0', s1'⟩ := T3.told (.int .i64 2) (.int .i64 I)
     have c0 := T3.c0
     have c1 := T3.c1
     have f0' := T3.f0
     have f1' := T3.f1
     replace nf := Lib.hid nf
     replace s0' := Lib.hid s0'
     replace s1' := Lib.hid s1'
     clear T3
     go_wp2_with fail
     replace s0' := s0'.out
     replace s1' := s1'.out
     clear c0 c1 f0' f1'
     generalize (w2.setCell ⟨w.heap.size, 0, none⟩ _).setCell ⟨w.heap.size, 1, none⟩ _ = Wz at *
     refine bodyPost_ret ?_ rfl (fin.out _ nf.out)
     simp [results, Tryz.results67, go_sem, s0', s1']
    ·rw [if_neg (by simp)] at hs
     have hun := huS rfl
     obtain ⟨m, rfl⟩ : ∃ m : Nat, n = m := ⟨n.toNat, by omega⟩
     obtain rfl : un = m := by omega
     rw [Int.toNat_natCast] at hs
     have cU2 := Lib.hid fun (W : World) R hR => cU W (by omega) hI R hR
     have cKr := Lib.hid fun (W : World) R hR => refKind_calls r W R hR
     have hkb := kind_bd r
     clear huS cU hun
     by_cases hr9 : r = 9
     ·rw [if_neg (fun q => q.1 hr9)] at hs
      have q1 : (r != 9) = false := by simp [hr9]
      replace hs := Lib.hid hs
      clear hr9 hkb
      go_wp2_with fail
      refine cD2.out _ (Lib.hid fun w2 n2 => ?_)
      have T3 := Lib.hid (T.out.below n2)
      have own3 := Lib.hid (own_below own.out n2)
      clear n2 T own
      go_wp2_with fail
      refine cU2.out _ _ (Lib.hid fun w4 n4 => ?_)
      have T5 := Lib.hid (T3.out.below n4)
      have own5 := Lib.hid (own_below own3.out n4)
      clear n4 T3 own3
      go_wp2_with fail
      go_roundg (gk - un)
      case measure => omega
      case rel => exact ⟨I + un, L, true, vo, l, rfl, rfl, by go_num, by omega, by omega, by omega, hL, T5, own5, hs⟩
     ·have q1 : (r != 9) = true := by simpa using hr9
      by_cases hk0 : kindS r = 0
      ·rw [if_neg (fun q => q.2 hk0)] at hs
       replace hs := Lib.hid hs
       rw [hk0] at cKr
       clear hr9 hkb hk0
       go_wp2_with fail
       refine cD2.out _ (Lib.hid fun w2 n2 => ?_)
       have T3 := Lib.hid (T.out.below n2)
       have own3 := Lib.hid (own_below own.out n2)
       clear n2 T own
       go_wp2_with fail
       refine cKr.out _ _ (Lib.hid fun w3 n3 => ?_)
       have T4 := Lib.hid (T3.out.below n3)
       have own4 := Lib.hid (own_below own3.out n3)
       clear n3 T3 own3
       go_wp2_with fail
       refine cU2.out _ _ (Lib.hid fun w4 n4 => ?_)
       have T5 := Lib.hid (T4.out.below n4)
       have own5 := Lib.hid (own_below own4.out n4)
       clear n4 T4 own4
       go_wp2_with fail
       go_roundg (gk - un)
       case measure => omega
       case rel => exact ⟨I + un, L, true, vo, l, rfl, rfl, by go_num, by omega, by omega, by omega, hL, T5, own5, hs⟩
      ·rw [if_pos ⟨hr9, hk0⟩, pre_none] at hs
       have fin := Lib.hid fun w' hb => hR2.out 3 I w' hs.symm hb
       have q2 : (kindS r != 0) = true := by simpa using hk0
       generalize kindS r = kr at *
       clear hs hr9 hk0 own hkb cU2
       go_wp2_with fail
       refine cD2.out _ (Lib.hid fun w2 n2 => ?_)
       have T3 := Lib.hid (T.out.below n2)
       clear n2 T
       go_wp2_with fail
       refine cKr.out _ _ (Lib.hid fun w3 n3 => ?_)
       have T4 := T3.out.below n3
       clear n3 T3
       obtain ⟨nf, s0', s1'⟩ := T4.told (.int .i64 3) (.int .i64 I)
       have c0 := T4.c0
       have c1 := T4.c1
       have f0' := T4.f0
       have f1' := T4.f1
       replace nf := Lib.hid nf
       replace s0' := Lib.hid s0'
       replace s1' := Lib.hid s1'
       clear T4
       go_wp2_with fail
       replace s0' := s0'.out
       replace s1' := s1'.out
       clear c0 c1 f0' f1'
       generalize (w3.setCell ⟨w.heap.size, 0, none⟩ _).setCell ⟨w.heap.size, 1, none⟩ _ = Wz at *
       refine bodyPost_ret ?_ rfl (fin.out _ nf.out)
       simp [results, Tryz.results67, go_sem, s0', s1']
   have q59 : ((c : Int) == 59) = false := by simp; omega
   cases b
   ·rw [if_pos (by unfold inB; simp [h59])] at hs
    by_cases hbk : blankB c = true
    ·rw [if_pos hbk] at hs
     replace hs := Lib.hid hs
     have hbk2 : (((c : Int) == 9) = true) ∨ ((((c : Int) == 9) = false) ∧ ((c : Int) == 13) = true) ∨ ((((c : Int) == 9) = false) ∧ (((c : Int) == 13) = false) ∧ ((c : Int) == 32) = true) := by
      unfold blankB at hbk
      rw [decide_eq_true_iff] at hbk
      rcases hbk with h | h | h | h
      ·exact .inl (by simp [h])
      ·exact absurd h h10
      ·exact .inr (.inl ⟨by simp; omega, by simp [h]⟩)
      ·exact .inr (.inr ⟨by simp; omega, by simp; omega, by simp [h]⟩)
     clear hbk h10 h59 hd
     rcases hbk2 with q9 | ⟨q9, q13⟩ | ⟨q9, q13, q32⟩
     all_goals
      go_wp2_with fail
      go_roundg (gk - 1)
      case measure => omega
      case rel => exact ⟨I + 1, L, false, vo, l, rfl, rfl, by go_num, by omega, by omega, by omega, hL, T, own, hs⟩
    ·rw [if_neg hbk] at hs
     have q9 : ((c : Int) == 9) = false := by unfold blankB at hbk; simp at hbk ⊢; omega
     have q13 : ((c : Int) == 13) = false := by unfold blankB at hbk; simp at hbk ⊢; omega
     have q32 : ((c : Int) == 32) = false := by unfold blankB at hbk; simp at hbk ⊢; omega
     clear hbk h10 h59 hd
     have cO2 := Lib.hid (cO.out wr I hI)
     have ht := tok_bd hI
     generalize tokS s I = U at *
     obtain ⟨⟨t0, t1, t2, t3, t4⟩, e, z⟩ := U
     simp only [tkV] at cO2 hs ht
     by_cases he : e = 0
     ·rw [if_neg (by simpa using he)] at hs
      obtain ⟨hz, ht1, ht2, ht3, ht4, ht5⟩ := ht.1 he
      subst he hz ht3
      obtain ⟨E, rfl⟩ : ∃ E : Nat, t2 = E := ⟨t2.toNat, by omega⟩
      rw [Int.toNat_natCast, pre_pre] at hs
      replace hs := Lib.hid hs
      clear ht
      go_wp2_with fail
      refine cO2.out _ (Lib.hid fun w2 n2 => ?_)
      have T3 := T.out.below n2
      have own3 := own_below own.out n2
      obtain ⟨o1_, ho1_⟩ : ∃ oO_ : Obj, oO_ = .cells #[.int .i64 t0, .int .i64 (I : Nat), .int .i64 (E : Nat), .string t3, .int .i64 t4] 212 := ⟨_, rfl⟩
      have bA := (Below.refl w2.heap.size w2).alloc (Nat.le_refl _) o1_
      have bB := bA.alloc bA.size (.cells #[.int .i64 0, .int .i64 0] 35)
      have T4 := T3.below bB
      have own4 := own_below own3 bB
      obtain ⟨k0, k1, k2, k3, k4, k5, k6⟩ := boxes_tf w2 t0 (I : Nat) (E : Nat) t3 t4 0 0
      have hB : w2.heap.size < ((w2.alloc o1_).alloc (.cells #[.int .i64 0, .int .i64 0] 35)).heap.size := by simp; omega
      have hlt4 : w.heap.size + 1 ≤ ((w2.alloc o1_).alloc (.cells #[.int .i64 0, .int .i64 0] 35)).heap.size := T4.lt
      subst ho1_
      replace T4 := Lib.hid T4
      have hne := Lib.hid (show vo.ownBlock ≠ some w2.heap.size from fun e => by have := (own3.lt _ e).2; omega)
      replace own4 := Lib.hid own4
      clear n2 T own T3 own3 bA bB
      go_wp2_with (at_builtin; go_loud (refine appK _ #[.int .i64 t0, .int .i64 (I : Nat), .int .i64 (E : Nat), .string t3, .int .i64 t4] 5 212 rfl _ _ 138 rfl (w.heap.size + 1) i0 (tkV zT) 48 Tryz.underlying138 hInf hz0 hz1 hz2 rfl (by decide) rfl vo L (flatG encT l) rfl own4.out _ rfl (by simp) (by simp [Value.oneCell']) (by unfold maxLen; omega) (by omega) hlt4 ?_); intro v' w3 hown3 hg3 hb3; have k2' := (World.cell?_of_block (a := ⟨w2.heap.size, 2, none⟩) (hg3.block w2.heap.size hB (fun e => hne.out e.symm))).trans k2)
      have T5 := Lib.hid (T4.out.below1 hb3)
      have own5 := Lib.hid (show w3.ownsRow (w.heap.size + 1) 212 5 v' (L + 1) (flatG encT (l ++ [(t0, (I : Int), (E : Int), t3, t4)])) by rw [flatG_snoc]; exact hown3)
      have hL2 := Lib.hid (show (l ++ [(t0, (I : Int), (E : Int), t3, t4)]).length = L + 1 by simp [hL.out])
      clear hown3 hg3 hb3 T4 own4
      go_wp2_with fail
      go_roundg (gk - (E - I))
      case measure => omega
      case rel => exact ⟨E, L + 1, false, v', _, rfl, rfl, rfl, by omega, by omega, by omega, hL2, T5, own5, hs⟩
     ·rw [if_pos (by simpa using he), pre_none] at hs
      have fin := Lib.hid fun w' hb => hR2.out e z w' hs.symm hb
      have q1 : (e != 0) = true := by simpa using he
      clear hs ht own he
      go_wp2_with fail
      refine cO2.out _ (Lib.hid fun w2 n2 => ?_)
      have T3 := T.out.below n2
      have bA := (Below.refl w2.heap.size w2).alloc (Nat.le_refl _) (.cells #[.int .i64 t0, .int .i64 t1, .int .i64 t2, .string t3, .int .i64 t4] 212)
      have bB := bA.alloc bA.size (.cells #[.int .i64 e, .int .i64 z] 35)
      have T4 := T3.below bB
      obtain ⟨k0, k1, k2, k3, k4, k5, k6⟩ := boxes_tf w2 t0 t1 t2 t3 t4 e z
      replace T4 := Lib.hid T4
      clear n2 T T3 bA bB k0 k1 k2 k3 k4
      go_wp2_with fail
      generalize (w2.alloc (.cells #[.int .i64 t0, .int .i64 t1, .int .i64 t2, .string t3, .int .i64 t4] 212)).alloc (.cells #[.int .i64 e, .int .i64 z] 35) = W4 at *
      go_still_tail 2, (by kernel_rfl)
      repeat still_step
      change wpList _ _ _ _ _ W4.drew
      have T5 := T4.out.below (Below.refl _ _).drew
      clear T4 k5 k6
      generalize W4.drew = W5 at *
      obtain ⟨nf, s0', s1'⟩ := T5.told (.int .i64 e) (.int .i64 z)
      have c0 := T5.c0
      have c1 := T5.c1
      have f0' := T5.f0
      have f1' := T5.f1
      replace nf := Lib.hid nf
      replace s0' := Lib.hid s0'
      replace s1' := Lib.hid s1'
      clear T5
      go_wp2_with fail
      replace s0' := s0'.out
      replace s1' := s1'.out
      clear c0 c1 f0' f1'
      generalize (W5.setCell ⟨w.heap.size, 0, none⟩ _).setCell ⟨w.heap.size, 1, none⟩ _ = Wz at *
      refine bodyPost_ret ?_ rfl (fin.out _ nf.out)
      simp [results, Tryz.results67, go_sem, s0', s1']
   ·rw [if_neg (by unfold inB; simp [h10])] at hs
    clear h10 h59
    have cD2 := cD.out wr
    rw [decR_eq] at cD2
    have cU := refUnit_calls s I
    have huS : (decS s (I : Nat)).2.2 = true → ((unitS s I).2 : Int) = (decS s (I : Nat)).2.1 := fun h => by
     unfold unitS
     rw [if_pos h]
     simp only
     omega
    generalize (unitS s I).2 = un at *
    generalize (unitS s I).1 = uw at *
    generalize decS s (I : Nat) = U at *
    obtain ⟨r, n, ok⟩ := U
    simp only at cD2 hs huS hd
    replace cD2 := Lib.hid cD2
    cases ok
    ·rw [if_pos rfl, pre_none] at hs
     have fin := Lib.hid fun w' hb => hR2.out 2 I w' hs.symm hb
     clear hs own huS cU hd
     go_wp2_with fail
     refine cD2.out _ (Lib.hid fun w2 n2 => ?_)
     have T3 := T.out.below n2
     clear n2 T
     obtain ⟨nf, s0', s1'⟩ := T3.told (.int .i64 2) (.int .i64 I)
     have c0 := T3.c0
     have c1 := T3.c1
     have f0' := T3.f0
     have f1' := T3.f1
     replace nf := Lib.hid nf
     replace s0' := Lib.hid s0'
     replace s1' := Lib.hid s1'
     clear T3
     go_wp2_with fail
     replace s0' := s0'.out
     replace s1' := s1'.out
     clear c0 c1 f0' f1'
     generalize (w2.setCell ⟨w.heap.size, 0, none⟩ _).setCell ⟨w.heap.size, 1, none⟩ _ = Wz at *
     refine bodyPost_ret ?_ rfl (fin.out _ nf.out)
     simp [results, Tryz.results67, go_sem, s0', s1']
    ·rw [if_neg (by simp)] at hs
     have hun := huS rfl
     obtain ⟨m, rfl⟩ : ∃ m : Nat, n = m := ⟨n.toNat, by omega⟩
     obtain rfl : un = m := by omega
     rw [Int.toNat_natCast] at hs
     have cU2 := Lib.hid fun (W : World) R hR => cU W (by omega) hI R hR
     have cKr := Lib.hid fun (W : World) R hR => refKind_calls r W R hR
     have hkb := kind_bd r
     clear huS cU hun
     by_cases hr9 : r = 9
     ·rw [if_neg (fun q => q.1 hr9)] at hs
      have q1 : (r != 9) = false := by simp [hr9]
      replace hs := Lib.hid hs
      clear hr9 hkb
      go_wp2_with fail
      refine cD2.out _ (Lib.hid fun w2 n2 => ?_)
      have T3 := Lib.hid (T.out.below n2)
      have own3 := Lib.hid (own_below own.out n2)
      clear n2 T own
      go_wp2_with fail
      refine cU2.out _ _ (Lib.hid fun w4 n4 => ?_)
      have T5 := Lib.hid (T3.out.below n4)
      have own5 := Lib.hid (own_below own3.out n4)
      clear n4 T3 own3
      go_wp2_with fail
      go_roundg (gk - un)
      case measure => omega
      case rel => exact ⟨I + un, L, true, vo, l, rfl, rfl, by go_num, by omega, by omega, by omega, hL, T5, own5, hs⟩
     ·have q1 : (r != 9) = true := by simpa using hr9
      by_cases hk0 : kindS r = 0
      ·rw [if_neg (fun q => q.2 hk0)] at hs
       replace hs := Lib.hid hs
       rw [hk0] at cKr
       clear hr9 hkb hk0
       go_wp2_with fail
       refine cD2.out _ (Lib.hid fun w2 n2 => ?_)
       have T3 := Lib.hid (T.out.below n2)
       have own3 := Lib.hid (own_below own.out n2)
       clear n2 T own
       go_wp2_with fail
       refine cKr.out _ _ (Lib.hid fun w3 n3 => ?_)
       have T4 := Lib.hid (T3.out.below n3)
       have own4 := Lib.hid (own_below own3.out n3)
       clear n3 T3 own3
       go_wp2_with fail
       refine cU2.out _ _ (Lib.hid fun w4 n4 => ?_)
       have T5 := Lib.hid (T4.out.below n4)
       have own5 := Lib.hid (own_below own4.out n4)
       clear n4 T4 own4
       go_wp2_with fail
       go_roundg (gk - un)
       case measure => omega
       case rel => exact ⟨I + un, L, true, vo, l, rfl, rfl, by go_num, by omega, by omega, by omega, hL, T5, own5, hs⟩
      ·rw [if_pos ⟨hr9, hk0⟩, pre_none] at hs
       have fin := Lib.hid fun w' hb => hR2.out 3 I w' hs.symm hb
       have q2 : (kindS r != 0) = true := by simpa using hk0
       generalize kindS r = kr at *
       clear hs hr9 hk0 own hkb cU2
       go_wp2_with fail
       refine cD2.out _ (Lib.hid fun w2 n2 => ?_)
       have T3 := Lib.hid (T.out.below n2)
       clear n2 T
       go_wp2_with fail
       refine cKr.out _ _ (Lib.hid fun w3 n3 => ?_)
       have T4 := T3.out.below n3
       clear n3 T3
       obtain ⟨nf, s0', s1'⟩ := T4.told (.int .i64 3) (.int .i64 I)
       have c0 := T4.c0
       have c1 := T4.c1
       have f0' := T4.f0
       have f1' := T4.f1
       replace nf := Lib.hid nf
       replace s0' := Lib.hid s0'
       replace s1' := Lib.hid s1'
       clear T4
       go_wp2_with fail
       replace s0' := s0'.out
       replace s1' := s1'.out
       clear c0 c1 f0' f1'
       generalize (w3.setCell ⟨w.heap.size, 0, none⟩ _).setCell ⟨w.heap.size, 1, none⟩ _ = Wz at *
       refine bodyPost_ret ?_ rfl (fin.out _ nf.out)
       simp [results, Tryz.results67, go_sem, s0', s1']
  ·obtain rfl : I = s.size := by omega
   have hs := hsc.out
   rw [scn_end b rfl] at hs
   have hv : V = (some (l ++ [endT s]), 0, 0) := hs.symm
   have fin := Lib.hid fun v' w' rd fr hb => hR.out (l ++ [endT s]) v' w' hv rd fr hb
   have hlt : w.heap.size + 1 ≤ wr.heap.size := T.out.lt
   have ow := own.out
   clear hsc hs hv own hR hR2
   go_wp2_with (at_builtin; go_loud (refine appK wr #[.int .i64 0, .int .i64 (s.size : Nat), .int .i64 (s.size : Nat), .string ⟨#[]⟩, .int .i64 0] 5 212 rfl _ _ 138 rfl (w.heap.size + 1) i0 (tkV zT) 48 Tryz.underlying138 hInf hz0 hz1 hz2 rfl (by decide) rfl vo L (flatG encT l) rfl ow _ rfl rfl (by simp [Value.oneCell']) (by unfold maxLen; omega) (by omega) hlt ?_); intro v' w3 hown3 hg3 hb3; have T3 := T.out.below1 hb3; have c0 := T3.c0; have c1 := T3.c1; have f0' := T3.f0; have f1' := T3.f1)
   obtain ⟨nf, s0', s1'⟩ := T3.told (.int .i64 0) (.int .i64 0)
   have rd := RdG.of_own (l := l ++ [endT s]) (enc := encT) (k := 5) (by
    have := ownsRow_setCell_below (ownsRow_setCell_below hown3 (a := ⟨w.heap.size, 0, none⟩) (Nat.lt_succ_self _) (.int .i64 0)) (a := ⟨w.heap.size, 1, none⟩) (Nat.lt_succ_self _) (.int .i64 0)
    rw [flatG_snoc]
    exact this)
   have fr : FrV w.heap.size v' := fun g o n c h => Nat.le_of_succ_le (FrV.of_own hown3 g o n c h)
   clear hown3 hg3 hb3 T3 c0 c1 f0' f1'
   generalize (w3.setCell ⟨w.heap.size, 0, none⟩ _).setCell ⟨w.heap.size, 1, none⟩ _ = Wz at *
   refine bodyPost_ret ?_ rfl (fin.out _ _ rd fr nf)
   simp [results, Tryz.results67, go_sem, s0', s1']
structure Fl2 (w : World) (H : Nat) (e z : Int) (W : World) : Prop where
 nb : Below H w W
 lt : H + 1 < W.heap.size
 r0 : W.heap[H]? = some (.cells #[.int .i64 0, .int .i64 0] 35 (0, 0))
 r1 : W.heap[H + 1]? = some (.cells #[.int .i64 e, .int .i64 z] 35 (0, 0))
theorem Fl2.new (w : World) : Fl2 w w.heap.size 0 0 ((w.alloc (.cells #[.int .i64 0, .int .i64 0] 35)).alloc (.cells #[.int .i64 0, .int .i64 0] 35)) := by
 obtain ⟨o1_, ho1_⟩ : ∃ oO_ : Obj, oO_ = .cells #[.int .i64 0, .int .i64 0] 35 := ⟨_, rfl⟩
 have b1 := (Below.refl w.heap.size w).alloc (Nat.le_refl _) o1_
 have b2 := b1.alloc b1.size o1_
 obtain ⟨q1, q2⟩ := heap_two w o1_ o1_
 subst ho1_
 exact ⟨b2, by simp, q1, q2⟩
theorem Fl2.below2 {w W W' : World} {H : Nat} {e z : Int} (h : Fl2 w H e z W) (hb : Below (H + 2) W W') : Fl2 w H e z W' :=
 ⟨h.nb.trans (hb.mono (by omega)), Nat.lt_of_lt_of_le h.lt hb.size, (hb.block H (by omega)).trans h.r0, (hb.block (H + 1) (by omega)).trans h.r1⟩
theorem Fl2.below {w W W' : World} {H : Nat} {e z : Int} (h : Fl2 w H e z W) (hb : Below W.heap.size W W') : Fl2 w H e z W' :=
 h.below2 (hb.mono (by have := h.lt; omega))
theorem Fl2.set0 {w W : World} {H : Nat} {e z : Int} (h : Fl2 w H e z W) (v : Value) (e' z' : Int) (q : (#[.int .i64 e, .int .i64 z] : Array Value).setIfInBounds 0 v = #[.int .i64 e', .int .i64 z']) : Fl2 w H e' z' (W.setCell ⟨H + 1, 0, none⟩ v) :=
 ⟨h.nb.setCell (p := ⟨H + 1, 0, none⟩) (Nat.le_succ H) v, by simpa [World.setCell] using h.lt, heap_setCell_out h.r0 0 v (by omega), (heap_setCell_in h.r1 0 v).trans (by rw [q])⟩
theorem Fl2.set1 {w W : World} {H : Nat} {e z : Int} (h : Fl2 w H e z W) (v : Value) (e' z' : Int) (q : (#[.int .i64 e, .int .i64 z] : Array Value).setIfInBounds 1 v = #[.int .i64 e', .int .i64 z']) : Fl2 w H e' z' (W.setCell ⟨H + 1, 1, none⟩ v) :=
 ⟨h.nb.setCell (p := ⟨H + 1, 1, none⟩) (Nat.le_succ H) v, by simpa [World.setCell] using h.lt, heap_setCell_out h.r0 1 v (by omega), (heap_setCell_in h.r1 1 v).trans (by rw [q])⟩
theorem Fl2.cells {w W : World} {H : Nat} {e z : Int} (h : Fl2 w H e z W) : W.cell? ⟨H, 0, none⟩ = some (.int .i64 0) ∧ W.cell? ⟨H, 1, none⟩ = some (.int .i64 0) ∧ W.cell? ⟨H + 1, 0, none⟩ = some (.int .i64 e) ∧ W.cell? ⟨H + 1, 1, none⟩ = some (.int .i64 z) ∧
  W.frozen? ⟨H, 0, none⟩ = false ∧ W.frozen? ⟨H, 1, none⟩ = false ∧ W.frozen? ⟨H + 1, 0, none⟩ = false ∧ W.frozen? ⟨H + 1, 1, none⟩ = false := by
 refine ⟨?_, ?_, ?_, ?_, Lib.frozen_of_heap h.r0 0, Lib.frozen_of_heap h.r0 1, Lib.frozen_of_heap h.r1 0, Lib.frozen_of_heap h.r1 1⟩
 all_goals first | (rw [Lib.cell_of_heap h.r0]; rfl) | (rw [Lib.cell_of_heap h.r1]; rfl)
theorem Fl2.told {w W : World} {H : Nat} {e z : Int} (h : Fl2 w H e z W) (a b : Value) : Below H w ((W.setCell ⟨H, 0, none⟩ a).setCell ⟨H, 1, none⟩ b) ∧ ((W.setCell ⟨H, 0, none⟩ a).setCell ⟨H, 1, none⟩ b).cell? ⟨H, 0, none⟩ = some a ∧ ((W.setCell ⟨H, 0, none⟩ a).setCell ⟨H, 1, none⟩ b).cell? ⟨H, 1, none⟩ = some b := by
 obtain ⟨c0, c1, -⟩ := h.cells
 exact ⟨(h.nb.setCell (p := ⟨H, 0, none⟩) (Nat.le_refl _) a).setCell (p := ⟨H, 1, none⟩) (Nat.le_refl _) b,
  (World.cell?_setCell_other _ _ _ _ (by simp)).trans (World.cell?_setCell_same _ _ _ c0), World.cell?_setCell_same _ _ _ ((World.cell?_setCell_other _ _ _ _ (by simp)).trans c1)⟩
theorem scan0_calls (s : ByteArray) (hs0 : s.size ≤ maxLen) (w : World) (R : Ending → World → Prop)
  (hR : Hid (∀ l v' w', scnS s = (some l, 0, 0) → RdK w' v' l → FrV w.heap.size v' → Below w.heap.size w w' → R (.returned (.tuple #[v', .agg #[.int .i64 0, .int .i64 0]])) w'))
  (hR2 : Hid (∀ e z w', scnS s = (none, e, z) → Below w.heap.size w w' → R (.returned (.tuple #[.slice none 0 0, .agg #[.int .i64 e, .int .i64 z]])) w')) : Calls Tryz.prog 129 #[.string s] w R := by
 replace hs0 : s.size ≤ 9223372036854775807 := hs0
 unfold scnS at hR hR2
 by_cases hbig : 65536 < s.size
 ·rw [if_pos hbig] at hR2
  have T := Flk.new w
  have fin := Lib.hid fun w' hb => hR2.out 7 65536 w' rfl hb
  clear hR hR2
  go_enter Tryz.func129, Tryz.ntmps129
  go_upto_region 1 with fail
  generalize w.alloc (.cells #[.int .i64 0, .int .i64 0] 35) = W0 at *
  obtain ⟨nf, s0', s1'⟩ := T.told (.int .i64 7) (.int .i64 65536)
  have c0 := T.c0
  have c1 := T.c1
  have f0' := T.f0
  have f1' := T.f1
  replace nf := Lib.hid nf
  replace s0' := Lib.hid s0'
  replace s1' := Lib.hid s1'
  clear T
  go_step3
  go_wp2_with fail
  replace s0' := s0'.out
  replace s1' := s1'.out
  clear c0 c1 f0' f1'
  generalize (W0.setCell ⟨w.heap.size, 0, none⟩ _).setCell ⟨w.heap.size, 1, none⟩ _ = Wz at *
  refine bodyPost_ret ?_ rfl (fin.out _ nf.out)
  simp [results, Tryz.results129, go_sem, s0', s1']
 rw [if_neg hbig] at hR hR2
 have hs : s.size ≤ 65536 := by omega
 have T := Fl2.new w
 have cB := Lib.hid fun (c : Nat) hc (W : World) R hR => blank_calls c hc W R hR
 have cC := Lib.hid fun (W : World) (k : Nat) hk h59 R hR hR2 => comment_calls s k hk h59 hs W R hR hR2
 have cO := Lib.hid fun (W : World) k hk R hR => toktake_calls s k hk hs W R hR
 obtain ⟨i0, hInf, hz0, hz1, hz2⟩ := info_parts infoTok
 obtain ⟨V, hV⟩ : ∃ V, V = scnI s 0 false := ⟨_, rfl⟩
 rw [← hV] at hR hR2
 have hV0 : Hid (preT [] (scnI s 0 false) = V) := Lib.hid (by rw [pre_nil]; exact hV.symm)
 clear hV hbig
 go_enter Tryz.func129, Tryz.ntmps129
 go_upto_region 1 with fail
 go_step3
 go_upto_region 5 with fail
 generalize (w.alloc (.cells #[.int .i64 0, .int .i64 0] 35)).alloc (.cells #[.int .i64 0, .int .i64 0] 35) = W0 at *
 have T0 := Lib.hid T
 clear T
 go_wp2_with fail
 go_step3
 go_wp2_with fail
 go_outline
 go_loopg [4, 6] s.size (fun g sl at' wr => ∃ (I L : Nat) (vo : Value) (l : List Tk), vo = sl ∧ at' = .int .i64 I ∧ I + g = s.size ∧ I ≤ s.size ∧ L ≤ I ∧ Hid (l.length = L) ∧ Hid (Fl2 w w.heap.size 0 0 wr) ∧ Hid (wr.ownsRow (w.heap.size + 2) 212 5 vo L (flatG encT l)) ∧ Hid (preT l (scnI s I false) = V))
 case atStart => exact ⟨0, 0, _, [], rfl, rfl, by omega, by omega, by omega, Lib.hid rfl, T0, Lib.hid (World.ownsRow_nil _ _ _ _), hV0⟩
 case round =>
  clear T0 hV0
  obtain ⟨I, L, vo, l, rfl, rfl, c1, c2, c3, hL, T, own, hsc⟩ := hrel
  by_cases hI : I < s.size
  ·have hg := byN_get s I hI
   have hbl := byN_lt s I
   have hsc2 := hsc.out
   have cB2 := Lib.hid fun W R hR => cB.out (byN s I) hbl W R hR
   have cC2 := Lib.hid fun W h59 R hR hR2 => cC.out W I hI h59 R hR hR2
   have cO2 := Lib.hid fun W R hR => cO.out W I hI R hR
   have ht := tok_bd hI
   clear cB cC cO
   by_cases hbk : blankB (byN s I) = true
   ·rw [scn_step false hI, if_pos (by unfold inB; unfold blankB at hbk; simp at hbk ⊢; omega), if_pos hbk] at hsc2
    rw [hbk] at cB2
    replace hsc2 := Lib.hid hsc2
    generalize byN s I = c at *
    clear hbk hsc cC2 cO2 ht
    go_wp2_with fail
    refine cB2.out _ _ (Lib.hid fun w2 n2 => ?_)
    have T3 := Lib.hid (T.out.below n2)
    have own3 := Lib.hid (own_below own.out n2)
    clear n2 T own
    go_wp2_with fail
    go_roundg (gk - 1)
    case measure => omega
    case rel => exact ⟨I + 1, L, vo, l, rfl, by go_num, by omega, by omega, by omega, hL, T3, own3, hsc2⟩
   have hbk' : blankB (byN s I) = false := by simpa using hbk
   rw [hbk'] at cB2
   by_cases h59 : byN s I = 59
   ·have q59 : ((byN s I : Int) == 59) = true := by simp [h59]
    have cC3 := Lib.hid fun W R hR hR2 => cC2.out W h59 R hR hR2
    generalize byN s I = c at *
    clear h59 hbk hbk' cC2 cO2 hsc ht
    go_wp2_with fail
    refine cB2.out _ _ (Lib.hid fun w2 n2 => ?_)
    have T3 := Lib.hid (T.out.below n2)
    have own3 := Lib.hid (own_below own.out n2)
    clear n2 T own
    go_wp2_with fail
    refine cC3.out _ _ (Lib.hid fun J w3 hlt hle heq n3 => ?_) (Lib.hid fun e z w3 heq hne n3 => ?_)
    ·rw [heq] at hsc2
     replace hsc2 := Lib.hid hsc2
     have bA := (Below.refl w3.heap.size w3).alloc (Nat.le_refl _) (.cells #[.int .i64 0, .int .i64 0] 35)
     have T4 := Lib.hid ((T3.out.below n3).below bA)
     have own4 := Lib.hid (own_below (own_below own3.out n3) bA)
     obtain ⟨k5, k6⟩ := box_f w3 (.int .i64 0) (.int .i64 0) 35
     clear n3 T3 own3 bA heq
     go_wp2_with fail
     go_roundg (gk - (J - I))
     case measure => omega
     case rel => exact ⟨J, L, vo, l, rfl, rfl, by omega, by omega, by omega, hL, T4, own4, hsc2⟩
    ·rw [heq, pre_none] at hsc2
     have fin := Lib.hid fun w' hb => hR2.out e z w' hsc2.symm hb
     have q1 : (e != 0) = true := by simpa using hne
     have bA := (Below.refl w3.heap.size w3).alloc (Nat.le_refl _) (.cells #[.int .i64 e, .int .i64 z] 35)
     have T4 := Lib.hid ((T3.out.below n3).below bA)
     obtain ⟨k5, k6⟩ := box_f w3 (.int .i64 e) (.int .i64 z) 35
     clear n3 T3 own3 bA heq hsc2 hne hR hR2
     go_upto_region 17 with fail
     generalize w3.alloc (.cells #[.int .i64 e, .int .i64 z] 35) = W4 at *
     obtain ⟨c0, c1, d0, d1, f0', f1', g0, g1⟩ := T4.out.cells
     have T5 := Lib.hid ((T4.out.set0 (.int .i64 e) e 0 rfl).set1 (.int .i64 z) e z rfl)
     clear T4
     go_wp2_with fail
     clear c0 c1 d0 d1 f0' f1' g0 g1 k5 k6
     generalize (W4.setCell ⟨w.heap.size + 1, 0, none⟩ _).setCell ⟨w.heap.size + 1, 1, none⟩ _ = W5 at *
     obtain ⟨c0, c1, d0, d1, f0', f1', g0, g1⟩ := T5.out.cells
     clear c0 c1 f0' f1' g0 g1
     go_wp2_with fail
     go_still_tail 2, (by kernel_rfl)
     repeat still_step
     change wpList _ _ _ _ _ W5.drew
     have T6 := T5.out.below (Below.refl _ _).drew
     clear T5 d0 d1
     generalize W5.drew = W6 at *
     obtain ⟨c0, c1, -, -, f0', f1', -, -⟩ := T6.cells
     obtain ⟨nf, s0', s1'⟩ := T6.told (.int .i64 e) (.int .i64 z)
     replace nf := Lib.hid nf
     replace s0' := Lib.hid s0'
     replace s1' := Lib.hid s1'
     clear T6
     go_wp2_with fail
     replace s0' := s0'.out
     replace s1' := s1'.out
     clear c0 c1 f0' f1'
     generalize (W6.setCell ⟨w.heap.size, 0, none⟩ _).setCell ⟨w.heap.size, 1, none⟩ _ = Wz at *
     refine bodyPost_ret ?_ rfl (fin.out _ nf.out)
     simp [results, Tryz.results129, go_sem, s0', s1']
   ·rw [scn_step false hI, if_pos (by unfold inB; simp [h59]), if_neg hbk] at hsc2
    have q59 : ((byN s I : Int) == 59) = false := by simp; omega
    generalize byN s I = c at *
    clear h59 hbk hbk' cC2 hsc
    generalize tokS s I = U at *
    obtain ⟨⟨t0, t1, t2, t3, t4⟩, e, z⟩ := U
    simp only [tkV] at cO2 hsc2 ht
    by_cases he : e = 0
    ·rw [if_neg (by simpa using he)] at hsc2
     obtain ⟨hz, ht1, ht2, ht3, ht4, ht5⟩ := ht.1 he
     subst he hz ht3
     obtain ⟨E, rfl⟩ : ∃ E : Nat, t2 = E := ⟨t2.toNat, by omega⟩
     rw [Int.toNat_natCast, pre_pre] at hsc2
     replace hsc2 := Lib.hid hsc2
     clear ht
     go_wp2_with fail
     refine cB2.out _ _ (Lib.hid fun w1 n1 => ?_)
     have T2 := Lib.hid (T.out.below n1)
     have own2 := Lib.hid (own_below own.out n1)
     clear n1 T own
     go_wp2_with fail
     refine cO2.out _ _ (Lib.hid fun w2 n2 => ?_)
     have T3 := T2.out.below n2
     have own3 := own_below own2.out n2
     obtain ⟨o2_, ho2_⟩ : ∃ oO_ : Obj, oO_ = .cells #[.int .i64 t0, .int .i64 (I : Nat), .int .i64 (E : Nat), .string t3, .int .i64 t4] 212 := ⟨_, rfl⟩
     have bA := (Below.refl w2.heap.size w2).alloc (Nat.le_refl _) o2_
     have bB := bA.alloc bA.size (.cells #[.int .i64 0, .int .i64 0] 35)
     have T4 := T3.below bB
     have own4 := own_below own3 bB
     obtain ⟨k0, k1, k2, k3, k4, k5, k6⟩ := boxes_tf w2 t0 (I : Nat) (E : Nat) t3 t4 0 0
     have hB : w2.heap.size < ((w2.alloc o2_).alloc (.cells #[.int .i64 0, .int .i64 0] 35)).heap.size := by simp; omega
     have hlt4 : w.heap.size + 2 ≤ ((w2.alloc o2_).alloc (.cells #[.int .i64 0, .int .i64 0] 35)).heap.size := T4.lt
     subst ho2_
     replace T4 := Lib.hid T4
     have hne := Lib.hid (show vo.ownBlock ≠ some w2.heap.size from fun e => by have := (own3.lt _ e).2; omega)
     replace own4 := Lib.hid own4
     clear n2 T2 own2 T3 own3 bA bB
     go_wp2_with (at_builtin; go_loud (refine appK _ #[.int .i64 t0, .int .i64 (I : Nat), .int .i64 (E : Nat), .string t3, .int .i64 t4] 5 212 rfl _ _ 138 rfl (w.heap.size + 2) i0 (tkV zT) 48 Tryz.underlying138 hInf hz0 hz1 hz2 rfl (by decide) rfl vo L (flatG encT l) rfl own4.out _ rfl (by simp) (by simp [Value.oneCell']) (by unfold maxLen; omega) (by omega) hlt4 ?_); intro v' w3 hown3 hg3 hb3; have k2' := (World.cell?_of_block (a := ⟨w2.heap.size, 2, none⟩) (hg3.block w2.heap.size hB (fun e => hne.out e.symm))).trans k2)
     have T5 := Lib.hid (T4.out.below2 hb3)
     have own5 := Lib.hid (show w3.ownsRow (w.heap.size + 2) 212 5 v' (L + 1) (flatG encT (l ++ [(t0, (I : Int), (E : Int), t3, t4)])) by rw [flatG_snoc]; exact hown3)
     have hL2 := Lib.hid (show (l ++ [(t0, (I : Int), (E : Int), t3, t4)]).length = L + 1 by simp [hL.out])
     clear hown3 hg3 hb3 T4 own4
     go_wp2_with fail
     go_roundg (gk - (E - I))
     case measure => omega
     case rel => exact ⟨E, L + 1, v', _, rfl, rfl, by omega, by omega, by omega, hL2, T5, own5, hsc2⟩
    ·rw [if_pos (by simpa using he), pre_none] at hsc2
     have fin := Lib.hid fun w' hb => hR2.out e z w' hsc2.symm hb
     have q1 : (e != 0) = true := by simpa using he
     clear hsc2 ht own he hR hR2
     go_wp2_with fail
     refine cB2.out _ _ (Lib.hid fun w1 n1 => ?_)
     have T2 := Lib.hid (T.out.below n1)
     clear n1 T
     go_wp2_with fail
     refine cO2.out _ _ (Lib.hid fun w2 n2 => ?_)
     have T3 := T2.out.below n2
     have bA := (Below.refl w2.heap.size w2).alloc (Nat.le_refl _) (.cells #[.int .i64 t0, .int .i64 t1, .int .i64 t2, .string t3, .int .i64 t4] 212)
     have bB := bA.alloc bA.size (.cells #[.int .i64 e, .int .i64 z] 35)
     have T4 := Lib.hid (T3.below bB)
     obtain ⟨k0, k1, k2, k3, k4, k5, k6⟩ := boxes_tf w2 t0 t1 t2 t3 t4 e z
     clear n2 T2 T3 bA bB k0 k1 k2 k3 k4
     go_upto_region 9 with fail
     generalize (w2.alloc (.cells #[.int .i64 t0, .int .i64 t1, .int .i64 t2, .string t3, .int .i64 t4] 212)).alloc (.cells #[.int .i64 e, .int .i64 z] 35) = W4 at *
     obtain ⟨c0, c1, d0, d1, f0', f1', g0, g1⟩ := T4.out.cells
     have T5 := Lib.hid ((T4.out.set0 (.int .i64 e) e 0 rfl).set1 (.int .i64 z) e z rfl)
     clear T4
     go_wp2_with fail
     clear c0 c1 d0 d1 f0' f1' g0 g1 k5 k6
     generalize (W4.setCell ⟨w.heap.size + 1, 0, none⟩ _).setCell ⟨w.heap.size + 1, 1, none⟩ _ = W5 at *
     obtain ⟨c0, c1, d0, d1, f0', f1', g0, g1⟩ := T5.out.cells
     clear c0 c1 f0' f1' g0 g1
     go_wp2_with fail
     go_still_tail 2, (by kernel_rfl)
     repeat still_step
     change wpList _ _ _ _ _ W5.drew
     have T6 := T5.out.below (Below.refl _ _).drew
     clear T5 d0 d1
     generalize W5.drew = W6 at *
     obtain ⟨c0, c1, -, -, f0', f1', -, -⟩ := T6.cells
     obtain ⟨nf, s0', s1'⟩ := T6.told (.int .i64 e) (.int .i64 z)
     replace nf := Lib.hid nf
     replace s0' := Lib.hid s0'
     replace s1' := Lib.hid s1'
     clear T6
     go_wp2_with fail
     replace s0' := s0'.out
     replace s1' := s1'.out
     clear c0 c1 f0' f1'
     generalize (W6.setCell ⟨w.heap.size, 0, none⟩ _).setCell ⟨w.heap.size, 1, none⟩ _ = Wz at *
     refine bodyPost_ret ?_ rfl (fin.out _ nf.out)
     simp [results, Tryz.results129, go_sem, s0', s1']
  ·obtain rfl : I = s.size := by omega
   have hs2 := hsc.out
   rw [scn_end false rfl] at hs2
   have hv : V = (some (l ++ [endT s]), 0, 0) := hs2.symm
   have fin := Lib.hid fun v' w' rd fr hb => hR.out (l ++ [endT s]) v' w' hv rd fr hb
   have hlt : w.heap.size + 2 ≤ wr.heap.size := T.out.lt
   have ow := own.out
   obtain ⟨c0, c1, d0, d1, f0', f1', g0, g1⟩ := T.out.cells
   clear hsc hs2 hv own hR hR2 c0 c1 f0' f1' g0 g1
   go_wp2_with (at_builtin; go_loud (refine appK wr #[.int .i64 0, .int .i64 (s.size : Nat), .int .i64 (s.size : Nat), .string ⟨#[]⟩, .int .i64 0] 5 212 rfl _ _ 138 rfl (w.heap.size + 2) i0 (tkV zT) 48 Tryz.underlying138 hInf hz0 hz1 hz2 rfl (by decide) rfl vo L (flatG encT l) rfl ow _ rfl rfl (by simp [Value.oneCell']) (by unfold maxLen; omega) (by omega) hlt ?_); intro v' w3 hown3 hg3 hb3; have T3 := T.out.below2 hb3; obtain ⟨c0, c1, -, -, f0', f1', -, -⟩ := T3.cells)
   obtain ⟨nf, s0', s1'⟩ := T3.told (.int .i64 0) (.int .i64 0)
   have rd := RdG.of_own (l := l ++ [endT s]) (enc := encT) (k := 5) (by
    have := ownsRow_setCell_below (ownsRow_setCell_below hown3 (a := ⟨w.heap.size, 0, none⟩) (Nat.lt_succ_of_lt (Nat.lt_succ_self _)) (.int .i64 0)) (a := ⟨w.heap.size, 1, none⟩) (Nat.lt_succ_of_lt (Nat.lt_succ_self _)) (.int .i64 0)
    rw [flatG_snoc]
    exact this)
   have fr : FrV w.heap.size v' := fun g o n c h => by have := FrV.of_own hown3 g o n c h; omega
   clear hown3 hg3 hb3 T3 c0 c1 f0' f1' d0 d1
   generalize (w3.setCell ⟨w.heap.size, 0, none⟩ _).setCell ⟨w.heap.size, 1, none⟩ _ = Wz at *
   refine bodyPost_ret ?_ rfl (fin.out _ _ rd fr nf)
   simp [results, Tryz.results129, go_sem, s0', s1']
theorem scan_calls (s : ByteArray) (hs : s.size ≤ maxLen) (w : World) (R : Ending → World → Prop)
  (hR : Hid (∀ l v' w', scnS s = (some l, 0, 0) → RdK w' v' l → Below w.heap.size w w' → R (.returned (.tuple #[v', .agg #[.int .i64 0, .int .i64 0]])) w'))
  (hR2 : Hid (∀ e z A c w', scnS s = (none, e, z) → Below w.heap.size w w' → R (.returned (.tuple #[.slice A 0 c, .agg #[.int .i64 e, .int .i64 z]])) w')) : Calls Tryz.prog 129 #[.string s] w R :=
 scan0_calls s hs w R (Lib.hid fun l v' w' h rd _ hb => hR.out l v' w' h rd hb) (Lib.hid fun e z w' h hb => hR2.out e z none 0 w' h hb)
end Go.Proofs.YtncijmodlhijoaaGreat.Tok
