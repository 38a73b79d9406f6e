import Derived.Test.YtncijmodlhijoaaGreatQ44
import Derived.Test.YtncijmodlhijoaaGreatQ17
set_option linter.unusedVariables false
set_option maxRecDepth 100000
set_option maxHeartbeats 4000000
namespace Go.Proofs.YtncijmodlhijoaaGreat.Syn
open Go.RowKit Go.Lib Utf Tok Cur Nam Lat Kin
theorem Nx.to {w V : World} {q p g g' T : Nat} {d : Int} {s' : PS} (n : Nx w q p g d V g' s') : Nt T w q p g d V g' s' := ⟨n.g, n.ps, Ch.gr n.gr (.inl rfl)⟩
theorem Nt.nx {w V W : World} {q p g g1 g2 T : Nat} {d : Int} {s1 s2 : PS} (a : Nt T w q p g d V g1 s1) (b : Nx V q p g1 d W g2 s2) : Nt T w q p g d W g2 s2 :=
 ⟨by have := a.ch.size; rcases b.g with rfl | h; exact a.g; exact .inr (Nat.le_trans this h), b.ps, a.ch.trans (Ch.gr (T := fun k => k = p ∨ k = T) b.gr (.inl rfl)) fun _ _ e => e⟩
theorem Nt.far {w V : World} {q p g g1 T : Nat} {d : Int} {s1 : PS} (a : Nt T w q p g d V g1 s1) (l : T < w.heap.size) (h : g ≠ T) : g1 ≠ T := by rcases a.g with rfl | e <;> omega
theorem Nt.set {w V : World} {q p g g1 T : Nat} {d : Int} {s1 : PS} (a : Nt T w q p g d V g1 s1) (l : T < w.heap.size) (h : T ≠ q ∧ T ≠ p ∧ g ≠ T) (o : Nat) (v : Value) : Nt T w q p g d (V.setCell ⟨T, o, none⟩ v) g1 s1 :=
 ⟨a.g, a.ps.set h.1.symm h.2.1.symm (a.far l h.2.2) o v, a.ch.set (fun _ => .inr rfl) o v⟩
theorem Nx.blk {w V : World} {q p g g1 T : Nat} {d : Int} {s1 : PS} (n : Nx w q p g d V g1 s1) (l : T < w.heap.size) (h : T ≠ p) : V.heap[T]? = w.heap[T]? := n.gr.block T l fun e => by simp only [Option.some.injEq] at e; exact h e
theorem Nx.kp {w V : World} {q p g g1 b b0 : Nat} {d : Int} {s1 : PS} (n : Nx w q p g d V g1 s1) (lp : p < b) (h : b0 ≤ b) : Kp (empW (lowS b) w) (empW (lowS b0) V) := (Ch.gr (T := (· = p)) n.gr rfl).kp (fun k h1 _ h2 => by omega) h
theorem kp_set {w : World} {b b0 T : Nat} (lT : T < b) (h : b0 ≤ b) (o : Nat) (v : Value) : Kp (empW (lowS b) w) (empW (lowS b0) (w.setCell ⟨T, o, none⟩ v)) := ((Ch.bl (T := (· = T)) (Below.refl _ w)).set (b := T) (fun _ => rfl) o v).kp (fun k h1 _ h2 => by omega) h
theorem marks_calls (s : PS) (q p g T : Nat) (z0 z1 z2 z9 z10 z11 z12 z13 z14 z15 z16 z17 : Value) (x : PH) (d : Int) (w : World) (h : PsG w q p g d s) (hl : s.1.length ≤ 1000000) (hT : w.heap[T]? = some (.cells #[z0, z1, z2, .slice none 0 0, .int .i64 0, .int .i64 0, .int .i64 0, .int .i64 0, .slice none 0 0, z9, z10, z11, z12, z13, z14, z15, z16, z17] 92)) (nT : T ≠ q ∧ T ≠ p ∧ g ≠ T) (R : Ending → World → Prop)
  (hR : Hid (∀ w' g' lv cv, Nt T w q p g d w' g' (marksC x s).2 → w'.heap[T]? = some (.cells #[z0, z1, z2, lv, .int .i64 (marksC x s).1.wide, .int .i64 (marksC x s).1.ck, .int .i64 (marksC x s).1.cn, .int .i64 (marksC x s).1.cat, cv, z9, z10, z11, z12, z13, z14, z15, z16, z17] 92) → RdW (empW (lowS w.heap.size) w') lv (marksC x s).1.label → RdW (empW (lowS w.heap.size) w') cv (marksC x s).1.cl → R (.returned (.tuple #[])) w')) : Calls Tryz.prog 280 #[ptV q, ptV T] w R := by
 have lp := h.cur.lt
 have lT := bltK hT
 have b0 := h.b0
 have hq : marksC x s = (⟨x.name, x.at_, x.bare, (labelC s).1, (wideC (labelC s).2).1, (seeC (wideC (labelC s).2).2).1.1, (seeC (wideC (labelC s).2).2).1.2.1, (seeC (wideC (labelC s).2).2).1.2.2.1, (seeC (wideC (labelC s).2).2).1.2.2.2⟩, (seeC (wideC (labelC s).2).2).2) := rfl
 rw [hq] at hR
 simp only at hR
 clear hq
 have gl := gd_label s h.ok
 have gw := gd_wide _ gl.1
 have nt : Nt T w q p g d w g s := (Nx.rfl' h).to
 go_enter Tryz.func280, Tryz.ntmps280
 go_wp2_with fail
 refine label_calls s q p g d w h hl _ (Lib.hid fun w1 g1 v1 n1 r1 => ?_)
 obtain ⟨A1, c1, rfl, -, -⟩ := r1.op
 replace hT := (n1.blk (bltK hT) nT.2.1).trans hT
 replace nt := nt.nx n1
 have y3 := (Lib.cell_of_heap hT 3).trans rfl
 have yf3 := Lib.frozen_of_heap hT 3
 replace r1 := r1.kp (kp_set (b := w.heap.size) (b0 := w.heap.size) lT (Nat.le_refl _) 3 (.slice A1 (labelC s).1.length c1))
 replace nt := nt.set lT nT 3 (.slice A1 (labelC s).1.length c1)
 replace hT := satK hT 3 (.slice A1 (labelC s).1.length c1)
 simp only [List.setIfInBounds_toArray, List.set_cons_succ, List.set_cons_zero] at hT
 go_upto_region 1 with fail
 generalize w1.setCell ⟨T, 3, none⟩ (.slice A1 (labelC s).1.length c1) = V1 at *
 clear y3 yf3
 clear n1 b0
 have b0 := nt.ps.b0
 have hwd : wideC (labelC s).2 = if (mayS (labelC s).2 hash).2 = true then intS (mayS (labelC s).2 hash).1 else (0, (mayS (labelC s).2 hash).1) := rfl
 go_wp2_with fail
 refine may_calls _ hash q p g1 d _ nt.ps _ (Lib.hid fun w2 n2 => ?_)
 replace hT := (n2.blk (bltK hT) nT.2.1).trans hT
 replace nt := nt.nx n2
 replace r1 := r1.kp (n2.kp lp (Nat.le_refl _))
 clear n2 b0
 have lm2 := may_len (labelC s).2 hash
 generalize (mayS (labelC s).2 hash).1 = s2 at *
 cases hm2 : (mayS (labelC s).2 hash).2
 ·rw [hm2, if_neg (by decide)] at hwd
  rw [hwd] at hR gw
  simp only at hR gw
  clear hwd hm2
  generalize s2 = s3 at *
  have b0 := nt.ps.b0
  have hse : seeC s3 = if (mayS s3 tilde).2 = true then coaC (mayS s3 tilde).1 else ((0, 0, 0, []), (mayS s3 tilde).1) := rfl
  go_wp2_with fail
  refine may_calls s3 tilde q p _ d _ nt.ps _ (Lib.hid fun w5 n5 => ?_)
  replace hT := (n5.blk (bltK hT) nT.2.1).trans hT
  replace nt := nt.nx n5
  replace r1 := r1.kp (n5.kp lp (Nat.le_refl _))
  clear n5 b0
  have lm := may_len s3 tilde
  generalize (mayS s3 tilde).1 = s4 at *
  cases hm5 : (mayS s3 tilde).2
  ·rw [hm5, if_neg (by decide)] at hse
   rw [hse] at hR
   simp only at hR
   have fin := Lib.hid (hR.out _ _ _ _ nt hT r1 (RdW.none0 _))
   clear hR nt hT r1
   go_wp2_with fail
   first | refine bodyPost_ret ?_ rfl fin.out | refine bodyPost_end ?_ rfl fin.out
   simp [results, Tryz.results280, go_sem]
  ·rw [hm5, if_pos rfl] at hse
   rw [hse] at hR
   have sz := nt.ch.size
   go_wp2_with fail
   refine coarseK_calls s4 q p _ d _ nt.ps (by omega) _ (Lib.hid fun w6 g6 v6 n6 r6 => ?_)
   obtain ⟨A6, c6, rfl, -, -⟩ := r6.op
   replace hT := (n6.blk (bltK hT) nT.2.1).trans hT
   replace nt := nt.nx n6
   replace r1 := r1.kp (n6.kp lp (Nat.le_refl _))
   replace r6 := r6.kp (emp_kp (Nat.le_refl _) fun k hk nk => ⟨by unfold lowS at *; omega, rfl⟩ : Kp _ (empW (lowS w.heap.size) _))
   have y5 := (Lib.cell_of_heap hT 5).trans rfl
   have yf5 := Lib.frozen_of_heap hT 5
   have y6 := (Lib.cell_of_heap hT 6).trans rfl
   have yf6 := Lib.frozen_of_heap hT 6
   have y7 := (Lib.cell_of_heap hT 7).trans rfl
   have yf7 := Lib.frozen_of_heap hT 7
   have y8 := (Lib.cell_of_heap hT 8).trans rfl
   have yf8 := Lib.frozen_of_heap hT 8
   replace r1 := r1.kp (kp_set (b := w.heap.size) (b0 := w.heap.size) lT (Nat.le_refl _) 5 (.int .i64 (coaC s4).1.1))
   replace r1 := r1.kp (kp_set (b := w.heap.size) (b0 := w.heap.size) lT (Nat.le_refl _) 6 (.int .i64 (coaC s4).1.2.1))
   replace r1 := r1.kp (kp_set (b := w.heap.size) (b0 := w.heap.size) lT (Nat.le_refl _) 7 (.int .i64 (coaC s4).1.2.2.1))
   replace r1 := r1.kp (kp_set (b := w.heap.size) (b0 := w.heap.size) lT (Nat.le_refl _) 8 (.slice A6 (coaC s4).1.2.2.2.length c6))
   replace r6 := r6.kp (kp_set (b := w.heap.size) (b0 := w.heap.size) lT (Nat.le_refl _) 5 (.int .i64 (coaC s4).1.1))
   replace r6 := r6.kp (kp_set (b := w.heap.size) (b0 := w.heap.size) lT (Nat.le_refl _) 6 (.int .i64 (coaC s4).1.2.1))
   replace r6 := r6.kp (kp_set (b := w.heap.size) (b0 := w.heap.size) lT (Nat.le_refl _) 7 (.int .i64 (coaC s4).1.2.2.1))
   replace r6 := r6.kp (kp_set (b := w.heap.size) (b0 := w.heap.size) lT (Nat.le_refl _) 8 (.slice A6 (coaC s4).1.2.2.2.length c6))
   replace nt := nt.set lT nT 5 (.int .i64 (coaC s4).1.1)
   replace hT := satK hT 5 (.int .i64 (coaC s4).1.1)
   replace nt := nt.set lT nT 6 (.int .i64 (coaC s4).1.2.1)
   replace hT := satK hT 6 (.int .i64 (coaC s4).1.2.1)
   replace nt := nt.set lT nT 7 (.int .i64 (coaC s4).1.2.2.1)
   replace hT := satK hT 7 (.int .i64 (coaC s4).1.2.2.1)
   replace nt := nt.set lT nT 8 (.slice A6 (coaC s4).1.2.2.2.length c6)
   replace hT := satK hT 8 (.slice A6 (coaC s4).1.2.2.2.length c6)
   simp only [List.setIfInBounds_toArray, List.set_cons_succ, List.set_cons_zero] at hT
   have fin := Lib.hid (hR.out _ _ _ _ nt hT r1 r6)
   clear hR nt hT r1 r6 n6
   go_wp2_with fail
   first | refine bodyPost_ret ?_ rfl fin.out | refine bodyPost_end ?_ rfl fin.out
   simp [results, Tryz.results280, go_sem]
 ·rw [hm2, if_pos rfl] at hwd
  rw [hwd] at hR gw
  clear hwd hm2
  go_wp2_with fail
  refine number_calls s2 q p _ d _ nt.ps _ (Lib.hid fun w3 g3 n3 => ?_)
  replace hT := (n3.blk (bltK hT) nT.2.1).trans hT
  replace nt := nt.nx n3
  replace r1 := r1.kp (n3.kp lp (Nat.le_refl _))
  clear n3
  have y4 := (Lib.cell_of_heap hT 4).trans rfl
  have yf4 := Lib.frozen_of_heap hT 4
  replace r1 := r1.kp (kp_set (b := w.heap.size) (b0 := w.heap.size) lT (Nat.le_refl _) 4 (.int .i64 (intS s2).1))
  replace nt := nt.set lT nT 4 (.int .i64 (intS s2).1)
  replace hT := satK hT 4 (.int .i64 (intS s2).1)
  simp only [List.setIfInBounds_toArray, List.set_cons_succ, List.set_cons_zero] at hT
  go_upto_region 3 with fail
  generalize w3.setCell ⟨T, 4, none⟩ (.int .i64 (intS s2).1) = V3 at *
  clear y4 yf4
  generalize (intS s2).2 = s3 at *
  generalize (intS s2).1 = nn at *
  have b0 := nt.ps.b0
  have hse : seeC s3 = if (mayS s3 tilde).2 = true then coaC (mayS s3 tilde).1 else ((0, 0, 0, []), (mayS s3 tilde).1) := rfl
  go_wp2_with fail
  refine may_calls s3 tilde q p _ d _ nt.ps _ (Lib.hid fun w5 n5 => ?_)
  replace hT := (n5.blk (bltK hT) nT.2.1).trans hT
  replace nt := nt.nx n5
  replace r1 := r1.kp (n5.kp lp (Nat.le_refl _))
  clear n5 b0
  have lm := may_len s3 tilde
  generalize (mayS s3 tilde).1 = s4 at *
  cases hm5 : (mayS s3 tilde).2
  ·rw [hm5, if_neg (by decide)] at hse
   rw [hse] at hR
   simp only at hR
   have fin := Lib.hid (hR.out _ _ _ _ nt hT r1 (RdW.none0 _))
   clear hR nt hT r1
   go_wp2_with fail
   first | refine bodyPost_ret ?_ rfl fin.out | refine bodyPost_end ?_ rfl fin.out
   simp [results, Tryz.results280, go_sem]
  ·rw [hm5, if_pos rfl] at hse
   rw [hse] at hR
   have sz := nt.ch.size
   go_wp2_with fail
   refine coarseK_calls s4 q p _ d _ nt.ps (by omega) _ (Lib.hid fun w6 g6 v6 n6 r6 => ?_)
   obtain ⟨A6, c6, rfl, -, -⟩ := r6.op
   replace hT := (n6.blk (bltK hT) nT.2.1).trans hT
   replace nt := nt.nx n6
   replace r1 := r1.kp (n6.kp lp (Nat.le_refl _))
   replace r6 := r6.kp (emp_kp (Nat.le_refl _) fun k hk nk => ⟨by unfold lowS at *; omega, rfl⟩ : Kp _ (empW (lowS w.heap.size) _))
   have y5 := (Lib.cell_of_heap hT 5).trans rfl
   have yf5 := Lib.frozen_of_heap hT 5
   have y6 := (Lib.cell_of_heap hT 6).trans rfl
   have yf6 := Lib.frozen_of_heap hT 6
   have y7 := (Lib.cell_of_heap hT 7).trans rfl
   have yf7 := Lib.frozen_of_heap hT 7
   have y8 := (Lib.cell_of_heap hT 8).trans rfl
   have yf8 := Lib.frozen_of_heap hT 8
   replace r1 := r1.kp (kp_set (b := w.heap.size) (b0 := w.heap.size) lT (Nat.le_refl _) 5 (.int .i64 (coaC s4).1.1))
   replace r1 := r1.kp (kp_set (b := w.heap.size) (b0 := w.heap.size) lT (Nat.le_refl _) 6 (.int .i64 (coaC s4).1.2.1))
   replace r1 := r1.kp (kp_set (b := w.heap.size) (b0 := w.heap.size) lT (Nat.le_refl _) 7 (.int .i64 (coaC s4).1.2.2.1))
   replace r1 := r1.kp (kp_set (b := w.heap.size) (b0 := w.heap.size) lT (Nat.le_refl _) 8 (.slice A6 (coaC s4).1.2.2.2.length c6))
   replace r6 := r6.kp (kp_set (b := w.heap.size) (b0 := w.heap.size) lT (Nat.le_refl _) 5 (.int .i64 (coaC s4).1.1))
   replace r6 := r6.kp (kp_set (b := w.heap.size) (b0 := w.heap.size) lT (Nat.le_refl _) 6 (.int .i64 (coaC s4).1.2.1))
   replace r6 := r6.kp (kp_set (b := w.heap.size) (b0 := w.heap.size) lT (Nat.le_refl _) 7 (.int .i64 (coaC s4).1.2.2.1))
   replace r6 := r6.kp (kp_set (b := w.heap.size) (b0 := w.heap.size) lT (Nat.le_refl _) 8 (.slice A6 (coaC s4).1.2.2.2.length c6))
   replace nt := nt.set lT nT 5 (.int .i64 (coaC s4).1.1)
   replace hT := satK hT 5 (.int .i64 (coaC s4).1.1)
   replace nt := nt.set lT nT 6 (.int .i64 (coaC s4).1.2.1)
   replace hT := satK hT 6 (.int .i64 (coaC s4).1.2.1)
   replace nt := nt.set lT nT 7 (.int .i64 (coaC s4).1.2.2.1)
   replace hT := satK hT 7 (.int .i64 (coaC s4).1.2.2.1)
   replace nt := nt.set lT nT 8 (.slice A6 (coaC s4).1.2.2.2.length c6)
   replace hT := satK hT 8 (.slice A6 (coaC s4).1.2.2.2.length c6)
   simp only [List.setIfInBounds_toArray, List.set_cons_succ, List.set_cons_zero] at hT
   have fin := Lib.hid (hR.out _ _ _ _ nt hT r1 r6)
   clear hR nt hT r1 r6 n6
   go_wp2_with fail
   first | refine bodyPost_ret ?_ rfl fin.out | refine bodyPost_end ?_ rfl fin.out
   simp [results, Tryz.results280, go_sem]
theorem kind_calls (s : PS) (q p g : Nat) (d : Int) (w : World) (h : PsG w q p g d s) (R : Ending → World → Prop) (hR : Hid (∀ w' g', Nx w q p g d w' g' (kindC s).2 → R (.returned (.int .i64 (kindC s).1)) w')) : Calls Tryz.prog 134 #[ptV q] w R := by
 have kk : kindC s = if (wordS s sBool).2 = true then (1, (wordS s sBool).1) else if (wordS s sInt).2 = true then (2, (wordS s sInt).1) else if (wordS s sText).2 = true then (3, (wordS s sText).1) else if (wordS s sEnum).2 = true then (4, (wordS s sEnum).1) else if (wordS s sList).2 = true then (5, (wordS s sList).1) else if (wordS s sOpt).2 = true then (6, (wordS s sOpt).1) else if (wordS s sRecord).2 = true then (7, (wordS s sRecord).1) else if (wordS s sUnion).2 = true then (8, (wordS s sUnion).1) else if (wordS s sRef).2 = true then (9, (wordS s sRef).1) else (0, rstS s) := rfl
 have n := Nx.rfl' h
 go_enter Tryz.func134, Tryz.ntmps134
 have b0 := n.ps.b0
 go_wp2_with fail
 refine wordK_calls s sBool q p g d _ n.ps _ (Lib.hid fun w0 n0 => ?_)
 replace n := n.trans n0
 clear n0 b0
 cases hw0 : (wordS s sBool).2
 ·rw [word_no hw0] at n
  rw [hw0, if_neg (by decide)] at kk
  clear hw0
  have b0 := n.ps.b0
  go_wp2_with fail
  refine wordK_calls s sInt q p g d _ n.ps _ (Lib.hid fun w1 n1 => ?_)
  replace n := n.trans n1
  clear n1 b0
  cases hw1 : (wordS s sInt).2
  ·rw [word_no hw1] at n
   rw [hw1, if_neg (by decide)] at kk
   clear hw1
   have b0 := n.ps.b0
   go_wp2_with fail
   refine wordK_calls s sText q p g d _ n.ps _ (Lib.hid fun w2 n2 => ?_)
   replace n := n.trans n2
   clear n2 b0
   cases hw2 : (wordS s sText).2
   ·rw [word_no hw2] at n
    rw [hw2, if_neg (by decide)] at kk
    clear hw2
    have b0 := n.ps.b0
    go_wp2_with fail
    refine wordK_calls s sEnum q p g d _ n.ps _ (Lib.hid fun w3 n3 => ?_)
    replace n := n.trans n3
    clear n3 b0
    cases hw3 : (wordS s sEnum).2
    ·rw [word_no hw3] at n
     rw [hw3, if_neg (by decide)] at kk
     clear hw3
     have b0 := n.ps.b0
     go_wp2_with fail
     refine wordK_calls s sList q p g d _ n.ps _ (Lib.hid fun w4 n4 => ?_)
     replace n := n.trans n4
     clear n4 b0
     cases hw4 : (wordS s sList).2
     ·rw [word_no hw4] at n
      rw [hw4, if_neg (by decide)] at kk
      clear hw4
      have b0 := n.ps.b0
      go_wp2_with fail
      refine wordK_calls s sOpt q p g d _ n.ps _ (Lib.hid fun w5 n5 => ?_)
      replace n := n.trans n5
      clear n5 b0
      cases hw5 : (wordS s sOpt).2
      ·rw [word_no hw5] at n
       rw [hw5, if_neg (by decide)] at kk
       clear hw5
       have b0 := n.ps.b0
       go_wp2_with fail
       refine wordK_calls s sRecord q p g d _ n.ps _ (Lib.hid fun w6 n6 => ?_)
       replace n := n.trans n6
       clear n6 b0
       cases hw6 : (wordS s sRecord).2
       ·rw [word_no hw6] at n
        rw [hw6, if_neg (by decide)] at kk
        clear hw6
        have b0 := n.ps.b0
        go_wp2_with fail
        refine wordK_calls s sUnion q p g d _ n.ps _ (Lib.hid fun w7 n7 => ?_)
        replace n := n.trans n7
        clear n7 b0
        cases hw7 : (wordS s sUnion).2
        ·rw [word_no hw7] at n
         rw [hw7, if_neg (by decide)] at kk
         clear hw7
         have b0 := n.ps.b0
         go_wp2_with fail
         refine wordK_calls s sRef q p g d _ n.ps _ (Lib.hid fun w8 n8 => ?_)
         replace n := n.trans n8
         clear n8 b0
         cases hw8 : (wordS s sRef).2
         ·rw [word_no hw8] at n
          rw [hw8, if_neg (by decide)] at kk
          clear hw8
          rw [kk] at hR
          simp only at hR
          go_wp2_with fail
          refine refuseStart_calls s q p g d _ n.ps _ (Lib.hid fun w10 g10 n10 => ?_)
          have fin := Lib.hid (hR.out _ _ (n.trans n10))
          clear hR n n10 kk h
          go_wp2_with fail
          exact fin.out
         ·rw [hw8, if_pos rfl] at kk
          rw [kk] at hR
          simp only at hR
          have fin := Lib.hid (hR.out _ _ n)
          clear hR n kk hw8 h
          go_wp2_with fail
          exact fin.out
        ·rw [hw7, if_pos rfl] at kk
         rw [kk] at hR
         simp only at hR
         have fin := Lib.hid (hR.out _ _ n)
         clear hR n kk hw7 h
         go_wp2_with fail
         exact fin.out
       ·rw [hw6, if_pos rfl] at kk
        rw [kk] at hR
        simp only at hR
        have fin := Lib.hid (hR.out _ _ n)
        clear hR n kk hw6 h
        go_wp2_with fail
        exact fin.out
      ·rw [hw5, if_pos rfl] at kk
       rw [kk] at hR
       simp only at hR
       have fin := Lib.hid (hR.out _ _ n)
       clear hR n kk hw5 h
       go_wp2_with fail
       exact fin.out
     ·rw [hw4, if_pos rfl] at kk
      rw [kk] at hR
      simp only at hR
      have fin := Lib.hid (hR.out _ _ n)
      clear hR n kk hw4 h
      go_wp2_with fail
      exact fin.out
    ·rw [hw3, if_pos rfl] at kk
     rw [kk] at hR
     simp only at hR
     have fin := Lib.hid (hR.out _ _ n)
     clear hR n kk hw3 h
     go_wp2_with fail
     exact fin.out
   ·rw [hw2, if_pos rfl] at kk
    rw [kk] at hR
    simp only at hR
    have fin := Lib.hid (hR.out _ _ n)
    clear hR n kk hw2 h
    go_wp2_with fail
    exact fin.out
  ·rw [hw1, if_pos rfl] at kk
   rw [kk] at hR
   simp only at hR
   have fin := Lib.hid (hR.out _ _ n)
   clear hR n kk hw1 h
   go_wp2_with fail
   exact fin.out
 ·rw [hw0, if_pos rfl] at kk
  rw [kk] at hR
  simp only at hR
  have fin := Lib.hid (hR.out _ _ n)
  clear hR n kk hw0 h
  go_wp2_with fail
  exact fin.out
theorem bounds_calls (s : PS) (q p g : Nat) (d : Int) (w : World) (h : PsG w q p g d s) (R : Ending → World → Prop) (hR : Hid (∀ w' g', Nx w q p g d w' g' (boundsC s).2 → R (.returned (.tuple #[.int .i64 (boundsC s).1.1, .int .i64 (boundsC s).1.2])) w')) : Calls Tryz.prog 216 #[ptV q] w R := by
 have kk : boundsC s = (((intS s).1, (intS (markS (intS s).2 dots)).1), (intS (markS (intS s).2 dots)).2) := rfl
 rw [kk] at hR
 simp only at hR
 have n := Nx.rfl' h
 go_enter Tryz.func216, Tryz.ntmps216
 go_wp2_with fail
 refine number_calls s q p g d _ h _ (Lib.hid fun w1 g1 n1 => ?_)
 replace n := n.trans n1
 have b0 := n.ps.b0
 go_wp2_with fail
 refine need_calls _ dots q p g1 d _ n.ps _ (Lib.hid fun w2 g2 o2 n2 => ?_)
 replace n := n.trans n2
 go_wp2_with fail
 refine number_calls _ q p g2 d _ n.ps _ (Lib.hid fun w3 g3 n3 => ?_)
 have fin := Lib.hid (hR.out _ _ (n.trans n3))
 clear hR n n1 n2 n3 kk h b0
 go_wp2_with fail
 exact fin.out
theorem row_at {w : World} {B : Nat} {cs : Array Value} {t : TypeId} (h : w.heap[B]? = some (.cells cs t)) (c : Array Value) : (w.setRow B c).heap[B]? = some (.cells c t) := by
 simp [World.setRow, Array.getElem?_modify, h]
theorem Bx.row {w V : World} {p g B : Nat} {cs : Array Value} {t : TypeId} (b : Bx w V p g B cs t) (c : Array Value) : Bx w (V.setRow B c) p g B c t := ⟨row_at b.at_ c, b.lo, b.ne⟩
theorem Ch.row {w w' : World} {T : Nat → Prop} (a : Ch T w w') {b : Nat} (t : b < w.heap.size → T b) (c : Array Value) : Ch T w (w'.setRow b c) :=
 ⟨a.os, a.tape, a.output, by rw [setRow_size]; exact a.size, fun k hk n => (setRow_other w' b k c (by rintro rfl; exact n (t hk))).trans (a.block k hk n)⟩
theorem Nx.row {w V : World} {q p g0 g B : Nat} {d d0 : Int} {s s0 : PS} {cs : Array Value} {t : TypeId} (n : Nx w q p g0 d V g s) (b : Bx w V p g B cs t) (h : PsG w q p g0 d0 s0) (c : Array Value) : Nx w q p g0 d (V.setRow B c) g s := by
 have l := b.lo
 have := h.ql
 have := h.cur.lt
 refine ⟨n.g, n.ps.keep (by rw [setRow_size]; exact Nat.le_refl _) fun k _ e => setRow_other V B k c ?_, (((Ch.gr (T := (· = p)) n.gr rfl).row (b := B) (fun x => by omega) c)).one⟩
 rcases e with rfl | rfl | rfl
 ·omega
 ·omega
 ·exact b.ne
theorem kp_row {w : World} {b b0 T : Nat} (lT : T < b) (h : b0 ≤ b) (c : Array Value) : Kp (empW (lowS b) w) (empW (lowS b0) (w.setRow T c)) := ((Ch.bl (T := (· = T)) (Below.refl _ w)).row (b := T) (fun _ => rfl) c).kp (fun k h1 _ h2 => by omega) h
theorem kp_low {w : World} {b b0 : Nat} (h : b0 ≤ b) : Kp (empW (lowS b) w) (empW (lowS b0) w) := emp_kp (Nat.le_refl _) fun k hk nk => ⟨by unfold lowS at *; omega, rfl⟩
theorem Nt.kp {w V : World} {q p g g1 b b0 T : Nat} {d : Int} {s1 : PS} (n : Nt T w q p g d V g1 s1) (lp : p < b) (lT : T < b) (h : b0 ≤ b) : Kp (empW (lowS b) w) (empW (lowS b0) V) := n.ch.kp (fun k h1 _ h2 => by omega) h
abbrev prV (y : Pt) (lv cv nv pv : Value) : Value := .agg #[.string y.1.name, .int .i64 y.1.at_, .bool y.1.bare, lv, .int .i64 y.1.wide, .int .i64 y.1.ck, .int .i64 y.1.cn, .int .i64 y.1.cat, cv, .int .i64 y.2.1.kind, .int .i64 y.2.1.at_, .int .i64 y.2.1.lo, .int .i64 y.2.1.hi, .int .i64 y.2.1.most, nv, pv, .string y.2.1.name, .int .i64 y.2.1.nat]
structure RdE (w : World) (y : Pt) (lv cv nv pv : Value) : Prop where
 l : RdW w lv y.1.label
 c : RdW w cv y.1.cl
 t : RdY w y.2.1 y.2.2 nv pv
theorem RdE.kp {w w' : World} {y : Pt} {lv cv nv pv : Value} (h : RdE w y lv cv nv pv) (k : Kp w w') : RdE w' y lv cv nv pv := ⟨h.l.kp k, h.c.kp k, RdY.kp k h.t⟩
def TypQ (n : Nat) : Prop := ∀ (s : PS) (q p g : Nat) (w : World), PsG w q p g (24 - (n : Int)) s → s.1.length ≤ 1000000 → ∀ R : Ending → World → Prop,
 Hid (∀ w' g' nv pv, Nx w q p g (24 - (n : Int)) w' g' (typC n s).2 → RdY (empW (lowS w.heap.size) w') (typC n s).1.1 (typC n s).1.2 nv pv → R (.returned (tyV (typC n s).1.1 nv pv)) w') → Calls Tryz.prog 66 #[ptV q] w R
end Go.Proofs.YtncijmodlhijoaaGreat.Syn
