import Derived.Test.YtncijmodlhijoaaGreatQ43
import Derived.Test.YtncijmodlhijoaaGreatQ6
set_option linter.unusedVariables false
set_option maxRecDepth 100000
set_option maxHeartbeats 4000000
namespace Go.Proofs.YtncijmodlhijoaaGreat.Syn
open Go.RowKit Go.Lib Utf Tok Cur Nam Lat Kin
def tlS {α : Type} (el : PS → α × PS) (m : ByteArray) (n : Nat) (p : PS) : List α × PS := if (mayS p m).2 then sepS el m n (mayS p m).1 else ([], p)
theorem sep_tl {α : Type} (el : PS → α × PS) (m : ByteArray) (n : Nat) (p : PS) : sepS el m (n + 1) p = ((el p).1 :: (tlS el m n (el p).2).1, (tlS el m n (el p).2).2) := by
 show (if (mayS (el p).2 m).2 then _ else _) = _
 unfold tlS
 split <;> rfl
theorem tl_yes {α : Type} {el : PS → α × PS} {m : ByteArray} {n : Nat} {p : PS} (h : (mayS p m).2 = true) : tlS el m (n + 1) p = ((el (mayS p m).1).1 :: (tlS el m n (el (mayS p m).1).2).1, (tlS el m n (el (mayS p m).1).2).2) := by
 unfold tlS
 rw [if_pos h, sep_tl]
 rfl
theorem may_no {p : PS} {m : ByteArray} (h : (mayS p m).2 = false) : (mayS p m).1 = p := by
 unfold mayS at *
 split at h
 ·cases h
 ·rename_i c
  rw [if_neg c]
theorem tl_no {α : Type} {el : PS → α × PS} {m : ByteArray} {n : Nat} {p : PS} (h : (mayS p m).2 = false) : tlS el m n p = ([], p) := by
 unfold tlS
 rw [if_neg (by rw [h]; decide)]
theorem ownEmp {w : World} {base : Nat} {e : TypeId} {k n : Nat} {v : Value} {xs : List Value} (h : w.ownsRow base e k v n xs) : RdAt (empW (lowS base) w) v k xs := by
 have h0 := h
 obtain ⟨hl, ⟨rfl, rfl⟩ | ⟨g, cap, cur, rfl, hb, hg, hn, hm, hc, ht⟩⟩ := h
 ·exact ⟨none, 0, 0, rfl, hl, Nat.le_refl _, fun h => absurd h (by omega)⟩
 ·refine ⟨_, n, cap, rfl, hl, hn, fun _ => ⟨g, 0, rfl, ?_, fun j u hj => ?_⟩⟩
  ·rw [emp_size]
   exact (h0.lt g rfl).2
  ·have := h0.cells (g := g) rfl j u hj
   rw [Addr.add_lit] at this
   exact emp_cell.2 ⟨by unfold lowS; omega, this⟩
theorem ownKeep {w w' : World} {base : Nat} {e : TypeId} {k n : Nat} {v : Value} {xs : List Value} (h : w.ownsRow base e k v n xs) (hk : ∀ g, v.ownBlock = some g → w'.heap[g]? = w.heap[g]?) : w'.ownsRow base e k v n xs := by
 obtain ⟨hl, ⟨rfl, rfl⟩ | ⟨g, cap, cur, rfl, hb, hg, h3⟩⟩ := h
 ·exact ⟨hl, .inl ⟨rfl, rfl⟩⟩
 ·exact ⟨hl, .inr ⟨g, cap, cur, rfl, hb, (hk g rfl).trans hg, h3⟩⟩
structure Rw (w V : World) (p g : Nat) (e : TypeId) (k : Nat) (v : Value) (n : Nat) (xs : List Value) : Prop where
 own : V.ownsRow w.heap.size e k v n xs
 ne : ∀ b, v.ownBlock = some b → g ≠ b
theorem Rw.nx {w V W : World} {q p g g' k n : Nat} {d : Int} {s' : PS} {e : TypeId} {v : Value} {xs : List Value} (r : Rw w V p g e k v n xs) (x : Nx V q p g d W g' s') (lp : p < w.heap.size) : Rw w W p g' e k v n xs := by
 refine ⟨ownKeep r.own fun b hb => ?_, fun b hb => ?_⟩
 ·have := r.own.lt b hb
  exact x.gr.block _ this.2 (fun q => by simp only [Option.some.injEq] at q; omega)
 ·have := r.own.lt b hb
  rcases x.g with rfl | h
  ·exact r.ne b hb
  ·omega
theorem Rw.one {w V : World} {p g k : Nat} {e : TypeId} {us : Array Value} (hs : us.size = k) (hw : w.heap.size ≤ V.heap.size) (lg : g < V.heap.size) : Rw w (V.alloc (.cells us e)) p g e k (.slice (some ⟨V.heap.size, 0, none⟩) 1 1) 1 us.toList :=
 ⟨⟨by simp [hs], .inr ⟨V.heap.size, 1, us, rfl, hw, heap_alloc_new V _, Nat.le_refl _, by decide, by omega, by subst hs; rw [Nat.one_mul, ← Array.length_toList, List.take_length]⟩⟩, fun b hb => by
  have e := Option.some.inj (show some V.heap.size = some b from hb)
  omega⟩
theorem Nx.app {w V W : World} {q p g0 g : Nat} {d d0 : Int} {s s0 : PS} {v : Value} {e : TypeId} {k n : Nat} {xs : List Value} (x : Nx w q p g0 d V g s) (h : PsG w q p g0 d0 s0) (r : Rw w V p g e k v n xs) (o : Obj) (gr : V.grownBy W v.ownBlock) : Nx w q p g0 d W g s := by
 have lw := x.gr.size
 have lq := h.ql
 have lp := h.cur.lt
 have ne : ∀ b, b < w.heap.size → v.ownBlock ≠ some b := fun b hb q => by have := (r.own.lt b q).1; omega
 refine ⟨x.g, x.ps.keep gr.size fun b hb e => gr.block b hb ?_, ⟨gr.os.trans x.gr.os, gr.tape.trans x.gr.tape, gr.output.trans x.gr.output, Nat.le_trans x.gr.size gr.size, fun b hb hn => (gr.block b (by omega) fun q => ne b hb q.symm).trans (x.gr.block b hb hn)⟩⟩
 rcases e with rfl | rfl | rfl
 ·exact fun q => ne _ lq q.symm
 ·exact fun q => ne _ lp q.symm
 ·exact fun q => r.ne _ q.symm rfl
theorem wrInfo : (Tryz.prog.info? 27).map (fun i => (i.zero, i.size, i.bytes)) = some (some (.agg #[.string ⟨#[]⟩, .int .i64 0]), 2, 24) := by kernel_rfl
theorem sepW_calls (m : ByteArray) (s : PS) (q p g : Nat) (d : Int) (w : World) (h : PsG w q p g d s) (hl : s.1.length ≤ 1000000) (R : Ending → World → Prop)
  (hR : Hid (∀ w' g' v, Nx w q p g d w' g' (listP nameS m s).2 → RdW (empW (lowS w.heap.size) w') v (listP nameS m s).1 → R (.returned v) w')) : Calls Tryz.prog 245 #[ptV q, .string m, .func (.func 154) #[ptV q] #[]] w R := by
 have lp := h.cur.lt
 obtain ⟨ti, hI, hZ⟩ : ∃ i0, Tryz.prog.info? 27 = some i0 ∧ (i0.zero, i0.size, i0.bytes) = (some (.agg #[.string ⟨#[]⟩, .int .i64 0]), 2, 24) := by
  have := wrInfo
  cases h : Tryz.prog.info? 27 with
  | none => rw [h] at this; cases this
  | some i0 => rw [h] at this; exact ⟨i0, rfl, by simpa using this⟩
 simp only [Prod.mk.injEq] at hZ
 obtain ⟨hz0, hz1, hz2⟩ := hZ
 have gn := gd_name s h.ok
 have e0 : listP nameS m s = ((nameS s).1 :: (tlS nameS m s.1.length (nameS s).2).1, (tlS nameS m s.1.length (nameS s).2).2) := sep_tl _ _ _ _
 go_enter Tryz.func245, Tryz.ntmps245
 go_wp2_with fail
 refine nameK_calls s q p g d w h _ (Lib.hid fun w1 g1 n => ?_)
 generalize hx : (nameS s).1 = x at *
 generalize hs1 : (nameS s).2 = s1 at *
 obtain ⟨x0, x1⟩ := x
 have rw1 := Rw.one (w := w) (V := w1) (p := p) (g := g1) (e := 27) (us := #[.string x0, .int .i64 x1]) rfl n.gr.size n.ps.cur.lg
 replace n := n.alloc (.cells #[.string x0, .int .i64 x1] 27)
 have inv : ∃ n0, s1.1.length ≤ n0 ∧ listP nameS m s = ([(x0, x1)] ++ (tlS nameS m n0 s1).1, (tlS nameS m n0 s1).2) := ⟨s.1.length, gn.2, e0⟩
 clear e0
 have hR2 : Hid (∀ (w' : World) (g' : Nat) (v : Value) (l : List Wr) (s' : PS), listP nameS m s = (l, s') → Nx w q p g d w' g' s' → RdW (empW (lowS w.heap.size) w') v l → R (.returned v) w') := Lib.hid fun w' g' v l s' e n r => by
  refine hR.out w' g' v ?_ ?_
  ·rw [e]; exact n
  ·rw [e]; exact r
 clear hR
 go_upto_region 2 with fail
 generalize w1.alloc (.cells #[.string x0, .int .i64 x1] 27) = V at *
 generalize w1.heap.size = B at *
 replace n := Lib.hid n
 replace rw1 := Lib.hid rw1
 replace inv := Lib.hid inv
 go_loopg [7] s1.1.length (fun gk v wr => ∃ (K : Nat) (acc : List Wr) (sK : PS) (gK n0 : Nat) (v' : Value), v' = v ∧ acc.length = K ∧ gk = sK.1.length ∧ K + sK.1.length ≤ s.1.length + 1 ∧ sK.1.length ≤ n0 ∧ Hid (listP nameS m s = (acc ++ (tlS nameS m n0 sK).1, (tlS nameS m n0 sK).2)) ∧ Hid (Nx w q p g d wr gK sK) ∧ Hid (Rw w wr p gK 27 2 v' K (flatG encW acc)))
 case atStart =>
  obtain ⟨n0, i1, i2⟩ := inv.out
  exact ⟨1, [(x0, x1)], s1, g1, n0, _, rfl, rfl, rfl, by have := gn.2; omega, i1, Lib.hid i2, n, rw1⟩
 case round =>
  clear n rw1 inv
  obtain ⟨K, acc, sK, gK, n0, v, rfl, rfl, rfl, e1, e2, e3, n, rw1⟩ := hrel
  replace n := n.out
  replace rw1 := rw1.out
  have b0 := n.ps.b0
  have okK := n.ps.ok
  go_wp2_with fail
  refine may_calls sK m q p gK d _ n.ps _ (Lib.hid fun w2 n2 => ?_)
  replace rw1 := rw1.nx n2 lp
  replace n := n.trans n2
  clear n2 b0
  cases hm : (mayS sK m).2
  ·rw [tl_no hm, List.append_nil] at e3
   rw [may_no hm] at n
   have fin := Lib.hid (hR2.out _ _ v acc sK e3.out n (ownEmp rw1.own))
   clear hR2 n rw1 e3 okK
   go_wp2_with fail
   exact fin.out
  ·have okm := may_ok (m := m) okK
   have lt := may_lt (EndL.ne okK) hm
   obtain ⟨n1, rfl⟩ : ∃ n1, n0 = n1 + 1 := ⟨n0 - 1, by omega⟩
   replace e3 := e3.out
   rw [tl_yes hm] at e3
   generalize (mayS sK m).1 = s3 at *
   have gn3 := gd_name s3 okm
   have b0 := n.ps.b0
   go_wp2_with fail
   refine nameK_calls s3 q p gK d _ n.ps _ (Lib.hid fun w3 g3 n3 => ?_)
   replace rw1 := rw1.nx n3 lp
   replace n := n.trans n3
   clear n3 b0
   generalize (nameS s3).1 = y at *
   generalize (nameS s3).2 = s4 at *
   obtain ⟨y0, y1⟩ := y
   have own2 := Lib.hid rw1.own
   have hsz : w.heap.size ≤ w3.heap.size := n.gr.size
   have lg := n.ps.cur.lg
   go_wp2_with (at_builtin; go_loud (refine appKF w3 #[.string y0, .int .i64 y1] 2 27 rfl _ _ 22 rfl w.heap.size ti (.agg #[.string ⟨#[]⟩, .int .i64 0]) 24 Tryz.underlying22 hI hz0 hz1 hz2 rfl (by decide) rfl _ acc.length (flatG encW acc) rfl own2.out _ rfl rfl (by simp [Value.oneCell']) (by unfold maxLen; omega) (by omega) hsz ?_); rintro v' w4 hown4 hg4 hb4 hfr)
   have nA := n.app h rw1 (.cells #[.string y0, .int .i64 y1] 27) hg4
   have rwA : Rw w w4 p g3 27 2 v' (acc ++ [(y0, y1)]).length (flatG encW (acc ++ [(y0, y1)])) := ⟨by rw [flatG_snoc, List.length_append]; exact hown4, fun b hb q => by
    subst q
    rcases hfr with e | e
    ·rw [e] at hb; exact rw1.ne _ hb rfl
    ·rw [e] at hb
     simp only [Option.some.injEq] at hb
     omega⟩
   have eA : listP nameS m s = (acc ++ [(y0, y1)] ++ (tlS nameS m n1 s4).1, (tlS nameS m n1 s4).2) := by rw [e3, List.append_assoc]; rfl
   replace nA := Lib.hid nA
   replace rwA := Lib.hid rwA
   replace eA := Lib.hid eA
   have l4 : (acc ++ [(y0, y1)]).length = acc.length + 1 := by simp
   clear own2 rw1 n e3 hfr hg4 hb4 hown4 hR2
   go_wp2_with fail
   go_roundg s4.1.length
   case measure => omega
   case rel => exact ⟨_, acc ++ [(y0, y1)], s4, g3, n1, v', rfl, rfl, rfl, by omega, by omega, eA, nA, rwA⟩
theorem RdW.none0 (w : World) : RdW w (.slice none 0 0) [] := RdG.none0 _ _ _
theorem Nx.nt {w V V' : World} {q p g0 g g' C : Nat} {d d0 : Int} {s s0 s' : PS} (n : Nx w q p g0 d V g s) (nt : Nt C V q p g d V' g' s') (hC : w.heap.size ≤ C) (h : PsG w q p g0 d0 s0) : Nx w q p g0 d V' g' s' := by
 have l := n.gr.size
 refine ⟨?_, nt.ps, ((Ch.gr (T := (· = p)) n.gr rfl).trans nt.ch fun k hk e => ?_).one⟩
 ·rcases nt.g with rfl | e
  ·exact n.g
  ·exact .inr (Nat.le_trans l e)
 ·rcases e with e | e
  ·exact e
  ·omega
theorem Bx.nt {w V V' : World} {q p g g' B C : Nat} {d : Int} {s' : PS} {cs : Array Value} {t : TypeId} (b : Bx w V p g B cs t) (nt : Nt C V q p g d V' g' s') (hB : B ≠ C) (lp : p < w.heap.size) : Bx w V' p g' B cs t := by
 have l := b.lt
 have o := b.lo
 refine ⟨(nt.ch.block _ l (by rintro (e | e) <;> omega)).trans b.at_, o, ?_⟩
 rcases nt.g with rfl | h
 ·exact b.ne
 ·omega
theorem Bx.ntc {w V V' : World} {q p g g' B C : Nat} {d : Int} {s' : PS} {cs cs' : Array Value} {t t' : TypeId} (b : Bx w V p g B cs t) (nt : Nt C V q p g d V' g' s') (h : V'.heap[B]? = some (.cells cs' t')) : Bx w V' p g' B cs' t' := by
 have l := b.lt
 refine ⟨h, b.lo, ?_⟩
 rcases nt.g with rfl | h
 ·exact b.ne
 ·omega
theorem isF_coarse1 : IsF 351 := by
 intro args w
 unfold callFunc
 simp [go_sem, Tryz.func351]
 rfl
theorem isF_coarse2 : IsF 352 := by
 intro args w
 unfold callFunc
 simp [go_sem, Tryz.func352]
 rfl
theorem run_field1 (t0 t1 t2 : Int) (t3 : ByteArray) (t4 : Int) (w : World) : (Instr.field 212 (.agg #[.int .i64 t0, .int .i64 t1, .int .i64 t2, .string t3, .int .i64 t4]) 1).run Tryz.prog w = .ok (.int .i64 t1) w := by
 simp [Instr.field, run_underlying Tryz.underlying212, part, asAgg, Tryz.isAgg3, go_sem]
theorem word_no {p : PS} {m : ByteArray} (h : (wordS p m).2 = false) : (wordS p m).1 = p := by
 unfold wordS at *
 split at h
 ·cases h
 ·rename_i c
  rw [if_neg c]
theorem listW_calls (s : PS) (q p g : Nat) (d : Int) (w : World) (h : PsG w q p g d s) (hl : s.1.length ≤ 1000000) (R : Ending → World → Prop)
  (hR : Hid (∀ w' g' v, Nx w q p g d w' g' (listP nameS comma s).2 → RdW (empW (lowS w.heap.size) w') v (listP nameS comma s).1 → R (.returned v) w')) : Calls Tryz.prog 153 #[ptV q, .func (.func 154) #[ptV q] #[]] w R := by
 go_enter Tryz.func153, Tryz.ntmps153
 go_wp2_with fail
 refine sepW_calls comma s q p g d w h hl _ (Lib.hid fun w1 g1 v n1 r1 => ?_)
 have fin := Lib.hid (hR.out w1 g1 v n1 r1)
 clear hR n1 r1
 go_wp2_with fail
 exact fin.out
theorem label_calls (s : PS) (q p g : Nat) (d : Int) (w : World) (h : PsG w q p g d s) (hl : s.1.length ≤ 1000000) (R : Ending → World → Prop)
  (hR : Hid (∀ w' g' v, Nx w q p g d w' g' (labelC s).2 → RdW (empW (lowS w.heap.size) w') v (labelC s).1 → R (.returned v) w')) : Calls Tryz.prog 321 #[ptV q] w R := by
 have b0 := h.b0
 have hmf : ∀ (fn : Fn) (first cap : Array Value) (w : World), (Instr.makeFunc fn first cap).run Tryz.prog w = .ok (.func fn first cap) w := fun _ _ _ _ => rfl
 have hq : labelC s = if (mayS s atS).2 = true then listP nameS plus (mayS s atS).1 else ([], (mayS s atS).1) := rfl
 rw [hq] at hR
 have ml := may_len s atS
 clear hq
 go_enter Tryz.func321, Tryz.ntmps321
 go_wp2_with fail
 refine may_calls s atS q p g d w h _ (Lib.hid fun w1 n1 => ?_)
 clear b0
 generalize (mayS s atS).1 = s1 at *
 cases hm : (mayS s atS).2
 ·rw [hm, if_neg (by decide)] at hR
  have fin := Lib.hid (hR.out w1 g _ n1 (RdW.none0 _))
  clear hR n1
  go_wp2_with fail
  exact fin.out
 ·rw [hm, if_pos rfl] at hR
  go_wp2_with fail
  refine sepW_calls plus s1 q p g d w1 n1.ps (by omega) _ (Lib.hid fun w2 g2 v n2 r2 => ?_)
  have fin := Lib.hid (hR.out w2 g2 v (n1.trans n2) (r2.kp (emp_kp (Nat.le_refl _) fun k hk nk => ⟨by have := n1.gr.size; unfold lowS at *; omega, rfl⟩)))
  clear hR n1 n2 r2
  go_wp2_with fail
  exact fin.out
theorem coarse1_calls (s : PS) (q p g a C : Nat) (z0 z1 z2 z3 : Value) (d : Int) (w : World) (h : PsG w q p g d s) (ha : w.heap[a]? = some (.cells #[ptV q] 133)) (hC : w.heap[C]? = some (.cells #[z0, z1, z2, z3] 90)) (nC : C ≠ q ∧ C ≠ p ∧ g ≠ C) (R : Ending → World → Prop)
  (hR : Hid (∀ w' g', Nt C w q p g d w' g' (intS s).2 → w'.heap[C]? = some (.cells #[z0, .int .i64 (intS s).1, z2, z3] 90) → R (.returned (.tuple #[])) w')) : Calls Tryz.prog 351 #[ptV a, ptV C] w R := by
 have a0 := (Lib.cell_of_heap ha 0).trans rfl
 have lC := bltK hC
 obtain ⟨c1, c2, c3⟩ := nC
 go_enter Tryz.func351, Tryz.ntmps351
 go_wp2_with fail
 refine number_calls s q p g d w h _ (Lib.hid fun w1 g1 n1 => ?_)
 replace hC := (n1.gr.block C lC (fun e => by simp only [Option.some.injEq] at e; omega)).trans hC
 have y1 := (Lib.cell_of_heap hC 1).trans rfl
 have yf1 := Lib.frozen_of_heap hC 1
 have g1C : g1 ≠ C := by rcases n1.g with rfl | e <;> omega
 have fin := Lib.hid (hR.out _ g1 ⟨n1.g, n1.ps.set c1.symm c2.symm g1C 1 (.int .i64 (intS s).1), (Ch.gr (T := fun k => k = p ∨ k = C) n1.gr (.inl rfl)).set (fun _ => .inr rfl) 1 _⟩ (satK hC 1 (.int .i64 (intS s).1)))
 clear hR n1 a0 ha h
 go_wp2_with fail
 first | refine bodyPost_ret ?_ rfl fin.out | refine bodyPost_end ?_ rfl fin.out
 simp [results, Tryz.results351, go_sem]
theorem coarse2_calls (s : PS) (q p g a C : Nat) (z0 z1 z2 z3 : Value) (d : Int) (w : World) (h : PsG w q p g d s) (ha : w.heap[a]? = some (.cells #[ptV q] 133)) (hC : w.heap[C]? = some (.cells #[z0, z1, z2, z3] 90)) (nC : C ≠ q ∧ C ≠ p ∧ g ≠ C) (R : Ending → World → Prop)
  (hR : Hid (∀ w' g', Nt C w q p g d w' g' (intS s).2 → w'.heap[C]? = some (.cells #[z0, .int .i64 (intS s).1, z2, z3] 90) → R (.returned (.tuple #[])) w')) : Calls Tryz.prog 352 #[ptV a, ptV C] w R := by
 have a0 := (Lib.cell_of_heap ha 0).trans rfl
 have lC := bltK hC
 obtain ⟨c1, c2, c3⟩ := nC
 go_enter Tryz.func352, Tryz.ntmps352
 go_wp2_with fail
 refine number_calls s q p g d w h _ (Lib.hid fun w1 g1 n1 => ?_)
 replace hC := (n1.gr.block C lC (fun e => by simp only [Option.some.injEq] at e; omega)).trans hC
 have y1 := (Lib.cell_of_heap hC 1).trans rfl
 have yf1 := Lib.frozen_of_heap hC 1
 have g1C : g1 ≠ C := by rcases n1.g with rfl | e <;> omega
 have fin := Lib.hid (hR.out _ g1 ⟨n1.g, n1.ps.set c1.symm c2.symm g1C 1 (.int .i64 (intS s).1), (Ch.gr (T := fun k => k = p ∨ k = C) n1.gr (.inl rfl)).set (fun _ => .inr rfl) 1 _⟩ (satK hC 1 (.int .i64 (intS s).1)))
 clear hR n1 a0 ha h
 go_wp2_with fail
 first | refine bodyPost_ret ?_ rfl fin.out | refine bodyPost_end ?_ rfl fin.out
 simp [results, Tryz.results352, go_sem]
theorem coarseK_calls (s : PS) (q p g : Nat) (d : Int) (w : World) (h : PsG w q p g d s) (hl : s.1.length ≤ 1000000) (R : Ending → World → Prop)
  (hR : Hid (∀ w' g' v, Nx w q p g d w' g' (coaC s).2 → RdW (empW (lowS w.heap.size) w') v (coaC s).1.2.2.2 → R (.returned (.agg #[.int .i64 (coaC s).1.1, .int .i64 (coaC s).1.2.1, .int .i64 (coaC s).1.2.2.1, v])) w')) : Calls Tryz.prog 322 #[ptV q] w R := by
 have lp := h.cur.lt
 have hmf : ∀ (fn : Fn) (first cap : Array Value) (w : World), (Instr.makeFunc fn first cap).run Tryz.prog w = .ok (.func fn first cap) w := fun _ _ _ _ => rfl
 have hq : coaC s = (((coaK s).1.1, (coaK s).1.2, (pkS s).2.1, (labelC (coaK s).2).1), (labelC (coaK s).2).2) := rfl
 have gk := gd_coaK s h.ok
 have kk : coaK s = if (wordS s sFloor).2 = true then ((1, (numS (wordS s sFloor).1).1), (numS (wordS s sFloor).1).2) else if (wordS s sFirst).2 = true then ((2, (numS (wordS s sFirst).1).1), (numS (wordS s sFirst).1).2) else if (wordS s sCount).2 = true then ((3, 0), (wordS s sCount).1) else ((0, 0), rstS s) := rfl
 rw [hq] at hR
 simp only at hR
 clear hq
 have n := (Nx.rfl' h).alloc (.cells #[ptV q] 133)
 have bA := Bx.new (Nx.rfl' h) #[ptV q] 133
 have bR := Bx.new n #[.int .i64 0, .int .i64 0, .int .i64 0, .slice none 0 0] 90
 replace n := n.alloc (.cells #[.int .i64 0, .int .i64 0, .int .i64 0, .slice none 0 0] 90)
 replace bA := bA.alloc (.cells #[.int .i64 0, .int .i64 0, .int .i64 0, .slice none 0 0] 90)
 have zR : (w.alloc (.cells #[ptV q] 133)).heap.size = w.heap.size + 1 := by simp
 rw [zR] at bR
 go_enter Tryz.func322, Tryz.ntmps322
 go_upto_region 1 with fail
 generalize (w.alloc (.cells #[ptV q] 133)).alloc (.cells #[.int .i64 0, .int .i64 0, .int .i64 0, .slice none 0 0] 90) = V at *
 clear zR
 have a0 := (bA.c 0).trans rfl
 have b0 := n.ps.b0
 go_wp2_with fail
 refine pk_calls s q p g d V n.ps _ (Lib.hid fun w1 n1 m1 => ?_)
 replace bA := bA.nx n1 lp
 replace bR := bR.nx n1 lp
 replace n := n.trans n1
 clear n1 m1 b0 a0
 have hn1 := fun w => run_field1 (pkS s).1 (pkS s).2.1 (pkS s).2.2.1 (pkS s).2.2.2.1 (pkS s).2.2.2.2 w
 simp only [tkV]
 generalize (pkS s).2.1 = at0 at *
 have lC : w.heap.size + 1 < w1.heap.size := bR.lt
 have bC := Bx.new n #[.int .i64 0, .int .i64 0, .int .i64 at0, .slice none 0 0] 90
 obtain ⟨o1_, ho1_⟩ : ∃ oO_ : Obj, oO_ = .cells #[.int .i64 0, .int .i64 0, .int .i64 at0, .slice none 0 0] 90 := ⟨_, rfl⟩
 replace bA := bA.alloc o1_
 replace bR := bR.alloc o1_
 replace n := n.alloc o1_
 subst ho1_
 go_upto_region 3 with fail
 clear hn1
 generalize w1.alloc (.cells #[.int .i64 0, .int .i64 0, .int .i64 at0, .slice none 0 0] 90) = V1 at *
 generalize w1.heap.size = C at *
 have a0 := (bA.c 0).trans rfl
 have b0 := n.ps.b0
 go_wp2_with fail
 refine wordK_calls s sFloor q p g d _ n.ps _ (Lib.hid fun w2 n2 => ?_)
 replace bA := bA.nx n2 lp
 replace bR := bR.nx n2 lp
 replace bC := bC.nx n2 lp
 replace n := n.trans n2
 clear n2 a0 b0
 cases hw1 : (wordS s sFloor).2
 ·rw [word_no hw1] at n
  rw [hw1, if_neg (by decide)] at kk
  clear hw1
  have a0 := (bA.c 0).trans rfl
  have b0 := n.ps.b0
  go_wp2_with fail
  refine wordK_calls s sFirst q p g d _ n.ps _ (Lib.hid fun w3 n3 => ?_)
  replace bA := bA.nx n3 lp
  replace bR := bR.nx n3 lp
  replace bC := bC.nx n3 lp
  replace n := n.trans n3
  clear n3 a0 b0
  cases hw2 : (wordS s sFirst).2
  ·rw [word_no hw2] at n
   rw [hw2, if_neg (by decide)] at kk
   clear hw2
   have a0 := (bA.c 0).trans rfl
   have b0 := n.ps.b0
   go_wp2_with fail
   refine wordK_calls s sCount q p g d _ n.ps _ (Lib.hid fun w4 n4 => ?_)
   replace bA := bA.nx n4 lp
   replace bR := bR.nx n4 lp
   replace bC := bC.nx n4 lp
   replace n := n.trans n4
   clear n4 a0 b0
   cases hw3 : (wordS s sCount).2
   ·rw [word_no hw3] at n
    rw [hw3, if_neg (by decide)] at kk
    clear hw3
    rw [kk] at hR gk
    simp only at hR gk
    clear kk
    have a0 := (bA.c 0).trans rfl
    go_wp2_with fail
    refine refuseStart_calls s q p g d _ n.ps _ (Lib.hid fun w6 g6 n6 => ?_)
    replace bA := bA.nx n6 lp
    replace bR := bR.nx n6 lp
    replace bC := bC.nx n6 lp
    replace n := n.trans n6
    clear n6 a0
    generalize rstS s = s3 at *
    have a0 := (bA.c 0).trans rfl
    have lV := bC.lt
    have lVR := bR.lt
    go_wp2_with fail
    refine label_calls _ q p _ d _ n.ps (by omega) _ (Lib.hid fun w8 g8 v n8 r8 => ?_)
    obtain ⟨A8, c8, rfl, -, -⟩ := r8.op
    replace bA := bA.nx n8 lp
    replace bR := bR.nx n8 lp
    replace bC := bC.nx n8 lp
    replace n := n.trans n8
    have hsz := n8.gr.size
    clear n8 a0
    have y3 := (bC.c 3).trans rfl
    have yf3 := Lib.frozen_of_heap bC.at_ 3
    have kp := (((((Ch.bl (T := fun k => k = C ∨ k = w.heap.size + 1) (Below.refl _ w8)).set (b := C) (fun _ => .inl rfl) 3 (.slice A8 (labelC s3).1.length c8)).set (b := w.heap.size + 1) (fun _ => .inr rfl) 0 (.int .i64 (0))).set (b := w.heap.size + 1) (fun _ => .inr rfl) 1 (.int .i64 (0))).set (b := w.heap.size + 1) (fun _ => .inr rfl) 2 (.int .i64 at0)).set (b := w.heap.size + 1) (fun _ => .inr rfl) 3 (.slice A8 (labelC s3).1.length c8)
    replace r8 := r8.kp (kp.kp (b0 := w.heap.size) (fun k h1 _ h2 => by omega) (by omega))
    replace n := n.setb bC h 3 (.slice A8 (labelC s3).1.length c8)
    replace bR := bR.setn (by omega) 3 (.slice A8 (labelC s3).1.length c8) (C := C)
    replace bC := bC.set 3 (.slice A8 (labelC s3).1.length c8)
    have fin := Lib.hid (hR.out _ _ _ ((((n.setb bR h 0 (.int .i64 (0))).setb (bR.set 0 _) h 1 (.int .i64 (0))).setb ((bR.set 0 _).set 1 _) h 2 (.int .i64 at0)).setb (((bR.set 0 _).set 1 _).set 2 _) h 3 (.slice A8 (labelC s3).1.length c8)) r8)
    clear hR h kp r8 n
    go_upto_region 12 with fail
    generalize w8.setCell ⟨C, 3, none⟩ (.slice A8 (labelC s3).1.length c8) = V8 at *
    clear y3 yf3
    have y0 := (bC.c 0).trans rfl
    have y1 := (bC.c 1).trans rfl
    have y2 := (bC.c 2).trans rfl
    have y3 := (bC.c 3).trans rfl
    have x0 := (bR.c 0).trans rfl
    have x1 := (bR.c 1).trans rfl
    have x2 := (bR.c 2).trans rfl
    have x3 := (bR.c 3).trans rfl
    have xf0 := Lib.frozen_of_heap bR.at_ 0
    have xf1 := Lib.frozen_of_heap bR.at_ 1
    have xf2 := Lib.frozen_of_heap bR.at_ 2
    have xf3 := Lib.frozen_of_heap bR.at_ 3
    clear bR bC bA
    go_wp2_with fail
    first | refine bodyPost_ret ?_ rfl fin.out | refine bodyPost_end ?_ rfl fin.out
    simp [results, Tryz.results322, go_sem, x0, x1, x2, x3]
   ·rw [hw3, if_pos rfl] at kk
    clear hw3
    rw [kk] at hR gk
    simp only at hR gk
    clear kk
    have a0 := (bA.c 0).trans rfl
    have y0 := (bC.c 0).trans rfl
    have yf0 := Lib.frozen_of_heap bC.at_ 0
    generalize (wordS s sCount).1 = s3 at *
    replace n := n.setb bC h 0 (.int .i64 3)
    replace bA := bA.setn (by omega) 0 (.int .i64 3) (C := C)
    replace bR := bR.setn (by omega) 0 (.int .i64 3) (C := C)
    replace bC := bC.set 0 (.int .i64 3)
    go_upto_region 11 with fail
    generalize w4.setCell ⟨C, 0, none⟩ (.int .i64 3) = V2 at *
    clear y0 yf0 a0
    have a0 := (bA.c 0).trans rfl
    have lV := bC.lt
    have lVR := bR.lt
    go_wp2_with fail
    refine label_calls _ q p _ d _ n.ps (by omega) _ (Lib.hid fun w8 g8 v n8 r8 => ?_)
    obtain ⟨A8, c8, rfl, -, -⟩ := r8.op
    replace bA := bA.nx n8 lp
    replace bR := bR.nx n8 lp
    replace bC := bC.nx n8 lp
    replace n := n.trans n8
    have hsz := n8.gr.size
    clear n8 a0
    have y3 := (bC.c 3).trans rfl
    have yf3 := Lib.frozen_of_heap bC.at_ 3
    have kp := (((((Ch.bl (T := fun k => k = C ∨ k = w.heap.size + 1) (Below.refl _ w8)).set (b := C) (fun _ => .inl rfl) 3 (.slice A8 (labelC s3).1.length c8)).set (b := w.heap.size + 1) (fun _ => .inr rfl) 0 (.int .i64 (3))).set (b := w.heap.size + 1) (fun _ => .inr rfl) 1 (.int .i64 (0))).set (b := w.heap.size + 1) (fun _ => .inr rfl) 2 (.int .i64 at0)).set (b := w.heap.size + 1) (fun _ => .inr rfl) 3 (.slice A8 (labelC s3).1.length c8)
    replace r8 := r8.kp (kp.kp (b0 := w.heap.size) (fun k h1 _ h2 => by omega) (by omega))
    replace n := n.setb bC h 3 (.slice A8 (labelC s3).1.length c8)
    replace bR := bR.setn (by omega) 3 (.slice A8 (labelC s3).1.length c8) (C := C)
    replace bC := bC.set 3 (.slice A8 (labelC s3).1.length c8)
    have fin := Lib.hid (hR.out _ _ _ ((((n.setb bR h 0 (.int .i64 (3))).setb (bR.set 0 _) h 1 (.int .i64 (0))).setb ((bR.set 0 _).set 1 _) h 2 (.int .i64 at0)).setb (((bR.set 0 _).set 1 _).set 2 _) h 3 (.slice A8 (labelC s3).1.length c8)) r8)
    clear hR h kp r8 n
    go_upto_region 12 with fail
    generalize w8.setCell ⟨C, 3, none⟩ (.slice A8 (labelC s3).1.length c8) = V8 at *
    clear y3 yf3
    have y0 := (bC.c 0).trans rfl
    have y1 := (bC.c 1).trans rfl
    have y2 := (bC.c 2).trans rfl
    have y3 := (bC.c 3).trans rfl
    have x0 := (bR.c 0).trans rfl
    have x1 := (bR.c 1).trans rfl
    have x2 := (bR.c 2).trans rfl
    have x3 := (bR.c 3).trans rfl
    have xf0 := Lib.frozen_of_heap bR.at_ 0
    have xf1 := Lib.frozen_of_heap bR.at_ 1
    have xf2 := Lib.frozen_of_heap bR.at_ 2
    have xf3 := Lib.frozen_of_heap bR.at_ 3
    clear bR bC bA
    go_wp2_with fail
    first | refine bodyPost_ret ?_ rfl fin.out | refine bodyPost_end ?_ rfl fin.out
    simp [results, Tryz.results322, go_sem, x0, x1, x2, x3]
  ·rw [hw2, if_pos rfl] at kk
   clear hw2
   rw [kk] at hR gk
   simp only at hR gk
   clear kk
   have a0 := (bA.c 0).trans rfl
   have y0 := (bC.c 0).trans rfl
   have yf0 := Lib.frozen_of_heap bC.at_ 0
   generalize (wordS s sFirst).1 = s2 at *
   have cI := fun (V : World) (bA : Bx w V p g w.heap.size #[ptV q] 133) (bC : Bx w V p g C #[.int .i64 2, .int .i64 0, .int .i64 at0, .slice none 0 0] 90) (n : Nx w q p g d V g s2) => Lib.hid fun R hR => inside_calls 352 isF_coarse2 #[ptV w.heap.size, ptV C] C lpar rpar s2 (intS (markS s2 lpar)).2 q p g d V n.ps (fun _ W' => W'.heap[C]? = some (.cells #[.int .i64 2, .int .i64 (intS (markS s2 lpar)).1, .int .i64 at0, .slice none 0 0] 90)) (Lib.hid fun W g1 m1 R hR => coarse2_calls _ q p g1 w.heap.size C _ _ _ _ d W m1.ps (bA.nx m1 lp).at_ (bC.nx m1 lp).at_ ⟨by have := h.ql; omega, by omega, (bC.nx m1 lp).ne⟩ R (Lib.hid fun W' g2 t e => hR.out W' g2 t e)) R hR
   have fI := fun V bA bC n => cI V bA bC n
   have n2 := n.setb bC h 0 (.int .i64 2)
   have bA2 := bA.setn (by omega) 0 (.int .i64 2) (C := C)
   have bR2 := bR.setn (by omega) 0 (.int .i64 2) (C := C)
   have bC2 := bC.set 0 (.int .i64 2)
   have cI2 := cI _ bA2 bC2 n2
   clear cI fI n bA bR bC
   have a0 := (bA2.c 0).trans rfl
   go_upto_region 8 with fail
   generalize w3.setCell ⟨C, 0, none⟩ (.int .i64 2) = V2 at *
   clear y0 yf0
   go_wp2_with fail
   refine cI2.out _ (Lib.hid fun W1 W2 W3 g1 g2 g3 m1 t1 q1 m3 => ?_)
   have bA := ((bA2.nx m1 lp).nt t1 (by omega) lp).nx m3 lp
   have bR := ((bR2.nx m1 lp).nt t1 (by omega) lp).nx m3 lp
   have bC := ((bC2.nx m1 lp).ntc t1 q1).nx m3 lp
   have n := ((n2.trans m1).nt t1 (by omega) h).trans m3
   clear n2 bA2 bR2 bC2 cI2 m1 t1 q1 m3 a0
   have eN : numS s2 = ((intS (markS s2 lpar)).1, markS (intS (markS s2 lpar)).2 rpar) := rfl
   rw [eN] at hR gk
   simp only at hR gk
   clear eN
   generalize (intS (markS s2 lpar)).1 = nn at *
   generalize markS (intS (markS s2 lpar)).2 rpar = s3 at *
   have a0 := (bA.c 0).trans rfl
   have lV := bC.lt
   have lVR := bR.lt
   go_wp2_with fail
   refine label_calls _ q p _ d _ n.ps (by omega) _ (Lib.hid fun w8 g8 v n8 r8 => ?_)
   obtain ⟨A8, c8, rfl, -, -⟩ := r8.op
   replace bA := bA.nx n8 lp
   replace bR := bR.nx n8 lp
   replace bC := bC.nx n8 lp
   replace n := n.trans n8
   have hsz := n8.gr.size
   clear n8 a0
   have y3 := (bC.c 3).trans rfl
   have yf3 := Lib.frozen_of_heap bC.at_ 3
   have kp := (((((Ch.bl (T := fun k => k = C ∨ k = w.heap.size + 1) (Below.refl _ w8)).set (b := C) (fun _ => .inl rfl) 3 (.slice A8 (labelC s3).1.length c8)).set (b := w.heap.size + 1) (fun _ => .inr rfl) 0 (.int .i64 (2))).set (b := w.heap.size + 1) (fun _ => .inr rfl) 1 (.int .i64 (nn))).set (b := w.heap.size + 1) (fun _ => .inr rfl) 2 (.int .i64 at0)).set (b := w.heap.size + 1) (fun _ => .inr rfl) 3 (.slice A8 (labelC s3).1.length c8)
   replace r8 := r8.kp (kp.kp (b0 := w.heap.size) (fun k h1 _ h2 => by omega) (by omega))
   replace n := n.setb bC h 3 (.slice A8 (labelC s3).1.length c8)
   replace bR := bR.setn (by omega) 3 (.slice A8 (labelC s3).1.length c8) (C := C)
   replace bC := bC.set 3 (.slice A8 (labelC s3).1.length c8)
   have fin := Lib.hid (hR.out _ _ _ ((((n.setb bR h 0 (.int .i64 (2))).setb (bR.set 0 _) h 1 (.int .i64 (nn))).setb ((bR.set 0 _).set 1 _) h 2 (.int .i64 at0)).setb (((bR.set 0 _).set 1 _).set 2 _) h 3 (.slice A8 (labelC s3).1.length c8)) r8)
   clear hR h kp r8 n
   go_upto_region 12 with fail
   generalize w8.setCell ⟨C, 3, none⟩ (.slice A8 (labelC s3).1.length c8) = V8 at *
   clear y3 yf3
   have y0 := (bC.c 0).trans rfl
   have y1 := (bC.c 1).trans rfl
   have y2 := (bC.c 2).trans rfl
   have y3 := (bC.c 3).trans rfl
   have x0 := (bR.c 0).trans rfl
   have x1 := (bR.c 1).trans rfl
   have x2 := (bR.c 2).trans rfl
   have x3 := (bR.c 3).trans rfl
   have xf0 := Lib.frozen_of_heap bR.at_ 0
   have xf1 := Lib.frozen_of_heap bR.at_ 1
   have xf2 := Lib.frozen_of_heap bR.at_ 2
   have xf3 := Lib.frozen_of_heap bR.at_ 3
   clear bR bC bA
   go_wp2_with fail
   first | refine bodyPost_ret ?_ rfl fin.out | refine bodyPost_end ?_ rfl fin.out
   simp [results, Tryz.results322, go_sem, x0, x1, x2, x3]
 ·rw [hw1, if_pos rfl] at kk
  clear hw1
  rw [kk] at hR gk
  simp only at hR gk
  clear kk
  have a0 := (bA.c 0).trans rfl
  have y0 := (bC.c 0).trans rfl
  have yf0 := Lib.frozen_of_heap bC.at_ 0
  generalize (wordS s sFloor).1 = s2 at *
  have cI := fun (V : World) (bA : Bx w V p g w.heap.size #[ptV q] 133) (bC : Bx w V p g C #[.int .i64 1, .int .i64 0, .int .i64 at0, .slice none 0 0] 90) (n : Nx w q p g d V g s2) => Lib.hid fun R hR => inside_calls 351 isF_coarse1 #[ptV w.heap.size, ptV C] C lpar rpar s2 (intS (markS s2 lpar)).2 q p g d V n.ps (fun _ W' => W'.heap[C]? = some (.cells #[.int .i64 1, .int .i64 (intS (markS s2 lpar)).1, .int .i64 at0, .slice none 0 0] 90)) (Lib.hid fun W g1 m1 R hR => coarse1_calls _ q p g1 w.heap.size C _ _ _ _ d W m1.ps (bA.nx m1 lp).at_ (bC.nx m1 lp).at_ ⟨by have := h.ql; omega, by omega, (bC.nx m1 lp).ne⟩ R (Lib.hid fun W' g2 t e => hR.out W' g2 t e)) R hR
  have fI := fun V bA bC n => cI V bA bC n
  have n2 := n.setb bC h 0 (.int .i64 1)
  have bA2 := bA.setn (by omega) 0 (.int .i64 1) (C := C)
  have bR2 := bR.setn (by omega) 0 (.int .i64 1) (C := C)
  have bC2 := bC.set 0 (.int .i64 1)
  have cI2 := cI _ bA2 bC2 n2
  clear cI fI n bA bR bC
  have a0 := (bA2.c 0).trans rfl
  go_upto_region 5 with fail
  generalize w2.setCell ⟨C, 0, none⟩ (.int .i64 1) = V2 at *
  clear y0 yf0
  go_wp2_with fail
  refine cI2.out _ (Lib.hid fun W1 W2 W3 g1 g2 g3 m1 t1 q1 m3 => ?_)
  have bA := ((bA2.nx m1 lp).nt t1 (by omega) lp).nx m3 lp
  have bR := ((bR2.nx m1 lp).nt t1 (by omega) lp).nx m3 lp
  have bC := ((bC2.nx m1 lp).ntc t1 q1).nx m3 lp
  have n := ((n2.trans m1).nt t1 (by omega) h).trans m3
  clear n2 bA2 bR2 bC2 cI2 m1 t1 q1 m3 a0
  have eN : numS s2 = ((intS (markS s2 lpar)).1, markS (intS (markS s2 lpar)).2 rpar) := rfl
  rw [eN] at hR gk
  simp only at hR gk
  clear eN
  generalize (intS (markS s2 lpar)).1 = nn at *
  generalize markS (intS (markS s2 lpar)).2 rpar = s3 at *
  have a0 := (bA.c 0).trans rfl
  have lV := bC.lt
  have lVR := bR.lt
  go_wp2_with fail
  refine label_calls _ q p _ d _ n.ps (by omega) _ (Lib.hid fun w8 g8 v n8 r8 => ?_)
  obtain ⟨A8, c8, rfl, -, -⟩ := r8.op
  replace bA := bA.nx n8 lp
  replace bR := bR.nx n8 lp
  replace bC := bC.nx n8 lp
  replace n := n.trans n8
  have hsz := n8.gr.size
  clear n8 a0
  have y3 := (bC.c 3).trans rfl
  have yf3 := Lib.frozen_of_heap bC.at_ 3
  have kp := (((((Ch.bl (T := fun k => k = C ∨ k = w.heap.size + 1) (Below.refl _ w8)).set (b := C) (fun _ => .inl rfl) 3 (.slice A8 (labelC s3).1.length c8)).set (b := w.heap.size + 1) (fun _ => .inr rfl) 0 (.int .i64 (1))).set (b := w.heap.size + 1) (fun _ => .inr rfl) 1 (.int .i64 (nn))).set (b := w.heap.size + 1) (fun _ => .inr rfl) 2 (.int .i64 at0)).set (b := w.heap.size + 1) (fun _ => .inr rfl) 3 (.slice A8 (labelC s3).1.length c8)
  replace r8 := r8.kp (kp.kp (b0 := w.heap.size) (fun k h1 _ h2 => by omega) (by omega))
  replace n := n.setb bC h 3 (.slice A8 (labelC s3).1.length c8)
  replace bR := bR.setn (by omega) 3 (.slice A8 (labelC s3).1.length c8) (C := C)
  replace bC := bC.set 3 (.slice A8 (labelC s3).1.length c8)
  have fin := Lib.hid (hR.out _ _ _ ((((n.setb bR h 0 (.int .i64 (1))).setb (bR.set 0 _) h 1 (.int .i64 (nn))).setb ((bR.set 0 _).set 1 _) h 2 (.int .i64 at0)).setb (((bR.set 0 _).set 1 _).set 2 _) h 3 (.slice A8 (labelC s3).1.length c8)) r8)
  clear hR h kp r8 n
  go_upto_region 12 with fail
  generalize w8.setCell ⟨C, 3, none⟩ (.slice A8 (labelC s3).1.length c8) = V8 at *
  clear y3 yf3
  have y0 := (bC.c 0).trans rfl
  have y1 := (bC.c 1).trans rfl
  have y2 := (bC.c 2).trans rfl
  have y3 := (bC.c 3).trans rfl
  have x0 := (bR.c 0).trans rfl
  have x1 := (bR.c 1).trans rfl
  have x2 := (bR.c 2).trans rfl
  have x3 := (bR.c 3).trans rfl
  have xf0 := Lib.frozen_of_heap bR.at_ 0
  have xf1 := Lib.frozen_of_heap bR.at_ 1
  have xf2 := Lib.frozen_of_heap bR.at_ 2
  have xf3 := Lib.frozen_of_heap bR.at_ 3
  clear bR bC bA
  go_wp2_with fail
  first | refine bodyPost_ret ?_ rfl fin.out | refine bodyPost_end ?_ rfl fin.out
  simp [results, Tryz.results322, go_sem, x0, x1, x2, x3]
end Go.Proofs.YtncijmodlhijoaaGreat.Syn
