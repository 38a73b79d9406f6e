import Derived.Test.YtbnmkbpjdelokaaGreatQ34
set_option linter.unusedVariables false
set_option maxRecDepth 100000
set_option maxHeartbeats 4000000
namespace Go.Proofs.YtbnmkbpjdelokaaGreat.Res
open Go.RowKit Go.Lib Utf Nam Lat Kin Unp Rel Lab
section
variable {base B : Nat} {lv tv tab : Value} {h : TH} {nv pv : Value}
theorem bs_stApp {s0 s : BS} {w V W : World} {l : List (Nat × Obj)} (n : Hq (BF base B lv tv tab h nv pv) s0 s w V l) {v' : Value} {x : Int} (ow : W.ownsRow base 3 1 v' (s.st.length + 1) (ints (s.st ++ [x]))) (g : V.grownBy W s.sv.ownBlock) (fr : ∀ b, v'.ownBlock = some b → s.sv.ownBlock = some b ∨ V.heap.size ≤ b) :
    Hq (BF base B lv tv tab h nv pv) s0 { s with st := s.st ++ [x], sv := v' } w (W.setCell ⟨B, 14, none⟩ v') l := by
  have i : BInv base B lv tv tab h nv pv V s := n.inv
  have lB := hp_lt i.box
  have sz : (W.setCell ⟨B, 14, none⟩ v').heap.size = W.heap.size := by simp [World.setCell]
  have hne : ∀ k, k ≠ B → (W.setCell ⟨B, 14, none⟩ v').heap[k]? = W.heap[k]? := fun k hk => hp_sne hk
  have hst : ∀ k, k < V.heap.size → s.sv.ownBlock ≠ some k → k ≠ B → (W.setCell ⟨B, 14, none⟩ v').heap[k]? = V.heap[k]? := fun k h1 h2 h3 => (hne k h3).trans (g.block k h1 fun e => h2 e.symm)
  have v1 : v'.ownBlock ≠ some B := fun q => by rcases fr B q with e | e; exact i.d1 e; omega
  have hb := hp_sat ((g.block B lB fun e => i.d1 e.symm).trans i.box) 14 v'
  rw [List.setIfInBounds_toArray] at hb
  have sub : ∀ k, bFr base B { s with st := s.st ++ [x], sv := v' } k → bFr base B s k ∨ V.heap.size ≤ k := fun k q => by
    rcases q.2 with e | e | e | e
    · exact .inl ⟨q.1, .inl e⟩
    · rcases fr k e with e | e
      · exact .inl ⟨q.1, .inr (.inl e)⟩
      · exact .inr e
    · exact .inl ⟨q.1, .inr (.inr (.inl e))⟩
    · exact .inl ⟨q.1, .inr (.inr (.inr e))⟩
  refine n.call ⟨⟨i.hB, hb, ?_, ?_, fun k q => ?_, fun y hy => ?_, v1, i.d2, fun k q q2 => ?_, i.sh⟩, ⟨?_, ?_, ?_, ?_, fun k hk hn => ?_⟩, sub, by simp, by simp, .nil⟩
  · rw [List.length_append]
    exact ownKp ow fun k q _ => hne k fun e => v1 (e ▸ q)
  · exact ownKp i.on fun k q _ => hst k (i.on.lt k q).2 (fun e => i.d3 k e q) fun e => i.d2 (e ▸ q)
  · obtain ⟨t1, t2, t3, t4, t5⟩ := i.t k q
    exact ⟨t1, by rw [sz]; exact Nat.lt_of_lt_of_le t2 g.size, t3, fun e => by rcases fr k e with e | e; exact t4 e; omega, t5⟩
  · have kp : Kp (empW (fun k => ¬ s.T k) V) (empW (fun k => ¬ s.T k) (W.setCell ⟨B, 14, none⟩ v')) := emp_kp (by rw [sz]; exact g.size) fun k hk hn => ⟨hn, hst k hk (i.t k (Classical.not_not.1 hn)).2.2.2.1 (i.t k (Classical.not_not.1 hn)).2.2.1⟩
    exact ⟨RdAt.kp kp (i.rd y hy).1, RdAt.kp kp (i.rd y hy).2⟩
  · rcases fr k q with e | e
    · exact i.d3 k e q2
    · have := (i.on.lt k q2).2; omega
  · have m := (Below.refl B W).setCell (p := ⟨B, 14, none⟩) (Nat.le_refl _) v'; exact m.os.trans g.os
  · have m := (Below.refl B W).setCell (p := ⟨B, 14, none⟩) (Nat.le_refl _) v'; exact m.tape.trans g.tape
  · have m := (Below.refl B W).setCell (p := ⟨B, 14, none⟩) (Nat.le_refl _) v'; exact m.output.trans g.output
  · rw [sz]; exact g.size
  · refine hst k hk (fun e => hn ⟨(i.os.lt k e).1, .inr (.inl e)⟩) fun e => hn ⟨e ▸ i.hB, .inl e⟩
theorem bs_ndApp {s0 s : BS} {w V V1 W : World} {l : List (Nat × Obj)} (n : Hq (BF base B lv tv tab h nv pv) s0 s w V l) (m1 : Below V.heap.size V V1) {v' : Value} {x : Nv} (hx1 : RdS (empW (lowS V.heap.size) V1) x.2.1 x.1.names) (hx2 : RdEd (empW (lowS V.heap.size) V1) x.2.2 x.1.edges) (hx3 : Shp x.2.1 ∧ Shp x.2.2) (ow : W.ownsRow base 59 7 v' (s.nd.length + 1) (flatG encN (s.nd ++ [x]))) (g : V1.grownBy W s.nv.ownBlock) (fr : ∀ b, v'.ownBlock = some b → s.nv.ownBlock = some b ∨ V1.heap.size ≤ b) :
    Hq (BF base B lv tv tab h nv pv) s0 { s with nd := s.nd ++ [x], nv := v', T := fun k => s.T k ∨ (V.heap.size ≤ k ∧ k < V1.heap.size) } w (W.setCell ⟨B, 15, none⟩ v') l := by
  have i : BInv base B lv tv tab h nv pv V s := n.inv
  have lB := hp_lt i.box
  have bB : base ≤ V.heap.size := Nat.le_trans i.hB (Nat.le_of_lt lB)
  have sz : (W.setCell ⟨B, 15, none⟩ v').heap.size = W.heap.size := by simp [World.setCell]
  have s1 := m1.size
  have s2 := g.size
  have hne : ∀ k, k ≠ B → (W.setCell ⟨B, 15, none⟩ v').heap[k]? = W.heap[k]? := fun k hk => hp_sne hk
  have hst1 : ∀ k, k < V1.heap.size → s.nv.ownBlock ≠ some k → k ≠ B → (W.setCell ⟨B, 15, none⟩ v').heap[k]? = V1.heap[k]? := fun k h1 h2 h3 => (hne k h3).trans (g.block k h1 fun e => h2 e.symm)
  have hst : ∀ k, k < V.heap.size → s.nv.ownBlock ≠ some k → k ≠ B → (W.setCell ⟨B, 15, none⟩ v').heap[k]? = V.heap[k]? := fun k h1 h2 h3 => (hst1 k (by omega) h2 h3).trans (m1.block k h1)
  have v1 : v'.ownBlock ≠ some B := fun q => by rcases fr B q with e | e; exact i.d2 e; omega
  have hb := hp_sat (((g.block B (by omega) fun e => i.d2 e.symm).trans (m1.block B lB)).trans i.box) 15 v'
  rw [List.setIfInBounds_toArray] at hb
  have oldn : ∀ k, s.nv.ownBlock = some k → k < V.heap.size := fun k q => (i.on.lt k q).2
  have sub : ∀ k, bFr base B { s with nd := s.nd ++ [x], nv := v', T := fun k => s.T k ∨ (V.heap.size ≤ k ∧ k < V1.heap.size) } k → bFr base B s k ∨ V.heap.size ≤ k := fun k q => by
    rcases q.2 with e | e | e | e | e
    · exact .inl ⟨q.1, .inl e⟩
    · exact .inl ⟨q.1, .inr (.inl e)⟩
    · rcases fr k e with e | e
      · exact .inl ⟨q.1, .inr (.inr (.inl e))⟩
      · exact .inr (by omega)
    · exact .inl ⟨q.1, .inr (.inr (.inr e))⟩
    · exact .inr e.1
  refine n.call ⟨⟨i.hB, hb, ?_, ?_, fun k q => ?_, fun y hy => ?_, i.d1, v1, fun k q q2 => ?_, fun y hy => by
    rcases List.mem_append.1 hy with hy | hy
    · exact i.sh y hy
    · obtain rfl := List.mem_singleton.1 hy
      exact hx3⟩, ⟨?_, ?_, ?_, by omega, fun k hk hn => ?_⟩, sub, by simp, by simp, .nil⟩
  · exact ownKp i.os fun k q _ => hst k (i.os.lt k q).2 (fun e => i.d3 k q e) fun e => i.d1 (e ▸ q)
  · rw [List.length_append]
    exact ownKp ow fun k q _ => hne k fun e => v1 (e ▸ q)
  · rcases q with q | q
    · obtain ⟨t1, t2, t3, t4, t5⟩ := i.t k q
      exact ⟨t1, by omega, t3, t4, fun e => by rcases fr k e with e | e; exact t5 e; omega⟩
    · exact ⟨by omega, by omega, by omega, fun e => by have := (i.os.lt k e).2; omega, fun e => by rcases fr k e with e | e; (have := oldn k e; omega); omega⟩
  · rcases List.mem_append.1 hy with hy | hy
    · have kp : Kp (empW (fun k => ¬ s.T k) V) (empW (fun k => ¬ (s.T k ∨ (V.heap.size ≤ k ∧ k < V1.heap.size))) (W.setCell ⟨B, 15, none⟩ v')) := emp_kp (by omega) fun k hk hn => ⟨fun q => q (.inl (Classical.not_not.1 hn)), hst k hk (i.t k (Classical.not_not.1 hn)).2.2.2.2 (i.t k (Classical.not_not.1 hn)).2.2.1⟩
      exact ⟨RdAt.kp kp (i.rd y hy).1, RdAt.kp kp (i.rd y hy).2⟩
    · obtain rfl := List.mem_singleton.1 hy
      have kp : Kp (empW (lowS V.heap.size) V1) (empW (fun k => ¬ (s.T k ∨ (V.heap.size ≤ k ∧ k < V1.heap.size))) (W.setCell ⟨B, 15, none⟩ v')) := emp_kp (by omega) fun k hk hn => by
        have hk2 : V.heap.size ≤ k := Nat.le_of_not_lt hn
        exact ⟨fun q => q (.inr ⟨hk2, hk⟩), hst1 k hk (fun e => by have := oldn k e; omega) (by omega)⟩
      exact ⟨RdAt.kp kp hx1, RdAt.kp kp hx2⟩
  · rcases fr k q2 with e | e
    · exact i.d3 k q e
    · have := (i.os.lt k q).2; omega
  · have m := (Below.refl B W).setCell (p := ⟨B, 15, none⟩) (Nat.le_refl _) v'; exact m.os.trans (g.os.trans m1.os)
  · have m := (Below.refl B W).setCell (p := ⟨B, 15, none⟩) (Nat.le_refl _) v'; exact m.tape.trans (g.tape.trans m1.tape)
  · have m := (Below.refl B W).setCell (p := ⟨B, 15, none⟩) (Nat.le_refl _) v'; exact m.output.trans (g.output.trans m1.output)
  · refine hst k hk (fun e => hn ⟨(i.on.lt k e).1, .inr (.inr (.inl e))⟩) fun e => hn ⟨e ▸ i.hB, .inl e⟩
end
section
variable {base B : Nat} {lv tv tab : Value} {rh : TH} {rnv rpv : Value} {w0 : World}
def tl1 (c : Int) (h : TH) : Int := if h.kind = 9 then c else wrap64 (c + 1)
def kntF : Int → Ft → Int
  | c, .nil => c
  | c, .cons p h k r => if p.bare then kntF c r else kntF (kntF (tl1 c h) k) r
def kntT (c : Int) (h : TH) (f : Ft) : Int := kntF (tl1 c h) f
theorem tally_eq (s : BS) (h : TH) (f : Ft) : tallyS s h f = ((0, 0), { s with count := tl1 s.count h }) := by
  unfold tallyS tl1
  by_cases c : h.kind = 9
  · rw [if_pos c, if_pos c]
  · rw [if_neg c, if_neg c]
theorem inF_tally : ∀ (f : Ft) (s : BS), inF tallyS s f = ((0, 0), { s with count := kntF s.count f })
  | .nil, s => rfl
  | .cons p h k r, s => by
    show (if p.bare = true then inF tallyS s r else if (tallyS s h k).1.1 ≠ 0 then tallyS s h k else if (inF tallyS (tallyS s h k).2 k).1.1 ≠ 0 then inF tallyS (tallyS s h k).2 k else inF tallyS (inF tallyS (tallyS s h k).2 k).2 r) = ((0, 0), { s with count := if p.bare = true then kntF s.count r else kntF (kntF (tl1 s.count h) k) r })
    by_cases c : p.bare = true
    · rw [if_pos c, if_pos c, inF_tally r]
    · rw [if_neg c, if_neg c, tally_eq, if_neg (by simp), inF_tally k, if_neg (by simp), inF_tally r]
theorem inT_tally (s : BS) (h : TH) (f : Ft) : inT tallyS s h f = ((0, 0), { s with count := kntT s.count h f }) := by
  unfold inT
  rw [tally_eq, if_neg (by simp), inF_tally]
  rfl
theorem int_in : (Tryz.prog.info? 3).map (fun i => (i.zero, i.size, i.bytes)) = some (some (.int .i64 0), 1, 8) := by kernel_rfl
theorem own_sl {w : World} {base : Nat} {e : TypeId} {k n : Nat} {v : Value} {xs : List Value} (h : w.ownsRow base e k v n xs) : ∃ A m c, v = .slice A m c := by
  obtain ⟨-, ⟨rfl, -⟩ | ⟨g, cap, cur, rfl, -⟩⟩ := h
  · exact ⟨_, _, _, rfl⟩
  · exact ⟨_, _, _, rfl⟩
theorem int_info : ∃ i0, Tryz.prog.info? 3 = some i0 ∧ (i0.zero, i0.size, i0.bytes) = (some (.int .i64 0), 1, 8) := by
  have := int_in
  cases h : Tryz.prog.info? 3 with
  | none => rw [h] at this; cases this
  | some i0 => rw [h] at this; exact ⟨i0, rfl, by simpa using this⟩
theorem isF_number : IsF 87 := by
  intro args w
  unfold callFunc
  simp [go_sem, Tryz.func87]
  rfl
theorem number_calls (hlow : w0.heap.size ≤ base) (s : BS) (h : TH) (f : Ft) (nv' pv' : Value) (w : World) (hst : s.st.length ≤ 1000000) (hI : (BF base B lv tv tab rh rnv rpv).Inv w s) (hb : Below w0.heap.size w0 w) (hy : RdY w0 h f nv' pv') (hg : GoodT h f) (R : Ending → World → Prop)
    (hR : Hid (∀ W v', Hq (BF base B lv tv tab rh rnv rpv) s { s with st := s.st ++ [s.count], sv := v', count := kntT s.count h f } w W [] → R (.returned (FtV (0, 0))) W)) : Calls Tryz.prog 87 #[.pointer (some ⟨B, 0, none⟩), tyV h nv' pv'] w R := by
  obtain ⟨ti, hTI, hZ⟩ := int_info
  simp only [Prod.mk.injEq] at hZ
  obtain ⟨hz0, hz1, hz2⟩ := hZ
  obtain ⟨An, cn, rfl, -, -⟩ := hy.n.op
  obtain ⟨Ap, cp, rfl, -⟩ := hy.p.sl
  have m0 := Hq.nil hI
  obtain ⟨V1, e1, m1, z1⟩ := m0.new (.cells (tyL h (.slice An h.names.length cn) (.slice Ap f.len cp)).toArray 29)
  obtain ⟨V, e2, n, z2⟩ := m1.new (.cells #[.int .i64 0, .int .i64 0] 37)
  clear m0 m1 z1 z2
  go_enter Tryz.func87, Tryz.ntmps87
  go_upto_region 1 with fail
  clear e1 e2
  have hmf : ∀ (fn : Fn) (first cap : Array Value) (w : World), (Instr.makeFunc fn first cap).run Tryz.prog w = .ok (.func fn first cap) w := fun _ _ _ _ => rfl
  have hlo := bF_low base B lv tv tab rh rnv rpv hlow
  have inv : BInv base B lv tv tab rh rnv rpv V s := n.inv
  have b13 := fun y : RW (fun k => s.sv.ownBlock = some k) V => y.cell n.bl_ inv.d1 (n.bc 13 rfl)
  have b14 := fun y : RW (fun k => s.sv.ownBlock = some k) V => y.cell n.bl_ inv.d1 (n.bc 14 rfl)
  have gW : Below V.heap.size V (V.drewN 1) := below_drewN (Below.refl _ _) 1
  have own : (V.drewN 1).ownsRow base 3 1 s.sv s.st.length (ints s.st) := ownKp inv.os fun _ _ _ => rfl
  have hsz : base ≤ (V.drewN 1).heap.size := Nat.le_trans inv.hB (Nat.le_of_lt n.bl_)
  refine wp_region_trS (fun k => s.sv.ownBlock = some k) (.one [0, 1, 2, 3, 4, 5, 6, 7, 8] 9 (.one [] 10 (.one [] 11 (.last [12])))) 13 (by kernel_rfl) (by kernel_rfl) (by kernel_rfl) (by kernel_rfl) (by decide) (fun _ _ d _ _ h => by cases d <;> exact h) ?_
  refine tr_one (os := [_, _, _, _, _, _, _, _, _]) (by simp only [pickO, List.filterMap_cons, List.filterMap_nil, List.getElem?_toArray, List.getElem?_cons_succ, List.getElem?_cons_zero]; rfl) (fun Kp hKp => ?_)
  repeat (go_big_quiet_step (exact rfl))
  refine wpQuiet_nil ?_
  refine hKp _ ?_
  clear hKp
  refine loudr (by rfl) (by kernel_rfl) (fun K1 hK1 => ?_)
  go_simp
  refine hK1 _ _ (RW.of ((Gr.rfl' _ V).bl (gW.alloc gW.size _))) ?_
  clear hK1
  refine tr_one (os := []) (by rfl) (fun Kp hKp => ?_)
  refine wpQuiet_nil ?_
  refine hKp _ ?_
  clear hKp
  refine loudr (by rfl) (by kernel_rfl) (fun K2 hK2 => ?_)
  refine appOp (V.drewN 1) #[.int .i64 s.count] 1 3 _ _ 41 rfl base ti (.int .i64 0) 8 Tryz.underlying41 hTI hz0 hz1 hz2 rfl (by decide) rfl s.sv s.st.length (ints s.st) rfl own _ rfl rfl (by simp [Value.oneCell']) (by unfold maxLen; omega) (by omega) hsz ?_
  intro v' w2 hown hgr hfr
  obtain ⟨A', m', c', rfl⟩ := own_sl hown
  have gA : Gr (fun k => s.sv.ownBlock = some k) V w2 := ((Gr.rfl' _ V).bl gW).trans (Gr.ofRow hgr) fun k e => .inl e
  go_simp
  refine hK2 _ _ (RW.of gA) ?_
  clear hK2
  refine tr_one (os := []) (by rfl) (fun Kp hKp => ?_)
  refine wpQuiet_nil ?_
  refine hKp _ ?_
  clear hKp
  refine loudr (by rfl) (by kernel_rfl) (fun K3 hK3 => ?_)
  go_simp
  refine hK3 _ _ (RW.of gA) ?_
  clear hK3
  refine tr_last (os := [_]) (by simp only [pickO, List.filterMap_cons, List.filterMap_nil, List.getElem?_toArray, List.getElem?_cons_succ, List.getElem?_cons_zero]; rfl) (fun Kp hKp => ?_)
  repeat (go_big_quiet_step (exact rfl))
  refine wpQuiet_nil ?_
  refine hKp _ ?_
  clear hKp
  have hbx : w2.heap[B]? = _ := (hgr.block B (by have := n.bl_; exact this) fun e => inv.d1 e.symm).trans inv.box
  have bf := Lib.frozen_of_heap hbx 14
  have bc : w2.cell? ⟨B, 14, none⟩ = some s.sv := by rw [Lib.cell_of_heap hbx]; rfl
  obtain ⟨V4, e4, n⟩ : ∃ V4, w2.setCell ⟨B, 14, none⟩ (.slice A' m' c') = V4 ∧ Hq (BF base B lv tv tab rh rnv rpv) s { s with st := s.st ++ [s.count], sv := .slice A' m' c' } w V4 [(V1.heap.size, .cells #[.int .i64 0, .int .i64 0] 37), (w.heap.size, .cells (tyL h (.slice An h.names.length cn) (.slice Ap f.len cp)).toArray 29)] := ⟨_, rfl, bs_stApp (n.bl gW) (x := s.count) (by
    have e : ints (s.st ++ [s.count]) = ints s.st ++ [.int .i64 s.count] := by simp [ints]
    rw [e]
    exact hown) hgr (fun b q => by
    rcases hfr with e | e
    · exact .inl (e.symm.trans q)
    · refine .inr ?_
      rw [e] at q
      simp only [Option.some.injEq] at q
      omega)⟩
  refine loudl (by rfl) (by kernel_rfl) ?_
  go_simp
  clear e4 bf bc hbx gA hfr hgr hown b13 b14 gW own inv
  have rT := n.rg 1 rfl
  have hbV := hb.trans (n.below hb.size (hlo s))
  go_wp2_with (refine wpList_load_g (by rfl) 29 _ rfl w.heap.size (0) rfl _ _ rT Tryz.underlying29 rfl (by kernel_rfl) ?_; go_simp)
  refine within_calls GoodT (BF base B lv tv tab rh rnv rpv) w0 134 (.pointer (some ⟨B, 0, none⟩)) tallyS (fun _ _ g => g) (fun h f K p x kd r g e hb => by
    obtain ⟨gp, gx, gk, ga⟩ := all_at K g.2.2 e
    exact ⟨gx, gk, ga⟩) hlo isF_tally (tally_calls GoodT) f { s with st := s.st ++ [s.count], sv := .slice A' m' c' } h _ _ V4 n.inv hbV hy hg _ (Lib.hid fun W1 c1 => ?_)
  rw [inT_tally] at c1 ⊢
  replace n := n.call c1
  clear c1 rT hbV
  have y0 := n.c 0 0 rfl rfl
  have yf0 := n.f 0 0 rfl
  have y1 := n.c 0 1 rfl rfl
  have yf1 := n.f 0 1 rfl
  obtain ⟨VE, eE, nE, -⟩ := n.put (j := 0) rfl [(0, .int .i64 0), (1, .int .i64 0)]
  simp only [stL] at eE
  simp only [stA, List.setIfInBounds_toArray, List.set_cons_succ, List.set_cons_zero] at nE
  have w0_ := nE.c 0 0 rfl rfl
  have w1_ := nE.c 0 1 rfl rfl
  have fin := Lib.hid (hR.out _ _ nE.fin)
  clear nE n hR
  go_wp2_with fail
  first | refine bodyPost_ret ?_ rfl fin.out | refine bodyPost_end ?_ rfl fin.out
  simp [results, Tryz.results87, go_sem, w0_, w1_]
end
end Go.Proofs.YtbnmkbpjdelokaaGreat.Res
