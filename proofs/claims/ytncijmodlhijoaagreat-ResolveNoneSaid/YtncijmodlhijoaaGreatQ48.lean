import Derived.Test.YtncijmodlhijoaaGreatQ47
set_option linter.unusedVariables false
set_option maxRecDepth 100000
set_option maxHeartbeats 4000000
namespace Go.Proofs.YtncijmodlhijoaaGreat.Res
open Go.RowKit Go.Lib Utf Nam Lat Kin Unp Rel Lab
theorem node_alloc (ρ : Operand → Value) (W : World) (o : Oper) (h : o.op = .alloc 52) : (execOp ρ o).run Tryz.prog W = .ok (.value (ptA W.heap.size)) (W.alloc (.cells #[.int .i64 0, .int .i64 0, .int .i64 0, .int .i64 0, .int .i64 0, .slice none 0 0, .slice none 0 0] 52)) := by
  simp [execOp, h, go_sem, ptA]
theorem cloneE_calls (l : List EdR) (v : Value) (w : World) (hx : RdEd w v l) (hv : Shp v) (hl : l.length ≤ 1000000) (R : Ending → World → Prop) (hR : Hid (∀ v' w', w'.ownsRow w.heap.size 67 10 v' l.length (flatG encE l) → Below w.heap.size w w' → R (.returned v') w')) : Calls Tryz.prog 54 #[v] w R := by
  obtain ⟨i0, hi, hZ⟩ := edge_info
  simp only [Prod.mk.injEq] at hZ
  obtain ⟨hz0, hz1, hz2⟩ := hZ
  have hlen : (flatG encE l).length = l.length * 10 := flatG_len encE_len l
  have hx2 : RdAt w v 10 (flatG encE l) := hx
  obtain ⟨A, n, c, e, h1, h2, h3⟩ := hx2
  obtain rfl : n = l.length := by omega
  rcases hv with e2 | ⟨g, o, n, c2, e2⟩
  · rw [e2] at e
    simp only [Value.slice.injEq] at e
    obtain ⟨rfl, hz, rfl⟩ := e
    obtain rfl := List.eq_nil_of_length_eq_zero hz.symm
    subst e2
    have := AnyE.slices_Clone_nil YtncijmodlhijoaaGreat.cloneEd 0 0 w
    change Calls Tryz.prog 54 _ _ _ at this
    refine this.mono ?_
    rintro e w' ⟨rfl, rfl⟩
    exact hR.out _ _ (World.ownsRow_nil _ _ _ _) (Below.refl _ _)
  · rw [e2] at e
    simp only [Value.slice.injEq] at e
    obtain ⟨rfl, rfl, rfl⟩ := e
    subst e2
    have hcell : ∀ j u, (flatG encE l)[j]? = some u → w.cell? ⟨g, o + j, none⟩ = some u := fun j u hj => by
      obtain ⟨g', o', e, -, hca⟩ := h3 (by have := (List.getElem?_eq_some_iff.1 hj).1; omega)
      simp only [Option.some.injEq, Addr.mk.injEq, and_true] at e
      obtain ⟨rfl, rfl⟩ := e
      exact hca j u hj
    have hone : ∀ u ∈ flatG encE l, u.oneCell' = true := fun u hu => by
      simp only [flatG, List.mem_flatMap, encE, List.mem_cons, List.not_mem_nil, or_false] at hu
      obtain ⟨x, _, rfl | rfl | rfl | rfl | rfl | rfl | rfl | rfl | rfl | rfl⟩ := hu <;> rfl
    have := AnyE.slices_Clone YtncijmodlhijoaaGreat.cloneEd i0 (.agg #[.string ⟨#[]⟩, .bool false, .int .i64 0, .int .i64 0, .int .i64 0, .int .i64 0, .int .i64 0, .int .i64 0, .int .i64 0, .int .i64 0]) 10 88 hi hz0 hz1 hz2 rfl (by decide) Tryz.sizeOf67 g o l.length c2 (flatG encE l) w hlen (by unfold maxLen; omega) (by omega) hcell hone
    change Calls Tryz.prog 54 _ _ _ at this
    refine this.mono ?_
    rintro e w' ⟨v', rfl, hown, -, hb⟩
    exact hR.out _ _ hown hb
theorem cloneS_calls (l : List ByteArray) (v : Value) (w : World) (hx : RdS w v l) (hv : Shp v) (hl : l.length ≤ 1000000) (R : Ending → World → Prop) (hR : Hid (∀ v' w', w'.ownsRow w.heap.size 9 1 v' l.length (sv l) → Below w.heap.size w w' → R (.returned v') w')) : Calls Tryz.prog 53 #[v] w R := by
  obtain ⟨i0, hi, hZ⟩ := str_info
  simp only [Prod.mk.injEq] at hZ
  obtain ⟨hz0, hz1, hz2⟩ := hZ
  have hlen : (sv l).length = l.length := sv_len l
  have hx2 : RdAt w v 1 (sv l) := hx
  obtain ⟨A, n, c, e, h1, h2, h3⟩ := hx2
  obtain rfl : n = l.length := by omega
  rcases hv with e2 | ⟨g, o, n, c2, e2⟩
  · rw [e2] at e
    simp only [Value.slice.injEq] at e
    obtain ⟨rfl, hz, rfl⟩ := e
    obtain rfl := List.eq_nil_of_length_eq_zero hz.symm
    subst e2
    have := AnyE.slices_Clone_nil YtncijmodlhijoaaGreat.cloneStr 0 0 w
    change Calls Tryz.prog 53 _ _ _ at this
    refine this.mono ?_
    rintro e w' ⟨rfl, rfl⟩
    exact hR.out _ _ (World.ownsRow_nil _ _ _ _) (Below.refl _ _)
  · rw [e2] at e
    simp only [Value.slice.injEq] at e
    obtain ⟨rfl, rfl, rfl⟩ := e
    subst e2
    have hcell : ∀ j u, (sv l)[j]? = some u → w.cell? ⟨g, o + j, none⟩ = some u := fun j u hj => by
      obtain ⟨g', o', e, -, hca⟩ := h3 (by have := (List.getElem?_eq_some_iff.1 hj).1; omega)
      simp only [Option.some.injEq, Addr.mk.injEq, and_true] at e
      obtain ⟨rfl, rfl⟩ := e
      exact hca j u hj
    have := AnyE.slices_Clone YtncijmodlhijoaaGreat.cloneStr i0 (.string ⟨#[]⟩) 1 16 hi hz0 hz1 hz2 rfl (by decide) Tryz.sizeOf9 g o l.length c2 (sv l) w (by rw [sv_len, Nat.mul_one]) (by unfold maxLen; omega) (by omega) hcell (fun u hu => by simp only [sv, List.mem_map] at hu; obtain ⟨s, -, rfl⟩ := hu; rfl)
    change Calls Tryz.prog 53 _ _ _ at this
    refine this.mono ?_
    rintro e w' ⟨v', rfl, hown, -, hb⟩
    exact hR.out _ _ hown hb
theorem pnodenil_calls (i : Int) (w : World) (R : Ending → World → Prop) (hR : Hid (∀ w', Below w.heap.size w w' → R (.returned (.tuple #[.agg #[.int .i64 0, .int .i64 0, .int .i64 0, .int .i64 0, .int .i64 0, .slice none 0 0, .slice none 0 0], .bool false])) w')) : Calls Tryz.prog 18 #[.pointer none, .int .i64 i] w R := by
  have m0 := F0.z w
  obtain ⟨V, e1, n, z1⟩ := m0.new (.cells #[.int .i64 0, .int .i64 0, .int .i64 0, .int .i64 0, .int .i64 0, .slice none 0 0, .slice none 0 0] 52)
  clear m0 z1
  have hG := n.b 0 rfl
  have eS := setRow_self V w.heap.size #[.int .i64 0, .int .i64 0, .int .i64 0, .int .i64 0, .int .i64 0, .slice none 0 0, .slice none 0 0] 52 (0, 0) hG
  have w0_ := n.c 0 0 rfl rfl
  have w1_ := n.c 0 1 rfl rfl
  have w2_ := n.c 0 2 rfl rfl
  have w3_ := n.c 0 3 rfl rfl
  have w4_ := n.c 0 4 rfl rfl
  have w5_ := n.c 0 5 rfl rfl
  have w6_ := n.c 0 6 rfl rfl
  have fin := Lib.hid (hR.out V (F0.bel n))
  clear n hR
  go_enter Tryz.func18, Tryz.ntmps18
  go_upto_region 1 with fail
  clear e1
  by_cases h0 : i < 0
  · go_upto_region 2 with fail
    go_wp2_with (refine wpList_store_row (by rfl) 52 _ _ (by rfl) w.heap.size #[.int .i64 0, .int .i64 0, .int .i64 0, .int .i64 0, .int .i64 0, .slice none 0 0, .slice none 0 0] (by rfl) (by rfl) 52 _ hG (by kernel_rfl) rfl (by simp [Value.oneCell']) ?_; rw [eS])
    first | refine bodyPost_ret ?_ rfl fin.out | refine bodyPost_end ?_ rfl fin.out
    simp [results, Tryz.results18, go_sem, w0_, w1_, w2_, w3_, w4_, w5_, w6_]
  · go_wp2_with fail
    refine plennil_calls _ _ (Lib.hid ?_)
    go_upto_region 2 with fail
    go_wp2_with (refine wpList_store_row (by rfl) 52 _ _ (by rfl) w.heap.size #[.int .i64 0, .int .i64 0, .int .i64 0, .int .i64 0, .int .i64 0, .slice none 0 0, .slice none 0 0] (by rfl) (by rfl) 52 _ hG (by kernel_rfl) rfl (by simp [Value.oneCell']) ?_; rw [eS])
    first | refine bodyPost_ret ?_ rfl fin.out | refine bodyPost_end ?_ rfl fin.out
    simp [results, Tryz.results18, go_sem, w0_, w1_, w2_, w3_, w4_, w5_, w6_]
theorem pnode_calls {w : World} {v : Value} {nm : List ByteArray} {F : Nat → Nat → Bool} {ns : List ByteArray} {x : List NdR × Int × List Int} (h : PlanP w v nm F ns x) (hb1 : ∀ y ∈ x.1, y.names.length ≤ 1000000 ∧ y.edges.length ≤ 1000000) (I : Nat) (hI : I < x.1.length) (R : Ending → World → Prop)
    (hR : Hid (∀ w' nv ev y, x.1[I]? = some y → RdS w' nv y.names → RdEd w' ev y.edges → Below w.heap.size w w' → R (.returned (.tuple #[.agg #[.int .i64 y.kind, .int .i64 y.at_, .int .i64 y.lo, .int .i64 y.hi, .int .i64 y.most, nv, ev], .bool true])) w')) : Calls Tryz.prog 18 #[v, .int .i64 I] w R := by
  obtain ⟨P, lv, tab, A, Z, c, z, xs, rfl, hbx, -, -, hx, hr, hA, -⟩ := h.op
  have hlen : xs.length = x.1.length := by rw [← hx, List.length_map]
  obtain ⟨g, o, rfl, hg, hca0⟩ := hA (by omega)
  have hIx : I < xs.length := by omega
  have hca := hca0 I hIx
  have hy1 : x.1[I]? = some (xs[I]).1 := by rw [← hx, List.getElem?_map, List.getElem?_eq_getElem hIx]; rfl
  have hry := hr _ (List.getElem_mem hIx)
  have hby := hb1 _ (List.mem_of_getElem? hy1)
  clear hca0 hA hr hb1 hx
  generalize xs[I] = y at *
  obtain ⟨⟨k0, k1, k2, k3, k4, ns_, es_⟩, nv, ev⟩ := y
  simp only at hy1 hry hby
  obtain ⟨⟨rS, rE⟩, sh1, sh2⟩ := hry
  obtain ⟨A3, c3, rfl, -⟩ := rS.open
  obtain ⟨A4, c4, rfl, -⟩ := RdG.open encE_len (by decide) (show RdG encE 10 w ev es_ from rE)
  have m0 := F0.z w
  obtain ⟨V, e1, n, z1⟩ := m0.new (.cells #[.int .i64 0, .int .i64 0, .int .i64 0, .int .i64 0, .int .i64 0, .slice none 0 0, .slice none 0 0] 52)
  clear m0 z1
  have hG := n.b 0 rfl
  have eS := setRow_self V w.heap.size #[.int .i64 0, .int .i64 0, .int .i64 0, .int .i64 0, .int .i64 0, .slice none 0 0, .slice none 0 0] 52 (0, 0) hG
  have w0_ := n.c 0 0 rfl rfl
  have w1_ := n.c 0 1 rfl rfl
  have w2_ := n.c 0 2 rfl rfl
  have w3_ := n.c 0 3 rfl rfl
  have w4_ := n.c 0 4 rfl rfl
  have w5_ := n.c 0 5 rfl rfl
  have w6_ := n.c 0 6 rfl rfl
  have hb := F0.bel n
  have lV := n.lt 0 rfl
  have hbV := (hb.block P (hp_lt hbx)).trans hbx
  have c1 := (Lib.cell_of_heap hbV 1).trans rfl
  have planV := Lib.hid (h.below hb)
  have rg : V.rangeAt g (o + I * 7) [.int .i64 k0, .int .i64 k1, .int .i64 k2, .int .i64 k3, .int .i64 k4, .slice A3 ns_.length c3, .slice A4 es_.length c4] := fun j u e => by
    have hj : j < 7 := (List.getElem?_eq_some_iff.1 e).1
    rw [hb.cell (p := ⟨g, o + I * 7 + j, none⟩) hg, hca j hj]
    exact e
  clear hca h hbx hlen
  go_enter Tryz.func18, Tryz.ntmps18
  go_upto_region 1 with fail
  clear e1
  have q0 : ¬ (I : Int) < 0 := by omega
  have i0 : (0 : Int) ≤ (I : Int) := by omega
  have i1 : (I : Int) < (x.1.length : Int) := by omega
  have q1 : ¬ (x.1.length : Int) ≤ (I : Int) := by omega
  go_wp2_with fail
  refine plen_calls planV.out _ (Lib.hid ?_)
  go_upto_region 3 with fail
  obtain ⟨V3, e3, n, z3⟩ := n.new (.cells [.int .i64 k0, .int .i64 k1, .int .i64 k2, .int .i64 k3, .int .i64 k4, .slice A3 ns_.length c3, .slice A4 es_.length c4].toArray 52)
  go_upto_region 4 with (first | (refine wpList_load_g (by rfl) 52 _ rfl g (o + I * 7) rfl _ _ rg Tryz.underlying52 rfl (by kernel_rfl) ?_; go_simp) | (refine wpList_copy [.int .i64 k0, .int .i64 k1, .int .i64 k2, .int .i64 k3, .int .i64 k4, .slice A3 ns_.length c3, .slice A4 es_.length c4].toArray ⟨rfl, rfl, rfl⟩ ⟨rfl, rfl, rfl⟩ node_alloc (by kernel_rfl) ⟨rfl, by simp [Value.oneCell']⟩ (fun _ => ⟨rfl, rfl⟩) ?_; go_simp))
  clear e3 z3 rg planV c1 hbV hG eS w0_ w1_ w2_ w3_ w4_ w5_ w6_
  have hb3 := F0.bel n
  have t5 := n.c 0 5 rfl rfl
  go_wp2_with fail
  refine cloneS_calls ns_ _ V3 (rS.below hb3) sh1 hby.1 _ (Lib.hid fun v5 W5 o5 m5 => ?_)
  have l3 := n.lt 0 rfl
  replace n := n.bl m5
  clear t5
  obtain ⟨B5, d5, rfl⟩ := own_sl2 o5
  have t5 := n.c 0 5 rfl rfl
  have tf5 := n.f 0 5 rfl
  obtain ⟨V6, e6, n6, z6⟩ := n.put (j := 0) rfl [(5, .slice B5 ns_.length d5)]
  simp only [stL] at e6
  simp only [stA, List.setIfInBounds_toArray, List.set_cons_succ, List.set_cons_zero] at n6
  have o6 : V6.ownsRow V3.heap.size 9 1 (.slice B5 ns_.length d5) ns_.length (sv ns_) := ownKp o5 fun k q hk => by
    rw [← e6]
    exact hp_sne (by omega)
  clear n
  have n := n6
  clear n6
  go_upto_region 5 with fail
  clear t5 tf5 e6 o5
  have t6 := n.c 0 6 rfl rfl
  go_wp2_with fail
  refine cloneE_calls es_ _ V6 (RdAt.below rE (F0.bel n)) sh2 hby.2 _ (Lib.hid fun v7 W7 o7 m7 => ?_)
  replace n := n.bl m7
  have o8 : W7.ownsRow V3.heap.size 9 1 (.slice B5 ns_.length d5) ns_.length (sv ns_) := ownKp o6 fun k q hk => m7.block k (o6.lt k q).2
  clear t6 o6
  obtain ⟨B6, d6, rfl⟩ := own_sl2 o7
  have t6 := n.c 0 6 rfl rfl
  have tf6 := n.f 0 6 rfl
  obtain ⟨V8, e8, n8, z8⟩ := n.put (j := 0) rfl [(6, .slice B6 es_.length d6)]
  simp only [stL] at e8
  simp only [stA, List.setIfInBounds_toArray, List.set_cons_succ, List.set_cons_zero] at n8
  have l6 : V3.heap.size ≤ V6.heap.size := by rw [z6]; exact m5.size
  have o9 : V8.ownsRow V3.heap.size 9 1 (.slice B5 ns_.length d5) ns_.length (sv ns_) := ownKp o8 fun k q hk => by
    rw [← e8]
    exact hp_sne (by omega)
  have o10 : V8.ownsRow V6.heap.size 67 10 (.slice B6 es_.length d6) es_.length (flatG encE es_) := ownKp o7 fun k q hk => by
    rw [← e8]
    exact hp_sne (by omega)
  clear n
  have n := n8
  clear n8
  go_upto_region 6 with fail
  clear t6 tf6 e8 o7 o8
  have rF := n.rg 0 rfl
  have hG := n.b 1 rfl
  have lw := n.lt 1 rfl
  obtain ⟨VE, eE, nE⟩ := n.row (j := 1) rfl [.int .i64 k0, .int .i64 k1, .int .i64 k2, .int .i64 k3, .int .i64 k4, .slice B5 ns_.length d5, .slice B6 es_.length d6].toArray
  simp only [List.set_cons_succ, List.set_cons_zero] at nE
  have w0_ := nE.c 1 0 rfl rfl
  have w1_ := nE.c 1 1 rfl rfl
  have w2_ := nE.c 1 2 rfl rfl
  have w3_ := nE.c 1 3 rfl rfl
  have w4_ := nE.c 1 4 rfl rfl
  have w5_ := nE.c 1 5 rfl rfl
  have w6_ := nE.c 1 6 rfl rfl
  have hne : ∀ k, k ≠ w.heap.size → VE.heap[k]? = V8.heap[k]? := fun k hk => by
    rw [← eE]
    exact setRow_other _ _ _ _ (by omega)
  have l9 : w.heap.size < V3.heap.size := by omega
  have fin := Lib.hid (hR.out VE (.slice B5 ns_.length d5) (.slice B6 es_.length d6) _ hy1 (RdAt.of_own (ownKp o9 fun k q hk => hne k (by omega))) (RdAt.of_own (ownKp o10 fun k q hk => hne k (by omega))) (F0.bel nE))
  clear nE n hR o9 o10 hne
  go_wp2_with (first | (refine wpList_load_g (by rfl) 52 _ rfl V.heap.size (0) rfl _ _ rF Tryz.underlying52 rfl (by kernel_rfl) ?_) | (refine wpList_store_row (by rfl) 52 _ _ (by rfl) w.heap.size [.int .i64 k0, .int .i64 k1, .int .i64 k2, .int .i64 k3, .int .i64 k4, .slice B5 ns_.length d5, .slice B6 es_.length d6].toArray (by rfl) (by rfl) 52 _ hG (by kernel_rfl) rfl (by simp [Value.oneCell']) ?_; go_simp))
  first | refine bodyPost_ret ?_ rfl fin.out | refine bodyPost_end ?_ rfl fin.out
  simp [results, Tryz.results18, go_sem, w0_, w1_, w2_, w3_, w4_, w5_, w6_]
def refT : TH := ⟨9, 0, 0, 0, 0, [], ⟨#[116]⟩, 0⟩
def optT : TH := ⟨6, 0, 0, 0, 0, [], ⟨#[]⟩, 0⟩
def boolT : TH := ⟨1, 0, 0, 0, 0, [], ⟨#[]⟩, 0⟩
def noP : PH := ⟨⟨#[]⟩, 0, false, [], 0, 0, 0, 0, []⟩
def tF : Ft := .cons noP refT .nil .nil
def sc18 : Sc := ([(⟨#[97]⟩, 0)], [], [((⟨#[116]⟩, 0), optT, tF)], boolT, .nil)
theorem b18 : bldS sc18 = (0, 0) := by kernel_rfl
theorem p18_root : (planN (nms sc18.1) (leqF sc18.1 sc18.2.1) sc18.2.2.1 0 sc18.2.2.2.1 sc18.2.2.2.2).2.1 = 1 := by kernel_rfl
theorem p18_len : (planN (nms sc18.1) (leqF sc18.1 sc18.2.1) sc18.2.2.1 0 sc18.2.2.2.1 sc18.2.2.2.2).1.length = 2 := by kernel_rfl
theorem p18_dst : ((planN (nms sc18.1) (leqF sc18.1 sc18.2.1) sc18.2.2.1 0 sc18.2.2.2.1 sc18.2.2.2.2).1[0]?.map fun y => y.edges.map (·.dst)) = some [0] := by kernel_rfl
theorem p18_all : (planN (nms sc18.1) (leqF sc18.1 sc18.2.1) sc18.2.2.1 0 sc18.2.2.2.1 sc18.2.2.2.2).1.all (fun y => decide (y.names.length ≤ 1000000) && decide (y.edges.length ≤ 1000000)) = true := by kernel_rfl
theorem i64_z : I64 0 := ⟨by decide, by decide⟩
theorem gh18 (k : Int) (hk : I64 k) (x : ByteArray) (hx : x.size ≤ maxLen) : GoodH ⟨k, 0, 0, 0, 0, [], x, 0⟩ := ⟨hk, i64_z, i64_z, i64_z, i64_z, by simp, hx, i64_z, by simp⟩
theorem gs18 : GoodS sc18 where
  l := fun x hx => by
    obtain rfl := List.mem_singleton.1 hx
    exact ⟨by decide, i64_z⟩
  ll := by decide
  o := fun x hx => by cases hx
  ol := by decide
  t := fun x hx => by
    obtain rfl := List.mem_singleton.1 hx
    exact ⟨⟨by decide, i64_z⟩, gh18 6 ⟨by decide, by decide⟩ _ (by decide), ⟨⟨by decide, i64_z, by simp [noP], i64_z, i64_z, i64_z, i64_z, by simp [noP], by decide, by decide⟩, gh18 9 ⟨by decide, by decide⟩ _ (by decide), by decide, trivial, trivial⟩, by decide⟩
  tl := by decide
  h := gh18 1 ⟨by decide, by decide⟩ _ (by decide)
  g := trivial
  gl := by decide
theorem lives18_calls (w : World) (R : Ending → World → Prop) (hR : Hid (∀ w', Below w.heap.size w w' → R (.returned (.bool true)) w')) : Calls Tryz.prog 11 #[] w R := by
  have m0 := F0.z w
  obtain ⟨V1, e1, m1, z1⟩ := m0.new (.cells #[.string ⟨#[]⟩, .int .i64 0, .bool false, .slice none 0 0, .int .i64 0, .int .i64 0, .int .i64 0, .int .i64 0, .slice none 0 0, .int .i64 9, .int .i64 0, .int .i64 0, .int .i64 0, .int .i64 0, .slice none 0 0, .slice none 0 0, .string ⟨#[116]⟩, .int .i64 0] 92)
  obtain ⟨V2, e2, m2, z2⟩ := m1.new (.cells #[.int .i64 6, .int .i64 0, .int .i64 0, .int .i64 0, .int .i64 0, .slice none 0 0, .slice (some ⟨w.heap.size, 0, none⟩) 1 1, .string ⟨#[]⟩, .int .i64 0] 29)
  obtain ⟨V3, e3, m3, z3⟩ := m2.new (.cells #[.string ⟨#[97]⟩, .int .i64 0] 27)
  obtain ⟨V4, e4, n, z4⟩ := m3.new (.cells #[.string ⟨#[116]⟩, .int .i64 0, .int .i64 6, .int .i64 0, .int .i64 0, .int .i64 0, .int .i64 0, .slice none 0 0, .slice (some ⟨w.heap.size, 0, none⟩) 1 1, .string ⟨#[]⟩, .int .i64 0] 80)
  clear m0 m1 m2 z1 z2 z3 z4
  have hy : RdY V4 optT tF (.slice none 0 0) (.slice (some ⟨w.heap.size, 0, none⟩) 1 1) := by
    refine ⟨RdG.none0 _ _ _, _, 1, rfl, Nat.le_refl _, fun _ => ⟨_, _, rfl, n.lt 3 rfl, ?_⟩⟩
    refine RdFo.mk [.string ⟨#[]⟩, .int .i64 0, .bool false, .slice none 0 0, .int .i64 0, .int .i64 0, .int .i64 0, .int .i64 0, .slice none 0 0] [.int .i64 9, .int .i64 0, .int .i64 0, .int .i64 0, .int .i64 0, .slice none 0 0, .slice none 0 0, .string ⟨#[116]⟩, .int .i64 0] rfl (fun j v e => n.rg 3 rfl j v e) ⟨_, _, rfl, RdG.none0 _ _ _, RdG.none0 _ _ _⟩ ⟨rfl, _, ⟨_, rfl, RdG.none0 _ _ _⟩, RdSl.nil _ _ _⟩ trivial
  have rd : RdSc V4 sc18 (.slice (some ⟨V2.heap.size, 0, none⟩) 1 1) (.slice none 0 0) (.slice (some ⟨V3.heap.size, 0, none⟩) 1 1) (.slice none 0 0) (.slice none 0 0) :=
    ⟨⟨_, 1, 1, rfl, rfl, Nat.le_refl _, fun _ => ⟨_, 0, rfl, n.lt 1 rfl, fun j u e => n.rg 1 rfl j u e⟩⟩, rd_nil _ _, ⟨_, 1, rfl, Nat.le_refl _, fun _ => ⟨_, 0, rfl, n.lt 0 rfl, fun i hi => by
      obtain rfl : i = 0 := by
        have : i < 1 := hi
        omega
      exact ⟨_, _, hy, fun j u e => n.rg 0 rfl j u e⟩⟩⟩, ⟨RdG.none0 _ _ _, RdSl.nil _ _ _⟩⟩
  have r2 := m3.rg 1 rfl
  clear m3 hy
  replace rd := Lib.hid rd
  go_enter Tryz.func11, Tryz.ntmps11
  go_upto_region 2 with (refine wpList_copy #[.int .i64 6, .int .i64 0, .int .i64 0, .int .i64 0, .int .i64 0, .slice none 0 0, .slice (some ⟨w.heap.size, 0, none⟩) 1 1, .string ⟨#[]⟩, .int .i64 0] ⟨rfl, rfl, rfl⟩ ⟨rfl, rfl, rfl⟩ typ_alloc (by kernel_rfl) ⟨rfl, by simp [Value.oneCell']⟩ (fun _ => ⟨rfl, rfl⟩) ?_; go_simp)
  go_wp2_with (refine wpList_load_g (by rfl) 29 _ rfl V1.heap.size (0) rfl _ _ r2 Tryz.underlying29 rfl (by kernel_rfl) ?_; go_simp)
  refine build18_calls sc18 gs18 (by decide) _ _ _ _ _ V4 rd.out _ (Lib.hid fun W v hz pl m => ?_) (Lib.hid fun W hz m => ?_)
  · have n2 := n.bl m
    obtain ⟨P, rfl⟩ : ∃ P, v = .pointer (some ⟨P, 0, none⟩) := by
      obtain ⟨P, _, _, _, _, _, e, -⟩ := pl
      exact ⟨P, e⟩
    clear n rd hz r2
    obtain ⟨q, hq⟩ : ∃ q : Int × Int, q = (0, 0) := ⟨_, rfl⟩
    rw [← hq]
    obtain ⟨q0, q1⟩ := q
    replace hq := Lib.hid hq
    obtain ⟨W2, e5, n, z5⟩ := n2.new (.cells #[.int .i64 q0, .int .i64 q1] 35)
    have m2 : Below W.heap.size W W2 := e5 ▸ (Below.refl _ _).alloc (Nat.le_refl _) _
    clear n2 m z5
    go_upto_region 3 with fail
    clear e5
    replace pl := pl.below m2
    have hal := p18_all
    rw [List.all_eq_true] at hal
    go_wp2_with fail
    refine (show Calls Tryz.prog 18 #[.pointer (some ⟨P, 0, none⟩), .int .i64 0] W2 _ from pnode_calls pl (fun y hy => by simpa using hal y hy) 0 (by rw [p18_len]; decide) _ (Lib.hid fun W3 nv ev y hy rS rE m3 => ?_))
    have hd := p18_dst
    rw [hy] at hd
    simp only [Option.map_some, Option.some.injEq] at hd
    obtain ⟨k0, k1, k2, k3, k4, ns_, es_⟩ := y
    simp only at hd rS rE
    obtain ⟨e, rfl, hed⟩ : ∃ e : EdR, es_ = [e] ∧ e.dst = 0 := by
      match es_, hd with
      | [e], hd => exact ⟨e, rfl, by simpa using hd⟩
    obtain ⟨A5, c5, rfl, -⟩ := rS.open
    obtain ⟨A6, c6, rfl, -, hA⟩ := RdG.open encE_len (by decide) (show RdG encE 10 W3 ev [e] from rE)
    obtain ⟨g, o, rfl, hg, hca⟩ := hA (by simp)
    have x3 : W3.cell? ⟨g, o + 3, none⟩ = some (.int .i64 0) := by
      have := hca 0 (by simp) 3 (by decide)
      simp only [Nat.zero_mul, Nat.add_zero] at this
      rw [this]
      show some (Value.int .i64 e.dst) = _
      rw [hed]
    replace n := n.bl m3
    obtain ⟨W4, e6, n, z6⟩ := n.new (.cells #[.int .i64 k0, .int .i64 k1, .int .i64 k2, .int .i64 k3, .int .i64 k4, .slice A5 ns_.length c5, .slice (some ⟨g, o, none⟩) 1 c6] 52)
    have m4 : Below W3.heap.size W3 W4 := e6 ▸ (Below.refl _ _).alloc (Nat.le_refl _) _
    replace x3 := (m4.cell (p := ⟨g, o + 3, none⟩) hg).trans x3
    replace pl := Lib.hid (pl.below (m3.trans (m4.mono m3.size)))
    clear hy hd rS rE hA hca hal z6
    go_upto_region 4 with (refine wpList_copy #[.int .i64 k0, .int .i64 k1, .int .i64 k2, .int .i64 k3, .int .i64 k4, .slice A5 ns_.length c5, .slice (some ⟨g, o, none⟩) 1 c6] ⟨rfl, rfl, rfl⟩ ⟨rfl, rfl, rfl⟩ node_alloc (by kernel_rfl) ⟨rfl, by simp [Value.oneCell']⟩ (fun _ => ⟨rfl, rfl⟩) ?_; go_simp)
    clear e6
    obtain ⟨rfl, rfl⟩ : q0 = 0 ∧ q1 = 0 := by simpa using hq.out
    have a0 := n.c 1 0 rfl rfl
    have a1 := n.c 1 1 rfl rfl
    have t6 := n.c 0 6 rfl rfl
    have fin := Lib.hid (hR.out W4 (F0.bel n))
    have cR := Lib.hid fun R hR => proot_calls pl.out R hR
    rw [p18_root] at cR
    clear n hR hq pl m4 m3 m2
    go_wp2_with fail
    refine cR.out _ (Lib.hid ?_)
    go_wp2_with fail
    exact fin.out
  · exact absurd (by rw [b18]) hz
theorem none18_walk (i : Int) (x : ByteArray) (w : World) (R : Ending → World → Prop) (hR : Hid (∀ w', Below w.heap.size w w' → R (.returned (.bool true)) w')) : Calls Tryz.prog 4 #[.int .i64 i, .string x] w R := by
  go_enter Tryz.func4, Tryz.ntmps4
  go_wp2_with fail
  refine pnodenil_calls i w _ (Lib.hid fun W1 m1 => ?_)
  have n := (F0.z w).bl m1
  obtain ⟨V2, e2, n, z2⟩ := n.new (.cells #[.int .i64 0, .int .i64 0, .int .i64 0, .int .i64 0, .int .i64 0, .slice none 0 0, .slice none 0 0] 52)
  have hb := Lib.hid (F0.bel n)
  clear n m1 z2
  go_upto_region 3 with (refine wpList_copy #[.int .i64 0, .int .i64 0, .int .i64 0, .int .i64 0, .int .i64 0, .slice none 0 0, .slice none 0 0] ⟨rfl, rfl, rfl⟩ ⟨rfl, rfl, rfl⟩ node_alloc (by kernel_rfl) ⟨rfl, by simp [Value.oneCell']⟩ (fun _ => ⟨rfl, rfl⟩) ?_; go_simp)
  clear e2
  go_wp2_with fail
  refine pfindnil_calls x V2 _ (Lib.hid ?_)
  go_wp2_with fail
  refine plennil_calls V2 _ (Lib.hid ?_)
  go_wp2_with fail
  refine prootnil_calls V2 _ (Lib.hid ?_)
  go_wp2_with fail
  refine platnil_calls V2 _ (Lib.hid ?_)
  go_wp2_with fail
  refine lives18_calls V2 _ (Lib.hid fun W3 m3 => ?_)
  have fin := Lib.hid (hR.out W3 (hb.out.trans (m3.mono hb.out.size)))
  clear hR hb m3
  go_wp2_with fail
  exact fin.out
end Go.Proofs.YtncijmodlhijoaaGreat.Res
