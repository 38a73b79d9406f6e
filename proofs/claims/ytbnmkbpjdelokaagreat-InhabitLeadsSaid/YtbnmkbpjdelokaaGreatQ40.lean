import Derived.Test.YtbnmkbpjdelokaaGreatProg
import Derived.Shelf.SlSortCmp.NoneTotal
import Derived.Shelf.SlicesE.Clone
import Derived.Test.YtbnmkbpjdelokaaGreatQ39
set_option linter.unusedVariables false
set_option maxRecDepth 100000
set_option maxHeartbeats 4000000
namespace Go.Proofs.YtbnmkbpjdelokaaGreat
open Go.Shelf
def cloneEd_ren : Go.Shelf.Ren := ⟨fun | 41 => 55 | n => n, fun | 22 => 57 | 23 => 63 | 4 => 4 | n => n, fun | n => n⟩
theorem cloneEd : Go.Proofs.SlLaysE0.n41 Tryz.prog cloneEd_ren := {
  mixed := by kernel_rfl
  f41 := ⟨Tryz.f55.name, by decide, Tryz.func55.trans (congrArg some (by kernel_rfl))⟩
  t4 := Tryz.underlying4
  a4 := Tryz.isAgg4
  z4 := Tryz.sizeOf4
  v4 := Tryz.zeroValue4
  t22 := Tryz.underlying57
  a22 := Tryz.isAgg57
  z22 := Tryz.sizeOf57
  v22 := Tryz.zeroValue57 }
end Go.Proofs.YtbnmkbpjdelokaaGreat
namespace Go.Proofs.YtbnmkbpjdelokaaGreat.Res
open Go.RowKit Go.Lib Utf Nam Lat Kin Unp Rel Lab
theorem PlanP.op {w : World} {v : Value} {nm : List ByteArray} {F : Nat → Nat → Bool} {ns : List ByteArray} {x : List NdR × Int × List Int} (h : PlanP w v nm F ns x) : ∃ (P : Nat) (lv tab : Value) (A Z : Option Addr) (c z : Nat) (xs : List Nv), v = .pointer (some ⟨P, 0, none⟩) ∧ w.heap[P]? = some (.cells #[lv, .slice A x.1.length c, .int .i64 x.2.1, tab, .slice Z x.2.2.length z] 108) ∧ LatP w lv nm F ∧ RdT w tab ns ∧ xs.map (·.1) = x.1 ∧ (∀ y ∈ xs, (RdS w y.2.1 y.1.names ∧ RdEd w y.2.2 y.1.edges) ∧ Shp y.2.1 ∧ Shp y.2.2) ∧
    (0 < xs.length → ∃ g o, A = some ⟨g, o, none⟩ ∧ g < w.heap.size ∧ ∀ i (hi : i < xs.length) j, j < 7 → w.cell? ⟨g, o + i * 7 + j, none⟩ = (encN xs[i])[j]?) ∧ RdAt w (.slice Z x.2.2.length z) 1 (ints x.2.2) := by
  obtain ⟨P, lv, nv, tab, zv, xs, e, hb, hl, ht, hn, hx, hr, hz⟩ := h
  have hn' : RdG encN 7 w nv xs := hn
  obtain ⟨A, c, rfl, -, hA⟩ := RdG.open encN_len (by decide) hn'
  have hlen : xs.length = x.1.length := by rw [← hx, List.length_map]
  have hz2 := hz
  obtain ⟨Z, n, z, rfl, hzl, -, -⟩ := hz2
  obtain rfl : n = x.2.2.length := by simpa [ints] using hzl.symm
  rw [hlen] at hb
  exact ⟨P, lv, tab, A, Z, c, z, xs, e, hb, hl, ht, hx, hr, hA, hz⟩
theorem plen_calls {w : World} {v : Value} {nm : List ByteArray} {F : Nat → Nat → Bool} {ns : List ByteArray} {x : List NdR × Int × List Int} (h : PlanP w v nm F ns x) (R : Ending → World → Prop) (hR : Hid (R (.returned (.int .i64 x.1.length)) w)) : Calls Tryz.prog 20 #[v] w R := by
  obtain ⟨P, lv, tab, A, Z, c, z, xs, rfl, hb, -, -, -, -, -, -⟩ := h.op
  have c1 := (Lib.cell_of_heap hb 1).trans rfl
  clear hb h
  go_enter Tryz.func20, Tryz.ntmps20
  go_wp2_with fail
  exact hR.out
theorem node_alloc (ρ : Operand → Value) (W : World) (o : Oper) (h : o.op = .alloc 59) : (execOp ρ o).run Tryz.prog W = .ok (.value (ptA W.heap.size)) (W.alloc (.cells #[.int .i64 0, .int .i64 0, .int .i64 0, .int .i64 0, .int .i64 0, .slice none 0 0, .slice none 0 0] 59)) := by
  simp [execOp, h, go_sem, ptA]
theorem cloneE_calls (l : List EdR) (v : Value) (w : World) (hx : RdEd w v l) (hv : Shp v) (hl : l.length ≤ 1000000) (R : Ending → World → Prop) (hR : Hid (∀ v' w', w'.ownsRow w.heap.size 63 10 v' l.length (flatG encE l) → Below w.heap.size w w' → R (.returned v') w')) : Calls Tryz.prog 55 #[v] w R := by
  obtain ⟨i0, hi, hZ⟩ := edge_info
  simp only [Prod.mk.injEq] at hZ
  obtain ⟨hz0, hz1, hz2⟩ := hZ
  have hlen : (flatG encE l).length = l.length * 10 := flatG_len encE_len l
  have hx2 : RdAt w v 10 (flatG encE l) := hx
  obtain ⟨A, n, c, e, h1, h2, h3⟩ := hx2
  obtain rfl : n = l.length := by omega
  rcases hv with e2 | ⟨g, o, n, c2, e2⟩
  · rw [e2] at e
    simp only [Value.slice.injEq] at e
    obtain ⟨rfl, hz, rfl⟩ := e
    obtain rfl := List.eq_nil_of_length_eq_zero hz.symm
    subst e2
    have := AnyE.slices_Clone_nil YtbnmkbpjdelokaaGreat.cloneEd 0 0 w
    change Calls Tryz.prog 55 _ _ _ at this
    refine this.mono ?_
    rintro e w' ⟨rfl, rfl⟩
    exact hR.out _ _ (World.ownsRow_nil _ _ _ _) (Below.refl _ _)
  · rw [e2] at e
    simp only [Value.slice.injEq] at e
    obtain ⟨rfl, rfl, rfl⟩ := e
    subst e2
    have hcell : ∀ j u, (flatG encE l)[j]? = some u → w.cell? ⟨g, o + j, none⟩ = some u := fun j u hj => by
      obtain ⟨g', o', e, -, hca⟩ := h3 (by have := (List.getElem?_eq_some_iff.1 hj).1; omega)
      simp only [Option.some.injEq, Addr.mk.injEq, and_true] at e
      obtain ⟨rfl, rfl⟩ := e
      exact hca j u hj
    have hone : ∀ u ∈ flatG encE l, u.oneCell' = true := fun u hu => by
      simp only [flatG, List.mem_flatMap, encE, List.mem_cons, List.not_mem_nil, or_false] at hu
      obtain ⟨x, _, rfl | rfl | rfl | rfl | rfl | rfl | rfl | rfl | rfl | rfl⟩ := hu <;> rfl
    have := AnyE.slices_Clone YtbnmkbpjdelokaaGreat.cloneEd i0 (.agg #[.string ⟨#[]⟩, .bool false, .int .i64 0, .int .i64 0, .int .i64 0, .int .i64 0, .int .i64 0, .int .i64 0, .int .i64 0, .int .i64 0]) 10 88 hi hz0 hz1 hz2 rfl (by decide) Tryz.sizeOf63 g o l.length c2 (flatG encE l) w hlen (by unfold maxLen; omega) (by omega) hcell hone
    change Calls Tryz.prog 55 _ _ _ at this
    refine this.mono ?_
    rintro e w' ⟨v', rfl, hown, -, hb⟩
    exact hR.out _ _ hown hb
theorem cloneS_calls (l : List ByteArray) (v : Value) (w : World) (hx : RdS w v l) (hv : Shp v) (hl : l.length ≤ 1000000) (R : Ending → World → Prop) (hR : Hid (∀ v' w', w'.ownsRow w.heap.size 9 1 v' l.length (sv l) → Below w.heap.size w w' → R (.returned v') w')) : Calls Tryz.prog 54 #[v] w R := by
  obtain ⟨i0, hi, hZ⟩ := str_info
  simp only [Prod.mk.injEq] at hZ
  obtain ⟨hz0, hz1, hz2⟩ := hZ
  have hlen : (sv l).length = l.length := sv_len l
  have hx2 : RdAt w v 1 (sv l) := hx
  obtain ⟨A, n, c, e, h1, h2, h3⟩ := hx2
  obtain rfl : n = l.length := by omega
  rcases hv with e2 | ⟨g, o, n, c2, e2⟩
  · rw [e2] at e
    simp only [Value.slice.injEq] at e
    obtain ⟨rfl, hz, rfl⟩ := e
    obtain rfl := List.eq_nil_of_length_eq_zero hz.symm
    subst e2
    have := AnyE.slices_Clone_nil YtbnmkbpjdelokaaGreat.cloneStr 0 0 w
    change Calls Tryz.prog 54 _ _ _ at this
    refine this.mono ?_
    rintro e w' ⟨rfl, rfl⟩
    exact hR.out _ _ (World.ownsRow_nil _ _ _ _) (Below.refl _ _)
  · rw [e2] at e
    simp only [Value.slice.injEq] at e
    obtain ⟨rfl, rfl, rfl⟩ := e
    subst e2
    have hcell : ∀ j u, (sv l)[j]? = some u → w.cell? ⟨g, o + j, none⟩ = some u := fun j u hj => by
      obtain ⟨g', o', e, -, hca⟩ := h3 (by have := (List.getElem?_eq_some_iff.1 hj).1; omega)
      simp only [Option.some.injEq, Addr.mk.injEq, and_true] at e
      obtain ⟨rfl, rfl⟩ := e
      exact hca j u hj
    have := AnyE.slices_Clone YtbnmkbpjdelokaaGreat.cloneStr i0 (.string ⟨#[]⟩) 1 16 hi hz0 hz1 hz2 rfl (by decide) Tryz.sizeOf9 g o l.length c2 (sv l) w (by rw [sv_len, Nat.mul_one]) (by unfold maxLen; omega) (by omega) hcell (fun u hu => by simp only [sv, List.mem_map] at hu; obtain ⟨s, -, rfl⟩ := hu; rfl)
    change Calls Tryz.prog 54 _ _ _ at this
    refine this.mono ?_
    rintro e w' ⟨v', rfl, hown, -, hb⟩
    exact hR.out _ _ hown hb
theorem pnodeo_calls {w : World} {v : Value} {nm : List ByteArray} {F : Nat → Nat → Bool} {ns : List ByteArray} {x : List NdR × Int × List Int} (h : PlanP w v nm F ns x) (hb1 : ∀ y ∈ x.1, y.names.length ≤ 1000000 ∧ y.edges.length ≤ 1000000) (I : Nat) (hI : I < x.1.length) (R : Ending → World → Prop)
    (hR : Hid (∀ w' nv ev y, x.1[I]? = some y → w'.ownsRow w.heap.size 9 1 nv y.names.length (sv y.names) → w'.ownsRow w.heap.size 63 10 ev y.edges.length (flatG encE y.edges) → Below w.heap.size w w' → R (.returned (.tuple #[.agg #[.int .i64 y.kind, .int .i64 y.at_, .int .i64 y.lo, .int .i64 y.hi, .int .i64 y.most, nv, ev], .bool true])) w')) : Calls Tryz.prog 21 #[v, .int .i64 I] w R := by
  obtain ⟨P, lv, tab, A, Z, c, z, xs, rfl, hbx, -, -, hx, hr, hA, -⟩ := h.op
  have hlen : xs.length = x.1.length := by rw [← hx, List.length_map]
  obtain ⟨g, o, rfl, hg, hca0⟩ := hA (by omega)
  have hIx : I < xs.length := by omega
  have hca := hca0 I hIx
  have hy1 : x.1[I]? = some (xs[I]).1 := by rw [← hx, List.getElem?_map, List.getElem?_eq_getElem hIx]; rfl
  have hry := hr _ (List.getElem_mem hIx)
  have hby := hb1 _ (List.mem_of_getElem? hy1)
  clear hca0 hA hr hb1 hx
  generalize xs[I] = y at *
  obtain ⟨⟨k0, k1, k2, k3, k4, ns_, es_⟩, nv, ev⟩ := y
  simp only at hy1 hry hby
  obtain ⟨⟨rS, rE⟩, sh1, sh2⟩ := hry
  obtain ⟨A3, c3, rfl, -⟩ := rS.open
  obtain ⟨A4, c4, rfl, -⟩ := RdG.open encE_len (by decide) (show RdG encE 10 w ev es_ from rE)
  have m0 := F0.z w
  obtain ⟨V, e1, n, z1⟩ := m0.new (.cells #[.int .i64 0, .int .i64 0, .int .i64 0, .int .i64 0, .int .i64 0, .slice none 0 0, .slice none 0 0] 59)
  clear m0 z1
  have hG := n.b 0 rfl
  have eS := setRow_self V w.heap.size #[.int .i64 0, .int .i64 0, .int .i64 0, .int .i64 0, .int .i64 0, .slice none 0 0, .slice none 0 0] 59 (0, 0) hG
  have w0_ := n.c 0 0 rfl rfl
  have w1_ := n.c 0 1 rfl rfl
  have w2_ := n.c 0 2 rfl rfl
  have w3_ := n.c 0 3 rfl rfl
  have w4_ := n.c 0 4 rfl rfl
  have w5_ := n.c 0 5 rfl rfl
  have w6_ := n.c 0 6 rfl rfl
  have hb := F0.bel n
  have lV := n.lt 0 rfl
  have hbV := (hb.block P (hp_lt hbx)).trans hbx
  have c1 := (Lib.cell_of_heap hbV 1).trans rfl
  have planV := Lib.hid (h.below hb)
  have rg : V.rangeAt g (o + I * 7) [.int .i64 k0, .int .i64 k1, .int .i64 k2, .int .i64 k3, .int .i64 k4, .slice A3 ns_.length c3, .slice A4 es_.length c4] := fun j u e => by
    have hj : j < 7 := (List.getElem?_eq_some_iff.1 e).1
    rw [hb.cell (p := ⟨g, o + I * 7 + j, none⟩) hg, hca j hj]
    exact e
  clear hca h hbx hlen
  go_enter Tryz.func21, Tryz.ntmps21
  go_upto_region 1 with fail
  clear e1
  have q0 : ¬ (I : Int) < 0 := by omega
  have i0 : (0 : Int) ≤ (I : Int) := by omega
  have i1 : (I : Int) < (x.1.length : Int) := by omega
  have q1 : ¬ (x.1.length : Int) ≤ (I : Int) := by omega
  go_wp2_with fail
  refine plen_calls planV.out _ (Lib.hid ?_)
  go_upto_region 3 with fail
  obtain ⟨V3, e3, n, z3⟩ := n.new (.cells [.int .i64 k0, .int .i64 k1, .int .i64 k2, .int .i64 k3, .int .i64 k4, .slice A3 ns_.length c3, .slice A4 es_.length c4].toArray 59)
  go_upto_region 4 with (first | (refine wpList_load_g (by rfl) 59 _ rfl g (o + I * 7) rfl _ _ rg Tryz.underlying59 rfl (by kernel_rfl) ?_; go_simp) | (refine wpList_copy [.int .i64 k0, .int .i64 k1, .int .i64 k2, .int .i64 k3, .int .i64 k4, .slice A3 ns_.length c3, .slice A4 es_.length c4].toArray ⟨rfl, rfl, rfl⟩ ⟨rfl, rfl, rfl⟩ node_alloc (by kernel_rfl) ⟨rfl, by simp [Value.oneCell']⟩ (fun _ => ⟨rfl, rfl⟩) ?_; go_simp))
  clear e3 z3 rg planV c1 hbV hG eS w0_ w1_ w2_ w3_ w4_ w5_ w6_
  have hb3 := F0.bel n
  have t5 := n.c 0 5 rfl rfl
  go_wp2_with fail
  refine cloneS_calls ns_ _ V3 (rS.below hb3) sh1 hby.1 _ (Lib.hid fun v5 W5 o5 m5 => ?_)
  have l3 := n.lt 0 rfl
  replace n := n.bl m5
  clear t5
  obtain ⟨B5, d5, rfl⟩ := own_sl2 o5
  have t5 := n.c 0 5 rfl rfl
  have tf5 := n.f 0 5 rfl
  obtain ⟨V6, e6, n6, z6⟩ := n.put (j := 0) rfl [(5, .slice B5 ns_.length d5)]
  simp only [stL] at e6
  simp only [stA, List.setIfInBounds_toArray, List.set_cons_succ, List.set_cons_zero] at n6
  have o6 : V6.ownsRow V3.heap.size 9 1 (.slice B5 ns_.length d5) ns_.length (sv ns_) := ownKp o5 fun k q hk => by
    rw [← e6]
    exact hp_sne (by omega)
  clear n
  have n := n6
  clear n6
  go_upto_region 5 with fail
  clear t5 tf5 e6 o5
  have t6 := n.c 0 6 rfl rfl
  go_wp2_with fail
  refine cloneE_calls es_ _ V6 (RdAt.below rE (F0.bel n)) sh2 hby.2 _ (Lib.hid fun v7 W7 o7 m7 => ?_)
  replace n := n.bl m7
  have o8 : W7.ownsRow V3.heap.size 9 1 (.slice B5 ns_.length d5) ns_.length (sv ns_) := ownKp o6 fun k q hk => m7.block k (o6.lt k q).2
  clear t6 o6
  obtain ⟨B6, d6, rfl⟩ := own_sl2 o7
  have t6 := n.c 0 6 rfl rfl
  have tf6 := n.f 0 6 rfl
  obtain ⟨V8, e8, n8, z8⟩ := n.put (j := 0) rfl [(6, .slice B6 es_.length d6)]
  simp only [stL] at e8
  simp only [stA, List.setIfInBounds_toArray, List.set_cons_succ, List.set_cons_zero] at n8
  have l6 : V3.heap.size ≤ V6.heap.size := by rw [z6]; exact m5.size
  have o9 : V8.ownsRow V3.heap.size 9 1 (.slice B5 ns_.length d5) ns_.length (sv ns_) := ownKp o8 fun k q hk => by
    rw [← e8]
    exact hp_sne (by omega)
  have o10 : V8.ownsRow V6.heap.size 63 10 (.slice B6 es_.length d6) es_.length (flatG encE es_) := ownKp o7 fun k q hk => by
    rw [← e8]
    exact hp_sne (by omega)
  clear n
  have n := n8
  clear n8
  go_upto_region 6 with fail
  clear t6 tf6 e8 o7 o8
  have rF := n.rg 0 rfl
  have hG := n.b 1 rfl
  have lw := n.lt 1 rfl
  obtain ⟨VE, eE, nE⟩ := n.row (j := 1) rfl [.int .i64 k0, .int .i64 k1, .int .i64 k2, .int .i64 k3, .int .i64 k4, .slice B5 ns_.length d5, .slice B6 es_.length d6].toArray
  simp only [List.set_cons_succ, List.set_cons_zero] at nE
  have w0_ := nE.c 1 0 rfl rfl
  have w1_ := nE.c 1 1 rfl rfl
  have w2_ := nE.c 1 2 rfl rfl
  have w3_ := nE.c 1 3 rfl rfl
  have w4_ := nE.c 1 4 rfl rfl
  have w5_ := nE.c 1 5 rfl rfl
  have w6_ := nE.c 1 6 rfl rfl
  have hne : ∀ k, k ≠ w.heap.size → VE.heap[k]? = V8.heap[k]? := fun k hk => by
    rw [← eE]
    exact setRow_other _ _ _ _ (by omega)
  have l9 : w.heap.size < V3.heap.size := by omega
  have fin := Lib.hid (hR.out VE (.slice B5 ns_.length d5) (.slice B6 es_.length d6) _ hy1 (own_mono (ownKp o9 fun k q hk => hne k (by omega)) (by omega)) (own_mono (ownKp o10 fun k q hk => hne k (by omega)) (by omega)) (F0.bel nE))
  clear nE n hR o9 o10 hne
  go_wp2_with (first | (refine wpList_load_g (by rfl) 59 _ rfl V.heap.size (0) rfl _ _ rF Tryz.underlying59 rfl (by kernel_rfl) ?_) | (refine wpList_store_row (by rfl) 59 _ _ (by rfl) w.heap.size [.int .i64 k0, .int .i64 k1, .int .i64 k2, .int .i64 k3, .int .i64 k4, .slice B5 ns_.length d5, .slice B6 es_.length d6].toArray (by rfl) (by rfl) 59 _ hG (by kernel_rfl) rfl (by simp [Value.oneCell']) ?_; go_simp))
  first | refine bodyPost_ret ?_ rfl fin.out | refine bodyPost_end ?_ rfl fin.out
  simp [results, Tryz.results21, go_sem, w0_, w1_, w2_, w3_, w4_, w5_, w6_]
theorem pnode_calls {w : World} {v : Value} {nm : List ByteArray} {F : Nat → Nat → Bool} {ns : List ByteArray} {x : List NdR × Int × List Int} (h : PlanP w v nm F ns x) (hb1 : ∀ y ∈ x.1, y.names.length ≤ 1000000 ∧ y.edges.length ≤ 1000000) (I : Nat) (hI : I < x.1.length) (R : Ending → World → Prop)
    (hR : Hid (∀ w' nv ev y, x.1[I]? = some y → RdS w' nv y.names → RdEd w' ev y.edges → Below w.heap.size w w' → R (.returned (.tuple #[.agg #[.int .i64 y.kind, .int .i64 y.at_, .int .i64 y.lo, .int .i64 y.hi, .int .i64 y.most, nv, ev], .bool true])) w')) : Calls Tryz.prog 21 #[v, .int .i64 I] w R :=
  pnodeo_calls h hb1 I hI R (Lib.hid fun w' nv ev y hy a b m => hR.out w' nv ev y hy (RdAt.of_own a) (RdAt.of_own b) m)
end Go.Proofs.YtbnmkbpjdelokaaGreat.Res
