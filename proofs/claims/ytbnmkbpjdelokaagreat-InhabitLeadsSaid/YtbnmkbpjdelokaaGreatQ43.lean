import Derived.Test.YtbnmkbpjdelokaaGreatQ3
import Derived.Test.YtbnmkbpjdelokaaGreatQ14
import Derived.Test.YtbnmkbpjdelokaaGreatQ42
set_option linter.unusedVariables false
set_option maxRecDepth 100000
set_option maxHeartbeats 4000000
namespace Go.Proofs.YtbnmkbpjdelokaaGreat
open Go.RowKit Go.Lib
structure GW (W : World) (p q : Nat) where
  w : World
  s : W.heap.size ≤ w.heap.size
  b : ∀ k, k < W.heap.size → k ≠ p → k ≠ q → w.heap[k]? = W.heap[k]?
end Go.Proofs.YtbnmkbpjdelokaaGreat
namespace Go.Proofs.YtbnmkbpjdelokaaGreat.Unp
open Go.RowKit Go.Lib
theorem sc_block : ∀ (vs : List Value) (o : Nat) (w : World) (B k : Nat), k ≠ B → (w.setCells B o vs).heap[k]? = w.heap[k]?
  | [], _, _, _, _, _ => rfl
  | v :: vs, o, w, B, k, h => (sc_block vs (o + 1) (w.setCell ⟨B, o, none⟩ v) B k h).trans (Below.heap_setCell _ ⟨B, o, none⟩ v k h)
theorem sc_size : ∀ (vs : List Value) (o : Nat) (w : World) (B : Nat), (w.setCells B o vs).heap.size = w.heap.size
  | [], _, _, _ => rfl
  | v :: vs, o, w, B => (sc_size vs (o + 1) (w.setCell ⟨B, o, none⟩ v) B).trans (by simp [World.setCell])
end Go.Proofs.YtbnmkbpjdelokaaGreat.Unp
namespace Go.Proofs.YtbnmkbpjdelokaaGreat
open Go.RowKit Go.Lib Unp
def segA (c : Array Value) (o : Nat) : List Value → Array Value
  | [] => c
  | v :: l => segA (c.setIfInBounds o v) (o + 1) l
theorem segA_size : ∀ (l : List Value) (c : Array Value) (o : Nat), (segA c o l).size = c.size
  | [], _, _ => rfl
  | v :: l, c, o => (segA_size l _ _).trans (by simp)
theorem segA_out : ∀ (l : List Value) (c : Array Value) (o j : Nat), (j < o ∨ o + l.length ≤ j) → (segA c o l)[j]? = c[j]?
  | [], _, _, _, _ => rfl
  | v :: l, c, o, j, h => (segA_out l _ (o + 1) j (by simp only [List.length_cons] at h; omega)).trans (by
    rw [Array.getElem?_setIfInBounds, if_neg (by simp only [List.length_cons] at h; omega)])
theorem segA_in : ∀ (l : List Value) (c : Array Value) (o i : Nat) (v : Value), o + l.length ≤ c.size → l[i]? = some v → (segA c o l)[o + i]? = some v
  | [], _, _, _, _, _, h => by simp at h
  | u :: l, c, o, 0, v, hs, h => by
    obtain rfl : u = v := by simpa using h
    show (segA (c.setIfInBounds o u) (o + 1) l)[o + 0]? = _
    rw [segA_out l _ (o + 1) (o + 0) (.inl (by omega)), Nat.add_zero, Array.getElem?_setIfInBounds, if_pos rfl, if_pos (by simp only [List.length_cons] at hs; omega)]
  | u :: l, c, o, i + 1, v, hs, h => by
    have := segA_in l (c.setIfInBounds o u) (o + 1) i v (by simp only [List.length_cons, Array.size_setIfInBounds] at hs ⊢; omega) (by simpa using h)
    rw [show o + (i + 1) = o + 1 + i by omega]
    exact this
theorem sc_at {B : Nat} {t : TypeId} : ∀ (l : List Value) (o : Nat) (w : World) (c : Array Value), w.heap[B]? = some (.cells c t) → (w.setCells B o l).heap[B]? = some (.cells (segA c o l) t)
  | [], _, _, _, h => h
  | v :: l, o, w, c, h => sc_at l (o + 1) (w.setCell ⟨B, o, none⟩ v) _ (hp_sat h o v)
theorem there_seg {w : World} {B o m : Nat} {cs : Array Value} {t : TypeId} (h : w.heap[B]? = some (.cells cs t)) (hs : o + m ≤ cs.size) : w.there B o m := fun j hj => by
  rw [Lib.cell_of_heap h, Lib.frozen_of_heap h]
  exact ⟨by rw [Array.getElem?_eq_getElem (by omega)]; rfl, rfl⟩
theorem Hq.seg {S : Type} {F : Fm S} {s0 s : S} {w V : World} {l : List (Nat × Obj)} {j a : Nat} {c : Array Value} {t : TypeId} (h : Hq F s0 s w V l) (hj : l[j]? = some (a, .cells c t)) (o : Nat) (vs : List Value) : ∃ V', V.setCells a o vs = V' ∧ Hq F s0 s w V' (l.set j (a, .cells (segA c o vs) t)) ∧ V'.heap.size = V.heap.size := by
  have hm := List.mem_of_getElem? hj
  have lo := h.lo _ hm
  have hz : (V.setCells a o vs).heap.size = V.heap.size := sc_size vs o V a
  have hn : ∀ k, k ≠ a → (V.setCells a o vs).heap[k]? = V.heap[k]? := fun k hk => sc_block vs o V a k hk
  have hos : ∀ (vs : List Value) (o : Nat) (V : World), (V.setCells a o vs).os = V.os ∧ (V.setCells a o vs).tape = V.tape ∧ (V.setCells a o vs).output = V.output := by
    intro vs
    induction vs with
    | nil => intro o V; exact ⟨rfl, rfl, rfl⟩
    | cons v vs ih => intro o V; exact ih (o + 1) (V.setCell ⟨a, o, none⟩ v)
  refine ⟨_, rfl, ⟨F.keep h.inv (Nat.le_of_eq hz.symm) fun k hk => hn k (by rintro rfl; exact lo.2 hk), ?_, h.sub, hq_turn hj h.dj h.at_ (sc_at vs o V c (h.at_ _ hm)) hn, fun x hx => ?_, hp_setl (R := fun x y => x.1 ≠ y.1) (x := (a, .cells c t)) (y := (a, .cells (segA c o vs) t)) (fun z => ⟨Iff.rfl, Iff.rfl⟩) hj h.dj⟩, hz⟩
  · exact h.gr.trans (T := fun k => k = a) ⟨(hos vs o V).1, (hos vs o V).2.1, (hos vs o V).2.2, Nat.le_of_eq hz.symm, fun k _ q => hn k q⟩ fun k e => .inr (by subst e; exact lo.1)
  · rcases List.mem_or_eq_of_mem_set hx with hx | rfl
    · exact h.lo x hx
    · exact lo
end Go.Proofs.YtbnmkbpjdelokaaGreat
namespace Go.Proofs.YtbnmkbpjdelokaaGreat.Inh
open Go.RowKit Go.Lib Res Nam Kin Unp
theorem mk_node (n : Nat) (hn : n ≤ 1000000) : ∃ M : Array Value, M.size = n * 7 ∧
    ∀ w, (Instr.makeSlice 88 (.int .i64 n) (.int .i64 n)).run Tryz.prog w = .ok (.slice (some ⟨w.heap.size, 0, none⟩) n n) (w.alloc (.cells M 59)) := by
  obtain ⟨i0, hi, hZ⟩ := node_info
  simp only [Prod.mk.injEq] at hZ
  obtain ⟨hz0, hz1, hz2⟩ := hZ
  refine ⟨madeCells (#[.int .i64 0, .int .i64 0, .int .i64 0, .int .i64 0, .int .i64 0, .slice none 0 0, .slice none 0 0]) (n * 7), size_madeCells _ _, fun w => ?_⟩
  have := run_make (P := Tryz.prog) w 88 59 i0 _ Tryz.underlying88 hi hz0 .i64 .i64 n n (by omega) (Int.le_refl _) (by rw [hz2]; omega) (by omega)
  rw [hz1] at this
  exact this
theorem cast_w {P : Program} {ops : Array Oper} {Q : Exit → Act → World → Prop} {l : List Oper} {a : Act} {w w' : World} (e : w = w') (h : wpList P ops Q l a w') : wpList P ops Q l a w := e ▸ h
def NodesP (w : World) (nv : Value) (xs : List Nv) : Prop := ∃ G, nv = .slice (some ⟨G, 0, none⟩) xs.length xs.length ∧ G < w.heap.size ∧ (∀ j u, (flatG encN xs)[j]? = some u → w.cell? ⟨G, j, none⟩ = some u) ∧ ∀ y ∈ xs, RdS w y.2.1 y.1.names ∧ RdEd w y.2.2 y.1.edges
theorem encN_at {xs : List Nv} {K : Nat} (hK : K < xs.length) {j : Nat} {u : Value} (h : (encN xs[K])[j]? = some u) : (flatG encN xs)[K * 7 + j]? = some u := by
  rw [flatG_get encN_len xs K j hK (by have := (List.getElem?_eq_some_iff.1 h).1; exact this)]
  exact h
theorem nodes_calls {w : World} {v : Value} {nm : List ByteArray} {F : Nat → Nat → Bool} {ns : List ByteArray} {x : List NdR × Int × List Int} (h : PlanP w v nm F ns x) (hb1 : ∀ y ∈ x.1, y.names.length ≤ 1000000 ∧ y.edges.length ≤ 1000000) (hlen : x.1.length ≤ 1000000) (R : Ending → World → Prop)
    (hR : Hid (∀ w' nv xs, xs.map (·.1) = x.1 → NodesP w' nv xs → Below w.heap.size w w' → R (.returned nv) w')) : Calls Tryz.prog 40 #[v] w R := by
  obtain ⟨P, hv⟩ : ∃ P, v = .pointer (some ⟨P, 0, none⟩) := by
    obtain ⟨P, _, _, _, _, _, e, -⟩ := h
    exact ⟨P, e⟩
  obtain ⟨M, hM, hmk⟩ := mk_node x.1.length hlen
  obtain ⟨nN_, hnN⟩ : ∃ nN_ : Nat, x.1.length = nN_ := ⟨_, rfl⟩
  rw [hnN] at hM hmk
  have cL := Lib.hid fun W (pl : PlanP W v nm F ns x) R hR => plen_calls pl R hR
  rw [hnN] at cL
  have h0 := Lib.hid h
  have n := F0.z w
  obtain ⟨V, e1, n, z1⟩ := n.new (.cells M 59)
  subst hv
  replace hmk := hmk w
  rw [e1] at hmk
  replace hb1 := Lib.hid hb1
  have hn63 : (nN_ : Int) ≤ 1000000 := by omega
  go_enter Tryz.func40, Tryz.ntmps40
  go_wp2_with fail
  refine cL.out w h _ (Lib.hid ?_)
  clear h
  replace hM := Lib.hid hM
  replace hnN := Lib.hid hnN
  go_wp2_with fail
  clear hmk e1 z1
  go_loopg [10] nN_ (fun g i wr => ∃ (K : Nat) (done : List Nv) (cs : Array Value), i = .int .i64 K ∧ K + g = nN_ ∧ Hid (Hq F0 () () w wr [(w.heap.size, .cells cs 59)]) ∧ Hid (cs.size = nN_ * 7 ∧ (∀ (j : Nat) (u : Value), (flatG encN done)[j]? = some u → cs[j]? = some u) ∧ done.map (·.1) = x.1.take K) ∧ Hid (∀ y ∈ done, RdS (empW (fun k => k ≤ w.heap.size) wr) y.2.1 y.1.names ∧ RdEd (empW (fun k => k ≤ w.heap.size) wr) y.2.2 y.1.edges))
  case atStart => exact ⟨0, [], M, rfl, by omega, Lib.hid n, Lib.hid ⟨hM.out, by simp [flatG], rfl⟩, Lib.hid (by simp)⟩
  case round =>
    clear n
    obtain ⟨K, done, cs, rfl, e1, n, hh, hr⟩ := hrel
    replace n := n.out
    have hnN := hnN.out
    by_cases hK : K < nN_
    · have i0 : (0 : Int) ≤ (K : Int) := by omega
      have i1 : (K : Int) < (nN_ : Int) := by omega
      have pl := Lib.hid (h0.out.below (F0.bel n))
      have gl := n.lt 0 rfl
      obtain ⟨hh1, hh2, hh3⟩ := hh.out
      have dl : done.length = K := by
        have := congrArg List.length hh3
        simp at this
        omega
      clear hh
      replace hh1 := Lib.hid hh1
      replace hh2 := Lib.hid hh2
      replace hh3 := Lib.hid hh3
      replace hnN := Lib.hid hnN
      go_wp2_with fail
      refine pnodeo_calls pl.out hb1.out K (by rw [hnN.out]; exact hK) _ (Lib.hid fun w2 nv ev y hy oS oE m2 => ?_)
      obtain ⟨⟨k0, k1, k2, k3, k4, ns_, es_⟩, hyy⟩ : ∃ z, z = y := ⟨y, rfl⟩
      have aS := own_empS (S := fun k => k ≤ w.heap.size) oS fun g q => by have := (oS.lt g q).1; omega
      have aE := own_empS (S := fun k => k ≤ w.heap.size) oE fun g q => by have := (oE.lt g q).1; omega
      obtain ⟨A5, c5, rfl⟩ := own_sl2 oS
      obtain ⟨A6, c6, rfl⟩ := own_sl2 oE
      have n2 := n.bl m2
      have hb2 := n2.b 0 rfl
      have th : w2.there w.heap.size (K * 7) 7 := there_seg hb2 (by rw [hh1.out]; omega)
      obtain ⟨w3, e3, n3, z3⟩ := n2.seg (j := 0) rfl (K * 7) (encN (y, .slice A5 y.names.length c5, .slice A6 y.edges.length c6))
      have r3 : Hid (∀ z ∈ done ++ [(y, Value.slice A5 y.names.length c5, Value.slice A6 y.edges.length c6)], RdS (empW (fun k => k ≤ w.heap.size) w3) z.2.1 z.1.names ∧ RdEd (empW (fun k => k ≤ w.heap.size) w3) z.2.2 z.1.edges) := Lib.hid fun z hz => by
        have k1 : Kp (empW (fun k => k ≤ w.heap.size) wr) (empW (fun k => k ≤ w.heap.size) w3) := emp_kp (by rw [z3]; exact m2.size) fun k hk hn => ⟨hn, by
          rw [← e3, sc_block _ _ _ _ _ (by omega)]
          exact m2.block k hk⟩
        have k2 : Kp (empW (fun k => k ≤ w.heap.size) w2) (empW (fun k => k ≤ w.heap.size) w3) := emp_kp (by rw [z3]; exact Nat.le_refl _) fun k hk hn => ⟨hn, by
          rw [← e3, sc_block _ _ _ _ _ (by omega)]⟩
        rcases List.mem_append.1 hz with hz | hz
        · exact ⟨RdAt.kp k1 (hr.out z hz).1, RdAt.kp k1 (hr.out z hz).2⟩
        · obtain rfl := List.mem_singleton.1 hz
          exact ⟨RdAt.kp k2 aS, RdAt.kp k2 aE⟩
      have hh4 : Hid ((segA cs (K * 7) (encN (y, .slice A5 y.names.length c5, .slice A6 y.edges.length c6))).size = nN_ * 7 ∧ (∀ (j : Nat) (u : Value), (flatG encN (done ++ [(y, Value.slice A5 y.names.length c5, Value.slice A6 y.edges.length c6)]))[j]? = some u → (segA cs (K * 7) (encN (y, .slice A5 y.names.length c5, .slice A6 y.edges.length c6)))[j]? = some u) ∧ (done ++ [(y, Value.slice A5 y.names.length c5, Value.slice A6 y.edges.length c6)]).map (·.1) = x.1.take (K + 1)) := Lib.hid ⟨by rw [segA_size]; exact hh1.out, fun j u hj => by
          rw [flatG_append] at hj
          have fl : (flatG encN done).length = K * 7 := by rw [flatG_len encN_len, dl]
          by_cases q : j < K * 7
          · rw [List.getElem?_append_left (by omega)] at hj
            rw [segA_out _ _ _ _ (.inl q)]
            exact hh2.out j u hj
          · rw [List.getElem?_append_right (by omega), fl] at hj
            have e7 : flatG encN [(y, Value.slice A5 y.names.length c5, Value.slice A6 y.edges.length c6)] = encN (y, .slice A5 y.names.length c5, .slice A6 y.edges.length c6) := by simp [flatG]
            rw [e7] at hj
            have := segA_in (encN (y, .slice A5 y.names.length c5, .slice A6 y.edges.length c6)) cs (K * 7) (j - K * 7) u (by rw [hh1.out, encN_len]; omega) hj
            rw [show K * 7 + (j - K * 7) = j by omega] at this
            exact this, by
          rw [List.map_append, hh3.out, List.take_add_one, hy]
          rfl⟩
      have n4 := Lib.hid n3
      clear hh1 hh2 hh3 hr n3 n2 n aS aE oS oE z3 hb2 pl hyy hy
      obtain ⟨y0, y1, y2, y3, y4, yn, ye⟩ := y
      simp only at *
      go_wp2_with (refine wpList_store_mid (by rfl) 59 _ _ (by rfl) w.heap.size (K * 7) #[.int .i64 y0, .int .i64 y1, .int .i64 y2, .int .i64 y3, .int .i64 y4, .slice A5 yn.length c5, .slice A6 ye.length c6] (by rfl) (by rfl) th (by kernel_rfl) (by simp [Value.oneCell']) ?_; refine cast_w e3 ?_; go_simp)
      go_roundg (gk - 1)
      case measure => omega
      case rel => exact ⟨K + 1, _, _, by go_num, by omega, n4, hh4, r3⟩
    · obtain rfl : K = nN_ := by omega
      obtain ⟨hh1, hh2, hh3⟩ := hh.out
      have e : done.map (·.1) = x.1 := by rw [hh3, ← hnN, List.take_length]
      have dl : done.length = K := by
        have := congrArg List.length e
        simp at this
        omega
      have gl := n.lt 0 rfl
      have hb := n.b 0 rfl
      have hn : NodesP wr (.slice (some ⟨w.heap.size, 0, none⟩) K K) done := ⟨w.heap.size, by rw [dl], gl, fun j u hj => by
        rw [Lib.cell_of_heap hb]
        exact hh2 j u hj, fun z hz => ⟨rd_unemp (hr.out z hz).1, rd_unemp (hr.out z hz).2⟩⟩
      have fin := Lib.hid (hR.out wr _ done e hn (F0.bel n))
      clear hR hn hb gl dl e hh1 hh2 hh3 hh hr n
      go_wp2_with fail
      exact fin.out
end Go.Proofs.YtbnmkbpjdelokaaGreat.Inh
namespace Go.Proofs.YtbnmkbpjdelokaaGreat.Inh
open Go.RowKit Go.Lib Res Nam Kin
theorem mk_int (n : Nat) (hn : n ≤ 1000000) : ∃ M : Array Value, M = (ints (List.replicate n 0)).toArray ∧
    ∀ w, (Instr.makeSlice 41 (.int .i64 n) (.int .i64 n)).run Tryz.prog w = .ok (.slice (some ⟨w.heap.size, 0, none⟩) n n) (w.alloc (.cells M 3)) := by
  obtain ⟨i0, hi, hZ⟩ := int_info
  simp only [Prod.mk.injEq] at hZ
  obtain ⟨hz0, hz1, hz2⟩ := hZ
  refine ⟨madeCells (#[.int .i64 0]) (n * 1), ?_, fun w => ?_⟩
  · apply Array.ext'
    rw [toList_madeCells_one, Nat.mul_one]
    simp [ints]
  · have := run_make (P := Tryz.prog) w 41 3 i0 _ Tryz.underlying41 hi hz0 .i64 .i64 n n (by omega) (Int.le_refl _) (by rw [hz2]; omega) (by omega)
    rw [hz1] at this
    exact this
theorem eq_take {a b : List Int} (hl : a.length = b.length) {K : Nat} (h : a.take K = b.take K) (hK : K < a.length) (e : atD a (K : Int) = atD b (K : Int)) : a.take (K + 1) = b.take (K + 1) := by
  rw [List.take_succ_eq_append_getElem hK, List.take_succ_eq_append_getElem (by omega), h]
  unfold atD at e
  rw [Int.toNat_natCast, List.getD_eq_getElem?_getD, List.getD_eq_getElem?_getD, List.getElem?_eq_getElem hK, List.getElem?_eq_getElem (by omega)] at e
  simp only [Option.getD_some] at e
  rw [e]
theorem equal_calls (a b : List Int) (va vb : Value) (w : World) (ha : RdAt w va 1 (ints a)) (hb : RdAt w vb 1 (ints b)) (hl : a.length = b.length) (hm : a.length ≤ 1000000) (R : Ending → World → Prop)
    (hR : Hid (∀ w', Below w.heap.size w w' → R (.returned (.bool (decide (a = b)))) w')) : Calls Tryz.prog 89 #[va, vb] w R := by
  obtain ⟨A, ca, rfl, -, hA⟩ := ints_open ha
  obtain ⟨B, cb, rfl, -, hB⟩ := ints_open hb
  replace hA := Lib.hid hA
  replace hB := Lib.hid hB
  clear ha hb
  obtain ⟨n, hn⟩ : ∃ n, a.length = n := ⟨_, rfl⟩
  rw [hn] at hm ⊢
  rw [← hl, hn]
  replace hn := Lib.hid hn
  replace hl := Lib.hid hl
  go_enter Tryz.func89, Tryz.ntmps89
  go_wp2_with fail
  go_loopg [13] n (fun g i wr => ∃ (K : Nat), i = .int .i64 K ∧ K + g = n ∧ Hid (Below w.heap.size w wr) ∧ Hid (a.take K = b.take K))
  case atStart => exact ⟨0, rfl, by omega, Lib.hid (Below.refl _ _), Lib.hid rfl⟩
  case round =>
    obtain ⟨K, rfl, e1, nb, e3⟩ := hrel
    by_cases hK : K < n
    · obtain ⟨ga, oa, rfl, hga, ka⟩ := hA.out (by rw [hn.out]; omega)
      obtain ⟨gb, ob, rfl, hgb, kb⟩ := hB.out (by rw [← hl.out, hn.out]; omega)
      have i0 : (0 : Int) ≤ (K : Int) := by omega
      have i1 : (K : Int) < (n : Int) := by omega
      have x1 := (nb.out.cell (p := ⟨ga, oa + K, none⟩) hga).trans (ka K (by rw [hn.out]; exact hK))
      have x2 := (nb.out.cell (p := ⟨gb, ob + K, none⟩) hgb).trans (kb K (by rw [← hl.out, hn.out]; exact hK))
      have ne := Lib.hid fun (q : a = b) => congrArg (fun z => atD z (K : Int)) q
      have eqt := Lib.hid fun (e : atD a (K : Int) = atD b (K : Int)) => eq_take hl.out e3.out (by rw [hn.out]; exact hK) e
      clear e3 ka kb
      generalize atD a (K : Int) = p at *
      generalize atD b (K : Int) = q at *
      by_cases pq : p = q
      · have t1 : (p != q) = false := by simpa using pq
        have e3 := Lib.hid (eqt.out pq)
        clear pq eqt ne
        go_wp2_with fail
        go_quiet (fail)
        have b2 := Lib.hid (below_drewN nb.out nq)
        go_wp2_with fail
        go_roundg (gk - 1)
        case measure => omega
        case rel => exact ⟨K + 1, by go_num, by omega, b2, e3⟩
      · have t1 : (p != q) = true := by simpa using pq
        have hf : decide (a = b) = false := decide_eq_false fun h => pq (ne.out h)
        have fin := fun w' (hb : Below w.heap.size w w') => hR.out w' hb
        rw [hf] at fin
        replace fin := Lib.hid fin
        clear pq eqt ne hf hR
        go_wp2_with fail
        go_quiet (fail)
        have b2 := Lib.hid (below_drewN nb.out nq)
        go_wp2_with fail
        exact fin.out _ b2.out
    · obtain rfl : K = n := by omega
      have hf : decide (a = b) = true := decide_eq_true (by
        have h := e3.out
        rw [← hn.out, List.take_length] at h
        rw [h, hl.out, List.take_length])
      have fin := Lib.hid (hR.out wr nb.out)
      rw [hf] at fin
      clear hR hf e3
      go_wp2_with fail
      exact fin.out
end Go.Proofs.YtbnmkbpjdelokaaGreat.Inh
