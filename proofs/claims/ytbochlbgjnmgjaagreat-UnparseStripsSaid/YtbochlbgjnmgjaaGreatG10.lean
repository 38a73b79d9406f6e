import Derived.Test.YtbochlbgjnmgjaaGreatG9
import Derived.Test.YtbochlbgjnmgjaaGreatMix
/- Layer 17, the code: types. -/
set_option maxRecDepth 100000
set_option linter.unusedVariables false
namespace Go.Proofs.YtbochlbgjnmgjaaGreat.Unp
open Go.RowKit Go.Lib Go.Proofs.YtbochlbgjnmgjaaGreat.Nam Go.Proofs.YtbochlbgjnmgjaaGreat.Lat Go.Proofs.YtbochlbgjnmgjaaGreat.Kin Go.Proofs.YtbochlbgjnmgjaaGreat.Dig

/-- A world in which a write to the writer in block b may have come between. -/
structure KW (B b : Nat) (W : World) where
  w : World
  k : Wk B b W w
theorem wp_region_mixK {P : Program} {id : Nat} {Q : Exit → Act → World → Prop} {a : Act} {w : World} {l : List Oper} (B b : Nat) (segs : List (List Nat × Nat)) (last : List Nat) (hm : P.follows .mixedOrders = true) (hs : Region.noSelect l.toArray = true)
    (hB : mixB .any l.toArray segs last (Array.replicate l.toArray.size false) = true) (hN : mixN segs last = l.toArray.size) (hQ : ∀ c a d v w, Q (.panic c) (a.put d v) w → Q (.panic c) a w)
    (h : mixP P l.toArray (fun w' => ∃ x : KW B b w, w' = x.w) Q segs last a (w.drewN 1)) : (Code.region id l.toArray true).wp P Q a w :=
  wp_region_any hm (any_of_C (C := fun w' => ∃ x : KW B b w, w' = x.w) _ _ _ _ (by
    have := mix_any hs hQ segs last _ a _ (C := fun w' => ∃ x : KW B b w, w' = x.w) ⟨⟨w.drewN 1, ⟨⟨rfl, rfl, rfl, Nat.le_refl _, fun _ _ => rfl⟩, Lib.OthersKept.refl _ _ w⟩⟩, rfl⟩ hB h
    rw [hN] at this
    exact this))
theorem KW.of {B b : Nat} {W W' : World} (h : Wk B b W W') : ∃ x : KW B b W, W' = x.w := ⟨⟨W', h⟩, rfl⟩
set_option maxRecDepth 100000 in
set_option maxHeartbeats 4000000 in
theorem any1_calls (f : Ft) (ih : Fo.AllK AnyW f) (ta lo hi mo : Int) (ns : List Wr) (nm : ByteArray) (na : Int) (nv pv : Value) (B b : Nat) (x : ByteArray) (W0 w : World) (ok : okT (⟨1, ta, lo, hi, mo, ns, nm, na⟩ : TH) f) (gh : GoodH (⟨1, ta, lo, hi, mo, ns, nm, na⟩ : TH)) (ga : f.All GoodH GoodL) (fl : f.len ≤ maxLen) (hy : RdY W0 (⟨1, ta, lo, hi, mo, ns, nm, na⟩ : TH) f nv pv) (h0 : Below W0.heap.size W0 w) (hB0 : W0.heap.size ≤ B) (h : Wld B b x w) (hBw : B ≤ w.heap.size) (hz : x.size + (tBool).size ≤ 1000000000) (R : Ending → World → Prop)
    (hR : Hid (∀ w', Wld B b (x ++ (tBool)) w' → Wk B b w w' → R (.returned (.tuple #[])) w')) : Calls Tryz.prog 103 #[.pointer (some ⟨b, 0, none⟩), .agg #[.int .i64 1, .int .i64 ta, .int .i64 lo, .int .i64 hi, .int .i64 mo, nv, pv, .string nm, .int .i64 na]] w R := by
  obtain ⟨N1, N3, rfl, -, -⟩ := hy.n.op
  obtain ⟨M1, M3, rfl, -⟩ := hy.p.sl
  have hlt := h.lt
  have ilo : I64 lo := gh.2.2.1
  have ihi : I64 hi := gh.2.2.2.1
  have imo : I64 mo := gh.2.2.2.2.1
  have s1 := put_sz ilo
  have s2 := put_sz ihi
  have s3 := put_sz imo
  have eR : tRpar.size = 1 := rfl
  have eD : tDots.size = 2 := rfl
  have eC : tComma.size = 2 := rfl
  (try simp only [ByteArray.size_append] at hz)
  have hA := heap_alloc_new w (.cells #[.int .i64 1, .int .i64 ta, .int .i64 lo, .int .i64 hi, .int .i64 mo, .slice N1 ns.length N3, .slice M1 f.len M3, .string nm, .int .i64 na] 30)
  have kw := (Wk.refl B b w).alloc hBw (.cells #[.int .i64 1, .int .i64 ta, .int .i64 lo, .int .i64 hi, .int .i64 mo, .slice N1 ns.length N3, .slice M1 f.len M3, .string nm, .int .i64 na] 30)
  replace h := h.alloc (.cells #[.int .i64 1, .int .i64 ta, .int .i64 lo, .int .i64 hi, .int .i64 mo, .slice N1 ns.length N3, .slice M1 f.len M3, .string nm, .int .i64 na] 30)
  have hBV : B ≤ (w.alloc (.cells #[.int .i64 1, .int .i64 ta, .int .i64 lo, .int .i64 hi, .int .i64 mo, .slice N1 ns.length N3, .slice M1 f.len M3, .string nm, .int .i64 na] 30)).heap.size := by rw [alz]; omega
  have qb : w.heap.size ≠ b := by have := hlt; omega
  replace hR := Lib.hid hR
  replace ok := Lib.hid ok
  replace gh := Lib.hid gh
  replace hy := Lib.hid hy
  go_enter Tryz.func103, Tryz.ntmps103
  go_upto_region 1 with fail
  generalize w.alloc (.cells #[.int .i64 1, .int .i64 ta, .int .i64 lo, .int .i64 hi, .int .i64 mo, .slice N1 ns.length N3, .slice M1 f.len M3, .string nm, .int .i64 na] 30) = V at *
  generalize w.heap.size = P at hA qb ⊢
  have a0 := (Lib.cell_of_heap hA 0).trans rfl
  have hK := heap_alloc_new V (.cells #[.string tBool] 9)
  have cU := Lib.hid fun R hR => putx_calls B b (x) [tBool] (tBool) (by simp only [catT, ByteArray.append_empty, ByteArray.append_assoc]) V.heap.size (V.alloc (.cells #[.string tBool] 9)) (h.alloc _) hK (by have := h.lt; omega) (by omega) (by simp only [List.length_cons, List.length_nil]; omega) R (by simp only [alz]; omega) hR
  replace hA := ((alB _ (.cells #[.string tBool] 9)).block _ (blt hA)).trans hA
  replace kw := kw.alloc hBw (.cells #[.string tBool] 9)
  clear hK
  go_wp2_with fail
  refine cU.out _ (Lib.hid fun w1 h2 k2 => ?_)
  clear cU h a0
  replace hA := k2.box hA qb (by decide)
  replace kw := kw.trans k2
  have hBV := Nat.le_trans hBw kw.m.size
  have h := h2
  clear h2 k2
  have fin := Lib.hid (hR.out.out _ (by (try simp only [ByteArray.append_assoc] at h ⊢); exact h) kw)
  clear hR h kw
  go_wp2_with fail
  first | refine bodyPost_ret ?_ rfl fin.out | refine bodyPost_end ?_ rfl fin.out
  simp [results, Tryz.results103, go_sem]
set_option maxRecDepth 100000 in
set_option maxHeartbeats 4000000 in
theorem any2_calls (f : Ft) (ih : Fo.AllK AnyW f) (ta lo hi mo : Int) (ns : List Wr) (nm : ByteArray) (na : Int) (nv pv : Value) (B b : Nat) (x : ByteArray) (W0 w : World) (ok : okT (⟨2, ta, lo, hi, mo, ns, nm, na⟩ : TH) f) (gh : GoodH (⟨2, ta, lo, hi, mo, ns, nm, na⟩ : TH)) (ga : f.All GoodH GoodL) (fl : f.len ≤ maxLen) (hy : RdY W0 (⟨2, ta, lo, hi, mo, ns, nm, na⟩ : TH) f nv pv) (h0 : Below W0.heap.size W0 w) (hB0 : W0.heap.size ≤ B) (h : Wld B b x w) (hBw : B ≤ w.heap.size) (hz : x.size + (tInt ++ putS lo ++ tDots ++ putS hi ++ tRpar).size ≤ 1000000000) (R : Ending → World → Prop)
    (hR : Hid (∀ w', Wld B b (x ++ (tInt ++ putS lo ++ tDots ++ putS hi ++ tRpar)) w' → Wk B b w w' → R (.returned (.tuple #[])) w')) : Calls Tryz.prog 103 #[.pointer (some ⟨b, 0, none⟩), .agg #[.int .i64 2, .int .i64 ta, .int .i64 lo, .int .i64 hi, .int .i64 mo, nv, pv, .string nm, .int .i64 na]] w R := by
  obtain ⟨N1, N3, rfl, -, -⟩ := hy.n.op
  obtain ⟨M1, M3, rfl, -⟩ := hy.p.sl
  have hlt := h.lt
  have ilo : I64 lo := gh.2.2.1
  have ihi : I64 hi := gh.2.2.2.1
  have imo : I64 mo := gh.2.2.2.2.1
  have s1 := put_sz ilo
  have s2 := put_sz ihi
  have s3 := put_sz imo
  have eR : tRpar.size = 1 := rfl
  have eD : tDots.size = 2 := rfl
  have eC : tComma.size = 2 := rfl
  (try simp only [ByteArray.size_append] at hz)
  have hA := heap_alloc_new w (.cells #[.int .i64 2, .int .i64 ta, .int .i64 lo, .int .i64 hi, .int .i64 mo, .slice N1 ns.length N3, .slice M1 f.len M3, .string nm, .int .i64 na] 30)
  have kw := (Wk.refl B b w).alloc hBw (.cells #[.int .i64 2, .int .i64 ta, .int .i64 lo, .int .i64 hi, .int .i64 mo, .slice N1 ns.length N3, .slice M1 f.len M3, .string nm, .int .i64 na] 30)
  replace h := h.alloc (.cells #[.int .i64 2, .int .i64 ta, .int .i64 lo, .int .i64 hi, .int .i64 mo, .slice N1 ns.length N3, .slice M1 f.len M3, .string nm, .int .i64 na] 30)
  have hBV : B ≤ (w.alloc (.cells #[.int .i64 2, .int .i64 ta, .int .i64 lo, .int .i64 hi, .int .i64 mo, .slice N1 ns.length N3, .slice M1 f.len M3, .string nm, .int .i64 na] 30)).heap.size := by rw [alz]; omega
  have qb : w.heap.size ≠ b := by have := hlt; omega
  replace hR := Lib.hid hR
  replace ok := Lib.hid ok
  replace gh := Lib.hid gh
  replace hy := Lib.hid hy
  go_enter Tryz.func103, Tryz.ntmps103
  go_upto_region 1 with fail
  generalize w.alloc (.cells #[.int .i64 2, .int .i64 ta, .int .i64 lo, .int .i64 hi, .int .i64 mo, .slice N1 ns.length N3, .slice M1 f.len M3, .string nm, .int .i64 na] 30) = V at *
  generalize w.heap.size = P at hA qb ⊢
  have a0 := (Lib.cell_of_heap hA 0).trans rfl
  have eI : tInt.size = 4 := rfl
  have cD := Lib.hid fun (W : World) R hR => Dig.put_calls lo ilo.1 ilo.2 W R hR
  have cE := Lib.hid fun (W : World) R hR => Dig.put_calls hi ihi.1 ihi.2 W R hR
  go_upto_region 5 with fail
  clear a0
  have a2 : ∀ y : KW B b V, y.w.cell? ⟨P, 2, none⟩ = some (.int .i64 lo) := fun y => (Lib.cell_of_heap (y.k.box hA qb (by decide)) 2).trans rfl
  have a3 : ∀ y : KW B b V, y.w.cell? ⟨P, 3, none⟩ = some (.int .i64 hi) := fun y => (Lib.cell_of_heap (y.k.box hA qb (by decide)) 3).trans rfl
  refine wp_region_mixK B b [([0, 1, 2, 4, 5], 3), ([], 6), ([], 7), ([], 8)] [] (by kernel_rfl) (by kernel_rfl) (by kernel_rfl) (by kernel_rfl) (fun _ _ d _ _ h => by cases d <;> exact h) ?_
  refine mix_cons (os := [_, _, _, _, _]) (by simp only [pickO, List.filterMap_cons, List.filterMap_nil, List.getElem?_toArray, List.getElem?_cons_succ, List.getElem?_cons_zero]; rfl) (fun Kp hKp => ?_)
  repeat (go_big_quiet_step (exact rfl))
  refine wpQuiet_nil ?_
  refine hKp _ ?_
  clear hKp
  have k0 : Wk B b V (V.drewN 1) := ⟨⟨rfl, rfl, rfl, Nat.le_refl _, fun _ _ => rfl⟩, Lib.OthersKept.refl _ _ V⟩
  refine loud (by rfl) (by kernel_rfl) (fun K1 hK1 => ?_)
  go_simp
  refine cD.out _ _ (Lib.hid fun w1 m1 => ?_)
  have k1 := k0.below hBV m1
  replace h := (h.below (show Below V.heap.size V (V.drewN 1) from ⟨rfl, rfl, rfl, Nat.le_refl _, fun _ _ => rfl⟩)).below m1
  refine hK1 _ _ (KW.of k1) ?_
  clear hK1 m1 k0
  refine mix_cons (os := []) (by rfl) (fun Kp hKp => ?_)
  refine wpQuiet_nil ?_
  refine hKp _ ?_
  clear hKp
  refine loud (by rfl) (by kernel_rfl) (fun K1 hK1 => ?_)
  go_simp
  refine cE.out _ _ (Lib.hid fun w2 m2 => ?_)
  have k2 := k1.below hBV m2
  replace h := h.below m2
  refine hK1 _ _ (KW.of k2) ?_
  clear hK1 m2 k1 cD cE
  refine mix_cons (os := []) (by rfl) (fun Kp hKp => ?_)
  refine wpQuiet_nil ?_
  refine hKp _ ?_
  clear hKp
  refine loud (by rfl) (by kernel_rfl) (fun K1 hK1 => ?_)
  go_simp
  have k3 := k2.alloc hBV (.cells #[.string tInt, .string (putS lo), .string tDots, .string (putS hi), .string tRpar] 9)
  refine hK1 _ _ (KW.of k3) ?_
  clear hK1
  refine mix_cons (os := []) (by rfl) (fun Kp hKp => ?_)
  refine wpQuiet_nil ?_
  refine hKp _ ?_
  clear hKp
  have hK := heap_alloc_new w2 (.cells #[.string tInt, .string (putS lo), .string tDots, .string (putS hi), .string tRpar] 9)
  have hB2 := Nat.le_trans hBV k2.m.size
  have cU := Lib.hid fun R hR => putx_calls B b x [tInt, putS lo, tDots, putS hi, tRpar] (tInt ++ putS lo ++ tDots ++ putS hi ++ tRpar) (by simp only [catT, ByteArray.append_empty, ByteArray.append_assoc]) w2.heap.size (w2.alloc (.cells #[.string tInt, .string (putS lo), .string tDots, .string (putS hi), .string tRpar] 9)) (h.alloc _) hK (by have := h.lt; omega) (by simp only [ByteArray.size_append]; omega) (by simp only [List.length_cons, List.length_nil]; omega) R (by simp only [alz]; omega) hR
  refine loud (by rfl) (by kernel_rfl) (fun K1 hK1 => ?_)
  go_simp
  refine cU.out _ (Lib.hid fun w4 h4 k4 => ?_)
  have k5 := k3.trans k4
  refine hK1 _ _ (KW.of k5) ?_
  clear hK1
  refine mix_nil (os := []) (by rfl) (fun Kp hKp => ?_)
  refine wpQuiet_nil ?_
  refine hKp _ ?_
  clear hKp
  have fin := Lib.hid (hR.out.out _ h4 (kw.trans k5))
  clear hR h kw h4 k5 k4 k3 k2 cU hK
  go_wp2_with fail
  first | refine bodyPost_ret ?_ rfl fin.out | refine bodyPost_end ?_ rfl fin.out
  simp [results, Tryz.results103, go_sem]
set_option maxRecDepth 100000 in
set_option maxHeartbeats 4000000 in
theorem any3_calls (f : Ft) (ih : Fo.AllK AnyW f) (ta lo hi mo : Int) (ns : List Wr) (nm : ByteArray) (na : Int) (nv pv : Value) (B b : Nat) (x : ByteArray) (W0 w : World) (ok : okT (⟨3, ta, lo, hi, mo, ns, nm, na⟩ : TH) f) (gh : GoodH (⟨3, ta, lo, hi, mo, ns, nm, na⟩ : TH)) (ga : f.All GoodH GoodL) (fl : f.len ≤ maxLen) (hy : RdY W0 (⟨3, ta, lo, hi, mo, ns, nm, na⟩ : TH) f nv pv) (h0 : Below W0.heap.size W0 w) (hB0 : W0.heap.size ≤ B) (h : Wld B b x w) (hBw : B ≤ w.heap.size) (hz : x.size + (tText ++ putS mo ++ tRpar).size ≤ 1000000000) (R : Ending → World → Prop)
    (hR : Hid (∀ w', Wld B b (x ++ (tText ++ putS mo ++ tRpar)) w' → Wk B b w w' → R (.returned (.tuple #[])) w')) : Calls Tryz.prog 103 #[.pointer (some ⟨b, 0, none⟩), .agg #[.int .i64 3, .int .i64 ta, .int .i64 lo, .int .i64 hi, .int .i64 mo, nv, pv, .string nm, .int .i64 na]] w R := by
  obtain ⟨N1, N3, rfl, -, -⟩ := hy.n.op
  obtain ⟨M1, M3, rfl, -⟩ := hy.p.sl
  have hlt := h.lt
  have ilo : I64 lo := gh.2.2.1
  have ihi : I64 hi := gh.2.2.2.1
  have imo : I64 mo := gh.2.2.2.2.1
  have s1 := put_sz ilo
  have s2 := put_sz ihi
  have s3 := put_sz imo
  have eR : tRpar.size = 1 := rfl
  have eD : tDots.size = 2 := rfl
  have eC : tComma.size = 2 := rfl
  (try simp only [ByteArray.size_append] at hz)
  have hA := heap_alloc_new w (.cells #[.int .i64 3, .int .i64 ta, .int .i64 lo, .int .i64 hi, .int .i64 mo, .slice N1 ns.length N3, .slice M1 f.len M3, .string nm, .int .i64 na] 30)
  have kw := (Wk.refl B b w).alloc hBw (.cells #[.int .i64 3, .int .i64 ta, .int .i64 lo, .int .i64 hi, .int .i64 mo, .slice N1 ns.length N3, .slice M1 f.len M3, .string nm, .int .i64 na] 30)
  replace h := h.alloc (.cells #[.int .i64 3, .int .i64 ta, .int .i64 lo, .int .i64 hi, .int .i64 mo, .slice N1 ns.length N3, .slice M1 f.len M3, .string nm, .int .i64 na] 30)
  have hBV : B ≤ (w.alloc (.cells #[.int .i64 3, .int .i64 ta, .int .i64 lo, .int .i64 hi, .int .i64 mo, .slice N1 ns.length N3, .slice M1 f.len M3, .string nm, .int .i64 na] 30)).heap.size := by rw [alz]; omega
  have qb : w.heap.size ≠ b := by have := hlt; omega
  replace hR := Lib.hid hR
  replace ok := Lib.hid ok
  replace gh := Lib.hid gh
  replace hy := Lib.hid hy
  go_enter Tryz.func103, Tryz.ntmps103
  go_upto_region 1 with fail
  generalize w.alloc (.cells #[.int .i64 3, .int .i64 ta, .int .i64 lo, .int .i64 hi, .int .i64 mo, .slice N1 ns.length N3, .slice M1 f.len M3, .string nm, .int .i64 na] 30) = V at *
  generalize w.heap.size = P at hA qb ⊢
  have a0 := (Lib.cell_of_heap hA 0).trans rfl
  have eT : tText.size = 5 := rfl
  have cD := Lib.hid fun R hR => Dig.put_calls mo imo.1 imo.2 V R hR
  have a4 := (Lib.cell_of_heap hA 4).trans rfl
  go_wp2_with fail
  refine cD.out _ (Lib.hid fun w1 m1 => ?_)
  clear cD a0 a4
  replace hA := (m1.block _ (blt hA)).trans hA
  replace h := h.below m1
  replace kw := kw.below hBw m1
  replace hBV := Nat.le_trans hBw kw.m.size
  clear m1
  have hK := heap_alloc_new w1 (.cells #[.string tText, .string (putS mo), .string tRpar] 9)
  have cU := Lib.hid fun R hR => putx_calls B b (x) [tText, (putS mo), tRpar] (tText ++ putS mo ++ tRpar) (by simp only [catT, ByteArray.append_empty, ByteArray.append_assoc]) w1.heap.size (w1.alloc (.cells #[.string tText, .string (putS mo), .string tRpar] 9)) (h.alloc _) hK (by have := h.lt; omega) (by (try simp only [ByteArray.size_append]); omega) (by simp only [List.length_cons, List.length_nil]; omega) R (by simp only [alz]; omega) hR
  replace hA := ((alB _ (.cells #[.string tText, .string (putS mo), .string tRpar] 9)).block _ (blt hA)).trans hA
  replace kw := kw.alloc hBw (.cells #[.string tText, .string (putS mo), .string tRpar] 9)
  clear hK
  go_wp2_with fail
  refine cU.out _ (Lib.hid fun w2 h2 k2 => ?_)
  clear cU h
  replace hA := k2.box hA qb (by decide)
  replace kw := kw.trans k2
  have hBV := Nat.le_trans hBw kw.m.size
  have h := h2
  clear h2 k2
  have fin := Lib.hid (hR.out.out _ (by (try simp only [ByteArray.append_assoc] at h ⊢); exact h) kw)
  clear hR h kw
  go_wp2_with fail
  first | refine bodyPost_ret ?_ rfl fin.out | refine bodyPost_end ?_ rfl fin.out
  simp [results, Tryz.results103, go_sem]
set_option maxRecDepth 100000 in
set_option maxHeartbeats 4000000 in
theorem any9_calls (f : Ft) (ih : Fo.AllK AnyW f) (ta lo hi mo : Int) (ns : List Wr) (nm : ByteArray) (na : Int) (nv pv : Value) (B b : Nat) (x : ByteArray) (W0 w : World) (ok : okT (⟨9, ta, lo, hi, mo, ns, nm, na⟩ : TH) f) (gh : GoodH (⟨9, ta, lo, hi, mo, ns, nm, na⟩ : TH)) (ga : f.All GoodH GoodL) (fl : f.len ≤ maxLen) (hy : RdY W0 (⟨9, ta, lo, hi, mo, ns, nm, na⟩ : TH) f nv pv) (h0 : Below W0.heap.size W0 w) (hB0 : W0.heap.size ≤ B) (h : Wld B b x w) (hBw : B ≤ w.heap.size) (hz : x.size + (tRef ++ nm ++ tRpar).size ≤ 1000000000) (R : Ending → World → Prop)
    (hR : Hid (∀ w', Wld B b (x ++ (tRef ++ nm ++ tRpar)) w' → Wk B b w w' → R (.returned (.tuple #[])) w')) : Calls Tryz.prog 103 #[.pointer (some ⟨b, 0, none⟩), .agg #[.int .i64 9, .int .i64 ta, .int .i64 lo, .int .i64 hi, .int .i64 mo, nv, pv, .string nm, .int .i64 na]] w R := by
  obtain ⟨N1, N3, rfl, -, -⟩ := hy.n.op
  obtain ⟨M1, M3, rfl, -⟩ := hy.p.sl
  have hlt := h.lt
  have ilo : I64 lo := gh.2.2.1
  have ihi : I64 hi := gh.2.2.2.1
  have imo : I64 mo := gh.2.2.2.2.1
  have s1 := put_sz ilo
  have s2 := put_sz ihi
  have s3 := put_sz imo
  have eR : tRpar.size = 1 := rfl
  have eD : tDots.size = 2 := rfl
  have eC : tComma.size = 2 := rfl
  (try simp only [ByteArray.size_append] at hz)
  have hA := heap_alloc_new w (.cells #[.int .i64 9, .int .i64 ta, .int .i64 lo, .int .i64 hi, .int .i64 mo, .slice N1 ns.length N3, .slice M1 f.len M3, .string nm, .int .i64 na] 30)
  have kw := (Wk.refl B b w).alloc hBw (.cells #[.int .i64 9, .int .i64 ta, .int .i64 lo, .int .i64 hi, .int .i64 mo, .slice N1 ns.length N3, .slice M1 f.len M3, .string nm, .int .i64 na] 30)
  replace h := h.alloc (.cells #[.int .i64 9, .int .i64 ta, .int .i64 lo, .int .i64 hi, .int .i64 mo, .slice N1 ns.length N3, .slice M1 f.len M3, .string nm, .int .i64 na] 30)
  have hBV : B ≤ (w.alloc (.cells #[.int .i64 9, .int .i64 ta, .int .i64 lo, .int .i64 hi, .int .i64 mo, .slice N1 ns.length N3, .slice M1 f.len M3, .string nm, .int .i64 na] 30)).heap.size := by rw [alz]; omega
  have qb : w.heap.size ≠ b := by have := hlt; omega
  replace hR := Lib.hid hR
  replace ok := Lib.hid ok
  replace gh := Lib.hid gh
  replace hy := Lib.hid hy
  go_enter Tryz.func103, Tryz.ntmps103
  go_upto_region 1 with fail
  generalize w.alloc (.cells #[.int .i64 9, .int .i64 ta, .int .i64 lo, .int .i64 hi, .int .i64 mo, .slice N1 ns.length N3, .slice M1 f.len M3, .string nm, .int .i64 na] 30) = V at *
  generalize w.heap.size = P at hA qb ⊢
  have a0 := (Lib.cell_of_heap hA 0).trans rfl
  have eL : tRef.size = 4 := rfl
  have a7 := (Lib.cell_of_heap hA 7).trans rfl
  have hK := heap_alloc_new V (.cells #[.string tRef, .string nm, .string tRpar] 9)
  have cU := Lib.hid fun R hR => putx_calls B b (x) [tRef, nm, tRpar] (tRef ++ nm ++ tRpar) (by simp only [catT, ByteArray.append_empty, ByteArray.append_assoc]) V.heap.size (V.alloc (.cells #[.string tRef, .string nm, .string tRpar] 9)) (h.alloc _) hK (by have := h.lt; omega) (by (try simp only [ByteArray.size_append]); omega) (by simp only [List.length_cons, List.length_nil]; omega) R (by simp only [alz]; omega) hR
  replace hA := ((alB _ (.cells #[.string tRef, .string nm, .string tRpar] 9)).block _ (blt hA)).trans hA
  replace kw := kw.alloc hBw (.cells #[.string tRef, .string nm, .string tRpar] 9)
  clear hK
  go_wp2_with fail
  refine cU.out _ (Lib.hid fun w1 h2 k2 => ?_)
  clear cU h a0 a7
  replace hA := k2.box hA qb (by decide)
  replace kw := kw.trans k2
  have hBV := Nat.le_trans hBw kw.m.size
  have h := h2
  clear h2 k2
  have fin := Lib.hid (hR.out.out _ (by (try simp only [ByteArray.append_assoc] at h ⊢); exact h) kw)
  clear hR h kw
  go_wp2_with fail
  first | refine bodyPost_ret ?_ rfl fin.out | refine bodyPost_end ?_ rfl fin.out
  simp [results, Tryz.results103, go_sem]
end Go.Proofs.YtbochlbgjnmgjaaGreat.Unp

/- Layer 17, the code: types. -/
set_option maxRecDepth 100000
set_option linter.unusedVariables false
namespace Go.Proofs.YtbochlbgjnmgjaaGreat.Unp
open Go.RowKit Go.Lib Go.Proofs.YtbochlbgjnmgjaaGreat.Nam Go.Proofs.YtbochlbgjnmgjaaGreat.Lat Go.Proofs.YtbochlbgjnmgjaaGreat.Kin Go.Proofs.YtbochlbgjnmgjaaGreat.Dig

set_option maxRecDepth 100000 in
set_option maxHeartbeats 4000000 in
theorem any4_calls (f : Ft) (ih : Fo.AllK AnyW f) (ta lo hi mo : Int) (ns : List Wr) (nm : ByteArray) (na : Int) (nv pv : Value) (B b : Nat) (x : ByteArray) (W0 w : World) (ok : okT (⟨4, ta, lo, hi, mo, ns, nm, na⟩ : TH) f) (gh : GoodH (⟨4, ta, lo, hi, mo, ns, nm, na⟩ : TH)) (ga : f.All GoodH GoodL) (fl : f.len ≤ maxLen) (hy : RdY W0 (⟨4, ta, lo, hi, mo, ns, nm, na⟩ : TH) f nv pv) (h0 : Below W0.heap.size W0 w) (hB0 : W0.heap.size ≤ B) (h : Wld B b x w) (hBw : B ≤ w.heap.size) (hz : x.size + (tEnum ++ wrs tComma ns ++ tRpar).size ≤ 1000000000) (R : Ending → World → Prop)
    (hR : Hid (∀ w', Wld B b (x ++ (tEnum ++ wrs tComma ns ++ tRpar)) w' → Wk B b w w' → R (.returned (.tuple #[])) w')) : Calls Tryz.prog 103 #[.pointer (some ⟨b, 0, none⟩), .agg #[.int .i64 4, .int .i64 ta, .int .i64 lo, .int .i64 hi, .int .i64 mo, nv, pv, .string nm, .int .i64 na]] w R := by
  obtain ⟨N1, N3, rfl, -, -⟩ := hy.n.op
  obtain ⟨M1, M3, rfl, -⟩ := hy.p.sl
  have hlt := h.lt
  have ilo : I64 lo := gh.2.2.1
  have ihi : I64 hi := gh.2.2.2.1
  have imo : I64 mo := gh.2.2.2.2.1
  have s1 := put_sz ilo
  have s2 := put_sz ihi
  have s3 := put_sz imo
  have eR : tRpar.size = 1 := rfl
  have eD : tDots.size = 2 := rfl
  have eC : tComma.size = 2 := rfl
  (try simp only [ByteArray.size_append] at hz)
  have hA := heap_alloc_new w (.cells #[.int .i64 4, .int .i64 ta, .int .i64 lo, .int .i64 hi, .int .i64 mo, .slice N1 ns.length N3, .slice M1 f.len M3, .string nm, .int .i64 na] 30)
  have kw := (Wk.refl B b w).alloc hBw (.cells #[.int .i64 4, .int .i64 ta, .int .i64 lo, .int .i64 hi, .int .i64 mo, .slice N1 ns.length N3, .slice M1 f.len M3, .string nm, .int .i64 na] 30)
  replace h := h.alloc (.cells #[.int .i64 4, .int .i64 ta, .int .i64 lo, .int .i64 hi, .int .i64 mo, .slice N1 ns.length N3, .slice M1 f.len M3, .string nm, .int .i64 na] 30)
  have hBV : B ≤ (w.alloc (.cells #[.int .i64 4, .int .i64 ta, .int .i64 lo, .int .i64 hi, .int .i64 mo, .slice N1 ns.length N3, .slice M1 f.len M3, .string nm, .int .i64 na] 30)).heap.size := by rw [alz]; omega
  have qb : w.heap.size ≠ b := by have := hlt; omega
  replace hR := Lib.hid hR
  replace ok := Lib.hid ok
  replace gh := Lib.hid gh
  replace hy := Lib.hid hy
  go_enter Tryz.func103, Tryz.ntmps103
  go_upto_region 1 with fail
  generalize w.alloc (.cells #[.int .i64 4, .int .i64 ta, .int .i64 lo, .int .i64 hi, .int .i64 mo, .slice N1 ns.length N3, .slice M1 f.len M3, .string nm, .int .i64 na] 30) = V at *
  generalize w.heap.size = P at hA qb ⊢
  have a0 := (Lib.cell_of_heap hA 0).trans rfl
  have eE : tEnum.size = 5 := rfl
  have hmf : ∀ (fn : Fn) (first cap : Array Value) (w : World), (Instr.makeFunc fn first cap).run Tryz.prog w = .ok (.func fn first cap) w := fun _ _ _ _ => rfl
  have hK := heap_alloc_new V (.cells #[.string tEnum] 9)
  have cU := Lib.hid fun R hR => putx_calls B b (x) [tEnum] (tEnum) (by simp only [catT, ByteArray.append_empty, ByteArray.append_assoc]) V.heap.size (V.alloc (.cells #[.string tEnum] 9)) (h.alloc _) hK (by have := h.lt; omega) (by (try simp only [ByteArray.size_append]); omega) (by simp only [List.length_cons, List.length_nil]; omega) R (by simp only [alz]; omega) hR
  replace hA := ((alB _ (.cells #[.string tEnum] 9)).block _ (blt hA)).trans hA
  replace kw := kw.alloc hBw (.cells #[.string tEnum] 9)
  clear hK
  go_wp2_with fail
  refine cU.out _ (Lib.hid fun w1 h2 k2 => ?_)
  clear cU h a0
  replace hA := k2.box hA qb (by decide)
  replace kw := kw.trans k2
  have hBV := Nat.le_trans hBw kw.m.size
  have h := h2
  clear h2 k2
  have cL := Lib.hid fun R hR => listw_calls B b (x ++ tEnum) ns (.slice N1 ns.length N3) W0 w1 h hBV (h0.trans (kw.m.mono hB0)) hB0 hy.out.n gh.out.2.2.2.2.2.2.2.2 (by simp only [ByteArray.size_append]; omega) R hR
  have a5 := (Lib.cell_of_heap hA 5).trans rfl
  go_wp2_with fail
  refine cL.out _ (Lib.hid fun w2 h2 k2 => ?_)
  clear cL h a5
  replace hA := k2.box hA qb (by decide)
  replace kw := kw.trans k2
  have hBV := Nat.le_trans hBw kw.m.size
  have h := h2
  clear h2 k2
  have hK := heap_alloc_new w2 (.cells #[.string tRpar] 9)
  have cU := Lib.hid fun R hR => putx_calls B b (x ++ tEnum ++ wrs tComma ns) [tRpar] (tRpar) (by simp only [catT, ByteArray.append_empty, ByteArray.append_assoc]) w2.heap.size (w2.alloc (.cells #[.string tRpar] 9)) (h.alloc _) hK (by have := h.lt; omega) (by (try simp only [ByteArray.size_append]); omega) (by simp only [List.length_cons, List.length_nil]; omega) R (by simp only [alz]; omega) hR
  replace hA := ((alB _ (.cells #[.string tRpar] 9)).block _ (blt hA)).trans hA
  replace kw := kw.alloc hBw (.cells #[.string tRpar] 9)
  clear hK
  go_wp2_with fail
  refine cU.out _ (Lib.hid fun w3 h2 k2 => ?_)
  clear cU h
  replace hA := k2.box hA qb (by decide)
  replace kw := kw.trans k2
  have hBV := Nat.le_trans hBw kw.m.size
  have h := h2
  clear h2 k2
  have fin := Lib.hid (hR.out.out _ (by (try simp only [ByteArray.append_assoc] at h ⊢); exact h) kw)
  clear hR h kw
  go_wp2_with fail
  first | refine bodyPost_ret ?_ rfl fin.out | refine bodyPost_end ?_ rfl fin.out
  simp [results, Tryz.results103, go_sem]
set_option maxRecDepth 100000 in
set_option maxHeartbeats 4000000 in
theorem any5_calls (f : Ft) (ih : Fo.AllK AnyW f) (ta lo hi mo : Int) (ns : List Wr) (nm : ByteArray) (na : Int) (nv pv : Value) (B b : Nat) (x : ByteArray) (W0 w : World) (ok : okT (⟨5, ta, lo, hi, mo, ns, nm, na⟩ : TH) f) (gh : GoodH (⟨5, ta, lo, hi, mo, ns, nm, na⟩ : TH)) (ga : f.All GoodH GoodL) (fl : f.len ≤ maxLen) (hy : RdY W0 (⟨5, ta, lo, hi, mo, ns, nm, na⟩ : TH) f nv pv) (h0 : Below W0.heap.size W0 w) (hB0 : W0.heap.size ≤ B) (h : Wld B b x w) (hBw : B ≤ w.heap.size) (hz : x.size + (tList ++ oneT (txF f) ++ tComma ++ putS mo ++ tRpar).size ≤ 1000000000) (R : Ending → World → Prop)
    (hR : Hid (∀ w', Wld B b (x ++ (tList ++ oneT (txF f) ++ tComma ++ putS mo ++ tRpar)) w' → Wk B b w w' → R (.returned (.tuple #[])) w')) : Calls Tryz.prog 103 #[.pointer (some ⟨b, 0, none⟩), .agg #[.int .i64 5, .int .i64 ta, .int .i64 lo, .int .i64 hi, .int .i64 mo, nv, pv, .string nm, .int .i64 na]] w R := by
  obtain ⟨N1, N3, rfl, -, -⟩ := hy.n.op
  obtain ⟨M1, M3, rfl, -⟩ := hy.p.sl
  have hlt := h.lt
  have ilo : I64 lo := gh.2.2.1
  have ihi : I64 hi := gh.2.2.2.1
  have imo : I64 mo := gh.2.2.2.2.1
  have s1 := put_sz ilo
  have s2 := put_sz ihi
  have s3 := put_sz imo
  have eR : tRpar.size = 1 := rfl
  have eD : tDots.size = 2 := rfl
  have eC : tComma.size = 2 := rfl
  (try simp only [ByteArray.size_append] at hz)
  have hA := heap_alloc_new w (.cells #[.int .i64 5, .int .i64 ta, .int .i64 lo, .int .i64 hi, .int .i64 mo, .slice N1 ns.length N3, .slice M1 f.len M3, .string nm, .int .i64 na] 30)
  have kw := (Wk.refl B b w).alloc hBw (.cells #[.int .i64 5, .int .i64 ta, .int .i64 lo, .int .i64 hi, .int .i64 mo, .slice N1 ns.length N3, .slice M1 f.len M3, .string nm, .int .i64 na] 30)
  replace h := h.alloc (.cells #[.int .i64 5, .int .i64 ta, .int .i64 lo, .int .i64 hi, .int .i64 mo, .slice N1 ns.length N3, .slice M1 f.len M3, .string nm, .int .i64 na] 30)
  have hBV : B ≤ (w.alloc (.cells #[.int .i64 5, .int .i64 ta, .int .i64 lo, .int .i64 hi, .int .i64 mo, .slice N1 ns.length N3, .slice M1 f.len M3, .string nm, .int .i64 na] 30)).heap.size := by rw [alz]; omega
  have qb : w.heap.size ≠ b := by have := hlt; omega
  replace hR := Lib.hid hR
  replace ok := Lib.hid ok
  replace gh := Lib.hid gh
  replace hy := Lib.hid hy
  go_enter Tryz.func103, Tryz.ntmps103
  go_upto_region 1 with fail
  generalize w.alloc (.cells #[.int .i64 5, .int .i64 ta, .int .i64 lo, .int .i64 hi, .int .i64 mo, .slice N1 ns.length N3, .slice M1 f.len M3, .string nm, .int .i64 na] 30) = V at *
  generalize w.heap.size = P at hA qb ⊢
  have a0 := (Lib.cell_of_heap hA 0).trans rfl
  have eL : tList.size = 5 := rfl
  have hK := heap_alloc_new V (.cells #[.string tList] 9)
  have cU := Lib.hid fun R hR => putx_calls B b (x) [tList] (tList) (by simp only [catT, ByteArray.append_empty, ByteArray.append_assoc]) V.heap.size (V.alloc (.cells #[.string tList] 9)) (h.alloc _) hK (by have := h.lt; omega) (by (try simp only [ByteArray.size_append]); omega) (by simp only [List.length_cons, List.length_nil]; omega) R (by simp only [alz]; omega) hR
  replace hA := ((alB _ (.cells #[.string tList] 9)).block _ (blt hA)).trans hA
  replace kw := kw.alloc hBw (.cells #[.string tList] 9)
  clear hK
  go_wp2_with fail
  refine cU.out _ (Lib.hid fun w1 h2 k2 => ?_)
  clear cU h a0
  replace hA := k2.box hA qb (by decide)
  replace kw := kw.trans k2
  have hBV := Nat.le_trans hBw kw.m.size
  have h := h2
  clear h2 k2
  obtain ⟨p, t, k, e, -, -, hbare⟩ := only_cons (ok.out.1.2.2.2.2.2.2.2.2.1 (.inl rfl))
  have e' : f.drop 0 = .cons p t k .nil := by rw [e]; rfl
  have hb0 := h0.trans (kw.m.mono hB0)
  obtain ⟨g, o, lv, cv, nx, px, rfl, hg, -, -, ry, hca⟩ := hy.out.p.part e'
  obtain ⟨X1, X3, rfl, -, -⟩ := ry.n.op
  obtain ⟨Y1, Y3, rfl, -⟩ := ry.p.sl
  obtain ⟨gp, gt, gk, gka⟩ := all_at 0 ga e'
  have okk := (okF_at 0 ok.out.2 e').2 hbare
  have htx : oneT (txF f) = txT t k := by rw [e]; rfl
  rw [htx] at hz hR
  have fl1 : f.len = 1 := by rw [e]; rfl
  have rT : w1.rangeAt g (o + 9) [.int .i64 t.kind, .int .i64 t.at_, .int .i64 t.lo, .int .i64 t.hi, .int .i64 t.most, .slice X1 t.names.length X3, .slice Y1 k.len Y3, .string t.name, .int .i64 t.nat] := fun j v h => by
    have hh := hca (9 + j) v (by rw [← List.getElem?_drop]; exact h)
    rw [Nat.zero_mul, Nat.add_zero, ← Nat.add_assoc] at hh
    exact (hb0.cell (p := ⟨g, o + 9 + j, none⟩) hg).trans hh
  have cT := Lib.hid fun R hR => (ih.at_ e') t (.slice X1 t.names.length X3) (.slice Y1 k.len Y3) B b (x ++ tList) W0 w1 okk gt gka gk ry hb0 hB0 h hBV (by simp only [ByteArray.size_append]; omega) R hR
  rw [fl1] at hA
  replace fl1 := Lib.hid fl1
  clear e e' hbare hca htx
  have a6 := (Lib.cell_of_heap hA 6).trans rfl
  go_wp2_with (refine wpList_load_g (by rfl) 30 _ rfl g (o + 9) rfl [.int .i64 t.kind, .int .i64 t.at_, .int .i64 t.lo, .int .i64 t.hi, .int .i64 t.most, .slice X1 t.names.length X3, .slice Y1 k.len Y3, .string t.name, .int .i64 t.nat] _ rT Tryz.underlying30 rfl (by kernel_rfl) ?_; go_simp)
  refine cT.out _ (Lib.hid fun w2 h2 k2 => ?_)
  clear cT h a6 rT
  replace hA := k2.box hA qb (by decide)
  replace kw := kw.trans k2
  have hBV := Nat.le_trans hBw kw.m.size
  have h := h2
  clear h2 k2
  have cD := Lib.hid fun R hR => Dig.put_calls mo imo.1 imo.2 w2 R hR
  have a4 := (Lib.cell_of_heap hA 4).trans rfl
  go_wp2_with fail
  refine cD.out _ (Lib.hid fun w3 m1 => ?_)
  clear cD  a4
  replace hA := (m1.block _ (blt hA)).trans hA
  replace h := h.below m1
  replace kw := kw.below hBw m1
  replace hBV := Nat.le_trans hBw kw.m.size
  clear m1
  have hK := heap_alloc_new w3 (.cells #[.string tComma, .string (putS mo), .string tRpar] 9)
  have cU := Lib.hid fun R hR => putx_calls B b (x ++ tList ++ txT t k) [tComma, (putS mo), tRpar] (tComma ++ putS mo ++ tRpar) (by simp only [catT, ByteArray.append_empty, ByteArray.append_assoc]) w3.heap.size (w3.alloc (.cells #[.string tComma, .string (putS mo), .string tRpar] 9)) (h.alloc _) hK (by have := h.lt; omega) (by (try simp only [ByteArray.size_append]); omega) (by simp only [List.length_cons, List.length_nil]; omega) R (by simp only [alz]; omega) hR
  replace hA := ((alB _ (.cells #[.string tComma, .string (putS mo), .string tRpar] 9)).block _ (blt hA)).trans hA
  replace kw := kw.alloc hBw (.cells #[.string tComma, .string (putS mo), .string tRpar] 9)
  clear hK
  go_wp2_with fail
  refine cU.out _ (Lib.hid fun w4 h2 k2 => ?_)
  clear cU h
  replace hA := k2.box hA qb (by decide)
  replace kw := kw.trans k2
  have hBV := Nat.le_trans hBw kw.m.size
  have h := h2
  clear h2 k2
  have fin := Lib.hid (hR.out.out _ (by (try simp only [ByteArray.append_assoc] at h ⊢); exact h) kw)
  clear hR h kw
  go_wp2_with fail
  first | refine bodyPost_ret ?_ rfl fin.out | refine bodyPost_end ?_ rfl fin.out
  simp [results, Tryz.results103, go_sem]
set_option maxRecDepth 100000 in
set_option maxHeartbeats 4000000 in
theorem any6_calls (f : Ft) (ih : Fo.AllK AnyW f) (ta lo hi mo : Int) (ns : List Wr) (nm : ByteArray) (na : Int) (nv pv : Value) (B b : Nat) (x : ByteArray) (W0 w : World) (ok : okT (⟨6, ta, lo, hi, mo, ns, nm, na⟩ : TH) f) (gh : GoodH (⟨6, ta, lo, hi, mo, ns, nm, na⟩ : TH)) (ga : f.All GoodH GoodL) (fl : f.len ≤ maxLen) (hy : RdY W0 (⟨6, ta, lo, hi, mo, ns, nm, na⟩ : TH) f nv pv) (h0 : Below W0.heap.size W0 w) (hB0 : W0.heap.size ≤ B) (h : Wld B b x w) (hBw : B ≤ w.heap.size) (hz : x.size + (tOpt ++ oneT (txF f) ++ tRpar).size ≤ 1000000000) (R : Ending → World → Prop)
    (hR : Hid (∀ w', Wld B b (x ++ (tOpt ++ oneT (txF f) ++ tRpar)) w' → Wk B b w w' → R (.returned (.tuple #[])) w')) : Calls Tryz.prog 103 #[.pointer (some ⟨b, 0, none⟩), .agg #[.int .i64 6, .int .i64 ta, .int .i64 lo, .int .i64 hi, .int .i64 mo, nv, pv, .string nm, .int .i64 na]] w R := by
  obtain ⟨N1, N3, rfl, -, -⟩ := hy.n.op
  obtain ⟨M1, M3, rfl, -⟩ := hy.p.sl
  have hlt := h.lt
  have ilo : I64 lo := gh.2.2.1
  have ihi : I64 hi := gh.2.2.2.1
  have imo : I64 mo := gh.2.2.2.2.1
  have s1 := put_sz ilo
  have s2 := put_sz ihi
  have s3 := put_sz imo
  have eR : tRpar.size = 1 := rfl
  have eD : tDots.size = 2 := rfl
  have eC : tComma.size = 2 := rfl
  (try simp only [ByteArray.size_append] at hz)
  have hA := heap_alloc_new w (.cells #[.int .i64 6, .int .i64 ta, .int .i64 lo, .int .i64 hi, .int .i64 mo, .slice N1 ns.length N3, .slice M1 f.len M3, .string nm, .int .i64 na] 30)
  have kw := (Wk.refl B b w).alloc hBw (.cells #[.int .i64 6, .int .i64 ta, .int .i64 lo, .int .i64 hi, .int .i64 mo, .slice N1 ns.length N3, .slice M1 f.len M3, .string nm, .int .i64 na] 30)
  replace h := h.alloc (.cells #[.int .i64 6, .int .i64 ta, .int .i64 lo, .int .i64 hi, .int .i64 mo, .slice N1 ns.length N3, .slice M1 f.len M3, .string nm, .int .i64 na] 30)
  have hBV : B ≤ (w.alloc (.cells #[.int .i64 6, .int .i64 ta, .int .i64 lo, .int .i64 hi, .int .i64 mo, .slice N1 ns.length N3, .slice M1 f.len M3, .string nm, .int .i64 na] 30)).heap.size := by rw [alz]; omega
  have qb : w.heap.size ≠ b := by have := hlt; omega
  replace hR := Lib.hid hR
  replace ok := Lib.hid ok
  replace gh := Lib.hid gh
  replace hy := Lib.hid hy
  go_enter Tryz.func103, Tryz.ntmps103
  go_upto_region 1 with fail
  generalize w.alloc (.cells #[.int .i64 6, .int .i64 ta, .int .i64 lo, .int .i64 hi, .int .i64 mo, .slice N1 ns.length N3, .slice M1 f.len M3, .string nm, .int .i64 na] 30) = V at *
  generalize w.heap.size = P at hA qb ⊢
  have a0 := (Lib.cell_of_heap hA 0).trans rfl
  have eL : tOpt.size = 4 := rfl
  have hK := heap_alloc_new V (.cells #[.string tOpt] 9)
  have cU := Lib.hid fun R hR => putx_calls B b (x) [tOpt] (tOpt) (by simp only [catT, ByteArray.append_empty, ByteArray.append_assoc]) V.heap.size (V.alloc (.cells #[.string tOpt] 9)) (h.alloc _) hK (by have := h.lt; omega) (by (try simp only [ByteArray.size_append]); omega) (by simp only [List.length_cons, List.length_nil]; omega) R (by simp only [alz]; omega) hR
  replace hA := ((alB _ (.cells #[.string tOpt] 9)).block _ (blt hA)).trans hA
  replace kw := kw.alloc hBw (.cells #[.string tOpt] 9)
  clear hK
  go_wp2_with fail
  refine cU.out _ (Lib.hid fun w1 h2 k2 => ?_)
  clear cU h a0
  replace hA := k2.box hA qb (by decide)
  replace kw := kw.trans k2
  have hBV := Nat.le_trans hBw kw.m.size
  have h := h2
  clear h2 k2
  obtain ⟨p, t, k, e, -, -, hbare⟩ := only_cons (ok.out.1.2.2.2.2.2.2.2.2.1 (.inr rfl))
  have e' : f.drop 0 = .cons p t k .nil := by rw [e]; rfl
  have hb0 := h0.trans (kw.m.mono hB0)
  obtain ⟨g, o, lv, cv, nx, px, rfl, hg, -, -, ry, hca⟩ := hy.out.p.part e'
  obtain ⟨X1, X3, rfl, -, -⟩ := ry.n.op
  obtain ⟨Y1, Y3, rfl, -⟩ := ry.p.sl
  obtain ⟨gp, gt, gk, gka⟩ := all_at 0 ga e'
  have okk := (okF_at 0 ok.out.2 e').2 hbare
  have htx : oneT (txF f) = txT t k := by rw [e]; rfl
  rw [htx] at hz hR
  have fl1 : f.len = 1 := by rw [e]; rfl
  have rT : w1.rangeAt g (o + 9) [.int .i64 t.kind, .int .i64 t.at_, .int .i64 t.lo, .int .i64 t.hi, .int .i64 t.most, .slice X1 t.names.length X3, .slice Y1 k.len Y3, .string t.name, .int .i64 t.nat] := fun j v h => by
    have hh := hca (9 + j) v (by rw [← List.getElem?_drop]; exact h)
    rw [Nat.zero_mul, Nat.add_zero, ← Nat.add_assoc] at hh
    exact (hb0.cell (p := ⟨g, o + 9 + j, none⟩) hg).trans hh
  have cT := Lib.hid fun R hR => (ih.at_ e') t (.slice X1 t.names.length X3) (.slice Y1 k.len Y3) B b (x ++ tOpt) W0 w1 okk gt gka gk ry hb0 hB0 h hBV (by simp only [ByteArray.size_append]; omega) R hR
  rw [fl1] at hA
  replace fl1 := Lib.hid fl1
  clear e e' hbare hca htx
  have a6 := (Lib.cell_of_heap hA 6).trans rfl
  go_wp2_with (refine wpList_load_g (by rfl) 30 _ rfl g (o + 9) rfl [.int .i64 t.kind, .int .i64 t.at_, .int .i64 t.lo, .int .i64 t.hi, .int .i64 t.most, .slice X1 t.names.length X3, .slice Y1 k.len Y3, .string t.name, .int .i64 t.nat] _ rT Tryz.underlying30 rfl (by kernel_rfl) ?_; go_simp)
  refine cT.out _ (Lib.hid fun w2 h2 k2 => ?_)
  clear cT h a6 rT
  replace hA := k2.box hA qb (by decide)
  replace kw := kw.trans k2
  have hBV := Nat.le_trans hBw kw.m.size
  have h := h2
  clear h2 k2
  have hK := heap_alloc_new w2 (.cells #[.string tRpar] 9)
  have cU := Lib.hid fun R hR => putx_calls B b (x ++ tOpt ++ txT t k) [tRpar] (tRpar) (by simp only [catT, ByteArray.append_empty, ByteArray.append_assoc]) w2.heap.size (w2.alloc (.cells #[.string tRpar] 9)) (h.alloc _) hK (by have := h.lt; omega) (by (try simp only [ByteArray.size_append]); omega) (by simp only [List.length_cons, List.length_nil]; omega) R (by simp only [alz]; omega) hR
  replace hA := ((alB _ (.cells #[.string tRpar] 9)).block _ (blt hA)).trans hA
  replace kw := kw.alloc hBw (.cells #[.string tRpar] 9)
  clear hK
  go_wp2_with fail
  refine cU.out _ (Lib.hid fun w3 h2 k2 => ?_)
  clear cU h
  replace hA := k2.box hA qb (by decide)
  replace kw := kw.trans k2
  have hBV := Nat.le_trans hBw kw.m.size
  have h := h2
  clear h2 k2
  have fin := Lib.hid (hR.out.out _ (by (try simp only [ByteArray.append_assoc] at h ⊢); exact h) kw)
  clear hR h kw
  go_wp2_with fail
  first | refine bodyPost_ret ?_ rfl fin.out | refine bodyPost_end ?_ rfl fin.out
  simp [results, Tryz.results103, go_sem]
end Go.Proofs.YtbochlbgjnmgjaaGreat.Unp

/- Layer 17, the code: types. -/
set_option maxRecDepth 100000
set_option linter.unusedVariables false
namespace Go.Proofs.YtbochlbgjnmgjaaGreat.Unp
open Go.RowKit Go.Lib Go.Proofs.YtbochlbgjnmgjaaGreat.Nam Go.Proofs.YtbochlbgjnmgjaaGreat.Lat Go.Proofs.YtbochlbgjnmgjaaGreat.Kin Go.Proofs.YtbochlbgjnmgjaaGreat.Dig

set_option maxRecDepth 100000 in
set_option maxHeartbeats 4000000 in
theorem any7_calls (f : Ft) (ih : Fo.AllK AnyW f) (ta lo hi mo : Int) (ns : List Wr) (nm : ByteArray) (na : Int) (nv pv : Value) (B b : Nat) (x : ByteArray) (W0 w : World) (ok : okT (⟨7, ta, lo, hi, mo, ns, nm, na⟩ : TH) f) (gh : GoodH (⟨7, ta, lo, hi, mo, ns, nm, na⟩ : TH)) (ga : f.All GoodH GoodL) (fl : f.len ≤ maxLen) (hy : RdY W0 (⟨7, ta, lo, hi, mo, ns, nm, na⟩ : TH) f nv pv) (h0 : Below W0.heap.size W0 w) (hB0 : W0.heap.size ≤ B) (h : Wld B b x w) (hBw : B ≤ w.heap.size) (hz : x.size + (tRecord ++ sepT tComma (fun x => fldT x.1 x.2) 0 (txF f) ++ tRbrace).size ≤ 1000000000) (R : Ending → World → Prop)
    (hR : Hid (∀ w', Wld B b (x ++ (tRecord ++ sepT tComma (fun x => fldT x.1 x.2) 0 (txF f) ++ tRbrace)) w' → Wk B b w w' → R (.returned (.tuple #[])) w')) : Calls Tryz.prog 103 #[.pointer (some ⟨b, 0, none⟩), .agg #[.int .i64 7, .int .i64 ta, .int .i64 lo, .int .i64 hi, .int .i64 mo, nv, pv, .string nm, .int .i64 na]] w R := by
  obtain ⟨N1, N3, rfl, -, -⟩ := hy.n.op
  obtain ⟨M1, M3, rfl, -⟩ := hy.p.sl
  have hlt := h.lt
  have ilo : I64 lo := gh.2.2.1
  have ihi : I64 hi := gh.2.2.2.1
  have imo : I64 mo := gh.2.2.2.2.1
  have s1 := put_sz ilo
  have s2 := put_sz ihi
  have s3 := put_sz imo
  have eR : tRpar.size = 1 := rfl
  have eD : tDots.size = 2 := rfl
  have eC : tComma.size = 2 := rfl
  (try simp only [ByteArray.size_append] at hz)
  have hA := heap_alloc_new w (.cells #[.int .i64 7, .int .i64 ta, .int .i64 lo, .int .i64 hi, .int .i64 mo, .slice N1 ns.length N3, .slice M1 f.len M3, .string nm, .int .i64 na] 30)
  have kw := (Wk.refl B b w).alloc hBw (.cells #[.int .i64 7, .int .i64 ta, .int .i64 lo, .int .i64 hi, .int .i64 mo, .slice N1 ns.length N3, .slice M1 f.len M3, .string nm, .int .i64 na] 30)
  replace h := h.alloc (.cells #[.int .i64 7, .int .i64 ta, .int .i64 lo, .int .i64 hi, .int .i64 mo, .slice N1 ns.length N3, .slice M1 f.len M3, .string nm, .int .i64 na] 30)
  have hBV : B ≤ (w.alloc (.cells #[.int .i64 7, .int .i64 ta, .int .i64 lo, .int .i64 hi, .int .i64 mo, .slice N1 ns.length N3, .slice M1 f.len M3, .string nm, .int .i64 na] 30)).heap.size := by rw [alz]; omega
  have qb : w.heap.size ≠ b := by have := hlt; omega
  replace hR := Lib.hid hR
  replace ok := Lib.hid ok
  replace gh := Lib.hid gh
  replace hy := Lib.hid hy
  go_enter Tryz.func103, Tryz.ntmps103
  go_upto_region 1 with fail
  generalize w.alloc (.cells #[.int .i64 7, .int .i64 ta, .int .i64 lo, .int .i64 hi, .int .i64 mo, .slice N1 ns.length N3, .slice M1 f.len M3, .string nm, .int .i64 na] 30) = V at *
  generalize w.heap.size = P at hA qb ⊢
  have a0 := (Lib.cell_of_heap hA 0).trans rfl
  have eL : tRecord.size = 7 := rfl
  have eB : tRbrace.size = 1 := rfl
  have hmf : ∀ (fn : Fn) (first cap : Array Value) (w : World), (Instr.makeFunc fn first cap).run Tryz.prog w = .ok (.func fn first cap) w := fun _ _ _ _ => rfl
  have hE := Lib.hid (show ∀ i p t k r, f.drop i = .cons p t k r → PartW 170 fldT 7 p t k ∧ PtW 7 p t k from fun i p t k r e => by
    obtain ⟨q1, q2⟩ := okF_at i ok.out.2 e
    obtain ⟨gp, gt, gk, gka⟩ := all_at i ga e
    have q1' := q1 (.inl rfl)
    refine ⟨field_calls p t k (ih.at_ e) (by cases hb : p.bare; rfl; exact absurd (q1'.2.1 hb).1 (show ¬ (7 : Int) = 8 by decide)), ⟨q1', q2, gp, gt, gka, gk⟩⟩)
  have hK := heap_alloc_new V (.cells #[.string tRecord] 9)
  have cU := Lib.hid fun R hR => putx_calls B b (x) [tRecord] (tRecord) (by simp only [catT, ByteArray.append_empty, ByteArray.append_assoc]) V.heap.size (V.alloc (.cells #[.string tRecord] 9)) (h.alloc _) hK (by have := h.lt; omega) (by (try simp only [ByteArray.size_append]); omega) (by simp only [List.length_cons, List.length_nil]; omega) R (by simp only [alz]; omega) hR
  replace hA := ((alB _ (.cells #[.string tRecord] 9)).block _ (blt hA)).trans hA
  replace kw := kw.alloc hBw (.cells #[.string tRecord] 9)
  clear hK
  go_wp2_with fail
  refine cU.out _ (Lib.hid fun w1 h2 k2 => ?_)
  clear cU h a0
  replace hA := k2.box hA qb (by decide)
  replace kw := kw.trans k2
  have hBV := Nat.le_trans hBw kw.m.size
  have h := h2
  clear h2 k2
  have cL := Lib.hid fun R hR => listp_calls 170 isF_field fldT 7 f hE B b (x ++ tRecord) (.slice M1 f.len M3) W0 w1 h hBV (h0.trans (kw.m.mono hB0)) hB0 hy.out.p fl (by simp only [ByteArray.size_append]; omega) R hR
  have a6 := (Lib.cell_of_heap hA 6).trans rfl
  go_wp2_with fail
  refine cL.out _ (Lib.hid fun w2 h2 k2 => ?_)
  clear cL h a6
  replace hA := k2.box hA qb (by decide)
  replace kw := kw.trans k2
  have hBV := Nat.le_trans hBw kw.m.size
  have h := h2
  clear h2 k2
  have hK := heap_alloc_new w2 (.cells #[.string tRbrace] 9)
  have cU := Lib.hid fun R hR => putx_calls B b (x ++ tRecord ++ sepT tComma (fun y => fldT y.1 y.2) 0 (txF f)) [tRbrace] (tRbrace) (by simp only [catT, ByteArray.append_empty, ByteArray.append_assoc]) w2.heap.size (w2.alloc (.cells #[.string tRbrace] 9)) (h.alloc _) hK (by have := h.lt; omega) (by (try simp only [ByteArray.size_append]); omega) (by simp only [List.length_cons, List.length_nil]; omega) R (by simp only [alz]; omega) hR
  replace hA := ((alB _ (.cells #[.string tRbrace] 9)).block _ (blt hA)).trans hA
  replace kw := kw.alloc hBw (.cells #[.string tRbrace] 9)
  clear hK
  go_wp2_with fail
  refine cU.out _ (Lib.hid fun w3 h2 k2 => ?_)
  clear cU h
  replace hA := k2.box hA qb (by decide)
  replace kw := kw.trans k2
  have hBV := Nat.le_trans hBw kw.m.size
  have h := h2
  clear h2 k2
  have fin := Lib.hid (hR.out.out _ (by (try simp only [ByteArray.append_assoc] at h ⊢); exact h) kw)
  clear hR h kw
  go_wp2_with fail
  first | refine bodyPost_ret ?_ rfl fin.out | refine bodyPost_end ?_ rfl fin.out
  simp [results, Tryz.results103, go_sem]
set_option maxRecDepth 100000 in
set_option maxHeartbeats 4000000 in
theorem any8_calls (f : Ft) (ih : Fo.AllK AnyW f) (ta lo hi mo : Int) (ns : List Wr) (nm : ByteArray) (na : Int) (nv pv : Value) (B b : Nat) (x : ByteArray) (W0 w : World) (ok : okT (⟨8, ta, lo, hi, mo, ns, nm, na⟩ : TH) f) (gh : GoodH (⟨8, ta, lo, hi, mo, ns, nm, na⟩ : TH)) (ga : f.All GoodH GoodL) (fl : f.len ≤ maxLen) (hy : RdY W0 (⟨8, ta, lo, hi, mo, ns, nm, na⟩ : TH) f nv pv) (h0 : Below W0.heap.size W0 w) (hB0 : W0.heap.size ≤ B) (h : Wld B b x w) (hBw : B ≤ w.heap.size) (hz : x.size + (tUnion ++ sepT tComma (fun x => tagT x.1 x.2) 0 (txF f) ++ tRbrace).size ≤ 1000000000) (R : Ending → World → Prop)
    (hR : Hid (∀ w', Wld B b (x ++ (tUnion ++ sepT tComma (fun x => tagT x.1 x.2) 0 (txF f) ++ tRbrace)) w' → Wk B b w w' → R (.returned (.tuple #[])) w')) : Calls Tryz.prog 103 #[.pointer (some ⟨b, 0, none⟩), .agg #[.int .i64 8, .int .i64 ta, .int .i64 lo, .int .i64 hi, .int .i64 mo, nv, pv, .string nm, .int .i64 na]] w R := by
  obtain ⟨N1, N3, rfl, -, -⟩ := hy.n.op
  obtain ⟨M1, M3, rfl, -⟩ := hy.p.sl
  have hlt := h.lt
  have ilo : I64 lo := gh.2.2.1
  have ihi : I64 hi := gh.2.2.2.1
  have imo : I64 mo := gh.2.2.2.2.1
  have s1 := put_sz ilo
  have s2 := put_sz ihi
  have s3 := put_sz imo
  have eR : tRpar.size = 1 := rfl
  have eD : tDots.size = 2 := rfl
  have eC : tComma.size = 2 := rfl
  (try simp only [ByteArray.size_append] at hz)
  have hA := heap_alloc_new w (.cells #[.int .i64 8, .int .i64 ta, .int .i64 lo, .int .i64 hi, .int .i64 mo, .slice N1 ns.length N3, .slice M1 f.len M3, .string nm, .int .i64 na] 30)
  have kw := (Wk.refl B b w).alloc hBw (.cells #[.int .i64 8, .int .i64 ta, .int .i64 lo, .int .i64 hi, .int .i64 mo, .slice N1 ns.length N3, .slice M1 f.len M3, .string nm, .int .i64 na] 30)
  replace h := h.alloc (.cells #[.int .i64 8, .int .i64 ta, .int .i64 lo, .int .i64 hi, .int .i64 mo, .slice N1 ns.length N3, .slice M1 f.len M3, .string nm, .int .i64 na] 30)
  have hBV : B ≤ (w.alloc (.cells #[.int .i64 8, .int .i64 ta, .int .i64 lo, .int .i64 hi, .int .i64 mo, .slice N1 ns.length N3, .slice M1 f.len M3, .string nm, .int .i64 na] 30)).heap.size := by rw [alz]; omega
  have qb : w.heap.size ≠ b := by have := hlt; omega
  replace hR := Lib.hid hR
  replace ok := Lib.hid ok
  replace gh := Lib.hid gh
  replace hy := Lib.hid hy
  go_enter Tryz.func103, Tryz.ntmps103
  go_upto_region 1 with fail
  generalize w.alloc (.cells #[.int .i64 8, .int .i64 ta, .int .i64 lo, .int .i64 hi, .int .i64 mo, .slice N1 ns.length N3, .slice M1 f.len M3, .string nm, .int .i64 na] 30) = V at *
  generalize w.heap.size = P at hA qb ⊢
  have a0 := (Lib.cell_of_heap hA 0).trans rfl
  have eL : tUnion.size = 6 := rfl
  have eB : tRbrace.size = 1 := rfl
  have hmf : ∀ (fn : Fn) (first cap : Array Value) (w : World), (Instr.makeFunc fn first cap).run Tryz.prog w = .ok (.func fn first cap) w := fun _ _ _ _ => rfl
  have hE := Lib.hid (show ∀ i p t k r, f.drop i = .cons p t k r → PartW 171 tagT 8 p t k ∧ PtW 8 p t k from fun i p t k r e => by
    obtain ⟨q1, q2⟩ := okF_at i ok.out.2 e
    obtain ⟨gp, gt, gk, gka⟩ := all_at i ga e
    have q1' := q1 (.inr rfl)
    refine ⟨tag_calls p t k (ih.at_ e), ⟨q1', q2, gp, gt, gka, gk⟩⟩)
  have hK := heap_alloc_new V (.cells #[.string tUnion] 9)
  have cU := Lib.hid fun R hR => putx_calls B b (x) [tUnion] (tUnion) (by simp only [catT, ByteArray.append_empty, ByteArray.append_assoc]) V.heap.size (V.alloc (.cells #[.string tUnion] 9)) (h.alloc _) hK (by have := h.lt; omega) (by (try simp only [ByteArray.size_append]); omega) (by simp only [List.length_cons, List.length_nil]; omega) R (by simp only [alz]; omega) hR
  replace hA := ((alB _ (.cells #[.string tUnion] 9)).block _ (blt hA)).trans hA
  replace kw := kw.alloc hBw (.cells #[.string tUnion] 9)
  clear hK
  go_wp2_with fail
  refine cU.out _ (Lib.hid fun w1 h2 k2 => ?_)
  clear cU h a0
  replace hA := k2.box hA qb (by decide)
  replace kw := kw.trans k2
  have hBV := Nat.le_trans hBw kw.m.size
  have h := h2
  clear h2 k2
  have cL := Lib.hid fun R hR => listp_calls 171 isF_tag tagT 8 f hE B b (x ++ tUnion) (.slice M1 f.len M3) W0 w1 h hBV (h0.trans (kw.m.mono hB0)) hB0 hy.out.p fl (by simp only [ByteArray.size_append]; omega) R hR
  have a6 := (Lib.cell_of_heap hA 6).trans rfl
  go_wp2_with fail
  refine cL.out _ (Lib.hid fun w2 h2 k2 => ?_)
  clear cL h a6
  replace hA := k2.box hA qb (by decide)
  replace kw := kw.trans k2
  have hBV := Nat.le_trans hBw kw.m.size
  have h := h2
  clear h2 k2
  have hK := heap_alloc_new w2 (.cells #[.string tRbrace] 9)
  have cU := Lib.hid fun R hR => putx_calls B b (x ++ tUnion ++ sepT tComma (fun y => tagT y.1 y.2) 0 (txF f)) [tRbrace] (tRbrace) (by simp only [catT, ByteArray.append_empty, ByteArray.append_assoc]) w2.heap.size (w2.alloc (.cells #[.string tRbrace] 9)) (h.alloc _) hK (by have := h.lt; omega) (by (try simp only [ByteArray.size_append]); omega) (by simp only [List.length_cons, List.length_nil]; omega) R (by simp only [alz]; omega) hR
  replace hA := ((alB _ (.cells #[.string tRbrace] 9)).block _ (blt hA)).trans hA
  replace kw := kw.alloc hBw (.cells #[.string tRbrace] 9)
  clear hK
  go_wp2_with fail
  refine cU.out _ (Lib.hid fun w3 h2 k2 => ?_)
  clear cU h
  replace hA := k2.box hA qb (by decide)
  replace kw := kw.trans k2
  have hBV := Nat.le_trans hBw kw.m.size
  have h := h2
  clear h2 k2
  have fin := Lib.hid (hR.out.out _ (by (try simp only [ByteArray.append_assoc] at h ⊢); exact h) kw)
  clear hR h kw
  go_wp2_with fail
  first | refine bodyPost_ret ?_ rfl fin.out | refine bodyPost_end ?_ rfl fin.out
  simp [results, Tryz.results103, go_sem]
end Go.Proofs.YtbochlbgjnmgjaaGreat.Unp

/- Layer 17, the code: types. -/
set_option maxRecDepth 100000
set_option linter.unusedVariables false
namespace Go.Proofs.YtbochlbgjnmgjaaGreat.Unp
open Go.RowKit Go.Lib Go.Proofs.YtbochlbgjnmgjaaGreat.Nam Go.Proofs.YtbochlbgjnmgjaaGreat.Lat Go.Proofs.YtbochlbgjnmgjaaGreat.Kin Go.Proofs.YtbochlbgjnmgjaaGreat.Dig

theorem any_step (f : Ft) (ih : Fo.AllK AnyW f) : AnyW f := by
  intro t nv pv B b x W0 w ok gh ga fl hy h0 hB0 h hBw hz R hR
  obtain ⟨kd, ta, lo, hi, mo, ns, nm, na⟩ := t
  have h1 : 1 ≤ kd := ok.1.1
  have h9 : kd ≤ 9 := ok.1.2.1
  have : kd = 1 ∨ kd = 2 ∨ kd = 3 ∨ kd = 4 ∨ kd = 5 ∨ kd = 6 ∨ kd = 7 ∨ kd = 8 ∨ kd = 9 := by omega
  rcases this with rfl | rfl | rfl | rfl | rfl | rfl | rfl | rfl | rfl
  · exact any1_calls f ih ta lo hi mo ns nm na nv pv B b x W0 w ok gh ga fl hy h0 hB0 h hBw hz R hR
  · exact any2_calls f ih ta lo hi mo ns nm na nv pv B b x W0 w ok gh ga fl hy h0 hB0 h hBw hz R hR
  · exact any3_calls f ih ta lo hi mo ns nm na nv pv B b x W0 w ok gh ga fl hy h0 hB0 h hBw hz R hR
  · exact any4_calls f ih ta lo hi mo ns nm na nv pv B b x W0 w ok gh ga fl hy h0 hB0 h hBw hz R hR
  · exact any5_calls f ih ta lo hi mo ns nm na nv pv B b x W0 w ok gh ga fl hy h0 hB0 h hBw hz R hR
  · exact any6_calls f ih ta lo hi mo ns nm na nv pv B b x W0 w ok gh ga fl hy h0 hB0 h hBw hz R hR
  · exact any7_calls f ih ta lo hi mo ns nm na nv pv B b x W0 w ok gh ga fl hy h0 hB0 h hBw hz R hR
  · exact any8_calls f ih ta lo hi mo ns nm na nv pv B b x W0 w ok gh ga fl hy h0 hB0 h hBw hz R hR
  · exact any9_calls f ih ta lo hi mo ns nm na nv pv B b x W0 w ok gh ga fl hy h0 hB0 h hBw hz R hR
theorem any_calls (f : Ft) : AnyW f := Fo.deep any_step f
end Go.Proofs.YtbochlbgjnmgjaaGreat.Unp
