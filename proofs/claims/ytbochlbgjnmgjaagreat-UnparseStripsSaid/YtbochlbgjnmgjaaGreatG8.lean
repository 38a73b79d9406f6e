import Derived.Test.YtbochlbgjnmgjaaGreatWri
import Derived.Test.YtbochlbgjnmgjaaGreatG6
import Derived.Test.YtbochlbgjnmgjaaGreatG7
/- Layer 17, the code: names, labels. -/
set_option maxRecDepth 100000
set_option linter.unusedVariables false
namespace Go.Proofs.YtbochlbgjnmgjaaGreat.Unp
open Go.RowKit Go.Lib Go.Proofs.YtbochlbgjnmgjaaGreat.Nam Go.Proofs.YtbochlbgjnmgjaaGreat.Lat Go.Proofs.YtbochlbgjnmgjaaGreat.Kin

theorem alz (w : World) (o : Obj) : (w.alloc o).heap.size = w.heap.size + 1 := by simp
theorem blt {V : World} {b : Nat} {o : Obj} (h : V.heap[b]? = some o) : b < V.heap.size := (Array.getElem?_eq_some_iff.1 h).1
theorem alB (V : World) (o : Obj) : Below V.heap.size V (V.alloc o) := (Below.refl _ _).alloc (Nat.le_refl _) o
theorem putx_calls (B b : Nat) (x : ByteArray) (xs : List ByteArray) (s : ByteArray) (hs : catT xs = s) (k : Nat) (w : World) (h : Wld B b x w) (hk : w.heap[k]? = some (.cells (sv xs).toArray 9)) (hkb : k ≠ b) (hlen : x.size + s.size ≤ 1000000000) (hxl : xs.length ≤ 1000) (R : Ending → World → Prop)
    (hBw : B ≤ w.heap.size) (hR : Hid (∀ w', Wld B b (x ++ s) w' → Wk B b w w' → R (.returned (.tuple #[])) w')) : Calls Tryz.prog 116 #[.pointer (some ⟨b, 0, none⟩), .slice (some ⟨k, 0, none⟩) xs.length xs.length] w R := by
  subst hs
  exact put_calls B b x xs k w h hk hkb hlen hxl R hBw hR
theorem isF_wname : ∀ (args : Array Value) (w : World), (callFunc 118 args).run Tryz.prog w = .ok (.enter 118 args) w := by
  intro args w
  unfold callFunc
  simp [go_sem, Tryz.func118]
  rfl
set_option maxRecDepth 100000 in
set_option maxHeartbeats 1000000 in
theorem wname_calls (B b : Nat) (x : ByteArray) (n : Wr) (w : World) (h : Wld B b x w) (hBw : B ≤ w.heap.size) (hz : x.size + n.1.size ≤ 1000000000) (R : Ending → World → Prop)
    (hR : Hid (∀ w', Wld B b (x ++ n.1) w' → Wk B b w w' → R (.returned (.tuple #[])) w')) : Calls Tryz.prog 118 #[.pointer (some ⟨b, 0, none⟩), .agg #[.string n.1, .int .i64 n.2]] w R := by
  have hlt := h.lt
  have hA := heap_alloc_new w (.cells #[.string n.1, .int .i64 n.2] 28)
  have kw := (Wk.refl B b w).alloc hBw (.cells #[.string n.1, .int .i64 n.2] 28)
  replace h := h.alloc (.cells #[.string n.1, .int .i64 n.2] 28)
  have hBV : B ≤ (w.alloc (.cells #[.string n.1, .int .i64 n.2] 28)).heap.size := by rw [alz]; omega
  have qb : w.heap.size ≠ b := by have := hlt; omega
  go_enter Tryz.func118, Tryz.ntmps118
  go_upto_region 1 with fail
  generalize w.alloc (.cells #[.string n.1, .int .i64 n.2] 28) = V at *
  have a0 := (Lib.cell_of_heap hA 0).trans rfl
  have hK := heap_alloc_new V (.cells #[.string n.1] 9)
  have cU := Lib.hid fun R hR => putx_calls B b (x) [n.1] (n.1) (by simp only [catT, ByteArray.append_empty, ByteArray.append_assoc]) V.heap.size (V.alloc (.cells #[.string n.1] 9)) (h.alloc _) hK (by have := h.lt; omega) (by omega) (by simp only [List.length_cons, List.length_nil]; omega) R (by simp only [alz]; omega) hR
  replace kw := kw.alloc hBw (.cells #[.string n.1] 9)
  clear hK
  go_wp2_with fail
  refine cU.out _ (Lib.hid fun w1 h2 k2 => ?_)
  clear cU h a0 hA
  replace kw := kw.trans k2
  have hBV := Nat.le_trans hBw kw.m.size
  have h := h2
  clear h2 k2
  have fin := Lib.hid (hR.out _ h kw)
  clear hR
  go_wp2_with fail
  first | refine bodyPost_ret ?_ rfl fin.out | refine bodyPost_end ?_ rfl fin.out
  simp [results, Tryz.results118, go_sem]
set_option maxRecDepth 100000 in
set_option maxHeartbeats 2000000 in
theorem sepw_calls (B b : Nat) (x : ByteArray) (m : ByteArray) (l : List Wr) (v : Value) (W0 : World) (w : World) (h : Wld B b x w) (hBw : B ≤ w.heap.size) (h0 : Below W0.heap.size W0 w) (hB0 : W0.heap.size ≤ B) (hr : RdW W0 v l) (hl : l.length ≤ maxLen) (hz : x.size + (wrs m l).size ≤ 1000000000) (R : Ending → World → Prop)
    (hR : Hid (∀ w', Wld B b (x ++ wrs m l) w' → Wk B b w w' → R (.returned (.tuple #[])) w')) : Calls Tryz.prog 183 #[.pointer (some ⟨b, 0, none⟩), .string m, v, .func (.func 118) #[.pointer (some ⟨b, 0, none⟩)] #[]] w R := by
  replace hl : l.length ≤ 9223372036854775807 := hl
  have isN := isF_wname
  obtain ⟨A, cp, rfl, hlc, hrd⟩ := hr.op
  have hS : x ++ wrs m l = x ++ sepT m (·.1) 0 (l.drop 0) := rfl
  have hz2 : (x ++ wrs m l).size ≤ 1000000000 := by rw [ByteArray.size_append]; exact hz
  generalize hT : x ++ wrs m l = T at *
  replace hT := Lib.hid hT
  replace hrd := Lib.hid hrd
  replace hR := Lib.hid hR
  go_enter Tryz.func183, Tryz.ntmps183
  go_wp2_with fail
  go_loopg [12] l.length (fun g0 i wr => ∃ (K : Nat) (c : ByteArray), i = .int .i64 K ∧ K + g0 = l.length ∧ Hid (T = c ++ sepT m (·.1) K (l.drop K)) ∧ Hid (Wld B b c wr) ∧ Hid (Wk B b w wr))
  case atStart => exact ⟨0, x, rfl, by omega, Lib.hid hS, Lib.hid h, Lib.hid (Wk.refl B b w)⟩
  case round =>
    clear h hS
    obtain ⟨K, c, rfl, c1, hc, h, kw⟩ := hrel
    replace hc := hc.out
    replace h := h.out
    replace kw := kw.out
    have hBV := Nat.le_trans hBw kw.m.size
    by_cases hK : K < l.length
    · obtain ⟨g, o, rfl, hg, hca⟩ := hrd.out (by omega)
      have ca := (hca K hK).1
      have cb := (hca K hK).2
      rw [wN_get hK] at ca cb
      rw [sep_drop hK] at hc
      generalize l[K] = n at *
      obtain ⟨n0, n1⟩ := n
      simp only at hc ca cb
      have hb := h0.trans (kw.m.mono hB0)
      have e0 := (hb.cell (p := ⟨g, o + K * 2, none⟩) hg).trans ca
      have e1 := (hb.cell (p := ⟨g, o + K * 2 + 1, none⟩) hg).trans cb
      have i0 : (0 : Int) ≤ (K : Int) := by omega
      have i1 : (K : Int) < (l.length : Int) := by omega
      have qb : wr.heap.size ≠ b := by have := h.lt; omega
      have hA := heap_alloc_new wr (.cells #[.string n0, .int .i64 n1] 28)
      have lA := h.lt
      replace kw := kw.alloc hBw (.cells #[.string n0, .int .i64 n1] 28)
      replace h := h.alloc (.cells #[.string n0, .int .i64 n1] 28)
      replace hBV := Nat.le_trans hBw kw.m.size
      clear hca ca cb hb hg
      go_upto_region 3 with fail
      generalize wr.alloc (.cells #[.string n0, .int .i64 n1] 28) = V at *
      generalize wr.heap.size = P at *
      clear e0 e1
      by_cases hk : K = 0
      · have hk0 : K = 0 := hk
        subst hk0
        rw [if_pos rfl] at hc
        have hzc : c.size + n0.size ≤ 1000000000 := by rw [hc, ByteArray.size_append, ByteArray.size_append] at hz2; omega
        replace hc := Lib.hid hc
        have cN := Lib.hid fun R hR => wname_calls B b c (n0, n1) V h hBV hzc R hR
        have a0 := (Lib.cell_of_heap hA 0).trans rfl
        have a1 := (Lib.cell_of_heap hA 1).trans rfl
        go_wp2_with fail
        refine cN.out _ (Lib.hid fun w2 h2 k2 => ?_)
        have hc2 := Lib.hid (show T = c ++ n0 ++ sepT m (·.1) (0 + 1) (l.drop (0 + 1)) by rw [hc.out]; simp only [ByteArray.append_assoc])
        have h3 := Lib.hid h2
        have k3 := Lib.hid (kw.trans k2)
        clear h2 k2 cN hA a0 a1 h kw hc
        go_wp2_with fail
        go_roundg (gk - 1)
        case measure => omega
        case rel => exact ⟨0 + 1, c ++ n0, by go_num, by omega, hc2, h3, k3⟩
      · have i2 : (0 : Int) < (K : Int) := by omega
        rw [if_neg hk] at hc
        have hzc : c.size + m.size + n0.size ≤ 1000000000 := by rw [hc, ByteArray.size_append, ByteArray.size_append, ByteArray.size_append] at hz2; omega
        replace hc := Lib.hid hc
        have hK := heap_alloc_new V (.cells #[.string m] 9)
        have cU := Lib.hid fun R hR => putx_calls B b (c) [m] (m) (by simp only [catT, ByteArray.append_empty, ByteArray.append_assoc]) V.heap.size (V.alloc (.cells #[.string m] 9)) (h.alloc _) hK (by have := h.lt; omega) (by omega) (by simp only [List.length_cons, List.length_nil]; omega) R (by simp only [alz]; omega) hR
        replace hA := ((alB _ (.cells #[.string m] 9)).block _ (blt hA)).trans hA
        replace kw := kw.alloc hBw (.cells #[.string m] 9)
        clear hK
        go_wp2_with fail
        refine cU.out _ (Lib.hid fun w1 h2 k2 => ?_)
        clear cU h
        replace hA := k2.box hA qb (by decide)
        replace kw := kw.trans k2
        have hBV := Nat.le_trans hBw kw.m.size
        have h := h2
        clear h2 k2
        have cN := Lib.hid fun R hR => wname_calls B b (c ++ m) (n0, n1) w1 h hBV (by rw [ByteArray.size_append]; exact hzc) R hR
        have a0 := (Lib.cell_of_heap hA 0).trans rfl
        have a1 := (Lib.cell_of_heap hA 1).trans rfl
        go_wp2_with fail
        refine cN.out _ (Lib.hid fun w2 h2 k2 => ?_)
        have hc2 := Lib.hid (show T = (c ++ m) ++ n0 ++ sepT m (·.1) (K + 1) (l.drop (K + 1)) by rw [hc.out]; simp only [ByteArray.append_assoc])
        have h3 := Lib.hid h2
        have k3 := Lib.hid (kw.trans k2)
        clear h2 k2 cN hA a0 a1 h kw hc
        go_wp2_with fail
        go_roundg (gk - 1)
        case measure => omega
        case rel => exact ⟨K + 1, (c ++ m) ++ n0, by go_num, by omega, hc2, h3, k3⟩
    · obtain rfl : K = l.length := by omega
      rw [sep_end, ByteArray.append_empty] at hc
      subst hc
      have fin := Lib.hid (hR.out.out _ h kw)
      clear hR
      go_wp2_with fail
      first | refine bodyPost_ret ?_ rfl fin.out | refine bodyPost_end ?_ rfl fin.out
      simp [results, Tryz.results183, go_sem]
set_option maxRecDepth 100000 in
set_option maxHeartbeats 1000000 in
theorem listw_calls (B b : Nat) (x : ByteArray) (l : List Wr) (v : Value) (W0 : World) (w : World) (h : Wld B b x w) (hBw : B ≤ w.heap.size) (h0 : Below W0.heap.size W0 w) (hB0 : W0.heap.size ≤ B) (hr : RdW W0 v l) (hl : l.length ≤ maxLen) (hz : x.size + (wrs tComma l).size ≤ 1000000000) (R : Ending → World → Prop)
    (hR : Hid (∀ w', Wld B b (x ++ wrs tComma l) w' → Wk B b w w' → R (.returned (.tuple #[])) w')) : Calls Tryz.prog 117 #[.pointer (some ⟨b, 0, none⟩), v, .func (.func 118) #[.pointer (some ⟨b, 0, none⟩)] #[]] w R := by
  obtain ⟨A, cp, rfl, -, -⟩ := hr.op
  go_enter Tryz.func117, Tryz.ntmps117
  go_wp2_with fail
  refine sepw_calls B b x tComma l (.slice A l.length cp) W0 w h hBw h0 hB0 hr hl hz _ (Lib.hid fun w1 h1 k1 => ?_)
  have fin := Lib.hid (hR.out _ h1 k1)
  clear hR h1 k1
  go_wp2_with fail
  first | refine bodyPost_ret ?_ rfl fin.out | refine bodyPost_end ?_ rfl fin.out
  simp [results, Tryz.results117, go_sem]
end Go.Proofs.YtbochlbgjnmgjaaGreat.Unp

/- Layer 17, the code: labels, coarse views, marks. -/
set_option maxRecDepth 100000
set_option linter.unusedVariables false
namespace Go.Proofs.YtbochlbgjnmgjaaGreat.Unp
open Go.RowKit Go.Lib Go.Proofs.YtbochlbgjnmgjaaGreat.Nam Go.Proofs.YtbochlbgjnmgjaaGreat.Lat Go.Proofs.YtbochlbgjnmgjaaGreat.Kin Go.Proofs.YtbochlbgjnmgjaaGreat.Dig

set_option maxRecDepth 100000 in
set_option maxHeartbeats 2000000 in
theorem wlabel_calls (B b : Nat) (x : ByteArray) (l : List Wr) (v : Value) (W0 : World) (w : World) (h : Wld B b x w) (hBw : B ≤ w.heap.size) (h0 : Below W0.heap.size W0 w) (hB0 : W0.heap.size ≤ B) (hr : RdW W0 v l) (hl : l.length ≤ maxLen) (hz : x.size + (lblT l).size ≤ 1000000000) (R : Ending → World → Prop)
    (hR : Hid (∀ w', Wld B b (x ++ lblT l) w' → Wk B b w w' → R (.returned (.tuple #[])) w')) : Calls Tryz.prog 234 #[.pointer (some ⟨b, 0, none⟩), v] w R := by
  obtain ⟨A, cp, rfl, hlc, -⟩ := hr.op
  have hll : l.length ≤ 9223372036854775807 := hl
  by_cases he : l = []
  · subst he
    have hR2 : Hid (∀ w', Wld B b x w' → Wk B b w w' → R (.returned (.tuple #[])) w') := Lib.hid fun w' a c => hR.out w' (by show Wld B b (x ++ ByteArray.empty) w'; rw [ByteArray.append_empty]; exact a) c
    clear hR
    have kw := Wk.refl B b w
    have hR := hR2
    clear hR2
    simp only [List.length_nil]
    go_enter Tryz.func234, Tryz.ntmps234
    have fin := Lib.hid (hR.out _ h kw)
    clear hR
    go_wp2_with fail
    first | refine bodyPost_ret ?_ rfl fin.out | refine bodyPost_end ?_ rfl fin.out
    simp [results, Tryz.results234, go_sem]
  · have e1 : lblT l = tAt ++ wrs tPlus l := by unfold lblT; rw [if_neg he]
    rw [e1] at hR hz
    clear e1
    have l0 : 0 < l.length := List.length_pos_iff.2 he
    have i0 : (0 : Int) < (l.length : Int) := by omega
    rw [ByteArray.size_append] at hz
    have eA : tAt.size = 2 := rfl
    have hBV := hBw
    have kw := Wk.refl B b w
    replace hR := Lib.hid hR
    clear he
    go_enter Tryz.func234, Tryz.ntmps234
    have hK := heap_alloc_new w (.cells #[.string tAt] 9)
    have cU := Lib.hid fun R hR => putx_calls B b (x) [tAt] (tAt) (by simp only [catT, ByteArray.append_empty, ByteArray.append_assoc]) w.heap.size (w.alloc (.cells #[.string tAt] 9)) (h.alloc _) hK (by have := h.lt; omega) (by omega) (by simp only [List.length_cons, List.length_nil]; omega) R (by simp only [alz]; omega) hR
    replace kw := kw.alloc hBw (.cells #[.string tAt] 9)
    clear hK
    go_wp2_with fail
    refine cU.out _ (Lib.hid fun w1 h2 k2 => ?_)
    clear cU h
    replace kw := kw.trans k2
    have hBV := Nat.le_trans hBw kw.m.size
    have h := h2
    clear h2 k2
    have cS := Lib.hid fun R hR => sepw_calls B b (x ++ tAt) tPlus l (.slice A l.length cp) W0 w1 h hBV (h0.trans (kw.m.mono hB0)) hB0 hr hl (by rw [ByteArray.size_append]; omega) R hR
    have hmf : ∀ (fn : Fn) (first cap : Array Value) (w : World), (Instr.makeFunc fn first cap).run Tryz.prog w = .ok (.func fn first cap) w := fun _ _ _ _ => rfl
    clear i0
    go_wp2_with fail
    refine cS.out _ (Lib.hid fun w2 h2 k2 => ?_)
    have fin := Lib.hid (hR.out.out _ (by rw [← ByteArray.append_assoc]; exact h2) (kw.trans k2))
    clear hR h2 k2 cS h kw
    go_wp2_with fail
    first | refine bodyPost_ret ?_ rfl fin.out | refine bodyPost_end ?_ rfl fin.out
    simp [results, Tryz.results234, go_sem]
set_option maxRecDepth 100000 in
set_option maxHeartbeats 4000000 in
theorem wcoarse_calls (B b : Nat) (x : ByteArray) (k n a : Int) (l : List Wr) (v : Value) (W0 : World) (w : World) (h : Wld B b x w) (hBw : B ≤ w.heap.size) (h0 : Below W0.heap.size W0 w) (hB0 : W0.heap.size ≤ B) (hr : RdW W0 v l) (hl : l.length ≤ maxLen) (hn : I64 n) (hz : x.size + (coaT k n ++ lblT l).size ≤ 1000000000) (R : Ending → World → Prop)
    (hR : Hid (∀ w', Wld B b (x ++ (coaT k n ++ lblT l)) w' → Wk B b w w' → R (.returned (.tuple #[])) w')) : Calls Tryz.prog 235 #[.pointer (some ⟨b, 0, none⟩), .agg #[.int .i64 k, .int .i64 n, .int .i64 a, v]] w R := by
  obtain ⟨A, cp, rfl, hlc, -⟩ := hr.op
  have hlt := h.lt
  rw [ByteArray.size_append] at hz
  have eF : tFloor.size = 8 := rfl
  have eG : tFirst.size = 8 := rfl
  have eH : tCount.size = 7 := rfl
  have eR : tRpar.size = 1 := rfl
  have pz := put_sz hn
  have hA := heap_alloc_new w (.cells #[.int .i64 k, .int .i64 n, .int .i64 a, .slice A l.length cp] 73)
  have kw := (Wk.refl B b w).alloc hBw (.cells #[.int .i64 k, .int .i64 n, .int .i64 a, .slice A l.length cp] 73)
  replace h := h.alloc (.cells #[.int .i64 k, .int .i64 n, .int .i64 a, .slice A l.length cp] 73)
  have hBV : B ≤ (w.alloc (.cells #[.int .i64 k, .int .i64 n, .int .i64 a, .slice A l.length cp] 73)).heap.size := by rw [alz]; omega
  have qb : w.heap.size ≠ b := by have := hlt; omega
  replace hR := Lib.hid hR
  go_enter Tryz.func235, Tryz.ntmps235
  go_upto_region 1 with fail
  generalize w.alloc (.cells #[.int .i64 k, .int .i64 n, .int .i64 a, .slice A l.length cp] 73) = V at *
  generalize w.heap.size = P at hA qb ⊢
  by_cases h1 : k = 1
  · subst h1
    have q : coaT 1 n = tFloor ++ putS n ++ tRpar := rfl
    rw [q] at hR hz
    clear q
    rw [ByteArray.size_append, ByteArray.size_append] at hz
    have cD := Lib.hid fun R hR => Dig.put_calls n hn.1 hn.2 V R hR
    have a0 := (Lib.cell_of_heap hA 0).trans rfl
    have a1 := (Lib.cell_of_heap hA 1).trans rfl
    go_wp2_with fail
    refine cD.out _ (Lib.hid fun w1 m1 => ?_)
    clear cD a0 a1
    replace hA := (m1.block _ (blt hA)).trans hA
    replace h := h.below m1
    replace kw := kw.below hBw m1
    replace hBV := Nat.le_trans hBw kw.m.size
    clear m1
    generalize putS n = N at *
    have hK := heap_alloc_new w1 (.cells #[.string tFloor, .string N, .string tRpar] 9)
    have cU := Lib.hid fun R hR => putx_calls B b (x) [tFloor, N, tRpar] (tFloor ++ N ++ tRpar) (by simp only [catT, ByteArray.append_empty, ByteArray.append_assoc]) w1.heap.size (w1.alloc (.cells #[.string tFloor, .string N, .string tRpar] 9)) (h.alloc _) hK (by have := h.lt; omega) (by rw [ByteArray.size_append, ByteArray.size_append]; omega) (by simp only [List.length_cons, List.length_nil]; omega) R (by simp only [alz]; omega) hR
    replace hA := ((alB _ (.cells #[.string tFloor, .string N, .string tRpar] 9)).block _ (blt hA)).trans hA
    replace kw := kw.alloc hBw (.cells #[.string tFloor, .string N, .string tRpar] 9)
    clear hK
    go_wp2_with fail
    refine cU.out _ (Lib.hid fun w2 h2 k2 => ?_)
    clear cU h
    replace hA := k2.box hA qb (by decide)
    replace kw := kw.trans k2
    have hBV := Nat.le_trans hBw kw.m.size
    have h := h2
    clear h2 k2
    have cL := Lib.hid fun R hR => wlabel_calls B b (x ++ (tFloor ++ N ++ tRpar)) l (.slice A l.length cp) W0 w2 h hBV (h0.trans (kw.m.mono hB0)) hB0 hr hl (by simp only [ByteArray.size_append]; omega) R hR
    have a0 := (Lib.cell_of_heap hA 0).trans rfl
    have a3 := (Lib.cell_of_heap hA 3).trans rfl
    go_wp2_with fail
    refine cL.out _ (Lib.hid fun w9 h9 k9 => ?_)
    have fin := Lib.hid (hR.out.out _ (by rw [ByteArray.append_assoc] at h9; exact h9) (kw.trans k9))
    clear hR h9 k9 cL h kw
    go_wp2_with fail
    first | refine bodyPost_ret ?_ rfl fin.out | refine bodyPost_end ?_ rfl fin.out
    simp [results, Tryz.results235, go_sem]
  by_cases h2 : k = 2
  · subst h2
    have q : coaT 2 n = tFirst ++ putS n ++ tRpar := rfl
    rw [q] at hR hz
    clear q
    rw [ByteArray.size_append, ByteArray.size_append] at hz
    have cD := Lib.hid fun R hR => Dig.put_calls n hn.1 hn.2 V R hR
    have a0 := (Lib.cell_of_heap hA 0).trans rfl
    have a1 := (Lib.cell_of_heap hA 1).trans rfl
    go_wp2_with fail
    refine cD.out _ (Lib.hid fun w1 m1 => ?_)
    clear cD a0 a1
    replace hA := (m1.block _ (blt hA)).trans hA
    replace h := h.below m1
    replace kw := kw.below hBw m1
    replace hBV := Nat.le_trans hBw kw.m.size
    clear m1
    generalize putS n = N at *
    have hK := heap_alloc_new w1 (.cells #[.string tFirst, .string N, .string tRpar] 9)
    have cU := Lib.hid fun R hR => putx_calls B b (x) [tFirst, N, tRpar] (tFirst ++ N ++ tRpar) (by simp only [catT, ByteArray.append_empty, ByteArray.append_assoc]) w1.heap.size (w1.alloc (.cells #[.string tFirst, .string N, .string tRpar] 9)) (h.alloc _) hK (by have := h.lt; omega) (by rw [ByteArray.size_append, ByteArray.size_append]; omega) (by simp only [List.length_cons, List.length_nil]; omega) R (by simp only [alz]; omega) hR
    replace hA := ((alB _ (.cells #[.string tFirst, .string N, .string tRpar] 9)).block _ (blt hA)).trans hA
    replace kw := kw.alloc hBw (.cells #[.string tFirst, .string N, .string tRpar] 9)
    clear hK
    go_wp2_with fail
    refine cU.out _ (Lib.hid fun w2 h2 k2 => ?_)
    clear cU h
    replace hA := k2.box hA qb (by decide)
    replace kw := kw.trans k2
    have hBV := Nat.le_trans hBw kw.m.size
    have h := h2
    clear h2 k2
    have cL := Lib.hid fun R hR => wlabel_calls B b (x ++ (tFirst ++ N ++ tRpar)) l (.slice A l.length cp) W0 w2 h hBV (h0.trans (kw.m.mono hB0)) hB0 hr hl (by simp only [ByteArray.size_append]; omega) R hR
    have a0 := (Lib.cell_of_heap hA 0).trans rfl
    have a3 := (Lib.cell_of_heap hA 3).trans rfl
    go_wp2_with fail
    refine cL.out _ (Lib.hid fun w9 h9 k9 => ?_)
    have fin := Lib.hid (hR.out.out _ (by rw [ByteArray.append_assoc] at h9; exact h9) (kw.trans k9))
    clear hR h9 k9 cL h kw
    go_wp2_with fail
    first | refine bodyPost_ret ?_ rfl fin.out | refine bodyPost_end ?_ rfl fin.out
    simp [results, Tryz.results235, go_sem]
  by_cases h3 : k = 3
  · subst h3
    have q : coaT 3 n = tCount := rfl
    rw [q] at hR hz
    clear q
    have b0 := (Lib.cell_of_heap hA 0).trans rfl
    have hK := heap_alloc_new V (.cells #[.string tCount] 9)
    have cU := Lib.hid fun R hR => putx_calls B b (x) [tCount] (tCount) (by simp only [catT, ByteArray.append_empty, ByteArray.append_assoc]) V.heap.size (V.alloc (.cells #[.string tCount] 9)) (h.alloc _) hK (by have := h.lt; omega) (by omega) (by simp only [List.length_cons, List.length_nil]; omega) R (by simp only [alz]; omega) hR
    replace hA := ((alB _ (.cells #[.string tCount] 9)).block _ (blt hA)).trans hA
    replace kw := kw.alloc hBw (.cells #[.string tCount] 9)
    clear hK
    go_wp2_with fail
    refine cU.out _ (Lib.hid fun w2 h2 k2 => ?_)
    clear cU h b0
    replace hA := k2.box hA qb (by decide)
    replace kw := kw.trans k2
    have hBV := Nat.le_trans hBw kw.m.size
    have h := h2
    clear h2 k2
    have cL := Lib.hid fun R hR => wlabel_calls B b (x ++ tCount) l (.slice A l.length cp) W0 w2 h hBV (h0.trans (kw.m.mono hB0)) hB0 hr hl (by rw [ByteArray.size_append]; omega) R hR
    have a0 := (Lib.cell_of_heap hA 0).trans rfl
    have a3 := (Lib.cell_of_heap hA 3).trans rfl
    go_wp2_with fail
    refine cL.out _ (Lib.hid fun w9 h9 k9 => ?_)
    have fin := Lib.hid (hR.out.out _ (by rw [ByteArray.append_assoc] at h9; exact h9) (kw.trans k9))
    clear hR h9 k9 cL h kw
    go_wp2_with fail
    first | refine bodyPost_ret ?_ rfl fin.out | refine bodyPost_end ?_ rfl fin.out
    simp [results, Tryz.results235, go_sem]
  have q : coaT k n = ByteArray.empty := by unfold coaT; rw [if_neg h1, if_neg h2, if_neg h3]
  rw [q] at hR hz
  clear q
  have q1 : (k == 1) = false := by simpa using h1
  have q2 : (k == 2) = false := by simpa using h2
  have q3 : (k == 3) = false := by simpa using h3
  clear h1 h2 h3
  have eE : ByteArray.empty.size = 0 := rfl
  have cL := Lib.hid fun R hR => wlabel_calls B b x l (.slice A l.length cp) W0 V h hBV (h0.trans (kw.m.mono hB0)) hB0 hr hl (by omega) R hR
  have a0 := (Lib.cell_of_heap hA 0).trans rfl
  have a3 := (Lib.cell_of_heap hA 3).trans rfl
  go_wp2_with fail
  refine cL.out _ (Lib.hid fun w9 h9 k9 => ?_)
  have fin := Lib.hid (hR.out.out _ (by rw [ByteArray.empty_append]; exact h9) (kw.trans k9))
  clear hR h9 k9 cL h kw
  go_wp2_with fail
  first | refine bodyPost_ret ?_ rfl fin.out | refine bodyPost_end ?_ rfl fin.out
  simp [results, Tryz.results235, go_sem]
set_option maxRecDepth 100000 in
set_option maxHeartbeats 4000000 in
theorem wmarks_calls (B b : Nat) (x : ByteArray) (p : PH) (t : TH) (lv cv nv pv : Value) (W0 : World) (w : World) (h : Wld B b x w) (hBw : B ≤ w.heap.size) (h0 : Below W0.heap.size W0 w) (hB0 : W0.heap.size ≤ B) (hl : RdW W0 lv p.label) (hc : RdW W0 cv p.cl) (hnv : ∃ A n c, nv = .slice A n c) (hpv : ∃ A n c, pv = .slice A n c) (hll : p.label.length ≤ maxLen) (hcl : p.cl.length ≤ maxLen) (hw : I64 p.wide) (hn : I64 p.cn) (hz : x.size + (mrkT p).size ≤ 1000000000) (R : Ending → World → Prop)
    (hR : Hid (∀ w', Wld B b (x ++ mrkT p) w' → Wk B b w w' → R (.returned (.tuple #[])) w')) : Calls Tryz.prog 209 #[.pointer (some ⟨b, 0, none⟩), .agg #[.string p.name, .int .i64 p.at_, .bool p.bare, lv, .int .i64 p.wide, .int .i64 p.ck, .int .i64 p.cn, .int .i64 p.cat, cv, .int .i64 t.kind, .int .i64 t.at_, .int .i64 t.lo, .int .i64 t.hi, .int .i64 t.most, nv, pv, .string t.name, .int .i64 t.nat]] w R := by
  obtain ⟨L1, d1, rfl, -, -⟩ := hl.op
  obtain ⟨L2, d2, rfl, -, -⟩ := hc.op
  obtain ⟨N1, N2, N3, rfl⟩ := hnv
  obtain ⟨M1, M2, M3, rfl⟩ := hpv
  have hlt := h.lt
  have hm : mrkT p = lblT p.label ++ (widT p.wide ++ (coaT p.ck p.cn ++ lblT p.cl)) := by unfold mrkT; simp only [ByteArray.append_assoc]
  rw [hm] at hR hz
  clear hm
  rw [ByteArray.size_append, ByteArray.size_append] at hz
  have hA := heap_alloc_new w (.cells #[.string p.name, .int .i64 p.at_, .bool p.bare, .slice L1 p.label.length d1, .int .i64 p.wide, .int .i64 p.ck, .int .i64 p.cn, .int .i64 p.cat, .slice L2 p.cl.length d2, .int .i64 t.kind, .int .i64 t.at_, .int .i64 t.lo, .int .i64 t.hi, .int .i64 t.most, .slice N1 N2 N3, .slice M1 M2 M3, .string t.name, .int .i64 t.nat] 75)
  have kw := (Wk.refl B b w).alloc hBw (.cells #[.string p.name, .int .i64 p.at_, .bool p.bare, .slice L1 p.label.length d1, .int .i64 p.wide, .int .i64 p.ck, .int .i64 p.cn, .int .i64 p.cat, .slice L2 p.cl.length d2, .int .i64 t.kind, .int .i64 t.at_, .int .i64 t.lo, .int .i64 t.hi, .int .i64 t.most, .slice N1 N2 N3, .slice M1 M2 M3, .string t.name, .int .i64 t.nat] 75)
  replace h := h.alloc (.cells #[.string p.name, .int .i64 p.at_, .bool p.bare, .slice L1 p.label.length d1, .int .i64 p.wide, .int .i64 p.ck, .int .i64 p.cn, .int .i64 p.cat, .slice L2 p.cl.length d2, .int .i64 t.kind, .int .i64 t.at_, .int .i64 t.lo, .int .i64 t.hi, .int .i64 t.most, .slice N1 N2 N3, .slice M1 M2 M3, .string t.name, .int .i64 t.nat] 75)
  have hBV : B ≤ (w.alloc (.cells #[.string p.name, .int .i64 p.at_, .bool p.bare, .slice L1 p.label.length d1, .int .i64 p.wide, .int .i64 p.ck, .int .i64 p.cn, .int .i64 p.cat, .slice L2 p.cl.length d2, .int .i64 t.kind, .int .i64 t.at_, .int .i64 t.lo, .int .i64 t.hi, .int .i64 t.most, .slice N1 N2 N3, .slice M1 M2 M3, .string t.name, .int .i64 t.nat] 75)).heap.size := by rw [alz]; omega
  have qb : w.heap.size ≠ b := by have := hlt; omega
  replace hR := Lib.hid hR
  go_enter Tryz.func209, Tryz.ntmps209
  go_upto_region 1 with fail
  generalize w.alloc (.cells #[.string p.name, .int .i64 p.at_, .bool p.bare, .slice L1 p.label.length d1, .int .i64 p.wide, .int .i64 p.ck, .int .i64 p.cn, .int .i64 p.cat, .slice L2 p.cl.length d2, .int .i64 t.kind, .int .i64 t.at_, .int .i64 t.lo, .int .i64 t.hi, .int .i64 t.most, .slice N1 N2 N3, .slice M1 M2 M3, .string t.name, .int .i64 t.nat] 75) = V at *
  generalize w.heap.size = P at hA qb ⊢
  have cL := Lib.hid fun R hR => wlabel_calls B b x p.label (.slice L1 p.label.length d1) W0 V h hBV (h0.trans (kw.m.mono hB0)) hB0 hl hll (by omega) R hR
  have a3 := (Lib.cell_of_heap hA 3).trans rfl
  go_wp2_with fail
  refine cL.out _ (Lib.hid fun w1 h2 k2 => ?_)
  clear cL a3 h
  replace hA := k2.box hA qb (by decide)
  replace kw := kw.trans k2
  have hBV := Nat.le_trans hBw kw.m.size
  have h := h2
  clear h2 k2
  have cC := fun (X : ByteArray) (W : World) (e : X = x ++ lblT p.label ++ widT p.wide) (hW : Wld B b X W) (kW : Wk B b w W) => Lib.hid fun R hR => wcoarse_calls B b X p.ck p.cn p.cat p.cl (.slice L2 p.cl.length d2) W0 W hW (Nat.le_trans hBw kW.m.size) (h0.trans (kW.m.mono hB0)) hB0 hc hcl hn (by rw [e, ByteArray.size_append, ByteArray.size_append]; omega) R hR
  by_cases hw0 : p.wide = 0
  · have q : widT p.wide = ByteArray.empty := by unfold widT; rw [if_pos hw0]
    rw [q] at hR hz cC
    clear q
    have q0 : (p.wide != 0) = false := by simpa using hw0
    clear hw0
    have hR2 : Hid (∀ w', Wld B b (x ++ lblT p.label ++ (coaT p.ck p.cn ++ lblT p.cl)) w' → Wk B b w w' → R (.returned (.tuple #[])) w') := Lib.hid fun w' a c => hR.out.out w' (by rw [ByteArray.empty_append, ← ByteArray.append_assoc]; exact a) c
    clear hR
    have hR := Lib.hid hR2
    clear hR2
    have cD := cC (x ++ lblT p.label) w1 (by rw [ByteArray.append_empty]) h kw
    have a4 := (Lib.cell_of_heap hA 4).trans rfl
    have a5 := (Lib.cell_of_heap hA 5).trans rfl
    have a6 := (Lib.cell_of_heap hA 6).trans rfl
    have a7 := (Lib.cell_of_heap hA 7).trans rfl
    have a8 := (Lib.cell_of_heap hA 8).trans rfl
    clear cC
    go_wp2_with fail
    refine cD.out _ (Lib.hid fun w9 h9 k9 => ?_)
    have fin := Lib.hid (hR.out.out _ (by simp only [ByteArray.append_assoc] at h9 ⊢; exact h9) (kw.trans k9))
    clear hR h9 k9 cD h kw
    go_wp2_with fail
    first | refine bodyPost_ret ?_ rfl fin.out | refine bodyPost_end ?_ rfl fin.out
    simp [results, Tryz.results209, go_sem]
  · have q : widT p.wide = tHash ++ putS p.wide := by unfold widT; rw [if_neg hw0]
    rw [q] at hR hz cC
    clear q
    have q0 : (p.wide != 0) = true := by simpa using hw0
    clear hw0
    have eH : tHash.size = 2 := rfl
    rw [ByteArray.size_append] at hz
    have cD := Lib.hid fun R hR => Dig.put_calls p.wide hw.1 hw.2 w1 R hR
    have a4 := (Lib.cell_of_heap hA 4).trans rfl
    go_wp2_with fail
    refine cD.out _ (Lib.hid fun w2 m1 => ?_)
    clear cD a4
    replace hA := (m1.block _ (blt hA)).trans hA
    replace h := h.below m1
    replace kw := kw.below hBw m1
    replace hBV := Nat.le_trans hBw kw.m.size
    clear m1
    generalize putS p.wide = N at *
    have hK := heap_alloc_new w2 (.cells #[.string tHash, .string N] 9)
    have cU := Lib.hid fun R hR => putx_calls B b (x ++ lblT p.label) [tHash, N] (tHash ++ N) (by simp only [catT, ByteArray.append_empty, ByteArray.append_assoc]) w2.heap.size (w2.alloc (.cells #[.string tHash, .string N] 9)) (h.alloc _) hK (by have := h.lt; omega) (by simp only [ByteArray.size_append]; omega) (by simp only [List.length_cons, List.length_nil]; omega) R (by simp only [alz]; omega) hR
    replace hA := ((alB _ (.cells #[.string tHash, .string N] 9)).block _ (blt hA)).trans hA
    replace kw := kw.alloc hBw (.cells #[.string tHash, .string N] 9)
    clear hK
    go_wp2_with fail
    refine cU.out _ (Lib.hid fun w3 h2 k2 => ?_)
    clear cU h
    replace hA := k2.box hA qb (by decide)
    replace kw := kw.trans k2
    have hBV := Nat.le_trans hBw kw.m.size
    have h := h2
    clear h2 k2
    have cD := cC (x ++ lblT p.label ++ (tHash ++ N)) w3 rfl h kw
    have a4 := (Lib.cell_of_heap hA 4).trans rfl
    have a5 := (Lib.cell_of_heap hA 5).trans rfl
    have a6 := (Lib.cell_of_heap hA 6).trans rfl
    have a7 := (Lib.cell_of_heap hA 7).trans rfl
    have a8 := (Lib.cell_of_heap hA 8).trans rfl
    clear cC
    go_wp2_with fail
    refine cD.out _ (Lib.hid fun w9 h9 k9 => ?_)
    have fin := Lib.hid (hR.out.out _ (by simp only [ByteArray.append_assoc] at h9 ⊢; exact h9) (kw.trans k9))
    clear hR h9 k9 cD h kw
    go_wp2_with fail
    first | refine bodyPost_ret ?_ rfl fin.out | refine bodyPost_end ?_ rfl fin.out
    simp [results, Tryz.results209, go_sem]
end Go.Proofs.YtbochlbgjnmgjaaGreat.Unp
