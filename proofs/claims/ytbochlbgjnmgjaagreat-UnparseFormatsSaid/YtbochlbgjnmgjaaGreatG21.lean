import Derived.Test.YtbochlbgjnmgjaaGreatG20
import Derived.Test.YtbochlbgjnmgjaaGreatG17
/- Layer 17: the code writes a schema. -/
set_option maxRecDepth 100000
set_option linter.unusedVariables false
namespace Go.Proofs.YtbochlbgjnmgjaaGreat.Unp
open Go.RowKit Go.Lib Go.Proofs.YtbochlbgjnmgjaaGreat.Nam Go.Proofs.YtbochlbgjnmgjaaGreat.Lat Go.Proofs.YtbochlbgjnmgjaaGreat.Kin Go.Proofs.YtbochlbgjnmgjaaGreat.Dig

theorem named_alloc (ρ : Operand → Value) (W : World) (o : Oper) (h : o.op = .alloc 67) : (execOp ρ o).run Tryz.prog W = .ok (.value (ptA W.heap.size)) (W.alloc (.cells #[.string ⟨#[]⟩, .int .i64 0, .int .i64 0, .int .i64 0, .int .i64 0, .int .i64 0, .int .i64 0, .slice none 0 0, .slice none 0 0, .string ⟨#[]⟩, .int .i64 0] 67)) := by
  simp [execOp, h, go_sem, ptA]
theorem namsT_drop {l : List Nd} {i : Nat} (h : i < l.length) : namsT (l.drop i) = namT (nN l i) ++ namsT (l.drop (i + 1)) := by
  rw [List.drop_eq_getElem_cons h, nN_get h]
  rfl
theorem isF_ord : ∀ (args : Array Value) (w : World), (callFunc 120 args).run Tryz.prog w = .ok (.enter 120 args) w := by
  intro args w
  unfold callFunc
  simp [go_sem, Tryz.func120]
  rfl
set_option maxRecDepth 100000 in
set_option maxHeartbeats 1000000 in
theorem ordw_calls (B b X : Nat) (x : ByteArray) (p : Pr) (w : World) (h : Wld B b x w) (hBw : B ≤ w.heap.size) (hX : w.heap[X]? = some (.cells #[.pointer (some ⟨b, 0, none⟩)] 88)) (hz : x.size + (ordT p).size ≤ 1000000000) (R : Ending → World → Prop)
    (hR : Hid (∀ w', Wld B b (x ++ ordT p) w' → Wk B b w w' → R (.returned (.tuple #[])) w')) : Calls Tryz.prog 120 #[.agg #[.string p.1.1, .int .i64 p.1.2, .string p.2.1, .int .i64 p.2.2], .pointer (some ⟨X, 0, none⟩)] w R := by
  have hlt := h.lt
  unfold ordT at hR hz
  (try simp only [ByteArray.size_append] at hz)
  have eL : tLt.size = 3 := rfl
  have hX2 := ((alB w (.cells #[.string p.1.1, .int .i64 p.1.2, .string p.2.1, .int .i64 p.2.2] 65)).block _ (blt hX)).trans hX
  have hA := heap_alloc_new w (.cells #[.string p.1.1, .int .i64 p.1.2, .string p.2.1, .int .i64 p.2.2] 65)
  have kw := (Wk.refl B b w).alloc hBw (.cells #[.string p.1.1, .int .i64 p.1.2, .string p.2.1, .int .i64 p.2.2] 65)
  replace h := h.alloc (.cells #[.string p.1.1, .int .i64 p.1.2, .string p.2.1, .int .i64 p.2.2] 65)
  have hBV : B ≤ (w.alloc (.cells #[.string p.1.1, .int .i64 p.1.2, .string p.2.1, .int .i64 p.2.2] 65)).heap.size := by rw [alz]; omega
  have qb : w.heap.size ≠ b := by have := hlt; omega
  clear hX
  go_enter Tryz.func120, Tryz.ntmps120
  go_upto_region 1 with fail
  generalize w.alloc (.cells #[.string p.1.1, .int .i64 p.1.2, .string p.2.1, .int .i64 p.2.2] 65) = V at *
  generalize w.heap.size = P at hA qb ⊢
  have a0 := (Lib.cell_of_heap hA 0).trans rfl
  have a2 := (Lib.cell_of_heap hA 2).trans rfl
  have x0 := (Lib.cell_of_heap hX2 0).trans rfl
  have hK := heap_alloc_new V (.cells #[.string p.1.1, .string tLt, .string p.2.1] 9)
  have cU := Lib.hid fun R hR => putx_calls B b (x) [p.1.1, tLt, p.2.1] (p.1.1 ++ tLt ++ p.2.1) (by simp only [catT, ByteArray.append_empty, ByteArray.append_assoc]) V.heap.size (V.alloc (.cells #[.string p.1.1, .string tLt, .string p.2.1] 9)) (h.alloc _) hK (by have := h.lt; omega) (by (try simp only [ByteArray.size_append]); omega) (by simp only [List.length_cons, List.length_nil]; omega) R (by simp only [alz]; omega) hR
  replace kw := kw.alloc hBw (.cells #[.string p.1.1, .string tLt, .string p.2.1] 9)
  clear hK
  go_wp2_with fail
  refine cU.out _ (Lib.hid fun w1 h2 k2 => ?_)
  clear cU h a0 a2 x0 hA hX2
  replace kw := kw.trans k2
  have hBV := Nat.le_trans hBw kw.m.size
  have h := h2
  clear h2 k2
  have fin := Lib.hid (hR.out _ h kw)
  clear hR
  go_wp2_with fail
  first | refine bodyPost_ret ?_ rfl fin.out | refine bodyPost_end ?_ rfl fin.out
  simp [results, Tryz.results120, go_sem]
set_option maxRecDepth 100000 in
set_option maxHeartbeats 2000000 in
theorem seppr_calls (B b : Nat) (x : ByteArray) (X : Nat) (m : ByteArray) (l : List Pr) (v : Value) (W0 : World) (w : World) (h : Wld B b x w) (hBw : B ≤ w.heap.size) (hX : w.heap[X]? = some (.cells #[.pointer (some ⟨b, 0, none⟩)] 88)) (hXb : X ≠ b) (h0 : Below W0.heap.size W0 w) (hB0 : W0.heap.size ≤ B) (hr : RdPr W0 v l) (hl : l.length ≤ maxLen) (hz : x.size + (sepT m ordT 0 l).size ≤ 1000000000) (R : Ending → World → Prop)
    (hR : Hid (∀ w', Wld B b (x ++ sepT m ordT 0 l) w' → Wk B b w w' → R (.returned (.tuple #[])) w')) : Calls Tryz.prog 184 #[.pointer (some ⟨b, 0, none⟩), .string m, v, .func (.func 120) #[] #[.pointer (some ⟨X, 0, none⟩)]] w R := by
  replace hl : l.length ≤ 9223372036854775807 := hl
  have isN := isF_ord
  obtain ⟨A, cp, rfl, hlc, hrd⟩ := RdPr.op hr
  have hS : x ++ sepT m ordT 0 l = x ++ sepT m ordT 0 (l.drop 0) := rfl
  have hz2 : (x ++ sepT m ordT 0 l).size ≤ 1000000000 := by rw [ByteArray.size_append]; exact hz
  generalize hT : x ++ sepT m ordT 0 l = T at *
  replace hT := Lib.hid hT
  replace hrd := Lib.hid hrd
  replace hR := Lib.hid hR
  replace hX := Lib.hid hX
  go_enter Tryz.func184, Tryz.ntmps184
  go_wp2_with fail
  go_loopg [12] l.length (fun g0 i wr => ∃ (K : Nat) (c : ByteArray), i = .int .i64 K ∧ K + g0 = l.length ∧ Hid (T = c ++ sepT m ordT K (l.drop K)) ∧ Hid (Wld B b c wr) ∧ Hid (Wk B b w wr))
  case atStart => exact ⟨0, x, rfl, by omega, Lib.hid hS, Lib.hid h, Lib.hid (Wk.refl B b w)⟩
  case round =>
    clear h hS
    obtain ⟨K, c, rfl, c1, hc, h, kw⟩ := hrel
    replace hc := hc.out
    replace h := h.out
    replace kw := kw.out
    have hBV := Nat.le_trans hBw kw.m.size
    by_cases hK : K < l.length
    · obtain ⟨g, o, rfl, hg, hca⟩ := hrd.out (by omega)
      have ca := hca K hK
      rw [sep_drop hK] at hc
      rw [pN_get hK] at ca
      generalize l[K] = n at *
      have hb := h0.trans (kw.m.mono hB0)
      have e0 := (hb.cell (p := ⟨g, o + K * 4, none⟩) hg).trans ca.1
      have e1 := (hb.cell (p := ⟨g, o + K * 4 + 1, none⟩) hg).trans ca.2.1
      have e2 := (hb.cell (p := ⟨g, o + K * 4 + 2, none⟩) hg).trans ca.2.2.1
      have e3 := (hb.cell (p := ⟨g, o + K * 4 + 3, none⟩) hg).trans ca.2.2.2
      have i0 : (0 : Int) ≤ (K : Int) := by omega
      have i1 : (K : Int) < (l.length : Int) := by omega
      have qb : wr.heap.size ≠ b := by have := h.lt; omega
      have hXr := kw.box hX.out hXb (by decide)
      have hA := heap_alloc_new wr (.cells #[.string n.1.1, .int .i64 n.1.2, .string n.2.1, .int .i64 n.2.2] 65)
      replace hXr := ((alB wr (.cells #[.string n.1.1, .int .i64 n.1.2, .string n.2.1, .int .i64 n.2.2] 65)).block _ (blt hXr)).trans hXr
      replace kw := kw.alloc hBw (.cells #[.string n.1.1, .int .i64 n.1.2, .string n.2.1, .int .i64 n.2.2] 65)
      replace h := h.alloc (.cells #[.string n.1.1, .int .i64 n.1.2, .string n.2.1, .int .i64 n.2.2] 65)
      replace hBV := Nat.le_trans hBw kw.m.size
      clear hca ca hb hg
      go_upto_region 3 with fail
      generalize wr.alloc (.cells #[.string n.1.1, .int .i64 n.1.2, .string n.2.1, .int .i64 n.2.2] 65) = V at *
      generalize wr.heap.size = P at *
      clear e0 e1 e2 e3
      by_cases hk : K = 0
      · have hk0 : K = 0 := hk
        subst hk0
        rw [if_pos rfl] at hc
        have hzc : c.size + (ordT n).size ≤ 1000000000 := by rw [hc, ByteArray.size_append, ByteArray.size_append] at hz2; omega
        replace hc := Lib.hid hc
        have cN := Lib.hid fun R hR => ordw_calls B b X c n V h hBV hXr hzc R hR
        have a0 := (Lib.cell_of_heap hA 0).trans rfl
        have a1 := (Lib.cell_of_heap hA 1).trans rfl
        have a2 := (Lib.cell_of_heap hA 2).trans rfl
        have a3 := (Lib.cell_of_heap hA 3).trans rfl
        clear h
        go_wp2_with fail
        refine cN.out _ (Lib.hid fun w2 h2 k2 => ?_)
        have hc2 := Lib.hid (show T = c ++ ordT n ++ sepT m ordT (0 + 1) (l.drop (0 + 1)) by rw [hc.out]; simp only [ByteArray.append_assoc])
        have h3 := Lib.hid h2
        have k3 := Lib.hid (kw.trans k2)
        clear h2 k2 cN hA a0 a1 a2 a3 kw hc hXr
        go_wp2_with fail
        go_roundg (gk - 1)
        case measure => omega
        case rel => exact ⟨0 + 1, c ++ ordT n, by go_num, by omega, hc2, h3, k3⟩
      · have i2 : (0 : Int) < (K : Int) := by omega
        rw [if_neg hk] at hc
        have hzc : c.size + m.size + (ordT n).size ≤ 1000000000 := by rw [hc, ByteArray.size_append, ByteArray.size_append, ByteArray.size_append] at hz2; omega
        replace hc := Lib.hid hc
        have hK := heap_alloc_new V (.cells #[.string m] 9)
        have cU := Lib.hid fun R hR => putx_calls B b (c) [m] (m) (by simp only [catT, ByteArray.append_empty, ByteArray.append_assoc]) V.heap.size (V.alloc (.cells #[.string m] 9)) (h.alloc _) hK (by have := h.lt; omega) (by omega) (by simp only [List.length_cons, List.length_nil]; omega) R (by simp only [alz]; omega) hR
        replace hA := ((alB _ (.cells #[.string m] 9)).block _ (blt hA)).trans hA
        replace hXr := ((alB _ (.cells #[.string m] 9)).block _ (blt hXr)).trans hXr
        replace kw := kw.alloc hBw (.cells #[.string m] 9)
        clear hK
        go_wp2_with fail
        refine cU.out _ (Lib.hid fun w1 h2 k2 => ?_)
        clear cU h
        replace hA := k2.box hA qb (by decide)
        replace hXr := k2.box hXr hXb (by decide)
        replace kw := kw.trans k2
        have hBV := Nat.le_trans hBw kw.m.size
        have h := h2
        clear h2 k2
        have cN := Lib.hid fun R hR => ordw_calls B b X (c ++ m) n w1 h hBV hXr (by rw [ByteArray.size_append]; exact hzc) R hR
        have a0 := (Lib.cell_of_heap hA 0).trans rfl
        have a1 := (Lib.cell_of_heap hA 1).trans rfl
        have a2 := (Lib.cell_of_heap hA 2).trans rfl
        have a3 := (Lib.cell_of_heap hA 3).trans rfl
        clear h
        go_wp2_with fail
        refine cN.out _ (Lib.hid fun w2 h2 k2 => ?_)
        have hc2 := Lib.hid (show T = (c ++ m) ++ ordT n ++ sepT m ordT (K + 1) (l.drop (K + 1)) by rw [hc.out]; simp only [ByteArray.append_assoc])
        have h3 := Lib.hid h2
        have k3 := Lib.hid (kw.trans k2)
        clear h2 k2 cN hA a0 a1 a2 a3 kw hc hXr
        go_wp2_with fail
        go_roundg (gk - 1)
        case measure => omega
        case rel => exact ⟨K + 1, (c ++ m) ++ ordT n, by go_num, by omega, hc2, h3, k3⟩
    · obtain rfl : K = l.length := by omega
      rw [sep_end, ByteArray.append_empty] at hc
      subst hc
      have fin := Lib.hid (hR.out.out _ h kw)
      clear hR
      go_wp2_with fail
      first | refine bodyPost_ret ?_ rfl fin.out | refine bodyPost_end ?_ rfl fin.out
      simp [results, Tryz.results184, go_sem]
set_option maxRecDepth 100000 in
set_option maxHeartbeats 1000000 in
theorem listpr_calls (B b : Nat) (x : ByteArray) (X : Nat) (l : List Pr) (v : Value) (W0 : World) (w : World) (h : Wld B b x w) (hBw : B ≤ w.heap.size) (hX : w.heap[X]? = some (.cells #[.pointer (some ⟨b, 0, none⟩)] 88)) (hXb : X ≠ b) (h0 : Below W0.heap.size W0 w) (hB0 : W0.heap.size ≤ B) (hr : RdPr W0 v l) (hl : l.length ≤ maxLen) (hz : x.size + (sepT tComma ordT 0 l).size ≤ 1000000000) (R : Ending → World → Prop)
    (hR : Hid (∀ w', Wld B b (x ++ sepT tComma ordT 0 l) w' → Wk B b w w' → R (.returned (.tuple #[])) w')) : Calls Tryz.prog 119 #[.pointer (some ⟨b, 0, none⟩), v, .func (.func 120) #[] #[.pointer (some ⟨X, 0, none⟩)]] w R := by
  obtain ⟨A, cp, rfl, -, -⟩ := RdPr.op hr
  go_enter Tryz.func119, Tryz.ntmps119
  go_wp2_with fail
  refine seppr_calls B b x X tComma l (.slice A l.length cp) W0 w h hBw hX hXb h0 hB0 hr hl hz _ (Lib.hid fun w1 h1 k1 => ?_)
  have fin := Lib.hid (hR.out _ h1 k1)
  clear hR h1 k1
  go_wp2_with fail
  first | refine bodyPost_ret ?_ rfl fin.out | refine bodyPost_end ?_ rfl fin.out
  simp [results, Tryz.results119, go_sem]
set_option maxRecDepth 100000 in
set_option maxHeartbeats 4000000 in
theorem wschema_calls (B b : Nat) (x : ByteArray) (s : Sc) (gs : GoodS s) (lv ov tv nv pv : Value) (W0 : World) (w : World) (h : Wld B b x w) (hBw : B ≤ w.heap.size) (h0 : Below W0.heap.size W0 w) (hB0 : W0.heap.size ≤ B) (rd : RdSc W0 s lv ov tv nv pv) (hok : ∀ n ∈ s.2.2.1, okT n.2.1 n.2.2) (hokr : okT s.2.2.2.1 s.2.2.2.2) (hz : x.size + (schT s).size ≤ 1000000000) (R : Ending → World → Prop)
    (hR : Hid (∀ w', Wld B b (x ++ schT s) w' → Wk B b w w' → R (.returned (.tuple #[])) w')) : Calls Tryz.prog 53 #[.pointer (some ⟨b, 0, none⟩), scV s lv ov tv nv pv] w R := by
  obtain ⟨A1, c1, rfl, -, -⟩ := rd.l.op
  obtain ⟨A2, c2, rfl, -, -⟩ := RdPr.op rd.o
  obtain ⟨A3, c3, rfl, -, -⟩ := rd.t.op
  obtain ⟨N1, N3, rfl, -, -⟩ := rd.r.n.op
  obtain ⟨M1, M3, rfl, -⟩ := rd.r.p.sl
  have hlt := h.lt
  have htl : s.2.2.1.length ≤ 9223372036854775807 := gs.tl
  have e1 : tLevels.size = 8 := rfl
  have e2 : tOrder.size = 9 := rfl
  have e3 : tRbrace.size = 1 := rfl
  have e4 : tRoot.size = 6 := rfl
  have e5 : tType.size = 6 := rfl
  have e6 : tEq.size = 3 := rfl
  have hsS : schT s = tLevels ++ (wrs tComma s.1 ++ (tOrder ++ (sepT tComma ordT 0 s.2.1 ++ (tRbrace ++ (namsT s.2.2.1 ++ (tRoot ++ txT s.2.2.2.1 s.2.2.2.2)))))) := by unfold schT; simp only [ByteArray.append_assoc]
  rw [hsS] at hR hz
  clear hsS
  simp only [ByteArray.size_append] at hz
  have hX := heap_alloc_new w (.cells #[.pointer (some ⟨b, 0, none⟩)] 88)
  have zX : (w.alloc (.cells #[.pointer (some ⟨b, 0, none⟩)] 88)).heap.size = w.heap.size + 1 := by simp
  have hA := heap_alloc_new (w.alloc (.cells #[.pointer (some ⟨b, 0, none⟩)] 88)) (.cells #[.slice A1 s.1.length c1, .slice A2 s.2.1.length c2, .slice A3 s.2.2.1.length c3, .int .i64 s.2.2.2.1.kind, .int .i64 s.2.2.2.1.at_, .int .i64 s.2.2.2.1.lo, .int .i64 s.2.2.2.1.hi, .int .i64 s.2.2.2.1.most, .slice N1 s.2.2.2.1.names.length N3, .slice M1 s.2.2.2.2.len M3, .string s.2.2.2.1.name, .int .i64 s.2.2.2.1.nat] 32)
  rw [zX] at hA
  replace hX := ((alB (w.alloc (.cells #[.pointer (some ⟨b, 0, none⟩)] 88)) (.cells #[.slice A1 s.1.length c1, .slice A2 s.2.1.length c2, .slice A3 s.2.2.1.length c3, .int .i64 s.2.2.2.1.kind, .int .i64 s.2.2.2.1.at_, .int .i64 s.2.2.2.1.lo, .int .i64 s.2.2.2.1.hi, .int .i64 s.2.2.2.1.most, .slice N1 s.2.2.2.1.names.length N3, .slice M1 s.2.2.2.2.len M3, .string s.2.2.2.1.name, .int .i64 s.2.2.2.1.nat] 32)).block _ (blt hX)).trans hX
  have kw := ((Wk.refl B b w).alloc hBw (.cells #[.pointer (some ⟨b, 0, none⟩)] 88)).alloc hBw (.cells #[.slice A1 s.1.length c1, .slice A2 s.2.1.length c2, .slice A3 s.2.2.1.length c3, .int .i64 s.2.2.2.1.kind, .int .i64 s.2.2.2.1.at_, .int .i64 s.2.2.2.1.lo, .int .i64 s.2.2.2.1.hi, .int .i64 s.2.2.2.1.most, .slice N1 s.2.2.2.1.names.length N3, .slice M1 s.2.2.2.2.len M3, .string s.2.2.2.1.name, .int .i64 s.2.2.2.1.nat] 32)
  replace h := (h.alloc (.cells #[.pointer (some ⟨b, 0, none⟩)] 88)).alloc (.cells #[.slice A1 s.1.length c1, .slice A2 s.2.1.length c2, .slice A3 s.2.2.1.length c3, .int .i64 s.2.2.2.1.kind, .int .i64 s.2.2.2.1.at_, .int .i64 s.2.2.2.1.lo, .int .i64 s.2.2.2.1.hi, .int .i64 s.2.2.2.1.most, .slice N1 s.2.2.2.1.names.length N3, .slice M1 s.2.2.2.2.len M3, .string s.2.2.2.1.name, .int .i64 s.2.2.2.1.nat] 32)
  have hBV : B ≤ ((w.alloc (.cells #[.pointer (some ⟨b, 0, none⟩)] 88)).alloc (.cells #[.slice A1 s.1.length c1, .slice A2 s.2.1.length c2, .slice A3 s.2.2.1.length c3, .int .i64 s.2.2.2.1.kind, .int .i64 s.2.2.2.1.at_, .int .i64 s.2.2.2.1.lo, .int .i64 s.2.2.2.1.hi, .int .i64 s.2.2.2.1.most, .slice N1 s.2.2.2.1.names.length N3, .slice M1 s.2.2.2.2.len M3, .string s.2.2.2.1.name, .int .i64 s.2.2.2.1.nat] 32)).heap.size := by rw [alz, alz]; omega
  have qx : w.heap.size ≠ b := by omega
  have qb : w.heap.size + 1 ≠ b := by omega
  replace hR := Lib.hid hR
  replace rd := Lib.hid rd
  replace gs := Lib.hid gs
  replace hok := Lib.hid hok
  replace hokr := Lib.hid hokr
  have hmf : ∀ (fn : Fn) (first cap : Array Value) (w : World), (Instr.makeFunc fn first cap).run Tryz.prog w = .ok (.func fn first cap) w := fun _ _ _ _ => rfl
  clear zX
  go_enter Tryz.func53, Tryz.ntmps53
  go_upto_region 1 with fail
  generalize (w.alloc (.cells #[.pointer (some ⟨b, 0, none⟩)] 88)).alloc (.cells #[.slice A1 s.1.length c1, .slice A2 s.2.1.length c2, .slice A3 s.2.2.1.length c3, .int .i64 s.2.2.2.1.kind, .int .i64 s.2.2.2.1.at_, .int .i64 s.2.2.2.1.lo, .int .i64 s.2.2.2.1.hi, .int .i64 s.2.2.2.1.most, .slice N1 s.2.2.2.1.names.length N3, .slice M1 s.2.2.2.2.len M3, .string s.2.2.2.1.name, .int .i64 s.2.2.2.1.nat] 32) = V at *
  generalize w.heap.size + 1 = P at hA qb ⊢
  generalize w.heap.size = X at hX qx ⊢
  have x0 := (Lib.cell_of_heap hX 0).trans rfl
  have hK := heap_alloc_new V (.cells #[.string tLevels] 9)
  have cU := Lib.hid fun R hR => putx_calls B b (x) [tLevels] (tLevels) (by simp only [catT, ByteArray.append_empty, ByteArray.append_assoc]) V.heap.size (V.alloc (.cells #[.string tLevels] 9)) (h.alloc _) hK (by have := h.lt; omega) (by (try simp only [ByteArray.size_append]); omega) (by simp only [List.length_cons, List.length_nil]; omega) R (by simp only [alz]; omega) hR
  replace hX := ((alB _ (.cells #[.string tLevels] 9)).block _ (blt hX)).trans hX
  replace hA := ((alB _ (.cells #[.string tLevels] 9)).block _ (blt hA)).trans hA
  replace kw := kw.alloc hBw (.cells #[.string tLevels] 9)
  clear hK
  go_wp2_with fail
  refine cU.out _ (Lib.hid fun w1 h2 k2 => ?_)
  clear cU h x0
  replace hX := k2.box hX qx (by decide)
  replace hA := k2.box hA qb (by decide)
  replace kw := kw.trans k2
  have hBV := Nat.le_trans hBw kw.m.size
  have h := h2
  clear h2 k2
  have cL := Lib.hid fun R hR => listw_calls B b (x ++ tLevels) s.1 (.slice A1 s.1.length c1) W0 w1 h hBV (h0.trans (kw.m.mono hB0)) hB0 rd.out.l gs.out.ll (by simp only [ByteArray.size_append]; omega) R hR
  have x0 := (Lib.cell_of_heap hX 0).trans rfl
  have a0 := (Lib.cell_of_heap hA 0).trans rfl
  go_wp2_with fail
  refine cL.out _ (Lib.hid fun w2 h2 k2 => ?_)
  clear cL h x0 a0
  replace hX := k2.box hX qx (by decide)
  replace hA := k2.box hA qb (by decide)
  replace kw := kw.trans k2
  have hBV := Nat.le_trans hBw kw.m.size
  have h := h2
  clear h2 k2
  have x0 := (Lib.cell_of_heap hX 0).trans rfl
  have hK := heap_alloc_new w2 (.cells #[.string tOrder] 9)
  have cU := Lib.hid fun R hR => putx_calls B b (x ++ tLevels ++ wrs tComma s.1) [tOrder] (tOrder) (by simp only [catT, ByteArray.append_empty, ByteArray.append_assoc]) w2.heap.size (w2.alloc (.cells #[.string tOrder] 9)) (h.alloc _) hK (by have := h.lt; omega) (by (try simp only [ByteArray.size_append]); omega) (by simp only [List.length_cons, List.length_nil]; omega) R (by simp only [alz]; omega) hR
  replace hX := ((alB _ (.cells #[.string tOrder] 9)).block _ (blt hX)).trans hX
  replace hA := ((alB _ (.cells #[.string tOrder] 9)).block _ (blt hA)).trans hA
  replace kw := kw.alloc hBw (.cells #[.string tOrder] 9)
  clear hK
  go_wp2_with fail
  refine cU.out _ (Lib.hid fun w3 h2 k2 => ?_)
  clear cU h x0
  replace hX := k2.box hX qx (by decide)
  replace hA := k2.box hA qb (by decide)
  replace kw := kw.trans k2
  have hBV := Nat.le_trans hBw kw.m.size
  have h := h2
  clear h2 k2
  have cL := Lib.hid fun R hR => listpr_calls B b (x ++ tLevels ++ wrs tComma s.1 ++ tOrder) X s.2.1 (.slice A2 s.2.1.length c2) W0 w3 h hBV hX qx (h0.trans (kw.m.mono hB0)) hB0 rd.out.o gs.out.ol (by simp only [ByteArray.size_append]; omega) R hR
  have x0 := (Lib.cell_of_heap hX 0).trans rfl
  have a1 := (Lib.cell_of_heap hA 1).trans rfl
  go_wp2_with fail
  refine cL.out _ (Lib.hid fun w4 h2 k2 => ?_)
  clear cL h x0 a1
  replace hX := k2.box hX qx (by decide)
  replace hA := k2.box hA qb (by decide)
  replace kw := kw.trans k2
  have hBV := Nat.le_trans hBw kw.m.size
  have h := h2
  clear h2 k2
  have x0 := (Lib.cell_of_heap hX 0).trans rfl
  have hK := heap_alloc_new w4 (.cells #[.string tRbrace] 9)
  have cU := Lib.hid fun R hR => putx_calls B b (x ++ tLevels ++ wrs tComma s.1 ++ tOrder ++ sepT tComma ordT 0 s.2.1) [tRbrace] (tRbrace) (by simp only [catT, ByteArray.append_empty, ByteArray.append_assoc]) w4.heap.size (w4.alloc (.cells #[.string tRbrace] 9)) (h.alloc _) hK (by have := h.lt; omega) (by (try simp only [ByteArray.size_append]); omega) (by simp only [List.length_cons, List.length_nil]; omega) R (by simp only [alz]; omega) hR
  replace hX := ((alB _ (.cells #[.string tRbrace] 9)).block _ (blt hX)).trans hX
  replace hA := ((alB _ (.cells #[.string tRbrace] 9)).block _ (blt hA)).trans hA
  replace kw := kw.alloc hBw (.cells #[.string tRbrace] 9)
  clear hK
  go_wp2_with fail
  refine cU.out _ (Lib.hid fun w5 h2 k2 => ?_)
  clear cU h x0
  replace hX := k2.box hX qx (by decide)
  replace hA := k2.box hA qb (by decide)
  replace kw := kw.trans k2
  have hBV := Nat.le_trans hBw kw.m.size
  have h := h2
  clear h2 k2
  have hT : x ++ tLevels ++ wrs tComma s.1 ++ tOrder ++ sepT tComma ordT 0 s.2.1 ++ tRbrace ++ namsT s.2.2.1 = x ++ tLevels ++ wrs tComma s.1 ++ tOrder ++ sepT tComma ordT 0 s.2.1 ++ tRbrace ++ namsT (s.2.2.1.drop 0) := rfl
  have hTz : (x ++ tLevels ++ wrs tComma s.1 ++ tOrder ++ sepT tComma ordT 0 s.2.1 ++ tRbrace ++ namsT s.2.2.1).size + 6 + (txT s.2.2.2.1 s.2.2.2.2).size ≤ 1000000000 := by simp only [ByteArray.size_append]; omega
  have hfin : x ++ (tLevels ++ (wrs tComma s.1 ++ (tOrder ++ (sepT tComma ordT 0 s.2.1 ++ (tRbrace ++ (namsT s.2.2.1 ++ (tRoot ++ txT s.2.2.2.1 s.2.2.2.2))))))) = x ++ tLevels ++ wrs tComma s.1 ++ tOrder ++ sepT tComma ordT 0 s.2.1 ++ tRbrace ++ namsT s.2.2.1 ++ tRoot ++ txT s.2.2.2.1 s.2.2.2.2 := by simp only [ByteArray.append_assoc]
  rw [hfin] at hR
  clear hfin
  generalize x ++ tLevels ++ wrs tComma s.1 ++ tOrder ++ sepT tComma ordT 0 s.2.1 ++ tRbrace ++ namsT s.2.2.1 = T at *
  generalize x ++ tLevels ++ wrs tComma s.1 ++ tOrder ++ sepT tComma ordT 0 s.2.1 ++ tRbrace = x5 at *
  obtain ⟨A3', c3', e3s, -, hrd⟩ := rd.out.t.op
  simp only [Value.slice.injEq] at e3s
  obtain ⟨rfl, -, rfl⟩ := e3s
  replace hrd := Lib.hid hrd
  replace hT := Lib.hid hT
  have a2 := (Lib.cell_of_heap hA 2).trans rfl
  go_upto_region 7 with fail
  clear a2
  replace hX := Lib.hid hX
  replace hA := Lib.hid hA
  go_loopg [29] s.2.2.1.length (fun g0 i wr => ∃ (J : Nat) (c : ByteArray), i = .int .i64 J ∧ J + g0 = s.2.2.1.length ∧ Hid (T = c ++ namsT (s.2.2.1.drop J)) ∧ Hid (Wld B b c wr) ∧ Hid (Wk B b w wr) ∧ Hid (wr.heap[X]? = some (.cells #[.pointer (some ⟨b, 0, none⟩)] 88)) ∧ Hid (wr.heap[P]? = some (.cells #[.slice A1 s.1.length c1, .slice A2 s.2.1.length c2, .slice A3 s.2.2.1.length c3, .int .i64 s.2.2.2.1.kind, .int .i64 s.2.2.2.1.at_, .int .i64 s.2.2.2.1.lo, .int .i64 s.2.2.2.1.hi, .int .i64 s.2.2.2.1.most, .slice N1 s.2.2.2.1.names.length N3, .slice M1 s.2.2.2.2.len M3, .string s.2.2.2.1.name, .int .i64 s.2.2.2.1.nat] 32)))
  case atStart => exact ⟨0, x5, rfl, by omega, hT, Lib.hid h, Lib.hid kw, hX, hA⟩
  case round =>
    clear h hT kw hX hA hBV
    obtain ⟨J, c, rfl, c1', hc, h, kw, hX, hA⟩ := hrel
    replace hc := hc.out
    replace h := h.out
    replace kw := kw.out
    replace hX := hX.out
    replace hA := hA.out
    have hBV := Nat.le_trans hBw kw.m.size
    by_cases hJ : J < s.2.2.1.length
    · obtain ⟨g, o, rfl, hg, hca⟩ := hrd.out (by omega)
      obtain ⟨nx, px, ry, hcl⟩ := hca J hJ
      obtain ⟨N1', N3', rfl, -, -⟩ := ry.n.op
      obtain ⟨M1', M3', rfl, -⟩ := ry.p.sl
      have hgn := gs.out.t _ (mem_nN hJ)
      have hon := hok.out _ (mem_nN hJ)
      rw [namsT_drop hJ] at hc
      generalize nN s.2.2.1 J = n at *
      have hb := h0.trans (kw.m.mono hB0)
      have rg : wr.rangeAt g (o + J * 11) [.string n.1.1, .int .i64 n.1.2, .int .i64 n.2.1.kind, .int .i64 n.2.1.at_, .int .i64 n.2.1.lo, .int .i64 n.2.1.hi, .int .i64 n.2.1.most, .slice N1' n.2.1.names.length N3', .slice M1' n.2.2.len M3', .string n.2.1.name, .int .i64 n.2.1.nat] := fun j v q => (hb.cell (p := ⟨g, o + J * 11 + j, none⟩) hg).trans (hcl j v q)
      have hnT : namT n = tType ++ n.1.1 ++ tEq ++ txT n.2.1 n.2.2 := rfl
      have hzn : c.size + 9 + n.1.1.size + (txT n.2.1 n.2.2).size ≤ 1000000000 := by rw [hc, hnT] at hTz; simp only [ByteArray.size_append] at hTz; omega
      have i0 : (0 : Int) ≤ (J : Int) := by omega
      have i1 : (J : Int) < (s.2.2.1.length : Int) := by omega
      have qn : wr.heap.size ≠ b := by have := h.lt; omega
      have hN := heap_alloc_new wr (.cells #[.string n.1.1, .int .i64 n.1.2, .int .i64 n.2.1.kind, .int .i64 n.2.1.at_, .int .i64 n.2.1.lo, .int .i64 n.2.1.hi, .int .i64 n.2.1.most, .slice N1' n.2.1.names.length N3', .slice M1' n.2.2.len M3', .string n.2.1.name, .int .i64 n.2.1.nat] 67)
      replace hX := ((alB wr (.cells #[.string n.1.1, .int .i64 n.1.2, .int .i64 n.2.1.kind, .int .i64 n.2.1.at_, .int .i64 n.2.1.lo, .int .i64 n.2.1.hi, .int .i64 n.2.1.most, .slice N1' n.2.1.names.length N3', .slice M1' n.2.2.len M3', .string n.2.1.name, .int .i64 n.2.1.nat] 67)).block _ (blt hX)).trans hX
      replace hA := ((alB wr (.cells #[.string n.1.1, .int .i64 n.1.2, .int .i64 n.2.1.kind, .int .i64 n.2.1.at_, .int .i64 n.2.1.lo, .int .i64 n.2.1.hi, .int .i64 n.2.1.most, .slice N1' n.2.1.names.length N3', .slice M1' n.2.2.len M3', .string n.2.1.name, .int .i64 n.2.1.nat] 67)).block _ (blt hA)).trans hA
      replace kw := kw.alloc hBw (.cells #[.string n.1.1, .int .i64 n.1.2, .int .i64 n.2.1.kind, .int .i64 n.2.1.at_, .int .i64 n.2.1.lo, .int .i64 n.2.1.hi, .int .i64 n.2.1.most, .slice N1' n.2.1.names.length N3', .slice M1' n.2.2.len M3', .string n.2.1.name, .int .i64 n.2.1.nat] 67)
      replace h := h.alloc (.cells #[.string n.1.1, .int .i64 n.1.2, .int .i64 n.2.1.kind, .int .i64 n.2.1.at_, .int .i64 n.2.1.lo, .int .i64 n.2.1.hi, .int .i64 n.2.1.most, .slice N1' n.2.1.names.length N3', .slice M1' n.2.2.len M3', .string n.2.1.name, .int .i64 n.2.1.nat] 67)
      replace hBV := Nat.le_trans hBw kw.m.size
      replace hc := Lib.hid hc
      clear hca hcl hb hg hnT
      go_upto_region 9 with (first | (refine wpList_load_g (by rfl) 67 _ rfl g (o + J * 11) rfl [.string n.1.1, .int .i64 n.1.2, .int .i64 n.2.1.kind, .int .i64 n.2.1.at_, .int .i64 n.2.1.lo, .int .i64 n.2.1.hi, .int .i64 n.2.1.most, .slice N1' n.2.1.names.length N3', .slice M1' n.2.2.len M3', .string n.2.1.name, .int .i64 n.2.1.nat] _ rg Tryz.underlying67 rfl (by kernel_rfl) ?_; go_simp) | (refine wpList_copy #[.string n.1.1, .int .i64 n.1.2, .int .i64 n.2.1.kind, .int .i64 n.2.1.at_, .int .i64 n.2.1.lo, .int .i64 n.2.1.hi, .int .i64 n.2.1.most, .slice N1' n.2.1.names.length N3', .slice M1' n.2.2.len M3', .string n.2.1.name, .int .i64 n.2.1.nat] ⟨rfl, rfl, rfl⟩ ⟨rfl, rfl, rfl⟩ named_alloc (by kernel_rfl) ⟨rfl, by simp [Value.oneCell']⟩ (fun _ => ⟨rfl, rfl⟩) ?_; go_simp))
      generalize wr.alloc (.cells #[.string n.1.1, .int .i64 n.1.2, .int .i64 n.2.1.kind, .int .i64 n.2.1.at_, .int .i64 n.2.1.lo, .int .i64 n.2.1.hi, .int .i64 n.2.1.most, .slice N1' n.2.1.names.length N3', .slice M1' n.2.2.len M3', .string n.2.1.name, .int .i64 n.2.1.nat] 67) = V6 at *
      generalize wr.heap.size = Q at hN qn ⊢
      clear rg
      have x0 := (Lib.cell_of_heap hX 0).trans rfl
      have a0 := (Lib.cell_of_heap hN 0).trans rfl
      have hK := heap_alloc_new V6 (.cells #[.string tType, .string n.1.1, .string tEq] 9)
      have cU := Lib.hid fun R hR => putx_calls B b (c) [tType, n.1.1, tEq] (tType ++ n.1.1 ++ tEq) (by simp only [catT, ByteArray.append_empty, ByteArray.append_assoc]) V6.heap.size (V6.alloc (.cells #[.string tType, .string n.1.1, .string tEq] 9)) (h.alloc _) hK (by have := h.lt; omega) (by (try simp only [ByteArray.size_append]); omega) (by simp only [List.length_cons, List.length_nil]; omega) R (by simp only [alz]; omega) hR
      replace hX := ((alB _ (.cells #[.string tType, .string n.1.1, .string tEq] 9)).block _ (blt hX)).trans hX
      replace hA := ((alB _ (.cells #[.string tType, .string n.1.1, .string tEq] 9)).block _ (blt hA)).trans hA
      replace hN := ((alB _ (.cells #[.string tType, .string n.1.1, .string tEq] 9)).block _ (blt hN)).trans hN
      replace kw := kw.alloc hBw (.cells #[.string tType, .string n.1.1, .string tEq] 9)
      clear hK
      go_wp2_with fail
      refine cU.out _ (Lib.hid fun w6 h2 k2 => ?_)
      clear cU h x0 a0
      replace hX := k2.box hX qx (by decide)
      replace hA := k2.box hA qb (by decide)
      replace hN := k2.box hN qn (by decide)
      replace kw := kw.trans k2
      have hBV := Nat.le_trans hBw kw.m.size
      have h := h2
      clear h2 k2
      have rT : w6.rangeAt Q 2 [.int .i64 n.2.1.kind, .int .i64 n.2.1.at_, .int .i64 n.2.1.lo, .int .i64 n.2.1.hi, .int .i64 n.2.1.most, .slice N1' n.2.1.names.length N3', .slice M1' n.2.2.len M3', .string n.2.1.name, .int .i64 n.2.1.nat] := fun j v h => by rw [Lib.cell_of_heap hN, List.getElem?_toArray, ← List.getElem?_drop]; exact h
      have cT := Lib.hid fun R hR => any_calls n.2.2 n.2.1 (.slice N1' n.2.1.names.length N3') (.slice M1' n.2.2.len M3') B b (c ++ (tType ++ n.1.1 ++ tEq)) W0 w6 hon hgn.2.1 hgn.2.2.1 hgn.2.2.2 ry (h0.trans (kw.m.mono hB0)) hB0 h hBV (by simp only [ByteArray.size_append]; omega) R hR
      have x0 := (Lib.cell_of_heap hX 0).trans rfl
      go_wp2_with (refine wpList_load_g (by rfl) 30 _ rfl Q 2 rfl [.int .i64 n.2.1.kind, .int .i64 n.2.1.at_, .int .i64 n.2.1.lo, .int .i64 n.2.1.hi, .int .i64 n.2.1.most, .slice N1' n.2.1.names.length N3', .slice M1' n.2.2.len M3', .string n.2.1.name, .int .i64 n.2.1.nat] _ rT Tryz.underlying30 rfl (by kernel_rfl) ?_; go_simp)
      refine cT.out _ (Lib.hid fun w7 h2 k2 => ?_)
      clear cT h x0 rT
      replace hX := k2.box hX qx (by decide)
      replace hA := k2.box hA qb (by decide)
      replace hN := k2.box hN qn (by decide)
      replace kw := kw.trans k2
      have hBV := Nat.le_trans hBw kw.m.size
      have h := h2
      clear h2 k2
      have hc2 := Lib.hid (show T = c ++ (tType ++ n.1.1 ++ tEq) ++ txT n.2.1 n.2.2 ++ namsT (s.2.2.1.drop (J + 1)) by rw [hc.out]; unfold namT; simp only [ByteArray.append_assoc])
      have h3 := Lib.hid h
      have k3 := Lib.hid kw
      replace hX := Lib.hid hX
      replace hA := Lib.hid hA
      clear h kw hN hc ry hon hgn
      go_wp2_with fail
      go_roundg (gk - 1)
      case measure => omega
      case rel => exact ⟨J + 1, _, by go_num, by omega, hc2, h3, k3, hX, hA⟩
    · obtain rfl : J = s.2.2.1.length := by omega
      rw [List.drop_length] at hc
      have hc' : T = c := by rw [hc]; exact ByteArray.append_empty
      clear hc
      subst hc'
      have x0 := (Lib.cell_of_heap hX 0).trans rfl
      have hK := heap_alloc_new wr (.cells #[.string tRoot] 9)
      have cU := Lib.hid fun R hR => putx_calls B b (T) [tRoot] (tRoot) (by simp only [catT, ByteArray.append_empty, ByteArray.append_assoc]) wr.heap.size (wr.alloc (.cells #[.string tRoot] 9)) (h.alloc _) hK (by have := h.lt; omega) (by (try simp only [ByteArray.size_append]); omega) (by simp only [List.length_cons, List.length_nil]; omega) R (by simp only [alz]; omega) hR
      replace hX := ((alB _ (.cells #[.string tRoot] 9)).block _ (blt hX)).trans hX
      replace hA := ((alB _ (.cells #[.string tRoot] 9)).block _ (blt hA)).trans hA
      replace kw := kw.alloc hBw (.cells #[.string tRoot] 9)
      clear hK
      go_wp2_with fail
      refine cU.out _ (Lib.hid fun w8 h2 k2 => ?_)
      clear cU h x0
      replace hX := k2.box hX qx (by decide)
      replace hA := k2.box hA qb (by decide)
      replace kw := kw.trans k2
      have hBV := Nat.le_trans hBw kw.m.size
      have h := h2
      clear h2 k2
      have rT : w8.rangeAt P 3 [.int .i64 s.2.2.2.1.kind, .int .i64 s.2.2.2.1.at_, .int .i64 s.2.2.2.1.lo, .int .i64 s.2.2.2.1.hi, .int .i64 s.2.2.2.1.most, .slice N1 s.2.2.2.1.names.length N3, .slice M1 s.2.2.2.2.len M3, .string s.2.2.2.1.name, .int .i64 s.2.2.2.1.nat] := fun j v h => by rw [Lib.cell_of_heap hA, List.getElem?_toArray, ← List.getElem?_drop]; exact h
      have cT := Lib.hid fun R hR => any_calls s.2.2.2.2 s.2.2.2.1 (.slice N1 s.2.2.2.1.names.length N3) (.slice M1 s.2.2.2.2.len M3) B b (T ++ tRoot) W0 w8 hokr.out gs.out.h gs.out.g gs.out.gl rd.out.r (h0.trans (kw.m.mono hB0)) hB0 h hBV (by simp only [ByteArray.size_append]; omega) R hR
      have x0 := (Lib.cell_of_heap hX 0).trans rfl
      clear h
      go_wp2_with (refine wpList_load_g (by rfl) 30 _ rfl P 3 rfl [.int .i64 s.2.2.2.1.kind, .int .i64 s.2.2.2.1.at_, .int .i64 s.2.2.2.1.lo, .int .i64 s.2.2.2.1.hi, .int .i64 s.2.2.2.1.most, .slice N1 s.2.2.2.1.names.length N3, .slice M1 s.2.2.2.2.len M3, .string s.2.2.2.1.name, .int .i64 s.2.2.2.1.nat] _ rT Tryz.underlying30 rfl (by kernel_rfl) ?_; go_simp)
      refine cT.out _ (Lib.hid fun w9 h9 k9 => ?_)
      have fin := Lib.hid (hR.out.out _ h9 (kw.trans k9))
      clear hR cT rT h9 k9 x0 kw
      go_wp2_with fail
      first | refine bodyPost_ret ?_ rfl fin.out | refine bodyPost_end ?_ rfl fin.out
      simp [results, Tryz.results53, go_sem]
end Go.Proofs.YtbochlbgjnmgjaaGreat.Unp

/- Layer 17: the code's Format. -/
set_option maxRecDepth 100000
set_option linter.unusedVariables false
namespace Go.Proofs.YtbochlbgjnmgjaaGreat.Unp
open Go.RowKit Go.Lib Go.Proofs.YtbochlbgjnmgjaaGreat.Nam Go.Proofs.YtbochlbgjnmgjaaGreat.Lat Go.Proofs.YtbochlbgjnmgjaaGreat.Kin Go.Proofs.YtbochlbgjnmgjaaGreat.Dig

theorem okS_split {s : Sc} (h : okS s = true) : 0 < s.1.length ∧ s.1.all goodW = true ∧ s.2.1.all goodP = true ∧ s.2.2.1.all goodN = true ∧ fineB s.2.2.2.1 s.2.2.2.2 = true := by
  unfold okS at h
  simp only [Bool.and_eq_true, decide_eq_true_eq] at h
  exact ⟨h.1.1.1.1, h.1.1.1.2, h.1.1.2, h.1.2, h.2⟩
theorem okS_types {s : Sc} (h : okS s = true) : ∀ n ∈ s.2.2.1, okT n.2.1 n.2.2 := fun n hn => by
  have := List.all_eq_true.1 (okS_split h).2.2.2.1 n hn
  unfold goodN fineB at this
  simp only [Bool.and_eq_true, decide_eq_true_eq] at this
  exact (wc_ok this.2).1
theorem okS_root {s : Sc} (h : okS s = true) : okT s.2.2.2.1 s.2.2.2.2 := by
  have q := (okS_split h).2.2.2.2
  unfold fineB at q
  have q2 : (wcS s.2.2.2.1 s.2.2.2.2).1 = 0 := by simpa using q
  exact (wc_ok q2).1
theorem fine_size {t : TH} {f : Ft} (e : (wcS t f).1 = 0) (gh : GoodH t) (ga : f.All GoodH GoodL) : (txT t f).size ≤ 4200000 := by
  obtain ⟨a, b, -⟩ := wc_ok e
  have := txT_size a gh ga
  omega
theorem nams_size : ∀ (l : List Nd), (∀ n ∈ l, goodN n = true) → (∀ n ∈ l, GoodN n) → (namsT l).size ≤ 4200100 * l.length
  | [], _, _ => by show 0 ≤ _; omega
  | n :: l, h, g => by
    have ih := nams_size l (fun x hx => h x (by simp [hx])) (fun x hx => g x (by simp [hx]))
    have h1 := h n (by simp)
    have g1 := g n (by simp)
    unfold goodN fineB at h1
    simp only [Bool.and_eq_true, decide_eq_true_eq] at h1
    have s1 := right_size h1.1
    have s2 := fine_size h1.2 g1.2.1 g1.2.2.1
    have e1 : tType.size = 6 := rfl
    have e2 : tEq.size = 3 := rfl
    show (namT n ++ namsT l).size ≤ _
    unfold namT
    simp only [ByteArray.size_append, List.length_cons]
    omega
/-- A schema that may be written, and is no more than is gone through, has a text of bounded size. -/
theorem sch_size {s : Sc} (h : okS s = true) (gs : GoodS s) (h1 : s.1.length ≤ 100) (h2 : s.2.1.length ≤ 400) (h3 : s.2.2.1.length ≤ 100) : (schT s).size ≤ 1000000000 := by
  obtain ⟨-, a1, a2, a3, a4⟩ := okS_split h
  have s1 : (wrs tComma s.1).size ≤ 34 * s.1.length := wrs_size tComma (by decide) fun x hx => by have := List.all_eq_true.1 a1 x hx; exact this
  have s2 : (sepT tComma ordT 0 s.2.1).size ≤ 80 * s.2.1.length := sep_size s.2.1 0 fun x hx => by
    have := List.all_eq_true.1 a2 x hx
    unfold goodP at this
    simp only [Bool.and_eq_true] at this
    have r1 := right_size this.1
    have r2 := right_size this.2
    have e1 : tComma.size = 2 := rfl
    have e2 : tLt.size = 3 := rfl
    unfold ordT
    simp only [ByteArray.size_append]
    omega
  have s3 := nams_size s.2.2.1 (List.all_eq_true.1 a3) gs.t
  have s4 := fine_size (by unfold fineB at a4; simpa using a4) gs.h gs.g
  have e1 : tLevels.size = 8 := rfl
  have e2 : tOrder.size = 9 := rfl
  have e3 : tRbrace.size = 1 := rfl
  have e4 : tRoot.size = 6 := rfl
  unfold schT
  simp only [ByteArray.size_append]
  omega
theorem sch_pos (s : Sc) : 0 < (schT s).size := by
  have e1 : tLevels.size = 8 := rfl
  unfold schT
  simp only [ByteArray.size_append]
  omega
/-- What the code's Format hands back. -/
noncomputable def fmtU (s : Sc) : ByteArray := if okS s = true then schT s else ByteArray.empty
set_option maxRecDepth 100000 in
set_option maxHeartbeats 2000000 in
theorem sformat_calls (s : Sc) (gs : GoodS s) (hz : okS s = true → (schT s).size ≤ 1000000000) (lv ov tv nv pv : Value) (w : World) (rd : RdSc w s lv ov tv nv pv) (R : Ending → World → Prop)
    (hR : Hid (∀ w', Below w.heap.size w w' → R (.returned (.string (fmtU s))) w')) : Calls Tryz.prog 22 #[scV s lv ov tv nv pv] w R := by
  obtain ⟨A1, c1, rfl, -, -⟩ := rd.l.op
  obtain ⟨A2, c2, rfl, -, -⟩ := RdPr.op rd.o
  obtain ⟨A3, c3, rfl, -, -⟩ := rd.t.op
  obtain ⟨N1, N3, rfl, -, -⟩ := rd.r.n.op
  obtain ⟨M1, M3, rfl, -⟩ := rd.r.p.sl
  have hA := heap_alloc_new w (.cells #[.slice A1 s.1.length c1, .slice A2 s.2.1.length c2, .slice A3 s.2.2.1.length c3, .int .i64 s.2.2.2.1.kind, .int .i64 s.2.2.2.1.at_, .int .i64 s.2.2.2.1.lo, .int .i64 s.2.2.2.1.hi, .int .i64 s.2.2.2.1.most, .slice N1 s.2.2.2.1.names.length N3, .slice M1 s.2.2.2.2.len M3, .string s.2.2.2.1.name, .int .i64 s.2.2.2.1.nat] 32)
  have n := (Below.refl w.heap.size w).alloc (Nat.le_refl _) (.cells #[.slice A1 s.1.length c1, .slice A2 s.2.1.length c2, .slice A3 s.2.2.1.length c3, .int .i64 s.2.2.2.1.kind, .int .i64 s.2.2.2.1.at_, .int .i64 s.2.2.2.1.lo, .int .i64 s.2.2.2.1.hi, .int .i64 s.2.2.2.1.most, .slice N1 s.2.2.2.1.names.length N3, .slice M1 s.2.2.2.2.len M3, .string s.2.2.2.1.name, .int .i64 s.2.2.2.1.nat] 32)
  replace rd := Lib.hid (rd.below n)
  have hq : fmtU s = if okS s = true then schT s else ByteArray.empty := rfl
  rw [hq] at hR
  clear hq
  have hok := fun e : okS s = true => And.intro (okS_types e) (And.intro (okS_root e) (hz e))
  have hR2 := Lib.hid hR
  clear hR hz
  go_enter Tryz.func22, Tryz.ntmps22
  go_upto_region 1 with fail
  generalize w.alloc (.cells #[.slice A1 s.1.length c1, .slice A2 s.2.1.length c2, .slice A3 s.2.2.1.length c3, .int .i64 s.2.2.2.1.kind, .int .i64 s.2.2.2.1.at_, .int .i64 s.2.2.2.1.lo, .int .i64 s.2.2.2.1.hi, .int .i64 s.2.2.2.1.most, .slice N1 s.2.2.2.1.names.length N3, .slice M1 s.2.2.2.2.len M3, .string s.2.2.2.1.name, .int .i64 s.2.2.2.1.nat] 32) = V at *
  have hP : w.heap.size ≤ w.heap.size := Nat.le_refl _
  generalize w.heap.size = P at hA ⊢
  have rT : V.rangeAt P 0 [.slice A1 s.1.length c1, .slice A2 s.2.1.length c2, .slice A3 s.2.2.1.length c3, .int .i64 s.2.2.2.1.kind, .int .i64 s.2.2.2.1.at_, .int .i64 s.2.2.2.1.lo, .int .i64 s.2.2.2.1.hi, .int .i64 s.2.2.2.1.most, .slice N1 s.2.2.2.1.names.length N3, .slice M1 s.2.2.2.2.len M3, .string s.2.2.2.1.name, .int .i64 s.2.2.2.1.nat] := fun j v e => by rw [Nat.zero_add, Lib.cell_of_heap hA]; simpa using e
  have cR := Lib.hid fun R hR => sright_calls s gs (.slice A1 s.1.length c1) (.slice A2 s.2.1.length c2) (.slice A3 s.2.2.1.length c3) (.slice N1 s.2.2.2.1.names.length N3) (.slice M1 s.2.2.2.2.len M3) V rd.out R hR
  go_wp2_with (refine wpList_load_g (by rfl) 32 _ rfl P 0 rfl [.slice A1 s.1.length c1, .slice A2 s.2.1.length c2, .slice A3 s.2.2.1.length c3, .int .i64 s.2.2.2.1.kind, .int .i64 s.2.2.2.1.at_, .int .i64 s.2.2.2.1.lo, .int .i64 s.2.2.2.1.hi, .int .i64 s.2.2.2.1.most, .slice N1 s.2.2.2.1.names.length N3, .slice M1 s.2.2.2.2.len M3, .string s.2.2.2.1.name, .int .i64 s.2.2.2.1.nat] _ rT Tryz.underlying32 rfl (by kernel_rfl) ?_; go_simp)
  refine cR.out _ (Lib.hid fun w1 m1 => ?_)
  replace hA := (m1.block _ (blt hA)).trans hA
  replace rd := Lib.hid (rd.out.below m1)
  replace n := n.trans (m1.mono n.size)
  clear cR rT m1 hP
  cases he : okS s
  · rw [he, if_neg (by decide)] at hR2
    have fin := Lib.hid (hR2.out.out _ n)
    clear hR2 he hok
    go_wp2_with fail
    exact fin.out
  · rw [he, if_pos rfl] at hR2
    obtain ⟨ok, okr, hz⟩ := hok he
    clear he hok
    have hlA := blt hA
    have hW := Wld.fresh w1
    have n2 := n.alloc n.size (.cells #[.pointer none, .slice none 0 0] 94)
    have hb0 := (Below.refl w1.heap.size w1).alloc (Nat.le_refl _) (.cells #[.pointer none, .slice none 0 0] 94)
    have hA2 := (hb0.block _ hlA).trans hA
    have lV : w1.heap.size ≤ (w1.alloc (.cells #[.pointer none, .slice none 0 0] 94)).heap.size := by rw [alz]; omega
    go_upto_region 4 with fail
    generalize hV2 : w1.alloc (.cells #[.pointer none, .slice none 0 0] 94) = V2 at *
    have rT : V2.rangeAt P 0 [.slice A1 s.1.length c1, .slice A2 s.2.1.length c2, .slice A3 s.2.2.1.length c3, .int .i64 s.2.2.2.1.kind, .int .i64 s.2.2.2.1.at_, .int .i64 s.2.2.2.1.lo, .int .i64 s.2.2.2.1.hi, .int .i64 s.2.2.2.1.most, .slice N1 s.2.2.2.1.names.length N3, .slice M1 s.2.2.2.2.len M3, .string s.2.2.2.1.name, .int .i64 s.2.2.2.1.nat] := fun j v e => by rw [Nat.zero_add, Lib.cell_of_heap hA2]; simpa using e
    have cT := Lib.hid fun R hR => wschema_calls w1.heap.size w1.heap.size ByteArray.empty s gs (.slice A1 s.1.length c1) (.slice A2 s.2.1.length c2) (.slice A3 s.2.2.1.length c3) (.slice N1 s.2.2.2.1.names.length N3) (.slice M1 s.2.2.2.2.len M3) w1 V2 hW lV hb0 (Nat.le_refl _) rd.out ok okr (by have e : ByteArray.empty.size = 0 := rfl; omega) R hR
    generalize hbb : w1.heap.size = b at *
    go_wp2_with (refine wpList_load_g (by rfl) 32 _ rfl P 0 rfl [.slice A1 s.1.length c1, .slice A2 s.2.1.length c2, .slice A3 s.2.2.1.length c3, .int .i64 s.2.2.2.1.kind, .int .i64 s.2.2.2.1.at_, .int .i64 s.2.2.2.1.lo, .int .i64 s.2.2.2.1.hi, .int .i64 s.2.2.2.1.most, .slice N1 s.2.2.2.1.names.length N3, .slice M1 s.2.2.2.2.len M3, .string s.2.2.2.1.name, .int .i64 s.2.2.2.1.nat] _ rT Tryz.underlying32 rfl (by kernel_rfl) ?_; go_simp)
    refine cT.out _ (Lib.hid fun w3 h3 k3 => ?_)
    clear cT rT hA2 hA hW
    have nb : w.heap.size ≤ b := by rw [← hbb]; exact n.size
    have n3 := n2.trans (k3.m.mono nb)
    have hp : 0 < (ByteArray.empty ++ schT s).size := by rw [ByteArray.size_append]; have := sch_pos s; omega
    have cS := Lib.hid fun R hR => wstring_calls b b (ByteArray.empty ++ schT s) w3 h3 hp R hR
    rw [ByteArray.empty_append] at cS
    clear hbb hV2
    obtain ⟨p0, pv0, hpw⟩ : ∃ p0 pv0, w3.heap[b]? = some (.cells #[p0, pv0] 94 (0, 0)) := by
      rcases h3 with q | q
      · obtain ⟨-, v, e, -⟩ := q; exact ⟨_, v, e⟩
      · obtain ⟨-, v, e, -⟩ := q; exact ⟨_, v, e⟩
    clear h3 k3 hp
    go_wp2_with fail
    refine cS.out _ (Lib.hid fun w4 m4 => ?_)
    have fin := Lib.hid (hR2.out.out _ (n3.trans (m4.mono nb)))
    clear hR2 cS m4
    go_wp2_with fail
    exact fin.out
end Go.Proofs.YtbochlbgjnmgjaaGreat.Unp
