import Derived.Test.YtbochlbgjnmgjaaGreatG8
import Derived.Test.YtbochlbgjnmgjaaGreatG3
import Derived.Test.YtbochlbgjnmgjaaGreatG5
/- Layer 17, the code: the parts of a type. -/
set_option maxRecDepth 100000
set_option linter.unusedVariables false
namespace Go.Proofs.YtbochlbgjnmgjaaGreat.Unp
open Go.RowKit Go.Lib Go.Proofs.YtbochlbgjnmgjaaGreat.Nam Go.Proofs.YtbochlbgjnmgjaaGreat.Lat Go.Proofs.YtbochlbgjnmgjaaGreat.Kin Go.Proofs.YtbochlbgjnmgjaaGreat.Dig

/-- The contract of the code's anyType. -/
def AnyW (f : Ft) : Prop := ∀ (t : TH) (nv pv : Value) (B b : Nat) (x : ByteArray) (W0 w : World), okT t f → GoodH t → f.All GoodH GoodL → f.len ≤ maxLen → RdY W0 t f nv pv → Below W0.heap.size W0 w → W0.heap.size ≤ B → Wld B b x w → B ≤ w.heap.size → x.size + (txT t f).size ≤ 1000000000 → ∀ R : Ending → World → Prop,
  Hid (∀ w', Wld B b (x ++ txT t f) w' → Wk B b w w' → R (.returned (.tuple #[])) w') → Calls Tryz.prog 103 #[.pointer (some ⟨b, 0, none⟩), tyV t nv pv] w R
/-- What is asked of a part that is written. -/
structure PtW (K : Int) (p : PH) (t : TH) (f : Ft) : Prop where
  oo : okP K p t f
  tt : p.bare = false → okT t f
  g : GoodL p
  gh : GoodH t
  ga : f.All GoodH GoodL
  fl : f.len ≤ maxLen
structure RdPt (W : World) (p : PH) (t : TH) (f : Ft) (lv cv nv pv : Value) : Prop where
  l : RdW W lv p.label
  c : RdW W cv p.cl
  y : RdY W t f nv pv
theorem RdPt.op {W : World} {p : PH} {t : TH} {f : Ft} {lv cv nv pv : Value} (h : RdPt W p t f lv cv nv pv) : ∃ L1 d1 L2 d2 N1 N3 M1 M3, lv = .slice L1 p.label.length d1 ∧ cv = .slice L2 p.cl.length d2 ∧ nv = .slice N1 t.names.length N3 ∧ pv = .slice M1 f.len M3 := by
  obtain ⟨L1, d1, rfl, -, -⟩ := h.l.op
  obtain ⟨L2, d2, rfl, -, -⟩ := h.c.op
  obtain ⟨N1, N3, rfl, -, -⟩ := h.y.n.op
  obtain ⟨M1, M3, rfl, -⟩ := h.y.p.sl
  exact ⟨L1, d1, L2, d2, N1, N3, M1, M3, rfl, rfl, rfl, rfl⟩
/-- The contract of a function that writes a part. -/
def PartW (fn : FuncId) (F : PH → ByteArray → ByteArray) (K : Int) (p : PH) (t : TH) (f : Ft) : Prop := ∀ (lv cv nv pv : Value) (B b : Nat) (x : ByteArray) (W0 w : World), PtW K p t f → RdPt W0 p t f lv cv nv pv → Below W0.heap.size W0 w → W0.heap.size ≤ B → Wld B b x w → B ≤ w.heap.size → x.size + (F p (txT t f)).size ≤ 1000000000 → ∀ R : Ending → World → Prop,
  Hid (∀ w', Wld B b (x ++ F p (txT t f)) w' → Wk B b w w' → R (.returned (.tuple #[])) w') → Calls Tryz.prog fn #[.pointer (some ⟨b, 0, none⟩), .agg #[.string p.name, .int .i64 p.at_, .bool p.bare, lv, .int .i64 p.wide, .int .i64 p.ck, .int .i64 p.cn, .int .i64 p.cat, cv, .int .i64 t.kind, .int .i64 t.at_, .int .i64 t.lo, .int .i64 t.hi, .int .i64 t.most, nv, pv, .string t.name, .int .i64 t.nat]] w R
theorem isF_field : ∀ (args : Array Value) (w : World), (callFunc 170 args).run Tryz.prog w = .ok (.enter 170 args) w := by
  intro args w
  unfold callFunc
  simp [go_sem, Tryz.func170]
  rfl
theorem isF_tag : ∀ (args : Array Value) (w : World), (callFunc 171 args).run Tryz.prog w = .ok (.enter 171 args) w := by
  intro args w
  unfold callFunc
  simp [go_sem, Tryz.func171]
  rfl
set_option maxRecDepth 100000 in
set_option maxHeartbeats 4000000 in
theorem field_calls (p : PH) (t : TH) (f : Ft) (ih : AnyW f) (hb : p.bare = false) : PartW 170 fldT 7 p t f := by
  have hF : ∀ t', fldT p t' = p.name ++ tColon ++ (t' ++ mrkT p) := fun t' => by unfold fldT; simp only [ByteArray.append_assoc]
  intro lv cv nv pv B b x W0 w pt rd h0 hB0 h hBw hz R hR
  obtain ⟨L1, d1, L2, d2, N1, N3, M1, M3, rfl, rfl, rfl, rfl⟩ := rd.op
  have hlt := h.lt
  rw [hF] at hR hz
  clear hF
  simp only [ByteArray.size_append] at hz
  have eC : tColon.size = 2 := rfl
  replace hb := Lib.hid hb
  have hA := heap_alloc_new w (.cells #[.string p.name, .int .i64 p.at_, .bool p.bare, .slice L1 p.label.length d1, .int .i64 p.wide, .int .i64 p.ck, .int .i64 p.cn, .int .i64 p.cat, .slice L2 p.cl.length d2, .int .i64 t.kind, .int .i64 t.at_, .int .i64 t.lo, .int .i64 t.hi, .int .i64 t.most, .slice N1 t.names.length N3, .slice M1 f.len M3, .string t.name, .int .i64 t.nat] 75)
  have kw := (Wk.refl B b w).alloc hBw (.cells #[.string p.name, .int .i64 p.at_, .bool p.bare, .slice L1 p.label.length d1, .int .i64 p.wide, .int .i64 p.ck, .int .i64 p.cn, .int .i64 p.cat, .slice L2 p.cl.length d2, .int .i64 t.kind, .int .i64 t.at_, .int .i64 t.lo, .int .i64 t.hi, .int .i64 t.most, .slice N1 t.names.length N3, .slice M1 f.len M3, .string t.name, .int .i64 t.nat] 75)
  replace h := h.alloc (.cells #[.string p.name, .int .i64 p.at_, .bool p.bare, .slice L1 p.label.length d1, .int .i64 p.wide, .int .i64 p.ck, .int .i64 p.cn, .int .i64 p.cat, .slice L2 p.cl.length d2, .int .i64 t.kind, .int .i64 t.at_, .int .i64 t.lo, .int .i64 t.hi, .int .i64 t.most, .slice N1 t.names.length N3, .slice M1 f.len M3, .string t.name, .int .i64 t.nat] 75)
  have hBV : B ≤ (w.alloc (.cells #[.string p.name, .int .i64 p.at_, .bool p.bare, .slice L1 p.label.length d1, .int .i64 p.wide, .int .i64 p.ck, .int .i64 p.cn, .int .i64 p.cat, .slice L2 p.cl.length d2, .int .i64 t.kind, .int .i64 t.at_, .int .i64 t.lo, .int .i64 t.hi, .int .i64 t.most, .slice N1 t.names.length N3, .slice M1 f.len M3, .string t.name, .int .i64 t.nat] 75)).heap.size := by rw [alz]; omega
  have qb : w.heap.size ≠ b := by have := hlt; omega
  replace hR := Lib.hid hR
  replace rd := Lib.hid rd
  replace pt := Lib.hid pt
  go_enter Tryz.func170, Tryz.ntmps170
  go_upto_region 1 with fail
  generalize w.alloc (.cells #[.string p.name, .int .i64 p.at_, .bool p.bare, .slice L1 p.label.length d1, .int .i64 p.wide, .int .i64 p.ck, .int .i64 p.cn, .int .i64 p.cat, .slice L2 p.cl.length d2, .int .i64 t.kind, .int .i64 t.at_, .int .i64 t.lo, .int .i64 t.hi, .int .i64 t.most, .slice N1 t.names.length N3, .slice M1 f.len M3, .string t.name, .int .i64 t.nat] 75) = V at *
  generalize w.heap.size = P at hA qb ⊢
  have a0 := (Lib.cell_of_heap hA 0).trans rfl
  have hK := heap_alloc_new V (.cells #[.string p.name, .string tColon] 9)
  have cU := Lib.hid fun R hR => putx_calls B b (x) [p.name, tColon] (p.name ++ tColon) (by simp only [catT, ByteArray.append_empty, ByteArray.append_assoc]) V.heap.size (V.alloc (.cells #[.string p.name, .string tColon] 9)) (h.alloc _) hK (by have := h.lt; omega) (by rw [ByteArray.size_append]; omega) (by simp only [List.length_cons, List.length_nil]; omega) R (by simp only [alz]; omega) hR
  replace hA := ((alB _ (.cells #[.string p.name, .string tColon] 9)).block _ (blt hA)).trans hA
  replace kw := kw.alloc hBw (.cells #[.string p.name, .string tColon] 9)
  clear hK
  go_wp2_with fail
  refine cU.out _ (Lib.hid fun w1 h2 k2 => ?_)
  clear cU h a0
  replace hA := k2.box hA qb (by decide)
  replace kw := kw.trans k2
  have hBV := Nat.le_trans hBw kw.m.size
  have h := h2
  clear h2 k2
  have cT := Lib.hid fun R hR => ih t (.slice N1 t.names.length N3) (.slice M1 f.len M3) B b (x ++ (p.name ++ tColon)) W0 w1 (pt.out.tt hb.out) pt.out.gh pt.out.ga pt.out.fl rd.out.y (h0.trans (kw.m.mono hB0)) hB0 h hBV (by simp only [ByteArray.size_append]; omega) R hR
  have rT : w1.rangeAt P 9 [.int .i64 t.kind, .int .i64 t.at_, .int .i64 t.lo, .int .i64 t.hi, .int .i64 t.most, .slice N1 t.names.length N3, .slice M1 f.len M3, .string t.name, .int .i64 t.nat] := fun j v h => by rw [Lib.cell_of_heap hA, List.getElem?_toArray, ← List.getElem?_drop]; exact h
  clear h
  go_wp2_with (refine wpList_load_g (by rfl) 30 _ rfl P 9 rfl [.int .i64 t.kind, .int .i64 t.at_, .int .i64 t.lo, .int .i64 t.hi, .int .i64 t.most, .slice N1 t.names.length N3, .slice M1 f.len M3, .string t.name, .int .i64 t.nat] _ rT Tryz.underlying30 rfl (by kernel_rfl) ?_; go_simp)
  refine cT.out _ (Lib.hid fun w2 h2 k2 => ?_)
  clear cT rT
  replace hA := k2.box hA qb (by decide)
  replace kw := kw.trans k2
  have hBV := Nat.le_trans hBw kw.m.size
  have h := h2
  clear h2 k2
  have cM := Lib.hid fun R hR => wmarks_calls B b (x ++ (p.name ++ tColon) ++ txT t f) p t (.slice L1 p.label.length d1) (.slice L2 p.cl.length d2) (.slice N1 t.names.length N3) (.slice M1 f.len M3) W0 w2 h hBV (h0.trans (kw.m.mono hB0)) hB0 rd.out.l rd.out.c ⟨_, _, _, rfl⟩ ⟨_, _, _, rfl⟩ pt.out.g.2.2.2.2.2.2.2.2.1 pt.out.g.2.2.2.2.2.2.2.2.2 pt.out.g.2.2.2.1 pt.out.g.2.2.2.2.2.1 (by simp only [ByteArray.size_append]; omega) R hR
  have rP : w2.rangeAt P 0 [.string p.name, .int .i64 p.at_, .bool p.bare, .slice L1 p.label.length d1, .int .i64 p.wide, .int .i64 p.ck, .int .i64 p.cn, .int .i64 p.cat, .slice L2 p.cl.length d2, .int .i64 t.kind, .int .i64 t.at_, .int .i64 t.lo, .int .i64 t.hi, .int .i64 t.most, .slice N1 t.names.length N3, .slice M1 f.len M3, .string t.name, .int .i64 t.nat] := fun j v e => by rw [Nat.zero_add, Lib.cell_of_heap hA]; simpa using e
  go_wp2_with (refine wpList_load_g (by rfl) 75 _ rfl P 0 rfl [.string p.name, .int .i64 p.at_, .bool p.bare, .slice L1 p.label.length d1, .int .i64 p.wide, .int .i64 p.ck, .int .i64 p.cn, .int .i64 p.cat, .slice L2 p.cl.length d2, .int .i64 t.kind, .int .i64 t.at_, .int .i64 t.lo, .int .i64 t.hi, .int .i64 t.most, .slice N1 t.names.length N3, .slice M1 f.len M3, .string t.name, .int .i64 t.nat] _ rP Tryz.underlying75 rfl (by kernel_rfl) ?_; go_simp)
  refine cM.out _ (Lib.hid fun w9 h9 k9 => ?_)
  have fin := Lib.hid (hR.out.out _ (by simp only [ByteArray.append_assoc] at h9 ⊢; exact h9) (kw.trans k9))
  clear hR h9 k9 cM h kw rP
  go_wp2_with fail
  first | refine bodyPost_ret ?_ rfl fin.out | refine bodyPost_end ?_ rfl fin.out
  simp [results, Tryz.results170, go_sem]
set_option maxRecDepth 100000 in
set_option maxHeartbeats 4000000 in
theorem tag_calls (p : PH) (t : TH) (f : Ft) (ih : AnyW f) : PartW 171 tagT 8 p t f := by
  intro lv cv nv pv B b x W0 w pt rd h0 hB0 h hBw hz R hR
  obtain ⟨L1, d1, L2, d2, N1, N3, M1, M3, rfl, rfl, rfl, rfl⟩ := rd.op
  have hlt := h.lt
  have hA := heap_alloc_new w (.cells #[.string p.name, .int .i64 p.at_, .bool p.bare, .slice L1 p.label.length d1, .int .i64 p.wide, .int .i64 p.ck, .int .i64 p.cn, .int .i64 p.cat, .slice L2 p.cl.length d2, .int .i64 t.kind, .int .i64 t.at_, .int .i64 t.lo, .int .i64 t.hi, .int .i64 t.most, .slice N1 t.names.length N3, .slice M1 f.len M3, .string t.name, .int .i64 t.nat] 75)
  have kw := (Wk.refl B b w).alloc hBw (.cells #[.string p.name, .int .i64 p.at_, .bool p.bare, .slice L1 p.label.length d1, .int .i64 p.wide, .int .i64 p.ck, .int .i64 p.cn, .int .i64 p.cat, .slice L2 p.cl.length d2, .int .i64 t.kind, .int .i64 t.at_, .int .i64 t.lo, .int .i64 t.hi, .int .i64 t.most, .slice N1 t.names.length N3, .slice M1 f.len M3, .string t.name, .int .i64 t.nat] 75)
  replace h := h.alloc (.cells #[.string p.name, .int .i64 p.at_, .bool p.bare, .slice L1 p.label.length d1, .int .i64 p.wide, .int .i64 p.ck, .int .i64 p.cn, .int .i64 p.cat, .slice L2 p.cl.length d2, .int .i64 t.kind, .int .i64 t.at_, .int .i64 t.lo, .int .i64 t.hi, .int .i64 t.most, .slice N1 t.names.length N3, .slice M1 f.len M3, .string t.name, .int .i64 t.nat] 75)
  have hBV : B ≤ (w.alloc (.cells #[.string p.name, .int .i64 p.at_, .bool p.bare, .slice L1 p.label.length d1, .int .i64 p.wide, .int .i64 p.ck, .int .i64 p.cn, .int .i64 p.cat, .slice L2 p.cl.length d2, .int .i64 t.kind, .int .i64 t.at_, .int .i64 t.lo, .int .i64 t.hi, .int .i64 t.most, .slice N1 t.names.length N3, .slice M1 f.len M3, .string t.name, .int .i64 t.nat] 75)).heap.size := by rw [alz]; omega
  have qb : w.heap.size ≠ b := by have := hlt; omega
  replace hR := Lib.hid hR
  replace rd := Lib.hid rd
  replace pt := Lib.hid pt
  go_enter Tryz.func171, Tryz.ntmps171
  go_upto_region 1 with fail
  generalize w.alloc (.cells #[.string p.name, .int .i64 p.at_, .bool p.bare, .slice L1 p.label.length d1, .int .i64 p.wide, .int .i64 p.ck, .int .i64 p.cn, .int .i64 p.cat, .slice L2 p.cl.length d2, .int .i64 t.kind, .int .i64 t.at_, .int .i64 t.lo, .int .i64 t.hi, .int .i64 t.most, .slice N1 t.names.length N3, .slice M1 f.len M3, .string t.name, .int .i64 t.nat] 75) = V at *
  generalize w.heap.size = P at hA qb ⊢
  have hpn : x.size + p.name.size ≤ 1000000000 := by
    have : p.name.size ≤ (tagT p (txT t f)).size := by unfold tagT; split; exact Nat.le_refl _; simp only [ByteArray.size_append]; omega
    omega
  have cN := Lib.hid fun R hR => wname_calls B b x (p.name, p.at_) V h hBV hpn R hR
  have a0 := (Lib.cell_of_heap hA 0).trans rfl
  have a1 := (Lib.cell_of_heap hA 1).trans rfl
  clear h
  go_wp2_with fail
  refine cN.out _ (Lib.hid fun w1 h2 k2 => ?_)
  clear cN a0 a1 hpn
  replace hA := k2.box hA qb (by decide)
  replace kw := kw.trans k2
  have hBV := Nat.le_trans hBw kw.m.size
  have h := h2
  clear h2 k2
  have a2 := (Lib.cell_of_heap hA 2).trans rfl
  rcases (Bool.eq_false_or_eq_true p.bare).symm with hb | hb
  · have hT : tagT p (txT t f) = p.name ++ (tLpar ++ (txT t f ++ (tRpar ++ mrkT p))) := by unfold tagT; rw [if_neg (by rw [hb]; decide)]; simp only [ByteArray.append_assoc]
    rw [hT] at hR hz
    clear hT
    simp only [ByteArray.size_append] at hz
    have eL : tLpar.size = 1 := rfl
    have eR : tRpar.size = 1 := rfl
    rw [hb] at a2
    replace hb := Lib.hid hb
    have hK := heap_alloc_new w1 (.cells #[.string tLpar] 9)
    have cU := Lib.hid fun R hR => putx_calls B b (x ++ p.name) [tLpar] (tLpar) (by simp only [catT, ByteArray.append_empty, ByteArray.append_assoc]) w1.heap.size (w1.alloc (.cells #[.string tLpar] 9)) (h.alloc _) hK (by have := h.lt; omega) (by rw [ByteArray.size_append]; omega) (by simp only [List.length_cons, List.length_nil]; omega) R (by simp only [alz]; omega) hR
    replace hA := ((alB _ (.cells #[.string tLpar] 9)).block _ (blt hA)).trans hA
    replace kw := kw.alloc hBw (.cells #[.string tLpar] 9)
    clear hK
    go_wp2_with fail
    refine cU.out _ (Lib.hid fun w2 h2 k2 => ?_)
    clear cU h a2
    replace hA := k2.box hA qb (by decide)
    replace kw := kw.trans k2
    have hBV := Nat.le_trans hBw kw.m.size
    have h := h2
    clear h2 k2
    have cT := Lib.hid fun R hR => ih t (.slice N1 t.names.length N3) (.slice M1 f.len M3) B b (x ++ p.name ++ tLpar) W0 w2 (pt.out.tt hb.out) pt.out.gh pt.out.ga pt.out.fl rd.out.y (h0.trans (kw.m.mono hB0)) hB0 h hBV (by simp only [ByteArray.size_append]; omega) R hR
    have rT : w2.rangeAt P 9 [.int .i64 t.kind, .int .i64 t.at_, .int .i64 t.lo, .int .i64 t.hi, .int .i64 t.most, .slice N1 t.names.length N3, .slice M1 f.len M3, .string t.name, .int .i64 t.nat] := fun j v h => by rw [Lib.cell_of_heap hA, List.getElem?_toArray, ← List.getElem?_drop]; exact h
    clear h
    go_wp2_with (refine wpList_load_g (by rfl) 30 _ rfl P 9 rfl [.int .i64 t.kind, .int .i64 t.at_, .int .i64 t.lo, .int .i64 t.hi, .int .i64 t.most, .slice N1 t.names.length N3, .slice M1 f.len M3, .string t.name, .int .i64 t.nat] _ rT Tryz.underlying30 rfl (by kernel_rfl) ?_; go_simp)
    refine cT.out _ (Lib.hid fun w3 h2 k2 => ?_)
    clear cT rT
    replace hA := k2.box hA qb (by decide)
    replace kw := kw.trans k2
    have hBV := Nat.le_trans hBw kw.m.size
    have h := h2
    clear h2 k2
    have hK := heap_alloc_new w3 (.cells #[.string tRpar] 9)
    have cU := Lib.hid fun R hR => putx_calls B b (x ++ p.name ++ tLpar ++ txT t f) [tRpar] (tRpar) (by simp only [catT, ByteArray.append_empty, ByteArray.append_assoc]) w3.heap.size (w3.alloc (.cells #[.string tRpar] 9)) (h.alloc _) hK (by have := h.lt; omega) (by simp only [ByteArray.size_append]; omega) (by simp only [List.length_cons, List.length_nil]; omega) R (by simp only [alz]; omega) hR
    replace hA := ((alB _ (.cells #[.string tRpar] 9)).block _ (blt hA)).trans hA
    replace kw := kw.alloc hBw (.cells #[.string tRpar] 9)
    clear hK
    go_wp2_with fail
    refine cU.out _ (Lib.hid fun w4 h2 k2 => ?_)
    clear cU h
    replace hA := k2.box hA qb (by decide)
    replace kw := kw.trans k2
    have hBV := Nat.le_trans hBw kw.m.size
    have h := h2
    clear h2 k2
    have cM := Lib.hid fun R hR => wmarks_calls B b (x ++ p.name ++ tLpar ++ txT t f ++ tRpar) p t (.slice L1 p.label.length d1) (.slice L2 p.cl.length d2) (.slice N1 t.names.length N3) (.slice M1 f.len M3) W0 w4 h hBV (h0.trans (kw.m.mono hB0)) hB0 rd.out.l rd.out.c ⟨_, _, _, rfl⟩ ⟨_, _, _, rfl⟩ pt.out.g.2.2.2.2.2.2.2.2.1 pt.out.g.2.2.2.2.2.2.2.2.2 pt.out.g.2.2.2.1 pt.out.g.2.2.2.2.2.1 (by simp only [ByteArray.size_append]; omega) R hR
    have rP : w4.rangeAt P 0 [.string p.name, .int .i64 p.at_, .bool p.bare, .slice L1 p.label.length d1, .int .i64 p.wide, .int .i64 p.ck, .int .i64 p.cn, .int .i64 p.cat, .slice L2 p.cl.length d2, .int .i64 t.kind, .int .i64 t.at_, .int .i64 t.lo, .int .i64 t.hi, .int .i64 t.most, .slice N1 t.names.length N3, .slice M1 f.len M3, .string t.name, .int .i64 t.nat] := fun j v e => by rw [Nat.zero_add, Lib.cell_of_heap hA]; simpa using e
    go_wp2_with (refine wpList_load_g (by rfl) 75 _ rfl P 0 rfl [.string p.name, .int .i64 p.at_, .bool p.bare, .slice L1 p.label.length d1, .int .i64 p.wide, .int .i64 p.ck, .int .i64 p.cn, .int .i64 p.cat, .slice L2 p.cl.length d2, .int .i64 t.kind, .int .i64 t.at_, .int .i64 t.lo, .int .i64 t.hi, .int .i64 t.most, .slice N1 t.names.length N3, .slice M1 f.len M3, .string t.name, .int .i64 t.nat] _ rP Tryz.underlying75 rfl (by kernel_rfl) ?_; go_simp)
    refine cM.out _ (Lib.hid fun w9 h9 k9 => ?_)
    have fin := Lib.hid (hR.out.out _ (by simp only [ByteArray.append_assoc] at h9 ⊢; exact h9) (kw.trans k9))
    clear hR h9 k9 cM h kw rP
    go_wp2_with fail
    first | refine bodyPost_ret ?_ rfl fin.out | refine bodyPost_end ?_ rfl fin.out
    simp [results, Tryz.results171, go_sem]
  · have hT : tagT p (txT t f) = p.name := by unfold tagT; rw [if_pos hb]
    rw [hT] at hR
    clear hT
    rw [hb] at a2
    clear hb
    have fin := Lib.hid (hR.out.out _ h kw)
    clear hR h kw
    go_wp2_with fail
    first | refine bodyPost_ret ?_ rfl fin.out | refine bodyPost_end ?_ rfl fin.out
    simp [results, Tryz.results171, go_sem]
end Go.Proofs.YtbochlbgjnmgjaaGreat.Unp

/- Layer 17, the code: lists of parts. -/
set_option maxRecDepth 100000
set_option linter.unusedVariables false
namespace Go.Proofs.YtbochlbgjnmgjaaGreat.Unp
open Go.RowKit Go.Lib Go.Proofs.YtbochlbgjnmgjaaGreat.Nam Go.Proofs.YtbochlbgjnmgjaaGreat.Lat Go.Proofs.YtbochlbgjnmgjaaGreat.Kin Go.Proofs.YtbochlbgjnmgjaaGreat.Dig

theorem txF_drop : ∀ (n : Nat) (f : Ft), txF (f.drop n) = (txF f).drop n
  | 0, f => by cases f <;> rfl
  | n + 1, .nil => by rw [Fo.drop_nil]; rfl
  | n + 1, .cons p h k r => txF_drop n r
theorem okF_at {K : Int} : ∀ (n : Nat) {f : Ft} {p : PH} {x : TH} {k r : Ft}, okF K f → f.drop n = .cons p x k r → (K = 7 ∨ K = 8 → okP K p x k) ∧ (p.bare = false → okT x k)
  | 0, f, p, x, k, r, a, e => by
    have e' : f = .cons p x k r := by cases f <;> exact e
    rw [e'] at a
    exact ⟨a.1, a.2.1⟩
  | n + 1, .nil, p, x, k, r, a, e => by rw [Fo.drop_nil] at e; cases e
  | n + 1, .cons q y l s, p, x, k, r, a, e => okF_at n a.2.2 e
set_option maxRecDepth 100000 in
set_option maxHeartbeats 4000000 in
theorem sepp_calls (fn : FuncId) (hF : ∀ (args : Array Value) (w : World), (callFunc fn args).run Tryz.prog w = .ok (.enter fn args) w) (F : PH → ByteArray → ByteArray) (K : Int) (f : Ft) (hE : Hid (∀ i p t k r, f.drop i = .cons p t k r → PartW fn F K p t k ∧ PtW K p t k)) (B b : Nat) (x : ByteArray) (m : ByteArray) (v : Value) (W0 : World) (w : World) (h : Wld B b x w) (hBw : B ≤ w.heap.size) (h0 : Below W0.heap.size W0 w) (hB0 : W0.heap.size ≤ B) (hr : RdP W0 v f) (hl : f.len ≤ maxLen) (hz : x.size + (sepT m (fun y => F y.1 y.2) 0 (txF f)).size ≤ 1000000000) (R : Ending → World → Prop)
    (hR : Hid (∀ w', Wld B b (x ++ sepT m (fun y => F y.1 y.2) 0 (txF f)) w' → Wk B b w w' → R (.returned (.tuple #[])) w')) : Calls Tryz.prog 208 #[.pointer (some ⟨b, 0, none⟩), .string m, v, .func (.func fn) #[.pointer (some ⟨b, 0, none⟩)] #[]] w R := by
  replace hl : f.len ≤ 9223372036854775807 := hl
  obtain ⟨A, cp, rfl, hlc⟩ := hr.sl
  have hS : x ++ sepT m (fun y => F y.1 y.2) 0 (txF f) = x ++ sepT m (fun y => F y.1 y.2) 0 ((txF f).drop 0) := rfl
  have hz2 : (x ++ sepT m (fun y => F y.1 y.2) 0 (txF f)).size ≤ 1000000000 := by rw [ByteArray.size_append]; exact hz
  generalize hT : x ++ sepT m (fun y => F y.1 y.2) 0 (txF f) = T at *
  replace hT := Lib.hid hT
  replace hR := Lib.hid hR
  replace hr := Lib.hid hr
  go_enter Tryz.func208, Tryz.ntmps208
  go_wp2_with fail
  go_loopg [12] f.len (fun g0 i wr => ∃ (J : Nat) (c : ByteArray), i = .int .i64 J ∧ J + g0 = f.len ∧ Hid (T = c ++ sepT m (fun y => F y.1 y.2) J ((txF f).drop J)) ∧ Hid (Wld B b c wr) ∧ Hid (Wk B b w wr))
  case atStart => exact ⟨0, x, rfl, by omega, Lib.hid hS, Lib.hid h, Lib.hid (Wk.refl B b w)⟩
  case round =>
    clear h hS
    obtain ⟨J, c, rfl, c1, hc, h, kw⟩ := hrel
    replace hc := hc.out
    replace h := h.out
    replace kw := kw.out
    have hBV := Nat.le_trans hBw kw.m.size
    by_cases hJ : J < f.len
    · obtain ⟨p, t, k, r, e⟩ := Fo.drop_lt hJ
      have hd : (txF f).drop J = (p, txT t k) :: (txF f).drop (J + 1) := by rw [← txF_drop, ← txF_drop, e, Fo.drop_succ J e]; rfl
      have hb := h0.trans (kw.m.mono hB0)
      obtain ⟨g, o, lv, cv, nv, pv, rfl, hg, rl, rc, ry, hca⟩ := hr.out.part e
      have rd : RdPt W0 p t k lv cv nv pv := ⟨rl, rc, ry⟩
      obtain ⟨L1, d1, L2, d2, N1, N3, M1, M3, rfl, rfl, rfl, rfl⟩ := rd.op
      obtain ⟨pw, pt⟩ := hE.out J p t k r e
      rw [hd] at hc
      have hc' : T = c ++ ((if J = 0 then F p (txT t k) else m ++ F p (txT t k)) ++ sepT m (fun y => F y.1 y.2) (J + 1) ((txF f).drop (J + 1))) := hc
      clear hc hd e rl rc ry
      have hc := hc'
      clear hc'
      have rg : wr.rangeAt g (o + J * 18) [.string p.name, .int .i64 p.at_, .bool p.bare, .slice L1 p.label.length d1, .int .i64 p.wide, .int .i64 p.ck, .int .i64 p.cn, .int .i64 p.cat, .slice L2 p.cl.length d2, .int .i64 t.kind, .int .i64 t.at_, .int .i64 t.lo, .int .i64 t.hi, .int .i64 t.most, .slice N1 t.names.length N3, .slice M1 k.len M3, .string t.name, .int .i64 t.nat] := fun j v q => (hb.cell (p := ⟨g, o + J * 18 + j, none⟩) hg).trans (hca j v q)
      have i0 : (0 : Int) ≤ (J : Int) := by omega
      have i1 : (J : Int) < (f.len : Int) := by omega
      have qb : wr.heap.size ≠ b := by have := h.lt; omega
      have hA := heap_alloc_new wr (.cells #[.string p.name, .int .i64 p.at_, .bool p.bare, .slice L1 p.label.length d1, .int .i64 p.wide, .int .i64 p.ck, .int .i64 p.cn, .int .i64 p.cat, .slice L2 p.cl.length d2, .int .i64 t.kind, .int .i64 t.at_, .int .i64 t.lo, .int .i64 t.hi, .int .i64 t.most, .slice N1 t.names.length N3, .slice M1 k.len M3, .string t.name, .int .i64 t.nat] 75)
      replace kw := kw.alloc hBw (.cells #[.string p.name, .int .i64 p.at_, .bool p.bare, .slice L1 p.label.length d1, .int .i64 p.wide, .int .i64 p.ck, .int .i64 p.cn, .int .i64 p.cat, .slice L2 p.cl.length d2, .int .i64 t.kind, .int .i64 t.at_, .int .i64 t.lo, .int .i64 t.hi, .int .i64 t.most, .slice N1 t.names.length N3, .slice M1 k.len M3, .string t.name, .int .i64 t.nat] 75)
      replace h := h.alloc (.cells #[.string p.name, .int .i64 p.at_, .bool p.bare, .slice L1 p.label.length d1, .int .i64 p.wide, .int .i64 p.ck, .int .i64 p.cn, .int .i64 p.cat, .slice L2 p.cl.length d2, .int .i64 t.kind, .int .i64 t.at_, .int .i64 t.lo, .int .i64 t.hi, .int .i64 t.most, .slice N1 t.names.length N3, .slice M1 k.len M3, .string t.name, .int .i64 t.nat] 75)
      replace hBV := Nat.le_trans hBw kw.m.size
      clear hca hb hg
      go_upto_region 3 with (first | (refine wpList_load_g (by rfl) 75 _ rfl g (o + J * 18) rfl [.string p.name, .int .i64 p.at_, .bool p.bare, .slice L1 p.label.length d1, .int .i64 p.wide, .int .i64 p.ck, .int .i64 p.cn, .int .i64 p.cat, .slice L2 p.cl.length d2, .int .i64 t.kind, .int .i64 t.at_, .int .i64 t.lo, .int .i64 t.hi, .int .i64 t.most, .slice N1 t.names.length N3, .slice M1 k.len M3, .string t.name, .int .i64 t.nat] _ rg Tryz.underlying75 rfl (by kernel_rfl) ?_; go_simp) | (refine wpList_copy3 #[.string p.name, .int .i64 p.at_, .bool p.bare, .slice L1 p.label.length d1, .int .i64 p.wide, .int .i64 p.ck, .int .i64 p.cn, .int .i64 p.cat, .slice L2 p.cl.length d2, .int .i64 t.kind, .int .i64 t.at_, .int .i64 t.lo, .int .i64 t.hi, .int .i64 t.most, .slice N1 t.names.length N3, .slice M1 k.len M3, .string t.name, .int .i64 t.nat] _ ⟨rfl, rfl, rfl⟩ rfl (fun _ _ => rfl) ⟨rfl, rfl, rfl⟩ part_alloc (by kernel_rfl) ⟨rfl, by simp [Value.oneCell']⟩ (fun _ => ⟨rfl, rfl⟩) ?_; go_simp))
      generalize wr.alloc (.cells #[.string p.name, .int .i64 p.at_, .bool p.bare, .slice L1 p.label.length d1, .int .i64 p.wide, .int .i64 p.ck, .int .i64 p.cn, .int .i64 p.cat, .slice L2 p.cl.length d2, .int .i64 t.kind, .int .i64 t.at_, .int .i64 t.lo, .int .i64 t.hi, .int .i64 t.most, .slice N1 t.names.length N3, .slice M1 k.len M3, .string t.name, .int .i64 t.nat] 75) = V at *
      generalize wr.heap.size = P at hA qb ⊢
      clear rg
      by_cases hk : J = 0
      · have hk0 : J = 0 := hk
        subst hk0
        rw [if_pos rfl] at hc
        have hzc : c.size + (F p (txT t k)).size ≤ 1000000000 := by rw [hc, ByteArray.size_append, ByteArray.size_append] at hz2; omega
        replace hc := Lib.hid hc
        have cN := Lib.hid fun R hR => pw (.slice L1 p.label.length d1) (.slice L2 p.cl.length d2) (.slice N1 t.names.length N3) (.slice M1 k.len M3) B b c W0 V pt rd (h0.trans (kw.m.mono hB0)) hB0 h hBV hzc R hR
        have rP : V.rangeAt P 0 [.string p.name, .int .i64 p.at_, .bool p.bare, .slice L1 p.label.length d1, .int .i64 p.wide, .int .i64 p.ck, .int .i64 p.cn, .int .i64 p.cat, .slice L2 p.cl.length d2, .int .i64 t.kind, .int .i64 t.at_, .int .i64 t.lo, .int .i64 t.hi, .int .i64 t.most, .slice N1 t.names.length N3, .slice M1 k.len M3, .string t.name, .int .i64 t.nat] := fun j v e => by rw [Nat.zero_add, Lib.cell_of_heap hA]; simpa using e
        clear h
        go_wp2_with (refine wpList_load_g (by rfl) 75 _ rfl P 0 rfl [.string p.name, .int .i64 p.at_, .bool p.bare, .slice L1 p.label.length d1, .int .i64 p.wide, .int .i64 p.ck, .int .i64 p.cn, .int .i64 p.cat, .slice L2 p.cl.length d2, .int .i64 t.kind, .int .i64 t.at_, .int .i64 t.lo, .int .i64 t.hi, .int .i64 t.most, .slice N1 t.names.length N3, .slice M1 k.len M3, .string t.name, .int .i64 t.nat] _ rP Tryz.underlying75 rfl (by kernel_rfl) ?_; go_simp)
        refine cN.out _ (Lib.hid fun w2 h2 k2 => ?_)
        have hc2 := Lib.hid (show T = c ++ F p (txT t k) ++ sepT m (fun y => F y.1 y.2) (0 + 1) ((txF f).drop (0 + 1)) by rw [hc.out]; simp only [ByteArray.append_assoc])
        have h3 := Lib.hid h2
        have k3 := Lib.hid (kw.trans k2)
        clear h2 k2 cN hA rP kw hc pw pt rd
        go_wp2_with fail
        go_roundg (gk - 1)
        case measure => omega
        case rel => exact ⟨0 + 1, c ++ F p (txT t k), by go_num, by omega, hc2, h3, k3⟩
      · have i2 : (0 : Int) < (J : Int) := by omega
        rw [if_neg hk] at hc
        have hzc : c.size + m.size + (F p (txT t k)).size ≤ 1000000000 := by rw [hc, ByteArray.size_append, ByteArray.size_append, ByteArray.size_append] at hz2; omega
        replace hc := Lib.hid hc
        have hK := heap_alloc_new V (.cells #[.string m] 9)
        have cU := Lib.hid fun R hR => putx_calls B b (c) [m] (m) (by simp only [catT, ByteArray.append_empty, ByteArray.append_assoc]) V.heap.size (V.alloc (.cells #[.string m] 9)) (h.alloc _) hK (by have := h.lt; omega) (by omega) (by simp only [List.length_cons, List.length_nil]; omega) R (by simp only [alz]; omega) hR
        replace hA := ((alB _ (.cells #[.string m] 9)).block _ (blt hA)).trans hA
        replace kw := kw.alloc hBw (.cells #[.string m] 9)
        clear hK
        go_wp2_with fail
        refine cU.out _ (Lib.hid fun w1 h2 k2 => ?_)
        clear cU h
        replace hA := k2.box hA qb (by decide)
        replace kw := kw.trans k2
        have hBV := Nat.le_trans hBw kw.m.size
        have h := h2
        clear h2 k2
        have cN := Lib.hid fun R hR => pw (.slice L1 p.label.length d1) (.slice L2 p.cl.length d2) (.slice N1 t.names.length N3) (.slice M1 k.len M3) B b (c ++ m) W0 w1 pt rd (h0.trans (kw.m.mono hB0)) hB0 h hBV (by rw [ByteArray.size_append]; exact hzc) R hR
        have rP : w1.rangeAt P 0 [.string p.name, .int .i64 p.at_, .bool p.bare, .slice L1 p.label.length d1, .int .i64 p.wide, .int .i64 p.ck, .int .i64 p.cn, .int .i64 p.cat, .slice L2 p.cl.length d2, .int .i64 t.kind, .int .i64 t.at_, .int .i64 t.lo, .int .i64 t.hi, .int .i64 t.most, .slice N1 t.names.length N3, .slice M1 k.len M3, .string t.name, .int .i64 t.nat] := fun j v e => by rw [Nat.zero_add, Lib.cell_of_heap hA]; simpa using e
        clear h
        go_wp2_with (refine wpList_load_g (by rfl) 75 _ rfl P 0 rfl [.string p.name, .int .i64 p.at_, .bool p.bare, .slice L1 p.label.length d1, .int .i64 p.wide, .int .i64 p.ck, .int .i64 p.cn, .int .i64 p.cat, .slice L2 p.cl.length d2, .int .i64 t.kind, .int .i64 t.at_, .int .i64 t.lo, .int .i64 t.hi, .int .i64 t.most, .slice N1 t.names.length N3, .slice M1 k.len M3, .string t.name, .int .i64 t.nat] _ rP Tryz.underlying75 rfl (by kernel_rfl) ?_; go_simp)
        refine cN.out _ (Lib.hid fun w2 h2 k2 => ?_)
        have hc2 := Lib.hid (show T = (c ++ m) ++ F p (txT t k) ++ sepT m (fun y => F y.1 y.2) (J + 1) ((txF f).drop (J + 1)) by rw [hc.out]; simp only [ByteArray.append_assoc])
        have h3 := Lib.hid h2
        have k3 := Lib.hid (kw.trans k2)
        clear h2 k2 cN hA rP kw hc pw pt rd
        go_wp2_with fail
        go_roundg (gk - 1)
        case measure => omega
        case rel => exact ⟨J + 1, (c ++ m) ++ F p (txT t k), by go_num, by omega, hc2, h3, k3⟩
    · obtain rfl : J = f.len := by omega
      rw [← txF_len, sep_end, ByteArray.append_empty] at hc
      subst hc
      have fin := Lib.hid (hR.out.out _ h kw)
      clear hR
      go_wp2_with fail
      first | refine bodyPost_ret ?_ rfl fin.out | refine bodyPost_end ?_ rfl fin.out
      simp [results, Tryz.results208, go_sem]
set_option maxRecDepth 100000 in
set_option maxHeartbeats 1000000 in
theorem listp_calls (fn : FuncId) (hF : ∀ (args : Array Value) (w : World), (callFunc fn args).run Tryz.prog w = .ok (.enter fn args) w) (F : PH → ByteArray → ByteArray) (K : Int) (f : Ft) (hE : Hid (∀ i p t k r, f.drop i = .cons p t k r → PartW fn F K p t k ∧ PtW K p t k)) (B b : Nat) (x : ByteArray) (v : Value) (W0 : World) (w : World) (h : Wld B b x w) (hBw : B ≤ w.heap.size) (h0 : Below W0.heap.size W0 w) (hB0 : W0.heap.size ≤ B) (hr : RdP W0 v f) (hl : f.len ≤ maxLen) (hz : x.size + (sepT tComma (fun y => F y.1 y.2) 0 (txF f)).size ≤ 1000000000) (R : Ending → World → Prop)
    (hR : Hid (∀ w', Wld B b (x ++ sepT tComma (fun y => F y.1 y.2) 0 (txF f)) w' → Wk B b w w' → R (.returned (.tuple #[])) w')) : Calls Tryz.prog 169 #[.pointer (some ⟨b, 0, none⟩), v, .func (.func fn) #[.pointer (some ⟨b, 0, none⟩)] #[]] w R := by
  obtain ⟨A, cp, rfl, -⟩ := hr.sl
  go_enter Tryz.func169, Tryz.ntmps169
  go_wp2_with fail
  refine sepp_calls fn hF F K f hE B b x tComma (.slice A f.len cp) W0 w h hBw h0 hB0 hr hl hz _ (Lib.hid fun w1 h1 k1 => ?_)
  have fin := Lib.hid (hR.out _ h1 k1)
  clear hR h1 k1
  go_wp2_with fail
  first | refine bodyPost_ret ?_ rfl fin.out | refine bodyPost_end ?_ rfl fin.out
  simp [results, Tryz.results169, go_sem]
end Go.Proofs.YtbochlbgjnmgjaaGreat.Unp
