import Derived.Test.YtbochlbgjnmgjaaGreatG10
import Derived.Test.YtbochlbgjnmgjaaGreatZKinL
import Derived.Test.YtbochlbgjnmgjaaGreatG2
/- Layer 17: the code's Type; the chapter's example. -/
set_option maxRecDepth 100000
set_option linter.unusedVariables false
namespace Go.Proofs.YtbochlbgjnmgjaaGreat.Unp
open Go.RowKit Go.Lib Go.Proofs.YtbochlbgjnmgjaaGreat.Nam Go.Proofs.YtbochlbgjnmgjaaGreat.Lat Go.Proofs.YtbochlbgjnmgjaaGreat.Kin Go.Proofs.YtbochlbgjnmgjaaGreat.Dig

theorem run_fieldE (e z : Int) (w : World) : (Instr.field 35 (.agg #[.int .i64 e, .int .i64 z]) 0).run Tryz.prog w = .ok (.int .i64 e) w := by
  simp [Instr.field, run_underlying Tryz.underlying35, part, asAgg, Tryz.isAgg33, go_sem]
theorem nod_pos (h : TH) (ps : List Px) : 0 < (nodT h ps).size := by
  unfold nodT
  repeat' split
  all_goals first | (show 0 < 4; omega) | (simp only [ByteArray.size_append]; have e1 : tInt.size = 4 := rfl; have e2 : tText.size = 5 := rfl; have e3 : tEnum.size = 5 := rfl; have e4 : tList.size = 5 := rfl; have e5 : tOpt.size = 4 := rfl; have e6 : tRecord.size = 7 := rfl; have e7 : tUnion.size = 6 := rfl; have e8 : tRef.size = 4 := rfl; omega)
theorem txT_pos (h : TH) (k : Ft) : 0 < (txT h k).size := nod_pos h _
/-- What the code's Type hands back. -/
noncomputable def typU (t : TH) (f : Ft) : ByteArray := if (wcS t f).1 = 0 then txT t f else ByteArray.empty
theorem ok_size {t : TH} {f : Ft} (e : (wcS t f).1 = 0) (gh : GoodH t) (ga : f.All GoodH GoodL) : (txT t f).size ≤ 1000000000 := by
  obtain ⟨a, b, -⟩ := wc_ok e
  have := txT_size a gh ga
  omega
abbrev tL1 : TH := ⟨1, 0, 0, 0, 0, [], ByteArray.empty, 0⟩
abbrev tL6 : TH := ⟨6, 0, 0, 0, 0, [], ByteArray.empty, 0⟩
abbrev fL : Ft := .cons zPH tL1 .nil .nil
theorem own_l1 : ownB tL1 .nil = true := by unfold ownB; simp [Fo.len]
theorem own_l6 : ownB tL6 fL = true := by unfold ownB; simp [Fo.len]
theorem only_l : onlyB fL = true := by
  show (decide (zPH.name = ByteArray.empty) && plainB zPH zPH) = true
  rw [plainB_refl]
  rfl
theorem lives_wc : (wcS tL6 fL).1 = 0 := by
  unfold wcS
  rw [wrB_5 (M := 1) rfl (by decide) (by decide) own_l6 (.inr rfl), if_neg (by rw [only_l]; decide), if_neg (by decide)]
  show (wrB tL1 .nil (wcF .nil) 2 1).1 = 0
  rw [wrB_1 (M := 2) rfl (by decide) (by decide) own_l1 rfl]
theorem lives_tx : typU tL6 fL = ⟨#[111, 112, 116, 40, 98, 111, 111, 108, 41]⟩ := by
  unfold typU
  rw [if_pos lives_wc]
  rfl
theorem goodH_l (k : Int) (h : k = 1 ∨ k = 6) : GoodH ⟨k, 0, 0, 0, 0, [], ByteArray.empty, 0⟩ := by
  refine ⟨?_, by simp [I64], by simp [I64], by simp [I64], by simp [I64], by simp, by simp [maxLen], by simp [I64], by simp [maxLen]⟩
  unfold I64
  show -9223372036854775808 ≤ k ∧ k ≤ 9223372036854775807
  omega
theorem goodF_l : fL.All GoodH GoodL := ⟨⟨by simp [zPH, maxLen], by simp [zPH, I64], by simp [zPH], by simp [zPH, I64], by simp [zPH, I64], by simp [zPH, I64], by simp [zPH, I64], by simp [zPH], by simp [zPH, maxLen], by simp [zPH, maxLen]⟩, goodH_l 1 (.inl rfl), by simp [Fo.len], trivial, trivial⟩
set_option maxRecDepth 100000 in
set_option maxHeartbeats 1000000 in
theorem isright_calls (f : Ft) (t : TH) (nv pv : Value) (w : World) (gh : GoodH t) (hfl : f.len ≤ maxLen) (hga : f.All GoodH GoodL) (hy : RdY w t f nv pv) (R : Ending → World → Prop)
    (hR : Hid (∀ w', Below w.heap.size w w' → R (.returned (.bool (decide ((wcS t f).1 = 0)))) w')) : Calls Tryz.prog 52 #[tyV t nv pv] w R := by
  obtain ⟨N1, N3, rfl, -, -⟩ := hy.n.op
  obtain ⟨M1, M3, rfl, -⟩ := hy.p.sl
  have hA := heap_alloc_new w (.cells #[.int .i64 t.kind, .int .i64 t.at_, .int .i64 t.lo, .int .i64 t.hi, .int .i64 t.most, .slice N1 t.names.length N3, .slice M1 f.len M3, .string t.name, .int .i64 t.nat] 30)
  have n := (Below.refl w.heap.size w).alloc (Nat.le_refl _) (.cells #[.int .i64 t.kind, .int .i64 t.at_, .int .i64 t.lo, .int .i64 t.hi, .int .i64 t.most, .slice N1 t.names.length N3, .slice M1 f.len M3, .string t.name, .int .i64 t.nat] 30)
  replace hy := Lib.hid (hy.below n)
  have hR2 := Lib.hid hR
  clear hR
  go_enter Tryz.func52, Tryz.ntmps52
  go_upto_region 1 with fail
  generalize w.alloc (.cells #[.int .i64 t.kind, .int .i64 t.at_, .int .i64 t.lo, .int .i64 t.hi, .int .i64 t.most, .slice N1 t.names.length N3, .slice M1 f.len M3, .string t.name, .int .i64 t.nat] 30) = V at *
  generalize w.heap.size = P at hA ⊢
  have rT : V.rangeAt P 0 [.int .i64 t.kind, .int .i64 t.at_, .int .i64 t.lo, .int .i64 t.hi, .int .i64 t.most, .slice N1 t.names.length N3, .slice M1 f.len M3, .string t.name, .int .i64 t.nat] := fun j v e => by rw [Nat.zero_add, Lib.cell_of_heap hA]; simpa using e
  have cR := Lib.hid fun R hR => right15_calls f t (.slice N1 t.names.length N3) (.slice M1 f.len M3) V gh hfl hga hy.out R hR
  go_wp2_with (refine wpList_load_g (by rfl) 30 _ rfl P 0 rfl [.int .i64 t.kind, .int .i64 t.at_, .int .i64 t.lo, .int .i64 t.hi, .int .i64 t.most, .slice N1 t.names.length N3, .slice M1 f.len M3, .string t.name, .int .i64 t.nat] _ rT Tryz.underlying30 rfl (by kernel_rfl) ?_; go_simp)
  refine cR.out _ (Lib.hid fun w1 m1 => ?_)
  have fin := Lib.hid (hR2.out.out _ (n.trans (m1.mono n.size)))
  clear hR2 cR rT hA m1
  generalize (wcS t f).1 = e at *
  generalize (wcS t f).2.1 = e2 at *
  have hfE := fun w => run_fieldE e e2 w
  cases hq : decide (e = 0)
  · rw [hq] at fin
    have q : (e == 0) = false := by simpa using hq
    clear hq
    go_wp2_with fail
    exact fin.out
  · rw [hq] at fin
    have q : (e == 0) = true := by simpa using hq
    clear hq
    go_wp2_with fail
    exact fin.out
set_option maxRecDepth 100000 in
set_option maxHeartbeats 2000000 in
theorem utype_calls (f : Ft) (t : TH) (nv pv : Value) (w : World) (gh : GoodH t) (hfl : f.len ≤ maxLen) (hga : f.All GoodH GoodL) (hy : RdY w t f nv pv) (R : Ending → World → Prop)
    (hR : Hid (∀ w', Below w.heap.size w w' → R (.returned (.string (typU t f))) w')) : Calls Tryz.prog 41 #[tyV t nv pv] w R := by
  obtain ⟨N1, N3, rfl, -, -⟩ := hy.n.op
  obtain ⟨M1, M3, rfl, -⟩ := hy.p.sl
  have hA := heap_alloc_new w (.cells #[.int .i64 t.kind, .int .i64 t.at_, .int .i64 t.lo, .int .i64 t.hi, .int .i64 t.most, .slice N1 t.names.length N3, .slice M1 f.len M3, .string t.name, .int .i64 t.nat] 30)
  have n := (Below.refl w.heap.size w).alloc (Nat.le_refl _) (.cells #[.int .i64 t.kind, .int .i64 t.at_, .int .i64 t.lo, .int .i64 t.hi, .int .i64 t.most, .slice N1 t.names.length N3, .slice M1 f.len M3, .string t.name, .int .i64 t.nat] 30)
  replace hy := Lib.hid (hy.below n)
  have hq : typU t f = if (wcS t f).1 = 0 then txT t f else ByteArray.empty := rfl
  rw [hq] at hR
  clear hq
  have hok := fun e : (wcS t f).1 = 0 => And.intro (wc_ok e).1 (ok_size e gh hga)
  have hR2 := Lib.hid hR
  clear hR
  go_enter Tryz.func41, Tryz.ntmps41
  go_upto_region 1 with fail
  generalize w.alloc (.cells #[.int .i64 t.kind, .int .i64 t.at_, .int .i64 t.lo, .int .i64 t.hi, .int .i64 t.most, .slice N1 t.names.length N3, .slice M1 f.len M3, .string t.name, .int .i64 t.nat] 30) = V at *
  have hP : w.heap.size ≤ w.heap.size := Nat.le_refl _
  generalize w.heap.size = P at hA ⊢
  have rT : V.rangeAt P 0 [.int .i64 t.kind, .int .i64 t.at_, .int .i64 t.lo, .int .i64 t.hi, .int .i64 t.most, .slice N1 t.names.length N3, .slice M1 f.len M3, .string t.name, .int .i64 t.nat] := fun j v e => by rw [Nat.zero_add, Lib.cell_of_heap hA]; simpa using e
  have cR := Lib.hid fun R hR => isright_calls f t (.slice N1 t.names.length N3) (.slice M1 f.len M3) V gh hfl hga hy.out R hR
  go_wp2_with (refine wpList_load_g (by rfl) 30 _ rfl P 0 rfl [.int .i64 t.kind, .int .i64 t.at_, .int .i64 t.lo, .int .i64 t.hi, .int .i64 t.most, .slice N1 t.names.length N3, .slice M1 f.len M3, .string t.name, .int .i64 t.nat] _ rT Tryz.underlying30 rfl (by kernel_rfl) ?_; go_simp)
  refine cR.out _ (Lib.hid fun w1 m1 => ?_)
  replace hA := (m1.block _ (blt hA)).trans hA
  replace hy := Lib.hid (hy.out.below m1)
  replace n := n.trans (m1.mono n.size)
  clear cR rT m1 hP
  by_cases he : (wcS t f).1 = 0
  · rw [decide_eq_true he]
    rw [if_pos he] at hR2
    obtain ⟨ok, hz⟩ := hok he
    clear he hok
    have hlA := blt hA
    have hW := Wld.fresh w1
    have n2 := n.alloc n.size (.cells #[.pointer none, .slice none 0 0] 94)
    have hb0 := (Below.refl w1.heap.size w1).alloc (Nat.le_refl _) (.cells #[.pointer none, .slice none 0 0] 94)
    have hA2 := (hb0.block _ hlA).trans hA
    have lV : w1.heap.size ≤ (w1.alloc (.cells #[.pointer none, .slice none 0 0] 94)).heap.size := by rw [alz]; omega
    go_upto_region 4 with fail
    generalize hV2 : w1.alloc (.cells #[.pointer none, .slice none 0 0] 94) = V2 at *
    have rT : V2.rangeAt P 0 [.int .i64 t.kind, .int .i64 t.at_, .int .i64 t.lo, .int .i64 t.hi, .int .i64 t.most, .slice N1 t.names.length N3, .slice M1 f.len M3, .string t.name, .int .i64 t.nat] := fun j v e => by rw [Nat.zero_add, Lib.cell_of_heap hA2]; simpa using e
    have cT := Lib.hid fun R hR => any_calls f t (.slice N1 t.names.length N3) (.slice M1 f.len M3) w1.heap.size w1.heap.size ByteArray.empty w1 V2 ok gh hga hfl hy.out hb0 (Nat.le_refl _) hW lV (by have e : ByteArray.empty.size = 0 := rfl; omega) R hR
    generalize hbb : w1.heap.size = b at *
    go_wp2_with (refine wpList_load_g (by rfl) 30 _ rfl P 0 rfl [.int .i64 t.kind, .int .i64 t.at_, .int .i64 t.lo, .int .i64 t.hi, .int .i64 t.most, .slice N1 t.names.length N3, .slice M1 f.len M3, .string t.name, .int .i64 t.nat] _ rT Tryz.underlying30 rfl (by kernel_rfl) ?_; go_simp)
    refine cT.out _ (Lib.hid fun w3 h3 k3 => ?_)
    clear cT rT hA2 hA hW
    have nb : w.heap.size ≤ b := by rw [← hbb]; exact n.size
    have n3 := n2.trans (k3.m.mono nb)
    have hp : 0 < (ByteArray.empty ++ txT t f).size := by rw [ByteArray.size_append]; have := txT_pos t f; omega
    have cS := Lib.hid fun R hR => wstring_calls b b (ByteArray.empty ++ txT t f) w3 h3 hp R hR
    rw [ByteArray.empty_append] at cS
    clear hbb hV2
    obtain ⟨p0, pv0, hpw⟩ : ∃ p0 pv0, w3.heap[b]? = some (.cells #[p0, pv0] 94 (0, 0)) := by
      rcases h3 with q | q
      · obtain ⟨-, v, e, -⟩ := q; exact ⟨_, v, e⟩
      · obtain ⟨-, v, e, -⟩ := q; exact ⟨_, v, e⟩
    clear h3 k3 hp
    go_wp2_with fail
    refine cS.out _ (Lib.hid fun w4 m4 => ?_)
    have fin := Lib.hid (hR2.out.out _ (n3.trans (m4.mono nb)))
    clear hR2 cS m4
    go_wp2_with fail
    exact fin.out
  · rw [decide_eq_false he]
    rw [if_neg he] at hR2
    have fin := Lib.hid (hR2.out.out _ n)
    clear hR2 he hok
    go_wp2_with fail
    exact fin.out
set_option maxRecDepth 100000 in
set_option maxHeartbeats 1000000 in
theorem lives17_calls (w : World) (R : Ending → World → Prop) (hR : Hid (∀ w', Below w.heap.size w w' → R (.returned (.bool true)) w')) : Calls Tryz.prog 18 #[] w R := by
  have hA := heap_alloc_new w (.cells #[.string ⟨#[]⟩, .int .i64 0, .bool false, .slice none 0 0, .int .i64 0, .int .i64 0, .int .i64 0, .int .i64 0, .slice none 0 0, .int .i64 1, .int .i64 0, .int .i64 0, .int .i64 0, .int .i64 0, .slice none 0 0, .slice none 0 0, .string ⟨#[]⟩, .int .i64 0] 75)
  have n := (Below.refl w.heap.size w).alloc (Nat.le_refl _) (.cells #[.string ⟨#[]⟩, .int .i64 0, .bool false, .slice none 0 0, .int .i64 0, .int .i64 0, .int .i64 0, .int .i64 0, .slice none 0 0, .int .i64 1, .int .i64 0, .int .i64 0, .int .i64 0, .int .i64 0, .slice none 0 0, .slice none 0 0, .string ⟨#[]⟩, .int .i64 0] 75)
  have hy : RdY (w.alloc (.cells #[.string ⟨#[]⟩, .int .i64 0, .bool false, .slice none 0 0, .int .i64 0, .int .i64 0, .int .i64 0, .int .i64 0, .slice none 0 0, .int .i64 1, .int .i64 0, .int .i64 0, .int .i64 0, .int .i64 0, .slice none 0 0, .slice none 0 0, .string ⟨#[]⟩, .int .i64 0] 75)) tL6 fL (.slice none 0 0) (.slice (some ⟨w.heap.size, 0, none⟩) 1 1) := by
    refine ⟨RdG.none0 _ _ _, _, 1, rfl, Nat.le_refl _, fun _ => ⟨_, _, rfl, by rw [alz]; omega, ?_⟩⟩
    refine RdFo.mk [.string ⟨#[]⟩, .int .i64 0, .bool false, .slice none 0 0, .int .i64 0, .int .i64 0, .int .i64 0, .int .i64 0, .slice none 0 0] [.int .i64 1, .int .i64 0, .int .i64 0, .int .i64 0, .int .i64 0, .slice none 0 0, .slice none 0 0, .string ⟨#[]⟩, .int .i64 0] rfl (fun j v e => by rw [Lib.cell_of_heap hA, Nat.zero_add]; simpa using e) ⟨_, _, rfl, RdG.none0 _ _ _, RdG.none0 _ _ _⟩ ⟨rfl, _, ⟨_, rfl, RdG.none0 _ _ _⟩, RdSl.nil _ none 0⟩ trivial
  have cT := fun R hR => utype_calls fL tL6 (.slice none 0 0) (.slice (some ⟨w.heap.size, 0, none⟩) 1 1) (w.alloc (.cells #[.string ⟨#[]⟩, .int .i64 0, .bool false, .slice none 0 0, .int .i64 0, .int .i64 0, .int .i64 0, .int .i64 0, .slice none 0 0, .int .i64 1, .int .i64 0, .int .i64 0, .int .i64 0, .int .i64 0, .slice none 0 0, .slice none 0 0, .string ⟨#[]⟩, .int .i64 0] 75)) (goodH_l 6 (.inr rfl)) (by simp [Fo.len, maxLen]) goodF_l hy R hR
  rw [lives_tx] at cT
  replace cT := Lib.hid cT
  clear hA hy
  go_enter Tryz.func18, Tryz.ntmps18
  go_wp2_with fail
  refine cT.out _ (Lib.hid fun w1 m1 => ?_)
  have fin := Lib.hid (hR.out _ (n.trans (m1.mono n.size)))
  clear hR cT m1 n
  go_wp2_with fail
  exact fin.out
end Go.Proofs.YtbochlbgjnmgjaaGreat.Unp

/- Layer 17: schemas in memory: read, kept, opened as an argument. -/
set_option maxRecDepth 100000
set_option linter.unusedVariables false
namespace Go.Proofs.YtbochlbgjnmgjaaGreat.Unp
open Go.RowKit Go.Lib Go.Deep Go.ChangeShapes Go.WideShapes Go.Proofs.YtbochlbgjnmgjaaGreat.Nam Go.Proofs.YtbochlbgjnmgjaaGreat.Lat Go.Proofs.YtbochlbgjnmgjaaGreat.Kin

abbrev Pr := Wr × Wr
abbrev Nd := Wr × TH × Ft
abbrev Sc := List Wr × List Pr × List Nd × TH × Ft
def encP (x : Pr) : List Value := [.string x.1.1, .int .i64 x.1.2, .string x.2.1, .int .i64 x.2.2]
theorem encP_len (x : Pr) : (encP x).length = 4 := rfl
abbrev RdPr := RdG encP 4
def GoodP (x : Pr) : Prop := GoodW x.1 ∧ GoodW x.2
abbrev pN (l : List Pr) (i : Nat) : Pr := l.getD i ((ByteArray.empty, 0), (ByteArray.empty, 0))
abbrev nN (l : List Nd) (i : Nat) : Nd := l.getD i ((ByteArray.empty, 0), zTH, .nil)
theorem pN_get {l : List Pr} {i : Nat} (h : i < l.length) : pN l i = l[i] := by simp [pN, List.getD, List.getElem?_eq_getElem h]
theorem nN_get {l : List Nd} {i : Nat} (h : i < l.length) : nN l i = l[i] := by simp [nN, List.getD, List.getElem?_eq_getElem h]
theorem RdPr.op {w : World} {v : Value} {xs : List Pr} (h : RdPr w v xs) : ∃ (A : Option Addr) (c : Nat), v = .slice A xs.length c ∧ xs.length ≤ c ∧
    (0 < xs.length → ∃ g o, A = some ⟨g, o, none⟩ ∧ g < w.heap.size ∧ ∀ i, i < xs.length → w.cell? ⟨g, o + i * 4, none⟩ = some (.string (pN xs i).1.1) ∧ w.cell? ⟨g, o + i * 4 + 1, none⟩ = some (.int .i64 (pN xs i).1.2) ∧ w.cell? ⟨g, o + i * 4 + 2, none⟩ = some (.string (pN xs i).2.1) ∧ w.cell? ⟨g, o + i * 4 + 3, none⟩ = some (.int .i64 (pN xs i).2.2)) := by
  obtain ⟨A, c, rfl, hc, hr⟩ := RdG.open encP_len (by decide) h
  refine ⟨A, c, rfl, hc, fun h0 => ?_⟩
  obtain ⟨g, o, rfl, hg, hca⟩ := hr h0
  refine ⟨g, o, rfl, hg, fun i hi => ?_⟩
  rw [pN_get hi]
  exact ⟨hca i hi 0 (by decide), hca i hi 1 (by decide), hca i hi 2 (by decide), hca i hi 3 (by decide)⟩
/-- A slice of named types. -/
def RdNs (w : World) (v : Value) (l : List Nd) : Prop := ∃ (A : Option Addr) (c : Nat), v = .slice A l.length c ∧ l.length ≤ c ∧ (0 < l.length → ∃ g o, A = some ⟨g, o, none⟩ ∧ g < w.heap.size ∧
  ∀ i, i < l.length → ∃ nv pv, RdY w (nN l i).2.1 (nN l i).2.2 nv pv ∧ ∀ j u, [Value.string (nN l i).1.1, .int .i64 (nN l i).1.2, .int .i64 (nN l i).2.1.kind, .int .i64 (nN l i).2.1.at_, .int .i64 (nN l i).2.1.lo, .int .i64 (nN l i).2.1.hi, .int .i64 (nN l i).2.1.most, nv, pv, .string (nN l i).2.1.name, .int .i64 (nN l i).2.1.nat][j]? = some u → w.cell? ⟨g, o + i * 11 + j, none⟩ = some u)
theorem RdNs.kp {w w' : World} (k : Kp w w') {v : Value} {l : List Nd} (h : RdNs w v l) : RdNs w' v l := by
  obtain ⟨A, c, rfl, hc, hr⟩ := h
  refine ⟨A, c, rfl, hc, fun h0 => ?_⟩
  obtain ⟨g, o, rfl, hg, hi⟩ := hr h0
  refine ⟨g, o, rfl, Nat.lt_of_lt_of_le hg k.1, fun i hl => ?_⟩
  obtain ⟨nv, pv, hy, hcl⟩ := hi i hl
  exact ⟨nv, pv, hy.kp k, fun j u e => k.2 _ _ _ (hcl j u e)⟩
def GoodN (x : Nd) : Prop := GoodW x.1 ∧ GoodH x.2.1 ∧ x.2.2.All GoodH GoodL ∧ x.2.2.len ≤ maxLen
/-- A schema by value. -/
abbrev scV (s : Sc) (lv ov tv nv pv : Value) : Value := .agg #[lv, ov, tv, .int .i64 s.2.2.2.1.kind, .int .i64 s.2.2.2.1.at_, .int .i64 s.2.2.2.1.lo, .int .i64 s.2.2.2.1.hi, .int .i64 s.2.2.2.1.most, nv, pv, .string s.2.2.2.1.name, .int .i64 s.2.2.2.1.nat]
structure RdSc (w : World) (s : Sc) (lv ov tv nv pv : Value) : Prop where
  l : RdW w lv s.1
  o : RdPr w ov s.2.1
  t : RdNs w tv s.2.2.1
  r : RdY w s.2.2.2.1 s.2.2.2.2 nv pv
theorem RdSc.kp {w w' : World} {s : Sc} {lv ov tv nv pv : Value} (k : Kp w w') (h : RdSc w s lv ov tv nv pv) : RdSc w' s lv ov tv nv pv := ⟨h.l.kp k, RdAt.kp k h.o, h.t.kp k, h.r.kp k⟩
theorem RdSc.below {w w' : World} {s : Sc} {lv ov tv nv pv : Value} (h : RdSc w s lv ov tv nv pv) (b : Below w.heap.size w w') : RdSc w' s lv ov tv nv pv := h.kp (Kp.of_below b)
structure GoodS (s : Sc) : Prop where
  l : ∀ x ∈ s.1, GoodW x
  ll : s.1.length ≤ maxLen
  o : ∀ x ∈ s.2.1, GoodP x
  ol : s.2.1.length ≤ maxLen
  t : ∀ x ∈ s.2.2.1, GoodN x
  tl : s.2.2.1.length ≤ maxLen
  h : GoodH s.2.2.2.1
  g : s.2.2.2.2.All GoodH GoodL
  gl : s.2.2.2.2.len ≤ maxLen
section
variable {G : Type} {enc' : TypeId × Value → G} {W : World} {bs : Nat}
theorem word_one {n : Nat} {cs : List Value} {x : DataW G × List MemPlace} (hx : DataW.trod enc' Tryz.prog W bs (fun _ => true) true n 28 cs = some x) (hl : cs.length = 2) : ∃ a : Wr, cs = encW a ∧ GoodW a := by
  obtain ⟨ys, m, -, -, -, hys, hf⟩ := DataW.trod_struct Tryz.underlying28 hx
  match ys, hys, cs, hl with
  | [y0, y1], _, [v0, v1], _ =>
    have g0 := hf 0 _ rfl
    have g1 := hf 1 _ rfl
    have c3 : Tryz.prog.cellsOf 3 = 1 := by kernel_rfl
    have c9 : Tryz.prog.cellsOf 9 = 1 := by kernel_rfl
    simp [c3, c9] at g0 g1
    obtain ⟨s0, h0, -, w0⟩ := DataW.trod_string Tryz.underlying9 g0
    obtain ⟨n1, h1, -, w1⟩ := DataW.trod_int Tryz.underlying3 g1
    simp at h0 h1
    subst h0 h1
    exact ⟨(s0, n1), rfl, w0, wf64 w1⟩
theorem pairs_in {f : Nat} {v : Value} {x : DataW G × List MemPlace} (h : DataW.trod enc' Tryz.prog W bs (fun _ => true) true f 24 [v] = some x) :
    ∃ xs : List Pr, RdPr W v xs ∧ (∀ x ∈ xs, GoodP x) ∧ xs.length ≤ maxLen := by
  refine flat_in encP_len (by decide) GoodP Tryz.underlying24 (by kernel_rfl) h fun n cs x hx hl => ?_
  obtain ⟨ys, m, -, -, -, hys, hf⟩ := DataW.trod_struct Tryz.underlying65 hx
  match ys, hys, cs, hl with
  | [y0, y1], _, [v0, v1, v2, v3], _ =>
    have g0 := hf 0 _ rfl
    have g1 := hf 1 _ rfl
    have c2 : Tryz.prog.cellsOf 28 = 2 := by kernel_rfl
    simp [c2] at g0 g1
    obtain ⟨a, e1, q1⟩ := word_one g0 rfl
    obtain ⟨b, e2, q2⟩ := word_one g1 rfl
    refine ⟨(a, b), ?_, q1, q2⟩
    show [v0, v1, v2, v3] = encW a ++ encW b
    rw [← e1, ← e2]
    rfl
end
/-- A schema that came in; its five slices. -/
abbrev Scx := Sc × Value × Value × Value × Value × Value
end Go.Proofs.YtbochlbgjnmgjaaGreat.Unp

/- Layer 17: schemas that may be written. -/
set_option maxRecDepth 100000
set_option linter.unusedVariables false
namespace Go.Proofs.YtbochlbgjnmgjaaGreat.Unp
open Go.RowKit Go.Lib Go.Proofs.YtbochlbgjnmgjaaGreat.Nam Go.Proofs.YtbochlbgjnmgjaaGreat.Lat Go.Proofs.YtbochlbgjnmgjaaGreat.Kin Go.Proofs.YtbochlbgjnmgjaaGreat.Dig

abbrev tLevels : ByteArray := ⟨#[108, 101, 118, 101, 108, 115, 32, 123]⟩
abbrev tOrder : ByteArray := ⟨#[125, 32, 111, 114, 100, 101, 114, 32, 123]⟩
abbrev tType : ByteArray := ⟨#[32, 116, 121, 112, 101, 32]⟩
abbrev tEq : ByteArray := ⟨#[32, 61, 32]⟩
abbrev tLt : ByteArray := ⟨#[32, 60, 32]⟩
abbrev tRoot : ByteArray := ⟨#[32, 114, 111, 111, 116, 32]⟩
def ordT (p : Pr) : ByteArray := p.1.1 ++ tLt ++ p.2.1
def namT (n : Nd) : ByteArray := tType ++ n.1.1 ++ tEq ++ txT n.2.1 n.2.2
def namsT : List Nd → ByteArray
  | [] => ByteArray.empty
  | n :: l => namT n ++ namsT l
/-- A schema's text. -/
def schT (s : Sc) : ByteArray := tLevels ++ wrs tComma s.1 ++ tOrder ++ sepT tComma ordT 0 s.2.1 ++ tRbrace ++ namsT s.2.2.1 ++ tRoot ++ txT s.2.2.2.1 s.2.2.2.2
noncomputable def fineB (t : TH) (f : Ft) : Bool := decide ((wcS t f).1 = 0)
def goodW (x : Wr) : Bool := rightS x.1
def goodP (x : Pr) : Bool := rightS x.1.1 && rightS x.2.1
noncomputable def goodN (x : Nd) : Bool := rightS x.1.1 && fineB x.2.1 x.2.2
/-- May a schema be written? -/
noncomputable def okS (s : Sc) : Bool := decide (0 < s.1.length) && s.1.all goodW && s.2.1.all goodP && s.2.2.1.all goodN && fineB s.2.2.2.1 s.2.2.2.2
theorem RdNs.op {w : World} {v : Value} {l : List Nd} (h : RdNs w v l) : ∃ (A : Option Addr) (c : Nat), v = .slice A l.length c ∧ l.length ≤ c ∧ (0 < l.length → ∃ g o, A = some ⟨g, o, none⟩ ∧ g < w.heap.size ∧
  ∀ i, i < l.length → ∃ nv pv, RdY w (nN l i).2.1 (nN l i).2.2 nv pv ∧ ∀ j u, [Value.string (nN l i).1.1, .int .i64 (nN l i).1.2, .int .i64 (nN l i).2.1.kind, .int .i64 (nN l i).2.1.at_, .int .i64 (nN l i).2.1.lo, .int .i64 (nN l i).2.1.hi, .int .i64 (nN l i).2.1.most, nv, pv, .string (nN l i).2.1.name, .int .i64 (nN l i).2.1.nat][j]? = some u → w.cell? ⟨g, o + i * 11 + j, none⟩ = some u) := h
theorem mem_nN {l : List Nd} {i : Nat} (h : i < l.length) : nN l i ∈ l := by rw [nN_get h]; exact List.getElem_mem h
end Go.Proofs.YtbochlbgjnmgjaaGreat.Unp
