/- Layer 17: the code's Type; the chapter's example. -/
import Derived.Test.YtbochlbgjnmgjaaG10
import Derived.Test.YtbochlbgjnmgjaaZKinL
set_option maxRecDepth 100000
set_option linter.unusedVariables false
namespace Go.Proofs.Ytbochlbgjnmgjaa.Unp
open Go.RowKit Go.Lib Go.Proofs.Ytbochlbgjnmgjaa.Nam Go.Proofs.Ytbochlbgjnmgjaa.Lat Go.Proofs.Ytbochlbgjnmgjaa.Kin Go.Proofs.Ytbochlbgjnmgjaa.Dig

theorem run_fieldE (e z : Int) (w : World) : (Instr.field 33 (.agg #[.int .i64 e, .int .i64 z]) 0).run Try.prog w = .ok (.int .i64 e) w := by
  simp [Instr.field, run_underlying Try.underlying33, part, asAgg, Try.isAgg31, go_sem]
theorem nod_pos (h : TH) (ps : List Px) : 0 < (nodT h ps).size := by
  unfold nodT
  repeat' split
  all_goals first | (show 0 < 4; omega) | (simp only [ByteArray.size_append]; have e1 : tInt.size = 4 := rfl; have e2 : tText.size = 5 := rfl; have e3 : tEnum.size = 5 := rfl; have e4 : tList.size = 5 := rfl; have e5 : tOpt.size = 4 := rfl; have e6 : tRecord.size = 7 := rfl; have e7 : tUnion.size = 6 := rfl; have e8 : tRef.size = 4 := rfl; omega)
theorem txT_pos (h : TH) (k : Ft) : 0 < (txT h k).size := nod_pos h _
/-- What the code's Type hands back. -/
noncomputable def typU (t : TH) (f : Ft) : ByteArray := if (wcS t f).1 = 0 then txT t f else ByteArray.empty
theorem ok_size {t : TH} {f : Ft} (e : (wcS t f).1 = 0) (gh : GoodH t) (ga : f.All GoodH GoodL) : (txT t f).size ≤ 1000000000 := by
  obtain ⟨a, b, -⟩ := wc_ok e
  have := txT_size a gh ga
  omega
abbrev tL1 : TH := ⟨1, 0, 0, 0, 0, [], ByteArray.empty, 0⟩
abbrev tL6 : TH := ⟨6, 0, 0, 0, 0, [], ByteArray.empty, 0⟩
abbrev fL : Ft := .cons zPH tL1 .nil .nil
theorem own_l1 : ownB tL1 .nil = true := by unfold ownB; simp [Fo.len]
theorem own_l6 : ownB tL6 fL = true := by unfold ownB; simp [Fo.len]
theorem only_l : onlyB fL = true := by
  show (decide (zPH.name = ByteArray.empty) && plainB zPH zPH) = true
  rw [plainB_refl]
  rfl
theorem lives_wc : (wcS tL6 fL).1 = 0 := by
  unfold wcS
  rw [wrB_5 (M := 1) rfl (by decide) (by decide) own_l6 (.inr rfl), if_neg (by rw [only_l]; decide), if_neg (by decide)]
  show (wrB tL1 .nil (wcF .nil) 2 1).1 = 0
  rw [wrB_1 (M := 2) rfl (by decide) (by decide) own_l1 rfl]
theorem lives_tx : typU tL6 fL = ⟨#[111, 112, 116, 40, 98, 111, 111, 108, 41]⟩ := by
  unfold typU
  rw [if_pos lives_wc]
  rfl
theorem goodH_l (k : Int) (h : k = 1 ∨ k = 6) : GoodH ⟨k, 0, 0, 0, 0, [], ByteArray.empty, 0⟩ := by
  refine ⟨?_, by simp [I64], by simp [I64], by simp [I64], by simp [I64], by simp, by simp [maxLen], by simp [I64], by simp [maxLen]⟩
  unfold I64
  show -9223372036854775808 ≤ k ∧ k ≤ 9223372036854775807
  omega
theorem goodF_l : fL.All GoodH GoodL := ⟨⟨by simp [zPH, maxLen], by simp [zPH, I64], by simp [zPH], by simp [zPH, I64], by simp [zPH, I64], by simp [zPH, I64], by simp [zPH, I64], by simp [zPH], by simp [zPH, maxLen], by simp [zPH, maxLen]⟩, goodH_l 1 (.inl rfl), by simp [Fo.len], trivial, trivial⟩
set_option maxRecDepth 100000 in
set_option maxHeartbeats 1000000 in
theorem isright_calls (f : Ft) (t : TH) (nv pv : Value) (w : World) (gh : GoodH t) (hfl : f.len ≤ maxLen) (hga : f.All GoodH GoodL) (hy : RdY w t f nv pv) (R : Ending → World → Prop)
    (hR : Hid (∀ w', Below w.heap.size w w' → R (.returned (.bool (decide ((wcS t f).1 = 0)))) w')) : Calls Try.prog 18 #[tyV t nv pv] w R := by
  obtain ⟨N1, N3, rfl, -, -⟩ := hy.n.op
  obtain ⟨M1, M3, rfl, -⟩ := hy.p.sl
  have hA := heap_alloc_new w (.cells #[.int .i64 t.kind, .int .i64 t.at_, .int .i64 t.lo, .int .i64 t.hi, .int .i64 t.most, .slice N1 t.names.length N3, .slice M1 f.len M3, .string t.name, .int .i64 t.nat] 27)
  have n := (Below.refl w.heap.size w).alloc (Nat.le_refl _) (.cells #[.int .i64 t.kind, .int .i64 t.at_, .int .i64 t.lo, .int .i64 t.hi, .int .i64 t.most, .slice N1 t.names.length N3, .slice M1 f.len M3, .string t.name, .int .i64 t.nat] 27)
  replace hy := Lib.hid (hy.below n)
  have hR2 := Lib.hid hR
  clear hR
  go_enter Try.func18, Try.ntmps18
  go_upto_region 1 with fail
  generalize w.alloc (.cells #[.int .i64 t.kind, .int .i64 t.at_, .int .i64 t.lo, .int .i64 t.hi, .int .i64 t.most, .slice N1 t.names.length N3, .slice M1 f.len M3, .string t.name, .int .i64 t.nat] 27) = V at *
  generalize w.heap.size = P at hA ⊢
  have rT : V.rangeAt P 0 [.int .i64 t.kind, .int .i64 t.at_, .int .i64 t.lo, .int .i64 t.hi, .int .i64 t.most, .slice N1 t.names.length N3, .slice M1 f.len M3, .string t.name, .int .i64 t.nat] := fun j v e => by rw [Nat.zero_add, Lib.cell_of_heap hA]; simpa using e
  have cR := Lib.hid fun R hR => right15_calls f t (.slice N1 t.names.length N3) (.slice M1 f.len M3) V gh hfl hga hy.out R hR
  go_wp2_with (refine wpList_load_g (by rfl) 27 _ rfl P 0 rfl [.int .i64 t.kind, .int .i64 t.at_, .int .i64 t.lo, .int .i64 t.hi, .int .i64 t.most, .slice N1 t.names.length N3, .slice M1 f.len M3, .string t.name, .int .i64 t.nat] _ rT Try.underlying27 rfl (by kernel_rfl) ?_; go_simp)
  refine cR.out _ (Lib.hid fun w1 m1 => ?_)
  have fin := Lib.hid (hR2.out.out _ (n.trans (m1.mono n.size)))
  clear hR2 cR rT hA m1
  generalize (wcS t f).1 = e at *
  generalize (wcS t f).2.1 = e2 at *
  have hfE := fun w => run_fieldE e e2 w
  cases hq : decide (e = 0)
  · rw [hq] at fin
    have q : (e == 0) = false := by simpa using hq
    clear hq
    go_wp2_with fail
    exact fin.out
  · rw [hq] at fin
    have q : (e == 0) = true := by simpa using hq
    clear hq
    go_wp2_with fail
    exact fin.out
set_option maxRecDepth 100000 in
set_option maxHeartbeats 2000000 in
theorem utype_calls (f : Ft) (t : TH) (nv pv : Value) (w : World) (gh : GoodH t) (hfl : f.len ≤ maxLen) (hga : f.All GoodH GoodL) (hy : RdY w t f nv pv) (R : Ending → World → Prop)
    (hR : Hid (∀ w', Below w.heap.size w w' → R (.returned (.string (typU t f))) w')) : Calls Try.prog 8 #[tyV t nv pv] w R := by
  obtain ⟨N1, N3, rfl, -, -⟩ := hy.n.op
  obtain ⟨M1, M3, rfl, -⟩ := hy.p.sl
  have hA := heap_alloc_new w (.cells #[.int .i64 t.kind, .int .i64 t.at_, .int .i64 t.lo, .int .i64 t.hi, .int .i64 t.most, .slice N1 t.names.length N3, .slice M1 f.len M3, .string t.name, .int .i64 t.nat] 27)
  have n := (Below.refl w.heap.size w).alloc (Nat.le_refl _) (.cells #[.int .i64 t.kind, .int .i64 t.at_, .int .i64 t.lo, .int .i64 t.hi, .int .i64 t.most, .slice N1 t.names.length N3, .slice M1 f.len M3, .string t.name, .int .i64 t.nat] 27)
  replace hy := Lib.hid (hy.below n)
  have hq : typU t f = if (wcS t f).1 = 0 then txT t f else ByteArray.empty := rfl
  rw [hq] at hR
  clear hq
  have hok := fun e : (wcS t f).1 = 0 => And.intro (wc_ok e).1 (ok_size e gh hga)
  have hR2 := Lib.hid hR
  clear hR
  go_enter Try.func8, Try.ntmps8
  go_upto_region 1 with fail
  generalize w.alloc (.cells #[.int .i64 t.kind, .int .i64 t.at_, .int .i64 t.lo, .int .i64 t.hi, .int .i64 t.most, .slice N1 t.names.length N3, .slice M1 f.len M3, .string t.name, .int .i64 t.nat] 27) = V at *
  have hP : w.heap.size ≤ w.heap.size := Nat.le_refl _
  generalize w.heap.size = P at hA ⊢
  have rT : V.rangeAt P 0 [.int .i64 t.kind, .int .i64 t.at_, .int .i64 t.lo, .int .i64 t.hi, .int .i64 t.most, .slice N1 t.names.length N3, .slice M1 f.len M3, .string t.name, .int .i64 t.nat] := fun j v e => by rw [Nat.zero_add, Lib.cell_of_heap hA]; simpa using e
  have cR := Lib.hid fun R hR => isright_calls f t (.slice N1 t.names.length N3) (.slice M1 f.len M3) V gh hfl hga hy.out R hR
  go_wp2_with (refine wpList_load_g (by rfl) 27 _ rfl P 0 rfl [.int .i64 t.kind, .int .i64 t.at_, .int .i64 t.lo, .int .i64 t.hi, .int .i64 t.most, .slice N1 t.names.length N3, .slice M1 f.len M3, .string t.name, .int .i64 t.nat] _ rT Try.underlying27 rfl (by kernel_rfl) ?_; go_simp)
  refine cR.out _ (Lib.hid fun w1 m1 => ?_)
  replace hA := (m1.block _ (blt hA)).trans hA
  replace hy := Lib.hid (hy.out.below m1)
  replace n := n.trans (m1.mono n.size)
  clear cR rT m1 hP
  by_cases he : (wcS t f).1 = 0
  · rw [decide_eq_true he]
    rw [if_pos he] at hR2
    obtain ⟨ok, hz⟩ := hok he
    clear he hok
    have hlA := blt hA
    have hW := Wld.fresh w1
    have n2 := n.alloc n.size (.cells #[.pointer none, .slice none 0 0] 56)
    have hb0 := (Below.refl w1.heap.size w1).alloc (Nat.le_refl _) (.cells #[.pointer none, .slice none 0 0] 56)
    have hA2 := (hb0.block _ hlA).trans hA
    have lV : w1.heap.size ≤ (w1.alloc (.cells #[.pointer none, .slice none 0 0] 56)).heap.size := by rw [alz]; omega
    go_upto_region 4 with fail
    generalize hV2 : w1.alloc (.cells #[.pointer none, .slice none 0 0] 56) = V2 at *
    have rT : V2.rangeAt P 0 [.int .i64 t.kind, .int .i64 t.at_, .int .i64 t.lo, .int .i64 t.hi, .int .i64 t.most, .slice N1 t.names.length N3, .slice M1 f.len M3, .string t.name, .int .i64 t.nat] := fun j v e => by rw [Nat.zero_add, Lib.cell_of_heap hA2]; simpa using e
    have cT := Lib.hid fun R hR => any_calls f t (.slice N1 t.names.length N3) (.slice M1 f.len M3) w1.heap.size w1.heap.size ByteArray.empty w1 V2 ok gh hga hfl hy.out hb0 (Nat.le_refl _) hW lV (by have e : ByteArray.empty.size = 0 := rfl; omega) R hR
    generalize hbb : w1.heap.size = b at *
    go_wp2_with (refine wpList_load_g (by rfl) 27 _ rfl P 0 rfl [.int .i64 t.kind, .int .i64 t.at_, .int .i64 t.lo, .int .i64 t.hi, .int .i64 t.most, .slice N1 t.names.length N3, .slice M1 f.len M3, .string t.name, .int .i64 t.nat] _ rT Try.underlying27 rfl (by kernel_rfl) ?_; go_simp)
    refine cT.out _ (Lib.hid fun w3 h3 k3 => ?_)
    clear cT rT hA2 hA hW
    have nb : w.heap.size ≤ b := by rw [← hbb]; exact n.size
    have n3 := n2.trans (k3.m.mono nb)
    have hp : 0 < (ByteArray.empty ++ txT t f).size := by rw [ByteArray.size_append]; have := txT_pos t f; omega
    have cS := Lib.hid fun R hR => wstring_calls b b (ByteArray.empty ++ txT t f) w3 h3 hp R hR
    rw [ByteArray.empty_append] at cS
    clear hbb hV2
    obtain ⟨p0, pv0, hpw⟩ : ∃ p0 pv0, w3.heap[b]? = some (.cells #[p0, pv0] 56 (0, 0)) := by
      rcases h3 with q | q
      · obtain ⟨-, v, e, -⟩ := q; exact ⟨_, v, e⟩
      · obtain ⟨-, v, e, -⟩ := q; exact ⟨_, v, e⟩
    clear h3 k3 hp
    go_wp2_with fail
    refine cS.out _ (Lib.hid fun w4 m4 => ?_)
    have fin := Lib.hid (hR2.out.out _ (n3.trans (m4.mono nb)))
    clear hR2 cS m4
    go_wp2_with fail
    exact fin.out
  · rw [decide_eq_false he]
    rw [if_neg he] at hR2
    have fin := Lib.hid (hR2.out.out _ n)
    clear hR2 he hok
    go_wp2_with fail
    exact fin.out
set_option maxRecDepth 100000 in
set_option maxHeartbeats 1000000 in
theorem lives17_calls (w : World) (R : Ending → World → Prop) (hR : Hid (∀ w', Below w.heap.size w w' → R (.returned (.bool true)) w')) : Calls Try.prog 5 #[] w R := by
  have hA := heap_alloc_new w (.cells #[.string ⟨#[]⟩, .int .i64 0, .bool false, .slice none 0 0, .int .i64 0, .int .i64 0, .int .i64 0, .int .i64 0, .slice none 0 0, .int .i64 1, .int .i64 0, .int .i64 0, .int .i64 0, .int .i64 0, .slice none 0 0, .slice none 0 0, .string ⟨#[]⟩, .int .i64 0] 42)
  have n := (Below.refl w.heap.size w).alloc (Nat.le_refl _) (.cells #[.string ⟨#[]⟩, .int .i64 0, .bool false, .slice none 0 0, .int .i64 0, .int .i64 0, .int .i64 0, .int .i64 0, .slice none 0 0, .int .i64 1, .int .i64 0, .int .i64 0, .int .i64 0, .int .i64 0, .slice none 0 0, .slice none 0 0, .string ⟨#[]⟩, .int .i64 0] 42)
  have hy : RdY (w.alloc (.cells #[.string ⟨#[]⟩, .int .i64 0, .bool false, .slice none 0 0, .int .i64 0, .int .i64 0, .int .i64 0, .int .i64 0, .slice none 0 0, .int .i64 1, .int .i64 0, .int .i64 0, .int .i64 0, .int .i64 0, .slice none 0 0, .slice none 0 0, .string ⟨#[]⟩, .int .i64 0] 42)) tL6 fL (.slice none 0 0) (.slice (some ⟨w.heap.size, 0, none⟩) 1 1) := by
    refine ⟨RdG.none0 _ _ _, _, 1, rfl, Nat.le_refl _, fun _ => ⟨_, _, rfl, by rw [alz]; omega, ?_⟩⟩
    refine RdFo.mk [.string ⟨#[]⟩, .int .i64 0, .bool false, .slice none 0 0, .int .i64 0, .int .i64 0, .int .i64 0, .int .i64 0, .slice none 0 0] [.int .i64 1, .int .i64 0, .int .i64 0, .int .i64 0, .int .i64 0, .slice none 0 0, .slice none 0 0, .string ⟨#[]⟩, .int .i64 0] rfl (fun j v e => by rw [Lib.cell_of_heap hA, Nat.zero_add]; simpa using e) ⟨_, _, rfl, RdG.none0 _ _ _, RdG.none0 _ _ _⟩ ⟨rfl, _, ⟨_, rfl, RdG.none0 _ _ _⟩, RdSl.nil _ none 0⟩ trivial
  have cT := fun R hR => utype_calls fL tL6 (.slice none 0 0) (.slice (some ⟨w.heap.size, 0, none⟩) 1 1) (w.alloc (.cells #[.string ⟨#[]⟩, .int .i64 0, .bool false, .slice none 0 0, .int .i64 0, .int .i64 0, .int .i64 0, .int .i64 0, .slice none 0 0, .int .i64 1, .int .i64 0, .int .i64 0, .int .i64 0, .int .i64 0, .slice none 0 0, .slice none 0 0, .string ⟨#[]⟩, .int .i64 0] 42)) (goodH_l 6 (.inr rfl)) (by simp [Fo.len, maxLen]) goodF_l hy R hR
  rw [lives_tx] at cT
  replace cT := Lib.hid cT
  clear hA hy
  go_enter Try.func5, Try.ntmps5
  go_wp2_with fail
  refine cT.out _ (Lib.hid fun w1 m1 => ?_)
  have fin := Lib.hid (hR.out _ (n.trans (m1.mono n.size)))
  clear hR cT m1 n
  go_wp2_with fail
  exact fin.out
end Go.Proofs.Ytbochlbgjnmgjaa.Unp
