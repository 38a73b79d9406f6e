import Derived.Test.YtncijmodlhijoaaGreatQ33
import Derived.Test.YtncijmodlhijoaaGreatProg
import Derived.Shelf.Strings.Cut
import Derived.Test.YtncijmodlhijoaaGreatQ2
set_option linter.unusedVariables false
set_option maxRecDepth 100000
set_option maxHeartbeats 4000000
namespace Go.Proofs.YtncijmodlhijoaaGreat.Esc
open Go.RowKit Go.Lib Utf Ran Cel
def digs : ByteArray := ⟨#[48, 49, 50, 51, 52, 53, 54, 55, 56, 57, 97, 98, 99, 100, 101, 102]⟩
theorem ret2si' {R : Ending → World → Prop} {w : World} {a a' : ByteArray} {b b' : Int} (h : R (.returned (.tuple #[.string a, .int .i64 b])) w) (e1 : a = a') (e2 : b = b') :
  R (.returned (.tuple #[.string a', .int .i64 b'])) w := by subst e1 e2; exact h
theorem or16 (n v : Int) (h0 : 0 ≤ n) (h1 : n < 16777216) (h2 : 0 ≤ v) (h3 : v < 16) : bits BinOp.or IntKind.u32 (n * 16) v = 16 * n + v := by
 obtain ⟨a, rfl⟩ := Int.eq_ofNat_of_zero_le h0
 obtain ⟨b, rfl⟩ := Int.eq_ofNat_of_zero_le h2
 have key : (BitVec.ofInt 32 ((a : Int) * 16) ||| BitVec.ofInt 32 (b : Int)).toNat = a * 16 + b := by
  rw [BitVec.toNat_or, BitVec.toNat_ofInt, BitVec.toNat_ofInt]
  have e1 : (((a : Int) * 16) % ((2 ^ 32 : Nat) : Int)).toNat = a * 2 ^ 4 := by omega
  have e2 : ((b : Int) % ((2 ^ 32 : Nat) : Int)).toNat = b := by omega
  rw [e1, e2, ← Nat.shiftLeft_eq, ← Nat.shiftLeft_add_eq_or_of_lt (by omega : b < 2 ^ 4), Nat.shiftLeft_eq]
 show IntKind.u32.wrap ((BitVec.ofInt 32 ((a : Int) * 16) ||| BitVec.ofInt 32 (b : Int)).toNat : Nat) = _
 rw [key]
 unfold IntKind.wrap
 simp [IntKind.bits, IntKind.signed]
 omega
theorem number_calls (t : ByteArray) (ht : t.size ≤ 6) (w : World) (R : Ending → World → Prop)
  (hR : Hid (∀ w', Below w.heap.size w w' → R (.returned (.tuple #[.int .u32 (if hexV (bl t) < 0 then 0 else hexV (bl t)), .bool (decide (0 ≤ hexV (bl t)))])) w')) :
  Calls Tryz.prog 363 #[.string t] w R := by
 go_enter Tryz.func363, Tryz.ntmps363
 go_wp2_with fail
 go_loopg [2] t.size (fun k v wr => ∃ (pos : Nat) (n : Int), wr.heap[w.heap.size]? = some (.stringIter t pos) ∧ Below w.heap.size w wr ∧ v = .int .u32 n ∧ pos + k = t.size ∧ 0 ≤ n ∧ n < 16 ^ pos ∧ Hid (numF n ((bl t).drop pos) = numF 0 (bl t)))
 case atStart =>
  exact ⟨0, 0, World.iter_heap w t 0, (Below.refl _ _).alloc (Nat.le_refl _) _, rfl, by omega, by omega, by decide, Lib.hid (by rw [List.drop_zero])⟩
 case round =>
  obtain ⟨pos, n, hit, hbel, rfl, c1, c2, c3, c4⟩ := hrel
  have hsz := hbel.size
  by_cases hp : pos < t.size
  ·have hnx : ∀ ty, (Instr.next (.pointer (some ⟨w.heap.size, 0, none⟩)) true ty).run Tryz.prog wr = _ := fun ty => Lib.run_next_any_at wr w.heap.size t pos ty hit hp
   have e := c4.out
   rw [bl_drop hp, numF] at e
   clear c4
   have h16 : n < 16777216 := by
    have : (16 : Int) ^ pos ≤ 16 ^ 6 := by exact_mod_cast Nat.pow_le_pow_right (by omega) (by omega : pos ≤ 6)
    have : (16 : Int) ^ 6 = 16777216 := by decide
    omega
   have hit2 := Lib.iterAt_heap wr w.heap.size t pos (pos + (Utf8.decode t pos).2) hit
   have hbel2 := Lib.below_iterAt hbel (k := w.heap.size) (by omega) t (pos + (Utf8.decode t pos).2)
   have hdl := decode_le t pos
   have hbad : ∀ x : Int, valD x < 0 → numF 0 (bl t) = -1 → hexV (bl t) = -1 := by
    intro x _ h; unfold hexV; split
    ·rfl
    ·exact h
   by_cases hA : byN t pos < 128
   ·have hd : Utf8.decode t pos = (byN t pos, 1) := by
     rw [decode_ascii t pos hp (by rw [byN_get]; exact hA), byN_get]
    rw [hd] at hnx hit2 hbel2
    simp only at hnx hit2 hbel2
    have cV := fun (W : World) R hR => value_calls (byN t pos : Int) W (by omega) R hR
    have hvb := valD_bd (byN t pos)
    by_cases hv : valD (byN t pos) < 0
    ·rw [if_pos hv] at e
     have hx := hbad _ hv e.symm
     rw [hx, if_pos (by decide)] at hR
     rw [if_pos hv, decide_eq_false (by omega)] at cV
     generalize valD (byN t pos) = v at *
     generalize byN t pos = c at *
     clear hbad hd e
     replace cV := Lib.hid cV
     go_wp2_with fail
     refine cV.out _ _ (Lib.hid ?_)
     go_wp2_with fail
     exact hR.out _ hbel2
    ·rw [if_neg hv] at e
     rw [if_neg hv, decide_eq_true (by omega)] at cV
     have ho := or16 n (valD (byN t pos)) c2 h16 (by omega) (by omega)
     generalize valD (byN t pos) = v at *
     generalize byN t pos = c at *
     clear hbad hd
     replace cV := Lib.hid cV
     replace e := Lib.hid e
     replace hvb : 0 ≤ v ∧ v ≤ 15 := by omega
     go_wp2_with fail
     refine cV.out _ _ (Lib.hid ?_)
     go_wp2_with fail
     go_roundg (gk - 1)
     case measure => omega
     case rel => exact ⟨pos + 1, 16 * n + v, hit2, hbel2, by go_num, by omega, by omega, by rw [Int.pow_succ]; omega, e⟩
   ·have hh := (decode_high t pos hp (by rw [byN_get]; omega)).1
    have hv : valD (byN t pos) < 0 := by unfold valD; rw [if_neg (by omega), if_neg (by omega), if_neg (by omega)]; decide
    have hv2 : valD ((Utf8.decode t pos).1 : Int) = -1 := by unfold valD; rw [if_neg (by omega), if_neg (by omega), if_neg (by omega)]
    rw [if_pos hv] at e
    have hx := hbad _ hv e.symm
    rw [hx, if_pos (by decide)] at hR
    have cV := fun (W : World) R hR => value_calls ((Utf8.decode t pos).1 : Int) W (by omega) R hR
    rw [hv2, if_pos (by decide), decide_eq_false (by decide)] at cV
    generalize Utf8.decode t pos = d at *
    clear hbad hv e hv2
    replace cV := Lib.hid cV
    go_wp2_with fail
    refine cV.out _ _ (Lib.hid ?_)
    go_wp2_with fail
    exact hR.out _ hbel2
  ·have hnx : ∀ ty, (Instr.next (.pointer (some ⟨w.heap.size, 0, none⟩)) true ty).run Tryz.prog wr = _ := fun ty => Lib.run_next_end_at wr w.heap.size t pos ty hit hp
   have e := c4.out
   rw [List.drop_eq_nil_of_le (by rw [bl_length]; omega), numF] at e
   clear c4
   by_cases h0 : t.size = 0
   ·have hx : hexV (bl t) = -1 := by unfold hexV; rw [if_pos (by rw [bl_length]; omega)]
    rw [hx, if_pos (by decide)] at hR
    have hn : n = 0 := by
     have : pos = 0 := by omega
     subst this
     simp only [Int.pow_zero] at c3
     omega
    subst hn
    have hE := isE_nil h0
    clear e c3
    go_wp2_with fail
    exact hR.out _ hbel
   ·have hx : hexV (bl t) = n := by unfold hexV; rw [if_neg (by rw [bl_length]; omega), e]
    rw [hx, if_neg (by omega), decide_eq_true c2] at hR
    have hE := isE_pos (s := t) (by omega)
    clear e c3
    go_wp2_with fail
    exact hR.out _ hbel
end Go.Proofs.YtncijmodlhijoaaGreat.Esc
namespace Go.Proofs.YtncijmodlhijoaaGreat
open Go.Shelf
def cutL_ren : Go.Shelf.Ren := ⟨fun | 145 => 365 | 220 => 371 | 219 => 374 | 217 => 362 | 225 => 375 | 224 => 376 | 267 => 377 | 266 => 368 | 314 => 378 | n => n, fun | 9 => 9 | 4 => 4 | 59 => 403 | 3 => 3 | 5 => 5 | 46 => 280 | 146 => 409 | 51 => 268 | n => n, fun | 1 => 0 | n => n⟩
theorem cutL : Go.Proofs.Lays.n145 Tryz.prog cutL_ren := {
 mixed := by kernel_rfl
 f145 := Tryz.func365.trans (congrArg some (by kernel_rfl))
 f217 := Tryz.func362.trans (congrArg some (by kernel_rfl))
 f219 := Tryz.func374.trans (congrArg some (by kernel_rfl))
 f220 := Tryz.func371.trans (congrArg some (by kernel_rfl))
 f224 := Tryz.func376.trans (congrArg some (by kernel_rfl))
 f225 := Tryz.func375.trans (congrArg some (by kernel_rfl))
 f266 := Tryz.func368.trans (congrArg some (by kernel_rfl))
 f267 := Tryz.func377.trans (congrArg some (by kernel_rfl))
 f314 := Tryz.func378.trans (congrArg some (by kernel_rfl))
 t3 := Tryz.underlying3
 a3 := Tryz.isAgg3
 z3 := Tryz.sizeOf3
 v3 := Tryz.zeroValue3
 t4 := Tryz.underlying4
 a4 := Tryz.isAgg4
 z4 := Tryz.sizeOf4
 v4 := Tryz.zeroValue4
 t5 := Tryz.underlying5
 a5 := Tryz.isAgg5
 z5 := Tryz.sizeOf5
 v5 := Tryz.zeroValue5
 t9 := Tryz.underlying9
 a9 := Tryz.isAgg9
 z9 := Tryz.sizeOf9
 v9 := Tryz.zeroValue9
 t46 := Tryz.underlying280
 a46 := Tryz.isAgg280
 z46 := Tryz.sizeOf280
 v46 := Tryz.zeroValue280
 t51 := Tryz.underlying268
 a51 := Tryz.isAgg268
 z51 := Tryz.sizeOf268
 v51 := Tryz.zeroValue268
 t59 := Tryz.underlying403
 a59 := Tryz.isAgg403
 z59 := Tryz.sizeOf403
 v59 := Tryz.zeroValue403
 t146 := Tryz.underlying409
 a146 := Tryz.isAgg409
 z146 := Tryz.sizeOf409
 v146 := Tryz.zeroValue409
 g1 := by kernel_rfl }
end Go.Proofs.YtncijmodlhijoaaGreat
namespace Go.Proofs.YtncijmodlhijoaaGreat.Cut
open Go.Shelf Go.RowKit Go.Lib Utf
theorem bdq {B : Nat} {a w : World} (h : Below B a w) (n : Nat) : Below B a (w.drewN n) := ⟨h.os, h.tape, h.output, h.size, h.block⟩
def cutC (c : UInt8) (x : ByteArray) : ByteArray × ByteArray × Bool :=
 if indexByte x.data.toList c < 0 then (x, ByteArray.empty, false) else (x.extract 0 (indexByte x.data.toList c).toNat, x.extract ((indexByte x.data.toList c).toNat + 1) x.size, true)
theorem mem_byN {x : ByteArray} {o : Nat} (h : o < x.size) (c : UInt8) : x.data.toList[o]? = some c ↔ byN x o = c.toNat := by
 have h' : o < x.data.toList.length := by simpa using h
 unfold byN
 rw [List.getElem?_eq_getElem h']
 simp only [List.getD, List.getElem?_eq_getElem h', Option.getD_some, Option.some.injEq]
 exact ⟨fun h => by rw [h], fun h => UInt8.toNat_inj.1 h⟩
theorem cut_cases (c : UInt8) (x : ByteArray) : (cutC c x = (x, ByteArray.empty, false) ∧ indexByte x.data.toList c = -1 ∧ ∀ j, j < x.size → byN x j ≠ c.toNat) ∨
  ∃ o, o < x.size ∧ indexByte x.data.toList c = (o : Int) ∧ cutC c x = (x.extract 0 o, x.extract (o + 1) x.size, true) ∧ byN x o = c.toNat ∧ ∀ j, j < o → byN x j ≠ c.toNat := by
 have hge := indexByte_ge x.data.toList c
 by_cases h : indexByte x.data.toList c = -1
 ·refine .inl ⟨by unfold cutC; rw [if_pos (by omega)], h, fun j hj e => ?_⟩
  exact indexByte_none h j ((mem_byN hj c).2 e)
 ·obtain ⟨o, ho⟩ : ∃ o : Nat, indexByte x.data.toList c = o := ⟨(indexByte x.data.toList c).toNat, by omega⟩
  obtain ⟨h1, h2⟩ := indexByte_some ho
  have hlt : o < x.size := by
   have := (List.getElem?_eq_some_iff.1 h1).1
   simpa using this
  refine .inr ⟨o, hlt, ho, by unfold cutC; rw [if_neg (by omega), ho]; rfl, (mem_byN hlt c).1 h1, fun j hj e => ?_⟩
  exact h2 j hj ((mem_byN (by omega) c).2 e)
theorem index_calls (c : UInt8) (x : ByteArray) (w : World) (R : Ending → World → Prop) (hR : Hid (R (.returned (.int .i64 (indexByte x.data.toList c))) w)) :
  Calls Tryz.prog 374 #[.string x, .string ⟨#[c]⟩] w R := by
 have := Any.stringslite_Index_one (ρ := YtncijmodlhijoaaGreat.cutL_ren) { YtncijmodlhijoaaGreat.cutL with } x c w
 change Calls Tryz.prog 374 _ _ _ at this
 refine this.mono ?_
 rintro e w' ⟨rfl, rfl⟩
 exact hR.out
theorem slcut_calls (c : UInt8) (x : ByteArray) (w : World) (hs : x.size ≤ 1000000) (R : Ending → World → Prop)
  (hR : Hid (∀ w', Below w.heap.size w w' → R (.returned (.tuple #[.string (cutC c x).1, .string (cutC c x).2.1, .bool (cutC c x).2.2])) w')) :
  Calls Tryz.prog 371 #[.string x, .string ⟨#[c]⟩] w R := by
 have cI := fun (W : World) R hR => index_calls c x W R hR
 obtain ⟨b, hb⟩ : ∃ b : ByteArray, b = ⟨#[c]⟩ := ⟨_, rfl⟩
 have hbz : b.size = 1 := by subst hb; rfl
 rw [← hb] at cI ⊢
 rcases cut_cases c x with ⟨e, hi, -⟩ | ⟨o, ho, hi, e, -⟩
 ·rw [e] at hR
  rw [hi] at cI
  clear e hi hb
  replace cI := Lib.hid cI
  go_enter Tryz.func371, Tryz.ntmps371
  go_wp2_with fail
  refine cI.out _ _ (Lib.hid ?_)
  go_wp2_with fail
  go_ret3
  exact hR.out _ (Below.refl _ _)
 ·rw [e] at hR
  rw [hi] at cI
  clear e hi hb
  replace cI := Lib.hid cI
  have c1 : (0 : Int) ≤ ↑o := by omega
  have c2 : (↑o : Int) ≤ ↑x.size := by omega
  have c3 : (0 : Int) ≤ ↑o + 1 := by omega
  have c4 : (↑o + 1 : Int) ≤ ↑x.size := by omega
  go_enter Tryz.func371, Tryz.ntmps371
  go_wp2_with fail
  refine cI.out _ _ (Lib.hid ?_)
  go_wp2_with fail
  go_region
  go_wp2_with fail
  go_ret3
  exact hR.out _ (bdq (Below.refl _ _) _)
theorem cut_calls (c : UInt8) (x : ByteArray) (w : World) (hs : x.size ≤ 1000000) (R : Ending → World → Prop)
  (hR : Hid (∀ w', Below w.heap.size w w' → R (.returned (.tuple #[.string (cutC c x).1, .string (cutC c x).2.1, .bool (cutC c x).2.2])) w')) :
  Calls Tryz.prog 365 #[.string x, .string ⟨#[c]⟩] w R := by
 have cI := fun (W : World) R hR => slcut_calls c x W hs R hR
 generalize cutC c x = d at *
 obtain ⟨a, b, f⟩ := d
 simp only at cI hR
 replace cI := Lib.hid cI
 obtain ⟨b', hb⟩ : ∃ b : ByteArray, b = ⟨#[c]⟩ := ⟨_, rfl⟩
 rw [← hb] at cI ⊢
 clear hb
 go_enter Tryz.func365, Tryz.ntmps365
 go_wp2_with fail
 refine cI.out _ _ (fun w1 n1 => ?_)
 go_wp2_with fail
 go_ret3
 exact hR.out _ n1
def preC (c : UInt8) (x : ByteArray) : ByteArray × Bool := if 1 ≤ x.size ∧ byN x 0 = c.toNat then (x.extract 1 x.size, true) else (x, false)
theorem bl_head1 {x : ByteArray} (h : 1 ≤ x.size) : bl (x.extract 0 1) = [(byN x 0 : Int)] := by
 have h0 := bl_get x 0 (by omega)
 rw [bl_extract, List.drop_zero, List.take_one, List.head?_eq_getElem?, h0]
 rfl
theorem head_eq {x : ByteArray} (h : 1 ≤ x.size) (c : UInt8) : ((x.extract 0 1).toList == (⟨#[c]⟩ : ByteArray).toList) = decide (byN x 0 = c.toNat) := by
 rw [bl_inj, bl_head1 h]
 have : bl ⟨#[c]⟩ = [(c.toNat : Int)] := rfl
 rw [this]
 simp
 omega
theorem haspre_calls (c : UInt8) (x : ByteArray) (w : World) (hs : x.size ≤ 1000000) (R : Ending → World → Prop) (hR : Hid (R (.returned (.bool (preC c x).2)) w)) :
  Calls Tryz.prog 348 #[.string x, .string ⟨#[c]⟩] w R := by
 unfold preC at hR
 have hh := fun h : 1 ≤ x.size => head_eq h c
 obtain ⟨b, hb⟩ : ∃ b : ByteArray, b = ⟨#[c]⟩ := ⟨_, rfl⟩
 have hbz : b.size = 1 := by subst hb; rfl
 rw [← hb] at hh ⊢
 clear hb
 by_cases h1 : 1 ≤ x.size
 ·have h2 := hh h1
  clear hh
  have e : (if 1 ≤ x.size ∧ byN x 0 = c.toNat then (x.extract 1 x.size, true) else (x, false)).2 = decide (byN x 0 = c.toNat) := by
   by_cases h3 : byN x 0 = c.toNat
   ·rw [if_pos ⟨h1, h3⟩]; simp [h3]
   ·rw [if_neg (fun h => h3 h.2)]; simp [h3]
  rw [e] at hR
  clear e
  have h5 : (1 : Int) ≤ (x.size : Int) := by omega
  generalize decide (byN x 0 = c.toNat) = d at *
  cases d
  ·go_enter Tryz.func348, Tryz.ntmps348
   go_wp2_with fail
   exact hR.out
  ·go_enter Tryz.func348, Tryz.ntmps348
   go_wp2_with fail
   exact hR.out
 ·clear hh
  rw [if_neg (fun h => h1 h.1)] at hR
  have h0 : x.size = 0 := by omega
  go_enter Tryz.func348, Tryz.ntmps348
  go_wp2_with fail
  exact hR.out
theorem slpre_calls (c : UInt8) (x : ByteArray) (w : World) (hs : x.size ≤ 1000000) (R : Ending → World → Prop)
  (hR : Hid (R (.returned (.tuple #[.string (preC c x).1, .bool (preC c x).2])) w)) :
  Calls Tryz.prog 370 #[.string x, .string ⟨#[c]⟩] w R := by
 have cH := fun (W : World) R hR => haspre_calls c x W hs R hR
 have hp : (preC c x = (x.extract 1 x.size, true) ∧ 1 ≤ x.size) ∨ preC c x = (x, false) := by
  unfold preC; split
  ·next h => exact .inl ⟨rfl, h.1⟩
  ·exact .inr rfl
 obtain ⟨b, hb⟩ : ∃ b : ByteArray, b = ⟨#[c]⟩ := ⟨_, rfl⟩
 have hbz : b.size = 1 := by subst hb; rfl
 rw [← hb] at cH ⊢
 clear hb
 rcases hp with ⟨e, h1⟩ | e
 ·rw [e] at hR cH
  clear e
  simp only at hR cH
  replace cH := Lib.hid cH
  have h5 : (1 : Int) ≤ (x.size : Int) := by omega
  go_enter Tryz.func370, Tryz.ntmps370
  go_wp2_with fail
  refine cH.out _ _ (Lib.hid ?_)
  go_wp2_with fail
  exact hR.out
 ·rw [e] at hR cH
  clear e
  simp only at hR cH
  replace cH := Lib.hid cH
  go_enter Tryz.func370, Tryz.ntmps370
  go_wp2_with fail
  refine cH.out _ _ (Lib.hid ?_)
  go_wp2_with fail
  exact hR.out
theorem pre_calls (c : UInt8) (x : ByteArray) (w : World) (hs : x.size ≤ 1000000) (R : Ending → World → Prop)
  (hR : Hid (R (.returned (.tuple #[.string (preC c x).1, .bool (preC c x).2])) w)) :
  Calls Tryz.prog 364 #[.string x, .string ⟨#[c]⟩] w R := by
 have cH := fun (W : World) R hR => slpre_calls c x W hs R hR
 obtain ⟨b, hb⟩ : ∃ b : ByteArray, b = ⟨#[c]⟩ := ⟨_, rfl⟩
 rw [← hb] at cH ⊢
 clear hb
 generalize preC c x = d at *
 obtain ⟨a, f⟩ := d
 simp only at hR cH
 replace cH := Lib.hid cH
 go_enter Tryz.func364, Tryz.ntmps364
 go_wp2_with fail
 refine cH.out _ _ (Lib.hid ?_)
 go_wp2_with fail
 exact hR.out
end Go.Proofs.YtncijmodlhijoaaGreat.Cut
namespace Go.Proofs.YtncijmodlhijoaaGreat.Esc
open Go.RowKit Go.Lib Utf Ran Cel
theorem ret3t {R : Ending → World → Prop} {w : World} {a a' : ByteArray} {b b' : Int} {c c' : Bool} (h : R (.returned (.tuple #[.string a, .int .i64 b, .bool c])) w) (e1 : a = a') (e2 : b = b') (e3 : c = c') :
  R (.returned (.tuple #[.string a', .int .i64 b', .bool c'])) w := by subst e1 e2 e3; exact h
abbrev oneT (p : List Int × Nat) : Value := .tuple #[.string (strOfNums p.1), .int .i64 p.2, .bool (decide (p.2 ≠ 0))]
def byteP (l : List Int) : List Int × Nat := if 2 ≤ l.length ∧ 0 ≤ hexV (l.take 2) then ([hexV (l.take 2)], 4) else ([], 0)
def uniP (l : List Int) : List Int × Nat := match uniS l with | some (r, k) => (encL r, k + 4) | none => ([], 0)
theorem oneByte_calls (x : ByteArray) (w : World) (hs : x.size ≤ 1000000) (R : Ending → World → Prop)
  (hR : Hid (∀ w', Below w.heap.size w w' → R (.returned (oneT (byteP (bl x)))) w')) : Calls Tryz.prog 360 #[.string x] w R := by
 by_cases h2 : 2 ≤ x.size
 ·have hz : (x.extract 0 2).size = 2 := by rw [ByteArray.size_extract]; omega
  have cN := fun (W : World) R hR => number_calls (x.extract 0 2) (by omega) W R hR
  rw [bl_upto] at cN
  have hb := hexV_bd ((bl x).take 2)
  have hl : ((bl x).take 2).length ≤ 2 := by rw [List.length_take]; omega
  have hP : byteP (bl x) = if 0 ≤ hexV ((bl x).take 2) then ([hexV ((bl x).take 2)], 4) else ([], 0) := by
   unfold byteP
   rw [bl_length]
   by_cases h : 0 ≤ hexV ((bl x).take 2)
   ·rw [if_pos ⟨h2, h⟩, if_pos h]
   ·rw [if_neg (fun e => h e.2), if_neg h]
  rw [hP] at hR
  have hb2 := hb.2.2.2 hl
  have hb1 := hb.1
  clear hP hb hl
  generalize hexV ((bl x).take 2) = v at *
  have cv := cvB
  by_cases hv : 0 ≤ v
  ·rw [if_pos hv] at hR
   rw [if_neg (by omega), decide_eq_true hv] at cN
   replace cN := Lib.hid cN
   go_enter Tryz.func360, Tryz.ntmps360
   go_wp2_with fail
   refine cN.out _ _ (fun w1 n1 => ?_)
   go_wp2_with fail
   go_ret3
   exact hR.out _ (n1.alloc n1.size _)
  ·rw [if_neg hv] at hR
   rw [if_pos (by omega), decide_eq_false hv] at cN
   replace cN := Lib.hid cN
   go_enter Tryz.func360, Tryz.ntmps360
   go_wp2_with fail
   refine cN.out _ _ (fun w1 n1 => ?_)
   go_wp2_with fail
   go_ret3
   exact hR.out _ n1
 ·have hP : byteP (bl x) = ([], 0) := by unfold byteP; rw [bl_length, if_neg (fun e => h2 e.1)]
  rw [hP] at hR
  clear hP
  go_enter Tryz.func360, Tryz.ntmps360
  go_wp2_with fail
  go_ret3
  exact hR.out _ (Below.refl _ _)
theorem uni_open {x : ByteArray} (h : ¬ (1 ≤ x.size ∧ byN x 0 = 123)) : uniS (bl x) = none := by
 unfold uniS
 rw [if_neg]
 rw [List.head?_eq_getElem?]
 intro e
 have h1 := byN_of_bl e
 have h0 : 1 ≤ x.size := by
  have := (List.getElem?_eq_some_iff.1 e).1
  rw [bl_length] at this
  omega
 exact h ⟨h0, by omega⟩
theorem uni_head {x : ByteArray} (h1 : 1 ≤ x.size) (h : byN x 0 = 123) : (bl x).head? = some 123 := by
 rw [List.head?_eq_getElem?, bl_get x 0 (by omega), h]; rfl
theorem bl_seven {x : ByteArray} {M : Nat} (hM : M = min (x.size - 1) 7) : bl ((x.extract 1 x.size).extract 0 M) = ((bl x).drop 1).take 7 := by
 rw [bl_upto, bl_from, hM]
 by_cases h : x.size - 1 ≤ 7
 ·rw [List.take_of_length_le (by rw [List.length_drop, bl_length]; omega), List.take_of_length_le (by rw [List.length_drop, bl_length]; omega)]
 ·rw [show min (x.size - 1) 7 = 7 by omega]
theorem uni_unclosed {x y : ByteArray} (hy : bl y = ((bl x).drop 1).take 7) (h : ∀ j, j < y.size → byN y j ≠ 125) : uniS (bl x) = none := by
 unfold uniS
 split
 ·rw [if_neg]
  intro e
  rw [← hy] at e
  have : fi (bl y) = (bl y).length := fi_none fun j hj e2 => by
   rw [bl_get y j (by rw [← bl_length]; exact hj)] at e2
   simp only [Option.some.injEq] at e2
   exact h j (by rw [← bl_length]; exact hj) (by omega)
  omega
 ·rfl
theorem uni_hit {x y : ByteArray} {o : Nat} (h1 : 1 ≤ x.size) (h2 : byN x 0 = 123) (hy : bl y = ((bl x).drop 1).take 7) (ho : o < y.size) (h3 : byN y o = 125) (hn : ∀ j, j < o → byN y j ≠ 125) :
  uniS (bl x) = if 0 ≤ hexV (bl (y.extract 0 o)) ∧ scalarB (hexV (bl (y.extract 0 o))) = true then some (hexV (bl (y.extract 0 o)), o) else none := by
 have hf : fi (bl y) = o := by
  refine fi_hit ?_ fun j hj e => ?_
  ·rw [bl_get y o ho, h3]; rfl
  ·rw [bl_get y j (by omega)] at e
   simp only [Option.some.injEq] at e
   exact hn j hj (by omega)
 unfold uniS
 rw [if_pos (uni_head h1 h2), ← hy, hf, bl_upto]
 by_cases h : 0 ≤ hexV ((bl y).take o) ∧ scalarB (hexV ((bl y).take o)) = true
 ·rw [if_pos ⟨by rw [bl_length]; exact ho, h⟩, if_pos h]
 ·rw [if_neg (fun e => h e.2), if_neg h]
theorem pre_yes {x : ByteArray} (h : 1 ≤ x.size ∧ byN x 0 = 123) : Cut.preC 123 x = (x.extract 1 x.size, true) := if_pos h
theorem pre_no {x : ByteArray} (h : ¬ (1 ≤ x.size ∧ byN x 0 = 123)) : Cut.preC 123 x = (x, false) := if_neg h
theorem oneScalar_calls (x : ByteArray) (w : World) (hs : x.size ≤ 1000000) (R : Ending → World → Prop)
  (hR : Hid (∀ w', Below w.heap.size w w' → R (.returned (oneT (uniP (bl x)))) w')) : Calls Tryz.prog 361 #[.string x] w R := by
 have cP := fun (W : World) R hR => Cut.pre_calls 123 x W hs R hR
 by_cases h1 : 1 ≤ x.size ∧ byN x 0 = 123
 ·rw [pre_yes h1] at cP
  have hz : (x.extract 1 x.size).size = x.size - 1 := by rw [ByteArray.size_extract]; omega
  obtain ⟨M, hM⟩ : ∃ M : Nat, M = min (x.size - 1) 7 := ⟨_, rfl⟩
  have hMi : min ((x.extract 1 x.size).size : Int) 7 = (M : Int) := by omega
  have hM7 : M ≤ 7 := by omega
  have hMz : M ≤ (x.extract 1 x.size).size := by omega
  have hy := bl_seven hM
  have hyz : ((x.extract 1 x.size).extract 0 M).size = M := by rw [ByteArray.size_extract]; omega
  have cC := fun (W : World) R hR => Cut.cut_calls 125 ((x.extract 1 x.size).extract 0 M) W (by omega) R hR
  have hu1 := fun h => uni_unclosed hy h
  have hu2 := fun (o : Nat) h3 h4 h5 => uni_hit (o := o) h1.1 h1.2 hy h3 h4 h5
  have hcs := Cut.cut_cases 125 ((x.extract 1 x.size).extract 0 M)
  simp only at cP
  generalize hi : x.extract 1 x.size = inner at *
  generalize hyy : inner.extract 0 M = y at *
  clear hy hM h1 hi hs hz
  rcases hcs with ⟨e, -, hn⟩ | ⟨o, ho, -, e, h125, hn⟩
  ·rw [e] at cC
   unfold uniP at hR
   rw [hu1 hn] at hR
   clear hu1 hu2 hn e
   simp only at cC hR
   replace cC := Lib.hid cC
   replace cP := Lib.hid cP
   go_enter Tryz.func361, Tryz.ntmps361
   go_wp2_with fail
   refine cP.out _ _ (Lib.hid ?_)
   go_wp2_with fail
   refine cC.out _ _ (fun w1 n1 => ?_)
   go_wp2_with fail
   go_ret3
   exact hR.out _ n1
  ·rw [e] at cC
   unfold uniP at hR
   rw [hu2 o ho h125 hn] at hR
   clear hu1 hu2 hn e h125
   simp only at cC hR
   have hdz : (y.extract 0 o).size = o := by rw [ByteArray.size_extract]; omega
   have cN := fun (W : World) R hR => number_calls (y.extract 0 o) (by omega) W R hR
   have hb := hexV_bd (bl (y.extract 0 o))
   have hb1 := hb.1
   have hb2 := hb.2.1
   clear hb
   generalize hexV (bl (y.extract 0 o)) = v at *
   generalize y.extract 0 o = dgs at *
   replace cC := Lib.hid cC
   replace cP := Lib.hid cP
   by_cases hv : 0 ≤ v
   ·rw [if_neg (by omega), decide_eq_true hv] at cN
    replace cN := Lib.hid cN
    have cS := fun (W : World) R h => scalar_calls v W R h
    have cE := fun (W : World) R h => enc_calls v W R h
    cases hsc : scalarB v
    ·rw [if_neg (fun e => by rw [hsc] at e; exact absurd e.2 (by decide))] at hR
     rw [hsc] at cS
     clear hsc cE
     simp only at hR
     replace cS := Lib.hid cS
     go_enter Tryz.func361, Tryz.ntmps361
     go_wp2_with fail
     refine cP.out _ _ (Lib.hid ?_)
     go_wp2_with fail
     refine cC.out _ _ (fun w1 n1 => ?_)
     go_wp2_with fail
     refine cN.out _ _ (fun w2 n2 => ?_)
     replace n2 := n1.trans (n2.mono n1.size)
     go_wp2_with fail
     refine cS.out _ _ ?_
     go_wp2_with fail
     go_ret3
     exact hR.out _ n2
    ·rw [if_pos ⟨hv, hsc⟩] at hR
     rw [hsc] at cS
     clear hsc
     simp only at hR
     replace cS := Lib.hid cS
     replace cE := Lib.hid cE
     go_enter Tryz.func361, Tryz.ntmps361
     go_wp2_with fail
     refine cP.out _ _ (Lib.hid ?_)
     go_wp2_with fail
     refine cC.out _ _ (fun w1 n1 => ?_)
     go_wp2_with fail
     refine cN.out _ _ (fun w2 n2 => ?_)
     replace n2 := n1.trans (n2.mono n1.size)
     go_wp2_with fail
     refine cS.out _ _ ?_
     go_wp2_with fail
     refine cE.out _ _ (Lib.hid fun w3 n3 => ?_)
     replace n3 := n2.trans (n3.mono n2.size)
     go_wp2_with fail
     go_ret3
     refine ret3t (hR.out _ n3) rfl (by omega) (decide_eq_true (by omega))
   ·rw [if_pos (by omega), decide_eq_false hv] at cN
    rw [if_neg (fun e => hv e.1)] at hR
    simp only at hR
    replace cN := Lib.hid cN
    go_enter Tryz.func361, Tryz.ntmps361
    go_wp2_with fail
    refine cP.out _ _ (Lib.hid ?_)
    go_wp2_with fail
    refine cC.out _ _ (fun w1 n1 => ?_)
    go_wp2_with fail
    refine cN.out _ _ (fun w2 n2 => ?_)
    replace n2 := n1.trans (n2.mono n1.size)
    go_wp2_with fail
    go_ret3
    exact hR.out _ n2
 ·rw [pre_no h1] at cP
  obtain ⟨M, hM⟩ : ∃ M : Nat, M = min x.size 7 := ⟨_, rfl⟩
  have hMi : min (x.size : Int) 7 = (M : Int) := by omega
  have hMz : M ≤ x.size := by omega
  have hyz : (x.extract 0 M).size = M := by rw [ByteArray.size_extract]; omega
  have cC := fun (W : World) R hR => Cut.cut_calls 125 (x.extract 0 M) W (by omega) R hR
  unfold uniP at hR
  rw [uni_open h1] at hR
  generalize Cut.cutC 125 (x.extract 0 M) = d at *
  obtain ⟨a, b, f⟩ := d
  simp only at cC hR cP
  generalize hyy : x.extract 0 M = y at *
  clear h1 hM
  replace cC := Lib.hid cC
  replace cP := Lib.hid cP
  go_enter Tryz.func361, Tryz.ntmps361
  go_wp2_with fail
  refine cP.out _ _ (Lib.hid ?_)
  go_wp2_with fail
  refine cC.out _ _ (fun w1 n1 => ?_)
  go_wp2_with fail
  go_ret3
  exact hR.out _ n1
end Go.Proofs.YtncijmodlhijoaaGreat.Esc
