import Derived.Test.YthelhplcijhioaaGreatLib
import Derived.Test.YthelhplcijhioaaGreatBldH
import Derived.Lib.FrozenHead2
import Derived.Lib.OthersKept
import Derived.Test.YthelhplcijhioaaGreatG25
import Derived.Deep.WholeRow
/- strings.Builder, walked over this program: copyCheck, WriteByte, WriteString, String, at a builder that the caller has made itself. -/
set_option maxRecDepth 100000
set_option linter.unusedVariables false
namespace Go.Proofs.YthelhplcijhioaaGreat.Bld
open Go.Shelf Go.RowKit Go.Lib

/-- A builder in block b that holds the bytes of x. -/
def Bld (B b : Nat) (x : ByteArray) (w : World) : Prop := Lib.IsBuilderF 163 5 B b (Lib.strCells x) w
theorem szB : (Tryz.prog.info? 163).map (·.size) = some 2 := by kernel_rfl
theorem liB : liesAt Tryz.prog Tryz.prog.depth 163 (2 / Tryz.prog.cellsOf 163) 0 163 1 = true := by kernel_rfl
theorem inB : (Tryz.prog.info? 5).map (fun i => (i.zero, i.size, i.bytes)) = some (some (.int .u8 0), 1, 1) := by kernel_rfl
theorem neB : 163 ≠ 5 := by decide
theorem stX : Builder.Extra Tryz.prog YthelhplcijhioaaGreat.stL_ren where
  sizeBuilder := by kernel_rfl
  liesBuilder := by kernel_rfl
  t5 := Tryz.underlying5
  a5 := Tryz.isAgg5
  z5 := Tryz.sizeOf5
  v5 := Tryz.zeroValue5
  infoByte := by kernel_rfl
  cellsByte := by kernel_rfl
  sizeByte := by kernel_rfl
  neB5 := by decide

theorem Bld.below {B b : Nat} {x : ByteArray} {w w' : World} (h : Bld B b x w) (hb : Below w.heap.size w w') : Bld B b x w' := by
  have key : ∀ p, Lib.BuilderAtF 163 5 B b p (Lib.strCells x) w → Lib.BuilderAtF 163 5 B b p (Lib.strCells x) w' := by
    intro p hp
    have hlt := hp.lt
    obtain ⟨hB, v, hbk, hown, hne⟩ := hp
    refine ⟨hB, v, by rw [hb.block b hlt]; exact hbk, hown.kept (row := none) ⟨hb.os, hb.tape, hb.output, hb.size, fun k hk _ => hb.block k hk⟩ ?_, hne⟩
    cases hv : v.ownBlock <;> simp
  rcases h with h | h
  · exact .inl (key _ h)
  · exact .inr (key _ h)
theorem Bld.alloc {B b : Nat} {x : ByteArray} {w : World} (h : Bld B b x w) (o : Obj) : Bld B b x (w.alloc o) := by
  rcases h with h | h
  · exact .inl (h.alloc o)
  · exact .inr (h.alloc o)
theorem Bld.lt {B b : Nat} {x : ByteArray} {w : World} (h : Bld B b x w) : b < w.heap.size := by rcases h with h | h <;> exact h.lt
theorem Bld.fresh (w : World) : Bld w.heap.size w.heap.size ByteArray.empty (w.alloc (.cells #[.pointer none, .slice none 0 0] 163)) := Lib.IsBuilderF.of (Lib.fresh_isBuilder 163 5 w)

set_option maxHeartbeats 1000000 in
set_option maxRecDepth 100000 in
theorem check_calls (B b : Nat) (bs : List Value) (w : World) (h : Lib.IsBuilderF 163 5 B b bs w) :
    Calls Tryz.prog 148 #[.pointer (some ⟨b, 0, none⟩)] w fun e w' => e = .returned (.tuple #[]) ∧ (Lib.BuilderAtF 163 5 B b (.pointer (some ⟨b, 0, none⟩)) bs w' ∧ Below B w w' ∧ Lib.OthersKept 5 (some b) w w') := by
  obtain ⟨j, hj, hjs⟩ := Option.map_eq_some_iff.1 szB
  rcases h with h | h
  · have h0 := h.cell0
    have hsh := h.shape
    have hfz := h.frozen0
    have fin : Lib.BuilderAtF 163 5 B b (.pointer (some ⟨b, 0, none⟩)) bs (w.setCell ⟨b, 0, none⟩ (.pointer (some ⟨b, 0, none⟩))) ∧ Below B w (w.setCell ⟨b, 0, none⟩ (.pointer (some ⟨b, 0, none⟩))) ∧
        Lib.OthersKept 5 (some b) w (w.setCell ⟨b, 0, none⟩ (.pointer (some ⟨b, 0, none⟩))) :=
      ⟨h.used _, (Below.refl B w).setCell (p := ⟨b, 0, none⟩) h.1 _, (Lib.OthersKept.refl _ _ w).setCell ⟨b, 0, none⟩ rfl _⟩
    clear h
    replace fin := Lib.hid fin
    go_enter Tryz.func148, Tryz.ntmps148
    go_wp2
    rw [Lib.run_to_unsafe w ⟨b, 0, none⟩ Tryz.underlying161 Tryz.underlying194 hj (by rw [hjs]; decide) hsh (Nat.zero_lt_succ 1)]
    simp only [Result.andThen]
    rw [Oper.upon_value]
    go_wp2
    rw [run_callFunc_extern Tryz.func157 (by kernel_rfl) (by kernel_rfl) (by kernel_rfl) (e := Extern.AbiNoEscape.same) (by kernel_rfl)]
    rw [Lib.run_noEscape]
    simp only [Result.andThen]
    rw [Oper.upon_value]
    go_wp2
    rw [Lib.run_from_unsafe w ⟨b, 0, none⟩ Tryz.underlying194 Tryz.underlying161 hj hsh liB]
    simp only [Result.andThen]
    rw [Oper.upon_value]
    go_wp2
    go_end0
    exact ⟨rfl, fin.out⟩
  · have h0 := h.cell0
    have fin : Lib.BuilderAtF 163 5 B b (.pointer (some ⟨b, 0, none⟩)) bs w ∧ Below B w w ∧ Lib.OthersKept 5 (some b) w w := ⟨h, Below.refl B _, Lib.OthersKept.refl _ _ _⟩
    clear h
    replace fin := Lib.hid fin
    go_enter Tryz.func148, Tryz.ntmps148
    go_wp2
    rw [Lib.run_neq_ptr_same w _ Tryz.underlying161 hj]
    go_wp2
    go_end0
    exact ⟨rfl, fin.out⟩

theorem strCells_snoc (x : ByteArray) (c : Int) (h0 : 0 ≤ c) (h1 : c < 256) : Lib.strCells (x ++ strOfNums [c]) = Lib.strCells x ++ [.int .u8 c] := by
  obtain ⟨n, rfl⟩ := Int.eq_ofNat_of_zero_le h0
  simp [Lib.strCells, strOfNums]
  omega
theorem strCells_app (x y : ByteArray) : Lib.strCells (x ++ y) = Lib.strCells x ++ Lib.strCells y := by simp [Lib.strCells]

set_option maxHeartbeats 2000000 in
set_option maxRecDepth 100000 in
theorem wstr_calls (B b : Nat) (x s : ByteArray) (w : World) (h : Bld B b x w) (hlen : x.size + s.size ≤ 1000000000) (hBw : B ≤ w.heap.size) (R : Ending → World → Prop)
    (hR : Hid (∀ w', Bld B b (x ++ s) w' → Below B w w' → Lib.OthersKept 5 (some b) w w' → R (.returned (.tuple #[.int .i64 s.size, .nilIface])) w')) :
    Calls Tryz.prog 132 #[.pointer (some ⟨b, 0, none⟩), .string s] w R := by
  obtain ⟨i0, hi, hz0, hz1, hz2⟩ := info_parts inB
  unfold Bld at hR h
  rw [strCells_app] at hR
  rw [← Lib.strCells_length x] at hlen
  generalize Lib.strCells x = bs at *
  go_enter Tryz.func132, Tryz.ntmps132
  go_wp2_with (go_at_call 148; refine (check_calls B b bs _ h).mono ?_)
  rintro e w1 ⟨rfl, h1, hb1, hk1⟩
  obtain ⟨hB, v, hbk, hown, hne⟩ := h1
  have c0 : w1.cell? ⟨b, 0, none⟩ = some (.pointer (some ⟨b, 0, none⟩)) := by rw [Lib.cell_of_heap hbk]; rfl
  have c1 : w1.cell? ⟨b, 1, none⟩ = some v := by rw [Lib.cell_of_heap hbk]; rfl
  go_wp2_with (at_builtin; refine Lib.wpList_append_own_stringF _ rfl _ _ 145 9 rfl B 5 i0 Tryz.underlying145 Tryz.underlying9 hi hz0 hz1 hz2 _ _ _ rfl hown s rfl ?c3 ?c4 ?c5 ?_)
  case c3 => unfold maxLen; omega
  case c4 => omega
  case c5 => have := hb1.size; omega
  intro v' w2 hown' hgrow _
  have hlt : b < w1.heap.size := by
    rcases Nat.lt_or_ge b w1.heap.size with h' | h'
    · exact h'
    · simp [Array.getElem?_eq_none h'] at hbk
  have hb2 : w2.heap[b]? = some (.cells #[.pointer (some ⟨b, 0, none⟩), v] 163 (0, 0)) := by
    rw [hgrow.block b hlt (fun e => hne e.symm)]
    exact hbk
  have d0 : w2.cell? ⟨b, 0, none⟩ = some (.pointer (some ⟨b, 0, none⟩)) := by rw [Lib.cell_of_heap hb2]; rfl
  have d1 : w2.cell? ⟨b, 1, none⟩ = some v := by rw [Lib.cell_of_heap hb2]; rfl
  have f1 : w2.frozen? ⟨b, 1, none⟩ = false := Lib.frozen_of_heap hb2 1
  obtain ⟨ao, n', cap, rfl⟩ : ∃ ao n' cap, v' = .slice ao n' cap := by
    rcases hown'.2 with ⟨hv, _⟩ | ⟨g, cap, cur, fz, hv, _⟩
    · exact ⟨_, _, _, hv⟩
    · exact ⟨_, _, _, hv⟩
  go_wp2
  refine hR.out _ (.inr ?_) ?_ ((hk1.grown hgrow (Lib.ownsRowF_kind hown)).setCell ⟨b, 1, none⟩ rfl _)
  · exact Lib.BuilderAtF.put (T := 163) (e := 5) hB hb2 (bs' := bs ++ Lib.strCells s) (by simpa [Lib.strCells_length] using hown') neB
  · exact (hb1.grown hgrow (by have := hb1.size; omega) (fun k hk => (hown.lt k hk).1)).setCell (p := ⟨b, 1, none⟩) hB _

theorem bstr_calls (B b : Nat) (x : ByteArray) (w : World) (h : Bld B b x w) (hBw : B ≤ w.heap.size) (R : Ending → World → Prop)
    (hR : Hid (∀ w', Bld B b x w' → Below B w w' → Lib.OthersKept 5 (some b) w w' → R (.returned (.string x)) w')) :
    Calls Tryz.prog 130 #[.pointer (some ⟨b, 0, none⟩)] w R := by
  have := Any.Builder_String_any_k (ρ := YthelhplcijhioaaGreat.stL_ren) YthelhplcijhioaaGreat.stL stX B b x.data.toList w h hBw
  refine this.mono ?_
  rintro e w' ⟨rfl, h1, h2, h3⟩
  exact hR.out w' h1 h2 h3
end Go.Proofs.YthelhplcijhioaaGreat.Bld

/- The code's split, Put, Columns. -/
set_option maxRecDepth 100000
set_option linter.unusedVariables false
namespace Go.Proofs.YthelhplcijhioaaGreat.Dig
open Go.RowKit Go.Lib Go.Proofs.YthelhplcijhioaaGreat.Utf Go.Proofs.YthelhplcijhioaaGreat.Bld

theorem natAbs_tdiv10 (c : Int) : (c.tdiv 10).natAbs = c.natAbs / 10 := by rw [Int.natAbs_tdiv]; rfl
theorem tdiv10_bd (c : Int) (h1 : -9223372036854775808 ≤ c) (h2 : c ≤ 9223372036854775807) : -9223372036854775808 ≤ c.tdiv 10 ∧ c.tdiv 10 ≤ 9223372036854775807 := by
  have := natAbs_tdiv10 c
  omega
/-- The digits that are still to come, before those that are there. -/
theorem dig_more {c : Int} (h : c.tdiv 10 ≠ 0) : decL c.natAbs = decL (c.tdiv 10).natAbs ++ [48 + ((c.natAbs % 10 : Nat) : Int)] := by
  have := natAbs_tdiv10 c
  rw [this, decL_ge (by omega)]
theorem dig_last {c : Int} (h : c.tdiv 10 = 0) : decL c.natAbs = [48 + ((c.natAbs % 10 : Nat) : Int)] := by
  have := natAbs_tdiv10 c
  rw [decL_lt (by omega), show c.natAbs % 10 = c.natAbs by omega]

theorem strOf_app (a b : List Int) : strOfNums (a ++ b) = strOfNums a ++ strOfNums b := by
  apply ByteArray.ext
  apply Array.ext'
  rw [strOfNums_data, ByteArray.data_append, Array.toList_append, strOfNums_data, strOfNums_data, List.map_append]
/-- The text of a number: its sign, its digits. -/
def sgn (n : Int) : List Int := if n < 0 then [45] else []
theorem putS_eq (n : Int) : putS n = strOfNums (sgn n ++ decL n.natAbs) := by
  unfold putS putL sgn
  split
  · rfl
  · rw [show n.toNat = n.natAbs by omega]; rfl

theorem dec_len (n : Nat) (h : n ≤ 9223372036854775808) : (decL n).length ≤ 19 := by
  obtain ⟨x, l, e, h0⟩ := dec_cons n
  rw [e, List.length_cons]
  by_cases h48 : x = 48
  · rw [(h0 h48).2]; decide
  · have hd := dec_dg n x (by rw [e]; exact List.mem_cons_self)
    have h1 := val_ge (l := l) hd h48
    rw [← e, val_dec] at h1
    have h2 : 10 ^ l.length < 10 ^ 19 := by omega
    have := (Nat.pow_lt_pow_iff_right (by decide : 1 < 10)).1 h2
    omega
end Go.Proofs.YthelhplcijhioaaGreat.Dig

/- The code's Take, Parse; lives. -/
set_option maxRecDepth 100000
set_option linter.unusedVariables false
namespace Go.Proofs.YthelhplcijhioaaGreat.Dig
open Go.RowKit Go.Lib Go.Proofs.YthelhplcijhioaaGreat.Utf

/-- What Take hands back. -/
def tkT (t : Int × Int × Int × Int) : Value := .tuple #[.int .i64 t.1, .int .i64 t.2.1, .agg #[.int .i64 t.2.2.1, .int .i64 t.2.2.2]]
/-- Take behind the sign. -/
def tkG (s : ByteArray) (a f : Nat) (neg : Bool) : Int × Int × Int × Int :=
  if dgs s f = [] then (0, 0, if f = s.size then 5 else 19, f)
  else if byN s f = 48 ∧ (1 < (dgs s f).length ∨ neg = true) then (0, 0, 19, a)
  else if lowN neg < valN (dgs s f) then (0, 0, 13, a)
  else (if neg then -(valN (dgs s f) : Int) else (valN (dgs s f) : Int), (f + (dgs s f).length : Nat), 0, 0)
theorem tkN_eq (s : ByteArray) (a : Nat) : tkN s a = tkG s a (if a < s.size ∧ byN s a = 45 then a + 1 else a) (decide (a < s.size ∧ byN s a = 45)) := by
  unfold tkN tkG lowN
  by_cases h : a < s.size ∧ byN s a = 45
  · simp only [h, and_self, decide_true, if_true, or_true]
  · simp only [h, decide_false, if_false, Bool.false_eq_true]

set_option maxRecDepth 100000 in
set_option maxHeartbeats 1000000 in
theorem take_calls (s : ByteArray) (i : Int) (hi : -9223372036854775808 ≤ i ∧ i ≤ 9223372036854775807) (w : World) (hs : s.size ≤ 1000000000000000) (R : Ending → World → Prop)
    (hR : Hid (∀ w', Below w.heap.size w w' → R (.returned (tkT (tkS s i))) w')) : Calls Tryz.prog 106 #[.string s, .int .i64 i] w R := by
  unfold tkS at hR
  by_cases hb : i < 0 ∨ (s.size : Int) < i
  · rw [if_pos hb] at hR
    rcases hb with hb | hb
    · go_enter Tryz.func106, Tryz.ntmps106
      go_wp2_with fail
      refine bodyPost_ret ?_ rfl (hR.out _ ((Below.refl w.heap.size w).alloc (Nat.le_refl _) _))
      simp [results, Tryz.results106, go_sem, tkT]
    · have hb2 : ¬ i < 0 := by omega
      go_enter Tryz.func106, Tryz.ntmps106
      go_wp2_with fail
      refine bodyPost_ret ?_ rfl (hR.out _ ((Below.refl w.heap.size w).alloc (Nat.le_refl _) _))
      simp [results, Tryz.results106, go_sem, tkT]
  · rw [if_neg hb] at hR
    obtain ⟨a, rfl⟩ : ∃ a : Nat, i = a := ⟨i.toNat, by omega⟩
    rw [Int.toNat_natCast, tkN_eq] at hR
    have ha : a ≤ s.size := by omega
    clear hb hi
    have hxz : (s.extract a s.size).size = s.size - a := by rw [ByteArray.size_extract]; omega
    have hpre : decide (1 ≤ (s.extract a s.size).size ∧ byN (s.extract a s.size) 0 = (45 : UInt8).toNat) = decide (a < s.size ∧ byN s a = 45) := by
      rw [hxz]
      by_cases h : a < s.size
      · rw [byN_ext s a s.size 0 (by omega) (Nat.le_refl _), Nat.add_zero]
        simp only [h, true_and, show 1 ≤ s.size - a by omega]
        rfl
      · rw [decide_eq_false (fun e => by omega), decide_eq_false (fun e => h e.1)]
    have cH := fun (W : World) R hR => hasprefix_calls 45 (s.extract a s.size) W (by omega) R hR
    rw [hpre] at cH
    obtain ⟨f, hf⟩ : ∃ f, (if a < s.size ∧ byN s a = 45 then a + 1 else a) = f := ⟨_, rfl⟩
    rw [hf] at hR
    obtain ⟨neg, hneg⟩ : ∃ neg, decide (a < s.size ∧ byN s a = 45) = neg := ⟨_, rfl⟩
    rw [hneg] at hR cH
    have hf2 : f = (if neg then a + 1 else a) := by rw [← hf, ← hneg]; by_cases h : a < s.size ∧ byN s a = 45 <;> simp [h]
    have hfs : f ≤ s.size := by
      rw [← hf]; split <;> omega
    clear hf hneg hpre
    have cB := fun (W : World) R hR => behind_calls s f hfs W hs R hR
    have hl := dgs_len hfs
    have hx2 : (s.extract f (f + (dgs s f).length)).size = (dgs s f).length := by rw [ByteArray.size_extract]; omega
    have cV := fun (W : World) R hR => value_calls (s.extract f (f + (dgs s f).length)) neg (by rw [dgs_ext hfs]; exact dgs_dg s f) W (by omega) R hR
    rw [dgs_ext hfs] at cV
    have hend : f = s.size → dgs s f = [] := fun e => dgs_end (by omega)
    have hg := fun h : f < s.size => byN_get s f h
    have hb8 := byN_lt s f
    unfold tkG at hR
    unfold valR at cV
    obtain ⟨w0, hw0⟩ : ∃ w0, w0 = w.alloc (.cells #[.int .i64 0, .int .i64 0] 35) := ⟨_, rfl⟩
    have z0 : w0.heap.size = w.heap.size + 1 := by rw [hw0]; simp
    have h0 : w0.heap[w.heap.size]? = some (.cells #[.int .i64 0, .int .i64 0] 35 (0, 0)) := by rw [hw0]; exact Array.getElem?_push_size
    have b0 : Below w.heap.size w w0 := by rw [hw0]; exact (Below.refl _ _).alloc (Nat.le_refl _) _
    have fin : ∀ W : World, Below (w.heap.size + 1) w0 W → W.cell? ⟨w.heap.size, 0, none⟩ = some (.int .i64 0) ∧ W.cell? ⟨w.heap.size, 1, none⟩ = some (.int .i64 0) ∧ W.frozen? ⟨w.heap.size, 0, none⟩ = false ∧ W.frozen? ⟨w.heap.size, 1, none⟩ = false ∧ Below w.heap.size w W := fun W hW => by
      have hh : W.heap[w.heap.size]? = some (.cells #[.int .i64 0, .int .i64 0] 35 (0, 0)) := by rw [hW.block _ (by omega)]; exact h0
      exact ⟨by rw [Lib.cell_of_heap hh]; rfl, by rw [Lib.cell_of_heap hh]; rfl, Lib.frozen_of_heap hh 0, Lib.frozen_of_heap hh 1, b0.trans (hW.mono (by omega))⟩
    replace fin := Lib.hid fin
    clear h0 b0
    generalize dgs s f = L at *
    replace cH := Lib.hid cH
    replace cB := Lib.hid cB
    by_cases hL : L = []
    · rw [if_pos hL] at hR
      subst hL
      rw [List.length_nil, Nat.add_zero] at cB
      clear cV hx2 hend
      by_cases hfe : f = s.size
      · rw [if_pos hfe] at hR
        replace hfe : s.size ≤ f := by omega
        cases neg
        · simp only [Bool.false_eq_true, if_false] at hf2
          subst hf2
          go_enter Tryz.func106, Tryz.ntmps106
          go_wp2_with fail
          refine cH.out _ _ (Lib.hid ?_)
          go_wp2_with fail
          refine cB.out _ _ (Lib.hid fun w1 n1 => ?_)
          rw [← hw0, z0] at n1
          obtain ⟨c0, c1, g0, g1, n4⟩ := fin.out w1 n1
          clear fin
          go_wp2_with fail
          refine bodyPost_ret ?_ rfl (hR.out _ ((n4.setCell (p := ⟨w.heap.size, 0, none⟩) (Nat.le_refl _) _).setCell (p := ⟨w.heap.size, 1, none⟩) (Nat.le_refl _) _))
          simp [results, Tryz.results106, go_sem, tkT, c0, c1]
        · simp only [if_true] at hf2
          subst hf2
          have hfa : ((a + 1 : Nat) : Int) = (a : Int) + 1 := by omega
          simp only [hfa] at cB hR
          go_enter Tryz.func106, Tryz.ntmps106
          go_wp2_with fail
          refine cH.out _ _ (Lib.hid ?_)
          go_wp2_with fail
          refine cB.out _ _ (Lib.hid fun w1 n1 => ?_)
          rw [← hw0, z0] at n1
          obtain ⟨c0, c1, g0, g1, n4⟩ := fin.out w1 n1
          clear fin
          go_wp2_with fail
          refine bodyPost_ret ?_ rfl (hR.out _ ((n4.setCell (p := ⟨w.heap.size, 0, none⟩) (Nat.le_refl _) _).setCell (p := ⟨w.heap.size, 1, none⟩) (Nat.le_refl _) _))
          simp [results, Tryz.results106, go_sem, tkT, c0, c1]
      · rw [if_neg hfe] at hR
        cases neg
        · simp only [Bool.false_eq_true, if_false] at hf2
          subst hf2
          go_enter Tryz.func106, Tryz.ntmps106
          go_wp2_with fail
          refine cH.out _ _ (Lib.hid ?_)
          go_wp2_with fail
          refine cB.out _ _ (Lib.hid fun w1 n1 => ?_)
          rw [← hw0, z0] at n1
          obtain ⟨c0, c1, g0, g1, n4⟩ := fin.out w1 n1
          clear fin
          go_wp2_with fail
          refine bodyPost_ret ?_ rfl (hR.out _ ((n4.setCell (p := ⟨w.heap.size, 0, none⟩) (Nat.le_refl _) _).setCell (p := ⟨w.heap.size, 1, none⟩) (Nat.le_refl _) _))
          simp [results, Tryz.results106, go_sem, tkT, c0, c1]
        · simp only [if_true] at hf2
          subst hf2
          have hfa : ((a + 1 : Nat) : Int) = (a : Int) + 1 := by omega
          simp only [hfa] at cB hR
          go_enter Tryz.func106, Tryz.ntmps106
          go_wp2_with fail
          refine cH.out _ _ (Lib.hid ?_)
          go_wp2_with fail
          refine cB.out _ _ (Lib.hid fun w1 n1 => ?_)
          rw [← hw0, z0] at n1
          obtain ⟨c0, c1, g0, g1, n4⟩ := fin.out w1 n1
          clear fin
          go_wp2_with fail
          refine bodyPost_ret ?_ rfl (hR.out _ ((n4.setCell (p := ⟨w.heap.size, 0, none⟩) (Nat.le_refl _) _).setCell (p := ⟨w.heap.size, 1, none⟩) (Nat.le_refl _) _))
          simp [results, Tryz.results106, go_sem, tkT, c0, c1]
    · rw [if_neg hL] at hR
      have hf3 : f < s.size := by
        rcases Nat.lt_or_ge f s.size with h | h
        · exact h
        · exact absurd (hend (by omega)) hL
      replace hg := hg hf3
      have hl1 : 1 ≤ L.length := List.length_pos_iff.2 hL
      obtain ⟨E, hE⟩ : ∃ E, f + L.length = E := ⟨_, rfl⟩
      rw [hE] at cB hx2 hl
      simp only [hE] at cV hR
      have hfE : f < E := by omega
      clear hend hL
      by_cases h48 : byN s f = 48 ∧ (1 < L.length ∨ neg = true)
      · rw [if_pos h48] at hR
        obtain ⟨h48, hor⟩ := h48
        clear cV
        cases neg
        · have hlen : f + 1 < E := by
            rcases hor with h | h
            · omega
            · cases h
          simp only [Bool.false_eq_true, if_false] at hf2
          subst hf2
          go_enter Tryz.func106, Tryz.ntmps106
          go_wp2_with fail
          refine cH.out _ _ (Lib.hid ?_)
          go_wp2_with fail
          refine cB.out _ _ (Lib.hid fun w1 n1 => ?_)
          rw [← hw0, z0] at n1
          obtain ⟨c0, c1, g0, g1, n4⟩ := fin.out w1 n1
          clear fin
          go_wp2_with fail
          refine bodyPost_ret ?_ rfl (hR.out _ ((n4.setCell (p := ⟨w.heap.size, 0, none⟩) (Nat.le_refl _) _).setCell (p := ⟨w.heap.size, 1, none⟩) (Nat.le_refl _) _))
          simp [results, Tryz.results106, go_sem, tkT, c0, c1]
        · simp only [if_true] at hf2
          subst hf2
          have hfa : ((a + 1 : Nat) : Int) = (a : Int) + 1 := by omega
          simp only [hfa] at cB hR
          go_enter Tryz.func106, Tryz.ntmps106
          go_wp2_with fail
          refine cH.out _ _ (Lib.hid ?_)
          go_wp2_with fail
          refine cB.out _ _ (Lib.hid fun w1 n1 => ?_)
          rw [← hw0, z0] at n1
          obtain ⟨c0, c1, g0, g1, n4⟩ := fin.out w1 n1
          clear fin
          go_wp2_with fail
          refine bodyPost_ret ?_ rfl (hR.out _ ((n4.setCell (p := ⟨w.heap.size, 0, none⟩) (Nat.le_refl _) _).setCell (p := ⟨w.heap.size, 1, none⟩) (Nat.le_refl _) _))
          simp [results, Tryz.results106, go_sem, tkT, c0, c1]
      · rw [if_neg h48] at hR
        by_cases hbig : lowN neg < valN L
        · rw [if_pos hbig] at hR
          rw [if_pos hbig] at cV
          simp only at cV hR
          replace cV := Lib.hid cV
          clear hbig
          cases neg
          · simp only [Bool.false_eq_true, if_false] at hf2
            subst hf2
            by_cases h0 : byN s f = 48
            · have hlen : E ≤ f + 1 := by
                have : ¬ 1 < L.length := fun h => h48 ⟨h0, .inl h⟩
                omega
              clear h48
              go_enter Tryz.func106, Tryz.ntmps106
              go_wp2_with fail
              refine cH.out _ _ (Lib.hid ?_)
              go_wp2_with fail
              refine cB.out _ _ (Lib.hid fun w1 n1 => ?_)
              rw [← hw0, z0] at n1
              go_wp2_with fail
              refine cV.out _ _ (Lib.hid fun w2 n2 => ?_)
              replace n2 := n1.trans (n2.mono (by have := n1.size; omega))
              obtain ⟨c0, c1, g0, g1, n4⟩ := fin.out w2 n2
              clear fin
              go_wp2_with fail
              refine bodyPost_ret ?_ rfl (hR.out _ ((n4.setCell (p := ⟨w.heap.size, 0, none⟩) (Nat.le_refl _) _).setCell (p := ⟨w.heap.size, 1, none⟩) (Nat.le_refl _) _))
              simp [results, Tryz.results106, go_sem, tkT, c0, c1]
            · clear h48
              go_enter Tryz.func106, Tryz.ntmps106
              go_wp2_with fail
              refine cH.out _ _ (Lib.hid ?_)
              go_wp2_with fail
              refine cB.out _ _ (Lib.hid fun w1 n1 => ?_)
              rw [← hw0, z0] at n1
              go_wp2_with fail
              refine cV.out _ _ (Lib.hid fun w2 n2 => ?_)
              replace n2 := n1.trans (n2.mono (by have := n1.size; omega))
              obtain ⟨c0, c1, g0, g1, n4⟩ := fin.out w2 n2
              clear fin
              go_wp2_with fail
              refine bodyPost_ret ?_ rfl (hR.out _ ((n4.setCell (p := ⟨w.heap.size, 0, none⟩) (Nat.le_refl _) _).setCell (p := ⟨w.heap.size, 1, none⟩) (Nat.le_refl _) _))
              simp [results, Tryz.results106, go_sem, tkT, c0, c1]
          · have h0 : ¬ byN s f = 48 := fun h => h48 ⟨h, .inr rfl⟩
            clear h48
            simp only [if_true] at hf2
            subst hf2
            have hfa : ((a + 1 : Nat) : Int) = (a : Int) + 1 := by omega
            simp only [hfa] at cB hR
            go_enter Tryz.func106, Tryz.ntmps106
            go_wp2_with fail
            refine cH.out _ _ (Lib.hid ?_)
            go_wp2_with fail
            refine cB.out _ _ (Lib.hid fun w1 n1 => ?_)
            rw [← hw0, z0] at n1
            go_wp2_with fail
            refine cV.out _ _ (Lib.hid fun w2 n2 => ?_)
            replace n2 := n1.trans (n2.mono (by have := n1.size; omega))
            obtain ⟨c0, c1, g0, g1, n4⟩ := fin.out w2 n2
            clear fin
            go_wp2_with fail
            refine bodyPost_ret ?_ rfl (hR.out _ ((n4.setCell (p := ⟨w.heap.size, 0, none⟩) (Nat.le_refl _) _).setCell (p := ⟨w.heap.size, 1, none⟩) (Nat.le_refl _) _))
            simp [results, Tryz.results106, go_sem, tkT, c0, c1]
        · rw [if_neg hbig] at hR
          rw [if_neg hbig] at cV
          simp only at cV hR
          have hv : (lowN neg : Int) ≤ 9223372036854775808 := by unfold lowN; split <;> omega
          have hvb : valN L ≤ lowN neg := by omega
          generalize valN L = V at *
          clear hbig
          replace cV := Lib.hid cV
          cases neg
          · simp only [Bool.false_eq_true, if_false] at hf2
            subst hf2
            by_cases h0 : byN s f = 48
            · have hlen : E ≤ f + 1 := by
                have : ¬ 1 < L.length := fun h => h48 ⟨h0, .inl h⟩
                omega
              clear h48
              go_enter Tryz.func106, Tryz.ntmps106
              go_wp2_with fail
              refine cH.out _ _ (Lib.hid ?_)
              go_wp2_with fail
              refine cB.out _ _ (Lib.hid fun w1 n1 => ?_)
              rw [← hw0, z0] at n1
              go_wp2_with fail
              refine cV.out _ _ (Lib.hid fun w2 n2 => ?_)
              replace n2 := n1.trans (n2.mono (by have := n1.size; omega))
              obtain ⟨c0, c1, g0, g1, n4⟩ := fin.out w2 n2
              clear fin
              go_wp2_with fail
              refine bodyPost_ret ?_ rfl (hR.out _ ((n4.setCell (p := ⟨w.heap.size, 0, none⟩) (Nat.le_refl _) _).setCell (p := ⟨w.heap.size, 1, none⟩) (Nat.le_refl _) _))
              simp [results, Tryz.results106, go_sem, tkT, c0, c1]
            · clear h48
              go_enter Tryz.func106, Tryz.ntmps106
              go_wp2_with fail
              refine cH.out _ _ (Lib.hid ?_)
              go_wp2_with fail
              refine cB.out _ _ (Lib.hid fun w1 n1 => ?_)
              rw [← hw0, z0] at n1
              go_wp2_with fail
              refine cV.out _ _ (Lib.hid fun w2 n2 => ?_)
              replace n2 := n1.trans (n2.mono (by have := n1.size; omega))
              obtain ⟨c0, c1, g0, g1, n4⟩ := fin.out w2 n2
              clear fin
              go_wp2_with fail
              refine bodyPost_ret ?_ rfl (hR.out _ ((n4.setCell (p := ⟨w.heap.size, 0, none⟩) (Nat.le_refl _) _).setCell (p := ⟨w.heap.size, 1, none⟩) (Nat.le_refl _) _))
              simp [results, Tryz.results106, go_sem, tkT, c0, c1]
          · have h0 : ¬ byN s f = 48 := fun h => h48 ⟨h, .inr rfl⟩
            clear h48
            simp only [if_true] at hf2
            subst hf2
            have hfa : ((a + 1 : Nat) : Int) = (a : Int) + 1 := by omega
            simp only [hfa] at cB hR
            go_enter Tryz.func106, Tryz.ntmps106
            go_wp2_with fail
            refine cH.out _ _ (Lib.hid ?_)
            go_wp2_with fail
            refine cB.out _ _ (Lib.hid fun w1 n1 => ?_)
            rw [← hw0, z0] at n1
            go_wp2_with fail
            refine cV.out _ _ (Lib.hid fun w2 n2 => ?_)
            replace n2 := n1.trans (n2.mono (by have := n1.size; omega))
            obtain ⟨c0, c1, g0, g1, n4⟩ := fin.out w2 n2
            clear fin
            go_wp2_with fail
            refine bodyPost_ret ?_ rfl (hR.out _ ((n4.setCell (p := ⟨w.heap.size, 0, none⟩) (Nat.le_refl _) _).setCell (p := ⟨w.heap.size, 1, none⟩) (Nat.le_refl _) _))
            simp [results, Tryz.results106, go_sem, tkT, c0, c1]
end Go.Proofs.YthelhplcijhioaaGreat.Dig
