/- strings.Builder, walked over this program: copyCheck, WriteByte, WriteString, String, at a builder that the caller has made itself. -/
import Derived.Test.YtbochlbgjnmgjaaGreatLib
import Derived.Test.YtbochlbgjnmgjaaGreatBldH
import Derived.Lib.FrozenHead2
import Derived.Lib.OthersKept
set_option maxRecDepth 100000
set_option linter.unusedVariables false
namespace Go.Proofs.YtbochlbgjnmgjaaGreat.Bld
open Go.Shelf Go.RowKit Go.Lib

/-- A builder in block b that holds the bytes of x. -/
def Bld (B b : Nat) (x : ByteArray) (w : World) : Prop := Lib.IsBuilderF 92 5 B b (Lib.strCells x) w
theorem szB : (Tryz.prog.info? 92).map (·.size) = some 2 := by kernel_rfl
theorem liB : liesAt Tryz.prog Tryz.prog.depth 92 (2 / Tryz.prog.cellsOf 92) 0 92 1 = true := by kernel_rfl
theorem inB : (Tryz.prog.info? 5).map (fun i => (i.zero, i.size, i.bytes)) = some (some (.int .u8 0), 1, 1) := by kernel_rfl
theorem neB : 92 ≠ 5 := by decide
theorem stX : Builder.Extra Tryz.prog YtbochlbgjnmgjaaGreat.stL_ren where
  sizeBuilder := by kernel_rfl
  liesBuilder := by kernel_rfl
  t5 := Tryz.underlying5
  a5 := Tryz.isAgg5
  z5 := Tryz.sizeOf5
  v5 := Tryz.zeroValue5
  infoByte := by kernel_rfl
  cellsByte := by kernel_rfl
  sizeByte := by kernel_rfl
  neB5 := by decide

theorem Bld.below {B b : Nat} {x : ByteArray} {w w' : World} (h : Bld B b x w) (hb : Below w.heap.size w w') : Bld B b x w' := by
  have key : ∀ p, Lib.BuilderAtF 92 5 B b p (Lib.strCells x) w → Lib.BuilderAtF 92 5 B b p (Lib.strCells x) w' := by
    intro p hp
    have hlt := hp.lt
    obtain ⟨hB, v, hbk, hown, hne⟩ := hp
    refine ⟨hB, v, by rw [hb.block b hlt]; exact hbk, hown.kept (row := none) ⟨hb.os, hb.tape, hb.output, hb.size, fun k hk _ => hb.block k hk⟩ ?_, hne⟩
    cases hv : v.ownBlock <;> simp
  rcases h with h | h
  · exact .inl (key _ h)
  · exact .inr (key _ h)
theorem Bld.alloc {B b : Nat} {x : ByteArray} {w : World} (h : Bld B b x w) (o : Obj) : Bld B b x (w.alloc o) := by
  rcases h with h | h
  · exact .inl (h.alloc o)
  · exact .inr (h.alloc o)
theorem Bld.lt {B b : Nat} {x : ByteArray} {w : World} (h : Bld B b x w) : b < w.heap.size := by rcases h with h | h <;> exact h.lt
theorem Bld.fresh (w : World) : Bld w.heap.size w.heap.size ByteArray.empty (w.alloc (.cells #[.pointer none, .slice none 0 0] 92)) := Lib.IsBuilderF.of (Lib.fresh_isBuilder 92 5 w)

set_option maxHeartbeats 1000000 in
set_option maxRecDepth 100000 in
theorem check_calls (B b : Nat) (bs : List Value) (w : World) (h : Lib.IsBuilderF 92 5 B b bs w) :
    Calls Tryz.prog 220 #[.pointer (some ⟨b, 0, none⟩)] w fun e w' => e = .returned (.tuple #[]) ∧ (Lib.BuilderAtF 92 5 B b (.pointer (some ⟨b, 0, none⟩)) bs w' ∧ Below B w w' ∧ Lib.OthersKept 5 (some b) w w') := by
  obtain ⟨j, hj, hjs⟩ := Option.map_eq_some_iff.1 szB
  rcases h with h | h
  · have h0 := h.cell0
    have hsh := h.shape
    have hfz := h.frozen0
    have fin : Lib.BuilderAtF 92 5 B b (.pointer (some ⟨b, 0, none⟩)) bs (w.setCell ⟨b, 0, none⟩ (.pointer (some ⟨b, 0, none⟩))) ∧ Below B w (w.setCell ⟨b, 0, none⟩ (.pointer (some ⟨b, 0, none⟩))) ∧
        Lib.OthersKept 5 (some b) w (w.setCell ⟨b, 0, none⟩ (.pointer (some ⟨b, 0, none⟩))) :=
      ⟨h.used _, (Below.refl B w).setCell (p := ⟨b, 0, none⟩) h.1 _, (Lib.OthersKept.refl _ _ w).setCell ⟨b, 0, none⟩ rfl _⟩
    clear h
    replace fin := Lib.hid fin
    go_enter Tryz.func220, Tryz.ntmps220
    go_wp2
    rw [Lib.run_to_unsafe w ⟨b, 0, none⟩ Tryz.underlying89 Tryz.underlying254 hj (by rw [hjs]; decide) hsh (Nat.zero_lt_succ 1)]
    simp only [Result.andThen]
    rw [Oper.upon_value]
    go_wp2
    rw [run_callFunc_extern Tryz.func243 (by kernel_rfl) (by kernel_rfl) (by kernel_rfl) (e := Extern.AbiNoEscape.same) (by kernel_rfl)]
    rw [Lib.run_noEscape]
    simp only [Result.andThen]
    rw [Oper.upon_value]
    go_wp2
    rw [Lib.run_from_unsafe w ⟨b, 0, none⟩ Tryz.underlying254 Tryz.underlying89 hj hsh liB]
    simp only [Result.andThen]
    rw [Oper.upon_value]
    go_wp2
    go_end0
    exact ⟨rfl, fin.out⟩
  · have h0 := h.cell0
    have fin : Lib.BuilderAtF 92 5 B b (.pointer (some ⟨b, 0, none⟩)) bs w ∧ Below B w w ∧ Lib.OthersKept 5 (some b) w w := ⟨h, Below.refl B _, Lib.OthersKept.refl _ _ _⟩
    clear h
    replace fin := Lib.hid fin
    go_enter Tryz.func220, Tryz.ntmps220
    go_wp2
    rw [Lib.run_neq_ptr_same w _ Tryz.underlying89 hj]
    go_wp2
    go_end0
    exact ⟨rfl, fin.out⟩

theorem strCells_snoc (x : ByteArray) (c : Int) (h0 : 0 ≤ c) (h1 : c < 256) : Lib.strCells (x ++ strOfNums [c]) = Lib.strCells x ++ [.int .u8 c] := by
  obtain ⟨n, rfl⟩ := Int.eq_ofNat_of_zero_le h0
  simp [Lib.strCells, strOfNums]
  omega
theorem strCells_app (x y : ByteArray) : Lib.strCells (x ++ y) = Lib.strCells x ++ Lib.strCells y := by simp [Lib.strCells]

set_option maxHeartbeats 2000000 in
set_option maxRecDepth 100000 in
theorem wbyte_calls (B b : Nat) (x : ByteArray) (c : Int) (h0 : 0 ≤ c) (h1c : c < 256) (w : World) (h : Bld B b x w) (hlen : x.size ≤ 1000000000) (hBw : B ≤ w.heap.size) (R : Ending → World → Prop)
    (hR : Hid (∀ w', Bld B b (x ++ strOfNums [c]) w' → Below B w w' → Lib.OthersKept 5 (some b) w w' → R (.returned .nilIface) w')) :
    Calls Tryz.prog 206 #[.pointer (some ⟨b, 0, none⟩), .int .u8 c] w R := by
  obtain ⟨i0, hi, hz0, hz1, hz2⟩ := info_parts inB
  unfold Bld at hR h
  rw [strCells_snoc x c h0 h1c] at hR
  rw [← Lib.strCells_length] at hlen
  generalize Lib.strCells x = bs at *
  go_enter Tryz.func206, Tryz.ntmps206
  go_wp2_with (go_at_call 220; refine (check_calls B b bs _ h).mono ?_)
  rintro e w1 ⟨rfl, h1, hb1, hk1⟩
  obtain ⟨hB, v, hbk, hown, hne⟩ := h1
  have c0 : w1.cell? ⟨b, 0, none⟩ = some (.pointer (some ⟨b, 0, none⟩)) := by rw [Lib.cell_of_heap hbk]; rfl
  have c1 : w1.cell? ⟨b, 1, none⟩ = some v := by rw [Lib.cell_of_heap hbk]; rfl
  go_wp2_with (at_builtin; refine wpList_append_ownF _ rfl _ _ 90 rfl B 5 i0 (.int .u8 0) 1 1 Tryz.underlying90 hi hz0 hz1 hz2 rfl (by decide) _ _ _ rfl (hown.alloc _) ⟨w1.heap.size, 0, none⟩ 1 1 [.int .u8 c] rfl rfl ?c1 ?c2 ?c3 ?c4 ?c5 ?_)
  case c1 =>
    intro j u hj
    match j, hj with
    | 0, hj => simp at hj; subst hj; simp [Addr.add]
  case c2 => intro u hu; simp at hu; subst hu; rfl
  case c3 => unfold maxLen; omega
  case c4 => omega
  case c5 => have := hb1.size; simp; omega
  intro v' w2 hown' hgrow _
  have hlt : b < w1.heap.size := by
    rcases Nat.lt_or_ge b w1.heap.size with h' | h'
    · exact h'
    · simp [Array.getElem?_eq_none h'] at hbk
  have hb2 : w2.heap[b]? = some (.cells #[.pointer (some ⟨b, 0, none⟩), v] 92 (0, 0)) := by
    rw [hgrow.block b (by simp; omega) (fun e => hne e.symm), Lib.alloc_old w1 _ b hlt]
    exact hbk
  have d0 : w2.cell? ⟨b, 0, none⟩ = some (.pointer (some ⟨b, 0, none⟩)) := by rw [Lib.cell_of_heap hb2]; rfl
  have d1 : w2.cell? ⟨b, 1, none⟩ = some v := by rw [Lib.cell_of_heap hb2]; rfl
  have f1 : w2.frozen? ⟨b, 1, none⟩ = false := Lib.frozen_of_heap hb2 1
  obtain ⟨g, cap, rfl⟩ : ∃ g cap, v' = .slice (some ⟨g, 0, none⟩) (bs.length + 1) cap := by
    rcases hown'.2 with ⟨_, h0⟩ | ⟨g, cap, cur, fz, hv, _⟩
    · omega
    · exact ⟨g, cap, hv⟩
  go_wp2
  refine hR.out _ (.inr ?_) ?_ (((hk1.alloc _).grown hgrow (Lib.ownsRowF_kind (hown.alloc _))).setCell ⟨b, 1, none⟩ rfl _)
  · exact Lib.BuilderAtF.put (T := 92) (e := 5) hB hb2 (bs' := bs ++ [.int .u8 c]) (by simpa using hown') neB
  · exact ((hb1.alloc (by have := hb1.size; omega) _).grown hgrow (by have := hb1.size; simp; omega) (fun k hk => (hown.lt k hk).1)).setCell (p := ⟨b, 1, none⟩) hB _

theorem bstr_calls (B b : Nat) (x : ByteArray) (w : World) (h : Bld B b x w) (hBw : B ≤ w.heap.size) (R : Ending → World → Prop)
    (hR : Hid (∀ w', Bld B b x w' → Below B w w' → Lib.OthersKept 5 (some b) w w' → R (.returned (.string x)) w')) :
    Calls Tryz.prog 54 #[.pointer (some ⟨b, 0, none⟩)] w R := by
  have := Any.Builder_String_any_k (ρ := YtbochlbgjnmgjaaGreat.stL_ren) YtbochlbgjnmgjaaGreat.stL stX B b x.data.toList w h hBw
  refine this.mono ?_
  rintro e w' ⟨rfl, h1, h2, h3⟩
  exact hR.out w' h1 h2 h3
end Go.Proofs.YtbochlbgjnmgjaaGreat.Bld
