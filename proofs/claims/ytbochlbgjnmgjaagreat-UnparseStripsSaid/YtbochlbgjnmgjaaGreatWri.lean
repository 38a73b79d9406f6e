/- strings.Builder inside a struct of the program's own (unparse.writer): copyCheck, WriteString, String; the code's put. -/
import Derived.Test.YtbochlbgjnmgjaaGreatBldW
import Derived.Test.YtbochlbgjnmgjaaGreatNamB
set_option maxRecDepth 100000
set_option linter.unusedVariables false
namespace Go.Proofs.YtbochlbgjnmgjaaGreat.Unp
open Go.Shelf Go.RowKit Go.Lib Go.Proofs.YtbochlbgjnmgjaaGreat.Bld Go.Proofs.YtbochlbgjnmgjaaGreat.Nam

/-- A writer in block b that holds the bytes of x. -/
def Wld (B b : Nat) (x : ByteArray) (w : World) : Prop := Lib.IsBuilderF 94 5 B b (Lib.strCells x) w
theorem liW : liesAt Tryz.prog Tryz.prog.depth 94 (2 / Tryz.prog.cellsOf 94) 0 92 1 = true := by kernel_rfl
theorem neW : 94 ≠ 5 := by decide
theorem Wld.alloc {B b : Nat} {x : ByteArray} {w : World} (h : Wld B b x w) (o : Obj) : Wld B b x (w.alloc o) := by
  rcases h with h | h
  · exact .inl (h.alloc o)
  · exact .inr (h.alloc o)
theorem Wld.below {B b : Nat} {x : ByteArray} {w w' : World} (h : Wld B b x w) (hb : Below w.heap.size w w') : Wld B b x w' := by
  have key : ∀ p, Lib.BuilderAtF 94 5 B b p (Lib.strCells x) w → Lib.BuilderAtF 94 5 B b p (Lib.strCells x) w' := by
    intro p hp
    have hlt := hp.lt
    obtain ⟨hB, v, hbk, hown, hne⟩ := hp
    refine ⟨hB, v, by rw [hb.block b hlt]; exact hbk, hown.kept (row := none) ⟨hb.os, hb.tape, hb.output, hb.size, fun k hk _ => hb.block k hk⟩ ?_, hne⟩
    cases hv : v.ownBlock <;> simp
  rcases h with h | h
  · exact .inl (key _ h)
  · exact .inr (key _ h)
theorem Wld.lt {B b : Nat} {x : ByteArray} {w : World} (h : Wld B b x w) : b < w.heap.size := by rcases h with h | h <;> exact h.lt
theorem Wld.fresh (w : World) : Wld w.heap.size w.heap.size ByteArray.empty (w.alloc (.cells #[.pointer none, .slice none 0 0] 94)) := Lib.IsBuilderF.of (Lib.fresh_isBuilder 94 5 w)
/-- What a write to the writer in block b leaves. -/
structure Wk (B b : Nat) (w w' : World) : Prop where
  m : Below B w w'
  k : Lib.OthersKept 5 (some b) w w'
theorem Wk.refl (B b : Nat) (w : World) : Wk B b w w := ⟨Below.refl B w, Lib.OthersKept.refl _ _ w⟩
theorem Wk.trans {B b : Nat} {u v w : World} (h : Wk B b u v) (g : Wk B b v w) : Wk B b u w := ⟨h.m.trans g.m, h.k.trans g.k⟩
theorem Wk.alloc {B b : Nat} {u v : World} (h : Wk B b u v) (hB : B ≤ u.heap.size) (o : Obj) : Wk B b u (v.alloc o) := ⟨h.m.alloc (Nat.le_trans hB h.m.size) o, h.k.alloc o⟩
/-- What a call that writes nothing old leaves. -/
theorem Wk.below {B b : Nat} {u v w : World} (h : Wk B b u v) (hB : B ≤ u.heap.size) (g : Below v.heap.size v w) : Wk B b u w :=
  ⟨h.m.trans (g.mono (Nat.le_trans hB h.m.size)), fun k o hk hb ho => by have h1 := h.k k o hk hb ho; exact (g.block k (Array.getElem?_eq_some_iff.1 h1).1).trans h1⟩
/-- A box of another type, in another block, stands. -/
theorem Wk.box {B b k : Nat} {w w' : World} {cs : Array Value} {t : TypeId} (h : Wk B b w w') (hk : w.heap[k]? = some (.cells cs t)) (hb : k ≠ b) (ht : t ≠ 5) : w'.heap[k]? = some (.cells cs t) :=
  h.k k _ hk (fun e => hb (Option.some.inj e)) fun c fz e => ht (by cases e; rfl)

set_option maxHeartbeats 1000000 in
set_option maxRecDepth 100000 in
theorem wcheck_calls (B b : Nat) (bs : List Value) (w : World) (h : Lib.IsBuilderF 94 5 B b bs w) :
    Calls Tryz.prog 220 #[.pointer (some ⟨b, 0, none⟩)] w fun e w' => e = .returned (.tuple #[]) ∧ (Lib.BuilderAtF 94 5 B b (.pointer (some ⟨b, 0, none⟩)) bs w' ∧ Below B w w' ∧ Lib.OthersKept 5 (some b) w w') := by
  obtain ⟨j, hj, hjs⟩ := Option.map_eq_some_iff.1 szB
  rcases h with h | h
  · have h0 := h.cell0
    have hsh := h.shape
    have hfz := h.frozen0
    have fin : Lib.BuilderAtF 94 5 B b (.pointer (some ⟨b, 0, none⟩)) bs (w.setCell ⟨b, 0, none⟩ (.pointer (some ⟨b, 0, none⟩))) ∧ Below B w (w.setCell ⟨b, 0, none⟩ (.pointer (some ⟨b, 0, none⟩))) ∧
        Lib.OthersKept 5 (some b) w (w.setCell ⟨b, 0, none⟩ (.pointer (some ⟨b, 0, none⟩))) :=
      ⟨h.used _, (Below.refl B w).setCell (p := ⟨b, 0, none⟩) h.1 _, (Lib.OthersKept.refl _ _ w).setCell ⟨b, 0, none⟩ rfl _⟩
    clear h
    replace fin := Lib.hid fin
    go_enter Tryz.func220, Tryz.ntmps220
    go_wp2
    rw [Lib.run_to_unsafe w ⟨b, 0, none⟩ Tryz.underlying89 Tryz.underlying254 hj (by rw [hjs]; decide) hsh (Nat.zero_lt_succ 1)]
    simp only [Result.andThen]
    rw [Oper.upon_value]
    go_wp2
    rw [run_callFunc_extern Tryz.func243 (by kernel_rfl) (by kernel_rfl) (by kernel_rfl) (e := Extern.AbiNoEscape.same) (by kernel_rfl)]
    rw [Lib.run_noEscape]
    simp only [Result.andThen]
    rw [Oper.upon_value]
    go_wp2
    rw [Lib.run_from_unsafe w ⟨b, 0, none⟩ Tryz.underlying254 Tryz.underlying89 hj hsh liW]
    simp only [Result.andThen]
    rw [Oper.upon_value]
    go_wp2
    go_end0
    exact ⟨rfl, fin.out⟩
  · have h0 := h.cell0
    have fin : Lib.BuilderAtF 94 5 B b (.pointer (some ⟨b, 0, none⟩)) bs w ∧ Below B w w ∧ Lib.OthersKept 5 (some b) w w := ⟨h, Below.refl B _, Lib.OthersKept.refl _ _ _⟩
    clear h
    replace fin := Lib.hid fin
    go_enter Tryz.func220, Tryz.ntmps220
    go_wp2
    rw [Lib.run_neq_ptr_same w _ Tryz.underlying89 hj]
    go_wp2
    go_end0
    exact ⟨rfl, fin.out⟩

set_option maxHeartbeats 2000000 in
set_option maxRecDepth 100000 in
theorem wwstr_calls (B b : Nat) (x s : ByteArray) (w : World) (h : Wld B b x w) (hlen : x.size + s.size ≤ 1000000000) (hBw : B ≤ w.heap.size) (R : Ending → World → Prop)
    (hR : Hid (∀ w', Wld B b (x ++ s) w' → Below B w w' → Lib.OthersKept 5 (some b) w w' → R (.returned (.tuple #[.int .i64 s.size, .nilIface])) w')) :
    Calls Tryz.prog 182 #[.pointer (some ⟨b, 0, none⟩), .string s] w R := by
  obtain ⟨i0, hi, hz0, hz1, hz2⟩ := info_parts inB
  unfold Wld at hR h
  rw [strCells_app] at hR
  rw [← Lib.strCells_length x] at hlen
  generalize Lib.strCells x = bs at *
  go_enter Tryz.func182, Tryz.ntmps182
  go_wp2_with (go_at_call 220; refine (wcheck_calls B b bs _ h).mono ?_)
  rintro e w1 ⟨rfl, h1, hb1, hk1⟩
  obtain ⟨hB, v, hbk, hown, hne⟩ := h1
  have c0 : w1.cell? ⟨b, 0, none⟩ = some (.pointer (some ⟨b, 0, none⟩)) := by rw [Lib.cell_of_heap hbk]; rfl
  have c1 : w1.cell? ⟨b, 1, none⟩ = some v := by rw [Lib.cell_of_heap hbk]; rfl
  go_wp2_with (at_builtin; refine Lib.wpList_append_own_stringF _ rfl _ _ 90 9 rfl B 5 i0 Tryz.underlying90 Tryz.underlying9 hi hz0 hz1 hz2 _ _ _ rfl hown s rfl ?c3 ?c4 ?c5 ?_)
  case c3 => unfold maxLen; omega
  case c4 => omega
  case c5 => have := hb1.size; omega
  intro v' w2 hown' hgrow _
  have hlt : b < w1.heap.size := by
    rcases Nat.lt_or_ge b w1.heap.size with h' | h'
    · exact h'
    · simp [Array.getElem?_eq_none h'] at hbk
  have hb2 : w2.heap[b]? = some (.cells #[.pointer (some ⟨b, 0, none⟩), v] 94 (0, 0)) := by
    rw [hgrow.block b hlt (fun e => hne e.symm)]
    exact hbk
  have d0 : w2.cell? ⟨b, 0, none⟩ = some (.pointer (some ⟨b, 0, none⟩)) := by rw [Lib.cell_of_heap hb2]; rfl
  have d1 : w2.cell? ⟨b, 1, none⟩ = some v := by rw [Lib.cell_of_heap hb2]; rfl
  have f1 : w2.frozen? ⟨b, 1, none⟩ = false := Lib.frozen_of_heap hb2 1
  obtain ⟨ao, n', cap, rfl⟩ : ∃ ao n' cap, v' = .slice ao n' cap := by
    rcases hown'.2 with ⟨hv, _⟩ | ⟨g, cap, cur, fz, hv, _⟩
    · exact ⟨_, _, _, hv⟩
    · exact ⟨_, _, _, hv⟩
  go_wp2
  refine hR.out _ (.inr ?_) ?_ ((hk1.grown hgrow (Lib.ownsRowF_kind hown)).setCell ⟨b, 1, none⟩ rfl _)
  · exact Lib.BuilderAtF.put (T := 94) (e := 5) hB hb2 (bs' := bs ++ Lib.strCells s) (by simpa [Lib.strCells_length] using hown') neW
  · exact (hb1.grown hgrow (by have := hb1.size; omega) (fun k hk => (hown.lt k hk).1)).setCell (p := ⟨b, 1, none⟩) hB _

/-- Texts, one behind the other. -/
def catT : List ByteArray → ByteArray
  | [] => ByteArray.empty
  | x :: l => x ++ catT l
theorem catT_snoc (l : List ByteArray) (x : ByteArray) : catT (l ++ [x]) = catT l ++ x := by
  induction l with
  | nil => show x ++ ByteArray.empty = ByteArray.empty ++ x; rw [ByteArray.append_empty, ByteArray.empty_append]
  | cons y l ih => show y ++ catT (l ++ [x]) = y ++ catT l ++ x; rw [ih, ByteArray.append_assoc]
theorem catT_take (l : List ByteArray) (k : Nat) : (catT (l.take k)).size ≤ (catT l).size := by
  induction l generalizing k with
  | nil => simp
  | cons y l ih =>
    cases k with
    | zero => show 0 ≤ _; omega
    | succ k => show (y ++ catT (l.take k)).size ≤ (y ++ catT l).size; rw [ByteArray.size_append, ByteArray.size_append]; have := ih k; omega
set_option maxRecDepth 100000 in
set_option maxHeartbeats 2000000 in
theorem put_calls (B b : Nat) (x : ByteArray) (xs : List ByteArray) (k : Nat) (w : World) (h : Wld B b x w) (hk : w.heap[k]? = some (.cells (sv xs).toArray 9)) (hkb : k ≠ b) (hlen : x.size + (catT xs).size ≤ 1000000000) (hxl : xs.length ≤ 1000) (R : Ending → World → Prop)
    (hBw : B ≤ w.heap.size) (hR : Hid (∀ w', Wld B b (x ++ catT xs) w' → Wk B b w w' → R (.returned (.tuple #[])) w')) : Calls Tryz.prog 116 #[.pointer (some ⟨b, 0, none⟩), .slice (some ⟨k, 0, none⟩) xs.length xs.length] w R := by
  have hlt := h.lt
  replace h := Lib.hid h
  replace hR := Lib.hid hR
  replace hk := Lib.hid hk
  go_enter Tryz.func116, Tryz.ntmps116
  go_wp2_with fail
  go_loopg [8] xs.length (fun g0 i wr => ∃ (K : Nat), i = .int .i64 K ∧ K + g0 = xs.length ∧ Hid (Wld B b (x ++ catT (xs.take K)) wr) ∧ Hid (Wk B b w wr))
  case atStart => exact ⟨0, rfl, by omega, Lib.hid (by show Wld B b (x ++ ByteArray.empty) w; rw [ByteArray.append_empty]; exact h.out), Lib.hid (Wk.refl B b w)⟩
  case round =>
    obtain ⟨K, rfl, c1, hw, kw⟩ := hrel
    by_cases hK : K < xs.length
    · have hkr := kw.out.box hk.out hkb (by decide)
      have e0 : wr.cell? ⟨k, K, none⟩ = some (.string (xs.getD K ByteArray.empty)) := by rw [Lib.cell_of_heap hkr, List.getElem?_toArray]; exact sv_get xs K hK
      have htk : catT (xs.take (K + 1)) = catT (xs.take K) ++ xs.getD K ByteArray.empty := by rw [take_succS xs K hK, catT_snoc]
      have hz := catT_take xs (K + 1)
      rw [htk, ByteArray.size_append] at hz
      have i0 : (0 : Int) ≤ (K : Int) := by omega
      have i1 : (K : Int) < (xs.length : Int) := by omega
      have lb := hw.out.lt
      have sz := kw.out.m.size
      have cW := Lib.hid fun R hR => wwstr_calls B b (x ++ catT (xs.take K)) (xs.getD K ByteArray.empty) wr hw.out (by rw [ByteArray.size_append]; omega) (by omega) R hR
      generalize xs.getD K ByteArray.empty = s at *
      replace htk := Lib.hid htk
      clear hkr
      obtain ⟨p0, pv, hpw⟩ : ∃ p0 pv, wr.heap[b]? = some (.cells #[p0, pv] 94 (0, 0)) := by
        rcases hw.out with q | q
        · obtain ⟨-, v, e, -⟩ := q; exact ⟨_, v, e⟩
        · obtain ⟨-, v, e, -⟩ := q; exact ⟨_, v, e⟩
      clear hz
      go_wp2_with fail
      refine cW.out _ (Lib.hid fun w2 h2 m2 k2 => ?_)
      have h3 := Lib.hid (show Wld B b (x ++ catT (xs.take (K + 1))) w2 by rw [htk.out, ← ByteArray.append_assoc]; exact h2)
      have k3 := Lib.hid (kw.out.trans ⟨m2, k2⟩)
      clear h2 m2 k2 cW hpw e0 htk
      go_wp2_with fail
      go_roundg (gk - 1)
      case measure => omega
      case rel => exact ⟨K + 1, by go_num, by omega, h3, k3⟩
    · obtain rfl : K = xs.length := by omega
      have fin := Lib.hid (hR.out.out wr (by have := hw.out; rwa [List.take_length] at this) kw.out)
      clear hR
      go_wp2_with fail
      first | refine bodyPost_ret ?_ rfl fin.out | refine bodyPost_end ?_ rfl fin.out
      simp [results, Tryz.results116, go_sem]
set_option maxHeartbeats 2000000 in
set_option maxRecDepth 100000 in
/-- String of a writer that holds at least one byte. -/
theorem wstring_calls (B b : Nat) (x : ByteArray) (w : World) (h : Wld B b x w) (h0 : 0 < x.size) (R : Ending → World → Prop) (hR : Hid (∀ w', Below B w w' → R (.returned (.string x)) w')) : Calls Tryz.prog 54 #[.pointer (some ⟨b, 0, none⟩)] w R := by
  obtain ⟨p, hAt⟩ : ∃ p, Lib.BuilderAtF 94 5 B b p (Lib.byteCells x.data.toList) w := by
    rcases h with h | h
    · exact ⟨_, h⟩
    · exact ⟨_, h⟩
  have hxl : x = ⟨x.data.toList.toArray⟩ := by simp
  have hne0 : x.data.toList ≠ [] := by
    intro e
    have : x.size = 0 := by rw [hxl, e]; rfl
    omega
  generalize x.data.toList = l at *
  subst hxl
  obtain ⟨hB, v, hbk, hown, hne⟩ := hAt
  have hl0 : l.length ≠ 0 := by simpa using hne0
  rw [Lib.byteCells_length] at hown
  obtain ⟨g, cap, cur, fz, rfl, hbg, hg, hfz, hnc, hcm, hcs, htake⟩ : ∃ g cap cur fz, v = .slice (some ⟨g, 0, none⟩) l.length cap ∧ B ≤ g ∧ w.heap[g]? = some (.cells cur 5 fz) ∧ fz.2 ≤ l.length * 1 ∧ l.length ≤ cap ∧ cap ≤ maxLen ∧ cur.size = cap * 1 ∧ cur.toList.take (l.length * 1) = Lib.byteCells l := by
    rcases hown.2 with ⟨_, hz⟩ | ⟨g, cap, cur, fz, hv, r⟩
    · exact absurd hz hl0
    · exact ⟨g, cap, cur, fz, hv, r⟩
  have c1 : w.drew.cell? ⟨b, 1, none⟩ = some (.slice (some ⟨g, 0, none⟩) l.length cap) := by
    have : w.drew.heap[b]? = some (.cells #[p, .slice (some ⟨g, 0, none⟩) l.length cap] 94 (0, 0)) := hbk
    rw [Lib.cell_of_heap this]; rfl
  have hSD : (Builtin.unsafeSliceData_ #[90] 162 #[.slice (some ⟨g, 0, none⟩) l.length cap]).run Tryz.prog w.drew = .ok (.pointer (some ⟨g, 0, none⟩)) w.drew :=
    Lib.run_unsafeSliceData_row _ _ _ _ _ _ (by omega)
  have hUS : (Builtin.unsafeString_ #[162, 3] 9 #[.pointer (some ⟨g, 0, none⟩), .int .i64 l.length]).run Tryz.prog w.drew = .ok (.string ⟨l.toArray⟩) (w.drew.freeze ⟨g, 0, none⟩ l.length) := by
    refine Lib.run_unsafeString_row w.drew 162 3 9 5 Tryz.underlying162 (by kernel_rfl) g cur.size (by have hg' : w.drew.heap[g]? = some (.cells cur 5 fz) := hg; simp [World.shape?, hg']) l hne0 (by omega) (by unfold maxLen at hcm; omega) ?_
    intro j x hx
    have := hown.cells (g := g) rfl j (.int .u8 x.toNat) (by simp [Lib.byteCells, hx])
    exact this
  have fin := Lib.hid (hR.out _ (Lib.below_freeze (Below.drew (Below.refl B w)) (p := ⟨g, 0, none⟩) hbg l.length))
  clear hR hown hfz hnc hcm hcs htake hg
  have mixed : Tryz.prog.follows Departure.mixedOrders = true := by kernel_rfl
  go_enter Tryz.func54, Tryz.ntmps54
  go_wp2_with fail
  go_region
  all_goals (go_wp2_with fail; exact fin.out)
end Go.Proofs.YtbochlbgjnmgjaaGreat.Unp
