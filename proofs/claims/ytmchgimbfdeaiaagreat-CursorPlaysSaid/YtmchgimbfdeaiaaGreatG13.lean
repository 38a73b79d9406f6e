import Derived.Test.YtmchgimbfdeaiaaGreatG12
import Derived.Test.YtmchgimbfdeaiaaGreatFltK
import Derived.Test.YtmchgimbfdeaiaaGreatZTokF
import Derived.Test.YtmchgimbfdeaiaaGreatMix
import Derived.OwnWalk
/- Layer 14: the chapter's example, lives; the law CursorNone walked. -/
set_option maxRecDepth 100000
set_option linter.unusedVariables false
namespace Go.Proofs.YtmchgimbfdeaiaaGreat.Cur
open Go.RowKit Go.Lib Go.Proofs.YtmchgimbfdeaiaaGreat.Utf Go.Proofs.YtmchgimbfdeaiaaGreat.Tok

def exC : List Tk := [(1, 0, 1, ⟨#[97]⟩, 0), (1, 2, 3, ⟨#[98]⟩, 0), (0, 3, 3, ByteArray.empty, 0)]
theorem ex_cur : scnS ⟨#[97, 32, 98]⟩ = (some exC, 0, 0) := by kernel_rfl
theorem ex1 : hasS (exC, 0, 0, 0) 1 ⟨#[97]⟩ false = true := by kernel_rfl
theorem ex2 : hasS (takeS (exC, 0, 0, 0) 1 ⟨#[97]⟩ false) 4 ⟨#[44]⟩ false = false := by kernel_rfl
theorem ex3 : (needS (takeS (exC, 0, 0, 0) 1 ⟨#[97]⟩ false) ⟨#[44]⟩).2.2 = (4, 2) := by
  unfold needS
  rw [ex2, if_neg (by simp)]
  kernel_rfl
theorem grown_b {w w' : World} {p base : Nat} (g : w.grownBy w' (some p)) (hb : base ≤ w.heap.size) (hp : base ≤ p) : Below base w w' := grown_below g hb (fun k e => by cases e; exact hp)
set_option maxRecDepth 100000 in
set_option maxHeartbeats 1000000 in
theorem lives14_calls (w : World) (R : Ending → World → Prop) (hR : Hid (∀ w', Below w.heap.size w w' → R (.returned (.bool true)) w')) : Calls Tryz.prog 4 #[] w R := by
  go_enter Tryz.func4, Tryz.ntmps4
  go_wp2_with fail
  refine curnew_calls _ (by decide) _ _ (Lib.hid fun l p w1 h1 hp cp n1 => ?_) (Lib.hid fun e z w1 h1 n1 => ?_)
  · rw [ex_cur] at h1
    simp only [Prod.mk.injEq, Option.some.injEq, and_true] at h1
    subst h1
    have bA := (Below.refl w1.heap.size w1).alloc (Nat.le_refl _) (.cells #[.int .i64 0, .int .i64 0] 27)
    obtain ⟨k0, k1⟩ := box_two' w1 (.int .i64 0) (.int .i64 0) 27
    have n2 := n1.trans (bA.mono n1.size)
    have c2 := Lib.hid (cp.below bA)
    have n2' := Lib.hid n2
    have hs2 := n2.size
    clear bA n1 cp n2
    go_wp2_with fail
    generalize w1.alloc (.cells #[.int .i64 0, .int .i64 0] 27) = W2 at *
    clear k0 k1
    refine curword_calls _ p _ _ c2.out _ (Lib.hid fun w3 c3 g3 => ?_)
    rw [ex1]
    have n3 := Lib.hid (n2'.out.trans (grown_b g3 hs2 hp))
    have c3' := Lib.hid c3
    have hs3 := Nat.le_trans hs2 g3.size
    clear c2 g3 c3 n2'
    go_wp2_with fail
    refine curneed_calls _ p _ _ c3'.out _ (Lib.hid fun w4 c4 g4 => ?_)
    rw [ex2]
    have n4 := Lib.hid (n3.out.trans (grown_b g4 hs3 hp))
    have c4' := Lib.hid c4
    clear c3' g4 c4 n3
    go_wp2_with fail
    refine curfault_calls _ p _ c4'.out _ (Lib.hid fun w5 n5 => ?_)
    rw [ex3]
    have n6 := Lib.hid (n4.out.trans (n5.mono n4.out.size))
    clear n5 n4 c4'
    go_wp2_with fail
    exact hR.out _ n6.out
  · rw [ex_cur] at h1; simp at h1
end Go.Proofs.YtmchgimbfdeaiaaGreat.Cur

/- Layer 14: calls as they came in; the law CursorStays walked. -/
set_option maxRecDepth 100000
set_option linter.unusedVariables false
namespace Go.Proofs.YtmchgimbfdeaiaaGreat.Cur
open Go.RowKit Go.Lib Go.Proofs.YtmchgimbfdeaiaaGreat.Utf Go.Proofs.YtmchgimbfdeaiaaGreat.Tok Go.ChangeShapes Go.WideShapes

/-- A call: its kind, N, At, S. -/
abbrev Oc := Int × Int × Int × ByteArray
def encO (x : Oc) : List Value := [.int .i64 x.1, .int .i64 x.2.1, .int .i64 x.2.2.1, .string x.2.2.2]
theorem encO_len (x : Oc) : (encO x).length = 4 := rfl
abbrev RdO := RdG encO 4
def GoodO (x : Oc) : Prop := (-9223372036854775808 ≤ x.1 ∧ x.1 ≤ 9223372036854775807) ∧ (-9223372036854775808 ≤ x.2.1 ∧ x.2.1 ≤ 9223372036854775807) ∧ (-9223372036854775808 ≤ x.2.2.1 ∧ x.2.2.1 ≤ 9223372036854775807) ∧ x.2.2.2.size ≤ maxLen
theorem arg_ops {H : Type} {enc' : TypeId × Value → H} {W : World} {base : Nat} {v : Value} {d : DataW H} {p : List MemPlace} (hv : Value.okWide Tryz.prog W .any base 22 v)
    (h : DataW.Trod enc' Tryz.prog W 0 (fun _ => true) true 22 v d p) : ∃ xs : List Oc, RdO W v xs ∧ (∀ x ∈ xs, GoodO x) ∧ (xs = [] ∨ ∃ es sp, d = .slice es sp ∧ es.length = xs.length) := by
  haveI : Inhabited Oc := ⟨(0, 0, 0, ⟨#[]⟩)⟩
  refine arg_flat encO_len (by decide) GoodO Tryz.underlying22 (by kernel_rfl) hv h fun n cs x hx hl => ?_
  obtain ⟨ys, m, -, -, -, hys, hf⟩ := DataW.trod_struct Tryz.underlying38 hx
  match ys, hys, cs, hl with
  | [y0, y1, y2, y3], _, [v0, v1, v2, v3], _ =>
    have g0 := hf 0 _ rfl
    have g1 := hf 1 _ rfl
    have g2 := hf 2 _ rfl
    have g3 := hf 3 _ rfl
    have c3 : Tryz.prog.cellsOf 3 = 1 := by kernel_rfl
    have c9 : Tryz.prog.cellsOf 9 = 1 := by kernel_rfl
    simp [c3, c9] at g0 g1 g2 g3
    obtain ⟨n0, h0, -, w0⟩ := DataW.trod_int Tryz.underlying3 g0
    obtain ⟨n1, h1, -, w1⟩ := DataW.trod_int Tryz.underlying3 g1
    obtain ⟨n2, h2, -, w2⟩ := DataW.trod_int Tryz.underlying3 g2
    obtain ⟨s3, h3, -, w3⟩ := DataW.trod_string Tryz.underlying9 g3
    simp at h0 h1 h2 h3
    subst h0 h1 h2 h3
    exact ⟨(n0, n1, n2, s3), rfl, wf64 w0, wf64 w1, wf64 w2, w3⟩
abbrev oN (xs : List Oc) (i : Nat) : Oc := xs.getD i (0, 0, 0, ⟨#[]⟩)
theorem oN_get {xs : List Oc} {i : Nat} (h : i < xs.length) : oN xs i = xs[i] := by simp [oN, List.getD, List.getElem?_eq_getElem h]
theorem oN_mem {xs : List Oc} {i : Nat} (h : i < xs.length) : oN xs i ∈ xs := by rw [oN_get h]; exact List.getElem_mem h
theorem RdO.op {w : World} {v : Value} {xs : List Oc} (h : RdO w v xs) : ∃ (A : Option Addr) (c : Nat), v = .slice A xs.length c ∧ xs.length ≤ c ∧
    (0 < xs.length → ∃ g o, A = some ⟨g, o, none⟩ ∧ g < w.heap.size ∧ ∀ i, i < xs.length → w.cell? ⟨g, o + i * 4, none⟩ = some (.int .i64 (oN xs i).1) ∧ w.cell? ⟨g, o + i * 4 + 1, none⟩ = some (.int .i64 (oN xs i).2.1) ∧
      w.cell? ⟨g, o + i * 4 + 2, none⟩ = some (.int .i64 (oN xs i).2.2.1) ∧ w.cell? ⟨g, o + i * 4 + 3, none⟩ = some (.string (oN xs i).2.2.2)) := by
  obtain ⟨A, c, rfl, hl, hr⟩ := RdG.open encO_len (by decide) h
  refine ⟨A, c, rfl, hl, fun h0 => ?_⟩
  obtain ⟨g, o, rfl, hg, hc⟩ := hr h0
  refine ⟨g, o, rfl, hg, fun i hi => ?_⟩
  rw [oN_get hi]
  exact ⟨hc i hi 0 (by decide), hc i hi 1 (by decide), hc i hi 2 (by decide), hc i hi 3 (by decide)⟩

/-- A cursor that has failed. -/
abbrev fC (l : List Tk) : Cu := (l, 0, 18, 7)
theorem peekF (l : List Tk) : peekS (fC l) = (0, 7, 7, ByteArray.empty, 0) := if_pos (show (18 : Int) ≠ 0 by decide)
theorem nextF (l : List Tk) : nextS (fC l) = fC l := if_pos (.inl (show (18 : Int) ≠ 0 by decide))
theorem hasF (l : List Tk) (k : Int) (x : ByteArray) (any : Bool) (hk : k ≠ 0) : hasS (fC l) k x any = false := by
  unfold hasS
  rw [peekF, decide_eq_false (fun e => hk e.symm), Bool.false_and]
theorem takeF (l : List Tk) (k : Int) (x : ByteArray) (any : Bool) (hk : k ≠ 0) : takeS (fC l) k x any = fC l := by unfold takeS; rw [hasF l k x any hk, if_neg (by simp)]
theorem failF (l : List Tk) (e z : Int) : failS (fC l) e z = fC l := if_pos (.inl (show (18 : Int) ≠ 0 by decide))
theorem needF (l : List Tk) (m : ByteArray) : needS (fC l) m = fC l := by unfold needS; rw [hasF l 4 m false (by decide), if_neg (by simp), failF]
/-- One step of a cursor that has not failed. -/
theorem step_ok {s : ByteArray} {m : List Tk} {a : Nat} (ha : a ≤ s.size) (h : scnI s a false = (some m, 0, 0)) :
    ∃ x y : Nat, (hdT m).2.1 = x ∧ (hdT m).2.2.1 = y ∧ a ≤ x ∧ y ≤ s.size ∧ ∃ m', nextS (m, 0, 0, 0) = (m', 0, 0, 0) ∧ scnI s y false = (some m', 0, 0) ∧ (m'.length + 1 ≤ m.length ∨ m'.length = 1) := by
  cases m with
  | nil => exact absurd rfl (scn_ne ha h).1
  | cons t l =>
    obtain ⟨x, y, e1, e2, h1, h2, h3, -, h5⟩ := cov_next ha h
    refine ⟨x, y, e1, e2, h1, h3, ?_⟩
    rcases h5 with ⟨h0, rfl, ht, -⟩ | ⟨h0, -, -, -, hn⟩
    · subst ht
      have hy : y = s.size := by
        simp only [endT] at e2
        omega
      exact ⟨[endT s], if_pos (.inr h0), scn_end false hy, .inr rfl⟩
    · exact ⟨l, if_neg (by rintro (q | q); exact q rfl; simp only [hdT, List.headD_cons] at q; omega), hn, .inl (Nat.le_refl _)⟩
section
variable (l : List Tk) (p : Nat)
theorem takeFF (k : Int) (W : World) (h : CurP W p (fC l)) (R : Ending → World → Prop) (hR : Hid (∀ w', CurP w' p (fC l) → W.grownBy w' (some p) → R (.returned (.tuple #[.agg #[.int .i64 0, .int .i64 0, .int .i64 0, .string ⟨#[]⟩, .int .i64 0], .bool false])) w')) : Calls Tryz.prog 23 #[ptV p, .int .i64 k] W R := by
  refine curtake_calls (fC l) p k W h R (Lib.hid fun w' c g => ?_)
  have q : ¬ (k ≠ 0 ∧ (peekS (fC l)).1 = k) := by rw [peekF]; rintro ⟨q1, q2⟩; exact q1 q2.symm
  rw [if_neg q] at c
  rw [if_neg q, decide_eq_false q]
  exact hR.out w' c g
theorem markFF (m : ByteArray) (W : World) (h : CurP W p (fC l)) (R : Ending → World → Prop) (hR : Hid (∀ w', CurP w' p (fC l) → W.grownBy w' (some p) → R (.returned (.bool false)) w')) : Calls Tryz.prog 22 #[ptV p, .string m] W R :=
  curmark_calls (fC l) p m W h R (Lib.hid fun w' c g => by rw [hasF l 4 m false (by decide)]; rw [takeF l 4 m false (by decide)] at c; exact hR.out w' c g)
theorem wordFF (m : ByteArray) (W : World) (h : CurP W p (fC l)) (R : Ending → World → Prop) (hR : Hid (∀ w', CurP w' p (fC l) → W.grownBy w' (some p) → R (.returned (.bool false)) w')) : Calls Tryz.prog 12 #[ptV p, .string m] W R :=
  curword_calls (fC l) p m W h R (Lib.hid fun w' c g => by rw [hasF l 1 m false (by decide)]; rw [takeF l 1 m false (by decide)] at c; exact hR.out w' c g)
theorem needFF (m : ByteArray) (W : World) (h : CurP W p (fC l)) (R : Ending → World → Prop) (hR : Hid (∀ w', CurP w' p (fC l) → W.grownBy w' (some p) → R (.returned (.bool false)) w')) : Calls Tryz.prog 13 #[ptV p, .string m] W R :=
  curneed_calls (fC l) p m W h R (Lib.hid fun w' c g => by rw [hasF l 4 m false (by decide)]; rw [needF] at c; exact hR.out w' c g)
theorem nextFF (W : World) (h : CurP W p (fC l)) (R : Ending → World → Prop) (hR : Hid (∀ w', CurP w' p (fC l) → W.grownBy w' (some p) → R (.returned (.agg #[.int .i64 0, .int .i64 7, .int .i64 7, .string ⟨#[]⟩, .int .i64 0])) w')) : Calls Tryz.prog 20 #[ptV p] W R :=
  curnext_calls (fC l) p W h R (Lib.hid fun w' c g => by rw [peekF]; rw [nextF] at c; exact hR.out w' c g)
theorem failFF (e : Int) (W : World) (h : CurP W p (fC l)) (R : Ending → World → Prop) (hR : Hid (∀ w', CurP w' p (fC l) → W.grownBy w' (some p) → R (.returned (.tuple #[])) w')) : Calls Tryz.prog 25 #[ptV p, .int .i64 e] W R :=
  curfail_calls (fC l) p e W h R (Lib.hid fun w' c g => by rw [failF] at c; exact hR.out w' c g)
end
theorem box_op (w : World) (a b c : Int) (x : ByteArray) :
    (w.alloc (.cells #[.int .i64 a, .int .i64 b, .int .i64 c, .string x] 38)).cell? ⟨w.heap.size, 0, none⟩ = some (.int .i64 a) ∧ (w.alloc (.cells #[.int .i64 a, .int .i64 b, .int .i64 c, .string x] 38)).cell? ⟨w.heap.size, 1, none⟩ = some (.int .i64 b) ∧
    (w.alloc (.cells #[.int .i64 a, .int .i64 b, .int .i64 c, .string x] 38)).cell? ⟨w.heap.size, 2, none⟩ = some (.int .i64 c) ∧ (w.alloc (.cells #[.int .i64 a, .int .i64 b, .int .i64 c, .string x] 38)).cell? ⟨w.heap.size, 3, none⟩ = some (.string x) := by
  have q1 := heap_alloc_new w (.cells #[.int .i64 a, .int .i64 b, .int .i64 c, .string x] 38)
  refine ⟨?_, ?_, ?_, ?_⟩ <;> (rw [Lib.cell_of_heap q1]; rfl)
theorem run_field_tok (t0 t1 t2 : Int) (t3 : ByteArray) (t4 : Int) (w : World) : (Instr.field 40 (.agg #[.int .i64 t0, .int .i64 t1, .int .i64 t2, .string t3, .int .i64 t4]) 0).run Tryz.prog w = .ok (.int .i64 t0) w := by
  simp [Instr.field, run_underlying Tryz.underlying40, part, asAgg, Tryz.isAgg3, go_sem]
theorem cell_grown {w w' : World} {p g x : Nat} {u : Value} (h : w.grownBy w' (some p)) (hg : g < w.heap.size) (hn : g ≠ p) (hc : w.cell? ⟨g, x, none⟩ = some u) : w'.cell? ⟨g, x, none⟩ = some u :=
  (World.cell?_of_block (a := ⟨g, x, none⟩) (h.block g hg (by simpa using hn))).trans hc
end Go.Proofs.YtmchgimbfdeaiaaGreat.Cur

/- Layer 14: regions in which a cursor is called beside loads of boxes: the class of worlds in which all stands as it stood but for two blocks; the boxes of does. -/
set_option maxRecDepth 100000
set_option linter.unusedVariables false
namespace Go.Proofs.YtmchgimbfdeaiaaGreat
open Go.RowKit Go.Lib

/-- A world in which all of W stands as it stood, but for the blocks p and q. -/
structure GW (W : World) (p q : Nat) where
  w : World
  s : W.heap.size ≤ w.heap.size
  b : ∀ k, k < W.heap.size → k ≠ p → k ≠ q → w.heap[k]? = W.heap[k]?
theorem GW.cell {W : World} {p q : Nat} (x : GW W p q) {g o : Nat} (h : g < W.heap.size) (h1 : g ≠ p) (h2 : g ≠ q) {u : Value} (hc : W.cell? ⟨g, o, none⟩ = some u) : x.w.cell? ⟨g, o, none⟩ = some u := (World.cell?_of_block (a := ⟨g, o, none⟩) (x.b g h h1 h2)).trans hc
theorem wp_region_mixG {P : Program} {id : Nat} {Q : Exit → Act → World → Prop} {a : Act} {w : World} {l : List Oper} (p q : Nat) (segs : List (List Nat × Nat)) (last : List Nat) (hm : P.follows .mixedOrders = true) (hs : Region.noSelect l.toArray = true)
    (hB : mixB .any l.toArray segs last (Array.replicate l.toArray.size false) = true) (hN : mixN segs last = l.toArray.size) (hQ : ∀ c a d v w, Q (.panic c) (a.put d v) w → Q (.panic c) a w)
    (h : mixP P l.toArray (fun w' => ∃ x : GW w p q, w' = x.w) Q segs last a (w.drewN 1)) : (Code.region id l.toArray true).wp P Q a w :=
  wp_region_any hm (any_of_C (C := fun w' => ∃ x : GW w p q, w' = x.w) _ _ _ _ (by
    have := mix_any hs hQ segs last _ a _ (C := fun w' => ∃ x : GW w p q, w' = x.w) ⟨⟨w.drewN 1, Nat.le_refl _, fun k hk _ _ => rfl⟩, rfl⟩ hB h
    rw [hN] at this
    exact this))
theorem grown_tr {w w' w'' : World} {row : Option Nat} (h : w.grownBy w' row) (h' : w'.grownBy w'' row) : w.grownBy w'' row :=
  ⟨h'.os.trans h.os, h'.tape.trans h.tape, h'.output.trans h.output, Nat.le_trans h.size h'.size, fun k hk hr => (h'.block k (Nat.lt_of_lt_of_le hk h.size) hr).trans (h.block k hk hr)⟩
theorem grown_bl {w w' : World} {row : Option Nat} {base : Nat} (h : Below base w w') (hb : w.heap.size ≤ base) : w.grownBy w' row := ⟨h.os, h.tape, h.output, h.size, fun k hk _ => h.block k (Nat.lt_of_lt_of_le hk hb)⟩
end Go.Proofs.YtmchgimbfdeaiaaGreat
namespace Go.Proofs.YtmchgimbfdeaiaaGreat.Cur
open Go.RowKit Go.Lib Go.Proofs.YtmchgimbfdeaiaaGreat.Utf Go.Proofs.YtmchgimbfdeaiaaGreat.Tok

/-- The boxes of does: the document's cursor, the call, the result, the token. -/
structure Dz (w : World) (H p : Nat) (v : Value) (c : Cu) (o : Oc) (B : Nat) (t : Tk) (W : World) : Prop where
  g : w.grownBy W (some p)
  hp : p < H
  b8 : H + 2 < B
  l8 : B < W.heap.size
  c0 : W.cell? ⟨H, 0, none⟩ = some v
  c1 : W.cell? ⟨H, 1, none⟩ = some (.int .i64 c.2.1)
  c2 : W.cell? ⟨H, 2, none⟩ = some (.int .i64 c.2.2.1)
  c3 : W.cell? ⟨H, 3, none⟩ = some (.int .i64 c.2.2.2)
  o0 : W.cell? ⟨H + 1, 0, none⟩ = some (.int .i64 o.1)
  o1 : W.cell? ⟨H + 1, 1, none⟩ = some (.int .i64 o.2.1)
  o2 : W.cell? ⟨H + 1, 2, none⟩ = some (.int .i64 o.2.2.1)
  o3 : W.cell? ⟨H + 1, 3, none⟩ = some (.string o.2.2.2)
  r : ∀ j, j < 4 → ∃ u, W.cell? ⟨H + 2, j, none⟩ = some u
  f : ∀ j, W.frozen? ⟨H + 2, j, none⟩ = false
  t0 : W.cell? ⟨B, 0, none⟩ = some (.int .i64 t.1)
  t1 : W.cell? ⟨B, 1, none⟩ = some (.int .i64 t.2.1)
  t2 : W.cell? ⟨B, 2, none⟩ = some (.int .i64 t.2.2.1)
  t3 : W.cell? ⟨B, 3, none⟩ = some (.string t.2.2.2.1)
  t4 : W.cell? ⟨B, 4, none⟩ = some (.int .i64 t.2.2.2.2)
theorem Dz.grown {w W W' : World} {H p : Nat} {v : Value} {c : Cu} {o : Oc} {B : Nat} {t : Tk} (h : Dz w H p v c o B t W) (g : W.grownBy W' (some p)) : Dz w H p v c o B t W' := by
  have hp := h.hp
  have h8 := h.b8
  have hl := h.l8
  have k := fun (b x : Nat) (u : Value) (hb : b ≤ B) (hn : b ≠ p) (hc : W.cell? ⟨b, x, none⟩ = some u) => cell_grown g (show b < W.heap.size by omega) hn hc
  exact ⟨grown_tr h.g g, hp, h8, Nat.lt_of_lt_of_le hl g.size, k _ _ _ (by omega) (by omega) h.c0, k _ _ _ (by omega) (by omega) h.c1, k _ _ _ (by omega) (by omega) h.c2, k _ _ _ (by omega) (by omega) h.c3,
    k _ _ _ (by omega) (by omega) h.o0, k _ _ _ (by omega) (by omega) h.o1, k _ _ _ (by omega) (by omega) h.o2, k _ _ _ (by omega) (by omega) h.o3,
    fun j hj => by obtain ⟨u, hu⟩ := h.r j hj; exact ⟨u, k _ _ _ (by omega) (by omega) hu⟩,
    fun j => by
      have e := g.block (H + 2) (by omega) (by simp; omega)
      have := h.f j
      unfold World.frozen? at this ⊢
      simp only [e]
      exact this,
    k _ _ _ (Nat.le_refl _) (by omega) h.t0, k _ _ _ (Nat.le_refl _) (by omega) h.t1, k _ _ _ (Nat.le_refl _) (by omega) h.t2, k _ _ _ (Nat.le_refl _) (by omega) h.t3, k _ _ _ (Nat.le_refl _) (by omega) h.t4⟩
theorem Dz.below {w W W' : World} {H p : Nat} {v : Value} {c : Cu} {o : Oc} {B : Nat} {t : Tk} (h : Dz w H p v c o B t W) (hb : Below W.heap.size W W') : Dz w H p v c o B t W' := h.grown (grown_bl hb (Nat.le_refl _))
end Go.Proofs.YtmchgimbfdeaiaaGreat.Cur

/- Layer 14: does walked. -/
set_option maxRecDepth 100000
set_option linter.unusedVariables false
namespace Go.Proofs.YtmchgimbfdeaiaaGreat.Cur
open Go.RowKit Go.Lib Go.Proofs.YtmchgimbfdeaiaaGreat.Utf Go.Proofs.YtmchgimbfdeaiaaGreat.Tok

/-- The document's cursor behind a call. -/
noncomputable def doS (c : Cu) (o : Oc) : Cu :=
  if o.1 = 1 then nextS c else if o.1 = 2 then takeS c 4 o.2.2.2 false else if o.1 = 3 then takeS c 1 o.2.2.2 false else if o.1 = 4 then takeS c o.2.1 ⟨#[]⟩ true
  else if o.1 = 5 then needS c o.2.2.2 else if o.1 = 6 then failS c o.2.1 (peekS c).2.1 else if o.1 = 7 then failS c o.2.1 o.2.2.1 else if o.1 = 8 then enterS c else if o.1 = 9 then leaveS c else c
theorem tri {w : World} (a b c : Obj) : (((w.alloc a).alloc b).alloc c).heap[w.heap.size]? = some a ∧ (((w.alloc a).alloc b).alloc c).heap[w.heap.size + 1]? = some b ∧ (((w.alloc a).alloc b).alloc c).heap[w.heap.size + 2]? = some c := by
  obtain ⟨h1, h2⟩ := heap_two w a b
  refine ⟨?_, ?_, ?_⟩
  · exact (((Below.refl _ _).alloc (Nat.le_refl _) c).block _ (by simp; omega)).trans h1
  · exact (((Below.refl _ _).alloc (Nat.le_refl _) c).block _ (by simp)).trans h2
  · have := heap_alloc_last ((w.alloc a).alloc b) c
    have e : ((w.alloc a).alloc b).heap.size = w.heap.size + 2 := by simp
    rwa [e] at this
theorem Dz.new {w w3 : World} {p : Nat} {v : Value} {c : Cu} {o : Oc} {t : Tk} (hp : p < w.heap.size)
    (n : Below (((w.alloc (.cells #[v, .int .i64 c.2.1, .int .i64 c.2.2.1, .int .i64 c.2.2.2] 34)).alloc (.cells #[.int .i64 o.1, .int .i64 o.2.1, .int .i64 o.2.2.1, .string o.2.2.2] 38)).alloc (.cells #[.slice none 0 0, .int .i64 0, .int .i64 0, .int .i64 0] 34)).heap.size
      (((w.alloc (.cells #[v, .int .i64 c.2.1, .int .i64 c.2.2.1, .int .i64 c.2.2.2] 34)).alloc (.cells #[.int .i64 o.1, .int .i64 o.2.1, .int .i64 o.2.2.1, .string o.2.2.2] 38)).alloc (.cells #[.slice none 0 0, .int .i64 0, .int .i64 0, .int .i64 0] 34)) w3) :
    Dz w w.heap.size p v c o w3.heap.size t (w3.alloc (.cells #[.int .i64 t.1, .int .i64 t.2.1, .int .i64 t.2.2.1, .string t.2.2.2.1, .int .i64 t.2.2.2.2] 40)) := by
  have b1 := (Below.refl w.heap.size w).alloc (Nat.le_refl _) (.cells #[v, .int .i64 c.2.1, .int .i64 c.2.2.1, .int .i64 c.2.2.2] 34)
  have b2 := b1.alloc b1.size (.cells #[.int .i64 o.1, .int .i64 o.2.1, .int .i64 o.2.2.1, .string o.2.2.2] 38)
  have b3 := b2.alloc b2.size (.cells #[.slice none 0 0, .int .i64 0, .int .i64 0, .int .i64 0] 34)
  obtain ⟨q1, q2, q3⟩ := tri (w := w) (.cells #[v, .int .i64 c.2.1, .int .i64 c.2.2.1, .int .i64 c.2.2.2] 34) (.cells #[.int .i64 o.1, .int .i64 o.2.1, .int .i64 o.2.2.1, .string o.2.2.2] 38) (.cells #[.slice none 0 0, .int .i64 0, .int .i64 0, .int .i64 0] 34)
  have hs : (((w.alloc (.cells #[v, .int .i64 c.2.1, .int .i64 c.2.2.1, .int .i64 c.2.2.2] 34)).alloc (.cells #[.int .i64 o.1, .int .i64 o.2.1, .int .i64 o.2.2.1, .string o.2.2.2] 38)).alloc (.cells #[.slice none 0 0, .int .i64 0, .int .i64 0, .int .i64 0] 34)).heap.size = w.heap.size + 3 := by simp
  generalize ((w.alloc (.cells #[v, .int .i64 c.2.1, .int .i64 c.2.2.1, .int .i64 c.2.2.2] 34)).alloc (.cells #[.int .i64 o.1, .int .i64 o.2.1, .int .i64 o.2.2.1, .string o.2.2.2] 38)).alloc (.cells #[.slice none 0 0, .int .i64 0, .int .i64 0, .int .i64 0] 34) = W3 at *
  have n2 := n.alloc n.size (.cells #[.int .i64 t.1, .int .i64 t.2.1, .int .i64 t.2.2.1, .string t.2.2.2.1, .int .i64 t.2.2.2.2] 40)
  have hs2 := n.size
  obtain ⟨u0, u1, u2, u3, u4⟩ := box_five' w3 (.int .i64 t.1) (.int .i64 t.2.1) (.int .i64 t.2.2.1) (.string t.2.2.2.1) (.int .i64 t.2.2.2.2) 40
  have r1 := (n2.block _ (by omega)).trans q1
  have r2 := (n2.block _ (by omega)).trans q2
  have r3 := (n2.block _ (by omega)).trans q3
  refine ⟨grown_bl (b3.trans (n2.mono b3.size)) (Nat.le_refl _), hp, by omega, by simp, ?_, ?_, ?_, ?_, ?_, ?_, ?_, ?_, fun j hj => ?_, fun j => Lib.frozen_of_heap r3 j, u0, u1, u2, u3, u4⟩
  · rw [Lib.cell_of_heap r1]; rfl
  · rw [Lib.cell_of_heap r1]; rfl
  · rw [Lib.cell_of_heap r1]; rfl
  · rw [Lib.cell_of_heap r1]; rfl
  · rw [Lib.cell_of_heap r2]; rfl
  · rw [Lib.cell_of_heap r2]; rfl
  · rw [Lib.cell_of_heap r2]; rfl
  · rw [Lib.cell_of_heap r2]; rfl
  · rw [Lib.cell_of_heap r3]
    obtain rfl | rfl | rfl | rfl : j = 0 ∨ j = 1 ∨ j = 2 ∨ j = 3 := by omega
    all_goals exact ⟨_, rfl⟩
/-- The world in which nothing stands at p. -/
def cutW (w : World) (p : Nat) : World := { w with heap := w.heap.setIfInBounds p (.cells #[] 0) }
theorem cut_ne {w : World} {p k : Nat} (h : k ≠ p) : (cutW w p).heap[k]? = w.heap[k]? := by
  unfold cutW
  exact Array.getElem?_setIfInBounds_ne (fun q => h q.symm)
theorem cut_at {w : World} {p : Nat} (h : p < w.heap.size) : (cutW w p).heap[p]? = some (.cells #[] 0) := by simp [cutW, h]
theorem cut_size (w : World) (p : Nat) : (cutW w p).heap.size = w.heap.size := by simp [cutW]
theorem rd_cut {w : World} {p : Nat} {v : Value} {l : List Tk} (h : RdK w v l) (hf : FrV (p + 1) v) : RdK (cutW w p) v l := by
  obtain ⟨A, n, c, rfl, hl, hn, hr⟩ := h
  refine ⟨A, n, c, rfl, hl, hn, fun h0 => ?_⟩
  obtain ⟨g, o, rfl, hg, hc⟩ := hr h0
  have := hf g o n c rfl
  exact ⟨g, o, rfl, by rw [cut_size]; exact hg, fun j u hj => (World.cell?_of_block (a := ⟨g, o + j, none⟩) (cut_ne (show g ≠ p by omega))).trans (hc j u hj)⟩
theorem rd_uncut {w W : World} {p : Nat} {v : Value} {l : List Tk} (h : RdK (cutW w p) v l) (hp : p < w.heap.size) (gr : w.grownBy W (some p)) : RdK W v l ∧ RdK (cutW W p) v l := by
  obtain ⟨A, n, c, rfl, hl, hn, hr⟩ := h
  have key : 0 < (flatG encT l).length → ∃ g o, A = some ⟨g, o, none⟩ ∧ g ≠ p ∧ g < w.heap.size ∧ ∀ j u, (flatG encT l)[j]? = some u → w.cell? ⟨g, o + j, none⟩ = some u := fun h0 => by
    obtain ⟨g, o, e, hg, hc⟩ := hr h0
    have hne : g ≠ p := by
      rintro rfl
      have := hc 0 _ (List.getElem?_eq_getElem h0)
      simp [World.cell?, cut_at hp] at this
    rw [cut_size] at hg
    exact ⟨g, o, e, hne, hg, fun j u hj => (World.cell?_of_block (a := ⟨g, o + j, none⟩) (cut_ne hne)).symm.trans (hc j u hj)⟩
  refine ⟨⟨A, n, c, rfl, hl, hn, fun h0 => ?_⟩, ⟨A, n, c, rfl, hl, hn, fun h0 => ?_⟩⟩
  · obtain ⟨g, o, rfl, hne, hg, hc⟩ := key h0
    exact ⟨g, o, rfl, Nat.lt_of_lt_of_le hg gr.size, fun j u hj => cell_grown gr hg hne (hc j u hj)⟩
  · obtain ⟨g, o, rfl, hne, hg, hc⟩ := key h0
    exact ⟨g, o, rfl, by rw [cut_size]; exact Nat.lt_of_lt_of_le hg gr.size, fun j u hj => (World.cell?_of_block (a := ⟨g, o + j, none⟩) (cut_ne hne)).trans (cell_grown gr hg hne (hc j u hj))⟩
theorem GW.of {W W' : World} {p : Nat} (q : Nat) (g : W.grownBy W' (some p)) : ∃ x : GW W p q, W' = x.w := ⟨⟨W', g.size, fun k hk h1 h2 => g.block k hk (by simpa using h1)⟩, rfl⟩
theorem GW.four {W W' : World} {p q : Nat} (h : ∃ x : GW W p q, W' = x.w) (a b c d : Value) : ∃ x : GW W p q, (((W'.setCell ⟨q, 0, none⟩ a).setCell ⟨q, 1, none⟩ b).setCell ⟨q, 2, none⟩ c).setCell ⟨q, 3, none⟩ d = x.w := by
  obtain ⟨⟨W', s, bl⟩, rfl⟩ := h
  refine ⟨⟨_, ?_, fun k hk h1 h2 => ?_⟩, rfl⟩
  · exact Nat.le_trans s ((((((Below.refl q W').setCell (p := ⟨q, 0, none⟩) (Nat.le_refl _) a).setCell (p := ⟨q, 1, none⟩) (Nat.le_refl _) b).setCell (p := ⟨q, 2, none⟩) (Nat.le_refl _) c).setCell (p := ⟨q, 3, none⟩) (Nat.le_refl _) d).size)
  · exact (Below.heap_setCell _ ⟨q, 3, none⟩ d k h2).trans ((Below.heap_setCell _ ⟨q, 2, none⟩ c k h2).trans ((Below.heap_setCell _ ⟨q, 1, none⟩ b k h2).trans ((Below.heap_setCell _ ⟨q, 0, none⟩ a k h2).trans (bl k hk h1 h2))))
theorem blt {b base : Nat} {w W : World} (h : b ≤ base) (n : Below base w W) : Below b w W := ⟨n.os, n.tape, n.output, n.size, fun k hk => n.block k (by omega)⟩
theorem below_four {b q : Nat} {W : World} (hq : b ≤ q) (a a1 a2 a3 : Value) : Below b W ((((W.setCell ⟨q, 0, none⟩ a).setCell ⟨q, 1, none⟩ a1).setCell ⟨q, 2, none⟩ a2).setCell ⟨q, 3, none⟩ a3) :=
  ((((Below.refl b W).setCell (p := ⟨q, 0, none⟩) hq a).setCell (p := ⟨q, 1, none⟩) hq a1).setCell (p := ⟨q, 2, none⟩) hq a2).setCell (p := ⟨q, 3, none⟩) hq a3
theorem grown_set {w W : World} {p : Nat} (g : w.grownBy W (some p)) {q o : Nat} (hq : w.heap.size ≤ q) (a : Value) : w.grownBy (W.setCell ⟨q, o, none⟩ a) (some p) :=
  ⟨((Below.refl q W).setCell (p := ⟨q, o, none⟩) (Nat.le_refl _) a).os.trans g.os, ((Below.refl q W).setCell (p := ⟨q, o, none⟩) (Nat.le_refl _) a).tape.trans g.tape, ((Below.refl q W).setCell (p := ⟨q, o, none⟩) (Nat.le_refl _) a).output.trans g.output,
    Nat.le_trans g.size ((Below.refl q W).setCell (p := ⟨q, o, none⟩) (Nat.le_refl _) a).size, fun k hk hr => (((Below.refl q W).setCell (p := ⟨q, o, none⟩) (Nat.le_refl _) a).block k (Nat.lt_of_lt_of_le hk hq)).trans (g.block k hk hr)⟩
theorem grown_four {w W : World} {p : Nat} (g : w.grownBy W (some p)) {q : Nat} (hq : w.heap.size ≤ q) (a b c d : Value) : w.grownBy ((((W.setCell ⟨q, 0, none⟩ a).setCell ⟨q, 1, none⟩ b).setCell ⟨q, 2, none⟩ c).setCell ⟨q, 3, none⟩ d) (some p) :=
  grown_set (grown_set (grown_set (grown_set g hq a) hq b) hq c) hq d
end Go.Proofs.YtmchgimbfdeaiaaGreat.Cur

/- Layer 14: the boxes of does when the document's cursor is written in place. -/
set_option maxRecDepth 100000
set_option linter.unusedVariables false
namespace Go.Proofs.YtmchgimbfdeaiaaGreat.Cur
open Go.RowKit Go.Lib Go.Proofs.YtmchgimbfdeaiaaGreat.Utf Go.Proofs.YtmchgimbfdeaiaaGreat.Tok

/-- The document's cursor's box, whole. -/
def BoxC (W : World) (H : Nat) : Prop := ∃ x0 x1 x2 x3, W.heap[H]? = some (.cells #[x0, x1, x2, x3] 34)
theorem BoxC.frozen {W : World} {H : Nat} (h : BoxC W H) (j : Nat) : W.frozen? ⟨H, j, none⟩ = false := by
  obtain ⟨x0, x1, x2, x3, h⟩ := h
  exact Lib.frozen_of_heap h j
theorem BoxC.below {W W' : World} {H b : Nat} (h : BoxC W H) (hb : Below b W W') (hH : H < b) : BoxC W' H := by
  obtain ⟨x0, x1, x2, x3, h⟩ := h
  exact ⟨x0, x1, x2, x3, (hb.block _ hH).trans h⟩
theorem BoxC.grown {W W' : World} {H p : Nat} (h : BoxC W H) (g : W.grownBy W' (some p)) (hne : H ≠ p) : BoxC W' H := by
  obtain ⟨x0, x1, x2, x3, h⟩ := h
  have hl : H < W.heap.size := by
    rcases Nat.lt_or_ge H W.heap.size with q | q
    · exact q
    · rw [Array.getElem?_eq_none q] at h; cases h
  exact ⟨x0, x1, x2, x3, (g.block _ hl (by simpa using hne)).trans h⟩
theorem Dz.deep {w W : World} {p : Nat} {v : Value} {c : Cu} {o : Oc} {B : Nat} {t : Tk} (D : Dz w w.heap.size p v c o B t W) (h : BoxC W w.heap.size) (d : Int) :
    Dz w w.heap.size p v (c.1, d, c.2.2) o B t (W.setCell ⟨w.heap.size, 1, none⟩ (.int .i64 d)) := by
  obtain ⟨x0, x1, x2, x3, h⟩ := h
  have h8 := D.b8
  have hl := D.l8
  have e := fun (b j : Nat) (u : Value) (hne : b ≠ w.heap.size) (hc : W.cell? ⟨b, j, none⟩ = some u) => (World.cell?_of_block (a := ⟨b, j, none⟩) (Below.heap_setCell W ⟨w.heap.size, 1, none⟩ (.int .i64 d) b hne)).trans hc
  have hW : (W.setCell ⟨w.heap.size, 1, none⟩ (.int .i64 d)).heap[w.heap.size]? = some (.cells #[x0, .int .i64 d, x2, x3] 34) := by
    simp [World.setCell, Array.getElem?_modify, h]
  have d0 := D.c0
  have d2 := D.c2
  have d3 := D.c3
  rw [Lib.cell_of_heap h] at d0 d2 d3
  refine ⟨grown_set D.g (Nat.le_refl _) _, D.hp, h8, by simpa [World.setCell] using hl, ?_, ?_, ?_, ?_, e _ _ _ (by omega) D.o0, e _ _ _ (by omega) D.o1, e _ _ _ (by omega) D.o2, e _ _ _ (by omega) D.o3,
    fun j hj => by obtain ⟨u, hu⟩ := D.r j hj; exact ⟨u, e _ _ _ (by omega) hu⟩, fun j => ?_, e _ _ _ (by omega) D.t0, e _ _ _ (by omega) D.t1, e _ _ _ (by omega) D.t2, e _ _ _ (by omega) D.t3, e _ _ _ (by omega) D.t4⟩
  · rw [Lib.cell_of_heap hW]; exact d0
  · rw [Lib.cell_of_heap hW]; rfl
  · rw [Lib.cell_of_heap hW]; exact d2
  · rw [Lib.cell_of_heap hW]; exact d3
  · have := D.f j
    unfold World.frozen? at this ⊢
    simp only [Below.heap_setCell W ⟨w.heap.size, 1, none⟩ (.int .i64 d) (w.heap.size + 2) (by simp)]
    exact this
theorem Dz.boxC {w w3 : World} {v : Value} {c : Cu} {o : Oc} {x : Obj}
    (n : Below (((w.alloc (.cells #[v, .int .i64 c.2.1, .int .i64 c.2.2.1, .int .i64 c.2.2.2] 34)).alloc (.cells #[.int .i64 o.1, .int .i64 o.2.1, .int .i64 o.2.2.1, .string o.2.2.2] 38)).alloc (.cells #[.slice none 0 0, .int .i64 0, .int .i64 0, .int .i64 0] 34)).heap.size
      (((w.alloc (.cells #[v, .int .i64 c.2.1, .int .i64 c.2.2.1, .int .i64 c.2.2.2] 34)).alloc (.cells #[.int .i64 o.1, .int .i64 o.2.1, .int .i64 o.2.2.1, .string o.2.2.2] 38)).alloc (.cells #[.slice none 0 0, .int .i64 0, .int .i64 0, .int .i64 0] 34)) w3) :
    BoxC (w3.alloc x) w.heap.size := by
  obtain ⟨q1, q2, q3⟩ := tri (w := w) (.cells #[v, .int .i64 c.2.1, .int .i64 c.2.2.1, .int .i64 c.2.2.2] 34) (.cells #[.int .i64 o.1, .int .i64 o.2.1, .int .i64 o.2.2.1, .string o.2.2.2] 38) (.cells #[.slice none 0 0, .int .i64 0, .int .i64 0, .int .i64 0] 34)
  exact ⟨_, _, _, _, ((n.alloc n.size x).block _ (by simp; omega)).trans q1⟩
theorem four_cells {W : World} {q : Nat} {y0 y1 y2 y3 : Value} {ty : TypeId} (h : W.heap[q]? = some (.cells #[y0, y1, y2, y3] ty)) (a b c d : Value) :
    ((((W.setCell ⟨q, 0, none⟩ a).setCell ⟨q, 1, none⟩ b).setCell ⟨q, 2, none⟩ c).setCell ⟨q, 3, none⟩ d).heap[q]? = some (.cells #[a, b, c, d] ty) := by
  simp [World.setCell, Array.getElem?_modify, h]
theorem Dz.whole {w W : World} {p : Nat} {v : Value} {c : Cu} {o : Oc} {B : Nat} {t : Tk} (D : Dz w w.heap.size p v c o B t W) (h : BoxC W w.heap.size) (v' : Value) (c' : Cu) :
    Dz w w.heap.size p v' c' o B t ((((W.setCell ⟨w.heap.size, 0, none⟩ v').setCell ⟨w.heap.size, 1, none⟩ (.int .i64 c'.2.1)).setCell ⟨w.heap.size, 2, none⟩ (.int .i64 c'.2.2.1)).setCell ⟨w.heap.size, 3, none⟩ (.int .i64 c'.2.2.2)) := by
  obtain ⟨x0, x1, x2, x3, h⟩ := h
  have h8 := D.b8
  have hl := D.l8
  have bf := below_four (W := W) (Nat.le_refl w.heap.size) v' (.int .i64 c'.2.1) (.int .i64 c'.2.2.1) (.int .i64 c'.2.2.2)
  obtain ⟨y, hy⟩ := GW.four (W := W) (p := w.heap.size) (q := w.heap.size) ⟨⟨W, Nat.le_refl _, fun _ _ _ _ => rfl⟩, rfl⟩ v' (.int .i64 c'.2.1) (.int .i64 c'.2.2.1) (.int .i64 c'.2.2.2)
  have hW : ((((W.setCell ⟨w.heap.size, 0, none⟩ v').setCell ⟨w.heap.size, 1, none⟩ (.int .i64 c'.2.1)).setCell ⟨w.heap.size, 2, none⟩ (.int .i64 c'.2.2.1)).setCell ⟨w.heap.size, 3, none⟩ (.int .i64 c'.2.2.2)).heap[w.heap.size]? = some (.cells #[v', .int .i64 c'.2.1, .int .i64 c'.2.2.1, .int .i64 c'.2.2.2] 34) := by
    simp [World.setCell, Array.getElem?_modify, h]
  have gF := grown_four D.g (Nat.le_refl w.heap.size) v' (.int .i64 c'.2.1) (.int .i64 c'.2.2.1) (.int .i64 c'.2.2.2)
  generalize (((W.setCell ⟨w.heap.size, 0, none⟩ v').setCell ⟨w.heap.size, 1, none⟩ (.int .i64 c'.2.1)).setCell ⟨w.heap.size, 2, none⟩ (.int .i64 c'.2.2.1)).setCell ⟨w.heap.size, 3, none⟩ (.int .i64 c'.2.2.2) = W' at *
  subst hy
  have e := fun (b j : Nat) (u : Value) (hb : b < W.heap.size) (hne : b ≠ w.heap.size) (hc : W.cell? ⟨b, j, none⟩ = some u) => y.cell hb hne hne hc
  refine ⟨gF, D.hp, h8, Nat.lt_of_lt_of_le hl y.s, ?_, ?_, ?_, ?_, e _ _ _ (by omega) (by omega) D.o0, e _ _ _ (by omega) (by omega) D.o1, e _ _ _ (by omega) (by omega) D.o2, e _ _ _ (by omega) (by omega) D.o3,
    fun j hj => by obtain ⟨u, hu⟩ := D.r j hj; exact ⟨u, e _ _ _ (by omega) (by omega) hu⟩, fun j => ?_, e _ _ _ (by omega) (by omega) D.t0, e _ _ _ (by omega) (by omega) D.t1, e _ _ _ (by omega) (by omega) D.t2, e _ _ _ (by omega) (by omega) D.t3, e _ _ _ (by omega) (by omega) D.t4⟩
  · rw [Lib.cell_of_heap hW]; rfl
  · rw [Lib.cell_of_heap hW]; rfl
  · rw [Lib.cell_of_heap hW]; rfl
  · rw [Lib.cell_of_heap hW]; rfl
  · have := D.f j
    unfold World.frozen? at this ⊢
    simp only [y.b (w.heap.size + 2) (by omega) (by omega) (by omega)]
    exact this
end Go.Proofs.YtmchgimbfdeaiaaGreat.Cur
