import Derived.Test.YthelhplcijhioaaGreatG14
import Derived.Test.YthelhplcijhioaaGreatG12
import Derived.Test.YthelhplcijhioaaGreatG15
import Derived.StillTailTactics
import Derived.Deep.Cut
import Derived.Test.YthelhplcijhioaaGreatG13
/- Layer 16, the code: a parser in memory; its cursor's methods. -/
set_option maxRecDepth 100000
set_option linter.unusedVariables false
namespace Go.Proofs.YthelhplcijhioaaGreat.Syn
open Go.RowKit Go.Lib Go.Proofs.YthelhplcijhioaaGreat.Utf Go.Proofs.YthelhplcijhioaaGreat.Tok Go.Proofs.YthelhplcijhioaaGreat.Cur Go.Proofs.YthelhplcijhioaaGreat.Nam Go.Proofs.YthelhplcijhioaaGreat.Lat Go.Proofs.YthelhplcijhioaaGreat.Kin

theorem satK {w : World} {p : Nat} {cs : Array Value} {t : TypeId} (h : w.heap[p]? = some (.cells cs t)) (o : Nat) (v : Value) : (w.setCell ⟨p, o, none⟩ v).heap[p]? = some (.cells (cs.setIfInBounds o v) t) := by
  simp [World.setCell, Array.getElem?_modify, h]
theorem sneK {w : World} {q o k : Nat} {v : Value} (h : k ≠ q) : (w.setCell ⟨q, o, none⟩ v).heap[k]? = w.heap[k]? := Below.heap_setCell _ ⟨q, o, none⟩ v k h
theorem bltK {V : World} {b : Nat} {o : Obj} (h : V.heap[b]? = some o) : b < V.heap.size := (Array.getElem?_eq_some_iff.1 h).1
abbrev cu (d : Int) (s : PS) : Cu := (s.1, d, s.2)
theorem cu_has {d : Int} {s : PS} {k : Int} {m : ByteArray} (hk : k ≠ 0) : Cur.hasS (cu d s) k m false = (decide (s.2.1 = 0) && isS s k m) := by
  unfold Cur.hasS isS
  by_cases h : s.2.1 = 0
  · rw [Cur.peek_ok (c := cu d s) h, decide_eq_true h]
    simp
  · rw [Cur.peek_fail (c := cu d s) h, decide_eq_false h]
    simp only [Bool.false_and, Bool.false_or, Bool.and_eq_false_iff, decide_eq_false_iff_not]
    exact .inl fun q => hk q.symm
theorem cu_nextS {d : Int} {s : PS} (h : s.2.1 = 0) (h1 : (Cur.hdT s.1).1 ≠ 0) : Cur.nextS (cu d s) = cu d (onS s) := by
  unfold Cur.nextS
  rw [if_neg (by rintro (q | q); exact q h; exact h1 q)]
  rfl
theorem cu_may {d : Int} {s : PS} {m : ByteArray} : Cur.takeS (cu d s) 4 m false = cu d (mayS s m).1 := by
  unfold Cur.takeS
  rw [cu_has (by decide)]
  unfold mayS
  by_cases h : s.2.1 = 0 ∧ isS s 4 m = true
  · rw [if_pos h, if_pos (by rw [decide_eq_true h.1, h.2]; rfl)]
    exact cu_nextS h.1 (by rw [is_kind h.2]; decide)
  · rw [if_neg h, if_neg (by simpa using h)]
theorem cu_mayb {d : Int} {s : PS} {m : ByteArray} : Cur.hasS (cu d s) 4 m false = (mayS s m).2 := by
  rw [cu_has (by decide)]
  unfold mayS
  by_cases h : s.2.1 = 0 ∧ isS s 4 m = true
  · rw [if_pos h, decide_eq_true h.1, h.2]; rfl
  · rw [if_neg h]; simpa using h
theorem cu_word {d : Int} {s : PS} {m : ByteArray} : Cur.takeS (cu d s) 1 m false = cu d (wordS s m).1 := by
  unfold Cur.takeS
  rw [cu_has (by decide)]
  unfold wordS
  by_cases h : s.2.1 = 0 ∧ isS s 1 m = true
  · rw [if_pos h, if_pos (by rw [decide_eq_true h.1, h.2]; rfl)]
    exact cu_nextS h.1 (by rw [is_kind h.2]; decide)
  · rw [if_neg h, if_neg (by simpa using h)]
theorem cu_wordb {d : Int} {s : PS} {m : ByteArray} : Cur.hasS (cu d s) 1 m false = (wordS s m).2 := by
  rw [cu_has (by decide)]
  unfold wordS
  by_cases h : s.2.1 = 0 ∧ isS s 1 m = true
  · rw [if_pos h, decide_eq_true h.1, h.2]; rfl
  · rw [if_neg h]; simpa using h
theorem cu_fail {d : Int} {s : PS} {e : Int} (he : e ≠ 0) : Cur.failS (cu d s) e (Cur.peekS (cu d s)).2.1 = cu d (failP s e) := by
  unfold Cur.failS failP
  by_cases h : s.2.1 = 0
  · rw [if_neg (by rintro (q | q); exact q h; exact he q), if_neg (by simpa using h), Cur.peek_ok (c := cu d s) h]
  · rw [if_pos (.inl h), if_pos h]
theorem wrong_is (s : PS) : wrongS s = if (pkS s).1 = 0 then failP s 5 else failP s 4 := by
  unfold wrongS failP pkS
  by_cases h : s.2.1 = 0
  · have n : ¬ s.2.1 ≠ 0 := fun q => q h
    rw [Cur.peek_ok (c := (s.1, 0, s.2)) h]
    simp only [if_neg n]
    by_cases z : (Cur.hdT s.1).1 = 0
    · rw [if_pos z, if_pos z]
    · rw [if_neg z, if_neg z]
  · rw [if_pos h, if_pos h, if_pos h]
    split <;> rfl
theorem cu_need {d : Int} {s : PS} {m : ByteArray} : Cur.needS (cu d s) m = cu d (markS s m) := by
  unfold Cur.needS markS Syn.needS
  by_cases h : s.2.1 = 0
  · rw [if_neg (show ¬ s.2.1 ≠ 0 by simpa using h), cu_has (by decide), decide_eq_true h, Bool.true_and]
    by_cases q : isS s 4 m = true
    · rw [if_pos q, if_pos q]
      exact cu_nextS h (by rw [is_kind q]; decide)
    · rw [if_neg q, if_neg q, wrong_is]
      have e : Cur.peekS (cu d s) = pkS s := rfl
      by_cases z : (pkS s).1 = 0
      · rw [show (Cur.peekS (cu d s)).1 = 0 from z, if_pos rfl, if_pos z, cu_fail (by decide)]
      · rw [if_neg (show ¬ (Cur.peekS (cu d s)).1 = 0 from z), if_neg z, cu_fail (by decide)]
  · rw [if_pos (show s.2.1 ≠ 0 from h), cu_has (by decide), decide_eq_false h, Bool.false_and, if_neg (by decide)]
    unfold Cur.failS
    rw [if_pos (.inl h)]
theorem cu_any {d : Int} {s : PS} {k : Int} (hk : k ≠ 0) : (if k ≠ 0 ∧ (Cur.peekS (cu d s)).1 = k then Cur.nextS (cu d s) else cu d s) = cu d (if k ≠ 0 ∧ (pkS s).1 = k then onS s else s) := by
  have e : Cur.peekS (cu d s) = pkS s := rfl
  rw [e]
  by_cases h : k ≠ 0 ∧ (pkS s).1 = k
  · rw [if_pos h, if_pos h]
    have h0 : s.2.1 = 0 := (Cur.peek_lt (c := cu d s) (by rw [e, h.2]; exact hk)).1
    have h1 : (Cur.hdT s.1).1 ≠ 0 := (Cur.peek_lt (c := cu d s) (by rw [e, h.2]; exact hk)).2
    exact cu_nextS h0 h1
  · rw [if_neg h, if_neg h]
/-- A token of a kind, from the token that comes. -/
theorem any_is {s : PS} {k : Int} (hk : k ≠ 0) : anyS s k = if (pkS s).1 = k then (pkS s, onS s) else (zT, wrongS s) := by
  unfold anyS pkS
  by_cases h : s.2.1 = 0
  · rw [if_neg (by simpa using h), Cur.peek_ok (c := (s.1, 0, s.2)) h]
    by_cases q : (Cur.hdT s.1).1 = k
    · rw [if_neg (by simpa using q), if_pos q]
    · rw [if_pos q, if_neg q]
  · rw [if_pos h, Cur.peek_fail (c := (s.1, 0, s.2)) h, if_neg (fun q => hk (Eq.symm q))]
    unfold wrongS
    rw [if_pos h]
/-- The parser at block q, its cursor at block p, what is left of it in block g. -/
structure PsG (w : World) (q p g : Nat) (d : Int) (s : PS) : Prop where
  cur : CurG w p (cu d s) g
  box : w.heap[q]? = some (.cells #[ptV p] 48)
/-- Behind a call that writes to the cursor alone. -/
structure Nx (w : World) (q p g : Nat) (d : Int) (w' : World) (g' : Nat) (s' : PS) : Prop where
  g : g' = g ∨ w.heap.size ≤ g'
  ps : PsG w' q p g' d s'
  gr : w.grownBy w' (some p)
theorem PsG.ne {w : World} {q p g : Nat} {d : Int} {s : PS} (h : PsG w q p g d s) : q ≠ p := by
  rintro rfl
  obtain ⟨o, k, h1, -⟩ := h.cur.op
  have := h.box
  rw [h1] at this
  simp at this
theorem PsG.gq {w : World} {q p g : Nat} {d : Int} {s : PS} (h : PsG w q p g d s) : g ≠ q := by
  rintro rfl
  obtain ⟨o, k, -, -, -, -, -, -, h3, -⟩ := h.cur.op
  rw [Lib.cell_of_heap h.box] at h3
  match o, h3 with
  | 0, h3 => simp at h3
  | n + 1, h3 => simp at h3
theorem PsG.ok {w : World} {q p g : Nat} {d : Int} {s : PS} (h : PsG w q p g d s) : Ok s := h.cur.ends
theorem PsG.b0 {w : World} {q p g : Nat} {d : Int} {s : PS} (h : PsG w q p g d s) : w.cell? ⟨q, 0, none⟩ = some (ptV p) := (Lib.cell_of_heap h.box 0).trans rfl
theorem PsG.ql {w : World} {q p g : Nat} {d : Int} {s : PS} (h : PsG w q p g d s) : q < w.heap.size := bltK h.box
theorem PsG.lts {w : World} {q p g : Nat} {d : Int} {s : PS} (h : PsG w q p g d s) : q < w.heap.size ∧ p < w.heap.size ∧ g < w.heap.size ∧ q ≠ p ∧ g ≠ p ∧ g ≠ q := ⟨h.ql, h.cur.lt, h.cur.lg, h.ne, h.cur.ne, h.gq⟩
theorem PsG.keep {w w' : World} {q p g : Nat} {d : Int} {s : PS} (h : PsG w q p g d s) (hs : w.heap.size ≤ w'.heap.size) (e : ∀ k, k < w.heap.size → (k = q ∨ k = p ∨ k = g) → w'.heap[k]? = w.heap[k]?) : PsG w' q p g d s :=
  ⟨h.cur.keep hs (e p h.cur.lt (.inr (.inl rfl))) (e g h.cur.lg (.inr (.inr rfl))), (e q h.ql (.inl rfl)).trans h.box⟩
theorem PsG.bl {w w' : World} {q p g : Nat} {d : Int} {s : PS} (h : PsG w q p g d s) (b : Below w.heap.size w w') : PsG w' q p g d s := h.keep b.size fun k hk _ => b.block k hk
theorem PsG.set {w : World} {q p g b : Nat} {d : Int} {s : PS} (h : PsG w q p g d s) (hq : q ≠ b) (hp : p ≠ b) (hg : g ≠ b) (o : Nat) (v : Value) : PsG (w.setCell ⟨b, o, none⟩ v) q p g d s :=
  h.keep (Nat.le_of_eq Cur.set_size.symm) fun k _ e => sneK (by rcases e with rfl | rfl | rfl <;> assumption)
theorem PsG.next {w w' : World} {q p g g' : Nat} {d d' : Int} {s s' : PS} (h : PsG w q p g d s) (c : CurG w' p (cu d' s') g') (gr : w.grownBy w' (some p)) : PsG w' q p g' d' s' :=
  ⟨c, (gr.block _ h.ql (by simpa using h.ne)).trans h.box⟩
theorem PsG.nx {w w' : World} {q p g : Nat} {d : Int} {s s' : PS} (h : PsG w q p g d s) (c : CurG w' p (cu d s') g) (gr : w.grownBy w' (some p)) : Nx w q p g d w' g s' := ⟨.inl rfl, h.next c gr, gr⟩
theorem PsG.same {w w' : World} {q p g : Nat} {d : Int} {s : PS} (h : PsG w q p g d s) (b : Below w.heap.size w w') : Nx w q p g d w' g s := ⟨.inl rfl, h.bl b, Cur.grow_bl b⟩
theorem Nx.trans {w w' w'' : World} {q p g g' g'' : Nat} {d : Int} {s' s'' : PS} (a : Nx w q p g d w' g' s') (b : Nx w' q p g' d w'' g'' s'') : Nx w q p g d w'' g'' s'' :=
  ⟨by have := a.gr.size; rcases b.g with rfl | h; exact a.g; exact .inr (Nat.le_trans this h), b.ps, Cur.grow_tr a.gr b.gr⟩
theorem Nx.on {w w' w'' : World} {q p g g' : Nat} {d : Int} {s' : PS} (a : Nx w q p g d w' g' s') (b : Below w'.heap.size w' w'') : Nx w q p g d w'' g' s' := ⟨a.g, a.ps.bl b, Cur.grow_tr a.gr (Cur.grow_bl b)⟩
theorem pk_calls (s : PS) (q p g : Nat) (d : Int) (w : World) (h : PsG w q p g d s) (R : Ending → World → Prop) (hR : Hid (∀ w', Nx w q p g d w' g s → Below w.heap.size w w' → R (.returned (tkV (pkS s))) w')) : Calls Tryz.prog 28 #[ptV p] w R :=
  peek_calls (cu d s) p g w h.cur R (Lib.hid fun w' b => hR.out w' (h.same b) b)
theorem may_calls (s : PS) (m : ByteArray) (q p g : Nat) (d : Int) (w : World) (h : PsG w q p g d s) (R : Ending → World → Prop) (hR : Hid (∀ w', Nx w q p g d w' g (mayS s m).1 → R (.returned (.bool (mayS s m).2)) w')) : Calls Tryz.prog 110 #[ptV p, .string m] w R :=
  mark_calls (cu d s) p g m w h.cur R (Lib.hid fun w' c gr => by rw [cu_may] at c; rw [cu_mayb]; exact hR.out w' (h.nx c gr))
theorem wordK_calls (s : PS) (m : ByteArray) (q p g : Nat) (d : Int) (w : World) (h : PsG w q p g d s) (R : Ending → World → Prop) (hR : Hid (∀ w', Nx w q p g d w' g (wordS s m).1 → R (.returned (.bool (wordS s m).2)) w')) : Calls Tryz.prog 36 #[ptV p, .string m] w R :=
  word_calls (cu d s) p g m w h.cur R (Lib.hid fun w' c gr => by rw [cu_word] at c; rw [cu_wordb]; exact hR.out w' (h.nx c gr))
theorem need_calls (s : PS) (m : ByteArray) (q p g : Nat) (d : Int) (w : World) (h : PsG w q p g d s) (R : Ending → World → Prop) (hR : Hid (∀ w' g' b, Nx w q p g d w' g' (markS s m) → R (.returned (.bool b)) w')) : Calls Tryz.prog 65 #[ptV p, .string m] w R :=
  cqneed_calls (cu d s) p g m w h.cur R (Lib.hid fun w' g' hg c gr => by rw [cu_need] at c; exact hR.out w' g' _ ⟨hg, h.next c gr, gr⟩)
theorem failK_calls (s : PS) (e : Int) (he : e ≠ 0) (q p g : Nat) (d : Int) (w : World) (h : PsG w q p g d s) (R : Ending → World → Prop) (hR : Hid (∀ w' g', Nx w q p g d w' g' (failP s e) → R (.returned (.tuple #[])) w')) : Calls Tryz.prog 64 #[ptV p, .int .i64 e] w R :=
  cqfail_calls (cu d s) p g e w h.cur R (Lib.hid fun w' g' hg c gr => by rw [cu_fail he] at c; exact hR.out w' g' ⟨hg, h.next c gr, gr⟩)
theorem takeK_calls (s : PS) (k : Int) (hk : k ≠ 0) (q p g : Nat) (d : Int) (w : World) (h : PsG w q p g d s) (R : Ending → World → Prop) (hR : Hid (∀ w', Nx w q p g d w' g (if k ≠ 0 ∧ (pkS s).1 = k then onS s else s) → R (.returned (.tuple #[tkV (if k ≠ 0 ∧ (pkS s).1 = k then pkS s else zT), .bool (decide (k ≠ 0 ∧ (pkS s).1 = k))])) w')) : Calls Tryz.prog 67 #[ptV p, .int .i64 k] w R :=
  cqtake_calls (cu d s) p g k w h.cur R (Lib.hid fun w' c gr => by rw [cu_any hk] at c; exact hR.out w' (h.nx c gr))
/-- What may change: some blocks, and what is new. -/
structure Ch (T : Nat → Prop) (w w' : World) : Prop where
  os : w'.os = w.os
  tape : w'.tape = w.tape
  output : w'.output = w.output
  size : w.heap.size ≤ w'.heap.size
  block : ∀ k, k < w.heap.size → ¬ T k → w'.heap[k]? = w.heap[k]?
theorem Ch.gr {w w' : World} {p : Nat} {T : Nat → Prop} (h : w.grownBy w' (some p)) (t : T p) : Ch T w w' := ⟨h.os, h.tape, h.output, h.size, fun k hk n => h.block k hk (by rintro e; simp only [Option.some.injEq] at e; exact n (e ▸ t))⟩
theorem Ch.bl {w w' : World} {T : Nat → Prop} (h : Below w.heap.size w w') : Ch T w w' := ⟨h.os, h.tape, h.output, h.size, fun k hk _ => h.block k hk⟩
theorem Ch.trans {w w' w'' : World} {T T' : Nat → Prop} (a : Ch T w w') (b : Ch T' w' w'') (t : ∀ k, k < w.heap.size → T' k → T k) : Ch T w w'' :=
  ⟨b.os.trans a.os, b.tape.trans a.tape, b.output.trans a.output, Nat.le_trans a.size b.size, fun k hk n => (b.block k (Nat.lt_of_lt_of_le hk a.size) fun q => n (t k hk q)).trans (a.block k hk n)⟩
theorem Ch.set {w w' : World} {T : Nat → Prop} (a : Ch T w w') {b : Nat} (t : b < w.heap.size → T b) (o : Nat) (v : Value) : Ch T w (w'.setCell ⟨b, o, none⟩ v) :=
  ⟨a.os, a.tape, a.output, Nat.le_trans a.size (Nat.le_of_eq Cur.set_size.symm), fun k hk n => (sneK (by rintro rfl; exact n (t hk))).trans (a.block k hk n)⟩
theorem Ch.mono {w w' : World} {T T' : Nat → Prop} (a : Ch T w w') (t : ∀ k, k < w.heap.size → T k → T' k) : Ch T' w w' := ⟨a.os, a.tape, a.output, a.size, fun k hk n => a.block k hk fun q => n (t k hk q)⟩
theorem Ch.one {w w' : World} {p : Nat} (a : Ch (· = p) w w') : w.grownBy w' (some p) := ⟨a.os, a.tape, a.output, a.size, fun k hk n => a.block k hk fun q => n (by rw [q])⟩
/-- What reads in what is new goes on reading. -/
theorem Ch.kp {w w' : World} {T : Nat → Prop} {b b0 : Nat} (a : Ch T w w') (t : ∀ k, b ≤ k → k < w.heap.size → ¬ T k) (h : b0 ≤ b) : Kp (empW (lowS b) w) (empW (lowS b0) w') :=
  emp_kp a.size fun g h1 h2 => ⟨by unfold lowS at *; omega, a.block g h1 (t g (by unfold lowS at h2; omega) h1)⟩
theorem PsG.ch {w w' : World} {T : Nat → Prop} {q p g : Nat} {d : Int} {s : PS} (h : PsG w q p g d s) (a : Ch T w w') (hq : ¬ T q) (hp : ¬ T p) (hg : ¬ T g) : PsG w' q p g d s :=
  h.keep a.size fun k hk e => a.block k hk (by rcases e with rfl | rfl | rfl <;> assumption)
/-- A box of the call's own. -/
structure Bx (w V : World) (p g B : Nat) (cs : Array Value) (t : TypeId) : Prop where
  at_ : V.heap[B]? = some (.cells cs t)
  lo : w.heap.size ≤ B
  ne : g ≠ B
theorem Bx.lt {w V : World} {p g B : Nat} {cs : Array Value} {t : TypeId} (b : Bx w V p g B cs t) : B < V.heap.size := bltK b.at_
theorem Bx.nx {w V W : World} {q p g g' B : Nat} {d : Int} {s' : PS} {cs : Array Value} {t : TypeId} (b : Bx w V p g B cs t) (n : Nx V q p g d W g' s') (lp : p < w.heap.size) : Bx w W p g' B cs t := by
  have l := b.lt
  have o := b.lo
  refine ⟨(n.gr.block _ l (by simp only [Option.some.injEq, ne_eq]; omega)).trans b.at_, o, ?_⟩
  rcases n.g with rfl | h
  · exact b.ne
  · omega
theorem Bx.set {w V : World} {p g B : Nat} {cs : Array Value} {t : TypeId} (b : Bx w V p g B cs t) (o : Nat) (v : Value) : Bx w (V.setCell ⟨B, o, none⟩ v) p g B (cs.setIfInBounds o v) t := ⟨satK b.at_ o v, b.lo, b.ne⟩
theorem Bx.setn {w V : World} {p g B C : Nat} {cs : Array Value} {t : TypeId} (b : Bx w V p g B cs t) (h : B ≠ C) (o : Nat) (v : Value) : Bx w (V.setCell ⟨C, o, none⟩ v) p g B cs t := ⟨(sneK h).trans b.at_, b.lo, b.ne⟩
theorem Bx.bl {w V W : World} {p g B : Nat} {cs : Array Value} {t : TypeId} (b : Bx w V p g B cs t) (m : Below V.heap.size V W) : Bx w W p g B cs t := ⟨(m.block _ b.lt).trans b.at_, b.lo, b.ne⟩
theorem Bx.alloc {w V : World} {p g B : Nat} {cs : Array Value} {t : TypeId} (b : Bx w V p g B cs t) (o : Obj) : Bx w (V.alloc o) p g B cs t := b.bl ((Below.refl _ _).alloc (Nat.le_refl _) o)
theorem Bx.new {w V : World} {q p g0 g : Nat} {d : Int} {s : PS} (n : Nx w q p g0 d V g s) (cs : Array Value) (t : TypeId) : Bx w (V.alloc (.cells cs t)) p g V.heap.size cs t := ⟨heap_alloc_new V _, n.gr.size, by have := n.ps.cur.lg; omega⟩
theorem Nx.alloc {w V : World} {q p g0 g : Nat} {d : Int} {s : PS} (n : Nx w q p g0 d V g s) (o : Obj) : Nx w q p g0 d (V.alloc o) g s := n.on ((Below.refl _ _).alloc (Nat.le_refl _) o)
theorem Nx.setb {w V : World} {q p g0 g B : Nat} {d d0 : Int} {s s0 : PS} {cs : Array Value} {t : TypeId} (n : Nx w q p g0 d V g s) (b : Bx w V p g B cs t) (h : PsG w q p g0 d0 s0) (o : Nat) (v : Value) : Nx w q p g0 d (V.setCell ⟨B, o, none⟩ v) g s := by
  have l := b.lo
  have := h.ql
  have := h.cur.lt
  exact ⟨n.g, n.ps.set (by omega) (by omega) b.ne o v, (((Ch.gr (T := (· = p)) n.gr rfl).set (b := B) (fun x => by omega) o v)).one⟩
theorem Nx.rfl' {w : World} {q p g : Nat} {d : Int} {s : PS} (h : PsG w q p g d s) : Nx w q p g d w g s := h.same (Below.refl _ _)
theorem Bx.c {w V : World} {p g B : Nat} {cs : Array Value} {t : TypeId} (b : Bx w V p g B cs t) (i : Nat) : V.cell? ⟨B, i, none⟩ = cs[i]? := Lib.cell_of_heap b.at_ i
end Go.Proofs.YthelhplcijhioaaGreat.Syn

/- Layer 16, the code: refuse, refuseStart, needWord, name, number. -/
set_option maxRecDepth 100000
set_option linter.unusedVariables false
namespace Go.Proofs.YthelhplcijhioaaGreat.Syn
open Go.RowKit Go.Lib Go.Proofs.YthelhplcijhioaaGreat.Utf Go.Proofs.YthelhplcijhioaaGreat.Tok Go.Proofs.YthelhplcijhioaaGreat.Cur Go.Proofs.YthelhplcijhioaaGreat.Nam Go.Proofs.YthelhplcijhioaaGreat.Lat Go.Proofs.YthelhplcijhioaaGreat.Kin

set_option maxRecDepth 100000 in
set_option maxHeartbeats 1000000 in
theorem refuse_calls (s : PS) (q p g : Nat) (d : Int) (w : World) (h : PsG w q p g d s) (R : Ending → World → Prop) (hR : Hid (∀ w' g', Nx w q p g d w' g' (wrongS s) → R (.returned (.tuple #[])) w')) : Calls Tryz.prog 29 #[ptV q] w R := by
  have b0 := h.b0
  rw [wrong_is] at hR
  have cP := Lib.hid fun R hR => pk_calls s q p g d w h R hR
  have cF := fun (e : Int) (he : e ≠ 0) (W : World) (n : Nx w q p g d W g s) => Lib.hid fun R hR => failK_calls s e he q p g d W n.ps R hR
  go_enter Tryz.func29, Tryz.ntmps29
  go_wp2_with fail
  refine cP.out _ (Lib.hid fun w1 n1 m1 => ?_)
  have b1 := n1.ps.b0
  have c5 := cF 5 (by decide) w1 n1
  have c4 := cF 4 (by decide) w1 n1
  clear m1 b0 cP cF h
  generalize pkS s = t at *
  obtain ⟨t0, t1, t2, t3, t4⟩ := t
  simp only [tkV] at *
  have hf0 := fun w => run_field0 t0 t1 t2 t3 t4 w
  by_cases h0 : t0 = 0
  · subst h0
    rw [if_pos rfl] at hR
    go_wp2_with fail
    refine c5.out _ (Lib.hid fun w2 g2 n2 => ?_)
    have fin := Lib.hid (hR.out _ _ (n1.trans n2))
    clear hR c4 c5 n1 n2
    go_wp2_with fail
    first | refine bodyPost_ret ?_ rfl fin.out | refine bodyPost_end ?_ rfl fin.out
    simp [results, Tryz.results29, go_sem]
  · rw [if_neg h0] at hR
    have q0 : (t0 == 0) = false := by simpa using h0
    clear h0
    go_wp2_with fail
    refine c4.out _ (Lib.hid fun w2 g2 n2 => ?_)
    have fin := Lib.hid (hR.out _ _ (n1.trans n2))
    clear hR c4 c5 n1 n2
    go_wp2_with fail
    first | refine bodyPost_ret ?_ rfl fin.out | refine bodyPost_end ?_ rfl fin.out
    simp [results, Tryz.results29, go_sem]
set_option maxRecDepth 100000 in
set_option maxHeartbeats 1000000 in
theorem refuseStart_calls (s : PS) (q p g : Nat) (d : Int) (w : World) (h : PsG w q p g d s) (R : Ending → World → Prop) (hR : Hid (∀ w' g', Nx w q p g d w' g' (rstS s) → R (.returned (.tuple #[])) w')) : Calls Tryz.prog 84 #[ptV q] w R := by
  have b0 := h.b0
  have hr : rstS s = if (pkS s).1 = 1 then failP s 9 else wrongS s := rfl
  rw [hr] at hR
  have cP := Lib.hid fun R hR => pk_calls s q p g d w h R hR
  have cF := fun (W : World) (n : Nx w q p g d W g s) => Lib.hid fun R hR => failK_calls s 9 (by decide) q p g d W n.ps R hR
  have cR := fun (W : World) (n : Nx w q p g d W g s) => Lib.hid fun R hR => refuse_calls s q p g d W n.ps R hR
  go_enter Tryz.func84, Tryz.ntmps84
  go_wp2_with fail
  refine cP.out _ (Lib.hid fun w1 n1 m1 => ?_)
  have b1 := n1.ps.b0
  have c5 := cF w1 n1
  have c4 := cR w1 n1
  clear m1 b0 cP cF cR h hr
  generalize pkS s = t at *
  obtain ⟨t0, t1, t2, t3, t4⟩ := t
  simp only [tkV] at *
  have hf0 := fun w => run_field0 t0 t1 t2 t3 t4 w
  by_cases h0 : t0 = 1
  · subst h0
    rw [if_pos rfl] at hR
    go_wp2_with fail
    refine c5.out _ (Lib.hid fun w2 g2 n2 => ?_)
    have fin := Lib.hid (hR.out _ _ (n1.trans n2))
    clear hR c4 c5 n1 n2
    go_wp2_with fail
    first | refine bodyPost_ret ?_ rfl fin.out | refine bodyPost_end ?_ rfl fin.out
    simp [results, Tryz.results84, go_sem]
  · rw [if_neg h0] at hR
    have q0 : (t0 == 1) = false := by simpa using h0
    clear h0
    go_wp2_with fail
    refine c4.out _ (Lib.hid fun w2 g2 n2 => ?_)
    have fin := Lib.hid (hR.out _ _ (n1.trans n2))
    clear hR c4 c5 n1 n2
    go_wp2_with fail
    first | refine bodyPost_ret ?_ rfl fin.out | refine bodyPost_end ?_ rfl fin.out
    simp [results, Tryz.results84, go_sem]
set_option maxRecDepth 100000 in
set_option maxHeartbeats 1000000 in
theorem needWord_calls (s : PS) (x : ByteArray) (q p g : Nat) (d : Int) (w : World) (h : PsG w q p g d s) (R : Ending → World → Prop) (hR : Hid (∀ w' g', Nx w q p g d w' g' (needW s x) → R (.returned (.tuple #[])) w')) : Calls Tryz.prog 31 #[ptV q, .string x] w R := by
  have b0 := h.b0
  have hr : needW s x = if (wordS s x).2 = true then (wordS s x).1 else wrongS s := rfl
  rw [hr] at hR
  have cP := Lib.hid fun R hR => wordK_calls s x q p g d w h R hR
  have cR := fun (W : World) (n : Nx w q p g d W g s) => Lib.hid fun R hR => refuse_calls s q p g d W n.ps R hR
  have hf : (wordS s x).2 = false → (wordS s x).1 = s := fun e => by
    unfold wordS at *
    split at e
    · cases e
    · rename_i c
      rw [if_neg c]
  go_enter Tryz.func31, Tryz.ntmps31
  go_wp2_with fail
  refine cP.out _ (Lib.hid fun w1 n1 => ?_)
  clear b0 cP h hr
  cases hw : (wordS s x).2
  · rw [hf hw] at n1
    rw [hw, if_neg (by decide)] at hR
    have c4 := cR w1 n1
    clear cR hf hw
    go_wp2_with fail
    refine c4.out _ (Lib.hid fun w2 g2 n2 => ?_)
    have fin := Lib.hid (hR.out _ _ (n1.trans n2))
    clear hR c4 n1 n2
    go_wp2_with fail
    first | refine bodyPost_ret ?_ rfl fin.out | refine bodyPost_end ?_ rfl fin.out
    simp [results, Tryz.results31, go_sem]
  · rw [hw, if_pos rfl] at hR
    have fin := Lib.hid (hR.out _ _ n1)
    clear cR hf hw hR n1
    go_wp2_with fail
    first | refine bodyPost_ret ?_ rfl fin.out | refine bodyPost_end ?_ rfl fin.out
    simp [results, Tryz.results31, go_sem]
theorem any_cases (s : PS) (k : Int) (hk : k ≠ 0) : ((pkS s).1 = k ∧ anyS s k = (pkS s, onS s)) ∨ ((pkS s).1 ≠ k ∧ anyS s k = (zT, wrongS s)) := by
  rw [any_is hk]
  by_cases h : (pkS s).1 = k
  · exact .inl ⟨h, if_pos h⟩
  · exact .inr ⟨h, if_neg h⟩
set_option maxRecDepth 100000 in
set_option maxHeartbeats 1000000 in
theorem number_calls (s : PS) (q p g : Nat) (d : Int) (w : World) (h : PsG w q p g d s) (R : Ending → World → Prop) (hR : Hid (∀ w' g', Nx w q p g d w' g' (intS s).2 → R (.returned (.int .i64 (intS s).1)) w')) : Calls Tryz.prog 88 #[ptV q] w R := by
  have b0 := h.b0
  have hr : intS s = ((anyS s 2).1.2.2.2.2, (anyS s 2).2) := rfl
  rw [hr] at hR
  have cP := Lib.hid fun R hR => takeK_calls s 2 (by decide) q p g d w h R hR
  go_enter Tryz.func88, Tryz.ntmps88
  go_wp2_with fail
  refine cP.out _ (Lib.hid fun w1 n1 => ?_)
  clear cP b0
  rcases any_cases s 2 (by decide) with ⟨h0, e⟩ | ⟨h0, e⟩
  · rw [e] at hR
    rw [if_pos ⟨by decide, h0⟩] at n1
    rw [if_pos ⟨by decide, h0⟩, decide_eq_true (show (2 : Int) ≠ 0 ∧ (pkS s).1 = 2 from ⟨by decide, h0⟩)]
    simp only at hR
    clear h0 e hr
    generalize pkS s = t at *
    obtain ⟨t0, t1, t2, t3, t4⟩ := t
    simp only [tkV] at *
    have bA := (Below.refl w1.heap.size w1).alloc (Nat.le_refl _) (.cells #[.int .i64 t0, .int .i64 t1, .int .i64 t2, .string t3, .int .i64 t4] 76)
    have fin := Lib.hid (hR.out _ _ (n1.on bA))
    clear hR n1 bA
    go_wp2_with fail
    exact fin.out
  · rw [e] at hR
    have e2 : ¬ ((2 : Int) ≠ 0 ∧ (pkS s).1 = 2) := fun x => h0 x.2
    rw [if_neg e2] at n1
    rw [if_neg e2, decide_eq_false e2]
    simp only at hR
    have tz : tkV zT = .agg #[.int .i64 0, .int .i64 0, .int .i64 0, .string ⟨#[]⟩, .int .i64 0] := rfl
    rw [tz]
    clear h0 e hr e2
    have bA := (Below.refl w1.heap.size w1).alloc (Nat.le_refl _) (.cells #[.int .i64 0, .int .i64 0, .int .i64 0, .string ⟨#[]⟩, .int .i64 0] 76)
    have n2 := n1.on bA
    have cR := Lib.hid fun R hR => refuse_calls s q p g d _ n2.ps R hR
    have y4 := (Lib.cell_of_heap (heap_alloc_new w1 (.cells #[.int .i64 0, .int .i64 0, .int .i64 0, .string ⟨#[]⟩, .int .i64 0] 76)) 4).trans rfl
    have hb := heap_alloc_new w1 (.cells #[.int .i64 0, .int .i64 0, .int .i64 0, .string ⟨#[]⟩, .int .i64 0] 76)
    have l1 := n2.ps.lts
    have hpb : p ≠ w1.heap.size := by have := n1.ps.lts; omega
    clear n1 bA
    go_upto_region 2 with fail
    generalize w1.alloc (.cells #[.int .i64 0, .int .i64 0, .int .i64 0, .string ⟨#[]⟩, .int .i64 0] 76) = V at *
    go_wp2_with fail
    refine cR.out _ (Lib.hid fun w3 g3 n3 => ?_)
    have y4 := (Lib.cell_of_heap ((n3.gr.block _ (bltK hb) (by simpa using hpb.symm)).trans hb) 4).trans rfl
    have fin := Lib.hid (hR.out _ _ (n2.trans n3))
    clear hR n2 n3 cR
    go_wp2_with fail
    exact fin.out
end Go.Proofs.YthelhplcijhioaaGreat.Syn

/- Layer 16, the code: name. -/
set_option maxRecDepth 100000
set_option linter.unusedVariables false
namespace Go.Proofs.YthelhplcijhioaaGreat.Syn
open Go.RowKit Go.Lib Go.Proofs.YthelhplcijhioaaGreat.Utf Go.Proofs.YthelhplcijhioaaGreat.Tok Go.Proofs.YthelhplcijhioaaGreat.Cur Go.Proofs.YthelhplcijhioaaGreat.Nam Go.Proofs.YthelhplcijhioaaGreat.Lat Go.Proofs.YthelhplcijhioaaGreat.Kin

abbrev wrV (x : Wr) : Value := .agg #[.string x.1, .int .i64 x.2]
set_option maxRecDepth 100000 in
set_option maxHeartbeats 1000000 in
theorem nameK_calls (s : PS) (q p g : Nat) (d : Int) (w : World) (h : PsG w q p g d s) (R : Ending → World → Prop) (hR : Hid (∀ w' g', Nx w q p g d w' g' (nameS s).2 → R (.returned (wrV (nameS s).1)) w')) : Calls Tryz.prog 35 #[ptV q] w R := by
  have lp := h.cur.lt
  have n := (Nx.rfl' h).alloc (.cells #[.string ⟨#[]⟩, .int .i64 0] 28)
  have bR := Bx.new (Nx.rfl' h) #[.string ⟨#[]⟩, .int .i64 0] 28
  have hr : nameS s = (((anyS s 1).1.2.2.2.1, (anyS s 1).1.2.1), (anyS s 1).2) := rfl
  rw [hr] at hR
  go_enter Tryz.func35, Tryz.ntmps35
  go_upto_region 1 with fail
  generalize w.alloc (.cells #[.string ⟨#[]⟩, .int .i64 0] 28) = V at *
  have b0 := n.ps.b0
  go_wp2_with fail
  refine takeK_calls s 1 (by decide) q p g d V n.ps _ (Lib.hid fun w1 n1 => ?_)
  replace bR := bR.nx n1 lp
  replace n := n.trans n1
  clear n1 b0
  rcases any_cases s 1 (by decide) with ⟨h0, e⟩ | ⟨h0, e⟩
  · rw [e] at hR
    rw [if_pos ⟨by decide, h0⟩] at n
    rw [if_pos ⟨by decide, h0⟩, decide_eq_true (show (1 : Int) ≠ 0 ∧ (pkS s).1 = 1 from ⟨by decide, h0⟩)]
    simp only at hR
    clear h0 e hr
    generalize pkS s = t at *
    obtain ⟨t0, t1, t2, t3, t4⟩ := t
    simp only [tkV] at *
    have bT := Bx.new n #[.int .i64 t0, .int .i64 t1, .int .i64 t2, .string t3, .int .i64 t4] 76
    replace bR := bR.alloc (.cells #[.int .i64 t0, .int .i64 t1, .int .i64 t2, .string t3, .int .i64 t4] 76)
    replace n := n.alloc (.cells #[.int .i64 t0, .int .i64 t1, .int .i64 t2, .string t3, .int .i64 t4] 76)
    have fin := Lib.hid (hR.out _ _ ((n.setb bR h 0 (.string t3)).setb (bR.set 0 _) h 1 (.int .i64 t1)))
    have r0 := (bR.c 0).trans rfl
    have r1 := (bR.c 1).trans rfl
    have rf0 := Lib.frozen_of_heap bR.at_ 0
    have rf1 := Lib.frozen_of_heap bR.at_ 1
    clear hR n h bR bT
    go_wp2_with fail
    first | refine bodyPost_ret ?_ rfl fin.out | refine bodyPost_end ?_ rfl fin.out
    simp [results, Tryz.results35, go_sem, r0, r1]
  · rw [e] at hR
    have e2 : ¬ ((1 : Int) ≠ 0 ∧ (pkS s).1 = 1) := fun x => h0 x.2
    rw [if_neg e2] at n
    rw [if_neg e2, decide_eq_false e2]
    simp only at hR
    have tz : tkV zT = .agg #[.int .i64 0, .int .i64 0, .int .i64 0, .string ⟨#[]⟩, .int .i64 0] := rfl
    rw [tz]
    clear h0 e hr e2
    have bT := Bx.new n #[.int .i64 0, .int .i64 0, .int .i64 0, .string ⟨#[]⟩, .int .i64 0] 76
    replace bR := bR.alloc (.cells #[.int .i64 0, .int .i64 0, .int .i64 0, .string ⟨#[]⟩, .int .i64 0] 76)
    replace n := n.alloc (.cells #[.int .i64 0, .int .i64 0, .int .i64 0, .string ⟨#[]⟩, .int .i64 0] 76)
    go_upto_region 2 with fail
    generalize w1.alloc (.cells #[.int .i64 0, .int .i64 0, .int .i64 0, .string ⟨#[]⟩, .int .i64 0] 76) = V2 at *
    generalize w1.heap.size = B at *
    go_wp2_with fail
    refine refuse_calls s q p g d _ n.ps _ (Lib.hid fun w3 g3 n3 => ?_)
    replace bR := bR.nx n3 lp
    replace bT := bT.nx n3 lp
    replace n := n.trans n3
    clear n3
    have fin := Lib.hid (hR.out _ _ ((n.setb bR h 0 (.string ⟨#[]⟩)).setb (bR.set 0 _) h 1 (.int .i64 0)))
    have r0 := (bR.c 0).trans rfl
    have r1 := (bR.c 1).trans rfl
    have rf0 := Lib.frozen_of_heap bR.at_ 0
    have rf1 := Lib.frozen_of_heap bR.at_ 1
    have t1 := (bT.c 1).trans rfl
    have t3 := (bT.c 3).trans rfl
    clear hR n h bR bT
    go_wp2_with fail
    first | refine bodyPost_ret ?_ rfl fin.out | refine bodyPost_end ?_ rfl fin.out
    simp [results, Tryz.results35, go_sem, r0, r1]
    exact ⟨rfl, rfl⟩
end Go.Proofs.YthelhplcijhioaaGreat.Syn

/- Layer 16, the code: what stands between two marks. -/
set_option maxRecDepth 100000
set_option linter.unusedVariables false
namespace Go.Proofs.YthelhplcijhioaaGreat.Syn
open Go.RowKit Go.Lib Go.Proofs.YthelhplcijhioaaGreat.Utf Go.Proofs.YthelhplcijhioaaGreat.Tok Go.Proofs.YthelhplcijhioaaGreat.Cur Go.Proofs.YthelhplcijhioaaGreat.Nam Go.Proofs.YthelhplcijhioaaGreat.Lat Go.Proofs.YthelhplcijhioaaGreat.Kin

/-- Behind a call that writes to the cursor and to another block. -/
structure Nt (T : Nat) (w : World) (q p g : Nat) (d : Int) (w' : World) (g' : Nat) (s' : PS) : Prop where
  g : g' = g ∨ w.heap.size ≤ g'
  ps : PsG w' q p g' d s'
  ch : Ch (fun k => k = p ∨ k = T) w w'
/-- A function of the program's own text. -/
def IsF (k : FuncId) : Prop := ∀ (args : Array Value) (w : World), (callFunc k args).run Tryz.prog w = .ok (.enter k args) w
theorem isF_name : IsF 35 := by
  intro args w
  unfold callFunc
  simp [go_sem, Tryz.func35]
  rfl
set_option maxRecDepth 100000 in
set_option maxHeartbeats 1000000 in
theorem inside_calls (k : FuncId) (hk : IsF k) (caps : Array Value) (T : Nat) (a b : ByteArray) (s s2 : PS) (q p g : Nat) (d : Int) (w : World) (h : PsG w q p g d s) (Q : World → World → Prop)
    (hC : Hid (∀ W g1, Nx w q p g d W g1 (markS s a) → ∀ R : Ending → World → Prop, Hid (∀ W' g2, Nt T W q p g1 d W' g2 s2 → Q W W' → R (.returned (.tuple #[])) W') → Calls Tryz.prog k caps W R)) (R : Ending → World → Prop)
    (hR : Hid (∀ W W' W'' g1 g2 g3, Nx w q p g d W g1 (markS s a) → Nt T W q p g1 d W' g2 s2 → Q W W' → Nx W' q p g2 d W'' g3 (markS s2 b) → R (.returned (.tuple #[])) W'')) : Calls Tryz.prog 32 #[ptV q, .string a, .string b, .func (.func k) #[] caps] w R := by
  have b0 := h.b0
  unfold IsF at hk
  go_enter Tryz.func32, Tryz.ntmps32
  go_wp2_with fail
  refine need_calls s a q p g d w h _ (Lib.hid fun w1 g1 o1 n1 => ?_)
  clear b0
  go_wp2_with fail
  refine hC.out w1 g1 n1 _ (Lib.hid fun w2 g2 n2 q2 => ?_)
  have b0 := n2.ps.b0
  go_wp2_with fail
  refine need_calls s2 b q p g2 d w2 n2.ps _ (Lib.hid fun w3 g3 o3 n3 => ?_)
  have fin := Lib.hid (hR.out w1 w2 w3 g1 g2 g3 n1 n2 q2 n3)
  clear b0 hR hC n1 n2 n3 q2
  go_wp2_with fail
  first | refine bodyPost_ret ?_ rfl fin.out | refine bodyPost_end ?_ rfl fin.out
  simp [results, Tryz.results32, go_sem]
end Go.Proofs.YthelhplcijhioaaGreat.Syn

/- Layer 16, the code: names with a mark between each two; a label. -/
set_option maxRecDepth 100000
set_option linter.unusedVariables false
namespace Go.Proofs.YthelhplcijhioaaGreat.Syn
open Go.RowKit Go.Lib Go.Proofs.YthelhplcijhioaaGreat.Utf Go.Proofs.YthelhplcijhioaaGreat.Tok Go.Proofs.YthelhplcijhioaaGreat.Cur Go.Proofs.YthelhplcijhioaaGreat.Nam Go.Proofs.YthelhplcijhioaaGreat.Lat Go.Proofs.YthelhplcijhioaaGreat.Kin

/-- What follows an element. -/
def tlS {α : Type} (el : PS → α × PS) (m : ByteArray) (n : Nat) (p : PS) : List α × PS := if (mayS p m).2 then sepS el m n (mayS p m).1 else ([], p)
theorem sep_tl {α : Type} (el : PS → α × PS) (m : ByteArray) (n : Nat) (p : PS) : sepS el m (n + 1) p = ((el p).1 :: (tlS el m n (el p).2).1, (tlS el m n (el p).2).2) := by
  show (if (mayS (el p).2 m).2 then _ else _) = _
  unfold tlS
  split <;> rfl
theorem tl_yes {α : Type} {el : PS → α × PS} {m : ByteArray} {n : Nat} {p : PS} (h : (mayS p m).2 = true) : tlS el m (n + 1) p = ((el (mayS p m).1).1 :: (tlS el m n (el (mayS p m).1).2).1, (tlS el m n (el (mayS p m).1).2).2) := by
  unfold tlS
  rw [if_pos h, sep_tl]
  rfl
theorem may_no {p : PS} {m : ByteArray} (h : (mayS p m).2 = false) : (mayS p m).1 = p := by
  unfold mayS at *
  split at h
  · cases h
  · rename_i c
    rw [if_neg c]
theorem tl_no {α : Type} {el : PS → α × PS} {m : ByteArray} {n : Nat} {p : PS} (h : (mayS p m).2 = false) : tlS el m n p = ([], p) := by
  unfold tlS
  rw [if_neg (by rw [h]; decide)]
theorem ownEmp {w : World} {base : Nat} {e : TypeId} {k n : Nat} {v : Value} {xs : List Value} (h : w.ownsRow base e k v n xs) : RdAt (empW (lowS base) w) v k xs := by
  have h0 := h
  obtain ⟨hl, ⟨rfl, rfl⟩ | ⟨g, cap, cur, rfl, hb, hg, hn, hm, hc, ht⟩⟩ := h
  · exact ⟨none, 0, 0, rfl, hl, Nat.le_refl _, fun h => absurd h (by omega)⟩
  · refine ⟨_, n, cap, rfl, hl, hn, fun _ => ⟨g, 0, rfl, ?_, fun j u hj => ?_⟩⟩
    · rw [emp_size]
      exact (h0.lt g rfl).2
    · have := h0.cells (g := g) rfl j u hj
      rw [Addr.add_lit] at this
      exact emp_cell.2 ⟨by unfold lowS; omega, this⟩
theorem ownKeep {w w' : World} {base : Nat} {e : TypeId} {k n : Nat} {v : Value} {xs : List Value} (h : w.ownsRow base e k v n xs) (hk : ∀ g, v.ownBlock = some g → w'.heap[g]? = w.heap[g]?) : w'.ownsRow base e k v n xs := by
  obtain ⟨hl, ⟨rfl, rfl⟩ | ⟨g, cap, cur, rfl, hb, hg, h3⟩⟩ := h
  · exact ⟨hl, .inl ⟨rfl, rfl⟩⟩
  · exact ⟨hl, .inr ⟨g, cap, cur, rfl, hb, (hk g rfl).trans hg, h3⟩⟩
/-- A row of the call's own beside the cursor. -/
structure Rw (w V : World) (p g : Nat) (e : TypeId) (k : Nat) (v : Value) (n : Nat) (xs : List Value) : Prop where
  own : V.ownsRow w.heap.size e k v n xs
  ne : ∀ b, v.ownBlock = some b → g ≠ b
theorem Rw.nx {w V W : World} {q p g g' k n : Nat} {d : Int} {s' : PS} {e : TypeId} {v : Value} {xs : List Value} (r : Rw w V p g e k v n xs) (x : Nx V q p g d W g' s') (lp : p < w.heap.size) : Rw w W p g' e k v n xs := by
  refine ⟨ownKeep r.own fun b hb => ?_, fun b hb => ?_⟩
  · have := r.own.lt b hb
    exact x.gr.block _ this.2 (fun q => by simp only [Option.some.injEq] at q; omega)
  · have := r.own.lt b hb
    rcases x.g with rfl | h
    · exact r.ne b hb
    · omega
theorem Rw.bl {w V W : World} {p g k n : Nat} {e : TypeId} {v : Value} {xs : List Value} (r : Rw w V p g e k v n xs) (m : Below V.heap.size V W) : Rw w W p g e k v n xs := ⟨ownKeep r.own fun b hb => m.block _ (r.own.lt b hb).2, r.ne⟩
/-- A row that has just been made. -/
theorem Rw.one {w V : World} {p g k : Nat} {e : TypeId} {us : Array Value} (hs : us.size = k) (hw : w.heap.size ≤ V.heap.size) (lg : g < V.heap.size) : Rw w (V.alloc (.cells us e)) p g e k (.slice (some ⟨V.heap.size, 0, none⟩) 1 1) 1 us.toList :=
  ⟨⟨by simp [hs], .inr ⟨V.heap.size, 1, us, rfl, hw, heap_alloc_new V _, Nat.le_refl _, by decide, by omega, by subst hs; rw [Nat.one_mul, ← Array.length_toList, List.take_length]⟩⟩, fun b hb => by
    have e := Option.some.inj (show some V.heap.size = some b from hb)
    omega⟩
/-- Behind an append. -/
theorem Nx.app {w V W : World} {q p g0 g : Nat} {d d0 : Int} {s s0 : PS} {v : Value} {e : TypeId} {k n : Nat} {xs : List Value} (x : Nx w q p g0 d V g s) (h : PsG w q p g0 d0 s0) (r : Rw w V p g e k v n xs) (o : Obj) (gr : V.grownBy W v.ownBlock) : Nx w q p g0 d W g s := by
  have lw := x.gr.size
  have lq := h.ql
  have lp := h.cur.lt
  have ne : ∀ b, b < w.heap.size → v.ownBlock ≠ some b := fun b hb q => by have := (r.own.lt b q).1; omega
  refine ⟨x.g, x.ps.keep gr.size fun b hb e => gr.block b hb ?_, ⟨gr.os.trans x.gr.os, gr.tape.trans x.gr.tape, gr.output.trans x.gr.output, Nat.le_trans x.gr.size gr.size, fun b hb hn => (gr.block b (by omega) fun q => ne b hb q.symm).trans (x.gr.block b hb hn)⟩⟩
  rcases e with rfl | rfl | rfl
  · exact fun q => ne _ lq q.symm
  · exact fun q => ne _ lp q.symm
  · exact fun q => r.ne _ q.symm rfl
theorem wrInfo : (Tryz.prog.info? 28).map (fun i => (i.zero, i.size, i.bytes)) = some (some (.agg #[.string ⟨#[]⟩, .int .i64 0]), 2, 24) := by kernel_rfl
set_option maxRecDepth 100000 in
set_option maxHeartbeats 2000000 in
theorem sepW_calls (m : ByteArray) (s : PS) (q p g : Nat) (d : Int) (w : World) (h : PsG w q p g d s) (hl : s.1.length ≤ 1000000) (R : Ending → World → Prop)
    (hR : Hid (∀ w' g' v, Nx w q p g d w' g' (listP nameS m s).2 → RdW (empW (lowS w.heap.size) w') v (listP nameS m s).1 → R (.returned v) w')) : Calls Tryz.prog 66 #[ptV q, .string m, .func (.func 35) #[ptV q] #[]] w R := by
  have lp := h.cur.lt
  obtain ⟨ti, hI, hZ⟩ : ∃ i0, Tryz.prog.info? 28 = some i0 ∧ (i0.zero, i0.size, i0.bytes) = (some (.agg #[.string ⟨#[]⟩, .int .i64 0]), 2, 24) := by
    have := wrInfo
    cases h : Tryz.prog.info? 28 with
    | none => rw [h] at this; cases this
    | some i0 => rw [h] at this; exact ⟨i0, rfl, by simpa using this⟩
  simp only [Prod.mk.injEq] at hZ
  obtain ⟨hz0, hz1, hz2⟩ := hZ
  have gn := gd_name s h.ok
  have e0 : listP nameS m s = ((nameS s).1 :: (tlS nameS m s.1.length (nameS s).2).1, (tlS nameS m s.1.length (nameS s).2).2) := sep_tl _ _ _ _
  go_enter Tryz.func66, Tryz.ntmps66
  go_wp2_with fail
  refine nameK_calls s q p g d w h _ (Lib.hid fun w1 g1 n => ?_)
  generalize hx : (nameS s).1 = x at *
  generalize hs1 : (nameS s).2 = s1 at *
  obtain ⟨x0, x1⟩ := x
  have rw1 := Rw.one (w := w) (V := w1) (p := p) (g := g1) (e := 28) (us := #[.string x0, .int .i64 x1]) rfl n.gr.size n.ps.cur.lg
  replace n := n.alloc (.cells #[.string x0, .int .i64 x1] 28)
  have inv : ∃ n0, s1.1.length ≤ n0 ∧ listP nameS m s = ([(x0, x1)] ++ (tlS nameS m n0 s1).1, (tlS nameS m n0 s1).2) := ⟨s.1.length, gn.2, e0⟩
  clear e0
  have hR2 : Hid (∀ (w' : World) (g' : Nat) (v : Value) (l : List Wr) (s' : PS), listP nameS m s = (l, s') → Nx w q p g d w' g' s' → RdW (empW (lowS w.heap.size) w') v l → R (.returned v) w') := Lib.hid fun w' g' v l s' e n r => by
    refine hR.out w' g' v ?_ ?_
    · rw [e]; exact n
    · rw [e]; exact r
  clear hR
  go_upto_region 2 with fail
  generalize w1.alloc (.cells #[.string x0, .int .i64 x1] 28) = V at *
  generalize w1.heap.size = B at *
  replace n := Lib.hid n
  replace rw1 := Lib.hid rw1
  replace inv := Lib.hid inv
  go_loopg [7] s1.1.length (fun gk v wr => ∃ (K : Nat) (acc : List Wr) (sK : PS) (gK n0 : Nat) (v' : Value), v' = v ∧ acc.length = K ∧ gk = sK.1.length ∧ K + sK.1.length ≤ s.1.length + 1 ∧ sK.1.length ≤ n0 ∧ Hid (listP nameS m s = (acc ++ (tlS nameS m n0 sK).1, (tlS nameS m n0 sK).2)) ∧ Hid (Nx w q p g d wr gK sK) ∧ Hid (Rw w wr p gK 28 2 v' K (flatG encW acc)))
  case atStart =>
    obtain ⟨n0, i1, i2⟩ := inv.out
    exact ⟨1, [(x0, x1)], s1, g1, n0, _, rfl, rfl, rfl, by have := gn.2; omega, i1, Lib.hid i2, n, rw1⟩
  case round =>
    clear n rw1 inv
    obtain ⟨K, acc, sK, gK, n0, v, rfl, rfl, rfl, e1, e2, e3, n, rw1⟩ := hrel
    replace n := n.out
    replace rw1 := rw1.out
    have b0 := n.ps.b0
    have okK := n.ps.ok
    go_wp2_with fail
    refine may_calls sK m q p gK d _ n.ps _ (Lib.hid fun w2 n2 => ?_)
    replace rw1 := rw1.nx n2 lp
    replace n := n.trans n2
    clear n2 b0
    cases hm : (mayS sK m).2
    · rw [tl_no hm, List.append_nil] at e3
      rw [may_no hm] at n
      have fin := Lib.hid (hR2.out _ _ v acc sK e3.out n (ownEmp rw1.own))
      clear hR2 n rw1 e3 okK
      go_wp2_with fail
      exact fin.out
    · have okm := may_ok (m := m) okK
      have lt := may_lt (EndL.ne okK) hm
      obtain ⟨n1, rfl⟩ : ∃ n1, n0 = n1 + 1 := ⟨n0 - 1, by omega⟩
      replace e3 := e3.out
      rw [tl_yes hm] at e3
      generalize (mayS sK m).1 = s3 at *
      have gn3 := gd_name s3 okm
      have b0 := n.ps.b0
      go_wp2_with fail
      refine nameK_calls s3 q p gK d _ n.ps _ (Lib.hid fun w3 g3 n3 => ?_)
      replace rw1 := rw1.nx n3 lp
      replace n := n.trans n3
      clear n3 b0
      generalize (nameS s3).1 = y at *
      generalize (nameS s3).2 = s4 at *
      obtain ⟨y0, y1⟩ := y
      have own2 := Lib.hid rw1.own
      have hsz : w.heap.size ≤ w3.heap.size := n.gr.size
      have lg := n.ps.cur.lg
      go_wp2_with (at_builtin; go_loud (refine appKF w3 #[.string y0, .int .i64 y1] 2 28 rfl _ _ 23 rfl w.heap.size ti (.agg #[.string ⟨#[]⟩, .int .i64 0]) 24 Tryz.underlying23 hI hz0 hz1 hz2 rfl (by decide) rfl _ acc.length (flatG encW acc) rfl own2.out _ rfl rfl (by simp [Value.oneCell']) (by unfold maxLen; omega) (by omega) hsz ?_); rintro v' w4 hown4 hg4 hb4 hfr)
      have nA := n.app h rw1 (.cells #[.string y0, .int .i64 y1] 28) hg4
      have rwA : Rw w w4 p g3 28 2 v' (acc ++ [(y0, y1)]).length (flatG encW (acc ++ [(y0, y1)])) := ⟨by rw [flatG_snoc, List.length_append]; exact hown4, fun b hb q => by
        subst q
        rcases hfr with e | e
        · rw [e] at hb; exact rw1.ne _ hb rfl
        · rw [e] at hb
          simp only [Option.some.injEq] at hb
          omega⟩
      have eA : listP nameS m s = (acc ++ [(y0, y1)] ++ (tlS nameS m n1 s4).1, (tlS nameS m n1 s4).2) := by rw [e3, List.append_assoc]; rfl
      replace nA := Lib.hid nA
      replace rwA := Lib.hid rwA
      replace eA := Lib.hid eA
      have l4 : (acc ++ [(y0, y1)]).length = acc.length + 1 := by simp
      clear own2 rw1 n e3 hfr hg4 hb4 hown4 hR2
      go_wp2_with fail
      go_roundg s4.1.length
      case measure => omega
      case rel => exact ⟨_, acc ++ [(y0, y1)], s4, g3, n1, v', rfl, rfl, rfl, by omega, by omega, eA, nA, rwA⟩
end Go.Proofs.YthelhplcijhioaaGreat.Syn

/- Layer 16, the code: lists of names, a label, a coarse view. -/
set_option maxRecDepth 100000
set_option linter.unusedVariables false
namespace Go.Proofs.YthelhplcijhioaaGreat.Syn
open Go.RowKit Go.Lib Go.Proofs.YthelhplcijhioaaGreat.Utf Go.Proofs.YthelhplcijhioaaGreat.Tok Go.Proofs.YthelhplcijhioaaGreat.Cur Go.Proofs.YthelhplcijhioaaGreat.Nam Go.Proofs.YthelhplcijhioaaGreat.Lat Go.Proofs.YthelhplcijhioaaGreat.Kin

theorem RdW.none0 (w : World) : RdW w (.slice none 0 0) [] := RdG.none0 _ _ _
theorem Nx.nt {w V V' : World} {q p g0 g g' C : Nat} {d d0 : Int} {s s0 s' : PS} (n : Nx w q p g0 d V g s) (nt : Nt C V q p g d V' g' s') (hC : w.heap.size ≤ C) (h : PsG w q p g0 d0 s0) : Nx w q p g0 d V' g' s' := by
  have l := n.gr.size
  refine ⟨?_, nt.ps, ((Ch.gr (T := (· = p)) n.gr rfl).trans nt.ch fun k hk e => ?_).one⟩
  · rcases nt.g with rfl | e
    · exact n.g
    · exact .inr (Nat.le_trans l e)
  · rcases e with e | e
    · exact e
    · omega
theorem Bx.nt {w V V' : World} {q p g g' B C : Nat} {d : Int} {s' : PS} {cs : Array Value} {t : TypeId} (b : Bx w V p g B cs t) (nt : Nt C V q p g d V' g' s') (hB : B ≠ C) (lp : p < w.heap.size) : Bx w V' p g' B cs t := by
  have l := b.lt
  have o := b.lo
  refine ⟨(nt.ch.block _ l (by rintro (e | e) <;> omega)).trans b.at_, o, ?_⟩
  rcases nt.g with rfl | h
  · exact b.ne
  · omega
theorem Bx.ntc {w V V' : World} {q p g g' B C : Nat} {d : Int} {s' : PS} {cs cs' : Array Value} {t t' : TypeId} (b : Bx w V p g B cs t) (nt : Nt C V q p g d V' g' s') (h : V'.heap[B]? = some (.cells cs' t')) : Bx w V' p g' B cs' t' := by
  have l := b.lt
  refine ⟨h, b.lo, ?_⟩
  rcases nt.g with rfl | h
  · exact b.ne
  · omega
theorem isF_coarse1 : IsF 150 := by
  intro args w
  unfold callFunc
  simp [go_sem, Tryz.func150]
  rfl
theorem isF_coarse2 : IsF 151 := by
  intro args w
  unfold callFunc
  simp [go_sem, Tryz.func151]
  rfl
theorem run_field1 (t0 t1 t2 : Int) (t3 : ByteArray) (t4 : Int) (w : World) : (Instr.field 76 (.agg #[.int .i64 t0, .int .i64 t1, .int .i64 t2, .string t3, .int .i64 t4]) 1).run Tryz.prog w = .ok (.int .i64 t1) w := by
  simp [Instr.field, run_underlying Tryz.underlying76, part, asAgg, Tryz.isAgg3, go_sem]
theorem word_no {p : PS} {m : ByteArray} (h : (wordS p m).2 = false) : (wordS p m).1 = p := by
  unfold wordS at *
  split at h
  · cases h
  · rename_i c
    rw [if_neg c]
set_option maxRecDepth 100000 in
set_option maxHeartbeats 2000000 in
theorem listW_calls (s : PS) (q p g : Nat) (d : Int) (w : World) (h : PsG w q p g d s) (hl : s.1.length ≤ 1000000) (R : Ending → World → Prop)
    (hR : Hid (∀ w' g' v, Nx w q p g d w' g' (listP nameS comma s).2 → RdW (empW (lowS w.heap.size) w') v (listP nameS comma s).1 → R (.returned v) w')) : Calls Tryz.prog 34 #[ptV q, .func (.func 35) #[ptV q] #[]] w R := by
  go_enter Tryz.func34, Tryz.ntmps34
  go_wp2_with fail
  refine sepW_calls comma s q p g d w h hl _ (Lib.hid fun w1 g1 v n1 r1 => ?_)
  have fin := Lib.hid (hR.out w1 g1 v n1 r1)
  clear hR n1 r1
  go_wp2_with fail
  exact fin.out
set_option maxRecDepth 100000 in
set_option maxHeartbeats 2000000 in
theorem label_calls (s : PS) (q p g : Nat) (d : Int) (w : World) (h : PsG w q p g d s) (hl : s.1.length ≤ 1000000) (R : Ending → World → Prop)
    (hR : Hid (∀ w' g' v, Nx w q p g d w' g' (labelC s).2 → RdW (empW (lowS w.heap.size) w') v (labelC s).1 → R (.returned v) w')) : Calls Tryz.prog 135 #[ptV q] w R := by
  have b0 := h.b0
  have hmf : ∀ (fn : Fn) (first cap : Array Value) (w : World), (Instr.makeFunc fn first cap).run Tryz.prog w = .ok (.func fn first cap) w := fun _ _ _ _ => rfl
  have hq : labelC s = if (mayS s atS).2 = true then listP nameS plus (mayS s atS).1 else ([], (mayS s atS).1) := rfl
  rw [hq] at hR
  have ml := may_len s atS
  clear hq
  go_enter Tryz.func135, Tryz.ntmps135
  go_wp2_with fail
  refine may_calls s atS q p g d w h _ (Lib.hid fun w1 n1 => ?_)
  clear b0
  generalize (mayS s atS).1 = s1 at *
  cases hm : (mayS s atS).2
  · rw [hm, if_neg (by decide)] at hR
    have fin := Lib.hid (hR.out w1 g _ n1 (RdW.none0 _))
    clear hR n1
    go_wp2_with fail
    exact fin.out
  · rw [hm, if_pos rfl] at hR
    go_wp2_with fail
    refine sepW_calls plus s1 q p g d w1 n1.ps (by omega) _ (Lib.hid fun w2 g2 v n2 r2 => ?_)
    have fin := Lib.hid (hR.out w2 g2 v (n1.trans n2) (r2.kp (emp_kp (Nat.le_refl _) fun k hk nk => ⟨by have := n1.gr.size; unfold lowS at *; omega, rfl⟩)))
    clear hR n1 n2 r2
    go_wp2_with fail
    exact fin.out
set_option maxRecDepth 100000 in
set_option maxHeartbeats 2000000 in
theorem coarse1_calls (s : PS) (q p g a C : Nat) (z0 z1 z2 z3 : Value) (d : Int) (w : World) (h : PsG w q p g d s) (ha : w.heap[a]? = some (.cells #[ptV q] 46)) (hC : w.heap[C]? = some (.cells #[z0, z1, z2, z3] 69)) (nC : C ≠ q ∧ C ≠ p ∧ g ≠ C) (R : Ending → World → Prop)
    (hR : Hid (∀ w' g', Nt C w q p g d w' g' (intS s).2 → w'.heap[C]? = some (.cells #[z0, .int .i64 (intS s).1, z2, z3] 69) → R (.returned (.tuple #[])) w')) : Calls Tryz.prog 150 #[ptV a, ptV C] w R := by
  have a0 := (Lib.cell_of_heap ha 0).trans rfl
  have lC := bltK hC
  obtain ⟨c1, c2, c3⟩ := nC
  go_enter Tryz.func150, Tryz.ntmps150
  go_wp2_with fail
  refine number_calls s q p g d w h _ (Lib.hid fun w1 g1 n1 => ?_)
  replace hC := (n1.gr.block C lC (fun e => by simp only [Option.some.injEq] at e; omega)).trans hC
  have y1 := (Lib.cell_of_heap hC 1).trans rfl
  have yf1 := Lib.frozen_of_heap hC 1
  have g1C : g1 ≠ C := by rcases n1.g with rfl | e <;> omega
  have fin := Lib.hid (hR.out _ g1 ⟨n1.g, n1.ps.set c1.symm c2.symm g1C 1 (.int .i64 (intS s).1), (Ch.gr (T := fun k => k = p ∨ k = C) n1.gr (.inl rfl)).set (fun _ => .inr rfl) 1 _⟩ (satK hC 1 (.int .i64 (intS s).1)))
  clear hR n1 a0 ha h
  go_wp2_with fail
  first | refine bodyPost_ret ?_ rfl fin.out | refine bodyPost_end ?_ rfl fin.out
  simp [results, Tryz.results150, go_sem]
set_option maxRecDepth 100000 in
set_option maxHeartbeats 2000000 in
theorem coarse2_calls (s : PS) (q p g a C : Nat) (z0 z1 z2 z3 : Value) (d : Int) (w : World) (h : PsG w q p g d s) (ha : w.heap[a]? = some (.cells #[ptV q] 46)) (hC : w.heap[C]? = some (.cells #[z0, z1, z2, z3] 69)) (nC : C ≠ q ∧ C ≠ p ∧ g ≠ C) (R : Ending → World → Prop)
    (hR : Hid (∀ w' g', Nt C w q p g d w' g' (intS s).2 → w'.heap[C]? = some (.cells #[z0, .int .i64 (intS s).1, z2, z3] 69) → R (.returned (.tuple #[])) w')) : Calls Tryz.prog 151 #[ptV a, ptV C] w R := by
  have a0 := (Lib.cell_of_heap ha 0).trans rfl
  have lC := bltK hC
  obtain ⟨c1, c2, c3⟩ := nC
  go_enter Tryz.func151, Tryz.ntmps151
  go_wp2_with fail
  refine number_calls s q p g d w h _ (Lib.hid fun w1 g1 n1 => ?_)
  replace hC := (n1.gr.block C lC (fun e => by simp only [Option.some.injEq] at e; omega)).trans hC
  have y1 := (Lib.cell_of_heap hC 1).trans rfl
  have yf1 := Lib.frozen_of_heap hC 1
  have g1C : g1 ≠ C := by rcases n1.g with rfl | e <;> omega
  have fin := Lib.hid (hR.out _ g1 ⟨n1.g, n1.ps.set c1.symm c2.symm g1C 1 (.int .i64 (intS s).1), (Ch.gr (T := fun k => k = p ∨ k = C) n1.gr (.inl rfl)).set (fun _ => .inr rfl) 1 _⟩ (satK hC 1 (.int .i64 (intS s).1)))
  clear hR n1 a0 ha h
  go_wp2_with fail
  first | refine bodyPost_ret ?_ rfl fin.out | refine bodyPost_end ?_ rfl fin.out
  simp [results, Tryz.results151, go_sem]
set_option maxRecDepth 100000 in
set_option maxHeartbeats 2000000 in
theorem coarseK_calls (s : PS) (q p g : Nat) (d : Int) (w : World) (h : PsG w q p g d s) (hl : s.1.length ≤ 1000000) (R : Ending → World → Prop)
    (hR : Hid (∀ w' g' v, Nx w q p g d w' g' (coaC s).2 → RdW (empW (lowS w.heap.size) w') v (coaC s).1.2.2.2 → R (.returned (.agg #[.int .i64 (coaC s).1.1, .int .i64 (coaC s).1.2.1, .int .i64 (coaC s).1.2.2.1, v])) w')) : Calls Tryz.prog 136 #[ptV q] w R := by
  have lp := h.cur.lt
  have hmf : ∀ (fn : Fn) (first cap : Array Value) (w : World), (Instr.makeFunc fn first cap).run Tryz.prog w = .ok (.func fn first cap) w := fun _ _ _ _ => rfl
  have hq : coaC s = (((coaK s).1.1, (coaK s).1.2, (pkS s).2.1, (labelC (coaK s).2).1), (labelC (coaK s).2).2) := rfl
  have gk := gd_coaK s h.ok
  have kk : coaK s = if (wordS s sFloor).2 = true then ((1, (numS (wordS s sFloor).1).1), (numS (wordS s sFloor).1).2) else if (wordS s sFirst).2 = true then ((2, (numS (wordS s sFirst).1).1), (numS (wordS s sFirst).1).2) else if (wordS s sCount).2 = true then ((3, 0), (wordS s sCount).1) else ((0, 0), rstS s) := rfl
  rw [hq] at hR
  simp only at hR
  clear hq
  have n := (Nx.rfl' h).alloc (.cells #[ptV q] 46)
  have bA := Bx.new (Nx.rfl' h) #[ptV q] 46
  have bR := Bx.new n #[.int .i64 0, .int .i64 0, .int .i64 0, .slice none 0 0] 69
  replace n := n.alloc (.cells #[.int .i64 0, .int .i64 0, .int .i64 0, .slice none 0 0] 69)
  replace bA := bA.alloc (.cells #[.int .i64 0, .int .i64 0, .int .i64 0, .slice none 0 0] 69)
  have zR : (w.alloc (.cells #[ptV q] 46)).heap.size = w.heap.size + 1 := by simp
  rw [zR] at bR
  go_enter Tryz.func136, Tryz.ntmps136
  go_upto_region 1 with fail
  generalize (w.alloc (.cells #[ptV q] 46)).alloc (.cells #[.int .i64 0, .int .i64 0, .int .i64 0, .slice none 0 0] 69) = V at *
  clear zR
  have a0 := (bA.c 0).trans rfl
  have b0 := n.ps.b0
  go_wp2_with fail
  refine pk_calls s q p g d V n.ps _ (Lib.hid fun w1 n1 m1 => ?_)
  replace bA := bA.nx n1 lp
  replace bR := bR.nx n1 lp
  replace n := n.trans n1
  clear n1 m1 b0 a0
  have hn1 := fun w => run_field1 (pkS s).1 (pkS s).2.1 (pkS s).2.2.1 (pkS s).2.2.2.1 (pkS s).2.2.2.2 w
  simp only [tkV]
  generalize (pkS s).2.1 = at0 at *
  have lC : w.heap.size + 1 < w1.heap.size := bR.lt
  have bC := Bx.new n #[.int .i64 0, .int .i64 0, .int .i64 at0, .slice none 0 0] 69
  replace bA := bA.alloc (.cells #[.int .i64 0, .int .i64 0, .int .i64 at0, .slice none 0 0] 69)
  replace bR := bR.alloc (.cells #[.int .i64 0, .int .i64 0, .int .i64 at0, .slice none 0 0] 69)
  replace n := n.alloc (.cells #[.int .i64 0, .int .i64 0, .int .i64 at0, .slice none 0 0] 69)

  go_upto_region 3 with fail
  clear hn1
  generalize w1.alloc (.cells #[.int .i64 0, .int .i64 0, .int .i64 at0, .slice none 0 0] 69) = V1 at *
  generalize w1.heap.size = C at *
  have a0 := (bA.c 0).trans rfl
  have b0 := n.ps.b0
  go_wp2_with fail
  refine wordK_calls s sFloor q p g d _ n.ps _ (Lib.hid fun w2 n2 => ?_)
  replace bA := bA.nx n2 lp
  replace bR := bR.nx n2 lp
  replace bC := bC.nx n2 lp
  replace n := n.trans n2
  clear n2 a0 b0
  cases hw1 : (wordS s sFloor).2
  · rw [word_no hw1] at n
    rw [hw1, if_neg (by decide)] at kk
    clear hw1
    have a0 := (bA.c 0).trans rfl
    have b0 := n.ps.b0
    go_wp2_with fail
    refine wordK_calls s sFirst q p g d _ n.ps _ (Lib.hid fun w3 n3 => ?_)
    replace bA := bA.nx n3 lp
    replace bR := bR.nx n3 lp
    replace bC := bC.nx n3 lp
    replace n := n.trans n3
    clear n3 a0 b0
    cases hw2 : (wordS s sFirst).2
    · rw [word_no hw2] at n
      rw [hw2, if_neg (by decide)] at kk
      clear hw2
      have a0 := (bA.c 0).trans rfl
      have b0 := n.ps.b0
      go_wp2_with fail
      refine wordK_calls s sCount q p g d _ n.ps _ (Lib.hid fun w4 n4 => ?_)
      replace bA := bA.nx n4 lp
      replace bR := bR.nx n4 lp
      replace bC := bC.nx n4 lp
      replace n := n.trans n4
      clear n4 a0 b0
      cases hw3 : (wordS s sCount).2
      · rw [word_no hw3] at n
        rw [hw3, if_neg (by decide)] at kk
        clear hw3
        rw [kk] at hR gk
        simp only at hR gk
        clear kk
        have a0 := (bA.c 0).trans rfl
        go_wp2_with fail
        refine refuseStart_calls s q p g d _ n.ps _ (Lib.hid fun w6 g6 n6 => ?_)
        replace bA := bA.nx n6 lp
        replace bR := bR.nx n6 lp
        replace bC := bC.nx n6 lp
        replace n := n.trans n6
        clear n6 a0
        generalize rstS s = s3 at *
        have a0 := (bA.c 0).trans rfl
        have lV := bC.lt
        have lVR := bR.lt
        go_wp2_with fail
        refine label_calls _ q p _ d _ n.ps (by omega) _ (Lib.hid fun w8 g8 v n8 r8 => ?_)
        obtain ⟨A8, c8, rfl, -, -⟩ := r8.op
        replace bA := bA.nx n8 lp
        replace bR := bR.nx n8 lp
        replace bC := bC.nx n8 lp
        replace n := n.trans n8
        have hsz := n8.gr.size
        clear n8 a0
        have y3 := (bC.c 3).trans rfl
        have yf3 := Lib.frozen_of_heap bC.at_ 3
        have kp := (((((Ch.bl (T := fun k => k = C ∨ k = w.heap.size + 1) (Below.refl _ w8)).set (b := C) (fun _ => .inl rfl) 3 (.slice A8 (labelC s3).1.length c8)).set (b := w.heap.size + 1) (fun _ => .inr rfl) 0 (.int .i64 (0))).set (b := w.heap.size + 1) (fun _ => .inr rfl) 1 (.int .i64 (0))).set (b := w.heap.size + 1) (fun _ => .inr rfl) 2 (.int .i64 at0)).set (b := w.heap.size + 1) (fun _ => .inr rfl) 3 (.slice A8 (labelC s3).1.length c8)
        replace r8 := r8.kp (kp.kp (b0 := w.heap.size) (fun k h1 _ h2 => by omega) (by omega))
        replace n := n.setb bC h 3 (.slice A8 (labelC s3).1.length c8)
        replace bR := bR.setn (by omega) 3 (.slice A8 (labelC s3).1.length c8) (C := C)
        replace bC := bC.set 3 (.slice A8 (labelC s3).1.length c8)
        have fin := Lib.hid (hR.out _ _ _ ((((n.setb bR h 0 (.int .i64 (0))).setb (bR.set 0 _) h 1 (.int .i64 (0))).setb ((bR.set 0 _).set 1 _) h 2 (.int .i64 at0)).setb (((bR.set 0 _).set 1 _).set 2 _) h 3 (.slice A8 (labelC s3).1.length c8)) r8)
        clear hR h kp r8 n
        go_upto_region 12 with fail
        generalize w8.setCell ⟨C, 3, none⟩ (.slice A8 (labelC s3).1.length c8) = V8 at *
        clear y3 yf3
        have y0 := (bC.c 0).trans rfl
        have y1 := (bC.c 1).trans rfl
        have y2 := (bC.c 2).trans rfl
        have y3 := (bC.c 3).trans rfl
        have x0 := (bR.c 0).trans rfl
        have x1 := (bR.c 1).trans rfl
        have x2 := (bR.c 2).trans rfl
        have x3 := (bR.c 3).trans rfl
        have xf0 := Lib.frozen_of_heap bR.at_ 0
        have xf1 := Lib.frozen_of_heap bR.at_ 1
        have xf2 := Lib.frozen_of_heap bR.at_ 2
        have xf3 := Lib.frozen_of_heap bR.at_ 3
        clear bR bC bA
        go_wp2_with fail
        first | refine bodyPost_ret ?_ rfl fin.out | refine bodyPost_end ?_ rfl fin.out
        simp [results, Tryz.results136, go_sem, x0, x1, x2, x3]
      · rw [hw3, if_pos rfl] at kk
        clear hw3
        rw [kk] at hR gk
        simp only at hR gk
        clear kk
        have a0 := (bA.c 0).trans rfl
        have y0 := (bC.c 0).trans rfl
        have yf0 := Lib.frozen_of_heap bC.at_ 0
        generalize (wordS s sCount).1 = s3 at *
        replace n := n.setb bC h 0 (.int .i64 3)
        replace bA := bA.setn (by omega) 0 (.int .i64 3) (C := C)
        replace bR := bR.setn (by omega) 0 (.int .i64 3) (C := C)
        replace bC := bC.set 0 (.int .i64 3)
        go_upto_region 11 with fail
        generalize w4.setCell ⟨C, 0, none⟩ (.int .i64 3) = V2 at *
        clear y0 yf0 a0
        have a0 := (bA.c 0).trans rfl
        have lV := bC.lt
        have lVR := bR.lt
        go_wp2_with fail
        refine label_calls _ q p _ d _ n.ps (by omega) _ (Lib.hid fun w8 g8 v n8 r8 => ?_)
        obtain ⟨A8, c8, rfl, -, -⟩ := r8.op
        replace bA := bA.nx n8 lp
        replace bR := bR.nx n8 lp
        replace bC := bC.nx n8 lp
        replace n := n.trans n8
        have hsz := n8.gr.size
        clear n8 a0
        have y3 := (bC.c 3).trans rfl
        have yf3 := Lib.frozen_of_heap bC.at_ 3
        have kp := (((((Ch.bl (T := fun k => k = C ∨ k = w.heap.size + 1) (Below.refl _ w8)).set (b := C) (fun _ => .inl rfl) 3 (.slice A8 (labelC s3).1.length c8)).set (b := w.heap.size + 1) (fun _ => .inr rfl) 0 (.int .i64 (3))).set (b := w.heap.size + 1) (fun _ => .inr rfl) 1 (.int .i64 (0))).set (b := w.heap.size + 1) (fun _ => .inr rfl) 2 (.int .i64 at0)).set (b := w.heap.size + 1) (fun _ => .inr rfl) 3 (.slice A8 (labelC s3).1.length c8)
        replace r8 := r8.kp (kp.kp (b0 := w.heap.size) (fun k h1 _ h2 => by omega) (by omega))
        replace n := n.setb bC h 3 (.slice A8 (labelC s3).1.length c8)
        replace bR := bR.setn (by omega) 3 (.slice A8 (labelC s3).1.length c8) (C := C)
        replace bC := bC.set 3 (.slice A8 (labelC s3).1.length c8)
        have fin := Lib.hid (hR.out _ _ _ ((((n.setb bR h 0 (.int .i64 (3))).setb (bR.set 0 _) h 1 (.int .i64 (0))).setb ((bR.set 0 _).set 1 _) h 2 (.int .i64 at0)).setb (((bR.set 0 _).set 1 _).set 2 _) h 3 (.slice A8 (labelC s3).1.length c8)) r8)
        clear hR h kp r8 n
        go_upto_region 12 with fail
        generalize w8.setCell ⟨C, 3, none⟩ (.slice A8 (labelC s3).1.length c8) = V8 at *
        clear y3 yf3
        have y0 := (bC.c 0).trans rfl
        have y1 := (bC.c 1).trans rfl
        have y2 := (bC.c 2).trans rfl
        have y3 := (bC.c 3).trans rfl
        have x0 := (bR.c 0).trans rfl
        have x1 := (bR.c 1).trans rfl
        have x2 := (bR.c 2).trans rfl
        have x3 := (bR.c 3).trans rfl
        have xf0 := Lib.frozen_of_heap bR.at_ 0
        have xf1 := Lib.frozen_of_heap bR.at_ 1
        have xf2 := Lib.frozen_of_heap bR.at_ 2
        have xf3 := Lib.frozen_of_heap bR.at_ 3
        clear bR bC bA
        go_wp2_with fail
        first | refine bodyPost_ret ?_ rfl fin.out | refine bodyPost_end ?_ rfl fin.out
        simp [results, Tryz.results136, go_sem, x0, x1, x2, x3]
    · rw [hw2, if_pos rfl] at kk
      clear hw2
      rw [kk] at hR gk
      simp only at hR gk
      clear kk
      have a0 := (bA.c 0).trans rfl
      have y0 := (bC.c 0).trans rfl
      have yf0 := Lib.frozen_of_heap bC.at_ 0
      generalize (wordS s sFirst).1 = s2 at *
      have cI := fun (V : World) (bA : Bx w V p g w.heap.size #[ptV q] 46) (bC : Bx w V p g C #[.int .i64 2, .int .i64 0, .int .i64 at0, .slice none 0 0] 69) (n : Nx w q p g d V g s2) => Lib.hid fun R hR => inside_calls 151 isF_coarse2 #[ptV w.heap.size, ptV C] C lpar rpar s2 (intS (markS s2 lpar)).2 q p g d V n.ps (fun _ W' => W'.heap[C]? = some (.cells #[.int .i64 2, .int .i64 (intS (markS s2 lpar)).1, .int .i64 at0, .slice none 0 0] 69)) (Lib.hid fun W g1 m1 R hR => coarse2_calls _ q p g1 w.heap.size C _ _ _ _ d W m1.ps (bA.nx m1 lp).at_ (bC.nx m1 lp).at_ ⟨by have := h.ql; omega, by omega, (bC.nx m1 lp).ne⟩ R (Lib.hid fun W' g2 t e => hR.out W' g2 t e)) R hR
      have fI := fun V bA bC n => cI V bA bC n
      have n2 := n.setb bC h 0 (.int .i64 2)
      have bA2 := bA.setn (by omega) 0 (.int .i64 2) (C := C)
      have bR2 := bR.setn (by omega) 0 (.int .i64 2) (C := C)
      have bC2 := bC.set 0 (.int .i64 2)
      have cI2 := cI _ bA2 bC2 n2
      clear cI fI n bA bR bC
      have a0 := (bA2.c 0).trans rfl
      go_upto_region 8 with fail
      generalize w3.setCell ⟨C, 0, none⟩ (.int .i64 2) = V2 at *
      clear y0 yf0
      go_wp2_with fail
      refine cI2.out _ (Lib.hid fun W1 W2 W3 g1 g2 g3 m1 t1 q1 m3 => ?_)
      have bA := ((bA2.nx m1 lp).nt t1 (by omega) lp).nx m3 lp
      have bR := ((bR2.nx m1 lp).nt t1 (by omega) lp).nx m3 lp
      have bC := ((bC2.nx m1 lp).ntc t1 q1).nx m3 lp
      have n := ((n2.trans m1).nt t1 (by omega) h).trans m3
      clear n2 bA2 bR2 bC2 cI2 m1 t1 q1 m3 a0
      have eN : numS s2 = ((intS (markS s2 lpar)).1, markS (intS (markS s2 lpar)).2 rpar) := rfl
      rw [eN] at hR gk
      simp only at hR gk
      clear eN
      generalize (intS (markS s2 lpar)).1 = nn at *
      generalize markS (intS (markS s2 lpar)).2 rpar = s3 at *
      have a0 := (bA.c 0).trans rfl
      have lV := bC.lt
      have lVR := bR.lt
      go_wp2_with fail
      refine label_calls _ q p _ d _ n.ps (by omega) _ (Lib.hid fun w8 g8 v n8 r8 => ?_)
      obtain ⟨A8, c8, rfl, -, -⟩ := r8.op
      replace bA := bA.nx n8 lp
      replace bR := bR.nx n8 lp
      replace bC := bC.nx n8 lp
      replace n := n.trans n8
      have hsz := n8.gr.size
      clear n8 a0
      have y3 := (bC.c 3).trans rfl
      have yf3 := Lib.frozen_of_heap bC.at_ 3
      have kp := (((((Ch.bl (T := fun k => k = C ∨ k = w.heap.size + 1) (Below.refl _ w8)).set (b := C) (fun _ => .inl rfl) 3 (.slice A8 (labelC s3).1.length c8)).set (b := w.heap.size + 1) (fun _ => .inr rfl) 0 (.int .i64 (2))).set (b := w.heap.size + 1) (fun _ => .inr rfl) 1 (.int .i64 (nn))).set (b := w.heap.size + 1) (fun _ => .inr rfl) 2 (.int .i64 at0)).set (b := w.heap.size + 1) (fun _ => .inr rfl) 3 (.slice A8 (labelC s3).1.length c8)
      replace r8 := r8.kp (kp.kp (b0 := w.heap.size) (fun k h1 _ h2 => by omega) (by omega))
      replace n := n.setb bC h 3 (.slice A8 (labelC s3).1.length c8)
      replace bR := bR.setn (by omega) 3 (.slice A8 (labelC s3).1.length c8) (C := C)
      replace bC := bC.set 3 (.slice A8 (labelC s3).1.length c8)
      have fin := Lib.hid (hR.out _ _ _ ((((n.setb bR h 0 (.int .i64 (2))).setb (bR.set 0 _) h 1 (.int .i64 (nn))).setb ((bR.set 0 _).set 1 _) h 2 (.int .i64 at0)).setb (((bR.set 0 _).set 1 _).set 2 _) h 3 (.slice A8 (labelC s3).1.length c8)) r8)
      clear hR h kp r8 n
      go_upto_region 12 with fail
      generalize w8.setCell ⟨C, 3, none⟩ (.slice A8 (labelC s3).1.length c8) = V8 at *
      clear y3 yf3
      have y0 := (bC.c 0).trans rfl
      have y1 := (bC.c 1).trans rfl
      have y2 := (bC.c 2).trans rfl
      have y3 := (bC.c 3).trans rfl
      have x0 := (bR.c 0).trans rfl
      have x1 := (bR.c 1).trans rfl
      have x2 := (bR.c 2).trans rfl
      have x3 := (bR.c 3).trans rfl
      have xf0 := Lib.frozen_of_heap bR.at_ 0
      have xf1 := Lib.frozen_of_heap bR.at_ 1
      have xf2 := Lib.frozen_of_heap bR.at_ 2
      have xf3 := Lib.frozen_of_heap bR.at_ 3
      clear bR bC bA
      go_wp2_with fail
      first | refine bodyPost_ret ?_ rfl fin.out | refine bodyPost_end ?_ rfl fin.out
      simp [results, Tryz.results136, go_sem, x0, x1, x2, x3]
  · rw [hw1, if_pos rfl] at kk
    clear hw1
    rw [kk] at hR gk
    simp only at hR gk
    clear kk
    have a0 := (bA.c 0).trans rfl
    have y0 := (bC.c 0).trans rfl
    have yf0 := Lib.frozen_of_heap bC.at_ 0
    generalize (wordS s sFloor).1 = s2 at *
    have cI := fun (V : World) (bA : Bx w V p g w.heap.size #[ptV q] 46) (bC : Bx w V p g C #[.int .i64 1, .int .i64 0, .int .i64 at0, .slice none 0 0] 69) (n : Nx w q p g d V g s2) => Lib.hid fun R hR => inside_calls 150 isF_coarse1 #[ptV w.heap.size, ptV C] C lpar rpar s2 (intS (markS s2 lpar)).2 q p g d V n.ps (fun _ W' => W'.heap[C]? = some (.cells #[.int .i64 1, .int .i64 (intS (markS s2 lpar)).1, .int .i64 at0, .slice none 0 0] 69)) (Lib.hid fun W g1 m1 R hR => coarse1_calls _ q p g1 w.heap.size C _ _ _ _ d W m1.ps (bA.nx m1 lp).at_ (bC.nx m1 lp).at_ ⟨by have := h.ql; omega, by omega, (bC.nx m1 lp).ne⟩ R (Lib.hid fun W' g2 t e => hR.out W' g2 t e)) R hR
    have fI := fun V bA bC n => cI V bA bC n
    have n2 := n.setb bC h 0 (.int .i64 1)
    have bA2 := bA.setn (by omega) 0 (.int .i64 1) (C := C)
    have bR2 := bR.setn (by omega) 0 (.int .i64 1) (C := C)
    have bC2 := bC.set 0 (.int .i64 1)
    have cI2 := cI _ bA2 bC2 n2
    clear cI fI n bA bR bC
    have a0 := (bA2.c 0).trans rfl
    go_upto_region 5 with fail
    generalize w2.setCell ⟨C, 0, none⟩ (.int .i64 1) = V2 at *
    clear y0 yf0
    go_wp2_with fail
    refine cI2.out _ (Lib.hid fun W1 W2 W3 g1 g2 g3 m1 t1 q1 m3 => ?_)
    have bA := ((bA2.nx m1 lp).nt t1 (by omega) lp).nx m3 lp
    have bR := ((bR2.nx m1 lp).nt t1 (by omega) lp).nx m3 lp
    have bC := ((bC2.nx m1 lp).ntc t1 q1).nx m3 lp
    have n := ((n2.trans m1).nt t1 (by omega) h).trans m3
    clear n2 bA2 bR2 bC2 cI2 m1 t1 q1 m3 a0
    have eN : numS s2 = ((intS (markS s2 lpar)).1, markS (intS (markS s2 lpar)).2 rpar) := rfl
    rw [eN] at hR gk
    simp only at hR gk
    clear eN
    generalize (intS (markS s2 lpar)).1 = nn at *
    generalize markS (intS (markS s2 lpar)).2 rpar = s3 at *
    have a0 := (bA.c 0).trans rfl
    have lV := bC.lt
    have lVR := bR.lt
    go_wp2_with fail
    refine label_calls _ q p _ d _ n.ps (by omega) _ (Lib.hid fun w8 g8 v n8 r8 => ?_)
    obtain ⟨A8, c8, rfl, -, -⟩ := r8.op
    replace bA := bA.nx n8 lp
    replace bR := bR.nx n8 lp
    replace bC := bC.nx n8 lp
    replace n := n.trans n8
    have hsz := n8.gr.size
    clear n8 a0
    have y3 := (bC.c 3).trans rfl
    have yf3 := Lib.frozen_of_heap bC.at_ 3
    have kp := (((((Ch.bl (T := fun k => k = C ∨ k = w.heap.size + 1) (Below.refl _ w8)).set (b := C) (fun _ => .inl rfl) 3 (.slice A8 (labelC s3).1.length c8)).set (b := w.heap.size + 1) (fun _ => .inr rfl) 0 (.int .i64 (1))).set (b := w.heap.size + 1) (fun _ => .inr rfl) 1 (.int .i64 (nn))).set (b := w.heap.size + 1) (fun _ => .inr rfl) 2 (.int .i64 at0)).set (b := w.heap.size + 1) (fun _ => .inr rfl) 3 (.slice A8 (labelC s3).1.length c8)
    replace r8 := r8.kp (kp.kp (b0 := w.heap.size) (fun k h1 _ h2 => by omega) (by omega))
    replace n := n.setb bC h 3 (.slice A8 (labelC s3).1.length c8)
    replace bR := bR.setn (by omega) 3 (.slice A8 (labelC s3).1.length c8) (C := C)
    replace bC := bC.set 3 (.slice A8 (labelC s3).1.length c8)
    have fin := Lib.hid (hR.out _ _ _ ((((n.setb bR h 0 (.int .i64 (1))).setb (bR.set 0 _) h 1 (.int .i64 (nn))).setb ((bR.set 0 _).set 1 _) h 2 (.int .i64 at0)).setb (((bR.set 0 _).set 1 _).set 2 _) h 3 (.slice A8 (labelC s3).1.length c8)) r8)
    clear hR h kp r8 n
    go_upto_region 12 with fail
    generalize w8.setCell ⟨C, 3, none⟩ (.slice A8 (labelC s3).1.length c8) = V8 at *
    clear y3 yf3
    have y0 := (bC.c 0).trans rfl
    have y1 := (bC.c 1).trans rfl
    have y2 := (bC.c 2).trans rfl
    have y3 := (bC.c 3).trans rfl
    have x0 := (bR.c 0).trans rfl
    have x1 := (bR.c 1).trans rfl
    have x2 := (bR.c 2).trans rfl
    have x3 := (bR.c 3).trans rfl
    have xf0 := Lib.frozen_of_heap bR.at_ 0
    have xf1 := Lib.frozen_of_heap bR.at_ 1
    have xf2 := Lib.frozen_of_heap bR.at_ 2
    have xf3 := Lib.frozen_of_heap bR.at_ 3
    clear bR bC bA
    go_wp2_with fail
    first | refine bodyPost_ret ?_ rfl fin.out | refine bodyPost_end ?_ rfl fin.out
    simp [results, Tryz.results136, go_sem, x0, x1, x2, x3]
end Go.Proofs.YthelhplcijhioaaGreat.Syn

/- Layer 16, the code: what stands behind a part's type. -/
set_option maxRecDepth 100000
set_option linter.unusedVariables false
namespace Go.Proofs.YthelhplcijhioaaGreat.Syn
open Go.RowKit Go.Lib Go.Proofs.YthelhplcijhioaaGreat.Utf Go.Proofs.YthelhplcijhioaaGreat.Tok Go.Proofs.YthelhplcijhioaaGreat.Cur Go.Proofs.YthelhplcijhioaaGreat.Nam Go.Proofs.YthelhplcijhioaaGreat.Lat Go.Proofs.YthelhplcijhioaaGreat.Kin

theorem Nx.to {w V : World} {q p g g' T : Nat} {d : Int} {s' : PS} (n : Nx w q p g d V g' s') : Nt T w q p g d V g' s' := ⟨n.g, n.ps, Ch.gr n.gr (.inl rfl)⟩
theorem Nt.nx {w V W : World} {q p g g1 g2 T : Nat} {d : Int} {s1 s2 : PS} (a : Nt T w q p g d V g1 s1) (b : Nx V q p g1 d W g2 s2) : Nt T w q p g d W g2 s2 :=
  ⟨by have := a.ch.size; rcases b.g with rfl | h; exact a.g; exact .inr (Nat.le_trans this h), b.ps, a.ch.trans (Ch.gr (T := fun k => k = p ∨ k = T) b.gr (.inl rfl)) fun _ _ e => e⟩
theorem Nt.far {w V : World} {q p g g1 T : Nat} {d : Int} {s1 : PS} (a : Nt T w q p g d V g1 s1) (l : T < w.heap.size) (h : g ≠ T) : g1 ≠ T := by rcases a.g with rfl | e <;> omega
theorem Nt.set {w V : World} {q p g g1 T : Nat} {d : Int} {s1 : PS} (a : Nt T w q p g d V g1 s1) (l : T < w.heap.size) (h : T ≠ q ∧ T ≠ p ∧ g ≠ T) (o : Nat) (v : Value) : Nt T w q p g d (V.setCell ⟨T, o, none⟩ v) g1 s1 :=
  ⟨a.g, a.ps.set h.1.symm h.2.1.symm (a.far l h.2.2) o v, a.ch.set (fun _ => .inr rfl) o v⟩
theorem Nx.blk {w V : World} {q p g g1 T : Nat} {d : Int} {s1 : PS} (n : Nx w q p g d V g1 s1) (l : T < w.heap.size) (h : T ≠ p) : V.heap[T]? = w.heap[T]? := n.gr.block T l fun e => by simp only [Option.some.injEq] at e; exact h e
/-- Names that read in what is new go on reading. -/
theorem Nx.kp {w V : World} {q p g g1 b b0 : Nat} {d : Int} {s1 : PS} (n : Nx w q p g d V g1 s1) (lp : p < b) (h : b0 ≤ b) : Kp (empW (lowS b) w) (empW (lowS b0) V) := (Ch.gr (T := (· = p)) n.gr rfl).kp (fun k h1 _ h2 => by omega) h
theorem kp_set {w : World} {b b0 T : Nat} (lT : T < b) (h : b0 ≤ b) (o : Nat) (v : Value) : Kp (empW (lowS b) w) (empW (lowS b0) (w.setCell ⟨T, o, none⟩ v)) := ((Ch.bl (T := (· = T)) (Below.refl _ w)).set (b := T) (fun _ => rfl) o v).kp (fun k h1 _ h2 => by omega) h
set_option maxRecDepth 100000 in
set_option maxHeartbeats 2000000 in
theorem marks_calls (s : PS) (q p g T : Nat) (z0 z1 z2 z9 z10 z11 z12 z13 z14 z15 z16 z17 : Value) (x : PH) (d : Int) (w : World) (h : PsG w q p g d s) (hl : s.1.length ≤ 1000000) (hT : w.heap[T]? = some (.cells #[z0, z1, z2, .slice none 0 0, .int .i64 0, .int .i64 0, .int .i64 0, .int .i64 0, .slice none 0 0, z9, z10, z11, z12, z13, z14, z15, z16, z17] 71)) (nT : T ≠ q ∧ T ≠ p ∧ g ≠ T) (R : Ending → World → Prop)
    (hR : Hid (∀ w' g' lv cv, Nt T w q p g d w' g' (marksC x s).2 → w'.heap[T]? = some (.cells #[z0, z1, z2, lv, .int .i64 (marksC x s).1.wide, .int .i64 (marksC x s).1.ck, .int .i64 (marksC x s).1.cn, .int .i64 (marksC x s).1.cat, cv, z9, z10, z11, z12, z13, z14, z15, z16, z17] 71) → RdW (empW (lowS w.heap.size) w') lv (marksC x s).1.label → RdW (empW (lowS w.heap.size) w') cv (marksC x s).1.cl → R (.returned (.tuple #[])) w')) : Calls Tryz.prog 119 #[ptV q, ptV T] w R := by
  have lp := h.cur.lt
  have lT := bltK hT
  have b0 := h.b0
  have hq : marksC x s = (⟨x.name, x.at_, x.bare, (labelC s).1, (wideC (labelC s).2).1, (seeC (wideC (labelC s).2).2).1.1, (seeC (wideC (labelC s).2).2).1.2.1, (seeC (wideC (labelC s).2).2).1.2.2.1, (seeC (wideC (labelC s).2).2).1.2.2.2⟩, (seeC (wideC (labelC s).2).2).2) := rfl
  rw [hq] at hR
  simp only at hR
  clear hq
  have gl := gd_label s h.ok
  have gw := gd_wide _ gl.1
  have nt : Nt T w q p g d w g s := (Nx.rfl' h).to
  go_enter Tryz.func119, Tryz.ntmps119
  go_wp2_with fail
  refine label_calls s q p g d w h hl _ (Lib.hid fun w1 g1 v1 n1 r1 => ?_)
  obtain ⟨A1, c1, rfl, -, -⟩ := r1.op
  replace hT := (n1.blk (bltK hT) nT.2.1).trans hT
  replace nt := nt.nx n1
  have y3 := (Lib.cell_of_heap hT 3).trans rfl
  have yf3 := Lib.frozen_of_heap hT 3
  replace r1 := r1.kp (kp_set (b := w.heap.size) (b0 := w.heap.size) lT (Nat.le_refl _) 3 (.slice A1 (labelC s).1.length c1))
  replace nt := nt.set lT nT 3 (.slice A1 (labelC s).1.length c1)
  replace hT := satK hT 3 (.slice A1 (labelC s).1.length c1)
  simp only [List.setIfInBounds_toArray, List.set_cons_succ, List.set_cons_zero] at hT
  go_upto_region 1 with fail
  generalize w1.setCell ⟨T, 3, none⟩ (.slice A1 (labelC s).1.length c1) = V1 at *
  clear y3 yf3
  clear n1 b0
  have b0 := nt.ps.b0
  have hwd : wideC (labelC s).2 = if (mayS (labelC s).2 hash).2 = true then intS (mayS (labelC s).2 hash).1 else (0, (mayS (labelC s).2 hash).1) := rfl
  go_wp2_with fail
  refine may_calls _ hash q p g1 d _ nt.ps _ (Lib.hid fun w2 n2 => ?_)
  replace hT := (n2.blk (bltK hT) nT.2.1).trans hT
  replace nt := nt.nx n2
  replace r1 := r1.kp (n2.kp lp (Nat.le_refl _))
  clear n2 b0
  have lm2 := may_len (labelC s).2 hash
  generalize (mayS (labelC s).2 hash).1 = s2 at *
  cases hm2 : (mayS (labelC s).2 hash).2
  · rw [hm2, if_neg (by decide)] at hwd
    rw [hwd] at hR gw
    simp only at hR gw
    clear hwd hm2
    generalize s2 = s3 at *
    have b0 := nt.ps.b0
    have hse : seeC s3 = if (mayS s3 tilde).2 = true then coaC (mayS s3 tilde).1 else ((0, 0, 0, []), (mayS s3 tilde).1) := rfl
    go_wp2_with fail
    refine may_calls s3 tilde q p _ d _ nt.ps _ (Lib.hid fun w5 n5 => ?_)
    replace hT := (n5.blk (bltK hT) nT.2.1).trans hT
    replace nt := nt.nx n5
    replace r1 := r1.kp (n5.kp lp (Nat.le_refl _))
    clear n5 b0
    have lm := may_len s3 tilde
    generalize (mayS s3 tilde).1 = s4 at *
    cases hm5 : (mayS s3 tilde).2
    · rw [hm5, if_neg (by decide)] at hse
      rw [hse] at hR
      simp only at hR
      have fin := Lib.hid (hR.out _ _ _ _ nt hT r1 (RdW.none0 _))
      clear hR nt hT r1
      go_wp2_with fail
      first | refine bodyPost_ret ?_ rfl fin.out | refine bodyPost_end ?_ rfl fin.out
      simp [results, Tryz.results119, go_sem]
    · rw [hm5, if_pos rfl] at hse
      rw [hse] at hR
      have sz := nt.ch.size
      go_wp2_with fail
      refine coarseK_calls s4 q p _ d _ nt.ps (by omega) _ (Lib.hid fun w6 g6 v6 n6 r6 => ?_)
      obtain ⟨A6, c6, rfl, -, -⟩ := r6.op
      replace hT := (n6.blk (bltK hT) nT.2.1).trans hT
      replace nt := nt.nx n6
      replace r1 := r1.kp (n6.kp lp (Nat.le_refl _))
      replace r6 := r6.kp (emp_kp (Nat.le_refl _) fun k hk nk => ⟨by unfold lowS at *; omega, rfl⟩ : Kp _ (empW (lowS w.heap.size) _))
      have y5 := (Lib.cell_of_heap hT 5).trans rfl
      have yf5 := Lib.frozen_of_heap hT 5
      have y6 := (Lib.cell_of_heap hT 6).trans rfl
      have yf6 := Lib.frozen_of_heap hT 6
      have y7 := (Lib.cell_of_heap hT 7).trans rfl
      have yf7 := Lib.frozen_of_heap hT 7
      have y8 := (Lib.cell_of_heap hT 8).trans rfl
      have yf8 := Lib.frozen_of_heap hT 8
      replace r1 := r1.kp (kp_set (b := w.heap.size) (b0 := w.heap.size) lT (Nat.le_refl _) 5 (.int .i64 (coaC s4).1.1))
      replace r1 := r1.kp (kp_set (b := w.heap.size) (b0 := w.heap.size) lT (Nat.le_refl _) 6 (.int .i64 (coaC s4).1.2.1))
      replace r1 := r1.kp (kp_set (b := w.heap.size) (b0 := w.heap.size) lT (Nat.le_refl _) 7 (.int .i64 (coaC s4).1.2.2.1))
      replace r1 := r1.kp (kp_set (b := w.heap.size) (b0 := w.heap.size) lT (Nat.le_refl _) 8 (.slice A6 (coaC s4).1.2.2.2.length c6))
      replace r6 := r6.kp (kp_set (b := w.heap.size) (b0 := w.heap.size) lT (Nat.le_refl _) 5 (.int .i64 (coaC s4).1.1))
      replace r6 := r6.kp (kp_set (b := w.heap.size) (b0 := w.heap.size) lT (Nat.le_refl _) 6 (.int .i64 (coaC s4).1.2.1))
      replace r6 := r6.kp (kp_set (b := w.heap.size) (b0 := w.heap.size) lT (Nat.le_refl _) 7 (.int .i64 (coaC s4).1.2.2.1))
      replace r6 := r6.kp (kp_set (b := w.heap.size) (b0 := w.heap.size) lT (Nat.le_refl _) 8 (.slice A6 (coaC s4).1.2.2.2.length c6))
      replace nt := nt.set lT nT 5 (.int .i64 (coaC s4).1.1)
      replace hT := satK hT 5 (.int .i64 (coaC s4).1.1)
      replace nt := nt.set lT nT 6 (.int .i64 (coaC s4).1.2.1)
      replace hT := satK hT 6 (.int .i64 (coaC s4).1.2.1)
      replace nt := nt.set lT nT 7 (.int .i64 (coaC s4).1.2.2.1)
      replace hT := satK hT 7 (.int .i64 (coaC s4).1.2.2.1)
      replace nt := nt.set lT nT 8 (.slice A6 (coaC s4).1.2.2.2.length c6)
      replace hT := satK hT 8 (.slice A6 (coaC s4).1.2.2.2.length c6)
      simp only [List.setIfInBounds_toArray, List.set_cons_succ, List.set_cons_zero] at hT
      have fin := Lib.hid (hR.out _ _ _ _ nt hT r1 r6)
      clear hR nt hT r1 r6 n6
      go_wp2_with fail
      first | refine bodyPost_ret ?_ rfl fin.out | refine bodyPost_end ?_ rfl fin.out
      simp [results, Tryz.results119, go_sem]
  · rw [hm2, if_pos rfl] at hwd
    rw [hwd] at hR gw
    clear hwd hm2
    go_wp2_with fail
    refine number_calls s2 q p _ d _ nt.ps _ (Lib.hid fun w3 g3 n3 => ?_)
    replace hT := (n3.blk (bltK hT) nT.2.1).trans hT
    replace nt := nt.nx n3
    replace r1 := r1.kp (n3.kp lp (Nat.le_refl _))
    clear n3
    have y4 := (Lib.cell_of_heap hT 4).trans rfl
    have yf4 := Lib.frozen_of_heap hT 4
    replace r1 := r1.kp (kp_set (b := w.heap.size) (b0 := w.heap.size) lT (Nat.le_refl _) 4 (.int .i64 (intS s2).1))
    replace nt := nt.set lT nT 4 (.int .i64 (intS s2).1)
    replace hT := satK hT 4 (.int .i64 (intS s2).1)
    simp only [List.setIfInBounds_toArray, List.set_cons_succ, List.set_cons_zero] at hT
    go_upto_region 3 with fail
    generalize w3.setCell ⟨T, 4, none⟩ (.int .i64 (intS s2).1) = V3 at *
    clear y4 yf4
    generalize (intS s2).2 = s3 at *
    generalize (intS s2).1 = nn at *
    have b0 := nt.ps.b0
    have hse : seeC s3 = if (mayS s3 tilde).2 = true then coaC (mayS s3 tilde).1 else ((0, 0, 0, []), (mayS s3 tilde).1) := rfl
    go_wp2_with fail
    refine may_calls s3 tilde q p _ d _ nt.ps _ (Lib.hid fun w5 n5 => ?_)
    replace hT := (n5.blk (bltK hT) nT.2.1).trans hT
    replace nt := nt.nx n5
    replace r1 := r1.kp (n5.kp lp (Nat.le_refl _))
    clear n5 b0
    have lm := may_len s3 tilde
    generalize (mayS s3 tilde).1 = s4 at *
    cases hm5 : (mayS s3 tilde).2
    · rw [hm5, if_neg (by decide)] at hse
      rw [hse] at hR
      simp only at hR
      have fin := Lib.hid (hR.out _ _ _ _ nt hT r1 (RdW.none0 _))
      clear hR nt hT r1
      go_wp2_with fail
      first | refine bodyPost_ret ?_ rfl fin.out | refine bodyPost_end ?_ rfl fin.out
      simp [results, Tryz.results119, go_sem]
    · rw [hm5, if_pos rfl] at hse
      rw [hse] at hR
      have sz := nt.ch.size
      go_wp2_with fail
      refine coarseK_calls s4 q p _ d _ nt.ps (by omega) _ (Lib.hid fun w6 g6 v6 n6 r6 => ?_)
      obtain ⟨A6, c6, rfl, -, -⟩ := r6.op
      replace hT := (n6.blk (bltK hT) nT.2.1).trans hT
      replace nt := nt.nx n6
      replace r1 := r1.kp (n6.kp lp (Nat.le_refl _))
      replace r6 := r6.kp (emp_kp (Nat.le_refl _) fun k hk nk => ⟨by unfold lowS at *; omega, rfl⟩ : Kp _ (empW (lowS w.heap.size) _))
      have y5 := (Lib.cell_of_heap hT 5).trans rfl
      have yf5 := Lib.frozen_of_heap hT 5
      have y6 := (Lib.cell_of_heap hT 6).trans rfl
      have yf6 := Lib.frozen_of_heap hT 6
      have y7 := (Lib.cell_of_heap hT 7).trans rfl
      have yf7 := Lib.frozen_of_heap hT 7
      have y8 := (Lib.cell_of_heap hT 8).trans rfl
      have yf8 := Lib.frozen_of_heap hT 8
      replace r1 := r1.kp (kp_set (b := w.heap.size) (b0 := w.heap.size) lT (Nat.le_refl _) 5 (.int .i64 (coaC s4).1.1))
      replace r1 := r1.kp (kp_set (b := w.heap.size) (b0 := w.heap.size) lT (Nat.le_refl _) 6 (.int .i64 (coaC s4).1.2.1))
      replace r1 := r1.kp (kp_set (b := w.heap.size) (b0 := w.heap.size) lT (Nat.le_refl _) 7 (.int .i64 (coaC s4).1.2.2.1))
      replace r1 := r1.kp (kp_set (b := w.heap.size) (b0 := w.heap.size) lT (Nat.le_refl _) 8 (.slice A6 (coaC s4).1.2.2.2.length c6))
      replace r6 := r6.kp (kp_set (b := w.heap.size) (b0 := w.heap.size) lT (Nat.le_refl _) 5 (.int .i64 (coaC s4).1.1))
      replace r6 := r6.kp (kp_set (b := w.heap.size) (b0 := w.heap.size) lT (Nat.le_refl _) 6 (.int .i64 (coaC s4).1.2.1))
      replace r6 := r6.kp (kp_set (b := w.heap.size) (b0 := w.heap.size) lT (Nat.le_refl _) 7 (.int .i64 (coaC s4).1.2.2.1))
      replace r6 := r6.kp (kp_set (b := w.heap.size) (b0 := w.heap.size) lT (Nat.le_refl _) 8 (.slice A6 (coaC s4).1.2.2.2.length c6))
      replace nt := nt.set lT nT 5 (.int .i64 (coaC s4).1.1)
      replace hT := satK hT 5 (.int .i64 (coaC s4).1.1)
      replace nt := nt.set lT nT 6 (.int .i64 (coaC s4).1.2.1)
      replace hT := satK hT 6 (.int .i64 (coaC s4).1.2.1)
      replace nt := nt.set lT nT 7 (.int .i64 (coaC s4).1.2.2.1)
      replace hT := satK hT 7 (.int .i64 (coaC s4).1.2.2.1)
      replace nt := nt.set lT nT 8 (.slice A6 (coaC s4).1.2.2.2.length c6)
      replace hT := satK hT 8 (.slice A6 (coaC s4).1.2.2.2.length c6)
      simp only [List.setIfInBounds_toArray, List.set_cons_succ, List.set_cons_zero] at hT
      have fin := Lib.hid (hR.out _ _ _ _ nt hT r1 r6)
      clear hR nt hT r1 r6 n6
      go_wp2_with fail
      first | refine bodyPost_ret ?_ rfl fin.out | refine bodyPost_end ?_ rfl fin.out
      simp [results, Tryz.results119, go_sem]

end Go.Proofs.YthelhplcijhioaaGreat.Syn

/- Layer 16, the code: the name with which a type begins; two numbers. -/
set_option maxRecDepth 100000
set_option linter.unusedVariables false
namespace Go.Proofs.YthelhplcijhioaaGreat.Syn
open Go.RowKit Go.Lib Go.Proofs.YthelhplcijhioaaGreat.Utf Go.Proofs.YthelhplcijhioaaGreat.Tok Go.Proofs.YthelhplcijhioaaGreat.Cur Go.Proofs.YthelhplcijhioaaGreat.Nam Go.Proofs.YthelhplcijhioaaGreat.Lat Go.Proofs.YthelhplcijhioaaGreat.Kin

set_option maxRecDepth 100000 in
set_option maxHeartbeats 2000000 in
theorem kind_calls (s : PS) (q p g : Nat) (d : Int) (w : World) (h : PsG w q p g d s) (R : Ending → World → Prop) (hR : Hid (∀ w' g', Nx w q p g d w' g' (kindC s).2 → R (.returned (.int .i64 (kindC s).1)) w')) : Calls Tryz.prog 54 #[ptV q] w R := by
  have kk : kindC s = if (wordS s sBool).2 = true then (1, (wordS s sBool).1) else if (wordS s sInt).2 = true then (2, (wordS s sInt).1) else if (wordS s sText).2 = true then (3, (wordS s sText).1) else if (wordS s sEnum).2 = true then (4, (wordS s sEnum).1) else if (wordS s sList).2 = true then (5, (wordS s sList).1) else if (wordS s sOpt).2 = true then (6, (wordS s sOpt).1) else if (wordS s sRecord).2 = true then (7, (wordS s sRecord).1) else if (wordS s sUnion).2 = true then (8, (wordS s sUnion).1) else if (wordS s sRef).2 = true then (9, (wordS s sRef).1) else (0, rstS s) := rfl
  have n := Nx.rfl' h
  go_enter Tryz.func54, Tryz.ntmps54
  have b0 := n.ps.b0
  go_wp2_with fail
  refine wordK_calls s sBool q p g d _ n.ps _ (Lib.hid fun w0 n0 => ?_)
  replace n := n.trans n0
  clear n0 b0
  cases hw0 : (wordS s sBool).2
  · rw [word_no hw0] at n
    rw [hw0, if_neg (by decide)] at kk
    clear hw0
    have b0 := n.ps.b0
    go_wp2_with fail
    refine wordK_calls s sInt q p g d _ n.ps _ (Lib.hid fun w1 n1 => ?_)
    replace n := n.trans n1
    clear n1 b0
    cases hw1 : (wordS s sInt).2
    · rw [word_no hw1] at n
      rw [hw1, if_neg (by decide)] at kk
      clear hw1
      have b0 := n.ps.b0
      go_wp2_with fail
      refine wordK_calls s sText q p g d _ n.ps _ (Lib.hid fun w2 n2 => ?_)
      replace n := n.trans n2
      clear n2 b0
      cases hw2 : (wordS s sText).2
      · rw [word_no hw2] at n
        rw [hw2, if_neg (by decide)] at kk
        clear hw2
        have b0 := n.ps.b0
        go_wp2_with fail
        refine wordK_calls s sEnum q p g d _ n.ps _ (Lib.hid fun w3 n3 => ?_)
        replace n := n.trans n3
        clear n3 b0
        cases hw3 : (wordS s sEnum).2
        · rw [word_no hw3] at n
          rw [hw3, if_neg (by decide)] at kk
          clear hw3
          have b0 := n.ps.b0
          go_wp2_with fail
          refine wordK_calls s sList q p g d _ n.ps _ (Lib.hid fun w4 n4 => ?_)
          replace n := n.trans n4
          clear n4 b0
          cases hw4 : (wordS s sList).2
          · rw [word_no hw4] at n
            rw [hw4, if_neg (by decide)] at kk
            clear hw4
            have b0 := n.ps.b0
            go_wp2_with fail
            refine wordK_calls s sOpt q p g d _ n.ps _ (Lib.hid fun w5 n5 => ?_)
            replace n := n.trans n5
            clear n5 b0
            cases hw5 : (wordS s sOpt).2
            · rw [word_no hw5] at n
              rw [hw5, if_neg (by decide)] at kk
              clear hw5
              have b0 := n.ps.b0
              go_wp2_with fail
              refine wordK_calls s sRecord q p g d _ n.ps _ (Lib.hid fun w6 n6 => ?_)
              replace n := n.trans n6
              clear n6 b0
              cases hw6 : (wordS s sRecord).2
              · rw [word_no hw6] at n
                rw [hw6, if_neg (by decide)] at kk
                clear hw6
                have b0 := n.ps.b0
                go_wp2_with fail
                refine wordK_calls s sUnion q p g d _ n.ps _ (Lib.hid fun w7 n7 => ?_)
                replace n := n.trans n7
                clear n7 b0
                cases hw7 : (wordS s sUnion).2
                · rw [word_no hw7] at n
                  rw [hw7, if_neg (by decide)] at kk
                  clear hw7
                  have b0 := n.ps.b0
                  go_wp2_with fail
                  refine wordK_calls s sRef q p g d _ n.ps _ (Lib.hid fun w8 n8 => ?_)
                  replace n := n.trans n8
                  clear n8 b0
                  cases hw8 : (wordS s sRef).2
                  · rw [word_no hw8] at n
                    rw [hw8, if_neg (by decide)] at kk
                    clear hw8
                    rw [kk] at hR
                    simp only at hR
                    go_wp2_with fail
                    refine refuseStart_calls s q p g d _ n.ps _ (Lib.hid fun w10 g10 n10 => ?_)
                    have fin := Lib.hid (hR.out _ _ (n.trans n10))
                    clear hR n n10 kk h
                    go_wp2_with fail
                    exact fin.out
                  · rw [hw8, if_pos rfl] at kk
                    rw [kk] at hR
                    simp only at hR
                    have fin := Lib.hid (hR.out _ _ n)
                    clear hR n kk hw8 h
                    go_wp2_with fail
                    exact fin.out
                · rw [hw7, if_pos rfl] at kk
                  rw [kk] at hR
                  simp only at hR
                  have fin := Lib.hid (hR.out _ _ n)
                  clear hR n kk hw7 h
                  go_wp2_with fail
                  exact fin.out
              · rw [hw6, if_pos rfl] at kk
                rw [kk] at hR
                simp only at hR
                have fin := Lib.hid (hR.out _ _ n)
                clear hR n kk hw6 h
                go_wp2_with fail
                exact fin.out
            · rw [hw5, if_pos rfl] at kk
              rw [kk] at hR
              simp only at hR
              have fin := Lib.hid (hR.out _ _ n)
              clear hR n kk hw5 h
              go_wp2_with fail
              exact fin.out
          · rw [hw4, if_pos rfl] at kk
            rw [kk] at hR
            simp only at hR
            have fin := Lib.hid (hR.out _ _ n)
            clear hR n kk hw4 h
            go_wp2_with fail
            exact fin.out
        · rw [hw3, if_pos rfl] at kk
          rw [kk] at hR
          simp only at hR
          have fin := Lib.hid (hR.out _ _ n)
          clear hR n kk hw3 h
          go_wp2_with fail
          exact fin.out
      · rw [hw2, if_pos rfl] at kk
        rw [kk] at hR
        simp only at hR
        have fin := Lib.hid (hR.out _ _ n)
        clear hR n kk hw2 h
        go_wp2_with fail
        exact fin.out
    · rw [hw1, if_pos rfl] at kk
      rw [kk] at hR
      simp only at hR
      have fin := Lib.hid (hR.out _ _ n)
      clear hR n kk hw1 h
      go_wp2_with fail
      exact fin.out
  · rw [hw0, if_pos rfl] at kk
    rw [kk] at hR
    simp only at hR
    have fin := Lib.hid (hR.out _ _ n)
    clear hR n kk hw0 h
    go_wp2_with fail
    exact fin.out

set_option maxRecDepth 100000 in
set_option maxHeartbeats 2000000 in
theorem bounds_calls (s : PS) (q p g : Nat) (d : Int) (w : World) (h : PsG w q p g d s) (R : Ending → World → Prop) (hR : Hid (∀ w' g', Nx w q p g d w' g' (boundsC s).2 → R (.returned (.tuple #[.int .i64 (boundsC s).1.1, .int .i64 (boundsC s).1.2])) w')) : Calls Tryz.prog 86 #[ptV q] w R := by
  have kk : boundsC s = (((intS s).1, (intS (markS (intS s).2 dots)).1), (intS (markS (intS s).2 dots)).2) := rfl
  rw [kk] at hR
  simp only at hR
  have n := Nx.rfl' h
  go_enter Tryz.func86, Tryz.ntmps86
  go_wp2_with fail
  refine number_calls s q p g d _ h _ (Lib.hid fun w1 g1 n1 => ?_)
  replace n := n.trans n1
  have b0 := n.ps.b0
  go_wp2_with fail
  refine need_calls _ dots q p g1 d _ n.ps _ (Lib.hid fun w2 g2 o2 n2 => ?_)
  replace n := n.trans n2
  go_wp2_with fail
  refine number_calls _ q p g2 d _ n.ps _ (Lib.hid fun w3 g3 n3 => ?_)
  have fin := Lib.hid (hR.out _ _ (n.trans n3))
  clear hR n n1 n2 n3 kk h b0
  go_wp2_with fail
  exact fin.out
end Go.Proofs.YthelhplcijhioaaGreat.Syn
