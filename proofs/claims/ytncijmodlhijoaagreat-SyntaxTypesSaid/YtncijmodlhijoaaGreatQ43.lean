import Derived.Test.YtncijmodlhijoaaGreatQ11
import Derived.Test.YtncijmodlhijoaaGreatQ42
import Derived.Test.YtncijmodlhijoaaGreatQ7
import Derived.Test.YtncijmodlhijoaaGreatQ12
import Derived.StillTailTactics
import Derived.Deep.Cut
set_option linter.unusedVariables false
set_option maxRecDepth 100000
set_option maxHeartbeats 4000000
namespace Go.Proofs.YtncijmodlhijoaaGreat.Syn
open Go.RowKit Go.Lib Utf Tok Cur Nam Lat Kin
theorem satK {w : World} {p : Nat} {cs : Array Value} {t : TypeId} (h : w.heap[p]? = some (.cells cs t)) (o : Nat) (v : Value) : (w.setCell ⟨p, o, none⟩ v).heap[p]? = some (.cells (cs.setIfInBounds o v) t) := by
 simp [World.setCell, Array.getElem?_modify, h]
theorem sneK {w : World} {q o k : Nat} {v : Value} (h : k ≠ q) : (w.setCell ⟨q, o, none⟩ v).heap[k]? = w.heap[k]? := Below.heap_setCell _ ⟨q, o, none⟩ v k h
theorem bltK {V : World} {b : Nat} {o : Obj} (h : V.heap[b]? = some o) : b < V.heap.size := (Array.getElem?_eq_some_iff.1 h).1
abbrev cu (d : Int) (s : PS) : Cu := (s.1, d, s.2)
theorem cu_has {d : Int} {s : PS} {k : Int} {m : ByteArray} (hk : k ≠ 0) : Cur.hasS (cu d s) k m false = (decide (s.2.1 = 0) && isS s k m) := by
 unfold Cur.hasS isS
 by_cases h : s.2.1 = 0
 ·rw [Cur.peek_ok (c := cu d s) h, decide_eq_true h]
  simp
 ·rw [Cur.peek_fail (c := cu d s) h, decide_eq_false h]
  simp only [Bool.false_and, Bool.false_or, Bool.and_eq_false_iff, decide_eq_false_iff_not]
  exact .inl fun q => hk q.symm
theorem cu_nextS {d : Int} {s : PS} (h : s.2.1 = 0) (h1 : (Cur.hdT s.1).1 ≠ 0) : Cur.nextS (cu d s) = cu d (onS s) := by
 unfold Cur.nextS
 rw [if_neg (by rintro (q | q); exact q h; exact h1 q)]
 rfl
theorem cu_may {d : Int} {s : PS} {m : ByteArray} : Cur.takeS (cu d s) 4 m false = cu d (mayS s m).1 := by
 unfold Cur.takeS
 rw [cu_has (by decide)]
 unfold mayS
 by_cases h : s.2.1 = 0 ∧ isS s 4 m = true
 ·rw [if_pos h, if_pos (by rw [decide_eq_true h.1, h.2]; rfl)]
  exact cu_nextS h.1 (by rw [is_kind h.2]; decide)
 ·rw [if_neg h, if_neg (by simpa using h)]
theorem cu_mayb {d : Int} {s : PS} {m : ByteArray} : Cur.hasS (cu d s) 4 m false = (mayS s m).2 := by
 rw [cu_has (by decide)]
 unfold mayS
 by_cases h : s.2.1 = 0 ∧ isS s 4 m = true
 ·rw [if_pos h, decide_eq_true h.1, h.2]; rfl
 ·rw [if_neg h]; simpa using h
theorem cu_word {d : Int} {s : PS} {m : ByteArray} : Cur.takeS (cu d s) 1 m false = cu d (wordS s m).1 := by
 unfold Cur.takeS
 rw [cu_has (by decide)]
 unfold wordS
 by_cases h : s.2.1 = 0 ∧ isS s 1 m = true
 ·rw [if_pos h, if_pos (by rw [decide_eq_true h.1, h.2]; rfl)]
  exact cu_nextS h.1 (by rw [is_kind h.2]; decide)
 ·rw [if_neg h, if_neg (by simpa using h)]
theorem cu_wordb {d : Int} {s : PS} {m : ByteArray} : Cur.hasS (cu d s) 1 m false = (wordS s m).2 := by
 rw [cu_has (by decide)]
 unfold wordS
 by_cases h : s.2.1 = 0 ∧ isS s 1 m = true
 ·rw [if_pos h, decide_eq_true h.1, h.2]; rfl
 ·rw [if_neg h]; simpa using h
theorem cu_fail {d : Int} {s : PS} {e : Int} (he : e ≠ 0) : Cur.failS (cu d s) e (Cur.peekS (cu d s)).2.1 = cu d (failP s e) := by
 unfold Cur.failS failP
 by_cases h : s.2.1 = 0
 ·rw [if_neg (by rintro (q | q); exact q h; exact he q), if_neg (by simpa using h), Cur.peek_ok (c := cu d s) h]
 ·rw [if_pos (.inl h), if_pos h]
theorem wrong_is (s : PS) : wrongS s = if (pkS s).1 = 0 then failP s 5 else failP s 4 := by
 unfold wrongS failP pkS
 by_cases h : s.2.1 = 0
 ·have n : ¬ s.2.1 ≠ 0 := fun q => q h
  rw [Cur.peek_ok (c := (s.1, 0, s.2)) h]
  simp only [if_neg n]
  by_cases z : (Cur.hdT s.1).1 = 0
  ·rw [if_pos z, if_pos z]
  ·rw [if_neg z, if_neg z]
 ·rw [if_pos h, if_pos h, if_pos h]
  split <;> rfl
theorem cu_need {d : Int} {s : PS} {m : ByteArray} : Cur.needS (cu d s) m = cu d (markS s m) := by
 unfold Cur.needS markS Syn.needS
 by_cases h : s.2.1 = 0
 ·rw [if_neg (show ¬ s.2.1 ≠ 0 by simpa using h), cu_has (by decide), decide_eq_true h, Bool.true_and]
  by_cases q : isS s 4 m = true
  ·rw [if_pos q, if_pos q]
   exact cu_nextS h (by rw [is_kind q]; decide)
  ·rw [if_neg q, if_neg q, wrong_is]
   have e : Cur.peekS (cu d s) = pkS s := rfl
   by_cases z : (pkS s).1 = 0
   ·rw [show (Cur.peekS (cu d s)).1 = 0 from z, if_pos rfl, if_pos z, cu_fail (by decide)]
   ·rw [if_neg (show ¬ (Cur.peekS (cu d s)).1 = 0 from z), if_neg z, cu_fail (by decide)]
 ·rw [if_pos (show s.2.1 ≠ 0 from h), cu_has (by decide), decide_eq_false h, Bool.false_and, if_neg (by decide)]
  unfold Cur.failS
  rw [if_pos (.inl h)]
theorem cu_any {d : Int} {s : PS} {k : Int} (hk : k ≠ 0) : (if k ≠ 0 ∧ (Cur.peekS (cu d s)).1 = k then Cur.nextS (cu d s) else cu d s) = cu d (if k ≠ 0 ∧ (pkS s).1 = k then onS s else s) := by
 have e : Cur.peekS (cu d s) = pkS s := rfl
 rw [e]
 by_cases h : k ≠ 0 ∧ (pkS s).1 = k
 ·rw [if_pos h, if_pos h]
  have h0 : s.2.1 = 0 := (Cur.peek_lt (c := cu d s) (by rw [e, h.2]; exact hk)).1
  have h1 : (Cur.hdT s.1).1 ≠ 0 := (Cur.peek_lt (c := cu d s) (by rw [e, h.2]; exact hk)).2
  exact cu_nextS h0 h1
 ·rw [if_neg h, if_neg h]
theorem any_is {s : PS} {k : Int} (hk : k ≠ 0) : anyS s k = if (pkS s).1 = k then (pkS s, onS s) else (zT, wrongS s) := by
 unfold anyS pkS
 by_cases h : s.2.1 = 0
 ·rw [if_neg (by simpa using h), Cur.peek_ok (c := (s.1, 0, s.2)) h]
  by_cases q : (Cur.hdT s.1).1 = k
  ·rw [if_neg (by simpa using q), if_pos q]
  ·rw [if_pos q, if_neg q]
 ·rw [if_pos h, Cur.peek_fail (c := (s.1, 0, s.2)) h, if_neg (fun q => hk (Eq.symm q))]
  unfold wrongS
  rw [if_pos h]
structure PsG (w : World) (q p g : Nat) (d : Int) (s : PS) : Prop where
 cur : CurG w p (cu d s) g
 box : w.heap[q]? = some (.cells #[ptV p] 135)
structure Nx (w : World) (q p g : Nat) (d : Int) (w' : World) (g' : Nat) (s' : PS) : Prop where
 g : g' = g ∨ w.heap.size ≤ g'
 ps : PsG w' q p g' d s'
 gr : w.grownBy w' (some p)
theorem PsG.ne {w : World} {q p g : Nat} {d : Int} {s : PS} (h : PsG w q p g d s) : q ≠ p := by
 rintro rfl
 obtain ⟨o, k, h1, -⟩ := h.cur.op
 have := h.box
 rw [h1] at this
 simp at this
theorem PsG.gq {w : World} {q p g : Nat} {d : Int} {s : PS} (h : PsG w q p g d s) : g ≠ q := by
 rintro rfl
 obtain ⟨o, k, -, -, -, -, -, -, h3, -⟩ := h.cur.op
 rw [Lib.cell_of_heap h.box] at h3
 match o, h3 with
 | 0, h3 => simp at h3
 | n + 1, h3 => simp at h3
theorem PsG.ok {w : World} {q p g : Nat} {d : Int} {s : PS} (h : PsG w q p g d s) : Ok s := h.cur.ends
theorem PsG.b0 {w : World} {q p g : Nat} {d : Int} {s : PS} (h : PsG w q p g d s) : w.cell? ⟨q, 0, none⟩ = some (ptV p) := (Lib.cell_of_heap h.box 0).trans rfl
theorem PsG.ql {w : World} {q p g : Nat} {d : Int} {s : PS} (h : PsG w q p g d s) : q < w.heap.size := bltK h.box
theorem PsG.lts {w : World} {q p g : Nat} {d : Int} {s : PS} (h : PsG w q p g d s) : q < w.heap.size ∧ p < w.heap.size ∧ g < w.heap.size ∧ q ≠ p ∧ g ≠ p ∧ g ≠ q := ⟨h.ql, h.cur.lt, h.cur.lg, h.ne, h.cur.ne, h.gq⟩
theorem PsG.keep {w w' : World} {q p g : Nat} {d : Int} {s : PS} (h : PsG w q p g d s) (hs : w.heap.size ≤ w'.heap.size) (e : ∀ k, k < w.heap.size → (k = q ∨ k = p ∨ k = g) → w'.heap[k]? = w.heap[k]?) : PsG w' q p g d s :=
 ⟨h.cur.keep hs (e p h.cur.lt (.inr (.inl rfl))) (e g h.cur.lg (.inr (.inr rfl))), (e q h.ql (.inl rfl)).trans h.box⟩
theorem PsG.bl {w w' : World} {q p g : Nat} {d : Int} {s : PS} (h : PsG w q p g d s) (b : Below w.heap.size w w') : PsG w' q p g d s := h.keep b.size fun k hk _ => b.block k hk
theorem PsG.set {w : World} {q p g b : Nat} {d : Int} {s : PS} (h : PsG w q p g d s) (hq : q ≠ b) (hp : p ≠ b) (hg : g ≠ b) (o : Nat) (v : Value) : PsG (w.setCell ⟨b, o, none⟩ v) q p g d s :=
 h.keep (Nat.le_of_eq Cur.set_size.symm) fun k _ e => sneK (by rcases e with rfl | rfl | rfl <;> assumption)
theorem PsG.next {w w' : World} {q p g g' : Nat} {d d' : Int} {s s' : PS} (h : PsG w q p g d s) (c : CurG w' p (cu d' s') g') (gr : w.grownBy w' (some p)) : PsG w' q p g' d' s' :=
 ⟨c, (gr.block _ h.ql (by simpa using h.ne)).trans h.box⟩
theorem PsG.nx {w w' : World} {q p g : Nat} {d : Int} {s s' : PS} (h : PsG w q p g d s) (c : CurG w' p (cu d s') g) (gr : w.grownBy w' (some p)) : Nx w q p g d w' g s' := ⟨.inl rfl, h.next c gr, gr⟩
theorem PsG.same {w w' : World} {q p g : Nat} {d : Int} {s : PS} (h : PsG w q p g d s) (b : Below w.heap.size w w') : Nx w q p g d w' g s := ⟨.inl rfl, h.bl b, Cur.grow_bl b⟩
theorem Nx.trans {w w' w'' : World} {q p g g' g'' : Nat} {d : Int} {s' s'' : PS} (a : Nx w q p g d w' g' s') (b : Nx w' q p g' d w'' g'' s'') : Nx w q p g d w'' g'' s'' :=
 ⟨by have := a.gr.size; rcases b.g with rfl | h; exact a.g; exact .inr (Nat.le_trans this h), b.ps, Cur.grow_tr a.gr b.gr⟩
theorem Nx.on {w w' w'' : World} {q p g g' : Nat} {d : Int} {s' : PS} (a : Nx w q p g d w' g' s') (b : Below w'.heap.size w' w'') : Nx w q p g d w'' g' s' := ⟨a.g, a.ps.bl b, Cur.grow_tr a.gr (Cur.grow_bl b)⟩
theorem pk_calls (s : PS) (q p g : Nat) (d : Int) (w : World) (h : PsG w q p g d s) (R : Ending → World → Prop) (hR : Hid (∀ w', Nx w q p g d w' g s → Below w.heap.size w w' → R (.returned (tkV (pkS s))) w')) : Calls Tryz.prog 130 #[ptV p] w R :=
 peek_calls (cu d s) p g w h.cur R (Lib.hid fun w' b => hR.out w' (h.same b) b)
theorem may_calls (s : PS) (m : ByteArray) (q p g : Nat) (d : Int) (w : World) (h : PsG w q p g d s) (R : Ending → World → Prop) (hR : Hid (∀ w', Nx w q p g d w' g (mayS s m).1 → R (.returned (.bool (mayS s m).2)) w')) : Calls Tryz.prog 279 #[ptV p, .string m] w R :=
 mark_calls (cu d s) p g m w h.cur R (Lib.hid fun w' c gr => by rw [cu_may] at c; rw [cu_mayb]; exact hR.out w' (h.nx c gr))
theorem wordK_calls (s : PS) (m : ByteArray) (q p g : Nat) (d : Int) (w : World) (h : PsG w q p g d s) (R : Ending → World → Prop) (hR : Hid (∀ w', Nx w q p g d w' g (wordS s m).1 → R (.returned (.bool (wordS s m).2)) w')) : Calls Tryz.prog 155 #[ptV p, .string m] w R :=
 word_calls (cu d s) p g m w h.cur R (Lib.hid fun w' c gr => by rw [cu_word] at c; rw [cu_wordb]; exact hR.out w' (h.nx c gr))
theorem need_calls (s : PS) (m : ByteArray) (q p g : Nat) (d : Int) (w : World) (h : PsG w q p g d s) (R : Ending → World → Prop) (hR : Hid (∀ w' g' b, Nx w q p g d w' g' (markS s m) → R (.returned (.bool b)) w')) : Calls Tryz.prog 222 #[ptV p, .string m] w R :=
 cqneed_calls (cu d s) p g m w h.cur R (Lib.hid fun w' g' hg c gr => by rw [cu_need] at c; exact hR.out w' g' _ ⟨hg, h.next c gr, gr⟩)
theorem failK_calls (s : PS) (e : Int) (he : e ≠ 0) (q p g : Nat) (d : Int) (w : World) (h : PsG w q p g d s) (R : Ending → World → Prop) (hR : Hid (∀ w' g', Nx w q p g d w' g' (failP s e) → R (.returned (.tuple #[])) w')) : Calls Tryz.prog 213 #[ptV p, .int .i64 e] w R :=
 cqfail_calls (cu d s) p g e w h.cur R (Lib.hid fun w' g' hg c gr => by rw [cu_fail he] at c; exact hR.out w' g' ⟨hg, h.next c gr, gr⟩)
theorem takeK_calls (s : PS) (k : Int) (hk : k ≠ 0) (q p g : Nat) (d : Int) (w : World) (h : PsG w q p g d s) (R : Ending → World → Prop) (hR : Hid (∀ w', Nx w q p g d w' g (if k ≠ 0 ∧ (pkS s).1 = k then onS s else s) → R (.returned (.tuple #[tkV (if k ≠ 0 ∧ (pkS s).1 = k then pkS s else zT), .bool (decide (k ≠ 0 ∧ (pkS s).1 = k))])) w')) : Calls Tryz.prog 246 #[ptV p, .int .i64 k] w R :=
 cqtake_calls (cu d s) p g k w h.cur R (Lib.hid fun w' c gr => by rw [cu_any hk] at c; exact hR.out w' (h.nx c gr))
structure Ch (T : Nat → Prop) (w w' : World) : Prop where
 os : w'.os = w.os
 tape : w'.tape = w.tape
 output : w'.output = w.output
 size : w.heap.size ≤ w'.heap.size
 block : ∀ k, k < w.heap.size → ¬ T k → w'.heap[k]? = w.heap[k]?
theorem Ch.gr {w w' : World} {p : Nat} {T : Nat → Prop} (h : w.grownBy w' (some p)) (t : T p) : Ch T w w' := ⟨h.os, h.tape, h.output, h.size, fun k hk n => h.block k hk (by rintro e; simp only [Option.some.injEq] at e; exact n (e ▸ t))⟩
theorem Ch.bl {w w' : World} {T : Nat → Prop} (h : Below w.heap.size w w') : Ch T w w' := ⟨h.os, h.tape, h.output, h.size, fun k hk _ => h.block k hk⟩
theorem Ch.trans {w w' w'' : World} {T T' : Nat → Prop} (a : Ch T w w') (b : Ch T' w' w'') (t : ∀ k, k < w.heap.size → T' k → T k) : Ch T w w'' :=
 ⟨b.os.trans a.os, b.tape.trans a.tape, b.output.trans a.output, Nat.le_trans a.size b.size, fun k hk n => (b.block k (Nat.lt_of_lt_of_le hk a.size) fun q => n (t k hk q)).trans (a.block k hk n)⟩
theorem Ch.set {w w' : World} {T : Nat → Prop} (a : Ch T w w') {b : Nat} (t : b < w.heap.size → T b) (o : Nat) (v : Value) : Ch T w (w'.setCell ⟨b, o, none⟩ v) :=
 ⟨a.os, a.tape, a.output, Nat.le_trans a.size (Nat.le_of_eq Cur.set_size.symm), fun k hk n => (sneK (by rintro rfl; exact n (t hk))).trans (a.block k hk n)⟩
theorem Ch.one {w w' : World} {p : Nat} (a : Ch (· = p) w w') : w.grownBy w' (some p) := ⟨a.os, a.tape, a.output, a.size, fun k hk n => a.block k hk fun q => n (by rw [q])⟩
theorem Ch.kp {w w' : World} {T : Nat → Prop} {b b0 : Nat} (a : Ch T w w') (t : ∀ k, b ≤ k → k < w.heap.size → ¬ T k) (h : b0 ≤ b) : Kp (empW (lowS b) w) (empW (lowS b0) w') :=
 emp_kp a.size fun g h1 h2 => ⟨by unfold lowS at *; omega, a.block g h1 (t g (by unfold lowS at h2; omega) h1)⟩
structure Bx (w V : World) (p g B : Nat) (cs : Array Value) (t : TypeId) : Prop where
 at_ : V.heap[B]? = some (.cells cs t)
 lo : w.heap.size ≤ B
 ne : g ≠ B
theorem Bx.lt {w V : World} {p g B : Nat} {cs : Array Value} {t : TypeId} (b : Bx w V p g B cs t) : B < V.heap.size := bltK b.at_
theorem Bx.nx {w V W : World} {q p g g' B : Nat} {d : Int} {s' : PS} {cs : Array Value} {t : TypeId} (b : Bx w V p g B cs t) (n : Nx V q p g d W g' s') (lp : p < w.heap.size) : Bx w W p g' B cs t := by
 have l := b.lt
 have o := b.lo
 refine ⟨(n.gr.block _ l (by simp only [Option.some.injEq, ne_eq]; omega)).trans b.at_, o, ?_⟩
 rcases n.g with rfl | h
 ·exact b.ne
 ·omega
theorem Bx.set {w V : World} {p g B : Nat} {cs : Array Value} {t : TypeId} (b : Bx w V p g B cs t) (o : Nat) (v : Value) : Bx w (V.setCell ⟨B, o, none⟩ v) p g B (cs.setIfInBounds o v) t := ⟨satK b.at_ o v, b.lo, b.ne⟩
theorem Bx.setn {w V : World} {p g B C : Nat} {cs : Array Value} {t : TypeId} (b : Bx w V p g B cs t) (h : B ≠ C) (o : Nat) (v : Value) : Bx w (V.setCell ⟨C, o, none⟩ v) p g B cs t := ⟨(sneK h).trans b.at_, b.lo, b.ne⟩
theorem Bx.bl {w V W : World} {p g B : Nat} {cs : Array Value} {t : TypeId} (b : Bx w V p g B cs t) (m : Below V.heap.size V W) : Bx w W p g B cs t := ⟨(m.block _ b.lt).trans b.at_, b.lo, b.ne⟩
theorem Bx.alloc {w V : World} {p g B : Nat} {cs : Array Value} {t : TypeId} (b : Bx w V p g B cs t) (o : Obj) : Bx w (V.alloc o) p g B cs t := b.bl ((Below.refl _ _).alloc (Nat.le_refl _) o)
theorem Bx.new {w V : World} {q p g0 g : Nat} {d : Int} {s : PS} (n : Nx w q p g0 d V g s) (cs : Array Value) (t : TypeId) : Bx w (V.alloc (.cells cs t)) p g V.heap.size cs t := ⟨heap_alloc_new V _, n.gr.size, by have := n.ps.cur.lg; omega⟩
theorem Nx.alloc {w V : World} {q p g0 g : Nat} {d : Int} {s : PS} (n : Nx w q p g0 d V g s) (o : Obj) : Nx w q p g0 d (V.alloc o) g s := n.on ((Below.refl _ _).alloc (Nat.le_refl _) o)
theorem Nx.setb {w V : World} {q p g0 g B : Nat} {d d0 : Int} {s s0 : PS} {cs : Array Value} {t : TypeId} (n : Nx w q p g0 d V g s) (b : Bx w V p g B cs t) (h : PsG w q p g0 d0 s0) (o : Nat) (v : Value) : Nx w q p g0 d (V.setCell ⟨B, o, none⟩ v) g s := by
 have l := b.lo
 have := h.ql
 have := h.cur.lt
 exact ⟨n.g, n.ps.set (by omega) (by omega) b.ne o v, (((Ch.gr (T := (· = p)) n.gr rfl).set (b := B) (fun x => by omega) o v)).one⟩
theorem Nx.rfl' {w : World} {q p g : Nat} {d : Int} {s : PS} (h : PsG w q p g d s) : Nx w q p g d w g s := h.same (Below.refl _ _)
theorem Bx.c {w V : World} {p g B : Nat} {cs : Array Value} {t : TypeId} (b : Bx w V p g B cs t) (i : Nat) : V.cell? ⟨B, i, none⟩ = cs[i]? := Lib.cell_of_heap b.at_ i
theorem refuse_calls (s : PS) (q p g : Nat) (d : Int) (w : World) (h : PsG w q p g d s) (R : Ending → World → Prop) (hR : Hid (∀ w' g', Nx w q p g d w' g' (wrongS s) → R (.returned (.tuple #[])) w')) : Calls Tryz.prog 131 #[ptV q] w R := by
 have b0 := h.b0
 rw [wrong_is] at hR
 have cP := Lib.hid fun R hR => pk_calls s q p g d w h R hR
 have cF := fun (e : Int) (he : e ≠ 0) (W : World) (n : Nx w q p g d W g s) => Lib.hid fun R hR => failK_calls s e he q p g d W n.ps R hR
 go_enter Tryz.func131, Tryz.ntmps131
 go_wp2_with fail
 refine cP.out _ (Lib.hid fun w1 n1 m1 => ?_)
 have b1 := n1.ps.b0
 have c5 := cF 5 (by decide) w1 n1
 have c4 := cF 4 (by decide) w1 n1
 clear m1 b0 cP cF h
 generalize pkS s = t at *
 obtain ⟨t0, t1, t2, t3, t4⟩ := t
 simp only [tkV] at *
 have hf0 := fun w => run_field0 t0 t1 t2 t3 t4 w
 by_cases h0 : t0 = 0
 ·subst h0
  rw [if_pos rfl] at hR
  go_wp2_with fail
  refine c5.out _ (Lib.hid fun w2 g2 n2 => ?_)
  have fin := Lib.hid (hR.out _ _ (n1.trans n2))
  clear hR c4 c5 n1 n2
  go_wp2_with fail
  first | refine bodyPost_ret ?_ rfl fin.out | refine bodyPost_end ?_ rfl fin.out
  simp [results, Tryz.results131, go_sem]
 ·rw [if_neg h0] at hR
  have q0 : (t0 == 0) = false := by simpa using h0
  clear h0
  go_wp2_with fail
  refine c4.out _ (Lib.hid fun w2 g2 n2 => ?_)
  have fin := Lib.hid (hR.out _ _ (n1.trans n2))
  clear hR c4 c5 n1 n2
  go_wp2_with fail
  first | refine bodyPost_ret ?_ rfl fin.out | refine bodyPost_end ?_ rfl fin.out
  simp [results, Tryz.results131, go_sem]
theorem refuseStart_calls (s : PS) (q p g : Nat) (d : Int) (w : World) (h : PsG w q p g d s) (R : Ending → World → Prop) (hR : Hid (∀ w' g', Nx w q p g d w' g' (rstS s) → R (.returned (.tuple #[])) w')) : Calls Tryz.prog 214 #[ptV q] w R := by
 have b0 := h.b0
 have hr : rstS s = if (pkS s).1 = 1 then failP s 9 else wrongS s := rfl
 rw [hr] at hR
 have cP := Lib.hid fun R hR => pk_calls s q p g d w h R hR
 have cF := fun (W : World) (n : Nx w q p g d W g s) => Lib.hid fun R hR => failK_calls s 9 (by decide) q p g d W n.ps R hR
 have cR := fun (W : World) (n : Nx w q p g d W g s) => Lib.hid fun R hR => refuse_calls s q p g d W n.ps R hR
 go_enter Tryz.func214, Tryz.ntmps214
 go_wp2_with fail
 refine cP.out _ (Lib.hid fun w1 n1 m1 => ?_)
 have b1 := n1.ps.b0
 have c5 := cF w1 n1
 have c4 := cR w1 n1
 clear m1 b0 cP cF cR h hr
 generalize pkS s = t at *
 obtain ⟨t0, t1, t2, t3, t4⟩ := t
 simp only [tkV] at *
 have hf0 := fun w => run_field0 t0 t1 t2 t3 t4 w
 by_cases h0 : t0 = 1
 ·subst h0
  rw [if_pos rfl] at hR
  go_wp2_with fail
  refine c5.out _ (Lib.hid fun w2 g2 n2 => ?_)
  have fin := Lib.hid (hR.out _ _ (n1.trans n2))
  clear hR c4 c5 n1 n2
  go_wp2_with fail
  first | refine bodyPost_ret ?_ rfl fin.out | refine bodyPost_end ?_ rfl fin.out
  simp [results, Tryz.results214, go_sem]
 ·rw [if_neg h0] at hR
  have q0 : (t0 == 1) = false := by simpa using h0
  clear h0
  go_wp2_with fail
  refine c4.out _ (Lib.hid fun w2 g2 n2 => ?_)
  have fin := Lib.hid (hR.out _ _ (n1.trans n2))
  clear hR c4 c5 n1 n2
  go_wp2_with fail
  first | refine bodyPost_ret ?_ rfl fin.out | refine bodyPost_end ?_ rfl fin.out
  simp [results, Tryz.results214, go_sem]
theorem any_cases (s : PS) (k : Int) (hk : k ≠ 0) : ((pkS s).1 = k ∧ anyS s k = (pkS s, onS s)) ∨ ((pkS s).1 ≠ k ∧ anyS s k = (zT, wrongS s)) := by
 rw [any_is hk]
 by_cases h : (pkS s).1 = k
 ·exact .inl ⟨h, if_pos h⟩
 ·exact .inr ⟨h, if_neg h⟩
theorem number_calls (s : PS) (q p g : Nat) (d : Int) (w : World) (h : PsG w q p g d s) (R : Ending → World → Prop) (hR : Hid (∀ w' g', Nx w q p g d w' g' (intS s).2 → R (.returned (.int .i64 (intS s).1)) w')) : Calls Tryz.prog 218 #[ptV q] w R := by
 have b0 := h.b0
 have hr : intS s = ((anyS s 2).1.2.2.2.2, (anyS s 2).2) := rfl
 rw [hr] at hR
 have cP := Lib.hid fun R hR => takeK_calls s 2 (by decide) q p g d w h R hR
 go_enter Tryz.func218, Tryz.ntmps218
 go_wp2_with fail
 refine cP.out _ (Lib.hid fun w1 n1 => ?_)
 clear cP b0
 rcases any_cases s 2 (by decide) with ⟨h0, e⟩ | ⟨h0, e⟩
 ·rw [e] at hR
  rw [if_pos ⟨by decide, h0⟩] at n1
  rw [if_pos ⟨by decide, h0⟩, decide_eq_true (show (2 : Int) ≠ 0 ∧ (pkS s).1 = 2 from ⟨by decide, h0⟩)]
  simp only at hR
  clear h0 e hr
  generalize pkS s = t at *
  obtain ⟨t0, t1, t2, t3, t4⟩ := t
  simp only [tkV] at *
  have bA := (Below.refl w1.heap.size w1).alloc (Nat.le_refl _) (.cells #[.int .i64 t0, .int .i64 t1, .int .i64 t2, .string t3, .int .i64 t4] 212)
  have fin := Lib.hid (hR.out _ _ (n1.on bA))
  clear hR n1 bA
  go_wp2_with fail
  exact fin.out
 ·rw [e] at hR
  have e2 : ¬ ((2 : Int) ≠ 0 ∧ (pkS s).1 = 2) := fun x => h0 x.2
  rw [if_neg e2] at n1
  rw [if_neg e2, decide_eq_false e2]
  simp only at hR
  have tz : tkV zT = .agg #[.int .i64 0, .int .i64 0, .int .i64 0, .string ⟨#[]⟩, .int .i64 0] := rfl
  rw [tz]
  clear h0 e hr e2
  have bA := (Below.refl w1.heap.size w1).alloc (Nat.le_refl _) (.cells #[.int .i64 0, .int .i64 0, .int .i64 0, .string ⟨#[]⟩, .int .i64 0] 212)
  have n2 := n1.on bA
  have cR := Lib.hid fun R hR => refuse_calls s q p g d _ n2.ps R hR
  have y4 := (Lib.cell_of_heap (heap_alloc_new w1 (.cells #[.int .i64 0, .int .i64 0, .int .i64 0, .string ⟨#[]⟩, .int .i64 0] 212)) 4).trans rfl
  have hb := heap_alloc_new w1 (.cells #[.int .i64 0, .int .i64 0, .int .i64 0, .string ⟨#[]⟩, .int .i64 0] 212)
  have l1 := n2.ps.lts
  have hpb : p ≠ w1.heap.size := by have := n1.ps.lts; omega
  clear n1 bA
  go_upto_region 2 with fail
  generalize w1.alloc (.cells #[.int .i64 0, .int .i64 0, .int .i64 0, .string ⟨#[]⟩, .int .i64 0] 212) = V at *
  go_wp2_with fail
  refine cR.out _ (Lib.hid fun w3 g3 n3 => ?_)
  have y4 := (Lib.cell_of_heap ((n3.gr.block _ (bltK hb) (by simpa using hpb.symm)).trans hb) 4).trans rfl
  have fin := Lib.hid (hR.out _ _ (n2.trans n3))
  clear hR n2 n3 cR
  go_wp2_with fail
  exact fin.out
abbrev wrV (x : Wr) : Value := .agg #[.string x.1, .int .i64 x.2]
theorem nameK_calls (s : PS) (q p g : Nat) (d : Int) (w : World) (h : PsG w q p g d s) (R : Ending → World → Prop) (hR : Hid (∀ w' g', Nx w q p g d w' g' (nameS s).2 → R (.returned (wrV (nameS s).1)) w')) : Calls Tryz.prog 154 #[ptV q] w R := by
 have lp := h.cur.lt
 have n := (Nx.rfl' h).alloc (.cells #[.string ⟨#[]⟩, .int .i64 0] 27)
 have bR := Bx.new (Nx.rfl' h) #[.string ⟨#[]⟩, .int .i64 0] 27
 have hr : nameS s = (((anyS s 1).1.2.2.2.1, (anyS s 1).1.2.1), (anyS s 1).2) := rfl
 rw [hr] at hR
 go_enter Tryz.func154, Tryz.ntmps154
 go_upto_region 1 with fail
 generalize w.alloc (.cells #[.string ⟨#[]⟩, .int .i64 0] 27) = V at *
 have b0 := n.ps.b0
 go_wp2_with fail
 refine takeK_calls s 1 (by decide) q p g d V n.ps _ (Lib.hid fun w1 n1 => ?_)
 replace bR := bR.nx n1 lp
 replace n := n.trans n1
 clear n1 b0
 rcases any_cases s 1 (by decide) with ⟨h0, e⟩ | ⟨h0, e⟩
 ·rw [e] at hR
  rw [if_pos ⟨by decide, h0⟩] at n
  rw [if_pos ⟨by decide, h0⟩, decide_eq_true (show (1 : Int) ≠ 0 ∧ (pkS s).1 = 1 from ⟨by decide, h0⟩)]
  simp only at hR
  clear h0 e hr
  generalize pkS s = t at *
  obtain ⟨t0, t1, t2, t3, t4⟩ := t
  simp only [tkV] at *
  have bT := Bx.new n #[.int .i64 t0, .int .i64 t1, .int .i64 t2, .string t3, .int .i64 t4] 212
  replace bR := bR.alloc (.cells #[.int .i64 t0, .int .i64 t1, .int .i64 t2, .string t3, .int .i64 t4] 212)
  replace n := n.alloc (.cells #[.int .i64 t0, .int .i64 t1, .int .i64 t2, .string t3, .int .i64 t4] 212)
  have fin := Lib.hid (hR.out _ _ ((n.setb bR h 0 (.string t3)).setb (bR.set 0 _) h 1 (.int .i64 t1)))
  have r0 := (bR.c 0).trans rfl
  have r1 := (bR.c 1).trans rfl
  have rf0 := Lib.frozen_of_heap bR.at_ 0
  have rf1 := Lib.frozen_of_heap bR.at_ 1
  clear hR n h bR bT
  go_wp2_with fail
  first | refine bodyPost_ret ?_ rfl fin.out | refine bodyPost_end ?_ rfl fin.out
  simp [results, Tryz.results154, go_sem, r0, r1]
 ·rw [e] at hR
  have e2 : ¬ ((1 : Int) ≠ 0 ∧ (pkS s).1 = 1) := fun x => h0 x.2
  rw [if_neg e2] at n
  rw [if_neg e2, decide_eq_false e2]
  simp only at hR
  have tz : tkV zT = .agg #[.int .i64 0, .int .i64 0, .int .i64 0, .string ⟨#[]⟩, .int .i64 0] := rfl
  rw [tz]
  clear h0 e hr e2
  have bT := Bx.new n #[.int .i64 0, .int .i64 0, .int .i64 0, .string ⟨#[]⟩, .int .i64 0] 212
  replace bR := bR.alloc (.cells #[.int .i64 0, .int .i64 0, .int .i64 0, .string ⟨#[]⟩, .int .i64 0] 212)
  replace n := n.alloc (.cells #[.int .i64 0, .int .i64 0, .int .i64 0, .string ⟨#[]⟩, .int .i64 0] 212)
  go_upto_region 2 with fail
  generalize w1.alloc (.cells #[.int .i64 0, .int .i64 0, .int .i64 0, .string ⟨#[]⟩, .int .i64 0] 212) = V2 at *
  generalize w1.heap.size = B at *
  go_wp2_with fail
  refine refuse_calls s q p g d _ n.ps _ (Lib.hid fun w3 g3 n3 => ?_)
  replace bR := bR.nx n3 lp
  replace bT := bT.nx n3 lp
  replace n := n.trans n3
  clear n3
  have fin := Lib.hid (hR.out _ _ ((n.setb bR h 0 (.string ⟨#[]⟩)).setb (bR.set 0 _) h 1 (.int .i64 0)))
  have r0 := (bR.c 0).trans rfl
  have r1 := (bR.c 1).trans rfl
  have rf0 := Lib.frozen_of_heap bR.at_ 0
  have rf1 := Lib.frozen_of_heap bR.at_ 1
  have t1 := (bT.c 1).trans rfl
  have t3 := (bT.c 3).trans rfl
  clear hR n h bR bT
  go_wp2_with fail
  first | refine bodyPost_ret ?_ rfl fin.out | refine bodyPost_end ?_ rfl fin.out
  simp [results, Tryz.results154, go_sem, r0, r1]
  exact ⟨rfl, rfl⟩
structure Nt (T : Nat) (w : World) (q p g : Nat) (d : Int) (w' : World) (g' : Nat) (s' : PS) : Prop where
 g : g' = g ∨ w.heap.size ≤ g'
 ps : PsG w' q p g' d s'
 ch : Ch (fun k => k = p ∨ k = T) w w'
def IsF (k : FuncId) : Prop := ∀ (args : Array Value) (w : World), (callFunc k args).run Tryz.prog w = .ok (.enter k args) w
theorem inside_calls (k : FuncId) (hk : IsF k) (caps : Array Value) (T : Nat) (a b : ByteArray) (s s2 : PS) (q p g : Nat) (d : Int) (w : World) (h : PsG w q p g d s) (Q : World → World → Prop)
  (hC : Hid (∀ W g1, Nx w q p g d W g1 (markS s a) → ∀ R : Ending → World → Prop, Hid (∀ W' g2, Nt T W q p g1 d W' g2 s2 → Q W W' → R (.returned (.tuple #[])) W') → Calls Tryz.prog k caps W R)) (R : Ending → World → Prop)
  (hR : Hid (∀ W W' W'' g1 g2 g3, Nx w q p g d W g1 (markS s a) → Nt T W q p g1 d W' g2 s2 → Q W W' → Nx W' q p g2 d W'' g3 (markS s2 b) → R (.returned (.tuple #[])) W'')) : Calls Tryz.prog 151 #[ptV q, .string a, .string b, .func (.func k) #[] caps] w R := by
 have b0 := h.b0
 unfold IsF at hk
 go_enter Tryz.func151, Tryz.ntmps151
 go_wp2_with fail
 refine need_calls s a q p g d w h _ (Lib.hid fun w1 g1 o1 n1 => ?_)
 clear b0
 go_wp2_with fail
 refine hC.out w1 g1 n1 _ (Lib.hid fun w2 g2 n2 q2 => ?_)
 have b0 := n2.ps.b0
 go_wp2_with fail
 refine need_calls s2 b q p g2 d w2 n2.ps _ (Lib.hid fun w3 g3 o3 n3 => ?_)
 have fin := Lib.hid (hR.out w1 w2 w3 g1 g2 g3 n1 n2 q2 n3)
 clear b0 hR hC n1 n2 n3 q2
 go_wp2_with fail
 first | refine bodyPost_ret ?_ rfl fin.out | refine bodyPost_end ?_ rfl fin.out
 simp [results, Tryz.results151, go_sem]
end Go.Proofs.YtncijmodlhijoaaGreat.Syn
