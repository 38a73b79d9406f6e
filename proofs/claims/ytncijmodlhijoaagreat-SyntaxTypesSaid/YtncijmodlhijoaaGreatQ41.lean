import Derived.Test.YtncijmodlhijoaaGreatQ40
import Derived.Test.YtncijmodlhijoaaGreatQ37
set_option linter.unusedVariables false
set_option maxRecDepth 100000
set_option maxHeartbeats 4000000
namespace Go.Proofs.YtncijmodlhijoaaGreat.Tok
end Go.Proofs.YtncijmodlhijoaaGreat.Tok
namespace Go.Proofs.YtncijmodlhijoaaGreat.Cur
open Go.RowKit Go.Lib Utf Tok
abbrev ptV (p : Nat) : Value := .pointer (some ⟨p, 0, none⟩)
def restS (c : Cu) : List Tk := if c.2.2.1 ≠ 0 then [(0, c.2.2.2, c.2.2.2, ByteArray.empty, 0)] else c.1
theorem restS_fail {c : Cu} (h : c.2.2.1 ≠ 0) : restS c = [(0, c.2.2.2, c.2.2.2, ByteArray.empty, 0)] := if_pos h
theorem restS_ok {c : Cu} (h : c.2.2.1 = 0) : restS c = c.1 := if_neg (by simpa using h)
theorem restS_end {c : Cu} (h : EndL c.1) : EndL (restS c) := by
 unfold restS
 split
 ·exact rfl
 ·exact h
theorem restS_hd (c : Cu) : hdT (restS c) = peekS c := by
 unfold restS peekS
 split <;> rfl
structure CurG (w : World) (p : Nat) (c : Cu) (g : Nat) : Prop where
 lt : p < w.heap.size
 lg : g < w.heap.size
 ends : EndL c.1
 box : ∃ o k, w.heap[p]? = some (.cells #[.slice (some ⟨g, o, none⟩) (restS c).length k, .int .i64 c.2.1, .int .i64 c.2.2.1, .int .i64 c.2.2.2] 210) ∧ RdK w (.slice (some ⟨g, o, none⟩) (restS c).length k) (restS c)
theorem rdk_blk {w w' : World} {g o n k : Nat} {l : List Tk} (h : RdK w (.slice (some ⟨g, o, none⟩) n k) l) (hg : w'.heap[g]? = w.heap[g]?) (hs : w.heap.size ≤ w'.heap.size) : RdK w' (.slice (some ⟨g, o, none⟩) n k) l := by
 obtain ⟨A, n', c', e, hl, hn, hc⟩ := h
 simp only [Value.slice.injEq] at e
 obtain ⟨rfl, rfl, rfl⟩ := e
 refine ⟨_, _, _, rfl, hl, hn, fun h0 => ?_⟩
 obtain ⟨g', o', e, hg', hcc⟩ := hc h0
 simp only [Option.some.injEq, Addr.mk.injEq] at e
 obtain ⟨rfl, rfl, -⟩ := e
 exact ⟨g, o, rfl, Nat.lt_of_lt_of_le hg' hs, fun j u hj => (World.cell?_of_block (a := ⟨g, o + j, none⟩) hg).trans (hcc j u hj)⟩
theorem rdk_first {w : World} {g o n k : Nat} {l : List Tk} (h : RdK w (.slice (some ⟨g, o, none⟩) n k) l) (hl : EndL l) : g < w.heap.size ∧ n = l.length ∧ n ≤ k ∧ w.cell? ⟨g, o, none⟩ = some (.int .i64 (hdT l).1) ∧ w.cell? ⟨g, o + 1, none⟩ = some (.int .i64 (hdT l).2.1) ∧
  w.cell? ⟨g, o + 2, none⟩ = some (.int .i64 (hdT l).2.2.1) ∧ w.cell? ⟨g, o + 3, none⟩ = some (.string (hdT l).2.2.2.1) ∧ w.cell? ⟨g, o + 4, none⟩ = some (.int .i64 (hdT l).2.2.2.2) := by
 obtain ⟨A, c, e, hn, hc⟩ := h.op
 simp only [Value.slice.injEq] at e
 obtain ⟨rfl, rfl, rfl⟩ := e
 have h0 := List.length_pos_iff.2 hl.ne
 obtain ⟨g', o', e, hg, hcc⟩ := hc h0
 simp only [Option.some.injEq, Addr.mk.injEq] at e
 obtain ⟨rfl, rfl, -⟩ := e
 have := hcc 0 h0
 rw [hd_tN hl.ne] at this
 simp only [Nat.zero_mul, Nat.add_zero] at this
 exact ⟨hg, rfl, hn, this⟩
theorem CurG.op {w : World} {p g : Nat} {c : Cu} (h : CurG w p c g) : ∃ o k, w.heap[p]? = some (.cells #[.slice (some ⟨g, o, none⟩) (restS c).length k, .int .i64 c.2.1, .int .i64 c.2.2.1, .int .i64 c.2.2.2] 210) ∧ RdK w (.slice (some ⟨g, o, none⟩) (restS c).length k) (restS c) ∧
  (restS c).length ≤ k ∧ w.cell? ⟨g, o, none⟩ = some (.int .i64 (peekS c).1) ∧ w.cell? ⟨g, o + 1, none⟩ = some (.int .i64 (peekS c).2.1) ∧
  w.cell? ⟨g, o + 2, none⟩ = some (.int .i64 (peekS c).2.2.1) ∧ w.cell? ⟨g, o + 3, none⟩ = some (.string (peekS c).2.2.2.1) ∧ w.cell? ⟨g, o + 4, none⟩ = some (.int .i64 (peekS c).2.2.2.2) := by
 obtain ⟨o, k, h1, h2⟩ := h.box
 obtain ⟨-, -, h3, h4⟩ := rdk_first h2 (restS_end h.ends)
 rw [restS_hd] at h4
 exact ⟨o, k, h1, h2, h3, h4⟩
theorem CurG.apart {w : World} {p g q : Nat} {c : Cu} (h : CurG w p c g) {a d e z : Value} {t : TypeId} (hd : ∀ s, z ≠ .string s) (hq : w.heap[q]? = some (.cells #[a, d, e, z] t)) : g ≠ q := by
 rintro rfl
 obtain ⟨o, k, -, -, -, -, -, -, h3, -⟩ := h.op
 rw [Lib.cell_of_heap hq] at h3
 match o, h3 with
 | 0, h3 => exact hd _ (by simpa using h3)
 | n + 1, h3 => simp at h3
theorem CurG.ne {w : World} {p g : Nat} {c : Cu} (h : CurG w p c g) : g ≠ p := by
 obtain ⟨o, k, h1, -⟩ := h.op
 exact h.apart (by simp) h1
theorem CurG.keep {w w' : World} {p g : Nat} {c : Cu} (h : CurG w p c g) (hs : w.heap.size ≤ w'.heap.size) (hp : w'.heap[p]? = w.heap[p]?) (hg : w'.heap[g]? = w.heap[g]?) : CurG w' p c g := by
 obtain ⟨o, k, h1, h2⟩ := h.box
 exact ⟨Nat.lt_of_lt_of_le h.lt hs, Nat.lt_of_lt_of_le h.lg hs, h.ends, o, k, hp.trans h1, rdk_blk h2 hg hs⟩
theorem CurG.below {w w' : World} {p g b : Nat} {c : Cu} (h : CurG w p c g) (hp : p < b) (hg : g < b) (hb : Below b w w') : CurG w' p c g := h.keep hb.size (hb.block _ hp) (hb.block _ hg)
theorem CurG.all {w w' : World} {p g : Nat} {c : Cu} (h : CurG w p c g) (hb : Below w.heap.size w w') : CurG w' p c g := h.below h.lt h.lg hb
theorem set_ne {w : World} {q o k : Nat} {v : Value} (h : k ≠ q) : (w.setCell ⟨q, o, none⟩ v).heap[k]? = w.heap[k]? := Below.heap_setCell _ ⟨q, o, none⟩ v k h
theorem set_size {w : World} {q o : Nat} {v : Value} : (w.setCell ⟨q, o, none⟩ v).heap.size = w.heap.size := by simp [World.setCell]
theorem CurG.set {w : World} {p g q o : Nat} {c : Cu} (h : CurG w p c g) (hp : p ≠ q) (hg : g ≠ q) (v : Value) : CurG (w.setCell ⟨q, o, none⟩ v) p c g := h.keep (Nat.le_of_eq set_size.symm) (set_ne hp) (set_ne hg)
def CurP (w : World) (p : Nat) (c : Cu) : Prop := ∃ g, CurG w p c g
theorem grow_set {w W : World} {p o : Nat} (g : w.grownBy W (some p)) (v : Value) : w.grownBy (W.setCell ⟨p, o, none⟩ v) (some p) :=
 ⟨((Below.refl p W).setCell (p := ⟨p, o, none⟩) (Nat.le_refl _) v).os.trans g.os, ((Below.refl p W).setCell (p := ⟨p, o, none⟩) (Nat.le_refl _) v).tape.trans g.tape, ((Below.refl p W).setCell (p := ⟨p, o, none⟩) (Nat.le_refl _) v).output.trans g.output,
  Nat.le_trans g.size (Nat.le_of_eq set_size.symm), fun k hk hr => (set_ne (by simpa using hr)).trans (g.block k hk hr)⟩
theorem grow_bl {w w' : World} {p : Nat} (h : Below w.heap.size w w') : w.grownBy w' (some p) := ⟨h.os, h.tape, h.output, h.size, fun k hk _ => h.block k hk⟩
theorem grow_tr {w w' w'' : World} {row : Option Nat} (h : w.grownBy w' row) (h' : w'.grownBy w'' row) : w.grownBy w'' row :=
 ⟨h'.os.trans h.os, h'.tape.trans h.tape, h'.output.trans h.output, Nat.le_trans h.size h'.size, fun k hk hr => (h'.block k (Nat.lt_of_lt_of_le hk h.size) hr).trans (h.block k hk hr)⟩
theorem grow_on {w W W' : World} {p : Nat} (g : w.grownBy W (some p)) (b : Below w.heap.size W W') : w.grownBy W' (some p) :=
 ⟨b.os.trans g.os, b.tape.trans g.tape, b.output.trans g.output, Nat.le_trans g.size b.size, fun k hk hr => (b.block k hk).trans (g.block k hk hr)⟩
theorem set_at {w : World} {p : Nat} {cs : Array Value} {t : TypeId} (h : w.heap[p]? = some (.cells cs t)) (o : Nat) (v : Value) : (w.setCell ⟨p, o, none⟩ v).heap[p]? = some (.cells (cs.setIfInBounds o v) t) := by
 simp [World.setCell, Array.getElem?_modify, h]
theorem peek_lt {c : Cu} (h : (peekS c).1 ≠ 0) : c.2.2.1 = 0 ∧ (hdT c.1).1 ≠ 0 := by
 by_cases he : c.2.2.1 = 0
 ·exact ⟨he, by rwa [peek_ok he] at h⟩
 ·exact absurd (by rw [peek_fail he]) h
theorem next_same {c : Cu} (h : (peekS c).1 = 0) : nextS c = c := by
 unfold nextS
 by_cases he : c.2.2.1 = 0
 ·rw [peek_ok he] at h
  rw [if_pos (.inr h)]
 ·rw [if_pos (.inl he)]
theorem restS_two {c : Cu} (hl : EndL c.1) (h : (peekS c).1 ≠ 0) : 1 < (restS c).length := by
 obtain ⟨he, h2⟩ := peek_lt h
 rw [restS_ok he]
 have := List.length_pos_iff.2 (hl.tail h2).ne
 rw [List.length_tail] at this
 omega
theorem CurG.step {w W : World} {p g o k : Nat} {c : Cu} (h : CurG w p c g) (hp : w.heap[p]? = some (.cells #[.slice (some ⟨g, o, none⟩) (restS c).length k, .int .i64 c.2.1, .int .i64 c.2.2.1, .int .i64 c.2.2.2] 210))
  (rd : RdK w (.slice (some ⟨g, o, none⟩) (restS c).length k) (restS c)) (h1 : (peekS c).1 ≠ 0) (hb : Below w.heap.size w W) :
  CurG (W.setCell ⟨p, 0, none⟩ (.slice (some ⟨g, o + 5, none⟩) ((restS c).length - 1) (k - 1))) p (nextS c) g ∧ w.grownBy (W.setCell ⟨p, 0, none⟩ (.slice (some ⟨g, o + 5, none⟩) ((restS c).length - 1) (k - 1))) (some p) := by
 obtain ⟨he, h2⟩ := peek_lt h1
 obtain ⟨l, d, e, z⟩ := c
 simp only at he h2
 subst he
 have hl : restS (l, d, 0, z) = l := restS_ok rfl
 have hn : nextS (l, d, 0, z) = (l.tail, d, 0, z) := by unfold nextS; rw [if_neg (by rintro (q | q); exact q rfl; exact h2 q)]
 have hl2 : restS (l.tail, d, 0, z) = l.tail := restS_ok rfl
 rw [hl] at rd hp ⊢
 rw [hn]
 have hE : EndL l := h.ends
 have gr := grow_set (o := 0) (grow_bl (p := p) hb) (.slice (some ⟨g, o + 5, none⟩) (l.length - 1) (k - 1))
 refine ⟨⟨Nat.lt_of_lt_of_le h.lt gr.size, Nat.lt_of_lt_of_le h.lg gr.size, hE.tail h2, o + 5, k - 1, ?_, ?_⟩, gr⟩
 ·rw [set_at ((hb.block _ h.lt).trans hp)]
  rw [hl2, List.length_tail]
  rfl
 ·rw [hl2, List.length_tail]
  exact rdk_blk (RdK.tail rd (List.length_pos_iff.2 hE.ne)) ((set_ne h.ne).trans (hb.block _ h.lg)) gr.size
theorem set5 {b q : Nat} {w W : World} (hq : b ≤ q) (n : Below b w W) (a0 a1 a2 a3 a4 : Value) : Below b w (((((W.setCell ⟨q, 0, none⟩ a0).setCell ⟨q, 1, none⟩ a1).setCell ⟨q, 2, none⟩ a2).setCell ⟨q, 3, none⟩ a3).setCell ⟨q, 4, none⟩ a4) :=
 ((((n.setCell (p := ⟨q, 0, none⟩) hq a0).setCell (p := ⟨q, 1, none⟩) hq a1).setCell (p := ⟨q, 2, none⟩) hq a2).setCell (p := ⟨q, 3, none⟩) hq a3).setCell (p := ⟨q, 4, none⟩) hq a4
theorem made_calls (c : Cu) (p g : Nat) (w : World) (h : CurG w p c g) (R : Ending → World → Prop) (hR : Hid (∀ w', Below w.heap.size w w' → R (.returned (.bool true)) w')) : Calls Tryz.prog 212 #[ptV p] w R := by
 obtain ⟨o, k, hp, -, -, -⟩ := h.op
 have i1 : (0 : Int) < ((restS c).length : Int) := by have := List.length_pos_iff.2 (restS_end h.ends).ne; omega
 have y0 := (Lib.cell_of_heap hp 0).trans rfl
 have fin := Lib.hid (hR.out _ (Below.refl w.heap.size w))
 clear h hR hp
 generalize (restS c).length = n at *
 have i2 : decide (0 < n) = true := decide_eq_true (by omega)
 go_enter Tryz.func212, Tryz.ntmps212
 go_wp2_with fail
 exact fin.out
theorem tok_new (w : World) (a b c d e : Value) : (w.alloc (.cells #[a, b, c, d, e] 212)).heap[w.heap.size]? = some (.cells #[a, b, c, d, e] 212) := heap_alloc_new w _
theorem fz {W : World} {q : Nat} {cs : Array Value} {t : TypeId} (h : W.heap[q]? = some (.cells cs t)) : W.frozen? ⟨q, 0, none⟩ = false ∧ W.frozen? ⟨q, 1, none⟩ = false ∧ W.frozen? ⟨q, 2, none⟩ = false ∧ W.frozen? ⟨q, 3, none⟩ = false ∧ W.frozen? ⟨q, 4, none⟩ = false :=
 ⟨Lib.frozen_of_heap h 0, Lib.frozen_of_heap h 1, Lib.frozen_of_heap h 2, Lib.frozen_of_heap h 3, Lib.frozen_of_heap h 4⟩
theorem five_of {W : World} {q : Nat} {a b c d e : Value} {t : TypeId} (h : W.heap[q]? = some (.cells #[a, b, c, d, e] t)) : W.cell? ⟨q, 0, none⟩ = some a ∧ W.cell? ⟨q, 1, none⟩ = some b ∧ W.cell? ⟨q, 2, none⟩ = some c ∧ W.cell? ⟨q, 3, none⟩ = some d ∧ W.cell? ⟨q, 4, none⟩ = some e := by
 refine ⟨?_, ?_, ?_, ?_, ?_⟩ <;> (rw [Lib.cell_of_heap h]; rfl)
theorem four_of {W : World} {q : Nat} {a b c d : Value} {t : TypeId} (h : W.heap[q]? = some (.cells #[a, b, c, d] t)) : W.cell? ⟨q, 0, none⟩ = some a ∧ W.cell? ⟨q, 1, none⟩ = some b ∧ W.cell? ⟨q, 2, none⟩ = some c ∧ W.cell? ⟨q, 3, none⟩ = some d := by
 refine ⟨?_, ?_, ?_, ?_⟩ <;> (rw [Lib.cell_of_heap h]; rfl)
theorem peek_calls (c : Cu) (p g : Nat) (w : World) (h : CurG w p c g) (R : Ending → World → Prop) (hR : Hid (∀ w', Below w.heap.size w w' → R (.returned (tkV (peekS c))) w')) : Calls Tryz.prog 130 #[ptV p] w R := by
 obtain ⟨o, k, hp, -, -, x0, x1, x2, x3, x4⟩ := h.op
 have i1 : (0 : Int) < ((restS c).length : Int) := by have := List.length_pos_iff.2 (restS_end h.ends).ne; omega
 have cM := Lib.hid fun (W : World) (hb : Below w.heap.size w W) R hR => made_calls c p g W (h.all hb) R hR
 obtain ⟨o1_, ho1_⟩ : ∃ oO_ : Obj, oO_ = .cells #[.int .i64 0, .int .i64 0, .int .i64 0, .string ⟨#[]⟩, .int .i64 0] 212 := ⟨_, rfl⟩
 have bA := (Below.refl w.heap.size w).alloc (Nat.le_refl _) o1_
 have hA := tok_new w (.int .i64 0) (.int .i64 0) (.int .i64 0) (.string ⟨#[]⟩) (.int .i64 0)
 have hl : w.heap.size < (w.alloc o1_).heap.size := by simp
 subst ho1_
 have hpl := h.lt
 have hgl := h.lg
 replace bA := Lib.hid bA
 clear h
 generalize peekS c = t at *
 obtain ⟨t0, t1, t2, t3, t4⟩ := t
 simp only [tkV] at hR
 generalize (restS c).length = n at *
 simp only at x0 x1 x2 x3 x4
 go_enter Tryz.func130, Tryz.ntmps130
 go_wp2_with fail
 generalize w.alloc (.cells #[.int .i64 0, .int .i64 0, .int .i64 0, .string ⟨#[]⟩, .int .i64 0] 212) = W2 at *
 refine cM.out W2 bA.out _ (Lib.hid fun w3 n3 => ?_)
 have hB := (n3.block _ hl).trans hA
 obtain ⟨m0, m1, m2, m3, m4⟩ := five_of hB
 obtain ⟨f0, f1, f2, f3, f4⟩ := fz hB
 have bC := bA.out.trans (n3.mono bA.out.size)
 have y0 := (bC.cell (p := ⟨p, 0, none⟩) hpl).trans ((Lib.cell_of_heap hp 0).trans rfl)
 replace x0 := (bC.cell (p := ⟨g, o, none⟩) hgl).trans x0
 replace x1 := (bC.cell (p := ⟨g, o + 1, none⟩) hgl).trans x1
 replace x2 := (bC.cell (p := ⟨g, o + 2, none⟩) hgl).trans x2
 replace x3 := (bC.cell (p := ⟨g, o + 3, none⟩) hgl).trans x3
 replace x4 := (bC.cell (p := ⟨g, o + 4, none⟩) hgl).trans x4
 have fin := Lib.hid (hR.out _ (set5 (Nat.le_refl _) bC (.int .i64 t0) (.int .i64 t1) (.int .i64 t2) (.string t3) (.int .i64 t4)))
 clear hA hB bA bC hR n3 cM hp
 go_wp2_with fail
 refine bodyPost_ret ?_ rfl fin.out
 simp [results, Tryz.results130, go_sem, m0, m1, m2, m3, m4]
theorem next_calls (c : Cu) (p g : Nat) (w : World) (h : CurG w p c g) (R : Ending → World → Prop) (hR : Hid (∀ w', CurG w' p (nextS c) g → w.grownBy w' (some p) → R (.returned (tkV (peekS c))) w')) : Calls Tryz.prog 289 #[ptV p] w R := by
 obtain ⟨o, k, hp, rd, -, -⟩ := h.op
 have i1 : (1 : Int) ≤ ((restS c).length : Int) := by have := List.length_pos_iff.2 (restS_end h.ends).ne; omega
 have hnk : (restS c).length ≤ k := by obtain ⟨-, -, q, -⟩ := rdk_first rd (restS_end h.ends); exact q
 have two := Lib.hid fun (h1 : (peekS c).1 ≠ 0) => restS_two h.ends h1
 have cP := Lib.hid fun (W : World) (hb : Below w.heap.size w W) R hR => peek_calls c p g W (h.all hb) R hR
 obtain ⟨o2_, ho2_⟩ : ∃ oO_ : Obj, oO_ = .cells #[.int .i64 0, .int .i64 0, .int .i64 0, .string ⟨#[]⟩, .int .i64 0] 212 := ⟨_, rfl⟩
 have bA := (Below.refl w.heap.size w).alloc (Nat.le_refl _) o2_
 have hA := tok_new w (.int .i64 0) (.int .i64 0) (.int .i64 0) (.string ⟨#[]⟩) (.int .i64 0)
 have hl : w.heap.size < (w.alloc o2_).heap.size := by simp
 subst ho2_
 have hpl := h.lt
 have hgl := h.lg
 replace bA := Lib.hid bA
 have stp := Lib.hid fun (W : World) (h1 : (peekS c).1 ≠ 0) (hb : Below w.heap.size w W) => h.step hp rd h1 hb
 have same := Lib.hid fun (W : World) (h1 : (peekS c).1 = 0) (hb : Below w.heap.size w W) => (show CurG W p (nextS c) g by rw [next_same h1]; exact h.all hb)
 clear h rd
 generalize peekS c = t at *
 obtain ⟨t0, t1, t2, t3, t4⟩ := t
 simp only [tkV] at hR cP
 simp only at stp same two
 generalize (restS c).length = n at *
 go_enter Tryz.func289, Tryz.ntmps289
 go_wp2_with fail
 generalize w.alloc (.cells #[.int .i64 0, .int .i64 0, .int .i64 0, .string ⟨#[]⟩, .int .i64 0] 212) = W2 at *
 refine cP.out W2 bA.out _ (Lib.hid fun w3 n3 => ?_)
 have hB := (n3.block _ hl).trans hA
 have bC := bA.out.trans (n3.mono bA.out.size)
 have hl3 := Nat.lt_of_lt_of_le hl n3.size
 have hC := tok_new w3 (.int .i64 t0) (.int .i64 t1) (.int .i64 t2) (.string t3) (.int .i64 t4)
 obtain ⟨o3_, ho3_⟩ : ∃ oO_ : Obj, oO_ = .cells #[.int .i64 t0, .int .i64 t1, .int .i64 t2, .string t3, .int .i64 t4] 212 := ⟨_, rfl⟩
 have hD := (((Below.refl w3.heap.size w3).alloc (Nat.le_refl _) o3_).block _ hl3).trans hB
 have bD := bC.alloc bC.size o3_
 have hs3 : w3.heap.size < (w3.alloc o3_).heap.size := by simp
 subst ho3_
 have hws := Nat.le_of_lt hl3
 clear hA hB bC n3 bA
 by_cases h0 : t0 = 0
 ·subst h0
  obtain ⟨m0, m1, m2, m3, m4⟩ := five_of hD
  obtain ⟨f0, f1, f2, f3, f4⟩ := fz hD
  obtain ⟨k0, k1, k2, k3, k4⟩ := five_of hC
  have bE := set5 (Nat.le_refl _) bD (.int .i64 0) (.int .i64 t1) (.int .i64 t2) (.string t3) (.int .i64 t4)
  have fin := Lib.hid (hR.out _ (same.out _ rfl bE) (grow_bl bE))
  clear hC hD hR bE bD same stp cP hp hl3 hs3 hws hl
  go_wp2_with fail
  refine bodyPost_ret ?_ rfl fin.out
  simp [results, Tryz.results289, go_sem, m0, m1, m2, m3, m4]
 ·have q1 : (t0 != 0) = true := by simpa using h0
  obtain ⟨cE, gE⟩ := stp.out _ h0 bD
  have h2 := two.out h0
  clear two
  have hD2 := (set_ne (q := p) (o := 0) (k := w.heap.size) (v := .slice (some ⟨g, o + 5, none⟩) (n - 1) (k - 1)) (by omega)).trans hD
  have hC2 := (set_ne (q := p) (o := 0) (k := w3.heap.size) (v := .slice (some ⟨g, o + 5, none⟩) (n - 1) (k - 1)) (by omega)).trans hC
  have y0 := (bD.cell (p := ⟨p, 0, none⟩) hpl).trans ((Lib.cell_of_heap hp 0).trans rfl)
  have z0 := Lib.frozen_of_heap ((bD.block _ hpl).trans hp) 0
  obtain ⟨k0, k1, k2, k3, k4⟩ := five_of hC
  obtain ⟨m0, m1, m2, m3, m4⟩ := five_of hD2
  obtain ⟨f0, f1, f2, f3, f4⟩ := fz hD2
  obtain ⟨l0, l1, l2, l3, l4⟩ := five_of hC2
  have bE := set5 (Nat.le_refl _) (Below.refl w.heap.size ((w3.alloc (.cells #[.int .i64 t0, .int .i64 t1, .int .i64 t2, .string t3, .int .i64 t4] 212)).setCell ⟨p, 0, none⟩ (.slice (some ⟨g, o + 5, none⟩) (n - 1) (k - 1)))) (.int .i64 t0) (.int .i64 t1) (.int .i64 t2) (.string t3) (.int .i64 t4)
  have fin := Lib.hid (hR.out _ (cE.below hpl hgl bE) (grow_on gE bE))
  clear hC hD hR bD same stp cP hp cE gE bE hD2 hC2 hl3 hs3 hws hl
  go_wp2_with fail
  refine bodyPost_ret ?_ rfl fin.out
  simp [results, Tryz.results289, go_sem, m0, m1, m2, m3, m4]
end Go.Proofs.YtncijmodlhijoaaGreat.Cur
