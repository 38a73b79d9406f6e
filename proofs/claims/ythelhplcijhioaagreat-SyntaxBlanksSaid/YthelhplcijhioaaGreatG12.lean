import Derived.Test.YthelhplcijhioaaGreatG7
import Derived.Test.YthelhplcijhioaaGreatG8
import Derived.Test.YthelhplcijhioaaGreatZTokC
import Derived.StillTailTactics
import Derived.Test.YthelhplcijhioaaGreatG11
/- The plain mathematics of layer 14: a cursor. No Go here. -/
set_option maxRecDepth 100000
set_option linter.unusedVariables false
namespace Go.Proofs.YthelhplcijhioaaGreat.Cur
open Go.Lib Go.Proofs.YthelhplcijhioaaGreat.Utf Go.Proofs.YthelhplcijhioaaGreat.Tok

/-- A cursor: the tokens that are left, the depth, the fault. -/
abbrev Cu := List Tk × Int × Int × Int
abbrev hdT (l : List Tk) : Tk := l.headD zT
def peekS (c : Cu) : Tk := if c.2.2.1 ≠ 0 then (0, c.2.2.2, c.2.2.2, ByteArray.empty, 0) else hdT c.1
def nextS (c : Cu) : Cu := if c.2.2.1 ≠ 0 ∨ (hdT c.1).1 = 0 then c else (c.1.tail, c.2)
def failS (c : Cu) (e z : Int) : Cu := if c.2.2.1 ≠ 0 ∨ e = 0 then c else (c.1, c.2.1, e, z)
/-- Is it a token of this kind and, if it is asked for, of this text? -/
def hasS (c : Cu) (k : Int) (x : ByteArray) (any : Bool) : Bool := decide ((peekS c).1 = k) && (any || decide ((peekS c).2.2.2.1 = x))
/-- Tokens, and an end behind. -/
def EndL : List Tk → Prop
  | [] => False
  | [t] => t.1 = 0
  | t :: u :: l => 1 ≤ t.1 ∧ EndL (u :: l)
theorem EndL.ne {l : List Tk} (h : EndL l) : l ≠ [] := fun e => by rw [e] at h; exact h
theorem EndL.hd {l : List Tk} (h : EndL l) : ∃ t m, l = t :: m ∧ (t.1 = 0 ∧ m = [] ∨ 1 ≤ t.1 ∧ EndL m) := by
  match l, h with
  | [t], h => exact ⟨t, [], rfl, .inl ⟨h, rfl⟩⟩
  | t :: u :: l, h => exact ⟨t, u :: l, rfl, .inr h⟩
theorem EndL.tail {l : List Tk} (h : EndL l) (h1 : (hdT l).1 ≠ 0) : EndL l.tail := by
  obtain ⟨t, m, rfl, ⟨h2, -⟩ | ⟨-, h2⟩⟩ := h.hd
  · exact absurd h2 h1
  · exact h2
theorem endL_scn {s : ByteArray} : ∀ (l : List Tk) (a : Nat), a ≤ s.size → scnI s a false = (some l, 0, 0) → EndL l
  | [], a, ha, h => absurd rfl (scn_ne ha h).1
  | t :: l, a, ha, h => by
    obtain ⟨x, y, -, -, -, -, h5, -, h7⟩ := cov_next ha h
    rcases h7 with ⟨h0, rfl, -⟩ | ⟨h0, -, hne, -, hn⟩
    · exact h0
    · have ih := endL_scn l y h5 hn
      cases l with
      | nil => exact absurd rfl hne
      | cons u l => exact ⟨h0, ih⟩
theorem peek_fail {c : Cu} (h : c.2.2.1 ≠ 0) : peekS c = (0, c.2.2.2, c.2.2.2, ByteArray.empty, 0) := if_pos h
theorem peek_ok {c : Cu} (h : c.2.2.1 = 0) : peekS c = hdT c.1 := if_neg (by simpa using h)
theorem next_ok {c : Cu} (hl : EndL c.1) : EndL (nextS c).1 := by
  unfold nextS
  by_cases h : c.2.2.1 ≠ 0 ∨ (hdT c.1).1 = 0
  · rw [if_pos h]; exact hl
  · rw [if_neg h]; exact hl.tail fun q => h (.inr q)
theorem fail_ok {c : Cu} (e z : Int) (hl : EndL c.1) : EndL (failS c e z).1 := by unfold failS; split <;> exact hl
/-- After as many steps as there are tokens a cursor stands at the end. -/
def nextN : Nat → Cu → Cu
  | 0, c => c
  | k + 1, c => nextN k (nextS c)
end Go.Proofs.YthelhplcijhioaaGreat.Cur

/- Layer 14: the first of some tokens; all but the first. -/
set_option maxRecDepth 100000
set_option linter.unusedVariables false
namespace Go.Proofs.YthelhplcijhioaaGreat.Cur
open Go.RowKit Go.Lib Go.Proofs.YthelhplcijhioaaGreat.Utf Go.Proofs.YthelhplcijhioaaGreat.Tok

theorem hd_tN {l : List Tk} (h : l ≠ []) : tN l 0 = hdT l := by cases l with | nil => exact absurd rfl h | cons t l => rfl
theorem RdK.tail {w : World} {g o n c : Nat} {l : List Tk} (h : RdK w (.slice (some ⟨g, o, none⟩) n c) l) (h0 : 0 < l.length) : RdK w (.slice (some ⟨g, o + 5, none⟩) (n - 1) (c - 1)) l.tail := by
  obtain ⟨A, n', c', e, hl, hn, hc⟩ := h
  simp only [Value.slice.injEq] at e
  obtain ⟨rfl, rfl, rfl⟩ := e
  cases l with
  | nil => simp at h0
  | cons t m =>
    have e1 : flatG encT (t :: m) = encT t ++ flatG encT m := rfl
    rw [e1, List.length_append, encT_len] at hl
    refine ⟨_, _, _, rfl, by simp only [List.tail_cons]; omega, by omega, fun hp => ?_⟩
    obtain ⟨g', o', e2, hg, hcc⟩ := hc (by rw [e1, List.length_append, encT_len]; omega)
    simp only [Option.some.injEq, Addr.mk.injEq] at e2
    obtain ⟨rfl, rfl, -⟩ := e2
    refine ⟨g, o + 5, rfl, hg, fun j u hj => ?_⟩
    rw [Nat.add_assoc]
    refine hcc (5 + j) u ?_
    rw [e1, List.getElem?_append_right (by rw [encT_len]; omega), encT_len, Nat.add_sub_cancel_left]
    exact hj
end Go.Proofs.YthelhplcijhioaaGreat.Cur

/- Layer 14: the reference's Peek, Next, Fail, Take. -/
set_option maxRecDepth 100000
set_option linter.unusedVariables false
namespace Go.Proofs.YthelhplcijhioaaGreat.Cur
open Go.RowKit Go.Lib Go.Proofs.YthelhplcijhioaaGreat.Utf Go.Proofs.YthelhplcijhioaaGreat.Tok

/-- The document's cursor as a value. -/
abbrev cuV (v : Value) (c : Cu) : Value := .agg #[v, .int .i64 c.2.1, .int .i64 c.2.2.1, .int .i64 c.2.2.2]
theorem box_four (w : World) (a b c d : Value) (t : TypeId) :
    (w.alloc (.cells #[a, b, c, d] t)).cell? ⟨w.heap.size, 0, none⟩ = some a ∧ (w.alloc (.cells #[a, b, c, d] t)).cell? ⟨w.heap.size, 1, none⟩ = some b ∧
    (w.alloc (.cells #[a, b, c, d] t)).cell? ⟨w.heap.size, 2, none⟩ = some c ∧ (w.alloc (.cells #[a, b, c, d] t)).cell? ⟨w.heap.size, 3, none⟩ = some d := by
  have q1 := heap_alloc_new w (.cells #[a, b, c, d] t)
  refine ⟨?_, ?_, ?_, ?_⟩ <;> (rw [Lib.cell_of_heap q1]; rfl)
theorem two_four (w : World) (a b c d a' b' c' d' : Value) (t : TypeId) :
    let W := (w.alloc (.cells #[a, b, c, d] t)).alloc (.cells #[a', b', c', d'] t)
    W.cell? ⟨w.heap.size, 0, none⟩ = some a ∧ W.cell? ⟨w.heap.size, 1, none⟩ = some b ∧ W.cell? ⟨w.heap.size, 2, none⟩ = some c ∧ W.cell? ⟨w.heap.size, 3, none⟩ = some d ∧
    W.cell? ⟨w.heap.size + 1, 0, none⟩ = some a' ∧ W.cell? ⟨w.heap.size + 1, 1, none⟩ = some b' ∧ W.cell? ⟨w.heap.size + 1, 2, none⟩ = some c' ∧ W.cell? ⟨w.heap.size + 1, 3, none⟩ = some d' ∧
    W.frozen? ⟨w.heap.size + 1, 0, none⟩ = false ∧ W.frozen? ⟨w.heap.size + 1, 1, none⟩ = false ∧ W.frozen? ⟨w.heap.size + 1, 2, none⟩ = false ∧ W.frozen? ⟨w.heap.size + 1, 3, none⟩ = false := by
  intro W
  obtain ⟨q1, q2⟩ := heap_two w (.cells #[a, b, c, d] t) (.cells #[a', b', c', d'] t)
  refine ⟨?_, ?_, ?_, ?_, ?_, ?_, ?_, ?_, Lib.frozen_of_heap q2 0, Lib.frozen_of_heap q2 1, Lib.frozen_of_heap q2 2, Lib.frozen_of_heap q2 3⟩
  · rw [Lib.cell_of_heap q1]; rfl
  · rw [Lib.cell_of_heap q1]; rfl
  · rw [Lib.cell_of_heap q1]; rfl
  · rw [Lib.cell_of_heap q1]; rfl
  · rw [Lib.cell_of_heap q2]; rfl
  · rw [Lib.cell_of_heap q2]; rfl
  · rw [Lib.cell_of_heap q2]; rfl
  · rw [Lib.cell_of_heap q2]; rfl
theorem four14 {H : Nat} {w W : World} (nb : Below H w W) (a b c d : Value) : Below H w ((((W.setCell ⟨H + 1, 0, none⟩ a).setCell ⟨H + 1, 1, none⟩ b).setCell ⟨H + 1, 2, none⟩ c).setCell ⟨H + 1, 3, none⟩ d) :=
  (((nb.setCell (p := ⟨H + 1, 0, none⟩) (Nat.le_succ _) _).setCell (p := ⟨H + 1, 1, none⟩) (Nat.le_succ _) _).setCell (p := ⟨H + 1, 2, none⟩) (Nat.le_succ _) _).setCell (p := ⟨H + 1, 3, none⟩) (Nat.le_succ _) _
end Go.Proofs.YthelhplcijhioaaGreat.Cur

/- Layer 14: the reference's Fail, Take. -/
set_option maxRecDepth 100000
set_option linter.unusedVariables false
namespace Go.Proofs.YthelhplcijhioaaGreat.Cur
open Go.RowKit Go.Lib Go.Proofs.YthelhplcijhioaaGreat.Utf Go.Proofs.YthelhplcijhioaaGreat.Tok

theorem box_five' (w : World) (a b c d e : Value) (t : TypeId) :
    (w.alloc (.cells #[a, b, c, d, e] t)).cell? ⟨w.heap.size, 0, none⟩ = some a ∧ (w.alloc (.cells #[a, b, c, d, e] t)).cell? ⟨w.heap.size, 1, none⟩ = some b ∧ (w.alloc (.cells #[a, b, c, d, e] t)).cell? ⟨w.heap.size, 2, none⟩ = some c ∧
    (w.alloc (.cells #[a, b, c, d, e] t)).cell? ⟨w.heap.size, 3, none⟩ = some d ∧ (w.alloc (.cells #[a, b, c, d, e] t)).cell? ⟨w.heap.size, 4, none⟩ = some e := by
  have q1 := heap_alloc_new w (.cells #[a, b, c, d, e] t)
  refine ⟨?_, ?_, ?_, ?_, ?_⟩ <;> (rw [Lib.cell_of_heap q1]; rfl)
/-- What Take hands back. -/
def takeS (c : Cu) (k : Int) (x : ByteArray) (any : Bool) : Cu := if hasS c k x any = true then nextS c else c
end Go.Proofs.YthelhplcijhioaaGreat.Cur

/- Layer 14: the code's cursor in memory. -/
set_option maxRecDepth 100000
set_option linter.unusedVariables false
namespace Go.Proofs.YthelhplcijhioaaGreat.Cur
open Go.RowKit Go.Lib Go.Proofs.YthelhplcijhioaaGreat.Utf Go.Proofs.YthelhplcijhioaaGreat.Tok

abbrev ptV (p : Nat) : Value := .pointer (some ⟨p, 0, none⟩)
/-- What is left of a cursor that may have failed. -/
def restS (c : Cu) : List Tk := if c.2.2.1 ≠ 0 then [(0, c.2.2.2, c.2.2.2, ByteArray.empty, 0)] else c.1
theorem restS_fail {c : Cu} (h : c.2.2.1 ≠ 0) : restS c = [(0, c.2.2.2, c.2.2.2, ByteArray.empty, 0)] := if_pos h
theorem restS_ok {c : Cu} (h : c.2.2.1 = 0) : restS c = c.1 := if_neg (by simpa using h)
theorem restS_end {c : Cu} (h : EndL c.1) : EndL (restS c) := by
  unfold restS
  split
  · exact rfl
  · exact h
theorem restS_hd (c : Cu) : hdT (restS c) = peekS c := by
  unfold restS peekS
  split <;> rfl
/-- The code's cursor c at block p; what is left of it lies in block g. -/
structure CurG (w : World) (p : Nat) (c : Cu) (g : Nat) : Prop where
  lt : p < w.heap.size
  lg : g < w.heap.size
  ends : EndL c.1
  box : ∃ o k, w.heap[p]? = some (.cells #[.slice (some ⟨g, o, none⟩) (restS c).length k, .int .i64 c.2.1, .int .i64 c.2.2.1, .int .i64 c.2.2.2] 74) ∧ RdK w (.slice (some ⟨g, o, none⟩) (restS c).length k) (restS c)
theorem rdk_blk {w w' : World} {g o n k : Nat} {l : List Tk} (h : RdK w (.slice (some ⟨g, o, none⟩) n k) l) (hg : w'.heap[g]? = w.heap[g]?) (hs : w.heap.size ≤ w'.heap.size) : RdK w' (.slice (some ⟨g, o, none⟩) n k) l := by
  obtain ⟨A, n', c', e, hl, hn, hc⟩ := h
  simp only [Value.slice.injEq] at e
  obtain ⟨rfl, rfl, rfl⟩ := e
  refine ⟨_, _, _, rfl, hl, hn, fun h0 => ?_⟩
  obtain ⟨g', o', e, hg', hcc⟩ := hc h0
  simp only [Option.some.injEq, Addr.mk.injEq] at e
  obtain ⟨rfl, rfl, -⟩ := e
  exact ⟨g, o, rfl, Nat.lt_of_lt_of_le hg' hs, fun j u hj => (World.cell?_of_block (a := ⟨g, o + j, none⟩) hg).trans (hcc j u hj)⟩
theorem rdk_first {w : World} {g o n k : Nat} {l : List Tk} (h : RdK w (.slice (some ⟨g, o, none⟩) n k) l) (hl : EndL l) : g < w.heap.size ∧ n = l.length ∧ n ≤ k ∧ w.cell? ⟨g, o, none⟩ = some (.int .i64 (hdT l).1) ∧ w.cell? ⟨g, o + 1, none⟩ = some (.int .i64 (hdT l).2.1) ∧
    w.cell? ⟨g, o + 2, none⟩ = some (.int .i64 (hdT l).2.2.1) ∧ w.cell? ⟨g, o + 3, none⟩ = some (.string (hdT l).2.2.2.1) ∧ w.cell? ⟨g, o + 4, none⟩ = some (.int .i64 (hdT l).2.2.2.2) := by
  obtain ⟨A, c, e, hn, hc⟩ := h.op
  simp only [Value.slice.injEq] at e
  obtain ⟨rfl, rfl, rfl⟩ := e
  have h0 := List.length_pos_iff.2 hl.ne
  obtain ⟨g', o', e, hg, hcc⟩ := hc h0
  simp only [Option.some.injEq, Addr.mk.injEq] at e
  obtain ⟨rfl, rfl, -⟩ := e
  have := hcc 0 h0
  rw [hd_tN hl.ne] at this
  simp only [Nat.zero_mul, Nat.add_zero] at this
  exact ⟨hg, rfl, hn, this⟩
theorem CurG.op {w : World} {p g : Nat} {c : Cu} (h : CurG w p c g) : ∃ o k, w.heap[p]? = some (.cells #[.slice (some ⟨g, o, none⟩) (restS c).length k, .int .i64 c.2.1, .int .i64 c.2.2.1, .int .i64 c.2.2.2] 74) ∧ RdK w (.slice (some ⟨g, o, none⟩) (restS c).length k) (restS c) ∧
    (restS c).length ≤ k ∧ w.cell? ⟨g, o, none⟩ = some (.int .i64 (peekS c).1) ∧ w.cell? ⟨g, o + 1, none⟩ = some (.int .i64 (peekS c).2.1) ∧
    w.cell? ⟨g, o + 2, none⟩ = some (.int .i64 (peekS c).2.2.1) ∧ w.cell? ⟨g, o + 3, none⟩ = some (.string (peekS c).2.2.2.1) ∧ w.cell? ⟨g, o + 4, none⟩ = some (.int .i64 (peekS c).2.2.2.2) := by
  obtain ⟨o, k, h1, h2⟩ := h.box
  obtain ⟨-, -, h3, h4⟩ := rdk_first h2 (restS_end h.ends)
  rw [restS_hd] at h4
  exact ⟨o, k, h1, h2, h3, h4⟩
/-- A block that holds a cursor holds no token. -/
theorem CurG.apart {w : World} {p g q : Nat} {c : Cu} (h : CurG w p c g) {a d e z : Value} {t : TypeId} (hd : ∀ s, z ≠ .string s) (hq : w.heap[q]? = some (.cells #[a, d, e, z] t)) : g ≠ q := by
  rintro rfl
  obtain ⟨o, k, -, -, -, -, -, -, h3, -⟩ := h.op
  rw [Lib.cell_of_heap hq] at h3
  match o, h3 with
  | 0, h3 => exact hd _ (by simpa using h3)
  | n + 1, h3 => simp at h3
theorem CurG.ne {w : World} {p g : Nat} {c : Cu} (h : CurG w p c g) : g ≠ p := by
  obtain ⟨o, k, h1, -⟩ := h.op
  exact h.apart (by simp) h1
theorem CurG.keep {w w' : World} {p g : Nat} {c : Cu} (h : CurG w p c g) (hs : w.heap.size ≤ w'.heap.size) (hp : w'.heap[p]? = w.heap[p]?) (hg : w'.heap[g]? = w.heap[g]?) : CurG w' p c g := by
  obtain ⟨o, k, h1, h2⟩ := h.box
  exact ⟨Nat.lt_of_lt_of_le h.lt hs, Nat.lt_of_lt_of_le h.lg hs, h.ends, o, k, hp.trans h1, rdk_blk h2 hg hs⟩
theorem CurG.below {w w' : World} {p g b : Nat} {c : Cu} (h : CurG w p c g) (hp : p < b) (hg : g < b) (hb : Below b w w') : CurG w' p c g := h.keep hb.size (hb.block _ hp) (hb.block _ hg)
theorem CurG.all {w w' : World} {p g : Nat} {c : Cu} (h : CurG w p c g) (hb : Below w.heap.size w w') : CurG w' p c g := h.below h.lt h.lg hb
theorem CurG.grown {w w' : World} {p g q : Nat} {c : Cu} (h : CurG w p c g) (hp : p ≠ q) (hg : g ≠ q) (gr : w.grownBy w' (some q)) : CurG w' p c g := h.keep gr.size (gr.block _ h.lt (by simpa using hp)) (gr.block _ h.lg (by simpa using hg))
theorem set_ne {w : World} {q o k : Nat} {v : Value} (h : k ≠ q) : (w.setCell ⟨q, o, none⟩ v).heap[k]? = w.heap[k]? := Below.heap_setCell _ ⟨q, o, none⟩ v k h
theorem set_size {w : World} {q o : Nat} {v : Value} : (w.setCell ⟨q, o, none⟩ v).heap.size = w.heap.size := by simp [World.setCell]
theorem CurG.set {w : World} {p g q o : Nat} {c : Cu} (h : CurG w p c g) (hp : p ≠ q) (hg : g ≠ q) (v : Value) : CurG (w.setCell ⟨q, o, none⟩ v) p c g := h.keep (Nat.le_of_eq set_size.symm) (set_ne hp) (set_ne hg)
theorem CurG.four {w : World} {p g q : Nat} {c : Cu} (h : CurG w p c g) (hp : p ≠ q) (hg : g ≠ q) (a1 a2 a3 a4 : Value) : CurG ((((w.setCell ⟨q, 0, none⟩ a1).setCell ⟨q, 1, none⟩ a2).setCell ⟨q, 2, none⟩ a3).setCell ⟨q, 3, none⟩ a4) p c g :=
  (((h.set hp hg a1).set hp hg a2).set hp hg a3).set hp hg a4
/-- A cursor at a block. -/
def CurP (w : World) (p : Nat) (c : Cu) : Prop := ∃ g, CurG w p c g
theorem CurP.lt {w : World} {p : Nat} {c : Cu} (h : CurP w p c) : p < w.heap.size := by obtain ⟨g, h⟩ := h; exact h.lt
theorem CurP.below {w w' : World} {p : Nat} {c : Cu} (h : CurP w p c) (hb : Below w.heap.size w w') : CurP w' p c := by obtain ⟨g, h⟩ := h; exact ⟨g, h.all hb⟩
theorem CurP.kept {w w' : World} {p q : Nat} {c c' : Cu} (h : CurP w p c) (h' : CurP w q c') (hne : p ≠ q) (gr : w.grownBy w' (some q)) : CurP w' p c := by
  obtain ⟨g, h⟩ := h
  obtain ⟨g', h'⟩ := h'
  obtain ⟨o, k, h1, -⟩ := h'.op
  exact ⟨g, h.grown hne (h.apart (by simp) h1) gr⟩
theorem grow_set {w W : World} {p o : Nat} (g : w.grownBy W (some p)) (v : Value) : w.grownBy (W.setCell ⟨p, o, none⟩ v) (some p) :=
  ⟨((Below.refl p W).setCell (p := ⟨p, o, none⟩) (Nat.le_refl _) v).os.trans g.os, ((Below.refl p W).setCell (p := ⟨p, o, none⟩) (Nat.le_refl _) v).tape.trans g.tape, ((Below.refl p W).setCell (p := ⟨p, o, none⟩) (Nat.le_refl _) v).output.trans g.output,
    Nat.le_trans g.size (Nat.le_of_eq set_size.symm), fun k hk hr => (set_ne (by simpa using hr)).trans (g.block k hk hr)⟩
theorem grow_bl {w w' : World} {p : Nat} (h : Below w.heap.size w w') : w.grownBy w' (some p) := ⟨h.os, h.tape, h.output, h.size, fun k hk _ => h.block k hk⟩
theorem grow_tr {w w' w'' : World} {row : Option Nat} (h : w.grownBy w' row) (h' : w'.grownBy w'' row) : w.grownBy w'' row :=
  ⟨h'.os.trans h.os, h'.tape.trans h.tape, h'.output.trans h.output, Nat.le_trans h.size h'.size, fun k hk hr => (h'.block k (Nat.lt_of_lt_of_le hk h.size) hr).trans (h.block k hk hr)⟩
theorem grow_on {w W W' : World} {p : Nat} (g : w.grownBy W (some p)) (b : Below w.heap.size W W') : w.grownBy W' (some p) :=
  ⟨b.os.trans g.os, b.tape.trans g.tape, b.output.trans g.output, Nat.le_trans g.size b.size, fun k hk hr => (b.block k hk).trans (g.block k hk hr)⟩
theorem set_at {w : World} {p : Nat} {cs : Array Value} {t : TypeId} (h : w.heap[p]? = some (.cells cs t)) (o : Nat) (v : Value) : (w.setCell ⟨p, o, none⟩ v).heap[p]? = some (.cells (cs.setIfInBounds o v) t) := by
  simp [World.setCell, Array.getElem?_modify, h]
theorem peek_lt {c : Cu} (h : (peekS c).1 ≠ 0) : c.2.2.1 = 0 ∧ (hdT c.1).1 ≠ 0 := by
  by_cases he : c.2.2.1 = 0
  · exact ⟨he, by rwa [peek_ok he] at h⟩
  · exact absurd (by rw [peek_fail he]) h
theorem next_same {c : Cu} (h : (peekS c).1 = 0) : nextS c = c := by
  unfold nextS
  by_cases he : c.2.2.1 = 0
  · rw [peek_ok he] at h
    rw [if_pos (.inr h)]
  · rw [if_pos (.inl he)]
theorem restS_two {c : Cu} (hl : EndL c.1) (h : (peekS c).1 ≠ 0) : 1 < (restS c).length := by
  obtain ⟨he, h2⟩ := peek_lt h
  rw [restS_ok he]
  have := List.length_pos_iff.2 (hl.tail h2).ne
  rw [List.length_tail] at this
  omega
/-- The code's step to the next token. -/
theorem CurG.step {w W : World} {p g o k : Nat} {c : Cu} (h : CurG w p c g) (hp : w.heap[p]? = some (.cells #[.slice (some ⟨g, o, none⟩) (restS c).length k, .int .i64 c.2.1, .int .i64 c.2.2.1, .int .i64 c.2.2.2] 74))
    (rd : RdK w (.slice (some ⟨g, o, none⟩) (restS c).length k) (restS c)) (h1 : (peekS c).1 ≠ 0) (hb : Below w.heap.size w W) :
    CurG (W.setCell ⟨p, 0, none⟩ (.slice (some ⟨g, o + 5, none⟩) ((restS c).length - 1) (k - 1))) p (nextS c) g ∧ w.grownBy (W.setCell ⟨p, 0, none⟩ (.slice (some ⟨g, o + 5, none⟩) ((restS c).length - 1) (k - 1))) (some p) := by
  obtain ⟨he, h2⟩ := peek_lt h1
  obtain ⟨l, d, e, z⟩ := c
  simp only at he h2
  subst he
  have hl : restS (l, d, 0, z) = l := restS_ok rfl
  have hn : nextS (l, d, 0, z) = (l.tail, d, 0, z) := by unfold nextS; rw [if_neg (by rintro (q | q); exact q rfl; exact h2 q)]
  have hl2 : restS (l.tail, d, 0, z) = l.tail := restS_ok rfl
  rw [hl] at rd hp ⊢
  rw [hn]
  have hE : EndL l := h.ends
  have gr := grow_set (o := 0) (grow_bl (p := p) hb) (.slice (some ⟨g, o + 5, none⟩) (l.length - 1) (k - 1))
  refine ⟨⟨Nat.lt_of_lt_of_le h.lt gr.size, Nat.lt_of_lt_of_le h.lg gr.size, hE.tail h2, o + 5, k - 1, ?_, ?_⟩, gr⟩
  · rw [set_at ((hb.block _ h.lt).trans hp)]
    rw [hl2, List.length_tail]
    rfl
  · rw [hl2, List.length_tail]
    exact rdk_blk (RdK.tail rd (List.length_pos_iff.2 hE.ne)) ((set_ne h.ne).trans (hb.block _ h.lg)) gr.size
end Go.Proofs.YthelhplcijhioaaGreat.Cur

/- Layer 14: the code's made, Peek, Next. -/
set_option maxRecDepth 100000
set_option linter.unusedVariables false
namespace Go.Proofs.YthelhplcijhioaaGreat.Cur
open Go.RowKit Go.Lib Go.Proofs.YthelhplcijhioaaGreat.Utf Go.Proofs.YthelhplcijhioaaGreat.Tok

theorem set5 {b q : Nat} {w W : World} (hq : b ≤ q) (n : Below b w W) (a0 a1 a2 a3 a4 : Value) : Below b w (((((W.setCell ⟨q, 0, none⟩ a0).setCell ⟨q, 1, none⟩ a1).setCell ⟨q, 2, none⟩ a2).setCell ⟨q, 3, none⟩ a3).setCell ⟨q, 4, none⟩ a4) :=
  ((((n.setCell (p := ⟨q, 0, none⟩) hq a0).setCell (p := ⟨q, 1, none⟩) hq a1).setCell (p := ⟨q, 2, none⟩) hq a2).setCell (p := ⟨q, 3, none⟩) hq a3).setCell (p := ⟨q, 4, none⟩) hq a4
set_option maxRecDepth 100000 in
set_option maxHeartbeats 1000000 in
theorem made_calls (c : Cu) (p g : Nat) (w : World) (h : CurG w p c g) (R : Ending → World → Prop) (hR : Hid (∀ w', Below w.heap.size w w' → R (.returned (.bool true)) w')) : Calls Tryz.prog 63 #[ptV p] w R := by
  obtain ⟨o, k, hp, -, -, -⟩ := h.op
  have i1 : (0 : Int) < ((restS c).length : Int) := by have := List.length_pos_iff.2 (restS_end h.ends).ne; omega
  have y0 := (Lib.cell_of_heap hp 0).trans rfl
  have fin := Lib.hid (hR.out _ (Below.refl w.heap.size w))
  clear h hR hp
  generalize (restS c).length = n at *
  have i2 : decide (0 < n) = true := decide_eq_true (by omega)
  go_enter Tryz.func63, Tryz.ntmps63
  go_wp2_with fail
  exact fin.out
set_option maxRecDepth 100000 in
set_option maxHeartbeats 1000000 in
theorem madeN_calls (w : World) (R : Ending → World → Prop) (hR : Hid (∀ w', Below w.heap.size w w' → R (.returned (.bool false)) w')) : Calls Tryz.prog 63 #[.pointer none] w R := by
  have fin := Lib.hid (hR.out _ (Below.refl w.heap.size w))
  clear hR
  go_enter Tryz.func63, Tryz.ntmps63
  go_wp2_with fail
  exact fin.out
theorem tok_new (w : World) (a b c d e : Value) : (w.alloc (.cells #[a, b, c, d, e] 76)).heap[w.heap.size]? = some (.cells #[a, b, c, d, e] 76) := heap_alloc_new w _
theorem fz {W : World} {q : Nat} {cs : Array Value} {t : TypeId} (h : W.heap[q]? = some (.cells cs t)) : W.frozen? ⟨q, 0, none⟩ = false ∧ W.frozen? ⟨q, 1, none⟩ = false ∧ W.frozen? ⟨q, 2, none⟩ = false ∧ W.frozen? ⟨q, 3, none⟩ = false ∧ W.frozen? ⟨q, 4, none⟩ = false :=
  ⟨Lib.frozen_of_heap h 0, Lib.frozen_of_heap h 1, Lib.frozen_of_heap h 2, Lib.frozen_of_heap h 3, Lib.frozen_of_heap h 4⟩
theorem five_of {W : World} {q : Nat} {a b c d e : Value} {t : TypeId} (h : W.heap[q]? = some (.cells #[a, b, c, d, e] t)) : W.cell? ⟨q, 0, none⟩ = some a ∧ W.cell? ⟨q, 1, none⟩ = some b ∧ W.cell? ⟨q, 2, none⟩ = some c ∧ W.cell? ⟨q, 3, none⟩ = some d ∧ W.cell? ⟨q, 4, none⟩ = some e := by
  refine ⟨?_, ?_, ?_, ?_, ?_⟩ <;> (rw [Lib.cell_of_heap h]; rfl)
theorem four_of {W : World} {q : Nat} {a b c d : Value} {t : TypeId} (h : W.heap[q]? = some (.cells #[a, b, c, d] t)) : W.cell? ⟨q, 0, none⟩ = some a ∧ W.cell? ⟨q, 1, none⟩ = some b ∧ W.cell? ⟨q, 2, none⟩ = some c ∧ W.cell? ⟨q, 3, none⟩ = some d := by
  refine ⟨?_, ?_, ?_, ?_⟩ <;> (rw [Lib.cell_of_heap h]; rfl)
set_option maxRecDepth 100000 in
set_option maxHeartbeats 1000000 in
theorem peekN_calls (w : World) (R : Ending → World → Prop) (hR : Hid (∀ w', Below w.heap.size w w' → R (.returned (tkV zT)) w')) : Calls Tryz.prog 28 #[.pointer none] w R := by
  have bA := Lib.hid ((Below.refl w.heap.size w).alloc (Nat.le_refl _) (.cells #[.int .i64 0, .int .i64 0, .int .i64 0, .string ⟨#[]⟩, .int .i64 0] 76))
  have hA := tok_new w (.int .i64 0) (.int .i64 0) (.int .i64 0) (.string ⟨#[]⟩) (.int .i64 0)
  have hs := bA.out.size
  have hl : w.heap.size < (w.alloc (.cells #[.int .i64 0, .int .i64 0, .int .i64 0, .string ⟨#[]⟩, .int .i64 0] 76)).heap.size := by simp
  go_enter Tryz.func28, Tryz.ntmps28
  go_wp2_with fail
  generalize w.alloc (.cells #[.int .i64 0, .int .i64 0, .int .i64 0, .string ⟨#[]⟩, .int .i64 0] 76) = W2 at *
  refine madeN_calls W2 _ (Lib.hid fun w3 n3 => ?_)
  have hB := (n3.block _ hl).trans hA
  obtain ⟨m0, m1, m2, m3, m4⟩ := five_of hB
  obtain ⟨f0, f1, f2, f3, f4⟩ := fz hB
  have fin := Lib.hid (hR.out _ (set5 (Nat.le_refl _) (bA.out.trans (n3.mono bA.out.size)) (.int .i64 0) (.int .i64 0) (.int .i64 0) (.string ⟨#[]⟩) (.int .i64 0)))
  clear hA hB bA hR n3
  go_wp2_with fail
  refine bodyPost_ret ?_ rfl fin.out
  simp [results, Tryz.results28, go_sem, m0, m1, m2, m3, m4, tkV, zT] <;> rfl
set_option maxRecDepth 100000 in
set_option maxHeartbeats 1000000 in
theorem peek_calls (c : Cu) (p g : Nat) (w : World) (h : CurG w p c g) (R : Ending → World → Prop) (hR : Hid (∀ w', Below w.heap.size w w' → R (.returned (tkV (peekS c))) w')) : Calls Tryz.prog 28 #[ptV p] w R := by
  obtain ⟨o, k, hp, -, -, x0, x1, x2, x3, x4⟩ := h.op
  have i1 : (0 : Int) < ((restS c).length : Int) := by have := List.length_pos_iff.2 (restS_end h.ends).ne; omega
  have cM := Lib.hid fun (W : World) (hb : Below w.heap.size w W) R hR => made_calls c p g W (h.all hb) R hR
  have bA := (Below.refl w.heap.size w).alloc (Nat.le_refl _) (.cells #[.int .i64 0, .int .i64 0, .int .i64 0, .string ⟨#[]⟩, .int .i64 0] 76)
  have hA := tok_new w (.int .i64 0) (.int .i64 0) (.int .i64 0) (.string ⟨#[]⟩) (.int .i64 0)
  have hl : w.heap.size < (w.alloc (.cells #[.int .i64 0, .int .i64 0, .int .i64 0, .string ⟨#[]⟩, .int .i64 0] 76)).heap.size := by simp
  have hpl := h.lt
  have hgl := h.lg
  replace bA := Lib.hid bA
  clear h
  generalize peekS c = t at *
  obtain ⟨t0, t1, t2, t3, t4⟩ := t
  simp only [tkV] at hR
  generalize (restS c).length = n at *
  simp only at x0 x1 x2 x3 x4
  go_enter Tryz.func28, Tryz.ntmps28
  go_wp2_with fail
  generalize w.alloc (.cells #[.int .i64 0, .int .i64 0, .int .i64 0, .string ⟨#[]⟩, .int .i64 0] 76) = W2 at *
  refine cM.out W2 bA.out _ (Lib.hid fun w3 n3 => ?_)
  have hB := (n3.block _ hl).trans hA
  obtain ⟨m0, m1, m2, m3, m4⟩ := five_of hB
  obtain ⟨f0, f1, f2, f3, f4⟩ := fz hB
  have bC := bA.out.trans (n3.mono bA.out.size)
  have y0 := (bC.cell (p := ⟨p, 0, none⟩) hpl).trans ((Lib.cell_of_heap hp 0).trans rfl)
  replace x0 := (bC.cell (p := ⟨g, o, none⟩) hgl).trans x0
  replace x1 := (bC.cell (p := ⟨g, o + 1, none⟩) hgl).trans x1
  replace x2 := (bC.cell (p := ⟨g, o + 2, none⟩) hgl).trans x2
  replace x3 := (bC.cell (p := ⟨g, o + 3, none⟩) hgl).trans x3
  replace x4 := (bC.cell (p := ⟨g, o + 4, none⟩) hgl).trans x4
  have fin := Lib.hid (hR.out _ (set5 (Nat.le_refl _) bC (.int .i64 t0) (.int .i64 t1) (.int .i64 t2) (.string t3) (.int .i64 t4)))
  clear hA hB bA bC hR n3 cM hp
  go_wp2_with fail
  refine bodyPost_ret ?_ rfl fin.out
  simp [results, Tryz.results28, go_sem, m0, m1, m2, m3, m4]

set_option maxRecDepth 100000 in
set_option maxHeartbeats 2000000 in
theorem nextN_calls (w : World) (R : Ending → World → Prop) (hR : Hid (∀ w', Below w.heap.size w w' → R (.returned (tkV zT)) w')) : Calls Tryz.prog 111 #[.pointer none] w R := by
  have bA := Lib.hid ((Below.refl w.heap.size w).alloc (Nat.le_refl _) (.cells #[.int .i64 0, .int .i64 0, .int .i64 0, .string ⟨#[]⟩, .int .i64 0] 76))
  have hA := tok_new w (.int .i64 0) (.int .i64 0) (.int .i64 0) (.string ⟨#[]⟩) (.int .i64 0)
  have hl : w.heap.size < (w.alloc (.cells #[.int .i64 0, .int .i64 0, .int .i64 0, .string ⟨#[]⟩, .int .i64 0] 76)).heap.size := by simp
  have tz : tkV zT = .agg #[.int .i64 0, .int .i64 0, .int .i64 0, .string ⟨#[]⟩, .int .i64 0] := rfl
  rw [tz] at hR
  go_enter Tryz.func111, Tryz.ntmps111
  go_wp2_with fail
  generalize w.alloc (.cells #[.int .i64 0, .int .i64 0, .int .i64 0, .string ⟨#[]⟩, .int .i64 0] 76) = W2 at *
  refine peekN_calls W2 _ (Lib.hid fun w3 n3 => ?_)
  rw [tz]
  have hB := (n3.block _ hl).trans hA
  have bC := bA.out.trans (n3.mono bA.out.size)
  have hl3 := Nat.lt_of_lt_of_le hl n3.size
  have bD := bC.alloc bC.size (.cells #[.int .i64 0, .int .i64 0, .int .i64 0, .string ⟨#[]⟩, .int .i64 0] 76)
  have hC := tok_new w3 (.int .i64 0) (.int .i64 0) (.int .i64 0) (.string ⟨#[]⟩) (.int .i64 0)
  have hD := (((Below.refl w3.heap.size w3).alloc (Nat.le_refl _) (.cells #[.int .i64 0, .int .i64 0, .int .i64 0, .string ⟨#[]⟩, .int .i64 0] 76)).block _ hl3).trans hB
  obtain ⟨m0, m1, m2, m3, m4⟩ := five_of hD
  obtain ⟨f0, f1, f2, f3, f4⟩ := fz hD
  obtain ⟨k0, k1, k2, k3, k4⟩ := five_of hC
  have fin := Lib.hid (hR.out _ (set5 (Nat.le_refl _) bD (.int .i64 0) (.int .i64 0) (.int .i64 0) (.string ⟨#[]⟩) (.int .i64 0)))
  clear hA hB bA bC bD hC hD hR n3 hl3 hl
  go_wp2_with fail
  refine bodyPost_ret ?_ rfl fin.out
  simp [results, Tryz.results111, go_sem, m0, m1, m2, m3, m4]
set_option maxRecDepth 100000 in
set_option maxHeartbeats 2000000 in
theorem next_calls (c : Cu) (p g : Nat) (w : World) (h : CurG w p c g) (R : Ending → World → Prop) (hR : Hid (∀ w', CurG w' p (nextS c) g → w.grownBy w' (some p) → R (.returned (tkV (peekS c))) w')) : Calls Tryz.prog 111 #[ptV p] w R := by
  obtain ⟨o, k, hp, rd, -, -⟩ := h.op
  have i1 : (1 : Int) ≤ ((restS c).length : Int) := by have := List.length_pos_iff.2 (restS_end h.ends).ne; omega
  have hnk : (restS c).length ≤ k := by obtain ⟨-, -, q, -⟩ := rdk_first rd (restS_end h.ends); exact q
  have two := Lib.hid fun (h1 : (peekS c).1 ≠ 0) => restS_two h.ends h1
  have cP := Lib.hid fun (W : World) (hb : Below w.heap.size w W) R hR => peek_calls c p g W (h.all hb) R hR
  have bA := (Below.refl w.heap.size w).alloc (Nat.le_refl _) (.cells #[.int .i64 0, .int .i64 0, .int .i64 0, .string ⟨#[]⟩, .int .i64 0] 76)
  have hA := tok_new w (.int .i64 0) (.int .i64 0) (.int .i64 0) (.string ⟨#[]⟩) (.int .i64 0)
  have hl : w.heap.size < (w.alloc (.cells #[.int .i64 0, .int .i64 0, .int .i64 0, .string ⟨#[]⟩, .int .i64 0] 76)).heap.size := by simp
  have hpl := h.lt
  have hgl := h.lg
  replace bA := Lib.hid bA
  have stp := Lib.hid fun (W : World) (h1 : (peekS c).1 ≠ 0) (hb : Below w.heap.size w W) => h.step hp rd h1 hb
  have same := Lib.hid fun (W : World) (h1 : (peekS c).1 = 0) (hb : Below w.heap.size w W) => (show CurG W p (nextS c) g by rw [next_same h1]; exact h.all hb)
  clear h rd
  generalize peekS c = t at *
  obtain ⟨t0, t1, t2, t3, t4⟩ := t
  simp only [tkV] at hR cP
  simp only at stp same two
  generalize (restS c).length = n at *
  go_enter Tryz.func111, Tryz.ntmps111
  go_wp2_with fail
  generalize w.alloc (.cells #[.int .i64 0, .int .i64 0, .int .i64 0, .string ⟨#[]⟩, .int .i64 0] 76) = W2 at *
  refine cP.out W2 bA.out _ (Lib.hid fun w3 n3 => ?_)
  have hB := (n3.block _ hl).trans hA
  have bC := bA.out.trans (n3.mono bA.out.size)
  have hl3 := Nat.lt_of_lt_of_le hl n3.size
  have hC := tok_new w3 (.int .i64 t0) (.int .i64 t1) (.int .i64 t2) (.string t3) (.int .i64 t4)
  have hD := (((Below.refl w3.heap.size w3).alloc (Nat.le_refl _) (.cells #[.int .i64 t0, .int .i64 t1, .int .i64 t2, .string t3, .int .i64 t4] 76)).block _ hl3).trans hB
  have bD := bC.alloc bC.size (.cells #[.int .i64 t0, .int .i64 t1, .int .i64 t2, .string t3, .int .i64 t4] 76)
  have hs3 : w3.heap.size < (w3.alloc (.cells #[.int .i64 t0, .int .i64 t1, .int .i64 t2, .string t3, .int .i64 t4] 76)).heap.size := by simp
  have hws := Nat.le_of_lt hl3
  clear hA hB bC n3 bA
  by_cases h0 : t0 = 0
  · subst h0
    obtain ⟨m0, m1, m2, m3, m4⟩ := five_of hD
    obtain ⟨f0, f1, f2, f3, f4⟩ := fz hD
    obtain ⟨k0, k1, k2, k3, k4⟩ := five_of hC
    have bE := set5 (Nat.le_refl _) bD (.int .i64 0) (.int .i64 t1) (.int .i64 t2) (.string t3) (.int .i64 t4)
    have fin := Lib.hid (hR.out _ (same.out _ rfl bE) (grow_bl bE))
    clear hC hD hR bE bD same stp cP hp hl3 hs3 hws hl
    go_wp2_with fail
    refine bodyPost_ret ?_ rfl fin.out
    simp [results, Tryz.results111, go_sem, m0, m1, m2, m3, m4]
  · have q1 : (t0 != 0) = true := by simpa using h0
    obtain ⟨cE, gE⟩ := stp.out _ h0 bD
    have h2 := two.out h0
    clear two
    have hD2 := (set_ne (q := p) (o := 0) (k := w.heap.size) (v := .slice (some ⟨g, o + 5, none⟩) (n - 1) (k - 1)) (by omega)).trans hD
    have hC2 := (set_ne (q := p) (o := 0) (k := w3.heap.size) (v := .slice (some ⟨g, o + 5, none⟩) (n - 1) (k - 1)) (by omega)).trans hC
    have y0 := (bD.cell (p := ⟨p, 0, none⟩) hpl).trans ((Lib.cell_of_heap hp 0).trans rfl)
    have z0 := Lib.frozen_of_heap ((bD.block _ hpl).trans hp) 0
    obtain ⟨k0, k1, k2, k3, k4⟩ := five_of hC
    obtain ⟨m0, m1, m2, m3, m4⟩ := five_of hD2
    obtain ⟨f0, f1, f2, f3, f4⟩ := fz hD2
    obtain ⟨l0, l1, l2, l3, l4⟩ := five_of hC2
    have bE := set5 (Nat.le_refl _) (Below.refl w.heap.size ((w3.alloc (.cells #[.int .i64 t0, .int .i64 t1, .int .i64 t2, .string t3, .int .i64 t4] 76)).setCell ⟨p, 0, none⟩ (.slice (some ⟨g, o + 5, none⟩) (n - 1) (k - 1)))) (.int .i64 t0) (.int .i64 t1) (.int .i64 t2) (.string t3) (.int .i64 t4)
    have fin := Lib.hid (hR.out _ (cE.below hpl hgl bE) (grow_on gE bE))
    clear hC hD hR bD same stp cP hp cE gE bE hD2 hC2 hl3 hs3 hws hl
    go_wp2_with fail
    refine bodyPost_ret ?_ rfl fin.out
    simp [results, Tryz.results111, go_sem, m0, m1, m2, m3, m4]
end Go.Proofs.YthelhplcijhioaaGreat.Cur

/- Layer 14: the code's accept, Mark, Word, Take. -/
set_option maxRecDepth 100000
set_option linter.unusedVariables false
namespace Go.Proofs.YthelhplcijhioaaGreat.Cur
open Go.RowKit Go.Lib Go.Proofs.YthelhplcijhioaaGreat.Utf Go.Proofs.YthelhplcijhioaaGreat.Tok

theorem run_field0 (t0 t1 t2 : Int) (t3 : ByteArray) (t4 : Int) (w : World) : (Instr.field 76 (.agg #[.int .i64 t0, .int .i64 t1, .int .i64 t2, .string t3, .int .i64 t4]) 0).run Tryz.prog w = .ok (.int .i64 t0) w := by
  simp [Instr.field, run_underlying Tryz.underlying76, part, asAgg, Tryz.isAgg3, go_sem]
set_option maxRecDepth 100000 in
set_option maxHeartbeats 2000000 in
theorem acceptN_calls (k : Int) (hk : k ≠ 0) (m : ByteArray) (w : World) (R : Ending → World → Prop) (hR : Hid (∀ w', Below w.heap.size w w' → R (.returned (.bool false)) w')) : Calls Tryz.prog 68 #[.pointer none, .int .i64 k, .string m] w R := by
  have q1 : ((0 : Int) != k) = true := by simpa using fun h => hk h.symm
  have tz : tkV zT = .agg #[.int .i64 0, .int .i64 0, .int .i64 0, .string ⟨#[]⟩, .int .i64 0] := rfl
  go_enter Tryz.func68, Tryz.ntmps68
  go_wp2_with fail
  refine peekN_calls w _ (Lib.hid fun w3 n3 => ?_)
  rw [tz]
  obtain ⟨k0, k1, k2, k3, k4⟩ := five_of (tok_new w3 (.int .i64 0) (.int .i64 0) (.int .i64 0) (.string ⟨#[]⟩) (.int .i64 0))
  have fin := Lib.hid (hR.out _ (n3.alloc n3.size (.cells #[.int .i64 0, .int .i64 0, .int .i64 0, .string ⟨#[]⟩, .int .i64 0] 76)))
  clear n3 hR hk
  go_wp2_with fail
  exact fin.out
set_option maxRecDepth 100000 in
set_option maxHeartbeats 2000000 in
theorem accept_calls (c : Cu) (p g : Nat) (k : Int) (hk : k ≠ 0) (m : ByteArray) (w : World) (h : CurG w p c g) (R : Ending → World → Prop) (hR : Hid (∀ w', CurG w' p (takeS c k m false) g → w.grownBy w' (some p) → R (.returned (.bool (hasS c k m false))) w')) : Calls Tryz.prog 68 #[ptV p, .int .i64 k, .string m] w R := by
  have cP := Lib.hid fun R hR => peek_calls c p g w h R hR
  have cX := Lib.hid fun (W : World) (hb : Below w.heap.size w W) R hR => next_calls c p g W (h.all hb) R hR
  have no : hasS c k m false = false → ∀ W, Below w.heap.size w W → Hid (R (.returned (.bool false)) W) := fun hh W hb => by
    have := hR.out W (by unfold takeS; rw [hh]; exact h.all hb) (grow_bl hb)
    rw [hh] at this
    exact Lib.hid this
  have yes : hasS c k m false = true → ∀ W W', Below w.heap.size w W → CurG W' p (nextS c) g → W.grownBy W' (some p) → Hid (R (.returned (.bool true)) W') := fun hh W W' hb hc gr => by
    have := hR.out W' (by unfold takeS; rw [hh]; exact hc) (grow_tr (grow_bl hb) gr)
    rw [hh] at this
    exact Lib.hid this
  have hh : hasS c k m false = (decide ((peekS c).1 = k) && (false || decide ((peekS c).2.2.2.1 = m))) := rfl
  generalize hasS c k m false = B at *
  generalize peekS c = t at *
  obtain ⟨t0, t1, t2, t3, t4⟩ := t
  simp only [tkV] at cP cX
  simp only [Bool.false_or] at hh
  clear hR h
  go_enter Tryz.func68, Tryz.ntmps68
  go_wp2_with fail
  refine cP.out _ (Lib.hid fun w3 n3 => ?_)
  obtain ⟨k0, k1, k2, k3, k4⟩ := five_of (tok_new w3 (.int .i64 t0) (.int .i64 t1) (.int .i64 t2) (.string t3) (.int .i64 t4))
  have bA := n3.alloc n3.size (.cells #[.int .i64 t0, .int .i64 t1, .int .i64 t2, .string t3, .int .i64 t4] 76)
  clear n3 cP
  by_cases h1 : t0 = k
  · have q1 : (t0 != k) = false := by simpa using h1
    rw [decide_eq_true h1, Bool.true_and] at hh
    clear h1
    by_cases h2 : t3 = m
    · rw [decide_eq_true h2] at hh
      subst h2
      have q2 := sq_t (rfl : t3 = t3)
      have cX1 := Lib.hid (cX.out _ bA)
      have fin := Lib.hid fun W' => yes hh _ W' bA
      clear no yes cX bA hk
      go_wp2_with fail
      refine cX1.out _ (Lib.hid fun w5 c5 g5 => ?_)
      have f2 := fin.out w5 c5 g5
      clear c5 g5 fin cX1
      go_wp2_with fail
      exact f2.out
    · rw [decide_eq_false h2] at hh
      have q2 := sq_f h2
      have fin := no hh _ bA
      clear no yes cX bA hk
      go_wp2_with fail
      exact fin.out
  · have q1 : (t0 != k) = true := by simpa using h1
    rw [decide_eq_false h1, Bool.false_and] at hh
    have fin := no hh _ bA
    clear no yes cX bA hk
    go_wp2_with fail
    exact fin.out
set_option maxRecDepth 100000 in
set_option maxHeartbeats 1000000 in
theorem mark_calls (c : Cu) (p g : Nat) (m : ByteArray) (w : World) (h : CurG w p c g) (R : Ending → World → Prop) (hR : Hid (∀ w', CurG w' p (takeS c 4 m false) g → w.grownBy w' (some p) → R (.returned (.bool (hasS c 4 m false))) w')) : Calls Tryz.prog 110 #[ptV p, .string m] w R := by
  go_enter Tryz.func110, Tryz.ntmps110
  go_wp2_with fail
  refine accept_calls c p g 4 (by decide) m w h _ (Lib.hid fun w3 c3 g3 => ?_)
  have fin := Lib.hid (hR.out _ c3 g3)
  clear h hR c3 g3
  go_wp2_with fail
  exact fin.out
set_option maxRecDepth 100000 in
set_option maxHeartbeats 1000000 in
theorem word_calls (c : Cu) (p g : Nat) (m : ByteArray) (w : World) (h : CurG w p c g) (R : Ending → World → Prop) (hR : Hid (∀ w', CurG w' p (takeS c 1 m false) g → w.grownBy w' (some p) → R (.returned (.bool (hasS c 1 m false))) w')) : Calls Tryz.prog 36 #[ptV p, .string m] w R := by
  go_enter Tryz.func36, Tryz.ntmps36
  go_wp2_with fail
  refine accept_calls c p g 1 (by decide) m w h _ (Lib.hid fun w3 c3 g3 => ?_)
  have fin := Lib.hid (hR.out _ c3 g3)
  clear h hR c3 g3
  go_wp2_with fail
  exact fin.out
set_option maxRecDepth 100000 in
set_option maxHeartbeats 1000000 in
theorem curmarkN_calls (m : ByteArray) (w : World) (R : Ending → World → Prop) (hR : Hid (∀ w', Below w.heap.size w w' → R (.returned (.bool false)) w')) : Calls Tryz.prog 110 #[.pointer none, .string m] w R := by
  go_enter Tryz.func110, Tryz.ntmps110
  go_wp2_with fail
  refine acceptN_calls 4 (by decide) m w _ (Lib.hid fun w3 n3 => ?_)
  have fin := Lib.hid (hR.out _ n3)
  clear hR n3
  go_wp2_with fail
  exact fin.out
set_option maxRecDepth 100000 in
set_option maxHeartbeats 1000000 in
theorem curwordN_calls (m : ByteArray) (w : World) (R : Ending → World → Prop) (hR : Hid (∀ w', Below w.heap.size w w' → R (.returned (.bool false)) w')) : Calls Tryz.prog 36 #[.pointer none, .string m] w R := by
  go_enter Tryz.func36, Tryz.ntmps36
  go_wp2_with fail
  refine acceptN_calls 1 (by decide) m w _ (Lib.hid fun w3 n3 => ?_)
  have fin := Lib.hid (hR.out _ n3)
  clear hR n3
  go_wp2_with fail
  exact fin.out
set_option maxRecDepth 100000 in
set_option maxHeartbeats 2000000 in
theorem curtakeN_calls (k : Int) (w : World) (R : Ending → World → Prop) (hR : Hid (∀ w', Below w.heap.size w w' → R (.returned (.tuple #[tkV zT, .bool false])) w')) : Calls Tryz.prog 67 #[.pointer none, .int .i64 k] w R := by
  have tz : tkV zT = .agg #[.int .i64 0, .int .i64 0, .int .i64 0, .string ⟨#[]⟩, .int .i64 0] := rfl
  rw [tz] at hR
  have bA := (Below.refl w.heap.size w).alloc (Nat.le_refl _) (.cells #[.int .i64 0, .int .i64 0, .int .i64 0, .string ⟨#[]⟩, .int .i64 0] 76)
  have hA := tok_new w (.int .i64 0) (.int .i64 0) (.int .i64 0) (.string ⟨#[]⟩) (.int .i64 0)
  have hl : w.heap.size < (w.alloc (.cells #[.int .i64 0, .int .i64 0, .int .i64 0, .string ⟨#[]⟩, .int .i64 0] 76)).heap.size := by simp
  by_cases hk : k = 0
  · subst hk
    obtain ⟨m0, m1, m2, m3, m4⟩ := five_of hA
    obtain ⟨f0, f1, f2, f3, f4⟩ := fz hA
    have fin := Lib.hid (hR.out _ bA)
    clear hA bA hR hl tz
    go_enter Tryz.func67, Tryz.ntmps67
    go_wp2_with fail
    refine bodyPost_ret ?_ rfl fin.out
    simp [results, Tryz.results67, go_sem, m0, m1, m2, m3, m4] <;> rfl
  · have q1 : (k == 0) = false := by simpa using hk
    have q2 : ((0 : Int) != k) = true := by simpa using fun h => hk h.symm
    replace bA := Lib.hid bA
    clear hk
    go_enter Tryz.func67, Tryz.ntmps67
    go_wp2_with fail
    generalize w.alloc (.cells #[.int .i64 0, .int .i64 0, .int .i64 0, .string ⟨#[]⟩, .int .i64 0] 76) = W2 at *
    refine peekN_calls W2 _ (Lib.hid fun w3 n3 => ?_)
    rw [tz]
    have hB := (n3.block _ hl).trans hA
    obtain ⟨m0, m1, m2, m3, m4⟩ := five_of hB
    obtain ⟨f0, f1, f2, f3, f4⟩ := fz hB
    have e0 := run_field0 0 0 0 ⟨#[]⟩ 0
    have fin := Lib.hid (hR.out _ (set5 (Nat.le_refl _) (bA.out.trans (n3.mono bA.out.size)) (.int .i64 0) (.int .i64 0) (.int .i64 0) (.string ⟨#[]⟩) (.int .i64 0)))
    clear hA hB bA n3 hR hl tz
    go_wp2_with fail
    refine bodyPost_ret ?_ rfl fin.out
    simp [results, Tryz.results67, go_sem, m0, m1, m2, m3, m4] <;> rfl
set_option maxRecDepth 100000 in
set_option maxHeartbeats 2000000 in
theorem cqtake_calls (c : Cu) (p g : Nat) (k : Int) (w : World) (h : CurG w p c g) (R : Ending → World → Prop) (hR : Hid (∀ w', CurG w' p (if k ≠ 0 ∧ (peekS c).1 = k then nextS c else c) g → w.grownBy w' (some p) → R (.returned (.tuple #[tkV (if k ≠ 0 ∧ (peekS c).1 = k then peekS c else zT), .bool (decide (k ≠ 0 ∧ (peekS c).1 = k))])) w')) : Calls Tryz.prog 67 #[ptV p, .int .i64 k] w R := by
  have tz : tkV zT = .agg #[.int .i64 0, .int .i64 0, .int .i64 0, .string ⟨#[]⟩, .int .i64 0] := rfl
  have bA := (Below.refl w.heap.size w).alloc (Nat.le_refl _) (.cells #[.int .i64 0, .int .i64 0, .int .i64 0, .string ⟨#[]⟩, .int .i64 0] 76)
  have hA := tok_new w (.int .i64 0) (.int .i64 0) (.int .i64 0) (.string ⟨#[]⟩) (.int .i64 0)
  have hl : w.heap.size < (w.alloc (.cells #[.int .i64 0, .int .i64 0, .int .i64 0, .string ⟨#[]⟩, .int .i64 0] 76)).heap.size := by simp
  have no : ¬ (k ≠ 0 ∧ (peekS c).1 = k) → ∀ W, Below w.heap.size w W → Hid (R (.returned (.tuple #[.agg #[.int .i64 0, .int .i64 0, .int .i64 0, .string ⟨#[]⟩, .int .i64 0], .bool false])) W) := fun q W hb => by
    have := hR.out W (by rw [if_neg q]; exact h.all hb) (grow_bl hb)
    rw [if_neg q, decide_eq_false q, tz] at this
    exact Lib.hid this
  have yes : (k ≠ 0 ∧ (peekS c).1 = k) → ∀ W', CurG W' p (nextS c) g → w.grownBy W' (some p) → Hid (R (.returned (.tuple #[tkV (peekS c), .bool true])) W') := fun q W' hc gr => by
    have := hR.out W' (by rw [if_pos q]; exact hc) gr
    rw [if_pos q, decide_eq_true q] at this
    exact Lib.hid this
  have cP := Lib.hid fun (W : World) (hb : Below w.heap.size w W) R hR => peek_calls c p g W (h.all hb) R hR
  have cX := Lib.hid fun (W : World) (hb : Below w.heap.size w W) R hR => next_calls c p g W (h.all hb) R hR
  have hpl := h.lt
  have hgl := h.lg
  clear hR h
  by_cases hk : k = 0
  · subst hk
    obtain ⟨m0, m1, m2, m3, m4⟩ := five_of hA
    obtain ⟨f0, f1, f2, f3, f4⟩ := fz hA
    have fin := no (by rintro ⟨q, -⟩; exact q rfl) _ bA
    clear hA bA no yes cP cX hl tz
    go_enter Tryz.func67, Tryz.ntmps67
    go_wp2_with fail
    refine bodyPost_ret ?_ rfl fin.out
    simp [results, Tryz.results67, go_sem, m0, m1, m2, m3, m4] <;> rfl
  · have q1 : (k == 0) = false := by simpa using hk
    replace bA := Lib.hid bA
    generalize peekS c = t at *
    obtain ⟨t0, t1, t2, t3, t4⟩ := t
    simp only [tkV] at yes cP cX
    simp only at no
    go_enter Tryz.func67, Tryz.ntmps67
    go_wp2_with fail
    generalize w.alloc (.cells #[.int .i64 0, .int .i64 0, .int .i64 0, .string ⟨#[]⟩, .int .i64 0] 76) = W2 at *
    refine cP.out W2 bA.out _ (Lib.hid fun w3 n3 => ?_)
    have e0 := run_field0 t0 t1 t2 t3 t4
    have hB := (n3.block _ hl).trans hA
    have bC := bA.out.trans (n3.mono bA.out.size)
    have hl3 := Nat.lt_of_lt_of_le hl n3.size
    by_cases h1 : t0 = k
    · have q2 : (t0 != k) = false := by simpa using h1
      have cX1 := Lib.hid (cX.out _ bC)
      have fin := Lib.hid (yes ⟨hk, h1⟩)
      replace bC := Lib.hid bC
      replace hB := Lib.hid hB
      clear no yes cP cX hA n3 bA h1
      go_wp2_with fail
      refine cX1.out _ (Lib.hid fun w5 c5 g5 => ?_)
      have hD := (g5.block _ hl3 (by simp; omega)).trans hB.out
      obtain ⟨m0, m1, m2, m3, m4⟩ := five_of hD
      obtain ⟨f0, f1, f2, f3, f4⟩ := fz hD
      have g6 := grow_tr (grow_bl (p := p) bC.out) g5
      have bE := set5 (Nat.le_refl _) (Below.refl w.heap.size w5) (.int .i64 t0) (.int .i64 t1) (.int .i64 t2) (.string t3) (.int .i64 t4)
      have f2 := fin.out _ (c5.below hpl hgl bE) (grow_on g6 bE)
      clear c5 g5 fin cX1 hD g6 bE hB bC
      go_wp2_with fail
      refine bodyPost_ret ?_ rfl f2.out
      simp [results, Tryz.results67, go_sem, m0, m1, m2, m3, m4]
    · have q2 : (t0 != k) = true := by simpa using h1
      obtain ⟨m0, m1, m2, m3, m4⟩ := five_of hB
      obtain ⟨f0, f1, f2, f3, f4⟩ := fz hB
      have fin := no (by rintro ⟨-, q⟩; exact h1 q) _ (set5 (Nat.le_refl _) bC (.int .i64 0) (.int .i64 0) (.int .i64 0) (.string ⟨#[]⟩) (.int .i64 0))
      clear no yes cP cX hA n3 bA bC hB
      go_wp2_with fail
      refine bodyPost_ret ?_ rfl fin.out
      simp [results, Tryz.results67, go_sem, m0, m1, m2, m3, m4] <;> rfl
end Go.Proofs.YthelhplcijhioaaGreat.Cur

/- Layer 14: the code's FailAt, Fail, Need, Enter, Leave, Depth, Fault. -/
set_option maxRecDepth 100000
set_option linter.unusedVariables false
namespace Go.Proofs.YthelhplcijhioaaGreat.Cur
open Go.RowKit Go.Lib Go.Proofs.YthelhplcijhioaaGreat.Utf Go.Proofs.YthelhplcijhioaaGreat.Tok

theorem run_field1 (t0 t1 t2 : Int) (t3 : ByteArray) (t4 : Int) (w : World) : (Instr.field 76 (.agg #[.int .i64 t0, .int .i64 t1, .int .i64 t2, .string t3, .int .i64 t4]) 1).run Tryz.prog w = .ok (.int .i64 t1) w := by
  simp [Instr.field, run_underlying Tryz.underlying76, part, asAgg, Tryz.isAgg3, go_sem]
/-- The code's fall. -/
theorem CurG.fall {w W : World} {p g : Nat} {c : Cu} (h : CurG w p c g) (hb : Below w.heap.size w W) {e z : Int} (he : c.2.2.1 = 0) (h1 : e ≠ 0) :
    CurG ((((W.setCell ⟨p, 2, none⟩ (.int .i64 e)).setCell ⟨p, 3, none⟩ (.int .i64 z)).setCell ⟨p, 0, none⟩ (.slice (some ⟨W.heap.size, 0, none⟩) 1 1)).alloc (.cells #[.int .i64 0, .int .i64 z, .int .i64 z, .string ⟨#[]⟩, .int .i64 0] 76)) p (failS c e z) W.heap.size ∧ w.grownBy ((((W.setCell ⟨p, 2, none⟩ (.int .i64 e)).setCell ⟨p, 3, none⟩ (.int .i64 z)).setCell ⟨p, 0, none⟩ (.slice (some ⟨W.heap.size, 0, none⟩) 1 1)).alloc (.cells #[.int .i64 0, .int .i64 z, .int .i64 z, .string ⟨#[]⟩, .int .i64 0] 76)) (some p) := by
  obtain ⟨l, d, e0, z0⟩ := c
  simp only at he
  subst he
  have hf : failS (l, d, 0, z0) e z = (l, d, e, z) := if_neg (by rintro (q | q); exact q rfl; exact h1 q)
  have hr : restS (l, d, e, z) = [(0, z, z, ByteArray.empty, 0)] := restS_fail h1
  obtain ⟨o, k, hp, -⟩ := h.op
  rw [hf]
  have hpW := (hb.block _ h.lt).trans hp
  have h5 := set_at (set_at (set_at hpW 2 (.int .i64 e)) 3 (.int .i64 z)) 0 (.slice (some ⟨W.heap.size, 0, none⟩) 1 1)
  have hs : (((W.setCell ⟨p, 2, none⟩ (.int .i64 e)).setCell ⟨p, 3, none⟩ (.int .i64 z)).setCell ⟨p, 0, none⟩ (.slice (some ⟨W.heap.size, 0, none⟩) 1 1)).heap.size = W.heap.size := by rw [set_size, set_size, set_size]
  have g5 := grow_set (o := 0) (grow_set (o := 3) (grow_set (o := 2) (grow_bl (p := p) hb) (.int .i64 e)) (.int .i64 z)) (.slice (some ⟨W.heap.size, 0, none⟩) 1 1)
  generalize (((W.setCell ⟨p, 2, none⟩ (.int .i64 e)).setCell ⟨p, 3, none⟩ (.int .i64 z)).setCell ⟨p, 0, none⟩ (.slice (some ⟨W.heap.size, 0, none⟩) 1 1)) = W5 at *
  have hpl : p < W.heap.size := Nat.lt_of_lt_of_le h.lt hb.size
  have bT := (Below.refl W5.heap.size W5).alloc (Nat.le_refl _) (.cells #[.int .i64 0, .int .i64 z, .int .i64 z, .string ⟨#[]⟩, .int .i64 0] 76)
  have h6 := (bT.block p (by omega)).trans h5
  have hT := tok_new W5 (.int .i64 0) (.int .i64 z) (.int .i64 z) (.string ⟨#[]⟩) (.int .i64 0)
  rw [hs] at hT
  have hs6 : (W5.alloc (.cells #[.int .i64 0, .int .i64 z, .int .i64 z, .string ⟨#[]⟩, .int .i64 0] 76)).heap.size = W.heap.size + 1 := by simp [hs]
  refine ⟨⟨by omega, by omega, h.ends, 0, 1, ?_, ?_⟩, grow_tr g5 (grow_bl (p := p) bT)⟩
  · rw [h6, hr]
    rfl
  · rw [hr]
    refine ⟨_, _, _, rfl, rfl, Nat.le_refl _, fun _ => ⟨_, _, rfl, by omega, fun j u hj => ?_⟩⟩
    rw [Nat.zero_add, Lib.cell_of_heap hT]
    have e : flatG encT [((0, z, z, ByteArray.empty, 0) : Tk)] = [.int .i64 0, .int .i64 z, .int .i64 z, .string ⟨#[]⟩, .int .i64 0] := rfl
    rw [e] at hj
    simpa using hj
theorem CurG.deep {w : World} {p g : Nat} {c : Cu} (h : CurG w p c g) (d : Int) : CurG (w.setCell ⟨p, 1, none⟩ (.int .i64 d)) p (c.1, d, c.2.2) g := by
  obtain ⟨o, k, hp, rd⟩ := h.box
  refine ⟨by rw [set_size]; exact h.lt, by rw [set_size]; exact h.lg, h.ends, o, k, ?_, rdk_blk rd (set_ne h.ne) (Nat.le_of_eq set_size.symm)⟩
  rw [set_at hp]
  rfl
set_option maxRecDepth 100000 in
set_option maxHeartbeats 2000000 in
theorem cqfailat_calls (c : Cu) (p g : Nat) (e z : Int) (w : World) (h : CurG w p c g) (R : Ending → World → Prop) (hR : Hid (∀ w' g', (g' = g ∨ w.heap.size ≤ g') → CurG w' p (failS c e z) g' → w.grownBy w' (some p) → R (.returned (.tuple #[])) w')) : Calls Tryz.prog 109 #[ptV p, .int .i64 e, .int .i64 z] w R := by
  have cM := Lib.hid fun R hR => made_calls c p g w h R hR
  obtain ⟨o, k, hp, -⟩ := h.op
  have hpl := h.lt
  have hgl := h.lg
  by_cases h1 : c.2.2.1 ≠ 0 ∨ e = 0
  · have hf : failS c e z = c := if_pos h1
    have fin := Lib.hid fun W (hb : Below w.heap.size w W) => hR.out W g (.inl rfl) (by rw [hf]; exact h.all hb) (grow_bl hb)
    clear hR h
    go_enter Tryz.func109, Tryz.ntmps109
    by_cases he : e = 0
    · subst he
      clear h1
      go_wp2_with fail
      refine cM.out _ (Lib.hid fun w3 n3 => ?_)
      have f2 := Lib.hid (fin.out _ n3)
      clear n3 fin cM hp
      go_wp2_with fail
      first | refine bodyPost_ret ?_ rfl f2.out | refine bodyPost_end ?_ rfl f2.out
      simp [results, Tryz.results109, go_sem]
    · have q1 : (e == 0) = false := by simpa using he
      have q2 : (c.2.2.1 != 0) = true := by simpa [he] using h1
      clear h1 he
      go_wp2_with fail
      refine cM.out _ (Lib.hid fun w3 n3 => ?_)
      have f2 := Lib.hid (fin.out _ n3)
      obtain ⟨y0, y1, y2, y3⟩ := four_of ((n3.block _ hpl).trans hp)
      clear n3 fin cM hp
      generalize c.2.2.1 = e0 at *
      generalize c.2.2.2 = z0 at *
      generalize c.2.1 = d0 at *
      go_wp2_with fail
      first | refine bodyPost_ret ?_ rfl f2.out | refine bodyPost_end ?_ rfl f2.out
      simp [results, Tryz.results109, go_sem]
  · have he : c.2.2.1 = 0 := Classical.byContradiction fun q => h1 (.inl q)
    have h2 : e ≠ 0 := fun q => h1 (.inr q)
    have q1 : (e == 0) = false := by simpa using h2
    have fin := Lib.hid fun W (hb : Below w.heap.size w W) => (fun q => hR.out _ W.heap.size (.inr hb.size) q.1 q.2) (h.fall hb (z := z) he h2)
    rw [he] at hp
    clear hR h h1 he h2
    go_enter Tryz.func109, Tryz.ntmps109
    go_wp2_with fail
    refine cM.out _ (Lib.hid fun w3 n3 => ?_)
    have f2 := Lib.hid (fin.out _ n3)
    have hq := (n3.block _ hpl).trans hp
    obtain ⟨y0, y1, y2, y3⟩ := four_of hq
    obtain ⟨z0, -, z2, z3, -⟩ := fz hq
    have hp3 := Nat.lt_of_lt_of_le hpl n3.size
    clear n3 fin cM hp hq
    generalize c.2.2.2 = z0' at *
    generalize c.2.1 = d0 at *
    go_wp2_with fail
    refine bodyPost_end ?_ rfl f2.out
    simp [results, Tryz.results109, go_sem]
set_option maxRecDepth 100000 in
set_option maxHeartbeats 2000000 in
theorem cqfail_calls (c : Cu) (p g : Nat) (e : Int) (w : World) (h : CurG w p c g) (R : Ending → World → Prop) (hR : Hid (∀ w' g', (g' = g ∨ w.heap.size ≤ g') → CurG w' p (failS c e (peekS c).2.1) g' → w.grownBy w' (some p) → R (.returned (.tuple #[])) w')) : Calls Tryz.prog 64 #[ptV p, .int .i64 e] w R := by
  have cP := Lib.hid fun R hR => peek_calls c p g w h R hR
  have cA := Lib.hid fun (z : Int) (W : World) (hb : Below w.heap.size w W) R hR => cqfailat_calls c p g e z W (h.all hb) R hR
  have e1 := run_field1 (peekS c).1 (peekS c).2.1 (peekS c).2.2.1 (peekS c).2.2.2.1 (peekS c).2.2.2.2
  simp only [tkV] at cP
  go_enter Tryz.func64, Tryz.ntmps64
  go_wp2_with fail
  refine cP.out _ (Lib.hid fun w3 n3 => ?_)
  have cA1 := Lib.hid (cA.out (peekS c).2.1 w3 n3)
  have fin := Lib.hid fun W g' (hg : g' = g ∨ w3.heap.size ≤ g') hc (gr : w3.grownBy W (some p)) => hR.out W g' (by have := n3.size; omega) hc (grow_tr (grow_bl n3) gr)
  clear cA cP h hR n3
  go_wp2_with fail
  refine cA1.out _ (Lib.hid fun w5 g5 hg5 c5 gr5 => ?_)
  have f2 := Lib.hid (fin.out _ _ hg5 c5 gr5)
  clear fin cA1 hg5 c5 gr5 e1
  go_wp2_with fail
  first | refine bodyPost_ret ?_ rfl f2.out | refine bodyPost_end ?_ rfl f2.out
  simp [results, Tryz.results64, go_sem]
set_option maxRecDepth 100000 in
set_option maxHeartbeats 2000000 in
theorem curfailatN_calls (e z : Int) (w : World) (R : Ending → World → Prop) (hR : Hid (∀ w', Below w.heap.size w w' → R (.returned (.tuple #[])) w')) : Calls Tryz.prog 109 #[.pointer none, .int .i64 e, .int .i64 z] w R := by
  go_enter Tryz.func109, Tryz.ntmps109
  go_wp2_with fail
  refine madeN_calls w _ (Lib.hid fun w3 n3 => ?_)
  have f2 := Lib.hid (hR.out _ n3)
  clear n3 hR
  go_wp2_with fail
  first | refine bodyPost_ret ?_ rfl f2.out | refine bodyPost_end ?_ rfl f2.out
  simp [results, Tryz.results109, go_sem]
set_option maxRecDepth 100000 in
set_option maxHeartbeats 2000000 in
theorem curfailN_calls (e : Int) (w : World) (R : Ending → World → Prop) (hR : Hid (∀ w', Below w.heap.size w w' → R (.returned (.tuple #[])) w')) : Calls Tryz.prog 64 #[.pointer none, .int .i64 e] w R := by
  have tz : tkV zT = .agg #[.int .i64 0, .int .i64 0, .int .i64 0, .string ⟨#[]⟩, .int .i64 0] := rfl
  have e1 := run_field1 0 0 0 ⟨#[]⟩ 0
  go_enter Tryz.func64, Tryz.ntmps64
  go_wp2_with fail
  refine peekN_calls w _ (Lib.hid fun w3 n3 => ?_)
  rw [tz]
  clear tz
  replace n3 := Lib.hid n3
  go_wp2_with fail
  refine curfailatN_calls e 0 w3 _ (Lib.hid fun w5 n5 => ?_)
  have f2 := Lib.hid (hR.out _ (n3.out.trans (n5.mono n3.out.size)))
  clear n3 n5 hR
  go_wp2_with fail
  first | refine bodyPost_ret ?_ rfl f2.out | refine bodyPost_end ?_ rfl f2.out
  simp [results, Tryz.results64, go_sem]
/-- Behind Need. -/
noncomputable def needS (c : Cu) (m : ByteArray) : Cu := if hasS c 4 m false = true then nextS c else failS c (if (peekS c).1 = 0 then 5 else 4) (peekS c).2.1
set_option maxRecDepth 100000 in
set_option maxHeartbeats 2000000 in
theorem cqneed_calls (c : Cu) (p g : Nat) (m : ByteArray) (w : World) (h : CurG w p c g) (R : Ending → World → Prop) (hR : Hid (∀ w' g', (g' = g ∨ w.heap.size ≤ g') → CurG w' p (needS c m) g' → w.grownBy w' (some p) → R (.returned (.bool (hasS c 4 m false))) w')) : Calls Tryz.prog 65 #[ptV p, .string m] w R := by
  go_enter Tryz.func65, Tryz.ntmps65
  go_wp2_with fail
  refine mark_calls c p g m w h _ (Lib.hid fun w3 c3 g3 => ?_)
  by_cases hh : hasS c 4 m false = true
  · have ht : takeS c 4 m false = nextS c := if_pos hh
    have hn : needS c m = nextS c := if_pos hh
    rw [ht] at c3
    rw [hn] at hR
    rw [hh] at hR ⊢
    have f2 := Lib.hid (hR.out _ _ (.inl rfl) c3 g3)
    clear hR h c3 g3 ht hn hh
    go_wp2_with fail
    exact f2.out
  · have ht : takeS c 4 m false = c := if_neg hh
    have hn : needS c m = failS c (if (peekS c).1 = 0 then 5 else 4) (peekS c).2.1 := if_neg hh
    rw [ht] at c3
    rw [hn] at hR
    rw [Bool.eq_false_iff.2 hh] at hR ⊢
    clear h ht hn hh
    have cP := Lib.hid fun R hR => peek_calls c p g w3 c3 R hR
    have cF := Lib.hid fun (e : Int) (W : World) (hb : Below w3.heap.size w3 W) R hR => cqfail_calls c p g e W (c3.all hb) R hR
    have e0 := run_field0 (peekS c).1 (peekS c).2.1 (peekS c).2.2.1 (peekS c).2.2.2.1 (peekS c).2.2.2.2
    have gs := g3.size
    replace g3 := Lib.hid g3
    clear c3
    simp only [tkV] at cP
    go_wp2_with fail
    refine cP.out _ (Lib.hid fun w4 n4 => ?_)
    by_cases h0 : (peekS c).1 = 0
    · rw [if_pos h0] at hR
      have q1 : ((peekS c).1 == 0) = true := by simpa using h0
      have cF1 := Lib.hid (cF.out 5 w4 n4)
      have fin := Lib.hid fun W g' (hg : g' = g ∨ w4.heap.size ≤ g') hc (gr : w4.grownBy W (some p)) => hR.out W g' (by have := n4.size; omega) hc (grow_tr g3.out (grow_tr (grow_bl n4) gr))
      clear cP cF n4 g3 hR h0
      go_wp2_with fail
      refine cF1.out _ (Lib.hid fun w5 g5 hg5 c5 gr5 => ?_)
      have f2 := Lib.hid (fin.out _ _ hg5 c5 gr5)
      clear fin cF1 hg5 c5 gr5 e0 q1
      go_wp2_with fail
      exact f2.out
    · rw [if_neg h0] at hR
      have q1 : ((peekS c).1 == 0) = false := by simpa using h0
      have cF1 := Lib.hid (cF.out 4 w4 n4)
      have fin := Lib.hid fun W g' (hg : g' = g ∨ w4.heap.size ≤ g') hc (gr : w4.grownBy W (some p)) => hR.out W g' (by have := n4.size; omega) hc (grow_tr g3.out (grow_tr (grow_bl n4) gr))
      clear cP cF n4 g3 hR h0
      go_wp2_with fail
      refine cF1.out _ (Lib.hid fun w5 g5 hg5 c5 gr5 => ?_)
      have f2 := Lib.hid (fin.out _ _ hg5 c5 gr5)
      clear fin cF1 hg5 c5 gr5 e0 q1
      go_wp2_with fail
      exact f2.out
set_option maxRecDepth 100000 in
set_option maxHeartbeats 2000000 in
theorem curneedN_calls (m : ByteArray) (w : World) (R : Ending → World → Prop) (hR : Hid (∀ w', Below w.heap.size w w' → R (.returned (.bool false)) w')) : Calls Tryz.prog 65 #[.pointer none, .string m] w R := by
  have tz : tkV zT = .agg #[.int .i64 0, .int .i64 0, .int .i64 0, .string ⟨#[]⟩, .int .i64 0] := rfl
  have e0 := run_field0 0 0 0 ⟨#[]⟩ 0
  go_enter Tryz.func65, Tryz.ntmps65
  go_wp2_with fail
  refine curmarkN_calls m w _ (Lib.hid fun w3 n3 => ?_)
  replace n3 := Lib.hid n3
  go_wp2_with fail
  refine peekN_calls w3 _ (Lib.hid fun w4 n4 => ?_)
  rw [tz]
  replace n4 := Lib.hid (n3.out.trans (n4.mono n3.out.size))
  clear n3 tz
  go_wp2_with fail
  refine curfailN_calls 5 w4 _ (Lib.hid fun w5 n5 => ?_)
  have f2 := Lib.hid (hR.out _ (n4.out.trans (n5.mono n4.out.size)))
  clear n4 n5 hR
  go_wp2_with fail
  exact f2.out
end Go.Proofs.YthelhplcijhioaaGreat.Cur

/- Layer 14: the code's Enter, Leave, Depth, Fault, New; all contracts. -/
set_option maxRecDepth 100000
set_option linter.unusedVariables false
namespace Go.Proofs.YthelhplcijhioaaGreat.Cur
open Go.RowKit Go.Lib Go.Proofs.YthelhplcijhioaaGreat.Utf Go.Proofs.YthelhplcijhioaaGreat.Tok

/-- Behind Enter, Leave. -/
def enterS (c : Cu) : Cu := if c.2.1 < 24 then (c.1, c.2.1 + 1, c.2.2) else failS c 6 (peekS c).2.1
def leaveS (c : Cu) : Cu := if 0 < c.2.1 then (c.1, c.2.1 - 1, c.2.2) else c
set_option maxRecDepth 100000 in
set_option maxHeartbeats 2000000 in
theorem cqenter_calls (c : Cu) (p g : Nat) (w : World) (h : CurG w p c g) (hd : 0 ≤ c.2.1 ∧ c.2.1 ≤ 24) (R : Ending → World → Prop) (hR : Hid (∀ w' g', (g' = g ∨ w.heap.size ≤ g') → CurG w' p (enterS c) g' → w.grownBy w' (some p) → R (.returned (.bool (decide (c.2.1 < 24)))) w')) : Calls Tryz.prog 53 #[ptV p] w R := by
  have hpl := h.lt
  have hgl := h.lg
  obtain ⟨o, k, hp, -⟩ := h.op
  by_cases h1 : c.2.1 < 24
  · have hn : enterS c = (c.1, c.2.1 + 1, c.2.2) := if_pos h1
    rw [hn, decide_eq_true h1] at hR
    have fin := Lib.hid fun W (hb : Below w.heap.size w W) => hR.out _ g (.inl rfl) ((h.all hb).deep (c.2.1 + 1)) (grow_set (o := 1) (grow_bl (p := p) hb) (.int .i64 (c.2.1 + 1)))
    have cM := Lib.hid fun R hR => made_calls c p g w h R hR
    obtain ⟨d1, d2⟩ := hd
    clear hR hn h
    generalize c.2.1 = d at *
    have q1 : (d == 24) = false := by simp; omega
    go_enter Tryz.func53, Tryz.ntmps53
    go_wp2_with fail
    refine cM.out _ (Lib.hid fun w3 n3 => ?_)
    have hq := (n3.block _ hpl).trans hp
    obtain ⟨-, y1, -, -⟩ := four_of hq
    obtain ⟨-, z1, -, -, -⟩ := fz hq
    have f2 := Lib.hid (fin.out _ n3)
    clear n3 fin cM hp hq
    go_wp2_with fail
    exact f2.out
  · have hn : enterS c = failS c 6 (peekS c).2.1 := if_neg h1
    rw [hn, decide_eq_false h1] at hR
    have cF := Lib.hid fun (W : World) (hb : Below w.heap.size w W) R hR => cqfail_calls c p g 6 W (h.all hb) R hR
    have cM := Lib.hid fun R hR => made_calls c p g w h R hR
    have h2 : c.2.1 = 24 := by omega
    rw [h2] at hp
    clear h h1 hd h2 hn
    go_enter Tryz.func53, Tryz.ntmps53
    go_wp2_with fail
    refine cM.out _ (Lib.hid fun w3 n3 => ?_)
    obtain ⟨-, y1, -, -⟩ := four_of ((n3.block _ hpl).trans hp)
    have cF1 := Lib.hid (cF.out w3 n3)
    have fin := Lib.hid fun W g' (hg : g' = g ∨ w3.heap.size ≤ g') hc (gr : w3.grownBy W (some p)) => hR.out W g' (by have := n3.size; omega) hc (grow_tr (grow_bl n3) gr)
    clear n3 cF cM hp hR
    go_wp2_with fail
    refine cF1.out _ (Lib.hid fun w5 g5 hg5 c5 gr5 => ?_)
    have f2 := Lib.hid (fin.out _ _ hg5 c5 gr5)
    clear fin cF1 hg5 c5 gr5
    go_wp2_with fail
    exact f2.out
set_option maxRecDepth 100000 in
set_option maxHeartbeats 2000000 in
theorem curenterN_calls (w : World) (R : Ending → World → Prop) (hR : Hid (∀ w', Below w.heap.size w w' → R (.returned (.bool false)) w')) : Calls Tryz.prog 53 #[.pointer none] w R := by
  go_enter Tryz.func53, Tryz.ntmps53
  go_wp2_with fail
  refine madeN_calls w _ (Lib.hid fun w3 n3 => ?_)
  have f2 := Lib.hid (hR.out _ n3)
  clear n3 hR
  go_wp2_with fail
  exact f2.out
set_option maxRecDepth 100000 in
set_option maxHeartbeats 2000000 in
theorem depth_calls (c : Cu) (p g : Nat) (w : World) (h : CurG w p c g) (R : Ending → World → Prop) (hR : Hid (∀ w', Below w.heap.size w w' → R (.returned (.int .i64 c.2.1)) w')) : Calls Tryz.prog 100 #[ptV p] w R := by
  obtain ⟨o, k, hp, -⟩ := h.op
  obtain ⟨-, y1, -, -⟩ := four_of hp
  have fin := Lib.hid (hR.out _ (Below.refl _ w))
  clear h hR hp
  generalize c.2.1 = d at *
  go_enter Tryz.func100, Tryz.ntmps100
  go_wp2_with fail
  exact fin.out
set_option maxRecDepth 100000 in
set_option maxHeartbeats 2000000 in
theorem curdepthN_calls (w : World) (R : Ending → World → Prop) (hR : Hid (∀ w', Below w.heap.size w w' → R (.returned (.int .i64 0)) w')) : Calls Tryz.prog 100 #[.pointer none] w R := by
  have fin := Lib.hid (hR.out _ (Below.refl _ w))
  clear hR
  go_enter Tryz.func100, Tryz.ntmps100
  go_wp2_with fail
  exact fin.out
set_option maxRecDepth 100000 in
set_option maxHeartbeats 2000000 in
theorem cqleave_calls (c : Cu) (p g : Nat) (w : World) (h : CurG w p c g) (hd : 0 ≤ c.2.1 ∧ c.2.1 ≤ 24) (R : Ending → World → Prop) (hR : Hid (∀ w', CurG w' p (leaveS c) g → w.grownBy w' (some p) → R (.returned (.tuple #[])) w')) : Calls Tryz.prog 56 #[ptV p] w R := by
  have hpl := h.lt
  obtain ⟨o, k, hp, -⟩ := h.op
  have cD := Lib.hid fun R hR => depth_calls c p g w h R hR
  obtain ⟨d1, d2⟩ := hd
  by_cases h1 : 0 < c.2.1
  · have hn : leaveS c = (c.1, c.2.1 - 1, c.2.2) := if_pos h1
    rw [hn] at hR
    have fin := Lib.hid fun W (hb : Below w.heap.size w W) => hR.out _ ((h.all hb).deep (c.2.1 - 1)) (grow_set (o := 1) (grow_bl (p := p) hb) (.int .i64 (c.2.1 - 1)))
    clear hR hn h
    generalize c.2.1 = d at *
    go_enter Tryz.func56, Tryz.ntmps56
    go_wp2_with fail
    refine cD.out _ (Lib.hid fun w3 n3 => ?_)
    have hq := (n3.block _ hpl).trans hp
    obtain ⟨-, y1, -, -⟩ := four_of hq
    obtain ⟨-, z1, -, -, -⟩ := fz hq
    have f2 := Lib.hid (fin.out _ n3)
    clear n3 fin cD hp hq
    go_wp2_with fail
    first | refine bodyPost_ret ?_ rfl f2.out | refine bodyPost_end ?_ rfl f2.out
    simp [results, Tryz.results56, go_sem]
  · have hn : leaveS c = c := if_neg h1
    rw [hn] at hR
    have fin := Lib.hid fun W (hb : Below w.heap.size w W) => hR.out _ (h.all hb) (grow_bl (p := p) hb)
    clear hR hn h
    generalize c.2.1 = d at *
    go_enter Tryz.func56, Tryz.ntmps56
    go_wp2_with fail
    refine cD.out _ (Lib.hid fun w3 n3 => ?_)
    have f2 := Lib.hid (fin.out _ n3)
    clear n3 fin cD hp
    go_wp2_with fail
    first | refine bodyPost_ret ?_ rfl f2.out | refine bodyPost_end ?_ rfl f2.out
    simp [results, Tryz.results56, go_sem]
set_option maxRecDepth 100000 in
set_option maxHeartbeats 2000000 in
theorem curleaveN_calls (w : World) (R : Ending → World → Prop) (hR : Hid (∀ w', Below w.heap.size w w' → R (.returned (.tuple #[])) w')) : Calls Tryz.prog 56 #[.pointer none] w R := by
  go_enter Tryz.func56, Tryz.ntmps56
  go_wp2_with fail
  refine curdepthN_calls w _ (Lib.hid fun w3 n3 => ?_)
  have f2 := Lib.hid (hR.out _ n3)
  clear n3 hR
  go_wp2_with fail
  first | refine bodyPost_ret ?_ rfl f2.out | refine bodyPost_end ?_ rfl f2.out
  simp [results, Tryz.results56, go_sem]
theorem set2 {b q : Nat} {w W : World} (hq : b ≤ q) (n : Below b w W) (a0 a1 : Value) : Below b w ((W.setCell ⟨q, 0, none⟩ a0).setCell ⟨q, 1, none⟩ a1) := (n.setCell (p := ⟨q, 0, none⟩) hq a0).setCell (p := ⟨q, 1, none⟩) hq a1
set_option maxRecDepth 100000 in
set_option maxHeartbeats 2000000 in
theorem curfaultN_calls (w : World) (R : Ending → World → Prop) (hR : Hid (∀ w', Below w.heap.size w w' → R (.returned (.agg #[.int .i64 1, .int .i64 0])) w')) : Calls Tryz.prog 30 #[.pointer none] w R := by
  have bA := (Below.refl w.heap.size w).alloc (Nat.le_refl _) (.cells #[.int .i64 0, .int .i64 0] 35)
  have hA : (w.alloc (.cells #[.int .i64 0, .int .i64 0] 35)).heap[w.heap.size]? = some (.cells #[.int .i64 0, .int .i64 0] 35) := heap_alloc_new w _
  have m0 := (Lib.cell_of_heap hA 0).trans rfl
  have m1 := (Lib.cell_of_heap hA 1).trans rfl
  obtain ⟨f0, f1, -, -, -⟩ := fz hA
  have bN := (Below.refl w.heap.size w).alloc (Nat.le_refl _) (.cells #[.int .i64 1, .int .i64 0] 35)
  have hN : (w.alloc (.cells #[.int .i64 1, .int .i64 0] 35)).heap[w.heap.size]? = some (.cells #[.int .i64 1, .int .i64 0] 35) := heap_alloc_new w _
  have n0 := (Lib.cell_of_heap hN 0).trans rfl
  have n1 := (Lib.cell_of_heap hN 1).trans rfl
  have fin := Lib.hid (hR.out _ bN)
  clear bN hN
  clear hR bA hA
  go_enter Tryz.func30, Tryz.ntmps30
  go_wp2_with fail
  refine bodyPost_ret ?_ rfl fin.out
  simp [results, Tryz.results30, go_sem, m0, m1, n0, n1]
set_option maxRecDepth 100000 in
set_option maxHeartbeats 2000000 in
theorem fault_calls (c : Cu) (p g : Nat) (w : World) (h : CurG w p c g) (R : Ending → World → Prop) (hR : Hid (∀ w', Below w.heap.size w w' → R (.returned (.agg #[.int .i64 c.2.2.1, .int .i64 c.2.2.2])) w')) : Calls Tryz.prog 30 #[ptV p] w R := by
  have hpl := h.lt
  obtain ⟨o, k, hp, -⟩ := h.op
  have bA := (Below.refl w.heap.size w).alloc (Nat.le_refl _) (.cells #[.int .i64 0, .int .i64 0] 35)
  have hA : (w.alloc (.cells #[.int .i64 0, .int .i64 0] 35)).heap[w.heap.size]? = some (.cells #[.int .i64 0, .int .i64 0] 35) := heap_alloc_new w _
  have m0 := (Lib.cell_of_heap hA 0).trans rfl
  have m1 := (Lib.cell_of_heap hA 1).trans rfl
  obtain ⟨f0, f1, -, -, -⟩ := fz hA
  obtain ⟨-, -, y2, y3⟩ := four_of ((bA.block _ hpl).trans hp)
  have bN := (Below.refl w.heap.size w).alloc (Nat.le_refl _) (.cells #[.int .i64 c.2.2.1, .int .i64 c.2.2.2] 35)
  have hN : (w.alloc (.cells #[.int .i64 c.2.2.1, .int .i64 c.2.2.2] 35)).heap[w.heap.size]? = some (.cells #[.int .i64 c.2.2.1, .int .i64 c.2.2.2] 35) := heap_alloc_new w _
  have n0 := (Lib.cell_of_heap hN 0).trans rfl
  have n1 := (Lib.cell_of_heap hN 1).trans rfl
  have fin := Lib.hid (hR.out _ bN)
  clear bN hN
  clear hR bA hA hp h
  generalize c.2.2.1 = e at *
  generalize c.2.2.2 = z at *
  go_enter Tryz.func30, Tryz.ntmps30
  go_wp2_with fail
  refine bodyPost_ret ?_ rfl fin.out
  simp [results, Tryz.results30, go_sem, m0, m1, n0, n1]
theorem scn_end14 {s : ByteArray} {l : List Tk} (h : scnS s = (some l, 0, 0)) : EndL l := by
  refine endL_scn (s := s) l 0 (Nat.zero_le _) ?_
  unfold scnS at h
  by_cases q : 65536 < s.size
  · rw [if_pos q] at h; simp at h
  · rwa [if_neg q] at h
theorem scn_bad14 {s : ByteArray} {e z : Int} (h : scnS s = (none, e, z)) : e ≠ 0 := by
  unfold scnS at h
  by_cases q : 65536 < s.size
  · rw [if_pos q] at h
    simp only [Prod.mk.injEq, true_and] at h
    omega
  · rw [if_neg q] at h
    have := scn_fault s.size 0 false e z (by omega) (by omega) h
    omega
theorem rdk_apart2 {w : World} {g o n k q : Nat} {l : List Tk} (h : RdK w (.slice (some ⟨g, o, none⟩) n k) l) (hl : EndL l) {a b : Value} {t : TypeId} (hq : w.heap[q]? = some (.cells #[a, b] t)) : g ≠ q := by
  rintro rfl
  obtain ⟨-, -, -, -, -, -, h3, -⟩ := rdk_first h hl
  rw [Lib.cell_of_heap hq] at h3
  simp at h3
theorem CurG.new {W : World} {l : List Tk} {g o n k : Nat} (rd : RdK W (.slice (some ⟨g, o, none⟩) n k) l) (hl : EndL l) : CurG (W.alloc (.cells #[.slice (some ⟨g, o, none⟩) n k, .int .i64 0, .int .i64 0, .int .i64 0] 74)) W.heap.size (l, 0, 0, 0) g := by
  obtain ⟨hg, rfl, -⟩ := rdk_first rd hl
  have bA := (Below.refl W.heap.size W).alloc (Nat.le_refl _) (.cells #[.slice (some ⟨g, o, none⟩) l.length k, .int .i64 0, .int .i64 0, .int .i64 0] 74)
  refine ⟨by simp, Nat.lt_of_lt_of_le hg bA.size, hl, o, k, ?_, ?_⟩
  · exact heap_alloc_new W _
  · exact rdk_blk rd (bA.block _ hg) bA.size
set_option maxRecDepth 100000 in
set_option maxHeartbeats 2000000 in
theorem curnew_calls (s : ByteArray) (hs : s.size ≤ maxLen) (w : World) (R : Ending → World → Prop)
    (hR : Hid (∀ l p w', scnS s = (some l, 0, 0) → w.heap.size ≤ p → CurP w' p (l, 0, 0, 0) → Below w.heap.size w w' → R (.returned (.tuple #[ptV p, .agg #[.int .i64 0, .int .i64 0]])) w'))
    (hR2 : Hid (∀ e z w', scnS s = (none, e, z) → Below w.heap.size w w' → R (.returned (.tuple #[.pointer none, .agg #[.int .i64 e, .int .i64 z]])) w')) : Calls Tryz.prog 14 #[.string s] w R := by
  have hA : (w.alloc (.cells #[.int .i64 0, .int .i64 0] 35)).heap[w.heap.size]? = some (.cells #[.int .i64 0, .int .i64 0] 35) := heap_alloc_new w _
  have hl : w.heap.size < (w.alloc (.cells #[.int .i64 0, .int .i64 0] 35)).heap.size := by simp
  have bA := Lib.hid ((Below.refl w.heap.size w).alloc (Nat.le_refl _) (.cells #[.int .i64 0, .int .i64 0] 35))
  go_enter Tryz.func14, Tryz.ntmps14
  go_wp2_with fail
  generalize w.alloc (.cells #[.int .i64 0, .int .i64 0] 35) = W2 at *
  refine scan_calls s hs W2 _ (Lib.hid fun l v w3 h3 rd n3 => ?_) (Lib.hid fun e z A k w3 h3 n3 => ?_)
  · have hE := scn_end14 h3
    obtain ⟨A, k, rfl, -, hr⟩ := rd.op
    obtain ⟨g, o, rfl, -, -⟩ := hr (List.length_pos_iff.2 hE.ne)
    have hB := (n3.block _ hl).trans hA
    have hl3 := Nat.lt_of_lt_of_le hl n3.size
    have bB := bA.out.trans (n3.mono bA.out.size)
    have hgne := rdk_apart2 rd hE hB
    have bC := (Below.refl w3.heap.size w3).alloc (Nat.le_refl _) (.cells #[.int .i64 0, .int .i64 0] 35)
    have hC : (w3.alloc (.cells #[.int .i64 0, .int .i64 0] 35)).heap[w3.heap.size]? = some (.cells #[.int .i64 0, .int .i64 0] 35) := heap_alloc_new w3 _
    have k0 := (Lib.cell_of_heap hC 0).trans rfl
    have k1 := (Lib.cell_of_heap hC 1).trans rfl
    have hD := (bC.block _ hl3).trans hB
    have rdC := rdk_blk rd (bC.block _ (rdk_first rd hE).1) bC.size
    have bD := bB.trans (bC.mono bB.size)
    have hls := Nat.lt_of_lt_of_le hl3 bC.size
    clear hA hB hC bC n3 bA rd hr
    have hs4 : (w3.alloc (.cells #[.int .i64 0, .int .i64 0] 35)).heap.size = w3.heap.size + 1 := by simp
    have cN := CurG.new rdC hE
    rw [hs4] at cN
    replace cN := Lib.hid cN
    have bDs := bD.size
    have hls' := hls
    rw [hs4] at bDs hls
    have bE := bD.alloc bD.size (.cells #[.slice (some ⟨g, o, none⟩) l.length k, .int .i64 0, .int .i64 0, .int .i64 0] 74)
    have hF := (((Below.refl (w3.alloc (.cells #[.int .i64 0, .int .i64 0] 35)).heap.size (w3.alloc (.cells #[.int .i64 0, .int .i64 0] 35))).alloc (Nat.le_refl _) (.cells #[.slice (some ⟨g, o, none⟩) l.length k, .int .i64 0, .int .i64 0, .int .i64 0] 74)).block _ hls').trans hD
    obtain ⟨f0, f1, -, -, -⟩ := fz hF
    have m0 := (Lib.cell_of_heap hF 0).trans rfl
    have m1 := (Lib.cell_of_heap hF 1).trans rfl
    have hgW := (rdk_first rdC hE).1
    have fin := Lib.hid (hR.out l (w3.heap.size + 1) _ h3 bDs ⟨g, (cN.out.set (q := w.heap.size) (o := 0) (by omega) hgne (.int .i64 0)).set (q := w.heap.size) (o := 1) (by omega) hgne (.int .i64 0)⟩ (set2 (Nat.le_refl _) bE (.int .i64 0) (.int .i64 0)))
    clear hR hR2 bD bE hD hF rdC cN bB hE h3 hl3 hls hls' hl hgW hgne bDs hs4
    go_wp2_with fail
    refine bodyPost_ret ?_ rfl fin.out
    simp [results, Tryz.results14, go_sem, m0, m1]
  · have he := scn_bad14 h3
    have q1 : (e != 0) = true := by simpa using he
    have hB := (n3.block _ hl).trans hA
    have hl3 := Nat.lt_of_lt_of_le hl n3.size
    have bB := bA.out.trans (n3.mono bA.out.size)
    have bC := (Below.refl w3.heap.size w3).alloc (Nat.le_refl _) (.cells #[.int .i64 e, .int .i64 z] 35)
    have hC : (w3.alloc (.cells #[.int .i64 e, .int .i64 z] 35)).heap[w3.heap.size]? = some (.cells #[.int .i64 e, .int .i64 z] 35) := heap_alloc_new w3 _
    have k0 := (Lib.cell_of_heap hC 0).trans rfl
    have k1 := (Lib.cell_of_heap hC 1).trans rfl
    have hD := (bC.block _ hl3).trans hB
    have bD := Lib.hid (bB.trans (bC.mono bB.size))
    replace hD := Lib.hid hD
    have fin := Lib.hid fun W h => hR2.out e z W h3 h
    clear hA hB hC bC n3 bA bB hR hR2 h3
    go_wp2_with fail
    generalize w3.alloc (.cells #[.int .i64 e, .int .i64 z] 35) = W4 at *
    have hl4 := Lib.hid hl3
    go_still_tail 2, (by kernel_rfl)
    repeat still_step
    change wpList _ _ _ _ _ W4.drew
    obtain ⟨f0, f1, -, -, -⟩ := fz hD.out
    have m0 := (Lib.cell_of_heap hD.out 0).trans rfl
    have m1 := (Lib.cell_of_heap hD.out 1).trans rfl
    have f2 := Lib.hid (fin.out _ (set2 (Nat.le_refl _) bD.out.drew (.int .i64 e) (.int .i64 z)))
    clear fin bD hD
    go_wp2_with fail
    refine bodyPost_ret ?_ rfl f2.out
    simp [results, Tryz.results14, go_sem, m0, m1]
theorem curpeek_calls (c : Cu) (p : Nat) (w : World) (h : CurP w p c) (R : Ending → World → Prop) (hR : Hid (∀ w', Below w.heap.size w w' → R (.returned (tkV (peekS c))) w')) : Calls Tryz.prog 28 #[ptV p] w R := by
  obtain ⟨g, h⟩ := h
  exact peek_calls c p g w h R hR
theorem curdepth_calls (c : Cu) (p : Nat) (w : World) (h : CurP w p c) (R : Ending → World → Prop) (hR : Hid (∀ w', Below w.heap.size w w' → R (.returned (.int .i64 c.2.1)) w')) : Calls Tryz.prog 100 #[ptV p] w R := by
  obtain ⟨g, h⟩ := h
  exact depth_calls c p g w h R hR
theorem curfault_calls (c : Cu) (p : Nat) (w : World) (h : CurP w p c) (R : Ending → World → Prop) (hR : Hid (∀ w', Below w.heap.size w w' → R (.returned (.agg #[.int .i64 c.2.2.1, .int .i64 c.2.2.2])) w')) : Calls Tryz.prog 30 #[ptV p] w R := by
  obtain ⟨g, h⟩ := h
  exact fault_calls c p g w h R hR
theorem curnext_calls (c : Cu) (p : Nat) (w : World) (h : CurP w p c) (R : Ending → World → Prop) (hR : Hid (∀ w', CurP w' p (nextS c) → w.grownBy w' (some p) → R (.returned (tkV (peekS c))) w')) : Calls Tryz.prog 111 #[ptV p] w R := by
  obtain ⟨g, h⟩ := h
  exact next_calls c p g  w h R (Lib.hid fun w' q gr => hR.out w' ⟨_, q⟩ gr)
theorem curmark_calls (c : Cu) (p : Nat) (m : ByteArray) (w : World) (h : CurP w p c) (R : Ending → World → Prop) (hR : Hid (∀ w', CurP w' p (takeS c 4 m false) → w.grownBy w' (some p) → R (.returned (.bool (hasS c 4 m false))) w')) : Calls Tryz.prog 110 #[ptV p, .string m] w R := by
  obtain ⟨g, h⟩ := h
  exact mark_calls c p g m w h R (Lib.hid fun w' q gr => hR.out w' ⟨_, q⟩ gr)
theorem curword_calls (c : Cu) (p : Nat) (m : ByteArray) (w : World) (h : CurP w p c) (R : Ending → World → Prop) (hR : Hid (∀ w', CurP w' p (takeS c 1 m false) → w.grownBy w' (some p) → R (.returned (.bool (hasS c 1 m false))) w')) : Calls Tryz.prog 36 #[ptV p, .string m] w R := by
  obtain ⟨g, h⟩ := h
  exact word_calls c p g m w h R (Lib.hid fun w' q gr => hR.out w' ⟨_, q⟩ gr)
theorem curtake_calls (c : Cu) (p : Nat) (k : Int) (w : World) (h : CurP w p c) (R : Ending → World → Prop) (hR : Hid (∀ w', CurP w' p (if k ≠ 0 ∧ (peekS c).1 = k then nextS c else c) → w.grownBy w' (some p) → R (.returned (.tuple #[tkV (if k ≠ 0 ∧ (peekS c).1 = k then peekS c else zT), .bool (decide (k ≠ 0 ∧ (peekS c).1 = k))])) w')) : Calls Tryz.prog 67 #[ptV p, .int .i64 k] w R := by
  obtain ⟨g, h⟩ := h
  exact cqtake_calls c p g k w h R (Lib.hid fun w' q gr => hR.out w' ⟨_, q⟩ gr)
theorem curneed_calls (c : Cu) (p : Nat) (m : ByteArray) (w : World) (h : CurP w p c) (R : Ending → World → Prop) (hR : Hid (∀ w', CurP w' p (needS c m) → w.grownBy w' (some p) → R (.returned (.bool (hasS c 4 m false))) w')) : Calls Tryz.prog 65 #[ptV p, .string m] w R := by
  obtain ⟨g, h⟩ := h
  exact cqneed_calls c p g m w h R (Lib.hid fun w' g' _ q gr => hR.out w' ⟨_, q⟩ gr)
theorem curfail_calls (c : Cu) (p : Nat) (e : Int) (w : World) (h : CurP w p c) (R : Ending → World → Prop) (hR : Hid (∀ w', CurP w' p (failS c e (peekS c).2.1) → w.grownBy w' (some p) → R (.returned (.tuple #[])) w')) : Calls Tryz.prog 64 #[ptV p, .int .i64 e] w R := by
  obtain ⟨g, h⟩ := h
  exact cqfail_calls c p g e w h R (Lib.hid fun w' g' _ q gr => hR.out w' ⟨_, q⟩ gr)
theorem curfailat_calls (c : Cu) (p : Nat) (e z : Int) (w : World) (h : CurP w p c) (R : Ending → World → Prop) (hR : Hid (∀ w', CurP w' p (failS c e z) → w.grownBy w' (some p) → R (.returned (.tuple #[])) w')) : Calls Tryz.prog 109 #[ptV p, .int .i64 e, .int .i64 z] w R := by
  obtain ⟨g, h⟩ := h
  exact cqfailat_calls c p g e z w h R (Lib.hid fun w' g' _ q gr => hR.out w' ⟨_, q⟩ gr)
theorem curenter_calls (c : Cu) (p : Nat) (w : World) (h : CurP w p c) (hd : 0 ≤ c.2.1 ∧ c.2.1 ≤ 24) (R : Ending → World → Prop) (hR : Hid (∀ w', CurP w' p (enterS c) → w.grownBy w' (some p) → R (.returned (.bool (decide (c.2.1 < 24)))) w')) : Calls Tryz.prog 53 #[ptV p] w R := by
  obtain ⟨g, h⟩ := h
  exact cqenter_calls c p g  w h hd R (Lib.hid fun w' g' _ q gr => hR.out w' ⟨_, q⟩ gr)
theorem curleave_calls (c : Cu) (p : Nat) (w : World) (h : CurP w p c) (hd : 0 ≤ c.2.1 ∧ c.2.1 ≤ 24) (R : Ending → World → Prop) (hR : Hid (∀ w', CurP w' p (leaveS c) → w.grownBy w' (some p) → R (.returned (.tuple #[])) w')) : Calls Tryz.prog 56 #[ptV p] w R := by
  obtain ⟨g, h⟩ := h
  exact cqleave_calls c p g  w h hd R (Lib.hid fun w' q gr => hR.out w' ⟨_, q⟩ gr)
theorem curpeekN_calls (w : World) (R : Ending → World → Prop) (hR : Hid (∀ w', Below w.heap.size w w' → R (.returned (tkV zT)) w')) : Calls Tryz.prog 28 #[.pointer none] w R := peekN_calls w R hR
theorem curnextN_calls (w : World) (R : Ending → World → Prop) (hR : Hid (∀ w', Below w.heap.size w w' → R (.returned (tkV zT)) w')) : Calls Tryz.prog 111 #[.pointer none] w R := nextN_calls w R hR
end Go.Proofs.YthelhplcijhioaaGreat.Cur
