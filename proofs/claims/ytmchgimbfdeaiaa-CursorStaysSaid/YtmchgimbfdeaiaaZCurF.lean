/- Layer 14: calls as they came in; the law CursorStays walked. -/
import Derived.Test.YtmchgimbfdeaiaaZCurE
import Derived.Test.YtmchgimbfdeaiaaZTokF
set_option maxRecDepth 100000
set_option linter.unusedVariables false
namespace Go.Proofs.Ytmchgimbfdeaiaa.Cur
open Go.RowKit Go.Lib Go.Proofs.Ytmchgimbfdeaiaa.Utf Go.Proofs.Ytmchgimbfdeaiaa.Tok Go.ChangeShapes Go.WideShapes

/-- A call: its kind, N, At, S. -/
abbrev Oc := Int × Int × Int × ByteArray
def encO (x : Oc) : List Value := [.int .i64 x.1, .int .i64 x.2.1, .int .i64 x.2.2.1, .string x.2.2.2]
theorem encO_len (x : Oc) : (encO x).length = 4 := rfl
abbrev RdO := RdG encO 4
def GoodO (x : Oc) : Prop := (-9223372036854775808 ≤ x.1 ∧ x.1 ≤ 9223372036854775807) ∧ (-9223372036854775808 ≤ x.2.1 ∧ x.2.1 ≤ 9223372036854775807) ∧ (-9223372036854775808 ≤ x.2.2.1 ∧ x.2.2.1 ≤ 9223372036854775807) ∧ x.2.2.2.size ≤ maxLen
theorem arg_ops {H : Type} {enc' : TypeId × Value → H} {W : World} {base : Nat} {v : Value} {d : DataW H} {p : List MemPlace} (hv : Value.okWide Try.prog W .any base 38 v)
    (h : DataW.Trod enc' Try.prog W 0 (fun _ => true) true 38 v d p) : ∃ xs : List Oc, RdO W v xs ∧ (∀ x ∈ xs, GoodO x) ∧ (xs = [] ∨ ∃ es sp, d = .slice es sp ∧ es.length = xs.length) := by
  haveI : Inhabited Oc := ⟨(0, 0, 0, ⟨#[]⟩)⟩
  refine arg_flat encO_len (by decide) GoodO Try.underlying38 (by kernel_rfl) hv h fun n cs x hx hl => ?_
  obtain ⟨ys, m, -, -, -, hys, hf⟩ := DataW.trod_struct Try.underlying42 hx
  match ys, hys, cs, hl with
  | [y0, y1, y2, y3], _, [v0, v1, v2, v3], _ =>
    have g0 := hf 0 _ rfl
    have g1 := hf 1 _ rfl
    have g2 := hf 2 _ rfl
    have g3 := hf 3 _ rfl
    have c3 : Try.prog.cellsOf 3 = 1 := by kernel_rfl
    have c9 : Try.prog.cellsOf 9 = 1 := by kernel_rfl
    simp [c3, c9] at g0 g1 g2 g3
    obtain ⟨n0, h0, -, w0⟩ := DataW.trod_int Try.underlying3 g0
    obtain ⟨n1, h1, -, w1⟩ := DataW.trod_int Try.underlying3 g1
    obtain ⟨n2, h2, -, w2⟩ := DataW.trod_int Try.underlying3 g2
    obtain ⟨s3, h3, -, w3⟩ := DataW.trod_string Try.underlying9 g3
    simp at h0 h1 h2 h3
    subst h0 h1 h2 h3
    exact ⟨(n0, n1, n2, s3), rfl, wf64 w0, wf64 w1, wf64 w2, w3⟩
abbrev oN (xs : List Oc) (i : Nat) : Oc := xs.getD i (0, 0, 0, ⟨#[]⟩)
theorem oN_get {xs : List Oc} {i : Nat} (h : i < xs.length) : oN xs i = xs[i] := by simp [oN, List.getD, List.getElem?_eq_getElem h]
theorem oN_mem {xs : List Oc} {i : Nat} (h : i < xs.length) : oN xs i ∈ xs := by rw [oN_get h]; exact List.getElem_mem h
theorem RdO.op {w : World} {v : Value} {xs : List Oc} (h : RdO w v xs) : ∃ (A : Option Addr) (c : Nat), v = .slice A xs.length c ∧ xs.length ≤ c ∧
    (0 < xs.length → ∃ g o, A = some ⟨g, o, none⟩ ∧ g < w.heap.size ∧ ∀ i, i < xs.length → w.cell? ⟨g, o + i * 4, none⟩ = some (.int .i64 (oN xs i).1) ∧ w.cell? ⟨g, o + i * 4 + 1, none⟩ = some (.int .i64 (oN xs i).2.1) ∧
      w.cell? ⟨g, o + i * 4 + 2, none⟩ = some (.int .i64 (oN xs i).2.2.1) ∧ w.cell? ⟨g, o + i * 4 + 3, none⟩ = some (.string (oN xs i).2.2.2)) := by
  obtain ⟨A, c, rfl, hl, hr⟩ := RdG.open encO_len (by decide) h
  refine ⟨A, c, rfl, hl, fun h0 => ?_⟩
  obtain ⟨g, o, rfl, hg, hc⟩ := hr h0
  refine ⟨g, o, rfl, hg, fun i hi => ?_⟩
  rw [oN_get hi]
  exact ⟨hc i hi 0 (by decide), hc i hi 1 (by decide), hc i hi 2 (by decide), hc i hi 3 (by decide)⟩

/-- A cursor that has failed. -/
abbrev fC (l : List Tk) : Cu := (l, 0, 18, 7)
theorem peekF (l : List Tk) : peekS (fC l) = (0, 7, 7, ByteArray.empty, 0) := if_pos (show (18 : Int) ≠ 0 by decide)
theorem nextF (l : List Tk) : nextS (fC l) = fC l := if_pos (.inl (show (18 : Int) ≠ 0 by decide))
theorem hasF (l : List Tk) (k : Int) (x : ByteArray) (any : Bool) (hk : k ≠ 0) : hasS (fC l) k x any = false := by
  unfold hasS
  rw [peekF, decide_eq_false (fun e => hk e.symm), Bool.false_and]
theorem takeF (l : List Tk) (k : Int) (x : ByteArray) (any : Bool) (hk : k ≠ 0) : takeS (fC l) k x any = fC l := by unfold takeS; rw [hasF l k x any hk, if_neg (by simp)]
theorem failF (l : List Tk) (e z : Int) : failS (fC l) e z = fC l := if_pos (.inl (show (18 : Int) ≠ 0 by decide))
theorem needF (l : List Tk) (m : ByteArray) : needS (fC l) m = fC l := by unfold needS; rw [hasF l 4 m false (by decide), if_neg (by simp), failF]
/-- One step of a cursor that has not failed. -/
theorem step_ok {s : ByteArray} {m : List Tk} {a : Nat} (ha : a ≤ s.size) (h : scnI s a false = (some m, 0, 0)) :
    ∃ x y : Nat, (hdT m).2.1 = x ∧ (hdT m).2.2.1 = y ∧ a ≤ x ∧ y ≤ s.size ∧ ∃ m', nextS (m, 0, 0, 0) = (m', 0, 0, 0) ∧ scnI s y false = (some m', 0, 0) ∧ (m'.length + 1 ≤ m.length ∨ m'.length = 1) := by
  cases m with
  | nil => exact absurd rfl (scn_ne ha h).1
  | cons t l =>
    obtain ⟨x, y, e1, e2, h1, h2, h3, -, h5⟩ := cov_next ha h
    refine ⟨x, y, e1, e2, h1, h3, ?_⟩
    rcases h5 with ⟨h0, rfl, ht, -⟩ | ⟨h0, -, -, -, hn⟩
    · subst ht
      have hy : y = s.size := by
        simp only [endT] at e2
        omega
      exact ⟨[endT s], if_pos (.inr h0), scn_end false hy, .inr rfl⟩
    · exact ⟨l, if_neg (by rintro (q | q); exact q rfl; simp only [hdT, List.headD_cons] at q; omega), hn, .inl (Nat.le_refl _)⟩
section
variable (l : List Tk) (p : Nat)
theorem takeFF (k : Int) (W : World) (h : CurP W p (fC l)) (R : Ending → World → Prop) (hR : Hid (∀ w', CurP w' p (fC l) → W.grownBy w' (some p) → R (.returned (.tuple #[.agg #[.int .i64 0, .int .i64 0, .int .i64 0, .string ⟨#[]⟩, .int .i64 0], .bool false])) w')) : Calls Try.prog 8 #[ptV p, .int .i64 k] W R := by
  refine curtake_calls (fC l) p k W h R (Lib.hid fun w' c g => ?_)
  have q : ¬ (k ≠ 0 ∧ (peekS (fC l)).1 = k) := by rw [peekF]; rintro ⟨q1, q2⟩; exact q1 q2.symm
  rw [if_neg q] at c
  rw [if_neg q, decide_eq_false q]
  exact hR.out w' c g
theorem markFF (m : ByteArray) (W : World) (h : CurP W p (fC l)) (R : Ending → World → Prop) (hR : Hid (∀ w', CurP w' p (fC l) → W.grownBy w' (some p) → R (.returned (.bool false)) w')) : Calls Try.prog 11 #[ptV p, .string m] W R :=
  curmark_calls (fC l) p m W h R (Lib.hid fun w' c g => by rw [hasF l 4 m false (by decide)]; rw [takeF l 4 m false (by decide)] at c; exact hR.out w' c g)
theorem wordFF (m : ByteArray) (W : World) (h : CurP W p (fC l)) (R : Ending → World → Prop) (hR : Hid (∀ w', CurP w' p (fC l) → W.grownBy w' (some p) → R (.returned (.bool false)) w')) : Calls Try.prog 12 #[ptV p, .string m] W R :=
  curword_calls (fC l) p m W h R (Lib.hid fun w' c g => by rw [hasF l 1 m false (by decide)]; rw [takeF l 1 m false (by decide)] at c; exact hR.out w' c g)
theorem needFF (m : ByteArray) (W : World) (h : CurP W p (fC l)) (R : Ending → World → Prop) (hR : Hid (∀ w', CurP w' p (fC l) → W.grownBy w' (some p) → R (.returned (.bool false)) w')) : Calls Try.prog 13 #[ptV p, .string m] W R :=
  curneed_calls (fC l) p m W h R (Lib.hid fun w' c g => by rw [hasF l 4 m false (by decide)]; rw [needF] at c; exact hR.out w' c g)
theorem nextFF (W : World) (h : CurP W p (fC l)) (R : Ending → World → Prop) (hR : Hid (∀ w', CurP w' p (fC l) → W.grownBy w' (some p) → R (.returned (.agg #[.int .i64 0, .int .i64 7, .int .i64 7, .string ⟨#[]⟩, .int .i64 0])) w')) : Calls Try.prog 10 #[ptV p] W R :=
  curnext_calls (fC l) p W h R (Lib.hid fun w' c g => by rw [peekF]; rw [nextF] at c; exact hR.out w' c g)
theorem failFF (e : Int) (W : World) (h : CurP W p (fC l)) (R : Ending → World → Prop) (hR : Hid (∀ w', CurP w' p (fC l) → W.grownBy w' (some p) → R (.returned (.tuple #[])) w')) : Calls Try.prog 5 #[ptV p, .int .i64 e] W R :=
  curfail_calls (fC l) p e W h R (Lib.hid fun w' c g => by rw [failF] at c; exact hR.out w' c g)
end
theorem box_op (w : World) (a b c : Int) (x : ByteArray) :
    (w.alloc (.cells #[.int .i64 a, .int .i64 b, .int .i64 c, .string x] 42)).cell? ⟨w.heap.size, 0, none⟩ = some (.int .i64 a) ∧ (w.alloc (.cells #[.int .i64 a, .int .i64 b, .int .i64 c, .string x] 42)).cell? ⟨w.heap.size, 1, none⟩ = some (.int .i64 b) ∧
    (w.alloc (.cells #[.int .i64 a, .int .i64 b, .int .i64 c, .string x] 42)).cell? ⟨w.heap.size, 2, none⟩ = some (.int .i64 c) ∧ (w.alloc (.cells #[.int .i64 a, .int .i64 b, .int .i64 c, .string x] 42)).cell? ⟨w.heap.size, 3, none⟩ = some (.string x) := by
  have q1 := heap_alloc_new w (.cells #[.int .i64 a, .int .i64 b, .int .i64 c, .string x] 42)
  refine ⟨?_, ?_, ?_, ?_⟩ <;> (rw [Lib.cell_of_heap q1]; rfl)
theorem run_field_tok (t0 t1 t2 : Int) (t3 : ByteArray) (t4 : Int) (w : World) : (Instr.field 27 (.agg #[.int .i64 t0, .int .i64 t1, .int .i64 t2, .string t3, .int .i64 t4]) 0).run Try.prog w = .ok (.int .i64 t0) w := by
  simp [Instr.field, run_underlying Try.underlying27, part, asAgg, Try.isAgg3, go_sem]
theorem cell_grown {w w' : World} {p g x : Nat} {u : Value} (h : w.grownBy w' (some p)) (hg : g < w.heap.size) (hn : g ≠ p) (hc : w.cell? ⟨g, x, none⟩ = some u) : w'.cell? ⟨g, x, none⟩ = some u :=
  (World.cell?_of_block (a := ⟨g, x, none⟩) (h.block g hg (by simpa using hn))).trans hc
set_option maxRecDepth 100000 in
set_option maxHeartbeats 4000000 in
theorem stays14_walk (s : ByteArray) (hs : s.size ≤ maxLen) (ops : List Oc) (vo : Value) (w : World) (ho : RdO w vo ops) (R : Ending → World → Prop)
    (hR : Hid (∀ w', Below w.heap.size w w' → R (.returned (.bool true)) w')) : Calls Try.prog 4 #[.string s, vo] w R := by
  obtain ⟨Ao, co, rfl, hlo, hro⟩ := ho.op
  replace hro := Lib.hid hro
  clear ho
  by_cases hbig : 1000 < s.size
  · go_enter Try.func4, Try.ntmps4
    go_wp2_with fail
    refine lives14_calls _ _ (Lib.hid fun w6 n6 => ?_)
    go_wp2_with fail
    exact hR.out _ n6
  by_cases hbig2 : 200 < ops.length
  · go_enter Try.func4, Try.ntmps4
    go_wp2_with fail
    refine lives14_calls _ _ (Lib.hid fun w6 n6 => ?_)
    go_wp2_with fail
    exact hR.out _ n6
  have hs1 : s.size ≤ 1000 := by omega
  have cN := Lib.hid fun (W : World) R hR hR2 => curnew_calls s hs W R hR hR2
  have hd1 : decide (1000 < s.size) = false := decide_eq_false hbig
  have hd2 : decide (200 < ops.length) = false := decide_eq_false hbig2
  rcases scn_two s with ⟨l, h1, h2, h3⟩ | ⟨e, z, h1, h2, h3, h4⟩
  · have hV : scnI s 0 false = (some l, 0, 0) := by unfold scnS at h1; rw [if_neg (by omega)] at h1; exact h1
    have hll := scn_len _ 0 false l _ (Nat.le_refl _) (Nat.zero_le _) hV
    have hE := endL_scn l 0 (Nat.zero_le _) hV
    have cN1 := Lib.hid fun (W : World) (R : Ending → World → Prop) (hR : Hid (∀ p w', W.heap.size ≤ p → CurP w' p (l, 0, 0, 0) → Below W.heap.size W w' → R (.returned (.tuple #[ptV p, .agg #[.int .i64 0, .int .i64 0]])) w')) => cN.out W R (Lib.hid fun l' p w' q hp cp nb => by
      rw [h1] at q
      simp only [Prod.mk.injEq, Option.some.injEq, and_true] at q
      subst q
      exact hR.out p w' hp cp nb) (Lib.hid fun e z w' q _ => by rw [h1] at q; simp at q)
    replace hV := Lib.hid hV
    replace hE := Lib.hid hE
    clear h1 h2 h3 cN hs
    go_enter Try.func4, Try.ntmps4
    go_wp2_with fail
    refine cN1.out _ _ (Lib.hid fun p w1 hp cp n1 => ?_)
    have bA := (Below.refl w1.heap.size w1).alloc (Nat.le_refl _) (.cells #[.int .i64 0, .int .i64 0] 35)
    obtain ⟨k0, k1⟩ := box_two' w1 (.int .i64 0) (.int .i64 0) 35
    have n2 := n1.trans (bA.mono n1.size)
    have cp2 := cp.below bA
    have hB1 : w1.heap.size < (w1.alloc (.cells #[.int .i64 0, .int .i64 0] 35)).heap.size := by simp
    have hpl : p < w1.heap.size := cp.lt
    replace n2 := Lib.hid n2
    replace cp2 := Lib.hid cp2
    clear n1 bA cp
    go_wp2_with fail
    generalize w1.alloc (.cells #[.int .i64 0, .int .i64 0] 35) = W2 at *
    refine cN1.out _ _ (Lib.hid fun q w3 hq cq n3 => ?_)
    have bC := (Below.refl w3.heap.size w3).alloc (Nat.le_refl _) (.cells #[.int .i64 0, .int .i64 0] 35)
    have nA := n3.trans (bC.mono n3.size)
    have n4 := n2.out.trans (nA.mono n2.out.size)
    have cp4 := Lib.hid (cp2.out.below nA)
    have cq4 := Lib.hid (cq.below bC)
    have k0' := (nA.cell (p := ⟨w1.heap.size, 0, none⟩) hB1).trans k0
    have hpq : p ≠ q := by omega
    have hq0 : w.heap.size ≤ q := by have := n2.out.size; omega
    have hsz4 := n4.size
    replace n4 := Lib.hid n4
    clear n2 n3 bC nA cp2 cq k0 k1 cN1
    go_wp2_with fail
    clear k0'
    generalize w3.alloc (.cells #[.int .i64 0, .int .i64 0] 35) = W4 at *
    go_loopg [9, 10] (s.size + 1) (fun g at' i wr => ∃ (K a : Nat) (m : List Tk), at' = .int .i64 a ∧ i = .int .i64 K ∧ K + g = s.size + 1 ∧ a ≤ s.size ∧ w.heap.size ≤ wr.heap.size ∧ Hid (Below w.heap.size w wr) ∧ Hid (CurP wr p (l, 0, 0, 0)) ∧ Hid (CurP wr q (m, 0, 0, 0)) ∧ Hid (scnI s a false = (some m, 0, 0)) ∧ Hid (m.length + K ≤ s.size + 1 ∨ m.length = 1))
    case atStart => exact ⟨0, 0, l, rfl, rfl, by omega, by omega, hsz4, n4, cp4, cq4, hV, Lib.hid (.inl (by omega))⟩
    case round =>
      clear n4 cp4 cq4 hV
      obtain ⟨K, a, m, rfl, rfl, b1, b2, b3, nb, cp, cq, hm, hk⟩ := hrel
      by_cases hK : K ≤ s.size
      · obtain ⟨x, y, e1, e2, p1, p2, m', e3, e4, e5⟩ := step_ok b2 hm.out
        have hpk : peekS (m, 0, 0, 0) = hdT m := peek_ok rfl
        have cX := fun R hR => curnext_calls (m, 0, 0, 0) q wr cq.out R hR
        rw [hpk, e3] at cX
        have hk2 := Lib.hid (show m'.length + (K + 1) ≤ s.size + 1 ∨ m'.length = 1 by
          rcases e5 with e5 | e5
          · rcases hk.out with h | h
            · exact .inl (by omega)
            · exact absurd (List.length_eq_zero_iff.1 (by omega : m'.length = 0)) (scn_ne p2 e4).1
          · exact .inr e5)
        replace e4 := Lib.hid e4
        generalize hdT m = t at *
        obtain ⟨t0, t1, t2, t3, t4⟩ := t
        simp only [tkV] at cX e1 e2
        subst e1 e2
        replace cX := Lib.hid cX
        have d1 : decide (x < a) = false := decide_eq_false (by omega)
        have d2 : decide (s.size < y) = false := decide_eq_false (by omega)
        clear e3 e5 hk hm hpk
        go_wp2_with fail
        refine cX.out _ (Lib.hid fun w5 cq5 g5 => ?_)
        have n5 := nb.out.trans (grown_b g5 b3 hq0)
        have cp5 := cp.out.kept cq.out hpq g5
        have bE := (Below.refl w5.heap.size w5).alloc (Nat.le_refl _) (.cells #[.int .i64 t0, .int .i64 (x : Nat), .int .i64 (y : Nat), .string t3, .int .i64 t4] 27)
        have n6 := Lib.hid (n5.alloc n5.size (.cells #[.int .i64 t0, .int .i64 (x : Nat), .int .i64 (y : Nat), .string t3, .int .i64 t4] 27))
        have cp6 := Lib.hid (cp5.below bE)
        have cq6 := Lib.hid (cq5.below bE)
        have hs6 : w.heap.size ≤ (w5.alloc (.cells #[.int .i64 t0, .int .i64 (x : Nat), .int .i64 (y : Nat), .string t3, .int .i64 t4] 27)).heap.size := n6.out.size
        obtain ⟨u0, u1, u2, u3, u4⟩ := box_five' w5 (.int .i64 t0) (.int .i64 (x : Nat)) (.int .i64 (y : Nat)) (.string t3) (.int .i64 t4) 27
        clear n5 cp5 bE g5 cq5 nb cp cq
        go_wp2_with fail
        go_roundg (gk - 1)
        case measure => omega
        case rel => exact ⟨K + 1, y, m', rfl, by go_num, by omega, p2, hs6, n6, cp6, cq6, e4, hk2⟩
      · have hm1 : m.length = 1 := by
          rcases hk.out with h | h
          · have := List.length_pos_iff.2 (scn_ne b2 hm.out).1
            omega
          · exact h
        have hEm := endL_scn m a b2 hm.out
        have ht0 : (hdT m).1 = 0 := by
          obtain ⟨t, m', rfl, ⟨h, -⟩ | ⟨-, h⟩⟩ := hEm.hd
          · exact h
          · simp only [List.length_cons] at hm1
            exact absurd (List.length_eq_zero_iff.1 (by omega : m'.length = 0)) h.ne
        have cP := fun R hR => curpeek_calls (m, 0, 0, 0) q wr cq.out R hR
        rw [show peekS (m, 0, 0, 0) = hdT m from peek_ok rfl] at cP
        have cF := Lib.hid fun (W : World) (hb : Below wr.heap.size wr W) R hR => curfault_calls (m, 0, 0, 0) q W (cq.out.below hb) R hR
        generalize hdT m = t at *
        obtain ⟨t0, t1, t2, t3, t4⟩ := t
        simp only at ht0
        subst ht0
        simp only [tkV] at cP
        replace cP := Lib.hid cP
        have hfl := run_field_tok 0 t1 t2 t3 t4
        have hle : decide (K ≤ s.size) = false := decide_eq_false hK
        clear hk hm hEm hm1
        go_wp2_with fail
        refine cP.out _ (Lib.hid fun w5 n5 => ?_)
        have n5' := Lib.hid n5
        clear n5 cP
        go_wp2_with fail
        refine cF.out w5 n5'.out _ (Lib.hid fun w6 n6 => ?_)
        have n7 := n5'.out.trans (n6.mono n5'.out.size)
        have cp7 := Lib.hid (cp.out.below n7)
        have n8 := nb.out.trans (n7.mono b3)
        have hs8 := n8.size
        replace n8 := Lib.hid n8
        clear n7 n6 n5' cF cq nb cp
        go_wp2_with fail
        refine curfailat_calls (l, 0, 0, 0) p 18 7 w6 cp7.out _ (Lib.hid fun w9 cp9 g9 => ?_)
        rw [show failS (l, 0, 0, 0) 18 7 = fC l from if_neg (by rintro (h | h); exact h rfl; exact absurd h (by decide))] at cp9
        have n10 := n8.out.trans (grown_b g9 hs8 hp)
        have hs10 := n10.size
        replace n10 := Lib.hid n10
        replace cp9 := Lib.hid cp9
        clear g9 n8 cp7
        go_wp2_with fail
        go_loopg [12] ops.length (fun g i wr => ∃ K : Nat, i = .int .i64 K ∧ K + g = ops.length ∧ w.heap.size ≤ wr.heap.size ∧ Hid (Below w.heap.size w wr) ∧ Hid (CurP wr p (fC l)))
        case atStart => exact ⟨0, rfl, by omega, hs10, n10, cp9⟩
        case round =>
          clear n10 cp9
          obtain ⟨K2, rfl, b4, b5, nb, cp⟩ := hrel
          by_cases hK2 : K2 < ops.length
          · obtain ⟨g, o, rfl, hg, hca⟩ := hro.out (by omega)
            obtain ⟨x0, x1, x2, x3⟩ := hca K2 hK2
            have z0 := (nb.out.cell (p := ⟨g, o + K2 * 4, none⟩) hg).trans x0
            have z1 := (nb.out.cell (p := ⟨g, o + K2 * 4 + 1, none⟩) hg).trans x1
            have z2 := (nb.out.cell (p := ⟨g, o + K2 * 4 + 2, none⟩) hg).trans x2
            have z3 := (nb.out.cell (p := ⟨g, o + K2 * 4 + 3, none⟩) hg).trans x3
            have i0 : (0 : Int) ≤ (K2 : Int) := by omega
            have i1 : (K2 : Int) < (ops.length : Int) := by omega
            clear hca x0 x1 x2 x3
            generalize oN ops K2 = x at *
            obtain ⟨o0, o1, o2, o3⟩ := x
            simp only at z0 z1 z2 z3
            have bB := (Below.refl wr.heap.size wr).alloc (Nat.le_refl _) (.cells #[.int .i64 o0, .int .i64 o1, .int .i64 o2, .string o3] 42)
            obtain ⟨u0, u1, u2, u3⟩ := box_op wr o0 o1 o2 o3
            have m0 := nb.out.trans (bB.mono b5)
            have c0 := cp.out.below bB
            have hB : wr.heap.size < (wr.alloc (.cells #[.int .i64 o0, .int .i64 o1, .int .i64 o2, .string o3] 42)).heap.size := by simp
            have hne : wr.heap.size ≠ p := by have := cp.out.lt; omega
            have hq0 := m0.size
            replace c0 := Lib.hid c0
            replace m0 := Lib.hid m0
            clear bB nb cp
            go_wp2_with fail
            clear z0 z1 z2 z3 u0 u2
            generalize wr.alloc (.cells #[.int .i64 o0, .int .i64 o1, .int .i64 o2, .string o3] 42) = V0 at *
            generalize wr.heap.size = B at *
            refine takeFF l p o1 V0 c0.out _ (Lib.hid fun V0' c0' g0 => ?_)
            replace u1 := cell_grown g0 hB hne u1
            replace u3 := cell_grown g0 hB hne u3
            replace hB := Nat.lt_of_lt_of_le hB g0.size
            have m0' := m0.out.trans (grown_b g0 hq0 hp)
            have bT := (Below.refl V0'.heap.size V0').alloc (Nat.le_refl _) (.cells #[.int .i64 0, .int .i64 0, .int .i64 0, .string ⟨#[]⟩, .int .i64 0] 27)
            replace u1 := (bT.cell (p := ⟨B, 1, none⟩) hB).trans u1
            replace u3 := (bT.cell (p := ⟨B, 3, none⟩) hB).trans u3
            replace hB := Nat.lt_of_lt_of_le hB bT.size
            have c1 := Lib.hid (c0'.below bT)
            have m1 := Lib.hid (m0'.trans (bT.mono m0'.size))
            have hq1 := m1.out.size
            clear bT c0' m0' g0 c0 m0 hq0
            go_wp2_with fail
            generalize V0'.alloc (.cells #[.int .i64 0, .int .i64 0, .int .i64 0, .string ⟨#[]⟩, .int .i64 0] 27) = V1 at *
            refine markFF l p o3 V1 c1.out _ (Lib.hid fun V1' c1' g1 => ?_)
            replace u1 := cell_grown g1 hB hne u1
            replace u3 := cell_grown g1 hB hne u3
            replace hB := Nat.lt_of_lt_of_le hB g1.size
            have m1' := m1.out.trans (grown_b g1 hq1 hp)
            have c2 := Lib.hid c1'
            have m2 := Lib.hid m1'
            have hq2 := m2.out.size
            clear c1' m1' g1 c1 m1 hq1
            go_wp2_with fail
            skip
            refine wordFF l p o3 V1' c2.out _ (Lib.hid fun V2' c2' g2 => ?_)
            replace u1 := cell_grown g2 hB hne u1
            replace u3 := cell_grown g2 hB hne u3
            replace hB := Nat.lt_of_lt_of_le hB g2.size
            have m2' := m2.out.trans (grown_b g2 hq2 hp)
            have c3 := Lib.hid c2'
            have m3 := Lib.hid m2'
            have hq3 := m3.out.size
            clear c2' m2' g2 c2 m2 hq2
            go_wp2_with fail
            skip
            refine needFF l p o3 V2' c3.out _ (Lib.hid fun V3' c3' g3 => ?_)
            replace u1 := cell_grown g3 hB hne u1
            replace u3 := cell_grown g3 hB hne u3
            replace hB := Nat.lt_of_lt_of_le hB g3.size
            have m3' := m3.out.trans (grown_b g3 hq3 hp)
            have c4 := Lib.hid c3'
            have m4 := Lib.hid m3'
            have hq4 := m4.out.size
            clear c3' m3' g3 c3 m3 hq3
            go_wp2_with fail
            skip
            refine nextFF l p V3' c4.out _ (Lib.hid fun V4' c4' g4 => ?_)
            replace u1 := cell_grown g4 hB hne u1
            replace u3 := cell_grown g4 hB hne u3
            replace hB := Nat.lt_of_lt_of_le hB g4.size
            have m4' := m4.out.trans (grown_b g4 hq4 hp)
            have c5 := Lib.hid c4'
            have m5 := Lib.hid m4'
            have hq5 := m5.out.size
            clear c4' m4' g4 c4 m4 hq4
            go_wp2_with fail
            skip
            refine failFF l p o1 V4' c5.out _ (Lib.hid fun V5' c5' g5 => ?_)
            replace u1 := cell_grown g5 hB hne u1
            replace u3 := cell_grown g5 hB hne u3
            replace hB := Nat.lt_of_lt_of_le hB g5.size
            have m5' := m5.out.trans (grown_b g5 hq5 hp)
            have c6 := Lib.hid c5'
            have m6 := Lib.hid m5'
            have hq6 := m6.out.size
            clear c5' m5' g5 c5 m5 hq5
            go_wp2_with fail
            skip
            go_roundg (gk - 1)
            case measure => omega
            case rel => exact ⟨K2 + 1, by go_num, by omega, hq6, m6, c6⟩
          · obtain rfl : K2 = ops.length := by omega
            have cF := Lib.hid fun R hR => curfault_calls (fC l) p wr cp.out R hR
            clear cp
            go_wp2_with fail
            refine cF.out _ (Lib.hid fun w11 n11 => ?_)
            have n12 := Lib.hid (nb.out.trans (n11.mono b5))
            clear n11 nb cF
            go_wp2_with fail
            refine lives14_calls _ _ (Lib.hid fun w13 n13 => ?_)
            have n14 := Lib.hid (n12.out.trans (n13.mono n12.out.size))
            clear n13 n12
            go_wp2_with fail
            exact hR.out _ n14.out
  · have cN2 := Lib.hid fun (W : World) (R : Ending → World → Prop) (hR : Hid (∀ w', Below W.heap.size W w' → R (.returned (.tuple #[.pointer none, .agg #[.int .i64 e, .int .i64 z]])) w')) => cN.out W R (Lib.hid fun l' p w' q _ _ _ => by rw [h1] at q; simp at q) (Lib.hid fun e' z' w' q nb => by
      rw [h1] at q
      simp only [Prod.mk.injEq, true_and] at q
      obtain ⟨rfl, rfl⟩ := q
      exact hR.out w' nb)
    have q1 : (e != 0) = true := by simpa using h2
    clear h1 h2 cN hs
    go_enter Try.func4, Try.ntmps4
    go_wp2_with fail
    refine cN2.out _ _ (Lib.hid fun w1 n1 => ?_)
    have bA := (Below.refl w1.heap.size w1).alloc (Nat.le_refl _) (.cells #[.int .i64 e, .int .i64 z] 35)
    obtain ⟨k0, k1⟩ := box_two' w1 (.int .i64 e) (.int .i64 z) 35
    have n2 := Lib.hid (n1.trans (bA.mono n1.size))
    have hB1 : w1.heap.size < (w1.alloc (.cells #[.int .i64 e, .int .i64 z] 35)).heap.size := by simp
    clear n1 bA
    go_wp2_with fail
    generalize w1.alloc (.cells #[.int .i64 e, .int .i64 z] 35) = W2 at *
    refine cN2.out _ _ (Lib.hid fun w3 n3 => ?_)
    have bC := (Below.refl w3.heap.size w3).alloc (Nat.le_refl _) (.cells #[.int .i64 e, .int .i64 z] 35)
    have nA := n3.trans (bC.mono n3.size)
    have n4 := Lib.hid (n2.out.trans (nA.mono n2.out.size))
    have k0' := (nA.cell (p := ⟨w1.heap.size, 0, none⟩) hB1).trans k0
    clear n2 n3 bC nA k0 k1 cN2
    go_wp2_with fail
    refine lives14_calls _ _ (Lib.hid fun w6 n6 => ?_)
    have n7 := Lib.hid (n4.out.trans (n6.mono n4.out.size))
    clear n6 n4
    go_wp2_with fail
    exact hR.out _ n7.out
end Go.Proofs.Ytmchgimbfdeaiaa.Cur
