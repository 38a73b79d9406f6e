/- The walks of EscapeQuotes and EscapeReads. -/
import Derived.Test.YtheeabngdnhibaaEscV
import Derived.Test.YtheeabngdnhibaaEscP
set_option linter.unusedVariables false
namespace Go.Proofs.Ytheeabngdnhibaa.Esc
open Go.RowKit Go.Lib Go.Proofs.Ytheeabngdnhibaa.Utf Go.Proofs.Ytheeabngdnhibaa.Ran Go.Proofs.Ytheeabngdnhibaa.Cel Go.Proofs.Ytheeabngdnhibaa.Bld

set_option maxRecDepth 100000 in
set_option maxHeartbeats 2000000 in
theorem quotes_walk5 (s : ByteArray) (i n : Int) (w : World) (R : Ending → World → Prop) (hs : s.size ≤ maxLen) (hi : -9223372036854775808 ≤ i ∧ i ≤ 9223372036854775807) (hn : 0 ≤ n ∧ n ≤ 4294967295)
    (hR : Hid (∀ w', Below w.heap.size w w' → R (.returned (.bool true)) w')) : Calls Try.prog 3 #[.string s, .int .i64 i, .int .u32 n] w R := by
  unfold maxLen at hs
  have cL := fun (W : World) R hR => lives5_calls W R hR
  replace cL := Lib.hid cL
  by_cases h1 : 600 < s.size
  · have h1' : (600 : Int) < s.size := by omega
    go_enter Try.func3, Try.ntmps3
    go_wp2_with fail
    refine cL.out _ _ (Lib.hid fun w1 n1 => ?_)
    go_wp2_with fail
    exact hR.out _ n1
  have h1' : ¬ (600 : Int) < s.size := by omega
  obtain ⟨N, rfl⟩ : ∃ N : Nat, n = N := ⟨n.toNat, by omega⟩
  have cU := fun (W : World) R hR => eunit_calls s i W (by omega) R hR
  have cQ := fun (W : World) R hR => quote_calls s W (by omega) R hR
  have cK := fun (W : World) R hR => refquote_calls s W (by omega) R hR
  have cC := fun (W : World) R hR => columns_calls s W (by omega) R hR
  have hq := quote_size s
  have cW := fun (W : World) R hR => refWid_calls _ (quoteS s) W (Nat.le_refl _) (by omega) R hR
  have cH := fun (W : World) R hR => hex_calls N (by omega) W R hR
  have cI := fun (W : World) R hR => refhex_calls N N (Nat.le_refl _) (by omega) W R hR
  by_cases ho : i < 0 ∨ (s.size : Int) ≤ i
  · have hu : unP s i = (ByteArray.empty, 0) := if_pos ho
    rw [hu] at cU
    generalize widS (quoteS s) = V at *
    generalize quoteS s = q at *
    generalize hexB N = H at *
    replace cU := Lib.hid cU
    replace cQ := Lib.hid cQ
    replace cK := Lib.hid cK
    replace cC := Lib.hid cC
    replace cW := Lib.hid cW
    replace cH := Lib.hid cH
    replace cI := Lib.hid cI
    have ho2 : i < 0 ∨ (¬ i < 0 ∧ (s.size : Int) ≤ i) := by omega
    clear ho hu
    rcases ho2 with h | ⟨h, h'⟩ <;> (
      go_enter Try.func3, Try.ntmps3
      go_wp2_with fail
      refine cU.out _ _ (Lib.hid fun w1 n1 => ?_)
      go_wp2_with fail
      refine cK.out _ _ (Lib.hid fun w2 n2 => ?_)
      replace n2 := n1.trans (n2.mono n1.size)
      go_wp2_with fail
      refine cQ.out _ _ (Lib.hid fun w3 n3 => ?_)
      replace n3 := n2.trans (n3.mono n2.size)
      go_wp2_with fail
      refine cC.out _ _ (Lib.hid fun w4 n4 => ?_)
      replace n4 := n3.trans (n4.mono n3.size)
      go_wp2_with fail
      refine cW.out _ _ (Lib.hid fun w5 n5 => ?_)
      replace n5 := n4.trans (n5.mono n4.size)
      go_wp2_with fail
      refine cH.out _ _ (Lib.hid ?_)
      go_wp2_with fail
      refine cI.out _ _ (Lib.hid fun w6 n6 => ?_)
      replace n6 := n5.trans (n6.mono n5.size)
      go_wp2_with fail
      refine cL.out _ _ (Lib.hid fun w7 n7 => ?_)
      replace n7 := n6.trans (n7.mono n6.size)
      go_wp2_with fail
      exact hR.out _ n7)
  · obtain ⟨k, rfl⟩ : ∃ k : Nat, i = k := ⟨i.toNat, by omega⟩
    have hk : k < s.size := by omega
    have cB := fun (W : World) R hR => refunit_calls s k hk W (by omega) R hR
    have hb := un_bd hk
    rw [unP_in hk] at cU
    generalize unS s k = u at *
    obtain ⟨p, m⟩ := u
    simp only at cU cB hb
    generalize widS (quoteS s) = V at *
    generalize quoteS s = q at *
    generalize hexB N = H at *
    replace cU := Lib.hid cU
    replace cB := Lib.hid cB
    replace cQ := Lib.hid cQ
    replace cK := Lib.hid cK
    replace cC := Lib.hid cC
    replace cW := Lib.hid cW
    replace cH := Lib.hid cH
    replace cI := Lib.hid cI
    have h2 : ¬ (s.size : Int) ≤ k := by omega
    clear ho
    go_enter Try.func3, Try.ntmps3
    go_wp2_with fail
    refine cU.out _ _ (Lib.hid fun w0 n0 => ?_)
    go_wp2_with fail
    refine cB.out _ _ (Lib.hid fun w1 n1 => ?_)
    replace n1 := n0.trans (n1.mono n0.size)
    go_wp2_with fail
    refine cK.out _ _ (Lib.hid fun w2 n2 => ?_)
    replace n2 := n1.trans (n2.mono n1.size)
    go_wp2_with fail
    refine cQ.out _ _ (Lib.hid fun w3 n3 => ?_)
    replace n3 := n2.trans (n3.mono n2.size)
    go_wp2_with fail
    refine cC.out _ _ (Lib.hid fun w4 n4 => ?_)
    replace n4 := n3.trans (n4.mono n3.size)
    go_wp2_with fail
    refine cW.out _ _ (Lib.hid fun w5 n5 => ?_)
    replace n5 := n4.trans (n5.mono n4.size)
    go_wp2_with fail
    refine cH.out _ _ (Lib.hid ?_)
    go_wp2_with fail
    refine cI.out _ _ (Lib.hid fun w6 n6 => ?_)
    replace n6 := n5.trans (n6.mono n5.size)
    go_wp2_with fail
    refine cL.out _ _ (Lib.hid fun w7 n7 => ?_)
    replace n7 := n6.trans (n7.mono n6.size)
    go_wp2_with fail
    exact hR.out _ n7
set_option maxRecDepth 100000 in
set_option maxHeartbeats 2000000 in
theorem reads_walk5 (q : ByteArray) (i : Int) (w : World) (R : Ending → World → Prop) (hs : q.size ≤ maxLen) (hi : -9223372036854775808 ≤ i ∧ i ≤ 9223372036854775807)
    (hR : Hid (∀ w', Below w.heap.size w w' → R (.returned (.bool true)) w')) : Calls Try.prog 4 #[.string q, .int .i64 i] w R := by
  unfold maxLen at hs
  have cL := fun (W : World) R hR => lives5_calls W R hR
  replace cL := Lib.hid cL
  by_cases h1 : 600 < q.size
  · have h1' : (600 : Int) < q.size := by omega
    go_enter Try.func4, Try.ntmps4
    go_wp2_with fail
    refine cL.out _ _ (Lib.hid fun w1 n1 => ?_)
    go_wp2_with fail
    exact hR.out _ n1
  have h1' : ¬ (600 : Int) < q.size := by omega
  have cU := fun (W : World) R hR => unquote_calls q i W (by omega) R hR
  have cV := fun (W : World) R hR => refunq_calls q i hi W (by omega) R hR
  have cO := fun (W : World) R hR => one_calls q i W (by omega) R hR
  have cP := fun (W : World) R hR => refone_calls q i hi W (by omega) R hR
  have cZ := fun (W : World) R hR => refunq_calls q 0 (by decide) W (by omega) R hR
  have cC := fun (W : World) R hR => canonical_calls q W (by omega) R hR
  have hbk := fun u => unq_quote0 u
  have hsz := unqS_size q 0
  unfold canS at cC
  have hE3 : q = quoteS (unqS q 0).1 → (unqS q 0).2.1 = q.size := fun h2 => by
    have := hbk (unqS q 0).1
    rw [← h2] at this
    exact congrArg (fun z => z.2.1) this
  clear hbk
  generalize unqS q i = V at *
  generalize unqS q 0 = U at *
  generalize oneP q i = p at *
  obtain ⟨vs, vn, vE, vA⟩ := V
  obtain ⟨u, n, E, A⟩ := U
  obtain ⟨pl, pn⟩ := p
  simp only [unqT, oneT, oneR] at cU cV cO cP cZ
  simp only at cC hsz hE3
  have hpb : decide (pn ≠ 0) = decide (0 < pn) := by
    rw [Bool.eq_iff_iff]; simp; omega
  rw [hpb] at cO
  clear hpb
  generalize strOfNums pl = pb at *
  have cQ := fun (W : World) R hR => refquote_calls u W (by omega) R hR
  have key : (E ≠ 0) ∨ (E = 0 ∧ q = quoteS u ∧ n = q.size) ∨ (E = 0 ∧ q ≠ quoteS u ∧ n = q.size) ∨ (E = 0 ∧ q ≠ quoteS u ∧ n ≠ q.size) := by
    by_cases a : E = 0
    · by_cases b : q = quoteS u
      · exact .inr (.inl ⟨a, b, hE3 b⟩)
      · by_cases c : n = q.size
        · exact .inr (.inr (.inl ⟨a, b, c⟩))
        · exact .inr (.inr (.inr ⟨a, b, c⟩))
    · exact .inl a
  clear hE3
  replace cU := Lib.hid cU
  replace cV := Lib.hid cV
  replace cO := Lib.hid cO
  replace cP := Lib.hid cP
  replace cZ := Lib.hid cZ
  have tlne : ∀ y : ByteArray, q ≠ y → (q.toList == y.toList) = false ∧ (y.toList == q.toList) = false := fun y h => by
    constructor
    · rw [bl_inj]; exact decide_eq_false fun e => h (bl_ext e)
    · rw [bl_inj]; exact decide_eq_false fun e => h (bl_ext e).symm
  have hi0 : ∀ (W : World) (a b : Int), (W.alloc (.cells #[.int .i64 a, .int .i64 b] 33)).cell? ⟨W.heap.size, 0, none⟩ = some (.int .i64 a) ∧ (W.alloc (.cells #[.int .i64 a, .int .i64 b] 33)).cell? ⟨W.heap.size, 1, none⟩ = some (.int .i64 b) := fun W a b => by
    constructor <;> simp
  have hop : ∀ (W : World) (o : Obj) (a : Addr), a.block < W.heap.size → (W.alloc o).cell? a = W.cell? a := fun W o a h => ((Below.refl W.heap.size W).alloc (Nat.le_refl _) o).cell h
  replace hi0 := Lib.hid hi0
  replace hop := Lib.hid hop
  replace tlne := Lib.hid tlne
  replace key := Lib.hid key
  replace cC := Lib.hid cC
  replace cQ := Lib.hid cQ
  clear h1
  go_enter Try.func4, Try.ntmps4
  go_wp2_with fail
  refine cU.out _ _ (Lib.hid fun w1 n1 => ?_)
  go_wp2_with fail
  have n1' := n1.alloc n1.size (.cells #[.int .i64 vE, .int .i64 vA] 33)
  have s1 : (w1.alloc (.cells #[.int .i64 vE, .int .i64 vA] 33)).heap.size = w1.heap.size + 1 := by simp
  have k1 := hi0.out w1 vE vA
  refine cV.out _ _ (Lib.hid fun w2 n2 => ?_)
  go_wp2_with fail
  have k10 : w2.cell? ⟨w1.heap.size, 0, none⟩ = some (.int .i64 vE) := by rw [n2.cell (by simp), k1.1]
  have k11 : w2.cell? ⟨w1.heap.size, 1, none⟩ = some (.int .i64 vA) := by rw [n2.cell (by simp), k1.2]
  have z1 : w1.heap.size < w2.heap.size := by have := n2.size; omega
  replace n2 := n1'.trans (n2.mono n1'.size)
  have k2 := hi0.out w2 vE vA
  have p10 := (hop.out w2 (.cells #[.int .i64 vE, .int .i64 vA] 33) ⟨w1.heap.size, 0, none⟩ z1).trans k10
  have p11 := (hop.out w2 (.cells #[.int .i64 vE, .int .i64 vA] 33) ⟨w1.heap.size, 1, none⟩ z1).trans k11
  have s2 : (w2.alloc (.cells #[.int .i64 vE, .int .i64 vA] 33)).heap.size = w2.heap.size + 1 := by simp
  replace n2 := n2.alloc n2.size (.cells #[.int .i64 vE, .int .i64 vA] 33)
  generalize w2.alloc (.cells #[.int .i64 vE, .int .i64 vA] 33) = X2 at *
  clear k10 k11 k1 n1' n1 s1
  refine cO.out _ _ (Lib.hid fun w3 n3 => ?_)
  go_wp2_with fail
  refine cP.out _ _ (Lib.hid fun w4 n4 => ?_)
  replace n4 := n3.trans (n4.mono n3.size)
  go_wp2_with fail
  refine cZ.out _ _ (Lib.hid fun w5 n5 => ?_)
  replace n5 := n4.trans (n5.mono n4.size)
  replace n5 := n5.alloc n5.size (.cells #[.int .i64 E, .int .i64 A] 33)
  have z5 : X2.heap.size ≤ w5.heap.size + 1 := by have := n5.size; simpa using this
  obtain ⟨e0, e1⟩ := hi0.out w5 E A
  have m10 := (n5.cell (p := ⟨w1.heap.size, 0, none⟩) (by simp only; omega)).trans p10
  have m11 := (n5.cell (p := ⟨w1.heap.size, 1, none⟩) (by simp only; omega)).trans p11
  have m20 := (n5.cell (p := ⟨w2.heap.size, 0, none⟩) (by simp only; omega)).trans k2.1
  have m21 := (n5.cell (p := ⟨w2.heap.size, 1, none⟩) (by simp only; omega)).trans k2.2
  have nn := n2.trans (n5.mono n2.size)
  rcases key.out with hE | ⟨hE, hq, hn⟩ | ⟨hE, hq, hn⟩ | ⟨hE, hq, hn⟩
  · replace cC := cC.out
    rw [decide_eq_false hE, Bool.false_and] at cC
    have b1 : (E == 0) = false := by simpa using hE
    replace cC := Lib.hid cC
    clear cQ tlne key
    go_wp2_with fail
    refine cC.out _ _ (Lib.hid fun w6 n6 => ?_)
    replace n6 := nn.trans (n6.mono nn.size)
    go_wp2_with fail
    refine cL.out _ _ (Lib.hid fun w7 n7 => ?_)
    replace n7 := n6.trans (n7.mono n6.size)
    go_wp2_with fail
    exact hR.out _ n7
  · replace cC := cC.out
    replace cQ := cQ.out
    rw [← hq] at cC cQ
    subst hE hn
    rw [decide_eq_true rfl, Bool.true_and, beq_self_eq_true] at cC
    clear hq key tlne
    replace cC := Lib.hid cC
    replace cQ := Lib.hid cQ
    go_wp2_with fail
    refine cQ.out _ _ (Lib.hid fun w6 n6 => ?_)
    have l10 := (n6.cell (p := ⟨w1.heap.size, 0, none⟩) (by simp; omega)).trans m10
    have l11 := (n6.cell (p := ⟨w1.heap.size, 1, none⟩) (by simp; omega)).trans m11
    have l20 := (n6.cell (p := ⟨w2.heap.size, 0, none⟩) (by simp; omega)).trans m20
    have l21 := (n6.cell (p := ⟨w2.heap.size, 1, none⟩) (by simp; omega)).trans m21
    replace n6 := nn.trans (n6.mono nn.size)
    clear m10 m11 m20 m21 e0 e1 nn n5
    go_wp2_with fail
    refine cC.out _ _ (Lib.hid fun w7 n7 => ?_)
    replace n7 := n6.trans (n7.mono n6.size)
    go_wp2_with fail
    refine cL.out _ _ (Lib.hid fun w8 n8 => ?_)
    replace n8 := n7.trans (n8.mono n7.size)
    go_wp2_with fail
    exact hR.out _ n8
  · replace cC := cC.out
    obtain ⟨t1, t2⟩ := tlne.out _ hq
    rw [t1, Bool.and_false] at cC
    subst hE hn
    generalize quoteS u = y at *
    clear hq key tlne t1
    replace cC := Lib.hid cC
    go_wp2_with fail
    refine cQ.out _ _ (Lib.hid fun w6 n6 => ?_)
    have l10 := (n6.cell (p := ⟨w1.heap.size, 0, none⟩) (by simp; omega)).trans m10
    have l11 := (n6.cell (p := ⟨w1.heap.size, 1, none⟩) (by simp; omega)).trans m11
    have l20 := (n6.cell (p := ⟨w2.heap.size, 0, none⟩) (by simp; omega)).trans m20
    have l21 := (n6.cell (p := ⟨w2.heap.size, 1, none⟩) (by simp; omega)).trans m21
    replace n6 := nn.trans (n6.mono nn.size)
    clear m10 m11 m20 m21 e0 e1 nn n5
    go_wp2_with fail
    refine cC.out _ _ (Lib.hid fun w7 n7 => ?_)
    replace n7 := n6.trans (n7.mono n6.size)
    go_wp2_with fail
    refine cL.out _ _ (Lib.hid fun w8 n8 => ?_)
    replace n8 := n7.trans (n8.mono n7.size)
    go_wp2_with fail
    exact hR.out _ n8
  · replace cC := cC.out
    obtain ⟨t1, t2⟩ := tlne.out _ hq
    rw [t1, Bool.and_false] at cC
    subst hE
    have b1 : (n == (q.size : Int)) = false := by simpa using hn
    clear hq key tlne t1 t2 cQ
    replace cC := Lib.hid cC
    go_wp2_with fail
    refine cC.out _ _ (Lib.hid fun w6 n6 => ?_)
    replace n6 := nn.trans (n6.mono nn.size)
    go_wp2_with fail
    refine cL.out _ _ (Lib.hid fun w7 n7 => ?_)
    replace n7 := n6.trans (n7.mono n6.size)
    go_wp2_with fail
    exact hR.out _ n7
theorem wfu32 {n : Int} (h : (Lit.int .u32 n).wf = true) : 0 ≤ n ∧ n ≤ 4294967295 := by
  simp only [Lit.wf, Bool.and_eq_true, decide_eq_true_eq] at h
  exact ⟨Int.le_trans (by decide) h.1, Int.le_trans h.2 (by decide)⟩
end Go.Proofs.Ytheeabngdnhibaa.Esc
