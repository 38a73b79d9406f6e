import Derived.Test.YtncijmodlhijoaaGreatQ7
import Derived.Great.BuildSlice
import Derived.StillTailTactics
set_option linter.unusedVariables false
set_option maxRecDepth 100000
set_option maxHeartbeats 4000000
namespace Go.Proofs.YtncijmodlhijoaaGreat.Rel
open Go.RowKit Go.Lib
theorem relelem_quiet (n : Nat) (P : List (Nat × Nat)) (v : Value) (w : World) (h : RelP w v n P) (a : Int) (b : Bool) (hb : b = decide (0 ≤ a ∧ a < n)) (m : Nat) :
    Calls Tryz.prog 185 #[v, .int .i64 a] (w.drewN m) fun e w' => e = .returned (.bool b) ∧ w' = w.drewN m :=
  relelem_calls n P v _ (h.below (below_drewN (Below.refl _ _) m)) a b hb _ (Lib.hid ⟨rfl, rfl⟩)
theorem bit_quiet (a : Nat) (ha : a < 64) (w : World) : Calls Tryz.prog 186 #[.int .i64 a] w fun e w' => e = .returned (.int .u64 (bitN a : Nat)) ∧ w' = w := bit_calls a ha w _ (Lib.hid ⟨rfl, rfl⟩)
theorem hasQ_out {n : Nat} {P : List (Nat × Nat)} (hP : InR n P) {a b : Int} (h : ¬ ((0 ≤ a ∧ a < n) ∧ 0 ≤ b ∧ b < n)) : hasQ P a b = false := by
  cases e : hasQ P a b
  · rfl
  · obtain ⟨h0, h1, h2⟩ := hasQ_iff.1 e
    have := hP _ h2
    exact absurd ⟨⟨h0, by omega⟩, h1, by omega⟩ h
theorem and_has {P : List (Nat × Nat)} {f : Nat → Nat} (hf : Rows P f) {a b : Nat} (ha : a < 64) (hb : b < 64) :
    ∃ X : Nat, bits .and .u64 (f a : Nat) (bitN b : Nat) = (X : Int) ∧ (hasQ P a b = true → 0 < X) ∧ (hasQ P a b = false → X = 0) := by
  obtain ⟨g1, g2⟩ := hf a ha
  refine ⟨_, bits_and g1 (bit_wd hb), fun h => ?_, fun h => ?_⟩
  · rw [and_bit, g2, if_pos (decide_eq_true (hasQ_nat.1 h))]; exact bit_pos b
  · rw [and_bit, g2, if_neg]
    intro q
    rw [hasQ_nat.2 (of_decide_eq_true q)] at h
    cases h
theorem relhasx_calls (n : Nat) (P : List (Nat × Nat)) (a b : Int) (hP : InR n P) (hn : n ≤ 64) (v : Value) (w : World) (h : RelP w v n P) (R : Ending → World → Prop)
    (hR : Hid (∀ m, R (.returned (.bool (hasQ P a b))) (w.drewN m))) : Calls Tryz.prog 188 #[v, .int .i64 a, .int .i64 b] w R := by
  have cE := Lib.hid fun x B hB m => relelem_quiet n P v w h x B hB m
  by_cases ha : 0 ≤ a ∧ a < n
  · by_cases hb : 0 ≤ b ∧ b < n
    · obtain ⟨A, rfl⟩ : ∃ A : Nat, a = A := ⟨a.toNat, by omega⟩
      obtain ⟨B, rfl⟩ : ∃ B : Nat, b = B := ⟨b.toNat, by omega⟩
      obtain ⟨p, f, rfl, hp, h0, h1, hf⟩ := h
      have hA : A < 64 := by omega
      have hB : B < 64 := by omega
      have k := h1 A hA
      have eA : true = decide (0 ≤ (A : Int) ∧ (A : Int) < n) := (decide_eq_true ha).symm
      have eB : true = decide (0 ≤ (B : Int) ∧ (B : Int) < n) := (decide_eq_true hb).symm
      obtain ⟨X, hX, X1, X2⟩ := and_has hf hA hB
      have cA := Lib.hid (cE.out _ _ eA)
      have cB := Lib.hid (cE.out _ _ eB)
      clear h0 h1 hf ha hb hP hn cE eA eB
      generalize hasQ P A B = Q at *
      cases Q
      · obtain rfl := X2 rfl
        clear X1 X2
        have q0 : ((0 : Int) != 0) = false := by decide
        go_enter Tryz.func188, Tryz.ntmps188
        go_wp2_with fail
        go_quiet (first | (go_at_call 186; exact Calls.quiet_of_same (bit_quiet _ hB _)) | (with_reducible exact Calls.quiet_of_same (cA.out _)) | (with_reducible exact Calls.quiet_of_same (cB.out _)))
        go_wp2_with fail
        exact hR.out _
      · have hX0 := X1 rfl
        clear X1 X2
        have q0 : ((X : Int) != 0) = true := by simp; omega
        go_enter Tryz.func188, Tryz.ntmps188
        go_wp2_with fail
        go_quiet (first | (go_at_call 186; exact Calls.quiet_of_same (bit_quiet _ hB _)) | (with_reducible exact Calls.quiet_of_same (cA.out _)) | (with_reducible exact Calls.quiet_of_same (cB.out _)))
        go_wp2_with fail
        exact hR.out _
    · rw [hasQ_out hP (fun q => hb q.2)] at hR
      have cA := Lib.hid (cE.out a _ (decide_eq_true ha).symm)
      have cB := Lib.hid (cE.out b _ (decide_eq_false hb).symm)
      obtain ⟨p, rfl⟩ := h.ptr
      clear h ha hb hP hn cE
      go_enter Tryz.func188, Tryz.ntmps188
      go_wp2_with fail
      go_quiet (first | (with_reducible exact Calls.quiet_of_same (cA.out _)) | (with_reducible exact Calls.quiet_of_same (cB.out _)))
      go_wp2_with fail
      exact hR.out _
  · rw [hasQ_out hP (fun q => ha q.1)] at hR
    have cA := Lib.hid (cE.out a _ (decide_eq_false ha).symm)
    obtain ⟨p, rfl⟩ := h.ptr
    clear h ha hP hn cE
    go_enter Tryz.func188, Tryz.ntmps188
    go_wp2_with fail
    go_quiet ((with_reducible exact Calls.quiet_of_same (cA.out _)))
    go_wp2_with fail
    exact hR.out _
def relC (n : Int) : Array Value := (Value.int .i64 n :: List.replicate 64 (Value.int .u64 0)).toArray
theorem built_rel (n : Int) : Tryz.prog.built 261 [(0, .int .i64 n)] = some (relC n) := by kernel_rfl
def relV (n : Nat) (f : Nat → Nat) : List Value := .int .i64 n :: (List.range 64).map fun a => .int .u64 (f a : Nat)
theorem relV_len (n : Nat) (f : Nat → Nat) : (relV n f).length = 65 := by simp [relV]
theorem relV_zero (n : Nat) : (relC n).toList = relV n (fun _ => 0) := by
  unfold relC relV
  simp only [List.map_const']
  rw [List.length_range]
  rfl
theorem relV_get (n : Nat) (f : Nat → Nat) {a : Nat} (h : a < 64) : (relV n f)[1 + a]? = some (.int .u64 (f a : Nat)) := by
  unfold relV
  rw [Nat.add_comm, List.getElem?_cons_succ, List.getElem?_map, List.getElem?_range h]
  rfl
def upd (f : Nat → Nat) (a y : Nat) (b : Nat) : Nat := if b = a then y else f b
theorem relV_set (n : Nat) (f : Nat → Nat) {a : Nat} (h : a < 64) (y : Nat) : (relV n f).set (1 + a) (.int .u64 y) = relV n (upd f a y) := by
  unfold relV
  rw [Nat.add_comm, List.set_cons_succ]
  congr 1
  refine List.ext_getElem (by simp) fun i h1 h2 => ?_
  rw [List.getElem_set]
  simp only [List.getElem_map, List.getElem_range, upd]
  by_cases e : a = i
  · subst e; simp
  · rw [if_neg e, if_neg (fun q => e q.symm)]
theorem Rows.nil : Rows [] (fun _ => 0) := fun a _ => ⟨zero_wd, fun b => by rw [Nat.zero_testBit]; simp⟩
theorem Rows.put {P : List (Nat × Nat)} {f : Nat → Nat} (h : Rows P f) {a b : Nat} (ha : a < 64) (hb : b < 64) : Rows (P ++ [(a, b)]) (upd f a (f a ||| bitN b)) := by
  intro c hc
  obtain ⟨g1, g2⟩ := h c hc
  unfold upd
  by_cases e : c = a
  · subst e
    rw [if_pos rfl]
    refine ⟨or_wd g1 (bit_wd hb), fun i => ?_⟩
    rw [or_bit, g2, Bool.eq_iff_iff, Bool.or_eq_true, decide_eq_true_iff, decide_eq_true_iff, decide_eq_true_iff, List.mem_append, List.mem_singleton, Prod.mk.injEq]
    constructor
    · rintro (h | h)
      · exact .inl h
      · exact .inr ⟨rfl, h.symm⟩
    · rintro (h | h)
      · exact .inl h
      · exact .inr h.2.symm
  · rw [if_neg e]
    refine ⟨g1, fun i => ?_⟩
    rw [g2, Bool.eq_iff_iff]
    simp [e]
abbrev OwnR (w : World) (base B n : Nat) (f : Nat → Nat) : Prop := w.ownsRow base 261 1 (.slice (some ⟨B, 0, none⟩) 65 65) 65 (relV n f)
theorem OwnR.lt {w : World} {base B n : Nat} {f : Nat → Nat} (h : OwnR w base B n f) : B < w.heap.size := by
  obtain ⟨g, c, e, -, hg, -⟩ := own_at h (by omega)
  simp only [Value.slice.injEq, Option.some.injEq, Addr.mk.injEq] at e
  rw [e.1.1]; exact hg
theorem RelP.of_own {w : World} {base B n : Nat} {f : Nat → Nat} {P : List (Nat × Nat)} (h : OwnR w base B n f) (hf : Rows P f) : RelP w (.pointer (some ⟨B, 0, none⟩)) n P :=
  ⟨B, f, rfl, h.lt, World.ownsRow.cellAt h 0 (by omega), fun a ha => (World.ownsRow.cellAt h (1 + a) (by omega)).trans (relV_get n f ha), hf⟩
theorem toN_take {xs : List Pq} {i : Nat} (h : i < xs.length) : toN (xs.take (i + 1)) = toN (xs.take i) ++ [((pqN xs i).1.toNat, (pqN xs i).2.toNat)] := by
  unfold toN
  rw [List.take_succ_eq_append_getElem h, List.map_append, pqN_get h]
  rfl
theorem relnew_calls (n : Int) (hn : -9223372036854775808 ≤ n ∧ n ≤ 9223372036854775807) (xs : List Pq) (v : Value) (w : World) (hx : RdQ w v xs) (hg : ∀ x ∈ xs, GoodQ x) (hl : xs.length ≤ maxLen) (R : Ending → World → Prop)
    (hR : Hid (∀ v' w', RightQ n xs → RelP w' v' n.toNat (toN xs) → Below w.heap.size w w' → R (.returned (.tuple #[v', .bool true])) w'))
    (hR2 : Hid (∀ w', ¬ RightQ n xs → Below w.heap.size w w' → R (.returned (.tuple #[.pointer none, .bool false])) w')) : Calls Tryz.prog 108 #[.int .i64 n, v] w R := by
  obtain ⟨A, c, rfl, hlc, hr⟩ := hx.op
  replace hr := Lib.hid hr
  replace hl : xs.length ≤ 9223372036854775807 := hl
  clear hx
  by_cases h0 : n < 0
  · go_enter Tryz.func108, Tryz.ntmps108
    go_wp2_with fail
    exact hR2.out _ (fun h => by have := h.1; omega) (Below.refl _ _)
  by_cases h1 : 64 < n
  · go_enter Tryz.func108, Tryz.ntmps108
    go_wp2_with fail
    exact hR2.out _ (fun h => by have := h.1; omega) (Below.refl _ _)
  obtain ⟨N, rfl⟩ : ∃ N : Nat, n = N := ⟨n.toNat, by omega⟩
  have hN : N ≤ 64 := by omega
  obtain ⟨C, hC⟩ : ∃ C, C = relC N := ⟨_, rfl⟩
  have hB : ∀ l, l = [(0, Value.int .i64 N)] → Tryz.prog.built 261 l = some C := fun l h => by rw [h, hC]; exact built_rel N
  replace hB := Lib.hid hB
  have hCs : C.size = 65 := by rw [hC]; kernel_rfl
  have hCv : C.toList = relV N (fun _ => 0) := by rw [hC]; exact relV_zero N
  have hO := own_made (n := 65) (w := w) (t := 261) hCv (relV_len _ _) (by unfold maxLen; omega)
  replace hO := Lib.hid hO
  have b1 := Lib.hid ((Below.refl w.heap.size w).alloc (Nat.le_refl _) (.cells C 261))
  clear hC hCv
  go_enter Tryz.func108, Tryz.ntmps108
  go_wp2_with (refine wpList_buildTo rfl 261 _ rfl (some 16) rfl C (hB.out _ (by simp [go_sem])) ?_)
  go_loopg [20] xs.length (fun g i wr => ∃ (K : Nat) (f : Nat → Nat), i = .int .i64 K ∧ K + g = xs.length ∧ Hid (Below w.heap.size w wr) ∧ Hid (OwnR wr w.heap.size w.heap.size N f) ∧ Hid (∀ j, j < K → (0 ≤ (pqN xs j).1 ∧ (pqN xs j).1 < N) ∧ (0 ≤ (pqN xs j).2 ∧ (pqN xs j).2 < N)) ∧ Hid (Rows (toN (xs.take K)) f))
  case atStart => exact ⟨0, _, rfl, by omega, b1, hO, Lib.hid fun j h => by omega, Lib.hid Rows.nil⟩
  case round =>
    obtain ⟨K, f, rfl, c1, nb, ow, c2, hf⟩ := hrel
    clear hO b1 hB
    have hsz := nb.out.size
    have hHl := ow.out.lt
    by_cases hK : K < xs.length
    · obtain ⟨g, o, rfl, hg1, hca⟩ := hr.out (by omega)
      obtain ⟨a0, a1⟩ := hca K hK
      have e0 := (nb.out.cell (p := ⟨g, o + K * 2, none⟩) hg1).trans a0
      have e1 := (nb.out.cell (p := ⟨g, o + K * 2 + 1, none⟩) hg1).trans a1
      have hbad : ¬ ((0 ≤ (pqN xs K).1 ∧ (pqN xs K).1 < N) ∧ (0 ≤ (pqN xs K).2 ∧ (pqN xs K).2 < N)) → ¬ RightQ N xs := fun h q => h (q.2 _ (pqN_mem hK))
      have hgood : ((0 ≤ (pqN xs K).1 ∧ (pqN xs K).1 < N) ∧ (0 ≤ (pqN xs K).2 ∧ (pqN xs K).2 < N)) → ∀ j, j < K + 1 → (0 ≤ (pqN xs j).1 ∧ (pqN xs j).1 < N) ∧ (0 ≤ (pqN xs j).2 ∧ (pqN xs j).2 < N) := fun h j hj => by
        rcases Nat.eq_or_lt_of_le (Nat.le_of_lt_succ hj) with e | q
        · subst e; exact h
        · exact c2.out j q
      have htk := toN_take hK
      clear hca a0 a1 c2
      generalize pqN xs K = x at *
      obtain ⟨a, b⟩ := x
      simp only at e0 e1 hbad hgood htk
      have nW := nb.out.alloc hsz (.cells #[.int .i64 a, .int .i64 b] 257)
      have k0 : (wr.alloc (.cells #[.int .i64 a, .int .i64 b] 257)).cell? ⟨wr.heap.size, 0, none⟩ = some (.int .i64 a) := by rw [World.cell?_alloc_new]; rfl
      have k1 : (wr.alloc (.cells #[.int .i64 a, .int .i64 b] 257)).cell? ⟨wr.heap.size, 1, none⟩ = some (.int .i64 b) := by rw [World.cell?_alloc_new]; rfl
      have ow2 := own_below ow.out ((Below.refl wr.heap.size wr).alloc (Nat.le_refl _) (.cells #[.int .i64 a, .int .i64 b] 257))
      have hP := RelP.of_own ow2 hf.out
      have cE := fun x B hB R hR => relelem_calls N _ _ _ hP x B hB R hR
      replace hbad := Lib.hid hbad
      replace hgood := Lib.hid hgood
      replace htk := Lib.hid htk
      replace cE := Lib.hid cE
      replace nW := Lib.hid nW
      replace ow2 := Lib.hid ow2
      clear hP ow nb
      by_cases qa : 0 ≤ a ∧ a < N
      · have cA := Lib.hid (cE.out a true (decide_eq_true qa).symm)
        by_cases qb : 0 ≤ b ∧ b < N
        · have cB := Lib.hid (cE.out b true (decide_eq_true qb).symm)
          have hg := Lib.hid (hgood.out ⟨qa, qb⟩)
          obtain ⟨u, rfl⟩ : ∃ u : Nat, a = u := ⟨a.toNat, by omega⟩
          obtain ⟨t, rfl⟩ : ∃ t : Nat, b = t := ⟨b.toNat, by omega⟩
          have hu : u < 64 := by omega
          have ht : t < 64 := by omega
          clear cE hbad hgood qa qb
          go_wp2_with fail
          clear e0 e1
          refine cA.out _ (Lib.hid ?_)
          go_wp2_with fail
          refine cB.out _ (Lib.hid ?_)
          go_wp2_with fail
          go_outline
          obtain ⟨gf, -⟩ := hf.out u hu
          have r1 := (World.ownsRow.cellAt ow2.out (1 + u) (by omega)).trans (relV_get N f hu)
          have r2 := World.ownsRow.frozenAt ow2.out (1 + u)
          have eO := bits_or gf (bit_wd ht)
          generalize hW : wr.alloc (.cells #[.int .i64 (u : Int), .int .i64 (t : Int)] 257) = W1 at *
          have hi0 : (0 : Int) ≤ (u : Int) := by omega
          have hi1 : (u : Int) < 64 := by omega
          go_still_tail 14, (by kernel_rfl)
          still_call (bit_quiet _ ht _)
          repeat still_step
          refine wpStill_nil ?_
          change wpList _ _ _ _ _ W1.drew
          have ow3 := ow2.out.drew
          have nW3 := nW.out.drew
          have r3 := World.ownsRow.frozenAt ow3 (1 + u)
          have r4 := (World.ownsRow.cellAt ow3 (1 + u) (by omega)).trans (relV_get N f hu)
          obtain ⟨o4, -⟩ := World.ownsRow.stored ow3 (1 + u) (.int .u64 ((f u ||| bitN t : Nat) : Int))
          rw [relV_set N f hu] at o4
          have n4 := Lib.hid (nW3.setCell (p := ⟨w.heap.size, 1 + u, none⟩) (Nat.le_refl _) (.int .u64 ((f u ||| bitN t : Nat) : Int)))
          have hf4 := hf.out.put hu ht
          rw [Int.toNat_natCast, Int.toNat_natCast] at htk
          rw [← htk.out] at hf4
          replace hf4 := Lib.hid hf4
          replace o4 := Lib.hid o4
          clear r1 r2 ow2 ow3 nW nW3 hf htk eO
          generalize W1.drew = W2 at *
          go_wp2_with fail
          go_roundg (gk - 1)
          case measure => omega
          case rel => exact ⟨K + 1, _, by go_num, by omega, n4, o4, hg, hf4⟩
        · have cB := Lib.hid (cE.out b false (decide_eq_false qb).symm)
          have hno := hbad.out (fun q => qb q.2)
          replace hno := Lib.hid hno
          clear cE hbad hgood qa qb
          go_wp2_with fail
          clear e0 e1
          refine cA.out _ (Lib.hid ?_)
          go_wp2_with fail
          refine cB.out _ (Lib.hid ?_)
          go_wp2_with fail
          exact hR2.out _ hno.out nW.out
      · have cA := Lib.hid (cE.out a false (decide_eq_false qa).symm)
        have hno := hbad.out (fun q => qa q.1)
        replace hno := Lib.hid hno
        clear cE hbad hgood qa
        go_wp2_with fail
        clear e0 e1
        refine cA.out _ (Lib.hid ?_)
        go_wp2_with fail
        exact hR2.out _ hno.out nW.out
    · obtain rfl : K = xs.length := by omega
      have hright : RightQ N xs := ⟨⟨by omega, by omega⟩, fun x hx => by
        obtain ⟨i, hi, e⟩ := List.getElem_of_mem hx
        rw [← e, ← pqN_get hi]
        exact c2.out i hi⟩
      have hrel := RelP.of_own ow.out hf.out
      rw [List.take_length] at hrel
      have fin := hR.out _ _ hright (by rw [Int.toNat_natCast]; exact hrel) nb.out
      replace fin := Lib.hid fin
      clear hright hrel c2 hf ow nb
      go_wp2_with fail
      exact fin.out
end Go.Proofs.YtncijmodlhijoaaGreat.Rel
