import Derived.Test.YtncijmodlhijoaaGreatQ8
import Derived.WalkMore
import Derived.ScopeJumps
import Derived.Test.YtncijmodlhijoaaGreatQ6
set_option linter.unusedVariables false
set_option maxRecDepth 100000
set_option maxHeartbeats 4000000
namespace Go.Proofs.YtncijmodlhijoaaGreat.Rel
open Go.RowKit Go.Lib
theorem wp_scope_first {P : Program} {a : Act} {w : World} {Q : Exit → Act → World → Prop} {c rest : Code} (l : Nat) (J : Act → World → Prop) (μ : Act → World → Nat) (hf : findLabel c l = some (Code.skip.seq rest))
    (pass : ∀ a w, J a w → rest.wp P (Exit.jump l (fun a' w' => J a' w' ∧ μ a' w' < μ a w) Q) a w)
    (first : (∀ a w, J a w → rest.wp P (Exit.jump l J Q) a w) → c.wp P (Exit.jump l J Q) a w) : (Code.scope c).wp P Q a w :=
  wp_scope_jumps l J μ hf (first fun a w h => Code.wp_mono (fun e a' w' => by
    cases e <;> try exact id
    exact fun ⟨h1, h2⟩ => ⟨h1, h2.1⟩) (pass a w h)) fun a w h => wp_seq (wp_skip (pass a w h))
theorem and_row {x K : Nat} (hx : Wd x) (hK : K < 64) : ∃ X : Nat, bits .and .u64 (x : Nat) (bitN K : Nat) = (X : Int) ∧ (x.testBit K = true → 0 < X) ∧ (x.testBit K = false → X = 0) := by
  refine ⟨_, bits_and hx (bit_wd hK), fun h => ?_, fun h => ?_⟩
  · rw [and_bit, if_pos h]; exact bit_pos K
  · rw [and_bit, h]; rfl
theorem relrow_calls (n : Nat) (P : List (Nat × Nat)) (a : Nat) (hP : InR n P) (hn : n ≤ 64) (ha : a < n) (v : Value) (w : World) (h : RelP w v n P) (R : Ending → World → Prop)
    (hR : Hid (∀ x : Nat, Wd x → (∀ i, x.testBit i = ld n P a i) → R (.returned (.int .u64 x)) w)) : Calls Tryz.prog 192 #[v, .int .i64 a] w R := by
  obtain ⟨p, f, rfl, hp, h0, h1, hf⟩ := h
  replace h1 := Lib.hid h1
  have w0 := Lib.hid (Way.one (P := P) (show a < 64 by omega))
  obtain ⟨M, hM⟩ : ∃ M : Nat, M = 18446744073709551616 := ⟨_, rfl⟩
  replace hM := Lib.hid hM
  replace hf := Lib.hid hf
  replace hP := Lib.hid hP
  go_enter Tryz.func192, Tryz.ntmps192
  go_wp2_with fail
  refine wp_scope_first 0 (fun a' w' => w' = w ∧ ∃ (x : Nat) (u6 u7 u8 u9 u10 u11 u12 u13 u14 u15 u16 u17 u18 u19 u20 u21 u22 u23 u24 u25 u26 u27 u28 u29 u30 u31 u32 u33 u34 u35 u36 u37 u38 u39 u40 u41 : Value),
      a' = { tmps := #[.pointer (some ⟨p, 0, none⟩), .int .i64 a, undef, undef, .int .u64 0, .int .u64 x, u6, u7, u8, u9, u10, u11, u12, u13, u14, u15, u16, u17, u18, u19, u20, u21, u22, u23, u24, u25, u26, u27, u28, u29, u30, u31, u32, u33, u34, u35, u36, u37, u38, u39, u40, u41], defers := [] } ∧ Hid (Way P a x))
    (fun a' _ => M - (intOf (a'.tmps.getD 5 undef)).toNat) rfl ?_ ?_
  · rintro a' w' ⟨rfl, x, u6, u7, u8, u9, u10, u11, u12, u13, u14, u15, u16, u17, u18, u19, u20, u21, u22, u23, u24, u25, u26, u27, u28, u29, u30, u31, u32, u33, u34, u35, u36, u37, u38, u39, u40, u41, rfl, hw⟩
    clear w0
    go_wp2_with fail
    go_loopg [5, 13] n (fun g s i wr => ∃ K : Nat, s = .int .u64 (x : Nat) ∧ i = .int .i64 K ∧ K + g = n ∧ wr = w' ∧ Hid (∀ b, b < K → x.testBit b = true → less (f b) x = 0))
    case atStart => exact ⟨0, rfl, rfl, by omega, rfl, Lib.hid fun b h => by omega⟩
    case round =>
      obtain ⟨K, rfl, rfl, c1, rfl, hc⟩ := hrel
      by_cases hK : K < n
      · have hK64 : K < 64 := by omega
        have hwd := hw.out.1
        obtain ⟨gf, -⟩ := hf.out K hK64
        obtain ⟨X, hX, X1, X2⟩ := and_row hwd hK64
        have e1 := h1.out K hK64
        have e2 := bits_less gf hwd
        have e3 := bits_or hwd gf
        have hc1 : x.testBit K = false ∨ (x.testBit K = true ∧ less (f K) x = 0) → ∀ b, b < K + 1 → x.testBit b = true → less (f b) x = 0 := fun h b hb hx => by
          rcases Nat.eq_or_lt_of_le (Nat.le_of_lt_succ hb) with e | q
          · subst e
            rcases h with h | h
            · rw [h] at hx; cases hx
            · exact h.2
          · exact hc.out b q hx
        cases hb : x.testBit K
        · obtain rfl := X2 hb
          have q0 : ((0 : Int) != 0) = false := by decide
          have hc2 := Lib.hid (hc1 (.inl hb))
          clear hb X1 X2 e1 e2 e3 hc1 hc
          go_wp2_with fail
          refine bit_calls _ hK64 _ _ (Lib.hid ?_)
          go_wp2_with fail
          go_roundg (gk - 1)
          case measure => omega
          case rel => exact ⟨K + 1, rfl, by go_num, by omega, rfl, hc2⟩
        · have hX0 := X1 hb
          have q0 : ((X : Int) != 0) = true := by simp; omega
          by_cases hl : less (f K) x = 0
          · have hc2 := Lib.hid (hc1 (.inr ⟨hb, hl⟩))
            rw [hl] at e2
            have q1 : ((0 : Int) != 0) = false := by decide
            clear hb X1 X2 e3 hc1 hc hl
            go_wp2_with fail
            refine bit_calls _ hK64 _ _ (Lib.hid ?_)
            go_wp2_with fail
            go_roundg (gk - 1)
            case measure => omega
            case rel => exact ⟨K + 1, rfl, by go_num, by omega, rfl, hc2⟩
          · have q1 : (((less (f K) x : Nat) : Int) != 0) = true := by simp; omega
            have hw2 := hw.out.put hf.out hK64 hb
            have hlt := or_lt hwd gf hl
            have hlt2 : x ||| f K < M := by rw [hM.out]; exact hw2.1
            replace hw2 := Lib.hid hw2
            generalize less (f K) x = L at *
            generalize x ||| f K = y at *
            clear hb X1 X2 hc1 hc hl
            go_wp2_with fail
            refine bit_calls _ hK64 _ _ (Lib.hid ?_)
            go_wp2_with fail
            go_step3
            exact ⟨rfl, ⟨rfl, y, _, _, _, _, _, _, _, _, _, _, _, _, _, _, _, _, _, _, _, _, _, _, _, _, _, _, _, _, _, _, _, _, _, _, _, _, rfl, hw2⟩, Nat.sub_lt_sub_left (Nat.lt_trans hlt hlt2) hlt⟩
      · obtain rfl : K = n := by omega
        have hfin := hw.out.fin hP.out hn hf.out ha (fun b hb => hc.out b hb)
        have hwd := hw.out.1
        have fin := Lib.hid (hR.out x hwd hfin)
        clear hfin hwd hc hw
        go_wp2_with fail
        exact fin.out
  · intro key
    replace key := Lib.hid key
    go_wp2_with fail
    refine bit_calls _ (by omega) _ _ (Lib.hid ?_)
    go_wp2_with fail
    go_step3
    rename_i Q' K hK
    exact hK _ _ (key.out _ _ ⟨rfl, bitN a, _, _, _, _, _, _, _, _, _, _, _, _, _, _, _, _, _, _, _, _, _, _, _, _, _, _, _, _, _, _, _, _, _, _, _, _, rfl, w0⟩)
def maskN (p : Nat → Bool) : Nat → Nat
  | 0 => 0
  | k + 1 => if p k = true then maskN p k ||| bitN k else maskN p k
theorem maskN_bit (p : Nat → Bool) : ∀ (k i : Nat), (maskN p k).testBit i = (decide (i < k) && p i)
  | 0, i => by rw [maskN, Nat.zero_testBit]; simp
  | k + 1, i => by
    rw [maskN]
    rcases Nat.lt_trichotomy i k with q | q | q
    · rw [decide_eq_true (by omega : i < k + 1), Bool.true_and]
      split
      · rw [or_bit, maskN_bit p k, decide_eq_true q, decide_eq_false (by omega : ¬ k = i)]; simp
      · rw [maskN_bit p k, decide_eq_true q]; rfl
    · subst q
      rw [decide_eq_true (by omega : i < i + 1), Bool.true_and]
      split
      · next h => rw [or_bit, maskN_bit p i, h]; simp
      · next h => rw [maskN_bit p i]; simp at h; simp [h]
    · rw [decide_eq_false (by omega : ¬ i < k + 1), Bool.false_and]
      split
      · rw [or_bit, maskN_bit p k, decide_eq_false (by omega : ¬ i < k), decide_eq_false (by omega : ¬ k = i)]; rfl
      · rw [maskN_bit p k, decide_eq_false (by omega : ¬ i < k)]; rfl
theorem maskN_wd (p : Nat → Bool) : ∀ (k : Nat), k ≤ 64 → Wd (maskN p k)
  | 0, _ => zero_wd
  | k + 1, h => by
    rw [maskN]
    split
    · exact or_wd (maskN_wd p k (by omega)) (bit_wd (by omega))
    · exact maskN_wd p k (by omega)
theorem ld_lt {n : Nat} {P : List (Nat × Nat)} {a b : Nat} (h : ld n P a b = true) : b < n := by
  have := on_lt h
  rwa [ldR_len] at this
def rowN (n : Nat) (P : List (Nat × Nat)) (a : Nat) : Nat := maskN (ld n P a) n
theorem rowN_bit (n : Nat) (P : List (Nat × Nat)) (a i : Nat) : (rowN n P a).testBit i = ld n P a i := by
  unfold rowN
  rw [maskN_bit]
  cases h : ld n P a i
  · simp
  · rw [decide_eq_true (ld_lt h)]; rfl
theorem relrowx_calls (n : Nat) (P : List (Nat × Nat)) (a : Nat) (hP : InR n P) (hn : n ≤ 64) (ha : a < n) (v : Value) (w : World) (h : RelP w v n P) :
    Calls Tryz.prog 192 #[v, .int .i64 a] w fun e w' => e = .returned (.int .u64 (rowN n P a : Nat)) ∧ w' = w :=
  relrow_calls n P a hP hn ha v w h _ (Lib.hid fun x _ hx => ⟨by rw [show x = rowN n P a from Nat.eq_of_testBit_eq fun i => by rw [hx, rowN_bit]], rfl⟩)
def CloR (n : Nat) (P : List (Nat × Nat)) (K : Nat) (f : Nat → Nat) : Prop := ∀ a, a < 64 → Wd (f a) ∧ ∀ b, (f a).testBit b = (decide (a < K) && ld n P a b)
theorem CloR.nil (n : Nat) (P : List (Nat × Nat)) : CloR n P 0 (fun _ => 0) := fun a _ => ⟨zero_wd, fun b => by rw [Nat.zero_testBit]; simp⟩
theorem CloR.put {n : Nat} {P : List (Nat × Nat)} {K : Nat} {f : Nat → Nat} (h : CloR n P K f) (hn : n ≤ 64) : CloR n P (K + 1) (upd f K (rowN n P K)) := by
  intro a ha
  obtain ⟨g1, g2⟩ := h a ha
  unfold upd
  by_cases e : a = K
  · subst e
    rw [if_pos rfl]
    exact ⟨maskN_wd _ _ hn, fun b => by rw [rowN_bit, decide_eq_true (by omega : a < a + 1)]; rfl⟩
  · rw [if_neg e]
    refine ⟨g1, fun b => ?_⟩
    rw [g2]
    by_cases q : a < K
    · rw [decide_eq_true q, decide_eq_true (by omega : a < K + 1)]
    · rw [decide_eq_false q, decide_eq_false (by omega : ¬ a < K + 1)]
theorem CloR.fin {n : Nat} {P : List (Nat × Nat)} {f : Nat → Nat} (h : CloR n P n f) : Rows (cloL n P) f := by
  intro a ha
  obtain ⟨g1, g2⟩ := h a ha
  refine ⟨g1, fun b => ?_⟩
  rw [g2, Bool.eq_iff_iff, Bool.and_eq_true, decide_eq_true_iff, decide_eq_true_iff, clo_mem]
  exact ⟨fun ⟨h1, h2⟩ => ⟨h1, ld_lt h2, h2⟩, fun ⟨h1, _, h2⟩ => ⟨h1, h2⟩⟩
theorem relclose_calls (n : Nat) (P : List (Nat × Nat)) (hP : InR n P) (hn : n ≤ 64) (v : Value) (w : World) (h : RelP w v n P) (R : Ending → World → Prop)
    (hR : Hid (∀ v' w', RelP w' v' n (cloL n P) → Below w.heap.size w w' → R (.returned v') w')) : Calls Tryz.prog 112 #[v] w R := by
  have cr := Lib.hid fun (W : World) (hb : Below w.heap.size w W) (a : Nat) (ha : a < n) => relrowx_calls n P a hP hn ha v W (h.below hb)
  obtain ⟨p, f0, rfl, hp, h0, -, -⟩ := h
  obtain ⟨C, hC⟩ : ∃ C, C = relC n := ⟨_, rfl⟩
  have hB : ∀ l, l = [(0, Value.int .i64 n)] → Tryz.prog.built 261 l = some C := fun l h => by rw [h, hC]; exact built_rel n
  replace hB := Lib.hid hB
  have hCs : C.size = 65 := by rw [hC]; kernel_rfl
  have hCv : C.toList = relV n (fun _ => 0) := by rw [hC]; exact relV_zero n
  have hO := own_made (n := 65) (w := w) (t := 261) hCv (relV_len _ _) (by unfold maxLen; omega)
  replace hO := Lib.hid hO
  have b1 := Lib.hid ((Below.refl w.heap.size w).alloc (Nat.le_refl _) (.cells C 261))
  have h9 := (b1.out.cell (p := ⟨p, 0, none⟩) hp).trans h0
  clear hC hCv
  go_enter Tryz.func112, Tryz.ntmps112
  go_wp2_with (refine wpList_buildTo rfl 261 _ rfl (some 11) rfl C (hB.out _ (by simp [go_sem])) ?_)
  go_loopg [17] n (fun g i wr => ∃ (K : Nat) (f : Nat → Nat), i = .int .i64 K ∧ K + g = n ∧ Hid (Below w.heap.size w wr) ∧ Hid (OwnR wr w.heap.size w.heap.size n f) ∧ Hid (CloR n P K f))
  case atStart => exact ⟨0, _, rfl, by omega, b1, hO, Lib.hid (CloR.nil n P)⟩
  case round =>
    obtain ⟨K, f, rfl, c1, nb, ow, hf⟩ := hrel
    clear hO b1 hB h9
    by_cases hK : K < n
    · have hK64 : K < 64 := by omega
      have hi0 : (0 : Int) ≤ (K : Int) := by omega
      have hi1 : (K : Int) < 64 := by omega
      have ow3 := ow.out.drew
      have nW3 := nb.out.drew
      have r3 := World.ownsRow.frozenAt ow3 (1 + K)
      have r4 := (World.ownsRow.cellAt ow3 (1 + K) (by omega)).trans (relV_get n f hK64)
      obtain ⟨o4, -⟩ := World.ownsRow.stored ow3 (1 + K) (.int .u64 (rowN n P K : Nat))
      rw [relV_set n f hK64] at o4
      have n4 := Lib.hid (nW3.setCell (p := ⟨w.heap.size, 1 + K, none⟩) (Nat.le_refl _) (.int .u64 (rowN n P K : Nat)))
      have hf4 := Lib.hid (hf.out.put hn)
      have c3 := Lib.hid (cr.out wr.drew nW3 K hK)
      replace o4 := Lib.hid o4
      clear ow ow3 nb nW3 hf cr
      go_wp2_with fail
      go_still_tail 8, (by kernel_rfl)
      still_call c3.out
      repeat still_step
      refine wpStill_nil ?_
      change wpList _ _ _ _ _ wr.drew
      clear c3
      generalize wr.drew = W2 at *
      generalize rowN n P K = y at *
      go_wp2_with fail
      go_roundg (gk - 1)
      case measure => omega
      case rel => exact ⟨K + 1, _, by go_num, by omega, n4, o4, hf4⟩
    · obtain rfl : K = n := by omega
      have fin := Lib.hid (hR.out _ _ (RelP.of_own ow.out hf.out.fin) nb.out)
      clear cr ow nb hf
      go_wp2_with fail
      exact fin.out
end Go.Proofs.YtncijmodlhijoaaGreat.Rel
namespace Go.Proofs.YtncijmodlhijoaaGreat.Lat
open Go.RowKit Go.Lib Rel Nam
def W32 (x : Nat) : Prop := x < 4294967296
theorem w32_pow {x : Nat} : W32 x ↔ x < 2 ^ 32 := by unfold W32; rw [show (2 : Nat) ^ 32 = 4294967296 from by decide]
theorem bit_w32 {a : Nat} (h : a < 32) : W32 (bitN a) := w32_pow.2 (Nat.pow_lt_pow_right (by decide) h)
theorem zero_w32 : W32 0 := by unfold W32; omega
theorem or_w32 {x y : Nat} (hx : W32 x) (hy : W32 y) : W32 (x ||| y) := w32_pow.2 (Nat.or_lt_two_pow (w32_pow.1 hx) (w32_pow.1 hy))
theorem bits_or32 {x y : Nat} (hx : W32 x) (hy : W32 y) : bits .or .u32 (x : Int) (y : Int) = ((x ||| y : Nat) : Int) := u32_or_nat x y hx hy
theorem bits_and32 {x y : Nat} (hx : W32 x) (hy : W32 y) : bits .and .u32 (x : Int) (y : Int) = ((x &&& y : Nat) : Int) := u32_and_nat x y hx hy
theorem wrap_bit32 {a : Nat} (h : a < 32) : IntKind.u32.wrap (2 ^ a) = ((bitN a : Nat) : Int) := by
  have h1 := bit_w32 h
  unfold W32 at h1
  rw [IntKind.wrap_u32', show ((2 : Int) ^ a) = ((bitN a : Nat) : Int) by unfold bitN; simp]
  omega
def Wds (n : Nat) (F : Nat → Nat → Bool) (f : Nat → Nat) : Prop := ∀ a, a < n → W32 (f a) ∧ ∀ b, (f a).testBit b = (decide (b < n) && F a b)
def WdsP (n : Nat) (P : Nat → Nat → Prop) [∀ a b, Decidable (P a b)] (F : Nat → Nat → Bool) (f : Nat → Nat) : Prop := ∀ a, a < n → W32 (f a) ∧ ∀ b, (f a).testBit b = (decide (P a b) && F a b)
theorem and_word {n : Nat} {F : Nat → Nat → Bool} {f : Nat → Nat} (h : Wds n F f) (o : Ordr n F) {a b c : Nat} (ha : a < n) (hb : b < n) (hc : c < n) : (f c = f a &&& f b) ↔ bestB n F a b c = true := by
  have ta := (h a ha).2
  have tb := (h b hb).2
  have tc := (h c hc).2
  rw [best_iff]
  constructor
  · intro e
    have key : ∀ d, d < n → F c d = (F a d && F b d) := fun d hd => by
      have := congrArg (fun x => Nat.testBit x d) e
      simp only [Nat.testBit_and, ta, tb, tc, decide_eq_true hd, Bool.true_and] at this
      exact this
    have e1 := key c hc
    rw [o.refl c hc] at e1
    have e2 := (Bool.and_eq_true _ _).mp e1.symm
    exact ⟨e2.1, e2.2, fun d hd h1 h2 => by rw [key d hd, h1, h2]; rfl⟩
  · rintro ⟨h1, h2, h3⟩
    refine Nat.eq_of_testBit_eq fun d => ?_
    rw [Nat.testBit_and, ta, tb, tc]
    by_cases hd : d < n
    · rw [decide_eq_true hd, Bool.true_and, Bool.true_and, Bool.true_and, Bool.eq_iff_iff, Bool.and_eq_true]
      exact ⟨fun q => ⟨o.trans _ _ _ ha hc hd h1 q, o.trans _ _ _ hb hc hd h2 q⟩, fun q => h3 d hd q.1 q.2⟩
    · rw [decide_eq_false hd]; rfl
theorem leastF_same {p q : Nat → Bool} : ∀ (k i : Nat), (∀ j, i ≤ j → j < i + k → p j = q j) → leastF p k i = leastF q k i
  | 0, i, h => rfl
  | k + 1, i, h => by rw [leastF, leastF, h i (Nat.le_refl _) (by omega), leastF_same k (i + 1) (fun j h1 hj => h j (by omega) (by omega))]
def idxN (f : Nat → Nat) (n y : Nat) : Int := leastS n fun c => decide (y = f c)
theorem idx_join {n : Nat} {F : Nat → Nat → Bool} {f : Nat → Nat} (h : Wds n F f) (o : Ordr n F) {a b : Nat} (ha : a < n) (hb : b < n) : idxN f n (f a &&& f b) = joinS n F a b := by
  refine leastF_same n 0 fun c _ hc => ?_
  rw [Bool.eq_iff_iff, decide_eq_true_iff, ← and_word h o ha hb (by omega)]
  exact eq_comm
def uv (n : Nat) (f : Nat → Nat) : List Value := (List.range n).map fun i => .int .u32 (f i : Nat)
theorem uv_len (n : Nat) (f : Nat → Nat) : (uv n f).length = n := by simp [uv]
theorem uv_get (n : Nat) (f : Nat → Nat) {i : Nat} (h : i < n) : (uv n f)[i]? = some (.int .u32 (f i : Nat)) := by
  unfold uv
  rw [List.getElem?_map, List.getElem?_range h]
  rfl
theorem uv_set (n : Nat) (f : Nat → Nat) (a y : Nat) : (uv n f).set a (.int .u32 y) = uv n (upd f a y) := by
  unfold uv
  refine List.ext_getElem (by simp) fun i h1 h2 => ?_
  rw [List.getElem_set]
  simp only [List.getElem_map, List.getElem_range, upd]
  by_cases e : a = i
  · subst e; simp
  · rw [if_neg e, if_neg (fun q => e q.symm)]
def latV (v1 v2 : Value) (h : Nat → Int) : List Value := v1 :: v2 :: (List.range 2048).map fun i => .int .i8 (h i)
theorem latV_len (v1 v2 : Value) (h : Nat → Int) : (latV v1 v2 h).length = 2050 := by simp [latV]
theorem latV_get (v1 v2 : Value) (h : Nat → Int) {i : Nat} (hi : i < 2048) : (latV v1 v2 h)[2 + i]? = some (.int .i8 (h i)) := by
  unfold latV
  rw [Nat.add_comm, List.getElem?_cons_succ, List.getElem?_cons_succ, List.getElem?_map, List.getElem?_range hi]
  rfl
def updZ (h : Nat → Int) (i : Nat) (y : Int) (j : Nat) : Int := if j = i then y else h j
theorem latV_set (v1 v2 : Value) (h : Nat → Int) {i : Nat} (hi : i < 2048) (y : Int) : (latV v1 v2 h).set (2 + i) (.int .i8 y) = latV v1 v2 (updZ h i y) := by
  unfold latV
  rw [Nat.add_comm, List.set_cons_succ, List.set_cons_succ]
  congr 2
  refine List.ext_getElem (by simp) fun j h1 h2 => ?_
  rw [List.getElem_set]
  simp only [List.getElem_map, List.getElem_range, updZ]
  by_cases e : i = j
  · subst e; simp
  · rw [if_neg e, if_neg (fun q => e q.symm)]
def latC (v1 v2 : Value) : Array Value := (v1 :: v2 :: List.replicate 2048 (Value.int .i8 0)).toArray
theorem latC_zero (v1 v2 : Value) : (latC v1 v2).toList = latV v1 v2 (fun _ => 0) := by
  unfold latC latV
  simp only [List.map_const']
  rw [List.length_range]
theorem place_inj {a b c d : Nat} (hb : b < 32) (hd : d < 32) (h : a * 32 + b = c * 32 + d) : a = c ∧ b = d := by omega
def setZ (h : Nat → Int) (q a b : Nat) (y : Int) : Nat → Int := updZ (updZ h (q + (a * 32 + b)) y) (q + (b * 32 + a)) y
theorem setZ_at {h : Nat → Int} {q a b c d : Nat} {y : Int} (ha : a < 32) (hb : b < 32) (hc : c < 32) (hd : d < 32) : setZ h q a b y (q + (c * 32 + d)) = if (c = a ∧ d = b) ∨ (c = b ∧ d = a) then y else h (q + (c * 32 + d)) := by
  unfold setZ updZ
  by_cases h1 : c = b ∧ d = a
  · obtain ⟨rfl, rfl⟩ := h1
    rw [if_pos rfl, if_pos (.inr ⟨rfl, rfl⟩)]
  · rw [if_neg (fun e => h1 (place_inj hd ha (by omega)))]
    by_cases h2 : c = a ∧ d = b
    · obtain ⟨rfl, rfl⟩ := h2
      rw [if_pos rfl, if_pos (.inl ⟨rfl, rfl⟩)]
    · rw [if_neg (fun e => h2 (place_inj hd hb (by omega))), if_neg (by rintro (h | h); exact h2 h; exact h1 h)]
theorem setZ_far {h : Nat → Int} {q q' a b : Nat} {y : Int} (ha : a < 32) (hb : b < 32) {i : Nat} (hi : i < 1024) (hq : q + 1024 ≤ q' ∨ q' + 1024 ≤ q) : setZ h q a b y (q' + i) = h (q' + i) := by
  unfold setZ updZ
  rw [if_neg (by omega), if_neg (by omega)]
def FilM (q : Nat) (J : Nat → Nat → Int) (K L : Nat) (h : Nat → Int) : Prop := ∀ a b, a < 32 → b < 32 → ((a < K ∧ b < K) ∨ (a = K ∧ b < L) ∨ (b = K ∧ a < L)) → h (q + (a * 32 + b)) = J a b
theorem FilM.put {q : Nat} {J : Nat → Nat → Int} {K L : Nat} {h : Nat → Int} (hF : FilM q J K L h) (hJ : ∀ a b, J a b = J b a) (hK : K < 32) (hL : L ≤ K) : FilM q J K (L + 1) (setZ h q K L (J K L)) := fun a b ha hb hp => by
  rw [setZ_at hK (by omega) ha hb]
  split
  · next hs =>
    rcases hs with ⟨rfl, rfl⟩ | ⟨rfl, rfl⟩
    · rfl
    · exact hJ _ _
  · next hs => exact hF a b ha hb (by omega)
theorem FilM.far {q q' : Nat} {J : Nat → Nat → Int} {K L : Nat} {h : Nat → Int} (hF : FilM q' J K L h) {a b : Nat} {y : Int} (ha : a < 32) (hb : b < 32) (hq : q + 1024 ≤ q' ∨ q' + 1024 ≤ q) : FilM q' J K L (setZ h q a b y) := fun c d hc hd hp => by
  rw [setZ_far ha hb (by omega) hq]
  exact hF c d hc hd hp
theorem FilM.next {q : Nat} {J : Nat → Nat → Int} {K : Nat} {h : Nat → Int} (hF : FilM q J K (K + 1) h) : FilM q J (K + 1) 0 h := fun a b ha hb hp => hF a b ha hb (by omega)
theorem FilM.nil {q : Nat} {J : Nat → Nat → Int} {h : Nat → Int} : FilM q J 0 0 h := fun a b ha hb hp => by omega
end Go.Proofs.YtncijmodlhijoaaGreat.Lat
