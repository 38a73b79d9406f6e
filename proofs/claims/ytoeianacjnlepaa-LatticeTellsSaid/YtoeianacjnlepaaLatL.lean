/- The plain mathematics of words of 32 bits that hold the levels above each level; a lattice's cells as a list. No walk here. -/
import Derived.Test.YtoeianacjnlepaaLatS
import Derived.Test.YtoeianacjnlepaaRelI
set_option maxRecDepth 100000
set_option linter.unusedVariables false
namespace Go.Proofs.Ytoeianacjnlepaa.Lat
open Go.RowKit Go.Lib Go.Proofs.Ytoeianacjnlepaa.Rel Go.Proofs.Ytoeianacjnlepaa.Nam

/-- A word of 32 bits. -/
def W32 (x : Nat) : Prop := x < 4294967296
theorem w32_pow {x : Nat} : W32 x ↔ x < 2 ^ 32 := by unfold W32; rw [show (2 : Nat) ^ 32 = 4294967296 from by decide]
theorem bit_w32 {a : Nat} (h : a < 32) : W32 (bitN a) := w32_pow.2 (Nat.pow_lt_pow_right (by decide) h)
theorem zero_w32 : W32 0 := by unfold W32; omega
theorem or_w32 {x y : Nat} (hx : W32 x) (hy : W32 y) : W32 (x ||| y) := w32_pow.2 (Nat.or_lt_two_pow (w32_pow.1 hx) (w32_pow.1 hy))
theorem bits_or32 {x y : Nat} (hx : W32 x) (hy : W32 y) : bits .or .u32 (x : Int) (y : Int) = ((x ||| y : Nat) : Int) := u32_or_nat x y hx hy
theorem bits_and32 {x y : Nat} (hx : W32 x) (hy : W32 y) : bits .and .u32 (x : Int) (y : Int) = ((x &&& y : Nat) : Int) := u32_and_nat x y hx hy
theorem wrap_bit32 {a : Nat} (h : a < 32) : IntKind.u32.wrap (2 ^ a) = ((bitN a : Nat) : Int) := by
  have h1 := bit_w32 h
  unfold W32 at h1
  rw [IntKind.wrap_u32', show ((2 : Int) ^ a) = ((bitN a : Nat) : Int) by unfold bitN; simp]
  omega
/-- Words of n levels: bit b of word a tells F a b. -/
def Wds (n : Nat) (F : Nat → Nat → Bool) (f : Nat → Nat) : Prop := ∀ a, a < n → W32 (f a) ∧ ∀ b, (f a).testBit b = (decide (b < n) && F a b)
/-- Words under way: what of F is told of the pairs with property P. -/
def WdsP (n : Nat) (P : Nat → Nat → Prop) [∀ a b, Decidable (P a b)] (F : Nat → Nat → Bool) (f : Nat → Nat) : Prop := ∀ a, a < n → W32 (f a) ∧ ∀ b, (f a).testBit b = (decide (P a b) && F a b)
theorem and_word {n : Nat} {F : Nat → Nat → Bool} {f : Nat → Nat} (h : Wds n F f) (o : Ordr n F) {a b c : Nat} (ha : a < n) (hb : b < n) (hc : c < n) : (f c = f a &&& f b) ↔ bestB n F a b c = true := by
  have ta := (h a ha).2
  have tb := (h b hb).2
  have tc := (h c hc).2
  rw [best_iff]
  constructor
  · intro e
    have key : ∀ d, d < n → F c d = (F a d && F b d) := fun d hd => by
      have := congrArg (fun x => Nat.testBit x d) e
      simp only [Nat.testBit_and, ta, tb, tc, decide_eq_true hd, Bool.true_and] at this
      exact this
    have e1 := key c hc
    rw [o.refl c hc] at e1
    have e2 := (Bool.and_eq_true _ _).mp e1.symm
    exact ⟨e2.1, e2.2, fun d hd h1 h2 => by rw [key d hd, h1, h2]; rfl⟩
  · rintro ⟨h1, h2, h3⟩
    refine Nat.eq_of_testBit_eq fun d => ?_
    rw [Nat.testBit_and, ta, tb, tc]
    by_cases hd : d < n
    · rw [decide_eq_true hd, Bool.true_and, Bool.true_and, Bool.true_and, Bool.eq_iff_iff, Bool.and_eq_true]
      exact ⟨fun q => ⟨o.trans _ _ _ ha hc hd h1 q, o.trans _ _ _ hb hc hd h2 q⟩, fun q => h3 d hd q.1 q.2⟩
    · rw [decide_eq_false hd]; rfl
theorem leastF_same {p q : Nat → Bool} : ∀ (k i : Nat), (∀ j, i ≤ j → j < i + k → p j = q j) → leastF p k i = leastF q k i
  | 0, i, h => rfl
  | k + 1, i, h => by rw [leastF, leastF, h i (Nat.le_refl _) (by omega), leastF_same k (i + 1) (fun j h1 hj => h j (by omega) (by omega))]
/-- The first place of a word. -/
def idxN (f : Nat → Nat) (n y : Nat) : Int := leastS n fun c => decide (y = f c)
theorem idx_join {n : Nat} {F : Nat → Nat → Bool} {f : Nat → Nat} (h : Wds n F f) (o : Ordr n F) {a b : Nat} (ha : a < n) (hb : b < n) : idxN f n (f a &&& f b) = joinS n F a b := by
  refine leastF_same n 0 fun c _ hc => ?_
  rw [Bool.eq_iff_iff, decide_eq_true_iff, ← and_word h o ha hb (by omega)]
  exact eq_comm
theorem and_w32 {x y : Nat} (hx : W32 x) : W32 (x &&& y) := w32_pow.2 (Nat.lt_of_le_of_lt Nat.and_le_left (w32_pow.1 hx))

/-- Cells of words. -/
def uv (n : Nat) (f : Nat → Nat) : List Value := (List.range n).map fun i => .int .u32 (f i : Nat)
theorem uv_len (n : Nat) (f : Nat → Nat) : (uv n f).length = n := by simp [uv]
theorem uv_get (n : Nat) (f : Nat → Nat) {i : Nat} (h : i < n) : (uv n f)[i]? = some (.int .u32 (f i : Nat)) := by
  unfold uv
  rw [List.getElem?_map, List.getElem?_range h]
  rfl
theorem uv_set (n : Nat) (f : Nat → Nat) (a y : Nat) : (uv n f).set a (.int .u32 y) = uv n (upd f a y) := by
  unfold uv
  refine List.ext_getElem (by simp) fun i h1 h2 => ?_
  rw [List.getElem_set]
  simp only [List.getElem_map, List.getElem_range, upd]
  by_cases e : a = i
  · subst e; simp
  · rw [if_neg e, if_neg (fun q => e q.symm)]

/-- A lattice's cells: its levels, its table, and what its two matrices hold. -/
def latV (v1 v2 : Value) (h : Nat → Int) : List Value := v1 :: v2 :: (List.range 2048).map fun i => .int .i8 (h i)
theorem latV_len (v1 v2 : Value) (h : Nat → Int) : (latV v1 v2 h).length = 2050 := by simp [latV]
theorem latV_get (v1 v2 : Value) (h : Nat → Int) {i : Nat} (hi : i < 2048) : (latV v1 v2 h)[2 + i]? = some (.int .i8 (h i)) := by
  unfold latV
  rw [Nat.add_comm, List.getElem?_cons_succ, List.getElem?_cons_succ, List.getElem?_map, List.getElem?_range hi]
  rfl
def updZ (h : Nat → Int) (i : Nat) (y : Int) (j : Nat) : Int := if j = i then y else h j
theorem latV_set (v1 v2 : Value) (h : Nat → Int) {i : Nat} (hi : i < 2048) (y : Int) : (latV v1 v2 h).set (2 + i) (.int .i8 y) = latV v1 v2 (updZ h i y) := by
  unfold latV
  rw [Nat.add_comm, List.set_cons_succ, List.set_cons_succ]
  congr 2
  refine List.ext_getElem (by simp) fun j h1 h2 => ?_
  rw [List.getElem_set]
  simp only [List.getElem_map, List.getElem_range, updZ]
  by_cases e : i = j
  · subst e; simp
  · rw [if_neg e, if_neg (fun q => e q.symm)]
/-- A lattice's cells, before its matrices are filled. -/
def latC (v1 v2 : Value) : Array Value := (v1 :: v2 :: List.replicate 2048 (Value.int .i8 0)).toArray
theorem latC_zero (v1 v2 : Value) : (latC v1 v2).toList = latV v1 v2 (fun _ => 0) := by
  unfold latC latV
  simp only [List.map_const']
  rw [List.length_range]
/-- Two places of a matrix are the same only for the same two levels. -/
theorem place_inj {a b c d : Nat} (hb : b < 32) (hd : d < 32) (h : a * 32 + b = c * 32 + d) : a = c ∧ b = d := by omega
/-- A matrix after 'set'. -/
def setZ (h : Nat → Int) (q a b : Nat) (y : Int) : Nat → Int := updZ (updZ h (q + (a * 32 + b)) y) (q + (b * 32 + a)) y
theorem setZ_at {h : Nat → Int} {q a b c d : Nat} {y : Int} (ha : a < 32) (hb : b < 32) (hc : c < 32) (hd : d < 32) : setZ h q a b y (q + (c * 32 + d)) = if (c = a ∧ d = b) ∨ (c = b ∧ d = a) then y else h (q + (c * 32 + d)) := by
  unfold setZ updZ
  by_cases h1 : c = b ∧ d = a
  · obtain ⟨rfl, rfl⟩ := h1
    rw [if_pos rfl, if_pos (.inr ⟨rfl, rfl⟩)]
  · rw [if_neg (fun e => h1 (place_inj hd ha (by omega)))]
    by_cases h2 : c = a ∧ d = b
    · obtain ⟨rfl, rfl⟩ := h2
      rw [if_pos rfl, if_pos (.inl ⟨rfl, rfl⟩)]
    · rw [if_neg (fun e => h2 (place_inj hd hb (by omega))), if_neg (by rintro (h | h); exact h2 h; exact h1 h)]
theorem setZ_far {h : Nat → Int} {q q' a b : Nat} {y : Int} (ha : a < 32) (hb : b < 32) {i : Nat} (hi : i < 1024) (hq : q + 1024 ≤ q' ∨ q' + 1024 ≤ q) : setZ h q a b y (q' + i) = h (q' + i) := by
  unfold setZ updZ
  rw [if_neg (by omega), if_neg (by omega)]
/-- A matrix under way: it holds J for all pairs of levels of which the greater one, then the lesser one, is less than (K, L). -/
def FilM (q : Nat) (J : Nat → Nat → Int) (K L : Nat) (h : Nat → Int) : Prop := ∀ a b, a < 32 → b < 32 → ((a < K ∧ b < K) ∨ (a = K ∧ b < L) ∨ (b = K ∧ a < L)) → h (q + (a * 32 + b)) = J a b
theorem FilM.put {q : Nat} {J : Nat → Nat → Int} {K L : Nat} {h : Nat → Int} (hF : FilM q J K L h) (hJ : ∀ a b, J a b = J b a) (hK : K < 32) (hL : L ≤ K) : FilM q J K (L + 1) (setZ h q K L (J K L)) := fun a b ha hb hp => by
  rw [setZ_at hK (by omega) ha hb]
  split
  · next hs =>
    rcases hs with ⟨rfl, rfl⟩ | ⟨rfl, rfl⟩
    · rfl
    · exact hJ _ _
  · next hs => exact hF a b ha hb (by omega)
theorem FilM.far {q q' : Nat} {J : Nat → Nat → Int} {K L : Nat} {h : Nat → Int} (hF : FilM q' J K L h) {a b : Nat} {y : Int} (ha : a < 32) (hb : b < 32) (hq : q + 1024 ≤ q' ∨ q' + 1024 ≤ q) : FilM q' J K L (setZ h q a b y) := fun c d hc hd hp => by
  rw [setZ_far ha hb (by omega) hq]
  exact hF c d hc hd hp
theorem FilM.next {q : Nat} {J : Nat → Nat → Int} {K : Nat} {h : Nat → Int} (hF : FilM q J K (K + 1) h) : FilM q J (K + 1) 0 h := fun a b ha hb hp => hF a b ha hb (by omega)
theorem FilM.nil {q : Nat} {J : Nat → Nat → Int} {h : Nat → Int} : FilM q J 0 0 h := fun a b ha hb hp => by omega
end Go.Proofs.Ytoeianacjnlepaa.Lat
