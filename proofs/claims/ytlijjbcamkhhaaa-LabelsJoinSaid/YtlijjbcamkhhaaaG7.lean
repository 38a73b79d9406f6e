import Derived.Test.YtlijjbcamkhhaaaZLatS
import Derived.Test.YtlijjbcamkhhaaaPatS
/- The plain mathematics of layer 12: least upper bounds of lists of levels, maximal levels, their text and what it parses to. No Go here. -/
set_option maxRecDepth 100000
set_option linter.unusedVariables false
namespace Go.Proofs.Ytlijjbcamkhhaaa.Lab
open Go.Proofs.Ytlijjbcamkhhaaa.Utf Go.Proofs.Ytlijjbcamkhhaaa.Rel Go.Proofs.Ytlijjbcamkhhaaa.Nam Go.Proofs.Ytlijjbcamkhhaaa.Lat Go.Proofs.Ytlijjbcamkhhaaa.Pat

section
variable {n : Nat} {F : Nat → Nat → Bool}
/-- Are all of some levels at most one? -/
def overB (F : Nat → Nat → Bool) (l : List Nat) (c : Nat) : Bool := l.all fun a => F a c
theorem over_iff {l : List Nat} {c : Nat} : overB F l c = true ↔ ∀ a ∈ l, F a c = true := by unfold overB; rw [List.all_eq_true]
theorem over_snoc (l : List Nat) (a c : Nat) : overB F (l ++ [a]) c = (overB F l c && F a c) := by unfold overB; simp
/-- The level that all of some are at most, and that is at most each other such one. -/
def lubB (n : Nat) (F : Nat → Nat → Bool) (l : List Nat) (c : Nat) : Bool := overB F l c && (List.range n).all fun d => !overB F l d || F c d
theorem lub_iff {l : List Nat} {c : Nat} : lubB n F l c = true ↔ overB F l c = true ∧ ∀ d, d < n → overB F l d = true → F c d = true := by
  unfold lubB
  rw [Bool.and_eq_true, List.all_eq_true]
  refine and_congr Iff.rfl ⟨fun h d hd h1 => ?_, fun h d hd => ?_⟩
  · have := h d (List.mem_range.2 hd)
    rw [h1] at this
    simpa using this
  · cases e : overB F l d
    · rfl
    · rw [h d (List.mem_range.1 hd) e]; rfl
def lubZ (n : Nat) (F : Nat → Nat → Bool) (l : List Nat) : Int := leastS n (lubB n F l)
def lubN (n : Nat) (F : Nat → Nat → Bool) (l : List Nat) : Nat := (lubZ n F l).toNat
theorem lub_ex (h : Latt n F) : ∀ (l : List Nat), (∀ a ∈ l, a < n) → ∃ c, c < n ∧ lubB n F l c = true
  | [], _ => by
    obtain ⟨t, ht, h1⟩ := h.flip.top
    exact ⟨t, ht, lub_iff.2 ⟨rfl, fun d hd _ => h1 d hd⟩⟩
  | a :: l, hl => by
    obtain ⟨c, hc, hb⟩ := lub_ex h l fun x hx => hl x (List.mem_cons_of_mem _ hx)
    obtain ⟨b1, b2⟩ := lub_iff.1 hb
    have ha := hl a List.mem_cons_self
    obtain ⟨j0, j1, j2, j3⟩ := h.jn_best ha hc
    refine ⟨_, j0, lub_iff.2 ⟨over_iff.2 fun x hx => ?_, fun d hd ho => ?_⟩⟩
    · rcases List.mem_cons.1 hx with e | hx
      · rw [e]; exact j1
      · exact h.ord.trans _ _ _ (hl x (List.mem_cons_of_mem _ hx)) hc j0 (over_iff.1 b1 x hx) j2
    · have := over_iff.1 ho
      exact j3 d hd (this a List.mem_cons_self) (b2 d hd (over_iff.2 fun x hx => this x (List.mem_cons_of_mem _ hx)))
theorem lub_is (h : Latt n F) {l : List Nat} {c : Nat} (hc : c < n) (hb : lubB n F l c = true) : lubZ n F l = c := by
  rcases least_cases n (lubB n F l) with ⟨-, q⟩ | ⟨m, h1, h2, -, h4⟩
  · rw [q c hc] at hb; cases hb
  · obtain ⟨p1, p2⟩ := lub_iff.1 hb
    obtain ⟨q1, q2⟩ := lub_iff.1 h2
    rw [lubZ, h4, h.ord.anti m c h1 hc (q2 c hc p1) (p2 m h1 q1)]
theorem lub_nat (h : Latt n F) {l : List Nat} (hl : ∀ a ∈ l, a < n) : lubZ n F l = lubN n F l ∧ lubN n F l < n ∧ overB F l (lubN n F l) = true ∧ ∀ d, d < n → overB F l d = true → F (lubN n F l) d = true := by
  obtain ⟨c, hc, hb⟩ := lub_ex h l hl
  have e := lub_is h hc hb
  have e2 : lubN n F l = c := by unfold lubN; rw [e]; rfl
  rw [e, e2]
  exact ⟨rfl, hc, lub_iff.1 hb⟩
/-- What a label's level is at most. -/
theorem lub_le (h : Latt n F) {l : List Nat} (hl : ∀ a ∈ l, a < n) {d : Nat} (hd : d < n) : F (lubN n F l) d = overB F l d := by
  obtain ⟨-, h1, h2, h3⟩ := lub_nat h hl
  rw [Bool.eq_iff_iff]
  exact ⟨fun q => over_iff.2 fun a ha => h.ord.trans _ _ _ (hl a ha) h1 hd (over_iff.1 h2 a ha) q, h3 d hd⟩
theorem lub_mono (h : Latt n F) {l m : List Nat} (hl : ∀ a ∈ l, a < n) (hm : ∀ a ∈ m, a < n) (hs : ∀ a ∈ l, ∃ b ∈ m, F a b = true) : F (lubN n F l) (lubN n F m) = true := by
  obtain ⟨-, m1, m2, -⟩ := lub_nat h hm
  rw [lub_le h hl m1, over_iff]
  intro a ha
  obtain ⟨b, hb, hab⟩ := hs a ha
  exact h.ord.trans _ _ _ (hl a ha) (hm b hb) m1 hab (over_iff.1 m2 b hb)

/-- Those numbers that are levels. -/
def lvlB (n : Nat) (x : Int) : Bool := decide (0 ≤ x ∧ x < n)
def lvS (n : Nat) (xs : List Int) : List Nat := (xs.filter (lvlB n)).map Int.toNat
theorem lvS_lt {xs : List Int} : ∀ a ∈ lvS n xs, a < n := fun a ha => by
  obtain ⟨x, hx, rfl⟩ := List.mem_map.1 ha
  have := (List.mem_filter.1 hx).2
  unfold lvlB at this
  rw [decide_eq_true_iff] at this
  omega
theorem lvS_mem {xs : List Int} {a : Nat} : a ∈ lvS n xs ↔ (a : Int) ∈ xs ∧ a < n := by
  unfold lvS
  rw [List.mem_map]
  constructor
  · rintro ⟨x, hx, rfl⟩
    obtain ⟨h1, h2⟩ := List.mem_filter.1 hx
    unfold lvlB at h2
    rw [decide_eq_true_iff] at h2
    rw [Int.toNat_of_nonneg h2.1]
    exact ⟨h1, by omega⟩
  · rintro ⟨h1, h2⟩
    exact ⟨a, List.mem_filter.2 ⟨h1, by unfold lvlB; rw [decide_eq_true_iff]; omega⟩, rfl⟩
theorem lvS_nat {l : List Nat} (hl : ∀ a ∈ l, a < n) : lvS n (l.map fun (a : Nat) => (a : Int)) = l := by
  unfold lvS
  rw [List.filter_eq_self.2 (fun x hx => by
    obtain ⟨a, ha, rfl⟩ := List.mem_map.1 hx
    unfold lvlB; rw [decide_eq_true_iff]
    have := hl a ha; omega), List.map_map]
  exact (List.map_congr_left fun a _ => Int.toNat_natCast a).trans (List.map_id l)
theorem lvS_append (xs ys : List Int) : lvS n (xs ++ ys) = lvS n xs ++ lvS n ys := by unfold lvS; simp
theorem lvS_cast (xs : List Int) : (lvS n xs).map (fun (a : Nat) => (a : Int)) = xs.filter (lvlB n) := by
  unfold lvS
  rw [List.map_map]
  refine (List.map_congr_left fun x hx => ?_).trans (List.map_id _)
  have := (List.mem_filter.1 hx).2
  unfold lvlB at this
  rw [decide_eq_true_iff] at this
  exact Int.toNat_of_nonneg this.1

/-- Is it a maximal level? -/
def higB (F : Nat → Nat → Bool) (l : List Nat) (c : Nat) : Bool := l.contains c && !l.any fun a => a != c && F c a
def higS (n : Nat) (F : Nat → Nat → Bool) (l : List Nat) : List Nat := (List.range n).filter (higB F l)
theorem hig_iff {l : List Nat} {c : Nat} : higB F l c = true ↔ c ∈ l ∧ ∀ a ∈ l, F c a = true → a = c := by
  unfold higB
  rw [Bool.and_eq_true, List.contains_iff_mem, Bool.not_eq_true', List.any_eq_false]
  refine and_congr Iff.rfl ⟨fun h a ha hf => ?_, fun h a ha q => ?_⟩
  · have := h a ha
    rw [hf] at this
    simpa using this
  · rw [Bool.and_eq_true] at q
    have := h a ha q.2
    simp [this] at q
theorem higS_lt {l : List Nat} : ∀ a ∈ higS n F l, a < n := fun a ha => List.mem_range.1 (List.mem_filter.1 ha).1
theorem higS_mem {l : List Nat} {c : Nat} : c ∈ higS n F l ↔ c < n ∧ c ∈ l ∧ ∀ a ∈ l, F c a = true → a = c := by
  unfold higS
  rw [List.mem_filter, List.mem_range, hig_iff]
theorem higS_len (l : List Nat) : (higS n F l).length ≤ n := by
  have := List.length_filter_le (higB F l) (List.range n)
  rwa [List.length_range] at this
/-- Each of some levels is at most a maximal one of them. -/
theorem hig_above (h : Ordr n F) {l : List Nat} (hl : ∀ a ∈ l, a < n) : ∀ (k a : Nat), a ∈ l → (l.filter fun b => b != a && F a b).length ≤ k → ∃ b ∈ higS n F l, F a b = true
  | k, a, ha, hk => by
    by_cases hm : higB F l a = true
    · exact ⟨a, List.mem_filter.2 ⟨List.mem_range.2 (hl a ha), hm⟩, h.refl a (hl a ha)⟩
    · have : ∃ b ∈ l, b ≠ a ∧ F a b = true := by
        apply Classical.byContradiction
        intro hno
        exact hm (hig_iff.2 ⟨ha, fun b hb hab => Classical.byContradiction fun hne => hno ⟨b, hb, hne, hab⟩⟩)
      obtain ⟨b, hb, hne, hab⟩ := this
      have hlt : (l.filter fun c => c != b && F b c).length < (l.filter fun c => c != a && F a c).length := by
        have hsub : (l.filter fun c => c != b && F b c) = ((l.filter fun c => c != a && F a c).filter fun c => c != b && F b c) := by
          rw [List.filter_filter]
          refine List.filter_congr fun c hc => ?_
          cases e : (c != b && F b c)
          · simp [e]
          · rw [Bool.and_eq_true] at e
            have h1 := h.trans a b c (hl a ha) (hl b hb) (hl c hc) hab e.2
            have h2 : c ≠ a := fun q => by
              subst q
              exact hne (h.anti b c (hl b hb) (hl c hc) e.2 hab)
            simp [e, h1, h2]
        rw [hsub]
        refine Nat.lt_of_le_of_ne (List.length_filter_le _ _) fun e => ?_
        have := List.length_filter_eq_length_iff.1 e b (List.mem_filter.2 ⟨hb, by simp [hne, hab]⟩)
        simp at this
      match k with
      | 0 => omega
      | k + 1 =>
        obtain ⟨c, hc, hbc⟩ := hig_above h hl k b hb (by omega)
        exact ⟨c, hc, h.trans a b c (hl a ha) (hl b hb) (higS_lt c hc) hab hbc⟩
theorem hig_over (h : Ordr n F) {l : List Nat} (hl : ∀ a ∈ l, a < n) (a : Nat) (ha : a ∈ l) : ∃ b ∈ higS n F l, F a b = true := hig_above h hl _ a ha (Nat.le_refl _)
/-- The maximal levels denote the same level. -/
theorem hig_lub (h : Latt n F) {l : List Nat} (hl : ∀ a ∈ l, a < n) : F (lubN n F l) (lubN n F (higS n F l)) = true ∧ F (lubN n F (higS n F l)) (lubN n F l) = true :=
  ⟨lub_mono h hl higS_lt (hig_over h.ord hl), lub_mono h higS_lt hl fun a ha => ⟨a, (higS_mem.1 ha).2.1, h.ord.refl a (higS_lt a ha)⟩⟩
/-- The maximal ones of the maximal levels are these. -/
theorem hig_hig (l : List Nat) : higS n F (higS n F l) = higS n F l := by
  unfold higS
  refine List.filter_congr fun c hc => ?_
  have hn := List.mem_range.1 hc
  rw [Bool.eq_iff_iff, hig_iff, hig_iff]
  constructor
  · rintro ⟨h1, h2⟩
    exact hig_iff.1 (List.mem_filter.1 h1).2
  · rintro ⟨h1, h2⟩
    exact ⟨List.mem_filter.2 ⟨hc, hig_iff.2 ⟨h1, h2⟩⟩, fun a ha hf => h2 a (hig_iff.1 (List.mem_filter.1 ha).2).1 hf⟩
theorem hig_nil (h : Ordr n F) {l : List Nat} (hl : ∀ a ∈ l, a < n) (hne : l ≠ []) : higS n F l ≠ [] := by
  obtain ⟨a, ha⟩ := List.exists_mem_of_ne_nil l hne
  obtain ⟨b, hb, -⟩ := hig_over h hl a ha
  exact List.ne_nil_of_mem hb
end
end Go.Proofs.Ytlijjbcamkhhaaa.Lab

/- The plain mathematics of layer 12: the text of levels, and what a text parses to. No Go here. -/
set_option maxRecDepth 100000
set_option linter.unusedVariables false
namespace Go.Proofs.Ytlijjbcamkhhaaa.Lab
open Go.Proofs.Ytlijjbcamkhhaaa.Utf Go.Proofs.Ytlijjbcamkhhaaa.Rel Go.Proofs.Ytlijjbcamkhhaaa.Nam Go.Proofs.Ytlijjbcamkhhaaa.Lat Go.Proofs.Ytlijjbcamkhhaaa.Pat

/-- The name of the level at a place of a list. -/
abbrev nmK (nm : List ByteArray) (l : List Nat) (K : Nat) : ByteArray := nm.getD (l.getD K 0) ByteArray.empty
/-- The text of the first K of some levels. -/
def txtK (nm : List ByteArray) (l : List Nat) : Nat → ByteArray
  | 0 => ⟨#[]⟩
  | K + 1 => (if K = 0 then txtK nm l K else txtK nm l K ++ ⟨#[43]⟩) ++ nmK nm l K
def txtS (nm : List ByteArray) (l : List Nat) : ByteArray := txtK nm l l.length
/-- What stands behind the first K. -/
def tlF (nm : List ByteArray) (l : List Nat) : Nat → Nat → List Int
  | 0, _ => []
  | f + 1, K => (if K = 0 then [] else [43]) ++ (bl (nmK nm l K) ++ tlF nm l f (K + 1))
theorem bl_plus : bl ⟨#[43]⟩ = [43] := by decide
theorem bl_none : bl ⟨#[]⟩ = [] := by decide
theorem bl_txt (nm : List ByteArray) (l : List Nat) (K : Nat) : bl (txtK nm l (K + 1)) = bl (txtK nm l K) ++ ((if K = 0 then [] else [43]) ++ bl (nmK nm l K)) := by
  rw [txtK, bl_append]
  split
  · simp
  · rw [bl_append, bl_plus, List.append_assoc]
theorem txt_split (nm : List ByteArray) (l : List Nat) : ∀ (f K : Nat), bl (txtK nm l (K + f)) = bl (txtK nm l K) ++ tlF nm l f K
  | 0, K => by simp [tlF]
  | f + 1, K => by
    rw [show K + (f + 1) = (K + 1) + f by omega, txt_split nm l f (K + 1), bl_txt, tlF]
    simp only [List.append_assoc]
theorem txt_size {nm : List ByteArray} {l : List Nat} (h : ∀ s ∈ nm, s.size ≤ 32) : ∀ K, (txtK nm l K).size ≤ 33 * K
  | 0 => Nat.le_refl _
  | K + 1 => by
    have ih := txt_size h (l := l) K
    have h1 : (nmK nm l K).size ≤ 32 := by
      unfold nmK
      rw [List.getD]
      cases e : nm[l.getD K 0]? with
      | none => exact Nat.zero_le _
      | some s => exact h s (List.mem_of_getElem? e)
    have h2 : (⟨#[43]⟩ : ByteArray).size = 1 := rfl
    rw [txtK, ByteArray.size_append]
    split
    · omega
    · rw [ByteArray.size_append, h2]; omega
/-- What a text parses to, from an index on: levels, or an error and its place. -/
def parF (nm : List ByteArray) (s : ByteArray) : Nat → Nat → List Nat → Option (List Nat) × Int × Int
  | 0, _, _ => (none, 0, 0)
  | f + 1, i, acc =>
    if sigS s i < 1 ∨ 32 < sigS s i then (none, 9, i) else
    if findS nm (s.extract i (i + sigS s i)) < 0 then (none, 17, i) else
    if i + sigS s i = s.size then (some (acc ++ [(findS nm (s.extract i (i + sigS s i))).toNat]), 0, 0) else
    if byN s (i + sigS s i) ≠ 43 then (none, 4, (i + sigS s i : Nat)) else
    parF nm s f (i + sigS s i + 1) (acc ++ [(findS nm (s.extract i (i + sigS s i))).toNat])
def parS (nm : List ByteArray) (s : ByteArray) : Option (List Nat) × Int × Int := parF nm s (s.size + 1) 0 []
/-- Levels whose names are names, and stand nowhere ahead. -/
def NmOk (nm : List ByteArray) : Prop := ∀ a, a < nm.length → rightS (nm.getD a ByteArray.empty) = true ∧ findS nm (nm.getD a ByteArray.empty) = a
theorem par_at {nm : List ByteArray} {l : List Nat} (hn : NmOk nm) (hl : ∀ a ∈ l, a < nm.length) : ∀ (f K : Nat), K + (f + 1) = l.length → ∀ (i fu : Nat), (bl (txtS nm l)).drop i = bl (nmK nm l K) ++ tlF nm l f (K + 1) → f < fu → parF nm (txtS nm l) fu i (l.take K) = (some l, 0, 0) := by
  intro f
  induction f with
  | zero =>
    intro K hK i fu hd hf
    obtain ⟨fu, rfl⟩ : ∃ k, fu = k + 1 := ⟨fu - 1, by omega⟩
    have hKl : K < l.length := by omega
    have hx : l.getD K 0 = l[K] := by simp [List.getD, List.getElem?_eq_getElem hKl]
    obtain ⟨r1, r2⟩ := hn (l.getD K 0) (by rw [hx]; exact hl _ (List.getElem_mem hKl))
    obtain ⟨z0, z1, -⟩ := rightS_pos r1
    change rightS (nmK nm l K) = true at r1
    change findS nm (nmK nm l K) = _ at r2
    change 0 < (nmK nm l K).size at z0
    change (nmK nm l K).size ≤ 32 at z1
    rw [tlF] at hd
    have hs := sig_of r1 hd (fun x h => by simp at h)
    have hz : i + (nmK nm l K).size = (txtS nm l).size := by
      have h1 := congrArg List.length hd
      rw [List.length_drop, bl_length, List.length_append, bl_length] at h1
      simp only [List.length_nil] at h1
      omega
    have he : (txtS nm l).extract i (i + (nmK nm l K).size) = nmK nm l K := bl_ext (by
      rw [bl_extract, List.drop_take, hd, show i + (nmK nm l K).size - i = (bl (nmK nm l K)).length by rw [bl_length]; omega]
      exact List.take_left' rfl)
    rw [parF, hs, he, if_neg (by omega), r2, if_neg (by omega), if_pos hz, Int.toNat_natCast]
    rw [hx, ← List.take_succ_eq_append_getElem hKl, List.take_of_length_le (by omega)]
  | succ f ih =>
    intro K hK i fu hd hf
    obtain ⟨fu, rfl⟩ : ∃ k, fu = k + 1 := ⟨fu - 1, by omega⟩
    have hKl : K < l.length := by omega
    have hx : l.getD K 0 = l[K] := by simp [List.getD, List.getElem?_eq_getElem hKl]
    obtain ⟨r1, r2⟩ := hn (l.getD K 0) (by rw [hx]; exact hl _ (List.getElem_mem hKl))
    obtain ⟨z0, z1, -⟩ := rightS_pos r1
    change rightS (nmK nm l K) = true at r1
    change findS nm (nmK nm l K) = _ at r2
    change 0 < (nmK nm l K).size at z0
    change (nmK nm l K).size ≤ 32 at z1
    have htl : tlF nm l (f + 1) (K + 1) = 43 :: (bl (nmK nm l (K + 1)) ++ tlF nm l f (K + 1 + 1)) := by rw [tlF, if_neg (by omega)]; rfl
    rw [htl] at hd
    have hs := sig_of r1 hd (fun x h => by
      simp only [List.head?_cons, Option.some.injEq] at h
      subst h; decide)
    have h1 := congrArg List.length hd
    rw [List.length_drop, bl_length, List.length_append, bl_length, List.length_cons] at h1
    have he : (txtS nm l).extract i (i + (nmK nm l K).size) = nmK nm l K := bl_ext (by
      rw [bl_extract, List.drop_take, hd, show i + (nmK nm l K).size - i = (bl (nmK nm l K)).length by rw [bl_length]; omega]
      exact List.take_left' rfl)
    have hd2 := drop_next hd
    rw [bl_length] at hd2
    have hb := byN_head hd2
    have hd3 : (bl (txtS nm l)).drop (i + (nmK nm l K).size + 1) = bl (nmK nm l (K + 1)) ++ tlF nm l f (K + 1 + 1) := by
      rw [← List.drop_drop, hd2]; rfl
    rw [parF, hs, he, if_neg (by omega), r2, if_neg (by omega), if_neg (by omega), if_neg (by omega), Int.toNat_natCast]
    have := ih (K + 1) (by omega) _ fu hd3 (by omega)
    rw [List.take_succ_eq_append_getElem hKl, ← hx] at this
    exact this
/-- Levels are read from their text. -/
theorem par_txt {nm : List ByteArray} {l : List Nat} (hn : NmOk nm) (hl : ∀ a ∈ l, a < nm.length) (hne : l ≠ []) : parS nm (txtS nm l) = (some l, 0, 0) := by
  obtain ⟨m, hm⟩ : ∃ m, l.length = m + 1 := ⟨l.length - 1, by have := List.length_pos_iff.2 hne; omega⟩
  have h := txt_split nm l (m + 1) 0
  rw [tlF, if_pos rfl, Nat.zero_add, ← hm, show txtK nm l l.length = txtS nm l from rfl, txtK, bl_none] at h
  have hz : m < (txtS nm l).size + 1 := by
    have key : ∀ K, K ≤ l.length → K ≤ (txtK nm l K).size := by
      intro K
      induction K with
      | zero => intro _; exact Nat.zero_le _
      | succ K ih =>
        intro hK
        have hx : l.getD K 0 = l[K] := by simp [List.getD, List.getElem?_eq_getElem (show K < l.length by omega)]
        obtain ⟨r1, -⟩ := hn (l.getD K 0) (by rw [hx]; exact hl _ (List.getElem_mem _))
        obtain ⟨z0, -, -⟩ := rightS_pos r1
        have := ih (by omega)
        rw [txtK, ByteArray.size_append]
        have z0' : 0 < (nmK nm l K).size := z0
        split
        · omega
        · rw [ByteArray.size_append]; omega
    have := key l.length (Nat.le_refl _)
    unfold txtS
    omega
  exact par_at hn hl m 0 (by omega) 0 _ (by rw [List.drop_zero]; simpa using h) hz
theorem par_lt {nm : List ByteArray} {s : ByteArray} : ∀ (f i : Nat) (acc l : List Nat) (e z : Int), (∀ a ∈ acc, a < nm.length) → parF nm s f i acc = (some l, e, z) → (∀ a ∈ l, a < nm.length) ∧ e = 0 ∧ z = 0
  | 0, i, acc, l, e, z, _, h => by simp [parF] at h
  | f + 1, i, acc, l, e, z, ha, h => by
    rw [parF] at h
    split at h
    · simp at h
    · split at h
      · simp at h
      · next q =>
        have hk : ∀ a ∈ acc ++ [(findS nm (s.extract i (i + sigS s i))).toNat], a < nm.length := fun a hx => by
          rcases List.mem_append.1 hx with hx | hx
          · exact ha a hx
          · rw [List.mem_singleton] at hx
            have := find_lt nm (s.extract i (i + sigS s i))
            omega
        split at h
        · simp only [Prod.mk.injEq, Option.some.injEq] at h
          obtain ⟨rfl, rfl, rfl⟩ := h
          exact ⟨hk, rfl, rfl⟩
        · split at h
          · simp at h
          · exact par_lt f _ _ l e z hk h
end Go.Proofs.Ytlijjbcamkhhaaa.Lab
