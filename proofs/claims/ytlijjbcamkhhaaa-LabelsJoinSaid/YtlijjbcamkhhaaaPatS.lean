/- The plain mathematics of layer 9: steps, their text, and the path that stands in a text. No Go here. -/
import Derived.Test.YtlijjbcamkhhaaaNamS
import Derived.Test.YtlijjbcamkhhaaaDigT
set_option maxRecDepth 100000
set_option linter.unusedVariables false
namespace Go.Proofs.Ytlijjbcamkhhaaa.Pat
open Go.Lib Go.Proofs.Ytlijjbcamkhhaaa.Utf Go.Proofs.Ytlijjbcamkhhaaa.Nam Go.Proofs.Ytlijjbcamkhhaaa.Dig

/-- A step: its kind, its number, its name. -/
abbrev St := Int × Int × ByteArray
def Named (x : St) : Prop := x.1 = 1 ∨ x.1 = 5
instance (x : St) : Decidable (Named x) := by unfold Named; infer_instance
def RightSt (x : St) : Prop := 1 ≤ x.1 ∧ x.1 ≤ 5 ∧ (Named x ↔ x.2.2.size ≠ 0) ∧ (Named x → rightS x.2.2 = true) ∧ (x.1 ≠ 2 → x.2.1 = 0) ∧ 0 ≤ x.2.1
instance (x : St) : Decidable (RightSt x) := by unfold RightSt; infer_instance
def RightP (l : List St) : Prop := l.length ≤ 64 ∧ ∀ x ∈ l, RightSt x
instance (l : List St) : Decidable (RightP l) := by unfold RightP; infer_instance
theorem size0 {a : ByteArray} (h : a.size = 0) : a = ⟨#[]⟩ := by
  have : a.data.size = 0 := h
  exact ByteArray.ext (Array.eq_empty_of_size_eq_zero this)
/-- What steps there are. -/
theorem right_cases {x : St} (h : RightSt x) : (∃ nm, x = (1, 0, nm) ∧ rightS nm = true) ∨ (∃ n, x = (2, n, ⟨#[]⟩) ∧ 0 ≤ n) ∨ x = (3, 0, ⟨#[]⟩) ∨ x = (4, 0, ⟨#[]⟩) ∨ (∃ nm, x = (5, 0, nm) ∧ rightS nm = true) := by
  obtain ⟨k, n, nm⟩ := x
  obtain ⟨h1, h2, h3, h4, h5, h6⟩ := h
  unfold Named at h3 h4
  simp only at h1 h2 h3 h4 h5 h6
  have hk : k = 1 ∨ k = 2 ∨ k = 3 ∨ k = 4 ∨ k = 5 := by omega
  rcases hk with rfl | rfl | rfl | rfl | rfl
  · exact .inl ⟨nm, by rw [h5 (by decide)], h4 (.inl rfl)⟩
  · exact .inr (.inl ⟨n, by rw [size0 (a := nm) (by omega)], h6⟩)
  · exact .inr (.inr (.inl (by rw [h5 (by decide), size0 (a := nm) (by omega)])))
  · exact .inr (.inr (.inr (.inl (by rw [h5 (by decide), size0 (a := nm) (by omega)]))))
  · exact .inr (.inr (.inr (.inr ⟨nm, by rw [h5 (by decide)], h4 (.inr rfl)⟩)))
theorem rightS_pos {nm : ByteArray} (h : rightS nm = true) : 0 < nm.size ∧ nm.size ≤ 32 ∧ sigS nm 0 = nm.size := by unfold rightS at h; simpa using h
theorem right_named {k : Int} {nm : ByteArray} (hk : k = 1 ∨ k = 5) (h : rightS nm = true) : RightSt (k, 0, nm) := by
  have := rightS_pos h
  refine ⟨?_, ?_, ⟨fun _ => ?_, fun _ => hk⟩, fun _ => h, fun _ => rfl, Int.le_refl _⟩
  · simp only; omega
  · simp only; omega
  · simp only; omega
theorem right_item {n : Int} (h : 0 ≤ n) : RightSt (2, n, ⟨#[]⟩) := ⟨by show (1 : Int) ≤ 2; decide, by show (2 : Int) ≤ 5; decide, ⟨fun h => by unfold Named at h; simp at h, fun h => absurd rfl h⟩, fun h => by unfold Named at h; simp at h, fun h => absurd rfl h, h⟩
theorem right_all : RightSt (3, 0, ⟨#[]⟩) := ⟨by decide, by decide, ⟨fun h => by unfold Named at h; simp at h, fun h => absurd rfl h⟩, fun h => by unfold Named at h; simp at h, fun _ => rfl, Int.le_refl _⟩
theorem right_some : RightSt (4, 0, ⟨#[]⟩) := ⟨by decide, by decide, ⟨fun h => by unfold Named at h; simp at h, fun h => absurd rfl h⟩, fun h => by unfold Named at h; simp at h, fun _ => rfl, Int.le_refl _⟩

/-- The text of a step. -/
def txt (x : St) : List Int := if x.1 = 1 then 46 :: bl x.2.2 else if x.1 = 2 then 91 :: (putL x.2.1 ++ [93]) else if x.1 = 3 then [91, 93] else if x.1 = 4 then [63] else if x.1 = 5 then 33 :: bl x.2.2 else []
def fmtL (l : List St) : List Int := l.flatMap txt
theorem fmtL_cons (x : St) (l : List St) : fmtL (x :: l) = txt x ++ fmtL l := rfl
theorem fmtL_append (l m : List St) : fmtL (l ++ m) = fmtL l ++ fmtL m := by unfold fmtL; rw [List.flatMap_append]
def fmtS (l : List St) : ByteArray := if RightP l then strOfNums (fmtL l) else ⟨#[]⟩
theorem txt_range {x : St} : ∀ y ∈ txt x, 0 ≤ y ∧ y < 256 := by
  intro y hy
  unfold txt at hy
  split at hy
  · rcases List.mem_cons.1 hy with rfl | hy
    · decide
    · exact bl_mem hy
  · split at hy
    · rcases List.mem_cons.1 hy with rfl | hy
      · decide
      · rcases List.mem_append.1 hy with hy | hy
        · exact putL_range _ y hy
        · rw [List.mem_singleton] at hy; omega
    · split at hy
      · simp at hy; omega
      · split at hy
        · simp at hy; omega
        · split at hy
          · rcases List.mem_cons.1 hy with rfl | hy
            · decide
            · exact bl_mem hy
          · simp at hy
theorem fmtL_range (l : List St) : ∀ y ∈ fmtL l, 0 ≤ y ∧ y < 256 := fun y hy => by
  obtain ⟨x, -, hx⟩ := List.mem_flatMap.1 hy
  exact txt_range y hx
theorem bl_fmt {l : List St} (h : RightP l) : bl (fmtS l) = fmtL l := by unfold fmtS; rw [if_pos h, bl_strOfNums _ (fmtL_range l)]
theorem txt_head {x : St} (h : RightSt x) : ∃ c t, txt x = c :: t ∧ (c = 46 ∨ c = 91 ∨ c = 63 ∨ c = 33) := by
  rcases right_cases h with ⟨nm, rfl, -⟩ | ⟨n, rfl, -⟩ | rfl | rfl | ⟨nm, rfl, -⟩
  · exact ⟨46, bl nm, rfl, .inl rfl⟩
  · exact ⟨91, _, rfl, .inr (.inl rfl)⟩
  · exact ⟨91, [93], rfl, .inr (.inl rfl)⟩
  · exact ⟨63, [], rfl, .inr (.inr (.inl rfl))⟩
  · exact ⟨33, bl nm, rfl, .inr (.inr (.inr rfl))⟩

/-- A name stands at an index, and nothing that would lengthen it behind. -/
theorem sig_of {s nm : ByteArray} {j : Nat} {r : List Int} (hn : rightS nm = true) (h : (bl s).drop j = bl nm ++ r) (hr : ∀ x, r.head? = some x → ¬ isSign x.toNat) : sigS s j = nm.size := by
  obtain ⟨h0, h1, h2⟩ := rightS_pos hn
  have hz := size_drop h
  rw [bl_length] at hz
  have hsm : isSmall (byN nm 0) ∧ runF nm 0 = nm.size := by
    unfold sigS at h2
    by_cases hc : 0 < nm.size ∧ isSmall (byN nm 0)
    · rw [if_pos hc] at h2; exact ⟨hc.2, h2⟩
    · rw [if_neg hc] at h2; omega
  have e0 : byN s j = byN nm 0 := by
    have := byN_drop (j := 0) h (bl_get nm 0 h0)
    rw [Nat.add_zero] at this
    omega
  unfold sigS
  rw [if_pos ⟨by omega, by rw [e0]; exact hsm.1⟩]
  have hall : ∀ x ∈ bl nm, decide (isSign x.toNat) = true := by
    have h3 := hsm.2
    unfold runF at h3
    rw [List.drop_zero] at h3
    have h4 := List.takeWhile_prefix (l := bl nm) fun x => decide (isSign x.toNat)
    have h5 := h4.eq_of_length (by rw [h3, bl_length])
    intro x hx
    rw [← h5] at hx
    have := List.all_takeWhile (p := fun x : Int => decide (isSign x.toNat)) (l := bl nm)
    rw [List.all_eq_true] at this
    exact this x hx
  unfold runF
  rw [h, List.takeWhile_append_of_pos hall]
  cases r with
  | nil => simp [bl_length]
  | cons y r => rw [List.takeWhile_cons_of_neg (by simpa using hr y rfl), List.append_nil, bl_length]
theorem sig_run {s : ByteArray} {j : Nat} (h : j < s.size) (h2 : isSmall (byN s j)) : sigS s j = runF s j := by unfold sigS; rw [if_pos ⟨h, h2⟩]
theorem sig_zero {s : ByteArray} {j : Nat} (h : s.size ≤ j) : sigS s j = 0 := by unfold sigS; rw [if_neg (by omega)]
theorem sig_le {s : ByteArray} {j : Nat} (h : j ≤ s.size) : j + sigS s j ≤ s.size := by
  rcases Nat.eq_or_lt_of_le h with e | h
  · rw [sig_zero (by omega)]; omega
  · exact sig_len h
/-- The characters of a name, cut out, are a name, if they are not too many. -/
theorem right_cut {s : ByteArray} {j : Nat} (h0 : 0 < sigS s j) (h1 : sigS s j ≤ 32) : rightS (s.extract j (j + sigS s j)) = true ∧ (s.extract j (j + sigS s j)).size = sigS s j := by
  have hj : j < s.size := Nat.lt_of_not_le fun h => by rw [sig_zero h] at h0; omega
  have hl := sig_len hj
  have hz : (s.extract j (j + sigS s j)).size = sigS s j := by rw [ByteArray.size_extract]; omega
  have hc : isSmall (byN s j) ∧ sigS s j = runF s j := by
    by_cases hc : j < s.size ∧ isSmall (byN s j)
    · exact ⟨hc.2, by unfold sigS; rw [if_pos hc]⟩
    · unfold sigS at h0; rw [if_neg hc] at h0; omega
  refine ⟨?_, hz⟩
  unfold rightS
  rw [decide_eq_true_iff, hz]
  refine ⟨h0, h1, ?_⟩
  have e0 : byN (s.extract j (j + sigS s j)) 0 = byN s j := by rw [byN_ext _ _ _ _ (by omega) hl, Nat.add_zero]
  have hb : bl (s.extract j (j + sigS s j)) = ((bl s).drop j).takeWhile fun x => decide (isSign x.toNat) := by
    have h4 := List.takeWhile_prefix (l := (bl s).drop j) fun x => decide (isSign x.toNat)
    obtain ⟨r, h5⟩ := h4
    rw [bl_extract, List.drop_take, show j + sigS s j - j = sigS s j by omega]
    conv => lhs; rw [← h5]
    rw [hc.2]
    exact List.take_left' rfl
  rw [sig_run (by omega) (by rw [e0]; exact hc.1)]
  have hr : runF (s.extract j (j + sigS s j)) 0 = (bl (s.extract j (j + sigS s j))).length := by
    unfold runF
    rw [List.drop_zero, hb]
    congr 1
    have hall := List.all_takeWhile (p := fun x : Int => decide (isSign x.toNat)) (l := (bl s).drop j)
    rw [List.all_eq_true] at hall
    have := List.takeWhile_append_of_pos (l₂ := []) hall
    simpa using this
  rw [hr, bl_length, hz]

/-- The step at an index, the index behind it, the error, its place. -/
def stpS (s : ByteArray) (i : Nat) : St × Int × Int × Int :=
  if byN s i = 46 ∨ byN s i = 33 then
    (if sigS s (i + 1) < 1 ∨ 32 < sigS s (i + 1) then ((0, 0, ⟨#[]⟩), 0, 9, ((i + 1 : Nat) : Int))
      else ((if byN s i = 33 then 5 else 1, 0, s.extract (i + 1) (i + 1 + sigS s (i + 1))), ((i + 1 + sigS s (i + 1) : Nat) : Int), 0, 0))
  else if byN s i = 63 then ((4, 0, ⟨#[]⟩), ((i + 1 : Nat) : Int), 0, 0)
  else if byN s i ≠ 91 then ((0, 0, ⟨#[]⟩), 0, 4, (i : Int))
  else if i + 1 < s.size ∧ byN s (i + 1) = 93 then ((3, 0, ⟨#[]⟩), ((i + 2 : Nat) : Int), 0, 0)
  else if (tkN s (i + 1)).2.2.1 ≠ 0 then ((0, 0, ⟨#[]⟩), 0, (tkN s (i + 1)).2.2.1, (tkN s (i + 1)).2.2.2)
  else if (tkN s (i + 1)).1 < 0 then ((0, 0, ⟨#[]⟩), 0, 20, ((i + 1 : Nat) : Int))
  else if (s.size : Int) ≤ (tkN s (i + 1)).2.1 ∨ byN s (tkN s (i + 1)).2.1.toNat ≠ 93 then ((0, 0, ⟨#[]⟩), 0, 4, (tkN s (i + 1)).2.1)
  else ((2, (tkN s (i + 1)).1, ⟨#[]⟩), (tkN s (i + 1)).2.1 + 1, 0, 0)
/-- What may stand behind a step of a path. -/
def Behind (r : List Int) : Prop := ∀ x, r.head? = some x → x = 46 ∨ x = 91 ∨ x = 63 ∨ x = 33
theorem Behind.sign {r : List Int} (h : Behind r) : ∀ x, r.head? = some x → ¬ isSign x.toNat := fun x hx hs => by
  rcases h x hx with rfl | rfl | rfl | rfl <;> revert hs <;> decide
theorem behind_fmt {l : List St} (h : ∀ x ∈ l, RightSt x) : Behind (fmtL l) := fun x hx => by
  cases l with
  | nil => simp [fmtL] at hx
  | cons y l =>
    obtain ⟨c, t, e, hc⟩ := txt_head (h y List.mem_cons_self)
    rw [fmtL_cons, e] at hx
    simp at hx
    subst hx; exact hc
/-- A step is read at an index at which its text stands. -/
theorem stp_txt {s : ByteArray} {i : Nat} {x : St} {r : List Int} (hx : RightSt x) (hb : x.2.1 ≤ 9223372036854775807) (h : (bl s).drop i = txt x ++ r) (hr : Behind r) : stpS s i = (x, ((i + (txt x).length : Nat) : Int), 0, 0) := by
  have hz := size_drop h
  have nameStep : ∀ (k c : Int) (nm : ByteArray), rightS nm = true → (bl s).drop i = (c :: bl nm) ++ r → sigS s (i + 1) = nm.size ∧ s.extract (i + 1) (i + 1 + nm.size) = nm ∧ (byN s i : Int) = c := by
    intro k c nm hn h
    have hd : (bl s).drop (i + 1) = bl nm ++ r := drop_next (p := [c]) h
    refine ⟨sig_of hn hd hr.sign, ?_, byN_head h⟩
    apply bl_ext
    rw [bl_extract, List.drop_take, hd, show i + 1 + nm.size - (i + 1) = (bl nm).length by rw [bl_length]; omega, List.take_left]
  rcases right_cases hx with ⟨nm, rfl, hn⟩ | ⟨n, rfl, hn⟩ | rfl | rfl | ⟨nm, rfl, hn⟩
  · obtain ⟨e1, e2, e3⟩ := nameStep 1 46 nm hn h
    have e4 : byN s i = 46 := by omega
    have := rightS_pos hn
    unfold stpS
    rw [if_pos (.inl e4), e1, if_neg (by omega), e2, e4, if_neg (by decide)]
    simp [txt, bl_length]
    omega
  · have h' : (bl s).drop i = 91 :: (putL n ++ ([93] ++ r)) := by rw [h]; simp [txt]
    have e3 : byN s i = 91 := by have := byN_head h'; omega
    have hd : (bl s).drop (i + 1) = putL n ++ ([93] ++ r) := drop_next (p := [91]) h'
    have ht := take_at n (by omega) hb hd (fun x hx => by simp at hx; omega)
    have hp := putL_len n
    have hd2 : (bl s).drop (i + 1 + (putL n).length) = 93 :: r := drop_next hd
    have e5 := byN_head hd2
    have hz2 : i + 1 + (putL n).length < s.size := by
      have := congrArg List.length hd2
      rw [List.length_drop, bl_length, List.length_cons] at this
      omega
    have e6 : ¬ (i + 1 < s.size ∧ byN s (i + 1) = 93) := by
      rintro ⟨-, h6⟩
      obtain ⟨c, t, e7⟩ : ∃ c t, putL n = c :: t := by cases e : putL n with | nil => rw [e] at hp; simp at hp | cons c t => exact ⟨c, t, rfl⟩
      have h8 := byN_head (by rw [hd, e7]; rfl : (bl s).drop (i + 1) = c :: (t ++ ([93] ++ r)))
      unfold putL at e7
      rw [if_neg (by omega)] at e7
      have := dec_dg n.toNat c (by rw [e7]; exact List.mem_cons_self)
      omega
    unfold stpS
    rw [if_neg (by omega), if_neg (by omega), if_neg (by omega), if_neg e6, ht]
    simp only
    rw [if_neg (by simp), if_neg (by omega), if_neg (by
      intro q
      rcases q with q | q
      · omega
      · rw [Int.toNat_natCast] at q; omega)]
    simp [txt]
    omega
  · have e3 : byN s i = 91 := by have := byN_head (c := 91) (l := [93] ++ r) h; omega
    have hd : (bl s).drop (i + 1) = 93 :: r := drop_next (p := [91]) (l := 93 :: r) h
    have e4 : byN s (i + 1) = 93 := by have := byN_head hd; omega
    have hz2 : i + 1 < s.size := by
      have := congrArg List.length hd
      rw [List.length_drop, bl_length, List.length_cons] at this
      omega
    unfold stpS
    rw [if_neg (by omega), if_neg (by omega), if_neg (by omega), if_pos ⟨hz2, e4⟩]
    rfl
  · have e3 : byN s i = 63 := by have := byN_head (c := 63) (l := r) h; omega
    unfold stpS
    rw [if_neg (by omega), if_pos e3]
    rfl
  · obtain ⟨e1, e2, e3⟩ := nameStep 5 33 nm hn h
    have e4 : byN s i = 33 := by omega
    have := rightS_pos hn
    unfold stpS
    rw [if_pos (.inr e4), e1, if_neg (by omega), e2, e4, if_pos rfl]
    simp [txt, bl_length]
    omega
/-- Where a step is read, its text stands. -/
theorem stp_ok {s : ByteArray} {i : Nat} (hi : i < s.size) (h : (stpS s i).2.2.1 = 0) : RightSt (stpS s i).1 ∧ (stpS s i).1.2.1 ≤ 9223372036854775807 ∧ (stpS s i).2.1 = ((i + (txt (stpS s i).1).length : Nat) : Int) ∧ i + (txt (stpS s i).1).length ≤ s.size ∧ 0 < (txt (stpS s i).1).length ∧
    ((bl s).drop i = txt (stpS s i).1 ++ (bl s).drop (i + (txt (stpS s i).1).length)) ∧ (stpS s i).2.2.2 = 0 := by
  have fin : ∀ {x : St} {r : List Int}, RightSt x → (bl s).drop i = txt x ++ r → i + (txt x).length ≤ s.size ∧ 0 < (txt x).length ∧ (bl s).drop i = txt x ++ (bl s).drop (i + (txt x).length) := by
    intro x r hx e
    have := size_drop e
    obtain ⟨c, t, e2, -⟩ := txt_head hx
    refine ⟨by omega, by rw [e2]; simp, ?_⟩
    rw [← List.drop_drop, e, List.drop_left]
  unfold stpS at h ⊢
  by_cases c1 : byN s i = 46 ∨ byN s i = 33
  · rw [if_pos c1] at h ⊢
    by_cases c2 : sigS s (i + 1) < 1 ∨ 32 < sigS s (i + 1)
    · rw [if_pos c2] at h; simp at h
    rw [if_neg c2] at ⊢
    obtain ⟨h1, h2⟩ := right_cut (s := s) (j := i + 1) (by omega) (by omega)
    have hl := sig_le (s := s) (j := i + 1) (by omega)
    simp only
    have hb : (bl s).drop i = (byN s i : Int) :: (bl (s.extract (i + 1) (i + 1 + sigS s (i + 1))) ++ (bl s).drop (i + 1 + sigS s (i + 1))) := by
      rw [bl_drop hi]
      congr 1
      rw [bl_extract, List.drop_take, show i + 1 + sigS s (i + 1) - (i + 1) = sigS s (i + 1) by omega]
      exact (List.take_append_drop (sigS s (i + 1)) _).symm.trans (by rw [List.drop_drop])
    by_cases c3 : byN s i = 33
    · rw [if_pos c3]
      have hx := right_named (k := 5) (.inr rfl) h1
      have ht : txt (5, 0, s.extract (i + 1) (i + 1 + sigS s (i + 1))) = 33 :: bl (s.extract (i + 1) (i + 1 + sigS s (i + 1))) := rfl
      have e : (bl s).drop i = txt (5, 0, s.extract (i + 1) (i + 1 + sigS s (i + 1))) ++ (bl s).drop (i + 1 + sigS s (i + 1)) := by rw [hb, ht, c3]; rfl
      refine ⟨hx, by decide, ?_, (fin hx e).1, (fin hx e).2.1, (fin hx e).2.2, by first | rfl | trivial⟩
      rw [ht, List.length_cons, bl_length, h2]; omega
    · rw [if_neg c3]
      have c4 : byN s i = 46 := c1.resolve_right c3
      have hx := right_named (k := 1) (.inl rfl) h1
      have ht : txt (1, 0, s.extract (i + 1) (i + 1 + sigS s (i + 1))) = 46 :: bl (s.extract (i + 1) (i + 1 + sigS s (i + 1))) := rfl
      have e : (bl s).drop i = txt (1, 0, s.extract (i + 1) (i + 1 + sigS s (i + 1))) ++ (bl s).drop (i + 1 + sigS s (i + 1)) := by rw [hb, ht, c4]; rfl
      refine ⟨hx, by decide, ?_, (fin hx e).1, (fin hx e).2.1, (fin hx e).2.2, by first | rfl | trivial⟩
      rw [ht, List.length_cons, bl_length, h2]; omega
  · rw [if_neg c1] at h ⊢
    by_cases c2 : byN s i = 63
    · rw [if_pos c2]
      have e : (bl s).drop i = txt (4, 0, ⟨#[]⟩) ++ (bl s).drop (i + 1) := by rw [bl_drop hi, c2]; rfl
      exact ⟨right_some, by show (0 : Int) ≤ 9223372036854775807; decide, rfl, (fin right_some e).1, (fin right_some e).2.1, (fin right_some e).2.2, rfl⟩
    · rw [if_neg c2] at h ⊢
      by_cases c3 : byN s i ≠ 91
      · rw [if_pos c3] at h; simp at h
      rw [if_neg c3] at h ⊢
      have c3' : byN s i = 91 := Decidable.not_not.1 c3
      by_cases c4 : i + 1 < s.size ∧ byN s (i + 1) = 93
      · rw [if_pos c4]
        have e : (bl s).drop i = txt (3, 0, ⟨#[]⟩) ++ (bl s).drop (i + 1 + 1) := by rw [bl_drop hi, bl_drop c4.1, c3', c4.2]; rfl
        exact ⟨right_all, by show (0 : Int) ≤ 9223372036854775807; decide, rfl, (fin right_all e).1, (fin right_all e).2.1, (fin right_all e).2.2, rfl⟩
      rw [if_neg c4] at h ⊢
      by_cases c5 : (tkN s (i + 1)).2.2.1 ≠ 0
      · rw [if_pos c5] at h; exact absurd h c5
      rw [if_neg c5] at h ⊢
      obtain ⟨r, e1, e2, e3, e4, e5⟩ := take_text (s := s) (i := i + 1) (by omega) (Decidable.not_not.1 c5)
      by_cases c6 : (tkN s (i + 1)).1 < 0
      · rw [if_pos c6] at h; simp at h
      rw [if_neg c6] at h ⊢
      by_cases c7 : (s.size : Int) ≤ (tkN s (i + 1)).2.1 ∨ byN s (tkN s (i + 1)).2.1.toNat ≠ 93
      · rw [if_pos c7] at h; simp at h
      rw [if_neg c7]
      have c8 : ¬ (s.size : Int) ≤ (tkN s (i + 1)).2.1 := fun q => c7 (.inl q)
      have c9 : byN s (tkN s (i + 1)).2.1.toNat = 93 := Decidable.not_not.1 fun q => c7 (.inr q)
      simp only
      rw [e2, Int.toNat_natCast] at c9
      have hx := right_item (n := (tkN s (i + 1)).1) (by omega)
      have hr : r = (bl s).drop (i + 1 + (putL (tkN s (i + 1)).1).length) := (drop_next e1).symm
      have e : (bl s).drop i = txt (2, (tkN s (i + 1)).1, ⟨#[]⟩) ++ (bl s).drop (i + 1 + (putL (tkN s (i + 1)).1).length + 1) := by
        rw [bl_drop hi, c3', e1, hr, bl_drop (by omega), c9]
        simp [txt]
      refine ⟨hx, e4, ?_, (fin hx e).1, (fin hx e).2.1, (fin hx e).2.2, trivial⟩
      rw [e2]
      simp [txt]
      omega

/-- The path from an index on. -/
def parF (s : ByteArray) : Nat → Nat → List St → List St × Int × Int
  | 0, i, acc => (acc, 0, 0)
  | f + 1, i, acc => if i < s.size then (if 63 < acc.length then ([], 8, (i : Int)) else if (stpS s i).2.2.1 ≠ 0 then ([], (stpS s i).2.2.1, (stpS s i).2.2.2) else parF s f (stpS s i).2.1.toNat (acc ++ [(stpS s i).1])) else (acc, 0, 0)
def parS (s : ByteArray) : List St × Int × Int := parF s (s.size + 1) 0 []
theorem parF_end {s : ByteArray} {f i : Nat} {acc : List St} (h : s.size ≤ i) : parF s f i acc = (acc, 0, 0) := by
  cases f with
  | zero => rfl
  | succ f => rw [parF, if_neg (by omega)]
theorem parF_many {s : ByteArray} {f i : Nat} {acc : List St} (h : i < s.size) (hf : s.size < f + i) (ha : 63 < acc.length) : parF s f i acc = ([], 8, (i : Int)) := by
  cases f with
  | zero => omega
  | succ f => rw [parF, if_pos h, if_pos ha]
theorem parF_bad {s : ByteArray} {f i : Nat} {acc : List St} (h : i < s.size) (hf : s.size < f + i) (ha : ¬ 63 < acc.length) (hb : (stpS s i).2.2.1 ≠ 0) : parF s f i acc = ([], (stpS s i).2.2.1, (stpS s i).2.2.2) := by
  cases f with
  | zero => omega
  | succ f => rw [parF, if_pos h, if_neg ha, if_pos hb]
theorem parF_fuel {s : ByteArray} : ∀ {f g i : Nat} {acc : List St}, s.size < f + i → s.size < g + i → parF s f i acc = parF s g i acc
  | 0, g, i, acc, hf, hg => by rw [parF_end (by omega), parF_end (by omega)]
  | f + 1, 0, i, acc, hf, hg => by rw [parF_end (by omega), parF_end (by omega)]
  | f + 1, g + 1, i, acc, hf, hg => by
    rw [parF, parF]
    by_cases h : i < s.size
    · rw [if_pos h, if_pos h]
      by_cases h1 : 63 < acc.length
      · rw [if_pos h1, if_pos h1]
      · rw [if_neg h1, if_neg h1]
        by_cases h2 : (stpS s i).2.2.1 ≠ 0
        · rw [if_pos h2, if_pos h2]
        · rw [if_neg h2, if_neg h2]
          obtain ⟨-, -, e, -, h3, -⟩ := stp_ok h (Decidable.not_not.1 h2)
          exact parF_fuel (by rw [e]; omega) (by rw [e]; omega)
    · rw [if_neg h, if_neg h]
theorem parF_step {s : ByteArray} {f i : Nat} {acc : List St} (h : i < s.size) (hf : s.size < f + i) (ha : ¬ 63 < acc.length) (hb : (stpS s i).2.2.1 = 0) : parF s f i acc = parF s f (stpS s i).2.1.toNat (acc ++ [(stpS s i).1]) := by
  obtain ⟨-, -, e, -, h3, -⟩ := stp_ok h hb
  cases f with
  | zero => omega
  | succ f =>
    rw [parF, if_pos h, if_neg ha, if_neg (by omega)]
    exact parF_fuel (by rw [e]; omega) (by rw [e]; omega)
theorem par_text {s : ByteArray} {f : Nat} : ∀ (m : List St) {i : Nat} {acc : List St}, s.size < f + i → (bl s).drop i = fmtL m → (∀ x ∈ m, RightSt x ∧ x.2.1 ≤ 9223372036854775807) → acc.length + m.length ≤ 64 → parF s f i acc = (acc ++ m, 0, 0)
  | [], i, acc, hf, h, hm, hl => by
    have : s.size ≤ i := by
      have := congrArg List.length h
      rw [List.length_drop, bl_length] at this
      simp [fmtL] at this; omega
    rw [parF_end this, List.append_nil]
  | x :: m, i, acc, hf, h, hm, hl => by
    obtain ⟨hx, hb⟩ := hm x List.mem_cons_self
    rw [fmtL_cons] at h
    have e := stp_txt hx hb h (behind_fmt fun y hy => (hm y (List.mem_cons_of_mem _ hy)).1)
    obtain ⟨c, t, e2, -⟩ := txt_head hx
    have hz := size_drop h
    have hp : 0 < (txt x).length := by rw [e2]; simp
    simp only [List.length_cons] at hl
    rw [parF_step (by omega) hf (by omega) (by rw [e]), e]
    simp only
    rw [Int.toNat_natCast, par_text m (by omega) (drop_next h) (fun y hy => hm y (List.mem_cons_of_mem _ hy)) (by simp; omega)]
    simp
/-- A path is recovered from its text. -/
theorem par_fmt {l : List St} (h : RightP l) (hb : ∀ x ∈ l, x.2.1 ≤ 9223372036854775807) : parS (fmtS l) = (l, 0, 0) := by
  unfold parS
  rw [par_text l (by omega) (by rw [List.drop_zero, bl_fmt h]) (fun x hx => ⟨h.2 x hx, hb x hx⟩) (by simpa using h.1)]
  rfl
theorem par_back {s : ByteArray} : ∀ (f : Nat) {i : Nat} {acc l : List St}, s.size < f + i → i ≤ s.size → acc.length ≤ 64 → parF s f i acc = (l, 0, 0) → ∃ m, l = acc ++ m ∧ (bl s).drop i = fmtL m ∧ (∀ x ∈ m, RightSt x ∧ x.2.1 ≤ 9223372036854775807) ∧ l.length ≤ 64
  | 0, i, acc, l, hf, hi, ha, h => by omega
  | f + 1, i, acc, l, hf, hi, ha, h => by
    by_cases hlt : i < s.size
    · by_cases h1 : 63 < acc.length
      · rw [parF_many hlt hf h1] at h; simp at h
      · by_cases h2 : (stpS s i).2.2.1 ≠ 0
        · rw [parF_bad hlt hf h1 h2] at h
          exact absurd (congrArg (fun q => q.2.1) h) h2
        · rw [parF, if_pos hlt, if_neg h1, if_neg h2] at h
          obtain ⟨q1, q2, q3, q4, q5, q6, -⟩ := stp_ok hlt (Decidable.not_not.1 h2)
          rw [q3, Int.toNat_natCast] at h
          obtain ⟨m, e1, e2, e3, e4⟩ := par_back f (by omega) (by omega) (by simp; omega) h
          refine ⟨(stpS s i).1 :: m, by rw [e1]; simp, by rw [q6, e2, fmtL_cons], fun x hx => ?_, e4⟩
          rcases List.mem_cons.1 hx with rfl | hx
          · exact ⟨q1, q2⟩
          · exact e3 x hx
    · rw [parF_end (by omega)] at h
      simp only [Prod.mk.injEq, and_true] at h
      subst h
      exact ⟨[], by simp, by rw [List.drop_eq_nil_of_le (by rw [bl_length]; omega)]; rfl, by simp, ha⟩
/-- A text that is a path's is that path's. -/
theorem fmt_par {s : ByteArray} {l : List St} (h : parS s = (l, 0, 0)) : RightP l ∧ fmtS l = s ∧ ∀ x ∈ l, x.2.1 ≤ 9223372036854775807 := by
  obtain ⟨m, e1, e2, e3, e4⟩ := par_back _ (by omega) (Nat.zero_le _) (by simp) h
  rw [List.nil_append] at e1
  subst e1
  have hr : RightP l := ⟨e4, fun x hx => (e3 x hx).1⟩
  refine ⟨hr, ?_, fun x hx => (e3 x hx).2⟩
  apply bl_ext
  rw [bl_fmt hr, ← e2, List.drop_zero]
theorem par_len {s : ByteArray} : ∀ (f : Nat) {i : Nat} {acc : List St}, acc.length ≤ 64 → (parF s f i acc).1.length ≤ 64
  | 0, i, acc, ha => ha
  | f + 1, i, acc, ha => by
    rw [parF]
    split
    · split
      · simp
      · split
        · simp
        · exact par_len f (by simp; omega)
    · exact ha
end Go.Proofs.Ytlijjbcamkhhaaa.Pat
