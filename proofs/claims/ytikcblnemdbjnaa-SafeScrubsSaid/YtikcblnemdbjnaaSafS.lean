/- The plain mathematics of layer 6: what is safe for a terminal, scrubbing and its reverse. No Go here. -/
import Derived.Test.YtikcblnemdbjnaaEscS
import Derived.Test.YtikcblnemdbjnaaCelS
set_option linter.unusedVariables false
namespace Go.Proofs.Ytikcblnemdbjnaa.Saf
open Go.Lib Go.Proofs.Ytikcblnemdbjnaa.Utf Go.Proofs.Ytikcblnemdbjnaa.Ran Go.Proofs.Ytikcblnemdbjnaa.Cel Go.Proofs.Ytikcblnemdbjnaa.Esc

/-- What keeps the unit at index i from a terminal; 0: nothing. -/
def badU (s : ByteArray) (i : Nat) : Int := if (decS s i).2.2 = false then 2 else if (decS s i).1 ≠ 10 ∧ kindS (decS s i).1 ≠ 0 then 3 else 0
def firGo (s : ByteArray) : Nat → Nat → Nat
  | 0, i => i
  | k + 1, i => if i < s.size ∧ badU s i = 0 then firGo s k (i + (decS s i).2.1.toNat) else i
def firF (s : ByteArray) (i : Nat) : Nat := firGo s (s.size - i) i
def firS (s : ByteArray) : Nat := firF s 0
theorem step_bd {s : ByteArray} {i : Nat} (hi : i < s.size) : 1 ≤ (decS s i).2.1.toNat ∧ (decS s i).2.1.toNat ≤ 4 ∧ i + (decS s i).2.1.toNat ≤ s.size := by
  have := decS_spec s i hi
  omega
theorem firGo_fuel (s : ByteArray) : ∀ (k i : Nat), s.size - i ≤ k → firGo s k i = firF s i
  | 0, i, h => by unfold firF; rw [show s.size - i = 0 by omega]
  | k + 1, i, h => by
    unfold firF
    by_cases hi : i < s.size
    · obtain ⟨m, hm⟩ : ∃ m, s.size - i = m + 1 := ⟨s.size - i - 1, by omega⟩
      have hb := step_bd hi
      rw [hm, firGo, firGo]
      by_cases h0 : badU s i = 0
      · rw [if_pos ⟨hi, h0⟩, if_pos ⟨hi, h0⟩, firGo_fuel s k _ (by omega), firGo_fuel s m _ (by omega)]
      · rw [if_neg (fun e => h0 e.2), if_neg (fun e => h0 e.2)]
    · rw [show s.size - i = 0 by omega, firGo, firGo, if_neg (fun e => hi e.1)]
theorem firF_end {s : ByteArray} {i : Nat} (h : s.size ≤ i) : firF s i = i := by unfold firF; rw [show s.size - i = 0 by omega, firGo]
theorem firF_step {s : ByteArray} {i : Nat} (h : i < s.size) : firF s i = if badU s i = 0 then firF s (i + (decS s i).2.1.toNat) else i := by
  have hb := step_bd h
  rw [← firGo_fuel s (s.size - i + 1) i (by omega), firGo]
  by_cases h0 : badU s i = 0
  · rw [if_pos ⟨h, h0⟩, if_pos h0, firGo_fuel s _ _ (by omega)]
  · rw [if_neg (fun e => h0 e.2), if_neg h0]
theorem firF_bd (s : ByteArray) : ∀ (k i : Nat), s.size - i ≤ k → i ≤ s.size → i ≤ firF s i ∧ firF s i ≤ s.size
  | k, i, h, hi => by
    by_cases h1 : i < s.size
    · have hb := step_bd h1
      rw [firF_step h1]
      split
      · cases k with
        | zero => omega
        | succ k => have := firF_bd s k (i + (decS s i).2.1.toNat) (by omega) (by omega); omega
      · omega
    · rw [firF_end (by omega)]; omega
theorem unit_step {s : ByteArray} {i : Nat} (h : badU s i = 0) : (unitS s i).2 = (decS s i).2.1.toNat := by
  unfold badU at h
  unfold unitS
  split
  · rfl
  · next hk => rw [if_pos (by simpa using hk)] at h; omega

/-- A unit as it is scrubbed, and its length. -/
def scU (s : ByteArray) (i : Nat) : ByteArray × Nat := if byN s i = 10 ∨ byN s i = 34 then (s.extract i (i + 1), 1) else unS s i
theorem ascii_dec {s : ByteArray} {i : Nat} (hi : i < s.size) (h : byN s i < 128) : decS s i = ((byN s i : Int), 1, true) := by
  have h10 : leadL (byN s i) = (((1 : Nat) : Int), 0, 0) := by unfold leadL; rw [if_pos (by omega)]; rfl
  rw [decS_in hi h10 (by omega)]
  simp [decGo, markL]
theorem sc_bd {s : ByteArray} {i : Nat} (hi : i < s.size) : 1 ≤ (scU s i).2 ∧ (scU s i).2 ≤ 4 ∧ i + (scU s i).2 ≤ s.size := by
  have := un_bd hi
  unfold scU
  split
  · simp only; omega
  · exact this
theorem sc_len {s : ByteArray} {i : Nat} (hi : i < s.size) : (scU s i).2 = (unS s i).2 := by
  unfold scU
  split
  · next h =>
    unfold unS
    rw [ascii_dec hi (by omega), if_pos rfl]
    rfl
  · rfl
def scGo (s : ByteArray) : Nat → Nat → ByteArray
  | 0, _ => ByteArray.empty
  | k + 1, i => if i < s.size then (scU s i).1 ++ scGo s k (i + (scU s i).2) else ByteArray.empty
def scF (s : ByteArray) (i : Nat) : ByteArray := scGo s (s.size - i) i
def scrubS (s : ByteArray) : ByteArray := scF s 0
theorem scGo_fuel (s : ByteArray) : ∀ (k i : Nat), s.size - i ≤ k → scGo s k i = scF s i
  | 0, i, h => by unfold scF; rw [show s.size - i = 0 by omega]
  | k + 1, i, h => by
    unfold scF
    by_cases hi : i < s.size
    · obtain ⟨m, hm⟩ : ∃ m, s.size - i = m + 1 := ⟨s.size - i - 1, by omega⟩
      have hb := sc_bd hi
      rw [hm, scGo, scGo, if_pos hi, if_pos hi, scGo_fuel s k _ (by omega), scGo_fuel s m _ (by omega)]
    · rw [show s.size - i = 0 by omega, scGo, scGo, if_neg hi]
theorem scF_end {s : ByteArray} {i : Nat} (h : s.size ≤ i) : scF s i = ByteArray.empty := by unfold scF; rw [show s.size - i = 0 by omega, scGo]
theorem scF_step {s : ByteArray} {i : Nat} (h : i < s.size) : scF s i = (scU s i).1 ++ scF s (i + (scU s i).2) := by
  have hb := sc_bd h
  rw [← scGo_fuel s (s.size - i + 1) i (by omega), scGo, if_pos h, scGo_fuel s _ _ (by omega)]
theorem sc_size {s : ByteArray} {i : Nat} (hi : i < s.size) : (scU s i).1.size ≤ 10 := by
  unfold scU
  split
  · simp only; rw [ByteArray.size_extract]; omega
  · exact wr_size hi
theorem scF_size (s : ByteArray) : ∀ (k j : Nat), s.size - j ≤ k → (scF s j).size ≤ 10 * (s.size - j)
  | k, j, hk => by
    by_cases hj : j < s.size
    · cases k with
      | zero => omega
      | succ k =>
        have hb := sc_bd hj
        have h1 := sc_size hj
        have h2 := scF_size s k (j + (scU s j).2) (by omega)
        rw [scF_step hj, ByteArray.size_append]
        omega
    · rw [scF_end (by omega)]; show 0 ≤ _; omega

/-- What stands at index i of a scrubbed text: a fault, or what it denotes and its length. -/
def undU (q : ByteArray) (i : Nat) : Int × ByteArray × Nat :=
  if byN q i = 92 then
    (if (oneL ((bl q).drop i)).2 = 0 then (16, ByteArray.empty, 0) else (0, strOfNums (oneL ((bl q).drop i)).1, (oneL ((bl q).drop i)).2))
  else if badU q i ≠ 0 then (badU q i, ByteArray.empty, 0)
  else (0, q.extract i (i + (decS q i).2.1.toNat), (decS q i).2.1.toNat)
theorem und_bd (q : ByteArray) (i : Nat) (hi : i < q.size) : 0 ≤ (undU q i).1 ∧ (undU q i).1 ≤ 16 ∧ i + (undU q i).2.2 ≤ q.size ∧ ((undU q i).1 = 0 → 1 ≤ (undU q i).2.2) ∧ (undU q i).2.2 ≤ 10 ∧ (undU q i).2.1.size ≤ 4 := by
  have hd := step_bd hi
  have ho := one_len ((bl q).drop i)
  rw [List.length_drop, bl_length] at ho
  have hb : 0 ≤ badU q i ∧ badU q i ≤ 3 := by unfold badU; (repeat' split) <;> omega
  unfold undU
  split
  · split
    · simp; omega
    · simp only; rw [strOfNums_size]; omega
  · split
    · next h => simp; omega
    · simp only; rw [ByteArray.size_extract]; omega
def usGo (q : ByteArray) : Nat → Nat → ByteArray → ByteArray × Int × Int
  | 0, _, acc => (acc, 0, 0)
  | k + 1, i, acc =>
    if i < q.size then (if (undU q i).1 ≠ 0 then (ByteArray.empty, (undU q i).1, (i : Int)) else usGo q k (i + (undU q i).2.2) (acc ++ (undU q i).2.1))
    else (acc, 0, 0)
def usF (q : ByteArray) (i : Nat) (acc : ByteArray) : ByteArray × Int × Int := usGo q (q.size - i) i acc
def unscrubS (q : ByteArray) : ByteArray × Int × Int := usF q 0 ByteArray.empty
theorem usGo_fuel (q : ByteArray) : ∀ (k i : Nat) (acc : ByteArray), q.size - i ≤ k → usGo q k i acc = usF q i acc
  | 0, i, acc, h => by unfold usF; rw [show q.size - i = 0 by omega]
  | k + 1, i, acc, h => by
    unfold usF
    by_cases hi : i < q.size
    · obtain ⟨m, hm⟩ : ∃ m, q.size - i = m + 1 := ⟨q.size - i - 1, by omega⟩
      have hb := und_bd q i hi
      rw [hm, usGo, usGo, if_pos hi, if_pos hi]
      by_cases h4 : (undU q i).1 ≠ 0
      · rw [if_pos h4, if_pos h4]
      rw [if_neg h4, if_neg h4]
      have h5 : 1 ≤ (undU q i).2.2 := hb.2.2.2.1 (by omega)
      rw [usGo_fuel q k _ _ (by omega), usGo_fuel q m _ _ (by omega)]
    · rw [show q.size - i = 0 by omega, usGo, usGo, if_neg hi]
theorem usF_end {q : ByteArray} {i : Nat} (acc : ByteArray) (h : q.size ≤ i) : usF q i acc = (acc, 0, 0) := by unfold usF; rw [show q.size - i = 0 by omega, usGo]
theorem usF_step {q : ByteArray} {i : Nat} (acc : ByteArray) (h : i < q.size) :
    usF q i acc = if (undU q i).1 ≠ 0 then (ByteArray.empty, (undU q i).1, (i : Int)) else usF q (i + (undU q i).2.2) (acc ++ (undU q i).2.1) := by
  have hb := und_bd q i h
  rw [← usGo_fuel q (q.size - i + 1) i acc (by omega), usGo, if_pos h]
  by_cases h4 : (undU q i).1 ≠ 0
  · rw [if_pos h4, if_pos h4]
  rw [if_neg h4, if_neg h4, usGo_fuel q _ _ _ (by have := hb.2.2.2.1 (by omega); omega)]

/-- Where quoted text is read well, so is scrubbed text. -/
theorem und_of_den {q : ByteArray} {i : Nat} {p : ByteArray} {n : Nat} (h : denS q i = (0, p, n)) : undU q i = (0, p, n) := by
  unfold denS at h
  unfold undU
  by_cases h1 : byN q i = 92
  · rw [if_pos h1] at h ⊢
    by_cases h2 : (oneL ((bl q).drop i)).2 = 0
    · rw [if_pos h2] at h; simp at h
    · rw [if_neg h2] at h ⊢; exact h
  rw [if_neg h1] at h ⊢
  by_cases h2 : (decS q i).2.2 = false
  · rw [if_pos h2] at h; simp at h
  rw [if_neg h2] at h
  by_cases h3 : kindS (decS q i).1 ≠ 0
  · rw [if_pos h3] at h; simp at h
  rw [if_neg h3] at h
  have hb : badU q i = 0 := by unfold badU; rw [if_neg h2, if_neg (fun e => h3 e.2)]
  rw [if_neg (by omega)]
  exact h
theorem und_write {s q : ByteArray} {j i : Nat} {rest : List Int} (hj : j < s.size) (h : (bl q).drop i = bl (scU s j).1 ++ rest) :
    undU q i = (0, s.extract j (j + (scU s j).2), (scU s j).1.size) := by
  unfold scU at h ⊢
  by_cases h1 : byN s j = 10 ∨ byN s j = 34
  · rw [if_pos h1] at h ⊢
    simp only at h ⊢
    rw [bl_one s j hj, List.singleton_append] at h
    have hq := byN_head h
    have hi : i < q.size := by
      have := congrArg List.length h
      rw [List.length_drop, bl_length, List.length_cons] at this
      omega
    have hd : decS q i = ((byN q i : Int), 1, true) := ascii_dec hi (by omega)
    have hx : q.extract i (i + 1) = s.extract j (j + 1) := bl_ext (by rw [bl_one q i hi, bl_one s j hj, hq])
    have hz : (s.extract j (j + 1)).size = 1 := by rw [ByteArray.size_extract]; omega
    have hk : ¬ ((byN q i : Int) ≠ 10 ∧ kindS (byN q i : Int) ≠ 0) := by
      rintro ⟨a, b⟩
      have h34 : (byN q i : Int) = 34 := by omega
      rw [h34] at b
      exact b (kind_ascii (by decide) (by decide))
    have hb : badU q i = 0 := by
      unfold badU
      rw [hd, if_neg (show ¬ (true = false) by decide), if_neg hk]
    unfold undU
    rw [if_neg (by omega), if_neg (by omega), hd, hz]
    show (0, q.extract i (i + 1), 1) = _
    rw [hx]
  · rw [if_neg h1] at h ⊢
    exact und_of_den (den_write hj h).1
theorem wr_pos {s : ByteArray} {j : Nat} (hj : j < s.size) : 1 ≤ (unS s j).1.size := by
  have hb := step_bd hj
  have hz : (s.extract j (j + (decS s j).2.1.toNat)).size = (decS s j).2.1.toNat := by rw [ByteArray.size_extract]; omega
  unfold unS
  split
  · simp only
    generalize s.extract j (j + (decS s j).2.1.toNat) = p at *
    unfold wrU
    split
    · rw [ByteArray.size_append]; show 1 ≤ 1 + _; omega
    · split
      · decide
      · split
        · decide
        · split
          · decide
          · split
            · rw [ByteArray.size_append, ByteArray.size_append]; show 1 ≤ 3 + _ + 1; omega
            · omega
  · simp only
    rw [ByteArray.size_append]; show 1 ≤ 2 + _; omega
theorem sc_pos {s : ByteArray} {j : Nat} (hj : j < s.size) : 1 ≤ (scU s j).1.size := by
  unfold scU
  split
  · simp only; rw [ByteArray.size_extract]; omega
  · exact wr_pos hj
theorem us_back (s q : ByteArray) : ∀ (k j i : Nat) (acc : ByteArray), s.size - j ≤ k → j ≤ s.size → (bl q).drop i = bl (scF s j) → i ≤ q.size →
    usF q i acc = (acc ++ s.extract j s.size, 0, 0)
  | k, j, i, acc, hk, hj, h, hiq => by
    by_cases hj' : j < s.size
    · cases k with
      | zero => omega
      | succ k =>
        rw [scF_step hj', bl_append] at h
        have hd := und_write hj' h
        have hb := sc_bd hj'
        have hnx := drop_next h
        rw [bl_length] at hnx
        have hp := sc_pos hj'
        have hi2 : i < q.size := by
          have := congrArg List.length h
          rw [List.length_drop, bl_length, List.length_append, bl_length] at this
          omega
        have hnq : i + (scU s j).1.size ≤ q.size := by
          have := congrArg List.length h
          rw [List.length_drop, bl_length, List.length_append, bl_length] at this
          omega
        rw [usF_step acc hi2, hd, if_neg (by simp)]
        simp only
        rw [us_back s q k _ _ _ (by omega) (by omega) hnx hnq, ByteArray.append_assoc, ext_join (by omega) (by omega) (Nat.le_refl _)]
    · rw [scF_end (by omega)] at h
      have hi2 : q.size ≤ i := by
        have := congrArg List.length h
        rw [List.length_drop, bl_length] at this
        have h0 : (bl ByteArray.empty).length = 0 := rfl
        omega
      have : s.extract j s.size = ByteArray.empty := by
        apply bl_ext
        rw [bl_extract, List.drop_eq_nil_of_le (by rw [List.length_take, bl_length]; omega)]
        rfl
      rw [usF_end acc hi2, this, ByteArray.append_empty]
theorem unscrub_scrub (s : ByteArray) : unscrubS (scrubS s) = (s, 0, 0) := by
  unfold unscrubS
  rw [us_back s (scrubS s) s.size 0 0 _ (by omega) (by omega) (by rw [List.drop_zero]; rfl) (by omega), ByteArray.empty_append]
  simp

/-! ### What is scrubbed is safe, has as many line ends; what is safe and has no backslash stays -/
def SfN (l : List Int) : Prop := ∀ x ∈ l, scalarB x = true ∧ (kindS x = 0 ∨ x = 10)
theorem sc_safe {s : ByteArray} {j : Nat} (hj : j < s.size) : ∃ l, bl (scU s j).1 = encCat l ∧ SfN l := by
  unfold scU
  split
  · next h =>
    refine ⟨[(byN s j : Int)], ?_, ?_⟩
    · simp only
      rw [bl_one s j hj]
      unfold encCat
      rw [List.map_cons, (encL_ascii (c := (byN s j : Int)) (by omega)).1]
      rfl
    · intro x hx
      simp only [List.mem_singleton] at hx
      subst hx
      refine ⟨(encL_ascii (c := (byN s j : Int)) (by omega)).2, ?_⟩
      rcases h with h | h
      · right; omega
      · left; rw [h]; exact kind_ascii (by decide) (by decide)
  · obtain ⟨l, h1, h2⟩ := un_safe hj
    exact ⟨l, h1, fun x hx => ⟨(h2 x hx).1, .inl (h2 x hx).2⟩⟩
theorem scF_safe (s : ByteArray) : ∀ (k j : Nat), s.size - j ≤ k → ∃ l, bl (scF s j) = encCat l ∧ SfN l
  | k, j, hk => by
    by_cases hj : j < s.size
    · cases k with
      | zero => omega
      | succ k =>
        have hb := sc_bd hj
        obtain ⟨l, hl, sl⟩ := sc_safe hj
        obtain ⟨m, hm, sm⟩ := scF_safe s k (j + (scU s j).2) (by omega)
        refine ⟨l ++ m, by rw [scF_step hj, bl_append, hl, hm, encCat_append], fun x hx => ?_⟩
        rcases List.mem_append.1 hx with h | h
        · exact sl x h
        · exact sm x h
    · exact ⟨[], by rw [scF_end (by omega)]; rfl, fun x hx => by simp at hx⟩
theorem fir_all (q : ByteArray) : ∀ (l : List Int) (i : Nat), (bl q).drop i = encCat l → SfN l → i ≤ q.size → firF q i = q.size
  | [], i, h, hs, hi => by
    have : q.size ≤ i := by
      have := congrArg List.length h
      rw [List.length_drop, bl_length] at this
      have h0 : (encCat []).length = 0 := rfl
      omega
    rw [firF_end this]; omega
  | x :: l, i, h, hs, hi => by
    have e : encCat (x :: l) = encL x ++ encCat l := by simp [encCat]
    rw [e] at h
    obtain ⟨h1, h2⟩ := hs x List.mem_cons_self
    obtain ⟨d1, d2⟩ := dec_enc h1 h
    have hz := size_drop h
    have hi2 : i < q.size := by omega
    have hb : badU q i = 0 := by
      unfold badU
      rw [d1]
      simp only
      rw [if_neg (by decide), if_neg]
      rintro ⟨a, b⟩
      rcases h2 with h2 | h2
      · exact b h2
      · exact a h2
    rw [firF_step hi2, if_pos hb, d1]
    simp only [Int.toNat_natCast]
    exact fir_all q l _ (drop_next h) (fun y hy => hs y (List.mem_cons_of_mem _ hy)) (by omega)
theorem scrub_safe (s : ByteArray) : firS (scrubS s) = (scrubS s).size := by
  obtain ⟨l, hl, sl⟩ := scF_safe s s.size 0 (by omega)
  exact fir_all (scrubS s) l 0 (by rw [List.drop_zero]; exact hl) sl (by omega)

theorem enc_no10 {x : Int} (hs : scalarB x = true) (h : x ≠ 10) : ∀ y ∈ encL x, y ≠ 10 := by
  intro y hy
  by_cases h1 : x < 128
  · have h0 : 0 ≤ x := by unfold scalarB at hs; simp at hs; omega
    rw [(encL_ascii ⟨h0, h1⟩).1, List.mem_singleton] at hy
    omega
  · have := encL_high hs h1 y hy
    omega
theorem cat_no10 : ∀ {l : List Int}, Sf l → ∀ y ∈ encCat l, y ≠ 10
  | [], _, y, hy => by simp [encCat] at hy
  | x :: l, h, y, hy => by
    have e : encCat (x :: l) = encL x ++ encCat l := by simp [encCat]
    rw [e, List.mem_append] at hy
    obtain ⟨h1, h2⟩ := h x List.mem_cons_self
    rcases hy with hy | hy
    · refine enc_no10 h1 (fun e => ?_) y hy
      rw [e] at h2
      exact absurd h2 (by decide +kernel)
    · exact cat_no10 (fun z hz => h z (List.mem_cons_of_mem _ hz)) y hy
theorem sc_count {s : ByteArray} {j : Nat} (hj : j < s.size) : (bl (scU s j).1).count 10 = (bl (s.extract j (j + (scU s j).2))).count 10 := by
  unfold scU
  split
  · rfl
  · next h =>
    have hl : (bl (unS s j).1).count 10 = 0 := by
      obtain ⟨l, h1, h2⟩ := un_safe hj
      rw [h1, List.count_eq_zero]
      exact fun hm => cat_no10 h2 _ hm rfl
    have hr : (bl (s.extract j (j + (unS s j).2))).count 10 = 0 := by
      rw [List.count_eq_zero]
      intro hm
      by_cases hok : (decS s j).2.2 = true
      · obtain ⟨hs, he, hn⟩ := dec_ok hj hok
        have hu : (unS s j).2 = (decS s j).2.1.toNat := by unfold unS; rw [if_pos hok]
        rw [hu, he] at hm
        refine enc_no10 hs (fun e => ?_) _ hm rfl
        rw [e] at he
        have hb := step_bd hj
        have h2 : (bl s).drop j = encL 10 ++ (bl s).drop (j + (decS s j).2.1.toNat) := by
          rw [← he, bl_extract, List.drop_take, show j + (decS s j).2.1.toNat - j = (decS s j).2.1.toNat by omega, ← List.drop_drop, List.take_append_drop]
        have := byN_head (l := (bl s).drop (j + (decS s j).2.1.toNat)) (c := 10) h2
        omega
      · have hu : (unS s j).2 = 1 := by unfold unS; rw [if_neg hok]
        rw [hu, bl_one s j hj, List.mem_singleton] at hm
        omega
    rw [hl, hr]
theorem scF_count (s : ByteArray) : ∀ (k j : Nat), s.size - j ≤ k → (bl (scF s j)).count 10 = ((bl s).drop j).count 10
  | k, j, hk => by
    by_cases hj : j < s.size
    · cases k with
      | zero => omega
      | succ k =>
        have hb := sc_bd hj
        have e : (bl s).drop j = bl (s.extract j (j + (scU s j).2)) ++ (bl s).drop (j + (scU s j).2) := by
          rw [bl_extract, List.drop_take, show j + (scU s j).2 - j = (scU s j).2 by omega, ← List.drop_drop, List.take_append_drop]
        rw [scF_step hj, bl_append, List.count_append, scF_count s k _ (by omega), sc_count hj, e, List.count_append]
    · rw [scF_end (by omega), List.drop_eq_nil_of_le (by rw [bl_length]; omega)]; rfl
theorem scrub_count (s : ByteArray) : (bl (scrubS s)).count 10 = (bl s).count 10 := by
  have := scF_count s s.size 0 (by omega)
  rw [List.drop_zero] at this
  exact this
theorem sc_same {s : ByteArray} {j : Nat} (hj : j < s.size) (h0 : badU s j = 0) (h92 : byN s j ≠ 92) : (scU s j).1 = s.extract j (j + (scU s j).2) ∧ (scU s j).2 = (decS s j).2.1.toNat := by
  have hok : (decS s j).2.2 = true := by
    unfold badU at h0
    cases h : (decS s j).2.2
    · rw [if_pos h] at h0; omega
    · rfl
  obtain ⟨hs, he, hn⟩ := dec_ok hj hok
  have hb := step_bd hj
  have hdrop : (bl s).drop j = encL (decS s j).1 ++ (bl s).drop (j + (decS s j).2.1.toNat) := by
    rw [← he, bl_extract, List.drop_take, show j + (decS s j).2.1.toNat - j = (decS s j).2.1.toNat by omega, ← List.drop_drop, List.take_append_drop]
  have hr : ∀ c : Int, 0 ≤ c → c < 128 → (decS s j).1 = c → (byN s j : Int) = c := fun c c0 c1 e => by
    rw [e, (encL_ascii ⟨c0, c1⟩).1] at hdrop
    exact byN_head (l := (bl s).drop (j + (decS s j).2.1.toNat)) hdrop
  unfold scU
  by_cases h1 : byN s j = 10 ∨ byN s j = 34
  · rw [if_pos h1, ascii_dec hj (by omega)]
    exact ⟨rfl, rfl⟩
  · rw [if_neg h1]
    unfold unS
    rw [if_pos hok]
    refine ⟨?_, rfl⟩
    simp only
    unfold badU at h0
    rw [hok, if_neg (by decide)] at h0
    have n10 : (decS s j).1 ≠ 10 := fun e => by have := hr 10 (by decide) (by decide) e; omega
    have hk : kindS (decS s j).1 = 0 := by
      by_cases h : kindS (decS s j).1 = 0
      · exact h
      · rw [if_pos ⟨n10, h⟩] at h0; omega
    have n34 : (decS s j).1 ≠ 34 := fun e => by have := hr 34 (by decide) (by decide) e; omega
    have n92 : (decS s j).1 ≠ 92 := fun e => by have := hr 92 (by decide) (by decide) e; omega
    have n9 : (decS s j).1 ≠ 9 := fun e => by rw [e] at hk; exact absurd hk (by decide +kernel)
    have n13 : (decS s j).1 ≠ 13 := fun e => by rw [e] at hk; exact absurd hk (by decide +kernel)
    unfold wrU
    rw [if_neg (fun e => e.elim n34 n92), if_neg n9, if_neg n10, if_neg n13, if_neg (fun e => e hk)]
theorem scF_same (s : ByteArray) (h92 : (bl s).count 92 = 0) : ∀ (k j : Nat), s.size - j ≤ k → j ≤ s.size → firF s j = s.size → scF s j = s.extract j s.size
  | k, j, hk, hjs, hf => by
    by_cases hj : j < s.size
    · cases k with
      | zero => omega
      | succ k =>
        have hb := sc_bd hj
        rw [firF_step hj] at hf
        have h0 : badU s j = 0 := by
          by_cases h : badU s j = 0
          · exact h
          · rw [if_neg h] at hf; omega
        rw [if_pos h0] at hf
        have hne : byN s j ≠ 92 := fun e => by
          rw [List.count_eq_zero] at h92
          refine h92 (List.mem_of_getElem? (i := j) ?_)
          rw [bl_get s j hj, e]; rfl
        obtain ⟨e1, e2⟩ := sc_same hj h0 hne
        rw [← e2] at hf
        rw [scF_step hj, e1, scF_same s h92 k _ (by omega) (by omega) hf, ext_join (by omega) (by omega) (Nat.le_refl _)]
    · rw [scF_end (by omega)]
      apply bl_ext
      rw [bl_extract, List.drop_eq_nil_of_le (by rw [List.length_take, bl_length]; omega)]
      rfl
theorem scrub_same {s : ByteArray} (h1 : firS s = s.size) (h2 : (bl s).count 92 = 0) : scrubS s = s := by
  have := scF_same s h2 s.size 0 (by omega) (by omega) h1
  unfold scrubS
  rw [this]
  simp
end Go.Proofs.Ytikcblnemdbjnaa.Saf
