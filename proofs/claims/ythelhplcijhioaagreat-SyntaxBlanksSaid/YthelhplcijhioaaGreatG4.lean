import Derived.Test.YthelhplcijhioaaGreatG2
import Derived.Test.YthelhplcijhioaaGreatG3
import Derived.Test.YthelhplcijhioaaGreatOwn
/- Contracts of utf.Runes and of the reference's Walk and Same. -/
set_option maxRecDepth 100000
set_option linter.unusedVariables false
namespace Go.Proofs.YthelhplcijhioaaGreat.Utf
open Go.RowKit Go.Lib

/-- The scalars from index i on, up to the first place that is not well-formed. -/
def runesGo (s : ByteArray) : Nat → Nat → List Int
  | 0, _ => []
  | k + 1, i => if i < s.size then (if (decS s i).2.2 then (decS s i).1 :: runesGo s k (i + (decS s i).2.1.toNat) else []) else []
def runesS (s : ByteArray) : List Int := runesGo s s.size 0
theorem badGo_ge (s : ByteArray) : ∀ k i, i ≤ badGo s k i
  | 0, i => Nat.le_refl _
  | k + 1, i => by
    rw [badGo]; split
    · split
      · exact Nat.le_trans (Nat.le_add_right _ _) (badGo_ge s k _)
      · exact Nat.le_refl _
    · exact Nat.le_refl _
theorem badGo_le (s : ByteArray) : ∀ k i, i ≤ s.size → badGo s k i ≤ s.size
  | 0, i, h => h
  | k + 1, i, h => by
    rw [badGo]; split
    · rename_i hi
      split
      · refine badGo_le s k _ ?_
        obtain ⟨d1, d2, d3, d4⟩ := decS_spec s i hi
        omega
      · exact h
    · exact h
theorem badS_le (s : ByteArray) : badS s ≤ s.size := badGo_le s _ _ (by omega)
theorem runesGo_len (s : ByteArray) : ∀ k i, (runesGo s k i).length ≤ k
  | 0, i => Nat.le_refl _
  | k + 1, i => by
    rw [runesGo]; split
    · split
      · simp; exact runesGo_len s k _
      · simp
    · simp
/-- Where the index is ahead of the first bad place, a scalar stands there. -/
theorem at_ok {s : ByteArray} {k i : Nat} (h : i < badGo s (k + 1) i) : i < s.size ∧ (decS s i).2.2 = true ∧ badGo s (k + 1) i = badGo s k (i + (decS s i).2.1.toNat) ∧ runesGo s (k + 1) i = (decS s i).1 :: runesGo s k (i + (decS s i).2.1.toNat) := by
  rw [badGo] at h ⊢
  rw [runesGo]
  by_cases h1 : i < s.size
  · rw [if_pos h1] at h ⊢
    by_cases h2 : (decS s i).2.2 = true
    · rw [if_pos h2, if_pos h1, if_pos h2]; exact ⟨h1, h2, rfl, rfl⟩
    · rw [if_neg h2] at h; omega
  · rw [if_neg h1] at h; omega
theorem at_end {s : ByteArray} {k i : Nat} (h : ¬ i < badGo s k i) : runesGo s k i = [] := by
  cases k with
  | zero => rfl
  | succ k =>
    rw [badGo] at h
    rw [runesGo]
    split
    · rename_i h1
      rw [if_pos h1] at h
      split
      · rename_i h2
        rw [if_pos h2] at h
        have := badGo_ge s k (i + (decS s i).2.1.toNat)
        have := (decS_spec s i h1).1
        omega
      · rfl
    · rfl
def runeV (l : List Int) : List Value := l.map (Value.int .i32)

theorem info32 : (Tryz.prog.info? 21).map (fun i => (i.zero, i.size, i.bytes)) = some (some (.int .i32 0), 1, 4) := by kernel_rfl

theorem runeV_get {l : List Int} {k : Nat} (h : k < l.length) : (runeV l)[k]? = some (.int .i32 (l.getD k 0)) := by
  unfold runeV
  simp [List.getElem?_eq_getElem h, List.getD]
theorem eq_take_succ {a b : List Int} {k : Nat} (h : a.take k = b.take k) (h1 : k < a.length) (h2 : k < b.length) (e : a.getD k 0 = b.getD k 0) : a.take (k + 1) = b.take (k + 1) := by
  rw [List.take_succ_eq_append_getElem h1, List.take_succ_eq_append_getElem h2, h]
  simp [List.getD, List.getElem?_eq_getElem h1, List.getElem?_eq_getElem h2] at e
  rw [e]

end Go.Proofs.YthelhplcijhioaaGreat.Utf

/- The chapter's example, as the laws of layer 1 ask for it. -/
set_option maxRecDepth 100000
set_option linter.unusedVariables false
namespace Go.Proofs.YthelhplcijhioaaGreat.Utf
open Go.RowKit Go.Lib

end Go.Proofs.YthelhplcijhioaaGreat.Utf

/- The walks of the laws UtfBads and UtfBack, over the contracts. -/
set_option maxRecDepth 100000
set_option linter.unusedVariables false
namespace Go.Proofs.YthelhplcijhioaaGreat.Utf
open Go.RowKit Go.Lib

/-- The scalars among the runes; the runes' bytes, one behind the other. -/
def keptL (l : List Int) : List Int := l.filter scalarB
def encCat (l : List Int) : List Int := (l.map encL).flatten

/-- The bytes of a scalar decode to it, whatever follows. -/
theorem dec_enc {s : ByteArray} {i : Nat} {r : Int} {rest : List Int} (hs : scalarB r = true) (h : (bl s).drop i = encL r ++ rest) : decS s i = (r, ((encL r).length : Int), true) ∧ 1 ≤ (encL r).length := by
  have hz := size_drop h
  have hr : 0 ≤ r ∧ r ≤ 1114111 ∧ ¬ (55296 ≤ r ∧ r ≤ 57343) := of_decide_eq_true hs
  have hE : encL r = if r < 128 then [r] else if r < 2048 then [192 + r / 64, 128 + r % 64] else if r < 65536 then [224 + r / 4096, 128 + r / 64 % 64, 128 + r % 64]
    else [240 + r / 262144, 128 + r / 4096 % 64, 128 + r / 64 % 64, 128 + r % 64] := by unfold encL; rw [hs]; rfl
  by_cases r1 : r < 128
  · rw [if_pos r1] at hE
    rw [hE] at h hz ⊢
    have e0 := byN_drop (j := 0) h rfl
    simp at hz
    rw [Nat.add_zero] at e0
    refine ⟨?_, by simp⟩
    rw [decS_in (L := 1) (lo := 0) (hi' := 0) (by omega) (by unfold leadL; rw [if_pos (by omega)]; rfl) (by omega)]
    simp [decGo, markL]; omega
  rw [if_neg r1] at hE
  by_cases r2 : r < 2048
  · rw [if_pos r2] at hE
    rw [hE] at h hz ⊢
    have e0 := byN_drop (j := 0) h rfl
    have e1 := byN_drop (j := 1) h rfl
    simp at hz
    rw [Nat.add_zero] at e0
    refine ⟨?_, by simp⟩
    rw [decS_in (by omega) (lead2 _ (by omega)) (by omega), go_ok (by omega)]
    simp [decGo, markL]; omega
  rw [if_neg r2] at hE
  by_cases r3 : r < 65536
  · rw [if_pos r3] at hE
    rw [hE] at h hz ⊢
    have e0 := byN_drop (j := 0) h rfl
    have e1 := byN_drop (j := 1) h rfl
    have e2 := byN_drop (j := 2) h rfl
    have e2' : (byN s (i + (1 + 1)) : Int) = _ := e2
    simp at hz
    rw [Nat.add_zero] at e0
    refine ⟨?_, by simp⟩
    rw [decS_in (by omega) (lead3 _ (by omega)) (by omega)]
    generalize hlo : (if (byN s i : Int) = 224 then 160 else 128 : Int) = lo
    generalize hhi : (if (byN s i : Int) = 237 then 159 else 191 : Int) = up
    have hlo1 : ((byN s i : Int) = 224 → lo = 160) ∧ (¬ (byN s i : Int) = 224 → lo = 128) := by subst hlo; constructor <;> intro h <;> simp [h]
    have hhi1 : ((byN s i : Int) = 237 → up = 159) ∧ (¬ (byN s i : Int) = 237 → up = 191) := by subst hhi; constructor <;> intro h <;> simp [h]
    clear hlo hhi h hE
    rw [go_ok (by omega), go_ok (by omega)]
    simp [decGo, markL]; omega
  · rw [if_neg r3] at hE
    rw [hE] at h hz ⊢
    have e0 := byN_drop (j := 0) h rfl
    have e1 := byN_drop (j := 1) h rfl
    have e2 := byN_drop (j := 2) h rfl
    have e2' : (byN s (i + (1 + 1)) : Int) = _ := e2
    have e3 := byN_drop (j := 3) h rfl
    have e3' : (byN s (i + (1 + 1 + 1)) : Int) = _ := e3
    simp at hz
    rw [Nat.add_zero] at e0
    refine ⟨?_, by simp⟩
    rw [decS_in (by omega) (lead4 _ (by omega)) (by omega)]
    generalize hlo : (if (byN s i : Int) = 240 then 144 else 128 : Int) = lo
    generalize hhi : (if (byN s i : Int) = 244 then 143 else 191 : Int) = up
    have hlo1 : ((byN s i : Int) = 240 → lo = 144) ∧ (¬ (byN s i : Int) = 240 → lo = 128) := by subst hlo; constructor <;> intro h <;> simp [h]
    have hhi1 : ((byN s i : Int) = 244 → up = 143) ∧ (¬ (byN s i : Int) = 244 → up = 191) := by subst hhi; constructor <;> intro h <;> simp [h]
    clear hlo hhi h hE
    rw [go_ok (by omega), go_ok (by omega), go_ok (by omega)]
    simp [decGo, markL]; omega

theorem back_all (s : ByteArray) : ∀ (l : List Int) (i k : Nat), (bl s).drop i = encCat l → i ≤ s.size → s.size ≤ i + k →
    badGo s k i = s.size ∧ runesGo s k i = keptL l ∧ countGo s k i = (keptL l).length
  | [], i, k, h, hi, hk => by
    have hz := congrArg List.length h
    rw [List.length_drop, bl_length] at hz
    simp [encCat] at hz
    have e : i = s.size := by omega
    subst e
    cases k <;> simp [badGo, runesGo, countGo, keptL]
  | r :: l, i, k, h, hi, hk => by
    have hc : encCat (r :: l) = encL r ++ encCat l := by simp [encCat]
    rw [hc] at h
    by_cases hs : scalarB r = true
    · obtain ⟨hd, h1⟩ := dec_enc hs h
      have hz := size_drop h
      obtain ⟨k, rfl⟩ : ∃ k', k = k' + 1 := ⟨k - 1, by omega⟩
      have hlt : i < s.size := by omega
      have h2 : (bl s).drop (i + (encL r).length) = encCat l := by rw [← List.drop_drop, h, List.drop_left']; rfl
      obtain ⟨a1, a2, a3⟩ := back_all s l (i + (encL r).length) k h2 (by omega) (by omega)
      rw [badGo, runesGo, countGo, if_pos hlt, if_pos hlt, if_pos hlt, hd]
      simp only [if_true, Int.toNat_natCast, a1, a2, a3]
      have hk' : keptL (r :: l) = r :: keptL l := by unfold keptL; rw [List.filter_cons_of_pos hs]
      rw [hk']; simp
    · have he : encL r = [] := by unfold encL; rw [if_neg hs]
      rw [he, List.nil_append] at h
      have hk' : keptL (r :: l) = keptL l := by unfold keptL; rw [List.filter_cons_of_neg hs]
      rw [hk']
      exact back_all s l i k h hi hk
theorem encL_len (r : Int) : (encL r).length ≤ 4 := by unfold encL; (repeat' split) <;> simp
theorem encCat_range (l : List Int) : ∀ x ∈ encCat l, 0 ≤ x ∧ x < 256 := by
  intro x hx
  simp only [encCat, List.mem_flatten, List.mem_map] at hx
  obtain ⟨_, ⟨r, _, rfl⟩, hx⟩ := hx
  exact encL_range r x hx
theorem back_str (l : List Int) : badS (strOfNums (encCat l)) = (strOfNums (encCat l)).size ∧ runesS (strOfNums (encCat l)) = keptL l ∧ countS (strOfNums (encCat l)) = (keptL l).length :=
  back_all _ l 0 _ (by rw [List.drop_zero, bl_strOfNums _ (encCat_range l)]) (by omega) (by omega)
theorem encCat_snoc (l : List Int) (r : Int) : strOfNums (encCat l) ++ encS r = strOfNums (encCat (l ++ [r])) := by
  unfold encS strOfNums encCat
  apply ByteArray.ext
  simp

end Go.Proofs.YthelhplcijhioaaGreat.Utf
