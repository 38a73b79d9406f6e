/- The walks of the laws UtfBads and UtfBack, over the contracts. -/
import Derived.Test.YtikcblnemdbjnaaUtfI
import Derived.Test.YtikcblnemdbjnaaUtfL
set_option linter.unusedVariables false
namespace Go.Proofs.Ytikcblnemdbjnaa.Utf
open Go.RowKit Go.Lib

/-- The scalars among the runes; the runes' bytes, one behind the other. -/
def keptL (l : List Int) : List Int := l.filter scalarB
def encCat (l : List Int) : List Int := (l.map encL).flatten

theorem byN_drop {s : ByteArray} {i j : Nat} {l r : List Int} {x : Int} (h : (bl s).drop i = l ++ r) (hj : l[j]? = some x) : (byN s (i + j) : Int) = x := by
  apply byN_of_bl
  rw [← List.getElem?_drop, h, List.getElem?_append_left (List.getElem?_eq_some_iff.1 hj).1, hj]
theorem size_drop {s : ByteArray} {i : Nat} {l r : List Int} (h : (bl s).drop i = l ++ r) : l.length ≤ s.size - i := by
  have := congrArg List.length h
  rw [List.length_drop, bl_length, List.length_append] at this
  omega
/-- The bytes of a scalar decode to it, whatever follows. -/
theorem dec_enc {s : ByteArray} {i : Nat} {r : Int} {rest : List Int} (hs : scalarB r = true) (h : (bl s).drop i = encL r ++ rest) : decS s i = (r, ((encL r).length : Int), true) ∧ 1 ≤ (encL r).length := by
  have hz := size_drop h
  have hr : 0 ≤ r ∧ r ≤ 1114111 ∧ ¬ (55296 ≤ r ∧ r ≤ 57343) := of_decide_eq_true hs
  have hE : encL r = if r < 128 then [r] else if r < 2048 then [192 + r / 64, 128 + r % 64] else if r < 65536 then [224 + r / 4096, 128 + r / 64 % 64, 128 + r % 64]
    else [240 + r / 262144, 128 + r / 4096 % 64, 128 + r / 64 % 64, 128 + r % 64] := by unfold encL; rw [hs]; rfl
  by_cases r1 : r < 128
  · rw [if_pos r1] at hE
    rw [hE] at h hz ⊢
    have e0 := byN_drop (j := 0) h rfl
    simp at hz
    rw [Nat.add_zero] at e0
    refine ⟨?_, by simp⟩
    rw [decS_in (L := 1) (lo := 0) (hi' := 0) (by omega) (by unfold leadL; rw [if_pos (by omega)]; rfl) (by omega)]
    simp [decGo, markL]; omega
  rw [if_neg r1] at hE
  by_cases r2 : r < 2048
  · rw [if_pos r2] at hE
    rw [hE] at h hz ⊢
    have e0 := byN_drop (j := 0) h rfl
    have e1 := byN_drop (j := 1) h rfl
    simp at hz
    rw [Nat.add_zero] at e0
    refine ⟨?_, by simp⟩
    rw [decS_in (by omega) (lead2 _ (by omega)) (by omega), go_ok (by omega)]
    simp [decGo, markL]; omega
  rw [if_neg r2] at hE
  by_cases r3 : r < 65536
  · rw [if_pos r3] at hE
    rw [hE] at h hz ⊢
    have e0 := byN_drop (j := 0) h rfl
    have e1 := byN_drop (j := 1) h rfl
    have e2 := byN_drop (j := 2) h rfl
    have e2' : (byN s (i + (1 + 1)) : Int) = _ := e2
    simp at hz
    rw [Nat.add_zero] at e0
    refine ⟨?_, by simp⟩
    rw [decS_in (by omega) (lead3 _ (by omega)) (by omega)]
    generalize hlo : (if (byN s i : Int) = 224 then 160 else 128 : Int) = lo
    generalize hhi : (if (byN s i : Int) = 237 then 159 else 191 : Int) = up
    have hlo1 : ((byN s i : Int) = 224 → lo = 160) ∧ (¬ (byN s i : Int) = 224 → lo = 128) := by subst hlo; constructor <;> intro h <;> simp [h]
    have hhi1 : ((byN s i : Int) = 237 → up = 159) ∧ (¬ (byN s i : Int) = 237 → up = 191) := by subst hhi; constructor <;> intro h <;> simp [h]
    clear hlo hhi h hE
    rw [go_ok (by omega), go_ok (by omega)]
    simp [decGo, markL]; omega
  · rw [if_neg r3] at hE
    rw [hE] at h hz ⊢
    have e0 := byN_drop (j := 0) h rfl
    have e1 := byN_drop (j := 1) h rfl
    have e2 := byN_drop (j := 2) h rfl
    have e2' : (byN s (i + (1 + 1)) : Int) = _ := e2
    have e3 := byN_drop (j := 3) h rfl
    have e3' : (byN s (i + (1 + 1 + 1)) : Int) = _ := e3
    simp at hz
    rw [Nat.add_zero] at e0
    refine ⟨?_, by simp⟩
    rw [decS_in (by omega) (lead4 _ (by omega)) (by omega)]
    generalize hlo : (if (byN s i : Int) = 240 then 144 else 128 : Int) = lo
    generalize hhi : (if (byN s i : Int) = 244 then 143 else 191 : Int) = up
    have hlo1 : ((byN s i : Int) = 240 → lo = 144) ∧ (¬ (byN s i : Int) = 240 → lo = 128) := by subst hlo; constructor <;> intro h <;> simp [h]
    have hhi1 : ((byN s i : Int) = 244 → up = 143) ∧ (¬ (byN s i : Int) = 244 → up = 191) := by subst hhi; constructor <;> intro h <;> simp [h]
    clear hlo hhi h hE
    rw [go_ok (by omega), go_ok (by omega), go_ok (by omega)]
    simp [decGo, markL]; omega

theorem back_all (s : ByteArray) : ∀ (l : List Int) (i k : Nat), (bl s).drop i = encCat l → i ≤ s.size → s.size ≤ i + k →
    badGo s k i = s.size ∧ runesGo s k i = keptL l ∧ countGo s k i = (keptL l).length
  | [], i, k, h, hi, hk => by
    have hz := congrArg List.length h
    rw [List.length_drop, bl_length] at hz
    simp [encCat] at hz
    have e : i = s.size := by omega
    subst e
    cases k <;> simp [badGo, runesGo, countGo, keptL]
  | r :: l, i, k, h, hi, hk => by
    have hc : encCat (r :: l) = encL r ++ encCat l := by simp [encCat]
    rw [hc] at h
    by_cases hs : scalarB r = true
    · obtain ⟨hd, h1⟩ := dec_enc hs h
      have hz := size_drop h
      obtain ⟨k, rfl⟩ : ∃ k', k = k' + 1 := ⟨k - 1, by omega⟩
      have hlt : i < s.size := by omega
      have h2 : (bl s).drop (i + (encL r).length) = encCat l := by rw [← List.drop_drop, h, List.drop_left']; rfl
      obtain ⟨a1, a2, a3⟩ := back_all s l (i + (encL r).length) k h2 (by omega) (by omega)
      rw [badGo, runesGo, countGo, if_pos hlt, if_pos hlt, if_pos hlt, hd]
      simp only [if_true, Int.toNat_natCast, a1, a2, a3]
      have hk' : keptL (r :: l) = r :: keptL l := by unfold keptL; rw [List.filter_cons_of_pos hs]
      rw [hk']; simp
    · have he : encL r = [] := by unfold encL; rw [if_neg hs]
      rw [he, List.nil_append] at h
      have hk' : keptL (r :: l) = keptL l := by unfold keptL; rw [List.filter_cons_of_neg hs]
      rw [hk']
      exact back_all s l i k h hi hk
theorem encL_len (r : Int) : (encL r).length ≤ 4 := by unfold encL; (repeat' split) <;> simp
theorem encCat_range (l : List Int) : ∀ x ∈ encCat l, 0 ≤ x ∧ x < 256 := by
  intro x hx
  simp only [encCat, List.mem_flatten, List.mem_map] at hx
  obtain ⟨_, ⟨r, _, rfl⟩, hx⟩ := hx
  exact encL_range r x hx
theorem back_str (l : List Int) : badS (strOfNums (encCat l)) = (strOfNums (encCat l)).size ∧ runesS (strOfNums (encCat l)) = keptL l ∧ countS (strOfNums (encCat l)) = (keptL l).length :=
  back_all _ l 0 _ (by rw [List.drop_zero, bl_strOfNums _ (encCat_range l)]) (by omega) (by omega)
theorem encCat_snoc (l : List Int) (r : Int) : strOfNums (encCat l) ++ encS r = strOfNums (encCat (l ++ [r])) := by
  unfold encS strOfNums encCat
  apply ByteArray.ext
  simp

end Go.Proofs.Ytikcblnemdbjnaa.Utf
