/- Layer 15: the reference's own. -/
import Derived.Test.YtpepomnkoghjpaaTypF
set_option maxRecDepth 100000
set_option linter.unusedVariables false
namespace Go.Proofs.Ytpepomnkoghjpaa.Kin
open Go.RowKit Go.Lib Go.Proofs.Ytpepomnkoghjpaa.Utf Go.Proofs.Ytpepomnkoghjpaa.Nam Go.Proofs.Ytpepomnkoghjpaa.Lat

theorem sameF_nil (f : Ft) : sameF f .nil = decide (f.len = 0) := by
  cases f with
  | nil => rfl
  | cons p h k r => simp [sameF, Fo.len]
theorem sameW_nil (l : List Wr) : sameW l [] = decide (l = []) := by
  unfold sameW
  cases l <;> simp [nms]
set_option maxRecDepth 100000 in
set_option maxHeartbeats 4000000 in
theorem own15_calls (f : Ft) (h : TH) (nv pv : Value) (w : World) (hm : h.names.length ≤ maxLen) (hfl : f.len ≤ maxLen) (hga : f.All GoodH GoodL) (hy : RdY w h f nv pv) (R : Ending → World → Prop)
    (hR : Hid (∀ w', Below w.heap.size w w' → R (.returned (.bool (ownB h f))) w')) : Calls Try.prog 19 #[tyV h nv pv] w R := by
  have bA := (Below.refl w.heap.size w).alloc (Nat.le_refl _) (.cells (tyL h nv pv).toArray 27)
  have b2 : ∀ o, Below w.heap.size w ((w.alloc (.cells (tyL h nv pv).toArray 27)).alloc o) := fun o => bA.alloc bA.size o
  have cO := Lib.hid fun (h' : TH) (f' : Ft) (nv' pv' : Value) (hy' : RdY w h' f' nv' pv') R hR => same15_calls f h h' f' nv pv nv' pv' ((w.alloc (.cells (tyL h nv pv).toArray 27)).alloc (.cells (tyL h' nv' pv').toArray 27)) hm hfl hga (hy.below (b2 _)) (hy'.below (b2 _)) R hR
  have nn : RdW w (.slice none 0 0) [] := RdG.none0 _ _ _
  have pn : RdP w (.slice none 0 0) .nil := RdSl.nil _ _ _
  have yn := hy.n
  have yp := hy.p
  obtain ⟨Ap, cp, rfl, -⟩ := hy.p.sl
  obtain ⟨An, cn, rfl, -, -⟩ := hy.n.op
  obtain ⟨k, at_, lo, hi, most, names, name, nat⟩ := h
  simp only at hm yn yp cO b2 hR
  replace b2 := Lib.hid b2
  replace nn := Lib.hid nn
  replace pn := Lib.hid pn
  replace yn := Lib.hid yn
  replace yp := Lib.hid yp
  clear hy hga hm hfl bA
  by_cases c2 : k = 2
  · subst c2
    go_enter Try.func19, Try.ntmps19
    go_wp2_with fail
    refine cO.out ⟨2, 0, lo, hi, 0, [], ⟨#[]⟩, 0⟩ .nil (.slice none 0 0) (.slice none 0 0) ⟨nn.out, pn.out⟩ _ (Lib.hid fun w3 n3 => ?_)
    have hq : sameS ⟨2, at_, lo, hi, most, names, name, nat⟩ f ⟨2, 0, lo, hi, 0, [], ⟨#[]⟩, 0⟩ .nil = ownB ⟨2, at_, lo, hi, most, names, name, nat⟩ f := by
      unfold sameS headB ownB
      simp only [sameF_nil, sameW_nil, sameW_refl, sameF_refl]
      rw [Bool.eq_iff_iff]
      simp [show ByteArray.empty = (⟨#[]⟩ : ByteArray) from rfl] <;> (constructor <;> (intro q; simp_all))
    have fin := Lib.hid (hR.out _ ((b2.out _).trans (n3.mono (b2.out _).size)))
    rw [← hq] at fin
    clear hR n3 cO b2 hq
    go_wp2_with fail
    exact fin.out
  by_cases c3 : k = 3
  · subst c3
    go_enter Try.func19, Try.ntmps19
    go_wp2_with fail
    refine cO.out ⟨3, 0, 0, 0, most, [], ⟨#[]⟩, 0⟩ .nil (.slice none 0 0) (.slice none 0 0) ⟨nn.out, pn.out⟩ _ (Lib.hid fun w3 n3 => ?_)
    have hq : sameS ⟨3, at_, lo, hi, most, names, name, nat⟩ f ⟨3, 0, 0, 0, most, [], ⟨#[]⟩, 0⟩ .nil = ownB ⟨3, at_, lo, hi, most, names, name, nat⟩ f := by
      unfold sameS headB ownB
      simp only [sameF_nil, sameW_nil, sameW_refl, sameF_refl]
      rw [Bool.eq_iff_iff]
      simp [show ByteArray.empty = (⟨#[]⟩ : ByteArray) from rfl] <;> (constructor <;> (intro q; simp_all))
    have fin := Lib.hid (hR.out _ ((b2.out _).trans (n3.mono (b2.out _).size)))
    rw [← hq] at fin
    clear hR n3 cO b2 hq
    go_wp2_with fail
    exact fin.out
  by_cases c4 : k = 4
  · subst c4
    go_enter Try.func19, Try.ntmps19
    go_wp2_with fail
    refine cO.out ⟨4, 0, 0, 0, 0, names, ⟨#[]⟩, 0⟩ .nil (.slice An names.length cn) (.slice none 0 0) ⟨yn.out, pn.out⟩ _ (Lib.hid fun w3 n3 => ?_)
    have hq : sameS ⟨4, at_, lo, hi, most, names, name, nat⟩ f ⟨4, 0, 0, 0, 0, names, ⟨#[]⟩, 0⟩ .nil = ownB ⟨4, at_, lo, hi, most, names, name, nat⟩ f := by
      unfold sameS headB ownB
      simp only [sameF_nil, sameW_nil, sameW_refl, sameF_refl]
      rw [Bool.eq_iff_iff]
      simp [show ByteArray.empty = (⟨#[]⟩ : ByteArray) from rfl] <;> (constructor <;> (intro q; simp_all))
    have fin := Lib.hid (hR.out _ ((b2.out _).trans (n3.mono (b2.out _).size)))
    rw [← hq] at fin
    clear hR n3 cO b2 hq
    go_wp2_with fail
    exact fin.out
  by_cases c5 : k = 5
  · subst c5
    go_enter Try.func19, Try.ntmps19
    go_wp2_with fail
    refine cO.out ⟨5, 0, 0, 0, most, [], ⟨#[]⟩, 0⟩ f (.slice none 0 0) (.slice Ap f.len cp) ⟨nn.out, yp.out⟩ _ (Lib.hid fun w3 n3 => ?_)
    have hq : sameS ⟨5, at_, lo, hi, most, names, name, nat⟩ f ⟨5, 0, 0, 0, most, [], ⟨#[]⟩, 0⟩ f = ownB ⟨5, at_, lo, hi, most, names, name, nat⟩ f := by
      unfold sameS headB ownB
      simp only [sameW_nil, sameW_refl, sameF_refl]
      rw [Bool.eq_iff_iff]
      simp [show ByteArray.empty = (⟨#[]⟩ : ByteArray) from rfl] <;> (constructor <;> (intro q; simp_all))
    have fin := Lib.hid (hR.out _ ((b2.out _).trans (n3.mono (b2.out _).size)))
    rw [← hq] at fin
    clear hR n3 cO b2 hq
    go_wp2_with fail
    exact fin.out
  by_cases c6 : k = 6
  · subst c6
    go_enter Try.func19, Try.ntmps19
    go_wp2_with fail
    refine cO.out ⟨6, 0, 0, 0, 0, [], ⟨#[]⟩, 0⟩ f (.slice none 0 0) (.slice Ap f.len cp) ⟨nn.out, yp.out⟩ _ (Lib.hid fun w3 n3 => ?_)
    have hq : sameS ⟨6, at_, lo, hi, most, names, name, nat⟩ f ⟨6, 0, 0, 0, 0, [], ⟨#[]⟩, 0⟩ f = ownB ⟨6, at_, lo, hi, most, names, name, nat⟩ f := by
      unfold sameS headB ownB
      simp only [sameW_nil, sameW_refl, sameF_refl]
      rw [Bool.eq_iff_iff]
      simp [show ByteArray.empty = (⟨#[]⟩ : ByteArray) from rfl] <;> (constructor <;> (intro q; simp_all))
    have fin := Lib.hid (hR.out _ ((b2.out _).trans (n3.mono (b2.out _).size)))
    rw [← hq] at fin
    clear hR n3 cO b2 hq
    go_wp2_with fail
    exact fin.out
  by_cases c7 : k = 7
  · subst c7
    go_enter Try.func19, Try.ntmps19
    go_wp2_with fail
    refine cO.out ⟨7, 0, 0, 0, 0, [], ⟨#[]⟩, 0⟩ f (.slice none 0 0) (.slice Ap f.len cp) ⟨nn.out, yp.out⟩ _ (Lib.hid fun w3 n3 => ?_)
    have hq : sameS ⟨7, at_, lo, hi, most, names, name, nat⟩ f ⟨7, 0, 0, 0, 0, [], ⟨#[]⟩, 0⟩ f = ownB ⟨7, at_, lo, hi, most, names, name, nat⟩ f := by
      unfold sameS headB ownB
      simp only [sameW_nil, sameW_refl, sameF_refl]
      rw [Bool.eq_iff_iff]
      simp [show ByteArray.empty = (⟨#[]⟩ : ByteArray) from rfl] <;> (constructor <;> (intro q; simp_all))
    have fin := Lib.hid (hR.out _ ((b2.out _).trans (n3.mono (b2.out _).size)))
    rw [← hq] at fin
    clear hR n3 cO b2 hq
    go_wp2_with fail
    exact fin.out
  by_cases c8 : k = 8
  · subst c8
    go_enter Try.func19, Try.ntmps19
    go_wp2_with fail
    refine cO.out ⟨8, 0, 0, 0, 0, [], ⟨#[]⟩, 0⟩ f (.slice none 0 0) (.slice Ap f.len cp) ⟨nn.out, yp.out⟩ _ (Lib.hid fun w3 n3 => ?_)
    have hq : sameS ⟨8, at_, lo, hi, most, names, name, nat⟩ f ⟨8, 0, 0, 0, 0, [], ⟨#[]⟩, 0⟩ f = ownB ⟨8, at_, lo, hi, most, names, name, nat⟩ f := by
      unfold sameS headB ownB
      simp only [sameW_nil, sameW_refl, sameF_refl]
      rw [Bool.eq_iff_iff]
      simp [show ByteArray.empty = (⟨#[]⟩ : ByteArray) from rfl] <;> (constructor <;> (intro q; simp_all))
    have fin := Lib.hid (hR.out _ ((b2.out _).trans (n3.mono (b2.out _).size)))
    rw [← hq] at fin
    clear hR n3 cO b2 hq
    go_wp2_with fail
    exact fin.out
  by_cases c9 : k = 9
  · subst c9
    go_enter Try.func19, Try.ntmps19
    go_wp2_with fail
    refine cO.out ⟨9, 0, 0, 0, 0, [], name, nat⟩ .nil (.slice none 0 0) (.slice none 0 0) ⟨nn.out, pn.out⟩ _ (Lib.hid fun w3 n3 => ?_)
    have hq : sameS ⟨9, at_, lo, hi, most, names, name, nat⟩ f ⟨9, 0, 0, 0, 0, [], name, nat⟩ .nil = ownB ⟨9, at_, lo, hi, most, names, name, nat⟩ f := by
      unfold sameS headB ownB
      simp only [sameF_nil, sameW_nil, sameW_refl, sameF_refl]
      rw [Bool.eq_iff_iff]
      simp [show ByteArray.empty = (⟨#[]⟩ : ByteArray) from rfl] <;> (constructor <;> (intro q; simp_all))
    have fin := Lib.hid (hR.out _ ((b2.out _).trans (n3.mono (b2.out _).size)))
    rw [← hq] at fin
    clear hR n3 cO b2 hq
    go_wp2_with fail
    exact fin.out
  by_cases c10 : 4 < k
  · have c11 : 9 < k := by omega
    have q2 : (k == 2) = false := by simpa using c2
    have q3 : (k == 3) = false := by simpa using c3
    have q4 : (k == 4) = false := by simpa using c4
    have q5 : (k == 5) = false := by simpa using c5
    have q9 : (k == 9) = false := by simpa using c9
    have c5x : ¬ (4 < k ∧ k < 9) := by omega
    go_enter Try.func19, Try.ntmps19
    go_wp2_with fail
    refine cO.out ⟨k, 0, 0, 0, 0, [], ⟨#[]⟩, 0⟩ .nil (.slice none 0 0) (.slice none 0 0) ⟨nn.out, pn.out⟩ _ (Lib.hid fun w3 n3 => ?_)
    have hq : sameS ⟨k, at_, lo, hi, most, names, name, nat⟩ f ⟨k, 0, 0, 0, 0, [], ⟨#[]⟩, 0⟩ .nil = ownB ⟨k, at_, lo, hi, most, names, name, nat⟩ f := by
      unfold sameS headB ownB
      simp only [sameF_nil, sameW_nil, sameW_refl, sameF_refl]
      rw [Bool.eq_iff_iff]
      simp [show ByteArray.empty = (⟨#[]⟩ : ByteArray) from rfl, c2, c3, c4, c9, c5x] <;> (constructor <;> (intro q; simp_all))
    have fin := Lib.hid (hR.out _ ((b2.out _).trans (n3.mono (b2.out _).size)))
    rw [← hq] at fin
    clear hR n3 cO b2 hq
    go_wp2_with fail
    exact fin.out
  · skip
    have q2 : (k == 2) = false := by simpa using c2
    have q3 : (k == 3) = false := by simpa using c3
    have q4 : (k == 4) = false := by simpa using c4
    have q5 : (k == 5) = false := by simpa using c5
    have q9 : (k == 9) = false := by simpa using c9
    have c5x : ¬ (4 < k ∧ k < 9) := by omega
    go_enter Try.func19, Try.ntmps19
    go_wp2_with fail
    refine cO.out ⟨k, 0, 0, 0, 0, [], ⟨#[]⟩, 0⟩ .nil (.slice none 0 0) (.slice none 0 0) ⟨nn.out, pn.out⟩ _ (Lib.hid fun w3 n3 => ?_)
    have hq : sameS ⟨k, at_, lo, hi, most, names, name, nat⟩ f ⟨k, 0, 0, 0, 0, [], ⟨#[]⟩, 0⟩ .nil = ownB ⟨k, at_, lo, hi, most, names, name, nat⟩ f := by
      unfold sameS headB ownB
      simp only [sameF_nil, sameW_nil, sameW_refl, sameF_refl]
      rw [Bool.eq_iff_iff]
      simp [show ByteArray.empty = (⟨#[]⟩ : ByteArray) from rfl, c2, c3, c4, c9, c5x] <;> (constructor <;> (intro q; simp_all))
    have fin := Lib.hid (hR.out _ ((b2.out _).trans (n3.mono (b2.out _).size)))
    rw [← hq] at fin
    clear hR n3 cO b2 hq
    go_wp2_with fail
    exact fin.out
end Go.Proofs.Ytpepomnkoghjpaa.Kin
