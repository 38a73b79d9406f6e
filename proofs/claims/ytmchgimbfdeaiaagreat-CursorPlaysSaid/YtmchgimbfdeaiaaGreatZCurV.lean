/- Layer 14: does, all kinds together; what it keeps. -/
import Derived.Test.YtmchgimbfdeaiaaGreatG14
import Derived.Test.YtmchgimbfdeaiaaGreatG15
import Derived.Test.YtmchgimbfdeaiaaGreatZCurU
set_option maxRecDepth 100000
set_option linter.unusedVariables false
namespace Go.Proofs.YtmchgimbfdeaiaaGreat.Cur
open Go.RowKit Go.Lib Go.Proofs.YtmchgimbfdeaiaaGreat.Utf Go.Proofs.YtmchgimbfdeaiaaGreat.Tok

theorem doS_calls (c : Cu) (v : Value) (p : Nat) (o : Oc) (w : World) (b : Nat) (cp : CurG w p c b) (hx : RdK (cutW w p) v c.1) (hl : EndL c.1) (hll : c.1.length ≤ 1000000) (hd : 0 ≤ c.2.1 ∧ c.2.1 ≤ 24) (R : Ending → World → Prop)
    (hR : Hid (∀ v' w' b', RdK (cutW w p) v' (doS c o).1 → (b' = b ∨ w.heap.size ≤ b') → CurG w' p (doS c o) b' → w.grownBy w' (some p) → R (.returned (.tuple #[cuV v' (doS c o), .bool true])) w')) :
    Calls Tryz.prog 7 #[ptV p, cuV v c, .agg #[.int .i64 o.1, .int .i64 o.2.1, .int .i64 o.2.2.1, .string o.2.2.2]] w R := by
  obtain ⟨K, n, a, x⟩ := o
  by_cases k1 : K = 1
  · subst k1
    have e : doS c (1, n, a, x) = nextS c := by simp [doS]
    rw [e] at hR
    exact does1_calls c v p n a x w b cp hx hl hll hd R hR
  by_cases k2 : K = 2
  · subst k2
    have e : doS c (2, n, a, x) = takeS c 4 x false := by simp [doS]
    rw [e] at hR
    exact does2_calls c v p n a x w b cp hx hl hll hd R hR
  by_cases k3 : K = 3
  · subst k3
    have e : doS c (3, n, a, x) = takeS c 1 x false := by simp [doS]
    rw [e] at hR
    exact does3_calls c v p n a x w b cp hx hl hll hd R hR
  by_cases k4 : K = 4
  · subst k4
    have e : doS c (4, n, a, x) = takeS c n ⟨#[]⟩ true := by simp [doS]
    rw [e] at hR
    have hh : hasS c n ⟨#[]⟩ true = decide ((peekS c).1 = n) := by simp [hasS]
    by_cases h1 : (peekS c).1 = n
    · rw [decide_eq_true h1] at hh
      have ht : takeS c n ⟨#[]⟩ true = nextS c := if_pos hh
      by_cases h0 : n = 0
      · have hz : (peekS c).1 = 0 := h1.trans h0
        exact does4b_calls c v p n a x w b cp hx hl hll hd hh (ht.trans (next_same hz)) (fun q => q.1 h0) hz R hR
      · exact does4a_calls c v p n a x w b cp hx hl hll hd hh ht ⟨h0, h1⟩ (fun q => h0 (h1.symm.trans q)) R hR
    · rw [decide_eq_false h1] at hh
      have ht : takeS c n ⟨#[]⟩ true = c := if_neg (by rw [hh]; decide)
      exact does4c_calls c v p n a x w b cp hx hl hll hd hh ht (fun q => h1 q.2) R hR
  by_cases k5 : K = 5
  · subst k5
    have e : doS c (5, n, a, x) = needS c x := by simp [doS]
    rw [e] at hR
    by_cases hh : hasS c 4 x false = true
    · exact does5_calls c v p n a x w b cp hx hl hll hd hh R hR
    · replace hh := Bool.eq_false_iff.2 hh
      by_cases hz : (peekS c).1 = 0
      · exact does5z_calls c v p n a x w b cp hx hl hll hd hh hz R hR
      · exact does5n_calls c v p n a x w b cp hx hl hll hd hh hz R hR
  by_cases k6 : K = 6
  · subst k6
    have e : doS c (6, n, a, x) = failS c n (peekS c).2.1 := by simp [doS]
    rw [e] at hR
    exact does6_calls c v p n a x w b cp hx hl hll hd R hR
  by_cases k7 : K = 7
  · subst k7
    have e : doS c (7, n, a, x) = failS c n a := by simp [doS]
    rw [e] at hR
    exact does7_calls c v p n a x w b cp hx hl hll hd R hR
  by_cases k8 : K = 8
  · subst k8
    have e : doS c (8, n, a, x) = enterS c := by simp [doS]
    rw [e] at hR
    by_cases hz : c.2.1 < 24
    · exact does8_calls c v p n a x w b cp hx hl hll hd hz R hR
    · exact does8n_calls c v p n a x w b cp hx hl hll hd hz R hR
  by_cases k9 : K = 9
  · subst k9
    have e : doS c (9, n, a, x) = leaveS c := by simp [doS]
    rw [e] at hR
    by_cases hz : 0 < c.2.1
    · exact does9_calls c v p n a x w b cp hx hl hll hd hz R hR
    · exact does9n_calls c v p n a x w b cp hx hl hll hd hz R hR
  have e : doS c (K, n, a, x) = c := by simp [doS, k1, k2, k3, k4, k5, k6, k7, k8, k9]
  rw [e] at hR
  exact does0_calls c v p K n a ⟨k1, k2, k3, k4, k5, k6, k7, k8, k9⟩ x w b cp hx hl hll hd R hR
/-- What a step keeps. -/
def Okd (c c' : Cu) : Prop := EndL c'.1 ∧ c'.1.length ≤ c.1.length ∧ 0 ≤ c'.2.1 ∧ c'.2.1 ≤ 24
theorem okd_self {c : Cu} (hl : EndL c.1) (hd : 0 ≤ c.2.1 ∧ c.2.1 ≤ 24) : Okd c c := ⟨hl, Nat.le_refl _, hd⟩
theorem okd_next {c : Cu} (hl : EndL c.1) (hd : 0 ≤ c.2.1 ∧ c.2.1 ≤ 24) : Okd c (nextS c) := by
  refine ⟨next_ok hl, ?_, ?_⟩
  · unfold nextS
    split
    · exact Nat.le_refl _
    · simp
  · unfold nextS
    split <;> exact hd
theorem okd_fail {c : Cu} (e z : Int) (hl : EndL c.1) (hd : 0 ≤ c.2.1 ∧ c.2.1 ≤ 24) : Okd c (failS c e z) := by
  unfold failS
  split
  · exact okd_self hl hd
  · exact ⟨hl, Nat.le_refl _, hd⟩
theorem okd_do {c : Cu} (o : Oc) (hl : EndL c.1) (hd : 0 ≤ c.2.1 ∧ c.2.1 ≤ 24) : Okd c (doS c o) := by
  have ht : ∀ k x any, Okd c (takeS c k x any) := fun k x any => by
    unfold takeS
    split
    · exact okd_next hl hd
    · exact okd_self hl hd
  unfold doS
  split; · exact okd_next hl hd
  split; · exact ht _ _ _
  split; · exact ht _ _ _
  split; · exact ht _ _ _
  split
  · unfold needS
    split
    · exact okd_next hl hd
    · exact okd_fail _ _ hl hd
  split; · exact okd_fail _ _ hl hd
  split; · exact okd_fail _ _ hl hd
  split
  · unfold enterS
    split
    · exact ⟨hl, Nat.le_refl _, by simp only; omega, by simp only; omega⟩
    · exact okd_fail _ _ hl hd
  split
  · unfold leaveS
    split
    · exact ⟨hl, Nat.le_refl _, by simp only; omega, by simp only; omega⟩
    · exact okd_self hl hd
  exact okd_self hl hd
/-- A row of tokens lies apart from a block that ends in a number. -/
theorem rdk_apart4 {w : World} {g o n k q : Nat} {l : List Tk} (h : RdK w (.slice (some ⟨g, o, none⟩) n k) l) (hl : EndL l) {a b d e : Value} {t : TypeId} (he : ∀ s, e ≠ .string s) (hq : w.heap[q]? = some (.cells #[a, b, d, e] t)) : g ≠ q := by
  rintro rfl
  obtain ⟨-, -, -, -, -, -, h3, -⟩ := rdk_first h hl
  rw [Lib.cell_of_heap hq] at h3
  match o, h3 with
  | 0, h3 => exact he _ (by simpa using h3)
  | n + 1, h3 => simp at h3
theorem rd_cut4 {w : World} {v : Value} {q : Nat} {l : List Tk} (h : RdK w v l) (hl : EndL l) {a b d e : Value} {t : TypeId} (he : ∀ s, e ≠ .string s) (hq : w.heap[q]? = some (.cells #[a, b, d, e] t)) : RdK (cutW w q) v l := by
  obtain ⟨A, k, rfl, -, hr⟩ := h.op
  obtain ⟨g, o, rfl, -, -⟩ := hr (List.length_pos_iff.2 hl.ne)
  have := rdk_apart4 h hl he hq
  exact rdk_blk h (cut_ne this) (Nat.le_of_eq (cut_size w q).symm)
/-- A row stays read when a block that ends in a number is written. -/
theorem rd_four {w : World} {v : Value} {q : Nat} {l : List Tk} (h : RdK w v l) (hl : EndL l) {a b d e : Value} {t : TypeId} (he : ∀ s, e ≠ .string s) (hq : w.heap[q]? = some (.cells #[a, b, d, e] t)) (a1 a2 a3 a4 : Value) :
    RdK ((((w.setCell ⟨q, 0, none⟩ a1).setCell ⟨q, 1, none⟩ a2).setCell ⟨q, 2, none⟩ a3).setCell ⟨q, 3, none⟩ a4) v l := by
  obtain ⟨A, k, rfl, -, hr⟩ := h.op
  obtain ⟨g, o, rfl, -, -⟩ := hr (List.length_pos_iff.2 hl.ne)
  have hne := rdk_apart4 h hl he hq
  exact rdk_blk h ((set_ne hne).trans ((set_ne hne).trans ((set_ne hne).trans (set_ne hne)))) (Nat.le_of_eq (by rw [set_size, set_size, set_size, set_size]))
end Go.Proofs.YtmchgimbfdeaiaaGreat.Cur
