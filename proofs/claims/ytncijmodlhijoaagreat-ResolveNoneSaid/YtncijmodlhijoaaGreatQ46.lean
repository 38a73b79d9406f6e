import Derived.Test.YtncijmodlhijoaaGreatQ45
set_option linter.unusedVariables false
set_option maxRecDepth 100000
set_option maxHeartbeats 4000000
namespace Go.Proofs.YtncijmodlhijoaaGreat.Res
open Go.RowKit Go.Lib Utf Nam Lat Kin Unp Rel Lab
def bs0 : BS := ⟨0, 0, .slice none 0 0, [], .slice none 0 0, [], fun _ => False⟩
noncomputable def bldS (s : Sc) : Int × Int :=
  if (wrongS s.1 s.2.1).1 ≠ 0 then wrongS s.1 s.2.1 else
  if (nmC s.2.2.1).1 ≠ 0 then nmC s.2.2.1 else (chkB (nms s.1) (leqF s.1 s.2.1) s.2.2.1 bs0 s.2.2.2.1 s.2.2.2.2).1
theorem each_inv {op : BS → TH → Ft → (Int × Int) × BS} {P : BS → Prop} (h : ∀ s a b, P s → P (op s a b).2) : ∀ (l : List Nd) (s : BS) (a : TH) (b : Ft), P s → P (eachS op s l a b).2
  | [], s, a, b, q => h s a b q
  | x :: l, s, a, b, q => by
    show P (if (op s x.2.1 x.2.2).1.1 ≠ 0 then op s x.2.1 x.2.2 else eachS op (op s x.2.1 x.2.2).2 l a b).2
    split
    · exact h _ _ _ q
    · exact each_inv h l _ a b (h _ _ _ q)
theorem inF_inv {op : BS → TH → Ft → (Int × Int) × BS} {P : BS → Prop} (h : ∀ s a b, P s → P (op s a b).2) : ∀ (f : Ft) (s : BS), P s → P (inF op s f).2
  | .nil, s, q => q
  | .cons p x k r, s, q => by
    show P (if p.bare = true then inF op s r else if (op s x k).1.1 ≠ 0 then op s x k else if (inF op (op s x k).2 k).1.1 ≠ 0 then inF op (op s x k).2 k else inF op (inF op (op s x k).2 k).2 r).2
    split
    · exact inF_inv h r s q
    · split
      · exact h _ _ _ q
      · split
        · exact inF_inv h k _ (h _ _ _ q)
        · exact inF_inv h r _ (inF_inv h k _ (h _ _ _ q))
theorem chk_inv {nm : List ByteArray} {F : Nat → Nat → Bool} {tys : List Nd} {s : BS} {h : TH} {f : Ft} : ∃ t, (chkB nm F tys s h f).2 = { s with total := t } := by
  have hk : ∀ s' a b, (∃ t, s' = { s with total := t }) → ∃ t, (kindsS s' a b).2 = { s with total := t } := fun s' a b ⟨t, e⟩ => by
    subst e
    unfold kindsS
    split
    · exact ⟨t, rfl⟩
    · split
      · exact ⟨_, rfl⟩
      · exact ⟨_, rfl⟩
  have hw : ∀ s' a b, (∃ t, s' = { s with total := t }) → ∃ t, (inT (wordsS nm F (nms (tw tys))) s' a b).2 = { s with total := t } := fun s' a b q => by
    unfold inT
    split
    · exact q
    · exact inF_inv (P := fun s' => ∃ t, s' = { s with total := t }) (fun _ _ _ q => q) b _ q
  have h1 := each_inv (P := fun s' => ∃ t, s' = { s with total := t }) hk tys s h f ⟨s.total, rfl⟩
  have h2 := each_inv (P := fun s' => ∃ t, s' = { s with total := t }) hw tys _ h f h1
  unfold chkB
  split
  · exact h1
  · split
    · exact h2
    · exact h2
theorem kindsS_cnt {s : BS} {h : TH} {f : Ft} (e : (kindsS s h f).1.1 = 0) : Kin.cntF f ≤ 512 := by
  unfold kindsS at e
  by_cases c : (wcS h f).1 ≠ 0
  · rw [if_pos c] at e; exact absurd e c
  · have := (wc_ok (Classical.not_not.1 c)).2.1
    omega
theorem each_cnt : ∀ (l : List Nd) (s : BS) {h : TH} {f : Ft}, (eachS kindsS s l h f).1.1 = 0 → (∀ x ∈ l, Kin.cntF x.2.2 ≤ 512) ∧ Kin.cntF f ≤ 512
  | [], s, h, f, e => ⟨by simp, kindsS_cnt e⟩
  | x :: l, s, h, f, e => by
    have e' : (if (kindsS s x.2.1 x.2.2).1.1 ≠ 0 then kindsS s x.2.1 x.2.2 else eachS kindsS (kindsS s x.2.1 x.2.2).2 l h f).1.1 = 0 := e
    by_cases c : (kindsS s x.2.1 x.2.2).1.1 ≠ 0
    · rw [if_pos c] at e'; exact absurd e' c
    · rw [if_neg c] at e'
      obtain ⟨h1, h2⟩ := each_cnt l _ e'
      refine ⟨fun y hy => ?_, h2⟩
      rcases List.mem_cons.1 hy with rfl | hy
      · exact kindsS_cnt (s := s) (by simpa using c)
      · exact h1 y hy
theorem chk_kinds {nm : List ByteArray} {F : Nat → Nat → Bool} {tys : List Nd} {s : BS} {h : TH} {f : Ft} (e : (chkB nm F tys s h f).1.1 = 0) : (eachS kindsS s tys h f).1.1 = 0 := by
  unfold chkB at e
  by_cases c : (eachS kindsS s tys h f).1.1 ≠ 0
  · rw [if_pos c] at e; exact absurd e c
  · exact Classical.not_not.1 c
theorem nmC_len {l : List Nd} (e : (nmC l).1 = 0) : l.length ≤ 64 := by
  unfold nmC at e
  by_cases c : 64 < l.length
  · rw [if_pos c] at e; exact absurd e (by show ¬ (8 : Int) = 0; decide)
  · omega
end Go.Proofs.YtncijmodlhijoaaGreat.Res
