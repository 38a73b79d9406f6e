/- A slice of ranges that came in, opened. -/
import Derived.Test.YtdikcogacopajaaRanA
import Derived.Deep.SlicePairs
import Derived.ProofKit
import Derived.OpenShut
import Derived.SizedLaws
set_option linter.unusedVariables false
namespace Go.Proofs.Ytdikcogacopajaa.Ran
open Go.RowKit Go.Lib Go.ChangeShapes Go.WideShapes Go.Deep

theorem arg_rgs {H : Type} {enc' : TypeId × Value → H} {W : World} {base : Nat} {v : Value} {d : DataW H} {p : List MemPlace} (hv : Value.okWide Try.prog W .any base 22 v)
    (h : DataW.Trod enc' Try.prog W 0 (fun _ => true) true 22 v d p) : ∃ xs : List Rg, RdR W v xs ∧ Fit xs ∧ (xs = [] ∨ ∃ es sp, d = .slice es sp ∧ es.length = xs.length) := by
  obtain ⟨a, len, cap, rfl⟩ := okWide_slice Try.underlying22 hv
  obtain ⟨fuel, hf⟩ := h
  rcases open_slice_pairs Try.underlying22 Try.underlying36 (by kernel_rfl) rfl rfl (by kernel_rfl) (by kernel_rfl) hf with ⟨hcs, hx⟩ | ⟨a', len', cap', m, n, V0, V1, D0, D1, P0, P1, hcs, hb, hl, hm, hmm, hx, hi⟩
  · simp [Value.cells] at hcs
    obtain ⟨rfl, rfl, rfl⟩ := hcs
    exact ⟨[], ⟨none, 0, 0, rfl, rfl, Nat.le_refl _, fun h => absurd h (by simp [flat])⟩, fun k hk => by simp at hk, .inl rfl⟩
  · simp [Value.cells] at hcs
    obtain ⟨rfl, rfl, rfl⟩ := hcs
    simp only [if_true] at hmm
    subst hmm
    have key : ∀ i, ∃ g : Rg, i < m → W.cell? (a'.add (i * 2)) = some (.int .i32 g.1) ∧ W.cell? (a'.add (i * 2 + 1)) = some (.int .i32 g.2) ∧ (Lit.int .i32 g.1).wf = true ∧ (Lit.int .i32 g.2).wf = true := by
      intro i
      by_cases hlt : i < m
      · obtain ⟨e0, e1, t0, t1⟩ := hi i hlt
        obtain ⟨n0, h0, -, w0⟩ := DataW.trod_int Try.underlying21 t0
        obtain ⟨n1, h1, -, w1⟩ := DataW.trod_int Try.underlying21 t1
        simp at h0 h1
        rw [h0] at e0
        rw [h1] at e1
        exact ⟨(n0, n1), fun _ => ⟨e0, e1, w0, w1⟩⟩
      · exact ⟨(0, 0), fun h => absurd h hlt⟩
    let G : Nat → Rg := fun i => (key i).choose
    have hG : ∀ i, i < m → W.cell? (a'.add (i * 2)) = some (.int .i32 (G i).1) ∧ W.cell? (a'.add (i * 2 + 1)) = some (.int .i32 (G i).2) ∧ (Lit.int .i32 (G i).1).wf = true ∧ (Lit.int .i32 (G i).2).wf = true := fun i h => (key i).choose_spec h
    have hxs : ((List.range len).map G).length = len := by simp
    have hgd : ∀ k, k < len → ((List.range len).map G).getD k (0, 0) = G k := fun k hk => by simp [List.getD, hk]
    refine ⟨(List.range len).map G, ?_, ?_, ?_⟩
    · refine ⟨some a', len, m, rfl, by rw [flat_len, hxs], hl, fun h0 => ?_⟩
      rw [flat_len, hxs] at h0
      have hc := (hG 0 (by omega)).1
      obtain ⟨b, off, spot⟩ := a'
      have hspot : spot = none := by simpa [Addr.add] using World.cell?_spot hc
      subst hspot
      have ad : ∀ j, (⟨b, off, none⟩ : Addr).add j = ⟨b, off + j, none⟩ := fun j => by unfold Addr.add; split <;> simp_all
      refine ⟨b, off, rfl, by have := World.block_lt_of_cell? W _ hc; rw [ad] at this; exact this, fun j u hj => ?_⟩
      have hj2 : j < len * 2 := by have := (List.getElem?_eq_some_iff.1 hj).1; rwa [flat_len, hxs] at this
      have hk : j / 2 < len := by omega
      obtain ⟨f0, f1⟩ := flat_get ((List.range len).map G) (j / 2) (by rw [hxs]; exact hk)
      rw [hgd _ hk] at f0 f1
      obtain ⟨e0, e1, -, -⟩ := hG (j / 2) (by omega)
      rw [ad] at e0 e1
      rcases Nat.mod_two_eq_zero_or_one j with h2 | h2
      · rw [show j / 2 * 2 = j by omega] at f0 e0
        rw [f0] at hj
        rw [e0, ← hj]
      · rw [show j / 2 * 2 + 1 = j by omega] at f1 e1
        rw [f1] at hj
        rw [e1, ← hj]
    · intro k hk
      rw [hxs] at hk
      rw [hgd k hk]
      obtain ⟨-, -, w0, w1⟩ := hG k (by omega)
      have wf : ∀ n : Int, (Lit.int .i32 n).wf = true → -2147483648 ≤ n ∧ n ≤ 2147483647 := fun n hn => by
        simp only [Lit.wf, Bool.and_eq_true, decide_eq_true_eq] at hn
        have e1 : IntKind.i32.min = -2147483648 := by decide
        have e2 : IntKind.i32.max = 2147483647 := by decide
        rw [e1, e2] at hn; exact hn
      have := wf _ w0
      have := wf _ w1
      omega
    · simp only [Prod.mk.injEq] at hx
      exact .inr ⟨_, _, hx.1, by simp⟩
end Go.Proofs.Ytdikcogacopajaa.Ran
