/-
  The statement of the law LatticeUndoes: for every input the law returns true and leaves its input alone. No condition.
-/
import Derived.Test.YtoeianacjnlepaaRows
import Derived.Test.YtoeianacjnlepaaLatH
import Derived.WalkKit
import Derived.ProofKit
import Derived.OpenShut
import Derived.ShutString
import Derived.ChangeOld
import Derived.Below
import Derived.SizedLaws
namespace Go.Proofs.Ytoeianacjnlepaa.latticeUndoes
open Go.ChangeShapes Go.WideShapes Go.ChangeAt Go.RowKit
open Go.ChangeMaps (open_string shut_string)
set_option linter.unusedVariables false

theorem own : ownKnob Try.prog.godebug = none := by kernel_rfl
theorem laidOut : laidOutB Try.prog = true := by kernel_rfl

set_option maxRecDepth 100000 in
theorem lifted (os : Os) (started : os.Started) (H : Type) (enc : TypeId × Value → H) :
    ReturnsInHanded {} Try.checked os 6 .any (Rows.latticeUndoesSpec.pre6 enc Try.prog Try.f6 Rows.latticeUndoesRow.domain false) (Rows.latticeUndoesSpec.post enc Try.prog Try.f6 false true false false) := by
  refine returnsInHanded_of_change_sized (C := Try.checked) own started (by kernel_rfl) Try.func6
    (ChangeSpec.witness6 (enc := enc) (C := Try.checked) false ⟨#[], #[.slice none 0 0, .slice none 0 0, .agg #[.int .i64 0, .int .i64 0, .int .i64 0]], []⟩ 8 (by kernel_rfl) (by kernel_rfl) (by kernel_rfl) (by kernel_rfl)) ?_
  intro W base args ds gs before hval0 hW hcnd hsize _
  have hval : ∀ (j : Nat) t v, Try.f6.params[j]? = some t → args[j]? = some v → Value.okWide Try.prog W .any base t v := hval0
  have hW' := hW
  obtain ⟨p, q, hA0, hV, rfl, hfz, hnd⟩ := hW
  have hA : DataW.TrodAll enc Try.prog W 0 (fun _ => true) true Try.f6.params.toList args.toList ds p := hA0
  rw [Try.params6] at hA hval
  obtain ⟨v0, vs0, d0, ds0, p0, q0, hargs, rfl, rfl, h0, r0⟩ := trodAll_cons hA
  obtain ⟨v1, vs1, d1, ds1, p1, q1, rfl, rfl, rfl, h1, r1⟩ := trodAll_cons r0
  obtain ⟨v2, vs2, d2, ds2, p2, q2, rfl, rfl, rfl, h2, r2⟩ := trodAll_cons r1
  obtain ⟨rfl, rfl, rfl⟩ := trodAll_nil r2
  obtain rfl : args = #[v0, v1, v2] := by cases args; simp_all
  obtain ⟨rfl, rfl⟩ := trodVars_none hV
  have k0 := h0
  have lt0 : ∀ x ∈ p0, x.block < W.heap.size := by obtain ⟨m, hm⟩ := k0; exact DataW.trod_lt m _ _ _ hm
  have k1 := h1
  have lt1 : ∀ x ∈ p1, x.block < W.heap.size := by obtain ⟨m, hm⟩ := k1; exact DataW.trod_lt m _ _ _ hm
  have k2 := h2
  have lt2 : ∀ x ∈ p2, x.block < W.heap.size := by obtain ⟨m, hm⟩ := k2; exact DataW.trod_lt m _ _ _ hm
  obtain ⟨x0, w0, f0, s0⟩ := Lat.arg_words (hval 0 22 v0 rfl rfl) h0
  have b0 : x0.length * 24 < 2 ^ 47 := by
    rcases s0 with rfl | ⟨es, sp, e, hl⟩
    · simp
    · have h1 := sized_slice hsize (j := 0) (by rw [Try.params6]; rfl) (by rw [e]; rfl) Try.underlying22
      have h2 : Try.checked.prog.bytesOf 50 = 24 := by kernel_rfl
      rw [h2] at h1
      have h3 := reachBytes_lt
      omega
  obtain ⟨x1, w1, f1, s1⟩ := Lat.arg_prs (hval 1 23 v1 rfl rfl) h1
  have b1 : x1.length * 48 < 2 ^ 47 := by
    rcases s1 with rfl | ⟨es, sp, e, hl⟩
    · simp
    · have h1 := sized_slice hsize (j := 1) (by rw [Try.params6]; rfl) (by rw [e]; rfl) Try.underlying23
      have h2 : Try.checked.prog.bytesOf 78 = 48 := by kernel_rfl
      rw [h2] at h1
      have h3 := reachBytes_lt
      omega
  obtain ⟨x2, rfl, w2⟩ := Rel.arg_arr3 (hval 2 55 v2 rfl rfl) h2
  clear hA0 hval0
  have walk : Calls Try.prog 6 #[v0, v1, .agg #[.int .i64 x2.1, .int .i64 x2.2.1, .int .i64 x2.2.2]] W fun e w' => e = .returned (.bool true) ∧ Below W.heap.size W w' := Lat.undoes11_walk x0 x1 x2.1 x2.2.1 x2.2.2 w2.1 w2.2.1 w2.2.2 v0 v1 W w0 w1 f0 f1 (by unfold maxLen; omega) (by unfold maxLen; omega) _ (Lib.hid fun _ h => ⟨rfl, h⟩)
  refine walk.mono fun e W' ⟨he, bel⟩ => ?_
  subst he
  exact ⟨_, rfl, _, _, _, [], _, [], hW', trodAll_mk1 (shut_bool Try.underlying4 _), (trodAll_cons_mk (Below.trod laidOut (by kernel_rfl) (of_decide_eq_true (by kernel_rfl)) k0 bel lt0) (trodAll_cons_mk (Below.trod laidOut (by kernel_rfl) (of_decide_eq_true (by kernel_rfl)) k1 bel lt1) (trodAll_cons_mk (Below.trod laidOut (by kernel_rfl) (of_decide_eq_true (by kernel_rfl)) k2 bel lt2) trodAll_mk0))), rfl, bel.frame _, fun h => by cases h⟩

theorem over : Rows.latticeUndoesRow.holds Try.pinned (OpenSpec.ofChange Rows.latticeUndoesSpec) :=
  OpenClaim.holds_of_wide 6 Try.f6 rfl rfl rfl rfl rfl rfl rfl ⟨rfl, rfl, rfl, rfl, rfl⟩ rfl rfl rfl rfl rfl (by kernel_rfl) Try.func6 (by kernel_rfl)
    (of_decide_eq_true (by kernel_rfl)) (by unfold Func.isWrapper; first | (rw [if_pos (by decide +kernel)]; kernel_rfl) | (rw [if_neg (by decide +kernel)]; exact ⟨rfl, rfl⟩))
    (fun os started H enc _ => lifted os started H enc)

theorem proved : Rows.LatticeUndoesSaid := over
#print axioms proved
end Go.Proofs.Ytoeianacjnlepaa.latticeUndoes
