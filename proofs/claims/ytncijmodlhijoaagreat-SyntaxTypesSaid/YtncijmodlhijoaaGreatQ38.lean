import Derived.Test.YtncijmodlhijoaaGreatQ29
import Derived.Test.YtncijmodlhijoaaGreatQ37
import Derived.Test.YtncijmodlhijoaaGreatQ34
import Derived.Test.YtncijmodlhijoaaGreatQ30
import Derived.Test.YtncijmodlhijoaaGreatQ2
import Derived.Test.YtncijmodlhijoaaGreatQ33
import Derived.Test.YtncijmodlhijoaaGreatQ0
import Derived.Test.YtncijmodlhijoaaGreatQ7
import Derived.Deep.DeepCutAuto
set_option linter.unusedVariables false
set_option maxRecDepth 100000
set_option maxHeartbeats 4000000
namespace Go.Proofs.YtncijmodlhijoaaGreat.Tok
open Go.Shelf Go.RowKit Go.Lib Utf Ran Cel Esc Dig Nam Pat
theorem blank_calls (c : Nat) (hc : c < 256) (w : World) (R : Ending → World → Prop)
  (hR : Hid (∀ w', Below w.heap.size w w' → R (.returned (.bool (blankB c))) w')) : Calls Tryz.prog 209 #[.int .u8 c] w R := by
 have fin := hR.out w (Below.refl _ _)
 clear hR
 unfold blankB at fin
 by_cases h0 : c = 9
 ·subst h0
  replace fin := Lib.hid fin
  go_enter Tryz.func209, Tryz.ntmps209
  go_wp2_with fail
  exact fin.out
 by_cases h1 : c = 10
 ·subst h1
  replace fin := Lib.hid fin
  go_enter Tryz.func209, Tryz.ntmps209
  go_wp2_with fail
  exact fin.out
 by_cases h2 : c = 13
 ·subst h2
  replace fin := Lib.hid fin
  go_enter Tryz.func209, Tryz.ntmps209
  go_wp2_with fail
  exact fin.out
 by_cases h3 : c = 32
 ·subst h3
  replace fin := Lib.hid fin
  go_enter Tryz.func209, Tryz.ntmps209
  go_wp2_with fail
  exact fin.out
 rw [decide_eq_false (by omega)] at fin
 replace fin := Lib.hid fin
 have q0 : ((c : Int) == 9) = false := by simp; omega
 have q1 : ((c : Int) == 10) = false := by simp; omega
 have q2 : ((c : Int) == 13) = false := by simp; omega
 have q3 : ((c : Int) == 32) = false := by simp; omega
 clear h0 h1 h2 h3
 go_enter Tryz.func209, Tryz.ntmps209
 go_wp2_with fail
 exact fin.out
def kindN (c : Nat) : Int := if 97 ≤ c ∧ c ≤ 122 then 1 else if c = 45 ∨ (48 ≤ c ∧ c ≤ 57) then 2 else if c = 34 then 3 else 4
theorem tkind_calls (c : Nat) (w : World) (R : Ending → World → Prop)
  (hR : Hid (R (.returned (.int .i64 (kindN c))) w)) : Calls Tryz.prog 273 #[.int .u8 c] w R := by
 unfold kindN at hR
 by_cases h0 : 97 ≤ c ∧ c ≤ 122
 ·rw [if_pos h0] at hR
  obtain ⟨a1, a2⟩ := h0
  go_enter Tryz.func273, Tryz.ntmps273
  go_wp2_with fail
  exact hR.out
 rw [if_neg h0] at hR
 have a0 : c < 97 ∨ 122 < c := by omega
 by_cases h1 : c = 45 ∨ (48 ≤ c ∧ c ≤ 57)
 ·rw [if_pos h1] at hR
  rcases h1 with rfl | ⟨b1, b2⟩
  ·clear h0 a0
   go_enter Tryz.func273, Tryz.ntmps273
   go_wp2_with fail
   exact hR.out
  ·have q0 : ((c : Int) == 45) = false := by simp; omega
   have q1 : decide (97 ≤ c) = false := decide_eq_false (by omega)
   have q2 : ¬ 97 ≤ c := by omega
   clear h0 a0
   go_enter Tryz.func273, Tryz.ntmps273
   go_wp2_with fail
   exact hR.out
 ·rw [if_neg h1] at hR
  by_cases h2 : c = 34
  ·rw [if_pos h2] at hR
   subst h2
   clear h0 h1 a0
   go_enter Tryz.func273, Tryz.ntmps273
   go_wp2_with fail
   exact hR.out
  ·rw [if_neg h2] at hR
   have q0 : ((c : Int) == 45) = false := by simp; omega
   have q3 : ((c : Int) == 34) = false := by simp; omega
   by_cases b0 : 48 ≤ c
   ·have b1 : ¬ c ≤ 57 := by omega
    rcases a0 with a0 | a0
    ·have q2 : ¬ 97 ≤ c := by omega
     clear h0 h1 h2
     go_enter Tryz.func273, Tryz.ntmps273
     go_wp2_with fail
     exact hR.out
    ·have q2 : 97 ≤ c := by omega
     have q4 : ¬ c ≤ 122 := by omega
     clear h0 h1 h2
     go_enter Tryz.func273, Tryz.ntmps273
     go_wp2_with fail
     exact hR.out
   ·have q2 : ¬ 97 ≤ c := by omega
    clear h0 h1 h2 a0
    go_enter Tryz.func273, Tryz.ntmps273
    go_wp2_with fail
    exact hR.out
theorem ib_iff (A : ByteArray) (c : Nat) (hc : c < 256) : 0 ≤ indexByte A.data.toList (c : Int).toNat.toUInt8 ↔ ∃ j, j < A.size ∧ byN A j = c := by
 have e : ((c : Int).toNat.toUInt8).toNat = c := by
  rw [Int.toNat_natCast]
  simp [Nat.toUInt8]
  omega
 generalize (c : Int).toNat.toUInt8 = u at *
 subst e
 have hge := indexByte_ge A.data.toList u
 constructor
 ·intro h
  obtain ⟨o, ho⟩ : ∃ o : Nat, indexByte A.data.toList u = o := ⟨(indexByte A.data.toList u).toNat, by omega⟩
  obtain ⟨h1, h2⟩ := indexByte_some ho
  have hlt : o < A.size := by
   have := (List.getElem?_eq_some_iff.1 h1).1
   simpa using this
  exact ⟨o, hlt, (Cut.mem_byN hlt u).1 h1⟩
 ·rintro ⟨j, hj, e⟩
  by_cases h : indexByte A.data.toList u = -1
  ·exact absurd ((Cut.mem_byN hj u).2 e) (indexByte_none h j)
  ·omega
theorem ixb_calls (c : Nat) (hc : c < 256) (w : World) (R : Ending → World → Prop)
  (hR : Hid (∀ z : Int, decide (0 ≤ z) = markL.contains c → R (.returned (.int .i64 z)) w)) : Calls Tryz.prog 350 #[.string ⟨#[123, 125, 91, 93, 40, 41, 44, 58, 61, 60, 62, 64, 43, 35, 126, 42]⟩, .int .u8 c] w R := by
 have := Any.strings_IndexByte (ρ := YtncijmodlhijoaaGreat.ixbL_ren) YtncijmodlhijoaaGreat.ixbL allM (c : Int) w
 have h2 := ib_iff allM c hc
 refine Calls.mono this ?_
 rintro e w' ⟨rfl, rfl⟩
 refine hR.out _ ?_
 rw [Bool.eq_iff_iff, decide_eq_true_iff, h2, markL_mem]
 constructor
 ·rintro ⟨j, hj, e⟩
  exact ⟨j, hj, (allM_at j hj).symm.trans e⟩
 ·rintro ⟨j, hj, e⟩
  exact ⟨j, hj, (allM_at j hj).trans e⟩
theorem head2_eq {x : ByteArray} (h : 2 ≤ x.size) : ((x.extract 0 2).toList == (⟨#[46, 46]⟩ : ByteArray).toList) = decide (byN x 0 = 46 ∧ byN x 1 = 46) := by
 rw [bl_inj]
 have e : bl (x.extract 0 2) = [(byN x 0 : Int), (byN x 1 : Int)] := by
  rw [bl_extract, List.drop_take, bl_drop (by omega : 0 < x.size), bl_drop (by omega : 0 + 1 < x.size)]
  rfl
 have : bl ⟨#[46, 46]⟩ = [46, 46] := rfl
 rw [e, this, Bool.eq_iff_iff, decide_eq_true_iff, decide_eq_true_iff]
 simp only [List.cons.injEq, and_true]
 omega
theorem haspre2_calls (x : ByteArray) (w : World) (hs : x.size ≤ maxLen) (R : Ending → World → Prop) (hR : Hid (R (.returned (.bool (decide (2 ≤ x.size ∧ byN x 0 = 46 ∧ byN x 1 = 46)))) w)) :
  Calls Tryz.prog 348 #[.string x, .string ⟨#[46, 46]⟩] w R := by
 replace hs : x.size ≤ 9223372036854775807 := hs
 have hh := fun h : 2 ≤ x.size => head2_eq h
 obtain ⟨b, hb⟩ : ∃ b : ByteArray, b = ⟨#[46, 46]⟩ := ⟨_, rfl⟩
 have hbz : b.size = 2 := by subst hb; rfl
 rw [← hb] at hh ⊢
 clear hb
 by_cases h1 : 2 ≤ x.size
 ·have h2 := hh h1
  clear hh
  simp only [h1, true_and] at hR
  have h5 : (2 : Int) ≤ (x.size : Int) := by omega
  generalize decide (byN x 0 = 46 ∧ byN x 1 = 46) = d at *
  cases d
  ·go_enter Tryz.func348, Tryz.ntmps348
   go_wp2_with fail
   exact hR.out
  ·go_enter Tryz.func348, Tryz.ntmps348
   go_wp2_with fail
   exact hR.out
 ·clear hh
  rw [decide_eq_false (fun h => h1 h.1)] at hR
  have h0 : x.size < 2 := by omega
  go_enter Tryz.func348, Tryz.ntmps348
  go_wp2_with fail
  exact hR.out
theorem hasprefix2_calls (x : ByteArray) (w : World) (hs : x.size ≤ maxLen) (R : Ending → World → Prop) (hR : Hid (R (.returned (.bool (decide (2 ≤ x.size ∧ byN x 0 = 46 ∧ byN x 1 = 46)))) w)) :
  Calls Tryz.prog 316 #[.string x, .string ⟨#[46, 46]⟩] w R := by
 have cH := fun (W : World) R hR => haspre2_calls x W hs R hR
 generalize decide (2 ≤ x.size ∧ byN x 0 = 46 ∧ byN x 1 = 46) = d at *
 replace cH := Lib.hid cH
 obtain ⟨b, hb⟩ : ∃ b : ByteArray, b = ⟨#[46, 46]⟩ := ⟨_, rfl⟩
 rw [← hb] at cH ⊢
 clear hb
 go_enter Tryz.func316, Tryz.ntmps316
 go_wp2_with fail
 refine cH.out _ _ (Lib.hid ?_)
 go_wp2_with fail
 exact hR.out
theorem mark_calls (s : ByteArray) (i : Int) (hs : s.size ≤ maxLen) (hi : -9223372036854775808 ≤ i ∧ i ≤ 9223372036854775807) (w : World) (R : Ending → World → Prop)
  (hR : Hid (∀ w', Below w.heap.size w w' → R (.returned (.string (markS s i))) w')) : Calls Tryz.prog 320 #[.string s, .int .i64 i] w R := by
 have hsM := hs
 replace hs : s.size ≤ 9223372036854775807 := hs
 have fin := hR.out w (Below.refl _ _)
 clear hR
 by_cases h0 : i < 0
 ·rw [mark_out (.inl h0)] at fin
  replace fin := Lib.hid fin
  go_enter Tryz.func320, Tryz.ntmps320
  go_wp2_with fail
  exact fin.out
 by_cases h1 : (s.size : Int) ≤ i
 ·rw [mark_out (.inr h1)] at fin
  replace fin := Lib.hid fin
  go_enter Tryz.func320, Tryz.ntmps320
  go_wp2_with fail
  exact fin.out
 obtain ⟨k, rfl⟩ : ∃ k : Nat, i = k := ⟨i.toNat, by omega⟩
 have hk : k < s.size := by omega
 have hg := byN_get s k hk
 have hbl := byN_lt s k
 have cI := Lib.hid fun R hR => ixb_calls (byN s k) hbl w R hR
 have xz : (s.extract k s.size).size = s.size - k := by rw [ByteArray.size_extract]; omega
 have cP := fun R hR => hasprefix2_calls (s.extract k s.size) w (by unfold maxLen; omega) R hR
 rw [markS_nat] at fin
 have key : markL.contains (byN s k) = false → (.string (s.extract k (k + markN s k)) : Value) = if decide (2 ≤ (s.extract k s.size).size ∧ byN (s.extract k s.size) 0 = 46 ∧ byN (s.extract k s.size) 1 = 46) = true then .string ⟨#[46, 46]⟩ else .string ⟨#[]⟩ := fun h => by
  by_cases h2 : byN s k = 46
  ·by_cases h3 : k + 1 < s.size ∧ byN s (k + 1) = 46
   ·obtain ⟨e1, e2⟩ := mark_dots h2 h3.1 h3.2
    rw [e1, e2, if_pos]
    rw [byN_ext s k s.size 0 (by omega) (Nat.le_refl _), byN_ext s k s.size 1 (by omega) (Nat.le_refl _)]
    exact decide_eq_true ⟨by omega, h2, h3.2⟩
   ·rw [mark_dot h2 h3, ext_nil, if_neg]
    intro q
    obtain ⟨a, b, c⟩ := of_decide_eq_true q
    rw [byN_ext s k s.size 1 (by omega) (Nat.le_refl _)] at c
    exact h3 ⟨by omega, c⟩
  ·rw [mark_one hk h2, h, if_neg (by simp), ext_nil, if_neg]
   intro q
   obtain ⟨a, b, c⟩ := of_decide_eq_true q
   rw [byN_ext s k s.size 0 (by omega) (Nat.le_refl _)] at b
   exact h2 b
 have key2 : markL.contains (byN s k) = true → markN s k = 1 := fun h => by
  rw [mark_one hk (fun e => by rw [e] at h; revert h; decide), h, if_pos rfl]
 by_cases hm : markL.contains (byN s k) = true
 ·rw [key2 hm] at fin
  rw [hm] at cI
  clear key key2 hm cP xz
  generalize byN s k = c at *
  replace fin := Lib.hid fin
  go_enter Tryz.func320, Tryz.ntmps320
  go_wp2_with fail
  refine cI.out _ (Lib.hid fun z hz => ?_)
  have hz' : 0 ≤ z := of_decide_eq_true hz
  clear hz
  go_wp2_with fail
  exact fin.out
 ·have hm' : markL.contains (byN s k) = false := by simpa using hm
  rw [key hm'] at fin
  rw [hm'] at cI
  clear key key2 hm hm'
  generalize byN s k = c at *
  generalize decide (2 ≤ (s.extract k s.size).size ∧ byN (s.extract k s.size) 0 = 46 ∧ byN (s.extract k s.size) 1 = 46) = d at *
  replace cP := Lib.hid cP
  cases d
  ·replace fin := Lib.hid fin
   go_enter Tryz.func320, Tryz.ntmps320
   go_wp2_with fail
   refine cI.out _ (Lib.hid fun z hz => ?_)
   have hz' : ¬ 0 ≤ z := of_decide_eq_false hz
   clear hz
   go_wp2_with fail
   refine cP.out _ (Lib.hid ?_)
   go_wp2_with fail
   exact fin.out
  ·replace fin := Lib.hid fin
   go_enter Tryz.func320, Tryz.ntmps320
   go_wp2_with fail
   refine cI.out _ (Lib.hid fun z hz => ?_)
   have hz' : ¬ 0 ≤ z := of_decide_eq_false hz
   clear hz
   go_wp2_with fail
   refine cP.out _ (Lib.hid ?_)
   go_wp2_with fail
   exact fin.out
end Go.Proofs.YtncijmodlhijoaaGreat.Tok
namespace Go.Proofs.YtncijmodlhijoaaGreat
open Go.RowKit Go.Lib
structure Flk (w : World) (H : Nat) (W : World) : Prop where
 nb : Below H w W
 lt : H < W.heap.size
 c0 : W.cell? ⟨H, 0, none⟩ = some (.int .i64 0)
 c1 : W.cell? ⟨H, 1, none⟩ = some (.int .i64 0)
 f0 : W.frozen? ⟨H, 0, none⟩ = false
 f1 : W.frozen? ⟨H, 1, none⟩ = false
theorem Flk.new (w : World) : Flk w w.heap.size (w.alloc (.cells #[.int .i64 0, .int .i64 0] 35)) := by
 have q1 := heap_alloc_new w (.cells #[.int .i64 0, .int .i64 0] 35)
 exact ⟨(Below.refl _ _).alloc (Nat.le_refl _) _, by simp, by rw [Lib.cell_of_heap q1]; rfl, by rw [Lib.cell_of_heap q1]; rfl, Lib.frozen_of_heap q1 0, Lib.frozen_of_heap q1 1⟩
theorem Flk.below {w W W' : World} {H : Nat} (h : Flk w H W) (hb : Below W.heap.size W W') : Flk w H W' :=
 ⟨h.nb.trans (hb.mono (Nat.le_of_lt h.lt)), Nat.lt_of_lt_of_le h.lt hb.size, (hb.cell (p := ⟨H, 0, none⟩) h.lt).trans h.c0, (hb.cell (p := ⟨H, 1, none⟩) h.lt).trans h.c1, (hb.frozen (p := ⟨H, 0, none⟩) h.lt).trans h.f0, (hb.frozen (p := ⟨H, 1, none⟩) h.lt).trans h.f1⟩
theorem Flk.below1 {w W W' : World} {H : Nat} (h : Flk w H W) (hb : Below (H + 1) W W') : Flk w H W' :=
 ⟨h.nb.trans (hb.mono (Nat.le_succ H)), Nat.lt_of_lt_of_le h.lt hb.size, (hb.cell (p := ⟨H, 0, none⟩) (Nat.lt_succ_self H)).trans h.c0, (hb.cell (p := ⟨H, 1, none⟩) (Nat.lt_succ_self H)).trans h.c1, (hb.frozen (p := ⟨H, 0, none⟩) (Nat.lt_succ_self H)).trans h.f0, (hb.frozen (p := ⟨H, 1, none⟩) (Nat.lt_succ_self H)).trans h.f1⟩
theorem Flk.told {w W : World} {H : Nat} (h : Flk w H W) (e z : Value) : Below H w ((W.setCell ⟨H, 0, none⟩ e).setCell ⟨H, 1, none⟩ z) ∧ ((W.setCell ⟨H, 0, none⟩ e).setCell ⟨H, 1, none⟩ z).cell? ⟨H, 0, none⟩ = some e ∧ ((W.setCell ⟨H, 0, none⟩ e).setCell ⟨H, 1, none⟩ z).cell? ⟨H, 1, none⟩ = some z :=
 ⟨(h.nb.setCell (p := ⟨H, 0, none⟩) (Nat.le_refl _) e).setCell (p := ⟨H, 1, none⟩) (Nat.le_refl _) z,
  (World.cell?_setCell_other _ _ _ _ (by simp)).trans (World.cell?_setCell_same _ _ _ h.c0), World.cell?_setCell_same _ _ _ ((World.cell?_setCell_other _ _ _ _ (by simp)).trans h.c1)⟩
end Go.Proofs.YtncijmodlhijoaaGreat
namespace Go.Proofs.YtncijmodlhijoaaGreat.Tok
open Go.RowKit Go.Lib Utf Ran Cel Esc Dig Nam Pat
theorem scn_nl {s : ByteArray} {j : Nat} (h : s.size ≤ j ∨ byN s j = 10) (hj : j ≤ s.size) : scnI s j true = scnI s j false := by
 by_cases hi : j < s.size
 ·have h10 : byN s j = 10 := by omega
  rw [scn_step true hi, scn_step false hi, h10]; simp [inB, blankB]
 ·rw [scn_end true (by omega), scn_end false (by omega)]
theorem flk_drew {w W : World} {H : Nat} (h : Flk w H W) (n : Nat) : Flk w H (W.drewN n) := h.below (Cut.bdq (Below.refl _ _) n)
theorem comment_calls (s : ByteArray) (i : Nat) (hi : i < s.size) (h59 : byN s i = 59) (hs : s.size ≤ 65536) (w : World) (R : Ending → World → Prop)
  (hR : Hid (∀ (j : Nat) w', i < j → j ≤ s.size → scnI s i false = scnI s j false → Below w.heap.size w w' → R (.returned (.tuple #[.int .i64 j, .agg #[.int .i64 0, .int .i64 0]])) w'))
  (hR2 : Hid (∀ e z w', scnI s i false = (none, e, z) → e ≠ 0 → Below w.heap.size w w' → R (.returned (.tuple #[.int .i64 0, .agg #[.int .i64 e, .int .i64 z]])) w')) : Calls Tryz.prog 210 #[.string s, .int .i64 i] w R := by
 have T := Flk.new w
 have cD := Lib.hid fun (k : Nat) (W : World) R hR => dec_calls s k W (by unfold maxLen; omega) R hR
 obtain ⟨V, hV⟩ : ∃ V, V = scnI s i false := ⟨_, rfl⟩
 rw [← hV] at hR hR2
 go_enter Tryz.func210, Tryz.ntmps210
 go_upto_region 1 with fail
 generalize w.alloc (.cells #[.int .i64 0, .int .i64 0] 35) = W0 at *
 have T0 := Lib.hid T
 clear T
 replace hV := Lib.hid hV
 replace h59 := Lib.hid h59
 go_loopg [1] (s.size - i) (fun g a wr => ∃ (J : Nat) (b : Bool), a = .int .i64 J ∧ J + g = s.size ∧ i ≤ J ∧ Hid (Flk w w.heap.size wr) ∧ Hid (scnI s J b = V) ∧ Hid (b = true ↔ i < J))
 case atStart => exact ⟨i, false, rfl, by omega, by omega, T0, Lib.hid hV.out.symm, Lib.hid (by simp)⟩
 case round =>
  clear T0 hV
  obtain ⟨J, b, rfl, c1, c2, T, hsc, hb⟩ := hrel
  by_cases hJ : J < s.size
  ·have hg := byN_get s J hJ
   have hbl := byN_lt s J
   have hd := decS_spec s J hJ
   by_cases h10 : byN s J = 10
   ·have hbt : b = true := by
     cases b
     ·have : ¬ i < J := fun q => by simpa using hb.out.2 q
      obtain rfl : i = J := by omega
      rw [h59.out] at h10; omega
     ·rfl
    subst hbt
    have hlt : i < J := hb.out.1 rfl
    have fin := Lib.hid fun w' hb => hR.out J w' hlt (by omega) ((hsc.out.symm).trans (scn_nl (.inr h10) (by omega))) hb
    have q10 : ((byN s J : Int) != 10) = false := by simp [h10]
    generalize byN s J = c at *
    clear h10 hd hsc hb hR hR2 cD h59
    replace T := T.out
    obtain ⟨nf, s0', s1'⟩ := T.told (.int .i64 0) (.int .i64 0)
    have c0 := T.c0
    have c1 := T.c1
    have f0' := T.f0
    have f1' := T.f1
    replace nf := Lib.hid nf
    replace s0' := Lib.hid s0'
    replace s1' := Lib.hid s1'
    clear T
    go_wp2_with fail
    replace s0' := s0'.out
    replace s1' := s1'.out
    clear c0 c1 f0' f1'
    generalize (wr.setCell ⟨w.heap.size, 0, none⟩ _).setCell ⟨w.heap.size, 1, none⟩ _ = Wz at *
    refine bodyPost_ret ?_ rfl (fin.out _ nf.out)
    simp [results, Tryz.results210, go_sem, s0', s1']
   have hs2 := hsc.out
   have hin : inB (byN s J) b = true := by
    cases b
    ·have : ¬ i < J := fun q => by simpa using hb.out.2 q
     obtain rfl : i = J := by omega
     rw [h59.out]; rfl
    ·unfold inB
     simp [h10]
   rw [scn_step b hJ, if_neg (by rw [hin]; simp)] at hs2
   have q10 : ((byN s J : Int) != 10) = true := by simp; omega
   have cD2 := cD.out J wr
   generalize byN s J = c at *
   clear h10 hin hsc hb cD h59
   generalize decS s (J : Nat) = U at *
   obtain ⟨r, n, ok⟩ := U
   simp only at cD2 hs2 hd
   replace cD2 := Lib.hid cD2
   cases ok
   ·rw [if_pos rfl] at hs2
    have fin := Lib.hid fun w' hb => hR2.out 2 J w' hs2.symm (by decide) hb
    clear hs2 hd hR hR2
    go_wp2_with fail
    refine cD2.out _ (Lib.hid fun nq => ?_)
    have T3 := flk_drew T.out nq
    clear T
    generalize wr.drewN nq = w2 at *
    obtain ⟨nf, s0', s1'⟩ := T3.told (.int .i64 2) (.int .i64 J)
    have c0 := T3.c0
    have c1 := T3.c1
    have f0' := T3.f0
    have f1' := T3.f1
    replace nf := Lib.hid nf
    replace s0' := Lib.hid s0'
    replace s1' := Lib.hid s1'
    clear T3
    go_wp2_with fail
    replace s0' := s0'.out
    replace s1' := s1'.out
    clear c0 c1 f0' f1'
    generalize (w2.setCell ⟨w.heap.size, 0, none⟩ _).setCell ⟨w.heap.size, 1, none⟩ _ = Wz at *
    refine bodyPost_ret ?_ rfl (fin.out _ nf.out)
    simp [results, Tryz.results210, go_sem, s0', s1']
   ·rw [if_neg (by simp)] at hs2
    obtain ⟨m, rfl⟩ : ∃ m : Nat, n = m := ⟨n.toNat, by omega⟩
    rw [Int.toNat_natCast] at hs2
    have cK := fun (W : World) R hR => isUnsafe_calls r W R hR
    by_cases hr9 : r = 9
    ·rw [if_neg (fun q => q.1 hr9)] at hs2
     have q1 : (r != 9) = false := by simp [hr9]
     replace hs2 := Lib.hid hs2
     clear hr9 cK hR hR2
     go_wp2_with fail
     refine cD2.out _ (Lib.hid fun nq => ?_)
     have T3 := Lib.hid (flk_drew T.out nq)
     clear T
     generalize wr.drewN nq = w2 at *
     go_wp2_with fail
     go_roundg (gk - m)
     case measure => omega
     case rel => exact ⟨J + m, true, by go_num, by omega, by omega, T3, hs2, Lib.hid ⟨fun _ => by omega, fun _ => rfl⟩⟩
    ·have q1 : (r != 9) = true := by simpa using hr9
     by_cases hk0 : kindS r = 0
     ·rw [if_neg (fun q => q.2 hk0)] at hs2
      replace hs2 := Lib.hid hs2
      rw [decide_eq_false (by simp [hk0])] at cK
      replace cK := Lib.hid cK
      clear hr9 hk0 hR hR2
      go_wp2_with fail
      refine cD2.out _ (Lib.hid fun nq => ?_)
      have T3 := Lib.hid (flk_drew T.out nq)
      clear T
      generalize wr.drewN nq = w2 at *
      go_wp2_with fail
      refine cK.out _ _ (Lib.hid fun w3 n3 => ?_)
      have T4 := Lib.hid (T3.out.below n3)
      clear n3 T3
      go_wp2_with fail
      go_roundg (gk - m)
      case measure => omega
      case rel => exact ⟨J + m, true, by go_num, by omega, by omega, T4, hs2, Lib.hid ⟨fun _ => by omega, fun _ => rfl⟩⟩
     ·rw [if_pos ⟨hr9, hk0⟩] at hs2
      have fin := Lib.hid fun w' hb => hR2.out 3 J w' hs2.symm (by decide) hb
      rw [decide_eq_true hk0] at cK
      replace cK := Lib.hid cK
      clear hs2 hd hr9 hk0 hR hR2
      go_wp2_with fail
      refine cD2.out _ (Lib.hid fun nq => ?_)
      have T3 := Lib.hid (flk_drew T.out nq)
      clear T
      generalize wr.drewN nq = w2 at *
      go_wp2_with fail
      refine cK.out _ _ (Lib.hid fun w3 n3 => ?_)
      have T4 := T3.out.below n3
      clear n3 T3
      obtain ⟨nf, s0', s1'⟩ := T4.told (.int .i64 3) (.int .i64 J)
      have c0 := T4.c0
      have c1 := T4.c1
      have f0' := T4.f0
      have f1' := T4.f1
      replace nf := Lib.hid nf
      replace s0' := Lib.hid s0'
      replace s1' := Lib.hid s1'
      clear T4
      go_wp2_with fail
      replace s0' := s0'.out
      replace s1' := s1'.out
      clear c0 c1 f0' f1'
      generalize (w3.setCell ⟨w.heap.size, 0, none⟩ _).setCell ⟨w.heap.size, 1, none⟩ _ = Wz at *
      refine bodyPost_ret ?_ rfl (fin.out _ nf.out)
      simp [results, Tryz.results210, go_sem, s0', s1']
  ·obtain rfl : J = s.size := by omega
   have hlt : i < s.size := hi
   have hbt : b = true := hb.out.2 hlt
   subst hbt
   have fin := Lib.hid fun w' hb => hR.out s.size w' hlt (Nat.le_refl _) ((hsc.out.symm).trans (scn_nl (.inl (Nat.le_refl _)) (Nat.le_refl _))) hb
   clear hsc hb hR hR2 cD h59
   replace T := T.out
   obtain ⟨nf, s0', s1'⟩ := T.told (.int .i64 0) (.int .i64 0)
   have c0 := T.c0
   have c1 := T.c1
   have f0' := T.f0
   have f1' := T.f1
   replace nf := Lib.hid nf
   replace s0' := Lib.hid s0'
   replace s1' := Lib.hid s1'
   clear T
   go_wp2_with fail
   replace s0' := s0'.out
   replace s1' := s1'.out
   clear c0 c1 f0' f1'
   generalize (wr.setCell ⟨w.heap.size, 0, none⟩ _).setCell ⟨w.heap.size, 1, none⟩ _ = Wz at *
   refine bodyPost_ret ?_ rfl (fin.out _ nf.out)
   simp [results, Tryz.results210, go_sem, s0', s1']
theorem takename_calls (s : ByteArray) (k : Nat) (hk : k < s.size) (h0 : 0 < sigS s k) (hs : s.size ≤ 65536) (w : World) (R : Ending → World → Prop)
  (hR : Hid (∀ w', Below w.heap.size w w' → R (.returned (if 32 < sigS s k then .tuple #[.string ⟨#[]⟩, .int .i64 0, .agg #[.int .i64 9, .int .i64 k]] else .tuple #[.string (s.extract k (k + sigS s k)), .int .i64 ((k + sigS s k : Nat) : Int), .agg #[.int .i64 0, .int .i64 0]])) w')) : Calls Tryz.prog 274 #[.string s, .int .i64 k] w R := by
 have cT := fun (W : World) R hR => take_calls s (k : Int) (by unfold maxLen; omega) W R hR
 rw [takS_nat hk] at cT
 have hl := sig_len hk
 have xz : (s.extract k (k + sigS s k)).size = sigS s k := by rw [ByteArray.size_extract]; omega
 have cR := fun (W : World) R hR => right_calls (s.extract k (k + sigS s k)) (by rw [xz]; unfold maxLen; omega) W R hR
 have T := Flk.new w
 have hk2 : 32 < sigS s k → rightS (s.extract k (k + sigS s k)) = false := fun h => by
  cases hb : rightS (s.extract k (k + sigS s k))
  ·rfl
  ·have := rightS_pos hb
   omega
 have hk3 : ¬ 32 < sigS s k → rightS (s.extract k (k + sigS s k)) = true := fun h => (right_cut h0 (by omega)).1
 generalize s.extract k (k + sigS s k) = x at *
 generalize sigS s k = m at *
 simp only at cT
 replace cT := Lib.hid cT
 by_cases h1 : 32 < m
 ·rw [hk2 h1] at cR
  rw [if_pos h1] at hR
  replace cR := Lib.hid cR
  clear hk2 hk3 xz hl h0
  go_enter Tryz.func274, Tryz.ntmps274
  go_upto_region 1 with fail
  generalize w.alloc (.cells #[.int .i64 0, .int .i64 0] 35) = W0 at *
  replace T := Lib.hid T
  go_wp2_with fail
  refine cT.out _ _ (Lib.hid ?_)
  go_wp2_with fail
  refine cR.out _ _ (Lib.hid ?_)
  replace T := T.out
  obtain ⟨nf, s0', s1'⟩ := T.told (.int .i64 9) (.int .i64 k)
  have c0 := T.c0
  have c1 := T.c1
  have f0' := T.f0
  have f1' := T.f1
  replace nf := Lib.hid nf
  replace s0' := Lib.hid s0'
  replace s1' := Lib.hid s1'
  clear T
  go_wp2_with fail
  replace s0' := s0'.out
  replace s1' := s1'.out
  clear c0 c1 f0' f1'
  generalize (W0.setCell ⟨w.heap.size, 0, none⟩ _).setCell ⟨w.heap.size, 1, none⟩ _ = Wz at *
  refine bodyPost_ret ?_ rfl (hR.out _ nf.out)
  simp [results, Tryz.results274, go_sem, s0', s1']
 ·rw [hk3 h1] at cR
  rw [if_neg h1] at hR
  replace cR := Lib.hid cR
  clear hk2 hk3 xz hl h0
  go_enter Tryz.func274, Tryz.ntmps274
  go_upto_region 1 with fail
  generalize w.alloc (.cells #[.int .i64 0, .int .i64 0] 35) = W0 at *
  replace T := Lib.hid T
  go_wp2_with fail
  refine cT.out _ _ (Lib.hid ?_)
  go_wp2_with fail
  refine cR.out _ _ (Lib.hid ?_)
  replace T := T.out
  obtain ⟨nf, s0', s1'⟩ := T.told (.int .i64 0) (.int .i64 0)
  have c0 := T.c0
  have c1 := T.c1
  have f0' := T.f0
  have f1' := T.f1
  replace nf := Lib.hid nf
  replace s0' := Lib.hid s0'
  replace s1' := Lib.hid s1'
  clear T
  go_wp2_with fail
  replace s0' := s0'.out
  replace s1' := s1'.out
  clear c0 c1 f0' f1'
  generalize (W0.setCell ⟨w.heap.size, 0, none⟩ _).setCell ⟨w.heap.size, 1, none⟩ _ = Wz at *
  refine bodyPost_ret ?_ rfl (hR.out _ nf.out)
  simp [results, Tryz.results274, go_sem, s0', s1']
theorem takemark_calls (s : ByteArray) (k : Nat) (hk : k < s.size) (hs : s.size ≤ 65536) (w : World) (R : Ending → World → Prop)
  (hR : Hid (∀ w', Below w.heap.size w w' → R (.returned (if 0 < markN s k then .tuple #[.string (s.extract k (k + markN s k)), .int .i64 ((k + markN s k : Nat) : Int), .agg #[.int .i64 0, .int .i64 0]] else .tuple #[.string ⟨#[]⟩, .int .i64 0, .agg #[.int .i64 (if (decS s k).2.2 = false then 2 else 3), .int .i64 k]])) w')) : Calls Tryz.prog 277 #[.string s, .int .i64 k] w R := by
 have cM := fun (W : World) R hR => mark_calls s (k : Int) (by unfold maxLen; omega) (by omega) W R hR
 rw [markS_nat] at cM
 have cD := Lib.hid fun (W : World) R hR => dec_calls s k W (by unfold maxLen; omega) R hR
 have hl := mark_len (s := s) (i := k) (by omega)
 have xz : (s.extract k (k + markN s k)).size = markN s k := by rw [ByteArray.size_extract]; omega
 have T := Flk.new w
 generalize s.extract k (k + markN s k) = x at *
 by_cases h0 : 0 < markN s k
 ·rw [if_pos h0] at hR
  have hE := Nam.isE_pos (s := x) (by omega)
  have hc : ((k + markN s k : Nat) : Int) = (k : Int) + (x.size : Int) := by omega
  rw [hc] at hR
  have hx1 : x.size ≤ 65536 := by omega
  have hx2 : 0 < x.size := by omega
  have hx3 : ¬ x.toList = [] := fun e => by rw [e] at hE; simp at hE
  clear h0 cD hc xz hl
  replace cM := Lib.hid cM
  go_enter Tryz.func277, Tryz.ntmps277
  go_upto_region 1 with fail
  generalize w.alloc (.cells #[.int .i64 0, .int .i64 0] 35) = W0 at *
  replace T := Lib.hid T
  go_wp2_with fail
  refine cM.out _ _ (Lib.hid fun w1 n1 => ?_)
  have T3 := T.out.below n1
  clear T n1
  obtain ⟨nf, s0', s1'⟩ := T3.told (.int .i64 0) (.int .i64 0)
  have c0 := T3.c0
  have c1 := T3.c1
  have f0' := T3.f0
  have f1' := T3.f1
  replace nf := Lib.hid nf
  replace s0' := Lib.hid s0'
  replace s1' := Lib.hid s1'
  clear T3
  go_wp2_with fail
  replace s0' := s0'.out
  replace s1' := s1'.out
  clear c0 c1 f0' f1'
  generalize (w1.setCell ⟨w.heap.size, 0, none⟩ _).setCell ⟨w.heap.size, 1, none⟩ _ = Wz at *
  refine bodyPost_ret ?_ rfl (hR.out _ nf.out)
  simp [results, Tryz.results277, go_sem, s0', s1']
 ·rw [if_neg h0] at hR
  have hx : x.size = 0 := by omega
  have hE := Nam.isE_nil (s := x) hx
  clear xz hl h0
  replace cM := Lib.hid cM
  have cD2 := cD.out
  clear cD
  generalize decS s (k : Nat) = U at *
  obtain ⟨r, n, ok⟩ := U
  simp only at cD2 hR
  replace cD2 := Lib.hid cD2
  cases ok
  ·rw [if_pos rfl] at hR
   go_enter Tryz.func277, Tryz.ntmps277
   go_upto_region 1 with fail
   generalize w.alloc (.cells #[.int .i64 0, .int .i64 0] 35) = W0 at *
   replace T := Lib.hid T
   go_wp2_with fail
   refine cM.out _ _ (Lib.hid fun w1 n1 => ?_)
   have T3 := Lib.hid (T.out.below n1)
   clear T n1
   go_wp2_with fail
   refine cD2.out _ _ (Lib.hid fun nq => ?_)
   have T4 := flk_drew T3.out nq
   clear T3
   generalize w1.drewN nq = w2 at *
   obtain ⟨nf, s0', s1'⟩ := T4.told (.int .i64 2) (.int .i64 k)
   have c0 := T4.c0
   have c1 := T4.c1
   have f0' := T4.f0
   have f1' := T4.f1
   replace nf := Lib.hid nf
   replace s0' := Lib.hid s0'
   replace s1' := Lib.hid s1'
   clear T4
   go_wp2_with fail
   replace s0' := s0'.out
   replace s1' := s1'.out
   clear c0 c1 f0' f1'
   generalize (w2.setCell ⟨w.heap.size, 0, none⟩ _).setCell ⟨w.heap.size, 1, none⟩ _ = Wz at *
   refine bodyPost_ret ?_ rfl (hR.out _ nf.out)
   simp [results, Tryz.results277, go_sem, s0', s1']
  ·rw [if_neg (by simp)] at hR
   go_enter Tryz.func277, Tryz.ntmps277
   go_upto_region 1 with fail
   generalize w.alloc (.cells #[.int .i64 0, .int .i64 0] 35) = W0 at *
   replace T := Lib.hid T
   go_wp2_with fail
   refine cM.out _ _ (Lib.hid fun w1 n1 => ?_)
   have T3 := Lib.hid (T.out.below n1)
   clear T n1
   go_wp2_with fail
   refine cD2.out _ _ (Lib.hid fun nq => ?_)
   have T4 := flk_drew T3.out nq
   clear T3
   generalize w1.drewN nq = w2 at *
   obtain ⟨nf, s0', s1'⟩ := T4.told (.int .i64 3) (.int .i64 k)
   have c0 := T4.c0
   have c1 := T4.c1
   have f0' := T4.f0
   have f1' := T4.f1
   replace nf := Lib.hid nf
   replace s0' := Lib.hid s0'
   replace s1' := Lib.hid s1'
   clear T4
   go_wp2_with fail
   replace s0' := s0'.out
   replace s1' := s1'.out
   clear c0 c1 f0' f1'
   generalize (w2.setCell ⟨w.heap.size, 0, none⟩ _).setCell ⟨w.heap.size, 1, none⟩ _ = Wz at *
   refine bodyPost_ret ?_ rfl (hR.out _ nf.out)
   simp [results, Tryz.results277, go_sem, s0', s1']
end Go.Proofs.YtncijmodlhijoaaGreat.Tok
