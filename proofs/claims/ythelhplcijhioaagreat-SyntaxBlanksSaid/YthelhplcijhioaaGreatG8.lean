import Derived.Test.YthelhplcijhioaaGreatG7
import Derived.Test.YthelhplcijhioaaGreatG13
import Derived.Test.YthelhplcijhioaaGreatOwn
import Derived.Deep.WholeRow
import Derived.Test.YthelhplcijhioaaGreatLib
import Derived.Laws.StructEq
/- Layer 13: tokens in memory. -/
set_option maxRecDepth 100000
set_option linter.unusedVariables false
namespace Go.Proofs.YthelhplcijhioaaGreat.Tok
open Go.RowKit Go.Lib Go.Proofs.YthelhplcijhioaaGreat.Utf Go.Proofs.YthelhplcijhioaaGreat.Ran Go.Proofs.YthelhplcijhioaaGreat.Dig Go.Proofs.YthelhplcijhioaaGreat.Nam Go.Proofs.YthelhplcijhioaaGreat.Pat

def encT (x : Tk) : List Value := [.int .i64 x.1, .int .i64 x.2.1, .int .i64 x.2.2.1, .string x.2.2.2.1, .int .i64 x.2.2.2.2]
theorem encT_len (x : Tk) : (encT x).length = 5 := rfl
abbrev RdK := RdG encT 5
/-- A token as a value. -/
def tkV (x : Tk) : Value := .agg #[.int .i64 x.1, .int .i64 x.2.1, .int .i64 x.2.2.1, .string x.2.2.2.1, .int .i64 x.2.2.2.2]
abbrev tN (xs : List Tk) (i : Nat) : Tk := xs.getD i zT
theorem tN_get {xs : List Tk} {i : Nat} (h : i < xs.length) : tN xs i = xs[i] := by simp [tN, List.getD, List.getElem?_eq_getElem h]
theorem tN_mem {xs : List Tk} {i : Nat} (h : i < xs.length) : tN xs i ∈ xs := by rw [tN_get h]; exact List.getElem_mem h
theorem RdK.op {w : World} {v : Value} {xs : List Tk} (h : RdK w v xs) : ∃ (A : Option Addr) (c : Nat), v = .slice A xs.length c ∧ xs.length ≤ c ∧
    (0 < xs.length → ∃ g o, A = some ⟨g, o, none⟩ ∧ g < w.heap.size ∧ ∀ i, i < xs.length → w.cell? ⟨g, o + i * 5, none⟩ = some (.int .i64 (tN xs i).1) ∧ w.cell? ⟨g, o + i * 5 + 1, none⟩ = some (.int .i64 (tN xs i).2.1) ∧
      w.cell? ⟨g, o + i * 5 + 2, none⟩ = some (.int .i64 (tN xs i).2.2.1) ∧ w.cell? ⟨g, o + i * 5 + 3, none⟩ = some (.string (tN xs i).2.2.2.1) ∧ w.cell? ⟨g, o + i * 5 + 4, none⟩ = some (.int .i64 (tN xs i).2.2.2.2)) := by
  obtain ⟨A, c, rfl, hl, hr⟩ := RdG.open encT_len (by decide) h
  refine ⟨A, c, rfl, hl, fun h0 => ?_⟩
  obtain ⟨g, o, rfl, hg, hc⟩ := hr h0
  refine ⟨g, o, rfl, hg, fun i hi => ?_⟩
  rw [tN_get hi]
  exact ⟨hc i hi 0 (by decide), hc i hi 1 (by decide), hc i hi 2 (by decide), hc i hi 3 (by decide), hc i hi 4 (by decide)⟩
theorem infoTok : (Tryz.prog.info? 76).map (fun i => (i.zero, i.size, i.bytes)) = some (some (tkV zT), 5, 48) := by kernel_rfl
/-- What Scan hands back. -/
def scT (v : Value) (e z : Int) : Value := .tuple #[v, .agg #[.int .i64 e, .int .i64 z]]
end Go.Proofs.YthelhplcijhioaaGreat.Tok

/- Layer 13: the reference's Same and Mark. -/
set_option maxRecDepth 100000
set_option linter.unusedVariables false
namespace Go.Proofs.YthelhplcijhioaaGreat.Tok
open Go.RowKit Go.Lib Go.Proofs.YthelhplcijhioaaGreat.Utf Go.Proofs.YthelhplcijhioaaGreat.Ran Go.Proofs.YthelhplcijhioaaGreat.Dig Go.Proofs.YthelhplcijhioaaGreat.Nam Go.Proofs.YthelhplcijhioaaGreat.Pat

theorem sq_t {a b : ByteArray} (h : a = b) : (a.toList == b.toList) = true := by rw [h]; simp
theorem sq_f {a b : ByteArray} (h : a ≠ b) : (a.toList == b.toList) = false := by rw [bl_inj, decide_eq_false (fun e => h (bl_ext e))]
theorem tk_succ (xs : List Tk) (k : Nat) (h : k < xs.length) : xs.take (k + 1) = xs.take k ++ [tN xs k] := by
  rw [List.take_add_one, tN, List.getD, List.getElem?_eq_getElem h]; rfl
theorem markS_nat (s : ByteArray) (k : Nat) : markS s k = s.extract k (k + markN s k) := by unfold markS; rw [if_neg (by omega)]; rfl
theorem mark_out {s : ByteArray} {i : Int} (h : i < 0 ∨ (s.size : Int) ≤ i) : markS s i = ⟨#[]⟩ := by
  by_cases h0 : i < 0
  · unfold markS; rw [if_pos h0]
  · obtain ⟨k, rfl⟩ : ∃ k : Nat, i = k := ⟨i.toNat, by omega⟩
    rw [markS_nat]
    refine bl_ext ?_
    rw [bl_extract, List.drop_eq_nil_of_le (by rw [List.length_take, bl_length]; omega)]
    rfl
theorem mark_dots {s : ByteArray} {k : Nat} (h : byN s k = 46) (h1 : k + 1 < s.size) (h2 : byN s (k + 1) = 46) : markN s k = 2 ∧ s.extract k (k + 2) = ⟨#[46, 46]⟩ := by
  refine ⟨by unfold markN; rw [if_neg (by omega), if_pos h, if_pos ⟨h1, h2⟩], bl_ext ?_⟩
  rw [bl_extract, List.drop_take, bl_drop (by omega), bl_drop h1, h, h2, show k + 2 - k = 2 by omega]
  rfl
theorem mark_dot {s : ByteArray} {k : Nat} (h : byN s k = 46) (h1 : ¬ (k + 1 < s.size ∧ byN s (k + 1) = 46)) : markN s k = 0 := by
  unfold markN
  by_cases h0 : s.size ≤ k
  · rw [if_pos h0]
  · rw [if_neg h0, if_pos h, if_neg h1]
theorem mark_one {s : ByteArray} {k : Nat} (hk : k < s.size) (h : byN s k ≠ 46) : markN s k = if markL.contains (byN s k) then 1 else 0 := by unfold markN; rw [if_neg (by omega), if_neg h]
theorem ext_nil (s : ByteArray) (k : Nat) : s.extract k (k + 0) = ⟨#[]⟩ := by
  refine bl_ext ?_
  rw [bl_extract, Nat.add_zero, List.drop_take, Nat.sub_self, List.take_zero]
  rfl
def allM : ByteArray := ⟨#[123, 125, 91, 93, 40, 41, 44, 58, 61, 60, 62, 64, 43, 35, 126, 42]⟩
theorem allM_at : ∀ K, K < 16 → byN allM K = markL.getD K 0 := by decide
theorem markL_mem {c : Nat} : markL.contains c = true ↔ ∃ K, K < 16 ∧ markL.getD K 0 = c := by
  rw [List.contains_iff_mem]
  constructor
  · intro h
    obtain ⟨K, hK, e⟩ := List.getElem_of_mem h
    exact ⟨K, hK, by rw [List.getD, List.getElem?_eq_getElem hK]; exact e⟩
  · rintro ⟨K, hK, rfl⟩
    have hK' : K < markL.length := hK
    rw [List.getD, List.getElem?_eq_getElem hK']
    exact List.getElem_mem hK'
set_option maxRecDepth 100000 in
set_option maxHeartbeats 1000000 in
theorem refmark13_calls (s : ByteArray) (i : Int) (hs : s.size ≤ maxLen) (w : World) (R : Ending → World → Prop) (hi : -9223372036854775808 ≤ i ∧ i ≤ 9223372036854775807)
    (hR : Hid (∀ w', Below w.heap.size w w' → R (.returned (.string (markS s i))) w')) : Calls Tryz.prog 82 #[.string s, .int .i64 i] w R := by
  replace hs : s.size ≤ 9223372036854775807 := hs
  by_cases h0 : i < 0
  · rw [mark_out (.inl h0)] at hR
    go_enter Tryz.func82, Tryz.ntmps82
    go_wp2_with fail
    exact hR.out _ (Below.refl _ _)
  by_cases h1 : (s.size : Int) ≤ i
  · rw [mark_out (.inr h1)] at hR
    go_enter Tryz.func82, Tryz.ntmps82
    go_wp2_with fail
    exact hR.out _ (Below.refl _ _)
  obtain ⟨k, rfl⟩ : ∃ k : Nat, i = k := ⟨i.toNat, by omega⟩
  have hk : k < s.size := by omega
  have hg := byN_get s k hk
  have hbl := byN_lt s k
  rw [markS_nat] at hR
  by_cases h2 : byN s k = 46
  · by_cases h3 : k + 1 < s.size
    · have hg1 := byN_get s (k + 1) h3
      by_cases h4 : byN s (k + 1) = 46
      · obtain ⟨e1, e2⟩ := mark_dots h2 h3 h4
        rw [e1, e2] at hR
        rw [h2] at hg
        rw [h4] at hg1
        have d1 : (1 : Int) < (s.size : Int) - (k : Int) := by omega
        clear e1 e2 h2 h4 hbl
        go_enter Tryz.func82, Tryz.ntmps82
        go_wp2_with fail
        exact hR.out _ (Below.refl _ _)
      · rw [mark_dot h2 (fun q => h4 q.2), ext_nil] at hR
        rw [h2] at hg
        have hb1 := byN_lt s (k + 1)
        have d1 : (1 : Int) < (s.size : Int) - (k : Int) := by omega
        generalize byN s (k + 1) = c at *
        have q8 : ((c : Int) == 46) = false := by simp; omega
        clear h2 h4 hbl
        go_enter Tryz.func82, Tryz.ntmps82
        go_wp2_with fail
        exact hR.out _ (Below.refl _ _)
    · rw [mark_dot h2 (fun q => h3 q.1), ext_nil] at hR
      rw [h2] at hg
      have d1 : ¬ (1 : Int) < (s.size : Int) - (k : Int) := by omega
      clear h2 hbl
      go_enter Tryz.func82, Tryz.ntmps82
      go_wp2_with fail
      exact hR.out _ (Below.refl _ _)
  · rw [mark_one hk h2] at hR
    have hyes := Lib.hid fun K (hK : K < 16) (e : markL.getD K 0 = byN s k) => show markL.contains (byN s k) = true from markL_mem.2 ⟨K, hK, e⟩
    have hno := Lib.hid fun (h : ∀ j, j < 16 → markL.getD j 0 ≠ byN s k) => show markL.contains (byN s k) = false by
      cases e : markL.contains (byN s k)
      · rfl
      · obtain ⟨K, hK, e2⟩ := markL_mem.1 e
        exact absurd e2 (h K hK)
    generalize byN s k = c at *
    have q8 : ((c : Int) == 46) = false := by simp; omega
    obtain ⟨A, hA⟩ : ∃ A, allM = A := ⟨_, rfl⟩
    have hsz : A.size = 16 := by rw [← hA]; decide
    have hat := Lib.hid fun K (h : K < 16) => show byN A K = markL.getD K 0 by rw [← hA]; exact allM_at K h
    go_enter Tryz.func82, Tryz.ntmps82
    go_wp2_with fail
    rw [show (⟨#[123, 125, 91, 93, 40, 41, 44, 58, 61, 60, 62, 64, 43, 35, 126, 42]⟩ : ByteArray) = A from hA]
    clear hA
    go_loopg [6] 16 (fun g i wr => ∃ K : Nat, i = .int .i64 K ∧ K + g = 16 ∧ Hid (Below w.heap.size w wr) ∧ Hid (∀ j, j < K → markL.getD j 0 ≠ c))
    case atStart => exact ⟨0, rfl, by omega, Lib.hid (Below.refl _ _), Lib.hid fun j h => by omega⟩
    case round =>
      obtain ⟨K, rfl, c1, nb, hkk⟩ := hrel
      by_cases hK : K < 16
      · have hgK := byN_get A K (by omega)
        rw [hat.out K hK] at hgK
        have i0 : (0 : Int) ≤ (K : Int) := by omega
        have i1 : (K : Int) < 16 := by omega
        have hy := hyes.out K hK
        have hnx : markL.getD K 0 ≠ c → ∀ j, j < K + 1 → markL.getD j 0 ≠ c := fun h j hj => by
          rcases Nat.eq_or_lt_of_le (Nat.le_of_lt_succ hj) with e | q
          · subst e; exact h
          · exact hkk.out j q
        generalize markL.getD K 0 = y at *
        clear hkk hyes hno hat
        by_cases q : y = c
        · rw [hy q, if_pos rfl] at hR
          have q1 : ((y : Int) == (c : Int)) = true := by simp [q]
          clear hy hnx q
          go_wp2_with fail
          go_quiet (fail)
          have b2 := Lib.hid (below_drewN nb.out nq)
          go_wp2_with fail
          exact hR.out _ b2.out
        · have h3 := Lib.hid (hnx q)
          have q1 : ((y : Int) == (c : Int)) = false := by simp; omega
          clear hy hnx q
          go_wp2_with fail
          go_quiet (fail)
          have b2 := Lib.hid (below_drewN nb.out nq)
          go_wp2_with fail
          go_roundg (gk - 1)
          case measure => omega
          case rel => exact ⟨K + 1, by go_num, by omega, b2, h3⟩
      · obtain rfl : K = 16 := by omega
        rw [hno.out hkk.out, if_neg (by simp), ext_nil] at hR
        clear hkk hno hyes
        go_wp2_with fail
        exact hR.out _ nb.out
end Go.Proofs.YthelhplcijhioaaGreat.Tok
