import Derived.Test.YtmchgimbfdeaiaaG7
import Derived.Test.YtmchgimbfdeaiaaFlat
import Derived.Test.YtmchgimbfdeaiaaOwn
import Derived.Deep.WholeRow
import Derived.Test.YtmchgimbfdeaiaaLib
import Derived.Laws.StructEq
/- Layer 13: tokens in memory. -/
set_option maxRecDepth 100000
set_option linter.unusedVariables false
namespace Go.Proofs.Ytmchgimbfdeaiaa.Tok
open Go.RowKit Go.Lib Go.Proofs.Ytmchgimbfdeaiaa.Utf Go.Proofs.Ytmchgimbfdeaiaa.Ran Go.Proofs.Ytmchgimbfdeaiaa.Dig Go.Proofs.Ytmchgimbfdeaiaa.Nam Go.Proofs.Ytmchgimbfdeaiaa.Pat

def encT (x : Tk) : List Value := [.int .i64 x.1, .int .i64 x.2.1, .int .i64 x.2.2.1, .string x.2.2.2.1, .int .i64 x.2.2.2.2]
theorem encT_len (x : Tk) : (encT x).length = 5 := rfl
abbrev RdK := RdG encT 5
/-- A token as a value. -/
def tkV (x : Tk) : Value := .agg #[.int .i64 x.1, .int .i64 x.2.1, .int .i64 x.2.2.1, .string x.2.2.2.1, .int .i64 x.2.2.2.2]
abbrev tN (xs : List Tk) (i : Nat) : Tk := xs.getD i zT
theorem tN_get {xs : List Tk} {i : Nat} (h : i < xs.length) : tN xs i = xs[i] := by simp [tN, List.getD, List.getElem?_eq_getElem h]
theorem tN_mem {xs : List Tk} {i : Nat} (h : i < xs.length) : tN xs i ∈ xs := by rw [tN_get h]; exact List.getElem_mem h
theorem RdK.op {w : World} {v : Value} {xs : List Tk} (h : RdK w v xs) : ∃ (A : Option Addr) (c : Nat), v = .slice A xs.length c ∧ xs.length ≤ c ∧
    (0 < xs.length → ∃ g o, A = some ⟨g, o, none⟩ ∧ g < w.heap.size ∧ ∀ i, i < xs.length → w.cell? ⟨g, o + i * 5, none⟩ = some (.int .i64 (tN xs i).1) ∧ w.cell? ⟨g, o + i * 5 + 1, none⟩ = some (.int .i64 (tN xs i).2.1) ∧
      w.cell? ⟨g, o + i * 5 + 2, none⟩ = some (.int .i64 (tN xs i).2.2.1) ∧ w.cell? ⟨g, o + i * 5 + 3, none⟩ = some (.string (tN xs i).2.2.2.1) ∧ w.cell? ⟨g, o + i * 5 + 4, none⟩ = some (.int .i64 (tN xs i).2.2.2.2)) := by
  obtain ⟨A, c, rfl, hl, hr⟩ := RdG.open encT_len (by decide) h
  refine ⟨A, c, rfl, hl, fun h0 => ?_⟩
  obtain ⟨g, o, rfl, hg, hc⟩ := hr h0
  refine ⟨g, o, rfl, hg, fun i hi => ?_⟩
  rw [tN_get hi]
  exact ⟨hc i hi 0 (by decide), hc i hi 1 (by decide), hc i hi 2 (by decide), hc i hi 3 (by decide), hc i hi 4 (by decide)⟩
theorem infoTok : (Try.prog.info? 27).map (fun i => (i.zero, i.size, i.bytes)) = some (some (tkV zT), 5, 48) := by kernel_rfl
/-- What Scan hands back. -/
def scT (v : Value) (e z : Int) : Value := .tuple #[v, .agg #[.int .i64 e, .int .i64 z]]
end Go.Proofs.Ytmchgimbfdeaiaa.Tok

/- Layer 13: the reference's Same and Mark. -/
set_option maxRecDepth 100000
set_option linter.unusedVariables false
namespace Go.Proofs.Ytmchgimbfdeaiaa.Tok
open Go.RowKit Go.Lib Go.Proofs.Ytmchgimbfdeaiaa.Utf Go.Proofs.Ytmchgimbfdeaiaa.Ran Go.Proofs.Ytmchgimbfdeaiaa.Dig Go.Proofs.Ytmchgimbfdeaiaa.Nam Go.Proofs.Ytmchgimbfdeaiaa.Pat

theorem sq_t {a b : ByteArray} (h : a = b) : (a.toList == b.toList) = true := by rw [h]; simp
theorem sq_f {a b : ByteArray} (h : a ≠ b) : (a.toList == b.toList) = false := by rw [bl_inj, decide_eq_false (fun e => h (bl_ext e))]
theorem tk_succ (xs : List Tk) (k : Nat) (h : k < xs.length) : xs.take (k + 1) = xs.take k ++ [tN xs k] := by
  rw [List.take_add_one, tN, List.getD, List.getElem?_eq_getElem h]; rfl
theorem markS_nat (s : ByteArray) (k : Nat) : markS s k = s.extract k (k + markN s k) := by unfold markS; rw [if_neg (by omega)]; rfl
theorem mark_out {s : ByteArray} {i : Int} (h : i < 0 ∨ (s.size : Int) ≤ i) : markS s i = ⟨#[]⟩ := by
  by_cases h0 : i < 0
  · unfold markS; rw [if_pos h0]
  · obtain ⟨k, rfl⟩ : ∃ k : Nat, i = k := ⟨i.toNat, by omega⟩
    rw [markS_nat]
    refine bl_ext ?_
    rw [bl_extract, List.drop_eq_nil_of_le (by rw [List.length_take, bl_length]; omega)]
    rfl
theorem mark_dots {s : ByteArray} {k : Nat} (h : byN s k = 46) (h1 : k + 1 < s.size) (h2 : byN s (k + 1) = 46) : markN s k = 2 ∧ s.extract k (k + 2) = ⟨#[46, 46]⟩ := by
  refine ⟨by unfold markN; rw [if_neg (by omega), if_pos h, if_pos ⟨h1, h2⟩], bl_ext ?_⟩
  rw [bl_extract, List.drop_take, bl_drop (by omega), bl_drop h1, h, h2, show k + 2 - k = 2 by omega]
  rfl
theorem mark_dot {s : ByteArray} {k : Nat} (h : byN s k = 46) (h1 : ¬ (k + 1 < s.size ∧ byN s (k + 1) = 46)) : markN s k = 0 := by
  unfold markN
  by_cases h0 : s.size ≤ k
  · rw [if_pos h0]
  · rw [if_neg h0, if_pos h, if_neg h1]
theorem mark_one {s : ByteArray} {k : Nat} (hk : k < s.size) (h : byN s k ≠ 46) : markN s k = if markL.contains (byN s k) then 1 else 0 := by unfold markN; rw [if_neg (by omega), if_neg h]
theorem ext_nil (s : ByteArray) (k : Nat) : s.extract k (k + 0) = ⟨#[]⟩ := by
  refine bl_ext ?_
  rw [bl_extract, Nat.add_zero, List.drop_take, Nat.sub_self, List.take_zero]
  rfl
def allM : ByteArray := ⟨#[123, 125, 91, 93, 40, 41, 44, 58, 61, 60, 62, 64, 43, 35, 126, 42]⟩
theorem allM_at : ∀ K, K < 16 → byN allM K = markL.getD K 0 := by decide
theorem markL_mem {c : Nat} : markL.contains c = true ↔ ∃ K, K < 16 ∧ markL.getD K 0 = c := by
  rw [List.contains_iff_mem]
  constructor
  · intro h
    obtain ⟨K, hK, e⟩ := List.getElem_of_mem h
    exact ⟨K, hK, by rw [List.getD, List.getElem?_eq_getElem hK]; exact e⟩
  · rintro ⟨K, hK, rfl⟩
    have hK' : K < markL.length := hK
    rw [List.getD, List.getElem?_eq_getElem hK']
    exact List.getElem_mem hK'
end Go.Proofs.Ytmchgimbfdeaiaa.Tok
