/- The sort of indices by a closure. -/
import Derived.Test.YtpepomnkoghjpaaNamT
import Derived.Test.YtpepomnkoghjpaaNamB
import Derived.Test.YtpepomnkoghjpaaNamL
import Derived.Lib.OwnBridge
import Derived.Lib.AppendIntMem
import Derived.Laws.MakeOwn
import Derived.Deep.WholeRow
set_option maxRecDepth 100000
set_option linter.unusedVariables false
namespace Go.Proofs.Ytpepomnkoghjpaa.Nam
open Go.RowKit Go.Lib Go.Proofs.Ytpepomnkoghjpaa.Utf Go.Sort Go.Shelf

theorem strcmp_calls (a b : ByteArray) (w : World) (R : Ending → World → Prop) (hR : Hid (R (.returned (.int .i64 (cmpS a b))) w)) : Calls Try.prog 59 #[.string a, .string b] w R := by
  have := Any.strings_Compare Ytpepomnkoghjpaa.compStr a b w
  change Calls Try.prog 59 _ _ _ at this
  refine this.mono ?_
  rintro e w' ⟨rfl, rfl⟩
  exact hR.out
theorem intcmp_calls (a b : Int) (w : World) (R : Ending → World → Prop) (hR : Hid (R (.returned (.int .i64 (compareInt a b))) w)) : Calls Try.prog 60 #[.int .i64 a, .int .i64 b] w R := by
  have := Any.cmp_Compare_int Ytpepomnkoghjpaa.compInt a b w
  change Calls Try.prog 60 _ _ _ at this
  refine this.mono ?_
  rintro e w' ⟨rfl, rfl⟩
  exact hR.out

theorem or_calls (a c : Int) (b : Nat) (w : World) (h0 : w.cell? ⟨b, 0, none⟩ = some (.int .i64 a)) (h1 : w.cell? ⟨b, 1, none⟩ = some (.int .i64 c)) (R : Ending → World → Prop)
    (V : Int) (hV : (if a = 0 then c else a) = V) (hR : Hid (R (.returned (.int .i64 V)) w)) : Calls Try.prog 58 #[.slice (some ⟨b, 0, none⟩) 2 2] w R := by
  rw [← hV] at hR
  clear hV
  go_enter Try.func58, Try.ntmps58
  go_wp2_with fail
  go_loopg [8] 2 (fun k i wr => ∃ (K : Nat), wr = w ∧ i = .int .i64 K ∧ K + k = 2 ∧ (0 < K → a = 0) ∧ (1 < K → c = 0))
  case atStart => exact ⟨0, rfl, rfl, rfl, fun h => by omega, fun h => by omega⟩
  case round =>
    obtain ⟨K, rfl, rfl, c1, c2, c3⟩ := hrel
    obtain rfl | rfl | rfl : K = 0 ∨ K = 1 ∨ K = 2 := by omega
    · clear c2 c3
      by_cases h : a = 0
      · subst h
        rw [if_pos rfl] at hR
        go_wp2_with fail
        go_roundg 1
        case measure => omega
        case rel => exact ⟨1, rfl, rfl, rfl, fun _ => by first | rfl | trivial, fun h => by omega⟩
      · rw [if_neg h] at hR
        have hb : (a == 0) = false := by simpa using h
        have hn : (a != 0) = true := by simpa using h
        go_wp2_with fail
        exact hR.out
    · have h := c2 (by omega)
      subst h
      rw [if_pos rfl] at hR
      clear c2 c3
      by_cases h : c = 0
      · subst h
        go_wp2_with fail
        go_roundg 0
        case measure => omega
        case rel => exact ⟨2, rfl, rfl, rfl, fun _ => by first | rfl | trivial, fun _ => by first | rfl | trivial⟩
      · have hb : (c == 0) = false := by simpa using h
        have hn : (c != 0) = true := by simpa using h
        go_wp2_with fail
        exact hR.out
    · have h := c2 (by omega)
      have g := c3 (by omega)
      subst h g
      rw [if_pos rfl] at hR
      clear c2 c3
      go_wp2_with fail
      exact hR.out

set_option maxHeartbeats 1000000 in
/-- The closure. -/
theorem less_calls (xs : List ByteArray) (lv : Value) (p i j : Nat) (w : World) (hi : i < xs.length) (hj : j < xs.length) (hx : RdS w lv xs) (hp : w.cell? ⟨p, 0, none⟩ = some lv) :
    Calls Try.prog 57 #[.int .i64 i, .int .i64 j, .pointer (some ⟨p, 0, none⟩)] w fun e w' => e = .returned (.int .i64 (cmpI xs i j)) ∧ ∃ q os', w' = grow (w.drewN q) os' := by
  obtain ⟨A, c, rfl, hlc, hr⟩ := hx.open
  obtain ⟨g, o, rfl, hg, hca⟩ := hr (by omega)
  have hpl : p < w.heap.size := World.block_lt_of_cell? w (a := ⟨p, 0, none⟩) hp
  have e0 := hca i hi
  have e1 := hca j hj
  clear hca hr hx
  obtain ⟨V, hV⟩ : ∃ V, cmpI xs i j = V := ⟨_, rfl⟩
  rw [hV]
  unfold cmpI at_ at hV
  generalize xs.getD i ByteArray.empty = a at *
  generalize xs.getD j ByteArray.empty = b at *
  generalize hP : (fun (e : Ending) w' => e = .returned (.int .i64 V) ∧ ∃ q os', w' = grow (w.drewN q) os') = P
  have hP' : ∀ os', P (.returned (.int .i64 V)) (grow w.drew os') := fun os' => by subst hP; exact ⟨rfl, 1, os', rfl⟩
  replace hP' := Lib.hid hP'
  clear hP
  have hI : (i : Int) < xs.length := by omega
  have hJ : (j : Int) < xs.length := by omega
  generalize hm : cmpS a b = m at *
  generalize hn : compareInt i j = n at *
  replace hV := Lib.hid hV
  have cS := fun W R hR => strcmp_calls a b W R hR
  rw [hm] at cS
  have cC := fun W R hR => intcmp_calls i j W R hR
  rw [hn] at cC
  replace cS := Lib.hid cS
  replace cC := Lib.hid cC
  clear hm hn
  go_enter Try.func57, Try.ntmps57
  go_wp2_with fail
  go_region_held3 (fun w' => w'.cell? ⟨p, 0, none⟩ = some (.slice (some ⟨g, o, none⟩) xs.length c) ∧ w'.cell? ⟨g, o + i, none⟩ = some (.string a) ∧ w'.cell? ⟨g, o + j, none⟩ = some (.string b))
    (first | exact ⟨hp, e0, e1⟩ | exact ⟨alloc_keep hpl hp, alloc_keep hg e0, alloc_keep hg e1⟩ | trace_state)
    (first
      | (go_at_call 59; refine cS.out _ _ (Lib.hid ?_))
      | (go_at_call 60; refine cC.out _ _ (Lib.hid ?_))
      | (go_at_call 58; refine or_calls m n _ _ (by exact (cell_of_row _ _ 0 _ _ (0, 0) (heap_alloc_last _ _)).trans rfl) (by exact (cell_of_row _ _ 1 _ _ (0, 0) (heap_alloc_last _ _)).trans rfl) _ V hV.out (Lib.hid ?_)))
  all_goals
    go_wp2_with fail
    rw [alloc_eq_grow]
    exact hP'.out _
end Go.Proofs.Ytpepomnkoghjpaa.Nam
