/- The reference's Sorted. -/
import Derived.Test.YtfefjjejigaobaaNamB
import Derived.Laws.MakeOwn
set_option linter.unusedVariables false
namespace Go.Proofs.Ytfefjjejigaobaa.Nam
open Go.RowKit Go.Lib Go.Proofs.Ytfefjjejigaobaa.Utf

theorem infoStr : (Try.prog.info? 9).map (fun i => (i.zero, i.size, i.bytes)) = some (some (.string ByteArray.empty), 1, 16) := by kernel_rfl
theorem snocS (A : List ByteArray) : A = [] ∨ ∃ B y, A = B ++ [y] := by
  rcases List.eq_nil_or_concat A with h | ⟨B, y, h⟩
  · exact .inl h
  · exact .inr ⟨B, y, by simpa using h⟩
/-- Two neighbours exchanged. -/
theorem swap_sv (A B : List ByteArray) (x y : ByteArray) : ((sv (A ++ [y] ++ x :: B)).set (A.length + 1) (.string y)).set A.length (.string x) = sv (A ++ x :: y :: B) := by
  unfold sv
  refine List.ext_getElem? fun j => ?_
  rcases Nat.lt_trichotomy j A.length with h | h | h
  · rw [List.getElem?_set_ne (by omega), List.getElem?_set_ne (by omega)]
    simp [List.getElem?_append_left, h]
  · subst h
    rw [List.getElem?_set_self (by simp)]
    simp
  · rcases Nat.eq_or_lt_of_le (show A.length + 1 ≤ j by omega) with e | h2
    · subst e
      rw [List.getElem?_set_ne (by omega), List.getElem?_set_self (by simp)]
      simp
    · rw [List.getElem?_set_ne (by omega), List.getElem?_set_ne (by omega)]
      obtain ⟨m, rfl⟩ : ∃ m, j = A.length + (m + 2) := ⟨j - A.length - 2, by omega⟩
      simp [List.getElem?_append_right]
theorem sv_at (A B : List ByteArray) (x : ByteArray) : (sv (A ++ x :: B))[A.length]? = some (.string x) := by simp [sv]
/-- Where a new string has come to stand. -/
theorem ins_fin {A B acc : List ByteArray} {x : ByteArray} (h : A ++ B = acc) (hi : Inc acc) (hn : x ∉ acc) (hB : ∀ b ∈ B, lt x b = true) (hA : A = [] ∨ ∃ A' y, A = A' ++ [y] ∧ lt x y = false) : Inc (A ++ x :: B) := by
  subst h
  obtain ⟨a1, a2, a3⟩ := List.pairwise_append.1 hi
  have hAx : ∀ a ∈ A, lt a x = true := by
    rcases hA with rfl | ⟨A', y, rfl, hy⟩
    · simp
    · have hyx : lt y x = true := by
        cases e : lt y x
        · exact absurd (lt_tri hy e) (fun q => hn (by rw [q]; simp))
        · rfl
      intro a ha
      rcases List.mem_append.1 ha with ha | ha
      · exact lt_trans ((List.pairwise_append.1 a1).2.2 a ha y (by simp)) hyx
      · rw [List.mem_singleton.1 ha]; exact hyx
  refine List.pairwise_append.2 ⟨a1, List.pairwise_cons.2 ⟨hB, a2⟩, fun a ha b hb => ?_⟩
  rcases List.mem_cons.1 hb with rfl | hb
  · exact hAx a ha
  · exact a3 a ha b hb
theorem mem_mid {A B acc : List ByteArray} {x : ByteArray} (h : A ++ B = acc) (z : ByteArray) : z ∈ A ++ x :: B ↔ z ∈ acc ∨ z = x := by
  subst h
  simp only [List.mem_append, List.mem_cons]
  constructor
  · rintro (h | h | h)
    · exact .inl (.inl h)
    · exact .inr h
    · exact .inl (.inr h)
  · rintro ((h | h) | h)
    · exact .inl h
    · exact .inr (.inr h)
    · exact .inr (.inl h)

set_option maxRecDepth 100000 in
set_option maxHeartbeats 2000000 in
theorem refsorted_calls (xs : List ByteArray) (v : Value) (w : World) (hl : xs.length ≤ 1000000) (hx : RdS w v xs) (R : Ending → World → Prop)
    (hR : Hid (∀ v' w', RdS w' v' (sortS xs) → Below w.heap.size w w' → R (.returned v') w')) : Calls Try.prog 16 #[v] w R := by
  obtain ⟨A, c, rfl, hlc, hr⟩ := hx.open
  obtain ⟨i0, hi, hz0, hz1, hz2⟩ := info_parts infoStr
  have cF := Lib.hid fun s (W : World) (hb : Below w.heap.size w W) R hR => reffind_calls xs s _ W (hx.below hb) (by omega) R hR
  replace hr := Lib.hid hr
  clear hx
  go_enter Try.func16, Try.ntmps16
  go_wp2_with fail
  go_loopg [3, 4] xs.length (fun k l i wr => ∃ (K : Nat) (v : Value) (acc : List ByteArray), v = l ∧ Below w.heap.size w wr ∧ i = .int .i64 K ∧ wr.ownsRow w.heap.size 9 1 v acc.length (sv acc) ∧ K + k = xs.length ∧ acc.length ≤ K ∧ Hid (Inc acc ∧ ∀ x, x ∈ acc ↔ x ∈ xs.take K))
  case atStart => exact ⟨0, _, [], rfl, Below.refl _ _, rfl, World.ownsRow_nil _ _ _ _, by omega, by simp, Lib.hid ⟨List.Pairwise.nil, fun x => by simp⟩⟩
  case round =>
    obtain ⟨K, v, acc, rfl, hbel, rfl, hown, c1, c2, c3⟩ := hrel
    have hsz := hbel.size
    by_cases hK : K < xs.length
    · have cG := fun R hR => cF.out (xs.getD K ByteArray.empty) wr hbel R hR
      obtain ⟨g, o, rfl, hg, hca⟩ := hr.out (by omega)
      have e0 := (hbel.cell (p := ⟨g, o + K, none⟩) hg).trans (hca K hK)
      have e1 := find_lt hK
      have e2 := take_succS xs K hK
      clear hca
      generalize xs.getD K ByteArray.empty = x at *
      generalize findS xs x = f at *
      replace cG := Lib.hid cG
      by_cases hq : f < K
      · have hm := e1.1 hq
        have e : Inc acc ∧ ∀ x, x ∈ acc ↔ x ∈ xs.take (K + 1) := ⟨c3.out.1, fun z => by
          rw [c3.out.2, e2, List.mem_append, List.mem_singleton]
          exact ⟨.inl, fun h => h.elim id fun h => h ▸ hm⟩⟩
        replace e := Lib.hid e
        clear e1 e2 hm c3
        go_wp2_with fail
        refine cG.out _ (Lib.hid ?_)
        go_wp2_with fail
        go_roundg (gk - 1)
        case measure => omega
        case rel => exact ⟨K + 1, v, acc, rfl, hbel, by go_num, hown, by omega, by omega, e⟩
      · obtain ⟨kO, rfl⟩ : ∃ kO, gk = kO + 1 := ⟨gk - 1, by omega⟩
        have hm : x ∉ acc := fun h => hq (e1.2 ((c3.out.2 x).1 h))
        have hinc := Lib.hid c3.out.1
        have hmem : ∀ z, (z ∈ acc ∨ z = x) ↔ z ∈ xs.take (K + 1) := fun z => by rw [c3.out.2, e2, List.mem_append, List.mem_singleton]
        replace hmem := Lib.hid hmem
        replace hm := Lib.hid hm
        clear e1 e2 c3
        go_wp2_with fail
        refine cG.out _ (Lib.hid ?_)
        go_wp2_with (at_builtin; go_loud (refine app1 wr (.string x) 9 rfl _ _ 28 rfl w.heap.size i0 (.string ByteArray.empty) 16 Try.underlying28 hi hz0 hz1 hz2 rfl v _ _ rfl hown rfl rfl (by unfold maxLen; omega) (by omega) hsz ?_); intro v' w3 hown3 hg3 hb3; have hbel3 := hbel.trans hb3; clear hg3; rw [show sv acc ++ [Value.string x] = sv (acc ++ [x]) from (sv_append acc [x]).symm] at hown3; obtain ⟨g3, cap3, rfl, hg3, hl3, hcap3, -⟩ := own_at hown3 (by omega))
        have hlen : ((acc.length + 1 : Nat) : Int) - 1 = (acc.length : Int) := by omega
        go_loopg [5] acc.length (fun k i wr2 => ∃ (A B : List ByteArray), Below w.heap.size w wr2 ∧ i = .int .i64 A.length ∧ k = A.length ∧ A.length ≤ acc.length ∧ wr2.ownsRow w.heap.size 9 1 (.slice (some ⟨g3, 0, none⟩) (acc.length + 1) cap3) (acc.length + 1) (sv (A ++ x :: B)) ∧ Hid (A ++ B = acc ∧ ∀ b ∈ B, lt x b = true))
        case atStart => exact ⟨acc, [], hbel3, by go_num, rfl, Nat.le_refl _, hown3, Lib.hid ⟨by simp, by simp⟩⟩
        case round =>
          obtain ⟨A, B, hb4, rfl, d1, d3, hown4, d2⟩ := hrel
          have hsz4 := hb4.size
          have hlA := hown4.1
          rw [sv_len, List.length_append, List.length_cons] at hlA
          rcases snocS A with rfl | ⟨A', y, rfl⟩
          · have e := ins_fin d2.out.1 hinc.out hm.out d2.out.2 (.inl rfl)
            have e' : ∀ z, z ∈ [] ++ x :: B ↔ z ∈ xs.take (K + 1) := fun z => by rw [mem_mid d2.out.1, hmem.out]
            replace e := Lib.hid (And.intro e e')
            clear e' d2
            simp only [List.length_nil, Nat.zero_add] at d1 hlA
            have hlB : B.length = acc.length := by omega
            go_wp2_with fail
            go_quiet (fail)
            go_wp2_with fail
            go_roundg kO
            case measure => omega
            case rel => exact ⟨K + 1, _, [] ++ x :: B, rfl, below_drewN hb4 _, by go_num, by rw [show (([] : List ByteArray) ++ x :: B).length = acc.length + 1 by simp [hlB]]; exact own_below hown4 (below_drewN (Below.refl _ _) nq), by omega, by simp [hlB]; omega, e⟩
          · simp only [List.length_append, List.length_cons, List.length_nil, Nat.zero_add] at d1 d3 hlA
            have k1 := World.ownsRow.cellAt hown4 (A'.length + 1) (by omega)
            have k0 := World.ownsRow.cellAt hown4 A'.length (by omega)
            rw [show A'.length + 1 = (A' ++ [y]).length by simp, sv_at] at k1
            rw [List.append_assoc, List.singleton_append, sv_at] at k0
            have z1 := World.ownsRow.frozenAt hown4 (A'.length + 1)
            have z0 := World.ownsRow.frozenAt hown4 A'.length
            rw [show (A' ++ [y]).length = A'.length + 1 by simp] at k1
            have hm1 : ((A'.length + 1 : Nat) : Int) - 1 = (A'.length : Int) := by omega
            have hi1 : ((A'.length + 1 : Nat) : Int) < ((acc.length + 1 : Nat) : Int) := by omega
            cases hxy : lt x y
            · have e := ins_fin d2.out.1 hinc.out hm.out d2.out.2 (.inr ⟨A', y, rfl, hxy⟩)
              have e' : ∀ z, z ∈ (A' ++ [y]) ++ x :: B ↔ z ∈ xs.take (K + 1) := fun z => by rw [mem_mid d2.out.1, hmem.out]
              replace e := Lib.hid (And.intro e e')
              unfold lt at hxy
              clear e' d2
              go_wp2_with fail
              go_quiet (fail)
              go_wp2_with fail
              go_roundg kO
              case measure => omega
              case rel => exact ⟨K + 1, _, (A' ++ [y]) ++ x :: B, rfl, below_drewN hb4 _, by go_num, by rw [show ((A' ++ [y]) ++ x :: B).length = acc.length + 1 by simp; omega]; exact (own_below hown4 (below_drewN (Below.refl _ _) nq)), by omega, by simp; omega, e⟩
            · have e : A' ++ y :: B = acc ∧ ∀ b ∈ y :: B, lt x b = true := ⟨by rw [← d2.out.1]; simp, fun b hb => by
                rcases List.mem_cons.1 hb with rfl | hb
                · exact hxy
                · exact d2.out.2 b hb⟩
              replace e := Lib.hid e
              unfold lt at hxy
              clear d2
              go_wp2_with fail
              go_quiet (fail)
              go_wp2_with fail
              have o1 := (World.ownsRow.stored (own_below hown4 (below_drewN (Below.refl _ _) nq)) (A'.length + 1) (.string y)).1
              have o2 := (World.ownsRow.stored o1 A'.length (.string x)).1
              rw [swap_sv] at o2
              go_roundg A'.length
              case measure => omega
              case rel => exact ⟨A', y :: B, ((below_drewN hb4 nq).setCell (p := ⟨g3, A'.length + 1, none⟩) hg3 _).setCell (p := ⟨g3, A'.length, none⟩) hg3 _, by go_num, rfl, by omega, o2, e⟩
    · have e : acc = sortS xs := by
        refine sort_is c3.out.1 fun x => ?_
        rw [c3.out.2, List.take_of_length_le (by omega)]
      subst e
      clear c3
      go_wp2_with fail
      exact hR.out _ _ (RdS.of_own hown) hbel
end Go.Proofs.Ytfefjjejigaobaa.Nam
