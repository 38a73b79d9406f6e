/- Find, Len, Sorted of a table, and of none. -/
import Derived.Test.YtoeianacjnlepaaNamF
set_option maxRecDepth 100000
set_option linter.unusedVariables false
namespace Go.Proofs.Ytoeianacjnlepaa.Nam
open Go.RowKit Go.Lib Go.Proofs.Ytoeianacjnlepaa.Utf Go.Shelf

theorem search_calls (ds : List ByteArray) (x : ByteArray) (v : Value) (w : World) (hd : RdS w v ds) (hi : Inc ds) (hl : ds.length ≤ 1000000) (R : Ending → World → Prop)
    (hR : Hid (∀ (k nq : Nat) (b : Bool), (b = true ↔ k < ds.length ∧ at_ ds k = x) → (x ∈ ds ↔ k < ds.length ∧ at_ ds k = x) → R (.returned (.tuple #[.int .i64 k, .bool b])) (w.drewN nq))) :
    Calls Try.prog 56 #[v, .string x] w R := by
  obtain ⟨A, c, rfl, hlc, hr⟩ := hd.open
  rcases Nat.eq_zero_or_pos ds.length with hz | hz
  · obtain rfl := List.eq_nil_of_length_eq_zero hz
    have := Any2.slices_BinarySearch_string_empty Ytoeianacjnlepaa.searchStr A c x w
    change Calls Try.prog 56 _ _ _ at this
    refine this.mono ?_
    rintro e w' ⟨rfl, rfl⟩
    exact hR.out 0 0 false (by simp) (by simp)
  · obtain ⟨g, o, rfl, hg, hca⟩ := hr hz
    obtain ⟨k, h1, h2, h3⟩ := inc_split hi x
    have := Any2.slices_BinarySearch_string Ytoeianacjnlepaa.searchStr g o ds.length c (fun j => at_ ds j) x w (by omega) hca
    change Calls Try.prog 56 _ _ _ at this
    have e : Lib.bsGo (fun t => Go.Op.bytesLess (at_ ds t).toList x.toList) ds.length 0 ds.length = k := by
      have e1 : ∀ f lo hi', hi' ≤ ds.length → Lib.bsGo (fun t => Go.Op.bytesLess (at_ ds t).toList x.toList) f lo hi' = Lib.bsGo (fun t => decide (t < k)) f lo hi' := by
        intro f
        induction f with
        | zero => intro lo hi' _; rfl
        | succ f ih =>
          intro lo hi' hh
          unfold Lib.bsGo
          by_cases hlt : lo < hi'
          · rw [if_pos hlt, if_pos hlt]
            have : Go.Op.bytesLess (at_ ds ((lo + hi') / 2)).toList x.toList = decide ((lo + hi') / 2 < k) := by
              by_cases hm : (lo + hi') / 2 < k
              · rw [decide_eq_true hm]; exact h2 _ hm
              · rw [decide_eq_false hm]; exact h3 _ (by omega) (by omega)
            rw [this, ih _ _ hh, ih _ _ (by omega)]
          · rw [if_neg hlt, if_neg hlt]
      rw [e1 _ _ _ (Nat.le_refl _)]
      exact Lib.bsGo_spec _ k (fun t ht => decide_eq_true ht) (fun t ht => decide_eq_false (by omega)) _ _ _ (by omega) (Nat.zero_le _) h1
    refine this.mono ?_
    rintro e' w' ⟨rfl, q, rfl⟩
    rw [e]
    exact hR.out k q _ decide_eq_true_iff (split_mem h2 h3 hi)

/-- What Find hands back. -/
def finS (xs : List ByteArray) (x : ByteArray) : Int × Bool := if findS xs x < 0 then (0, false) else (findS xs x, true)
theorem findS_mem (xs : List ByteArray) (x : ByteArray) : 0 ≤ findS xs x ↔ x ∈ sortS xs := by
  rw [sort_mem]
  rcases find_cases xs x with ⟨h1, h2⟩ | ⟨k, h1, h2, -, h4⟩
  · exact ⟨fun h => by omega, fun h => absurd h h2⟩
  · exact ⟨fun _ => List.mem_of_getElem? h2, fun _ => by omega⟩
theorem fv_get (xs ds : List ByteArray) (k : Nat) (h : k < ds.length) : (fv xs ds)[k]? = some (.int .i64 (findS xs (at_ ds k))) := by
  simp [fv, at_some h]

theorem find_calls (xs : List ByteArray) (x : ByteArray) (v : Value) (w : World) (h0 : xs.length ≤ 1000000) (hT : RdT w v xs) (R : Ending → World → Prop)
    (hR : Hid (∀ nq, R (.returned (.tuple #[.int .i64 (finS xs x).1, .bool (finS xs x).2])) (w.drewN nq))) : Calls Try.prog 40 #[v, .string x] w R := by
  obtain ⟨p, v1, v2, rfl, hp, c0, c1, r1, r2, -⟩ := hT
  have hl := sort_len xs
  have hm := findS_mem xs x
  have cS := fun R hR => search_calls (sortS xs) x v1 w r1 (sort_inc xs) (by omega) R hR
  obtain ⟨A2, n2, d2, rfl, hl2, hn2, hc2⟩ := r2
  have hz := fv_len xs (sortS xs)
  rw [hz, Nat.mul_one] at hl2
  subst hl2
  have hF : ∀ k, k < (sortS xs).length → at_ (sortS xs) k = x → (fv xs (sortS xs))[k]? = some (.int .i64 (findS xs x)) := fun k h e => by rw [fv_get xs _ k h, e]
  obtain ⟨A1, d1, e1, -, -⟩ := r1.open
  subst e1
  unfold finS at hR
  generalize findS xs x = f at *
  rw [hz] at hc2
  generalize fv xs (sortS xs) = F at *
  generalize sortS xs = ds at *
  clear r1 hz
  replace cS := Lib.hid cS
  replace hF := Lib.hid hF
  replace hc2 := Lib.hid hc2
  replace hm := Lib.hid hm
  by_cases hf : f < 0
  · rw [if_pos hf] at hR
    simp only at hR
    go_enter Try.func40, Try.ntmps40
    go_wp2_with fail
    refine cS.out _ (Lib.hid fun k nq b e1 e2 => ?_)
    have hb : b = false := by
      cases b
      · rfl
      · have := hm.out.2 (e2.2 (e1.1 rfl)); omega
    subst hb
    replace e1 := Lib.hid e1
    replace e2 := Lib.hid e2
    go_wp2_with fail
    exact hR.out _
  · rw [if_neg hf] at hR
    simp only at hR
    go_enter Try.func40, Try.ntmps40
    go_wp2_with fail
    refine cS.out _ (Lib.hid fun k nq b e1 e2 => ?_)
    obtain ⟨hk, hx⟩ := e2.1 (hm.out.1 (by omega))
    have hb : b = true := e1.2 ⟨hk, hx⟩
    subst hb
    have hg := hF.out k hk hx
    obtain ⟨g, o, rfl, hg1, hca⟩ := hc2.out (by omega)
    have hc := hca k _ hg
    clear hca hg
    replace e1 := Lib.hid e1
    replace e2 := Lib.hid e2
    replace hx := Lib.hid hx
    go_wp2_with fail
    exact hR.out _
theorem findnone_calls (x : ByteArray) (w : World) (R : Ending → World → Prop) (hR : Hid (R (.returned (.tuple #[.int .i64 0, .bool false])) w)) : Calls Try.prog 40 #[.pointer none, .string x] w R := by
  go_enter Try.func40, Try.ntmps40
  go_wp2_with fail
  exact hR.out
theorem clone_calls (l : List ByteArray) (v : Value) (w : World) (hx : RdS w v l) (hv : v = .slice none 0 0 ∨ ∃ g o n c, v = .slice (some ⟨g, o, none⟩) n c) (hl : l.length ≤ 1000000) (R : Ending → World → Prop)
    (hR : Hid (∀ v' w', RdS w' v' l → Below w.heap.size w w' → R (.returned v') w')) : Calls Try.prog 41 #[v] w R := by
  obtain ⟨i0, hi, hz0, hz1, hz2⟩ := info_parts infoStr
  obtain ⟨A, c, e, hc, hr⟩ := hx.open
  rcases hv with e2 | ⟨g, o, n, c2, e2⟩
  · rw [e2] at e
    simp only [Value.slice.injEq] at e
    obtain ⟨rfl, hz, rfl⟩ := e
    obtain rfl := List.eq_nil_of_length_eq_zero hz.symm
    subst e2
    have := AnyE.slices_Clone_nil Ytoeianacjnlepaa.cloneStr 0 0 w
    change Calls Try.prog 41 _ _ _ at this
    refine this.mono ?_
    rintro e w' ⟨rfl, rfl⟩
    exact hR.out _ _ (RdS.none0 _ _ _) (Below.refl _ _)
  · rw [e2] at e
    simp only [Value.slice.injEq] at e
    obtain ⟨rfl, rfl, rfl⟩ := e
    subst e2
    have hcell : ∀ j u, (sv l)[j]? = some u → w.cell? ⟨g, o + j, none⟩ = some u := fun j u hj => by
      have hj2 : j < l.length := by have := (List.getElem?_eq_some_iff.1 hj).1; rwa [sv_len] at this
      obtain ⟨g', o', e, -, hca⟩ := hr (by omega)
      simp only [Option.some.injEq, Addr.mk.injEq, and_true] at e
      obtain ⟨rfl, rfl⟩ := e
      rw [hca j hj2, ← hj, sv_get l j hj2]
    have := AnyE.slices_Clone Ytoeianacjnlepaa.cloneStr i0 (.string ByteArray.empty) 1 16 hi hz0 hz1 hz2 rfl (by decide) Try.sizeOf9 g o l.length c2 (sv l) w (by rw [sv_len, Nat.mul_one]) (by unfold maxLen; omega) (by omega)
      hcell (fun u hu => by simp only [sv, List.mem_map] at hu; obtain ⟨s, -, rfl⟩ := hu; rfl)
    change Calls Try.prog 41 _ _ _ at this
    refine this.mono ?_
    rintro e w' ⟨v', rfl, hown, -, hb⟩
    exact hR.out _ _ (RdS.of_own hown) hb
end Go.Proofs.Ytoeianacjnlepaa.Nam
