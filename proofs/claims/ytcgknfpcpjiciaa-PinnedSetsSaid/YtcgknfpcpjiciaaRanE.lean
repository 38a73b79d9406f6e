/- The sort of a set's ranges, by the library's own contract, and what New makes. -/
import Derived.Test.YtcgknfpcpjiciaaRanD
import Derived.Test.YtcgknfpcpjiciaaRanL
import Derived.Lib.OwnBridge
import Derived.Lib.AppendIntMem
set_option linter.unusedVariables false
namespace Go.Proofs.Ytcgknfpcpjiciaa.Ran
open Go.Shelf Go.RowKit Go.Lib Go.Sort

def cmpI (x y : Int) : Int := if x < y then -1 else if y < x then 1 else 0
theorem cmpI_calls (x y : Int) (w : World) (R : Ending → World → Prop) (hR : R (.returned (.int .i64 (cmpI x y))) w) : Calls Try.prog 42 #[.int .i32 x, .int .i32 y] w R := by
  have hC : cmpI x y = if x < y then -1 else if y < x then 1 else 0 := rfl
  replace hC := Lib.hid hC
  replace hR := Lib.hid hR
  by_cases h1 : x < y
  · go_enter Try.func42, Try.ntmps42
    go_wp2_with go_in
    exact retI hR.out (by rw [hC.out, if_pos h1])
  by_cases h2 : y < x
  · go_enter Try.func42, Try.ntmps42
    go_wp2_with go_in
    exact retI hR.out (by rw [hC.out, if_neg (by omega), if_pos h2])
  · go_enter Try.func42, Try.ntmps42
    go_wp2_with go_in
    exact retI hR.out (by rw [hC.out, if_neg (by omega), if_neg (by omega)])
/-- The closure that New hands to the sort: two blocks are laid (its two parameters). -/
theorem newf_calls (x y : Rg) (W : World) : Calls Try.prog 41 #[.agg #[.int .i32 x.1, .int .i32 x.2], .agg #[.int .i32 y.1, .int .i32 y.2]] W
    fun e w' => e = .returned (.int .i64 (cmpI x.1 y.1)) ∧ ∃ q os', w' = grow (W.drewN q) os' := by
  obtain ⟨x1, x2⟩ := x
  obtain ⟨y1, y2⟩ := y
  simp only
  have fin : ∀ r : Int, ∀ W', W' = (W.alloc (.cells #[.int .i32 x1, .int .i32 x2] 54)).alloc (.cells #[.int .i32 y1, .int .i32 y2] 54) → (Ending.returned (.int .i64 r) = .returned (.int .i64 r) ∧ ∃ q os', W' = grow (W.drewN q) os') := fun r W' h => by
    subst h; exact ⟨rfl, 0, _, by rw [alloc_eq_grow, alloc_eq_grow, grow_grow]; rfl⟩
  replace fin := Lib.hid fin
  generalize hP : (fun (e : Ending) w' => e = .returned (.int .i64 (cmpI x1 y1)) ∧ ∃ q os', w' = grow (W.drewN q) os') = P
  have hP' : ∀ W', W' = (W.alloc (.cells #[.int .i32 x1, .int .i32 x2] 54)).alloc (.cells #[.int .i32 y1, .int .i32 y2] 54) → P (.returned (.int .i64 (cmpI x1 y1))) W' := fun W' h => by subst hP; exact fin.out _ _ h
  replace hP' := Lib.hid hP'
  clear fin hP
  go_enter Try.func41, Try.ntmps41
  go_wp2_with fail
  refine cmpI_calls _ _ _ _ ?_
  go_wp2_with fail
  exact hP'.out _ rfl

theorem ltI (x y : Rg) : ltOf (fun x y : Rg => cmpI x.1 y.1) x y = decide (x.1 < y.1) := by
  unfold ltOf cmpI
  by_cases h1 : x.1 < y.1
  · simp [h1]
  · by_cases h2 : y.1 < x.1 <;> simp [h1, h2]
theorem swoI : SWO (ltOf fun x y : Rg => cmpI x.1 y.1) where
  irrefl x := by rw [ltI]; simp
  trans x y z h1 h2 := by rw [ltI] at *; simp at *; omega
  ntrans x y z h1 h2 := by rw [ltI] at *; simp at *; omega

theorem flatK_get (l : List Rg) (j : Nat) (h : j < l.length * 2) : (flatK enc 2 l.toArray)[j]! = (flat l)[j]?.getD default := by
  rw [get_flatK enc 2 l.toArray j (by simpa using h)]
  have hk : j / 2 < l.length := by omega
  obtain ⟨f0, f1⟩ := flat_get l (j / 2) hk
  have e : l.toArray[j / 2]! = l.getD (j / 2) (0, 0) := by simp [List.getD, hk, getElem!_pos, List.getElem?_eq_getElem]
  rw [e]
  rcases Nat.mod_two_eq_zero_or_one j with h2 | h2
  · rw [h2]
    rw [show j / 2 * 2 = j by omega] at f0
    rw [f0]; rfl
  · rw [h2]
    rw [show j / 2 * 2 + 1 = j by omega] at f1
    rw [f1]; rfl
theorem holds_of_own {w : World} {base g cap n : Nat} {e : TypeId} {l : List Rg} (h : w.ownsRow base e 2 (.slice (some ⟨g, 0, none⟩) n cap) n (flat l)) (hn : n = l.length) : HoldsK enc 2 w g 0 l.toArray := by
  intro j hj
  rw [size_flatK] at hj
  have hj' : j < l.length * 2 := by simpa using hj
  rw [flatK_get l j hj']
  refine ⟨?_, by rw [Nat.zero_add]; exact World.ownsRow.frozenAt h j⟩
  rw [Nat.zero_add, World.ownsRow.cellAt h j (by omega), List.getElem?_eq_getElem (by rw [flat_len]; omega)]
  rfl
theorem rd_of_holds {w : World} {g cap : Nat} {l : List Rg} (hH : HoldsK enc 2 w g 0 l.toArray) (hg : g < w.heap.size) (hc : l.length ≤ cap) : RdR w (.slice (some ⟨g, 0, none⟩) l.length cap) l := by
  refine ⟨_, l.length, cap, rfl, flat_len l, hc, fun _ => ⟨g, 0, rfl, hg, fun j u hj => ?_⟩⟩
  have hj2 : j < l.length * 2 := by
    have := (List.getElem?_eq_some_iff.1 hj).1; rwa [flat_len] at this
  have := (hH j (by rw [size_flatK]; simpa using hj2)).1
  rw [flatK_get l j hj2, hj] at this
  simpa using this
theorem perm_of {l : List Rg} {d' : Array Rg} (h : PermIn 0 l.toArray.size l.toArray d') : d'.toList.Perm l := by
  obtain ⟨h1, -, h3⟩ := h
  have e1 : (d'.extract 0 l.toArray.size).toList = d'.toList := by rw [← h1]; simp
  have e2 : (l.toArray.extract 0 l.toArray.size).toList = l := by simp
  rw [e1, e2] at h3
  exact h3
theorem sorted_of {l : List Rg} {d' : Array Rg} (hs : d'.size = l.length) (h : SortedIn (ltOf fun x y : Rg => cmpI x.1 y.1) 0 l.toArray.size d') : d'.toList.Pairwise fun a b => a.1 ≤ b.1 := by
  rw [List.pairwise_iff_getElem]
  intro i j hi hj hij
  have := h i j (Nat.zero_le _) hij (by simp at hj ⊢; omega)
  rw [ltI] at this
  simp at hi hj
  rw [getElem!_pos d' j hj, getElem!_pos d' i hi] at this
  simp at this ⊢
  omega

set_option maxHeartbeats 1000000 in
/-- The sort, called on a row of the call's own. -/
theorem sort_calls (l : List Rg) (v : Value) (w : World) (base : Nat) (e : TypeId) (hown : w.ownsRow base e 2 v l.length (flat l)) (hlen : l.length ≤ 17592186044416) (R : Ending → World → Prop)
    (hR : Hid (∀ l' w', l'.Perm l → l'.Pairwise (fun a b => a.1 ≤ b.1) → RdR w' v l' → Below base w w' → R (.returned (.tuple #[])) w')) (hbase : base ≤ w.heap.size) :
    Calls Try.prog 40 #[v, .func (.func 41) #[] #[]] w R := by
  rcases Nat.eq_zero_or_pos l.length with h0 | h0
  · obtain rfl := List.eq_nil_of_length_eq_zero h0
    have hv : ∃ p c, v = .slice p 0 c := by
      rcases (own_nil hown).1 with rfl | ⟨g, c, rfl⟩ <;> exact ⟨_, _, rfl⟩
    have hrd := RdR.of_own (l := []) hown
    obtain ⟨p, c, rfl⟩ := hv
    have := AnyF.slices_SortFunc_none Ytcgknfpcpjiciaa.sortRg p c (.func (.func 41) #[] #[]) w
    change Calls Try.prog 40 _ _ _ at this
    refine this.mono ?_
    rintro e w' ⟨rfl, rfl⟩
    exact hR.out [] w' (List.Perm.refl _) List.Pairwise.nil hrd (Below.refl _ _)
  · obtain ⟨g, cap, rfl, hg1, hg2, hcap, -⟩ := own_at hown h0
    have hH := holds_of_own hown rfl
    have eg : ∀ args w, (callFunc 41 args).run Try.prog w = .ok (.enter 41 args) w := enters_of Try.func41 (by kernel_rfl) rfl
    have := AnyQ.slices_SortFunc Ytcgknfpcpjiciaa.sortRg 2 Try.isAgg54 Try.sizeOf54 enc (fun _ => rfl) (fun x v hv => by simp [enc] at hv; rcases hv with rfl | rfl <;> rfl) (fun x y => cmpI x.1 y.1) swoI 41 #[] g 0 cap l.toArray w eg
      (fun _ _ _ _ x y => newf_calls x y _) hH hg2 (by simp; omega)
    change Calls Try.prog 40 _ _ _ at this
    rw [List.size_toArray] at this
    refine this.mono ?_
    rintro e w' ⟨rfl, d', n, os, hp, hs, rfl⟩
    have hsz : d'.size = l.length := by simpa using hp.1
    have hd : d' = d'.toList.toArray := by simp
    refine hR.out d'.toList _ (perm_of (by simpa using hp)) (sorted_of hsz (by simpa using hs)) ?_ ?_
    · have h1 := holdsK_sortWorldK_c enc 2 w g 0 l.toArray d' n os hH hg2 (by simp [hsz])
      have h2 := size_sortWorldK_c enc 2 w g 0 n d' os
      have := rd_of_holds (l := d'.toList) (cap := cap) (by simpa using h1) (Nat.lt_of_lt_of_le hg2 h2) (by simp [hsz]; omega)
      simpa [hsz] using this
    · unfold sortWorldK putRowK
      have h1 := Lib.below_putRow (enc := id) (B := base) (w0 := w) (w := w) (g := g) (q := n) (d := flatK enc 2 d') (Below.refl _ _) hg1
      refine h1.trans ?_
      exact Lib.below_grow base _ (Nat.le_trans hbase h1.size) 0 os
end Go.Proofs.Ytcgknfpcpjiciaa.Ran
