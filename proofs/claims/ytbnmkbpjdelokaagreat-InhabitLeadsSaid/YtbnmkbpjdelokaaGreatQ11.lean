import Derived.Test.YtbnmkbpjdelokaaGreatQ10
import Derived.Test.YtbnmkbpjdelokaaGreatQ6
import Derived.Lib.OwnBridge
import Derived.Lib.AppendIntMem
import Derived.Laws.MakeOwn
import Derived.Deep.WholeRow
set_option linter.unusedVariables false
set_option maxRecDepth 100000
set_option maxHeartbeats 4000000
namespace Go.Proofs.YtbnmkbpjdelokaaGreat.Nam
open Go.RowKit Go.Lib Utf Go.Sort Go.Shelf
theorem strcmp_calls (a b : ByteArray) (w : World) (R : Ending → World → Prop) (hR : Hid (R (.returned (.int .i64 (cmpS a b))) w)) : Calls Tryz.prog 127 #[.string a, .string b] w R := by
  have := Any.strings_Compare YtbnmkbpjdelokaaGreat.compStr a b w
  change Calls Tryz.prog 127 _ _ _ at this
  refine this.mono ?_
  rintro e w' ⟨rfl, rfl⟩
  exact hR.out
theorem intcmp_calls (a b : Int) (w : World) (R : Ending → World → Prop) (hR : Hid (R (.returned (.int .i64 (compareInt a b))) w)) : Calls Tryz.prog 128 #[.int .i64 a, .int .i64 b] w R := by
  have := Any.cmp_Compare_int YtbnmkbpjdelokaaGreat.compInt a b w
  change Calls Tryz.prog 128 _ _ _ at this
  refine this.mono ?_
  rintro e w' ⟨rfl, rfl⟩
  exact hR.out
theorem or_calls (a c : Int) (b : Nat) (w : World) (h0 : w.cell? ⟨b, 0, none⟩ = some (.int .i64 a)) (h1 : w.cell? ⟨b, 1, none⟩ = some (.int .i64 c)) (R : Ending → World → Prop)
    (V : Int) (hV : (if a = 0 then c else a) = V) (hR : Hid (R (.returned (.int .i64 V)) w)) : Calls Tryz.prog 126 #[.slice (some ⟨b, 0, none⟩) 2 2] w R := by
  rw [← hV] at hR
  clear hV
  go_enter Tryz.func126, Tryz.ntmps126
  go_wp2_with fail
  go_loopg [8] 2 (fun k i wr => ∃ (K : Nat), wr = w ∧ i = .int .i64 K ∧ K + k = 2 ∧ (0 < K → a = 0) ∧ (1 < K → c = 0))
  case atStart => exact ⟨0, rfl, rfl, rfl, fun h => by omega, fun h => by omega⟩
  case round =>
    obtain ⟨K, rfl, rfl, c1, c2, c3⟩ := hrel
    obtain rfl | rfl | rfl : K = 0 ∨ K = 1 ∨ K = 2 := by omega
    · clear c2 c3
      by_cases h : a = 0
      · subst h
        rw [if_pos rfl] at hR
        go_wp2_with fail
        go_roundg 1
        case measure => omega
        case rel => exact ⟨1, rfl, rfl, rfl, fun _ => by first | rfl | trivial, fun h => by omega⟩
      · rw [if_neg h] at hR
        have hb : (a == 0) = false := by simpa using h
        have hn : (a != 0) = true := by simpa using h
        go_wp2_with fail
        exact hR.out
    · have h := c2 (by omega)
      subst h
      rw [if_pos rfl] at hR
      clear c2 c3
      by_cases h : c = 0
      · subst h
        go_wp2_with fail
        go_roundg 0
        case measure => omega
        case rel => exact ⟨2, rfl, rfl, rfl, fun _ => by first | rfl | trivial, fun _ => by first | rfl | trivial⟩
      · have hb : (c == 0) = false := by simpa using h
        have hn : (c != 0) = true := by simpa using h
        go_wp2_with fail
        exact hR.out
    · have h := c2 (by omega)
      have g := c3 (by omega)
      subst h g
      rw [if_pos rfl] at hR
      clear c2 c3
      go_wp2_with fail
      exact hR.out
theorem less_calls (xs : List ByteArray) (lv : Value) (p i j : Nat) (w : World) (hi : i < xs.length) (hj : j < xs.length) (hx : RdS w lv xs) (hp : w.cell? ⟨p, 0, none⟩ = some lv) :
    Calls Tryz.prog 125 #[.int .i64 i, .int .i64 j, .pointer (some ⟨p, 0, none⟩)] w fun e w' => e = .returned (.int .i64 (cmpI xs i j)) ∧ ∃ q os', w' = grow (w.drewN q) os' := by
  obtain ⟨A, c, rfl, hlc, hr⟩ := hx.open
  obtain ⟨g, o, rfl, hg, hca⟩ := hr (by omega)
  have hpl : p < w.heap.size := World.block_lt_of_cell? w (a := ⟨p, 0, none⟩) hp
  have e0 := hca i hi
  have e1 := hca j hj
  clear hca hr hx
  obtain ⟨V, hV⟩ : ∃ V, cmpI xs i j = V := ⟨_, rfl⟩
  rw [hV]
  unfold cmpI at_ at hV
  generalize xs.getD i ByteArray.empty = a at *
  generalize xs.getD j ByteArray.empty = b at *
  generalize hP : (fun (e : Ending) w' => e = .returned (.int .i64 V) ∧ ∃ q os', w' = grow (w.drewN q) os') = P
  have hP' : ∀ os', P (.returned (.int .i64 V)) (grow w.drew os') := fun os' => by subst hP; exact ⟨rfl, 1, os', rfl⟩
  replace hP' := Lib.hid hP'
  clear hP
  have hI : (i : Int) < xs.length := by omega
  have hJ : (j : Int) < xs.length := by omega
  generalize hm : cmpS a b = m at *
  generalize hn : compareInt i j = n at *
  replace hV := Lib.hid hV
  have cS := fun W R hR => strcmp_calls a b W R hR
  rw [hm] at cS
  have cC := fun W R hR => intcmp_calls i j W R hR
  rw [hn] at cC
  replace cS := Lib.hid cS
  replace cC := Lib.hid cC
  clear hm hn
  go_enter Tryz.func125, Tryz.ntmps125
  go_wp2_with fail
  go_region_held3 (fun w' => w'.cell? ⟨p, 0, none⟩ = some (.slice (some ⟨g, o, none⟩) xs.length c) ∧ w'.cell? ⟨g, o + i, none⟩ = some (.string a) ∧ w'.cell? ⟨g, o + j, none⟩ = some (.string b))
    (first | exact ⟨hp, e0, e1⟩ | exact ⟨alloc_keep hpl hp, alloc_keep hg e0, alloc_keep hg e1⟩ | trace_state)
    (first
      | (go_at_call 127; refine cS.out _ _ (Lib.hid ?_))
      | (go_at_call 128; refine cC.out _ _ (Lib.hid ?_))
      | (go_at_call 126; refine or_calls m n _ _ (by exact (cell_of_row _ _ 0 _ _ (0, 0) (heap_alloc_last _ _)).trans rfl) (by exact (cell_of_row _ _ 1 _ _ (0, 0) (heap_alloc_last _ _)).trans rfl) _ V hV.out (Lib.hid ?_)))
  all_goals
    go_wp2_with fail
    rw [alloc_eq_grow]
    exact hP'.out _
end Go.Proofs.YtbnmkbpjdelokaaGreat.Nam
namespace Go.Proofs.YtbnmkbpjdelokaaGreat.Nam
open Go.RowKit Go.Lib Utf
def iv (ix : List Nat) : List Value := ix.map fun i => .int .i64 (i : Nat)
theorem iv_len (l : List Nat) : (iv l).length = l.length := by simp [iv]
theorem iv_get (l : List Nat) (k : Nat) (h : k < l.length) : (iv l)[k]? = some (.int .i64 (l.getD k 0 : Nat)) := by simp [iv, List.getD, List.getElem?_eq_getElem h]
def RdI (w : World) (v : Value) (l : List Nat) : Prop := RdAt w v 1 (iv l)
theorem RdI.open {w : World} {v : Value} {l : List Nat} (h : RdI w v l) : ∃ (A : Option Addr) (c : Nat), v = .slice A l.length c ∧ l.length ≤ c ∧
    (0 < l.length → ∃ g o, A = some ⟨g, o, none⟩ ∧ g < w.heap.size ∧ ∀ k, k < l.length → w.cell? ⟨g, o + k, none⟩ = some (.int .i64 (l.getD k 0 : Nat))) := by
  obtain ⟨A, n, c, rfl, hl, hn, hc⟩ := h
  rw [iv_len] at hl
  obtain rfl : n = l.length := by omega
  refine ⟨A, c, rfl, hn, fun h0 => ?_⟩
  obtain ⟨g, o, rfl, hg, hc⟩ := hc (by rw [iv_len]; omega)
  exact ⟨g, o, rfl, hg, fun k hk => hc _ _ (iv_get l k hk)⟩
theorem RdI.none0 (w : World) (A : Option Addr) (c : Nat) : RdI w (.slice A 0 c) [] := ⟨A, 0, c, rfl, rfl, Nat.zero_le _, fun h => absurd h (by simp [iv])⟩
theorem cell_new1 (W : World) (v : Value) (T : TypeId) : (W.alloc (.cells #[v] T)).cell? ⟨W.heap.size, 0, none⟩ = some v := by rw [World.cell?_alloc_new]; rfl
theorem infoInt : (Tryz.prog.info? 3).map (fun i => (i.zero, i.size, i.bytes)) = some (some (.int .i64 0), 1, 8) := by kernel_rfl
end Go.Proofs.YtbnmkbpjdelokaaGreat.Nam
namespace Go.Proofs.YtbnmkbpjdelokaaGreat.Nam
open Go.RowKit Go.Lib Utf Go.Sort Go.Shelf
def encF {n : Nat} (x : Fin n) : Value := .int .i64 (x.1 : Nat)
theorem ltF (xs : List ByteArray) (x y : Fin xs.length) : ltOf (fun x y : Fin xs.length => cmpI xs x.1 y.1) x y = true ↔ bef xs x.1 y.1 := by
  unfold ltOf; rw [decide_eq_true_iff, cmpI_lt]
theorem ltF_f (xs : List ByteArray) (x y : Fin xs.length) : ltOf (fun x y : Fin xs.length => cmpI xs x.1 y.1) x y = false ↔ ¬ bef xs x.1 y.1 := by
  rw [← ltF, Bool.not_eq_true]
theorem swoF (xs : List ByteArray) [Inhabited (Fin xs.length)] : SWO (ltOf fun x y : Fin xs.length => cmpI xs x.1 y.1) where
  irrefl x := by rw [ltF_f]; exact bef_irr _ _
  trans x y z h1 h2 := by rw [ltF] at *; exact bef_trans h1 h2
  ntrans x y z h1 h2 := by
    rw [ltF_f] at *
    intro h
    by_cases g : bef xs y.1 x.1
    · exact h2 (bef_trans g h)
    · have e := bef_tri h1 g
      rw [e] at h; exact h2 h
theorem getF {n : Nat} [Inhabited (Fin n)] {d : Array (Fin n)} {k : Nat} (h : k < d.size) : (d.toList.map (·.1)).getD k 0 = (d[k]!).1 := by
  simp [List.getD, h, getElem!_pos]
theorem sort_calls (xs : List ByteArray) (lv v : Value) (p B : Nat) (W1 w : World) (hB : W1.heap.size = B) (h0 : xs.length ≤ 1000000) (hx : RdS W1 lv xs) (hp : W1.cell? ⟨p, 0, none⟩ = some lv) (hpl : p < W1.heap.size) (hb : RowKit.Below B W1 w)
    (hown : w.ownsRow B 3 1 v xs.length (iv (List.range xs.length))) (R : Ending → World → Prop)
    (hR : Hid (∀ ix w', Ixs xs ix → RdI w' v ix → RowKit.Below B W1 w' → R (.returned (.tuple #[])) w')) :
    Calls Tryz.prog 124 #[v, .func (.func 125) #[] #[.pointer (some ⟨p, 0, none⟩)]] w R := by
  subst hB
  rcases Nat.eq_zero_or_pos xs.length with hz | hz
  · obtain rfl := List.eq_nil_of_length_eq_zero hz
    obtain ⟨hv, -⟩ := own_nil hown
    have hv2 : ∃ A c, v = .slice A 0 c := by rcases hv with rfl | ⟨g, c, rfl⟩ <;> exact ⟨_, _, rfl⟩
    obtain ⟨A, c, rfl⟩ := hv2
    have := AnyF.slices_SortFunc_none (P := Tryz.prog) { YtbnmkbpjdelokaaGreat.sortInt with } A c (.func (.func 125) #[] #[.pointer (some ⟨p, 0, none⟩)]) w
    change Calls Tryz.prog 124 _ _ _ at this
    refine this.mono ?_
    rintro e w' ⟨rfl, rfl⟩
    exact hR.out [] _ ⟨List.Perm.refl _, List.Pairwise.nil⟩ (RdI.none0 _ _ _) hb
  · obtain ⟨g, cap, rfl, hg1, hg2, hcap, hcells⟩ := own_at hown hz
    haveI : Inhabited (Fin xs.length) := ⟨⟨0, hz⟩⟩
    have hd : (List.finRange xs.length).toArray.size = xs.length := by simp
    have hH : Holds encF w g 0 (List.finRange xs.length).toArray := by
      intro j hj
      rw [hd] at hj
      refine ⟨?_, by rw [Nat.zero_add]; exact World.ownsRow.frozenAt hown j⟩
      rw [Nat.zero_add, hcells j (by omega), iv_get _ _ (by simpa using hj)]
      simp [encF, List.getD, hj, getElem!_pos]
    have eg : ∀ args w, (callFunc 125 args).run Tryz.prog w = .ok (.enter 125 args) w := enters_of Tryz.func125 (by kernel_rfl) rfl
    have hbs : ∀ m (dk : Array (Fin xs.length)) os, RowKit.Below W1.heap.size W1 (sortWorld encF w g 0 m dk os) := fun m dk os => by
      unfold sortWorld
      have h1 := Lib.below_putRow (enc := encF) (B := W1.heap.size) (w0 := W1) (w := w) (g := g) (q := m) (d := dk) hb hg1
      exact h1.trans (Lib.below_grow W1.heap.size _ h1.size 0 os)
    have := Any.slices_SortFunc YtbnmkbpjdelokaaGreat.sortInt encF (fun _ => rfl) (fun x y : Fin xs.length => cmpI xs x.1 y.1) (swoF xs) 125 #[.pointer (some ⟨p, 0, none⟩)] g 0 cap (List.finRange xs.length).toArray w eg
      (fun m os dk _ x y => less_calls xs lv p x.1 y.1 _ x.2 y.2 (hx.below (hbs m dk os)) (((hbs m dk os).cell (p := ⟨p, 0, none⟩) hpl).trans hp)) hH hg2 (by rw [hd]; omega)
    change Calls Tryz.prog 124 _ _ _ at this
    rw [hd] at this
    refine this.mono ?_
    rintro e w' ⟨rfl, d', n, os, hpm, hs, rfl⟩
    have hsz : d'.size = xs.length := by rw [hpm.1, hd]
    have hperm : d'.toList.Perm (List.finRange xs.length) := by
      have := hpm.2.2
      have e1 : (d'.extract 0 xs.length).toList = d'.toList := by
        have h := Array.extract_size (xs := d')
        rw [hsz] at h
        rw [h]
      have e2 : ((List.finRange xs.length).toArray.extract 0 xs.length).toList = List.finRange xs.length := by
        have : (List.finRange xs.length).toArray.extract 0 (List.finRange xs.length).toArray.size = (List.finRange xs.length).toArray := Array.extract_size
        rw [hd] at this; rw [this]
      rw [e1, e2] at this
      exact this
    refine hR.out (d'.toList.map (·.1)) _ ?_ ?_ (hbs _ _ _)
    · refine Ixs.of_sorted ?_ fun i j hij hj => ?_
      · have := hperm.map (fun x : Fin xs.length => x.1)
        rwa [show (List.finRange xs.length).map (fun x : Fin xs.length => x.1) = List.range xs.length from List.ext_getElem (by simp) fun i h1 h2 => by simp] at this
      · have hj' : j < d'.size := by simpa using hj
        rw [getF hj', getF (show i < d'.size by omega)]
        exact (ltF_f xs _ _).1 (hs i j (Nat.zero_le _) hij (by omega))
    · have h1 := holds_sortWorld encF w g 0 n (List.finRange xs.length).toArray d' os hg2 hH (by rw [hsz, hd])
      have h2 := lt_sortWorld encF w g 0 n d' os hg2
      refine ⟨_, xs.length, cap, rfl, by rw [iv_len]; simp [hsz], hcap, fun _ => ⟨g, 0, rfl, h2, fun j u hj => ?_⟩⟩
      have hj2 : j < d'.size := by have := (List.getElem?_eq_some_iff.1 hj).1; rw [iv_len] at this; simpa using this
      rw [(h1 j hj2).1, ← hj, iv_get _ _ (by simpa using hj2), getF hj2]
      rfl
theorem mk_int (n : Nat) (hn : n ≤ 1000000) : ∃ M : Array Value, M.size = n ∧
    ∀ w, (Instr.makeSlice 41 (.int .i64 n) (.int .i64 n)).run Tryz.prog w = .ok (.slice (some ⟨w.heap.size, 0, none⟩) n n) (w.alloc (.cells M 3)) := by
  obtain ⟨i0, hi, hz0, hz1, hz2⟩ := info_parts infoInt
  refine ⟨madeCells (#[.int .i64 0]) (n * 1), by rw [size_madeCells, Nat.mul_one], fun w => ?_⟩
  have := run_make (P := Tryz.prog) w 41 3 i0 _ Tryz.underlying41 hi hz0 .i64 .i64 n n (by omega) (Int.le_refl _) (by rw [hz2]; omega) (by omega)
  rw [hz1] at this
  exact this
def Fill (k : Nat) (zs : List Value) : Prop := ∀ j, j < k → zs[j]? = some (.int .i64 (j : Nat))
theorem Fill.put {k : Nat} {zs : List Value} (h : Fill k zs) (hk : k < zs.length) : Fill (k + 1) (zs.set k (.int .i64 (k : Nat))) := fun j hj => by
  rcases Nat.eq_or_lt_of_le (Nat.le_of_lt_succ hj) with e | hj
  · subst e; simp [hk]
  · rw [List.getElem?_set_ne (by omega)]; exact h j hj
theorem Fill.fin {zs : List Value} (h : Fill zs.length zs) : zs = iv (List.range zs.length) := by
  refine List.ext_getElem? fun j => ?_
  by_cases hj : j < zs.length
  · rw [h j hj, iv_get _ _ (by simpa using hj)]; simp [List.getD, hj]
  · rw [List.getElem?_eq_none (by omega), List.getElem?_eq_none (by rw [iv_len]; simp; omega)]
theorem sorted_calls (xs : List ByteArray) (lv : Value) (w : World) (h0 : xs.length ≤ 1000000) (hx : RdS w lv xs) (R : Ending → World → Prop)
    (hR : Hid (∀ ix v w', Ixs xs ix → RdI w' v ix → (∀ g o n c, v = .slice (some ⟨g, o, none⟩) n c → w.heap.size ≤ g) → RowKit.Below w.heap.size w w' → R (.returned v) w')) : Calls Tryz.prog 82 #[lv] w R := by
  obtain ⟨A, c, rfl, hlc, -⟩ := hx.open
  obtain ⟨M, hM, hmk⟩ := mk_int xs.length (by omega)
  have hmf : ∀ (fn : Fn) (first cap : Array Value) (w : World), (Instr.makeFunc fn first cap).run Tryz.prog w = .ok (.func fn first cap) w := fun _ _ _ _ => rfl
  have b1 := (RowKit.Below.refl w.heap.size w).alloc (Nat.le_refl _) (.cells #[.slice A xs.length c] 52)
  have hx1 := hx.below b1
  have k1 := cell_new1 w (.slice A xs.length c) 52
  have z1 : (w.alloc (.cells #[.slice A xs.length c] 52)).heap.size = w.heap.size + 1 := by simp
  clear hx
  replace hx1 := Lib.hid hx1
  go_enter Tryz.func82, Tryz.ntmps82
  go_wp2_with fail
  generalize w.alloc (.cells #[.slice A xs.length c] 52) = W1 at *
  have hown : (W1.alloc (.cells M 3)).ownsRow (w.heap.size + 1) 3 1 (.slice (some ⟨(w.heap.size + 1), 0, none⟩) xs.length xs.length) xs.length M.toList :=
    ⟨by simp [hM], .inr ⟨w.heap.size + 1, xs.length, M, rfl, Nat.le_refl _, by rw [← z1]; exact heap_alloc_new W1 _, Nat.le_refl _, by unfold maxLen; omega, by simp [hM], by rw [Nat.mul_one]; exact List.take_of_length_le (by simp [hM])⟩⟩
  have b2 := (RowKit.Below.refl (w.heap.size + 1) W1).alloc (Nat.le_of_eq z1.symm) (.cells M 3)
  replace b1 := Lib.hid b1
  go_loopg [10] xs.length (fun k i wr => ∃ (K : Nat) (zs : List Value), RowKit.Below (w.heap.size + 1) W1 wr ∧ i = .int .i64 K ∧ K + k = xs.length ∧ Hid (Fill K zs) ∧ wr.ownsRow (w.heap.size + 1) 3 1 (.slice (some ⟨(w.heap.size + 1), 0, none⟩) xs.length xs.length) xs.length zs)
  case atStart => exact ⟨0, _, b2, rfl, by omega, Lib.hid fun j h => by omega, hown⟩
  case round =>
    obtain ⟨K, zs, hbel, rfl, c1, c2, hown⟩ := hrel
    have hl : zs.length = xs.length := by have := hown.1; omega
    by_cases hK : K < xs.length
    · have e1 := (World.ownsRow.cellAt hown K (by omega)).trans (List.getElem?_eq_getElem (by omega))
      have e2 := World.ownsRow.frozenAt hown K
      have e3 := (World.ownsRow.stored hown K (.int .i64 (K : Nat))).1
      have e4 := Lib.hid (c2.out.put (by omega))
      have e5 := hbel.setCell (p := ⟨(w.heap.size + 1), K, none⟩) (Nat.le_refl _) (.int .i64 (K : Nat))
      replace e3 := Lib.hid e3
      replace e5 := Lib.hid e5
      clear c2 hown
      go_wp2_with fail
      go_roundg (gk - 1)
      case measure => omega
      case rel => exact ⟨K + 1, _, e5.out, by go_num, by omega, e4, e3.out⟩
    · obtain rfl : K = xs.length := by omega
      have e := c2.out
      rw [← hl] at e
      rw [e.fin, hl] at hown
      clear c2 e
      replace hown := Lib.hid hown
      go_wp2_with fail
      go_loud (refine sort_calls xs _ _ w.heap.size (w.heap.size + 1) W1 _ z1 h0 hx1.out k1 (by omega) hbel hown.out _ (Lib.hid fun ix w2 i1 i2 i3 => ?_))
      have n3 := Lib.hid (b1.out.trans (i3.mono (Nat.le_succ _)))
      replace i1 := Lib.hid i1
      replace i2 := Lib.hid i2
      clear i3
      go_wp2_with fail
      exact hR.out ix (.slice (some ⟨w.heap.size + 1, 0, none⟩) xs.length xs.length) _ i1.out i2.out (fun g o n c e => by simp only [Value.slice.injEq, Option.some.injEq, Addr.mk.injEq] at e; have := e.1.1; omega) n3.out
end Go.Proofs.YtbnmkbpjdelokaaGreat.Nam
