/- The code's Widest (over strings.Cut) and Pad (over strings.Repeat). -/
import Derived.Test.YtmlhhhilhdjknaaCelU
import Derived.Test.YtmlhhhilhdjknaaCelL
import Derived.Test.YtmlhhhilhdjknaaCelH
set_option linter.unusedVariables false
namespace Go.Proofs.Ytmlhhhilhdjknaa.Cel
open Go.Shelf Go.RowKit Go.Lib Go.Proofs.Ytmlhhhilhdjknaa.Utf Go.Proofs.Ytmlhhhilhdjknaa.Ran

/-- What strings.Cut at a line feed hands back. -/
def nlS (x : ByteArray) : ByteArray × ByteArray × Bool :=
  if indexByte x.data.toList 10 < 0 then (x, ByteArray.empty, false) else (x.extract 0 (indexByte x.data.toList 10).toNat, x.extract ((indexByte x.data.toList 10).toNat + 1) x.size, true)
theorem byN_mem {x : ByteArray} {o : Nat} (h : o < x.size) (c : UInt8) : x.data.toList[o]? = some c ↔ byN x o = c.toNat := by
  have h' : o < x.data.toList.length := by simpa using h
  unfold byN
  rw [List.getElem?_eq_getElem h']
  simp only [List.getD, List.getElem?_eq_getElem h', Option.getD_some, Option.some.injEq]
  exact ⟨fun h => by rw [h], fun h => UInt8.toNat_inj.1 h⟩
theorem nl_cases (x : ByteArray) : (nlS x = (x, ByteArray.empty, false) ∧ indexByte x.data.toList 10 = -1 ∧ ∀ j, j < x.size → byN x j ≠ 10) ∨
    ∃ o, o < x.size ∧ indexByte x.data.toList 10 = (o : Int) ∧ nlS x = (x.extract 0 o, x.extract (o + 1) x.size, true) ∧ byN x o = 10 ∧ ∀ j, j < o → byN x j ≠ 10 := by
  have hge := indexByte_ge x.data.toList 10
  by_cases h : indexByte x.data.toList 10 = -1
  · refine .inl ⟨by unfold nlS; rw [if_pos (by omega)], h, fun j hj e => ?_⟩
    exact indexByte_none h j ((byN_mem hj 10).2 e)
  · obtain ⟨o, ho⟩ : ∃ o : Nat, indexByte x.data.toList 10 = o := ⟨(indexByte x.data.toList 10).toNat, by omega⟩
    obtain ⟨h1, h2⟩ := indexByte_some ho
    have hlt : o < x.size := by
      have := (List.getElem?_eq_some_iff.1 h1).1
      simpa using this
    refine .inr ⟨o, hlt, ho, by unfold nlS; rw [if_neg (by omega), ho]; rfl, (byN_mem hlt 10).1 h1, fun j hj e => ?_⟩
    exact h2 j hj ((byN_mem (by omega) 10).2 e)

theorem index_calls (x : ByteArray) (w : World) (R : Ending → World → Prop) (hR : Hid (R (.returned (.int .i64 (indexByte x.data.toList 10))) w)) :
    Calls Try.prog 47 #[.string x, .string ⟨#[10]⟩] w R := by
  have := Any.stringslite_Index_one (ρ := Ytmlhhhilhdjknaa.cutL_ren) { Ytmlhhhilhdjknaa.cutL with } x 10 w
  change Calls Try.prog 47 _ _ _ at this
  refine this.mono ?_
  rintro e w' ⟨rfl, rfl⟩
  exact hR.out

set_option maxRecDepth 100000 in
set_option maxHeartbeats 1000000 in
theorem slcut_calls (x : ByteArray) (w : World) (hs : x.size ≤ 1000000) (R : Ending → World → Prop)
    (hR : Hid (∀ w', Below w.heap.size w w' → R (.returned (.tuple #[.string (nlS x).1, .string (nlS x).2.1, .bool (nlS x).2.2])) w')) :
    Calls Try.prog 37 #[.string x, .string ⟨#[10]⟩] w R := by
  have cI := fun (W : World) R hR => index_calls x W R hR
  rcases nl_cases x with ⟨e, hi, -⟩ | ⟨o, ho, hi, e, -⟩
  · rw [e] at hR
    rw [hi] at cI
    clear e hi
    replace cI := Lib.hid cI
    go_enter Try.func37, Try.ntmps37
    go_wp2_with fail
    refine cI.out _ _ (Lib.hid ?_)
    go_wp2_with fail
    go_ret3
    exact hR.out _ (Below.refl _ _)
  · rw [e] at hR
    rw [hi] at cI
    clear e hi
    replace cI := Lib.hid cI
    have c1 : (0 : Int) ≤ ↑o := by omega
    have c2 : (↑o : Int) ≤ ↑x.size := by omega
    have c3 : (0 : Int) ≤ ↑o + 1 := by omega
    have c4 : (↑o + 1 : Int) ≤ ↑x.size := by omega
    go_enter Try.func37, Try.ntmps37
    go_wp2_with fail
    refine cI.out _ _ (Lib.hid ?_)
    go_wp2_with fail
    go_region
    go_wp2_with fail
    go_ret3
    exact hR.out _ (bdq (Below.refl _ _) _)

theorem strcut_calls (x : ByteArray) (w : World) (hs : x.size ≤ 1000000) (R : Ending → World → Prop)
    (hR : Hid (∀ w', Below w.heap.size w w' → R (.returned (.tuple #[.string (nlS x).1, .string (nlS x).2.1, .bool (nlS x).2.2])) w')) :
    Calls Try.prog 25 #[.string x, .string ⟨#[10]⟩] w R := by
  have cI := fun (W : World) R hR => slcut_calls x W hs R hR
  generalize nlS x = d at *
  obtain ⟨a, b, c⟩ := d
  simp only at cI hR
  replace cI := Lib.hid cI
  go_enter Try.func25, Try.ntmps25
  go_wp2_with fail
  refine cI.out _ _ (fun w1 n1 => ?_)
  go_wp2_with fail
  go_ret3
  exact hR.out _ n1

/-- The lines from index a on. -/
def linF (s : ByteArray) (a : Nat) : List ByteArray := linGo s (s.size - a) a a
theorem linGo_fuel (s : ByteArray) : ∀ (k i a : Nat), s.size - i ≤ k → linGo s k i a = linGo s (s.size - i) i a
  | 0, i, a, h => by rw [show s.size - i = 0 by omega]
  | k + 1, i, a, h => by
    by_cases hi : i < s.size
    · obtain ⟨m, hm⟩ : ∃ m, s.size - i = m + 1 := ⟨s.size - i - 1, by omega⟩
      rw [hm, linGo, linGo, if_pos hi, if_pos hi, linGo_fuel s k (i + 1) _ (by omega), linGo_fuel s k (i + 1) _ (by omega), linGo_fuel s m (i + 1) _ (by omega), linGo_fuel s m (i + 1) _ (by omega)]
    · rw [linGo_end s _ _ _ (by omega), linGo_end s _ _ _ (by omega)]
theorem linGo_stop (s : ByteArray) : ∀ (k i a : Nat), s.size - i ≤ k → (∀ j, i ≤ j → j < s.size → byN s j ≠ 10) → linGo s k i a = [s.extract a s.size]
  | 0, i, a, h, hn => rfl
  | k + 1, i, a, h, hn => by
    rw [linGo]
    by_cases hi : i < s.size
    · rw [if_pos hi, if_neg (hn i (Nat.le_refl _) hi)]
      exact linGo_stop s k (i + 1) a (by omega) (fun j h1 h2 => hn j (by omega) h2)
    · rw [if_neg hi]
theorem linGo_hit (s : ByteArray) (o : Nat) (ho : o < s.size) (h10 : byN s o = 10) : ∀ (k i a : Nat), s.size - i ≤ k → i ≤ o → (∀ j, i ≤ j → j < o → byN s j ≠ 10) → linGo s k i a = s.extract a o :: linF s (o + 1)
  | 0, i, a, h, h1, hn => by omega
  | k + 1, i, a, h, h1, hn => by
    rw [linGo, if_pos (by omega)]
    by_cases hi : i = o
    · subst hi
      rw [if_pos h10, linGo_fuel s k _ _ (by omega)]; rfl
    · rw [if_neg (hn i (Nat.le_refl _) (by omega))]
      exact linGo_hit s o ho h10 k (i + 1) a (by omega) (by omega) (fun j h1 h2 => hn j (by omega) h2)
theorem nl_lines {s : ByteArray} {a : Nat} (ha : a ≤ s.size) : (nlS (s.extract a s.size) = (s.extract a s.size, ByteArray.empty, false) ∧ linF s a = [s.extract a s.size]) ∨
    ∃ b, a < b ∧ b ≤ s.size ∧ ∃ l, l.size ≤ s.size ∧ nlS (s.extract a s.size) = (l, s.extract b s.size, true) ∧ linF s a = l :: linF s b := by
  have hz : (s.extract a s.size).size = s.size - a := by rw [ByteArray.size_extract]; omega
  rcases nl_cases (s.extract a s.size) with ⟨e, -, hn⟩ | ⟨o, ho, -, e, h10, hn⟩
  · refine .inl ⟨e, linGo_stop s _ _ _ (Nat.le_refl _) (fun j h1 h2 => ?_)⟩
    have := hn (j - a) (by omega)
    rw [byN_ext s a s.size (j - a) (by omega) (Nat.le_refl _), show a + (j - a) = j by omega] at this
    exact this
  · rw [hz] at ho e
    rw [byN_ext s a s.size o (by omega) (Nat.le_refl _)] at h10
    refine .inr ⟨a + (o + 1), by omega, by omega, _, ?_, e.trans ?_, linGo_hit s (a + o) (by omega) h10 _ _ _ (Nat.le_refl _) (by omega) (fun j h1 h2 => ?_)⟩
    · rw [ByteArray.size_extract]; omega
    · rw [ext_ext, ByteArray.extract_extract]
      congr 1
      congr 1 <;> omega
    · have := hn (j - a) (by omega)
      rw [byN_ext s a s.size (j - a) (by omega) (Nat.le_refl _), show a + (j - a) = j by omega] at this
      exact this
def maxF (M : Int) (l : List ByteArray) : Int := l.foldl (fun m x => if widS x > m then widS x else m) M
theorem maxF_cons (M : Int) (x : ByteArray) (l : List ByteArray) : maxF M (x :: l) = maxF (max M (widS x)) l := by
  unfold maxF
  rw [List.foldl_cons]
  congr 1
  split <;> omega
set_option maxRecDepth 100000 in
set_option maxHeartbeats 1000000 in
theorem widest_calls (s : ByteArray) (w : World) (hs : s.size ≤ 1000000) (R : Ending → World → Prop)
    (hR : Hid (∀ w', Below w.heap.size w w' → R (.returned (.int .i64 (widestS s))) w')) : Calls Try.prog 13 #[.string s] w R := by
  go_enter Try.func13, Try.ntmps13
  go_wp2_with fail
  go_loopg [0, 3, 4] (s.size + 1) (fun k x m b wr => ∃ (a : Nat) (M : Int), Below w.heap.size w wr ∧ m = .int .i64 M ∧ 0 ≤ M ∧ M ≤ 2000000 ∧
    ((b = .bool true ∧ x = .string (s.extract a s.size) ∧ a + k = s.size + 1 ∧ a ≤ s.size ∧ Hid (maxF M (linF s a) = widestS s)) ∨ (b = .bool false ∧ x = .string ByteArray.empty ∧ Hid (M = widestS s))))
  case atStart => exact ⟨0, 0, Below.refl _ _, rfl, by omega, by omega, .inl ⟨rfl, by rw [ext_all], by omega, by omega, rfl⟩⟩
  case round =>
    obtain ⟨a, M, hbel, rfl, m0, m1, ⟨rfl, rfl, c1, c2, c3⟩ | ⟨rfl, rfl, c1⟩⟩ := hrel
    · have hsz := hbel.size
      have hz : (s.extract a s.size).size = s.size - a := by rw [ByteArray.size_extract]; omega
      have cC := fun (W : World) R hR => strcut_calls (s.extract a s.size) W (by omega) R hR
      rcases nl_lines c2 with ⟨e1, e2⟩ | ⟨b, hb1, hb2, l, hl, e1, e2⟩
      · have e := c3.out
        rw [e2, maxF_cons] at e
        rw [e1] at cC
        clear c3 e1 e2
        have hw := wid_bd (s.extract a s.size)
        have cW := fun (W : World) R hR => wid_calls (s.extract a s.size) W (by omega) R hR
        generalize s.extract a s.size = x at *
        generalize widS x = V at *
        obtain ⟨X, hX⟩ : ∃ X, max M V = X := ⟨_, rfl⟩
        rw [hX] at e
        have hXb : 0 ≤ X ∧ X ≤ 2000000 := by omega
        replace e : Hid (X = widestS s) := e
        simp only at cC
        replace cC := Lib.hid cC
        replace cW := Lib.hid cW
        go_wp2_with fail
        refine cC.out _ _ (fun w2 n2 => ?_)
        have nb := hbel.trans (n2.mono hsz)
        go_wp2_with fail
        refine cW.out _ _ (fun w3 n3 => ?_)
        replace nb := nb.trans (n3.mono nb.size)
        go_wp2_with fail
        go_roundg (gk - 1)
        case measure => omega
        case rel => exact ⟨a, X, nb, rfl, hXb.1, hXb.2, .inr ⟨rfl, rfl, e⟩⟩
      · have e := c3.out
        rw [e2, maxF_cons] at e
        rw [e1] at cC
        clear c3 e1 e2
        have hw := wid_bd l
        have cW := fun (W : World) R hR => wid_calls l W (by omega) R hR
        generalize s.extract a s.size = x at *
        generalize widS l = V at *
        obtain ⟨X, hX⟩ : ∃ X, max M V = X := ⟨_, rfl⟩
        rw [hX] at e
        have hXb : 0 ≤ X ∧ X ≤ 2000000 := by omega
        replace e := Lib.hid e
        simp only at cC
        replace cC := Lib.hid cC
        replace cW := Lib.hid cW
        go_wp2_with fail
        refine cC.out _ _ (fun w2 n2 => ?_)
        have nb := hbel.trans (n2.mono hsz)
        go_wp2_with fail
        refine cW.out _ _ (fun w3 n3 => ?_)
        replace nb := nb.trans (n3.mono nb.size)
        go_wp2_with fail
        go_roundg (s.size + 1 - b)
        case measure => omega
        case rel => exact ⟨b, X, nb, rfl, hXb.1, hXb.2, .inl ⟨rfl, rfl, by omega, hb2, e⟩⟩
    · have e := c1.out
      clear c1
      rw [← e] at hR
      clear e
      go_wp2_with fail
      exact hR.out _ hbel

def blk (n : Nat) : ByteArray := ⟨(repeatL [32] n).toArray⟩
theorem blk_size (n : Nat) : (blk n).size = n := by
  have : (repeatL [32] n).length = n := by rw [repeatL_length]; simp
  unfold blk; simp [ByteArray.size, this]
theorem blk_list (n : Nat) : (blk n).data.toList = List.replicate n 32 := by
  have := repeatL_replicate 32 1 n
  simp at this
  unfold blk; simp [this]
theorem blkX : Builder.Extra Try.prog Ytmlhhhilhdjknaa.repL_ren where
  sizeBuilder := by kernel_rfl
  liesBuilder := by kernel_rfl
  t5 := by kernel_rfl
  a5 := Try.isAgg5
  z5 := Try.sizeOf5
  v5 := Try.zeroValue5
  infoByte := by kernel_rfl
  cellsByte := by kernel_rfl
  sizeByte := by kernel_rfl
  neB5 := by decide
theorem rep_calls (n : Nat) (w : World) (hn : n ≤ 1000) (R : Ending → World → Prop)
    (hR : Hid (∀ w', Below w.heap.size w w' → R (.returned (.string (blk n))) w')) : Calls Try.prog 27 #[.string ⟨#[32]⟩, .int .i64 n] w R := by
  have := Any.strings_Repeat (ρ := Ytmlhhhilhdjknaa.repL_ren) Ytmlhhhilhdjknaa.repL blkX ⟨#[32]⟩ n w (by omega) (by show 1 * n ≤ _; omega)
  change Calls Try.prog 27 _ _ _ at this
  refine this.mono ?_
  rintro e w' ⟨rfl, hb⟩
  exact hR.out _ hb
def padS (s : ByteArray) (m : Int) : ByteArray := s ++ blk (min m 1000 - widS s).toNat
set_option maxRecDepth 100000 in
set_option maxHeartbeats 1000000 in
theorem pad_calls (s : ByteArray) (m : Int) (w : World) (hs : s.size ≤ 1000000) (hm : -9223372036854775808 ≤ m ∧ m ≤ 9223372036854775807) (R : Ending → World → Prop)
    (hR : Hid (∀ w', Below w.heap.size w w' → R (.returned (.string (padS s m))) w')) : Calls Try.prog 17 #[.string s, .int .i64 m] w R := by
  have hw := wid_bd s
  have cW := fun (W : World) R hR => wid_calls s W hs R hR
  have hP : padS s m = s ++ blk (min m 1000 - widS s).toNat := rfl
  generalize widS s = V at *
  obtain ⟨X, hX⟩ : ∃ X, min m 1000 = X := ⟨_, rfl⟩
  have hXb : X ≤ 1000 ∧ -9223372036854775808 ≤ X := by omega
  rw [hX] at hP
  replace cW := Lib.hid cW
  by_cases hV : X ≤ V
  · rw [show (X - V).toNat = 0 by omega] at hP
    have e : s ++ blk 0 = s := by apply ByteArray.ext; apply Array.ext'; show s.data.toList ++ [] = _; simp
    rw [e] at hP
    rw [hP] at hR
    clear hP e
    go_enter Try.func17, Try.ntmps17
    go_wp2_with fail
    refine cW.out _ _ (fun w2 n2 => ?_)
    go_wp2_with fail
    exact hR.out _ n2
  · obtain ⟨n, hn⟩ : ∃ n : Nat, X = V + n := ⟨(X - V).toNat, by omega⟩
    rw [show (X - V).toNat = n by omega] at hP
    rw [hP] at hR
    clear hP
    have hN : V + (n : Int) - V = n := by omega
    have cR := fun (W : World) R hR => rep_calls n W (by omega) R hR
    have hbz := blk_size n
    generalize blk n = B at *
    replace cR := Lib.hid cR
    go_enter Try.func17, Try.ntmps17
    go_wp2_with fail
    refine cW.out _ _ (fun w2 n2 => ?_)
    go_wp2_with fail
    refine cR.out _ _ (fun w3 n3 => ?_)
    replace n2 := n2.trans (n3.mono n2.size)
    go_wp2_with fail
    exact hR.out _ n2

end Go.Proofs.Ytmlhhhilhdjknaa.Cel
