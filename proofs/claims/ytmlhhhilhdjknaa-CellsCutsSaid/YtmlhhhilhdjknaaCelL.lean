/- The reference's Lines and Widest. -/
import Derived.Test.YtmlhhhilhdjknaaCelR
import Derived.IntWalk
set_option linter.unusedVariables false
namespace Go.Proofs.Ytmlhhhilhdjknaa.Cel
open Go.RowKit Go.Lib Go.Proofs.Ytmlhhhilhdjknaa.Utf Go.Proofs.Ytmlhhhilhdjknaa.Ran

def strV (l : List ByteArray) : List Value := l.map Value.string
theorem infoStr : (Try.prog.info? 9).map (fun i => (i.zero, i.size, i.bytes)) = some (some (.string ByteArray.empty), 1, 16) := by kernel_rfl
theorem linGo_end (s : ByteArray) (k i a : Nat) (h : s.size ≤ i) : linGo s k i a = [s.extract a s.size] := by
  cases k with
  | zero => rfl
  | succ k => rw [linGo, if_neg (by omega)]

set_option maxRecDepth 100000 in
set_option maxHeartbeats 1000000 in
theorem refLines_calls (s : ByteArray) (w : World) (hs : s.size ≤ 1000000) (R : Ending → World → Prop)
    (hR : Hid (∀ v w', w'.ownsRow w.heap.size 9 1 v (linS s).length (strV (linS s)) → Below w.heap.size w w' → R (.returned v) w')) :
    Calls Try.prog 26 #[.string s] w R := by
  obtain ⟨i0, hi, hz0, hz1, hz2⟩ := info_parts infoStr
  have hb := byN_get s
  go_enter Try.func26, Try.ntmps26
  go_wp2_with fail
  go_loopg [3, 4, 5] s.size (fun k l a i wr => ∃ (A K : Nat) (v : Value) (xs : List ByteArray), v = l ∧ Below w.heap.size w wr ∧ a = .int .i64 A ∧ i = .int .i64 K ∧ wr.ownsRow w.heap.size 9 1 v xs.length (strV xs) ∧ A ≤ K ∧ K + k = s.size ∧ xs.length ≤ K ∧ Hid (xs ++ linGo s k K A = linS s))
  case atStart => exact ⟨0, 0, _, [], rfl, Below.refl _ _, rfl, rfl, World.ownsRow_nil _ _ _ _, by omega, by omega, by simp, rfl⟩
  case round =>
    obtain ⟨A, K, v, xs, rfl, hbel, rfl, rfl, hown, c1, c2, c3, c4⟩ := hrel
    have hsz := hbel.size
    by_cases hK : K < s.size
    · obtain ⟨k, rfl⟩ : ∃ k, gk = k + 1 := ⟨gk - 1, by omega⟩
      have e := c4.out
      rw [linGo, if_pos hK] at e
      clear c4
      have hb1 := byN_lt s K
      by_cases t : byN s K = 10
      · rw [if_pos t] at e
        replace e := Lib.hid e
        go_wp2_with (at_builtin; refine app1 wr (.string (s.extract A K)) 9 rfl _ _ 41 rfl w.heap.size i0 (.string ByteArray.empty) 16 Try.underlying41 hi hz0 hz1 hz2 rfl v _ _ rfl hown rfl rfl (by unfold maxLen; omega) (by omega) hsz ?_; intro v' w3 hown3 hg3 hb3)
        go_roundg k
        case measure => omega
        case rel => exact ⟨K + 1, K + 1, v', xs ++ [s.extract A K], rfl, hbel.trans hb3, by go_num, by go_num, by simpa [strV] using hown3, by omega, by omega, by simp; omega, Lib.hid (by rw [← e.out]; simp)⟩
      · rw [if_neg t] at e
        replace e := Lib.hid e
        go_wp2_with fail
        go_roundg k
        case measure => omega
        case rel => exact ⟨A, K + 1, v, xs, rfl, hbel, rfl, by go_num, hown, by omega, by omega, by omega, e.out⟩
    · have e := c4.out
      rw [linGo_end s _ _ _ (by omega)] at e
      clear c4
      have e2 : xs.length + 1 = (linS s).length := by rw [← e]; simp
      rw [← e] at hR
      replace e := Lib.hid e
      go_wp2_with (at_builtin; refine app1 wr (.string (s.extract A s.size)) 9 rfl _ _ 41 rfl w.heap.size i0 (.string ByteArray.empty) 16 Try.underlying41 hi hz0 hz1 hz2 rfl v _ _ rfl hown rfl rfl (by unfold maxLen; omega) (by omega) hsz ?_; intro v' w3 hown3 hg3 hb3)
      exact hR.out _ _ (by simpa [strV] using hown3) (hbel.trans hb3)

theorem strV_get {l : List ByteArray} {k : Nat} (h : k < l.length) : (strV l)[k]? = some (.string (l.getD k ByteArray.empty)) := by
  simp [strV, List.getD, List.getElem?_eq_getElem h]
theorem take_snoc {α} (l : List α) (d : α) (k : Nat) (h : k < l.length) : l.take (k + 1) = l.take k ++ [l.getD k d] := by
  rw [List.take_add_one, List.getD, List.getElem?_eq_getElem h]; rfl
theorem wid_bd (s : ByteArray) : 0 ≤ widS s ∧ widS s ≤ 2 * (s.size : Int) := by have := widF_bd s _ 0 (Nat.le_refl _); unfold widS; omega
theorem maxW_bd (n : Nat) (l : List ByteArray) : (∀ x ∈ l, x.size ≤ n) → 0 ≤ maxW l ∧ maxW l ≤ 2 * (n : Int) := by
  unfold maxW
  suffices h : ∀ (l : List ByteArray) (m : Int), 0 ≤ m → m ≤ 2 * (n : Int) → (∀ x ∈ l, x.size ≤ n) → 0 ≤ l.foldl (fun m x => if widS x > m then widS x else m) m ∧ l.foldl (fun m x => if widS x > m then widS x else m) m ≤ 2 * (n : Int) from
    fun hl => h l 0 (by omega) (by omega) hl
  intro l
  induction l with
  | nil => intro m h0 h1 _; exact ⟨h0, h1⟩
  | cons x l ih =>
    intro m h0 h1 hl
    have hx := wid_bd x
    have hn := hl x List.mem_cons_self
    rw [List.foldl_cons]
    split
    · exact ih _ (by omega) (by omega) (fun y hy => hl y (List.mem_cons_of_mem _ hy))
    · exact ih _ h0 h1 (fun y hy => hl y (List.mem_cons_of_mem _ hy))

set_option maxRecDepth 100000 in
set_option maxHeartbeats 1000000 in
theorem refWidest_calls (s : ByteArray) (w : World) (hs : s.size ≤ 1000000) (R : Ending → World → Prop)
    (hR : Hid (∀ w', Below w.heap.size w w' → R (.returned (.int .i64 (widestS s))) w')) : Calls Try.prog 14 #[.string s] w R := by
  have hl := linGo_len s s.size 0 0
  have hz := linGo_size s s.size 0 0
  have hS : widestS s = maxW (linS s) := rfl
  change (linS s).length ≤ _ at hl
  change ∀ x ∈ linS s, _ at hz
  have cL := fun (W : World) R hR => refLines_calls s W hs R hR
  generalize linS s = L at *
  rw [hS] at hR
  clear hS
  replace hz := Lib.hid hz
  replace cL := Lib.hid cL
  go_enter Try.func14, Try.ntmps14
  go_wp2_with fail
  refine cL.out _ _ (fun v w1 o1 n1 => ?_)
  have r1 := RdAt.of_own o1
  clear o1
  obtain ⟨A, n, c, rfl, hln, hnc, hca⟩ := r1
  obtain rfl : L.length = n := by simpa [strV] using hln
  clear hln
  replace hca := Lib.hid hca
  go_wp2_with fail
  go_loopg [4, 5] L.length (fun k m i wr => ∃ (K : Nat) (M : Int), Below w1.heap.size w1 wr ∧ m = .int .i64 M ∧ i = .int .i64 K ∧ K + k = L.length ∧ 0 ≤ M ∧ M ≤ 2000000 ∧ Hid (M = maxW (L.take K)))
  case atStart => exact ⟨0, _, Below.refl _ _, rfl, rfl, by omega, by omega, by omega, rfl⟩
  case round =>
    obtain ⟨K, M, hbel, rfl, rfl, c1, c2, c3, c4⟩ := hrel
    have hsz := hbel.size
    by_cases hK : K < L.length
    · obtain ⟨k, rfl⟩ : ∃ k, gk = k + 1 := ⟨gk - 1, by omega⟩
      obtain ⟨g, o, rfl, hg, hc⟩ := hca.out (by simp [strV]; omega)
      have e0 := (hbel.cell (p := ⟨g, o + K, none⟩) hg).trans (hc K _ (strV_get hK))
      have e1 := take_snoc L ByteArray.empty K hK
      have hx : (L.getD K ByteArray.empty).size ≤ s.size := hz.out _ (by simp [List.getD, List.getElem?_eq_getElem hK])
      clear hc
      generalize L.getD K ByteArray.empty = x at *
      have e2 : maxW (L.take (K + 1)) = if widS x > M then widS x else M := by rw [e1, maxW_snoc, ← c4.out]
      have hw := wid_bd x
      have cW := fun (W : World) R hR => refWid_calls _ x W (Nat.le_refl _) (by omega) R hR
      generalize widS x = V at *
      clear c4 e1
      replace cW := Lib.hid cW
      by_cases t : V > M
      · rw [if_pos t] at e2
        replace e2 := Lib.hid e2
        go_wp2_with fail
        refine cW.out _ _ (fun w2 n2 => ?_)
        have nb := hbel.trans (n2.mono hsz)
        go_wp2_with fail
        go_roundg k
        case measure => omega
        case rel => exact ⟨K + 1, V, nb, rfl, by go_num, by omega, by omega, by omega, e2.out.symm⟩
      · rw [if_neg t] at e2
        replace e2 := Lib.hid e2
        go_wp2_with fail
        refine cW.out _ _ (fun w2 n2 => ?_)
        have nb := hbel.trans (n2.mono hsz)
        go_wp2_with fail
        go_roundg k
        case measure => omega
        case rel => exact ⟨K + 1, M, nb, rfl, by go_num, by omega, by omega, by omega, e2.out.symm⟩
    · have e : M = maxW L := by rw [c4.out, List.take_of_length_le (by omega)]
      clear c4
      replace e := Lib.hid e
      go_wp2_with fail
      exact retI (hR.out _ (n1.trans (hbel.mono n1.size))) e.out.symm
end Go.Proofs.Ytmlhhhilhdjknaa.Cel
