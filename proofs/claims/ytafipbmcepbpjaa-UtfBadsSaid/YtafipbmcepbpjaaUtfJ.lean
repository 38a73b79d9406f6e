/- The walks of the laws UtfBads and UtfBack, over the contracts. -/
import Derived.Test.YtafipbmcepbpjaaUtfI
set_option linter.unusedVariables false
namespace Go.Proofs.Ytafipbmcepbpjaa.Utf
open Go.RowKit Go.Lib

set_option maxRecDepth 100000 in
theorem bads_walk (s : ByteArray) (hs : s.size ≤ maxLen) (w : World) (R : Ending → World → Prop)
    (hR : Hid (∀ w', Below w.heap.size w w' → R (.returned (.bool true)) w')) : Calls Try.prog 5 #[.string s] w R := by
  have hs' := hs
  unfold maxLen at hs
  by_cases h5 : 5000 < s.size
  · go_enter Try.func5, Try.ntmps5
    go_wp2_with fail
    refine lives_calls _ _ (fun w1 h1 => ?_)
    go_wp2_with fail
    exact retB (hR.out _ h1) rfl
  · have hl := runesGo_len s s.size 0
    change (runesS s).length ≤ s.size at hl
    obtain ⟨X, q1, q2⟩ : ∃ X, Hid (decide (badS s = s.size) = X) ∧ ((badS s : Int) == (s.size : Int)) = X := ⟨_, rfl, by rw [Bool.eq_iff_iff]; simp; omega⟩
    go_enter Try.func5, Try.ntmps5
    go_wp2_with fail
    refine walk_calls s _ (by omega) _ (fun v1 w1 o1 h1 => ?_)
    go_wp2_with fail
    refine runes_calls s _ (by omega) _ (fun v2 w2 o2 h2 => ?_)
    have r1 := (RdAt.of_own o1).below h2
    have r2 := RdAt.of_own o2
    have hb2 := h1.trans (h2.mono h1.size)
    go_wp2_with fail
    refine same_calls _ _ _ _ _ r2 r1 (by omega) (by omega) _ (fun n1 => ?_)
    rw [decide_eq_true rfl]
    have hb3 := below_drewN hb2 n1
    generalize w2.drewN n1 = w3 at *
    go_wp2_with fail
    refine bad_calls s _ hs' _ (fun n2 => ?_)
    have hb4 := below_drewN hb3 n2
    generalize w3.drewN n2 = w4 at *
    go_wp2_with fail
    refine valid_calls s _ hs' _ (fun n3 => ?_)
    rw [q1.out]
    have hb5 := below_drewN hb4 n3
    generalize w4.drewN n3 = w5 at *
    go_wp2_with fail
    refine count_calls s _ hs' _ (fun n4 => ?_)
    have hb6 := below_drewN hb5 n4
    generalize w5.drewN n4 = w6 at *
    go_wp2_with fail
    refine lives_calls _ _ (fun w7 h7 => ?_)
    go_wp2_with fail
    exact retB (hR.out _ (hb6.trans (h7.mono hb6.size))) rfl

/-- The scalars among the runes; the runes' bytes, one behind the other. -/
def keptL (l : List Int) : List Int := l.filter scalarB
def encCat (l : List Int) : List Int := (l.map encL).flatten

theorem byN_drop {s : ByteArray} {i j : Nat} {l r : List Int} {x : Int} (h : (bl s).drop i = l ++ r) (hj : l[j]? = some x) : (byN s (i + j) : Int) = x := by
  apply byN_of_bl
  rw [← List.getElem?_drop, h, List.getElem?_append_left (List.getElem?_eq_some_iff.1 hj).1, hj]
theorem size_drop {s : ByteArray} {i : Nat} {l r : List Int} (h : (bl s).drop i = l ++ r) : l.length ≤ s.size - i := by
  have := congrArg List.length h
  rw [List.length_drop, bl_length, List.length_append] at this
  omega
/-- The bytes of a scalar decode to it, whatever follows. -/
theorem dec_enc {s : ByteArray} {i : Nat} {r : Int} {rest : List Int} (hs : scalarB r = true) (h : (bl s).drop i = encL r ++ rest) : decS s i = (r, ((encL r).length : Int), true) ∧ 1 ≤ (encL r).length := by
  have hz := size_drop h
  have hr : 0 ≤ r ∧ r ≤ 1114111 ∧ ¬ (55296 ≤ r ∧ r ≤ 57343) := of_decide_eq_true hs
  have hE : encL r = if r < 128 then [r] else if r < 2048 then [192 + r / 64, 128 + r % 64] else if r < 65536 then [224 + r / 4096, 128 + r / 64 % 64, 128 + r % 64]
    else [240 + r / 262144, 128 + r / 4096 % 64, 128 + r / 64 % 64, 128 + r % 64] := by unfold encL; rw [hs]; rfl
  by_cases r1 : r < 128
  · rw [if_pos r1] at hE
    rw [hE] at h hz ⊢
    have e0 := byN_drop (j := 0) h rfl
    simp at hz
    rw [Nat.add_zero] at e0
    refine ⟨?_, by simp⟩
    rw [decS_in (L := 1) (lo := 0) (hi' := 0) (by omega) (by unfold leadL; rw [if_pos (by omega)]; rfl) (by omega)]
    simp [decGo, markL]; omega
  rw [if_neg r1] at hE
  by_cases r2 : r < 2048
  · rw [if_pos r2] at hE
    rw [hE] at h hz ⊢
    have e0 := byN_drop (j := 0) h rfl
    have e1 := byN_drop (j := 1) h rfl
    simp at hz
    rw [Nat.add_zero] at e0
    refine ⟨?_, by simp⟩
    rw [decS_in (by omega) (lead2 _ (by omega)) (by omega), go_ok (by omega)]
    simp [decGo, markL]; omega
  rw [if_neg r2] at hE
  by_cases r3 : r < 65536
  · rw [if_pos r3] at hE
    rw [hE] at h hz ⊢
    have e0 := byN_drop (j := 0) h rfl
    have e1 := byN_drop (j := 1) h rfl
    have e2 := byN_drop (j := 2) h rfl
    have e2' : (byN s (i + (1 + 1)) : Int) = _ := e2
    simp at hz
    rw [Nat.add_zero] at e0
    refine ⟨?_, by simp⟩
    rw [decS_in (by omega) (lead3 _ (by omega)) (by omega)]
    generalize hlo : (if (byN s i : Int) = 224 then 160 else 128 : Int) = lo
    generalize hhi : (if (byN s i : Int) = 237 then 159 else 191 : Int) = up
    have hlo1 : ((byN s i : Int) = 224 → lo = 160) ∧ (¬ (byN s i : Int) = 224 → lo = 128) := by subst hlo; constructor <;> intro h <;> simp [h]
    have hhi1 : ((byN s i : Int) = 237 → up = 159) ∧ (¬ (byN s i : Int) = 237 → up = 191) := by subst hhi; constructor <;> intro h <;> simp [h]
    clear hlo hhi h hE
    rw [go_ok (by omega), go_ok (by omega)]
    simp [decGo, markL]; omega
  · rw [if_neg r3] at hE
    rw [hE] at h hz ⊢
    have e0 := byN_drop (j := 0) h rfl
    have e1 := byN_drop (j := 1) h rfl
    have e2 := byN_drop (j := 2) h rfl
    have e2' : (byN s (i + (1 + 1)) : Int) = _ := e2
    have e3 := byN_drop (j := 3) h rfl
    have e3' : (byN s (i + (1 + 1 + 1)) : Int) = _ := e3
    simp at hz
    rw [Nat.add_zero] at e0
    refine ⟨?_, by simp⟩
    rw [decS_in (by omega) (lead4 _ (by omega)) (by omega)]
    generalize hlo : (if (byN s i : Int) = 240 then 144 else 128 : Int) = lo
    generalize hhi : (if (byN s i : Int) = 244 then 143 else 191 : Int) = up
    have hlo1 : ((byN s i : Int) = 240 → lo = 144) ∧ (¬ (byN s i : Int) = 240 → lo = 128) := by subst hlo; constructor <;> intro h <;> simp [h]
    have hhi1 : ((byN s i : Int) = 244 → up = 143) ∧ (¬ (byN s i : Int) = 244 → up = 191) := by subst hhi; constructor <;> intro h <;> simp [h]
    clear hlo hhi h hE
    rw [go_ok (by omega), go_ok (by omega), go_ok (by omega)]
    simp [decGo, markL]; omega

theorem back_all (s : ByteArray) : ∀ (l : List Int) (i k : Nat), (bl s).drop i = encCat l → i ≤ s.size → s.size ≤ i + k →
    badGo s k i = s.size ∧ runesGo s k i = keptL l ∧ countGo s k i = (keptL l).length
  | [], i, k, h, hi, hk => by
    have hz := congrArg List.length h
    rw [List.length_drop, bl_length] at hz
    simp [encCat] at hz
    have e : i = s.size := by omega
    subst e
    cases k <;> simp [badGo, runesGo, countGo, keptL]
  | r :: l, i, k, h, hi, hk => by
    have hc : encCat (r :: l) = encL r ++ encCat l := by simp [encCat]
    rw [hc] at h
    by_cases hs : scalarB r = true
    · obtain ⟨hd, h1⟩ := dec_enc hs h
      have hz := size_drop h
      obtain ⟨k, rfl⟩ : ∃ k', k = k' + 1 := ⟨k - 1, by omega⟩
      have hlt : i < s.size := by omega
      have h2 : (bl s).drop (i + (encL r).length) = encCat l := by rw [← List.drop_drop, h, List.drop_left']; rfl
      obtain ⟨a1, a2, a3⟩ := back_all s l (i + (encL r).length) k h2 (by omega) (by omega)
      rw [badGo, runesGo, countGo, if_pos hlt, if_pos hlt, if_pos hlt, hd]
      simp only [if_true, Int.toNat_natCast, a1, a2, a3]
      have hk' : keptL (r :: l) = r :: keptL l := by unfold keptL; rw [List.filter_cons_of_pos hs]
      rw [hk']; simp
    · have he : encL r = [] := by unfold encL; rw [if_neg hs]
      rw [he, List.nil_append] at h
      have hk' : keptL (r :: l) = keptL l := by unfold keptL; rw [List.filter_cons_of_neg hs]
      rw [hk']
      exact back_all s l i k h hi hk
theorem encL_len (r : Int) : (encL r).length ≤ 4 := by unfold encL; (repeat' split) <;> simp
theorem encCat_range (l : List Int) : ∀ x ∈ encCat l, 0 ≤ x ∧ x < 256 := by
  intro x hx
  simp only [encCat, List.mem_flatten, List.mem_map] at hx
  obtain ⟨_, ⟨r, _, rfl⟩, hx⟩ := hx
  exact encL_range r x hx
theorem back_str (l : List Int) : badS (strOfNums (encCat l)) = (strOfNums (encCat l)).size ∧ runesS (strOfNums (encCat l)) = keptL l ∧ countS (strOfNums (encCat l)) = (keptL l).length :=
  back_all _ l 0 _ (by rw [List.drop_zero, bl_strOfNums _ (encCat_range l)]) (by omega) (by omega)
theorem encCat_snoc (l : List Int) (r : Int) : strOfNums (encCat l) ++ encS r = strOfNums (encCat (l ++ [r])) := by
  unfold encS strOfNums encCat
  apply ByteArray.ext
  simp

set_option maxRecDepth 100000 in
set_option maxHeartbeats 1000000 in
theorem back_walk (xs : List Int) (v : Value) (w : World) (hx : RdAt w v 1 (runeV xs)) (hwf : ∀ n ∈ xs, (Lit.int .i32 n).wf = true) (R : Ending → World → Prop)
    (hR : Hid (∀ w', Below w.heap.size w w' → R (.returned (.bool true)) w')) : Calls Try.prog 6 #[v] w R := by
  obtain ⟨A, n, c, rfl, hl1, hn1, hc1⟩ := hx
  have hl1 : xs.length = n := by simpa [runeV] using hl1
  subst hl1
  by_cases h5 : 2000 < xs.length
  · clear hc1
    go_enter Try.func6, Try.ntmps6
    go_wp2_with fail
    refine lives_calls _ _ (fun w1 h1 => ?_)
    go_wp2_with fail
    exact retB (hR.out _ h1) rfl
  · obtain ⟨i0, hi, hz0, hz1, hz2⟩ := info_parts info32
    replace hc1 := Lib.hid hc1
    go_enter Try.func6, Try.ntmps6
    go_wp2_with fail
    go_loopg [3, 4, 5] xs.length (fun k s l i wr => ∃ (K : Nat) (S : ByteArray) (v : Value) (q : Nat), v = l ∧ Below w.heap.size w wr ∧ s = .string S ∧ i = .int .i64 K ∧ K + k = xs.length ∧ S.size ≤ 4 * K ∧ q ≤ K ∧ wr.ownsRow w.heap.size 21 1 v q (runeV (keptL (xs.take K))) ∧ Hid (S = strOfNums (encCat (xs.take K)) ∧ q = (keptL (xs.take K)).length))
    case atStart => exact ⟨0, _, _, 0, rfl, Below.refl _ _, rfl, rfl, by omega, by decide, by omega, World.ownsRow_nil _ _ _ _, rfl, rfl⟩
    case round =>
      obtain ⟨K, S, v, q, rfl, hbel, rfl, rfl, c1, c2, c3, hown, c4⟩ := hrel
      have hsz := hbel.size
      by_cases hK : K < xs.length
      · obtain ⟨k, rfl⟩ : ∃ k, gk = k + 1 := ⟨gk - 1, by omega⟩
        obtain ⟨g, o, rfl, hg, hca⟩ := hc1.out (by simpa [runeV] using (by omega : 0 < xs.length))
        have ha := hca K _ (runeV_get hK)
        have hah := hbel.cell (p := ⟨g, o + K, none⟩) hg
        rw [ha] at hah
        generalize hX : xs.getD K 0 = X at *
        have htk : xs.take (K + 1) = xs.take K ++ [X] := by
          rw [List.take_succ_eq_append_getElem hK, ← hX]; simp [List.getD, List.getElem?_eq_getElem hK]
        replace hX := Lib.hid hX
        replace htk := Lib.hid htk
        have hez : (encS X).size ≤ 4 := by unfold encS; rw [strOfNums_size]; exact encL_len X
        go_wp2_with fail
        refine enc_calls _ _ _ (fun w1 h1 => ?_)
        have hb1 := hbel.trans (h1.mono hsz)
        have ha1 : w1.cell? ⟨g, o + K, none⟩ = some (.int .i32 X) := (hb1.cell (p := ⟨g, o + K, none⟩) hg).trans ha
        have hsz1 := hb1.size
        have hown1 : w1.ownsRow w.heap.size 21 1 v q (runeV (keptL (xs.take K))) := hown.kept ⟨h1.os, h1.tape, h1.output, h1.size, fun k hk _ => h1.block k hk⟩ (row := none) (by cases hv : v.ownBlock <;> simp)
        clear hah ha
        cases hsc : scalarB X
        · have e5 : keptL (xs.take K ++ [X]) = keptL (xs.take K) := by unfold keptL; rw [List.filter_append, List.filter_cons_of_neg (by simp [hsc])]; simp
          replace e5 := Lib.hid e5
          go_wp2_with fail
          refine scalar_calls _ _ _ ?_
          rw [hsc]
          go_wp2_with fail
          go_roundg k
          case measure => omega
          case rel => exact ⟨K + 1, S ++ encS X, v, q, rfl, hb1, rfl, by go_num, by omega, by rw [ByteArray.size_append]; omega, by omega, by rw [htk.out, e5.out]; exact hown1, by rw [htk.out, ← encCat_snoc, ← c4.out.1]; exact ⟨rfl, by rw [e5.out]; exact c4.out.2⟩⟩
        · have e5 : keptL (xs.take K ++ [X]) = keptL (xs.take K) ++ [X] := by unfold keptL; rw [List.filter_append, List.filter_cons_of_pos hsc]; simp
          replace e5 := Lib.hid e5
          go_wp2_with fail
          refine scalar_calls _ _ _ ?_
          rw [hsc]
          go_wp2_with (at_builtin; refine app1 w1 (.int .i32 X) 21 rfl _ _ 28 rfl w.heap.size i0 (.int .i32 0) 4 Try.underlying28 hi hz0 hz1 hz2 rfl v _ _ rfl hown1 rfl rfl (by unfold maxLen; omega) (by omega) hsz1 ?_; intro v' w3 hown3 hg3 hb3)
          go_roundg k
          case measure => omega
          case rel => exact ⟨K + 1, S ++ encS X, v', q + 1, rfl, hb1.trans hb3, rfl, by go_num, by omega, by rw [ByteArray.size_append]; omega, by omega, by rw [htk.out, e5.out]; simpa [runeV] using hown3, by rw [htk.out, ← encCat_snoc, ← c4.out.1]; exact ⟨rfl, by rw [e5.out, List.length_append, ← c4.out.2]; rfl⟩⟩
      · obtain ⟨rfl, e2⟩ := c4.out
        have hx : xs.take K = xs := List.take_of_length_le (by omega)
        rw [hx] at e2 hown c2
        rw [hx]
        obtain ⟨b1, b2, b3⟩ := back_str xs
        have hrl := runesGo_len (strOfNums (encCat xs)) (strOfNums (encCat xs)).size 0
        change (runesS _).length ≤ _ at hrl
        subst e2
        clear c4 hx
        generalize strOfNums (encCat xs) = S at *
        replace b1 := Lib.hid b1
        replace b2 := Lib.hid b2
        replace b3 := Lib.hid b3
        have hS : S.size ≤ maxLen := by unfold maxLen; omega
        obtain ⟨A', n', c', hv, hl', -, -⟩ := RdAt.of_own hown
        have hn' : (keptL xs).length = n' := by simpa [runeV] using hl'
        subst hn'
        subst hv
        clear hl'
        go_wp2_with fail
        refine runes_calls S _ (by omega) _ (fun v2 w2 o2 h2 => ?_)
        have hown2 : w2.ownsRow w.heap.size 21 1 (.slice A' (keptL xs).length c') _ (runeV (keptL xs)) := hown.kept ⟨h2.os, h2.tape, h2.output, h2.size, fun k hk _ => h2.block k hk⟩ (row := none) (by cases hv : (Value.slice A' (keptL xs).length c').ownBlock <;> simp)
        have r1 := RdAt.of_own hown2
        have r2 := RdAt.of_own o2
        have hb2 := hbel.trans (h2.mono hsz)
        rw [b1.out]
        go_wp2_with fail
        refine valid_calls S _ hS _ (fun n3 => ?_)
        rw [b1.out]
        have hb5 := below_drewN hb2 n3
        replace r1 := r1.drewN n3
        replace r2 := r2.drewN n3
        generalize w2.drewN n3 = w5 at *
        go_wp2_with fail
        rw [b2.out] at r2 hrl
        refine same_calls _ _ _ _ _ r2 r1 (by omega) (by omega) _ (fun n1 => ?_)
        rw [decide_eq_true rfl]
        have hb3 := below_drewN hb5 n1
        generalize w5.drewN n1 = w6 at *
        go_wp2_with fail
        refine count_calls S _ hS _ (fun n4 => ?_)
        rw [b3.out]
        have hb6 := below_drewN hb3 n4
        generalize w6.drewN n4 = w7 at *
        go_wp2_with fail
        refine lives_calls _ _ (fun w8 h8 => ?_)
        go_wp2_with fail
        exact retB (hR.out _ (hb6.trans (h8.mono hb6.size))) rfl
end Go.Proofs.Ytafipbmcepbpjaa.Utf
