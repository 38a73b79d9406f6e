/- The code's digit, Hex, value, number. -/
import Derived.Test.YtikcblnemdbjnaaEscS
import Derived.Test.YtikcblnemdbjnaaCelU
import Derived.Laws.RangeAny
import Derived.Lib.OthersKept
set_option linter.unusedVariables false
namespace Go.Proofs.Ytikcblnemdbjnaa.Esc
open Go.RowKit Go.Lib Go.Proofs.Ytikcblnemdbjnaa.Utf Go.Proofs.Ytikcblnemdbjnaa.Ran Go.Proofs.Ytikcblnemdbjnaa.Cel

theorem enc_dg {d : Nat} (h : d < 16) : Utf8.encode ((dg d : Nat) : Int) = strOfNums [((dg d : Nat) : Int)] :=
  (by decide +kernel : ∀ d : Fin 16, Utf8.encode ((dg d.val : Nat) : Int) = strOfNums [((dg d.val : Nat) : Int)]) ⟨d, h⟩
theorem digit_calls (x : Int) (h0 : 0 ≤ x) (h1 : x < 16) (w : World) (R : Ending → World → Prop) (hR : Hid (R (.returned (.int .i32 (dg x.toNat : Nat))) w)) :
    Calls Try.prog 49 #[.int .u32 x] w R := by
  have hd : (dg x.toNat : Int) = if x < 10 then 48 + x else 87 + x := by unfold dg; split <;> split <;> omega
  generalize (dg x.toNat : Int) = y at *
  by_cases h : x < 10
  · rw [if_pos h] at hd
    go_enter Try.func49, Try.ntmps49
    go_wp2_with fail
    exact retI hR.out (by omega)
  · rw [if_neg h] at hd
    go_enter Try.func49, Try.ntmps49
    go_wp2_with fail
    exact retI hR.out (by omega)
theorem hexB_size {n : Nat} (h : n < 4294967296) : (hexB n).size ≤ 8 := by
  rw [← bl_length, bl_hex]
  exact (hexL_len 7 n h).2
set_option maxRecDepth 100000 in
theorem hex_calls (n : Nat) (hn : n < 4294967296) (w : World) (R : Ending → World → Prop) (hR : Hid (R (.returned (.string (hexB n))) w)) :
    Calls Try.prog 33 #[.int .u32 n] w R := by
  have hz := hexB_size hn
  go_enter Try.func33, Try.ntmps33
  go_wp2_with fail
  go_loopg [0, 3] n (fun k x c wr => ∃ (m : Nat) (lo : ByteArray), wr = w ∧ x = .int .u32 m ∧ c = .string lo ∧ m = k ∧ m ≤ n ∧ Hid (hexB m ++ lo = hexB n))
  case atStart => exact ⟨n, ByteArray.empty, rfl, rfl, rfl, rfl, Nat.le_refl _, Lib.hid (ByteArray.append_empty)⟩
  case round =>
    obtain ⟨m, lo, rfl, rfl, rfl, rfl, c2, c3⟩ := hrel
    have hlo : (hexB m).size + lo.size ≤ 8 := by rw [← ByteArray.size_append, c3.out]; exact hz
    by_cases hm : m < 16
    · have e := c3.out
      rw [hexB_lt hm] at e
      clear c3
      replace e := Lib.hid e
      have h8 : lo.size ≤ 8 := by omega
      have cD := fun (W : World) R hR => digit_calls (m : Int) (by omega) (by omega) W R hR
      rw [Int.toNat_natCast] at cD
      have hE := enc_dg hm
      generalize ((dg m : Nat) : Int) = y at *
      generalize strOfNums [y] = z at *
      have hzz : z.size ≤ 8 := by
        have := congrArg ByteArray.size e.out
        rw [ByteArray.size_append] at this
        omega
      replace cD := Lib.hid cD
      go_wp2_with fail
      refine cD.out _ _ (Lib.hid ?_)
      go_wp2_with fail
      exact retS hR.out e.out.symm
    · have e := c3.out
      rw [hexB_ge hm, ByteArray.append_assoc] at e
      clear c3
      replace e := Lib.hid e
      have h8 : lo.size ≤ 8 := by omega
      have cD := fun (W : World) R hR => digit_calls ((m : Int) % 16) (by omega) (by omega) W R hR
      rw [show ((m : Int) % 16).toNat = m % 16 by omega] at cD
      have hE := enc_dg (d := m % 16) (by omega)
      have hs1 : (strOfNums [((dg (m % 16) : Nat) : Int)]).size = 1 := by rw [strOfNums_size]; rfl
      generalize ((dg (m % 16) : Nat) : Int) = y at *
      generalize strOfNums [y] = z at *
      replace cD := Lib.hid cD
      go_wp2_with fail
      refine cD.out _ _ (Lib.hid ?_)
      go_wp2_with fail
      go_roundg (m / 16)
      case measure => omega
      case rel =>
        refine ⟨m / 16, _, rfl, by go_num, rfl, rfl, by omega, Lib.hid ?_⟩
        exact e.out

theorem value_calls (r : Int) (w : World) (hr : -2147483648 ≤ r ∧ r ≤ 2147483647) (R : Ending → World → Prop) (hR : Hid (R (.returned (.tuple #[.int .u32 (if valD r < 0 then 0 else valD r), .bool (decide (0 ≤ valD r))])) w)) :
    Calls Try.prog 63 #[.int .i32 r] w R := by
  have hc : (48 ≤ r ∧ r < 58 ∧ valD r = r - 48) ∨ (¬ (48 ≤ r ∧ r < 58) ∧ 65 ≤ r ∧ r < 71 ∧ valD r = r - 55) ∨ (¬ (48 ≤ r ∧ r < 58) ∧ ¬ (65 ≤ r ∧ r < 71) ∧ 97 ≤ r ∧ r < 103 ∧ valD r = r - 87) ∨
      (¬ (48 ≤ r ∧ r < 58) ∧ ¬ (65 ≤ r ∧ r < 71) ∧ ¬ (97 ≤ r ∧ r < 103) ∧ valD r = -1) := by unfold valD; (repeat' split) <;> omega
  have key : ∀ (a : Int) (b : Bool), R (.returned (.tuple #[.int .u32 a, .bool b])) w → ∀ a' b', a' = a → b' = b → R (.returned (.tuple #[.int .u32 a', .bool b'])) w := by intro a b h a' b' e1 e2; subst e1 e2; exact h
  replace key := Lib.hid (key _ _ hR.out)
  clear hR
  generalize valD r = v at *
  rcases hc with ⟨h1, h2, h3⟩ | ⟨h0, h1, h2, h3⟩ | ⟨h0, h0', h1, h2, h3⟩ | ⟨h0, h0', h0'', h3⟩
  · go_enter Try.func63, Try.ntmps63
    go_wp2_with fail
    exact key.out _ _ (by rw [if_neg (by omega)]; omega) (by simp; omega)
  · go_enter Try.func63, Try.ntmps63
    go_wp2_with fail
    exact key.out _ _ (by rw [if_neg (by omega)]; omega) (by simp; omega)
  · go_enter Try.func63, Try.ntmps63
    go_wp2_with fail
    exact key.out _ _ (by rw [if_neg (by omega)]; omega) (by simp; omega)
  · go_enter Try.func63, Try.ntmps63
    go_wp2_with fail
    all_goals exact key.out _ _ (by rw [if_pos (by omega)]) (by simp; omega)
end Go.Proofs.Ytikcblnemdbjnaa.Esc
