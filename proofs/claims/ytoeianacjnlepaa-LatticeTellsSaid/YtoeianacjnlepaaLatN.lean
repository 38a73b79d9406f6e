/- The code of layer 11: Sees, Top, Bottom. -/
import Derived.Test.YtoeianacjnlepaaLatJ
set_option maxRecDepth 100000
set_option linter.unusedVariables false
namespace Go.Proofs.Ytoeianacjnlepaa.Lat
open Go.RowKit Go.Lib Go.Proofs.Ytoeianacjnlepaa.Rel Go.Proofs.Ytoeianacjnlepaa.Nam

/-- What Sees has found among the first K. -/
def seenS (F : Nat → Nat → Bool) (n : Nat) (a : Int) (K : Nat) : List Nat := if 0 ≤ a ∧ a < n then seesF F a.toNat K else []
theorem seen_zero (F : Nat → Nat → Bool) (n : Nat) (a : Int) : seenS F n a 0 = [] := by unfold seenS; split <;> rfl
theorem seen_succ (F : Nat → Nat → Bool) (n : Nat) (a : Int) {K : Nat} (hK : K < n) : seenS F n a (K + 1) = if (decide (0 ≤ (K : Int) ∧ (K : Int) < n ∧ 0 ≤ a ∧ a < n) && F (K : Int).toNat a.toNat) = true then seenS F n a K ++ [K] else seenS F n a K := by
  unfold seenS
  by_cases ha : 0 ≤ a ∧ a < n
  · rw [if_pos ha, if_pos ha, decide_eq_true ⟨by omega, by omega, ha.1, ha.2⟩, Bool.true_and, Int.toNat_natCast, seesF]
  · rw [if_neg ha, if_neg ha, decide_eq_false (fun h => ha ⟨h.2.2.1, h.2.2.2⟩)]; rfl
theorem seen_len (F : Nat → Nat → Bool) (n : Nat) (a : Int) (K : Nat) : (seenS F n a K).length ≤ K := by
  unfold seenS
  split
  · exact sees_len F _ K
  · exact Nat.zero_le _
set_option maxRecDepth 100000 in
set_option maxHeartbeats 1000000 in
theorem latseesx_calls (nm : List ByteArray) (F : Nat → Nat → Bool) (v : Value) (w : World) (h : LatP w v nm F) (a : Int) (R : Ending → World → Prop) (hR : Hid (∀ v' w', RdAt w' v' 1 (ivR (seenS F nm.length a nm.length)) → Below w.heap.size w w' → R (.returned v') w')) : Calls Try.prog 23 #[v, .int .i64 a] w R := by
  have cQ := Lib.hid fun (W : World) (hb : Below w.heap.size w W) b R hR => latleqx_calls nm F v W (h.below hb) b a R hR
  have hlt := h.latt.2
  obtain ⟨p, rfl, hv, -⟩ := h
  have cL := Lib.hid fun R hR => latlenx_calls nm p w hv R hR
  have hs0 := Lib.hid (seen_zero F nm.length a)
  have hs := Lib.hid fun K (hK : K < nm.length) => seen_succ F nm.length a hK
  have hsl := Lib.hid (seen_len F nm.length a)
  obtain ⟨j0, hJ, yz0, yz1, yz2⟩ := info_parts infoIntR
  clear hv
  generalize seenS F nm.length a = S at *
  generalize nm.length = n at *
  go_enter Try.func23, Try.ntmps23
  go_wp2_with fail
  refine cL.out _ (Lib.hid ?_)
  go_wp2_with fail
  go_loopg [5, 9] n (fun g s i wr => ∃ (K : Nat) (vo : Value), vo = s ∧ i = .int .i64 K ∧ K + g = n ∧ Hid (Below w.heap.size w wr) ∧ Hid (wr.ownsRow w.heap.size 3 1 vo (S K).length (ivR (S K))))
  case atStart => exact ⟨0, _, rfl, rfl, by omega, Lib.hid (Below.refl _ _), Lib.hid (by rw [hs0.out]; exact World.ownsRow_nil _ _ _ _)⟩
  case round =>
    obtain ⟨K, vo, rfl, rfl, c1, nb, own⟩ := hrel
    have hsz := nb.out.size
    by_cases hK : K < n
    · have cQ2 := Lib.hid (cQ.out wr nb.out (K : Nat))
      have h1 := hs.out K hK
      have h2 := hsl.out K
      generalize (decide (0 ≤ (K : Int) ∧ (K : Int) < n ∧ 0 ≤ a ∧ a < n) && F (K : Int).toNat a.toNat) = q at *
      cases q
      · rw [if_neg (by simp)] at h1
        replace h1 := Lib.hid h1
        go_wp2_with fail
        refine cQ2.out _ (Lib.hid ?_)
        go_wp2_with fail
        go_roundg (gk - 1)
        case measure => omega
        case rel => exact ⟨K + 1, vo, rfl, by go_num, by omega, nb, Lib.hid (by rw [h1.out]; exact own.out)⟩
      · rw [if_pos rfl] at h1
        replace h1 := Lib.hid h1
        obtain ⟨L, hL⟩ : ∃ L, (S K).length = L := ⟨_, rfl⟩
        rw [hL] at own h2
        replace hL := Lib.hid hL
        have ow2 := own.out
        clear own cL cQ
        go_wp2_with fail
        refine cQ2.out _ (Lib.hid ?_)
        go_wp2_with (at_builtin; refine app1 wr (.int .i64 (K : Nat)) 3 rfl _ _ 46 rfl w.heap.size j0 (.int .i64 0) 8 Try.underlying46 hJ yz0 yz1 yz2 rfl vo _ _ rfl ow2 rfl rfl (by unfold maxLen; omega) (by omega) hsz ?_; intro v' w3 hown3 hg3 hb3)
        have n3 := Lib.hid (nb.out.trans (hb3.mono (Nat.le_refl _)))
        go_roundg (gk - 1)
        case measure => omega
        case rel =>
          refine ⟨K + 1, v', rfl, by go_num, by omega, n3, Lib.hid ?_⟩
          rw [h1.out, show (S K ++ [K]).length = L + 1 by simp [hL.out], show ivR (S K ++ [K]) = ivR (S K) ++ [.int .i64 (K : Nat)] by simp [ivR]]
          exact hown3
    · obtain rfl : K = n := by omega
      have fin := Lib.hid (hR.out _ _ (RdAt.of_own own.out) nb.out)
      clear own nb cQ cL
      go_wp2_with fail
      exact fin.out
theorem latseesN_calls (w : World) (R : Ending → World → Prop) (a : Int) (ha : Bd a) (hR : Hid (∀ A c w', Below w.heap.size w w' → R (.returned (.slice A 0 c)) w')) : Calls Try.prog 23 #[.pointer none, .int .i64 a] w R := by
  go_enter Try.func23, Try.ntmps23
  go_wp2_with fail
  refine latlenN_calls _ _ (Lib.hid fun w1 n1 => ?_)
  go_wp2_with fail
  go_loopg [5, 9] 0 (fun g s i wr => s = .slice none 0 0 ∧ i = .int .i64 0 ∧ wr = w1)
  case atStart => exact ⟨rfl, rfl, rfl⟩
  case round =>
    obtain ⟨rfl, rfl, rfl⟩ := hrel
    go_wp2_with fail
    exact hR.out _ _ _ n1

/-- What a fold over the first levels makes. -/
def fldS (J : Nat → Nat → Nat) : Nat → Nat
  | 0 => 0
  | k + 1 => J (fldS J k) k
theorem fld_lt {n : Nat} {J : Nat → Nat → Nat} (h0 : 0 < n) (hJ : ∀ a b, a < n → b < n → J a b < n) : ∀ k, k ≤ n → fldS J k < n
  | 0, _ => h0
  | k + 1, h => hJ _ _ (fld_lt h0 hJ k (by omega)) h
theorem fld_top {n : Nat} {F : Nat → Nat → Bool} (h : Latt n F) : ∀ k, k ≤ n → ∀ a, a < k → F a (fldS (jn n F) k) = true
  | 0, _, a, ha => by omega
  | k + 1, hk, a, ha => by
    have l1 := fld_lt h.pos (fun a b => h.jn_lt) k (by omega)
    obtain ⟨j0, j1, j2, -⟩ := h.jn_best l1 (show k < n by omega)
    rcases Nat.eq_or_lt_of_le (Nat.le_of_lt_succ ha) with e | q
    · subst e; exact j2
    · exact h.ord.trans _ _ _ (by omega) l1 j0 (fld_top h k (by omega) a q) j1
set_option maxRecDepth 100000 in
set_option maxHeartbeats 1000000 in
theorem latfoldJ_calls (nm : List ByteArray) (p : Nat) (w : World) (h : LevP w p nm) (J : Nat → Nat → Nat) (h0 : 0 < nm.length) (hJ : ∀ a b, a < nm.length → b < nm.length → J a b < nm.length)
    (hN : Hid (∀ (a b : Nat), a < nm.length → b < nm.length → ∀ R : Ending → World → Prop, Hid (R (.returned (.int .i64 (J a b : Nat))) w) → Calls Try.prog 18 #[.pointer (some ⟨p, 0, none⟩), .int .i64 (a : Nat), .int .i64 (b : Nat)] w R)) (R : Ending → World → Prop)
    (hR : Hid (R (.returned (.int .i64 (fldS J nm.length : Nat))) w)) : Calls Try.prog 43 #[.pointer (some ⟨p, 0, none⟩), .func (.func 18) #[.pointer (some ⟨p, 0, none⟩)] #[]] w R := by
  have cL := Lib.hid fun R hR => latlenx_calls nm p w h R hR
  have hlt : nm.length ≤ 32 := by obtain ⟨v1, v2, -, -, -, -, -, -, h6⟩ := h; exact h6
  have hF := Lib.hid fun k hk => fld_lt h0 hJ k hk
  have hS := Lib.hid fun k => show fldS J (k + 1) = J (fldS J k) k from rfl
  clear h hJ
  generalize nm.length = n at *
  have q0 : ((n : Int) == 0) = false := by simp; omega
  replace q0 := Lib.hid q0
  go_enter Try.func43, Try.ntmps43
  go_wp2_with fail
  refine cL.out _ (Lib.hid ?_)
  replace q0 := q0.out
  go_wp2_with fail
  refine cL.out _ (Lib.hid ?_)
  replace q0 := Lib.hid q0
  go_wp2_with fail
  go_loopg [5, 12] n (fun g s i wr => ∃ K : Nat, s = .int .i64 (fldS J K : Nat) ∧ i = .int .i64 K ∧ K + g = n ∧ wr = w)
  case atStart => exact ⟨0, rfl, rfl, by omega, rfl⟩
  case round =>
    obtain ⟨K, rfl, rfl, c1, rfl⟩ := hrel
    by_cases hK : K < n
    · have cN := Lib.hid (hN.out (fldS J K) K (hF.out K (by omega)) hK)
      have e := Lib.hid (hS.out K)
      generalize J (fldS J K) K = z at *
      generalize fldS J K = y at *
      clear cL hF hS
      go_wp2_with fail
      refine cN.out _ (Lib.hid ?_)
      go_wp2_with fail
      go_roundg (gk - 1)
      case measure => omega
      case rel => exact ⟨K + 1, by rw [e.out], by go_num, by omega, rfl⟩
    · obtain rfl : K = n := by omega
      clear cL hF hS
      go_wp2_with fail
      exact hR.out
set_option maxRecDepth 100000 in
set_option maxHeartbeats 1000000 in
theorem latfoldM_calls (nm : List ByteArray) (p : Nat) (w : World) (h : LevP w p nm) (J : Nat → Nat → Nat) (h0 : 0 < nm.length) (hJ : ∀ a b, a < nm.length → b < nm.length → J a b < nm.length)
    (hN : Hid (∀ (a b : Nat), a < nm.length → b < nm.length → ∀ R : Ending → World → Prop, Hid (R (.returned (.int .i64 (J a b : Nat))) w) → Calls Try.prog 20 #[.pointer (some ⟨p, 0, none⟩), .int .i64 (a : Nat), .int .i64 (b : Nat)] w R)) (R : Ending → World → Prop)
    (hR : Hid (R (.returned (.int .i64 (fldS J nm.length : Nat))) w)) : Calls Try.prog 43 #[.pointer (some ⟨p, 0, none⟩), .func (.func 20) #[.pointer (some ⟨p, 0, none⟩)] #[]] w R := by
  have cL := Lib.hid fun R hR => latlenx_calls nm p w h R hR
  have hlt : nm.length ≤ 32 := by obtain ⟨v1, v2, -, -, -, -, -, -, h6⟩ := h; exact h6
  have hF := Lib.hid fun k hk => fld_lt h0 hJ k hk
  have hS := Lib.hid fun k => show fldS J (k + 1) = J (fldS J k) k from rfl
  clear h hJ
  generalize nm.length = n at *
  have q0 : ((n : Int) == 0) = false := by simp; omega
  replace q0 := Lib.hid q0
  go_enter Try.func43, Try.ntmps43
  go_wp2_with fail
  refine cL.out _ (Lib.hid ?_)
  replace q0 := q0.out
  go_wp2_with fail
  refine cL.out _ (Lib.hid ?_)
  replace q0 := Lib.hid q0
  go_wp2_with fail
  go_loopg [5, 12] n (fun g s i wr => ∃ K : Nat, s = .int .i64 (fldS J K : Nat) ∧ i = .int .i64 K ∧ K + g = n ∧ wr = w)
  case atStart => exact ⟨0, rfl, rfl, by omega, rfl⟩
  case round =>
    obtain ⟨K, rfl, rfl, c1, rfl⟩ := hrel
    by_cases hK : K < n
    · have cN := Lib.hid (hN.out (fldS J K) K (hF.out K (by omega)) hK)
      have e := Lib.hid (hS.out K)
      generalize J (fldS J K) K = z at *
      generalize fldS J K = y at *
      clear cL hF hS
      go_wp2_with fail
      refine cN.out _ (Lib.hid ?_)
      go_wp2_with fail
      go_roundg (gk - 1)
      case measure => omega
      case rel => exact ⟨K + 1, by rw [e.out], by go_num, by omega, rfl⟩
    · obtain rfl : K = n := by omega
      clear cL hF hS
      go_wp2_with fail
      exact hR.out
set_option maxHeartbeats 400000 in
theorem latfoldN_calls (w : World) (f : Value) (R : Ending → World → Prop) (hR : Hid (∀ w', Below w.heap.size w w' → R (.returned (.int .i64 (-1))) w')) : Calls Try.prog 43 #[.pointer none, f] w R := by
  go_enter Try.func43, Try.ntmps43
  go_wp2_with fail
  refine latlenN_calls _ _ (Lib.hid fun w1 n1 => ?_)
  go_wp2_with fail
  exact hR.out _ n1
set_option maxHeartbeats 400000 in
theorem lattopx_calls (nm : List ByteArray) (F : Nat → Nat → Bool) (v : Value) (w : World) (h : LatP w v nm F) (R : Ending → World → Prop) (hR : Hid (∀ (t : Nat), t < nm.length → (∀ a, a < nm.length → F a t = true) → R (.returned (.int .i64 t)) w)) : Calls Try.prog 21 #[v] w R := by
  have hL := h.latt.1
  have cJ := Lib.hid fun (a b : Nat) (ha : a < nm.length) (hb : b < nm.length) (R : Ending → World → Prop) (hR : Hid (R (.returned (.int .i64 (jn nm.length F a b : Nat))) w)) => latjoinx_calls nm F v w h a b R (by rw [if_pos ⟨by omega, by omega, by omega, by omega⟩, Int.toNat_natCast, Int.toNat_natCast, hL.jn_eq ha hb]; exact hR)
  obtain ⟨p, rfl, hv, -⟩ := h
  have cF := Lib.hid fun R hR => latfoldJ_calls nm p w hv (jn nm.length F) hL.pos (fun a b => hL.jn_lt) cJ R hR
  have fin := Lib.hid (hR.out _ (fld_lt hL.pos (fun a b => hL.jn_lt) nm.length (Nat.le_refl _)) (fld_top hL nm.length (Nat.le_refl _)))
  clear hv hL cJ
  generalize fldS (jn nm.length F) nm.length = t at *
  go_enter Try.func21, Try.ntmps21
  go_wp2_with fail
  refine cF.out _ (Lib.hid ?_)
  go_wp2_with fail
  exact fin.out
set_option maxHeartbeats 400000 in
theorem latbottomx_calls (nm : List ByteArray) (F : Nat → Nat → Bool) (v : Value) (w : World) (h : LatP w v nm F) (R : Ending → World → Prop) (hR : Hid (∀ (t : Nat), t < nm.length → (∀ a, a < nm.length → F t a = true) → R (.returned (.int .i64 t)) w)) : Calls Try.prog 22 #[v] w R := by
  have hL := h.latt.1.flip
  have cJ := Lib.hid fun (a b : Nat) (ha : a < nm.length) (hb : b < nm.length) (R : Ending → World → Prop) (hR : Hid (R (.returned (.int .i64 (jn nm.length (flp F) a b : Nat))) w)) => latmeetx_calls nm F v w h a b R (by rw [if_pos ⟨by omega, by omega, by omega, by omega⟩, Int.toNat_natCast, Int.toNat_natCast, hL.jn_eq ha hb]; exact hR)
  obtain ⟨p, rfl, hv, -⟩ := h
  have cF := Lib.hid fun R hR => latfoldM_calls nm p w hv (jn nm.length (flp F)) hL.pos (fun a b => hL.jn_lt) cJ R hR
  have fin := Lib.hid (hR.out _ (fld_lt hL.pos (fun a b => hL.jn_lt) nm.length (Nat.le_refl _)) (fld_top hL nm.length (Nat.le_refl _)))
  clear hv hL cJ
  generalize fldS (jn nm.length (flp F)) nm.length = t at *
  go_enter Try.func22, Try.ntmps22
  go_wp2_with fail
  refine cF.out _ (Lib.hid ?_)
  go_wp2_with fail
  exact fin.out
set_option maxHeartbeats 400000 in
theorem lattopN_calls (w : World) (R : Ending → World → Prop) (hR : Hid (∀ w', Below w.heap.size w w' → R (.returned (.int .i64 (-1))) w')) : Calls Try.prog 21 #[.pointer none] w R := by
  go_enter Try.func21, Try.ntmps21
  go_wp2_with fail
  refine latfoldN_calls _ _ _ (Lib.hid fun w1 n1 => ?_)
  go_wp2_with fail
  exact hR.out _ n1
set_option maxHeartbeats 400000 in
theorem latbottomN_calls (w : World) (R : Ending → World → Prop) (hR : Hid (∀ w', Below w.heap.size w w' → R (.returned (.int .i64 (-1))) w')) : Calls Try.prog 22 #[.pointer none] w R := by
  go_enter Try.func22, Try.ntmps22
  go_wp2_with fail
  refine latfoldN_calls _ _ _ (Lib.hid fun w1 n1 => ?_)
  go_wp2_with fail
  exact hR.out _ n1
end Go.Proofs.Ytoeianacjnlepaa.Lat
