import Derived.Test.YtbnmkbpjdelokaaGreatQ6
import Derived.Test.YtbnmkbpjdelokaaGreatQ8
import Derived.Laws.OwnMore
import Derived.Laws.MakeOwn
set_option linter.unusedVariables false
set_option maxRecDepth 100000
set_option maxHeartbeats 4000000
namespace Go.Proofs.YtbnmkbpjdelokaaGreat.Lat
open Go.RowKit Go.Lib Rel Nam
def W32 (x : Nat) : Prop := x < 4294967296
theorem w32_pow {x : Nat} : W32 x ↔ x < 2 ^ 32 := by unfold W32; rw [show (2 : Nat) ^ 32 = 4294967296 from by decide]
theorem bit_w32 {a : Nat} (h : a < 32) : W32 (bitN a) := w32_pow.2 (Nat.pow_lt_pow_right (by decide) h)
theorem zero_w32 : W32 0 := by unfold W32; omega
theorem or_w32 {x y : Nat} (hx : W32 x) (hy : W32 y) : W32 (x ||| y) := w32_pow.2 (Nat.or_lt_two_pow (w32_pow.1 hx) (w32_pow.1 hy))
theorem bits_or32 {x y : Nat} (hx : W32 x) (hy : W32 y) : bits .or .u32 (x : Int) (y : Int) = ((x ||| y : Nat) : Int) := u32_or_nat x y hx hy
theorem bits_and32 {x y : Nat} (hx : W32 x) (hy : W32 y) : bits .and .u32 (x : Int) (y : Int) = ((x &&& y : Nat) : Int) := u32_and_nat x y hx hy
theorem wrap_bit32 {a : Nat} (h : a < 32) : IntKind.u32.wrap (2 ^ a) = ((bitN a : Nat) : Int) := by
  have h1 := bit_w32 h
  unfold W32 at h1
  rw [IntKind.wrap_u32', show ((2 : Int) ^ a) = ((bitN a : Nat) : Int) by unfold bitN; simp]
  omega
def Wds (n : Nat) (F : Nat → Nat → Bool) (f : Nat → Nat) : Prop := ∀ a, a < n → W32 (f a) ∧ ∀ b, (f a).testBit b = (decide (b < n) && F a b)
def WdsP (n : Nat) (P : Nat → Nat → Prop) [∀ a b, Decidable (P a b)] (F : Nat → Nat → Bool) (f : Nat → Nat) : Prop := ∀ a, a < n → W32 (f a) ∧ ∀ b, (f a).testBit b = (decide (P a b) && F a b)
theorem and_word {n : Nat} {F : Nat → Nat → Bool} {f : Nat → Nat} (h : Wds n F f) (o : Ordr n F) {a b c : Nat} (ha : a < n) (hb : b < n) (hc : c < n) : (f c = f a &&& f b) ↔ bestB n F a b c = true := by
  have ta := (h a ha).2
  have tb := (h b hb).2
  have tc := (h c hc).2
  rw [best_iff]
  constructor
  · intro e
    have key : ∀ d, d < n → F c d = (F a d && F b d) := fun d hd => by
      have := congrArg (fun x => Nat.testBit x d) e
      simp only [Nat.testBit_and, ta, tb, tc, decide_eq_true hd, Bool.true_and] at this
      exact this
    have e1 := key c hc
    rw [o.refl c hc] at e1
    have e2 := (Bool.and_eq_true _ _).mp e1.symm
    exact ⟨e2.1, e2.2, fun d hd h1 h2 => by rw [key d hd, h1, h2]; rfl⟩
  · rintro ⟨h1, h2, h3⟩
    refine Nat.eq_of_testBit_eq fun d => ?_
    rw [Nat.testBit_and, ta, tb, tc]
    by_cases hd : d < n
    · rw [decide_eq_true hd, Bool.true_and, Bool.true_and, Bool.true_and, Bool.eq_iff_iff, Bool.and_eq_true]
      exact ⟨fun q => ⟨o.trans _ _ _ ha hc hd h1 q, o.trans _ _ _ hb hc hd h2 q⟩, fun q => h3 d hd q.1 q.2⟩
    · rw [decide_eq_false hd]; rfl
theorem leastF_same {p q : Nat → Bool} : ∀ (k i : Nat), (∀ j, i ≤ j → j < i + k → p j = q j) → leastF p k i = leastF q k i
  | 0, i, h => rfl
  | k + 1, i, h => by rw [leastF, leastF, h i (Nat.le_refl _) (by omega), leastF_same k (i + 1) (fun j h1 hj => h j (by omega) (by omega))]
def idxN (f : Nat → Nat) (n y : Nat) : Int := leastS n fun c => decide (y = f c)
theorem idx_join {n : Nat} {F : Nat → Nat → Bool} {f : Nat → Nat} (h : Wds n F f) (o : Ordr n F) {a b : Nat} (ha : a < n) (hb : b < n) : idxN f n (f a &&& f b) = joinS n F a b := by
  refine leastF_same n 0 fun c _ hc => ?_
  rw [Bool.eq_iff_iff, decide_eq_true_iff, ← and_word h o ha hb (by omega)]
  exact eq_comm
def uv (n : Nat) (f : Nat → Nat) : List Value := (List.range n).map fun i => .int .u32 (f i : Nat)
theorem uv_len (n : Nat) (f : Nat → Nat) : (uv n f).length = n := by simp [uv]
theorem uv_get (n : Nat) (f : Nat → Nat) {i : Nat} (h : i < n) : (uv n f)[i]? = some (.int .u32 (f i : Nat)) := by
  unfold uv
  rw [List.getElem?_map, List.getElem?_range h]
  rfl
theorem uv_set (n : Nat) (f : Nat → Nat) (a y : Nat) : (uv n f).set a (.int .u32 y) = uv n (upd f a y) := by
  unfold uv
  refine List.ext_getElem (by simp) fun i h1 h2 => ?_
  rw [List.getElem_set]
  simp only [List.getElem_map, List.getElem_range, upd]
  by_cases e : a = i
  · subst e; simp
  · rw [if_neg e, if_neg (fun q => e q.symm)]
def latV (v1 v2 : Value) (h : Nat → Int) : List Value := v1 :: v2 :: (List.range 2048).map fun i => .int .i8 (h i)
theorem latV_len (v1 v2 : Value) (h : Nat → Int) : (latV v1 v2 h).length = 2050 := by simp [latV]
theorem latV_get (v1 v2 : Value) (h : Nat → Int) {i : Nat} (hi : i < 2048) : (latV v1 v2 h)[2 + i]? = some (.int .i8 (h i)) := by
  unfold latV
  rw [Nat.add_comm, List.getElem?_cons_succ, List.getElem?_cons_succ, List.getElem?_map, List.getElem?_range hi]
  rfl
def updZ (h : Nat → Int) (i : Nat) (y : Int) (j : Nat) : Int := if j = i then y else h j
theorem latV_set (v1 v2 : Value) (h : Nat → Int) {i : Nat} (hi : i < 2048) (y : Int) : (latV v1 v2 h).set (2 + i) (.int .i8 y) = latV v1 v2 (updZ h i y) := by
  unfold latV
  rw [Nat.add_comm, List.set_cons_succ, List.set_cons_succ]
  congr 2
  refine List.ext_getElem (by simp) fun j h1 h2 => ?_
  rw [List.getElem_set]
  simp only [List.getElem_map, List.getElem_range, updZ]
  by_cases e : i = j
  · subst e; simp
  · rw [if_neg e, if_neg (fun q => e q.symm)]
def latC (v1 v2 : Value) : Array Value := (v1 :: v2 :: List.replicate 2048 (Value.int .i8 0)).toArray
theorem latC_zero (v1 v2 : Value) : (latC v1 v2).toList = latV v1 v2 (fun _ => 0) := by
  unfold latC latV
  simp only [List.map_const']
  rw [List.length_range]
theorem place_inj {a b c d : Nat} (hb : b < 32) (hd : d < 32) (h : a * 32 + b = c * 32 + d) : a = c ∧ b = d := by omega
def setZ (h : Nat → Int) (q a b : Nat) (y : Int) : Nat → Int := updZ (updZ h (q + (a * 32 + b)) y) (q + (b * 32 + a)) y
theorem setZ_at {h : Nat → Int} {q a b c d : Nat} {y : Int} (ha : a < 32) (hb : b < 32) (hc : c < 32) (hd : d < 32) : setZ h q a b y (q + (c * 32 + d)) = if (c = a ∧ d = b) ∨ (c = b ∧ d = a) then y else h (q + (c * 32 + d)) := by
  unfold setZ updZ
  by_cases h1 : c = b ∧ d = a
  · obtain ⟨rfl, rfl⟩ := h1
    rw [if_pos rfl, if_pos (.inr ⟨rfl, rfl⟩)]
  · rw [if_neg (fun e => h1 (place_inj hd ha (by omega)))]
    by_cases h2 : c = a ∧ d = b
    · obtain ⟨rfl, rfl⟩ := h2
      rw [if_pos rfl, if_pos (.inl ⟨rfl, rfl⟩)]
    · rw [if_neg (fun e => h2 (place_inj hd hb (by omega))), if_neg (by rintro (h | h); exact h2 h; exact h1 h)]
theorem setZ_far {h : Nat → Int} {q q' a b : Nat} {y : Int} (ha : a < 32) (hb : b < 32) {i : Nat} (hi : i < 1024) (hq : q + 1024 ≤ q' ∨ q' + 1024 ≤ q) : setZ h q a b y (q' + i) = h (q' + i) := by
  unfold setZ updZ
  rw [if_neg (by omega), if_neg (by omega)]
def FilM (q : Nat) (J : Nat → Nat → Int) (K L : Nat) (h : Nat → Int) : Prop := ∀ a b, a < 32 → b < 32 → ((a < K ∧ b < K) ∨ (a = K ∧ b < L) ∨ (b = K ∧ a < L)) → h (q + (a * 32 + b)) = J a b
theorem FilM.put {q : Nat} {J : Nat → Nat → Int} {K L : Nat} {h : Nat → Int} (hF : FilM q J K L h) (hJ : ∀ a b, J a b = J b a) (hK : K < 32) (hL : L ≤ K) : FilM q J K (L + 1) (setZ h q K L (J K L)) := fun a b ha hb hp => by
  rw [setZ_at hK (by omega) ha hb]
  split
  · next hs =>
    rcases hs with ⟨rfl, rfl⟩ | ⟨rfl, rfl⟩
    · rfl
    · exact hJ _ _
  · next hs => exact hF a b ha hb (by omega)
theorem FilM.far {q q' : Nat} {J : Nat → Nat → Int} {K L : Nat} {h : Nat → Int} (hF : FilM q' J K L h) {a b : Nat} {y : Int} (ha : a < 32) (hb : b < 32) (hq : q + 1024 ≤ q' ∨ q' + 1024 ≤ q) : FilM q' J K L (setZ h q a b y) := fun c d hc hd hp => by
  rw [setZ_far ha hb (by omega) hq]
  exact hF c d hc hd hp
theorem FilM.next {q : Nat} {J : Nat → Nat → Int} {K : Nat} {h : Nat → Int} (hF : FilM q J K (K + 1) h) : FilM q J (K + 1) 0 h := fun a b ha hb hp => hF a b ha hb (by omega)
theorem FilM.nil {q : Nat} {J : Nat → Nat → Int} {h : Nat → Int} : FilM q J 0 0 h := fun a b ha hb hp => by omega
end Go.Proofs.YtbnmkbpjdelokaaGreat.Lat
namespace Go.Proofs.YtbnmkbpjdelokaaGreat.Rel
open Go.RowKit Go.Lib
theorem inLoop_none {n : Nat} {F : Nat → Nat → Bool} {K : Nat} (h : ∀ b, b < n → ¬ (K ≠ b ∧ F K b = true ∧ F b K = true)) : ¬ inLoop n F K = true := fun q => by
  obtain ⟨b, h1, h2, h3, h4⟩ := inLoop_iff.1 q
  exact h b h1 ⟨h2, h3, h4⟩
theorem relloopx_calls (n : Nat) (P : List (Nat × Nat)) (hP : InR n P) (hn : n ≤ 64) (v : Value) (w : World) (h : RelP w v n P) (R : Ending → World → Prop)
    (hR : Hid (∀ (m : Nat) w', loopS n (ld n P) = m → Below w.heap.size w w' → R (.returned (.tuple #[.int .i64 m, .bool true])) w'))
    (hR2 : Hid (∀ w', loopS n (ld n P) = -1 → Below w.heap.size w w' → R (.returned (.tuple #[.int .i64 0, .bool false])) w')) : Calls Tryz.prog 75 #[v] w R := by
  have cC := Lib.hid fun R hR => relclose_calls n P hP hn v w h R hR
  have cL := Lib.hid fun (W : World) (hb : Below w.heap.size w W) R hR => rellenx_calls n P v W (h.below hb) R hR
  obtain ⟨p, rfl⟩ := h.ptr
  clear h
  go_enter Tryz.func75, Tryz.ntmps75
  go_wp2_with fail
  refine cC.out _ (Lib.hid fun cv W rc nb => ?_)
  have cH := fun (q : Nat) (a b : Nat) (ha : a < n) (hb : b < n) R hR => relhasx_calls n (cloL n P) a b (clo_in n P) hn cv (W.drewN q) (rc.below (below_drewN (Below.refl _ _) q)) R hR
  obtain ⟨pc, rfl⟩ := rc.ptr
  have cH2 : Hid (∀ (q : Nat) (a b : Nat), a < n → b < n → ∀ B, ld n P a b = B → ∀ R, Hid (∀ m, R (.returned (.bool B)) ((W.drewN q).drewN m)) → Calls Tryz.prog 118 #[.pointer (some ⟨pc, 0, none⟩), .int .i64 (a : Nat), .int .i64 (b : Nat)] (W.drewN q) R) := Lib.hid fun q a b ha hb B hB R hR => by
    have := cH q a b ha hb R
    rw [hasQ_clo ha hb, hB] at this
    exact this hR
  have cL2 := Lib.hid fun (q : Nat) R hR => cL.out (W.drewN q) (below_drewN nb q) R hR
  have cL3 := Lib.hid fun R hR => cL.out W nb R hR
  replace nb := Lib.hid nb
  clear cH cC rc cL
  generalize ld n P = F at *
  go_wp2_with fail
  refine cL3.out _ (Lib.hid ?_)
  go_wp2_with fail
  go_loopg [11] n (fun g i wr => ∃ (K q : Nat), i = .int .i64 K ∧ K + g = n ∧ wr = W.drewN q ∧ Hid (leastF (inLoop n F) g K = loopS n F))
  case atStart => exact ⟨0, 0, rfl, by omega, rfl, Lib.hid rfl⟩
  case round =>
    obtain ⟨K, q, rfl, c1, rfl, hc⟩ := hrel
    clear cL3
    by_cases hK : K < n
    · obtain ⟨kO, rfl⟩ : ∃ k, gk = k + 1 := ⟨gk - 1, by omega⟩
      have hc2 := hc.out
      rw [leastF] at hc2
      replace hc2 := Lib.hid hc2
      clear hc
      go_wp2_with fail
      refine cL2.out q _ (Lib.hid ?_)
      go_wp2_with fail
      go_loopg [16] n (fun g i wr => ∃ (L q : Nat), i = .int .i64 L ∧ L + g = n ∧ wr = W.drewN q ∧ Hid (∀ b, b < L → ¬ (K ≠ b ∧ F K b = true ∧ F b K = true)))
      case atStart => exact ⟨0, q, rfl, by omega, rfl, Lib.hid fun b h => by omega⟩
      case round =>
        obtain ⟨L, q2, rfl, d1, rfl, hd⟩ := hrel
        by_cases hL : L < n
        · have hnext : ¬ (K ≠ L ∧ F K L = true ∧ F L K = true) → ∀ b, b < L + 1 → ¬ (K ≠ b ∧ F K b = true ∧ F b K = true) := fun h b hb => by
            rcases Nat.eq_or_lt_of_le (Nat.le_of_lt_succ hb) with e | q
            · subst e; exact h
            · exact hd.out b q
          have cA := Lib.hid (fun q => cH2.out q K L hK hL)
          have cB := Lib.hid (fun q => cH2.out q L K hL hK)
          by_cases e : K = L
          · subst e
            have hd2 := Lib.hid (hnext (fun h => h.1 rfl))
            clear hd hnext
            go_wp2_with fail
            go_roundg (gk - 1)
            case measure => omega
            case rel => exact ⟨K + 1, q2, by go_num, by omega, rfl, hd2⟩
          · have q0 : ((K : Int) != (L : Int)) = true := by simp; omega
            cases e1 : F K L
            · have hd2 := Lib.hid (hnext (fun h => by rw [e1] at h; simp at h))
              replace e1 := Lib.hid e1
              clear hd hnext
              go_wp2_with fail
              refine cA.out q2 false e1.out _ (Lib.hid fun m => ?_)
              go_wp2_with fail
              go_roundg (gk - 1)
              case measure => omega
              case rel => exact ⟨L + 1, q2 + m, by go_num, by omega, rfl, hd2⟩
            · cases e2 : F L K
              · have hd2 := Lib.hid (hnext (fun h => by rw [e2] at h; simp at h))
                replace e1 := Lib.hid e1
                replace e2 := Lib.hid e2
                clear hd hnext
                go_wp2_with fail
                refine cA.out q2 true e1.out _ (Lib.hid fun m => ?_)
                go_wp2_with fail
                refine cB.out (q2 + m) false e2.out _ (Lib.hid fun m2 => ?_)
                go_wp2_with fail
                go_roundg (gk - 1)
                case measure => omega
                case rel => exact ⟨L + 1, q2 + m + m2, by go_num, by omega, rfl, hd2⟩
              · have hin : inLoop n F K = true := inLoop_iff.2 ⟨L, hL, e, e1, e2⟩
                have e3 := hc2.out
                rw [if_pos hin] at e3
                have fin := Lib.hid fun q => hR.out K (W.drewN q) e3.symm (below_drewN nb.out q)
                replace e1 := Lib.hid e1
                replace e2 := Lib.hid e2
                clear hd hnext hin e3
                go_wp2_with fail
                refine cA.out q2 true e1.out _ (Lib.hid fun m => ?_)
                go_wp2_with fail
                refine cB.out (q2 + m) true e2.out _ (Lib.hid fun m2 => ?_)
                go_wp2_with fail
                exact fin.out _
        · obtain rfl : L = n := by omega
          have e3 := hc2.out
          rw [if_neg (inLoop_none hd.out)] at e3
          replace e3 := Lib.hid e3
          clear hd hc2
          go_wp2_with fail
          go_roundg kO
          case measure => omega
          case rel => exact ⟨K + 1, q2, by go_num, by omega, rfl, e3⟩
    · obtain rfl : gk = 0 := by omega
      have fin := Lib.hid (hR2.out _ hc.out.symm (below_drewN nb.out q))
      clear hc cH2 cL2
      go_wp2_with fail
      exact fin.out
end Go.Proofs.YtbnmkbpjdelokaaGreat.Rel
namespace Go.Proofs.YtbnmkbpjdelokaaGreat.Lat
open Go.RowKit Go.Lib Rel Nam
theorem infoU32 : (Tryz.prog.info? 185).map (fun i => (i.zero, i.size, i.bytes)) = some (some (.int .u32 0), 1, 4) := by kernel_rfl
theorem mk_u32 (n : Nat) (hn : n ≤ 1000000) : ∃ M : Array Value, M.toList = uv n (fun _ => 0) ∧
    ∀ w, (Instr.makeSlice 181 (.int .i64 n) (.int .i64 n)).run Tryz.prog w = .ok (.slice (some ⟨w.heap.size, 0, none⟩) n n) (w.alloc (.cells M 185)) := by
  obtain ⟨i0, hi, hz0, hz1, hz2⟩ := info_parts infoU32
  refine ⟨madeCells (#[.int .u32 0]) (n * 1), by rw [toList_madeCells_one, Nat.mul_one]; unfold uv; simp only [List.map_const']; rw [List.length_range]; rfl, fun w => ?_⟩
  have := run_make (P := Tryz.prog) w 181 185 i0 _ Tryz.underlying181 hi hz0 .i64 .i64 n n (by omega) (Int.le_refl _) (by rw [hz2]; omega) (by omega)
  rw [hz1] at this
  exact this
theorem grown_trans {w w' w'' : World} {row : Option Nat} (h : w.grownBy w' row) (h' : w'.grownBy w'' row) : w.grownBy w'' row :=
  ⟨h'.os.trans h.os, h'.tape.trans h.tape, h'.output.trans h.output, Nat.le_trans h.size h'.size, fun k hk hr => (h'.block k (Nat.lt_of_lt_of_le hk h.size) hr).trans (h.block k hk hr)⟩
theorem below_of_grown {B0 B : Nat} {w w' : World} (h : w.grownBy w' (some B)) (h0 : B0 ≤ B) (h1 : B0 ≤ w.heap.size) : Below B0 w w' := grown_below h h1 (fun k e => by cases e; exact h0)
theorem grown_cell {w w' : World} {B g x : Nat} {u : Value} (h : w.grownBy w' (some B)) (hg : g < w.heap.size) (hn : g ≠ B) (hc : w.cell? ⟨g, x, none⟩ = some u) : w'.cell? ⟨g, x, none⟩ = some u :=
  (World.cell?_of_block (a := ⟨g, x, none⟩) (h.block g hg (by simpa using hn))).trans hc
theorem idx32_calls (n : Nat) (f : Nat → Nat) (g c : Nat) (y : Nat) (w : World) (hn : n ≤ 32) (hca : ∀ i, i < n → w.cell? ⟨g, i, none⟩ = some (.int .u32 (f i : Nat))) (R : Ending → World → Prop)
    (hR : Hid (R (.returned (.int .i64 (idxN f n y))) w)) : Calls Tryz.prog 120 #[.slice (some ⟨g, 0, none⟩) n c, .int .u32 (y : Nat)] w R := by
  replace hca := Lib.hid hca
  go_enter Tryz.func120, Tryz.ntmps120
  go_wp2_with fail
  go_loopg [5, 8] n (fun k s5 i wr => ∃ (K : Nat), i = .int .i64 K ∧ K + k = n ∧ wr = w ∧ Hid (leastF (fun c => decide (y = f c)) k K = idxN f n y))
  case atStart => exact ⟨0, rfl, by omega, rfl, Lib.hid rfl⟩
  case round =>
    obtain ⟨K, rfl, c1, rfl, hc⟩ := hrel
    by_cases hK : K < n
    · obtain ⟨kI, rfl⟩ : ∃ k, gk = k + 1 := ⟨gk - 1, by omega⟩
      have e0 := hca.out K hK
      have h2 := hc.out
      rw [leastF] at h2
      have hi0 : (0 : Int) ≤ (K : Int) := by omega
      have hi1 : (K : Int) < (n : Int) := by omega
      by_cases e : y = f K
      · rw [if_pos (decide_eq_true e)] at h2
        have q0 : (((y : Nat) : Int) == ((f K : Nat) : Int)) = true := by rw [e]; simp
        rw [← h2] at hR
        clear hc h2 e
        generalize f K = z at *
        go_wp2_with fail
        exact hR.out
      · rw [if_neg (by simp [e])] at h2
        have q0 : (((y : Nat) : Int) == ((f K : Nat) : Int)) = false := by simp; omega
        replace h2 := Lib.hid h2
        clear hc e
        generalize f K = z at *
        go_wp2_with fail
        go_roundg kI
        case measure => omega
        case rel => exact ⟨K + 1, by go_num, by omega, rfl, h2⟩
    · obtain rfl : gk = 0 := by omega
      have h2 := hc.out
      rw [leastF] at h2
      rw [← h2] at hR
      clear hc h2
      go_wp2_with fail
      exact hR.out
abbrev OwnL (w : World) (base B : Nat) (v1 v2 : Value) (h : Nat → Int) : Prop := w.ownsRow base 122 1 (.slice (some ⟨B, 0, none⟩) 2050 2050) 2050 (latV v1 v2 h)
theorem OwnL.cell {w : World} {base B : Nat} {v1 v2 : Value} {h : Nat → Int} (ow : OwnL w base B v1 v2 h) {i : Nat} (hi : i < 2048) : w.cell? ⟨B, 2 + i, none⟩ = some (.int .i8 (h i)) := (World.ownsRow.cellAt ow (2 + i) (by omega)).trans (latV_get v1 v2 h hi)
theorem OwnL.frozen {w : World} {base B : Nat} {v1 v2 : Value} {h : Nat → Int} (ow : OwnL w base B v1 v2 h) (i : Nat) : w.frozen? ⟨B, i, none⟩ = false := World.ownsRow.frozenAt ow i
theorem OwnL.put {w : World} {base B : Nat} {v1 v2 : Value} {h : Nat → Int} (ow : OwnL w base B v1 v2 h) {i : Nat} (hi : i < 2048) (y : Int) : OwnL (w.setCell ⟨B, 2 + i, none⟩ (.int .i8 y)) base B v1 v2 (updZ h i y) ∧ w.grownBy (w.setCell ⟨B, 2 + i, none⟩ (.int .i8 y)) (some B) := by
  obtain ⟨h1, h2⟩ := World.ownsRow.stored ow (2 + i) (.int .i8 y)
  rw [latV_set v1 v2 h hi] at h1
  exact ⟨h1, h2⟩
theorem latset_calls (base B : Nat) (v1 v2 : Value) (h : Nat → Int) (w : World) (ow : OwnL w base B v1 v2 h) (q o : Nat) (ho : o = 2 + q) (hq : q = 0 ∨ q = 1024) (a b k : Nat) (ha : a < 32) (hb : b < 32) (hk : k < 32) (R : Ending → World → Prop)
    (hR : Hid (∀ w', OwnL w' base B v1 v2 (setZ h q a b k) → w.grownBy w' (some B) → R (.returned (.tuple #[])) w')) : Calls Tryz.prog 121 #[.pointer (some ⟨B, o, none⟩), .int .i64 (a : Nat), .int .i64 (b : Nat), .int .i64 (k : Nat)] w R := by
  have p1 : o + a * 32 + b = 2 + (q + (a * 32 + b)) := by omega
  have p2 : o + b * 32 + a = 2 + (q + (b * 32 + a)) := by omega
  have c1 := ow.cell (show q + (a * 32 + b) < 2048 by omega)
  have f1 := ow.frozen (2 + (q + (a * 32 + b)))
  obtain ⟨o2, g2⟩ := ow.put (show q + (a * 32 + b) < 2048 by omega) k
  have c2 := o2.cell (show q + (b * 32 + a) < 2048 by omega)
  have f2 := o2.frozen (2 + (q + (b * 32 + a)))
  obtain ⟨o3, g3⟩ := o2.put (show q + (b * 32 + a) < 2048 by omega) k
  have fin := Lib.hid (hR.out _ o3 (grown_trans g2 g3))
  rw [← p1] at c1 f1 fin c2 f2
  rw [← p2] at c2 f2 fin
  have a0 : (0 : Int) ≤ (a : Int) := by omega
  have a1 : (a : Int) < 32 := by omega
  have b0 : (0 : Int) ≤ (b : Int) := by omega
  have b1 : (b : Int) < 32 := by omega
  have k0 : (0 : Int) ≤ (k : Int) := by omega
  have k1 : (k : Int) < 32 := by omega
  clear p1 p2 o2 g2 o3 g3 ow ho hq hR
  generalize h (q + (a * 32 + b)) = y1 at *
  generalize updZ h (q + (a * 32 + b)) k (q + (b * 32 + a)) = y2 at *
  go_enter Tryz.func121, Tryz.ntmps121
  go_wp2_with fail
  refine bodyPost_ret ?_ rfl fin.out
  simp [results, Tryz.results121, go_sem]
end Go.Proofs.YtbnmkbpjdelokaaGreat.Lat
