import Derived.Test.YtbnmkbpjdelokaaGreatQ1
import Derived.Test.YtbnmkbpjdelokaaGreatQ5
import Derived.OpenShut
import Derived.Laws.OwnMore
import Derived.Laws.MakeOwn
import Derived.Lib.OwnKind
import Derived.Test.YtbnmkbpjdelokaaGreatQ0
import Derived.SliceStrings
import Derived.Deep.AppendLies
set_option linter.unusedVariables false
set_option maxRecDepth 100000
set_option maxHeartbeats 4000000
namespace Go.Proofs.YtbnmkbpjdelokaaGreat.Rel
open Go.RowKit Go.Lib Go.ChangeShapes Go.WideShapes
abbrev Pq := Int × Int
abbrev Bd (n : Int) : Prop := -9223372036854775808 ≤ n ∧ n ≤ 9223372036854775807
def encQ (x : Pq) : List Value := [.int .i64 x.1, .int .i64 x.2]
theorem encQ_len (x : Pq) : (encQ x).length = 2 := rfl
abbrev RdQ := RdG encQ 2
def GoodQ (x : Pq) : Prop := (-9223372036854775808 ≤ x.1 ∧ x.1 ≤ 9223372036854775807) ∧ (-9223372036854775808 ≤ x.2 ∧ x.2 ≤ 9223372036854775807)
abbrev pqN (xs : List Pq) (i : Nat) : Pq := xs.getD i (0, 0)
theorem pqN_get {xs : List Pq} {i : Nat} (h : i < xs.length) : pqN xs i = xs[i] := by simp [pqN, List.getD, List.getElem?_eq_getElem h]
theorem pqN_mem {xs : List Pq} {i : Nat} (h : i < xs.length) : pqN xs i ∈ xs := by rw [pqN_get h]; exact List.getElem_mem h
theorem RdQ.op {w : World} {v : Value} {xs : List Pq} (h : RdQ w v xs) : ∃ (A : Option Addr) (c : Nat), v = .slice A xs.length c ∧ xs.length ≤ c ∧
    (0 < xs.length → ∃ g o, A = some ⟨g, o, none⟩ ∧ g < w.heap.size ∧ ∀ i, i < xs.length → w.cell? ⟨g, o + i * 2, none⟩ = some (.int .i64 (pqN xs i).1) ∧ w.cell? ⟨g, o + i * 2 + 1, none⟩ = some (.int .i64 (pqN xs i).2)) := by
  obtain ⟨A, c, rfl, hc, hr⟩ := RdG.open encQ_len (by decide) h
  refine ⟨A, c, rfl, hc, fun h0 => ?_⟩
  obtain ⟨g, o, rfl, hg, hca⟩ := hr h0
  refine ⟨g, o, rfl, hg, fun i hi => ?_⟩
  rw [pqN_get hi]
  exact ⟨hca i hi 0 (by decide), hca i hi 1 (by decide)⟩
def RightQ (n : Int) (xs : List Pq) : Prop := (0 ≤ n ∧ n ≤ 64) ∧ ∀ x ∈ xs, (0 ≤ x.1 ∧ x.1 < n) ∧ (0 ≤ x.2 ∧ x.2 < n)
instance (n : Int) (xs : List Pq) : Decidable (RightQ n xs) := by unfold RightQ; infer_instance
def toN (xs : List Pq) : List (Nat × Nat) := xs.map fun x => (x.1.toNat, x.2.toNat)
theorem toN_in {n : Nat} {xs : List Pq} (h : RightQ n xs) : InR n (toN xs) := fun p hp => by
  obtain ⟨x, hx, rfl⟩ := List.mem_map.1 hp
  have := h.2 x hx
  simp only
  omega
end Go.Proofs.YtbnmkbpjdelokaaGreat.Rel
namespace Go.Proofs.YtbnmkbpjdelokaaGreat.Lat
open Rel Nam
def bestB (n : Nat) (F : Nat → Nat → Bool) (a b c : Nat) : Bool := F a c && F b c && (List.range n).all fun d => !(F a d && F b d) || F c d
theorem best_iff {n : Nat} {F : Nat → Nat → Bool} {a b c : Nat} : bestB n F a b c = true ↔ F a c = true ∧ F b c = true ∧ ∀ d, d < n → F a d = true → F b d = true → F c d = true := by
  unfold bestB
  rw [Bool.and_eq_true, Bool.and_eq_true, List.all_eq_true]
  simp only [Bool.or_eq_true, Bool.not_eq_true', List.mem_range, and_assoc]
  refine and_congr Iff.rfl (and_congr Iff.rfl ⟨fun h d hd h1 h2 => ?_, fun h d hd => ?_⟩)
  · rcases h d hd with q | q
    · rw [h1, h2] at q; cases q
    · exact q
  · cases e1 : F a d
    · exact .inl rfl
    · cases e2 : F b d
      · exact .inl rfl
      · exact .inr (h d hd e1 e2)
def joinS (n : Nat) (F : Nat → Nat → Bool) (a b : Nat) : Int := leastS n (bestB n F a b)
theorem join_cases (n : Nat) (F : Nat → Nat → Bool) (a b : Nat) : (joinS n F a b = -1 ∧ ∀ c, c < n → bestB n F a b c = false) ∨ ∃ m : Nat, m < n ∧ bestB n F a b m = true ∧ joinS n F a b = m := by
  rcases least_cases n (bestB n F a b) with h | ⟨m, h1, h2, -, h4⟩
  · exact .inl h
  · exact .inr ⟨m, h1, h2, h4⟩
def flp (F : Nat → Nat → Bool) (a b : Nat) : Bool := F b a
structure Ordr (n : Nat) (F : Nat → Nat → Bool) : Prop where
  refl : ∀ a, a < n → F a a = true
  trans : ∀ a b c, a < n → b < n → c < n → F a b = true → F b c = true → F a c = true
  anti : Anti n F
theorem Ordr.flip {n : Nat} {F : Nat → Nat → Bool} (h : Ordr n F) : Ordr n (flp F) := ⟨h.refl, fun a b c ha hb hc h1 h2 => h.trans c b a hc hb ha h2 h1, fun a b ha hb h1 h2 => h.anti a b ha hb h2 h1⟩
theorem ordr_ld {n : Nat} {P : List (Nat × Nat)} (hP : InR n P) (h : loopS n (ld n P) = -1) : Ordr n (ld n P) := ⟨fun a ha => ld_refl hP ha, fun a b c ha _ _ h1 h2 => ld_trans hP ha h1 h2, loop_none.1 h⟩
theorem join_is {n : Nat} {F : Nat → Nat → Bool} (h : Ordr n F) {a b c : Nat} (hc : c < n) (hb : bestB n F a b c = true) : joinS n F a b = c := by
  rcases join_cases n F a b with ⟨-, q⟩ | ⟨m, h1, h2, h3⟩
  · rw [q c hc] at hb; cases hb
  · obtain ⟨p1, p2, p3⟩ := best_iff.1 hb
    obtain ⟨q1, q2, q3⟩ := best_iff.1 h2
    rw [h3, h.anti m c h1 hc (q3 c hc p1 p2) (p3 m h1 q1 q2)]
theorem best_comm (n : Nat) (F : Nat → Nat → Bool) (a b c : Nat) : bestB n F a b c = bestB n F b a c := by
  rw [Bool.eq_iff_iff, best_iff, best_iff]
  exact ⟨fun ⟨h1, h2, h3⟩ => ⟨h2, h1, fun d hd q1 q2 => h3 d hd q2 q1⟩, fun ⟨h1, h2, h3⟩ => ⟨h2, h1, fun d hd q1 q2 => h3 d hd q2 q1⟩⟩
theorem join_comm (n : Nat) (F : Nat → Nat → Bool) (a b : Nat) : joinS n F a b = joinS n F b a := by
  unfold joinS
  rw [show bestB n F a b = bestB n F b a from funext fun c => best_comm n F a b c]
theorem join_self {n : Nat} {F : Nat → Nat → Bool} (h : Ordr n F) {a : Nat} (ha : a < n) : joinS n F a a = a :=
  join_is h ha (best_iff.2 ⟨h.refl a ha, h.refl a ha, fun d _ h1 _ => h1⟩)
structure Latt (n : Nat) (F : Nat → Nat → Bool) : Prop where
  pos : 0 < n
  ord : Ordr n F
  join : ∀ a b, a < n → b < n → 0 ≤ joinS n F a b
  meet : ∀ a b, a < n → b < n → 0 ≤ joinS n (flp F) a b
theorem Latt.flip {n : Nat} {F : Nat → Nat → Bool} (h : Latt n F) : Latt n (flp F) := ⟨h.pos, h.ord.flip, h.meet, h.join⟩
theorem latt_of {n : Nat} {F : Nat → Nat → Bool} (h0 : 0 < n) (h : Ordr n F) (hb : ∀ b, b < n → ∀ a, a < b → 0 ≤ joinS n F a b ∧ 0 ≤ joinS n (flp F) a b) : Latt n F := by
  refine ⟨h0, h, fun a b ha hb' => ?_, fun a b ha hb' => ?_⟩
  · rcases Nat.lt_trichotomy a b with q | q | q
    · exact (hb b hb' a q).1
    · subst q; rw [join_self h ha]; omega
    · rw [join_comm]; exact (hb a ha b q).1
  · rcases Nat.lt_trichotomy a b with q | q | q
    · exact (hb b hb' a q).2
    · subst q; rw [join_self h.flip ha]; omega
    · rw [join_comm]; exact (hb a ha b q).2
def jn (n : Nat) (F : Nat → Nat → Bool) (a b : Nat) : Nat := (joinS n F a b).toNat
section
variable {n : Nat} {F : Nat → Nat → Bool}
theorem Latt.jn_eq (h : Latt n F) {a b : Nat} (ha : a < n) (hb : b < n) : joinS n F a b = jn n F a b := by
  have := h.join a b ha hb
  unfold jn; omega
theorem Latt.jn_best (h : Latt n F) {a b : Nat} (ha : a < n) (hb : b < n) : jn n F a b < n ∧ F a (jn n F a b) = true ∧ F b (jn n F a b) = true ∧ ∀ d, d < n → F a d = true → F b d = true → F (jn n F a b) d = true := by
  have e := h.jn_eq ha hb
  rcases join_cases n F a b with ⟨q, -⟩ | ⟨m, h1, h2, h3⟩
  · have := h.join a b ha hb; omega
  · have : jn n F a b = m := by omega
    rw [this]
    exact ⟨h1, best_iff.1 h2⟩
theorem Latt.jn_lt (h : Latt n F) {a b : Nat} (ha : a < n) (hb : b < n) : jn n F a b < n := (h.jn_best ha hb).1
theorem Latt.top (h : Latt n F) : ∃ t, t < n ∧ ∀ a, a < n → F a t = true := by
  have key : ∀ k, k ≤ n → ∃ t, t < n ∧ ∀ a, a < k → F a t = true := by
    intro k
    induction k with
    | zero => exact fun _ => ⟨0, h.pos, fun a ha => by omega⟩
    | succ k ih =>
      intro hk
      obtain ⟨t, ht, h1⟩ := ih (by omega)
      obtain ⟨j0, j1, j2, -⟩ := h.jn_best ht (show k < n by omega)
      refine ⟨jn n F t k, j0, fun a ha => ?_⟩
      rcases Nat.eq_or_lt_of_le (Nat.le_of_lt_succ ha) with e | q
      · rw [e]; exact j2
      · exact h.ord.trans _ _ _ (by omega) ht j0 (h1 a q) j1
  exact key n (Nat.le_refl n)
end
def seesF (F : Nat → Nat → Bool) (a : Nat) : Nat → List Nat
  | 0 => []
  | k + 1 => if F k a = true then seesF F a k ++ [k] else seesF F a k
abbrev Pr := Wr × Wr
abbrev pN (ps : List Pr) (i : Nat) : Pr := ps.getD i ((ByteArray.empty, 0), (ByteArray.empty, 0))
theorem pN_get {ps : List Pr} {i : Nat} (h : i < ps.length) : pN ps i = ps[i] := by simp [pN, List.getD, List.getElem?_eq_getElem h]
def idxQ (ws : List Wr) (ps : List Pr) : List Pq := ps.map fun p => (findS (nms ws) p.1.1, findS (nms ws) p.2.1)
def leqF (ws : List Wr) (ps : List Pr) (a b : Nat) : Bool := ld ws.length (toN (idxQ ws ps)) a b
def firF {α : Type} (f : Nat → Option α) : Nat → Nat → Option α
  | 0, _ => none
  | k + 1, i => match f i with
    | some x => some x
    | none => firF f k (i + 1)
theorem fir_none {α : Type} {f : Nat → Option α} : ∀ (k i : Nat), firF f k i = none → ∀ j, i ≤ j → j < i + k → f j = none
  | 0, i, _, j, h1, h2 => by omega
  | k + 1, i, h, j, h1, h2 => by
    rw [firF] at h
    cases e : f i with
    | some x => rw [e] at h; cases h
    | none =>
      rw [e] at h
      rcases Nat.eq_or_lt_of_le h1 with q | q
      · rw [← q]; exact e
      · exact fir_none k (i + 1) h j q (by omega)
theorem fir_some {α : Type} {f : Nat → Option α} {x : α} : ∀ (k i : Nat), firF f k i = some x → ∃ j, i ≤ j ∧ j < i + k ∧ f j = some x
  | 0, i, h => by cases h
  | k + 1, i, h => by
    rw [firF] at h
    cases e : f i with
    | some y => rw [e] at h; exact ⟨i, Nat.le_refl _, by omega, e.trans h⟩
    | none =>
      rw [e] at h
      obtain ⟨j, h1, h2, h3⟩ := fir_some k (i + 1) h
      exact ⟨j, by omega, by omega, h3⟩
theorem fir_is {α : Type} {f : Nat → Option α} {x : α} : ∀ (k i m : Nat), i ≤ m → m < i + k → f m = some x → (∀ j, i ≤ j → j < m → f j = none) → firF f k i = some x
  | 0, i, m, h1, h2, _, _ => by omega
  | k + 1, i, m, h1, h2, h3, h4 => by
    rw [firF]
    rcases Nat.eq_or_lt_of_le h1 with q | q
    · subst q; rw [h3]
    · rw [h4 i (Nat.le_refl _) q]
      exact fir_is k (i + 1) m q (by omega) h3 fun j q1 q2 => h4 j (by omega) q2
theorem fir_no {α : Type} {f : Nat → Option α} : ∀ (k i : Nat), (∀ j, i ≤ j → j < i + k → f j = none) → firF f k i = none
  | 0, i, h => rfl
  | k + 1, i, h => by
    rw [firF, h i (Nat.le_refl _) (by omega)]
    exact fir_no k (i + 1) fun j q1 q2 => h j (by omega) (by omega)
def lvAt (ws : List Wr) (i : Nat) : Option (Int × Int) :=
  if rightS (wN ws i).1 = false then some (9, (wN ws i).2) else if findS (nms ws) (wN ws i).1 < (i : Int) then some (10, (wN ws i).2) else none
def prAt (ws : List Wr) (ps : List Pr) (i : Nat) : Option (Int × Int) :=
  if findS (nms ws) (pN ps i).1.1 < 0 then some (17, (pN ps i).1.2) else if findS (nms ws) (pN ps i).2.1 < 0 then some (17, (pN ps i).2.2) else none
def noB (n : Nat) (F : Nat → Nat → Bool) (b a : Nat) : Bool := decide (joinS n F a b < 0) || decide (joinS n (flp F) a b < 0)
def bnB (n : Nat) (F : Nat → Nat → Bool) (b : Nat) : Bool := (List.range b).any (noB n F b)
def bnAt (ws : List Wr) (F : Nat → Nat → Bool) (b : Nat) : Option (Int × Int) := if bnB ws.length F b = true then some (12, (wN ws b).2) else none
def wrongS (ws : List Wr) (ps : List Pr) : Int × Int :=
  if ws.length = 0 then (15, 0) else if 32 < ws.length then (8, (wN ws 32).2) else if 256 < ps.length then (8, (pN ps 256).1.2) else
  match firF (lvAt ws) ws.length 0 with
  | some f => f
  | none => match firF (prAt ws ps) ps.length 0 with
    | some f => f
    | none => if 0 ≤ loopS ws.length (leqF ws ps) then (11, (wN ws (loopS ws.length (leqF ws ps)).toNat).2) else
      match firF (bnAt ws (leqF ws ps)) ws.length 0 with
      | some f => f
      | none => (0, 0)
theorem find_lt (l : List ByteArray) (s : ByteArray) : findS l s < l.length := by
  rcases find_cases l s with ⟨h, -⟩ | ⟨k, h1, -, -, h2⟩ <;> omega
theorem idx_right {ws : List Wr} {ps : List Pr} (h32 : ws.length ≤ 32) (h : firF (prAt ws ps) ps.length 0 = none) : RightQ ws.length (idxQ ws ps) := by
  refine ⟨by omega, fun x hx => ?_⟩
  obtain ⟨p, hp, rfl⟩ := List.mem_map.1 hx
  obtain ⟨i, hi, rfl⟩ := List.getElem_of_mem hp
  have := fir_none _ _ h i (Nat.zero_le _) (by omega)
  unfold prAt at this
  rw [pN_get hi] at this
  have l1 := find_lt (nms ws) ps[i].1.1
  have l2 := find_lt (nms ws) ps[i].2.1
  rw [nms_len] at l1 l2
  split at this
  · cases this
  · split at this
    · cases this
    · simp only
      omega
structure Fine (ws : List Wr) (ps : List Pr) : Prop where
  le : ws.length ≤ 32
  pairs : ps.length ≤ 256
  right : RightQ ws.length (idxQ ws ps)
  latt : Latt ws.length (leqF ws ps)
  one : ∀ i, i < ws.length → findS (nms ws) (wN ws i).1 = i
end Go.Proofs.YtbnmkbpjdelokaaGreat.Lat
namespace Go.Proofs.YtbnmkbpjdelokaaGreat.Rel
open Go.RowKit Go.Lib
def bv (r : List Bool) : List Value := r.map Value.bool
theorem own_made {w : World} {M : Array Value} {t : TypeId} {n : Nat} {xs : List Value} (h : M.toList = xs) (hn : xs.length = n) (hb : n ≤ maxLen) : (w.alloc (.cells M t)).ownsRow w.heap.size t 1 (.slice (some ⟨w.heap.size, 0, none⟩) n n) n xs := by
  have hs : M.size = n := by rw [← hn, ← h]; simp
  exact ⟨by omega, .inr ⟨w.heap.size, n, M, rfl, Nat.le_refl _, heap_alloc_new w _, Nat.le_refl _, hb, by omega, by rw [Nat.mul_one, h]; exact List.take_of_length_le (by omega)⟩⟩
abbrev rw_ (vs : List Value) (j : Nat) : Value := vs.getD j (.slice none 0 0)
def RdM (w : World) (v : Value) (n : Nat) (f : Nat → List Bool) : Prop := ∃ vs : List Value, RdAt w v 1 vs ∧ vs.length = n ∧ ∀ j, j < n → RdAt w (rw_ vs j) 1 (bv (f j)) ∧ (f j).length = n
def ivR (o : List Nat) : List Value := o.map fun i => .int .i64 (i : Nat)
end Go.Proofs.YtbnmkbpjdelokaaGreat.Rel
namespace Go.Proofs.YtbnmkbpjdelokaaGreat.Nam
open Go.RowKit Go.Lib Utf Go.ChangeShapes Go.WideShapes
def sv (l : List ByteArray) : List Value := l.map Value.string
theorem sv_len (l : List ByteArray) : (sv l).length = l.length := by simp [sv]
theorem sv_append (l m : List ByteArray) : sv (l ++ m) = sv l ++ sv m := by simp [sv]
theorem sv_get (l : List ByteArray) (k : Nat) (h : k < l.length) : (sv l)[k]? = some (.string (l.getD k ByteArray.empty)) := by simp [sv, List.getD, List.getElem?_eq_getElem h]
def RdS (w : World) (v : Value) (l : List ByteArray) : Prop := RdAt w v 1 (sv l)
theorem RdS.below {w w' : World} {v : Value} {l : List ByteArray} (h : RdS w v l) (hb : Below w.heap.size w w') : RdS w' v l := RdAt.below h hb
theorem RdS.open {w : World} {v : Value} {l : List ByteArray} (h : RdS w v l) : ∃ (A : Option Addr) (c : Nat), v = .slice A l.length c ∧ l.length ≤ c ∧
    (0 < l.length → ∃ g o, A = some ⟨g, o, none⟩ ∧ g < w.heap.size ∧ ∀ k, k < l.length → w.cell? ⟨g, o + k, none⟩ = some (.string (l.getD k ByteArray.empty))) := by
  obtain ⟨A, n, c, rfl, hl, hn, hc⟩ := h
  rw [sv_len] at hl
  obtain rfl : n = l.length := by omega
  refine ⟨A, c, rfl, hn, fun h0 => ?_⟩
  obtain ⟨g, o, rfl, hg, hc⟩ := hc (by rw [sv_len]; omega)
  exact ⟨g, o, rfl, hg, fun k hk => hc _ _ (sv_get l k hk)⟩
theorem RdS.of_own {w : World} {base : Nat} {e : TypeId} {n : Nat} {v : Value} {l : List ByteArray} (h : w.ownsRow base e 1 v n (sv l)) : RdS w v l := RdAt.of_own h
theorem grown_keep {W w2 : World} {o : Obj} {row : Option Nat} (h : (W.alloc o).drew.grownBy w2 row) {g x : Nat} {u : Value} (hg : g < W.heap.size) (hr : some g ≠ row) (hc : W.cell? ⟨g, x, none⟩ = some u) : w2.cell? ⟨g, x, none⟩ = some u :=
  ((h.cell_far ⟨g, x, none⟩ (by show g < (W.alloc o).heap.size; simp; omega) hr).trans (((Below.refl W.heap.size W).alloc (Nat.le_refl _) o).cell (p := ⟨g, x, none⟩) hg)).trans hc
theorem grown_keepF {W w2 : World} {o : Obj} {row : Option Nat} (h : (W.alloc o).drew.grownBy w2 row) {g x : Nat} {u : Bool} (hg : g < W.heap.size) (hr : some g ≠ row) (hc : W.frozen? ⟨g, x, none⟩ = u) : w2.frozen? ⟨g, x, none⟩ = u :=
  ((h.frozen_far ⟨g, x, none⟩ (by show g < (W.alloc o).heap.size; simp; omega) hr).trans (((Below.refl W.heap.size W).alloc (Nat.le_refl _) o).frozen (p := ⟨g, x, none⟩) hg)).trans hc
theorem alloc_keep {W : World} {o : Obj} {g x : Nat} {u : Value} (hg : g < W.heap.size) (hc : W.cell? ⟨g, x, none⟩ = some u) : ((W.alloc o).drew).cell? ⟨g, x, none⟩ = some u := (((Below.refl W.heap.size W).alloc (Nat.le_refl _) o).cell (p := ⟨g, x, none⟩) hg).trans hc
theorem set_keepF {W : World} {g x : Nat} {a : Addr} {u : Bool} {v : Value} (hc : W.frozen? ⟨g, x, none⟩ = u) : (W.setCell a v).frozen? ⟨g, x, none⟩ = u := by rw [World.frozen?_setCell]; exact hc
theorem seq_t {a b : ByteArray} (h : a = b) : (a.toList == b.toList) = true := by rw [seq_iff]; exact decide_eq_true h
theorem seq_f {a b : ByteArray} (h : ¬ a = b) : (a.toList == b.toList) = false := by rw [seq_iff]; exact decide_eq_false h
theorem getD_at {xs : List ByteArray} {j : Nat} (h : j < xs.length) : xs[j]? = some (xs.getD j ByteArray.empty) := by simp [List.getD, List.getElem?_eq_getElem h]
theorem find_lt {xs : List ByteArray} {K : Nat} (hK : K < xs.length) : findS xs (xs.getD K ByteArray.empty) < K ↔ xs.getD K ByteArray.empty ∈ xs.take K := by
  rcases find_cases xs (xs.getD K ByteArray.empty) with ⟨-, h⟩ | ⟨m, h1, h2, h3, h4⟩
  · exact absurd (List.mem_of_getElem? (getD_at hK)) h
  · rw [h4]
    constructor
    · intro h
      refine List.mem_take_iff_getElem.2 ⟨m, by omega, ?_⟩
      rw [List.getElem?_eq_getElem h1] at h2
      exact Option.some.inj h2
    · intro h
      obtain ⟨i, hi, e⟩ := List.mem_take_iff_getElem.1 h
      have : ¬ i < m := fun q => h3 i q (by rw [List.getElem?_eq_getElem (by omega), e])
      omega
end Go.Proofs.YtbnmkbpjdelokaaGreat.Nam
