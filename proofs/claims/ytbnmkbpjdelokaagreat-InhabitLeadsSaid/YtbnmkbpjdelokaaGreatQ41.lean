import Derived.Test.YtbnmkbpjdelokaaGreatQ40
import Derived.Test.YtbnmkbpjdelokaaGreatQ15
set_option linter.unusedVariables false
set_option maxRecDepth 100000
set_option maxHeartbeats 4000000
namespace Go.Proofs.YtbnmkbpjdelokaaGreat.Res
open Go.RowKit Go.Lib Utf Nam Lat Kin Unp Rel Lab
def refT : TH := ⟨9, 0, 0, 0, 0, [], ⟨#[116]⟩, 0⟩
def optT : TH := ⟨6, 0, 0, 0, 0, [], ⟨#[]⟩, 0⟩
def boolT : TH := ⟨1, 0, 0, 0, 0, [], ⟨#[]⟩, 0⟩
def noP : PH := ⟨⟨#[]⟩, 0, false, [], 0, 0, 0, 0, []⟩
def tF : Ft := .cons noP refT .nil .nil
def sc18 : Sc := ([(⟨#[97]⟩, 0)], [], [((⟨#[116]⟩, 0), optT, tF)], boolT, .nil)
theorem i64_z : I64 0 := ⟨by decide, by decide⟩
theorem addA_behind {nm : List ByteArray} {F : Nat → Nat → Bool} {tg : ByteArray → Int} : ∀ (l : List Nd) (m : List NdR), m.length ≤ (addA nm F tg l m).2.length ∧ ∀ i, i < m.length → (addA nm F tg l m).2[i]? = m[i]?
  | [], m => ⟨Nat.le_refl _, fun _ _ => rfl⟩
  | x :: r, m => by
    have b := addT_behind nm F tg x.2.1 x.2.2 m
    have h := addA_behind (nm := nm) (F := F) (tg := tg) r (addT nm F tg x.2.1 x.2.2 m).2
    exact ⟨Nat.le_trans b.1 h.1, fun i hi => (h.2 i (Nat.lt_of_lt_of_le hi b.1)).trans (b.2.2 i hi)⟩
def EdIn (M : Nat) (e : EdR) : Prop := (e.bare = true → e.dst = -1) ∧ (e.bare = false → 0 ≤ e.dst ∧ e.dst < (M : Int))
def NdIn (M : Nat) (l : List NdR) : Prop := ∀ y ∈ l, ∀ e ∈ y.edges, EdIn M e
theorem NdIn.set {M : Nat} {l : List NdR} {i : Nat} {y : NdR} (h : NdIn M l) (hy : ∀ e ∈ y.edges, EdIn M e) : NdIn M (l.set i y) := fun z hz => by
  rcases List.mem_or_eq_of_mem_set hz with hz | rfl
  · exact h z hz
  · exact hy
theorem NdIn.snoc {M : Nat} {l : List NdR} {y : NdR} (h : NdIn M l) (hy : ∀ e ∈ y.edges, EdIn M e) : NdIn M (l ++ [y]) := fun z hz => by
  rcases List.mem_append.1 hz with hz | hz
  · exact h z hz
  · obtain rfl := List.mem_singleton.1 hz
    exact hy
theorem addF_in {nm : List ByteArray} {F : Nat → Nat → Bool} {tg : ByteArray → Int} {M : Nat} (ht : ∀ x, 0 ≤ tg x ∧ tg x < (M : Int)) : ∀ (f : Ft) (l : List NdR), NdIn M l → (addF nm F tg f l).2.length ≤ M → (∀ e ∈ (addF nm F tg f l).1, EdIn M e) ∧ NdIn M (addF nm F tg f l).2
  | .nil, l, h, _ => ⟨(fun e he => by cases he), h⟩
  | .cons p h k r, l, hl, hM => by
    rw [addF_cons] at hM ⊢
    have b2 := addF_behind (nm := nm) (F := F) (tg := tg) r (addK nm F tg p h k l).2
    have hM1 : (addK nm F tg p h k l).2.length ≤ M := Nat.le_trans b2.1 hM
    have hk : EdIn M (addK nm F tg p h k l).1 ∧ NdIn M (addK nm F tg p h k l).2 := by
      unfold addK at hM1 ⊢
      by_cases c : p.bare = true
      · rw [if_pos c]
        exact ⟨⟨fun _ => rfl, fun q => by rw [show (edP nm F p (-1)).bare = p.bare from rfl, c] at q; cases q⟩, hl⟩
      · rw [if_neg c] at hM1 ⊢
        have nb : ∀ d, (edP nm F p d).bare = true → (edP nm F p d).dst = -1 := fun d q => absurd q c
        unfold addW at hM1 ⊢
        by_cases c9 : h.kind = 9
        · rw [if_pos c9]
          exact ⟨⟨nb _, fun _ => ht h.name⟩, hl⟩
        · rw [if_neg c9] at hM1 ⊢
          have b3 := addF_behind (nm := nm) (F := F) (tg := tg) k (l ++ [ndP h])
          have hlen : (l ++ [ndP h]).length = l.length + 1 := by simp
          simp only [List.length_set] at hM1
          obtain ⟨i1, i2⟩ := addF_in ht k (l ++ [ndP h]) (hl.snoc (by intro e he; cases he)) hM1
          have hb := b3.1
          refine ⟨⟨nb _, fun _ => ⟨by show (0 : Int) ≤ (l.length : Int); omega, by show (l.length : Int) < (M : Int); omega⟩⟩, i2.set i1⟩
    obtain ⟨j1, j2⟩ := addF_in ht r _ hk.2 hM
    refine ⟨fun e he => ?_, j2⟩
    rcases List.mem_cons.1 he with rfl | he
    · exact hk.1
    · exact j1 e he
end Go.Proofs.YtbnmkbpjdelokaaGreat.Res
namespace Go.Proofs.YtbnmkbpjdelokaaGreat.Inh
open Res
def atD (D : List Int) (d : Int) : Int := D.getD d.toNat 0
def recD (D : List Int) : List EdR → Int → Int
  | [], g => g + 1
  | e :: r, g => if atD D e.dst = 0 then 0 else recD D r (max g (atD D e.dst))
def uniD (D : List Int) : List EdR → Int → Int
  | [], l => l
  | e :: r, l => if e.bare then 1 else uniD D r (if 0 < atD D e.dst ∧ (l = 0 ∨ atD D e.dst + 1 < l) then atD D e.dst + 1 else l)
def depN (D : List Int) (y : NdR) : Int := if y.kind = 7 then recD D y.edges 0 else if y.kind = 8 then uniD D y.edges 0 else 1
def recC (C : List Int) : List EdR → Int → Int
  | [], p => p
  | e :: r, p => recC C r (min (p * atD C e.dst) 2)
def uniC (C : List Int) : List EdR → Int → Int
  | [], s => min s 2
  | e :: r, s => uniC C r (s + if e.bare then 1 else atD C e.dst)
def oneC (b : Prop) [Decidable b] : Int := if b then 2 else 1
def fstD (y : NdR) : Int := (y.edges.head?.map (·.dst)).getD 0
def cntN (C : List Int) (y : NdR) : Int :=
  if y.kind = 2 then oneC (y.lo < y.hi) else if y.kind = 3 then oneC (0 < y.most) else if y.kind = 4 then min (y.names.length : Int) 2 else
  if y.kind = 5 then oneC (0 < y.most ∧ 0 < atD C (fstD y)) else if y.kind = 6 then oneC (0 < atD C (fstD y)) else
  if y.kind = 7 then recC C y.edges 1 else if y.kind = 8 then uniC C y.edges 0 else 2
def stp (f : List Int → NdR → Int) (ns : List NdR) (D : List Int) : List Int := ns.map (f D)
def itr (f : List Int → NdR → Int) (ns : List NdR) : Nat → List Int
  | 0 => ns.map fun _ => 0
  | k + 1 => stp f ns (itr f ns k)
theorem stp_len (f : List Int → NdR → Int) (ns : List NdR) (D : List Int) : (stp f ns D).length = ns.length := List.length_map _
theorem itr_len (f : List Int → NdR → Int) (ns : List NdR) : ∀ k, (itr f ns k).length = ns.length
  | 0 => List.length_map _
  | _ + 1 => stp_len _ _ _
theorem atD_stp (f : List Int → NdR → Int) (ns : List NdR) (D : List Int) (j : Int) : (∃ y, ns[j.toNat]? = some y ∧ atD (stp f ns D) j = f D y) ∨ (ns[j.toNat]? = none ∧ atD (stp f ns D) j = 0) := by
  unfold atD stp
  rw [List.getD_eq_getElem?_getD, List.getElem?_map]
  cases h : ns[j.toNat]? with
  | none => exact .inr ⟨rfl, rfl⟩
  | some y => exact .inl ⟨y, rfl, rfl⟩
theorem atD_zero (ns : List NdR) (f : List Int → NdR → Int) (j : Int) : atD (itr f ns 0) j = 0 := by
  unfold atD itr
  rw [List.getD_eq_getElem?_getD, List.getElem?_map]
  cases ns[j.toNat]? <;> rfl
def Rel (d : Int) (D E : List Int) : Prop := ∀ j, 0 ≤ atD D j ∧ atD D j ≤ d ∧ (atD D j ≠ 0 → atD E j = atD D j) ∧ (atD D j = 0 → atD E j = 0 ∨ atD E j = d + 1)
def RelN (d a b : Int) : Prop := 0 ≤ a ∧ a ≤ d ∧ (a ≠ 0 → b = a) ∧ (a = 0 → b = 0 ∨ b = d + 1)
theorem rec_late {d : Int} {D E : List Int} (h : Rel d D E) : ∀ es : List EdR, recD E es (d + 1) = 0 ∨ recD E es (d + 1) = d + 2
  | [] => .inr (by show d + 1 + 1 = d + 2; omega)
  | e :: r => by
    unfold recD
    split
    · exact .inl rfl
    · have := h e.dst
      have e1 : max (d + 1) (atD E e.dst) = d + 1 := by
        have : atD E e.dst ≤ d + 1 := by
          by_cases q : atD D e.dst = 0
          · rcases this.2.2.2 q with p | p <;> omega
          · rw [this.2.2.1 q]; omega
        omega
      rw [e1]
      exact rec_late h r
theorem rec_step {d : Int} {D E : List Int} (h : Rel d D E) : ∀ (es : List EdR) (g : Int), 0 ≤ g → g ≤ d → RelN (d + 1) (recD D es g) (recD E es g)
  | [], g, h0, h1 => ⟨by show 0 ≤ g + 1; omega, by show g + 1 ≤ d + 1; omega, fun _ => rfl, fun q => absurd q (by show g + 1 ≠ 0; omega)⟩
  | e :: r, g, h0, h1 => by
    have hj := h e.dst
    unfold recD
    by_cases q : atD D e.dst = 0
    · rw [if_pos q]
      refine ⟨Int.le_refl _, by omega, fun c => absurd rfl c, fun _ => ?_⟩
      rcases hj.2.2.2 q with p | p
      · rw [if_pos p]; exact .inl rfl
      · rw [if_neg (by omega), p, show max g (d + 1) = d + 1 by omega]
        have := rec_late h r
        rw [show d + 1 + 1 = d + 2 by omega]
        exact this
    · rw [if_neg q, hj.2.2.1 q, if_neg q]
      exact rec_step h r _ (by omega) (by omega)
theorem uni_step {d : Int} {D E : List Int} (hd : 0 ≤ d) (h : Rel d D E) : ∀ (es : List EdR) (l m : Int), RelN (d + 1) l m → RelN (d + 1) (uniD D es l) (uniD E es m)
  | [], l, m, q => q
  | e :: r, l, m, q => by
    have hj := h e.dst
    unfold uniD
    by_cases b : e.bare = true
    · rw [if_pos b, if_pos b]
      exact ⟨by omega, by omega, fun _ => rfl, fun c => by omega⟩
    · rw [if_neg b, if_neg b]
      refine uni_step hd h r _ _ ?_
      obtain ⟨q1, q2, q3, q4⟩ := q
      obtain ⟨j1, j2, j3, j4⟩ := hj
      by_cases z : atD D e.dst = 0
      · rw [if_neg (by omega)]
        rcases j4 z with p | p
        · rw [if_neg (by omega)]
          exact ⟨q1, q2, q3, q4⟩
        · rw [p]
          by_cases zl : l = 0
          · rcases q4 zl with e0 | e0
            · rw [if_pos (by omega)]
              exact ⟨q1, q2, fun c => absurd zl c, fun _ => .inr rfl⟩
            · rw [if_neg (by omega)]
              exact ⟨q1, q2, q3, q4⟩
          · have := q3 zl
            rw [if_neg (by omega)]
            exact ⟨q1, q2, q3, q4⟩
      · rw [j3 z]
        by_cases zl : l = 0
        · rw [if_pos (by omega)]
          rcases q4 zl with e0 | e0
          · rw [if_pos (by omega)]
            exact ⟨by omega, by omega, fun _ => rfl, fun c => by omega⟩
          · rw [if_pos (by omega)]
            exact ⟨by omega, by omega, fun _ => rfl, fun c => by omega⟩
        · rw [q3 zl]
          by_cases c : atD D e.dst + 1 < l
          · rw [if_pos (by omega)]
            exact ⟨by omega, by omega, fun _ => rfl, fun c => by omega⟩
          · rw [if_neg (by omega)]
            exact ⟨q1, q2, fun _ => rfl, fun c => absurd c zl⟩
theorem dep_step {d : Int} {D E : List Int} (hd : 0 ≤ d) (h : Rel d D E) (y : NdR) : RelN (d + 1) (depN D y) (depN E y) := by
  unfold depN
  split
  · exact rec_step h _ 0 (by omega) hd
  · split
    · exact uni_step hd h _ 0 0 ⟨by omega, by omega, fun c => absurd rfl c, fun _ => .inl rfl⟩
    · exact ⟨by omega, by omega, fun _ => rfl, fun c => by omega⟩
theorem rec_zero {D : List Int} (h : ∀ j, atD D j = 0) (es : List EdR) : recD D es 0 = 0 ∨ recD D es 0 = 1 := by
  cases es with
  | nil => exact .inr rfl
  | cons e r => exact .inl (by unfold recD; rw [if_pos (h _)])
theorem uni_zero {D : List Int} (h : ∀ j, atD D j = 0) : ∀ es : List EdR, uniD D es 0 = 0 ∨ uniD D es 0 = 1
  | [] => .inl rfl
  | e :: r => by
    unfold uniD
    split
    · exact .inr rfl
    · rw [if_neg (by rw [h]; omega)]
      exact uni_zero h r
theorem dep_rel (ns : List NdR) : ∀ d : Nat, Rel (d : Int) (itr depN ns d) (itr depN ns (d + 1))
  | 0 => fun j => by
    have z := atD_zero ns depN
    refine ⟨Int.le_of_eq (z j).symm, Int.le_of_eq (z j), fun c => absurd (z j) c, fun _ => ?_⟩
    rcases atD_stp depN ns (itr depN ns 0) j with ⟨y, -, e⟩ | ⟨-, e⟩
    · rw [show itr depN ns (0 + 1) = stp depN ns (itr depN ns 0) from rfl, e]
      unfold depN
      split
      · exact rec_zero z _
      · split
        · exact uni_zero z _
        · exact .inr rfl
    · exact .inl e
  | d + 1 => fun j => by
    have ih := dep_rel ns d
    rcases atD_stp depN ns (itr depN ns d) j with ⟨y, e0, e⟩ | ⟨e0, e⟩
    · have e1 : atD (itr depN ns (d + 1)) j = depN (itr depN ns d) y := e
      have e2 : atD (itr depN ns (d + 1 + 1)) j = depN (itr depN ns (d + 1)) y := by
        rcases atD_stp depN ns (itr depN ns (d + 1)) j with ⟨y2, h1, h2⟩ | ⟨h1, h2⟩
        · rw [e0, Option.some.injEq] at h1
          subst h1
          exact h2
        · rw [e0] at h1; cases h1
      rw [e1, e2]
      have := dep_step (by omega) ih y
      exact this
    · have e1 : atD (itr depN ns (d + 1)) j = 0 := e
      have e2 : atD (itr depN ns (d + 1 + 1)) j = 0 := by
        rcases atD_stp depN ns (itr depN ns (d + 1)) j with ⟨y2, h1, h2⟩ | ⟨h1, h2⟩
        · rw [e0] at h1; cases h1
        · exact h2
      rw [e1, e2]
      exact ⟨by omega, by omega, fun c => absurd rfl c, fun _ => .inl rfl⟩
def zer : List Int → Nat
  | [] => 0
  | a :: l => (if a = 0 then 1 else 0) + zer l
theorem zer_le : ∀ l : List Int, zer l ≤ l.length
  | [] => Nat.le_refl _
  | a :: l => by
    have := zer_le l
    show (if a = 0 then 1 else 0) + zer l ≤ l.length + 1
    split <;> omega
theorem zer_lt : ∀ (D E : List Int), D.length = E.length → (∀ i : Nat, D.getD i 0 ≠ 0 → E.getD i 0 = D.getD i 0) → zer E ≤ zer D ∧ (D ≠ E → zer E < zer D)
  | [], [], _, _ => ⟨Nat.le_refl _, fun h => absurd rfl h⟩
  | [], _ :: _, h, _ => by cases h
  | _ :: _, [], h, _ => by cases h
  | a :: D, b :: E, hl, h => by
    have ih := zer_lt D E (by simpa using hl) fun i => h (i + 1)
    have h0 : a ≠ 0 → b = a := h 0
    show (if b = 0 then 1 else 0) + zer E ≤ (if a = 0 then 1 else 0) + zer D ∧ (_ → (if b = 0 then 1 else 0) + zer E < (if a = 0 then 1 else 0) + zer D)
    by_cases ha : a = 0
    · rw [if_pos ha]
      by_cases hb : b = 0
      · rw [if_pos hb]
        exact ⟨by omega, fun q => by have := ih.2 (fun c => q (by rw [ha, hb, c])); omega⟩
      · rw [if_neg hb]
        exact ⟨by omega, fun q => by omega⟩
    · have e := h0 ha
      subst e
      rw [if_neg ha]
      exact ⟨by omega, fun q => by have := ih.2 (fun c => q (by rw [c])); omega⟩
def room : List Int → Nat
  | [] => 0
  | a :: l => (2 - a).toNat + room l
def LeD (C D : List Int) : Prop := ∀ j, 0 ≤ atD C j ∧ atD C j ≤ atD D j ∧ atD D j ≤ 2
structure GoodY (y : NdR) : Prop where
  kb : 1 ≤ y.kind ∧ y.kind ≤ 8
  e56 : y.kind = 5 ∨ y.kind = 6 → ∃ e, y.edges = [e] ∧ e.bare = false
  e7 : y.kind = 7 → ∀ e ∈ y.edges, e.bare = false
  n4 : y.kind = 4 → y.names ≠ []
  m3 : y.kind = 3 ∨ y.kind = 5 → 0 ≤ y.most ∧ y.most ≤ 4096
  le : y.edges.length ≤ 64
  ln : y.names.length ≤ 64
def onB (K : Int → Bool) (y : NdR) : Bool :=
  if y.kind = 7 then y.edges.all (fun e => e.bare || K e.dst) else if y.kind = 8 then y.edges.any (fun e => e.bare || K e.dst) else true
def posD (D : List Int) (j : Int) : Bool := decide (atD D j ≠ 0)
def GoodL (ns : List NdR) : Prop := ∀ y ∈ ns, GoodY y
theorem itr_fix {f : List Int → NdR → Int} {ns : List NdR} {k : Nat} (h : stp f ns (itr f ns k) = itr f ns k) : ∀ m, itr f ns (k + m) = itr f ns k
  | 0 => rfl
  | m + 1 => by
    show stp f ns (itr f ns (k + m)) = _
    rw [itr_fix h m, h]
theorem itr_one {f : List Int → NdR → Int} {ns : List NdR} {k j : Nat} (h : stp f ns (itr f ns k) = itr f ns k) (h2 : stp f ns (itr f ns j) = itr f ns j) : itr f ns k = itr f ns j := by
  rw [← itr_fix h j, Nat.add_comm, itr_fix h2 k]
theorem atD_get (D : List Int) (i : Nat) : atD D (i : Int) = D.getD i 0 := by unfold atD; rw [Int.toNat_natCast]
theorem dep_zer (ns : List NdR) (d : Nat) : zer (itr depN ns (d + 1)) ≤ zer (itr depN ns d) ∧ (itr depN ns d ≠ itr depN ns (d + 1) → zer (itr depN ns (d + 1)) < zer (itr depN ns d)) :=
  zer_lt _ _ (by rw [itr_len, itr_len]) fun i h => by
    have := (dep_rel ns d (i : Int)).2.2.1
    rw [atD_get, atD_get] at this
    exact this h
theorem dep_settle (ns : List NdR) : ∀ d : Nat, stp depN ns (itr depN ns d) = itr depN ns d ∨ zer (itr depN ns d) + d ≤ ns.length
  | 0 => .inr (by have := zer_le (itr depN ns 0); rw [itr_len] at this; omega)
  | d + 1 => by
    by_cases q : itr depN ns d = itr depN ns (d + 1)
    · exact .inl (by show stp depN ns (itr depN ns (d + 1)) = _; rw [← q]; exact q.symm)
    · rcases dep_settle ns d with h | h
      · exact absurd h.symm q
      · have := (dep_zer ns d).2 q
        exact .inr (by omega)
theorem zer_pos : ∀ (D E : List Int), D.length = E.length → zer D = 0 → (∀ i : Nat, D.getD i 0 ≠ 0 → E.getD i 0 = D.getD i 0) → D = E
  | [], [], _, _, _ => rfl
  | [], _ :: _, h, _, _ => by cases h
  | _ :: _, [], h, _, _ => by cases h
  | a :: D, b :: E, hl, hz, h => by
    have hz' : (if a = 0 then 1 else 0) + zer D = 0 := hz
    have ha : a ≠ 0 := fun q => by rw [if_pos q] at hz'; omega
    have h0 : b = a := h 0 ha
    rw [h0, zer_pos D E (by simpa using hl) (by omega) fun i => h (i + 1)]
theorem dep_done (ns : List NdR) : stp depN ns (itr depN ns ns.length) = itr depN ns ns.length := by
  rcases dep_settle ns ns.length with h | h
  · exact h
  · refine (zer_pos _ _ (by rw [itr_len, stp_len]) (by omega) fun i q => ?_).symm
    have := (dep_rel ns ns.length (i : Int)).2.2.1
    rw [atD_get, atD_get] at this
    exact this q
def itK (ns : List NdR) (D : List Int) : Nat → List Int
  | 0 => D.map fun a => if a = 0 then 0 else 1
  | m + 1 => List.zipWith (fun y a => if a = 0 then 0 else cntN (itK ns D m) y) ns D
section
variable {ns : List NdR} {D C : List Int}
structure Ends (ns : List NdR) (D C : List Int) : Prop where
  g : GoodL ns
  ld : D.length = ns.length
  lc : C.length = ns.length
  dn : ∀ j, 0 ≤ atD D j
  cn : ∀ j, 0 ≤ atD C j ∧ atD C j ≤ 2
  df : stp depN ns D = D
  cf : stp cntN ns C = C
  ps : ∀ j, posD D j = posD C j
def uns : List Int → Nat
  | [] => 0
  | a :: l => (if a = 1 then 1 else 0) + uns l
end
end Go.Proofs.YtbnmkbpjdelokaaGreat.Inh
