import Derived.Test.YtncijmodlhijoaaGreatQ21
import Derived.Test.YtncijmodlhijoaaGreatQ22
import Derived.Test.YtncijmodlhijoaaGreatQ23
import Derived.Test.YtncijmodlhijoaaGreatQ24
import Derived.Test.YtncijmodlhijoaaGreatQ25
import Derived.Test.YtncijmodlhijoaaGreatQ26
import Derived.Test.YtncijmodlhijoaaGreatQ11
import Derived.Test.YtncijmodlhijoaaGreatQ5
set_option linter.unusedVariables false
set_option maxRecDepth 100000
set_option maxHeartbeats 4000000
namespace Go.Proofs.YtncijmodlhijoaaGreat.Syn
open Go.RowKit Go.Lib Utf Tok Cur Nam Lat Kin
theorem body_none (sub : Sub) (x : ByteArray) (a : Int) (q : PS) (h : x ≠ sBool ∧ x ≠ sInt ∧ x ≠ sText ∧ x ≠ sEnum ∧ x ≠ sList ∧ x ≠ sOpt ∧ x ≠ sRecord ∧ x ≠ sUnion ∧ x ≠ sRef) : bodyR sub x a q = ((hKA 0 a, .nil), (q.1, 9, a)) := by
 unfold bodyR
 rw [if_neg h.1, if_neg h.2.1, if_neg h.2.2.1, if_neg h.2.2.2.1, if_neg h.2.2.2.2.1, if_neg h.2.2.2.2.2.1, if_neg h.2.2.2.2.2.2.1, if_neg h.2.2.2.2.2.2.2.1, if_neg h.2.2.2.2.2.2.2.2]
theorem kind_step (k : Nat) (hk : KindQ k) (h23 : k ≤ 23) : KindQ (k + 1) := by
 intro p v w0 w hb hx ok hl R hR
 have hd : (24 - ((k + 1 : Nat) : Int)) + 1 = 24 - (k : Int) := by omega
 have hd0 : (0 : Int) ≤ 24 - ((k + 1 : Nat) : Int) := by omega
 have hd1 : (24 : Int) - ((k + 1 : Nat) : Int) ≤ 23 := by omega
 have e : kindR (k + 1) p = if p.2.1 ≠ 0 then ((zTH, .nil), p) else if (Cur.hdT p.1).1 ≠ 1 then ((hKA 0 (Cur.hdT p.1).2.1, .nil), wrongS p) else bodyR (kindR k) (Cur.hdT p.1).2.2.2.1 (Cur.hdT p.1).2.1 (onS p) := rfl
 generalize (24 : Int) - ((k + 1 : Nat) : Int) = d at *
 by_cases he : p.2.1 = 0
 ·rw [if_neg (by simpa using he)] at e
  by_cases h1 : (Cur.hdT p.1).1 = 1
  ·rw [if_neg (by simpa using h1)] at e
   rw [e] at hR
   clear e
   by_cases c0 : (Cur.hdT p.1).2.2.2.1 = sBool
   ·rw [c0] at hR
    exact kind_sBool k hk d hd hd0 hd1 p v w0 w hb hx ok hl he h1 c0 R hR
   by_cases c1 : (Cur.hdT p.1).2.2.2.1 = sInt
   ·rw [c1] at hR
    exact kind_sInt k hk d hd hd0 hd1 p v w0 w hb hx ok hl he h1 c1 R hR
   by_cases c2 : (Cur.hdT p.1).2.2.2.1 = sText
   ·rw [c2] at hR
    exact kind_sText k hk d hd hd0 hd1 p v w0 w hb hx ok hl he h1 c2 R hR
   by_cases c3 : (Cur.hdT p.1).2.2.2.1 = sEnum
   ·rw [c3] at hR
    exact kind_sEnum k hk d hd hd0 hd1 p v w0 w hb hx ok hl he h1 c3 R hR
   by_cases c4 : (Cur.hdT p.1).2.2.2.1 = sList
   ·rw [c4] at hR
    exact kind_sList k hk d hd hd0 hd1 p v w0 w hb hx ok hl he h1 c4 R hR
   by_cases c5 : (Cur.hdT p.1).2.2.2.1 = sOpt
   ·rw [c5] at hR
    exact kind_sOpt k hk d hd hd0 hd1 p v w0 w hb hx ok hl he h1 c5 R hR
   by_cases c6 : (Cur.hdT p.1).2.2.2.1 = sRecord
   ·rw [c6] at hR
    exact kind_sRecord k hk d hd hd0 hd1 p v w0 w hb hx ok hl he h1 c6 R hR
   by_cases c7 : (Cur.hdT p.1).2.2.2.1 = sUnion
   ·rw [c7] at hR
    exact kind_sUnion k hk d hd hd0 hd1 p v w0 w hb hx ok hl he h1 c7 R hR
   by_cases c8 : (Cur.hdT p.1).2.2.2.1 = sRef
   ·rw [c8] at hR
    exact kind_sRef k hk d hd hd0 hd1 p v w0 w hb hx ok hl he h1 c8 R hR
   rw [body_none _ _ _ _ ⟨c0, c1, c2, c3, c4, c5, c6, c7, c8⟩] at hR
   exact kind_none k hk d hd hd0 hd1 p v w0 w hb hx ok hl he h1 ⟨c0, c1, c2, c3, c4, c5, c6, c7, c8⟩ R hR
  ·rw [if_pos h1] at e
   rw [e] at hR
   exact kind_tok d p v w0 w hb hx ok hl he (by omega) h1 R hR
 ·rw [if_pos he] at e
  rw [e] at hR
  exact kind_bad d p v w0 w hb hx ok hl he R hR
theorem kind_zero : KindQ 0 := by
 intro p v w0 w hb hx ok hl R hR
 have e : kindR 0 p = if p.2.1 ≠ 0 then ((zTH, .nil), p) else ((hKA 0 (Cur.hdT p.1).2.1, .nil), (p.1, 6, (Cur.hdT p.1).2.1)) := rfl
 have hd : (23 : Int) < 24 - ((0 : Nat) : Int) := by omega
 by_cases he : p.2.1 = 0
 ·rw [if_neg (by simpa using he)] at e
  rw [e] at hR
  exact kind_deep _ p v w0 w hb hx ok hl he hd R hR
 ·rw [if_pos he] at e
  rw [e] at hR
  exact kind_bad _ p v w0 w hb hx ok hl he R hR
theorem kind16_calls : ∀ k, k ≤ 24 → KindQ k
 | 0, _ => kind_zero
 | k + 1, h => kind_step k (kind16_calls k (by omega)) (by omega)
end Go.Proofs.YtncijmodlhijoaaGreat.Syn
namespace Go.Proofs.YtncijmodlhijoaaGreat.Syn
open Go.Lib Utf Tok Cur Lat Kin
def Stk {α : Type} (el : PS → α × PS) : Prop := ∀ p, (el p).2.2.1 = 0 → p.2.1 = 0
theorem st_wrong {p : PS} (h : (wrongS p).2.1 = 0) : False := by
 unfold wrongS at h
 by_cases c : p.2.1 ≠ 0
 ·rw [if_pos c] at h; exact c h
 ·rw [if_neg c] at h
  have h2 : (if (Cur.hdT p.1).1 = 0 then (5 : Int) else 4) = 0 := h
  by_cases d : (Cur.hdT p.1).1 = 0
  ·rw [if_pos d] at h2; exact absurd h2 (by decide)
  ·rw [if_neg d] at h2; exact absurd h2 (by decide)
theorem st_fail {p : PS} {e : Int} (he : e ≠ 0) (h : (failP p e).2.1 = 0) : False := by
 unfold failP at h
 by_cases c : p.2.1 ≠ 0
 ·rw [if_pos c] at h; exact c h
 ·rw [if_neg c] at h; exact he h
theorem st_rst {p : PS} (h : (rstS p).2.1 = 0) : False := by
 unfold rstS at h
 split at h
 ·exact st_fail (by decide) h
 ·exact st_wrong h
theorem st_mark {p : PS} {m : ByteArray} (h : (markS p m).2.1 = 0) : p.2.1 = 0 := by
 unfold markS needS at h
 by_cases c : p.2.1 ≠ 0
 ·rw [if_pos c] at h; exact h
 ·simpa using c
theorem st_may {p : PS} {m : ByteArray} (h : (mayS p m).1.2.1 = 0) : p.2.1 = 0 := by
 unfold mayS at h
 by_cases c : p.2.1 = 0 ∧ isS p 4 m = true
 ·exact c.1
 ·rw [if_neg c] at h; exact h
theorem st_word {p : PS} {m : ByteArray} (h : (wordS p m).1.2.1 = 0) : p.2.1 = 0 := by
 unfold wordS at h
 by_cases c : p.2.1 = 0 ∧ isS p 1 m = true
 ·exact c.1
 ·rw [if_neg c] at h; exact h
theorem st_any {p : PS} {k : Int} (h : (anyS p k).2.2.1 = 0) : p.2.1 = 0 := by
 unfold anyS at h
 by_cases c : p.2.1 ≠ 0
 ·rw [if_pos c] at h; exact h
 ·simpa using c
theorem st_name : Stk nameS := fun p h => st_any (k := 1) h
theorem st_int : Stk intS := fun p h => st_any (k := 2) h
section
variable {α : Type} {el : PS → α × PS} {m : ByteArray}
theorem st_sep (s : Stk el) : ∀ n, Stk (sepS el m n)
 | 0 => fun p h => h
 | n + 1 => fun p h => by
  unfold sepS at h
  split at h
  ·exact s _ (st_may (st_sep s n _ h))
  ·exact s _ h
theorem st_list (s : Stk el) : Stk (listP el m) := fun p h => st_sep s _ p h
theorem st_ins {a b : ByteArray} (s : Stk el) : Stk (insS a b el) := fun p h => st_mark (s _ (st_mark h))
theorem st_none (s : Stk el) : Stk (noneC el) := fun p h => by
 unfold noneC at h
 split at h
 ·exact h
 ·exact st_list s p h
end
theorem st_num : Stk numS := fun p h => st_mark (st_any (k := 2) (st_mark h))
theorem st_label : Stk labelC := fun p h => by
 unfold labelC at h
 split at h
 ·exact st_may (st_list st_name _ h)
 ·exact st_may h
theorem st_coaK : Stk coaK := fun p h => by
 unfold coaK at h
 split at h
 ·exact st_word (st_num _ h)
 ·split at h
  ·exact st_word (st_num _ h)
  ·split at h
   ·exact st_word h
   ·exact (st_rst h).elim
theorem st_coa : Stk coaC := fun p h => st_coaK _ (st_label _ h)
theorem st_wide : Stk wideC := fun p h => by
 unfold wideC at h
 split at h
 ·exact st_may (st_int _ h)
 ·exact st_may h
theorem st_see : Stk seeC := fun p h => by
 unfold seeC at h
 split at h
 ·exact st_may (st_coa _ h)
 ·exact st_may h
theorem st_marks (x : PH) : Stk (marksC x) := fun p h => st_label _ (st_wide _ (st_see _ h))
theorem st_field {sub : Sub} (s : Stk sub) : Stk (fieldC sub) := fun p h => st_name _ (st_mark (s _ (st_marks (nP (nameS p).1) _ h)))
theorem st_tag {sub : Sub} (s : Stk sub) : Stk (tagC sub) := fun p h => by
 unfold tagC at h
 split at h
 ·exact st_name _ (st_may (s _ (st_mark (st_marks (nP (nameS p).1) _ h))))
 ·exact st_name _ (st_may h)
theorem st_kind : Stk kindC := fun p h => by
 unfold kindC at h
 repeat' split at h
 all_goals first | exact st_word h | exact (st_rst h).elim
theorem st_bounds : Stk boundsC := fun p h => st_int _ (st_mark (st_int _ h))
theorem st_listC {sub : Sub} (s : Stk sub) : Stk (listC sub) := fun p h => s _ (st_mark (st_int _ h))
theorem st_cont {sub : Sub} (s : Stk sub) (h : TH) : Stk (contC sub h) := fun p e => by
 unfold contC at e
 repeat' split at e
 ·exact st_ins st_bounds p e
 ·exact st_ins st_int p e
 ·exact st_ins (st_list st_name) p e
 ·exact st_ins (st_listC s) p e
 ·exact st_ins s p e
 ·exact st_ins (st_none (st_field s)) p e
 ·exact st_ins (st_list (st_tag s)) p e
 ·exact st_ins st_name p e
 ·exact e
theorem st_typ : ∀ n, Stk (typC n)
 | 0 => fun p h => (st_fail (by decide) h).elim
 | n + 1 => fun p h => st_kind _ (st_cont (st_typ n) _ _ h)
structure Sh (a : Int) (p p' : PS) : Prop where
 l : p'.1 = p.1.map (mvT a)
 e : p'.2.1 = p.2.1
 z : p.2.1 ≠ 0 → p'.2.2 = p.2.2 + a
 t : ∀ t ∈ p.1, 0 ≤ t.2.1 ∧ t.2.1 ≤ 1000000
 f : p.2.1 ≠ 0 → 0 ≤ p.2.2 ∧ p.2.2 ≤ 1000000
def Ev {α : Type} (a : Int) (Q : α → α → Prop) (el : PS → α × PS) : Prop := ∀ p p', Ok p → Sh a p p' → Sh a (el p).2 (el p').2 ∧ ((el p).2.2.1 = 0 → Q (el p).1 (el p').1)
section
variable {a : Int} {p p' : PS}
theorem sh_hd (h : Sh a p p') (ok : Ok p) : Cur.hdT p'.1 = mvT a (Cur.hdT p.1) := by
 rw [h.l]
 cases q : p.1 with
 | nil => exact absurd q (EndL.ne ok)
 | cons t l => rfl
theorem sh_is (h : Sh a p p') (ok : Ok p) (k : Int) (x : ByteArray) : isS p' k x = isS p k x := by
 unfold isS
 rw [sh_hd h ok]
 rfl
theorem sh_on (h : Sh a p p') : Sh a (onS p) (onS p') := ⟨by show p'.1.tail = p.1.tail.map _; rw [h.l, List.map_tail], h.e, h.z, fun t ht => h.t t (List.mem_of_mem_tail ht), h.f⟩
theorem sh_bd (h : Sh a p p') (ok : Ok p) : 0 ≤ (Cur.hdT p.1).2.1 ∧ (Cur.hdT p.1).2.1 ≤ 1000000 := by
 refine h.t _ ?_
 cases q : p.1 with
 | nil => exact absurd q (EndL.ne ok)
 | cons t l => exact List.mem_cons_self
theorem sh_wrong (h : Sh a p p') (ok : Ok p) : Sh a (wrongS p) (wrongS p') := by
 unfold wrongS
 rw [h.e, sh_hd h ok]
 by_cases c : p.2.1 ≠ 0
 ·rw [if_pos c, if_pos c]; exact h
 ·rw [if_neg c, if_neg c]; exact ⟨h.l, rfl, fun _ => rfl, h.t, fun _ => sh_bd h ok⟩
theorem sh_fail (h : Sh a p p') (ok : Ok p) (e : Int) : Sh a (failP p e) (failP p' e) := by
  unfold failP
  rw [h.e, sh_hd h ok]
  by_cases c : p.2.1 ≠ 0
  · rw [if_pos c, if_pos c]; exact h
  · rw [if_neg c, if_neg c]; exact ⟨h.l, rfl, fun _ => rfl, h.t, fun _ => sh_bd h ok⟩
theorem sh_pk (h : Sh a p p') (ok : Ok p) : (pkS p').1 = (pkS p).1 ∧ (pkS p').2.1 = (pkS p).2.1 + a := by
 unfold pkS
 by_cases c : p.2.1 = 0
 ·rw [Cur.peek_ok (c := (p.1, 0, p.2)) c, Cur.peek_ok (c := (p'.1, 0, p'.2)) (h.e.trans c)]
  show (Cur.hdT p'.1).1 = (Cur.hdT p.1).1 ∧ (Cur.hdT p'.1).2.1 = (Cur.hdT p.1).2.1 + a
  rw [sh_hd h ok]
  exact ⟨rfl, rfl⟩
 ·rw [Cur.peek_fail (c := (p.1, 0, p.2)) c, Cur.peek_fail (c := (p'.1, 0, p'.2)) (by show p'.2.1 ≠ 0; rw [h.e]; exact c)]
  exact ⟨rfl, h.z c⟩
theorem sh_rst (h : Sh a p p') (ok : Ok p) : Sh a (rstS p) (rstS p') := by
  unfold rstS
  rw [(sh_pk h ok).1]
  split
  · exact sh_fail h ok 9
  · exact sh_wrong h ok
theorem sh_mark (h : Sh a p p') (ok : Ok p) (m : ByteArray) : Sh a (markS p m) (markS p' m) := by
 unfold markS needS
 rw [h.e, sh_is h ok]
 split
 ·exact h
 ·split
  ·exact sh_on h
  ·exact sh_wrong h ok
theorem sh_may (h : Sh a p p') (ok : Ok p) (m : ByteArray) : (mayS p' m).2 = (mayS p m).2 ∧ Sh a (mayS p m).1 (mayS p' m).1 := by
 unfold mayS
 rw [h.e, sh_is h ok]
 split
 ·exact ⟨rfl, sh_on h⟩
 ·exact ⟨rfl, h⟩
theorem sh_word (h : Sh a p p') (ok : Ok p) (m : ByteArray) : (wordS p' m).2 = (wordS p m).2 ∧ Sh a (wordS p m).1 (wordS p' m).1 := by
 unfold wordS
 rw [h.e, sh_is h ok]
 split
 ·exact ⟨rfl, sh_on h⟩
 ·exact ⟨rfl, h⟩
theorem sh_any (h : Sh a p p') (ok : Ok p) (k : Int) : Sh a (anyS p k).2 (anyS p' k).2 ∧ ((anyS p k).2.2.1 = 0 → (anyS p' k).1 = mvT a (anyS p k).1) := by
 by_cases c : p.2.1 ≠ 0
 ·have e1 : anyS p k = (zT, p) := by unfold anyS; rw [if_pos c]
  have e2 : anyS p' k = (zT, p') := by unfold anyS; rw [if_pos (by rw [h.e]; exact c)]
  rw [e1, e2]
  exact ⟨h, fun q => absurd q c⟩
 ·by_cases d : (Cur.hdT p.1).1 ≠ k
  ·have e1 : anyS p k = (zT, wrongS p) := by unfold anyS; rw [if_neg c, if_pos d]
   have e2 : anyS p' k = (zT, wrongS p') := by unfold anyS; rw [if_neg (by rw [h.e]; exact c), if_pos (by rw [sh_hd h ok]; exact d)]
   rw [e1, e2]
   exact ⟨sh_wrong h ok, fun q => (st_wrong q).elim⟩
  ·have e1 : anyS p k = (Cur.hdT p.1, onS p) := by unfold anyS; rw [if_neg c, if_neg d]
   have e2 : anyS p' k = (Cur.hdT p'.1, onS p') := by unfold anyS; rw [if_neg (by rw [h.e]; exact c), if_neg (by rw [sh_hd h ok]; exact d)]
   rw [e1, e2]
   exact ⟨sh_on h, fun _ => sh_hd h ok⟩
end
section
variable {a : Int}
abbrev QW (x y : Wr) : Prop := y.1 = x.1
abbrev QL (x y : List Wr) : Prop := nms y = nms x
theorem ev_name : Ev a QW nameS := fun p p' ok h => ⟨(sh_any h ok 1).1, fun q => by
 show (anyS p' 1).1.2.2.2.1 = (anyS p 1).1.2.2.2.1
 rw [(sh_any h ok 1).2 q]
 rfl⟩
theorem ev_int : Ev a (fun x y => y = x) intS := fun p p' ok h => ⟨(sh_any h ok 2).1, fun q => by
 show (anyS p' 2).1.2.2.2.2 = (anyS p 2).1.2.2.2.2
 rw [(sh_any h ok 2).2 q]
 rfl⟩
inductive All2 {α : Type} (Q : α → α → Prop) : List α → List α → Prop where
 | nil : All2 Q [] []
 | cons {x y : α} {l m : List α} : Q x y → All2 Q l m → All2 Q (x :: l) (y :: m)
theorem all2_nms {l m : List Wr} (h : All2 QW l m) : nms m = nms l := by
 induction h with
 | nil => rfl
 | cons q _ ih => simp only [nms, List.map_cons] at *; rw [ih, q]
variable {α : Type} {el : PS → α × PS} {Q : α → α → Prop} {m : ByteArray}
theorem ev_sep (g : Gd el) (s : Stk el) (e : Ev a Q el) : ∀ n, Ev a (All2 Q) (sepS el m n)
 | 0 => fun p p' ok h => ⟨h, fun _ => .nil⟩
 | n + 1 => fun p p' ok h => by
  have h1 := e p p' ok h
  have ok1 := (g p ok).1
  have h2 := sh_may h1.1 ok1 m
  unfold sepS
  rw [h2.1]
  split
  ·have h3 := ev_sep g s e n _ _ (may_ok ok1) h2.2
   exact ⟨h3.1, fun q => .cons (h1.2 (st_may (st_sep s n _ q))) (h3.2 q)⟩
  ·exact ⟨h1.1, fun q => .cons (h1.2 q) .nil⟩
theorem ev_list (g : Gd el) (s : Stk el) (e : Ev a Q el) : Ev a (All2 Q) (listP el m) := fun p p' ok h => by
 have hl : p'.1.length = p.1.length := by rw [h.l, List.length_map]
 unfold listP
 rw [hl]
 exact ev_sep g s e _ p p' ok h
theorem ev_ins {b c : ByteArray} (g : Gd el) (e : Ev a Q el) : Ev a Q (insS b c el) := fun p p' ok h => by
 have h1 := sh_mark h ok b
 have h2 := e _ _ (mark_ok ok) h1
 exact ⟨sh_mark h2.1 (g _ (mark_ok ok)).1 c, fun q => h2.2 (st_mark q)⟩
theorem ev_none (g : Gd el) (s : Stk el) (e : Ev a Q el) : Ev a (All2 Q) (noneC el) := fun p p' ok h => by
 unfold noneC
 rw [(sh_pk h ok).1]
 split
 ·exact ⟨h, fun _ => .nil⟩
 ·exact ev_list g s e p p' ok h
theorem ev_num : Ev a (fun x y => y = x) numS := ev_ins (b := lpar) (c := rpar) gd_int ev_int
theorem ev_label : Ev a QL labelC := fun p p' ok h => by
 have h1 := sh_may h ok atS
 unfold labelC
 rw [h1.1]
 split
 ·have h2 := ev_list (m := plus) gd_name st_name ev_name _ _ (may_ok ok) h1.2
  exact ⟨h2.1, fun q => all2_nms (h2.2 q)⟩
 ·exact ⟨h1.2, fun _ => rfl⟩
theorem ev_coaK : Ev a (fun x y => y = x) coaK := fun p p' ok h => by
 have w1 := sh_word h ok sFloor
 have w2 := sh_word h ok sFirst
 have w3 := sh_word h ok sCount
 unfold coaK
 rw [w1.1, w2.1, w3.1]
 split
 ·have h2 := ev_num _ _ (gd_word p sFloor ok).1 w1.2
  exact ⟨h2.1, fun q => by rw [h2.2 q]⟩
 ·split
  ·have h2 := ev_num _ _ (gd_word p sFirst ok).1 w2.2
   exact ⟨h2.1, fun q => by rw [h2.2 q]⟩
  ·split
   ·exact ⟨w3.2, fun _ => rfl⟩
   ·exact ⟨sh_rst h ok, fun _ => rfl⟩
abbrev QC (x y : Co) : Prop := y.1 = x.1 ∧ y.2.1 = x.2.1 ∧ nms y.2.2.2 = nms x.2.2.2
theorem ev_coa : Ev a QC coaC := fun p p' ok h => by
 have h1 := ev_coaK p p' ok h
 have h2 := ev_label _ _ (gd_coaK p ok).1 h1.1
 refine ⟨h2.1, fun q => ?_⟩
 have e := h1.2 (st_label _ q)
 exact ⟨by show (coaK p').1.1 = (coaK p).1.1; rw [e], by show (coaK p').1.2 = (coaK p).1.2; rw [e], h2.2 q⟩
theorem ev_wide : Ev a (fun x y => y = x) wideC := fun p p' ok h => by
 have h1 := sh_may h ok hash
 unfold wideC
 rw [h1.1]
 split
 ·exact ev_int _ _ (may_ok ok) h1.2
 ·exact ⟨h1.2, fun _ => rfl⟩
theorem ev_see : Ev a QC seeC := fun p p' ok h => by
 have h1 := sh_may h ok tilde
 unfold seeC
 rw [h1.1]
 split
 ·exact ev_coa _ _ (may_ok ok) h1.2
 ·exact ⟨h1.2, fun _ => ⟨rfl, rfl, rfl⟩⟩
abbrev QP (x y : PH) : Prop := y.name = x.name ∧ y.bare = x.bare ∧ nms y.label = nms x.label ∧ y.wide = x.wide ∧ y.ck = x.ck ∧ y.cn = x.cn ∧ nms y.cl = nms x.cl
theorem ev_marks {x y : PH} (hx : y.name = x.name ∧ y.bare = x.bare) : ∀ p p', Ok p → Sh a p p' → Sh a (marksC x p).2 (marksC y p').2 ∧ ((marksC x p).2.2.1 = 0 → QP (marksC x p).1 (marksC y p').1) := fun p p' ok h => by
 have h1 := ev_label p p' ok h
 have ok1 := (gd_label p ok).1
 have h2 := ev_wide _ _ ok1 h1.1
 have ok2 := (gd_wide _ ok1).1
 have h3 := ev_see _ _ ok2 h2.1
 refine ⟨h3.1, fun q => ?_⟩
 have q2 := st_see _ q
 have q1 := st_wide _ q2
 exact ⟨hx.1, hx.2, h1.2 q1, h2.2 q2, (h3.2 q).1, (h3.2 q).2.1, (h3.2 q).2.2⟩
abbrev QT (x y : TH × Ft) : Prop := sameS x.1 x.2 y.1 y.2 = true
abbrev QE (x y : Pt) : Prop := QP x.1 y.1 ∧ QT x.2 y.2
theorem ev_field {sub : Sub} (g : Gd sub) (s : Stk sub) (e : Ev a QT sub) : Ev a QE (fieldC sub) := fun p p' ok h => by
 have h1 := ev_name p p' ok h
 have ok1 := (gd_name p ok).1
 have h2 := sh_mark h1.1 ok1 colon
 have ok2 := mark_ok (m := colon) ok1
 have h3 := e _ _ ok2 h2
 have ok3 := (g _ ok2).1
 have key : ∀ (hx : (nP (nameS p').1).name = (nP (nameS p).1).name ∧ (nP (nameS p').1).bare = (nP (nameS p).1).bare), _ := fun hx => ev_marks hx _ _ ok3 h3.1
 have sh4 : Sh a (marksC (nP (nameS p).1) (sub (markS (nameS p).2 colon)).2).2 (marksC (nP (nameS p').1) (sub (markS (nameS p').2 colon)).2).2 := by
  have l := ev_label _ _ ok3 h3.1
  have okl := (gd_label _ ok3).1
  have w := ev_wide _ _ okl l.1
  exact (ev_see _ _ (gd_wide _ okl).1 w.1).1
 refine ⟨sh4, fun q => ?_⟩
 have q3 := st_marks (nP (nameS p).1) _ q
 have q2 := st_mark (s _ q3)
 exact ⟨(key ⟨h1.2 q2, rfl⟩).2 q, h3.2 q3⟩
theorem ev_tag {sub : Sub} (g : Gd sub) (s : Stk sub) (e : Ev a QT sub) : Ev a QE (tagC sub) := fun p p' ok h => by
 have h1 := ev_name p p' ok h
 have ok1 := (gd_name p ok).1
 have h2 := sh_may h1.1 ok1 lpar
 have ok2 := may_ok (m := lpar) ok1
 unfold tagC
 rw [h2.1]
 split
 ·have h3 := e _ _ ok2 h2.2
  have ok3 := (g _ ok2).1
  have h4 := sh_mark h3.1 ok3 rpar
  have ok4 := mark_ok (m := rpar) ok3
  have sh4 : Sh a (marksC (nP (nameS p).1) (markS (sub (mayS (nameS p).2 lpar).1).2 rpar)).2 (marksC (nP (nameS p').1) (markS (sub (mayS (nameS p').2 lpar).1).2 rpar)).2 := by
   have l := ev_label _ _ ok4 h4
   have okl := (gd_label _ ok4).1
   have w := ev_wide _ _ okl l.1
   exact (ev_see _ _ (gd_wide _ okl).1 w.1).1
  refine ⟨sh4, fun q => ?_⟩
  have q4 := st_marks (nP (nameS p).1) _ q
  have q3 := st_mark q4
  have q1 := st_may (s _ q3)
  exact ⟨(ev_marks (x := nP (nameS p).1) (y := nP (nameS p').1) ⟨h1.2 q1, rfl⟩ _ _ ok4 h4).2 q, h3.2 q3⟩
 ·refine ⟨h2.2, fun q => ⟨⟨h1.2 (st_may q), rfl, rfl, rfl, rfl, rfl, rfl⟩, sameS_refl _ _⟩⟩
theorem ev_kind : Ev a (fun x y => y = x) kindC := fun p p' ok h => by
 unfold kindC
 rw [(sh_word h ok sBool).1, (sh_word h ok sInt).1, (sh_word h ok sText).1, (sh_word h ok sEnum).1, (sh_word h ok sList).1, (sh_word h ok sOpt).1, (sh_word h ok sRecord).1, (sh_word h ok sUnion).1, (sh_word h ok sRef).1]
 repeat' split
 all_goals first | exact ⟨(sh_word h ok _).2, fun _ => rfl⟩ | exact ⟨sh_rst h ok, fun _ => rfl⟩
theorem kind_eq {p p' : PS} (ok : Ok p) (h : Sh a p p') : (kindC p').1 = (kindC p).1 := by
 unfold kindC
 rw [(sh_word h ok sBool).1, (sh_word h ok sInt).1, (sh_word h ok sText).1, (sh_word h ok sEnum).1, (sh_word h ok sList).1, (sh_word h ok sOpt).1, (sh_word h ok sRecord).1, (sh_word h ok sUnion).1, (sh_word h ok sRef).1]
 repeat' split
 all_goals rfl
theorem ev_bounds : Ev a (fun x y => y = x) boundsC := fun p p' ok h => by
 have h1 := ev_int p p' ok h
 have ok1 := (gd_int p ok).1
 have h2 := sh_mark h1.1 ok1 dots
 have h3 := ev_int _ _ (mark_ok ok1) h2
 refine ⟨h3.1, fun q => ?_⟩
 have q1 := st_mark (st_int _ q)
 exact Prod.ext (h1.2 q1) (h3.2 q)
theorem same_only {x y : TH × Ft} (h : QT x y) : sameF (only x) (only y) = true := by
 show ((decide (zPH.name = zPH.name) && plainB zPH zPH && (headB x.1 y.1 && sameF x.2 y.2)) && true) = true
 rw [plainB_refl, show (headB x.1 y.1 && sameF x.2 y.2) = true from h]
 simp
theorem same_ofL {l m : List Pt} (h : All2 QE l m) : sameF (ofL l) (ofL m) = true := by
 induction h with
 | nil => rfl
 | @cons x y l m q _ ih =>
  obtain ⟨⟨e1, e2, e3, e4, e5, e6, e7⟩, e8⟩ := q
  show ((decide (x.1.name = y.1.name) && plainB x.1 y.1 && (headB x.2.1 y.2.1 && sameF x.2.2 y.2.2)) && sameF (ofL l) (ofL m)) = true
  rw [ih, show (headB x.2.1 y.2.1 && sameF x.2.2 y.2.2) = true from e8, e1]
  unfold plainB sameW
  rw [e2, e3, e4, e5, e6, e7]
  simp
theorem ev_listC {sub : Sub} (g : Gd sub) (e : Ev a QT sub) (s : Stk sub) : Ev a (fun x y => sameF x.1 y.1 = true ∧ y.2 = x.2) (listC sub) := fun p p' ok h => by
 have h1 := e p p' ok h
 have ok1 := (g p ok).1
 have h2 := sh_mark h1.1 ok1 comma
 have h3 := ev_int _ _ (mark_ok ok1) h2
 refine ⟨h3.1, fun q => ?_⟩
 have q1 := st_mark (st_int _ q)
 exact ⟨same_only (h1.2 q1), h3.2 q⟩
theorem head_of {h g : TH} (e1 : h.kind = g.kind) (e2 : h.lo = g.lo) (e3 : h.hi = g.hi) (e4 : h.most = g.most) (e5 : h.name = g.name) (e6 : nms h.names = nms g.names) : headB h g = true := by
  unfold headB sameW
  rw [e1, e2, e3, e4, e5, e6]
  simp
theorem ev_cont {sub : Sub} (g : Gd sub) (s : Stk sub) (e : Ev a QT sub) {x y : TH} (hx : headB x y = true ∧ x.kind = y.kind) (k a1 a2 : Int) (hk : x = hKA k a1) (hy : y = hKA k a2) : ∀ p p', Ok p → Sh a p p' → Sh a (contC sub x p).2 (contC sub y p').2 ∧ ((contC sub x p).2.2.1 = 0 → QT (contC sub x p).1 (contC sub y p').1) := fun p p' ok h => by
 subst hk hy
 unfold contC
 simp only [show (hKA k a1).kind = k from rfl, show (hKA k a2).kind = k from rfl]
 repeat' split
 ·have h1 := ev_ins (b := lpar) (c := rpar) gd_bounds ev_bounds p p' ok h
  exact ⟨h1.1, fun q => by unfold QT sameS; rw [Bool.and_eq_true]; exact ⟨head_of rfl (by show _ = (insS lpar rpar boundsC p').1.1; rw [h1.2 q]) (by show _ = (insS lpar rpar boundsC p').1.2; rw [h1.2 q]) rfl rfl rfl, rfl⟩⟩
 ·have h1 := ev_ins (b := lpar) (c := rpar) gd_int ev_int p p' ok h
  exact ⟨h1.1, fun q => by unfold QT sameS; rw [Bool.and_eq_true]; exact ⟨head_of rfl rfl rfl (h1.2 q).symm rfl rfl, rfl⟩⟩
 ·have h1 := ev_ins (b := lpar) (c := rpar) (gd_list gd_name) (ev_list (m := comma) gd_name st_name ev_name) p p' ok h
  exact ⟨h1.1, fun q => by unfold QT sameS; rw [Bool.and_eq_true]; exact ⟨head_of rfl rfl rfl rfl rfl (all2_nms (h1.2 q)).symm, rfl⟩⟩
 ·have h1 := ev_ins (b := lpar) (c := rpar) (gd_listC g) (ev_listC g e s) p p' ok h
  exact ⟨h1.1, fun q => by unfold QT sameS; rw [Bool.and_eq_true]; exact ⟨head_of rfl rfl rfl (h1.2 q).2.symm rfl rfl, (h1.2 q).1⟩⟩
 ·have h1 := ev_ins (b := lpar) (c := rpar) g e p p' ok h
  exact ⟨h1.1, fun q => by unfold QT sameS; rw [Bool.and_eq_true]; exact ⟨head_of rfl rfl rfl rfl rfl rfl, same_only (h1.2 q)⟩⟩
 ·have h1 := ev_ins (b := lbrace) (c := rbrace) (gd_none (gd_field g)) (ev_none (gd_field g) (st_field s) (ev_field g s e)) p p' ok h
  exact ⟨h1.1, fun q => by unfold QT sameS; rw [Bool.and_eq_true]; exact ⟨head_of rfl rfl rfl rfl rfl rfl, same_ofL (h1.2 q)⟩⟩
 ·have h1 := ev_ins (b := lbrace) (c := rbrace) (gd_list (m := comma) (gd_tag g)) (ev_list (gd_tag g) (st_tag s) (ev_tag g s e)) p p' ok h
  exact ⟨h1.1, fun q => by unfold QT sameS; rw [Bool.and_eq_true]; exact ⟨head_of rfl rfl rfl rfl rfl rfl, same_ofL (h1.2 q)⟩⟩
 ·have h1 := ev_ins (b := lpar) (c := rpar) gd_name ev_name p p' ok h
  exact ⟨h1.1, fun q => by unfold QT sameS; rw [Bool.and_eq_true]; exact ⟨head_of rfl rfl rfl rfl (h1.2 q).symm rfl, rfl⟩⟩
 ·exact ⟨h, fun _ => by unfold QT sameS; rw [Bool.and_eq_true]; exact ⟨head_of rfl rfl rfl rfl rfl rfl, rfl⟩⟩
theorem ev_typ : ∀ n, Ev a QT (typC n)
 | 0 => fun p p' ok h => ⟨sh_fail h ok 6, fun q => (st_fail (by decide) q).elim⟩
 | n + 1 => fun p p' ok h => by
  have h1 := ev_kind p p' ok h
  have ok1 := (gd_kind p ok).1
  show Sh a (contC (typC n) (hKA (kindC p).1 (pkS p).2.1) (kindC p).2).2 (contC (typC n) (hKA (kindC p').1 (pkS p').2.1) (kindC p').2).2 ∧ ((contC (typC n) (hKA (kindC p).1 (pkS p).2.1) (kindC p).2).2.2.1 = 0 → QT (contC (typC n) (hKA (kindC p).1 (pkS p).2.1) (kindC p).2).1 (contC (typC n) (hKA (kindC p').1 (pkS p').2.1) (kindC p').2).1)
  rw [kind_eq ok h]
  exact ev_cont (x := hKA (kindC p).1 (pkS p).2.1) (y := hKA (kindC p).1 (pkS p').2.1) (gd_typ n) (st_typ n) (ev_typ n) ⟨head_of rfl rfl rfl rfl rfl rfl, rfl⟩ (kindC p).1 (pkS p).2.1 (pkS p').2.1 rfl rfl _ _ ok1 h1.1
theorem ev_whole {p p' : PS} (ok : Ok p) (h : Sh a p p') : Sh a (wholeC p) (wholeC p') := by
 unfold wholeC
 rw [(sh_pk h ok).1]
 split
 ·exact sh_wrong h ok
 ·exact h
theorem st_whole {p : PS} (h : (wholeC p).2.1 = 0) : p.2.1 = 0 := by
 unfold wholeC at h
 split at h
 ·exact (st_wrong h).elim
 ·exact h
theorem cont_at (sub : Sub) (h : TH) (p : PS) : (contC sub h p).1.1.at_ = h.at_ := by
 unfold contC
 repeat' split
 all_goals rfl
end
end Go.Proofs.YtncijmodlhijoaaGreat.Syn
