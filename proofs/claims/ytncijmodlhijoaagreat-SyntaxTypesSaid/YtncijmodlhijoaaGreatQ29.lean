import Derived.Test.YtncijmodlhijoaaGreatQ28
import Derived.Test.YtncijmodlhijoaaGreatQ7
import Derived.Test.YtncijmodlhijoaaGreatQ0
import Derived.Laws.StructEq
set_option linter.unusedVariables false
set_option maxRecDepth 100000
set_option maxHeartbeats 4000000
namespace Go.Proofs.YtncijmodlhijoaaGreat.Syn
open Go.Lib Utf Tok Cur Lat Kin
theorem word_eq {q : PS} (c : q.2.1 = 0) (k : (Cur.hdT q.1).1 = 1) (x : ByteArray) : wordS q x = if (Cur.hdT q.1).2.2.2.1 = x then (onS q, true) else (q, false) := by
 unfold wordS isS
 rw [decide_eq_true k, Bool.true_and]
 by_cases e : (Cur.hdT q.1).2.2.2.1 = x
 ·rw [if_pos e, if_pos ⟨c, decide_eq_true e⟩]
 ·rw [if_neg e, if_neg fun h => e (of_decide_eq_true h.2)]
theorem word_if {q : PS} (c : q.2.1 = 0) (k : (Cur.hdT q.1).1 = 1) {x : ByteArray} {α : Type} (y : PS → α) (z : α) : (if (wordS q x).2 = true then y (wordS q x).1 else z) = if (Cur.hdT q.1).2.2.2.1 = x then y (onS q) else z := by
 rw [word_eq c k]
 by_cases e : (Cur.hdT q.1).2.2.2.1 = x
 ·rw [if_pos e, if_pos e, if_pos rfl]
 ·rw [if_neg e, if_neg e, if_neg (by simp)]
theorem word_ne {q : PS} (k : (Cur.hdT q.1).1 ≠ 1) (x : ByteArray) : wordS q x = (q, false) := by
 unfold wordS isS
 rw [decide_eq_false k, Bool.false_and, if_neg (by simp)]
theorem pk_eq {q : PS} (c : q.2.1 = 0) : pkS q = Cur.hdT q.1 := Cur.peek_ok (c := (q.1, 0, q.2)) c
theorem see_eq (c : Int × Int × Int) (q : PS) : seeS c q = ((c.1, c.2.1, c.2.2, (labelC q).1), (labelC q).2) := by
 unfold seeS labelC
 split <;> rfl
theorem rst_name {q : PS} (c : q.2.1 = 0) (k : (Cur.hdT q.1).1 = 1) : rstS q = (q.1, 9, (Cur.hdT q.1).2.1) := by
 unfold rstS
 rw [pk_eq c, if_pos k]
 exact if_neg (by simpa using c)
theorem rst_other {q : PS} (c : q.2.1 = 0) (k : (Cur.hdT q.1).1 ≠ 1) : rstS q = wrongS q := by
 unfold rstS
 rw [pk_eq c, if_neg k]
theorem rl_coa : Rl coaC coaS := rl_of fl_coa fl_coaS fun q ok c => by
 have c' : ¬ q.2.1 ≠ 0 := by simpa using c
 have ce : coaC q = (((coaK q).1.1, (coaK q).1.2, (Cur.hdT q.1).2.1, (labelC (coaK q).2).1), (labelC (coaK q).2).2) := by rw [← pk_eq c]; rfl
 have bad : ∀ (p : PS) (x : Int × Int) (y : Co), p.2.1 ≠ 0 → coaK q = (x, p) → coaS q = (y, p) → Eqs (coaC q).2 (coaS q).2 ∧ ((coaC q).2.2.1 = 0 → (coaS q).1 = (coaC q).1) := fun p x y hp h1 h2 => by
  rw [ce, h1, h2]
  exact ⟨⟨(fl_label p hp).symm, fun z => absurd z (fl_label.ne hp)⟩, fun z => absurd z (fl_label.ne hp)⟩
 by_cases k : (Cur.hdT q.1).1 = 1
 ·have kk : coaK q = if (Cur.hdT q.1).2.2.2.1 = sFloor then ((1, (numS (onS q)).1), (numS (onS q)).2) else if (Cur.hdT q.1).2.2.2.1 = sFirst then ((2, (numS (onS q)).1), (numS (onS q)).2) else if (Cur.hdT q.1).2.2.2.1 = sCount then ((3, 0), onS q) else ((0, 0), rstS q) := by
   unfold coaK
   rw [word_if c k (fun p => (((1 : Int), (numS p).1), (numS p).2)), word_if c k (fun p => (((2 : Int), (numS p).1), (numS p).2)), word_if c k (fun p => (((3 : Int), (0 : Int)), p))]
  have ks : coaS q = if (Cur.hdT q.1).2.2.2.1 = sFloor then seeS (1, (numS (onS q)).1, (Cur.hdT q.1).2.1) (numS (onS q)).2 else if (Cur.hdT q.1).2.2.2.1 = sFirst then seeS (2, (numS (onS q)).1, (Cur.hdT q.1).2.1) (numS (onS q)).2 else if (Cur.hdT q.1).2.2.2.1 = sCount then seeS (3, 0, (Cur.hdT q.1).2.1) (onS q) else ((0, 0, (Cur.hdT q.1).2.1, []), (q.1, 9, (Cur.hdT q.1).2.1)) := by
   unfold coaS
   rw [if_neg c', if_neg (show ¬ (Cur.hdT q.1).1 ≠ 1 by simpa using k)]
  by_cases e1 : (Cur.hdT q.1).2.2.2.1 = sFloor
  ·rw [if_pos e1] at kk ks
   rw [ce, ks, kk, see_eq]
   exact ⟨Eqs.rfl' _, fun _ => rfl⟩
  ·rw [if_neg e1] at kk ks
   by_cases e2 : (Cur.hdT q.1).2.2.2.1 = sFirst
   ·rw [if_pos e2] at kk ks
    rw [ce, ks, kk, see_eq]
    exact ⟨Eqs.rfl' _, fun _ => rfl⟩
   ·rw [if_neg e2] at kk ks
    by_cases e3 : (Cur.hdT q.1).2.2.2.1 = sCount
    ·rw [if_pos e3] at kk ks
     rw [ce, ks, kk, see_eq]
     exact ⟨Eqs.rfl' _, fun _ => rfl⟩
    ·rw [if_neg e3] at kk ks
     rw [rst_name c k] at kk
     exact bad _ _ _ (by show (9 : Int) ≠ 0; decide) kk ks
 ·have kk : coaK q = ((0, 0), wrongS q) := by
   unfold coaK
   rw [word_ne k, word_ne k, word_ne k, rst_other c k, if_neg (by simp), if_neg (by simp), if_neg (by simp)]
  have ks : coaS q = ((0, 0, (Cur.hdT q.1).2.1, []), wrongS q) := by
   unfold coaS
   rw [if_neg c', if_pos k]
  exact bad _ _ _ (fun z => st_wrong z) kk ks
theorem rl_see : Rl seeC seeR := rl_of fl_see fl_seeR fun q ok c => by
 unfold seeC seeR
 split
 ·exact rl_coa _ _ (may_ok ok) (Eqs.rfl' _)
 ·exact ⟨Eqs.rfl' _, fun _ => rfl⟩
theorem rl_marks (x : PH) : Rl (marksC x) (marksR x) := rl_of (fl_marks x) (fl_marksR x) fun q ok c => by
 have ok1 := (gd_label q ok).1
 have ok2 := (gd_wide _ ok1).1
 have h := rl_see _ _ ok2 (Eqs.rfl' (wideC (labelC q).2).2)
 exact ⟨h.1, fun z => by
  show (⟨x.name, x.at_, x.bare, (labelC q).1, (wideC (labelC q).2).1, (seeR (wideC (labelC q).2).2).1.1, (seeR (wideC (labelC q).2).2).1.2.1, (seeR (wideC (labelC q).2).2).1.2.2.1, (seeR (wideC (labelC q).2).2).1.2.2.2⟩ : PH) = ⟨x.name, x.at_, x.bare, (labelC q).1, (wideC (labelC q).2).1, (seeC (wideC (labelC q).2).2).1.1, (seeC (wideC (labelC q).2).2).1.2.1, (seeC (wideC (labelC q).2).2).1.2.2.1, (seeC (wideC (labelC q).2).2).1.2.2.2⟩
  rw [h.2 z]⟩
section
variable {sub sub' : Sub}
theorem rl_field (g : Gd sub) (f : Fl sub) (f' : Fl sub') (s : Stk sub) (h : Rl sub sub') : Rl (fieldC sub) (partR sub' false) := rl_of (fl_field f) (fl_partR f' false) fun q ok c => by
 have g1 := gd_name q ok
 have g2 := gd_mark _ colon g1.1
 have h3 := h _ _ g2.1 (Eqs.rfl' (markS (nameS q).2 colon))
 have g3 := g _ g2.1
 have h4 := rl_marks (nP (nameS q).1) _ _ g3.1 h3.1
 have e : partR sub' false q = (((marksR (nP (nameS q).1) (sub' (markS (nameS q).2 colon)).2).1, (sub' (markS (nameS q).2 colon)).1), (marksR (nP (nameS q).1) (sub' (markS (nameS q).2 colon)).2).2) := if_pos rfl
 rw [e]
 refine ⟨h4.1, fun z => ?_⟩
 show ((marksR (nP (nameS q).1) (sub' (markS (nameS q).2 colon)).2).1, (sub' (markS (nameS q).2 colon)).1) = ((marksC (nP (nameS q).1) (sub (markS (nameS q).2 colon)).2).1, (sub (markS (nameS q).2 colon)).1)
 rw [h4.2 z, h3.2 (st_marks (nP (nameS q).1) _ z)]
theorem rl_tag (g : Gd sub) (f : Fl sub) (f' : Fl sub') (s : Stk sub) (h : Rl sub sub') : Rl (tagC sub) (partR sub' true) := rl_of (fl_tag f) (fl_partR f' true) fun q ok c => by
 have g1 := gd_name q ok
 have g2 := gd_may _ lpar g1.1
 have e : partR sub' true q = if (mayS (nameS q).2 lpar).2 = true then (((marksR (nP (nameS q).1) (markS (sub' (mayS (nameS q).2 lpar).1).2 rpar)).1, (sub' (mayS (nameS q).2 lpar).1).1), (marksR (nP (nameS q).1) (markS (sub' (mayS (nameS q).2 lpar).1).2 rpar)).2) else ((nB (nameS q).1, zTH, .nil), (mayS (nameS q).2 lpar).1) := if_neg (by decide)
 rw [e]
 unfold tagC
 split
 ·have h3 := h _ _ g2.1 (Eqs.rfl' (mayS (nameS q).2 lpar).1)
  have g3 := g _ g2.1
  have h4 := rl_marks (nP (nameS q).1) _ _ (mark_ok (m := rpar) g3.1) (eq_mark h3.1 rpar)
  refine ⟨h4.1, fun z => ?_⟩
  show ((marksR (nP (nameS q).1) (markS (sub' (mayS (nameS q).2 lpar).1).2 rpar)).1, (sub' (mayS (nameS q).2 lpar).1).1) = ((marksC (nP (nameS q).1) (markS (sub (mayS (nameS q).2 lpar).1).2 rpar)).1, (sub (mayS (nameS q).2 lpar).1).1)
  rw [h4.2 z, h3.2 (st_mark (st_marks (nP (nameS q).1) _ z))]
 ·exact ⟨Eqs.rfl' _, fun _ => rfl⟩
theorem rl_union (g : Gd sub) (f : Fl sub) (f' : Fl sub') (s : Stk sub) (h : Rl sub sub') {p : PS} (ok : Ok p) : Eqs (insS lbrace rbrace (listP (tagC sub) comma) p).2 (partsP sub' true p).2 ∧ ((insS lbrace rbrace (listP (tagC sub) comma) p).2.2.1 = 0 → (partsP sub' true p).1 = (insS lbrace rbrace (listP (tagC sub) comma) p).1) := by
 have ok1 := mark_ok (m := lbrace) ok
 have e : partsP sub' true p = partsR sub' true ((markS p lbrace).1.length + 1) [] (markS p lbrace) := if_neg (fun q => by simp at q)
 rw [e]
 have := rl_loop rbrace (by decide) (gd_tag g) (fl_tag f) (fl_partR f' true) (rl_tag g f f' s h) ((markS p lbrace).1.length + 1) [] (markS p lbrace) (markS p lbrace) ok1 (Eqs.rfl' _) (Nat.lt_succ_self _) _ (Nat.lt_succ_self _)
 exact ⟨this.1, fun z => (this.2 z).trans (List.nil_append _)⟩
theorem rl_record (g : Gd sub) (f : Fl sub) (f' : Fl sub') (s : Stk sub) (h : Rl sub sub') {p : PS} (ok : Ok p) : Eqs (insS lbrace rbrace (noneC (fieldC sub)) p).2 (partsP sub' false p).2 ∧ ((insS lbrace rbrace (noneC (fieldC sub)) p).2.2.1 = 0 → (partsP sub' false p).1 = (insS lbrace rbrace (noneC (fieldC sub)) p).1) := by
 have ok1 := mark_ok (m := lbrace) ok
 show Eqs (markS (noneC (fieldC sub) (markS p lbrace)).2 rbrace) (partsP sub' false p).2 ∧ ((markS (noneC (fieldC sub) (markS p lbrace)).2 rbrace).2.1 = 0 → (partsP sub' false p).1 = (noneC (fieldC sub) (markS p lbrace)).1)
 unfold partsP
 generalize markS p lbrace = q at *
 have lp := rl_loop rbrace (by decide) (gd_field g) (fl_field f) (fl_partR f' false) (rl_field g f f' s h) (q.1.length + 1) [] q q ok1 (Eqs.rfl' _) (Nat.lt_succ_self _) _ (Nat.lt_succ_self _)
 by_cases c : q.2.1 = 0
 ·by_cases i : isS q 4 rbrace = true
  ·have y1 : mayS q rbrace = (onS q, true) := if_pos ⟨c, i⟩
   have y2 : noneC (fieldC sub) q = ([], q) := if_pos (by rw [pk_eq c, is_kind i]; decide)
   have y3 : markS q rbrace = onS q := by
    unfold markS needS
    rw [if_neg (show ¬ q.2.1 ≠ 0 by simpa using c), if_pos i]
   rw [y1, y2, if_pos ⟨rfl, rfl⟩]
   show Eqs (markS q rbrace) (onS q) ∧ _
   rw [y3]
   exact ⟨Eqs.rfl' _, fun _ => rfl⟩
  ·have y1 : mayS q rbrace = (q, false) := if_neg fun z => i z.2
   rw [y1, if_neg (fun z => by simp at z)]
   by_cases k : (Cur.hdT q.1).1 = 1
   ·have y2 : noneC (fieldC sub) q = listP (fieldC sub) comma q := if_neg (by rw [pk_eq c]; simpa using k)
    rw [y2]
    exact ⟨lp.1, fun z => (lp.2 z).trans (List.nil_append _)⟩
   ·have y2 : noneC (fieldC sub) q = ([], q) := if_pos (by rw [pk_eq c]; exact k)
    have y3 : markS q rbrace = wrongS q := by
     unfold markS needS
     rw [if_neg (show ¬ q.2.1 ≠ 0 by simpa using c), if_neg i]
    have w : (wrongS q).2.1 ≠ 0 := fun z => st_wrong z
    have y4 : (nameS q).2 = wrongS q := by
     show (anyS q 1).2 = wrongS q
     unfold anyS
     rw [if_neg (show ¬ q.2.1 ≠ 0 by simpa using c), if_pos k]
    have y5 : (partR sub' false q).2.2 = (wrongS q).2 := by
     have e : (partR sub' false q).2 = (marksR (nP (nameS q).1) (sub' (markS (nameS q).2 colon)).2).2 := by unfold partR; rw [if_pos rfl]
     rw [e, y4, fl_mark colon w, fl_marksR (nP (nameS q).1) _ (f'.ne w), f' _ w]
    have w2 : (partR sub' false q).2.2.1 ≠ 0 := by rw [y5]; exact w
    rw [y2]
    show Eqs (markS q rbrace) (partsR sub' false (q.1.length + 1) [] q).2 ∧ ((markS q rbrace).2.1 = 0 → _)
    rw [y3]
    refine ⟨⟨?_, fun z => absurd z w⟩, fun z => absurd z w⟩
    show (loopR (partR sub' false) rbrace (q.1.length + 1) [] q).2.2 = (wrongS q).2
    unfold loopR
    rw [if_neg (show ¬ q.2.1 ≠ 0 by simpa using c), fl_may rbrace w2, if_neg (by simp), fl_mark comma w2, fl_loop rbrace _ _ _ w2]
    exact y5
 ·have y1 : mayS q rbrace = (q, false) := fl_may rbrace c
  have y2 : noneC (fieldC sub) q = ([], q) := if_pos (by rw [fl_pk c]; decide)
  rw [y1, if_neg (fun z => by simp at z), y2]
  show Eqs (markS q rbrace) (partsR sub' false (q.1.length + 1) [] q).2 ∧ ((markS q rbrace).2.1 = 0 → _)
  rw [fl_mark rbrace c]
  exact ⟨⟨fl_loop rbrace _ _ q c, fun z => absurd z c⟩, fun z => absurd z c⟩
theorem body_eq (g : Gd sub) (f : Fl sub) (f' : Fl sub') (s : Stk sub) (h : Rl sub sub') (a : Int) {p : PS} (ok : Ok p) (k : Int) (x : ByteArray)
  (hx : (k = 1 ∧ x = sBool) ∨ (k = 2 ∧ x = sInt) ∨ (k = 3 ∧ x = sText) ∨ (k = 4 ∧ x = sEnum) ∨ (k = 5 ∧ x = sList) ∨ (k = 6 ∧ x = sOpt) ∨ (k = 7 ∧ x = sRecord) ∨ (k = 8 ∧ x = sUnion) ∨ (k = 9 ∧ x = sRef)) :
  Eqs (contC sub (hKA k a) p).2 (bodyR sub' x a p).2 ∧ ((contC sub (hKA k a) p).2.2.1 = 0 → (bodyR sub' x a p).1 = (contC sub (hKA k a) p).1) := by
 rcases hx with ⟨rfl, rfl⟩ | ⟨rfl, rfl⟩ | ⟨rfl, rfl⟩ | ⟨rfl, rfl⟩ | ⟨rfl, rfl⟩ | ⟨rfl, rfl⟩ | ⟨rfl, rfl⟩ | ⟨rfl, rfl⟩ | ⟨rfl, rfl⟩
 ·exact ⟨Eqs.rfl' _, fun _ => rfl⟩
 ·exact ⟨Eqs.rfl' _, fun _ => rfl⟩
 ·exact ⟨Eqs.rfl' _, fun _ => rfl⟩
 ·have ok1 := mark_ok (m := lpar) ok
  have := rl_loop rpar (by decide) gd_name fl_name fl_name (rl_same fl_name) ((markS p lpar).1.length + 1) [] (markS p lpar) (markS p lpar) ok1 (Eqs.rfl' _) (Nat.lt_succ_self _) _ (Nat.lt_succ_self _)
  refine ⟨this.1, fun z => ?_⟩
  show (({ hKA 4 a with names := (namesP rpar (markS p lpar)).1 }, .nil) : TH × Ft) = ({ hKA 4 a with names := (listP nameS comma (markS p lpar)).1 }, .nil)
  rw [show (namesP rpar (markS p lpar)).1 = (listP nameS comma (markS p lpar)).1 from (this.2 z).trans (List.nil_append _)]
 ·have h1 := h _ _ (mark_ok (m := lpar) ok) (Eqs.rfl' (markS p lpar))
  have ok1 := (g _ (mark_ok (m := lpar) ok)).1
  have h2 := rl_same fl_int _ _ (mark_ok (m := comma) ok1) (eq_mark h1.1 comma)
  refine ⟨eq_mark h2.1 rpar, fun z => ?_⟩
  have z2 := st_mark z
  have z1 := st_mark (st_int _ z2)
  show (({ hKA 5 a with most := (intS (markS (sub' (markS p lpar)).2 comma)).1 }, only (sub' (markS p lpar)).1) : TH × Ft) = ({ hKA 5 a with most := (intS (markS (sub (markS p lpar)).2 comma)).1 }, only (sub (markS p lpar)).1)
  rw [h2.2 z2, h1.2 z1]
 ·have h1 := h _ _ (mark_ok (m := lpar) ok) (Eqs.rfl' (markS p lpar))
  refine ⟨eq_mark h1.1 rpar, fun z => ?_⟩
  show ((hKA 6 a, only (sub' (markS p lpar)).1) : TH × Ft) = (hKA 6 a, only (sub (markS p lpar)).1)
  rw [h1.2 (st_mark z)]
 ·have h1 := rl_record g f f' s h ok
  refine ⟨h1.1, fun z => ?_⟩
  show ((hKA 7 a, ofL (partsP sub' false p).1) : TH × Ft) = (hKA 7 a, ofL (insS lbrace rbrace (noneC (fieldC sub)) p).1)
  rw [h1.2 z]
 ·have h1 := rl_union g f f' s h ok
  refine ⟨h1.1, fun z => ?_⟩
  show ((hKA 8 a, ofL (partsP sub' true p).1) : TH × Ft) = (hKA 8 a, ofL (insS lbrace rbrace (listP (tagC sub) comma) p).1)
  rw [h1.2 z]
 ·exact ⟨Eqs.rfl' _, fun _ => rfl⟩
end
theorem kind_name {q : PS} (c : q.2.1 = 0) (k : (Cur.hdT q.1).1 = 1) : kindC q = if (Cur.hdT q.1).2.2.2.1 = sBool then (1, onS q) else if (Cur.hdT q.1).2.2.2.1 = sInt then (2, onS q) else if (Cur.hdT q.1).2.2.2.1 = sText then (3, onS q) else if (Cur.hdT q.1).2.2.2.1 = sEnum then (4, onS q) else if (Cur.hdT q.1).2.2.2.1 = sList then (5, onS q) else if (Cur.hdT q.1).2.2.2.1 = sOpt then (6, onS q) else if (Cur.hdT q.1).2.2.2.1 = sRecord then (7, onS q) else if (Cur.hdT q.1).2.2.2.1 = sUnion then (8, onS q) else if (Cur.hdT q.1).2.2.2.1 = sRef then (9, onS q) else (0, rstS q) := by
 unfold kindC
 rw [word_if c k (fun p => ((1 : Int), p)), word_if c k (fun p => ((2 : Int), p)), word_if c k (fun p => ((3 : Int), p)), word_if c k (fun p => ((4 : Int), p)), word_if c k (fun p => ((5 : Int), p)), word_if c k (fun p => ((6 : Int), p)), word_if c k (fun p => ((7 : Int), p)), word_if c k (fun p => ((8 : Int), p)), word_if c k (fun p => ((9 : Int), p))]
theorem rl_typ : ∀ n, Rl (typC n) (kindR n)
 | 0 => rl_of (fl_typ 0) (fl_kindR 0) fun q ok c => by
  have e1 : typC 0 q = ((hKA 0 (Cur.hdT q.1).2.1, .nil), failP q 6) := by rw [← pk_eq c]; rfl
  have e2 : kindR 0 q = ((hKA 0 (Cur.hdT q.1).2.1, .nil), (q.1, 6, (Cur.hdT q.1).2.1)) := if_neg (by simpa using c)
  have e3 : failP q 6 = (q.1, 6, (Cur.hdT q.1).2.1) := if_neg (by simpa using c)
  rw [e1, e2, e3]
  exact ⟨Eqs.rfl' _, fun _ => rfl⟩
 | n + 1 => rl_of (fl_typ (n + 1)) (fl_kindR (n + 1)) fun q ok c => by
  have e1 : typC (n + 1) q = contC (typC n) (hKA (kindC q).1 (Cur.hdT q.1).2.1) (kindC q).2 := by rw [← pk_eq c]; rfl
  have c' : ¬ q.2.1 ≠ 0 := by simpa using c
  by_cases k : (Cur.hdT q.1).1 = 1
  ·have e2 : kindR (n + 1) q = bodyR (kindR n) (Cur.hdT q.1).2.2.2.1 (Cur.hdT q.1).2.1 (onS q) := by
    show (if q.2.1 ≠ 0 then _ else _) = _
    rw [if_neg c', if_neg (show ¬ (Cur.hdT q.1).1 ≠ 1 by simpa using k)]
   have okn : Ok (onS q) := on_ok ok (by rw [k]; decide)
   have kn := kind_name c k
   rw [e1, e2]
   generalize (Cur.hdT q.1).2.2.2.1 = x at *
   have go : ∀ i : Int, kindC q = (i, onS q) → ((i = 1 ∧ x = sBool) ∨ (i = 2 ∧ x = sInt) ∨ (i = 3 ∧ x = sText) ∨ (i = 4 ∧ x = sEnum) ∨ (i = 5 ∧ x = sList) ∨ (i = 6 ∧ x = sOpt) ∨ (i = 7 ∧ x = sRecord) ∨ (i = 8 ∧ x = sUnion) ∨ (i = 9 ∧ x = sRef)) → Eqs (contC (typC n) (hKA (kindC q).1 (Cur.hdT q.1).2.1) (kindC q).2).2 (bodyR (kindR n) x (Cur.hdT q.1).2.1 (onS q)).2 ∧ ((contC (typC n) (hKA (kindC q).1 (Cur.hdT q.1).2.1) (kindC q).2).2.2.1 = 0 → (bodyR (kindR n) x (Cur.hdT q.1).2.1 (onS q)).1 = (contC (typC n) (hKA (kindC q).1 (Cur.hdT q.1).2.1) (kindC q).2).1) := fun i h1 h2 => by
    rw [h1]
    exact body_eq (gd_typ n) (fl_typ n) (fl_kindR n) (st_typ n) (rl_typ n) (Cur.hdT q.1).2.1 okn i x h2
   by_cases x1 : x = sBool
   ·rw [if_pos x1] at kn; exact go 1 kn (by simp [x1])
   rw [if_neg x1] at kn
   by_cases x2 : x = sInt
   ·rw [if_pos x2] at kn; exact go 2 kn (by simp [x2])
   rw [if_neg x2] at kn
   by_cases x3 : x = sText
   ·rw [if_pos x3] at kn; exact go 3 kn (by simp [x3])
   rw [if_neg x3] at kn
   by_cases x4 : x = sEnum
   ·rw [if_pos x4] at kn; exact go 4 kn (by simp [x4])
   rw [if_neg x4] at kn
   by_cases x5 : x = sList
   ·rw [if_pos x5] at kn; exact go 5 kn (by simp [x5])
   rw [if_neg x5] at kn
   by_cases x6 : x = sOpt
   ·rw [if_pos x6] at kn; exact go 6 kn (by simp [x6])
   rw [if_neg x6] at kn
   by_cases x7 : x = sRecord
   ·rw [if_pos x7] at kn; exact go 7 kn (by simp [x7])
   rw [if_neg x7] at kn
   by_cases x8 : x = sUnion
   ·rw [if_pos x8] at kn; exact go 8 kn (by simp [x8])
   rw [if_neg x8] at kn
   by_cases x9 : x = sRef
   ·rw [if_pos x9] at kn; exact go 9 kn (by simp [x9])
   rw [if_neg x9, rst_name c k] at kn
   have b1 : contC (typC n) (hKA (kindC q).1 (Cur.hdT q.1).2.1) (kindC q).2 = ((hKA 0 (Cur.hdT q.1).2.1, .nil), (q.1, 9, (Cur.hdT q.1).2.1)) := by rw [kn]; rfl
   have b2 : bodyR (kindR n) x (Cur.hdT q.1).2.1 (onS q) = ((hKA 0 (Cur.hdT q.1).2.1, .nil), ((onS q).1, 9, (Cur.hdT q.1).2.1)) := by
    unfold bodyR
    rw [if_neg x1, if_neg x2, if_neg x3, if_neg x4, if_neg x5, if_neg x6, if_neg x7, if_neg x8, if_neg x9]
   rw [b1, b2]
   exact ⟨⟨rfl, fun z => absurd z (by show (9 : Int) ≠ 0; decide)⟩, fun z => absurd z (by show (9 : Int) ≠ 0; decide)⟩
  ·have e2 : kindR (n + 1) q = ((hKA 0 (Cur.hdT q.1).2.1, .nil), wrongS q) := by
    show (if q.2.1 ≠ 0 then _ else _) = _
    rw [if_neg c', if_pos k]
   have e3 : kindC q = (0, wrongS q) := by
    unfold kindC
    simp only [word_ne k]
    show (0, rstS q) = _
    rw [rst_other c k]
   rw [e1, e2, e3]
   exact ⟨Eqs.rfl' _, fun _ => rfl⟩
end Go.Proofs.YtncijmodlhijoaaGreat.Syn
namespace Go.Proofs.YtncijmodlhijoaaGreat.Syn
open Go.RowKit Go.Lib Utf Tok Cur Nam Lat Kin
theorem toks_tx {s : ByteArray} : ∀ (l : List Tk) (a : Nat), a ≤ s.size → scnI s a false = (some l, 0, 0) → ∀ t ∈ l, t.1 = 0 → t.2.2.2.1 = ByteArray.empty
 | [], a, ha, h => fun t ht => by cases ht
 | t :: l, a, ha, h => fun u hu h0 => by
  obtain ⟨x, y, e1, e2, e3, e4, h5, e6, h7⟩ := cov_next ha h
  rcases List.mem_cons.1 hu with rfl | q
  ·rcases h7 with ⟨-, -, rfl, -⟩ | ⟨h1, -⟩
   ·rfl
   ·omega
  ·rcases h7 with ⟨-, rfl, -⟩ | ⟨-, -, hne, -, hn⟩
   ·cases q
   ·exact toks_tx l y h5 hn u q h0
theorem scn_tx {s : ByteArray} {l : List Tk} (h : scnS s = (some l, 0, 0)) : ∀ t ∈ l, t.1 = 0 → t.2.2.2.1 = ByteArray.empty := by
 unfold scnS at h
 by_cases c : 65536 < s.size
 ·rw [if_pos c] at h
  cases h
 ·rw [if_neg c] at h
  exact toks_tx l 0 (Nat.zero_le _) h
def Sx {α : Type} (el : PS → α × PS) : Prop := ∀ p, (el p).2.1 ⊆ p.1
theorem sx_on (p : PS) : (onS p).1 ⊆ p.1 := fun _ h => List.mem_of_mem_tail h
theorem sx_wrong (p : PS) : (wrongS p).1 ⊆ p.1 := by unfold wrongS; split <;> exact List.Subset.refl _
theorem sx_need (p : PS) (k : Int) (x : ByteArray) : (needS p k x).1 ⊆ p.1 := by
 unfold needS
 split
 ·exact List.Subset.refl _
 ·split
  ·exact sx_on p
  ·exact sx_wrong p
theorem sx_mark (p : PS) (x : ByteArray) : (markS p x).1 ⊆ p.1 := sx_need p 4 x
theorem sx_may (p : PS) (x : ByteArray) : (mayS p x).1.1 ⊆ p.1 := by
 unfold mayS
 split
 ·exact sx_on p
 ·exact List.Subset.refl _
theorem sx_any (p : PS) (k : Int) : (anyS p k).2.1 ⊆ p.1 := by
 unfold anyS
 split
 ·exact List.Subset.refl _
 ·split
  ·exact sx_wrong p
  ·exact sx_on p
theorem sx_name : Sx nameS := fun p => sx_any p 1
theorem sx_int : Sx intS := fun p => sx_any p 2
theorem sx_num : Sx numS := fun p => ((sx_mark _ rpar).trans (sx_any _ 2)).trans (sx_mark p lpar)
section
variable {α : Type} {el : PS → α × PS} {m : ByteArray}
theorem sx_sep (g : Sx el) : ∀ n, Sx (sepS el m n)
 | 0 => fun p => List.Subset.refl _
 | n + 1 => fun p => by
  unfold sepS
  split
  ·exact ((sx_sep g n _).trans (sx_may _ m)).trans (g p)
  ·exact g p
theorem sx_list (g : Sx el) : Sx (listP el m) := fun p => sx_sep g _ p
theorem sx_loop (g : Sx el) (en : ByteArray) : ∀ n acc, Sx (loopR el en n acc)
 | 0, _ => fun p => List.Subset.refl _
 | n + 1, acc => fun p => by
  unfold loopR
  split
  ·exact List.Subset.refl _
  ·split
   ·exact (sx_may _ en).trans (g p)
   ·exact ((sx_loop g en n _ _).trans (sx_mark _ comma)).trans (g p)
end
theorem sx_label : Sx labelC := fun p => by
 unfold labelC
 split
 ·exact (sx_list sx_name _).trans (sx_may p atS)
 ·exact sx_may p atS
theorem sx_see (c : Int × Int × Int) : Sx (seeS c) := fun q => by
 unfold seeS
 split
 ·exact (sx_list sx_name _).trans (sx_may q atS)
 ·exact sx_may q atS
theorem sx_coa : Sx coaS := fun p => by
 unfold coaS
 repeat' split
 ·exact List.Subset.refl _
 ·exact sx_wrong p
 ·exact ((sx_see _ _).trans (sx_num _)).trans (sx_on p)
 ·exact ((sx_see _ _).trans (sx_num _)).trans (sx_on p)
 ·exact (sx_see _ _).trans (sx_on p)
 ·exact List.Subset.refl _
theorem sx_wide : Sx wideC := fun p => by
 unfold wideC
 split
 ·exact (sx_int _).trans (sx_may p _)
 ·exact sx_may p _
theorem sx_seeR : Sx seeR := fun p => by
 unfold seeR
 split
 ·exact (sx_coa _).trans (sx_may p tilde)
 ·exact sx_may p tilde
theorem sx_marksR (x : PH) : Sx (marksR x) := fun p => ((sx_seeR _).trans (sx_wide _)).trans (sx_label p)
theorem sx_partR {sub : Sub} (g : Sx sub) (tag : Bool) : Sx (partR sub tag) := fun p => by
 unfold partR
 split
 ·exact (((sx_marksR (nP (nameS p).1) _).trans (g _)).trans (sx_mark _ colon)).trans (sx_name p)
 ·split
  ·exact ((((sx_marksR (nP (nameS p).1) _).trans (sx_mark _ rpar)).trans (g _)).trans (sx_may _ lpar)).trans (sx_name p)
  ·exact (sx_may _ lpar).trans (sx_name p)
theorem sx_partsP {sub : Sub} (g : Sx sub) (tag : Bool) : Sx (partsP sub tag) := fun p => by
 unfold partsP
 split
 ·exact (sx_may _ rbrace).trans (sx_mark p lbrace)
 ·exact (sx_loop (sx_partR g tag) rbrace _ _ _).trans (sx_mark p lbrace)
theorem sx_bodyR {sub : Sub} (g : Sx sub) (x : ByteArray) (a : Int) : Sx (bodyR sub x a) := fun q => by
 unfold bodyR
 repeat' split
 ·exact List.Subset.refl _
 ·exact ((((sx_mark _ rpar).trans (sx_int _)).trans (sx_mark _ dots)).trans (sx_int _)).trans (sx_mark q lpar)
 ·exact sx_num q
 ·exact (sx_loop sx_name rpar _ _ _).trans (sx_mark q lpar)
 ·exact ((((sx_mark _ rpar).trans (sx_int _)).trans (sx_mark _ comma)).trans (g _)).trans (sx_mark q lpar)
 ·exact ((sx_mark _ rpar).trans (g _)).trans (sx_mark q lpar)
 ·exact sx_partsP g false q
 ·exact sx_partsP g true q
 ·exact ((sx_mark _ rpar).trans (sx_name _)).trans (sx_mark q lpar)
 ·exact List.Subset.refl _
theorem sx_kindR : ∀ n, Sx (kindR n)
 | 0 => fun p => by
  unfold kindR
  split <;> exact List.Subset.refl _
 | n + 1 => fun p => by
  unfold kindR
  split
  ·exact List.Subset.refl _
  ·split
   ·exact sx_wrong p
   ·exact (sx_bodyR (sx_kindR n) _ _ _).trans (sx_on p)
def typeQ (l : List Tk) : (TH × Ft) × Int × Int :=
 if (needS (kindR 24 (l, 0, 0)).2 0 ByteArray.empty).2.1 ≠ 0 then ((zTH, .nil), (needS (kindR 24 (l, 0, 0)).2 0 ByteArray.empty).2) else ((kindR 24 (l, 0, 0)).1, 0, 0)
theorem need_whole {P Q : PS} (e : Eqs P Q) (ok : Ok Q) (ht : ∀ t ∈ Q.1, t.1 = 0 → t.2.2.2.1 = ByteArray.empty) : (needS Q 0 ByteArray.empty).2 = (wholeC P).2 := by
 by_cases c : P.2.1 = 0
 ·have eq : Q = P := e.eq c
  subst eq
  have hp : pkS Q = Cur.hdT Q.1 := Cur.peek_ok c
  unfold needS wholeC
  rw [if_neg (by simpa using c), hp]
  by_cases k : (Cur.hdT Q.1).1 = 0
  ·have hx : (Cur.hdT Q.1).2.2.2.1 = ByteArray.empty := by
    obtain ⟨t, m, h, -⟩ := EndL.hd ok
    have := ht t (by rw [h]; exact List.mem_cons_self)
    rw [h] at k ⊢
    exact this k
   have hi : isS Q 0 ByteArray.empty = true := by unfold isS; rw [k, hx]; simp
   rw [hi, if_pos rfl, if_neg (by simpa using k)]
   rfl
  ·have hi : isS Q 0 ByteArray.empty = false := by unfold isS; rw [decide_eq_false k, Bool.false_and]
   rw [hi, if_neg (by decide), if_pos k]
 ·have c2 : Q.2.1 ≠ 0 := by rw [e.f]; exact c
  have hp : (pkS P).1 = 0 := by
   have : pkS P = (0, P.2.2, P.2.2, ByteArray.empty, 0) := Cur.peek_fail (c := (P.1, 0, P.2)) c
   rw [this]
  unfold needS wholeC
  rw [if_pos c2, if_neg (by simpa using hp)]
  exact e.f
theorem typeQ_eq {l : List Tk} (ok : Ok (l, 0, 0)) (ht : ∀ t ∈ l, t.1 = 0 → t.2.2.2.1 = ByteArray.empty) : typeQ l = typeP l := by
 have e := rl_typ 24 (l, 0, 0) (l, 0, 0) ok (Eqs.rfl' _)
 have hn := need_whole e.1 (gd_kindR 24 (l, 0, 0) ok).1 (fun t h => ht t (sx_kindR 24 (l, 0, 0) h))
 unfold typeQ typeP
 rw [hn]
 by_cases c : (wholeC (typC 24 (l, 0, 0)).2).2.1 ≠ 0
 ·rw [if_pos c, if_pos c]
 ·rw [if_neg c, if_neg c, e.2 (st_whole (by simpa using c))]
end Go.Proofs.YtncijmodlhijoaaGreat.Syn
namespace Go.Proofs.YtncijmodlhijoaaGreat.Tok
open Go.RowKit Go.Lib Utf Ran Dig Nam Pat
theorem sq_t {a b : ByteArray} (h : a = b) : (a.toList == b.toList) = true := by rw [h]; simp
theorem sq_f {a b : ByteArray} (h : a ≠ b) : (a.toList == b.toList) = false := by rw [bl_inj, decide_eq_false (fun e => h (bl_ext e))]
theorem markS_nat (s : ByteArray) (k : Nat) : markS s k = s.extract k (k + markN s k) := by unfold markS; rw [if_neg (by omega)]; rfl
theorem mark_out {s : ByteArray} {i : Int} (h : i < 0 ∨ (s.size : Int) ≤ i) : markS s i = ⟨#[]⟩ := by
 by_cases h0 : i < 0
 ·unfold markS; rw [if_pos h0]
 ·obtain ⟨k, rfl⟩ : ∃ k : Nat, i = k := ⟨i.toNat, by omega⟩
  rw [markS_nat]
  refine bl_ext ?_
  rw [bl_extract, List.drop_eq_nil_of_le (by rw [List.length_take, bl_length]; omega)]
  rfl
theorem mark_dots {s : ByteArray} {k : Nat} (h : byN s k = 46) (h1 : k + 1 < s.size) (h2 : byN s (k + 1) = 46) : markN s k = 2 ∧ s.extract k (k + 2) = ⟨#[46, 46]⟩ := by
 refine ⟨by unfold markN; rw [if_neg (by omega), if_pos h, if_pos ⟨h1, h2⟩], bl_ext ?_⟩
 rw [bl_extract, List.drop_take, bl_drop (by omega), bl_drop h1, h, h2, show k + 2 - k = 2 by omega]
 rfl
theorem mark_dot {s : ByteArray} {k : Nat} (h : byN s k = 46) (h1 : ¬ (k + 1 < s.size ∧ byN s (k + 1) = 46)) : markN s k = 0 := by
 unfold markN
 by_cases h0 : s.size ≤ k
 ·rw [if_pos h0]
 ·rw [if_neg h0, if_pos h, if_neg h1]
theorem mark_one {s : ByteArray} {k : Nat} (hk : k < s.size) (h : byN s k ≠ 46) : markN s k = if markL.contains (byN s k) then 1 else 0 := by unfold markN; rw [if_neg (by omega), if_neg h]
theorem ext_nil (s : ByteArray) (k : Nat) : s.extract k (k + 0) = ⟨#[]⟩ := by
 refine bl_ext ?_
 rw [bl_extract, Nat.add_zero, List.drop_take, Nat.sub_self, List.take_zero]
 rfl
def allM : ByteArray := ⟨#[123, 125, 91, 93, 40, 41, 44, 58, 61, 60, 62, 64, 43, 35, 126, 42]⟩
theorem allM_at : ∀ K, K < 16 → byN allM K = markL.getD K 0 := by decide
theorem markL_mem {c : Nat} : markL.contains c = true ↔ ∃ K, K < 16 ∧ markL.getD K 0 = c := by
 rw [List.contains_iff_mem]
 constructor
 ·intro h
  obtain ⟨K, hK, e⟩ := List.getElem_of_mem h
  exact ⟨K, hK, by rw [List.getD, List.getElem?_eq_getElem hK]; exact e⟩
 ·rintro ⟨K, hK, rfl⟩
  have hK' : K < markL.length := hK
  rw [List.getD, List.getElem?_eq_getElem hK']
  exact List.getElem_mem hK'
theorem refmark13_calls (s : ByteArray) (i : Int) (hs : s.size ≤ maxLen) (w : World) (R : Ending → World → Prop) (hi : -9223372036854775808 ≤ i ∧ i ≤ 9223372036854775807)
  (hR : Hid (∀ w', Below w.heap.size w w' → R (.returned (.string (markS s i))) w')) : Calls Tryz.prog 242 #[.string s, .int .i64 i] w R := by
 replace hs : s.size ≤ 9223372036854775807 := hs
 by_cases h0 : i < 0
 ·rw [mark_out (.inl h0)] at hR
  go_enter Tryz.func242, Tryz.ntmps242
  go_wp2_with fail
  exact hR.out _ (Below.refl _ _)
 by_cases h1 : (s.size : Int) ≤ i
 ·rw [mark_out (.inr h1)] at hR
  go_enter Tryz.func242, Tryz.ntmps242
  go_wp2_with fail
  exact hR.out _ (Below.refl _ _)
 obtain ⟨k, rfl⟩ : ∃ k : Nat, i = k := ⟨i.toNat, by omega⟩
 have hk : k < s.size := by omega
 have hg := byN_get s k hk
 have hbl := byN_lt s k
 rw [markS_nat] at hR
 by_cases h2 : byN s k = 46
 ·by_cases h3 : k + 1 < s.size
  ·have hg1 := byN_get s (k + 1) h3
   by_cases h4 : byN s (k + 1) = 46
   ·obtain ⟨e1, e2⟩ := mark_dots h2 h3 h4
    rw [e1, e2] at hR
    rw [h2] at hg
    rw [h4] at hg1
    have d1 : (1 : Int) < (s.size : Int) - (k : Int) := by omega
    clear e1 e2 h2 h4 hbl
    go_enter Tryz.func242, Tryz.ntmps242
    go_wp2_with fail
    exact hR.out _ (Below.refl _ _)
   ·rw [mark_dot h2 (fun q => h4 q.2), ext_nil] at hR
    rw [h2] at hg
    have hb1 := byN_lt s (k + 1)
    have d1 : (1 : Int) < (s.size : Int) - (k : Int) := by omega
    generalize byN s (k + 1) = c at *
    have q8 : ((c : Int) == 46) = false := by simp; omega
    clear h2 h4 hbl
    go_enter Tryz.func242, Tryz.ntmps242
    go_wp2_with fail
    exact hR.out _ (Below.refl _ _)
  ·rw [mark_dot h2 (fun q => h3 q.1), ext_nil] at hR
   rw [h2] at hg
   have d1 : ¬ (1 : Int) < (s.size : Int) - (k : Int) := by omega
   clear h2 hbl
   go_enter Tryz.func242, Tryz.ntmps242
   go_wp2_with fail
   exact hR.out _ (Below.refl _ _)
 ·rw [mark_one hk h2] at hR
  have hyes := Lib.hid fun K (hK : K < 16) (e : markL.getD K 0 = byN s k) => show markL.contains (byN s k) = true from markL_mem.2 ⟨K, hK, e⟩
  have hno := Lib.hid fun (h : ∀ j, j < 16 → markL.getD j 0 ≠ byN s k) => show markL.contains (byN s k) = false by
   cases e : markL.contains (byN s k)
   ·rfl
   ·obtain ⟨K, hK, e2⟩ := markL_mem.1 e
    exact absurd e2 (h K hK)
  generalize byN s k = c at *
  have q8 : ((c : Int) == 46) = false := by simp; omega
  obtain ⟨A, hA⟩ : ∃ A, allM = A := ⟨_, rfl⟩
  have hsz : A.size = 16 := by rw [← hA]; decide
  have hat := Lib.hid fun K (h : K < 16) => show byN A K = markL.getD K 0 by rw [← hA]; exact allM_at K h
  go_enter Tryz.func242, Tryz.ntmps242
  go_wp2_with fail
  rw [show (⟨#[123, 125, 91, 93, 40, 41, 44, 58, 61, 60, 62, 64, 43, 35, 126, 42]⟩ : ByteArray) = A from hA]
  clear hA
  go_loopg [6] 16 (fun g i wr => ∃ K : Nat, i = .int .i64 K ∧ K + g = 16 ∧ Hid (Below w.heap.size w wr) ∧ Hid (∀ j, j < K → markL.getD j 0 ≠ c))
  case atStart => exact ⟨0, rfl, by omega, Lib.hid (Below.refl _ _), Lib.hid fun j h => by omega⟩
  case round =>
   obtain ⟨K, rfl, c1, nb, hkk⟩ := hrel
   by_cases hK : K < 16
   ·have hgK := byN_get A K (by omega)
    rw [hat.out K hK] at hgK
    have i0 : (0 : Int) ≤ (K : Int) := by omega
    have i1 : (K : Int) < 16 := by omega
    have hy := hyes.out K hK
    have hnx : markL.getD K 0 ≠ c → ∀ j, j < K + 1 → markL.getD j 0 ≠ c := fun h j hj => by
     rcases Nat.eq_or_lt_of_le (Nat.le_of_lt_succ hj) with e | q
     ·subst e; exact h
     ·exact hkk.out j q
    generalize markL.getD K 0 = y at *
    clear hkk hyes hno hat
    by_cases q : y = c
    ·rw [hy q, if_pos rfl] at hR
     have q1 : ((y : Int) == (c : Int)) = true := by simp [q]
     clear hy hnx q
     go_wp2_with fail
     go_quiet (fail)
     have b2 := Lib.hid (below_drewN nb.out nq)
     go_wp2_with fail
     exact hR.out _ b2.out
    ·have h3 := Lib.hid (hnx q)
     have q1 : ((y : Int) == (c : Int)) = false := by simp; omega
     clear hy hnx q
     go_wp2_with fail
     go_quiet (fail)
     have b2 := Lib.hid (below_drewN nb.out nq)
     go_wp2_with fail
     go_roundg (gk - 1)
     case measure => omega
     case rel => exact ⟨K + 1, by go_num, by omega, b2, h3⟩
   ·obtain rfl : K = 16 := by omega
    rw [hno.out hkk.out, if_neg (by simp), ext_nil] at hR
    clear hkk hno hyes
    go_wp2_with fail
    exact hR.out _ nb.out
end Go.Proofs.YtncijmodlhijoaaGreat.Tok
