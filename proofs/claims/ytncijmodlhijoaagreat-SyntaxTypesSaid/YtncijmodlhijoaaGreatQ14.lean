import Derived.Test.YtncijmodlhijoaaGreatQ11
set_option linter.unusedVariables false
set_option maxRecDepth 100000
set_option maxHeartbeats 4000000
namespace Go.Proofs.YtncijmodlhijoaaGreat.Syn
open Go.Lib Utf Tok Cur Lat Kin
def loopR {α : Type} (el : PS → α × PS) (en : ByteArray) : Nat → List α → PS → List α × PS
 | 0, _, p => ([], p)
 | n + 1, acc, p => if p.2.1 ≠ 0 then ([], p) else if (mayS (el p).2 en).2 then (acc ++ [(el p).1], (mayS (el p).2 en).1) else loopR el en n (acc ++ [(el p).1]) (markS (el p).2 comma)
abbrev namesR (en : ByteArray) : Nat → List Wr → PS → List Wr × PS := loopR nameS en
def namesP (en : ByteArray) (p : PS) : List Wr × PS := namesR en (p.1.length + 1) [] p
def seeR (p : PS) : Co × PS := if (mayS p tilde).2 then coaS (mayS p tilde).1 else ((0, 0, 0, []), (mayS p tilde).1)
def marksR (x : PH) (p : PS) : PH × PS :=
 (⟨x.name, x.at_, x.bare, (labelC p).1, (wideC (labelC p).2).1, (seeR (wideC (labelC p).2).2).1.1, (seeR (wideC (labelC p).2).2).1.2.1, (seeR (wideC (labelC p).2).2).1.2.2.1, (seeR (wideC (labelC p).2).2).1.2.2.2⟩, (seeR (wideC (labelC p).2).2).2)
def partR (sub : Sub) (tag : Bool) (p : PS) : Pt × PS :=
 if tag = false then (((marksR (nP (nameS p).1) (sub (markS (nameS p).2 colon)).2).1, (sub (markS (nameS p).2 colon)).1), (marksR (nP (nameS p).1) (sub (markS (nameS p).2 colon)).2).2)
 else if (mayS (nameS p).2 lpar).2 then
  (((marksR (nP (nameS p).1) (markS (sub (mayS (nameS p).2 lpar).1).2 rpar)).1, (sub (mayS (nameS p).2 lpar).1).1), (marksR (nP (nameS p).1) (markS (sub (mayS (nameS p).2 lpar).1).2 rpar)).2)
 else ((nB (nameS p).1, zTH, .nil), (mayS (nameS p).2 lpar).1)
abbrev partsR (sub : Sub) (tag : Bool) : Nat → List Pt → PS → List Pt × PS := loopR (partR sub tag) rbrace
def partsP (sub : Sub) (tag : Bool) (p : PS) : List Pt × PS :=
 if (mayS (markS p lbrace) rbrace).2 = true ∧ tag = false then ([], (mayS (markS p lbrace) rbrace).1) else partsR sub tag ((markS p lbrace).1.length + 1) [] (markS p lbrace)
def bodyR (sub : Sub) (x : ByteArray) (a : Int) (q : PS) : (TH × Ft) × PS :=
 if x = sBool then ((hKA 1 a, .nil), q)
 else if x = sInt then (({ hKA 2 a with lo := (intS (markS q lpar)).1, hi := (intS (markS (intS (markS q lpar)).2 dots)).1 }, .nil), markS (intS (markS (intS (markS q lpar)).2 dots)).2 rpar)
 else if x = sText then (({ hKA 3 a with most := (numS q).1 }, .nil), (numS q).2)
 else if x = sEnum then (({ hKA 4 a with names := (namesP rpar (markS q lpar)).1 }, .nil), (namesP rpar (markS q lpar)).2)
 else if x = sList then (({ hKA 5 a with most := (intS (markS (sub (markS q lpar)).2 comma)).1 }, only (sub (markS q lpar)).1), markS (intS (markS (sub (markS q lpar)).2 comma)).2 rpar)
 else if x = sOpt then ((hKA 6 a, only (sub (markS q lpar)).1), markS (sub (markS q lpar)).2 rpar)
 else if x = sRecord then ((hKA 7 a, ofL (partsP sub false q).1), (partsP sub false q).2)
 else if x = sUnion then ((hKA 8 a, ofL (partsP sub true q).1), (partsP sub true q).2)
 else if x = sRef then (({ hKA 9 a with name := (nameS (markS q lpar)).1.1, nat := (nameS (markS q lpar)).1.2 }, .nil), markS (nameS (markS q lpar)).2 rpar)
 else ((hKA 0 a, .nil), (q.1, 9, a))
def kindR : Nat → Sub
 | 0, p => if p.2.1 ≠ 0 then ((zTH, .nil), p) else ((hKA 0 (Cur.hdT p.1).2.1, .nil), (p.1, 6, (Cur.hdT p.1).2.1))
 | n + 1, p => if p.2.1 ≠ 0 then ((zTH, .nil), p) else if (Cur.hdT p.1).1 ≠ 1 then ((hKA 0 (Cur.hdT p.1).2.1, .nil), wrongS p) else bodyR (kindR n) (Cur.hdT p.1).2.2.2.1 (Cur.hdT p.1).2.1 (onS p)
theorem gd_loopR {α : Type} {el : PS → α × PS} (g : Gd el) (en : ByteArray) : ∀ n acc, Gd (loopR el en n acc)
 | 0, _ => fun p h => ⟨h, Nat.le_refl _⟩
 | n + 1, acc => fun p h => by
  unfold loopR
  split
  ·exact ⟨h, Nat.le_refl _⟩
  ·split
   ·exact gd_seq (g p h) (gd_may _ en)
   ·exact gd_seq (gd_seq (g p h) (gd_mark _ comma)) (gd_loopR g en n _ _)
theorem gd_namesR (en : ByteArray) (n : Nat) (acc : List Wr) : Gd (namesR en n acc) := gd_loopR gd_name en n acc
theorem gd_coaS : Gd coaS := fun p h => by
  have see : ∀ (c : Int × Int × Int), Gd (seeS c) := fun c q hq => by
    unfold seeS
    split
    · exact gd_seq (gd_may q atS hq) (gd_list gd_name _)
    · exact gd_may q atS hq
  unfold coaS
  repeat' split
  · exact ⟨h, Nat.le_refl _⟩
  · exact gd_wrong p h
  · rename_i a b c
    have h1 : (Cur.hdT p.1).1 ≠ 0 := by have : (Cur.hdT p.1).1 = 1 := by simpa using b
                                        rw [this]; decide
    exact gd_seq (gd_seq (q := onS p) ⟨on_ok h h1, by rw [on_len]; omega⟩ (gd_num _)) (see _ _)
  · rename_i a b _ c
    have h1 : (Cur.hdT p.1).1 ≠ 0 := by have : (Cur.hdT p.1).1 = 1 := by simpa using b
                                        rw [this]; decide
    exact gd_seq (gd_seq (q := onS p) ⟨on_ok h h1, by rw [on_len]; omega⟩ (gd_num _)) (see _ _)
  · rename_i a b _ _ c
    have h1 : (Cur.hdT p.1).1 ≠ 0 := by have : (Cur.hdT p.1).1 = 1 := by simpa using b
                                        rw [this]; decide
    exact gd_seq (q := onS p) ⟨on_ok h h1, by rw [on_len]; omega⟩ (see _ _)
  · exact ⟨h, Nat.le_refl _⟩
theorem gd_seeR : Gd seeR := fun p h => by
 unfold seeR
 split
 ·exact gd_seq (gd_may p tilde h) (gd_coaS _)
 ·exact gd_may p tilde h
theorem gd_marksR (x : PH) : Gd (marksR x) := fun p h => gd_seq (gd_seq (gd_label p h) (gd_wide _)) (gd_seeR _)
theorem gd_partR {sub : Sub} (g : Gd sub) (tag : Bool) : Gd (partR sub tag) := fun p h => by
 unfold partR
 split
 ·exact gd_seq (gd_seq (gd_seq (gd_name p h) (gd_mark _ colon)) (g _)) (gd_marksR (nP (nameS p).1) _)
 ·split
  ·exact gd_seq (gd_seq (gd_seq (gd_seq (gd_name p h) (gd_may _ lpar)) (g _)) (gd_mark _ rpar)) (gd_marksR (nP (nameS p).1) _)
  ·exact gd_seq (gd_name p h) (gd_may _ lpar)
theorem gd_partsR {sub : Sub} (g : Gd sub) (tag : Bool) (n : Nat) (acc : List Pt) : Gd (partsR sub tag n acc) := gd_loopR (gd_partR g tag) rbrace n acc
theorem gd_partsP {sub : Sub} (g : Gd sub) (tag : Bool) : Gd (partsP sub tag) := fun p h => by
 unfold partsP
 split
 ·exact gd_seq (gd_mark p lbrace h) (gd_may _ rbrace)
 ·exact gd_seq (gd_mark p lbrace h) (gd_partsR g tag _ _ _)
theorem gd_bodyR {sub : Sub} (g : Gd sub) (x : ByteArray) (a : Int) : Gd (bodyR sub x a) := fun q h => by
 unfold bodyR
 repeat' split
 ·exact ⟨h, Nat.le_refl _⟩
 ·exact gd_seq (gd_seq (gd_seq (gd_seq (gd_mark q lpar h) (gd_int _)) (gd_mark _ dots)) (gd_int _)) (gd_mark _ rpar)
 ·exact gd_num q h
 ·exact gd_seq (gd_mark q lpar h) (gd_namesR rpar _ _ _)
 ·exact gd_seq (gd_seq (gd_seq (gd_seq (gd_mark q lpar h) (g _)) (gd_mark _ comma)) (gd_int _)) (gd_mark _ rpar)
 ·exact gd_seq (gd_seq (gd_mark q lpar h) (g _)) (gd_mark _ rpar)
 ·exact gd_partsP g false q h
 ·exact gd_partsP g true q h
 ·exact gd_seq (gd_seq (gd_mark q lpar h) (gd_name _)) (gd_mark _ rpar)
 ·exact ⟨h, Nat.le_refl _⟩
theorem gd_kindR : ∀ n, Gd (kindR n)
  | 0 => fun p h => by
    unfold kindR
    split
    · exact ⟨h, Nat.le_refl _⟩
    · exact ⟨h, Nat.le_refl _⟩
  | n + 1 => fun p h => by
    unfold kindR
    split
    · exact ⟨h, Nat.le_refl _⟩
    · split
      · exact gd_wrong p h
      · rename_i b
        have h1 : (Cur.hdT p.1).1 ≠ 0 := by have : (Cur.hdT p.1).1 = 1 := by simpa using b
                                            rw [this]; decide
        exact gd_seq (q := onS p) ⟨on_ok h h1, by rw [on_len]; omega⟩ (gd_bodyR (gd_kindR n) _ _ _)
end Go.Proofs.YtncijmodlhijoaaGreat.Syn
