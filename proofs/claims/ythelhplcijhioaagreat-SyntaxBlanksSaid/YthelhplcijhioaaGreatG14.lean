import Derived.Test.YthelhplcijhioaaGreatG12
import Derived.Test.YthelhplcijhioaaGreatG13
import Derived.Test.YthelhplcijhioaaGreatG7
/- The plain mathematics of layer 16: the document's parser of types and schemas, over tokens. No Go here. -/
set_option maxRecDepth 100000
set_option linter.unusedVariables false
namespace Go.Proofs.YthelhplcijhioaaGreat.Syn
open Go.Lib Go.Proofs.YthelhplcijhioaaGreat.Utf Go.Proofs.YthelhplcijhioaaGreat.Tok Go.Proofs.YthelhplcijhioaaGreat.Cur Go.Proofs.YthelhplcijhioaaGreat.Lat Go.Proofs.YthelhplcijhioaaGreat.Kin

/-- The tokens that are left, and what is wrong. -/
abbrev PS := List Tk × Int × Int
def isS (p : PS) (k : Int) (x : ByteArray) : Bool := decide ((Cur.hdT p.1).1 = k) && decide ((Cur.hdT p.1).2.2.2.1 = x)
def wrongS (p : PS) : PS := if p.2.1 ≠ 0 then p else (p.1, (if (Cur.hdT p.1).1 = 0 then 5 else 4), (Cur.hdT p.1).2.1)
def onS (p : PS) : PS := (p.1.tail, p.2)
def needS (p : PS) (k : Int) (x : ByteArray) : PS := if p.2.1 ≠ 0 then p else if isS p k x then onS p else wrongS p
def mayS (p : PS) (m : ByteArray) : PS × Bool := if p.2.1 = 0 ∧ isS p 4 m = true then (onS p, true) else (p, false)
def anyS (p : PS) (k : Int) : Tk × PS := if p.2.1 ≠ 0 then (zT, p) else if (Cur.hdT p.1).1 ≠ k then (zT, wrongS p) else (Cur.hdT p.1, onS p)
def nameS (p : PS) : Wr × PS := (((anyS p 1).1.2.2.2.1, (anyS p 1).1.2.1), (anyS p 1).2)
def markS (p : PS) (m : ByteArray) : PS := needS p 4 m
abbrev plus : ByteArray := ⟨#[43]⟩
abbrev lpar : ByteArray := ⟨#[40]⟩
abbrev rpar : ByteArray := ⟨#[41]⟩
abbrev comma : ByteArray := ⟨#[44]⟩
abbrev lbrace : ByteArray := ⟨#[123]⟩
abbrev rbrace : ByteArray := ⟨#[125]⟩
abbrev atS : ByteArray := ⟨#[64]⟩
abbrev hash : ByteArray := ⟨#[35]⟩
abbrev tilde : ByteArray := ⟨#[126]⟩
abbrev colon : ByteArray := ⟨#[58]⟩
abbrev dots : ByteArray := ⟨#[46, 46]⟩
/-- Elements with a mark between each two. -/
def sepS {α : Type} (el : PS → α × PS) (m : ByteArray) : Nat → PS → List α × PS
  | 0, p => ([], p)
  | n + 1, p => if (mayS (el p).2 m).2 then ((el p).1 :: (sepS el m n (mayS (el p).2 m).1).1, (sepS el m n (mayS (el p).2 m).1).2) else ([(el p).1], (el p).2)
def listP {α : Type} (el : PS → α × PS) (m : ByteArray) (p : PS) : List α × PS := sepS el m (p.1.length + 1) p
def labelP (p : PS) : List Wr × PS := listP nameS plus p
def numS (p : PS) : Int × PS := ((anyS (markS p lpar) 2).1.2.2.2.2, markS (anyS (markS p lpar) 2).2 rpar)
/-- A coarse view: its Kind, its N, its place, its label. -/
abbrev Co := Int × Int × Int × List Wr
def seeS (c : Int × Int × Int) (p : PS) : Co × PS := if (mayS p atS).2 then ((c.1, c.2.1, c.2.2, (labelP (mayS p atS).1).1), (labelP (mayS p atS).1).2) else ((c.1, c.2.1, c.2.2, []), (mayS p atS).1)
abbrev sFloor : ByteArray := ⟨#[102, 108, 111, 111, 114]⟩
abbrev sFirst : ByteArray := ⟨#[102, 105, 114, 115, 116]⟩
abbrev sCount : ByteArray := ⟨#[99, 111, 117, 110, 116]⟩
def coaS (p : PS) : Co × PS :=
  if p.2.1 ≠ 0 then ((0, 0, 0, []), p)
  else if (Cur.hdT p.1).1 ≠ 1 then ((0, 0, (Cur.hdT p.1).2.1, []), wrongS p)
  else if (Cur.hdT p.1).2.2.2.1 = sFloor then seeS (1, (numS (onS p)).1, (Cur.hdT p.1).2.1) (numS (onS p)).2
  else if (Cur.hdT p.1).2.2.2.1 = sFirst then seeS (2, (numS (onS p)).1, (Cur.hdT p.1).2.1) (numS (onS p)).2
  else if (Cur.hdT p.1).2.2.2.1 = sCount then seeS (3, 0, (Cur.hdT p.1).2.1) (onS p)
  else ((0, 0, (Cur.hdT p.1).2.1, []), (p.1, 9, (Cur.hdT p.1).2.1))
/-- The tokens that are left end with an end, or all are gone behind it. -/
def Ok (p : PS) : Prop := EndL p.1
theorem wrong_l (p : PS) : (wrongS p).1 = p.1 := by unfold wrongS; split <;> rfl
theorem on_ok {p : PS} (h : Ok p) (h1 : (Cur.hdT p.1).1 ≠ 0) : Ok (onS p) := EndL.tail h h1
theorem is_kind {p : PS} {k : Int} {x : ByteArray} (h : isS p k x = true) : (Cur.hdT p.1).1 = k := by
  unfold isS at h
  rw [Bool.and_eq_true, decide_eq_true_iff] at h
  exact h.1
theorem need_ok {p : PS} {k : Int} {x : ByteArray} (h : Ok p) (hk : k ≠ 0) : Ok (needS p k x) := by
  unfold needS
  by_cases c : p.2.1 ≠ 0
  · rw [if_pos c]; exact h
  · rw [if_neg c]
    cases q : isS p k x
    · show EndL (wrongS p).1; rw [wrong_l]; exact h
    · exact on_ok h (by rw [is_kind q]; exact hk)
theorem mark_ok {p : PS} {m : ByteArray} (h : Ok p) : Ok (markS p m) := need_ok h (by decide)
theorem may_ok {p : PS} {m : ByteArray} (h : Ok p) : Ok (mayS p m).1 := by
  unfold mayS
  by_cases c : p.2.1 = 0 ∧ isS p 4 m = true
  · rw [if_pos c]; exact on_ok h (by rw [is_kind c.2]; decide)
  · rw [if_neg c]; exact h
theorem any_ok {p : PS} {k : Int} (h : Ok p) (hk : k ≠ 0) : Ok (anyS p k).2 := by
  unfold anyS
  by_cases c : p.2.1 ≠ 0
  · rw [if_pos c]; exact h
  · rw [if_neg c]
    by_cases d : (Cur.hdT p.1).1 ≠ k
    · rw [if_pos d]; show EndL (wrongS p).1; rw [wrong_l]; exact h
    · rw [if_neg d]; exact on_ok h (by have : (Cur.hdT p.1).1 = k := by simpa using d
                                       rw [this]; exact hk)
theorem name_ok {p : PS} (h : Ok p) : Ok (nameS p).2 := any_ok h (by decide)
theorem wrong_len (p : PS) : (wrongS p).1.length = p.1.length := by rw [wrong_l]
theorem on_len (p : PS) : (onS p).1.length = p.1.length - 1 := by simp [onS]
theorem any_len (p : PS) (k : Int) : (anyS p k).2.1.length ≤ p.1.length := by
  unfold anyS
  split
  · exact Nat.le_refl _
  · split
    · rw [wrong_len]; exact Nat.le_refl _
    · rw [on_len]; omega
theorem name_len (p : PS) : (nameS p).2.1.length ≤ p.1.length := any_len p 1
theorem need_len (p : PS) (k : Int) (x : ByteArray) : (needS p k x).1.length ≤ p.1.length := by
  unfold needS
  split
  · exact Nat.le_refl _
  · split
    · rw [on_len]; omega
    · rw [wrong_len]; exact Nat.le_refl _
theorem may_len (p : PS) (m : ByteArray) : (mayS p m).1.1.length ≤ p.1.length := by
  unfold mayS
  split
  · rw [on_len]; omega
  · exact Nat.le_refl _
theorem may_lt {p : PS} {m : ByteArray} (hl : p.1 ≠ []) (h : (mayS p m).2 = true) : (mayS p m).1.1.length < p.1.length := by
  unfold mayS at *
  split at h
  · rename_i c
    rw [if_pos c, on_len]
    have := List.length_pos_iff.2 hl
    omega
  · cases h
/-- What follows keeps the end, and reads on. -/
def Gd {α : Type} (el : PS → α × PS) : Prop := ∀ p, Ok p → Ok (el p).2 ∧ (el p).2.1.length ≤ p.1.length
theorem gd_name : Gd nameS := fun p h => ⟨name_ok h, name_len p⟩
section
variable {α : Type} {el : PS → α × PS} {m : ByteArray}
/-- More fuel than tokens changes nothing. -/
theorem sep_fuel (g : Gd el) : ∀ (n k : Nat) (p : PS), Ok p → p.1.length < n → p.1.length < k → sepS el m n p = sepS el m k p
  | 0, _, p, _, h, _ => absurd h (Nat.not_lt_zero _)
  | n + 1, 0, p, _, _, h => absurd h (Nat.not_lt_zero _)
  | n + 1, k + 1, p, ok, h1, h2 => by
    unfold sepS
    cases q : (mayS (el p).2 m).2
    · rfl
    · have hn := g p ok
      have h3 := may_lt (EndL.ne hn.1) q
      rw [sep_fuel g n k (mayS (el p).2 m).1 (may_ok hn.1) (by omega) (by omega)]
theorem sep_ok (g : Gd el) : ∀ (n : Nat) (p : PS), Ok p → Ok (sepS el m n p).2
  | 0, p, h => h
  | n + 1, p, h => by
    unfold sepS
    split
    · exact sep_ok g n _ (may_ok (g p h).1)
    · exact (g p h).1
theorem sep_len (g : Gd el) : ∀ (n : Nat) (p : PS), Ok p → (sepS el m n p).2.1.length ≤ p.1.length
  | 0, p, _ => Nat.le_refl _
  | n + 1, p, h => by
    unfold sepS
    split
    · exact Nat.le_trans (sep_len g n _ (may_ok (g p h).1)) (Nat.le_trans (may_len _ _) (g p h).2)
    · exact (g p h).2
theorem sep_n : ∀ (n : Nat) (p : PS), (sepS el m n p).1.length ≤ n
  | 0, p => Nat.le_refl _
  | n + 1, p => by
    unfold sepS
    split
    · simpa using sep_n n _
    · simp
theorem gd_list (g : Gd el) : Gd (listP el m) := fun p h => ⟨sep_ok g _ _ h, sep_len g _ _ h⟩
end
end Go.Proofs.YthelhplcijhioaaGreat.Syn

/- The plain mathematics of layer 16: what the code makes of tokens, from rule to rule. No Go here. -/
set_option maxRecDepth 100000
set_option linter.unusedVariables false
namespace Go.Proofs.YthelhplcijhioaaGreat.Syn
open Go.Lib Go.Proofs.YthelhplcijhioaaGreat.Utf Go.Proofs.YthelhplcijhioaaGreat.Tok Go.Proofs.YthelhplcijhioaaGreat.Cur Go.Proofs.YthelhplcijhioaaGreat.Lat Go.Proofs.YthelhplcijhioaaGreat.Kin

/-- The token that comes, or the end at which a fault stands. -/
def pkS (p : PS) : Tk := Cur.peekS (p.1, 0, p.2)
def failP (p : PS) (e : Int) : PS := if p.2.1 ≠ 0 then p else (p.1, e, (Cur.hdT p.1).2.1)
def wordS (p : PS) (x : ByteArray) : PS × Bool := if p.2.1 = 0 ∧ isS p 1 x = true then (onS p, true) else (p, false)
def rstS (p : PS) : PS := if (pkS p).1 = 1 then failP p 9 else wrongS p
def needW (p : PS) (x : ByteArray) : PS := if (wordS p x).2 then (wordS p x).1 else wrongS p
def intS (p : PS) : Int × PS := ((anyS p 2).1.2.2.2.2, (anyS p 2).2)
def labelC (p : PS) : List Wr × PS := if (mayS p atS).2 then listP nameS plus (mayS p atS).1 else ([], (mayS p atS).1)
def coaK (p : PS) : (Int × Int) × PS :=
  if (wordS p sFloor).2 then ((1, (numS (wordS p sFloor).1).1), (numS (wordS p sFloor).1).2)
  else if (wordS p sFirst).2 then ((2, (numS (wordS p sFirst).1).1), (numS (wordS p sFirst).1).2)
  else if (wordS p sCount).2 then ((3, 0), (wordS p sCount).1)
  else ((0, 0), rstS p)
def coaC (p : PS) : Co × PS := (((coaK p).1.1, (coaK p).1.2, (pkS p).2.1, (labelC (coaK p).2).1), (labelC (coaK p).2).2)
def wideC (p : PS) : Int × PS := if (mayS p hash).2 then intS (mayS p hash).1 else (0, (mayS p hash).1)
def seeC (p : PS) : Co × PS := if (mayS p tilde).2 then coaC (mayS p tilde).1 else ((0, 0, 0, []), (mayS p tilde).1)
/-- What is set of a part behind its type. -/
def marksC (x : PH) (p : PS) : PH × PS :=
  (⟨x.name, x.at_, x.bare, (labelC p).1, (wideC (labelC p).2).1, (seeC (wideC (labelC p).2).2).1.1, (seeC (wideC (labelC p).2).2).1.2.1, (seeC (wideC (labelC p).2).2).1.2.2.1, (seeC (wideC (labelC p).2).2).1.2.2.2⟩, (seeC (wideC (labelC p).2).2).2)
abbrev Pt := PH × TH × Ft
abbrev Sub := PS → (TH × Ft) × PS
def ofL : List Pt → Ft
  | [] => .nil
  | x :: l => .cons x.1 x.2.1 x.2.2 (ofL l)
def nP (w : Wr) : PH := ⟨w.1, w.2, false, [], 0, 0, 0, 0, []⟩
def nB (w : Wr) : PH := ⟨w.1, w.2, true, [], 0, 0, 0, 0, []⟩
def fieldC (sub : Sub) (p : PS) : Pt × PS :=
  (((marksC (nP (nameS p).1) (sub (markS (nameS p).2 colon)).2).1, (sub (markS (nameS p).2 colon)).1), (marksC (nP (nameS p).1) (sub (markS (nameS p).2 colon)).2).2)
def tagC (sub : Sub) (p : PS) : Pt × PS :=
  if (mayS (nameS p).2 lpar).2 then
    (((marksC (nP (nameS p).1) (markS (sub (mayS (nameS p).2 lpar).1).2 rpar)).1, (sub (mayS (nameS p).2 lpar).1).1), (marksC (nP (nameS p).1) (markS (sub (mayS (nameS p).2 lpar).1).2 rpar)).2)
  else ((nB (nameS p).1, zTH, .nil), (mayS (nameS p).2 lpar).1)
/-- A list that may be absent. -/
def noneC {α : Type} (el : PS → α × PS) (p : PS) : List α × PS := if (pkS p).1 ≠ 1 then ([], p) else listP el comma p
abbrev sBool : ByteArray := ⟨#[98, 111, 111, 108]⟩
abbrev sInt : ByteArray := ⟨#[105, 110, 116]⟩
abbrev sText : ByteArray := ⟨#[116, 101, 120, 116]⟩
abbrev sEnum : ByteArray := ⟨#[101, 110, 117, 109]⟩
abbrev sList : ByteArray := ⟨#[108, 105, 115, 116]⟩
abbrev sOpt : ByteArray := ⟨#[111, 112, 116]⟩
abbrev sRecord : ByteArray := ⟨#[114, 101, 99, 111, 114, 100]⟩
abbrev sUnion : ByteArray := ⟨#[117, 110, 105, 111, 110]⟩
abbrev sRef : ByteArray := ⟨#[114, 101, 102]⟩
def kindC (p : PS) : Int × PS :=
  if (wordS p sBool).2 then (1, (wordS p sBool).1)
  else if (wordS p sInt).2 then (2, (wordS p sInt).1)
  else if (wordS p sText).2 then (3, (wordS p sText).1)
  else if (wordS p sEnum).2 then (4, (wordS p sEnum).1)
  else if (wordS p sList).2 then (5, (wordS p sList).1)
  else if (wordS p sOpt).2 then (6, (wordS p sOpt).1)
  else if (wordS p sRecord).2 then (7, (wordS p sRecord).1)
  else if (wordS p sUnion).2 then (8, (wordS p sUnion).1)
  else if (wordS p sRef).2 then (9, (wordS p sRef).1)
  else (0, rstS p)
def boundsC (p : PS) : (Int × Int) × PS := (((intS p).1, (intS (markS (intS p).2 dots)).1), (intS (markS (intS p).2 dots)).2)
/-- What stands between two marks. -/
def insS {α : Type} (a b : ByteArray) (el : PS → α × PS) (p : PS) : α × PS := ((el (markS p a)).1, markS (el (markS p a)).2 b)
def only (x : TH × Ft) : Ft := .cons zPH x.1 x.2 .nil
def listC (sub : Sub) (p : PS) : (Ft × Int) × PS := ((only (sub p).1, (intS (markS (sub p).2 comma)).1), (intS (markS (sub p).2 comma)).2)
def contC (sub : Sub) (h : TH) (p : PS) : (TH × Ft) × PS :=
  if h.kind = 2 then (({ h with lo := (insS lpar rpar boundsC p).1.1, hi := (insS lpar rpar boundsC p).1.2 }, .nil), (insS lpar rpar boundsC p).2)
  else if h.kind = 3 then (({ h with most := (insS lpar rpar intS p).1 }, .nil), (insS lpar rpar intS p).2)
  else if h.kind = 4 then (({ h with names := (insS lpar rpar (listP nameS comma) p).1 }, .nil), (insS lpar rpar (listP nameS comma) p).2)
  else if h.kind = 5 then (({ h with most := (insS lpar rpar (listC sub) p).1.2 }, (insS lpar rpar (listC sub) p).1.1), (insS lpar rpar (listC sub) p).2)
  else if h.kind = 6 then ((h, only (insS lpar rpar sub p).1), (insS lpar rpar sub p).2)
  else if h.kind = 7 then ((h, ofL (insS lbrace rbrace (noneC (fieldC sub)) p).1), (insS lbrace rbrace (noneC (fieldC sub)) p).2)
  else if h.kind = 8 then ((h, ofL (insS lbrace rbrace (listP (tagC sub) comma) p).1), (insS lbrace rbrace (listP (tagC sub) comma) p).2)
  else if h.kind = 9 then (({ h with name := (insS lpar rpar nameS p).1.1, nat := (insS lpar rpar nameS p).1.2 }, .nil), (insS lpar rpar nameS p).2)
  else ((h, .nil), p)
def hKA (k a : Int) : TH := ⟨k, a, 0, 0, 0, [], ByteArray.empty, 0⟩
def typC : Nat → Sub
  | 0, p => ((hKA 0 (pkS p).2.1, .nil), failP p 6)
  | n + 1, p => contC (typC n) (hKA (kindC p).1 (pkS p).2.1) (kindC p).2
/-! ### A schema -/
abbrev Pr := Wr × Wr
def pairsC : Wr → List Wr → List Pr
  | _, [] => []
  | lo, hi :: l => (lo, hi) :: pairsC hi l
abbrev lt : ByteArray := ⟨#[60]⟩
abbrev eqS : ByteArray := ⟨#[61]⟩
abbrev sLevels : ByteArray := ⟨#[108, 101, 118, 101, 108, 115]⟩
abbrev sOrder : ByteArray := ⟨#[111, 114, 100, 101, 114]⟩
abbrev sType : ByteArray := ⟨#[116, 121, 112, 101]⟩
abbrev sRoot : ByteArray := ⟨#[114, 111, 111, 116]⟩
def chainC (p : PS) : List Pr × PS := (pairsC (nameS p).1 (listP nameS lt (markS (nameS p).2 lt)).1, (listP nameS lt (markS (nameS p).2 lt)).2)
abbrev Nd := Wr × TH × Ft
def namedC (p : PS) : Nd × PS := (((nameS p).1, (typC 24 (markS (nameS p).2 eqS)).1), (typC 24 (markS (nameS p).2 eqS)).2)
def typesC : Nat → PS → List Nd × PS
  | 0, p => ([], p)
  | n + 1, p => if (wordS p sType).2 then ((namedC (wordS p sType).1).1 :: (typesC n (namedC (wordS p sType).1).2).1, (typesC n (namedC (wordS p sType).1).2).2) else ([], (wordS p sType).1)
abbrev Sc := List Wr × List Pr × List Nd × TH × Ft
def orderC (p : PS) : List Pr × PS := if (wordS p sOrder).2 then ((insS lbrace rbrace (noneC chainC) (wordS p sOrder).1).1.flatten, (insS lbrace rbrace (noneC chainC) (wordS p sOrder).1).2) else ([], (wordS p sOrder).1)
def levelsC (p : PS) : List Wr × PS := insS lbrace rbrace (listP nameS comma) (needW p sLevels)
def tysC (p : PS) : List Nd × PS := typesC (p.1.length + 1) p
def schC (p : PS) : Sc × PS :=
  (((levelsC p).1, (orderC (levelsC p).2).1, (tysC (orderC (levelsC p).2).2).1, (typC 24 (needW (tysC (orderC (levelsC p).2).2).2 sRoot)).1), (typC 24 (needW (tysC (orderC (levelsC p).2).2).2 sRoot)).2)
/-- All of a text. -/
def wholeC (p : PS) : PS := if (pkS p).1 ≠ 0 then wrongS p else p
/-! ### Lengths, ends -/
theorem gd_word (p : PS) (x : ByteArray) (h : Ok p) : Ok (wordS p x).1 ∧ (wordS p x).1.1.length ≤ p.1.length := by
  unfold wordS
  by_cases c : p.2.1 = 0 ∧ isS p 1 x = true
  · rw [if_pos c]
    exact ⟨on_ok h (by rw [is_kind c.2]; decide), by rw [on_len]; omega⟩
  · rw [if_neg c]
    exact ⟨h, Nat.le_refl _⟩
theorem word_lt {p : PS} {x : ByteArray} (hl : p.1 ≠ []) (h : (wordS p x).2 = true) : (wordS p x).1.1.length < p.1.length := by
  unfold wordS at *
  split at h
  · rename_i c
    rw [if_pos c, on_len]
    have := List.length_pos_iff.2 hl
    omega
  · cases h
theorem wrong_ok {p : PS} (h : Ok p) : Ok (wrongS p) := by show EndL (wrongS p).1; rw [wrong_l]; exact h
theorem failP_l (p : PS) (e : Int) : (failP p e).1 = p.1 := by unfold failP; split <;> rfl
theorem gd_fail (p : PS) (e : Int) (h : Ok p) : Ok (failP p e) ∧ (failP p e).1.length ≤ p.1.length := by
  have := failP_l p e
  exact ⟨by show EndL (failP p e).1; rw [this]; exact h, by rw [this]; exact Nat.le_refl _⟩
theorem gd_wrong (p : PS) (h : Ok p) : Ok (wrongS p) ∧ (wrongS p).1.length ≤ p.1.length := ⟨wrong_ok h, Nat.le_of_eq (wrong_len p)⟩
theorem gd_rst (p : PS) (h : Ok p) : Ok (rstS p) ∧ (rstS p).1.length ≤ p.1.length := by
  unfold rstS
  split
  · exact gd_fail p 9 h
  · exact gd_wrong p h
theorem gd_needW (p : PS) (x : ByteArray) (h : Ok p) : Ok (needW p x) ∧ (needW p x).1.length ≤ p.1.length := by
  unfold needW
  split
  · exact gd_word p x h
  · exact gd_wrong p h
theorem gd_mark (p : PS) (x : ByteArray) (h : Ok p) : Ok (markS p x) ∧ (markS p x).1.length ≤ p.1.length := ⟨mark_ok h, need_len p 4 x⟩
theorem gd_may (p : PS) (x : ByteArray) (h : Ok p) : Ok (mayS p x).1 ∧ (mayS p x).1.1.length ≤ p.1.length := ⟨may_ok h, may_len p x⟩
theorem gd_int : Gd intS := fun p h => ⟨any_ok h (by decide), any_len p 2⟩
/-- One thing behind another. -/
theorem gd_seq {p q r : PS} (a : Ok q ∧ q.1.length ≤ p.1.length) (b : Ok q → Ok r ∧ r.1.length ≤ q.1.length) : Ok r ∧ r.1.length ≤ p.1.length := ⟨(b a.1).1, Nat.le_trans (b a.1).2 a.2⟩
theorem gd_num : Gd numS := fun p h => gd_seq (gd_seq (gd_mark p lpar h) (fun h => ⟨any_ok h (by decide), any_len _ 2⟩)) (gd_mark _ rpar)
theorem gd_ins {α : Type} {a b : ByteArray} {el : PS → α × PS} (g : Gd el) : Gd (insS a b el) := fun p h => gd_seq (gd_seq (gd_mark p a h) (g _)) (gd_mark _ b)
theorem gd_label : Gd labelC := fun p h => by
  unfold labelC
  split
  · exact gd_seq (gd_may p atS h) (gd_list gd_name _)
  · exact gd_may p atS h
theorem gd_coaK : Gd coaK := fun p h => by
  unfold coaK
  split
  · exact gd_seq (gd_word p _ h) (gd_num _)
  · split
    · exact gd_seq (gd_word p _ h) (gd_num _)
    · split
      · exact gd_word p _ h
      · exact gd_rst p h
theorem gd_coa : Gd coaC := fun p h => gd_seq (gd_coaK p h) (gd_label _)
theorem gd_wide : Gd wideC := fun p h => by
  unfold wideC
  split
  · exact gd_seq (gd_may p _ h) (gd_int _)
  · exact gd_may p _ h
theorem gd_see : Gd seeC := fun p h => by
  unfold seeC
  split
  · exact gd_seq (gd_may p _ h) (gd_coa _)
  · exact gd_may p _ h
theorem gd_marks (x : PH) : Gd (marksC x) := fun p h => gd_seq (gd_seq (gd_label p h) (gd_wide _)) (gd_see _)
theorem gd_field {sub : Sub} (g : Gd sub) : Gd (fieldC sub) := fun p h => gd_seq (gd_seq (gd_seq (gd_name p h) (gd_mark _ colon)) (g _)) (gd_marks (nP (nameS p).1) _)
theorem gd_tag {sub : Sub} (g : Gd sub) : Gd (tagC sub) := fun p h => by
  unfold tagC
  split
  · exact gd_seq (gd_seq (gd_seq (gd_seq (gd_name p h) (gd_may _ lpar)) (g _)) (gd_mark _ rpar)) (gd_marks (nP (nameS p).1) _)
  · exact gd_seq (gd_name p h) (gd_may _ lpar)
theorem gd_none {α : Type} {el : PS → α × PS} (g : Gd el) : Gd (noneC el) := fun p h => by
  unfold noneC
  split
  · exact ⟨h, Nat.le_refl _⟩
  · exact gd_list g p h
theorem gd_kind : Gd kindC := fun p h => by
  unfold kindC
  repeat' split
  all_goals first | exact gd_word p _ h | exact gd_rst p h
theorem gd_bounds : Gd boundsC := fun p h => gd_seq (gd_seq (gd_int p h) (gd_mark _ dots)) (gd_int _)
theorem gd_listC {sub : Sub} (g : Gd sub) : Gd (listC sub) := fun p h => gd_seq (gd_seq (g p h) (gd_mark _ comma)) (gd_int _)
theorem gd_cont {sub : Sub} (g : Gd sub) (h : TH) : Gd (contC sub h) := fun p ok => by
  unfold contC
  repeat' split
  · exact gd_ins gd_bounds p ok
  · exact gd_ins gd_int p ok
  · exact gd_ins (gd_list gd_name) p ok
  · exact gd_ins (gd_listC g) p ok
  · exact gd_ins g p ok
  · exact gd_ins (gd_none (gd_field g)) p ok
  · exact gd_ins (gd_list (gd_tag g)) p ok
  · exact gd_ins gd_name p ok
  · exact ⟨ok, Nat.le_refl _⟩
theorem gd_typ : ∀ n, Gd (typC n)
  | 0 => fun p h => gd_fail p 6 h
  | n + 1 => fun p h => gd_seq (gd_kind p h) (gd_cont (gd_typ n) _ _)
theorem gd_chain : Gd chainC := fun p h => gd_seq (gd_seq (gd_name p h) (gd_mark _ lt)) (gd_list gd_name _)
theorem gd_named : Gd namedC := fun p h => gd_seq (gd_seq (gd_name p h) (gd_mark _ eqS)) (gd_typ 24 _)
theorem ofL_len : ∀ l : List Pt, (ofL l).len = l.length
  | [] => rfl
  | x :: l => by simp [ofL, Fo.len, ofL_len l]
end Go.Proofs.YthelhplcijhioaaGreat.Syn

/- The plain mathematics of layer 16: tokens that stand further on make the same type, further on. No Go here. -/
set_option maxRecDepth 100000
set_option linter.unusedVariables false
namespace Go.Proofs.YthelhplcijhioaaGreat.Syn
open Go.Lib Go.Proofs.YthelhplcijhioaaGreat.Utf Go.Proofs.YthelhplcijhioaaGreat.Tok Go.Proofs.YthelhplcijhioaaGreat.Cur Go.Proofs.YthelhplcijhioaaGreat.Lat Go.Proofs.YthelhplcijhioaaGreat.Kin

/-! ### Whoever is fine was fine -/
def Stk {α : Type} (el : PS → α × PS) : Prop := ∀ p, (el p).2.2.1 = 0 → p.2.1 = 0
theorem st_wrong {p : PS} (h : (wrongS p).2.1 = 0) : False := by
  unfold wrongS at h
  by_cases c : p.2.1 ≠ 0
  · rw [if_pos c] at h; exact c h
  · rw [if_neg c] at h
    have h2 : (if (Cur.hdT p.1).1 = 0 then (5 : Int) else 4) = 0 := h
    by_cases d : (Cur.hdT p.1).1 = 0
    · rw [if_pos d] at h2; exact absurd h2 (by decide)
    · rw [if_neg d] at h2; exact absurd h2 (by decide)
theorem st_fail {p : PS} {e : Int} (he : e ≠ 0) (h : (failP p e).2.1 = 0) : False := by
  unfold failP at h
  by_cases c : p.2.1 ≠ 0
  · rw [if_pos c] at h; exact c h
  · rw [if_neg c] at h; exact he h
theorem st_rst {p : PS} (h : (rstS p).2.1 = 0) : False := by
  unfold rstS at h
  split at h
  · exact st_fail (by decide) h
  · exact st_wrong h
theorem st_mark {p : PS} {m : ByteArray} (h : (markS p m).2.1 = 0) : p.2.1 = 0 := by
  unfold markS needS at h
  by_cases c : p.2.1 ≠ 0
  · rw [if_pos c] at h; exact h
  · simpa using c
theorem st_may {p : PS} {m : ByteArray} (h : (mayS p m).1.2.1 = 0) : p.2.1 = 0 := by
  unfold mayS at h
  by_cases c : p.2.1 = 0 ∧ isS p 4 m = true
  · exact c.1
  · rw [if_neg c] at h; exact h
theorem st_word {p : PS} {m : ByteArray} (h : (wordS p m).1.2.1 = 0) : p.2.1 = 0 := by
  unfold wordS at h
  by_cases c : p.2.1 = 0 ∧ isS p 1 m = true
  · exact c.1
  · rw [if_neg c] at h; exact h
theorem st_any {p : PS} {k : Int} (h : (anyS p k).2.2.1 = 0) : p.2.1 = 0 := by
  unfold anyS at h
  by_cases c : p.2.1 ≠ 0
  · rw [if_pos c] at h; exact h
  · simpa using c
theorem st_needW {p : PS} {m : ByteArray} (h : (needW p m).2.1 = 0) : p.2.1 = 0 := by
  unfold needW at h
  split at h
  · exact st_word h
  · exact (st_wrong h).elim
theorem st_name : Stk nameS := fun p h => st_any (k := 1) h
theorem st_int : Stk intS := fun p h => st_any (k := 2) h
section
variable {α : Type} {el : PS → α × PS} {m : ByteArray}
theorem st_sep (s : Stk el) : ∀ n, Stk (sepS el m n)
  | 0 => fun p h => h
  | n + 1 => fun p h => by
    unfold sepS at h
    split at h
    · exact s _ (st_may (st_sep s n _ h))
    · exact s _ h
theorem st_list (s : Stk el) : Stk (listP el m) := fun p h => st_sep s _ p h
theorem st_ins {a b : ByteArray} (s : Stk el) : Stk (insS a b el) := fun p h => st_mark (s _ (st_mark h))
theorem st_none (s : Stk el) : Stk (noneC el) := fun p h => by
  unfold noneC at h
  split at h
  · exact h
  · exact st_list s p h
end
theorem st_num : Stk numS := fun p h => st_mark (st_any (k := 2) (st_mark h))
theorem st_label : Stk labelC := fun p h => by
  unfold labelC at h
  split at h
  · exact st_may (st_list st_name _ h)
  · exact st_may h
theorem st_coaK : Stk coaK := fun p h => by
  unfold coaK at h
  split at h
  · exact st_word (st_num _ h)
  · split at h
    · exact st_word (st_num _ h)
    · split at h
      · exact st_word h
      · exact (st_rst h).elim
theorem st_coa : Stk coaC := fun p h => st_coaK _ (st_label _ h)
theorem st_wide : Stk wideC := fun p h => by
  unfold wideC at h
  split at h
  · exact st_may (st_int _ h)
  · exact st_may h
theorem st_see : Stk seeC := fun p h => by
  unfold seeC at h
  split at h
  · exact st_may (st_coa _ h)
  · exact st_may h
theorem st_marks (x : PH) : Stk (marksC x) := fun p h => st_label _ (st_wide _ (st_see _ h))
theorem st_field {sub : Sub} (s : Stk sub) : Stk (fieldC sub) := fun p h => st_name _ (st_mark (s _ (st_marks (nP (nameS p).1) _ h)))
theorem st_tag {sub : Sub} (s : Stk sub) : Stk (tagC sub) := fun p h => by
  unfold tagC at h
  split at h
  · exact st_name _ (st_may (s _ (st_mark (st_marks (nP (nameS p).1) _ h))))
  · exact st_name _ (st_may h)
theorem st_kind : Stk kindC := fun p h => by
  unfold kindC at h
  repeat' split at h
  all_goals first | exact st_word h | exact (st_rst h).elim
theorem st_bounds : Stk boundsC := fun p h => st_int _ (st_mark (st_int _ h))
theorem st_listC {sub : Sub} (s : Stk sub) : Stk (listC sub) := fun p h => s _ (st_mark (st_int _ h))
theorem st_cont {sub : Sub} (s : Stk sub) (h : TH) : Stk (contC sub h) := fun p e => by
  unfold contC at e
  repeat' split at e
  · exact st_ins st_bounds p e
  · exact st_ins st_int p e
  · exact st_ins (st_list st_name) p e
  · exact st_ins (st_listC s) p e
  · exact st_ins s p e
  · exact st_ins (st_none (st_field s)) p e
  · exact st_ins (st_list (st_tag s)) p e
  · exact st_ins st_name p e
  · exact e
theorem st_typ : ∀ n, Stk (typC n)
  | 0 => fun p h => (st_fail (by decide) h).elim
  | n + 1 => fun p h => st_kind _ (st_cont (st_typ n) _ _ h)

/-! ### In step -/
/-- The same tokens, so much further on; the same fault, so much further on. -/
structure Sh (a : Int) (p p' : PS) : Prop where
  l : p'.1 = p.1.map (mvT a)
  e : p'.2.1 = p.2.1
  z : p.2.1 ≠ 0 → p'.2.2 = p.2.2 + a
  t : ∀ t ∈ p.1, 0 ≤ t.2.1 ∧ t.2.1 ≤ 1000000
  f : p.2.1 ≠ 0 → 0 ≤ p.2.2 ∧ p.2.2 ≤ 1000000
/-- In step; what they hand back is alike if all is fine. -/
def Ev {α : Type} (a : Int) (Q : α → α → Prop) (el : PS → α × PS) : Prop := ∀ p p', Ok p → Sh a p p' → Sh a (el p).2 (el p').2 ∧ ((el p).2.2.1 = 0 → Q (el p).1 (el p').1)
section
variable {a : Int} {p p' : PS}
theorem sh_hd (h : Sh a p p') (ok : Ok p) : Cur.hdT p'.1 = mvT a (Cur.hdT p.1) := by
  rw [h.l]
  cases q : p.1 with
  | nil => exact absurd q (EndL.ne ok)
  | cons t l => rfl
theorem sh_is (h : Sh a p p') (ok : Ok p) (k : Int) (x : ByteArray) : isS p' k x = isS p k x := by
  unfold isS
  rw [sh_hd h ok]
  rfl
theorem sh_on (h : Sh a p p') : Sh a (onS p) (onS p') := ⟨by show p'.1.tail = p.1.tail.map _; rw [h.l, List.map_tail], h.e, h.z, fun t ht => h.t t (List.mem_of_mem_tail ht), h.f⟩
theorem sh_bd (h : Sh a p p') (ok : Ok p) : 0 ≤ (Cur.hdT p.1).2.1 ∧ (Cur.hdT p.1).2.1 ≤ 1000000 := by
  refine h.t _ ?_
  cases q : p.1 with
  | nil => exact absurd q (EndL.ne ok)
  | cons t l => exact List.mem_cons_self
theorem sh_wrong (h : Sh a p p') (ok : Ok p) : Sh a (wrongS p) (wrongS p') := by
  unfold wrongS
  rw [h.e, sh_hd h ok]
  by_cases c : p.2.1 ≠ 0
  · rw [if_pos c, if_pos c]; exact h
  · rw [if_neg c, if_neg c]; exact ⟨h.l, rfl, fun _ => rfl, h.t, fun _ => sh_bd h ok⟩
theorem sh_fail (h : Sh a p p') (ok : Ok p) (e : Int) : Sh a (failP p e) (failP p' e) := by
  unfold failP
  rw [h.e, sh_hd h ok]
  by_cases c : p.2.1 ≠ 0
  · rw [if_pos c, if_pos c]; exact h
  · rw [if_neg c, if_neg c]; exact ⟨h.l, rfl, fun _ => rfl, h.t, fun _ => sh_bd h ok⟩
theorem sh_pk (h : Sh a p p') (ok : Ok p) : (pkS p').1 = (pkS p).1 ∧ (pkS p').2.1 = (pkS p).2.1 + a := by
  unfold pkS
  by_cases c : p.2.1 = 0
  · rw [Cur.peek_ok (c := (p.1, 0, p.2)) c, Cur.peek_ok (c := (p'.1, 0, p'.2)) (h.e.trans c)]
    show (Cur.hdT p'.1).1 = (Cur.hdT p.1).1 ∧ (Cur.hdT p'.1).2.1 = (Cur.hdT p.1).2.1 + a
    rw [sh_hd h ok]
    exact ⟨rfl, rfl⟩
  · rw [Cur.peek_fail (c := (p.1, 0, p.2)) c, Cur.peek_fail (c := (p'.1, 0, p'.2)) (by show p'.2.1 ≠ 0; rw [h.e]; exact c)]
    exact ⟨rfl, h.z c⟩
theorem sh_rst (h : Sh a p p') (ok : Ok p) : Sh a (rstS p) (rstS p') := by
  unfold rstS
  rw [(sh_pk h ok).1]
  split
  · exact sh_fail h ok 9
  · exact sh_wrong h ok
theorem sh_mark (h : Sh a p p') (ok : Ok p) (m : ByteArray) : Sh a (markS p m) (markS p' m) := by
  unfold markS needS
  rw [h.e, sh_is h ok]
  split
  · exact h
  · split
    · exact sh_on h
    · exact sh_wrong h ok
theorem sh_may (h : Sh a p p') (ok : Ok p) (m : ByteArray) : (mayS p' m).2 = (mayS p m).2 ∧ Sh a (mayS p m).1 (mayS p' m).1 := by
  unfold mayS
  rw [h.e, sh_is h ok]
  split
  · exact ⟨rfl, sh_on h⟩
  · exact ⟨rfl, h⟩
theorem sh_word (h : Sh a p p') (ok : Ok p) (m : ByteArray) : (wordS p' m).2 = (wordS p m).2 ∧ Sh a (wordS p m).1 (wordS p' m).1 := by
  unfold wordS
  rw [h.e, sh_is h ok]
  split
  · exact ⟨rfl, sh_on h⟩
  · exact ⟨rfl, h⟩
theorem sh_any (h : Sh a p p') (ok : Ok p) (k : Int) : Sh a (anyS p k).2 (anyS p' k).2 ∧ ((anyS p k).2.2.1 = 0 → (anyS p' k).1 = mvT a (anyS p k).1) := by
  by_cases c : p.2.1 ≠ 0
  · have e1 : anyS p k = (zT, p) := by unfold anyS; rw [if_pos c]
    have e2 : anyS p' k = (zT, p') := by unfold anyS; rw [if_pos (by rw [h.e]; exact c)]
    rw [e1, e2]
    exact ⟨h, fun q => absurd q c⟩
  · by_cases d : (Cur.hdT p.1).1 ≠ k
    · have e1 : anyS p k = (zT, wrongS p) := by unfold anyS; rw [if_neg c, if_pos d]
      have e2 : anyS p' k = (zT, wrongS p') := by unfold anyS; rw [if_neg (by rw [h.e]; exact c), if_pos (by rw [sh_hd h ok]; exact d)]
      rw [e1, e2]
      exact ⟨sh_wrong h ok, fun q => (st_wrong q).elim⟩
    · have e1 : anyS p k = (Cur.hdT p.1, onS p) := by unfold anyS; rw [if_neg c, if_neg d]
      have e2 : anyS p' k = (Cur.hdT p'.1, onS p') := by unfold anyS; rw [if_neg (by rw [h.e]; exact c), if_neg (by rw [sh_hd h ok]; exact d)]
      rw [e1, e2]
      exact ⟨sh_on h, fun _ => sh_hd h ok⟩
end
section
variable {a : Int}
abbrev QW (x y : Wr) : Prop := y.1 = x.1
abbrev QL (x y : List Wr) : Prop := nms y = nms x
theorem ev_name : Ev a QW nameS := fun p p' ok h => ⟨(sh_any h ok 1).1, fun q => by
  show (anyS p' 1).1.2.2.2.1 = (anyS p 1).1.2.2.2.1
  rw [(sh_any h ok 1).2 q]
  rfl⟩
theorem ev_int : Ev a (fun x y => y = x) intS := fun p p' ok h => ⟨(sh_any h ok 2).1, fun q => by
  show (anyS p' 2).1.2.2.2.2 = (anyS p 2).1.2.2.2.2
  rw [(sh_any h ok 2).2 q]
  rfl⟩
/-- Lists element by element. -/
inductive All2 {α : Type} (Q : α → α → Prop) : List α → List α → Prop where
  | nil : All2 Q [] []
  | cons {x y : α} {l m : List α} : Q x y → All2 Q l m → All2 Q (x :: l) (y :: m)
theorem all2_nms {l m : List Wr} (h : All2 QW l m) : nms m = nms l := by
  induction h with
  | nil => rfl
  | cons q _ ih => simp only [nms, List.map_cons] at *; rw [ih, q]
variable {α : Type} {el : PS → α × PS} {Q : α → α → Prop} {m : ByteArray}
theorem ev_sep (g : Gd el) (s : Stk el) (e : Ev a Q el) : ∀ n, Ev a (All2 Q) (sepS el m n)
  | 0 => fun p p' ok h => ⟨h, fun _ => .nil⟩
  | n + 1 => fun p p' ok h => by
    have h1 := e p p' ok h
    have ok1 := (g p ok).1
    have h2 := sh_may h1.1 ok1 m
    unfold sepS
    rw [h2.1]
    split
    · have h3 := ev_sep g s e n _ _ (may_ok ok1) h2.2
      exact ⟨h3.1, fun q => .cons (h1.2 (st_may (st_sep s n _ q))) (h3.2 q)⟩
    · exact ⟨h1.1, fun q => .cons (h1.2 q) .nil⟩
theorem ev_list (g : Gd el) (s : Stk el) (e : Ev a Q el) : Ev a (All2 Q) (listP el m) := fun p p' ok h => by
  have hl : p'.1.length = p.1.length := by rw [h.l, List.length_map]
  unfold listP
  rw [hl]
  exact ev_sep g s e _ p p' ok h
theorem ev_ins {b c : ByteArray} (g : Gd el) (e : Ev a Q el) : Ev a Q (insS b c el) := fun p p' ok h => by
  have h1 := sh_mark h ok b
  have h2 := e _ _ (mark_ok ok) h1
  exact ⟨sh_mark h2.1 (g _ (mark_ok ok)).1 c, fun q => h2.2 (st_mark q)⟩
theorem ev_none (g : Gd el) (s : Stk el) (e : Ev a Q el) : Ev a (All2 Q) (noneC el) := fun p p' ok h => by
  unfold noneC
  rw [(sh_pk h ok).1]
  split
  · exact ⟨h, fun _ => .nil⟩
  · exact ev_list g s e p p' ok h
theorem ev_num : Ev a (fun x y => y = x) numS := ev_ins (b := lpar) (c := rpar) gd_int ev_int
theorem ev_label : Ev a QL labelC := fun p p' ok h => by
  have h1 := sh_may h ok atS
  unfold labelC
  rw [h1.1]
  split
  · have h2 := ev_list (m := plus) gd_name st_name ev_name _ _ (may_ok ok) h1.2
    exact ⟨h2.1, fun q => all2_nms (h2.2 q)⟩
  · exact ⟨h1.2, fun _ => rfl⟩
theorem ev_coaK : Ev a (fun x y => y = x) coaK := fun p p' ok h => by
  have w1 := sh_word h ok sFloor
  have w2 := sh_word h ok sFirst
  have w3 := sh_word h ok sCount
  unfold coaK
  rw [w1.1, w2.1, w3.1]
  split
  · have h2 := ev_num _ _ (gd_word p sFloor ok).1 w1.2
    exact ⟨h2.1, fun q => by rw [h2.2 q]⟩
  · split
    · have h2 := ev_num _ _ (gd_word p sFirst ok).1 w2.2
      exact ⟨h2.1, fun q => by rw [h2.2 q]⟩
    · split
      · exact ⟨w3.2, fun _ => rfl⟩
      · exact ⟨sh_rst h ok, fun _ => rfl⟩
abbrev QC (x y : Co) : Prop := y.1 = x.1 ∧ y.2.1 = x.2.1 ∧ nms y.2.2.2 = nms x.2.2.2
theorem ev_coa : Ev a QC coaC := fun p p' ok h => by
  have h1 := ev_coaK p p' ok h
  have h2 := ev_label _ _ (gd_coaK p ok).1 h1.1
  refine ⟨h2.1, fun q => ?_⟩
  have e := h1.2 (st_label _ q)
  exact ⟨by show (coaK p').1.1 = (coaK p).1.1; rw [e], by show (coaK p').1.2 = (coaK p).1.2; rw [e], h2.2 q⟩
theorem ev_wide : Ev a (fun x y => y = x) wideC := fun p p' ok h => by
  have h1 := sh_may h ok hash
  unfold wideC
  rw [h1.1]
  split
  · exact ev_int _ _ (may_ok ok) h1.2
  · exact ⟨h1.2, fun _ => rfl⟩
theorem ev_see : Ev a QC seeC := fun p p' ok h => by
  have h1 := sh_may h ok tilde
  unfold seeC
  rw [h1.1]
  split
  · exact ev_coa _ _ (may_ok ok) h1.2
  · exact ⟨h1.2, fun _ => ⟨rfl, rfl, rfl⟩⟩
abbrev QP (x y : PH) : Prop := y.name = x.name ∧ y.bare = x.bare ∧ nms y.label = nms x.label ∧ y.wide = x.wide ∧ y.ck = x.ck ∧ y.cn = x.cn ∧ nms y.cl = nms x.cl
theorem ev_marks {x y : PH} (hx : y.name = x.name ∧ y.bare = x.bare) : ∀ p p', Ok p → Sh a p p' → Sh a (marksC x p).2 (marksC y p').2 ∧ ((marksC x p).2.2.1 = 0 → QP (marksC x p).1 (marksC y p').1) := fun p p' ok h => by
  have h1 := ev_label p p' ok h
  have ok1 := (gd_label p ok).1
  have h2 := ev_wide _ _ ok1 h1.1
  have ok2 := (gd_wide _ ok1).1
  have h3 := ev_see _ _ ok2 h2.1
  refine ⟨h3.1, fun q => ?_⟩
  have q2 := st_see _ q
  have q1 := st_wide _ q2
  exact ⟨hx.1, hx.2, h1.2 q1, h2.2 q2, (h3.2 q).1, (h3.2 q).2.1, (h3.2 q).2.2⟩
abbrev QT (x y : TH × Ft) : Prop := sameS x.1 x.2 y.1 y.2 = true
abbrev QE (x y : Pt) : Prop := QP x.1 y.1 ∧ QT x.2 y.2
theorem ev_field {sub : Sub} (g : Gd sub) (s : Stk sub) (e : Ev a QT sub) : Ev a QE (fieldC sub) := fun p p' ok h => by
  have h1 := ev_name p p' ok h
  have ok1 := (gd_name p ok).1
  have h2 := sh_mark h1.1 ok1 colon
  have ok2 := mark_ok (m := colon) ok1
  have h3 := e _ _ ok2 h2
  have ok3 := (g _ ok2).1
  have key : ∀ (hx : (nP (nameS p').1).name = (nP (nameS p).1).name ∧ (nP (nameS p').1).bare = (nP (nameS p).1).bare), _ := fun hx => ev_marks hx _ _ ok3 h3.1
  have sh4 : Sh a (marksC (nP (nameS p).1) (sub (markS (nameS p).2 colon)).2).2 (marksC (nP (nameS p').1) (sub (markS (nameS p').2 colon)).2).2 := by
    have l := ev_label _ _ ok3 h3.1
    have okl := (gd_label _ ok3).1
    have w := ev_wide _ _ okl l.1
    exact (ev_see _ _ (gd_wide _ okl).1 w.1).1
  refine ⟨sh4, fun q => ?_⟩
  have q3 := st_marks (nP (nameS p).1) _ q
  have q2 := st_mark (s _ q3)
  exact ⟨(key ⟨h1.2 q2, rfl⟩).2 q, h3.2 q3⟩
theorem ev_tag {sub : Sub} (g : Gd sub) (s : Stk sub) (e : Ev a QT sub) : Ev a QE (tagC sub) := fun p p' ok h => by
  have h1 := ev_name p p' ok h
  have ok1 := (gd_name p ok).1
  have h2 := sh_may h1.1 ok1 lpar
  have ok2 := may_ok (m := lpar) ok1
  unfold tagC
  rw [h2.1]
  split
  · have h3 := e _ _ ok2 h2.2
    have ok3 := (g _ ok2).1
    have h4 := sh_mark h3.1 ok3 rpar
    have ok4 := mark_ok (m := rpar) ok3
    have sh4 : Sh a (marksC (nP (nameS p).1) (markS (sub (mayS (nameS p).2 lpar).1).2 rpar)).2 (marksC (nP (nameS p').1) (markS (sub (mayS (nameS p').2 lpar).1).2 rpar)).2 := by
      have l := ev_label _ _ ok4 h4
      have okl := (gd_label _ ok4).1
      have w := ev_wide _ _ okl l.1
      exact (ev_see _ _ (gd_wide _ okl).1 w.1).1
    refine ⟨sh4, fun q => ?_⟩
    have q4 := st_marks (nP (nameS p).1) _ q
    have q3 := st_mark q4
    have q1 := st_may (s _ q3)
    exact ⟨(ev_marks (x := nP (nameS p).1) (y := nP (nameS p').1) ⟨h1.2 q1, rfl⟩ _ _ ok4 h4).2 q, h3.2 q3⟩
  · refine ⟨h2.2, fun q => ⟨⟨h1.2 (st_may q), rfl, rfl, rfl, rfl, rfl, rfl⟩, sameS_refl _ _⟩⟩
theorem ev_kind : Ev a (fun x y => y = x) kindC := fun p p' ok h => by
  unfold kindC
  rw [(sh_word h ok sBool).1, (sh_word h ok sInt).1, (sh_word h ok sText).1, (sh_word h ok sEnum).1, (sh_word h ok sList).1, (sh_word h ok sOpt).1, (sh_word h ok sRecord).1, (sh_word h ok sUnion).1, (sh_word h ok sRef).1]
  repeat' split
  all_goals first | exact ⟨(sh_word h ok _).2, fun _ => rfl⟩ | exact ⟨sh_rst h ok, fun _ => rfl⟩
theorem kind_eq {p p' : PS} (ok : Ok p) (h : Sh a p p') : (kindC p').1 = (kindC p).1 := by
  unfold kindC
  rw [(sh_word h ok sBool).1, (sh_word h ok sInt).1, (sh_word h ok sText).1, (sh_word h ok sEnum).1, (sh_word h ok sList).1, (sh_word h ok sOpt).1, (sh_word h ok sRecord).1, (sh_word h ok sUnion).1, (sh_word h ok sRef).1]
  repeat' split
  all_goals rfl
theorem ev_bounds : Ev a (fun x y => y = x) boundsC := fun p p' ok h => by
  have h1 := ev_int p p' ok h
  have ok1 := (gd_int p ok).1
  have h2 := sh_mark h1.1 ok1 dots
  have h3 := ev_int _ _ (mark_ok ok1) h2
  refine ⟨h3.1, fun q => ?_⟩
  have q1 := st_mark (st_int _ q)
  exact Prod.ext (h1.2 q1) (h3.2 q)
theorem same_only {x y : TH × Ft} (h : QT x y) : sameF (only x) (only y) = true := by
  show ((decide (zPH.name = zPH.name) && plainB zPH zPH && (headB x.1 y.1 && sameF x.2 y.2)) && true) = true
  rw [plainB_refl, show (headB x.1 y.1 && sameF x.2 y.2) = true from h]
  simp
theorem same_ofL {l m : List Pt} (h : All2 QE l m) : sameF (ofL l) (ofL m) = true := by
  induction h with
  | nil => rfl
  | @cons x y l m q _ ih =>
    obtain ⟨⟨e1, e2, e3, e4, e5, e6, e7⟩, e8⟩ := q
    show ((decide (x.1.name = y.1.name) && plainB x.1 y.1 && (headB x.2.1 y.2.1 && sameF x.2.2 y.2.2)) && sameF (ofL l) (ofL m)) = true
    rw [ih, show (headB x.2.1 y.2.1 && sameF x.2.2 y.2.2) = true from e8, e1]
    unfold plainB sameW
    rw [e2, e3, e4, e5, e6, e7]
    simp
theorem ev_listC {sub : Sub} (g : Gd sub) (e : Ev a QT sub) (s : Stk sub) : Ev a (fun x y => sameF x.1 y.1 = true ∧ y.2 = x.2) (listC sub) := fun p p' ok h => by
  have h1 := e p p' ok h
  have ok1 := (g p ok).1
  have h2 := sh_mark h1.1 ok1 comma
  have h3 := ev_int _ _ (mark_ok ok1) h2
  refine ⟨h3.1, fun q => ?_⟩
  have q1 := st_mark (st_int _ q)
  exact ⟨same_only (h1.2 q1), h3.2 q⟩
theorem head_of {h g : TH} (e1 : h.kind = g.kind) (e2 : h.lo = g.lo) (e3 : h.hi = g.hi) (e4 : h.most = g.most) (e5 : h.name = g.name) (e6 : nms h.names = nms g.names) : headB h g = true := by
  unfold headB sameW
  rw [e1, e2, e3, e4, e5, e6]
  simp
theorem ev_cont {sub : Sub} (g : Gd sub) (s : Stk sub) (e : Ev a QT sub) {x y : TH} (hx : headB x y = true ∧ x.kind = y.kind) (k a1 a2 : Int) (hk : x = hKA k a1) (hy : y = hKA k a2) : ∀ p p', Ok p → Sh a p p' → Sh a (contC sub x p).2 (contC sub y p').2 ∧ ((contC sub x p).2.2.1 = 0 → QT (contC sub x p).1 (contC sub y p').1) := fun p p' ok h => by
  subst hk hy
  unfold contC
  simp only [show (hKA k a1).kind = k from rfl, show (hKA k a2).kind = k from rfl]
  repeat' split
  · have h1 := ev_ins (b := lpar) (c := rpar) gd_bounds ev_bounds p p' ok h
    exact ⟨h1.1, fun q => by unfold QT sameS; rw [Bool.and_eq_true]; exact ⟨head_of rfl (by show _ = (insS lpar rpar boundsC p').1.1; rw [h1.2 q]) (by show _ = (insS lpar rpar boundsC p').1.2; rw [h1.2 q]) rfl rfl rfl, rfl⟩⟩
  · have h1 := ev_ins (b := lpar) (c := rpar) gd_int ev_int p p' ok h
    exact ⟨h1.1, fun q => by unfold QT sameS; rw [Bool.and_eq_true]; exact ⟨head_of rfl rfl rfl (h1.2 q).symm rfl rfl, rfl⟩⟩
  · have h1 := ev_ins (b := lpar) (c := rpar) (gd_list gd_name) (ev_list (m := comma) gd_name st_name ev_name) p p' ok h
    exact ⟨h1.1, fun q => by unfold QT sameS; rw [Bool.and_eq_true]; exact ⟨head_of rfl rfl rfl rfl rfl (all2_nms (h1.2 q)).symm, rfl⟩⟩
  · have h1 := ev_ins (b := lpar) (c := rpar) (gd_listC g) (ev_listC g e s) p p' ok h
    exact ⟨h1.1, fun q => by unfold QT sameS; rw [Bool.and_eq_true]; exact ⟨head_of rfl rfl rfl (h1.2 q).2.symm rfl rfl, (h1.2 q).1⟩⟩
  · have h1 := ev_ins (b := lpar) (c := rpar) g e p p' ok h
    exact ⟨h1.1, fun q => by unfold QT sameS; rw [Bool.and_eq_true]; exact ⟨head_of rfl rfl rfl rfl rfl rfl, same_only (h1.2 q)⟩⟩
  · have h1 := ev_ins (b := lbrace) (c := rbrace) (gd_none (gd_field g)) (ev_none (gd_field g) (st_field s) (ev_field g s e)) p p' ok h
    exact ⟨h1.1, fun q => by unfold QT sameS; rw [Bool.and_eq_true]; exact ⟨head_of rfl rfl rfl rfl rfl rfl, same_ofL (h1.2 q)⟩⟩
  · have h1 := ev_ins (b := lbrace) (c := rbrace) (gd_list (m := comma) (gd_tag g)) (ev_list (gd_tag g) (st_tag s) (ev_tag g s e)) p p' ok h
    exact ⟨h1.1, fun q => by unfold QT sameS; rw [Bool.and_eq_true]; exact ⟨head_of rfl rfl rfl rfl rfl rfl, same_ofL (h1.2 q)⟩⟩
  · have h1 := ev_ins (b := lpar) (c := rpar) gd_name ev_name p p' ok h
    exact ⟨h1.1, fun q => by unfold QT sameS; rw [Bool.and_eq_true]; exact ⟨head_of rfl rfl rfl rfl (h1.2 q).symm rfl, rfl⟩⟩
  · exact ⟨h, fun _ => by unfold QT sameS; rw [Bool.and_eq_true]; exact ⟨head_of rfl rfl rfl rfl rfl rfl, rfl⟩⟩
theorem ev_typ : ∀ n, Ev a QT (typC n)
  | 0 => fun p p' ok h => ⟨sh_fail h ok 6, fun q => (st_fail (by decide) q).elim⟩
  | n + 1 => fun p p' ok h => by
    have h1 := ev_kind p p' ok h
    have ok1 := (gd_kind p ok).1
    show Sh a (contC (typC n) (hKA (kindC p).1 (pkS p).2.1) (kindC p).2).2 (contC (typC n) (hKA (kindC p').1 (pkS p').2.1) (kindC p').2).2 ∧ ((contC (typC n) (hKA (kindC p).1 (pkS p).2.1) (kindC p).2).2.2.1 = 0 → QT (contC (typC n) (hKA (kindC p).1 (pkS p).2.1) (kindC p).2).1 (contC (typC n) (hKA (kindC p').1 (pkS p').2.1) (kindC p').2).1)
    rw [kind_eq ok h]
    exact ev_cont (x := hKA (kindC p).1 (pkS p).2.1) (y := hKA (kindC p).1 (pkS p').2.1) (gd_typ n) (st_typ n) (ev_typ n) ⟨head_of rfl rfl rfl rfl rfl rfl, rfl⟩ (kindC p).1 (pkS p).2.1 (pkS p').2.1 rfl rfl _ _ ok1 h1.1
theorem ev_whole {p p' : PS} (ok : Ok p) (h : Sh a p p') : Sh a (wholeC p) (wholeC p') := by
  unfold wholeC
  rw [(sh_pk h ok).1]
  split
  · exact sh_wrong h ok
  · exact h
theorem st_whole {p : PS} (h : (wholeC p).2.1 = 0) : p.2.1 = 0 := by
  unfold wholeC at h
  split at h
  · exact (st_wrong h).elim
  · exact h
theorem cont_at (sub : Sub) (h : TH) (p : PS) : (contC sub h p).1.1.at_ = h.at_ := by
  unfold contC
  repeat' split
  all_goals rfl
end
end Go.Proofs.YthelhplcijhioaaGreat.Syn

/- The plain mathematics of layer 16: a remark's line ahead; the chapter's example; how long the lists are. No Go here. -/
set_option maxRecDepth 100000
set_option linter.unusedVariables false
namespace Go.Proofs.YthelhplcijhioaaGreat.Syn
open Go.Lib Go.Proofs.YthelhplcijhioaaGreat.Utf Go.Proofs.YthelhplcijhioaaGreat.Tok Go.Proofs.YthelhplcijhioaaGreat.Cur Go.Proofs.YthelhplcijhioaaGreat.Lat Go.Proofs.YthelhplcijhioaaGreat.Kin Go.Proofs.YthelhplcijhioaaGreat.Saf

/-- What Type hands back for these tokens; for a text. -/
def typeP (l : List Tk) : (TH × Ft) × Int × Int := if (wholeC (typC 24 (l, 0, 0)).2).2.1 ≠ 0 then ((zTH, .nil), (wholeC (typC 24 (l, 0, 0)).2).2) else ((typC 24 (l, 0, 0)).1, 0, 0)
def typeS (s : ByteArray) : (TH × Ft) × Int × Int := match (scnS s).1 with
  | some l => typeP l
  | none => ((zTH, .nil), (scnS s).2)
theorem typeS_bad {s : ByteArray} {e z : Int} (h : scnS s = (none, e, z)) : typeS s = ((zTH, .nil), e, z) := by
  unfold typeS
  rw [h]
theorem typeS_ok {s : ByteArray} {l : List Tk} {e : Int × Int} (h : scnS s = (some l, e)) : typeS s = typeP l := by
  unfold typeS
  rw [h]
def exL : List Tk := [(1, 0, 3, ⟨#[105, 110, 116]⟩, 0), (4, 3, 4, ⟨#[40]⟩, 0), (2, 4, 5, ByteArray.empty, 0), (4, 5, 7, ⟨#[46, 46]⟩, 0), (2, 7, 8, ByteArray.empty, 9), (4, 8, 9, ⟨#[41]⟩, 0), (0, 9, 9, ByteArray.empty, 0)]
theorem ex_lives : scnS ⟨#[105, 110, 116, 40, 48, 46, 46, 57, 41]⟩ = (some exL, 0, 0) := by kernel_rfl
theorem ex_type : typeP exL = ((⟨2, 0, 0, 9, 0, [], ByteArray.empty, 0⟩, .nil), 0, 0) := by kernel_rfl
theorem ex_all : typeS ⟨#[105, 110, 116, 40, 48, 46, 46, 57, 41]⟩ = ((⟨2, 0, 0, 9, 0, [], ByteArray.empty, 0⟩, .nil), 0, 0) := (typeS_ok ex_lives).trans ex_type
/-! ### A remark's line ahead -/
abbrev preS : ByteArray := ⟨#[59, 32, 34, 123, 10]⟩
theorem scn_rem {s : ByteArray} {i c : Nat} {b : Bool} (hi : i < s.size) (hc : byN s i = c) (h1 : inB c b = true) (h2 : c < 128) (h3 : Ran.kindS (c : Int) = 0) : scnI s i b = scnI s (i + 1) true := by
  have hd := ascii_dec hi (by rw [hc]; exact h2)
  rw [scn_step b hi, hc, h1, if_neg (by decide), hd]
  simp only
  rw [hc, if_neg (by decide), if_neg (by rw [h3]; simp)]
  rfl
theorem scn_pre (s : ByteArray) : scnI (preS ++ s) 0 false = mvS 5 (scnI s 0 false) := by
  have hz : (preS ++ s).size = s.size + 5 := by rw [ByteArray.size_append]; show 5 + s.size = _; omega
  have hb : ∀ i, i < 5 → byN (preS ++ s) i = byN preS i := fun i h => by rw [byN_append_left (by exact h)]
  have he : (preS ++ s).extract 5 (preS ++ s).size = s := by
    refine bl_ext ?_
    rw [bl_from, bl_append]
    rfl
  rw [scn_rem (c := 59) (by omega) ((hb 0 (by decide)).trans rfl) rfl (by decide) (by kernel_rfl), scn_rem (c := 32) (by omega) ((hb 1 (by decide)).trans rfl) rfl (by decide) (by kernel_rfl), scn_rem (c := 34) (by omega) ((hb 2 (by decide)).trans rfl) rfl (by decide) (by kernel_rfl),
    scn_rem (c := 123) (by omega) ((hb 3 (by decide)).trans rfl) rfl (by decide) (by kernel_rfl), scn_step true (by omega), (hb 4 (by decide)).trans (show byN preS 4 = 10 from rfl), if_pos (by decide), if_pos (by decide)]
  have := scn_tail (s := preS ++ s) (a := 5) (by omega) _ 0 false (Nat.le_refl _) (by omega)
  rw [he] at this
  exact this
theorem toks_bd {s : ByteArray} : ∀ (l : List Tk) (a : Nat), a ≤ s.size → scnI s a false = (some l, 0, 0) → ∀ t ∈ l, 0 ≤ t.2.1 ∧ t.2.1 ≤ s.size
  | [], a, ha, h => fun t ht => by cases ht
  | t :: l, a, ha, h => fun u hu => by
    obtain ⟨x, y, e1, e2, e3, e4, h5, e6, h7⟩ := cov_next ha h
    rcases List.mem_cons.1 hu with rfl | q
    · exact ⟨by omega, by omega⟩
    · rcases h7 with ⟨h0, rfl, -⟩ | ⟨h0, -, hne, -, hn⟩
      · cases q
      · exact toks_bd l y h5 hn u q
theorem blanks {s : ByteArray} (hs : s.size ≤ 4000) : (typeS (preS ++ s)).2.1 = (typeS s).2.1 ∧
    ((typeS s).2.1 = 0 → sameS (typeS s).1.1 (typeS s).1.2 (typeS (preS ++ s)).1.1 (typeS (preS ++ s)).1.2 = true ∧ (typeS (preS ++ s)).1.1.at_ = (typeS s).1.1.at_ + 5 ∧ 0 ≤ (typeS s).1.1.at_ ∧ (typeS s).1.1.at_ ≤ 1000000) ∧
    ((typeS s).2.1 ≠ 0 → (typeS (preS ++ s)).2.2 = (typeS s).2.2 + 5 ∧ 0 ≤ (typeS s).2.2 ∧ (typeS s).2.2 ≤ 1000000) := by
  have hz : (preS ++ s).size = s.size + 5 := by rw [ByteArray.size_append]; show 5 + s.size = _; omega
  have e1 : scnS s = scnI s 0 false := by unfold scnS; rw [if_neg (by omega)]
  have e2 : scnS (preS ++ s) = mvS 5 (scnI s 0 false) := by unfold scnS; rw [if_neg (by omega), scn_pre]
  rcases h : scnI s 0 false with ⟨o, e, z⟩
  rw [h] at e1 e2
  cases o with
  | none =>
    have e2' : scnS (preS ++ s) = (none, e, z + 5) := e2
    have hb := scn_fault s.size 0 false e z (by omega) (Nat.zero_le _) h
    rw [typeS_bad e1, typeS_bad e2']
    exact ⟨rfl, fun q => by have : e = 0 := q; omega, fun _ => ⟨rfl, by show 0 ≤ z; omega, by show z ≤ 1000000; omega⟩⟩
  | some l =>
    have hn := (scn_ne (Nat.zero_le _) h).2
    rw [hn] at e1 e2 h
    have e2' : scnS (preS ++ s) = (some (l.map (mvT 5)), 0, 0) := e2
    have ok : Ok (l, 0, 0) := endL_scn l 0 (Nat.zero_le _) h
    have tb := toks_bd l 0 (Nat.zero_le _) h
    have sh : Sh 5 (l, 0, 0) (l.map (mvT 5), 0, 0) := ⟨rfl, rfl, fun q => absurd rfl q, fun t ht => by have := tb t ht; omega, fun q => absurd rfl q⟩
    have ev := ev_typ 24 _ _ ok sh
    have okt := (gd_typ 24 _ ok).1
    have ew := ev_whole okt ev.1
    rw [typeS_ok e1, typeS_ok e2']
    have at1 : (typC 24 (l, 0, 0)).1.1.at_ = (Cur.hdT l).2.1 := cont_at _ _ _
    have at2 : (typC 24 (l.map (mvT 5), 0, 0)).1.1.at_ = (Cur.hdT (l.map (mvT 5))).2.1 := cont_at _ _ _
    have hd : Cur.hdT (l.map (mvT 5)) = mvT 5 (Cur.hdT l) := sh_hd sh ok
    have hb := sh_bd sh ok
    unfold typeP
    rw [ew.e]
    by_cases c : (wholeC (typC 24 (l, 0, 0)).2).2.1 ≠ 0
    · rw [if_pos c, if_pos c]
      exact ⟨ew.e, fun q => absurd q c, fun _ => ⟨ew.z c, ew.f c⟩⟩
    · rw [if_neg c, if_neg c]
      have c0 : (wholeC (typC 24 (l, 0, 0)).2).2.1 = 0 := by simpa using c
      refine ⟨rfl, fun _ => ⟨ev.2 (st_whole c0), ?_, ?_⟩, fun q => absurd rfl q⟩
      · show (typC 24 (l.map (mvT 5), 0, 0)).1.1.at_ = (typC 24 (l, 0, 0)).1.1.at_ + 5
        rw [at1, at2, hd]
        rfl
      · show 0 ≤ (typC 24 (l, 0, 0)).1.1.at_ ∧ (typC 24 (l, 0, 0)).1.1.at_ ≤ 1000000
        rw [at1]
        exact hb
/-! ### How long the lists are -/
def LenH (h : TH) : Prop := h.names.length ≤ maxLen
def LenL (p : PH) : Prop := p.label.length ≤ maxLen ∧ p.cl.length ≤ maxLen
def LenT (x : TH × Ft) : Prop := LenH x.1 ∧ x.2.len ≤ maxLen ∧ x.2.All LenH LenL
def LenE (x : Pt) : Prop := LenL x.1 ∧ LenT x.2
/-- What is made of so few tokens is so. -/
def Ln {α : Type} (P : α → Prop) (el : PS → α × PS) : Prop := ∀ p, Ok p → p.1.length ≤ 1000000 → P (el p).1
theorem ln_sep {α : Type} {P : α → Prop} {el : PS → α × PS} {m : ByteArray} (g : Gd el) (h : Ln P el) : ∀ n p, Ok p → p.1.length ≤ 1000000 → ∀ x ∈ (sepS el m n p).1, P x
  | 0, p, ok, hl => fun x hx => by cases hx
  | n + 1, p, ok, hl => fun x hx => by
    unfold sepS at hx
    have g1 := g p ok
    split at hx
    · rcases List.mem_cons.1 hx with rfl | q
      · exact h p ok hl
      · exact ln_sep g h n _ (may_ok g1.1) (by have := may_len (el p).2 m; omega) x q
    · rw [List.mem_singleton.1 hx]
      exact h p ok hl
theorem ln_list {α : Type} {P : α → Prop} {el : PS → α × PS} {m : ByteArray} (g : Gd el) (h : Ln P el) : Ln (fun l => l.length ≤ maxLen ∧ ∀ x ∈ l, P x) (listP el m) := fun p ok hl =>
  ⟨by have := sep_n (el := el) (m := m) (p.1.length + 1) p; unfold listP maxLen; omega, ln_sep g h _ p ok hl⟩
theorem ln_true {α : Type} {el : PS → α × PS} : Ln (fun _ => True) el := fun _ _ _ => trivial
theorem ln_label : Ln (fun l => l.length ≤ maxLen) labelC := fun p ok hl => by
  unfold labelC
  split
  · exact (ln_list gd_name ln_true _ (may_ok ok) (by have := may_len p atS; omega)).1
  · exact Nat.zero_le _
theorem ln_see : Ln (fun c => c.2.2.2.length ≤ maxLen) seeC := fun p ok hl => by
  unfold seeC
  split
  · have g := gd_coaK _ (may_ok (m := tilde) ok)
    exact ln_label _ g.1 (by have := may_len p tilde; omega)
  · exact Nat.zero_le _
theorem ln_marks (x : PH) : Ln LenL (marksC x) := fun p ok hl => by
  have g1 := gd_label p ok
  have g2 := gd_wide _ g1.1
  exact ⟨ln_label p ok hl, ln_see _ g2.1 (by omega)⟩
theorem ln_field {sub : Sub} (g : Gd sub) (h : Ln LenT sub) : Ln LenE (fieldC sub) := fun p ok hl => by
  have g1 := gd_name p ok
  have g2 := gd_mark _ colon g1.1
  have g3 := g _ g2.1
  exact ⟨ln_marks _ _ g3.1 (by omega), h _ g2.1 (by omega)⟩
theorem ln_tag {sub : Sub} (g : Gd sub) (h : Ln LenT sub) : Ln LenE (tagC sub) := fun p ok hl => by
  have g1 := gd_name p ok
  have g2 := gd_may _ lpar g1.1
  unfold tagC
  split
  · have g3 := g _ g2.1
    have g4 := gd_mark _ rpar g3.1
    exact ⟨ln_marks _ _ g4.1 (by omega), h _ g2.1 (by omega)⟩
  · exact ⟨⟨Nat.zero_le _, Nat.zero_le _⟩, Nat.zero_le _, Nat.zero_le _, trivial⟩
theorem len_ofL : ∀ l : List Pt, (∀ x ∈ l, LenE x) → (ofL l).All LenH LenL
  | [], _ => trivial
  | x :: l, h => ⟨(h x List.mem_cons_self).1, (h x List.mem_cons_self).2.1, (h x List.mem_cons_self).2.2.1, (h x List.mem_cons_self).2.2.2, len_ofL l fun y hy => h y (List.mem_cons_of_mem _ hy)⟩
theorem len_only {x : TH × Ft} (h : LenT x) : (only x).len ≤ maxLen ∧ (only x).All LenH LenL := ⟨by show 0 + 1 ≤ maxLen; unfold maxLen; omega, ⟨Nat.zero_le _, Nat.zero_le _⟩, h.1, h.2.1, h.2.2, trivial⟩
theorem ln_parts {l : List Pt} (h : l.length ≤ maxLen ∧ ∀ x ∈ l, LenE x) : (ofL l).len ≤ maxLen ∧ (ofL l).All LenH LenL := ⟨by rw [ofL_len]; exact h.1, len_ofL l h.2⟩
theorem ln_none {α : Type} {P : α → Prop} {el : PS → α × PS} (g : Gd el) (h : Ln P el) : Ln (fun l => l.length ≤ maxLen ∧ ∀ x ∈ l, P x) (noneC el) := fun p ok hl => by
  unfold noneC
  split
  · exact ⟨Nat.zero_le _, fun x hx => by cases hx⟩
  · exact ln_list g h p ok hl
theorem ln_cont {sub : Sub} (g : Gd sub) (h : Ln LenT sub) (x : TH) (hx : LenH x) : Ln LenT (contC sub x) := fun p ok hl => by
  have g1 := fun m => gd_mark p m ok
  unfold contC
  repeat' split
  · exact ⟨hx, Nat.zero_le _, trivial⟩
  · exact ⟨hx, Nat.zero_le _, trivial⟩
  · exact ⟨(ln_list gd_name ln_true _ (g1 lpar).1 (by have := (g1 lpar).2; omega)).1, Nat.zero_le _, trivial⟩
  · exact ⟨hx, len_only (h _ (g1 lpar).1 (by have := (g1 lpar).2; omega))⟩
  · exact ⟨hx, len_only (h _ (g1 lpar).1 (by have := (g1 lpar).2; omega))⟩
  · exact ⟨hx, ln_parts (ln_none (gd_field g) (ln_field g h) _ (g1 lbrace).1 (by have := (g1 lbrace).2; omega))⟩
  · exact ⟨hx, ln_parts (ln_list (gd_tag g) (ln_tag g h) _ (g1 lbrace).1 (by have := (g1 lbrace).2; omega))⟩
  · exact ⟨hx, Nat.zero_le _, trivial⟩
  · exact ⟨hx, Nat.zero_le _, trivial⟩
theorem ln_typ : ∀ n, Ln LenT (typC n)
  | 0 => fun p ok hl => ⟨Nat.zero_le _, Nat.zero_le _, trivial⟩
  | n + 1 => fun p ok hl => by
    have g := gd_kind p ok
    exact ln_cont (gd_typ n) (ln_typ n) _ (Nat.zero_le _) _ g.1 (by omega)
theorem scnS_len {s : ByteArray} {l : List Tk} {e : Int × Int} (h : scnS s = (some l, e)) : l.length ≤ 1000000 := by
  unfold scnS at h
  by_cases c : 65536 < s.size
  · rw [if_pos c] at h
    cases h
  · rw [if_neg c] at h
    have := scn_len s.size 0 false l e (by omega) (Nat.zero_le _) h
    omega
theorem scnS_ok {s : ByteArray} {l : List Tk} {e : Int × Int} (h : scnS s = (some l, e)) : Ok (l, 0, 0) := by
  unfold scnS at h
  by_cases c : 65536 < s.size
  · rw [if_pos c] at h
    cases h
  · rw [if_neg c] at h
    have hn := (scn_ne (Nat.zero_le _) h).2
    rw [hn] at h
    exact endL_scn l 0 (Nat.zero_le _) h
theorem len_typeP {l : List Tk} (ok : Ok (l, 0, 0)) (hl : l.length ≤ 1000000) : LenT (typeP l).1 := by
  unfold typeP
  split
  · exact ⟨Nat.zero_le _, Nat.zero_le _, trivial⟩
  · exact ln_typ 24 _ ok hl
theorem len_typeS (s : ByteArray) : LenT (typeS s).1 := by
  rcases h : scnS s with ⟨o, e⟩
  cases o with
  | none =>
    rw [typeS_bad (e := e.1) (z := e.2) h]
    exact ⟨Nat.zero_le _, Nat.zero_le _, trivial⟩
  | some l =>
    rw [typeS_ok h]
    exact len_typeP (scnS_ok h) (scnS_len h)
end Go.Proofs.YthelhplcijhioaaGreat.Syn
