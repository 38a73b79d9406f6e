import Derived.Test.YtncijmodlhijoaaGreatQ27
import Derived.Test.YtncijmodlhijoaaGreatQ6
import Derived.Test.YtncijmodlhijoaaGreatQ14
set_option linter.unusedVariables false
set_option maxRecDepth 100000
set_option maxHeartbeats 4000000
namespace Go.Proofs.YtncijmodlhijoaaGreat.Syn
open Go.Lib Utf Tok Cur Lat Kin Saf
def typeP (l : List Tk) : (TH × Ft) × Int × Int := if (wholeC (typC 24 (l, 0, 0)).2).2.1 ≠ 0 then ((zTH, .nil), (wholeC (typC 24 (l, 0, 0)).2).2) else ((typC 24 (l, 0, 0)).1, 0, 0)
def typeS (s : ByteArray) : (TH × Ft) × Int × Int := match (scnS s).1 with
 | some l => typeP l
 | none => ((zTH, .nil), (scnS s).2)
theorem typeS_bad {s : ByteArray} {e z : Int} (h : scnS s = (none, e, z)) : typeS s = ((zTH, .nil), e, z) := by
 unfold typeS
 rw [h]
theorem typeS_ok {s : ByteArray} {l : List Tk} {e : Int × Int} (h : scnS s = (some l, e)) : typeS s = typeP l := by
 unfold typeS
 rw [h]
def exL : List Tk := [(1, 0, 3, ⟨#[105, 110, 116]⟩, 0), (4, 3, 4, ⟨#[40]⟩, 0), (2, 4, 5, ByteArray.empty, 0), (4, 5, 7, ⟨#[46, 46]⟩, 0), (2, 7, 8, ByteArray.empty, 9), (4, 8, 9, ⟨#[41]⟩, 0), (0, 9, 9, ByteArray.empty, 0)]
theorem ex_lives : scnS ⟨#[105, 110, 116, 40, 48, 46, 46, 57, 41]⟩ = (some exL, 0, 0) := by kernel_rfl
theorem ex_type : typeP exL = ((⟨2, 0, 0, 9, 0, [], ByteArray.empty, 0⟩, .nil), 0, 0) := by kernel_rfl
theorem ex_all : typeS ⟨#[105, 110, 116, 40, 48, 46, 46, 57, 41]⟩ = ((⟨2, 0, 0, 9, 0, [], ByteArray.empty, 0⟩, .nil), 0, 0) := (typeS_ok ex_lives).trans ex_type
abbrev preS : ByteArray := ⟨#[59, 32, 34, 123, 10]⟩
theorem scn_rem {s : ByteArray} {i c : Nat} {b : Bool} (hi : i < s.size) (hc : byN s i = c) (h1 : inB c b = true) (h2 : c < 128) (h3 : Ran.kindS (c : Int) = 0) : scnI s i b = scnI s (i + 1) true := by
 have hd := ascii_dec hi (by rw [hc]; exact h2)
 rw [scn_step b hi, hc, h1, if_neg (by decide), hd]
 simp only
 rw [hc, if_neg (by decide), if_neg (by rw [h3]; simp)]
 rfl
theorem scn_pre (s : ByteArray) : scnI (preS ++ s) 0 false = mvS 5 (scnI s 0 false) := by
 have hz : (preS ++ s).size = s.size + 5 := by rw [ByteArray.size_append]; show 5 + s.size = _; omega
 have hb : ∀ i, i < 5 → byN (preS ++ s) i = byN preS i := fun i h => by rw [byN_append_left (by exact h)]
 have he : (preS ++ s).extract 5 (preS ++ s).size = s := by
  refine bl_ext ?_
  rw [bl_from, bl_append]
  rfl
 rw [scn_rem (c := 59) (by omega) ((hb 0 (by decide)).trans rfl) rfl (by decide) (by kernel_rfl), scn_rem (c := 32) (by omega) ((hb 1 (by decide)).trans rfl) rfl (by decide) (by kernel_rfl), scn_rem (c := 34) (by omega) ((hb 2 (by decide)).trans rfl) rfl (by decide) (by kernel_rfl),
  scn_rem (c := 123) (by omega) ((hb 3 (by decide)).trans rfl) rfl (by decide) (by kernel_rfl), scn_step true (by omega), (hb 4 (by decide)).trans (show byN preS 4 = 10 from rfl), if_pos (by decide), if_pos (by decide)]
 have := scn_tail (s := preS ++ s) (a := 5) (by omega) _ 0 false (Nat.le_refl _) (by omega)
 rw [he] at this
 exact this
theorem toks_bd {s : ByteArray} : ∀ (l : List Tk) (a : Nat), a ≤ s.size → scnI s a false = (some l, 0, 0) → ∀ t ∈ l, 0 ≤ t.2.1 ∧ t.2.1 ≤ s.size
 | [], a, ha, h => fun t ht => by cases ht
 | t :: l, a, ha, h => fun u hu => by
  obtain ⟨x, y, e1, e2, e3, e4, h5, e6, h7⟩ := cov_next ha h
  rcases List.mem_cons.1 hu with rfl | q
  ·exact ⟨by omega, by omega⟩
  ·rcases h7 with ⟨h0, rfl, -⟩ | ⟨h0, -, hne, -, hn⟩
   ·cases q
   ·exact toks_bd l y h5 hn u q
theorem blanks {s : ByteArray} (hs : s.size ≤ 4000) : (typeS (preS ++ s)).2.1 = (typeS s).2.1 ∧
  ((typeS s).2.1 = 0 → sameS (typeS s).1.1 (typeS s).1.2 (typeS (preS ++ s)).1.1 (typeS (preS ++ s)).1.2 = true ∧ (typeS (preS ++ s)).1.1.at_ = (typeS s).1.1.at_ + 5 ∧ 0 ≤ (typeS s).1.1.at_ ∧ (typeS s).1.1.at_ ≤ 1000000) ∧
  ((typeS s).2.1 ≠ 0 → (typeS (preS ++ s)).2.2 = (typeS s).2.2 + 5 ∧ 0 ≤ (typeS s).2.2 ∧ (typeS s).2.2 ≤ 1000000) := by
 have hz : (preS ++ s).size = s.size + 5 := by rw [ByteArray.size_append]; show 5 + s.size = _; omega
 have e1 : scnS s = scnI s 0 false := by unfold scnS; rw [if_neg (by omega)]
 have e2 : scnS (preS ++ s) = mvS 5 (scnI s 0 false) := by unfold scnS; rw [if_neg (by omega), scn_pre]
 rcases h : scnI s 0 false with ⟨o, e, z⟩
 rw [h] at e1 e2
 cases o with
 | none =>
  have e2' : scnS (preS ++ s) = (none, e, z + 5) := e2
  have hb := scn_fault s.size 0 false e z (by omega) (Nat.zero_le _) h
  rw [typeS_bad e1, typeS_bad e2']
  exact ⟨rfl, fun q => by have : e = 0 := q; omega, fun _ => ⟨rfl, by show 0 ≤ z; omega, by show z ≤ 1000000; omega⟩⟩
 | some l =>
  have hn := (scn_ne (Nat.zero_le _) h).2
  rw [hn] at e1 e2 h
  have e2' : scnS (preS ++ s) = (some (l.map (mvT 5)), 0, 0) := e2
  have ok : Ok (l, 0, 0) := endL_scn l 0 (Nat.zero_le _) h
  have tb := toks_bd l 0 (Nat.zero_le _) h
  have sh : Sh 5 (l, 0, 0) (l.map (mvT 5), 0, 0) := ⟨rfl, rfl, fun q => absurd rfl q, fun t ht => by have := tb t ht; omega, fun q => absurd rfl q⟩
  have ev := ev_typ 24 _ _ ok sh
  have okt := (gd_typ 24 _ ok).1
  have ew := ev_whole okt ev.1
  rw [typeS_ok e1, typeS_ok e2']
  have at1 : (typC 24 (l, 0, 0)).1.1.at_ = (Cur.hdT l).2.1 := cont_at _ _ _
  have at2 : (typC 24 (l.map (mvT 5), 0, 0)).1.1.at_ = (Cur.hdT (l.map (mvT 5))).2.1 := cont_at _ _ _
  have hd : Cur.hdT (l.map (mvT 5)) = mvT 5 (Cur.hdT l) := sh_hd sh ok
  have hb := sh_bd sh ok
  unfold typeP
  rw [ew.e]
  by_cases c : (wholeC (typC 24 (l, 0, 0)).2).2.1 ≠ 0
  ·rw [if_pos c, if_pos c]
   exact ⟨ew.e, fun q => absurd q c, fun _ => ⟨ew.z c, ew.f c⟩⟩
  ·rw [if_neg c, if_neg c]
   have c0 : (wholeC (typC 24 (l, 0, 0)).2).2.1 = 0 := by simpa using c
   refine ⟨rfl, fun _ => ⟨ev.2 (st_whole c0), ?_, ?_⟩, fun q => absurd rfl q⟩
   ·show (typC 24 (l.map (mvT 5), 0, 0)).1.1.at_ = (typC 24 (l, 0, 0)).1.1.at_ + 5
    rw [at1, at2, hd]
    rfl
   ·show 0 ≤ (typC 24 (l, 0, 0)).1.1.at_ ∧ (typC 24 (l, 0, 0)).1.1.at_ ≤ 1000000
    rw [at1]
    exact hb
def LenH (h : TH) : Prop := h.names.length ≤ maxLen
def LenL (p : PH) : Prop := p.label.length ≤ maxLen ∧ p.cl.length ≤ maxLen
def LenT (x : TH × Ft) : Prop := LenH x.1 ∧ x.2.len ≤ maxLen ∧ x.2.All LenH LenL
def LenE (x : Pt) : Prop := LenL x.1 ∧ LenT x.2
def Ln {α : Type} (P : α → Prop) (el : PS → α × PS) : Prop := ∀ p, Ok p → p.1.length ≤ 1000000 → P (el p).1
theorem ln_sep {α : Type} {P : α → Prop} {el : PS → α × PS} {m : ByteArray} (g : Gd el) (h : Ln P el) : ∀ n p, Ok p → p.1.length ≤ 1000000 → ∀ x ∈ (sepS el m n p).1, P x
 | 0, p, ok, hl => fun x hx => by cases hx
 | n + 1, p, ok, hl => fun x hx => by
  unfold sepS at hx
  have g1 := g p ok
  split at hx
  ·rcases List.mem_cons.1 hx with rfl | q
   ·exact h p ok hl
   ·exact ln_sep g h n _ (may_ok g1.1) (by have := may_len (el p).2 m; omega) x q
  ·rw [List.mem_singleton.1 hx]
   exact h p ok hl
theorem ln_list {α : Type} {P : α → Prop} {el : PS → α × PS} {m : ByteArray} (g : Gd el) (h : Ln P el) : Ln (fun l => l.length ≤ maxLen ∧ ∀ x ∈ l, P x) (listP el m) := fun p ok hl =>
 ⟨by have := sep_n (el := el) (m := m) (p.1.length + 1) p; unfold listP maxLen; omega, ln_sep g h _ p ok hl⟩
theorem ln_true {α : Type} {el : PS → α × PS} : Ln (fun _ => True) el := fun _ _ _ => trivial
theorem ln_label : Ln (fun l => l.length ≤ maxLen) labelC := fun p ok hl => by
 unfold labelC
 split
 ·exact (ln_list gd_name ln_true _ (may_ok ok) (by have := may_len p atS; omega)).1
 ·exact Nat.zero_le _
theorem ln_see : Ln (fun c => c.2.2.2.length ≤ maxLen) seeC := fun p ok hl => by
 unfold seeC
 split
 ·have g := gd_coaK _ (may_ok (m := tilde) ok)
  exact ln_label _ g.1 (by have := may_len p tilde; omega)
 ·exact Nat.zero_le _
theorem ln_marks (x : PH) : Ln LenL (marksC x) := fun p ok hl => by
 have g1 := gd_label p ok
 have g2 := gd_wide _ g1.1
 exact ⟨ln_label p ok hl, ln_see _ g2.1 (by omega)⟩
theorem ln_field {sub : Sub} (g : Gd sub) (h : Ln LenT sub) : Ln LenE (fieldC sub) := fun p ok hl => by
 have g1 := gd_name p ok
 have g2 := gd_mark _ colon g1.1
 have g3 := g _ g2.1
 exact ⟨ln_marks _ _ g3.1 (by omega), h _ g2.1 (by omega)⟩
theorem ln_tag {sub : Sub} (g : Gd sub) (h : Ln LenT sub) : Ln LenE (tagC sub) := fun p ok hl => by
 have g1 := gd_name p ok
 have g2 := gd_may _ lpar g1.1
 unfold tagC
 split
 ·have g3 := g _ g2.1
  have g4 := gd_mark _ rpar g3.1
  exact ⟨ln_marks _ _ g4.1 (by omega), h _ g2.1 (by omega)⟩
 ·exact ⟨⟨Nat.zero_le _, Nat.zero_le _⟩, Nat.zero_le _, Nat.zero_le _, trivial⟩
theorem len_ofL : ∀ l : List Pt, (∀ x ∈ l, LenE x) → (ofL l).All LenH LenL
 | [], _ => trivial
 | x :: l, h => ⟨(h x List.mem_cons_self).1, (h x List.mem_cons_self).2.1, (h x List.mem_cons_self).2.2.1, (h x List.mem_cons_self).2.2.2, len_ofL l fun y hy => h y (List.mem_cons_of_mem _ hy)⟩
theorem len_only {x : TH × Ft} (h : LenT x) : (only x).len ≤ maxLen ∧ (only x).All LenH LenL := ⟨by show 0 + 1 ≤ maxLen; unfold maxLen; omega, ⟨Nat.zero_le _, Nat.zero_le _⟩, h.1, h.2.1, h.2.2, trivial⟩
theorem ln_parts {l : List Pt} (h : l.length ≤ maxLen ∧ ∀ x ∈ l, LenE x) : (ofL l).len ≤ maxLen ∧ (ofL l).All LenH LenL := ⟨by rw [ofL_len]; exact h.1, len_ofL l h.2⟩
theorem ln_none {α : Type} {P : α → Prop} {el : PS → α × PS} (g : Gd el) (h : Ln P el) : Ln (fun l => l.length ≤ maxLen ∧ ∀ x ∈ l, P x) (noneC el) := fun p ok hl => by
 unfold noneC
 split
 ·exact ⟨Nat.zero_le _, fun x hx => by cases hx⟩
 ·exact ln_list g h p ok hl
theorem ln_cont {sub : Sub} (g : Gd sub) (h : Ln LenT sub) (x : TH) (hx : LenH x) : Ln LenT (contC sub x) := fun p ok hl => by
 have g1 := fun m => gd_mark p m ok
 unfold contC
 repeat' split
 ·exact ⟨hx, Nat.zero_le _, trivial⟩
 ·exact ⟨hx, Nat.zero_le _, trivial⟩
 ·exact ⟨(ln_list gd_name ln_true _ (g1 lpar).1 (by have := (g1 lpar).2; omega)).1, Nat.zero_le _, trivial⟩
 ·exact ⟨hx, len_only (h _ (g1 lpar).1 (by have := (g1 lpar).2; omega))⟩
 ·exact ⟨hx, len_only (h _ (g1 lpar).1 (by have := (g1 lpar).2; omega))⟩
 ·exact ⟨hx, ln_parts (ln_none (gd_field g) (ln_field g h) _ (g1 lbrace).1 (by have := (g1 lbrace).2; omega))⟩
 ·exact ⟨hx, ln_parts (ln_list (gd_tag g) (ln_tag g h) _ (g1 lbrace).1 (by have := (g1 lbrace).2; omega))⟩
 ·exact ⟨hx, Nat.zero_le _, trivial⟩
 ·exact ⟨hx, Nat.zero_le _, trivial⟩
theorem ln_typ : ∀ n, Ln LenT (typC n)
 | 0 => fun p ok hl => ⟨Nat.zero_le _, Nat.zero_le _, trivial⟩
 | n + 1 => fun p ok hl => by
  have g := gd_kind p ok
  exact ln_cont (gd_typ n) (ln_typ n) _ (Nat.zero_le _) _ g.1 (by omega)
theorem scnS_len {s : ByteArray} {l : List Tk} {e : Int × Int} (h : scnS s = (some l, e)) : l.length ≤ 1000000 := by
 unfold scnS at h
 by_cases c : 65536 < s.size
 ·rw [if_pos c] at h
  cases h
 ·rw [if_neg c] at h
  have := scn_len s.size 0 false l e (by omega) (Nat.zero_le _) h
  omega
theorem scnS_ok {s : ByteArray} {l : List Tk} {e : Int × Int} (h : scnS s = (some l, e)) : Ok (l, 0, 0) := by
 unfold scnS at h
 by_cases c : 65536 < s.size
 ·rw [if_pos c] at h
  cases h
 ·rw [if_neg c] at h
  have hn := (scn_ne (Nat.zero_le _) h).2
  rw [hn] at h
  exact endL_scn l 0 (Nat.zero_le _) h
theorem len_typeP {l : List Tk} (ok : Ok (l, 0, 0)) (hl : l.length ≤ 1000000) : LenT (typeP l).1 := by
 unfold typeP
 split
 ·exact ⟨Nat.zero_le _, Nat.zero_le _, trivial⟩
 ·exact ln_typ 24 _ ok hl
theorem len_typeS (s : ByteArray) : LenT (typeS s).1 := by
 rcases h : scnS s with ⟨o, e⟩
 cases o with
 | none =>
  rw [typeS_bad (e := e.1) (z := e.2) h]
  exact ⟨Nat.zero_le _, Nat.zero_le _, trivial⟩
 | some l =>
  rw [typeS_ok h]
  exact len_typeP (scnS_ok h) (scnS_len h)
end Go.Proofs.YtncijmodlhijoaaGreat.Syn
namespace Go.Proofs.YtncijmodlhijoaaGreat.Syn
open Go.Lib Utf Tok Cur Lat Kin
def Fl {α : Type} (el : PS → α × PS) : Prop := ∀ p, p.2.1 ≠ 0 → (el p).2.2 = p.2
theorem fl_wrong {p : PS} (h : p.2.1 ≠ 0) : wrongS p = p := if_pos h
theorem fl_fail {p : PS} (e : Int) (h : p.2.1 ≠ 0) : failP p e = p := if_pos h
theorem fl_mark {p : PS} (m : ByteArray) (h : p.2.1 ≠ 0) : markS p m = p := if_pos h
theorem fl_may {p : PS} (m : ByteArray) (h : p.2.1 ≠ 0) : mayS p m = (p, false) := if_neg fun q => h q.1
theorem fl_word {p : PS} (m : ByteArray) (h : p.2.1 ≠ 0) : wordS p m = (p, false) := if_neg fun q => h q.1
theorem fl_any {p : PS} (k : Int) (h : p.2.1 ≠ 0) : anyS p k = (zT, p) := if_pos h
theorem fl_pk {p : PS} (h : p.2.1 ≠ 0) : (pkS p).1 = 0 := by unfold pkS; rw [Cur.peek_fail (c := (p.1, 0, p.2)) h]
theorem fl_rst {p : PS} (h : p.2.1 ≠ 0) : rstS p = p := by
 unfold rstS
 rw [fl_pk h, if_neg (by decide)]
 exact fl_wrong h
theorem fl_name : Fl nameS := fun p h => by show (anyS p 1).2.2 = p.2; rw [fl_any 1 h]
theorem fl_int : Fl intS := fun p h => by show (anyS p 2).2.2 = p.2; rw [fl_any 2 h]
section
variable {α : Type} {el : PS → α × PS} {m : ByteArray}
theorem Fl.ne (f : Fl el) {p : PS} (h : p.2.1 ≠ 0) : (el p).2.2.1 ≠ 0 := by rw [f p h]; exact h
theorem fl_sep (f : Fl el) (n : Nat) : Fl (sepS el m n) := fun p h => by
 cases n with
 | zero => rfl
 | succ n =>
  unfold sepS
  rw [fl_may m (f.ne h), if_neg (by simp)]
  exact f p h
theorem fl_loop (en : ByteArray) (n : Nat) (acc : List α) : Fl (loopR el en n acc) := fun p h => by
 cases n with
 | zero => rfl
 | succ n =>
  unfold loopR
  rw [if_pos h]
end
theorem fl_label : Fl labelC := fun p h => by
 unfold labelC
 rw [fl_may atS h, if_neg (by simp)]
theorem fl_coaK : Fl coaK := fun p h => by
 unfold coaK
 rw [fl_word sFloor h, fl_word sFirst h, fl_word sCount h, if_neg (by simp), if_neg (by simp), if_neg (by simp)]
 show (rstS p).2 = p.2
 rw [fl_rst h]
theorem fl_coa : Fl coaC := fun p h => by
 show (labelC (coaK p).2).2.2 = p.2
 rw [fl_label _ (fl_coaK.ne h), fl_coaK p h]
theorem fl_coaS : Fl coaS := fun p h => by
 unfold coaS
 rw [if_pos h]
theorem fl_wide : Fl wideC := fun p h => by
 unfold wideC
 rw [fl_may hash h, if_neg (by simp)]
theorem fl_see : Fl seeC := fun p h => by
 unfold seeC
 rw [fl_may tilde h, if_neg (by simp)]
theorem fl_seeR : Fl seeR := fun p h => by
 unfold seeR
 rw [fl_may tilde h, if_neg (by simp)]
theorem fl_marks (x : PH) : Fl (marksC x) := fun p h => by
 show (seeC (wideC (labelC p).2).2).2.2 = p.2
 have h1 := fl_label.ne h
 have h2 := fl_wide.ne h1
 rw [fl_see _ h2, fl_wide _ h1, fl_label p h]
theorem fl_marksR (x : PH) : Fl (marksR x) := fun p h => by
 show (seeR (wideC (labelC p).2).2).2.2 = p.2
 have h1 := fl_label.ne h
 have h2 := fl_wide.ne h1
 rw [fl_seeR _ h2, fl_wide _ h1, fl_label p h]
theorem fl_field {sub : Sub} (f : Fl sub) : Fl (fieldC sub) := fun p h => by
 show (marksC (nP (nameS p).1) (sub (markS (nameS p).2 colon)).2).2.2 = p.2
 have h1 := fl_name.ne h
 rw [fl_mark colon h1, fl_marks (nP (nameS p).1) _ (f.ne h1), f _ h1, fl_name p h]
theorem fl_tag {sub : Sub} (f : Fl sub) : Fl (tagC sub) := fun p h => by
 have h1 := fl_name.ne h
 unfold tagC
 rw [fl_may lpar h1, if_neg (by simp)]
 exact fl_name p h
theorem fl_partR {sub : Sub} (f : Fl sub) (tag : Bool) : Fl (partR sub tag) := fun p h => by
 have h1 := fl_name.ne h
 unfold partR
 split
 ·show (marksR (nP (nameS p).1) (sub (markS (nameS p).2 colon)).2).2.2 = p.2
  rw [fl_mark colon h1, fl_marksR (nP (nameS p).1) _ (f.ne h1), f _ h1, fl_name p h]
 ·rw [fl_may lpar h1, if_neg (by simp)]
  exact fl_name p h
theorem fl_kind : Fl kindC := fun p h => by
 unfold kindC
 simp only [fl_word _ h]
 show (rstS p).2 = p.2
 rw [fl_rst h]
theorem fl_kind0 {p : PS} (h : p.2.1 ≠ 0) : (kindC p).1 = 0 := by
 unfold kindC
 simp only [fl_word _ h]
 rfl
theorem fl_typ : ∀ n, Fl (typC n)
 | 0 => fun p h => by show (failP p 6).2 = p.2; rw [fl_fail 6 h]
 | n + 1 => fun p h => by
  show (contC (typC n) (hKA (kindC p).1 (pkS p).2.1) (kindC p).2).2.2 = p.2
  rw [fl_kind0 h]
  exact fl_kind p h
theorem fl_kindR : ∀ n, Fl (kindR n)
 | 0 => fun p h => by unfold kindR; rw [if_pos h]
 | n + 1 => fun p h => by unfold kindR; rw [if_pos h]
structure Eqs (p p' : PS) : Prop where
 f : p'.2 = p.2
 l : p.2.1 = 0 → p'.1 = p.1
theorem Eqs.rfl' (p : PS) : Eqs p p := ⟨rfl, fun _ => rfl⟩
theorem Eqs.eq {p p' : PS} (h : Eqs p p') (e : p.2.1 = 0) : p' = p := Prod.ext (h.l e) h.f
def Rl {α : Type} (el el' : PS → α × PS) : Prop := ∀ q q', Ok q → Eqs q q' → Eqs (el q).2 (el' q').2 ∧ ((el q).2.2.1 = 0 → (el' q').1 = (el q).1)
section
variable {α : Type} {el el' : PS → α × PS}
theorem rl_of (f : Fl el) (f' : Fl el') (h : ∀ q, Ok q → q.2.1 = 0 → Eqs (el q).2 (el' q).2 ∧ ((el q).2.2.1 = 0 → (el' q).1 = (el q).1)) : Rl el el' := fun q q' ok e => by
 by_cases c : q.2.1 = 0
 ·rw [e.eq c]
  exact h q ok c
 ·have c' : q'.2.1 ≠ 0 := by rw [e.f]; exact c
  refine ⟨⟨by rw [f' q' c', f q c]; exact e.f, fun z => absurd z (f.ne c)⟩, fun z => absurd z (f.ne c)⟩
theorem rl_same (f : Fl el) : Rl el el := rl_of f f fun q _ _ => ⟨Eqs.rfl' _, fun _ => rfl⟩
end
theorem eq_mark {q q' : PS} (e : Eqs q q') (m : ByteArray) : Eqs (markS q m) (markS q' m) := by
 by_cases c : q.2.1 = 0
 ·rw [e.eq c]; exact Eqs.rfl' _
 ·rw [fl_mark m c, fl_mark m (by rw [e.f]; exact c)]; exact e
theorem eq_may {q q' : PS} (e : Eqs q q') (m : ByteArray) : (mayS q' m).2 = (mayS q m).2 ∧ Eqs (mayS q m).1 (mayS q' m).1 := by
 by_cases c : q.2.1 = 0
 ·rw [e.eq c]; exact ⟨rfl, Eqs.rfl' _⟩
 ·rw [fl_may m c, fl_may m (by rw [e.f]; exact c)]; exact ⟨rfl, e⟩
section
variable {α : Type} {el el' : PS → α × PS}
theorem rl_loop (en : ByteArray) (hne : en ≠ comma) (g : Gd el) (f : Fl el) (f' : Fl el') (h : Rl el el') : ∀ (n : Nat) (acc : List α) (p p' : PS), Ok p → Eqs p p' → p.1.length < n → ∀ k, p.1.length < k →
  Eqs (markS (sepS el comma n p).2 en) (loopR el' en k acc p').2 ∧ ((markS (sepS el comma n p).2 en).2.1 = 0 → (loopR el' en k acc p').1 = acc ++ (sepS el comma n p).1)
 | 0, _, p, _, _, _, hn, _, _ => absurd hn (Nat.not_lt_zero _)
 | n + 1, acc, p, p', ok, e, hn, 0, hk => absurd hk (Nat.not_lt_zero _)
 | n + 1, acc, p, p', ok, e, hn, k + 1, hk => by
  by_cases c : p.2.1 = 0
  ·obtain rfl := e.eq c
   have h1 := h p' p' ok (Eqs.rfl' _)
   have ok1 := g p' ok
   have m1 := eq_may h1.1 en
   unfold loopR sepS
   rw [if_neg (show ¬ p'.2.1 ≠ 0 by simpa using c), m1.1]
   by_cases d : (el p').2.2.1 = 0
   ·have e1 : (el' p').2 = (el p').2 := h1.1.eq d
    rw [e1, h1.2 d]
    by_cases i : isS (el p').2 4 comma = true
    ·have y1 : mayS (el p').2 comma = (onS (el p').2, true) := if_pos ⟨d, i⟩
     have y2 : mayS (el p').2 en = ((el p').2, false) := if_neg fun q => by
      have := q.2
      unfold isS at this i
      rw [Bool.and_eq_true, decide_eq_true_iff, decide_eq_true_iff] at this i
      exact hne (this.2.symm.trans i.2)
     have y3 : markS (el p').2 comma = onS (el p').2 := by
      unfold markS needS
      rw [if_neg (by simpa using d), if_pos i]
     rw [y1, y2, y3, if_pos rfl, if_neg (by simp)]
     have okn : Ok (onS (el p').2) := on_ok ok1.1 (by rw [is_kind i]; decide)
     have ln : (onS (el p').2).1.length < p'.1.length := by
      rw [on_len]
      have := List.length_pos_iff.2 (EndL.ne ok1.1)
      have := ok1.2
      omega
     have ih := rl_loop en hne g f f' h n (acc ++ [(el p').1]) (onS (el p').2) (onS (el p').2) okn (Eqs.rfl' _) (by omega) k (by omega)
     refine ⟨ih.1, fun z => ?_⟩
     rw [ih.2 z, List.append_assoc]
     rfl
    ·have y1 : mayS (el p').2 comma = ((el p').2, false) := if_neg fun q => i q.2
     rw [y1, if_neg (by simp)]
     by_cases j : isS (el p').2 4 en = true
     ·have y2 : mayS (el p').2 en = (onS (el p').2, true) := if_pos ⟨d, j⟩
      have y3 : markS (el p').2 en = onS (el p').2 := by
       unfold markS needS
       rw [if_neg (by simpa using d), if_pos j]
      rw [y2, if_pos rfl]
      show Eqs (markS (el p').2 en) (onS (el p').2) ∧ _
      rw [y3]
      exact ⟨Eqs.rfl' _, fun _ => rfl⟩
     ·have y2 : mayS (el p').2 en = ((el p').2, false) := if_neg fun q => j q.2
      have y3 : markS (el p').2 en = wrongS (el p').2 := by
       unfold markS needS
       rw [if_neg (by simpa using d), if_neg j]
      have y4 : markS (el p').2 comma = wrongS (el p').2 := by
       unfold markS needS
       rw [if_neg (by simpa using d), if_neg i]
      rw [y2, if_neg (by simp), y4]
      show Eqs (markS (el p').2 en) _ ∧ ((markS (el p').2 en).2.1 = 0 → _)
      rw [y3]
      have w : (wrongS (el p').2).2.1 ≠ 0 := fun q => st_wrong q
      exact ⟨⟨fl_loop en k _ _ w, fun q => absurd q w⟩, fun q => absurd q w⟩
   ·have y1 : mayS (el p').2 comma = ((el p').2, false) := fl_may comma d
    have y2 : mayS (el p').2 en = ((el p').2, false) := fl_may en d
    have d' : (el' p').2.2.1 ≠ 0 := by rw [h1.1.f]; exact d
    rw [y1, y2, if_neg (by simp), if_neg (by simp)]
    show Eqs (markS (el p').2 en) (loopR el' en k _ (markS (el' p').2 comma)).2 ∧ ((markS (el p').2 en).2.1 = 0 → _)
    rw [fl_mark en d, fl_mark comma d']
    exact ⟨⟨(fl_loop en k _ _ d').trans h1.1.f, fun q => absurd q d⟩, fun q => absurd q d⟩
  ·have c' : p'.2.1 ≠ 0 := by rw [e.f]; exact c
   have s := fl_sep (m := comma) f (n + 1) p c
   have s' : (sepS el comma (n + 1) p).2.2.1 ≠ 0 := by rw [s]; exact c
   rw [fl_mark en s']
   exact ⟨⟨((fl_loop en (k + 1) acc p' c').trans e.f).trans s.symm, fun q => absurd q s'⟩, fun q => absurd q s'⟩
end
end Go.Proofs.YtncijmodlhijoaaGreat.Syn
