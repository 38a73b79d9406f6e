import Derived.Test.YtncijmodlhijoaaGreatQ20
set_option linter.unusedVariables false
set_option maxRecDepth 100000
set_option maxHeartbeats 4000000
namespace Go.Proofs.YtncijmodlhijoaaGreat.Syn
open Go.RowKit Go.Lib Utf Tok Cur Nam Lat Kin
theorem type_alloc (ρ : Operand → Value) (W : World) (o : Oper) (h : o.op = .alloc 29) : (execOp ρ o).run Tryz.prog W = .ok (.value (ptA W.heap.size)) (W.alloc (.cells #[.int .i64 0, .int .i64 0, .int .i64 0, .int .i64 0, .int .i64 0, .slice none 0 0, .slice none 0 0, .string ⟨#[]⟩, .int .i64 0] 29)) := by
 simp [execOp, h, go_sem, ptA]
theorem ne_sInt_sBool : sInt ≠ sBool := fun e => by
 have h : sInt.toList = sBool.toList := by rw [e]
 rw [tl_sInt, tl_sBool] at h
 exact absurd h (by decide)
theorem ne_sText_sBool : sText ≠ sBool := fun e => by
 have h : sText.toList = sBool.toList := by rw [e]
 rw [tl_sText, tl_sBool] at h
 exact absurd h (by decide)
theorem ne_sText_sInt : sText ≠ sInt := fun e => by
 have h : sText.toList = sInt.toList := by rw [e]
 rw [tl_sText, tl_sInt] at h
 exact absurd h (by decide)
theorem ne_sEnum_sBool : sEnum ≠ sBool := fun e => by
 have h : sEnum.toList = sBool.toList := by rw [e]
 rw [tl_sEnum, tl_sBool] at h
 exact absurd h (by decide)
theorem ne_sEnum_sInt : sEnum ≠ sInt := fun e => by
 have h : sEnum.toList = sInt.toList := by rw [e]
 rw [tl_sEnum, tl_sInt] at h
 exact absurd h (by decide)
theorem ne_sEnum_sText : sEnum ≠ sText := fun e => by
 have h : sEnum.toList = sText.toList := by rw [e]
 rw [tl_sEnum, tl_sText] at h
 exact absurd h (by decide)
theorem ne_sList_sBool : sList ≠ sBool := fun e => by
 have h : sList.toList = sBool.toList := by rw [e]
 rw [tl_sList, tl_sBool] at h
 exact absurd h (by decide)
theorem ne_sList_sInt : sList ≠ sInt := fun e => by
 have h : sList.toList = sInt.toList := by rw [e]
 rw [tl_sList, tl_sInt] at h
 exact absurd h (by decide)
theorem ne_sList_sText : sList ≠ sText := fun e => by
 have h : sList.toList = sText.toList := by rw [e]
 rw [tl_sList, tl_sText] at h
 exact absurd h (by decide)
theorem ne_sList_sEnum : sList ≠ sEnum := fun e => by
 have h : sList.toList = sEnum.toList := by rw [e]
 rw [tl_sList, tl_sEnum] at h
 exact absurd h (by decide)
theorem ne_sOpt_sBool : sOpt ≠ sBool := fun e => by
 have h : sOpt.toList = sBool.toList := by rw [e]
 rw [tl_sOpt, tl_sBool] at h
 exact absurd h (by decide)
theorem ne_sOpt_sInt : sOpt ≠ sInt := fun e => by
 have h : sOpt.toList = sInt.toList := by rw [e]
 rw [tl_sOpt, tl_sInt] at h
 exact absurd h (by decide)
theorem ne_sOpt_sText : sOpt ≠ sText := fun e => by
 have h : sOpt.toList = sText.toList := by rw [e]
 rw [tl_sOpt, tl_sText] at h
 exact absurd h (by decide)
theorem ne_sOpt_sEnum : sOpt ≠ sEnum := fun e => by
 have h : sOpt.toList = sEnum.toList := by rw [e]
 rw [tl_sOpt, tl_sEnum] at h
 exact absurd h (by decide)
theorem ne_sOpt_sList : sOpt ≠ sList := fun e => by
 have h : sOpt.toList = sList.toList := by rw [e]
 rw [tl_sOpt, tl_sList] at h
 exact absurd h (by decide)
theorem ne_sRecord_sBool : sRecord ≠ sBool := fun e => by
 have h : sRecord.toList = sBool.toList := by rw [e]
 rw [tl_sRecord, tl_sBool] at h
 exact absurd h (by decide)
theorem ne_sRecord_sInt : sRecord ≠ sInt := fun e => by
 have h : sRecord.toList = sInt.toList := by rw [e]
 rw [tl_sRecord, tl_sInt] at h
 exact absurd h (by decide)
theorem ne_sRecord_sText : sRecord ≠ sText := fun e => by
 have h : sRecord.toList = sText.toList := by rw [e]
 rw [tl_sRecord, tl_sText] at h
 exact absurd h (by decide)
theorem ne_sRecord_sEnum : sRecord ≠ sEnum := fun e => by
 have h : sRecord.toList = sEnum.toList := by rw [e]
 rw [tl_sRecord, tl_sEnum] at h
 exact absurd h (by decide)
theorem ne_sRecord_sList : sRecord ≠ sList := fun e => by
 have h : sRecord.toList = sList.toList := by rw [e]
 rw [tl_sRecord, tl_sList] at h
 exact absurd h (by decide)
theorem ne_sRecord_sOpt : sRecord ≠ sOpt := fun e => by
 have h : sRecord.toList = sOpt.toList := by rw [e]
 rw [tl_sRecord, tl_sOpt] at h
 exact absurd h (by decide)
theorem ne_sUnion_sBool : sUnion ≠ sBool := fun e => by
 have h : sUnion.toList = sBool.toList := by rw [e]
 rw [tl_sUnion, tl_sBool] at h
 exact absurd h (by decide)
theorem ne_sUnion_sInt : sUnion ≠ sInt := fun e => by
 have h : sUnion.toList = sInt.toList := by rw [e]
 rw [tl_sUnion, tl_sInt] at h
 exact absurd h (by decide)
theorem ne_sUnion_sText : sUnion ≠ sText := fun e => by
 have h : sUnion.toList = sText.toList := by rw [e]
 rw [tl_sUnion, tl_sText] at h
 exact absurd h (by decide)
theorem ne_sUnion_sEnum : sUnion ≠ sEnum := fun e => by
 have h : sUnion.toList = sEnum.toList := by rw [e]
 rw [tl_sUnion, tl_sEnum] at h
 exact absurd h (by decide)
theorem ne_sUnion_sList : sUnion ≠ sList := fun e => by
 have h : sUnion.toList = sList.toList := by rw [e]
 rw [tl_sUnion, tl_sList] at h
 exact absurd h (by decide)
theorem ne_sUnion_sOpt : sUnion ≠ sOpt := fun e => by
 have h : sUnion.toList = sOpt.toList := by rw [e]
 rw [tl_sUnion, tl_sOpt] at h
 exact absurd h (by decide)
theorem ne_sUnion_sRecord : sUnion ≠ sRecord := fun e => by
 have h : sUnion.toList = sRecord.toList := by rw [e]
 rw [tl_sUnion, tl_sRecord] at h
 exact absurd h (by decide)
theorem ne_sRef_sBool : sRef ≠ sBool := fun e => by
 have h : sRef.toList = sBool.toList := by rw [e]
 rw [tl_sRef, tl_sBool] at h
 exact absurd h (by decide)
theorem ne_sRef_sInt : sRef ≠ sInt := fun e => by
 have h : sRef.toList = sInt.toList := by rw [e]
 rw [tl_sRef, tl_sInt] at h
 exact absurd h (by decide)
theorem ne_sRef_sText : sRef ≠ sText := fun e => by
 have h : sRef.toList = sText.toList := by rw [e]
 rw [tl_sRef, tl_sText] at h
 exact absurd h (by decide)
theorem ne_sRef_sEnum : sRef ≠ sEnum := fun e => by
 have h : sRef.toList = sEnum.toList := by rw [e]
 rw [tl_sRef, tl_sEnum] at h
 exact absurd h (by decide)
theorem ne_sRef_sList : sRef ≠ sList := fun e => by
 have h : sRef.toList = sList.toList := by rw [e]
 rw [tl_sRef, tl_sList] at h
 exact absurd h (by decide)
theorem ne_sRef_sOpt : sRef ≠ sOpt := fun e => by
 have h : sRef.toList = sOpt.toList := by rw [e]
 rw [tl_sRef, tl_sOpt] at h
 exact absurd h (by decide)
theorem ne_sRef_sRecord : sRef ≠ sRecord := fun e => by
 have h : sRef.toList = sRecord.toList := by rw [e]
 rw [tl_sRef, tl_sRecord] at h
 exact absurd h (by decide)
theorem ne_sRef_sUnion : sRef ≠ sUnion := fun e => by
 have h : sRef.toList = sUnion.toList := by rw [e]
 rw [tl_sRef, tl_sUnion] at h
 exact absurd h (by decide)
theorem body_sBool (sub : Sub) (a : Int) (q : PS) : bodyR sub sBool a q = ((hKA 1 a, .nil), q) := by
 unfold bodyR
 rw [if_pos rfl]
theorem body_sInt (sub : Sub) (a : Int) (q : PS) : bodyR sub sInt a q = (({ hKA 2 a with lo := (intS (markS q lpar)).1, hi := (intS (markS (intS (markS q lpar)).2 dots)).1 }, .nil), markS (intS (markS (intS (markS q lpar)).2 dots)).2 rpar) := by
 unfold bodyR
 rw [if_neg ne_sInt_sBool, if_pos rfl]
theorem body_sText (sub : Sub) (a : Int) (q : PS) : bodyR sub sText a q = (({ hKA 3 a with most := (numS q).1 }, .nil), (numS q).2) := by
 unfold bodyR
 rw [if_neg ne_sText_sBool, if_neg ne_sText_sInt, if_pos rfl]
theorem body_sEnum (sub : Sub) (a : Int) (q : PS) : bodyR sub sEnum a q = (({ hKA 4 a with names := (namesP rpar (markS q lpar)).1 }, .nil), (namesP rpar (markS q lpar)).2) := by
 unfold bodyR
 rw [if_neg ne_sEnum_sBool, if_neg ne_sEnum_sInt, if_neg ne_sEnum_sText, if_pos rfl]
theorem body_sList (sub : Sub) (a : Int) (q : PS) : bodyR sub sList a q = (({ hKA 5 a with most := (intS (markS (sub (markS q lpar)).2 comma)).1 }, only (sub (markS q lpar)).1), markS (intS (markS (sub (markS q lpar)).2 comma)).2 rpar) := by
 unfold bodyR
 rw [if_neg ne_sList_sBool, if_neg ne_sList_sInt, if_neg ne_sList_sText, if_neg ne_sList_sEnum, if_pos rfl]
theorem body_sOpt (sub : Sub) (a : Int) (q : PS) : bodyR sub sOpt a q = ((hKA 6 a, only (sub (markS q lpar)).1), markS (sub (markS q lpar)).2 rpar) := by
 unfold bodyR
 rw [if_neg ne_sOpt_sBool, if_neg ne_sOpt_sInt, if_neg ne_sOpt_sText, if_neg ne_sOpt_sEnum, if_neg ne_sOpt_sList, if_pos rfl]
theorem body_sRecord (sub : Sub) (a : Int) (q : PS) : bodyR sub sRecord a q = ((hKA 7 a, ofL (partsP sub false q).1), (partsP sub false q).2) := by
 unfold bodyR
 rw [if_neg ne_sRecord_sBool, if_neg ne_sRecord_sInt, if_neg ne_sRecord_sText, if_neg ne_sRecord_sEnum, if_neg ne_sRecord_sList, if_neg ne_sRecord_sOpt, if_pos rfl]
theorem body_sUnion (sub : Sub) (a : Int) (q : PS) : bodyR sub sUnion a q = ((hKA 8 a, ofL (partsP sub true q).1), (partsP sub true q).2) := by
 unfold bodyR
 rw [if_neg ne_sUnion_sBool, if_neg ne_sUnion_sInt, if_neg ne_sUnion_sText, if_neg ne_sUnion_sEnum, if_neg ne_sUnion_sList, if_neg ne_sUnion_sOpt, if_neg ne_sUnion_sRecord, if_pos rfl]
theorem body_sRef (sub : Sub) (a : Int) (q : PS) : bodyR sub sRef a q = (({ hKA 9 a with name := (nameS (markS q lpar)).1.1, nat := (nameS (markS q lpar)).1.2 }, .nil), markS (nameS (markS q lpar)).2 rpar) := by
 unfold bodyR
 rw [if_neg ne_sRef_sBool, if_neg ne_sRef_sInt, if_neg ne_sRef_sText, if_neg ne_sRef_sEnum, if_neg ne_sRef_sList, if_neg ne_sRef_sOpt, if_neg ne_sRef_sRecord, if_neg ne_sRef_sUnion, if_pos rfl]
theorem kind_sBool (k : Nat) (hk : KindQ k) (d : Int) (hd : d + 1 = 24 - (k : Int)) (hd0 : 0 ≤ d) (hd1 : d ≤ 23) (p : PS) (v : Value) (w0 w : World) (hb : Below w0.heap.size w0 w) (hx : RdK w0 v p.1) (ok : Ok p) (hl : p.1.length ≤ 1000000) (he : p.2.1 = 0) (h1 : (Cur.hdT p.1).1 = 1) (ht : (Cur.hdT p.1).2.2.2.1 = sBool) (R : Ending → World → Prop)
  (hR : Hid (∀ nv pv v' w', RdY (empW (lowS w.heap.size) w') (bodyR (kindR k) sBool (Cur.hdT p.1).2.1 (onS p)).1.1 (bodyR (kindR k) sBool (Cur.hdT p.1).2.1 (onS p)).1.2 nv pv → RdK w0 v' (bodyR (kindR k) sBool (Cur.hdT p.1).2.1 (onS p)).2.1 → Below w.heap.size w w' → R (.returned (.tuple #[tyV (bodyR (kindR k) sBool (Cur.hdT p.1).2.1 (onS p)).1.1 nv pv, psV v' (bodyR (kindR k) sBool (Cur.hdT p.1).2.1 (onS p)).2])) w')) : Calls Tryz.prog 68 #[psV v p, .int .i64 d] w R := by
 rw [body_sBool] at hR
 simp only at hR
 have okq := on_ok ok (show (Cur.hdT p.1).1 ≠ 0 by rw [h1]; decide)
 have lq : (onS p).1.length ≤ 1000000 := by rw [on_len]; omega
 replace he := Lib.hid he
 replace hd := Lib.hid hd
 replace h1 := Lib.hid h1
 replace ht := Lib.hid ht
 obtain ⟨A, cp, rfl, hlc, hr⟩ := hx.op
 have hlen : 0 < p.1.length := List.length_pos_iff.2 (EndL.ne ok)
 obtain ⟨g, o, rfl, hg, hca⟩ := hr hlen
 obtain ⟨x0, x1, x2, x3, x4⟩ := hca 0 hlen
 rw [hd_tN (EndL.ne ok)] at x0 x1 x2 x3 x4
 simp only [Nat.zero_mul, Nat.add_zero] at x0 x1 x2 x3 x4
 have i1 : (0 : Int) < (p.1.length : Int) := by omega
 have i9 : ¬ (23 : Int) < d := by omega
 clear hr hca
 obtain ⟨V, eV, hA, hY, hS, n, -, zz1, zz2⟩ := box3 w (.cells #[.slice (some ⟨g, o, none⟩) p.1.length cp, .int .i64 p.2.1, .int .i64 p.2.2] 142) (.cells #[.int .i64 0, .int .i64 0, .int .i64 0, .int .i64 0, .int .i64 0, .slice none 0 0, .slice none 0 0, .string ⟨#[]⟩, .int .i64 0] 29) (.cells #[.slice none 0 0, .int .i64 0, .int .i64 0] 142)
 replace eV := Lib.hid eV
 go_enter Tryz.func68, Tryz.ntmps68
 go_upto_region 1 with fail
 rw [eV.out]
 clear eV zz1 zz2
 have hbV := hb.trans (n.mono hb.size)
 obtain ⟨j0, j1, j2⟩ := cl3 hA
 go_wp2_with fail
 refine fine16_calls (.slice (some ⟨g, o, none⟩) p.1.length cp) p ⟨_, _, _, rfl⟩ V _ (Lib.hid fun w1 n1 => ?_)
 replace hA := obB n1 hA
 replace hY := obB n1 hY
 replace hS := obB n1 hS
 replace n := n.trans (n1.mono n.size)
 clear j0 j1 j2 n1 hbV
 rw [decide_eq_true he.out]
 clear he
 have hbV := hb.trans (n.mono hb.size)
 have c0 := (hbV.cell (p := ⟨g, o, none⟩) hg).trans x0
 have c1 := (hbV.cell (p := ⟨g, o + 1, none⟩) hg).trans x1
 have c2 := (hbV.cell (p := ⟨g, o + 2, none⟩) hg).trans x2
 have c3 := (hbV.cell (p := ⟨g, o + 3, none⟩) hg).trans x3
 have c4 := (hbV.cell (p := ⟨g, o + 4, none⟩) hg).trans x4
 have co := fun (W : World) (m : Below w.heap.size w W) => on16_calls p (.slice (some ⟨g, o, none⟩) p.1.length cp) w0 W (hb.trans (m.mono hb.size)) hx ok (.inr hlen)
 clear x0 x1 x2 x3 x4 hbV
 generalize onS p = q at *
 generalize Cur.hdT p.1 = tk at *
 obtain ⟨t0, t1, t2, t3, t4⟩ := tk
 replace h1 := h1.out
 replace ht := ht.out
 simp only at hR c0 c1 c2 c3 c4 h1 ht
 subst h1
 replace ht := Lib.hid ht
 have j0 := (Lib.cell_of_heap hA 0).trans rfl
 have lT : w.heap.size + 2 < w1.heap.size := blt hS
 obtain ⟨V2, eV, hT, m_, -⟩ := box1 w1 (.cells #[.int .i64 1, .int .i64 t1, .int .i64 t2, .string t3, .int .i64 t4] 212)
 replace eV := Lib.hid eV
 replace hA := obB m_ hA
 replace hY := obB m_ hY
 replace hS := obB m_ hS
 replace n := n.trans (m_.mono n.size)
 go_upto_region 4 with fail
 rw [eV.out]
 clear eV m_
 generalize w1.heap.size = T at *
 clear c0 c1 c2 c3 c4 j0
 have s1 := (Lib.cell_of_heap hT 1).trans rfl
 have lD : T < V2.heap.size := blt hT
 obtain ⟨V3, eV, hD, m_, -⟩ := box1 V2 (.cells #[.int .i64 0, .int .i64 t1, .int .i64 0, .int .i64 0, .int .i64 0, .slice none 0 0, .slice none 0 0, .string ⟨#[]⟩, .int .i64 0] 29)
 replace eV := Lib.hid eV
 replace hA := obB m_ hA
 replace hY := obB m_ hY
 replace hS := obB m_ hS
 replace hT := obB m_ hT
 replace n := n.trans (m_.mono n.size)
 go_upto_region 5 with (refine wpList_copy #[.int .i64 0, .int .i64 t1, .int .i64 0, .int .i64 0, .int .i64 0, .slice none 0 0, .slice none 0 0, .string ⟨#[]⟩, .int .i64 0] ⟨rfl, rfl, rfl⟩ ⟨rfl, rfl, rfl⟩ type_alloc (by kernel_rfl) ⟨rfl, by simp [Value.oneCell']⟩ (fun _ => ⟨rfl, rfl⟩) ?_; go_simp)
 rw [eV.out]
 clear eV m_
 generalize V2.heap.size = D at *
 clear s1
 have s0 := (Lib.cell_of_heap hT 0).trans rfl
 obtain ⟨j0, j1, j2⟩ := cl3 hA
 go_wp2_with fail
 refine co V3 n _ (Lib.hid fun v5 w5 r5 m5 => ?_)
 obtain ⟨A5, c5, rfl, -, -⟩ := r5.op
 replace hA := obB m5 hA
 replace hY := obB m5 hY
 replace hS := obB m5 hS
 replace hT := obB m5 hT
 replace hD := obB m5 hD
 replace n := n.trans (m5.mono n.size)
 clear m5 j0 j1 j2 co s0 i9 i1
 obtain ⟨u0, uf0, u1, uf1, u2, uf2⟩ := cf3 hA
 obtain ⟨L1_0, hL1_0⟩ : ∃ L : List (Nat × Value), L = [(0, .slice A5 q.1.length c5), (1, .int .i64 q.2.1), (2, .int .i64 q.2.2)] := ⟨_, rfl⟩
 replace hA := stB_s L1_0 hA
 replace hY := (stB_o (B := w.heap.size) (by omega) L1_0).trans hY
 replace hS := (stB_o (B := w.heap.size) (by omega) L1_0).trans hS
 replace hT := (stB_o (B := w.heap.size) (by omega) L1_0).trans hT
 replace hD := (stB_o (B := w.heap.size) (by omega) L1_0).trans hD
 replace n := stB_n (B := w.heap.size) (by omega) L1_0 n
 obtain ⟨VS1, hVS1⟩ : ∃ W, stB w5 (w.heap.size) L1_0 = W := ⟨_, rfl⟩
 rw [hVS1] at hA hY hS hT hD n
 subst hL1_0
 simp only [stC, List.setIfInBounds_toArray, List.set_cons_succ, List.set_cons_zero] at hA
 simp only [stB] at hVS1
 go_upto_region 10 with fail
 clear hVS1
 generalize VS1 = V5 at *
 clear u0 uf0 u1 uf1 u2 uf2
 have s3 := (Lib.cell_of_heap hT 3).trans rfl
 have qs0 : (t3.toList == [98, 111, 111, 108]) = true := by rw [ht.out, tl_sBool]; rfl
 clear ht
 have d0 := (Lib.cell_of_heap hD 0).trans rfl
 have df0 := Lib.frozen_of_heap hD 0
 obtain ⟨L2_0, hL2_0⟩ : ∃ L : List (Nat × Value), L = [(0, .int .i64 1)] := ⟨_, rfl⟩
 replace hA := (stB_o (B := D) (by omega) L2_0).trans hA
 replace hY := (stB_o (B := D) (by omega) L2_0).trans hY
 replace hS := (stB_o (B := D) (by omega) L2_0).trans hS
 replace hT := (stB_o (B := D) (by omega) L2_0).trans hT
 replace hD := stB_s L2_0 hD
 replace n := stB_n (B := D) (by omega) L2_0 n
 obtain ⟨VS2, hVS2⟩ : ∃ W, stB V5 D L2_0 = W := ⟨_, rfl⟩
 rw [hVS2] at hA hY hS hT hD n
 subst hL2_0
 simp only [stC, List.setIfInBounds_toArray, List.set_cons_succ, List.set_cons_zero] at hD
 simp only [stB] at hVS2
 go_upto_region 50 with fail
 clear hVS2
 generalize VS2 = V6 at *
 clear d0 df0 s3 qs0 hT
 replace hR : Hid (∀ nv pv v' w', RdY (empW (lowS w.heap.size) w') (hKA 1 t1) (.nil) nv pv → RdK w0 v' q.1 → Below w.heap.size w w' → R (.returned (.tuple #[.agg #[.int .i64 1, .int .i64 t1, .int .i64 0, .int .i64 0, .int .i64 0, nv, pv, .string ⟨#[]⟩, .int .i64 0], psV v' q])) w') := hR
 have jD := jf (p := w.heap.size + 1) (q := w.heap.size + 2) hD (by omega) (by omega)
 have jA := jf (p := w.heap.size + 1) (q := w.heap.size + 2) hA (by omega) (by omega)
 refine wp_region_mixG (w.heap.size + 1) (w.heap.size + 2) [([0, 1], 2), ([], 3)] [] (by kernel_rfl) (by kernel_rfl) (by kernel_rfl) (by kernel_rfl) (fun _ _ d _ _ h => by cases d <;> exact h) ?_
 have gW : Below V6.heap.size V6 (V6.drewN 1) := ⟨rfl, rfl, rfl, Nat.le_refl _, fun _ _ => rfl⟩
 replace hY := obB gW hY
 replace hS := obB gW hS
 replace n := n.trans (gW.mono n.size)
 refine mix_cons (os := [_, _]) (by simp only [pickO, List.filterMap_cons, List.filterMap_nil, List.getElem?_toArray, List.getElem?_cons_succ, List.getElem?_cons_zero]; rfl) (fun Kp hKp => ?_)
 refine wpQuiet_load rfl 29 _ rfl (D) 0 rfl _ _ jD Tryz.underlying29 rfl (by kernel_rfl) ?_
 go_simp
 refine wpQuiet_load rfl 142 _ rfl (w.heap.size) 0 rfl _ _ jA Tryz.underlying142 rfl (by kernel_rfl) ?_
 go_simp
 refine wpQuiet_nil ?_
 refine hKp _ ?_
 clear hKp
 refine loud (by rfl) (by kernel_rfl) (fun K2 hK2 => ?_)
 obtain ⟨LV, hLV⟩ : ∃ L : List Value, L = [.int .i64 1, .int .i64 t1, .int .i64 0, .int .i64 0, .int .i64 0, .slice none 0 0, .slice none 0 0, .string ⟨#[]⟩, .int .i64 0] := ⟨_, rfl⟩
 obtain ⟨ht_, gp_, hq_, n_, xx⟩ := sc_all LV hY (by rw [hLV]; rfl) (GW.bl gW) (by omega) hS (by omega) n
 refine wp_store_mid 29 _ _ (by rfl) (w.heap.size + 1) 0 LV.toArray (by rfl) (by rw [hLV]; rfl) ht_ (by rw [hLV]; kernel_rfl) (by rw [hLV]; simp [Value.oneCell']) ?_
 rw [show LV.toArray.toList = LV from rfl]
 refine hK2 _ _ gp_ ?_
 clear hK2 ht_
 generalize (V6.drewN 1).setCells (w.heap.size + 1) 0 LV = W8 at *
 refine mix_cons (os := []) (by rfl) (fun Kp hKp => ?_)
 refine wpQuiet_nil ?_
 refine hKp _ ?_
 clear hKp
 refine loud (by rfl) (by kernel_rfl) (fun K3 hK3 => ?_)
 obtain ⟨z0, zf0, z1, zf1, z2, zf2⟩ := cf3 hq_
 obtain ⟨gq_, n9, xx⟩ := st3 gp_ (by omega) (by omega) n_ xx (.slice A5 q.1.length c5) (.int .i64 q.2.1) (.int .i64 q.2.2)
 go_simp
 refine hK3 _ _ gq_ ?_
 clear hK3
 refine mix_nil (os := []) (by rfl) (fun Kp hKp => ?_)
 refine wpQuiet_nil ?_
 refine hKp _ ?_
 clear hKp
 have fin := Lib.hid (hR.out _ _ _ _ (show RdY _ _ _ _ _ from ⟨rdw_none _, RdSl.nil _ none 0⟩) r5 n9)
 clear hR
 clear gp_ gq_
 subst hLV
 go_wp2_with fail
 refine bodyPost_ret ?_ rfl fin.out
 simp [results, Tryz.results68, go_sem, xx.out 0 _ rfl, xx.out 1 _ rfl, xx.out 2 _ rfl, xx.out 3 _ rfl, xx.out 4 _ rfl, xx.out 5 _ rfl, xx.out 6 _ rfl, xx.out 7 _ rfl, xx.out 8 _ rfl, z0, z1, z2]
theorem kind_bad (d : Int) (p : PS) (v : Value) (w0 w : World) (hb : Below w0.heap.size w0 w) (hx : RdK w0 v p.1) (ok : Ok p) (hl : p.1.length ≤ 1000000) (he : ¬ p.2.1 = 0) (R : Ending → World → Prop)
  (hR : Hid (∀ nv pv v' w', RdY (empW (lowS w.heap.size) w') ((((zTH, Fo.nil), p) : (TH × Ft) × PS)).1.1 ((((zTH, Fo.nil), p) : (TH × Ft) × PS)).1.2 nv pv → RdK w0 v' ((((zTH, Fo.nil), p) : (TH × Ft) × PS)).2.1 → Below w.heap.size w w' → R (.returned (.tuple #[tyV ((((zTH, Fo.nil), p) : (TH × Ft) × PS)).1.1 nv pv, psV v' ((((zTH, Fo.nil), p) : (TH × Ft) × PS)).2])) w')) : Calls Tryz.prog 68 #[psV v p, .int .i64 d] w R := by
 simp only at hR
 replace he := Lib.hid he
 obtain ⟨A, cp, rfl, hlc, hr⟩ := hx.op
 have hlen : 0 < p.1.length := List.length_pos_iff.2 (EndL.ne ok)
 obtain ⟨g, o, rfl, hg, hca⟩ := hr hlen
 obtain ⟨x0, x1, x2, x3, x4⟩ := hca 0 hlen
 rw [hd_tN (EndL.ne ok)] at x0 x1 x2 x3 x4
 simp only [Nat.zero_mul, Nat.add_zero] at x0 x1 x2 x3 x4
 have i1 : (0 : Int) < (p.1.length : Int) := by omega
 clear hr hca
 obtain ⟨V, eV, hA, hY, hS, n, -, zz1, zz2⟩ := box3 w (.cells #[.slice (some ⟨g, o, none⟩) p.1.length cp, .int .i64 p.2.1, .int .i64 p.2.2] 142) (.cells #[.int .i64 0, .int .i64 0, .int .i64 0, .int .i64 0, .int .i64 0, .slice none 0 0, .slice none 0 0, .string ⟨#[]⟩, .int .i64 0] 29) (.cells #[.slice none 0 0, .int .i64 0, .int .i64 0] 142)
 replace eV := Lib.hid eV
 go_enter Tryz.func68, Tryz.ntmps68
 go_upto_region 1 with fail
 rw [eV.out]
 clear eV zz1 zz2
 have hbV := hb.trans (n.mono hb.size)
 obtain ⟨j0, j1, j2⟩ := cl3 hA
 go_wp2_with fail
 refine fine16_calls (.slice (some ⟨g, o, none⟩) p.1.length cp) p ⟨_, _, _, rfl⟩ V _ (Lib.hid fun w1 n1 => ?_)
 replace hA := obB n1 hA
 replace hY := obB n1 hY
 replace hS := obB n1 hS
 replace n := n.trans (n1.mono n.size)
 clear j0 j1 j2 n1 hbV
 rw [decide_eq_false he.out]
 clear x0 x1 x2 x3 x4
 go_upto_region 2 with fail
 have jA := jf (p := w.heap.size + 1) (q := w.heap.size + 2) hA (by omega) (by omega)
 refine wp_region_mixG (w.heap.size + 1) (w.heap.size + 2) [([0, 1], 2), ([], 3)] [] (by kernel_rfl) (by kernel_rfl) (by kernel_rfl) (by kernel_rfl) (fun _ _ d _ _ h => by cases d <;> exact h) ?_
 have gW : Below w1.heap.size w1 (w1.drewN 1) := ⟨rfl, rfl, rfl, Nat.le_refl _, fun _ _ => rfl⟩
 replace hY := obB gW hY
 replace hS := obB gW hS
 replace n := n.trans (gW.mono n.size)
 refine mix_cons (os := [_, _]) (by simp only [pickO, List.filterMap_cons, List.filterMap_nil, List.getElem?_toArray, List.getElem?_cons_succ, List.getElem?_cons_zero]; rfl) (fun Kp hKp => ?_)
 go_big_quiet_step (exact rfl)
 refine wpQuiet_load rfl 142 _ rfl (w.heap.size) 0 rfl _ _ jA Tryz.underlying142 rfl (by kernel_rfl) ?_
 go_simp
 refine wpQuiet_nil ?_
 refine hKp _ ?_
 clear hKp
 replace hR : Hid (∀ nv pv v' w', RdY (empW (lowS w.heap.size) w') (zTH) (.nil) nv pv → RdK w0 v' p.1 → Below w.heap.size w w' → R (.returned (.tuple #[.agg #[.int .i64 0, .int .i64 0, .int .i64 0, .int .i64 0, .int .i64 0, nv, pv, .string ⟨#[]⟩, .int .i64 0], psV v' p])) w') := hR
 refine loud (by rfl) (by kernel_rfl) (fun K2 hK2 => ?_)
 obtain ⟨LV, hLV⟩ : ∃ L : List Value, L = [.int .i64 0, .int .i64 0, .int .i64 0, .int .i64 0, .int .i64 0, .slice none 0 0, .slice none 0 0, .string ⟨#[]⟩, .int .i64 0] := ⟨_, rfl⟩
 obtain ⟨ht_, gp_, hq_, n_, xx⟩ := sc_all LV hY (by rw [hLV]; rfl) (GW.bl gW) (by omega) hS (by omega) n
 refine wp_store_mid 29 _ _ (by rfl) (w.heap.size + 1) 0 LV.toArray (by rfl) (by rw [hLV]; rfl) ht_ (by rw [hLV]; kernel_rfl) (by rw [hLV]; simp [Value.oneCell']) ?_
 rw [show LV.toArray.toList = LV from rfl]
 refine hK2 _ _ gp_ ?_
 clear hK2 ht_
 generalize (w1.drewN 1).setCells (w.heap.size + 1) 0 LV = W8 at *
 refine mix_cons (os := []) (by rfl) (fun Kp hKp => ?_)
 refine wpQuiet_nil ?_
 refine hKp _ ?_
 clear hKp
 refine loud (by rfl) (by kernel_rfl) (fun K3 hK3 => ?_)
 obtain ⟨z0, zf0, z1, zf1, z2, zf2⟩ := cf3 hq_
 obtain ⟨gq_, n9, xx⟩ := st3 gp_ (by omega) (by omega) n_ xx (.slice (some ⟨g, o, none⟩) p.1.length cp) (.int .i64 p.2.1) (.int .i64 p.2.2)
 go_simp
 refine hK3 _ _ gq_ ?_
 clear hK3
 refine mix_nil (os := []) (by rfl) (fun Kp hKp => ?_)
 refine wpQuiet_nil ?_
 refine hKp _ ?_
 clear hKp
 have fin := Lib.hid (hR.out _ _ _ _ (show RdY _ _ _ _ _ from ⟨rdw_none _, RdSl.nil _ none 0⟩) hx n9)
 clear hR
 clear gp_ gq_
 subst hLV
 go_wp2_with fail
 refine bodyPost_ret ?_ rfl fin.out
 simp [results, Tryz.results68, go_sem, xx.out 0 _ rfl, xx.out 1 _ rfl, xx.out 2 _ rfl, xx.out 3 _ rfl, xx.out 4 _ rfl, xx.out 5 _ rfl, xx.out 6 _ rfl, xx.out 7 _ rfl, xx.out 8 _ rfl, z0, z1, z2]
theorem kind_deep (d : Int) (p : PS) (v : Value) (w0 w : World) (hb : Below w0.heap.size w0 w) (hx : RdK w0 v p.1) (ok : Ok p) (hl : p.1.length ≤ 1000000) (he : p.2.1 = 0) (hd : (23 : Int) < d) (R : Ending → World → Prop)
  (hR : Hid (∀ nv pv v' w', RdY (empW (lowS w.heap.size) w') ((((hKA 0 (Cur.hdT p.1).2.1, Fo.nil), (p.1, 6, (Cur.hdT p.1).2.1)) : (TH × Ft) × PS)).1.1 ((((hKA 0 (Cur.hdT p.1).2.1, Fo.nil), (p.1, 6, (Cur.hdT p.1).2.1)) : (TH × Ft) × PS)).1.2 nv pv → RdK w0 v' ((((hKA 0 (Cur.hdT p.1).2.1, Fo.nil), (p.1, 6, (Cur.hdT p.1).2.1)) : (TH × Ft) × PS)).2.1 → Below w.heap.size w w' → R (.returned (.tuple #[tyV ((((hKA 0 (Cur.hdT p.1).2.1, Fo.nil), (p.1, 6, (Cur.hdT p.1).2.1)) : (TH × Ft) × PS)).1.1 nv pv, psV v' ((((hKA 0 (Cur.hdT p.1).2.1, Fo.nil), (p.1, 6, (Cur.hdT p.1).2.1)) : (TH × Ft) × PS)).2])) w')) : Calls Tryz.prog 68 #[psV v p, .int .i64 d] w R := by
 simp only at hR
 replace he := Lib.hid he
 obtain ⟨A, cp, rfl, hlc, hr⟩ := hx.op
 have hlen : 0 < p.1.length := List.length_pos_iff.2 (EndL.ne ok)
 obtain ⟨g, o, rfl, hg, hca⟩ := hr hlen
 obtain ⟨x0, x1, x2, x3, x4⟩ := hca 0 hlen
 rw [hd_tN (EndL.ne ok)] at x0 x1 x2 x3 x4
 simp only [Nat.zero_mul, Nat.add_zero] at x0 x1 x2 x3 x4
 have i1 : (0 : Int) < (p.1.length : Int) := by omega
 clear hr hca
 obtain ⟨V, eV, hA, hY, hS, n, -, zz1, zz2⟩ := box3 w (.cells #[.slice (some ⟨g, o, none⟩) p.1.length cp, .int .i64 p.2.1, .int .i64 p.2.2] 142) (.cells #[.int .i64 0, .int .i64 0, .int .i64 0, .int .i64 0, .int .i64 0, .slice none 0 0, .slice none 0 0, .string ⟨#[]⟩, .int .i64 0] 29) (.cells #[.slice none 0 0, .int .i64 0, .int .i64 0] 142)
 replace eV := Lib.hid eV
 go_enter Tryz.func68, Tryz.ntmps68
 go_upto_region 1 with fail
 rw [eV.out]
 clear eV zz1 zz2
 have hbV := hb.trans (n.mono hb.size)
 obtain ⟨j0, j1, j2⟩ := cl3 hA
 go_wp2_with fail
 refine fine16_calls (.slice (some ⟨g, o, none⟩) p.1.length cp) p ⟨_, _, _, rfl⟩ V _ (Lib.hid fun w1 n1 => ?_)
 replace hA := obB n1 hA
 replace hY := obB n1 hY
 replace hS := obB n1 hS
 replace n := n.trans (n1.mono n.size)
 clear j0 j1 j2 n1 hbV
 rw [decide_eq_true he.out]
 clear he
 have hbV := hb.trans (n.mono hb.size)
 have c0 := (hbV.cell (p := ⟨g, o, none⟩) hg).trans x0
 have c1 := (hbV.cell (p := ⟨g, o + 1, none⟩) hg).trans x1
 have c2 := (hbV.cell (p := ⟨g, o + 2, none⟩) hg).trans x2
 have c3 := (hbV.cell (p := ⟨g, o + 3, none⟩) hg).trans x3
 have c4 := (hbV.cell (p := ⟨g, o + 4, none⟩) hg).trans x4
 have cw := fun (W : World) (m : Below w.heap.size w W) => wrong16_calls p (.slice (some ⟨g, o, none⟩) p.1.length cp) w0 W (hb.trans (m.mono hb.size)) hx ok
 clear x0 x1 x2 x3 x4 hbV
 generalize Cur.hdT p.1 = tk at *
 obtain ⟨t0, t1, t2, t3, t4⟩ := tk
 simp only at hR c0 c1 c2 c3 c4
 have j0 := (Lib.cell_of_heap hA 0).trans rfl
 have lT : w.heap.size + 2 < w1.heap.size := blt hS
 obtain ⟨V2, eV, hT, m_, -⟩ := box1 w1 (.cells #[.int .i64 t0, .int .i64 t1, .int .i64 t2, .string t3, .int .i64 t4] 212)
 replace eV := Lib.hid eV
 replace hA := obB m_ hA
 replace hY := obB m_ hY
 replace hS := obB m_ hS
 replace n := n.trans (m_.mono n.size)
 go_upto_region 4 with fail
 rw [eV.out]
 clear eV m_
 generalize w1.heap.size = T at *
 clear c0 c1 c2 c3 c4 j0
 have s1 := (Lib.cell_of_heap hT 1).trans rfl
 have lD : T < V2.heap.size := blt hT
 obtain ⟨V3, eV, hD, m_, -⟩ := box1 V2 (.cells #[.int .i64 0, .int .i64 t1, .int .i64 0, .int .i64 0, .int .i64 0, .slice none 0 0, .slice none 0 0, .string ⟨#[]⟩, .int .i64 0] 29)
 replace eV := Lib.hid eV
 replace hA := obB m_ hA
 replace hY := obB m_ hY
 replace hS := obB m_ hS
 replace hT := obB m_ hT
 replace n := n.trans (m_.mono n.size)
 go_upto_region 5 with (refine wpList_copy #[.int .i64 0, .int .i64 t1, .int .i64 0, .int .i64 0, .int .i64 0, .slice none 0 0, .slice none 0 0, .string ⟨#[]⟩, .int .i64 0] ⟨rfl, rfl, rfl⟩ ⟨rfl, rfl, rfl⟩ type_alloc (by kernel_rfl) ⟨rfl, by simp [Value.oneCell']⟩ (fun _ => ⟨rfl, rfl⟩) ?_; go_simp)
 rw [eV.out]
 clear eV m_
 generalize V2.heap.size = D at *
 clear s1
 clear cw
 go_upto_region 6 with fail
 have kA := fun y : GW V3 (w.heap.size + 1) (w.heap.size + 2) => y.cell (blt hA) (by omega) (by omega) ((Lib.cell_of_heap hA 0).trans rfl)
 have kT := fun y : GW V3 (w.heap.size + 1) (w.heap.size + 2) => y.cell (blt hT) (by omega) (by omega) ((Lib.cell_of_heap hT 1).trans rfl)
 have jD := jf (p := w.heap.size + 1) (q := w.heap.size + 2) hD (by omega) (by omega)
 refine wp_region_mixG (w.heap.size + 1) (w.heap.size + 2) [([0, 1, 2, 3, 4, 5, 6], 7), ([], 8)] [] (by kernel_rfl) (by kernel_rfl) (by kernel_rfl) (by kernel_rfl) (fun _ _ d _ _ h => by cases d <;> exact h) ?_
 have gW : Below V3.heap.size V3 (V3.drewN 1) := ⟨rfl, rfl, rfl, Nat.le_refl _, fun _ _ => rfl⟩
 replace hY := obB gW hY
 replace hS := obB gW hS
 replace n := n.trans (gW.mono n.size)
 refine mix_cons (os := [_, _, _, _, _, _, _]) (by simp only [pickO, List.filterMap_cons, List.filterMap_nil, List.getElem?_toArray, List.getElem?_cons_succ, List.getElem?_cons_zero]; rfl) (fun Kp hKp => ?_)
 refine wpQuiet_load rfl 29 _ rfl (D) 0 rfl _ _ jD Tryz.underlying29 rfl (by kernel_rfl) ?_
 go_simp
 repeat (go_big_quiet_step (exact rfl))
 refine wpQuiet_nil ?_
 refine hKp _ ?_
 clear hKp
 replace hR : Hid (∀ nv pv v' w', RdY (empW (lowS w.heap.size) w') (hKA 0 t1) (.nil) nv pv → RdK w0 v' (p.1, (6 : Int), t1).1 → Below w.heap.size w w' → R (.returned (.tuple #[.agg #[.int .i64 0, .int .i64 t1, .int .i64 0, .int .i64 0, .int .i64 0, nv, pv, .string ⟨#[]⟩, .int .i64 0], psV v' (p.1, (6 : Int), t1)])) w') := hR
 refine loud (by rfl) (by kernel_rfl) (fun K2 hK2 => ?_)
 obtain ⟨LV, hLV⟩ : ∃ L : List Value, L = [.int .i64 0, .int .i64 t1, .int .i64 0, .int .i64 0, .int .i64 0, .slice none 0 0, .slice none 0 0, .string ⟨#[]⟩, .int .i64 0] := ⟨_, rfl⟩
 obtain ⟨ht_, gp_, hq_, n_, xx⟩ := sc_all LV hY (by rw [hLV]; rfl) (GW.bl gW) (by omega) hS (by omega) n
 refine wp_store_mid 29 _ _ (by rfl) (w.heap.size + 1) 0 LV.toArray (by rfl) (by rw [hLV]; rfl) ht_ (by rw [hLV]; kernel_rfl) (by rw [hLV]; simp [Value.oneCell']) ?_
 rw [show LV.toArray.toList = LV from rfl]
 refine hK2 _ _ gp_ ?_
 clear hK2 ht_
 generalize (V3.drewN 1).setCells (w.heap.size + 1) 0 LV = W8 at *
 refine mix_cons (os := []) (by rfl) (fun Kp hKp => ?_)
 refine wpQuiet_nil ?_
 refine hKp _ ?_
 clear hKp
 refine loud (by rfl) (by kernel_rfl) (fun K3 hK3 => ?_)
 obtain ⟨z0, zf0, z1, zf1, z2, zf2⟩ := cf3 hq_
 obtain ⟨gq_, n9, xx⟩ := st3 gp_ (by omega) (by omega) n_ xx (.slice (some ⟨g, o, none⟩) p.1.length cp) (.int .i64 6) (.int .i64 t1)
 go_simp
 refine hK3 _ _ gq_ ?_
 clear hK3
 refine mix_nil (os := []) (by rfl) (fun Kp hKp => ?_)
 refine wpQuiet_nil ?_
 refine hKp _ ?_
 clear hKp
 have fin := Lib.hid (hR.out _ _ _ _ (show RdY _ _ _ _ _ from ⟨rdw_none _, RdSl.nil _ none 0⟩) hx n9)
 clear hR
 clear gp_ gq_
 subst hLV
 go_wp2_with fail
 refine bodyPost_ret ?_ rfl fin.out
 simp [results, Tryz.results68, go_sem, xx.out 0 _ rfl, xx.out 1 _ rfl, xx.out 2 _ rfl, xx.out 3 _ rfl, xx.out 4 _ rfl, xx.out 5 _ rfl, xx.out 6 _ rfl, xx.out 7 _ rfl, xx.out 8 _ rfl, z0, z1, z2]
theorem kind_tok (d : Int) (p : PS) (v : Value) (w0 w : World) (hb : Below w0.heap.size w0 w) (hx : RdK w0 v p.1) (ok : Ok p) (hl : p.1.length ≤ 1000000) (he : p.2.1 = 0) (hd : ¬ (23 : Int) < d) (h1 : ¬ (Cur.hdT p.1).1 = 1) (R : Ending → World → Prop)
  (hR : Hid (∀ nv pv v' w', RdY (empW (lowS w.heap.size) w') ((((hKA 0 (Cur.hdT p.1).2.1, Fo.nil), wrongS p) : (TH × Ft) × PS)).1.1 ((((hKA 0 (Cur.hdT p.1).2.1, Fo.nil), wrongS p) : (TH × Ft) × PS)).1.2 nv pv → RdK w0 v' ((((hKA 0 (Cur.hdT p.1).2.1, Fo.nil), wrongS p) : (TH × Ft) × PS)).2.1 → Below w.heap.size w w' → R (.returned (.tuple #[tyV ((((hKA 0 (Cur.hdT p.1).2.1, Fo.nil), wrongS p) : (TH × Ft) × PS)).1.1 nv pv, psV v' ((((hKA 0 (Cur.hdT p.1).2.1, Fo.nil), wrongS p) : (TH × Ft) × PS)).2])) w')) : Calls Tryz.prog 68 #[psV v p, .int .i64 d] w R := by
 simp only at hR
 replace he := Lib.hid he
 obtain ⟨A, cp, rfl, hlc, hr⟩ := hx.op
 have hlen : 0 < p.1.length := List.length_pos_iff.2 (EndL.ne ok)
 obtain ⟨g, o, rfl, hg, hca⟩ := hr hlen
 obtain ⟨x0, x1, x2, x3, x4⟩ := hca 0 hlen
 rw [hd_tN (EndL.ne ok)] at x0 x1 x2 x3 x4
 simp only [Nat.zero_mul, Nat.add_zero] at x0 x1 x2 x3 x4
 have i1 : (0 : Int) < (p.1.length : Int) := by omega
 clear hr hca
 obtain ⟨V, eV, hA, hY, hS, n, -, zz1, zz2⟩ := box3 w (.cells #[.slice (some ⟨g, o, none⟩) p.1.length cp, .int .i64 p.2.1, .int .i64 p.2.2] 142) (.cells #[.int .i64 0, .int .i64 0, .int .i64 0, .int .i64 0, .int .i64 0, .slice none 0 0, .slice none 0 0, .string ⟨#[]⟩, .int .i64 0] 29) (.cells #[.slice none 0 0, .int .i64 0, .int .i64 0] 142)
 replace eV := Lib.hid eV
 go_enter Tryz.func68, Tryz.ntmps68
 go_upto_region 1 with fail
 rw [eV.out]
 clear eV zz1 zz2
 have hbV := hb.trans (n.mono hb.size)
 obtain ⟨j0, j1, j2⟩ := cl3 hA
 go_wp2_with fail
 refine fine16_calls (.slice (some ⟨g, o, none⟩) p.1.length cp) p ⟨_, _, _, rfl⟩ V _ (Lib.hid fun w1 n1 => ?_)
 replace hA := obB n1 hA
 replace hY := obB n1 hY
 replace hS := obB n1 hS
 replace n := n.trans (n1.mono n.size)
 clear j0 j1 j2 n1 hbV
 rw [decide_eq_true he.out]
 clear he
 have hbV := hb.trans (n.mono hb.size)
 have c0 := (hbV.cell (p := ⟨g, o, none⟩) hg).trans x0
 have c1 := (hbV.cell (p := ⟨g, o + 1, none⟩) hg).trans x1
 have c2 := (hbV.cell (p := ⟨g, o + 2, none⟩) hg).trans x2
 have c3 := (hbV.cell (p := ⟨g, o + 3, none⟩) hg).trans x3
 have c4 := (hbV.cell (p := ⟨g, o + 4, none⟩) hg).trans x4
 have cw := fun (W : World) (m : Below w.heap.size w W) => wrong16_calls p (.slice (some ⟨g, o, none⟩) p.1.length cp) w0 W (hb.trans (m.mono hb.size)) hx ok
 clear x0 x1 x2 x3 x4 hbV
 generalize Cur.hdT p.1 = tk at *
 obtain ⟨t0, t1, t2, t3, t4⟩ := tk
 simp only at hR c0 c1 c2 c3 c4 h1
 have j0 := (Lib.cell_of_heap hA 0).trans rfl
 have lT : w.heap.size + 2 < w1.heap.size := blt hS
 obtain ⟨V2, eV, hT, m_, -⟩ := box1 w1 (.cells #[.int .i64 t0, .int .i64 t1, .int .i64 t2, .string t3, .int .i64 t4] 212)
 replace eV := Lib.hid eV
 replace hA := obB m_ hA
 replace hY := obB m_ hY
 replace hS := obB m_ hS
 replace n := n.trans (m_.mono n.size)
 go_upto_region 4 with fail
 rw [eV.out]
 clear eV m_
 generalize w1.heap.size = T at *
 clear c0 c1 c2 c3 c4 j0
 have s1 := (Lib.cell_of_heap hT 1).trans rfl
 have lD : T < V2.heap.size := blt hT
 obtain ⟨V3, eV, hD, m_, -⟩ := box1 V2 (.cells #[.int .i64 0, .int .i64 t1, .int .i64 0, .int .i64 0, .int .i64 0, .slice none 0 0, .slice none 0 0, .string ⟨#[]⟩, .int .i64 0] 29)
 replace eV := Lib.hid eV
 replace hA := obB m_ hA
 replace hY := obB m_ hY
 replace hS := obB m_ hS
 replace hT := obB m_ hT
 replace n := n.trans (m_.mono n.size)
 go_upto_region 5 with (refine wpList_copy #[.int .i64 0, .int .i64 t1, .int .i64 0, .int .i64 0, .int .i64 0, .slice none 0 0, .slice none 0 0, .string ⟨#[]⟩, .int .i64 0] ⟨rfl, rfl, rfl⟩ ⟨rfl, rfl, rfl⟩ type_alloc (by kernel_rfl) ⟨rfl, by simp [Value.oneCell']⟩ (fun _ => ⟨rfl, rfl⟩) ?_; go_simp)
 rw [eV.out]
 clear eV m_
 generalize V2.heap.size = D at *
 clear s1
 have qk : (t0 != 1) = true := by simpa using h1
 clear h1
 have s0 := (Lib.cell_of_heap hT 0).trans rfl
 go_upto_region 8 with fail
 clear s0
 have jA := jf (p := w.heap.size + 1) (q := w.heap.size + 2) hA (by omega) (by omega)
 have jD := jf (p := w.heap.size + 1) (q := w.heap.size + 2) hD (by omega) (by omega)
 refine wp_region_mixG (w.heap.size + 1) (w.heap.size + 2) [([0, 1], 2), ([], 3), ([], 4)] [] (by kernel_rfl) (by kernel_rfl) (by kernel_rfl) (by kernel_rfl) (fun _ _ d _ _ h => by cases d <;> exact h) ?_
 have gW : Below V3.heap.size V3 (V3.drewN 1) := ⟨rfl, rfl, rfl, Nat.le_refl _, fun _ _ => rfl⟩
 replace hY := obB gW hY
 replace hS := obB gW hS
 replace n := n.trans (gW.mono n.size)
 refine mix_cons (os := [_, _]) (by simp only [pickO, List.filterMap_cons, List.filterMap_nil, List.getElem?_toArray, List.getElem?_cons_succ, List.getElem?_cons_zero]; rfl) (fun Kp hKp => ?_)
 refine wpQuiet_load rfl 29 _ rfl (D) 0 rfl _ _ jD Tryz.underlying29 rfl (by kernel_rfl) ?_
 go_simp
 refine wpQuiet_load rfl 142 _ rfl (w.heap.size) 0 rfl _ _ jA Tryz.underlying142 rfl (by kernel_rfl) ?_
 go_simp
 refine wpQuiet_nil ?_
 refine hKp _ ?_
 clear hKp
 refine loud (by rfl) (by kernel_rfl) (fun K1 hK1 => ?_)
 go_simp
 refine cw _ n _ (Lib.hid fun v5 w5 r5 m5 => ?_)
 obtain ⟨A5, c5, rfl, -, -⟩ := r5.op
 have gL := gW.trans (m5.mono gW.size)
 refine hK1 _ _ (GW.bl gL) ?_
 clear hK1
 replace hY := obB m5 hY
 replace hS := obB m5 hS
 replace n := n.trans (m5.mono n.size)
 generalize wrongS p = q5 at *
 refine mix_cons (os := []) (by rfl) (fun Kp hKp => ?_)
 refine wpQuiet_nil ?_
 refine hKp _ ?_
 clear hKp
 replace hR : Hid (∀ nv pv v' w', RdY (empW (lowS w.heap.size) w') (hKA 0 t1) (.nil) nv pv → RdK w0 v' q5.1 → Below w.heap.size w w' → R (.returned (.tuple #[.agg #[.int .i64 0, .int .i64 t1, .int .i64 0, .int .i64 0, .int .i64 0, nv, pv, .string ⟨#[]⟩, .int .i64 0], psV v' q5])) w') := hR
 refine loud (by rfl) (by kernel_rfl) (fun K2 hK2 => ?_)
 obtain ⟨LV, hLV⟩ : ∃ L : List Value, L = [.int .i64 0, .int .i64 t1, .int .i64 0, .int .i64 0, .int .i64 0, .slice none 0 0, .slice none 0 0, .string ⟨#[]⟩, .int .i64 0] := ⟨_, rfl⟩
 obtain ⟨ht_, gp_, hq_, n_, xx⟩ := sc_all LV hY (by rw [hLV]; rfl) (GW.bl gL) (by omega) hS (by omega) n
 refine wp_store_mid 29 _ _ (by rfl) (w.heap.size + 1) 0 LV.toArray (by rfl) (by rw [hLV]; rfl) ht_ (by rw [hLV]; kernel_rfl) (by rw [hLV]; simp [Value.oneCell']) ?_
 rw [show LV.toArray.toList = LV from rfl]
 refine hK2 _ _ gp_ ?_
 clear hK2 ht_
 generalize w5.setCells (w.heap.size + 1) 0 LV = W8 at *
 refine mix_cons (os := []) (by rfl) (fun Kp hKp => ?_)
 refine wpQuiet_nil ?_
 refine hKp _ ?_
 clear hKp
 refine loud (by rfl) (by kernel_rfl) (fun K3 hK3 => ?_)
 obtain ⟨z0, zf0, z1, zf1, z2, zf2⟩ := cf3 hq_
 obtain ⟨gq_, n9, xx⟩ := st3 gp_ (by omega) (by omega) n_ xx (.slice A5 q5.1.length c5) (.int .i64 q5.2.1) (.int .i64 q5.2.2)
 go_simp
 refine hK3 _ _ gq_ ?_
 clear hK3
 refine mix_nil (os := []) (by rfl) (fun Kp hKp => ?_)
 refine wpQuiet_nil ?_
 refine hKp _ ?_
 clear hKp
 have fin := Lib.hid (hR.out _ _ _ _ (show RdY _ _ _ _ _ from ⟨rdw_none _, RdSl.nil _ none 0⟩) r5 n9)
 clear hR
 clear gp_ gq_
 subst hLV
 go_wp2_with fail
 refine bodyPost_ret ?_ rfl fin.out
 simp [results, Tryz.results68, go_sem, xx.out 0 _ rfl, xx.out 1 _ rfl, xx.out 2 _ rfl, xx.out 3 _ rfl, xx.out 4 _ rfl, xx.out 5 _ rfl, xx.out 6 _ rfl, xx.out 7 _ rfl, xx.out 8 _ rfl, z0, z1, z2]
theorem kind_none (k : Nat) (hk : KindQ k) (d : Int) (hd : d + 1 = 24 - (k : Int)) (hd0 : 0 ≤ d) (hd1 : d ≤ 23) (p : PS) (v : Value) (w0 w : World) (hb : Below w0.heap.size w0 w) (hx : RdK w0 v p.1) (ok : Ok p) (hl : p.1.length ≤ 1000000) (he : p.2.1 = 0) (h1 : (Cur.hdT p.1).1 = 1) (ht : (Cur.hdT p.1).2.2.2.1 ≠ sBool ∧ (Cur.hdT p.1).2.2.2.1 ≠ sInt ∧ (Cur.hdT p.1).2.2.2.1 ≠ sText ∧ (Cur.hdT p.1).2.2.2.1 ≠ sEnum ∧ (Cur.hdT p.1).2.2.2.1 ≠ sList ∧ (Cur.hdT p.1).2.2.2.1 ≠ sOpt ∧ (Cur.hdT p.1).2.2.2.1 ≠ sRecord ∧ (Cur.hdT p.1).2.2.2.1 ≠ sUnion ∧ (Cur.hdT p.1).2.2.2.1 ≠ sRef) (R : Ending → World → Prop)
  (hR : Hid (∀ nv pv v' w', RdY (empW (lowS w.heap.size) w') ((((hKA 0 (Cur.hdT p.1).2.1, Fo.nil), ((onS p).1, 9, (Cur.hdT p.1).2.1)) : (TH × Ft) × PS)).1.1 ((((hKA 0 (Cur.hdT p.1).2.1, Fo.nil), ((onS p).1, 9, (Cur.hdT p.1).2.1)) : (TH × Ft) × PS)).1.2 nv pv → RdK w0 v' ((((hKA 0 (Cur.hdT p.1).2.1, Fo.nil), ((onS p).1, 9, (Cur.hdT p.1).2.1)) : (TH × Ft) × PS)).2.1 → Below w.heap.size w w' → R (.returned (.tuple #[tyV ((((hKA 0 (Cur.hdT p.1).2.1, Fo.nil), ((onS p).1, 9, (Cur.hdT p.1).2.1)) : (TH × Ft) × PS)).1.1 nv pv, psV v' ((((hKA 0 (Cur.hdT p.1).2.1, Fo.nil), ((onS p).1, 9, (Cur.hdT p.1).2.1)) : (TH × Ft) × PS)).2])) w')) : Calls Tryz.prog 68 #[psV v p, .int .i64 d] w R := by
 simp only at hR
 have okq := on_ok ok (show (Cur.hdT p.1).1 ≠ 0 by rw [h1]; decide)
 have lq : (onS p).1.length ≤ 1000000 := by rw [on_len]; omega
 replace he := Lib.hid he
 replace hd := Lib.hid hd
 replace h1 := Lib.hid h1
 replace ht := Lib.hid ht
 obtain ⟨A, cp, rfl, hlc, hr⟩ := hx.op
 have hlen : 0 < p.1.length := List.length_pos_iff.2 (EndL.ne ok)
 obtain ⟨g, o, rfl, hg, hca⟩ := hr hlen
 obtain ⟨x0, x1, x2, x3, x4⟩ := hca 0 hlen
 rw [hd_tN (EndL.ne ok)] at x0 x1 x2 x3 x4
 simp only [Nat.zero_mul, Nat.add_zero] at x0 x1 x2 x3 x4
 have i1 : (0 : Int) < (p.1.length : Int) := by omega
 have i9 : ¬ (23 : Int) < d := by omega
 clear hr hca
 obtain ⟨V, eV, hA, hY, hS, n, -, zz1, zz2⟩ := box3 w (.cells #[.slice (some ⟨g, o, none⟩) p.1.length cp, .int .i64 p.2.1, .int .i64 p.2.2] 142) (.cells #[.int .i64 0, .int .i64 0, .int .i64 0, .int .i64 0, .int .i64 0, .slice none 0 0, .slice none 0 0, .string ⟨#[]⟩, .int .i64 0] 29) (.cells #[.slice none 0 0, .int .i64 0, .int .i64 0] 142)
 replace eV := Lib.hid eV
 go_enter Tryz.func68, Tryz.ntmps68
 go_upto_region 1 with fail
 rw [eV.out]
 clear eV zz1 zz2
 have hbV := hb.trans (n.mono hb.size)
 obtain ⟨j0, j1, j2⟩ := cl3 hA
 go_wp2_with fail
 refine fine16_calls (.slice (some ⟨g, o, none⟩) p.1.length cp) p ⟨_, _, _, rfl⟩ V _ (Lib.hid fun w1 n1 => ?_)
 replace hA := obB n1 hA
 replace hY := obB n1 hY
 replace hS := obB n1 hS
 replace n := n.trans (n1.mono n.size)
 clear j0 j1 j2 n1 hbV
 rw [decide_eq_true he.out]
 clear he
 have hbV := hb.trans (n.mono hb.size)
 have c0 := (hbV.cell (p := ⟨g, o, none⟩) hg).trans x0
 have c1 := (hbV.cell (p := ⟨g, o + 1, none⟩) hg).trans x1
 have c2 := (hbV.cell (p := ⟨g, o + 2, none⟩) hg).trans x2
 have c3 := (hbV.cell (p := ⟨g, o + 3, none⟩) hg).trans x3
 have c4 := (hbV.cell (p := ⟨g, o + 4, none⟩) hg).trans x4
 have co := fun (W : World) (m : Below w.heap.size w W) => on16_calls p (.slice (some ⟨g, o, none⟩) p.1.length cp) w0 W (hb.trans (m.mono hb.size)) hx ok (.inr hlen)
 clear x0 x1 x2 x3 x4 hbV
 generalize onS p = q at *
 generalize Cur.hdT p.1 = tk at *
 obtain ⟨t0, t1, t2, t3, t4⟩ := tk
 replace h1 := h1.out
 replace ht := ht.out
 simp only at hR c0 c1 c2 c3 c4 h1 ht
 subst h1
 replace ht := Lib.hid ht
 have j0 := (Lib.cell_of_heap hA 0).trans rfl
 have lT : w.heap.size + 2 < w1.heap.size := blt hS
 obtain ⟨V2, eV, hT, m_, -⟩ := box1 w1 (.cells #[.int .i64 1, .int .i64 t1, .int .i64 t2, .string t3, .int .i64 t4] 212)
 replace eV := Lib.hid eV
 replace hA := obB m_ hA
 replace hY := obB m_ hY
 replace hS := obB m_ hS
 replace n := n.trans (m_.mono n.size)
 go_upto_region 4 with fail
 rw [eV.out]
 clear eV m_
 generalize w1.heap.size = T at *
 clear c0 c1 c2 c3 c4 j0
 have s1 := (Lib.cell_of_heap hT 1).trans rfl
 have lD : T < V2.heap.size := blt hT
 obtain ⟨V3, eV, hD, m_, -⟩ := box1 V2 (.cells #[.int .i64 0, .int .i64 t1, .int .i64 0, .int .i64 0, .int .i64 0, .slice none 0 0, .slice none 0 0, .string ⟨#[]⟩, .int .i64 0] 29)
 replace eV := Lib.hid eV
 replace hA := obB m_ hA
 replace hY := obB m_ hY
 replace hS := obB m_ hS
 replace hT := obB m_ hT
 replace n := n.trans (m_.mono n.size)
 go_upto_region 5 with (refine wpList_copy #[.int .i64 0, .int .i64 t1, .int .i64 0, .int .i64 0, .int .i64 0, .slice none 0 0, .slice none 0 0, .string ⟨#[]⟩, .int .i64 0] ⟨rfl, rfl, rfl⟩ ⟨rfl, rfl, rfl⟩ type_alloc (by kernel_rfl) ⟨rfl, by simp [Value.oneCell']⟩ (fun _ => ⟨rfl, rfl⟩) ?_; go_simp)
 rw [eV.out]
 clear eV m_
 generalize V2.heap.size = D at *
 clear s1
 have s0 := (Lib.cell_of_heap hT 0).trans rfl
 obtain ⟨j0, j1, j2⟩ := cl3 hA
 go_wp2_with fail
 refine co V3 n _ (Lib.hid fun v5 w5 r5 m5 => ?_)
 obtain ⟨A5, c5, rfl, -, -⟩ := r5.op
 replace hA := obB m5 hA
 replace hY := obB m5 hY
 replace hS := obB m5 hS
 replace hT := obB m5 hT
 replace hD := obB m5 hD
 replace n := n.trans (m5.mono n.size)
 clear m5 j0 j1 j2 co s0 i9 i1
 obtain ⟨u0, uf0, u1, uf1, u2, uf2⟩ := cf3 hA
 obtain ⟨L1_0, hL1_0⟩ : ∃ L : List (Nat × Value), L = [(0, .slice A5 q.1.length c5), (1, .int .i64 q.2.1), (2, .int .i64 q.2.2)] := ⟨_, rfl⟩
 replace hA := stB_s L1_0 hA
 replace hY := (stB_o (B := w.heap.size) (by omega) L1_0).trans hY
 replace hS := (stB_o (B := w.heap.size) (by omega) L1_0).trans hS
 replace hT := (stB_o (B := w.heap.size) (by omega) L1_0).trans hT
 replace hD := (stB_o (B := w.heap.size) (by omega) L1_0).trans hD
 replace n := stB_n (B := w.heap.size) (by omega) L1_0 n
 obtain ⟨VS1, hVS1⟩ : ∃ W, stB w5 (w.heap.size) L1_0 = W := ⟨_, rfl⟩
 rw [hVS1] at hA hY hS hT hD n
 subst hL1_0
 simp only [stC, List.setIfInBounds_toArray, List.set_cons_succ, List.set_cons_zero] at hA
 simp only [stB] at hVS1
 go_upto_region 10 with fail
 clear hVS1
 generalize VS1 = V5 at *
 clear u0 uf0 u1 uf1 u2 uf2
 have s3 := (Lib.cell_of_heap hT 3).trans rfl
 have qs0 : (t3.toList == [98, 111, 111, 108]) = false := by have := sq_f (ht.out.1); rw [tl_sBool] at this; exact this
 have qs1 : (t3.toList == [105, 110, 116]) = false := by have := sq_f (ht.out.2.1); rw [tl_sInt] at this; exact this
 have qs2 : (t3.toList == [116, 101, 120, 116]) = false := by have := sq_f (ht.out.2.2.1); rw [tl_sText] at this; exact this
 have qs3 : (t3.toList == [101, 110, 117, 109]) = false := by have := sq_f (ht.out.2.2.2.1); rw [tl_sEnum] at this; exact this
 have qs4 : (t3.toList == [108, 105, 115, 116]) = false := by have := sq_f (ht.out.2.2.2.2.1); rw [tl_sList] at this; exact this
 have qs5 : (t3.toList == [111, 112, 116]) = false := by have := sq_f (ht.out.2.2.2.2.2.1); rw [tl_sOpt] at this; exact this
 have qs6 : (t3.toList == [114, 101, 99, 111, 114, 100]) = false := by have := sq_f (ht.out.2.2.2.2.2.2.1); rw [tl_sRecord] at this; exact this
 have qs7 : (t3.toList == [117, 110, 105, 111, 110]) = false := by have := sq_f (ht.out.2.2.2.2.2.2.2.1); rw [tl_sUnion] at this; exact this
 have qs8 : (t3.toList == [114, 101, 102]) = false := by have := sq_f (ht.out.2.2.2.2.2.2.2.2); rw [tl_sRef] at this; exact this
 clear ht
 go_upto_region 11 with fail
 have kA := fun y : GW V5 (w.heap.size + 1) (w.heap.size + 2) => y.cell (blt hA) (by omega) (by omega) ((Lib.cell_of_heap hA 0).trans rfl)
 have kT := fun y : GW V5 (w.heap.size + 1) (w.heap.size + 2) => y.cell (blt hT) (by omega) (by omega) ((Lib.cell_of_heap hT 1).trans rfl)
 have jD := jf (p := w.heap.size + 1) (q := w.heap.size + 2) hD (by omega) (by omega)
 refine wp_region_mixG (w.heap.size + 1) (w.heap.size + 2) [([0, 1, 2, 3, 4, 5, 6], 7), ([], 8)] [] (by kernel_rfl) (by kernel_rfl) (by kernel_rfl) (by kernel_rfl) (fun _ _ d _ _ h => by cases d <;> exact h) ?_
 have gW : Below V5.heap.size V5 (V5.drewN 1) := ⟨rfl, rfl, rfl, Nat.le_refl _, fun _ _ => rfl⟩
 replace hY := obB gW hY
 replace hS := obB gW hS
 replace n := n.trans (gW.mono n.size)
 refine mix_cons (os := [_, _, _, _, _, _, _]) (by simp only [pickO, List.filterMap_cons, List.filterMap_nil, List.getElem?_toArray, List.getElem?_cons_succ, List.getElem?_cons_zero]; rfl) (fun Kp hKp => ?_)
 refine wpQuiet_load rfl 29 _ rfl (D) 0 rfl _ _ jD Tryz.underlying29 rfl (by kernel_rfl) ?_
 go_simp
 repeat (go_big_quiet_step (exact rfl))
 refine wpQuiet_nil ?_
 refine hKp _ ?_
 clear hKp
 replace hR : Hid (∀ nv pv v' w', RdY (empW (lowS w.heap.size) w') (hKA 0 t1) (.nil) nv pv → RdK w0 v' (q.1, (9 : Int), t1).1 → Below w.heap.size w w' → R (.returned (.tuple #[.agg #[.int .i64 0, .int .i64 t1, .int .i64 0, .int .i64 0, .int .i64 0, nv, pv, .string ⟨#[]⟩, .int .i64 0], psV v' (q.1, (9 : Int), t1)])) w') := hR
 refine loud (by rfl) (by kernel_rfl) (fun K2 hK2 => ?_)
 obtain ⟨LV, hLV⟩ : ∃ L : List Value, L = [.int .i64 0, .int .i64 t1, .int .i64 0, .int .i64 0, .int .i64 0, .slice none 0 0, .slice none 0 0, .string ⟨#[]⟩, .int .i64 0] := ⟨_, rfl⟩
 obtain ⟨ht_, gp_, hq_, n_, xx⟩ := sc_all LV hY (by rw [hLV]; rfl) (GW.bl gW) (by omega) hS (by omega) n
 refine wp_store_mid 29 _ _ (by rfl) (w.heap.size + 1) 0 LV.toArray (by rfl) (by rw [hLV]; rfl) ht_ (by rw [hLV]; kernel_rfl) (by rw [hLV]; simp [Value.oneCell']) ?_
 rw [show LV.toArray.toList = LV from rfl]
 refine hK2 _ _ gp_ ?_
 clear hK2 ht_
 generalize (V5.drewN 1).setCells (w.heap.size + 1) 0 LV = W8 at *
 refine mix_cons (os := []) (by rfl) (fun Kp hKp => ?_)
 refine wpQuiet_nil ?_
 refine hKp _ ?_
 clear hKp
 refine loud (by rfl) (by kernel_rfl) (fun K3 hK3 => ?_)
 obtain ⟨z0, zf0, z1, zf1, z2, zf2⟩ := cf3 hq_
 obtain ⟨gq_, n9, xx⟩ := st3 gp_ (by omega) (by omega) n_ xx (.slice A5 q.1.length c5) (.int .i64 9) (.int .i64 t1)
 go_simp
 refine hK3 _ _ gq_ ?_
 clear hK3
 refine mix_nil (os := []) (by rfl) (fun Kp hKp => ?_)
 refine wpQuiet_nil ?_
 refine hKp _ ?_
 clear hKp
 have fin := Lib.hid (hR.out _ _ _ _ (show RdY _ _ _ _ _ from ⟨rdw_none _, RdSl.nil _ none 0⟩) r5 n9)
 clear hR
 clear gp_ gq_
 subst hLV
 go_wp2_with fail
 refine bodyPost_ret ?_ rfl fin.out
 simp [results, Tryz.results68, go_sem, xx.out 0 _ rfl, xx.out 1 _ rfl, xx.out 2 _ rfl, xx.out 3 _ rfl, xx.out 4 _ rfl, xx.out 5 _ rfl, xx.out 6 _ rfl, xx.out 7 _ rfl, xx.out 8 _ rfl, z0, z1, z2]
end Go.Proofs.YtncijmodlhijoaaGreat.Syn
