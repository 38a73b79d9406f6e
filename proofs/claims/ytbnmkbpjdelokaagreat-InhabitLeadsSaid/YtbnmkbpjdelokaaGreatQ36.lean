import Derived.Test.YtbnmkbpjdelokaaGreatQ35
set_option linter.unusedVariables false
set_option maxRecDepth 100000
set_option maxHeartbeats 4000000
namespace Go.Proofs.YtbnmkbpjdelokaaGreat.Res
open Go.RowKit Go.Lib Utf Nam Lat Kin Unp Rel Lab
section
variable {base B : Nat} {lv tv tab : Value} {rh : TH} {rnv rpv : Value} {w0 : World}
theorem each0_calls {G : TH → Ft → Prop} {tys : List Nd} {rf : Ft} {fn : FuncId} (J : Nat → BS → Prop) (ht : RdNs w0 tv tys) (hroot : RdY w0 rh rf rnv rpv) (hlow : w0.heap.size ≤ base) (hl : tys.length ≤ maxLen) (hG : ∀ x ∈ tys, G x.2.1 x.2.2) (hGr : G rh rf) (hfn : IsF fn)
    (hop : ∀ K s h f nv' pv' V, (K < tys.length ∧ h = (nN tys K).2.1 ∧ f = (nN tys K).2.2 ∨ K = tys.length ∧ h = rh ∧ f = rf) → J K s → (BF base B lv tv tab rh rnv rpv).Inv V s → Below w0.heap.size w0 V → RdY w0 h f nv' pv' → G h f → ∀ R : Ending → World → Prop, Hid (∀ W s', J (K + 1) s' → Hq (BF base B lv tv tab rh rnv rpv) s s' V W [] → R (.returned (FtV (0, 0))) W) → Calls Tryz.prog fn #[.pointer (some ⟨B, 0, none⟩), tyV h nv' pv'] V R)
    (s : BS) (w : World) (h0 : J 0 s) (hI : (BF base B lv tv tab rh rnv rpv).Inv w s) (hb : Below w0.heap.size w0 w) (R : Ending → World → Prop)
    (hR : Hid (∀ W s', J (tys.length + 1) s' → Hq (BF base B lv tv tab rh rnv rpv) s s' w W [] → R (.returned (FtV (0, 0))) W)) : Calls Tryz.prog 83 #[.pointer (some ⟨B, 0, none⟩), .func (.func fn) #[.pointer (some ⟨B, 0, none⟩)] #[]] w R := by
  replace hl : tys.length ≤ 9223372036854775807 := hl
  obtain ⟨A, c, rfl, hc, hel⟩ := nds_el ht
  obtain ⟨Rn, rn, rfl, -, -⟩ := hroot.n.op
  obtain ⟨Rp, rp, rfl, -⟩ := hroot.p.sl
  have m0 := Hq.nil hI
  obtain ⟨V, e2, n, z2⟩ := m0.new (.cells #[.int .i64 0, .int .i64 0] 37)
  clear m0 z2
  unfold IsF at hfn
  replace hel := Lib.hid hel
  replace hG := Lib.hid hG
  replace hop := Lib.hid hop
  have b1 := n.bc 1 rfl
  have hlo := bF_low base B lv (.slice A tys.length c) tab rh (.slice Rn rh.names.length rn) (.slice Rp rf.len rp) hlow
  go_enter Tryz.func83, Tryz.ntmps83
  go_upto_region 1 with fail
  clear e2
  go_wp2_with fail
  clear b1
  go_loopg [13] tys.length (fun g i wr => ∃ (K : Nat) (sK : BS), i = .int .i64 K ∧ K + g = tys.length ∧ Hid (J K sK) ∧ Hid (Hq (BF base B lv (.slice A tys.length c) tab rh (.slice Rn rh.names.length rn) (.slice Rp rf.len rp)) s sK w wr [(w.heap.size, .cells #[.int .i64 0, .int .i64 0] 37)]))
  case atStart => exact ⟨0, s, rfl, by omega, Lib.hid h0, Lib.hid n⟩
  case round =>
    clear n
    obtain ⟨K, sK, rfl, e1, jK, n⟩ := hrel
    replace n := n.out
    have hbW := hb.trans (n.below hb.size (hlo s))
    by_cases hK : K < tys.length
    · obtain ⟨g, o, N1, N3, M1, M3, rfl, hxy, hrg⟩ := hel.out K hK
      have hGx := hG.out _ (nd_mem hK)
      have rg := hrg wr hbW
      have hop1 := Lib.hid fun nv' pv' V => hop.out K sK (nN tys K).2.1 (nN tys K).2.2 nv' pv' V (.inl ⟨hK, rfl, rfl⟩) jK.out
      clear hrg hbW
      generalize nN tys K = x at *
      have i0 : (0 : Int) ≤ (K : Int) := by omega
      have i1 : (K : Int) < (tys.length : Int) := by omega
      obtain ⟨V3, e3, n, z3⟩ := n.new (.cells (ndL x (.slice N1 x.2.1.names.length N3) (.slice M1 x.2.2.len M3)).toArray 80)
      go_upto_region 4 with (first | (refine wpList_load_g (by rfl) 80 _ rfl g (o + K * 11) rfl _ _ rg Tryz.underlying80 rfl (by kernel_rfl) ?_; go_simp) | (refine wpList_copy (ndL x (.slice N1 x.2.1.names.length N3) (.slice M1 x.2.2.len M3)).toArray ⟨rfl, rfl, rfl⟩ ⟨rfl, rfl, rfl⟩ named_alloc (by kernel_rfl) ⟨rfl, by simp [Value.oneCell']⟩ (fun _ => ⟨rfl, rfl⟩) ?_; go_simp))
      clear rg e3 z3
      have r2 : V3.rangeAt wr.heap.size 2 (tyL x.2.1 (.slice N1 x.2.1.names.length N3) (.slice M1 x.2.2.len M3)) := n.rgd 0 2 rfl
      have hbV := hb.trans (n.below hb.size (hlo s))
      go_wp2_with (refine wpList_load_g (by rfl) 29 _ rfl wr.heap.size (2) rfl _ _ r2 Tryz.underlying29 rfl (by kernel_rfl) ?_; go_simp)
      refine hop1.out _ _ V3 n.inv hbV hxy hGx _ (Lib.hid fun W4 s4 j4 c4 => ?_)
      replace n := (n.call c4).tail
      clear c4 r2 hbV hGx hxy hop1
      obtain ⟨b, hb0⟩ : ∃ b : Int × Int, b = (0, 0) := ⟨_, rfl⟩
      rw [← hb0]
      obtain ⟨b0, b1⟩ := b
      simp only [Prod.mk.injEq] at hb0
      replace hb0 := Lib.hid hb0
      obtain ⟨V5, e5, n, z5⟩ := n.new (.cells #[.int .i64 b0, .int .i64 b1] 37)
      go_upto_region 5 with fail
      clear e5 z5
      obtain ⟨rfl, rfl⟩ := hb0.out
      have a_0 := n.c 0 0 rfl rfl
      have a_1 := n.c 0 1 rfl rfl
      replace n := Lib.hid n.tail
      replace j4 := Lib.hid j4
      clear hR
      go_wp2_with fail
      go_roundg (gk - 1)
      case measure => omega
      case rel => exact ⟨K + 1, s4, by go_num, by omega, j4, n⟩
    · obtain rfl : K = tys.length := by omega
      have rB := bs_root n
      have hop1 := Lib.hid fun nv' pv' V => hop.out tys.length sK rh rf nv' pv' V (.inr ⟨rfl, rfl, rfl⟩) jK.out
      go_wp2_with (refine wpList_load_g (by rfl) 29 _ rfl B (2) rfl _ _ rB Tryz.underlying29 rfl (by kernel_rfl) ?_; go_simp)
      refine hop1.out _ _ wr n.inv hbW hroot hGr _ (Lib.hid fun W4 s4 j4 c4 => ?_)
      replace n := n.call c4
      clear c4 rB hbW hop1
      have y0 := n.c 0 0 rfl rfl
      have yf0 := n.f 0 0 rfl
      have y1 := n.c 0 1 rfl rfl
      have yf1 := n.f 0 1 rfl
      obtain ⟨VE, eE, nE, -⟩ := n.put (j := 0) rfl [(0, .int .i64 0), (1, .int .i64 0)]
      simp only [stL] at eE
      simp only [stA, List.setIfInBounds_toArray, List.set_cons_succ, List.set_cons_zero] at nE
      have w0_ := nE.c 0 0 rfl rfl
      have w1_ := nE.c 0 1 rfl rfl
      have fin := Lib.hid (hR.out _ _ j4 nE.fin)
      clear nE n hR
      go_wp2_with fail
      first | refine bodyPost_ret ?_ rfl fin.out | refine bodyPost_end ?_ rfl fin.out
      simp [results, Tryz.results83, go_sem, w0_, w1_]
end
theorem own_emp18 {w : World} {base : Nat} {e : TypeId} {k n : Nat} {v : Value} {xs : List Value} (h : w.ownsRow base e k v n xs) : RdAt (empW (lowS base) w) v k xs := by
  have h0 := h
  obtain ⟨hl, ⟨rfl, rfl⟩ | ⟨g, cap, cur, rfl, hb, hg, hn, hm, hc, ht⟩⟩ := h
  · exact ⟨none, 0, 0, rfl, hl, Nat.le_refl _, fun h => absurd h (by omega)⟩
  · refine ⟨_, n, cap, rfl, hl, hn, fun _ => ⟨g, 0, rfl, ?_, fun j u hj => ?_⟩⟩
    · rw [emp_size]
      exact (h0.lt g rfl).2
    · have := h0.cells (g := g) rfl j u hj
      rw [Addr.add_lit] at this
      exact emp_cell.2 ⟨by unfold lowS; omega, this⟩
theorem str_in : (Tryz.prog.info? 9).map (fun i => (i.zero, i.size, i.bytes)) = some (some (.string ⟨#[]⟩), 1, 16) := by kernel_rfl
theorem str_info : ∃ i0, Tryz.prog.info? 9 = some i0 ∧ (i0.zero, i0.size, i0.bytes) = (some (.string ⟨#[]⟩), 1, 16) := by
  have := str_in
  cases h : Tryz.prog.info? 9 with
  | none => rw [h] at this; cases this
  | some i0 => rw [h] at this; exact ⟨i0, rfl, by simpa using this⟩
theorem nms_take {l : List Wr} {K : Nat} (h : K < l.length) : sv ((nms l).take (K + 1)) = sv ((nms l).take K) ++ [.string (wN l K).1] := by
  have hk : K < (nms l).length := by rw [nms_len]; exact h
  rw [List.take_succ_eq_append_getElem hk, wN_get h]
  simp [sv, nms]
theorem texts_calls (l : List Wr) (hl : l.length ≤ 1000000) (va : Value) (w : World) (ha : RdW w va l) (R : Ending → World → Prop) (hR : Hid (∀ v' w', RdS (empW (lowS w.heap.size) w') v' (nms l) → Shp v' → Below w.heap.size w w' → R (.returned v') w')) : Calls Tryz.prog 135 #[va] w R := by
  obtain ⟨ti, hI, hZ⟩ := str_info
  simp only [Prod.mk.injEq] at hZ
  obtain ⟨hz0, hz1, hz2⟩ := hZ
  obtain ⟨A, ca, rfl, hca, hra⟩ := ha.op
  replace hra := Lib.hid hra
  clear ha
  go_enter Tryz.func135, Tryz.ntmps135
  go_wp2_with fail
  go_loopg [3, 8] l.length (fun g s k wr => ∃ (K : Nat) (v : Value), s = v ∧ k = .int .i64 K ∧ K + g = l.length ∧ Hid (Below w.heap.size w wr) ∧ Hid (wr.ownsRow w.heap.size 9 1 v K (sv ((nms l).take K))))
  case atStart => exact ⟨0, _, rfl, rfl, by omega, Lib.hid (Below.refl _ _), Lib.hid (by simpa [sv] using World.ownsRow_nil _ _ _ _)⟩
  case round =>
    obtain ⟨K, v, rfl, rfl, e1, nb, own⟩ := hrel
    by_cases hK : K < l.length
    · obtain ⟨g, o, rfl, hg, hc⟩ := hra.out (by omega)
      have x0 := (nb.out.cell (p := ⟨g, o + K * 2, none⟩) hg).trans (hc K hK).1
      have x1 := (nb.out.cell (p := ⟨g, o + K * 2 + 1, none⟩) hg).trans (hc K hK).2
      have i0 : (0 : Int) ≤ (K : Int) := by omega
      have i1 : (K : Int) < (l.length : Int) := by omega
      have ht := nms_take hK
      clear hc
      generalize (wN l K).1 = s at *
      generalize (wN l K).2 = z at *
      have bP := (Below.refl wr.heap.size wr).alloc (Nat.le_refl _) (.cells #[.string s, .int .i64 z] 27)
      have hb := heap_alloc_new wr (.cells #[.string s, .int .i64 z] 27)
      have own1 := Lib.hid (own_below own.out bP)
      have nbP := Lib.hid (nb.out.trans (bP.mono nb.out.size))
      have hsz := nbP.out.size
      go_upto_region 5 with fail
      generalize wr.alloc (.cells #[.string s, .int .i64 z] 27) = V at *
      generalize wr.heap.size = B at *
      clear x0 x1 own nb bP
      have x0 := (Lib.cell_of_heap hb 0).trans rfl
      clear hb
      go_wp2_with (at_builtin; go_loud (refine appKF V #[.string s] 1 9 rfl _ _ 52 rfl w.heap.size ti (.string ⟨#[]⟩) 16 Tryz.underlying52 hI hz0 hz1 hz2 rfl (by decide) rfl _ K (sv ((nms l).take K)) rfl own1.out _ rfl rfl (by simp [Value.oneCell']) (by unfold maxLen; omega) (by omega) hsz ?_); rintro v' w3 hown3 hg3 hb3 -)
      have own2 := Lib.hid (show w3.ownsRow w.heap.size 9 1 v' (K + 1) (sv ((nms l).take (K + 1))) by rw [ht]; exact hown3)
      have nb2 := Lib.hid (nbP.out.trans hb3)
      clear hown3 hg3 hb3 own1 nbP ht x0
      go_wp2_with fail
      go_roundg (gk - 1)
      case measure => omega
      case rel => exact ⟨K + 1, _, rfl, by go_num, by omega, nb2, own2⟩
    · obtain rfl : K = l.length := by omega
      have et : (nms l).take l.length = nms l := by rw [← nms_len l, List.take_length]
      have rd := own_emp18 own.out
      rw [et] at rd
      have fin := Lib.hid (hR.out _ _ rd (own_shp own.out) nb.out)
      clear hR rd own
      go_wp2_with fail
      exact fin.out
end Go.Proofs.YtbnmkbpjdelokaaGreat.Res
namespace Go.Proofs.YtbnmkbpjdelokaaGreat
open Go.RowKit Go.Lib
theorem Hq.grow {S : Type} {F : Fm S} {s0 s : S} {w V W : World} {l : List (Nat × Obj)} (n : Hq F s0 s w V l) {o : Option Nat} (g : V.grownBy W o) (ho : ∀ k, o = some k → w.heap.size ≤ k ∧ ¬ F.Fr s k ∧ ∀ x ∈ l, x.1 ≠ k) : Hq F s0 s w W l :=
  ⟨F.keep n.inv g.size fun k hk => g.block k (F.lt n.inv hk) fun e => (ho k e.symm).2.1 hk,
    n.gr.trans (T := fun k => o = some k) ⟨g.os, g.tape, g.output, g.size, fun k hk hn => g.block k hk fun e => hn e.symm⟩ fun k e => .inr (ho k e).1,
    n.sub, fun x hx => (g.block _ (hp_lt (n.at_ x hx)) fun e => (ho _ e.symm).2.2 x hx rfl).trans (n.at_ x hx), n.lo, n.dj⟩
end Go.Proofs.YtbnmkbpjdelokaaGreat
namespace Go.Proofs.YtbnmkbpjdelokaaGreat.Res
open Go.RowKit Go.Lib Utf Nam Lat Kin Unp Rel Lab
def edP (nm : List ByteArray) (F : Nat → Nat → Bool) (p : PH) (d : Int) : EdR := ⟨p.name, p.bare, p.at_, d, (lof nm F p.label).1, if p.wide = 0 then 3 else p.wide, p.ck, p.cn, (lof nm F p.cl).1, p.cat⟩
def ndP (h : TH) : NdR := ⟨h.kind, h.at_, h.lo, h.hi, h.most, nms h.names, []⟩
def addW (tg : ByteArray → Int) (h : TH) (g : List NdR → List EdR × List NdR) (l : List NdR) : Int × List NdR :=
  if h.kind = 9 then (tg h.name, l) else ((l.length : Int), (g (l ++ [ndP h])).2.set l.length { ndP h with edges := (g (l ++ [ndP h])).1 })
def addF (nm : List ByteArray) (F : Nat → Nat → Bool) (tg : ByteArray → Int) : Ft → List NdR → List EdR × List NdR
  | .nil, l => ([], l)
  | .cons p h k r, l =>
    let a := if p.bare then (-1, l) else addW tg h (addF nm F tg k) l
    (edP nm F p a.1 :: (addF nm F tg r a.2).1, (addF nm F tg r a.2).2)
def addT (nm : List ByteArray) (F : Nat → Nat → Bool) (tg : ByteArray → Int) (h : TH) (f : Ft) (l : List NdR) : Int × List NdR := addW tg h (addF nm F tg f) l
def Behind (l m : List NdR) (n : Nat) : Prop := l.length ≤ m.length ∧ m.length ≤ l.length + n ∧ ∀ i, i < l.length → m[i]? = l[i]?
theorem Behind.refl (l : List NdR) : Behind l l 0 := ⟨Nat.le_refl _, Nat.le_refl _, fun _ _ => rfl⟩
theorem Behind.trans {a b c : List NdR} {n m : Nat} (h : Behind a b n) (g : Behind b c m) : Behind a c (n + m) :=
  ⟨Nat.le_trans h.1 g.1, by have := h.2.1; have := g.2.1; omega, fun i hi => (g.2.2 i (Nat.lt_of_lt_of_le hi h.1)).trans (h.2.2 i hi)⟩
theorem Behind.snoc (l : List NdR) (x : NdR) : Behind l (l ++ [x]) 1 := ⟨by simp, by simp, fun i hi => List.getElem?_append_left hi⟩
theorem addW_behind {tg : ByteArray → Int} {h : TH} {g : List NdR → List EdR × List NdR} {n : Nat} (hg : ∀ l, Behind l (g l).2 n) (l : List NdR) : Behind l (addW tg h g l).2 (n + 1) := by
  unfold addW
  by_cases c : h.kind = 9
  · rw [if_pos c]
    exact ⟨Nat.le_refl _, (by show l.length ≤ l.length + (n + 1); omega), fun _ _ => rfl⟩
  · rw [if_neg c]
    have b := (Behind.snoc l (ndP h)).trans (hg (l ++ [ndP h]))
    refine ⟨by rw [List.length_set]; exact b.1, by rw [List.length_set]; have := b.2.1; omega, fun i hi => ?_⟩
    rw [List.getElem?_set_ne (by omega)]
    exact b.2.2 i hi
theorem addF_behind {nm : List ByteArray} {F : Nat → Nat → Bool} {tg : ByteArray → Int} : ∀ (f : Ft) (l : List NdR), Behind l (addF nm F tg f l).2 (Kin.cntF f)
  | .nil, l => .refl l
  | .cons p h k r, l => by
    have e : Kin.cntF (.cons p h k r) = (if p.bare then 0 else Kin.cntF k + 1) + Kin.cntF r := rfl
    rw [e]
    show Behind l (addF nm F tg r (if p.bare then (-1, l) else addW tg h (addF nm F tg k) l).2).2 _
    refine Behind.trans ?_ (addF_behind r _)
    by_cases c : p.bare = true
    · rw [if_pos c, if_pos c]; exact .refl l
    · rw [if_neg c, if_neg c]; exact addW_behind (addF_behind k) l
theorem addF_len {nm : List ByteArray} {F : Nat → Nat → Bool} {tg : ByteArray → Int} : ∀ (f : Ft) (l : List NdR), (addF nm F tg f l).1.length = f.len
  | .nil, l => rfl
  | .cons p h k r, l => by
    show (addF nm F tg r (if p.bare then (-1, l) else addW tg h (addF nm F tg k) l).2).1.length + 1 = _
    rw [addF_len r]
    rfl
def addK (nm : List ByteArray) (F : Nat → Nat → Bool) (tg : ByteArray → Int) (p : PH) (h : TH) (k : Ft) (l : List NdR) : EdR × List NdR :=
  (edP nm F p (if p.bare then (-1, l) else addW tg h (addF nm F tg k) l).1, (if p.bare then (-1, l) else addW tg h (addF nm F tg k) l).2)
theorem addF_cons (nm : List ByteArray) (F : Nat → Nat → Bool) (tg : ByteArray → Int) (p : PH) (h : TH) (k r : Ft) (l : List NdR) : addF nm F tg (.cons p h k r) l = ((addK nm F tg p h k l).1 :: (addF nm F tg r (addK nm F tg p h k l).2).1, (addF nm F tg r (addK nm F tg p h k l).2).2) := rfl
theorem addK_behind (nm : List ByteArray) (F : Nat → Nat → Bool) (tg : ByteArray → Int) (p : PH) (h : TH) (k : Ft) (l : List NdR) : Behind l (addK nm F tg p h k l).2 (if p.bare then 0 else Kin.cntF k + 1) := by
  unfold addK
  by_cases c : p.bare = true
  · rw [if_pos c, if_pos c]; exact .refl l
  · rw [if_neg c, if_neg c]; exact addW_behind (addF_behind k) l
theorem ok_len {h : TH} {f : Ft} (ok : okT h f) : f.len ≤ 64 ∧ h.names.length ≤ 64 := by
  obtain ⟨k1, k9, ow, -, -, -, -, hn, k56, k78, -⟩ := ok.1
  simp only [ownB, decide_eq_true_eq] at ow
  constructor
  · have hk : (h.kind = 5 ∨ h.kind = 6) ∨ (h.kind = 7 ∨ h.kind = 8) ∨ f.len = 0 := by omega
    rcases hk with hk | hk | hk
    · have ho := k56 hk
      cases Nat.decEq f.len 1 with
      | isTrue q => omega
      | isFalse q => rw [only_len q] at ho; cases ho
    · exact k78 hk
    · omega
  · rcases ow.2.2.1 with q | q
    · exact (hn q).2.1
    · rw [q]; exact Nat.zero_le _
theorem own_empS {S : Nat → Prop} {w : World} {base : Nat} {e : TypeId} {k n : Nat} {v : Value} {xs : List Value} (h : w.ownsRow base e k v n xs) (hS : ∀ g, v.ownBlock = some g → ¬ S g) : RdAt (empW S w) v k xs := by
  have h0 := h
  obtain ⟨hl, ⟨rfl, rfl⟩ | ⟨g, cap, cur, rfl, hb, hg, hn, hm, hc, ht⟩⟩ := h
  · exact ⟨none, 0, 0, rfl, hl, Nat.le_refl _, fun h => absurd h (by omega)⟩
  · refine ⟨_, n, cap, rfl, hl, hn, fun _ => ⟨g, 0, rfl, ?_, fun j u hj => ?_⟩⟩
    · rw [emp_size]
      exact (h0.lt g rfl).2
    · have := h0.cells (g := g) rfl j u hj
      rw [Addr.add_lit] at this
      exact emp_cell.2 ⟨hS g rfl, this⟩
theorem flatG_set {α : Type} {enc : α → List Value} {k j : Nat} (hk : ∀ x, (enc x).length = k) (hj : j < k) {u : Value} {x y : α} (hu : (enc x).set j u = enc y) : ∀ (l : List α) (i : Nat), l[i]? = some x → (flatG enc l).set (i * k + j) u = flatG enc (l.set i y)
  | [], i, h => by simp at h
  | a :: l, 0, h => by
    obtain rfl : a = x := by simpa using h
    show (enc a ++ flatG enc l).set (0 * k + j) u = enc y ++ flatG enc l
    rw [Nat.zero_mul, Nat.zero_add, List.set_append, if_pos (by rw [hk]; exact hj), hu]
  | a :: l, i + 1, h => by
    rw [List.getElem?_cons_succ] at h
    have ih := flatG_set hk hj hu l i h
    show (enc a ++ flatG enc l).set ((i + 1) * k + j) u = enc a ++ flatG enc (l.set i y)
    have e : (i + 1) * k + j = i * k + j + k := by rw [Nat.add_mul]; omega
    rw [List.set_append, hk, if_neg (by omega), show (i + 1) * k + j - k = i * k + j by omega, ih]
section
variable {base B : Nat} {lv tv tab : Value} {h : TH} {nv pv : Value}
theorem bs_edges {s0 s : BS} {w V : World} {l : List (Nat × Obj)} (n : Hq (BF base B lv tv tab h nv pv) s0 s w V l) {i G c b0 : Nat} {x : Nv} (hx : s.nd[i]? = some x) (hnv : s.nv = .slice (some ⟨G, 0, none⟩) s.nd.length c) {ev : Value} {es : List EdR} (hrow : V.ownsRow b0 63 10 ev es.length (flatG encE es))
    (hbw : base ≤ w.heap.size) (ho : ∀ k, ev.ownBlock = some k → w.heap.size ≤ k ∧ ¬ bFr base B s k ∧ ∀ y ∈ l, y.1 ≠ k) :
    Hq (BF base B lv tv tab h nv pv) s0 { s with nd := s.nd.set i ({ x.1 with edges := es }, x.2.1, ev), T := fun k => s.T k ∨ ev.ownBlock = some k } w (V.setCell ⟨G, i * 7 + 6, none⟩ ev) l := by
  have j : BInv base B lv tv tab h nv pv V s := n.inv
  have on := j.on
  have og : s.nv.ownBlock = some G := by rw [hnv]; rfl
  rw [hnv] at on
  obtain ⟨own2, g2⟩ := on.stored (i * 7 + 6) ev
  rw [flatG_set (y := ({ x.1 with edges := es }, x.2.1, ev)) encN_len (by decide) rfl s.nd i hx] at own2
  have fG : bFr base B s G := ⟨(on.lt G rfl).1, .inr (.inr (.inl og))⟩
  have lG := (on.lt G rfl).2
  have hne : ∀ k, k < V.heap.size → k ≠ G → (V.setCell ⟨G, i * 7 + 6, none⟩ ev).heap[k]? = V.heap[k]? := fun k hk q => g2.block k hk fun e => q (Option.some.inj e)
  have sz := g2.size
  have neB : B ≠ G := fun e => j.d2 (e ▸ og)
  have neE : ∀ k, ev.ownBlock = some k → k ≠ G := fun k q e => (ho k q).2.1 (e ▸ fG)
  have kp : Kp (empW (fun k => ¬ s.T k) V) (empW (fun k => ¬ (s.T k ∨ ev.ownBlock = some k)) (V.setCell ⟨G, i * 7 + 6, none⟩ ev)) := emp_kp sz fun k hk hn => ⟨fun q => q (.inl (Classical.not_not.1 hn)), hne k hk fun e => (j.t k (Classical.not_not.1 hn)).2.2.2.2 (e ▸ og)⟩
  have rde : RdEd (empW (fun k => ¬ (s.T k ∨ ev.ownBlock = some k)) (V.setCell ⟨G, i * 7 + 6, none⟩ ev)) ev es := own_empS (ownKp hrow fun k q _ => hne k (hrow.lt k q).2 (neE k q)) fun k q hn => hn (.inr q)
  refine ⟨⟨j.hB, (hne B (hp_lt j.box) neB).trans j.box, ownKp j.os fun k q _ => hne k (j.os.lt k q).2 fun e => j.d3 k q (e ▸ og), by rw [hnv, List.length_set]; exact own2, fun k q => ?_, fun y hy => ?_, j.d1, j.d2, j.d3, fun y hy => by
    rcases List.mem_or_eq_of_mem_set hy with hy | rfl
    · exact j.sh y hy
    · exact ⟨(j.sh x (List.mem_of_getElem? hx)).1, own_shp hrow⟩⟩, ?_, fun k q => ?_, fun y hy => ?_, fun y hy => ⟨(n.lo y hy).1, fun q => ?_⟩, n.dj⟩
  · rcases q with q | q
    · obtain ⟨t1, t2, t3, t4, t5⟩ := j.t k q
      exact ⟨t1, Nat.lt_of_lt_of_le t2 sz, t3, t4, t5⟩
    · have o := ho k q
      exact ⟨Nat.le_trans hbw o.1, Nat.lt_of_lt_of_le (hrow.lt k q).2 sz, fun e => o.2.1 ⟨Nat.le_trans hbw o.1, .inl e⟩, fun e => o.2.1 ⟨(j.os.lt k e).1, .inr (.inl e)⟩, fun e => o.2.1 ⟨(j.on.lt k e).1, .inr (.inr (.inl e))⟩⟩
  · rcases List.mem_or_eq_of_mem_set hy with hy | rfl
    · exact ⟨RdAt.kp kp (j.rd y hy).1, RdAt.kp kp (j.rd y hy).2⟩
    · exact ⟨RdAt.kp kp (j.rd x (List.mem_of_getElem? hx)).1, rde⟩
  · exact n.gr.trans (Gr.of g2) fun k e => by subst e; exact n.sub k fG
  · rcases q.2 with e | e | e | e | e
    · exact n.sub k ⟨q.1, .inl e⟩
    · exact n.sub k ⟨q.1, .inr (.inl e)⟩
    · exact n.sub k ⟨q.1, .inr (.inr (.inl e))⟩
    · exact n.sub k ⟨q.1, .inr (.inr (.inr e))⟩
    · exact .inr (ho k e).1
  · exact (hne _ (hp_lt (n.at_ y hy)) fun e => (n.lo y hy).2 (e ▸ fG)).trans (n.at_ y hy)
  · rcases q.2 with e | e | e | e | e
    · exact (n.lo y hy).2 ⟨q.1, .inl e⟩
    · exact (n.lo y hy).2 ⟨q.1, .inr (.inl e)⟩
    · exact (n.lo y hy).2 ⟨q.1, .inr (.inr (.inl e))⟩
    · exact (n.lo y hy).2 ⟨q.1, .inr (.inr (.inr e))⟩
    · exact (ho _ e).2.2 y hy rfl
end
end Go.Proofs.YtbnmkbpjdelokaaGreat.Res
namespace Go.Proofs.YtbnmkbpjdelokaaGreat
open Go.RowKit Go.Lib
theorem Hq.row {S : Type} {F : Fm S} {s0 s : S} {w V : World} {l : List (Nat × Obj)} {j a : Nat} {c : Array Value} {t : TypeId} (h : Hq F s0 s w V l) (hj : l[j]? = some (a, .cells c t)) (C : Array Value) : ∃ V', V.setRow a C = V' ∧ Hq F s0 s w V' (l.set j (a, .cells C t)) := by
  have hm := List.mem_of_getElem? hj
  have lo := h.lo _ hm
  have ha : (V.setRow a C).heap[a]? = some (.cells C t) := setRow_heap V a c C t (0, 0) (h.at_ _ hm)
  have hn : ∀ k, k ≠ a → (V.setRow a C).heap[k]? = V.heap[k]? := fun k hk => setRow_other _ _ _ _ (by omega)
  have hz : (V.setRow a C).heap.size = V.heap.size := by simp
  refine ⟨_, rfl, ⟨F.keep h.inv (Nat.le_of_eq hz.symm) fun k hk => hn k (by rintro rfl; exact lo.2 hk), ?_, h.sub, hq_turn hj h.dj h.at_ ha hn, fun x hx => ?_, hp_setl (R := fun x y => x.1 ≠ y.1) (x := (a, .cells c t)) (y := (a, .cells C t)) (fun z => ⟨Iff.rfl, Iff.rfl⟩) hj h.dj⟩⟩
  · exact h.gr.trans (T := fun k => k = a) ⟨rfl, rfl, rfl, Nat.le_of_eq hz.symm, fun k _ q => hn k q⟩ fun k e => .inr (by subst e; exact lo.1)
  · rcases List.mem_or_eq_of_mem_set hx with hx | rfl
    · exact h.lo x hx
    · exact lo
end Go.Proofs.YtbnmkbpjdelokaaGreat
namespace Go.Proofs.YtbnmkbpjdelokaaGreat.Res
open Go.RowKit Go.Lib Utf Nam Lat Kin Unp Rel Lab
theorem edge_alloc (ρ : Operand → Value) (W : World) (o : Oper) (h : o.op = .alloc 63) : (execOp ρ o).run Tryz.prog W = .ok (.value (ptA W.heap.size)) (W.alloc (.cells #[.string ⟨#[]⟩, .bool false, .int .i64 0, .int .i64 0, .int .i64 0, .int .i64 0, .int .i64 0, .int .i64 0, .int .i64 0, .int .i64 0] 63)) := by
  simp [execOp, h, go_sem, ptA]
def tgI (tys : List Nd) (st : List Int) (x : ByteArray) : Int := st.getD (tgtS tys tys.length x).1.toNat 0
section
variable (base B : Nat) (lv tv tab : Value) (rh : TH) (rnv rpv : Value) (w0 : World) (nm : List ByteArray) (F : Nat → Nat → Bool) (tys : List Nd) (st : List Int)
def AddC (f : Ft) : Prop := ∀ (s : BS) (h : TH) (nv pv : Value) (w : World), (BF base B lv tv tab rh rnv rpv).Inv w s → Below w0.heap.size w0 w → RdY w0 h f nv pv → GoodK h f → s.st = st → s.nd.length + 1 + Kin.cntF f ≤ 1000000 → ∀ R : Ending → World → Prop,
  Hid (∀ W s', s'.st = st → s'.nd.map (·.1) = (addT nm F (tgI tys st) h f (s.nd.map (·.1))).2 → Hq (BF base B lv tv tab rh rnv rpv) s s' w W [] → R (.returned (.int .i64 (addT nm F (tgI tys st) h f (s.nd.map (·.1))).1)) W) → Calls Tryz.prog 88 #[.pointer (some ⟨B, 0, none⟩), tyV h nv pv] w R
end
end Go.Proofs.YtbnmkbpjdelokaaGreat.Res
