import Derived.Test.YtbnmkbpjdelokaaGreatQ32
set_option linter.unusedVariables false
set_option maxRecDepth 100000
set_option maxHeartbeats 4000000
namespace Go.Proofs.YtbnmkbpjdelokaaGreat.Res
open Go.RowKit Go.Lib Utf Nam Lat Kin Unp Rel Lab
section
variable {base B : Nat} {lv tv tab : Value} {rh : TH} {rnv rpv : Value} {w0 : World}
def eachS (op : BS → TH → Ft → (Int × Int) × BS) : BS → List Nd → TH → Ft → (Int × Int) × BS
  | s, [], h, f => op s h f
  | s, x :: l, h, f => if (op s x.2.1 x.2.2).1.1 ≠ 0 then op s x.2.1 x.2.2 else eachS op (op s x.2.1 x.2.2).2 l h f
theorem nd_drop {l : List Nd} {K : Nat} (h : K < l.length) : l.drop K = nN l K :: l.drop (K + 1) := by rw [nN_get h]; exact List.drop_eq_getElem_cons h
theorem nd_mem {l : List Nd} {i : Nat} (h : i < l.length) : nN l i ∈ l := by rw [nN_get h]; exact List.getElem_mem h
theorem bs_root {s0 s : BS} {w V : World} {l : List (Nat × Obj)} (n : Hq (BF base B lv tv tab rh rnv rpv) s0 s w V l) : V.rangeAt B 2 (tyL rh rnv rpv) := fun j v e => n.bc (2 + j) (by
  have e2 : (buL lv tv tab rh rnv rpv s)[2 + j]? = (tyL rh rnv rpv ++ [tab, .int .i64 s.total, .int .i64 s.count, s.sv, s.nv])[j]? := by rw [Nat.add_comm]; rfl
  rw [e2, List.getElem?_append_left (List.getElem?_eq_some_iff.1 e).1, e])
theorem each_calls {G : TH → Ft → Prop} {tys : List Nd} {rf : Ft} {fn : FuncId} {op : BS → TH → Ft → (Int × Int) × BS} (ht : RdNs w0 tv tys) (hroot : RdY w0 rh rf rnv rpv) (hlow : w0.heap.size ≤ base) (hl : tys.length ≤ maxLen) (hG : ∀ x ∈ tys, G x.2.1 x.2.2) (hGr : G rh rf) (hfn : IsF fn) (hop : OpQ G (BF base B lv tv tab rh rnv rpv) w0 fn (.pointer (some ⟨B, 0, none⟩)) op) (s : BS) (w : World) (hI : (BF base B lv tv tab rh rnv rpv).Inv w s) (hb : Below w0.heap.size w0 w) (R : Ending → World → Prop)
    (hR : Hid (∀ W, Hq (BF base B lv tv tab rh rnv rpv) s (eachS op s tys rh rf).2 w W [] → R (.returned (FtV (eachS op s tys rh rf).1)) W)) : Calls Tryz.prog 83 #[.pointer (some ⟨B, 0, none⟩), .func (.func fn) #[.pointer (some ⟨B, 0, none⟩)] #[]] w R := by
  replace hl : tys.length ≤ 9223372036854775807 := hl
  obtain ⟨A, c, rfl, hc, hel⟩ := nds_el ht
  obtain ⟨Rn, rn, rfl, -, -⟩ := hroot.n.op
  obtain ⟨Rp, rp, rfl, -⟩ := hroot.p.sl
  have m0 := Hq.nil hI
  obtain ⟨V, e2, n, z2⟩ := m0.new (.cells #[.int .i64 0, .int .i64 0] 37)
  clear m0 z2
  unfold IsF at hfn
  replace hel := Lib.hid hel
  replace hG := Lib.hid hG
  have b1 := n.bc 1 rfl
  have hlo := bF_low base B lv (.slice A tys.length c) tab rh (.slice Rn rh.names.length rn) (.slice Rp rf.len rp) hlow
  go_enter Tryz.func83, Tryz.ntmps83
  go_upto_region 1 with fail
  clear e2
  go_wp2_with fail
  clear b1
  go_loopg [13] tys.length (fun g i wr => ∃ (K : Nat) (sK : BS), i = .int .i64 K ∧ K + g = tys.length ∧ Hid (eachS op s tys rh rf = eachS op sK (tys.drop K) rh rf) ∧ Hid (Hq (BF base B lv (.slice A tys.length c) tab rh (.slice Rn rh.names.length rn) (.slice Rp rf.len rp)) s sK w wr [(w.heap.size, .cells #[.int .i64 0, .int .i64 0] 37)]))
  case atStart => exact ⟨0, s, rfl, by omega, Lib.hid rfl, Lib.hid n⟩
  case round =>
    clear n
    obtain ⟨K, sK, rfl, e1, e2, n⟩ := hrel
    replace n := n.out
    have hbW := hb.trans (n.below hb.size (hlo s))
    by_cases hK : K < tys.length
    · obtain ⟨g, o, N1, N3, M1, M3, rfl, hxy, hrg⟩ := hel.out K hK
      have hGx := hG.out _ (nd_mem hK)
      replace e2 := e2.out
      rw [nd_drop hK] at e2
      have rg := hrg wr hbW
      clear hrg hbW
      generalize nN tys K = x at *
      replace e2 : eachS op s tys rh rf = if (op sK x.2.1 x.2.2).1.1 ≠ 0 then op sK x.2.1 x.2.2 else eachS op (op sK x.2.1 x.2.2).2 (tys.drop (K + 1)) rh rf := e2
      have i0 : (0 : Int) ≤ (K : Int) := by omega
      have i1 : (K : Int) < (tys.length : Int) := by omega
      obtain ⟨V3, e3, n, z3⟩ := n.new (.cells (ndL x (.slice N1 x.2.1.names.length N3) (.slice M1 x.2.2.len M3)).toArray 80)
      go_upto_region 4 with (first | (refine wpList_load_g (by rfl) 80 _ rfl g (o + K * 11) rfl _ _ rg Tryz.underlying80 rfl (by kernel_rfl) ?_; go_simp) | (refine wpList_copy (ndL x (.slice N1 x.2.1.names.length N3) (.slice M1 x.2.2.len M3)).toArray ⟨rfl, rfl, rfl⟩ ⟨rfl, rfl, rfl⟩ named_alloc (by kernel_rfl) ⟨rfl, by simp [Value.oneCell']⟩ (fun _ => ⟨rfl, rfl⟩) ?_; go_simp))
      clear rg e3 z3
      have r2 : V3.rangeAt wr.heap.size 2 (tyL x.2.1 (.slice N1 x.2.1.names.length N3) (.slice M1 x.2.2.len M3)) := n.rgd 0 2 rfl
      have hbV := hb.trans (n.below hb.size (hlo s))
      go_wp2_with (refine wpList_load_g (by rfl) 29 _ rfl wr.heap.size (2) rfl _ _ r2 Tryz.underlying29 rfl (by kernel_rfl) ?_; go_simp)
      refine hop sK x.2.1 x.2.2 _ _ V3 n.inv hbV hxy hGx _ (Lib.hid fun W4 c4 => ?_)
      replace n := (n.call c4).tail
      clear c4 r2 hbV hGx hxy
      generalize op sK x.2.1 x.2.2 = b at *
      obtain ⟨⟨b0, b1⟩, s4⟩ := b
      simp only at e2 n ⊢
      obtain ⟨V5, e5, n, z5⟩ := n.new (.cells #[.int .i64 b0, .int .i64 b1] 37)
      go_upto_region 5 with fail
      clear e5 z5
      have a_0 := n.c 0 0 rfl rfl
      have a_1 := n.c 0 1 rfl rfl
      by_cases h0 : b0 = 0
      · subst h0
        rw [if_neg (by decide)] at e2
        replace n := Lib.hid n.tail
        replace e2 := Lib.hid e2
        clear hR
        go_wp2_with fail
        go_roundg (gk - 1)
        case measure => omega
        case rel => exact ⟨K + 1, s4, by go_num, by omega, e2, n⟩
      · rw [if_pos h0] at e2
        have q0 : (b0 != 0) = true := by simpa using h0
        clear h0
        rw [e2] at hR
        go_upto_region 6 with fail
        have y0 := n.c 1 0 rfl rfl
        have yf0 := n.f 1 0 rfl
        have y1 := n.c 1 1 rfl rfl
        have yf1 := n.f 1 1 rfl
        obtain ⟨VE, eE, nE, -⟩ := n.put (j := 1) rfl [(0, .int .i64 b0), (1, .int .i64 b1)]
        simp only [stL] at eE
        simp only [stA, List.setIfInBounds_toArray, List.set_cons_succ, List.set_cons_zero] at nE
        have w0_ := nE.c 1 0 rfl rfl
        have w1_ := nE.c 1 1 rfl rfl
        have fin := Lib.hid (hR.out _ nE.fin)
        clear nE n hR
        go_wp2_with fail
        first | refine bodyPost_ret ?_ rfl fin.out | refine bodyPost_end ?_ rfl fin.out
        simp [results, Tryz.results83, go_sem, w0_, w1_]
    · obtain rfl : K = tys.length := by omega
      replace e2 := e2.out
      rw [List.drop_length] at e2
      replace e2 : eachS op s tys rh rf = op sK rh rf := e2
      rw [e2] at hR
      clear e2
      have rB := bs_root n
      go_wp2_with (refine wpList_load_g (by rfl) 29 _ rfl B (2) rfl _ _ rB Tryz.underlying29 rfl (by kernel_rfl) ?_; go_simp)
      refine hop sK rh rf _ _ wr n.inv hbW hroot hGr _ (Lib.hid fun W4 c4 => ?_)
      replace n := n.call c4
      clear c4 rB hbW
      generalize op sK rh rf = b at *
      obtain ⟨⟨b0, b1⟩, s4⟩ := b
      simp only at hR n ⊢
      have y0 := n.c 0 0 rfl rfl
      have yf0 := n.f 0 0 rfl
      have y1 := n.c 0 1 rfl rfl
      have yf1 := n.f 0 1 rfl
      obtain ⟨VE, eE, nE, -⟩ := n.put (j := 0) rfl [(0, .int .i64 b0), (1, .int .i64 b1)]
      simp only [stL] at eE
      simp only [stA, List.setIfInBounds_toArray, List.set_cons_succ, List.set_cons_zero] at nE
      have w0_ := nE.c 0 0 rfl rfl
      have w1_ := nE.c 0 1 rfl rfl
      have fin := Lib.hid (hR.out _ nE.fin)
      clear nE n hR
      go_wp2_with fail
      first | refine bodyPost_ret ?_ rfl fin.out | refine bodyPost_end ?_ rfl fin.out
      simp [results, Tryz.results83, go_sem, w0_, w1_]
theorem isF_inside : IsF 85 := by
  intro args w
  unfold callFunc
  simp [go_sem, Tryz.func85]
  rfl
theorem inside_calls {nm : List ByteArray} {F : Nat → Nat → Bool} {ns : List ByteArray} (hL : LatP w0 lv nm F) (hT : RdT w0 tab ns) (hns : ns.length ≤ 1000000) (hlow : w0.heap.size ≤ base) : OpQ GoodK (BF base B lv tv tab rh rnv rpv) w0 85 (.pointer (some ⟨B, 0, none⟩)) (fun s h f => inT (wordsS nm F ns) s h f) := by
  intro s h f nv' pv' w hI hb hy hg R hR
  obtain ⟨An, cn, rfl, -, -⟩ := hy.n.op
  obtain ⟨Ap, cp, rfl, -⟩ := hy.p.sl
  have m0 := Hq.nil hI
  obtain ⟨V1, e1, m1, z1⟩ := m0.new (.cells (tyL h (.slice An h.names.length cn) (.slice Ap f.len cp)).toArray 29)
  obtain ⟨V, e2, n, z2⟩ := m1.new (.cells #[.int .i64 0, .int .i64 0] 37)
  clear m0 m1 z1 z2
  go_enter Tryz.func85, Tryz.ntmps85
  go_upto_region 1 with fail
  clear e1 e2
  have hmf : ∀ (fn : Fn) (first cap : Array Value) (w : World), (Instr.makeFunc fn first cap).run Tryz.prog w = .ok (.func fn first cap) w := fun _ _ _ _ => rfl
  have hlo := bF_low base B lv tv tab rh rnv rpv hlow
  have rT := n.rg 1 rfl
  have hbV := hb.trans (n.below hb.size (hlo s))
  go_wp2_with (refine wpList_load_g (by rfl) 29 _ rfl w.heap.size (0) rfl _ _ rT Tryz.underlying29 rfl (by kernel_rfl) ?_; go_simp)
  refine within_calls GoodK (BF base B lv tv tab rh rnv rpv) w0 132 (.pointer (some ⟨B, 0, none⟩)) (wordsS nm F ns) (fun _ _ g => g.2) (fun h f K p x kd r g e hb => ⟨(ok_lab g.1 e).2.2 hb, by
    obtain ⟨gp, gx, gk, ga⟩ := all_at K g.2.2.2 e
    exact ⟨gx, gk, ga⟩⟩) hlo isF_words (words_calls hL hT hns hlow) f s h _ _ V n.inv hbV hy hg _ (Lib.hid fun W1 c1 => ?_)
  replace n := n.call c1
  clear c1 rT hbV
  generalize inT (wordsS nm F ns) s h f = b at *
  obtain ⟨⟨b0, b1⟩, s4⟩ := b
  simp only at hR n ⊢
  have y0 := n.c 0 0 rfl rfl
  have yf0 := n.f 0 0 rfl
  have y1 := n.c 0 1 rfl rfl
  have yf1 := n.f 0 1 rfl
  obtain ⟨VE, eE, nE, -⟩ := n.put (j := 0) rfl [(0, .int .i64 b0), (1, .int .i64 b1)]
  simp only [stL] at eE
  simp only [stA, List.setIfInBounds_toArray, List.set_cons_succ, List.set_cons_zero] at nE
  have w0_ := nE.c 0 0 rfl rfl
  have w1_ := nE.c 0 1 rfl rfl
  have fin := Lib.hid (hR.out _ nE.fin)
  clear nE n hR
  go_wp2_with fail
  first | refine bodyPost_ret ?_ rfl fin.out | refine bodyPost_end ?_ rfl fin.out
  simp [results, Tryz.results85, go_sem, w0_, w1_]
end
end Go.Proofs.YtbnmkbpjdelokaaGreat.Res
