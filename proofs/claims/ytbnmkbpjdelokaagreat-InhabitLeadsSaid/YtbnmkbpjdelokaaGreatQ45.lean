import Derived.Test.YtbnmkbpjdelokaaGreatQ44
import Derived.Test.YtbnmkbpjdelokaaGreatQ41
set_option linter.unusedVariables false
set_option maxRecDepth 100000
set_option maxHeartbeats 4000000
namespace Go.Proofs.YtbnmkbpjdelokaaGreat.Inh
open Go.RowKit Go.Lib Res Nam Kin
def fz : List Int → Int → Int
  | [], _ => -1
  | a :: l, i => if a = 0 then i else fz l (i + 1)
theorem fz_cases : ∀ (D : List Int) (i : Nat), (fz D (i : Int) = -1 ∧ ∀ a ∈ D, a ≠ 0) ∨ ∃ j : Nat, fz D (i : Int) = ((i + j : Nat) : Int) ∧ j < D.length ∧ D[j]? = some 0 ∧ ∀ k, k < j → D[k]? ≠ some 0
  | [], i => .inl ⟨rfl, by simp⟩
  | a :: l, i => by
    have e : fz (a :: l) (i : Int) = if a = 0 then (i : Int) else fz l ((i : Int) + 1) := rfl
    rw [e]
    by_cases h : a = 0
    · rw [if_pos h]
      exact .inr ⟨0, by simp, by simp, by simp [h], fun k hk => by omega⟩
    · rw [if_neg h, show ((i : Int) + 1) = ((i + 1 : Nat) : Int) by omega]
      rcases fz_cases l (i + 1) with ⟨h1, h2⟩ | ⟨j, h1, h2, h3, h4⟩
      · exact .inl ⟨h1, fun b hb => by rcases List.mem_cons.1 hb with rfl | hb; exact h; exact h2 b hb⟩
      · refine .inr ⟨j + 1, by rw [h1]; omega, by simpa using h2, by simpa using h3, fun k hk => ?_⟩
        cases k with
        | zero => simpa using h
        | succ k => simpa using h4 k (by omega)
theorem idx_calls (D : List Int) (dv : Value) (w : World) (hd : RdAt w dv 1 (ints D)) (hm : D.length ≤ 1000000) (R : Ending → World → Prop)
    (hR : Hid (R (.returned (.int .i64 (fz D 0))) w)) : Calls Tryz.prog 52 #[dv, .int .i64 0] w R := by
  obtain ⟨A, c, rfl, -, hA⟩ := ints_open hd
  replace hA := Lib.hid hA
  clear hd
  go_enter Tryz.func52, Tryz.ntmps52
  go_wp2_with fail
  go_loopg [8] D.length (fun g i wr => ∃ (K : Nat), i = .int .i64 K ∧ K + g = D.length ∧ wr = w ∧ Hid (fz D 0 = fz (D.drop K) K))
  case atStart => exact ⟨0, rfl, by omega, rfl, Lib.hid rfl⟩
  case round =>
    obtain ⟨K, rfl, e1, rfl, e3⟩ := hrel
    by_cases hK : K < D.length
    · obtain ⟨g, o, rfl, hg, hc⟩ := hA.out (by omega)
      have x1 := hc K hK
      have i0 : (0 : Int) ≤ (K : Int) := by omega
      have i1 : (K : Int) < (D.length : Int) := by omega
      have e4 := e3.out
      rw [List.drop_eq_getElem_cons hK] at e4
      replace e4 : fz D 0 = if D[K] = 0 then (K : Int) else fz (D.drop (K + 1)) ((K : Int) + 1) := e4
      have ea : atD D (K : Int) = D[K] := by rw [atD_get, List.getD_eq_getElem?_getD, List.getElem?_eq_getElem hK]; rfl
      rw [ea] at x1
      clear e3 hc ea
      generalize D[K] = a at *
      by_cases h : a = 0
      · subst h
        rw [if_pos rfl] at e4
        rw [e4] at hR
        clear e4
        go_wp2_with fail
        exact hR.out
      · rw [if_neg h] at e4
        have t1 : ((0 : Int) == a) = false := by simpa using fun q : 0 = a => h q.symm
        have e5 := Lib.hid (show fz D 0 = fz (D.drop (K + 1)) ((K + 1 : Nat) : Int) from e4)
        clear e4 h
        go_wp2_with fail
        go_roundg (gk - 1)
        case measure => omega
        case rel => exact ⟨K + 1, by go_num, by omega, rfl, e5⟩
    · obtain rfl : K = D.length := by omega
      have e4 := e3.out
      rw [List.drop_length] at e4
      replace e4 : fz D 0 = -1 := e4
      rw [e4] at hR
      clear e4 e3
      go_wp2_with fail
      exact hR.out
def ckS (ns : List NdR) : Int × Int := if fz (depL ns) 0 < 0 then (0, 0) else (11, ((ns[(fz (depL ns) 0).toNat]?).map (·.at_)).getD 0)
theorem check19_calls {w : World} {v : Value} {nm : List ByteArray} {F : Nat → Nat → Bool} {ns : List ByteArray} {x : List NdR × Int × List Int} (h : PlanP w v nm F ns x) (hg : GoodL x.1) (hin : NdIn x.1.length x.1) (hlen : x.1.length ≤ 40000) (R : Ending → World → Prop)
    (hR : Hid (∀ W, Below w.heap.size w W → R (.returned (.agg #[.int .i64 (ckS x.1).1, .int .i64 (ckS x.1).2])) W)) : Calls Tryz.prog 18 #[v] w R := by
  have hb1 : ∀ y ∈ x.1, y.names.length ≤ 1000000 ∧ y.edges.length ≤ 1000000 := fun y hy => ⟨Nat.le_trans (hg y hy).ln (by decide), Nat.le_trans (hg y hy).le (by decide)⟩
  obtain ⟨P, hv⟩ : ∃ P, v = .pointer (some ⟨P, 0, none⟩) := by
    obtain ⟨P, _, _, _, _, _, e, -⟩ := h
    exact ⟨P, e⟩
  subst hv
  have n := F0.z w
  obtain ⟨V, e1, n, z1⟩ := n.new (.cells #[.int .i64 0, .int .i64 0] 37)
  have hV := Lib.hid (h.below (F0.bel n))
  clear h z1
  replace hg := Lib.hid hg
  replace hin := Lib.hid hin
  go_enter Tryz.func18, Tryz.ntmps18
  go_upto_region 1 with fail
  clear e1
  go_wp2_with fail
  refine depths_calls hV.out hg.out hin.out hlen _ (Lib.hid fun W2 dv rD m2 => ?_)
  replace n := n.bl m2
  have hl : (depL x.1).length = x.1.length := itr_len _ _ _
  have cI := Lib.hid fun R hR => idx_calls (depL x.1) dv W2 rD (by omega) R hR
  have hc := fz_cases (depL x.1) 0
  unfold ckS at hR
  have hW := Lib.hid (hV.out.below m2)
  clear rD hV
  go_wp2_with fail
  refine cI.out _ (Lib.hid ?_)
  clear cI
  rw [show (((0 : Nat) : Int)) = 0 from rfl] at hc
  rcases hc with ⟨h1, -⟩ | ⟨j, h1, h2, -⟩
  · rw [h1] at hR ⊢
    rw [if_pos (by decide)] at hR
    have hG := n.b 0 rfl
    obtain ⟨V2, e2, n2⟩ := n.row (j := 0) rfl #[.int .i64 0, .int .i64 0]
    have w0_ := n2.c 0 0 rfl rfl
    have w1_ := n2.c 0 1 rfl rfl
    have fin := Lib.hid (hR.out V2 (F0.bel n2))
    clear n n2 hR h1 hl hb1
    go_wp2_with (refine wpList_store_row (by rfl) 37 _ _ (by rfl) w.heap.size #[.int .i64 0, .int .i64 0] (by rfl) (by rfl) 37 _ hG (by kernel_rfl) rfl (by simp [Value.oneCell']) ?_; refine cast_w e2 ?_; go_simp)
    first | refine bodyPost_ret ?_ rfl fin.out | refine bodyPost_end ?_ rfl fin.out
    simp [results, Tryz.results18, go_sem, w0_, w1_]
  · rw [Nat.zero_add] at h1
    have hj : j < x.1.length := by omega
    rw [h1] at hR ⊢
    rw [if_neg (by omega), Int.toNat_natCast, List.getElem?_eq_getElem hj] at hR
    have q0 : ¬ (j : Int) < 0 := by omega
    have nodc := Lib.hid fun R hR => pnode_calls hW.out hb1 j hj R hR
    clear h1 hl hb1 h2
    go_wp2_with fail
    refine nodc.out _ (Lib.hid fun W3 nv ev y hy rS rE m3 => ?_)
    rw [List.getElem?_eq_getElem hj, Option.some.injEq] at hy
    rw [hy] at hR
    clear nodc hy
    obtain ⟨A5, c5, rfl, -⟩ := rS.open
    obtain ⟨A6, c6, rfl, -⟩ := ed_el rE
    clear rS rE
    obtain ⟨y0, y1, y2, y3, y4, yn, ye⟩ := y
    replace hR : Hid (∀ W, Below w.heap.size w W → R (.returned (.agg #[.int .i64 11, .int .i64 y1])) W) := hR
    replace n := n.bl m3
    obtain ⟨V4, e4, n, z4⟩ := n.new (.cells #[.int .i64 y0, .int .i64 y1, .int .i64 y2, .int .i64 y3, .int .i64 y4, .slice A5 yn.length c5, .slice A6 ye.length c6] 59)
    have t1 := n.c 0 1 rfl rfl
    have hG := n.b 1 rfl
    obtain ⟨V5, e5, n5⟩ := n.row (j := 1) rfl #[.int .i64 11, .int .i64 y1]
    have w0_ := n5.c 1 0 rfl rfl
    have w1_ := n5.c 1 1 rfl rfl
    have fin := Lib.hid (hR.out V5 (F0.bel n5))
    clear n n5 hR z4
    go_upto_region 7 with (refine wpList_copy #[.int .i64 y0, .int .i64 y1, .int .i64 y2, .int .i64 y3, .int .i64 y4, .slice A5 yn.length c5, .slice A6 ye.length c6] ⟨rfl, rfl, rfl⟩ ⟨rfl, rfl, rfl⟩ node_alloc19 (by kernel_rfl) ⟨rfl, by simp [Value.oneCell']⟩ (fun _ => ⟨rfl, rfl⟩) ?_; go_simp)
    clear e4
    go_wp2_with (refine wpList_store_row (by rfl) 37 _ _ (by rfl) w.heap.size #[.int .i64 11, .int .i64 y1] (by rfl) (by rfl) 37 _ hG (by kernel_rfl) rfl (by simp [Value.oneCell']) ?_; refine cast_w e5 ?_; go_simp)
    first | refine bodyPost_ret ?_ rfl fin.out | refine bodyPost_end ?_ rfl fin.out
    simp [results, Tryz.results18, go_sem, w0_, w1_]
end Go.Proofs.YtbnmkbpjdelokaaGreat.Inh
namespace Go.Proofs.YtbnmkbpjdelokaaGreat.Res
open Go.RowKit Go.Lib Utf Nam Lat Kin Unp Rel Lab Inh
theorem edges_bare {nm : List ByteArray} {F : Nat → Nat → Bool} {tg : ByteArray → Int} : ∀ (f : Ft) (l : List NdR), okF 7 f → ∀ e ∈ (addF nm F tg f l).1, e.bare = false
  | .nil, l, _, e, he => by cases he
  | .cons p h k r, l, ok, e, he => by
    rw [addF_cons] at he
    have hp : p.bare = false := by
      cases q : p.bare with
      | false => rfl
      | true =>
        have := ((ok.1 (.inl rfl)).2.1 q).1
        exact absurd this (by decide)
    rcases List.mem_cons.1 he with rfl | he
    · exact hp
    · exact edges_bare r _ ok.2.2 e he
theorem only_edge {nm : List ByteArray} {F : Nat → Nat → Bool} {tg : ByteArray → Int} {f : Ft} (h : onlyB f = true) (l : List NdR) : ∃ e, (addF nm F tg f l).1 = [e] ∧ e.bare = false := by
  match f, h with
  | .cons p x k .nil, h =>
    have h' : (decide (p.name = ByteArray.empty) && plainB p zPH) = true := h
    simp only [plainB, zPH, Bool.and_eq_true, beq_iff_eq] at h'
    exact ⟨_, rfl, h'.2.1.1.1.1.1⟩
theorem node_good {nm : List ByteArray} {F : Nat → Nat → Bool} {tg : ByteArray → Int} {h : TH} {k : Ft} (ok : okT h k) (h9 : h.kind ≠ 9) (l : List NdR) : GoodY { ndP h with edges := (addF nm F tg k l).1 } where
  kb := by
    have a := ok.1.1
    have b := ok.1.2.1
    show 1 ≤ h.kind ∧ h.kind ≤ 8
    omega
  e56 := fun q => only_edge (ok.1.2.2.2.2.2.2.2.2.1 q) l
  e7 := fun q e he => by
    have := ok.2
    rw [show h.kind = 7 from q] at this
    exact edges_bare k l this e he
  n4 := fun q => by
    have := (ok.1.2.2.2.2.2.2.2.1 q).1
    show nms h.names ≠ []
    unfold nms
    intro c
    exact this (List.map_eq_nil_iff.1 c)
  m3 := fun q => by
    show 0 ≤ h.most ∧ h.most ≤ 4096
    rcases q with q | q
    · exact ok.1.2.2.2.2.1 q
    · have := ok.1.2.2.2.2.2.1 q
      omega
  le := by rw [addF_len]; exact (ok_len ok).1
  ln := by
    show (nms h.names).length ≤ 64
    unfold nms
    rw [List.length_map]
    exact (ok_len ok).2
def NewOk (n : Nat) (m : List NdR) : Prop := ∀ (i : Nat) (y : NdR), n ≤ i → m[i]? = some y → GoodY y
theorem addF_good {nm : List ByteArray} {F : Nat → Nat → Bool} {tg : ByteArray → Int} : ∀ (f : Ft) (K : Int) (l : List NdR), okF K f → NewOk l.length (addF nm F tg f l).2
  | .nil, K, l, _, i, y, hi, hy => by
    have := (List.getElem?_eq_some_iff.1 hy).1
    exact absurd this (by show ¬ i < l.length; omega)
  | .cons p h k r, K, l, ok, i, y, hi, hy => by
    rw [addF_cons] at hy
    have b2 := addF_behind (nm := nm) (F := F) (tg := tg) r (addK nm F tg p h k l).2
    by_cases q : (addK nm F tg p h k l).2.length ≤ i
    · exact addF_good r K _ ok.2.2 i y q hy
    · have e : (addF nm F tg r (addK nm F tg p h k l).2).2[i]? = (addK nm F tg p h k l).2[i]? := b2.2.2 i (by omega)
      have hy2 : (addK nm F tg p h k l).2[i]? = some y := e.symm.trans hy
      unfold addK at hy2 q
      by_cases c : p.bare = true
      · rw [if_pos c] at q
        exact absurd hi q
      · rw [if_neg c] at hy2 q
        have okk := ok.2.1 (by simpa using c)
        unfold addW at hy2 q
        by_cases c9 : h.kind = 9
        · rw [if_pos c9] at q
          exact absurd hi q
        · rw [if_neg c9] at hy2 q
          by_cases ei : i = l.length
          · subst ei
            have ln : l.length < (addF nm F tg k (l ++ [ndP h])).2.length := by
              have := (addF_behind (nm := nm) (F := F) (tg := tg) k (l ++ [ndP h])).1
              simp at this
              omega
            rw [List.getElem?_set_self ln, Option.some.injEq] at hy2
            subst hy2
            exact node_good okk c9 _
          · rw [List.getElem?_set_ne (by omega)] at hy2
            exact addF_good k h.kind (l ++ [ndP h]) okk.2 i y (by simp; omega) hy2
theorem addT_good {nm : List ByteArray} {F : Nat → Nat → Bool} {tg : ByteArray → Int} {h : TH} {f : Ft} (ok : okT h f) (l : List NdR) : NewOk l.length (addT nm F tg h f l).2 := fun i y hi hy => by
  unfold addT addW at hy
  by_cases c9 : h.kind = 9
  · rw [if_pos c9] at hy
    have := (List.getElem?_eq_some_iff.1 hy).1
    exact absurd this (by show ¬ i < l.length; omega)
  · rw [if_neg c9] at hy
    by_cases ei : i = l.length
    · subst ei
      have ln : l.length < (addF nm F tg f (l ++ [ndP h])).2.length := by
        have := (addF_behind (nm := nm) (F := F) (tg := tg) f (l ++ [ndP h])).1
        simp at this
        omega
      rw [List.getElem?_set_self ln, Option.some.injEq] at hy
      subst hy
      exact node_good ok c9 _
    · rw [List.getElem?_set_ne (by omega)] at hy
      exact addF_good f h.kind (l ++ [ndP h]) ok.2 i y (by simp; omega) hy
theorem addA_good {nm : List ByteArray} {F : Nat → Nat → Bool} {tg : ByteArray → Int} : ∀ (tys : List Nd) (l : List NdR), (∀ x ∈ tys, okT x.2.1 x.2.2) → NewOk l.length (addA nm F tg tys l).2
  | [], l, _, i, y, hi, hy => by
    have := (List.getElem?_eq_some_iff.1 hy).1
    exact absurd this (by show ¬ i < l.length; omega)
  | x :: r, l, ok, i, y, hi, hy => by
    have b := addA_behind (nm := nm) (F := F) (tg := tg) r (addT nm F tg x.2.1 x.2.2 l).2
    by_cases q : (addT nm F tg x.2.1 x.2.2 l).2.length ≤ i
    · exact addA_good r _ (fun z hz => ok z (List.mem_cons_of_mem _ hz)) i y q hy
    · exact addT_good (ok x List.mem_cons_self) l i y hi ((b.2 i (by omega)).symm.trans hy)
def ndF : Ft → Nat
  | .nil => 0
  | .cons p h k r => (if p.bare then 0 else if h.kind = 9 then 0 else ndF k + 1) + ndF r
def ndT (h : TH) (f : Ft) : Nat := if h.kind = 9 then 0 else ndF f + 1
theorem ndF_le : ∀ f : Ft, ndF f ≤ Kin.cntF f
  | .nil => Nat.le_refl _
  | .cons p h k r => by
    have h1 := ndF_le k
    have h2 := ndF_le r
    show (if p.bare then 0 else if h.kind = 9 then 0 else ndF k + 1) + ndF r ≤ (if p.bare then 0 else Kin.cntF k + 1) + Kin.cntF r
    split
    · omega
    · split <;> omega
theorem nine_nil {h : TH} {k : Ft} (ok : okH h k) (h9 : h.kind = 9) : k = .nil := by
  have ow := ok.2.2.1
  simp only [ownB, decide_eq_true_eq] at ow
  have : k.len = 0 := by omega
  cases k with
  | nil => rfl
  | cons p x k r => exact absurd this (by show r.len + 1 ≠ 0; omega)
theorem kntF_eq : ∀ (f : Ft) (K c : Int), okF K f → 0 ≤ c → c + ndF f ≤ 1000000 → kntF c f = c + ndF f
  | .nil, K, c, _, _, _ => by show c = c + ((0 : Nat) : Int); omega
  | .cons p h k r, K, c, ok, h0, h1 => by
    have hn : ndF (.cons p h k r) = (if p.bare then 0 else if h.kind = 9 then 0 else ndF k + 1) + ndF r := rfl
    show (if p.bare = true then kntF c r else kntF (kntF (tl1 c h) k) r) = _
    rw [hn] at h1 ⊢
    by_cases b : p.bare = true
    · rw [if_pos b] at h1 ⊢
      rw [if_pos b, kntF_eq r K c ok.2.2 h0 (by omega)]
      omega
    · rw [if_neg b] at h1 ⊢
      rw [if_neg b]
      have okk := ok.2.1 (by simpa using b)
      unfold tl1
      by_cases c9 : h.kind = 9
      · rw [if_pos c9] at h1 ⊢
        rw [if_pos c9, nine_nil okk.1 c9]
        show kntF c r = _
        rw [kntF_eq r K c ok.2.2 h0 (by omega)]
        omega
      · rw [if_neg c9] at h1 ⊢
        rw [if_neg c9]
        have w : wrap64 (c + 1) = c + 1 := IntWalk.wrap64_in _ (by omega)
        rw [w, kntF_eq k h.kind (c + 1) okk.2 (by omega) (by omega), kntF_eq r K _ ok.2.2 (by omega) (by omega)]
        omega
theorem kntT_eq {h : TH} {f : Ft} {c : Int} (ok : okT h f) (h0 : 0 ≤ c) (h1 : c + ndT h f ≤ 1000000) : kntT c h f = c + ndT h f := by
  unfold kntT ndT tl1 at *
  by_cases c9 : h.kind = 9
  · rw [if_pos c9] at h1 ⊢
    rw [if_pos c9, nine_nil ok.1 c9]
    show c = c + ((0 : Nat) : Int)
    omega
  · rw [if_neg c9] at h1 ⊢
    rw [if_neg c9]
    have w : wrap64 (c + 1) = c + 1 := IntWalk.wrap64_in _ (by omega)
    rw [w, kntF_eq f h.kind (c + 1) ok.2 (by omega) (by omega)]
    omega
theorem addF_num {nm : List ByteArray} {F : Nat → Nat → Bool} {tg : ByteArray → Int} : ∀ (f : Ft) (l : List NdR), (addF nm F tg f l).2.length = l.length + ndF f
  | .nil, l => rfl
  | .cons p h k r, l => by
    have hn : ndF (.cons p h k r) = (if p.bare then 0 else if h.kind = 9 then 0 else ndF k + 1) + ndF r := rfl
    rw [addF_cons, hn]
    show (addF nm F tg r (addK nm F tg p h k l).2).2.length = _
    rw [addF_num r]
    have : (addK nm F tg p h k l).2.length = l.length + (if p.bare then 0 else if h.kind = 9 then 0 else ndF k + 1) := by
      unfold addK
      by_cases b : p.bare = true
      · rw [if_pos b, if_pos b]; rfl
      · rw [if_neg b, if_neg b]
        unfold addW
        by_cases c9 : h.kind = 9
        · rw [if_pos c9, if_pos c9]; rfl
        · rw [if_neg c9, if_neg c9]
          show (List.set _ _ _).length = _
          rw [List.length_set, addF_num k, List.length_append]
          show l.length + 1 + _ = _
          omega
    rw [this]
    omega
theorem addT_num {nm : List ByteArray} {F : Nat → Nat → Bool} {tg : ByteArray → Int} (h : TH) (f : Ft) (l : List NdR) : (addT nm F tg h f l).2.length = l.length + ndT h f := by
  unfold addT addW ndT
  by_cases c9 : h.kind = 9
  · rw [if_pos c9, if_pos c9]; rfl
  · rw [if_neg c9, if_neg c9]
    show (List.set _ _ _).length = _
    rw [List.length_set, addF_num f, List.length_append]
    show l.length + 1 + _ = _
    omega
def sumT (l : List Nd) : Nat := (l.map fun x => ndT x.2.1 x.2.2).sum
theorem sumT_cons (x : Nd) (l : List Nd) : sumT (x :: l) = ndT x.2.1 x.2.2 + sumT l := by simp [sumT]
theorem addA_num {nm : List ByteArray} {F : Nat → Nat → Bool} {tg : ByteArray → Int} : ∀ (tys : List Nd) (l : List NdR), (addA nm F tg tys l).2.length = l.length + sumT tys
  | [], l => rfl
  | x :: r, l => by
    show (addA nm F tg r (addT nm F tg x.2.1 x.2.2 l).2).2.length = _
    rw [addA_num r, addT_num, sumT_cons]
    omega
theorem cumL_get : ∀ (tys : List Nd) (c : Int), (∀ x ∈ tys, okT x.2.1 x.2.2) → 0 ≤ c → c + sumT tys ≤ 1000000 → ∀ i, i ≤ tys.length → (cumL c tys)[i]? = some (c + sumT (tys.take i))
  | [], c, _, _, _, i, hi => by
    obtain rfl : i = 0 := by simpa using hi
    show some c = some (c + ((0 : Nat) : Int))
    rw [Option.some.injEq]
    omega
  | x :: r, c, ok, h0, h1, 0, hi => by
    show some c = some (c + ((0 : Nat) : Int))
    rw [Option.some.injEq]
    omega
  | x :: r, c, ok, h0, h1, i + 1, hi => by
    rw [sumT_cons] at h1
    show (cumL (kntT c x.2.1 x.2.2) r)[i]? = _
    rw [kntT_eq (ok x List.mem_cons_self) h0 (by omega), cumL_get r _ (fun z hz => ok z (List.mem_cons_of_mem _ hz)) (by omega) (by omega) i (by simpa using hi), List.take_succ_cons, sumT_cons, Option.some.injEq]
    omega
theorem sumT_take : ∀ (l : List Nd) (i : Nat) (hi : i < l.length), sumT (l.take i) + ndT l[i].2.1 l[i].2.2 ≤ sumT l
  | x :: r, 0, hi => by
    rw [sumT_cons]
    show 0 + _ ≤ _
    simp
  | x :: r, i + 1, hi => by
    have := sumT_take r i (by simpa using hi)
    rw [List.take_succ_cons, sumT_cons, sumT_cons]
    show _ + ndT (r[i]'(by simpa using hi)).2.1 (r[i]'(by simpa using hi)).2.2 ≤ _
    omega
theorem sumT_le (l : List Nd) (h : ∀ x ∈ l, Kin.cntF x.2.2 ≤ 512) : sumT l ≤ 513 * l.length := by
  induction l with
  | nil => exact Nat.le_refl _
  | cons x l ih =>
    have h1 := ih fun y hy => h y (List.mem_cons_of_mem _ hy)
    have h2 := h x List.mem_cons_self
    have h3 := ndF_le x.2.2
    rw [sumT_cons, List.length_cons]
    unfold ndT
    split <;> omega
theorem tgt_cases (tys : List Nd) : ∀ (n : Nat) (x : ByteArray), tgtS tys n x = (0, false) ∨ (tys = [] ∧ (tgtS tys n x).1 = 0) ∨ ∃ I : Nat, I < tys.length ∧ (nN tys I).2.1.kind ≠ 9 ∧ tgtS tys n x = ((I : Int), true)
  | 0, x => .inl rfl
  | n + 1, x => by
    have hlen : (nms (tw tys)).length = tys.length := by simp [nms, tw_len]
    by_cases e : tys = []
    · subst e
      refine .inr (.inl ⟨rfl, ?_⟩)
      have : ∀ (n : Nat) (x : ByteArray), (tgtS [] n x).1 = 0 := by
        intro n
        induction n with
        | zero => intro x; rfl
        | succ n ih =>
          intro x
          show (if (nN [] (finS (nms (tw [])) x).1.toNat).2.1.kind ≠ 9 then ((finS (nms (tw [])) x).1, true) else tgtS [] n _).1 = 0
          split
          · show (finS (nms (tw [])) x).1 = 0
            rcases find_cases (nms (tw [])) x with ⟨h1, -⟩ | ⟨k, h1, -⟩
            · rw [fin_no (by rw [h1]; decide)]
            · exact absurd h1 (by simp [nms, tw])
          · exact ih _
      exact this _ _
    · obtain ⟨I, h1, h2⟩ := fin_in (xs := nms (tw tys)) x (by rw [hlen]; exact List.length_pos_iff.2 e)
      show (if (nN tys (finS (nms (tw tys)) x).1.toNat).2.1.kind ≠ 9 then ((finS (nms (tw tys)) x).1, true) else tgtS tys n (nN tys (finS (nms (tw tys)) x).1.toNat).2.1.name) = _ ∨ (_ ∧ (if (nN tys (finS (nms (tw tys)) x).1.toNat).2.1.kind ≠ 9 then ((finS (nms (tw tys)) x).1, true) else tgtS tys n (nN tys (finS (nms (tw tys)) x).1.toNat).2.1.name).1 = 0) ∨ ∃ J : Nat, J < tys.length ∧ (nN tys J).2.1.kind ≠ 9 ∧ (if (nN tys (finS (nms (tw tys)) x).1.toNat).2.1.kind ≠ 9 then ((finS (nms (tw tys)) x).1, true) else tgtS tys n (nN tys (finS (nms (tw tys)) x).1.toNat).2.1.name) = _
      rw [h1, Int.toNat_natCast]
      by_cases c : (nN tys I).2.1.kind ≠ 9
      · simp only [if_pos c]
        exact .inr (.inr ⟨I, by rw [← hlen]; exact h2, c, rfl⟩)
      · simp only [if_neg c]
        exact tgt_cases tys n _
structure OkS (s : Sc) : Prop where
  ok : ∀ x ∈ s.2.2.1, okT x.2.1 x.2.2
  okr : okT s.2.2.2.1 s.2.2.2.2
  tl : s.2.2.1.length ≤ 64
  cnt : ∀ x ∈ s.2.2.1, Kin.cntF x.2.2 ≤ 512
  cntr : Kin.cntF s.2.2.2.2 ≤ 512
  lat : (wrongS s.1 s.2.1).1 = 0
  wr : ((eachS (inT (wordsS (nms s.1) (leqF s.1 s.2.1) (nms (tw s.2.2.1)))) (eachS kindsS bs0 s.2.2.1 s.2.2.2.1 s.2.2.2.2).2 s.2.2.1 s.2.2.2.1 s.2.2.2.2).1).1 = 0
  lp : (loopsS s.2.2.1 s.2.2.1).1 = 0
theorem OkS.of {s : Sc} (h : (bldS s).1 = 0) : OkS s := by
  unfold bldS at h
  by_cases c1 : (wrongS s.1 s.2.1).1 ≠ 0
  · rw [if_pos c1] at h; exact absurd h c1
  rw [if_neg c1] at h
  by_cases c2 : (nmC s.2.2.1).1 ≠ 0
  · rw [if_pos c2] at h; exact absurd h c2
  rw [if_neg c2] at h
  have hk := chk_kinds h
  obtain ⟨o1, o2⟩ := each_ok _ _ hk
  obtain ⟨n1, n2⟩ := each_cnt _ _ hk
  have hl : s.2.2.1.length ≤ 64 := Classical.byContradiction fun c => c2 (by unfold nmC; rw [if_pos (by omega)]; show (8 : Int) ≠ 0; decide)
  have h2 := h
  unfold chkB at h
  rw [if_neg (by rw [hk]; decide)] at h
  by_cases c3 : (eachS (inT (wordsS (nms s.1) (leqF s.1 s.2.1) (nms (tw s.2.2.1)))) (eachS kindsS bs0 s.2.2.1 s.2.2.2.1 s.2.2.2.2).2 s.2.2.1 s.2.2.2.1 s.2.2.2.2).1.1 ≠ 0
  · rw [if_pos c3] at h; exact absurd h c3
  rw [if_neg c3] at h
  exact ⟨o1, o2, hl, n1, n2, Classical.not_not.1 c1, Classical.not_not.1 c3, h⟩
theorem loops_all {tys : List Nd} : ∀ (l : List Nd), (loopsS tys l).1 = 0 → ∀ x ∈ l, (tgtS tys tys.length x.1.1).2 = true
  | [], _, x, hx => by cases hx
  | y :: l, h, x, hx => by
    have h' : (if (tgtS tys tys.length y.1.1).2 = false then ((11 : Int), y.1.2) else loopsS tys l).1 = 0 := h
    by_cases c : (tgtS tys tys.length y.1.1).2 = false
    · rw [if_pos c] at h'; cases h'
    · rw [if_neg c] at h'
      rcases List.mem_cons.1 hx with rfl | hx
      · simpa using c
      · exact loops_all l h' x hx
theorem each_words {op : BS → TH → Ft → (Int × Int) × BS} (hop : ∀ s s' a b, (op s a b).1 = (op s' a b).1) : ∀ (l : List Nd) (s : BS) (a : TH) (b : Ft), (eachS op s l a b).1.1 = 0 → (∀ x ∈ l, (op bs0 x.2.1 x.2.2).1.1 = 0) ∧ (op bs0 a b).1.1 = 0
  | [], s, a, b, h => ⟨by simp, by rw [hop bs0 s]; exact h⟩
  | x :: l, s, a, b, h => by
    have h' : (if (op s x.2.1 x.2.2).1.1 ≠ 0 then op s x.2.1 x.2.2 else eachS op (op s x.2.1 x.2.2).2 l a b).1.1 = 0 := h
    by_cases c : (op s x.2.1 x.2.2).1.1 ≠ 0
    · rw [if_pos c] at h'; exact absurd h' c
    · rw [if_neg c] at h'
      obtain ⟨h1, h2⟩ := each_words hop l _ a b h'
      refine ⟨fun y hy => ?_, h2⟩
      rcases List.mem_cons.1 hy with rfl | hy
      · rw [hop bs0 s]; exact Classical.not_not.1 c
      · exact h1 y hy
theorem inF_words {nm : List ByteArray} {F : Nat → Nat → Bool} {ns : List ByteArray} : ∀ (f : Ft) (s s' : BS), (inF (wordsS nm F ns) s f).1 = (inF (wordsS nm F ns) s' f).1 ∧ (inF (wordsS nm F ns) s f).2 = s
  | .nil, s, s' => ⟨rfl, rfl⟩
  | .cons p h k r, s, s' => by
    have e : ∀ s : BS, inF (wordsS nm F ns) s (.cons p h k r) = if p.bare = true then inF (wordsS nm F ns) s r else if (wordsS nm F ns s h k).1.1 ≠ 0 then wordsS nm F ns s h k else if (inF (wordsS nm F ns) (wordsS nm F ns s h k).2 k).1.1 ≠ 0 then inF (wordsS nm F ns) (wordsS nm F ns s h k).2 k else inF (wordsS nm F ns) (inF (wordsS nm F ns) (wordsS nm F ns s h k).2 k).2 r := fun _ => rfl
    rw [e, e]
    have w2 : ∀ s : BS, (wordsS nm F ns s h k).2 = s := fun _ => rfl
    have w1 : (wordsS nm F ns s h k).1 = (wordsS nm F ns s' h k).1 := rfl
    simp only [w2, (inF_words k s s').2, (inF_words k s' s).2]
    by_cases b : p.bare = true
    · simp only [if_pos b]
      exact inF_words r s s'
    · simp only [if_neg b]
      rw [← w1]
      by_cases c : (wordsS nm F ns s h k).1.1 ≠ 0
      · simp only [if_pos c]
        exact ⟨rfl, rfl⟩
      · simp only [if_neg c]
        rw [← (inF_words k s s').1]
        by_cases c2 : (inF (wordsS nm F ns) s k).1.1 ≠ 0
        · simp only [if_pos c2]
          exact inF_words k s s'
        · simp only [if_neg c2]
          exact inF_words r s s'
theorem inT_words {nm : List ByteArray} {F : Nat → Nat → Bool} {ns : List ByteArray} (s s' : BS) (h : TH) (f : Ft) : (inT (wordsS nm F ns) s h f).1 = (inT (wordsS nm F ns) s' h f).1 := by
  unfold inT
  have w2 : ∀ s : BS, (wordsS nm F ns s h f).2 = s := fun _ => rfl
  have w1 : (wordsS nm F ns s h f).1 = (wordsS nm F ns s' h f).1 := rfl
  simp only [w2]
  rw [← w1]
  by_cases c : (wordsS nm F ns s h f).1.1 ≠ 0
  · simp only [if_pos c]
    exact w1
  · simp only [if_neg c]
    exact (inF_words f s s').1
theorem OkS.words {s : Sc} (o : OkS s) : (∀ x ∈ s.2.2.1, (inT (wordsS (nms s.1) (leqF s.1 s.2.1) (nms (tw s.2.2.1))) bs0 x.2.1 x.2.2).1.1 = 0) ∧ (inT (wordsS (nms s.1) (leqF s.1 s.2.1) (nms (tw s.2.2.1))) bs0 s.2.2.2.1 s.2.2.2.2).1.1 = 0 :=
  each_words (fun a b c d => inT_words a b c d) _ _ _ _ o.wr
theorem OkS.one {s : Sc} (o : OkS s) : 1 ≤ sumT s.2.2.1 + ndT s.2.2.2.1 s.2.2.2.2 := by
  by_cases c : s.2.2.2.1.kind = 9
  · have hw := o.words.2
    unfold inT at hw
    by_cases q : (wordsS (nms s.1) (leqF s.1 s.2.1) (nms (tw s.2.2.1)) bs0 s.2.2.2.1 s.2.2.2.2).1.1 ≠ 0
    · rw [if_pos q] at hw; exact absurd hw q
    · have q2 : ¬ (s.2.2.2.1.kind = 9 ∧ (finS (nms (tw s.2.2.1)) s.2.2.2.1.name).2 = false) := fun e => q (by
        show (if s.2.2.2.1.kind = 9 ∧ (finS (nms (tw s.2.2.1)) s.2.2.2.1.name).2 = false then ((15 : Int), s.2.2.2.1.nat) else _).1 ≠ 0
        rw [if_pos e]
        show (15 : Int) ≠ 0
        decide)
      have ne : s.2.2.1 ≠ [] := fun e => q2 ⟨c, by
        rw [e]
        rcases find_cases (nms (tw [])) s.2.2.2.1.name with ⟨h1, -⟩ | ⟨k, h1, -⟩
        · rw [fin_no (by rw [h1]; decide)]
        · exact absurd h1 (by simp [nms, tw])⟩
      obtain ⟨x, r, e⟩ := List.exists_cons_of_ne_nil ne
      have ht := loops_all _ o.lp x (by rw [e]; exact List.mem_cons_self)
      rcases tgt_cases s.2.2.1 s.2.2.1.length x.1.1 with h1 | ⟨h1, -⟩ | ⟨I, hI, h9, -⟩
      · rw [h1] at ht; cases ht
      · exact absurd h1 ne
      · have := sumT_take s.2.2.1 I hI
        rw [nN_get hI] at h9
        unfold ndT at this
        rw [if_neg h9] at this
        omega
  · unfold ndT
    rw [if_neg c]
    omega
theorem OkS.tg {s : Sc} (o : OkS s) (x : ByteArray) : 0 ≤ tgI s.2.2.1 (cumL 0 s.2.2.1) x ∧ tgI s.2.2.1 (cumL 0 s.2.2.1) x < ((sumT s.2.2.1 + ndT s.2.2.2.1 s.2.2.2.2 : Nat) : Int) := by
  have hs := sumT_le _ o.cnt
  have htl := o.tl
  have one := o.one
  have get := cumL_get s.2.2.1 0 o.ok (Int.le_refl _) (by omega)
  have z : tgI s.2.2.1 (cumL 0 s.2.2.1) x = 0 → 0 ≤ tgI s.2.2.1 (cumL 0 s.2.2.1) x ∧ tgI s.2.2.1 (cumL 0 s.2.2.1) x < ((sumT s.2.2.1 + ndT s.2.2.2.1 s.2.2.2.2 : Nat) : Int) := fun e => by omega
  have g0 : (cumL 0 s.2.2.1).getD 0 0 = 0 := by
    rw [List.getD_eq_getElem?_getD, get 0 (by omega)]
    rfl
  rcases tgt_cases s.2.2.1 s.2.2.1.length x with h1 | ⟨-, h1⟩ | ⟨I, hI, h9, h1⟩
  · exact z (by unfold tgI; rw [h1]; exact g0)
  · exact z (by unfold tgI; rw [h1]; exact g0)
  · have := sumT_take s.2.2.1 I hI
    rw [nN_get hI] at h9
    unfold ndT at this
    rw [if_neg h9] at this
    have e : tgI s.2.2.1 (cumL 0 s.2.2.1) x = ((sumT (s.2.2.1.take I) : Nat) : Int) := by
      unfold tgI
      rw [h1]
      show (cumL 0 s.2.2.1).getD ((I : Int).toNat) 0 = _
      rw [Int.toNat_natCast, List.getD_eq_getElem?_getD, get I (by omega)]
      show (0 : Int) + _ = _
      omega
    rw [e]
    omega
abbrev plS (s : Sc) : List NdR × Int × List Int := planN (nms s.1) (leqF s.1 s.2.1) s.2.2.1 0 s.2.2.2.1 s.2.2.2.2
theorem plan_num (s : Sc) : (plS s).1.length = sumT s.2.2.1 + ndT s.2.2.2.1 s.2.2.2.2 := by
  show (addT _ _ _ _ _ _).2.length = _
  rw [addT_num, addA_num]
  simp
theorem OkS.num {s : Sc} (o : OkS s) : 1 ≤ (plS s).1.length ∧ (plS s).1.length ≤ 40000 := by
  rw [plan_num]
  have hs := sumT_le _ o.cnt
  have htl := o.tl
  have h1 := ndF_le s.2.2.2.2
  have h2 := o.cntr
  refine ⟨o.one, ?_⟩
  unfold ndT
  split <;> omega
theorem OkS.good {s : Sc} (o : OkS s) : GoodL (plS s).1 := fun y hy => by
  obtain ⟨i, hi, e⟩ := List.mem_iff_getElem.1 hy
  have hy2 : (plS s).1[i]? = some y := by rw [List.getElem?_eq_getElem hi, e]
  by_cases q : (addA (nms s.1) (leqF s.1 s.2.1) (tgI s.2.2.1 (cumL 0 s.2.2.1)) s.2.2.1 []).2.length ≤ i
  · exact addT_good o.okr _ i y q hy2
  · have b := addT_behind (nms s.1) (leqF s.1 s.2.1) (tgI s.2.2.1 (cumL 0 s.2.2.1)) s.2.2.2.1 s.2.2.2.2 (addA (nms s.1) (leqF s.1 s.2.1) (tgI s.2.2.1 (cumL 0 s.2.2.1)) s.2.2.1 []).2
    exact addA_good s.2.2.1 [] o.ok i y (Nat.zero_le _) ((b.2.2 i (by omega)).symm.trans hy2)
theorem addA_in {nm : List ByteArray} {F : Nat → Nat → Bool} {tg : ByteArray → Int} {M : Nat} (ht : ∀ x, 0 ≤ tg x ∧ tg x < (M : Int)) : ∀ (tys : List Nd) (l : List NdR), NdIn M l → (addA nm F tg tys l).2.length ≤ M → NdIn M (addA nm F tg tys l).2
  | [], l, h, _ => h
  | x :: r, l, h, hM => by
    have b := addA_behind (nm := nm) (F := F) (tg := tg) r (addT nm F tg x.2.1 x.2.2 l).2
    refine addA_in ht r _ ?_ hM
    have hM1 : (addT nm F tg x.2.1 x.2.2 l).2.length ≤ M := Nat.le_trans b.1 hM
    unfold addT addW at hM1 ⊢
    by_cases c9 : x.2.1.kind = 9
    · rw [if_pos c9]; exact h
    · rw [if_neg c9] at hM1 ⊢
      simp only [List.length_set] at hM1
      obtain ⟨i1, i2⟩ := addF_in ht x.2.2 (l ++ [ndP x.2.1]) (h.snoc (by intro e he; cases he)) hM1
      exact i2.set i1
theorem OkS.inn {s : Sc} (o : OkS s) : NdIn (plS s).1.length (plS s).1 ∧ 0 ≤ (plS s).2.1 ∧ (plS s).2.1 < ((plS s).1.length : Int) := by
  have tg := o.tg
  rw [← plan_num] at tg
  have b := addT_behind (nms s.1) (leqF s.1 s.2.1) (tgI s.2.2.1 (cumL 0 s.2.2.1)) s.2.2.2.1 s.2.2.2.2 (addA (nms s.1) (leqF s.1 s.2.1) (tgI s.2.2.1 (cumL 0 s.2.2.1)) s.2.2.1 []).2
  have a := addA_in tg s.2.2.1 [] (nm := nms s.1) (F := leqF s.1 s.2.1) (fun y hy => by cases hy) b.1
  obtain ⟨M, hMe⟩ : ∃ M, (plS s).1.length = M := ⟨_, rfl⟩
  have hM : (plS s).1.length ≤ M := Nat.le_of_eq hMe
  rw [hMe] at a tg ⊢
  unfold plS planN addT addW at hM ⊢
  by_cases c9 : s.2.2.2.1.kind = 9
  · simp only [if_pos c9]
    exact ⟨a, tg _⟩
  · simp only [if_neg c9] at hM ⊢
    simp only [List.length_set] at hM
    obtain ⟨i1, i2⟩ := addF_in tg s.2.2.2.2 _ (a.snoc (y := ndP s.2.2.2.1) (by intro e he; cases he)) hM
    have := (addF_behind (nm := nms s.1) (F := leqF s.1 s.2.1) (tg := tgI s.2.2.1 (cumL 0 s.2.2.1)) s.2.2.2.2 ((addA (nms s.1) (leqF s.1 s.2.1) (tgI s.2.2.1 (cumL 0 s.2.2.1)) s.2.2.1 []).2 ++ [ndP s.2.2.2.1])).1
    simp at this
    exact ⟨i2.set i1, by omega, by omega⟩
end Go.Proofs.YtbnmkbpjdelokaaGreat.Res
