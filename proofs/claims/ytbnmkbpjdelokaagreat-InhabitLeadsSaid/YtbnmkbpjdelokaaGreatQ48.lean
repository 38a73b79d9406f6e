import Derived.Test.YtbnmkbpjdelokaaGreatQ46
import Derived.Test.YtbnmkbpjdelokaaGreatQ47
set_option linter.unusedVariables false
set_option maxRecDepth 100000
set_option maxHeartbeats 4000000
namespace Go.Proofs.YtbnmkbpjdelokaaGreat.Inh
open Go.RowKit Go.Lib Res Nam Lat Kin Unp Rel Lab
theorem fld37 (e z : Int) (w : World) : (Instr.field 37 (.agg #[.int .i64 e, .int .i64 z]) 0).run Tryz.prog w = .ok (.int .i64 e) w := by
  simp [Instr.field, run_underlying Tryz.underlying37, part, asAgg, Tryz.isAgg35, go_sem]
theorem led_all {D : List Int} {e : EdR} {m b : Int} {nb : Bool} (hB : ∀ j, 0 ≤ atD D j ∧ atD D j ≤ 40000) (m0 : 0 ≤ m) (m1 : m ≤ 40000) (b0 : 0 ≤ b) (b1 : b ≤ 40001) : ∃ (X : Int) (NB : Bool) (M B : Int) (T : Bool), (e.bare = true → X = 0 ∧ NB = nb) ∧ (e.bare = false → X = atD D e.dst ∧ NB = (if X = 0 then true else nb)) ∧ (0 ≤ M ∧ M ≤ 40000 ∧ (0 ≤ X ∧ X ≤ 40000) ∧ 0 ≤ B ∧ B ≤ 40001) ∧ M = (if m < X then X else m) ∧ (T = true ↔ (e.bare = true ∨ 0 < X) ∧ (b = 0 ∨ X + 1 < b)) ∧ B = (if T = true then X + 1 else b) ∧ True ∧ ledE D e (m, b, nb) = (M, B, NB) := by
  have hj := hB e.dst
  have hx : 0 ≤ ledX D e ∧ ledX D e ≤ 40000 := by unfold ledX; split <;> omega
  refine ⟨ledX D e, nb || (!e.bare && decide (atD D e.dst = 0)), (if m < ledX D e then ledX D e else m), (if decide ((e.bare = true ∨ 0 < ledX D e) ∧ (b = 0 ∨ ledX D e + 1 < b)) = true then ledX D e + 1 else b), decide ((e.bare = true ∨ 0 < ledX D e) ∧ (b = 0 ∨ ledX D e + 1 < b)), fun h => ?_, fun h => ?_, ⟨?_, ?_, hx, ?_, ?_⟩, rfl, decide_eq_true_iff, rfl, trivial, ?_⟩
  · exact ⟨if_pos h, by rw [h]; simp⟩
  · have e1 : ledX D e = atD D e.dst := if_neg (by rw [h]; decide)
    refine ⟨e1, ?_⟩
    rw [e1, h]
    by_cases q : atD D e.dst = 0
    · rw [if_pos q, decide_eq_true q]; simp
    · rw [if_neg q, decide_eq_false q]; simp
  · split <;> omega
  · split <;> omega
  · split <;> omega
  · split <;> omega
  · unfold ledE
    refine Prod.ext rfl (Prod.ext ?_ rfl)
    simp only [decide_eq_true_eq]
theorem led_seven {D : List Int} (h : ∀ j, 0 ≤ atD D j) {y : NdR} (g : GoodY y) (k7 : y.kind = 7) : (depN D y = 0 ∧ (ledF D y.edges (0, 0, false)).2.2 = true) ∨ (depN D y = (ledF D y.edges (0, 0, false)).1 + 1 ∧ (ledF D y.edges (0, 0, false)).2.2 = false ∧ 0 ≤ (ledF D y.edges (0, 0, false)).1) := by
  unfold depN
  rw [if_pos k7]
  exact led_rec h y.edges 0 0 (by decide) (g.e7 k7)
theorem led_eight {D : List Int} (h : ∀ j, 0 ≤ atD D j) {y : NdR} (k8 : y.kind = 8) : depN D y = (ledF D y.edges (0, 0, false)).2.1 := by
  unfold depN
  rw [if_neg (by omega), if_pos k8]
  exact (led_uni h y.edges 0 0 false (.inl rfl)).symm
theorem led_else {D : List Int} {y : NdR} (k7 : y.kind ≠ 7) (k8 : y.kind ≠ 8) : depN D y = 1 := by
  unfold depN
  rw [if_neg k7, if_neg k8]
structure DepQ (x : List NdR × Int × List Int) (D : List Int) (len : Nat) : Prop where
  xl : x.1.length = len
  dl : D.length = len
  bd : ∀ j, 0 ≤ atD D j ∧ atD D j ≤ 40000
  fx : ∀ (K : Nat) (y : NdR), x.1[K]? = some y → atD D (K : Int) = depN D y ∧ GoodY y ∧ InU D y.edges
theorem depQ {x : List NdR × Int × List Int} (g : GoodL x.1) (hin : NdIn x.1.length x.1) (hl : x.1.length ≤ 40000) : DepQ x (depL x.1) x.1.length where
  xl := rfl
  dl := itr_len _ _ _
  bd := fun j => by
    have h := dep_bd x.1 x.1.length j
    exact ⟨h.1, Int.le_trans h.2 (by omega)⟩
  fx := fun K y hy => by
    refine ⟨?_, g y (List.mem_of_getElem? hy), inU_of hin (List.mem_of_getElem? hy) (itr_len _ _ _)⟩
    rcases atD_stp depN x.1 (depL x.1) (K : Int) with ⟨y2, h1, h2⟩ | ⟨h1, h2⟩
    · rw [Int.toNat_natCast, hy, Option.some.injEq] at h1
      subst h1
      rw [dep_done] at h2
      exact h2
    · rw [Int.toNat_natCast, hy] at h1
      cases h1
theorem leads19_walk (s : Sc) (gs : GoodS s) (lv ov tv nv pv : Value) (w : World) (rd : RdSc w s lv ov tv nv pv) (R : Ending → World → Prop)
    (hR : Hid (∀ w', Below w.heap.size w w' → R (.returned (.bool true)) w')) : Calls Tryz.prog 6 #[scV s lv ov tv nv pv] w R := by
  obtain ⟨A1, c1, rfl, -, -⟩ := rd.l.op
  obtain ⟨A2, c2, rfl, -, -⟩ := Unp.RdPr.op rd.o
  obtain ⟨A3, c3, rfl, -, -⟩ := Unp.RdNs.op rd.t
  obtain ⟨N1, N3, rfl, -, -⟩ := rd.r.n.op
  obtain ⟨M1, M3, rfl, -⟩ := rd.r.p.sl
  have n := F0.z w
  obtain ⟨V, e1, n, z1⟩ := n.new (.cells [.slice A1 s.1.length c1, .slice A2 s.2.1.length c2, .slice A3 s.2.2.1.length c3, .int .i64 s.2.2.2.1.kind, .int .i64 s.2.2.2.1.at_, .int .i64 s.2.2.2.1.lo, .int .i64 s.2.2.2.1.hi, .int .i64 s.2.2.2.1.most, .slice N1 s.2.2.2.1.names.length N3, .slice M1 s.2.2.2.2.len M3, .string s.2.2.2.1.name, .int .i64 s.2.2.2.1.nat].toArray 31)
  have rdV := Lib.hid (rd.below (F0.bel n))
  have r1 : V.rangeAt w.heap.size 0 [.slice A1 s.1.length c1, .slice A2 s.2.1.length c2, .slice A3 s.2.2.1.length c3, .int .i64 s.2.2.2.1.kind, .int .i64 s.2.2.2.1.at_, .int .i64 s.2.2.2.1.lo, .int .i64 s.2.2.2.1.hi, .int .i64 s.2.2.2.1.most, .slice N1 s.2.2.2.1.names.length N3, .slice M1 s.2.2.2.2.len M3, .string s.2.2.2.1.name, .int .i64 s.2.2.2.1.nat] := n.rg 0 rfl
  have cG := Lib.hid fun R hR => refgreat_calls s gs _ _ _ _ _ V rdV.out R hR
  clear z1 rd
  go_enter Tryz.func6, Tryz.ntmps6
  go_upto_region 1 with fail
  clear e1
  go_wp2_with (refine wpList_load_g (by rfl) 31 _ rfl w.heap.size 0 rfl _ _ r1 Tryz.underlying31 rfl (by kernel_rfl) ?_; go_simp)
  refine cG.out _ (Lib.hid fun W1 y m1 hy => ?_)
  replace n := n.bl m1
  clear cG
  cases y
  · obtain ⟨-, -, b3⟩ := hy rfl
    have rd1 := Lib.hid (rdV.out.below m1)
    have r2 : W1.rangeAt w.heap.size 0 [.slice A1 s.1.length c1, .slice A2 s.2.1.length c2, .slice A3 s.2.2.1.length c3, .int .i64 s.2.2.2.1.kind, .int .i64 s.2.2.2.1.at_, .int .i64 s.2.2.2.1.lo, .int .i64 s.2.2.2.1.hi, .int .i64 s.2.2.2.1.most, .slice N1 s.2.2.2.1.names.length N3, .slice M1 s.2.2.2.2.len M3, .string s.2.2.2.1.name, .int .i64 s.2.2.2.1.nat] := n.rg 0 rfl
    clear r1 rdV m1 hy
    have cB := Lib.hid fun R h1 h2 => build18_calls s gs (by omega) _ _ _ _ _ W1 rd1.out R h1 h2
    go_wp2_with (refine wpList_load_g (by rfl) 31 _ rfl w.heap.size 0 rfl _ _ r2 Tryz.underlying31 rfl (by kernel_rfl) ?_; go_simp)
    refine cB.out _ (Lib.hid fun W v hz pl m => ?_) (Lib.hid fun W hz m => ?_)
    · have o := OkS.of hz
      have q := depQ o.good o.inn.1 o.num.2
      have gx := o.good
      have ix := o.inn.1
      have lx := o.num
      change PlanP W v _ _ _ (plS s) at pl
      generalize plS s = x at *
      generalize nms s.1 = nm at pl
      generalize leqF s.1 s.2.1 = F at pl
      generalize nms (tw s.2.2.1) = ns at pl
      have n2 := (F0.z w).bl ((F0.bel n).trans (m.mono (F0.bel n).size))
      clear cB rd1 r2 n m hz o b3 gs
      obtain ⟨P, rfl⟩ : ∃ P, v = .pointer (some ⟨P, 0, none⟩) := by
        obtain ⟨P, _, _, _, _, _, e, -⟩ := pl
        exact ⟨P, e⟩
      obtain ⟨qq, hq⟩ : ∃ q : Int × Int, q = (0, 0) := ⟨_, rfl⟩
      rw [← hq]
      obtain ⟨q0, q1⟩ := qq
      replace hq := Lib.hid hq
      obtain ⟨W2, e5, n, z5⟩ := n2.new (.cells #[.int .i64 q0, .int .i64 q1] 37)
      have m2 : Below W.heap.size W W2 := e5 ▸ (Below.refl _ _).alloc (Nat.le_refl _) _
      replace pl := Lib.hid (pl.below m2)
      replace gx := Lib.hid gx
      replace ix := Lib.hid ix
      clear n2 z5 m2
      go_upto_region 4 with fail
      clear e5
      obtain ⟨rfl, rfl⟩ : q0 = 0 ∧ q1 = 0 := by simpa using hq.out
      have a0 := n.c 0 0 rfl rfl
      clear hq
      go_wp2_with fail
      refine depths_calls pl.out gx.out ix.out lx.2 _ (Lib.hid fun W3 dv rD m3 => ?_)
      have mw3 := Lib.hid ((F0.bel n).trans (m3.mono (F0.bel n).size))
      have pl3 := Lib.hid (pl.out.below m3)
      clear a0 n m3 pl
      generalize depL x.1 = D at *
      obtain ⟨len, hlen⟩ : ∃ len, x.1.length = len := ⟨_, rfl⟩
      rw [hlen] at q lx
      obtain ⟨Ad, cd, rfl, -, hDc⟩ := ints_open rD
      have hDl := q.dl
      rw [hDl] at hDc ⊢
      have hD : Hid (0 < len → ∃ g o, Ad = some ⟨g, o, none⟩ ∧ ∀ J : Nat, J < len → g < W3.heap.size ∧ W3.cell? ⟨g, o + J, none⟩ = some (.int .i64 (atD D (J : Int)))) := Lib.hid fun h0 => by
        obtain ⟨g, o, e, hg, hc⟩ := hDc h0
        exact ⟨g, o, e, fun J hJ => ⟨hg, hc J hJ⟩⟩
      have cL := Lib.hid fun W (pl : PlanP W (.pointer (some ⟨P, 0, none⟩)) nm F ns x) R hR => plen_calls pl R hR
      rw [hlen] at cL
      have l1 : 1 ≤ len := lx.1
      have l2 : len ≤ 40000 := lx.2
      have hB := Lib.hid q.bd
      have qf := Lib.hid q.fx
      have hb1 := Lib.hid (show ∀ y ∈ x.1, y.names.length ≤ 1000000 ∧ y.edges.length ≤ 1000000 from fun y hy => ⟨Nat.le_trans (gx.out y hy).ln (by decide), Nat.le_trans (gx.out y hy).le (by decide)⟩)
      replace hlen := Lib.hid hlen
      replace hDl := Lib.hid hDl
      have szD := rD
      clear hDc q rD lx szD
      go_wp2_with fail
      refine cL.out W3 pl3.out _ (Lib.hid ?_)
      clear cL
      go_wp2_with fail
      go_loopg [6] len (fun g i wr => ∃ (K : Nat), i = .int .i64 K ∧ K + g = len ∧ Hid (Below W3.heap.size W3 wr))
      case atStart => exact ⟨0, rfl, by omega, Lib.hid (Below.refl _ _)⟩
      case round =>
        obtain ⟨gq, hgq⟩ : ∃ z, z = gk := ⟨gk, rfl⟩
        subst hgq
        obtain ⟨K, rfl, e1, mW0⟩ := hrel
        replace mW0 := mW0.out
        by_cases hK : K < len
        · have i0 : (0 : Int) ≤ (K : Int) := by omega
          have i1 : (K : Int) < (len : Int) := by omega
          have plw := Lib.hid (pl3.out.below mW0)
          go_wp2_with fail
          refine pnode_calls plw.out hb1.out K (by rw [hlen.out]; exact hK) _ (Lib.hid fun W4 nv ev y hy rS rE m4 => ?_)
          obtain ⟨hv, gy, hU0⟩ := qf.out K y hy
          obtain ⟨A5, c5, rfl, -⟩ := rS.open
          obtain ⟨A6, c6, rfl, -, hE0⟩ := ed_el rE
          have mW1 := mW0.trans (m4.mono mW0.size)
          have nB := F0.z W4
          obtain ⟨V5, e7, nB, z7⟩ := nB.new (.cells #[.int .i64 y.kind, .int .i64 y.at_, .int .i64 y.lo, .int .i64 y.hi, .int .i64 y.most, .slice A5 y.names.length c5, .slice A6 y.edges.length c6] 59)
          have m5 := F0.bel nB
          have mW := mW1.trans (m5.mono mW1.size)
          have hE := Lib.hid fun (k : Nat) (hk : k < y.edges.length) => (show ∃ g o, A6 = some ⟨g, o, none⟩ ∧ g < V5.heap.size ∧ ∀ W, Below V5.heap.size V5 W → W.rangeAt g (o + k * 10) (encE y.edges[k]) from by
            obtain ⟨g, o, e, hg, hr⟩ := hE0 k hk
            exact ⟨g, o, e, Nat.lt_of_lt_of_le hg m5.size, fun W m => hr W (m5.trans (m.mono m5.size))⟩)
          have led7 := Lib.hid fun h => led_seven (fun j => (hB.out j).1) gy h
          have led8 := Lib.hid fun h => led_eight (fun j => (hB.out j).1) (y := y) h
          have lede := Lib.hid fun h7 h8 => led_else (D := D) (y := y) h7 h8
          have hU := Lib.hid (show ∀ e ∈ y.edges, e.bare = false → 0 ≤ e.dst ∧ e.dst < (len : Int) from fun e he hb => by
            have := hU0 e he hb
            rw [hDl.out] at this
            exact this)
          rw [hv.symm] at led7
          rw [hv.symm] at led8
          rw [hv.symm] at lede
          have hl64 := gy.le
          have hD5 : Hid (0 < len → ∃ g o, Ad = some ⟨g, o, none⟩ ∧ ∀ J : Nat, J < len → g < V5.heap.size ∧ V5.cell? ⟨g, o + J, none⟩ = some (.int .i64 (atD D (J : Int)))) := Lib.hid fun h0 => by
            obtain ⟨g, o, e, hc⟩ := hD.out h0
            exact ⟨g, o, e, fun J hJ => ⟨Nat.lt_of_lt_of_le (hc J hJ).1 mW.size, (mW.cell (p := ⟨g, o + J, none⟩) (hc J hJ).1).trans (hc J hJ).2⟩⟩
          clear z7 hv gy hU0 hE0 rS rE hy mW0 mW1 plw m4 m5
          obtain ⟨k0, k1, k2, k3, k4, yn, es⟩ := y
          simp only at *
          go_upto_region 13 with (refine wpList_copy #[.int .i64 k0, .int .i64 k1, .int .i64 k2, .int .i64 k3, .int .i64 k4, .slice A5 yn.length c5, .slice A6 es.length c6] ⟨rfl, rfl, rfl⟩ ⟨rfl, rfl, rfl⟩ node_alloc19 (by kernel_rfl) ⟨rfl, by simp [Value.oneCell']⟩ (fun _ => ⟨rfl, rfl⟩) ?_; go_simp)
          clear e7
          have x0 : V5.cell? ⟨W4.heap.size, 0, none⟩ = some (.int .i64 k0) := nB.c 0 0 rfl rfl
          have x6 := nB.c 0 6 rfl rfl
          have bx := nB.lt 0 rfl
          by_cases kk : k0 = 7 ∨ k0 = 8
          · replace hD := hD5
            clear hD5 lede nB
            go_cut [53] from 46 to 52 (fun s wx => s = .bool false ∧ V5 = wx)
            case first =>
              rcases kk with rfl | rfl
              · go_wp2_with fail
                go_meet
                exact ⟨rfl, rfl⟩
              · go_wp2_with fail
                go_meet
                exact ⟨rfl, rfl⟩
            case rest =>
              obtain ⟨rfl, rfl⟩ := hcut
              go_upto_region 17 with fail
              go_wp2_with fail
              go_loopg [9, 10, 11, 12] es.length (fun g sm sb sn i wr => ∃ (k : Nat) (m b : Int) (nb : Bool), sm = .int .i64 m ∧ sb = .int .i64 b ∧ sn = .bool nb ∧ i = .int .i64 k ∧ k + g = es.length ∧ 0 ≤ m ∧ m ≤ 40000 ∧ 0 ≤ b ∧ b ≤ 40001 ∧ Hid (ledF D es (0, 0, false) = ledF D (es.drop k) (m, b, nb)) ∧ Hid (Below V5.heap.size V5 wr))
              case atStart => exact ⟨0, 0, 0, false, rfl, rfl, rfl, rfl, by omega, by omega, by omega, by omega, by omega, Lib.hid rfl, Lib.hid (Below.refl _ _)⟩
              case round =>
                obtain ⟨k, m, b, nb, rfl, rfl, rfl, rfl, e1, m0, m1_, b0, b1, e3, mX⟩ := hrel
                replace e3 := e3.out
                replace mX := mX.out
                have t6 := (mX.cell (p := ⟨W4.heap.size, 6, none⟩) bx).trans x6
                by_cases hk : k < es.length
                · obtain ⟨g, o, rfl, hg, hrg⟩ := hE.out k hk
                  have rg := hrg wr mX
                  have hin := hU.out _ (List.getElem_mem hk)
                  rw [List.drop_eq_getElem_cons hk] at e3
                  clear hrg
                  generalize es[k] = e at *
                  replace e3 : ledF D es (0, 0, false) = ledF D (es.drop (k + 1)) (ledE D e (m, b, nb)) := e3
                  obtain ⟨X, NB, M, B, T, q1, q2, q3, q4, q5, q6, q7, q8⟩ := led_all (D := D) (e := e) (m := m) (b := b) (nb := nb) hB.out m0 m1_ b0 b1
                  rw [q8] at e3
                  obtain ⟨f0, f1, f2, f3, f4, f5, f6, f7, f8, f9⟩ := e
                  simp only at hin q1 q2
                  have i0 : (0 : Int) ≤ (k : Int) := by omega
                  have i1 : (k : Int) < (es.length : Int) := by omega
                  have nE := F0.z wr
                  obtain ⟨V6, e6, nE, z6⟩ := nE.new (.cells (encE ⟨f0, f1, f2, f3, f4, f5, f6, f7, f8, f9⟩).toArray 63)
                  replace e3 := Lib.hid e3
                  replace q1 := Lib.hid q1
                  replace q2 := Lib.hid q2
                  replace q4 := Lib.hid q4
                  replace q5 := Lib.hid q5
                  replace q6 := Lib.hid q6
                  replace q7 := Lib.hid q7
                  clear q8
                  go_upto_region 21 with (first | (refine wpList_load_g (by rfl) 63 _ rfl g (o + k * 10) rfl _ _ rg Tryz.underlying63 rfl (by kernel_rfl) ?_; go_simp) | (refine wpList_copy (encE ⟨f0, f1, f2, f3, f4, f5, f6, f7, f8, f9⟩).toArray ⟨rfl, rfl, rfl⟩ ⟨rfl, rfl, rfl⟩ edge_alloc (by kernel_rfl) ⟨rfl, by simp [Value.oneCell', encE]⟩ (fun _ => ⟨rfl, rfl⟩) ?_; go_simp))
                  clear e6 z6 rg t6
                  have y1 := nE.c 0 1 rfl rfl
                  have y3 := nE.c 0 3 rfl rfl
                  go_upto_if 73 with fail
                  go_cut [11, 14] from 74 to 93 (fun s11 s14 wx => s11 = .bool NB ∧ s14 = .int .i64 X ∧ V6 = wx)
                  case first =>
                    cases f1 with
                    | true =>
                      obtain ⟨rfl, rfl⟩ := q1.out rfl
                      go_wp2_with fail
                      go_meet
                      exact ⟨rfl, rfl, rfl⟩
                    | false =>
                      replace hin := hin rfl
                      obtain ⟨J, rfl⟩ : ∃ J : Nat, f3 = (J : Int) := ⟨f3.toNat, by omega⟩
                      have j1 : J < len := by omega
                      have j2 : decide (len ≤ J) = false := decide_eq_false (by omega)
                      have j3 : ¬ (len : Int) ≤ (J : Int) := by omega
                      have i2 : (0 : Int) ≤ (J : Int) := by omega
                      have i3 : (J : Int) < (len : Int) := by omega
                      obtain ⟨gd, od, rfl, hcell⟩ := hD.out (by omega)
                      have cJ := ((F0.bel nE).cell (p := ⟨gd, od + J, none⟩) (Nat.lt_of_lt_of_le (hcell J j1).1 mX.size)).trans ((mX.cell (p := ⟨gd, od + J, none⟩) (hcell J j1).1).trans (hcell J j1).2)
                      obtain ⟨h1, h2⟩ := q2.out rfl
                      rw [← h1] at cJ
                      clear hcell h1
                      by_cases dz : X = 0
                      · subst dz
                        rw [if_pos rfl] at h2
                        subst h2
                        cases nb with
                        | true =>
                          go_wp2_with fail
                          go_meet
                          exact ⟨rfl, rfl, rfl⟩
                        | false =>
                          go_wp2_with fail
                          go_meet
                          exact ⟨rfl, rfl, rfl⟩
                      · rw [if_neg dz] at h2
                        subst h2
                        have td : (X == 0) = false := by simpa using dz
                        clear dz
                        cases NB with
                        | true =>
                          go_wp2_with fail
                          go_meet
                          exact ⟨rfl, rfl, rfl⟩
                        | false =>
                          go_wp2_with fail
                          go_meet
                          exact ⟨rfl, rfl, rfl⟩
                  case rest =>
                    obtain ⟨rfl, rfl, rfl⟩ := hcut
                    go_upto_if 96 with fail
                    replace q4 := q4.out
                    generalize hc : decide (m < X) = cmB
                    replace hc := Lib.hid hc
                    replace q4 := Lib.hid q4
                    go_cut [9] from 97 to 97 (fun s9 wx => s9 = .int .i64 M ∧ V6 = wx)
                    case first =>
                      cases cmB with
                      | true =>
                        have h := q4.out
                        rw [if_pos (of_decide_eq_true hc.out)] at h
                        replace h := Lib.hid h
                        go_wp2_with fail
                        go_meet
                        exact ⟨by rw [h.out], rfl⟩
                      | false =>
                        have h := q4.out
                        rw [if_neg (of_decide_eq_false hc.out)] at h
                        replace h := Lib.hid h
                        go_wp2_with fail
                        go_meet
                        exact ⟨by rw [h.out], rfl⟩
                    case rest =>
                      obtain ⟨rfl, rfl⟩ := hcut
                      go_upto_region 29 with fail
                      go_cut [113] from 98 to 114 (fun s wx => s = .bool T ∧ V6 = wx)
                      case first =>
                        have h5 := q5.out
                        cases f1 with
                        | true =>
                          by_cases cb : b = 0
                          · have tb : (b == 0) = true := by simpa using cb
                            obtain rfl : T = true := h5.2 ⟨.inl rfl, .inl cb⟩
                            clear cb h5
                            go_wp2_with fail
                            go_meet
                            exact ⟨rfl, rfl⟩
                          · have tb : (b == 0) = false := by simpa using cb
                            by_cases cc : X + 1 < b
                            · have tc : decide (X + 1 < b) = true := by simpa using cc
                              obtain rfl : T = true := h5.2 ⟨.inl rfl, .inr cc⟩
                              clear cb h5
                              go_wp2_with fail
                              go_meet
                              exact ⟨rfl, rfl⟩
                            · have tc : decide (X + 1 < b) = false := by simpa using cc
                              obtain rfl : T = false := by
                                cases T with
                                | false => rfl
                                | true => exact absurd (h5.1 rfl).2 (fun p => p.elim cb cc)
                              clear cb h5
                              go_wp2_with fail
                              go_meet
                              exact ⟨rfl, rfl⟩
                        | false =>
                          by_cases dz : 0 < X
                          · have te : decide (0 < X) = true := by simpa using dz
                            by_cases cb : b = 0
                            · have tb : (b == 0) = true := by simpa using cb
                              obtain rfl : T = true := h5.2 ⟨.inr dz, .inl cb⟩
                              clear cb h5
                              go_wp2_with fail
                              go_meet
                              exact ⟨rfl, rfl⟩
                            · have tb : (b == 0) = false := by simpa using cb
                              by_cases cc : X + 1 < b
                              · have tc : decide (X + 1 < b) = true := by simpa using cc
                                obtain rfl : T = true := h5.2 ⟨.inr dz, .inr cc⟩
                                clear cb h5
                                go_wp2_with fail
                                go_meet
                                exact ⟨rfl, rfl⟩
                              · have tc : decide (X + 1 < b) = false := by simpa using cc
                                obtain rfl : T = false := by
                                  cases T with
                                  | false => rfl
                                  | true => exact absurd (h5.1 rfl).2 (fun p => p.elim cb cc)
                                clear cb h5
                                go_wp2_with fail
                                go_meet
                                exact ⟨rfl, rfl⟩
                          · have te : decide (0 < X) = false := by simpa using dz
                            obtain rfl : T = false := by
                              cases T with
                              | false => rfl
                              | true => exact absurd (h5.1 rfl).1 (fun p => p.elim (fun h => by cases h) dz)
                            clear h5
                            go_wp2_with fail
                            go_meet
                            exact ⟨rfl, rfl⟩
                      case rest =>
                        obtain ⟨rfl, rfl⟩ := hcut
                        obtain ⟨p0, p1, p2, p3⟩ := q3
                        have e4 := Lib.hid e3.out
                        have nX := Lib.hid (mX.trans ((F0.bel nE).mono mX.size))
                        have h6 := q6.out
                        clear e3 nE mX y1 y3 q1 q2 q4 q5 q6 q7
                        cases T with
                        | true =>
                          rw [if_pos rfl] at h6
                          subst h6
                          go_wp2_with fail
                          go_roundg (gk - 1)
                          case measure => omega
                          case rel => exact ⟨k + 1, M, X + 1, NB, rfl, rfl, rfl, by go_num, by omega, by omega, by omega, by omega, by omega, e4, nX⟩
                        | false =>
                          rw [if_neg (by decide)] at h6
                          subst h6
                          go_wp2_with fail
                          go_roundg (gk - 1)
                          case measure => omega
                          case rel => exact ⟨k + 1, M, B, NB, rfl, rfl, rfl, by go_num, by omega, by omega, by omega, by omega, by omega, e4, nX⟩
                · obtain rfl : k = es.length := by omega
                  rw [List.drop_length] at e3
                  replace e3 : ledF D es (0, 0, false) = (m, b, nb) := e3
                  obtain ⟨gd, od, rfl, hcell⟩ := hD.out (by omega)
                  have cK := (mX.cell (p := ⟨gd, od + K, none⟩) (hcell K hK).1).trans (hcell K hK).2
                  have t0 := (mX.cell (p := ⟨W4.heap.size, 0, none⟩) bx).trans x0
                  have nX := Lib.hid (mW.trans (mX.mono mW.size))
                  have i0 : (0 : Int) ≤ (K : Int) := by omega
                  have i1 : (K : Int) < (len : Int) := by omega
                  clear hcell x0 x6 bx
                  rcases kk with rfl | rfl
                  · have hv := led7.out rfl
                    rw [e3] at hv
                    rcases hv with ⟨h1, h2⟩ | ⟨h1, h2, h3⟩
                    · rw [h1] at cK
                      replace h2 : nb = true := h2
                      subst h2
                      clear e3 mX h1
                      go_wp2_with fail
                      go_roundg (gq - 1)
                      case measure => omega
                      case rel => exact ⟨K + 1, by go_num, by omega, nX⟩
                    · rw [h1] at cK
                      replace h2 : nb = false := h2
                      subst h2
                      have tq : (m + 1 == 0) = false := by
                        have : ¬ m + 1 = 0 := by omega
                        simpa using this
                      clear e3 mX h1
                      go_wp2_with fail
                      go_roundg (gq - 1)
                      case measure => omega
                      case rel => exact ⟨K + 1, by go_num, by omega, nX⟩
                  · have hv := led8.out rfl
                    rw [e3] at hv
                    rw [hv] at cK
                    clear e3 hv mX
                    go_wp2_with fail
                    go_roundg (gq - 1)
                    case measure => omega
                    case rel => exact ⟨K + 1, by go_num, by omega, nX⟩
          · have q7 : (k0 != 7) = true := by simpa using fun h => kk (.inl h)
            have q8 : (k0 != 8) = true := by simpa using fun h => kk (.inr h)
            have hv := lede.out (fun h => kk (.inl h)) (fun h => kk (.inr h))
            obtain ⟨gd, od, rfl, hcell⟩ := hD5.out (by omega)
            have cK := (hcell K hK).2
            rw [hv] at cK
            have nX := Lib.hid mW
            clear led7 led8 lede kk hcell hD hD5 mW hv nB
            go_wp2_with fail
            go_roundg (gq - 1)
            case measure => omega
            case rel => exact ⟨K + 1, by go_num, by omega, nX⟩
        · obtain rfl : K = len := by omega
          have plw := Lib.hid (pl3.out.below mW0)
          have cC := Lib.hid fun R hR => check19_calls plw.out gx.out ix.out (by rw [hlen.out]; exact l2) R hR
          generalize (ckS x.1).1 = c0 at cC
          generalize (ckS x.1).2 = c9 at cC
          have hf := fun w => fld37 c0 c9 w
          go_wp2_with fail
          refine cC.out _ (Lib.hid fun W4 m4 => ?_)
          have bw := Lib.hid (mw3.out.trans ((mW0.trans (m4.mono mW0.size)).mono mw3.out.size))
          clear cC m4 mW0 plw
          have l3 : (0 : Int) < (K : Int) := by omega
          by_cases cz : c0 = 0
          · have tz : (c0 == 0) = true := by simpa using cz
            clear cz
            go_wp2_with fail
            refine lives19_calls _ _ (Lib.hid fun W5 m5 => ?_)
            have fin := Lib.hid (hR.out W5 (bw.out.trans (m5.mono bw.out.size)))
            clear hR bw m5
            go_wp2_with fail
            exact fin.out
          · have tz : (c0 == 0) = false := by simpa using cz
            clear cz
            go_wp2_with fail
            refine lives19_calls _ _ (Lib.hid fun W5 m5 => ?_)
            have fin := Lib.hid (hR.out W5 (bw.out.trans (m5.mono bw.out.size)))
            clear hR bw m5
            go_wp2_with fail
            exact fin.out
    · have n2 := (F0.z w).bl ((F0.bel n).trans (m.mono (F0.bel n).size))
      generalize bldS s = qq at *
      obtain ⟨q0, q1⟩ := qq
      simp only at hz
      clear cB rd1 r2 n m gs
      obtain ⟨W2, e5, n, z5⟩ := n2.new (.cells #[.int .i64 q0, .int .i64 q1] 37)
      have tz : (q0 != 0) = true := by simpa using hz
      clear n2 z5 hz
      go_upto_region 4 with fail
      clear e5
      have a0 := n.c 0 0 rfl rfl
      have bw := Lib.hid (F0.bel n)
      clear n
      go_wp2_with fail
      refine lives19_calls _ _ (Lib.hid fun W5 m5 => ?_)
      have fin := Lib.hid (hR.out W5 (bw.out.trans (m5.mono bw.out.size)))
      clear hR bw m5
      go_wp2_with fail
      exact fin.out
  · have bw := Lib.hid (F0.bel n)
    clear n r1 rdV m1 hy gs
    go_wp2_with fail
    refine lives19_calls _ _ (Lib.hid fun W5 m5 => ?_)
    have fin := Lib.hid (hR.out W5 (bw.out.trans (m5.mono bw.out.size)))
    clear hR bw m5
    go_wp2_with fail
    exact fin.out
end Go.Proofs.YtbnmkbpjdelokaaGreat.Inh
