import Derived.Test.YtncijmodlhijoaaGreatQ45
set_option linter.unusedVariables false
set_option maxRecDepth 100000
set_option maxHeartbeats 4000000
namespace Go.Proofs.YtncijmodlhijoaaGreat.Syn
open Go.RowKit Go.Lib Utf Tok Cur Nam Lat Kin
theorem ofL_snoc : ∀ (l : List Pt) (x : Pt), ofL (l ++ [x]) = (ofL l).snoc x.1 x.2.1 x.2.2
 | [], x => rfl
 | y :: l, x => by
  show Fo.cons y.1 y.2.1 y.2.2 (ofL (l ++ [x])) = _
  rw [ofL_snoc l x]
  rfl
abbrev RdsP (w : World) (xs : List Value) (f : Ft) : Prop := RdsF 9 9 hdT plT w xs f
theorem RdsP.kp {w w' : World} {xs : List Value} {f : Ft} (h : RdsP w xs f) (k : Kp w w') : RdsP w' xs f := RdsF.kp (hd := hdT) (pl := plT) (fun _ _ _ _ _ q h => hdT.kp q h) (fun _ _ _ _ q h => plT.kp q h) k h
abbrev prL (y : Pt) (lv cv nv pv : Value) : List Value := [.string y.1.name, .int .i64 y.1.at_, .bool y.1.bare, lv, .int .i64 y.1.wide, .int .i64 y.1.ck, .int .i64 y.1.cn, .int .i64 y.1.cat, cv, .int .i64 y.2.1.kind, .int .i64 y.2.1.at_, .int .i64 y.2.1.lo, .int .i64 y.2.1.hi, .int .i64 y.2.1.most, nv, pv, .string y.2.1.name, .int .i64 y.2.1.nat]
theorem RdsP.snoc {w : World} {xs : List Value} {l : List Pt} {y : Pt} {lv cv nv pv : Value} (h : RdsP w xs (ofL l)) (e : RdE w y lv cv nv pv) : RdsP w (xs ++ prL y lv cv nv pv) (ofL (l ++ [y])) := by
 rw [ofL_snoc]
 exact RdsF.snoc (k := 9) (pre := 9) (hd := hdT) (pl := plT) (ps := [.string y.1.name, .int .i64 y.1.at_, .bool y.1.bare, lv, .int .i64 y.1.wide, .int .i64 y.1.ck, .int .i64 y.1.cn, .int .i64 y.1.cat, cv]) (ts := [.int .i64 y.2.1.kind, .int .i64 y.2.1.at_, .int .i64 y.2.1.lo, .int .i64 y.2.1.hi, .int .i64 y.2.1.most, nv, pv, .string y.2.1.name, .int .i64 y.2.1.nat]) (l := y.1) (x := y.2.1) (kids := y.2.2) rfl ⟨_, _, rfl, e.l, e.c⟩ ⟨rfl, _, ⟨_, rfl, e.t.n⟩, e.t.p⟩ h
theorem RdsP.one {w : World} {y : Pt} {lv cv nv pv : Value} (e : RdE w y lv cv nv pv) : RdsP w (prL y lv cv nv pv) (ofL [y]) := by
 have := RdsP.snoc (xs := []) (l := []) (show RdsP w [] (ofL []) from rfl) e
 exact this
theorem rowsP {w : World} {base n : Nat} {v : Value} {xs : List Value} {f : Ft} (own : w.ownsRow base 92 18 v n xs) (hn : n = f.len) (rd : RdsP (empW (rowS base v) w) xs f) : RdP (empW (lowS base) w) v f := by
 subst hn
 have k : Kp (empW (rowS base v) w) (empW (lowS base) w) := emp_kp (Nat.le_refl _) fun g _ h => ⟨fun q => h (.inl q), rfl⟩
 have rd2 := RdsP.kp rd k
 have h0 := own
 obtain ⟨hl, ⟨rfl, hn⟩ | ⟨g, cap, cur, rfl, hb, hg, hn, hm, hc, ht⟩⟩ := own
 ·exact ⟨none, 0, by rw [hn], by omega, fun h => absurd h (by omega)⟩
 ·refine ⟨_, cap, rfl, hn, fun _ => ⟨g, 0, rfl, ?_, RdsF.fo rd2 fun j u hj => ?_⟩⟩
  ·rw [emp_size]
   exact (h0.lt g rfl).2
  ·have := h0.cells (g := g) rfl j u hj
   rw [Addr.add_lit] at this
   exact emp_cell.2 ⟨by unfold lowS; omega, this⟩
theorem prInfo : (Tryz.prog.info? 92).map (fun i => (i.zero, i.size, i.bytes)) = some (some (.agg #[.string ⟨#[]⟩, .int .i64 0, .bool false, .slice none 0 0, .int .i64 0, .int .i64 0, .int .i64 0, .int .i64 0, .slice none 0 0, .int .i64 0, .int .i64 0, .int .i64 0, .int .i64 0, .int .i64 0, .slice none 0 0, .slice none 0 0, .string ⟨#[]⟩, .int .i64 0]), 18, 224) := by kernel_rfl
theorem ownNew {w w4 : World} {base n : Nat} {v v' : Value} {xs : List Value} (own : w.ownsRow base 92 18 v n xs) (gr : w.grownBy w4 v.ownBlock) (hfr : v'.ownBlock = v.ownBlock ∨ v'.ownBlock = some (w.heap.size + 1)) {b0 : Nat} (h0 : base ≤ b0) :
  Kp (empW (rowS base v) w) (empW (rowS base v') w4) ∧ ((∀ b, v.ownBlock = some b → b < b0) → Kp (empW (lowS b0) w) (empW (rowS base v') w4)) := by
 have new : ∀ g, g < w.heap.size → base ≤ g → v.ownBlock ≠ some g → ¬ rowS base v' g ∧ w4.heap[g]? = w.heap[g]? := fun g h1 h2 h3 => ⟨by
  rintro (q | q)
  ·omega
  ·rcases hfr with h | h
   ·exact h3 (h ▸ q)
   ·rw [h] at q
    simp only [Option.some.injEq] at q
    omega, gr.block g h1 (fun q => h3 q.symm)⟩
 refine ⟨emp_kp gr.size fun g h1 h2 => new g h1 (Nat.le_of_not_lt fun q => h2 (.inl q)) (fun q => h2 (.inr q)), fun hb => emp_kp gr.size fun g h1 h2 => ?_⟩
 have h3 : b0 ≤ g := Nat.le_of_not_lt h2
 exact new g h1 (by omega) (fun q => by have := hb g q; omega)
theorem Nx.kprow {w V W : World} {q p g g' : Nat} {d : Int} {s' : PS} {v : Value} (x : Nx V q p g d W g' s') (lp : p < w.heap.size) : Kp (empW (rowS w.heap.size v) V) (empW (rowS w.heap.size v) W) :=
 emp_kp x.gr.size fun k h1 h2 => ⟨h2, x.gr.block k h1 fun e => by simp only [Option.some.injEq] at e; exact h2 (.inl (by omega))⟩
theorem sepP_calls (fn : FuncId) (hF : IsF fn) (el : PS → Pt × PS) (gd : Gd el) (m : ByteArray) (q p : Nat) (d : Int)
  (hE : Hid (∀ s g w, PsG w q p g d s → s.1.length ≤ 1000000 → ∀ R : Ending → World → Prop, Hid (∀ w' g' lv cv nv pv, Nx w q p g d w' g' (el s).2 → RdE (empW (lowS w.heap.size) w') (el s).1 lv cv nv pv → R (.returned (prV (el s).1 lv cv nv pv)) w') → Calls Tryz.prog fn #[ptV q] w R))
  (s : PS) (g : Nat) (w : World) (h : PsG w q p g d s) (hl : s.1.length ≤ 1000000) (R : Ending → World → Prop)
  (hR : Hid (∀ w' g' v, Nx w q p g d w' g' (listP el m s).2 → RdP (empW (lowS w.heap.size) w') v (ofL (listP el m s).1) → R (.returned v) w')) : Calls Tryz.prog 281 #[ptV q, .string m, .func (.func fn) #[ptV q] #[]] w R := by
 have lp := h.cur.lt
 unfold IsF at hF
 obtain ⟨ti, hI, hZ⟩ : ∃ i0, Tryz.prog.info? 92 = some i0 ∧ (i0.zero, i0.size, i0.bytes) = (some (.agg #[.string ⟨#[]⟩, .int .i64 0, .bool false, .slice none 0 0, .int .i64 0, .int .i64 0, .int .i64 0, .int .i64 0, .slice none 0 0, .int .i64 0, .int .i64 0, .int .i64 0, .int .i64 0, .int .i64 0, .slice none 0 0, .slice none 0 0, .string ⟨#[]⟩, .int .i64 0]), 18, 224) := by
  have := prInfo
  cases h : Tryz.prog.info? 92 with
  | none => rw [h] at this; cases this
  | some i0 => rw [h] at this; exact ⟨i0, rfl, by simpa using this⟩
 simp only [Prod.mk.injEq] at hZ
 obtain ⟨hz0, hz1, hz2⟩ := hZ
 have gn := gd s h.ok
 have e0 : listP el m s = ((el s).1 :: (tlS el m s.1.length (el s).2).1, (tlS el m s.1.length (el s).2).2) := sep_tl _ _ _ _
 go_enter Tryz.func281, Tryz.ntmps281
 go_wp2_with fail
 refine hE.out s g w h hl _ (Lib.hid fun w1 g1 lv cv nv pv n r => ?_)
 generalize hx : (el s).1 = x at *
 generalize hs1 : (el s).2 = s1 at *
 obtain ⟨A1, c1, rfl, -, -⟩ := r.l.op
 obtain ⟨A2, c2, rfl, -, -⟩ := r.c.op
 obtain ⟨A3, c3, rfl, -, -⟩ := r.t.n.op
 obtain ⟨A4, c4, rfl, -⟩ := r.t.p.sl
 have hsw := n.gr.size
 have rw1 := Rw.one (w := w) (V := w1) (p := p) (g := g1) (e := 92) (us := #[.string x.1.name, .int .i64 x.1.at_, .bool x.1.bare, .slice A1 x.1.label.length c1, .int .i64 x.1.wide, .int .i64 x.1.ck, .int .i64 x.1.cn, .int .i64 x.1.cat, .slice A2 x.1.cl.length c2, .int .i64 x.2.1.kind, .int .i64 x.2.1.at_, .int .i64 x.2.1.lo, .int .i64 x.2.1.hi, .int .i64 x.2.1.most, .slice A3 x.2.1.names.length c3, .slice A4 x.2.2.len c4, .string x.2.1.name, .int .i64 x.2.1.nat]) rfl n.gr.size n.ps.cur.lg
 have k1 : Kp (empW (lowS w.heap.size) w1) (empW (rowS w.heap.size (.slice (some ⟨w1.heap.size, 0, none⟩) 1 1)) (w1.alloc (.cells #[.string x.1.name, .int .i64 x.1.at_, .bool x.1.bare, .slice A1 x.1.label.length c1, .int .i64 x.1.wide, .int .i64 x.1.ck, .int .i64 x.1.cn, .int .i64 x.1.cat, .slice A2 x.1.cl.length c2, .int .i64 x.2.1.kind, .int .i64 x.2.1.at_, .int .i64 x.2.1.lo, .int .i64 x.2.1.hi, .int .i64 x.2.1.most, .slice A3 x.2.1.names.length c3, .slice A4 x.2.2.len c4, .string x.2.1.name, .int .i64 x.2.1.nat] 92))) := emp_kp (by simp) fun k hk nk => ⟨by
  rintro (q | q)
  ·exact nk q
  ·have e := Option.some.inj (show some w1.heap.size = some k from q)
   omega, ((Below.refl _ _).alloc (Nat.le_refl _) (.cells #[.string x.1.name, .int .i64 x.1.at_, .bool x.1.bare, .slice A1 x.1.label.length c1, .int .i64 x.1.wide, .int .i64 x.1.ck, .int .i64 x.1.cn, .int .i64 x.1.cat, .slice A2 x.1.cl.length c2, .int .i64 x.2.1.kind, .int .i64 x.2.1.at_, .int .i64 x.2.1.lo, .int .i64 x.2.1.hi, .int .i64 x.2.1.most, .slice A3 x.2.1.names.length c3, .slice A4 x.2.2.len c4, .string x.2.1.name, .int .i64 x.2.1.nat] 92)).block k hk⟩
 have rds := RdsP.one (r.kp k1)
 replace n := n.alloc (.cells #[.string x.1.name, .int .i64 x.1.at_, .bool x.1.bare, .slice A1 x.1.label.length c1, .int .i64 x.1.wide, .int .i64 x.1.ck, .int .i64 x.1.cn, .int .i64 x.1.cat, .slice A2 x.1.cl.length c2, .int .i64 x.2.1.kind, .int .i64 x.2.1.at_, .int .i64 x.2.1.lo, .int .i64 x.2.1.hi, .int .i64 x.2.1.most, .slice A3 x.2.1.names.length c3, .slice A4 x.2.2.len c4, .string x.2.1.name, .int .i64 x.2.1.nat] 92)
 have inv : ∃ n0, s1.1.length ≤ n0 ∧ listP el m s = ([x] ++ (tlS el m n0 s1).1, (tlS el m n0 s1).2) := ⟨s.1.length, gn.2, e0⟩
 clear e0 k1 r
 have hR2 : Hid (∀ (w' : World) (g' : Nat) (v : Value) (l : List Pt) (s' : PS), listP el m s = (l, s') → Nx w q p g d w' g' s' → RdP (empW (lowS w.heap.size) w') v (ofL l) → R (.returned v) w') := Lib.hid fun w' g' v l s' e n r => by
  refine hR.out w' g' v ?_ ?_
  ·rw [e]; exact n
  ·rw [e]; exact r
 clear hR
 go_upto_region 2 with fail
 generalize w1.alloc (.cells #[.string x.1.name, .int .i64 x.1.at_, .bool x.1.bare, .slice A1 x.1.label.length c1, .int .i64 x.1.wide, .int .i64 x.1.ck, .int .i64 x.1.cn, .int .i64 x.1.cat, .slice A2 x.1.cl.length c2, .int .i64 x.2.1.kind, .int .i64 x.2.1.at_, .int .i64 x.2.1.lo, .int .i64 x.2.1.hi, .int .i64 x.2.1.most, .slice A3 x.2.1.names.length c3, .slice A4 x.2.2.len c4, .string x.2.1.name, .int .i64 x.2.1.nat] 92) = V at *
 generalize w1.heap.size = B at *
 replace n := Lib.hid n
 replace rw1 := Lib.hid rw1
 replace inv := Lib.hid inv
 replace rds := Lib.hid rds
 replace hE := Lib.hid hE
 go_loopg [7] s1.1.length (fun gk v wr => ∃ (K : Nat) (acc : List Pt) (sK : PS) (gK n0 : Nat) (v' : Value) (xs : List Value), v' = v ∧ acc.length = K ∧ gk = sK.1.length ∧ K + sK.1.length ≤ s.1.length + 1 ∧ sK.1.length ≤ n0 ∧ Hid (listP el m s = (acc ++ (tlS el m n0 sK).1, (tlS el m n0 sK).2)) ∧ Hid (Nx w q p g d wr gK sK) ∧ Hid (Rw w wr p gK 92 18 v' K xs) ∧ Hid (RdsP (empW (rowS w.heap.size v') wr) xs (ofL acc)))
 case atStart =>
  obtain ⟨n0, i1, i2⟩ := inv.out
  exact ⟨1, [x], s1, g1, n0, _, _, rfl, rfl, rfl, by have := gn.2; omega, i1, Lib.hid i2, n, rw1, rds⟩
 case round =>
  clear n rw1 inv rds
  obtain ⟨K, acc, sK, gK, n0, v, xs, rfl, rfl, rfl, e1, e2, e3, n, rw1, rds⟩ := hrel
  replace n := n.out
  replace rw1 := rw1.out
  replace rds := rds.out
  have b0 := n.ps.b0
  have okK := n.ps.ok
  go_wp2_with fail
  refine may_calls sK m q p gK d _ n.ps _ (Lib.hid fun w2 n2 => ?_)
  replace rds := rds.kp (n2.kprow lp)
  replace rw1 := rw1.nx n2 lp
  replace n := n.trans n2
  clear n2 b0
  cases hm : (mayS sK m).2
  ·rw [tl_no hm, List.append_nil] at e3
   rw [may_no hm] at n
   have fin := Lib.hid (hR2.out _ _ v acc sK e3.out n (rowsP rw1.own (ofL_len acc).symm rds))
   clear hR2 n rw1 e3 okK rds
   go_wp2_with fail
   exact fin.out
  ·have okm := may_ok (m := m) okK
   have lt := may_lt (EndL.ne okK) hm
   obtain ⟨n1, rfl⟩ : ∃ n1, n0 = n1 + 1 := ⟨n0 - 1, by omega⟩
   replace e3 := e3.out
   rw [tl_yes hm] at e3
   generalize (mayS sK m).1 = s3 at *
   have gn3 := gd s3 okm
   have b0 := n.ps.b0
   go_wp2_with fail
   refine hE.out.out s3 gK _ n.ps (by omega) _ (Lib.hid fun w3 g3 lv cv nv pv n3 r3 => ?_)
   have hw2 := n.gr.size
   have hlt := fun b hb => (rw1.own.lt b hb).2
   replace rds := rds.kp (n3.kprow lp)
   replace rw1 := rw1.nx n3 lp
   replace n := n.trans n3
   clear n3 b0
   generalize (el s3).1 = y at *
   generalize (el s3).2 = s4 at *
   obtain ⟨A1, c1, rfl, -, -⟩ := r3.l.op
   obtain ⟨A2, c2, rfl, -, -⟩ := r3.c.op
   obtain ⟨A3, c3, rfl, -, -⟩ := r3.t.n.op
   obtain ⟨A4, c4, rfl, -⟩ := r3.t.p.sl
   have own2 := Lib.hid rw1.own
   have hsz : w.heap.size ≤ w3.heap.size := n.gr.size
   have lg := n.ps.cur.lg
   go_wp2_with (at_builtin; go_loud (refine appKF w3 #[.string y.1.name, .int .i64 y.1.at_, .bool y.1.bare, .slice A1 y.1.label.length c1, .int .i64 y.1.wide, .int .i64 y.1.ck, .int .i64 y.1.cn, .int .i64 y.1.cat, .slice A2 y.1.cl.length c2, .int .i64 y.2.1.kind, .int .i64 y.2.1.at_, .int .i64 y.2.1.lo, .int .i64 y.2.1.hi, .int .i64 y.2.1.most, .slice A3 y.2.1.names.length c3, .slice A4 y.2.2.len c4, .string y.2.1.name, .int .i64 y.2.1.nat] 18 92 rfl _ _ 25 rfl w.heap.size ti (.agg #[.string ⟨#[]⟩, .int .i64 0, .bool false, .slice none 0 0, .int .i64 0, .int .i64 0, .int .i64 0, .int .i64 0, .slice none 0 0, .int .i64 0, .int .i64 0, .int .i64 0, .int .i64 0, .int .i64 0, .slice none 0 0, .slice none 0 0, .string ⟨#[]⟩, .int .i64 0]) 224 Tryz.underlying25 hI hz0 hz1 hz2 rfl (by decide) rfl _ acc.length xs rfl own2.out _ rfl rfl (by simp [Value.oneCell']) (by unfold maxLen; omega) (by omega) hsz ?_); rintro v' w4 hown4 hg4 hb4 hfr)
   obtain ⟨ka, kb⟩ := ownNew rw1.own hg4 hfr hw2
   have rdA := RdsP.snoc (rds.kp ka) (r3.kp (kb hlt))
   have nA := n.app h rw1 (.cells #[] 92) hg4
   have rwA : Rw w w4 p g3 92 18 v' (acc ++ [y]).length (xs ++ prL y (.slice A1 y.1.label.length c1) (.slice A2 y.1.cl.length c2) (.slice A3 y.2.1.names.length c3) (.slice A4 y.2.2.len c4)) := ⟨by rw [List.length_append]; exact hown4, fun b hb q => by
    subst q
    rcases hfr with e | e
    ·rw [e] at hb; exact rw1.ne _ hb rfl
    ·rw [e] at hb
     simp only [Option.some.injEq] at hb
     omega⟩
   have eA : listP el m s = (acc ++ [y] ++ (tlS el m n1 s4).1, (tlS el m n1 s4).2) := by rw [e3, List.append_assoc]; rfl
   replace nA := Lib.hid nA
   replace rwA := Lib.hid rwA
   replace eA := Lib.hid eA
   replace rdA := Lib.hid rdA
   have l4 : (acc ++ [y]).length = acc.length + 1 := by simp
   clear own2 rw1 n e3 hfr hg4 hb4 hown4 hR2 ka kb rds r3 hlt
   go_wp2_with fail
   go_roundg s4.1.length
   case measure => omega
   case rel => exact ⟨_, acc ++ [y], s4, g3, n1, v', _, rfl, rfl, rfl, by omega, by omega, eA, nA, rwA, rdA⟩
theorem listP_calls (fn : FuncId) (hF : IsF fn) (el : PS → Pt × PS) (gd : Gd el) (q p : Nat) (d : Int)
  (hE : Hid (∀ s g w, PsG w q p g d s → s.1.length ≤ 1000000 → ∀ R : Ending → World → Prop, Hid (∀ w' g' lv cv nv pv, Nx w q p g d w' g' (el s).2 → RdE (empW (lowS w.heap.size) w') (el s).1 lv cv nv pv → R (.returned (prV (el s).1 lv cv nv pv)) w') → Calls Tryz.prog fn #[ptV q] w R))
  (s : PS) (g : Nat) (w : World) (h : PsG w q p g d s) (hl : s.1.length ≤ 1000000) (R : Ending → World → Prop)
  (hR : Hid (∀ w' g' v, Nx w q p g d w' g' (listP el comma s).2 → RdP (empW (lowS w.heap.size) w') v (ofL (listP el comma s).1) → R (.returned v) w')) : Calls Tryz.prog 228 #[ptV q, .func (.func fn) #[ptV q] #[]] w R := by
 go_enter Tryz.func228, Tryz.ntmps228
 go_wp2_with fail
 refine sepP_calls fn hF el gd comma q p d hE s g w h hl _ (Lib.hid fun w1 g1 v n1 r1 => ?_)
 have fin := Lib.hid (hR.out w1 g1 v n1 r1)
 clear hR n1 r1
 go_wp2_with fail
 exact fin.out
theorem noneP_calls (fn : FuncId) (hF : IsF fn) (el : PS → Pt × PS) (gd : Gd el) (q p : Nat) (d : Int)
  (hE : Hid (∀ s g w, PsG w q p g d s → s.1.length ≤ 1000000 → ∀ R : Ending → World → Prop, Hid (∀ w' g' lv cv nv pv, Nx w q p g d w' g' (el s).2 → RdE (empW (lowS w.heap.size) w') (el s).1 lv cv nv pv → R (.returned (prV (el s).1 lv cv nv pv)) w') → Calls Tryz.prog fn #[ptV q] w R))
  (s : PS) (g : Nat) (w : World) (h : PsG w q p g d s) (hl : s.1.length ≤ 1000000) (R : Ending → World → Prop)
  (hR : Hid (∀ w' g' v, Nx w q p g d w' g' (noneC el s).2 → RdP (empW (lowS w.heap.size) w') v (ofL (noneC el s).1) → R (.returned v) w')) : Calls Tryz.prog 225 #[ptV q, .func (.func fn) #[ptV q] #[]] w R := by
 have b0 := h.b0
 have hq : noneC el s = if (pkS s).1 ≠ 1 then ([], s) else listP el comma s := rfl
 rw [hq] at hR
 clear hq
 have cP := Lib.hid fun R hR => pk_calls s q p g d w h R hR
 have cL := fun (W : World) (n : Nx w q p g d W g s) => Lib.hid fun R hR => listP_calls fn hF el gd q p d hE s g W n.ps hl R hR
 go_enter Tryz.func225, Tryz.ntmps225
 go_wp2_with fail
 refine cP.out _ (Lib.hid fun w1 n1 m1 => ?_)
 have c4 := cL w1 n1
 have kl : Kp (empW (lowS w1.heap.size) w1) (empW (lowS w.heap.size) w1) := kp_low n1.gr.size
 have kz := n1.gr.size
 clear m1 b0 cP cL
 generalize pkS s = t at *
 obtain ⟨t0, t1, t2, t3, t4⟩ := t
 simp only [tkV] at *
 have hf0 := fun w => run_field0 t0 t1 t2 t3 t4 w
 by_cases h0 : t0 = 1
 ·rw [if_neg (by simpa using h0)] at hR
  have q0 : (t0 != 1) = false := by simpa using h0
  clear h0
  go_wp2_with fail
  refine c4.out _ (Lib.hid fun w2 g2 v n2 r2 => ?_)
  have fin := Lib.hid (hR.out _ _ _ (n1.trans n2) (RdSl.kp (hd := hdT) (pl := plT) (fun _ _ _ _ _ q h => hdT.kp q h) (fun _ _ _ _ q h => plT.kp q h) (kp_low kz) r2))
  clear hR c4 n1 n2 r2 kl
  go_wp2_with fail
  exact fin.out
 ·rw [if_pos h0] at hR
  have q0 : (t0 != 1) = true := by simpa using h0
  clear h0
  have fin := Lib.hid (hR.out _ _ _ n1 (RdSl.nil _ none 0))
  clear hR c4 n1 kl
  go_wp2_with fail
  exact fin.out
theorem only_calls (k : Nat) (hk : TypQ k) (s : PS) (q p g : Nat) (w : World) (h : PsG w q p g (24 - (k : Int)) s) (hl : s.1.length ≤ 1000000) (R : Ending → World → Prop)
  (hR : Hid (∀ w' g' v, Nx w q p g (24 - (k : Int)) w' g' (typC k s).2 → RdP (empW (lowS w.heap.size) w') v (only (typC k s).1) → R (.returned v) w')) : Calls Tryz.prog 221 #[ptV q] w R := by
 go_enter Tryz.func221, Tryz.ntmps221
 go_wp2_with fail
 refine hk s q p g w h hl _ (Lib.hid fun w1 g1 nv pv n r => ?_)
 obtain ⟨A3, c3, rfl, -, -⟩ := r.n.op
 obtain ⟨A4, c4, rfl, -⟩ := r.p.sl
 generalize typC k s = X at *
 obtain ⟨⟨hh, ff⟩, s3⟩ := X
 simp only at *
 have hsw := n.gr.size
 have k1 : Kp (empW (lowS w.heap.size) w1) (empW (rowS w.heap.size (.slice (some ⟨w1.heap.size, 0, none⟩) 1 1)) (w1.alloc (.cells #[.string ⟨#[]⟩, .int .i64 0, .bool false, .slice none 0 0, .int .i64 0, .int .i64 0, .int .i64 0, .int .i64 0, .slice none 0 0, .int .i64 hh.kind, .int .i64 hh.at_, .int .i64 hh.lo, .int .i64 hh.hi, .int .i64 hh.most, .slice A3 hh.names.length c3, .slice A4 ff.len c4, .string hh.name, .int .i64 hh.nat] 92))) := emp_kp (by simp) fun k hk nk => ⟨by
  rintro (q | q)
  ·exact nk q
  ·have e := Option.some.inj (show some w1.heap.size = some k from q)
   omega, ((Below.refl _ _).alloc (Nat.le_refl _) (.cells #[.string ⟨#[]⟩, .int .i64 0, .bool false, .slice none 0 0, .int .i64 0, .int .i64 0, .int .i64 0, .int .i64 0, .slice none 0 0, .int .i64 hh.kind, .int .i64 hh.at_, .int .i64 hh.lo, .int .i64 hh.hi, .int .i64 hh.most, .slice A3 hh.names.length c3, .slice A4 ff.len c4, .string hh.name, .int .i64 hh.nat] 92)).block k hk⟩
 have rw1 := Rw.one (w := w) (V := w1) (p := p) (g := g1) (e := 92) (us := #[.string ⟨#[]⟩, .int .i64 0, .bool false, .slice none 0 0, .int .i64 0, .int .i64 0, .int .i64 0, .int .i64 0, .slice none 0 0, .int .i64 hh.kind, .int .i64 hh.at_, .int .i64 hh.lo, .int .i64 hh.hi, .int .i64 hh.most, .slice A3 hh.names.length c3, .slice A4 ff.len c4, .string hh.name, .int .i64 hh.nat]) rfl n.gr.size n.ps.cur.lg
 have rd : RdsP (empW (lowS w.heap.size) w1) [.string ⟨#[]⟩, .int .i64 0, .bool false, .slice none 0 0, .int .i64 0, .int .i64 0, .int .i64 0, .int .i64 0, .slice none 0 0, .int .i64 hh.kind, .int .i64 hh.at_, .int .i64 hh.lo, .int .i64 hh.hi, .int .i64 hh.most, .slice A3 hh.names.length c3, .slice A4 ff.len c4, .string hh.name, .int .i64 hh.nat] (only (hh, ff)) := RdsP.one (y := (zPH, hh, ff)) ⟨RdW.none0 _, RdW.none0 _, r⟩
 have fin := Lib.hid (hR.out _ _ _ (n.alloc (.cells #[.string ⟨#[]⟩, .int .i64 0, .bool false, .slice none 0 0, .int .i64 0, .int .i64 0, .int .i64 0, .int .i64 0, .slice none 0 0, .int .i64 hh.kind, .int .i64 hh.at_, .int .i64 hh.lo, .int .i64 hh.hi, .int .i64 hh.most, .slice A3 hh.names.length c3, .slice A4 ff.len c4, .string hh.name, .int .i64 hh.nat] 92)) (rowsP rw1.own rfl (rd.kp k1)))
 clear hR n rd r rw1 k1
 go_wp2_with fail
 exact fin.out
end Go.Proofs.YtncijmodlhijoaaGreat.Syn
