import Derived.Test.YtabhkakomececaaGreatQ45
import Derived.Test.YtabhkakomececaaGreatQ39
set_option linter.all false
set_option maxRecDepth 100000
set_option maxHeartbeats 4000000
namespace Go.Proofs.YtabhkakomececaaGreat
namespace Kin
open Go.RowKit Go.Lib Utf Nam Lat
theorem wrong15_k6(f:Ft)(ih:Fo.AllK WrongQ f)(h:TH)(nv pv:Value)(m d:Nat)(w:World)(hm:m+1≤512)(hd:d≤24)(ho:ownB h f=true)(hk:h.kind=6)(gh:GoodH h)(hfl:f.len≤maxLen)(hga:f.All GoodH GoodL)(hy:RdY w h f nv pv)(R:Ending→World→Prop)
  (hR:Hid (∀w',Below w.heap.size w w'→R (.returned (wV (wrB h f (wrF f) d m).1 (wrB h f (wrF f) d m).2.1 (wrB h f (wrF f) d m).2.2)) w')):Calls Tryz.prog 97 #[wV 0 0 m,tyV h nv pv,.int .i64 d] w R:=by
 replace hfl:f.len≤9223372036854775807:=hfl;obtain⟨Ap,cp,rfl,hpl⟩:=hy.p.sl;obtain⟨An,cn,rfl,hcn,hrn⟩:=hy.n.op;have gnl:h.names.length≤9223372036854775807:=gh.2.2.2.2.2.2.2.2;have b1:=(Below.refl w.heap.size w).alloc (Nat.le_refl _) (.cells #[.int .i64 0,.int .i64 0,.int .i64 m] 183);have b2:=b1.alloc b1.size (.cells (tyL h (.slice An h.names.length cn) (.slice Ap f.len cp)).toArray 36);have b3:=b2.alloc b2.size (.cells #[.int .i64 0,.int .i64 0,.int .i64 0] 183);have z1:(w.alloc (.cells #[.int .i64 0,.int .i64 0,.int .i64 m] 183)).heap.size=w.heap.size+1:=by simp
 have z2:((w.alloc (.cells #[.int .i64 0,.int .i64 0,.int .i64 m] 183)).alloc (.cells (tyL h (.slice An h.names.length cn) (.slice Ap f.len cp)).toArray 36)).heap.size=w.heap.size+2:=by simp
 have g0:=(((Below.refl _ _).alloc (Nat.le_refl _) (.cells #[.int .i64 0,.int .i64 0,.int .i64 0] 183)).block w.heap.size (by omega)).trans ((((Below.refl _ _).alloc (Nat.le_refl _) (.cells (tyL h (.slice An h.names.length cn) (.slice Ap f.len cp)).toArray 36)).block w.heap.size (by omega)).trans (heap_alloc_new w (.cells #[.int .i64 0,.int .i64 0,.int .i64 m] 183)));have g1:=(TB.new (w.alloc (.cells #[.int .i64 0,.int .i64 0,.int .i64 m] 183)) h (.slice An h.names.length cn) (.slice Ap f.len cp) 36).below ((Below.refl _ _).alloc (Nat.le_refl _) (.cells #[.int .i64 0,.int .i64 0,.int .i64 0] 183));have g2:=heap_alloc_new ((w.alloc (.cells #[.int .i64 0,.int .i64 0,.int .i64 m] 183)).alloc (.cells (tyL h (.slice An h.names.length cn) (.slice Ap f.len cp)).toArray 36)) (.cells #[.int .i64 0,.int .i64 0,.int .i64 0] 183);rw [z1]at g1;rw [z2]at g2;have rw0:RW (((w.alloc (.cells #[.int .i64 0,.int .i64 0,.int .i64 m] 183)).alloc (.cells (tyL h (.slice An h.names.length cn) (.slice Ap f.len cp)).toArray 36)).alloc (.cells #[.int .i64 0,.int .i64 0,.int .i64 0] 183)) w.heap.size m h (.slice An h.names.length cn) (.slice Ap f.len cp):=⟨g0,g1,g2⟩;have hyw:=Lib.hid hy;replace hga:=Lib.hid hga;replace gh:=Lib.hid gh;replace hrn:=Lib.hid hrn;replace ih:=Lib.hid ih;replace hk:=Lib.hid hk;replace ho:=Lib.hid ho;clear g0 g1 g2 z1 z2 b1 b2 hy;go_enter Tryz.func97,Tryz.ntmps97
 go_upto_region 1 with fail
 generalize(((w.alloc (.cells #[.int .i64 0,.int .i64 0,.int .i64 m] 183)).alloc (.cells (tyL h (.slice An h.names.length cn) (.slice Ap f.len cp)).toArray 36)).alloc (.cells #[.int .i64 0,.int .i64 0,.int .i64 0] 183))=W3 at *;have k0:=(Lib.cell_of_heap rw0.h0 0).trans rfl;have k1:=(Lib.cell_of_heap rw0.h0 1).trans rfl;have k2:=(Lib.cell_of_heap rw0.h0 2).trans rfl;have kf2:=Lib.frozen_of_heap rw0.h0 2;go_upto_region 2 with fail
 obtain⟨M,hM⟩:∃M:Nat,M=m+1:=⟨_,rfl⟩;rw [show((m:Int)+1)=((M:Nat):Int)by omega];have l0:=blt_of rw0.h0;have l2:=blt_of rw0.h2;have rwA:=Lib.hid (RW.mk (m:=M) (nv:=.slice An h.names.length cn) (pv:=.slice Ap f.len cp) (set_atK rw0.h0 2 (.int .i64 (M:Nat))) (rw0.h1.set1 (by omega) 2 (.int .i64 (M:Nat))) ((set_neK (by omega)).trans rw0.h2));have nA:=Lib.hid (b3.setCell (p:=⟨w.heap.size,2,none⟩) (Nat.le_refl _) (.int .i64 (M:Nat)));replace hM:=Lib.hid hM;generalize W3.setCell ⟨w.heap.size,2,none⟩ (.int .i64 (M:Nat))=WA at *;clear rw0 b3 k0 k1 k2 kf2 l0 l2 W3;have hm:M≤512:=by have:=hM.out;omega
 have k0:=(Lib.cell_of_heap rwA.out.h0 0).trans rfl;have k1:=(Lib.cell_of_heap rwA.out.h0 1).trans rfl;have k2:=(Lib.cell_of_heap rwA.out.h0 2).trans rfl;have t0:=rwA.out.h1.k0;have t1:=rwA.out.h1.k1;have hk1:¬h.kind<1:=by have:=hk.out;omega
 have hk9:¬9<h.kind:=by have:=hk.out;omega
 have r0:=rwA.out.h1.range;have cO:=Lib.hid fun R hR=>own15_calls f h (.slice An h.names.length cn) (.slice Ap f.len cp) WA gh.out.2.2.2.2.2.2.2.2 hfl hga.out (hyw.out.below nA.out) R hR
 rw [ho.out]at cO;go_wp2_with (refine wpList_load_g (by rfl) 36 _ rfl (w.heap.size+1) 0 rfl [.int .i64 h.kind,.int .i64 h.at_,.int .i64 h.lo,.int .i64 h.hi,.int .i64 h.most,.slice An h.names.length cn,.slice Ap f.len cp,.string h.name,.int .i64 h.nat] _ r0 Tryz.underlying36 rfl (by kernel_rfl) ?_;go_simp)
 refine cO.out _ (Lib.hid fun wB nB=>?_);have rwB:=Lib.hid (rwA.out.below nB);have nb:=Lib.hid (nA.out.trans (nB.mono nA.out.size));clear r0 cO k0 k1 k2 t0 t1 rwA nA nB;clear hk1 hk9;have k0:=(Lib.cell_of_heap rwB.out.h0 0).trans rfl;have k1:=(Lib.cell_of_heap rwB.out.h0 1).trans rfl;have k2:=(Lib.cell_of_heap rwB.out.h0 2).trans rfl;have t0:=rwB.out.h1.k0;have t1:=rwB.out.h1.k1;have t4:=rwB.out.h1.k4;have t6:=rwB.out.h1.k6;have hq:=wrB_5 (sub:=wrF f) hM.out hd hm ho.out (.inr hk.out);rw [hk.out]at t0
 by_cases hl:f.len=1
 ·obtain⟨p,x,kd,r,e⟩:=Fo.drop_lt (n:=0) (f:=f) (by omega)
  obtain⟨g,o,lv,cv,nx,px,rfl,hg,hlv,hcv,hyx,hc⟩:=(hyw.out).p.part e;obtain⟨A1,n1,rfl,-,-⟩:=hlv.op;obtain⟨A2,n2,rfl,-,-⟩:=hcv.op;obtain⟨A5,n5,rfl,-,-⟩:=hyx.n.op;obtain⟨A7,n7,rfl,-⟩:=hyx.p.sl;obtain⟨gp,gx,gk',ga2⟩:=all_at 0 hga.out e;have ihK:=Lib.hid ((ih.out).at_ e);obtain⟨on1,on2⟩:=only_one e hl;rw [on2]at hq;clear on2 ih hga e;have hgB:g<wB.heap.size:=Nat.lt_of_lt_of_le hg nb.out.size;have rg:wB.rangeAt g o [.string p.name,.int .i64 p.at_,.bool p.bare,.slice A1 p.label.length n1,.int .i64 p.wide,.int .i64 p.ck,.int .i64 p.cn,.int .i64 p.cat,.slice A2 p.cl.length n2,.int .i64 x.kind,.int .i64 x.at_,.int .i64 x.lo,.int .i64 x.hi,.int .i64 x.most,.slice A5 x.names.length n5,.slice A7 kd.len n7,.string x.name,.int .i64 x.nat]:=fun j v h=>(nb.out.cell (p:=⟨g,o+j,none⟩) hg).trans (by have:=hc j v h;rwa [Nat.zero_mul,Nat.add_zero]at this)
  have cN:wB.cell? ⟨g,o,none⟩=some (.string p.name):=rg 0 _ rfl;have rgX:wB.rangeAt g (o+9) [.int .i64 x.kind,.int .i64 x.at_,.int .i64 x.lo,.int .i64 x.hi,.int .i64 x.most,.slice A5 x.names.length n5,.slice A7 kd.len n7,.string x.name,.int .i64 x.nat]:=fun j v h=>by rw [Nat.add_assoc];exact rg (9+j) v (by rw [←List.getElem?_drop];exact h)
  clear hc;rw [hl]at t6;clear hl
  by_cases hn:p.name=ByteArray.empty
  ·rw [decide_eq_true hn,Bool.true_and]at on1
   rw [hn]at cN;clear hn;have cP:=Lib.hid fun R hR=>(show Calls Tryz.prog 168 #[ptV p (.slice A1 p.label.length n1) (.slice A2 p.cl.length n2) x (.slice A5 x.names.length n5) (.slice A7 kd.len n7),.agg #[.string ⟨#[]⟩,.int .i64 0,.bool false,.slice none 0 0,.int .i64 0,.int .i64 0,.int .i64 0,.int .i64 0,.slice none 0 0,.int .i64 0,.int .i64 0,.int .i64 0,.int .i64 0,.int .i64 0,.slice none 0 0,.slice none 0 0,.string ⟨#[]⟩,.int .i64 0]] wB R from plain15_calls p zPH _ _ (.slice none 0 0) (.slice none 0 0) (.slice A5 x.names.length n5) (.slice A7 kd.len n7) (.slice none 0 0) (.slice none 0 0) x zTH wB gp.2.2.2.2.2.2.2.2.1 gp.2.2.2.2.2.2.2.2.2 (hlv.below nb.out) (hcv.below nb.out) (RdG.none0 _ _ _) (RdG.none0 _ _ _) R hR)
   go_upto_region 26 with fail
   go_wp2_with (refine wpList_load_g (by rfl) 127 _ rfl g o rfl [.string p.name,.int .i64 p.at_,.bool p.bare,.slice A1 p.label.length n1,.int .i64 p.wide,.int .i64 p.ck,.int .i64 p.cn,.int .i64 p.cat,.slice A2 p.cl.length n2,.int .i64 x.kind,.int .i64 x.at_,.int .i64 x.lo,.int .i64 x.hi,.int .i64 x.most,.slice A5 x.names.length n5,.slice A7 kd.len n7,.string x.name,.int .i64 x.nat] _ rg Tryz.underlying127 rfl (by kernel_rfl) ?_;go_simp)
   refine cP.out _ (Lib.hid fun wM nM=>?_);have rwM:=Lib.hid (rwB.out.below nM);have nbM:=Lib.hid (nb.out.trans (nM.mono nb.out.size));have t6':=(nM.cell (p:=⟨w.heap.size+1,6,none⟩) rwB.out.h1.lt).trans t6;have rgM:wM.rangeAt g (o+9) [.int .i64 x.kind,.int .i64 x.at_,.int .i64 x.lo,.int .i64 x.hi,.int .i64 x.most,.slice A5 x.names.length n5,.slice A7 kd.len n7,.string x.name,.int .i64 x.nat]:=fun j v h=>(nM.cell (p:=⟨g,o+9+j,none⟩) hgB).trans (rgX j v h)
   have hgM:g<wM.heap.size:=Nat.lt_of_lt_of_le hgB nM.size;clear rg rgX cN k0 k1 k2 t0 t1 t4 t6 cP nM rwB nb hgB;have k0:=(Lib.cell_of_heap rwM.out.h0 0).trans rfl;have k1:=(Lib.cell_of_heap rwM.out.h0 1).trans rfl;have k2:=(Lib.cell_of_heap rwM.out.h0 2).trans rfl;have t1:=rwM.out.h1.k1;have t4:=rwM.out.h1.k4;cases hb:plainB p zPH
   ·rw [on1,hb,if_pos rfl]at hq
    clear hb on1;go_wp2_with fail
    refine with15_calls 0 0 (M:Nat) (19) (h.at_) _ _ (Lib.hid fun wL nL=>?_);have rwL:=(rwM.out).below nL;have y0:=(Lib.cell_of_heap rwL.h2 0).trans rfl;have yf0:=Lib.frozen_of_heap rwL.h2 0;have y1:=(Lib.cell_of_heap rwL.h2 1).trans rfl;have yf1:=Lib.frozen_of_heap rwL.h2 1;have y2:=(Lib.cell_of_heap rwL.h2 2).trans rfl;have yf2:=Lib.frozen_of_heap rwL.h2 2;have fin:=Lib.hid (hR.out _ (set3k (q:=w.heap.size+2) (by omega) (nbM.out.trans (nL.mono nbM.out.size)) (.int .i64 (19)) (.int .i64 (h.at_)) (.int .i64 (M:Nat))));rw [hq]at fin;clear hR rwL nL;go_wp2_with fail
    refine bodyPost_ret ?_ rfl fin.out;simp [results,Tryz.results97,go_sem,y0,y1,y2]
   ·rw [on1,hb,if_neg (by simp)]at hq
    clear hb on1
    by_cases c:h.most<0
    ·rw [if_pos (.inl c)]at hq
     go_wp2_with fail
     refine with15_calls 0 0 (M:Nat) (20) (h.at_) _ _ (Lib.hid fun wL nL=>?_);have rwL:=(rwM.out).below nL;have y0:=(Lib.cell_of_heap rwL.h2 0).trans rfl;have yf0:=Lib.frozen_of_heap rwL.h2 0;have y1:=(Lib.cell_of_heap rwL.h2 1).trans rfl;have yf1:=Lib.frozen_of_heap rwL.h2 1;have y2:=(Lib.cell_of_heap rwL.h2 2).trans rfl;have yf2:=Lib.frozen_of_heap rwL.h2 2;have fin:=Lib.hid (hR.out _ (set3k (q:=w.heap.size+2) (by omega) (nbM.out.trans (nL.mono nbM.out.size)) (.int .i64 (20)) (.int .i64 (h.at_)) (.int .i64 (M:Nat))));rw [hq]at fin;clear hR rwL nL;go_wp2_with fail
     refine bodyPost_ret ?_ rfl fin.out;simp [results,Tryz.results97,go_sem,y0,y1,y2]
    ·by_cases c':1024<h.most
     ·rw [if_pos (.inr c')]at hq
      go_wp2_with fail
      refine with15_calls 0 0 (M:Nat) (20) (h.at_) _ _ (Lib.hid fun wL nL=>?_);have rwL:=(rwM.out).below nL;have y0:=(Lib.cell_of_heap rwL.h2 0).trans rfl;have yf0:=Lib.frozen_of_heap rwL.h2 0;have y1:=(Lib.cell_of_heap rwL.h2 1).trans rfl;have yf1:=Lib.frozen_of_heap rwL.h2 1;have y2:=(Lib.cell_of_heap rwL.h2 2).trans rfl;have yf2:=Lib.frozen_of_heap rwL.h2 2;have fin:=Lib.hid (hR.out _ (set3k (q:=w.heap.size+2) (by omega) (nbM.out.trans (nL.mono nbM.out.size)) (.int .i64 (20)) (.int .i64 (h.at_)) (.int .i64 (M:Nat))));rw [hq]at fin;clear hR rwL nL;go_wp2_with fail
      refine bodyPost_ret ?_ rfl fin.out;simp [results,Tryz.results97,go_sem,y0,y1,y2]
     ·rw [if_neg (by omega)]at hq
      go_wp2_with fail
      generalize hX:wrB x kd (wrF kd) (d+1) M=X at hq;have l0:=blt_of rwM.out.h0;have l1:=rwM.out.h1.lt;have j6:=fun y:GW wM (w.heap.size+2) (w.heap.size+2)=>y.cell (by omega) (by omega) (by omega) t6'
      have jx:∀y:GW wM (w.heap.size+2) (w.heap.size+2),y.w.rangeAt g (o+9) [.int .i64 x.kind,.int .i64 x.at_,.int .i64 x.lo,.int .i64 x.hi,.int .i64 x.most,.slice A5 x.names.length n5,.slice A7 kd.len n7,.string x.name,.int .i64 x.nat]:=fun y j v h=>y.cell hgM (by omega) (by omega) (rgM j v h)
      have cW:=fun(V:World) (gV:Below wM.heap.size wM V)=>Lib.hid fun R hR=>(show Calls Tryz.prog 97 #[wV 0 0 M,tyV x (.slice A5 x.names.length n5) (.slice A7 kd.len n7),.int .i64 ((d:Int)+1)] V R from ihK.out x (.slice A5 x.names.length n5) (.slice A7 kd.len n7) M (d+1) V hm (by omega) gx gk' ga2 (hyx.below (nbM.out.trans (gV.mono nbM.out.size))) R hR)
      simp only[hX]at cW;clear t1 t4 t6' rgM;have jr:∀y:GW wM (w.heap.size+2) (w.heap.size+2),y.w.rangeAt w.heap.size 0 [.int .i64 0,.int .i64 0,.int .i64 M]:=fun y j v h=>by rw [Nat.zero_add,Lib.cell_of_heap ((y.b _ l0 (by omega) (by omega)).trans rwM.out.h0)];simpa using h
      clear k0 k1 k2;refine wp_region_mixG (w.heap.size+2) (w.heap.size+2) [([0,1,2,3,4,5,6,7],8),([],9)] [] (by kernel_rfl) (by kernel_rfl) (by kernel_rfl) (by kernel_rfl) (fun _ _ d _ _ h=>by cases d<;>exact h) ?_
      have gW:Below wM.heap.size wM (wM.drewN 1):=⟨rfl,rfl,rfl,Nat.le_refl _,fun _ _=>rfl⟩;refine mix_cons (os:=[_,_,_,_,_,_,_,_]) (by simp only[pickO,List.filterMap_cons,List.filterMap_nil,List.getElem?_toArray,List.getElem?_cons_succ,List.getElem?_cons_zero];rfl) (fun Kp hKp=>?_)
      refine wpQuiet_load rfl _ _ rfl w.heap.size 0 rfl [.int .i64 0,.int .i64 0,.int .i64 M] _ (by rintro V ⟨y,rfl⟩;exact jr y) Tryz.underlying183 rfl (by kernel_rfl) ?_
      go_simp
      iterate 4 (go_big_quiet_step (exact rfl))
      refine wpQuiet_load rfl 36 _ rfl g (o+9) rfl [.int .i64 x.kind,.int .i64 x.at_,.int .i64 x.lo,.int .i64 x.hi,.int .i64 x.most,.slice A5 x.names.length n5,.slice A7 kd.len n7,.string x.name,.int .i64 x.nat] _ (by rintro V ⟨y,rfl⟩;exact jx y) Tryz.underlying36 rfl (by kernel_rfl) ?_
      go_simp
      repeat (go_big_quiet_step (exact rfl))
      refine wpQuiet_nil ?_;refine hKp _ ?_;clear hKp;refine loud (by rfl) (by kernel_rfl) (fun K1 hK1=>?_);go_simp;refine(cW _ gW).out _ (Lib.hid fun wL nL=>?_);have gL:=gW.trans (nL.mono gW.size);refine hK1 _ _ (GW.bl gL) ?_;clear hK1;refine mix_cons (os:=[]) (by rfl) (fun Kp hKp=>?_);refine wpQuiet_nil ?_;refine hKp _ ?_;clear hKp;refine loud (by rfl) (by kernel_rfl) (fun K2 hK2=>?_);have rwL:=rwM.out.below gL;have y0:=(Lib.cell_of_heap rwL.h2 0).trans rfl;have yf0:=Lib.frozen_of_heap rwL.h2 0;have y1:=(Lib.cell_of_heap rwL.h2 1).trans rfl;have yf1:=Lib.frozen_of_heap rwL.h2 1;have y2:=(Lib.cell_of_heap rwL.h2 2).trans rfl;have yf2:=Lib.frozen_of_heap rwL.h2 2;go_simp;refine hK2 _ _ (GW.set (GW.set (GW.set (GW.bl gL) _) _) _) ?_;clear hK2;refine mix_nil (os:=[]) (by rfl) (fun Kp hKp=>?_);refine wpQuiet_nil ?_;refine hKp _ ?_;clear hKp;have fin:=Lib.hid (hR.out _ (set3k (q:=w.heap.size+2) (by omega) (nbM.out.trans (gL.mono nbM.out.size)) (.int .i64 (X.1)) (.int .i64 (X.2.1)) (.int .i64 (X.2.2:Nat))));rw [hq]at fin;clear hR;go_wp2_with fail
      refine bodyPost_ret ?_ rfl fin.out;simp [results,Tryz.results97,go_sem,y0,y1,y2]
  ·rw [decide_eq_false hn,Bool.false_and]at on1
   rw [on1,if_pos rfl]at hq
   have qn:¬p.name.toList=[]:=fun q=>by
    have e0:ByteArray.empty.toList=[]:=by first|rfl|decide|simp|(unfold ByteArray.toList;unfold ByteArray.toList.loop;rfl)
    have:=sq_f hn;rw [q,e0]at this;exact absurd this (by decide)
   clear hn on1;go_wp2_with fail
   refine with15_calls 0 0 (M:Nat) (19) (h.at_) _ _ (Lib.hid fun wL nL=>?_);have rwL:=(rwB.out).below nL;have y0:=(Lib.cell_of_heap rwL.h2 0).trans rfl;have yf0:=Lib.frozen_of_heap rwL.h2 0;have y1:=(Lib.cell_of_heap rwL.h2 1).trans rfl;have yf1:=Lib.frozen_of_heap rwL.h2 1;have y2:=(Lib.cell_of_heap rwL.h2 2).trans rfl;have yf2:=Lib.frozen_of_heap rwL.h2 2;have fin:=Lib.hid (hR.out _ (set3k (q:=w.heap.size+2) (by omega) (nb.out.trans (nL.mono nb.out.size)) (.int .i64 (19)) (.int .i64 (h.at_)) (.int .i64 (M:Nat))));rw [hq]at fin;clear hR rwL nL;go_wp2_with fail
   refine bodyPost_ret ?_ rfl fin.out;simp [results,Tryz.results97,go_sem,y0,y1,y2]
 ·rw [only_len hl,if_pos rfl]at hq
  have q1:((f.len:Int) != 1)=true:=by simp;omega
  clear hl;go_wp2_with fail
  refine with15_calls 0 0 (M:Nat) (19) (h.at_) _ _ (Lib.hid fun wL nL=>?_);have rwL:=(rwB.out).below nL;have y0:=(Lib.cell_of_heap rwL.h2 0).trans rfl;have yf0:=Lib.frozen_of_heap rwL.h2 0;have y1:=(Lib.cell_of_heap rwL.h2 1).trans rfl;have yf1:=Lib.frozen_of_heap rwL.h2 1;have y2:=(Lib.cell_of_heap rwL.h2 2).trans rfl;have yf2:=Lib.frozen_of_heap rwL.h2 2;have fin:=Lib.hid (hR.out _ (set3k (q:=w.heap.size+2) (by omega) (nb.out.trans (nL.mono nb.out.size)) (.int .i64 (19)) (.int .i64 (h.at_)) (.int .i64 (M:Nat))));rw [hq]at fin;clear hR rwL nL;go_wp2_with fail
  refine bodyPost_ret ?_ rfl fin.out;simp [results,Tryz.results97,go_sem,y0,y1,y2]
theorem wrong15_step(f:Ft)(ih:Fo.AllK WrongQ f):WrongQ f:=by
 intro h nv pv m d w hm hd gh hfl hga hy R hR
 by_cases c:24<d∨512<m+1∨h.kind<1∨9<h.kind∨ownB h f=false
 ·exact wrong15_err f ih h nv pv m d w hm hd c gh hfl hga hy R hR
 ·simp only[not_or]at c
  obtain⟨c1,c2,c3,c4,c5⟩:=c;have hd':d≤24:=by omega
  have hm':m+1≤512:=by omega
  have ho:ownB h f=true:=by simpa using c5
  have hk:(h.kind=1∨h.kind=2∨h.kind=3∨h.kind=9)∨h.kind=4∨h.kind=5∨h.kind=6∨(h.kind=7∨h.kind=8):=by omega
  rcases hk with hk|hk|hk|hk|hk
  ·exact wrong15_flat f ih h nv pv m d w hm' hd' ho hk gh hfl hga hy R hR
  ·exact wrong15_enum f ih h nv pv m d w hm' hd' ho hk gh hfl hga hy R hR
  ·exact wrong15_k5 f ih h nv pv m d w hm' hd' ho hk gh hfl hga hy R hR
  ·exact wrong15_k6 f ih h nv pv m d w hm' hd' ho hk gh hfl hga hy R hR
  ·exact wrong15_parts f ih h nv pv m d w hm' hd' ho hk gh hfl hga hy R hR
theorem wrong15_calls(f:Ft):WrongQ f:=Fo.deep wrong15_step f
end Kin
namespace Res
open Go.RowKit Go.Lib Utf Nam Lat Kin Unp Rel Lab
theorem te_el{w:World}{v:Value}{L:List Te}(h:RdG encY 9 w v L):∃(A:Option Addr)(c:Nat),v=.slice A L.length c∧L.length≤c∧∀K (hK:K<L.length),∃g o,A=some ⟨g,o,none⟩∧g<w.heap.size∧w.rangeAt g (o+K*9) (encY L[K]):=by
 obtain⟨A,c,rfl,hc,hr⟩:=RdG.open encY_len (by decide) h;refine⟨A,c,rfl,hc,fun K hK=>?_⟩;obtain⟨g,o,rfl,hg,hi⟩:=hr (by omega);exact⟨g,o,rfl,hg,fun j v e=>(hi K hK j (by have:=(List.getElem?_eq_some_iff.1 e).1;exact this)).trans e⟩
theorem allL_good{s:Sc}(gs:GoodS s)(b3:s.2.2.1.length≤1000000):∀x∈allL s,GoodH x.1∧x.2.All GoodH Kin.GoodL∧x.2.len≤maxLen:=fun x hx=>by
 unfold allL at hx;rcases List.mem_append.1 hx with hx|hx
 ·obtain⟨y,hy,rfl⟩:=List.mem_map.1 hx
  have:=gs.t y hy;exact⟨this.2.1,this.2.2.1,this.2.2.2⟩
 ·obtain rfl:=List.mem_singleton.1 hx
  exact⟨gs.h,gs.g,gs.gl⟩
theorem refwrong18_calls(s:Sc)(gs:GoodS s)(b1:s.1.length≤1000000)(b2:s.2.1.length≤1000000)(b3:s.2.2.1.length≤1000000)(lv ov tv nv pv:Value)(w:World)(rd:RdSc w s lv ov tv nv pv)(R:Ending→World→Prop)
  (hR:Hid (∀W (q:Int×Int),(q.1=0→q.2=0∧OkR s)→Below w.heap.size w W→R (.returned (.agg #[.int .i64 q.1,.int .i64 q.2])) W)):Calls Tryz.prog 48 #[scV s lv ov tv nv pv] w R:=by
 have rd0:=rd;obtain⟨A1,c1,rfl,-,-⟩:=rd.l.op;obtain⟨A2,c2,rfl,-,-⟩:=Unp.RdPr.op rd.o;obtain⟨A3,c3,rfl,-,hel⟩:=nds_el rd.t;obtain⟨N1,N3,rfl,-,-⟩:=rd.r.n.op;obtain⟨M1,M3,rfl,-⟩:=rd.r.p.sl;have n:=F0.z w;obtain⟨V1,e1,n,z1⟩:=n.new (.cells [.slice A1 s.1.length c1,.slice A2 s.2.1.length c2,.slice A3 s.2.2.1.length c3,.int .i64 s.2.2.2.1.kind,.int .i64 s.2.2.2.1.at_,.int .i64 s.2.2.2.1.lo,.int .i64 s.2.2.2.1.hi,.int .i64 s.2.2.2.1.most,.slice N1 s.2.2.2.1.names.length N3,.slice M1 s.2.2.2.2.len M3,.string s.2.2.2.1.name,.int .i64 s.2.2.2.1.nat].toArray 38);obtain⟨V,e2,n,z2⟩:=n.new (.cells #[.int .i64 0,.int .i64 0] 26);replace hel:=Lib.hid hel;replace rd0:=Lib.hid rd0;have hgl:=Lib.hid (allL_good gs b3);clear z1 z2 rd;have bV:=F0.bel n;have x0:=n.c 1 0 rfl rfl;have x1:=n.c 1 1 rfl rfl;have cW:=Lib.hid fun R hR=>Lat.refwrong_calls s.1 s.2.1 _ _ V (rd0.out.below bV).l (rd0.out.below bV).o gs.l b1 b2 R hR
 have lat:=Lib.hid (rfl:(wrongS s.1 s.2.1).1=(wrongS s.1 s.2.1).1);obtain⟨a,ha⟩:∃a,a=wrongS s.1 s.2.1:=⟨_,rfl⟩;rw [←ha]at cW;replace ha:=Lib.hid ha;obtain⟨a0,a1⟩:=a;go_enter Tryz.func48,Tryz.ntmps48
 go_upto_region 1 with fail
 clear e1 e2;go_wp2_with fail
 refine cW.out _ (Lib.hid fun W2 m2=>?_);clear cW x0 x1 bV lat;replace n:=n.bl m2;obtain⟨V3,e3,n,z3⟩:=n.new (.cells #[.int .i64 a0,.int .i64 a1] 26);clear m2 z3;go_upto_region 2 with fail
 clear e3;have f0:=n.c 0 0 rfl rfl
 by_cases ca:a0=0
 case neg =>
  have ta:(a0 != 0)=true:=by simpa using ca
  have why:a0=0→a1=0∧OkR s:=fun h=>absurd h ca
  replace why:=Lib.hid why;have rF:=n.rg 0 rfl;clear ca;have hG:=n.b 1 rfl;obtain⟨V9,e9,n9⟩:=n.row (j:=1) rfl #[.int .i64 a0,.int .i64 a1];have w0_:=n9.c 1 0 rfl rfl;have w1_:=n9.c 1 1 rfl rfl;have fin:=Lib.hid (hR.out V9 (a0,a1) why.out (F0.bel n9));clear n9 hR;go_wp2_with (first|(refine wpList_load_g (by rfl) 26 _ rfl W2.heap.size 0 rfl _ _ rF Tryz.underlying26 rfl (by kernel_rfl) ?_;go_simp)|(refine wpList_store_row (by rfl) 26 _ _ (by rfl) V1.heap.size #[.int .i64 a0,.int .i64 a1] (by rfl) (by rfl) 26 _ hG (by kernel_rfl) rfl (by simp [Value.oneCell']) ?_;refine cast_w18 e9 ?_;go_simp))
  first|refine bodyPost_ret ?_ rfl fin.out|refine bodyPost_end ?_ rfl fin.out
  simp [results,Tryz.results48,go_sem,w0_,w1_]
 have ta:(a0 != 0)=false:=by simpa using ca
 have lat:Hid ((wrongS s.1 s.2.1).1=0):=Lib.hid (by rw [←ha.out];exact ca)
 clear ca ha;replace n:=n.tail;have rS:=n.rg 1 rfl;have cN:=Lib.hid fun R hR=>refnamed18_calls s gs _ _ _ _ _ V3 (rd0.out.below (F0.bel n)) b3 R hR
 obtain⟨a,ha⟩:∃a,a=nmR s:=⟨_,rfl⟩;rw [←ha]at cN;replace ha:=Lib.hid ha;obtain⟨d0,d1⟩:=a;go_wp2_with (refine wpList_load_g (by rfl) 38 _ rfl w.heap.size 0 rfl _ _ rS Tryz.underlying38 rfl (by kernel_rfl) ?_;go_simp)
 refine cN.out _ (Lib.hid fun W4 m4=>?_);clear cN rS f0 ta;replace n:=n.bl m4;obtain⟨V5,e5,n,z5⟩:=n.new (.cells #[.int .i64 d0,.int .i64 d1] 26);clear m4 z5;go_upto_region 5 with fail
 clear e5;have f0:=n.c 0 0 rfl rfl
 by_cases ca:d0=0
 case neg =>
  have ta:(d0 != 0)=true:=by simpa using ca
  have why:d0=0→d1=0∧OkR s:=fun h=>absurd h ca
  replace why:=Lib.hid why;have rF:=n.rg 0 rfl;clear ca;have hG:=n.b 1 rfl;obtain⟨V9,e9,n9⟩:=n.row (j:=1) rfl #[.int .i64 d0,.int .i64 d1];have w0_:=n9.c 1 0 rfl rfl;have w1_:=n9.c 1 1 rfl rfl;have fin:=Lib.hid (hR.out V9 (d0,d1) why.out (F0.bel n9));clear n9 hR;go_wp2_with (first|(refine wpList_load_g (by rfl) 26 _ rfl W4.heap.size 0 rfl _ _ rF Tryz.underlying26 rfl (by kernel_rfl) ?_;go_simp)|(refine wpList_store_row (by rfl) 26 _ _ (by rfl) V1.heap.size #[.int .i64 d0,.int .i64 d1] (by rfl) (by rfl) 26 _ hG (by kernel_rfl) rfl (by simp [Value.oneCell']) ?_;refine cast_w18 e9 ?_;go_simp))
  first|refine bodyPost_ret ?_ rfl fin.out|refine bodyPost_end ?_ rfl fin.out
  simp [results,Tryz.results48,go_sem,w0_,w1_]
 have ta:(d0 != 0)=false:=by simpa using ca
 have nam:Hid ((nmR s).1=0):=Lib.hid (by rw [←ha.out];exact ca)
 clear ca ha;replace n:=n.tail;have rS:=n.rg 1 rfl;have cA:=Lib.hid fun R hR=>refall18_calls s _ _ _ _ _ V5 (rd0.out.below (F0.bel n)) b3 R hR
 go_wp2_with (refine wpList_load_g (by rfl) 38 _ rfl w.heap.size 0 rfl _ _ rS Tryz.underlying38 rfl (by kernel_rfl) ?_;go_simp)
 refine cA.out _ (Lib.hid fun W6 v' L tp hL m6=>?_);clear cA rS f0 ta;obtain⟨Al,cl,rfl,-,hte⟩:=te_el (RdG.of_own tp.own);have hry:=tp.rd;have bv5:=F0.bel n;replace n:=n.bl m6;have hlen:L.length=(allL s).length:=by rw [←hL,List.length_map]
 have hln2:(allL s).length=s.2.2.1.length+1:=by unfold allL;simp
 have hl6:L.length≤1000001:=by omega
 have hget:∀K (hK:K<L.length),∃h f nv' pv',L[K]=((h,f),nv',pv')∧(allL s).drop K=(h,f)::(allL s).drop (K+1)∧(h,f)∈allL s∧RdY W6 h f nv' pv':=fun K hK=>by
  have e:(allL s)[K]?=some L[K].1:=by rw [←hL,List.getElem?_map,List.getElem?_eq_getElem hK];rfl
  have e2:=(List.getElem?_eq_some_iff.1 e);obtain⟨hk2,e3⟩:=e2;refine⟨L[K].1.1,L[K].1.2,L[K].2.1,L[K].2.2,rfl,?_,?_,(hry _ (List.getElem_mem hK)).below m6⟩
  ·rw [List.drop_eq_getElem_cons hk2,e3]
  ·rw [←e3];exact List.getElem_mem hk2
 replace hget:=Lib.hid hget;replace hte:=Lib.hid hte;replace hlen:=Lib.hid hlen;replace hln2:=Lib.hid hln2;clear hry tp hL m6 bv5;go_wp2_with fail
 go_loopg [6,7] L.length (fun g0 sm i wr=>∃(K:Nat) (t:Int),sm=.int .i64 t∧i=.int .i64 K∧K+g0=L.length∧Hid (kR t ((allL s).drop K)→kR 0 (allL s))∧Hid (Below W6.heap.size W6 wr)∧Hid (Hq F0 () () w wr [(V1.heap.size,.cells #[.int .i64 0,.int .i64 0] 26),(w.heap.size,.cells [.slice A1 s.1.length c1,.slice A2 s.2.1.length c2,.slice A3 s.2.2.1.length c3,.int .i64 s.2.2.2.1.kind,.int .i64 s.2.2.2.1.at_,.int .i64 s.2.2.2.1.lo,.int .i64 s.2.2.2.1.hi,.int .i64 s.2.2.2.1.most,.slice N1 s.2.2.2.1.names.length N3,.slice M1 s.2.2.2.2.len M3,.string s.2.2.2.1.name,.int .i64 s.2.2.2.1.nat].toArray 38)]))
 case atStart=>exact⟨0,0,rfl,rfl,by omega,Lib.hid (fun h=>h),Lib.hid (Below.refl _ _),Lib.hid n⟩
 case round =>
  clear n;obtain⟨K,t,rfl,rfl,e1,e2,mW,n⟩:=hrel;replace n:=n.out;replace mW:=mW.out
  by_cases hK:K<L.length
  ·obtain⟨g,o,rfl,hg,hrg⟩:=hte.out K hK
   obtain⟨h,f,nv',pv',eL,ed,hmem,hy⟩:=hget.out K hK;rw [eL]at hrg;obtain⟨gh,ga,gl⟩:=hgl.out _ hmem;have hy1:=hy.below mW;obtain⟨An,cn,rfl,-,-⟩:=hy1.n.op;obtain⟨Ap,cp,rfl,-⟩:=hy1.p.sl;have rg:wr.rangeAt g (o+K*9) (tyL h (.slice An h.names.length cn) (.slice Ap f.len cp)):=fun j u hj=>(mW.cell (p:=⟨g,o+K*9+j,none⟩) hg).trans (hrg j u hj)
   have e2':kR t ((h,f)::(allL s).drop (K+1))→kR 0 (allL s):=by rw [←ed];exact e2.out
   have cW:=Lib.hid fun R hR=>wrong15_calls f h _ _ 0 1 wr (by decide) (by decide) gh gl ga hy1 R hR
   obtain⟨a,ha⟩:∃a,a=wrB h f (wrF f) 1 0:=⟨_,rfl⟩;rw [←ha]at cW;replace ha:=Lib.hid ha;obtain⟨a0,a1,a2⟩:=a;have i0:(0:Int)≤(K:Int):=by omega
   have i1:(K:Int)<(L.length:Int):=by omega
   replace e2':=Lib.hid e2';have hgs:=Lib.hid (And.intro gl (And.intro ga hy));clear hrg e2 eL ed hmem hy1 gh ga gl hy;go_wp2_with (refine wpList_load_g (by rfl) 36 _ rfl g (o+K*9) rfl _ _ rg Tryz.underlying36 rfl (by kernel_rfl) ?_;go_simp)
   refine cW.out _ (Lib.hid fun W7 m7=>?_);clear cW;have rg7:=Lib.hid (show ∀W,Below W7.heap.size W7 W→W.rangeAt g (o+K*9) (tyL h (.slice An h.names.length cn) (.slice Ap f.len cp))from fun W m j u hj=>((mW.trans ((m7.trans (m.mono m7.size)).mono mW.size)).cell (p:=⟨g,o+K*9+j,none⟩) hg).trans (((mW.cell (p:=⟨g,o+K*9+j,none⟩) hg).symm).trans (rg j u hj)));have mW7:=mW.trans (m7.mono mW.size);replace n:=n.bl m7;obtain⟨V8,e8,n,z8⟩:=n.new (.cells #[.int .i64 a0,.int .i64 a1,.int .i64 a2] 183);have m8:=e8▸(Below.refl W7.heap.size W7).alloc (Nat.le_refl _) (.cells #[.int .i64 a0,.int .i64 a1,.int .i64 a2] 183);clear m7 z8 rg;go_upto_region 13 with fail
   clear e8;have f0:=n.c 0 0 rfl rfl
   by_cases ca:a0=0
   case neg =>
    have ta:(a0 != 0)=true:=by simpa using ca
    have why:a0=0→a1=0∧OkR s:=fun h=>absurd h ca
    replace why:=Lib.hid why;have rF0:=n.rg 0 rfl
    have rF:V8.rangeAt W7.heap.size 0 [.int .i64 a0,.int .i64 a1]:=fun j u hj=>rF0 j u (by
     match j,hj with
     | 0,hj=>exact hj
     | 1,hj=>exact hj
     | j+2,hj=>simp at hj)
    clear ca rF0;have hG:=n.b 1 rfl;obtain⟨V9,e9,n9⟩:=n.row (j:=1) rfl #[.int .i64 a0,.int .i64 a1];have w0_:=n9.c 1 0 rfl rfl;have w1_:=n9.c 1 1 rfl rfl;have fin:=Lib.hid (hR.out V9 (a0,a1) why.out (F0.bel n9));clear n9 hR;go_wp2_with (first|(refine wpList_load_g (by rfl) 26 _ rfl W7.heap.size 0 rfl _ _ rF Tryz.underlying26 rfl (by kernel_rfl) ?_;go_simp)|(refine wpList_store_row (by rfl) 26 _ _ (by rfl) V1.heap.size #[.int .i64 a0,.int .i64 a1] (by rfl) (by rfl) 26 _ hG (by kernel_rfl) rfl (by simp [Value.oneCell']) ?_;refine cast_w18 e9 ?_;go_simp))
    first|refine bodyPost_ret ?_ rfl fin.out|refine bodyPost_end ?_ rfl fin.out
    simp [results,Tryz.results48,go_sem,w0_,w1_]
   have ta:(a0 != 0)=false:=by simpa using ca
   have hw0:Hid ((wrB h f (wrF f) 1 0).1=0):=Lib.hid (by rw [←ha.out];exact ca)
   have mW8:=mW7.trans (m8.mono mW7.size);have rg:=rg7.out V8 m8;have cS:=Lib.hid fun R hR=>size15_calls f h _ _ V8 hgs.out.1 hgs.out.2.1 (hgs.out.2.2.below mW8) R hR
   generalize hdd:wrap64 (dW f 0+1)=dd at cS;generalize hcc:cW f 1=cc at cS;replace hcc:=Lib.hid hcc;replace n:=n.tail;clear ca ha hdd;go_wp2_with (refine wpList_load_g (by rfl) 36 _ rfl g (o+K*9) rfl _ _ rg Tryz.underlying36 rfl (by kernel_rfl) ?_;go_simp)
   refine cS.out _ (Lib.hid fun W9 m9=>?_);clear cS f0 ta rg;replace n:=n.bl m9;have mW9:=Lib.hid (mW8.trans (m9.mono mW8.size));have rg:=rg7.out W9 (m8.trans (m9.mono m8.size));clear rg7 mW8 mW7 m8 m9;go_upto_region 17 with fail
   generalize hT:wrap64 (t+cc)=T;replace hT:=Lib.hid hT.symm
   by_cases cb:512<T
   ·have tb:decide (512<T)=true:=by simpa using cb
    have y1:=rg 1 _ rfl;generalize h.at_=z at y1;have why:(8:Int)=0→z=0∧OkR s:=fun h=>absurd h (by decide)
    replace why:=Lib.hid why;clear rg cb;have hG:=n.b 0 rfl;obtain⟨V9,e9,n9⟩:=n.row (j:=0) rfl #[.int .i64 8,.int .i64 z];have w0_:=n9.c 0 0 rfl rfl;have w1_:=n9.c 0 1 rfl rfl;have fin:=Lib.hid (hR.out V9 (8,z) why.out (F0.bel n9));clear n9 hR;go_wp2_with (refine wpList_store_row (by rfl) 26 _ _ (by rfl) V1.heap.size #[.int .i64 8,.int .i64 z] (by rfl) (by rfl) 26 _ hG (by kernel_rfl) rfl (by simp [Value.oneCell']) ?_;refine cast_w18 e9 ?_;go_simp)
    first|refine bodyPost_ret ?_ rfl fin.out|refine bodyPost_end ?_ rfl fin.out
    simp [results,Tryz.results48,go_sem,w0_,w1_]
   ·have tb:decide (512<T)=false:=by simpa using cb
    have e3:Hid (kR T ((allL s).drop (K+1))→kR 0 (allL s)):=Lib.hid fun q=>e2'.out ⟨hw0.out,by rw [hcc.out,←hT.out];exact cb,by rw [hcc.out,←hT.out];exact q⟩
    replace n:=Lib.hid n;clear rg cb e2' hw0 hT hcc;go_wp2_with fail
    go_roundg (gk-1)
    case measure=>omega
    case rel=>exact⟨K+1,T,rfl,by go_num,by omega,e3,mW9,n⟩
  ·obtain rfl:K=L.length:=by omega
   have knd:Hid (kR 0 (allL s)):=Lib.hid (e2.out (by rw [List.drop_of_length_le (by rw [hlen.out];exact Nat.le_refl _)];trivial))
   clear e2 hK e1;have hokt:=Lib.hid (fun x hx=>(kR_ok _ _ knd.out x hx).1);replace mW:=Lib.hid mW;replace n:=Lib.hid n;go_wp2_with fail
   go_loopg [11] L.length (fun g0 i wr=>∃(K:Nat),i=.int .i64 K∧K+g0=L.length∧Hid (∀x∈(allL s).take K,(unT s x.1 (unF s x.2)).1=0)∧Hid (Below W6.heap.size W6 wr)∧Hid (Hq F0 () () w wr [(V1.heap.size,.cells #[.int .i64 0,.int .i64 0] 26),(w.heap.size,.cells [.slice A1 s.1.length c1,.slice A2 s.2.1.length c2,.slice A3 s.2.2.1.length c3,.int .i64 s.2.2.2.1.kind,.int .i64 s.2.2.2.1.at_,.int .i64 s.2.2.2.1.lo,.int .i64 s.2.2.2.1.hi,.int .i64 s.2.2.2.1.most,.slice N1 s.2.2.2.1.names.length N3,.slice M1 s.2.2.2.2.len M3,.string s.2.2.2.1.name,.int .i64 s.2.2.2.1.nat].toArray 38)]))
   case atStart=>exact⟨0,rfl,by omega,Lib.hid (by simp),mW,n⟩
   case round =>
    clear n mW;obtain⟨K,rfl,e1,e2,mW,n⟩:=hrel;replace n:=n.out;replace mW:=mW.out
    by_cases hK:K<L.length
    ·obtain⟨g,o,rfl,hg,hrg⟩:=hte.out K hK
     obtain⟨h,f,nv',pv',eL,ed,hmem,hy⟩:=hget.out K hK;rw [eL]at hrg;have hy1:=hy.below mW;obtain⟨An,cn,rfl,-,-⟩:=hy1.n.op;obtain⟨Ap,cp,rfl,-⟩:=hy1.p.sl;have okt:=hokt.out _ hmem
     have hkt:(allL s).take (K+1)=(allL s).take K++[(h,f)]:=by
      have hk2:K<(allL s).length:=by rw [←hlen.out];exact hK
      have e5:=List.drop_eq_getElem_cons hk2;rw [ed]at e5;rw [List.take_succ_eq_append_getElem hk2,(List.cons.inj e5).1]
     have bwr:=F0.bel n;have gl:=n.lt 1 rfl
     have rS:∀W,(∃q:BW wr,W=q.w)→W.rangeAt w.heap.size 0 [.slice A1 s.1.length c1,.slice A2 s.2.1.length c2,.slice A3 s.2.2.1.length c3,.int .i64 s.2.2.2.1.kind,.int .i64 s.2.2.2.1.at_,.int .i64 s.2.2.2.1.lo,.int .i64 s.2.2.2.1.hi,.int .i64 s.2.2.2.1.most,.slice N1 s.2.2.2.1.names.length N3,.slice M1 s.2.2.2.2.len M3,.string s.2.2.2.1.name,.int .i64 s.2.2.2.1.nat]:=fun W hW=>by
      obtain⟨q,rfl⟩:=hW;exact(n.bl q.b).rg 1 rfl
     have rT:∀W,(∃q:BW wr,W=q.w)→W.rangeAt g (o+K*9) (tyL h (.slice An h.names.length cn) (.slice Ap f.len cp)):=fun W hW j u hj=>by
      obtain⟨q,rfl⟩:=hW;exact((mW.trans (q.b.mono mW.size)).cell (p:=⟨g,o+K*9+j,none⟩) hg).trans (hrg j u hj)
     have cU:=Lib.hid fun(q:BW wr) R hR=>unknown_calls s gs b1 b3 f h _ _ _ _ _ _ _ q.w okt (ok_len okt).1 (rd0.out.below (bwr.trans (q.b.mono bwr.size))) (hy1.below q.b) R hR
     obtain⟨a,ha⟩:∃a,a=unT s h (unF s f):=⟨_,rfl⟩;rw [←ha]at cU;replace ha:=Lib.hid ha;obtain⟨a0,a1⟩:=a;have i0:(0:Int)≤(K:Int):=by omega
     have i1:(K:Int)<(L.length:Int):=by omega
     replace hkt:=Lib.hid hkt;have hmW:=Lib.hid mW;clear hrg eL ed hmem hy1 hy okt mW;go_upto_region 22 with fail
     go_cut [12]from 74 to 79 (fun s12 wx=>∃(T:Nat),s12=.pointer (some ⟨T,0,none⟩)∧Hid (Below wr.heap.size wr wx)∧Hid (Hq F0 () () w wx ((T,.cells #[.int .i64 a0,.int .i64 a1] 26)::[(V1.heap.size,.cells #[.int .i64 0,.int .i64 0] 26),(w.heap.size,.cells [.slice A1 s.1.length c1,.slice A2 s.2.1.length c2,.slice A3 s.2.2.1.length c3,.int .i64 s.2.2.2.1.kind,.int .i64 s.2.2.2.1.at_,.int .i64 s.2.2.2.1.lo,.int .i64 s.2.2.2.1.hi,.int .i64 s.2.2.2.1.most,.slice N1 s.2.2.2.1.names.length N3,.slice M1 s.2.2.2.2.len M3,.string s.2.2.2.1.name,.int .i64 s.2.2.2.1.nat].toArray 38)])))
     case first =>
      refine wp_region_tr (.two [0,1,2,3,4] 5 (.one [] 6 (.last [])) 6 (.one [] 5 (.last []))) 7 (by kernel_rfl) (by kernel_rfl) (by kernel_rfl) (by kernel_rfl) (by decide) (fun _ _ d _ _ h=>by cases d<;>exact h) ?_
      have gW:Below wr.heap.size wr (wr.drewN 1):=below_drewN (Below.refl _ _) 1;refine tr_two (os:=[_,_,_,_,_]) (by simp only[pickO,List.filterMap_cons,List.filterMap_nil,List.getElem?_toArray,List.getElem?_cons_succ,List.getElem?_cons_zero];rfl) (fun Kp hKp=>?_)
      refine wpQuiet_load rfl 38 _ rfl w.heap.size 0 rfl _ _ rS Tryz.underlying38 rfl (by kernel_rfl) ?_
      try go_simp
      iterate 3 (go_big_quiet_step (exact rfl))
      refine wpQuiet_load rfl 36 _ rfl g (o+K*9) rfl _ _ rT Tryz.underlying36 rfl (by kernel_rfl) ?_
      try go_simp
      refine wpQuiet_nil ?_;refine hKp _ ?_ ?_
      ·clear hKp
       refine loudr (by rfl) (by kernel_rfl) (fun K1 hK1=>?_);go_simp;refine cU.out ⟨wr.drewN 1,gW⟩ _ (Lib.hid fun W4 m4=>?_);have gL:=gW.trans (m4.mono gW.size);refine hK1 _ _ (BW.of gL) ?_;clear hK1;refine tr_one (os:=[]) (by rfl) (fun Kp hKp=>?_);refine wpQuiet_nil ?_;refine hKp _ ?_;clear hKp;have n4:=n.bl gL;obtain⟨V5_,e5_,n5_,z5_⟩:=n4.new (.cells #[.int .i64 a0,.int .i64 a1] 26);have gM:=Lib.hid (e5_▸gL.alloc gL.size (.cells #[.int .i64 a0,.int .i64 a1] 26));refine loudr (by rfl) (by kernel_rfl) (fun K2 hK2=>?_);go_simp;refine hK2 _ _ (BW.of (gL.alloc gL.size _)) ?_;clear hK2;refine tr_last (os:=[]) (by rfl) (fun Kp hKp=>?_);refine wpQuiet_nil ?_;refine hKp _ ?_;clear hKp;refine loudl (by rfl) (by kernel_rfl) ?_;go_simp;go_step;go_meet
       case rel=>exact⟨_,rfl,gM,Lib.hid n5_⟩
      ·clear hKp
       have n4:=n.bl gW;obtain⟨V4,e4,n4,z4⟩:=n4.new (.cells #[.int .i64 0,.int .i64 0] 26);rw [show(wr.drewN 1).heap.size=wr.heap.size from rfl]at n4;have gL:Below wr.heap.size wr V4:=e4▸gW.alloc gW.size _;refine loudr (by rfl) (by kernel_rfl) (fun K2 hK2=>?_);go_simp;refine hK2 _ _ (BW.of gL) ?_;clear hK2;refine tr_one (os:=[]) (by rfl) (fun Kp hKp=>?_);refine wpQuiet_nil ?_;refine hKp _ ?_;clear hKp;refine loudr (by rfl) (by kernel_rfl) (fun K1 hK1=>?_);go_simp;refine cU.out ⟨V4,gL⟩ _ (Lib.hid fun W5 m5=>?_);have gM:=gL.trans (m5.mono gL.size);refine hK1 _ _ (BW.of gM) ?_;clear hK1;refine tr_last (os:=[]) (by rfl) (fun Kp hKp=>?_);refine wpQuiet_nil ?_;refine hKp _ ?_;clear hKp e4;have n5:=n4.bl m5;have y0:=n5.c 0 0 rfl rfl;have yf0:=n5.f 0 0 rfl;have y1:=n5.c 0 1 rfl rfl;have yf1:=n5.f 0 1 rfl;obtain⟨V6,e6,n6,-⟩:=n5.put (j:=0) rfl [(0,.int .i64 a0),(1,.int .i64 a1)];simp only[stL]at e6;simp only[stA,List.setIfInBounds_toArray,List.set_cons_succ,List.set_cons_zero]at n6
       have gN:=Lib.hid (show Below wr.heap.size wr V6 from by
        rw [←e6];exact(gM.setCell (p:=⟨wr.heap.size,0,none⟩) (Nat.le_refl _) _).setCell (p:=⟨wr.heap.size,1,none⟩) (Nat.le_refl _) _)
       refine loudl (by rfl) (by kernel_rfl) ?_;go_simp;go_step;go_meet
       case rel=>exact⟨_,rfl,gN,Lib.hid n6⟩
     case rest =>
      clear n rS rT cU;obtain⟨T,rfl,gX,n⟩:=hcut;replace n:=n.out;obtain⟨VX,rfl⟩:∃V,V=wc:=⟨_,rfl⟩;have f0:=n.c 0 0 rfl rfl
      by_cases ca:a0=0
      case neg =>
       have ta:(a0 != 0)=true:=by simpa using ca
       have why:a0=0→a1=0∧OkR s:=fun h=>absurd h ca
       replace why:=Lib.hid why;have rF:=n.rg 0 rfl;clear ca;have hG:=n.b 1 rfl;obtain⟨V9,e9,n9⟩:=n.row (j:=1) rfl #[.int .i64 a0,.int .i64 a1];have w0_:=n9.c 1 0 rfl rfl;have w1_:=n9.c 1 1 rfl rfl;have fin:=Lib.hid (hR.out V9 (a0,a1) why.out (F0.bel n9));clear n9 hR;go_wp2_with (first|(refine wpList_load_g (by rfl) 26 _ rfl T 0 rfl _ _ rF Tryz.underlying26 rfl (by kernel_rfl) ?_;go_simp)|(refine wpList_store_row (by rfl) 26 _ _ (by rfl) V1.heap.size #[.int .i64 a0,.int .i64 a1] (by rfl) (by rfl) 26 _ hG (by kernel_rfl) rfl (by simp [Value.oneCell']) ?_;refine cast_w18 e9 ?_;go_simp))
       first|refine bodyPost_ret ?_ rfl fin.out|refine bodyPost_end ?_ rfl fin.out
       simp [results,Tryz.results48,go_sem,w0_,w1_]
      have ta:(a0 != 0)=false:=by simpa using ca
      have e3:Hid (∀x∈(allL s).take (K+1),(unT s x.1 (unF s x.2)).1=0):=Lib.hid fun x hx=>by
       rw [hkt.out]at hx;rcases List.mem_append.1 hx with hx|hx
       ·exact e2.out x hx
       ·obtain rfl:=List.mem_singleton.1 hx
        show(unT s h (unF s f)).1=0;rw [←ha.out];exact ca
      have mX:=Lib.hid (hmW.out.trans (gX.out.mono hmW.out.size));have n8:=Lib.hid n.tail;clear ca e2 ha hkt n gX bwr;go_wp2_with fail
      go_roundg (gk-1)
      case measure=>omega
      case rel=>exact⟨K+1,by go_num,by omega,e3,mX,n8⟩
    ·obtain rfl:K=L.length:=by omega
     have unk:Hid (∀x∈allL s,(unT s x.1 (unF s x.2)).1=0):=Lib.hid (by
      have:=e2.out;rw [List.take_of_length_le (by rw [hlen.out];exact Nat.le_refl _)]at this
      exact this)
     have hf:=Lib.hid (found_of unk.out);clear e2 hK e1 hte hget hlen hln2 hl6 mW hokt;have n0:=Lib.hid n;have x2:=n.c 1 2 rfl rfl;clear n;go_wp2_with fail
     clear x2;go_loopg [13] s.2.2.1.length (fun g0 i wr=>∃(K:Nat),i=.int .i64 K∧K+g0=s.2.2.1.length∧Hid (∀i,i<K→0≤endS s 99 i)∧Hid (Hq F0 () () w wr [(V1.heap.size,.cells #[.int .i64 0,.int .i64 0] 26),(w.heap.size,.cells [.slice A1 s.1.length c1,.slice A2 s.2.1.length c2,.slice A3 s.2.2.1.length c3,.int .i64 s.2.2.2.1.kind,.int .i64 s.2.2.2.1.at_,.int .i64 s.2.2.2.1.lo,.int .i64 s.2.2.2.1.hi,.int .i64 s.2.2.2.1.most,.slice N1 s.2.2.2.1.names.length N3,.slice M1 s.2.2.2.2.len M3,.string s.2.2.2.1.name,.int .i64 s.2.2.2.1.nat].toArray 38)]))
     case atStart=>exact⟨0,rfl,by omega,Lib.hid (fun i h=>by omega),n0⟩
     case round =>
      clear n0;obtain⟨K,rfl,e1,e2,n⟩:=hrel;replace n:=n.out;have x2:=n.c 1 2 rfl rfl
      by_cases hK:K<s.2.2.1.length
      ·obtain⟨g,o,N1',N3',M1',M3',rfl,-,hrg⟩:=hel.out K hK
       have bwr:=F0.bel n;have rS:=n.rg 1 rfl;have cE:=Lib.hid fun R hR=>refend18_calls s gs hf.out b3 99 K _ _ _ _ _ wr (by decide) hK (rd0.out.below bwr) R hR
       have hEE:Hid (0≤endS s 99 K→∀i,i<K+1→0≤endS s 99 i):=Lib.hid fun h0 i hi=>by
        rcases Nat.eq_or_lt_of_le (Nat.le_of_lt_succ hi)with e|q
        ·subst e;exact h0
        ·exact e2.out i q
       generalize endS s 99 K=E at *;have i0:(0:Int)≤(K:Int):=by omega
       have i1:(K:Int)<(s.2.2.1.length:Int):=by omega
       go_wp2_with (refine wpList_load_g (by rfl) 38 _ rfl w.heap.size 0 rfl _ _ rS Tryz.underlying38 rfl (by kernel_rfl) ?_;go_simp)
       refine cE.out _ (Lib.hid fun W8 m8=>?_);clear cE rS x2;have y1:=hrg W8 (bwr.trans (m8.mono bwr.size)) 1 _ rfl;replace n:=n.bl m8;have x2:=n.c 1 2 rfl rfl;clear hrg m8 bwr;generalize(nN s.2.2.1 K).1.2=z at *
       by_cases cE:E<0
       ·have te:decide (E<0)=true:=by simpa using cE
        have why:(11:Int)=0→z=0∧OkR s:=fun h=>absurd h (by decide)
        replace why:=Lib.hid why;clear cE;have hG:=n.b 0 rfl;obtain⟨V9,e9,n9⟩:=n.row (j:=0) rfl #[.int .i64 11,.int .i64 z];have w0_:=n9.c 0 0 rfl rfl;have w1_:=n9.c 0 1 rfl rfl;have fin:=Lib.hid (hR.out V9 (11,z) why.out (F0.bel n9));clear n9 hR;go_wp2_with (refine wpList_store_row (by rfl) 26 _ _ (by rfl) V1.heap.size #[.int .i64 11,.int .i64 z] (by rfl) (by rfl) 26 _ hG (by kernel_rfl) rfl (by simp [Value.oneCell']) ?_;refine cast_w18 e9 ?_;go_simp)
        first|refine bodyPost_ret ?_ rfl fin.out|refine bodyPost_end ?_ rfl fin.out
        simp [results,Tryz.results48,go_sem,w0_,w1_]
       ·have te:decide (E<0)=false:=by simpa using cE
        have e3:=Lib.hid (hEE.out (by omega));replace n:=Lib.hid n;clear x2 y1 cE e2 hEE;go_wp2_with fail
        go_roundg (gk-1)
        case measure=>omega
        case rel=>exact⟨K+1,by go_num,by omega,e3,n⟩
      ·obtain rfl:K=s.2.2.1.length:=by omega
       have why:(0:Int)=0→(0:Int)=0∧OkR s:=fun _=>⟨rfl,⟨lat.out,nam.out,knd.out,unk.out,e2.out⟩⟩
       replace why:=Lib.hid why;have hG:=n.b 0 rfl;obtain⟨V9,e9,n9⟩:=n.row (j:=0) rfl #[.int .i64 0,.int .i64 0];have w0_:=n9.c 0 0 rfl rfl;have w1_:=n9.c 0 1 rfl rfl;have fin:=Lib.hid (hR.out V9 (0,0) why.out (F0.bel n9));clear n9 hR;go_wp2_with (refine wpList_store_row (by rfl) 26 _ _ (by rfl) V1.heap.size #[.int .i64 0,.int .i64 0] (by rfl) (by rfl) 26 _ hG (by kernel_rfl) rfl (by simp [Value.oneCell']) ?_;refine cast_w18 e9 ?_;go_simp)
       first|refine bodyPost_ret ?_ rfl fin.out|refine bodyPost_end ?_ rfl fin.out
       simp [results,Tryz.results48,go_sem,w0_,w1_]
theorem fine20_calls(s:Sc)(gs:GoodS s)(lv ov tv nv pv:Value)(w:World)(rd:RdSc w s lv ov tv nv pv)(R:Ending→World→Prop)
  (hR:Hid (∀W (b:Bool),(b=true→OkR s∧s.1.length≤100∧s.2.1.length≤400∧s.2.2.1.length≤100)→Below w.heap.size w W→R (.returned (.bool b)) W)):Calls Tryz.prog 35 #[scV s lv ov tv nv pv] w R:=by
 have rd0:=rd;obtain⟨A1,c1,rfl,-,-⟩:=rd.l.op;obtain⟨A2,c2,rfl,-,-⟩:=Unp.RdPr.op rd.o;obtain⟨A3,c3,rfl,-,hel⟩:=nds_el rd.t;obtain⟨N1,N3,rfl,-,-⟩:=rd.r.n.op;obtain⟨M1,M3,rfl,-⟩:=rd.r.p.sl;have n:=F0.z w;obtain⟨V,e1,n,z1⟩:=n.new (.cells [.slice A1 s.1.length c1,.slice A2 s.2.1.length c2,.slice A3 s.2.2.1.length c3,.int .i64 s.2.2.2.1.kind,.int .i64 s.2.2.2.1.at_,.int .i64 s.2.2.2.1.lo,.int .i64 s.2.2.2.1.hi,.int .i64 s.2.2.2.1.most,.slice N1 s.2.2.2.1.names.length N3,.slice M1 s.2.2.2.2.len M3,.string s.2.2.2.1.name,.int .i64 s.2.2.2.1.nat].toArray 38);have rS:=n.rg 0 rfl;have cG:=Lib.hid fun R hR=>refgreat_calls s gs _ _ _ _ _ V (rd0.below (F0.bel n)) R hR
 replace rd0:=Lib.hid rd0;clear z1 rd hel;go_enter Tryz.func35,Tryz.ntmps35
 go_upto_region 1 with fail
 clear e1;go_wp2_with (refine wpList_load_g (by rfl) 38 _ rfl w.heap.size 0 rfl _ _ rS Tryz.underlying38 rfl (by kernel_rfl) ?_;go_simp)
 refine cG.out _ (Lib.hid fun W1 y m1 hy=>?_);clear cG rS;replace n:=n.bl m1;clear m1;cases y with
 | true =>
  have fin:=Lib.hid (hR.out W1 false (fun h=>by cases h) (F0.bel n));clear hR n hy;go_wp2_with fail
  exact fin.out
 | false =>
  obtain⟨b1,b2,b3⟩:=hy rfl;have rS:=n.rg 0 rfl;have cW:=Lib.hid fun R hR=>refwrong18_calls s gs (by omega) (by omega) (by omega) _ _ _ _ _ W1 (rd0.out.below (F0.bel n)) R hR
  go_wp2_with (refine wpList_load_g (by rfl) 38 _ rfl w.heap.size 0 rfl _ _ rS Tryz.underlying38 rfl (by kernel_rfl) ?_;go_simp)
  refine cW.out _ (Lib.hid fun W2 q hq m2=>?_);clear cW rS;replace n:=n.bl m2;obtain⟨q0,q1⟩:=q
  by_cases c0:q0=0
  ·subst c0
   obtain⟨h1,ok⟩:=hq rfl;simp only at h1;subst h1;have fin:=Lib.hid (hR.out W2 true (fun _=>⟨ok,b1,b2,b3⟩) (F0.bel n));clear hR n hq ok m2;go_wp2_with fail
   exact fin.out
  ·have t0:(q0==0)=false:=by simpa using c0
   have fin:=Lib.hid (hR.out W2 false (fun h=>by cases h) (F0.bel n));clear hR n hq m2;go_wp2_with fail
   exact fin.out
end Res
end Go.Proofs.YtabhkakomececaaGreat
