import Derived.Test.YtncckdaflellnaaGreatQ2
import Derived.Test.YtncckdaflellnaaGreatQ3
import Derived.Test.YtncckdaflellnaaGreatQ0
import Derived.Deep.Cut
set_option linter.all false
set_option maxRecDepth 100000
set_option maxHeartbeats 4000000
namespace Go.Proofs.YtncckdaflellnaaGreat
namespace Kin
open Go.RowKit Go.Lib Utf Nam Lat
abbrev tyL(h:TH)(nv pv:Value):List Value:=[.int .i64 h.kind,.int .i64 h.at_,.int .i64 h.lo,.int .i64 h.hi,.int .i64 h.most,nv,pv,.string h.name,.int .i64 h.nat]
structure TB(w:World)(B:Nat)(h:TH)(nv pv:Value):Prop where
lt:B<w.heap.size
k0:w.cell? ⟨B,0,none⟩=some (.int .i64 h.kind)
k1:w.cell? ⟨B,1,none⟩=some (.int .i64 h.at_)
k2:w.cell? ⟨B,2,none⟩=some (.int .i64 h.lo)
k3:w.cell? ⟨B,3,none⟩=some (.int .i64 h.hi)
k4:w.cell? ⟨B,4,none⟩=some (.int .i64 h.most)
k5:w.cell? ⟨B,5,none⟩=some nv
k6:w.cell? ⟨B,6,none⟩=some pv
k7:w.cell? ⟨B,7,none⟩=some (.string h.name)
k8:w.cell? ⟨B,8,none⟩=some (.int .i64 h.nat)
theorem TB.new(w:World)(h:TH)(nv pv:Value)(t:TypeId):TB (w.alloc (.cells (tyL h nv pv).toArray t)) w.heap.size h nv pv:=by
 have q:=heap_alloc_new w (.cells (tyL h nv pv).toArray t);refine⟨by simp,?_,?_,?_,?_,?_,?_,?_,?_,?_⟩ <;> (rw [Lib.cell_of_heap q];rfl)
theorem TB.below{w w':World}{B:Nat}{h:TH}{nv pv:Value}(q:TB w B h nv pv)(hb:Below w.heap.size w w'):TB w' B h nv pv:=by
 have k:=fun j=>hb.cell (p:=⟨B,j,none⟩) q.lt
 exact⟨Nat.lt_of_lt_of_le q.lt hb.size,(k 0).trans q.k0,(k 1).trans q.k1,(k 2).trans q.k2,(k 3).trans q.k3,(k 4).trans q.k4,(k 5).trans q.k5,(k 6).trans q.k6,(k 7).trans q.k7,(k 8).trans q.k8⟩
theorem all_at{GH:TH→Prop}{GL:PH→Prop}:∀(n:Nat){f:Ft}{p:PH}{x:TH}{k r:Ft},f.All GH GL→f.drop n=.cons p x k r→GL p∧GH x∧k.len≤maxLen∧k.All GH GL
| 0,f,p,x,k,r,a,e=>by
 have e':f=.cons p x k r:=e;rw [e']at a;exact⟨a.1,a.2.1,a.2.2.1,a.2.2.2.1⟩
| n+1,.nil,p,x,k,r,a,e=>by simp [Fo.drop]at e
| n+1,.cons _ _ _ f,p,x,k,r,a,e=>all_at n (f:=f) a.2.2.2.2 e
theorem sameF_len:∀{f g:Ft},sameF f g=true→f.len=g.len
| .nil,.nil,_=>rfl
| .cons ..,.cons ..,h=>by
 unfold sameF at h;rw [Bool.and_eq_true]at h;simp [Fo.len,sameF_len h.2]
| .nil,.cons ..,h=>by simp [sameF]at h
| .cons ..,.nil,h=>by simp [sameF]at h
theorem part_alloc(ρ:Operand→Value)(W:World)(o:Oper)(h:o.op=.alloc 130):(execOp ρ o).run Tryz.prog W=.ok (.value (ptA W.heap.size)) (W.alloc (.cells #[.string ⟨#[]⟩,.int .i64 0,.bool false,.slice none 0 0,.int .i64 0,.int .i64 0,.int .i64 0,.int .i64 0,.slice none 0 0,.int .i64 0,.int .i64 0,.int .i64 0,.int .i64 0,.int .i64 0,.slice none 0 0,.slice none 0 0,.string ⟨#[]⟩,.int .i64 0] 130)):=by
 simp [execOp,h,go_sem,ptA]
def SameQ(f:Ft):Prop:=∀(h h':TH)(g:Ft)(nv pv nv' pv':Value)(w:World),h.names.length≤maxLen→f.len≤maxLen→f.All GoodH GoodL→RdY w h f nv pv→RdY w h' g nv' pv'→∀R:Ending→World→Prop,
Hid (∀w',Below w.heap.size w w'→R (.returned (.bool (sameS h f h' g))) w')→Calls Tryz.prog 173 #[tyV h nv pv,tyV h' nv' pv'] w R
theorem same15_step(f:Ft)(ih:Fo.AllK SameQ f):SameQ f:=by
 intro h h' g nv pv nv' pv' w hm hfl hga hy hy' R hR;replace hfl:f.len≤9223372036854775807:=hfl;have bA:=(Below.refl w.heap.size w).alloc (Nat.le_refl _) (.cells (tyL h nv pv).toArray 29);have bB:=Lib.hid (bA.alloc bA.size (.cells (tyL h' nv' pv').toArray 29));have kA:=Lib.hid ((TB.new w h nv pv 29).below ((Below.refl _ _).alloc (Nat.le_refl _) (.cells (tyL h' nv' pv').toArray 29)));have kB:=TB.new (w.alloc (.cells (tyL h nv pv).toArray 29)) h' nv' pv' 29;have hs1:(w.alloc (.cells (tyL h nv pv).toArray 29)).heap.size=w.heap.size+1:=by simp
 rw [hs1]at kB;replace kB:=Lib.hid kB;have cW1:=Lib.hid fun(W:World) (b:Below w.heap.size w W) R hR=>words15_calls h.names h'.names hm nv nv' W (hy.n.below b) (hy'.n.below b) R hR
 have hp:sameS h f h' g=((decide (h.kind=h'.kind)&&decide (h.lo=h'.lo)&&decide (h.hi=h'.hi)&&decide (h.most=h'.most)&&decide (h.name=h'.name)&&sameW h.names h'.names)&&sameF f g):=rfl;rw [hp]at hR;obtain⟨An,cn,rfl,-,-⟩:=hy.n.op;obtain⟨An',cn',rfl,-,-⟩:=hy'.n.op;obtain⟨Ap,cp,rfl,hpl⟩:=hy.p.sl;obtain⟨Ap',cp',rfl,hpl'⟩:=hy'.p.sl;replace hy:=Lib.hid hy;replace hy':=Lib.hid hy';replace hga:=Lib.hid hga;replace ih:=Lib.hid ih;clear bA hp hm;go_enter Tryz.func173,Tryz.ntmps173
 go_upto_region 1 with fail
 generalize(w.alloc (.cells (tyL h (.slice An h.names.length cn) (.slice Ap f.len cp)).toArray 29)).alloc (.cells (tyL h' (.slice An' h'.names.length cn') (.slice Ap' g.len cp')).toArray 29)=W2 at *;clear hs1;obtain⟨-,a0,-,a2,a3,a4,a5,a6,a7,-⟩:=kA.out;obtain⟨-,b0,-,b2,b3,b4,b5,b6,b7,-⟩:=kB.out;have nW:=bB;clear bB
 by_cases c0:h.kind=h'.kind
 ·have q0:(h.kind != h'.kind)=false:=by simpa using c0
  rw [decide_eq_true c0]at hR;simp only[Bool.true_and,Bool.and_true]at hR;clear c0
  by_cases c1:h.lo=h'.lo
  ·have q1:(h.lo != h'.lo)=false:=by simpa using c1
   rw [decide_eq_true c1]at hR;simp only[Bool.true_and,Bool.and_true]at hR;clear c1
   by_cases c2:h.hi=h'.hi
   ·have q2:(h.hi != h'.hi)=false:=by simpa using c2
    rw [decide_eq_true c2]at hR;simp only[Bool.true_and,Bool.and_true]at hR;clear c2
    by_cases c3:h.most=h'.most
    ·have q3:(h.most != h'.most)=false:=by simpa using c3
     rw [decide_eq_true c3]at hR;simp only[Bool.true_and,Bool.and_true]at hR;clear c3
     by_cases c4:h.name=h'.name
     ·have q4:=sq_t c4
      rw [decide_eq_true c4]at hR;simp only[Bool.true_and,Bool.and_true]at hR;clear c4;have cX1:=Lib.hid fun R hR=>cW1.out W2 nW.out R hR
      generalize sameW h.names h'.names=S1 at *;go_wp2_with fail
      refine cX1.out _ (Lib.hid fun w3 n3=>?_);replace nW:=Lib.hid (nW.out.trans (n3.mono nW.out.size));have kA3:=kA.out.below n3;have kB3:=kB.out.below n3;clear n3 cX1 a0 a2 a3 a4 a5 a6 a7 b0 b2 b3 b4 b5 b6 b7 kA kB cW1;have a6:=kA3.k6;have b6:=kB3.k6;replace kA3:=Lib.hid kA3;replace kB3:=Lib.hid kB3;cases S1
      ·simp only[Bool.false_and,Bool.and_false]at hR
       have fin:=Lib.hid (hR.out _ nW.out);clear hR nW;go_wp2_with fail
       exact fin.out
      ·simp only[Bool.true_and,Bool.and_true]at hR
       by_cases c6:f.len=g.len
       ·have q6:((f.len:Int) != (g.len:Int))=false:=by simp [c6]
        replace c6:=Lib.hid c6;go_wp2_with fail
        go_loopg [5] f.len (fun g0 i wr=>∃K:Nat,i=.int .i64 K∧K+g0=f.len∧Hid (Below w.heap.size w wr)∧Hid (TB wr w.heap.size h (.slice An h.names.length cn) (.slice Ap f.len cp))∧Hid (TB wr (w.heap.size+1) h' (.slice An' h'.names.length cn') (.slice Ap' g.len cp'))∧sameF f g=sameF (f.drop K) (g.drop K))
        case atStart=>exact⟨0,rfl,by omega,nW,kA3,kB3,rfl⟩
        case round =>
         clear nW kA3 kB3 a6 b6;obtain⟨K,rfl,e1,nW,kA,kB,e2⟩:=hrel;have a6:=kA.out.k6;have b6:=kB.out.k6
         by_cases hK:K<f.len
         ·have hK':K<g.len:=by have:=c6.out;omega
          obtain⟨p,x,kd,r,e⟩:=Fo.drop_lt hK;obtain⟨q,y,ls,s,e'⟩:=Fo.drop_lt hK';obtain⟨ga,oa,lv,cv,nx,px,rfl,hga',hlv,hcv,hyx,hc⟩:=(hy.out.below nW.out).p.part e;obtain⟨gb,ob,lv',cv',ny,py,rfl,hgb',hlv',hcv',hyy,hc'⟩:=(hy'.out.below nW.out).p.part e';obtain⟨A1,n1,rfl,-,-⟩:=hlv.op;obtain⟨A2,n2,rfl,-,-⟩:=hcv.op;obtain⟨A3,n3,rfl,-,-⟩:=hlv'.op;obtain⟨A4,n4,rfl,-,-⟩:=hcv'.op;obtain⟨A5,n5,rfl,-,-⟩:=hyx.n.op;obtain⟨A6,n6,rfl,-,-⟩:=hyy.n.op;obtain⟨A7,n7,rfl,hk7⟩:=hyx.p.sl;obtain⟨A8,n8,rfl,hk8⟩:=hyy.p.sl;have i0:(0:Int)≤(K:Int):=by omega
          have i1:(K:Int)<(f.len:Int):=by omega
          have i2:(K:Int)<(g.len:Int):=by omega
          have ltA:=kA.out.lt;have ltB:=kB.out.lt;go_wp2_with fail
          replace a6:=fun u:BW wr=>u.cell ltA a6
          replace b6:=fun u:BW wr=>u.cell ltB b6
          refine wp_region_two (os:=[_,_,_,_,_,_,_,_,_,_]) [0,1,2,3,4,5,6,7,8,9] 10 11 12 13 (T:=130) (z:=#[.string ⟨#[]⟩,.int .i64 0,.bool false,.slice none 0 0,.int .i64 0,.int .i64 0,.int .i64 0,.int .i64 0,.slice none 0 0,.int .i64 0,.int .i64 0,.int .i64 0,.int .i64 0,.int .i64 0,.slice none 0 0,.slice none 0 0,.string ⟨#[]⟩,.int .i64 0]) (by kernel_rfl) (by kernel_rfl) (by kernel_rfl) (fun _ _ d _ _ h=>by cases d<;>exact h) rfl rfl rfl rfl ⟨rfl,rfl,rfl⟩ ⟨rfl,rfl,rfl⟩ ⟨rfl,rfl,rfl⟩ ⟨rfl,rfl,rfl⟩ part_alloc (by kernel_rfl) (by simp only[pickO,List.filterMap_cons,List.filterMap_nil,List.getElem?_toArray,List.getElem?_cons_succ,List.getElem?_cons_zero];rfl) (fun Kp hKp=>?_)
          iterate 4 (go_big_quiet_step (exact rfl))
          refine wpQuiet_load rfl _ _ rfl ga (oa+K*18) rfl #[.string p.name,.int .i64 p.at_,.bool p.bare,.slice A1 p.label.length n1,.int .i64 p.wide,.int .i64 p.ck,.int .i64 p.cn,.int .i64 p.cat,.slice A2 p.cl.length n2,.int .i64 x.kind,.int .i64 x.at_,.int .i64 x.lo,.int .i64 x.hi,.int .i64 x.most,.slice A5 x.names.length n5,.slice A7 kd.len n7,.string x.name,.int .i64 x.nat].toList _ (fun _ ⟨u,e⟩=>by subst e;exact fun j v h=>u.cell hga' (hc j v h)) Tryz.underlying130 rfl (by kernel_rfl) ?_
          go_simp
          iterate 4 (go_big_quiet_step (exact rfl))
          refine wpQuiet_load rfl _ _ rfl gb (ob+K*18) rfl #[.string q.name,.int .i64 q.at_,.bool q.bare,.slice A3 q.label.length n3,.int .i64 q.wide,.int .i64 q.ck,.int .i64 q.cn,.int .i64 q.cat,.slice A4 q.cl.length n4,.int .i64 y.kind,.int .i64 y.at_,.int .i64 y.lo,.int .i64 y.hi,.int .i64 y.most,.slice A6 y.names.length n6,.slice A8 ls.len n8,.string y.name,.int .i64 y.nat].toList _ (fun _ ⟨u,e⟩=>by subst e;exact fun j v h=>u.cell hgb' (hc' j v h)) Tryz.underlying130 rfl (by kernel_rfl) ?_
          go_simp;refine wpQuiet_nil ?_;refine hKp _ ?_;clear hKp;refine⟨#[.string p.name,.int .i64 p.at_,.bool p.bare,.slice A1 p.label.length n1,.int .i64 p.wide,.int .i64 p.ck,.int .i64 p.cn,.int .i64 p.cat,.slice A2 p.cl.length n2,.int .i64 x.kind,.int .i64 x.at_,.int .i64 x.lo,.int .i64 x.hi,.int .i64 x.most,.slice A5 x.names.length n5,.slice A7 kd.len n7,.string x.name,.int .i64 x.nat],#[.string q.name,.int .i64 q.at_,.bool q.bare,.slice A3 q.label.length n3,.int .i64 q.wide,.int .i64 q.ck,.int .i64 q.cn,.int .i64 q.cat,.slice A4 q.cl.length n4,.int .i64 y.kind,.int .i64 y.at_,.int .i64 y.lo,.int .i64 y.hi,.int .i64 y.most,.slice A6 y.names.length n6,.slice A8 ls.len n8,.string y.name,.int .i64 y.nat],⟨rfl,by simp [Value.oneCell']⟩,⟨rfl,by simp [Value.oneCell']⟩,fun _=>⟨rfl,rfl⟩,fun _=>⟨rfl,rfl⟩,fun _ _=>⟨rfl,rfl,rfl,rfl,rfl⟩,fun B6 B7 V h6 h7 hne bV g6 g7=>?_⟩;have l6:=(Array.getElem?_eq_some_iff.1 g6).1;have l7:=(Array.getElem?_eq_some_iff.1 g7).1;have u0:=(Lib.cell_of_heap g6 0).trans rfl;have v0:=(Lib.cell_of_heap g7 0).trans rfl;have r6:V.rangeAt B6 0 #[.string p.name,.int .i64 p.at_,.bool p.bare,.slice A1 p.label.length n1,.int .i64 p.wide,.int .i64 p.ck,.int .i64 p.cn,.int .i64 p.cat,.slice A2 p.cl.length n2,.int .i64 x.kind,.int .i64 x.at_,.int .i64 x.lo,.int .i64 x.hi,.int .i64 x.most,.slice A5 x.names.length n5,.slice A7 kd.len n7,.string x.name,.int .i64 x.nat].toList:=fun j v h=>by rw [Nat.zero_add,Lib.cell_of_heap g6];simpa using h
          have r7:V.rangeAt B7 0 #[.string q.name,.int .i64 q.at_,.bool q.bare,.slice A3 q.label.length n3,.int .i64 q.wide,.int .i64 q.ck,.int .i64 q.cn,.int .i64 q.cat,.slice A4 q.cl.length n4,.int .i64 y.kind,.int .i64 y.at_,.int .i64 y.lo,.int .i64 y.hi,.int .i64 y.most,.slice A6 y.names.length n6,.slice A8 ls.len n8,.string y.name,.int .i64 y.nat].toList:=fun j v h=>by rw [Nat.zero_add,Lib.cell_of_heap g7];simpa using h
          have nV:=Lib.hid (nW.out.trans (bV.mono nW.out.size));have kA':=Lib.hid (kA.out.below bV);have kB':=Lib.hid (kB.out.below bV);have hyx':=Lib.hid (hyx.below bV);have hyy':=Lib.hid (hyy.below bV);have hlv2:=Lib.hid (hlv.below bV);have hcv2:=Lib.hid (hcv.below bV);have hlw2:=Lib.hid (hlv'.below bV);have hcw2:=Lib.hid (hcv'.below bV);obtain⟨gp,gx,gk',ga2⟩:=all_at K hga.out e;have ihK:=Lib.hid ((ih.out).at_ e);rw [e,e']at e2;have d1:=Fo.drop_succ K e;have d2:=Fo.drop_succ K e';clear hc hc' a6 b6 kA kB hyx hyy hlv hcv hlv' hcv' bV g6 g7 e e' h6 h7 hne nW;have e3:sameF f g=((decide (p.name=q.name)&&plainB p q&&sameS x kd y ls)&&sameF r s):=e2;clear e2
          have no:sameF f g=false→∀W,Below w.heap.size w W→Hid (R (.returned (.bool false)) W):=fun h W b=>by
           have:=hR.out W b;rw [h]at this;exact Lib.hid this
          by_cases c7:p.name=q.name
          ·have q7:=sq_t c7
           rw [decide_eq_true c7,Bool.true_and]at e3;clear c7;go_wp2_with (first|(refine wpList_load_g (by rfl) _ _ rfl B6 0 rfl #[.string p.name,.int .i64 p.at_,.bool p.bare,.slice A1 p.label.length n1,.int .i64 p.wide,.int .i64 p.ck,.int .i64 p.cn,.int .i64 p.cat,.slice A2 p.cl.length n2,.int .i64 x.kind,.int .i64 x.at_,.int .i64 x.lo,.int .i64 x.hi,.int .i64 x.most,.slice A5 x.names.length n5,.slice A7 kd.len n7,.string x.name,.int .i64 x.nat].toList _ r6 Tryz.underlying130 rfl (by kernel_rfl) ?_;go_simp)|(refine wpList_load_g (by rfl) _ _ rfl B7 0 rfl #[.string q.name,.int .i64 q.at_,.bool q.bare,.slice A3 q.label.length n3,.int .i64 q.wide,.int .i64 q.ck,.int .i64 q.cn,.int .i64 q.cat,.slice A4 q.cl.length n4,.int .i64 y.kind,.int .i64 y.at_,.int .i64 y.lo,.int .i64 y.hi,.int .i64 y.most,.slice A6 y.names.length n6,.slice A8 ls.len n8,.string y.name,.int .i64 y.nat].toList _ r7 Tryz.underlying130 rfl (by kernel_rfl) ?_;go_simp))
           refine plain15_calls p q _ _ _ _ _ _ _ _ x y V gp.2.2.2.2.2.2.2.2.1 gp.2.2.2.2.2.2.2.2.2 hlv2.out hcv2.out hlw2.out hcw2.out _ (Lib.hid fun w4 n4=>?_);have nX:=Lib.hid (nV.out.trans (n4.mono nV.out.size));cases hS:plainB p q
           ·rw [hS]at e3
            have fin:=no (by rw [e3];rfl) _ nX.out
            clear no hR e3 hS n4;go_wp2_with fail
            exact fin.out
           ·rw [hS,Bool.true_and]at e3
            have s6:w4.rangeAt B6 9 [.int .i64 x.kind,.int .i64 x.at_,.int .i64 x.lo,.int .i64 x.hi,.int .i64 x.most,.slice A5 x.names.length n5,.slice A7 kd.len n7,.string x.name,.int .i64 x.nat]:=fun j v h=>(n4.cell (p:=⟨B6,9+j,none⟩) l6).trans (by have:=r6 (9+j) v (by rw [←List.getElem?_drop];exact h);rwa [Nat.zero_add]at this)
            have s7:w4.rangeAt B7 9 [.int .i64 y.kind,.int .i64 y.at_,.int .i64 y.lo,.int .i64 y.hi,.int .i64 y.most,.slice A6 y.names.length n6,.slice A8 ls.len n8,.string y.name,.int .i64 y.nat]:=fun j v h=>(n4.cell (p:=⟨B7,9+j,none⟩) l7).trans (by have:=r7 (9+j) v (by rw [←List.getElem?_drop];exact h);rwa [Nat.zero_add]at this)
            have hyx2:=hyx'.out.below n4;have hyy2:=hyy'.out.below n4;have kA2:=Lib.hid (kA'.out.below n4);have kB2:=Lib.hid (kB'.out.below n4);have cS:=Lib.hid fun R hR=>ihK.out x y ls _ _ _ _ w4 gx.2.2.2.2.2.2.2.2 gk' ga2 hyx2 hyy2 R hR
            clear hS n4 hyx2 hyy2 r6 r7 u0 v0 kA' kB' hyx' hyy' hlv2 hcv2 hlw2 hcw2 nV;go_wp2_with (first|(refine wpList_load_g (by rfl) _ _ rfl B6 9 rfl [.int .i64 x.kind,.int .i64 x.at_,.int .i64 x.lo,.int .i64 x.hi,.int .i64 x.most,.slice A5 x.names.length n5,.slice A7 kd.len n7,.string x.name,.int .i64 x.nat] _ s6 Tryz.underlying29 rfl (by kernel_rfl) ?_;go_simp)|(refine wpList_load_g (by rfl) _ _ rfl B7 9 rfl [.int .i64 y.kind,.int .i64 y.at_,.int .i64 y.lo,.int .i64 y.hi,.int .i64 y.most,.slice A6 y.names.length n6,.slice A8 ls.len n8,.string y.name,.int .i64 y.nat] _ s7 Tryz.underlying29 rfl (by kernel_rfl) ?_;go_simp))
            refine cS.out _ (Lib.hid fun w5 n5=>?_);have nY:=Lib.hid (nX.out.trans (n5.mono nX.out.size));have kA3:=Lib.hid (kA2.out.below n5);have kB3:=Lib.hid (kB2.out.below n5);clear n5 cS kA2 kB2;cases hS:sameS x kd y ls
            ·rw [hS]at e3
             have fin:=no (by rw [e3];rfl) _ nY.out
             clear no hR e3 hS;go_wp2_with fail
             exact fin.out
            ·rw [hS,Bool.true_and,←d1,←d2]at e3
             clear hS no;go_wp2_with fail
             go_roundg (gk-1)
             case measure=>omega
             case rel=>exact⟨K+1,by go_num,by omega,nY,kA3,kB3,e3⟩
          ·have q7:=sq_f c7
           rw [decide_eq_false c7]at e3;have fin:=no (by rw [e3];simp) _ nV.out;clear no hR e3 c7;go_wp2_with fail
           exact fin.out
         ·obtain rfl:K=f.len:=by omega
          have hz:sameF f g=true:=by rw [e2,Fo.drop_all (Nat.le_refl _),Fo.drop_all (by have:=c6.out;omega)];rfl
          have fin:=Lib.hid (hR.out _ nW.out);rw [hz]at fin;clear hz hR e2 kA kB;go_wp2_with fail
          exact fin.out
       ·have q6:((f.len:Int) != (g.len:Int))=true:=by simp;omega
        have hz:sameF f g=false:=Bool.eq_false_iff.2 fun q=>c6 (sameF_len q)
        rw [hz]at hR;clear hz;have fin:=Lib.hid (hR.out _ nW.out);clear hR nW;go_wp2_with fail
        exact fin.out
     ·have q4:=sq_f c4
      rw [decide_eq_false c4]at hR;simp only[Bool.false_and,Bool.and_false]at hR;clear c4;have fin:=Lib.hid (hR.out _ nW.out);clear hR nW;go_wp2_with fail
      exact fin.out
    ·have q3:(h.most != h'.most)=true:=by simpa using c3
     rw [decide_eq_false c3]at hR;simp only[Bool.false_and,Bool.and_false]at hR;clear c3;have fin:=Lib.hid (hR.out _ nW.out);clear hR nW;go_wp2_with fail
     exact fin.out
   ·have q2:(h.hi != h'.hi)=true:=by simpa using c2
    rw [decide_eq_false c2]at hR;simp only[Bool.false_and,Bool.and_false]at hR;clear c2;have fin:=Lib.hid (hR.out _ nW.out);clear hR nW;go_wp2_with fail
    exact fin.out
  ·have q1:(h.lo != h'.lo)=true:=by simpa using c1
   rw [decide_eq_false c1]at hR;simp only[Bool.false_and,Bool.and_false]at hR;clear c1;have fin:=Lib.hid (hR.out _ nW.out);clear hR nW;go_wp2_with fail
   exact fin.out
 ·have q0:(h.kind != h'.kind)=true:=by simpa using c0
  rw [decide_eq_false c0]at hR;simp only[Bool.false_and,Bool.and_false]at hR;clear c0;have fin:=Lib.hid (hR.out _ nW.out);clear hR nW;go_wp2_with fail
  exact fin.out
end Kin
namespace Res
open Go.RowKit Go.Lib Utf Nam Lat Kin
abbrev FtV(x:Int×Int):Value:=.agg #[.int .i64 x.1,.int .i64 x.2]
abbrev ptL(p:PH)(x:TH)(lv cv nv pv:Value):List Value:=[.string p.name,.int .i64 p.at_,.bool p.bare,lv,.int .i64 p.wide,.int .i64 p.ck,.int .i64 p.cn,.int .i64 p.cat,cv,.int .i64 x.kind,.int .i64 x.at_,.int .i64 x.lo,.int .i64 x.hi,.int .i64 x.most,nv,pv,.string x.name,.int .i64 x.nat]
def GoodT(h:TH)(f:Ft):Prop:=GoodH h∧f.len≤maxLen∧f.All GoodH GoodL
section
variable {S:Type}
def inF(op:S→TH→Ft→(Int×Int)×S):S→Ft→(Int×Int)×S
| s,.nil=>((0,0),s)
| s,.cons p h k r=>if p.bare then inF op s r else
 if(op s h k).1.1≠0 then op s h k else
 if(inF op (op s h k).2 k).1.1≠0 then inF op (op s h k).2 k else inF op (inF op (op s h k).2 k).2 r
def inT(op:S→TH→Ft→(Int×Int)×S)(s:S)(h:TH)(f:Ft):(Int×Int)×S:=if(op s h f).1.1≠0 then op s h f else inF op (op s h f).2 f
theorem inF_cons(op:S→TH→Ft→(Int×Int)×S)(s:S)(p:PH)(h:TH)(k r:Ft)(hb:p.bare=false):inF op s (.cons p h k r)=if(inT op s h k).1.1≠0 then inT op s h k else inF op (inT op s h k).2 r:=by
 show(if p.bare=true then _ else _)=_;rw [hb,if_neg (by decide)];unfold inT
 by_cases c:(op s h k).1.1≠0
 ·rw [if_pos c,if_pos c,if_pos c]
 ·rw [if_neg c,if_neg c]
theorem inF_bare(op:S→TH→Ft→(Int×Int)×S)(s:S)(p:PH)(h:TH)(k r:Ft)(hb:p.bare=true):inF op s (.cons p h k r)=inF op s r:=if_pos hb
def OpQ(G:TH→Ft→Prop)(F:Fm S)(w0:World)(fn:FuncId)(bv:Value)(op:S→TH→Ft→(Int×Int)×S):Prop:=∀(s:S)(h:TH)(f:Ft)(nv pv:Value)(V:World),F.Inv V s→Below w0.heap.size w0 V→RdY w0 h f nv pv→G h f→∀R:Ending→World→Prop,
Hid (∀W,Hq F s (op s h f).2 V W []→R (.returned (FtV (op s h f).1)) W)→Calls Tryz.prog fn #[bv,tyV h nv pv] V R
def IsF(k:FuncId):Prop:=∀(args:Array Value)(w:World),(callFunc k args).run Tryz.prog w=.ok (.enter k args) w
end
section
variable {S:Type} (G:TH→Ft→Prop) (F:Fm S) (w0:World) (fn:FuncId) (bv:Value) (op:S→TH→Ft→(Int×Int)×S)
def WithQ(f:Ft):Prop:=∀(s:S)(h:TH)(nv pv:Value)(w:World),F.Inv w s→Below w0.heap.size w0 w→RdY w0 h f nv pv→G h f→∀R:Ending→World→Prop,
Hid (∀W,Hq F s (inT op s h f).2 w W []→R (.returned (FtV (inT op s h f).1)) W)→Calls Tryz.prog 161 #[tyV h nv pv,.func (.func fn) #[bv] #[]] w R
theorem within_step(hG1:∀h f,G h f→GoodT h f)(hG2:∀h f K p x kd r,G h f→f.drop K=.cons p x kd r→p.bare=false→G x kd)(hF:∀s k,F.Fr s k→w0.heap.size≤k)(hfn:IsF fn)(hop:OpQ G F w0 fn bv op)(f:Ft)(ih:Fo.AllK (WithQ G F w0 fn bv op) f):WithQ G F w0 fn bv op f:=by
 intro s h nv pv w hI hb hy hg R hR;have hw:=hb.size;have hGG:=hg;obtain⟨gh,hfl,hga⟩:=hG1 _ _ hg;replace hfl:f.len≤9223372036854775807:=hfl;obtain⟨An,cn,rfl,-,-⟩:=hy.n.op;obtain⟨Ap,cp,rfl,hpl⟩:=hy.p.sl;have m0:=Hq.nil hI;obtain⟨V1,e1,m1,z1⟩:=m0.new (.cells (tyL h (.slice An h.names.length cn) (.slice Ap f.len cp)).toArray 29);obtain⟨V,e2,n,z2⟩:=m1.new (.cells #[.int .i64 0,.int .i64 0] 34);clear m0 m1 z1 z2;unfold IsF at hfn;replace ih:=Lib.hid ih;clear hga;have rT:=n.rg 1 rfl;have hbV:=hb.trans (n.below hw (hF s));go_enter Tryz.func161,Tryz.ntmps161
 go_upto_region 1 with fail
 clear e1 e2;go_wp2_with (refine wpList_load_g (by rfl) 29 _ rfl w.heap.size 0 rfl _ _ rT Tryz.underlying29 rfl (by kernel_rfl) ?_;go_simp)
 refine hop s h f _ _ V n.inv hbV hy hGG _ (Lib.hid fun W1 c1=>?_);have hR':Hid (∀W,Hq F s (inT op s h f).2 w W []→R (.returned (FtV (inT op s h f).1)) W):=hR;clear hR;unfold inT at hR';replace n:=n.call c1;clear c1 rT hbV hop;generalize op s h f=a at *;obtain⟨⟨a0,a1⟩,s1⟩:=a;simp only at hR' n ⊢;obtain⟨V2,e2,n,z2⟩:=n.new (.cells #[.int .i64 a0,.int .i64 a1] 34);go_upto_region 2 with fail
 clear e2 z2;have a_0:=n.c 0 0 rfl rfl;have a_1:=n.c 0 1 rfl rfl
 by_cases h0:a0=0
 ·subst h0
  rw [if_neg (by decide)]at hR';have t6:=n.c 2 6 rfl rfl;replace n:=n.tail;go_wp2_with fail
  clear t6 a_0 a_1;go_loopg [19] f.len (fun g0 i wr=>∃(K:Nat) (sK:S),i=.int .i64 K∧K+g0=f.len∧Hid (inF op s1 f=inF op sK (f.drop K))∧Hid (Hq F s sK w wr [(V1.heap.size,.cells #[.int .i64 0,.int .i64 0] 34),(w.heap.size,.cells (tyL h (.slice An h.names.length cn) (.slice Ap f.len cp)).toArray 29)]))
  case atStart=>exact⟨0,s1,rfl,by omega,Lib.hid rfl,Lib.hid n⟩
  case round =>
   clear n;obtain⟨K,sK,rfl,e1,e2,n⟩:=hrel;replace n:=n.out;have hbW:=hb.trans (n.below hw (hF s))
   by_cases hK:K<f.len
   ·obtain⟨p,x,kd,r,e⟩:=Fo.drop_lt hK
    obtain⟨g,o,lv,cv,nx,px,rfl,hg,hlv,hcv,hyx,hc⟩:=hy.p.part e;obtain⟨A1,n1,rfl,-,-⟩:=hlv.op;obtain⟨A2,n2,rfl,-,-⟩:=hcv.op;obtain⟨A5,n5,rfl,-,-⟩:=hyx.n.op;obtain⟨A7,n7,rfl,-⟩:=hyx.p.sl;have gx:=hG2 h f K p x kd r hGG e;have ihK:=Lib.hid ((ih.out).at_ e);have d1:=Fo.drop_succ K e;replace e2:=e2.out;rw [e]at e2;have i0:(0:Int)≤(K:Int):=by omega
    have i1:(K:Int)<(f.len:Int):=by omega
    have rg:wr.rangeAt g (o+K*18) (ptL p x (.slice A1 p.label.length n1) (.slice A2 p.cl.length n2) (.slice A5 x.names.length n5) (.slice A7 kd.len n7)):=fun j v h=>(hbW.cell (p:=⟨g,o+K*18+j,none⟩) hg).trans (hc j v h)
    clear hc hlv hcv hg e;obtain⟨V3,e3,n,z3⟩:=n.new (.cells (ptL p x (.slice A1 p.label.length n1) (.slice A2 p.cl.length n2) (.slice A5 x.names.length n5) (.slice A7 kd.len n7)).toArray 130);go_upto_region 7 with(first|(refine wpList_load_g (by rfl) 130 _ rfl g (o+K*18) rfl _ _ rg Tryz.underlying130 rfl (by kernel_rfl) ?_;go_simp)|(refine wpList_copy (ptL p x (.slice A1 p.label.length n1) (.slice A2 p.cl.length n2) (.slice A5 x.names.length n5) (.slice A7 kd.len n7)).toArray ⟨rfl,rfl,rfl⟩ ⟨rfl,rfl,rfl⟩ part_alloc (by kernel_rfl) ⟨rfl,by simp [Value.oneCell']⟩ (fun _=>⟨rfl,rfl⟩) ?_;go_simp))
    clear rg e3 z3;have u2:=n.c 0 2 rfl rfl;have r9:V3.rangeAt wr.heap.size 9 (tyL x (.slice A5 x.names.length n5) (.slice A7 kd.len n7)):=n.rgd 0 9 rfl;have hbV:=hb.trans (n.below hw (hF s));cases hbr:p.bare
    ·rw [hbr]at u2
     rw [inF_cons op sK p x kd r hbr]at e2;replace gx:=gx hbr;clear hbr;go_wp2_with (refine wpList_load_g (by rfl) 29 _ rfl wr.heap.size 9 rfl _ _ r9 Tryz.underlying29 rfl (by kernel_rfl) ?_;go_simp)
     refine ihK.out sK x _ _ V3 n.inv hbV hyx gx _ (Lib.hid fun W4 c4=>?_);replace n:=(n.call c4).tail;clear c4 r9 u2 hbV;generalize inT op sK x kd=b at *;obtain⟨⟨b0,b1⟩,s4⟩:=b;simp only at e2 n ⊢;obtain⟨V5,e5,n,z5⟩:=n.new (.cells #[.int .i64 b0,.int .i64 b1] 34);go_upto_region 9 with fail
     clear e5 z5;have a_0:=n.c 0 0 rfl rfl;have a_1:=n.c 0 1 rfl rfl
     by_cases h0:b0=0
     ·subst h0
      rw [if_neg (by decide)]at e2;replace n:=Lib.hid n.tail;rw [←d1]at e2;replace e2:=Lib.hid e2;clear hR';go_wp2_with fail
      go_roundg (gk-1)
      case measure=>omega
      case rel=>exact⟨K+1,s4,by go_num,by omega,e2,n⟩
     ·rw [if_pos h0]at e2
      have q0:(b0 != 0)=true:=by simpa using h0
      clear h0;rw [e2]at hR';go_upto_region 10 with fail
      have y0:=n.c 1 0 rfl rfl;have yf0:=n.f 1 0 rfl;have y1:=n.c 1 1 rfl rfl;have yf1:=n.f 1 1 rfl;obtain⟨VE,eE,nE,-⟩:=n.put (j:=1) rfl [(0,.int .i64 b0),(1,.int .i64 b1)];simp only[stL]at eE;simp only[stA,List.setIfInBounds_toArray,List.set_cons_succ,List.set_cons_zero]at nE;have w0_:=nE.c 1 0 rfl rfl;have w1_:=nE.c 1 1 rfl rfl;have fin:=Lib.hid (hR'.out _ nE.fin);clear nE n hR';go_wp2_with fail
      first|refine bodyPost_ret ?_ rfl fin.out|refine bodyPost_end ?_ rfl fin.out
      simp [results,Tryz.results161,go_sem,w0_,w1_]
    ·rw [hbr]at u2
     rw [inF_bare op sK p x kd r hbr,←d1]at e2;replace n:=Lib.hid n.tail;replace e2:=Lib.hid e2;clear hR' r9 hbV hbr;go_wp2_with fail
     go_roundg (gk-1)
     case measure=>omega
     case rel=>exact⟨K+1,sK,by go_num,by omega,e2,n⟩
   ·obtain rfl:K=f.len:=by omega
    replace e2:=e2.out;rw [Fo.drop_all (Nat.le_refl _)]at e2;replace e2:inF op s1 f=((0,0),sK):=e2;rw [e2]at hR';clear e2;have y0:=n.c 0 0 rfl rfl;have yf0:=n.f 0 0 rfl;have y1:=n.c 0 1 rfl rfl;have yf1:=n.f 0 1 rfl;obtain⟨VE,eE,nE,-⟩:=n.put (j:=0) rfl [(0,.int .i64 0),(1,.int .i64 0)];simp only[stL]at eE;simp only[stA,List.setIfInBounds_toArray,List.set_cons_succ,List.set_cons_zero]at nE;have w0_:=nE.c 0 0 rfl rfl;have w1_:=nE.c 0 1 rfl rfl;have fin:=Lib.hid (hR'.out _ nE.fin);clear nE n hR';go_wp2_with fail
    first|refine bodyPost_ret ?_ rfl fin.out|refine bodyPost_end ?_ rfl fin.out
    simp [results,Tryz.results161,go_sem,w0_,w1_]
 ·rw [if_pos h0]at hR'
  have q0:(a0 != 0)=true:=by simpa using h0
  clear h0;go_upto_region 3 with fail
  have y0:=n.c 1 0 rfl rfl;have yf0:=n.f 1 0 rfl;have y1:=n.c 1 1 rfl rfl;have yf1:=n.f 1 1 rfl;obtain⟨VE,eE,nE,-⟩:=n.put (j:=1) rfl [(0,.int .i64 a0),(1,.int .i64 a1)];simp only[stL]at eE;simp only[stA,List.setIfInBounds_toArray,List.set_cons_succ,List.set_cons_zero]at nE;have w0_:=nE.c 1 0 rfl rfl;have w1_:=nE.c 1 1 rfl rfl;have fin:=Lib.hid (hR'.out _ nE.fin);clear nE n hR';go_wp2_with fail
  first|refine bodyPost_ret ?_ rfl fin.out|refine bodyPost_end ?_ rfl fin.out
  simp [results,Tryz.results161,go_sem,w0_,w1_]
theorem within_calls(hG1:∀h f,G h f→GoodT h f)(hG2:∀h f K p x kd r,G h f→f.drop K=.cons p x kd r→p.bare=false→G x kd)(hF:∀s k,F.Fr s k→w0.heap.size≤k)(hfn:IsF fn)(hop:OpQ G F w0 fn bv op)(f:Ft):WithQ G F w0 fn bv op f :=
Fo.deep (within_step G F w0 fn bv op hG1 hG2 hF hfn hop) f
end
end Res
end Go.Proofs.YtncckdaflellnaaGreat
