import Derived.Test.YtncckdaflellnaaGreatQ12
set_option linter.all false
set_option maxRecDepth 100000
set_option maxHeartbeats 4000000
namespace Go.Proofs.YtncckdaflellnaaGreat.Kin
open Go.RowKit Go.Lib Utf Nam Lat
theorem eqp_calls(f:Ft)(ih:Fo.AllK SameC f)(g:Ft)(pv pv':Value)(w:World)(hfl:f.len≤maxLen)(hga:f.All GoodH GoodL)(hp:RdP w pv f)(hp':RdP w pv' g)(R:Ending→World→Prop)(hR:Hid (∀w',Below w.heap.size w w'→R (.returned (.bool (sameF f g))) w')):Calls Tryz.prog 227 #[pv,pv',.func (.func 222) #[] #[]] w R:=by
 replace hfl:f.len≤9223372036854775807:=hfl;obtain⟨Ap,cp,rfl,-⟩:=hp.sl;obtain⟨Ap',cp',rfl,-⟩:=hp'.sl
 by_cases hl:f.len=g.len
 ·have q1:((f.len:Int) != (g.len:Int))=false:=by simp [hl]
  have hs:sameF f g=sameF (f.drop 0) (g.drop 0):=rfl;replace hp:=Lib.hid hp;replace hp':=Lib.hid hp';replace hl:=Lib.hid hl;replace hga:=Lib.hid hga;replace ih:=Lib.hid ih;go_enter Tryz.func227,Tryz.ntmps227
  go_wp2_with fail
  go_loopg [17] f.len (fun g0 i wr=>∃K:Nat,i=.int .i64 K∧K+g0=f.len∧Hid (Below w.heap.size w wr)∧sameF f g=sameF (f.drop K) (g.drop K))
  case atStart=>exact⟨0,rfl,by omega,Lib.hid (Below.refl _ _),hs⟩
  case round =>
   obtain⟨K,rfl,e1,nb,e2⟩:=hrel
   by_cases hK:K<f.len
   ·have hK':K<g.len:=by have:=hl.out;omega
    obtain⟨p,x,kd,r,e⟩:=Fo.drop_lt hK;obtain⟨q,y,ls,s,e'⟩:=Fo.drop_lt hK';obtain⟨ga,oa,lv,cv,nx,px,rfl,hga',hlv,hcv,hyx,hc⟩:=(hp.out).part e;obtain⟨gb,ob,lv',cv',ny,py,rfl,hgb',hlv',hcv',hyy,hc'⟩:=(hp'.out).part e';obtain⟨A1,n1,rfl,-,-⟩:=hlv.op;obtain⟨A2,n2,rfl,-,-⟩:=hcv.op;obtain⟨A3,n3,rfl,-,-⟩:=hlv'.op;obtain⟨A4,n4,rfl,-,-⟩:=hcv'.op;obtain⟨A5,n5,rfl,-,-⟩:=hyx.n.op;obtain⟨A6,n6,rfl,-,-⟩:=hyy.n.op;obtain⟨A7,n7,rfl,-⟩:=hyx.p.sl;obtain⟨A8,n8,rfl,-⟩:=hyy.p.sl;obtain⟨gp,gx,gk',ga2⟩:=all_at K hga.out e;have ihK:=Lib.hid ((ih.out).at_ e);rw [e,e']at e2;have d1:=Fo.drop_succ K e;have d2:=Fo.drop_succ K e';have e3:sameF f g=((decide (p.name=q.name)&&plainB p q&&sameS x kd y ls)&&sameF r s):=e2;clear e2 e e';have i0:(0:Int)≤(K:Int):=by omega
    have i1:(K:Int)<(f.len:Int):=by omega
    have i2:(K:Int)<(g.len:Int):=by omega
    have b1:=(Below.refl wr.heap.size wr).alloc (Nat.le_refl _) (.cells #[.string p.name,.int .i64 p.at_,.bool p.bare,.slice A1 p.label.length n1,.int .i64 p.wide,.int .i64 p.ck,.int .i64 p.cn,.int .i64 p.cat,.slice A2 p.cl.length n2,.int .i64 x.kind,.int .i64 x.at_,.int .i64 x.lo,.int .i64 x.hi,.int .i64 x.most,.slice A5 x.names.length n5,.slice A7 kd.len n7,.string x.name,.int .i64 x.nat] 130);have b2:=b1.alloc b1.size (.cells #[.string q.name,.int .i64 q.at_,.bool q.bare,.slice A3 q.label.length n3,.int .i64 q.wide,.int .i64 q.ck,.int .i64 q.cn,.int .i64 q.cat,.slice A4 q.cl.length n4,.int .i64 y.kind,.int .i64 y.at_,.int .i64 y.lo,.int .i64 y.hi,.int .i64 y.most,.slice A6 y.names.length n6,.slice A8 ls.len n8,.string y.name,.int .i64 y.nat] 130);have hz:(wr.alloc (.cells #[.string p.name,.int .i64 p.at_,.bool p.bare,.slice A1 p.label.length n1,.int .i64 p.wide,.int .i64 p.ck,.int .i64 p.cn,.int .i64 p.cat,.slice A2 p.cl.length n2,.int .i64 x.kind,.int .i64 x.at_,.int .i64 x.lo,.int .i64 x.hi,.int .i64 x.most,.slice A5 x.names.length n5,.slice A7 kd.len n7,.string x.name,.int .i64 x.nat] 130)).heap.size=wr.heap.size+1:=by simp
    have f1:=(((Below.refl _ _).alloc (Nat.le_refl _) (.cells #[.string q.name,.int .i64 q.at_,.bool q.bare,.slice A3 q.label.length n3,.int .i64 q.wide,.int .i64 q.ck,.int .i64 q.cn,.int .i64 q.cat,.slice A4 q.cl.length n4,.int .i64 y.kind,.int .i64 y.at_,.int .i64 y.lo,.int .i64 y.hi,.int .i64 y.most,.slice A6 y.names.length n6,.slice A8 ls.len n8,.string y.name,.int .i64 y.nat] 130)).block wr.heap.size (by omega)).trans (heap_alloc_new wr (.cells #[.string p.name,.int .i64 p.at_,.bool p.bare,.slice A1 p.label.length n1,.int .i64 p.wide,.int .i64 p.ck,.int .i64 p.cn,.int .i64 p.cat,.slice A2 p.cl.length n2,.int .i64 x.kind,.int .i64 x.at_,.int .i64 x.lo,.int .i64 x.hi,.int .i64 x.most,.slice A5 x.names.length n5,.slice A7 kd.len n7,.string x.name,.int .i64 x.nat] 130));have f2:=heap_alloc_new (wr.alloc (.cells #[.string p.name,.int .i64 p.at_,.bool p.bare,.slice A1 p.label.length n1,.int .i64 p.wide,.int .i64 p.ck,.int .i64 p.cn,.int .i64 p.cat,.slice A2 p.cl.length n2,.int .i64 x.kind,.int .i64 x.at_,.int .i64 x.lo,.int .i64 x.hi,.int .i64 x.most,.slice A5 x.names.length n5,.slice A7 kd.len n7,.string x.name,.int .i64 x.nat] 130)) (.cells #[.string q.name,.int .i64 q.at_,.bool q.bare,.slice A3 q.label.length n3,.int .i64 q.wide,.int .i64 q.ck,.int .i64 q.cn,.int .i64 q.cat,.slice A4 q.cl.length n4,.int .i64 y.kind,.int .i64 y.at_,.int .i64 y.lo,.int .i64 y.hi,.int .i64 y.most,.slice A6 y.names.length n6,.slice A8 ls.len n8,.string y.name,.int .i64 y.nat] 130);rw [hz]at f2;have ra:wr.rangeAt ga (oa+K*18) [.string p.name,.int .i64 p.at_,.bool p.bare,.slice A1 p.label.length n1,.int .i64 p.wide,.int .i64 p.ck,.int .i64 p.cn,.int .i64 p.cat,.slice A2 p.cl.length n2,.int .i64 x.kind,.int .i64 x.at_,.int .i64 x.lo,.int .i64 x.hi,.int .i64 x.most,.slice A5 x.names.length n5,.slice A7 kd.len n7,.string x.name,.int .i64 x.nat]:=fun j v h=>(nb.out.cell (p:=⟨ga,oa+K*18+j,none⟩) hga').trans (hc j v h)
    have rb:(wr.alloc (.cells #[.string p.name,.int .i64 p.at_,.bool p.bare,.slice A1 p.label.length n1,.int .i64 p.wide,.int .i64 p.ck,.int .i64 p.cn,.int .i64 p.cat,.slice A2 p.cl.length n2,.int .i64 x.kind,.int .i64 x.at_,.int .i64 x.lo,.int .i64 x.hi,.int .i64 x.most,.slice A5 x.names.length n5,.slice A7 kd.len n7,.string x.name,.int .i64 x.nat] 130)).rangeAt gb (ob+K*18) [.string q.name,.int .i64 q.at_,.bool q.bare,.slice A3 q.label.length n3,.int .i64 q.wide,.int .i64 q.ck,.int .i64 q.cn,.int .i64 q.cat,.slice A4 q.cl.length n4,.int .i64 y.kind,.int .i64 y.at_,.int .i64 y.lo,.int .i64 y.hi,.int .i64 y.most,.slice A6 y.names.length n6,.slice A8 ls.len n8,.string y.name,.int .i64 y.nat]:=fun j v h=>(b1.cell (p:=⟨gb,ob+K*18+j,none⟩) (Nat.lt_of_lt_of_le hgb' nb.out.size)).trans ((nb.out.cell (p:=⟨gb,ob+K*18+j,none⟩) hgb').trans (hc' j v h))
    have nV:=Lib.hid (nb.out.trans (b2.mono nb.out.size));have cS:=Lib.hid fun(W:World) (nW:Below w.heap.size w W) R hR=>samePart_calls kd ihK.out p q x y ls (.slice A1 p.label.length n1) (.slice A2 p.cl.length n2) (.slice A5 x.names.length n5) (.slice A7 kd.len n7) (.slice A3 q.label.length n3) (.slice A4 q.cl.length n4) (.slice A6 y.names.length n6) (.slice A8 ls.len n8) W gp.2.2.2.2.2.2.2.2.1 gp.2.2.2.2.2.2.2.2.2 gx.2.2.2.2.2.2.2.2 gk' ga2 (hlv.below nW) (hcv.below nW) (hyx.below nW) (hlv'.below nW) (hcv'.below nW) (hyy.below nW) R hR
    clear hc hc' hlv hcv hlv' hcv' hyx hyy hga' hgb' gp gx gk' ga2 ihK b1 b2;generalize(decide (p.name=q.name)&&plainB p q&&sameS x kd y ls)=S at *;go_upto_region 6 with(first|(refine wpList_load_g (by rfl) 130 _ rfl ga (oa+K*18) rfl [.string p.name,.int .i64 p.at_,.bool p.bare,.slice A1 p.label.length n1,.int .i64 p.wide,.int .i64 p.ck,.int .i64 p.cn,.int .i64 p.cat,.slice A2 p.cl.length n2,.int .i64 x.kind,.int .i64 x.at_,.int .i64 x.lo,.int .i64 x.hi,.int .i64 x.most,.slice A5 x.names.length n5,.slice A7 kd.len n7,.string x.name,.int .i64 x.nat] _ ra Tryz.underlying130 rfl (by kernel_rfl) ?_;go_simp)|(refine wpList_copy3 #[.string p.name,.int .i64 p.at_,.bool p.bare,.slice A1 p.label.length n1,.int .i64 p.wide,.int .i64 p.ck,.int .i64 p.cn,.int .i64 p.cat,.slice A2 p.cl.length n2,.int .i64 x.kind,.int .i64 x.at_,.int .i64 x.lo,.int .i64 x.hi,.int .i64 x.most,.slice A5 x.names.length n5,.slice A7 kd.len n7,.string x.name,.int .i64 x.nat] _ ⟨rfl,rfl,rfl⟩ rfl (fun _ _=>rfl) ⟨rfl,rfl,rfl⟩ part_alloc (by kernel_rfl) ⟨rfl,by simp [Value.oneCell']⟩ (fun _=>⟨rfl,rfl⟩) ?_;go_simp))
    clear ra;generalize wr.alloc (.cells #[.string p.name,.int .i64 p.at_,.bool p.bare,.slice A1 p.label.length n1,.int .i64 p.wide,.int .i64 p.ck,.int .i64 p.cn,.int .i64 p.cat,.slice A2 p.cl.length n2,.int .i64 x.kind,.int .i64 x.at_,.int .i64 x.lo,.int .i64 x.hi,.int .i64 x.most,.slice A5 x.names.length n5,.slice A7 kd.len n7,.string x.name,.int .i64 x.nat] 130)=V1 at *;go_upto_region 7 with(first|(refine wpList_load_g (by rfl) 130 _ rfl gb (ob+K*18) rfl [.string q.name,.int .i64 q.at_,.bool q.bare,.slice A3 q.label.length n3,.int .i64 q.wide,.int .i64 q.ck,.int .i64 q.cn,.int .i64 q.cat,.slice A4 q.cl.length n4,.int .i64 y.kind,.int .i64 y.at_,.int .i64 y.lo,.int .i64 y.hi,.int .i64 y.most,.slice A6 y.names.length n6,.slice A8 ls.len n8,.string y.name,.int .i64 y.nat] _ rb Tryz.underlying130 rfl (by kernel_rfl) ?_;go_simp)|(refine wpList_copy #[.string q.name,.int .i64 q.at_,.bool q.bare,.slice A3 q.label.length n3,.int .i64 q.wide,.int .i64 q.ck,.int .i64 q.cn,.int .i64 q.cat,.slice A4 q.cl.length n4,.int .i64 y.kind,.int .i64 y.at_,.int .i64 y.lo,.int .i64 y.hi,.int .i64 y.most,.slice A6 y.names.length n6,.slice A8 ls.len n8,.string y.name,.int .i64 y.nat] ⟨rfl,rfl,rfl⟩ ⟨rfl,rfl,rfl⟩ part_alloc (by kernel_rfl) ⟨rfl,by simp [Value.oneCell']⟩ (fun _=>⟨rfl,rfl⟩) ?_;go_simp))
    clear rb;generalize V1.alloc (.cells #[.string q.name,.int .i64 q.at_,.bool q.bare,.slice A3 q.label.length n3,.int .i64 q.wide,.int .i64 q.ck,.int .i64 q.cn,.int .i64 q.cat,.slice A4 q.cl.length n4,.int .i64 y.kind,.int .i64 y.at_,.int .i64 y.lo,.int .i64 y.hi,.int .i64 y.most,.slice A6 y.names.length n6,.slice A8 ls.len n8,.string y.name,.int .i64 y.nat] 130)=V2 at *;generalize wr.heap.size=B8 at *;clear hz;have r8:V2.rangeAt B8 0 [.string p.name,.int .i64 p.at_,.bool p.bare,.slice A1 p.label.length n1,.int .i64 p.wide,.int .i64 p.ck,.int .i64 p.cn,.int .i64 p.cat,.slice A2 p.cl.length n2,.int .i64 x.kind,.int .i64 x.at_,.int .i64 x.lo,.int .i64 x.hi,.int .i64 x.most,.slice A5 x.names.length n5,.slice A7 kd.len n7,.string x.name,.int .i64 x.nat]:=fun j v h=>by rw [Nat.zero_add,Lib.cell_of_heap f1];simpa using h
    have r9:V2.rangeAt (B8+1) 0 [.string q.name,.int .i64 q.at_,.bool q.bare,.slice A3 q.label.length n3,.int .i64 q.wide,.int .i64 q.ck,.int .i64 q.cn,.int .i64 q.cat,.slice A4 q.cl.length n4,.int .i64 y.kind,.int .i64 y.at_,.int .i64 y.lo,.int .i64 y.hi,.int .i64 y.most,.slice A6 y.names.length n6,.slice A8 ls.len n8,.string y.name,.int .i64 y.nat]:=fun j v h=>by rw [Nat.zero_add,Lib.cell_of_heap f2];simpa using h
    clear f1 f2;go_wp2_with (first|(refine wpList_load_g (by rfl) 130 _ rfl B8 0 rfl [.string p.name,.int .i64 p.at_,.bool p.bare,.slice A1 p.label.length n1,.int .i64 p.wide,.int .i64 p.ck,.int .i64 p.cn,.int .i64 p.cat,.slice A2 p.cl.length n2,.int .i64 x.kind,.int .i64 x.at_,.int .i64 x.lo,.int .i64 x.hi,.int .i64 x.most,.slice A5 x.names.length n5,.slice A7 kd.len n7,.string x.name,.int .i64 x.nat] _ r8 Tryz.underlying130 rfl (by kernel_rfl) ?_;go_simp)|(refine wpList_load_g (by rfl) 130 _ rfl (B8+1) 0 rfl [.string q.name,.int .i64 q.at_,.bool q.bare,.slice A3 q.label.length n3,.int .i64 q.wide,.int .i64 q.ck,.int .i64 q.cn,.int .i64 q.cat,.slice A4 q.cl.length n4,.int .i64 y.kind,.int .i64 y.at_,.int .i64 y.lo,.int .i64 y.hi,.int .i64 y.most,.slice A6 y.names.length n6,.slice A8 ls.len n8,.string y.name,.int .i64 y.nat] _ r9 Tryz.underlying130 rfl (by kernel_rfl) ?_;go_simp))
    refine cS.out _ nV.out _ (Lib.hid fun w5 n5=>?_);have nb5:=Lib.hid (nV.out.trans (n5.mono nV.out.size));clear n5 nV cS r8 r9 nb;cases S
    ·have e4:sameF f g=false:=e3
     have fin:=Lib.hid (hR.out _ nb5.out);rw [e4]at fin;clear hR e3 e4;go_wp2_with fail
     exact fin.out
    ·have e4:sameF f g=sameF (f.drop (K+1)) (g.drop (K+1)):=by rw [e3,d1,d2];rfl
     clear e3 d1 d2;go_wp2_with fail
     go_roundg (gk-1)
     case measure=>omega
     case rel=>exact⟨K+1,by go_num,by omega,nb5,e4⟩
   ·have hK2:g.len≤K:=by have:=hl.out;omega
    have e3:sameF f g=true:=by rw [e2,Fo.drop_all (by omega),Fo.drop_all hK2];rfl
    have fin:=Lib.hid (hR.out _ nb.out);rw [e3]at fin;obtain rfl:K=f.len:=by omega
    clear e2 hR;go_wp2_with fail
    exact fin.out
 ·have q1:((f.len:Int) != (g.len:Int))=true:=by simp;omega
  have e3:sameF f g=false:=by
   cases hs:sameF f g
   ·rfl
   ·exact absurd (sameF_len hs) hl
  have fin:=Lib.hid (hR.out _ (Below.refl _ _));rw [e3]at fin;clear hl hR hp hp' ih hga;go_enter Tryz.func227,Tryz.ntmps227
  go_wp2_with fail
  exact fin.out
theorem sameC_step(f:Ft)(ih:Fo.AllK SameC f):SameC f:=by
 intro h h' g nv pv nv' pv' w hm hfl hga hy hy' R hR;obtain⟨An,cn,rfl,-,-⟩:=hy.n.op;obtain⟨An',cn',rfl,-,-⟩:=hy'.n.op;obtain⟨Ap,cp,rfl,-⟩:=hy.p.sl;obtain⟨Ap',cp',rfl,-⟩:=hy'.p.sl;have bA:=(Below.refl w.heap.size w).alloc (Nat.le_refl _) (.cells #[.int .i64 h.kind,.int .i64 h.at_,.int .i64 h.lo,.int .i64 h.hi,.int .i64 h.most,.slice An h.names.length cn,.slice Ap f.len cp,.string h.name,.int .i64 h.nat] 29);have bB:=bA.alloc bA.size (.cells #[.int .i64 h'.kind,.int .i64 h'.at_,.int .i64 h'.lo,.int .i64 h'.hi,.int .i64 h'.most,.slice An' h'.names.length cn',.slice Ap' g.len cp',.string h'.name,.int .i64 h'.nat] 29);have hz:(w.alloc (.cells #[.int .i64 h.kind,.int .i64 h.at_,.int .i64 h.lo,.int .i64 h.hi,.int .i64 h.most,.slice An h.names.length cn,.slice Ap f.len cp,.string h.name,.int .i64 h.nat] 29)).heap.size=w.heap.size+1:=by simp
 have hA:=(((Below.refl _ _).alloc (Nat.le_refl _) (.cells #[.int .i64 h'.kind,.int .i64 h'.at_,.int .i64 h'.lo,.int .i64 h'.hi,.int .i64 h'.most,.slice An' h'.names.length cn',.slice Ap' g.len cp',.string h'.name,.int .i64 h'.nat] 29)).block w.heap.size (by omega)).trans (heap_alloc_new w (.cells #[.int .i64 h.kind,.int .i64 h.at_,.int .i64 h.lo,.int .i64 h.hi,.int .i64 h.most,.slice An h.names.length cn,.slice Ap f.len cp,.string h.name,.int .i64 h.nat] 29));have hB:=heap_alloc_new (w.alloc (.cells #[.int .i64 h.kind,.int .i64 h.at_,.int .i64 h.lo,.int .i64 h.hi,.int .i64 h.most,.slice An h.names.length cn,.slice Ap f.len cp,.string h.name,.int .i64 h.nat] 29)) (.cells #[.int .i64 h'.kind,.int .i64 h'.at_,.int .i64 h'.lo,.int .i64 h'.hi,.int .i64 h'.most,.slice An' h'.names.length cn',.slice Ap' g.len cp',.string h'.name,.int .i64 h'.nat] 29);rw [hz]at hB;rw [head_eq]at hR;replace hy:=Lib.hid hy;replace hy':=Lib.hid hy';replace hga:=Lib.hid hga;replace ih:=Lib.hid ih;go_enter Tryz.func221,Tryz.ntmps221
 go_upto_region 1 with fail
 generalize(w.alloc (.cells #[.int .i64 h.kind,.int .i64 h.at_,.int .i64 h.lo,.int .i64 h.hi,.int .i64 h.most,.slice An h.names.length cn,.slice Ap f.len cp,.string h.name,.int .i64 h.nat] 29)).alloc (.cells #[.int .i64 h'.kind,.int .i64 h'.at_,.int .i64 h'.lo,.int .i64 h'.hi,.int .i64 h'.most,.slice An' h'.names.length cn',.slice Ap' g.len cp',.string h'.name,.int .i64 h'.nat] 29)=V at *;replace hA:=Lib.hid hA;replace hB:=Lib.hid hB;have nW:=Lib.hid bB;clear bA bB hz;have u0:=(Lib.cell_of_heap hA.out 0).trans rfl;have v0:=(Lib.cell_of_heap hB.out 0).trans rfl
 by_cases c:h.kind=h'.kind
 ·have q0:(h.kind==h'.kind)=true:=by simpa using c
  rw [decide_eq_true c,Bool.true_and]at hR;clear c;have u2:=(Lib.cell_of_heap hA.out 2).trans rfl;have v2:=(Lib.cell_of_heap hB.out 2).trans rfl
  by_cases c:h.lo=h'.lo
  ·have q2:(h.lo==h'.lo)=true:=by simpa using c
   rw [decide_eq_true c,Bool.true_and]at hR;clear c;have u3:=(Lib.cell_of_heap hA.out 3).trans rfl;have v3:=(Lib.cell_of_heap hB.out 3).trans rfl
   by_cases c:h.hi=h'.hi
   ·have q3:(h.hi==h'.hi)=true:=by simpa using c
    rw [decide_eq_true c,Bool.true_and]at hR;clear c;have u4:=(Lib.cell_of_heap hA.out 4).trans rfl;have v4:=(Lib.cell_of_heap hB.out 4).trans rfl
    by_cases c:h.most=h'.most
    ·have q4:(h.most==h'.most)=true:=by simpa using c
     rw [decide_eq_true c,Bool.true_and]at hR;clear c;have u7:=(Lib.cell_of_heap hA.out 7).trans rfl;have v7:=(Lib.cell_of_heap hB.out 7).trans rfl;have u8:=(Lib.cell_of_heap hA.out 8).trans rfl;have v8:=(Lib.cell_of_heap hB.out 8).trans rfl;have cX:=Lib.hid fun R hR=>sameWord_calls h.name h'.name h.nat h'.nat V R hR
     generalize decide (h.name=h'.name)=S at *;go_wp2_with fail
     refine cX.out _ (Lib.hid fun w1_ n9=>?_);have hA9:=Lib.hid ((n9.block _ (blt_of hA.out)).trans hA.out);have hB9:=Lib.hid ((n9.block _ (blt_of hB.out)).trans hB.out);have nW9:=Lib.hid (nW.out.trans (n9.mono nW.out.size));clear u0 v0 u2 v2 u3 v3 u4 v4 u7 v7 u8 v8;clear n9 cX hA hB nW;have hA:=hA9;have hB:=hB9;have nW:=nW9;clear hA9 hB9 nW9;cases S
     ·rw [Bool.false_and]at hR
      have fin:=Lib.hid (hR.out _ nW.out);clear hR;go_wp2_with fail
      exact fin.out
     ·rw [Bool.true_and]at hR
      have u5:=(Lib.cell_of_heap hA.out 5).trans rfl;have v5:=(Lib.cell_of_heap hB.out 5).trans rfl;have cX:=Lib.hid fun R hR=>eqw_calls h.names h'.names hm (.slice An h.names.length cn) (.slice An' h'.names.length cn') w1_ (hy.out.below nW.out).n (hy'.out.below nW.out).n R hR
      generalize sameW h.names h'.names=S at *;go_wp2_with fail
      refine cX.out _ (Lib.hid fun w2_ n9=>?_);have hA9:=Lib.hid ((n9.block _ (blt_of hA.out)).trans hA.out);have hB9:=Lib.hid ((n9.block _ (blt_of hB.out)).trans hB.out);have nW9:=Lib.hid (nW.out.trans (n9.mono nW.out.size));clear u5 v5;clear n9 cX hA hB nW;have hA:=hA9;have hB:=hB9;have nW:=nW9;clear hA9 hB9 nW9;cases S
      ·rw [Bool.false_and]at hR
       have fin:=Lib.hid (hR.out _ nW.out);clear hR;go_wp2_with fail
       exact fin.out
      ·rw [Bool.true_and]at hR
       have u6:=(Lib.cell_of_heap hA.out 6).trans rfl;have v6:=(Lib.cell_of_heap hB.out 6).trans rfl;have cX:=Lib.hid fun R hR=>eqp_calls f ih.out g (.slice Ap f.len cp) (.slice Ap' g.len cp') w2_ hfl hga.out (hy.out.below nW.out).p (hy'.out.below nW.out).p R hR
       generalize sameF f g=S at *;go_wp2_with fail
       refine cX.out _ (Lib.hid fun w3_ n9=>?_);have hA9:=Lib.hid ((n9.block _ (blt_of hA.out)).trans hA.out);have hB9:=Lib.hid ((n9.block _ (blt_of hB.out)).trans hB.out);have nW9:=Lib.hid (nW.out.trans (n9.mono nW.out.size));clear u6 v6;clear n9 cX hA hB nW;have hA:=hA9;have hB:=hB9;have nW:=nW9;clear hA9 hB9 nW9;have fin:=Lib.hid (hR.out _ nW.out);clear hR;go_wp2_with fail
       exact fin.out
    ·have q:(h.most==h'.most)=false:=by simpa using c
     have fin:=Lib.hid (hR.out _ nW.out);rw [decide_eq_false c,Bool.false_and]at fin;clear hR c;go_wp2_with fail
     exact fin.out
   ·have q:(h.hi==h'.hi)=false:=by simpa using c
    have fin:=Lib.hid (hR.out _ nW.out);rw [decide_eq_false c,Bool.false_and]at fin;clear hR c;go_wp2_with fail
    exact fin.out
  ·have q:(h.lo==h'.lo)=false:=by simpa using c
   have fin:=Lib.hid (hR.out _ nW.out);rw [decide_eq_false c,Bool.false_and]at fin;clear hR c;go_wp2_with fail
   exact fin.out
 ·have q:(h.kind==h'.kind)=false:=by simpa using c
  have fin:=Lib.hid (hR.out _ nW.out);rw [decide_eq_false c,Bool.false_and]at fin;clear hR c;go_wp2_with fail
  exact fin.out
theorem sameC_calls(f:Ft):SameC f:=Fo.deep sameC_step f
end Go.Proofs.YtncckdaflellnaaGreat.Kin
