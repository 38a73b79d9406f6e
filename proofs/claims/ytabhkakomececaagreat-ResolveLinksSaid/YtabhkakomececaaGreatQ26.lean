import Derived.Test.YtabhkakomececaaGreatQ13
import Derived.Test.YtabhkakomececaaGreatQ18
import Derived.Test.YtabhkakomececaaGreatQ19
import Derived.Test.YtabhkakomececaaGreatQ24
import Derived.Test.YtabhkakomececaaGreatQ25
set_option linter.all false
set_option maxRecDepth 100000
set_option maxHeartbeats 4000000
namespace Go.Proofs.YtabhkakomececaaGreat
namespace Res
open Go.RowKit Go.Lib Utf Nam Lat Kin Unp Rel
section
variable {base B:Nat} {lv tv tab:Value} {rh:TH} {rnv rpv:Value} {w0:World}
def tallyS(s:BS)(h:TH)(f:Ft):(Int×Int)×BS:=((0,0),if h.kind=9 then s else { s with count:=wrap64 (s.count+1) })
theorem isF_tally:IsF 205:=by
 intro args w;unfold callFunc;simp [go_sem,Tryz.func205];rfl
theorem tally_calls(G:TH→Ft→Prop):OpQ G (BF base B lv tv tab rh rnv rpv) w0 205 (.pointer (some ⟨B,0,none⟩)) tallyS:=by
 intro s h f nv' pv' w hI hb hy hg R hR;obtain⟨An,cn,rfl,-,-⟩:=hy.n.op;obtain⟨Ap,cp,rfl,-⟩:=hy.p.sl;have m0:=Hq.nil hI;obtain⟨V1,e1,m1,z1⟩:=m0.new (.cells (tyL h (.slice An h.names.length cn) (.slice Ap f.len cp)).toArray 36);obtain⟨V,e2,n,z2⟩:=m1.new (.cells #[.int .i64 0,.int .i64 0] 26);clear m0 m1 z1 z2;go_enter Tryz.func205,Tryz.ntmps205
 go_upto_region 1 with fail
 clear e1 e2;have t0:=n.c 1 0 rfl rfl;have b13:=n.bc 13 rfl;have bf:=n.bf 13
 by_cases hk:h.kind=9
 ·have e:tallyS s h f=((0,0),s):=by unfold tallyS;rw [if_pos hk]
  rw [e]at hR;have q0:(h.kind != 9)=false:=by simpa using hk
  clear e hk;go_upto_region 3 with fail
  clear t0 b13 bf;have y0:=n.c 0 0 rfl rfl;have yf0:=n.f 0 0 rfl;have y1:=n.c 0 1 rfl rfl;have yf1:=n.f 0 1 rfl;obtain⟨VE,eE,nE,-⟩:=n.put (j:=0) rfl [(0,.int .i64 0),(1,.int .i64 0)];simp only[stL]at eE;simp only[stA,List.setIfInBounds_toArray,List.set_cons_succ,List.set_cons_zero]at nE;have w0_:=nE.c 0 0 rfl rfl;have w1_:=nE.c 0 1 rfl rfl;have fin:=Lib.hid (hR.out _ nE.fin);clear nE n hR;go_wp2_with fail
  first|refine bodyPost_ret ?_ rfl fin.out|refine bodyPost_end ?_ rfl fin.out
  simp [results,Tryz.results205,go_sem,w0_,w1_]
 ·have e:tallyS s h f=((0,0),{ s with count:=wrap64 (s.count+1) }):=by unfold tallyS;rw [if_neg hk]
  rw [e]at hR;have q0:(h.kind != 9)=true:=by simpa using hk
  clear e hk;obtain⟨V2,e2,n2⟩:∃V2,V.setCell ⟨B,13,none⟩ (.int .i64 (wrap64 (s.count+1)))=V2∧Hq (BF base B lv tv tab rh rnv rpv) s { s with count:=wrap64 (s.count+1) } w V2 [(V1.heap.size,.cells #[.int .i64 0,.int .i64 0] 26),(w.heap.size,.cells (tyL h (.slice An h.names.length cn) (.slice Ap f.len cp)).toArray 36)]:=⟨_,rfl,n.cellB 13 _ rfl rfl rfl rfl rfl rfl⟩;clear n;have n:=n2;clear n2;go_upto_region 3 with fail
  clear t0 b13 bf e2;have y0:=n.c 0 0 rfl rfl;have yf0:=n.f 0 0 rfl;have y1:=n.c 0 1 rfl rfl;have yf1:=n.f 0 1 rfl;obtain⟨VE,eE,nE,-⟩:=n.put (j:=0) rfl [(0,.int .i64 0),(1,.int .i64 0)];simp only[stL]at eE;simp only[stA,List.setIfInBounds_toArray,List.set_cons_succ,List.set_cons_zero]at nE;have w0_:=nE.c 0 0 rfl rfl;have w1_:=nE.c 0 1 rfl rfl;have fin:=Lib.hid (hR.out _ nE.fin);clear nE n hR;go_wp2_with fail
  first|refine bodyPost_ret ?_ rfl fin.out|refine bodyPost_end ?_ rfl fin.out
  simp [results,Tryz.results205,go_sem,w0_,w1_]
noncomputable def kindsS(s:BS)(h:TH)(f:Ft):(Int×Int)×BS :=
if(wcS h f).1≠0 then(((wcS h f).1,(wcS h f).2.1),s)else
if 512<wrap64 (s.total+cW f 1)then((8,h.at_),{ s with total:=wrap64 (s.total+cW f 1) })else((0,0),{ s with total:=wrap64 (s.total+cW f 1) })
theorem isF_kinds:IsF 133:=by
 intro args w;unfold callFunc;simp [go_sem,Tryz.func133];rfl
theorem kinds_calls(hlow:w0.heap.size≤base):OpQ GoodT (BF base B lv tv tab rh rnv rpv) w0 133 (.pointer (some ⟨B,0,none⟩)) kindsS:=by
 intro s h f nv' pv' w hI hb hy hg R hR;obtain⟨An,cn,rfl,-,-⟩:=hy.n.op;obtain⟨Ap,cp,rfl,-⟩:=hy.p.sl;have m0:=Hq.nil hI;obtain⟨V1,e1,m1,z1⟩:=m0.new (.cells (tyL h (.slice An h.names.length cn) (.slice Ap f.len cp)).toArray 36);obtain⟨V,e2,n,z2⟩:=m1.new (.cells #[.int .i64 0,.int .i64 0] 26);clear m0 m1 z1 z2;go_enter Tryz.func133,Tryz.ntmps133
 go_upto_region 1 with fail
 clear e1 e2;obtain⟨gh,hfl,hga⟩:=hg;have hbV:=hb.trans (n.below hb.size (bF_low base B lv tv tab rh rnv rpv hlow s));have rT:=n.rg 1 rfl;have t1:=n.c 1 1 rfl rfl;go_wp2_with (refine wpList_load_g (by rfl) 36 _ rfl w.heap.size (0) rfl _ _ rT Tryz.underlying36 rfl (by kernel_rfl) ?_;go_simp)
 refine right15_calls f h _ _ V gh hfl hga (hy.below hbV) _ (Lib.hid fun W1 m1=>?_);replace n:=n.bl m1;clear m1 rT hbV t1;unfold kindsS at hR;generalize hwc:wcS h f=a at *;obtain⟨a0,a1,a2⟩:=a;simp only at hR ⊢;obtain⟨V2,e2,n,z2⟩:=n.new (.cells #[.int .i64 a0,.int .i64 a1] 26);go_upto_region 2 with fail
 clear e2 z2;have a_0:=n.c 0 0 rfl rfl;have a_1:=n.c 0 1 rfl rfl
 by_cases h0:a0=0
 ·subst h0
  rw [if_neg (by decide)]at hR;go_upto_region 4 with fail
  clear a_0 a_1;replace n:=n.tail;have hbV:=hb.trans (n.below hb.size (bF_low base B lv tv tab rh rnv rpv hlow s));have b12:=fun y:BW V2=>y.cell n.bl_ (n.bc 12 rfl)
  have rT:=fun(W:World) (e:∃y:BW V2,W=y.w)=>(show W.rangeAt w.heap.size 0 (tyL h (.slice An h.names.length cn) (.slice Ap f.len cp))from by
   obtain⟨y,rfl⟩:=e;exact(n.bl y.b).rg 1 rfl)
  refine wp_region_mixT [([0,1,2,3,4],5),([6],7)] [8] 9 (by kernel_rfl) (by kernel_rfl) (by kernel_rfl) (by kernel_rfl) (by decide) (fun _ _ d _ _ h=>by cases d<;>exact h) ?_
  have gW:Below V2.heap.size V2 (V2.drewN 1):=below_drewN (Below.refl _ _) 1;refine mixt_cons (os:=[_,_,_,_,_]) (by simp only[pickO,List.filterMap_cons,List.filterMap_nil,List.getElem?_toArray,List.getElem?_cons_succ,List.getElem?_cons_zero];rfl) (fun Kp hKp=>?_)
  iterate 4 (go_big_quiet_step (exact rfl))
  refine wpQuiet_load rfl 36 _ rfl (w.heap.size) 0 rfl _ _ rT Tryz.underlying36 rfl (by kernel_rfl) ?_;go_simp;refine wpQuiet_nil ?_;refine hKp _ ?_;clear hKp;refine loudt (by rfl) (by kernel_rfl) (fun K2 hK2=>?_);go_simp;refine count_calls f h _ _ _ hfl hga (hy.below (hbV.trans (gW.mono hbV.size))) _ (Lib.hid fun W3 m3=>?_);have gL:=gW.trans (m3.mono gW.size);refine hK2 _ _ (BW.of gL) ?_;clear hK2;refine mixt_cons (os:=[_]) (by simp only[pickO,List.filterMap_cons,List.filterMap_nil,List.getElem?_toArray,List.getElem?_cons_succ,List.getElem?_cons_zero];rfl) (fun Kp hKp=>?_)
  repeat (go_big_quiet_step (exact rfl))
  refine wpQuiet_nil ?_;refine hKp _ ?_;clear hKp;refine loudt (by rfl) (by kernel_rfl) (fun K3 hK3=>?_);go_simp;refine hK3 _ _ (BW.of gL) ?_;clear hK3;refine mixt_last (os:=[_]) (by simp only[pickO,List.filterMap_cons,List.filterMap_nil,List.getElem?_toArray,List.getElem?_cons_succ,List.getElem?_cons_zero];rfl) (fun Kp hKp=>?_)
  repeat (go_big_quiet_step (exact rfl))
  refine wpQuiet_nil ?_;refine hKp _ ?_;clear hKp;replace n:=n.bl gL;have bf:=n.bf 12;have b12':=n.bc 12 rfl;obtain⟨V4,e4,n⟩:∃V4,W3.setCell ⟨B,12,none⟩ (.int .i64 (wrap64 (s.total+cW f 1)))=V4∧Hq (BF base B lv tv tab rh rnv rpv) s { s with total:=wrap64 (s.total+cW f 1) } w V4 [(V1.heap.size,.cells #[.int .i64 0,.int .i64 0] 26),(w.heap.size,.cells (tyL h (.slice An h.names.length cn) (.slice Ap f.len cp)).toArray 36)]:=⟨_,rfl,n.cellB 12 _ rfl rfl rfl rfl rfl rfl⟩;refine loudl (by rfl) (by kernel_rfl) ?_;go_simp;clear e4 bf b12' gL m3 gW rT b12 hbV hwc;have t1:=n.c 1 1 rfl rfl;have b12:=n.bc 12 rfl;generalize wrap64 (s.total+cW f 1)=t at *
  by_cases h5:512<t
  ·rw [if_pos h5]at hR
   go_upto_region 6 with fail
   clear b12;have y0:=n.c 0 0 rfl rfl;have yf0:=n.f 0 0 rfl;have y1:=n.c 0 1 rfl rfl;have yf1:=n.f 0 1 rfl;obtain⟨VE,eE,nE,-⟩:=n.put (j:=0) rfl [(0,.int .i64 8),(1,.int .i64 h.at_)];simp only[stL]at eE;simp only[stA,List.setIfInBounds_toArray,List.set_cons_succ,List.set_cons_zero]at nE;have w0_:=nE.c 0 0 rfl rfl;have w1_:=nE.c 0 1 rfl rfl;have fin:=Lib.hid (hR.out _ nE.fin);clear nE n hR;go_wp2_with fail
   first|refine bodyPost_ret ?_ rfl fin.out|refine bodyPost_end ?_ rfl fin.out
   simp [results,Tryz.results133,go_sem,w0_,w1_]
  ·rw [if_neg h5]at hR
   go_upto_region 7 with fail
   clear b12;have y0:=n.c 0 0 rfl rfl;have yf0:=n.f 0 0 rfl;have y1:=n.c 0 1 rfl rfl;have yf1:=n.f 0 1 rfl;obtain⟨VE,eE,nE,-⟩:=n.put (j:=0) rfl [(0,.int .i64 0),(1,.int .i64 0)];simp only[stL]at eE;simp only[stA,List.setIfInBounds_toArray,List.set_cons_succ,List.set_cons_zero]at nE;have w0_:=nE.c 0 0 rfl rfl;have w1_:=nE.c 0 1 rfl rfl;have fin:=Lib.hid (hR.out _ nE.fin);clear nE n hR;go_wp2_with fail
   first|refine bodyPost_ret ?_ rfl fin.out|refine bodyPost_end ?_ rfl fin.out
   simp [results,Tryz.results133,go_sem,w0_,w1_]
 ·rw [if_pos h0]at hR
  have q0:(a0 != 0)=true:=by simpa using h0
  clear h0 hwc;go_upto_region 3 with fail
  have y0:=n.c 1 0 rfl rfl;have yf0:=n.f 1 0 rfl;have y1:=n.c 1 1 rfl rfl;have yf1:=n.f 1 1 rfl;obtain⟨VE,eE,nE,-⟩:=n.put (j:=1) rfl [(0,.int .i64 a0),(1,.int .i64 a1)];simp only[stL]at eE;simp only[stA,List.setIfInBounds_toArray,List.set_cons_succ,List.set_cons_zero]at nE;have w0_:=nE.c 1 0 rfl rfl;have w1_:=nE.c 1 1 rfl rfl;have fin:=Lib.hid (hR.out _ nE.fin);clear nE n hR;go_wp2_with fail
  first|refine bodyPost_ret ?_ rfl fin.out|refine bodyPost_end ?_ rfl fin.out
  simp [results,Tryz.results133,go_sem,w0_,w1_]
end
section
variable {base B:Nat} {lv tv tab:Value} {rh:TH} {rnv rpv:Value} {w0:World}
theorem typ_alloc(ρ:Operand→Value)(W:World)(o:Oper)(h:o.op=.alloc 36):(execOp ρ o).run Tryz.prog W=.ok (.value (ptA W.heap.size)) (W.alloc (.cells #[.int .i64 0,.int .i64 0,.int .i64 0,.int .i64 0,.int .i64 0,.slice none 0 0,.slice none 0 0,.string ⟨#[]⟩,.int .i64 0] 36)):=by
 simp [execOp,h,go_sem,ptA]
def tgtS(tys:List Nd):Nat→ByteArray→Int×Bool
| 0,_=>(0,false)
| n+1,x=>if(nN tys (finS (nms (tw tys)) x).1.toNat).2.1.kind≠9 then((finS (nms (tw tys)) x).1,true)else tgtS tys n (nN tys (finS (nms (tw tys)) x).1.toNat).2.1.name
theorem fin_in{xs:List ByteArray}(x:ByteArray)(h:0<xs.length):∃I:Nat,(finS xs x).1=(I:Int)∧I<xs.length:=by
 rcases find_cases xs x with⟨h1,-⟩|⟨k,h1,-,-,h4⟩
 ·rw [fin_no (by rw [h1];decide)]
  exact⟨0,rfl,h⟩
 ·rw [fin_yes (by rw [h4];omega)]
  exact⟨k,h4,h1⟩
theorem target_calls{tys:List Nd}(ht:RdNs w0 tv tys)(hT:RdT w0 tab (nms (tw tys)))(hlow:w0.heap.size≤base)(hl:tys.length≤1000000)(s:BS)(x0:ByteArray)(w:World)(hI:(BF base B lv tv tab rh rnv rpv).Inv w s)(hb:Below w0.heap.size w0 w)(R:Ending→World→Prop)
  (hR:Hid (∀W,Hq (BF base B lv tv tab rh rnv rpv) s s w W []→R (.returned (.tuple #[.int .i64 (tgtS tys tys.length x0).1,.bool (tgtS tys tys.length x0).2])) W)):Calls Tryz.prog 204 #[.pointer (some ⟨B,0,none⟩),.string x0] w R:=by
 obtain⟨A,c,rfl,hc,hel⟩:=nds_el ht;have hlen:(nms (tw tys)).length=tys.length:=by simp [nms,tw_len]
 have n:=Hq.nil hI;have b1:=n.bc 1 rfl;replace hel:=Lib.hid hel;go_enter Tryz.func204,Tryz.ntmps204
 go_wp2_with fail
 clear b1;go_loopg [1,14] tys.length (fun g sx i wr=>∃(K:Nat) (y:ByteArray),sx=.string y∧i=.int .i64 K∧K+g=tys.length∧Hid (tgtS tys tys.length x0=tgtS tys g y)∧Hid (Hq (BF base B lv (.slice A tys.length c) tab rh rnv rpv) s s w wr []))
 case atStart=>exact⟨0,x0,rfl,rfl,by omega,Lib.hid rfl,Lib.hid n⟩
 case round =>
  clear n;obtain⟨K,y,rfl,rfl,e1,e2,n⟩:=hrel;replace n:=n.out
  by_cases hK:K<tys.length
  ·have hbW:=hb.trans (n.below hb.size (bF_low base B lv (.slice A tys.length c) tab rh rnv rpv hlow s))
   have b1:=n.bc 1 rfl;have b11:=n.bc 11 rfl;obtain⟨I,hI1,hI2⟩:=fin_in (xs:=nms (tw tys)) y (by omega);obtain⟨g',rfl⟩:∃g',gk=g'+1:=⟨gk-1,by omega⟩
   have e3:tgtS tys tys.length x0=if(nN tys I).2.1.kind≠9 then((I:Int),true)else tgtS tys g' (nN tys I).2.1.name:=by
    rw [e2.out];show(if(nN tys (finS (nms (tw tys)) y).1.toNat).2.1.kind≠9 then _ else _)=_;rw [hI1,Int.toNat_natCast]
   rw [hlen]at hI2;obtain⟨g,o,N1,N3,M1,M3,rfl,hxy,hrg⟩:=hel.out I hI2;go_wp2_with fail
   refine find_calls (nms (tw tys)) y tab wr (by omega) (hT.below hbW) _ (Lib.hid fun nq=>?_);rw [hI1];replace n:=n.bl (below_drewN (Below.refl _ _) nq);generalize wr.drewN nq=V at *;have hbV:=hb.trans (n.below hb.size (bF_low base B lv (.slice (some ⟨g,o,none⟩) tys.length c) tab rh rnv rpv hlow s));have rg0:=hrg V hbV;clear b1 b11 hbW e2 hrg hI1;have b1:=n.bc 1 rfl;have i0:(0:Int)≤(I:Int):=by omega
   have i1:(I:Int)<(tys.length:Int):=by omega
   generalize nN tys I=x at *
   have rg:V.rangeAt g (o+I*11+2) (tyL x.2.1 (.slice N1 x.2.1.names.length N3) (.slice M1 x.2.2.len M3)):=fun j v e=>by
    have:=rg0 (2+j) v (by rw [Nat.add_comm];exact e)
    rwa [←Nat.add_assoc]at this
   clear rg0;obtain⟨V3,e4,n,z3⟩:=n.new (.cells (tyL x.2.1 (.slice N1 x.2.1.names.length N3) (.slice M1 x.2.2.len M3)).toArray 36);go_upto_region 5 with(first|(refine wpList_load_g (by rfl) 36 _ rfl g (o+I*11+2) rfl _ _ rg Tryz.underlying36 rfl (by kernel_rfl) ?_;go_simp)|(refine wpList_copy (tyL x.2.1 (.slice N1 x.2.1.names.length N3) (.slice M1 x.2.2.len M3)).toArray ⟨rfl,rfl,rfl⟩ ⟨rfl,rfl,rfl⟩ typ_alloc (by kernel_rfl) ⟨rfl,by simp [Value.oneCell']⟩ (fun _=>⟨rfl,rfl⟩) ?_;go_simp))
   clear e4 z3 rg b1;have t0:=n.c 0 0 rfl rfl;have t7:=n.c 0 7 rfl rfl
   by_cases hk:x.2.1.kind=9
   ·rw [if_neg (by simpa using hk)]at e3
    have q0:(x.2.1.kind != 9)=false:=by simpa using hk
    replace n:=Lib.hid n.tail;replace e3:=Lib.hid e3;clear hR hk;go_wp2_with fail
    go_roundg g'
    case measure=>omega
    case rel=>exact⟨K+1,_,rfl,by go_num,by omega,e3,n⟩
   ·rw [if_pos (by simpa using hk)]at e3
    have q0:(x.2.1.kind != 9)=true:=by simpa using hk
    rw [e3]at hR;have fin:=Lib.hid (hR.out _ n.fin);clear hR hk n;go_wp2_with fail
    exact fin.out
  ·obtain rfl:gk=0:=by omega
   have e3:tgtS tys tys.length x0=(0,false):=e2.out;rw [e3]at hR;have fin:=Lib.hid (hR.out _ n.fin);clear hR n;go_wp2_with fail
   exact fin.out
end
end Res
namespace Res
open Go.RowKit Go.Lib Utf Nam Lat Kin Unp Rel Lab
section
variable {base B:Nat} {lv tv tab:Value} {rh:TH} {rnv rpv:Value} {w0:World}
theorem okf_at{K:Int}:∀(n:Nat){f:Ft}{p:PH}{x:TH}{k r:Ft},okF K f→f.drop n=.cons p x k r→(K=7∨K=8→okP K p x k)∧(p.bare=false→okT x k)
| 0,f,p,x,k,r,a,e=>by
 have e':f=.cons p x k r:=by cases f<;>exact e
 rw [e']at a;exact⟨a.1,a.2.1⟩
| n+1,.nil,p,x,k,r,a,e=>by rw [Fo.drop_nil]at e;cases e
| n+1,.cons q y l s,p,x,k,r,a,e=>okf_at n a.2.2 e
theorem plain_len{p q:PH}(h:plainB p q=true):p.label.length=q.label.length∧p.cl.length=q.cl.length:=by
 simp only[plainB,sameW,Bool.and_eq_true,decide_eq_true_eq]at h;exact⟨by have:=congrArg List.length h.1.1.1.2;simpa [nms]using this,by have:=congrArg List.length h.2;simpa [nms]using this⟩
theorem ok_lab{h:TH}{f:Ft}{K:Nat}{p:PH}{x:TH}{k r:Ft}(ok:okT h f)(e:f.drop K=.cons p x k r):p.label.length≤32∧p.cl.length≤32∧(p.bare=false→okT x k):=by
 obtain⟨h1,h2⟩:=okf_at K ok.2 e;have hl:K<f.len:=Nat.lt_of_not_le fun q=>by rw [Fo.drop_all q]at e;cases e
 obtain⟨k1,k9,ow,-,-,-,-,-,k56,-,-⟩:=ok.1;simp only[ownB,decide_eq_true_eq]at ow;have hk:(h.kind=5∨h.kind=6)∨h.kind=7∨h.kind=8:=by omega
 rcases hk with hk|hk
 ·have ho:=k56 hk
  have hf:f.len=1:=by
   cases Nat.decEq f.len 1 with
   | isTrue q=>exact q
   | isFalse q=>have:=ho;rw [only_len q]at this;cases this
  have:K=0:=by omega
  subst this;have e2:f=Fo.cons p x k r:=by cases f<;>exact e
  subst e2;cases r with
  | cons a b c d=>simp [Fo.len]at hf
  | nil =>
   have ho2:(decide (p.name=ByteArray.empty)&&plainB p zPH)=true:=ho;rw [Bool.and_eq_true]at ho2;have:=plain_len ho2.2;exact⟨by rw [this.1];decide,by rw [this.2];decide,h2⟩
 ·obtain⟨-,q2,q3⟩:=h1 hk
  cases hb:p.bare
  ·obtain⟨-,-,w1,w2⟩:=q3 hb
   refine⟨w1.1,?_,fun _=>h2 hb⟩;rcases w2 with⟨-,-,e⟩|⟨-,e⟩
   ·rw [e];decide
   ·exact e.1
  ·have:=plain_len (q2 hb).2.2
   exact⟨by rw [this.1];decide,by rw [this.2];decide,fun h=>by cases h⟩
def lof(nm:List ByteArray)(F:Nat→Nat→Bool)(qs:List Wr):Int×(Int×Int):=((firF (ofAt nm qs) qs.length 0).map fun x=>(0,x)).getD (lubZ nm.length F (fndL nm qs),(0,0))
theorem lof_calls(nm:List ByteArray)(F:Nat→Nat→Bool)(v:Value)(w:World)(h:LatP w v nm F)(qs:List Wr)(vq:Value)(hq:RdW w vq qs)(hgq:∀x∈qs,GoodW x)(hql:qs.length≤1000)(R:Ending→World→Prop)
  (hR:Hid (∀w',Below w.heap.size w w'→R (.returned (.tuple #[.int .i64 (lof nm F qs).1,.agg #[.int .i64 (lof nm F qs).2.1,.int .i64 (lof nm F qs).2.2]])) w')):Calls Tryz.prog 255 #[v,vq] w R:=by
 refine labof_calls nm F v w h qs vq hq hgq hql R (Lib.hid fun w' e n=>?_) (Lib.hid fun x w' e n=>?_)
 ·have:=hR.out w' n
  unfold lof at this;rw [e]at this;exact this
 ·have:=hR.out w' n
  unfold lof at this;rw [e]at this;exact this
def wordsF(nm:List ByteArray)(F:Nat→Nat→Bool):Ft→Int×Int
| .nil=>(0,0)
| .cons p _ _ r=>if(lof nm F p.label).2.1≠0 then(lof nm F p.label).2 else if(lof nm F p.cl).2.1≠0 then(lof nm F p.cl).2 else wordsF nm F r
def wordsS(nm:List ByteArray)(F:Nat→Nat→Bool)(ns:List ByteArray)(s:BS)(h:TH)(f:Ft):(Int×Int)×BS:=(if h.kind=9∧(finS ns h.name).2=false then(15,h.nat)else wordsF nm F f,s)
def GoodK(h:TH)(f:Ft):Prop:=okT h f∧GoodT h f
theorem isF_words:IsF 203:=by
 intro args w;unfold callFunc;simp [go_sem,Tryz.func203];rfl
theorem words_calls{nm:List ByteArray}{F:Nat→Nat→Bool}{ns:List ByteArray}(hL:LatP w0 lv nm F)(hT:RdT w0 tab ns)(hns:ns.length≤1000000)(hlow:w0.heap.size≤base):OpQ GoodK (BF base B lv tv tab rh rnv rpv) w0 203 (.pointer (some ⟨B,0,none⟩)) (wordsS nm F ns):=by
 intro s h f nv' pv' w hI hb hy hg R hR;obtain⟨An,cn,rfl,-,-⟩:=hy.n.op;obtain⟨Ap,cp,rfl,-⟩:=hy.p.sl;have m0:=Hq.nil hI;obtain⟨V1,e1,m1,z1⟩:=m0.new (.cells (tyL h (.slice An h.names.length cn) (.slice Ap f.len cp)).toArray 36);obtain⟨V,e2,n,z2⟩:=m1.new (.cells #[.int .i64 0,.int .i64 0] 26);clear m0 m1 z1 z2;go_enter Tryz.func203,Tryz.ntmps203
 go_upto_region 1 with fail
 clear e1 e2;obtain⟨ok,gh,hfl,hga⟩:=hg;replace hfl:f.len≤9223372036854775807:=hfl;have hlo:=bF_low base B lv tv tab rh rnv rpv hlow;have t0:=n.c 1 0 rfl rfl;replace hga:=Lib.hid hga;replace ok:=Lib.hid ok;go_upto_if 15 with fail
 generalize hq0:(h.kind==9)=Q0;replace hq0:=Lib.hid hq0;go_cut [5,6]from 16 to 31 (fun s5 s6 wx=>Hid (Hq (BF base B lv tv tab rh rnv rpv) s s w wx [(V1.heap.size,.cells #[.int .i64 0,.int .i64 0] 26),(w.heap.size,.cells (tyL h (.slice An h.names.length cn) (.slice Ap f.len cp)).toArray 36)])∧Hid (wordsS nm F ns s h f=(wordsF nm F f,s)))
 case first =>
  cases Q0
  ·have hk:¬h.kind=9:=by simpa using hq0.out
   have e:wordsS nm F ns s h f=(wordsF nm F f,s):=by unfold wordsS;rw [if_neg fun q=>hk q.1]
   clear hR hk hq0;go_wp2_with fail
   go_meet
   case rel=>exact⟨Lib.hid n,Lib.hid e⟩
  ·have hk:=Lib.hid (show h.kind=9 by simpa using hq0.out)
   go_upto_region 2 with fail
   have hbV:=hb.trans (n.below hb.size (hlo s));have p7:=fun y:BW V=>y.cell (n.lt 1 rfl) (n.c 1 7 rfl rfl)
   have b11:=fun y:BW V=>y.cell n.bl_ (n.bc 11 rfl)
   clear t0 hq0;refine wp_region_tr (.one [0,1,2,3,4,5,6] 7 (.last [8,9,10,11])) 12 (by kernel_rfl) (by kernel_rfl) (by kernel_rfl) (by kernel_rfl) (by decide) (fun _ _ d _ _ h=>by cases d<;>exact h) ?_
   have gW:Below V.heap.size V (V.drewN 1):=below_drewN (Below.refl _ _) 1;refine tr_one (os:=[_,_,_,_,_,_,_]) (by simp only[pickO,List.filterMap_cons,List.filterMap_nil,List.getElem?_toArray,List.getElem?_cons_succ,List.getElem?_cons_zero];rfl) (fun Kp hKp=>?_)
   repeat (go_big_quiet_step (exact rfl))
   refine wpQuiet_nil ?_;refine hKp _ ?_;clear hKp;refine loudr (by rfl) (by kernel_rfl) (fun K1 hK1=>?_);go_simp;refine find_calls ns h.name tab _ hns (hT.below (hbV.trans (gW.mono hbV.size))) _ (Lib.hid fun nq=>?_);have gL:=gW.trans (below_drewN (Below.refl (V.drewN 1).heap.size _) nq);refine hK1 _ _ (BW.of gL) ?_;clear hK1;refine tr_last (os:=[_,_,_,_]) (by simp only[pickO,List.filterMap_cons,List.filterMap_nil,List.getElem?_toArray,List.getElem?_cons_succ,List.getElem?_cons_zero];rfl) (fun Kp hKp=>?_)
   repeat (go_big_quiet_step (exact rfl))
   refine wpQuiet_nil ?_;refine hKp _ ?_;clear hKp;replace n:=n.bl (show Below V.heap.size V (V.drewN (1+nq))from below_drewN (Below.refl _ _) _);refine loudl (by rfl) (by kernel_rfl) ?_;go_simp;clear p7 b11;clear gL gW hbV;generalize V.drewN (1+nq)=V2 at *;cases hf:(finS ns h.name).2
   ·have e:wordsS nm F ns s h f=((15,h.nat),s):=by unfold wordsS;rw [if_pos ⟨hk.out,hf⟩]
    rw [e]at hR;clear e hf hk;have t7:=n.c 1 7 rfl rfl;have t8:=n.c 1 8 rfl rfl;go_upto_region 4 with fail
    go_wp2_with fail
    refine fault18_calls h.name h.nat 15 _ _ (Lib.hid fun W3 m3=>?_);replace n:=n.bl m3;clear t7 t8 m3;have y0:=n.c 0 0 rfl rfl;have yf0:=n.f 0 0 rfl;have y1:=n.c 0 1 rfl rfl;have yf1:=n.f 0 1 rfl;obtain⟨VE,eE,nE,-⟩:=n.put (j:=0) rfl [(0,.int .i64 15),(1,.int .i64 h.nat)];simp only[stL]at eE;simp only[stA,List.setIfInBounds_toArray,List.set_cons_succ,List.set_cons_zero]at nE;have w0_:=nE.c 0 0 rfl rfl;have w1_:=nE.c 0 1 rfl rfl;have fin:=Lib.hid (hR.out _ nE.fin);clear nE n hR;go_wp2_with fail
    first|refine bodyPost_ret ?_ rfl fin.out|refine bodyPost_end ?_ rfl fin.out
    simp [results,Tryz.results203,go_sem,w0_,w1_]
   ·have e:wordsS nm F ns s h f=(wordsF nm F f,s):=by unfold wordsS;rw [if_neg fun q=>by rw [hf]at q;exact absurd q.2 (by decide)]
    clear hR hf hk;go_wp2_with fail
    go_meet
    case rel=>exact⟨Lib.hid n,Lib.hid e⟩
 case rest =>
  clear n t0;obtain⟨n,e⟩:=hcut;replace n:=n.out;rw [e.out]at hR;clear e;obtain⟨V2,rfl⟩:∃V,V=wc:=⟨_,rfl⟩;have t6:=n.c 1 6 rfl rfl;go_wp2_with fail
  clear t6;go_loopg [35] f.len (fun g0 i wr=>∃(K:Nat),i=.int .i64 K∧K+g0=f.len∧Hid (wordsF nm F f=wordsF nm F (f.drop K))∧Hid (Hq (BF base B lv tv tab rh rnv rpv) s s w wr [(V1.heap.size,.cells #[.int .i64 0,.int .i64 0] 26),(w.heap.size,.cells (tyL h (.slice An h.names.length cn) (.slice Ap f.len cp)).toArray 36)]))
  case atStart=>exact⟨0,rfl,by omega,Lib.hid rfl,Lib.hid n⟩
  case round =>
   clear n;obtain⟨K,rfl,e1,e2,n⟩:=hrel;replace n:=n.out;have hbW:=hb.trans (n.below hb.size (hlo s))
   by_cases hK:K<f.len
   ·obtain⟨p,x,kd,r,e⟩:=Fo.drop_lt hK
    obtain⟨g,o,A1,n1,A2,n2,A5,n5,A7,n7,rfl,hlv,hcv,-,hrg⟩:=part_el hy e;obtain⟨gp,-,-,-⟩:=all_at K hga.out e;obtain⟨l1,l2,-⟩:=ok_lab ok.out e;have d1:=Fo.drop_succ K e;replace e2:=e2.out;rw [e]at e2;replace e2:wordsF nm F f=if(lof nm F p.label).2.1≠0 then(lof nm F p.label).2 else if(lof nm F p.cl).2.1≠0 then(lof nm F p.cl).2 else wordsF nm F r:=e2;rw [←d1]at e2;have i0:(0:Int)≤(K:Int):=by omega
    have i1:(K:Int)<(f.len:Int):=by omega
    have rg:=hrg wr hbW;clear hrg e d1 hbW;obtain⟨V3,e3,n,z3⟩:=n.new (.cells (ptL p x (.slice A1 p.label.length n1) (.slice A2 p.cl.length n2) (.slice A5 x.names.length n5) (.slice A7 kd.len n7)).toArray 127);go_upto_region 8 with(first|(refine wpList_load_g (by rfl) 127 _ rfl g (o+K*18) rfl _ _ rg Tryz.underlying127 rfl (by kernel_rfl) ?_;go_simp)|(refine wpList_copy (ptL p x (.slice A1 p.label.length n1) (.slice A2 p.cl.length n2) (.slice A5 x.names.length n5) (.slice A7 kd.len n7)).toArray ⟨rfl,rfl,rfl⟩ ⟨rfl,rfl,rfl⟩ part_alloc (by kernel_rfl) ⟨rfl,by simp [Value.oneCell']⟩ (fun _=>⟨rfl,rfl⟩) ?_;go_simp))
    clear e3 z3 rg;have hbV:=hb.trans (n.below hb.size (hlo s));have p3:=fun y:BW V3=>y.cell (n.lt 0 rfl) (n.c 0 3 rfl rfl)
    have b0:=fun y:BW V3=>y.cell n.bl_ (n.bc 0 rfl)
    have cL:=Lib.hid fun(W:World) (m:Below V3.heap.size V3 W) R hR=>lof_calls nm F lv W (hL.below (hbV.trans (m.mono hbV.size))) p.label _ (hlv.below (hbV.trans (m.mono hbV.size))) gp.2.2.1 (by omega) R hR
    generalize lof nm F p.label=a at *;obtain⟨a0,a1,a2⟩:=a;simp only at e2;go_cut [9,10]from 39 to 48 (fun s9 s10 wx=>∃(T:Nat),s9=.int .i64 a0∧s10=.pointer (some ⟨T,0,none⟩)∧Hid (Hq (BF base B lv tv tab rh rnv rpv) s s w wx ((T,.cells #[.int .i64 a1,.int .i64 a2] 26)::(wr.heap.size,.cells (ptL p x (.slice A1 p.label.length n1) (.slice A2 p.cl.length n2) (.slice A5 x.names.length n5) (.slice A7 kd.len n7)).toArray 127)::[(V1.heap.size,.cells #[.int .i64 0,.int .i64 0] 26),(w.heap.size,.cells (tyL h (.slice An h.names.length cn) (.slice (some ⟨g,o,none⟩) f.len cp)).toArray 36)])))
    case first =>
     refine wp_region_tr (.two [0,1,2,3,4,5] 6 (.one [7,8,9] 10 (.last [11])) 10 (.one [] 6 (.last [7,8,9,11]))) 12 (by kernel_rfl) (by kernel_rfl) (by kernel_rfl) (by kernel_rfl) (by decide) (fun _ _ d _ _ h=>by cases d<;>exact h) ?_
     have gW:Below V3.heap.size V3 (V3.drewN 1):=below_drewN (Below.refl _ _) 1;refine tr_two (os:=[_,_,_,_,_,_]) (by simp only[pickO,List.filterMap_cons,List.filterMap_nil,List.getElem?_toArray,List.getElem?_cons_succ,List.getElem?_cons_zero];rfl) (fun Kp hKp=>?_)
     repeat (go_big_quiet_step (exact rfl))
     refine wpQuiet_nil ?_;refine hKp _ ?_ ?_
     ·clear hKp
      refine loudr (by rfl) (by kernel_rfl) (fun K1 hK1=>?_);go_simp;refine cL.out _ gW _ (Lib.hid fun W4 m4=>?_);have gL:=gW.trans (m4.mono gW.size);refine hK1 _ _ (BW.of gL) ?_;clear hK1;refine tr_one (os:=[_,_,_]) (by simp only[pickO,List.filterMap_cons,List.filterMap_nil,List.getElem?_toArray,List.getElem?_cons_succ,List.getElem?_cons_zero];rfl) (fun Kp hKp=>?_)
      repeat (go_big_quiet_step (exact rfl))
      refine wpQuiet_nil ?_;refine hKp _ ?_;clear hKp;have n4:=n.bl gL;obtain⟨V5,e5,n5_,z5⟩:=n4.new (.cells #[.int .i64 a1,.int .i64 a2] 26);refine loudr (by rfl) (by kernel_rfl) (fun K2 hK2=>?_);go_simp;refine hK2 _ _ (BW.of (gL.alloc gL.size _)) ?_;clear hK2;refine tr_last (os:=[_]) (by simp only[pickO,List.filterMap_cons,List.filterMap_nil,List.getElem?_toArray,List.getElem?_cons_succ,List.getElem?_cons_zero];rfl) (fun Kp hKp=>?_)
      repeat (go_big_quiet_step (exact rfl))
      refine wpQuiet_nil ?_;refine hKp _ ?_;clear hKp;refine loudl (by rfl) (by kernel_rfl) ?_;go_simp;go_step;go_meet
      case rel=>exact⟨_,rfl,rfl,Lib.hid n5_⟩
     ·clear hKp
      have n4:=n.bl gW;obtain⟨V4,e4,n4,z4⟩:=n4.new (.cells #[.int .i64 0,.int .i64 0] 26);rw [show(V3.drewN 1).heap.size=V3.heap.size from rfl]at n4;have gL:Below V3.heap.size V3 V4:=e4▸gW.alloc gW.size _;refine loudr (by rfl) (by kernel_rfl) (fun K2 hK2=>?_);go_simp;refine hK2 _ _ (BW.of gL) ?_;clear hK2;refine tr_one (os:=[]) (by rfl) (fun Kp hKp=>?_);refine wpQuiet_nil ?_;refine hKp _ ?_;clear hKp;refine loudr (by rfl) (by kernel_rfl) (fun K1 hK1=>?_);go_simp;refine cL.out _ gL _ (Lib.hid fun W5 m5=>?_);have gM:=gL.trans (m5.mono gL.size);refine hK1 _ _ (BW.of gM) ?_;clear hK1;refine tr_last (os:=[_,_,_,_]) (by simp only[pickO,List.filterMap_cons,List.filterMap_nil,List.getElem?_toArray,List.getElem?_cons_succ,List.getElem?_cons_zero];rfl) (fun Kp hKp=>?_)
      repeat (go_big_quiet_step (exact rfl))
      refine wpQuiet_nil ?_;refine hKp _ ?_;clear hKp e4;have n5:=n4.bl m5;have y0:=n5.c 0 0 rfl rfl;have yf0:=n5.f 0 0 rfl;have y1:=n5.c 0 1 rfl rfl;have yf1:=n5.f 0 1 rfl;obtain⟨V6,e6,n6,-⟩:=n5.put (j:=0) rfl [(0,.int .i64 a1),(1,.int .i64 a2)];simp only[stL]at e6;simp only[stA,List.setIfInBounds_toArray,List.set_cons_succ,List.set_cons_zero]at n6;refine loudl (by rfl) (by kernel_rfl) ?_;go_simp;go_step;go_meet
      case rel=>exact⟨_,rfl,rfl,Lib.hid n6⟩
    case rest =>
     clear n p3 b0 cL;obtain⟨T,rfl,rfl,n⟩:=hcut;replace n:=n.out;have f0:=n.c 0 0 rfl rfl
     by_cases ha:a1=0
     ·subst ha
      rw [if_neg (by decide)]at e2;go_upto_region 11 with fail
      clear f0;replace n:=n.tail;obtain⟨V9,rfl⟩:∃V,V=wc:=⟨_,rfl⟩;have hbV:=hb.trans (n.below hb.size (hlo s));have p8:=fun y:BW V9=>y.cell (n.lt 0 rfl) (n.c 0 8 rfl rfl)
      have b0:=fun y:BW V9=>y.cell n.bl_ (n.bc 0 rfl)
      have cL:=Lib.hid fun(W:World) (m:Below V9.heap.size V9 W) R hR=>lof_calls nm F lv W (hL.below (hbV.trans (m.mono hbV.size))) p.cl _ (hcv.below (hbV.trans (m.mono hbV.size))) gp.2.2.2.2.2.2.2.1 (by omega) R hR
      generalize lof nm F p.cl=b at *;obtain⟨b0_,b1_,b2_⟩:=b;simp only at e2;go_cut [11,12]from 53 to 63 (fun s9 s10 wx=>∃(T:Nat),s9=.int .i64 b0_∧s10=.pointer (some ⟨T,0,none⟩)∧Hid (Hq (BF base B lv tv tab rh rnv rpv) s s w wx ((T,.cells #[.int .i64 b1_,.int .i64 b2_] 26)::(wr.heap.size,.cells (ptL p x (.slice A1 p.label.length n1) (.slice A2 p.cl.length n2) (.slice A5 x.names.length n5) (.slice A7 kd.len n7)).toArray 127)::[(V1.heap.size,.cells #[.int .i64 0,.int .i64 0] 26),(w.heap.size,.cells (tyL h (.slice An h.names.length cn) (.slice (some ⟨g,o,none⟩) f.len cp)).toArray 36)])))
      case first =>
       refine wp_region_tr (.two [0,1,2,3,4,5,6] 7 (.one [8,9,10] 11 (.last [12])) 11 (.one [] 7 (.last [8,9,10,12]))) 13 (by kernel_rfl) (by kernel_rfl) (by kernel_rfl) (by kernel_rfl) (by decide) (fun _ _ d _ _ h=>by cases d<;>exact h) ?_
       have gW:Below V9.heap.size V9 (V9.drewN 1):=below_drewN (Below.refl _ _) 1;refine tr_two (os:=[_,_,_,_,_,_,_]) (by simp only[pickO,List.filterMap_cons,List.filterMap_nil,List.getElem?_toArray,List.getElem?_cons_succ,List.getElem?_cons_zero];rfl) (fun Kp hKp=>?_)
       repeat (go_big_quiet_step (exact rfl))
       refine wpQuiet_nil ?_;refine hKp _ ?_ ?_
       ·clear hKp
        refine loudr (by rfl) (by kernel_rfl) (fun K1 hK1=>?_);go_simp;refine cL.out _ gW _ (Lib.hid fun W4 m4=>?_);have gL:=gW.trans (m4.mono gW.size);refine hK1 _ _ (BW.of gL) ?_;clear hK1;refine tr_one (os:=[_,_,_]) (by simp only[pickO,List.filterMap_cons,List.filterMap_nil,List.getElem?_toArray,List.getElem?_cons_succ,List.getElem?_cons_zero];rfl) (fun Kp hKp=>?_)
        repeat (go_big_quiet_step (exact rfl))
        refine wpQuiet_nil ?_;refine hKp _ ?_;clear hKp;have n4:=n.bl gL;obtain⟨V5,e5,n5_,z5⟩:=n4.new (.cells #[.int .i64 b1_,.int .i64 b2_] 26);refine loudr (by rfl) (by kernel_rfl) (fun K2 hK2=>?_);go_simp;refine hK2 _ _ (BW.of (gL.alloc gL.size _)) ?_;clear hK2;refine tr_last (os:=[_]) (by simp only[pickO,List.filterMap_cons,List.filterMap_nil,List.getElem?_toArray,List.getElem?_cons_succ,List.getElem?_cons_zero];rfl) (fun Kp hKp=>?_)
        repeat (go_big_quiet_step (exact rfl))
        refine wpQuiet_nil ?_;refine hKp _ ?_;clear hKp;refine loudl (by rfl) (by kernel_rfl) ?_;go_simp;go_step;go_meet
        case rel=>exact⟨_,rfl,rfl,Lib.hid n5_⟩
       ·clear hKp
        have n4:=n.bl gW;obtain⟨V4,e4,n4,z4⟩:=n4.new (.cells #[.int .i64 0,.int .i64 0] 26);rw [show(V9.drewN 1).heap.size=V9.heap.size from rfl]at n4;have gL:Below V9.heap.size V9 V4:=e4▸gW.alloc gW.size _;refine loudr (by rfl) (by kernel_rfl) (fun K2 hK2=>?_);go_simp;refine hK2 _ _ (BW.of gL) ?_;clear hK2;refine tr_one (os:=[]) (by rfl) (fun Kp hKp=>?_);refine wpQuiet_nil ?_;refine hKp _ ?_;clear hKp;refine loudr (by rfl) (by kernel_rfl) (fun K1 hK1=>?_);go_simp;refine cL.out _ gL _ (Lib.hid fun W5 m5=>?_);have gM:=gL.trans (m5.mono gL.size);refine hK1 _ _ (BW.of gM) ?_;clear hK1;refine tr_last (os:=[_,_,_,_]) (by simp only[pickO,List.filterMap_cons,List.filterMap_nil,List.getElem?_toArray,List.getElem?_cons_succ,List.getElem?_cons_zero];rfl) (fun Kp hKp=>?_)
        repeat (go_big_quiet_step (exact rfl))
        refine wpQuiet_nil ?_;refine hKp _ ?_;clear hKp e4;have n5:=n4.bl m5;have y0:=n5.c 0 0 rfl rfl;have yf0:=n5.f 0 0 rfl;have y1:=n5.c 0 1 rfl rfl;have yf1:=n5.f 0 1 rfl;obtain⟨V6,e6,n6,-⟩:=n5.put (j:=0) rfl [(0,.int .i64 b1_),(1,.int .i64 b2_)];simp only[stL]at e6;simp only[stA,List.setIfInBounds_toArray,List.set_cons_succ,List.set_cons_zero]at n6;refine loudl (by rfl) (by kernel_rfl) ?_;go_simp;go_step;go_meet
        case rel=>exact⟨_,rfl,rfl,Lib.hid n6⟩
      case rest =>
       clear n p8 b0 cL;obtain⟨T,rfl,rfl,n⟩:=hcut;replace n:=n.out;have f0:=n.c 0 0 rfl rfl
       by_cases hb1:b1_=0
       ·subst hb1
        rw [if_neg (by decide)]at e2;replace n:=Lib.hid n.tail.tail;replace e2:=Lib.hid e2;clear hR;go_wp2_with fail
        go_roundg (gk-1)
        case measure=>omega
        case rel=>exact⟨K+1,by go_num,by omega,e2,n⟩
       ·rw [if_pos hb1]at e2
        rw [e2]at hR;have q1:(b1_ != 0)=true:=by simpa using hb1
        have f1:=n.c 0 1 rfl rfl;clear hb1 e2;go_upto_region 13 with fail
        have y0:=n.c 2 0 rfl rfl;have yf0:=n.f 2 0 rfl;have y1:=n.c 2 1 rfl rfl;have yf1:=n.f 2 1 rfl;obtain⟨VE,eE,nE,-⟩:=n.put (j:=2) rfl [(0,.int .i64 b1_),(1,.int .i64 b2_)];simp only[stL]at eE;simp only[stA,List.setIfInBounds_toArray,List.set_cons_succ,List.set_cons_zero]at nE;have w0_:=nE.c 2 0 rfl rfl;have w1_:=nE.c 2 1 rfl rfl;have fin:=Lib.hid (hR.out _ nE.fin);clear nE n hR;go_wp2_with fail
        first|refine bodyPost_ret ?_ rfl fin.out|refine bodyPost_end ?_ rfl fin.out
        simp [results,Tryz.results203,go_sem,w0_,w1_]
     ·rw [if_pos ha]at e2
      rw [e2]at hR;have q1:(a1 != 0)=true:=by simpa using ha
      have f1:=n.c 0 1 rfl rfl;clear ha e2;go_upto_region 10 with fail
      have y0:=n.c 2 0 rfl rfl;have yf0:=n.f 2 0 rfl;have y1:=n.c 2 1 rfl rfl;have yf1:=n.f 2 1 rfl;obtain⟨VE,eE,nE,-⟩:=n.put (j:=2) rfl [(0,.int .i64 a1),(1,.int .i64 a2)];simp only[stL]at eE;simp only[stA,List.setIfInBounds_toArray,List.set_cons_succ,List.set_cons_zero]at nE;have w0_:=nE.c 2 0 rfl rfl;have w1_:=nE.c 2 1 rfl rfl;have fin:=Lib.hid (hR.out _ nE.fin);clear nE n hR;go_wp2_with fail
      first|refine bodyPost_ret ?_ rfl fin.out|refine bodyPost_end ?_ rfl fin.out
      simp [results,Tryz.results203,go_sem,w0_,w1_]
   ·obtain rfl:K=f.len:=by omega
    replace e2:=e2.out;rw [Fo.drop_all (Nat.le_refl _)]at e2;replace e2:wordsF nm F f=(0,0):=e2;rw [e2]at hR;clear e2;have y0:=n.c 0 0 rfl rfl;have yf0:=n.f 0 0 rfl;have y1:=n.c 0 1 rfl rfl;have yf1:=n.f 0 1 rfl;obtain⟨VE,eE,nE,-⟩:=n.put (j:=0) rfl [(0,.int .i64 0),(1,.int .i64 0)];simp only[stL]at eE;simp only[stA,List.setIfInBounds_toArray,List.set_cons_succ,List.set_cons_zero]at nE;have w0_:=nE.c 0 0 rfl rfl;have w1_:=nE.c 0 1 rfl rfl;have fin:=Lib.hid (hR.out _ nE.fin);clear nE n hR;go_wp2_with fail
    first|refine bodyPost_ret ?_ rfl fin.out|refine bodyPost_end ?_ rfl fin.out
    simp [results,Tryz.results203,go_sem,w0_,w1_]
end
end Res
end Go.Proofs.YtabhkakomececaaGreat
