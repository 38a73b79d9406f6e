import Derived.Test.YtncckdaflellnaaGreatQ43
import Derived.Test.YtncckdaflellnaaGreatQ20
import Derived.Test.YtncckdaflellnaaGreatQ32
import Derived.Test.YtncckdaflellnaaGreatQ29
set_option linter.all false
set_option maxRecDepth 100000
set_option maxHeartbeats 4000000
namespace Go.Proofs.YtncckdaflellnaaGreat
namespace Inh
open Go.RowKit Go.Lib Res Nam Kin
def fz:List Int→Int→Int
| [],_=>-1
| a::l,i=>if a=0 then i else fz l (i+1)
theorem fz_cases:∀(D:List Int)(i:Nat),(fz D (i:Int)=-1∧∀a∈D,a≠0)∨∃j:Nat,fz D (i:Int)=((i+j:Nat):Int)∧j<D.length∧D[j]?=some 0∧∀k,k<j→D[k]?≠some 0
| [],i=>.inl ⟨rfl,by simp⟩
| a::l,i=>by
 have e:fz (a::l) (i:Int)=if a=0 then(i:Int)else fz l ((i:Int)+1):=rfl;rw [e]
 by_cases h:a=0
 ·rw [if_pos h]
  exact .inr ⟨0,by simp,by simp,by simp [h],fun k hk=>by omega⟩
 ·rw [if_neg h,show((i:Int)+1)=((i+1:Nat):Int)by omega]
  rcases fz_cases l (i+1)with⟨h1,h2⟩|⟨j,h1,h2,h3,h4⟩
  ·exact .inl ⟨h1,fun b hb=>by rcases List.mem_cons.1 hb with rfl|hb;exact h;exact h2 b hb⟩
  ·refine .inr ⟨j+1,by rw [h1];omega,by simpa using h2,by simpa using h3,fun k hk=>?_⟩
   cases k with
   | zero=>simpa using h
   | succ k=>simpa using h4 k (by omega)
theorem idx_calls(D:List Int)(dv:Value)(w:World)(hd:RdAt w dv 1 (ints D))(hm:D.length≤1000000)(R:Ending→World→Prop)
  (hR:Hid (R (.returned (.int .i64 (fz D 0))) w)):Calls Tryz.prog 79 #[dv,.int .i64 0] w R:=by
 obtain⟨A,c,rfl,-,hA⟩:=ints_open hd;replace hA:=Lib.hid hA;clear hd;go_enter Tryz.func79,Tryz.ntmps79
 go_wp2_with fail
 go_loopg [8] D.length (fun g i wr=>∃(K:Nat),i=.int .i64 K∧K+g=D.length∧wr=w∧Hid (fz D 0=fz (D.drop K) K))
 case atStart=>exact⟨0,rfl,by omega,rfl,Lib.hid rfl⟩
 case round =>
  obtain⟨K,rfl,e1,rfl,e3⟩:=hrel
  by_cases hK:K<D.length
  ·obtain⟨g,o,rfl,hg,hc⟩:=hA.out (by omega)
   have x1:=hc K hK;have i0:(0:Int)≤(K:Int):=by omega
   have i1:(K:Int)<(D.length:Int):=by omega
   have e4:=e3.out;rw [List.drop_eq_getElem_cons hK]at e4;replace e4:fz D 0=if D[K]=0 then(K:Int)else fz (D.drop (K+1)) ((K:Int)+1):=e4;have ea:atD D (K:Int)=D[K]:=by rw [atD_get,List.getD_eq_getElem?_getD,List.getElem?_eq_getElem hK];rfl
   rw [ea]at x1;clear e3 hc ea;generalize D[K]=a at *
   by_cases h:a=0
   ·subst h
    rw [if_pos rfl]at e4;rw [e4]at hR;clear e4;go_wp2_with fail
    exact hR.out
   ·rw [if_neg h]at e4
    have t1:((0:Int)==a)=false:=by simpa using fun q:0=a=>h q.symm
    have e5:=Lib.hid (show fz D 0=fz (D.drop (K+1)) ((K+1:Nat):Int)from e4);clear e4 h;go_wp2_with fail
    go_roundg (gk-1)
    case measure=>omega
    case rel=>exact⟨K+1,by go_num,by omega,rfl,e5⟩
  ·obtain rfl:K=D.length:=by omega
   have e4:=e3.out;rw [List.drop_length]at e4;replace e4:fz D 0=-1:=e4;rw [e4]at hR;clear e4 e3;go_wp2_with fail
   exact hR.out
def ckS(ns:List NdR):Int×Int:=if fz (depL ns) 0<0 then(0,0)else(11,((ns[(fz (depL ns) 0).toNat]?).map (·.at_)).getD 0)
theorem check19nil_calls(w:World)(R:Ending→World→Prop)(hR:Hid (∀W,Below w.heap.size w W→R (.returned (.agg #[.int .i64 1,.int .i64 0])) W)):Calls Tryz.prog 35 #[.pointer none] w R:=by
 have m0:=F0.z w;obtain⟨V,e1,n,z1⟩:=m0.new (.cells #[.int .i64 0,.int .i64 0] 34);have hG:=n.b 0 rfl;obtain⟨V2,e2,n2⟩:=n.row (j:=0) rfl #[.int .i64 1,.int .i64 0];have w0_:=n2.c 0 0 rfl rfl;have w1_:=n2.c 0 1 rfl rfl;have fin:=Lib.hid (hR.out V2 (F0.bel n2));clear n n2 m0 hR z1;go_enter Tryz.func35,Tryz.ntmps35
 go_upto_region 1 with fail
 clear e1;go_wp2_with (refine wpList_store_row (by rfl) 34 _ _ (by rfl) w.heap.size #[.int .i64 1,.int .i64 0] (by rfl) (by rfl) 34 _ hG (by kernel_rfl) rfl (by simp [Value.oneCell']) ?_;refine cast_w e2 ?_;go_simp)
 first|refine bodyPost_ret ?_ rfl fin.out|refine bodyPost_end ?_ rfl fin.out
 simp [results,Tryz.results35,go_sem,w0_,w1_]
theorem check19_calls{w:World}{v:Value}{nm:List ByteArray}{F:Nat→Nat→Bool}{ns:List ByteArray}{x:List NdR×Int×List Int}(h:PlanP w v nm F ns x)(hg:GoodL x.1)(hin:NdIn x.1.length x.1)(hlen:x.1.length≤40000)(R:Ending→World→Prop)
  (hR:Hid (∀W,Below w.heap.size w W→R (.returned (.agg #[.int .i64 (ckS x.1).1,.int .i64 (ckS x.1).2])) W)):Calls Tryz.prog 35 #[v] w R:=by
 have hb1:∀y∈x.1,y.names.length≤1000000∧y.edges.length≤1000000:=fun y hy=>⟨Nat.le_trans (hg y hy).ln (by decide),Nat.le_trans (hg y hy).le (by decide)⟩
 obtain⟨P,hv⟩:∃P,v=.pointer (some ⟨P,0,none⟩):=by
  obtain⟨P,_,_,_,_,_,e,-⟩:=h;exact⟨P,e⟩
 subst hv;have n:=F0.z w;obtain⟨V,e1,n,z1⟩:=n.new (.cells #[.int .i64 0,.int .i64 0] 34);have hV:=Lib.hid (h.below (F0.bel n));clear h z1;replace hg:=Lib.hid hg;replace hin:=Lib.hid hin;go_enter Tryz.func35,Tryz.ntmps35
 go_upto_region 1 with fail
 clear e1;go_wp2_with fail
 refine depths_calls hV.out hg.out hin.out hlen _ (Lib.hid fun W2 dv rD m2=>?_);replace n:=n.bl m2;have hl:(depL x.1).length=x.1.length:=itr_len _ _ _;have cI:=Lib.hid fun R hR=>idx_calls (depL x.1) dv W2 rD (by omega) R hR
 have hc:=fz_cases (depL x.1) 0;unfold ckS at hR;have hW:=Lib.hid (hV.out.below m2);clear rD hV;go_wp2_with fail
 refine cI.out _ (Lib.hid ?_);clear cI;rw [show(((0:Nat):Int))=0 from rfl]at hc;rcases hc with⟨h1,-⟩|⟨j,h1,h2,-⟩
 ·rw [h1]at hR ⊢
  rw [if_pos (by decide)]at hR;have hG:=n.b 0 rfl;obtain⟨V2,e2,n2⟩:=n.row (j:=0) rfl #[.int .i64 0,.int .i64 0];have w0_:=n2.c 0 0 rfl rfl;have w1_:=n2.c 0 1 rfl rfl;have fin:=Lib.hid (hR.out V2 (F0.bel n2));clear n n2 hR h1 hl hb1;go_wp2_with (refine wpList_store_row (by rfl) 34 _ _ (by rfl) w.heap.size #[.int .i64 0,.int .i64 0] (by rfl) (by rfl) 34 _ hG (by kernel_rfl) rfl (by simp [Value.oneCell']) ?_;refine cast_w e2 ?_;go_simp)
  first|refine bodyPost_ret ?_ rfl fin.out|refine bodyPost_end ?_ rfl fin.out
  simp [results,Tryz.results35,go_sem,w0_,w1_]
 ·rw [Nat.zero_add]at h1
  have hj:j<x.1.length:=by omega
  rw [h1]at hR ⊢;rw [if_neg (by omega),Int.toNat_natCast,List.getElem?_eq_getElem hj]at hR;have q0:¬(j:Int)<0:=by omega
  have nodc:=Lib.hid fun R hR=>pnode_calls hW.out hb1 j hj R hR
  clear h1 hl hb1 h2;go_wp2_with fail
  refine nodc.out _ (Lib.hid fun W3 nv ev y hy rS rE m3=>?_);rw [List.getElem?_eq_getElem hj,Option.some.injEq]at hy;rw [hy]at hR;clear nodc hy;obtain⟨A5,c5,rfl,-⟩:=rS.open;obtain⟨A6,c6,rfl,-⟩:=ed_el rE;clear rS rE;obtain⟨y0,y1,y2,y3,y4,yn,ye⟩:=y;replace hR:Hid (∀W,Below w.heap.size w W→R (.returned (.agg #[.int .i64 11,.int .i64 y1])) W):=hR;replace n:=n.bl m3;obtain⟨V4,e4,n,z4⟩:=n.new (.cells #[.int .i64 y0,.int .i64 y1,.int .i64 y2,.int .i64 y3,.int .i64 y4,.slice A5 yn.length c5,.slice A6 ye.length c6] 74);have t1:=n.c 0 1 rfl rfl;have hG:=n.b 1 rfl;obtain⟨V5,e5,n5⟩:=n.row (j:=1) rfl #[.int .i64 11,.int .i64 y1];have w0_:=n5.c 1 0 rfl rfl;have w1_:=n5.c 1 1 rfl rfl;have fin:=Lib.hid (hR.out V5 (F0.bel n5));clear n n5 hR z4;go_upto_region 7 with(refine wpList_copy #[.int .i64 y0,.int .i64 y1,.int .i64 y2,.int .i64 y3,.int .i64 y4,.slice A5 yn.length c5,.slice A6 ye.length c6] ⟨rfl,rfl,rfl⟩ ⟨rfl,rfl,rfl⟩ node_alloc19 (by kernel_rfl) ⟨rfl,by simp [Value.oneCell']⟩ (fun _=>⟨rfl,rfl⟩) ?_;go_simp)
  clear e4;go_wp2_with (refine wpList_store_row (by rfl) 34 _ _ (by rfl) w.heap.size #[.int .i64 11,.int .i64 y1] (by rfl) (by rfl) 34 _ hG (by kernel_rfl) rfl (by simp [Value.oneCell']) ?_;refine cast_w e5 ?_;go_simp)
  first|refine bodyPost_ret ?_ rfl fin.out|refine bodyPost_end ?_ rfl fin.out
  simp [results,Tryz.results35,go_sem,w0_,w1_]
end Inh
namespace Lab
open Go.RowKit Go.Lib Rel Nam Lat Go.ChangeShapes Go.WideShapes
theorem refsame12_calls(xs ys:List Int)(va vb:Value)(w:World)(hx:RdZ w va xs)(hy:RdZ w vb ys)(hxl:xs.length≤1000000)(hyl:ys.length≤1000000)(R:Ending→World→Prop)
  (hR:Hid (∀w',Below w.heap.size w w'→R (.returned (.bool (decide (xs=ys)))) w')):Calls Tryz.prog 30 #[va,vb] w R:=by
 obtain⟨A,c,rfl,-,hr⟩:=hx.op;obtain⟨B,d,rfl,-,hs⟩:=hy.op;replace hr:=Lib.hid hr;replace hs:=Lib.hid hs;clear hx hy
 by_cases hl:xs.length=ys.length
 ·have q0:((xs.length:Int) != (ys.length:Int))=false:=by rw [hl];simp
  obtain⟨m,hm⟩:∃m,m=ys.length:=⟨_,rfl⟩;rw [←hm]at hl q0 hyl hs;have hlx:Hid (xs.length=m):=Lib.hid hl;rw [hl]at q0 hr hxl;have hym:Hid (m=ys.length):=Lib.hid hm;rw [show(.slice A xs.length c:Value)=.slice A m c by rw [hl],show(.slice B ys.length d:Value)=.slice B m d by rw [hm]];clear hl hm;go_enter Tryz.func30,Tryz.ntmps30
  go_wp2_with fail
  go_loopg [5] m (fun g i wr=>∃(K:Nat),i=.int .i64 K∧K+g=m∧Hid (Below w.heap.size w wr)∧Hid (∀j,j<K→zN xs j=zN ys j))
  case atStart=>exact⟨0,rfl,by omega,Lib.hid (Below.refl _ _),Lib.hid fun j h=>by omega⟩
  case round =>
   obtain⟨K,rfl,c1,nb,hk⟩:=hrel
   by_cases hK:K<m
   ·obtain⟨g1,o1,rfl,hg1,hc1⟩:=hr.out (by omega)
    obtain⟨g2,o2,rfl,hg2,hc2⟩:=hs.out (by omega);have e0:=(nb.out.cell (p:=⟨g1,o1+K,none⟩) hg1).trans (hc1 K hK);have e1:=(nb.out.cell (p:=⟨g2,o2+K,none⟩) hg2).trans (hc2 K hK);have i0:(0:Int)≤(K:Int):=by omega
    have i1:(K:Int)<(m:Int):=by omega
    have hno:zN xs K≠zN ys K→xs≠ys:=fun h e=>h (by rw [e])
    have hnx:zN xs K=zN ys K→∀j,j<K+1→zN xs j=zN ys j:=fun h j hj=>by
     rcases Nat.eq_or_lt_of_le (Nat.le_of_lt_succ hj)with e|q
     ·subst e;exact h
     ·exact hk.out j q
    clear hc1 hc2 hk;generalize zN xs K=x at *;generalize zN ys K=y at *
    by_cases q:x=y
    ·have h2:=Lib.hid (hnx q)
     have q1:(x != y)=false:=by simp [q]
     clear hno hnx q q0;go_wp2_with fail
     go_quiet (fail);have b2:=Lib.hid (below_drewN nb.out nq)
     go_wp2_with fail
     go_roundg (gk-1)
     case measure=>omega
     case rel=>exact⟨K+1,by go_num,by omega,b2,h2⟩
    ·have h2:=hno q
     have q1:(x != y)=true:=by simp [q]
     have fin:=fun w' (hb:Below w.heap.size w w')=>hR.out w' hb
     rw [decide_eq_false h2]at fin;replace fin:=Lib.hid fin;clear hno hnx q q0 h2 hR;go_wp2_with fail
     go_quiet (fail);have b2:=Lib.hid (below_drewN nb.out nq)
     go_wp2_with fail
     exact fin.out _ b2.out
   ·have e:xs=ys:=List.ext_getElem (by rw [hlx.out,hym.out]) fun j h1 h2=>by
     have:=hk.out j (by have:=hlx.out;omega)
     rw [zN_get h1,zN_get h2]at this;exact this
    have fin:=hR.out wr nb.out;rw [decide_eq_true e]at fin;replace fin:=Lib.hid fin;clear hk e q0 hR;go_wp2_with fail
    exact fin.out
 ·have q0:((xs.length:Int) != (ys.length:Int))=true:=by simp;omega
  have fin:=hR.out w (Below.refl _ _);rw [decide_eq_false (fun e=>hl (by rw [e]))]at fin;replace fin:=Lib.hid fin;clear hl hR;go_enter Tryz.func30,Tryz.ntmps30
  go_wp2_with fail
  exact fin.out
end Lab
namespace Inh
open Go.RowKit Go.Lib Res Nam Lat Kin Unp Rel Lab
def xP:PH:=⟨⟨#[120]⟩,0,false,[],0,0,0,0,[]⟩
def nP:PH:=⟨⟨#[]⟩,0,false,[],0,0,0,0,[]⟩
def rT_:TH:=⟨9,0,0,0,0,[],⟨#[116]⟩,0⟩
def rU_:TH:=⟨9,0,0,0,0,[],⟨#[117]⟩,0⟩
def oT_:TH:=⟨6,0,0,0,0,[],⟨#[]⟩,0⟩
def cT_:TH:=⟨7,0,0,0,0,[],⟨#[]⟩,0⟩
def bT_:TH:=⟨1,0,0,0,0,[],⟨#[]⟩,0⟩
def tF_:Ft:=.cons xP rT_ .nil .nil
def oF_:Ft:=.cons nP rU_ .nil .nil
def uF_:Ft:=.cons xP oT_ oF_ .nil
def sc19:Sc:=([(⟨#[97]⟩,0)],[],[((⟨#[116]⟩,0),cT_,tF_),((⟨#[117]⟩,0),cT_,uF_)],bT_,.nil)
theorem listed_zero{ns:List ByteArray}(h:rightS (ns.getD 0 ByteArray.empty)=true):listedS ns 0=0:=by
 unfold listedS;rw [if_neg (by rw [h];decide),if_neg (by simp)]
theorem wc_t:(wcS cT_ tF_).1=0:=by
 have e:wcS cT_ tF_=wcF tF_ (.parts 7 [⟨#[120]⟩] 0) 2 1:=by kernel_rfl
 rw [e];unfold tF_ wcF;rw [if_neg (by rw [listed_zero (by kernel_rfl)];decide)]
 rfl
theorem wc_u:(wcS cT_ uF_).1=0:=by
 have e:wcS cT_ uF_=wcF uF_ (.parts 7 [⟨#[120]⟩] 0) 2 1:=by kernel_rfl
 rw [e];unfold uF_ wcF;rw [if_neg (by rw [listed_zero (by kernel_rfl)];decide)]
 rfl
theorem kinds_none(s:BS){h:TH}{f:Ft}(e:(wcS h f).1=0):kindsS s h f=if 512<wrap64 (s.total+cW f 1)then((8,h.at_),{ s with total:=wrap64 (s.total+cW f 1) })else((0,0),{ s with total:=wrap64 (s.total+cW f 1) }):=by
 unfold kindsS;rw [if_neg (by rw [e];decide)]
theorem b19:bldS sc19=(0,0):=by
 have e1:kindsS bs0 cT_ tF_=((0,0),{ bs0 with total:=2 }):=(kinds_none _ wc_t).trans (by kernel_rfl);have e2:kindsS { bs0 with total:=2 } cT_ uF_=((0,0),{ bs0 with total:=5 }):=(kinds_none _ wc_u).trans (by kernel_rfl);have e3:kindsS { bs0 with total:=5 } bT_ .nil=((0,0),{ bs0 with total:=6 }):=by kernel_rfl
 have ea:eachS kindsS bs0 sc19.2.2.1 bT_ .nil=((0,0),{ bs0 with total:=6 }):=by
  show(if(kindsS bs0 cT_ tF_).1.1≠0 then kindsS bs0 cT_ tF_ else if(kindsS (kindsS bs0 cT_ tF_).2 cT_ uF_).1.1≠0 then kindsS (kindsS bs0 cT_ tF_).2 cT_ uF_ else kindsS (kindsS (kindsS bs0 cT_ tF_).2 cT_ uF_).2 bT_ .nil)=_;rw [e1];simp only;rw [e2];simp only;rw [e3];simp
 have h1:wrongS sc19.1 sc19.2.1=(0,0):=by kernel_rfl
 have h2:nmC sc19.2.2.1=(0,0):=by kernel_rfl
 unfold bldS;rw [h1,if_neg (by decide),h2,if_neg (by decide)];unfold chkB;rw [show sc19.2.2.2.1=bT_ from rfl,show sc19.2.2.2.2=.nil from rfl,ea,if_neg (by decide)];rfl
theorem d19:depL (plS sc19).1=[0,2,1,1]:=by kernel_rfl
theorem w19(k:Int)(hk:I64 k)(x:ByteArray)(hx:x.size≤maxLen):GoodH ⟨k,0,0,0,0,[],x,0⟩:=⟨hk,i64_z,i64_z,i64_z,i64_z,by simp,hx,i64_z,by simp⟩
theorem p19(x:ByteArray)(hx:x.size≤maxLen):Kin.GoodL ⟨x,0,false,[],0,0,0,0,[]⟩:=⟨hx,i64_z,by simp,i64_z,i64_z,i64_z,i64_z,by simp,by show(0:Nat)≤maxLen;decide,by show(0:Nat)≤maxLen;decide⟩
theorem gs19:GoodS sc19 where
l:=fun x hx=>by
 obtain rfl:=List.mem_singleton.1 hx;exact⟨by decide,i64_z⟩
ll:=by decide
o:=fun x hx=>by cases hx
ol:=by decide
t:=fun x hx=>by
 rcases List.mem_cons.1 hx with rfl|hx
 ·exact⟨⟨by decide,i64_z⟩,w19 7 ⟨by decide,by decide⟩ _ (by decide),⟨p19 ⟨#[120]⟩ (by decide),w19 9 ⟨by decide,by decide⟩ _ (by decide),by decide,trivial,trivial⟩,by decide⟩
 ·obtain rfl:=List.mem_singleton.1 hx
  exact⟨⟨by decide,i64_z⟩,w19 7 ⟨by decide,by decide⟩ _ (by decide),⟨p19 ⟨#[120]⟩ (by decide),w19 6 ⟨by decide,by decide⟩ _ (by decide),by decide,⟨p19 ⟨#[]⟩ (by decide),w19 9 ⟨by decide,by decide⟩ _ (by decide),by decide,trivial,trivial⟩,trivial⟩,by decide⟩
tl:=by decide
h:=w19 1 ⟨by decide,by decide⟩ _ (by decide)
g:=trivial
gl:=by decide
theorem o19:OkS sc19:=OkS.of (by rw [b19])
theorem x19:∃x,x=plS sc19∧GoodL x.1∧NdIn x.1.length x.1∧x.1.length≤40000∧depL x.1=[0,2,1,1]:=⟨_,rfl,o19.good,o19.inn.1,o19.num.2,d19⟩
theorem lives19_calls(w:World)(R:Ending→World→Prop)(hR:Hid (∀w',Below w.heap.size w w'→R (.returned (.bool true)) w')):Calls Tryz.prog 29 #[] w R:=by
 have m0:=F0.z w;obtain⟨V1,e1,m1,z1⟩:=m0.new (.cells #[.int .i64 9,.int .i64 0,.int .i64 0,.int .i64 0,.int .i64 0,.slice none 0 0,.slice none 0 0,.string ⟨#[116]⟩,.int .i64 0] 29);obtain⟨V2,e2,m2,z2⟩:=m1.new (.cells #[.string ⟨#[120]⟩,.int .i64 0,.bool false,.slice none 0 0,.int .i64 0,.int .i64 0,.int .i64 0,.int .i64 0,.slice none 0 0,.int .i64 9,.int .i64 0,.int .i64 0,.int .i64 0,.int .i64 0,.slice none 0 0,.slice none 0 0,.string ⟨#[116]⟩,.int .i64 0] 130);obtain⟨V3,e3,m3,z3⟩:=m2.new (.cells #[.string ⟨#[]⟩,.int .i64 0,.bool false,.slice none 0 0,.int .i64 0,.int .i64 0,.int .i64 0,.int .i64 0,.slice none 0 0,.int .i64 9,.int .i64 0,.int .i64 0,.int .i64 0,.int .i64 0,.slice none 0 0,.slice none 0 0,.string ⟨#[117]⟩,.int .i64 0] 130);obtain⟨V4,e4,m4,z4⟩:=m3.new (.cells #[.string ⟨#[120]⟩,.int .i64 0,.bool false,.slice none 0 0,.int .i64 0,.int .i64 0,.int .i64 0,.int .i64 0,.slice none 0 0,.int .i64 6,.int .i64 0,.int .i64 0,.int .i64 0,.int .i64 0,.slice none 0 0,.slice (some ⟨V2.heap.size,0,none⟩) 1 1,.string ⟨#[]⟩,.int .i64 0] 130);obtain⟨V5,e5,m5,z5⟩:=m4.new (.cells #[.string ⟨#[97]⟩,.int .i64 0] 27);obtain⟨V6,e6,n,z6⟩:=m5.new (.cells #[.string ⟨#[116]⟩,.int .i64 0,.int .i64 7,.int .i64 0,.int .i64 0,.int .i64 0,.int .i64 0,.slice none 0 0,.slice (some ⟨V1.heap.size,0,none⟩) 1 1,.string ⟨#[]⟩,.int .i64 0,.string ⟨#[117]⟩,.int .i64 0,.int .i64 7,.int .i64 0,.int .i64 0,.int .i64 0,.int .i64 0,.slice none 0 0,.slice (some ⟨V3.heap.size,0,none⟩) 1 1,.string ⟨#[]⟩,.int .i64 0] 121)
 have hy1:RdY V6 cT_ tF_ (.slice none 0 0) (.slice (some ⟨V1.heap.size,0,none⟩) 1 1):=by
  refine⟨RdG.none0 _ _ _,_,1,rfl,Nat.le_refl _,fun _=>⟨_,_,rfl,n.lt 4 rfl,?_⟩⟩;exact RdFo.mk [.string ⟨#[120]⟩,.int .i64 0,.bool false,.slice none 0 0,.int .i64 0,.int .i64 0,.int .i64 0,.int .i64 0,.slice none 0 0] [.int .i64 9,.int .i64 0,.int .i64 0,.int .i64 0,.int .i64 0,.slice none 0 0,.slice none 0 0,.string ⟨#[116]⟩,.int .i64 0] rfl (fun j v e=>n.rg 4 rfl j v e) ⟨_,_,rfl,RdG.none0 _ _ _,RdG.none0 _ _ _⟩ ⟨rfl,_,⟨_,rfl,RdG.none0 _ _ _⟩,RdSl.nil _ _ _⟩ trivial
 have hy2:RdY V6 cT_ uF_ (.slice none 0 0) (.slice (some ⟨V3.heap.size,0,none⟩) 1 1):=by
  refine⟨RdG.none0 _ _ _,_,1,rfl,Nat.le_refl _,fun _=>⟨_,_,rfl,n.lt 2 rfl,?_⟩⟩;refine RdFo.mk [.string ⟨#[120]⟩,.int .i64 0,.bool false,.slice none 0 0,.int .i64 0,.int .i64 0,.int .i64 0,.int .i64 0,.slice none 0 0] [.int .i64 6,.int .i64 0,.int .i64 0,.int .i64 0,.int .i64 0,.slice none 0 0,.slice (some ⟨V2.heap.size,0,none⟩) 1 1,.string ⟨#[]⟩,.int .i64 0] rfl (fun j v e=>n.rg 2 rfl j v e) ⟨_,_,rfl,RdG.none0 _ _ _,RdG.none0 _ _ _⟩ ⟨rfl,_,⟨_,rfl,RdG.none0 _ _ _⟩,_,1,rfl,Nat.le_refl _,fun _=>⟨_,_,rfl,n.lt 3 rfl,?_⟩⟩ trivial;exact RdFo.mk [.string ⟨#[]⟩,.int .i64 0,.bool false,.slice none 0 0,.int .i64 0,.int .i64 0,.int .i64 0,.int .i64 0,.slice none 0 0] [.int .i64 9,.int .i64 0,.int .i64 0,.int .i64 0,.int .i64 0,.slice none 0 0,.slice none 0 0,.string ⟨#[117]⟩,.int .i64 0] rfl (fun j v e=>n.rg 3 rfl j v e) ⟨_,_,rfl,RdG.none0 _ _ _,RdG.none0 _ _ _⟩ ⟨rfl,_,⟨_,rfl,RdG.none0 _ _ _⟩,RdSl.nil _ _ _⟩ trivial
 have rd:RdSc V6 sc19 (.slice (some ⟨V4.heap.size,0,none⟩) 1 1) (.slice none 0 0) (.slice (some ⟨V5.heap.size,0,none⟩) 2 2) (.slice none 0 0) (.slice none 0 0) :=
  ⟨⟨_,1,1,rfl,rfl,Nat.le_refl _,fun _=>⟨_,0,rfl,n.lt 1 rfl,fun j u e=>n.rg 1 rfl j u e⟩⟩,rd_nil _ _,⟨_,2,rfl,Nat.le_refl _,fun _=>⟨_,0,rfl,n.lt 0 rfl,fun i hi=>by
   match i,hi with
   | 0,_=>exact⟨_,_,hy1,fun j u e=>n.rg 0 rfl j u (by
    have:=(List.getElem?_eq_some_iff.1 e).1;rw [←e];exact List.getElem?_append_left (l₁:=[.string ⟨#[116]⟩,.int .i64 0,.int .i64 7,.int .i64 0,.int .i64 0,.int .i64 0,.int .i64 0,.slice none 0 0,.slice (some ⟨V1.heap.size,0,none⟩) 1 1,.string ⟨#[]⟩,.int .i64 0]) (l₂:=[.string ⟨#[117]⟩,.int .i64 0,.int .i64 7,.int .i64 0,.int .i64 0,.int .i64 0,.int .i64 0,.slice none 0 0,.slice (some ⟨V3.heap.size,0,none⟩) 1 1,.string ⟨#[]⟩,.int .i64 0]) this)⟩
   | 1,_=>exact⟨_,_,hy2,fun j u e=>n.rgd 0 11 rfl j u e⟩⟩⟩,⟨RdG.none0 _ _ _,RdSl.nil _ _ _⟩⟩
 have r1:=m1.rg 0 rfl;have bl6:=F0.bel n;clear m1 m2 m3 m4 m5 hy1 hy2 m0 z1 z2 z3 z4 z5 z6;replace rd:=Lib.hid rd;go_enter Tryz.func29,Tryz.ntmps29
 go_upto_region 2 with(refine wpList_copy #[.int .i64 9,.int .i64 0,.int .i64 0,.int .i64 0,.int .i64 0,.slice none 0 0,.slice none 0 0,.string ⟨#[116]⟩,.int .i64 0] ⟨rfl,rfl,rfl⟩ ⟨rfl,rfl,rfl⟩ typ_alloc (by kernel_rfl) ⟨rfl,by simp [Value.oneCell']⟩ (fun _=>⟨rfl,rfl⟩) ?_;go_simp)
 go_upto_region 3 with(refine wpList_load_g (by rfl) 29 _ rfl w.heap.size (0) rfl _ _ r1 Tryz.underlying29 rfl (by kernel_rfl) ?_;go_simp)
 go_upto_region 4 with fail
 go_wp2_with fail
 clear e1 e2 e3 e4 e5 e6 r1;refine build18_calls sc19 gs19 (by decide) _ _ _ _ _ V6 rd.out _ (Lib.hid fun W v hz pl m=>?_) (Lib.hid fun W hz m=>?_)
 ·have n2:=(F0.z w).bl (bl6.trans (m.mono bl6.size))
  obtain⟨x,hx,gx,ix,lx,dx⟩:=x19;have pl2:PlanP W v (nms sc19.1) (leqF sc19.1 sc19.2.1) (nms (tw sc19.2.2.1)) x:=by rw [hx];exact pl
  clear hx pl n rd hz m bl6;generalize nms sc19.1=nm at pl2;generalize leqF sc19.1 sc19.2.1=F at pl2;generalize nms (tw sc19.2.2.1)=ns at pl2;have pl:=pl2;clear pl2
  obtain⟨P,rfl⟩:∃P,v=.pointer (some ⟨P,0,none⟩):=by
   obtain⟨P,_,_,_,_,_,e,-⟩:=pl;exact⟨P,e⟩
  obtain⟨q,hq⟩:∃q:Int×Int,q=(0,0):=⟨_,rfl⟩;rw [←hq];obtain⟨q0,q1⟩:=q;clear hq;obtain⟨W2,e5,n,z5⟩:=n2.new (.cells #[.int .i64 q0,.int .i64 q1] 34);have m2:Below W.heap.size W W2:=e5▸(Below.refl _ _).alloc (Nat.le_refl _) _;clear n2 z5;go_upto_region 5 with fail
  clear e5;replace pl:=pl.below m2;clear m2;have cD:=Lib.hid fun R hR=>depths_calls pl gx ix lx R hR
  rw [dx]at cD;clear pl gx ix lx dx;go_wp2_with fail
  refine cD.out _ (Lib.hid fun W3 dv rD m3=>?_);replace n:=n.bl m3;clear m3 cD;obtain⟨A,c,hdv,-⟩:=ints_open rD;subst hdv;obtain⟨W4,e6,n,z6⟩:=n.new (.cells #[.int .i64 0,.int .i64 2,.int .i64 1,.int .i64 1] 3);have m4:Below W3.heap.size W3 W4:=e6▸(Below.refl _ _).alloc (Nat.le_refl _) _;have rD4:=Lib.hid (rD.below m4);have rB:=Lib.hid (rd_ints (D:=[0,2,1,1]) (n.b 0 rfl));have bw:=Lib.hid (F0.bel n);clear rD n z6 m4;go_wp2_with fail
  refine(show Calls Tryz.prog 30 #[.slice A 4 c,.slice (some ⟨W3.heap.size,0,none⟩) 4 4] W4 _ from refsame12_calls [0,2,1,1] [0,2,1,1] _ _ W4 rD4.out rB.out (by decide) (by decide) _ (Lib.hid fun W5 m5=>?_));rw [decide_eq_true rfl];have fin:=Lib.hid (hR.out W5 (bw.out.trans (m5.mono bw.out.size)));clear hR bw m5 rB rD4;go_wp2_with fail
  exact fin.out
 ·exact absurd (by rw [b19]) hz
end Inh
end Go.Proofs.YtncckdaflellnaaGreat
