import Derived.Test.YtncckdaflellnaaGreatQ4
set_option linter.all false
set_option maxRecDepth 100000
set_option maxHeartbeats 4000000
namespace Go.Proofs.YtncckdaflellnaaGreat.Kin
open Go.RowKit Go.Lib Utf Nam Lat
theorem sameWord_calls(a b:ByteArray)(x y:Int)(w:World)(R:Ending→World→Prop)(hR:Hid (∀w',Below w.heap.size w w'→R (.returned (.bool (decide (a=b)))) w')):Calls Tryz.prog 225 #[.agg #[.string a,.int .i64 x],.agg #[.string b,.int .i64 y]] w R:=by
 have b1:=(Below.refl w.heap.size w).alloc (Nat.le_refl _) (.cells #[.string a,.int .i64 x] 27);have b2:=b1.alloc b1.size (.cells #[.string b,.int .i64 y] 27);have hz:(w.alloc (.cells #[.string a,.int .i64 x] 27)).heap.size=w.heap.size+1:=by simp
 have e1:=(((Below.refl _ _).alloc (Nat.le_refl _) (.cells #[.string b,.int .i64 y] 27)).block w.heap.size (by omega)).trans (heap_alloc_new w (.cells #[.string a,.int .i64 x] 27));have e2:=heap_alloc_new (w.alloc (.cells #[.string a,.int .i64 x] 27)) (.cells #[.string b,.int .i64 y] 27);rw [hz]at e2;have k0:=(Lib.cell_of_heap e1 0).trans rfl;have j0:=(Lib.cell_of_heap e2 0).trans rfl;have fin:=Lib.hid (hR.out _ b2);clear hR b1 b2 e1 e2 hz
 by_cases h:a=b
 ·have q:=sq_t h
  rw [decide_eq_true h]at fin;clear h;go_enter Tryz.func225,Tryz.ntmps225
  go_wp2_with fail
  exact fin.out
 ·have q:=sq_f h
  rw [decide_eq_false h]at fin;clear h;go_enter Tryz.func225,Tryz.ntmps225
  go_wp2_with fail
  exact fin.out
theorem eqw_calls(a b:List Wr)(hm:a.length≤maxLen)(va vb:Value)(w:World)(ha:RdW w va a)(hb:RdW w vb b)(R:Ending→World→Prop)(hR:Hid (∀w',Below w.heap.size w w'→R (.returned (.bool (sameW a b))) w')):Calls Tryz.prog 226 #[va,vb,.func (.func 225) #[] #[]] w R:=by
 replace hm:a.length≤9223372036854775807:=hm;obtain⟨A,ca,rfl,hca,hra⟩:=ha.op;obtain⟨B,cb,rfl,hcb,hrb⟩:=hb.op
 by_cases hl:a.length=b.length
 ·have q1:((a.length:Int) != (b.length:Int))=false:=by simp [hl]
  have hs:sameW a b=decide (nms (a.drop 0)=nms (b.drop 0)):=rfl;replace hra:=Lib.hid hra;replace hrb:=Lib.hid hrb;replace hl:=Lib.hid hl;clear ha hb;go_enter Tryz.func226,Tryz.ntmps226
  go_wp2_with fail
  go_loopg [17] a.length (fun g i wr=>∃K:Nat,i=.int .i64 K∧K+g=a.length∧Hid (Below w.heap.size w wr)∧sameW a b=decide (nms (a.drop K)=nms (b.drop K)))
  case atStart=>exact⟨0,rfl,by omega,Lib.hid (Below.refl _ _),hs⟩
  case round =>
   obtain⟨K,rfl,e1,nb,e2⟩:=hrel
   by_cases hK:K<a.length
   ·have hK2:K<b.length:=by have:=hl.out;omega
    obtain⟨ga,oa,rfl,hga,ca⟩:=hra.out (by omega);obtain⟨gb,ob,rfl,hgb,cb⟩:=hrb.out (by omega);have x0:=(nb.out.cell (p:=⟨ga,oa+K*2,none⟩) hga).trans (ca K hK).1;have x1:=(nb.out.cell (p:=⟨ga,oa+K*2+1,none⟩) hga).trans (ca K hK).2;have i0:(0:Int)≤(K:Int):=by omega
    have i1:(K:Int)<(a.length:Int):=by omega
    have i2:(K:Int)<(b.length:Int):=by omega
    have ht:=nms_tail hl.out K hK;have y0':=(nb.out.cell (p:=⟨gb,ob+K*2,none⟩) hgb).trans (cb K hK2).1;have y1':=(nb.out.cell (p:=⟨gb,ob+K*2+1,none⟩) hgb).trans (cb K hK2).2;clear ca cb;generalize(wN a K).1=s1 at *;generalize(wN a K).2=z1 at *;generalize(wN b K).1=s2 at *;generalize(wN b K).2=z2 at *;have b1:=(Below.refl wr.heap.size wr).alloc (Nat.le_refl _) (.cells #[.string s1,.int .i64 z1] 27);have b2:=b1.alloc b1.size (.cells #[.string s2,.int .i64 z2] 27);have hz:(wr.alloc (.cells #[.string s1,.int .i64 z1] 27)).heap.size=wr.heap.size+1:=by simp
    have f1:=(((Below.refl _ _).alloc (Nat.le_refl _) (.cells #[.string s2,.int .i64 z2] 27)).block wr.heap.size (by omega)).trans (heap_alloc_new wr (.cells #[.string s1,.int .i64 z1] 27));have f2:=heap_alloc_new (wr.alloc (.cells #[.string s1,.int .i64 z1] 27)) (.cells #[.string s2,.int .i64 z2] 27);rw [hz]at f2;have y0:=(b1.cell (p:=⟨gb,ob+K*2,none⟩) (Nat.lt_of_lt_of_le hgb nb.out.size)).trans y0';have y1:=(b1.cell (p:=⟨gb,ob+K*2+1,none⟩) (Nat.lt_of_lt_of_le hgb nb.out.size)).trans y1';have k0:=(Lib.cell_of_heap f1 0).trans rfl;have k1:=(Lib.cell_of_heap f1 1).trans rfl;have j0:=(Lib.cell_of_heap f2 0).trans rfl;have j1:=(Lib.cell_of_heap f2 1).trans rfl;have bb:=Lib.hid b2;clear f1 f2 hz b1 b2 y0' y1';go_wp2_with fail
    refine sameWord_calls s1 s2 _ _ _ _ (Lib.hid fun w5 n5=>?_);have nb5:=Lib.hid (nb.out.trans ((bb.out.trans (n5.mono bb.out.size)).mono nb.out.size));clear n5 bb
    by_cases hq:s1=s2
    ·have e3:sameW a b=decide (nms (a.drop (K+1))=nms (b.drop (K+1))):=by rw [e2];exact decide_eq_decide.2 (ht.trans ⟨fun q=>q.2,fun q=>⟨hq,q⟩⟩)
     rw [decide_eq_true hq];clear hq ht e2 k0 k1 j0 j1 x0 x1 y0 y1;go_wp2_with fail
     go_roundg (gk-1)
     case measure=>omega
     case rel=>exact⟨K+1,by go_num,by omega,nb5,e3⟩
    ·have e3:sameW a b=false:=by rw [e2,decide_eq_false_iff_not];rw [ht];exact fun q=>hq q.1
     have fin:=Lib.hid (hR.out _ nb5.out);rw [e3]at fin;rw [decide_eq_false hq];clear hq ht e2 hR k0 k1 j0 j1 x0 x1 y0 y1;go_wp2_with fail
     exact fin.out
   ·have hK2:b.length≤K:=by have:=hl.out;omega
    have e3:sameW a b=true:=by rw [e2,List.drop_eq_nil_of_le (by omega),List.drop_eq_nil_of_le hK2];simp
    have fin:=Lib.hid (hR.out _ nb.out);rw [e3]at fin;obtain rfl:K=a.length:=by omega
    clear e2 hR;go_wp2_with fail
    exact fin.out
 ·have q1:((a.length:Int) != (b.length:Int))=true:=by simp;omega
  have e3:sameW a b=false:=by
   unfold sameW;rw [decide_eq_false_iff_not];intro q;have:=congrArg List.length q;rw [nms_len,nms_len]at this;exact hl this
  have fin:=Lib.hid (hR.out _ (Below.refl _ _));rw [e3]at fin;clear hl hR ha hb hra hrb;go_enter Tryz.func226,Tryz.ntmps226
  go_wp2_with fail
  exact fin.out
theorem outside_calls(n m:Int)(w:World)(R:Ending→World→Prop)(hR:Hid (R (.returned (.bool (decide (n<0∨m<n)))) w)):Calls Tryz.prog 214 #[.int .i64 n,.int .i64 m] w R:=by
 by_cases h:n<0
 ·rw [decide_eq_true (.inl h)]at hR
  go_enter Tryz.func214,Tryz.ntmps214
  go_wp2_with fail
  exact hR.out
 ·by_cases h':m<n
  ·rw [decide_eq_true (.inr h')]at hR
   go_enter Tryz.func214,Tryz.ntmps214
   go_wp2_with fail
   exact hR.out
  ·rw [decide_eq_false (by omega)]at hR
   go_enter Tryz.func214,Tryz.ntmps214
   go_wp2_with fail
   exact hR.out
def coarI(ck cn ck' cn':Int)(la lb:List Wr):Bool:=decide (ck=ck')&&(decide (cn=cn')&&sameW la lb)
theorem sameCoarse_calls(ck cn ca ck' cn' ca':Int)(la lb:List Wr)(va vb:Value)(w:World)(hm:la.length≤maxLen)(ha:RdW w va la)(hb:RdW w vb lb)(R:Ending→World→Prop)(hR:Hid (∀w',Below w.heap.size w w'→R (.returned (.bool (coarI ck cn ck' cn' la lb))) w')):Calls Tryz.prog 228 #[.agg #[.int .i64 ck,.int .i64 cn,.int .i64 ca,va],.agg #[.int .i64 ck',.int .i64 cn',.int .i64 ca',vb]] w R:=by
 unfold coarI at hR;obtain⟨A,na,rfl,-,-⟩:=ha.op;obtain⟨A',nb,rfl,-,-⟩:=hb.op;have b1:=(Below.refl w.heap.size w).alloc (Nat.le_refl _) (.cells #[.int .i64 ck,.int .i64 cn,.int .i64 ca,.slice A la.length na] 128);have b2:=b1.alloc b1.size (.cells #[.int .i64 ck',.int .i64 cn',.int .i64 ca',.slice A' lb.length nb] 128);have hz:(w.alloc (.cells #[.int .i64 ck,.int .i64 cn,.int .i64 ca,.slice A la.length na] 128)).heap.size=w.heap.size+1:=by simp
 have e1:=(((Below.refl _ _).alloc (Nat.le_refl _) (.cells #[.int .i64 ck',.int .i64 cn',.int .i64 ca',.slice A' lb.length nb] 128)).block w.heap.size (by omega)).trans (heap_alloc_new w (.cells #[.int .i64 ck,.int .i64 cn,.int .i64 ca,.slice A la.length na] 128));have e2:=heap_alloc_new (w.alloc (.cells #[.int .i64 ck,.int .i64 cn,.int .i64 ca,.slice A la.length na] 128)) (.cells #[.int .i64 ck',.int .i64 cn',.int .i64 ca',.slice A' lb.length nb] 128);rw [hz]at e2;have k0:=(Lib.cell_of_heap e1 0).trans rfl;have k1:=(Lib.cell_of_heap e1 1).trans rfl;have k3:=(Lib.cell_of_heap e1 3).trans rfl;have j0:=(Lib.cell_of_heap e2 0).trans rfl;have j1:=(Lib.cell_of_heap e2 1).trans rfl;have j3:=(Lib.cell_of_heap e2 3).trans rfl;have cE:=Lib.hid fun R hR=>eqw_calls la lb hm _ _ _ (ha.below b2) (hb.below b2) R hR
 have bb:=Lib.hid b2;clear b1 b2 e1 e2 hz ha hb
 by_cases c0:ck=ck'
 ·have q0:(ck==ck')=true:=by simpa using c0
  rw [decide_eq_true c0,Bool.true_and]at hR;clear c0
  by_cases c1:cn=cn'
  ·have q1:(cn==cn')=true:=by simpa using c1
   rw [decide_eq_true c1,Bool.true_and]at hR;clear c1;go_enter Tryz.func228,Tryz.ntmps228
   go_wp2_with fail
   refine cE.out _ (Lib.hid fun w5 n5=>?_);have fin:=Lib.hid (hR.out _ (bb.out.trans (n5.mono bb.out.size)));generalize sameW la lb=S at *;clear hR bb cE n5;go_wp2_with fail
   exact fin.out
  ·have q1:(cn==cn')=false:=by simpa using c1
   have fin:=Lib.hid (hR.out _ bb.out);rw [decide_eq_false c1,Bool.false_and]at fin;clear c1 hR bb cE;go_enter Tryz.func228,Tryz.ntmps228
   go_wp2_with fail
   exact fin.out
 ·have q0:(ck==ck')=false:=by simpa using c0
  have fin:=Lib.hid (hR.out _ bb.out);rw [decide_eq_false c0,Bool.false_and]at fin;clear c0 hR bb cE;go_enter Tryz.func228,Tryz.ntmps228
  go_wp2_with fail
  exact fin.out
theorem same15_calls(f:Ft):SameQ f:=Fo.deep same15_step f
def cW:Ft→Int→Int
| .nil,a=>a
| .cons p _ k r,a=>cW r (if p.bare then a else wrap64 (a+cW k 1))
def dW:Ft→Int→Int
| .nil,a=>a
| .cons p _ k r,a=>dW r (if p.bare then a else if a<wrap64 (dW k 0+1)then wrap64 (dW k 0+1)else a)
def SizeQ(f:Ft):Prop:=∀(h:TH)(nv pv:Value)(w:World),f.len≤maxLen→f.All GoodH GoodL→RdY w h f nv pv→∀R:Ending→World→Prop,
Hid (∀w',Below w.heap.size w w'→R (.returned (.tuple #[.int .i64 (cW f 1),.int .i64 (wrap64 (dW f 0+1))])) w')→Calls Tryz.prog 66 #[tyV h nv pv] w R
theorem size15_step(f:Ft)(ih:Fo.AllK SizeQ f):SizeQ f:=by
 intro h nv pv w hfl hga hy R hR;replace hfl:f.len≤9223372036854775807:=hfl;have bA:=(Below.refl w.heap.size w).alloc (Nat.le_refl _) (.cells (tyL h nv pv).toArray 29);have kA:=TB.new w h nv pv 29;obtain⟨Ap,cp,rfl,hpl⟩:=hy.p.sl;obtain⟨An,cn,rfl,-,-⟩:=hy.n.op;replace hy:=Lib.hid (hy.below bA);replace hga:=Lib.hid hga;replace ih:=Lib.hid ih;replace bA:=Lib.hid bA;replace kA:=Lib.hid kA;go_enter Tryz.func66,Tryz.ntmps66
 go_upto_region 1 with fail
 generalize w.alloc (.cells (tyL h (.slice An h.names.length cn) (.slice Ap f.len cp)).toArray 29)=W2 at *;go_wp2_with fail
 go_loopg [4,5,6] f.len (fun g0 n d i wr=>∃(K:Nat) (a b:Int),n=.int .i64 a∧d=.int .i64 b∧i=.int .i64 K∧K+g0=f.len∧Hid (Below W2.heap.size W2 wr)∧cW f 1=cW (f.drop K) a∧dW f 0=dW (f.drop K) b)
 case atStart=>exact⟨0,1,0,rfl,rfl,rfl,by omega,Lib.hid (Below.refl _ _),rfl,rfl⟩
 case round =>
  obtain⟨K,a,b,rfl,rfl,rfl,e1,nW,e2,e3⟩:=hrel;have a6:=(kA.out.below nW.out).k6
  by_cases hK:K<f.len
  ·obtain⟨p,x,kd,r,e⟩:=Fo.drop_lt hK
   obtain⟨g,o,lv,cv,nx,px,rfl,hg,-,-,hyx,hc⟩:=(hy.out.below nW.out).p.part e;have x2:=hc 2 _ rfl;obtain⟨gp,gx,gk',ga2⟩:=all_at K hga.out e;have ihK:=Lib.hid ((ih.out).at_ e);rw [e]at e2 e3;have d1:=Fo.drop_succ K e;have i0:(0:Int)≤(K:Int):=by omega
   have i1:(K:Int)<(f.len:Int):=by omega
   have e4:cW f 1=cW r (if p.bare then a else wrap64 (a+cW kd 1)):=e2;have e5:dW f 0=dW r (if p.bare then b else if b<wrap64 (dW kd 0+1)then wrap64 (dW kd 0+1)else b):=e3;clear e2 e3;cases hb:p.bare
   ·rw [hb]at x2 e4 e5
    simp only[Bool.false_eq_true,if_false]at e4 e5;have s6:wr.rangeAt g (o+K*18+9) [.int .i64 x.kind,.int .i64 x.at_,.int .i64 x.lo,.int .i64 x.hi,.int .i64 x.most,nx,px,.string x.name,.int .i64 x.nat]:=fun j v h=>by rw [Nat.add_assoc];exact hc (9+j) v (by rw [←List.getElem?_drop];exact h)
    have cS:=Lib.hid fun R hR=>ihK.out x nx px wr gk' ga2 hyx R hR
    clear hc e hyx ihK;go_wp2_with (refine wpList_load_g (by rfl) _ _ rfl g (o+K*18+9) rfl [.int .i64 x.kind,.int .i64 x.at_,.int .i64 x.lo,.int .i64 x.hi,.int .i64 x.most,nx,px,.string x.name,.int .i64 x.nat] _ s6 Tryz.underlying29 rfl (by kernel_rfl) ?_;go_simp)
    refine cS.out _ (Lib.hid fun w5 n5=>?_);have nY:=Lib.hid (nW.out.trans (n5.mono nW.out.size));generalize cW kd 1=ck at *;generalize wrap64 (dW kd 0+1)=dk at *;clear s6 cS n5;rw [←d1]at e4 e5
    by_cases hbd:b<dk
    ·rw [if_pos hbd]at e5
     go_wp2_with fail
     go_roundg (gk-1)
     case measure=>omega
     case rel=>exact⟨K+1,_,_,rfl,rfl,by go_num,by omega,nY,e4,e5⟩
    ·rw [if_neg hbd]at e5
     go_wp2_with fail
     go_roundg (gk-1)
     case measure=>omega
     case rel=>exact⟨K+1,_,_,rfl,rfl,by go_num,by omega,nY,e4,e5⟩
   ·rw [hb]at x2 e4 e5
    simp only[if_true]at e4 e5;rw [←d1]at e4 e5;clear hc e hyx ihK;go_wp2_with fail
    go_roundg (gk-1)
    case measure=>omega
    case rel=>exact⟨K+1,a,b,rfl,rfl,by go_num,by omega,nW,e4,e5⟩
  ·obtain rfl:K=f.len:=by omega
   rw [Fo.drop_all (Nat.le_refl _)]at e2 e3;have e4:cW f 1=a:=e2;have e5:dW f 0=b:=e3;have fin:=Lib.hid (hR.out _ (bA.out.trans (nW.out.mono bA.out.size)));rw [e4,e5]at fin;clear hR e2 e3 e4 e5;go_wp2_with fail
   exact fin.out
theorem size15_calls(f:Ft):SizeQ f:=Fo.deep size15_step f
theorem zero15_calls(f:Ft)(h:TH)(nv pv:Value)(w:World)(hm:h.names.length≤maxLen)(hfl:f.len≤maxLen)(hga:f.All GoodH GoodL)(hy:RdY w h f nv pv)(R:Ending→World→Prop)
  (hR:Hid (∀w',Below w.heap.size w w'→R (.returned (.bool (zeroB h f))) w')):Calls Tryz.prog 176 #[tyV h nv pv] w R:=by
 have bA:=(Below.refl w.heap.size w).alloc (Nat.le_refl _) (.cells (tyL h nv pv).toArray 29);have hz:RdY (w.alloc (.cells (tyL h nv pv).toArray 29)) zTH .nil (.slice none 0 0) (.slice none 0 0):=⟨RdG.none0 _ _ _,RdSl.nil _ _ _⟩;have cS:=Lib.hid fun R hR=>(show Calls Tryz.prog 173 #[tyV h nv pv,.agg #[.int .i64 0,.int .i64 0,.int .i64 0,.int .i64 0,.int .i64 0,.slice none 0 0,.slice none 0 0,.string ⟨#[]⟩,.int .i64 0]] (w.alloc (.cells (tyL h nv pv).toArray 29)) R from same15_calls f h zTH .nil nv pv _ _ _ hm hfl hga (hy.below bA) hz R hR)
 obtain⟨Ap,cp,rfl,-⟩:=hy.p.sl;obtain⟨An,cn,rfl,-,-⟩:=hy.n.op;replace bA:=Lib.hid bA;clear hy hz hga;go_enter Tryz.func176,Tryz.ntmps176
 go_wp2_with fail
 refine cS.out _ (Lib.hid fun w3 n3=>?_);have fin:=Lib.hid (hR.out _ (bA.out.trans (n3.mono bA.out.size)));unfold zeroB at fin;clear n3 hR cS;go_wp2_with fail
 exact fin.out
theorem sameF_nil(f:Ft):sameF f .nil=decide (f.len=0):=by
 cases f with
 | nil=>rfl
 | cons p h k r=>simp [sameF,Fo.len]
theorem sameW_nil(l:List Wr):sameW l []=decide (l=[]):=by
 unfold sameW;cases l<;>simp [nms]
theorem own15_calls(f:Ft)(h:TH)(nv pv:Value)(w:World)(hm:h.names.length≤maxLen)(hfl:f.len≤maxLen)(hga:f.All GoodH GoodL)(hy:RdY w h f nv pv)(R:Ending→World→Prop)
  (hR:Hid (∀w',Below w.heap.size w w'→R (.returned (.bool (ownB h f))) w')):Calls Tryz.prog 136 #[tyV h nv pv] w R:=by
 have bA:=(Below.refl w.heap.size w).alloc (Nat.le_refl _) (.cells (tyL h nv pv).toArray 29);have b2:∀o,Below w.heap.size w ((w.alloc (.cells (tyL h nv pv).toArray 29)).alloc o):=fun o=>bA.alloc bA.size o
 have cO:=Lib.hid fun(h':TH) (f':Ft) (nv' pv':Value) (hy':RdY w h' f' nv' pv') R hR=>same15_calls f h h' f' nv pv nv' pv' ((w.alloc (.cells (tyL h nv pv).toArray 29)).alloc (.cells (tyL h' nv' pv').toArray 29)) hm hfl hga (hy.below (b2 _)) (hy'.below (b2 _)) R hR
 have nn:RdW w (.slice none 0 0) []:=RdG.none0 _ _ _;have pn:RdP w (.slice none 0 0) .nil:=RdSl.nil _ _ _;have yn:=hy.n;have yp:=hy.p;obtain⟨Ap,cp,rfl,-⟩:=hy.p.sl;obtain⟨An,cn,rfl,-,-⟩:=hy.n.op;obtain⟨k,at_,lo,hi,most,names,name,nat⟩:=h;simp only at hm yn yp cO b2 hR;replace b2:=Lib.hid b2;replace nn:=Lib.hid nn;replace pn:=Lib.hid pn;replace yn:=Lib.hid yn;replace yp:=Lib.hid yp;clear hy hga hm hfl bA
 by_cases c2:k=2
 ·subst c2
  go_enter Tryz.func136,Tryz.ntmps136
  go_wp2_with fail
  refine cO.out ⟨2,0,lo,hi,0,[],⟨#[]⟩,0⟩ .nil (.slice none 0 0) (.slice none 0 0) ⟨nn.out,pn.out⟩ _ (Lib.hid fun w3 n3=>?_)
  have hq:sameS ⟨2,at_,lo,hi,most,names,name,nat⟩ f ⟨2,0,lo,hi,0,[],⟨#[]⟩,0⟩ .nil=ownB ⟨2,at_,lo,hi,most,names,name,nat⟩ f:=by
   unfold sameS headB ownB;simp only[sameF_nil,sameW_nil,sameW_refl,sameF_refl];rw [Bool.eq_iff_iff];simp [show ByteArray.empty=(⟨#[]⟩:ByteArray)from rfl]<;>(constructor<;>(intro q;simp_all))
  have fin:=Lib.hid (hR.out _ ((b2.out _).trans (n3.mono (b2.out _).size)));rw [←hq]at fin;clear hR n3 cO b2 hq;go_wp2_with fail
  exact fin.out
 by_cases c3:k=3
 ·subst c3
  go_enter Tryz.func136,Tryz.ntmps136
  go_wp2_with fail
  refine cO.out ⟨3,0,0,0,most,[],⟨#[]⟩,0⟩ .nil (.slice none 0 0) (.slice none 0 0) ⟨nn.out,pn.out⟩ _ (Lib.hid fun w3 n3=>?_)
  have hq:sameS ⟨3,at_,lo,hi,most,names,name,nat⟩ f ⟨3,0,0,0,most,[],⟨#[]⟩,0⟩ .nil=ownB ⟨3,at_,lo,hi,most,names,name,nat⟩ f:=by
   unfold sameS headB ownB;simp only[sameF_nil,sameW_nil,sameW_refl,sameF_refl];rw [Bool.eq_iff_iff];simp [show ByteArray.empty=(⟨#[]⟩:ByteArray)from rfl]<;>(constructor<;>(intro q;simp_all))
  have fin:=Lib.hid (hR.out _ ((b2.out _).trans (n3.mono (b2.out _).size)));rw [←hq]at fin;clear hR n3 cO b2 hq;go_wp2_with fail
  exact fin.out
 by_cases c4:k=4
 ·subst c4
  go_enter Tryz.func136,Tryz.ntmps136
  go_wp2_with fail
  refine cO.out ⟨4,0,0,0,0,names,⟨#[]⟩,0⟩ .nil (.slice An names.length cn) (.slice none 0 0) ⟨yn.out,pn.out⟩ _ (Lib.hid fun w3 n3=>?_)
  have hq:sameS ⟨4,at_,lo,hi,most,names,name,nat⟩ f ⟨4,0,0,0,0,names,⟨#[]⟩,0⟩ .nil=ownB ⟨4,at_,lo,hi,most,names,name,nat⟩ f:=by
   unfold sameS headB ownB;simp only[sameF_nil,sameW_nil,sameW_refl,sameF_refl];rw [Bool.eq_iff_iff];simp [show ByteArray.empty=(⟨#[]⟩:ByteArray)from rfl]<;>(constructor<;>(intro q;simp_all))
  have fin:=Lib.hid (hR.out _ ((b2.out _).trans (n3.mono (b2.out _).size)));rw [←hq]at fin;clear hR n3 cO b2 hq;go_wp2_with fail
  exact fin.out
 by_cases c5:k=5
 ·subst c5
  go_enter Tryz.func136,Tryz.ntmps136
  go_wp2_with fail
  refine cO.out ⟨5,0,0,0,most,[],⟨#[]⟩,0⟩ f (.slice none 0 0) (.slice Ap f.len cp) ⟨nn.out,yp.out⟩ _ (Lib.hid fun w3 n3=>?_)
  have hq:sameS ⟨5,at_,lo,hi,most,names,name,nat⟩ f ⟨5,0,0,0,most,[],⟨#[]⟩,0⟩ f=ownB ⟨5,at_,lo,hi,most,names,name,nat⟩ f:=by
   unfold sameS headB ownB;simp only[sameW_nil,sameW_refl,sameF_refl];rw [Bool.eq_iff_iff];simp [show ByteArray.empty=(⟨#[]⟩:ByteArray)from rfl]<;>(constructor<;>(intro q;simp_all))
  have fin:=Lib.hid (hR.out _ ((b2.out _).trans (n3.mono (b2.out _).size)));rw [←hq]at fin;clear hR n3 cO b2 hq;go_wp2_with fail
  exact fin.out
 by_cases c6:k=6
 ·subst c6
  go_enter Tryz.func136,Tryz.ntmps136
  go_wp2_with fail
  refine cO.out ⟨6,0,0,0,0,[],⟨#[]⟩,0⟩ f (.slice none 0 0) (.slice Ap f.len cp) ⟨nn.out,yp.out⟩ _ (Lib.hid fun w3 n3=>?_)
  have hq:sameS ⟨6,at_,lo,hi,most,names,name,nat⟩ f ⟨6,0,0,0,0,[],⟨#[]⟩,0⟩ f=ownB ⟨6,at_,lo,hi,most,names,name,nat⟩ f:=by
   unfold sameS headB ownB;simp only[sameW_nil,sameW_refl,sameF_refl];rw [Bool.eq_iff_iff];simp [show ByteArray.empty=(⟨#[]⟩:ByteArray)from rfl]<;>(constructor<;>(intro q;simp_all))
  have fin:=Lib.hid (hR.out _ ((b2.out _).trans (n3.mono (b2.out _).size)));rw [←hq]at fin;clear hR n3 cO b2 hq;go_wp2_with fail
  exact fin.out
 by_cases c7:k=7
 ·subst c7
  go_enter Tryz.func136,Tryz.ntmps136
  go_wp2_with fail
  refine cO.out ⟨7,0,0,0,0,[],⟨#[]⟩,0⟩ f (.slice none 0 0) (.slice Ap f.len cp) ⟨nn.out,yp.out⟩ _ (Lib.hid fun w3 n3=>?_)
  have hq:sameS ⟨7,at_,lo,hi,most,names,name,nat⟩ f ⟨7,0,0,0,0,[],⟨#[]⟩,0⟩ f=ownB ⟨7,at_,lo,hi,most,names,name,nat⟩ f:=by
   unfold sameS headB ownB;simp only[sameW_nil,sameW_refl,sameF_refl];rw [Bool.eq_iff_iff];simp [show ByteArray.empty=(⟨#[]⟩:ByteArray)from rfl]<;>(constructor<;>(intro q;simp_all))
  have fin:=Lib.hid (hR.out _ ((b2.out _).trans (n3.mono (b2.out _).size)));rw [←hq]at fin;clear hR n3 cO b2 hq;go_wp2_with fail
  exact fin.out
 by_cases c8:k=8
 ·subst c8
  go_enter Tryz.func136,Tryz.ntmps136
  go_wp2_with fail
  refine cO.out ⟨8,0,0,0,0,[],⟨#[]⟩,0⟩ f (.slice none 0 0) (.slice Ap f.len cp) ⟨nn.out,yp.out⟩ _ (Lib.hid fun w3 n3=>?_)
  have hq:sameS ⟨8,at_,lo,hi,most,names,name,nat⟩ f ⟨8,0,0,0,0,[],⟨#[]⟩,0⟩ f=ownB ⟨8,at_,lo,hi,most,names,name,nat⟩ f:=by
   unfold sameS headB ownB;simp only[sameW_nil,sameW_refl,sameF_refl];rw [Bool.eq_iff_iff];simp [show ByteArray.empty=(⟨#[]⟩:ByteArray)from rfl]<;>(constructor<;>(intro q;simp_all))
  have fin:=Lib.hid (hR.out _ ((b2.out _).trans (n3.mono (b2.out _).size)));rw [←hq]at fin;clear hR n3 cO b2 hq;go_wp2_with fail
  exact fin.out
 by_cases c9:k=9
 ·subst c9
  go_enter Tryz.func136,Tryz.ntmps136
  go_wp2_with fail
  refine cO.out ⟨9,0,0,0,0,[],name,nat⟩ .nil (.slice none 0 0) (.slice none 0 0) ⟨nn.out,pn.out⟩ _ (Lib.hid fun w3 n3=>?_)
  have hq:sameS ⟨9,at_,lo,hi,most,names,name,nat⟩ f ⟨9,0,0,0,0,[],name,nat⟩ .nil=ownB ⟨9,at_,lo,hi,most,names,name,nat⟩ f:=by
   unfold sameS headB ownB;simp only[sameF_nil,sameW_nil,sameW_refl,sameF_refl];rw [Bool.eq_iff_iff];simp [show ByteArray.empty=(⟨#[]⟩:ByteArray)from rfl]<;>(constructor<;>(intro q;simp_all))
  have fin:=Lib.hid (hR.out _ ((b2.out _).trans (n3.mono (b2.out _).size)));rw [←hq]at fin;clear hR n3 cO b2 hq;go_wp2_with fail
  exact fin.out
 by_cases c10:4<k
 ·have c11:9<k:=by omega
  have q2:(k==2)=false:=by simpa using c2
  have q3:(k==3)=false:=by simpa using c3
  have q4:(k==4)=false:=by simpa using c4
  have q5:(k==5)=false:=by simpa using c5
  have q9:(k==9)=false:=by simpa using c9
  have c5x:¬(4<k∧k<9):=by omega
  go_enter Tryz.func136,Tryz.ntmps136
  go_wp2_with fail
  refine cO.out ⟨k,0,0,0,0,[],⟨#[]⟩,0⟩ .nil (.slice none 0 0) (.slice none 0 0) ⟨nn.out,pn.out⟩ _ (Lib.hid fun w3 n3=>?_)
  have hq:sameS ⟨k,at_,lo,hi,most,names,name,nat⟩ f ⟨k,0,0,0,0,[],⟨#[]⟩,0⟩ .nil=ownB ⟨k,at_,lo,hi,most,names,name,nat⟩ f:=by
   unfold sameS headB ownB;simp only[sameF_nil,sameW_nil,sameW_refl,sameF_refl];rw [Bool.eq_iff_iff];simp [show ByteArray.empty=(⟨#[]⟩:ByteArray)from rfl,c2,c3,c4,c9,c5x]<;>(constructor<;>(intro q;simp_all))
  have fin:=Lib.hid (hR.out _ ((b2.out _).trans (n3.mono (b2.out _).size)));rw [←hq]at fin;clear hR n3 cO b2 hq;go_wp2_with fail
  exact fin.out
 ·skip
  have q2:(k==2)=false:=by simpa using c2
  have q3:(k==3)=false:=by simpa using c3
  have q4:(k==4)=false:=by simpa using c4
  have q5:(k==5)=false:=by simpa using c5
  have q9:(k==9)=false:=by simpa using c9
  have c5x:¬(4<k∧k<9):=by omega
  go_enter Tryz.func136,Tryz.ntmps136
  go_wp2_with fail
  refine cO.out ⟨k,0,0,0,0,[],⟨#[]⟩,0⟩ .nil (.slice none 0 0) (.slice none 0 0) ⟨nn.out,pn.out⟩ _ (Lib.hid fun w3 n3=>?_)
  have hq:sameS ⟨k,at_,lo,hi,most,names,name,nat⟩ f ⟨k,0,0,0,0,[],⟨#[]⟩,0⟩ .nil=ownB ⟨k,at_,lo,hi,most,names,name,nat⟩ f:=by
   unfold sameS headB ownB;simp only[sameF_nil,sameW_nil,sameW_refl,sameF_refl];rw [Bool.eq_iff_iff];simp [show ByteArray.empty=(⟨#[]⟩:ByteArray)from rfl,c2,c3,c4,c9,c5x]<;>(constructor<;>(intro q;simp_all))
  have fin:=Lib.hid (hR.out _ ((b2.out _).trans (n3.mono (b2.out _).size)));rw [←hq]at fin;clear hR n3 cO b2 hq;go_wp2_with fail
  exact fin.out
theorem nms_at{l:List Wr}{i:Nat}(h:i<l.length):(nms l).getD i ByteArray.empty=(wN l i).1:=by
 rw [List.getD_eq_getElem?_getD,nms_get h];rfl
theorem mem_take{l:List Wr}{i:Nat}(h:i<l.length)(x:ByteArray):x∈(nms l).take (i+1)↔(x∈(nms l).take i∨(wN l i).1=x):=by
 have hn:i<(nms l).length:=by rw [nms_len];exact h
 rw [List.take_add_one,List.mem_append,nms_get h];simp [eq_comm]
theorem listed15_calls(a:List Wr)(i:Nat)(hi:i<a.length)(hm:a.length≤maxLen)(hg:∀x∈a,GoodW x)(va:Value)(w:World)(ha:RdW w va a)(R:Ending→World→Prop)(hR:Hid (∀w',Below w.heap.size w w'→R (.returned (.int .i64 (listedS (nms a) i))) w')):Calls Tryz.prog 137 #[va,.int .i64 i] w R:=by
 replace hm:a.length≤9223372036854775807:=hm;obtain⟨A,ca,rfl,hca,hra⟩:=ha.op;obtain⟨ga,oa,rfl,hga,cl⟩:=hra (by omega);have hn:=nms_at hi;have j0:(0:Int)≤(i:Int):=by omega
 have j1:(i:Int)<(a.length:Int):=by omega
 have x0:=(cl i hi).1;have hz:=(hg _ (wN_mem hi)).1;have hls:listedS (nms a) i=if rightS (wN a i).1=false then 9 else if(wN a i).1∈(nms a).take i then 10 else 0:=by unfold listedS;rw [hn]
 have cR:=Lib.hid fun R hR=>refright_calls (wN a i).1 hz w R hR
 rw [hls]at hR;replace cl:=Lib.hid cl;clear hls hra ha hn hz;generalize hxe:(wN a i).1=x at *;go_enter Tryz.func137,Tryz.ntmps137
 go_wp2_with fail
 refine cR.out _ (Lib.hid ?_);cases hr:rightS x
 ·rw [hr,if_pos rfl]at hR
  have fin:=Lib.hid (hR.out _ (Below.refl _ _));clear hR cR hr;go_wp2_with fail
  exact fin.out
 ·rw [hr,if_neg (by simp)]at hR
  clear cR hr;go_wp2_with fail
  go_loopg [5] i (fun g k wr=>∃K:Nat,k=.int .i64 K∧K+g=i∧Hid (Below w.heap.size w wr)∧¬x∈(nms a).take K)
  case atStart=>exact⟨0,rfl,by omega,Lib.hid (Below.refl _ _),by simp⟩
  case round =>
   obtain⟨K,rfl,e1,nb,e2⟩:=hrel
   by_cases hK:K<i
   ·have hKa:K<a.length:=by omega
    have y0:=(nb.out.cell (p:=⟨ga,oa+K*2,none⟩) hga).trans (cl.out K hKa).1;replace x0:=(nb.out.cell (p:=⟨ga,oa+i*2,none⟩) hga).trans x0;have i0:(0:Int)≤(K:Int):=by omega
    have i1:(K:Int)<(a.length:Int):=by omega
    have i2:(K:Int)<(i:Int):=by omega
    have hmt:=mem_take hKa x
    by_cases hq:(wN a K).1=x
    ·have q2:=sq_t hq
     have hin:x∈(nms a).take i:=List.take_subset_take_left _ (by omega) (hmt.2 (.inr hq));rw [if_pos hin]at hR;have fin:=Lib.hid (hR.out _ nb.out.drew);clear hR hin hmt hq hxe e2;generalize(wN a K).1=y at *;go_wp2_with fail
     go_region;go_wp2_with fail
     exact fin.out
    ·have q2:=sq_f hq
     have e3:¬x∈(nms a).take (K+1):=fun q=>by rcases hmt.1 q with q|q;exact e2 q;exact hq q
     clear hmt hq hxe e2;generalize(wN a K).1=y at *;go_wp2_with fail
     go_region;go_wp2_with fail
     go_roundg (gk-1)
     case measure=>omega
     case rel=>exact⟨K+1,by go_num,by omega,Lib.hid nb.out.drew,e3⟩
   ·obtain rfl:K=i:=by omega
    rw [if_neg e2]at hR;have fin:=Lib.hid (hR.out _ nb.out);clear hR e2;go_wp2_with fail
    exact fin.out
theorem pnm_drop:∀(n:Nat){f:Ft}{p:PH}{x:TH}{k r:Ft},f.drop n=.cons p x k r→(pnm f).take (n+1)=(pnm f).take n++[(p.name,p.at_)]
| 0,f,p,x,k,r,e=>by
 have e':f=.cons p x k r:=e;rw [e'];rfl
| n+1,.nil,p,x,k,r,e=>by simp [Fo.drop]at e
| n+1,.cons q y l s,p,x,k,r,e=>by
 have:=pnm_drop n (f:=s) e;simp only[pnm,List.take_succ_cons,this,List.cons_append]
theorem infoWrd:(Tryz.prog.info? 27).map (fun i=>(i.zero,i.size,i.bytes))=some (some (.agg #[.string ⟨#[]⟩,.int .i64 0]),2,24):=by kernel_rfl
theorem names15_calls(f:Ft)(hfl:f.len≤64)(pv:Value)(w:World)(hp:RdP w pv f)(R:Ending→World→Prop)(hR:Hid (∀v' w',RdW w' v' (pnm f)→Below w.heap.size w w'→R (.returned v') w')):Calls Tryz.prog 175 #[pv] w R:=by
 obtain⟨ti,hI,hZ⟩:∃i0,Tryz.prog.info? 27=some i0∧(i0.zero,i0.size,i0.bytes)=(some (.agg #[.string ⟨#[]⟩,.int .i64 0]),2,24):=by
  have:=infoWrd;cases h:Tryz.prog.info? 27 with
  | none=>rw [h]at this;cases this
  | some i0=>rw [h]at this;exact⟨i0,rfl,by simpa using this⟩
 simp only[Prod.mk.injEq]at hZ;obtain⟨hz0,hz1,hz2⟩:=hZ;obtain⟨Ap,cp,rfl,hpl⟩:=hp.sl;replace hp:=Lib.hid hp;go_enter Tryz.func175,Tryz.ntmps175
 go_wp2_with fail
 go_loopg [3,4] f.len (fun g s k wr=>∃(K:Nat) (v:Value),s=v∧k=.int .i64 K∧K+g=f.len∧Hid (Below w.heap.size w wr)∧Hid (wr.ownsRow w.heap.size 27 2 v K (flatG encW ((pnm f).take K))))
 case atStart=>exact⟨0,_,rfl,rfl,by omega,Lib.hid (Below.refl _ _),Lib.hid (by simpa [flatG]using World.ownsRow_nil _ _ _ _)⟩
 case round =>
  obtain⟨K,v,rfl,rfl,e1,nb,own⟩:=hrel
  by_cases hK:K<f.len
  ·obtain⟨p,x,kd,r,e⟩:=Fo.drop_lt hK
   obtain⟨g,o,lv,cv,nx,px,rfl,hg,-,-,-,hc⟩:=RdP.part (RdSl.kp (hd:=hdT) (pl:=plT) (fun _ _ _ _ _ q h=>hdT.kp q h) (fun _ _ _ _ q h=>plT.kp q h) (Kp.of_below nb.out) hp.out) e;have x0:=hc 0 _ rfl;have x1:=hc 1 _ rfl;rw [Nat.add_zero]at x0;have i0:(0:Int)≤(K:Int):=by omega
   have i1:(K:Int)<(f.len:Int):=by omega
   have ht:=pnm_drop K e;have hsz:=nb.out.size;clear hc e;go_wp2_with (at_builtin;go_loud (refine appK _ #[.string p.name,.int .i64 p.at_] 2 27 rfl _ _ 22 rfl w.heap.size ti (.agg #[.string ⟨#[]⟩,.int .i64 0]) 24 Tryz.underlying22 hI hz0 hz1 hz2 rfl (by decide) rfl _ K (flatG encW ((pnm f).take K)) rfl own.out _ rfl rfl (by simp [Value.oneCell']) (by unfold maxLen;omega) (by omega) hsz ?_);rintro v' w3 hown3 hg3 hb3)
   have own2:=Lib.hid (show w3.ownsRow w.heap.size 27 2 v' (K+1) (flatG encW ((pnm f).take (K+1)))by rw [ht,flatG_snoc];exact hown3)
   have nb2:=Lib.hid (nb.out.trans hb3);clear hown3 hg3 hb3 own nb ht;go_wp2_with fail
   go_roundg (gk-1)
   case measure=>omega
   case rel=>exact⟨K+1,_,rfl,by go_num,by omega,nb2,own2⟩
  ·obtain rfl:K=f.len:=by omega
   have et:(pnm f).take f.len=pnm f:=by rw [←pnm_len,List.take_length]
   have rd:=RdG.of_own own.out;rw [et]at rd;have fin:=Lib.hid (hR.out _ _ rd nb.out);clear hR rd own;go_wp2_with fail
   exact fin.out
end Go.Proofs.YtncckdaflellnaaGreat.Kin
