import Derived.Test.YtabhkakomececaaGreatQ11
set_option linter.all false
set_option maxRecDepth 100000
set_option maxHeartbeats 4000000
namespace Go.Proofs.YtabhkakomececaaGreat.Kin
open Go.RowKit Go.Lib Utf Nam Lat
theorem sameWord_calls(a b:ByteArray)(x y:Int)(w:World)(R:Ending→World→Prop)(hR:Hid (∀w',Below w.heap.size w w'→R (.returned (.bool (decide (a=b)))) w')):Calls Tryz.prog 384 #[.agg #[.string a,.int .i64 x],.agg #[.string b,.int .i64 y]] w R:=by
 have b1:=(Below.refl w.heap.size w).alloc (Nat.le_refl _) (.cells #[.string a,.int .i64 x] 34);have b2:=b1.alloc b1.size (.cells #[.string b,.int .i64 y] 34);have hz:(w.alloc (.cells #[.string a,.int .i64 x] 34)).heap.size=w.heap.size+1:=by simp
 have e1:=(((Below.refl _ _).alloc (Nat.le_refl _) (.cells #[.string b,.int .i64 y] 34)).block w.heap.size (by omega)).trans (heap_alloc_new w (.cells #[.string a,.int .i64 x] 34));have e2:=heap_alloc_new (w.alloc (.cells #[.string a,.int .i64 x] 34)) (.cells #[.string b,.int .i64 y] 34);rw [hz]at e2;have k0:=(Lib.cell_of_heap e1 0).trans rfl;have j0:=(Lib.cell_of_heap e2 0).trans rfl;have fin:=Lib.hid (hR.out _ b2);clear hR b1 b2 e1 e2 hz
 by_cases h:a=b
 ·have q:=sq_t h
  rw [decide_eq_true h]at fin;clear h;go_enter Tryz.func384,Tryz.ntmps384
  go_wp2_with fail
  exact fin.out
 ·have q:=sq_f h
  rw [decide_eq_false h]at fin;clear h;go_enter Tryz.func384,Tryz.ntmps384
  go_wp2_with fail
  exact fin.out
theorem eqw_calls(a b:List Wr)(hm:a.length≤maxLen)(va vb:Value)(w:World)(ha:RdW w va a)(hb:RdW w vb b)(R:Ending→World→Prop)(hR:Hid (∀w',Below w.heap.size w w'→R (.returned (.bool (sameW a b))) w')):Calls Tryz.prog 385 #[va,vb,.func (.func 384) #[] #[]] w R:=by
 replace hm:a.length≤9223372036854775807:=hm;obtain⟨A,ca,rfl,hca,hra⟩:=ha.op;obtain⟨B,cb,rfl,hcb,hrb⟩:=hb.op
 by_cases hl:a.length=b.length
 ·have q1:((a.length:Int) != (b.length:Int))=false:=by simp [hl]
  have hs:sameW a b=decide (nms (a.drop 0)=nms (b.drop 0)):=rfl;replace hra:=Lib.hid hra;replace hrb:=Lib.hid hrb;replace hl:=Lib.hid hl;clear ha hb;go_enter Tryz.func385,Tryz.ntmps385
  go_wp2_with fail
  go_loopg [17] a.length (fun g i wr=>∃K:Nat,i=.int .i64 K∧K+g=a.length∧Hid (Below w.heap.size w wr)∧sameW a b=decide (nms (a.drop K)=nms (b.drop K)))
  case atStart=>exact⟨0,rfl,by omega,Lib.hid (Below.refl _ _),hs⟩
  case round =>
   obtain⟨K,rfl,e1,nb,e2⟩:=hrel
   by_cases hK:K<a.length
   ·have hK2:K<b.length:=by have:=hl.out;omega
    obtain⟨ga,oa,rfl,hga,ca⟩:=hra.out (by omega);obtain⟨gb,ob,rfl,hgb,cb⟩:=hrb.out (by omega);have x0:=(nb.out.cell (p:=⟨ga,oa+K*2,none⟩) hga).trans (ca K hK).1;have x1:=(nb.out.cell (p:=⟨ga,oa+K*2+1,none⟩) hga).trans (ca K hK).2;have i0:(0:Int)≤(K:Int):=by omega
    have i1:(K:Int)<(a.length:Int):=by omega
    have i2:(K:Int)<(b.length:Int):=by omega
    have ht:=nms_tail hl.out K hK;have y0':=(nb.out.cell (p:=⟨gb,ob+K*2,none⟩) hgb).trans (cb K hK2).1;have y1':=(nb.out.cell (p:=⟨gb,ob+K*2+1,none⟩) hgb).trans (cb K hK2).2;clear ca cb;generalize(wN a K).1=s1 at *;generalize(wN a K).2=z1 at *;generalize(wN b K).1=s2 at *;generalize(wN b K).2=z2 at *;have b1:=(Below.refl wr.heap.size wr).alloc (Nat.le_refl _) (.cells #[.string s1,.int .i64 z1] 34);have b2:=b1.alloc b1.size (.cells #[.string s2,.int .i64 z2] 34);have hz:(wr.alloc (.cells #[.string s1,.int .i64 z1] 34)).heap.size=wr.heap.size+1:=by simp
    have f1:=(((Below.refl _ _).alloc (Nat.le_refl _) (.cells #[.string s2,.int .i64 z2] 34)).block wr.heap.size (by omega)).trans (heap_alloc_new wr (.cells #[.string s1,.int .i64 z1] 34));have f2:=heap_alloc_new (wr.alloc (.cells #[.string s1,.int .i64 z1] 34)) (.cells #[.string s2,.int .i64 z2] 34);rw [hz]at f2;have y0:=(b1.cell (p:=⟨gb,ob+K*2,none⟩) (Nat.lt_of_lt_of_le hgb nb.out.size)).trans y0';have y1:=(b1.cell (p:=⟨gb,ob+K*2+1,none⟩) (Nat.lt_of_lt_of_le hgb nb.out.size)).trans y1';have k0:=(Lib.cell_of_heap f1 0).trans rfl;have k1:=(Lib.cell_of_heap f1 1).trans rfl;have j0:=(Lib.cell_of_heap f2 0).trans rfl;have j1:=(Lib.cell_of_heap f2 1).trans rfl;have bb:=Lib.hid b2;clear f1 f2 hz b1 b2 y0' y1';go_wp2_with fail
    refine sameWord_calls s1 s2 _ _ _ _ (Lib.hid fun w5 n5=>?_);have nb5:=Lib.hid (nb.out.trans ((bb.out.trans (n5.mono bb.out.size)).mono nb.out.size));clear n5 bb
    by_cases hq:s1=s2
    ·have e3:sameW a b=decide (nms (a.drop (K+1))=nms (b.drop (K+1))):=by rw [e2];exact decide_eq_decide.2 (ht.trans ⟨fun q=>q.2,fun q=>⟨hq,q⟩⟩)
     rw [decide_eq_true hq];clear hq ht e2 k0 k1 j0 j1 x0 x1 y0 y1;go_wp2_with fail
     go_roundg (gk-1)
     case measure=>omega
     case rel=>exact⟨K+1,by go_num,by omega,nb5,e3⟩
    ·have e3:sameW a b=false:=by rw [e2,decide_eq_false_iff_not];rw [ht];exact fun q=>hq q.1
     have fin:=Lib.hid (hR.out _ nb5.out);rw [e3]at fin;rw [decide_eq_false hq];clear hq ht e2 hR k0 k1 j0 j1 x0 x1 y0 y1;go_wp2_with fail
     exact fin.out
   ·have hK2:b.length≤K:=by have:=hl.out;omega
    have e3:sameW a b=true:=by rw [e2,List.drop_eq_nil_of_le (by omega),List.drop_eq_nil_of_le hK2];simp
    have fin:=Lib.hid (hR.out _ nb.out);rw [e3]at fin;obtain rfl:K=a.length:=by omega
    clear e2 hR;go_wp2_with fail
    exact fin.out
 ·have q1:((a.length:Int) != (b.length:Int))=true:=by simp;omega
  have e3:sameW a b=false:=by
   unfold sameW;rw [decide_eq_false_iff_not];intro q;have:=congrArg List.length q;rw [nms_len,nms_len]at this;exact hl this
  have fin:=Lib.hid (hR.out _ (Below.refl _ _));rw [e3]at fin;clear hl hR ha hb hra hrb;go_enter Tryz.func385,Tryz.ntmps385
  go_wp2_with fail
  exact fin.out
theorem outside_calls(n m:Int)(w:World)(R:Ending→World→Prop)(hR:Hid (R (.returned (.bool (decide (n<0∨m<n)))) w)):Calls Tryz.prog 328 #[.int .i64 n,.int .i64 m] w R:=by
 by_cases h:n<0
 ·rw [decide_eq_true (.inl h)]at hR
  go_enter Tryz.func328,Tryz.ntmps328
  go_wp2_with fail
  exact hR.out
 ·by_cases h':m<n
  ·rw [decide_eq_true (.inr h')]at hR
   go_enter Tryz.func328,Tryz.ntmps328
   go_wp2_with fail
   exact hR.out
  ·rw [decide_eq_false (by omega)]at hR
   go_enter Tryz.func328,Tryz.ntmps328
   go_wp2_with fail
   exact hR.out
def coarI(ck cn ck' cn':Int)(la lb:List Wr):Bool:=decide (ck=ck')&&(decide (cn=cn')&&sameW la lb)
theorem sameCoarse_calls(ck cn ca ck' cn' ca':Int)(la lb:List Wr)(va vb:Value)(w:World)(hm:la.length≤maxLen)(ha:RdW w va la)(hb:RdW w vb lb)(R:Ending→World→Prop)(hR:Hid (∀w',Below w.heap.size w w'→R (.returned (.bool (coarI ck cn ck' cn' la lb))) w')):Calls Tryz.prog 387 #[.agg #[.int .i64 ck,.int .i64 cn,.int .i64 ca,va],.agg #[.int .i64 ck',.int .i64 cn',.int .i64 ca',vb]] w R:=by
 unfold coarI at hR;obtain⟨A,na,rfl,-,-⟩:=ha.op;obtain⟨A',nb,rfl,-,-⟩:=hb.op;have b1:=(Below.refl w.heap.size w).alloc (Nat.le_refl _) (.cells #[.int .i64 ck,.int .i64 cn,.int .i64 ca,.slice A la.length na] 125);have b2:=b1.alloc b1.size (.cells #[.int .i64 ck',.int .i64 cn',.int .i64 ca',.slice A' lb.length nb] 125);have hz:(w.alloc (.cells #[.int .i64 ck,.int .i64 cn,.int .i64 ca,.slice A la.length na] 125)).heap.size=w.heap.size+1:=by simp
 have e1:=(((Below.refl _ _).alloc (Nat.le_refl _) (.cells #[.int .i64 ck',.int .i64 cn',.int .i64 ca',.slice A' lb.length nb] 125)).block w.heap.size (by omega)).trans (heap_alloc_new w (.cells #[.int .i64 ck,.int .i64 cn,.int .i64 ca,.slice A la.length na] 125));have e2:=heap_alloc_new (w.alloc (.cells #[.int .i64 ck,.int .i64 cn,.int .i64 ca,.slice A la.length na] 125)) (.cells #[.int .i64 ck',.int .i64 cn',.int .i64 ca',.slice A' lb.length nb] 125);rw [hz]at e2;have k0:=(Lib.cell_of_heap e1 0).trans rfl;have k1:=(Lib.cell_of_heap e1 1).trans rfl;have k3:=(Lib.cell_of_heap e1 3).trans rfl;have j0:=(Lib.cell_of_heap e2 0).trans rfl;have j1:=(Lib.cell_of_heap e2 1).trans rfl;have j3:=(Lib.cell_of_heap e2 3).trans rfl;have cE:=Lib.hid fun R hR=>eqw_calls la lb hm _ _ _ (ha.below b2) (hb.below b2) R hR
 have bb:=Lib.hid b2;clear b1 b2 e1 e2 hz ha hb
 by_cases c0:ck=ck'
 ·have q0:(ck==ck')=true:=by simpa using c0
  rw [decide_eq_true c0,Bool.true_and]at hR;clear c0
  by_cases c1:cn=cn'
  ·have q1:(cn==cn')=true:=by simpa using c1
   rw [decide_eq_true c1,Bool.true_and]at hR;clear c1;go_enter Tryz.func387,Tryz.ntmps387
   go_wp2_with fail
   refine cE.out _ (Lib.hid fun w5 n5=>?_);have fin:=Lib.hid (hR.out _ (bb.out.trans (n5.mono bb.out.size)));generalize sameW la lb=S at *;clear hR bb cE n5;go_wp2_with fail
   exact fin.out
  ·have q1:(cn==cn')=false:=by simpa using c1
   have fin:=Lib.hid (hR.out _ bb.out);rw [decide_eq_false c1,Bool.false_and]at fin;clear c1 hR bb cE;go_enter Tryz.func387,Tryz.ntmps387
   go_wp2_with fail
   exact fin.out
 ·have q0:(ck==ck')=false:=by simpa using c0
  have fin:=Lib.hid (hR.out _ bb.out);rw [decide_eq_false c0,Bool.false_and]at fin;clear c0 hR bb cE;go_enter Tryz.func387,Tryz.ntmps387
  go_wp2_with fail
  exact fin.out
theorem wpList_copy3{P:Program}{ops:Array Oper}{rest:List Oper}{o x s:Oper}{a:Act}{w:World}{Q:Exit→Act→World→Prop}{T:TypeId}{z:Array Value}{d n:Tmp}(c:Array Value)(v:Value)(p1:o.guard=none∧o.dst=some d∧o.op=.alloc T)(x1:x.guard=none)
  (hx:∀p (W:World),(execOp ((a.put (some d) p).eval) x).run P W=.ok (.value v) W) (q1:s.guard=none∧s.dst=none∧s.op=.store T (.tmp d) (.tmp n))
  (hz:∀(ρ:Operand→Value) (W:World) (o:Oper),o.op=.alloc T→(execOp ρ o).run P W=.ok (.value (ptA W.heap.size)) (W.alloc (.cells z T))) (hi:(P.info? T).map (·.size)=some z.size) (hs:z.size=c.size∧c.all (·.oneCell')=true)
  (he:∀p,((a.put (some d) p).put x.dst v).eval (.tmp d)=p∧((a.put (some d) p).put x.dst v).eval (.tmp n)=.agg c) (h:wpList P ops Q rest ((a.put (some d) (ptA w.heap.size)).put x.dst v) (w.alloc (.cells c T))):wpList P ops Q (o::x::s::rest) a w:=by
 refine wpList_plain p1.1 fun K hK=>?_
 unfold Oper.wp;rw [hz _ _ _ p1.2.2,Oper.upon_value,p1.2.1];refine hK _ _ ?_;refine wpList_plain x1 fun K hK=>?_
 unfold Oper.wp;rw [hx,Oper.upon_value];refine hK _ _ ?_;refine wpList_store_row q1.1 T _ _ q1.2.2 w.heap.size c (he _).1 (he _).2 T z (heap_alloc_new w _) (by rw [hi,hs.1]) hs.1 hs.2 ?_;rw [q1.2.1,setRow_alloc];exact h
theorem part_eq(p q:PH)(x:TH)(k:Ft)(y:TH)(l:Ft):(decide (p.name=q.name)&&plainB p q&&sameS x k y l)=(decide (p.name=q.name)&&((p.bare==q.bare)&&(decide (p.wide=q.wide)&&(sameW p.label q.label&&(coarI p.ck p.cn q.ck q.cn p.cl q.cl&&sameS x k y l))))):=by
 unfold plainB coarI;simp only[Bool.and_assoc]
theorem head_eq(a b:TH)(k l:Ft):sameS a k b l=(decide (a.kind=b.kind)&&(decide (a.lo=b.lo)&&(decide (a.hi=b.hi)&&(decide (a.most=b.most)&&(decide (a.name=b.name)&&(sameW a.names b.names&&sameF k l)))))):=by
 unfold sameS headB;simp only[Bool.and_assoc]
def SameC(f:Ft):Prop:=∀(h h':TH)(g:Ft)(nv pv nv' pv':Value)(w:World),h.names.length≤maxLen→f.len≤maxLen→f.All GoodH GoodL→RdY w h f nv pv→RdY w h' g nv' pv'→∀R:Ending→World→Prop,
Hid (∀w',Below w.heap.size w w'→R (.returned (.bool (sameS h f h' g))) w')→Calls Tryz.prog 369 #[tyV h nv pv,tyV h' nv' pv'] w R
theorem samePart_calls(kd:Ft)(hS:SameC kd)(p q:PH)(x y:TH)(ls:Ft)(lv cv nv pv lv' cv' nv' pv':Value)(w:World)(l1:p.label.length≤maxLen)(l2:p.cl.length≤maxLen)(l3:x.names.length≤maxLen)(l4:kd.len≤maxLen)(hga:kd.All GoodH GoodL)(hl:RdW w lv p.label)(hc:RdW w cv p.cl)(hy:RdY w x kd nv pv)(hl':RdW w lv' q.label)(hc':RdW w cv' q.cl)(hy':RdY w y ls nv' pv')(R:Ending→World→Prop)
  (hR:Hid (∀w',Below w.heap.size w w'→R (.returned (.bool (decide (p.name=q.name)&&plainB p q&&sameS x kd y ls))) w')):Calls Tryz.prog 370 #[ptV p lv cv x nv pv,ptV q lv' cv' y nv' pv'] w R:=by
 obtain⟨A1,n1,rfl,-,-⟩:=hl.op;obtain⟨A2,n2,rfl,-,-⟩:=hc.op;obtain⟨A5,n5,rfl,-,-⟩:=hy.n.op;obtain⟨A7,n7,rfl,-⟩:=hy.p.sl;obtain⟨A3,n3,rfl,-,-⟩:=hl'.op;obtain⟨A4,n4,rfl,-,-⟩:=hc'.op;obtain⟨A6,n6,rfl,-,-⟩:=hy'.n.op;obtain⟨A8,n8,rfl,-⟩:=hy'.p.sl;have bA:=(Below.refl w.heap.size w).alloc (Nat.le_refl _) (.cells #[.string p.name,.int .i64 p.at_,.bool p.bare,.slice A1 p.label.length n1,.int .i64 p.wide,.int .i64 p.ck,.int .i64 p.cn,.int .i64 p.cat,.slice A2 p.cl.length n2,.int .i64 x.kind,.int .i64 x.at_,.int .i64 x.lo,.int .i64 x.hi,.int .i64 x.most,.slice A5 x.names.length n5,.slice A7 kd.len n7,.string x.name,.int .i64 x.nat] 127);have bB:=bA.alloc bA.size (.cells #[.string q.name,.int .i64 q.at_,.bool q.bare,.slice A3 q.label.length n3,.int .i64 q.wide,.int .i64 q.ck,.int .i64 q.cn,.int .i64 q.cat,.slice A4 q.cl.length n4,.int .i64 y.kind,.int .i64 y.at_,.int .i64 y.lo,.int .i64 y.hi,.int .i64 y.most,.slice A6 y.names.length n6,.slice A8 ls.len n8,.string y.name,.int .i64 y.nat] 127);have hz:(w.alloc (.cells #[.string p.name,.int .i64 p.at_,.bool p.bare,.slice A1 p.label.length n1,.int .i64 p.wide,.int .i64 p.ck,.int .i64 p.cn,.int .i64 p.cat,.slice A2 p.cl.length n2,.int .i64 x.kind,.int .i64 x.at_,.int .i64 x.lo,.int .i64 x.hi,.int .i64 x.most,.slice A5 x.names.length n5,.slice A7 kd.len n7,.string x.name,.int .i64 x.nat] 127)).heap.size=w.heap.size+1:=by simp
 have hA:=(((Below.refl _ _).alloc (Nat.le_refl _) (.cells #[.string q.name,.int .i64 q.at_,.bool q.bare,.slice A3 q.label.length n3,.int .i64 q.wide,.int .i64 q.ck,.int .i64 q.cn,.int .i64 q.cat,.slice A4 q.cl.length n4,.int .i64 y.kind,.int .i64 y.at_,.int .i64 y.lo,.int .i64 y.hi,.int .i64 y.most,.slice A6 y.names.length n6,.slice A8 ls.len n8,.string y.name,.int .i64 y.nat] 127)).block w.heap.size (by omega)).trans (heap_alloc_new w (.cells #[.string p.name,.int .i64 p.at_,.bool p.bare,.slice A1 p.label.length n1,.int .i64 p.wide,.int .i64 p.ck,.int .i64 p.cn,.int .i64 p.cat,.slice A2 p.cl.length n2,.int .i64 x.kind,.int .i64 x.at_,.int .i64 x.lo,.int .i64 x.hi,.int .i64 x.most,.slice A5 x.names.length n5,.slice A7 kd.len n7,.string x.name,.int .i64 x.nat] 127));have hB:=heap_alloc_new (w.alloc (.cells #[.string p.name,.int .i64 p.at_,.bool p.bare,.slice A1 p.label.length n1,.int .i64 p.wide,.int .i64 p.ck,.int .i64 p.cn,.int .i64 p.cat,.slice A2 p.cl.length n2,.int .i64 x.kind,.int .i64 x.at_,.int .i64 x.lo,.int .i64 x.hi,.int .i64 x.most,.slice A5 x.names.length n5,.slice A7 kd.len n7,.string x.name,.int .i64 x.nat] 127)) (.cells #[.string q.name,.int .i64 q.at_,.bool q.bare,.slice A3 q.label.length n3,.int .i64 q.wide,.int .i64 q.ck,.int .i64 q.cn,.int .i64 q.cat,.slice A4 q.cl.length n4,.int .i64 y.kind,.int .i64 y.at_,.int .i64 y.lo,.int .i64 y.hi,.int .i64 y.most,.slice A6 y.names.length n6,.slice A8 ls.len n8,.string y.name,.int .i64 y.nat] 127);rw [hz]at hB;rw [part_eq]at hR;replace hl:=Lib.hid hl;replace hc:=Lib.hid hc;replace hy:=Lib.hid hy;replace hl':=Lib.hid hl';replace hc':=Lib.hid hc';replace hy':=Lib.hid hy';replace hS:=Lib.hid hS;replace hga:=Lib.hid hga;go_enter Tryz.func370,Tryz.ntmps370
 go_upto_region 1 with fail
 generalize(w.alloc (.cells #[.string p.name,.int .i64 p.at_,.bool p.bare,.slice A1 p.label.length n1,.int .i64 p.wide,.int .i64 p.ck,.int .i64 p.cn,.int .i64 p.cat,.slice A2 p.cl.length n2,.int .i64 x.kind,.int .i64 x.at_,.int .i64 x.lo,.int .i64 x.hi,.int .i64 x.most,.slice A5 x.names.length n5,.slice A7 kd.len n7,.string x.name,.int .i64 x.nat] 127)).alloc (.cells #[.string q.name,.int .i64 q.at_,.bool q.bare,.slice A3 q.label.length n3,.int .i64 q.wide,.int .i64 q.ck,.int .i64 q.cn,.int .i64 q.cat,.slice A4 q.cl.length n4,.int .i64 y.kind,.int .i64 y.at_,.int .i64 y.lo,.int .i64 y.hi,.int .i64 y.most,.slice A6 y.names.length n6,.slice A8 ls.len n8,.string y.name,.int .i64 y.nat] 127)=V at *;replace hA:=Lib.hid hA;replace hB:=Lib.hid hB;have nW:=Lib.hid bB;clear bA bB hz;have u0:=(Lib.cell_of_heap hA.out 0).trans rfl;have v0:=(Lib.cell_of_heap hB.out 0).trans rfl;have u1:=(Lib.cell_of_heap hA.out 1).trans rfl;have v1:=(Lib.cell_of_heap hB.out 1).trans rfl;have cX:=Lib.hid fun R hR=>sameWord_calls p.name q.name p.at_ q.at_ V R hR
 generalize decide (p.name=q.name)=S at *;go_wp2_with fail
 refine cX.out _ (Lib.hid fun w1_ n9=>?_);have hA9:=Lib.hid ((n9.block _ (blt_of hA.out)).trans hA.out);have hB9:=Lib.hid ((n9.block _ (blt_of hB.out)).trans hB.out);have nW9:=Lib.hid (nW.out.trans (n9.mono nW.out.size));clear u0 v0 u1 v1;clear n9 cX hA hB nW;have hA:=hA9;have hB:=hB9;have nW:=nW9;clear hA9 hB9 nW9;cases S
 ·rw [Bool.false_and]at hR
  have fin:=Lib.hid (hR.out _ nW.out);clear hR;go_wp2_with fail
  exact fin.out
 ·rw [Bool.true_and]at hR
  have u2:=(Lib.cell_of_heap hA.out 2).trans rfl;have v2:=(Lib.cell_of_heap hB.out 2).trans rfl
  by_cases c:p.bare=q.bare
  ·have q2:(p.bare==q.bare)=true:=by simpa using c
   rw [q2,Bool.true_and]at hR;clear c;have u4:=(Lib.cell_of_heap hA.out 4).trans rfl;have v4:=(Lib.cell_of_heap hB.out 4).trans rfl
   by_cases c:p.wide=q.wide
   ·have q4:(p.wide==q.wide)=true:=by simpa using c
    rw [decide_eq_true c,Bool.true_and]at hR;clear c;have u3:=(Lib.cell_of_heap hA.out 3).trans rfl;have v3:=(Lib.cell_of_heap hB.out 3).trans rfl;have cX:=Lib.hid fun R hR=>eqw_calls p.label q.label l1 (.slice A1 p.label.length n1) (.slice A3 q.label.length n3) w1_ (hl.out.below nW.out) (hl'.out.below nW.out) R hR
    generalize sameW p.label q.label=S at *;go_wp2_with fail
    refine cX.out _ (Lib.hid fun w2_ n9=>?_);have hA9:=Lib.hid ((n9.block _ (blt_of hA.out)).trans hA.out);have hB9:=Lib.hid ((n9.block _ (blt_of hB.out)).trans hB.out);have nW9:=Lib.hid (nW.out.trans (n9.mono nW.out.size));clear u2 v2 u4 v4 u3 v3;clear n9 cX hA hB nW;have hA:=hA9;have hB:=hB9;have nW:=nW9;clear hA9 hB9 nW9;cases S
    ·rw [Bool.false_and]at hR
     have fin:=Lib.hid (hR.out _ nW.out);clear hR;go_wp2_with fail
     exact fin.out
    ·rw [Bool.true_and]at hR
     have u5:=(Lib.cell_of_heap hA.out 5).trans rfl;have v5:=(Lib.cell_of_heap hB.out 5).trans rfl;have u6:=(Lib.cell_of_heap hA.out 6).trans rfl;have v6:=(Lib.cell_of_heap hB.out 6).trans rfl;have u7:=(Lib.cell_of_heap hA.out 7).trans rfl;have v7:=(Lib.cell_of_heap hB.out 7).trans rfl;have u8:=(Lib.cell_of_heap hA.out 8).trans rfl;have v8:=(Lib.cell_of_heap hB.out 8).trans rfl;have cX:=Lib.hid fun R hR=>sameCoarse_calls p.ck p.cn p.cat q.ck q.cn q.cat p.cl q.cl (.slice A2 p.cl.length n2) (.slice A4 q.cl.length n4) w2_ l2 (hc.out.below nW.out) (hc'.out.below nW.out) R hR
     generalize coarI p.ck p.cn q.ck q.cn p.cl q.cl=S at *;go_wp2_with fail
     refine cX.out _ (Lib.hid fun w3_ n9=>?_);have hA9:=Lib.hid ((n9.block _ (blt_of hA.out)).trans hA.out);have hB9:=Lib.hid ((n9.block _ (blt_of hB.out)).trans hB.out);have nW9:=Lib.hid (nW.out.trans (n9.mono nW.out.size));clear u5 v5 u6 v6 u7 v7 u8 v8;clear n9 cX hA hB nW;have hA:=hA9;have hB:=hB9;have nW:=nW9;clear hA9 hB9 nW9;cases S
     ·rw [Bool.false_and]at hR
      have fin:=Lib.hid (hR.out _ nW.out);clear hR;go_wp2_with fail
      exact fin.out
     ·rw [Bool.true_and]at hR
      have r9:w3_.rangeAt w.heap.size 9 [.int .i64 x.kind,.int .i64 x.at_,.int .i64 x.lo,.int .i64 x.hi,.int .i64 x.most,.slice A5 x.names.length n5,.slice A7 kd.len n7,.string x.name,.int .i64 x.nat]:=fun j v h=>by rw [Lib.cell_of_heap hA.out,List.getElem?_toArray,←List.getElem?_drop];exact h
      have s9:w3_.rangeAt (w.heap.size+1) 9 [.int .i64 y.kind,.int .i64 y.at_,.int .i64 y.lo,.int .i64 y.hi,.int .i64 y.most,.slice A6 y.names.length n6,.slice A8 ls.len n8,.string y.name,.int .i64 y.nat]:=fun j v h=>by rw [Lib.cell_of_heap hB.out,List.getElem?_toArray,←List.getElem?_drop];exact h
      have cX:=Lib.hid fun R hR=>hS.out x y ls (.slice A5 x.names.length n5) (.slice A7 kd.len n7) (.slice A6 y.names.length n6) (.slice A8 ls.len n8) w3_ l3 l4 hga.out (hy.out.below nW.out) (hy'.out.below nW.out) R hR
      generalize sameS x kd y ls=S at *;go_wp2_with (first|(refine wpList_load_g (by rfl) 36 _ rfl w.heap.size 9 rfl [.int .i64 x.kind,.int .i64 x.at_,.int .i64 x.lo,.int .i64 x.hi,.int .i64 x.most,.slice A5 x.names.length n5,.slice A7 kd.len n7,.string x.name,.int .i64 x.nat] _ r9 Tryz.underlying36 rfl (by kernel_rfl) ?_;go_simp)|(refine wpList_load_g (by rfl) 36 _ rfl (w.heap.size+1) 9 rfl [.int .i64 y.kind,.int .i64 y.at_,.int .i64 y.lo,.int .i64 y.hi,.int .i64 y.most,.slice A6 y.names.length n6,.slice A8 ls.len n8,.string y.name,.int .i64 y.nat] _ s9 Tryz.underlying36 rfl (by kernel_rfl) ?_;go_simp))
      clear r9 s9;refine cX.out _ (Lib.hid fun w4_ n9=>?_);have hA9:=Lib.hid ((n9.block _ (blt_of hA.out)).trans hA.out);have hB9:=Lib.hid ((n9.block _ (blt_of hB.out)).trans hB.out);have nW9:=Lib.hid (nW.out.trans (n9.mono nW.out.size));clear n9 cX hA hB nW;have hA:=hA9;have hB:=hB9;have nW:=nW9;clear hA9 hB9 nW9;have fin:=Lib.hid (hR.out _ nW.out);clear hR;go_wp2_with fail
      exact fin.out
   ·have q:(p.wide==q.wide)=false:=by simpa using c
    have fin:=Lib.hid (hR.out _ nW.out);rw [decide_eq_false c,Bool.false_and]at fin;clear hR c;go_wp2_with fail
    exact fin.out
  ·have q:(p.bare==q.bare)=false:=by simpa using c
   have fin:=Lib.hid (hR.out _ nW.out);rw [q,Bool.false_and]at fin;clear hR c;go_wp2_with fail
   exact fin.out
theorem eqp_calls(f:Ft)(ih:Fo.AllK SameC f)(g:Ft)(pv pv':Value)(w:World)(hfl:f.len≤maxLen)(hga:f.All GoodH GoodL)(hp:RdP w pv f)(hp':RdP w pv' g)(R:Ending→World→Prop)(hR:Hid (∀w',Below w.heap.size w w'→R (.returned (.bool (sameF f g))) w')):Calls Tryz.prog 386 #[pv,pv',.func (.func 370) #[] #[]] w R:=by
 replace hfl:f.len≤9223372036854775807:=hfl;obtain⟨Ap,cp,rfl,-⟩:=hp.sl;obtain⟨Ap',cp',rfl,-⟩:=hp'.sl
 by_cases hl:f.len=g.len
 ·have q1:((f.len:Int) != (g.len:Int))=false:=by simp [hl]
  have hs:sameF f g=sameF (f.drop 0) (g.drop 0):=rfl;replace hp:=Lib.hid hp;replace hp':=Lib.hid hp';replace hl:=Lib.hid hl;replace hga:=Lib.hid hga;replace ih:=Lib.hid ih;go_enter Tryz.func386,Tryz.ntmps386
  go_wp2_with fail
  go_loopg [17] f.len (fun g0 i wr=>∃K:Nat,i=.int .i64 K∧K+g0=f.len∧Hid (Below w.heap.size w wr)∧sameF f g=sameF (f.drop K) (g.drop K))
  case atStart=>exact⟨0,rfl,by omega,Lib.hid (Below.refl _ _),hs⟩
  case round =>
   obtain⟨K,rfl,e1,nb,e2⟩:=hrel
   by_cases hK:K<f.len
   ·have hK':K<g.len:=by have:=hl.out;omega
    obtain⟨p,x,kd,r,e⟩:=Fo.drop_lt hK;obtain⟨q,y,ls,s,e'⟩:=Fo.drop_lt hK';obtain⟨ga,oa,lv,cv,nx,px,rfl,hga',hlv,hcv,hyx,hc⟩:=(hp.out).part e;obtain⟨gb,ob,lv',cv',ny,py,rfl,hgb',hlv',hcv',hyy,hc'⟩:=(hp'.out).part e';obtain⟨A1,n1,rfl,-,-⟩:=hlv.op;obtain⟨A2,n2,rfl,-,-⟩:=hcv.op;obtain⟨A3,n3,rfl,-,-⟩:=hlv'.op;obtain⟨A4,n4,rfl,-,-⟩:=hcv'.op;obtain⟨A5,n5,rfl,-,-⟩:=hyx.n.op;obtain⟨A6,n6,rfl,-,-⟩:=hyy.n.op;obtain⟨A7,n7,rfl,-⟩:=hyx.p.sl;obtain⟨A8,n8,rfl,-⟩:=hyy.p.sl;obtain⟨gp,gx,gk',ga2⟩:=all_at K hga.out e;have ihK:=Lib.hid ((ih.out).at_ e);rw [e,e']at e2;have d1:=Fo.drop_succ K e;have d2:=Fo.drop_succ K e';have e3:sameF f g=((decide (p.name=q.name)&&plainB p q&&sameS x kd y ls)&&sameF r s):=e2;clear e2 e e';have i0:(0:Int)≤(K:Int):=by omega
    have i1:(K:Int)<(f.len:Int):=by omega
    have i2:(K:Int)<(g.len:Int):=by omega
    have b1:=(Below.refl wr.heap.size wr).alloc (Nat.le_refl _) (.cells #[.string p.name,.int .i64 p.at_,.bool p.bare,.slice A1 p.label.length n1,.int .i64 p.wide,.int .i64 p.ck,.int .i64 p.cn,.int .i64 p.cat,.slice A2 p.cl.length n2,.int .i64 x.kind,.int .i64 x.at_,.int .i64 x.lo,.int .i64 x.hi,.int .i64 x.most,.slice A5 x.names.length n5,.slice A7 kd.len n7,.string x.name,.int .i64 x.nat] 127);have b2:=b1.alloc b1.size (.cells #[.string q.name,.int .i64 q.at_,.bool q.bare,.slice A3 q.label.length n3,.int .i64 q.wide,.int .i64 q.ck,.int .i64 q.cn,.int .i64 q.cat,.slice A4 q.cl.length n4,.int .i64 y.kind,.int .i64 y.at_,.int .i64 y.lo,.int .i64 y.hi,.int .i64 y.most,.slice A6 y.names.length n6,.slice A8 ls.len n8,.string y.name,.int .i64 y.nat] 127);have hz:(wr.alloc (.cells #[.string p.name,.int .i64 p.at_,.bool p.bare,.slice A1 p.label.length n1,.int .i64 p.wide,.int .i64 p.ck,.int .i64 p.cn,.int .i64 p.cat,.slice A2 p.cl.length n2,.int .i64 x.kind,.int .i64 x.at_,.int .i64 x.lo,.int .i64 x.hi,.int .i64 x.most,.slice A5 x.names.length n5,.slice A7 kd.len n7,.string x.name,.int .i64 x.nat] 127)).heap.size=wr.heap.size+1:=by simp
    have f1:=(((Below.refl _ _).alloc (Nat.le_refl _) (.cells #[.string q.name,.int .i64 q.at_,.bool q.bare,.slice A3 q.label.length n3,.int .i64 q.wide,.int .i64 q.ck,.int .i64 q.cn,.int .i64 q.cat,.slice A4 q.cl.length n4,.int .i64 y.kind,.int .i64 y.at_,.int .i64 y.lo,.int .i64 y.hi,.int .i64 y.most,.slice A6 y.names.length n6,.slice A8 ls.len n8,.string y.name,.int .i64 y.nat] 127)).block wr.heap.size (by omega)).trans (heap_alloc_new wr (.cells #[.string p.name,.int .i64 p.at_,.bool p.bare,.slice A1 p.label.length n1,.int .i64 p.wide,.int .i64 p.ck,.int .i64 p.cn,.int .i64 p.cat,.slice A2 p.cl.length n2,.int .i64 x.kind,.int .i64 x.at_,.int .i64 x.lo,.int .i64 x.hi,.int .i64 x.most,.slice A5 x.names.length n5,.slice A7 kd.len n7,.string x.name,.int .i64 x.nat] 127));have f2:=heap_alloc_new (wr.alloc (.cells #[.string p.name,.int .i64 p.at_,.bool p.bare,.slice A1 p.label.length n1,.int .i64 p.wide,.int .i64 p.ck,.int .i64 p.cn,.int .i64 p.cat,.slice A2 p.cl.length n2,.int .i64 x.kind,.int .i64 x.at_,.int .i64 x.lo,.int .i64 x.hi,.int .i64 x.most,.slice A5 x.names.length n5,.slice A7 kd.len n7,.string x.name,.int .i64 x.nat] 127)) (.cells #[.string q.name,.int .i64 q.at_,.bool q.bare,.slice A3 q.label.length n3,.int .i64 q.wide,.int .i64 q.ck,.int .i64 q.cn,.int .i64 q.cat,.slice A4 q.cl.length n4,.int .i64 y.kind,.int .i64 y.at_,.int .i64 y.lo,.int .i64 y.hi,.int .i64 y.most,.slice A6 y.names.length n6,.slice A8 ls.len n8,.string y.name,.int .i64 y.nat] 127);rw [hz]at f2;have ra:wr.rangeAt ga (oa+K*18) [.string p.name,.int .i64 p.at_,.bool p.bare,.slice A1 p.label.length n1,.int .i64 p.wide,.int .i64 p.ck,.int .i64 p.cn,.int .i64 p.cat,.slice A2 p.cl.length n2,.int .i64 x.kind,.int .i64 x.at_,.int .i64 x.lo,.int .i64 x.hi,.int .i64 x.most,.slice A5 x.names.length n5,.slice A7 kd.len n7,.string x.name,.int .i64 x.nat]:=fun j v h=>(nb.out.cell (p:=⟨ga,oa+K*18+j,none⟩) hga').trans (hc j v h)
    have rb:(wr.alloc (.cells #[.string p.name,.int .i64 p.at_,.bool p.bare,.slice A1 p.label.length n1,.int .i64 p.wide,.int .i64 p.ck,.int .i64 p.cn,.int .i64 p.cat,.slice A2 p.cl.length n2,.int .i64 x.kind,.int .i64 x.at_,.int .i64 x.lo,.int .i64 x.hi,.int .i64 x.most,.slice A5 x.names.length n5,.slice A7 kd.len n7,.string x.name,.int .i64 x.nat] 127)).rangeAt gb (ob+K*18) [.string q.name,.int .i64 q.at_,.bool q.bare,.slice A3 q.label.length n3,.int .i64 q.wide,.int .i64 q.ck,.int .i64 q.cn,.int .i64 q.cat,.slice A4 q.cl.length n4,.int .i64 y.kind,.int .i64 y.at_,.int .i64 y.lo,.int .i64 y.hi,.int .i64 y.most,.slice A6 y.names.length n6,.slice A8 ls.len n8,.string y.name,.int .i64 y.nat]:=fun j v h=>(b1.cell (p:=⟨gb,ob+K*18+j,none⟩) (Nat.lt_of_lt_of_le hgb' nb.out.size)).trans ((nb.out.cell (p:=⟨gb,ob+K*18+j,none⟩) hgb').trans (hc' j v h))
    have nV:=Lib.hid (nb.out.trans (b2.mono nb.out.size));have cS:=Lib.hid fun(W:World) (nW:Below w.heap.size w W) R hR=>samePart_calls kd ihK.out p q x y ls (.slice A1 p.label.length n1) (.slice A2 p.cl.length n2) (.slice A5 x.names.length n5) (.slice A7 kd.len n7) (.slice A3 q.label.length n3) (.slice A4 q.cl.length n4) (.slice A6 y.names.length n6) (.slice A8 ls.len n8) W gp.2.2.2.2.2.2.2.2.1 gp.2.2.2.2.2.2.2.2.2 gx.2.2.2.2.2.2.2.2 gk' ga2 (hlv.below nW) (hcv.below nW) (hyx.below nW) (hlv'.below nW) (hcv'.below nW) (hyy.below nW) R hR
    clear hc hc' hlv hcv hlv' hcv' hyx hyy hga' hgb' gp gx gk' ga2 ihK b1 b2;generalize(decide (p.name=q.name)&&plainB p q&&sameS x kd y ls)=S at *;go_upto_region 6 with(first|(refine wpList_load_g (by rfl) 127 _ rfl ga (oa+K*18) rfl [.string p.name,.int .i64 p.at_,.bool p.bare,.slice A1 p.label.length n1,.int .i64 p.wide,.int .i64 p.ck,.int .i64 p.cn,.int .i64 p.cat,.slice A2 p.cl.length n2,.int .i64 x.kind,.int .i64 x.at_,.int .i64 x.lo,.int .i64 x.hi,.int .i64 x.most,.slice A5 x.names.length n5,.slice A7 kd.len n7,.string x.name,.int .i64 x.nat] _ ra Tryz.underlying127 rfl (by kernel_rfl) ?_;go_simp)|(refine wpList_copy3 #[.string p.name,.int .i64 p.at_,.bool p.bare,.slice A1 p.label.length n1,.int .i64 p.wide,.int .i64 p.ck,.int .i64 p.cn,.int .i64 p.cat,.slice A2 p.cl.length n2,.int .i64 x.kind,.int .i64 x.at_,.int .i64 x.lo,.int .i64 x.hi,.int .i64 x.most,.slice A5 x.names.length n5,.slice A7 kd.len n7,.string x.name,.int .i64 x.nat] _ ⟨rfl,rfl,rfl⟩ rfl (fun _ _=>rfl) ⟨rfl,rfl,rfl⟩ part_alloc (by kernel_rfl) ⟨rfl,by simp [Value.oneCell']⟩ (fun _=>⟨rfl,rfl⟩) ?_;go_simp))
    clear ra;generalize wr.alloc (.cells #[.string p.name,.int .i64 p.at_,.bool p.bare,.slice A1 p.label.length n1,.int .i64 p.wide,.int .i64 p.ck,.int .i64 p.cn,.int .i64 p.cat,.slice A2 p.cl.length n2,.int .i64 x.kind,.int .i64 x.at_,.int .i64 x.lo,.int .i64 x.hi,.int .i64 x.most,.slice A5 x.names.length n5,.slice A7 kd.len n7,.string x.name,.int .i64 x.nat] 127)=V1 at *;go_upto_region 7 with(first|(refine wpList_load_g (by rfl) 127 _ rfl gb (ob+K*18) rfl [.string q.name,.int .i64 q.at_,.bool q.bare,.slice A3 q.label.length n3,.int .i64 q.wide,.int .i64 q.ck,.int .i64 q.cn,.int .i64 q.cat,.slice A4 q.cl.length n4,.int .i64 y.kind,.int .i64 y.at_,.int .i64 y.lo,.int .i64 y.hi,.int .i64 y.most,.slice A6 y.names.length n6,.slice A8 ls.len n8,.string y.name,.int .i64 y.nat] _ rb Tryz.underlying127 rfl (by kernel_rfl) ?_;go_simp)|(refine wpList_copy #[.string q.name,.int .i64 q.at_,.bool q.bare,.slice A3 q.label.length n3,.int .i64 q.wide,.int .i64 q.ck,.int .i64 q.cn,.int .i64 q.cat,.slice A4 q.cl.length n4,.int .i64 y.kind,.int .i64 y.at_,.int .i64 y.lo,.int .i64 y.hi,.int .i64 y.most,.slice A6 y.names.length n6,.slice A8 ls.len n8,.string y.name,.int .i64 y.nat] ⟨rfl,rfl,rfl⟩ ⟨rfl,rfl,rfl⟩ part_alloc (by kernel_rfl) ⟨rfl,by simp [Value.oneCell']⟩ (fun _=>⟨rfl,rfl⟩) ?_;go_simp))
    clear rb;generalize V1.alloc (.cells #[.string q.name,.int .i64 q.at_,.bool q.bare,.slice A3 q.label.length n3,.int .i64 q.wide,.int .i64 q.ck,.int .i64 q.cn,.int .i64 q.cat,.slice A4 q.cl.length n4,.int .i64 y.kind,.int .i64 y.at_,.int .i64 y.lo,.int .i64 y.hi,.int .i64 y.most,.slice A6 y.names.length n6,.slice A8 ls.len n8,.string y.name,.int .i64 y.nat] 127)=V2 at *;generalize wr.heap.size=B8 at *;clear hz;have r8:V2.rangeAt B8 0 [.string p.name,.int .i64 p.at_,.bool p.bare,.slice A1 p.label.length n1,.int .i64 p.wide,.int .i64 p.ck,.int .i64 p.cn,.int .i64 p.cat,.slice A2 p.cl.length n2,.int .i64 x.kind,.int .i64 x.at_,.int .i64 x.lo,.int .i64 x.hi,.int .i64 x.most,.slice A5 x.names.length n5,.slice A7 kd.len n7,.string x.name,.int .i64 x.nat]:=fun j v h=>by rw [Nat.zero_add,Lib.cell_of_heap f1];simpa using h
    have r9:V2.rangeAt (B8+1) 0 [.string q.name,.int .i64 q.at_,.bool q.bare,.slice A3 q.label.length n3,.int .i64 q.wide,.int .i64 q.ck,.int .i64 q.cn,.int .i64 q.cat,.slice A4 q.cl.length n4,.int .i64 y.kind,.int .i64 y.at_,.int .i64 y.lo,.int .i64 y.hi,.int .i64 y.most,.slice A6 y.names.length n6,.slice A8 ls.len n8,.string y.name,.int .i64 y.nat]:=fun j v h=>by rw [Nat.zero_add,Lib.cell_of_heap f2];simpa using h
    clear f1 f2;go_wp2_with (first|(refine wpList_load_g (by rfl) 127 _ rfl B8 0 rfl [.string p.name,.int .i64 p.at_,.bool p.bare,.slice A1 p.label.length n1,.int .i64 p.wide,.int .i64 p.ck,.int .i64 p.cn,.int .i64 p.cat,.slice A2 p.cl.length n2,.int .i64 x.kind,.int .i64 x.at_,.int .i64 x.lo,.int .i64 x.hi,.int .i64 x.most,.slice A5 x.names.length n5,.slice A7 kd.len n7,.string x.name,.int .i64 x.nat] _ r8 Tryz.underlying127 rfl (by kernel_rfl) ?_;go_simp)|(refine wpList_load_g (by rfl) 127 _ rfl (B8+1) 0 rfl [.string q.name,.int .i64 q.at_,.bool q.bare,.slice A3 q.label.length n3,.int .i64 q.wide,.int .i64 q.ck,.int .i64 q.cn,.int .i64 q.cat,.slice A4 q.cl.length n4,.int .i64 y.kind,.int .i64 y.at_,.int .i64 y.lo,.int .i64 y.hi,.int .i64 y.most,.slice A6 y.names.length n6,.slice A8 ls.len n8,.string y.name,.int .i64 y.nat] _ r9 Tryz.underlying127 rfl (by kernel_rfl) ?_;go_simp))
    refine cS.out _ nV.out _ (Lib.hid fun w5 n5=>?_);have nb5:=Lib.hid (nV.out.trans (n5.mono nV.out.size));clear n5 nV cS r8 r9 nb;cases S
    ·have e4:sameF f g=false:=e3
     have fin:=Lib.hid (hR.out _ nb5.out);rw [e4]at fin;clear hR e3 e4;go_wp2_with fail
     exact fin.out
    ·have e4:sameF f g=sameF (f.drop (K+1)) (g.drop (K+1)):=by rw [e3,d1,d2];rfl
     clear e3 d1 d2;go_wp2_with fail
     go_roundg (gk-1)
     case measure=>omega
     case rel=>exact⟨K+1,by go_num,by omega,nb5,e4⟩
   ·have hK2:g.len≤K:=by have:=hl.out;omega
    have e3:sameF f g=true:=by rw [e2,Fo.drop_all (by omega),Fo.drop_all hK2];rfl
    have fin:=Lib.hid (hR.out _ nb.out);rw [e3]at fin;obtain rfl:K=f.len:=by omega
    clear e2 hR;go_wp2_with fail
    exact fin.out
 ·have q1:((f.len:Int) != (g.len:Int))=true:=by simp;omega
  have e3:sameF f g=false:=by
   cases hs:sameF f g
   ·rfl
   ·exact absurd (sameF_len hs) hl
  have fin:=Lib.hid (hR.out _ (Below.refl _ _));rw [e3]at fin;clear hl hR hp hp' ih hga;go_enter Tryz.func386,Tryz.ntmps386
  go_wp2_with fail
  exact fin.out
theorem sameC_step(f:Ft)(ih:Fo.AllK SameC f):SameC f:=by
 intro h h' g nv pv nv' pv' w hm hfl hga hy hy' R hR;obtain⟨An,cn,rfl,-,-⟩:=hy.n.op;obtain⟨An',cn',rfl,-,-⟩:=hy'.n.op;obtain⟨Ap,cp,rfl,-⟩:=hy.p.sl;obtain⟨Ap',cp',rfl,-⟩:=hy'.p.sl;have bA:=(Below.refl w.heap.size w).alloc (Nat.le_refl _) (.cells #[.int .i64 h.kind,.int .i64 h.at_,.int .i64 h.lo,.int .i64 h.hi,.int .i64 h.most,.slice An h.names.length cn,.slice Ap f.len cp,.string h.name,.int .i64 h.nat] 36);have bB:=bA.alloc bA.size (.cells #[.int .i64 h'.kind,.int .i64 h'.at_,.int .i64 h'.lo,.int .i64 h'.hi,.int .i64 h'.most,.slice An' h'.names.length cn',.slice Ap' g.len cp',.string h'.name,.int .i64 h'.nat] 36);have hz:(w.alloc (.cells #[.int .i64 h.kind,.int .i64 h.at_,.int .i64 h.lo,.int .i64 h.hi,.int .i64 h.most,.slice An h.names.length cn,.slice Ap f.len cp,.string h.name,.int .i64 h.nat] 36)).heap.size=w.heap.size+1:=by simp
 have hA:=(((Below.refl _ _).alloc (Nat.le_refl _) (.cells #[.int .i64 h'.kind,.int .i64 h'.at_,.int .i64 h'.lo,.int .i64 h'.hi,.int .i64 h'.most,.slice An' h'.names.length cn',.slice Ap' g.len cp',.string h'.name,.int .i64 h'.nat] 36)).block w.heap.size (by omega)).trans (heap_alloc_new w (.cells #[.int .i64 h.kind,.int .i64 h.at_,.int .i64 h.lo,.int .i64 h.hi,.int .i64 h.most,.slice An h.names.length cn,.slice Ap f.len cp,.string h.name,.int .i64 h.nat] 36));have hB:=heap_alloc_new (w.alloc (.cells #[.int .i64 h.kind,.int .i64 h.at_,.int .i64 h.lo,.int .i64 h.hi,.int .i64 h.most,.slice An h.names.length cn,.slice Ap f.len cp,.string h.name,.int .i64 h.nat] 36)) (.cells #[.int .i64 h'.kind,.int .i64 h'.at_,.int .i64 h'.lo,.int .i64 h'.hi,.int .i64 h'.most,.slice An' h'.names.length cn',.slice Ap' g.len cp',.string h'.name,.int .i64 h'.nat] 36);rw [hz]at hB;rw [head_eq]at hR;replace hy:=Lib.hid hy;replace hy':=Lib.hid hy';replace hga:=Lib.hid hga;replace ih:=Lib.hid ih;go_enter Tryz.func369,Tryz.ntmps369
 go_upto_region 1 with fail
 generalize(w.alloc (.cells #[.int .i64 h.kind,.int .i64 h.at_,.int .i64 h.lo,.int .i64 h.hi,.int .i64 h.most,.slice An h.names.length cn,.slice Ap f.len cp,.string h.name,.int .i64 h.nat] 36)).alloc (.cells #[.int .i64 h'.kind,.int .i64 h'.at_,.int .i64 h'.lo,.int .i64 h'.hi,.int .i64 h'.most,.slice An' h'.names.length cn',.slice Ap' g.len cp',.string h'.name,.int .i64 h'.nat] 36)=V at *;replace hA:=Lib.hid hA;replace hB:=Lib.hid hB;have nW:=Lib.hid bB;clear bA bB hz;have u0:=(Lib.cell_of_heap hA.out 0).trans rfl;have v0:=(Lib.cell_of_heap hB.out 0).trans rfl
 by_cases c:h.kind=h'.kind
 ·have q0:(h.kind==h'.kind)=true:=by simpa using c
  rw [decide_eq_true c,Bool.true_and]at hR;clear c;have u2:=(Lib.cell_of_heap hA.out 2).trans rfl;have v2:=(Lib.cell_of_heap hB.out 2).trans rfl
  by_cases c:h.lo=h'.lo
  ·have q2:(h.lo==h'.lo)=true:=by simpa using c
   rw [decide_eq_true c,Bool.true_and]at hR;clear c;have u3:=(Lib.cell_of_heap hA.out 3).trans rfl;have v3:=(Lib.cell_of_heap hB.out 3).trans rfl
   by_cases c:h.hi=h'.hi
   ·have q3:(h.hi==h'.hi)=true:=by simpa using c
    rw [decide_eq_true c,Bool.true_and]at hR;clear c;have u4:=(Lib.cell_of_heap hA.out 4).trans rfl;have v4:=(Lib.cell_of_heap hB.out 4).trans rfl
    by_cases c:h.most=h'.most
    ·have q4:(h.most==h'.most)=true:=by simpa using c
     rw [decide_eq_true c,Bool.true_and]at hR;clear c;have u7:=(Lib.cell_of_heap hA.out 7).trans rfl;have v7:=(Lib.cell_of_heap hB.out 7).trans rfl;have u8:=(Lib.cell_of_heap hA.out 8).trans rfl;have v8:=(Lib.cell_of_heap hB.out 8).trans rfl;have cX:=Lib.hid fun R hR=>sameWord_calls h.name h'.name h.nat h'.nat V R hR
     generalize decide (h.name=h'.name)=S at *;go_wp2_with fail
     refine cX.out _ (Lib.hid fun w1_ n9=>?_);have hA9:=Lib.hid ((n9.block _ (blt_of hA.out)).trans hA.out);have hB9:=Lib.hid ((n9.block _ (blt_of hB.out)).trans hB.out);have nW9:=Lib.hid (nW.out.trans (n9.mono nW.out.size));clear u0 v0 u2 v2 u3 v3 u4 v4 u7 v7 u8 v8;clear n9 cX hA hB nW;have hA:=hA9;have hB:=hB9;have nW:=nW9;clear hA9 hB9 nW9;cases S
     ·rw [Bool.false_and]at hR
      have fin:=Lib.hid (hR.out _ nW.out);clear hR;go_wp2_with fail
      exact fin.out
     ·rw [Bool.true_and]at hR
      have u5:=(Lib.cell_of_heap hA.out 5).trans rfl;have v5:=(Lib.cell_of_heap hB.out 5).trans rfl;have cX:=Lib.hid fun R hR=>eqw_calls h.names h'.names hm (.slice An h.names.length cn) (.slice An' h'.names.length cn') w1_ (hy.out.below nW.out).n (hy'.out.below nW.out).n R hR
      generalize sameW h.names h'.names=S at *;go_wp2_with fail
      refine cX.out _ (Lib.hid fun w2_ n9=>?_);have hA9:=Lib.hid ((n9.block _ (blt_of hA.out)).trans hA.out);have hB9:=Lib.hid ((n9.block _ (blt_of hB.out)).trans hB.out);have nW9:=Lib.hid (nW.out.trans (n9.mono nW.out.size));clear u5 v5;clear n9 cX hA hB nW;have hA:=hA9;have hB:=hB9;have nW:=nW9;clear hA9 hB9 nW9;cases S
      ·rw [Bool.false_and]at hR
       have fin:=Lib.hid (hR.out _ nW.out);clear hR;go_wp2_with fail
       exact fin.out
      ·rw [Bool.true_and]at hR
       have u6:=(Lib.cell_of_heap hA.out 6).trans rfl;have v6:=(Lib.cell_of_heap hB.out 6).trans rfl;have cX:=Lib.hid fun R hR=>eqp_calls f ih.out g (.slice Ap f.len cp) (.slice Ap' g.len cp') w2_ hfl hga.out (hy.out.below nW.out).p (hy'.out.below nW.out).p R hR
       generalize sameF f g=S at *;go_wp2_with fail
       refine cX.out _ (Lib.hid fun w3_ n9=>?_);have hA9:=Lib.hid ((n9.block _ (blt_of hA.out)).trans hA.out);have hB9:=Lib.hid ((n9.block _ (blt_of hB.out)).trans hB.out);have nW9:=Lib.hid (nW.out.trans (n9.mono nW.out.size));clear u6 v6;clear n9 cX hA hB nW;have hA:=hA9;have hB:=hB9;have nW:=nW9;clear hA9 hB9 nW9;have fin:=Lib.hid (hR.out _ nW.out);clear hR;go_wp2_with fail
       exact fin.out
    ·have q:(h.most==h'.most)=false:=by simpa using c
     have fin:=Lib.hid (hR.out _ nW.out);rw [decide_eq_false c,Bool.false_and]at fin;clear hR c;go_wp2_with fail
     exact fin.out
   ·have q:(h.hi==h'.hi)=false:=by simpa using c
    have fin:=Lib.hid (hR.out _ nW.out);rw [decide_eq_false c,Bool.false_and]at fin;clear hR c;go_wp2_with fail
    exact fin.out
  ·have q:(h.lo==h'.lo)=false:=by simpa using c
   have fin:=Lib.hid (hR.out _ nW.out);rw [decide_eq_false c,Bool.false_and]at fin;clear hR c;go_wp2_with fail
   exact fin.out
 ·have q:(h.kind==h'.kind)=false:=by simpa using c
  have fin:=Lib.hid (hR.out _ nW.out);rw [decide_eq_false c,Bool.false_and]at fin;clear hR c;go_wp2_with fail
  exact fin.out
theorem sameC_calls(f:Ft):SameC f:=Fo.deep sameC_step f
end Go.Proofs.YtabhkakomececaaGreat.Kin
