import Derived.Test.YtabhkakomececaaGreatQ1
import Derived.Test.YtabhkakomececaaGreatQ2
import Derived.Deep.Cut
set_option linter.all false
set_option maxRecDepth 100000
set_option maxHeartbeats 4000000
namespace Go.Proofs.YtabhkakomececaaGreat.Kin
open Go.RowKit Go.Lib Utf Nam Lat
theorem sq_t{a b:ByteArray}(h:a=b):(a.toList==b.toList)=true:=by rw [h];simp
theorem sq_f{a b:ByteArray}(h:a≠b):(a.toList==b.toList)=false:=by rw [bl_inj,decide_eq_false (fun e=>h (bl_ext e))]
theorem nms_tail{a b:List Wr}(h:a.length=b.length)(i:Nat)(hi:i<a.length):(nms (a.drop i)=nms (b.drop i))↔((wN a i).1=(wN b i).1∧nms (a.drop (i+1))=nms (b.drop (i+1))):=by
 have ea:a.drop i=wN a i::a.drop (i+1):=by rw [wN_get hi];exact List.drop_eq_getElem_cons hi
 have eb:b.drop i=wN b i::b.drop (i+1):=by rw [wN_get (by omega)];exact List.drop_eq_getElem_cons (by omega)
 rw [ea,eb];simp [nms]
theorem words15_calls(a b:List Wr)(hm:a.length≤maxLen)(va vb:Value)(w:World)(ha:RdW w va a)(hb:RdW w vb b)(R:Ending→World→Prop)(hR:Hid (∀w',Below w.heap.size w w'→R (.returned (.bool (sameW a b))) w')):Calls Tryz.prog 234 #[va,vb] w R:=by
 replace hm:a.length≤9223372036854775807:=hm;obtain⟨A,ca,rfl,hca,hra⟩:=ha.op;obtain⟨B,cb,rfl,hcb,hrb⟩:=hb.op
 by_cases hl:a.length=b.length
 ·have q1:((a.length:Int) != (b.length:Int))=false:=by simp [hl]
  have hs:sameW a b=decide (nms (a.drop 0)=nms (b.drop 0)):=rfl;replace hra:=Lib.hid hra;replace hrb:=Lib.hid hrb;replace hl:=Lib.hid hl;clear ha hb;go_enter Tryz.func234,Tryz.ntmps234
  go_wp2_with fail
  go_loopg [5] a.length (fun g i wr=>∃K:Nat,i=.int .i64 K∧K+g=a.length∧Hid (Below w.heap.size w wr)∧sameW a b=decide (nms (a.drop K)=nms (b.drop K)))
  case atStart=>exact⟨0,rfl,by omega,Lib.hid (Below.refl _ _),hs⟩
  case round =>
   obtain⟨K,rfl,e1,nb,e2⟩:=hrel
   by_cases hK:K<a.length
   ·have hK2:K<b.length:=by have:=hl.out;omega
    obtain⟨ga,oa,rfl,hga,ca⟩:=hra.out (by omega);obtain⟨gb,ob,rfl,hgb,cb⟩:=hrb.out (by omega);have x0:=(nb.out.cell (p:=⟨ga,oa+K*2,none⟩) hga).trans (ca K hK).1;have y0:=(nb.out.cell (p:=⟨gb,ob+K*2,none⟩) hgb).trans (cb K hK2).1;have i0:(0:Int)≤(K:Int):=by omega
    have i1:(K:Int)<(a.length:Int):=by omega
    have i2:(K:Int)<(b.length:Int):=by omega
    have ht:=nms_tail hl.out K hK;clear ca cb
    by_cases hq:(wN a K).1=(wN b K).1
    ·have q2:=sq_t hq
     have e3:sameW a b=decide (nms (a.drop (K+1))=nms (b.drop (K+1))):=by rw [e2];exact decide_eq_decide.2 (ht.trans ⟨fun q=>q.2,fun q=>⟨hq,q⟩⟩)
     clear hq ht e2;generalize(wN a K).1=s at *;generalize(wN b K).1=t at *;go_wp2_with fail
     go_region;go_wp2_with fail
     go_roundg (gk-1)
     case measure=>omega
     case rel=>exact⟨K+1,by go_num,by omega,Lib.hid nb.out.drew,e3⟩
    ·have q2:=sq_f hq
     have e3:sameW a b=false:=by rw [e2,decide_eq_false_iff_not];rw [ht];exact fun q=>hq q.1
     have fin:=Lib.hid (hR.out _ nb.out.drew);rw [e3]at fin;clear hq ht e2 hR;generalize(wN a K).1=s at *;generalize(wN b K).1=t at *;go_wp2_with fail
     go_region;go_wp2_with fail
     exact fin.out
   ·have hK2:b.length≤K:=by have:=hl.out;omega
    have e3:sameW a b=true:=by rw [e2,List.drop_eq_nil_of_le (by omega),List.drop_eq_nil_of_le hK2];simp
    have fin:=Lib.hid (hR.out _ nb.out);rw [e3]at fin;obtain rfl:K=a.length:=by omega
    clear e2 hR;go_wp2_with fail
    exact fin.out
 ·have q1:((a.length:Int) != (b.length:Int))=true:=by simp;omega
  have e3:sameW a b=false:=by
   unfold sameW;rw [decide_eq_false_iff_not];intro q;have:=congrArg List.length q;rw [nms_len,nms_len]at this;exact hl this
  have fin:=Lib.hid (hR.out _ (Below.refl _ _));rw [e3]at fin;clear hl hR ha hb hra hrb;go_enter Tryz.func234,Tryz.ntmps234
  go_wp2_with fail
  exact fin.out
theorem lab_drop{l:List Wr}{i:Nat}(hi:i<l.length):labF (l.drop i)=if rightS (wN l i).1 then labF (l.drop (i+1))else(9,(wN l i).2):=by
 have ea:l.drop i=wN l i::l.drop (i+1):=by rw [wN_get hi];exact List.drop_eq_getElem_cons hi
 rw [ea];rfl
theorem label15_calls(a:List Wr)(hg:∀x∈a,GoodW x)(va:Value)(w:World)(ha:RdW w va a)(R:Ending→World→Prop)(hR:Hid (∀w',Below w.heap.size w w'→R (.returned (.agg #[.int .i64 (labelS a).1,.int .i64 (labelS a).2])) w')):Calls Tryz.prog 164 #[va] w R:=by
 obtain⟨A,ca,rfl,hca,hra⟩:=ha.op;have bA:=(Below.refl w.heap.size w).alloc (Nat.le_refl _) (.cells #[.int .i64 0,.int .i64 0] 26);have hA:(w.alloc (.cells #[.int .i64 0,.int .i64 0] 26)).heap[w.heap.size]?=some (.cells #[.int .i64 0,.int .i64 0] 26):=heap_alloc_new w _;have m0:=(Lib.cell_of_heap hA 0).trans rfl;have m1:=(Lib.cell_of_heap hA 1).trans rfl;have f0:=Lib.frozen_of_heap hA 0;have f1:=Lib.frozen_of_heap hA 1;replace hra:=Lib.hid hra;clear ha hA
 by_cases h32:32<a.length
 ·have e:labelS a=(8,(wN a 32).2):=if_pos h32
  obtain⟨ga,oa,rfl,hga,ca'⟩:=hra.out (by omega);have x0:=(bA.cell (p:=⟨ga,oa+32*2+1,none⟩) hga).trans (ca' 32 h32).2;rw [e]at hR;clear ca' hra hg;generalize(wN a 32).2=z at *;have i1:(32:Int)<(a.length:Int):=by omega
  have fin:=Lib.hid (hR.out _ (((Below.refl w.heap.size w).alloc (Nat.le_refl _) (.cells #[.int .i64 8,.int .i64 z] 26))));have hN:(w.alloc (.cells #[.int .i64 8,.int .i64 z] 26)).heap[w.heap.size]?=some (.cells #[.int .i64 8,.int .i64 z] 26):=heap_alloc_new w _;have n0:=(Lib.cell_of_heap hN 0).trans rfl;have n1:=(Lib.cell_of_heap hN 1).trans rfl;clear hR bA hN e h32;go_enter Tryz.func164,Tryz.ntmps164
  go_wp2_with fail
  refine bodyPost_ret ?_ rfl fin.out;simp [results,Tryz.results164,go_sem,m0,m1,n0,n1]
 ·have e:labelS a=labF (a.drop 0):=if_neg h32
  have i1:¬(32:Int)<(a.length:Int):=by omega
  have hs:=Nat.le_refl w.heap.size;have hlt:w.heap.size<(w.alloc (.cells #[.int .i64 0,.int .i64 0] 26)).heap.size:=by simp
  replace bA:=Lib.hid bA;go_enter Tryz.func164,Tryz.ntmps164
  go_wp2_with fail
  clear m0 m1 f0 f1;generalize hW:w.alloc (.cells #[.int .i64 0,.int .i64 0] 26)=W2 at *;have hA:W2.heap[w.heap.size]?=some (.cells #[.int .i64 0,.int .i64 0] 26):=by rw [←hW];exact heap_alloc_new w _
  clear hW;go_loopg [3] a.length (fun g i wr=>∃K:Nat,i=.int .i64 K∧K+g=a.length∧Hid (Below W2.heap.size W2 wr)∧labelS a=labF (a.drop K))
  case atStart=>exact⟨0,rfl,by omega,Lib.hid (Below.refl _ _),e⟩
  case round =>
   obtain⟨K,rfl,e1,nb,e2⟩:=hrel;have hB:=(nb.out.block _ hlt).trans hA;have m0:=(Lib.cell_of_heap hB 0).trans rfl;have m1:=(Lib.cell_of_heap hB 1).trans rfl;have f0:=Lib.frozen_of_heap hB 0;have f1:=Lib.frozen_of_heap hB 1;have nb2:=Lib.hid (bA.out.trans (nb.out.mono bA.out.size));clear e hB
   by_cases hK:K<a.length
   ·obtain⟨ga,oa,rfl,hga,ca'⟩:=hra.out (by omega)
    have x0:=(nb2.out.cell (p:=⟨ga,oa+K*2,none⟩) hga).trans (ca' K hK).1;have x1:=(nb2.out.cell (p:=⟨ga,oa+K*2+1,none⟩) hga).trans (ca' K hK).2;have i0:(0:Int)≤(K:Int):=by omega
    have i2:(K:Int)<(a.length:Int):=by omega
    have hz:=(hg _ (wN_mem hK)).1;rw [lab_drop hK]at e2;clear ca';generalize(wN a K).1=s at *;generalize(wN a K).2=z at *;have cR:=Lib.hid fun R hR=>refright_calls s hz wr R hR
    go_wp2_with fail
    refine cR.out _ (Lib.hid ?_);cases hr:rightS s
    ·rw [hr]at e2
     have fin:=Lib.hid (hR.out _ ((nb2.out.setCell (p:=⟨w.heap.size,0,none⟩) (Nat.le_refl _) (.int .i64 9)).setCell (p:=⟨w.heap.size,1,none⟩) (Nat.le_refl _) (.int .i64 z)));rw [e2,if_neg (by simp)]at fin;clear hR cR hr e2;go_wp2_with fail
     refine bodyPost_ret ?_ rfl fin.out;simp [results,Tryz.results164,go_sem,m0,m1]
    ·rw [hr,if_pos rfl]at e2
     clear cR hr;go_wp2_with fail
     go_roundg (gk-1)
     case measure=>omega
     case rel=>exact⟨K+1,by go_num,by omega,nb,e2⟩
   ·have e3:labelS a=(0,0):=by rw [e2,List.drop_eq_nil_of_le (by omega)];rfl
    have fin:=Lib.hid (hR.out _ ((nb2.out.setCell (p:=⟨w.heap.size,0,none⟩) (Nat.le_refl _) (.int .i64 0)).setCell (p:=⟨w.heap.size,1,none⟩) (Nat.le_refl _) (.int .i64 0)));rw [e3]at fin;obtain rfl:K=a.length:=by omega
    clear e2 hR;go_wp2_with fail
    refine bodyPost_ret ?_ rfl fin.out;simp [results,Tryz.results164,go_sem,m0,m1]
abbrev ptL(p:PH)(lv cv:Value)(h:TH)(nv pv:Value):List Value:=[.string p.name,.int .i64 p.at_,.bool p.bare,lv,.int .i64 p.wide,.int .i64 p.ck,.int .i64 p.cn,.int .i64 p.cat,cv,.int .i64 h.kind,.int .i64 h.at_,.int .i64 h.lo,.int .i64 h.hi,.int .i64 h.most,nv,pv,.string h.name,.int .i64 h.nat]
abbrev ptV(p:PH)(lv cv:Value)(h:TH)(nv pv:Value):Value:=.agg (ptL p lv cv h nv pv).toArray
structure PB(w:World)(B:Nat)(p:PH)(lv cv:Value):Prop where
lt:B<w.heap.size
k2:w.cell? ⟨B,2,none⟩=some (.bool p.bare)
k3:w.cell? ⟨B,3,none⟩=some lv
k4:w.cell? ⟨B,4,none⟩=some (.int .i64 p.wide)
k5:w.cell? ⟨B,5,none⟩=some (.int .i64 p.ck)
k6:w.cell? ⟨B,6,none⟩=some (.int .i64 p.cn)
k8:w.cell? ⟨B,8,none⟩=some cv
theorem PB.new(w:World)(p:PH)(lv cv:Value)(h:TH)(nv pv:Value)(t:TypeId):PB (w.alloc (.cells #[.string p.name,.int .i64 p.at_,.bool p.bare,lv,.int .i64 p.wide,.int .i64 p.ck,.int .i64 p.cn,.int .i64 p.cat,cv,.int .i64 h.kind,.int .i64 h.at_,.int .i64 h.lo,.int .i64 h.hi,.int .i64 h.most,nv,pv,.string h.name,.int .i64 h.nat] t)) w.heap.size p lv cv:=by
 have q:=heap_alloc_new w (.cells #[.string p.name,.int .i64 p.at_,.bool p.bare,lv,.int .i64 p.wide,.int .i64 p.ck,.int .i64 p.cn,.int .i64 p.cat,cv,.int .i64 h.kind,.int .i64 h.at_,.int .i64 h.lo,.int .i64 h.hi,.int .i64 h.most,nv,pv,.string h.name,.int .i64 h.nat] t);refine⟨by simp,?_,?_,?_,?_,?_,?_⟩ <;> (rw [Lib.cell_of_heap q];rfl)
theorem PB.below{w w':World}{B:Nat}{p:PH}{lv cv:Value}(h:PB w B p lv cv)(hb:Below w.heap.size w w'):PB w' B p lv cv :=
⟨Nat.lt_of_lt_of_le h.lt hb.size,(hb.cell (p:=⟨B,2,none⟩) h.lt).trans h.k2,(hb.cell (p:=⟨B,3,none⟩) h.lt).trans h.k3,(hb.cell (p:=⟨B,4,none⟩) h.lt).trans h.k4,(hb.cell (p:=⟨B,5,none⟩) h.lt).trans h.k5,(hb.cell (p:=⟨B,6,none⟩) h.lt).trans h.k6,(hb.cell (p:=⟨B,8,none⟩) h.lt).trans h.k8⟩
theorem plain15_calls(p q:PH)(lv cv lv' cv' nv pv nv' pv':Value)(h h':TH)(w:World)(l1:p.label.length≤maxLen)(l2:p.cl.length≤maxLen)(hl:RdW w lv p.label)(hc:RdW w cv p.cl)(hl':RdW w lv' q.label)(hc':RdW w cv' q.cl)(R:Ending→World→Prop)
  (hR:Hid (∀w',Below w.heap.size w w'→R (.returned (.bool (plainB p q))) w')):Calls Tryz.prog 168 #[ptV p lv cv h nv pv,ptV q lv' cv' h' nv' pv'] w R:=by
 have bA:=(Below.refl w.heap.size w).alloc (Nat.le_refl _) (.cells (ptL p lv cv h nv pv).toArray 127);have bB:=Lib.hid (bA.alloc bA.size (.cells (ptL q lv' cv' h' nv' pv').toArray 127));have kA:=Lib.hid ((PB.new w p lv cv h nv pv 127).below ((Below.refl _ _).alloc (Nat.le_refl _) (.cells (ptL q lv' cv' h' nv' pv').toArray 127)));have kB:=Lib.hid (PB.new (w.alloc (.cells (ptL p lv cv h nv pv).toArray 127)) q lv' cv' h' nv' pv' 127);have hs1:(w.alloc (.cells (ptL p lv cv h nv pv).toArray 127)).heap.size=w.heap.size+1:=by simp
 have cW1:=Lib.hid fun(W:World) (b:Below w.heap.size w W) R hR=>words15_calls p.label q.label l1 lv lv' W (hl.below b) (hl'.below b) R hR
 have cW2:=Lib.hid fun(W:World) (b:Below w.heap.size w W) R hR=>words15_calls p.cl q.cl l2 cv cv' W (hc.below b) (hc'.below b) R hR
 have hp:plainB p q=((p.bare==q.bare)&&decide (p.wide=q.wide)&&sameW p.label q.label&&decide (p.ck=q.ck)&&decide (p.cn=q.cn)&&sameW p.cl q.cl):=rfl;rw [hp]at hR;obtain⟨Al,nl,rfl,-,-⟩:=hl.op;obtain⟨Ac,nc,rfl,-,-⟩:=hc.op;obtain⟨Al',nl',rfl,-,-⟩:=hl'.op;obtain⟨Ac',nc',rfl,-,-⟩:=hc'.op;clear bA hl hc hl' hc' hp l1 l2;rw [hs1]at kB;go_enter Tryz.func168,Tryz.ntmps168
 go_upto_region 1 with fail
 generalize(w.alloc (.cells (ptL p (.slice Al p.label.length nl) (.slice Ac p.cl.length nc) h nv pv).toArray 127)).alloc (.cells (ptL q (.slice Al' q.label.length nl') (.slice Ac' q.cl.length nc') h' nv' pv').toArray 127)=W2 at *;clear hs1;obtain⟨-,a2,a3,a4,a5,a6,a8⟩:=kA.out;obtain⟨-,b2,b3,b4,b5,b6,b8⟩:=kB.out;have nW:=bB;clear bB
 by_cases c0:p.bare=q.bare
 ·have q0:(p.bare==q.bare)=true:=by simpa using c0
  rw [q0]at hR;simp only[Bool.true_and,Bool.and_true]at hR;clear c0
  by_cases c1:p.wide=q.wide
  ·have q1:(p.wide==q.wide)=true:=by simpa using c1
   rw [decide_eq_true c1]at hR;simp only[Bool.true_and,Bool.and_true]at hR;clear c1;have cX1:=Lib.hid fun R hR=>cW1.out W2 nW.out R hR
   generalize sameW p.label q.label=S1 at *;go_wp2_with fail
   refine cX1.out _ (Lib.hid fun w3 n3=>?_);replace nW:=Lib.hid (nW.out.trans (n3.mono nW.out.size));replace a5:=(n3.cell (p:=⟨w.heap.size,5,none⟩) kA.out.lt).trans a5;replace b5:=(n3.cell (p:=⟨w.heap.size+1,5,none⟩) kB.out.lt).trans b5;replace a6:=(n3.cell (p:=⟨w.heap.size,6,none⟩) kA.out.lt).trans a6;replace b6:=(n3.cell (p:=⟨w.heap.size+1,6,none⟩) kB.out.lt).trans b6;replace a8:=(n3.cell (p:=⟨w.heap.size,8,none⟩) kA.out.lt).trans a8;replace b8:=(n3.cell (p:=⟨w.heap.size+1,8,none⟩) kB.out.lt).trans b8;clear n3 cX1;cases S1
   ·try simp only[Bool.false_and,Bool.and_false]at hR
    have fin:=Lib.hid (hR.out _ nW.out);clear hR nW;go_wp2_with fail
    exact fin.out
   ·try simp only[Bool.true_and,Bool.and_true]at hR
    by_cases c3:p.ck=q.ck
    ·have q3:(p.ck==q.ck)=true:=by simpa using c3
     rw [decide_eq_true c3]at hR;simp only[Bool.true_and,Bool.and_true]at hR;clear c3
     by_cases c4:p.cn=q.cn
     ·have q4:(p.cn==q.cn)=true:=by simpa using c4
      rw [decide_eq_true c4]at hR;simp only[Bool.true_and,Bool.and_true]at hR;clear c4;have cX2:=Lib.hid fun R hR=>cW2.out w3 nW.out R hR
      generalize sameW p.cl q.cl=S2 at *;go_wp2_with fail
      refine cX2.out _ (Lib.hid fun w4 n3=>?_);replace nW:=Lib.hid (nW.out.trans (n3.mono nW.out.size));clear n3 cX2;cases S2
      ·try simp only[Bool.false_and,Bool.and_false]at hR
       have fin:=Lib.hid (hR.out _ nW.out);clear hR nW;go_wp2_with fail
       exact fin.out
      ·try simp only[Bool.true_and,Bool.and_true]at hR
       have fin:=Lib.hid (hR.out _ nW.out);clear hR nW;go_wp2_with fail
       first|exact fin.out|simpa using fin.out
     ·have q4:(p.cn==q.cn)=false:=by simpa using c4
      rw [decide_eq_false c4]at hR;simp only[Bool.false_and,Bool.and_false]at hR;clear c4;have fin:=Lib.hid (hR.out _ nW.out);clear hR nW;go_wp2_with fail
      exact fin.out
    ·have q3:(p.ck==q.ck)=false:=by simpa using c3
     rw [decide_eq_false c3]at hR;simp only[Bool.false_and,Bool.and_false]at hR;clear c3;have fin:=Lib.hid (hR.out _ nW.out);clear hR nW;go_wp2_with fail
     exact fin.out
  ·have q1:(p.wide==q.wide)=false:=by simpa using c1
   rw [decide_eq_false c1]at hR;simp only[Bool.false_and,Bool.and_false]at hR;clear c1;have fin:=Lib.hid (hR.out _ nW.out);clear hR nW;go_wp2_with fail
   exact fin.out
 ·have q0:(p.bare==q.bare)=false:=by simpa using c0
  rw [q0]at hR;simp only[Bool.false_and,Bool.and_false]at hR;clear c0;have fin:=Lib.hid (hR.out _ nW.out);clear hR nW;go_wp2_with fail
  exact fin.out
abbrev tyL(h:TH)(nv pv:Value):List Value:=[.int .i64 h.kind,.int .i64 h.at_,.int .i64 h.lo,.int .i64 h.hi,.int .i64 h.most,nv,pv,.string h.name,.int .i64 h.nat]
structure TB(w:World)(B:Nat)(h:TH)(nv pv:Value):Prop where
lt:B<w.heap.size
k0:w.cell? ⟨B,0,none⟩=some (.int .i64 h.kind)
k1:w.cell? ⟨B,1,none⟩=some (.int .i64 h.at_)
k2:w.cell? ⟨B,2,none⟩=some (.int .i64 h.lo)
k3:w.cell? ⟨B,3,none⟩=some (.int .i64 h.hi)
k4:w.cell? ⟨B,4,none⟩=some (.int .i64 h.most)
k5:w.cell? ⟨B,5,none⟩=some nv
k6:w.cell? ⟨B,6,none⟩=some pv
k7:w.cell? ⟨B,7,none⟩=some (.string h.name)
k8:w.cell? ⟨B,8,none⟩=some (.int .i64 h.nat)
theorem TB.new(w:World)(h:TH)(nv pv:Value)(t:TypeId):TB (w.alloc (.cells (tyL h nv pv).toArray t)) w.heap.size h nv pv:=by
 have q:=heap_alloc_new w (.cells (tyL h nv pv).toArray t);refine⟨by simp,?_,?_,?_,?_,?_,?_,?_,?_,?_⟩ <;> (rw [Lib.cell_of_heap q];rfl)
theorem TB.below{w w':World}{B:Nat}{h:TH}{nv pv:Value}(q:TB w B h nv pv)(hb:Below w.heap.size w w'):TB w' B h nv pv:=by
 have k:=fun j=>hb.cell (p:=⟨B,j,none⟩) q.lt
 exact⟨Nat.lt_of_lt_of_le q.lt hb.size,(k 0).trans q.k0,(k 1).trans q.k1,(k 2).trans q.k2,(k 3).trans q.k3,(k 4).trans q.k4,(k 5).trans q.k5,(k 6).trans q.k6,(k 7).trans q.k7,(k 8).trans q.k8⟩
theorem all_at{GH:TH→Prop}{GL:PH→Prop}:∀(n:Nat){f:Ft}{p:PH}{x:TH}{k r:Ft},f.All GH GL→f.drop n=.cons p x k r→GL p∧GH x∧k.len≤maxLen∧k.All GH GL
| 0,f,p,x,k,r,a,e=>by
 have e':f=.cons p x k r:=e;rw [e']at a;exact⟨a.1,a.2.1,a.2.2.1,a.2.2.2.1⟩
| n+1,.nil,p,x,k,r,a,e=>by simp [Fo.drop]at e
| n+1,.cons _ _ _ f,p,x,k,r,a,e=>all_at n (f:=f) a.2.2.2.2 e
theorem sameF_len:∀{f g:Ft},sameF f g=true→f.len=g.len
| .nil,.nil,_=>rfl
| .cons ..,.cons ..,h=>by
 unfold sameF at h;rw [Bool.and_eq_true]at h;simp [Fo.len,sameF_len h.2]
| .nil,.cons ..,h=>by simp [sameF]at h
| .cons ..,.nil,h=>by simp [sameF]at h
theorem part_alloc(ρ:Operand→Value)(W:World)(o:Oper)(h:o.op=.alloc 127):(execOp ρ o).run Tryz.prog W=.ok (.value (ptA W.heap.size)) (W.alloc (.cells #[.string ⟨#[]⟩,.int .i64 0,.bool false,.slice none 0 0,.int .i64 0,.int .i64 0,.int .i64 0,.int .i64 0,.slice none 0 0,.int .i64 0,.int .i64 0,.int .i64 0,.int .i64 0,.int .i64 0,.slice none 0 0,.slice none 0 0,.string ⟨#[]⟩,.int .i64 0] 127)):=by
 simp [execOp,h,go_sem,ptA]
def SameQ(f:Ft):Prop:=∀(h h':TH)(g:Ft)(nv pv nv' pv':Value)(w:World),h.names.length≤maxLen→f.len≤maxLen→f.All GoodH GoodL→RdY w h f nv pv→RdY w h' g nv' pv'→∀R:Ending→World→Prop,
Hid (∀w',Below w.heap.size w w'→R (.returned (.bool (sameS h f h' g))) w')→Calls Tryz.prog 233 #[tyV h nv pv,tyV h' nv' pv'] w R
theorem same15_step(f:Ft)(ih:Fo.AllK SameQ f):SameQ f:=by
 intro h h' g nv pv nv' pv' w hm hfl hga hy hy' R hR;replace hfl:f.len≤9223372036854775807:=hfl;have bA:=(Below.refl w.heap.size w).alloc (Nat.le_refl _) (.cells (tyL h nv pv).toArray 36);have bB:=Lib.hid (bA.alloc bA.size (.cells (tyL h' nv' pv').toArray 36));have kA:=Lib.hid ((TB.new w h nv pv 36).below ((Below.refl _ _).alloc (Nat.le_refl _) (.cells (tyL h' nv' pv').toArray 36)));have kB:=TB.new (w.alloc (.cells (tyL h nv pv).toArray 36)) h' nv' pv' 36;have hs1:(w.alloc (.cells (tyL h nv pv).toArray 36)).heap.size=w.heap.size+1:=by simp
 rw [hs1]at kB;replace kB:=Lib.hid kB;have cW1:=Lib.hid fun(W:World) (b:Below w.heap.size w W) R hR=>words15_calls h.names h'.names hm nv nv' W (hy.n.below b) (hy'.n.below b) R hR
 have hp:sameS h f h' g=((decide (h.kind=h'.kind)&&decide (h.lo=h'.lo)&&decide (h.hi=h'.hi)&&decide (h.most=h'.most)&&decide (h.name=h'.name)&&sameW h.names h'.names)&&sameF f g):=rfl;rw [hp]at hR;obtain⟨An,cn,rfl,-,-⟩:=hy.n.op;obtain⟨An',cn',rfl,-,-⟩:=hy'.n.op;obtain⟨Ap,cp,rfl,hpl⟩:=hy.p.sl;obtain⟨Ap',cp',rfl,hpl'⟩:=hy'.p.sl;replace hy:=Lib.hid hy;replace hy':=Lib.hid hy';replace hga:=Lib.hid hga;replace ih:=Lib.hid ih;clear bA hp hm;go_enter Tryz.func233,Tryz.ntmps233
 go_upto_region 1 with fail
 generalize(w.alloc (.cells (tyL h (.slice An h.names.length cn) (.slice Ap f.len cp)).toArray 36)).alloc (.cells (tyL h' (.slice An' h'.names.length cn') (.slice Ap' g.len cp')).toArray 36)=W2 at *;clear hs1;obtain⟨-,a0,-,a2,a3,a4,a5,a6,a7,-⟩:=kA.out;obtain⟨-,b0,-,b2,b3,b4,b5,b6,b7,-⟩:=kB.out;have nW:=bB;clear bB
 by_cases c0:h.kind=h'.kind
 ·have q0:(h.kind != h'.kind)=false:=by simpa using c0
  rw [decide_eq_true c0]at hR;simp only[Bool.true_and,Bool.and_true]at hR;clear c0
  by_cases c1:h.lo=h'.lo
  ·have q1:(h.lo != h'.lo)=false:=by simpa using c1
   rw [decide_eq_true c1]at hR;simp only[Bool.true_and,Bool.and_true]at hR;clear c1
   by_cases c2:h.hi=h'.hi
   ·have q2:(h.hi != h'.hi)=false:=by simpa using c2
    rw [decide_eq_true c2]at hR;simp only[Bool.true_and,Bool.and_true]at hR;clear c2
    by_cases c3:h.most=h'.most
    ·have q3:(h.most != h'.most)=false:=by simpa using c3
     rw [decide_eq_true c3]at hR;simp only[Bool.true_and,Bool.and_true]at hR;clear c3
     by_cases c4:h.name=h'.name
     ·have q4:=sq_t c4
      rw [decide_eq_true c4]at hR;simp only[Bool.true_and,Bool.and_true]at hR;clear c4;have cX1:=Lib.hid fun R hR=>cW1.out W2 nW.out R hR
      generalize sameW h.names h'.names=S1 at *;go_wp2_with fail
      refine cX1.out _ (Lib.hid fun w3 n3=>?_);replace nW:=Lib.hid (nW.out.trans (n3.mono nW.out.size));have kA3:=kA.out.below n3;have kB3:=kB.out.below n3;clear n3 cX1 a0 a2 a3 a4 a5 a6 a7 b0 b2 b3 b4 b5 b6 b7 kA kB cW1;have a6:=kA3.k6;have b6:=kB3.k6;replace kA3:=Lib.hid kA3;replace kB3:=Lib.hid kB3;cases S1
      ·simp only[Bool.false_and,Bool.and_false]at hR
       have fin:=Lib.hid (hR.out _ nW.out);clear hR nW;go_wp2_with fail
       exact fin.out
      ·simp only[Bool.true_and,Bool.and_true]at hR
       by_cases c6:f.len=g.len
       ·have q6:((f.len:Int) != (g.len:Int))=false:=by simp [c6]
        replace c6:=Lib.hid c6;go_wp2_with fail
        go_loopg [5] f.len (fun g0 i wr=>∃K:Nat,i=.int .i64 K∧K+g0=f.len∧Hid (Below w.heap.size w wr)∧Hid (TB wr w.heap.size h (.slice An h.names.length cn) (.slice Ap f.len cp))∧Hid (TB wr (w.heap.size+1) h' (.slice An' h'.names.length cn') (.slice Ap' g.len cp'))∧sameF f g=sameF (f.drop K) (g.drop K))
        case atStart=>exact⟨0,rfl,by omega,nW,kA3,kB3,rfl⟩
        case round =>
         clear nW kA3 kB3 a6 b6;obtain⟨K,rfl,e1,nW,kA,kB,e2⟩:=hrel;have a6:=kA.out.k6;have b6:=kB.out.k6
         by_cases hK:K<f.len
         ·have hK':K<g.len:=by have:=c6.out;omega
          obtain⟨p,x,kd,r,e⟩:=Fo.drop_lt hK;obtain⟨q,y,ls,s,e'⟩:=Fo.drop_lt hK';obtain⟨ga,oa,lv,cv,nx,px,rfl,hga',hlv,hcv,hyx,hc⟩:=(hy.out.below nW.out).p.part e;obtain⟨gb,ob,lv',cv',ny,py,rfl,hgb',hlv',hcv',hyy,hc'⟩:=(hy'.out.below nW.out).p.part e';obtain⟨A1,n1,rfl,-,-⟩:=hlv.op;obtain⟨A2,n2,rfl,-,-⟩:=hcv.op;obtain⟨A3,n3,rfl,-,-⟩:=hlv'.op;obtain⟨A4,n4,rfl,-,-⟩:=hcv'.op;obtain⟨A5,n5,rfl,-,-⟩:=hyx.n.op;obtain⟨A6,n6,rfl,-,-⟩:=hyy.n.op;obtain⟨A7,n7,rfl,hk7⟩:=hyx.p.sl;obtain⟨A8,n8,rfl,hk8⟩:=hyy.p.sl;have i0:(0:Int)≤(K:Int):=by omega
          have i1:(K:Int)<(f.len:Int):=by omega
          have i2:(K:Int)<(g.len:Int):=by omega
          have ltA:=kA.out.lt;have ltB:=kB.out.lt;go_wp2_with fail
          replace a6:=fun u:BW wr=>u.cell ltA a6
          replace b6:=fun u:BW wr=>u.cell ltB b6
          refine wp_region_two (os:=[_,_,_,_,_,_,_,_,_,_]) [0,1,2,3,4,5,6,7,8,9] 10 11 12 13 (T:=127) (z:=#[.string ⟨#[]⟩,.int .i64 0,.bool false,.slice none 0 0,.int .i64 0,.int .i64 0,.int .i64 0,.int .i64 0,.slice none 0 0,.int .i64 0,.int .i64 0,.int .i64 0,.int .i64 0,.int .i64 0,.slice none 0 0,.slice none 0 0,.string ⟨#[]⟩,.int .i64 0]) (by kernel_rfl) (by kernel_rfl) (by kernel_rfl) (fun _ _ d _ _ h=>by cases d<;>exact h) rfl rfl rfl rfl ⟨rfl,rfl,rfl⟩ ⟨rfl,rfl,rfl⟩ ⟨rfl,rfl,rfl⟩ ⟨rfl,rfl,rfl⟩ part_alloc (by kernel_rfl) (by simp only[pickO,List.filterMap_cons,List.filterMap_nil,List.getElem?_toArray,List.getElem?_cons_succ,List.getElem?_cons_zero];rfl) (fun Kp hKp=>?_)
          iterate 4 (go_big_quiet_step (exact rfl))
          refine wpQuiet_load rfl _ _ rfl ga (oa+K*18) rfl #[.string p.name,.int .i64 p.at_,.bool p.bare,.slice A1 p.label.length n1,.int .i64 p.wide,.int .i64 p.ck,.int .i64 p.cn,.int .i64 p.cat,.slice A2 p.cl.length n2,.int .i64 x.kind,.int .i64 x.at_,.int .i64 x.lo,.int .i64 x.hi,.int .i64 x.most,.slice A5 x.names.length n5,.slice A7 kd.len n7,.string x.name,.int .i64 x.nat].toList _ (fun _ ⟨u,e⟩=>by subst e;exact fun j v h=>u.cell hga' (hc j v h)) Tryz.underlying127 rfl (by kernel_rfl) ?_
          go_simp
          iterate 4 (go_big_quiet_step (exact rfl))
          refine wpQuiet_load rfl _ _ rfl gb (ob+K*18) rfl #[.string q.name,.int .i64 q.at_,.bool q.bare,.slice A3 q.label.length n3,.int .i64 q.wide,.int .i64 q.ck,.int .i64 q.cn,.int .i64 q.cat,.slice A4 q.cl.length n4,.int .i64 y.kind,.int .i64 y.at_,.int .i64 y.lo,.int .i64 y.hi,.int .i64 y.most,.slice A6 y.names.length n6,.slice A8 ls.len n8,.string y.name,.int .i64 y.nat].toList _ (fun _ ⟨u,e⟩=>by subst e;exact fun j v h=>u.cell hgb' (hc' j v h)) Tryz.underlying127 rfl (by kernel_rfl) ?_
          go_simp;refine wpQuiet_nil ?_;refine hKp _ ?_;clear hKp;refine⟨#[.string p.name,.int .i64 p.at_,.bool p.bare,.slice A1 p.label.length n1,.int .i64 p.wide,.int .i64 p.ck,.int .i64 p.cn,.int .i64 p.cat,.slice A2 p.cl.length n2,.int .i64 x.kind,.int .i64 x.at_,.int .i64 x.lo,.int .i64 x.hi,.int .i64 x.most,.slice A5 x.names.length n5,.slice A7 kd.len n7,.string x.name,.int .i64 x.nat],#[.string q.name,.int .i64 q.at_,.bool q.bare,.slice A3 q.label.length n3,.int .i64 q.wide,.int .i64 q.ck,.int .i64 q.cn,.int .i64 q.cat,.slice A4 q.cl.length n4,.int .i64 y.kind,.int .i64 y.at_,.int .i64 y.lo,.int .i64 y.hi,.int .i64 y.most,.slice A6 y.names.length n6,.slice A8 ls.len n8,.string y.name,.int .i64 y.nat],⟨rfl,by simp [Value.oneCell']⟩,⟨rfl,by simp [Value.oneCell']⟩,fun _=>⟨rfl,rfl⟩,fun _=>⟨rfl,rfl⟩,fun _ _=>⟨rfl,rfl,rfl,rfl,rfl⟩,fun B6 B7 V h6 h7 hne bV g6 g7=>?_⟩;have l6:=(Array.getElem?_eq_some_iff.1 g6).1;have l7:=(Array.getElem?_eq_some_iff.1 g7).1;have u0:=(Lib.cell_of_heap g6 0).trans rfl;have v0:=(Lib.cell_of_heap g7 0).trans rfl;have r6:V.rangeAt B6 0 #[.string p.name,.int .i64 p.at_,.bool p.bare,.slice A1 p.label.length n1,.int .i64 p.wide,.int .i64 p.ck,.int .i64 p.cn,.int .i64 p.cat,.slice A2 p.cl.length n2,.int .i64 x.kind,.int .i64 x.at_,.int .i64 x.lo,.int .i64 x.hi,.int .i64 x.most,.slice A5 x.names.length n5,.slice A7 kd.len n7,.string x.name,.int .i64 x.nat].toList:=fun j v h=>by rw [Nat.zero_add,Lib.cell_of_heap g6];simpa using h
          have r7:V.rangeAt B7 0 #[.string q.name,.int .i64 q.at_,.bool q.bare,.slice A3 q.label.length n3,.int .i64 q.wide,.int .i64 q.ck,.int .i64 q.cn,.int .i64 q.cat,.slice A4 q.cl.length n4,.int .i64 y.kind,.int .i64 y.at_,.int .i64 y.lo,.int .i64 y.hi,.int .i64 y.most,.slice A6 y.names.length n6,.slice A8 ls.len n8,.string y.name,.int .i64 y.nat].toList:=fun j v h=>by rw [Nat.zero_add,Lib.cell_of_heap g7];simpa using h
          have nV:=Lib.hid (nW.out.trans (bV.mono nW.out.size));have kA':=Lib.hid (kA.out.below bV);have kB':=Lib.hid (kB.out.below bV);have hyx':=Lib.hid (hyx.below bV);have hyy':=Lib.hid (hyy.below bV);have hlv2:=Lib.hid (hlv.below bV);have hcv2:=Lib.hid (hcv.below bV);have hlw2:=Lib.hid (hlv'.below bV);have hcw2:=Lib.hid (hcv'.below bV);obtain⟨gp,gx,gk',ga2⟩:=all_at K hga.out e;have ihK:=Lib.hid ((ih.out).at_ e);rw [e,e']at e2;have d1:=Fo.drop_succ K e;have d2:=Fo.drop_succ K e';clear hc hc' a6 b6 kA kB hyx hyy hlv hcv hlv' hcv' bV g6 g7 e e' h6 h7 hne nW;have e3:sameF f g=((decide (p.name=q.name)&&plainB p q&&sameS x kd y ls)&&sameF r s):=e2;clear e2
          have no:sameF f g=false→∀W,Below w.heap.size w W→Hid (R (.returned (.bool false)) W):=fun h W b=>by
           have:=hR.out W b;rw [h]at this;exact Lib.hid this
          by_cases c7:p.name=q.name
          ·have q7:=sq_t c7
           rw [decide_eq_true c7,Bool.true_and]at e3;clear c7;go_wp2_with (first|(refine wpList_load_g (by rfl) _ _ rfl B6 0 rfl #[.string p.name,.int .i64 p.at_,.bool p.bare,.slice A1 p.label.length n1,.int .i64 p.wide,.int .i64 p.ck,.int .i64 p.cn,.int .i64 p.cat,.slice A2 p.cl.length n2,.int .i64 x.kind,.int .i64 x.at_,.int .i64 x.lo,.int .i64 x.hi,.int .i64 x.most,.slice A5 x.names.length n5,.slice A7 kd.len n7,.string x.name,.int .i64 x.nat].toList _ r6 Tryz.underlying127 rfl (by kernel_rfl) ?_;go_simp)|(refine wpList_load_g (by rfl) _ _ rfl B7 0 rfl #[.string q.name,.int .i64 q.at_,.bool q.bare,.slice A3 q.label.length n3,.int .i64 q.wide,.int .i64 q.ck,.int .i64 q.cn,.int .i64 q.cat,.slice A4 q.cl.length n4,.int .i64 y.kind,.int .i64 y.at_,.int .i64 y.lo,.int .i64 y.hi,.int .i64 y.most,.slice A6 y.names.length n6,.slice A8 ls.len n8,.string y.name,.int .i64 y.nat].toList _ r7 Tryz.underlying127 rfl (by kernel_rfl) ?_;go_simp))
           refine plain15_calls p q _ _ _ _ _ _ _ _ x y V gp.2.2.2.2.2.2.2.2.1 gp.2.2.2.2.2.2.2.2.2 hlv2.out hcv2.out hlw2.out hcw2.out _ (Lib.hid fun w4 n4=>?_);have nX:=Lib.hid (nV.out.trans (n4.mono nV.out.size));cases hS:plainB p q
           ·rw [hS]at e3
            have fin:=no (by rw [e3];rfl) _ nX.out
            clear no hR e3 hS n4;go_wp2_with fail
            exact fin.out
           ·rw [hS,Bool.true_and]at e3
            have s6:w4.rangeAt B6 9 [.int .i64 x.kind,.int .i64 x.at_,.int .i64 x.lo,.int .i64 x.hi,.int .i64 x.most,.slice A5 x.names.length n5,.slice A7 kd.len n7,.string x.name,.int .i64 x.nat]:=fun j v h=>(n4.cell (p:=⟨B6,9+j,none⟩) l6).trans (by have:=r6 (9+j) v (by rw [←List.getElem?_drop];exact h);rwa [Nat.zero_add]at this)
            have s7:w4.rangeAt B7 9 [.int .i64 y.kind,.int .i64 y.at_,.int .i64 y.lo,.int .i64 y.hi,.int .i64 y.most,.slice A6 y.names.length n6,.slice A8 ls.len n8,.string y.name,.int .i64 y.nat]:=fun j v h=>(n4.cell (p:=⟨B7,9+j,none⟩) l7).trans (by have:=r7 (9+j) v (by rw [←List.getElem?_drop];exact h);rwa [Nat.zero_add]at this)
            have hyx2:=hyx'.out.below n4;have hyy2:=hyy'.out.below n4;have kA2:=Lib.hid (kA'.out.below n4);have kB2:=Lib.hid (kB'.out.below n4);have cS:=Lib.hid fun R hR=>ihK.out x y ls _ _ _ _ w4 gx.2.2.2.2.2.2.2.2 gk' ga2 hyx2 hyy2 R hR
            clear hS n4 hyx2 hyy2 r6 r7 u0 v0 kA' kB' hyx' hyy' hlv2 hcv2 hlw2 hcw2 nV;go_wp2_with (first|(refine wpList_load_g (by rfl) _ _ rfl B6 9 rfl [.int .i64 x.kind,.int .i64 x.at_,.int .i64 x.lo,.int .i64 x.hi,.int .i64 x.most,.slice A5 x.names.length n5,.slice A7 kd.len n7,.string x.name,.int .i64 x.nat] _ s6 Tryz.underlying36 rfl (by kernel_rfl) ?_;go_simp)|(refine wpList_load_g (by rfl) _ _ rfl B7 9 rfl [.int .i64 y.kind,.int .i64 y.at_,.int .i64 y.lo,.int .i64 y.hi,.int .i64 y.most,.slice A6 y.names.length n6,.slice A8 ls.len n8,.string y.name,.int .i64 y.nat] _ s7 Tryz.underlying36 rfl (by kernel_rfl) ?_;go_simp))
            refine cS.out _ (Lib.hid fun w5 n5=>?_);have nY:=Lib.hid (nX.out.trans (n5.mono nX.out.size));have kA3:=Lib.hid (kA2.out.below n5);have kB3:=Lib.hid (kB2.out.below n5);clear n5 cS kA2 kB2;cases hS:sameS x kd y ls
            ·rw [hS]at e3
             have fin:=no (by rw [e3];rfl) _ nY.out
             clear no hR e3 hS;go_wp2_with fail
             exact fin.out
            ·rw [hS,Bool.true_and,←d1,←d2]at e3
             clear hS no;go_wp2_with fail
             go_roundg (gk-1)
             case measure=>omega
             case rel=>exact⟨K+1,by go_num,by omega,nY,kA3,kB3,e3⟩
          ·have q7:=sq_f c7
           rw [decide_eq_false c7]at e3;have fin:=no (by rw [e3];simp) _ nV.out;clear no hR e3 c7;go_wp2_with fail
           exact fin.out
         ·obtain rfl:K=f.len:=by omega
          have hz:sameF f g=true:=by rw [e2,Fo.drop_all (Nat.le_refl _),Fo.drop_all (by have:=c6.out;omega)];rfl
          have fin:=Lib.hid (hR.out _ nW.out);rw [hz]at fin;clear hz hR e2 kA kB;go_wp2_with fail
          exact fin.out
       ·have q6:((f.len:Int) != (g.len:Int))=true:=by simp;omega
        have hz:sameF f g=false:=Bool.eq_false_iff.2 fun q=>c6 (sameF_len q)
        rw [hz]at hR;clear hz;have fin:=Lib.hid (hR.out _ nW.out);clear hR nW;go_wp2_with fail
        exact fin.out
     ·have q4:=sq_f c4
      rw [decide_eq_false c4]at hR;simp only[Bool.false_and,Bool.and_false]at hR;clear c4;have fin:=Lib.hid (hR.out _ nW.out);clear hR nW;go_wp2_with fail
      exact fin.out
    ·have q3:(h.most != h'.most)=true:=by simpa using c3
     rw [decide_eq_false c3]at hR;simp only[Bool.false_and,Bool.and_false]at hR;clear c3;have fin:=Lib.hid (hR.out _ nW.out);clear hR nW;go_wp2_with fail
     exact fin.out
   ·have q2:(h.hi != h'.hi)=true:=by simpa using c2
    rw [decide_eq_false c2]at hR;simp only[Bool.false_and,Bool.and_false]at hR;clear c2;have fin:=Lib.hid (hR.out _ nW.out);clear hR nW;go_wp2_with fail
    exact fin.out
  ·have q1:(h.lo != h'.lo)=true:=by simpa using c1
   rw [decide_eq_false c1]at hR;simp only[Bool.false_and,Bool.and_false]at hR;clear c1;have fin:=Lib.hid (hR.out _ nW.out);clear hR nW;go_wp2_with fail
   exact fin.out
 ·have q0:(h.kind != h'.kind)=true:=by simpa using c0
  rw [decide_eq_false c0]at hR;simp only[Bool.false_and,Bool.and_false]at hR;clear c0;have fin:=Lib.hid (hR.out _ nW.out);clear hR nW;go_wp2_with fail
  exact fin.out
end Go.Proofs.YtabhkakomececaaGreat.Kin
