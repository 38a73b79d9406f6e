import Derived.Test.YtabhkakomececaaGreatQ15
set_option linter.all false
set_option maxRecDepth 100000
set_option maxHeartbeats 4000000
namespace Go.Proofs.YtabhkakomececaaGreat.Kin
open Go.RowKit Go.Lib Utf Nam Lat
def partfS(p:PH)(x:TH)(k:Ft)(K:Int):Int×Int :=
if p.bare=true∧(K=7∨zeroB x k=false∨plainB p bPH=false)then(19,p.at_)
else if p.wide<0∨64<p.wide then(20,p.at_)
else if(labelC p.label).1≠0 then((labelC p.label).1,(labelC p.label).2)
else((coarC p).1,(coarC p).2)
theorem plain_bare{p:PH}(h:plainB p bPH=true):p.wide=0∧p.label=[]∧coarC p=(0,0):=by
 simp only[plainB,bPH,Bool.and_eq_true,decide_eq_true_iff,sameW_nil]at h;obtain⟨⟨⟨⟨⟨-,h1⟩,h2⟩,h3⟩,h4⟩,h5⟩:=h;refine⟨of_decide_eq_true h1,h2,?_⟩;unfold coarC;rw [if_pos (of_decide_eq_true h3),if_neg (by rintro(q|q);exact q (of_decide_eq_true h4);exact q h5)]
theorem wcF_part(p:PH)(h:TH)(k r:Ft)(K:Int)(ns:List ByteArray)(i d m:Nat)(hl:listedS ns i=0):wcF (.cons p h k r) (.parts K ns i) d m =
  if(partfS p h k K).1≠0 then((partfS p h k K).1,(partfS p h k K).2,m)
  else if p.bare=false then(if(wrB h k (wcF k) d m).1≠0 then wrB h k (wcF k) d m else wcF r (.parts K ns (i+1)) d (wrB h k (wcF k) d m).2.2)
  else wcF r (.parts K ns (i+1)) d m:=by
 rw [wcF,if_neg (by simpa using hl)];unfold partfS;cases hb:p.bare
 ·simp only[Bool.false_eq_true,if_false,false_and,if_true]
  by_cases c1:p.wide<0∨64<p.wide
  ·rw [if_pos c1,if_pos c1];simp
  ·rw [if_neg c1,if_neg c1]
   by_cases c2:(labelC p.label).1≠0
   ·rw [if_pos c2,if_pos c2];rw [if_pos c2]
   ·rw [if_neg c2,if_neg c2]
 ·simp only[if_true,true_and]
  by_cases c1:K=7∨zeroB h k=false∨plainB p bPH=false
  ·rw [if_pos c1,if_pos c1];simp
  ·rw [if_neg c1,if_neg c1]
   have hp:plainB p bPH=true:=by
    cases q:plainB p bPH
    ·exact absurd (.inr (.inr q)) c1
    ·rfl
   obtain⟨e1,e2,e3⟩:=plain_bare hp;rw [e1,e2,e3];simp [labelC,labG]
theorem partFault_calls(p:PH)(x:TH)(kd:Ft)(K:Int)(hK:K=7∨K=8)(lv cv nv pv:Value)(w:World)(gp:GoodL p)(gx:GoodH x)(gk:kd.len≤maxLen)(ga:kd.All GoodH GoodL)(hl:RdW w lv p.label)(hc:RdW w cv p.cl)(hy:RdY w x kd nv pv)(R:Ending→World→Prop)
  (hR:Hid (∀w',Below w.heap.size w w'→R (.returned (.agg #[.int .i64 (partfS p x kd K).1,.int .i64 (partfS p x kd K).2])) w')):Calls Tryz.prog 332 #[ptV p lv cv x nv pv,.int .i64 K] w R:=by
 obtain⟨A1,n1,rfl,-,-⟩:=hl.op;obtain⟨A2,n2,rfl,-,-⟩:=hc.op;obtain⟨A5,n5,rfl,-,-⟩:=hy.n.op;obtain⟨A7,n7,rfl,-⟩:=hy.p.sl;have b1:=(Below.refl w.heap.size w).alloc (Nat.le_refl _) (.cells #[.string p.name,.int .i64 p.at_,.bool p.bare,.slice A1 p.label.length n1,.int .i64 p.wide,.int .i64 p.ck,.int .i64 p.cn,.int .i64 p.cat,.slice A2 p.cl.length n2,.int .i64 x.kind,.int .i64 x.at_,.int .i64 x.lo,.int .i64 x.hi,.int .i64 x.most,.slice A5 x.names.length n5,.slice A7 kd.len n7,.string x.name,.int .i64 x.nat] 127);have b2:=b1.alloc b1.size (.cells #[.int .i64 0,.int .i64 0] 26);have z1:(w.alloc (.cells #[.string p.name,.int .i64 p.at_,.bool p.bare,.slice A1 p.label.length n1,.int .i64 p.wide,.int .i64 p.ck,.int .i64 p.cn,.int .i64 p.cat,.slice A2 p.cl.length n2,.int .i64 x.kind,.int .i64 x.at_,.int .i64 x.lo,.int .i64 x.hi,.int .i64 x.most,.slice A5 x.names.length n5,.slice A7 kd.len n7,.string x.name,.int .i64 x.nat] 127)).heap.size=w.heap.size+1:=by simp
 have hP:=(((Below.refl _ _).alloc (Nat.le_refl _) (.cells #[.int .i64 0,.int .i64 0] 26)).block w.heap.size (by omega)).trans (heap_alloc_new w (.cells #[.string p.name,.int .i64 p.at_,.bool p.bare,.slice A1 p.label.length n1,.int .i64 p.wide,.int .i64 p.ck,.int .i64 p.cn,.int .i64 p.cat,.slice A2 p.cl.length n2,.int .i64 x.kind,.int .i64 x.at_,.int .i64 x.lo,.int .i64 x.hi,.int .i64 x.most,.slice A5 x.names.length n5,.slice A7 kd.len n7,.string x.name,.int .i64 x.nat] 127));have hY:=heap_alloc_new (w.alloc (.cells #[.string p.name,.int .i64 p.at_,.bool p.bare,.slice A1 p.label.length n1,.int .i64 p.wide,.int .i64 p.ck,.int .i64 p.cn,.int .i64 p.cat,.slice A2 p.cl.length n2,.int .i64 x.kind,.int .i64 x.at_,.int .i64 x.lo,.int .i64 x.hi,.int .i64 x.most,.slice A5 x.names.length n5,.slice A7 kd.len n7,.string x.name,.int .i64 x.nat] 127)) (.cells #[.int .i64 0,.int .i64 0] 26);rw [z1]at hY;replace hl:=Lib.hid hl;replace hc:=Lib.hid hc;replace hy:=Lib.hid hy;replace gx:=Lib.hid gx;replace ga:=Lib.hid ga;go_enter Tryz.func332,Tryz.ntmps332
 go_upto_region 1 with fail
 generalize(w.alloc (.cells #[.string p.name,.int .i64 p.at_,.bool p.bare,.slice A1 p.label.length n1,.int .i64 p.wide,.int .i64 p.ck,.int .i64 p.cn,.int .i64 p.cat,.slice A2 p.cl.length n2,.int .i64 x.kind,.int .i64 x.at_,.int .i64 x.lo,.int .i64 x.hi,.int .i64 x.most,.slice A5 x.names.length n5,.slice A7 kd.len n7,.string x.name,.int .i64 x.nat] 127)).alloc (.cells #[.int .i64 0,.int .i64 0] 26)=V at *;have nW:=Lib.hid b2;replace hP:=Lib.hid hP;replace hY:=Lib.hid hY;clear b1 b2 z1;have u2:=(Lib.cell_of_heap hP.out 2).trans rfl;cases hb:p.bare
 ·have hq0:partfS p x kd K=if p.wide<0∨64<p.wide then(20,p.at_)else if(labelC p.label).1≠0 then((labelC p.label).1,(labelC p.label).2)else((coarC p).1,(coarC p).2):=if_neg (by rw [hb];simp)
  rw [hb]at u2;clear hb;go_upto_region 3 with fail
  clear u2;have u1:=(Lib.cell_of_heap hP.out 1).trans rfl;have u2:=(Lib.cell_of_heap hP.out 2).trans rfl;have u3:=(Lib.cell_of_heap hP.out 3).trans rfl;have u4:=(Lib.cell_of_heap hP.out 4).trans rfl;have y0:=(Lib.cell_of_heap hY.out 0).trans rfl;have yf0:=Lib.frozen_of_heap hY.out 0;have y1:=(Lib.cell_of_heap hY.out 1).trans rfl;have yf1:=Lib.frozen_of_heap hY.out 1
  by_cases cw:p.wide<0∨64<p.wide
  ·rw [if_pos cw]at hq0
   have hd:=decide_eq_true cw;clear cw;go_wp2_with fail
   refine outside_calls p.wide 64 _ _ (Lib.hid ?_);rw [hd];have fin:=Lib.hid (hR.out _ (set2k' (q:=w.heap.size+1) (by omega) nW.out (.int .i64 (20)) (.int .i64 (p.at_))));rw [hq0]at fin;clear hR;go_wp2_with fail
   refine bodyPost_ret ?_ rfl fin.out;simp [results,Tryz.results332,go_sem,y0,y1]
  ·rw [if_neg cw]at hq0
   have hd:=decide_eq_false cw;clear cw;go_wp2_with fail
   refine outside_calls p.wide 64 _ _ (Lib.hid ?_);rw [hd];go_wp2_with fail
   refine labelFault_calls p.label gp.2.2.2.2.2.2.2.2.1 gp.2.2.1 (.slice A1 p.label.length n1) _ (hl.out.below nW.out) _ (Lib.hid fun wL nL=>?_);have hP3:=Lib.hid ((nL.block _ (blt_of hP.out)).trans hP.out);have hY3:=Lib.hid ((nL.block _ (blt_of hY.out)).trans hY.out);have nL3:=Lib.hid (nW.out.trans (nL.mono nW.out.size));clear u1 u2 u3 u4 y0 y1 yf0 yf1 nL;generalize labelC p.label=LC at *;have bF:=(Below.refl wL.heap.size wL).alloc (Nat.le_refl _) (.cells #[.int .i64 LC.1,.int .i64 LC.2] 26);have hF:=heap_alloc_new wL (.cells #[.int .i64 LC.1,.int .i64 LC.2] 26);have hP4:=Lib.hid ((bF.block _ (blt_of hP3.out)).trans hP3.out);have hY4:=Lib.hid ((bF.block _ (blt_of hY3.out)).trans hY3.out);have nW4:=Lib.hid (nL3.out.trans (bF.mono nL3.out.size));clear hP3 hY3 nL3 bF hP hY nW;go_upto_region 6 with fail
   generalize wL.alloc (.cells #[.int .i64 LC.1,.int .i64 LC.2] 26)=V4 at *;generalize wL.heap.size=BF at *;have f0:=(Lib.cell_of_heap hF 0).trans rfl;have f1:=(Lib.cell_of_heap hF 1).trans rfl;clear hF
   by_cases cl:LC.1=0
   ·rw [if_neg (by simpa using cl)]at hq0
    have q1:(LC.1 != 0)=false:=by simpa using cl
    clear cl;have cC:=Lib.hid fun R hR=>(show Calls Tryz.prog 372 #[.agg #[.string p.name,.int .i64 p.at_,.bool p.bare,.slice A1 p.label.length n1,.int .i64 p.wide,.int .i64 p.ck,.int .i64 p.cn,.int .i64 p.cat,.slice A2 p.cl.length n2,.int .i64 x.kind,.int .i64 x.at_,.int .i64 x.lo,.int .i64 x.hi,.int .i64 x.most,.slice A5 x.names.length n5,.slice A7 kd.len n7,.string x.name,.int .i64 x.nat]] V4 R from coarseFault_calls p x kd (.slice A1 p.label.length n1) (.slice A2 p.cl.length n2) (.slice A5 x.names.length n5) (.slice A7 kd.len n7) V4 gp.2.2.2.2.2.2.2.2.2 gp.2.2.2.2.2.2.2.1 (hl.out.below nW4.out) (hc.out.below nW4.out) (hy.out.below nW4.out) R hR)
    have r0:V4.rangeAt w.heap.size 0 [.string p.name,.int .i64 p.at_,.bool p.bare,.slice A1 p.label.length n1,.int .i64 p.wide,.int .i64 p.ck,.int .i64 p.cn,.int .i64 p.cat,.slice A2 p.cl.length n2,.int .i64 x.kind,.int .i64 x.at_,.int .i64 x.lo,.int .i64 x.hi,.int .i64 x.most,.slice A5 x.names.length n5,.slice A7 kd.len n7,.string x.name,.int .i64 x.nat]:=fun j v h=>by rw [Nat.zero_add,Lib.cell_of_heap hP4.out];simpa using h
    go_upto_region 8 with fail
    go_wp2_with (refine wpList_load_g (by rfl) 127 _ rfl w.heap.size 0 rfl [.string p.name,.int .i64 p.at_,.bool p.bare,.slice A1 p.label.length n1,.int .i64 p.wide,.int .i64 p.ck,.int .i64 p.cn,.int .i64 p.cat,.slice A2 p.cl.length n2,.int .i64 x.kind,.int .i64 x.at_,.int .i64 x.lo,.int .i64 x.hi,.int .i64 x.most,.slice A5 x.names.length n5,.slice A7 kd.len n7,.string x.name,.int .i64 x.nat] _ r0 Tryz.underlying127 rfl (by kernel_rfl) ?_;go_simp)
    refine cC.out _ (Lib.hid fun wC nC=>?_);have hY5:=(nC.block _ (blt_of hY4.out)).trans hY4.out;have nW5:=Lib.hid (nW4.out.trans (nC.mono nW4.out.size));clear r0 cC nC f0 f1 hP4 hY4 nW4;generalize coarC p=CC at *;have y0:=(Lib.cell_of_heap hY5 0).trans rfl;have yf0:=Lib.frozen_of_heap hY5 0;have y1:=(Lib.cell_of_heap hY5 1).trans rfl;have yf1:=Lib.frozen_of_heap hY5 1;have fin:=Lib.hid (hR.out _ (set2k' (q:=w.heap.size+1) (by omega) nW5.out (.int .i64 (CC.1)) (.int .i64 (CC.2))));rw [hq0]at fin;clear hR;go_wp2_with fail
    refine bodyPost_ret ?_ rfl fin.out;simp [results,Tryz.results332,go_sem,y0,y1]
   ·rw [if_pos cl]at hq0
    have q1:(LC.1 != 0)=true:=by simpa using cl
    clear cl;have y0:=(Lib.cell_of_heap hY4.out 0).trans rfl;have yf0:=Lib.frozen_of_heap hY4.out 0;have y1:=(Lib.cell_of_heap hY4.out 1).trans rfl;have yf1:=Lib.frozen_of_heap hY4.out 1;have fin:=Lib.hid (hR.out _ (set2k' (q:=w.heap.size+1) (by omega) nW4.out (.int .i64 (LC.1)) (.int .i64 (LC.2))));rw [hq0]at fin;clear hR;go_wp2_with fail
    refine bodyPost_ret ?_ rfl fin.out;simp [results,Tryz.results332,go_sem,y0,y1]
 ·rw [hb]at u2
  rcases hK with hK|hK
  ·have hq:partfS p x kd K=(19,p.at_):=if_pos ⟨hb,.inl hK⟩
   subst hK;clear hb;have u1:=(Lib.cell_of_heap hP.out 1).trans rfl;have y0:=(Lib.cell_of_heap hY.out 0).trans rfl;have yf0:=Lib.frozen_of_heap hY.out 0;have y1:=(Lib.cell_of_heap hY.out 1).trans rfl;have yf1:=Lib.frozen_of_heap hY.out 1;have fin:=Lib.hid (hR.out _ (set2k' (q:=w.heap.size+1) (by omega) nW.out (.int .i64 (19)) (.int .i64 (p.at_))));rw [hq]at fin;clear hR;go_wp2_with fail
   refine bodyPost_ret ?_ rfl fin.out;simp [results,Tryz.results332,go_sem,y0,y1]
  ·subst hK
   have u0:=(Lib.cell_of_heap hP.out 0).trans rfl;have u1:=(Lib.cell_of_heap hP.out 1).trans rfl;have r0:V.rangeAt w.heap.size 0 [.string p.name,.int .i64 p.at_,.bool p.bare,.slice A1 p.label.length n1,.int .i64 p.wide,.int .i64 p.ck,.int .i64 p.cn,.int .i64 p.cat,.slice A2 p.cl.length n2,.int .i64 x.kind,.int .i64 x.at_,.int .i64 x.lo,.int .i64 x.hi,.int .i64 x.most,.slice A5 x.names.length n5,.slice A7 kd.len n7,.string x.name,.int .i64 x.nat]:=fun j v h=>by rw [Nat.zero_add,Lib.cell_of_heap hP.out];simpa using h
   have cS:=Lib.hid fun R hR=>(show Calls Tryz.prog 370 #[.agg #[.string p.name,.int .i64 p.at_,.bool p.bare,.slice A1 p.label.length n1,.int .i64 p.wide,.int .i64 p.ck,.int .i64 p.cn,.int .i64 p.cat,.slice A2 p.cl.length n2,.int .i64 x.kind,.int .i64 x.at_,.int .i64 x.lo,.int .i64 x.hi,.int .i64 x.most,.slice A5 x.names.length n5,.slice A7 kd.len n7,.string x.name,.int .i64 x.nat],.agg #[.string p.name,.int .i64 p.at_,.bool true,.slice none 0 0,.int .i64 0,.int .i64 0,.int .i64 0,.int .i64 0,.slice none 0 0,.int .i64 0,.int .i64 0,.int .i64 0,.int .i64 0,.int .i64 0,.slice none 0 0,.slice none 0 0,.string ⟨#[]⟩,.int .i64 0]] V R from samePart_calls kd (sameC_calls kd) p ⟨p.name,p.at_,true,[],0,0,0,0,[]⟩ x zTH .nil (.slice A1 p.label.length n1) (.slice A2 p.cl.length n2) (.slice A5 x.names.length n5) (.slice A7 kd.len n7) (.slice none 0 0) (.slice none 0 0) (.slice none 0 0) (.slice none 0 0) V gp.2.2.2.2.2.2.2.2.1 gp.2.2.2.2.2.2.2.2.2 gx.out.2.2.2.2.2.2.2.2 gk ga.out (hl.out.below nW.out) (hc.out.below nW.out) (hy.out.below nW.out) (RdG.none0 _ _ _) (RdG.none0 _ _ _) ⟨RdG.none0 _ _ _,RdSl.nil _ _ _⟩ R hR)
   have eS:(decide (p.name=(⟨p.name,p.at_,true,[],0,0,0,0,[]⟩:PH).name)&&plainB p ⟨p.name,p.at_,true,[],0,0,0,0,[]⟩ && sameS x kd zTH .nil)=(plainB p bPH&&zeroB x kd):=by
    rw [decide_eq_true (show p.name=p.name from rfl),Bool.true_and];rfl
   rw [eS]at cS;clear eS;have hq0:(plainB p bPH&&zeroB x kd)=false→partfS p x kd 8=(19,p.at_):=fun q=>if_pos ⟨hb,.inr (by cases c1:zeroB x kd;exact .inl rfl;rw [c1,Bool.and_true]at q;exact .inr q)⟩
   have hq1:(plainB p bPH&&zeroB x kd)=true→partfS p x kd 8=if p.wide<0∨64<p.wide then(20,p.at_)else if(labelC p.label).1≠0 then((labelC p.label).1,(labelC p.label).2)else((coarC p).1,(coarC p).2):=fun q=>by
    rw [Bool.and_eq_true]at q;exact if_neg (by rintro⟨-,q1|q1|q1⟩;cases q1;rw [q.2]at q1;cases q1;rw [q.1]at q1;cases q1)
   clear hb;generalize(plainB p bPH&&zeroB x kd)=S at *;go_wp2_with (refine wpList_load_g (by rfl) 127 _ rfl w.heap.size 0 rfl [.string p.name,.int .i64 p.at_,.bool p.bare,.slice A1 p.label.length n1,.int .i64 p.wide,.int .i64 p.ck,.int .i64 p.cn,.int .i64 p.cat,.slice A2 p.cl.length n2,.int .i64 x.kind,.int .i64 x.at_,.int .i64 x.lo,.int .i64 x.hi,.int .i64 x.most,.slice A5 x.names.length n5,.slice A7 kd.len n7,.string x.name,.int .i64 x.nat] _ r0 Tryz.underlying127 rfl (by kernel_rfl) ?_;go_simp)
   refine cS.out _ (Lib.hid fun wS nS=>?_);have hP2:=Lib.hid ((nS.block _ (blt_of hP.out)).trans hP.out);have hY2:=Lib.hid ((nS.block _ (blt_of hY.out)).trans hY.out);have nW2:=Lib.hid (nW.out.trans (nS.mono nW.out.size));clear u0 u1 u2 r0 cS nS hP hY nW;have hP:=hP2;have hY:=hY2;have nW:=nW2;clear hP2 hY2 nW2;cases S
   ·have hq:=hq0 rfl
    clear hq0 hq1;have u1:=(Lib.cell_of_heap hP.out 1).trans rfl;have y0:=(Lib.cell_of_heap hY.out 0).trans rfl;have yf0:=Lib.frozen_of_heap hY.out 0;have y1:=(Lib.cell_of_heap hY.out 1).trans rfl;have yf1:=Lib.frozen_of_heap hY.out 1;have fin:=Lib.hid (hR.out _ (set2k' (q:=w.heap.size+1) (by omega) nW.out (.int .i64 (19)) (.int .i64 (p.at_))));rw [hq]at fin;clear hR;go_wp2_with fail
    refine bodyPost_ret ?_ rfl fin.out;simp [results,Tryz.results332,go_sem,y0,y1]
   ·have hq0:=hq1 rfl
    clear hq1;go_upto_region 3 with fail
    have u1:=(Lib.cell_of_heap hP.out 1).trans rfl;have u2:=(Lib.cell_of_heap hP.out 2).trans rfl;have u3:=(Lib.cell_of_heap hP.out 3).trans rfl;have u4:=(Lib.cell_of_heap hP.out 4).trans rfl;have y0:=(Lib.cell_of_heap hY.out 0).trans rfl;have yf0:=Lib.frozen_of_heap hY.out 0;have y1:=(Lib.cell_of_heap hY.out 1).trans rfl;have yf1:=Lib.frozen_of_heap hY.out 1
    by_cases cw:p.wide<0∨64<p.wide
    ·rw [if_pos cw]at hq0
     have hd:=decide_eq_true cw;clear cw;go_wp2_with fail
     refine outside_calls p.wide 64 _ _ (Lib.hid ?_);rw [hd];have fin:=Lib.hid (hR.out _ (set2k' (q:=w.heap.size+1) (by omega) nW.out (.int .i64 (20)) (.int .i64 (p.at_))));rw [hq0]at fin;clear hR;go_wp2_with fail
     refine bodyPost_ret ?_ rfl fin.out;simp [results,Tryz.results332,go_sem,y0,y1]
    ·rw [if_neg cw]at hq0
     have hd:=decide_eq_false cw;clear cw;go_wp2_with fail
     refine outside_calls p.wide 64 _ _ (Lib.hid ?_);rw [hd];go_wp2_with fail
     refine labelFault_calls p.label gp.2.2.2.2.2.2.2.2.1 gp.2.2.1 (.slice A1 p.label.length n1) _ (hl.out.below nW.out) _ (Lib.hid fun wL nL=>?_);have hP3:=Lib.hid ((nL.block _ (blt_of hP.out)).trans hP.out);have hY3:=Lib.hid ((nL.block _ (blt_of hY.out)).trans hY.out);have nL3:=Lib.hid (nW.out.trans (nL.mono nW.out.size));clear u1 u2 u3 u4 y0 y1 yf0 yf1 nL;generalize labelC p.label=LC at *;have bF:=(Below.refl wL.heap.size wL).alloc (Nat.le_refl _) (.cells #[.int .i64 LC.1,.int .i64 LC.2] 26);have hF:=heap_alloc_new wL (.cells #[.int .i64 LC.1,.int .i64 LC.2] 26);have hP4:=Lib.hid ((bF.block _ (blt_of hP3.out)).trans hP3.out);have hY4:=Lib.hid ((bF.block _ (blt_of hY3.out)).trans hY3.out);have nW4:=Lib.hid (nL3.out.trans (bF.mono nL3.out.size));clear hP3 hY3 nL3 bF hP hY nW;go_upto_region 6 with fail
     generalize wL.alloc (.cells #[.int .i64 LC.1,.int .i64 LC.2] 26)=V4 at *;generalize wL.heap.size=BF at *;have f0:=(Lib.cell_of_heap hF 0).trans rfl;have f1:=(Lib.cell_of_heap hF 1).trans rfl;clear hF
     by_cases cl:LC.1=0
     ·rw [if_neg (by simpa using cl)]at hq0
      have q1:(LC.1 != 0)=false:=by simpa using cl
      clear cl;have cC:=Lib.hid fun R hR=>(show Calls Tryz.prog 372 #[.agg #[.string p.name,.int .i64 p.at_,.bool p.bare,.slice A1 p.label.length n1,.int .i64 p.wide,.int .i64 p.ck,.int .i64 p.cn,.int .i64 p.cat,.slice A2 p.cl.length n2,.int .i64 x.kind,.int .i64 x.at_,.int .i64 x.lo,.int .i64 x.hi,.int .i64 x.most,.slice A5 x.names.length n5,.slice A7 kd.len n7,.string x.name,.int .i64 x.nat]] V4 R from coarseFault_calls p x kd (.slice A1 p.label.length n1) (.slice A2 p.cl.length n2) (.slice A5 x.names.length n5) (.slice A7 kd.len n7) V4 gp.2.2.2.2.2.2.2.2.2 gp.2.2.2.2.2.2.2.1 (hl.out.below nW4.out) (hc.out.below nW4.out) (hy.out.below nW4.out) R hR)
      have r0:V4.rangeAt w.heap.size 0 [.string p.name,.int .i64 p.at_,.bool p.bare,.slice A1 p.label.length n1,.int .i64 p.wide,.int .i64 p.ck,.int .i64 p.cn,.int .i64 p.cat,.slice A2 p.cl.length n2,.int .i64 x.kind,.int .i64 x.at_,.int .i64 x.lo,.int .i64 x.hi,.int .i64 x.most,.slice A5 x.names.length n5,.slice A7 kd.len n7,.string x.name,.int .i64 x.nat]:=fun j v h=>by rw [Nat.zero_add,Lib.cell_of_heap hP4.out];simpa using h
      go_upto_region 8 with fail
      go_wp2_with (refine wpList_load_g (by rfl) 127 _ rfl w.heap.size 0 rfl [.string p.name,.int .i64 p.at_,.bool p.bare,.slice A1 p.label.length n1,.int .i64 p.wide,.int .i64 p.ck,.int .i64 p.cn,.int .i64 p.cat,.slice A2 p.cl.length n2,.int .i64 x.kind,.int .i64 x.at_,.int .i64 x.lo,.int .i64 x.hi,.int .i64 x.most,.slice A5 x.names.length n5,.slice A7 kd.len n7,.string x.name,.int .i64 x.nat] _ r0 Tryz.underlying127 rfl (by kernel_rfl) ?_;go_simp)
      refine cC.out _ (Lib.hid fun wC nC=>?_);have hY5:=(nC.block _ (blt_of hY4.out)).trans hY4.out;have nW5:=Lib.hid (nW4.out.trans (nC.mono nW4.out.size));clear r0 cC nC f0 f1 hP4 hY4 nW4;generalize coarC p=CC at *;have y0:=(Lib.cell_of_heap hY5 0).trans rfl;have yf0:=Lib.frozen_of_heap hY5 0;have y1:=(Lib.cell_of_heap hY5 1).trans rfl;have yf1:=Lib.frozen_of_heap hY5 1;have fin:=Lib.hid (hR.out _ (set2k' (q:=w.heap.size+1) (by omega) nW5.out (.int .i64 (CC.1)) (.int .i64 (CC.2))));rw [hq0]at fin;clear hR;go_wp2_with fail
      refine bodyPost_ret ?_ rfl fin.out;simp [results,Tryz.results332,go_sem,y0,y1]
     ·rw [if_pos cl]at hq0
      have q1:(LC.1 != 0)=true:=by simpa using cl
      clear cl;have y0:=(Lib.cell_of_heap hY4.out 0).trans rfl;have yf0:=Lib.frozen_of_heap hY4.out 0;have y1:=(Lib.cell_of_heap hY4.out 1).trans rfl;have yf1:=Lib.frozen_of_heap hY4.out 1;have fin:=Lib.hid (hR.out _ (set2k' (q:=w.heap.size+1) (by omega) nW4.out (.int .i64 (LC.1)) (.int .i64 (LC.2))));rw [hq0]at fin;clear hR;go_wp2_with fail
      refine bodyPost_ret ?_ rfl fin.out;simp [results,Tryz.results332,go_sem,y0,y1]
def wroS(h:TH)(f:Ft):Int :=
if h.kind<1∨9<h.kind then 14
else if ownB h f=false then 19
else if h.kind=2∧h.hi<h.lo then 20
else if h.kind=3∧(h.most<0∨4096<h.most)then 20
else if h.kind=4∧h.names=[]then 15
else if(h.kind=5∨h.kind=6)∧onlyB f=false then 19
else if h.kind=5∧(h.most<0∨1024<h.most)then 20
else if h.kind=8∧f.len=0 then 15
else 0
noncomputable def postS(h:TH)(k:Ft)(sub:Mo→Nat→Nat→Res)(d M:Nat):Res :=
if h.kind=4 then(if 64<h.names.length then(8,(wN h.names 64).2,M)else((enumF (nms h.names) 0 h.names).1,(enumF (nms h.names) 0 h.names).2,M))
else if h.kind=5∨h.kind=6 then sub .one (d+1) M
else if h.kind=7∨h.kind=8 then(if 64<k.len then(8,(wN (pnm k) 64).2,M)else sub (.parts h.kind (nms (pnm k)) 0) (d+1) M)
else if h.kind=9 then(if rightS h.name=false then(9,h.nat,M)else(0,0,M))
else(0,0,M)
theorem wro_spec(h:TH)(k:Ft)(sub:Mo→Nat→Nat→Res)(d m M:Nat)(hM:M=m+1)(hd:d≤24)(hm:M≤512):wrB h k sub d m=if wroS h k≠0 then(wroS h k,h.at_,M)else postS h k sub d M:=by
 by_cases c1:h.kind<1∨9<h.kind
 ·rw [wrB_err,if_neg (by omega),if_neg (by omega),if_pos c1]
  unfold wroS;rw [if_pos c1];simp [hM]
 by_cases c2:ownB h k=false
 ·rw [wrB_err,if_neg (by omega),if_neg (by omega),if_neg c1,if_pos c2]
  unfold wroS;rw [if_neg c1,if_pos c2];simp [hM]
 have ho:ownB h k=true:=by simpa using c2
 rw [wrB_ok hM hd hm (by omega) (by omega) ho];unfold wroS postS;rw [if_neg c1,if_neg c2];have hk:h.kind=1∨h.kind=2∨h.kind=3∨h.kind=4∨h.kind=5∨h.kind=6∨h.kind=7∨h.kind=8∨h.kind=9:=by omega
 rcases hk with q|q|q|q|q|q|q|q|q
 ·simp [q]
 ·by_cases a:h.hi<h.lo<;>simp [q,a]
 ·by_cases a:h.most<0∨4096<h.most<;>simp [q,a]
 ·by_cases a:h.names=[]<;>simp [q,a]
 ·by_cases a:onlyB k=false
  ·simp [q,a]
  ·by_cases b:h.most<0∨1024<h.most<;>simp [q,a,b]
 ·have hz:h.most=0:=by
   unfold ownB at ho;rw [decide_eq_true_iff]at ho;omega
  by_cases a:onlyB k=false<;>simp [q,a,hz]
 ·simp [q]
 ·by_cases a:k.len=0<;>simp [q,a]
 ·simp [q]
theorem wro_elem{h:TH}{k:Ft}(e:wroS h k=0):(1≤h.kind∧h.kind≤9)∧((h.kind=5∨h.kind=6)→onlyB k=true):=by
 unfold wroS at e
 split at e
 ·omega
 ·split at e
  ·omega
  ·refine⟨by omega,fun q=>?_⟩
   cases c:onlyB k
   ·rw [if_neg (by omega),if_neg (by omega),if_neg (by omega),if_pos ⟨q,c⟩]at e
    omega
   ·rfl
theorem wrong_calls(f:Ft)(h:TH)(nv pv:Value)(w:World)(hm:h.names.length≤maxLen)(hfl:f.len≤maxLen)(hga:f.All GoodH GoodL)(hy:RdY w h f nv pv)(R:Ending→World→Prop)
  (hR:Hid (∀w',Below w.heap.size w w'→R (.returned (.int .i64 (wroS h f))) w')):Calls Tryz.prog 286 #[tyV h nv pv] w R:=by
 have gnl:h.names.length≤9223372036854775807:=hm;have gfl:f.len≤9223372036854775807:=hfl;obtain⟨Ap,cp,rfl,hpl⟩:=hy.p.sl;obtain⟨An,cn,rfl,-,-⟩:=hy.n.op;have b1:=(Below.refl w.heap.size w).alloc (Nat.le_refl _) (.cells #[.int .i64 h.kind,.int .i64 h.at_,.int .i64 h.lo,.int .i64 h.hi,.int .i64 h.most,.slice An h.names.length cn,.slice Ap f.len cp,.string h.name,.int .i64 h.nat] 36);have hA:=heap_alloc_new w (.cells #[.int .i64 h.kind,.int .i64 h.at_,.int .i64 h.lo,.int .i64 h.hi,.int .i64 h.most,.slice An h.names.length cn,.slice Ap f.len cp,.string h.name,.int .i64 h.nat] 36);replace hy:=Lib.hid hy;replace hga:=Lib.hid hga;go_enter Tryz.func286,Tryz.ntmps286
 go_upto_region 1 with fail
 generalize w.alloc (.cells #[.int .i64 h.kind,.int .i64 h.at_,.int .i64 h.lo,.int .i64 h.hi,.int .i64 h.most,.slice An h.names.length cn,.slice Ap f.len cp,.string h.name,.int .i64 h.nat] 36)=V at *;have u0:=(Lib.cell_of_heap hA 0).trans rfl
 by_cases c1:h.kind<1∨9<h.kind
 ·have hq:wroS h f=14:=if_pos c1
  rcases c1 with c1|c1
  ·have fin:=Lib.hid (hR.out _ b1)
   rw [hq]at fin;clear hR;go_wp2_with fail
   exact fin.out
  ·have c0:¬h.kind<1:=by omega
   have fin:=Lib.hid (hR.out _ b1);rw [hq]at fin;clear hR;go_wp2_with fail
   exact fin.out
 ·have k1:¬h.kind<1:=by omega
  have k9:¬9<h.kind:=by omega
  have cF:=Lib.hid fun R hR=>hasForeign_calls f h (.slice An h.names.length cn) (.slice Ap f.len cp) V ⟨by omega,by omega⟩ hm hfl hga.out (hy.out.below b1) R hR
  have r0:V.rangeAt w.heap.size 0 [.int .i64 h.kind,.int .i64 h.at_,.int .i64 h.lo,.int .i64 h.hi,.int .i64 h.most,.slice An h.names.length cn,.slice Ap f.len cp,.string h.name,.int .i64 h.nat]:=fun j v e=>by rw [Nat.zero_add,Lib.cell_of_heap hA];simpa using e
  go_upto_region 3 with fail
  go_wp2_with (refine wpList_load_g (by rfl) 36 _ rfl w.heap.size 0 rfl [.int .i64 h.kind,.int .i64 h.at_,.int .i64 h.lo,.int .i64 h.hi,.int .i64 h.most,.slice An h.names.length cn,.slice Ap f.len cp,.string h.name,.int .i64 h.nat] _ r0 Tryz.underlying36 rfl (by kernel_rfl) ?_;go_simp)
  refine cF.out _ (Lib.hid fun wB nF=>?_);have hB:=Lib.hid ((nF.block _ (blt_of hA)).trans hA);have nB:=Lib.hid (b1.trans (nF.mono b1.size));clear u0 r0 cF nF hA b1;cases ho:ownB h f
  ·have hq:wroS h f=19:=by unfold wroS;rw [if_neg c1,if_pos ho]
   clear ho c1 k1 k9;have fin:=Lib.hid (hR.out _ nB.out);rw [hq]at fin;clear hR;go_wp2_with fail
   exact fin.out
  ·have hk:h.kind=1∨h.kind=2∨h.kind=3∨h.kind=4∨h.kind=5∨h.kind=6∨h.kind=7∨h.kind=8∨h.kind=9:=by omega
   clear k1 k9;rcases hk with q|q|q|q|q|q|q|q|q
   ·have u0:=(Lib.cell_of_heap hB.out 0).trans rfl
    have q0:=Lib.hid q;rw [q]at u0;clear q;have hq:wroS h f=0:=by unfold wroS;rw [if_neg c1,if_neg (by rw [ho];simp)];simp [q0.out]
    have fin:=Lib.hid (hR.out _ nB.out);rw [hq]at fin;clear hR;go_wp2_with fail
    exact fin.out
   ·have u0:=(Lib.cell_of_heap hB.out 0).trans rfl
    have u2:=(Lib.cell_of_heap hB.out 2).trans rfl;have u3:=(Lib.cell_of_heap hB.out 3).trans rfl;have q0:=Lib.hid q;rw [q]at u0;clear q
    by_cases c:h.hi<h.lo
    ·have hq:wroS h f=20:=by unfold wroS;rw [if_neg c1,if_neg (by rw [ho];simp)];simp [q0.out,c]
     have fin:=Lib.hid (hR.out _ nB.out);rw [hq]at fin;clear hR;go_wp2_with fail
     exact fin.out
    ·have hq:wroS h f=0:=by unfold wroS;rw [if_neg c1,if_neg (by rw [ho];simp)];simp [q0.out,c]
     have fin:=Lib.hid (hR.out _ nB.out);rw [hq]at fin;clear hR;go_wp2_with fail
     exact fin.out
   ·have u0:=(Lib.cell_of_heap hB.out 0).trans rfl
    have u4:=(Lib.cell_of_heap hB.out 4).trans rfl;have q0:=Lib.hid q;rw [q]at u0;clear q
    by_cases c:h.most<0∨4096<h.most
    ·have hd:=decide_eq_true c
     have hq:wroS h f=20:=by unfold wroS;rw [if_neg c1,if_neg (by rw [ho];simp)];simp [q0.out,c]
     clear c;go_wp2_with fail
     refine outside_calls h.most 4096 _ _ (Lib.hid ?_);rw [hd];have fin:=Lib.hid (hR.out _ nB.out);rw [hq]at fin;clear hR;go_wp2_with fail
     exact fin.out
    ·have hd:=decide_eq_false c
     have hq:wroS h f=0:=by unfold wroS;rw [if_neg c1,if_neg (by rw [ho];simp)];simp [q0.out,c]
     clear c;go_wp2_with fail
     refine outside_calls h.most 4096 _ _ (Lib.hid ?_);rw [hd];have fin:=Lib.hid (hR.out _ nB.out);rw [hq]at fin;clear hR;go_wp2_with fail
     exact fin.out
   ·have u0:=(Lib.cell_of_heap hB.out 0).trans rfl
    have u5:=(Lib.cell_of_heap hB.out 5).trans rfl;have q0:=Lib.hid q;rw [q]at u0;clear q
    by_cases c:h.names=[]
    ·have l0:h.names.length=0:=by rw [c];rfl
     rw [l0]at u5;have hq:wroS h f=15:=by unfold wroS;rw [if_neg c1,if_neg (by rw [ho];simp)];simp [q0.out,c]
     clear l0 c;have fin:=Lib.hid (hR.out _ nB.out);rw [hq]at fin;clear hR;go_wp2_with fail
     exact fin.out
    ·have l0:((h.names.length:Int)==0)=false:=by simp;exact c
     have hq:wroS h f=0:=by unfold wroS;rw [if_neg c1,if_neg (by rw [ho];simp)];simp [q0.out,c]
     clear c;have fin:=Lib.hid (hR.out _ nB.out);rw [hq]at fin;clear hR;go_wp2_with fail
     exact fin.out
   ·have u0:=(Lib.cell_of_heap hB.out 0).trans rfl
    have q0:=Lib.hid q;rw [q]at u0;clear q;have cE:=Lib.hid fun R hR=>hasElement_calls f h (.slice An h.names.length cn) (.slice Ap f.len cp) wB hga.out (hy.out.below nB.out) R hR
    have r0:wB.rangeAt w.heap.size 0 [.int .i64 h.kind,.int .i64 h.at_,.int .i64 h.lo,.int .i64 h.hi,.int .i64 h.most,.slice An h.names.length cn,.slice Ap f.len cp,.string h.name,.int .i64 h.nat]:=fun j v e=>by rw [Nat.zero_add,Lib.cell_of_heap hB.out];simpa using e
    go_upto_region 11 with fail
    go_wp2_with (refine wpList_load_g (by rfl) 36 _ rfl w.heap.size 0 rfl [.int .i64 h.kind,.int .i64 h.at_,.int .i64 h.lo,.int .i64 h.hi,.int .i64 h.most,.slice An h.names.length cn,.slice Ap f.len cp,.string h.name,.int .i64 h.nat] _ r0 Tryz.underlying36 rfl (by kernel_rfl) ?_;go_simp)
    refine cE.out _ (Lib.hid fun wE nE=>?_);have hE:=(nE.block _ (blt_of hB.out)).trans hB.out;have nBE:=Lib.hid (nB.out.trans (nE.mono nB.out.size));clear u0 r0 cE nE;have u0:=(Lib.cell_of_heap hE 0).trans rfl;have u4:=(Lib.cell_of_heap hE 4).trans rfl;rw [q0.out]at u0;cases co:onlyB f
    ·have hq:wroS h f=19:=by unfold wroS;rw [if_neg c1,if_neg (by rw [ho];simp)];simp [q0.out,co]
     clear co;have fin:=Lib.hid (hR.out _ nBE.out);rw [hq]at fin;clear hR;go_wp2_with fail
     exact fin.out
    ·by_cases c:h.most<0∨1024<h.most
     ·have hd:=decide_eq_true c
      have hq:wroS h f=20:=by unfold wroS;rw [if_neg c1,if_neg (by rw [ho];simp)];simp [q0.out,c,co]
      clear c co;go_wp2_with fail
      refine outside_calls h.most 1024 _ _ (Lib.hid ?_);rw [hd];have fin:=Lib.hid (hR.out _ nBE.out);rw [hq]at fin;clear hR;go_wp2_with fail
      exact fin.out
     ·have hd:=decide_eq_false c
      have hq:wroS h f=0:=by unfold wroS;rw [if_neg c1,if_neg (by rw [ho];simp)];simp [q0.out,c,co]
      clear c co;go_wp2_with fail
      refine outside_calls h.most 1024 _ _ (Lib.hid ?_);rw [hd];have fin:=Lib.hid (hR.out _ nBE.out);rw [hq]at fin;clear hR;go_wp2_with fail
      exact fin.out
   ·have u0:=(Lib.cell_of_heap hB.out 0).trans rfl
    have q0:=Lib.hid q;rw [q]at u0;clear q;have cE:=Lib.hid fun R hR=>hasElement_calls f h (.slice An h.names.length cn) (.slice Ap f.len cp) wB hga.out (hy.out.below nB.out) R hR
    have r0:wB.rangeAt w.heap.size 0 [.int .i64 h.kind,.int .i64 h.at_,.int .i64 h.lo,.int .i64 h.hi,.int .i64 h.most,.slice An h.names.length cn,.slice Ap f.len cp,.string h.name,.int .i64 h.nat]:=fun j v e=>by rw [Nat.zero_add,Lib.cell_of_heap hB.out];simpa using e
    go_upto_region 11 with fail
    go_wp2_with (refine wpList_load_g (by rfl) 36 _ rfl w.heap.size 0 rfl [.int .i64 h.kind,.int .i64 h.at_,.int .i64 h.lo,.int .i64 h.hi,.int .i64 h.most,.slice An h.names.length cn,.slice Ap f.len cp,.string h.name,.int .i64 h.nat] _ r0 Tryz.underlying36 rfl (by kernel_rfl) ?_;go_simp)
    refine cE.out _ (Lib.hid fun wE nE=>?_);have hE:=(nE.block _ (blt_of hB.out)).trans hB.out;have nBE:=Lib.hid (nB.out.trans (nE.mono nB.out.size));clear u0 r0 cE nE;have u0:=(Lib.cell_of_heap hE 0).trans rfl;have u4:=(Lib.cell_of_heap hE 4).trans rfl;rw [q0.out]at u0;cases co:onlyB f
    ·have hq:wroS h f=19:=by unfold wroS;rw [if_neg c1,if_neg (by rw [ho];simp)];simp [q0.out,co]
     clear co;have fin:=Lib.hid (hR.out _ nBE.out);rw [hq]at fin;clear hR;go_wp2_with fail
     exact fin.out
    ·have hq:wroS h f=0:=by unfold wroS;rw [if_neg c1,if_neg (by rw [ho];simp)];simp [q0.out,co]
     clear co;have fin:=Lib.hid (hR.out _ nBE.out);rw [hq]at fin;clear hR;go_wp2_with fail
     exact fin.out
   ·have u0:=(Lib.cell_of_heap hB.out 0).trans rfl
    have q0:=Lib.hid q;rw [q]at u0;clear q;have hq:wroS h f=0:=by unfold wroS;rw [if_neg c1,if_neg (by rw [ho];simp)];simp [q0.out]
    have fin:=Lib.hid (hR.out _ nB.out);rw [hq]at fin;clear hR;go_wp2_with fail
    exact fin.out
   ·have u0:=(Lib.cell_of_heap hB.out 0).trans rfl
    have u6:=(Lib.cell_of_heap hB.out 6).trans rfl;have q0:=Lib.hid q;rw [q]at u0;clear q
    by_cases c:f.len=0
    ·rw [c]at u6
     have hq:wroS h f=15:=by unfold wroS;rw [if_neg c1,if_neg (by rw [ho];simp)];simp [q0.out,c]
     clear c;have fin:=Lib.hid (hR.out _ nB.out);rw [hq]at fin;clear hR;go_wp2_with fail
     exact fin.out
    ·have l0:((f.len:Int)==0)=false:=by simp;exact c
     have hq:wroS h f=0:=by unfold wroS;rw [if_neg c1,if_neg (by rw [ho];simp)];simp [q0.out,c]
     clear c;have fin:=Lib.hid (hR.out _ nB.out);rw [hq]at fin;clear hR;go_wp2_with fail
     exact fin.out
   ·have u0:=(Lib.cell_of_heap hB.out 0).trans rfl
    have q0:=Lib.hid q;rw [q]at u0;clear q;have hq:wroS h f=0:=by unfold wroS;rw [if_neg c1,if_neg (by rw [ho];simp)];simp [q0.out]
    have fin:=Lib.hid (hR.out _ nB.out);rw [hq]at fin;clear hR;go_wp2_with fail
    exact fin.out
end Go.Proofs.YtabhkakomececaaGreat.Kin
