import Derived.Test.YtabhkakomececaaGreatQ12
set_option linter.all false
set_option maxRecDepth 100000
set_option maxHeartbeats 4000000
namespace Go.Proofs.YtabhkakomececaaGreat.Kin
open Go.RowKit Go.Lib Utf Nam Lat
theorem set2k'{b q:Nat}{w W:World}(hq:b≤q)(n:Below b w W)(a0 a1:Value):Below b w ((W.setCell ⟨q,0,none⟩ a0).setCell ⟨q,1,none⟩ a1):=(n.setCell (p:=⟨q,0,none⟩) hq a0).setCell (p:=⟨q,1,none⟩) hq a1
def labG:Nat→List Wr→Int×Int
| _,[]=>(0,0)
| i,x::r=>if i=32 then(8,x.2)else if rightS x.1=false then(9,x.2)else labG (i+1) r
def labelC(l:List Wr):Int×Int:=labG 0 l
theorem labG_drop{l:List Wr}{i:Nat}(hi:i<l.length):labG i (l.drop i)=if i=32 then(8,(wN l i).2)else if rightS (wN l i).1=false then(9,(wN l i).2)else labG (i+1) (l.drop (i+1)):=by
 rw [List.drop_eq_getElem_cons hi,wN_get hi];rfl
def coarC(p:PH):Int×Int :=
if p.ck=0 then(if p.cn≠0∨p.cl≠[]then(19,p.at_)else(0,0))
else if p.ck<0∨3<p.ck then(14,p.cat)
else if(p.ck=1∧p.cn<1)∨(p.ck=2∧(p.cn<0∨4096<p.cn))∨(p.ck=3∧p.cn≠0)then(20,p.cat)
else labelC p.cl
noncomputable def wcF:Ft→Mo→Nat→Nat→Res
| .nil,_,_,m=>(0,0,m)
| .cons _ h k _,.one,d,m=>wrB h k (wcF k) d m
| .cons p h k r,.parts K ns i,d,m =>
 if listedS ns i≠0 then(listedS ns i,p.at_,m)
 else if p.bare then(if K=7∨zeroB h k=false∨plainB p bPH=false then(19,p.at_,m)else wcF r (.parts K ns (i+1)) d m)
 else if p.wide<0∨64<p.wide then(20,p.at_,m)
 else if(labelC p.label).1≠0 then((labelC p.label).1,(labelC p.label).2,m)
 else if(coarC p).1≠0 then((coarC p).1,(coarC p).2,m)
 else if(wrB h k (wcF k) d m).1≠0 then wrB h k (wcF k) d m
 else wcF r (.parts K ns (i+1)) d (wrB h k (wcF k) d m).2.2
theorem wcF_cnt:∀(f:Ft)(mo:Mo)(d m:Nat),m≤512→(wcF f mo d m).1=0→(wcF f mo d m).2.2≤512
| .nil,_,_,m,hm=>fun _=>hm
| .cons p h k r,.one,d,m,hm=>wrB_cnt h k _ (wcF_cnt k) d m
| .cons p h k r,.parts K ns i,d,m,hm=>by
 have hB:=wrB_cnt h k _ (wcF_cnt k) d m;have hr:=fun m hm=>wcF_cnt r (.parts K ns (i+1)) d m hm
 unfold wcF;generalize wrB h k (wcF k) d m=A at *
 repeat' split
 all_goals first|exact hr _ hm|exact hB|(intro _;exact hm)|skip
 rename_i q
 exact hr _ (hB (by simpa using q))
theorem wcF_zero:∀(f:Ft)(mo:Mo)(d m:Nat),(wcF f mo d m).1=0→(wcF f mo d m).2.1=0
| .nil,_,_,m=>fun _=>rfl
| .cons p h k r,.one,d,m=>wrB_zero h k _ (wcF_zero k) d m
| .cons p h k r,.parts K ns i,d,m=>by
 have hB:=wrB_zero h k _ (wcF_zero k) d m;have hr:=fun m=>wcF_zero r (.parts K ns (i+1)) d m
 unfold wcF;generalize wrB h k (wcF k) d m=A at *
 repeat' split
 all_goals first|exact hr _|exact hB|(rename_i q;exact fun h=>absurd h q)|(intro q;simp at q)
def nfS(n:ByteArray)(z:Int)(b:Bool):Int×Int:=if rightS n=false then(9,z)else if b then(10,z)else(0,0)
theorem twi_here{ns:List ByteArray}{I:Nat}(hI:I<ns.length)(hb:∀j,j<I→ns.getD j ByteArray.empty ∉ ns.take j):(I:Int)=twiS ns↔ns.getD I ByteArray.empty∈ns.take I:=by
 rcases twi_cases ns with⟨e,h⟩|⟨m,hm,h1,h2,e⟩
 ·rw [e]
  exact⟨fun q=>by omega,fun q=>absurd q (h I hI)⟩
 ·rw [e]
  refine⟨fun q=>?_,fun q=>?_⟩
  ·obtain rfl:I=m:=by omega
   exact h1
  ·by_cases c:I<m
   ·exact absurd q (h2 I c)
   ·by_cases c':m<I
    ·exact absurd h1 (hb m c')
    ·omega
theorem listed_nf{ns:List ByteArray}{I:Nat}(hI:I<ns.length)(hb:∀j,j<I→listedS ns j=0)(z:Int):nfS (ns.getD I ByteArray.empty) z ((I:Int)==twiS ns)=if listedS ns I≠0 then(listedS ns I,z)else(0,0):=by
 have hb':∀j,j<I→ns.getD j ByteArray.empty ∉ ns.take j:=fun j hj q=>by
  have:=hb j hj;unfold listedS at this;rw [if_pos q]at this
  split at this<;>omega
 have h:=twi_here hI hb';unfold nfS listedS
 by_cases c:rightS (ns.getD I ByteArray.empty)=false
 ·rw [if_pos c,if_pos c];simp
 ·rw [if_neg c,if_neg c]
  by_cases q:ns.getD I ByteArray.empty∈ns.take I
  ·rw [if_pos q,if_pos (by simpa using h.2 q)];simp
  ·rw [if_neg q,if_neg (by simpa using fun e=>q (h.1 e))];simp
theorem nameFault_calls(n:ByteArray)(z:Int)(b:Bool)(w:World)(hn:n.size≤maxLen)(R:Ending→World→Prop)(hR:Hid (∀w',Below w.heap.size w w'→R (.returned (.agg #[.int .i64 (nfS n z b).1,.int .i64 (nfS n z b).2])) w')):Calls Tryz.prog 289 #[.agg #[.string n,.int .i64 z],.bool b] w R:=by
 have b1:=(Below.refl w.heap.size w).alloc (Nat.le_refl _) (.cells #[.string n,.int .i64 z] 34);have b2:=b1.alloc b1.size (.cells #[.int .i64 0,.int .i64 0] 26);have hz:(w.alloc (.cells #[.string n,.int .i64 z] 34)).heap.size=w.heap.size+1:=by simp
 have e1:=(((Below.refl _ _).alloc (Nat.le_refl _) (.cells #[.int .i64 0,.int .i64 0] 26)).block w.heap.size (by omega)).trans (heap_alloc_new w (.cells #[.string n,.int .i64 z] 34));have e2:=heap_alloc_new (w.alloc (.cells #[.string n,.int .i64 z] 34)) (.cells #[.int .i64 0,.int .i64 0] 26);rw [hz]at e2;go_enter Tryz.func289,Tryz.ntmps289
 go_upto_region 1 with fail
 generalize(w.alloc (.cells #[.string n,.int .i64 z] 34)).alloc (.cells #[.int .i64 0,.int .i64 0] 26)=V at *;have k0:=(Lib.cell_of_heap e1 0).trans rfl;have k1:=(Lib.cell_of_heap e1 1).trans rfl;have y0:=(Lib.cell_of_heap e2 0).trans rfl;have yf0:=Lib.frozen_of_heap e2 0;have y1:=(Lib.cell_of_heap e2 1).trans rfl;have yf1:=Lib.frozen_of_heap e2 1;clear e1 e2 hz b1;go_wp2_with fail
 refine right_calls n hn _ _ (Lib.hid ?_);cases hr:rightS n
 ·have hq:nfS n z b=(9,z):=if_pos hr
  clear hr;have fin:=Lib.hid (hR.out _ (set2k' (q:=w.heap.size+1) (by omega) b2 (.int .i64 (9)) (.int .i64 (z))));rw [hq]at fin;clear hR;go_wp2_with fail
  refine bodyPost_ret ?_ rfl fin.out;simp [results,Tryz.results289,go_sem,y0,y1]
 ·cases b
  ·have hq:nfS n z false=(0,0):=by unfold nfS;rw [if_neg (by rw [hr];simp)];rfl
   clear hr;have fin:=Lib.hid (hR.out _ (set2k' (q:=w.heap.size+1) (by omega) b2 (.int .i64 (0)) (.int .i64 (0))));rw [hq]at fin;clear hR;go_wp2_with fail
   refine bodyPost_ret ?_ rfl fin.out;simp [results,Tryz.results289,go_sem,y0,y1]
  ·have hq:nfS n z true=(10,z):=by unfold nfS;rw [if_neg (by rw [hr];simp)];rfl
   clear hr;have fin:=Lib.hid (hR.out _ (set2k' (q:=w.heap.size+1) (by omega) b2 (.int .i64 (10)) (.int .i64 (z))));rw [hq]at fin;clear hR;go_wp2_with fail
   refine bodyPost_ret ?_ rfl fin.out;simp [results,Tryz.results289,go_sem,y0,y1]
theorem labelFault_calls(a:List Wr)(hm:a.length≤maxLen)(hg:∀x∈a,GoodW x)(va:Value)(w:World)(ha:RdW w va a)(R:Ending→World→Prop)(hR:Hid (∀w',Below w.heap.size w w'→R (.returned (.agg #[.int .i64 (labelC a).1,.int .i64 (labelC a).2])) w')):Calls Tryz.prog 371 #[va] w R:=by
 replace hm:a.length≤9223372036854775807:=hm;obtain⟨A,ca,rfl,hca,hra⟩:=ha.op;have b1:=(Below.refl w.heap.size w).alloc (Nat.le_refl _) (.cells #[.int .i64 0,.int .i64 0] 26);have e1:=heap_alloc_new w (.cells #[.int .i64 0,.int .i64 0] 26);have e0:labelC a=labG 0 (a.drop 0):=rfl;replace hra:=Lib.hid hra;clear ha;go_enter Tryz.func371,Tryz.ntmps371
 go_upto_region 1 with fail
 generalize w.alloc (.cells #[.int .i64 0,.int .i64 0] 26)=V at *;go_wp2_with fail
 go_loopg [7] a.length (fun g i wr=>∃K:Nat,i=.int .i64 K∧K+g=a.length∧Hid (Below w.heap.size w wr)∧wr.heap[w.heap.size]?=some (.cells #[.int .i64 0,.int .i64 0] 26)∧labelC a=labG K (a.drop K))
 case atStart=>exact⟨0,rfl,by omega,Lib.hid b1,e1,e0⟩
 case round =>
  clear b1 e1 e0;obtain⟨K,rfl,e1,nb,hY,e2⟩:=hrel;have y0:=(Lib.cell_of_heap hY 0).trans rfl;have yf0:=Lib.frozen_of_heap hY 0;have y1:=(Lib.cell_of_heap hY 1).trans rfl;have yf1:=Lib.frozen_of_heap hY 1
  by_cases hK:K<a.length
  ·obtain⟨ga,oa,rfl,hga,ca⟩:=hra.out (by omega)
   have x0:=(nb.out.cell (p:=⟨ga,oa+K*2,none⟩) hga).trans (ca K hK).1;have x1:=(nb.out.cell (p:=⟨ga,oa+K*2+1,none⟩) hga).trans (ca K hK).2;have i0:(0:Int)≤(K:Int):=by omega
   have i1:(K:Int)<(a.length:Int):=by omega
   have hgK:=(hg _ (wN_mem hK)).1;rw [labG_drop hK]at e2;clear ca;generalize(wN a K).1=s at *;generalize(wN a K).2=z at *;have bB:=(Below.refl wr.heap.size wr).alloc (Nat.le_refl _) (.cells #[.string s,.int .i64 z] 34);have hN:=heap_alloc_new wr (.cells #[.string s,.int .i64 z] 34);have lY:=blt_of hY;have hY2:=(bB.block _ lY).trans hY;have nb2:=Lib.hid (nb.out.trans (bB.mono nb.out.size));clear y0 y1 yf0 yf1 bB;go_upto_region 4 with fail
   generalize wr.alloc (.cells #[.string s,.int .i64 z] 34)=V2 at *;generalize wr.heap.size=B at *;have k0:=(Lib.cell_of_heap hN 0).trans rfl;have k1:=(Lib.cell_of_heap hN 1).trans rfl;clear x0 x1 hN;have y0:=(Lib.cell_of_heap hY2 0).trans rfl;have yf0:=Lib.frozen_of_heap hY2 0;have y1:=(Lib.cell_of_heap hY2 1).trans rfl;have yf1:=Lib.frozen_of_heap hY2 1
   by_cases h32:K=32
   ·rw [if_pos h32]at e2
    have q:((K:Int)==32)=true:=by simp;omega
    clear h32;have fin:=Lib.hid (hR.out _ (set2k' (q:=w.heap.size) (by omega) nb2.out (.int .i64 (8)) (.int .i64 (z))));rw [e2]at fin;clear hR;go_wp2_with fail
    refine bodyPost_ret ?_ rfl fin.out;simp [results,Tryz.results371,go_sem,y0,y1]
   ·rw [if_neg h32]at e2
    have q:((K:Int)==32)=false:=by simp;omega
    clear h32;go_wp2_with fail
    refine right_calls s hgK _ _ (Lib.hid ?_);cases hr:rightS s
    ·rw [if_pos hr]at e2
     clear hr;have fin:=Lib.hid (hR.out _ (set2k' (q:=w.heap.size) (by omega) nb2.out (.int .i64 (9)) (.int .i64 (z))));rw [e2]at fin;clear hR;go_wp2_with fail
     refine bodyPost_ret ?_ rfl fin.out;simp [results,Tryz.results371,go_sem,y0,y1]
    ·rw [if_neg (by rw [hr];simp)]at e2
     clear hr k0 k1 y0 y1 yf0 yf1;go_wp2_with fail
     go_roundg (gk-1)
     case measure=>omega
     case rel=>exact⟨K+1,by go_num,by omega,nb2,hY2,e2⟩
  ·obtain rfl:K=a.length:=by omega
   rw [List.drop_length]at e2;have e3:labelC a=(0,0):=e2;clear e2;have fin:=Lib.hid (hR.out _ (set2k' (q:=w.heap.size) (by omega) nb.out (.int .i64 (0)) (.int .i64 (0))));rw [e3]at fin;clear hR;go_wp2_with fail
   refine bodyPost_ret ?_ rfl fin.out;simp [results,Tryz.results371,go_sem,y0,y1]
theorem coarseFault_calls(p:PH)(x:TH)(kd:Ft)(lv cv nv pv:Value)(w:World)(lcl:p.cl.length≤maxLen)(hgl:∀y∈p.cl,GoodW y)(hl:RdW w lv p.label)(hc:RdW w cv p.cl)(hy:RdY w x kd nv pv)(R:Ending→World→Prop)(hR:Hid (∀w',Below w.heap.size w w'→R (.returned (.agg #[.int .i64 (coarC p).1,.int .i64 (coarC p).2])) w')):Calls Tryz.prog 372 #[ptV p lv cv x nv pv] w R:=by
 have lcl':p.cl.length≤9223372036854775807:=lcl;obtain⟨A1,n1,rfl,-,-⟩:=hl.op;obtain⟨A2,n2,rfl,-,-⟩:=hc.op;obtain⟨A5,n5,rfl,-,-⟩:=hy.n.op;obtain⟨A7,n7,rfl,-⟩:=hy.p.sl;have b1:=(Below.refl w.heap.size w).alloc (Nat.le_refl _) (.cells #[.string p.name,.int .i64 p.at_,.bool p.bare,.slice A1 p.label.length n1,.int .i64 p.wide,.int .i64 p.ck,.int .i64 p.cn,.int .i64 p.cat,.slice A2 p.cl.length n2,.int .i64 x.kind,.int .i64 x.at_,.int .i64 x.lo,.int .i64 x.hi,.int .i64 x.most,.slice A5 x.names.length n5,.slice A7 kd.len n7,.string x.name,.int .i64 x.nat] 127);have b2:=b1.alloc b1.size (.cells #[.int .i64 0,.int .i64 0] 26);have b3:=b2.alloc b2.size (.cells #[.int .i64 p.ck,.int .i64 p.cn,.int .i64 p.cat,.slice A2 p.cl.length n2] 125);have z1:(w.alloc (.cells #[.string p.name,.int .i64 p.at_,.bool p.bare,.slice A1 p.label.length n1,.int .i64 p.wide,.int .i64 p.ck,.int .i64 p.cn,.int .i64 p.cat,.slice A2 p.cl.length n2,.int .i64 x.kind,.int .i64 x.at_,.int .i64 x.lo,.int .i64 x.hi,.int .i64 x.most,.slice A5 x.names.length n5,.slice A7 kd.len n7,.string x.name,.int .i64 x.nat] 127)).heap.size=w.heap.size+1:=by simp
 have z2:((w.alloc (.cells #[.string p.name,.int .i64 p.at_,.bool p.bare,.slice A1 p.label.length n1,.int .i64 p.wide,.int .i64 p.ck,.int .i64 p.cn,.int .i64 p.cat,.slice A2 p.cl.length n2,.int .i64 x.kind,.int .i64 x.at_,.int .i64 x.lo,.int .i64 x.hi,.int .i64 x.most,.slice A5 x.names.length n5,.slice A7 kd.len n7,.string x.name,.int .i64 x.nat] 127)).alloc (.cells #[.int .i64 0,.int .i64 0] 26)).heap.size=w.heap.size+2:=by simp
 have hP:=(((Below.refl _ _).alloc (Nat.le_refl _) (.cells #[.int .i64 0,.int .i64 0] 26)).block w.heap.size (by omega)).trans (heap_alloc_new w (.cells #[.string p.name,.int .i64 p.at_,.bool p.bare,.slice A1 p.label.length n1,.int .i64 p.wide,.int .i64 p.ck,.int .i64 p.cn,.int .i64 p.cat,.slice A2 p.cl.length n2,.int .i64 x.kind,.int .i64 x.at_,.int .i64 x.lo,.int .i64 x.hi,.int .i64 x.most,.slice A5 x.names.length n5,.slice A7 kd.len n7,.string x.name,.int .i64 x.nat] 127));have hP2:=(((Below.refl _ _).alloc (Nat.le_refl _) (.cells #[.int .i64 p.ck,.int .i64 p.cn,.int .i64 p.cat,.slice A2 p.cl.length n2] 125)).block w.heap.size (by omega)).trans hP;have hF:=heap_alloc_new (w.alloc (.cells #[.string p.name,.int .i64 p.at_,.bool p.bare,.slice A1 p.label.length n1,.int .i64 p.wide,.int .i64 p.ck,.int .i64 p.cn,.int .i64 p.cat,.slice A2 p.cl.length n2,.int .i64 x.kind,.int .i64 x.at_,.int .i64 x.lo,.int .i64 x.hi,.int .i64 x.most,.slice A5 x.names.length n5,.slice A7 kd.len n7,.string x.name,.int .i64 x.nat] 127)) (.cells #[.int .i64 0,.int .i64 0] 26);rw [z1]at hF;have hF2:=(((Below.refl _ _).alloc (Nat.le_refl _) (.cells #[.int .i64 p.ck,.int .i64 p.cn,.int .i64 p.cat,.slice A2 p.cl.length n2] 125)).block (w.heap.size+1) (by omega)).trans hF;have hC:=heap_alloc_new ((w.alloc (.cells #[.string p.name,.int .i64 p.at_,.bool p.bare,.slice A1 p.label.length n1,.int .i64 p.wide,.int .i64 p.ck,.int .i64 p.cn,.int .i64 p.cat,.slice A2 p.cl.length n2,.int .i64 x.kind,.int .i64 x.at_,.int .i64 x.lo,.int .i64 x.hi,.int .i64 x.most,.slice A5 x.names.length n5,.slice A7 kd.len n7,.string x.name,.int .i64 x.nat] 127)).alloc (.cells #[.int .i64 0,.int .i64 0] 26)) (.cells #[.int .i64 p.ck,.int .i64 p.cn,.int .i64 p.cat,.slice A2 p.cl.length n2] 125);rw [z2]at hC;replace hc:=Lib.hid hc;clear hl hy hF;go_enter Tryz.func372,Tryz.ntmps372
 go_upto_region 1 with fail
 generalize(w.alloc (.cells #[.string p.name,.int .i64 p.at_,.bool p.bare,.slice A1 p.label.length n1,.int .i64 p.wide,.int .i64 p.ck,.int .i64 p.cn,.int .i64 p.cat,.slice A2 p.cl.length n2,.int .i64 x.kind,.int .i64 x.at_,.int .i64 x.lo,.int .i64 x.hi,.int .i64 x.most,.slice A5 x.names.length n5,.slice A7 kd.len n7,.string x.name,.int .i64 x.nat] 127)).alloc (.cells #[.int .i64 0,.int .i64 0] 26)=V2 at *;have u5:=(Lib.cell_of_heap hP 5).trans rfl;have u6:=(Lib.cell_of_heap hP 6).trans rfl;have u7:=(Lib.cell_of_heap hP 7).trans rfl;have u8:=(Lib.cell_of_heap hP 8).trans rfl;go_upto_region 2 with fail
 generalize V2.alloc (.cells #[.int .i64 p.ck,.int .i64 p.cn,.int .i64 p.cat,.slice A2 p.cl.length n2] 125)=V3 at *;clear u5 u6 u7 u8 hP b1 b2 z1;have nW:=Lib.hid b3;have u1:=(Lib.cell_of_heap hP2 1).trans rfl;have k0:=(Lib.cell_of_heap hC 0).trans rfl;have k1:=(Lib.cell_of_heap hC 1).trans rfl;have k2:=(Lib.cell_of_heap hC 2).trans rfl;have k3:=(Lib.cell_of_heap hC 3).trans rfl;have hY:=hF2;have y0:=(Lib.cell_of_heap hY 0).trans rfl;have yf0:=Lib.frozen_of_heap hY 0;have y1:=(Lib.cell_of_heap hY 1).trans rfl;have yf1:=Lib.frozen_of_heap hY 1;clear hC hP2 hF2 b3 z2
 by_cases c0:p.ck=0
 ·have hq0:coarC p=if p.cn≠0∨p.cl≠[]then(19,p.at_)else(0,0):=if_pos c0
  rw [c0]at k0;clear c0
  by_cases c1:p.cn=0
  ·rw [c1]at k1
   by_cases c2:p.cl=[]
   ·have hq:coarC p=labelC p.cl:=by rw [hq0,if_neg (by rintro(q|q);exact q c1;exact q c2),c2];rfl
    have c3:¬(0:Int)<(p.cl.length:Int):=by rw [c2];simp
    clear c1 c2 hq0;go_wp2_with fail
    refine labelFault_calls p.cl lcl hgl (.slice A2 p.cl.length n2) _ (hc.out.below nW.out) _ (Lib.hid fun wL nL=>?_);have hYL:=(nL.block _ (blt_of hY)).trans hY;have nWL:=Lib.hid (nW.out.trans (nL.mono nW.out.size));clear y0 y1 yf0 yf1;have y0:=(Lib.cell_of_heap hYL 0).trans rfl;have yf0:=Lib.frozen_of_heap hYL 0;have y1:=(Lib.cell_of_heap hYL 1).trans rfl;have yf1:=Lib.frozen_of_heap hYL 1;generalize labelC p.cl=LC at *;have fin:=Lib.hid (hR.out _ (set2k' (q:=w.heap.size+1) (by omega) nWL.out (.int .i64 (LC.1)) (.int .i64 (LC.2))));rw [hq]at fin;clear hR;go_wp2_with fail
    refine bodyPost_ret ?_ rfl fin.out;simp [results,Tryz.results372,go_sem,y0,y1]
   ·have hq:coarC p=(19,p.at_):=by rw [hq0,if_pos (.inr c2)]
    have c3:(0:Int)<(p.cl.length:Int):=by have:=List.length_pos_iff.2 c2;omega
    clear c1 c2 hq0;have fin:=Lib.hid (hR.out _ (set2k' (q:=w.heap.size+1) (by omega) nW.out (.int .i64 (19)) (.int .i64 (p.at_))));rw [hq]at fin;clear hR;go_wp2_with fail
    refine bodyPost_ret ?_ rfl fin.out;simp [results,Tryz.results372,go_sem,y0,y1]
  ·have hq:coarC p=(19,p.at_):=by rw [hq0,if_pos (.inl c1)]
   have q1:(p.cn != 0)=true:=by simpa using c1
   clear c1 hq0;have fin:=Lib.hid (hR.out _ (set2k' (q:=w.heap.size+1) (by omega) nW.out (.int .i64 (19)) (.int .i64 (p.at_))));rw [hq]at fin;clear hR;go_wp2_with fail
   refine bodyPost_ret ?_ rfl fin.out;simp [results,Tryz.results372,go_sem,y0,y1]
 ·have q0:(p.ck==0)=false:=by simpa using c0
  have hq0:coarC p=if p.ck<0∨3<p.ck then(14,p.cat)else if(p.ck=1∧p.cn<1)∨(p.ck=2∧(p.cn<0∨4096<p.cn))∨(p.ck=3∧p.cn≠0)then(20,p.cat)else labelC p.cl:=if_neg c0
  by_cases c1:p.ck<0
  ·have hq:coarC p=(14,p.cat):=by rw [hq0,if_pos (.inl c1)]
   clear hq0;have fin:=Lib.hid (hR.out _ (set2k' (q:=w.heap.size+1) (by omega) nW.out (.int .i64 (14)) (.int .i64 (p.cat))));rw [hq]at fin;clear hR;go_wp2_with fail
   refine bodyPost_ret ?_ rfl fin.out;simp [results,Tryz.results372,go_sem,y0,y1]
  ·by_cases c2:3<p.ck
   ·have hq:coarC p=(14,p.cat):=by rw [hq0,if_pos (.inr c2)]
    clear hq0;have fin:=Lib.hid (hR.out _ (set2k' (q:=w.heap.size+1) (by omega) nW.out (.int .i64 (14)) (.int .i64 (p.cat))));rw [hq]at fin;clear hR;go_wp2_with fail
    refine bodyPost_ret ?_ rfl fin.out;simp [results,Tryz.results372,go_sem,y0,y1]
   ·rw [if_neg (by omega)]at hq0
    have hk:p.ck=1∨p.ck=2∨p.ck=3:=by omega
    clear q0 c0 c1 c2;rcases hk with hk|hk|hk
    ·rw [hk]at k0
     by_cases c:p.cn≤0
     ·have hq:coarC p=(20,p.cat):=by rw [hq0,if_pos (by omega)]
      clear hq0 hk;have fin:=Lib.hid (hR.out _ (set2k' (q:=w.heap.size+1) (by omega) nW.out (.int .i64 (20)) (.int .i64 (p.cat))));rw [hq]at fin;clear hR;go_wp2_with fail
      refine bodyPost_ret ?_ rfl fin.out;simp [results,Tryz.results372,go_sem,y0,y1]
     ·have hq:coarC p=labelC p.cl:=by rw [hq0,if_neg (by omega)]
      clear hq0 hk;go_wp2_with fail
      refine labelFault_calls p.cl lcl hgl (.slice A2 p.cl.length n2) _ (hc.out.below nW.out) _ (Lib.hid fun wL nL=>?_);have hYL:=(nL.block _ (blt_of hY)).trans hY;have nWL:=Lib.hid (nW.out.trans (nL.mono nW.out.size));clear y0 y1 yf0 yf1;have y0:=(Lib.cell_of_heap hYL 0).trans rfl;have yf0:=Lib.frozen_of_heap hYL 0;have y1:=(Lib.cell_of_heap hYL 1).trans rfl;have yf1:=Lib.frozen_of_heap hYL 1;generalize labelC p.cl=LC at *;have fin:=Lib.hid (hR.out _ (set2k' (q:=w.heap.size+1) (by omega) nWL.out (.int .i64 (LC.1)) (.int .i64 (LC.2))));rw [hq]at fin;clear hR;go_wp2_with fail
      refine bodyPost_ret ?_ rfl fin.out;simp [results,Tryz.results372,go_sem,y0,y1]
    ·rw [hk]at k0
     by_cases c:p.cn<0∨4096<p.cn
     ·have hq:coarC p=(20,p.cat):=by rw [hq0,if_pos (by omega)]
      have hd:=decide_eq_true c;clear hq0 hk c;go_wp2_with fail
      refine outside_calls p.cn 4096 _ _ (Lib.hid ?_);rw [hd];have fin:=Lib.hid (hR.out _ (set2k' (q:=w.heap.size+1) (by omega) nW.out (.int .i64 (20)) (.int .i64 (p.cat))));rw [hq]at fin;clear hR;go_wp2_with fail
      refine bodyPost_ret ?_ rfl fin.out;simp [results,Tryz.results372,go_sem,y0,y1]
     ·have hq:coarC p=labelC p.cl:=by rw [hq0,if_neg (by omega)]
      have hd:=decide_eq_false c;clear hq0 hk c;go_wp2_with fail
      refine outside_calls p.cn 4096 _ _ (Lib.hid ?_);rw [hd];go_wp2_with fail
      refine labelFault_calls p.cl lcl hgl (.slice A2 p.cl.length n2) _ (hc.out.below nW.out) _ (Lib.hid fun wL nL=>?_);have hYL:=(nL.block _ (blt_of hY)).trans hY;have nWL:=Lib.hid (nW.out.trans (nL.mono nW.out.size));clear y0 y1 yf0 yf1;have y0:=(Lib.cell_of_heap hYL 0).trans rfl;have yf0:=Lib.frozen_of_heap hYL 0;have y1:=(Lib.cell_of_heap hYL 1).trans rfl;have yf1:=Lib.frozen_of_heap hYL 1;generalize labelC p.cl=LC at *;have fin:=Lib.hid (hR.out _ (set2k' (q:=w.heap.size+1) (by omega) nWL.out (.int .i64 (LC.1)) (.int .i64 (LC.2))));rw [hq]at fin;clear hR;go_wp2_with fail
      refine bodyPost_ret ?_ rfl fin.out;simp [results,Tryz.results372,go_sem,y0,y1]
    ·rw [hk]at k0
     by_cases c:p.cn=0
     ·have hq:coarC p=labelC p.cl:=by rw [hq0,if_neg (by omega)]
      rw [c]at k1;clear hq0 hk c;go_wp2_with fail
      refine labelFault_calls p.cl lcl hgl (.slice A2 p.cl.length n2) _ (hc.out.below nW.out) _ (Lib.hid fun wL nL=>?_);have hYL:=(nL.block _ (blt_of hY)).trans hY;have nWL:=Lib.hid (nW.out.trans (nL.mono nW.out.size));clear y0 y1 yf0 yf1;have y0:=(Lib.cell_of_heap hYL 0).trans rfl;have yf0:=Lib.frozen_of_heap hYL 0;have y1:=(Lib.cell_of_heap hYL 1).trans rfl;have yf1:=Lib.frozen_of_heap hYL 1;generalize labelC p.cl=LC at *;have fin:=Lib.hid (hR.out _ (set2k' (q:=w.heap.size+1) (by omega) nWL.out (.int .i64 (LC.1)) (.int .i64 (LC.2))));rw [hq]at fin;clear hR;go_wp2_with fail
      refine bodyPost_ret ?_ rfl fin.out;simp [results,Tryz.results372,go_sem,y0,y1]
     ·have hq:coarC p=(20,p.cat):=by rw [hq0,if_pos (by omega)]
      have q1:(p.cn != 0)=true:=by simpa using c
      clear hq0 hk c;have fin:=Lib.hid (hR.out _ (set2k' (q:=w.heap.size+1) (by omega) nW.out (.int .i64 (20)) (.int .i64 (p.cat))));rw [hq]at fin;clear hR;go_wp2_with fail
      refine bodyPost_ret ?_ rfl fin.out;simp [results,Tryz.results372,go_sem,y0,y1]
end Go.Proofs.YtabhkakomececaaGreat.Kin
