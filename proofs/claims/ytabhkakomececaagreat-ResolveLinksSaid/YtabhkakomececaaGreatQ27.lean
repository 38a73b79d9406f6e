import Derived.Test.YtabhkakomececaaGreatQ26
set_option linter.all false
set_option maxRecDepth 100000
set_option maxHeartbeats 4000000
namespace Go.Proofs.YtabhkakomececaaGreat.Res
open Go.RowKit Go.Lib Utf Nam Lat Kin Unp Rel Lab
section
variable {base B:Nat} {lv tv tab:Value} {rh:TH} {rnv rpv:Value} {w0:World}
def eachS(op:BS→TH→Ft→(Int×Int)×BS):BS→List Nd→TH→Ft→(Int×Int)×BS
| s,[],h,f=>op s h f
| s,x::l,h,f=>if(op s x.2.1 x.2.2).1.1≠0 then op s x.2.1 x.2.2 else eachS op (op s x.2.1 x.2.2).2 l h f
theorem nd_drop{l:List Nd}{K:Nat}(h:K<l.length):l.drop K=nN l K::l.drop (K+1):=by rw [nN_get h];exact List.drop_eq_getElem_cons h
theorem nd_mem{l:List Nd}{i:Nat}(h:i<l.length):nN l i∈l:=by rw [nN_get h];exact List.getElem_mem h
theorem bs_root{s0 s:BS}{w V:World}{l:List (Nat×Obj)}(n:Hq (BF base B lv tv tab rh rnv rpv) s0 s w V l):V.rangeAt B 2 (tyL rh rnv rpv):=fun j v e=>n.bc (2+j) (by
have e2:(buL lv tv tab rh rnv rpv s)[2+j]?=(tyL rh rnv rpv++[tab,.int .i64 s.total,.int .i64 s.count,s.sv,s.nv])[j]?:=by rw [Nat.add_comm];rfl
rw [e2,List.getElem?_append_left (List.getElem?_eq_some_iff.1 e).1,e])
theorem each_calls{G:TH→Ft→Prop}{tys:List Nd}{rf:Ft}{fn:FuncId}{op:BS→TH→Ft→(Int×Int)×BS}(ht:RdNs w0 tv tys)(hroot:RdY w0 rh rf rnv rpv)(hlow:w0.heap.size≤base)(hl:tys.length≤maxLen)(hG:∀x∈tys,G x.2.1 x.2.2)(hGr:G rh rf)(hfn:IsF fn)(hop:OpQ G (BF base B lv tv tab rh rnv rpv) w0 fn (.pointer (some ⟨B,0,none⟩)) op)(s:BS)(w:World)(hI:(BF base B lv tv tab rh rnv rpv).Inv w s)(hb:Below w0.heap.size w0 w)(R:Ending→World→Prop)
  (hR:Hid (∀W,Hq (BF base B lv tv tab rh rnv rpv) s (eachS op s tys rh rf).2 w W []→R (.returned (FtV (eachS op s tys rh rf).1)) W)):Calls Tryz.prog 132 #[.pointer (some ⟨B,0,none⟩),.func (.func fn) #[.pointer (some ⟨B,0,none⟩)] #[]] w R:=by
 replace hl:tys.length≤9223372036854775807:=hl;obtain⟨A,c,rfl,hc,hel⟩:=nds_el ht;obtain⟨Rn,rn,rfl,-,-⟩:=hroot.n.op;obtain⟨Rp,rp,rfl,-⟩:=hroot.p.sl;have m0:=Hq.nil hI;obtain⟨V,e2,n,z2⟩:=m0.new (.cells #[.int .i64 0,.int .i64 0] 26);clear m0 z2;unfold IsF at hfn;replace hel:=Lib.hid hel;replace hG:=Lib.hid hG;have b1:=n.bc 1 rfl;have hlo:=bF_low base B lv (.slice A tys.length c) tab rh (.slice Rn rh.names.length rn) (.slice Rp rf.len rp) hlow;go_enter Tryz.func132,Tryz.ntmps132
 go_upto_region 1 with fail
 clear e2;go_wp2_with fail
 clear b1;go_loopg [13] tys.length (fun g i wr=>∃(K:Nat) (sK:BS),i=.int .i64 K∧K+g=tys.length∧Hid (eachS op s tys rh rf=eachS op sK (tys.drop K) rh rf)∧Hid (Hq (BF base B lv (.slice A tys.length c) tab rh (.slice Rn rh.names.length rn) (.slice Rp rf.len rp)) s sK w wr [(w.heap.size,.cells #[.int .i64 0,.int .i64 0] 26)]))
 case atStart=>exact⟨0,s,rfl,by omega,Lib.hid rfl,Lib.hid n⟩
 case round =>
  clear n;obtain⟨K,sK,rfl,e1,e2,n⟩:=hrel;replace n:=n.out;have hbW:=hb.trans (n.below hb.size (hlo s))
  by_cases hK:K<tys.length
  ·obtain⟨g,o,N1,N3,M1,M3,rfl,hxy,hrg⟩:=hel.out K hK
   have hGx:=hG.out _ (nd_mem hK);replace e2:=e2.out;rw [nd_drop hK]at e2;have rg:=hrg wr hbW;clear hrg hbW;generalize nN tys K=x at *;replace e2:eachS op s tys rh rf=if(op sK x.2.1 x.2.2).1.1≠0 then op sK x.2.1 x.2.2 else eachS op (op sK x.2.1 x.2.2).2 (tys.drop (K+1)) rh rf:=e2;have i0:(0:Int)≤(K:Int):=by omega
   have i1:(K:Int)<(tys.length:Int):=by omega
   obtain⟨V3,e3,n,z3⟩:=n.new (.cells (ndL x (.slice N1 x.2.1.names.length N3) (.slice M1 x.2.2.len M3)).toArray 100);go_upto_region 4 with(first|(refine wpList_load_g (by rfl) 100 _ rfl g (o+K*11) rfl _ _ rg Tryz.underlying100 rfl (by kernel_rfl) ?_;go_simp)|(refine wpList_copy (ndL x (.slice N1 x.2.1.names.length N3) (.slice M1 x.2.2.len M3)).toArray ⟨rfl,rfl,rfl⟩ ⟨rfl,rfl,rfl⟩ named_alloc (by kernel_rfl) ⟨rfl,by simp [Value.oneCell']⟩ (fun _=>⟨rfl,rfl⟩) ?_;go_simp))
   clear rg e3 z3;have r2:V3.rangeAt wr.heap.size 2 (tyL x.2.1 (.slice N1 x.2.1.names.length N3) (.slice M1 x.2.2.len M3)):=n.rgd 0 2 rfl;have hbV:=hb.trans (n.below hb.size (hlo s));go_wp2_with (refine wpList_load_g (by rfl) 36 _ rfl wr.heap.size (2) rfl _ _ r2 Tryz.underlying36 rfl (by kernel_rfl) ?_;go_simp)
   refine hop sK x.2.1 x.2.2 _ _ V3 n.inv hbV hxy hGx _ (Lib.hid fun W4 c4=>?_);replace n:=(n.call c4).tail;clear c4 r2 hbV hGx hxy;generalize op sK x.2.1 x.2.2=b at *;obtain⟨⟨b0,b1⟩,s4⟩:=b;simp only at e2 n ⊢;obtain⟨V5,e5,n,z5⟩:=n.new (.cells #[.int .i64 b0,.int .i64 b1] 26);go_upto_region 5 with fail
   clear e5 z5;have a_0:=n.c 0 0 rfl rfl;have a_1:=n.c 0 1 rfl rfl
   by_cases h0:b0=0
   ·subst h0
    rw [if_neg (by decide)]at e2;replace n:=Lib.hid n.tail;replace e2:=Lib.hid e2;clear hR;go_wp2_with fail
    go_roundg (gk-1)
    case measure=>omega
    case rel=>exact⟨K+1,s4,by go_num,by omega,e2,n⟩
   ·rw [if_pos h0]at e2
    have q0:(b0 != 0)=true:=by simpa using h0
    clear h0;rw [e2]at hR;go_upto_region 6 with fail
    have y0:=n.c 1 0 rfl rfl;have yf0:=n.f 1 0 rfl;have y1:=n.c 1 1 rfl rfl;have yf1:=n.f 1 1 rfl;obtain⟨VE,eE,nE,-⟩:=n.put (j:=1) rfl [(0,.int .i64 b0),(1,.int .i64 b1)];simp only[stL]at eE;simp only[stA,List.setIfInBounds_toArray,List.set_cons_succ,List.set_cons_zero]at nE;have w0_:=nE.c 1 0 rfl rfl;have w1_:=nE.c 1 1 rfl rfl;have fin:=Lib.hid (hR.out _ nE.fin);clear nE n hR;go_wp2_with fail
    first|refine bodyPost_ret ?_ rfl fin.out|refine bodyPost_end ?_ rfl fin.out
    simp [results,Tryz.results132,go_sem,w0_,w1_]
  ·obtain rfl:K=tys.length:=by omega
   replace e2:=e2.out;rw [List.drop_length]at e2;replace e2:eachS op s tys rh rf=op sK rh rf:=e2;rw [e2]at hR;clear e2;have rB:=bs_root n;go_wp2_with (refine wpList_load_g (by rfl) 36 _ rfl B (2) rfl _ _ rB Tryz.underlying36 rfl (by kernel_rfl) ?_;go_simp)
   refine hop sK rh rf _ _ wr n.inv hbW hroot hGr _ (Lib.hid fun W4 c4=>?_);replace n:=n.call c4;clear c4 rB hbW;generalize op sK rh rf=b at *;obtain⟨⟨b0,b1⟩,s4⟩:=b;simp only at hR n ⊢;have y0:=n.c 0 0 rfl rfl;have yf0:=n.f 0 0 rfl;have y1:=n.c 0 1 rfl rfl;have yf1:=n.f 0 1 rfl;obtain⟨VE,eE,nE,-⟩:=n.put (j:=0) rfl [(0,.int .i64 b0),(1,.int .i64 b1)];simp only[stL]at eE;simp only[stA,List.setIfInBounds_toArray,List.set_cons_succ,List.set_cons_zero]at nE;have w0_:=nE.c 0 0 rfl rfl;have w1_:=nE.c 0 1 rfl rfl;have fin:=Lib.hid (hR.out _ nE.fin);clear nE n hR;go_wp2_with fail
   first|refine bodyPost_ret ?_ rfl fin.out|refine bodyPost_end ?_ rfl fin.out
   simp [results,Tryz.results132,go_sem,w0_,w1_]
theorem isF_inside:IsF 134:=by
 intro args w;unfold callFunc;simp [go_sem,Tryz.func134];rfl
theorem inside_calls{nm:List ByteArray}{F:Nat→Nat→Bool}{ns:List ByteArray}(hL:LatP w0 lv nm F)(hT:RdT w0 tab ns)(hns:ns.length≤1000000)(hlow:w0.heap.size≤base):OpQ GoodK (BF base B lv tv tab rh rnv rpv) w0 134 (.pointer (some ⟨B,0,none⟩)) (fun s h f=>inT (wordsS nm F ns) s h f):=by
 intro s h f nv' pv' w hI hb hy hg R hR;obtain⟨An,cn,rfl,-,-⟩:=hy.n.op;obtain⟨Ap,cp,rfl,-⟩:=hy.p.sl;have m0:=Hq.nil hI;obtain⟨V1,e1,m1,z1⟩:=m0.new (.cells (tyL h (.slice An h.names.length cn) (.slice Ap f.len cp)).toArray 36);obtain⟨V,e2,n,z2⟩:=m1.new (.cells #[.int .i64 0,.int .i64 0] 26);clear m0 m1 z1 z2;go_enter Tryz.func134,Tryz.ntmps134
 go_upto_region 1 with fail
 clear e1 e2;have hmf:∀(fn:Fn) (first cap:Array Value) (w:World),(Instr.makeFunc fn first cap).run Tryz.prog w=.ok (.func fn first cap) w:=fun _ _ _ _=>rfl
 have hlo:=bF_low base B lv tv tab rh rnv rpv hlow;have rT:=n.rg 1 rfl;have hbV:=hb.trans (n.below hb.size (hlo s));go_wp2_with (refine wpList_load_g (by rfl) 36 _ rfl w.heap.size (0) rfl _ _ rT Tryz.underlying36 rfl (by kernel_rfl) ?_;go_simp)
 refine within_calls GoodK (BF base B lv tv tab rh rnv rpv) w0 203 (.pointer (some ⟨B,0,none⟩)) (wordsS nm F ns) (fun _ _ g=>g.2) (fun h f K p x kd r g e hb=>⟨(ok_lab g.1 e).2.2 hb,by
  obtain⟨gp,gx,gk,ga⟩:=all_at K g.2.2.2 e;exact⟨gx,gk,ga⟩⟩) hlo isF_words (words_calls hL hT hns hlow) f s h _ _ V n.inv hbV hy hg _ (Lib.hid fun W1 c1=>?_)
 replace n:=n.call c1;clear c1 rT hbV;generalize inT (wordsS nm F ns) s h f=b at *;obtain⟨⟨b0,b1⟩,s4⟩:=b;simp only at hR n ⊢;have y0:=n.c 0 0 rfl rfl;have yf0:=n.f 0 0 rfl;have y1:=n.c 0 1 rfl rfl;have yf1:=n.f 0 1 rfl;obtain⟨VE,eE,nE,-⟩:=n.put (j:=0) rfl [(0,.int .i64 b0),(1,.int .i64 b1)];simp only[stL]at eE;simp only[stA,List.setIfInBounds_toArray,List.set_cons_succ,List.set_cons_zero]at nE;have w0_:=nE.c 0 0 rfl rfl;have w1_:=nE.c 0 1 rfl rfl;have fin:=Lib.hid (hR.out _ nE.fin);clear nE n hR;go_wp2_with fail
 first|refine bodyPost_ret ?_ rfl fin.out|refine bodyPost_end ?_ rfl fin.out
 simp [results,Tryz.results134,go_sem,w0_,w1_]
end
section
variable {base B:Nat} {lv tv tab:Value} {rh:TH} {rnv rpv:Value} {w0:World}
def loopsS(tys:List Nd):List Nd→Int×Int
| []=>(0,0)
| x::l=>if(tgtS tys tys.length x.1.1).2=false then(11,x.1.2)else loopsS tys l
noncomputable def chkB(nm:List ByteArray)(F:Nat→Nat→Bool)(tys:List Nd)(s:BS)(h:TH)(f:Ft):(Int×Int)×BS :=
if(eachS kindsS s tys h f).1.1≠0 then eachS kindsS s tys h f else
if(eachS (inT (wordsS nm F (nms (tw tys)))) (eachS kindsS s tys h f).2 tys h f).1.1≠0 then eachS (inT (wordsS nm F (nms (tw tys)))) (eachS kindsS s tys h f).2 tys h f else
(loopsS tys tys,(eachS (inT (wordsS nm F (nms (tw tys)))) (eachS kindsS s tys h f).2 tys h f).2)
theorem kindsS_ok{s:BS}{h:TH}{f:Ft}(e:(kindsS s h f).1.1=0):okT h f:=by
 unfold kindsS at e
 by_cases c:(wcS h f).1≠0
 ·rw [if_pos c]at e;exact absurd e c
 ·exact(wc_ok (Classical.not_not.1 c)).1
theorem each_ok:∀(l:List Nd)(s:BS){h:TH}{f:Ft},(eachS kindsS s l h f).1.1=0→(∀x∈l,okT x.2.1 x.2.2)∧okT h f
| [],s,h,f,e=>⟨by simp,kindsS_ok e⟩
| x::l,s,h,f,e=>by
 have e':(if(kindsS s x.2.1 x.2.2).1.1≠0 then kindsS s x.2.1 x.2.2 else eachS kindsS (kindsS s x.2.1 x.2.2).2 l h f).1.1=0:=e
 by_cases c:(kindsS s x.2.1 x.2.2).1.1≠0
 ·rw [if_pos c]at e';exact absurd e' c
 ·rw [if_neg c]at e'
  obtain⟨h1,h2⟩:=each_ok l _ e';refine⟨fun y hy=>?_,h2⟩;rcases List.mem_cons.1 hy with rfl|hy
  ·exact kindsS_ok (s:=s) (by simpa using c)
  ·exact h1 y hy
theorem loops_calls{tys:List Nd}(ht:RdNs w0 tv tys)(hT:RdT w0 tab (nms (tw tys)))(hlow:w0.heap.size≤base)(hl:tys.length≤1000000)(s:BS)(w:World)(hI:(BF base B lv tv tab rh rnv rpv).Inv w s)(hb:Below w0.heap.size w0 w)(R:Ending→World→Prop)
  (hR:Hid (∀W,Hq (BF base B lv tv tab rh rnv rpv) s s w W []→R (.returned (FtV (loopsS tys tys))) W)):Calls Tryz.prog 135 #[.pointer (some ⟨B,0,none⟩)] w R:=by
 have ht0:=ht;obtain⟨A,c,rfl,hc,hel⟩:=nds_el ht;have m0:=Hq.nil hI;obtain⟨V,e2,n,z2⟩:=m0.new (.cells #[.int .i64 0,.int .i64 0] 26);clear m0 z2;replace hel:=Lib.hid hel;have b1:=n.bc 1 rfl;have hlo:=bF_low base B lv (.slice A tys.length c) tab rh rnv rpv hlow;go_enter Tryz.func135,Tryz.ntmps135
 go_upto_region 1 with fail
 clear e2;go_wp2_with fail
 clear b1;go_loopg [12] tys.length (fun g i wr=>∃(K:Nat),i=.int .i64 K∧K+g=tys.length∧Hid (loopsS tys tys=loopsS tys (tys.drop K))∧Hid (Hq (BF base B lv (.slice A tys.length c) tab rh rnv rpv) s s w wr [(w.heap.size,.cells #[.int .i64 0,.int .i64 0] 26)]))
 case atStart=>exact⟨0,rfl,by omega,Lib.hid rfl,Lib.hid n⟩
 case round =>
  clear n;obtain⟨K,rfl,e1,e2,n⟩:=hrel;replace n:=n.out;have hbW:=hb.trans (n.below hb.size (hlo s))
  by_cases hK:K<tys.length
  ·obtain⟨g,o,N1,N3,M1,M3,rfl,-,hrg⟩:=hel.out K hK
   replace e2:=e2.out;rw [nd_drop hK]at e2;have rg:=hrg wr hbW;clear hrg hbW;generalize nN tys K=x at *;replace e2:loopsS tys tys=if(tgtS tys tys.length x.1.1).2=false then(11,x.1.2)else loopsS tys (tys.drop (K+1)):=e2;have i0:(0:Int)≤(K:Int):=by omega
   have i1:(K:Int)<(tys.length:Int):=by omega
   obtain⟨V3,e3,n,z3⟩:=n.new (.cells (ndL x (.slice N1 x.2.1.names.length N3) (.slice M1 x.2.2.len M3)).toArray 100);go_upto_region 4 with(first|(refine wpList_load_g (by rfl) 100 _ rfl g (o+K*11) rfl _ _ rg Tryz.underlying100 rfl (by kernel_rfl) ?_;go_simp)|(refine wpList_copy (ndL x (.slice N1 x.2.1.names.length N3) (.slice M1 x.2.2.len M3)).toArray ⟨rfl,rfl,rfl⟩ ⟨rfl,rfl,rfl⟩ named_alloc (by kernel_rfl) ⟨rfl,by simp [Value.oneCell']⟩ (fun _=>⟨rfl,rfl⟩) ?_;go_simp))
   clear rg e3 z3;have x0:=n.c 0 0 rfl rfl;have hbV:=hb.trans (n.below hb.size (hlo s));go_wp2_with fail
   refine target_calls ht0 hT hlow hl s x.1.1 V3 n.inv hbV _ (Lib.hid fun W4 c4=>?_);replace n:=n.call c4;clear c4 x0 hbV;generalize tgtS tys tys.length x.1.1=b at *;obtain⟨b0,b1⟩:=b;simp only at e2 ⊢;cases b1
   ·rw [if_pos rfl]at e2
    rw [e2]at hR;have x0:=n.c 0 0 rfl rfl;have x1:=n.c 0 1 rfl rfl;clear e2;go_wp2_with fail
    refine fault18_calls x.1.1 x.1.2 11 _ _ (Lib.hid fun W5 m5=>?_);replace n:=n.bl m5;clear x0 x1 m5;have y0:=n.c 1 0 rfl rfl;have yf0:=n.f 1 0 rfl;have y1:=n.c 1 1 rfl rfl;have yf1:=n.f 1 1 rfl;obtain⟨VE,eE,nE,-⟩:=n.put (j:=1) rfl [(0,.int .i64 11),(1,.int .i64 x.1.2)];simp only[stL]at eE;simp only[stA,List.setIfInBounds_toArray,List.set_cons_succ,List.set_cons_zero]at nE;have w0_:=nE.c 1 0 rfl rfl;have w1_:=nE.c 1 1 rfl rfl;have fin:=Lib.hid (hR.out _ nE.fin);clear nE n hR;go_wp2_with fail
    first|refine bodyPost_ret ?_ rfl fin.out|refine bodyPost_end ?_ rfl fin.out
    simp [results,Tryz.results135,go_sem,w0_,w1_]
   ·rw [if_neg (by decide)]at e2
    replace n:=Lib.hid n.tail;replace e2:=Lib.hid e2;clear hR;go_wp2_with fail
    go_roundg (gk-1)
    case measure=>omega
    case rel=>exact⟨K+1,by go_num,by omega,e2,n⟩
  ·obtain rfl:K=tys.length:=by omega
   replace e2:=e2.out;rw [List.drop_length]at e2;replace e2:loopsS tys tys=(0,0):=e2;rw [e2]at hR;clear e2 hbW;have y0:=n.c 0 0 rfl rfl;have yf0:=n.f 0 0 rfl;have y1:=n.c 0 1 rfl rfl;have yf1:=n.f 0 1 rfl;obtain⟨VE,eE,nE,-⟩:=n.put (j:=0) rfl [(0,.int .i64 0),(1,.int .i64 0)];simp only[stL]at eE;simp only[stA,List.setIfInBounds_toArray,List.set_cons_succ,List.set_cons_zero]at nE;have w0_:=nE.c 0 0 rfl rfl;have w1_:=nE.c 0 1 rfl rfl;have fin:=Lib.hid (hR.out _ nE.fin);clear nE n hR;go_wp2_with fail
   first|refine bodyPost_ret ?_ rfl fin.out|refine bodyPost_end ?_ rfl fin.out
   simp [results,Tryz.results135,go_sem,w0_,w1_]
theorem check_calls{nm:List ByteArray}{F:Nat→Nat→Bool}{tys:List Nd}{rf:Ft}(hL:LatP w0 lv nm F)(hT:RdT w0 tab (nms (tw tys)))(ht:RdNs w0 tv tys)(hroot:RdY w0 rh rf rnv rpv)(hlow:w0.heap.size≤base)(hl:tys.length≤1000000)(hG:∀x∈tys,GoodT x.2.1 x.2.2)(hGr:GoodT rh rf)(s:BS)(w:World)(hI:(BF base B lv tv tab rh rnv rpv).Inv w s)(hb:Below w0.heap.size w0 w)(R:Ending→World→Prop)
  (hR:Hid (∀W,Hq (BF base B lv tv tab rh rnv rpv) s (chkB nm F tys s rh rf).2 w W []→R (.returned (FtV (chkB nm F tys s rh rf).1)) W)):Calls Tryz.prog 63 #[.pointer (some ⟨B,0,none⟩)] w R:=by
 have hmf:∀(fn:Fn) (first cap:Array Value) (w:World),(Instr.makeFunc fn first cap).run Tryz.prog w=.ok (.func fn first cap) w:=fun _ _ _ _=>rfl
 have hns:(nms (tw tys)).length≤1000000:=by simp [nms,tw_len];exact hl
 have hlm:tys.length≤maxLen:=by unfold maxLen;omega
 have hlo:=bF_low base B lv tv tab rh rnv rpv hlow;have hk:=each_ok tys s (h:=rh) (f:=rf);unfold chkB at hR;have m0:=Hq.nil hI;obtain⟨V,e2,n,z2⟩:=m0.new (.cells #[.int .i64 0,.int .i64 0] 26);clear m0 z2;have hbV:=hb.trans (n.below hb.size (hlo s));go_enter Tryz.func63,Tryz.ntmps63
 go_upto_region 1 with fail
 clear e2;go_wp2_with fail
 refine each_calls ht hroot hlow hlm hG hGr isF_kinds (kinds_calls hlow) s V n.inv hbV _ (Lib.hid fun W1 c1=>?_);replace n:=n.call c1;clear c1 hbV;generalize eachS kindsS s tys rh rf=a at *;obtain⟨⟨a0,a1⟩,s1⟩:=a;simp only at hR n hk ⊢;obtain⟨V2,e2,n,z2⟩:=n.new (.cells #[.int .i64 a0,.int .i64 a1] 26);go_upto_region 2 with fail
 clear e2 z2;have a_0:=n.c 0 0 rfl rfl;have a_1:=n.c 0 1 rfl rfl
 by_cases h0:a0=0
 ·subst h0
  rw [if_neg (by decide)]at hR;obtain⟨k1,k2⟩:=hk rfl;go_upto_region 4 with fail
  clear a_0 a_1;replace n:=n.tail;have hbV:=hb.trans (n.below hb.size (hlo _));go_wp2_with fail
  refine each_calls ht hroot hlow hlm (fun x hx=>⟨k1 x hx,hG x hx⟩) ⟨k2,hGr⟩ isF_inside (inside_calls hL hT hns hlow) s1 V2 n.inv hbV _ (Lib.hid fun W3 c3=>?_);replace n:=n.call c3;clear c3 hbV hk k1 k2;generalize eachS (fun s h f=>inT (wordsS nm F (nms (tw tys))) s h f) s1 tys rh rf=b at *;obtain⟨⟨b0,b1⟩,s3⟩:=b;simp only at hR n ⊢;obtain⟨V4,e4,n,z4⟩:=n.new (.cells #[.int .i64 b0,.int .i64 b1] 26);go_upto_region 5 with fail
  clear e4 z4;have a_0:=n.c 0 0 rfl rfl;have a_1:=n.c 0 1 rfl rfl
  by_cases h0:b0=0
  ·subst h0
   rw [if_neg (by decide)]at hR;go_upto_region 7 with fail
   clear a_0 a_1;replace n:=n.tail;have hbV:=hb.trans (n.below hb.size (hlo _));go_wp2_with fail
   refine loops_calls ht hT hlow hl s3 V4 n.inv hbV _ (Lib.hid fun W5 c5=>?_);replace n:=n.call c5;clear c5 hbV;generalize loopsS tys tys=d at *;obtain⟨d0,d1⟩:=d;simp only at hR n ⊢;have y0:=n.c 0 0 rfl rfl;have yf0:=n.f 0 0 rfl;have y1:=n.c 0 1 rfl rfl;have yf1:=n.f 0 1 rfl;obtain⟨VE,eE,nE,-⟩:=n.put (j:=0) rfl [(0,.int .i64 d0),(1,.int .i64 d1)];simp only[stL]at eE;simp only[stA,List.setIfInBounds_toArray,List.set_cons_succ,List.set_cons_zero]at nE;have w0_:=nE.c 0 0 rfl rfl;have w1_:=nE.c 0 1 rfl rfl;have fin:=Lib.hid (hR.out _ nE.fin);clear nE n hR;go_wp2_with fail
   first|refine bodyPost_ret ?_ rfl fin.out|refine bodyPost_end ?_ rfl fin.out
   simp [results,Tryz.results63,go_sem,w0_,w1_]
  ·rw [if_pos h0]at hR
   have q0:(b0 != 0)=true:=by simpa using h0
   clear h0;go_upto_region 6 with fail
   have y0:=n.c 1 0 rfl rfl;have yf0:=n.f 1 0 rfl;have y1:=n.c 1 1 rfl rfl;have yf1:=n.f 1 1 rfl;obtain⟨VE,eE,nE,-⟩:=n.put (j:=1) rfl [(0,.int .i64 b0),(1,.int .i64 b1)];simp only[stL]at eE;simp only[stA,List.setIfInBounds_toArray,List.set_cons_succ,List.set_cons_zero]at nE;have w0_:=nE.c 1 0 rfl rfl;have w1_:=nE.c 1 1 rfl rfl;have fin:=Lib.hid (hR.out _ nE.fin);clear nE n hR;go_wp2_with fail
   first|refine bodyPost_ret ?_ rfl fin.out|refine bodyPost_end ?_ rfl fin.out
   simp [results,Tryz.results63,go_sem,w0_,w1_]
 ·rw [if_pos h0]at hR
  have q0:(a0 != 0)=true:=by simpa using h0
  clear h0 hk;go_upto_region 3 with fail
  have y0:=n.c 1 0 rfl rfl;have yf0:=n.f 1 0 rfl;have y1:=n.c 1 1 rfl rfl;have yf1:=n.f 1 1 rfl;obtain⟨VE,eE,nE,-⟩:=n.put (j:=1) rfl [(0,.int .i64 a0),(1,.int .i64 a1)];simp only[stL]at eE;simp only[stA,List.setIfInBounds_toArray,List.set_cons_succ,List.set_cons_zero]at nE;have w0_:=nE.c 1 0 rfl rfl;have w1_:=nE.c 1 1 rfl rfl;have fin:=Lib.hid (hR.out _ nE.fin);clear nE n hR;go_wp2_with fail
  first|refine bodyPost_ret ?_ rfl fin.out|refine bodyPost_end ?_ rfl fin.out
  simp [results,Tryz.results63,go_sem,w0_,w1_]
end
def nmC(l:List Nd):Int×Int:=if 64<l.length then(8,(nN l 64).1.2)else chkS (tw l)
theorem checkNames18_calls(l:List Nd)(tv vl:Value)(w:World)(ht:RdNs w tv l)(hx:RdS w vl (nms (tw l)))(hg:∀x∈l,GoodW x.1)(hl:l.length≤1000000)(R:Ending→World→Prop)
  (hR:Hid (∀w',Below w.heap.size w w'→R (.returned (FtV (nmC l))) w')):Calls Tryz.prog 61 #[tv,vl] w R:=by
 obtain⟨A,c,rfl,hc,hel⟩:=nds_el ht;have hns:(nms (tw l)).length≤1000000:=by simp [nms,tw_len];exact hl
 have m0:=F0.z w;obtain⟨V,e2,n,z2⟩:=m0.new (.cells #[.int .i64 0,.int .i64 0] 26);clear m0 z2;obtain⟨Al,cl,rfl,hcl,-⟩:=hx.open;replace hel:=Lib.hid hel;replace hx:=Lib.hid hx;replace hg:=Lib.hid hg;go_enter Tryz.func61,Tryz.ntmps61
 go_upto_region 1 with fail
 clear e2
 by_cases h64:64<l.length
 ·have hq:nmC l=(8,(nN l 64).1.2):=by unfold nmC;rw [if_pos h64]
  rw [hq]at hR;clear hq;obtain⟨g,o,N1,N3,M1,M3,rfl,-,hrg⟩:=hel.out 64 h64;have rg:=hrg V (F0.bel n);clear hrg;generalize nN l 64=x at *;have x0:=rg 0 _ rfl;have x1:=rg 1 _ rfl;simp only[Nat.add_zero]at x0;have i1:(64:Int)<(l.length:Int):=by omega
  clear rg;go_wp2_with fail
  refine fault18_calls x.1.1 x.1.2 8 _ _ (Lib.hid fun W3 m3=>?_);replace n:=n.bl m3;clear m3 x0 x1;have y0:=n.c 0 0 rfl rfl;have yf0:=n.f 0 0 rfl;have y1:=n.c 0 1 rfl rfl;have yf1:=n.f 0 1 rfl;obtain⟨VE,eE,nE,-⟩:=n.put (j:=0) rfl [(0,.int .i64 8),(1,.int .i64 x.1.2)];simp only[stL]at eE;simp only[stA,List.setIfInBounds_toArray,List.set_cons_succ,List.set_cons_zero]at nE;have w0_:=nE.c 0 0 rfl rfl;have w1_:=nE.c 0 1 rfl rfl;have fin:=Lib.hid (hR.out _ (F0.bel nE));clear nE n hR;go_wp2_with fail
  first|refine bodyPost_ret ?_ rfl fin.out|refine bodyPost_end ?_ rfl fin.out
  simp [results,Tryz.results61,go_sem,w0_,w1_]
 ·have hq:nmC l=chkS (tw l):=by unfold nmC;rw [if_neg h64]
  rw [hq]at hR;clear hq;have i64:¬(64:Int)<(l.length:Int):=by omega
  go_wp2_with fail
  refine twice_calls (nms (tw l)) _ V hns (hx.out.below (F0.bel n)) _ (Lib.hid fun W1 m1=>?_);replace n:=n.bl m1;clear m1 i64;go_wp2_with fail
  go_loopg [20] l.length (fun g i wr=>∃(K:Nat),i=.int .i64 K∧K+g=l.length∧Hid (∀j,j<K→lvAt (tw l) j=none)∧Hid (Hq F0 () () w wr [(w.heap.size,.cells #[.int .i64 0,.int .i64 0] 26)]))
  case atStart=>exact⟨0,rfl,by omega,Lib.hid fun j h=>by omega,Lib.hid n⟩
  case round =>
   clear n;obtain⟨K,rfl,e1,hs,n⟩:=hrel;replace n:=n.out
   by_cases hK:K<l.length
   ·obtain⟨g,o,N1,N3,M1,M3,rfl,-,hrg⟩:=hel.out K hK
    have hKw:K<(tw l).length:=by rw [tw_len];exact hK
    have htw:=twi_at hKw hs.out;have hlv:lvAt (tw l) K=if rightS (wN (tw l) K).1=false then some (9,(wN (tw l) K).2)else if findS (nms (tw l)) (wN (tw l) K).1<(K:Int)then some (10,(wN (tw l) K).2)else none:=rfl;have hgs:=(hg.out _ (nd_mem hK)).1;rw [tw_get hK]at htw hlv
    have hfir:∀f,lvAt (tw l) K=some f→chkS (tw l)=f:=fun f hf=>by
     unfold chkS;rw [fir_is (tw l).length 0 K (Nat.zero_le _) (by omega) hf (fun j _ hj=>hs.out j hj)];rfl
    have hnx:lvAt (tw l) K=none→∀j,j<K+1→lvAt (tw l) j=none:=fun h j hj=>by
     rcases Nat.eq_or_lt_of_le (Nat.le_of_lt_succ hj)with e|q
     ·subst e;exact h
     ·exact hs.out j q
    have rg:=hrg wr (F0.bel n);clear hrg hs;generalize nN l K=x at *;generalize twiS (nms (tw l))=t at *;generalize lvAt (tw l) K=LV at *;have i0:(0:Int)≤(K:Int):=by omega
    have i1:(K:Int)<(l.length:Int):=by omega
    obtain⟨V3,e3,n,z3⟩:=n.new (.cells (ndL x (.slice N1 x.2.1.names.length N3) (.slice M1 x.2.2.len M3)).toArray 100);go_upto_region 7 with(first|(refine wpList_load_g (by rfl) 100 _ rfl g (o+K*11) rfl _ _ rg Tryz.underlying100 rfl (by kernel_rfl) ?_;go_simp)|(refine wpList_copy3 (ndL x (.slice N1 x.2.1.names.length N3) (.slice M1 x.2.2.len M3)).toArray _ ⟨rfl,rfl,rfl⟩ rfl (fun _ _=>rfl) ⟨rfl,rfl,rfl⟩ named_alloc (by kernel_rfl) ⟨rfl,by simp [Value.oneCell']⟩ (fun _=>⟨rfl,rfl⟩) ?_;go_simp))
    clear rg e3 z3;have x0:=n.c 0 0 rfl rfl;have x1:=n.c 0 1 rfl rfl;go_wp2_with fail
    refine right_calls x.1.1 hgs V3 _ (Lib.hid ?_);cases hr:rightS x.1.1
    ·rw [if_pos hr]at hlv
     rw [hfir _ hlv]at hR;clear hlv hfir hnx htw hr;go_wp2_with fail
     refine fault18_calls x.1.1 x.1.2 9 _ _ (Lib.hid fun W5 m5=>?_);replace n:=n.bl m5;clear x0 x1 m5;have y0:=n.c 1 0 rfl rfl;have yf0:=n.f 1 0 rfl;have y1:=n.c 1 1 rfl rfl;have yf1:=n.f 1 1 rfl;obtain⟨VE,eE,nE,-⟩:=n.put (j:=1) rfl [(0,.int .i64 9),(1,.int .i64 x.1.2)];simp only[stL]at eE;simp only[stA,List.setIfInBounds_toArray,List.set_cons_succ,List.set_cons_zero]at nE;have w0_:=nE.c 1 0 rfl rfl;have w1_:=nE.c 1 1 rfl rfl;have fin:=Lib.hid (hR.out _ (F0.bel nE));clear nE n hR;go_wp2_with fail
     first|refine bodyPost_ret ?_ rfl fin.out|refine bodyPost_end ?_ rfl fin.out
     simp [results,Tryz.results61,go_sem,w0_,w1_]
    ·rw [if_neg (by rw [hr];decide)]at hlv
     by_cases ht2:t=K
     ·rw [if_pos (htw.1 ht2)]at hlv
      rw [hfir _ hlv]at hR;have q0:(((K:Nat):Int)==t)=true:=by rw [ht2];simp
      clear hlv hfir hnx htw hr ht2;go_wp2_with fail
      refine fault18_calls x.1.1 x.1.2 10 _ _ (Lib.hid fun W5 m5=>?_);replace n:=n.bl m5;clear x0 x1 m5;have y0:=n.c 1 0 rfl rfl;have yf0:=n.f 1 0 rfl;have y1:=n.c 1 1 rfl rfl;have yf1:=n.f 1 1 rfl;obtain⟨VE,eE,nE,-⟩:=n.put (j:=1) rfl [(0,.int .i64 10),(1,.int .i64 x.1.2)];simp only[stL]at eE;simp only[stA,List.setIfInBounds_toArray,List.set_cons_succ,List.set_cons_zero]at nE;have w0_:=nE.c 1 0 rfl rfl;have w1_:=nE.c 1 1 rfl rfl;have fin:=Lib.hid (hR.out _ (F0.bel nE));clear nE n hR;go_wp2_with fail
      first|refine bodyPost_ret ?_ rfl fin.out|refine bodyPost_end ?_ rfl fin.out
      simp [results,Tryz.results61,go_sem,w0_,w1_]
     ·rw [if_neg fun q=>ht2 (htw.2 q)]at hlv
      have h3:=Lib.hid (hnx hlv);have q0:(((K:Nat):Int)==t)=false:=by simpa using fun q=>ht2 q.symm
      replace n:=Lib.hid n.tail;clear hlv hfir hnx htw hr ht2 hR x0 x1;go_wp2_with fail
      go_roundg (gk-1)
      case measure=>omega
      case rel=>exact⟨K+1,by go_num,by omega,h3,n⟩
   ·obtain rfl:K=l.length:=by omega
    have hq:chkS (tw l)=(0,0):=by
     unfold chkS;rw [fir_no (tw l).length 0 fun j _ hj=>hs.out j (by rw [tw_len]at hj;omega)]
     rfl
    rw [hq]at hR;clear hq hs;have y0:=n.c 0 0 rfl rfl;have yf0:=n.f 0 0 rfl;have y1:=n.c 0 1 rfl rfl;have yf1:=n.f 0 1 rfl;obtain⟨VE,eE,nE,-⟩:=n.put (j:=0) rfl [(0,.int .i64 0),(1,.int .i64 0)];simp only[stL]at eE;simp only[stA,List.setIfInBounds_toArray,List.set_cons_succ,List.set_cons_zero]at nE;have w0_:=nE.c 0 0 rfl rfl;have w1_:=nE.c 0 1 rfl rfl;have fin:=Lib.hid (hR.out _ (F0.bel nE));clear nE n hR;go_wp2_with fail
    first|refine bodyPost_ret ?_ rfl fin.out|refine bodyPost_end ?_ rfl fin.out
    simp [results,Tryz.results61,go_sem,w0_,w1_]
end Go.Proofs.YtabhkakomececaaGreat.Res
namespace Go.Proofs.YtabhkakomececaaGreat
open Go.RowKit Go.Lib
structure RW(S:Nat→Prop)(W:World) where
w:World
g:Gr S W w
instance (S:Nat→Prop)(W:World):Nonempty (RW S W):=⟨⟨W,.rfl' _ _⟩⟩
theorem RW.cell{S:Nat→Prop}{W:World}(x:RW S W){g o:Nat}(h:g<W.heap.size)(hn:¬S g){u:Value}(hc:W.cell? ⟨g,o,none⟩=some u):x.w.cell? ⟨g,o,none⟩=some u :=
(World.cell?_of_block (a:=⟨g,o,none⟩) (x.g.block g h hn)).trans hc
theorem RW.of{S:Nat→Prop}{W V:World}(h:Gr S W V):∃x:RW S W,V=x.w:=⟨⟨V,h⟩,rfl⟩
theorem wp_region_trS{P:Program}{id:Nat}{Q:Exit→Act→World→Prop}{a:Act}{w:World}{l:List Oper}(S:Nat→Prop)(t:Tr)(k:Nat)(hm:P.follows .mixedOrders=true)(hs:Region.noSelect l.toArray=true)
 (hB:trB .any l.toArray k t (Array.replicate l.toArray.size false)=true) (hN:trN t=l.toArray.size) (hk:k<l.toArray.size) (hQ:∀c a d v w,Q (.panic c) (a.put d v) w→Q (.panic c) a w)
 (h:trP P l.toArray (fun w'=>∃x:RW S w,w'=x.w) k Q t a (w.drewN 1)):(Code.region id l.toArray true).wp P Q a w :=
wp_region_any hm (any_of_D (C:=fun w'=>∃x:RW S w,w'=x.w) (k:=k) _ _ _ _ (by
 have:=tr_any hs hQ k t _ a _ (C:=fun w'=>∃x:RW S w,w'=x.w) (RW.of ((Gr.rfl' S w).bl (below_drewN (Below.refl _ _) 1))) (by simp only[List.size_toArray]at hk;simp [Array.getD,hk]) hB h;rw [hN]at this;exact this))
theorem appOp{P:Program}{o:Oper}{a:Act}{K:Act→World→Prop}{Q:Exit→Act→World→Prop}(W:World)(us:Array Value)(k:Nat)(e:TypeId)(s x:Operand)(t:TypeId)
  (ho:o.op=.call { callee:=.builtin .append,args:=#[s,x],argTypes:=#[t,t] })
  (base:Nat) (i:TypeInfo) (z:Value) (bytes:Nat) (ht:P.underlying t=some (.slice e)) (hi:P.info? e=some i) (hz:i.zero=some z) (hsize:i.size=k) (hby:i.bytes=bytes) (hzs:z.cells.size=k) (hk:0<k) (hus:us.size=k)
  (v:Value) (n:Nat) (xs:List Value) (hs:a.eval s=v) (hown:W.ownsRow base e k v n xs) (b:Nat) (hx:a.eval x=.slice (some ⟨b,0,none⟩) 1 1) (hbb:b=W.heap.size) (h1:∀u∈us.toList,u.oneCell'=true)
  (h63:n+1≤maxLen) (hbytes:(n+1)*bytes≤140737488355328) (hbase:base≤W.heap.size)
  (h:∀v' w',w'.ownsRow base e k v' (n+1) (xs++us.toList)→W.grownBy w' v.ownBlock→(v'.ownBlock=v.ownBlock∨v'.ownBlock=some (W.heap.size+1))→K (a.put o.dst v') w') :
  Oper.wp P o a (W.alloc (.cells us e)) K Q:=by
 subst hbb;have hown':=hown.alloc (.cells us e);have hnews:=cells_new W us e;have hbase':base≤(W.alloc (.cells us e)).heap.size:=by simp;omega
 have hz1:(W.alloc (.cells us e)).heap.size=W.heap.size+1:=by simp
 obtain⟨v',w',hr,h2,h3,h4⟩:=run_append_own (P:=P) (W.alloc (.cells us e)) base t o.type e i z k bytes ht hi hz hsize hby hzs hk v n xs hown' ⟨W.heap.size,0,none⟩ 1 1 us.toList (by simp [hus]) hnews h1 h63 hbytes hbase';have h5:=run_append_fresh (P:=P) (W.alloc (.cells us e)) base t o.type e i z k bytes ht hi hz hsize hby hzs hk v n xs hown' ⟨W.heap.size,0,none⟩ 1 us.toList (by simp [hus]) hnews h1 h63 hbytes v' w' hr;rw [hz1]at h5;have hg':=grown_step h3;unfold Oper.wp execOp;simp only[ho,resolve,invoke,builtin,Sem.run_bind,Sem.run_pure,Result.andThen_ok,List.map_toArray,List.map_cons,List.map_nil,hs,hx,hr];exact h v' w' h2 hg' h5
end Go.Proofs.YtabhkakomececaaGreat
namespace Go.Proofs.YtabhkakomececaaGreat.Res
open Go.RowKit Go.Lib Utf Nam Lat Kin Unp Rel Lab
section
variable {base B:Nat} {lv tv tab:Value} {h:TH} {nv pv:Value}
theorem bs_stApp{s0 s:BS}{w V W:World}{l:List (Nat×Obj)}(n:Hq (BF base B lv tv tab h nv pv) s0 s w V l){v':Value}{x:Int}(ow:W.ownsRow base 3 1 v' (s.st.length+1) (ints (s.st++[x])))(g:V.grownBy W s.sv.ownBlock)(fr:∀b,v'.ownBlock=some b→s.sv.ownBlock=some b∨V.heap.size≤b) :
  Hq (BF base B lv tv tab h nv pv) s0 { s with st:=s.st++[x],sv:=v' } w (W.setCell ⟨B,14,none⟩ v') l:=by
 have i:BInv base B lv tv tab h nv pv V s:=n.inv;have lB:=hp_lt i.box;have sz:(W.setCell ⟨B,14,none⟩ v').heap.size=W.heap.size:=by simp [World.setCell]
 have hne:∀k,k≠B→(W.setCell ⟨B,14,none⟩ v').heap[k]?=W.heap[k]?:=fun k hk=>hp_sne hk
 have hst:∀k,k<V.heap.size→s.sv.ownBlock≠some k→k≠B→(W.setCell ⟨B,14,none⟩ v').heap[k]?=V.heap[k]?:=fun k h1 h2 h3=>(hne k h3).trans (g.block k h1 fun e=>h2 e.symm)
 have v1:v'.ownBlock≠some B:=fun q=>by rcases fr B q with e|e;exact i.d1 e;omega
 have hb:=hp_sat ((g.block B lB fun e=>i.d1 e.symm).trans i.box) 14 v';rw [List.setIfInBounds_toArray]at hb
 have sub:∀k,bFr base B { s with st:=s.st++[x],sv:=v' } k→bFr base B s k∨V.heap.size≤k:=fun k q=>by
  rcases q.2 with e|e|e|e
  ·exact .inl ⟨q.1,.inl e⟩
  ·rcases fr k e with e|e
   ·exact .inl ⟨q.1,.inr (.inl e)⟩
   ·exact .inr e
  ·exact .inl ⟨q.1,.inr (.inr (.inl e))⟩
  ·exact .inl ⟨q.1,.inr (.inr (.inr e))⟩
 refine n.call ⟨⟨i.hB,hb,?_,?_,fun k q=>?_,fun y hy=>?_,v1,i.d2,fun k q q2=>?_,i.sh⟩,⟨?_,?_,?_,?_,fun k hk hn=>?_⟩,sub,by simp,by simp,.nil⟩
 ·rw [List.length_append]
  exact ownKp ow fun k q _=>hne k fun e=>v1 (e▸q)
 ·exact ownKp i.on fun k q _=>hst k (i.on.lt k q).2 (fun e=>i.d3 k e q) fun e=>i.d2 (e▸q)
 ·obtain⟨t1,t2,t3,t4,t5⟩:=i.t k q
  exact⟨t1,by rw [sz];exact Nat.lt_of_lt_of_le t2 g.size,t3,fun e=>by rcases fr k e with e|e;exact t4 e;omega,t5⟩
 ·have kp:Kp (empW (fun k=>¬s.T k) V) (empW (fun k=>¬s.T k) (W.setCell ⟨B,14,none⟩ v')):=emp_kp (by rw [sz];exact g.size) fun k hk hn=>⟨hn,hst k hk (i.t k (Classical.not_not.1 hn)).2.2.2.1 (i.t k (Classical.not_not.1 hn)).2.2.1⟩
  exact⟨RdAt.kp kp (i.rd y hy).1,RdAt.kp kp (i.rd y hy).2⟩
 ·rcases fr k q with e|e
  ·exact i.d3 k e q2
  ·have:=(i.on.lt k q2).2;omega
 ·have m:=(Below.refl B W).setCell (p:=⟨B,14,none⟩) (Nat.le_refl _) v';exact m.os.trans g.os
 ·have m:=(Below.refl B W).setCell (p:=⟨B,14,none⟩) (Nat.le_refl _) v';exact m.tape.trans g.tape
 ·have m:=(Below.refl B W).setCell (p:=⟨B,14,none⟩) (Nat.le_refl _) v';exact m.output.trans g.output
 ·rw [sz];exact g.size
 ·refine hst k hk (fun e=>hn ⟨(i.os.lt k e).1,.inr (.inl e)⟩) fun e=>hn ⟨e▸i.hB,.inl e⟩
theorem bs_ndApp{s0 s:BS}{w V V1 W:World}{l:List (Nat×Obj)}(n:Hq (BF base B lv tv tab h nv pv) s0 s w V l)(m1:Below V.heap.size V V1){v':Value}{x:Nv}(hx1:RdS (empW (lowS V.heap.size) V1) x.2.1 x.1.names)(hx2:RdEd (empW (lowS V.heap.size) V1) x.2.2 x.1.edges)(hx3:Shp x.2.1∧Shp x.2.2)(ow:W.ownsRow base 63 7 v' (s.nd.length+1) (flatG encN (s.nd++[x])))(g:V1.grownBy W s.nv.ownBlock)(fr:∀b,v'.ownBlock=some b→s.nv.ownBlock=some b∨V1.heap.size≤b) :
  Hq (BF base B lv tv tab h nv pv) s0 { s with nd:=s.nd++[x],nv:=v',T:=fun k=>s.T k∨(V.heap.size≤k∧k<V1.heap.size) } w (W.setCell ⟨B,15,none⟩ v') l:=by
 have i:BInv base B lv tv tab h nv pv V s:=n.inv;have lB:=hp_lt i.box;have bB:base≤V.heap.size:=Nat.le_trans i.hB (Nat.le_of_lt lB);have sz:(W.setCell ⟨B,15,none⟩ v').heap.size=W.heap.size:=by simp [World.setCell]
 have s1:=m1.size;have s2:=g.size;have hne:∀k,k≠B→(W.setCell ⟨B,15,none⟩ v').heap[k]?=W.heap[k]?:=fun k hk=>hp_sne hk
 have hst1:∀k,k<V1.heap.size→s.nv.ownBlock≠some k→k≠B→(W.setCell ⟨B,15,none⟩ v').heap[k]?=V1.heap[k]?:=fun k h1 h2 h3=>(hne k h3).trans (g.block k h1 fun e=>h2 e.symm)
 have hst:∀k,k<V.heap.size→s.nv.ownBlock≠some k→k≠B→(W.setCell ⟨B,15,none⟩ v').heap[k]?=V.heap[k]?:=fun k h1 h2 h3=>(hst1 k (by omega) h2 h3).trans (m1.block k h1)
 have v1:v'.ownBlock≠some B:=fun q=>by rcases fr B q with e|e;exact i.d2 e;omega
 have hb:=hp_sat (((g.block B (by omega) fun e=>i.d2 e.symm).trans (m1.block B lB)).trans i.box) 15 v';rw [List.setIfInBounds_toArray]at hb;have oldn:∀k,s.nv.ownBlock=some k→k<V.heap.size:=fun k q=>(i.on.lt k q).2
 have sub:∀k,bFr base B { s with nd:=s.nd++[x],nv:=v',T:=fun k=>s.T k∨(V.heap.size≤k∧k<V1.heap.size) } k→bFr base B s k∨V.heap.size≤k:=fun k q=>by
  rcases q.2 with e|e|e|e|e
  ·exact .inl ⟨q.1,.inl e⟩
  ·exact .inl ⟨q.1,.inr (.inl e)⟩
  ·rcases fr k e with e|e
   ·exact .inl ⟨q.1,.inr (.inr (.inl e))⟩
   ·exact .inr (by omega)
  ·exact .inl ⟨q.1,.inr (.inr (.inr e))⟩
  ·exact .inr e.1
 refine n.call ⟨⟨i.hB,hb,?_,?_,fun k q=>?_,fun y hy=>?_,i.d1,v1,fun k q q2=>?_,fun y hy=>by
  rcases List.mem_append.1 hy with hy|hy
  ·exact i.sh y hy
  ·obtain rfl:=List.mem_singleton.1 hy
   exact hx3⟩,⟨?_,?_,?_,by omega,fun k hk hn=>?_⟩,sub,by simp,by simp,.nil⟩
 ·exact ownKp i.os fun k q _=>hst k (i.os.lt k q).2 (fun e=>i.d3 k q e) fun e=>i.d1 (e▸q)
 ·rw [List.length_append]
  exact ownKp ow fun k q _=>hne k fun e=>v1 (e▸q)
 ·rcases q with q|q
  ·obtain⟨t1,t2,t3,t4,t5⟩:=i.t k q
   exact⟨t1,by omega,t3,t4,fun e=>by rcases fr k e with e|e;exact t5 e;omega⟩
  ·exact⟨by omega,by omega,by omega,fun e=>by have:=(i.os.lt k e).2;omega,fun e=>by rcases fr k e with e|e;(have:=oldn k e;omega);omega⟩
 ·rcases List.mem_append.1 hy with hy|hy
  ·have kp:Kp (empW (fun k=>¬s.T k) V) (empW (fun k=>¬(s.T k∨(V.heap.size≤k∧k<V1.heap.size))) (W.setCell ⟨B,15,none⟩ v')):=emp_kp (by omega) fun k hk hn=>⟨fun q=>q (.inl (Classical.not_not.1 hn)),hst k hk (i.t k (Classical.not_not.1 hn)).2.2.2.2 (i.t k (Classical.not_not.1 hn)).2.2.1⟩
   exact⟨RdAt.kp kp (i.rd y hy).1,RdAt.kp kp (i.rd y hy).2⟩
  ·obtain rfl:=List.mem_singleton.1 hy
   have kp:Kp (empW (lowS V.heap.size) V1) (empW (fun k=>¬(s.T k∨(V.heap.size≤k∧k<V1.heap.size))) (W.setCell ⟨B,15,none⟩ v')):=emp_kp (by omega) fun k hk hn=>by
    have hk2:V.heap.size≤k:=Nat.le_of_not_lt hn;exact⟨fun q=>q (.inr ⟨hk2,hk⟩),hst1 k hk (fun e=>by have:=oldn k e;omega) (by omega)⟩
   exact⟨RdAt.kp kp hx1,RdAt.kp kp hx2⟩
 ·rcases fr k q2 with e|e
  ·exact i.d3 k q e
  ·have:=(i.os.lt k q).2;omega
 ·have m:=(Below.refl B W).setCell (p:=⟨B,15,none⟩) (Nat.le_refl _) v';exact m.os.trans (g.os.trans m1.os)
 ·have m:=(Below.refl B W).setCell (p:=⟨B,15,none⟩) (Nat.le_refl _) v';exact m.tape.trans (g.tape.trans m1.tape)
 ·have m:=(Below.refl B W).setCell (p:=⟨B,15,none⟩) (Nat.le_refl _) v';exact m.output.trans (g.output.trans m1.output)
 ·refine hst k hk (fun e=>hn ⟨(i.on.lt k e).1,.inr (.inr (.inl e))⟩) fun e=>hn ⟨e▸i.hB,.inl e⟩
end
section
variable {base B:Nat} {lv tv tab:Value} {rh:TH} {rnv rpv:Value} {w0:World}
def tl1(c:Int)(h:TH):Int:=if h.kind=9 then c else wrap64 (c+1)
def kntF:Int→Ft→Int
| c,.nil=>c
| c,.cons p h k r=>if p.bare then kntF c r else kntF (kntF (tl1 c h) k) r
def kntT(c:Int)(h:TH)(f:Ft):Int:=kntF (tl1 c h) f
theorem tally_eq(s:BS)(h:TH)(f:Ft):tallyS s h f=((0,0),{ s with count:=tl1 s.count h }):=by
 unfold tallyS tl1
 by_cases c:h.kind=9
 ·rw [if_pos c,if_pos c]
 ·rw [if_neg c,if_neg c]
theorem inF_tally:∀(f:Ft)(s:BS),inF tallyS s f=((0,0),{ s with count:=kntF s.count f })
| .nil,s=>rfl
| .cons p h k r,s=>by
 show(if p.bare=true then inF tallyS s r else if(tallyS s h k).1.1≠0 then tallyS s h k else if(inF tallyS (tallyS s h k).2 k).1.1≠0 then inF tallyS (tallyS s h k).2 k else inF tallyS (inF tallyS (tallyS s h k).2 k).2 r)=((0,0),{ s with count:=if p.bare=true then kntF s.count r else kntF (kntF (tl1 s.count h) k) r })
 by_cases c:p.bare=true
 ·rw [if_pos c,if_pos c,inF_tally r]
 ·rw [if_neg c,if_neg c,tally_eq,if_neg (by simp),inF_tally k,if_neg (by simp),inF_tally r]
theorem inT_tally(s:BS)(h:TH)(f:Ft):inT tallyS s h f=((0,0),{ s with count:=kntT s.count h f }):=by
 unfold inT;rw [tally_eq,if_neg (by simp),inF_tally];rfl
theorem int_in:(Tryz.prog.info? 3).map (fun i=>(i.zero,i.size,i.bytes))=some (some (.int .i64 0),1,8):=by kernel_rfl
theorem own_sl{w:World}{base:Nat}{e:TypeId}{k n:Nat}{v:Value}{xs:List Value}(h:w.ownsRow base e k v n xs):∃A m c,v=.slice A m c:=by
 obtain⟨-,⟨rfl,-⟩|⟨g,cap,cur,rfl,-⟩⟩:=h
 ·exact⟨_,_,_,rfl⟩
 ·exact⟨_,_,_,rfl⟩
theorem int_info:∃i0,Tryz.prog.info? 3=some i0∧(i0.zero,i0.size,i0.bytes)=(some (.int .i64 0),1,8):=by
 have:=int_in;cases h:Tryz.prog.info? 3 with
 | none=>rw [h]at this;cases this
 | some i0=>rw [h]at this;exact⟨i0,rfl,by simpa using this⟩
theorem isF_number:IsF 136:=by
 intro args w;unfold callFunc;simp [go_sem,Tryz.func136];rfl
theorem number_calls(hlow:w0.heap.size≤base)(s:BS)(h:TH)(f:Ft)(nv' pv':Value)(w:World)(hst:s.st.length≤1000000)(hI:(BF base B lv tv tab rh rnv rpv).Inv w s)(hb:Below w0.heap.size w0 w)(hy:RdY w0 h f nv' pv')(hg:GoodT h f)(R:Ending→World→Prop)
  (hR:Hid (∀W v',Hq (BF base B lv tv tab rh rnv rpv) s { s with st:=s.st++[s.count],sv:=v',count:=kntT s.count h f } w W []→R (.returned (FtV (0,0))) W)):Calls Tryz.prog 136 #[.pointer (some ⟨B,0,none⟩),tyV h nv' pv'] w R:=by
 obtain⟨ti,hTI,hZ⟩:=int_info;simp only[Prod.mk.injEq]at hZ;obtain⟨hz0,hz1,hz2⟩:=hZ;obtain⟨An,cn,rfl,-,-⟩:=hy.n.op;obtain⟨Ap,cp,rfl,-⟩:=hy.p.sl;have m0:=Hq.nil hI;obtain⟨V1,e1,m1,z1⟩:=m0.new (.cells (tyL h (.slice An h.names.length cn) (.slice Ap f.len cp)).toArray 36);obtain⟨V,e2,n,z2⟩:=m1.new (.cells #[.int .i64 0,.int .i64 0] 26);clear m0 m1 z1 z2;go_enter Tryz.func136,Tryz.ntmps136
 go_upto_region 1 with fail
 clear e1 e2;have hmf:∀(fn:Fn) (first cap:Array Value) (w:World),(Instr.makeFunc fn first cap).run Tryz.prog w=.ok (.func fn first cap) w:=fun _ _ _ _=>rfl
 have hlo:=bF_low base B lv tv tab rh rnv rpv hlow;have inv:BInv base B lv tv tab rh rnv rpv V s:=n.inv;have b13:=fun y:RW (fun k=>s.sv.ownBlock=some k) V=>y.cell n.bl_ inv.d1 (n.bc 13 rfl)
 have b14:=fun y:RW (fun k=>s.sv.ownBlock=some k) V=>y.cell n.bl_ inv.d1 (n.bc 14 rfl)
 have gW:Below V.heap.size V (V.drewN 1):=below_drewN (Below.refl _ _) 1;have own:(V.drewN 1).ownsRow base 3 1 s.sv s.st.length (ints s.st):=ownKp inv.os fun _ _ _=>rfl
 have hsz:base≤(V.drewN 1).heap.size:=Nat.le_trans inv.hB (Nat.le_of_lt n.bl_);refine wp_region_trS (fun k=>s.sv.ownBlock=some k) (.one [0,1,2,3,4,5,6,7,8] 9 (.one [] 10 (.one [] 11 (.last [12])))) 13 (by kernel_rfl) (by kernel_rfl) (by kernel_rfl) (by kernel_rfl) (by decide) (fun _ _ d _ _ h=>by cases d<;>exact h) ?_
 refine tr_one (os:=[_,_,_,_,_,_,_,_,_]) (by simp only[pickO,List.filterMap_cons,List.filterMap_nil,List.getElem?_toArray,List.getElem?_cons_succ,List.getElem?_cons_zero];rfl) (fun Kp hKp=>?_)
 repeat (go_big_quiet_step (exact rfl))
 refine wpQuiet_nil ?_;refine hKp _ ?_;clear hKp;refine loudr (by rfl) (by kernel_rfl) (fun K1 hK1=>?_);go_simp;refine hK1 _ _ (RW.of ((Gr.rfl' _ V).bl (gW.alloc gW.size _))) ?_;clear hK1;refine tr_one (os:=[]) (by rfl) (fun Kp hKp=>?_);refine wpQuiet_nil ?_;refine hKp _ ?_;clear hKp;refine loudr (by rfl) (by kernel_rfl) (fun K2 hK2=>?_);refine appOp (V.drewN 1) #[.int .i64 s.count] 1 3 _ _ 82 rfl base ti (.int .i64 0) 8 Tryz.underlying82 hTI hz0 hz1 hz2 rfl (by decide) rfl s.sv s.st.length (ints s.st) rfl own _ rfl rfl (by simp [Value.oneCell']) (by unfold maxLen;omega) (by omega) hsz ?_
 intro v' w2 hown hgr hfr;obtain⟨A',m',c',rfl⟩:=own_sl hown;have gA:Gr (fun k=>s.sv.ownBlock=some k) V w2:=((Gr.rfl' _ V).bl gW).trans (Gr.ofRow hgr) fun k e=>.inl e
 go_simp;refine hK2 _ _ (RW.of gA) ?_;clear hK2;refine tr_one (os:=[]) (by rfl) (fun Kp hKp=>?_);refine wpQuiet_nil ?_;refine hKp _ ?_;clear hKp;refine loudr (by rfl) (by kernel_rfl) (fun K3 hK3=>?_);go_simp;refine hK3 _ _ (RW.of gA) ?_;clear hK3;refine tr_last (os:=[_]) (by simp only[pickO,List.filterMap_cons,List.filterMap_nil,List.getElem?_toArray,List.getElem?_cons_succ,List.getElem?_cons_zero];rfl) (fun Kp hKp=>?_)
 repeat (go_big_quiet_step (exact rfl))
 refine wpQuiet_nil ?_;refine hKp _ ?_;clear hKp;have hbx:w2.heap[B]?=_:=(hgr.block B (by have:=n.bl_;exact this) fun e=>inv.d1 e.symm).trans inv.box
 have bf:=Lib.frozen_of_heap hbx 14;have bc:w2.cell? ⟨B,14,none⟩=some s.sv:=by rw [Lib.cell_of_heap hbx];rfl
 obtain⟨V4,e4,n⟩:∃V4,w2.setCell ⟨B,14,none⟩ (.slice A' m' c')=V4∧Hq (BF base B lv tv tab rh rnv rpv) s { s with st:=s.st++[s.count],sv:=.slice A' m' c' } w V4 [(V1.heap.size,.cells #[.int .i64 0,.int .i64 0] 26),(w.heap.size,.cells (tyL h (.slice An h.names.length cn) (.slice Ap f.len cp)).toArray 36)]:=⟨_,rfl,bs_stApp (n.bl gW) (x:=s.count) (by
  have e:ints (s.st++[s.count])=ints s.st++[.int .i64 s.count]:=by simp [ints]
  rw [e];exact hown) hgr (fun b q=>by
  rcases hfr with e|e
  ·exact .inl (e.symm.trans q)
  ·refine .inr ?_
   rw [e]at q;simp only[Option.some.injEq]at q;omega)⟩
 refine loudl (by rfl) (by kernel_rfl) ?_;go_simp;clear e4 bf bc hbx gA hfr hgr hown b13 b14 gW own inv;have rT:=n.rg 1 rfl;have hbV:=hb.trans (n.below hb.size (hlo s));go_wp2_with (refine wpList_load_g (by rfl) 36 _ rfl w.heap.size (0) rfl _ _ rT Tryz.underlying36 rfl (by kernel_rfl) ?_;go_simp)
 refine within_calls GoodT (BF base B lv tv tab rh rnv rpv) w0 205 (.pointer (some ⟨B,0,none⟩)) tallyS (fun _ _ g=>g) (fun h f K p x kd r g e hb=>by
  obtain⟨gp,gx,gk,ga⟩:=all_at K g.2.2 e;exact⟨gx,gk,ga⟩) hlo isF_tally (tally_calls GoodT) f { s with st:=s.st++[s.count],sv:=.slice A' m' c' } h _ _ V4 n.inv hbV hy hg _ (Lib.hid fun W1 c1=>?_)
 rw [inT_tally]at c1 ⊢;replace n:=n.call c1;clear c1 rT hbV;have y0:=n.c 0 0 rfl rfl;have yf0:=n.f 0 0 rfl;have y1:=n.c 0 1 rfl rfl;have yf1:=n.f 0 1 rfl;obtain⟨VE,eE,nE,-⟩:=n.put (j:=0) rfl [(0,.int .i64 0),(1,.int .i64 0)];simp only[stL]at eE;simp only[stA,List.setIfInBounds_toArray,List.set_cons_succ,List.set_cons_zero]at nE;have w0_:=nE.c 0 0 rfl rfl;have w1_:=nE.c 0 1 rfl rfl;have fin:=Lib.hid (hR.out _ _ nE.fin);clear nE n hR;go_wp2_with fail
 first|refine bodyPost_ret ?_ rfl fin.out|refine bodyPost_end ?_ rfl fin.out
 simp [results,Tryz.results136,go_sem,w0_,w1_]
end
section
variable {base B:Nat} {lv tv tab:Value} {rh:TH} {rnv rpv:Value} {w0:World}
theorem each0_calls{G:TH→Ft→Prop}{tys:List Nd}{rf:Ft}{fn:FuncId}(J:Nat→BS→Prop)(ht:RdNs w0 tv tys)(hroot:RdY w0 rh rf rnv rpv)(hlow:w0.heap.size≤base)(hl:tys.length≤maxLen)(hG:∀x∈tys,G x.2.1 x.2.2)(hGr:G rh rf)(hfn:IsF fn)
  (hop:∀K s h f nv' pv' V,(K<tys.length∧h=(nN tys K).2.1∧f=(nN tys K).2.2∨K=tys.length∧h=rh∧f=rf)→J K s→(BF base B lv tv tab rh rnv rpv).Inv V s→Below w0.heap.size w0 V→RdY w0 h f nv' pv'→G h f→∀R:Ending→World→Prop,Hid (∀W s',J (K+1) s'→Hq (BF base B lv tv tab rh rnv rpv) s s' V W []→R (.returned (FtV (0,0))) W)→Calls Tryz.prog fn #[.pointer (some ⟨B,0,none⟩),tyV h nv' pv'] V R)
  (s:BS) (w:World) (h0:J 0 s) (hI:(BF base B lv tv tab rh rnv rpv).Inv w s) (hb:Below w0.heap.size w0 w) (R:Ending→World→Prop)
  (hR:Hid (∀W s',J (tys.length+1) s'→Hq (BF base B lv tv tab rh rnv rpv) s s' w W []→R (.returned (FtV (0,0))) W)):Calls Tryz.prog 132 #[.pointer (some ⟨B,0,none⟩),.func (.func fn) #[.pointer (some ⟨B,0,none⟩)] #[]] w R:=by
 replace hl:tys.length≤9223372036854775807:=hl;obtain⟨A,c,rfl,hc,hel⟩:=nds_el ht;obtain⟨Rn,rn,rfl,-,-⟩:=hroot.n.op;obtain⟨Rp,rp,rfl,-⟩:=hroot.p.sl;have m0:=Hq.nil hI;obtain⟨V,e2,n,z2⟩:=m0.new (.cells #[.int .i64 0,.int .i64 0] 26);clear m0 z2;unfold IsF at hfn;replace hel:=Lib.hid hel;replace hG:=Lib.hid hG;replace hop:=Lib.hid hop;have b1:=n.bc 1 rfl;have hlo:=bF_low base B lv (.slice A tys.length c) tab rh (.slice Rn rh.names.length rn) (.slice Rp rf.len rp) hlow;go_enter Tryz.func132,Tryz.ntmps132
 go_upto_region 1 with fail
 clear e2;go_wp2_with fail
 clear b1;go_loopg [13] tys.length (fun g i wr=>∃(K:Nat) (sK:BS),i=.int .i64 K∧K+g=tys.length∧Hid (J K sK)∧Hid (Hq (BF base B lv (.slice A tys.length c) tab rh (.slice Rn rh.names.length rn) (.slice Rp rf.len rp)) s sK w wr [(w.heap.size,.cells #[.int .i64 0,.int .i64 0] 26)]))
 case atStart=>exact⟨0,s,rfl,by omega,Lib.hid h0,Lib.hid n⟩
 case round =>
  clear n;obtain⟨K,sK,rfl,e1,jK,n⟩:=hrel;replace n:=n.out;have hbW:=hb.trans (n.below hb.size (hlo s))
  by_cases hK:K<tys.length
  ·obtain⟨g,o,N1,N3,M1,M3,rfl,hxy,hrg⟩:=hel.out K hK
   have hGx:=hG.out _ (nd_mem hK);have rg:=hrg wr hbW;have hop1:=Lib.hid fun nv' pv' V=>hop.out K sK (nN tys K).2.1 (nN tys K).2.2 nv' pv' V (.inl ⟨hK,rfl,rfl⟩) jK.out
   clear hrg hbW;generalize nN tys K=x at *;have i0:(0:Int)≤(K:Int):=by omega
   have i1:(K:Int)<(tys.length:Int):=by omega
   obtain⟨V3,e3,n,z3⟩:=n.new (.cells (ndL x (.slice N1 x.2.1.names.length N3) (.slice M1 x.2.2.len M3)).toArray 100);go_upto_region 4 with(first|(refine wpList_load_g (by rfl) 100 _ rfl g (o+K*11) rfl _ _ rg Tryz.underlying100 rfl (by kernel_rfl) ?_;go_simp)|(refine wpList_copy (ndL x (.slice N1 x.2.1.names.length N3) (.slice M1 x.2.2.len M3)).toArray ⟨rfl,rfl,rfl⟩ ⟨rfl,rfl,rfl⟩ named_alloc (by kernel_rfl) ⟨rfl,by simp [Value.oneCell']⟩ (fun _=>⟨rfl,rfl⟩) ?_;go_simp))
   clear rg e3 z3;have r2:V3.rangeAt wr.heap.size 2 (tyL x.2.1 (.slice N1 x.2.1.names.length N3) (.slice M1 x.2.2.len M3)):=n.rgd 0 2 rfl;have hbV:=hb.trans (n.below hb.size (hlo s));go_wp2_with (refine wpList_load_g (by rfl) 36 _ rfl wr.heap.size (2) rfl _ _ r2 Tryz.underlying36 rfl (by kernel_rfl) ?_;go_simp)
   refine hop1.out _ _ V3 n.inv hbV hxy hGx _ (Lib.hid fun W4 s4 j4 c4=>?_);replace n:=(n.call c4).tail;clear c4 r2 hbV hGx hxy hop1;obtain⟨b,hb0⟩:∃b:Int×Int,b=(0,0):=⟨_,rfl⟩;rw [←hb0];obtain⟨b0,b1⟩:=b;simp only[Prod.mk.injEq]at hb0;replace hb0:=Lib.hid hb0;obtain⟨V5,e5,n,z5⟩:=n.new (.cells #[.int .i64 b0,.int .i64 b1] 26);go_upto_region 5 with fail
   clear e5 z5;obtain⟨rfl,rfl⟩:=hb0.out;have a_0:=n.c 0 0 rfl rfl;have a_1:=n.c 0 1 rfl rfl;replace n:=Lib.hid n.tail;replace j4:=Lib.hid j4;clear hR;go_wp2_with fail
   go_roundg (gk-1)
   case measure=>omega
   case rel=>exact⟨K+1,s4,by go_num,by omega,j4,n⟩
  ·obtain rfl:K=tys.length:=by omega
   have rB:=bs_root n;have hop1:=Lib.hid fun nv' pv' V=>hop.out tys.length sK rh rf nv' pv' V (.inr ⟨rfl,rfl,rfl⟩) jK.out
   go_wp2_with (refine wpList_load_g (by rfl) 36 _ rfl B (2) rfl _ _ rB Tryz.underlying36 rfl (by kernel_rfl) ?_;go_simp)
   refine hop1.out _ _ wr n.inv hbW hroot hGr _ (Lib.hid fun W4 s4 j4 c4=>?_);replace n:=n.call c4;clear c4 rB hbW hop1;have y0:=n.c 0 0 rfl rfl;have yf0:=n.f 0 0 rfl;have y1:=n.c 0 1 rfl rfl;have yf1:=n.f 0 1 rfl;obtain⟨VE,eE,nE,-⟩:=n.put (j:=0) rfl [(0,.int .i64 0),(1,.int .i64 0)];simp only[stL]at eE;simp only[stA,List.setIfInBounds_toArray,List.set_cons_succ,List.set_cons_zero]at nE;have w0_:=nE.c 0 0 rfl rfl;have w1_:=nE.c 0 1 rfl rfl;have fin:=Lib.hid (hR.out _ _ j4 nE.fin);clear nE n hR;go_wp2_with fail
   first|refine bodyPost_ret ?_ rfl fin.out|refine bodyPost_end ?_ rfl fin.out
   simp [results,Tryz.results132,go_sem,w0_,w1_]
end
theorem own_emp18{w:World}{base:Nat}{e:TypeId}{k n:Nat}{v:Value}{xs:List Value}(h:w.ownsRow base e k v n xs):RdAt (empW (lowS base) w) v k xs:=by
 have h0:=h;obtain⟨hl,⟨rfl,rfl⟩|⟨g,cap,cur,rfl,hb,hg,hn,hm,hc,ht⟩⟩:=h
 ·exact⟨none,0,0,rfl,hl,Nat.le_refl _,fun h=>absurd h (by omega)⟩
 ·refine⟨_,n,cap,rfl,hl,hn,fun _=>⟨g,0,rfl,?_,fun j u hj=>?_⟩⟩
  ·rw [emp_size]
   exact(h0.lt g rfl).2
  ·have:=h0.cells (g:=g) rfl j u hj
   rw [Addr.add_lit]at this;exact emp_cell.2 ⟨by unfold lowS;omega,this⟩
theorem str_in:(Tryz.prog.info? 9).map (fun i=>(i.zero,i.size,i.bytes))=some (some (.string ⟨#[]⟩),1,16):=by kernel_rfl
theorem str_info:∃i0,Tryz.prog.info? 9=some i0∧(i0.zero,i0.size,i0.bytes)=(some (.string ⟨#[]⟩),1,16):=by
 have:=str_in;cases h:Tryz.prog.info? 9 with
 | none=>rw [h]at this;cases this
 | some i0=>rw [h]at this;exact⟨i0,rfl,by simpa using this⟩
theorem nms_take{l:List Wr}{K:Nat}(h:K<l.length):sv ((nms l).take (K+1))=sv ((nms l).take K)++[.string (wN l K).1]:=by
 have hk:K<(nms l).length:=by rw [nms_len];exact h
 rw [List.take_succ_eq_append_getElem hk,wN_get h];simp [sv,nms]
theorem texts_calls(l:List Wr)(hl:l.length≤1000000)(va:Value)(w:World)(ha:RdW w va l)(R:Ending→World→Prop)(hR:Hid (∀v' w',RdS (empW (lowS w.heap.size) w') v' (nms l)→Shp v'→Below w.heap.size w w'→R (.returned v') w')):Calls Tryz.prog 206 #[va] w R:=by
 obtain⟨ti,hI,hZ⟩:=str_info;simp only[Prod.mk.injEq]at hZ;obtain⟨hz0,hz1,hz2⟩:=hZ;obtain⟨A,ca,rfl,hca,hra⟩:=ha.op;replace hra:=Lib.hid hra;clear ha;go_enter Tryz.func206,Tryz.ntmps206
 go_wp2_with fail
 go_loopg [3,8] l.length (fun g s k wr=>∃(K:Nat) (v:Value),s=v∧k=.int .i64 K∧K+g=l.length∧Hid (Below w.heap.size w wr)∧Hid (wr.ownsRow w.heap.size 9 1 v K (sv ((nms l).take K))))
 case atStart=>exact⟨0,_,rfl,rfl,by omega,Lib.hid (Below.refl _ _),Lib.hid (by simpa [sv]using World.ownsRow_nil _ _ _ _)⟩
 case round =>
  obtain⟨K,v,rfl,rfl,e1,nb,own⟩:=hrel
  by_cases hK:K<l.length
  ·obtain⟨g,o,rfl,hg,hc⟩:=hra.out (by omega)
   have x0:=(nb.out.cell (p:=⟨g,o+K*2,none⟩) hg).trans (hc K hK).1;have x1:=(nb.out.cell (p:=⟨g,o+K*2+1,none⟩) hg).trans (hc K hK).2;have i0:(0:Int)≤(K:Int):=by omega
   have i1:(K:Int)<(l.length:Int):=by omega
   have ht:=nms_take hK;clear hc;generalize(wN l K).1=s at *;generalize(wN l K).2=z at *;have bP:=(Below.refl wr.heap.size wr).alloc (Nat.le_refl _) (.cells #[.string s,.int .i64 z] 34);have hb:=heap_alloc_new wr (.cells #[.string s,.int .i64 z] 34);have own1:=Lib.hid (own_below own.out bP);have nbP:=Lib.hid (nb.out.trans (bP.mono nb.out.size));have hsz:=nbP.out.size;go_upto_region 5 with fail
   generalize wr.alloc (.cells #[.string s,.int .i64 z] 34)=V at *;generalize wr.heap.size=B at *;clear x0 x1 own nb bP;have x0:=(Lib.cell_of_heap hb 0).trans rfl;clear hb;go_wp2_with (at_builtin;go_loud (refine appKF V #[.string s] 1 9 rfl _ _ 60 rfl w.heap.size ti (.string ⟨#[]⟩) 16 Tryz.underlying60 hI hz0 hz1 hz2 rfl (by decide) rfl _ K (sv ((nms l).take K)) rfl own1.out _ rfl rfl (by simp [Value.oneCell']) (by unfold maxLen;omega) (by omega) hsz ?_);rintro v' w3 hown3 hg3 hb3 -)
   have own2:=Lib.hid (show w3.ownsRow w.heap.size 9 1 v' (K+1) (sv ((nms l).take (K+1)))by rw [ht];exact hown3)
   have nb2:=Lib.hid (nbP.out.trans hb3);clear hown3 hg3 hb3 own1 nbP ht x0;go_wp2_with fail
   go_roundg (gk-1)
   case measure=>omega
   case rel=>exact⟨K+1,_,rfl,by go_num,by omega,nb2,own2⟩
  ·obtain rfl:K=l.length:=by omega
   have et:(nms l).take l.length=nms l:=by rw [←nms_len l,List.take_length]
   have rd:=own_emp18 own.out;rw [et]at rd;have fin:=Lib.hid (hR.out _ _ rd (own_shp own.out) nb.out);clear hR rd own;go_wp2_with fail
   exact fin.out
end Go.Proofs.YtabhkakomececaaGreat.Res
