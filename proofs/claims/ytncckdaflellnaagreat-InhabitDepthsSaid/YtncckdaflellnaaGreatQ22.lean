import Derived.Test.YtncckdaflellnaaGreatQ10
import Derived.Test.YtncckdaflellnaaGreatQ21
import Derived.Great.BuildSlice
import Derived.Test.YtncckdaflellnaaGreatQ20
set_option linter.all false
set_option maxRecDepth 100000
set_option maxHeartbeats 4000000
namespace Go.Proofs.YtncckdaflellnaaGreat
namespace Lat
open Go.RowKit Go.Lib Rel Nam
theorem cnt_cases(ws:List Wr)(ps:List Pr):((cntS ws ps).1≠0∧wrongS ws ps=cntS ws ps)∨(cntS ws ps=(0,0)∧0<ws.length∧ws.length≤32∧ps.length≤256):=by
 unfold cntS
 by_cases h0:ws.length=0
 ·rw [if_pos h0];exact .inl ⟨by decide,w_none h0⟩
 rw [if_neg h0]
 by_cases h1:32<ws.length
 ·rw [if_pos h1];exact .inl ⟨by simp,w_many h1⟩
 rw [if_neg h1]
 by_cases h2:256<ps.length
 ·rw [if_pos h2];exact .inl ⟨by simp,w_pairs (by omega) (by omega) h2⟩
 ·rw [if_neg h2];exact .inr ⟨rfl,by omega,by omega,by omega⟩
theorem chk_cases(ws:List Wr):((chkS ws).1≠0∧firF (lvAt ws) ws.length 0=some (chkS ws))∨(chkS ws=(0,0)∧firF (lvAt ws) ws.length 0=none):=by
 unfold chkS;cases e:firF (lvAt ws) ws.length 0 with
 | none=>exact .inr ⟨rfl,rfl⟩
 | some f =>
  refine .inl ⟨?_,rfl⟩;obtain⟨j,-,-,hj⟩:=fir_some _ _ e;unfold lvAt at hj
  split at hj
  ·cases hj;simp
  ·split at hj
   ·cases hj;simp
   ·cases hj
theorem pr_cases{ws:List Wr}{ps:List Pr}{f:Int×Int}(e:firF (prAt ws ps) ps.length 0=some f):f.1≠0:=by
 obtain⟨j,-,-,hj⟩:=fir_some _ _ e;unfold prAt at hj
 split at hj
 ·cases hj;simp
 ·split at hj
  ·cases hj;simp
  ·cases hj
theorem idx_good(ws:List Wr)(ps:List Pr)(h:ws.length≤32):∀x∈idxQ ws ps,GoodQ x:=fun x hx=>by
 obtain⟨p,-,rfl⟩:=List.mem_map.1 hx;have l1:=find_lt (nms ws) p.1.1;have l2:=find_lt (nms ws) p.2.1;have g1:-1≤findS (nms ws) p.1.1:=by rcases find_cases (nms ws) p.1.1 with⟨q,-⟩|⟨k,-,-,-,q⟩ <;> omega
 have g2:-1≤findS (nms ws) p.2.1:=by rcases find_cases (nms ws) p.2.1 with⟨q,-⟩|⟨k,-,-,-,q⟩ <;> omega
 rw [nms_len]at l1 l2;exact⟨⟨by simp only;omega,by simp only;omega⟩,by simp only;omega,by simp only;omega⟩
theorem flt_box{w W:World}{H:Nat}(T:Flt w H W)(e z:Int):Flt w H (W.alloc (.cells #[.int .i64 e,.int .i64 z] 34))∧(W.alloc (.cells #[.int .i64 e,.int .i64 z] 34)).cell? ⟨W.heap.size,0,none⟩=some (.int .i64 e)∧(W.alloc (.cells #[.int .i64 e,.int .i64 z] 34)).cell? ⟨W.heap.size,1,none⟩=some (.int .i64 z):=by
 have q1:=heap_alloc_new W (.cells #[.int .i64 e,.int .i64 z] 34);exact⟨T.below ((Below.refl _ _).alloc (Nat.le_refl _) _),by rw [Lib.cell_of_heap q1];rfl,by rw [Lib.cell_of_heap q1];rfl⟩
theorem OwnL.two{w:World}{base B:Nat}{v1 v2:Value}{h:Nat→Int}(ow:OwnL w base B v1 v2 h):w.cell? ⟨B,0,none⟩=some v1∧w.cell? ⟨B,1,none⟩=some v2 :=
⟨(World.ownsRow.cellAt ow 0 (by omega)).trans rfl,(World.ownsRow.cellAt ow 1 (by omega)).trans rfl⟩
theorem lev_made{W:World}{base B gl b1 b2 n:Nat}{v2:Value}{nm:List ByteArray}{h:Nat→Int}(oS:OwnS W b1 gl n nm)(rt:RdTN W v2 nm b2)(oL:OwnL W base B (.slice (some ⟨gl,0,none⟩) n n) v2 h)(hn:nm.length≤32):LevP W B nm :=
⟨_,v2,oL.lt,oL.two.1,oL.two.2,RdS.of_own oS,.inr ⟨gl,0,n,n,rfl⟩,rt.rd,hn⟩
theorem mt_made{W:World}{base B q o n:Nat}{v1 v2:Value}{h:Nat→Int}{J:Nat→Nat→Int}(oL:OwnL W base B v1 v2 h)(hm:FilM q J n 0 h)(ho:o=2+q)(hq:q=0∨q=1024)(hn:n≤32):MtP W B o n J:=fun a b ha hb=>by
 have:=oL.cell (show q+(a*32+b)<2048 by omega);rw [hm a b (by omega) (by omega) (.inl ⟨ha,hb⟩)]at this;rw [show o+a*32+b=2+(q+(a*32+b))by omega];exact this
theorem lat_made{W:World}{base B gl b1 b2 n:Nat}{v2:Value}{nm:List ByteArray}{h:Nat→Int}{F:Nat→Nat→Bool}(hnm:nm.length=n)(oS:OwnS W b1 gl n nm)(rt:RdTN W v2 nm b2)(oL:OwnL W base B (.slice (some ⟨gl,0,none⟩) n n) v2 h)(hn:n≤32)
  (h1:FilM 0 (joinS n F) n 0 h) (h2:FilM 1024 (joinS n (flp F)) n 0 h) (hL:Latt n F):LatP W (.pointer (some ⟨B,0,none⟩)) nm F:=by
 subst hnm;exact⟨B,rfl,lev_made oS rt oL hn,mt_made oL h1 rfl (.inl rfl) hn,mt_made oL h2 rfl (.inr rfl) hn,hL⟩
theorem Flt.under{w W W':World}{H B:Nat}(h:Flt w H W)(hb:Below B W W')(hB:H<B):Flt w H W' :=
⟨h.nb.trans (hb.mono (Nat.le_of_lt hB)),Nat.lt_of_lt_of_le h.lt hb.size,(hb.cell (p:=⟨H,0,none⟩) hB).trans h.c0,(hb.cell (p:=⟨H,1,none⟩) hB).trans h.c1,(hb.frozen (p:=⟨H,0,none⟩) hB).trans h.f0,(hb.frozen (p:=⟨H,1,none⟩) hB).trans h.f1⟩
theorem no_bn{n:Nat}{F:Nat→Nat→Bool}(h0:0<n)(hO:Ordr n F)(h:∀b,b<n→bnB n F b=false):Latt n F:=latt_of h0 hO fun b hb a hab=>by
 have hno:¬noB n F b a=true:=fun q=>by
  have:bnB n F b=true:=List.any_eq_true.2 ⟨a,List.mem_range.2 hab,q⟩;rw [h b hb]at this;cases this
 unfold noB at hno;rw [Bool.or_eq_true,decide_eq_true_iff,decide_eq_true_iff]at hno;exact⟨Int.not_lt.1 fun q=>hno (.inl q),Int.not_lt.1 fun q=>hno (.inr q)⟩
theorem bn_none{ws:List Wr}{F:Nat→Nat→Bool}(h:∀b,b<ws.length→bnB ws.length F b=false):firF (bnAt ws F) ws.length 0=none:=fir_no ws.length 0 fun j _ hj=>by
 unfold bnAt;rw [if_neg (by rw [h j (by omega)];simp)]
theorem bn_some{ws:List Wr}{F:Nat→Nat→Bool}{a:Nat}(ha:a<ws.length)(h1:bnB ws.length F a=true)(h:∀b,b<a→bnB ws.length F b=false):firF (bnAt ws F) ws.length 0=some (12,(wN ws a).2) :=
fir_is ws.length 0 a (Nat.zero_le _) (by omega) (by unfold bnAt;rw [if_pos h1]) fun j _ hj=>by unfold bnAt;rw [if_neg (by rw [h j hj];simp)]
theorem build0_calls(ws:List Wr)(ps:List Pr)(vw vp:Value)(w:World)(hw:RdW w vw ws)(hp:RdPr w vp ps)(hgw:∀x∈ws,GoodW x)(hgp:∀x∈ps,GoodR x)(R:Ending→World→Prop)
  (hR:Hid (∀v' w',wrongS ws ps=(0,0)→LatP w' v' (nms ws) (leqF ws ps)→Below w.heap.size w w'→R (.returned (.tuple #[v',.agg #[.int .i64 0,.int .i64 0]])) w'))
  (hR2:Hid (∀w',(wrongS ws ps).1≠0→Below w.heap.size w w'→R (.returned (.tuple #[.pointer none,.agg #[.int .i64 (wrongS ws ps).1,.int .i64 (wrongS ws ps).2]])) w')):Calls Tryz.prog 50 #[vw,vp] w R:=by
 have T:=Flt.new w;have cC:=Lib.hid fun(W:World) (hb:Below w.heap.size w W) R hR=>latcounts_calls ws ps vw vp W (hw.below hb) (hp.below hb) R hR
 have cN:=Lib.hid fun(W:World) (hb:Below w.heap.size w W) (h:ws.length≤32) R hR=>latnamesof_calls ws vw W (hw.below hb) (by omega) R hR
 have cK:=Lib.hid fun(W:World) (hb:Below w.heap.size w W) (h:ws.length≤32) vl hx R hR=>latchecknames_calls ws vw vl W (hw.below hb) hx hgw (by omega) R hR
 have cM:=Lib.hid fun(W:World) (hb:Below w.heap.size w W) (h:ps.length≤256) p hv R hR hR2=>latnumbered_calls ws ps p vp W hv (hp.below hb) (by omega) R hR hR2
 obtain⟨Aw,cw,rfl,hcw,hrw⟩:=hw.op;obtain⟨Ap,cp,rfl,-,-⟩:=hp.op;replace hrw:=Lib.hid hrw;clear hw hp hgw hgp;go_enter Tryz.func50,Tryz.ntmps50
 go_upto_region 1 with fail
 generalize w.alloc (.cells #[.int .i64 0,.int .i64 0] 34)=W0 at *;replace T:=Lib.hid T;go_wp2_with fail
 refine cC.out W0 T.out.nb _ (Lib.hid fun w1 n1=>?_);replace T:=Lib.hid (T.out.below n1);clear n1 cC;rcases cnt_cases ws ps with⟨he,eW⟩|⟨eC,g0,g32,g256⟩
 ·have fin:=fun w'=>hR2.out w' (by rw [eW];exact he)
  rw [eW]at fin;clear eW cN cK cM;generalize cntS ws ps=V at *;obtain⟨e,z⟩:=V;simp only at fin he ⊢;have q0:(e != 0)=true:=by simpa using he
  obtain⟨T2,c0,c1⟩:=flt_box T.out e z;replace T2:=Lib.hid T2;replace fin:=Lib.hid fin;replace c0:=Lib.hid c0;replace c1:=Lib.hid c1;clear he T hR hR2;go_wp2_with fail
  replace c0:=c0.out;replace c1:=c1.out;generalize w1.alloc (.cells #[.int .i64 e,.int .i64 z] 34)=W2 at *;generalize w1.heap.size=H2 at *;go_still_tail 2,(by kernel_rfl)
  repeat still_step
  change wpList _ _ _ _ _ W2.drew
  have T3:=T2.out.below (Below.refl _ _).drew;clear c0 c1 T2 q0;generalize W2.drew=W3 at *;obtain⟨nf,s0',s1'⟩:=T3.told (.int .i64 e) (.int .i64 z);have c0:=T3.c0;have c1:=T3.c1;have f0':=T3.f0;have f1':=T3.f1;replace nf:=Lib.hid nf;replace s0':=Lib.hid s0';replace s1':=Lib.hid s1';clear T3;go_wp2_with fail
  replace s0':=s0'.out;replace s1':=s1'.out;clear c0 c1 f0' f1';generalize(W3.setCell ⟨w.heap.size,0,none⟩ _).setCell ⟨w.heap.size,1,none⟩ _=Wz at *;refine bodyPost_ret ?_ rfl (fin.out _ nf.out);simp [results,Tryz.results50,go_sem,s0',s1']
 ·rw [eC]
  obtain⟨T2,-,-⟩:=flt_box T.out 0 0;have hfl:w.heap.size<w1.heap.size:=T.out.lt;replace T2:=Lib.hid T2;clear T eC;simp only;go_wp2_with fail
  generalize hW2:w1.alloc (.cells #[.int .i64 0,.int .i64 0] 34)=W2 at *;have hHl:w.heap.size<W2.heap.size:=T2.out.lt;replace hW2:=Lib.hid hW2;replace hfl:=Lib.hid hfl;refine cN.out W2 T2.out.nb g32 _ (Lib.hid fun w3 oS n3=>?_);replace T:=Lib.hid (T2.out.below n3);generalize hgl:W2.heap.size=gl at *;replace hgl:=Lib.hid hgl;replace oS:=Lib.hid oS;clear n3 T2 cN;go_wp2_with fail
  refine cK.out w3 T.out.nb g32 _ (RdS.of_own oS.out) _ (Lib.hid fun w4 n4=>?_);replace T:=Lib.hid (T.out.below n4);replace oS:=Lib.hid (own_below oS.out n4);clear n4 cK;rcases chk_cases ws with⟨he,eF⟩|⟨eK,eF⟩
  ·have eW:=w_lv g0 g32 g256 eF
   have fin:=fun w'=>hR2.out w' (by rw [eW];exact he)
   rw [eW]at fin;clear eW cM eF oS;generalize chkS ws=V at *;obtain⟨e,z⟩:=V;simp only at fin he ⊢;have q0:(e != 0)=true:=by simpa using he
   obtain⟨T2,c0,c1⟩:=flt_box T.out e z;replace T2:=Lib.hid T2;replace fin:=Lib.hid fin;replace c0:=Lib.hid c0;replace c1:=Lib.hid c1;clear he T hR hR2;go_wp2_with fail
   replace c0:=c0.out;replace c1:=c1.out;generalize w4.alloc (.cells #[.int .i64 e,.int .i64 z] 34)=W2 at *;generalize w4.heap.size=H2 at *;go_still_tail 2,(by kernel_rfl)
   repeat still_step
   change wpList _ _ _ _ _ W2.drew
   have T3:=T2.out.below (Below.refl _ _).drew;clear c0 c1 T2 q0;generalize W2.drew=W3 at *;obtain⟨nf,s0',s1'⟩:=T3.told (.int .i64 e) (.int .i64 z);have c0:=T3.c0;have c1:=T3.c1;have f0':=T3.f0;have f1':=T3.f1;replace nf:=Lib.hid nf;replace s0':=Lib.hid s0';replace s1':=Lib.hid s1';clear T3;go_wp2_with fail
   replace s0':=s0'.out;replace s1':=s1'.out;clear c0 c1 f0' f1';generalize(W3.setCell ⟨w.heap.size,0,none⟩ _).setCell ⟨w.heap.size,1,none⟩ _=Wz at *;refine bodyPost_ret ?_ rfl (fin.out _ nf.out);simp [results,Tryz.results50,go_sem,s0',s1']
  ·rw [eK]
   obtain⟨T2,-,-⟩:=flt_box T.out 0 0;have b4:=(Below.refl w4.heap.size w4).alloc (Nat.le_refl _) (.cells #[.int .i64 0,.int .i64 0] 34);have oS5:=own_below oS.out b4;have hgl4:w.heap.size<(w4.alloc (.cells #[.int .i64 0,.int .i64 0] 34)).heap.size:=T2.lt;replace T2:=Lib.hid T2;replace oS5:=Lib.hid oS5;clear T eK b4 oS;simp only;go_wp2_with fail
   generalize hW5:w4.alloc (.cells #[.int .i64 0,.int .i64 0] 34)=W5 at *;replace hW5:=Lib.hid hW5;refine newx_calls (nms ws) _ W5 (by rw [nms_len];omega) (RdS.of_own oS5.out) _ (Lib.hid fun vt w6 rt n6=>?_)
   replace T:=Lib.hid (T2.out.below n6);replace oS:=Lib.hid (own_below oS5.out n6)
   obtain⟨pt,hpt⟩:∃pt,vt=.pointer (some ⟨pt,0,none⟩):=by
    obtain⟨pt,-,-,e,-⟩:=rt;exact⟨pt,e⟩
   subst hpt;obtain⟨C,hC⟩:∃C,C=latC (.slice (some ⟨gl,0,none⟩) ws.length ws.length) (.pointer (some ⟨pt,0,none⟩)):=⟨_,rfl⟩;have hB:∀l,l=[(0,Value.slice (some ⟨gl,0,none⟩) ws.length ws.length),(1,.pointer (some ⟨pt,0,none⟩))]→Tryz.prog.built 149 l=some C:=fun l h=>by rw [h,hC];exact built_lat _ _ _
   have hCs:C.size=2050:=by rw [hC];exact latC_size _ _
   have hCv:C.toList=latV (.slice (some ⟨gl,0,none⟩) ws.length ws.length) (.pointer (some ⟨pt,0,none⟩)) (fun _=>0):=by rw [hC];exact latC_zero _ _
   have oL:=own_made (n:=2050) (w:=w6) (t:=149) hCv (latV_len _ _ _) (by unfold maxLen;omega)
   have hHB:w.heap.size<w6.heap.size:=T.out.lt;have b6:=(Below.refl w6.heap.size w6).alloc (Nat.le_refl _) (.cells C 149);have T7:=Lib.hid (T.out.below b6);have lv7:=Lib.hid (lev_made (own_below oS.out b6) (rt.below b6) oL (by rw [nms_len];exact g32))
   replace hB:=Lib.hid hB;replace oL:=Lib.hid oL;replace b6:=Lib.hid b6;replace rt:=Lib.hid rt;clear n6 T2 oS5 hC hCv T;go_wp2_with (refine wpList_buildTo rfl 149 _ rfl (some 37) rfl C (hB.out _ (by simp [go_sem])) ?_)
   generalize w6.alloc (.cells C 149)=W7 at *;generalize hBB:w6.heap.size=B at *;have hBH:Hid (w6.heap.size=B):=Lib.hid hBB;clear hBB hB hCs;refine cM.out W7 T7.out.nb g256 B lv7.out _ (Lib.hid fun vq w8 hno rq n8=>?_) (Lib.hid fun f w8 hf n8=>?_)
   ·have hq:=idx_right g32 hno
    have hin:=toN_in hq;obtain⟨T9,-,-⟩:=flt_box (T7.out.below n8) 0 0;have b9:=(Below.refl w8.heap.size w8).alloc (Nat.le_refl _) (.cells #[.int .i64 0,.int .i64 0] 34);have rq9:=rq.below b9;have oL9:=own_below (own_below oL.out n8) b9;have nB8:=b6.out.trans (n8.mono (Nat.le_trans (Nat.le_of_eq hBH.out.symm) b6.out.size));have nB9:=nB8.trans (b9.mono (Nat.le_trans (Nat.le_of_eq hBH.out.symm) nB8.size));obtain⟨Aq,cq,rfl,-,-⟩:=rq.op;replace T9:=Lib.hid T9;replace oL9:=Lib.hid oL9;replace nB9:=Lib.hid nB9;replace rq9:=Lib.hid rq9;have eI:=idx_len ws ps;replace eI:=Lib.hid eI;clear n8 b9 rq nB8 T7 lv7 b6 oL cM;go_wp2_with fail
    generalize w8.alloc (.cells #[.int .i64 0,.int .i64 0] 34)=W9 at *;refine relnew_calls ws.length ⟨by omega,by omega⟩ (idxQ ws ps) _ W9 rq9.out (idx_good ws ps g32) (by rw [eI.out];unfold maxLen;omega) _ (Lib.hid fun vr w10 hr2 rr n10=>?_) (Lib.hid fun w10 hr2 n10=>absurd hq hr2)
    rw [Int.toNat_natCast]at rr;obtain⟨pr,rfl⟩:=rr.ptr;have T10:=Lib.hid (T9.out.below n10);have oL10:=Lib.hid (own_below oL9.out n10);have nB10:=Lib.hid (nB9.out.trans (n10.mono (Nat.le_trans (Nat.le_of_eq hBH.out.symm) nB9.out.size)));replace rr:=Lib.hid rr;clear T9 oL9 nB9 rq9 n10 hr2;go_wp2_with fail
    refine relloopx_calls ws.length (toN (idxQ ws ps)) hin (by omega) _ w10 rr.out _ (Lib.hid fun m w11 hm n11=>?_) (Lib.hid fun w11 hm n11=>?_)
    ·have hml:m<ws.length:=by
      rcases loop_or (n:=ws.length) (f:=ld ws.length (toN (idxQ ws ps)))with q|⟨k,hk,q⟩
      ·omega
      ·omega
     have eW:wrongS ws ps=(11,(wN ws m).2):=w_loop g0 g32 g256 eF hno hm;have fin:=fun w'=>hR2.out w' (by rw [eW];simp)
     rw [eW]at fin;have T11:=Lib.hid (T10.out.below n11);replace fin:=Lib.hid fin;clear eW eF hno hm n11 T10 oL10 nB10 rr hR hR2 oS rt hq hin;simp only;obtain⟨g,o,rfl,hg,hca⟩:=hrw.out g0;obtain⟨x0,x1⟩:=hca m hml;have e0:=(T11.out.nb.cell (p:=⟨g,o+m*2,none⟩) hg).trans x0;have e1:=(T11.out.nb.cell (p:=⟨g,o+m*2+1,none⟩) hg).trans x1;have hi0:(0:Int)≤(m:Int):=by omega
     have hi1:(m:Int)<(ws.length:Int):=by omega
     clear hca x0 x1 hrw;generalize(wN ws m).1=s at *;generalize(wN ws m).2=z at *;go_wp2_with fail
     refine faultat_calls s z 11 _ _ (Lib.hid fun w14 n14=>?_);have T3:=T11.out.below n14;clear n14 T11 e0 e1;obtain⟨nf,s0',s1'⟩:=T3.told (.int .i64 11) (.int .i64 z);have c0:=T3.c0;have c1:=T3.c1;have f0':=T3.f0;have f1':=T3.f1;replace nf:=Lib.hid nf;replace s0':=Lib.hid s0';replace s1':=Lib.hid s1';clear T3;go_wp2_with fail
     replace s0':=s0'.out;replace s1':=s1'.out;clear c0 c1 f0' f1';generalize(w14.setCell ⟨w.heap.size,0,none⟩ _).setCell ⟨w.heap.size,1,none⟩ _=Wz at *;refine bodyPost_ret ?_ rfl (fin.out _ nf.out);simp [results,Tryz.results50,go_sem,s0',s1']
    ·have rr11:=rr.out.below n11
     have T11:=Lib.hid (T10.out.below n11);have oL11:=Lib.hid (own_below oL10.out n11);have nB11:=Lib.hid (nB10.out.trans (n11.mono (Nat.le_trans (Nat.le_of_eq hBH.out.symm) nB10.out.size)));replace rr11:=Lib.hid rr11;have hO:Ordr ws.length (leqF ws ps):=ordr_ld hin hm;have hml:loopS ws.length (leqF ws ps)=-1:=hm;replace hml:=Lib.hid hml;replace hO:=Lib.hid hO;clear n11 T10 oL10 nB10 rr hm;go_wp2_with fail
     refine relclose_calls ws.length (toN (idxQ ws ps)) hin (by omega) _ w11 rr11.out _ (Lib.hid fun vc w12 rc n12=>?_);obtain⟨pc,rfl⟩:=rc.ptr;have T12:=Lib.hid (T11.out.below n12);have oL12:=Lib.hid (own_below oL11.out n12);have nB12:=Lib.hid (nB11.out.trans (n12.mono (Nat.le_trans (Nat.le_of_eq hBH.out.symm) nB11.out.size)));replace rc:=Lib.hid rc;clear n12 T11 oL11 nB11 rr11;go_wp2_with fail
     refine latfill_calls ws.length (cloL ws.length (toN (idxQ ws ps))) (clo_in _ _) g0 g32 (leqF ws ps) (fun a b ha hb=>hasQ_clo ha hb) hO.out B B _ _ _ w12 rc.out oL12.out _ (Lib.hid fun w13 h o13 m1 m2 hb n13=>?_) (Lib.hid fun a w13 ha h1 h2 n13=>?_)
     ·have T3:=T12.out.under n13 hHB
      have nB13:Below w6.heap.size w6 w13:=by rw [hBH.out];exact nB12.out.trans n13
      have oS13:=own_below oS.out nB13;have rt13:=rt.out.below nB13;have eW:wrongS ws ps=(0,0):=w_ok g0 g32 g256 eF hno hml.out (bn_none hb);have hL:=no_bn g0 hO.out hb
      have lat:=lat_made (nms_len ws) (ownsRow_setCell_below (ownsRow_setCell_below oS13 (a:=⟨w.heap.size,0,none⟩) hHl (.int .i64 0)) (a:=⟨w.heap.size,1,none⟩) hHl (.int .i64 0)) ((rt13.set hgl4 0 (.int .i64 0)).set hgl4 1 (.int .i64 0))
       (ownsRow_setCell_below (ownsRow_setCell_below o13 (a:=⟨w.heap.size,0,none⟩) hHB (.int .i64 0)) (a:=⟨w.heap.size,1,none⟩) hHB (.int .i64 0)) g32 m1 m2 hL
      have fin:=Lib.hid (hR.out _ _ eW lat);replace T3:=Lib.hid T3;clear eW hL lat oS13 rt13 nB13 o13 m1 m2 hb n13 T12 oL12 nB12 rc oS rt hR hR2 eF hno;replace T3:=T3.out;obtain⟨nf,s0',s1'⟩:=T3.told (.int .i64 0) (.int .i64 0);have c0:=T3.c0;have c1:=T3.c1;have f0':=T3.f0;have f1':=T3.f1;replace nf:=Lib.hid nf;replace s0':=Lib.hid s0';replace s1':=Lib.hid s1';clear T3;go_wp2_with fail
      replace s0':=s0'.out;replace s1':=s1'.out;clear c0 c1 f0' f1';generalize(w13.setCell ⟨w.heap.size,0,none⟩ _).setCell ⟨w.heap.size,1,none⟩ _=Wz at *;refine bodyPost_ret ?_ rfl (fin.out nf.out);simp [results,Tryz.results50,go_sem,s0',s1']
     ·have eW:wrongS ws ps=(12,(wN ws a).2):=w_bn g0 g32 g256 eF hno hml.out (bn_some ha h1 h2)
      have fin:=fun w'=>hR2.out w' (by rw [eW];simp)
      rw [eW]at fin;have T13:=Lib.hid (T12.out.under n13 hHB);replace fin:=Lib.hid fin;clear eW eF hno h1 h2 n13 T12 oL12 nB12 rc oS rt hR hR2 hq hin;simp only;obtain⟨g,o,rfl,hg,hca⟩:=hrw.out g0;obtain⟨x0,x1⟩:=hca a ha;have e0:=(T13.out.nb.cell (p:=⟨g,o+a*2,none⟩) hg).trans x0;have e1:=(T13.out.nb.cell (p:=⟨g,o+a*2+1,none⟩) hg).trans x1;have hi0:(0:Int)≤(a:Int):=by omega
      have hi1:(a:Int)<(ws.length:Int):=by omega
      clear hca x0 x1 hrw;generalize(wN ws a).1=s at *;generalize(wN ws a).2=z at *;go_wp2_with fail
      refine faultat_calls s z 12 _ _ (Lib.hid fun w14 n14=>?_);have T3:=T13.out.below n14;clear n14 T13 e0 e1;obtain⟨nf,s0',s1'⟩:=T3.told (.int .i64 12) (.int .i64 z);have c0:=T3.c0;have c1:=T3.c1;have f0':=T3.f0;have f1':=T3.f1;replace nf:=Lib.hid nf;replace s0':=Lib.hid s0';replace s1':=Lib.hid s1';clear T3;go_wp2_with fail
      replace s0':=s0'.out;replace s1':=s1'.out;clear c0 c1 f0' f1';generalize(w14.setCell ⟨w.heap.size,0,none⟩ _).setCell ⟨w.heap.size,1,none⟩ _=Wz at *;refine bodyPost_ret ?_ rfl (fin.out _ nf.out);simp [results,Tryz.results50,go_sem,s0',s1']
   ·have eW:=w_pr g0 g32 g256 eF hf
    have he:=pr_cases hf;have fin:=fun w'=>hR2.out w' (by rw [eW];exact he)
    rw [eW]at fin;have T:=Lib.hid (T7.out.below n8);clear eW cM eF hf n8 T7 lv7 b6 oL oS rt;obtain⟨e,z⟩:=f;simp only at fin he ⊢;have q0:(e != 0)=true:=by simpa using he
    obtain⟨T2,c0,c1⟩:=flt_box T.out e z;replace T2:=Lib.hid T2;replace fin:=Lib.hid fin;replace c0:=Lib.hid c0;replace c1:=Lib.hid c1;clear he T hR hR2;go_wp2_with fail
    replace c0:=c0.out;replace c1:=c1.out;generalize w8.alloc (.cells #[.int .i64 e,.int .i64 z] 34)=W2 at *;generalize w8.heap.size=H2 at *;go_still_tail 2,(by kernel_rfl)
    repeat still_step
    change wpList _ _ _ _ _ W2.drew
    have T3:=T2.out.below (Below.refl _ _).drew;clear c0 c1 T2 q0;generalize W2.drew=W3 at *;obtain⟨nf,s0',s1'⟩:=T3.told (.int .i64 e) (.int .i64 z);have c0:=T3.c0;have c1:=T3.c1;have f0':=T3.f0;have f1':=T3.f1;replace nf:=Lib.hid nf;replace s0':=Lib.hid s0';replace s1':=Lib.hid s1';clear T3;go_wp2_with fail
    replace s0':=s0'.out;replace s1':=s1'.out;clear c0 c1 f0' f1';generalize(W3.setCell ⟨w.heap.size,0,none⟩ _).setCell ⟨w.heap.size,1,none⟩ _=Wz at *;refine bodyPost_ret ?_ rfl (fin.out _ nf.out);simp [results,Tryz.results50,go_sem,s0',s1']
theorem build_calls(ws:List Wr)(ps:List Pr)(vw vp:Value)(w:World)(hw:RdW w vw ws)(hp:RdPr w vp ps)(hgw:∀x∈ws,GoodW x)(hgp:∀x∈ps,GoodR x)(hl:ws.length≤maxLen)(hl2:ps.length≤maxLen)(R:Ending→World→Prop)
 (hR:Hid (∀v' w',wrongS ws ps=(0,0)→LatP w' v' (nms ws) (leqF ws ps)→Below w.heap.size w w'→R (.returned (.tuple #[v',.agg #[.int .i64 0,.int .i64 0]])) w'))
 (hR2:Hid (∀w',(wrongS ws ps).1≠0→Below w.heap.size w w'→R (.returned (.tuple #[.pointer none,.agg #[.int .i64 (wrongS ws ps).1,.int .i64 (wrongS ws ps).2]])) w')):Calls Tryz.prog 50 #[vw,vp] w R :=
build0_calls ws ps vw vp w hw hp hgw hgp R hR hR2
def seenS(F:Nat→Nat→Bool)(n:Nat)(a:Int)(K:Nat):List Nat:=if 0≤a∧a<n then seesF F a.toNat K else[]
def fldS(J:Nat→Nat→Nat):Nat→Nat
| 0=>0
| k+1=>J (fldS J k) k
theorem fld_lt{n:Nat}{J:Nat→Nat→Nat}(h0:0<n)(hJ:∀a b,a<n→b<n→J a b<n):∀k,k≤n→fldS J k<n
| 0,_=>h0
| k+1,h=>hJ _ _ (fld_lt h0 hJ k (by omega)) h
theorem fld_top{n:Nat}{F:Nat→Nat→Bool}(h:Latt n F):∀k,k≤n→∀a,a<k→F a (fldS (jn n F) k)=true
| 0,_,a,ha=>by omega
| k+1,hk,a,ha=>by
 have l1:=fld_lt h.pos (fun a b=>h.jn_lt) k (by omega);obtain⟨j0,j1,j2,-⟩:=h.jn_best l1 (show k<n by omega);rcases Nat.eq_or_lt_of_le (Nat.le_of_lt_succ ha)with e|q
 ·subst e;exact j2
 ·exact h.ord.trans _ _ _ (by omega) l1 j0 (fld_top h k (by omega) a q) j1
theorem latfoldM_calls(nm:List ByteArray)(p:Nat)(w:World)(h:LevP w p nm)(J:Nat→Nat→Nat)(h0:0<nm.length)(hJ:∀a b,a<nm.length→b<nm.length→J a b<nm.length)
  (hN:Hid (∀(a b:Nat),a<nm.length→b<nm.length→∀R:Ending→World→Prop,Hid (R (.returned (.int .i64 (J a b:Nat))) w)→Calls Tryz.prog 68 #[.pointer (some ⟨p,0,none⟩),.int .i64 (a:Nat),.int .i64 (b:Nat)] w R)) (R:Ending→World→Prop)
  (hR:Hid (R (.returned (.int .i64 (fldS J nm.length:Nat))) w)):Calls Tryz.prog 67 #[.pointer (some ⟨p,0,none⟩),.func (.func 68) #[.pointer (some ⟨p,0,none⟩)] #[]] w R:=by
 have cL:=Lib.hid fun R hR=>latlenx_calls nm p w h R hR
 have hlt:nm.length≤32:=by obtain⟨v1,v2,-,-,-,-,-,-,h6⟩:=h;exact h6
 have hF:=Lib.hid fun k hk=>fld_lt h0 hJ k hk
 have hS:=Lib.hid fun k=>show fldS J (k+1)=J (fldS J k) k from rfl
 clear h hJ;generalize nm.length=n at *;have q0:((n:Int)==0)=false:=by simp;omega
 replace q0:=Lib.hid q0;go_enter Tryz.func67,Tryz.ntmps67
 go_wp2_with fail
 refine cL.out _ (Lib.hid ?_);replace q0:=q0.out;go_wp2_with fail
 refine cL.out _ (Lib.hid ?_);replace q0:=Lib.hid q0;go_wp2_with fail
 go_loopg [5,12] n (fun g s i wr=>∃K:Nat,s=.int .i64 (fldS J K:Nat)∧i=.int .i64 K∧K+g=n∧wr=w)
 case atStart=>exact⟨0,rfl,rfl,by omega,rfl⟩
 case round =>
  obtain⟨K,rfl,rfl,c1,rfl⟩:=hrel
  by_cases hK:K<n
  ·have cN:=Lib.hid (hN.out (fldS J K) K (hF.out K (by omega)) hK)
   have e:=Lib.hid (hS.out K);generalize J (fldS J K) K=z at *;generalize fldS J K=y at *;clear cL hF hS;go_wp2_with fail
   refine cN.out _ (Lib.hid ?_);go_wp2_with fail
   go_roundg (gk-1)
   case measure=>omega
   case rel=>exact⟨K+1,by rw [e.out],by go_num,by omega,rfl⟩
  ·obtain rfl:K=n:=by omega
   clear cL hF hS;go_wp2_with fail
   exact hR.out
theorem latbottomx_calls(nm:List ByteArray)(F:Nat→Nat→Bool)(v:Value)(w:World)(h:LatP w v nm F)(R:Ending→World→Prop)(hR:Hid (∀(t:Nat),t<nm.length→(∀a,a<nm.length→F t a=true)→R (.returned (.int .i64 t)) w)):Calls Tryz.prog 25 #[v] w R:=by
 have hL:=h.latt.1.flip;have cJ:=Lib.hid fun(a b:Nat) (ha:a<nm.length) (hb:b<nm.length) (R:Ending→World→Prop) (hR:Hid (R (.returned (.int .i64 (jn nm.length (flp F) a b:Nat))) w))=>latmeetx_calls nm F v w h a b R (by rw [if_pos ⟨by omega,by omega,by omega,by omega⟩,Int.toNat_natCast,Int.toNat_natCast,hL.jn_eq ha hb];exact hR)
 obtain⟨p,rfl,hv,-⟩:=h;have cF:=Lib.hid fun R hR=>latfoldM_calls nm p w hv (jn nm.length (flp F)) hL.pos (fun a b=>hL.jn_lt) cJ R hR
 have fin:=Lib.hid (hR.out _ (fld_lt hL.pos (fun a b=>hL.jn_lt) nm.length (Nat.le_refl _)) (fld_top hL nm.length (Nat.le_refl _)));clear hv hL cJ;generalize fldS (jn nm.length (flp F)) nm.length=t at *;go_enter Tryz.func25,Tryz.ntmps25
 go_wp2_with fail
 refine cF.out _ (Lib.hid ?_);go_wp2_with fail
 exact fin.out
section
variable (nm:List ByteArray) (F:Nat→Nat→Bool) (v:Value) (w:World) (h:LatP w v nm F) (R:Ending→World→Prop)
include h
theorem latfind_calls(s:ByteArray)(hs:s.size≤maxLen)(hR:Hid (∀w',Below w.heap.size w w'→R (.returned (.tuple #[.int .i64 (if findS nm s<0 then 0 else findS nm s),.bool (decide (0≤findS nm s))])) w')):Calls Tryz.prog 144 #[v,.string s] w R:=by
 obtain⟨p,rfl,hv,-⟩:=h;refine latfindx_calls nm p w hv s R (Lib.hid fun nq=>?_);have:=hR.out _ (below_drewN (Below.refl _ _) nq)
 by_cases q:findS nm s<0
 ·rw [if_pos q,decide_eq_false (by omega)]at this
  rw [fin_no q];exact this
 ·rw [if_neg q,decide_eq_true (by omega)]at this
  rw [fin_yes q];exact this
end
end Lat
namespace Lab
open Go.RowKit Go.Lib Rel Nam Lat
section
variable {n:Nat} {F:Nat→Nat→Bool}
theorem lub_nil(h:Latt n F){t:Nat}(ht:t<n)(hb:∀a,a<n→F t a=true):lubN n F []=t:=by
 have:=lub_is h (l:=[]) ht (lub_iff.2 ⟨rfl,fun d hd _=>hb d hd⟩);unfold lubN;rw [this];rfl
theorem lub_snoc(h:Latt n F){l:List Nat}(hl:∀a∈l,a<n){a:Nat}(ha:a<n):lubN n F (l++[a])=jn n F (lubN n F l) a:=by
 obtain⟨-,h1,h2,h3⟩:=lub_nat h hl;obtain⟨j0,j1,j2,j3⟩:=h.jn_best h1 ha
 have e:=lub_is h (l:=l++[a]) j0 (lub_iff.2 ⟨by
  rw [over_snoc,Bool.and_eq_true];exact⟨over_iff.2 fun x hx=>h.ord.trans _ _ _ (hl x hx) h1 j0 (over_iff.1 h2 x hx) j1,j2⟩,fun d hd ho=>by
  rw [over_snoc,Bool.and_eq_true]at ho;exact j3 d hd (h3 d hd ho.1) ho.2⟩)
 have e2:lubN n F (l++[a])=(lubZ n F (l++[a])).toNat:=rfl;rw [e2,e];rfl
theorem lub_step(h:Latt n F){xs:List Int}{K:Nat}(hK:K<xs.length):lubN n F (lvS n (xs.take (K+1)))=if 0≤zN xs K∧zN xs K<n then jn n F (lubN n F (lvS n (xs.take K))) (zN xs K).toNat else lubN n F (lvS n (xs.take K)):=by
 rw [lv_take hK]
 split
 ·exact lub_snoc h lvS_lt (by omega)
 ·rw [List.append_nil]
end
theorem labislev_calls(nm:List ByteArray)(F:Nat→Nat→Bool)(v:Value)(w:World)(h:LatP w v nm F)(a:Int)(b:Bool)(hb:b=decide (0≤a∧a<nm.length))(R:Ending→World→Prop)(hR:Hid (R (.returned (.bool b)) w)):Calls Tryz.prog 219 #[v,.int .i64 a] w R:=by
 obtain⟨p,rfl,hv,-⟩:=h;have cL:=Lib.hid fun R hR=>latlenx_calls nm p w hv R hR
 clear hv
 by_cases h0:0≤a
 ·by_cases h1:a<nm.length
  ·obtain rfl:b=true:=by rw [hb];exact decide_eq_true ⟨h0,h1⟩
   clear hb;go_enter Tryz.func219,Tryz.ntmps219
   go_wp2_with fail
   refine cL.out _ (Lib.hid ?_);go_wp2_with fail
   exact hR.out
  ·obtain rfl:b=false:=by rw [hb];exact decide_eq_false (fun h=>h1 h.2)
   clear hb;go_enter Tryz.func219,Tryz.ntmps219
   go_wp2_with fail
   refine cL.out _ (Lib.hid ?_);go_wp2_with fail
   exact retB hR.out (decide_eq_false (by omega)).symm
 ·obtain rfl:b=false:=by rw [hb];exact decide_eq_false (fun h=>h0 h.1)
  clear hb;go_enter Tryz.func219,Tryz.ntmps219
  go_wp2_with fail
  exact hR.out
theorem labjoin_calls(nm:List ByteArray)(F:Nat→Nat→Bool)(v:Value)(w:World)(h:LatP w v nm F)(xs:List Int)(vx:Value)(hx:RdZ w vx xs)(hxl:xs.length≤1000000)(R:Ending→World→Prop)
  (hR:Hid (R (.returned (.int .i64 (lubN nm.length F (lvS nm.length xs):Nat))) w)):Calls Tryz.prog 207 #[v,vx] w R:=by
 obtain⟨hL,h32⟩:=h.latt;have cB:=Lib.hid fun R hR=>latbottomx_calls nm F v w h R hR
 have cI:=Lib.hid fun a b hb R hR=>labislev_calls nm F v w h a b hb R hR
 have cJ:=Lib.hid fun(a b:Nat) (ha:a<nm.length) (hb:b<nm.length) (R:Ending→World→Prop) (hR:Hid (R (.returned (.int .i64 (jn nm.length F a b:Nat))) w))=>latjoinx_calls nm F v w h a b R (by rw [if_pos ⟨by omega,by omega,by omega,by omega⟩,Int.toNat_natCast,Int.toNat_natCast,hL.jn_eq ha hb];exact hR)
 have h0:=Lib.hid fun t (ht:t<nm.length) hb=>lub_nil hL ht hb
 have hs:=Lib.hid fun K (hK:K<xs.length)=>lub_step (n:=nm.length) (F:=F) hL hK
 have hlt:=Lib.hid fun K=>(lub_nat hL (lvS_lt (n:=nm.length) (xs:=xs.take K))).2.1
 have hz:lvS nm.length (xs.take 0)=[]:=rfl;obtain⟨p,rfl⟩:=h.ptr;obtain⟨A,c,rfl,-,hr⟩:=hx.op;replace hr:=Lib.hid hr;obtain⟨Z,hZ⟩:∃Z:Nat→Nat,Z=fun K=>lubN nm.length F (lvS nm.length (xs.take K)):=⟨_,rfl⟩
 have hs2:=Lib.hid fun K (hK:K<xs.length)=>show Z (K+1)=if 0≤zN xs K∧zN xs K<nm.length then jn nm.length F (Z K) (zN xs K).toNat else Z K by rw [hZ];exact hs.out K hK
 have hlt2:=Lib.hid fun K=>show Z K<nm.length by rw [hZ];exact hlt.out K
 have h02:=Lib.hid fun t (ht:t<nm.length) hb=>show Z 0=t by rw [hZ];exact h0.out t ht hb
 have hfin:lubN nm.length F (lvS nm.length xs)=Z xs.length:=by rw [hZ];simp only[List.take_length]
 rw [hfin]at hR;clear h hx hL h0 hs hlt hz hZ hfin;generalize nm.length=n at *;go_enter Tryz.func207,Tryz.ntmps207
 go_wp2_with fail
 refine cB.out _ (Lib.hid fun t ht hb=>?_);have e0:=Lib.hid (h02.out t ht hb);clear hb h02 cB;go_wp2_with fail
 go_loopg [5,12] xs.length (fun g s i wr=>∃K:Nat,s=.int .i64 (Z K:Nat)∧i=.int .i64 K∧K+g=xs.length∧wr=w)
 case atStart=>exact⟨0,by rw [e0.out],rfl,by omega,rfl⟩
 case round =>
  clear e0;obtain⟨K,rfl,rfl,c1,rfl⟩:=hrel
  by_cases hK:K<xs.length
  ·obtain⟨g,o,rfl,hg,hca⟩:=hr.out (by omega)
   have x0:=hca K hK;have h1:=hs2.out K hK;have h2:=hlt2.out K;have i0:(0:Int)≤(K:Int):=by omega
   have i1:(K:Int)<(xs.length:Int):=by omega
   clear hca;generalize zN xs K=x at *
   by_cases q:0≤x∧x<n
   ·rw [if_pos q]at h1
    have cI2:=Lib.hid (cI.out x true (decide_eq_true q).symm);obtain⟨a,rfl⟩:∃a:Nat,x=a:=⟨x.toNat,by omega⟩;rw [Int.toNat_natCast]at h1;have cJ2:=Lib.hid (cJ.out (Z K) a h2 (by omega));replace h1:=Lib.hid h1;generalize jn n F (Z K) a=y at *;generalize Z K=z at *;clear q cJ cI hs2 hlt2;go_wp2_with fail
    refine cI2.out _ (Lib.hid ?_);go_wp2_with fail
    refine cJ2.out _ (Lib.hid ?_);go_wp2_with fail
    go_roundg (gk-1)
    case measure=>omega
    case rel=>exact⟨K+1,by rw [h1.out],by go_num,by omega,rfl⟩
   ·rw [if_neg q]at h1
    have cI2:=Lib.hid (cI.out x false (decide_eq_false q).symm);replace h1:=Lib.hid h1;clear q cJ cI hs2 hlt2;go_wp2_with fail
    refine cI2.out _ (Lib.hid ?_);go_wp2_with fail
    go_roundg (gk-1)
    case measure=>omega
    case rel=>exact⟨K+1,by rw [h1.out],by go_num,by omega,rfl⟩
  ·obtain rfl:K=xs.length:=by omega
   clear cI cJ hs2 hlt2;go_wp2_with fail
   exact hR.out
end Lab
end Go.Proofs.YtncckdaflellnaaGreat
