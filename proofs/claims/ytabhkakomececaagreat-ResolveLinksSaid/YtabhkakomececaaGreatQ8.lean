import Derived.Test.YtabhkakomececaaGreatQ7
import Derived.Test.YtabhkakomececaaGreatQ2
set_option linter.all false
set_option maxRecDepth 100000
set_option maxHeartbeats 4000000
namespace Go.Proofs.YtabhkakomececaaGreat.Lat
open Go.RowKit Go.Lib Rel Nam
theorem leastF_congr'{p q:Nat→Bool}:∀(k i:Nat),(∀j,j<i+k→p j=q j)→leastF p k i=leastF q k i
| 0,i,h=>rfl
| k+1,i,h=>by rw [leastF,leastF,h i (by omega),leastF_congr' k (i+1) (fun j hj=>h j (by omega))]
theorem join_congr{n:Nat}{F G:Nat→Nat→Bool}(h:∀a b,b<n→F a b=G a b)(a b:Nat):joinS n F a b=joinS n G a b:=by
 refine leastF_congr' n 0 fun c hc=>?_
 rw [Bool.eq_iff_iff,best_iff,best_iff];rw [Nat.zero_add]at hc
 constructor
 ·rintro⟨h1,h2,h3⟩
  exact⟨by rw [←h a c hc];exact h1,by rw [←h b c hc];exact h2,fun d hd q1 q2=>by rw [←h c d hd];exact h3 d hd (by rw [h a d hd];exact q1) (by rw [h b d hd];exact q2)⟩
 ·rintro⟨h1,h2,h3⟩
  exact⟨by rw [h a c hc];exact h1,by rw [h b c hc];exact h2,fun d hd q1 q2=>by rw [h c d hd];exact h3 d hd (by rw [←h a d hd];exact q1) (by rw [←h b d hd];exact q2)⟩
theorem join_turn{n:Nat}(f:Nat→List Bool)(a b:Nat):joinS n (fun a b=>on (turnR n f a) b) a b=joinS n (flp fun a b=>on (f a) b) a b :=
join_congr (fun a b hb=>turn_on f a hb) a b
theorem loop_or{n:Nat}{f:Nat→Nat→Bool}:loopS n f=-1∨∃m:Nat,m<n∧loopS n f=m:=by
 rcases least_cases n (inLoop n f)with⟨h,-⟩|⟨m,h,-,-,h2⟩
 ·exact .inl h
 ·exact .inr ⟨m,h,h2⟩
section
variable {ws:List Wr} {ps:List Pr}
theorem w_none(h:ws.length=0):wrongS ws ps=(15,0):=by unfold wrongS;rw [if_pos h]
theorem w_many(h:32<ws.length):wrongS ws ps=(8,(wN ws 32).2):=by unfold wrongS;rw [if_neg (by omega),if_pos h]
theorem w_pairs(h0:0<ws.length)(h1:ws.length≤32)(h:256<ps.length):wrongS ws ps=(8,(pN ps 256).1.2):=by unfold wrongS;rw [if_neg (by omega),if_neg (by omega),if_pos h]
theorem w_lv(h0:0<ws.length)(h1:ws.length≤32)(h2:ps.length≤256){f:Int×Int}(h:firF (lvAt ws) ws.length 0=some f):wrongS ws ps=f:=by
 unfold wrongS;rw [if_neg (by omega),if_neg (by omega),if_neg (by omega),h]
theorem w_pr(h0:0<ws.length)(h1:ws.length≤32)(h2:ps.length≤256)(h3:firF (lvAt ws) ws.length 0=none){f:Int×Int}(h:firF (prAt ws ps) ps.length 0=some f):wrongS ws ps=f:=by
 unfold wrongS;rw [if_neg (by omega),if_neg (by omega),if_neg (by omega),h3];simp only[h]
theorem w_loop(h0:0<ws.length)(h1:ws.length≤32)(h2:ps.length≤256)(h3:firF (lvAt ws) ws.length 0=none)(h4:firF (prAt ws ps) ps.length 0=none){m:Nat}(h:loopS ws.length (leqF ws ps)=m):wrongS ws ps=(11,(wN ws m).2):=by
 unfold wrongS;rw [if_neg (by omega),if_neg (by omega),if_neg (by omega),h3];simp only[h4,h];rw [if_pos (by omega)];simp
theorem w_bn(h0:0<ws.length)(h1:ws.length≤32)(h2:ps.length≤256)(h3:firF (lvAt ws) ws.length 0=none)(h4:firF (prAt ws ps) ps.length 0=none)(h5:loopS ws.length (leqF ws ps)=-1){f:Int×Int}(h:firF (bnAt ws (leqF ws ps)) ws.length 0=some f):wrongS ws ps=f:=by
 unfold wrongS;rw [if_neg (by omega),if_neg (by omega),if_neg (by omega),h3];simp only[h4,h5];rw [if_neg (by omega),h]
theorem w_ok(h0:0<ws.length)(h1:ws.length≤32)(h2:ps.length≤256)(h3:firF (lvAt ws) ws.length 0=none)(h4:firF (prAt ws ps) ps.length 0=none)(h5:loopS ws.length (leqF ws ps)=-1)(h:firF (bnAt ws (leqF ws ps)) ws.length 0=none):wrongS ws ps=(0,0):=by
 unfold wrongS;rw [if_neg (by omega),if_neg (by omega),if_neg (by omega),h3];simp only[h4,h5];rw [if_neg (by omega),h]
end
theorem st_fault(H:Nat)(w1:World)(f z:Value){x y:Value}(r3:w1.cell? ⟨H,0,none⟩=some x)(r4:w1.cell? ⟨H,1,none⟩=some y) :
 ((w1.setCell ⟨H,0,none⟩ f).setCell ⟨H,1,none⟩ z).cell? ⟨H,0,none⟩=some f∧((w1.setCell ⟨H,0,none⟩ f).setCell ⟨H,1,none⟩ z).cell? ⟨H,1,none⟩=some z :=
⟨(World.cell?_setCell_other _ _ _ _ (by simp)).trans (World.cell?_setCell_same _ _ _ r3),World.cell?_setCell_same _ _ _ ((World.cell?_setCell_other _ _ _ _ (by simp)).trans r4)⟩
theorem fault_new(w:World):(w.alloc (.cells #[.int .i64 0,.int .i64 0] 26)).cell? ⟨w.heap.size,0,none⟩=some (.int .i64 0)∧(w.alloc (.cells #[.int .i64 0,.int .i64 0] 26)).cell? ⟨w.heap.size,1,none⟩=some (.int .i64 0) ∧
  (w.alloc (.cells #[.int .i64 0,.int .i64 0] 26)).frozen? ⟨w.heap.size,0,none⟩=false∧(w.alloc (.cells #[.int .i64 0,.int .i64 0] 26)).frozen? ⟨w.heap.size,1,none⟩=false:=by
 have q1:=heap_alloc_new w (.cells #[.int .i64 0,.int .i64 0] 26);exact⟨by rw [Lib.cell_of_heap q1];rfl,by rw [Lib.cell_of_heap q1];rfl,Lib.frozen_of_heap q1 0,Lib.frozen_of_heap q1 1⟩
theorem refwrong_calls(ws:List Wr)(ps:List Pr)(vw vp:Value)(w:World)(hw:RdW w vw ws)(hp:RdPr w vp ps)(hgw:∀x∈ws,GoodW x)(hl:ws.length≤1000000)(hl2:ps.length≤1000000)(R:Ending→World→Prop)
  (hR:Hid (∀w',Below w.heap.size w w'→R (.returned (.agg #[.int .i64 (wrongS ws ps).1,.int .i64 (wrongS ws ps).2])) w')):Calls Tryz.prog 95 #[vw,vp] w R:=by
 obtain⟨Aw,cw,rfl,hcw,hrw⟩:=hw.op;obtain⟨Ap,cp,rfl,hcp,hrp⟩:=hp.op;have nb0:=(Below.refl w.heap.size w).alloc (Nat.le_refl _) (.cells #[.int .i64 0,.int .i64 0] 26);obtain⟨c0,c1,f0,f1⟩:=fault_new w;have z0:(w.alloc (.cells #[.int .i64 0,.int .i64 0] 26)).heap.size=w.heap.size+1:=by simp
 have hw0:=hw.below nb0;have hp0:=hp.below nb0;have cF:=Lib.hid fun s R hR=>reffind11_calls ws s _ _ hw0 hl R hR
 have cR:=Lib.hid fun(W:World) s hs R hR=>refright_calls s hs W R hR
 have hgood:=Lib.hid fun i (h:i<ws.length)=>(hgw _ (wN_mem h)).1
 have kw:0<ws.length→∃g o,Aw=some ⟨g,o,none⟩∧g<w.heap.size∧∀i,i<ws.length→(w.alloc (.cells #[.int .i64 0,.int .i64 0] 26)).cell? ⟨g,o+i*2,none⟩=some (.string (wN ws i).1)∧(w.alloc (.cells #[.int .i64 0,.int .i64 0] 26)).cell? ⟨g,o+i*2+1,none⟩=some (.int .i64 (wN ws i).2):=fun h=>by
  obtain⟨g,o,e,hg,hc⟩:=hrw h;exact⟨g,o,e,hg,fun i hi=>⟨(nb0.cell (p:=⟨g,o+i*2,none⟩) hg).trans (hc i hi).1,(nb0.cell (p:=⟨g,o+i*2+1,none⟩) hg).trans (hc i hi).2⟩⟩
 have kp:0<ps.length→∃g o,Ap=some ⟨g,o,none⟩∧g<w.heap.size∧∀i,i<ps.length→(w.alloc (.cells #[.int .i64 0,.int .i64 0] 26)).cell? ⟨g,o+i*4,none⟩=some (.string (pN ps i).1.1)∧(w.alloc (.cells #[.int .i64 0,.int .i64 0] 26)).cell? ⟨g,o+i*4+1,none⟩=some (.int .i64 (pN ps i).1.2) ∧
   (w.alloc (.cells #[.int .i64 0,.int .i64 0] 26)).cell? ⟨g,o+i*4+2,none⟩=some (.string (pN ps i).2.1)∧(w.alloc (.cells #[.int .i64 0,.int .i64 0] 26)).cell? ⟨g,o+i*4+3,none⟩=some (.int .i64 (pN ps i).2.2):=fun h=>by
  obtain⟨g,o,e,hg,hc⟩:=hrp h;exact⟨g,o,e,hg,fun i hi=>⟨(nb0.cell (p:=⟨g,o+i*4,none⟩) hg).trans (hc i hi).1,(nb0.cell (p:=⟨g,o+i*4+1,none⟩) hg).trans (hc i hi).2.1,(nb0.cell (p:=⟨g,o+i*4+2,none⟩) hg).trans (hc i hi).2.2.1,(nb0.cell (p:=⟨g,o+i*4+3,none⟩) hg).trans (hc i hi).2.2.2⟩⟩
 replace kw:=Lib.hid kw;replace kp:=Lib.hid kp;replace nb0:=Lib.hid nb0;replace hw0:=Lib.hid hw0;replace hp0:=Lib.hid hp0;clear hw hp hrw hrp hgw;go_enter Tryz.func95,Tryz.ntmps95
 go_upto_region 1 with fail
 generalize w.alloc (.cells #[.int .i64 0,.int .i64 0] 26)=W0 at *;generalize hHH:w.heap.size=H at *;replace hHH:=Lib.hid hHH;have hH0:H<W0.heap.size:=by omega
 replace z0:=Lib.hid z0
 by_cases h0:ws.length=0
 ·rw [w_none h0]at hR
  obtain⟨s0,s1⟩:=st_fault H W0 (.int .i64 15) (.int .i64 0) c0 c1;have nf:=(nb0.out.setCell (p:=⟨H,0,none⟩) (Nat.le_refl _) (.int .i64 15)).setCell (p:=⟨H,1,none⟩) (Nat.le_refl _) (.int .i64 0);replace nf:=Lib.hid nf;replace s0:=Lib.hid s0;replace s1:=Lib.hid s1;go_wp2_with fail
  replace s0:=s0.out;replace s1:=s1.out;clear c0 c1 f0 f1;generalize(W0.setCell ⟨H,0,none⟩ (.int .i64 15)).setCell ⟨H,1,none⟩ (.int .i64 0)=Wz at *;refine bodyPost_ret ?_ rfl (hR.out _ nf.out);simp [results,Tryz.results95,go_sem,s0,s1]
 by_cases h1:32<ws.length
 ·rw [w_many h1]at hR
  obtain⟨g,o,rfl,hg,hca⟩:=kw.out (by omega);have e1:=(hca 32 h1).2;clear hca;generalize(wN ws 32).2=z at *;have i1:(32:Int)<(ws.length:Int):=by omega
  obtain⟨s0,s1⟩:=st_fault H W0 (.int .i64 8) (.int .i64 z) c0 c1;have nf:=(nb0.out.setCell (p:=⟨H,0,none⟩) (Nat.le_refl _) (.int .i64 8)).setCell (p:=⟨H,1,none⟩) (Nat.le_refl _) (.int .i64 z);replace nf:=Lib.hid nf;replace s0:=Lib.hid s0;replace s1:=Lib.hid s1;go_wp2_with fail
  replace s0:=s0.out;replace s1:=s1.out;clear c0 c1 f0 f1;generalize(W0.setCell ⟨H,0,none⟩ (.int .i64 8)).setCell ⟨H,1,none⟩ (.int .i64 z)=Wz at *;refine bodyPost_ret ?_ rfl (hR.out _ nf.out);simp [results,Tryz.results95,go_sem,s0,s1]
 by_cases h2:256<ps.length
 ·rw [w_pairs (by omega) (by omega) h2]at hR
  obtain⟨g,o,rfl,hg,hca⟩:=kp.out (by omega);have e1:=(hca 256 h2).2.1;clear hca;generalize(pN ps 256).1.2=z at *;have i1:(256:Int)<(ps.length:Int):=by omega
  obtain⟨s0,s1⟩:=st_fault H W0 (.int .i64 8) (.int .i64 z) c0 c1;have nf:=(nb0.out.setCell (p:=⟨H,0,none⟩) (Nat.le_refl _) (.int .i64 8)).setCell (p:=⟨H,1,none⟩) (Nat.le_refl _) (.int .i64 z);replace nf:=Lib.hid nf;replace s0:=Lib.hid s0;replace s1:=Lib.hid s1;go_wp2_with fail
  replace s0:=s0.out;replace s1:=s1.out;clear c0 c1 f0 f1;generalize(W0.setCell ⟨H,0,none⟩ (.int .i64 8)).setCell ⟨H,1,none⟩ (.int .i64 z)=Wz at *;refine bodyPost_ret ?_ rfl (hR.out _ nf.out);simp [results,Tryz.results95,go_sem,s0,s1]
 have hlv:=fun f h=>w_lv (ws:=ws) (ps:=ps) (by omega) (by omega) (by omega) (f:=f) h
 replace hlv:=Lib.hid hlv;have t1:decide (32<(ws.length:Int))=false:=decide_eq_false (by omega);have t0:((ws.length:Int)==0)=false:=by rw [beq_eq_false_iff_ne];omega
 have t2:decide (256<(ps.length:Int))=false:=decide_eq_false (by omega);go_wp2_with fail
 go_loopg [5] ws.length (fun g i wr=>∃K:Nat,i=.int .i64 K∧K+g=ws.length∧wr=W0∧Hid (firF (lvAt ws) g K=firF (lvAt ws) ws.length 0))
 case atStart=>exact⟨0,rfl,by omega,rfl,Lib.hid rfl⟩
 case round =>
  obtain⟨K,rfl,d1,rfl,hk⟩:=hrel
  by_cases hK:K<ws.length
  ·obtain⟨kI,rfl⟩:∃k,gk=k+1:=⟨gk-1,by omega⟩
   obtain⟨g,o,rfl,hg,hca⟩:=kw.out (by omega);obtain⟨e0,e1⟩:=hca K hK;have hk2:=hk.out;rw [firF]at hk2;have hsz:=hgood.out K hK;have hi0:(0:Int)≤(K:Int):=by omega
   have hi1:(K:Int)<(ws.length:Int):=by omega
   unfold lvAt at hk2;clear hca hk;generalize(wN ws K).1=s at *;generalize(wN ws K).2=z at *;have cR2:=cR.out wr s hsz;have cF2:=cF.out s;cases hr:rightS s
   ·rw [hr]at hk2 cR2
    rw [if_pos rfl]at hk2;rw [hlv.out _ hk2.symm]at hR;replace cR2:=Lib.hid cR2;replace cF2:=Lib.hid cF2;clear hk2 hr;obtain⟨s0,s1⟩:=st_fault H wr (.int .i64 9) (.int .i64 z) c0 c1;have nf:=(nb0.out.setCell (p:=⟨H,0,none⟩) (Nat.le_refl _) (.int .i64 9)).setCell (p:=⟨H,1,none⟩) (Nat.le_refl _) (.int .i64 z);replace nf:=Lib.hid nf;replace s0:=Lib.hid s0;replace s1:=Lib.hid s1;go_wp2_with fail
    refine cR2.out _ (Lib.hid ?_);go_wp2_with fail
    replace s0:=s0.out;replace s1:=s1.out;clear c0 c1 f0 f1;generalize(wr.setCell ⟨H,0,none⟩ (.int .i64 9)).setCell ⟨H,1,none⟩ (.int .i64 z)=Wz at *;refine bodyPost_ret ?_ rfl (hR.out _ nf.out);simp [results,Tryz.results95,go_sem,s0,s1]
   ·rw [hr]at hk2 cR2
    rw [if_neg (by simp)]at hk2
    by_cases hf:findS (nms ws) s<(K:Int)
    ·rw [if_pos hf]at hk2
     rw [hlv.out _ hk2.symm]at hR;replace cR2:=Lib.hid cR2;replace cF2:=Lib.hid cF2;clear hk2 hr;generalize findS (nms ws) s=y at *;obtain⟨s0,s1⟩:=st_fault H wr (.int .i64 10) (.int .i64 z) c0 c1;have nf:=(nb0.out.setCell (p:=⟨H,0,none⟩) (Nat.le_refl _) (.int .i64 10)).setCell (p:=⟨H,1,none⟩) (Nat.le_refl _) (.int .i64 z);replace nf:=Lib.hid nf;replace s0:=Lib.hid s0;replace s1:=Lib.hid s1;go_wp2_with fail
     refine cR2.out _ (Lib.hid ?_);go_wp2_with fail
     refine cF2.out _ (Lib.hid ?_);go_wp2_with fail
     replace s0:=s0.out;replace s1:=s1.out;clear c0 c1 f0 f1;generalize(wr.setCell ⟨H,0,none⟩ (.int .i64 10)).setCell ⟨H,1,none⟩ (.int .i64 z)=Wz at *;refine bodyPost_ret ?_ rfl (hR.out _ nf.out);simp [results,Tryz.results95,go_sem,s0,s1]
    ·rw [if_neg hf]at hk2
     replace hk2:=Lib.hid hk2;replace cR2:=Lib.hid cR2;replace cF2:=Lib.hid cF2;clear hr;generalize findS (nms ws) s=y at *;go_wp2_with fail
     refine cR2.out _ (Lib.hid ?_);go_wp2_with fail
     refine cF2.out _ (Lib.hid ?_);go_wp2_with fail
     go_roundg kI
     case measure=>omega
     case rel=>exact⟨K+1,by go_num,by omega,rfl,hk2⟩
  ·obtain rfl:gk=0:=by omega
   have h3:=hk.out;rw [firF]at h3;replace h3:=h3.symm;clear hk hlv cR hgood;have hpr:=fun f h=>w_pr (ws:=ws) (ps:=ps) (by omega) (by omega) (by omega) h3 (f:=f) h
   replace hpr:=Lib.hid hpr;replace h3:=Lib.hid h3;go_wp2_with fail
   go_loopg [6] ps.length (fun g i w2=>∃K:Nat,i=.int .i64 K∧K+g=ps.length∧w2=wr∧Hid (firF (prAt ws ps) g K=firF (prAt ws ps) ps.length 0))
   case atStart=>exact⟨0,rfl,by omega,rfl,Lib.hid rfl⟩
   case round =>
    obtain⟨I,rfl,d2,rfl,hk⟩:=hrel
    by_cases hI:I<ps.length
    ·obtain⟨kI,rfl⟩:∃k,gk=k+1:=⟨gk-1,by omega⟩
     obtain⟨g,o,rfl,hg,hca⟩:=kp.out (by omega);obtain⟨e0,e1,e2,e3⟩:=hca I hI;have hk2:=hk.out;rw [firF]at hk2;have hi0:(0:Int)≤(I:Int):=by omega
     have hi1:(I:Int)<(ps.length:Int):=by omega
     unfold prAt at hk2;clear hca hk;generalize pN ps I=x at *;obtain⟨⟨s,z⟩,⟨s',z'⟩⟩:=x;simp only at e0 e1 e2 e3 hk2;have cF2:=cF.out s;have cF3:=cF.out s'
     by_cases hf:findS (nms ws) s<0
     ·rw [if_pos hf]at hk2
      rw [hpr.out _ hk2.symm]at hR;replace cF2:=Lib.hid cF2;replace cF3:=Lib.hid cF3;clear hk2;generalize findS (nms ws) s=y at *;obtain⟨s0,s1⟩:=st_fault H wr (.int .i64 17) (.int .i64 z) c0 c1;have nf:=(nb0.out.setCell (p:=⟨H,0,none⟩) (Nat.le_refl _) (.int .i64 17)).setCell (p:=⟨H,1,none⟩) (Nat.le_refl _) (.int .i64 z);replace nf:=Lib.hid nf;replace s0:=Lib.hid s0;replace s1:=Lib.hid s1;go_wp2_with fail
      refine cF2.out _ (Lib.hid ?_);go_wp2_with fail
      replace s0:=s0.out;replace s1:=s1.out;clear c0 c1 f0 f1;generalize(wr.setCell ⟨H,0,none⟩ (.int .i64 17)).setCell ⟨H,1,none⟩ (.int .i64 z)=Wz at *;refine bodyPost_ret ?_ rfl (hR.out _ nf.out);simp [results,Tryz.results95,go_sem,s0,s1]
     ·rw [if_neg hf]at hk2
      by_cases hf2:findS (nms ws) s'<0
      ·rw [if_pos hf2]at hk2
       rw [hpr.out _ hk2.symm]at hR;replace cF2:=Lib.hid cF2;replace cF3:=Lib.hid cF3;clear hk2;generalize findS (nms ws) s=y at *;generalize findS (nms ws) s'=y' at *;obtain⟨s0,s1⟩:=st_fault H wr (.int .i64 17) (.int .i64 z') c0 c1;have nf:=(nb0.out.setCell (p:=⟨H,0,none⟩) (Nat.le_refl _) (.int .i64 17)).setCell (p:=⟨H,1,none⟩) (Nat.le_refl _) (.int .i64 z');replace nf:=Lib.hid nf;replace s0:=Lib.hid s0;replace s1:=Lib.hid s1;go_wp2_with fail
       refine cF2.out _ (Lib.hid ?_);go_wp2_with fail
       refine cF3.out _ (Lib.hid ?_);go_wp2_with fail
       replace s0:=s0.out;replace s1:=s1.out;clear c0 c1 f0 f1;generalize(wr.setCell ⟨H,0,none⟩ (.int .i64 17)).setCell ⟨H,1,none⟩ (.int .i64 z')=Wz at *;refine bodyPost_ret ?_ rfl (hR.out _ nf.out);simp [results,Tryz.results95,go_sem,s0,s1]
      ·rw [if_neg hf2]at hk2
       replace hk2:=Lib.hid hk2;replace cF2:=Lib.hid cF2;replace cF3:=Lib.hid cF3;generalize findS (nms ws) s=y at *;generalize findS (nms ws) s'=y' at *;go_wp2_with fail
       refine cF2.out _ (Lib.hid ?_);go_wp2_with fail
       refine cF3.out _ (Lib.hid ?_);go_wp2_with fail
       go_roundg kI
       case measure=>omega
       case rel=>exact⟨I+1,by go_num,by omega,rfl,hk2⟩
    ·obtain rfl:gk=0:=by omega
     have h4:=hk.out;rw [firF]at h4;replace h4:=h4.symm;clear hk hpr cF d2 t0 t1 t2;have hr:=idx_right (by omega) h4;have hn64:ws.length≤64:=by omega
     have cQ:=Lib.hid fun R hR=>refleq_calls ws ps _ _ wr hw0.out hp0.out hr (by omega) R hR
     have cL:=Lib.hid fun(W:World) v h R hR=>refloop_calls ws.length (ldR ws.length (toN (idxQ ws ps))) v W h hn64 R hR
     have cT:=Lib.hid fun(W:World) v h R hR=>refturn_calls ws.length (ldR ws.length (toN (idxQ ws ps))) v W h hn64 R hR
     have cJ:=Lib.hid fun(W:World) v h a b ha hb R hR=>refjoin_calls ws.length (ldR ws.length (toN (idxQ ws ps))) v W h hn64 a b ha hb R hR
     have cK:=fun(W:World) v h a b ha hb R hR=>refjoin_calls ws.length (turnR ws.length (ldR ws.length (toN (idxQ ws ps)))) v W h hn64 a b ha hb R hR
     simp only[join_turn]at cK;replace cK:=Lib.hid cK;have hlp:=fun m h=>w_loop (ws:=ws) (ps:=ps) (by omega) (by omega) (by omega) h3.out h4 (m:=m) h
     have hbn:=fun f h5 h=>w_bn (ws:=ws) (ps:=ps) (by omega) (by omega) (by omega) h3.out h4 h5 (f:=f) h
     have hok:=fun h5 h=>w_ok (ws:=ws) (ps:=ps) (by omega) (by omega) (by omega) h3.out h4 h5 h
     replace hlp:=Lib.hid hlp;replace hbn:=Lib.hid hbn;replace hok:=Lib.hid hok;clear h3 h4 hr kp;go_wp2_with fail
     refine cQ.out _ (Lib.hid fun v1 w1 m1 n1=>?_);have c2:=(n1.cell (p:=⟨H,0,none⟩) hH0).trans c0;have c3:=(n1.cell (p:=⟨H,1,none⟩) hH0).trans c1;have f2:=(n1.frozen (p:=⟨H,0,none⟩) hH0).trans f0;have f3:=(n1.frozen (p:=⟨H,1,none⟩) hH0).trans f1;have nb1:=Lib.hid (nb0.out.trans (n1.mono (by omega)));have hH1:H<w1.heap.size:=Nat.lt_of_lt_of_le hH0 n1.size;obtain⟨A1,cc1,rfl,hcc1,-⟩:=m1.op
     have kw1:0<ws.length→∃g o,Aw=some ⟨g,o,none⟩∧g<w1.heap.size∧∀i,i<ws.length→w1.cell? ⟨g,o+i*2+1,none⟩=some (.int .i64 (wN ws i).2):=fun h=>by
      obtain⟨g,o,e,hg,hc⟩:=kw.out h;exact⟨g,o,e,by omega,fun i hi=>(n1.cell (p:=⟨g,o+i*2+1,none⟩) (by simp only;omega)).trans (hc i hi).2⟩
     replace kw1:=Lib.hid kw1;replace m1:=Lib.hid m1;clear c0 c1 f0 f1 nb0 n1 kw cQ hw0 hp0;go_wp2_with fail
     refine cL.out _ _ m1.out _ (Lib.hid ?_);rw [show(fun a b=>on (ldR ws.length (toN (idxQ ws ps)) a) b)=leqF ws ps from rfl];have hlc:=loop_or (n:=ws.length) (f:=leqF ws ps);generalize loopS ws.length (leqF ws ps)=l at *;rcases hlc with rfl|⟨m,hm,rfl⟩
     ·replace hbn:=Lib.hid fun f=>hbn.out f rfl
      replace hok:=Lib.hid (hok.out rfl);clear hlp cL;go_wp2_with fail
      refine cT.out _ _ m1.out _ (Lib.hid fun v2 w2 m2 n2=>?_);have c4:=(n2.cell (p:=⟨H,0,none⟩) hH1).trans c2;have c5:=(n2.cell (p:=⟨H,1,none⟩) hH1).trans c3;have f4:=(n2.frozen (p:=⟨H,0,none⟩) hH1).trans f2;have f5:=(n2.frozen (p:=⟨H,1,none⟩) hH1).trans f3;have nb2:=Lib.hid (nb1.out.trans (n2.mono (by omega)));have m3:=Lib.hid (m1.out.below n2);replace m2:=Lib.hid m2;obtain⟨A2,cc2,rfl,hcc2,-⟩:=m2.out.op
      have kw2:0<ws.length→∃g o,Aw=some ⟨g,o,none⟩∧g<w2.heap.size∧∀i,i<ws.length→w2.cell? ⟨g,o+i*2+1,none⟩=some (.int .i64 (wN ws i).2):=fun h=>by
       obtain⟨g,o,e,hg,hc⟩:=kw1.out h;exact⟨g,o,e,Nat.lt_of_lt_of_le hg n2.size,fun i hi=>(n2.cell (p:=⟨g,o+i*2+1,none⟩) hg).trans (hc i hi)⟩
      replace kw2:=Lib.hid kw2;clear c2 c3 f2 f3 nb1 n2 kw1 m1 cT;go_wp2_with fail
      go_loopg [10] ws.length (fun g b wq=>∃K:Nat,b=.int .i64 K∧K+g=ws.length∧wq=w2∧Hid (firF (bnAt ws (leqF ws ps)) g K=firF (bnAt ws (leqF ws ps)) ws.length 0))
      case atStart=>exact⟨0,rfl,by omega,rfl,Lib.hid rfl⟩
      case round =>
       obtain⟨B,rfl,d3,rfl,hk⟩:=hrel
       by_cases hB:B<ws.length
       ·obtain⟨kO,rfl⟩:∃k,gk=k+1:=⟨gk-1,by omega⟩
        have hk2:=hk.out;rw [firF]at hk2;unfold bnAt at hk2;replace hk2:=Lib.hid hk2;clear hk;go_wp2_with fail
        go_loopg [11] B (fun g a w3=>∃L:Nat,a=.int .i64 L∧L+g=B∧w3=wr∧Hid (∀j,j<L→noB ws.length (leqF ws ps) B j=false))
        case atStart=>exact⟨0,rfl,by omega,rfl,Lib.hid fun j h=>by omega⟩
        case round =>
         obtain⟨L,rfl,d4,rfl,hj⟩:=hrel
         by_cases hL:L<B
         ·obtain⟨g,o,rfl,hg,hca⟩:=kw2.out (by omega)
          have e1:=hca B hB;have hi0:(0:Int)≤(B:Int):=by omega
          have hi1:(B:Int)<(ws.length:Int):=by omega
          have cJ2:=Lib.hid (cJ.out _ _ m3.out L B (by omega) hB);have cK2:=Lib.hid (cK.out _ _ m2.out L B (by omega) hB);rw [show(fun a b=>on (ldR ws.length (toN (idxQ ws ps)) a) b)=leqF ws ps from rfl]at cJ2 cK2;have hno:noB ws.length (leqF ws ps) B L=(decide (joinS ws.length (leqF ws ps) L B<0)||decide (joinS ws.length (flp (leqF ws ps)) L B<0)):=rfl
          have hyes:noB ws.length (leqF ws ps) B L=true→wrongS ws ps=(12,(wN ws B).2):=fun h=>by
           have hb:bnB ws.length (leqF ws ps) B=true:=List.any_eq_true.2 ⟨L,List.mem_range.2 hL,h⟩;have:=hk2.out;rw [if_pos hb]at this;exact hbn.out _ this.symm
          have hnext:noB ws.length (leqF ws ps) B L=false→∀j,j<L+1→noB ws.length (leqF ws ps) B j=false:=fun h j hjl=>by
           rcases Nat.eq_or_lt_of_le (Nat.le_of_lt_succ hjl)with e|q
           ·subst e;exact h
           ·exact hj.out j q
          generalize(wN ws B).2=z at *;clear hca hj;generalize joinS ws.length (leqF ws ps) L B=x at *;generalize joinS ws.length (flp (leqF ws ps)) L B=y at *
          by_cases hx:x<0
          ·rw [hyes (by rw [hno,decide_eq_true hx];rfl)]at hR
           clear hno hyes hnext;obtain⟨s0,s1⟩:=st_fault H wr (.int .i64 12) (.int .i64 z) c4 c5;have nf:=(nb2.out.setCell (p:=⟨H,0,none⟩) (Nat.le_refl _) (.int .i64 12)).setCell (p:=⟨H,1,none⟩) (Nat.le_refl _) (.int .i64 z);replace nf:=Lib.hid nf;replace s0:=Lib.hid s0;replace s1:=Lib.hid s1;go_wp2_with fail
           refine cJ2.out _ (Lib.hid ?_);go_wp2_with fail
           replace s0:=s0.out;replace s1:=s1.out;clear c4 c5 f4 f5;generalize(wr.setCell ⟨H,0,none⟩ (.int .i64 12)).setCell ⟨H,1,none⟩ (.int .i64 z)=Wz at *;refine bodyPost_ret ?_ rfl (hR.out _ nf.out);simp [results,Tryz.results95,go_sem,s0,s1]
          ·by_cases hy:y<0
           ·rw [hyes (by rw [hno,decide_eq_true hy,Bool.or_true])]at hR
            clear hno hyes hnext;obtain⟨s0,s1⟩:=st_fault H wr (.int .i64 12) (.int .i64 z) c4 c5;have nf:=(nb2.out.setCell (p:=⟨H,0,none⟩) (Nat.le_refl _) (.int .i64 12)).setCell (p:=⟨H,1,none⟩) (Nat.le_refl _) (.int .i64 z);replace nf:=Lib.hid nf;replace s0:=Lib.hid s0;replace s1:=Lib.hid s1;go_wp2_with fail
            refine cJ2.out _ (Lib.hid ?_);go_wp2_with fail
            refine cK2.out _ (Lib.hid ?_);go_wp2_with fail
            replace s0:=s0.out;replace s1:=s1.out;clear c4 c5 f4 f5;generalize(wr.setCell ⟨H,0,none⟩ (.int .i64 12)).setCell ⟨H,1,none⟩ (.int .i64 z)=Wz at *;refine bodyPost_ret ?_ rfl (hR.out _ nf.out);simp [results,Tryz.results95,go_sem,s0,s1]
           ·have hn:=Lib.hid (hnext (by rw [hno,decide_eq_false hx,decide_eq_false hy];rfl))
            clear hno hyes hnext;go_wp2_with fail
            refine cJ2.out _ (Lib.hid ?_);go_wp2_with fail
            refine cK2.out _ (Lib.hid ?_);go_wp2_with fail
            go_roundg (gk-1)
            case measure=>omega
            case rel=>exact⟨L+1,by go_num,by omega,rfl,hn⟩
         ·obtain rfl:L=B:=by omega
          have hnb:¬bnB ws.length (leqF ws ps) L=true:=fun h=>by
           obtain⟨j,h1,h2⟩:=List.any_eq_true.1 h;rw [hj.out j (List.mem_range.1 h1)]at h2;cases h2
          have e:=hk2.out;rw [if_neg hnb]at e;replace e:=Lib.hid e;clear hk2 hj hnb;go_wp2_with fail
          go_roundg kO
          case measure=>omega
          case rel=>exact⟨L+1,by go_num,by omega,rfl,e⟩
       ·obtain rfl:gk=0:=by omega
        have h6:=hk.out;rw [firF]at h6;rw [hok.out h6.symm]at hR;clear hk h6 hbn cJ cK;obtain⟨s0,s1⟩:=st_fault H wr (.int .i64 0) (.int .i64 0) c4 c5;have nf:=(nb2.out.setCell (p:=⟨H,0,none⟩) (Nat.le_refl _) (.int .i64 0)).setCell (p:=⟨H,1,none⟩) (Nat.le_refl _) (.int .i64 0);replace nf:=Lib.hid nf;replace s0:=Lib.hid s0;replace s1:=Lib.hid s1;go_wp2_with fail
        replace s0:=s0.out;replace s1:=s1.out;clear c4 c5 f4 f5;generalize(wr.setCell ⟨H,0,none⟩ (.int .i64 0)).setCell ⟨H,1,none⟩ (.int .i64 0)=Wz at *;refine bodyPost_ret ?_ rfl (hR.out _ nf.out);simp [results,Tryz.results95,go_sem,s0,s1]
     ·rw [hlp.out m rfl]at hR
      obtain⟨g,o,rfl,hg,hca⟩:=kw1.out (by omega);have e1:=hca m hm;have hi0:(0:Int)≤(m:Int):=by omega
      have hi1:(m:Int)<(ws.length:Int):=by omega
      clear hca hlp hbn hok cL cT cJ cK;generalize(wN ws m).2=z at *;obtain⟨s0,s1⟩:=st_fault H w1 (.int .i64 11) (.int .i64 z) c2 c3;have nf:=(nb1.out.setCell (p:=⟨H,0,none⟩) (Nat.le_refl _) (.int .i64 11)).setCell (p:=⟨H,1,none⟩) (Nat.le_refl _) (.int .i64 z);replace nf:=Lib.hid nf;replace s0:=Lib.hid s0;replace s1:=Lib.hid s1;go_wp2_with fail
      replace s0:=s0.out;replace s1:=s1.out;clear c2 c3 f2 f3;generalize(w1.setCell ⟨H,0,none⟩ (.int .i64 11)).setCell ⟨H,1,none⟩ (.int .i64 z)=Wz at *;refine bodyPost_ret ?_ rfl (hR.out _ nf.out);simp [results,Tryz.results95,go_sem,s0,s1]
end Go.Proofs.YtabhkakomececaaGreat.Lat
