import Derived.Test.YtncckdaflellnaaGreatQ17
import Derived.Test.YtncckdaflellnaaGreatQ12
import Derived.Test.YtncckdaflellnaaGreatQ11
set_option linter.all false
set_option maxRecDepth 100000
set_option maxHeartbeats 4000000
namespace Go.Proofs.YtncckdaflellnaaGreat.Kin
open Go.RowKit Go.Lib Utf Nam Lat
theorem grown_sc{w W:World}{p:Nat}(g:w.grownBy W (some p))(o:Nat)(a:Value):w.grownBy (W.setCell ⟨p,o,none⟩ a) (some p) :=
⟨((Below.refl p W).setCell (p:=⟨p,o,none⟩) (Nat.le_refl _) a).os.trans g.os,((Below.refl p W).setCell (p:=⟨p,o,none⟩) (Nat.le_refl _) a).tape.trans g.tape,((Below.refl p W).setCell (p:=⟨p,o,none⟩) (Nat.le_refl _) a).output.trans g.output,
 Nat.le_trans g.size ((Below.refl p W).setCell (p:=⟨p,o,none⟩) (Nat.le_refl _) a).size,fun k hk hr=>(Below.heap_setCell _ ⟨p,o,none⟩ a k (by simpa using hr)).trans (g.block k hk hr)⟩
theorem only_oneC{f:Ft}{p:PH}{x:TH}{k r:Ft}(e:f.drop 0=.cons p x k r)(hl:f.len=1):∀d m,wcF f .one d m=wrB x k (wcF k) d m:=by
 have e':f=.cons p x k r:=e;subst e';exact fun _ _=>rfl
theorem check_step(f:Ft)(ih:Fo.AllK CheckC f):CheckC f:=by
 intro h nv pv m d w0 w C hm hd gh hfl hga hy hb0 hC0 hC R hR;replace hfl:f.len≤9223372036854775807:=hfl;have hsz0:=hb0.size;obtain⟨Ap,cp,rfl,hpl⟩:=hy.p.sl;obtain⟨An,cn,rfl,-,-⟩:=hy.n.op;have b1:=(Below.refl w.heap.size w).alloc (Nat.le_refl _) (.cells #[.int .i64 h.kind,.int .i64 h.at_,.int .i64 h.lo,.int .i64 h.hi,.int .i64 h.most,.slice An h.names.length cn,.slice Ap f.len cp,.string h.name,.int .i64 h.nat] 29);have b2:=b1.alloc b1.size (.cells #[.int .i64 0,.int .i64 0] 34);have z1:(w.alloc (.cells #[.int .i64 h.kind,.int .i64 h.at_,.int .i64 h.lo,.int .i64 h.hi,.int .i64 h.most,.slice An h.names.length cn,.slice Ap f.len cp,.string h.name,.int .i64 h.nat] 29)).heap.size=w.heap.size+1:=by simp
 have hT:=(((Below.refl _ _).alloc (Nat.le_refl _) (.cells #[.int .i64 0,.int .i64 0] 34)).block w.heap.size (by omega)).trans (heap_alloc_new w (.cells #[.int .i64 h.kind,.int .i64 h.at_,.int .i64 h.lo,.int .i64 h.hi,.int .i64 h.most,.slice An h.names.length cn,.slice Ap f.len cp,.string h.name,.int .i64 h.nat] 29));have hY:=heap_alloc_new (w.alloc (.cells #[.int .i64 h.kind,.int .i64 h.at_,.int .i64 h.lo,.int .i64 h.hi,.int .i64 h.most,.slice An h.names.length cn,.slice Ap f.len cp,.string h.name,.int .i64 h.nat] 29)) (.cells #[.int .i64 0,.int .i64 0] 34);rw [z1]at hY;have lC:=blt_of hC;have hC2:=(b2.block _ lC).trans hC;have hyw:=Lib.hid hy;replace hga:=Lib.hid hga;replace gh:=Lib.hid gh;replace ih:=Lib.hid ih;go_enter Tryz.func186,Tryz.ntmps186
 go_upto_region 1 with fail
 generalize(w.alloc (.cells #[.int .i64 h.kind,.int .i64 h.at_,.int .i64 h.lo,.int .i64 h.hi,.int .i64 h.most,.slice An h.names.length cn,.slice Ap f.len cp,.string h.name,.int .i64 h.nat] 29)).alloc (.cells #[.int .i64 0,.int .i64 0] 34)=V at *;have c0:=(Lib.cell_of_heap hC2 0).trans rfl;have cf0:=Lib.frozen_of_heap hC2 0;go_upto_region 2 with fail
 obtain⟨M,hM⟩:∃M:Nat,M=m+1:=⟨_,rfl⟩;rw [show((m:Int)+1)=((M:Nat):Int)by omega];have hsz:=b2.size;have hYl:=blt_of hY;have nA:=Lib.hid (grown_sc (grown_bl' (row:=some C) b2) 0 (.int .i64 (M:Nat)));have hTA:=(set_neK (o:=0) (v:=.int .i64 (M:Nat)) (show w.heap.size≠C by omega)).trans hT;have hYA:=(set_neK (o:=0) (v:=.int .i64 (M:Nat)) (show w.heap.size+1≠C by omega)).trans hY;have hCA:(V.setCell ⟨C,0,none⟩ (.int .i64 (M:Nat))).heap[C]?=some (.cells #[.int .i64 (M:Nat)] 240):=set_atK hC2 0 (.int .i64 (M:Nat));replace hM:=Lib.hid hM;generalize V.setCell ⟨C,0,none⟩ (.int .i64 (M:Nat))=WA at *;clear c0 cf0 b1 b2 hT hY hC2 hC hsz hYl z1;have t1:=(Lib.cell_of_heap hTA 1).trans rfl;have k0:=(Lib.cell_of_heap hCA 0).trans rfl;have hE:=wrB_err h f (wcF f) d m;rw [←hM.out]at hE
 by_cases c1:24<d
 ·rw [if_pos c1]at hE
  have y0:=(Lib.cell_of_heap hYA 0).trans rfl;have yf0:=Lib.frozen_of_heap hYA 0;have y1:=(Lib.cell_of_heap hYA 1).trans rfl;have yf1:=Lib.frozen_of_heap hYA 1;have fin:=Lib.hid (hR.out _ (grown_2 (q:=w.heap.size+1) nA.out (by omega) (.int .i64 (6)) (.int .i64 (h.at_))) (by rw [hE];exact ne2 hCA (by omega) _ _))
  rw [hE]at fin;clear hR;go_wp2_with fail
  refine bodyPost_ret ?_ rfl fin.out;simp [results,Tryz.results186,go_sem,y0,y1]
 ·rw [if_neg c1]at hE
  by_cases c2:512<M
  ·rw [if_pos c2]at hE
   have y0:=(Lib.cell_of_heap hYA 0).trans rfl;have yf0:=Lib.frozen_of_heap hYA 0;have y1:=(Lib.cell_of_heap hYA 1).trans rfl;have yf1:=Lib.frozen_of_heap hYA 1;have fin:=Lib.hid (hR.out _ (grown_2 (q:=w.heap.size+1) nA.out (by omega) (.int .i64 (8)) (.int .i64 (h.at_))) (by rw [hE];exact ne2 hCA (by omega) _ _))
   rw [hE]at fin;clear hR;go_wp2_with fail
   refine bodyPost_ret ?_ rfl fin.out;simp [results,Tryz.results186,go_sem,y0,y1]
  ·clear hE
   have hd2:d≤24:=by omega
   have hm2:M≤512:=by omega
   have hS:=wro_spec h f (wcF f) d m M hM.out hd2 hm2;have r0:WA.rangeAt w.heap.size 0 [.int .i64 h.kind,.int .i64 h.at_,.int .i64 h.lo,.int .i64 h.hi,.int .i64 h.most,.slice An h.names.length cn,.slice Ap f.len cp,.string h.name,.int .i64 h.nat]:=fun j v e=>by rw [Nat.zero_add,Lib.cell_of_heap hTA];simpa using e
   have cW:=Lib.hid fun R hR=>wrong_calls f h (.slice An h.names.length cn) (.slice Ap f.len cp) WA gh.out.2.2.2.2.2.2.2.2 hfl hga.out (hyw.out.below (hb0.trans (grown_be' nA.out hC0 hsz0))) R hR
   have he:=fun q=>wro_elem (h:=h) (k:=f) q
   generalize wroS h f=E at *;go_upto_region 6 with fail
   clear t1 k0;go_wp2_with (refine wpList_load_g (by rfl) 29 _ rfl w.heap.size 0 rfl [.int .i64 h.kind,.int .i64 h.at_,.int .i64 h.lo,.int .i64 h.hi,.int .i64 h.most,.slice An h.names.length cn,.slice Ap f.len cp,.string h.name,.int .i64 h.nat] _ r0 Tryz.underlying29 rfl (by kernel_rfl) ?_;go_simp)
   refine cW.out _ (Lib.hid fun wB nB=>?_);have hTB:=(nB.block _ (blt_of hTA)).trans hTA;have hYB:=(nB.block _ (blt_of hYA)).trans hYA;have hCB:=(nB.block _ (blt_of hCA)).trans hCA;have nb:=Lib.hid (grown_tr' nA.out (grown_bl' nB));clear cW r0 nB hTA hYA hCA nA;have t1:=(Lib.cell_of_heap hTB 1).trans rfl
   by_cases e0:E=0
   ·rw [if_neg (by simpa using e0)]at hS
    obtain⟨hk,hon⟩:=he e0;subst e0;have t0:=(Lib.cell_of_heap hTB 0).trans rfl;have bb:=Lib.hid (hb0.trans (grown_be' nb.out hC0 hsz0));have hk':(h.kind=1∨h.kind=2∨h.kind=3)∨h.kind=4∨h.kind=5∨h.kind=6∨h.kind=7∨h.kind=8∨h.kind=9:=by omega
    replace hon:=Lib.hid hon;clear he hk;rcases hk' with hk|hk|hk|hk|hk|hk|hk
    ·have hq:wrB h f (wcF f) d m=(0,0,M):=by rw [hS];unfold postS;rw [if_neg (by omega),if_neg (by omega),if_neg (by omega),if_neg (by omega)]
     rcases hk with hk|hk|hk
     ·rw [hk]at t0
      clear hk;have y0:=(Lib.cell_of_heap hYB 0).trans rfl;have yf0:=Lib.frozen_of_heap hYB 0;have y1:=(Lib.cell_of_heap hYB 1).trans rfl;have yf1:=Lib.frozen_of_heap hYB 1;have fin:=Lib.hid (hR.out _ (grown_2 (q:=w.heap.size+1) nb.out (by omega) (.int .i64 (0)) (.int .i64 (0))) (by rw [hq];exact ne2 hCB (by omega) _ _))
      rw [hq]at fin;clear hR;go_wp2_with fail
      refine bodyPost_ret ?_ rfl fin.out;simp [results,Tryz.results186,go_sem,y0,y1]
     ·rw [hk]at t0
      clear hk;have y0:=(Lib.cell_of_heap hYB 0).trans rfl;have yf0:=Lib.frozen_of_heap hYB 0;have y1:=(Lib.cell_of_heap hYB 1).trans rfl;have yf1:=Lib.frozen_of_heap hYB 1;have fin:=Lib.hid (hR.out _ (grown_2 (q:=w.heap.size+1) nb.out (by omega) (.int .i64 (0)) (.int .i64 (0))) (by rw [hq];exact ne2 hCB (by omega) _ _))
      rw [hq]at fin;clear hR;go_wp2_with fail
      refine bodyPost_ret ?_ rfl fin.out;simp [results,Tryz.results186,go_sem,y0,y1]
     ·rw [hk]at t0
      clear hk;have y0:=(Lib.cell_of_heap hYB 0).trans rfl;have yf0:=Lib.frozen_of_heap hYB 0;have y1:=(Lib.cell_of_heap hYB 1).trans rfl;have yf1:=Lib.frozen_of_heap hYB 1;have fin:=Lib.hid (hR.out _ (grown_2 (q:=w.heap.size+1) nb.out (by omega) (.int .i64 (0)) (.int .i64 (0))) (by rw [hq];exact ne2 hCB (by omega) _ _))
      rw [hq]at fin;clear hR;go_wp2_with fail
      refine bodyPost_ret ?_ rfl fin.out;simp [results,Tryz.results186,go_sem,y0,y1]
    ·have hq:wrB h f (wcF f) d m=((if 64<h.names.length then((8:Int),(wN h.names 64).2)else enumF (nms h.names) 0 h.names).1,(if 64<h.names.length then((8:Int),(wN h.names 64).2)else enumF (nms h.names) 0 h.names).2,M):=by rw [hS];unfold postS;rw [if_pos hk];split<;>rfl
     rw [hk]at t0;clear hk;have t5:=(Lib.cell_of_heap hTB 5).trans rfl;go_wp2_with fail
     refine namesFault_calls h.names gh.out.2.2.2.2.2.2.2.2 gh.out.2.2.2.2.2.1 (.slice An h.names.length cn) wB (hyw.out.below bb.out).n _ (Lib.hid fun wL nL=>?_);generalize(if 64<h.names.length then((8:Int),(wN h.names 64).2)else enumF (nms h.names) 0 h.names)=NF at *;have hYL:=(nL.block _ (blt_of hYB)).trans hYB;have hCL:=(nL.block _ (blt_of hCB)).trans hCB;have nbL:=grown_tr' nb.out (grown_bl' nL);have y0:=(Lib.cell_of_heap hYL 0).trans rfl;have yf0:=Lib.frozen_of_heap hYL 0;have y1:=(Lib.cell_of_heap hYL 1).trans rfl;have yf1:=Lib.frozen_of_heap hYL 1;have fin:=Lib.hid (hR.out _ (grown_2 (q:=w.heap.size+1) nbL (by omega) (.int .i64 (NF.1)) (.int .i64 (NF.2))) (by rw [hq];exact ne2 hCL (by omega) _ _))
     rw [hq]at fin;clear hR;go_wp2_with fail
     refine bodyPost_ret ?_ rfl fin.out;simp [results,Tryz.results186,go_sem,y0,y1]
    ·have hq:wrB h f (wcF f) d m=wcF f .one (d+1) M:=by rw [hS];unfold postS;rw [if_neg (by omega),if_pos (by omega)]
     have hl:f.len=1:=by
      cases Nat.decEq f.len 1 with
      | isTrue q=>exact q
      | isFalse q=>have:=hon.out (by omega);rw [only_len q]at this;cases this
     obtain⟨p,x,kd,r,e⟩:=Fo.drop_lt (n:=0) (f:=f) (by omega);obtain⟨g,o,lv,cv,nx,px,rfl,hg,-,-,hyx,hc⟩:=hyw.out.p.part e;obtain⟨A5,n5,rfl,-,-⟩:=hyx.n.op;obtain⟨A7,n7,rfl,-⟩:=hyx.p.sl;obtain⟨gp,gx,gk',ga2⟩:=all_at 0 hga.out e;have ihK:=Lib.hid ((ih.out).at_ e);rw [only_oneC e hl]at hq;have t6:=(Lib.cell_of_heap hTB 6).trans rfl;have rgX:wB.rangeAt g (o+9) [.int .i64 x.kind,.int .i64 x.at_,.int .i64 x.lo,.int .i64 x.hi,.int .i64 x.most,.slice A5 x.names.length n5,.slice A7 kd.len n7,.string x.name,.int .i64 x.nat]:=fun j v h=>(bb.out.cell (p:=⟨g,o+9+j,none⟩) hg).trans (by have:=hc (9+j) v (by rw [←List.getElem?_drop];exact h);rwa [Nat.zero_mul,Nat.add_zero,←Nat.add_assoc]at this)
     rw [hl]at t6;rw [hk]at t0;have cK:=Lib.hid fun R hR=>ihK.out x (.slice A5 x.names.length n5) (.slice A7 kd.len n7) M (d+1) w0 wB C hm2 (by omega) gx gk' ga2 hyx bb.out hC0 hCB R hR
     rw [show((d+1:Nat):Int)=(d:Int)+1 from rfl]at cK;clear hk hl e hc hon;generalize wrB x kd (wcF kd) (d+1) M=RK at *;go_upto_region 14 with fail
     clear t0 t1;go_wp2_with (refine wpList_load_g (by rfl) 29 _ rfl g (o+9) rfl [.int .i64 x.kind,.int .i64 x.at_,.int .i64 x.lo,.int .i64 x.hi,.int .i64 x.most,.slice A5 x.names.length n5,.slice A7 kd.len n7,.string x.name,.int .i64 x.nat] _ rgX Tryz.underlying29 rfl (by kernel_rfl) ?_;go_simp)
     refine cK.out _ (Lib.hid fun wL nL hCL=>?_);have hYL:=grown_k nL hYB (by have:=blt_of hCB;omega)
     have nbL:=grown_tr' nb.out nL;clear t6 rgX cK;have y0:=(Lib.cell_of_heap hYL 0).trans rfl;have yf0:=Lib.frozen_of_heap hYL 0;have y1:=(Lib.cell_of_heap hYL 1).trans rfl;have yf1:=Lib.frozen_of_heap hYL 1;have fin:=Lib.hid (hR.out _ (grown_2 (q:=w.heap.size+1) nbL (by omega) (.int .i64 (RK.1)) (.int .i64 (RK.2.1))) (by rw [hq];exact ne2 hCL (by omega) _ _))
     rw [hq]at fin;clear hR;go_wp2_with fail
     refine bodyPost_ret ?_ rfl fin.out;simp [results,Tryz.results186,go_sem,y0,y1]
    ·have hq:wrB h f (wcF f) d m=wcF f .one (d+1) M:=by rw [hS];unfold postS;rw [if_neg (by omega),if_pos (by omega)]
     have hl:f.len=1:=by
      cases Nat.decEq f.len 1 with
      | isTrue q=>exact q
      | isFalse q=>have:=hon.out (by omega);rw [only_len q]at this;cases this
     obtain⟨p,x,kd,r,e⟩:=Fo.drop_lt (n:=0) (f:=f) (by omega);obtain⟨g,o,lv,cv,nx,px,rfl,hg,-,-,hyx,hc⟩:=hyw.out.p.part e;obtain⟨A5,n5,rfl,-,-⟩:=hyx.n.op;obtain⟨A7,n7,rfl,-⟩:=hyx.p.sl;obtain⟨gp,gx,gk',ga2⟩:=all_at 0 hga.out e;have ihK:=Lib.hid ((ih.out).at_ e);rw [only_oneC e hl]at hq;have t6:=(Lib.cell_of_heap hTB 6).trans rfl;have rgX:wB.rangeAt g (o+9) [.int .i64 x.kind,.int .i64 x.at_,.int .i64 x.lo,.int .i64 x.hi,.int .i64 x.most,.slice A5 x.names.length n5,.slice A7 kd.len n7,.string x.name,.int .i64 x.nat]:=fun j v h=>(bb.out.cell (p:=⟨g,o+9+j,none⟩) hg).trans (by have:=hc (9+j) v (by rw [←List.getElem?_drop];exact h);rwa [Nat.zero_mul,Nat.add_zero,←Nat.add_assoc]at this)
     rw [hl]at t6;rw [hk]at t0;have cK:=Lib.hid fun R hR=>ihK.out x (.slice A5 x.names.length n5) (.slice A7 kd.len n7) M (d+1) w0 wB C hm2 (by omega) gx gk' ga2 hyx bb.out hC0 hCB R hR
     rw [show((d+1:Nat):Int)=(d:Int)+1 from rfl]at cK;clear hk hl e hc hon;generalize wrB x kd (wcF kd) (d+1) M=RK at *;go_upto_region 14 with fail
     clear t0 t1;go_wp2_with (refine wpList_load_g (by rfl) 29 _ rfl g (o+9) rfl [.int .i64 x.kind,.int .i64 x.at_,.int .i64 x.lo,.int .i64 x.hi,.int .i64 x.most,.slice A5 x.names.length n5,.slice A7 kd.len n7,.string x.name,.int .i64 x.nat] _ rgX Tryz.underlying29 rfl (by kernel_rfl) ?_;go_simp)
     refine cK.out _ (Lib.hid fun wL nL hCL=>?_);have hYL:=grown_k nL hYB (by have:=blt_of hCB;omega)
     have nbL:=grown_tr' nb.out nL;clear t6 rgX cK;have y0:=(Lib.cell_of_heap hYL 0).trans rfl;have yf0:=Lib.frozen_of_heap hYL 0;have y1:=(Lib.cell_of_heap hYL 1).trans rfl;have yf1:=Lib.frozen_of_heap hYL 1;have fin:=Lib.hid (hR.out _ (grown_2 (q:=w.heap.size+1) nbL (by omega) (.int .i64 (RK.1)) (.int .i64 (RK.2.1))) (by rw [hq];exact ne2 hCL (by omega) _ _))
     rw [hq]at fin;clear hR;go_wp2_with fail
     refine bodyPost_ret ?_ rfl fin.out;simp [results,Tryz.results186,go_sem,y0,y1]
    ·have hq:wrB h f (wcF f) d m=partC h f d M:=by rw [hS];unfold postS partC;rw [if_neg (by omega),if_neg (by omega),if_pos (by omega)]
     have r0:wB.rangeAt w.heap.size 0 [.int .i64 h.kind,.int .i64 h.at_,.int .i64 h.lo,.int .i64 h.hi,.int .i64 h.most,.slice An h.names.length cn,.slice Ap f.len cp,.string h.name,.int .i64 h.nat]:=fun j v e=>by rw [Nat.zero_add,Lib.cell_of_heap hTB];simpa using e
     have cK:=Lib.hid fun R hR=>checkParts_calls f ih.out h (.slice An h.names.length cn) (.slice Ap f.len cp) M d w0 wB C hm2 hd2 (by omega) gh.out hfl hga.out hyw.out bb.out hC0 hCB R hR
     rw [hk]at t0;clear hk hon;generalize partC h f d M=RK at *;go_upto_region 17 with fail
     clear t0 t1;go_wp2_with (refine wpList_load_g (by rfl) 29 _ rfl w.heap.size 0 rfl [.int .i64 h.kind,.int .i64 h.at_,.int .i64 h.lo,.int .i64 h.hi,.int .i64 h.most,.slice An h.names.length cn,.slice Ap f.len cp,.string h.name,.int .i64 h.nat] _ r0 Tryz.underlying29 rfl (by kernel_rfl) ?_;go_simp)
     refine cK.out _ (Lib.hid fun wL nL hCL=>?_);have hYL:=grown_k nL hYB (by have:=blt_of hCB;omega)
     have nbL:=grown_tr' nb.out nL;clear r0 cK;have y0:=(Lib.cell_of_heap hYL 0).trans rfl;have yf0:=Lib.frozen_of_heap hYL 0;have y1:=(Lib.cell_of_heap hYL 1).trans rfl;have yf1:=Lib.frozen_of_heap hYL 1;have fin:=Lib.hid (hR.out _ (grown_2 (q:=w.heap.size+1) nbL (by omega) (.int .i64 (RK.1)) (.int .i64 (RK.2.1))) (by rw [hq];exact ne2 hCL (by omega) _ _))
     rw [hq]at fin;clear hR;go_wp2_with fail
     refine bodyPost_ret ?_ rfl fin.out;simp [results,Tryz.results186,go_sem,y0,y1]
    ·have hq:wrB h f (wcF f) d m=partC h f d M:=by rw [hS];unfold postS partC;rw [if_neg (by omega),if_neg (by omega),if_pos (by omega)]
     have r0:wB.rangeAt w.heap.size 0 [.int .i64 h.kind,.int .i64 h.at_,.int .i64 h.lo,.int .i64 h.hi,.int .i64 h.most,.slice An h.names.length cn,.slice Ap f.len cp,.string h.name,.int .i64 h.nat]:=fun j v e=>by rw [Nat.zero_add,Lib.cell_of_heap hTB];simpa using e
     have cK:=Lib.hid fun R hR=>checkParts_calls f ih.out h (.slice An h.names.length cn) (.slice Ap f.len cp) M d w0 wB C hm2 hd2 (by omega) gh.out hfl hga.out hyw.out bb.out hC0 hCB R hR
     rw [hk]at t0;clear hk hon;generalize partC h f d M=RK at *;go_upto_region 17 with fail
     clear t0 t1;go_wp2_with (refine wpList_load_g (by rfl) 29 _ rfl w.heap.size 0 rfl [.int .i64 h.kind,.int .i64 h.at_,.int .i64 h.lo,.int .i64 h.hi,.int .i64 h.most,.slice An h.names.length cn,.slice Ap f.len cp,.string h.name,.int .i64 h.nat] _ r0 Tryz.underlying29 rfl (by kernel_rfl) ?_;go_simp)
     refine cK.out _ (Lib.hid fun wL nL hCL=>?_);have hYL:=grown_k nL hYB (by have:=blt_of hCB;omega)
     have nbL:=grown_tr' nb.out nL;clear r0 cK;have y0:=(Lib.cell_of_heap hYL 0).trans rfl;have yf0:=Lib.frozen_of_heap hYL 0;have y1:=(Lib.cell_of_heap hYL 1).trans rfl;have yf1:=Lib.frozen_of_heap hYL 1;have fin:=Lib.hid (hR.out _ (grown_2 (q:=w.heap.size+1) nbL (by omega) (.int .i64 (RK.1)) (.int .i64 (RK.2.1))) (by rw [hq];exact ne2 hCL (by omega) _ _))
     rw [hq]at fin;clear hR;go_wp2_with fail
     refine bodyPost_ret ?_ rfl fin.out;simp [results,Tryz.results186,go_sem,y0,y1]
    ·have hq:wrB h f (wcF f) d m=((nfS h.name h.nat false).1,(nfS h.name h.nat false).2,M):=by
      rw [hS];unfold postS nfS;rw [if_neg (by omega),if_neg (by omega),if_neg (by omega),if_pos hk]
      split<;>rfl
     rw [hk]at t0;clear hk hon;have t7:=(Lib.cell_of_heap hTB 7).trans rfl;have t8:=(Lib.cell_of_heap hTB 8).trans rfl;go_wp2_with fail
     refine nameFault_calls h.name h.nat false wB gh.out.2.2.2.2.2.2.1 _ (Lib.hid fun wL nL=>?_);generalize nfS h.name h.nat false=NF at *;have hYL:=(nL.block _ (blt_of hYB)).trans hYB;have hCL:=(nL.block _ (blt_of hCB)).trans hCB;have nbL:=grown_tr' nb.out (grown_bl' nL);have y0:=(Lib.cell_of_heap hYL 0).trans rfl;have yf0:=Lib.frozen_of_heap hYL 0;have y1:=(Lib.cell_of_heap hYL 1).trans rfl;have yf1:=Lib.frozen_of_heap hYL 1;have fin:=Lib.hid (hR.out _ (grown_2 (q:=w.heap.size+1) nbL (by omega) (.int .i64 (NF.1)) (.int .i64 (NF.2))) (by rw [hq];exact ne2 hCL (by omega) _ _))
     rw [hq]at fin;clear hR;go_wp2_with fail
     refine bodyPost_ret ?_ rfl fin.out;simp [results,Tryz.results186,go_sem,y0,y1]
   ·rw [if_pos (by simpa using e0)]at hS
    have qE:(E != 0)=true:=by simpa using e0
    clear e0 he;have y0:=(Lib.cell_of_heap hYB 0).trans rfl;have yf0:=Lib.frozen_of_heap hYB 0;have y1:=(Lib.cell_of_heap hYB 1).trans rfl;have yf1:=Lib.frozen_of_heap hYB 1;have fin:=Lib.hid (hR.out _ (grown_2 (q:=w.heap.size+1) nb.out (by omega) (.int .i64 (E)) (.int .i64 (h.at_))) (by rw [hS];exact ne2 hCB (by omega) _ _))
    rw [hS]at fin;clear hR;go_wp2_with fail
    refine bodyPost_ret ?_ rfl fin.out;simp [results,Tryz.results186,go_sem,y0,y1]
theorem check_calls(f:Ft):CheckC f:=Fo.deep check_step f
noncomputable def wcS(h:TH)(f:Ft):Res:=wrB h f (wcF f) 1 0
theorem right15_calls(f:Ft)(h:TH)(nv pv:Value)(w:World)(gh:GoodH h)(hfl:f.len≤maxLen)(hga:f.All GoodH GoodL)(hy:RdY w h f nv pv)(R:Ending→World→Prop)
  (hR:Hid (∀w',Below w.heap.size w w'→R (.returned (.agg #[.int .i64 (wcS h f).1,.int .i64 (wcS h f).2.1])) w')):Calls Tryz.prog 159 #[tyV h nv pv] w R:=by
 obtain⟨Ap,cp,rfl,hpl⟩:=hy.p.sl;obtain⟨An,cn,rfl,-,-⟩:=hy.n.op;have b1:=(Below.refl w.heap.size w).alloc (Nat.le_refl _) (.cells #[.int .i64 h.kind,.int .i64 h.at_,.int .i64 h.lo,.int .i64 h.hi,.int .i64 h.most,.slice An h.names.length cn,.slice Ap f.len cp,.string h.name,.int .i64 h.nat] 29);have b2:=b1.alloc b1.size (.cells #[.int .i64 0,.int .i64 0] 34);have b3:=b2.alloc b2.size (.cells #[.int .i64 0] 240);have z1:(w.alloc (.cells #[.int .i64 h.kind,.int .i64 h.at_,.int .i64 h.lo,.int .i64 h.hi,.int .i64 h.most,.slice An h.names.length cn,.slice Ap f.len cp,.string h.name,.int .i64 h.nat] 29)).heap.size=w.heap.size+1:=by simp
 have z2:((w.alloc (.cells #[.int .i64 h.kind,.int .i64 h.at_,.int .i64 h.lo,.int .i64 h.hi,.int .i64 h.most,.slice An h.names.length cn,.slice Ap f.len cp,.string h.name,.int .i64 h.nat] 29)).alloc (.cells #[.int .i64 0,.int .i64 0] 34)).heap.size=w.heap.size+2:=by simp
 have hT:=(((Below.refl _ _).alloc (Nat.le_refl _) (.cells #[.int .i64 0,.int .i64 0] 34)).block w.heap.size (by omega)).trans (heap_alloc_new w (.cells #[.int .i64 h.kind,.int .i64 h.at_,.int .i64 h.lo,.int .i64 h.hi,.int .i64 h.most,.slice An h.names.length cn,.slice Ap f.len cp,.string h.name,.int .i64 h.nat] 29));have hY:=heap_alloc_new (w.alloc (.cells #[.int .i64 h.kind,.int .i64 h.at_,.int .i64 h.lo,.int .i64 h.hi,.int .i64 h.most,.slice An h.names.length cn,.slice Ap f.len cp,.string h.name,.int .i64 h.nat] 29)) (.cells #[.int .i64 0,.int .i64 0] 34);rw [z1]at hY;have hT2:=(((Below.refl _ _).alloc (Nat.le_refl _) (.cells #[.int .i64 0] 240)).block w.heap.size (by omega)).trans hT;have hY2:=(((Below.refl _ _).alloc (Nat.le_refl _) (.cells #[.int .i64 0] 240)).block (w.heap.size+1) (by omega)).trans hY;have hC:=heap_alloc_new ((w.alloc (.cells #[.int .i64 h.kind,.int .i64 h.at_,.int .i64 h.lo,.int .i64 h.hi,.int .i64 h.most,.slice An h.names.length cn,.slice Ap f.len cp,.string h.name,.int .i64 h.nat] 29)).alloc (.cells #[.int .i64 0,.int .i64 0] 34)) (.cells #[.int .i64 0] 240);rw [z2]at hC;have hyw:=Lib.hid hy;clear hT hY z1 z2 hy b1 b2;have cK:=Lib.hid fun R hR=>check_calls f h (.slice An h.names.length cn) (.slice Ap f.len cp) 0 1 w (((w.alloc (.cells #[.int .i64 h.kind,.int .i64 h.at_,.int .i64 h.lo,.int .i64 h.hi,.int .i64 h.most,.slice An h.names.length cn,.slice Ap f.len cp,.string h.name,.int .i64 h.nat] 29)).alloc (.cells #[.int .i64 0,.int .i64 0] 34)).alloc (.cells #[.int .i64 0] 240)) (w.heap.size+2) (by omega) (by omega) gh hfl hga hyw.out b3 (by omega) hC R hR
 have r0:(((w.alloc (.cells #[.int .i64 h.kind,.int .i64 h.at_,.int .i64 h.lo,.int .i64 h.hi,.int .i64 h.most,.slice An h.names.length cn,.slice Ap f.len cp,.string h.name,.int .i64 h.nat] 29)).alloc (.cells #[.int .i64 0,.int .i64 0] 34)).alloc (.cells #[.int .i64 0] 240)).rangeAt w.heap.size 0 [.int .i64 h.kind,.int .i64 h.at_,.int .i64 h.lo,.int .i64 h.hi,.int .i64 h.most,.slice An h.names.length cn,.slice Ap f.len cp,.string h.name,.int .i64 h.nat]:=fun j v e=>by rw [Nat.zero_add,Lib.cell_of_heap hT2];simpa using e
 go_enter Tryz.func159,Tryz.ntmps159
 go_upto_region 1 with fail
 go_wp2_with (refine wpList_load_g (by rfl) 29 _ rfl w.heap.size 0 rfl [.int .i64 h.kind,.int .i64 h.at_,.int .i64 h.lo,.int .i64 h.hi,.int .i64 h.most,.slice An h.names.length cn,.slice Ap f.len cp,.string h.name,.int .i64 h.nat] _ r0 Tryz.underlying29 rfl (by kernel_rfl) ?_;go_simp)
 generalize((w.alloc (.cells #[.int .i64 h.kind,.int .i64 h.at_,.int .i64 h.lo,.int .i64 h.hi,.int .i64 h.most,.slice An h.names.length cn,.slice Ap f.len cp,.string h.name,.int .i64 h.nat] 29)).alloc (.cells #[.int .i64 0,.int .i64 0] 34)).alloc (.cells #[.int .i64 0] 240)=V at *;refine cK.out _ (Lib.hid fun wL nL hCL=>?_);have hYL:=grown_k nL hY2 (by omega);have nb:=b3.trans (grown_be' nL (by omega) b3.size);have hq:wcS h f=wrB h f (wcF f) 1 0:=rfl;generalize wrB h f (wcF f) 1 0=RK at *;clear cK r0 nL hCL;have y0:=(Lib.cell_of_heap hYL 0).trans rfl;have yf0:=Lib.frozen_of_heap hYL 0;have y1:=(Lib.cell_of_heap hYL 1).trans rfl;have yf1:=Lib.frozen_of_heap hYL 1;have fin:=Lib.hid (hR.out _ (set2k' (q:=w.heap.size+1) (by omega) nb (.int .i64 RK.1) (.int .i64 RK.2.1)));rw [hq]at fin;clear hR;go_wp2_with fail
 refine bodyPost_ret ?_ rfl fin.out;simp [results,Tryz.results159,go_sem,y0,y1]
def CountC(f:Ft):Prop:=∀(h:TH)(nv pv:Value)(w:World),f.len≤maxLen→f.All GoodH GoodL→RdY w h f nv pv→∀R:Ending→World→Prop,
Hid (∀w',Below w.heap.size w w'→R (.returned (.int .i64 (cW f 1))) w')→Calls Tryz.prog 160 #[tyV h nv pv] w R
theorem count_step(f:Ft)(ih:Fo.AllK CountC f):CountC f:=by
 intro h nv pv w hfl hga hy R hR;replace hfl:f.len≤9223372036854775807:=hfl;have bA:=(Below.refl w.heap.size w).alloc (Nat.le_refl _) (.cells (tyL h nv pv).toArray 29);have kA:=TB.new w h nv pv 29;obtain⟨Ap,cp,rfl,hpl⟩:=hy.p.sl;obtain⟨An,cn,rfl,-,-⟩:=hy.n.op;replace hy:=Lib.hid (hy.below bA);replace hga:=Lib.hid hga;replace ih:=Lib.hid ih;replace bA:=Lib.hid bA;replace kA:=Lib.hid kA;go_enter Tryz.func160,Tryz.ntmps160
 go_upto_region 1 with fail
 generalize w.alloc (.cells (tyL h (.slice An h.names.length cn) (.slice Ap f.len cp)).toArray 29)=W2 at *;have t6:=kA.out.k6;go_wp2_with fail
 clear t6 kA;go_loopg [3,9] f.len (fun g0 n i wr=>∃(K:Nat) (a:Int),n=.int .i64 a∧i=.int .i64 K∧K+g0=f.len∧Hid (Below W2.heap.size W2 wr)∧cW f 1=cW (f.drop K) a)
 case atStart=>exact⟨0,1,rfl,rfl,by omega,Lib.hid (Below.refl _ _),rfl⟩
 case round =>
  obtain⟨K,a,rfl,rfl,e1,nW,e2⟩:=hrel
  by_cases hK:K<f.len
  ·obtain⟨p,x,kd,r,e⟩:=Fo.drop_lt hK
   obtain⟨g,o,lv,cv,nx,px,rfl,hg,hlv,hcv,hyx,hc⟩:=(hy.out.below nW.out).p.part e;obtain⟨A1,n1,rfl,-,-⟩:=hlv.op;obtain⟨A2,n2,rfl,-,-⟩:=hcv.op;obtain⟨A5,n5,rfl,-,-⟩:=hyx.n.op;obtain⟨A7,n7,rfl,-⟩:=hyx.p.sl;obtain⟨gp,gx,gk',ga2⟩:=all_at K hga.out e;have ihK:=Lib.hid ((ih.out).at_ e);rw [e]at e2;have d1:=Fo.drop_succ K e;have i0:(0:Int)≤(K:Int):=by omega
   have i1:(K:Int)<(f.len:Int):=by omega
   have e4:cW f 1=cW r (if p.bare then a else wrap64 (a+cW kd 1)):=e2;clear e2 e;have rg:wr.rangeAt g (o+K*18) [.string p.name,.int .i64 p.at_,.bool p.bare,.slice A1 p.label.length n1,.int .i64 p.wide,.int .i64 p.ck,.int .i64 p.cn,.int .i64 p.cat,.slice A2 p.cl.length n2,.int .i64 x.kind,.int .i64 x.at_,.int .i64 x.lo,.int .i64 x.hi,.int .i64 x.most,.slice A5 x.names.length n5,.slice A7 kd.len n7,.string x.name,.int .i64 x.nat]:=fun j v h=>hc j v h
   have bP:=(Below.refl wr.heap.size wr).alloc (Nat.le_refl _) (.cells #[.string p.name,.int .i64 p.at_,.bool p.bare,.slice A1 p.label.length n1,.int .i64 p.wide,.int .i64 p.ck,.int .i64 p.cn,.int .i64 p.cat,.slice A2 p.cl.length n2,.int .i64 x.kind,.int .i64 x.at_,.int .i64 x.lo,.int .i64 x.hi,.int .i64 x.most,.slice A5 x.names.length n5,.slice A7 kd.len n7,.string x.name,.int .i64 x.nat] 130);have hb:=heap_alloc_new wr (.cells #[.string p.name,.int .i64 p.at_,.bool p.bare,.slice A1 p.label.length n1,.int .i64 p.wide,.int .i64 p.ck,.int .i64 p.cn,.int .i64 p.cat,.slice A2 p.cl.length n2,.int .i64 x.kind,.int .i64 x.at_,.int .i64 x.lo,.int .i64 x.hi,.int .i64 x.most,.slice A5 x.names.length n5,.slice A7 kd.len n7,.string x.name,.int .i64 x.nat] 130);clear hc hlv hcv hg;go_upto_region 5 with(first|(refine wpList_load_g (by rfl) 130 _ rfl g (o+K*18) rfl [.string p.name,.int .i64 p.at_,.bool p.bare,.slice A1 p.label.length n1,.int .i64 p.wide,.int .i64 p.ck,.int .i64 p.cn,.int .i64 p.cat,.slice A2 p.cl.length n2,.int .i64 x.kind,.int .i64 x.at_,.int .i64 x.lo,.int .i64 x.hi,.int .i64 x.most,.slice A5 x.names.length n5,.slice A7 kd.len n7,.string x.name,.int .i64 x.nat] _ rg Tryz.underlying130 rfl (by kernel_rfl) ?_;go_simp)|(refine wpList_copy #[.string p.name,.int .i64 p.at_,.bool p.bare,.slice A1 p.label.length n1,.int .i64 p.wide,.int .i64 p.ck,.int .i64 p.cn,.int .i64 p.cat,.slice A2 p.cl.length n2,.int .i64 x.kind,.int .i64 x.at_,.int .i64 x.lo,.int .i64 x.hi,.int .i64 x.most,.slice A5 x.names.length n5,.slice A7 kd.len n7,.string x.name,.int .i64 x.nat] ⟨rfl,rfl,rfl⟩ ⟨rfl,rfl,rfl⟩ part_alloc (by kernel_rfl) ⟨rfl,by simp [Value.oneCell']⟩ (fun _=>⟨rfl,rfl⟩) ?_;go_simp))
   clear rg;have hyV:=Lib.hid (hyx.below bP);have nV:=Lib.hid (nW.out.trans (bP.mono nW.out.size));generalize wr.alloc (.cells #[.string p.name,.int .i64 p.at_,.bool p.bare,.slice A1 p.label.length n1,.int .i64 p.wide,.int .i64 p.ck,.int .i64 p.cn,.int .i64 p.cat,.slice A2 p.cl.length n2,.int .i64 x.kind,.int .i64 x.at_,.int .i64 x.lo,.int .i64 x.hi,.int .i64 x.most,.slice A5 x.names.length n5,.slice A7 kd.len n7,.string x.name,.int .i64 x.nat] 130)=V at *;generalize wr.heap.size=B at *;clear bP hyx nW;have u1:=(Lib.cell_of_heap hb 2).trans rfl;have r9:V.rangeAt B 9 [.int .i64 x.kind,.int .i64 x.at_,.int .i64 x.lo,.int .i64 x.hi,.int .i64 x.most,.slice A5 x.names.length n5,.slice A7 kd.len n7,.string x.name,.int .i64 x.nat]:=fun j v h=>by rw [Lib.cell_of_heap hb,List.getElem?_toArray,←List.getElem?_drop];exact h
   clear hb;cases hbr:p.bare
   ·rw [hbr]at u1 e4
    simp only[Bool.false_eq_true,if_false]at e4;clear hbr;have cS:=Lib.hid fun R hR=>ihK.out x (.slice A5 x.names.length n5) (.slice A7 kd.len n7) V gk' ga2 hyV.out R hR
    go_wp2_with (refine wpList_load_g (by rfl) 29 _ rfl B 9 rfl [.int .i64 x.kind,.int .i64 x.at_,.int .i64 x.lo,.int .i64 x.hi,.int .i64 x.most,.slice A5 x.names.length n5,.slice A7 kd.len n7,.string x.name,.int .i64 x.nat] _ r9 Tryz.underlying29 rfl (by kernel_rfl) ?_;go_simp)
    refine cS.out _ (Lib.hid fun w5 n5=>?_);have nY:=Lib.hid (nV.out.trans (n5.mono nV.out.size));generalize cW kd 1=ck at *;clear r9 u1 cS n5 hyV nV;rw [←d1]at e4;go_wp2_with fail
    go_roundg (gk-1)
    case measure=>omega
    case rel=>exact⟨K+1,_,rfl,by go_num,by omega,nY,e4⟩
   ·rw [hbr]at u1 e4
    simp only[if_true]at e4;clear hbr;rw [←d1]at e4;clear r9 hyV;go_wp2_with fail
    go_roundg (gk-1)
    case measure=>omega
    case rel=>exact⟨K+1,a,rfl,by go_num,by omega,nV,e4⟩
  ·obtain rfl:K=f.len:=by omega
   rw [Fo.drop_all (Nat.le_refl _)]at e2;have e4:cW f 1=a:=e2;have fin:=Lib.hid (hR.out _ (bA.out.trans (nW.out.mono bA.out.size)));rw [e4]at fin;clear hR e2 e4;go_wp2_with fail
   exact fin.out
theorem count_calls(f:Ft):CountC f:=Fo.deep count_step f
end Go.Proofs.YtncckdaflellnaaGreat.Kin
