import Derived.Test.YtabhkakomececaaGreatQ17
import Derived.Test.YtabhkakomececaaGreatQ16
set_option linter.all false
set_option maxRecDepth 100000
set_option maxHeartbeats 4000000
namespace Go.Proofs.YtabhkakomececaaGreat.Kin
open Go.RowKit Go.Lib Utf Nam Lat
theorem grown_tr'{w w' w'':World}{row:Option Nat}(h:w.grownBy w' row)(h':w'.grownBy w'' row):w.grownBy w'' row :=
⟨h'.os.trans h.os,h'.tape.trans h.tape,h'.output.trans h.output,Nat.le_trans h.size h'.size,fun k hk hr=>(h'.block k (Nat.lt_of_lt_of_le hk h.size) hr).trans (h.block k hk hr)⟩
theorem grown_bl'{w w':World}{row:Option Nat}(h:Below w.heap.size w w'):w.grownBy w' row:=⟨h.os,h.tape,h.output,h.size,fun k hk _=>h.block k hk⟩
theorem grown_be'{B0 B:Nat}{w w':World}(h:w.grownBy w' (some B))(h0:B0≤B)(h1:B0≤w.heap.size):Below B0 w w':=grown_below h h1 (fun k e=>by cases e;exact h0)
theorem grown_st'{w W:World}{p:Nat}(g:w.grownBy W (some p)){q o:Nat}(hq:w.heap.size≤q)(a:Value):w.grownBy (W.setCell ⟨q,o,none⟩ a) (some p) :=
⟨((Below.refl q W).setCell (p:=⟨q,o,none⟩) (Nat.le_refl _) a).os.trans g.os,((Below.refl q W).setCell (p:=⟨q,o,none⟩) (Nat.le_refl _) a).tape.trans g.tape,((Below.refl q W).setCell (p:=⟨q,o,none⟩) (Nat.le_refl _) a).output.trans g.output,
 Nat.le_trans g.size ((Below.refl q W).setCell (p:=⟨q,o,none⟩) (Nat.le_refl _) a).size,fun k hk hr=>(((Below.refl q W).setCell (p:=⟨q,o,none⟩) (Nat.le_refl _) a).block k (Nat.lt_of_lt_of_le hk hq)).trans (g.block k hk hr)⟩
theorem grown_2{w W:World}{p q:Nat}(g:w.grownBy W (some p))(hq:w.heap.size≤q)(a b:Value):w.grownBy ((W.setCell ⟨q,0,none⟩ a).setCell ⟨q,1,none⟩ b) (some p):=grown_st' (grown_st' g hq a) hq b
theorem ne2{W:World}{q C:Nat}{o:Obj}(h:W.heap[C]?=some o)(n:C≠q)(a b:Value):((W.setCell ⟨q,0,none⟩ a).setCell ⟨q,1,none⟩ b).heap[C]?=some o:=(set_neK n).trans ((set_neK n).trans h)
theorem grown_k{w w':World}{B q:Nat}{o:Obj}(h:w.grownBy w' (some B))(hq:w.heap[q]?=some o)(n:q≠B):w'.heap[q]?=some o:=(h.block q (blt_of hq) (by simpa using n)).trans hq
def CheckC(f:Ft):Prop:=∀(h:TH)(nv pv:Value)(m d:Nat)(w0 w:World)(C:Nat),m≤512→d≤25→GoodH h→f.len≤maxLen→f.All GoodH GoodL→RdY w0 h f nv pv→Below w0.heap.size w0 w→w0.heap.size≤C→w.heap[C]?=some (.cells #[.int .i64 m] 331)→∀R:Ending→World→Prop,
Hid (∀w',w.grownBy w' (some C)→w'.heap[C]?=some (.cells #[.int .i64 (wrB h f (wcF f) d m).2.2] 331)→R (.returned (.agg #[.int .i64 (wrB h f (wcF f) d m).1,.int .i64 (wrB h f (wcF f) d m).2.1])) w')→Calls Tryz.prog 243 #[.pointer (some ⟨C,0,none⟩),tyV h nv pv,.int .i64 d] w R
noncomputable def partC(h:TH)(f:Ft)(d m:Nat):Res:=if 64<f.len then(8,(wN (pnm f) 64).2,m)else wcF f (.parts h.kind (nms (pnm f)) 0) (d+1) m
theorem checkParts_calls(f:Ft)(ih:Fo.AllK CheckC f)(h:TH)(nv pv:Value)(m d:Nat)(w0 w:World)(C:Nat)(hm:m≤512)(hd:d≤24)(hk:h.kind=7∨h.kind=8)(gh:GoodH h)(hfl:f.len≤maxLen)(hga:f.All GoodH GoodL)(hy:RdY w0 h f nv pv)(hb0:Below w0.heap.size w0 w)(hC0:w0.heap.size≤C)(hC:w.heap[C]?=some (.cells #[.int .i64 m] 331))(R:Ending→World→Prop)
  (hR:Hid (∀w',w.grownBy w' (some C)→w'.heap[C]?=some (.cells #[.int .i64 (partC h f d m).2.2] 331)→R (.returned (.agg #[.int .i64 (partC h f d m).1,.int .i64 (partC h f d m).2.1])) w')):Calls Tryz.prog 288 #[.pointer (some ⟨C,0,none⟩),tyV h nv pv,.int .i64 d] w R:=by
 replace hfl:f.len≤9223372036854775807:=hfl;have hsz0:=hb0.size;obtain⟨Ap,cp,rfl,hpl⟩:=hy.p.sl;obtain⟨An,cn,rfl,-,-⟩:=hy.n.op;have b1:=(Below.refl w.heap.size w).alloc (Nat.le_refl _) (.cells #[.int .i64 h.kind,.int .i64 h.at_,.int .i64 h.lo,.int .i64 h.hi,.int .i64 h.most,.slice An h.names.length cn,.slice Ap f.len cp,.string h.name,.int .i64 h.nat] 36);have b2:=b1.alloc b1.size (.cells #[.int .i64 0,.int .i64 0] 26);have z1:(w.alloc (.cells #[.int .i64 h.kind,.int .i64 h.at_,.int .i64 h.lo,.int .i64 h.hi,.int .i64 h.most,.slice An h.names.length cn,.slice Ap f.len cp,.string h.name,.int .i64 h.nat] 36)).heap.size=w.heap.size+1:=by simp
 have hT:=(((Below.refl _ _).alloc (Nat.le_refl _) (.cells #[.int .i64 0,.int .i64 0] 26)).block w.heap.size (by omega)).trans (heap_alloc_new w (.cells #[.int .i64 h.kind,.int .i64 h.at_,.int .i64 h.lo,.int .i64 h.hi,.int .i64 h.most,.slice An h.names.length cn,.slice Ap f.len cp,.string h.name,.int .i64 h.nat] 36));have hY:=heap_alloc_new (w.alloc (.cells #[.int .i64 h.kind,.int .i64 h.at_,.int .i64 h.lo,.int .i64 h.hi,.int .i64 h.most,.slice An h.names.length cn,.slice Ap f.len cp,.string h.name,.int .i64 h.nat] 36)) (.cells #[.int .i64 0,.int .i64 0] 26);rw [z1]at hY;have lC:=blt_of hC;have hC2:=(b2.block _ lC).trans hC;have hyw:=Lib.hid hy;replace hga:=Lib.hid hga;replace gh:=Lib.hid gh;replace ih:=Lib.hid ih;replace hk:=Lib.hid hk;go_enter Tryz.func288,Tryz.ntmps288
 go_upto_region 1 with fail
 generalize(w.alloc (.cells #[.int .i64 h.kind,.int .i64 h.at_,.int .i64 h.lo,.int .i64 h.hi,.int .i64 h.most,.slice An h.names.length cn,.slice Ap f.len cp,.string h.name,.int .i64 h.nat] 36)).alloc (.cells #[.int .i64 0,.int .i64 0] 26)=V at *;have t6:=(Lib.cell_of_heap hT 6).trans rfl
 by_cases c64:64<f.len
 ·have hq:partC h f d m=(8,(wN (pnm f) 64).2,m):=if_pos c64
  obtain⟨p,x,kd,r,e⟩:=Fo.drop_lt c64;obtain⟨g,o,lv,cv,nx,px,rfl,hg,-,-,-,hc⟩:=(hyw.out.below hb0).p.part e;have x1:=(b2.cell (p:=⟨g,o+64*18+1,none⟩) hg).trans (hc 1 _ rfl);rw [pnm_at 64 e]at hq;have i1:(64:Int)<(f.len:Int):=by omega
  clear hc e;have y0:=(Lib.cell_of_heap hY 0).trans rfl;have yf0:=Lib.frozen_of_heap hY 0;have y1:=(Lib.cell_of_heap hY 1).trans rfl;have yf1:=Lib.frozen_of_heap hY 1;have fin:=Lib.hid (hR.out _ (grown_2 (q:=w.heap.size+1) (grown_bl' b2) (by omega) (.int .i64 (8)) (.int .i64 (p.at_))) (by rw [hq];exact ne2 hC2 (by omega) _ _))
  rw [hq]at fin;clear hR;go_wp2_with fail
  refine bodyPost_ret ?_ rfl fin.out;simp [results,Tryz.results288,go_sem,y0,y1]
 ·have hp0:partC h f d m=wcF (f.drop 0) (.parts h.kind (nms (pnm f)) 0) (d+1) m:=if_neg c64
  have hl64:f.len≤64:=by omega
  have i1:¬(64:Int)<(f.len:Int):=by omega
  clear c64;go_wp2_with fail
  refine partNames_calls f hl64 (.slice Ap f.len cp) _ ((hyw.out.below hb0).below b2).p _ (Lib.hid fun vN wN1 rdN nN=>?_);have hT3:=(nN.block _ (blt_of hT)).trans hT;have hY3:=(nN.block _ (blt_of hY)).trans hY;have hC3:=(nN.block _ (blt_of hC2)).trans hC2;have b3:=b2.trans (nN.mono b2.size);have hpl64:(pnm f).length≤64:=by rw [pnm_len];exact hl64
  clear t6;go_wp2_with fail
  refine twice15_calls (pnm f) hpl64 vN wN1 rdN _ (Lib.hid fun wT nT=>?_);have hT4:=(nT.block _ (blt_of hT3)).trans hT3;have hY4:=(nT.block _ (blt_of hY3)).trans hY3;have hC4:=(nT.block _ (blt_of hC3)).trans hC3;have b4:=b3.trans (nT.mono b3.size);have htw:twiS (nms (pnm f))=twiS (nms (pnm f)):=rfl;generalize hTw:twiS (nms (pnm f))=T at htw ⊢;replace hTw:=Lib.hid hTw;have nb:=Lib.hid (grown_bl' (row:=some C) b4);clear htw b1 b2 b3 b4 hT hT3 hY hY3 hC2 hC3 nN nT rdN z1 i1;have t6:=(Lib.cell_of_heap hT4 6).trans rfl;go_wp2_with fail
  clear t6;go_loopg [29] f.len (fun g0 i wr=>∃(I c:Nat),i=.int .i64 I∧I+g0=f.len∧c≤512∧Hid (w.grownBy wr (some C))∧Hid (wr.heap[w.heap.size]?=some (.cells #[.int .i64 h.kind,.int .i64 h.at_,.int .i64 h.lo,.int .i64 h.hi,.int .i64 h.most,.slice An h.names.length cn,.slice Ap f.len cp,.string h.name,.int .i64 h.nat] 36))∧Hid (wr.heap[w.heap.size+1]?=some (.cells #[.int .i64 0,.int .i64 0] 26))∧Hid (wr.heap[C]?=some (.cells #[.int .i64 c] 331))∧Hid (partC h f d m=wcF (f.drop I) (.parts h.kind (nms (pnm f)) I) (d+1) c)∧Hid (∀j,j<I→listedS (nms (pnm f)) j=0))
  case atStart=>exact⟨0,m,rfl,by omega,hm,nb,Lib.hid hT4,Lib.hid hY4,Lib.hid hC4,Lib.hid hp0,Lib.hid fun j hj=>absurd hj (Nat.not_lt_zero _)⟩
  case round =>
   clear nb hT4 hY4 hC4 hp0;obtain⟨I,c,rfl,e1,hc5,nb,hT,hY,hCc,e2,hz⟩:=hrel
   by_cases hI:I<f.len
   ·obtain⟨p,x,kd,r,e⟩:=Fo.drop_lt hI
    have hb1:Below w0.heap.size w0 wr:=hb0.trans (grown_be' nb.out hC0 hsz0);obtain⟨g,o,lv,cv,nx,px,rfl,hg,hlv,hcv,hyx,hc⟩:=(hyw.out).p.part e;obtain⟨A1,n1,rfl,-,-⟩:=hlv.op;obtain⟨A2,n2,rfl,-,-⟩:=hcv.op;obtain⟨A5,n5,rfl,-,-⟩:=hyx.n.op;obtain⟨A7,n7,rfl,-⟩:=hyx.p.sl;obtain⟨gp,gx,gk',ga2⟩:=all_at I hga.out e;have ihK:=Lib.hid ((ih.out).at_ e);have hIl:I<(pnm f).length:=by rw [pnm_len];exact hI
    have hnf:=listed_nf (ns:=nms (pnm f)) (I:=I) (by rw [nms_len];exact hIl) hz.out p.at_
    rw [nms_at hIl,pnm_at I e,hTw.out]at hnf;have e3:=e2.out;rw [e]at e3;have d1:=Fo.drop_succ I e;have i0:(0:Int)≤(I:Int):=by omega
    have i1:(I:Int)<(f.len:Int):=by omega
    have rg:wr.rangeAt g (o+I*18) [.string p.name,.int .i64 p.at_,.bool p.bare,.slice A1 p.label.length n1,.int .i64 p.wide,.int .i64 p.ck,.int .i64 p.cn,.int .i64 p.cat,.slice A2 p.cl.length n2,.int .i64 x.kind,.int .i64 x.at_,.int .i64 x.lo,.int .i64 x.hi,.int .i64 x.most,.slice A5 x.names.length n5,.slice A7 kd.len n7,.string x.name,.int .i64 x.nat]:=fun j v h=>(hb1.cell (p:=⟨g,o+I*18+j,none⟩) hg).trans (hc j v h)
    have bP:=(Below.refl wr.heap.size wr).alloc (Nat.le_refl _) (.cells #[.string p.name,.int .i64 p.at_,.bool p.bare,.slice A1 p.label.length n1,.int .i64 p.wide,.int .i64 p.ck,.int .i64 p.cn,.int .i64 p.cat,.slice A2 p.cl.length n2,.int .i64 x.kind,.int .i64 x.at_,.int .i64 x.lo,.int .i64 x.hi,.int .i64 x.most,.slice A5 x.names.length n5,.slice A7 kd.len n7,.string x.name,.int .i64 x.nat] 127);have hP:=heap_alloc_new wr (.cells #[.string p.name,.int .i64 p.at_,.bool p.bare,.slice A1 p.label.length n1,.int .i64 p.wide,.int .i64 p.ck,.int .i64 p.cn,.int .i64 p.cat,.slice A2 p.cl.length n2,.int .i64 x.kind,.int .i64 x.at_,.int .i64 x.lo,.int .i64 x.hi,.int .i64 x.most,.slice A5 x.names.length n5,.slice A7 kd.len n7,.string x.name,.int .i64 x.nat] 127);clear hc e e2;go_upto_region 7 with(first|(refine wpList_load_g (by rfl) 127 _ rfl g (o+I*18) rfl [.string p.name,.int .i64 p.at_,.bool p.bare,.slice A1 p.label.length n1,.int .i64 p.wide,.int .i64 p.ck,.int .i64 p.cn,.int .i64 p.cat,.slice A2 p.cl.length n2,.int .i64 x.kind,.int .i64 x.at_,.int .i64 x.lo,.int .i64 x.hi,.int .i64 x.most,.slice A5 x.names.length n5,.slice A7 kd.len n7,.string x.name,.int .i64 x.nat] _ rg Tryz.underlying127 rfl (by kernel_rfl) ?_;go_simp)|(refine wpList_copy3 #[.string p.name,.int .i64 p.at_,.bool p.bare,.slice A1 p.label.length n1,.int .i64 p.wide,.int .i64 p.ck,.int .i64 p.cn,.int .i64 p.cat,.slice A2 p.cl.length n2,.int .i64 x.kind,.int .i64 x.at_,.int .i64 x.lo,.int .i64 x.hi,.int .i64 x.most,.slice A5 x.names.length n5,.slice A7 kd.len n7,.string x.name,.int .i64 x.nat] _ ⟨rfl,rfl,rfl⟩ rfl (fun _ _=>rfl) ⟨rfl,rfl,rfl⟩ part_alloc (by kernel_rfl) ⟨rfl,by simp [Value.oneCell']⟩ (fun _=>⟨rfl,rfl⟩) ?_;go_simp))
    clear rg;have hT5:=(bP.block _ (blt_of hT.out)).trans hT.out;have hY5:=(bP.block _ (blt_of hY.out)).trans hY.out;have hC5:=(bP.block _ (blt_of hCc.out)).trans hCc.out;have nb5:=grown_tr' nb.out (grown_bl' bP);have hwB:w.heap.size+2≤wr.heap.size:=blt_of hY.out;have hCB:C<wr.heap.size:=blt_of hCc.out;generalize wr.alloc (.cells #[.string p.name,.int .i64 p.at_,.bool p.bare,.slice A1 p.label.length n1,.int .i64 p.wide,.int .i64 p.ck,.int .i64 p.cn,.int .i64 p.cat,.slice A2 p.cl.length n2,.int .i64 x.kind,.int .i64 x.at_,.int .i64 x.lo,.int .i64 x.hi,.int .i64 x.most,.slice A5 x.names.length n5,.slice A7 kd.len n7,.string x.name,.int .i64 x.nat] 127)=V1 at *;generalize hBe:wr.heap.size=B at *;clear bP hb1 hBe hT hY hCc nb;have u0:=(Lib.cell_of_heap hP 0).trans rfl;have u1:=(Lib.cell_of_heap hP 1).trans rfl;have cN:=Lib.hid fun(bb:Bool) (hbb:((I:Int)==T)=bb) R hR=>nameFault_calls p.name p.at_ bb V1 gp.1 R hR
    go_wp2_with fail
    refine cN.out _ rfl _ (Lib.hid fun w6 n6=>?_);rw [hnf];have hT6:=(n6.block _ (blt_of hT5)).trans hT5;have hY6:=(n6.block _ (blt_of hY5)).trans hY5;have hC6:=(n6.block _ (blt_of hC5)).trans hC5;have hP6:=(n6.block _ (blt_of hP)).trans hP;have nb6:=grown_tr' nb5 (grown_bl' n6);clear cN n6 u0 u1 hnf hT5 hY5 hC5 hP nb5;have hs6:B+1≤w6.heap.size:=blt_of hP6;have bF:=fun e z'=>(Below.refl w6.heap.size w6).alloc (Nat.le_refl _) (.cells #[.int .i64 e,.int .i64 z'] 26)
    have hF:=fun e z'=>heap_alloc_new w6 (.cells #[.int .i64 e,.int .i64 z'] 26)
    generalize hE:listedS (nms (pnm f)) I=E at *
    by_cases hE0:E=0
    ·rw [if_neg (by simpa using hE0)]
     have hli:listedS (nms (pnm f)) I=0:=hE.trans hE0;rw [wcF_part _ _ _ _ _ _ _ _ _ hli]at e3
     have hz2:Hid (∀j,j<I+1→listedS (nms (pnm f)) j=0):=Lib.hid fun j hj=>by
      by_cases c:j<I
      ·exact hz.out j c
      ·obtain rfl:j=I:=by omega
       exact hli
     have hT7:=((bF 0 0).block _ (blt_of hT6)).trans hT6;have hY7:=((bF 0 0).block _ (blt_of hY6)).trans hY6;have hC7:=((bF 0 0).block _ (blt_of hC6)).trans hC6;have hP7:=((bF 0 0).block _ (blt_of hP6)).trans hP6;have hF7:=hF 0 0;have nb7:=grown_tr' nb6 (grown_bl' (bF 0 0));clear bF hF hE hE0 hli hz hT6 hY6 hC6 hP6 nb6;go_upto_region 8 with fail
     generalize w6.alloc (.cells #[.int .i64 0,.int .i64 0] 26)=V7 at *;generalize w6.heap.size=BF at *;have f0:=(Lib.cell_of_heap hF7 0).trans rfl;have t0:=(Lib.cell_of_heap hT7 0).trans rfl;have r0:V7.rangeAt B 0 [.string p.name,.int .i64 p.at_,.bool p.bare,.slice A1 p.label.length n1,.int .i64 p.wide,.int .i64 p.ck,.int .i64 p.cn,.int .i64 p.cat,.slice A2 p.cl.length n2,.int .i64 x.kind,.int .i64 x.at_,.int .i64 x.lo,.int .i64 x.hi,.int .i64 x.most,.slice A5 x.names.length n5,.slice A7 kd.len n7,.string x.name,.int .i64 x.nat]:=fun j v h=>by rw [Nat.zero_add,Lib.cell_of_heap hP7];simpa using h
     have cPf:=Lib.hid fun R hR=>(show Calls Tryz.prog 332 #[.agg #[.string p.name,.int .i64 p.at_,.bool p.bare,.slice A1 p.label.length n1,.int .i64 p.wide,.int .i64 p.ck,.int .i64 p.cn,.int .i64 p.cat,.slice A2 p.cl.length n2,.int .i64 x.kind,.int .i64 x.at_,.int .i64 x.lo,.int .i64 x.hi,.int .i64 x.most,.slice A5 x.names.length n5,.slice A7 kd.len n7,.string x.name,.int .i64 x.nat],.int .i64 h.kind] V7 R from partFault_calls p x kd h.kind hk.out (.slice A1 p.label.length n1) (.slice A2 p.cl.length n2) (.slice A5 x.names.length n5) (.slice A7 kd.len n7) V7 gp gx gk' ga2 (hlv.below (hb0.trans (grown_be' nb7 hC0 hsz0))) (hcv.below (hb0.trans (grown_be' nb7 hC0 hsz0))) (hyx.below (hb0.trans (grown_be' nb7 hC0 hsz0))) R hR)
     go_upto_region 9 with fail
     go_wp2_with (refine wpList_load_g (by rfl) 127 _ rfl B 0 rfl [.string p.name,.int .i64 p.at_,.bool p.bare,.slice A1 p.label.length n1,.int .i64 p.wide,.int .i64 p.ck,.int .i64 p.cn,.int .i64 p.cat,.slice A2 p.cl.length n2,.int .i64 x.kind,.int .i64 x.at_,.int .i64 x.lo,.int .i64 x.hi,.int .i64 x.most,.slice A5 x.names.length n5,.slice A7 kd.len n7,.string x.name,.int .i64 x.nat] _ r0 Tryz.underlying127 rfl (by kernel_rfl) ?_;go_simp)
     refine cPf.out _ (Lib.hid fun w8 n8=>?_);generalize partfS p x kd h.kind=PF at *;have hT8:=(n8.block _ (blt_of hT7)).trans hT7;have hY8:=(n8.block _ (blt_of hY7)).trans hY7;have hC8:=(n8.block _ (blt_of hC7)).trans hC7;have hP8:=(n8.block _ (blt_of hP7)).trans hP7;have hF8:=(n8.block _ (blt_of hF7)).trans hF7;have nb8:=grown_tr' nb7 (grown_bl' n8);clear cPf n8 f0 t0 r0 hT7 hY7 hC7 hP7 hF7 nb7;have g0:=(Lib.cell_of_heap hF8 0).trans rfl;have g1:=(Lib.cell_of_heap hF8 1).trans rfl;have gf0:=Lib.frozen_of_heap hF8 0;have gf1:=Lib.frozen_of_heap hF8 1;have hT9:=ne2 hT8 (q:=BF) (by omega) (.int .i64 PF.1) (.int .i64 PF.2);have hY9:=ne2 hY8 (q:=BF) (by omega) (.int .i64 PF.1) (.int .i64 PF.2);have hC9:=ne2 hC8 (q:=BF) (by omega) (.int .i64 PF.1) (.int .i64 PF.2);have hP9:=ne2 hP8 (q:=BF) (by omega) (.int .i64 PF.1) (.int .i64 PF.2);have hF9:=set_atK (set_atK hF8 0 (.int .i64 PF.1)) 1 (.int .i64 PF.2);have nb9:=grown_2 (q:=BF) nb8 (by omega) (.int .i64 PF.1) (.int .i64 PF.2);clear hT8 hY8 hC8 hP8 hF8 nb8;go_upto_region 10 with fail
     generalize(w8.setCell ⟨BF,0,none⟩ (.int .i64 PF.1)).setCell ⟨BF,1,none⟩ (.int .i64 PF.2)=V9 at *;clear g0 g1 gf0 gf1;have f0:=(Lib.cell_of_heap hF9 0).trans rfl;have f1:=(Lib.cell_of_heap hF9 1).trans rfl
     by_cases hp0:PF.1=0
     ·rw [if_neg (by simpa using hp0)]at e3
      rw [hp0]at f0;have u2:=(Lib.cell_of_heap hP9 2).trans rfl;cases hb:p.bare
      ·rw [hb]at u2 e3
       simp only[if_true]at e3;clear hb hp0;have s9:V9.rangeAt B 9 [.int .i64 x.kind,.int .i64 x.at_,.int .i64 x.lo,.int .i64 x.hi,.int .i64 x.most,.slice A5 x.names.length n5,.slice A7 kd.len n7,.string x.name,.int .i64 x.nat]:=fun j v h=>by rw [Lib.cell_of_heap hP9,List.getElem?_toArray,←List.getElem?_drop];exact h
       have cW:=Lib.hid fun R hR=>ihK.out x (.slice A5 x.names.length n5) (.slice A7 kd.len n7) c (d+1) w0 V9 C hc5 (by omega) gx gk' ga2 hyx (hb0.trans (grown_be' nb9 hC0 hsz0)) hC0 hC9 R hR
       rw [show((d+1:Nat):Int)=(d:Int)+1 from rfl]at cW;have hcnt:=wrB_cnt x kd _ (wcF_cnt kd) (d+1) c;have hzer:=wrB_zero x kd _ (wcF_zero kd) (d+1) c;generalize wrB x kd (wcF kd) (d+1) c=Rw at *;obtain⟨re,rz,rm⟩:=Rw;simp only at cW e3 hcnt hzer;go_upto_region 11 with fail
       go_wp2_with (refine wpList_load_g (by rfl) 36 _ rfl B 9 rfl [.int .i64 x.kind,.int .i64 x.at_,.int .i64 x.lo,.int .i64 x.hi,.int .i64 x.most,.slice A5 x.names.length n5,.slice A7 kd.len n7,.string x.name,.int .i64 x.nat] _ s9 Tryz.underlying36 rfl (by kernel_rfl) ?_;go_simp)
       refine cW.out _ (Lib.hid fun w10 n10 hC10=>?_);have hT10:=grown_k n10 hT9 (by omega);have hY10:=grown_k n10 hY9 (by omega);have hF10:=grown_k n10 hF9 (by omega);have nb10:=grown_tr' nb9 n10;clear cW n10 s9 u2 f0 f1 hT9 hY9 hF9 hC9 hP9 nb9;have g0:=(Lib.cell_of_heap hF10 0).trans rfl;have g1:=(Lib.cell_of_heap hF10 1).trans rfl;have gf0:=Lib.frozen_of_heap hF10 0;have gf1:=Lib.frozen_of_heap hF10 1;have hT11:=ne2 hT10 (q:=BF) (by omega) (.int .i64 re) (.int .i64 rz);have hY11:=ne2 hY10 (q:=BF) (by omega) (.int .i64 re) (.int .i64 rz);have hC11:=ne2 hC10 (q:=BF) (by omega) (.int .i64 re) (.int .i64 rz);have hF11:=set_atK (set_atK hF10 0 (.int .i64 re)) 1 (.int .i64 rz);have nb11:=grown_2 (q:=BF) nb10 (by omega) (.int .i64 re) (.int .i64 rz);clear hT10 hY10 hC10 hF10 nb10;go_upto_region 12 with fail
       generalize(w10.setCell ⟨BF,0,none⟩ (.int .i64 re)).setCell ⟨BF,1,none⟩ (.int .i64 rz)=V11 at *;clear g0 g1 gf0 gf1;have f0:=(Lib.cell_of_heap hF11 0).trans rfl;have f1:=(Lib.cell_of_heap hF11 1).trans rfl
       by_cases hr0:re=0
       ·subst hr0
        obtain rfl:=hzer rfl;have hm2:=hcnt rfl;rw [if_neg (by simp),←d1]at e3;go_wp2_with fail
        go_roundg (gk-1)
        case measure=>omega
        case rel=>exact⟨I+1,rm,by go_num,by omega,hm2,Lib.hid nb11,Lib.hid hT11,Lib.hid hY11,Lib.hid hC11,Lib.hid e3,hz2⟩
       ·rw [if_pos (by simpa using hr0)]at e3
        have qr:(re != 0)=true:=by simpa using hr0
        clear hr0 hcnt hzer;have y0:=(Lib.cell_of_heap hY11 0).trans rfl;have yf0:=Lib.frozen_of_heap hY11 0;have y1:=(Lib.cell_of_heap hY11 1).trans rfl;have yf1:=Lib.frozen_of_heap hY11 1;have fin:=Lib.hid (hR.out _ (grown_2 (q:=w.heap.size+1) nb11 (by omega) (.int .i64 (re)) (.int .i64 (rz))) (by rw [e3];exact ne2 hC11 (by omega) _ _))
        rw [e3]at fin;clear hR;go_wp2_with fail
        refine bodyPost_ret ?_ rfl fin.out;simp [results,Tryz.results288,go_sem,y0,y1]
      ·rw [hb]at u2 e3
       simp only[Bool.true_eq_false,if_false]at e3;rw [←d1]at e3;clear hb hp0;go_wp2_with fail
       go_roundg (gk-1)
       case measure=>omega
       case rel=>exact⟨I+1,c,by go_num,by omega,hc5,Lib.hid nb9,Lib.hid hT9,Lib.hid hY9,Lib.hid hC9,Lib.hid e3,hz2⟩
     ·rw [if_pos (by simpa using hp0)]at e3
      have q1:(PF.1==0)=false:=by simpa using hp0
      have q2:(PF.1 != 0)=true:=by simpa using hp0
      clear hp0;have y0:=(Lib.cell_of_heap hY9 0).trans rfl;have yf0:=Lib.frozen_of_heap hY9 0;have y1:=(Lib.cell_of_heap hY9 1).trans rfl;have yf1:=Lib.frozen_of_heap hY9 1;have fin:=Lib.hid (hR.out _ (grown_2 (q:=w.heap.size+1) nb9 (by omega) (.int .i64 (PF.1)) (.int .i64 (PF.2))) (by rw [e3];exact ne2 hC9 (by omega) _ _))
      rw [e3]at fin;clear hR;go_wp2_with fail
      refine bodyPost_ret ?_ rfl fin.out;simp [results,Tryz.results288,go_sem,y0,y1]
    ·rw [if_pos (by simpa using hE0)]
     have e4:partC h f d m=(E,p.at_,c):=by
      rw [e3];unfold wcF;rw [hE,if_pos (by simpa using hE0)]
     have qE:(E==0)=false:=by simpa using hE0
     have qE2:(E != 0)=true:=by simpa using hE0
     have hY7:=((bF E p.at_).block _ (blt_of hY6)).trans hY6;have hC7:=((bF E p.at_).block _ (blt_of hC6)).trans hC6;have hF7:=hF E p.at_;have nb7:=grown_tr' nb6 (grown_bl' (bF E p.at_));clear bF hF hE hE0 hz hT6 hY6 hC6 hP6 nb6 e3;go_upto_region 8 with fail
     generalize w6.alloc (.cells #[.int .i64 E,.int .i64 p.at_] 26)=V7 at *;generalize w6.heap.size=BF at *;have f0:=(Lib.cell_of_heap hF7 0).trans rfl;have f1:=(Lib.cell_of_heap hF7 1).trans rfl;have y0:=(Lib.cell_of_heap hY7 0).trans rfl;have yf0:=Lib.frozen_of_heap hY7 0;have y1:=(Lib.cell_of_heap hY7 1).trans rfl;have yf1:=Lib.frozen_of_heap hY7 1;have fin:=Lib.hid (hR.out _ (grown_2 (q:=w.heap.size+1) nb7 (by omega) (.int .i64 (E)) (.int .i64 (p.at_))) (by rw [e4];exact ne2 hC7 (by omega) _ _))
     rw [e4]at fin;clear hR;go_wp2_with fail
     refine bodyPost_ret ?_ rfl fin.out;simp [results,Tryz.results288,go_sem,y0,y1]
   ·obtain rfl:I=f.len:=by omega
    have e3:=e2.out;rw [Fo.drop_all (Nat.le_refl _)]at e3;have e4:partC h f d m=(0,0,c):=e3;clear e2 e3;have y0:=(Lib.cell_of_heap hY.out 0).trans rfl;have yf0:=Lib.frozen_of_heap hY.out 0;have y1:=(Lib.cell_of_heap hY.out 1).trans rfl;have yf1:=Lib.frozen_of_heap hY.out 1;have fin:=Lib.hid (hR.out _ (grown_2 (q:=w.heap.size+1) nb.out (by omega) (.int .i64 (0)) (.int .i64 (0))) (by rw [e4];exact ne2 hCc.out (by omega) _ _))
    rw [e4]at fin;clear hR;go_wp2_with fail
    refine bodyPost_ret ?_ rfl fin.out;simp [results,Tryz.results288,go_sem,y0,y1]
theorem grown_sc{w W:World}{p:Nat}(g:w.grownBy W (some p))(o:Nat)(a:Value):w.grownBy (W.setCell ⟨p,o,none⟩ a) (some p) :=
⟨((Below.refl p W).setCell (p:=⟨p,o,none⟩) (Nat.le_refl _) a).os.trans g.os,((Below.refl p W).setCell (p:=⟨p,o,none⟩) (Nat.le_refl _) a).tape.trans g.tape,((Below.refl p W).setCell (p:=⟨p,o,none⟩) (Nat.le_refl _) a).output.trans g.output,
 Nat.le_trans g.size ((Below.refl p W).setCell (p:=⟨p,o,none⟩) (Nat.le_refl _) a).size,fun k hk hr=>(Below.heap_setCell _ ⟨p,o,none⟩ a k (by simpa using hr)).trans (g.block k hk hr)⟩
theorem only_oneC{f:Ft}{p:PH}{x:TH}{k r:Ft}(e:f.drop 0=.cons p x k r)(hl:f.len=1):∀d m,wcF f .one d m=wrB x k (wcF k) d m:=by
 have e':f=.cons p x k r:=e;subst e';exact fun _ _=>rfl
theorem check_step(f:Ft)(ih:Fo.AllK CheckC f):CheckC f:=by
 intro h nv pv m d w0 w C hm hd gh hfl hga hy hb0 hC0 hC R hR;replace hfl:f.len≤9223372036854775807:=hfl;have hsz0:=hb0.size;obtain⟨Ap,cp,rfl,hpl⟩:=hy.p.sl;obtain⟨An,cn,rfl,-,-⟩:=hy.n.op;have b1:=(Below.refl w.heap.size w).alloc (Nat.le_refl _) (.cells #[.int .i64 h.kind,.int .i64 h.at_,.int .i64 h.lo,.int .i64 h.hi,.int .i64 h.most,.slice An h.names.length cn,.slice Ap f.len cp,.string h.name,.int .i64 h.nat] 36);have b2:=b1.alloc b1.size (.cells #[.int .i64 0,.int .i64 0] 26);have z1:(w.alloc (.cells #[.int .i64 h.kind,.int .i64 h.at_,.int .i64 h.lo,.int .i64 h.hi,.int .i64 h.most,.slice An h.names.length cn,.slice Ap f.len cp,.string h.name,.int .i64 h.nat] 36)).heap.size=w.heap.size+1:=by simp
 have hT:=(((Below.refl _ _).alloc (Nat.le_refl _) (.cells #[.int .i64 0,.int .i64 0] 26)).block w.heap.size (by omega)).trans (heap_alloc_new w (.cells #[.int .i64 h.kind,.int .i64 h.at_,.int .i64 h.lo,.int .i64 h.hi,.int .i64 h.most,.slice An h.names.length cn,.slice Ap f.len cp,.string h.name,.int .i64 h.nat] 36));have hY:=heap_alloc_new (w.alloc (.cells #[.int .i64 h.kind,.int .i64 h.at_,.int .i64 h.lo,.int .i64 h.hi,.int .i64 h.most,.slice An h.names.length cn,.slice Ap f.len cp,.string h.name,.int .i64 h.nat] 36)) (.cells #[.int .i64 0,.int .i64 0] 26);rw [z1]at hY;have lC:=blt_of hC;have hC2:=(b2.block _ lC).trans hC;have hyw:=Lib.hid hy;replace hga:=Lib.hid hga;replace gh:=Lib.hid gh;replace ih:=Lib.hid ih;go_enter Tryz.func243,Tryz.ntmps243
 go_upto_region 1 with fail
 generalize(w.alloc (.cells #[.int .i64 h.kind,.int .i64 h.at_,.int .i64 h.lo,.int .i64 h.hi,.int .i64 h.most,.slice An h.names.length cn,.slice Ap f.len cp,.string h.name,.int .i64 h.nat] 36)).alloc (.cells #[.int .i64 0,.int .i64 0] 26)=V at *;have c0:=(Lib.cell_of_heap hC2 0).trans rfl;have cf0:=Lib.frozen_of_heap hC2 0;go_upto_region 2 with fail
 obtain⟨M,hM⟩:∃M:Nat,M=m+1:=⟨_,rfl⟩;rw [show((m:Int)+1)=((M:Nat):Int)by omega];have hsz:=b2.size;have hYl:=blt_of hY;have nA:=Lib.hid (grown_sc (grown_bl' (row:=some C) b2) 0 (.int .i64 (M:Nat)));have hTA:=(set_neK (o:=0) (v:=.int .i64 (M:Nat)) (show w.heap.size≠C by omega)).trans hT;have hYA:=(set_neK (o:=0) (v:=.int .i64 (M:Nat)) (show w.heap.size+1≠C by omega)).trans hY;have hCA:(V.setCell ⟨C,0,none⟩ (.int .i64 (M:Nat))).heap[C]?=some (.cells #[.int .i64 (M:Nat)] 331):=set_atK hC2 0 (.int .i64 (M:Nat));replace hM:=Lib.hid hM;generalize V.setCell ⟨C,0,none⟩ (.int .i64 (M:Nat))=WA at *;clear c0 cf0 b1 b2 hT hY hC2 hC hsz hYl z1;have t1:=(Lib.cell_of_heap hTA 1).trans rfl;have k0:=(Lib.cell_of_heap hCA 0).trans rfl;have hE:=wrB_err h f (wcF f) d m;rw [←hM.out]at hE
 by_cases c1:24<d
 ·rw [if_pos c1]at hE
  have y0:=(Lib.cell_of_heap hYA 0).trans rfl;have yf0:=Lib.frozen_of_heap hYA 0;have y1:=(Lib.cell_of_heap hYA 1).trans rfl;have yf1:=Lib.frozen_of_heap hYA 1;have fin:=Lib.hid (hR.out _ (grown_2 (q:=w.heap.size+1) nA.out (by omega) (.int .i64 (6)) (.int .i64 (h.at_))) (by rw [hE];exact ne2 hCA (by omega) _ _))
  rw [hE]at fin;clear hR;go_wp2_with fail
  refine bodyPost_ret ?_ rfl fin.out;simp [results,Tryz.results243,go_sem,y0,y1]
 ·rw [if_neg c1]at hE
  by_cases c2:512<M
  ·rw [if_pos c2]at hE
   have y0:=(Lib.cell_of_heap hYA 0).trans rfl;have yf0:=Lib.frozen_of_heap hYA 0;have y1:=(Lib.cell_of_heap hYA 1).trans rfl;have yf1:=Lib.frozen_of_heap hYA 1;have fin:=Lib.hid (hR.out _ (grown_2 (q:=w.heap.size+1) nA.out (by omega) (.int .i64 (8)) (.int .i64 (h.at_))) (by rw [hE];exact ne2 hCA (by omega) _ _))
   rw [hE]at fin;clear hR;go_wp2_with fail
   refine bodyPost_ret ?_ rfl fin.out;simp [results,Tryz.results243,go_sem,y0,y1]
  ·clear hE
   have hd2:d≤24:=by omega
   have hm2:M≤512:=by omega
   have hS:=wro_spec h f (wcF f) d m M hM.out hd2 hm2;have r0:WA.rangeAt w.heap.size 0 [.int .i64 h.kind,.int .i64 h.at_,.int .i64 h.lo,.int .i64 h.hi,.int .i64 h.most,.slice An h.names.length cn,.slice Ap f.len cp,.string h.name,.int .i64 h.nat]:=fun j v e=>by rw [Nat.zero_add,Lib.cell_of_heap hTA];simpa using e
   have cW:=Lib.hid fun R hR=>wrong_calls f h (.slice An h.names.length cn) (.slice Ap f.len cp) WA gh.out.2.2.2.2.2.2.2.2 hfl hga.out (hyw.out.below (hb0.trans (grown_be' nA.out hC0 hsz0))) R hR
   have he:=fun q=>wro_elem (h:=h) (k:=f) q
   generalize wroS h f=E at *;go_upto_region 6 with fail
   clear t1 k0;go_wp2_with (refine wpList_load_g (by rfl) 36 _ rfl w.heap.size 0 rfl [.int .i64 h.kind,.int .i64 h.at_,.int .i64 h.lo,.int .i64 h.hi,.int .i64 h.most,.slice An h.names.length cn,.slice Ap f.len cp,.string h.name,.int .i64 h.nat] _ r0 Tryz.underlying36 rfl (by kernel_rfl) ?_;go_simp)
   refine cW.out _ (Lib.hid fun wB nB=>?_);have hTB:=(nB.block _ (blt_of hTA)).trans hTA;have hYB:=(nB.block _ (blt_of hYA)).trans hYA;have hCB:=(nB.block _ (blt_of hCA)).trans hCA;have nb:=Lib.hid (grown_tr' nA.out (grown_bl' nB));clear cW r0 nB hTA hYA hCA nA;have t1:=(Lib.cell_of_heap hTB 1).trans rfl
   by_cases e0:E=0
   ·rw [if_neg (by simpa using e0)]at hS
    obtain⟨hk,hon⟩:=he e0;subst e0;have t0:=(Lib.cell_of_heap hTB 0).trans rfl;have bb:=Lib.hid (hb0.trans (grown_be' nb.out hC0 hsz0));have hk':(h.kind=1∨h.kind=2∨h.kind=3)∨h.kind=4∨h.kind=5∨h.kind=6∨h.kind=7∨h.kind=8∨h.kind=9:=by omega
    replace hon:=Lib.hid hon;clear he hk;rcases hk' with hk|hk|hk|hk|hk|hk|hk
    ·have hq:wrB h f (wcF f) d m=(0,0,M):=by rw [hS];unfold postS;rw [if_neg (by omega),if_neg (by omega),if_neg (by omega),if_neg (by omega)]
     rcases hk with hk|hk|hk
     ·rw [hk]at t0
      clear hk;have y0:=(Lib.cell_of_heap hYB 0).trans rfl;have yf0:=Lib.frozen_of_heap hYB 0;have y1:=(Lib.cell_of_heap hYB 1).trans rfl;have yf1:=Lib.frozen_of_heap hYB 1;have fin:=Lib.hid (hR.out _ (grown_2 (q:=w.heap.size+1) nb.out (by omega) (.int .i64 (0)) (.int .i64 (0))) (by rw [hq];exact ne2 hCB (by omega) _ _))
      rw [hq]at fin;clear hR;go_wp2_with fail
      refine bodyPost_ret ?_ rfl fin.out;simp [results,Tryz.results243,go_sem,y0,y1]
     ·rw [hk]at t0
      clear hk;have y0:=(Lib.cell_of_heap hYB 0).trans rfl;have yf0:=Lib.frozen_of_heap hYB 0;have y1:=(Lib.cell_of_heap hYB 1).trans rfl;have yf1:=Lib.frozen_of_heap hYB 1;have fin:=Lib.hid (hR.out _ (grown_2 (q:=w.heap.size+1) nb.out (by omega) (.int .i64 (0)) (.int .i64 (0))) (by rw [hq];exact ne2 hCB (by omega) _ _))
      rw [hq]at fin;clear hR;go_wp2_with fail
      refine bodyPost_ret ?_ rfl fin.out;simp [results,Tryz.results243,go_sem,y0,y1]
     ·rw [hk]at t0
      clear hk;have y0:=(Lib.cell_of_heap hYB 0).trans rfl;have yf0:=Lib.frozen_of_heap hYB 0;have y1:=(Lib.cell_of_heap hYB 1).trans rfl;have yf1:=Lib.frozen_of_heap hYB 1;have fin:=Lib.hid (hR.out _ (grown_2 (q:=w.heap.size+1) nb.out (by omega) (.int .i64 (0)) (.int .i64 (0))) (by rw [hq];exact ne2 hCB (by omega) _ _))
      rw [hq]at fin;clear hR;go_wp2_with fail
      refine bodyPost_ret ?_ rfl fin.out;simp [results,Tryz.results243,go_sem,y0,y1]
    ·have hq:wrB h f (wcF f) d m=((if 64<h.names.length then((8:Int),(wN h.names 64).2)else enumF (nms h.names) 0 h.names).1,(if 64<h.names.length then((8:Int),(wN h.names 64).2)else enumF (nms h.names) 0 h.names).2,M):=by rw [hS];unfold postS;rw [if_pos hk];split<;>rfl
     rw [hk]at t0;clear hk;have t5:=(Lib.cell_of_heap hTB 5).trans rfl;go_wp2_with fail
     refine namesFault_calls h.names gh.out.2.2.2.2.2.2.2.2 gh.out.2.2.2.2.2.1 (.slice An h.names.length cn) wB (hyw.out.below bb.out).n _ (Lib.hid fun wL nL=>?_);generalize(if 64<h.names.length then((8:Int),(wN h.names 64).2)else enumF (nms h.names) 0 h.names)=NF at *;have hYL:=(nL.block _ (blt_of hYB)).trans hYB;have hCL:=(nL.block _ (blt_of hCB)).trans hCB;have nbL:=grown_tr' nb.out (grown_bl' nL);have y0:=(Lib.cell_of_heap hYL 0).trans rfl;have yf0:=Lib.frozen_of_heap hYL 0;have y1:=(Lib.cell_of_heap hYL 1).trans rfl;have yf1:=Lib.frozen_of_heap hYL 1;have fin:=Lib.hid (hR.out _ (grown_2 (q:=w.heap.size+1) nbL (by omega) (.int .i64 (NF.1)) (.int .i64 (NF.2))) (by rw [hq];exact ne2 hCL (by omega) _ _))
     rw [hq]at fin;clear hR;go_wp2_with fail
     refine bodyPost_ret ?_ rfl fin.out;simp [results,Tryz.results243,go_sem,y0,y1]
    ·have hq:wrB h f (wcF f) d m=wcF f .one (d+1) M:=by rw [hS];unfold postS;rw [if_neg (by omega),if_pos (by omega)]
     have hl:f.len=1:=by
      cases Nat.decEq f.len 1 with
      | isTrue q=>exact q
      | isFalse q=>have:=hon.out (by omega);rw [only_len q]at this;cases this
     obtain⟨p,x,kd,r,e⟩:=Fo.drop_lt (n:=0) (f:=f) (by omega);obtain⟨g,o,lv,cv,nx,px,rfl,hg,-,-,hyx,hc⟩:=hyw.out.p.part e;obtain⟨A5,n5,rfl,-,-⟩:=hyx.n.op;obtain⟨A7,n7,rfl,-⟩:=hyx.p.sl;obtain⟨gp,gx,gk',ga2⟩:=all_at 0 hga.out e;have ihK:=Lib.hid ((ih.out).at_ e);rw [only_oneC e hl]at hq;have t6:=(Lib.cell_of_heap hTB 6).trans rfl;have rgX:wB.rangeAt g (o+9) [.int .i64 x.kind,.int .i64 x.at_,.int .i64 x.lo,.int .i64 x.hi,.int .i64 x.most,.slice A5 x.names.length n5,.slice A7 kd.len n7,.string x.name,.int .i64 x.nat]:=fun j v h=>(bb.out.cell (p:=⟨g,o+9+j,none⟩) hg).trans (by have:=hc (9+j) v (by rw [←List.getElem?_drop];exact h);rwa [Nat.zero_mul,Nat.add_zero,←Nat.add_assoc]at this)
     rw [hl]at t6;rw [hk]at t0;have cK:=Lib.hid fun R hR=>ihK.out x (.slice A5 x.names.length n5) (.slice A7 kd.len n7) M (d+1) w0 wB C hm2 (by omega) gx gk' ga2 hyx bb.out hC0 hCB R hR
     rw [show((d+1:Nat):Int)=(d:Int)+1 from rfl]at cK;clear hk hl e hc hon;generalize wrB x kd (wcF kd) (d+1) M=RK at *;go_upto_region 14 with fail
     clear t0 t1;go_wp2_with (refine wpList_load_g (by rfl) 36 _ rfl g (o+9) rfl [.int .i64 x.kind,.int .i64 x.at_,.int .i64 x.lo,.int .i64 x.hi,.int .i64 x.most,.slice A5 x.names.length n5,.slice A7 kd.len n7,.string x.name,.int .i64 x.nat] _ rgX Tryz.underlying36 rfl (by kernel_rfl) ?_;go_simp)
     refine cK.out _ (Lib.hid fun wL nL hCL=>?_);have hYL:=grown_k nL hYB (by have:=blt_of hCB;omega)
     have nbL:=grown_tr' nb.out nL;clear t6 rgX cK;have y0:=(Lib.cell_of_heap hYL 0).trans rfl;have yf0:=Lib.frozen_of_heap hYL 0;have y1:=(Lib.cell_of_heap hYL 1).trans rfl;have yf1:=Lib.frozen_of_heap hYL 1;have fin:=Lib.hid (hR.out _ (grown_2 (q:=w.heap.size+1) nbL (by omega) (.int .i64 (RK.1)) (.int .i64 (RK.2.1))) (by rw [hq];exact ne2 hCL (by omega) _ _))
     rw [hq]at fin;clear hR;go_wp2_with fail
     refine bodyPost_ret ?_ rfl fin.out;simp [results,Tryz.results243,go_sem,y0,y1]
    ·have hq:wrB h f (wcF f) d m=wcF f .one (d+1) M:=by rw [hS];unfold postS;rw [if_neg (by omega),if_pos (by omega)]
     have hl:f.len=1:=by
      cases Nat.decEq f.len 1 with
      | isTrue q=>exact q
      | isFalse q=>have:=hon.out (by omega);rw [only_len q]at this;cases this
     obtain⟨p,x,kd,r,e⟩:=Fo.drop_lt (n:=0) (f:=f) (by omega);obtain⟨g,o,lv,cv,nx,px,rfl,hg,-,-,hyx,hc⟩:=hyw.out.p.part e;obtain⟨A5,n5,rfl,-,-⟩:=hyx.n.op;obtain⟨A7,n7,rfl,-⟩:=hyx.p.sl;obtain⟨gp,gx,gk',ga2⟩:=all_at 0 hga.out e;have ihK:=Lib.hid ((ih.out).at_ e);rw [only_oneC e hl]at hq;have t6:=(Lib.cell_of_heap hTB 6).trans rfl;have rgX:wB.rangeAt g (o+9) [.int .i64 x.kind,.int .i64 x.at_,.int .i64 x.lo,.int .i64 x.hi,.int .i64 x.most,.slice A5 x.names.length n5,.slice A7 kd.len n7,.string x.name,.int .i64 x.nat]:=fun j v h=>(bb.out.cell (p:=⟨g,o+9+j,none⟩) hg).trans (by have:=hc (9+j) v (by rw [←List.getElem?_drop];exact h);rwa [Nat.zero_mul,Nat.add_zero,←Nat.add_assoc]at this)
     rw [hl]at t6;rw [hk]at t0;have cK:=Lib.hid fun R hR=>ihK.out x (.slice A5 x.names.length n5) (.slice A7 kd.len n7) M (d+1) w0 wB C hm2 (by omega) gx gk' ga2 hyx bb.out hC0 hCB R hR
     rw [show((d+1:Nat):Int)=(d:Int)+1 from rfl]at cK;clear hk hl e hc hon;generalize wrB x kd (wcF kd) (d+1) M=RK at *;go_upto_region 14 with fail
     clear t0 t1;go_wp2_with (refine wpList_load_g (by rfl) 36 _ rfl g (o+9) rfl [.int .i64 x.kind,.int .i64 x.at_,.int .i64 x.lo,.int .i64 x.hi,.int .i64 x.most,.slice A5 x.names.length n5,.slice A7 kd.len n7,.string x.name,.int .i64 x.nat] _ rgX Tryz.underlying36 rfl (by kernel_rfl) ?_;go_simp)
     refine cK.out _ (Lib.hid fun wL nL hCL=>?_);have hYL:=grown_k nL hYB (by have:=blt_of hCB;omega)
     have nbL:=grown_tr' nb.out nL;clear t6 rgX cK;have y0:=(Lib.cell_of_heap hYL 0).trans rfl;have yf0:=Lib.frozen_of_heap hYL 0;have y1:=(Lib.cell_of_heap hYL 1).trans rfl;have yf1:=Lib.frozen_of_heap hYL 1;have fin:=Lib.hid (hR.out _ (grown_2 (q:=w.heap.size+1) nbL (by omega) (.int .i64 (RK.1)) (.int .i64 (RK.2.1))) (by rw [hq];exact ne2 hCL (by omega) _ _))
     rw [hq]at fin;clear hR;go_wp2_with fail
     refine bodyPost_ret ?_ rfl fin.out;simp [results,Tryz.results243,go_sem,y0,y1]
    ·have hq:wrB h f (wcF f) d m=partC h f d M:=by rw [hS];unfold postS partC;rw [if_neg (by omega),if_neg (by omega),if_pos (by omega)]
     have r0:wB.rangeAt w.heap.size 0 [.int .i64 h.kind,.int .i64 h.at_,.int .i64 h.lo,.int .i64 h.hi,.int .i64 h.most,.slice An h.names.length cn,.slice Ap f.len cp,.string h.name,.int .i64 h.nat]:=fun j v e=>by rw [Nat.zero_add,Lib.cell_of_heap hTB];simpa using e
     have cK:=Lib.hid fun R hR=>checkParts_calls f ih.out h (.slice An h.names.length cn) (.slice Ap f.len cp) M d w0 wB C hm2 hd2 (by omega) gh.out hfl hga.out hyw.out bb.out hC0 hCB R hR
     rw [hk]at t0;clear hk hon;generalize partC h f d M=RK at *;go_upto_region 17 with fail
     clear t0 t1;go_wp2_with (refine wpList_load_g (by rfl) 36 _ rfl w.heap.size 0 rfl [.int .i64 h.kind,.int .i64 h.at_,.int .i64 h.lo,.int .i64 h.hi,.int .i64 h.most,.slice An h.names.length cn,.slice Ap f.len cp,.string h.name,.int .i64 h.nat] _ r0 Tryz.underlying36 rfl (by kernel_rfl) ?_;go_simp)
     refine cK.out _ (Lib.hid fun wL nL hCL=>?_);have hYL:=grown_k nL hYB (by have:=blt_of hCB;omega)
     have nbL:=grown_tr' nb.out nL;clear r0 cK;have y0:=(Lib.cell_of_heap hYL 0).trans rfl;have yf0:=Lib.frozen_of_heap hYL 0;have y1:=(Lib.cell_of_heap hYL 1).trans rfl;have yf1:=Lib.frozen_of_heap hYL 1;have fin:=Lib.hid (hR.out _ (grown_2 (q:=w.heap.size+1) nbL (by omega) (.int .i64 (RK.1)) (.int .i64 (RK.2.1))) (by rw [hq];exact ne2 hCL (by omega) _ _))
     rw [hq]at fin;clear hR;go_wp2_with fail
     refine bodyPost_ret ?_ rfl fin.out;simp [results,Tryz.results243,go_sem,y0,y1]
    ·have hq:wrB h f (wcF f) d m=partC h f d M:=by rw [hS];unfold postS partC;rw [if_neg (by omega),if_neg (by omega),if_pos (by omega)]
     have r0:wB.rangeAt w.heap.size 0 [.int .i64 h.kind,.int .i64 h.at_,.int .i64 h.lo,.int .i64 h.hi,.int .i64 h.most,.slice An h.names.length cn,.slice Ap f.len cp,.string h.name,.int .i64 h.nat]:=fun j v e=>by rw [Nat.zero_add,Lib.cell_of_heap hTB];simpa using e
     have cK:=Lib.hid fun R hR=>checkParts_calls f ih.out h (.slice An h.names.length cn) (.slice Ap f.len cp) M d w0 wB C hm2 hd2 (by omega) gh.out hfl hga.out hyw.out bb.out hC0 hCB R hR
     rw [hk]at t0;clear hk hon;generalize partC h f d M=RK at *;go_upto_region 17 with fail
     clear t0 t1;go_wp2_with (refine wpList_load_g (by rfl) 36 _ rfl w.heap.size 0 rfl [.int .i64 h.kind,.int .i64 h.at_,.int .i64 h.lo,.int .i64 h.hi,.int .i64 h.most,.slice An h.names.length cn,.slice Ap f.len cp,.string h.name,.int .i64 h.nat] _ r0 Tryz.underlying36 rfl (by kernel_rfl) ?_;go_simp)
     refine cK.out _ (Lib.hid fun wL nL hCL=>?_);have hYL:=grown_k nL hYB (by have:=blt_of hCB;omega)
     have nbL:=grown_tr' nb.out nL;clear r0 cK;have y0:=(Lib.cell_of_heap hYL 0).trans rfl;have yf0:=Lib.frozen_of_heap hYL 0;have y1:=(Lib.cell_of_heap hYL 1).trans rfl;have yf1:=Lib.frozen_of_heap hYL 1;have fin:=Lib.hid (hR.out _ (grown_2 (q:=w.heap.size+1) nbL (by omega) (.int .i64 (RK.1)) (.int .i64 (RK.2.1))) (by rw [hq];exact ne2 hCL (by omega) _ _))
     rw [hq]at fin;clear hR;go_wp2_with fail
     refine bodyPost_ret ?_ rfl fin.out;simp [results,Tryz.results243,go_sem,y0,y1]
    ·have hq:wrB h f (wcF f) d m=((nfS h.name h.nat false).1,(nfS h.name h.nat false).2,M):=by
      rw [hS];unfold postS nfS;rw [if_neg (by omega),if_neg (by omega),if_neg (by omega),if_pos hk]
      split<;>rfl
     rw [hk]at t0;clear hk hon;have t7:=(Lib.cell_of_heap hTB 7).trans rfl;have t8:=(Lib.cell_of_heap hTB 8).trans rfl;go_wp2_with fail
     refine nameFault_calls h.name h.nat false wB gh.out.2.2.2.2.2.2.1 _ (Lib.hid fun wL nL=>?_);generalize nfS h.name h.nat false=NF at *;have hYL:=(nL.block _ (blt_of hYB)).trans hYB;have hCL:=(nL.block _ (blt_of hCB)).trans hCB;have nbL:=grown_tr' nb.out (grown_bl' nL);have y0:=(Lib.cell_of_heap hYL 0).trans rfl;have yf0:=Lib.frozen_of_heap hYL 0;have y1:=(Lib.cell_of_heap hYL 1).trans rfl;have yf1:=Lib.frozen_of_heap hYL 1;have fin:=Lib.hid (hR.out _ (grown_2 (q:=w.heap.size+1) nbL (by omega) (.int .i64 (NF.1)) (.int .i64 (NF.2))) (by rw [hq];exact ne2 hCL (by omega) _ _))
     rw [hq]at fin;clear hR;go_wp2_with fail
     refine bodyPost_ret ?_ rfl fin.out;simp [results,Tryz.results243,go_sem,y0,y1]
   ·rw [if_pos (by simpa using e0)]at hS
    have qE:(E != 0)=true:=by simpa using e0
    clear e0 he;have y0:=(Lib.cell_of_heap hYB 0).trans rfl;have yf0:=Lib.frozen_of_heap hYB 0;have y1:=(Lib.cell_of_heap hYB 1).trans rfl;have yf1:=Lib.frozen_of_heap hYB 1;have fin:=Lib.hid (hR.out _ (grown_2 (q:=w.heap.size+1) nb.out (by omega) (.int .i64 (E)) (.int .i64 (h.at_))) (by rw [hS];exact ne2 hCB (by omega) _ _))
    rw [hS]at fin;clear hR;go_wp2_with fail
    refine bodyPost_ret ?_ rfl fin.out;simp [results,Tryz.results243,go_sem,y0,y1]
theorem check_calls(f:Ft):CheckC f:=Fo.deep check_step f
noncomputable def wcS(h:TH)(f:Ft):Res:=wrB h f (wcF f) 1 0
theorem right15_calls(f:Ft)(h:TH)(nv pv:Value)(w:World)(gh:GoodH h)(hfl:f.len≤maxLen)(hga:f.All GoodH GoodL)(hy:RdY w h f nv pv)(R:Ending→World→Prop)
  (hR:Hid (∀w',Below w.heap.size w w'→R (.returned (.agg #[.int .i64 (wcS h f).1,.int .i64 (wcS h f).2.1])) w')):Calls Tryz.prog 179 #[tyV h nv pv] w R:=by
 obtain⟨Ap,cp,rfl,hpl⟩:=hy.p.sl;obtain⟨An,cn,rfl,-,-⟩:=hy.n.op;have b1:=(Below.refl w.heap.size w).alloc (Nat.le_refl _) (.cells #[.int .i64 h.kind,.int .i64 h.at_,.int .i64 h.lo,.int .i64 h.hi,.int .i64 h.most,.slice An h.names.length cn,.slice Ap f.len cp,.string h.name,.int .i64 h.nat] 36);have b2:=b1.alloc b1.size (.cells #[.int .i64 0,.int .i64 0] 26);have b3:=b2.alloc b2.size (.cells #[.int .i64 0] 331);have z1:(w.alloc (.cells #[.int .i64 h.kind,.int .i64 h.at_,.int .i64 h.lo,.int .i64 h.hi,.int .i64 h.most,.slice An h.names.length cn,.slice Ap f.len cp,.string h.name,.int .i64 h.nat] 36)).heap.size=w.heap.size+1:=by simp
 have z2:((w.alloc (.cells #[.int .i64 h.kind,.int .i64 h.at_,.int .i64 h.lo,.int .i64 h.hi,.int .i64 h.most,.slice An h.names.length cn,.slice Ap f.len cp,.string h.name,.int .i64 h.nat] 36)).alloc (.cells #[.int .i64 0,.int .i64 0] 26)).heap.size=w.heap.size+2:=by simp
 have hT:=(((Below.refl _ _).alloc (Nat.le_refl _) (.cells #[.int .i64 0,.int .i64 0] 26)).block w.heap.size (by omega)).trans (heap_alloc_new w (.cells #[.int .i64 h.kind,.int .i64 h.at_,.int .i64 h.lo,.int .i64 h.hi,.int .i64 h.most,.slice An h.names.length cn,.slice Ap f.len cp,.string h.name,.int .i64 h.nat] 36));have hY:=heap_alloc_new (w.alloc (.cells #[.int .i64 h.kind,.int .i64 h.at_,.int .i64 h.lo,.int .i64 h.hi,.int .i64 h.most,.slice An h.names.length cn,.slice Ap f.len cp,.string h.name,.int .i64 h.nat] 36)) (.cells #[.int .i64 0,.int .i64 0] 26);rw [z1]at hY;have hT2:=(((Below.refl _ _).alloc (Nat.le_refl _) (.cells #[.int .i64 0] 331)).block w.heap.size (by omega)).trans hT;have hY2:=(((Below.refl _ _).alloc (Nat.le_refl _) (.cells #[.int .i64 0] 331)).block (w.heap.size+1) (by omega)).trans hY;have hC:=heap_alloc_new ((w.alloc (.cells #[.int .i64 h.kind,.int .i64 h.at_,.int .i64 h.lo,.int .i64 h.hi,.int .i64 h.most,.slice An h.names.length cn,.slice Ap f.len cp,.string h.name,.int .i64 h.nat] 36)).alloc (.cells #[.int .i64 0,.int .i64 0] 26)) (.cells #[.int .i64 0] 331);rw [z2]at hC;have hyw:=Lib.hid hy;clear hT hY z1 z2 hy b1 b2;have cK:=Lib.hid fun R hR=>check_calls f h (.slice An h.names.length cn) (.slice Ap f.len cp) 0 1 w (((w.alloc (.cells #[.int .i64 h.kind,.int .i64 h.at_,.int .i64 h.lo,.int .i64 h.hi,.int .i64 h.most,.slice An h.names.length cn,.slice Ap f.len cp,.string h.name,.int .i64 h.nat] 36)).alloc (.cells #[.int .i64 0,.int .i64 0] 26)).alloc (.cells #[.int .i64 0] 331)) (w.heap.size+2) (by omega) (by omega) gh hfl hga hyw.out b3 (by omega) hC R hR
 have r0:(((w.alloc (.cells #[.int .i64 h.kind,.int .i64 h.at_,.int .i64 h.lo,.int .i64 h.hi,.int .i64 h.most,.slice An h.names.length cn,.slice Ap f.len cp,.string h.name,.int .i64 h.nat] 36)).alloc (.cells #[.int .i64 0,.int .i64 0] 26)).alloc (.cells #[.int .i64 0] 331)).rangeAt w.heap.size 0 [.int .i64 h.kind,.int .i64 h.at_,.int .i64 h.lo,.int .i64 h.hi,.int .i64 h.most,.slice An h.names.length cn,.slice Ap f.len cp,.string h.name,.int .i64 h.nat]:=fun j v e=>by rw [Nat.zero_add,Lib.cell_of_heap hT2];simpa using e
 go_enter Tryz.func179,Tryz.ntmps179
 go_upto_region 1 with fail
 go_wp2_with (refine wpList_load_g (by rfl) 36 _ rfl w.heap.size 0 rfl [.int .i64 h.kind,.int .i64 h.at_,.int .i64 h.lo,.int .i64 h.hi,.int .i64 h.most,.slice An h.names.length cn,.slice Ap f.len cp,.string h.name,.int .i64 h.nat] _ r0 Tryz.underlying36 rfl (by kernel_rfl) ?_;go_simp)
 generalize((w.alloc (.cells #[.int .i64 h.kind,.int .i64 h.at_,.int .i64 h.lo,.int .i64 h.hi,.int .i64 h.most,.slice An h.names.length cn,.slice Ap f.len cp,.string h.name,.int .i64 h.nat] 36)).alloc (.cells #[.int .i64 0,.int .i64 0] 26)).alloc (.cells #[.int .i64 0] 331)=V at *;refine cK.out _ (Lib.hid fun wL nL hCL=>?_);have hYL:=grown_k nL hY2 (by omega);have nb:=b3.trans (grown_be' nL (by omega) b3.size);have hq:wcS h f=wrB h f (wcF f) 1 0:=rfl;generalize wrB h f (wcF f) 1 0=RK at *;clear cK r0 nL hCL;have y0:=(Lib.cell_of_heap hYL 0).trans rfl;have yf0:=Lib.frozen_of_heap hYL 0;have y1:=(Lib.cell_of_heap hYL 1).trans rfl;have yf1:=Lib.frozen_of_heap hYL 1;have fin:=Lib.hid (hR.out _ (set2k' (q:=w.heap.size+1) (by omega) nb (.int .i64 RK.1) (.int .i64 RK.2.1)));rw [hq]at fin;clear hR;go_wp2_with fail
 refine bodyPost_ret ?_ rfl fin.out;simp [results,Tryz.results179,go_sem,y0,y1]
end Go.Proofs.YtabhkakomececaaGreat.Kin
