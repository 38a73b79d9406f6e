import Derived.Test.YtncckdaflellnaaGreatQ16
import Derived.Test.YtncckdaflellnaaGreatQ15
set_option linter.all false
set_option maxRecDepth 100000
set_option maxHeartbeats 4000000
namespace Go.Proofs.YtncckdaflellnaaGreat.Kin
open Go.RowKit Go.Lib Utf Nam Lat
theorem grown_tr'{w w' w'':World}{row:Option Nat}(h:w.grownBy w' row)(h':w'.grownBy w'' row):w.grownBy w'' row :=
⟨h'.os.trans h.os,h'.tape.trans h.tape,h'.output.trans h.output,Nat.le_trans h.size h'.size,fun k hk hr=>(h'.block k (Nat.lt_of_lt_of_le hk h.size) hr).trans (h.block k hk hr)⟩
theorem grown_bl'{w w':World}{row:Option Nat}(h:Below w.heap.size w w'):w.grownBy w' row:=⟨h.os,h.tape,h.output,h.size,fun k hk _=>h.block k hk⟩
theorem grown_be'{B0 B:Nat}{w w':World}(h:w.grownBy w' (some B))(h0:B0≤B)(h1:B0≤w.heap.size):Below B0 w w':=grown_below h h1 (fun k e=>by cases e;exact h0)
theorem grown_st'{w W:World}{p:Nat}(g:w.grownBy W (some p)){q o:Nat}(hq:w.heap.size≤q)(a:Value):w.grownBy (W.setCell ⟨q,o,none⟩ a) (some p) :=
⟨((Below.refl q W).setCell (p:=⟨q,o,none⟩) (Nat.le_refl _) a).os.trans g.os,((Below.refl q W).setCell (p:=⟨q,o,none⟩) (Nat.le_refl _) a).tape.trans g.tape,((Below.refl q W).setCell (p:=⟨q,o,none⟩) (Nat.le_refl _) a).output.trans g.output,
 Nat.le_trans g.size ((Below.refl q W).setCell (p:=⟨q,o,none⟩) (Nat.le_refl _) a).size,fun k hk hr=>(((Below.refl q W).setCell (p:=⟨q,o,none⟩) (Nat.le_refl _) a).block k (Nat.lt_of_lt_of_le hk hq)).trans (g.block k hk hr)⟩
theorem grown_2{w W:World}{p q:Nat}(g:w.grownBy W (some p))(hq:w.heap.size≤q)(a b:Value):w.grownBy ((W.setCell ⟨q,0,none⟩ a).setCell ⟨q,1,none⟩ b) (some p):=grown_st' (grown_st' g hq a) hq b
theorem ne2{W:World}{q C:Nat}{o:Obj}(h:W.heap[C]?=some o)(n:C≠q)(a b:Value):((W.setCell ⟨q,0,none⟩ a).setCell ⟨q,1,none⟩ b).heap[C]?=some o:=(set_neK n).trans ((set_neK n).trans h)
theorem grown_k{w w':World}{B q:Nat}{o:Obj}(h:w.grownBy w' (some B))(hq:w.heap[q]?=some o)(n:q≠B):w'.heap[q]?=some o:=(h.block q (blt_of hq) (by simpa using n)).trans hq
def CheckC(f:Ft):Prop:=∀(h:TH)(nv pv:Value)(m d:Nat)(w0 w:World)(C:Nat),m≤512→d≤25→GoodH h→f.len≤maxLen→f.All GoodH GoodL→RdY w0 h f nv pv→Below w0.heap.size w0 w→w0.heap.size≤C→w.heap[C]?=some (.cells #[.int .i64 m] 240)→∀R:Ending→World→Prop,
Hid (∀w',w.grownBy w' (some C)→w'.heap[C]?=some (.cells #[.int .i64 (wrB h f (wcF f) d m).2.2] 240)→R (.returned (.agg #[.int .i64 (wrB h f (wcF f) d m).1,.int .i64 (wrB h f (wcF f) d m).2.1])) w')→Calls Tryz.prog 186 #[.pointer (some ⟨C,0,none⟩),tyV h nv pv,.int .i64 d] w R
noncomputable def partC(h:TH)(f:Ft)(d m:Nat):Res:=if 64<f.len then(8,(wN (pnm f) 64).2,m)else wcF f (.parts h.kind (nms (pnm f)) 0) (d+1) m
theorem checkParts_calls(f:Ft)(ih:Fo.AllK CheckC f)(h:TH)(nv pv:Value)(m d:Nat)(w0 w:World)(C:Nat)(hm:m≤512)(hd:d≤24)(hk:h.kind=7∨h.kind=8)(gh:GoodH h)(hfl:f.len≤maxLen)(hga:f.All GoodH GoodL)(hy:RdY w0 h f nv pv)(hb0:Below w0.heap.size w0 w)(hC0:w0.heap.size≤C)(hC:w.heap[C]?=some (.cells #[.int .i64 m] 240))(R:Ending→World→Prop)
  (hR:Hid (∀w',w.grownBy w' (some C)→w'.heap[C]?=some (.cells #[.int .i64 (partC h f d m).2.2] 240)→R (.returned (.agg #[.int .i64 (partC h f d m).1,.int .i64 (partC h f d m).2.1])) w')):Calls Tryz.prog 205 #[.pointer (some ⟨C,0,none⟩),tyV h nv pv,.int .i64 d] w R:=by
 replace hfl:f.len≤9223372036854775807:=hfl;have hsz0:=hb0.size;obtain⟨Ap,cp,rfl,hpl⟩:=hy.p.sl;obtain⟨An,cn,rfl,-,-⟩:=hy.n.op;have b1:=(Below.refl w.heap.size w).alloc (Nat.le_refl _) (.cells #[.int .i64 h.kind,.int .i64 h.at_,.int .i64 h.lo,.int .i64 h.hi,.int .i64 h.most,.slice An h.names.length cn,.slice Ap f.len cp,.string h.name,.int .i64 h.nat] 29);have b2:=b1.alloc b1.size (.cells #[.int .i64 0,.int .i64 0] 34);have z1:(w.alloc (.cells #[.int .i64 h.kind,.int .i64 h.at_,.int .i64 h.lo,.int .i64 h.hi,.int .i64 h.most,.slice An h.names.length cn,.slice Ap f.len cp,.string h.name,.int .i64 h.nat] 29)).heap.size=w.heap.size+1:=by simp
 have hT:=(((Below.refl _ _).alloc (Nat.le_refl _) (.cells #[.int .i64 0,.int .i64 0] 34)).block w.heap.size (by omega)).trans (heap_alloc_new w (.cells #[.int .i64 h.kind,.int .i64 h.at_,.int .i64 h.lo,.int .i64 h.hi,.int .i64 h.most,.slice An h.names.length cn,.slice Ap f.len cp,.string h.name,.int .i64 h.nat] 29));have hY:=heap_alloc_new (w.alloc (.cells #[.int .i64 h.kind,.int .i64 h.at_,.int .i64 h.lo,.int .i64 h.hi,.int .i64 h.most,.slice An h.names.length cn,.slice Ap f.len cp,.string h.name,.int .i64 h.nat] 29)) (.cells #[.int .i64 0,.int .i64 0] 34);rw [z1]at hY;have lC:=blt_of hC;have hC2:=(b2.block _ lC).trans hC;have hyw:=Lib.hid hy;replace hga:=Lib.hid hga;replace gh:=Lib.hid gh;replace ih:=Lib.hid ih;replace hk:=Lib.hid hk;go_enter Tryz.func205,Tryz.ntmps205
 go_upto_region 1 with fail
 generalize(w.alloc (.cells #[.int .i64 h.kind,.int .i64 h.at_,.int .i64 h.lo,.int .i64 h.hi,.int .i64 h.most,.slice An h.names.length cn,.slice Ap f.len cp,.string h.name,.int .i64 h.nat] 29)).alloc (.cells #[.int .i64 0,.int .i64 0] 34)=V at *;have t6:=(Lib.cell_of_heap hT 6).trans rfl
 by_cases c64:64<f.len
 ·have hq:partC h f d m=(8,(wN (pnm f) 64).2,m):=if_pos c64
  obtain⟨p,x,kd,r,e⟩:=Fo.drop_lt c64;obtain⟨g,o,lv,cv,nx,px,rfl,hg,-,-,-,hc⟩:=(hyw.out.below hb0).p.part e;have x1:=(b2.cell (p:=⟨g,o+64*18+1,none⟩) hg).trans (hc 1 _ rfl);rw [pnm_at 64 e]at hq;have i1:(64:Int)<(f.len:Int):=by omega
  clear hc e;have y0:=(Lib.cell_of_heap hY 0).trans rfl;have yf0:=Lib.frozen_of_heap hY 0;have y1:=(Lib.cell_of_heap hY 1).trans rfl;have yf1:=Lib.frozen_of_heap hY 1;have fin:=Lib.hid (hR.out _ (grown_2 (q:=w.heap.size+1) (grown_bl' b2) (by omega) (.int .i64 (8)) (.int .i64 (p.at_))) (by rw [hq];exact ne2 hC2 (by omega) _ _))
  rw [hq]at fin;clear hR;go_wp2_with fail
  refine bodyPost_ret ?_ rfl fin.out;simp [results,Tryz.results205,go_sem,y0,y1]
 ·have hp0:partC h f d m=wcF (f.drop 0) (.parts h.kind (nms (pnm f)) 0) (d+1) m:=if_neg c64
  have hl64:f.len≤64:=by omega
  have i1:¬(64:Int)<(f.len:Int):=by omega
  clear c64;go_wp2_with fail
  refine partNames_calls f hl64 (.slice Ap f.len cp) _ ((hyw.out.below hb0).below b2).p _ (Lib.hid fun vN wN1 rdN nN=>?_);have hT3:=(nN.block _ (blt_of hT)).trans hT;have hY3:=(nN.block _ (blt_of hY)).trans hY;have hC3:=(nN.block _ (blt_of hC2)).trans hC2;have b3:=b2.trans (nN.mono b2.size);have hpl64:(pnm f).length≤64:=by rw [pnm_len];exact hl64
  clear t6;go_wp2_with fail
  refine twice15_calls (pnm f) hpl64 vN wN1 rdN _ (Lib.hid fun wT nT=>?_);have hT4:=(nT.block _ (blt_of hT3)).trans hT3;have hY4:=(nT.block _ (blt_of hY3)).trans hY3;have hC4:=(nT.block _ (blt_of hC3)).trans hC3;have b4:=b3.trans (nT.mono b3.size);have htw:twiS (nms (pnm f))=twiS (nms (pnm f)):=rfl;generalize hTw:twiS (nms (pnm f))=T at htw ⊢;replace hTw:=Lib.hid hTw;have nb:=Lib.hid (grown_bl' (row:=some C) b4);clear htw b1 b2 b3 b4 hT hT3 hY hY3 hC2 hC3 nN nT rdN z1 i1;have t6:=(Lib.cell_of_heap hT4 6).trans rfl;go_wp2_with fail
  clear t6;go_loopg [29] f.len (fun g0 i wr=>∃(I c:Nat),i=.int .i64 I∧I+g0=f.len∧c≤512∧Hid (w.grownBy wr (some C))∧Hid (wr.heap[w.heap.size]?=some (.cells #[.int .i64 h.kind,.int .i64 h.at_,.int .i64 h.lo,.int .i64 h.hi,.int .i64 h.most,.slice An h.names.length cn,.slice Ap f.len cp,.string h.name,.int .i64 h.nat] 29))∧Hid (wr.heap[w.heap.size+1]?=some (.cells #[.int .i64 0,.int .i64 0] 34))∧Hid (wr.heap[C]?=some (.cells #[.int .i64 c] 240))∧Hid (partC h f d m=wcF (f.drop I) (.parts h.kind (nms (pnm f)) I) (d+1) c)∧Hid (∀j,j<I→listedS (nms (pnm f)) j=0))
  case atStart=>exact⟨0,m,rfl,by omega,hm,nb,Lib.hid hT4,Lib.hid hY4,Lib.hid hC4,Lib.hid hp0,Lib.hid fun j hj=>absurd hj (Nat.not_lt_zero _)⟩
  case round =>
   clear nb hT4 hY4 hC4 hp0;obtain⟨I,c,rfl,e1,hc5,nb,hT,hY,hCc,e2,hz⟩:=hrel
   by_cases hI:I<f.len
   ·obtain⟨p,x,kd,r,e⟩:=Fo.drop_lt hI
    have hb1:Below w0.heap.size w0 wr:=hb0.trans (grown_be' nb.out hC0 hsz0);obtain⟨g,o,lv,cv,nx,px,rfl,hg,hlv,hcv,hyx,hc⟩:=(hyw.out).p.part e;obtain⟨A1,n1,rfl,-,-⟩:=hlv.op;obtain⟨A2,n2,rfl,-,-⟩:=hcv.op;obtain⟨A5,n5,rfl,-,-⟩:=hyx.n.op;obtain⟨A7,n7,rfl,-⟩:=hyx.p.sl;obtain⟨gp,gx,gk',ga2⟩:=all_at I hga.out e;have ihK:=Lib.hid ((ih.out).at_ e);have hIl:I<(pnm f).length:=by rw [pnm_len];exact hI
    have hnf:=listed_nf (ns:=nms (pnm f)) (I:=I) (by rw [nms_len];exact hIl) hz.out p.at_
    rw [nms_at hIl,pnm_at I e,hTw.out]at hnf;have e3:=e2.out;rw [e]at e3;have d1:=Fo.drop_succ I e;have i0:(0:Int)≤(I:Int):=by omega
    have i1:(I:Int)<(f.len:Int):=by omega
    have rg:wr.rangeAt g (o+I*18) [.string p.name,.int .i64 p.at_,.bool p.bare,.slice A1 p.label.length n1,.int .i64 p.wide,.int .i64 p.ck,.int .i64 p.cn,.int .i64 p.cat,.slice A2 p.cl.length n2,.int .i64 x.kind,.int .i64 x.at_,.int .i64 x.lo,.int .i64 x.hi,.int .i64 x.most,.slice A5 x.names.length n5,.slice A7 kd.len n7,.string x.name,.int .i64 x.nat]:=fun j v h=>(hb1.cell (p:=⟨g,o+I*18+j,none⟩) hg).trans (hc j v h)
    have bP:=(Below.refl wr.heap.size wr).alloc (Nat.le_refl _) (.cells #[.string p.name,.int .i64 p.at_,.bool p.bare,.slice A1 p.label.length n1,.int .i64 p.wide,.int .i64 p.ck,.int .i64 p.cn,.int .i64 p.cat,.slice A2 p.cl.length n2,.int .i64 x.kind,.int .i64 x.at_,.int .i64 x.lo,.int .i64 x.hi,.int .i64 x.most,.slice A5 x.names.length n5,.slice A7 kd.len n7,.string x.name,.int .i64 x.nat] 130);have hP:=heap_alloc_new wr (.cells #[.string p.name,.int .i64 p.at_,.bool p.bare,.slice A1 p.label.length n1,.int .i64 p.wide,.int .i64 p.ck,.int .i64 p.cn,.int .i64 p.cat,.slice A2 p.cl.length n2,.int .i64 x.kind,.int .i64 x.at_,.int .i64 x.lo,.int .i64 x.hi,.int .i64 x.most,.slice A5 x.names.length n5,.slice A7 kd.len n7,.string x.name,.int .i64 x.nat] 130);clear hc e e2;go_upto_region 7 with(first|(refine wpList_load_g (by rfl) 130 _ rfl g (o+I*18) rfl [.string p.name,.int .i64 p.at_,.bool p.bare,.slice A1 p.label.length n1,.int .i64 p.wide,.int .i64 p.ck,.int .i64 p.cn,.int .i64 p.cat,.slice A2 p.cl.length n2,.int .i64 x.kind,.int .i64 x.at_,.int .i64 x.lo,.int .i64 x.hi,.int .i64 x.most,.slice A5 x.names.length n5,.slice A7 kd.len n7,.string x.name,.int .i64 x.nat] _ rg Tryz.underlying130 rfl (by kernel_rfl) ?_;go_simp)|(refine wpList_copy3 #[.string p.name,.int .i64 p.at_,.bool p.bare,.slice A1 p.label.length n1,.int .i64 p.wide,.int .i64 p.ck,.int .i64 p.cn,.int .i64 p.cat,.slice A2 p.cl.length n2,.int .i64 x.kind,.int .i64 x.at_,.int .i64 x.lo,.int .i64 x.hi,.int .i64 x.most,.slice A5 x.names.length n5,.slice A7 kd.len n7,.string x.name,.int .i64 x.nat] _ ⟨rfl,rfl,rfl⟩ rfl (fun _ _=>rfl) ⟨rfl,rfl,rfl⟩ part_alloc (by kernel_rfl) ⟨rfl,by simp [Value.oneCell']⟩ (fun _=>⟨rfl,rfl⟩) ?_;go_simp))
    clear rg;have hT5:=(bP.block _ (blt_of hT.out)).trans hT.out;have hY5:=(bP.block _ (blt_of hY.out)).trans hY.out;have hC5:=(bP.block _ (blt_of hCc.out)).trans hCc.out;have nb5:=grown_tr' nb.out (grown_bl' bP);have hwB:w.heap.size+2≤wr.heap.size:=blt_of hY.out;have hCB:C<wr.heap.size:=blt_of hCc.out;generalize wr.alloc (.cells #[.string p.name,.int .i64 p.at_,.bool p.bare,.slice A1 p.label.length n1,.int .i64 p.wide,.int .i64 p.ck,.int .i64 p.cn,.int .i64 p.cat,.slice A2 p.cl.length n2,.int .i64 x.kind,.int .i64 x.at_,.int .i64 x.lo,.int .i64 x.hi,.int .i64 x.most,.slice A5 x.names.length n5,.slice A7 kd.len n7,.string x.name,.int .i64 x.nat] 130)=V1 at *;generalize hBe:wr.heap.size=B at *;clear bP hb1 hBe hT hY hCc nb;have u0:=(Lib.cell_of_heap hP 0).trans rfl;have u1:=(Lib.cell_of_heap hP 1).trans rfl;have cN:=Lib.hid fun(bb:Bool) (hbb:((I:Int)==T)=bb) R hR=>nameFault_calls p.name p.at_ bb V1 gp.1 R hR
    go_wp2_with fail
    refine cN.out _ rfl _ (Lib.hid fun w6 n6=>?_);rw [hnf];have hT6:=(n6.block _ (blt_of hT5)).trans hT5;have hY6:=(n6.block _ (blt_of hY5)).trans hY5;have hC6:=(n6.block _ (blt_of hC5)).trans hC5;have hP6:=(n6.block _ (blt_of hP)).trans hP;have nb6:=grown_tr' nb5 (grown_bl' n6);clear cN n6 u0 u1 hnf hT5 hY5 hC5 hP nb5;have hs6:B+1≤w6.heap.size:=blt_of hP6;have bF:=fun e z'=>(Below.refl w6.heap.size w6).alloc (Nat.le_refl _) (.cells #[.int .i64 e,.int .i64 z'] 34)
    have hF:=fun e z'=>heap_alloc_new w6 (.cells #[.int .i64 e,.int .i64 z'] 34)
    generalize hE:listedS (nms (pnm f)) I=E at *
    by_cases hE0:E=0
    ·rw [if_neg (by simpa using hE0)]
     have hli:listedS (nms (pnm f)) I=0:=hE.trans hE0;rw [wcF_part _ _ _ _ _ _ _ _ _ hli]at e3
     have hz2:Hid (∀j,j<I+1→listedS (nms (pnm f)) j=0):=Lib.hid fun j hj=>by
      by_cases c:j<I
      ·exact hz.out j c
      ·obtain rfl:j=I:=by omega
       exact hli
     have hT7:=((bF 0 0).block _ (blt_of hT6)).trans hT6;have hY7:=((bF 0 0).block _ (blt_of hY6)).trans hY6;have hC7:=((bF 0 0).block _ (blt_of hC6)).trans hC6;have hP7:=((bF 0 0).block _ (blt_of hP6)).trans hP6;have hF7:=hF 0 0;have nb7:=grown_tr' nb6 (grown_bl' (bF 0 0));clear bF hF hE hE0 hli hz hT6 hY6 hC6 hP6 nb6;go_upto_region 8 with fail
     generalize w6.alloc (.cells #[.int .i64 0,.int .i64 0] 34)=V7 at *;generalize w6.heap.size=BF at *;have f0:=(Lib.cell_of_heap hF7 0).trans rfl;have t0:=(Lib.cell_of_heap hT7 0).trans rfl;have r0:V7.rangeAt B 0 [.string p.name,.int .i64 p.at_,.bool p.bare,.slice A1 p.label.length n1,.int .i64 p.wide,.int .i64 p.ck,.int .i64 p.cn,.int .i64 p.cat,.slice A2 p.cl.length n2,.int .i64 x.kind,.int .i64 x.at_,.int .i64 x.lo,.int .i64 x.hi,.int .i64 x.most,.slice A5 x.names.length n5,.slice A7 kd.len n7,.string x.name,.int .i64 x.nat]:=fun j v h=>by rw [Nat.zero_add,Lib.cell_of_heap hP7];simpa using h
     have cPf:=Lib.hid fun R hR=>(show Calls Tryz.prog 218 #[.agg #[.string p.name,.int .i64 p.at_,.bool p.bare,.slice A1 p.label.length n1,.int .i64 p.wide,.int .i64 p.ck,.int .i64 p.cn,.int .i64 p.cat,.slice A2 p.cl.length n2,.int .i64 x.kind,.int .i64 x.at_,.int .i64 x.lo,.int .i64 x.hi,.int .i64 x.most,.slice A5 x.names.length n5,.slice A7 kd.len n7,.string x.name,.int .i64 x.nat],.int .i64 h.kind] V7 R from partFault_calls p x kd h.kind hk.out (.slice A1 p.label.length n1) (.slice A2 p.cl.length n2) (.slice A5 x.names.length n5) (.slice A7 kd.len n7) V7 gp gx gk' ga2 (hlv.below (hb0.trans (grown_be' nb7 hC0 hsz0))) (hcv.below (hb0.trans (grown_be' nb7 hC0 hsz0))) (hyx.below (hb0.trans (grown_be' nb7 hC0 hsz0))) R hR)
     go_upto_region 9 with fail
     go_wp2_with (refine wpList_load_g (by rfl) 130 _ rfl B 0 rfl [.string p.name,.int .i64 p.at_,.bool p.bare,.slice A1 p.label.length n1,.int .i64 p.wide,.int .i64 p.ck,.int .i64 p.cn,.int .i64 p.cat,.slice A2 p.cl.length n2,.int .i64 x.kind,.int .i64 x.at_,.int .i64 x.lo,.int .i64 x.hi,.int .i64 x.most,.slice A5 x.names.length n5,.slice A7 kd.len n7,.string x.name,.int .i64 x.nat] _ r0 Tryz.underlying130 rfl (by kernel_rfl) ?_;go_simp)
     refine cPf.out _ (Lib.hid fun w8 n8=>?_);generalize partfS p x kd h.kind=PF at *;have hT8:=(n8.block _ (blt_of hT7)).trans hT7;have hY8:=(n8.block _ (blt_of hY7)).trans hY7;have hC8:=(n8.block _ (blt_of hC7)).trans hC7;have hP8:=(n8.block _ (blt_of hP7)).trans hP7;have hF8:=(n8.block _ (blt_of hF7)).trans hF7;have nb8:=grown_tr' nb7 (grown_bl' n8);clear cPf n8 f0 t0 r0 hT7 hY7 hC7 hP7 hF7 nb7;have g0:=(Lib.cell_of_heap hF8 0).trans rfl;have g1:=(Lib.cell_of_heap hF8 1).trans rfl;have gf0:=Lib.frozen_of_heap hF8 0;have gf1:=Lib.frozen_of_heap hF8 1;have hT9:=ne2 hT8 (q:=BF) (by omega) (.int .i64 PF.1) (.int .i64 PF.2);have hY9:=ne2 hY8 (q:=BF) (by omega) (.int .i64 PF.1) (.int .i64 PF.2);have hC9:=ne2 hC8 (q:=BF) (by omega) (.int .i64 PF.1) (.int .i64 PF.2);have hP9:=ne2 hP8 (q:=BF) (by omega) (.int .i64 PF.1) (.int .i64 PF.2);have hF9:=set_atK (set_atK hF8 0 (.int .i64 PF.1)) 1 (.int .i64 PF.2);have nb9:=grown_2 (q:=BF) nb8 (by omega) (.int .i64 PF.1) (.int .i64 PF.2);clear hT8 hY8 hC8 hP8 hF8 nb8;go_upto_region 10 with fail
     generalize(w8.setCell ⟨BF,0,none⟩ (.int .i64 PF.1)).setCell ⟨BF,1,none⟩ (.int .i64 PF.2)=V9 at *;clear g0 g1 gf0 gf1;have f0:=(Lib.cell_of_heap hF9 0).trans rfl;have f1:=(Lib.cell_of_heap hF9 1).trans rfl
     by_cases hp0:PF.1=0
     ·rw [if_neg (by simpa using hp0)]at e3
      rw [hp0]at f0;have u2:=(Lib.cell_of_heap hP9 2).trans rfl;cases hb:p.bare
      ·rw [hb]at u2 e3
       simp only[if_true]at e3;clear hb hp0;have s9:V9.rangeAt B 9 [.int .i64 x.kind,.int .i64 x.at_,.int .i64 x.lo,.int .i64 x.hi,.int .i64 x.most,.slice A5 x.names.length n5,.slice A7 kd.len n7,.string x.name,.int .i64 x.nat]:=fun j v h=>by rw [Lib.cell_of_heap hP9,List.getElem?_toArray,←List.getElem?_drop];exact h
       have cW:=Lib.hid fun R hR=>ihK.out x (.slice A5 x.names.length n5) (.slice A7 kd.len n7) c (d+1) w0 V9 C hc5 (by omega) gx gk' ga2 hyx (hb0.trans (grown_be' nb9 hC0 hsz0)) hC0 hC9 R hR
       rw [show((d+1:Nat):Int)=(d:Int)+1 from rfl]at cW;have hcnt:=wrB_cnt x kd _ (wcF_cnt kd) (d+1) c;have hzer:=wrB_zero x kd _ (wcF_zero kd) (d+1) c;generalize wrB x kd (wcF kd) (d+1) c=Rw at *;obtain⟨re,rz,rm⟩:=Rw;simp only at cW e3 hcnt hzer;go_upto_region 11 with fail
       go_wp2_with (refine wpList_load_g (by rfl) 29 _ rfl B 9 rfl [.int .i64 x.kind,.int .i64 x.at_,.int .i64 x.lo,.int .i64 x.hi,.int .i64 x.most,.slice A5 x.names.length n5,.slice A7 kd.len n7,.string x.name,.int .i64 x.nat] _ s9 Tryz.underlying29 rfl (by kernel_rfl) ?_;go_simp)
       refine cW.out _ (Lib.hid fun w10 n10 hC10=>?_);have hT10:=grown_k n10 hT9 (by omega);have hY10:=grown_k n10 hY9 (by omega);have hF10:=grown_k n10 hF9 (by omega);have nb10:=grown_tr' nb9 n10;clear cW n10 s9 u2 f0 f1 hT9 hY9 hF9 hC9 hP9 nb9;have g0:=(Lib.cell_of_heap hF10 0).trans rfl;have g1:=(Lib.cell_of_heap hF10 1).trans rfl;have gf0:=Lib.frozen_of_heap hF10 0;have gf1:=Lib.frozen_of_heap hF10 1;have hT11:=ne2 hT10 (q:=BF) (by omega) (.int .i64 re) (.int .i64 rz);have hY11:=ne2 hY10 (q:=BF) (by omega) (.int .i64 re) (.int .i64 rz);have hC11:=ne2 hC10 (q:=BF) (by omega) (.int .i64 re) (.int .i64 rz);have hF11:=set_atK (set_atK hF10 0 (.int .i64 re)) 1 (.int .i64 rz);have nb11:=grown_2 (q:=BF) nb10 (by omega) (.int .i64 re) (.int .i64 rz);clear hT10 hY10 hC10 hF10 nb10;go_upto_region 12 with fail
       generalize(w10.setCell ⟨BF,0,none⟩ (.int .i64 re)).setCell ⟨BF,1,none⟩ (.int .i64 rz)=V11 at *;clear g0 g1 gf0 gf1;have f0:=(Lib.cell_of_heap hF11 0).trans rfl;have f1:=(Lib.cell_of_heap hF11 1).trans rfl
       by_cases hr0:re=0
       ·subst hr0
        obtain rfl:=hzer rfl;have hm2:=hcnt rfl;rw [if_neg (by simp),←d1]at e3;go_wp2_with fail
        go_roundg (gk-1)
        case measure=>omega
        case rel=>exact⟨I+1,rm,by go_num,by omega,hm2,Lib.hid nb11,Lib.hid hT11,Lib.hid hY11,Lib.hid hC11,Lib.hid e3,hz2⟩
       ·rw [if_pos (by simpa using hr0)]at e3
        have qr:(re != 0)=true:=by simpa using hr0
        clear hr0 hcnt hzer;have y0:=(Lib.cell_of_heap hY11 0).trans rfl;have yf0:=Lib.frozen_of_heap hY11 0;have y1:=(Lib.cell_of_heap hY11 1).trans rfl;have yf1:=Lib.frozen_of_heap hY11 1;have fin:=Lib.hid (hR.out _ (grown_2 (q:=w.heap.size+1) nb11 (by omega) (.int .i64 (re)) (.int .i64 (rz))) (by rw [e3];exact ne2 hC11 (by omega) _ _))
        rw [e3]at fin;clear hR;go_wp2_with fail
        refine bodyPost_ret ?_ rfl fin.out;simp [results,Tryz.results205,go_sem,y0,y1]
      ·rw [hb]at u2 e3
       simp only[Bool.true_eq_false,if_false]at e3;rw [←d1]at e3;clear hb hp0;go_wp2_with fail
       go_roundg (gk-1)
       case measure=>omega
       case rel=>exact⟨I+1,c,by go_num,by omega,hc5,Lib.hid nb9,Lib.hid hT9,Lib.hid hY9,Lib.hid hC9,Lib.hid e3,hz2⟩
     ·rw [if_pos (by simpa using hp0)]at e3
      have q1:(PF.1==0)=false:=by simpa using hp0
      have q2:(PF.1 != 0)=true:=by simpa using hp0
      clear hp0;have y0:=(Lib.cell_of_heap hY9 0).trans rfl;have yf0:=Lib.frozen_of_heap hY9 0;have y1:=(Lib.cell_of_heap hY9 1).trans rfl;have yf1:=Lib.frozen_of_heap hY9 1;have fin:=Lib.hid (hR.out _ (grown_2 (q:=w.heap.size+1) nb9 (by omega) (.int .i64 (PF.1)) (.int .i64 (PF.2))) (by rw [e3];exact ne2 hC9 (by omega) _ _))
      rw [e3]at fin;clear hR;go_wp2_with fail
      refine bodyPost_ret ?_ rfl fin.out;simp [results,Tryz.results205,go_sem,y0,y1]
    ·rw [if_pos (by simpa using hE0)]
     have e4:partC h f d m=(E,p.at_,c):=by
      rw [e3];unfold wcF;rw [hE,if_pos (by simpa using hE0)]
     have qE:(E==0)=false:=by simpa using hE0
     have qE2:(E != 0)=true:=by simpa using hE0
     have hY7:=((bF E p.at_).block _ (blt_of hY6)).trans hY6;have hC7:=((bF E p.at_).block _ (blt_of hC6)).trans hC6;have hF7:=hF E p.at_;have nb7:=grown_tr' nb6 (grown_bl' (bF E p.at_));clear bF hF hE hE0 hz hT6 hY6 hC6 hP6 nb6 e3;go_upto_region 8 with fail
     generalize w6.alloc (.cells #[.int .i64 E,.int .i64 p.at_] 34)=V7 at *;generalize w6.heap.size=BF at *;have f0:=(Lib.cell_of_heap hF7 0).trans rfl;have f1:=(Lib.cell_of_heap hF7 1).trans rfl;have y0:=(Lib.cell_of_heap hY7 0).trans rfl;have yf0:=Lib.frozen_of_heap hY7 0;have y1:=(Lib.cell_of_heap hY7 1).trans rfl;have yf1:=Lib.frozen_of_heap hY7 1;have fin:=Lib.hid (hR.out _ (grown_2 (q:=w.heap.size+1) nb7 (by omega) (.int .i64 (E)) (.int .i64 (p.at_))) (by rw [e4];exact ne2 hC7 (by omega) _ _))
     rw [e4]at fin;clear hR;go_wp2_with fail
     refine bodyPost_ret ?_ rfl fin.out;simp [results,Tryz.results205,go_sem,y0,y1]
   ·obtain rfl:I=f.len:=by omega
    have e3:=e2.out;rw [Fo.drop_all (Nat.le_refl _)]at e3;have e4:partC h f d m=(0,0,c):=e3;clear e2 e3;have y0:=(Lib.cell_of_heap hY.out 0).trans rfl;have yf0:=Lib.frozen_of_heap hY.out 0;have y1:=(Lib.cell_of_heap hY.out 1).trans rfl;have yf1:=Lib.frozen_of_heap hY.out 1;have fin:=Lib.hid (hR.out _ (grown_2 (q:=w.heap.size+1) nb.out (by omega) (.int .i64 (0)) (.int .i64 (0))) (by rw [e4];exact ne2 hCc.out (by omega) _ _))
    rw [e4]at fin;clear hR;go_wp2_with fail
    refine bodyPost_ret ?_ rfl fin.out;simp [results,Tryz.results205,go_sem,y0,y1]
def wroS(h:TH)(f:Ft):Int :=
if h.kind<1∨9<h.kind then 14
else if ownB h f=false then 19
else if h.kind=2∧h.hi<h.lo then 20
else if h.kind=3∧(h.most<0∨4096<h.most)then 20
else if h.kind=4∧h.names=[]then 15
else if(h.kind=5∨h.kind=6)∧onlyB f=false then 19
else if h.kind=5∧(h.most<0∨1024<h.most)then 20
else if h.kind=8∧f.len=0 then 15
else 0
noncomputable def postS(h:TH)(k:Ft)(sub:Mo→Nat→Nat→Res)(d M:Nat):Res :=
if h.kind=4 then(if 64<h.names.length then(8,(wN h.names 64).2,M)else((enumF (nms h.names) 0 h.names).1,(enumF (nms h.names) 0 h.names).2,M))
else if h.kind=5∨h.kind=6 then sub .one (d+1) M
else if h.kind=7∨h.kind=8 then(if 64<k.len then(8,(wN (pnm k) 64).2,M)else sub (.parts h.kind (nms (pnm k)) 0) (d+1) M)
else if h.kind=9 then(if rightS h.name=false then(9,h.nat,M)else(0,0,M))
else(0,0,M)
theorem wro_spec(h:TH)(k:Ft)(sub:Mo→Nat→Nat→Res)(d m M:Nat)(hM:M=m+1)(hd:d≤24)(hm:M≤512):wrB h k sub d m=if wroS h k≠0 then(wroS h k,h.at_,M)else postS h k sub d M:=by
 by_cases c1:h.kind<1∨9<h.kind
 ·rw [wrB_err,if_neg (by omega),if_neg (by omega),if_pos c1]
  unfold wroS;rw [if_pos c1];simp [hM]
 by_cases c2:ownB h k=false
 ·rw [wrB_err,if_neg (by omega),if_neg (by omega),if_neg c1,if_pos c2]
  unfold wroS;rw [if_neg c1,if_pos c2];simp [hM]
 have ho:ownB h k=true:=by simpa using c2
 rw [wrB_ok hM hd hm (by omega) (by omega) ho];unfold wroS postS;rw [if_neg c1,if_neg c2];have hk:h.kind=1∨h.kind=2∨h.kind=3∨h.kind=4∨h.kind=5∨h.kind=6∨h.kind=7∨h.kind=8∨h.kind=9:=by omega
 rcases hk with q|q|q|q|q|q|q|q|q
 ·simp [q]
 ·by_cases a:h.hi<h.lo<;>simp [q,a]
 ·by_cases a:h.most<0∨4096<h.most<;>simp [q,a]
 ·by_cases a:h.names=[]<;>simp [q,a]
 ·by_cases a:onlyB k=false
  ·simp [q,a]
  ·by_cases b:h.most<0∨1024<h.most<;>simp [q,a,b]
 ·have hz:h.most=0:=by
   unfold ownB at ho;rw [decide_eq_true_iff]at ho;omega
  by_cases a:onlyB k=false<;>simp [q,a,hz]
 ·simp [q]
 ·by_cases a:k.len=0<;>simp [q,a]
 ·simp [q]
theorem wro_elem{h:TH}{k:Ft}(e:wroS h k=0):(1≤h.kind∧h.kind≤9)∧((h.kind=5∨h.kind=6)→onlyB k=true):=by
 unfold wroS at e
 split at e
 ·omega
 ·split at e
  ·omega
  ·refine⟨by omega,fun q=>?_⟩
   cases c:onlyB k
   ·rw [if_neg (by omega),if_neg (by omega),if_neg (by omega),if_pos ⟨q,c⟩]at e
    omega
   ·rfl
theorem wrong_calls(f:Ft)(h:TH)(nv pv:Value)(w:World)(hm:h.names.length≤maxLen)(hfl:f.len≤maxLen)(hga:f.All GoodH GoodL)(hy:RdY w h f nv pv)(R:Ending→World→Prop)
  (hR:Hid (∀w',Below w.heap.size w w'→R (.returned (.int .i64 (wroS h f))) w')):Calls Tryz.prog 203 #[tyV h nv pv] w R:=by
 have gnl:h.names.length≤9223372036854775807:=hm;have gfl:f.len≤9223372036854775807:=hfl;obtain⟨Ap,cp,rfl,hpl⟩:=hy.p.sl;obtain⟨An,cn,rfl,-,-⟩:=hy.n.op;have b1:=(Below.refl w.heap.size w).alloc (Nat.le_refl _) (.cells #[.int .i64 h.kind,.int .i64 h.at_,.int .i64 h.lo,.int .i64 h.hi,.int .i64 h.most,.slice An h.names.length cn,.slice Ap f.len cp,.string h.name,.int .i64 h.nat] 29);have hA:=heap_alloc_new w (.cells #[.int .i64 h.kind,.int .i64 h.at_,.int .i64 h.lo,.int .i64 h.hi,.int .i64 h.most,.slice An h.names.length cn,.slice Ap f.len cp,.string h.name,.int .i64 h.nat] 29);replace hy:=Lib.hid hy;replace hga:=Lib.hid hga;go_enter Tryz.func203,Tryz.ntmps203
 go_upto_region 1 with fail
 generalize w.alloc (.cells #[.int .i64 h.kind,.int .i64 h.at_,.int .i64 h.lo,.int .i64 h.hi,.int .i64 h.most,.slice An h.names.length cn,.slice Ap f.len cp,.string h.name,.int .i64 h.nat] 29)=V at *;have u0:=(Lib.cell_of_heap hA 0).trans rfl
 by_cases c1:h.kind<1∨9<h.kind
 ·have hq:wroS h f=14:=if_pos c1
  rcases c1 with c1|c1
  ·have fin:=Lib.hid (hR.out _ b1)
   rw [hq]at fin;clear hR;go_wp2_with fail
   exact fin.out
  ·have c0:¬h.kind<1:=by omega
   have fin:=Lib.hid (hR.out _ b1);rw [hq]at fin;clear hR;go_wp2_with fail
   exact fin.out
 ·have k1:¬h.kind<1:=by omega
  have k9:¬9<h.kind:=by omega
  have cF:=Lib.hid fun R hR=>hasForeign_calls f h (.slice An h.names.length cn) (.slice Ap f.len cp) V ⟨by omega,by omega⟩ hm hfl hga.out (hy.out.below b1) R hR
  have r0:V.rangeAt w.heap.size 0 [.int .i64 h.kind,.int .i64 h.at_,.int .i64 h.lo,.int .i64 h.hi,.int .i64 h.most,.slice An h.names.length cn,.slice Ap f.len cp,.string h.name,.int .i64 h.nat]:=fun j v e=>by rw [Nat.zero_add,Lib.cell_of_heap hA];simpa using e
  go_upto_region 3 with fail
  go_wp2_with (refine wpList_load_g (by rfl) 29 _ rfl w.heap.size 0 rfl [.int .i64 h.kind,.int .i64 h.at_,.int .i64 h.lo,.int .i64 h.hi,.int .i64 h.most,.slice An h.names.length cn,.slice Ap f.len cp,.string h.name,.int .i64 h.nat] _ r0 Tryz.underlying29 rfl (by kernel_rfl) ?_;go_simp)
  refine cF.out _ (Lib.hid fun wB nF=>?_);have hB:=Lib.hid ((nF.block _ (blt_of hA)).trans hA);have nB:=Lib.hid (b1.trans (nF.mono b1.size));clear u0 r0 cF nF hA b1;cases ho:ownB h f
  ·have hq:wroS h f=19:=by unfold wroS;rw [if_neg c1,if_pos ho]
   clear ho c1 k1 k9;have fin:=Lib.hid (hR.out _ nB.out);rw [hq]at fin;clear hR;go_wp2_with fail
   exact fin.out
  ·have hk:h.kind=1∨h.kind=2∨h.kind=3∨h.kind=4∨h.kind=5∨h.kind=6∨h.kind=7∨h.kind=8∨h.kind=9:=by omega
   clear k1 k9;rcases hk with q|q|q|q|q|q|q|q|q
   ·have u0:=(Lib.cell_of_heap hB.out 0).trans rfl
    have q0:=Lib.hid q;rw [q]at u0;clear q;have hq:wroS h f=0:=by unfold wroS;rw [if_neg c1,if_neg (by rw [ho];simp)];simp [q0.out]
    have fin:=Lib.hid (hR.out _ nB.out);rw [hq]at fin;clear hR;go_wp2_with fail
    exact fin.out
   ·have u0:=(Lib.cell_of_heap hB.out 0).trans rfl
    have u2:=(Lib.cell_of_heap hB.out 2).trans rfl;have u3:=(Lib.cell_of_heap hB.out 3).trans rfl;have q0:=Lib.hid q;rw [q]at u0;clear q
    by_cases c:h.hi<h.lo
    ·have hq:wroS h f=20:=by unfold wroS;rw [if_neg c1,if_neg (by rw [ho];simp)];simp [q0.out,c]
     have fin:=Lib.hid (hR.out _ nB.out);rw [hq]at fin;clear hR;go_wp2_with fail
     exact fin.out
    ·have hq:wroS h f=0:=by unfold wroS;rw [if_neg c1,if_neg (by rw [ho];simp)];simp [q0.out,c]
     have fin:=Lib.hid (hR.out _ nB.out);rw [hq]at fin;clear hR;go_wp2_with fail
     exact fin.out
   ·have u0:=(Lib.cell_of_heap hB.out 0).trans rfl
    have u4:=(Lib.cell_of_heap hB.out 4).trans rfl;have q0:=Lib.hid q;rw [q]at u0;clear q
    by_cases c:h.most<0∨4096<h.most
    ·have hd:=decide_eq_true c
     have hq:wroS h f=20:=by unfold wroS;rw [if_neg c1,if_neg (by rw [ho];simp)];simp [q0.out,c]
     clear c;go_wp2_with fail
     refine outside_calls h.most 4096 _ _ (Lib.hid ?_);rw [hd];have fin:=Lib.hid (hR.out _ nB.out);rw [hq]at fin;clear hR;go_wp2_with fail
     exact fin.out
    ·have hd:=decide_eq_false c
     have hq:wroS h f=0:=by unfold wroS;rw [if_neg c1,if_neg (by rw [ho];simp)];simp [q0.out,c]
     clear c;go_wp2_with fail
     refine outside_calls h.most 4096 _ _ (Lib.hid ?_);rw [hd];have fin:=Lib.hid (hR.out _ nB.out);rw [hq]at fin;clear hR;go_wp2_with fail
     exact fin.out
   ·have u0:=(Lib.cell_of_heap hB.out 0).trans rfl
    have u5:=(Lib.cell_of_heap hB.out 5).trans rfl;have q0:=Lib.hid q;rw [q]at u0;clear q
    by_cases c:h.names=[]
    ·have l0:h.names.length=0:=by rw [c];rfl
     rw [l0]at u5;have hq:wroS h f=15:=by unfold wroS;rw [if_neg c1,if_neg (by rw [ho];simp)];simp [q0.out,c]
     clear l0 c;have fin:=Lib.hid (hR.out _ nB.out);rw [hq]at fin;clear hR;go_wp2_with fail
     exact fin.out
    ·have l0:((h.names.length:Int)==0)=false:=by simp;exact c
     have hq:wroS h f=0:=by unfold wroS;rw [if_neg c1,if_neg (by rw [ho];simp)];simp [q0.out,c]
     clear c;have fin:=Lib.hid (hR.out _ nB.out);rw [hq]at fin;clear hR;go_wp2_with fail
     exact fin.out
   ·have u0:=(Lib.cell_of_heap hB.out 0).trans rfl
    have q0:=Lib.hid q;rw [q]at u0;clear q;have cE:=Lib.hid fun R hR=>hasElement_calls f h (.slice An h.names.length cn) (.slice Ap f.len cp) wB hga.out (hy.out.below nB.out) R hR
    have r0:wB.rangeAt w.heap.size 0 [.int .i64 h.kind,.int .i64 h.at_,.int .i64 h.lo,.int .i64 h.hi,.int .i64 h.most,.slice An h.names.length cn,.slice Ap f.len cp,.string h.name,.int .i64 h.nat]:=fun j v e=>by rw [Nat.zero_add,Lib.cell_of_heap hB.out];simpa using e
    go_upto_region 11 with fail
    go_wp2_with (refine wpList_load_g (by rfl) 29 _ rfl w.heap.size 0 rfl [.int .i64 h.kind,.int .i64 h.at_,.int .i64 h.lo,.int .i64 h.hi,.int .i64 h.most,.slice An h.names.length cn,.slice Ap f.len cp,.string h.name,.int .i64 h.nat] _ r0 Tryz.underlying29 rfl (by kernel_rfl) ?_;go_simp)
    refine cE.out _ (Lib.hid fun wE nE=>?_);have hE:=(nE.block _ (blt_of hB.out)).trans hB.out;have nBE:=Lib.hid (nB.out.trans (nE.mono nB.out.size));clear u0 r0 cE nE;have u0:=(Lib.cell_of_heap hE 0).trans rfl;have u4:=(Lib.cell_of_heap hE 4).trans rfl;rw [q0.out]at u0;cases co:onlyB f
    ·have hq:wroS h f=19:=by unfold wroS;rw [if_neg c1,if_neg (by rw [ho];simp)];simp [q0.out,co]
     clear co;have fin:=Lib.hid (hR.out _ nBE.out);rw [hq]at fin;clear hR;go_wp2_with fail
     exact fin.out
    ·by_cases c:h.most<0∨1024<h.most
     ·have hd:=decide_eq_true c
      have hq:wroS h f=20:=by unfold wroS;rw [if_neg c1,if_neg (by rw [ho];simp)];simp [q0.out,c,co]
      clear c co;go_wp2_with fail
      refine outside_calls h.most 1024 _ _ (Lib.hid ?_);rw [hd];have fin:=Lib.hid (hR.out _ nBE.out);rw [hq]at fin;clear hR;go_wp2_with fail
      exact fin.out
     ·have hd:=decide_eq_false c
      have hq:wroS h f=0:=by unfold wroS;rw [if_neg c1,if_neg (by rw [ho];simp)];simp [q0.out,c,co]
      clear c co;go_wp2_with fail
      refine outside_calls h.most 1024 _ _ (Lib.hid ?_);rw [hd];have fin:=Lib.hid (hR.out _ nBE.out);rw [hq]at fin;clear hR;go_wp2_with fail
      exact fin.out
   ·have u0:=(Lib.cell_of_heap hB.out 0).trans rfl
    have q0:=Lib.hid q;rw [q]at u0;clear q;have cE:=Lib.hid fun R hR=>hasElement_calls f h (.slice An h.names.length cn) (.slice Ap f.len cp) wB hga.out (hy.out.below nB.out) R hR
    have r0:wB.rangeAt w.heap.size 0 [.int .i64 h.kind,.int .i64 h.at_,.int .i64 h.lo,.int .i64 h.hi,.int .i64 h.most,.slice An h.names.length cn,.slice Ap f.len cp,.string h.name,.int .i64 h.nat]:=fun j v e=>by rw [Nat.zero_add,Lib.cell_of_heap hB.out];simpa using e
    go_upto_region 11 with fail
    go_wp2_with (refine wpList_load_g (by rfl) 29 _ rfl w.heap.size 0 rfl [.int .i64 h.kind,.int .i64 h.at_,.int .i64 h.lo,.int .i64 h.hi,.int .i64 h.most,.slice An h.names.length cn,.slice Ap f.len cp,.string h.name,.int .i64 h.nat] _ r0 Tryz.underlying29 rfl (by kernel_rfl) ?_;go_simp)
    refine cE.out _ (Lib.hid fun wE nE=>?_);have hE:=(nE.block _ (blt_of hB.out)).trans hB.out;have nBE:=Lib.hid (nB.out.trans (nE.mono nB.out.size));clear u0 r0 cE nE;have u0:=(Lib.cell_of_heap hE 0).trans rfl;have u4:=(Lib.cell_of_heap hE 4).trans rfl;rw [q0.out]at u0;cases co:onlyB f
    ·have hq:wroS h f=19:=by unfold wroS;rw [if_neg c1,if_neg (by rw [ho];simp)];simp [q0.out,co]
     clear co;have fin:=Lib.hid (hR.out _ nBE.out);rw [hq]at fin;clear hR;go_wp2_with fail
     exact fin.out
    ·have hq:wroS h f=0:=by unfold wroS;rw [if_neg c1,if_neg (by rw [ho];simp)];simp [q0.out,co]
     clear co;have fin:=Lib.hid (hR.out _ nBE.out);rw [hq]at fin;clear hR;go_wp2_with fail
     exact fin.out
   ·have u0:=(Lib.cell_of_heap hB.out 0).trans rfl
    have q0:=Lib.hid q;rw [q]at u0;clear q;have hq:wroS h f=0:=by unfold wroS;rw [if_neg c1,if_neg (by rw [ho];simp)];simp [q0.out]
    have fin:=Lib.hid (hR.out _ nB.out);rw [hq]at fin;clear hR;go_wp2_with fail
    exact fin.out
   ·have u0:=(Lib.cell_of_heap hB.out 0).trans rfl
    have u6:=(Lib.cell_of_heap hB.out 6).trans rfl;have q0:=Lib.hid q;rw [q]at u0;clear q
    by_cases c:f.len=0
    ·rw [c]at u6
     have hq:wroS h f=15:=by unfold wroS;rw [if_neg c1,if_neg (by rw [ho];simp)];simp [q0.out,c]
     clear c;have fin:=Lib.hid (hR.out _ nB.out);rw [hq]at fin;clear hR;go_wp2_with fail
     exact fin.out
    ·have l0:((f.len:Int)==0)=false:=by simp;exact c
     have hq:wroS h f=0:=by unfold wroS;rw [if_neg c1,if_neg (by rw [ho];simp)];simp [q0.out,c]
     clear c;have fin:=Lib.hid (hR.out _ nB.out);rw [hq]at fin;clear hR;go_wp2_with fail
     exact fin.out
   ·have u0:=(Lib.cell_of_heap hB.out 0).trans rfl
    have q0:=Lib.hid q;rw [q]at u0;clear q;have hq:wroS h f=0:=by unfold wroS;rw [if_neg c1,if_neg (by rw [ho];simp)];simp [q0.out]
    have fin:=Lib.hid (hR.out _ nB.out);rw [hq]at fin;clear hR;go_wp2_with fail
    exact fin.out
end Go.Proofs.YtncckdaflellnaaGreat.Kin
