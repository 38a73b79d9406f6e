import Derived.Test.YtncckdaflellnaaGreatQ52
import Derived.Test.YtncckdaflellnaaGreatQ50
import Derived.Test.YtncckdaflellnaaGreatQ41
set_option linter.all false
set_option maxRecDepth 100000
set_option maxHeartbeats 4000000
namespace Go.Proofs.YtncckdaflellnaaGreat.Res
open Go.RowKit Go.Lib Res Nam Lat Kin Unp Rel Lab
theorem sum_ok{s:Sc}(os:OkS s):sumT s.2.2.1≤1000000:=by
 have hs:=sumT_le _ os.cnt;have:=os.tl;omega
theorem nodes18_walk(s:Sc)(gs:GoodS s)(lv ov tv nv pv:Value)(nx:ByteArray)(w:World)(rd:RdSc w s lv ov tv nv pv)(R:Ending→World→Prop)
  (hR:Hid (∀w',Below w.heap.size w w'→R (.returned (.bool true)) w')):Calls Tryz.prog 10 #[scV s lv ov tv nv pv,.string nx] w R:=by
 have rd0:=rd;obtain⟨A1,c1,rfl,-,-⟩:=rd.l.op;obtain⟨A2,c2,rfl,-,-⟩:=Unp.RdPr.op rd.o;obtain⟨A3,c3,rfl,-,-⟩:=Unp.RdNs.op rd.t;obtain⟨N1,N3,rfl,-,-⟩:=rd.r.n.op;obtain⟨M1,M3,rfl,-⟩:=rd.r.p.sl;have n:=F0.z w;obtain⟨V,e1,n,z1⟩:=n.new (.cells [.slice A1 s.1.length c1,.slice A2 s.2.1.length c2,.slice A3 s.2.2.1.length c3,.int .i64 s.2.2.2.1.kind,.int .i64 s.2.2.2.1.at_,.int .i64 s.2.2.2.1.lo,.int .i64 s.2.2.2.1.hi,.int .i64 s.2.2.2.1.most,.slice N1 s.2.2.2.1.names.length N3,.slice M1 s.2.2.2.2.len M3,.string s.2.2.2.1.name,.int .i64 s.2.2.2.1.nat].toArray 31);replace rd0:=Lib.hid rd0;clear z1 rd;have rS:=n.rg 0 rfl;have cG:=Lib.hid fun R hR=>refgreat_calls s gs _ _ _ _ _ V (rd0.out.below (F0.bel n)) R hR
 go_enter Tryz.func10,Tryz.ntmps10
 go_upto_region 1 with fail
 clear e1;go_wp2_with (refine wpList_load_g (by rfl) 31 _ rfl w.heap.size 0 rfl _ _ rS Tryz.underlying31 rfl (by kernel_rfl) ?_;go_simp)
 refine cG.out _ (Lib.hid fun W1 y m1 hy=>?_);clear cG rS;replace n:=n.bl m1;clear m1;cases y with
 | true =>
  have bw:=Lib.hid (F0.bel n);clear n hy;go_wp2_with fail
  refine lives18_calls W1 _ (Lib.hid fun W2 m2=>?_);have fin:=Lib.hid (hR.out W2 (bw.out.trans (m2.mono bw.out.size)));clear hR m2 bw;go_wp2_with fail
  exact fin.out
 | false =>
  obtain⟨b1,b2,b3⟩:=hy rfl;have rS:=n.rg 0 rfl;have cW:=Lib.hid fun R hR=>refwrong18_calls s gs (by omega) (by omega) (by omega) _ _ _ _ _ W1 (rd0.out.below (F0.bel n)) R hR
  go_wp2_with (refine wpList_load_g (by rfl) 31 _ rfl w.heap.size 0 rfl _ _ rS Tryz.underlying31 rfl (by kernel_rfl) ?_;go_simp)
  refine cW.out _ (Lib.hid fun W2 q hq m2=>?_);clear cW rS;replace n:=n.bl m2;obtain⟨q0,q1⟩:=q
  by_cases c0:q0=0
  case neg =>
   have t0:(q0==0)=false:=by simpa using c0
   have bw:=Lib.hid (F0.bel n);clear n hy hq c0 m2;go_wp2_with fail
   refine lives18_calls W2 _ (Lib.hid fun W3 m3=>?_);have fin:=Lib.hid (hR.out W3 (bw.out.trans (m3.mono bw.out.size)));clear hR m3 bw;go_wp2_with fail
   exact fin.out
  subst c0;obtain⟨h1,o⟩:=hq rfl;simp only at h1;subst h1;have rS:=n.rg 0 rfl;have cB:=Lib.hid fun R h1 h2=>build18_calls s gs (by omega) _ _ _ _ _ W2 (rd0.out.below (F0.bel n)) R h1 h2
  clear hy hq m2;go_wp2_with (refine wpList_load_g (by rfl) 31 _ rfl w.heap.size 0 rfl _ _ rS Tryz.underlying31 rfl (by kernel_rfl) ?_;go_simp)
  refine cB.out _ (Lib.hid fun W v hz pl m=>?_) (Lib.hid fun W hz m=>?_)
  case refine_2=>exact absurd o.bld hz
  clear cB rS;replace n:=n.bl m;obtain⟨qq,hq⟩:∃q:Int×Int,q=(0,0):=⟨_,rfl⟩;rw [←hq];obtain⟨q0,q1⟩:=qq;replace hq:=Lib.hid hq;obtain⟨W3,e5,n,z5⟩:=n.new (.cells #[.int .i64 q0,.int .i64 q1] 34);have m2:Below W.heap.size W W3:=e5▸(Below.refl _ _).alloc (Nat.le_refl _) _
  change PlanP W v _ _ _ (plS s)at pl
  replace pl:=pl.below m2;have os:=OkS.of o.bld;have gx:=Lib.hid os.good;have lx:=Lib.hid os.num;clear m z5 m2 hz;go_upto_region 4 with fail
  clear e5;have rS:=n.rg 1 rfl;have cR:=Lib.hid fun R hR=>refbuild18_calls s gs o (by omega) _ _ _ _ _ W3 (rd0.out.below (F0.bel n)) R hR
  go_wp2_with (refine wpList_load_g (by rfl) 31 _ rfl w.heap.size 0 rfl _ _ rS Tryz.underlying31 rfl (by kernel_rfl) ?_;go_simp)
  refine cR.out _ (Lib.hid fun W4 lq nsv rn rm m4=>?_);clear cR rS;obtain⟨Aq,cq,rfl,-,-⟩:=rm.op;have hnd:=Lib.hid (fun h=>named_R (x:=nx) o h)
  have hns:(nms (tw s.2.2.1)).length≤1000000:=by
   have:(nms (tw s.2.2.1)).length=s.2.2.1.length:=tnm_len s;omega
  have hz2:(plS s).2.2.length=(nms (tw s.2.2.1)).length:=by
   have:(nms (tw s.2.2.1)).length=s.2.2.1.length:=tnm_len s;rw [this];exact plan_named _ _ _ _ _ _
  have hb1:=Lib.hid (show ∀y∈(plS s).1,y.names.length≤1000000∧y.edges.length≤1000000 from fun y hy=>⟨Nat.le_trans (gx.out y hy).ln (by decide),Nat.le_trans (gx.out y hy).le (by decide)⟩);replace pl:=Lib.hid (pl.below m4);generalize hX:plS s=x at *;obtain⟨An,cn,rfl,-,hel⟩:=rn.el;replace n:=n.bl m4;obtain⟨V5,e5,n,z5⟩:=n.new (.cells #[.slice A1 s.1.length c1,.slice Aq s.1.length cq,.slice An x.1.length cn,.int .i64 x.2.1] 45);have m5:Below W4.heap.size W4 V5:=e5▸(Below.refl _ _).alloc (Nat.le_refl _) _;replace pl:=Lib.hid (pl.out.below m5);have rn5:=Lib.hid (rn.below m5);replace hns:=Lib.hid hns;replace hz2:=Lib.hid hz2;clear hX m4 z5 os hq rm rn hel;go_upto_region 5 with fail
  clear e5;obtain⟨P,L,cs,rfl,hbP,hL⟩:=pl.out.lv;obtain⟨pL,eL,hlev,-⟩:=hL;simp only[Value.pointer.injEq,Option.some.injEq,Addr.mk.injEq,and_true]at eL;subst eL;have cA:=Lib.hid fun q:BW V5=>(show Calls Tryz.prog 38 #[.pointer (some ⟨P,0,none⟩)] q.w fun e w'=>e=.returned (.int .i64 x.1.length)∧Below q.w.heap.size q.w w' from plen_calls (pl.out.below q.b) _ (Lib.hid ⟨rfl,Below.refl _ _⟩))
  have cB:=Lib.hid fun q:BW V5=>(show Calls Tryz.prog 26 #[.pointer (some ⟨P,0,none⟩)] q.w fun e w'=>e=.returned (.int .i64 x.2.1)∧Below q.w.heap.size q.w w' from proot_calls (pl.out.below q.b) _ (Lib.hid ⟨rfl,Below.refl _ _⟩))
  have cC:=Lib.hid fun q:BW V5=>(show Calls Tryz.prog 24 #[.pointer (some ⟨P,0,none⟩)] q.w fun e w'=>e=.returned (.pointer (some ⟨L,0,none⟩))∧Below q.w.heap.size q.w w' from platv_calls ((q.b.block P (hp_lt hbP)).trans hbP) _ (Lib.hid ⟨rfl,Below.refl _ _⟩))
  have cD:=Lib.hid fun q:BW V5=>(show Calls Tryz.prog 39 #[.pointer (some ⟨L,0,none⟩)] q.w fun e w'=>e=.returned (.int .i64 s.1.length)∧Below q.w.heap.size q.w w' from latlenx_calls (nms s.1) L q.w (hlev.below q.b) _ (Lib.hid ⟨by rw [nms_len],Below.refl _ _⟩))
  have l0:=n.lt 0 rfl;have k0:=fun q:BW V5=>q.cell l0 (n.c 0 0 rfl rfl)
  have k2:=fun q:BW V5=>q.cell l0 (n.c 0 2 rfl rfl)
  have k3:=fun q:BW V5=>q.cell l0 (n.c 0 3 rfl rfl)
  refine wp_region_below_lit (by kernel_rfl) (by kernel_rfl) ?_
  repeat (go_big_quiet_step ((first|(with_reducible exact calls_below (cA.out _))|(with_reducible exact calls_below (cB.out _))|(with_reducible exact calls_below (cC.out _))|(with_reducible exact calls_below (cD.out _)))))
  refine wpQuiet_nil ?_
  rintro _ ⟨q,rfl⟩
  have mq:=q.b;replace n:=n.bl mq;replace pl:=Lib.hid (pl.out.below mq);replace rn5:=Lib.hid (rn5.out.below mq);generalize q.w=V6 at *;clear cA cB cC cD k0 k2 k3 l0 hbP hlev mq;obtain⟨len,hlen⟩:∃len,x.1.length=len:=⟨_,rfl⟩;replace hlen:=Lib.hid hlen;obtain⟨A_,c_,q_,-,hel⟩:=rn5.out.el;simp only[Value.slice.injEq,true_and]at q_;obtain⟨rfl,rfl⟩:=q_;replace hel:=Lib.hid hel;have n0:=Lib.hid n;have x2:=n.c 0 2 rfl rfl;clear n;go_wp2_with fail
  clear x2;go_loopg [8] x.1.length (fun g i wr=>∃(K:Nat),i=.int .i64 K∧K+g=x.1.length∧Hid (Below V6.heap.size V6 wr))
  case atStart=>exact⟨0,rfl,by omega,Lib.hid (Below.refl _ _)⟩
  case round =>
   obtain⟨K,rfl,e1,m⟩:=hrel;replace m:=m.out;have n:=n0.out.bl m;have x2:=n.c 0 2 rfl rfl;have hl4:x.1.length≤40000:=lx.out.2
   by_cases hK:K<x.1.length
   ·have i0:(0:Int)≤(K:Int):=by omega
    have i1:(K:Int)<(x.1.length:Int):=by omega
    have plw:=Lib.hid (pl.out.below m);have cN:=Lib.hid fun R hR=>pnode_calls plw.out hb1.out K hK R hR
    replace n:=Lib.hid n;go_wp2_with fail
    refine cN.out _ (Lib.hid fun W5 nv ev y hy rS rE m5=>?_);clear cN x2
    obtain rfl:x.1[K]=y:=by
     rw [List.getElem?_eq_getElem hK,Option.some.injEq]at hy;exact hy
    obtain⟨gn,on,nv2,ev2,rfl,hgn,hrg,rS2,rE2⟩:=hel.out K hK;obtain⟨A5,c5,rfl,-⟩:=rS.open;obtain⟨A6,c6,rfl,-,-⟩:=ed_el18 rE;obtain⟨A7,c7,rfl,-⟩:=rS2.open;obtain⟨A8,c8,rfl,-,-⟩:=ed_el18 rE2;have hby:=hb1.out _ (List.getElem_mem hK);have m6:=m.trans (m5.mono m.size);replace n:=n.out.bl m5;have hrg5:∀W,Below W5.heap.size W5 W→W.rangeAt gn (on+K*7) (nyL (x.1[K]'hK) (.slice A7 (x.1[K]'hK).names.length c7) (.slice A8 (x.1[K]'hK).edges.length c8)):=fun W mm j u hj=>((m6.trans (mm.mono m6.size)).cell (p:=⟨gn,on+K*7+j,none⟩) hgn).trans (hrg j u hj)
    have rS3:=rS2.below m6;have rE3:=rE2.below m6;clear hy hrg rS2 rE2;generalize hY:x.1[K]'hK=y at *;clear hY;have nb:=F0.z W5;obtain⟨V7,e7,nb,z7⟩:=nb.new (.cells #[.int .i64 y.kind,.int .i64 y.at_,.int .i64 y.lo,.int .i64 y.hi,.int .i64 y.most,.slice A5 y.names.length c5,.slice A6 y.edges.length c6] 74);have m7:=F0.bel nb;replace n:=n.bl m7;have lB:=nb.lt 0 rfl;have l0:=n.lt 0 rfl;have k2:=fun q:BW V7=>q.cell l0 (n.c 0 2 rfl rfl)
    have rN:∀W,(∃q:BW V7,W=q.w)→W.rangeAt W5.heap.size 0 [.int .i64 y.kind,.int .i64 y.at_,.int .i64 y.lo,.int .i64 y.hi,.int .i64 y.most,.slice A5 y.names.length c5,.slice A6 y.edges.length c6]:=fun W hW=>by
     obtain⟨q,rfl⟩:=hW;exact(nb.bl q.b).rg 0 rfl
    have rW:∀W,(∃q:BW V7,W=q.w)→W.rangeAt gn (on+K*7) (nyL y (.slice A7 y.names.length c7) (.slice A8 y.edges.length c8)):=fun W hW=>by
     obtain⟨q,rfl⟩:=hW;exact hrg5 q.w (m7.trans (q.b.mono m7.size))
    have cM:=Lib.hid fun(q:BW V7) R hR=>node18_calls y _ _ q.w ((rS.below m7).below q.b) (RdAt.kp (Kp.of_below q.b) (RdAt.kp (Kp.of_below m7) rE)) hby.2 R hR
    have cS:=Lib.hid fun(W:World) (nva eva:Value) (mm:Below V7.heap.size V7 W) (ra:RdS W nva y.names) (rb:RdEd W eva y.edges) R hR=>refsame18_calls y nva (.slice A7 y.names.length c7) eva (.slice A8 y.edges.length c8) W ra (rS3.below (m7.trans (mm.mono m7.size))) rb (RdAt.kp (Kp.of_below (m7.trans (mm.mono m7.size))) rE3) hby.2 hby.1 R hR
    have rSa:=Lib.hid fun(q:BW V7)=>(rS.below m7).below q.b
    have m67:=m6.trans (m7.mono m6.size);clear hrg5 rS rE rS3 rE3 m5 n z7 hby m;go_upto_region 11 with(refine wpList_copy #[.int .i64 y.kind,.int .i64 y.at_,.int .i64 y.lo,.int .i64 y.hi,.int .i64 y.most,.slice A5 y.names.length c5,.slice A6 y.edges.length c6] ⟨rfl,rfl,rfl⟩ ⟨rfl,rfl,rfl⟩ node_alloc (by kernel_rfl) ⟨rfl,by simp [Value.oneCell']⟩ (fun _=>⟨rfl,rfl⟩) ?_;go_simp)
    clear e7;have nV7:Below V7.heap.size V7 (V7.drewN 1):=below_drewN (Below.refl _ _) 1;refine wp_region_mix [([0,1,2,3,5,6,7,8,9],4),([],10)] [11,12] (by kernel_rfl) (by kernel_rfl) (by kernel_rfl) (by kernel_rfl) (fun _ _ d _ _ h=>by cases d<;>exact h) ?_
    refine mix_cons (os:=[_,_,_,_,_,_,_,_,_]) (by simp only[pickO,List.filterMap_cons,List.filterMap_nil,List.getElem?_toArray,List.getElem?_cons_succ,List.getElem?_cons_zero];rfl) (fun Kp hKp=>?_)
    go_big_quiet_step (exact rfl);go_big_quiet_step (exact rfl)
    go_big_quiet_step (exact rfl);refine wpQuiet_lg (by rfl) 74 _ rfl W5.heap.size 0 rfl _ _ rN Tryz.underlying74 rfl (by kernel_rfl) ?_
    try go_simp
    go_big_quiet_step (exact rfl);go_big_quiet_step (exact rfl)
    go_big_quiet_step (exact rfl);go_big_quiet_step (exact rfl)
    refine wpQuiet_lg (by rfl) 70 _ rfl gn (on+K*7) rfl _ _ rW Tryz.underlying70 rfl (by kernel_rfl) ?_
    try go_simp
    refine wpQuiet_nil ?_;refine hKp _ ?_;clear hKp;refine loud (by rfl) (by kernel_rfl) (fun Kl hKl=>?_);go_simp;refine cM.out ⟨V7.drewN 1,nV7⟩ _ (Lib.hid fun W8 ev3 ow8 mW8=>?_);have nW8:=nV7.trans (mW8.mono nV7.size);have rbE:=Lib.hid (show RdEd W8 ev3 y.edges from RdAt.of_own ow8);have raS:=Lib.hid (rSa.out ⟨W8,nW8⟩);refine hKl _ _ ⟨⟨W8,nW8⟩,rfl⟩ ?_;clear hKl;refine mix_cons (os:=[]) (by rfl) (fun Kp hKp=>?_);refine wpQuiet_nil ?_;refine hKp _ ?_;clear hKp;refine loud (by rfl) (by kernel_rfl) (fun Kl hKl=>?_);go_simp;refine cS.out W8 _ _ nW8 raS.out rbE.out _ (Lib.hid fun W9 mW9=>?_);have nW9:=nW8.trans (mW9.mono nW8.size);refine hKl _ _ ⟨⟨W9,nW9⟩,rfl⟩ ?_;clear hKl;refine mix_nil (os:=[_,_]) (by simp only[pickO,List.filterMap_cons,List.filterMap_nil,List.getElem?_toArray,List.getElem?_cons_succ,List.getElem?_cons_zero];rfl) (fun Kp hKp=>?_)
    repeat (go_big_quiet_step (exact rfl))
    refine wpQuiet_nil ?_;refine hKp _ ?_;clear hKp;have mX:=Lib.hid (m67.trans (nW9.mono m67.size));clear cM cS k2 rN rW rSa rbE raS m67;go_wp2_with fail
    go_roundg (gk-1)
    case measure=>omega
    case rel=>exact⟨K+1,by go_num,by omega,mX⟩
   ·obtain rfl:K=x.1.length:=by omega
    have plw:=Lib.hid (pl.out.below m);have bwr:=F0.bel n;have cF:=Lib.hid fun R hR=>pfind_calls plw.out hns.out hz2.out nx R hR
    have rSd:=Lib.hid (rd0.out.below bwr);replace n:=Lib.hid n
    by_cases hf:findS (tnm s) nx<0
    ·have e1:finS (nms (tw s.2.2.1)) nx=(0,false):=fin_no hf
     rw [e1]at cF;have tf:decide (findS (tnm s) nx<0)=true:=by simpa using hf
     go_wp2_with fail
     refine cF.out _ (Lib.hid fun W5 m5=>?_);clear cF x2;replace n:=n.out.bl m5;have rS:=n.rg 2 rfl;have bw5:=F0.bel n;have cG:=Lib.hid fun R hR=>reffind18_calls s gs nx _ _ _ _ _ W5 (rd0.out.below bw5) (by omega) R hR
     clear m5 hf e1;go_wp2_with (refine wpList_load_g (by rfl) 31 _ rfl w.heap.size 0 rfl _ _ rS Tryz.underlying31 rfl (by kernel_rfl) ?_;go_simp)
     refine cG.out _ (Lib.hid fun W6 m6=>?_);clear cG rS;have bw6:=Lib.hid (bw5.trans (m6.mono bw5.size));clear m6 n bw5;go_wp2_with fail
     refine lives18_calls W6 _ (Lib.hid fun W7 m7=>?_);have fin:=Lib.hid (hR.out W7 (bw6.out.trans (m7.mono bw6.out.size)));clear hR m7 bw6;go_wp2_with fail
     exact fin.out
    ·have e1:finS (nms (tw s.2.2.1)) nx=(findS (tnm s) nx,true):=fin_yes hf
     rw [e1]at cF;have hge:0≤findS (tnm s) nx:=by omega
     have e2:=hnd.out hge;simp only[reduceIte]at cF;rw [e2]at cF;have tf:decide (findS (tnm s) nx<0)=false:=by simpa using hf
     generalize hST:staS s nx=ST at *;replace hST:=Lib.hid hST;replace hge:=Lib.hid hge;clear e1 e2 hf hnd;go_wp2_with fail
     refine cF.out _ (Lib.hid fun W5 m5=>?_);clear cF x2;replace n:=n.out.bl m5;have rS:=n.rg 2 rfl;have bw5:=F0.bel n;have cG:=Lib.hid fun R hR=>reffind18_calls s gs nx _ _ _ _ _ W5 (rd0.out.below bw5) (by omega) R hR
     clear m5;go_wp2_with (refine wpList_load_g (by rfl) 31 _ rfl w.heap.size 0 rfl _ _ rS Tryz.underlying31 rfl (by kernel_rfl) ?_;go_simp)
     refine cG.out _ (Lib.hid fun W6 m6=>?_);clear cG rS;replace n:=n.bl m6;have rS:=n.rg 2 rfl;have bw6:=F0.bel n;have cT:=Lib.hid fun R hR=>refstart18_calls s gs (found_of o.unk) (by omega) (OkS.of o.bld).ok (sum_ok (OkS.of o.bld)) nx hge.out _ _ _ _ _ W6 (rd0.out.below bw6) R hR
     rw [hST.out]at cT;clear m6 bw5;go_wp2_with (refine wpList_load_g (by rfl) 31 _ rfl w.heap.size 0 rfl _ _ rS Tryz.underlying31 rfl (by kernel_rfl) ?_;go_simp)
     refine cT.out _ (Lib.hid fun W7 m7=>?_);clear cT rS;have bw7:=Lib.hid (bw6.trans (m7.mono bw6.size));clear n m7 bw6;go_wp2_with fail
     refine lives18_calls W7 _ (Lib.hid fun W8 m8=>?_);have fin:=Lib.hid (hR.out W8 (bw7.out.trans (m8.mono bw7.out.size)));clear hR m8 bw7;go_wp2_with fail
     exact fin.out
end Go.Proofs.YtncckdaflellnaaGreat.Res
