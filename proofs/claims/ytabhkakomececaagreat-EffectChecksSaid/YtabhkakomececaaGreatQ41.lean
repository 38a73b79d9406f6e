import Derived.Test.YtabhkakomececaaGreatQ40
set_option linter.all false
set_option maxRecDepth 100000
set_option maxHeartbeats 4000000
namespace Go.Proofs.YtabhkakomececaaGreat.Eff
open Go.RowKit Go.Lib Utf Nam Res Kin Unp Rel Lab Inh Lat
theorem wrong20_calls{l:List NdR}{n':Nat}{f:Nat→List Bool}(A1:Option Addr)(n1 c1:Nat)(lq nsv:Value)(rt:Int)(w:World)(rn:RdNo w nsv l)(rm:RdM w lq n' f)(hx:NdEd n' l)(hi:NdIn l.length l)(hc:NdCo l)(hll:l.length≤40000)(hee:∀y∈l,y.edges.length≤1000000)(R:Ending→World→Prop)
  (hR:Hid (∀w',Below w.heap.size w w'→R (.returned (.agg #[.int .i64 (chkNs (chkR l fun a b=>on (f a) b) l).1,.int .i64 (chkNs (chkR l fun a b=>on (f a) b) l).2])) w')):Calls Tryz.prog 37 #[.agg #[.slice A1 n1 c1,lq,nsv,.int .i64 rt]] w R:=by
 obtain⟨Aq,cq,rfl,-,hq⟩:=rm.op;obtain⟨An,cn,rfl,-,hel⟩:=rn.el;obtain⟨len,hl⟩:∃len,l.length=len:=⟨_,rfl⟩;rw [hl]at hll;have n:=F0.z w;obtain⟨V,e1,n,z1⟩:=n.new (.cells #[.slice A1 n1 c1,.slice Aq n' cq,.slice An l.length cn,.int .i64 rt] 52);obtain⟨V2,e2,n,z2⟩:=n.new (.cells #[.int .i64 0,.int .i64 0] 26);replace hq:=Lib.hid hq;replace hel:=Lib.hid hel;replace hx:=Lib.hid hx;replace hi:=Lib.hid hi;replace hc:=Lib.hid hc;replace hee:=Lib.hid hee;have n0:=Lib.hid n;rw [hl]at n0;replace hl:=Lib.hid hl;clear n rn rm z1 z2;go_enter Tryz.func37,Tryz.ntmps37
 go_upto_region 1 with fail
 clear e1 e2;go_wp2_with fail
 go_loopg [3] len (fun g k wr=>∃(K:Nat),k=.int .i64 K∧K+g=len∧Hid (chkNs (chkR l fun a b=>on (f a) b) l=chkNs (chkR l fun a b=>on (f a) b) (l.drop K))∧Hid (Hq F0 () () w wr [(V.heap.size,.cells #[.int .i64 0,.int .i64 0] 26),(w.heap.size,.cells #[.slice A1 n1 c1,.slice Aq n' cq,.slice An len cn,.int .i64 rt] 52)]))
 case atStart=>exact⟨0,rfl,by omega,Lib.hid rfl,n0⟩
 case round =>
  clear n0;obtain⟨K,rfl,e1,e2,n⟩:=hrel;replace n:=n.out;have x2:=n.c 1 2 rfl rfl
  by_cases hK:K<len
  ·have hKx:K<l.length:=by rw [hl.out];exact hK
   have e3:=e2.out;rw [List.drop_eq_getElem_cons hKx]at e3;have hy0:=hx.out l[K] (List.getElem_mem hKx);have hyi:=hi.out l[K] (List.getElem_mem hKx);have hyc:=hc.out l[K] (List.getElem_mem hKx);have hyl:=hee.out l[K] (List.getElem_mem hKx);obtain⟨g_,o,nv,ev,rfl,hg,hra,-,rE⟩:=hel.out K hKx;replace e3:chkNs (chkR l fun a b=>on (f a) b) l=if(chkEs (chkR l fun a b=>on (f a) b) l[K].edges).1≠0 then chkEs (chkR l fun a b=>on (f a) b) l[K].edges else chkNs (chkR l fun a b=>on (f a) b) (l.drop (K+1)):=e3;obtain⟨A6,c6,rfl,-,hA⟩:=ed_el rE;have t6:=((F0.bel n).cell (p:=⟨g_,o+K*7+6,none⟩) hg).trans (hra 6 _ rfl);generalize l[K]=y at *;obtain⟨y0,y1,y2,y3,y4,yn,ye⟩:=y;simp only at hy0 hyi hyc hyl hA t6 e3;replace e3:=Lib.hid e3;replace hy0:=Lib.hid hy0;replace hyi:=Lib.hid hyi;replace hyc:=Lib.hid hyc;replace hA:=Lib.hid hA;have i0:(0:Int)≤(K:Int):=by omega
   have i1:(K:Int)<(len:Int):=by omega
   clear e2 hra rE hKx;obtain⟨gq,rfl⟩:∃g,g=gk:=⟨_,rfl⟩;replace n:=Lib.hid n;go_wp2_with fail
   clear t6 x2;go_loopg [5] ye.length (fun g k wr=>∃(J:Nat),k=.int .i64 J∧J+g=ye.length∧Hid (chkEs (chkR l fun a b=>on (f a) b) ye=chkEs (chkR l fun a b=>on (f a) b) (ye.drop J))∧Hid (Hq F0 () () w wr [(V.heap.size,.cells #[.int .i64 0,.int .i64 0] 26),(w.heap.size,.cells #[.slice A1 n1 c1,.slice Aq n' cq,.slice (some ⟨g_,o,none⟩) len cn,.int .i64 rt] 52)]))
   case atStart=>exact⟨0,rfl,by omega,Lib.hid rfl,n⟩
   case round =>
    clear n;obtain⟨J,rfl,f1,f2,n⟩:=hrel;replace n:=n.out
    by_cases hJ:J<ye.length
    ·obtain⟨g,o6,rfl,hg6,hrg⟩:=hA.out J hJ
     have rg:=hrg wr (F0.bel n);have ed:=hy0.out (ye[J]'hJ) (List.getElem_mem hJ);have ei:=hyi.out (ye[J]'hJ) (List.getElem_mem hJ);have ec:=hyc.out (ye[J]'hJ) (List.getElem_mem hJ);have f3:=f2.out;rw [List.drop_eq_getElem_cons hJ]at f3;replace f3:chkEs (chkR l fun a b=>on (f a) b) ye=if(chkR l (fun a b=>on (f a) b) (ye[J]'hJ)).1≠0 then chkR l (fun a b=>on (f a) b) (ye[J]'hJ)else chkEs (chkR l fun a b=>on (f a) b) (ye.drop (J+1)):=f3;clear f2 hrg;have j0:(0:Int)≤(J:Int):=by omega
     have j1:(J:Int)<(ye.length:Int):=by omega
     generalize(ye[J]'hJ)=e at *;obtain⟨x0,x1,x2,x3,x4,x5,x6,x7,x8,x9⟩:=e;obtain⟨cx,cb⟩:(0≤x6∧x6≤3)∧(x1=true→x6=0):=⟨ec.k,ec.b⟩;obtain⟨h8,h4⟩:(0≤x8∧x8<(n':Int))∧(0≤x4∧x4<(n':Int)):=⟨ed.sn,ed.lb⟩;have hto:x1=false→0≤x3∧x3<(l.length:Int):=ei.2;unfold chkR at f3;simp only at f3;clear ed ei ec;unfold encE at rg;dsimp only at rg;obtain⟨V5,e5,n,z5⟩:=n.new (.cells #[.string x0,.bool x1,.int .i64 x2,.int .i64 x3,.int .i64 x4,.int .i64 x5,.int .i64 x6,.int .i64 x7,.int .i64 x8,.int .i64 x9] 97);replace f3:=Lib.hid f3;clear z5;go_upto_region 9 with(first|(refine wpList_load_g (by rfl) 97 _ rfl g (o6+J*10) rfl _ _ rg Tryz.underlying97 rfl (by kernel_rfl) ?_;go_simp)|(refine wpList_copy #[.string x0,.bool x1,.int .i64 x2,.int .i64 x3,.int .i64 x4,.int .i64 x5,.int .i64 x6,.int .i64 x7,.int .i64 x8,.int .i64 x9] ⟨rfl,rfl,rfl⟩ ⟨rfl,rfl,rfl⟩ e18_alloc (by kernel_rfl) ⟨rfl,by simp [Value.oneCell']⟩ (fun _=>⟨rfl,rfl⟩) ?_;go_simp))
     clear e5 rg;have r6:=n.c 0 6 rfl rfl;have f4:=f3.out;clear f3
     by_cases c0:x6=0
     ·subst c0
      rw [if_pos rfl]at f4;replace f4:chkEs (chkR l fun a b=>on (f a) b) ye=chkEs (chkR l fun a b=>on (f a) b) (ye.drop (J+1)):=f4;have f3:=f4;clear f4 hto cb;replace f3:=Lib.hid f3;have n2:=Lib.hid n.tail;clear n;go_wp2_with fail
      go_roundg (gk-1)
      case measure=>omega
      case rel=>exact⟨J+1,by go_num,by omega,f3,n2⟩
     ·rw [if_neg c0]at f4
      have t0:(x6==0)=false:=by simpa using c0
      have hb:x1=false:=by
       cases q:x1 with
       | true=>exact absurd (cb q) c0
       | false=>rfl
      obtain⟨d0,d1⟩:=hto hb;clear hto cb hb;obtain⟨D,rfl⟩:∃D:Nat,x3=(D:Int):=⟨x3.toNat,by omega⟩;obtain⟨S8,rfl⟩:∃D:Nat,x8=(D:Int):=⟨x8.toNat,by omega⟩;obtain⟨S4,rfl⟩:∃D:Nat,x4=(D:Int):=⟨x4.toNat,by omega⟩;have hD:D<l.length:=by omega
      have hD2:(D:Int)<(len:Int):=by rw [←hl.out];exact d1
      have s8l:S8<n':=by omega
      have s4l:S4<n':=by omega
      have kD:kdAt l (D:Int)=l[D].kind:=by
       unfold kdAt;rw [if_pos (by omega),Int.toNat_natCast,List.getElem?_eq_getElem hD];rfl
      obtain⟨gt,ot,nvt,evt,qt,hgt,hrt,-,-⟩:=hel.out D hD;simp only[Option.some.injEq,Addr.mk.injEq,and_true]at qt;obtain⟨rfl,rfl⟩:=qt;have tk0:=((F0.bel n).cell (p:=⟨g_,o+D*7+0,none⟩) hgt).trans (hrt 0 _ rfl);have hsr:=Lib.hid (hq.out (by omega));have r3:=n.c 0 3 rfl rfl;have x2:=n.c 2 2 rfl rfl;have d2:(0:Int)≤(D:Int):=by omega
      have u0:(0:Int)≤(S8:Int):=by omega
      have u1:(S8:Int)<(n':Int):=by omega
      have u2:(0:Int)≤(S4:Int):=by omega
      have u3:(S4:Int)<(n':Int):=by omega
      clear hrt d0 d1 h8 h4;rw [Nat.add_zero]at tk0;rcases(by omega:x6=1∨x6=2∨x6=3)with rfl|rfl|rfl
      ·replace f4:chkEs (chkR l fun a b=>on (f a) b) ye=if(if kdAt l (D:Int)≠2 then((14:Int),x9)else if on (f S8) S4=false∨on (f S4) S8=true then(18,x9)else(0,0)).1≠0 then(if kdAt l (D:Int)≠2 then((14:Int),x9)else if on (f S8) S4=false∨on (f S4) S8=true then(18,x9)else(0,0))else chkEs (chkR l fun a b=>on (f a) b) (ye.drop (J+1)):=f4
       rw [kD]at f4;generalize l[D].kind=kd at *
       by_cases kk:kd=2
       case neg =>
        have tk:(kd==2)=false:=by simpa using kk
        rw [if_pos kk]at f4;clear hsr;have e4:chkNs (chkR l fun a b=>on (f a) b) l=if(chkEs (chkR l fun a b=>on (f a) b) ye).1≠0 then chkEs (chkR l fun a b=>on (f a) b) ye else chkNs (chkR l fun a b=>on (f a) b) (l.drop (K+1)):=e3.out;rw [f4,if_pos (by simp),if_pos (by simp)]at e4;rw [e4]at hR;have r9:=n.c 0 9 rfl rfl;clear e4 f4 e3;obtain⟨V8,e8,n8⟩:=n.row (j:=1) rfl #[.int .i64 14,.int .i64 x9];have hG:=n.b 1 rfl;have w0_:=n8.c 1 0 rfl rfl;have w1_:=n8.c 1 1 rfl rfl;have fin:=Lib.hid (hR.out V8 (F0.bel n8));clear n n8 hR;go_wp2_with (refine wpList_store_row (by rfl) 26 _ _ (by rfl) V.heap.size #[.int .i64 14,.int .i64 x9] (by rfl) (by rfl) 26 _ hG (by kernel_rfl) rfl (by simp [Value.oneCell']) ?_;refine cast_w e8 ?_;go_simp)
        first|refine bodyPost_ret ?_ rfl fin.out|refine bodyPost_end ?_ rfl fin.out
        simp [results,Tryz.results37,go_sem,w0_,w1_]
       case pos =>
        subst kk;rw [if_neg (show ¬((2:Int)≠2)from fun q=>q rfl)]at f4;have x1_:=n.c 2 1 rfl rfl;have r8:=n.c 0 8 rfl rfl;have r4:=n.c 0 4 rfl rfl;have lW:=n.lt 2 rfl;have lE:=n.lt 0 rfl;go_upto_region 17 with fail
        have kW:=fun q:BW V5=>q.cell lW x1_
        have k8:=fun q:BW V5=>q.cell lE r8
        have k4:=fun q:BW V5=>q.cell lE r4
        obtain⟨gm,om,rfl,hgm,hrow⟩:=hsr.out;obtain⟨ga,oa,ca,hca,hga,hba⟩:=hrow S8 s8l;obtain⟨gb,ob,cb_,hcb,hgb,hbb⟩:=hrow S4 s4l;have bV:=F0.bel n;have lt5:=bV.size;have kr8:=fun q:BW V5=>q.cell (Nat.lt_of_lt_of_le hgm lt5) ((bV.cell (p:=⟨gm,om+S8,none⟩) hgm).trans hca)
        have kb84:=fun q:BW V5=>q.cell (Nat.lt_of_lt_of_le hga lt5) ((bV.cell (p:=⟨ga,oa+S4,none⟩) hga).trans (hba S4 s4l))
        have kr4:=fun q:BW V5=>q.cell (Nat.lt_of_lt_of_le hgm lt5) ((bV.cell (p:=⟨gm,om+S4,none⟩) hgm).trans hcb)
        have kb48:=fun q:BW V5=>q.cell (Nat.lt_of_lt_of_le hgb lt5) ((bV.cell (p:=⟨gb,ob+S8,none⟩) hgb).trans (hbb S8 s8l))
        clear hrow hba hbb hca hcb x1_ r8 r4;generalize on (f S8) S4=b1 at *;generalize on (f S4) S8=b2 at *;cases b1 with
        | false =>
         rw [if_pos (show false=false∨b2=true from .inl rfl)]at f4;refine wp_region_below_lit (by kernel_rfl) (by kernel_rfl) ?_
         repeat (go_big_quiet_step (fail))
         refine wpQuiet_nil ?_
         rintro _ ⟨q,rfl⟩
         replace n:=n.bl q.b;generalize q.w=V9 at *;clear kW k8 k4 kr8 kb84 kr4 kb48;have e4:chkNs (chkR l fun a b=>on (f a) b) l=if(chkEs (chkR l fun a b=>on (f a) b) ye).1≠0 then chkEs (chkR l fun a b=>on (f a) b) ye else chkNs (chkR l fun a b=>on (f a) b) (l.drop (K+1)):=e3.out;rw [f4,if_pos (by simp),if_pos (by simp)]at e4;rw [e4]at hR;have r9:=n.c 0 9 rfl rfl;clear e4 f4 e3;obtain⟨V8,e8,n8⟩:=n.row (j:=1) rfl #[.int .i64 18,.int .i64 x9];have hG:=n.b 1 rfl;have w0_:=n8.c 1 0 rfl rfl;have w1_:=n8.c 1 1 rfl rfl;have fin:=Lib.hid (hR.out V8 (F0.bel n8));clear n n8 hR;go_wp2_with (refine wpList_store_row (by rfl) 26 _ _ (by rfl) V.heap.size #[.int .i64 18,.int .i64 x9] (by rfl) (by rfl) 26 _ hG (by kernel_rfl) rfl (by simp [Value.oneCell']) ?_;refine cast_w e8 ?_;go_simp)
         first|refine bodyPost_ret ?_ rfl fin.out|refine bodyPost_end ?_ rfl fin.out
         simp [results,Tryz.results37,go_sem,w0_,w1_]
        | true =>
         cases b2 with
         | true =>
          rw [if_pos (show true=false∨true=true from .inr rfl)]at f4;refine wp_region_below_lit (by kernel_rfl) (by kernel_rfl) ?_
          repeat (go_big_quiet_step (fail))
          refine wpQuiet_nil ?_
          rintro _ ⟨q,rfl⟩
          replace n:=n.bl q.b;generalize q.w=V9 at *;clear kW k8 k4 kr8 kb84 kr4 kb48;have e4:chkNs (chkR l fun a b=>on (f a) b) l=if(chkEs (chkR l fun a b=>on (f a) b) ye).1≠0 then chkEs (chkR l fun a b=>on (f a) b) ye else chkNs (chkR l fun a b=>on (f a) b) (l.drop (K+1)):=e3.out;rw [f4,if_pos (by simp),if_pos (by simp)]at e4;rw [e4]at hR;have r9:=n.c 0 9 rfl rfl;clear e4 f4 e3;obtain⟨V8,e8,n8⟩:=n.row (j:=1) rfl #[.int .i64 18,.int .i64 x9];have hG:=n.b 1 rfl;have w0_:=n8.c 1 0 rfl rfl;have w1_:=n8.c 1 1 rfl rfl;have fin:=Lib.hid (hR.out V8 (F0.bel n8));clear n n8 hR;go_wp2_with (refine wpList_store_row (by rfl) 26 _ _ (by rfl) V.heap.size #[.int .i64 18,.int .i64 x9] (by rfl) (by rfl) 26 _ hG (by kernel_rfl) rfl (by simp [Value.oneCell']) ?_;refine cast_w e8 ?_;go_simp)
          first|refine bodyPost_ret ?_ rfl fin.out|refine bodyPost_end ?_ rfl fin.out
          simp [results,Tryz.results37,go_sem,w0_,w1_]
         | false =>
          rw [if_neg (show ¬(true=false∨false=true)from by simp),if_neg (show ¬(((0:Int),(0:Int)).1≠0)from fun q=>q rfl)]at f4;refine wp_region_below_lit (by kernel_rfl) (by kernel_rfl) ?_
          repeat (go_big_quiet_step (fail))
          refine wpQuiet_nil ?_
          rintro _ ⟨q,rfl⟩
          replace n:=n.bl q.b;generalize q.w=V9 at *;clear kW k8 k4 kr8 kb84 kr4 kb48;replace f4:=Lib.hid f4;have n2:=Lib.hid n.tail;clear n;go_wp2_with fail
          go_roundg (gk-1)
          case measure=>omega
          case rel=>exact⟨J+1,by go_num,by omega,f4,n2⟩
      ·replace f4:chkEs (chkR l fun a b=>on (f a) b) ye=if(if kdAt l (D:Int)≠3 then((14:Int),x9)else if on (f S8) S4=false∨on (f S4) S8=true then(18,x9)else(0,0)).1≠0 then(if kdAt l (D:Int)≠3 then((14:Int),x9)else if on (f S8) S4=false∨on (f S4) S8=true then(18,x9)else(0,0))else chkEs (chkR l fun a b=>on (f a) b) (ye.drop (J+1)):=f4
       rw [kD]at f4;generalize l[D].kind=kd at *
       by_cases kk:kd=3
       case neg =>
        have tk:(kd==3)=false:=by simpa using kk
        rw [if_pos kk]at f4;clear hsr;have e4:chkNs (chkR l fun a b=>on (f a) b) l=if(chkEs (chkR l fun a b=>on (f a) b) ye).1≠0 then chkEs (chkR l fun a b=>on (f a) b) ye else chkNs (chkR l fun a b=>on (f a) b) (l.drop (K+1)):=e3.out;rw [f4,if_pos (by simp),if_pos (by simp)]at e4;rw [e4]at hR;have r9:=n.c 0 9 rfl rfl;clear e4 f4 e3;obtain⟨V8,e8,n8⟩:=n.row (j:=1) rfl #[.int .i64 14,.int .i64 x9];have hG:=n.b 1 rfl;have w0_:=n8.c 1 0 rfl rfl;have w1_:=n8.c 1 1 rfl rfl;have fin:=Lib.hid (hR.out V8 (F0.bel n8));clear n n8 hR;go_wp2_with (refine wpList_store_row (by rfl) 26 _ _ (by rfl) V.heap.size #[.int .i64 14,.int .i64 x9] (by rfl) (by rfl) 26 _ hG (by kernel_rfl) rfl (by simp [Value.oneCell']) ?_;refine cast_w e8 ?_;go_simp)
        first|refine bodyPost_ret ?_ rfl fin.out|refine bodyPost_end ?_ rfl fin.out
        simp [results,Tryz.results37,go_sem,w0_,w1_]
       case pos =>
        subst kk;rw [if_neg (show ¬((3:Int)≠3)from fun q=>q rfl)]at f4;have x1_:=n.c 2 1 rfl rfl;have r8:=n.c 0 8 rfl rfl;have r4:=n.c 0 4 rfl rfl;have lW:=n.lt 2 rfl;have lE:=n.lt 0 rfl;go_upto_region 17 with fail
        have kW:=fun q:BW V5=>q.cell lW x1_
        have k8:=fun q:BW V5=>q.cell lE r8
        have k4:=fun q:BW V5=>q.cell lE r4
        obtain⟨gm,om,rfl,hgm,hrow⟩:=hsr.out;obtain⟨ga,oa,ca,hca,hga,hba⟩:=hrow S8 s8l;obtain⟨gb,ob,cb_,hcb,hgb,hbb⟩:=hrow S4 s4l;have bV:=F0.bel n;have lt5:=bV.size;have kr8:=fun q:BW V5=>q.cell (Nat.lt_of_lt_of_le hgm lt5) ((bV.cell (p:=⟨gm,om+S8,none⟩) hgm).trans hca)
        have kb84:=fun q:BW V5=>q.cell (Nat.lt_of_lt_of_le hga lt5) ((bV.cell (p:=⟨ga,oa+S4,none⟩) hga).trans (hba S4 s4l))
        have kr4:=fun q:BW V5=>q.cell (Nat.lt_of_lt_of_le hgm lt5) ((bV.cell (p:=⟨gm,om+S4,none⟩) hgm).trans hcb)
        have kb48:=fun q:BW V5=>q.cell (Nat.lt_of_lt_of_le hgb lt5) ((bV.cell (p:=⟨gb,ob+S8,none⟩) hgb).trans (hbb S8 s8l))
        clear hrow hba hbb hca hcb x1_ r8 r4;generalize on (f S8) S4=b1 at *;generalize on (f S4) S8=b2 at *;cases b1 with
        | false =>
         rw [if_pos (show false=false∨b2=true from .inl rfl)]at f4;refine wp_region_below_lit (by kernel_rfl) (by kernel_rfl) ?_
         repeat (go_big_quiet_step (fail))
         refine wpQuiet_nil ?_
         rintro _ ⟨q,rfl⟩
         replace n:=n.bl q.b;generalize q.w=V9 at *;clear kW k8 k4 kr8 kb84 kr4 kb48;have e4:chkNs (chkR l fun a b=>on (f a) b) l=if(chkEs (chkR l fun a b=>on (f a) b) ye).1≠0 then chkEs (chkR l fun a b=>on (f a) b) ye else chkNs (chkR l fun a b=>on (f a) b) (l.drop (K+1)):=e3.out;rw [f4,if_pos (by simp),if_pos (by simp)]at e4;rw [e4]at hR;have r9:=n.c 0 9 rfl rfl;clear e4 f4 e3;obtain⟨V8,e8,n8⟩:=n.row (j:=1) rfl #[.int .i64 18,.int .i64 x9];have hG:=n.b 1 rfl;have w0_:=n8.c 1 0 rfl rfl;have w1_:=n8.c 1 1 rfl rfl;have fin:=Lib.hid (hR.out V8 (F0.bel n8));clear n n8 hR;go_wp2_with (refine wpList_store_row (by rfl) 26 _ _ (by rfl) V.heap.size #[.int .i64 18,.int .i64 x9] (by rfl) (by rfl) 26 _ hG (by kernel_rfl) rfl (by simp [Value.oneCell']) ?_;refine cast_w e8 ?_;go_simp)
         first|refine bodyPost_ret ?_ rfl fin.out|refine bodyPost_end ?_ rfl fin.out
         simp [results,Tryz.results37,go_sem,w0_,w1_]
        | true =>
         cases b2 with
         | true =>
          rw [if_pos (show true=false∨true=true from .inr rfl)]at f4;refine wp_region_below_lit (by kernel_rfl) (by kernel_rfl) ?_
          repeat (go_big_quiet_step (fail))
          refine wpQuiet_nil ?_
          rintro _ ⟨q,rfl⟩
          replace n:=n.bl q.b;generalize q.w=V9 at *;clear kW k8 k4 kr8 kb84 kr4 kb48;have e4:chkNs (chkR l fun a b=>on (f a) b) l=if(chkEs (chkR l fun a b=>on (f a) b) ye).1≠0 then chkEs (chkR l fun a b=>on (f a) b) ye else chkNs (chkR l fun a b=>on (f a) b) (l.drop (K+1)):=e3.out;rw [f4,if_pos (by simp),if_pos (by simp)]at e4;rw [e4]at hR;have r9:=n.c 0 9 rfl rfl;clear e4 f4 e3;obtain⟨V8,e8,n8⟩:=n.row (j:=1) rfl #[.int .i64 18,.int .i64 x9];have hG:=n.b 1 rfl;have w0_:=n8.c 1 0 rfl rfl;have w1_:=n8.c 1 1 rfl rfl;have fin:=Lib.hid (hR.out V8 (F0.bel n8));clear n n8 hR;go_wp2_with (refine wpList_store_row (by rfl) 26 _ _ (by rfl) V.heap.size #[.int .i64 18,.int .i64 x9] (by rfl) (by rfl) 26 _ hG (by kernel_rfl) rfl (by simp [Value.oneCell']) ?_;refine cast_w e8 ?_;go_simp)
          first|refine bodyPost_ret ?_ rfl fin.out|refine bodyPost_end ?_ rfl fin.out
          simp [results,Tryz.results37,go_sem,w0_,w1_]
         | false =>
          rw [if_neg (show ¬(true=false∨false=true)from by simp),if_neg (show ¬(((0:Int),(0:Int)).1≠0)from fun q=>q rfl)]at f4;refine wp_region_below_lit (by kernel_rfl) (by kernel_rfl) ?_
          repeat (go_big_quiet_step (fail))
          refine wpQuiet_nil ?_
          rintro _ ⟨q,rfl⟩
          replace n:=n.bl q.b;generalize q.w=V9 at *;clear kW k8 k4 kr8 kb84 kr4 kb48;replace f4:=Lib.hid f4;have n2:=Lib.hid n.tail;clear n;go_wp2_with fail
          go_roundg (gk-1)
          case measure=>omega
          case rel=>exact⟨J+1,by go_num,by omega,f4,n2⟩
      ·replace f4:chkEs (chkR l fun a b=>on (f a) b) ye=if(if kdAt l (D:Int)≠5 then((14:Int),x9)else if on (f S8) S4=false∨on (f S4) S8=true then(18,x9)else(0,0)).1≠0 then(if kdAt l (D:Int)≠5 then((14:Int),x9)else if on (f S8) S4=false∨on (f S4) S8=true then(18,x9)else(0,0))else chkEs (chkR l fun a b=>on (f a) b) (ye.drop (J+1)):=f4
       rw [kD]at f4;generalize l[D].kind=kd at *
       by_cases kk:kd=5
       case neg =>
        have tk:(kd==5)=false:=by simpa using kk
        rw [if_pos kk]at f4;clear hsr;have e4:chkNs (chkR l fun a b=>on (f a) b) l=if(chkEs (chkR l fun a b=>on (f a) b) ye).1≠0 then chkEs (chkR l fun a b=>on (f a) b) ye else chkNs (chkR l fun a b=>on (f a) b) (l.drop (K+1)):=e3.out;rw [f4,if_pos (by simp),if_pos (by simp)]at e4;rw [e4]at hR;have r9:=n.c 0 9 rfl rfl;clear e4 f4 e3;obtain⟨V8,e8,n8⟩:=n.row (j:=1) rfl #[.int .i64 14,.int .i64 x9];have hG:=n.b 1 rfl;have w0_:=n8.c 1 0 rfl rfl;have w1_:=n8.c 1 1 rfl rfl;have fin:=Lib.hid (hR.out V8 (F0.bel n8));clear n n8 hR;go_wp2_with (refine wpList_store_row (by rfl) 26 _ _ (by rfl) V.heap.size #[.int .i64 14,.int .i64 x9] (by rfl) (by rfl) 26 _ hG (by kernel_rfl) rfl (by simp [Value.oneCell']) ?_;refine cast_w e8 ?_;go_simp)
        first|refine bodyPost_ret ?_ rfl fin.out|refine bodyPost_end ?_ rfl fin.out
        simp [results,Tryz.results37,go_sem,w0_,w1_]
       case pos =>
        subst kk;rw [if_neg (show ¬((5:Int)≠5)from fun q=>q rfl)]at f4;have x1_:=n.c 2 1 rfl rfl;have r8:=n.c 0 8 rfl rfl;have r4:=n.c 0 4 rfl rfl;have lW:=n.lt 2 rfl;have lE:=n.lt 0 rfl;go_upto_region 17 with fail
        have kW:=fun q:BW V5=>q.cell lW x1_
        have k8:=fun q:BW V5=>q.cell lE r8
        have k4:=fun q:BW V5=>q.cell lE r4
        obtain⟨gm,om,rfl,hgm,hrow⟩:=hsr.out;obtain⟨ga,oa,ca,hca,hga,hba⟩:=hrow S8 s8l;obtain⟨gb,ob,cb_,hcb,hgb,hbb⟩:=hrow S4 s4l;have bV:=F0.bel n;have lt5:=bV.size;have kr8:=fun q:BW V5=>q.cell (Nat.lt_of_lt_of_le hgm lt5) ((bV.cell (p:=⟨gm,om+S8,none⟩) hgm).trans hca)
        have kb84:=fun q:BW V5=>q.cell (Nat.lt_of_lt_of_le hga lt5) ((bV.cell (p:=⟨ga,oa+S4,none⟩) hga).trans (hba S4 s4l))
        have kr4:=fun q:BW V5=>q.cell (Nat.lt_of_lt_of_le hgm lt5) ((bV.cell (p:=⟨gm,om+S4,none⟩) hgm).trans hcb)
        have kb48:=fun q:BW V5=>q.cell (Nat.lt_of_lt_of_le hgb lt5) ((bV.cell (p:=⟨gb,ob+S8,none⟩) hgb).trans (hbb S8 s8l))
        clear hrow hba hbb hca hcb x1_ r8 r4;generalize on (f S8) S4=b1 at *;generalize on (f S4) S8=b2 at *;cases b1 with
        | false =>
         rw [if_pos (show false=false∨b2=true from .inl rfl)]at f4;refine wp_region_below_lit (by kernel_rfl) (by kernel_rfl) ?_
         repeat (go_big_quiet_step (fail))
         refine wpQuiet_nil ?_
         rintro _ ⟨q,rfl⟩
         replace n:=n.bl q.b;generalize q.w=V9 at *;clear kW k8 k4 kr8 kb84 kr4 kb48;have e4:chkNs (chkR l fun a b=>on (f a) b) l=if(chkEs (chkR l fun a b=>on (f a) b) ye).1≠0 then chkEs (chkR l fun a b=>on (f a) b) ye else chkNs (chkR l fun a b=>on (f a) b) (l.drop (K+1)):=e3.out;rw [f4,if_pos (by simp),if_pos (by simp)]at e4;rw [e4]at hR;have r9:=n.c 0 9 rfl rfl;clear e4 f4 e3;obtain⟨V8,e8,n8⟩:=n.row (j:=1) rfl #[.int .i64 18,.int .i64 x9];have hG:=n.b 1 rfl;have w0_:=n8.c 1 0 rfl rfl;have w1_:=n8.c 1 1 rfl rfl;have fin:=Lib.hid (hR.out V8 (F0.bel n8));clear n n8 hR;go_wp2_with (refine wpList_store_row (by rfl) 26 _ _ (by rfl) V.heap.size #[.int .i64 18,.int .i64 x9] (by rfl) (by rfl) 26 _ hG (by kernel_rfl) rfl (by simp [Value.oneCell']) ?_;refine cast_w e8 ?_;go_simp)
         first|refine bodyPost_ret ?_ rfl fin.out|refine bodyPost_end ?_ rfl fin.out
         simp [results,Tryz.results37,go_sem,w0_,w1_]
        | true =>
         cases b2 with
         | true =>
          rw [if_pos (show true=false∨true=true from .inr rfl)]at f4;refine wp_region_below_lit (by kernel_rfl) (by kernel_rfl) ?_
          repeat (go_big_quiet_step (fail))
          refine wpQuiet_nil ?_
          rintro _ ⟨q,rfl⟩
          replace n:=n.bl q.b;generalize q.w=V9 at *;clear kW k8 k4 kr8 kb84 kr4 kb48;have e4:chkNs (chkR l fun a b=>on (f a) b) l=if(chkEs (chkR l fun a b=>on (f a) b) ye).1≠0 then chkEs (chkR l fun a b=>on (f a) b) ye else chkNs (chkR l fun a b=>on (f a) b) (l.drop (K+1)):=e3.out;rw [f4,if_pos (by simp),if_pos (by simp)]at e4;rw [e4]at hR;have r9:=n.c 0 9 rfl rfl;clear e4 f4 e3;obtain⟨V8,e8,n8⟩:=n.row (j:=1) rfl #[.int .i64 18,.int .i64 x9];have hG:=n.b 1 rfl;have w0_:=n8.c 1 0 rfl rfl;have w1_:=n8.c 1 1 rfl rfl;have fin:=Lib.hid (hR.out V8 (F0.bel n8));clear n n8 hR;go_wp2_with (refine wpList_store_row (by rfl) 26 _ _ (by rfl) V.heap.size #[.int .i64 18,.int .i64 x9] (by rfl) (by rfl) 26 _ hG (by kernel_rfl) rfl (by simp [Value.oneCell']) ?_;refine cast_w e8 ?_;go_simp)
          first|refine bodyPost_ret ?_ rfl fin.out|refine bodyPost_end ?_ rfl fin.out
          simp [results,Tryz.results37,go_sem,w0_,w1_]
         | false =>
          rw [if_neg (show ¬(true=false∨false=true)from by simp),if_neg (show ¬(((0:Int),(0:Int)).1≠0)from fun q=>q rfl)]at f4;refine wp_region_below_lit (by kernel_rfl) (by kernel_rfl) ?_
          repeat (go_big_quiet_step (fail))
          refine wpQuiet_nil ?_
          rintro _ ⟨q,rfl⟩
          replace n:=n.bl q.b;generalize q.w=V9 at *;clear kW k8 k4 kr8 kb84 kr4 kb48;replace f4:=Lib.hid f4;have n2:=Lib.hid n.tail;clear n;go_wp2_with fail
          go_roundg (gk-1)
          case measure=>omega
          case rel=>exact⟨J+1,by go_num,by omega,f4,n2⟩
    ·obtain rfl:J=ye.length:=by omega
     have f4:=f2.out;rw [List.drop_length]at f4;replace f4:chkEs (chkR l fun a b=>on (f a) b) ye=(0,0):=f4;have e4:chkNs (chkR l fun a b=>on (f a) b) l=if(chkEs (chkR l fun a b=>on (f a) b) ye).1≠0 then chkEs (chkR l fun a b=>on (f a) b) ye else chkNs (chkR l fun a b=>on (f a) b) (l.drop (K+1)):=e3.out;rw [f4,if_neg (by simp)]at e4;replace e4:=Lib.hid e4;replace n:=Lib.hid n;clear f4 f2 e3;go_wp2_with fail
     go_roundg (gq-1)
     case measure=>omega
     case rel=>exact⟨K+1,by go_num,by omega,e4,n⟩
  ·obtain rfl:K=len:=by omega
   have e3:=e2.out;rw [show l.drop K=[]from by rw [←hl.out];exact List.drop_length]at e3
   replace e3:chkNs (chkR l fun a b=>on (f a) b) l=(0,0):=e3;rw [e3]at hR;clear e3 e2;obtain⟨V8,e8,n8⟩:=n.row (j:=0) rfl #[.int .i64 0,.int .i64 0];have hG:=n.b 0 rfl;have w0_:=n8.c 0 0 rfl rfl;have w1_:=n8.c 0 1 rfl rfl;have fin:=Lib.hid (hR.out V8 (F0.bel n8));clear n n8 hR;go_wp2_with (refine wpList_store_row (by rfl) 26 _ _ (by rfl) V.heap.size #[.int .i64 0,.int .i64 0] (by rfl) (by rfl) 26 _ hG (by kernel_rfl) rfl (by simp [Value.oneCell']) ?_;refine cast_w e8 ?_;go_simp)
   first|refine bodyPost_ret ?_ rfl fin.out|refine bodyPost_end ?_ rfl fin.out
   simp [results,Tryz.results37,go_sem,w0_,w1_]
end Go.Proofs.YtabhkakomececaaGreat.Eff
