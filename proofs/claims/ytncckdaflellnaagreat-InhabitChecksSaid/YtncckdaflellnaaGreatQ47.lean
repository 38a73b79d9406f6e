import Derived.Test.YtncckdaflellnaaGreatQ44
import Derived.Test.YtncckdaflellnaaGreatQ50
import Derived.Test.YtncckdaflellnaaGreatQ41
import Derived.Test.YtncckdaflellnaaGreatQ45
set_option linter.all false
set_option maxRecDepth 100000
set_option maxHeartbeats 4000000
namespace Go.Proofs.YtncckdaflellnaaGreat.Inh
open Go.RowKit Go.Lib Res Nam Lat Kin Unp Rel Lab
theorem flt_alloc19(ρ:Operand→Value)(W:World)(o:Oper)(h:o.op=.alloc 34):(execOp ρ o).run Tryz.prog W=.ok (.value (ptA W.heap.size)) (W.alloc (.cells #[.int .i64 0,.int .i64 0] 34)):=by
 simp [execOp,h,go_sem,ptA]
def wanL:List Int→List NdR→Int×Int
| d::D,y::l=>if d=0 then(11,y.at_)else wanL D l
| _,_=>(0,0)
theorem wan_fz:∀(D:List Int)(l:List NdR)(i:Nat),D.length=l.length→wanL D l=if fz D (i:Int)<0 then(0,0)else(11,((l[(fz D (i:Int)).toNat-i]?).map (·.at_)).getD 0)
| [],[],i,_=>by
 show(0,0)=if(-1:Int)<0 then _ else _;rw [if_pos (by decide)]
| d::D,y::l,i,h=>by
 have h':D.length=l.length:=by simpa using h
 show(if d=0 then(11,y.at_)else wanL D l)=if(if d=0 then(i:Int)else fz D ((i:Int)+1))<0 then _ else(11,(((y::l)[(if d=0 then(i:Int)else fz D ((i:Int)+1)).toNat-i]?).map (·.at_)).getD 0)
 by_cases c:d=0
 ·simp only[if_pos c]
  rw [if_neg (by omega),Int.toNat_natCast,Nat.sub_self];rfl
 ·simp only[if_neg c]
  have ih:=wan_fz D l (i+1) h';have e:(((i+1:Nat)):Int)=(i:Int)+1:=by omega
  rw [e]at ih;rw [ih]
  by_cases q:fz D ((i:Int)+1)<0
  ·rw [if_pos q,if_pos q]
  ·rw [if_neg q,if_neg q]
   have hge:(i:Int)+1≤fz D ((i:Int)+1):=by
    rcases fz_cases D (i+1)with⟨h1,-⟩|⟨j,h1,-⟩
    ·rw [e]at h1;omega
    ·rw [e]at h1;omega
   obtain⟨m,hm⟩:∃m,(fz D ((i:Int)+1)).toNat-i=m+1:=⟨(fz D ((i:Int)+1)).toNat-i-1,by omega⟩;rw [hm,List.getElem?_cons_succ,show(fz D ((i:Int)+1)).toNat-(i+1)=m by omega]
| [],_::_,_,h=>by cases h
| _::_,[],_,h=>by cases h
theorem wan_ck(ns:List NdR):wanL (depL ns) ns=ckS ns:=by
 have h:=wan_fz (depL ns) ns 0 (itr_len _ _ _);rw [h];rfl
theorem checks19_walk(s:Sc)(gs:GoodS s)(lv ov tv nv pv:Value)(w:World)(rd:RdSc w s lv ov tv nv pv)(R:Ending→World→Prop)
  (hR:Hid (∀w',Below w.heap.size w w'→R (.returned (.bool true)) w')):Calls Tryz.prog 9 #[scV s lv ov tv nv pv] w R:=by
 have rd0:=rd;obtain⟨A1,c1,rfl,-,-⟩:=rd.l.op;obtain⟨A2,c2,rfl,-,-⟩:=Unp.RdPr.op rd.o;obtain⟨A3,c3,rfl,-,-⟩:=Unp.RdNs.op rd.t;obtain⟨N1,N3,rfl,-,-⟩:=rd.r.n.op;obtain⟨M1,M3,rfl,-⟩:=rd.r.p.sl;have n:=F0.z w;obtain⟨V,e1,n,z1⟩:=n.new (.cells [.slice A1 s.1.length c1,.slice A2 s.2.1.length c2,.slice A3 s.2.2.1.length c3,.int .i64 s.2.2.2.1.kind,.int .i64 s.2.2.2.1.at_,.int .i64 s.2.2.2.1.lo,.int .i64 s.2.2.2.1.hi,.int .i64 s.2.2.2.1.most,.slice N1 s.2.2.2.1.names.length N3,.slice M1 s.2.2.2.2.len M3,.string s.2.2.2.1.name,.int .i64 s.2.2.2.1.nat].toArray 31);replace rd0:=Lib.hid rd0;clear z1 rd;go_enter Tryz.func9,Tryz.ntmps9
 go_upto_region 1 with fail
 clear e1;go_wp2_with fail
 refine check19nil_calls V _ (Lib.hid fun W0 m0=>?_);replace n:=n.bl m0;clear m0;have rS:=n.rg 0 rfl;have cF:=Lib.hid fun R hR=>fine19_calls s gs _ _ _ _ _ _ (rd0.out.below (F0.bel n)) R hR
 go_wp2_with (refine wpList_load_g (by rfl) 31 _ rfl w.heap.size 0 rfl _ _ rS Tryz.underlying31 rfl (by kernel_rfl) ?_;go_simp)
 refine cF.out _ (Lib.hid fun W1 y hy m1=>?_);clear cF rS;replace n:=n.bl m1;clear m1;cases y with
 | false =>
  have bw:=Lib.hid (F0.bel n);clear n hy;go_wp2_with fail
  refine lives19_calls W1 _ (Lib.hid fun W2 m2=>?_);have fin:=Lib.hid (hR.out W2 (bw.out.trans (m2.mono bw.out.size)));clear hR m2 bw;go_wp2_with fail
  exact fin.out
 | true =>
  obtain⟨o,b1,b2,b3⟩:=hy rfl;have rS:=n.rg 0 rfl;have cB:=Lib.hid fun R h1 h2=>build18_calls s gs (by omega) _ _ _ _ _ W1 (rd0.out.below (F0.bel n)) R h1 h2
  clear hy;go_wp2_with (refine wpList_load_g (by rfl) 31 _ rfl w.heap.size 0 rfl _ _ rS Tryz.underlying31 rfl (by kernel_rfl) ?_;go_simp)
  refine cB.out _ (Lib.hid fun W v hz pl m=>?_) (Lib.hid fun W hz m=>?_)
  case refine_2=>exact absurd o.bld hz
  clear cB rS;replace n:=n.bl m;obtain⟨qq,hq⟩:∃q:Int×Int,q=(0,0):=⟨_,rfl⟩;rw [←hq];obtain⟨q0,q1⟩:=qq;replace hq:=Lib.hid hq;obtain⟨W2,e5,n,z5⟩:=n.new (.cells #[.int .i64 q0,.int .i64 q1] 34);have m2:Below W.heap.size W W2:=e5▸(Below.refl _ _).alloc (Nat.le_refl _) _
  change PlanP W v _ _ _ (plS s)at pl
  replace pl:=Lib.hid (pl.below m2);have os:=OkS.of o.bld;have gx:=Lib.hid os.good;have ix:=Lib.hid os.inn.1;have lx:=Lib.hid os.num;clear m z5 m2 hz;go_upto_region 6 with fail
  clear e5;have rS:=n.rg 1 rfl;have bw2:=F0.bel n;have cR:=Lib.hid fun R hR=>refbuild18_calls s gs o (by omega) _ _ _ _ _ W2 (rd0.out.below bw2) R hR
  go_wp2_with (refine wpList_load_g (by rfl) 31 _ rfl w.heap.size 0 rfl _ _ rS Tryz.underlying31 rfl (by kernel_rfl) ?_;go_simp)
  refine cR.out _ (Lib.hid fun W4 lq nsv rn rm m4=>?_);clear cR rS;obtain⟨Aq,cq,rfl,-,-⟩:=rm.op;have lD:=Lib.hid (itr_len depN (plS s).1 (plS s).1.length);have wck:=Lib.hid (wan_ck (plS s).1);generalize hX:plS s=x at *;replace pl:=Lib.hid (pl.out.below m4);obtain⟨An,cn,rfl,-,-⟩:=rn.el;replace n:=n.bl m4;obtain⟨V5,e5,n,z5⟩:=n.new (.cells #[.slice A1 s.1.length c1,.slice Aq s.1.length cq,.slice An x.1.length cn,.int .i64 x.2.1] 45);have m5:Below W4.heap.size W4 V5:=e5▸(Below.refl _ _).alloc (Nat.le_refl _) _;replace pl:=Lib.hid (pl.out.below m5);replace rn:=rn.below m5;clear hX m4 z5 os o hq rm bw2;go_upto_region 7 with fail
  clear e5;have rW:=n.rg 0 rfl;have cD:=Lib.hid fun R hR=>refdepths19_calls x.1 gx.out ix.out lx.out.2 (.slice A1 s.1.length c1) (.slice Aq s.1.length cq) (.slice An x.1.length cn) x.2.1 rfl rfl V5 rn R hR
  go_wp2_with (refine wpList_load_g (by rfl) 45 _ rfl W4.heap.size 0 rfl _ _ rW Tryz.underlying45 rfl (by kernel_rfl) ?_;go_simp)
  refine cD.out _ (Lib.hid fun W6 dv rD m6=>?_);clear cD rW;replace pl:=Lib.hid (pl.out.below m6);replace rn:=rn.below m6;replace n:=n.bl m6;obtain⟨V7,e7,n,z7⟩:=n.new (.cells #[.int .i64 0,.int .i64 0] 34);have m7:Below W6.heap.size W6 V7:=e7▸(Below.refl _ _).alloc (Nat.le_refl _) _;clear m6 z7;go_upto_region 9 with(refine wpList_copy #[.int .i64 0,.int .i64 0] ⟨rfl,rfl,rfl⟩ ⟨rfl,rfl,rfl⟩ flt_alloc19 (by kernel_rfl) ⟨rfl,by simp [Value.oneCell']⟩ (fun _=>⟨rfl,rfl⟩) ?_;go_simp)
  clear e7;obtain⟨len,hl⟩:∃len,x.1.length=len:=⟨_,rfl⟩;obtain⟨D,hD⟩:∃D,D=itr depN x.1 x.1.length:=⟨_,rfl⟩;have wck2:Hid (wanL D x.1=ckS x.1):=Lib.hid (by rw [hD];exact wck.out)
  rw [←hD]at rD;have hDl:D.length=len:=by rw [hD,lD.out,hl]
  obtain⟨Ad,cd,rfl,-,hDc⟩:=ints_open rD;obtain⟨A_,c_,q_,-,hel⟩:=rn.el;simp only[Value.slice.injEq,true_and]at q_;obtain⟨rfl,rfl⟩:=q_;rw [hDl]at hDc ⊢;rw [hl]at n;have hlx:=lx.out;rw [hl]at hlx
  have hDc2:Hid (∀J:Nat,J<len→∃g o,Ad=some ⟨g,o,none⟩∧g<W6.heap.size∧W6.cell? ⟨g,o+J,none⟩=some (.int .i64 (atD D (J:Int)))∧D.drop J=atD D (J:Int)::D.drop (J+1)):=Lib.hid fun J hJ=>by
   obtain⟨g,o,e,hg,hc⟩:=hDc (by omega);refine⟨g,o,e,hg,hc J hJ,?_⟩;rw [List.drop_eq_getElem_cons (by omega:J<D.length)];unfold atD;rw [Int.toNat_natCast,List.getD_eq_getElem?_getD,List.getElem?_eq_getElem (by omega:J<D.length)];rfl
  have hel2:Hid (∀J:Nat,J<len→∃(g o:Nat) (z:Int),An=some ⟨g,o,none⟩∧g<W6.heap.size∧W6.cell? ⟨g,o+J*7+1,none⟩=some (.int .i64 z)∧∀d D,wanL (d::D) (x.1.drop J)=if d=0 then(11,z)else wanL D (x.1.drop (J+1))):=Lib.hid fun J hJ=>by
   have hJ':J<x.1.length:=by rw [hl];exact hJ
   obtain⟨g,o,nv,ev,e,hg,hrg,-,-⟩:=hel J hJ';refine⟨g,o,(x.1[J]'hJ').at_,e,hg,hrg 1 _ rfl,fun d D=>?_⟩;rw [List.drop_eq_getElem_cons hJ'];rfl
  have n0:=Lib.hid n;have l1:=Lib.hid hlx.1;have l2:len≤40000:=hlx.2;have hstart:Hid (wanL (D.drop len) (x.1.drop len)=(0,0)):=Lib.hid (by rw [List.drop_of_length_le (by omega),List.drop_of_length_le (by omega)];rfl)
  have m70:=Lib.hid m7;replace hl:=Lib.hid hl;clear hDc rD rn wck lD hD n rd0 hlx hel hDl m7;have hsub:(len:Int)-1≤40000:=by omega
  go_upto_region 10 with fail
  go_loopg [8] len (fun g i wr=>∃(K:Nat) (z:Int) (qa qb:Int),i=.int .i64 z∧Hid (z=(K:Int)-1)∧g=K∧K≤len∧Hid (wanL (D.drop K) (x.1.drop K)=(qa,qb))∧Hid (Below W6.heap.size W6 wr)∧Hid (Hq F0 () () w wr [(W6.heap.size,.cells #[.int .i64 qa,.int .i64 qb] 34),(W4.heap.size,.cells #[.slice A1 s.1.length c1,.slice Aq s.1.length cq,.slice An len cn,.int .i64 x.2.1] 45),(W.heap.size,.cells #[.int .i64 q0,.int .i64 q1] 34),(w.heap.size,.cells [.slice A1 s.1.length c1,.slice A2 s.2.1.length c2,.slice A3 s.2.2.1.length c3,.int .i64 s.2.2.2.1.kind,.int .i64 s.2.2.2.1.at_,.int .i64 s.2.2.2.1.lo,.int .i64 s.2.2.2.1.hi,.int .i64 s.2.2.2.1.most,.slice N1 s.2.2.2.1.names.length N3,.slice M1 s.2.2.2.2.len M3,.string s.2.2.2.1.name,.int .i64 s.2.2.2.1.nat].toArray 31)]))
  case atStart=>exact⟨len,(len:Int)-1,0,0,rfl,Lib.hid rfl,rfl,Nat.le_refl _,hstart,m70,n0⟩
  case round =>
   clear n0 hstart m70;obtain⟨K,z,qa,qb,rfl,hz,hgK,hK,eq,mW,n⟩:=hrel;obtain rfl:K=gk:=hgK.symm;replace n:=n.out;replace mW:=mW.out;cases K with
   | zero =>
    obtain rfl:z=-1:=by have:=hz.out;omega
    have eq':=eq.out;rw [List.drop_zero,List.drop_zero,wck2.out]at eq';have cC:=Lib.hid fun(q:BW wr) R hR=>check19_calls (pl.out.below (mW.trans (q.b.mono mW.size))) gx.out ix.out lx.out.2 R hR
    rw [eq']at cC;simp only at cC
    have rF:∀W,(∃q:BW wr,W=q.w)→W.rangeAt W6.heap.size 0 [.int .i64 qa,.int .i64 qb]:=fun W hW=>by
     obtain⟨q,rfl⟩:=hW;exact(n.bl q.b).rg 0 rfl
    have bwr:=F0.bel n;have hR2:=Lib.hid fun(q:BW wr)=>hR.out q.w (bwr.trans (q.b.mono bwr.size))
    have nwr:Below wr.heap.size wr (wr.drewN 1):=below_drewN (Below.refl _ _) 1;clear n hR eq eq' hz mW bwr wck2 hDc2 hel2;go_upto_region 14 with fail
    refine wp_region_mix [([0,2],1),([3,4],5)] [6,7] (by kernel_rfl) (by kernel_rfl) (by kernel_rfl) (by kernel_rfl) (fun _ _ d _ _ h=>by cases d<;>exact h) ?_
    refine mix_cons (os:=[_,_]) (by simp only[pickO,List.filterMap_cons,List.filterMap_nil,List.getElem?_toArray,List.getElem?_cons_succ,List.getElem?_cons_zero];rfl) (fun Kp hKp=>?_)
    go_big_quiet_step (exact rfl);refine wpQuiet_load rfl 34 _ rfl W6.heap.size 0 rfl _ _ rF Tryz.underlying34 rfl (by kernel_rfl) ?_
    try go_simp
    refine wpQuiet_nil ?_;refine hKp _ ?_;clear hKp;refine loud (by rfl) (by kernel_rfl) (fun Kl hKl=>?_);go_simp;refine cC.out ⟨wr.drewN 1,nwr⟩ _ (Lib.hid fun W8 mW8=>?_);have nW8:=nwr.trans (mW8.mono nwr.size);refine hKl _ _ ⟨⟨W8,nW8⟩,rfl⟩ ?_;clear hKl;refine mix_cons (os:=[_,_]) (by simp only[pickO,List.filterMap_cons,List.filterMap_nil,List.getElem?_toArray,List.getElem?_cons_succ,List.getElem?_cons_zero];rfl) (fun Kp hKp=>?_)
    repeat (go_big_quiet_step (exact rfl))
    refine wpQuiet_nil ?_;refine hKp _ ?_;clear hKp;refine loud (by rfl) (by kernel_rfl) (fun Kl hKl=>?_);go_simp;refine lives19_calls W8 _ (Lib.hid fun W9 mW9=>?_);have nW9:=nW8.trans (mW9.mono nW8.size);refine hKl _ _ ⟨⟨W9,nW9⟩,rfl⟩ ?_;clear hKl;refine mix_nil (os:=[_,_]) (by simp only[pickO,List.filterMap_cons,List.filterMap_nil,List.getElem?_toArray,List.getElem?_cons_succ,List.getElem?_cons_zero];rfl) (fun Kp hKp=>?_)
    repeat (go_big_quiet_step (exact rfl))
    refine wpQuiet_nil ?_;refine hKp _ ?_;clear hKp;have fin:=Lib.hid (hR2.out ⟨W9,nW9⟩);clear hR2 cC;go_wp2_with fail
    exact fin.out
   | succ m =>
    obtain rfl:z=(m:Int):=by have:=hz.out;omega
    have hm:m<len:=by omega
    obtain⟨gd,od,rfl,hgd,hcd,hdr⟩:=hDc2.out m hm;obtain⟨gn,on,at_,rfl,hgn,hcn,hwn⟩:=hel2.out m hm;have c1:=(mW.cell (p:=⟨gd,od+m,none⟩) hgd).trans hcd;have c2:=(mW.cell (p:=⟨gn,on+m*7+1,none⟩) hgn).trans hcn;have hw:=hwn (atD D (m:Int)) (D.drop (m+1));rw [←hdr,eq.out]at hw;have i0:(0:Int)≤(m:Int):=by omega
    have i1:(m:Int)<(len:Int):=by omega
    have x2:=n.c 1 2 rfl rfl;clear hcd hcn hdr hwn hz;generalize atD D (m:Int)=a at *
    by_cases a0:a=0
    ·have ta:(a==0)=true:=by simpa using a0
     rw [if_pos a0]at hw;replace hw:=Lib.hid hw;have hG:=n.b 0 rfl;obtain⟨V9,e9,n9⟩:=n.row (j:=0) rfl #[.int .i64 11,.int .i64 at_];simp only[List.set_cons_zero]at n9;have mX:=Lib.hid (show Below W6.heap.size W6 V9 from by rw [←e9];exact below_setRow (Nat.le_refl _) mW)
     replace n9:=Lib.hid n9;clear a0 n mW;go_upto_region 11 with(refine wpList_store_row (by rfl) 34 _ _ (by rfl) W6.heap.size #[.int .i64 11,.int .i64 at_] (by rfl) (by rfl) 34 _ hG (by kernel_rfl) rfl (by simp [Value.oneCell']) ?_;refine cast_w e9 ?_;go_simp)
     clear hG c1 c2 x2;go_wp2_with fail
     go_roundg m
     case measure=>omega
     case rel=>exact⟨m,(m:Int)-1,11,at_,rfl,Lib.hid rfl,rfl,by omega,hw,mX,n9⟩
    ·have ta:(a==0)=false:=by simpa using a0
     rw [if_neg a0]at hw;replace hw:=Lib.hid hw;replace n:=Lib.hid n;replace mW:=Lib.hid mW;clear a0;go_wp2_with fail
     go_roundg m
     case measure=>omega
     case rel=>exact⟨m,(m:Int)-1,qa,qb,rfl,Lib.hid rfl,rfl,by omega,hw,mW,n⟩
end Go.Proofs.YtncckdaflellnaaGreat.Inh
