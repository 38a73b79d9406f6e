import Derived.Test.YtabhkakomececaaGreatQX
import Derived.Test.YtabhkakomececaaGreatQ36
import Derived.Test.YtabhkakomececaaGreatQ49
import Derived.Test.YtabhkakomececaaGreatQ46
import Derived.Test.YtabhkakomececaaGreatQ47
set_option linter.all false
set_option maxRecDepth 100000
set_option maxHeartbeats 4000000
namespace Go.Proofs.YtabhkakomececaaGreat.Eff
open Go.RowKit Go.Lib Res Nam Lat Kin Unp Rel Lab Inh
theorem walk20nil_calls(A:Option Addr)(k c:Nat)(w:World)(R:Ending→World→Prop)(hR:Hid (R (.returned (.tuple #[.int .i64 (-1),.int .i64 (-1),.bool false])) w)):Calls Tryz.prog 40 #[.pointer none,.slice A k c] w R:=by
 have cL:=Lib.hid fun R hR=>plennil_calls w R hR
 go_enter Tryz.func40,Tryz.ntmps40
 go_wp2_with fail
 refine cL.out _ (Lib.hid ?_);go_wp2_with fail
 first|exact hR.out|(refine bodyPost_ret ?_ rfl hR.out;simp [results,Tryz.results40,go_sem])|(refine bodyPost_end ?_ rfl hR.out;simp [results,Tryz.results40,go_sem])
theorem walk_cases{J:Nat→Nat→Int}{sel:NdR→Pat.St→Int}{ns:List NdR}:∀(l:List Pat.St)(p:Int×Int),(0≤p.1)→(∀y∈ns,∀e∈y.edges,e.bare=false→0≤e.dst)→(∀y∈ns,∀x,0≤sel y x→∃(j:Nat)(hj:j<y.edges.length),sel y x=(j:Int)∧(y.edges[j]'hj).bare=false)→walkS J sel ns l p=(-1,-1)∨0≤(walkS J sel ns l p).1
| [],p,h,_,_=>.inr h
| x::r,p,h,hd,hs=>by
 unfold walkS;cases hy:ns[p.1.toNat]? with
 | none=>exact .inl rfl
 | some y =>
  have hm:=List.mem_of_getElem? hy;simp only
  by_cases q:sel y x<0
  ·rw [if_pos q];exact .inl rfl
  ·rw [if_neg q]
   obtain⟨j,hj,e,hb⟩:=hs y hm x (by omega);rw [e,Int.toNat_natCast,List.getElem?_eq_getElem hj];exact walk_cases r _ (hd y hm _ (List.getElem_mem hj) hb) hd hs
theorem walks20_walk(s:Sc)(gs:GoodS s)(lv ov tv nv pv:Value)(xs:List Pat.St)(qv:Value)(w:World)(rd:RdSc w s lv ov tv nv pv)(hp:Pat.RdP w qv xs)(gxs:∀s∈xs,Pat.GoodS s)(R:Ending→World→Prop)
  (hR:Hid (∀w',Below w.heap.size w w'→R (.returned (.bool true)) w')):Calls Tryz.prog 10 #[scV s lv ov tv nv pv,qv] w R:=by
 have rd0:=rd;obtain⟨A1,c1,rfl,-,-⟩:=rd.l.op;obtain⟨A2,c2,rfl,-,-⟩:=Unp.RdPr.op rd.o;obtain⟨A3,c3,rfl,-,-⟩:=Unp.RdNs.op rd.t;obtain⟨N1,N3,rfl,-,-⟩:=rd.r.n.op;obtain⟨M1,M3,rfl,-⟩:=rd.r.p.sl;have n:=F0.z w;obtain⟨V,e1,n,z1⟩:=n.new (.cells [.slice A1 s.1.length c1,.slice A2 s.2.1.length c2,.slice A3 s.2.2.1.length c3,.int .i64 s.2.2.2.1.kind,.int .i64 s.2.2.2.1.at_,.int .i64 s.2.2.2.1.lo,.int .i64 s.2.2.2.1.hi,.int .i64 s.2.2.2.1.most,.slice N1 s.2.2.2.1.names.length N3,.slice M1 s.2.2.2.2.len M3,.string s.2.2.2.1.name,.int .i64 s.2.2.2.1.nat].toArray 38);replace rd0:=Lib.hid rd0;clear z1 rd;have hp0:=hp;obtain⟨PA,PC,rfl,hpc,-⟩:=hp.op;replace hp0:=Lib.hid hp0;replace gxs:=Lib.hid gxs;clear hp;go_enter Tryz.func10,Tryz.ntmps10
 go_upto_region 1 with fail
 clear e1;have rS:=n.rg 0 rfl;have cF:=Lib.hid fun R hR=>fine20_calls s gs _ _ _ _ _ _ (rd0.out.below (F0.bel n)) R hR
 go_wp2_with (refine wpList_load_g (by rfl) 38 _ rfl w.heap.size 0 rfl _ _ rS Tryz.underlying38 rfl (by kernel_rfl) ?_;go_simp)
 refine cF.out _ (Lib.hid fun W1 y hy m1=>?_);clear cF rS;replace n:=n.bl m1;clear m1;cases y with
 | false =>
  have bw:=Lib.hid (F0.bel n);clear n hy;go_wp2_with fail
  refine lives20_calls W1 _ (Lib.hid fun W2 m2=>?_);have fin:=Lib.hid (hR.out W2 (bw.out.trans (m2.mono bw.out.size)));clear hR m2 bw;go_wp2_with fail
  exact fin.out
 | true =>
  by_cases hlx:xs.length≤100
  case neg =>
   have t1:(100:Int)<(xs.length:Int):=by omega
   have bw:=Lib.hid (F0.bel n);clear n hy hlx;go_wp2_with fail
   refine lives20_calls W1 _ (Lib.hid fun W2 m2=>?_);have fin:=Lib.hid (hR.out W2 (bw.out.trans (m2.mono bw.out.size)));clear hR m2 bw;go_wp2_with fail
   exact fin.out
  have t1:¬(100:Int)<(xs.length:Int):=by omega
  obtain⟨o,b1,b2,b3⟩:=hy rfl;have rS:=n.rg 0 rfl;have cB:=Lib.hid fun R h1 h2=>build18_calls s gs (by omega) _ _ _ _ _ W1 (rd0.out.below (F0.bel n)) R h1 h2
  clear hy;go_wp2_with (refine wpList_load_g (by rfl) 38 _ rfl w.heap.size 0 rfl _ _ rS Tryz.underlying38 rfl (by kernel_rfl) ?_;go_simp)
  refine cB.out _ (Lib.hid fun W v hz pl m=>?_) (Lib.hid fun W hz m=>?_)
  case refine_2=>exact absurd o.bld hz
  clear cB rS t1;replace n:=n.bl m;obtain⟨qq,hq⟩:∃q:Int×Int,q=(0,0):=⟨_,rfl⟩;rw [←hq];obtain⟨q0,q1⟩:=qq;replace hq:=Lib.hid hq;obtain⟨W2,e5,n,z5⟩:=n.new (.cells #[.int .i64 q0,.int .i64 q1] 26);have m2:Below W.heap.size W W2:=e5▸(Below.refl _ _).alloc (Nat.le_refl _) _
  change PlanP W v _ _ _ (plS s)at pl
  replace pl:=Lib.hid (pl.below m2);have os:=OkS.of o.bld;have ds:=Lib.hid (plS_ds o.bld);have gx:=Lib.hid os.good;have ix:=Lib.hid os.inn.1;have rx:=Lib.hid os.inn.2;have lx:=Lib.hid os.num;clear m z5 m2 hz;go_upto_region 4 with fail
  clear e5;have rS:=n.rg 1 rfl;have bw2:=F0.bel n;have cR:=Lib.hid fun R hR=>refbuild18_calls s gs o (by omega) _ _ _ _ _ W2 (rd0.out.below bw2) R hR
  go_wp2_with (refine wpList_load_g (by rfl) 38 _ rfl w.heap.size 0 rfl _ _ rS Tryz.underlying38 rfl (by kernel_rfl) ?_;go_simp)
  refine cR.out _ (Lib.hid fun W4 lq nsv rn rm m4=>?_);clear cR rS;have rm0:=Lib.hid rm;obtain⟨Aq,cq,rfl,-,-⟩:=rm.op;have hLt:=plan_latt pl.out;have hed:=Lib.hid (os.ed hLt);have nml:(nms s.1).length=s.1.length:=nms_len s.1;have hF:(fun a b=>on (ldR s.1.length (toN (idxQ s.1 s.2.1)) a) b)=leqF s.1 s.2.1:=rfl
  have hn32:s.1.length≤64:=by
   obtain⟨P,L,cs,-,-,hL⟩:=pl.out.lv;have:=hL.latt.2;omega
  rw [nml]at hLt hed;replace hLt:=Lib.hid hLt;generalize hX:plS s=x at *;replace pl:=Lib.hid (pl.out.below m4);obtain⟨An,cn,rfl,-,-⟩:=rn.el;replace n:=n.bl m4;obtain⟨V5,e5,n,z5⟩:=n.new (.cells #[.slice A1 s.1.length c1,.slice Aq s.1.length cq,.slice An x.1.length cn,.int .i64 x.2.1] 52);have m5:Below W4.heap.size W4 V5:=e5▸(Below.refl _ _).alloc (Nat.le_refl _) _;replace pl:=Lib.hid (pl.out.below m5);replace rn:=Lib.hid (rn.below m5);replace rm:=Lib.hid (rm0.out.below m5);replace hX:=Lib.hid hX;clear m4 z5 os hq bw2 rm0;go_upto_region 5 with fail
  clear e5 m5;have hp5:=Lib.hid (RdAt.below hp0.out (F0.bel n));have cW:=Lib.hid fun R hR=>walk20_calls pl.out (good_bd gx.out) gx.out ix.out (by rw [nml];exact hed.out) rx.out lx.out xs gxs.out _ hp5.out (by omega) R hR
  rw [nml]at cW;go_wp2_with fail
  refine cW.out _ (Lib.hid fun t W6 ht hb m6=>?_);clear cW;replace n:=n.bl m6;replace rn:=Lib.hid (rn.out.below m6);replace rm:=Lib.hid (rm.out.below m6);have hp6:=Lib.hid (RdAt.below hp5.out m6);clear hp5 hp0 m6 pl;go_upto_region 6 with fail
  obtain⟨I0,hI0⟩:∃I:Nat,x.2.1=(I:Int):=⟨x.2.1.toNat,by have:=rx.out.1;omega⟩
  have hI0l:I0<x.1.length:=by have:=rx.out.2;omega
  rw [hI0]at n ⊢;have wc:=walk_cases (J:=joinS s.1.length (leqF s.1 s.2.1)) (sel:=selI) xs ((I0:Int),(t:Int)) (by show(0:Int)≤(I0:Int);omega) (fun y hy e he hb=>((ix.out y hy e he).2 hb).1) (fun y hy x q=>sel_in (gx.out y hy) q)
  have bV:=F0.bel n;have cBt:=Lib.hid fun(q:BW W6) R hR=>refbottom20_calls s.1.length (ldR s.1.length (toN (idxQ s.1 s.2.1))) (.slice Aq s.1.length cq) q.w (rm.out.below q.b) ⟨t,ht,hb⟩ (by omega) R hR
  have cRW:=Lib.hid fun(q:BW W6) R hR=>refwalk20_calls (l:=x.1) (n':=s.1.length) (f:=ldR s.1.length (toN (idxQ s.1 s.2.1))) A1 s.1.length c1 (.slice Aq s.1.length cq) (.slice An x.1.length cn) (I0:Int) gx.out ds.out ix.out hed.out lx.out.2 (by rw [hF];exact hLt.out) hn32 xs _ q.w I0 t hI0l ht (rn.out.below q.b) (rm.out.below q.b) (RdAt.below hp6.out q.b) gxs.out (by omega) R hR
  rw [hF]at cRW;have hbu:∀u:Nat,u<s.1.length→(∀a,a<s.1.length→on (ldR s.1.length (toN (idxQ s.1 s.2.1)) u) a=true)→u=t:=fun u hu h=>hLt.out.ord.anti u t hu ht (h t ht) (hb u hu)
  replace hbu:=Lib.hid hbu;generalize hres:walkS (joinS s.1.length (leqF s.1 s.2.1)) selI x.1 xs ((I0:Int),(t:Int))=res at *;replace hres:=Lib.hid hres;obtain⟨r0,r1⟩:=res;simp only at cRW wc ⊢
  have rW:∀W,(∃q:BW W6,W=q.w)→W.rangeAt W4.heap.size 0 [.slice A1 s.1.length c1,.slice Aq s.1.length cq,.slice An x.1.length cn,.int .i64 I0]:=fun W hW=>by
   obtain⟨q,rfl⟩:=hW;exact(n.bl q.b).rg 0 rfl
  have l0:=n.lt 0 rfl;have k3:=fun q:BW W6=>q.cell l0 (n.c 0 3 rfl rfl)
  have k1:=fun q:BW W6=>q.cell l0 (n.c 0 1 rfl rfl)
  have gW:Below W6.heap.size W6 (W6.drewN 1):=below_drewN (Below.refl _ _) 1;have hR2:=Lib.hid fun(q:BW W6)=>hR.out q.w (bV.trans (q.b.mono bV.size))
  clear hR hX hed nml hF hLt rd0 n gx ix rx lx o ds bV hI0 hb;refine wp_region_mix [([0,1,2,3,4,6],5),([],7)] [8,9,10,11,12] (by kernel_rfl) (by kernel_rfl) (by kernel_rfl) (by kernel_rfl) (fun _ _ d _ _ h=>by cases d<;>exact h) ?_
  refine mix_cons (os:=[_,_,_,_,_,_]) (by simp only[pickO,List.filterMap_cons,List.filterMap_nil,List.getElem?_toArray,List.getElem?_cons_succ,List.getElem?_cons_zero];rfl) (fun Kp hKp=>?_)
  refine wpQuiet_load rfl 52 _ rfl W4.heap.size 0 rfl _ _ rW Tryz.underlying52 rfl (by kernel_rfl) ?_
  try go_simp
  repeat (go_big_quiet_step (exact rfl))
  refine wpQuiet_nil ?_;refine hKp _ ?_;clear hKp;refine loud (by rfl) (by kernel_rfl) (fun Kl hKl=>?_);go_simp;refine cBt.out ⟨W6.drewN 1,gW⟩ _ (Lib.hid fun u hu hbb=>?_);obtain rfl:=hbu.out u hu hbb;refine hKl _ _ (BW.of gW) ?_;clear hKl cBt hbu hbb;refine mix_cons (os:=[]) (by rfl) (fun Kp hKp=>?_);refine wpQuiet_nil ?_;refine hKp _ ?_;clear hKp;refine loud (by rfl) (by kernel_rfl) (fun Kl hKl=>?_);go_simp;refine cRW.out ⟨W6.drewN 1,gW⟩ _ (Lib.hid fun W9 m9=>?_);have g9:=gW.trans (m9.mono gW.size);refine hKl _ _ (BW.of g9) ?_;clear hKl cRW;refine mix_nil (os:=[_,_,_,_,_]) (by simp only[pickO,List.filterMap_cons,List.filterMap_nil,List.getElem?_toArray,List.getElem?_cons_succ,List.getElem?_cons_zero];rfl) (fun Kp hKp=>?_)
  repeat (go_big_quiet_step (exact rfl))
  refine wpQuiet_nil ?_;refine hKp _ ?_;have hR3:=Lib.hid fun W10 (m10:Below W9.heap.size W9 W10)=>hR2.out ⟨W10,g9.trans (m10.mono g9.size)⟩
  clear hKp hR2 m9 gW k3 k1 l0 rW hu ht;go_upto_region 7 with fail
  go_wp2_with fail
  refine walk20nil_calls PA xs.length PC W9 _ (Lib.hid ?_);rcases wc with wc|wc
  ·obtain⟨rfl,rfl⟩:=Prod.mk.inj wc
   clear wc;go_wp2_with fail
   refine lives20_calls W9 _ (Lib.hid fun W10 m10=>?_);have fin:=Lib.hid (hR3.out W10 m10);clear hR3 m10;go_wp2_with fail
   exact fin.out
  ·have t2:¬r0<0:=by omega
   rw [decide_eq_true wc];go_wp2_with fail
   refine lives20_calls W9 _ (Lib.hid fun W10 m10=>?_);have fin:=Lib.hid (hR3.out W10 m10);clear hR3 m10;go_wp2_with fail
   exact fin.out
end Go.Proofs.YtabhkakomececaaGreat.Eff
