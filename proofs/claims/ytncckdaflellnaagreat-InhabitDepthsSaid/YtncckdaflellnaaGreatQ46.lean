import Derived.Test.YtncckdaflellnaaGreatQ44
import Derived.Test.YtncckdaflellnaaGreatQ50
import Derived.Test.YtncckdaflellnaaGreatQ41
import Derived.Test.YtncckdaflellnaaGreatQ45
set_option linter.all false
set_option maxRecDepth 100000
set_option maxHeartbeats 4000000
namespace Go.Proofs.YtncckdaflellnaaGreat.Inh
open Go.RowKit Go.Lib Res Nam Lat Kin Unp Rel Lab
theorem depths19_walk(s:Sc)(gs:GoodS s)(lv ov tv nv pv:Value)(w:World)(rd:RdSc w s lv ov tv nv pv)(R:Ending→World→Prop)
  (hR:Hid (∀w',Below w.heap.size w w'→R (.returned (.bool true)) w')):Calls Tryz.prog 7 #[scV s lv ov tv nv pv] w R:=by
 have rd0:=rd;obtain⟨A1,c1,rfl,-,-⟩:=rd.l.op;obtain⟨A2,c2,rfl,-,-⟩:=Unp.RdPr.op rd.o;obtain⟨A3,c3,rfl,-,-⟩:=Unp.RdNs.op rd.t;obtain⟨N1,N3,rfl,-,-⟩:=rd.r.n.op;obtain⟨M1,M3,rfl,-⟩:=rd.r.p.sl;have n:=F0.z w;obtain⟨V,e1,n,z1⟩:=n.new (.cells [.slice A1 s.1.length c1,.slice A2 s.2.1.length c2,.slice A3 s.2.2.1.length c3,.int .i64 s.2.2.2.1.kind,.int .i64 s.2.2.2.1.at_,.int .i64 s.2.2.2.1.lo,.int .i64 s.2.2.2.1.hi,.int .i64 s.2.2.2.1.most,.slice N1 s.2.2.2.1.names.length N3,.slice M1 s.2.2.2.2.len M3,.string s.2.2.2.1.name,.int .i64 s.2.2.2.1.nat].toArray 31);replace rd0:=Lib.hid rd0;clear z1 rd;go_enter Tryz.func7,Tryz.ntmps7
 go_upto_region 1 with fail
 clear e1;have rS:=n.rg 0 rfl;have cF:=Lib.hid fun R hR=>fine19_calls s gs _ _ _ _ _ _ (rd0.out.below (F0.bel n)) R hR
 go_wp2_with (refine wpList_load_g (by rfl) 31 _ rfl w.heap.size 0 rfl _ _ rS Tryz.underlying31 rfl (by kernel_rfl) ?_;go_simp)
 refine cF.out _ (Lib.hid fun W1 y hy m1=>?_);clear cF rS;replace n:=n.bl m1;clear m1;cases y with
 | false =>
  have bw:=Lib.hid (F0.bel n);clear n hy;go_wp2_with fail
  refine lives19_calls W1 _ (Lib.hid fun W2 m2=>?_);have fin:=Lib.hid (hR.out W2 (bw.out.trans (m2.mono bw.out.size)));clear hR m2 bw;go_wp2_with fail
  exact fin.out
 | true =>
  obtain⟨o,b1,b2,b3⟩:=hy rfl;have rS:=n.rg 0 rfl;have cB:=Lib.hid fun R h1 h2=>build18_calls s gs (by omega) _ _ _ _ _ W1 (rd0.out.below (F0.bel n)) R h1 h2
  clear hy;go_wp2_with (refine wpList_load_g (by rfl) 31 _ rfl w.heap.size 0 rfl _ _ rS Tryz.underlying31 rfl (by kernel_rfl) ?_;go_simp)
  refine cB.out _ (Lib.hid fun W v hz pl m=>?_) (Lib.hid fun W hz m=>?_)
  case refine_2=>exact absurd o.bld hz
  clear cB rS;replace n:=n.bl m;obtain⟨qq,hq⟩:∃q:Int×Int,q=(0,0):=⟨_,rfl⟩;rw [←hq];obtain⟨q0,q1⟩:=qq;replace hq:=Lib.hid hq;obtain⟨W2,e5,n,z5⟩:=n.new (.cells #[.int .i64 q0,.int .i64 q1] 34);have m2:Below W.heap.size W W2:=e5▸(Below.refl _ _).alloc (Nat.le_refl _) _
  change PlanP W v _ _ _ (plS s)at pl
  replace pl:=Lib.hid (pl.below m2);have os:=OkS.of o.bld;have gx:=Lib.hid os.good;have ix:=Lib.hid os.inn.1;have lx:=Lib.hid os.num;clear m z5 m2 hz;go_upto_region 4 with fail
  clear e5
  have rS:∀W,(∃q:BW W2,W=q.w)→W.rangeAt w.heap.size 0 [.slice A1 s.1.length c1,.slice A2 s.2.1.length c2,.slice A3 s.2.2.1.length c3,.int .i64 s.2.2.2.1.kind,.int .i64 s.2.2.2.1.at_,.int .i64 s.2.2.2.1.lo,.int .i64 s.2.2.2.1.hi,.int .i64 s.2.2.2.1.most,.slice N1 s.2.2.2.1.names.length N3,.slice M1 s.2.2.2.2.len M3,.string s.2.2.2.1.name,.int .i64 s.2.2.2.1.nat]:=fun W hW=>by
   obtain⟨q,rfl⟩:=hW;exact(n.bl q.b).rg 1 rfl
  have bw2:=F0.bel n;have c1:=Lib.hid fun(q:BW W2) R hR=>depths_calls (pl.out.below q.b) gx.out ix.out lx.out.2 R hR
  have c2:=Lib.hid fun(q:BW W2) R hR=>refbuild18_calls s gs o (by omega) _ _ _ _ _ q.w (rd0.out.below (bw2.trans (q.b.mono bw2.size))) R hR
  have hR2:=Lib.hid fun(q:BW W2)=>hR.out q.w (bw2.trans (q.b.mono bw2.size))
  have lD:=Lib.hid (itr_len depN (plS s).1 (plS s).1.length);generalize plS s=x at *;clear n rd0 hR bw2 os o gs hq pl;have nW2:Below W2.heap.size W2 (W2.drewN 1):=below_drewN (Below.refl _ _) 1;refine wp_region_mix [([0,2],1),([],3),([],4),([],5),([6],7),([],8),([9,10,11],12)] [13,14] (by kernel_rfl) (by kernel_rfl) (by kernel_rfl) (by kernel_rfl) (fun _ _ d _ _ h=>by cases d<;>exact h) ?_
  refine mix_cons (os:=[_,_]) (by simp only[pickO,List.filterMap_cons,List.filterMap_nil,List.getElem?_toArray,List.getElem?_cons_succ,List.getElem?_cons_zero];rfl) (fun Kp hKp=>?_)
  go_big_quiet_step (exact rfl);refine wpQuiet_load rfl 31 _ rfl w.heap.size 0 rfl _ _ rS Tryz.underlying31 rfl (by kernel_rfl) ?_
  try go_simp
  refine wpQuiet_nil ?_;refine hKp _ ?_;clear hKp;refine loud (by rfl) (by kernel_rfl) (fun Kl hKl=>?_);go_simp;refine c1.out ⟨W2.drewN 1,nW2⟩ _ (Lib.hid fun W3 dv rD mW3=>?_);have nW3:=nW2.trans (mW3.mono nW2.size);refine hKl _ _ ⟨⟨W3,nW3⟩,rfl⟩ ?_;clear hKl;refine mix_cons (os:=[]) (by rfl) (fun Kp hKp=>?_);refine wpQuiet_nil ?_;refine hKp _ ?_;clear hKp;refine loud (by rfl) (by kernel_rfl) (fun Kl hKl=>?_);go_simp;refine c2.out ⟨W3,nW3⟩ _ (Lib.hid fun W4 lq nsv rn rm mW4=>?_);have nW4:=nW3.trans (mW4.mono nW3.size);obtain⟨Aq,cq,rfl,-,-⟩:=rm.op;obtain⟨An,cn,rfl,-,-⟩:=rn.el;refine hKl _ _ ⟨⟨W4,nW4⟩,rfl⟩ ?_;clear hKl;refine mix_cons (os:=[]) (by rfl) (fun Kp hKp=>?_);refine wpQuiet_nil ?_;refine hKp _ ?_;clear hKp;refine loud (by rfl) (by kernel_rfl) (fun Kl hKl=>?_);go_simp;refine refdepths19_calls x.1 gx.out ix.out lx.out.2 _ _ _ _ rfl rfl W4 rn _ (Lib.hid fun W5 v5 rD5 mW5=>?_);have nW5:=nW4.trans (mW5.mono nW4.size);refine hKl _ _ ⟨⟨W5,nW5⟩,rfl⟩ ?_;clear hKl;refine mix_cons (os:=[]) (by rfl) (fun Kp hKp=>?_);refine wpQuiet_nil ?_;refine hKp _ ?_;clear hKp;have rD0:=(rD.below mW4).below mW5;have cS:=Lib.hid fun R hR=>refsame12_calls (depL x.1) (itr depN x.1 x.1.length) dv v5 W5 rD0 rD5 (by show(itr depN x.1 x.1.length).length≤1000000;rw [lD.out];exact Nat.le_trans lx.out.2 (by decide)) (by rw [lD.out];exact Nat.le_trans lx.out.2 (by decide)) R hR
  rw [show decide (depL x.1=itr depN x.1 x.1.length)=true from decide_eq_true rfl]at cS;refine loud (by rfl) (by kernel_rfl) (fun Kl hKl=>?_);go_simp;refine cS.out _ (Lib.hid fun W6 mW6=>?_);have nW6:=nW5.trans (mW6.mono nW5.size);refine hKl _ _ ⟨⟨W6,nW6⟩,rfl⟩ ?_;clear hKl;refine mix_cons (os:=[_]) (by simp only[pickO,List.filterMap_cons,List.filterMap_nil,List.getElem?_toArray,List.getElem?_cons_succ,List.getElem?_cons_zero];rfl) (fun Kp hKp=>?_)
  go_big_quiet_step (exact rfl);refine wpQuiet_nil ?_
  refine hKp _ ?_;clear hKp;refine loud (by rfl) (by kernel_rfl) (fun Kl hKl=>?_);go_simp;refine depthsnil_calls W6 _ (Lib.hid fun W7 dn rN mW7=>?_);have nW7:=nW6.trans (mW7.mono nW6.size);obtain⟨Az,cz,rfl,-,-⟩:=ints_open rN;refine hKl _ _ ⟨⟨W7,nW7⟩,rfl⟩ ?_;clear hKl;refine mix_cons (os:=[]) (by rfl) (fun Kp hKp=>?_);refine wpQuiet_nil ?_;refine hKp _ ?_;clear hKp;refine loud (by rfl) (by kernel_rfl) (fun Kl hKl=>?_);go_simp;refine hKl _ _ ⟨⟨W7,nW7⟩,rfl⟩ ?_;clear hKl;refine mix_cons (os:=[_,_,_]) (by simp only[pickO,List.filterMap_cons,List.filterMap_nil,List.getElem?_toArray,List.getElem?_cons_succ,List.getElem?_cons_zero];rfl) (fun Kp hKp=>?_)
  repeat (go_big_quiet_step (exact rfl))
  refine wpQuiet_nil ?_;refine hKp _ ?_;clear hKp;refine loud (by rfl) (by kernel_rfl) (fun Kl hKl=>?_);go_simp;refine lives19_calls W7 _ (Lib.hid fun W8 mW8=>?_);have nW8:=nW7.trans (mW8.mono nW7.size);refine hKl _ _ ⟨⟨W8,nW8⟩,rfl⟩ ?_;clear hKl;refine mix_nil (os:=[_,_]) (by simp only[pickO,List.filterMap_cons,List.filterMap_nil,List.getElem?_toArray,List.getElem?_cons_succ,List.getElem?_cons_zero];rfl) (fun Kp hKp=>?_)
  repeat (go_big_quiet_step (exact rfl))
  refine wpQuiet_nil ?_;refine hKp _ ?_;clear hKp;have fin:=Lib.hid (hR2.out ⟨W8,nW8⟩);clear hR2 c1 c2;go_wp2_with fail
  exact fin.out
end Go.Proofs.YtncckdaflellnaaGreat.Inh
