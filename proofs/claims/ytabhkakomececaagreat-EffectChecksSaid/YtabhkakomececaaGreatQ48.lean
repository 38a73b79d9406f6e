import Derived.Test.YtabhkakomececaaGreatQ36
import Derived.Test.YtabhkakomececaaGreatQ41
import Derived.Test.YtabhkakomececaaGreatQ46
import Derived.Test.YtabhkakomececaaGreatQ47
set_option linter.all false
set_option maxRecDepth 100000
set_option maxHeartbeats 4000000
namespace Go.Proofs.YtabhkakomececaaGreat.Eff
open Go.RowKit Go.Lib Res Nam Lat Kin Unp Rel Lab Inh
theorem check20nil_calls(w:World)(R:Ending→World→Prop)(hR:Hid (∀W,Below w.heap.size w W→R (.returned (.agg #[.int .i64 1,.int .i64 0])) W)):Calls Tryz.prog 34 #[.pointer none] w R:=by
 have m0:=F0.z w;obtain⟨V,e1,n,z1⟩:=m0.new (.cells #[.int .i64 0,.int .i64 0] 26);have hG:=n.b 0 rfl;obtain⟨V2,e2,n2⟩:=n.row (j:=0) rfl #[.int .i64 1,.int .i64 0];have w0_:=n2.c 0 0 rfl rfl;have w1_:=n2.c 0 1 rfl rfl;have fin:=Lib.hid (hR.out V2 (F0.bel n2));clear n n2 m0 hR z1;go_enter Tryz.func34,Tryz.ntmps34
 go_upto_region 1 with fail
 clear e1;go_wp2_with (refine wpList_store_row (by rfl) 26 _ _ (by rfl) w.heap.size #[.int .i64 1,.int .i64 0] (by rfl) (by rfl) 26 _ hG (by kernel_rfl) rfl (by simp [Value.oneCell']) ?_;refine cast_w e2 ?_;go_simp)
 first|refine bodyPost_ret ?_ rfl fin.out|refine bodyPost_end ?_ rfl fin.out
 simp [results,Tryz.results34,go_sem,w0_,w1_]
theorem plan_chk{s:Sc}(o:OkS s)(hL:Latt (nms s.1).length (leqF s.1 s.2.1)):chkNs (chkR (plS s).1 fun a b=>on (ldR s.1.length (toN (idxQ s.1 s.2.1)) a) b) (plS s).1=chkNs (chkE (plS s).1 (leqF s.1 s.2.1)) (plS s).1:=by
 have hF:(fun a b=>on (ldR s.1.length (toN (idxQ s.1 s.2.1)) a) b)=leqF s.1 s.2.1:=rfl;rw [hF];exact(chkNs_eq _ fun y hy e he=>chk_same hL (o.ed hL y hy e he) (okS_co o y hy e he)).symm
theorem checks20_walk(s:Sc)(gs:GoodS s)(lv ov tv nv pv:Value)(w:World)(rd:RdSc w s lv ov tv nv pv)(R:Ending→World→Prop)
  (hR:Hid (∀w',Below w.heap.size w w'→R (.returned (.bool true)) w')):Calls Tryz.prog 8 #[scV s lv ov tv nv pv] w R:=by
 have rd0:=rd;obtain⟨A1,c1,rfl,-,-⟩:=rd.l.op;obtain⟨A2,c2,rfl,-,-⟩:=Unp.RdPr.op rd.o;obtain⟨A3,c3,rfl,-,-⟩:=Unp.RdNs.op rd.t;obtain⟨N1,N3,rfl,-,-⟩:=rd.r.n.op;obtain⟨M1,M3,rfl,-⟩:=rd.r.p.sl;have n:=F0.z w;obtain⟨V,e1,n,z1⟩:=n.new (.cells [.slice A1 s.1.length c1,.slice A2 s.2.1.length c2,.slice A3 s.2.2.1.length c3,.int .i64 s.2.2.2.1.kind,.int .i64 s.2.2.2.1.at_,.int .i64 s.2.2.2.1.lo,.int .i64 s.2.2.2.1.hi,.int .i64 s.2.2.2.1.most,.slice N1 s.2.2.2.1.names.length N3,.slice M1 s.2.2.2.2.len M3,.string s.2.2.2.1.name,.int .i64 s.2.2.2.1.nat].toArray 38);replace rd0:=Lib.hid rd0;clear z1 rd;go_enter Tryz.func8,Tryz.ntmps8
 go_upto_region 1 with fail
 clear e1;go_wp2_with fail
 refine check20nil_calls V _ (Lib.hid fun W0 m0=>?_);replace n:=n.bl m0;clear m0;have rS:=n.rg 0 rfl;have cF:=Lib.hid fun R hR=>fine20_calls s gs _ _ _ _ _ _ (rd0.out.below (F0.bel n)) R hR
 go_wp2_with (refine wpList_load_g (by rfl) 38 _ rfl w.heap.size 0 rfl _ _ rS Tryz.underlying38 rfl (by kernel_rfl) ?_;go_simp)
 refine cF.out _ (Lib.hid fun W1 y hy m1=>?_);clear cF rS;replace n:=n.bl m1;clear m1;cases y with
 | false =>
  have bw:=Lib.hid (F0.bel n);clear n hy;go_wp2_with fail
  refine lives20_calls W1 _ (Lib.hid fun W2 m2=>?_);have fin:=Lib.hid (hR.out W2 (bw.out.trans (m2.mono bw.out.size)));clear hR m2 bw;go_wp2_with fail
  exact fin.out
 | true =>
  obtain⟨o,b1,b2,b3⟩:=hy rfl;have rS:=n.rg 0 rfl;have cB:=Lib.hid fun R h1 h2=>build18_calls s gs (by omega) _ _ _ _ _ W1 (rd0.out.below (F0.bel n)) R h1 h2
  clear hy;go_wp2_with (refine wpList_load_g (by rfl) 38 _ rfl w.heap.size 0 rfl _ _ rS Tryz.underlying38 rfl (by kernel_rfl) ?_;go_simp)
  refine cB.out _ (Lib.hid fun W v hz pl m=>?_) (Lib.hid fun W hz m=>?_)
  case refine_2=>exact absurd o.bld hz
  clear cB rS;replace n:=n.bl m;obtain⟨qq,hq⟩:∃q:Int×Int,q=(0,0):=⟨_,rfl⟩;rw [←hq];obtain⟨q0,q1⟩:=qq;replace hq:=Lib.hid hq;obtain⟨W2,e5,n,z5⟩:=n.new (.cells #[.int .i64 q0,.int .i64 q1] 26);have m2:Below W.heap.size W W2:=e5▸(Below.refl _ _).alloc (Nat.le_refl _) _
  change PlanP W v _ _ _ (plS s)at pl
  replace pl:=Lib.hid (pl.below m2);have os:=OkS.of o.bld;have gx:=Lib.hid os.good;have ix:=Lib.hid os.inn.1;have lx:=Lib.hid os.num;clear m z5 m2 hz;go_upto_region 6 with fail
  clear e5;have hLt:=plan_latt pl.out;have bw2:=F0.bel n;have gW:Below W2.heap.size W2 (W2.drewN 1):=below_drewN (Below.refl _ _) 1;have hch:=plan_chk os hLt;have hed:=Lib.hid (os.ed hLt);have hco:=Lib.hid (okS_co os);have cC:=Lib.hid fun R hR=>check20_calls (pl.out.below gW) (good_bd os.good) hed.out lx.out.2 R hR
  have cR:=Lib.hid fun(q:BW W2) R hR=>refbuild18_calls s gs o (by omega) _ _ _ _ _ q.w (rd0.out.below (bw2.trans (q.b.mono bw2.size))) R hR
  have nml:(nms s.1).length=s.1.length:=nms_len s.1;rw [nml]at hed;have cW:=Lib.hid fun(W:World) lq nsv rn rm R hR=>wrong20_calls (l:=(plS s).1) (n':=s.1.length) (f:=ldR s.1.length (toN (idxQ s.1 s.2.1))) A1 s.1.length c1 lq nsv (plS s).2.1 W rn rm hed.out ix.out hco.out lx.out.2 (fun y hy=>(good_bd os.good y hy).2) R hR
  rw [hch]at cW;generalize hQ_:chkNs (chkE (plS s).1 (leqF s.1 s.2.1)) (plS s).1=Q_ at *;obtain⟨a_,b_⟩:=Q_;simp only at cC cW
  have rS:∀W,(∃q:BW W2,W=q.w)→W.rangeAt w.heap.size 0 [.slice A1 s.1.length c1,.slice A2 s.2.1.length c2,.slice A3 s.2.2.1.length c3,.int .i64 s.2.2.2.1.kind,.int .i64 s.2.2.2.1.at_,.int .i64 s.2.2.2.1.lo,.int .i64 s.2.2.2.1.hi,.int .i64 s.2.2.2.1.most,.slice N1 s.2.2.2.1.names.length N3,.slice M1 s.2.2.2.2.len M3,.string s.2.2.2.1.name,.int .i64 s.2.2.2.1.nat]:=fun W hW=>by
   obtain⟨q,rfl⟩:=hW;exact(n.bl q.b).rg 1 rfl
  have hR2:=Lib.hid fun(q:BW W2)=>hR.out q.w (bw2.trans (q.b.mono bw2.size))
  generalize hX:plS s=x at *;clear hR hX hQ_ hch hed hco nml hLt rd0 pl n hq gx ix lx os o;refine wp_region_mix [([0,2],1),([],3),([],4),([5,6],7)] [8,9] (by kernel_rfl) (by kernel_rfl) (by kernel_rfl) (by kernel_rfl) (fun _ _ d _ _ h=>by cases d<;>exact h) ?_
  refine mix_cons (os:=[_,_]) (by simp only[pickO,List.filterMap_cons,List.filterMap_nil,List.getElem?_toArray,List.getElem?_cons_succ,List.getElem?_cons_zero];rfl) (fun Kp hKp=>?_)
  go_big_quiet_step (exact rfl);refine wpQuiet_load rfl 38 _ rfl w.heap.size 0 rfl _ _ rS Tryz.underlying38 rfl (by kernel_rfl) ?_
  try go_simp
  refine wpQuiet_nil ?_;refine hKp _ ?_;clear hKp;refine loud (by rfl) (by kernel_rfl) (fun Kl hKl=>?_);go_simp;refine cC.out _ (Lib.hid fun W8 m8=>?_);have g8:=gW.trans (m8.mono gW.size);refine hKl _ _ (BW.of g8) ?_;clear hKl cC;refine mix_cons (os:=[]) (by rfl) (fun Kp hKp=>?_);refine wpQuiet_nil ?_;refine hKp _ ?_;clear hKp;refine loud (by rfl) (by kernel_rfl) (fun Kl hKl=>?_);go_simp;refine cR.out ⟨W8,g8⟩ _ (Lib.hid fun W9 lq nsv rn rm m9=>?_);have g9:=g8.trans (m9.mono g8.size);refine hKl _ _ (BW.of g9) ?_;clear hKl cR;refine mix_cons (os:=[]) (by rfl) (fun Kp hKp=>?_);refine wpQuiet_nil ?_;refine hKp _ ?_;clear hKp;refine loud (by rfl) (by kernel_rfl) (fun Kl hKl=>?_);go_simp;refine cW.out W9 lq nsv rn rm _ (Lib.hid fun W10 m10=>?_);have g10:=g9.trans (m10.mono g9.size);refine hKl _ _ (BW.of g10) ?_;clear hKl cW;refine mix_cons (os:=[_,_]) (by simp only[pickO,List.filterMap_cons,List.filterMap_nil,List.getElem?_toArray,List.getElem?_cons_succ,List.getElem?_cons_zero];rfl) (fun Kp hKp=>?_)
  repeat (go_big_quiet_step (exact rfl))
  refine wpQuiet_nil ?_;refine hKp _ ?_;clear hKp;refine loud (by rfl) (by kernel_rfl) (fun Kl hKl=>?_);go_simp;refine lives20_calls W10 _ (Lib.hid fun W11 m11=>?_);have g11:=g10.trans (m11.mono g10.size);refine hKl _ _ (BW.of g11) ?_;clear hKl;refine mix_nil (os:=[_,_]) (by simp only[pickO,List.filterMap_cons,List.filterMap_nil,List.getElem?_toArray,List.getElem?_cons_succ,List.getElem?_cons_zero];rfl) (fun Kp hKp=>?_)
  repeat (go_big_quiet_step (exact rfl))
  refine wpQuiet_nil ?_;refine hKp _ ?_;clear hKp;have fin:=Lib.hid (hR2.out ⟨W11,g11⟩);clear hR2;go_wp2_with fail
  exact fin.out
end Go.Proofs.YtabhkakomececaaGreat.Eff
