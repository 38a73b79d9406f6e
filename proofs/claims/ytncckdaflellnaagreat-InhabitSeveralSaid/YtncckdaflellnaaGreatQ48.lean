import Derived.Test.YtncckdaflellnaaGreatQ51
import Derived.Test.YtncckdaflellnaaGreatQ50
import Derived.Test.YtncckdaflellnaaGreatQ41
import Derived.Test.YtncckdaflellnaaGreatQ45
set_option linter.all false
set_option maxRecDepth 100000
set_option maxHeartbeats 4000000
namespace Go.Proofs.YtncckdaflellnaaGreat.Inh
open Go.RowKit Go.Lib Res Nam Lat Kin Unp Rel Lab
theorem several19_walk(s:Sc)(gs:GoodS s)(lv ov tv nv pv:Value)(w:World)(rd:RdSc w s lv ov tv nv pv)(R:Ending→World→Prop)
  (hR:Hid (∀w',Below w.heap.size w w'→R (.returned (.bool true)) w')):Calls Tryz.prog 8 #[scV s lv ov tv nv pv] w R:=by
 have rd0:=rd;obtain⟨A1,c1,rfl,-,-⟩:=rd.l.op;obtain⟨A2,c2,rfl,-,-⟩:=Unp.RdPr.op rd.o;obtain⟨A3,c3,rfl,-,-⟩:=Unp.RdNs.op rd.t;obtain⟨N1,N3,rfl,-,-⟩:=rd.r.n.op;obtain⟨M1,M3,rfl,-⟩:=rd.r.p.sl;have n:=F0.z w;obtain⟨V,e1,n,z1⟩:=n.new (.cells [.slice A1 s.1.length c1,.slice A2 s.2.1.length c2,.slice A3 s.2.2.1.length c3,.int .i64 s.2.2.2.1.kind,.int .i64 s.2.2.2.1.at_,.int .i64 s.2.2.2.1.lo,.int .i64 s.2.2.2.1.hi,.int .i64 s.2.2.2.1.most,.slice N1 s.2.2.2.1.names.length N3,.slice M1 s.2.2.2.2.len M3,.string s.2.2.2.1.name,.int .i64 s.2.2.2.1.nat].toArray 31);replace rd0:=Lib.hid rd0;clear z1 rd;go_enter Tryz.func8,Tryz.ntmps8
 go_upto_region 1 with fail
 clear e1;have rS:=n.rg 0 rfl;have cF:=Lib.hid fun R hR=>fine19_calls s gs _ _ _ _ _ _ (rd0.out.below (F0.bel n)) R hR
 go_wp2_with (refine wpList_load_g (by rfl) 31 _ rfl w.heap.size 0 rfl _ _ rS Tryz.underlying31 rfl (by kernel_rfl) ?_;go_simp)
 refine cF.out _ (Lib.hid fun W1 y hy m1=>?_);clear cF rS;replace n:=n.bl m1;clear m1;cases y with
 | false =>
  have bw:=Lib.hid (F0.bel n);clear n hy;go_wp2_with fail
  refine lives19_calls W1 _ (Lib.hid fun W2 m2=>?_);have fin:=Lib.hid (hR.out W2 (bw.out.trans (m2.mono bw.out.size)));clear hR m2 bw;go_wp2_with fail
  exact fin.out
 | true =>
  obtain⟨o,b1,b2,b3⟩:=hy rfl;have rS:=n.rg 0 rfl;have cB:=Lib.hid fun R h1 h2=>build18_calls s gs (by omega) _ _ _ _ _ W1 (rd0.out.below (F0.bel n)) R h1 h2
  clear hy;go_wp2_with (refine wpList_load_g (by rfl) 31 _ rfl w.heap.size 0 rfl _ _ rS Tryz.underlying31 rfl (by kernel_rfl) ?_;go_simp)
  refine cB.out _ (Lib.hid fun W v hz pl m=>?_) (Lib.hid fun W hz m=>?_)
  case refine_2=>exact absurd o.bld hz
  clear cB rS;replace n:=n.bl m;obtain⟨qq,hq⟩:∃q:Int×Int,q=(0,0):=⟨_,rfl⟩;rw [←hq];obtain⟨q0,q1⟩:=qq;replace hq:=Lib.hid hq;obtain⟨W2,e5,n,z5⟩:=n.new (.cells #[.int .i64 q0,.int .i64 q1] 34);have m2:Below W.heap.size W W2:=e5▸(Below.refl _ _).alloc (Nat.le_refl _) _
  change PlanP W v _ _ _ (plS s)at pl
  replace pl:=Lib.hid (pl.below m2);have os:=OkS.of o.bld;have gx:=Lib.hid os.good;have ix:=Lib.hid os.inn.1;have lx:=Lib.hid os.num;clear m z5 m2 hz;go_upto_region 4 with fail
  clear e5;have bw2:=F0.bel n;go_wp2_with fail
  refine several_calls pl.out gx.out ix.out lx.out.2 _ (Lib.hid fun W3 sv_ k hfix rB m3=>?_);have e19:=Ends.of gx.out (dep_done (plS s).1) hfix;have hb:∀m j,0≤atD (itK (plS s).1 (itr depN (plS s).1 (plS s).1.length) m) j∧atD (itK (plS s).1 (itr depN (plS s).1 (plS s).1.length) m) j≤2:=fun m j=>⟨(e19.K m j).1,Int.le_trans (e19.K m j).2.1 (e19.cn j).2⟩
  have hend:=Lib.hid (e19.K_end rfl);have hCl:=Lib.hid (itr_len cntN (plS s).1 k);replace n:=n.bl m3;have rS:=n.rg 1 rfl;have cR:=Lib.hid fun R hR=>refbuild18_calls s gs o (by omega) _ _ _ _ _ W3 (rd0.out.below (F0.bel n)) R hR
  have rB3:=Lib.hid rB;replace hb:=Lib.hid hb;clear e19 rB;go_wp2_with (refine wpList_load_g (by rfl) 31 _ rfl w.heap.size 0 rfl _ _ rS Tryz.underlying31 rfl (by kernel_rfl) ?_;go_simp)
  refine cR.out _ (Lib.hid fun W4 lq nsv rn rm m4=>?_);clear cR rS;obtain⟨Aq,cq,rfl,-,-⟩:=rm.op;generalize hX:plS s=x at *;obtain⟨An,cn,rfl,-,-⟩:=rn.el;replace n:=n.bl m4;replace rB3:=Lib.hid (rB3.out.below m4);have cM:=Lib.hid fun R hR=>refmany19_calls x.1 gx.out ix.out lx.out.2 hb.out (.slice A1 s.1.length c1) (.slice Aq s.1.length cq) (.slice An x.1.length cn) x.2.1 rfl rfl W4 rn R hR
  rw [hend.out]at cM;obtain⟨C,hC⟩:∃C,C=itr cntN x.1 k:=⟨_,rfl⟩;rw [←hC]at cM;have rB4:Hid (RdAt W4 sv_ 1 (bls (C.map fun c=>decide (2≤c)))):=Lib.hid (by rw [hC];exact rB3.out)
  have hCl2:C.length=x.1.length:=by rw [hC];exact hCl.out
  obtain⟨len,hl⟩:∃len,x.1.length=len:=⟨_,rfl⟩;have l2:len≤40000:=by rw [←hl];exact lx.out.2
  rw [hl]at hCl2;replace hl:=Lib.hid hl;clear hX m4 rn rm hb hend hC rB3 hfix hCl pl rd0 o m3;go_wp2_with fail
  refine cM.out _ (Lib.hid fun W5 mv rM m5=>?_);clear cM;replace n:=n.bl m5;obtain⟨Am,cm,rfl,-,hMc⟩:=ints_open rM;obtain⟨Ab,cb,hsv,-,hBc⟩:=bls_open (rB4.out.below m5);subst hsv;rw [List.length_map,hCl2]at hBc;rw [hCl2]at hMc
  try rw [List.length_map]
  try rw [hCl2]
  have hc2:Hid (∀J:Nat,J<len→∃g o g' o' c,Am=some ⟨g,o,none⟩∧Ab=some ⟨g',o',none⟩∧g<W5.heap.size∧g'<W5.heap.size∧W5.cell? ⟨g,o+J,none⟩=some (.int .i64 c)∧W5.cell? ⟨g',o'+J,none⟩=some (.bool (decide (2≤c)))):=Lib.hid fun J hJ=>by
   obtain⟨g,o,e,hg,hc⟩:=hMc (by omega);obtain⟨g',o',e',hg',hc'⟩:=hBc J hJ;refine⟨g,o,g',o',_,e,e',hg,hg',hc J hJ,hc'.trans ?_⟩;rw [List.getD_eq_getElem?_getD,List.getElem?_map,List.getElem?_eq_getElem (by omega:J<C.length)];unfold atD;rw [Int.toNat_natCast,List.getD_eq_getElem?_getD,List.getElem?_eq_getElem (by omega:J<C.length)];rfl
  have bw5:=Lib.hid (F0.bel n);clear rB4 rM hMc hBc m5 n hCl2 bw2;go_wp2_with fail
  go_loopg [7] len (fun g i wr=>∃(J:Nat),i=.int .i64 J∧J+g=len∧Hid (Below W5.heap.size W5 wr))
  case atStart=>exact⟨0,rfl,by omega,Lib.hid (Below.refl _ _)⟩
  case round =>
   obtain⟨J,rfl,e1,m⟩:=hrel;replace m:=m.out
   by_cases hJ:J<len
   ·obtain⟨g,o',g',o'',c,rfl,rfl,hg,hg',hc,hc'⟩:=hc2.out J hJ
    have x1:=(m.cell (p:=⟨g,o'+J,none⟩) hg).trans hc;have x2:=(m.cell (p:=⟨g',o''+J,none⟩) hg').trans hc';have i0:(0:Int)≤(J:Int):=by omega
    have i1:(J:Int)<(len:Int):=by omega
    obtain⟨B,hB⟩:∃B,B=decide (2≤c):=⟨_,rfl⟩;rw [←hB]at x2
    have hB2:decide (1<c)=B:=by
     rw [hB]
     by_cases q:1<c
     ·rw [decide_eq_true q,decide_eq_true (by omega)]
     ·rw [decide_eq_false q,decide_eq_false (by omega)]
    clear hc hc' hB;go_wp2_with fail
    go_quiet (fail);have mX:=Lib.hid (below_drewN m nq)
    clear x1 x2 m hB2;go_wp2_with fail
    go_roundg (gk-1)
    case measure=>omega
    case rel=>exact⟨J+1,by go_num,by omega,mX⟩
   ·obtain rfl:J=len:=by omega
    have bwr:=Lib.hid (bw5.out.trans (m.mono bw5.out.size));clear m hc2 bw5;go_wp2_with fail
    refine severalnil_calls wr _ (Lib.hid fun W6 nv rN m6=>?_);obtain⟨Az,cz,rfl,-,-⟩:=bls_open rN;have bw6:=Lib.hid (bwr.out.trans (m6.mono bwr.out.size));clear rN m6 bwr;go_wp2_with fail
    refine lives19_calls W6 _ (Lib.hid fun W7 m7=>?_);have fin:=Lib.hid (hR.out W7 (bw6.out.trans (m7.mono bw6.out.size)));clear hR m7 bw6;go_wp2_with fail
    exact fin.out
end Go.Proofs.YtncckdaflellnaaGreat.Inh
