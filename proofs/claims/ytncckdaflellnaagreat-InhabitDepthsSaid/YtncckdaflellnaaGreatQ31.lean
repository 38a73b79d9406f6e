import Derived.Test.YtncckdaflellnaaGreatQ29
import Derived.Test.YtncckdaflellnaaGreatQ30
import Derived.Test.YtncckdaflellnaaGreatQ3
import Derived.Test.YtncckdaflellnaaGreatQ6
import Derived.Test.YtncckdaflellnaaGreatQ23
import Derived.Test.YtncckdaflellnaaGreatQ1
import Derived.Test.YtncckdaflellnaaGreatQ28
set_option linter.all false
set_option maxRecDepth 100000
set_option maxHeartbeats 4000000
namespace Go.Proofs.YtncckdaflellnaaGreat.Res
open Go.RowKit Go.Lib Utf Nam Lat Kin Unp Rel Lab
abbrev tnm(s:Sc):List ByteArray:=nms (tw s.2.2.1)
theorem tnm_get{s:Sc}{K:Nat}(h:K<s.2.2.1.length):(tnm s)[K]?=some (nN s.2.2.1 K).1.1:=by
 rw [nms_get (by rw [tw_len];exact h),tw_get h]
theorem tnm_len(s:Sc):(tnm s).length=s.2.2.1.length:=by simp [nms,tw_len]
theorem reffind18_calls(s:Sc)(gs:GoodS s)(x:ByteArray)(lv ov tv nv pv:Value)(w:World)(rd:RdSc w s lv ov tv nv pv)(b3:s.2.2.1.length≤1000000)(R:Ending→World→Prop)
  (hR:Hid (∀W,Below w.heap.size w W→R (.returned (.int .i64 (findS (tnm s) x))) W)):Calls Tryz.prog 44 #[scV s lv ov tv nv pv,.string x] w R:=by
 obtain⟨A1,c1,rfl,-,-⟩:=rd.l.op;obtain⟨A2,c2,rfl,-,-⟩:=Unp.RdPr.op rd.o;obtain⟨A3,c3,rfl,-,hel⟩:=nds_el rd.t;obtain⟨N1,N3,rfl,-,-⟩:=rd.r.n.op;obtain⟨M1,M3,rfl,-⟩:=rd.r.p.sl;have n:=F0.z w;obtain⟨V,e1,n,z1⟩:=n.new (.cells [.slice A1 s.1.length c1,.slice A2 s.2.1.length c2,.slice A3 s.2.2.1.length c3,.int .i64 s.2.2.2.1.kind,.int .i64 s.2.2.2.1.at_,.int .i64 s.2.2.2.1.lo,.int .i64 s.2.2.2.1.hi,.int .i64 s.2.2.2.1.most,.slice N1 s.2.2.2.1.names.length N3,.slice M1 s.2.2.2.2.len M3,.string s.2.2.2.1.name,.int .i64 s.2.2.2.1.nat].toArray 31);have x2:=n.c 0 2 rfl rfl;have bV:=F0.bel n;have fin:=Lib.hid (hR.out V bV);replace hel:=Lib.hid hel;clear n z1 rd hR;go_enter Tryz.func44,Tryz.ntmps44
 go_upto_region 1 with fail
 clear e1;replace bV:=Lib.hid bV;go_wp2_with fail
 go_loopg [5] s.2.2.1.length (fun k i wr=>∃(K:Nat),wr=V∧i=.int .i64 K∧K+k=s.2.2.1.length∧Hid (∀j,j<K→(tnm s)[j]?≠some x))
 case atStart=>exact⟨0,rfl,rfl,by omega,Lib.hid fun j h=>by omega⟩
 case round =>
  obtain⟨K,rfl,rfl,c1,c2⟩:=hrel
  by_cases hK:K<s.2.2.1.length
  ·obtain⟨g,o,N1',N3',M1',M3',rfl,-,hrg⟩:=hel.out K hK
   have e0:=hrg _ bV.out 0 _ rfl;rw [Nat.add_zero]at e0;have e1:=tnm_get hK;clear hrg;generalize(nN s.2.2.1 K).1.1=y at *;have hi0:(0:Int)≤(K:Int):=by omega
   have hi1:(K:Int)<(s.2.2.1.length:Int):=by omega
   by_cases hq:y=x
   ·have e2:findS (tnm s) x=K:=find_is (by rw [e1,hq]) c2.out
    rw [e2]at fin;have h3:=seq_t hq;clear hq e1 c2;go_wp2_with fail
    exact fin.out
   ·have h3:=seq_f hq
    have e2:∀j,j<K+1→(tnm s)[j]?≠some x:=fun j hj=>by
     rcases Nat.eq_or_lt_of_le (Nat.le_of_lt_succ hj)with e|h
     ·subst e;rw [e1];exact fun h=>hq (Option.some.inj h)
     ·exact c2.out j h
    replace e2:=Lib.hid e2;clear hq e1 c2;go_wp2_with fail
    go_roundg (gk-1)
    case measure=>omega
    case rel=>exact⟨K+1,rfl,by go_num,by omega,e2⟩
  ·have e:findS (tnm s) x=-1:=find_none fun hm=>by
    obtain⟨j,hj,e⟩:=List.getElem_of_mem hm;rw [tnm_len]at hj;exact c2.out j (by omega) (by rw [List.getElem?_eq_getElem (by rw [tnm_len];exact hj),e])
   rw [e]at fin;clear c2;go_wp2_with fail
   exact fin.out
def endS(s:Sc):Nat→Nat→Int
| 0,i=>if(nN s.2.2.1 i).2.1.kind≠9 then(i:Int)else -1
| n+1,i=>if(nN s.2.2.1 i).2.1.kind≠9 then(i:Int)else endS s n (findS (tnm s) (nN s.2.2.1 i).2.1.name).toNat
def AllFound(s:Sc):Prop:=∀i,i<s.2.2.1.length→(nN s.2.2.1 i).2.1.kind=9→0≤findS (tnm s) (nN s.2.2.1 i).2.1.name
theorem refend18_calls(s:Sc)(gs:GoodS s)(hf:AllFound s)(b3:s.2.2.1.length≤1000000):∀(m i:Nat)(lv ov tv nv pv:Value)(w:World),m≤1000→i<s.2.2.1.length→RdSc w s lv ov tv nv pv→∀R:Ending→World→Prop,
  Hid (∀W,Below w.heap.size w W→R (.returned (.int .i64 (endS s m i))) W)→Calls Tryz.prog 84 #[scV s lv ov tv nv pv,.int .i64 i,.int .i64 m] w R:=by
 intro m
 induction m with
 | zero =>
  intro i lv ov tv nv pv w hm hi rd R hR;obtain⟨A1,c1,rfl,-,-⟩:=rd.l.op;obtain⟨A2,c2,rfl,-,-⟩:=Unp.RdPr.op rd.o;obtain⟨A3,c3,rfl,-,hel⟩:=nds_el rd.t;obtain⟨N1,N3,rfl,-,-⟩:=rd.r.n.op;obtain⟨M1,M3,rfl,-⟩:=rd.r.p.sl;have n:=F0.z w;obtain⟨V,e1,n,z1⟩:=n.new (.cells [.slice A1 s.1.length c1,.slice A2 s.2.1.length c2,.slice A3 s.2.2.1.length c3,.int .i64 s.2.2.2.1.kind,.int .i64 s.2.2.2.1.at_,.int .i64 s.2.2.2.1.lo,.int .i64 s.2.2.2.1.hi,.int .i64 s.2.2.2.1.most,.slice N1 s.2.2.2.1.names.length N3,.slice M1 s.2.2.2.2.len M3,.string s.2.2.2.1.name,.int .i64 s.2.2.2.1.nat].toArray 31);have x2:=n.c 0 2 rfl rfl;have bV:=F0.bel n;have fin:=hR.out V bV;obtain⟨g,o,N1',N3',M1',M3',rfl,-,hrg⟩:=hel i hi;have e0:=hrg _ bV 2 _ rfl;have i0:(0:Int)≤(i:Int):=by omega
  have i1:(i:Int)<(s.2.2.1.length:Int):=by omega
  have eE:endS s 0 i=if(nN s.2.2.1 i).2.1.kind≠9 then(i:Int)else -1:=rfl;rw [eE]at fin;clear hel hrg n z1 rd hR bV eE;generalize(nN s.2.2.1 i).2.1.kind=kd at *
  by_cases k9:kd=9
  ·rw [if_neg (by simpa using k9)]at fin
   subst k9;replace fin:=Lib.hid fin;go_enter Tryz.func84,Tryz.ntmps84
   go_upto_region 1 with fail
   clear e1;go_wp2_with fail
   exact fin.out
  ·rw [if_pos k9]at fin
   have q9:(kd != 9)=true:=by simpa using k9
   replace fin:=Lib.hid fin;clear k9;go_enter Tryz.func84,Tryz.ntmps84
   go_upto_region 1 with fail
   clear e1;go_wp2_with fail
   exact fin.out
 | succ m ih =>
  intro i lv ov tv nv pv w hm hi rd R hR;have rd0:=rd;obtain⟨A1,c1,rfl,-,-⟩:=rd.l.op;obtain⟨A2,c2,rfl,-,-⟩:=Unp.RdPr.op rd.o;obtain⟨A3,c3,rfl,-,hel⟩:=nds_el rd.t;obtain⟨N1,N3,rfl,-,-⟩:=rd.r.n.op;obtain⟨M1,M3,rfl,-⟩:=rd.r.p.sl;have n:=F0.z w;obtain⟨V,e1,n,z1⟩:=n.new (.cells [.slice A1 s.1.length c1,.slice A2 s.2.1.length c2,.slice A3 s.2.2.1.length c3,.int .i64 s.2.2.2.1.kind,.int .i64 s.2.2.2.1.at_,.int .i64 s.2.2.2.1.lo,.int .i64 s.2.2.2.1.hi,.int .i64 s.2.2.2.1.most,.slice N1 s.2.2.2.1.names.length N3,.slice M1 s.2.2.2.2.len M3,.string s.2.2.2.1.name,.int .i64 s.2.2.2.1.nat].toArray 31);have x2:=n.c 0 2 rfl rfl;have bV:=F0.bel n;have rdV:=Lib.hid (rd0.below bV);obtain⟨g,o,N1',N3',M1',M3',rfl,-,hrg⟩:=hel i hi;have e0:=hrg _ bV 2 _ rfl;have en:=fun q:BW V=>hrg q.w (bV.trans (q.b.mono bV.size)) 9 _ rfl
  have i0:(0:Int)≤(i:Int):=by omega
  have i1:(i:Int)<(s.2.2.1.length:Int):=by omega
  have eE:endS s (m+1) i=if(nN s.2.2.1 i).2.1.kind≠9 then(i:Int)else endS s m (findS (tnm s) (nN s.2.2.1 i).2.1.name).toNat:=rfl;have hfi:=hf i hi;have flt:=find_lt (tnm s) (nN s.2.2.1 i).2.1.name;rw [tnm_len]at flt;rw [eE]at hR;clear hel hrg z1 rd rd0 eE;generalize(nN s.2.2.1 i).2.1.kind=kd at *;generalize(nN s.2.2.1 i).2.1.name=nmx at *
  by_cases k9:kd=9
  ·rw [if_neg (by simpa using k9)]at hR
   replace hfi:=hfi k9;subst k9;obtain⟨J,hJ⟩:∃J:Nat,findS (tnm s) nmx=(J:Int):=⟨(findS (tnm s) nmx).toNat,by omega⟩;rw [hJ,Int.toNat_natCast]at hR;have lb:=n.lt 0 rfl
   have rS:∀W,(∃q:BW V,W=q.w)→W.rangeAt w.heap.size 0 [.slice A1 s.1.length c1,.slice A2 s.2.1.length c2,.slice (some ⟨g,o,none⟩) s.2.2.1.length c3,.int .i64 s.2.2.2.1.kind,.int .i64 s.2.2.2.1.at_,.int .i64 s.2.2.2.1.lo,.int .i64 s.2.2.2.1.hi,.int .i64 s.2.2.2.1.most,.slice N1 s.2.2.2.1.names.length N3,.slice M1 s.2.2.2.2.len M3,.string s.2.2.2.1.name,.int .i64 s.2.2.2.1.nat]:=fun W hW=>by
    obtain⟨q,rfl⟩:=hW;exact(n.bl q.b).rg 0 rfl
   have x2q:=fun q:BW V=>q.cell lb x2
   have cF:=Lib.hid fun(q:BW V) R hR=>reffind18_calls s gs nmx _ _ _ _ _ q.w (rdV.out.below q.b) b3 R hR
   rw [hJ]at cF;have cE:=Lib.hid fun(q:BW V) R hR=>ih J _ _ _ _ _ q.w (by omega) (by omega) (rdV.out.below q.b) R hR
   have hR2:=Lib.hid fun(q:BW V)=>hR.out q.w (bV.trans (q.b.mono bV.size))
   have im:(((m+1:Nat):Int)-1)=(m:Int):=by omega
   have ip:¬(((m+1:Nat):Int))<1:=by omega
   have iw:IntKind.i64.wrap (((m+1:Nat):Int)-1)=(m:Int):=by rw [im];exact IntWalk.i64_in _ (by omega)
   clear n hR bV rdV ih hfi flt hJ;go_enter Tryz.func84,Tryz.ntmps84
   go_upto_region 1 with fail
   clear e1;go_upto_region 5 with fail
   clear x2;have nW:Below V.heap.size V (V.drewN 1):=below_drewN (Below.refl _ _) 1;refine wp_region_mix [([0,1,2,3,4,5,6,7,8,9,11,12],10),([],13)] [14] (by kernel_rfl) (by kernel_rfl) (by kernel_rfl) (by kernel_rfl) (fun _ _ d _ _ h=>by cases d<;>exact h) ?_
   refine mix_cons (os:=[_,_,_,_,_,_,_,_,_,_,_,_]) (by simp only[pickO,List.filterMap_cons,List.filterMap_nil,List.getElem?_toArray,List.getElem?_cons_succ,List.getElem?_cons_zero];rfl) (fun Kp hKp=>?_)
   refine wpQuiet_load rfl 31 _ rfl w.heap.size 0 rfl _ _ rS Tryz.underlying31 rfl (by kernel_rfl) ?_
   try go_simp
   refine wpQuiet_load rfl 31 _ rfl w.heap.size 0 rfl _ _ rS Tryz.underlying31 rfl (by kernel_rfl) ?_
   try go_simp
   repeat (go_big_quiet_step (exact rfl))
   refine wpQuiet_nil ?_;refine hKp _ ?_;clear hKp rS en x2q e0;refine loud (by rfl) (by kernel_rfl) (fun K1 hK1=>?_);go_simp;refine cF.out ⟨V.drewN 1,nW⟩ _ (Lib.hid fun W2 m2=>?_);have nW2:=nW.trans (m2.mono nW.size);refine hK1 _ _ ⟨⟨W2,nW2⟩,rfl⟩ ?_;clear hK1;refine mix_cons (os:=[]) (by rfl) (fun Kp hKp=>?_);refine wpQuiet_nil ?_;refine hKp _ ?_;clear hKp;refine loud (by rfl) (by kernel_rfl) (fun K2 hK2=>?_);go_simp;refine cE.out ⟨W2,nW2⟩ _ (Lib.hid fun W3 m3=>?_);have nW3:=nW2.trans (m3.mono nW2.size);refine hK2 _ _ ⟨⟨W3,nW3⟩,rfl⟩ ?_;clear hK2;refine mix_nil (os:=[_]) (by simp only[pickO,List.filterMap_cons,List.filterMap_nil,List.getElem?_toArray,List.getElem?_cons_succ,List.getElem?_cons_zero];rfl) (fun Kp hKp=>?_)
   repeat (go_big_quiet_step (exact rfl))
   refine wpQuiet_nil ?_;refine hKp _ ?_;clear hKp;have fin:=Lib.hid (hR2.out ⟨W3,nW3⟩);clear hR2 cE cF;go_wp2_with fail
   exact fin.out
  ·rw [if_pos k9]at hR
   have q9:(kd != 9)=true:=by simpa using k9
   have fin:=Lib.hid (hR.out V bV);clear k9 hR ih n rdV en;go_enter Tryz.func84,Tryz.ntmps84
   go_upto_region 1 with fail
   clear e1;go_wp2_with fail
   exact fin.out
theorem cast_w18{P:Program}{ops:Array Oper}{Q:Exit→Act→World→Prop}{l:List Oper}{a:Act}{w w':World}(e:w=w')(h:wpList P ops Q l a w'):wpList P ops Q l a w:=e▸h
theorem fir_hit18{f:Nat→Option (Int×Int)}{k i:Nat}{x:Int×Int}(h:f i=some x):firF f (k+1) i=some x:=by rw [firF,h]
theorem fir_miss18{f:Nat→Option (Int×Int)}{k i:Nat}(h:f i=none):firF f (k+1) i=firF f k (i+1):=by rw [firF,h]
def wdS(nm:List ByteArray)(qs:List Wr):Int×Int:=(firF (ofAt nm qs) qs.length 0).getD (0,0)
theorem lof_wd(nm:List ByteArray)(F:Nat→Nat→Bool)(qs:List Wr):(lof nm F qs).2=wdS nm qs:=by
 unfold lof wdS;cases firF (ofAt nm qs) qs.length 0<;>rfl
theorem refword18_calls(s:Sc)(gs:GoodS s)(qs:List Wr)(vq lv ov tv nv pv:Value)(w:World)(rd:RdSc w s lv ov tv nv pv)(hq:RdW w vq qs)(b1:s.1.length≤1000000)(hql:qs.length≤1000000)(R:Ending→World→Prop)
  (hR:Hid (∀W,Below w.heap.size w W→R (.returned (.agg #[.int .i64 (wdS (nms s.1) qs).1,.int .i64 (wdS (nms s.1) qs).2])) W)):Calls Tryz.prog 140 #[scV s lv ov tv nv pv,vq] w R:=by
 have rl:=rd.l;obtain⟨A1,c1,rfl,-,-⟩:=rd.l.op;obtain⟨A2,c2,rfl,-,-⟩:=Unp.RdPr.op rd.o;obtain⟨A3,c3,rfl,-,-⟩:=nds_el rd.t;obtain⟨N1,N3,rfl,-,-⟩:=rd.r.n.op;obtain⟨M1,M3,rfl,-⟩:=rd.r.p.sl;obtain⟨Aq,cq,rfl,hcq,hrq⟩:=hq.op;have n:=F0.z w;obtain⟨V1,e1,n,z1⟩:=n.new (.cells [.slice A1 s.1.length c1,.slice A2 s.2.1.length c2,.slice A3 s.2.2.1.length c3,.int .i64 s.2.2.2.1.kind,.int .i64 s.2.2.2.1.at_,.int .i64 s.2.2.2.1.lo,.int .i64 s.2.2.2.1.hi,.int .i64 s.2.2.2.1.most,.slice N1 s.2.2.2.1.names.length N3,.slice M1 s.2.2.2.2.len M3,.string s.2.2.2.1.name,.int .i64 s.2.2.2.1.nat].toArray 31);obtain⟨V,e2,n,z2⟩:=n.new (.cells #[.int .i64 0,.int .i64 0] 34);replace hrq:=Lib.hid hrq;replace rl:=Lib.hid rl;clear z1 z2 rd hq;go_enter Tryz.func140,Tryz.ntmps140
 go_upto_region 1 with fail
 clear e1 e2;go_wp2_with fail
 go_loopg [5] qs.length (fun k i wr=>∃(K:Nat),i=.int .i64 K∧K+k=qs.length∧Hid (wdS (nms s.1) qs=(firF (ofAt (nms s.1) qs) k K).getD (0,0))∧Hid (Hq F0 () () w wr [(V1.heap.size,.cells #[.int .i64 0,.int .i64 0] 34),(w.heap.size,.cells [.slice A1 s.1.length c1,.slice A2 s.2.1.length c2,.slice A3 s.2.2.1.length c3,.int .i64 s.2.2.2.1.kind,.int .i64 s.2.2.2.1.at_,.int .i64 s.2.2.2.1.lo,.int .i64 s.2.2.2.1.hi,.int .i64 s.2.2.2.1.most,.slice N1 s.2.2.2.1.names.length N3,.slice M1 s.2.2.2.2.len M3,.string s.2.2.2.1.name,.int .i64 s.2.2.2.1.nat].toArray 31)]))
 case atStart=>exact⟨0,rfl,by omega,Lib.hid rfl,Lib.hid n⟩
 case round =>
  clear n;obtain⟨K,rfl,e1,e2,n⟩:=hrel;replace n:=n.out
  by_cases hK:K<qs.length
  ·obtain⟨g,o,rfl,hg,hca⟩:=hrq.out (by omega)
   have bw:=F0.bel n;have y0:=(bw.cell (p:=⟨g,o+K*2,none⟩) hg).trans (hca K hK).1;have y1:=(bw.cell (p:=⟨g,o+K*2+1,none⟩) hg).trans (hca K hK).2;have gl:=Nat.lt_of_lt_of_le hg bw.size;obtain⟨k',rfl⟩:∃k',gk=k'+1:=⟨gk-1,by omega⟩;have eo:ofAt (nms s.1) qs K=if findS (nms s.1) (wN qs K).1<0 then some (17,(wN qs K).2)else none:=rfl;replace e2:=e2.out;clear hca;generalize(wN qs K).1=x at *;generalize(wN qs K).2=z at *;have i0:(0:Int)≤(K:Int):=by omega
   have i1:(K:Int)<(qs.length:Int):=by omega
   have x0:=n.c 1 0 rfl rfl;have lx:=n.lt 1 rfl;have c0:=fun q:BW wr=>q.cell lx x0
   have d0:=fun q:BW wr=>q.cell gl y0
   obtain⟨f,hf⟩:∃f,findS (nms s.1) x=f:=⟨_,rfl⟩;have cF:=Lib.hid fun q:BW wr=>(show Calls Tryz.prog 131 #[.slice A1 s.1.length c1,.string x] q.w fun e w'=>e=.returned (.int .i64 f)∧Below q.w.heap.size q.w w' from reffind11_calls s.1 x _ q.w (rl.out.below (bw.trans (q.b.mono bw.size))) b1 _ (Lib.hid ⟨by rw [hf],Below.refl _ _⟩))
   rw [hf]at eo;clear hf
   by_cases hn:f<0
   ·rw [if_pos hn]at eo
    rw [fir_hit18 eo]at e2;have tq:decide (f<0)=true:=by simpa using hn
    replace e2:wdS (nms s.1) qs=(17,z):=e2;rw [e2]at hR;clear hn e2 i1 eo;have i1:(K:Int)<(qs.length:Int):=by omega
    go_upto_region 4 with fail
    refine wp_region_below_lit (by kernel_rfl) (by kernel_rfl) ?_
    repeat (go_big_quiet_step ((with_reducible exact calls_below (cF.out _))))
    refine wpQuiet_nil ?_
    rintro _ ⟨q,rfl⟩
    replace n:=n.bl q.b;have y1:=(q.b.cell (p:=⟨g,o+K*2+1,none⟩) gl).trans y1;have hG:=n.b 0 rfl;obtain⟨V5,e5,n5⟩:=n.row (j:=0) rfl #[.int .i64 17,.int .i64 z];have w0_:=n5.c 0 0 rfl rfl;have w1_:=n5.c 0 1 rfl rfl;have fin:=Lib.hid (hR.out V5 (F0.bel n5));clear n n5 hR cF c0 d0 y0 x0;go_wp2_with (refine wpList_store_row (by rfl) 34 _ _ (by rfl) V1.heap.size #[.int .i64 17,.int .i64 z] (by rfl) (by rfl) 34 _ hG (by kernel_rfl) rfl (by simp [Value.oneCell']) ?_;refine cast_w18 e5 ?_;go_simp)
    first|refine bodyPost_ret ?_ rfl fin.out|refine bodyPost_end ?_ rfl fin.out
    simp [results,Tryz.results140,go_sem,w0_,w1_]
   ·rw [if_neg hn]at eo
    rw [fir_miss18 eo]at e2;have tq:decide (f<0)=false:=by simpa using hn
    have e3:=Lib.hid (show wdS (nms s.1) qs=(firF (ofAt (nms s.1) qs) k' (K+1)).getD (0,0)from e2);clear hn e2 eo;go_upto_region 4 with fail
    refine wp_region_below_lit (by kernel_rfl) (by kernel_rfl) ?_
    repeat (go_big_quiet_step ((with_reducible exact calls_below (cF.out _))))
    refine wpQuiet_nil ?_
    rintro _ ⟨q,rfl⟩
    have n5:=Lib.hid (n.bl q.b);clear n cF c0 d0 y0 x0 y1;go_wp2_with fail
    go_roundg k'
    case measure=>omega
    case rel=>exact⟨K+1,by go_num,by omega,e3,n5⟩
  ·obtain rfl:K=qs.length:=by omega
   obtain rfl:gk=0:=by omega
   replace e2:wdS (nms s.1) qs=(0,0):=e2.out;rw [e2]at hR;have hG:=n.b 0 rfl;obtain⟨V5,e5,n5⟩:=n.row (j:=0) rfl #[.int .i64 0,.int .i64 0];have w0_:=n5.c 0 0 rfl rfl;have w1_:=n5.c 0 1 rfl rfl;have fin:=Lib.hid (hR.out V5 (F0.bel n5));clear n n5 hR e2;go_wp2_with (refine wpList_store_row (by rfl) 34 _ _ (by rfl) V1.heap.size #[.int .i64 0,.int .i64 0] (by rfl) (by rfl) 34 _ hG (by kernel_rfl) rfl (by simp [Value.oneCell']) ?_;refine cast_w18 e5 ?_;go_simp)
   first|refine bodyPost_ret ?_ rfl fin.out|refine bodyPost_end ?_ rfl fin.out
   simp [results,Tryz.results140,go_sem,w0_,w1_]
abbrev Te:=(TH×Ft)×Value×Value
def encY(t:Te):List Value:=tyL t.1.1 t.2.1 t.2.2
theorem encY_len(t:Te):(encY t).length=9:=rfl
structure TesP(w0 w:World)(base:Nat)(v:Value)(L:List Te):Prop where
own:w.ownsRow base 29 9 v L.length (flatG encY L)
rd:∀t∈L,RdY w0 t.1.1 t.1.2 t.2.1 t.2.2
theorem ty18_in:(Tryz.prog.info? 29).map (fun i=>(i.zero,i.size,i.bytes))=some (some (.agg #[.int .i64 0,.int .i64 0,.int .i64 0,.int .i64 0,.int .i64 0,.slice none 0 0,.slice none 0 0,.string ⟨#[]⟩,.int .i64 0]),9,112):=by kernel_rfl
theorem ty18_info:∃i0,Tryz.prog.info? 29=some i0∧(i0.zero,i0.size,i0.bytes)=(some (.agg #[.int .i64 0,.int .i64 0,.int .i64 0,.int .i64 0,.int .i64 0,.slice none 0 0,.slice none 0 0,.string ⟨#[]⟩,.int .i64 0]),9,112):=by
 have:=ty18_in;cases h:Tryz.prog.info? 29 with
 | none=>rw [h]at this;cases this
 | some i0=>rw [h]at this;exact⟨i0,rfl,by simpa using this⟩
def allL(s:Sc):List (TH×Ft):=s.2.2.1.map (·.2)++[(s.2.2.2.1,s.2.2.2.2)]
theorem refall18x_calls(s:Sc)(lv ov tv nv pv:Value)(w0 w:World)(hbw:Below w0.heap.size w0 w)(rd:RdSc w0 s lv ov tv nv pv)(b3:s.2.2.1.length≤1000000)(R:Ending→World→Prop)
  (hR:Hid (∀W v' L,TesP w0 W w.heap.size v' L→L.map (·.1)=allL s→Below w.heap.size w W→R (.returned v') W)):Calls Tryz.prog 57 #[scV s lv ov tv nv pv] w R:=by
 obtain⟨ti,hTI,hZ⟩:=ty18_info;simp only[Prod.mk.injEq]at hZ;obtain⟨hz0,hz1,hz2⟩:=hZ;have rr:=rd.r;obtain⟨A1,c1,rfl,-,-⟩:=rd.l.op;obtain⟨A2,c2,rfl,-,-⟩:=Unp.RdPr.op rd.o;obtain⟨A3,c3,rfl,-,hel⟩:=nds_el rd.t;obtain⟨N1,N3,rfl,-,-⟩:=rd.r.n.op;obtain⟨M1,M3,rfl,-⟩:=rd.r.p.sl;have n:=F0.z w;obtain⟨V,e1,n,z1⟩:=n.new (.cells [.slice A1 s.1.length c1,.slice A2 s.2.1.length c2,.slice A3 s.2.2.1.length c3,.int .i64 s.2.2.2.1.kind,.int .i64 s.2.2.2.1.at_,.int .i64 s.2.2.2.1.lo,.int .i64 s.2.2.2.1.hi,.int .i64 s.2.2.2.1.most,.slice N1 s.2.2.2.1.names.length N3,.slice M1 s.2.2.2.2.len M3,.string s.2.2.2.1.name,.int .i64 s.2.2.2.1.nat].toArray 31);have bV:=F0.bel n;have lB:=n.lt 0 rfl;have hB:=n.b 0 rfl;replace hel:=Lib.hid hel;replace rr:=Lib.hid rr;clear n rd;go_enter Tryz.func57,Tryz.ntmps57
 go_upto_region 1 with fail
 clear e1;replace hB:=Lib.hid hB;go_wp2_with fail
 go_loopg [3,4] s.2.2.1.length (fun g0 ev i wr=>∃(K:Nat) (v':Value) (L:List Te),v'=ev∧i=.int .i64 K∧K+g0=s.2.2.1.length∧Hid (Below V.heap.size V wr)∧Hid (wr.ownsRow V.heap.size 29 9 v' K (flatG encY L))∧Hid (L.map (·.1)=(s.2.2.1.take K).map (·.2)∧∀t∈L,RdY w0 t.1.1 t.1.2 t.2.1 t.2.2))
 case atStart=>exact⟨0,_,[],rfl,rfl,by omega,Lib.hid (Below.refl _ _),Lib.hid (by simpa [flatG]using World.ownsRow_nil _ _ _ _),Lib.hid ⟨rfl,by simp⟩⟩
 case round =>
  obtain⟨K,v',L,rfl,rfl,e1,m,own,hL⟩:=hrel;replace m:=m.out;have x2:wr.cell? ⟨w.heap.size,2,none⟩=some (.slice A3 s.2.2.1.length c3):=(m.cell (p:=⟨w.heap.size,2,none⟩) lB).trans ((Lib.cell_of_heap hB.out 2).trans rfl)
  have r3:wr.rangeAt w.heap.size 3 (tyL s.2.2.2.1 (.slice N1 s.2.2.2.1.names.length N3) (.slice M1 s.2.2.2.2.len M3)):=fun j u hj=>(m.cell (p:=⟨w.heap.size,3+j,none⟩) lB).trans ((Lib.cell_of_heap hB.out (3+j)).trans (by
   rw [List.getElem?_toArray];have e:∀(l:List Value),(Value.slice A1 s.1.length c1::Value.slice A2 s.2.1.length c2::Value.slice A3 s.2.2.1.length c3::l)[3+j]?=l[j]?:=fun l=>by rw [Nat.add_comm];rfl
   rw [e];exact hj))
  have sz:=m.size
  by_cases hK:K<s.2.2.1.length
  ·obtain⟨g,o,N1',N3',M1',M3',rfl,hxy,hrg⟩:=hel.out K hK
   have rg0:=hrg wr (hbw.trans ((bV.trans (m.mono bV.size)).mono hbw.size))
   have rg:wr.rangeAt g (o+K*11+2) (tyL (nN s.2.2.1 K).2.1 (.slice N1' (nN s.2.2.1 K).2.1.names.length N3') (.slice M1' (nN s.2.2.1 K).2.2.len M3')):=fun j u hj=>by
    rw [Nat.add_assoc]
    exact rg0 (2+j) u (by
     have e:∀(a b:Value) (l:List Value),(a::b::l)[2+j]?=l[j]?:=fun a b l=>by rw [Nat.add_comm];rfl
     rw [e];exact hj)
   have ht:(s.2.2.1.take (K+1)).map (·.2)=(s.2.2.1.take K).map (·.2)++[(nN s.2.2.1 K).2]:=by
    rw [List.take_succ_eq_append_getElem hK,List.map_append,nN_get hK];rfl
   clear rg0 hrg;generalize nN s.2.2.1 K=y at *;obtain⟨⟨yn,ya⟩,yh,yf⟩:=y;simp only at hxy rg ht;have i0:(0:Int)≤(K:Int):=by omega
   have i1:(K:Int)<(s.2.2.1.length:Int):=by omega
   have hLy:Hid ((L++[((yh,yf),Value.slice N1' yh.names.length N3',Value.slice M1' yf.len M3')]).map (·.1)=(s.2.2.1.take (K+1)).map (·.2)∧∀t∈L++[((yh,yf),Value.slice N1' yh.names.length N3',Value.slice M1' yf.len M3')],RdY w0 t.1.1 t.1.2 t.2.1 t.2.2):=Lib.hid ⟨by rw [List.map_append,hL.out.1,ht];rfl,fun t ht=>by
    rcases List.mem_append.1 ht with ht|ht
    ·exact hL.out.2 t ht
    ·obtain rfl:=List.mem_singleton.1 ht
     exact hxy⟩
   clear hL hxy ht r3;replace m:=Lib.hid m;go_wp2_with (first|(refine wpList_load_g (by rfl) 29 _ rfl g (o+K*11+2) rfl _ _ rg Tryz.underlying29 rfl (by kernel_rfl) ?_;go_simp)|(at_builtin;go_loud (refine appKF wr (tyL yh (.slice N1' yh.names.length N3') (.slice M1' yf.len M3')).toArray 9 29 rfl _ _ 105 rfl V.heap.size ti _ 112 Tryz.underlying105 hTI hz0 hz1 hz2 rfl (by decide) rfl _ K (flatG encY L) rfl own.out _ rfl rfl (by simp [Value.oneCell']) (by unfold maxLen;omega) (by omega) sz ?_);rintro v2 w6 hown6 hg6 hbw6 -))
   have own6:=Lib.hid (show w6.ownsRow V.heap.size 29 9 v2 (K+1) (flatG encY (L++[((yh,yf),Value.slice N1' yh.names.length N3',Value.slice M1' yf.len M3')]))from by
    rw [flatG_snoc];exact hown6)
   have m6:=Lib.hid (show Below V.heap.size V w6 from m.out.trans hbw6);clear own m hown6 hg6 hbw6 rg x2 sz;go_wp2_with fail
   go_roundg (gk-1)
   case measure=>omega
   case rel=>exact⟨K+1,v2,_,rfl,by go_num,by omega,m6,own6,hLy⟩
  ·obtain rfl:K=s.2.2.1.length:=by omega
   have hx:=rr.out;obtain⟨h1,h2⟩:=hL.out;rw [List.take_length]at h1
   have hLn:L.length=s.2.2.1.length:=by
    have:=congrArg List.length h1;simpa using this
   have hLy:(L++[((s.2.2.2.1,s.2.2.2.2),Value.slice N1 s.2.2.2.1.names.length N3,Value.slice M1 s.2.2.2.2.len M3)]).map (·.1)=allL s:=by rw [List.map_append,h1];rfl
   have hLr:∀t∈L++[((s.2.2.2.1,s.2.2.2.2),Value.slice N1 s.2.2.2.1.names.length N3,Value.slice M1 s.2.2.2.2.len M3)],RdY w0 t.1.1 t.1.2 t.2.1 t.2.2:=fun t ht=>by
    rcases List.mem_append.1 ht with ht|ht
    ·exact h2 t ht
    ·obtain rfl:=List.mem_singleton.1 ht
     exact hx
   replace hLn:=Lib.hid hLn;replace hLr:=Lib.hid hLr;replace hLy:=Lib.hid hLy;clear h1 h2 hL hx;replace m:=Lib.hid m;go_wp2_with (first|(refine wpList_load_g (by rfl) 29 _ rfl w.heap.size 3 rfl _ _ r3 Tryz.underlying29 rfl (by kernel_rfl) ?_;go_simp)|(at_builtin;go_loud (refine appKF wr (tyL s.2.2.2.1 (.slice N1 s.2.2.2.1.names.length N3) (.slice M1 s.2.2.2.2.len M3)).toArray 9 29 rfl _ _ 105 rfl V.heap.size ti _ 112 Tryz.underlying105 hTI hz0 hz1 hz2 rfl (by decide) rfl _ s.2.2.1.length (flatG encY L) rfl own.out _ rfl rfl (by simp [Value.oneCell']) (by unfold maxLen;omega) (by omega) sz ?_);rintro v2 w6 hown6 hg6 hbw6 -))
   have m6:Below w.heap.size w w6:=bV.trans ((m.out.trans hbw6).mono bV.size)
   have own6:w6.ownsRow w.heap.size 29 9 v2 (L++[((s.2.2.2.1,s.2.2.2.2),Value.slice N1 s.2.2.2.1.names.length N3,Value.slice M1 s.2.2.2.2.len M3)]).length (flatG encY (L++[((s.2.2.2.1,s.2.2.2.2),Value.slice N1 s.2.2.2.1.names.length N3,Value.slice M1 s.2.2.2.2.len M3)])):=by
    rw [flatG_snoc,List.length_append,hLn.out];exact own_mono hown6 bV.size
   have fin:=Lib.hid (hR.out w6 v2 _ ⟨own6,hLr.out⟩ hLy.out m6);clear own m hown6 hg6 hbw6 r3 x2 sz hR own6;go_wp2_with fail
   exact fin.out
theorem refall18_calls(s:Sc)(lv ov tv nv pv:Value)(w:World)(rd:RdSc w s lv ov tv nv pv)(b3:s.2.2.1.length≤1000000)(R:Ending→World→Prop)
(hR:Hid (∀W v' L,TesP w W w.heap.size v' L→L.map (·.1)=allL s→Below w.heap.size w W→R (.returned v') W)):Calls Tryz.prog 57 #[scV s lv ov tv nv pv] w R:=refall18x_calls s lv ov tv nv pv w w (Below.refl _ _) rd b3 R hR
end Go.Proofs.YtncckdaflellnaaGreat.Res
