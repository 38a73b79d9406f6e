import Derived.Test.YtabhkakomececaaGreatQ30
set_option linter.all false
set_option maxRecDepth 100000
set_option maxHeartbeats 4000000
namespace Go.Proofs.YtabhkakomececaaGreat
namespace Unp
open Go.RowKit Go.Lib
theorem blt{V:World}{b:Nat}{o:Obj}(h:V.heap[b]?=some o):b<V.heap.size:=(Array.getElem?_eq_some_iff.1 h).1
end Unp
namespace Unp
open Go.RowKit Go.Lib Nam Lat Kin Dig
theorem RdNs.op{w:World}{v:Value}{l:List Nd}(h:RdNs w v l):∃(A:Option Addr)(c:Nat),v=.slice A l.length c∧l.length≤c∧(0<l.length→∃g o,A=some ⟨g,o,none⟩∧g<w.heap.size ∧
∀i,i<l.length→∃nv pv,RdY w (nN l i).2.1 (nN l i).2.2 nv pv∧∀j u,[Value.string (nN l i).1.1,.int .i64 (nN l i).1.2,.int .i64 (nN l i).2.1.kind,.int .i64 (nN l i).2.1.at_,.int .i64 (nN l i).2.1.lo,.int .i64 (nN l i).2.1.hi,.int .i64 (nN l i).2.1.most,nv,pv,.string (nN l i).2.1.name,.int .i64 (nN l i).2.1.nat][j]?=some u→w.cell? ⟨g,o+i*11+j,none⟩=some u):=h
theorem mem_nN{l:List Nd}{i:Nat}(h:i<l.length):nN l i∈l:=by rw [nN_get h];exact List.getElem_mem h
theorem refgreat_calls(s:Sc)(gs:GoodS s)(lv ov tv nv pv:Value)(w:World)(rd:RdSc w s lv ov tv nv pv)(R:Ending→World→Prop)
  (hR:Hid (∀w' (y:Bool),Below w.heap.size w w'→(y=false→s.1.length≤100∧s.2.1.length≤400∧s.2.2.1.length≤100)→R (.returned (.bool y)) w')):Calls Tryz.prog 16 #[scV s lv ov tv nv pv] w R:=by
 have hl1:s.1.length≤9223372036854775807:=gs.ll;have hl2:s.2.1.length≤9223372036854775807:=gs.ol;have hl3:s.2.2.1.length≤9223372036854775807:=gs.tl;obtain⟨A1,c1,rfl,-,-⟩:=rd.l.op;obtain⟨A2,c2,rfl,-,-⟩:=RdPr.op rd.o;obtain⟨A3,c3,rfl,-,-⟩:=rd.t.op;obtain⟨N1,N3,rfl,-,-⟩:=rd.r.n.op;obtain⟨M1,M3,rfl,-⟩:=rd.r.p.sl;have hA:=heap_alloc_new w (.cells #[.slice A1 s.1.length c1,.slice A2 s.2.1.length c2,.slice A3 s.2.2.1.length c3,.int .i64 s.2.2.2.1.kind,.int .i64 s.2.2.2.1.at_,.int .i64 s.2.2.2.1.lo,.int .i64 s.2.2.2.1.hi,.int .i64 s.2.2.2.1.most,.slice N1 s.2.2.2.1.names.length N3,.slice M1 s.2.2.2.2.len M3,.string s.2.2.2.1.name,.int .i64 s.2.2.2.1.nat] 38);have n:=(Below.refl w.heap.size w).alloc (Nat.le_refl _) (.cells #[.slice A1 s.1.length c1,.slice A2 s.2.1.length c2,.slice A3 s.2.2.1.length c3,.int .i64 s.2.2.2.1.kind,.int .i64 s.2.2.2.1.at_,.int .i64 s.2.2.2.1.lo,.int .i64 s.2.2.2.1.hi,.int .i64 s.2.2.2.1.most,.slice N1 s.2.2.2.1.names.length N3,.slice M1 s.2.2.2.2.len M3,.string s.2.2.2.1.name,.int .i64 s.2.2.2.1.nat] 38);replace rd:=rd.below n;go_enter Tryz.func16,Tryz.ntmps16
 go_upto_region 1 with fail
 generalize w.alloc (.cells #[.slice A1 s.1.length c1,.slice A2 s.2.1.length c2,.slice A3 s.2.2.1.length c3,.int .i64 s.2.2.2.1.kind,.int .i64 s.2.2.2.1.at_,.int .i64 s.2.2.2.1.lo,.int .i64 s.2.2.2.1.hi,.int .i64 s.2.2.2.1.most,.slice N1 s.2.2.2.1.names.length N3,.slice M1 s.2.2.2.2.len M3,.string s.2.2.2.1.name,.int .i64 s.2.2.2.1.nat] 38)=V at *;generalize w.heap.size=P at hA ⊢
 by_cases h1:100<s.1.length
 ·have i1:(100:Int)<(s.1.length:Int):=by omega
  have fin:=Lib.hid (hR.out _ true n (fun h=>by cases h));clear hR rd gs;have a0:=(Lib.cell_of_heap hA 0).trans rfl;have a1:=(Lib.cell_of_heap hA 1).trans rfl;have a2:=(Lib.cell_of_heap hA 2).trans rfl;go_wp2_with fail
  exact fin.out
 have i1:¬(100:Int)<(s.1.length:Int):=by omega
 by_cases h2:400<s.2.1.length
 ·have i2:(400:Int)<(s.2.1.length:Int):=by omega
  have fin:=Lib.hid (hR.out _ true n (fun h=>by cases h));clear hR rd gs;have a0:=(Lib.cell_of_heap hA 0).trans rfl;have a1:=(Lib.cell_of_heap hA 1).trans rfl;have a2:=(Lib.cell_of_heap hA 2).trans rfl;go_wp2_with fail
  exact fin.out
 have i2:¬(400:Int)<(s.2.1.length:Int):=by omega
 by_cases h3:100<s.2.2.1.length
 ·have i3:(100:Int)<(s.2.2.1.length:Int):=by omega
  have fin:=Lib.hid (hR.out _ true n (fun h=>by cases h));clear hR rd gs;have a0:=(Lib.cell_of_heap hA 0).trans rfl;have a1:=(Lib.cell_of_heap hA 1).trans rfl;have a2:=(Lib.cell_of_heap hA 2).trans rfl;go_wp2_with fail
  exact fin.out
 have i3:¬(100:Int)<(s.2.2.1.length:Int):=by omega
 have hR2:Hid (∀w' (y:Bool),Below w.heap.size w w'→R (.returned (.bool y)) w'):=Lib.hid fun w' y m=>hR.out w' y m fun _=>⟨by omega,by omega,by omega⟩
 replace hR2:=Lib.hid hR2;clear hR h1 h2 h3;obtain⟨A3',c3',e3s,-,hrd⟩:=rd.t.op;simp only[Value.slice.injEq]at e3s;obtain⟨rfl,-,rfl⟩:=e3s;replace hrd:=Lib.hid hrd;have cS:=Lib.hid fun R hR=>size15_calls s.2.2.2.2 s.2.2.2.1 (.slice N1 s.2.2.2.1.names.length N3) (.slice M1 s.2.2.2.2.len M3) V gs.gl gs.g rd.r R hR
 have rT:V.rangeAt P 3 [.int .i64 s.2.2.2.1.kind,.int .i64 s.2.2.2.1.at_,.int .i64 s.2.2.2.1.lo,.int .i64 s.2.2.2.1.hi,.int .i64 s.2.2.2.1.most,.slice N1 s.2.2.2.1.names.length N3,.slice M1 s.2.2.2.2.len M3,.string s.2.2.2.1.name,.int .i64 s.2.2.2.1.nat]:=fun j v h=>by rw [Lib.cell_of_heap hA,List.getElem?_toArray,←List.getElem?_drop];exact h
 have a0:=(Lib.cell_of_heap hA 0).trans rfl;have a1:=(Lib.cell_of_heap hA 1).trans rfl;have a2:=(Lib.cell_of_heap hA 2).trans rfl;go_wp2_with (refine wpList_load_g (by rfl) 36 _ rfl P 3 rfl [.int .i64 s.2.2.2.1.kind,.int .i64 s.2.2.2.1.at_,.int .i64 s.2.2.2.1.lo,.int .i64 s.2.2.2.1.hi,.int .i64 s.2.2.2.1.most,.slice N1 s.2.2.2.1.names.length N3,.slice M1 s.2.2.2.2.len M3,.string s.2.2.2.1.name,.int .i64 s.2.2.2.1.nat] _ rT Tryz.underlying36 rfl (by kernel_rfl) ?_;go_simp)
 refine cS.out _ (Lib.hid fun w1 m1=>?_);have hlA:=blt hA;have hAV:=Lib.hid hA;replace hA:=(m1.block _ hlA).trans hA;have nV:=m1;clear cS rT m1 a0 a1 a2 i1 i2 i3;generalize cW s.2.2.2.2 1=NN at *;generalize wrap64 (dW s.2.2.2.2 0+1)=DD at *;have a2:=(Lib.cell_of_heap hA 2).trans rfl;go_upto_region 5 with fail
 clear a2;replace hA:=Lib.hid hA;go_loopg [3,4,5] s.2.2.1.length (fun g0 s3 s4 i wr=>∃(J:Nat) (p q:Int),s3=.int .i64 p∧s4=.int .i64 q∧i=.int .i64 J∧J+g0=s.2.2.1.length∧Hid (Below V.heap.size V wr))
 case atStart=>exact⟨0,_,_,rfl,rfl,rfl,by omega,Lib.hid nV⟩
 case round =>
  clear nV;obtain⟨J,p,q,rfl,rfl,rfl,c1',nb⟩:=hrel;replace nb:=nb.out;have hAr:=(nb.block _ hlA).trans hAV.out
  by_cases hJ:J<s.2.2.1.length
  ·obtain⟨g,o,rfl,hg,hca⟩:=hrd.out (by omega)
   obtain⟨nx,px,ry,hcl⟩:=hca J hJ;obtain⟨N1',N3',rfl,-,-⟩:=ry.n.op;obtain⟨M1',M3',rfl,-⟩:=ry.p.sl;have hgn:=gs.t _ (mem_nN hJ);generalize nN s.2.2.1 J=n' at *;have rT:wr.rangeAt g (o+J*11+2) [.int .i64 n'.2.1.kind,.int .i64 n'.2.1.at_,.int .i64 n'.2.1.lo,.int .i64 n'.2.1.hi,.int .i64 n'.2.1.most,.slice N1' n'.2.1.names.length N3',.slice M1' n'.2.2.len M3',.string n'.2.1.name,.int .i64 n'.2.1.nat]:=fun j v q=>(nb.cell (p:=⟨g,o+J*11+2+j,none⟩) hg).trans (by rw [Nat.add_assoc];exact hcl (2+j) v (by rw [←List.getElem?_drop];exact q))
   have cS:=Lib.hid fun R hR=>size15_calls n'.2.2 n'.2.1 (.slice N1' n'.2.1.names.length N3') (.slice M1' n'.2.2.len M3') wr hgn.2.2.2 hgn.2.2.1 (ry.below nb) R hR
   have i0:(0:Int)≤(J:Int):=by omega
   have i1:(J:Int)<(s.2.2.1.length:Int):=by omega
   clear hca hcl;have a2:=(Lib.cell_of_heap hAr 2).trans rfl;go_wp2_with (refine wpList_load_g (by rfl) 36 _ rfl g (o+J*11+2) rfl [.int .i64 n'.2.1.kind,.int .i64 n'.2.1.at_,.int .i64 n'.2.1.lo,.int .i64 n'.2.1.hi,.int .i64 n'.2.1.most,.slice N1' n'.2.1.names.length N3',.slice M1' n'.2.2.len M3',.string n'.2.1.name,.int .i64 n'.2.1.nat] _ rT Tryz.underlying36 rfl (by kernel_rfl) ?_;go_simp)
   refine cS.out _ (Lib.hid fun w2 m2=>?_);have nb2:=Lib.hid (nb.trans (m2.mono nb.size));clear cS rT m2 a2 ry;generalize cW n'.2.2 1=k at *;generalize wrap64 (dW n'.2.2 0+1)=d at *
   by_cases hd:q<d
   ·go_wp2_with fail
    go_roundg (gk-1)
    case measure=>omega
    case rel=>exact⟨J+1,_,_,rfl,rfl,by go_num,by omega,nb2⟩
   ·go_wp2_with fail
    go_roundg (gk-1)
    case measure=>omega
    case rel=>exact⟨J+1,_,_,rfl,rfl,by go_num,by omega,nb2⟩
  ·obtain rfl:J=s.2.2.1.length:=by omega
   have a2:=(Lib.cell_of_heap hAr 2).trans rfl;have hR3:=Lib.hid fun(y:Bool)=>hR2.out.out wr y (n.trans (nb.mono n.size))
   clear hR2
   by_cases hp:2000<p
   ·go_wp2_with fail
    exact hR3.out true
   ·by_cases hd:60<q
    ·go_wp2_with fail
     exact hR3.out true
    ·go_wp2_with fail
     exact hR3.out false
end Unp
namespace Res
open Go.RowKit Go.Lib Utf Nam Lat Kin Unp Rel Lab
abbrev tnm(s:Sc):List ByteArray:=nms (tw s.2.2.1)
theorem tnm_get{s:Sc}{K:Nat}(h:K<s.2.2.1.length):(tnm s)[K]?=some (nN s.2.2.1 K).1.1:=by
 rw [nms_get (by rw [tw_len];exact h),tw_get h]
theorem tnm_len(s:Sc):(tnm s).length=s.2.2.1.length:=by simp [nms,tw_len]
theorem reffind18_calls(s:Sc)(gs:GoodS s)(x:ByteArray)(lv ov tv nv pv:Value)(w:World)(rd:RdSc w s lv ov tv nv pv)(b3:s.2.2.1.length≤1000000)(R:Ending→World→Prop)
  (hR:Hid (∀W,Below w.heap.size w W→R (.returned (.int .i64 (findS (tnm s) x))) W)):Calls Tryz.prog 105 #[scV s lv ov tv nv pv,.string x] w R:=by
 obtain⟨A1,c1,rfl,-,-⟩:=rd.l.op;obtain⟨A2,c2,rfl,-,-⟩:=Unp.RdPr.op rd.o;obtain⟨A3,c3,rfl,-,hel⟩:=nds_el rd.t;obtain⟨N1,N3,rfl,-,-⟩:=rd.r.n.op;obtain⟨M1,M3,rfl,-⟩:=rd.r.p.sl;have n:=F0.z w;obtain⟨V,e1,n,z1⟩:=n.new (.cells [.slice A1 s.1.length c1,.slice A2 s.2.1.length c2,.slice A3 s.2.2.1.length c3,.int .i64 s.2.2.2.1.kind,.int .i64 s.2.2.2.1.at_,.int .i64 s.2.2.2.1.lo,.int .i64 s.2.2.2.1.hi,.int .i64 s.2.2.2.1.most,.slice N1 s.2.2.2.1.names.length N3,.slice M1 s.2.2.2.2.len M3,.string s.2.2.2.1.name,.int .i64 s.2.2.2.1.nat].toArray 38);have x2:=n.c 0 2 rfl rfl;have bV:=F0.bel n;have fin:=Lib.hid (hR.out V bV);replace hel:=Lib.hid hel;clear n z1 rd hR;go_enter Tryz.func105,Tryz.ntmps105
 go_upto_region 1 with fail
 clear e1;replace bV:=Lib.hid bV;go_wp2_with fail
 go_loopg [5] s.2.2.1.length (fun k i wr=>∃(K:Nat),wr=V∧i=.int .i64 K∧K+k=s.2.2.1.length∧Hid (∀j,j<K→(tnm s)[j]?≠some x))
 case atStart=>exact⟨0,rfl,rfl,by omega,Lib.hid fun j h=>by omega⟩
 case round =>
  obtain⟨K,rfl,rfl,c1,c2⟩:=hrel
  by_cases hK:K<s.2.2.1.length
  ·obtain⟨g,o,N1',N3',M1',M3',rfl,-,hrg⟩:=hel.out K hK
   have e0:=hrg _ bV.out 0 _ rfl;rw [Nat.add_zero]at e0;have e1:=tnm_get hK;clear hrg;generalize(nN s.2.2.1 K).1.1=y at *;have hi0:(0:Int)≤(K:Int):=by omega
   have hi1:(K:Int)<(s.2.2.1.length:Int):=by omega
   by_cases hq:y=x
   ·have e2:findS (tnm s) x=K:=find_is (by rw [e1,hq]) c2.out
    rw [e2]at fin;have h3:=seq_t hq;clear hq e1 c2;go_wp2_with fail
    exact fin.out
   ·have h3:=seq_f hq
    have e2:∀j,j<K+1→(tnm s)[j]?≠some x:=fun j hj=>by
     rcases Nat.eq_or_lt_of_le (Nat.le_of_lt_succ hj)with e|h
     ·subst e;rw [e1];exact fun h=>hq (Option.some.inj h)
     ·exact c2.out j h
    replace e2:=Lib.hid e2;clear hq e1 c2;go_wp2_with fail
    go_roundg (gk-1)
    case measure=>omega
    case rel=>exact⟨K+1,rfl,by go_num,by omega,e2⟩
  ·have e:findS (tnm s) x=-1:=find_none fun hm=>by
    obtain⟨j,hj,e⟩:=List.getElem_of_mem hm;rw [tnm_len]at hj;exact c2.out j (by omega) (by rw [List.getElem?_eq_getElem (by rw [tnm_len];exact hj),e])
   rw [e]at fin;clear c2;go_wp2_with fail
   exact fin.out
def endS(s:Sc):Nat→Nat→Int
| 0,i=>if(nN s.2.2.1 i).2.1.kind≠9 then(i:Int)else -1
| n+1,i=>if(nN s.2.2.1 i).2.1.kind≠9 then(i:Int)else endS s n (findS (tnm s) (nN s.2.2.1 i).2.1.name).toNat
def AllFound(s:Sc):Prop:=∀i,i<s.2.2.1.length→(nN s.2.2.1 i).2.1.kind=9→0≤findS (tnm s) (nN s.2.2.1 i).2.1.name
theorem refend18_calls(s:Sc)(gs:GoodS s)(hf:AllFound s)(b3:s.2.2.1.length≤1000000):∀(m i:Nat)(lv ov tv nv pv:Value)(w:World),m≤1000→i<s.2.2.1.length→RdSc w s lv ov tv nv pv→∀R:Ending→World→Prop,
  Hid (∀W,Below w.heap.size w W→R (.returned (.int .i64 (endS s m i))) W)→Calls Tryz.prog 99 #[scV s lv ov tv nv pv,.int .i64 i,.int .i64 m] w R:=by
 intro m
 induction m with
 | zero =>
  intro i lv ov tv nv pv w hm hi rd R hR;obtain⟨A1,c1,rfl,-,-⟩:=rd.l.op;obtain⟨A2,c2,rfl,-,-⟩:=Unp.RdPr.op rd.o;obtain⟨A3,c3,rfl,-,hel⟩:=nds_el rd.t;obtain⟨N1,N3,rfl,-,-⟩:=rd.r.n.op;obtain⟨M1,M3,rfl,-⟩:=rd.r.p.sl;have n:=F0.z w;obtain⟨V,e1,n,z1⟩:=n.new (.cells [.slice A1 s.1.length c1,.slice A2 s.2.1.length c2,.slice A3 s.2.2.1.length c3,.int .i64 s.2.2.2.1.kind,.int .i64 s.2.2.2.1.at_,.int .i64 s.2.2.2.1.lo,.int .i64 s.2.2.2.1.hi,.int .i64 s.2.2.2.1.most,.slice N1 s.2.2.2.1.names.length N3,.slice M1 s.2.2.2.2.len M3,.string s.2.2.2.1.name,.int .i64 s.2.2.2.1.nat].toArray 38);have x2:=n.c 0 2 rfl rfl;have bV:=F0.bel n;have fin:=hR.out V bV;obtain⟨g,o,N1',N3',M1',M3',rfl,-,hrg⟩:=hel i hi;have e0:=hrg _ bV 2 _ rfl;have i0:(0:Int)≤(i:Int):=by omega
  have i1:(i:Int)<(s.2.2.1.length:Int):=by omega
  have eE:endS s 0 i=if(nN s.2.2.1 i).2.1.kind≠9 then(i:Int)else -1:=rfl;rw [eE]at fin;clear hel hrg n z1 rd hR bV eE;generalize(nN s.2.2.1 i).2.1.kind=kd at *
  by_cases k9:kd=9
  ·rw [if_neg (by simpa using k9)]at fin
   subst k9;replace fin:=Lib.hid fin;go_enter Tryz.func99,Tryz.ntmps99
   go_upto_region 1 with fail
   clear e1;go_wp2_with fail
   exact fin.out
  ·rw [if_pos k9]at fin
   have q9:(kd != 9)=true:=by simpa using k9
   replace fin:=Lib.hid fin;clear k9;go_enter Tryz.func99,Tryz.ntmps99
   go_upto_region 1 with fail
   clear e1;go_wp2_with fail
   exact fin.out
 | succ m ih =>
  intro i lv ov tv nv pv w hm hi rd R hR;have rd0:=rd;obtain⟨A1,c1,rfl,-,-⟩:=rd.l.op;obtain⟨A2,c2,rfl,-,-⟩:=Unp.RdPr.op rd.o;obtain⟨A3,c3,rfl,-,hel⟩:=nds_el rd.t;obtain⟨N1,N3,rfl,-,-⟩:=rd.r.n.op;obtain⟨M1,M3,rfl,-⟩:=rd.r.p.sl;have n:=F0.z w;obtain⟨V,e1,n,z1⟩:=n.new (.cells [.slice A1 s.1.length c1,.slice A2 s.2.1.length c2,.slice A3 s.2.2.1.length c3,.int .i64 s.2.2.2.1.kind,.int .i64 s.2.2.2.1.at_,.int .i64 s.2.2.2.1.lo,.int .i64 s.2.2.2.1.hi,.int .i64 s.2.2.2.1.most,.slice N1 s.2.2.2.1.names.length N3,.slice M1 s.2.2.2.2.len M3,.string s.2.2.2.1.name,.int .i64 s.2.2.2.1.nat].toArray 38);have x2:=n.c 0 2 rfl rfl;have bV:=F0.bel n;have rdV:=Lib.hid (rd0.below bV);obtain⟨g,o,N1',N3',M1',M3',rfl,-,hrg⟩:=hel i hi;have e0:=hrg _ bV 2 _ rfl;have en:=fun q:BW V=>hrg q.w (bV.trans (q.b.mono bV.size)) 9 _ rfl
  have i0:(0:Int)≤(i:Int):=by omega
  have i1:(i:Int)<(s.2.2.1.length:Int):=by omega
  have eE:endS s (m+1) i=if(nN s.2.2.1 i).2.1.kind≠9 then(i:Int)else endS s m (findS (tnm s) (nN s.2.2.1 i).2.1.name).toNat:=rfl;have hfi:=hf i hi;have flt:=find_lt (tnm s) (nN s.2.2.1 i).2.1.name;rw [tnm_len]at flt;rw [eE]at hR;clear hel hrg z1 rd rd0 eE;generalize(nN s.2.2.1 i).2.1.kind=kd at *;generalize(nN s.2.2.1 i).2.1.name=nmx at *
  by_cases k9:kd=9
  ·rw [if_neg (by simpa using k9)]at hR
   replace hfi:=hfi k9;subst k9;obtain⟨J,hJ⟩:∃J:Nat,findS (tnm s) nmx=(J:Int):=⟨(findS (tnm s) nmx).toNat,by omega⟩;rw [hJ,Int.toNat_natCast]at hR;have lb:=n.lt 0 rfl
   have rS:∀W,(∃q:BW V,W=q.w)→W.rangeAt w.heap.size 0 [.slice A1 s.1.length c1,.slice A2 s.2.1.length c2,.slice (some ⟨g,o,none⟩) s.2.2.1.length c3,.int .i64 s.2.2.2.1.kind,.int .i64 s.2.2.2.1.at_,.int .i64 s.2.2.2.1.lo,.int .i64 s.2.2.2.1.hi,.int .i64 s.2.2.2.1.most,.slice N1 s.2.2.2.1.names.length N3,.slice M1 s.2.2.2.2.len M3,.string s.2.2.2.1.name,.int .i64 s.2.2.2.1.nat]:=fun W hW=>by
    obtain⟨q,rfl⟩:=hW;exact(n.bl q.b).rg 0 rfl
   have x2q:=fun q:BW V=>q.cell lb x2
   have cF:=Lib.hid fun(q:BW V) R hR=>reffind18_calls s gs nmx _ _ _ _ _ q.w (rdV.out.below q.b) b3 R hR
   rw [hJ]at cF;have cE:=Lib.hid fun(q:BW V) R hR=>ih J _ _ _ _ _ q.w (by omega) (by omega) (rdV.out.below q.b) R hR
   have hR2:=Lib.hid fun(q:BW V)=>hR.out q.w (bV.trans (q.b.mono bV.size))
   have im:(((m+1:Nat):Int)-1)=(m:Int):=by omega
   have ip:¬(((m+1:Nat):Int))<1:=by omega
   have iw:IntKind.i64.wrap (((m+1:Nat):Int)-1)=(m:Int):=by rw [im];exact IntWalk.i64_in _ (by omega)
   clear n hR bV rdV ih hfi flt hJ;go_enter Tryz.func99,Tryz.ntmps99
   go_upto_region 1 with fail
   clear e1;go_upto_region 5 with fail
   clear x2;have nW:Below V.heap.size V (V.drewN 1):=below_drewN (Below.refl _ _) 1;refine wp_region_mix [([0,1,2,3,4,5,6,7,8,9,11,12],10),([],13)] [14] (by kernel_rfl) (by kernel_rfl) (by kernel_rfl) (by kernel_rfl) (fun _ _ d _ _ h=>by cases d<;>exact h) ?_
   refine mix_cons (os:=[_,_,_,_,_,_,_,_,_,_,_,_]) (by simp only[pickO,List.filterMap_cons,List.filterMap_nil,List.getElem?_toArray,List.getElem?_cons_succ,List.getElem?_cons_zero];rfl) (fun Kp hKp=>?_)
   refine wpQuiet_load rfl 38 _ rfl w.heap.size 0 rfl _ _ rS Tryz.underlying38 rfl (by kernel_rfl) ?_
   try go_simp
   refine wpQuiet_load rfl 38 _ rfl w.heap.size 0 rfl _ _ rS Tryz.underlying38 rfl (by kernel_rfl) ?_
   try go_simp
   repeat (go_big_quiet_step (exact rfl))
   refine wpQuiet_nil ?_;refine hKp _ ?_;clear hKp rS en x2q e0;refine loud (by rfl) (by kernel_rfl) (fun K1 hK1=>?_);go_simp;refine cF.out ⟨V.drewN 1,nW⟩ _ (Lib.hid fun W2 m2=>?_);have nW2:=nW.trans (m2.mono nW.size);refine hK1 _ _ ⟨⟨W2,nW2⟩,rfl⟩ ?_;clear hK1;refine mix_cons (os:=[]) (by rfl) (fun Kp hKp=>?_);refine wpQuiet_nil ?_;refine hKp _ ?_;clear hKp;refine loud (by rfl) (by kernel_rfl) (fun K2 hK2=>?_);go_simp;refine cE.out ⟨W2,nW2⟩ _ (Lib.hid fun W3 m3=>?_);have nW3:=nW2.trans (m3.mono nW2.size);refine hK2 _ _ ⟨⟨W3,nW3⟩,rfl⟩ ?_;clear hK2;refine mix_nil (os:=[_]) (by simp only[pickO,List.filterMap_cons,List.filterMap_nil,List.getElem?_toArray,List.getElem?_cons_succ,List.getElem?_cons_zero];rfl) (fun Kp hKp=>?_)
   repeat (go_big_quiet_step (exact rfl))
   refine wpQuiet_nil ?_;refine hKp _ ?_;clear hKp;have fin:=Lib.hid (hR2.out ⟨W3,nW3⟩);clear hR2 cE cF;go_wp2_with fail
   exact fin.out
  ·rw [if_pos k9]at hR
   have q9:(kd != 9)=true:=by simpa using k9
   have fin:=Lib.hid (hR.out V bV);clear k9 hR ih n rdV en;go_enter Tryz.func99,Tryz.ntmps99
   go_upto_region 1 with fail
   clear e1;go_wp2_with fail
   exact fin.out
theorem cast_w18{P:Program}{ops:Array Oper}{Q:Exit→Act→World→Prop}{l:List Oper}{a:Act}{w w':World}(e:w=w')(h:wpList P ops Q l a w'):wpList P ops Q l a w:=e▸h
theorem fir_hit18{f:Nat→Option (Int×Int)}{k i:Nat}{x:Int×Int}(h:f i=some x):firF f (k+1) i=some x:=by rw [firF,h]
theorem fir_miss18{f:Nat→Option (Int×Int)}{k i:Nat}(h:f i=none):firF f (k+1) i=firF f k (i+1):=by rw [firF,h]
def wdS(nm:List ByteArray)(qs:List Wr):Int×Int:=(firF (ofAt nm qs) qs.length 0).getD (0,0)
theorem lof_wd(nm:List ByteArray)(F:Nat→Nat→Bool)(qs:List Wr):(lof nm F qs).2=wdS nm qs:=by
 unfold lof wdS;cases firF (ofAt nm qs) qs.length 0<;>rfl
theorem refword18_calls(s:Sc)(gs:GoodS s)(qs:List Wr)(vq lv ov tv nv pv:Value)(w:World)(rd:RdSc w s lv ov tv nv pv)(hq:RdW w vq qs)(b1:s.1.length≤1000000)(hql:qs.length≤1000000)(R:Ending→World→Prop)
  (hR:Hid (∀W,Below w.heap.size w W→R (.returned (.agg #[.int .i64 (wdS (nms s.1) qs).1,.int .i64 (wdS (nms s.1) qs).2])) W)):Calls Tryz.prog 170 #[scV s lv ov tv nv pv,vq] w R:=by
 have rl:=rd.l;obtain⟨A1,c1,rfl,-,-⟩:=rd.l.op;obtain⟨A2,c2,rfl,-,-⟩:=Unp.RdPr.op rd.o;obtain⟨A3,c3,rfl,-,-⟩:=nds_el rd.t;obtain⟨N1,N3,rfl,-,-⟩:=rd.r.n.op;obtain⟨M1,M3,rfl,-⟩:=rd.r.p.sl;obtain⟨Aq,cq,rfl,hcq,hrq⟩:=hq.op;have n:=F0.z w;obtain⟨V1,e1,n,z1⟩:=n.new (.cells [.slice A1 s.1.length c1,.slice A2 s.2.1.length c2,.slice A3 s.2.2.1.length c3,.int .i64 s.2.2.2.1.kind,.int .i64 s.2.2.2.1.at_,.int .i64 s.2.2.2.1.lo,.int .i64 s.2.2.2.1.hi,.int .i64 s.2.2.2.1.most,.slice N1 s.2.2.2.1.names.length N3,.slice M1 s.2.2.2.2.len M3,.string s.2.2.2.1.name,.int .i64 s.2.2.2.1.nat].toArray 38);obtain⟨V,e2,n,z2⟩:=n.new (.cells #[.int .i64 0,.int .i64 0] 26);replace hrq:=Lib.hid hrq;replace rl:=Lib.hid rl;clear z1 z2 rd hq;go_enter Tryz.func170,Tryz.ntmps170
 go_upto_region 1 with fail
 clear e1 e2;go_wp2_with fail
 go_loopg [5] qs.length (fun k i wr=>∃(K:Nat),i=.int .i64 K∧K+k=qs.length∧Hid (wdS (nms s.1) qs=(firF (ofAt (nms s.1) qs) k K).getD (0,0))∧Hid (Hq F0 () () w wr [(V1.heap.size,.cells #[.int .i64 0,.int .i64 0] 26),(w.heap.size,.cells [.slice A1 s.1.length c1,.slice A2 s.2.1.length c2,.slice A3 s.2.2.1.length c3,.int .i64 s.2.2.2.1.kind,.int .i64 s.2.2.2.1.at_,.int .i64 s.2.2.2.1.lo,.int .i64 s.2.2.2.1.hi,.int .i64 s.2.2.2.1.most,.slice N1 s.2.2.2.1.names.length N3,.slice M1 s.2.2.2.2.len M3,.string s.2.2.2.1.name,.int .i64 s.2.2.2.1.nat].toArray 38)]))
 case atStart=>exact⟨0,rfl,by omega,Lib.hid rfl,Lib.hid n⟩
 case round =>
  clear n;obtain⟨K,rfl,e1,e2,n⟩:=hrel;replace n:=n.out
  by_cases hK:K<qs.length
  ·obtain⟨g,o,rfl,hg,hca⟩:=hrq.out (by omega)
   have bw:=F0.bel n;have y0:=(bw.cell (p:=⟨g,o+K*2,none⟩) hg).trans (hca K hK).1;have y1:=(bw.cell (p:=⟨g,o+K*2+1,none⟩) hg).trans (hca K hK).2;have gl:=Nat.lt_of_lt_of_le hg bw.size;obtain⟨k',rfl⟩:∃k',gk=k'+1:=⟨gk-1,by omega⟩;have eo:ofAt (nms s.1) qs K=if findS (nms s.1) (wN qs K).1<0 then some (17,(wN qs K).2)else none:=rfl;replace e2:=e2.out;clear hca;generalize(wN qs K).1=x at *;generalize(wN qs K).2=z at *;have i0:(0:Int)≤(K:Int):=by omega
   have i1:(K:Int)<(qs.length:Int):=by omega
   have x0:=n.c 1 0 rfl rfl;have lx:=n.lt 1 rfl;have c0:=fun q:BW wr=>q.cell lx x0
   have d0:=fun q:BW wr=>q.cell gl y0
   obtain⟨f,hf⟩:∃f,findS (nms s.1) x=f:=⟨_,rfl⟩;have cF:=Lib.hid fun q:BW wr=>(show Calls Tryz.prog 161 #[.slice A1 s.1.length c1,.string x] q.w fun e w'=>e=.returned (.int .i64 f)∧Below q.w.heap.size q.w w' from reffind11_calls s.1 x _ q.w (rl.out.below (bw.trans (q.b.mono bw.size))) b1 _ (Lib.hid ⟨by rw [hf],Below.refl _ _⟩))
   rw [hf]at eo;clear hf
   by_cases hn:f<0
   ·rw [if_pos hn]at eo
    rw [fir_hit18 eo]at e2;have tq:decide (f<0)=true:=by simpa using hn
    replace e2:wdS (nms s.1) qs=(17,z):=e2;rw [e2]at hR;clear hn e2 i1 eo;have i1:(K:Int)<(qs.length:Int):=by omega
    go_upto_region 4 with fail
    refine wp_region_below_lit (by kernel_rfl) (by kernel_rfl) ?_
    repeat (go_big_quiet_step ((with_reducible exact calls_below (cF.out _))))
    refine wpQuiet_nil ?_
    rintro _ ⟨q,rfl⟩
    replace n:=n.bl q.b;have y1:=(q.b.cell (p:=⟨g,o+K*2+1,none⟩) gl).trans y1;have hG:=n.b 0 rfl;obtain⟨V5,e5,n5⟩:=n.row (j:=0) rfl #[.int .i64 17,.int .i64 z];have w0_:=n5.c 0 0 rfl rfl;have w1_:=n5.c 0 1 rfl rfl;have fin:=Lib.hid (hR.out V5 (F0.bel n5));clear n n5 hR cF c0 d0 y0 x0;go_wp2_with (refine wpList_store_row (by rfl) 26 _ _ (by rfl) V1.heap.size #[.int .i64 17,.int .i64 z] (by rfl) (by rfl) 26 _ hG (by kernel_rfl) rfl (by simp [Value.oneCell']) ?_;refine cast_w18 e5 ?_;go_simp)
    first|refine bodyPost_ret ?_ rfl fin.out|refine bodyPost_end ?_ rfl fin.out
    simp [results,Tryz.results170,go_sem,w0_,w1_]
   ·rw [if_neg hn]at eo
    rw [fir_miss18 eo]at e2;have tq:decide (f<0)=false:=by simpa using hn
    have e3:=Lib.hid (show wdS (nms s.1) qs=(firF (ofAt (nms s.1) qs) k' (K+1)).getD (0,0)from e2);clear hn e2 eo;go_upto_region 4 with fail
    refine wp_region_below_lit (by kernel_rfl) (by kernel_rfl) ?_
    repeat (go_big_quiet_step ((with_reducible exact calls_below (cF.out _))))
    refine wpQuiet_nil ?_
    rintro _ ⟨q,rfl⟩
    have n5:=Lib.hid (n.bl q.b);clear n cF c0 d0 y0 x0 y1;go_wp2_with fail
    go_roundg k'
    case measure=>omega
    case rel=>exact⟨K+1,by go_num,by omega,e3,n5⟩
  ·obtain rfl:K=qs.length:=by omega
   obtain rfl:gk=0:=by omega
   replace e2:wdS (nms s.1) qs=(0,0):=e2.out;rw [e2]at hR;have hG:=n.b 0 rfl;obtain⟨V5,e5,n5⟩:=n.row (j:=0) rfl #[.int .i64 0,.int .i64 0];have w0_:=n5.c 0 0 rfl rfl;have w1_:=n5.c 0 1 rfl rfl;have fin:=Lib.hid (hR.out V5 (F0.bel n5));clear n n5 hR e2;go_wp2_with (refine wpList_store_row (by rfl) 26 _ _ (by rfl) V1.heap.size #[.int .i64 0,.int .i64 0] (by rfl) (by rfl) 26 _ hG (by kernel_rfl) rfl (by simp [Value.oneCell']) ?_;refine cast_w18 e5 ?_;go_simp)
   first|refine bodyPost_ret ?_ rfl fin.out|refine bodyPost_end ?_ rfl fin.out
   simp [results,Tryz.results170,go_sem,w0_,w1_]
end Res
end Go.Proofs.YtabhkakomececaaGreat
