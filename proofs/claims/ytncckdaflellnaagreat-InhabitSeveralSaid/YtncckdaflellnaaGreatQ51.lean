import Derived.Test.YtncckdaflellnaaGreatQ44
set_option linter.all false
set_option maxRecDepth 100000
set_option maxHeartbeats 4000000
namespace Go.Proofs.YtncckdaflellnaaGreat.Inh
open Go.RowKit Go.Lib Res Nam Kin
theorem cut19_calls(n:Int)(w:World)(R:Ending→World→Prop)(hR:Hid (R (.returned (.int .i64 (min n 2))) w)):Calls Tryz.prog 129 #[.int .i64 n] w R:=by
 by_cases h:2<n
 ·have h2:decide (2<n)=true:=by simpa using h
  rw [show min n 2=2 by omega]at hR;go_enter Tryz.func129,Tryz.ntmps129
  go_wp2_with fail
  exact hR.out
 ·have h2:decide (2<n)=false:=by simpa using h
  rw [show min n 2=n by omega]at hR;go_enter Tryz.func129,Tryz.ntmps129
  go_wp2_with fail
  exact hR.out
def mE(C:List Int)(e:EdR):Int:=if e.bare=true then 1 else atD C e.dst
def prC(C:List Int):List EdR→Int→Int
| [],p=>p
| e::r,p=>prC C r (min (p*mE C e) 2)
theorem prC_rec{C:List Int}:∀(es:List EdR)(p:Int),(∀e∈es,e.bare=false)→prC C es p=recC C es p
| [],_,_=>rfl
| e::r,p,h=>by
 show prC C r (min (p*mE C e) 2)=recC C r (min (p*atD C e.dst) 2);rw [prC_rec r _ fun x hx=>h x (List.mem_cons_of_mem _ hx)];unfold mE;rw [h e List.mem_cons_self,if_neg (by decide)]
theorem uni_cons(C:List Int)(e:EdR)(r:List EdR)(s:Int):uniC C (e::r) s=uniC C r (s+mE C e):=rfl
theorem mE_nn{C:List Int}(h:∀j,0≤atD C j)(e:EdR):0≤mE C e:=by
 unfold mE
 split
 ·decide
 ·exact h _
theorem uni_cut{C:List Int}(h:∀j,0≤atD C j):∀(es:List EdR)(t:Int),0≤t→uniC C es (min t 2)=uniC C es t
| [],t,_=>by
 show min (min t 2) 2=min t 2;omega
| e::r,t,h0=>by
 have m0:=mE_nn h e;rw [uni_cons,uni_cons,←uni_cut h r (min t 2+mE C e) (by omega),←uni_cut h r (t+mE C e) (by omega)]
 congr 1
 omega
def cntR(s p:Int)(y:NdR):Int :=
if y.kind=1 then 2 else if y.kind=2 then(if y.lo<y.hi then 2 else 1)else if y.kind=3 then min (1+y.most) 2 else if y.kind=4 then min (y.names.length:Int) 2 else
if y.kind=5 then(if y.most=0 then 1 else min (1+s) 2)else if y.kind=6 then min (1+s) 2 else if y.kind=7 then p else s
theorem cntR_eq{C:List Int}(h:∀j,0≤atD C j){y:NdR}(g:GoodY y):cntR (uniC C y.edges 0) (prC C y.edges 1) y=cntN C y:=by
 have kb:=g.kb
 have one:y.kind=5∨y.kind=6→uniC C y.edges 0=min (atD C (fstD y)) 2:=fun q=>by
  obtain⟨e,he,hb⟩:=g.e56 q;unfold fstD;rw [he,uni_cons];show min (0+mE C e) 2=min (atD C e.dst) 2;unfold mE;rw [hb,if_neg (by decide),Int.zero_add]
 unfold cntR cntN oneC;rcases(by omega:y.kind=1∨y.kind=2∨y.kind=3∨y.kind=4∨y.kind=5∨y.kind=6∨y.kind=7∨y.kind=8)with k|k|k|k|k|k|k|k
 ·simp [k]
 ·simp [k]
 ·have:=g.m3 (.inl k)
  simp only[k,Int.reduceEq,reduceIte]
  split<;>omega
 ·simp [k]
 ·have m:=g.m3 (.inr k)
  have o:=one (.inl k);have hn:=h (fstD y);rw [o];simp only[k,Int.reduceEq,reduceIte]
  split<;>split<;>omega
 ·have o:=one (.inr k)
  have hn:=h (fstD y);rw [o];simp only[k,Int.reduceEq,reduceIte]
  split<;>omega
 ·rw [prC_rec _ _ (g.e7 k)]
  simp [k]
 ·simp [k]
theorem mul_bd19{a d:Int}(a0:0≤a)(a1:a≤2)(d0:0≤d)(d1:d≤2):0≤a*d∧a*d≤4 :=
⟨Int.mul_nonneg a0 d0,by have:=Int.mul_le_mul a1 d1 d0 (by decide);omega⟩
theorem count19_calls(y:NdR)(gy:GoodY y)(C:List Int)(hC:∀j,0≤atD C j∧atD C j≤2)(hin:∀e∈y.edges,e.bare=false→0≤e.dst∧e.dst<(C.length:Int))(nv ev kv:Value)(w:World)(rS:RdS w nv y.names)(rE:RdEd w ev y.edges)(rK:RdAt w kv 1 (ints C))(R:Ending→World→Prop)
  (hR:Hid (∀W,Below w.heap.size w W→R (.returned (.int .i64 (cntN C y))) W)):Calls Tryz.prog 78 #[.agg #[.int .i64 y.kind,.int .i64 y.at_,.int .i64 y.lo,.int .i64 y.hi,.int .i64 y.most,nv,ev],kv] w R:=by
 obtain⟨A5,c5,rfl,-⟩:=rS.open;obtain⟨A6,c6,rfl,-,hel⟩:=ed_el18 rE;obtain⟨Ak,ck,rfl,-,hkc⟩:=ints_open rK;rw [←cntR_eq (fun j=>(hC j).1) gy]at hR;have hle:=gy.le;have hln:=gy.ln;have hkb:=gy.kb;have hm3:=gy.m3;have m0:=fun e:EdR=>mE_nn (fun j=>(hC j).1) e
 have m1:∀e:EdR,mE C e≤2:=fun e=>by
  unfold mE
  split
  ·decide
  ·exact(hC _).2
 have hcut:=Lib.hid (uni_cut (C:=C) fun j=>(hC j).1);clear rS rE rK gy;obtain⟨k0,k1,k2,k3,k4,yn,es⟩:=y;simp only at *;have n:=F0.z w;obtain⟨V,e1,n,z1⟩:=n.new (.cells #[.int .i64 k0,.int .i64 k1,.int .i64 k2,.int .i64 k3,.int .i64 k4,.slice A5 yn.length c5,.slice A6 es.length c6] 70);have bw:=F0.bel n;have nh:=Lib.hid n;have x6_:=Lib.hid (n.c 0 6 rfl rfl);have lb:=n.lt 0 rfl;replace hel:=Lib.hid hel;replace hkc:=Lib.hid hkc;replace hin:=Lib.hid hin;replace m0:=Lib.hid m0;replace m1:=Lib.hid m1;replace hC:=Lib.hid hC;replace hm3:=Lib.hid hm3;clear z1 n;go_enter Tryz.func78,Tryz.ntmps78
 go_upto_region 1 with fail
 clear e1;go_wp2_with fail
 go_loopg [5,6,7] es.length (fun g a b i wr=>∃(k:Nat) (s p:Int),a=.int .i64 s∧b=.int .i64 p∧i=.int .i64 k∧k+g=es.length∧(0≤s∧s≤2)∧(0≤p∧p≤2)∧Hid (uniC C es 0=uniC C (es.drop k) s)∧Hid (prC C es 1=prC C (es.drop k) p)∧Hid (Below V.heap.size V wr))
 case atStart=>exact⟨0,0,1,rfl,rfl,rfl,by omega,by omega,by omega,Lib.hid rfl,Lib.hid rfl,Lib.hid (Below.refl _ _)⟩
 case round =>
  obtain⟨k,s,p,rfl,rfl,rfl,e1,hs,hp,ea,eb,m⟩:=hrel;replace m:=m.out;have x6:=(m.cell (p:=⟨w.heap.size,6,none⟩) lb).trans x6_.out
  by_cases hk:k<es.length
  ·obtain⟨g,o,rfl,hg,hrg⟩:=hel.out k hk
   have hin1:=hin.out _ (List.getElem_mem hk);have m2:=bw.trans (m.mono bw.size);have y1:=(m2.cell (p:=⟨g,o+k*10+1,none⟩) hg).trans (hrg 1 _ rfl);have y3:=(m2.cell (p:=⟨g,o+k*10+3,none⟩) hg).trans (hrg 3 _ rfl);have i0:(0:Int)≤(k:Int):=by omega
   have i1:(k:Int)<(es.length:Int):=by omega
   have ea':=ea.out;have eb':=eb.out;rw [List.drop_eq_getElem_cons hk,uni_cons]at ea';rw [List.drop_eq_getElem_cons hk]at eb';replace eb':prC C es 1=prC C (es.drop (k+1)) (min (p*mE C es[k]) 2):=eb';have hM0:=m0.out es[k];have hM1:=m1.out es[k];obtain⟨M,hM⟩:∃b,b=mE C es[k]:=⟨_,rfl⟩;rw [←hM]at ea' eb' hM0 hM1;rw [←hcut.out (es.drop (k+1)) (s+M) (by omega)]at ea';have hI2:M=if es[k].bare=true then 1 else atD C es[k].dst:=hM;clear hrg hM ea eb;generalize es[k]=e at *;obtain⟨f0,f1,f2,f3,f4,f5,f6,f7,f8,f9⟩:=e;simp only at hin1 y1 y3 hI2;replace ea':=Lib.hid ea';replace eb':=Lib.hid eb';replace hI2:=Lib.hid hI2;replace m:=Lib.hid m;go_upto_region 6 with fail
   go_upto_if 22 with fail
   go_cut [8]from 16 to 31 (fun s8 wx=>s8=.int .i64 M∧wr=wx)
   case first =>
    cases f1 with
    | true =>
     have h:=hI2.out;rw [if_pos rfl]at h;subst h;go_wp2_with fail
     go_meet;exact⟨rfl,rfl⟩
    | false =>
     have h:=hI2.out;rw [if_neg (by decide)]at h;obtain⟨j0,j1⟩:=hin1 rfl;obtain⟨J,rfl⟩:∃J:Nat,f3=(J:Int):=⟨f3.toNat,by omega⟩;obtain⟨gk_,ok_,rfl,hgk,hcc⟩:=hkc.out (by omega);have hc:=hcc J (by omega);rw [←h]at hc;have cJ:=(m2.cell (p:=⟨gk_,ok_+J,none⟩) hgk).trans hc;clear h hc hcc hin1;go_wp2_with fail
     go_meet;exact⟨rfl,rfl⟩
   case rest =>
    obtain⟨rfl,rfl⟩:=hcut;clear x6 y1 y3 hin1 m2;have mb:=mul_bd19 hp.1 hp.2 hM0 hM1;obtain⟨q,hq⟩:∃q,p*M=q:=⟨_,rfl⟩;rw [hq]at mb eb';obtain⟨S2,hS2⟩:∃z,z=min (s+M) 2:=⟨_,rfl⟩;obtain⟨P2,hP2⟩:∃z,z=min q 2:=⟨_,rfl⟩;have b1:0≤S2∧S2≤2:=by omega
    have b2:0≤P2∧P2≤2:=by omega
    have cS:=Lib.hid fun R hR=>cut19_calls (s+M) wr R hR
    have cP:=Lib.hid fun R hR=>cut19_calls q wr R hR
    rw [←hS2]at ea' cS;rw [←hP2]at eb' cP;clear hS2 hP2;go_wp2_with fail
    refine cS.out _ (Lib.hid ?_);go_wp2_with fail
    refine cP.out _ (Lib.hid ?_);clear cS cP hq;go_wp2_with fail
    go_roundg (gk-1)
    case measure=>omega
    case rel=>exact⟨k+1,S2,P2,rfl,rfl,by go_num,by omega,b1,b2,ea',eb',m⟩
  ·obtain rfl:k=es.length:=by omega
   have ea':=ea.out;have eb':=eb.out;rw [List.drop_length]at ea' eb';replace ea':uniC C es 0=s:=ea'.trans (by show min s 2=s;omega)
   replace eb':prC C es 1=p:=eb';have nw:=nh.out.bl m;have x0:=nw.c 0 0 rfl rfl;have x2:=nw.c 0 2 rfl rfl;have x3:=nw.c 0 3 rfl rfl;have x4:=nw.c 0 4 rfl rfl;have x5:=nw.c 0 5 rfl rfl;have fin:=hR.out wr (bw.trans (m.mono bw.size));rw [ea',eb']at fin;replace m:=Lib.hid m;unfold cntR at fin;simp only at fin;clear ea eb ea' eb' hR nw nh hcut;rcases(by omega:k0=1∨k0=2∨k0=3∨k0=4∨k0=5∨k0=6∨k0=7∨k0=8)with rfl|rfl|rfl|rfl|rfl|rfl|rfl|rfl
   ·rw [if_pos rfl]at fin
    replace fin:=Lib.hid fin;go_wp2_with fail
    exact fin.out
   ·rw [if_neg (by decide),if_pos rfl]at fin
    by_cases q:k2<k3
    ·have tq:decide (k2<k3)=true:=by simpa using q
     rw [if_pos q]at fin;replace fin:=Lib.hid fin;clear q;go_wp2_with fail
     exact fin.out
    ·have tq:decide (k2<k3)=false:=by simpa using q
     rw [if_neg q]at fin;replace fin:=Lib.hid fin;clear q;go_wp2_with fail
     exact fin.out
   ·rw [if_neg (by decide),if_neg (by decide),if_pos rfl]at fin
    have m3:=hm3.out (.inl rfl);replace fin:=Lib.hid fin;go_wp2_with fail
    refine cut19_calls _ wr _ (Lib.hid ?_);go_wp2_with fail
    exact fin.out
   ·rw [if_neg (by decide),if_neg (by decide),if_neg (by decide),if_pos rfl]at fin
    replace fin:=Lib.hid fin;go_wp2_with fail
    refine cut19_calls _ wr _ (Lib.hid ?_);go_wp2_with fail
    exact fin.out
   ·rw [if_neg (by decide),if_neg (by decide),if_neg (by decide),if_neg (by decide),if_pos rfl]at fin
    by_cases q:k4=0
    ·have tq:(k4==0)=true:=by simpa using q
     rw [if_pos q]at fin;replace fin:=Lib.hid fin;clear q;go_wp2_with fail
     exact fin.out
    ·have tq:(k4==0)=false:=by simpa using q
     rw [if_neg q]at fin;replace fin:=Lib.hid fin;clear q;go_wp2_with fail
     refine cut19_calls _ wr _ (Lib.hid ?_);go_wp2_with fail
     exact fin.out
   ·rw [if_neg (by decide),if_neg (by decide),if_neg (by decide),if_neg (by decide),if_neg (by decide),if_pos rfl]at fin
    replace fin:=Lib.hid fin;go_wp2_with fail
    refine cut19_calls _ wr _ (Lib.hid ?_);go_wp2_with fail
    exact fin.out
   ·rw [if_neg (by decide),if_neg (by decide),if_neg (by decide),if_neg (by decide),if_neg (by decide),if_neg (by decide),if_pos rfl]at fin
    replace fin:=Lib.hid fin;go_wp2_with fail
    exact fin.out
   ·rw [if_neg (by decide),if_neg (by decide),if_neg (by decide),if_neg (by decide),if_neg (by decide),if_neg (by decide),if_neg (by decide)]at fin
    replace fin:=Lib.hid fin;go_wp2_with fail
    exact fin.out
theorem itK_step{ns:List NdR}{D:List Int}(h:D.length=ns.length)(m J:Nat)(hJ:J<ns.length):(itK ns D (m+1))[J]?=some (if atD D (J:Int)=0 then 0 else cntN (itK ns D m) ns[J]):=by
 show(List.zipWith (fun y a=>if a=0 then 0 else cntN (itK ns D m) y) ns D)[J]?=_;have hD:J<D.length:=by omega
 have e:atD D (J:Int)=D[J]:=by
  unfold atD;rw [Int.toNat_natCast,List.getD_eq_getElem?_getD,List.getElem?_eq_getElem hD];rfl
 rw [List.getElem?_zipWith,List.getElem?_eq_getElem hJ,List.getElem?_eq_getElem hD,e]
theorem itK_nil{ns:List NdR}{D:List Int}(J:Nat)(hJ:J<D.length):(itK ns D 0)[J]?=some (if atD D (J:Int)=0 then 0 else 1):=by
 have e:atD D (J:Int)=D[J]:=by
  unfold atD;rw [Int.toNat_natCast,List.getD_eq_getElem?_getD,List.getElem?_eq_getElem hJ];rfl
 show(D.map fun a=>if a=0 then(0:Int)else 1)[J]?=_;rw [List.getElem?_map,List.getElem?_eq_getElem hJ,e];rfl
theorem refmany19_calls(ns:List NdR)(g:GoodL ns)(hin:NdIn ns.length ns)(hlen:ns.length≤40000)(hb:∀m j,0≤atD (itK ns (itr depN ns ns.length) m) j∧atD (itK ns (itr depN ns ns.length) m) j≤2)(lv lq nsv:Value)(rt:Int)(hlv:lv.oneCell'=true)(hlq:lq.oneCell'=true)(w:World)(rn:RdNo w nsv ns)(R:Ending→World→Prop)
  (hR:Hid (∀W v',RdAt W v' 1 (ints (itK ns (itr depN ns ns.length) (ns.length+1)))→Below w.heap.size w W→R (.returned v') W)):Calls Tryz.prog 34 #[.agg #[lv,lq,nsv,.int .i64 rt]] w R:=by
 have rn0:=rn;obtain⟨An,cn,rfl,-,hel⟩:=rn.el;obtain⟨len,hl⟩:∃len,ns.length=len:=⟨_,rfl⟩;have hgl:=Lib.hid g;have hg0:=Lib.hid hlen;rw [hl]at hlen;obtain⟨D,hD⟩:∃D,D=itr depN ns ns.length:=⟨_,rfl⟩;rw [←hD]at hb hR;have hDl:D.length=ns.length:=by rw [hD,itr_len]
 have hDn:∀j,0≤atD D j:=fun j=>by rw [hD];exact dep_nn _ _ j
 obtain⟨MI,hMI,hmi⟩:=mk_int len (by omega);have n:=F0.z w;obtain⟨V,e1,n,z1⟩:=n.new (.cells #[lv,lq,.slice An ns.length cn,.int .i64 rt] 45);have rW:=n.rg 0 rfl;have cD:=Lib.hid fun R hR=>refdepths19_calls ns g hin hg0.out lv lq (.slice An ns.length cn) rt hlv hlq V (rn0.below (F0.bel n)) R hR
 rw [←hD]at cD;replace hel:=Lib.hid hel;replace hin:=Lib.hid hin;replace hl:=Lib.hid hl;replace hb:=Lib.hid hb;replace hDn:=Lib.hid hDn;replace hDl:=Lib.hid hDl;clear z1 rn g hD rn0;go_enter Tryz.func34,Tryz.ntmps34
 go_upto_region 1 with fail
 clear e1;go_wp2_with (refine wpList_load_g (by rfl) 45 _ rfl w.heap.size 0 rfl _ _ rW Tryz.underlying45 rfl (by kernel_rfl) ?_;go_simp)
 refine cD.out _ (Lib.hid fun W2 dv rD m2=>?_);clear cD rW;replace n:=n.bl m2;obtain⟨Ad,cd,rfl,-,hDc⟩:=ints_open rD;rw [hDl.out,hl.out]at hDc ⊢
 have hDc2:Hid (∀J:Nat,J<len→∃g o,Ad=some ⟨g,o,none⟩∧g<W2.heap.size∧W2.cell? ⟨g,o+J,none⟩=some (.int .i64 (atD D (J:Int)))):=Lib.hid fun J hJ=>by
  obtain⟨g,o,e,hg,hc⟩:=hDc (by omega);exact⟨g,o,e,hg,hc J hJ⟩
 have x2:=n.c 0 2 rfl rfl;rw [hl.out]at x2 n;have n2:Hq F0 () () W2 W2 []:=F0.z W2;obtain⟨V2,e2,n,z2⟩:=n.new (.cells MI 3);obtain⟨V2',e2',n2,-⟩:=n2.new (.cells MI 3);obtain rfl:V2=V2':=e2.symm.trans e2';have hmi1:=hmi W2;rw [e2]at hmi1;replace hmi:=Lib.hid hmi;have m22:=Lib.hid (F0.bel n2);replace n:=Lib.hid n;have hMI2:=Lib.hid hMI;clear hDc rD e2' z2 n2 m2 hMI;go_upto_region 3 with fail
 clear e2 hmi1 x2;obtain rfl:=hMI2.out;clear hMI2;have zl:=Lib.hid (show(List.replicate len (0:Int)).length=len from List.length_replicate);have kl:=Lib.hid (fun m=>(itK_len hDl.out m).trans hl.out);go_wp2_with fail
 go_loopg [5] len (fun gz i wr=>∃(K:Nat),i=.int .i64 K∧K+gz=len∧Hid (Below W2.heap.size W2 wr)∧Hid (Hq F0 () () w wr [(W2.heap.size,.cells (ints (mixL (itK ns D 0) (List.replicate len 0) K)).toArray 3),(w.heap.size,.cells #[lv,lq,.slice An len cn,.int .i64 rt] 45)]))
 case atStart=>exact⟨0,rfl,by omega,m22,n⟩
 case round =>
  clear n;obtain⟨K,rfl,e1,mW,n⟩:=hrel;replace n:=n.out;replace mW:=mW.out
  by_cases hK:K<len
  ·obtain⟨gd,od,rfl,hgd,hcd⟩:=hDc2.out K hK
   have c1:=(mW.cell (p:=⟨gd,od+K,none⟩) hgd).trans hcd;have q0:=itK_nil (ns:=ns) (D:=D) K (by rw [hDl.out,hl.out];exact hK)
   have dn:=hDn.out (K:Int);have hKk:K<(itK ns D 0).length:=by rw [kl.out];exact hK
   have hkz:(itK ns D 0).length=(List.replicate len (0:Int)).length:=by rw [kl.out,zl.out]
   have hz0:(List.replicate len (0:Int))[K]?=some 0:=by rw [List.getElem?_replicate,if_pos hK]
   generalize atD D (K:Int)=a at *;have i0:(0:Int)≤(K:Int):=by omega
   have i1:(K:Int)<(len:Int):=by omega
   clear hcd
   by_cases a0:0<a
   ·have ta:decide (0<a)=true:=by simpa using a0
    rw [if_neg (by omega)]at q0;have c0:=ints_at (n.b 0 rfl) ((mixL_get hkz hKk).trans hz0);have f0:=n.f 0 K rfl;have mX:=Lib.hid ((mW.setCell (p:=⟨W2.heap.size,K,none⟩) (Nat.le_refl _) (.int .i64 1)));obtain⟨V8,e8,n,-⟩:=n.put (j:=0) rfl [(K,.int .i64 1)];simp only[stL]at e8;simp only[stA,List.set_cons_zero,ints_setB,mixL_set hkz hKk q0]at n;rw [e8]at mX;replace n:=Lib.hid n;clear q0 hkz hz0 a0 mW;go_wp2_with fail
    go_roundg (gk-1)
    case measure=>omega
    case rel=>exact⟨K+1,by go_num,by omega,mX,n⟩
   ·have ta:decide (0<a)=false:=by simpa using a0
    rw [if_pos (by omega)]at q0;rw [mixL_keep hkz hKk (q0.trans hz0.symm)]at n;replace n:=Lib.hid n;replace mW:=Lib.hid mW;clear q0 hkz hz0 a0;go_wp2_with fail
    go_roundg (gk-1)
    case measure=>omega
    case rel=>exact⟨K+1,by go_num,by omega,mW,n⟩
  ·obtain rfl:K=len:=by omega
   have k1:=mixL_all (A:=itK ns D 0) (B:=List.replicate K (0:Int)) (by rw [kl.out,zl.out]);rw [kl.out]at k1;rw [k1]at n;replace n:=Lib.hid n;replace mW:=Lib.hid mW;have l3:W2.heap.size<W2.heap.size+1:=Nat.lt_succ_self _;clear k1 hK e1;go_wp2_with fail
   go_loopg [4,6] (K+1) (fun gz kv dv wr=>∃(d bk:Nat),kv=.slice (some ⟨bk,0,none⟩) K K∧dv=.int .i64 (d:Int)∧d+gz=K+1∧Hid (Below W2.heap.size W2 wr)∧Hid (Hq F0 () () w wr [(bk,.cells (ints (itK ns D d)).toArray 3),(w.heap.size,.cells #[lv,lq,.slice An K cn,.int .i64 rt] 45)]))
   case atStart=>exact⟨0,W2.heap.size,rfl,rfl,by omega,mW,n⟩
   case round =>
    clear n mW;obtain⟨gq,hgq⟩:∃z,z=gk:=⟨gk,rfl⟩;subst hgq;obtain⟨d,bk,rfl,rfl,e1,mW,n⟩:=hrel;replace n:=n.out;replace mW:=mW.out;obtain⟨WO,rfl⟩:∃V,V=wr:=⟨_,rfl⟩;have x2:=n.c 1 2 rfl rfl
    by_cases hd:d≤K
    ·have hd1:(d:Int)≤(K:Int):=by omega
     have sW:=mW.size;obtain⟨V4,e4,n,z4⟩:=n.new (.cells (ints (List.replicate K 0)).toArray 3);have mV:=Lib.hid (show Below W2.heap.size W2 V4 from e4▸mW.alloc sW _);have hmi2:=hmi.out WO;rw [e4]at hmi2;go_upto_region 12 with fail
     clear e4 z4 hmi2 x2 mW;replace n:=Lib.hid n;have hlk:(itK ns D (d+1)).length=(List.replicate K (0:Int)).length:=by rw [kl.out,zl.out]
     replace hlk:=Lib.hid hlk;go_wp2_with fail
     go_loopg [8] K (fun gy i wr=>∃(J:Nat),i=.int .i64 J∧J+gy=K∧Hid (Below W2.heap.size W2 wr)∧Hid (Hq F0 () () w wr [(WO.heap.size,.cells (ints (mixL (itK ns D (d+1)) (List.replicate K 0) J)).toArray 3),(bk,.cells (ints (itK ns D d)).toArray 3),(w.heap.size,.cells #[lv,lq,.slice An K cn,.int .i64 rt] 45)]))
     case atStart=>exact⟨0,rfl,by omega,mV,n⟩
     case round =>
      clear n mV;obtain⟨J,rfl,e3,mW,n⟩:=hrel;replace n:=n.out;replace mW:=mW.out;have x2:=n.c 2 2 rfl rfl
      by_cases hJ:J<K
      ·have hJ':J<ns.length:=by rw [hl.out];exact hJ
       obtain⟨gn,on,nv,ev,rfl,hgn,hrg,rS,rE⟩:=hel.out J hJ';obtain⟨gd,od,rfl,hgd,hcd⟩:=hDc2.out J hJ;have q0:=itK_step hDl.out d J hJ';have gy:=hgl.out _ (List.getElem_mem hJ');have hye:=in_edges hin.out (List.getElem_mem hJ');have bw:=F0.bel n;obtain⟨A5,c5,rfl,-⟩:=rS.open;obtain⟨A6,c6,rfl,-,-⟩:=ed_el18 rE;have rg:wr.rangeAt gn (on+J*7) (nyL ns[J] (.slice A5 ns[J].names.length c5) (.slice A6 ns[J].edges.length c6)):=fun j u hj=>(bw.cell (p:=⟨gn,on+J*7+j,none⟩) hgn).trans (hrg j u hj)
       have rk:=rd_ints (n.b 1 rfl);have hkl:=kl.out d;rw [hkl]at rk;have cO:=Lib.hid fun R hR=>count19_calls (ns[J]'hJ') gy (itK ns D d) (hb.out d) (by rw [hkl];exact fun e he hq=>by have:=hye e he hq;rw [hl.out]at this;exact this) _ _ _ wr (rS.below bw) (rE.below bw) rk R hR
       have i0:(0:Int)≤(J:Int):=by omega
       have i1:(J:Int)<(K:Int):=by omega
       have hz0:(List.replicate K (0:Int))[J]?=some 0:=by rw [List.getElem?_replicate,if_pos hJ]
       have hJk:J<(itK ns D (d+1)).length:=by rw [kl.out];exact hJ
       generalize cntN (itK ns D d) ns[J]=c at *;replace q0:=Lib.hid q0;clear hrg rS rE gy hye rk hkl;generalize ns[J]=y at *;go_wp2_with (refine wpList_load_g (by rfl) 70 _ rfl gn (on+J*7) rfl _ _ rg Tryz.underlying70 rfl (by kernel_rfl) ?_;go_simp)
       refine cO.out _ (Lib.hid fun W6 m6=>?_);clear cO rg bw x2;replace n:=n.bl m6;have mW6:=mW.trans (m6.mono mW.size);have c0:=ints_at (n.b 0 rfl) ((mixL_get hlk.out hJk).trans hz0);have f0:=n.f 0 J rfl;have sO:W2.heap.size≤WO.heap.size:=sW;have mX:=mW6.setCell (p:=⟨WO.heap.size,J,none⟩) sO (.int .i64 c);obtain⟨V7,e7,n,-⟩:=n.put (j:=0) rfl [(J,.int .i64 c)];simp only[stL]at e7;simp only[stA,List.set_cons_zero,ints_setB]at n;rw [e7]at mX;have c1:=(mX.cell (p:=⟨gd,od+J,none⟩) hgd).trans hcd;clear m6 hcd mW mW6;generalize atD D (J:Int)=a at *
       by_cases a0:a=0
       ·have ta:(a==0)=true:=by simpa using a0
        have q1:=q0.out;rw [if_pos a0]at q1;have hlx:J<((mixL (itK ns D (d+1)) (List.replicate K 0) J).set J c).length:=by rw [List.length_set,mixL_len hlk.out (by omega)];exact hJk
        go_upto_region 16 with fail
        clear e7 c0 f0;have c2:=ints_at (n.b 0 rfl) (List.getElem?_set_self (by rw [List.length_set]at hlx;exact hlx):((mixL (itK ns D (d+1)) (List.replicate K 0) J).set J c)[J]?=some c)
        have f2:=n.f 0 J rfl;have mY:=Lib.hid (mX.setCell (p:=⟨WO.heap.size,J,none⟩) sO (.int .i64 0));obtain⟨V8,e8,n,-⟩:=n.put (j:=0) rfl [(J,.int .i64 0)];simp only[stL]at e8;simp only[stA,List.set_cons_zero,ints_setB,List.set_set,mixL_set hlk.out hJk q1]at n;rw [e8]at mY;replace n:=Lib.hid n;clear q0 q1 hz0 a0 mX hlx;go_wp2_with fail
        go_roundg (gk-1)
        case measure=>omega
        case rel=>exact⟨J+1,by go_num,by omega,mY,n⟩
       ·have ta:(a==0)=false:=by simpa using a0
        have q1:=q0.out;rw [if_neg a0]at q1;rw [mixL_set hlk.out hJk q1]at n;replace n:=Lib.hid n;replace mX:=Lib.hid mX;go_upto_region 16 with fail
        clear e7 c0 f0;clear q0 q1 hz0 a0;go_wp2_with fail
        go_roundg (gk-1)
        case measure=>omega
        case rel=>exact⟨J+1,by go_num,by omega,mX,n⟩
      ·obtain rfl:J=K:=by omega
       have k1:=mixL_all hlk.out;rw [kl.out]at k1;rw [k1]at n;have n9:=Lib.hid (Hq.sl n (l':=[(WO.heap.size,.cells (ints (itK ns D (d+1))).toArray 3),(w.heap.size,.cells #[lv,lq,.slice An J cn,.int .i64 rt] 45)]) (.cons_cons _ (.cons _ (.cons_cons _ .slnil))));replace mW:=Lib.hid mW;clear n k1;go_wp2_with fail
       go_roundg (gq-1)
       case measure=>omega
       case rel=>exact⟨d+1,WO.heap.size,rfl,by go_num,by omega,mW,n9⟩
    ·obtain rfl:d=K+1:=by omega
     have hd1:¬((K+1:Nat):Int)≤(K:Int):=by omega
     have rD:=rd_ints (n.b 0 rfl);rw [kl.out]at rD;have hR2:=hR.out;rw [hl.out]at hR2;have fin:=Lib.hid (hR2 WO _ rD (F0.bel n));clear n hR hR2 rD;go_wp2_with fail
     exact fin.out
end Go.Proofs.YtncckdaflellnaaGreat.Inh
