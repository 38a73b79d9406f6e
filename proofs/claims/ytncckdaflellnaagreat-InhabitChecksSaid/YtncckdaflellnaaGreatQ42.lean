import Derived.Test.YtncckdaflellnaaGreatQ30
import Derived.Test.YtncckdaflellnaaGreatQ29
set_option linter.all false
set_option maxRecDepth 100000
set_option maxHeartbeats 4000000
namespace Go.Proofs.YtncckdaflellnaaGreat
namespace Inh
open Res
theorem cnt_room(ns:List NdR)(d:Nat):room (itr cntN ns (d+1))≤room (itr cntN ns d)∧(itr cntN ns d≠itr cntN ns (d+1)→room (itr cntN ns (d+1))<room (itr cntN ns d)) :=
room_lt _ _ (by rw [itr_len,itr_len]) fun i=>by
 have:=cnt_rel ns d (i:Int);rw [atD_get,atD_get]at this;exact this.2
def itK(ns:List NdR)(D:List Int):Nat→List Int
| 0=>D.map fun a=>if a=0 then 0 else 1
| m+1=>List.zipWith (fun y a=>if a=0 then 0 else cntN (itK ns D m) y) ns D
theorem itK_len{ns:List NdR}{D:List Int}(h:D.length=ns.length):∀m,(itK ns D m).length=ns.length
| 0=>(List.length_map _).trans h
| m+1=>by
 show(List.zipWith _ ns D).length=_;rw [List.length_zipWith,h,Nat.min_self]
theorem atD_K0(ns:List NdR)(D:List Int)(j:Int):atD (itK ns D 0) j=if atD D j=0 then 0 else 1:=by
 unfold atD;show(D.map _).getD _ _=_;rw [List.getD_eq_getElem?_getD,List.getElem?_map,List.getD_eq_getElem?_getD];cases D[j.toNat]? <;> rfl
theorem atD_K{ns:List NdR}{D:List Int}(h:D.length=ns.length)(m:Nat)(j:Int):(∃y,ns[j.toNat]?=some y∧atD (itK ns D (m+1)) j=if atD D j=0 then 0 else cntN (itK ns D m) y)∨(ns[j.toNat]?=none∧atD (itK ns D (m+1)) j=0∧atD D j=0):=by
 unfold atD;show(∃y,_∧(List.zipWith _ ns D).getD _ _=_)∨(_∧(List.zipWith _ ns D).getD _ _=_∧_);rw [List.getD_eq_getElem?_getD,List.getElem?_zipWith,List.getD_eq_getElem?_getD]
 by_cases q:j.toNat<ns.length
 ·rw [List.getElem?_eq_getElem q,List.getElem?_eq_getElem (by omega)]
  exact .inl ⟨_,rfl,rfl⟩
 ·rw [List.getElem?_eq_none (by omega),List.getElem?_eq_none (by omega)]
  exact .inr ⟨rfl,rfl,rfl⟩
section
variable {ns:List NdR} {D C:List Int}
structure Ends(ns:List NdR)(D C:List Int):Prop where
g:GoodL ns
ld:D.length=ns.length
lc:C.length=ns.length
dn:∀j,0≤atD D j
cn:∀j,0≤atD C j∧atD C j≤2
df:stp depN ns D=D
cf:stp cntN ns C=C
ps:∀j,posD D j=posD C j
theorem Ends.of{n k:Nat}(g:GoodL ns)(hd:stp depN ns (itr depN ns n)=itr depN ns n)(hc:stp cntN ns (itr cntN ns k)=itr cntN ns k):Ends ns (itr depN ns n) (itr cntN ns k) :=
⟨g,itr_len _ _ _,itr_len _ _ _,dep_nn ns n,fun j=>⟨cnt_nn ns k j,by have:=(cnt_rel ns k j).2;exact Int.le_trans this.1 this.2⟩,hd,hc,fun j=>by
 have:=same_pos g (n+k) j;rw [itr_fix hd,Nat.add_comm,itr_fix hc]at this;exact this⟩
theorem Ends.one(e:Ends ns D C){j:Int}{y:NdR}(h:ns[j.toNat]?=some y):(atD D j≠0↔onB (posD D) y=true):=by
 have:atD D j=depN D y:=by
  rcases atD_stp depN ns D j with⟨y2,h1,h2⟩|⟨h1,h2⟩
  ·rw [h,Option.some.injEq]at h1
   subst h1;rw [e.df]at h2;exact h2
  ·rw [h]at h1;cases h1
 rw [this];exact dep_on e.dn (e.g y (List.mem_of_getElem? h))
theorem Ends.cnt(e:Ends ns D C){j:Int}{y:NdR}(h:ns[j.toNat]?=some y):atD C j=cntN C y:=by
 rcases atD_stp cntN ns C j with⟨y2,h1,h2⟩|⟨h1,h2⟩
 ·rw [h,Option.some.injEq]at h1
  subst h1;rw [e.cf]at h2;exact h2
 ·rw [h]at h1;cases h1
theorem Ends.K(e:Ends ns D C):∀(m:Nat)(j:Int),0≤atD (itK ns D m) j∧atD (itK ns D m) j≤atD C j∧posD (itK ns D m) j=posD D j
| 0,j=>by
 rw [atD_K0];have h:=e.ps j;unfold posD at *;rw [atD_K0]
 by_cases q:atD D j=0
 ·rw [if_pos q]
  exact⟨Int.le_refl _,(e.cn j).1,by simp [q]⟩
 ·rw [if_neg q]
  have q2:atD C j≠0:=by simpa [q]using h
  have:=(e.cn j).1;exact⟨by decide,by omega,by simp [q]⟩
| m+1,j=>by
 have ih:=e.K m;unfold posD;rcases atD_K e.ld m j with⟨y,h0,h1⟩|⟨h0,h1,h2⟩
 ·rw [h1]
  by_cases q:atD D j=0
  ·rw [if_pos q]
   exact⟨Int.le_refl _,(e.cn j).1,by simp [q]⟩
  ·rw [if_neg q]
   have mo:=cnt_mono (fun i=>⟨(ih i).1,(ih i).2.1,(e.cn i).2⟩:LeD (itK ns D m) C) y;have on:=(cnt_on (fun i=>(ih i).1) (e.g y (List.mem_of_getElem? h0))).2 (by rw [onB_congr (fun i=>(ih i).2.2)];exact(e.one h0).1 q)
   rw [e.cnt h0];exact⟨mo.1,mo.2.1,by simp [q,on]⟩
 ·rw [h1,h2]
  exact⟨Int.le_refl _,(e.cn j).1,rfl⟩
theorem Ends.K_mono(e:Ends ns D C):∀(m:Nat)(j:Int),atD (itK ns D m) j≤atD (itK ns D (m+1)) j
| 0,j=>by
 have h1:=e.K 1 j;rw [atD_K0]
 by_cases q:atD D j=0
 ·rw [if_pos q]
  exact h1.1
 ·rw [if_neg q]
  have h2:=h1.2.2;unfold posD at h2;have:atD (itK ns D 1) j≠0:=by simpa [q]using h2
  show 1≤atD (itK ns D 1) j;omega
| m+1,j=>by
 rcases atD_K e.ld m j with⟨y,h0,h1⟩|⟨h0,h1,h2⟩
 ·rcases atD_K e.ld (m+1) j with⟨y2,g0,g1⟩|⟨g0,g1,-⟩
  ·rw [h0,Option.some.injEq]at g0
   subst g0;rw [h1,g1]
   split
   ·exact Int.le_refl _
   ·exact(cnt_mono (fun i=>⟨(e.K m i).1,e.K_mono m i,Int.le_trans (e.K (m+1) i).2.1 (e.cn i).2⟩:LeD (itK ns D m) (itK ns D (m+1))) y).2.1
  ·rw [h0]at g0;cases g0
 ·rw [h1]
  exact(e.K (m+2) j).1
def uns:List Int→Nat
| []=>0
| a::l=>(if a=1 then 1 else 0)+uns l
theorem uns_le:∀l:List Int,uns l≤l.length
| []=>Nat.le_refl _
| a::l=>by
 have:=uns_le l;show(if a=1 then 1 else 0)+uns l≤l.length+1
 split<;>omega
theorem uns_lt:∀(A B:List Int),A.length=B.length→(∀i:Nat,A.getD i 0≤B.getD i 0∧B.getD i 0≤2∧0≤A.getD i 0∧(A.getD i 0=0→B.getD i 0=0))→uns B≤uns A∧(A≠B→uns B<uns A)
| [],[],_,_=>⟨Nat.le_refl _,fun h=>absurd rfl h⟩
| [],_::_,h,_=>by cases h
| _::_,[],h,_=>by cases h
| a::A,b::B,hl,h=>by
 have ih:=uns_lt A B (by simpa using hl) fun i=>h (i+1)
 have h0:a≤b∧b≤2∧0≤a∧(a=0→b=0):=h 0;show(if b=1 then 1 else 0)+uns B≤(if a=1 then 1 else 0)+uns A∧(_→(if b=1 then 1 else 0)+uns B<(if a=1 then 1 else 0)+uns A)
 by_cases e:a=b
 ·subst e
  exact⟨by omega,fun q=>by have:=ih.2 (fun c=>q (by rw [c]));omega⟩
 ·have:a=1∧b=2:=by omega
  rw [this.1,this.2];exact⟨by simp;omega,fun _=>by simp;omega⟩
theorem Ends.K_uns(e:Ends ns D C)(m:Nat):uns (itK ns D (m+1))≤uns (itK ns D m)∧(itK ns D m≠itK ns D (m+1)→uns (itK ns D (m+1))<uns (itK ns D m)) :=
uns_lt _ _ (by rw [itK_len e.ld,itK_len e.ld]) fun i=>by
 have h1:=e.K_mono m (i:Int);have h2:=e.K m (i:Int);have h3:=e.K (m+1) (i:Int);have h4:=(e.cn (i:Int)).2;have h5:=h2.2.2.trans h3.2.2.symm;unfold posD at h5;rw [decide_eq_decide]at h5;rw [←atD_get,←atD_get];exact⟨h1,by omega,h2.1,fun q=>Classical.byContradiction fun c=>(h5.2 c) q⟩
theorem Ends.K_settle(e:Ends ns D C):∀m:Nat,itK ns D (m+1)=itK ns D m∨uns (itK ns D m)+m≤ns.length
| 0=>.inr (by have:=uns_le (itK ns D 0);rw [itK_len e.ld]at this;omega)
| m+1=>by
 by_cases q:itK ns D m=itK ns D (m+1)
 ·exact .inl (by
   show List.zipWith (fun y a=>if a=0 then 0 else cntN (itK ns D (m+1)) y) ns D=_;rw [←q];exact q.symm)
 ·rcases e.K_settle m with h|h
  ·exact absurd h.symm q
  ·have:=(e.K_uns m).2 q
   exact .inr (by omega)
theorem list_ext:∀(A B:List Int),A.length=B.length→(∀i:Nat,A.getD i 0=B.getD i 0)→A=B
| [],[],_,_=>rfl
| [],_::_,h,_=>by cases h
| _::_,[],h,_=>by cases h
| a::A,b::B,hl,h=>by
 have h0:a=b:=h 0;rw [h0,list_ext A B (by simpa using hl) fun i=>h (i+1)]
theorem Ends.K_fix(e:Ends ns D C):itK ns D (ns.length+1+1)=itK ns D (ns.length+1):=by
 rcases e.K_settle (ns.length+1)with h|h
 ·exact h
 ·omega
theorem Ends.K_end(e:Ends ns D C){k:Nat}(hk:C=itr cntN ns k):itK ns D (ns.length+1)=C:=by
 have fx:=e.K_fix
 have up:∀(d:Nat) (j:Int),atD (itr cntN ns d) j≤atD (itK ns D (ns.length+1)) j:=by
  intro d
  induction d with
  | zero=>intro j;rw [atD_zero];exact(e.K _ j).1
  | succ d ih =>
   intro j;rcases atD_stp cntN ns (itr cntN ns d) j with⟨y,h0,h1⟩|⟨h0,h1⟩
   ·rw [show atD (itr cntN ns (d+1)) j=_ from h1]
    have mo:=(cnt_mono (fun i=>⟨cnt_nn ns d i,ih i,Int.le_trans (e.K (ns.length+1) i).2.1 (e.cn i).2⟩:LeD (itr cntN ns d) (itK ns D (ns.length+1))) y).2.1;rcases atD_K e.ld (ns.length+1) j with⟨y2,g0,g1⟩|⟨g0,-⟩
    ·rw [h0,Option.some.injEq]at g0
     subst g0;rw [fx]at g1;rw [g1]
     by_cases q:atD D j=0
     ·rw [if_pos q]
      have off:¬cntN (itK ns D (ns.length+1)) y≠0:=fun c=>by
       rw [cnt_on (fun i=>(e.K _ i).1) (e.g y (List.mem_of_getElem? h0)),onB_congr (fun i=>(e.K _ i).2.2)]at c;exact(e.one h0).2 c q
      omega
     ·rw [if_neg q]
      exact mo
    ·rw [h0]at g0;cases g0
   ·rw [show atD (itr cntN ns (d+1)) j=_ from h1]
    exact(e.K _ j).1
 refine list_ext _ _ (by rw [itK_len e.ld,e.lc]) fun i=>?_
 rw [←atD_get,←atD_get];have a:=(e.K (ns.length+1) (i:Int)).2.1;have b:=up k (i:Int);rw [←hk]at b;omega
end
end Inh
namespace Inh
open Go.RowKit Go.Lib Res
theorem ints_open{w:World}{v:Value}{D:List Int}(h:RdAt w v 1 (ints D)):∃(A:Option Addr)(c:Nat),v=.slice A D.length c∧D.length≤c∧(0<D.length→∃g o,A=some ⟨g,o,none⟩∧g<w.heap.size∧∀J:Nat,J<D.length→w.cell? ⟨g,o+J,none⟩=some (.int .i64 (atD D J))):=by
 obtain⟨A,n,c,rfl,hl,hn,hr⟩:=h;obtain rfl:n=D.length:=by simpa [ints]using hl.symm
 refine⟨A,c,rfl,hn,fun h0=>?_⟩;obtain⟨g,o,rfl,hg,hc⟩:=hr (by simpa [ints]using h0);refine⟨g,o,rfl,hg,fun J hJ=>hc J _ ?_⟩;simp only[ints,List.getElem?_map,List.getElem?_eq_getElem hJ,Option.map_some,Option.some.injEq,Value.int.injEq,true_and];unfold atD;rw [Int.toNat_natCast,List.getD_eq_getElem?_getD,List.getElem?_eq_getElem hJ];rfl
def InD(D:List Int)(es:List EdR):Prop:=∀e∈es,0≤e.dst∧e.dst<(D.length:Int)
def InU(D:List Int)(es:List EdR):Prop:=∀e∈es,e.bare=false→0≤e.dst∧e.dst<(D.length:Int)
def BdD(D:List Int):Prop:=∀j,0≤atD D j∧atD D j≤1000000
theorem ed_el{w:World}{v:Value}{l:List EdR}(h:RdEd w v l):∃(A:Option Addr)(c:Nat),v=.slice A l.length c∧l.length≤c∧∀K (hK:K<l.length),∃g o,A=some ⟨g,o,none⟩∧g<w.heap.size∧∀W,Below w.heap.size w W→W.rangeAt g (o+K*10) (encE l[K]):=by
 obtain⟨A,c,rfl,hc,hr⟩:=RdG.open encE_len (by decide) (show RdG encE 10 w v l from h);refine⟨A,c,rfl,hc,fun K hK=>?_⟩;obtain⟨g,o,rfl,hg,hi⟩:=hr (by omega);exact⟨g,o,rfl,hg,fun W m j v e=>(m.cell (p:=⟨g,o+K*10+j,none⟩) hg).trans ((hi K hK j (by have:=(List.getElem?_eq_some_iff.1 e).1;exact this)).trans e)⟩
theorem recdep_calls(es:List EdR)(D:List Int)(ev dv:Value)(w:World)(he:RdEd w ev es)(hd:RdAt w dv 1 (ints D))(hi:InD D es)(hl:es.length≤1000000)(hb:BdD D)(R:Ending→World→Prop)
  (hR:Hid (∀w',Below w.heap.size w w'→R (.returned (.int .i64 (recD D es 0))) w')):Calls Tryz.prog 124 #[ev,dv] w R:=by
 obtain⟨A,c,rfl,hc,hA⟩:=ed_el he;obtain⟨B,cd,rfl,hcd,hB⟩:=ints_open hd;have n:=F0.z w;replace hA:=Lib.hid hA;replace hB:=Lib.hid hB;replace hi:=Lib.hid hi;replace hb:=Lib.hid hb;clear he hd;go_enter Tryz.func124,Tryz.ntmps124
 go_wp2_with fail
 go_loopg [5,10] es.length (fun g s k wr=>∃(K:Nat) (a:Int),s=.int .i64 a∧k=.int .i64 K∧K+g=es.length∧0≤a∧a≤1000000∧Hid (recD D es 0=recD D (es.drop K) a)∧Hid (Hq F0 () () w wr []))
 case atStart=>exact⟨0,0,rfl,rfl,by omega,by omega,by omega,Lib.hid rfl,Lib.hid n⟩
 case round =>
  clear n;obtain⟨K,a,rfl,rfl,e1,a0,a1,e2,n⟩:=hrel;replace n:=n.out
  by_cases hK:K<es.length
  ·obtain⟨g,o,rfl,hg,hrg⟩:=hA.out K hK
   have rg:=hrg wr (F0.bel n);have hie:=hi.out _ (List.getElem_mem hK);have e3:=e2.out;rw [List.drop_eq_getElem_cons hK]at e3;clear e2 hrg;generalize es[K]=e at *;obtain⟨x0,x1,x2,x3,x4,x5,x6,x7,x8,x9⟩:=e;simp only at hie;obtain⟨J,rfl⟩:∃J:Nat,x3=(J:Int):=⟨x3.toNat,by omega⟩;have j1:J<D.length:=by omega
   obtain⟨gd,od,rfl,hgd,hcell⟩:=hB.out (by omega);have bJ:=hb.out (J:Int);replace e3:recD D es 0=if atD D (J:Int)=0 then 0 else recD D (es.drop (K+1)) (max a (atD D (J:Int))):=e3;have i0:(0:Int)≤(K:Int):=by omega
   have i1:(K:Int)<(es.length:Int):=by omega
   have i2:(0:Int)≤(J:Int):=by omega
   have i3:(J:Int)<(D.length:Int):=by omega
   obtain⟨V,e4,n,z4⟩:=n.new (.cells (encE ⟨x0,x1,x2,(J:Int),x4,x5,x6,x7,x8,x9⟩).toArray 85);go_upto_region 5 with(first|(refine wpList_load_g (by rfl) 85 _ rfl g (o+K*10) rfl _ _ rg Tryz.underlying85 rfl (by kernel_rfl) ?_;go_simp)|(refine wpList_copy (encE ⟨x0,x1,x2,(J:Int),x4,x5,x6,x7,x8,x9⟩).toArray ⟨rfl,rfl,rfl⟩ ⟨rfl,rfl,rfl⟩ edge_alloc (by kernel_rfl) ⟨rfl,by simp [Value.oneCell',encE]⟩ (fun _=>⟨rfl,rfl⟩) ?_;go_simp))
   clear e4 z4 rg;have hbV:=F0.bel n;have t3:=n.c 0 3 rfl rfl;have cJ:=(hbV.cell (p:=⟨gd,od+J,none⟩) hgd).trans (hcell J j1);have n2:=Lib.hid (n.tail);clear n hbV hcell;generalize atD D (J:Int)=d at *
   by_cases d0:d=0
   ·subst d0
    rw [if_pos rfl]at e3;have fin:=Lib.hid (hR.out V (F0.bel n2.out));rw [e3]at fin;clear hR n2 e3;go_wp2_with fail
    exact fin.out
   ·rw [if_neg d0]at e3
    have e4:=Lib.hid e3;clear e3;have tq:(d==0)=false:=by simpa using d0
    obtain⟨M,hM⟩:∃M,max a d=M:=⟨_,rfl⟩;have m0:0≤M∧M≤1000000:=by omega
    rw [hM]at e4;clear d0;go_wp2_with fail
    go_roundg (gk-1)
    case measure=>omega
    case rel=>exact⟨K+1,M,rfl,by go_num,by omega,m0.1,m0.2,e4,n2⟩
  ·obtain rfl:K=es.length:=by omega
   have e3:=e2.out;rw [List.drop_length]at e3;replace e3:recD D es 0=a+1:=e3;have fin:=Lib.hid (hR.out wr (F0.bel n));rw [e3]at fin;clear hR e2 e3 n;go_wp2_with fail
   exact fin.out
theorem unidep_calls(es:List EdR)(D:List Int)(ev dv:Value)(w:World)(he:RdEd w ev es)(hd:RdAt w dv 1 (ints D))(hi:InU D es)(hl:es.length≤1000000)(hb:BdD D)(R:Ending→World→Prop)
  (hR:Hid (∀w',Below w.heap.size w w'→R (.returned (.int .i64 (uniD D es 0))) w')):Calls Tryz.prog 125 #[ev,dv] w R:=by
 obtain⟨A,c,rfl,hc,hA⟩:=ed_el he;obtain⟨B,cd,rfl,hcd,hB⟩:=ints_open hd;have n:=F0.z w;replace hA:=Lib.hid hA;replace hB:=Lib.hid hB;replace hi:=Lib.hid hi;replace hb:=Lib.hid hb;clear he hd;go_enter Tryz.func125,Tryz.ntmps125
 go_wp2_with fail
 go_loopg [5,11] es.length (fun g s k wr=>∃(K:Nat) (a:Int),s=.int .i64 a∧k=.int .i64 K∧K+g=es.length∧0≤a∧a≤1000001∧Hid (uniD D es 0=uniD D (es.drop K) a)∧Hid (Hq F0 () () w wr []))
 case atStart=>exact⟨0,0,rfl,rfl,by omega,by omega,by omega,Lib.hid rfl,Lib.hid n⟩
 case round =>
  clear n;obtain⟨K,a,rfl,rfl,e1,a0,a1,e2,n⟩:=hrel;replace n:=n.out
  by_cases hK:K<es.length
  ·obtain⟨g,o,rfl,hg,hrg⟩:=hA.out K hK
   have rg:=hrg wr (F0.bel n);have hie:=hi.out _ (List.getElem_mem hK);have e3:=e2.out;rw [List.drop_eq_getElem_cons hK]at e3;clear e2 hrg;generalize es[K]=e at *;obtain⟨x0,x1,x2,x3,x4,x5,x6,x7,x8,x9⟩:=e;simp only at hie;have i0:(0:Int)≤(K:Int):=by omega
   have i1:(K:Int)<(es.length:Int):=by omega
   replace e3:uniD D es 0=if x1=true then 1 else uniD D (es.drop (K+1)) (if 0<atD D x3∧(a=0∨atD D x3+1<a)then atD D x3+1 else a):=e3;obtain⟨V,e4,n,z4⟩:=n.new (.cells (encE ⟨x0,x1,x2,x3,x4,x5,x6,x7,x8,x9⟩).toArray 85);go_upto_region 5 with(first|(refine wpList_load_g (by rfl) 85 _ rfl g (o+K*10) rfl _ _ rg Tryz.underlying85 rfl (by kernel_rfl) ?_;go_simp)|(refine wpList_copy (encE ⟨x0,x1,x2,x3,x4,x5,x6,x7,x8,x9⟩).toArray ⟨rfl,rfl,rfl⟩ ⟨rfl,rfl,rfl⟩ edge_alloc (by kernel_rfl) ⟨rfl,by simp [Value.oneCell',encE]⟩ (fun _=>⟨rfl,rfl⟩) ?_;go_simp))
   clear e4 z4 rg;have hbV:=F0.bel n;have t1:=n.c 0 1 rfl rfl;cases x1 with
   | true =>
    rw [if_pos rfl]at e3;have fin:=Lib.hid (hR.out V hbV);rw [e3]at fin;clear hR n e3 hbV;go_wp2_with fail
    exact fin.out
   | false =>
    rw [if_neg (by decide)]at e3;replace hie:=hie rfl;obtain⟨J,rfl⟩:∃J:Nat,x3=(J:Int):=⟨x3.toNat,by omega⟩;have j1:J<D.length:=by omega
    obtain⟨gd,od,rfl,hgd,hcell⟩:=hB.out (by omega);have bJ:=hb.out (J:Int);have i2:(0:Int)≤(J:Int):=by omega
    have i3:(J:Int)<(D.length:Int):=by omega
    have t3:=n.c 0 3 rfl rfl;have cJ:=(hbV.cell (p:=⟨gd,od+J,none⟩) hgd).trans (hcell J j1);have n2:=Lib.hid (n.tail);clear n hbV hcell;generalize atD D (J:Int)=d at *
    by_cases d0:d=0
    ·subst d0
     rw [if_neg (by omega)]at e3;have e4:=Lib.hid e3;clear e3;have tq:decide ((0:Int)<0)=false:=by decide
     go_wp2_with fail
     go_roundg (gk-1)
     case measure=>omega
     case rel=>exact⟨K+1,a,rfl,by go_num,by omega,by omega,by omega,e4,n2⟩
    ·have dp:0<d:=by omega
     have tq:decide (0<d)=true:=by simpa using dp
     by_cases az:a=0
     ·subst az
      rw [if_pos (by omega)]at e3;have e4:=Lib.hid e3;clear e3 d0;go_wp2_with fail
      go_roundg (gk-1)
      case measure=>omega
      case rel=>exact⟨K+1,d+1,rfl,by go_num,by omega,by omega,by omega,e4,n2⟩
     ·have ta:(a==0)=false:=by simpa using az
      by_cases lt:d+1<a
      ·rw [if_pos (by omega)]at e3
       have e4:=Lib.hid e3;have tl:decide (d+1<a)=true:=by simpa using lt
       clear e3 d0 az;go_wp2_with fail
       go_roundg (gk-1)
       case measure=>omega
       case rel=>exact⟨K+1,d+1,rfl,by go_num,by omega,by omega,by omega,e4,n2⟩
      ·rw [if_neg (by omega)]at e3
       have e4:=Lib.hid e3;have tl:decide (d+1<a)=false:=by simpa using lt
       clear e3 d0 az;go_wp2_with fail
       go_roundg (gk-1)
       case measure=>omega
       case rel=>exact⟨K+1,a,rfl,by go_num,by omega,by omega,by omega,e4,n2⟩
  ·obtain rfl:K=es.length:=by omega
   have e3:=e2.out;rw [List.drop_length]at e3;replace e3:uniD D es 0=a:=e3;have fin:=Lib.hid (hR.out wr (F0.bel n));rw [e3]at fin;clear hR e2 e3 n;go_wp2_with fail
   exact fin.out
def BdC(D:List Int):Prop:=∀j,0≤atD D j∧atD D j≤2
theorem mul_bd{a d:Int}(a0:0≤a)(a1:a≤2)(d0:0≤d)(d1:d≤2):0≤a*d∧a*d≤4 :=
⟨Int.mul_nonneg a0 d0,by have:=Int.mul_le_mul a1 d1 d0 (by decide);omega⟩
theorem reccnt_calls(es:List EdR)(D:List Int)(ev dv:Value)(w:World)(he:RdEd w ev es)(hd:RdAt w dv 1 (ints D))(hi:InD D es)(hl:es.length≤1000000)(hb:BdC D)(R:Ending→World→Prop)
  (hR:Hid (∀w',Below w.heap.size w w'→R (.returned (.int .i64 (recC D es 1))) w')):Calls Tryz.prog 127 #[ev,dv] w R:=by
 obtain⟨A,c,rfl,hc,hA⟩:=ed_el he;obtain⟨B,cd,rfl,hcd,hB⟩:=ints_open hd;have n:=F0.z w;replace hA:=Lib.hid hA;replace hB:=Lib.hid hB;replace hi:=Lib.hid hi;replace hb:=Lib.hid hb;clear he hd;go_enter Tryz.func127,Tryz.ntmps127
 go_wp2_with fail
 go_loopg [5,10] es.length (fun g s k wr=>∃(K:Nat) (a:Int),s=.int .i64 a∧k=.int .i64 K∧K+g=es.length∧0≤a∧a≤2∧Hid (recC D es 1=recC D (es.drop K) a)∧Hid (Hq F0 () () w wr []))
 case atStart=>exact⟨0,1,rfl,rfl,by omega,by omega,by omega,Lib.hid rfl,Lib.hid n⟩
 case round =>
  clear n;obtain⟨K,a,rfl,rfl,e1,a0,a1,e2,n⟩:=hrel;replace n:=n.out
  by_cases hK:K<es.length
  ·obtain⟨g,o,rfl,hg,hrg⟩:=hA.out K hK
   have rg:=hrg wr (F0.bel n);have hie:=hi.out _ (List.getElem_mem hK);have e3:=e2.out;rw [List.drop_eq_getElem_cons hK]at e3;clear e2 hrg;generalize es[K]=e at *;obtain⟨x0,x1,x2,x3,x4,x5,x6,x7,x8,x9⟩:=e;simp only at hie;have i0:(0:Int)≤(K:Int):=by omega
   have i1:(K:Int)<(es.length:Int):=by omega
   obtain⟨J,rfl⟩:∃J:Nat,x3=(J:Int):=⟨x3.toNat,by omega⟩;have j1:J<D.length:=by omega
   obtain⟨gd,od,rfl,hgd,hcell⟩:=hB.out (by omega);have bJ:=hb.out (J:Int);have i2:(0:Int)≤(J:Int):=by omega
   have i3:(J:Int)<(D.length:Int):=by omega
   replace e3:recC D es 1=recC D (es.drop (K+1)) (min (a*atD D (J:Int)) 2):=e3;obtain⟨V,e4,n,z4⟩:=n.new (.cells (encE ⟨x0,x1,x2,(J:Int),x4,x5,x6,x7,x8,x9⟩).toArray 85);go_upto_region 5 with(first|(refine wpList_load_g (by rfl) 85 _ rfl g (o+K*10) rfl _ _ rg Tryz.underlying85 rfl (by kernel_rfl) ?_;go_simp)|(refine wpList_copy (encE ⟨x0,x1,x2,(J:Int),x4,x5,x6,x7,x8,x9⟩).toArray ⟨rfl,rfl,rfl⟩ ⟨rfl,rfl,rfl⟩ edge_alloc (by kernel_rfl) ⟨rfl,by simp [Value.oneCell',encE]⟩ (fun _=>⟨rfl,rfl⟩) ?_;go_simp))
   clear e4 z4 rg;have hbV:=F0.bel n;have t3:=n.c 0 3 rfl rfl;have cJ:=(hbV.cell (p:=⟨gd,od+J,none⟩) hgd).trans (hcell J j1);have n2:=Lib.hid (n.tail);clear n hbV hcell;generalize atD D (J:Int)=d at *;have mb:=mul_bd a0 a1 bJ.1 bJ.2;obtain⟨q,hq⟩:∃q,a*d=q:=⟨_,rfl⟩;rw [hq]at mb e3;obtain⟨M,hM⟩:∃M,min q 2=M:=⟨_,rfl⟩;have m0:0≤M∧M≤2:=by omega
   rw [hM]at e3;have e4:=Lib.hid e3;clear e3;go_wp2_with fail
   go_roundg (gk-1)
   case measure=>omega
   case rel=>exact⟨K+1,M,rfl,by go_num,by omega,m0.1,m0.2,e4,n2⟩
  ·obtain rfl:K=es.length:=by omega
   have e3:=e2.out;rw [List.drop_length]at e3;replace e3:recC D es 1=a:=e3;have fin:=Lib.hid (hR.out wr (F0.bel n));rw [e3]at fin;clear hR e2 e3 n;go_wp2_with fail
   exact fin.out
theorem unicnt_calls(es:List EdR)(D:List Int)(ev dv:Value)(w:World)(he:RdEd w ev es)(hd:RdAt w dv 1 (ints D))(hi:InU D es)(hl:es.length≤1000000)(hb:BdC D)(R:Ending→World→Prop)
  (hR:Hid (∀w',Below w.heap.size w w'→R (.returned (.int .i64 (uniC D es 0))) w')):Calls Tryz.prog 128 #[ev,dv] w R:=by
 obtain⟨A,c,rfl,hc,hA⟩:=ed_el he;obtain⟨B,cd,rfl,hcd,hB⟩:=ints_open hd;have n:=F0.z w;replace hA:=Lib.hid hA;replace hB:=Lib.hid hB;replace hi:=Lib.hid hi;replace hb:=Lib.hid hb;clear he hd;go_enter Tryz.func128,Tryz.ntmps128
 go_wp2_with fail
 go_loopg [5,10] es.length (fun g s k wr=>∃(K:Nat) (a:Int),s=.int .i64 a∧k=.int .i64 K∧K+g=es.length∧0≤a∧a≤2*K∧Hid (uniC D es 0=uniC D (es.drop K) a)∧Hid (Hq F0 () () w wr []))
 case atStart=>exact⟨0,0,rfl,rfl,by omega,by omega,by omega,Lib.hid rfl,Lib.hid n⟩
 case round =>
  clear n;obtain⟨K,a,rfl,rfl,e1,a0,a1,e2,n⟩:=hrel;replace n:=n.out
  by_cases hK:K<es.length
  ·obtain⟨g,o,rfl,hg,hrg⟩:=hA.out K hK
   have rg:=hrg wr (F0.bel n);have hie:=hi.out _ (List.getElem_mem hK);have e3:=e2.out;rw [List.drop_eq_getElem_cons hK]at e3;clear e2 hrg;generalize es[K]=e at *;obtain⟨x0,x1,x2,x3,x4,x5,x6,x7,x8,x9⟩:=e;simp only at hie;have i0:(0:Int)≤(K:Int):=by omega
   have i1:(K:Int)<(es.length:Int):=by omega
   replace e3:uniC D es 0=uniC D (es.drop (K+1)) (a+if x1=true then 1 else atD D x3):=e3;obtain⟨V,e4,n,z4⟩:=n.new (.cells (encE ⟨x0,x1,x2,x3,x4,x5,x6,x7,x8,x9⟩).toArray 85);go_upto_region 5 with(first|(refine wpList_load_g (by rfl) 85 _ rfl g (o+K*10) rfl _ _ rg Tryz.underlying85 rfl (by kernel_rfl) ?_;go_simp)|(refine wpList_copy (encE ⟨x0,x1,x2,x3,x4,x5,x6,x7,x8,x9⟩).toArray ⟨rfl,rfl,rfl⟩ ⟨rfl,rfl,rfl⟩ edge_alloc (by kernel_rfl) ⟨rfl,by simp [Value.oneCell',encE]⟩ (fun _=>⟨rfl,rfl⟩) ?_;go_simp))
   clear e4 z4 rg;have hbV:=F0.bel n;have t1:=n.c 0 1 rfl rfl;cases x1 with
   | true =>
    rw [if_pos rfl]at e3;have e4:=Lib.hid e3;have n2:=Lib.hid (n.tail);clear e3 n hbV;go_wp2_with fail
    go_roundg (gk-1)
    case measure=>omega
    case rel=>exact⟨K+1,a+1,rfl,by go_num,by omega,by omega,by omega,e4,n2⟩
   | false =>
    rw [if_neg (by decide)]at e3;replace hie:=hie rfl;obtain⟨J,rfl⟩:∃J:Nat,x3=(J:Int):=⟨x3.toNat,by omega⟩;have j1:J<D.length:=by omega
    obtain⟨gd,od,rfl,hgd,hcell⟩:=hB.out (by omega);have bJ:=hb.out (J:Int);have i2:(0:Int)≤(J:Int):=by omega
    have i3:(J:Int)<(D.length:Int):=by omega
    have t3:=n.c 0 3 rfl rfl;have cJ:=(hbV.cell (p:=⟨gd,od+J,none⟩) hgd).trans (hcell J j1);have n2:=Lib.hid (n.tail);clear n hbV hcell;generalize atD D (J:Int)=d at *;have e4:=Lib.hid e3;clear e3;go_wp2_with fail
    go_roundg (gk-1)
    case measure=>omega
    case rel=>exact⟨K+1,a+d,rfl,by go_num,by omega,by omega,by omega,e4,n2⟩
  ·obtain rfl:K=es.length:=by omega
   have e3:=e2.out;rw [List.drop_length]at e3;replace e3:uniC D es 0=min a 2:=e3;obtain⟨M,hM⟩:∃M,min a 2=M:=⟨_,rfl⟩;rw [hM]at e3;have fin:=Lib.hid (hR.out wr (F0.bel n));rw [e3]at fin;clear hR e2 e3 n;go_wp2_with fail
   exact fin.out
end Inh
namespace Inh
open Go.RowKit Go.Lib Res Nam
theorem ind_of{D:List Int}{es:List EdR}(h:InU D es)(hb:∀e∈es,e.bare=false):InD D es:=fun e he=>h e he (hb e he)
theorem onemore_calls(b:Bool)(w:World)(R:Ending→World→Prop)(hR:Hid (R (.returned (.int .i64 (oneC (b=true)))) w)):Calls Tryz.prog 126 #[.bool b] w R:=by
 cases b with
 | true =>
  go_enter Tryz.func126,Tryz.ntmps126
  go_wp2_with fail
  exact hR.out
 | false =>
  go_enter Tryz.func126,Tryz.ntmps126
  go_wp2_with fail
  exact hR.out
abbrev ndV(y:NdR)(nv ev:Value):Value:=.agg #[.int .i64 y.kind,.int .i64 y.at_,.int .i64 y.lo,.int .i64 y.hi,.int .i64 y.most,nv,ev]
theorem least_calls(y:NdR)(D:List Int)(nv ev dv:Value)(w:World)(hn:RdS w nv y.names)(he:RdEd w ev y.edges)(hd:RdAt w dv 1 (ints D))(gy:GoodY y)(hi:InU D y.edges)(hb:BdD D)(R:Ending→World→Prop)
  (hR:Hid (∀w',Below w.heap.size w w'→R (.returned (.int .i64 (depN D y))) w')):Calls Tryz.prog 74 #[ndV y nv ev,dv] w R:=by
 obtain⟨A3,c3,rfl,-⟩:=hn.open;obtain⟨A4,c4,rfl,-⟩:=ed_el he;obtain⟨B,cd,rfl,-⟩:=ints_open hd;have hle:=gy.le;have h7:=Lib.hid gy.e7;clear hn gy;obtain⟨k0,k1,k2,k3,k4,ns_,es_⟩:=y;simp only at *;have n:=F0.z w;obtain⟨V,e1,n,z1⟩:=n.new (.cells #[.int .i64 k0,.int .i64 k1,.int .i64 k2,.int .i64 k3,.int .i64 k4,.slice A3 ns_.length c3,.slice A4 es_.length c4] 74);have m1:=F0.bel n;have heV:=RdAt.below he m1;have hdV:=RdAt.below hd m1;have t0:=n.c 0 0 rfl rfl;have t6:=n.c 0 6 rfl rfl;clear z1
 by_cases k7:k0=7
 ·subst k7
  have hid:=ind_of hi (h7.out rfl);have fin:=Lib.hid fun w' (m:Below V.heap.size V w')=>hR.out w' (m1.trans (m.mono m1.size))
  clear hR n he hd;replace heV:=Lib.hid heV;replace hdV:=Lib.hid hdV;replace hb:=Lib.hid hb;replace hi:=Lib.hid hid;clear hid m1;go_enter Tryz.func74,Tryz.ntmps74
  go_upto_region 1 with fail
  clear e1;go_wp2_with fail
  refine recdep_calls es_ D _ _ V heV.out hdV.out hi.out (by omega) hb.out _ (Lib.hid fun w' m=>?_);replace fin:=Lib.hid (fin.out w' m);clear t0 t6;go_wp2_with fail
  exact fin.out
 ·by_cases k8:k0=8
  ·subst k8
   have fin:=Lib.hid fun w' (m:Below V.heap.size V w')=>hR.out w' (m1.trans (m.mono m1.size))
   clear hR n he hd;replace heV:=Lib.hid heV;replace hdV:=Lib.hid hdV;replace hb:=Lib.hid hb;replace hi:=Lib.hid hi;clear m1 k7;go_enter Tryz.func74,Tryz.ntmps74
   go_upto_region 1 with fail
   clear e1;go_wp2_with fail
   refine unidep_calls es_ D _ _ V heV.out hdV.out hi.out (by omega) hb.out _ (Lib.hid fun w' m=>?_);replace fin:=Lib.hid (fin.out w' m);clear t0 t6;go_wp2_with fail
   exact fin.out
  ·have fin:=Lib.hid (hR.out V m1)
   have e2:depN D ⟨k0,k1,k2,k3,k4,ns_,es_⟩=1:=by
    unfold depN;rw [if_neg k7,if_neg k8]
   rw [e2]at fin;have q7:(k0==7)=false:=by simpa using k7
   have q8:(k0==8)=false:=by simpa using k8
   clear hR n he hd heV hdV hi hb m1 e2 k7 k8 h7 hle;go_enter Tryz.func74,Tryz.ntmps74
   go_upto_region 1 with fail
   clear e1;go_wp2_with fail
   exact fin.out
theorem oneC_dec{p:Prop} [Decidable p]{b:Bool}(h:decide p=b):oneC p=oneC (b=true):=by
 subst h;unfold oneC
 by_cases q:p
 ·rw [if_pos q,if_pos (decide_eq_true q)]
 ·rw [if_neg q,if_neg (by simpa using q)]
theorem count_calls(y:NdR)(D:List Int)(nv ev dv:Value)(w:World)(hn:RdS w nv y.names)(he:RdEd w ev y.edges)(hd:RdAt w dv 1 (ints D))(gy:GoodY y)(hi:InU D y.edges)(hb:BdC D)(R:Ending→World→Prop)
  (hR:Hid (∀w',Below w.heap.size w w'→R (.returned (.int .i64 (cntN D y))) w')):Calls Tryz.prog 77 #[ndV y nv ev,dv] w R:=by
 obtain⟨A3,c3,rfl,-⟩:=hn.open;obtain⟨A4,c4,rfl,-,hel⟩:=ed_el he;obtain⟨B,cd,rfl,-,hB⟩:=ints_open hd;have hle:=gy.le;have hln:=gy.ln;have h7:=Lib.hid gy.e7;have h56:=Lib.hid gy.e56;have kb:=gy.kb;clear hn gy;obtain⟨k0,k1,k2,k3,k4,ns_,es_⟩:=y;simp only at *;have n:=F0.z w;obtain⟨V,e1,n,z1⟩:=n.new (.cells #[.int .i64 k0,.int .i64 k1,.int .i64 k2,.int .i64 k3,.int .i64 k4,.slice A3 ns_.length c3,.slice A4 es_.length c4] 74);have m1:=F0.bel n;have heV:=Lib.hid (RdAt.below he m1);have hdV:=Lib.hid (RdAt.below hd m1);have t0:=n.c 0 0 rfl rfl;have t2:=n.c 0 2 rfl rfl;have t3:=n.c 0 3 rfl rfl;have t4:=n.c 0 4 rfl rfl;have t5:=n.c 0 5 rfl rfl;have t6:=n.c 0 6 rfl rfl;have fin:=Lib.hid fun w' (m:Below V.heap.size V w')=>hR.out w' (m1.trans (m.mono m1.size))
 have m0:=Below.refl V.heap.size V;clear hR n he hd z1;replace m0:=Lib.hid m0;have hall:k0=1∨k0=2∨k0=3∨k0=4∨k0=5∨k0=6∨k0=7∨k0=8:=by omega
 clear kb
 have edge:Hid (k0=5∨k0=6→∃(g o gd od J:Nat) (e:EdR),A4=some ⟨g,o,none⟩∧es_=[e]∧e.dst=(J:Int)∧J<D.length∧B=some ⟨gd,od,none⟩∧V.cell? ⟨g,o+3,none⟩=some (.int .i64 (J:Int))∧V.cell? ⟨gd,od+J,none⟩=some (.int .i64 (atD D (J:Int)))):=Lib.hid fun q=>by
  obtain⟨e,rfl,eb⟩:=h56.out q;obtain⟨g,o,rfl,hg,hrg⟩:=hel 0 (by simp);have hj:=hi e (by simp) eb;obtain⟨J,hJ⟩:∃J:Nat,e.dst=(J:Int):=⟨e.dst.toNat,by omega⟩;have j1:J<D.length:=by omega
  obtain⟨gd,od,rfl,hgd,hc⟩:=hB (by omega);refine⟨g,o,gd,od,J,e,rfl,rfl,hJ,j1,rfl,?_,(m1.cell (p:=⟨gd,od+J,none⟩) hgd).trans (hc J j1)⟩;have:=hrg V m1 3 (.int .i64 e.dst) rfl;rw [hJ]at this;simpa using this
 clear h56 hel hB m1;replace hb:=Lib.hid hb;replace hi:=Lib.hid hi;rcases hall with rfl|rfl|rfl|rfl|rfl|rfl|rfl|rfl
 ·replace fin:=Lib.hid (fin.out V m0.out)
  clear edge hi hb heV hdV m0 h7;go_enter Tryz.func77,Tryz.ntmps77
  go_upto_region 1 with fail
  clear e1;go_wp2_with fail
  exact fin.out
 ·obtain⟨b,eb⟩:∃b,decide (k2<k3)=b:=⟨_,rfl⟩
  have ec:cntN D ⟨2,k1,k2,k3,k4,ns_,es_⟩=oneC (b=true):=(if_pos rfl).trans (oneC_dec eb);rw [ec]at fin;clear edge hi hb heV hdV h7 ec;go_enter Tryz.func77,Tryz.ntmps77
  go_upto_region 1 with fail
  clear e1;go_wp2_with fail
  refine onemore_calls b _ _ (Lib.hid ?_);replace fin:=Lib.hid (fin.out V m0.out);clear m0;go_wp2_with fail
  exact fin.out
 ·obtain⟨b,eb⟩:∃b,decide (0<k4)=b:=⟨_,rfl⟩
  have ec:cntN D ⟨3,k1,k2,k3,k4,ns_,es_⟩=oneC (b=true):=(if_neg (by simp)).trans ((if_pos rfl).trans (oneC_dec eb));rw [ec]at fin;clear edge hi hb heV hdV h7 ec;go_enter Tryz.func77,Tryz.ntmps77
  go_upto_region 1 with fail
  clear e1;go_wp2_with fail
  refine onemore_calls b _ _ (Lib.hid ?_);replace fin:=Lib.hid (fin.out V m0.out);clear m0;go_wp2_with fail
  exact fin.out
 ·obtain⟨M,hM⟩:∃M,min (ns_.length:Int) 2=M:=⟨_,rfl⟩
  have ec:cntN D ⟨4,k1,k2,k3,k4,ns_,es_⟩=M:=(if_neg (by simp)).trans ((if_neg (by simp)).trans ((if_pos rfl).trans hM));rw [ec]at fin;replace fin:=Lib.hid (fin.out V m0.out);clear edge hi hb heV hdV m0 h7 ec;go_enter Tryz.func77,Tryz.ntmps77
  go_upto_region 1 with fail
  clear e1;go_wp2_with fail
  exact fin.out
 ·obtain⟨g,o,gd,od,J,e,rfl,rfl,hJ,j1,rfl,c3_,cJ⟩:=edge.out (.inl rfl)
  rw [show([e]:List EdR).length=1 from rfl]at e1;have i2:(0:Int)≤(J:Int):=by omega
  have i3:(J:Int)<(D.length:Int):=by omega
  have ef:fstD ⟨5,k1,k2,k3,k4,ns_,[e]⟩=(J:Int):=hJ;have ec0:cntN D ⟨5,k1,k2,k3,k4,ns_,[e]⟩=oneC (0<k4∧0<atD D (fstD ⟨5,k1,k2,k3,k4,ns_,[e]⟩)):=(if_neg (by simp)).trans ((if_neg (by simp)).trans ((if_neg (by simp)).trans (if_pos rfl)));rw [ef]at ec0
  by_cases q:0<k4
  ·obtain⟨b,eb⟩:∃b,decide (0<atD D (J:Int))=b:=⟨_,rfl⟩
   have ec:cntN D ⟨5,k1,k2,k3,k4,ns_,[e]⟩=oneC (b=true):=ec0.trans (oneC_dec (by rw [←eb,decide_eq_decide];exact⟨fun h=>h.2,fun h=>⟨q,h⟩⟩))
   rw [ec]at fin;have q1:decide (0<k4)=true:=by simpa using q
   clear edge hi hb heV hdV h7 ec ec0 ef hJ q;generalize atD D (J:Int)=d at *;go_enter Tryz.func77,Tryz.ntmps77
   go_upto_region 1 with fail
   clear e1;go_wp2_with fail
   refine onemore_calls b _ _ (Lib.hid ?_);replace fin:=Lib.hid (fin.out V m0.out);clear m0;go_wp2_with fail
   exact fin.out
  ·have ec:cntN D ⟨5,k1,k2,k3,k4,ns_,[e]⟩=oneC (false=true):=ec0.trans (oneC_dec (by rw [decide_eq_false_iff_not];exact fun h=>q h.1))
   rw [ec]at fin;have q1:decide (0<k4)=false:=by simpa using q
   clear edge hi hb heV hdV h7 ec ec0 ef hJ q;go_enter Tryz.func77,Tryz.ntmps77
   go_upto_region 1 with fail
   clear e1;go_wp2_with fail
   refine onemore_calls false _ _ (Lib.hid ?_);replace fin:=Lib.hid (fin.out V m0.out);clear m0;go_wp2_with fail
   exact fin.out
 ·obtain⟨g,o,gd,od,J,e,rfl,rfl,hJ,j1,rfl,c3_,cJ⟩:=edge.out (.inr rfl)
  rw [show([e]:List EdR).length=1 from rfl]at e1;have i2:(0:Int)≤(J:Int):=by omega
  have i3:(J:Int)<(D.length:Int):=by omega
  have ef:fstD ⟨6,k1,k2,k3,k4,ns_,[e]⟩=(J:Int):=hJ;have ec0:cntN D ⟨6,k1,k2,k3,k4,ns_,[e]⟩=oneC (0<atD D (fstD ⟨6,k1,k2,k3,k4,ns_,[e]⟩)):=(if_neg (by simp)).trans ((if_neg (by simp)).trans ((if_neg (by simp)).trans ((if_neg (by simp)).trans (if_pos rfl))));rw [ef]at ec0;obtain⟨b,eb⟩:∃b,decide (0<atD D (J:Int))=b:=⟨_,rfl⟩;have ec:cntN D ⟨6,k1,k2,k3,k4,ns_,[e]⟩=oneC (b=true):=ec0.trans (oneC_dec eb);rw [ec]at fin;clear edge hi hb heV hdV h7 ec ec0 ef hJ;generalize atD D (J:Int)=d at *;go_enter Tryz.func77,Tryz.ntmps77
  go_upto_region 1 with fail
  clear e1;go_wp2_with fail
  refine onemore_calls b _ _ (Lib.hid ?_);replace fin:=Lib.hid (fin.out V m0.out);clear m0;go_wp2_with fail
  exact fin.out
 ·have hid:=Lib.hid (ind_of hi.out (h7.out rfl))
  clear edge hi m0;go_enter Tryz.func77,Tryz.ntmps77
  go_upto_region 1 with fail
  clear e1;go_wp2_with fail
  refine reccnt_calls es_ D _ _ V heV.out hdV.out hid.out (by omega) hb.out _ (Lib.hid fun w' m=>?_);replace fin:=Lib.hid (fin.out w' m);clear t0 t2 t3 t4 t5 t6;go_wp2_with fail
  exact fin.out
 ·clear edge m0
  go_enter Tryz.func77,Tryz.ntmps77
  go_upto_region 1 with fail
  clear e1;go_wp2_with fail
  refine unicnt_calls es_ D _ _ V heV.out hdV.out hi.out (by omega) hb.out _ (Lib.hid fun w' m=>?_);replace fin:=Lib.hid (fin.out w' m);clear t0 t2 t3 t4 t5 t6;go_wp2_with fail
  exact fin.out
end Inh
end Go.Proofs.YtncckdaflellnaaGreat
