import Derived.Test.YtncckdaflellnaaGreatQ29
import Derived.Test.YtncckdaflellnaaGreatQ13
import Derived.Test.YtncckdaflellnaaGreatQ3
import Derived.Test.YtncckdaflellnaaGreatQ0
import Derived.Test.YtncckdaflellnaaGreatQ5
import Derived.Test.YtncckdaflellnaaGreatQ11
import Derived.Test.YtncckdaflellnaaGreatQ20
set_option linter.all false
set_option maxRecDepth 100000
set_option maxHeartbeats 4000000
namespace Go.Proofs.YtncckdaflellnaaGreat.Res
open Go.RowKit Go.Lib Utf Nam Lat Kin Unp Rel Lab
def RdNo(w:World)(v:Value)(l:List NdR):Prop:=∃xs:List Nv,xs.map (·.1)=l∧RdAt w v 7 (flatG encN xs)∧∀y∈xs,RdS w y.2.1 y.1.names∧RdEd w y.2.2 y.1.edges
theorem RdNo.kp{w w':World}(k:Kp w w'){v:Value}{l:List NdR}(h:RdNo w v l):RdNo w' v l:=by
 obtain⟨xs,h1,h2,h3⟩:=h;exact⟨xs,h1,RdAt.kp k h2,fun y hy=>⟨RdAt.kp k (h3 y hy).1,RdAt.kp k (h3 y hy).2⟩⟩
theorem RdNo.below{w w':World}{v:Value}{l:List NdR}(h:RdNo w v l)(m:Below w.heap.size w w'):RdNo w' v l:=h.kp (Kp.of_below m)
abbrev nyL(y:NdR)(nv ev:Value):List Value:=[.int .i64 y.kind,.int .i64 y.at_,.int .i64 y.lo,.int .i64 y.hi,.int .i64 y.most,nv,ev]
theorem RdNo.el{w:World}{v:Value}{l:List NdR}(h:RdNo w v l):∃(A:Option Addr)(c:Nat),v=.slice A l.length c∧l.length≤c∧∀K (hK:K<l.length),∃(g o:Nat)(nv ev:Value),A=some ⟨g,o,none⟩∧g<w.heap.size∧w.rangeAt g (o+K*7) (nyL l[K] nv ev)∧RdS w nv l[K].names∧RdEd w ev l[K].edges:=by
 obtain⟨xs,rfl,h2,h3⟩:=h;obtain⟨A,c,rfl,hc,hr⟩:=RdG.open encN_len (by decide) (show RdG encN 7 w v xs from h2);have hl:(xs.map (·.1)).length=xs.length:=List.length_map _;refine⟨A,c,by rw [hl],by rw [hl];exact hc,fun K hK=>?_⟩
 rw [hl]at hK;obtain⟨g,o,rfl,hg,hi⟩:=hr (by omega);have e:(xs.map (·.1))[K]'(by rw [hl];exact hK)=xs[K].1:=by simp
 rw [e];have h4:=h3 _ (List.getElem_mem hK);exact⟨g,o,xs[K].2.1,xs[K].2.2,rfl,hg,fun j v e=>(hi K hK j (by have:=(List.getElem?_eq_some_iff.1 e).1;exact this)).trans e,h4.1,h4.2⟩
end Go.Proofs.YtncckdaflellnaaGreat.Res
namespace Go.Proofs.YtncckdaflellnaaGreat.Inh
open Res
def atD(D:List Int)(d:Int):Int:=D.getD d.toNat 0
def recD(D:List Int):List EdR→Int→Int
| [],g=>g+1
| e::r,g=>if atD D e.dst=0 then 0 else recD D r (max g (atD D e.dst))
def uniD(D:List Int):List EdR→Int→Int
| [],l=>l
| e::r,l=>if e.bare then 1 else uniD D r (if 0<atD D e.dst∧(l=0∨atD D e.dst+1<l)then atD D e.dst+1 else l)
def depN(D:List Int)(y:NdR):Int:=if y.kind=7 then recD D y.edges 0 else if y.kind=8 then uniD D y.edges 0 else 1
def recC(C:List Int):List EdR→Int→Int
| [],p=>p
| e::r,p=>recC C r (min (p*atD C e.dst) 2)
def uniC(C:List Int):List EdR→Int→Int
| [],s=>min s 2
| e::r,s=>uniC C r (s+if e.bare then 1 else atD C e.dst)
def oneC(b:Prop) [Decidable b]:Int:=if b then 2 else 1
def fstD(y:NdR):Int:=(y.edges.head?.map (·.dst)).getD 0
def cntN(C:List Int)(y:NdR):Int :=
if y.kind=2 then oneC (y.lo<y.hi)else if y.kind=3 then oneC (0<y.most)else if y.kind=4 then min (y.names.length:Int) 2 else
if y.kind=5 then oneC (0<y.most∧0<atD C (fstD y))else if y.kind=6 then oneC (0<atD C (fstD y))else
if y.kind=7 then recC C y.edges 1 else if y.kind=8 then uniC C y.edges 0 else 2
def stp(f:List Int→NdR→Int)(ns:List NdR)(D:List Int):List Int:=ns.map (f D)
def itr(f:List Int→NdR→Int)(ns:List NdR):Nat→List Int
| 0=>ns.map fun _=>0
| k+1=>stp f ns (itr f ns k)
theorem stp_len(f:List Int→NdR→Int)(ns:List NdR)(D:List Int):(stp f ns D).length=ns.length:=List.length_map _
theorem itr_len(f:List Int→NdR→Int)(ns:List NdR):∀k,(itr f ns k).length=ns.length
| 0=>List.length_map _
| _+1=>stp_len _ _ _
theorem atD_stp(f:List Int→NdR→Int)(ns:List NdR)(D:List Int)(j:Int):(∃y,ns[j.toNat]?=some y∧atD (stp f ns D) j=f D y)∨(ns[j.toNat]?=none∧atD (stp f ns D) j=0):=by
 unfold atD stp;rw [List.getD_eq_getElem?_getD,List.getElem?_map];cases h:ns[j.toNat]? with
 | none=>exact .inr ⟨rfl,rfl⟩
 | some y=>exact .inl ⟨y,rfl,rfl⟩
theorem atD_zero(ns:List NdR)(f:List Int→NdR→Int)(j:Int):atD (itr f ns 0) j=0:=by
 unfold atD itr;rw [List.getD_eq_getElem?_getD,List.getElem?_map];cases ns[j.toNat]? <;> rfl
def Rel(d:Int)(D E:List Int):Prop:=∀j,0≤atD D j∧atD D j≤d∧(atD D j≠0→atD E j=atD D j)∧(atD D j=0→atD E j=0∨atD E j=d+1)
def RelN(d a b:Int):Prop:=0≤a∧a≤d∧(a≠0→b=a)∧(a=0→b=0∨b=d+1)
theorem rec_late{d:Int}{D E:List Int}(h:Rel d D E):∀es:List EdR,recD E es (d+1)=0∨recD E es (d+1)=d+2
| []=>.inr (by show d+1+1=d+2;omega)
| e::r=>by
 unfold recD
 split
 ·exact .inl rfl
 ·have:=h e.dst
  have e1:max (d+1) (atD E e.dst)=d+1:=by
   have:atD E e.dst≤d+1:=by
    by_cases q:atD D e.dst=0
    ·rcases this.2.2.2 q with p|p<;>omega
    ·rw [this.2.2.1 q];omega
   omega
  rw [e1];exact rec_late h r
theorem rec_step{d:Int}{D E:List Int}(h:Rel d D E):∀(es:List EdR)(g:Int),0≤g→g≤d→RelN (d+1) (recD D es g) (recD E es g)
| [],g,h0,h1=>⟨by show 0≤g+1;omega,by show g+1≤d+1;omega,fun _=>rfl,fun q=>absurd q (by show g+1≠0;omega)⟩
| e::r,g,h0,h1=>by
 have hj:=h e.dst;unfold recD
 by_cases q:atD D e.dst=0
 ·rw [if_pos q]
  refine⟨Int.le_refl _,by omega,fun c=>absurd rfl c,fun _=>?_⟩;rcases hj.2.2.2 q with p|p
  ·rw [if_pos p];exact .inl rfl
  ·rw [if_neg (by omega),p,show max g (d+1)=d+1 by omega]
   have:=rec_late h r;rw [show d+1+1=d+2 by omega];exact this
 ·rw [if_neg q,hj.2.2.1 q,if_neg q]
  exact rec_step h r _ (by omega) (by omega)
theorem uni_step{d:Int}{D E:List Int}(hd:0≤d)(h:Rel d D E):∀(es:List EdR)(l m:Int),RelN (d+1) l m→RelN (d+1) (uniD D es l) (uniD E es m)
| [],l,m,q=>q
| e::r,l,m,q=>by
 have hj:=h e.dst;unfold uniD
 by_cases b:e.bare=true
 ·rw [if_pos b,if_pos b]
  exact⟨by omega,by omega,fun _=>rfl,fun c=>by omega⟩
 ·rw [if_neg b,if_neg b]
  refine uni_step hd h r _ _ ?_;obtain⟨q1,q2,q3,q4⟩:=q;obtain⟨j1,j2,j3,j4⟩:=hj
  by_cases z:atD D e.dst=0
  ·rw [if_neg (by omega)]
   rcases j4 z with p|p
   ·rw [if_neg (by omega)]
    exact⟨q1,q2,q3,q4⟩
   ·rw [p]
    by_cases zl:l=0
    ·rcases q4 zl with e0|e0
     ·rw [if_pos (by omega)]
      exact⟨q1,q2,fun c=>absurd zl c,fun _=>.inr rfl⟩
     ·rw [if_neg (by omega)]
      exact⟨q1,q2,q3,q4⟩
    ·have:=q3 zl
     rw [if_neg (by omega)];exact⟨q1,q2,q3,q4⟩
  ·rw [j3 z]
   by_cases zl:l=0
   ·rw [if_pos (by omega)]
    rcases q4 zl with e0|e0
    ·rw [if_pos (by omega)]
     exact⟨by omega,by omega,fun _=>rfl,fun c=>by omega⟩
    ·rw [if_pos (by omega)]
     exact⟨by omega,by omega,fun _=>rfl,fun c=>by omega⟩
   ·rw [q3 zl]
    by_cases c:atD D e.dst+1<l
    ·rw [if_pos (by omega)]
     exact⟨by omega,by omega,fun _=>rfl,fun c=>by omega⟩
    ·rw [if_neg (by omega)]
     exact⟨q1,q2,fun _=>rfl,fun c=>absurd c zl⟩
theorem dep_step{d:Int}{D E:List Int}(hd:0≤d)(h:Rel d D E)(y:NdR):RelN (d+1) (depN D y) (depN E y):=by
 unfold depN
 split
 ·exact rec_step h _ 0 (by omega) hd
 ·split
  ·exact uni_step hd h _ 0 0 ⟨by omega,by omega,fun c=>absurd rfl c,fun _=>.inl rfl⟩
  ·exact⟨by omega,by omega,fun _=>rfl,fun c=>by omega⟩
theorem rec_zero{D:List Int}(h:∀j,atD D j=0)(es:List EdR):recD D es 0=0∨recD D es 0=1:=by
 cases es with
 | nil=>exact .inr rfl
 | cons e r=>exact .inl (by unfold recD;rw [if_pos (h _)])
theorem uni_zero{D:List Int}(h:∀j,atD D j=0):∀es:List EdR,uniD D es 0=0∨uniD D es 0=1
| []=>.inl rfl
| e::r=>by
 unfold uniD
 split
 ·exact .inr rfl
 ·rw [if_neg (by rw [h];omega)]
  exact uni_zero h r
theorem dep_rel(ns:List NdR):∀d:Nat,Rel (d:Int) (itr depN ns d) (itr depN ns (d+1))
| 0=>fun j=>by
 have z:=atD_zero ns depN;refine⟨Int.le_of_eq (z j).symm,Int.le_of_eq (z j),fun c=>absurd (z j) c,fun _=>?_⟩;rcases atD_stp depN ns (itr depN ns 0) j with⟨y,-,e⟩|⟨-,e⟩
 ·rw [show itr depN ns (0+1)=stp depN ns (itr depN ns 0)from rfl,e]
  unfold depN
  split
  ·exact rec_zero z _
  ·split
   ·exact uni_zero z _
   ·exact .inr rfl
 ·exact .inl e
| d+1=>fun j=>by
 have ih:=dep_rel ns d;rcases atD_stp depN ns (itr depN ns d) j with⟨y,e0,e⟩|⟨e0,e⟩
 ·have e1:atD (itr depN ns (d+1)) j=depN (itr depN ns d) y:=e
  have e2:atD (itr depN ns (d+1+1)) j=depN (itr depN ns (d+1)) y:=by
   rcases atD_stp depN ns (itr depN ns (d+1)) j with⟨y2,h1,h2⟩|⟨h1,h2⟩
   ·rw [e0,Option.some.injEq]at h1
    subst h1;exact h2
   ·rw [e0]at h1;cases h1
  rw [e1,e2];have:=dep_step (by omega) ih y;exact this
 ·have e1:atD (itr depN ns (d+1)) j=0:=e
  have e2:atD (itr depN ns (d+1+1)) j=0:=by
   rcases atD_stp depN ns (itr depN ns (d+1)) j with⟨y2,h1,h2⟩|⟨h1,h2⟩
   ·rw [e0]at h1;cases h1
   ·exact h2
  rw [e1,e2];exact⟨by omega,by omega,fun c=>absurd rfl c,fun _=>.inl rfl⟩
def zer:List Int→Nat
| []=>0
| a::l=>(if a=0 then 1 else 0)+zer l
theorem zer_le:∀l:List Int,zer l≤l.length
| []=>Nat.le_refl _
| a::l=>by
 have:=zer_le l;show(if a=0 then 1 else 0)+zer l≤l.length+1
 split<;>omega
theorem zer_lt:∀(D E:List Int),D.length=E.length→(∀i:Nat,D.getD i 0≠0→E.getD i 0=D.getD i 0)→zer E≤zer D∧(D≠E→zer E<zer D)
| [],[],_,_=>⟨Nat.le_refl _,fun h=>absurd rfl h⟩
| [],_::_,h,_=>by cases h
| _::_,[],h,_=>by cases h
| a::D,b::E,hl,h=>by
 have ih:=zer_lt D E (by simpa using hl) fun i=>h (i+1)
 have h0:a≠0→b=a:=h 0;show(if b=0 then 1 else 0)+zer E≤(if a=0 then 1 else 0)+zer D∧(_→(if b=0 then 1 else 0)+zer E<(if a=0 then 1 else 0)+zer D)
 by_cases ha:a=0
 ·rw [if_pos ha]
  by_cases hb:b=0
  ·rw [if_pos hb]
   exact⟨by omega,fun q=>by have:=ih.2 (fun c=>q (by rw [ha,hb,c]));omega⟩
  ·rw [if_neg hb]
   exact⟨by omega,fun q=>by omega⟩
 ·have e:=h0 ha
  subst e;rw [if_neg ha];exact⟨by omega,fun q=>by have:=ih.2 (fun c=>q (by rw [c]));omega⟩
def room:List Int→Nat
| []=>0
| a::l=>(2-a).toNat+room l
theorem room_lt:∀(D E:List Int),D.length=E.length→(∀i:Nat,D.getD i 0≤E.getD i 0∧E.getD i 0≤2)→room E≤room D∧(D≠E→room E<room D)
| [],[],_,_=>⟨Nat.le_refl _,fun h=>absurd rfl h⟩
| [],_::_,h,_=>by cases h
| _::_,[],h,_=>by cases h
| a::D,b::E,hl,h=>by
 have ih:=room_lt D E (by simpa using hl) fun i=>h (i+1)
 have h0:a≤b∧b≤2:=h 0;show(2-b).toNat+room E≤(2-a).toNat+room D∧(_→(2-b).toNat+room E<(2-a).toNat+room D)
 by_cases e:a=b
 ·subst e
  exact⟨by omega,fun q=>by have:=ih.2 (fun c=>q (by rw [c]));omega⟩
 ·exact⟨by omega,fun q=>by omega⟩
def LeD(C D:List Int):Prop:=∀j,0≤atD C j∧atD C j≤atD D j∧atD D j≤2
theorem min_mul{p q c d:Int}(h0:0≤p)(h1:p≤q)(h2:0≤c)(h3:c≤d):0≤min (p*c) 2∧min (p*c) 2≤min (q*d) 2:=by
 have a:=Int.mul_nonneg h0 h2;have b:=Int.mul_le_mul h1 h3 h2 (by omega);omega
theorem recC_mono{C D:List Int}(h:LeD C D):∀(es:List EdR)(p q:Int),0≤p→p≤q→q≤2→0≤recC C es p∧recC C es p≤recC D es q∧recC D es q≤2
| [],p,q,h0,h1,h2=>⟨h0,h1,h2⟩
| e::r,p,q,h0,h1,h2=>by
 have m:=min_mul h0 h1 (h e.dst).1 (h e.dst).2.1;exact recC_mono h r _ _ m.1 m.2 (by omega)
theorem uniC_mono{C D:List Int}(h:LeD C D):∀(es:List EdR)(p q:Int),0≤p→p≤q→0≤uniC C es p∧uniC C es p≤uniC D es q∧uniC D es q≤2
| [],p,q,h0,h1=>by show 0≤min p 2∧min p 2≤min q 2∧min q 2≤2;omega
| e::r,p,q,h0,h1=>by
 have:=h e.dst;unfold uniC
 by_cases b:e.bare=true
 ·rw [if_pos b,if_pos b]
  exact uniC_mono h r _ _ (by omega) (by omega)
 ·rw [if_neg b,if_neg b]
  exact uniC_mono h r _ _ (by omega) (by omega)
theorem oneC_bd(b:Prop) [Decidable b]:1≤oneC b∧oneC b≤2:=by unfold oneC;split<;>omega
theorem oneC_mono(b c:Prop) [Decidable b] [Decidable c](h:b→c):0≤oneC b∧oneC b≤oneC c∧oneC c≤2:=by
 unfold oneC
 by_cases q:b
 ·rw [if_pos q,if_pos (h q)];omega
 ·rw [if_neg q];split<;>omega
theorem cnt_mono{C D:List Int}(h:LeD C D)(y:NdR):0≤cntN C y∧cntN C y≤cntN D y∧cntN D y≤2:=by
 unfold cntN;have h5:=h (fstD y)
 split
 ·exact oneC_mono _ _ id
 ·split
  ·exact oneC_mono _ _ id
  ·split
   ·omega
   ·split
    ·exact oneC_mono _ _ fun q=>⟨q.1,by omega⟩
    ·split
     ·exact oneC_mono _ _ fun q=>by omega
     ·split
      ·exact recC_mono h _ 1 1 (by omega) (by omega) (by omega)
      ·split
       ·exact uniC_mono h _ 0 0 (by omega) (by omega)
       ·omega
theorem stp_mono{C D:List Int}(h:LeD C D)(ns:List NdR):LeD (stp cntN ns C) (stp cntN ns D):=fun j=>by
 rcases atD_stp cntN ns C j with⟨y,e0,e⟩|⟨e0,e⟩
 ·rcases atD_stp cntN ns D j with⟨y2,h1,h2⟩|⟨h1,h2⟩
  ·rw [e0,Option.some.injEq]at h1
   subst h1;rw [e,h2];exact cnt_mono h y
  ·rw [e0]at h1;cases h1
 ·rcases atD_stp cntN ns D j with⟨y2,h1,h2⟩|⟨h1,h2⟩
  ·rw [e0]at h1;cases h1
  ·rw [e,h2];omega
theorem cnt_rel(ns:List NdR):∀d:Nat,LeD (itr cntN ns d) (itr cntN ns (d+1))
| 0=>fun j=>by
 have z:=atD_zero ns cntN;have l0:LeD (itr cntN ns 0) (itr cntN ns 0):=fun j=>by rw [z];omega
 rw [z];have:=(stp_mono l0 ns) j;exact⟨Int.le_refl _,this.1,Int.le_trans this.2.1 this.2.2⟩
| d+1=>stp_mono (cnt_rel ns d) ns
structure GoodY(y:NdR):Prop where
kb:1≤y.kind∧y.kind≤8
e56:y.kind=5∨y.kind=6→∃e,y.edges=[e]∧e.bare=false
e7:y.kind=7→∀e∈y.edges,e.bare=false
n4:y.kind=4→y.names≠[]
m3:y.kind=3∨y.kind=5→0≤y.most∧y.most≤4096
le:y.edges.length≤64
ln:y.names.length≤64
def onB(K:Int→Bool)(y:NdR):Bool :=
if y.kind=7 then y.edges.all (fun e=>e.bare||K e.dst)else if y.kind=8 then y.edges.any (fun e=>e.bare||K e.dst)else true
def posD(D:List Int)(j:Int):Bool:=decide (atD D j≠0)
theorem rec_on{D:List Int}(h:∀j,0≤atD D j):∀(es:List EdR)(g:Int),0≤g→(∀e∈es,e.bare=false)→(recD D es g≠0↔es.all (fun e=>e.bare||posD D e.dst)=true)
| [],g,h0,_=>⟨fun _=>rfl,fun _=>by show g+1≠0;omega⟩
| e::r,g,h0,hb=>by
 have b0:=hb e List.mem_cons_self;unfold recD;rw [List.all_cons,b0]
 by_cases q:atD D e.dst=0
 ·rw [if_pos q]
  exact⟨fun c=>absurd rfl c,fun c=>by simp [posD,q]at c⟩
 ·rw [if_neg q]
  have:=rec_on h r (max g (atD D e.dst)) (by omega) fun x hx=>hb x (List.mem_cons_of_mem _ hx)
  rw [this];simp [posD,q]
theorem uni_on{D:List Int}(h:∀j,0≤atD D j):∀(es:List EdR)(l:Int),0≤l→(uniD D es l≠0↔(l≠0∨es.any (fun e=>e.bare||posD D e.dst)=true))∧0≤uniD D es l
| [],l,h0=>⟨⟨fun c=>.inl c,fun c=>by rcases c with c|c;exact c;cases c⟩,h0⟩
| e::r,l,h0=>by
 unfold uniD;rw [List.any_cons]
 by_cases b:e.bare=true
 ·rw [if_pos b,b]
  exact⟨⟨fun _=>.inr rfl,fun _=>by decide⟩,by decide⟩
 ·rw [if_neg b]
  have b':e.bare=false:=by simpa using b
  have hj:=h e.dst
  by_cases q:atD D e.dst=0
  ·rw [if_neg (by omega),b',show posD D e.dst=false by simp [posD,q]]
   exact uni_on h r l h0
  ·have hp:posD D e.dst=true:=by simp [posD,q]
   by_cases c:0<atD D e.dst∧(l=0∨atD D e.dst+1<l)
   ·rw [if_pos c]
    have:=uni_on h r (atD D e.dst+1) (by omega);exact⟨⟨fun _=>.inr (by rw [hp];simp),fun _=>this.1.2 (.inl (by omega))⟩,this.2⟩
   ·rw [if_neg c]
    have:=uni_on h r l h0;exact⟨⟨fun _=>.inr (by rw [hp];simp),fun _=>this.1.2 (.inl (by omega))⟩,this.2⟩
theorem dep_on{D:List Int}(h:∀j,0≤atD D j){y:NdR}(g:GoodY y):depN D y≠0↔onB (posD D) y=true:=by
 unfold depN onB
 by_cases k7:y.kind=7
 ·rw [if_pos k7,if_pos k7]
  exact rec_on h _ 0 (by decide) (g.e7 k7)
 ·rw [if_neg k7,if_neg k7]
  by_cases k8:y.kind=8
  ·rw [if_pos k8,if_pos k8,(uni_on h y.edges 0 (by decide)).1]
   exact⟨fun c=>by rcases c with c|c;exact absurd rfl c;exact c,.inr⟩
  ·rw [if_neg k8,if_neg k8]
   exact⟨fun _=>rfl,fun _=>by decide⟩
theorem recC_on{C:List Int}(h:∀j,0≤atD C j):∀(es:List EdR)(p:Int),0≤p→(∀e∈es,e.bare=false)→(recC C es p≠0↔(p≠0∧es.all (fun e=>e.bare||posD C e.dst)=true))
| [],p,_,_=>⟨fun c=>⟨c,rfl⟩,fun c=>c.1⟩
| e::r,p,h0,hb=>by
 have b0:=hb e List.mem_cons_self;have hj:=h e.dst;unfold recC;have m0:=Int.mul_nonneg h0 hj;rw [recC_on h r _ (by omega) fun x hx=>hb x (List.mem_cons_of_mem _ hx),List.all_cons,b0]
 by_cases q:atD C e.dst=0
 ·rw [q,Int.mul_zero]
  rw [show min (0:Int) 2=0 from rfl];simp [posD,q]
 ·by_cases p0:p=0
  ·subst p0
   rw [Int.zero_mul,show min (0:Int) 2=0 from rfl];simp
  ·have:p*atD C e.dst≠0:=Int.mul_ne_zero p0 q
   have hp:posD C e.dst=true:=by simp [posD,q]
   rw [hp];exact⟨fun c=>⟨p0,by simpa using c.2⟩,fun c=>⟨by omega,by simpa using c.2⟩⟩
theorem uniC_on{C:List Int}(h:∀j,0≤atD C j):∀(es:List EdR)(s:Int),0≤s→(uniC C es s≠0↔(s≠0∨es.any (fun e=>e.bare||posD C e.dst)=true))
| [],s,h0=>by
 show min s 2≠0↔_;exact⟨fun c=>.inl (by omega),fun c=>by rcases c with c|c;omega;cases c⟩
| e::r,s,h0=>by
 have hj:=h e.dst;unfold uniC;rw [List.any_cons]
 by_cases b:e.bare=true
 ·rw [if_pos b,b,uniC_on h r _ (by omega)]
  exact⟨fun _=>.inr rfl,fun _=>.inl (by omega)⟩
 ·have b':e.bare=false:=by simpa using b
  rw [if_neg b,b',uniC_on h r _ (by omega)]
  by_cases q:atD C e.dst=0
  ·rw [q,Int.add_zero,show posD C e.dst=false by simp [posD,q]]
   rfl
  ·rw [show posD C e.dst=true by simp [posD,q]]
   exact⟨fun _=>.inr rfl,fun _=>.inl (by omega)⟩
theorem cnt_on{C:List Int}(h:∀j,0≤atD C j){y:NdR}(g:GoodY y):cntN C y≠0↔onB (posD C) y=true:=by
 unfold cntN onB
 by_cases k7:y.kind=7
 ·rw [if_neg (by omega),if_neg (by omega),if_neg (by omega),if_neg (by omega),if_neg (by omega),if_pos k7,if_pos k7,recC_on h _ 1 (by decide) (g.e7 k7)]
  exact⟨fun c=>c.2,fun c=>⟨by decide,c⟩⟩
 ·by_cases k8:y.kind=8
  ·rw [if_neg (by omega),if_neg (by omega),if_neg (by omega),if_neg (by omega),if_neg (by omega),if_neg k7,if_pos k8,if_neg k7,if_pos k8,uniC_on h _ 0 (by decide)]
   exact⟨fun c=>by rcases c with c|c;exact absurd rfl c;exact c,.inr⟩
  ·rw [if_neg k7,if_neg k8,if_neg k7,if_neg k8]
   refine⟨fun _=>rfl,fun _=>?_⟩;have n1:=oneC_bd (y.lo<y.hi);have n2:=oneC_bd (0<y.most);have n3:=oneC_bd (0<y.most∧0<atD C (fstD y));have n4:=oneC_bd (0<atD C (fstD y))
   split
   ·omega
   ·split
    ·omega
    ·split
     ·rename_i q
      have:=List.length_pos_iff.2 (g.n4 q);omega
     ·split
      ·omega
      ·split<;>omega
def GoodL(ns:List NdR):Prop:=∀y∈ns,GoodY y
theorem onB_congr{K L:Int→Bool}(h:∀j,K j=L j)(y:NdR):onB K y=onB L y:=by
 have:K=L:=funext h;rw [this]
theorem dep_nn(ns:List NdR)(d:Nat)(j:Int):0≤atD (itr depN ns d) j:=(dep_rel ns d j).1
theorem cnt_nn(ns:List NdR)(d:Nat)(j:Int):0≤atD (itr cntN ns d) j:=(cnt_rel ns d j).1
theorem same_pos{ns:List NdR}(g:GoodL ns):∀(d:Nat)(j:Int),posD (itr depN ns d) j=posD (itr cntN ns d) j
| 0,j=>by unfold posD;rw [atD_zero,atD_zero]
| d+1,j=>by
 have ih:=same_pos g d;unfold posD;rcases atD_stp depN ns (itr depN ns d) j with⟨y,e0,e⟩|⟨e0,e⟩
 ·rcases atD_stp cntN ns (itr cntN ns d) j with⟨y2,h1,h2⟩|⟨h1,h2⟩
  ·rw [e0,Option.some.injEq]at h1
   subst h1;have gy:=g y (List.mem_of_getElem? e0);rw [show atD (itr depN ns (d+1)) j=_ from e,show atD (itr cntN ns (d+1)) j=_ from h2,decide_eq_decide,dep_on (dep_nn ns d) gy,cnt_on (cnt_nn ns d) gy,onB_congr ih]
  ·rw [e0]at h1;cases h1
 ·rcases atD_stp cntN ns (itr cntN ns d) j with⟨y2,h1,h2⟩|⟨h1,h2⟩
  ·rw [e0]at h1;cases h1
  ·rw [show atD (itr depN ns (d+1)) j=_ from e,show atD (itr cntN ns (d+1)) j=_ from h2]
theorem itr_fix{f:List Int→NdR→Int}{ns:List NdR}{k:Nat}(h:stp f ns (itr f ns k)=itr f ns k):∀m,itr f ns (k+m)=itr f ns k
| 0=>rfl
| m+1=>by
 show stp f ns (itr f ns (k+m))=_;rw [itr_fix h m,h]
theorem itr_one{f:List Int→NdR→Int}{ns:List NdR}{k j:Nat}(h:stp f ns (itr f ns k)=itr f ns k)(h2:stp f ns (itr f ns j)=itr f ns j):itr f ns k=itr f ns j:=by
 rw [←itr_fix h j,Nat.add_comm,itr_fix h2 k]
theorem atD_get(D:List Int)(i:Nat):atD D (i:Int)=D.getD i 0:=by unfold atD;rw [Int.toNat_natCast]
theorem dep_zer(ns:List NdR)(d:Nat):zer (itr depN ns (d+1))≤zer (itr depN ns d)∧(itr depN ns d≠itr depN ns (d+1)→zer (itr depN ns (d+1))<zer (itr depN ns d)) :=
zer_lt _ _ (by rw [itr_len,itr_len]) fun i h=>by
 have:=(dep_rel ns d (i:Int)).2.2.1;rw [atD_get,atD_get]at this;exact this h
theorem dep_settle(ns:List NdR):∀d:Nat,stp depN ns (itr depN ns d)=itr depN ns d∨zer (itr depN ns d)+d≤ns.length
| 0=>.inr (by have:=zer_le (itr depN ns 0);rw [itr_len]at this;omega)
| d+1=>by
 by_cases q:itr depN ns d=itr depN ns (d+1)
 ·exact .inl (by show stp depN ns (itr depN ns (d+1))=_;rw [←q];exact q.symm)
 ·rcases dep_settle ns d with h|h
  ·exact absurd h.symm q
  ·have:=(dep_zer ns d).2 q
   exact .inr (by omega)
theorem zer_pos:∀(D E:List Int),D.length=E.length→zer D=0→(∀i:Nat,D.getD i 0≠0→E.getD i 0=D.getD i 0)→D=E
| [],[],_,_,_=>rfl
| [],_::_,h,_,_=>by cases h
| _::_,[],h,_,_=>by cases h
| a::D,b::E,hl,hz,h=>by
 have hz':(if a=0 then 1 else 0)+zer D=0:=hz;have ha:a≠0:=fun q=>by rw [if_pos q]at hz';omega
 have h0:b=a:=h 0 ha;rw [h0,zer_pos D E (by simpa using hl) (by omega) fun i=>h (i+1)]
theorem dep_done(ns:List NdR):stp depN ns (itr depN ns ns.length)=itr depN ns ns.length:=by
 rcases dep_settle ns ns.length with h|h
 ·exact h
 ·refine(zer_pos _ _ (by rw [itr_len,stp_len]) (by omega) fun i q=>?_).symm
  have:=(dep_rel ns ns.length (i:Int)).2.2.1;rw [atD_get,atD_get]at this;exact this q
end Go.Proofs.YtncckdaflellnaaGreat.Inh
namespace Go.Proofs.YtncckdaflellnaaGreat
open Go.RowKit Go.Lib
structure GW(W:World)(p q:Nat) where
w:World
s:W.heap.size≤w.heap.size
b:∀k,k<W.heap.size→k≠p→k≠q→w.heap[k]?=W.heap[k]?
theorem GW.cell{W:World}{p q:Nat}(x:GW W p q){g o:Nat}(h:g<W.heap.size)(h1:g≠p)(h2:g≠q){u:Value}(hc:W.cell? ⟨g,o,none⟩=some u):x.w.cell? ⟨g,o,none⟩=some u:=(World.cell?_of_block (a:=⟨g,o,none⟩) (x.b g h h1 h2)).trans hc
theorem wp_region_mixG{P:Program}{id:Nat}{Q:Exit→Act→World→Prop}{a:Act}{w:World}{l:List Oper}(p q:Nat)(segs:List (List Nat×Nat))(last:List Nat)(hm:P.follows .mixedOrders=true)(hs:Region.noSelect l.toArray=true)
 (hB:mixB .any l.toArray segs last (Array.replicate l.toArray.size false)=true) (hN:mixN segs last=l.toArray.size) (hQ:∀c a d v w,Q (.panic c) (a.put d v) w→Q (.panic c) a w)
 (h:mixP P l.toArray (fun w'=>∃x:GW w p q,w'=x.w) Q segs last a (w.drewN 1)):(Code.region id l.toArray true).wp P Q a w :=
wp_region_any hm (any_of_C (C:=fun w'=>∃x:GW w p q,w'=x.w) _ _ _ _ (by
 have:=mix_any hs hQ segs last _ a _ (C:=fun w'=>∃x:GW w p q,w'=x.w) ⟨⟨w.drewN 1,Nat.le_refl _,fun k hk _ _=>rfl⟩,rfl⟩ hB h;rw [hN]at this;exact this))
theorem GW.set{W W':World}{p q o:Nat}(h:∃x:GW W p q,W'=x.w)(a:Value):∃x:GW W p q,W'.setCell ⟨q,o,none⟩ a=x.w:=by
 obtain⟨⟨W',s,bl⟩,rfl⟩:=h;exact⟨⟨_,Nat.le_trans s ((Below.refl q W').setCell (p:=⟨q,o,none⟩) (Nat.le_refl _) a).size,fun k hk h1 h2=>(Below.heap_setCell _ ⟨q,o,none⟩ a k h2).trans (bl k hk h1 h2)⟩,rfl⟩
theorem GW.bl{W W':World}{p q:Nat}(h:Below W.heap.size W W'):∃x:GW W p q,W'=x.w:=⟨⟨W',h.size,fun k hk _ _=>h.block k hk⟩,rfl⟩
end Go.Proofs.YtncckdaflellnaaGreat
namespace Go.Proofs.YtncckdaflellnaaGreat.Unp
open Go.RowKit Go.Lib
theorem blt{V:World}{b:Nat}{o:Obj}(h:V.heap[b]?=some o):b<V.heap.size:=(Array.getElem?_eq_some_iff.1 h).1
end Go.Proofs.YtncckdaflellnaaGreat.Unp
namespace Go.Proofs.YtncckdaflellnaaGreat.Unp
open Go.RowKit Go.Lib Nam Lat Kin Dig
theorem RdNs.op{w:World}{v:Value}{l:List Nd}(h:RdNs w v l):∃(A:Option Addr)(c:Nat),v=.slice A l.length c∧l.length≤c∧(0<l.length→∃g o,A=some ⟨g,o,none⟩∧g<w.heap.size ∧
∀i,i<l.length→∃nv pv,RdY w (nN l i).2.1 (nN l i).2.2 nv pv∧∀j u,[Value.string (nN l i).1.1,.int .i64 (nN l i).1.2,.int .i64 (nN l i).2.1.kind,.int .i64 (nN l i).2.1.at_,.int .i64 (nN l i).2.1.lo,.int .i64 (nN l i).2.1.hi,.int .i64 (nN l i).2.1.most,nv,pv,.string (nN l i).2.1.name,.int .i64 (nN l i).2.1.nat][j]?=some u→w.cell? ⟨g,o+i*11+j,none⟩=some u):=h
theorem mem_nN{l:List Nd}{i:Nat}(h:i<l.length):nN l i∈l:=by rw [nN_get h];exact List.getElem_mem h
theorem refgreat_calls(s:Sc)(gs:GoodS s)(lv ov tv nv pv:Value)(w:World)(rd:RdSc w s lv ov tv nv pv)(R:Ending→World→Prop)
  (hR:Hid (∀w' (y:Bool),Below w.heap.size w w'→(y=false→s.1.length≤100∧s.2.1.length≤400∧s.2.2.1.length≤100)→R (.returned (.bool y)) w')):Calls Tryz.prog 23 #[scV s lv ov tv nv pv] w R:=by
 have hl1:s.1.length≤9223372036854775807:=gs.ll;have hl2:s.2.1.length≤9223372036854775807:=gs.ol;have hl3:s.2.2.1.length≤9223372036854775807:=gs.tl;obtain⟨A1,c1,rfl,-,-⟩:=rd.l.op;obtain⟨A2,c2,rfl,-,-⟩:=RdPr.op rd.o;obtain⟨A3,c3,rfl,-,-⟩:=rd.t.op;obtain⟨N1,N3,rfl,-,-⟩:=rd.r.n.op;obtain⟨M1,M3,rfl,-⟩:=rd.r.p.sl;have hA:=heap_alloc_new w (.cells #[.slice A1 s.1.length c1,.slice A2 s.2.1.length c2,.slice A3 s.2.2.1.length c3,.int .i64 s.2.2.2.1.kind,.int .i64 s.2.2.2.1.at_,.int .i64 s.2.2.2.1.lo,.int .i64 s.2.2.2.1.hi,.int .i64 s.2.2.2.1.most,.slice N1 s.2.2.2.1.names.length N3,.slice M1 s.2.2.2.2.len M3,.string s.2.2.2.1.name,.int .i64 s.2.2.2.1.nat] 31);have n:=(Below.refl w.heap.size w).alloc (Nat.le_refl _) (.cells #[.slice A1 s.1.length c1,.slice A2 s.2.1.length c2,.slice A3 s.2.2.1.length c3,.int .i64 s.2.2.2.1.kind,.int .i64 s.2.2.2.1.at_,.int .i64 s.2.2.2.1.lo,.int .i64 s.2.2.2.1.hi,.int .i64 s.2.2.2.1.most,.slice N1 s.2.2.2.1.names.length N3,.slice M1 s.2.2.2.2.len M3,.string s.2.2.2.1.name,.int .i64 s.2.2.2.1.nat] 31);replace rd:=rd.below n;go_enter Tryz.func23,Tryz.ntmps23
 go_upto_region 1 with fail
 generalize w.alloc (.cells #[.slice A1 s.1.length c1,.slice A2 s.2.1.length c2,.slice A3 s.2.2.1.length c3,.int .i64 s.2.2.2.1.kind,.int .i64 s.2.2.2.1.at_,.int .i64 s.2.2.2.1.lo,.int .i64 s.2.2.2.1.hi,.int .i64 s.2.2.2.1.most,.slice N1 s.2.2.2.1.names.length N3,.slice M1 s.2.2.2.2.len M3,.string s.2.2.2.1.name,.int .i64 s.2.2.2.1.nat] 31)=V at *;generalize w.heap.size=P at hA ⊢
 by_cases h1:100<s.1.length
 ·have i1:(100:Int)<(s.1.length:Int):=by omega
  have fin:=Lib.hid (hR.out _ true n (fun h=>by cases h));clear hR rd gs;have a0:=(Lib.cell_of_heap hA 0).trans rfl;have a1:=(Lib.cell_of_heap hA 1).trans rfl;have a2:=(Lib.cell_of_heap hA 2).trans rfl;go_wp2_with fail
  exact fin.out
 have i1:¬(100:Int)<(s.1.length:Int):=by omega
 by_cases h2:400<s.2.1.length
 ·have i2:(400:Int)<(s.2.1.length:Int):=by omega
  have fin:=Lib.hid (hR.out _ true n (fun h=>by cases h));clear hR rd gs;have a0:=(Lib.cell_of_heap hA 0).trans rfl;have a1:=(Lib.cell_of_heap hA 1).trans rfl;have a2:=(Lib.cell_of_heap hA 2).trans rfl;go_wp2_with fail
  exact fin.out
 have i2:¬(400:Int)<(s.2.1.length:Int):=by omega
 by_cases h3:100<s.2.2.1.length
 ·have i3:(100:Int)<(s.2.2.1.length:Int):=by omega
  have fin:=Lib.hid (hR.out _ true n (fun h=>by cases h));clear hR rd gs;have a0:=(Lib.cell_of_heap hA 0).trans rfl;have a1:=(Lib.cell_of_heap hA 1).trans rfl;have a2:=(Lib.cell_of_heap hA 2).trans rfl;go_wp2_with fail
  exact fin.out
 have i3:¬(100:Int)<(s.2.2.1.length:Int):=by omega
 have hR2:Hid (∀w' (y:Bool),Below w.heap.size w w'→R (.returned (.bool y)) w'):=Lib.hid fun w' y m=>hR.out w' y m fun _=>⟨by omega,by omega,by omega⟩
 replace hR2:=Lib.hid hR2;clear hR h1 h2 h3;obtain⟨A3',c3',e3s,-,hrd⟩:=rd.t.op;simp only[Value.slice.injEq]at e3s;obtain⟨rfl,-,rfl⟩:=e3s;replace hrd:=Lib.hid hrd;have cS:=Lib.hid fun R hR=>size15_calls s.2.2.2.2 s.2.2.2.1 (.slice N1 s.2.2.2.1.names.length N3) (.slice M1 s.2.2.2.2.len M3) V gs.gl gs.g rd.r R hR
 have rT:V.rangeAt P 3 [.int .i64 s.2.2.2.1.kind,.int .i64 s.2.2.2.1.at_,.int .i64 s.2.2.2.1.lo,.int .i64 s.2.2.2.1.hi,.int .i64 s.2.2.2.1.most,.slice N1 s.2.2.2.1.names.length N3,.slice M1 s.2.2.2.2.len M3,.string s.2.2.2.1.name,.int .i64 s.2.2.2.1.nat]:=fun j v h=>by rw [Lib.cell_of_heap hA,List.getElem?_toArray,←List.getElem?_drop];exact h
 have a0:=(Lib.cell_of_heap hA 0).trans rfl;have a1:=(Lib.cell_of_heap hA 1).trans rfl;have a2:=(Lib.cell_of_heap hA 2).trans rfl;go_wp2_with (refine wpList_load_g (by rfl) 29 _ rfl P 3 rfl [.int .i64 s.2.2.2.1.kind,.int .i64 s.2.2.2.1.at_,.int .i64 s.2.2.2.1.lo,.int .i64 s.2.2.2.1.hi,.int .i64 s.2.2.2.1.most,.slice N1 s.2.2.2.1.names.length N3,.slice M1 s.2.2.2.2.len M3,.string s.2.2.2.1.name,.int .i64 s.2.2.2.1.nat] _ rT Tryz.underlying29 rfl (by kernel_rfl) ?_;go_simp)
 refine cS.out _ (Lib.hid fun w1 m1=>?_);have hlA:=blt hA;have hAV:=Lib.hid hA;replace hA:=(m1.block _ hlA).trans hA;have nV:=m1;clear cS rT m1 a0 a1 a2 i1 i2 i3;generalize cW s.2.2.2.2 1=NN at *;generalize wrap64 (dW s.2.2.2.2 0+1)=DD at *;have a2:=(Lib.cell_of_heap hA 2).trans rfl;go_upto_region 5 with fail
 clear a2;replace hA:=Lib.hid hA;go_loopg [3,4,5] s.2.2.1.length (fun g0 s3 s4 i wr=>∃(J:Nat) (p q:Int),s3=.int .i64 p∧s4=.int .i64 q∧i=.int .i64 J∧J+g0=s.2.2.1.length∧Hid (Below V.heap.size V wr))
 case atStart=>exact⟨0,_,_,rfl,rfl,rfl,by omega,Lib.hid nV⟩
 case round =>
  clear nV;obtain⟨J,p,q,rfl,rfl,rfl,c1',nb⟩:=hrel;replace nb:=nb.out;have hAr:=(nb.block _ hlA).trans hAV.out
  by_cases hJ:J<s.2.2.1.length
  ·obtain⟨g,o,rfl,hg,hca⟩:=hrd.out (by omega)
   obtain⟨nx,px,ry,hcl⟩:=hca J hJ;obtain⟨N1',N3',rfl,-,-⟩:=ry.n.op;obtain⟨M1',M3',rfl,-⟩:=ry.p.sl;have hgn:=gs.t _ (mem_nN hJ);generalize nN s.2.2.1 J=n' at *;have rT:wr.rangeAt g (o+J*11+2) [.int .i64 n'.2.1.kind,.int .i64 n'.2.1.at_,.int .i64 n'.2.1.lo,.int .i64 n'.2.1.hi,.int .i64 n'.2.1.most,.slice N1' n'.2.1.names.length N3',.slice M1' n'.2.2.len M3',.string n'.2.1.name,.int .i64 n'.2.1.nat]:=fun j v q=>(nb.cell (p:=⟨g,o+J*11+2+j,none⟩) hg).trans (by rw [Nat.add_assoc];exact hcl (2+j) v (by rw [←List.getElem?_drop];exact q))
   have cS:=Lib.hid fun R hR=>size15_calls n'.2.2 n'.2.1 (.slice N1' n'.2.1.names.length N3') (.slice M1' n'.2.2.len M3') wr hgn.2.2.2 hgn.2.2.1 (ry.below nb) R hR
   have i0:(0:Int)≤(J:Int):=by omega
   have i1:(J:Int)<(s.2.2.1.length:Int):=by omega
   clear hca hcl;have a2:=(Lib.cell_of_heap hAr 2).trans rfl;go_wp2_with (refine wpList_load_g (by rfl) 29 _ rfl g (o+J*11+2) rfl [.int .i64 n'.2.1.kind,.int .i64 n'.2.1.at_,.int .i64 n'.2.1.lo,.int .i64 n'.2.1.hi,.int .i64 n'.2.1.most,.slice N1' n'.2.1.names.length N3',.slice M1' n'.2.2.len M3',.string n'.2.1.name,.int .i64 n'.2.1.nat] _ rT Tryz.underlying29 rfl (by kernel_rfl) ?_;go_simp)
   refine cS.out _ (Lib.hid fun w2 m2=>?_);have nb2:=Lib.hid (nb.trans (m2.mono nb.size));clear cS rT m2 a2 ry;generalize cW n'.2.2 1=k at *;generalize wrap64 (dW n'.2.2 0+1)=d at *
   by_cases hd:q<d
   ·go_wp2_with fail
    go_roundg (gk-1)
    case measure=>omega
    case rel=>exact⟨J+1,_,_,rfl,rfl,by go_num,by omega,nb2⟩
   ·go_wp2_with fail
    go_roundg (gk-1)
    case measure=>omega
    case rel=>exact⟨J+1,_,_,rfl,rfl,by go_num,by omega,nb2⟩
  ·obtain rfl:J=s.2.2.1.length:=by omega
   have a2:=(Lib.cell_of_heap hAr 2).trans rfl;have hR3:=Lib.hid fun(y:Bool)=>hR2.out.out wr y (n.trans (nb.mono n.size))
   clear hR2
   by_cases hp:2000<p
   ·go_wp2_with fail
    exact hR3.out true
   ·by_cases hd:60<q
    ·go_wp2_with fail
     exact hR3.out true
    ·go_wp2_with fail
     exact hR3.out false
end Go.Proofs.YtncckdaflellnaaGreat.Unp
