import Derived.Test.YtabhkakomececaaGreatQ8
set_option linter.all false
set_option maxRecDepth 100000
set_option maxHeartbeats 4000000
namespace Go.Proofs.YtabhkakomececaaGreat
namespace Dig
open Go.Lib Utf
def decL(n:Nat):List Int:=if n<10 then[48+(n:Int)]else decL (n/10)++[48+((n%10:Nat):Int)]
termination_by n
decreasing_by omega
def Dg(l:List Int):Prop:=∀x∈l,48≤x∧x≤57
def valA(a:Nat)(l:List Int):Nat:=l.foldl (fun a x=>10*a+(x-48).toNat) a
def valN(l:List Int):Nat:=valA 0 l
def lessL:List Int→List Int→Bool
| _,[]=>false
| [],_::_=>true
| a::x,b::y=>decide (a<b)||(decide (a=b)&&lessL x y)
def putL(n:Int):List Int:=if n<0 then 45::decL n.natAbs else decL n.toNat
def putS(n:Int):ByteArray:=strOfNums (putL n)
def isDB(x:Int):Bool:=decide (48≤x∧x≤57)
def dgs(s:ByteArray)(i:Nat):List Int:=((bl s).drop i).takeWhile isDB
def tkN(s:ByteArray)(a:Nat):Int×Int×Int×Int :=
let neg:=a<s.size∧byN s a=45
let f:=if neg then a+1 else a
if dgs s f=[]then(0,0,if f=s.size then 5 else 19,f)
else if byN s f=48∧(1<(dgs s f).length∨neg)then(0,0,19,a)
else if neg then(if 9223372036854775808<valN (dgs s f)then(0,0,13,a)else(-(valN (dgs s f):Int),(f+(dgs s f).length:Nat),0,0))
else(if 9223372036854775807<valN (dgs s f)then(0,0,13,a)else((valN (dgs s f):Int),(f+(dgs s f).length:Nat),0,0))
def tkS(s:ByteArray)(i:Int):Int×Int×Int×Int:=if i<0∨(s.size:Int)<i then(0,0,1,0)else tkN s i.toNat
def paS(s:ByteArray):Int×Int×Int :=
let t:=tkS s 0
if t.2.2.1≠0 then(0,t.2.2)else if t.2.1<s.size then(0,19,t.2.1)else(t.1,0,0)
end Dig
namespace Pat
open Go.Lib Utf Nam Dig
abbrev St:=Int×Int×ByteArray
def Named(x:St):Prop:=x.1=1∨x.1=5
instance (x:St):Decidable (Named x):=by unfold Named;infer_instance
def RightSt(x:St):Prop:=1≤x.1∧x.1≤5∧(Named x↔x.2.2.size≠0)∧(Named x→rightS x.2.2=true)∧(x.1≠2→x.2.1=0)∧0≤x.2.1
instance (x:St):Decidable (RightSt x):=by unfold RightSt;infer_instance
def RightP(l:List St):Prop:=l.length≤64∧∀x∈l,RightSt x
instance (l:List St):Decidable (RightP l):=by unfold RightP;infer_instance
theorem size0{a:ByteArray}(h:a.size=0):a=⟨#[]⟩:=by
 have:a.data.size=0:=h;exact ByteArray.ext (Array.eq_empty_of_size_eq_zero this)
theorem rightS_pos{nm:ByteArray}(h:rightS nm=true):0<nm.size∧nm.size≤32∧sigS nm 0=nm.size:=by unfold rightS at h;simpa using h
def txt(x:St):List Int:=if x.1=1 then 46::bl x.2.2 else if x.1=2 then 91::(putL x.2.1++[93])else if x.1=3 then[91,93]else if x.1=4 then[63]else if x.1=5 then 33::bl x.2.2 else[]
def fmtL(l:List St):List Int:=l.flatMap txt
def fmtS(l:List St):ByteArray:=if RightP l then strOfNums (fmtL l)else⟨#[]⟩
def stpS(s:ByteArray)(i:Nat):St×Int×Int×Int :=
if byN s i=46∨byN s i=33 then
 (if sigS s (i+1)<1∨32<sigS s (i+1)then((0,0,⟨#[]⟩),0,9,((i+1:Nat):Int))
  else((if byN s i=33 then 5 else 1,0,s.extract (i+1) (i+1+sigS s (i+1))),((i+1+sigS s (i+1):Nat):Int),0,0))
else if byN s i=63 then((4,0,⟨#[]⟩),((i+1:Nat):Int),0,0)
else if byN s i≠91 then((0,0,⟨#[]⟩),0,4,(i:Int))
else if i+1<s.size∧byN s (i+1)=93 then((3,0,⟨#[]⟩),((i+2:Nat):Int),0,0)
else if(tkN s (i+1)).2.2.1≠0 then((0,0,⟨#[]⟩),0,(tkN s (i+1)).2.2.1,(tkN s (i+1)).2.2.2)
else if(tkN s (i+1)).1<0 then((0,0,⟨#[]⟩),0,20,((i+1:Nat):Int))
else if(s.size:Int)≤(tkN s (i+1)).2.1∨byN s (tkN s (i+1)).2.1.toNat≠93 then((0,0,⟨#[]⟩),0,4,(tkN s (i+1)).2.1)
else((2,(tkN s (i+1)).1,⟨#[]⟩),(tkN s (i+1)).2.1+1,0,0)
def Behind(r:List Int):Prop:=∀x,r.head?=some x→x=46∨x=91∨x=63∨x=33
def parF(s:ByteArray):Nat→Nat→List St→List St×Int×Int
| 0,i,acc=>(acc,0,0)
| f+1,i,acc=>if i<s.size then(if 63<acc.length then([],8,(i:Int))else if(stpS s i).2.2.1≠0 then([],(stpS s i).2.2.1,(stpS s i).2.2.2)else parF s f (stpS s i).2.1.toNat (acc++[(stpS s i).1]))else(acc,0,0)
def parS(s:ByteArray):List St×Int×Int:=parF s (s.size+1) 0 []
end Pat
namespace Lab
open Utf Rel Nam Lat Pat
section
variable {n:Nat} {F:Nat→Nat→Bool}
def overB(F:Nat→Nat→Bool)(l:List Nat)(c:Nat):Bool:=l.all fun a=>F a c
theorem over_iff{l:List Nat}{c:Nat}:overB F l c=true↔∀a∈l,F a c=true:=by unfold overB;rw [List.all_eq_true]
theorem over_snoc(l:List Nat)(a c:Nat):overB F (l++[a]) c=(overB F l c&&F a c):=by unfold overB;simp
def lubB(n:Nat)(F:Nat→Nat→Bool)(l:List Nat)(c:Nat):Bool:=overB F l c&&(List.range n).all fun d=>!overB F l d||F c d
theorem lub_iff{l:List Nat}{c:Nat}:lubB n F l c=true↔overB F l c=true∧∀d,d<n→overB F l d=true→F c d=true:=by
 unfold lubB;rw [Bool.and_eq_true,List.all_eq_true];refine and_congr Iff.rfl ⟨fun h d hd h1=>?_,fun h d hd=>?_⟩
 ·have:=h d (List.mem_range.2 hd)
  rw [h1]at this;simpa using this
 ·cases e:overB F l d
  ·rfl
  ·rw [h d (List.mem_range.1 hd) e];rfl
def lubZ(n:Nat)(F:Nat→Nat→Bool)(l:List Nat):Int:=leastS n (lubB n F l)
def lubN(n:Nat)(F:Nat→Nat→Bool)(l:List Nat):Nat:=(lubZ n F l).toNat
theorem lub_ex(h:Latt n F):∀(l:List Nat),(∀a∈l,a<n)→∃c,c<n∧lubB n F l c=true
| [],_=>by
 obtain⟨t,ht,h1⟩:=h.flip.top;exact⟨t,ht,lub_iff.2 ⟨rfl,fun d hd _=>h1 d hd⟩⟩
| a::l,hl=>by
 obtain⟨c,hc,hb⟩:=lub_ex h l fun x hx=>hl x (List.mem_cons_of_mem _ hx)
 obtain⟨b1,b2⟩:=lub_iff.1 hb;have ha:=hl a List.mem_cons_self;obtain⟨j0,j1,j2,j3⟩:=h.jn_best ha hc;refine⟨_,j0,lub_iff.2 ⟨over_iff.2 fun x hx=>?_,fun d hd ho=>?_⟩⟩
 ·rcases List.mem_cons.1 hx with e|hx
  ·rw [e];exact j1
  ·exact h.ord.trans _ _ _ (hl x (List.mem_cons_of_mem _ hx)) hc j0 (over_iff.1 b1 x hx) j2
 ·have:=over_iff.1 ho
  exact j3 d hd (this a List.mem_cons_self) (b2 d hd (over_iff.2 fun x hx=>this x (List.mem_cons_of_mem _ hx)))
theorem lub_is(h:Latt n F){l:List Nat}{c:Nat}(hc:c<n)(hb:lubB n F l c=true):lubZ n F l=c:=by
 rcases least_cases n (lubB n F l)with⟨-,q⟩|⟨m,h1,h2,-,h4⟩
 ·rw [q c hc]at hb;cases hb
 ·obtain⟨p1,p2⟩:=lub_iff.1 hb
  obtain⟨q1,q2⟩:=lub_iff.1 h2;rw [lubZ,h4,h.ord.anti m c h1 hc (q2 c hc p1) (p2 m h1 q1)]
theorem lub_nat(h:Latt n F){l:List Nat}(hl:∀a∈l,a<n):lubZ n F l=lubN n F l∧lubN n F l<n∧overB F l (lubN n F l)=true∧∀d,d<n→overB F l d=true→F (lubN n F l) d=true:=by
 obtain⟨c,hc,hb⟩:=lub_ex h l hl;have e:=lub_is h hc hb;have e2:lubN n F l=c:=by unfold lubN;rw [e];rfl
 rw [e,e2];exact⟨rfl,hc,lub_iff.1 hb⟩
def lvlB(n:Nat)(x:Int):Bool:=decide (0≤x∧x<n)
def lvS(n:Nat)(xs:List Int):List Nat:=(xs.filter (lvlB n)).map Int.toNat
theorem lvS_lt{xs:List Int}:∀a∈lvS n xs,a<n:=fun a ha=>by
 obtain⟨x,hx,rfl⟩:=List.mem_map.1 ha;have:=(List.mem_filter.1 hx).2;unfold lvlB at this;rw [decide_eq_true_iff]at this;omega
theorem lvS_nat{l:List Nat}(hl:∀a∈l,a<n):lvS n (l.map fun(a:Nat)=>(a:Int))=l:=by
 unfold lvS
 rw [List.filter_eq_self.2 (fun x hx=>by
  obtain⟨a,ha,rfl⟩:=List.mem_map.1 hx;unfold lvlB;rw [decide_eq_true_iff];have:=hl a ha;omega),List.map_map]
 exact(List.map_congr_left fun a _=>Int.toNat_natCast a).trans (List.map_id l)
theorem lvS_append(xs ys:List Int):lvS n (xs++ys)=lvS n xs++lvS n ys:=by unfold lvS;simp
def higB(F:Nat→Nat→Bool)(l:List Nat)(c:Nat):Bool:=l.contains c && !l.any fun a=>a != c&&F c a
def higS(n:Nat)(F:Nat→Nat→Bool)(l:List Nat):List Nat:=(List.range n).filter (higB F l)
end
abbrev nmK(nm:List ByteArray)(l:List Nat)(K:Nat):ByteArray:=nm.getD (l.getD K 0) ByteArray.empty
def txtK(nm:List ByteArray)(l:List Nat):Nat→ByteArray
| 0=>⟨#[]⟩
| K+1=>(if K=0 then txtK nm l K else txtK nm l K++⟨#[43]⟩)++nmK nm l K
def txtS(nm:List ByteArray)(l:List Nat):ByteArray:=txtK nm l l.length
def tlF(nm:List ByteArray)(l:List Nat):Nat→Nat→List Int
| 0,_=>[]
| f+1,K=>(if K=0 then[]else[43])++(bl (nmK nm l K)++tlF nm l f (K+1))
def parF(nm:List ByteArray)(s:ByteArray):Nat→Nat→List Nat→Option (List Nat)×Int×Int
| 0,_,_=>(none,0,0)
| f+1,i,acc =>
 if sigS s i<1∨32<sigS s i then(none,9,i)else
 if findS nm (s.extract i (i+sigS s i))<0 then(none,17,i)else
 if i+sigS s i=s.size then(some (acc++[(findS nm (s.extract i (i+sigS s i))).toNat]),0,0)else
 if byN s (i+sigS s i)≠43 then(none,4,(i+sigS s i:Nat))else
 parF nm s f (i+sigS s i+1) (acc++[(findS nm (s.extract i (i+sigS s i))).toNat])
def parS(nm:List ByteArray)(s:ByteArray):Option (List Nat)×Int×Int:=parF nm s (s.size+1) 0 []
def NmOk(nm:List ByteArray):Prop:=∀a,a<nm.length→rightS (nm.getD a ByteArray.empty)=true∧findS nm (nm.getD a ByteArray.empty)=a
end Lab
namespace Lab
open Go.RowKit Go.Lib Rel Nam Lat Go.ChangeShapes Go.WideShapes
def izv(xs:List Int):List Value:=xs.map fun x=>.int .i64 x
theorem izv_len(xs:List Int):(izv xs).length=xs.length:=by simp [izv]
abbrev RdZ(w:World)(v:Value)(xs:List Int):Prop:=RdAt w v 1 (izv xs)
abbrev zN(xs:List Int)(i:Nat):Int:=xs.getD i 0
theorem zN_get{xs:List Int}{i:Nat}(h:i<xs.length):zN xs i=xs[i]:=by simp [zN,List.getD,List.getElem?_eq_getElem h]
theorem RdZ.op{w:World}{v:Value}{xs:List Int}(h:RdZ w v xs):∃(A:Option Addr)(c:Nat),v=.slice A xs.length c∧xs.length≤c∧(0<xs.length→∃g p,A=some ⟨g,p,none⟩∧g<w.heap.size∧∀i,i<xs.length→w.cell? ⟨g,p+i,none⟩=some (.int .i64 (zN xs i))):=by
 obtain⟨A,n,c,rfl,hl,hn,hc⟩:=h;rw [izv_len]at hl;obtain rfl:n=xs.length:=by omega
 refine⟨A,c,rfl,hn,fun h0=>?_⟩;obtain⟨g,p,rfl,hg,hc⟩:=hc (by rw [izv_len];omega)
 exact⟨g,p,rfl,hg,fun i hi=>hc i _ (by simp [izv,List.getElem?_eq_getElem hi])⟩
theorem getD_mem{l:List Nat}{i:Nat}(h:i<l.length):l.getD i 0∈l:=by
 rw [List.getD,List.getElem?_eq_getElem h];exact List.getElem_mem h
theorem refover_calls(n:Nat)(f:Nat→List Bool)(v:Value)(w:World)(hm:RdM w v n f)(l:List Nat)(vl:Value)(hx:RdAt w vl 1 (ivR l))(hl:∀a∈l,a<n)(hll:l.length≤1000000)(c:Nat)(hc:c<n)(R:Ending→World→Prop)
  (hR:Hid (R (.returned (.bool (overB (fun a b=>on (f a) b) l c))) w)):Calls Tryz.prog 239 #[v,vl,.int .i64 c] w R:=by
 obtain⟨A,cc,rfl,-,hr⟩:=hm.op;obtain⟨g,o,rfl,hg,hrow⟩:=hr (by omega);obtain⟨Al,cl,rfl,-,hrl⟩:=ivR_at hx;obtain⟨F,hF⟩:∃F:Nat→Nat→Bool,F=fun a b=>on (f a) b:=⟨_,rfl⟩
 have hrow2:∀i,i<n→∃g1 o1 c1,w.cell? ⟨g,o+i,none⟩=some (.slice (some ⟨g1,o1,none⟩) n c1)∧g1<w.heap.size∧∀j,j<n→w.cell? ⟨g1,o1+j,none⟩=some (.bool (F i j)):=fun i hi=>by
  obtain⟨g1,o1,c1,h1,h2,h3⟩:=hrow i hi;exact⟨g1,o1,c1,h1,h2,fun j hj=>by rw [hF];exact h3 j hj⟩
 rw [←hF]at hR;replace hrow2:=Lib.hid hrow2;replace hrl:=Lib.hid hrl;replace hl:=Lib.hid hl;have ic0:(0:Int)≤(c:Int):=by omega
 have ic1:(c:Int)<(n:Int):=by omega
 clear hF hm hrow hr hx;go_enter Tryz.func239,Tryz.ntmps239
 go_wp2_with fail
 go_loopg [7] l.length (fun g i wr=>∃K:Nat,i=.int .i64 K∧K+g=l.length∧wr=w∧Hid (∀j,j<K→F (l.getD j 0) c=true))
 case atStart=>exact⟨0,rfl,by omega,rfl,Lib.hid fun j h=>by omega⟩
 case round =>
  obtain⟨K,rfl,c1,rfl,hs⟩:=hrel
  by_cases hK:K<l.length
  ·obtain⟨g2,o2,rfl,hg2,hcl⟩:=hrl.out (by omega)
   have e0:=hcl K hK;have ha:l.getD K 0<n:=hl.out _ (getD_mem hK);obtain⟨g1,o1,c1',x0,hg1,hca⟩:=hrow2.out _ ha;have x1:=hca c hc
   have hno:F (l.getD K 0) c=false→overB F l c=false:=fun h=>by
    cases q:overB F l c
    ·rfl
    ·rw [over_iff.1 q _ (getD_mem hK)]at h;cases h
   have hnx:F (l.getD K 0) c=true→∀j,j<K+1→F (l.getD j 0) c=true:=fun h j hj=>by
    rcases Nat.eq_or_lt_of_le (Nat.le_of_lt_succ hj)with e|q
    ·subst e;exact h
    ·exact hs.out j q
   have i0:(0:Int)≤(K:Int):=by omega
   have i1:(K:Int)<(l.length:Int):=by omega
   generalize l.getD K 0=a at *;have i2:(0:Int)≤(a:Int):=by omega
   have i3:(a:Int)<(n:Int):=by omega
   clear hcl hca hs;cases q:F a c
   ·rw [q]at x1
    rw [hno q]at hR;clear hno hnx q;go_wp2_with fail
    exact hR.out
   ·rw [q]at x1
    have hs:=Lib.hid (hnx q);clear hno hnx q;go_wp2_with fail
    go_roundg (gk-1)
    case measure=>omega
    case rel=>exact⟨K+1,by go_num,by omega,rfl,hs⟩
  ·have e:overB F l c=true:=over_iff.2 fun a ha=>by
    obtain⟨j,hj,rfl⟩:=List.getElem_of_mem ha;have:=hs.out j (by omega);rw [List.getD,List.getElem?_eq_getElem hj]at this;exact this
   rw [e]at hR;clear hs e;go_wp2_with fail
   exact hR.out
def preL(F:Nat→Nat→Bool)(l:List Nat)(c L:Nat):Bool:=overB F l c&&(List.range L).all fun d=>!overB F l d||F c d
theorem preL_zero(F:Nat→Nat→Bool)(l:List Nat)(c:Nat):preL F l c 0=overB F l c:=by unfold preL;simp
theorem preL_succ(F:Nat→Nat→Bool)(l:List Nat)(c L:Nat):preL F l c (L+1)=(preL F l c L&&(!overB F l L||F c L)):=by
 unfold preL;rw [List.range_succ,List.all_append];simp [Bool.and_assoc]
theorem refleast_calls(n:Nat)(f:Nat→List Bool)(v:Value)(w:World)(hm:RdM w v n f)(hn:n≤64)(l:List Nat)(vl:Value)(hx:RdAt w vl 1 (ivR l))(hl:∀a∈l,a<n)(hll:l.length≤1000000)(R:Ending→World→Prop)
  (hR:Hid (R (.returned (.int .i64 (lubZ n (fun a b=>on (f a) b) l))) w)):Calls Tryz.prog 172 #[v,vl] w R:=by
 obtain⟨F,hF⟩:∃F:Nat→Nat→Bool,F=fun a b=>on (f a) b:=⟨_,rfl⟩
 have cO:=fun c (hc:c<n) R hR=>refover_calls n f v w hm l vl hx hl hll c hc R hR
 rw [←hF]at cO hR;replace cO:=Lib.hid cO;obtain⟨A,cc,rfl,-,hr⟩:=hm.op
 have hrow2:0<n→∃g o,A=some ⟨g,o,none⟩∧∀i,i<n→∃g1 o1 c1,w.cell? ⟨g,o+i,none⟩=some (.slice (some ⟨g1,o1,none⟩) n c1)∧g1<w.heap.size∧∀j,j<n→w.cell? ⟨g1,o1+j,none⟩=some (.bool (F i j)):=fun h0=>by
  obtain⟨g,o,e,hg,hrow⟩:=hr h0;refine⟨g,o,e,fun i hi=>?_⟩;obtain⟨g1,o1,c1,h1,h2,h3⟩:=hrow i hi;exact⟨g1,o1,c1,h1,h2,fun j hj=>by rw [hF];exact h3 j hj⟩
 replace hrow2:=Lib.hid hrow2;obtain⟨Al,cl,rfl,-,-⟩:=ivR_at hx;clear hF hm hr hx hl;go_enter Tryz.func172,Tryz.ntmps172
 go_wp2_with fail
 go_loopg [5] n (fun g c wr=>∃K:Nat,c=.int .i64 K∧K+g=n∧wr=w∧Hid (leastF (lubB n F l) g K=lubZ n F l))
 case atStart=>exact⟨0,rfl,by omega,rfl,Lib.hid rfl⟩
 case round =>
  obtain⟨K,rfl,c1,rfl,hk⟩:=hrel
  by_cases hK:K<n
  ·obtain⟨kO,rfl⟩:∃kO,gk=kO+1:=⟨gk-1,by omega⟩
   obtain⟨g,o,rfl,hrow⟩:=hrow2.out (by omega);obtain⟨gc,oc,cc',x2,hgc,hcc⟩:=hrow K hK;have hk2:=hk.out;rw [leastF,show lubB n F l K=preL F l K n from rfl]at hk2;replace hk2:=Lib.hid hk2;replace hcc:=Lib.hid hcc;have hp0:=preL_zero F l K;have cO1:=cO.out K hK;obtain⟨B0,hB0⟩:∃B,overB F l K=B:=⟨_,rfl⟩;rw [hB0]at hp0 cO1;replace cO1:=Lib.hid cO1;replace hp0:=Lib.hid hp0;have ik0:(0:Int)≤(K:Int):=by omega
   have ik1:(K:Int)<(n:Int):=by omega
   clear hk hrow hB0;go_wp2_with fail
   refine cO1.out _ (Lib.hid ?_);clear cO1;go_wp2_with fail
   go_loopg [6,7] n (fun g best d wr'=>∃(L:Nat) (B:Bool),best=.bool B∧d=.int .i64 L∧L+g=n∧wr'=wr∧Hid (preL F l K L=B))
   case atStart=>exact⟨0,B0,rfl,rfl,by omega,rfl,hp0⟩
   case round =>
    obtain⟨L,B,rfl,rfl,d1,rfl,hp⟩:=hrel
    by_cases hL:L<n
    ·have y2:=hcc.out L hL
     have hs:=preL_succ F l K L;rw [hp.out]at hs;replace hs:=Lib.hid hs;have il0:(0:Int)≤(L:Int):=by omega
     have il1:(L:Int)<(n:Int):=by omega
     have cO1:=cO.out L hL;clear hp hp0;generalize overB F l L=p1 at *;generalize F K L=p3 at *;replace cO1:=Lib.hid cO1;cases p1
     ·go_wp2_with fail
      refine cO1.out _ (Lib.hid ?_);go_wp2_with fail
      go_roundg (gk-1)
      case measure=>omega
      case rel=>exact⟨L+1,B,rfl,by go_num,by omega,rfl,Lib.hid (by rw [hs.out];simp)⟩
     cases p3
     ·go_wp2_with fail
      refine cO1.out _ (Lib.hid ?_);go_wp2_with fail
      go_roundg (gk-1)
      case measure=>omega
      case rel=>exact⟨L+1,false,rfl,by go_num,by omega,rfl,Lib.hid (by rw [hs.out];simp)⟩
     ·go_wp2_with fail
      refine cO1.out _ (Lib.hid ?_);go_wp2_with fail
      go_roundg (gk-1)
      case measure=>omega
      case rel=>exact⟨L+1,B,rfl,by go_num,by omega,rfl,Lib.hid (by rw [hs.out];simp)⟩
    ·obtain rfl:L=n:=by omega
     have e:=hk2.out;rw [hp.out]at e;cases B
     ·rw [if_neg (by simp)]at e
      replace e:=Lib.hid e;go_wp2_with fail
      go_roundg kO
      case measure=>omega
      case rel=>exact⟨K+1,by go_num,by omega,rfl,e⟩
     ·rw [if_pos rfl]at e
      rw [←e]at hR;go_wp2_with fail
      exact hR.out
  ·obtain rfl:gk=0:=by omega
   have e:=hk.out;rw [leastF]at e;rw [←e]at hR;clear hk e;go_wp2_with fail
   exact hR.out
theorem lv_take{n:Nat}{xs:List Int}{K:Nat}(h:K<xs.length):lvS n (xs.take (K+1))=lvS n (xs.take K)++(if 0≤zN xs K∧zN xs K<n then[(zN xs K).toNat]else[]):=by
 rw [List.take_succ_eq_append_getElem h,lvS_append,←zN_get h]
 congr 1
 unfold lvS lvlB
 by_cases q:0≤zN xs K∧zN xs K<n
 ·rw [if_pos q,List.filter_cons_of_pos (by simpa using q)];rfl
 ·rw [if_neg q,List.filter_cons_of_neg (by simpa using q)];rfl
end Lab
end Go.Proofs.YtabhkakomececaaGreat
