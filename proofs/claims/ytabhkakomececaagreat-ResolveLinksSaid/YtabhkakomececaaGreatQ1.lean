import Derived.Test.YtabhkakomececaaGreatQ0
import Derived.ChangeArms
set_option linter.all false
set_option maxRecDepth 100000
set_option maxHeartbeats 4000000
namespace Go.Proofs.YtabhkakomececaaGreat
open Go.RowKit Go.Lib Go.ChangeShapes Go.WideShapes Go.Deep
inductive Fo (H L:Type) where
| nil:Fo H L
| cons (l:L) (h:H) (kids rest:Fo H L):Fo H L
namespace Fo
variable {H L:Type}
def len:Fo H L→Nat
| .nil=>0
| .cons _ _ _ r=>r.len+1
def size:Fo H L→Nat
| .nil=>0
| .cons _ _ k r=>k.size+r.size+1
def All(GH:H→Prop)(GL:L→Prop):Fo H L→Prop
| .nil=>True
| .cons l h k r=>GL l∧GH h∧k.len≤maxLen∧All GH GL k∧All GH GL r
theorem len_cons(l:L)(h:H)(k r:Fo H L):(cons l h k r).len=r.len+1:=rfl
theorem len_zero{f:Fo H L}(h:f.len=0):f=.nil:=by cases f with|nil=>rfl|cons=>simp [len]at h
theorem len_pos{f:Fo H L}(h:0<f.len):∃l x k r,f=.cons l x k r:=by cases f with|nil=>simp [len]at h|cons l x k r=>exact⟨l,x,k,r,rfl⟩
end Fo
def Kp(w w':World):Prop:=w.heap.size≤w'.heap.size∧∀(b o:Nat)(v:Value),w.cell? ⟨b,o,none⟩=some v→w'.cell? ⟨b,o,none⟩=some v
theorem Kp.of_below{w w':World}(hb:Below w.heap.size w w'):Kp w w':=⟨hb.size,fun b o v h=>(hb.cell (p:=⟨b,o,none⟩) (World.block_lt_of_cell? w _ h)).trans h⟩
theorem RdAt.kp{w w':World}(hk:Kp w w'){v:Value}{k:Nat}{xs:List Value}(h:RdAt w v k xs):RdAt w' v k xs:=by
 obtain⟨A,n,c,rfl,hl,hn,hc⟩:=h;refine⟨A,n,c,rfl,hl,hn,fun hp=>?_⟩;obtain⟨g,o,rfl,hg,hx⟩:=hc hp;exact⟨g,o,rfl,Nat.lt_of_lt_of_le hg hk.1,fun j u hj=>hk.2 _ _ _ (hx j u hj)⟩
section
variable {H L:Type}
def RdFo(k pre:Nat)(hd:World→List Value→H→Value→Prop)(pl:World→List Value→L→Prop)(w:World):Fo H L→Nat→Nat→Prop
| .nil,_,_=>True
| .cons l h kids rest,g,o=>(∃(ps ts:List Value) (A:Option Addr) (c:Nat),ps.length=pre∧ts.length=k∧(∀j v,(ps++ts)[j]?=some v→w.cell? ⟨g,o+j,none⟩=some v)∧pl w ps l∧hd w ts h (.slice A kids.len c)∧kids.len≤c ∧
 (0<kids.len→∃g' o',A=some ⟨g',o',none⟩∧g'<w.heap.size∧RdFo k pre hd pl w kids g' o'))∧RdFo k pre hd pl w rest g (o+(pre+k))
variable {k pre:Nat} {hd:World→List Value→H→Value→Prop} {pl:World→List Value→L→Prop}
def RdSl(k pre:Nat)(hd:World→List Value→H→Value→Prop)(pl:World→List Value→L→Prop)(w:World)(v:Value)(f:Fo H L):Prop :=
∃(A:Option Addr) (c:Nat),v=.slice A f.len c∧f.len≤c∧(0<f.len→∃g o,A=some ⟨g,o,none⟩∧g<w.heap.size∧RdFo k pre hd pl w f g o)
def RdNd(k pre:Nat)(hd:World→List Value→H→Value→Prop)(pl:World→List Value→L→Prop)(w:World)(cs:List Value)(h:H)(f:Fo H L):Prop :=
cs.length=k∧∃v,hd w cs h v∧RdSl k pre hd pl w v f
theorem RdFo.first{w:World}{l:L}{h:H}{kids rest:Fo H L}{g o:Nat}(q:RdFo k pre hd pl w (.cons l h kids rest) g o) :
  (∃ps ts:List Value,ps.length=pre∧(∀j v,(ps++ts)[j]?=some v→w.cell? ⟨g,o+j,none⟩=some v)∧pl w ps l∧RdNd k pre hd pl w ts h kids)∧RdFo k pre hd pl w rest g (o+(pre+k)):=by
 obtain⟨⟨ps,ts,A,c,l1,l2,hc,hp,hh,hn,hs⟩,hr⟩:=q;exact⟨⟨ps,ts,l1,hc,hp,l2,_,hh,A,c,rfl,hn,hs⟩,hr⟩
theorem RdFo.mk{w:World}{l:L}{h:H}{kids rest:Fo H L}{g o:Nat}(ps ts:List Value)(l1:ps.length=pre)(hc:∀j v,(ps++ts)[j]?=some v→w.cell? ⟨g,o+j,none⟩=some v)(hp:pl w ps l)(hn:RdNd k pre hd pl w ts h kids)
  (hr:RdFo k pre hd pl w rest g (o+(pre+k))):RdFo k pre hd pl w (.cons l h kids rest) g o:=by
 obtain⟨l2,v,hh,A,c,rfl,hx,hs⟩:=hn;exact⟨⟨ps,ts,A,c,l1,l2,hc,hp,hh,hx,hs⟩,hr⟩
theorem RdSl.nil(w:World)(A:Option Addr)(c:Nat):RdSl k pre hd pl w (.slice A 0 c) .nil:=⟨A,c,rfl,Nat.zero_le _,fun h=>absurd h (by simp [Fo.len])⟩
theorem RdFo.kp(hk:∀w w' cs h v,Kp w w'→hd w cs h v→hd w' cs h v)(pk:∀w w' cs l,Kp w w'→pl w cs l→pl w' cs l){w w':World}(q:Kp w w'):∀{f:Fo H L}{g o:Nat},RdFo k pre hd pl w f g o→RdFo k pre hd pl w' f g o:=by
 intro f
 induction f with
 | nil=>intro g o _;trivial
 | cons l h kids rest ik ir =>
  rintro g o ⟨⟨ps,ts,A,c,l1,l2,hc,hp,hh,hn,hs⟩,hr⟩
  refine⟨⟨ps,ts,A,c,l1,l2,fun j v e=>q.2 _ _ _ (hc j v e),pk _ _ _ _ q hp,hk _ _ _ _ _ q hh,hn,fun h0=>?_⟩,ir hr⟩;obtain⟨g',o',rfl,hg,hx⟩:=hs h0;exact⟨g',o',rfl,Nat.lt_of_lt_of_le hg q.1,ik hx⟩
theorem RdSl.kp(hk:∀w w' cs h v,Kp w w'→hd w cs h v→hd w' cs h v)(pk:∀w w' cs l,Kp w w'→pl w cs l→pl w' cs l){w w':World}(q:Kp w w'){v:Value}{f:Fo H L}(h:RdSl k pre hd pl w v f):RdSl k pre hd pl w' v f:=by
 obtain⟨A,c,rfl,hn,hs⟩:=h;refine⟨A,c,rfl,hn,fun h0=>?_⟩;obtain⟨g,o,rfl,hg,hx⟩:=hs h0;exact⟨g,o,rfl,Nat.lt_of_lt_of_le hg q.1,hx.kp hk pk q⟩
theorem open_slice_f{G:Type}{enc':TypeId×Value→G}{P:Program}{W:World}{bs:Nat}{t e:TypeId}{f:Nat}{v:Value}{x:DataW G×List MemPlace}(ht:P.underlying t=some (.slice e))
  (h:DataW.trod enc' P W bs (fun _=>true) true f t [v]=some x):∃(A:Option Addr) (len cap:Nat),v=.slice A len cap∧len≤cap∧cap≤maxLen ∧
   (0<len→∃a f',A=some a∧f'<f∧∀i,i<len→∃cs' y,W.cells? bs (a.add (i*P.cellsOf e)) (P.cellsOf e)=some cs'∧DataW.trod enc' P W bs (fun _=>true) true f' e cs'=some y):=by
 rcases DataW.trod_slice ht h with⟨h1,-⟩|⟨a,len,cap,elems,rest,n,rfl,h1,-,hb,hl,hm,hlen,hel,-,-⟩
 ·simp only[List.cons.injEq,and_true]at h1
  exact⟨none,0,0,h1,Nat.le_refl _,by unfold maxLen;omega,fun h=>absurd h (by omega)⟩
 ·simp only[List.cons.injEq,and_true]at h1
  refine⟨some a,len,cap,h1,hl,hm,fun _=>⟨a,n,rfl,Nat.lt_succ_self n,fun i hi=>?_⟩⟩;have:=hel i hi;rw [List.getElem?_eq_getElem (by omega),Option.bind_eq_some_iff]at this;obtain⟨cs',q1,q2⟩:=this;exact⟨cs',_,q1,q2⟩
theorem arg_tree{G:Type}{enc':TypeId×Value→G}{P:Program}{W:World}{bs:Nat}{tT tE tS:TypeId}(hS:P.underlying tS=some (.slice tE))(ce:P.cellsOf tE=pre+k)(k0:0<k)
  (GH:H→Prop) (GL:L→Prop)
  (node:∀f cs x,DataW.trod enc' P W bs (fun _=>true) true f tT cs=some x→cs.length=k→∃h v f' y,hd W cs h v∧GH h∧f'<f∧DataW.trod enc' P W bs (fun _=>true) true f' tS [v]=some y)
  (elem:∀f cs x,DataW.trod enc' P W bs (fun _=>true) true f tE cs=some x→cs.length=pre+k→∃l ps ts f' y,cs=ps++ts∧ps.length=pre∧ts.length=k∧pl W ps l∧GL l∧f'≤f∧DataW.trod enc' P W bs (fun _=>true) true f' tT ts=some y) :
  ∀F f,f<F→∀cs x,DataW.trod enc' P W bs (fun _=>true) true f tT cs=some x→cs.length=k→∃h,GH h∧∃fo:Fo H L,fo.len≤maxLen∧RdNd k pre hd pl W cs h fo∧fo.All GH GL:=by
 intro F
 induction F with
 | zero=>intro f hf;omega
 | succ F ih =>
  intro f hf cs x hx hl;obtain⟨h,v,f1,y,hh,gh,hf1,hy⟩:=node f cs x hx hl;obtain⟨A,len,cap,rfl,hlc,hcm,hel⟩:=open_slice_f hS hy;refine⟨h,gh,?_⟩
  by_cases h0:0<len
  ·obtain⟨a,f2,rfl,hf2,hi⟩:=hel h0
   have key:∀i,i<len→∃(l:L) (h:H) (fo:Fo H L) (ps ts:List Value),GL l∧GH h∧fo.len≤maxLen∧fo.All GH GL∧ps.length=pre∧(∀j,j<pre+k→W.cell? (a.add (i*(pre+k)+j))=(ps++ts)[j]?)∧pl W ps l∧RdNd k pre hd pl W ts h fo:=by
    intro i hlt;obtain⟨cs',z,h1,h2⟩:=hi i hlt;rw [ce]at h1;obtain⟨-,hlen,hcell⟩:=World.cells?_some h1;obtain⟨l,ps,ts,f3,u,rfl,l1,l2,hp,gl,hf3,hu⟩:=elem _ _ _ h2 hlen;obtain⟨h',gh',fo,lf,hn,ga⟩:=ih f3 (by omega) ts u hu l2;refine⟨l,h',fo,ps,ts,gl,gh',lf,ga,l1,fun j hj=>?_,hp,hn⟩;have:=hcell j hj;rw [add_add]at this;exact this
   obtain⟨b,off,spot⟩:=a
   have hspot:spot=none∧b<W.heap.size:=by
    obtain⟨l,h',fo,ps,ts,-,-,-,-,l1,hc,-,hn⟩:=key 0 h0;have l2:0<(ps++ts).length:=by rw [List.length_append,hn.1];omega
    have:=hc 0 (by omega);rw [List.getElem?_eq_getElem l2]at this;have hs:spot=none:=by simpa [Addr.add]using World.cell?_spot this
    subst hs;exact⟨rfl,by have:=World.block_lt_of_cell? W _ this;simpa [Addr.add]using this⟩
   obtain⟨rfl,hb⟩:=hspot;have ad:∀j,(⟨b,off,none⟩:Addr).add j=⟨b,off+j,none⟩:=fun j=>by unfold Addr.add;split<;>simp_all
   have build:∀m i,i+m=len→∃fo:Fo H L,fo.len=m∧RdFo k pre hd pl W fo b (off+i*(pre+k))∧fo.All GH GL:=by
    intro m
    induction m with
    | zero=>intro i _;exact⟨.nil,rfl,trivial,trivial⟩
    | succ m im =>
     intro i e;obtain⟨fo,e1,e2,e3⟩:=im (i+1) (by omega);obtain⟨l,h',kids,ps,ts,gl,gh',lf,ga,l1,hc,hp,hn⟩:=key i (by omega);refine⟨.cons l h' kids fo,by rw [Fo.len_cons,e1],RdFo.mk ps ts l1 (fun j v q=>?_) hp hn (by rw [Nat.add_mul,Nat.one_mul,←Nat.add_assoc]at e2;exact e2),gl,gh',lf,ga,e3⟩
     have hj:j<pre+k:=by
      have:=(List.getElem?_eq_some_iff.1 q).1;rw [List.length_append,l1,hn.1]at this;exact this
     have:=hc j hj;rw [ad,q]at this;rw [Nat.add_assoc];exact this
   obtain⟨fo,e1,e2,e3⟩:=build len 0 (Nat.zero_add _);rw [Nat.zero_mul,Nat.add_zero]at e2;subst e1;exact⟨fo,Nat.le_trans hlc hcm,⟨hl,_,hh,some ⟨b,off,none⟩,cap,rfl,hlc,fun _=>⟨b,off,rfl,hb,e2⟩⟩,e3⟩
  ·obtain rfl:len=0:=by omega
   exact⟨.nil,Nat.zero_le _,⟨hl,_,hh,RdSl.nil _ _ _⟩,trivial⟩
theorem flat_in{α G:Type}{enc:α→List Value}{k:Nat}{enc':TypeId×Value→G}{P:Program}{W:World}{bs:Nat}{t e:TypeId}{f:Nat}{v:Value}{x:DataW G×List MemPlace}(hk:∀x,(enc x).length=k)(h0:0<k)(Good:α→Prop)
  (ht:P.underlying t=some (.slice e)) (ce:P.cellsOf e=k) (h:DataW.trod enc' P W bs (fun _=>true) true f t [v]=some x)
  (elem:∀(n:Nat) (cs:List Value) (x:DataW G×List MemPlace),DataW.trod enc' P W bs (fun _=>true) true n e cs=some x→cs.length=k→∃a:α,cs=enc a∧Good a) :
  ∃xs:List α,RdG enc k W v xs∧(∀x∈xs,Good x)∧xs.length≤maxLen:=by
 obtain⟨A,len,cap,rfl,hlc,hcm,hel⟩:=open_slice_f ht h
 by_cases hl:0<len
 ·obtain⟨a,f2,rfl,-,hi⟩:=hel hl
  have key:∀i,i<len→∃y:α,Good y∧∀j,j<k→W.cell? (a.add (i*k+j))=(enc y)[j]?:=by
   intro i hlt;obtain⟨cs',z,h1,h2⟩:=hi i hlt;rw [ce]at h1;obtain⟨-,hlen,hcell⟩:=World.cells?_some h1;obtain⟨y,rfl,gy⟩:=elem _ _ _ h2 hlen;refine⟨y,gy,fun j hj=>?_⟩;have:=hcell j hj;rw [add_add]at this;exact this
  obtain⟨b,off,spot⟩:=a
  have hspot:spot=none∧b<W.heap.size:=by
   obtain⟨y,-,hc⟩:=key 0 hl;have:=hc 0 h0;rw [List.getElem?_eq_getElem (by rw [hk];exact h0)]at this
   have hs:spot=none:=by simpa [Addr.add]using World.cell?_spot this
   subst hs;exact⟨rfl,by have:=World.block_lt_of_cell? W _ this;simpa [Addr.add]using this⟩
  obtain⟨rfl,hb⟩:=hspot;have ad:∀j,(⟨b,off,none⟩:Addr).add j=⟨b,off+j,none⟩:=fun j=>by unfold Addr.add;split<;>simp_all
  have build:∀m i,i+m=len→∃xs:List α,xs.length=m∧(∀x∈xs,Good x)∧∀j u,(flatG enc xs)[j]?=some u→W.cell? ⟨b,off+(i*k+j),none⟩=some u:=by
   intro m
   induction m with
   | zero=>intro i _;exact⟨[],rfl,by simp,by simp [flatG]⟩
   | succ m im =>
    intro i e;obtain⟨xs,e1,e2,e3⟩:=im (i+1) (by omega);obtain⟨y,gy,hc⟩:=key i (by omega);refine⟨y::xs,by simp [e1],fun z hz=>?_,fun j u hj=>?_⟩
    ·rcases List.mem_cons.1 hz with rfl|q
     ·exact gy
     ·exact e2 z q
    ·rw [flatG_cons]at hj
     by_cases hjk:j<k
     ·rw [List.getElem?_append_left (by rw [hk];exact hjk)]at hj
      rw [←ad,hc j hjk,hj]
     ·rw [List.getElem?_append_right (by rw [hk];omega),hk]at hj
      have:=e3 _ u hj;rw [Nat.add_mul]at this;rw [show i*k+j=i*k+1*k+(j-k)by omega];exact this
  obtain⟨xs,e1,e2,e3⟩:=build len 0 (Nat.zero_add _);subst e1;exact⟨xs,⟨_,xs.length,cap,rfl,flatG_len hk xs,hlc,fun _=>⟨b,off,rfl,hb,fun j u hj=>by have:=e3 j u hj;rwa [Nat.zero_mul,Nat.zero_add]at this⟩⟩,e2,Nat.le_trans hlc hcm⟩
 ·obtain rfl:len=0:=by omega
  exact⟨[],RdG.none0 _ _ _,by simp,Nat.zero_le _⟩
end
end Go.Proofs.YtabhkakomececaaGreat
namespace Go.Proofs.YtabhkakomececaaGreat.Kin
open Nam Lat
structure TH where
kind:Int
at_:Int
lo:Int
hi:Int
most:Int
names:List Wr
name:ByteArray
nat:Int
structure PH where
name:ByteArray
at_:Int
bare:Bool
label:List Wr
wide:Int
ck:Int
cn:Int
cat:Int
cl:List Wr
abbrev Ft:=Fo TH PH
def zTH:TH:=⟨0,0,0,0,0,[],ByteArray.empty,0⟩
def zPH:PH:=⟨ByteArray.empty,0,false,[],0,0,0,0,[]⟩
def bPH:PH:=⟨ByteArray.empty,0,true,[],0,0,0,0,[]⟩
def cntF:Ft→Nat
| .nil=>0
| .cons p _ k r=>(if p.bare then 0 else cntF k+1)+cntF r
def depF:Ft→Nat
| .nil=>0
| .cons p _ k r=>max (if p.bare then 0 else depF k+1) (depF r)
def sameW(a b:List Wr):Bool:=decide (nms a=nms b)
def plainB(p q:PH):Bool:=(p.bare==q.bare)&&decide (p.wide=q.wide)&&sameW p.label q.label&&decide (p.ck=q.ck)&&decide (p.cn=q.cn)&&sameW p.cl q.cl
def headB(a b:TH):Bool:=decide (a.kind=b.kind)&&decide (a.lo=b.lo)&&decide (a.hi=b.hi)&&decide (a.most=b.most)&&decide (a.name=b.name)&&sameW a.names b.names
def sameF:Ft→Ft→Bool
| .nil,.nil=>true
| .cons p h k r,.cons q g l s=>(decide (p.name=q.name)&&plainB p q&&(headB h g&&sameF k l))&&sameF r s
| _,_=>false
def sameS(h:TH)(k:Ft)(g:TH)(l:Ft):Bool:=headB h g&&sameF k l
def zeroB(h:TH)(k:Ft):Bool:=sameS h k zTH .nil
def stripW(l:List Wr):List Wr:=l.map fun x=>(x.1,0)
def stripP(p:PH):PH:=⟨p.name,0,p.bare,stripW p.label,p.wide,p.ck,p.cn,0,stripW p.cl⟩
def stripH(h:TH):TH:=⟨h.kind,0,h.lo,h.hi,h.most,stripW h.names,h.name,0⟩
def stripF:Ft→Ft
| .nil=>.nil
| .cons p h k r=>.cons (stripP p) (stripH h) (stripF k) (stripF r)
def stillW(l:List Wr):Bool:=l.all fun x=>decide (x.2=0)
def placeF:Ft→Bool
| .nil=>true
| .cons p h k r=>(decide (p.at_=0∧p.cat=0)&&stillW p.label&&stillW p.cl&&(decide (h.at_=0∧h.nat=0)&&stillW h.names&&placeF k))&&placeF r
def placeS(h:TH)(k:Ft):Bool:=decide (h.at_=0∧h.nat=0)&&stillW h.names&&placeF k
def ownB(h:TH)(k:Ft):Bool :=
decide ((h.kind=2∨h.lo=0∧h.hi=0)∧(h.kind=3∨h.kind=5∨h.most=0)∧(h.kind=4∨h.names=[])∧(4<h.kind∧h.kind<9∨k.len=0)∧(h.kind=9∨h.name=ByteArray.empty))
def labF:List Wr→Int×Int
| []=>(0,0)
| x::r=>if rightS x.1 then labF r else(9,x.2)
def labelS(l:List Wr):Int×Int:=if 32<l.length then(8,(wN l 32).2)else labF l
def coarseS(p:PH):Int×Int :=
if p.ck=0 then(if p.cn≠0∨p.cl≠[]then(19,p.at_)else(0,0))
else if p.ck<0∨3<p.ck then(14,p.cat)
else if(p.ck=1∧p.cn<1)∨(p.ck=2∧(p.cn<0∨4096<p.cn))∨(p.ck=3∧p.cn≠0)then(20,p.cat)
else labelS p.cl
noncomputable def listedS(ns:List ByteArray)(i:Nat):Int:=if rightS (ns.getD i ByteArray.empty)=false then 9 else if ns.getD i ByteArray.empty∈ns.take i then 10 else 0
noncomputable def enumF(ns:List ByteArray):Nat→List Wr→Int×Int
| _,[]=>(0,0)
| i,x::r=>if listedS ns i≠0 then(listedS ns i,x.2)else enumF ns (i+1) r
def pnm:Ft→List Wr
| .nil=>[]
| .cons p _ _ r=>(p.name,p.at_)::pnm r
theorem pnm_len:∀f:Ft,(pnm f).length=f.len
| .nil=>rfl
| .cons p _ _ r=>by simp [pnm,Fo.len,pnm_len r]
def onlyB:Ft→Bool
| .cons p _ _ .nil=>decide (p.name=ByteArray.empty)&&plainB p zPH
| _=>false
abbrev Res:=Int×Int×Nat
inductive Mo where
| one
| parts (K:Int) (ns:List ByteArray) (i:Nat)
noncomputable def wrB(h:TH)(k:Ft)(sub:Mo→Nat→Nat→Res)(d m:Nat):Res :=
if 24<d then(6,h.at_,m+1)
else if 512<m+1 then(8,h.at_,m+1)
else if h.kind<1∨9<h.kind then(14,h.at_,m+1)
else if ownB h k=false then(19,h.at_,m+1)
else if(h.kind=2∧h.hi<h.lo)∨(h.kind=3∧(h.most<0∨4096<h.most))then(20,h.at_,m+1)
else if h.kind=9∧rightS h.name=false then(9,h.nat,m+1)
else if h.kind=4 then(if h.names=[]then(15,h.at_,m+1)else if 64<h.names.length then(8,(wN h.names 64).2,m+1)else((enumF (nms h.names) 0 h.names).1,(enumF (nms h.names) 0 h.names).2,m+1))
else if h.kind=5∨h.kind=6 then(if onlyB k=false then(19,h.at_,m+1)else if h.most<0∨1024<h.most then(20,h.at_,m+1)else sub .one (d+1) (m+1))
else if h.kind=7∨h.kind=8 then(if h.kind=8∧k.len=0 then(15,h.at_,m+1)else if 64<k.len then(8,(wN (pnm k) 64).2,m+1)else sub (.parts h.kind (nms (pnm k)) 0) (d+1) (m+1))
else(0,0,m+1)
noncomputable def wrF:Ft→Mo→Nat→Nat→Res
| .nil,_,_,m=>(0,0,m)
| .cons _ h k _,.one,d,m=>wrB h k (wrF k) d m
| .cons p h k r,.parts K ns i,d,m =>
 if listedS ns i≠0 then(listedS ns i,p.at_,m)
 else if p.bare then(if K=7∨zeroB h k=false∨plainB p bPH=false then(19,p.at_,m)else wrF r (.parts K ns (i+1)) d m)
 else if p.wide<0∨64<p.wide then(20,p.at_,m)
 else if(labelS p.label).1≠0 then((labelS p.label).1,(labelS p.label).2,m)
 else if(coarseS p).1≠0 then((coarseS p).1,(coarseS p).2,m)
 else if(wrB h k (wrF k) d m).1≠0 then wrB h k (wrF k) d m
 else wrF r (.parts K ns (i+1)) d (wrB h k (wrF k) d m).2.2
noncomputable def wrS(h:TH)(k:Ft):Res:=wrB h k (wrF k) 1 0
theorem sameW_refl(l:List Wr):sameW l l=true:=by simp [sameW]
theorem plainB_refl(p:PH):plainB p p=true:=by simp [plainB,sameW_refl]
theorem headB_refl(h:TH):headB h h=true:=by simp [headB,sameW_refl]
theorem sameF_refl:∀f:Ft,sameF f f=true
| .nil=>rfl
| .cons p h k r=>by simp [sameF,plainB_refl,headB_refl,sameF_refl k,sameF_refl r]
theorem sameS_refl(h:TH)(k:Ft):sameS h k h k=true:=by simp [sameS,headB_refl,sameF_refl]
theorem ite_rel{α β:Type}(r:α→β→Prop){c:Prop} [i1:Decidable c] [i2:Decidable c]{a b:α}{a' b':β}(h1:c→r a a')(h2:¬c→r b b'):r (@ite α c i1 a b) (@ite β c i2 a' b'):=by
 by_cases q:c
 ·rw [if_pos q,if_pos q];exact h1 q
 ·rw [if_neg q,if_neg q];exact h2 q
def Alike2(a b:Int×Int):Prop:=a.1=b.1
def Alike(a b:Res):Prop:=a.1=b.1∧a.2.2=b.2.2
end Go.Proofs.YtabhkakomececaaGreat.Kin
namespace Go.Proofs.YtabhkakomececaaGreat.Lat
open Go.RowKit Go.Lib Nam Go.ChangeShapes Go.WideShapes
def encW(x:Wr):List Value:=[.string x.1,.int .i64 x.2]
theorem encW_len(x:Wr):(encW x).length=2:=rfl
abbrev RdW:=RdG encW 2
def GoodW(x:Wr):Prop:=x.1.size≤maxLen∧-9223372036854775808≤x.2∧x.2≤9223372036854775807
instance (x:Wr):Decidable (GoodW x):=by unfold GoodW;infer_instance
theorem RdW.op{w:World}{v:Value}{xs:List Wr}(h:RdW w v xs):∃(A:Option Addr)(c:Nat),v=.slice A xs.length c∧xs.length≤c ∧
  (0<xs.length→∃g o,A=some ⟨g,o,none⟩∧g<w.heap.size∧∀i,i<xs.length→w.cell? ⟨g,o+i*2,none⟩=some (.string (wN xs i).1)∧w.cell? ⟨g,o+i*2+1,none⟩=some (.int .i64 (wN xs i).2)):=by
 obtain⟨A,c,rfl,hc,hr⟩:=RdG.open encW_len (by decide) h;refine⟨A,c,rfl,hc,fun h0=>?_⟩;obtain⟨g,o,rfl,hg,hca⟩:=hr h0;refine⟨g,o,rfl,hg,fun i hi=>?_⟩;rw [wN_get hi];exact⟨hca i hi 0 (by decide),hca i hi 1 (by decide)⟩
theorem RdW.kp{w w':World}(hk:Kp w w'){v:Value}{xs:List Wr}(h:RdW w v xs):RdW w' v xs:=RdAt.kp hk h
theorem words_in{G:Type}{enc':TypeId×Value→G}{W:World}{bs f:Nat}{v:Value}{x:DataW G×List MemPlace}(h:DataW.trod enc' Tryz.prog W bs (fun _=>true) true f 29 [v]=some x) :
  ∃xs:List Wr,RdW W v xs∧(∀x∈xs,GoodW x)∧xs.length≤maxLen:=by
 refine flat_in encW_len (by decide) GoodW Tryz.underlying29 (by kernel_rfl) h fun n cs x hx hl=>?_
 obtain⟨ys,m,-,-,-,hys,hf⟩:=DataW.trod_struct Tryz.underlying34 hx
 match ys,hys,cs,hl with
 | [y0,y1],_,[v0,v1],_ =>
  have g0:=hf 0 _ rfl;have g1:=hf 1 _ rfl;have c3:Tryz.prog.cellsOf 3=1:=by kernel_rfl
  have c9:Tryz.prog.cellsOf 9=1:=by kernel_rfl
  simp [c3,c9]at g0 g1;obtain⟨s0,h0,-,w0⟩:=DataW.trod_string Tryz.underlying9 g0;obtain⟨n1,h1,-,w1⟩:=DataW.trod_int Tryz.underlying3 g1;simp at h0 h1;subst h0 h1;exact⟨(s0,n1),rfl,w0,wf64 w1⟩
end Go.Proofs.YtabhkakomececaaGreat.Lat
namespace Go.Proofs.YtabhkakomececaaGreat
open Go.RowKit Go.Lib
namespace Fo
variable {H L:Type}
def drop:Nat→Fo H L→Fo H L
| 0,f=>f
| _+1,.nil=>.nil
| n+1,.cons _ _ _ r=>drop n r
theorem drop_nil:∀n,drop n (.nil:Fo H L)=.nil
| 0=>rfl
| _+1=>rfl
theorem drop_len:∀(n:Nat)(f:Fo H L),(drop n f).len=f.len-n
| 0,f=>rfl
| n+1,.nil=>by simp [drop,len]
| n+1,.cons l h k r=>by simp only[drop,len,drop_len n r];omega
theorem drop_succ:∀(n:Nat){f:Fo H L}{l:L}{h:H}{k r:Fo H L},drop n f=.cons l h k r→drop (n+1) f=r
| 0,f,l,h,k,r,e=>by
 have e':f=.cons l h k r:=e;rw [e'];rfl
| n+1,.nil,l,h,k,r,e=>by simp [drop]at e
| n+1,.cons l' h' k' r',l,h,k,r,e=>drop_succ n (f:=r') e
theorem drop_lt{n:Nat}{f:Fo H L}(h:n<f.len):∃l x k r,drop n f=.cons l x k r:=len_pos (by rw [drop_len];omega)
theorem drop_all{n:Nat}{f:Fo H L}(h:f.len≤n):drop n f=.nil:=len_zero (by rw [drop_len];omega)
def AllK(Q:Fo H L→Prop):Fo H L→Prop
| .nil=>True
| .cons _ _ k r=>Q k∧AllK Q r
theorem AllK.drop{Q:Fo H L→Prop}:∀(n:Nat){f:Fo H L},AllK Q f→AllK Q (drop n f)
| 0,f,h=>h
| n+1,.nil,h=>h
| n+1,.cons l x k r,h=>AllK.drop n (f:=r) h.2
theorem AllK.at_{Q:Fo H L→Prop}{n:Nat}{f:Fo H L}(a:AllK Q f){l:L}{h:H}{k r:Fo H L}(e:Fo.drop n f=.cons l h k r):Q k:=by
 have:=a.drop n;rw [e]at this;exact this.1
theorem deep{Q:Fo H L→Prop}(s:∀f,AllK Q f→Q f)(f:Fo H L):Q f:=by
 have key:∀f:Fo H L,AllK Q f:=by
  intro f
  induction f with
  | nil=>trivial
  | cons l h k r ik ir=>exact⟨s k ik,ir⟩
 exact s f (key f)
end Fo
section
variable {H L:Type} {k pre:Nat} {hd:World→List Value→H→Value→Prop} {pl:World→List Value→L→Prop}
theorem RdFo.drop{w:World}{g:Nat}:∀(n:Nat){f:Fo H L}{o:Nat},RdFo k pre hd pl w f g o→RdFo k pre hd pl w (f.drop n) g (o+n*(pre+k))
| 0,f,o,h=>by rw [Nat.zero_mul,Nat.add_zero];exact h
| n+1,.nil,o,h=>trivial
| n+1,.cons l x kids r,o,h=>by
 have:=RdFo.drop n (f:=r) h.2;rw [show o+(n+1)*(pre+k)=o+(pre+k)+n*(pre+k)by rw [Nat.add_mul];omega]
 exact this
theorem RdSl.at_{w:World}{v:Value}{f:Fo H L}(h:RdSl k pre hd pl w v f){c:Nat}{A:Option Addr}{n:Nat}(hv:v=.slice A n c){i:Nat}{l:L}{x:H}{kids rest:Fo H L}(e:f.drop i=.cons l x kids rest) :
  ∃g o,A=some ⟨g,o,none⟩∧g<w.heap.size∧∃ps ts:List Value,ps.length=pre∧(∀j v,(ps++ts)[j]?=some v→w.cell? ⟨g,o+i*(pre+k)+j,none⟩=some v)∧pl w ps l∧RdNd k pre hd pl w ts x kids:=by
 obtain⟨A',c',rfl,-,hs⟩:=h;simp only[Value.slice.injEq]at hv;obtain⟨rfl,-,-⟩:=hv
 have hp:0<f.len:=by
  have:=Fo.drop_len i f;rw [e]at this;simp only[Fo.len]at this;omega
 obtain⟨g,o,rfl,hg,hf⟩:=hs hp;have:=hf.drop i;rw [e]at this;exact⟨g,o,rfl,hg,this.first.1⟩
end
end Go.Proofs.YtabhkakomececaaGreat
namespace Go.Proofs.YtabhkakomececaaGreat.Kin
open Go.RowKit Go.Lib Go.Deep Go.ChangeShapes Go.WideShapes Nam Lat
def hdT(w:World)(cs:List Value)(h:TH)(v:Value):Prop :=
∃nv,cs=[.int .i64 h.kind,.int .i64 h.at_,.int .i64 h.lo,.int .i64 h.hi,.int .i64 h.most,nv,v,.string h.name,.int .i64 h.nat]∧RdW w nv h.names
def plT(w:World)(cs:List Value)(p:PH):Prop :=
∃lv cv,cs=[.string p.name,.int .i64 p.at_,.bool p.bare,lv,.int .i64 p.wide,.int .i64 p.ck,.int .i64 p.cn,.int .i64 p.cat,cv]∧RdW w lv p.label∧RdW w cv p.cl
theorem hdT.kp{w w':World}{cs:List Value}{h:TH}{v:Value}(q:Kp w w')(x:hdT w cs h v):hdT w' cs h v:=by
 obtain⟨nv,e,r⟩:=x;exact⟨nv,e,r.kp q⟩
theorem plT.kp{w w':World}{cs:List Value}{p:PH}(q:Kp w w')(x:plT w cs p):plT w' cs p:=by
 obtain⟨lv,cv,e,r,s⟩:=x;exact⟨lv,cv,e,r.kp q,s.kp q⟩
abbrev RdP(w:World)(v:Value)(f:Ft):Prop:=RdSl 9 9 hdT plT w v f
abbrev tyV(h:TH)(nv pv:Value):Value:=.agg #[.int .i64 h.kind,.int .i64 h.at_,.int .i64 h.lo,.int .i64 h.hi,.int .i64 h.most,nv,pv,.string h.name,.int .i64 h.nat]
structure RdY(w:World)(h:TH)(f:Ft)(nv pv:Value):Prop where
n:RdW w nv h.names
p:RdP w pv f
theorem RdY.kp {w w':World} {h:TH} {f:Ft} {nv pv:Value} (q:Kp w w') (x:RdY w h f nv pv):RdY w' h f nv pv:=⟨x.n.kp q,RdSl.kp (hd:=hdT) (pl:=plT) (fun _ _ _ _ _ q h=>hdT.kp q h) (fun _ _ _ _ q h=>plT.kp q h) q x.p⟩
theorem RdY.below{w w':World}{h:TH}{f:Ft}{nv pv:Value}(x:RdY w h f nv pv)(b:Below w.heap.size w w'):RdY w' h f nv pv:=x.kp (Kp.of_below b)
theorem RdY.node{w:World}{h:TH}{f:Ft}{ts:List Value}(x:RdNd 9 9 hdT plT w ts h f):∃nv pv,ts=[.int .i64 h.kind,.int .i64 h.at_,.int .i64 h.lo,.int .i64 h.hi,.int .i64 h.most,nv,pv,.string h.name,.int .i64 h.nat]∧RdY w h f nv pv:=by
 obtain⟨-,v,⟨nv,e,r⟩,s⟩:=x;exact⟨nv,v,e,r,s⟩
theorem RdP.part{w:World}{A:Option Addr}{n c:Nat}{f:Ft}(h:RdP w (.slice A n c) f){i:Nat}{p:PH}{x:TH}{kids rest:Ft}(e:f.drop i=.cons p x kids rest) :
  ∃g o lv cv nv pv,A=some ⟨g,o,none⟩∧g<w.heap.size∧RdW w lv p.label∧RdW w cv p.cl∧RdY w x kids nv pv ∧
   ∀j v,[Value.string p.name,.int .i64 p.at_,.bool p.bare,lv,.int .i64 p.wide,.int .i64 p.ck,.int .i64 p.cn,.int .i64 p.cat,cv,.int .i64 x.kind,.int .i64 x.at_,.int .i64 x.lo,.int .i64 x.hi,.int .i64 x.most,nv,pv,.string x.name,.int .i64 x.nat][j]?=some v→w.cell? ⟨g,o+i*18+j,none⟩=some v:=by
 obtain⟨g,o,rfl,hg,ps,ts,-,hc,⟨lv,cv,rfl,hl,hv⟩,hn⟩:=h.at_ rfl e;obtain⟨nv,pv,rfl,hy⟩:=RdY.node hn;exact⟨g,o,lv,cv,nv,pv,rfl,hg,hl,hv,hy,hc⟩
theorem RdP.sl{w:World}{v:Value}{f:Ft}(h:RdP w v f):∃A c,v=.slice A f.len c∧f.len≤c:=by
 obtain⟨A,c,e,hn,-⟩:=h;exact⟨A,c,e,hn⟩
def I64(x:Int):Prop:=-9223372036854775808≤x∧x≤9223372036854775807
def GoodH(h:TH):Prop:=I64 h.kind∧I64 h.at_∧I64 h.lo∧I64 h.hi∧I64 h.most∧(∀x∈h.names,GoodW x)∧h.name.size≤maxLen∧I64 h.nat∧h.names.length≤maxLen
def GoodL(p:PH):Prop:=p.name.size≤maxLen∧I64 p.at_∧(∀x∈p.label,GoodW x)∧I64 p.wide∧I64 p.ck∧I64 p.cn∧I64 p.cat∧(∀x∈p.cl,GoodW x)∧p.label.length≤maxLen∧p.cl.length≤maxLen
section
variable {G:Type} {enc':TypeId×Value→G} {W:World} {bs:Nat}
theorem node_typ(f:Nat)(cs:List Value)(x:DataW G×List MemPlace)(hx:DataW.trod enc' Tryz.prog W bs (fun _=>true) true f 36 cs=some x)(hl:cs.length=9) :
  ∃h v f' y,hdT W cs h v∧GoodH h∧f'<f∧DataW.trod enc' Tryz.prog W bs (fun _=>true) true f' 32 [v]=some y:=by
 obtain⟨ys,m,rfl,-,-,hys,hf⟩:=DataW.trod_struct Tryz.underlying36 hx
 match ys,hys,cs,hl with
 | [y0,y1,y2,y3,y4,y5,y6,y7],_,[v0,v1,v2,v3,v4,v5,v6,v7,v8],_ =>
  have g0:=hf 0 _ rfl;have g1:=hf 1 _ rfl;have g2:=hf 2 _ rfl;have g3:=hf 3 _ rfl;have g4:=hf 4 _ rfl;have g5:=hf 5 _ rfl;have g6:=hf 6 _ rfl;have g7:=hf 7 _ rfl;have c3:Tryz.prog.cellsOf 3=1:=by kernel_rfl
  have c5:Tryz.prog.cellsOf 29=1:=by kernel_rfl
  have c6:Tryz.prog.cellsOf 32=1:=by kernel_rfl
  have c7:Tryz.prog.cellsOf 34=2:=by kernel_rfl
  have c9:Tryz.prog.cellsOf 9=1:=by kernel_rfl
  simp [c3,c5,c6,c7]at g0 g1 g2 g3 g4 g5 g6 g7;obtain⟨n0,h0,-,w0⟩:=DataW.trod_int Tryz.underlying3 g0;obtain⟨n1,h1,-,w1⟩:=DataW.trod_int Tryz.underlying3 g1;obtain⟨n2,h2,-,w2⟩:=DataW.trod_int Tryz.underlying3 g2;obtain⟨n3,h3,-,w3⟩:=DataW.trod_int Tryz.underlying3 g3;obtain⟨n4,h4,-,w4⟩:=DataW.trod_int Tryz.underlying3 g4;obtain⟨ns,rn,qn,ln⟩:=words_in g5;obtain⟨zs,m',rfl,-,-,hzs,hk⟩:=DataW.trod_struct Tryz.underlying34 g7
  match zs,hzs with
  | [z0,z1],_ =>
   have k0:=hk 0 _ rfl;have k1:=hk 1 _ rfl;simp [c3,c9]at k0 k1;obtain⟨s7,h7,-,w7⟩:=DataW.trod_string Tryz.underlying9 k0;obtain⟨n8,h8,-,w8⟩:=DataW.trod_int Tryz.underlying3 k1;simp at h0 h1 h2 h3 h4 h7 h8;subst h0 h1 h2 h3 h4 h7 h8;exact⟨⟨n0,n1,n2,n3,n4,ns,s7,n8⟩,v6,_,_,⟨v5,rfl,rn⟩,⟨wf64 w0,wf64 w1,wf64 w2,wf64 w3,wf64 w4,qn,w7,wf64 w8,ln⟩,Nat.lt_succ_self _,g6⟩
theorem elem_typ(f:Nat)(cs:List Value)(x:DataW G×List MemPlace)(hx:DataW.trod enc' Tryz.prog W bs (fun _=>true) true f 127 cs=some x)(hl:cs.length=9+9) :
  ∃l ps ts f' y,cs=ps++ts∧ps.length=9∧ts.length=9∧plT W ps l∧GoodL l∧f'≤f∧DataW.trod enc' Tryz.prog W bs (fun _=>true) true f' 36 ts=some y:=by
 obtain⟨ys,m,rfl,-,-,hys,hf⟩:=DataW.trod_struct Tryz.underlying127 hx
 match ys,hys,cs,hl with
 | [y0,y1,y2,y3,y4,y5],_,[v0,v1,v2,v3,v4,v5,v6,v7,v8,u0,u1,u2,u3,u4,u5,u6,u7,u8],_ =>
  have g0:=hf 0 _ rfl;have g1:=hf 1 _ rfl;have g2:=hf 2 _ rfl;have g3:=hf 3 _ rfl;have g4:=hf 4 _ rfl;have g5:=hf 5 _ rfl;have c3:Tryz.prog.cellsOf 3=1:=by kernel_rfl
  have cb:Tryz.prog.cellsOf 4=1:=by kernel_rfl
  have c5:Tryz.prog.cellsOf 29=1:=by kernel_rfl
  have c7:Tryz.prog.cellsOf 34=2:=by kernel_rfl
  have c9:Tryz.prog.cellsOf 9=1:=by kernel_rfl
  have cc:Tryz.prog.cellsOf 125=4:=by kernel_rfl
  have ct:Tryz.prog.cellsOf 36=9:=by kernel_rfl
  simp [c3,cb,c5,c7,cc,ct]at g0 g1 g2 g3 g4 g5;obtain⟨b1,h1,-⟩:=DataW.trod_bool Tryz.underlying4 g1;obtain⟨ls,rl,ql,ll⟩:=words_in g2;obtain⟨n3,h3,-,w3⟩:=DataW.trod_int Tryz.underlying3 g3;obtain⟨zs,m',-,-,-,hzs,hk⟩:=DataW.trod_struct Tryz.underlying34 g0;obtain⟨xs,m2,-,-,-,hxs,hc⟩:=DataW.trod_struct Tryz.underlying125 g4
  match zs,hzs,xs,hxs with
  | [z0,z1],_,[x0,x1,x2,x3],_ =>
   have k0:=hk 0 _ rfl;have k1:=hk 1 _ rfl;have j0:=hc 0 _ rfl;have j1:=hc 1 _ rfl;have j2:=hc 2 _ rfl;have j3:=hc 3 _ rfl;simp [c3,c5,c9]at k0 k1 j0 j1 j2 j3;obtain⟨s0,e0,-,q0⟩:=DataW.trod_string Tryz.underlying9 k0;obtain⟨n1,e1,-,q1⟩:=DataW.trod_int Tryz.underlying3 k1;obtain⟨c0,d0,-,r0⟩:=DataW.trod_int Tryz.underlying3 j0;obtain⟨c1,d1,-,r1⟩:=DataW.trod_int Tryz.underlying3 j1;obtain⟨c2,d2,-,r2⟩:=DataW.trod_int Tryz.underlying3 j2;obtain⟨ms,rm,qm,lm⟩:=words_in j3;simp at h1 h3 e0 e1 d0 d1 d2;subst h1 h3 e0 e1 d0 d1 d2;exact⟨⟨s0,n1,b1,ls,n3,c0,c1,c2,ms⟩,[_,_,_,_,_,_,_,_,_],_,_,_,rfl,rfl,rfl,⟨v3,v8,rfl,rl,rm⟩,⟨q0,wf64 q1,ql,wf64 w3,wf64 r0,wf64 r1,wf64 r2,qm,ll,lm⟩,Nat.le_succ _,g5⟩
theorem typ_in{f:Nat}{cs:List Value}{x:DataW G×List MemPlace}(hx:DataW.trod enc' Tryz.prog W bs (fun _=>true) true f 36 cs=some x)(hl:cs.length=9) :
 ∃h,GoodH h∧∃fo:Ft,fo.len≤maxLen∧RdNd 9 9 hdT plT W cs h fo∧fo.All GoodH GoodL :=
arg_tree (k:=9) (pre:=9) (hd:=hdT) (pl:=plT) Tryz.underlying32 (by kernel_rfl) (by decide) GoodH GoodL node_typ elem_typ (f+1) f (Nat.lt_succ_self f) cs x hx hl
end
abbrev Ty:=TH×Ft×Value×Value
end Go.Proofs.YtabhkakomececaaGreat.Kin
