import Derived.Test.YtncckdaflellnaaGreatQ1
import Derived.Test.YtncckdaflellnaaGreatQ0
import Derived.OpenShut
set_option linter.all false
set_option maxRecDepth 100000
set_option maxHeartbeats 4000000
namespace Go.Proofs.YtncckdaflellnaaGreat
namespace Unp
open Go.RowKit Go.Lib Go.Deep Go.ChangeShapes Go.WideShapes Nam Lat Kin
abbrev Pr:=Wr×Wr
abbrev Nd:=Wr×TH×Ft
abbrev Sc:=List Wr×List Pr×List Nd×TH×Ft
def encP(x:Pr):List Value:=[.string x.1.1,.int .i64 x.1.2,.string x.2.1,.int .i64 x.2.2]
theorem encP_len(x:Pr):(encP x).length=4:=rfl
abbrev RdPr:=RdG encP 4
def GoodP(x:Pr):Prop:=GoodW x.1∧GoodW x.2
abbrev pN(l:List Pr)(i:Nat):Pr:=l.getD i ((ByteArray.empty,0),(ByteArray.empty,0))
abbrev nN(l:List Nd)(i:Nat):Nd:=l.getD i ((ByteArray.empty,0),zTH,.nil)
theorem pN_get{l:List Pr}{i:Nat}(h:i<l.length):pN l i=l[i]:=by simp [pN,List.getD,List.getElem?_eq_getElem h]
theorem nN_get{l:List Nd}{i:Nat}(h:i<l.length):nN l i=l[i]:=by simp [nN,List.getD,List.getElem?_eq_getElem h]
theorem RdPr.op{w:World}{v:Value}{xs:List Pr}(h:RdPr w v xs):∃(A:Option Addr)(c:Nat),v=.slice A xs.length c∧xs.length≤c ∧
  (0<xs.length→∃g o,A=some ⟨g,o,none⟩∧g<w.heap.size∧∀i,i<xs.length→w.cell? ⟨g,o+i*4,none⟩=some (.string (pN xs i).1.1)∧w.cell? ⟨g,o+i*4+1,none⟩=some (.int .i64 (pN xs i).1.2)∧w.cell? ⟨g,o+i*4+2,none⟩=some (.string (pN xs i).2.1)∧w.cell? ⟨g,o+i*4+3,none⟩=some (.int .i64 (pN xs i).2.2)):=by
 obtain⟨A,c,rfl,hc,hr⟩:=RdG.open encP_len (by decide) h;refine⟨A,c,rfl,hc,fun h0=>?_⟩;obtain⟨g,o,rfl,hg,hca⟩:=hr h0;refine⟨g,o,rfl,hg,fun i hi=>?_⟩;rw [pN_get hi];exact⟨hca i hi 0 (by decide),hca i hi 1 (by decide),hca i hi 2 (by decide),hca i hi 3 (by decide)⟩
def RdNs(w:World)(v:Value)(l:List Nd):Prop:=∃(A:Option Addr)(c:Nat),v=.slice A l.length c∧l.length≤c∧(0<l.length→∃g o,A=some ⟨g,o,none⟩∧g<w.heap.size ∧
∀i,i<l.length→∃nv pv,RdY w (nN l i).2.1 (nN l i).2.2 nv pv∧∀j u,[Value.string (nN l i).1.1,.int .i64 (nN l i).1.2,.int .i64 (nN l i).2.1.kind,.int .i64 (nN l i).2.1.at_,.int .i64 (nN l i).2.1.lo,.int .i64 (nN l i).2.1.hi,.int .i64 (nN l i).2.1.most,nv,pv,.string (nN l i).2.1.name,.int .i64 (nN l i).2.1.nat][j]?=some u→w.cell? ⟨g,o+i*11+j,none⟩=some u)
theorem RdNs.kp{w w':World}(k:Kp w w'){v:Value}{l:List Nd}(h:RdNs w v l):RdNs w' v l:=by
 obtain⟨A,c,rfl,hc,hr⟩:=h;refine⟨A,c,rfl,hc,fun h0=>?_⟩;obtain⟨g,o,rfl,hg,hi⟩:=hr h0;refine⟨g,o,rfl,Nat.lt_of_lt_of_le hg k.1,fun i hl=>?_⟩;obtain⟨nv,pv,hy,hcl⟩:=hi i hl;exact⟨nv,pv,hy.kp k,fun j u e=>k.2 _ _ _ (hcl j u e)⟩
theorem RdNs.below{w w':World}{v:Value}{l:List Nd}(h:RdNs w v l)(b:Below w.heap.size w w'):RdNs w' v l:=h.kp (Kp.of_below b)
def GoodN(x:Nd):Prop:=GoodW x.1∧GoodH x.2.1∧x.2.2.All GoodH GoodL∧x.2.2.len≤maxLen
abbrev scV(s:Sc)(lv ov tv nv pv:Value):Value:=.agg #[lv,ov,tv,.int .i64 s.2.2.2.1.kind,.int .i64 s.2.2.2.1.at_,.int .i64 s.2.2.2.1.lo,.int .i64 s.2.2.2.1.hi,.int .i64 s.2.2.2.1.most,nv,pv,.string s.2.2.2.1.name,.int .i64 s.2.2.2.1.nat]
structure RdSc(w:World)(s:Sc)(lv ov tv nv pv:Value):Prop where
l:RdW w lv s.1
o:RdPr w ov s.2.1
t:RdNs w tv s.2.2.1
r:RdY w s.2.2.2.1 s.2.2.2.2 nv pv
theorem RdSc.kp{w w':World}{s:Sc}{lv ov tv nv pv:Value}(k:Kp w w')(h:RdSc w s lv ov tv nv pv):RdSc w' s lv ov tv nv pv:=⟨h.l.kp k,RdAt.kp k h.o,h.t.kp k,h.r.kp k⟩
theorem RdSc.below{w w':World}{s:Sc}{lv ov tv nv pv:Value}(h:RdSc w s lv ov tv nv pv)(b:Below w.heap.size w w'):RdSc w' s lv ov tv nv pv:=h.kp (Kp.of_below b)
structure GoodS(s:Sc):Prop where
l:∀x∈s.1,GoodW x
ll:s.1.length≤maxLen
o:∀x∈s.2.1,GoodP x
ol:s.2.1.length≤maxLen
t:∀x∈s.2.2.1,GoodN x
tl:s.2.2.1.length≤maxLen
h:GoodH s.2.2.2.1
g:s.2.2.2.2.All GoodH GoodL
gl:s.2.2.2.2.len≤maxLen
section
variable {G:Type} {enc':TypeId×Value→G} {W:World} {bs:Nat}
theorem word_one{n:Nat}{cs:List Value}{x:DataW G×List MemPlace}(hx:DataW.trod enc' Tryz.prog W bs (fun _=>true) true n 27 cs=some x)(hl:cs.length=2):∃a:Wr,cs=encW a∧GoodW a:=by
 obtain⟨ys,m,-,-,-,hys,hf⟩:=DataW.trod_struct Tryz.underlying27 hx
 match ys,hys,cs,hl with
 | [y0,y1],_,[v0,v1],_ =>
  have g0:=hf 0 _ rfl;have g1:=hf 1 _ rfl;have c3:Tryz.prog.cellsOf 3=1:=by kernel_rfl
  have c9:Tryz.prog.cellsOf 9=1:=by kernel_rfl
  simp [c3,c9]at g0 g1;obtain⟨s0,h0,-,w0⟩:=DataW.trod_string Tryz.underlying9 g0;obtain⟨n1,h1,-,w1⟩:=DataW.trod_int Tryz.underlying3 g1;simp at h0 h1;subst h0 h1;exact⟨(s0,n1),rfl,w0,wf64 w1⟩
theorem pairs_in{f:Nat}{v:Value}{x:DataW G×List MemPlace}(h:DataW.trod enc' Tryz.prog W bs (fun _=>true) true f 23 [v]=some x) :
  ∃xs:List Pr,RdPr W v xs∧(∀x∈xs,GoodP x)∧xs.length≤maxLen:=by
 refine flat_in encP_len (by decide) GoodP Tryz.underlying23 (by kernel_rfl) h fun n cs x hx hl=>?_
 obtain⟨ys,m,-,-,-,hys,hf⟩:=DataW.trod_struct Tryz.underlying156 hx
 match ys,hys,cs,hl with
 | [y0,y1],_,[v0,v1,v2,v3],_ =>
  have g0:=hf 0 _ rfl;have g1:=hf 1 _ rfl;have c2:Tryz.prog.cellsOf 27=2:=by kernel_rfl
  simp [c2]at g0 g1;obtain⟨a,e1,q1⟩:=word_one g0 rfl;obtain⟨b,e2,q2⟩:=word_one g1 rfl;refine⟨(a,b),?_,q1,q2⟩;show[v0,v1,v2,v3]=encW a++encW b;rw [←e1,←e2];rfl
theorem named_in{f:Nat}{v:Value}{x:DataW G×List MemPlace}(h:DataW.trod enc' Tryz.prog W bs (fun _=>true) true f 24 [v]=some x) :
  ∃l:List Nd,RdNs W v l∧(∀x∈l,GoodN x)∧l.length≤maxLen:=by
 obtain⟨A,len,cap,rfl,hlc,hcm,hel⟩:=open_slice_f Tryz.underlying24 h
 by_cases hl:0<len
 ·obtain⟨a,f2,rfl,-,hi⟩:=hel hl
  have ce:Tryz.prog.cellsOf 121=11:=by kernel_rfl
  have key:∀i,i<len→∃(y:Nd) (nv pv:Value),GoodN y∧RdY W y.2.1 y.2.2 nv pv∧∀j,j<11→W.cell? (a.add (i*11+j))=[Value.string y.1.1,.int .i64 y.1.2,.int .i64 y.2.1.kind,.int .i64 y.2.1.at_,.int .i64 y.2.1.lo,.int .i64 y.2.1.hi,.int .i64 y.2.1.most,nv,pv,.string y.2.1.name,.int .i64 y.2.1.nat][j]?:=by
   intro i hlt;obtain⟨cs,z,h1,h2⟩:=hi i hlt;rw [ce]at h1;obtain⟨-,hlen,hcell⟩:=World.cells?_some h1;obtain⟨ys,m,-,-,-,hys,hf⟩:=DataW.trod_struct Tryz.underlying121 h2
   match ys,hys,cs,hlen,hcell with
   | [y0,y1],_,[v0,v1,u0,u1,u2,u3,u4,u5,u6,u7,u8],_,hcell =>
    have g0:=hf 0 _ rfl;have g1:=hf 1 _ rfl;have c2:Tryz.prog.cellsOf 27=2:=by kernel_rfl
    have c9:Tryz.prog.cellsOf 29=9:=by kernel_rfl
    simp [c2,c9]at g0 g1;obtain⟨wd,e1,q1⟩:=word_one g0 rfl;obtain⟨th,gh,fo,lf,hn,ga⟩:=typ_in g1 rfl;obtain⟨nv,pv,e2,hy⟩:=RdY.node hn
    have e3:[v0,v1,u0,u1,u2,u3,u4,u5,u6,u7,u8]=encW wd++[.int .i64 th.kind,.int .i64 th.at_,.int .i64 th.lo,.int .i64 th.hi,.int .i64 th.most,nv,pv,.string th.name,.int .i64 th.nat]:=by
     rw [←e1,←e2];rfl
    refine⟨(wd,th,fo),nv,pv,⟨q1,gh,ga,lf⟩,hy,fun j hj=>?_⟩;have:=hcell j hj;rw [add_add,e3]at this;exact this
  obtain⟨b,off,spot⟩:=a
  have hspot:spot=none∧b<W.heap.size:=by
   obtain⟨y,nv,pv,-,-,hc⟩:=key 0 hl;have:=hc 0 (by decide);have hs:spot=none:=by simpa [Addr.add]using World.cell?_spot this
   subst hs;exact⟨rfl,by have:=World.block_lt_of_cell? W _ this;simpa [Addr.add]using this⟩
  obtain⟨rfl,hb⟩:=hspot;have ad:∀j,(⟨b,off,none⟩:Addr).add j=⟨b,off+j,none⟩:=fun j=>by unfold Addr.add;split<;>simp_all
  have build:∀m i,i+m=len→∃xs:List Nd,xs.length=m∧(∀x∈xs,GoodN x)∧∀q,q<m→∃nv pv,RdY W (nN xs q).2.1 (nN xs q).2.2 nv pv∧∀j u,[Value.string (nN xs q).1.1,.int .i64 (nN xs q).1.2,.int .i64 (nN xs q).2.1.kind,.int .i64 (nN xs q).2.1.at_,.int .i64 (nN xs q).2.1.lo,.int .i64 (nN xs q).2.1.hi,.int .i64 (nN xs q).2.1.most,nv,pv,.string (nN xs q).2.1.name,.int .i64 (nN xs q).2.1.nat][j]?=some u→W.cell? ⟨b,off+(i+q)*11+j,none⟩=some u:=by
   intro m
   induction m with
   | zero=>intro i _;exact⟨[],rfl,by simp,fun q hq=>by omega⟩
   | succ m im =>
    intro i e;obtain⟨xs,e1,e2,e3⟩:=im (i+1) (by omega);obtain⟨y,nv,pv,gy,hy,hc⟩:=key i (by omega);refine⟨y::xs,by simp [e1],fun z hz=>?_,fun q hq=>?_⟩
    ·rcases List.mem_cons.1 hz with rfl|q
     ·exact gy
     ·exact e2 z q
    ·cases q with
     | zero =>
      refine⟨nv,pv,hy,fun j u hj=>?_⟩;have hj':j<11:=(List.getElem?_eq_some_iff.1 hj).1;have:=hc j hj';rw [ad]at this;rw [Nat.add_zero,Nat.add_assoc,this];exact hj
     | succ q =>
      obtain⟨nv',pv',hy',hc'⟩:=e3 q (by omega);refine⟨nv',pv',hy',fun j u hj=>?_⟩;rw [show i+(q+1)=i+1+q by omega];exact hc' j u hj
  obtain⟨xs,e1,e2,e3⟩:=build len 0 (Nat.zero_add _);subst e1;exact⟨xs,⟨_,cap,rfl,hlc,fun _=>⟨b,off,rfl,hb,fun i hi=>by have:=e3 i hi;rwa [Nat.zero_add]at this⟩⟩,e2,Nat.le_trans hlc hcm⟩
 ·obtain rfl:len=0:=by omega
  exact⟨[],⟨A,cap,rfl,Nat.zero_le _,fun h=>absurd h (by simp)⟩,by simp,Nat.zero_le _⟩
end
abbrev Scx:=Sc×Value×Value×Value×Value×Value
theorem arg_sch{H:Type}{enc':TypeId×Value→H}{W:World}{base:Nat}{v:Value}{d:DataW H}{p:List MemPlace}(hv:Value.okWide Tryz.prog W .any base 31 v)
  (h:DataW.Trod enc' Tryz.prog W 0 (fun _=>true) true 31 v d p):∃q:Scx,v=scV q.1 q.2.1 q.2.2.1 q.2.2.2.1 q.2.2.2.2.1 q.2.2.2.2.2∧RdSc W q.1 q.2.1 q.2.2.1 q.2.2.2.1 q.2.2.2.2.1 q.2.2.2.2.2∧GoodS q.1:=by
 unfold Value.okWide at hv;rw [Tryz.underlying31]at hv;obtain⟨cs,rfl,hs,ts,ht,-,hc⟩:=hv;have c2:Tryz.prog.cellsOf 31=12:=by kernel_rfl
 rw [c2]at hs;obtain⟨fuel,hf⟩:=h;obtain⟨l⟩:=cs;have hs':l.length=12:=by simpa using hs
 obtain⟨ys,m,-,-,-,hys,hfs⟩:=DataW.trod_struct Tryz.underlying31 hf
 match ys,hys,l,hs' with
 | [y0,y1,y2,y3],_,[v0,v1,v2,u0,u1,u2,u3,u4,u5,u6,u7,u8],_ =>
  have g0:=hfs 0 _ rfl;have g1:=hfs 1 _ rfl;have g2:=hfs 2 _ rfl;have g3:=hfs 3 _ rfl;have cw:Tryz.prog.cellsOf 22=1:=by kernel_rfl
  have cp:Tryz.prog.cellsOf 23=1:=by kernel_rfl
  have cn:Tryz.prog.cellsOf 24=1:=by kernel_rfl
  have ct:Tryz.prog.cellsOf 29=9:=by kernel_rfl
  simp [cw,cp,cn,ct]at g0 g1 g2 g3;obtain⟨ls,rl,gl,ll⟩:=words_in g0;obtain⟨os,ro,go,lo⟩:=pairs_in g1;obtain⟨ns,rn,gn,ln⟩:=named_in g2;obtain⟨th,gh,fo,lf,hn,ga⟩:=typ_in g3 rfl;obtain⟨nv,pv,e2,hy⟩:=RdY.node hn;have e3:[u0,u1,u2,u3,u4,u5,u6,u7,u8]=[.int .i64 th.kind,.int .i64 th.at_,.int .i64 th.lo,.int .i64 th.hi,.int .i64 th.most,nv,pv,.string th.name,.int .i64 th.nat]:=e2;simp only[List.cons.injEq,and_true]at e3;obtain⟨rfl,rfl,rfl,rfl,rfl,rfl,rfl,rfl,rfl⟩:=e3;exact⟨((ls,os,ns,th,fo),v0,v1,v2,_,_),rfl,⟨rl,ro,rn,hy⟩,⟨gl,ll,go,lo,gn,ln,gh,ga,lf⟩⟩
end Unp
namespace Rel
inductive Lead (P:List (Nat×Nat)):Nat→Nat→Prop
| refl (a:Nat):Lead P a a
| step {a b c:Nat}:Lead P a b→(b,c)∈P→Lead P a c
theorem Lead.trans{P:List (Nat×Nat)}{a b c:Nat}(h:Lead P a b)(g:Lead P b c):Lead P a c:=by
 induction g with
 | refl=>exact h
 | step _ hp ih=>exact .step ih hp
def InR(n:Nat)(P:List (Nat×Nat)):Prop:=∀p∈P,p.1<n∧p.2<n
theorem Lead.lt{P:List (Nat×Nat)}{n a b:Nat}(hP:InR n P)(h:Lead P a b)(ha:a<n):b<n:=by
 induction h with
 | refl=>exact ha
 | step _ hp _=>exact(hP _ hp).2
def on(r:List Bool)(i:Nat):Bool:=r.getD i false
theorem on_lt{r:List Bool}{i:Nat}(h:on r i=true):i<r.length:=by
 refine Nat.lt_of_not_le fun q=>?_
 unfold on at h;rw [List.getD,List.getElem?_eq_none q]at h;cases h
theorem on_set{r:List Bool}{i:Nat}(hi:i<r.length)(j:Nat):on (r.set i true) j=(decide (i=j)||on r j):=by
 unfold on;rw [List.getD,List.getElem?_set]
 by_cases h:i=j
 ·subst h;simp [hi]
 ·simp [h]
theorem on_set'{r:List Bool}{i j:Nat}(h:on r j=true):on (r.set i true) j=true:=by
 have hj:=on_lt h
 by_cases hi:i<r.length
 ·rw [on_set hi,h,Bool.or_true]
 ·rw [List.set_eq_of_length_le (by omega)];exact h
theorem row_ext{r s:List Bool}(hl:r.length=s.length)(h:∀i,on r i=on s i):r=s:=by
 refine List.ext_getElem hl fun i h1 h2=>?_
 have:=h i;unfold on at this;simpa [List.getD,List.getElem?_eq_getElem h1,List.getElem?_eq_getElem h2]using this
def lay(r:List Bool)(p:Nat×Nat):List Bool:=if on r p.1 then r.set p.2 true else r
theorem lay_len(r:List Bool)(p:Nat×Nat):(lay r p).length=r.length:=by unfold lay;split<;>simp
theorem lay_sub{r:List Bool}{p:Nat×Nat}{i:Nat}(h:on r i=true):on (lay r p) i=true:=by
 unfold lay;split
 ·exact on_set' h
 ·exact h
def pass(P:List (Nat×Nat))(r:List Bool):List Bool:=P.foldl lay r
theorem pass_len:∀(P:List (Nat×Nat)) (r:List Bool),(pass P r).length=r.length
| [],r=>rfl
| p::P,r=>by rw [show pass (p::P) r=pass P (lay r p)from rfl,pass_len P,lay_len]
theorem pass_sub:∀(P:List (Nat×Nat)) {r:List Bool} {i:Nat},on r i=true→on (pass P r) i=true
| [],r,i,h=>h
| p::P,r,i,h=>pass_sub P (lay_sub h)
theorem pass_step:∀(P:List (Nat×Nat)) {r:List Bool} {p:Nat×Nat},p∈P→on r p.1=true→p.2<r.length→on (pass P r) p.2=true
| q::P,r,p,hp,h,hl=>by
 rcases List.mem_cons.1 hp with rfl|hp
 ·refine pass_sub P ?_
  unfold lay;rw [if_pos h,on_set hl];simp
 ·exact pass_step P hp (lay_sub h) (by rw [lay_len];exact hl)
theorem pass_sound:∀(P Q:List (Nat×Nat)){r:List Bool}{a:Nat},(∀p∈P,p∈Q)→(∀i,on r i=true→Lead Q a i)→∀i,on (pass P r) i=true→Lead Q a i
| [],Q,r,a,_,h=>h
| p::P,Q,r,a,hs,h=>pass_sound P Q (fun q hq=>hs q (List.mem_cons_of_mem _ hq)) fun i hi=>by
 unfold lay at hi
 split at hi
 ·next h1 =>
  by_cases hl:p.2<r.length
  ·rw [on_set hl,Bool.or_eq_true,decide_eq_true_eq]at hi
   rcases hi with rfl|hi
   ·exact .step (h _ h1) (hs p List.mem_cons_self)
   ·exact h i hi
  ·rw [List.set_eq_of_length_le (by omega)]at hi;exact h i hi
 ·exact h i hi
def cnt(r:List Bool):Nat:=r.count true
theorem cnt_le:∀(r:List Bool),cnt r≤r.length:=fun r=>List.count_le_length
theorem cnt_lt:∀{r s:List Bool},r.length=s.length→(∀i,on r i=true→on s i=true)→cnt r≤cnt s∧(cnt r=cnt s→r=s)
| [],[],_,_=>⟨Nat.le_refl _,fun _=>rfl⟩
| [],_::_,h,_=>by simp at h
| _::_,[],h,_=>by simp at h
| x::r,y::s,hl,h=>by
 have ih:=cnt_lt (r:=r) (s:=s) (by simpa using hl) (fun i hi=>h (i+1) hi);have h0:=h 0;unfold cnt at ih ⊢;rw [List.count_cons,List.count_cons];cases x<;>cases y
 ·refine⟨by simpa using ih.1,fun e=>by rw [ih.2 (by simpa using e)]⟩
 ·refine⟨by simp;omega,fun e=>?_⟩
  simp at e;omega
 ·simp [on]at h0
 ·refine⟨by simpa using ih.1,fun e=>by rw [ih.2 (by simpa using e)]⟩
def itr(P:List (Nat×Nat)):Nat→List Bool→List Bool
| 0,r=>r
| k+1,r=>itr P k (pass P r)
theorem itr_succ(P:List (Nat×Nat)):∀(k:Nat)(r:List Bool),itr P (k+1) r=pass P (itr P k r)
| 0,r=>rfl
| k+1,r=>itr_succ P k (pass P r)
theorem itr_len(P:List (Nat×Nat)):∀(k:Nat)(r:List Bool),(itr P k r).length=r.length
| 0,r=>rfl
| k+1,r=>by rw [itr,itr_len P k,pass_len]
theorem itr_sub(P:List (Nat×Nat)):∀(k:Nat){r:List Bool}{i:Nat},on r i=true→on (itr P k r) i=true
| 0,r,i,h=>h
| k+1,r,i,h=>itr_sub P k (pass_sub P h)
theorem itr_sound(P:List (Nat×Nat)):∀(k:Nat){r:List Bool}{a:Nat},(∀i,on r i=true→Lead P a i)→∀i,on (itr P k r) i=true→Lead P a i
| 0,r,a,h=>h
| k+1,r,a,h=>itr_sound P k (pass_sound P P (fun _ h=>h) h)
theorem itr_grow(P:List (Nat×Nat))(r:List Bool):∀k,pass P (itr P k r)=itr P k r∨k+cnt r≤cnt (itr P k r)
| 0=>.inr (by simp [itr])
| k+1=>by
 rcases itr_grow P r k with h|h
 ·left
  rw [itr_succ,h,h]
 ·by_cases e:pass P (itr P k r)=itr P k r
  ·left;rw [itr_succ,e,e]
  ·right
   obtain⟨h1,h2⟩:=cnt_lt (r:=itr P k r) (s:=pass P (itr P k r)) (by rw [pass_len]) (fun i hi=>pass_sub P hi);have:cnt (itr P k r)≠cnt (pass P (itr P k r)):=fun q=>e (h2 q).symm
   rw [itr_succ];omega
def row0(n a:Nat):List Bool:=(List.replicate n false).set a true
theorem row0_len(n a:Nat):(row0 n a).length=n:=by simp [row0]
theorem row0_on{n a:Nat}(ha:a<n)(i:Nat):on (row0 n a) i=decide (a=i):=by
 unfold row0;rw [on_set (by simpa using ha)]
 have:on (List.replicate n false) i=false:=by
  unfold on;rw [List.getD,List.getElem?_replicate]
  split<;>rfl
 rw [this,Bool.or_false]
theorem cnt_pos{r:List Bool}{i:Nat}(h:on r i=true):1≤cnt r:=by
 have hl:=on_lt h;unfold cnt;refine List.count_pos_iff.2 ?_;unfold on at h;rw [List.getD,List.getElem?_eq_getElem hl]at h;have:r[i]=true:=h;exact this▸List.getElem_mem hl
def ldR(n:Nat)(P:List (Nat×Nat))(a:Nat):List Bool:=itr P n (row0 n a)
def ld(n:Nat)(P:List (Nat×Nat))(a b:Nat):Bool:=on (ldR n P a) b
theorem ldR_len(n:Nat)(P:List (Nat×Nat))(a:Nat):(ldR n P a).length=n:=by rw [ldR,itr_len,row0_len]
theorem ld_iff{n:Nat}{P:List (Nat×Nat)}(hP:InR n P){a:Nat}(ha:a<n)(b:Nat):ld n P a b=true↔Lead P a b:=by
 unfold ld ldR
 constructor
 ·refine itr_sound P n (fun i hi=>?_) b
  rw [row0_on ha,decide_eq_true_eq]at hi;subst hi;exact .refl _
 ·intro h
  have hfix:pass P (itr P n (row0 n a))=itr P n (row0 n a):=by
   rcases itr_grow P (row0 n a) n with h|h
   ·exact h
   ·have h1:=cnt_le (itr P n (row0 n a))
    have h2:=cnt_pos (r:=row0 n a) (i:=a) (by rw [row0_on ha];simp);rw [itr_len,row0_len]at h1;omega
  induction h with
  | refl=>exact itr_sub P n (by rw [row0_on ha];simp)
  | step h1 hp ih =>
   rw [←hfix];exact pass_step P hp ih (by rw [itr_len,row0_len];exact(hP _ hp).2)
theorem ld_refl{n:Nat}{P:List (Nat×Nat)}(hP:InR n P){a:Nat}(ha:a<n):ld n P a a=true:=(ld_iff hP ha a).2 (.refl a)
theorem ld_trans{n:Nat}{P:List (Nat×Nat)}(hP:InR n P){a b c:Nat}(ha:a<n)(h:ld n P a b=true)(g:ld n P b c=true):ld n P a c=true:=by
 have h1:=(ld_iff hP ha b).1 h;exact(ld_iff hP ha c).2 (h1.trans ((ld_iff hP (h1.lt hP ha) c).1 g))
def inLoop(n:Nat)(f:Nat→Nat→Bool)(a:Nat):Bool:=(List.range n).any fun b=>!(a==b)&&(f a b&&f b a)
theorem inLoop_iff{n:Nat}{f:Nat→Nat→Bool}{a:Nat}:inLoop n f a=true↔∃b,b<n∧a≠b∧f a b=true∧f b a=true:=by
 unfold inLoop;rw [List.any_eq_true]
 constructor
 ·rintro⟨b,hb,h⟩
  simp at h hb;exact⟨b,hb,h.1,h.2.1,h.2.2⟩
 ·rintro⟨b,hb,h1,h2,h3⟩
  exact⟨b,by simpa using hb,by simp [h1,h2,h3]⟩
def leastF(p:Nat→Bool):Nat→Nat→Int
| 0,_=>-1
| k+1,i=>if p i=true then i else leastF p k (i+1)
theorem leastF_cases(p:Nat→Bool):∀(k i:Nat),(leastF p k i=-1∧∀j,i≤j→j<i+k→p j=false)∨∃m:Nat,i≤m∧m<i+k∧p m=true∧(∀j,i≤j→j<m→p j=false)∧leastF p k i=m
| 0,i=>.inl ⟨rfl,fun j h1 h2=>by omega⟩
| k+1,i=>by
 by_cases h:p i=true
 ·exact .inr ⟨i,Nat.le_refl _,by omega,h,fun j h1 h2=>by omega,by rw [leastF,if_pos h]⟩
 ·rcases leastF_cases p k (i+1)with⟨h1,h2⟩|⟨m,h1,h2,h3,h4,h5⟩
  ·refine .inl ⟨by rw [leastF,if_neg h,h1],fun j q1 q2=>?_⟩
   rcases Nat.eq_or_lt_of_le q1 with e|q3
   ·subst e;simpa using h
   ·exact h2 j q3 (by omega)
  ·refine .inr ⟨m,by omega,by omega,h3,fun j q1 q2=>?_,by rw [leastF,if_neg h,h5]⟩
   rcases Nat.eq_or_lt_of_le q1 with e|q3
   ·subst e;simpa using h
   ·exact h4 j q3 q2
def leastS(n:Nat)(p:Nat→Bool):Int:=leastF p n 0
theorem least_cases(n:Nat)(p:Nat→Bool):(leastS n p=-1∧∀j,j<n→p j=false)∨∃m:Nat,m<n∧p m=true∧(∀j,j<m→p j=false)∧leastS n p=m:=by
 rcases leastF_cases p n 0 with⟨h1,h2⟩|⟨m,-,h2,h3,h4,h5⟩
 ·exact .inl ⟨h1,fun j hj=>h2 j (Nat.zero_le _) (by omega)⟩
 ·exact .inr ⟨m,by omega,h3,fun j hj=>h4 j (Nat.zero_le _) hj,h5⟩
theorem least_is{n m:Nat}{p:Nat→Bool}(hm:m<n)(h:p m=true)(h2:∀j,j<m→p j=false):leastS n p=m:=by
 rcases least_cases n p with⟨_,h1⟩|⟨k,h3,h4,h5,h6⟩
 ·rw [h1 m hm]at h;cases h
 ·rw [h6]
  rcases Nat.lt_trichotomy k m with q|q|q
  ·rw [h2 k q]at h4;cases h4
  ·rw [q]
  ·rw [h5 m q]at h;cases h
theorem least_none{n:Nat}{p:Nat→Bool}(h:∀j,j<n→p j=false):leastS n p=-1:=by
 rcases least_cases n p with h1|⟨k,h3,h4,-⟩
 ·exact h1.1
 ·rw [h k h3]at h4;cases h4
def loopS(n:Nat)(f:Nat→Nat→Bool):Int:=leastS n (inLoop n f)
def Anti(n:Nat)(f:Nat→Nat→Bool):Prop:=∀a b,a<n→b<n→f a b=true→f b a=true→a=b
theorem loop_none{n:Nat}{f:Nat→Nat→Bool}:loopS n f=-1↔Anti n f:=by
 constructor
 ·intro h a b ha hb h1 h2
  rcases least_cases n (inLoop n f)with⟨_,hn⟩|⟨m,_,_,_,h5⟩
  ·refine Classical.byContradiction fun q=>?_
   have:=inLoop_iff.2 ⟨b,hb,q,h1,h2⟩;rw [hn a ha]at this;cases this
  ·unfold loopS at h;omega
 ·intro h
  refine least_none fun j hj=>?_
  cases e:inLoop n f j
  ·rfl
  ·obtain⟨b,hb,h1,h2,h3⟩:=inLoop_iff.1 e
   exact absurd (h j b hj hb h2 h3) h1
def free(n:Nat)(f:Nat→Nat→Bool)(o:List Nat)(a:Nat):Bool:=!o.contains a&&(List.range n).all fun b=>b==a || !f b a||o.contains b
def nextS(n:Nat)(f:Nat→Nat→Bool)(o:List Nat):Int:=leastS n (free n f o)
def ordF(n:Nat)(f:Nat→Nat→Bool):Nat→List Nat→List Nat
| 0,o=>o
| k+1,o=>if nextS n f o<0 then o else ordF n f k (o++[(nextS n f o).toNat])
def ordS(n:Nat)(f:Nat→Nat→Bool):List Nat:=ordF n f n []
structure Ord(n:Nat)(f:Nat→Nat→Bool)(o:List Nat):Prop where
lt:∀a∈o,a<n
nodup:o.Nodup
back:∀(i j:Nat) (hi:i<o.length),o[i]! < n→∀b,b<n→b≠o[i]→f b o[i]=true→b∈o.take i
def preds(n:Nat)(f:Nat→Nat→Bool)(a:Nat):Nat:=(List.range n).countP fun b=>f b a
def cloL(n:Nat)(P:List (Nat×Nat)):List (Nat×Nat):=(List.range n).flatMap fun a=>((List.range n).filter fun b=>ld n P a b).map fun b=>(a,b)
theorem clo_mem{n:Nat}{P:List (Nat×Nat)}{a b:Nat}:(a,b)∈cloL n P↔a<n∧b<n∧ld n P a b=true:=by
 unfold cloL;simp only[List.mem_flatMap,List.mem_map,List.mem_filter,List.mem_range,Prod.mk.injEq]
 constructor
 ·rintro⟨x,hx,y,⟨hy,h⟩,rfl,rfl⟩;exact⟨hx,hy,h⟩
 ·rintro⟨hx,hy,h⟩;exact⟨a,hx,b,⟨hy,h⟩,rfl,rfl⟩
theorem clo_in(n:Nat)(P:List (Nat×Nat)):InR n (cloL n P):=fun p hp=>by
 obtain⟨a,b⟩:=p;have:=clo_mem.1 hp;exact⟨this.1,this.2.1⟩
def hasQ(P:List (Nat×Nat))(a b:Int):Bool:=decide (0≤a∧0≤b∧(a.toNat,b.toNat)∈P)
theorem hasQ_nat{P:List (Nat×Nat)}{a b:Nat}:hasQ P a b=true↔(a,b)∈P:=by
 unfold hasQ;rw [decide_eq_true_iff];exact⟨fun h=>h.2.2,fun h=>⟨by omega,by omega,h⟩⟩
theorem hasQ_iff{P:List (Nat×Nat)}{a b:Int}:hasQ P a b=true↔0≤a∧0≤b∧(a.toNat,b.toNat)∈P:=by
 unfold hasQ;rw [decide_eq_true_iff]
theorem hasQ_clo{n:Nat}{P:List (Nat×Nat)}{a b:Nat}(ha:a<n)(hb:b<n):hasQ (cloL n P) a b=ld n P a b:=by
 rw [Bool.eq_iff_iff,hasQ_nat,clo_mem];exact⟨fun h=>h.2.2,fun h=>⟨ha,hb,h⟩⟩
end Rel
namespace Rel
open Go.RowKit Go.Lib Go.ChangeShapes Go.WideShapes
abbrev Pq:=Int×Int
abbrev Bd(n:Int):Prop:=-9223372036854775808≤n∧n≤9223372036854775807
def encQ(x:Pq):List Value:=[.int .i64 x.1,.int .i64 x.2]
theorem encQ_len(x:Pq):(encQ x).length=2:=rfl
abbrev RdQ:=RdG encQ 2
def GoodQ(x:Pq):Prop:=(-9223372036854775808≤x.1∧x.1≤9223372036854775807)∧(-9223372036854775808≤x.2∧x.2≤9223372036854775807)
abbrev pqN(xs:List Pq)(i:Nat):Pq:=xs.getD i (0,0)
theorem pqN_get{xs:List Pq}{i:Nat}(h:i<xs.length):pqN xs i=xs[i]:=by simp [pqN,List.getD,List.getElem?_eq_getElem h]
theorem pqN_mem{xs:List Pq}{i:Nat}(h:i<xs.length):pqN xs i∈xs:=by rw [pqN_get h];exact List.getElem_mem h
theorem RdQ.op{w:World}{v:Value}{xs:List Pq}(h:RdQ w v xs):∃(A:Option Addr)(c:Nat),v=.slice A xs.length c∧xs.length≤c ∧
  (0<xs.length→∃g o,A=some ⟨g,o,none⟩∧g<w.heap.size∧∀i,i<xs.length→w.cell? ⟨g,o+i*2,none⟩=some (.int .i64 (pqN xs i).1)∧w.cell? ⟨g,o+i*2+1,none⟩=some (.int .i64 (pqN xs i).2)):=by
 obtain⟨A,c,rfl,hc,hr⟩:=RdG.open encQ_len (by decide) h;refine⟨A,c,rfl,hc,fun h0=>?_⟩;obtain⟨g,o,rfl,hg,hca⟩:=hr h0;refine⟨g,o,rfl,hg,fun i hi=>?_⟩;rw [pqN_get hi];exact⟨hca i hi 0 (by decide),hca i hi 1 (by decide)⟩
def RightQ(n:Int)(xs:List Pq):Prop:=(0≤n∧n≤64)∧∀x∈xs,(0≤x.1∧x.1<n)∧(0≤x.2∧x.2<n)
instance (n:Int)(xs:List Pq):Decidable (RightQ n xs):=by unfold RightQ;infer_instance
def toN(xs:List Pq):List (Nat×Nat):=xs.map fun x=>(x.1.toNat,x.2.toNat)
theorem toN_in{n:Nat}{xs:List Pq}(h:RightQ n xs):InR n (toN xs):=fun p hp=>by
 obtain⟨x,hx,rfl⟩:=List.mem_map.1 hp;have:=h.2 x hx;simp only;omega
end Rel
namespace Lat
open Rel Nam
def bestB(n:Nat)(F:Nat→Nat→Bool)(a b c:Nat):Bool:=F a c&&F b c&&(List.range n).all fun d=>!(F a d&&F b d)||F c d
theorem best_iff{n:Nat}{F:Nat→Nat→Bool}{a b c:Nat}:bestB n F a b c=true↔F a c=true∧F b c=true∧∀d,d<n→F a d=true→F b d=true→F c d=true:=by
 unfold bestB;rw [Bool.and_eq_true,Bool.and_eq_true,List.all_eq_true];simp only[Bool.or_eq_true,Bool.not_eq_true',List.mem_range,and_assoc];refine and_congr Iff.rfl (and_congr Iff.rfl ⟨fun h d hd h1 h2=>?_,fun h d hd=>?_⟩)
 ·rcases h d hd with q|q
  ·rw [h1,h2]at q;cases q
  ·exact q
 ·cases e1:F a d
  ·exact .inl rfl
  ·cases e2:F b d
   ·exact .inl rfl
   ·exact .inr (h d hd e1 e2)
def joinS(n:Nat)(F:Nat→Nat→Bool)(a b:Nat):Int:=leastS n (bestB n F a b)
theorem join_cases(n:Nat)(F:Nat→Nat→Bool)(a b:Nat):(joinS n F a b=-1∧∀c,c<n→bestB n F a b c=false)∨∃m:Nat,m<n∧bestB n F a b m=true∧joinS n F a b=m:=by
 rcases least_cases n (bestB n F a b)with h|⟨m,h1,h2,-,h4⟩
 ·exact .inl h
 ·exact .inr ⟨m,h1,h2,h4⟩
def flp(F:Nat→Nat→Bool)(a b:Nat):Bool:=F b a
structure Ordr(n:Nat)(F:Nat→Nat→Bool):Prop where
refl:∀a,a<n→F a a=true
trans:∀a b c,a<n→b<n→c<n→F a b=true→F b c=true→F a c=true
anti:Anti n F
theorem Ordr.flip{n:Nat}{F:Nat→Nat→Bool}(h:Ordr n F):Ordr n (flp F):=⟨h.refl,fun a b c ha hb hc h1 h2=>h.trans c b a hc hb ha h2 h1,fun a b ha hb h1 h2=>h.anti a b ha hb h2 h1⟩
theorem ordr_ld{n:Nat}{P:List (Nat×Nat)}(hP:InR n P)(h:loopS n (ld n P)=-1):Ordr n (ld n P):=⟨fun a ha=>ld_refl hP ha,fun a b c ha _ _ h1 h2=>ld_trans hP ha h1 h2,loop_none.1 h⟩
theorem join_is{n:Nat}{F:Nat→Nat→Bool}(h:Ordr n F){a b c:Nat}(hc:c<n)(hb:bestB n F a b c=true):joinS n F a b=c:=by
 rcases join_cases n F a b with⟨-,q⟩|⟨m,h1,h2,h3⟩
 ·rw [q c hc]at hb;cases hb
 ·obtain⟨p1,p2,p3⟩:=best_iff.1 hb
  obtain⟨q1,q2,q3⟩:=best_iff.1 h2;rw [h3,h.anti m c h1 hc (q3 c hc p1 p2) (p3 m h1 q1 q2)]
theorem best_comm(n:Nat)(F:Nat→Nat→Bool)(a b c:Nat):bestB n F a b c=bestB n F b a c:=by
 rw [Bool.eq_iff_iff,best_iff,best_iff];exact⟨fun⟨h1,h2,h3⟩=>⟨h2,h1,fun d hd q1 q2=>h3 d hd q2 q1⟩,fun⟨h1,h2,h3⟩=>⟨h2,h1,fun d hd q1 q2=>h3 d hd q2 q1⟩⟩
theorem join_comm(n:Nat)(F:Nat→Nat→Bool)(a b:Nat):joinS n F a b=joinS n F b a:=by
 unfold joinS;rw [show bestB n F a b=bestB n F b a from funext fun c=>best_comm n F a b c]
theorem join_self{n:Nat}{F:Nat→Nat→Bool}(h:Ordr n F){a:Nat}(ha:a<n):joinS n F a a=a :=
join_is h ha (best_iff.2 ⟨h.refl a ha,h.refl a ha,fun d _ h1 _=>h1⟩)
structure Latt(n:Nat)(F:Nat→Nat→Bool):Prop where
pos:0<n
ord:Ordr n F
join:∀a b,a<n→b<n→0≤joinS n F a b
meet:∀a b,a<n→b<n→0≤joinS n (flp F) a b
theorem Latt.flip{n:Nat}{F:Nat→Nat→Bool}(h:Latt n F):Latt n (flp F):=⟨h.pos,h.ord.flip,h.meet,h.join⟩
theorem latt_of{n:Nat}{F:Nat→Nat→Bool}(h0:0<n)(h:Ordr n F)(hb:∀b,b<n→∀a,a<b→0≤joinS n F a b∧0≤joinS n (flp F) a b):Latt n F:=by
 refine⟨h0,h,fun a b ha hb'=>?_,fun a b ha hb'=>?_⟩
 ·rcases Nat.lt_trichotomy a b with q|q|q
  ·exact(hb b hb' a q).1
  ·subst q;rw [join_self h ha];omega
  ·rw [join_comm];exact(hb a ha b q).1
 ·rcases Nat.lt_trichotomy a b with q|q|q
  ·exact(hb b hb' a q).2
  ·subst q;rw [join_self h.flip ha];omega
  ·rw [join_comm];exact(hb a ha b q).2
def jn(n:Nat)(F:Nat→Nat→Bool)(a b:Nat):Nat:=(joinS n F a b).toNat
section
variable {n:Nat} {F:Nat→Nat→Bool}
theorem Latt.jn_eq(h:Latt n F){a b:Nat}(ha:a<n)(hb:b<n):joinS n F a b=jn n F a b:=by
 have:=h.join a b ha hb;unfold jn;omega
theorem Latt.jn_best(h:Latt n F){a b:Nat}(ha:a<n)(hb:b<n):jn n F a b<n∧F a (jn n F a b)=true∧F b (jn n F a b)=true∧∀d,d<n→F a d=true→F b d=true→F (jn n F a b) d=true:=by
 have e:=h.jn_eq ha hb;rcases join_cases n F a b with⟨q,-⟩|⟨m,h1,h2,h3⟩
 ·have:=h.join a b ha hb;omega
 ·have:jn n F a b=m:=by omega
  rw [this];exact⟨h1,best_iff.1 h2⟩
theorem Latt.jn_lt(h:Latt n F){a b:Nat}(ha:a<n)(hb:b<n):jn n F a b<n:=(h.jn_best ha hb).1
theorem Latt.top(h:Latt n F):∃t,t<n∧∀a,a<n→F a t=true:=by
 have key:∀k,k≤n→∃t,t<n∧∀a,a<k→F a t=true:=by
  intro k
  induction k with
  | zero=>exact fun _=>⟨0,h.pos,fun a ha=>by omega⟩
  | succ k ih =>
   intro hk;obtain⟨t,ht,h1⟩:=ih (by omega);obtain⟨j0,j1,j2,-⟩:=h.jn_best ht (show k<n by omega);refine⟨jn n F t k,j0,fun a ha=>?_⟩;rcases Nat.eq_or_lt_of_le (Nat.le_of_lt_succ ha)with e|q
   ·rw [e];exact j2
   ·exact h.ord.trans _ _ _ (by omega) ht j0 (h1 a q) j1
 exact key n (Nat.le_refl n)
end
def seesF(F:Nat→Nat→Bool)(a:Nat):Nat→List Nat
| 0=>[]
| k+1=>if F k a=true then seesF F a k++[k]else seesF F a k
abbrev Pr:=Wr×Wr
abbrev pN(ps:List Pr)(i:Nat):Pr:=ps.getD i ((ByteArray.empty,0),(ByteArray.empty,0))
theorem pN_get{ps:List Pr}{i:Nat}(h:i<ps.length):pN ps i=ps[i]:=by simp [pN,List.getD,List.getElem?_eq_getElem h]
def idxQ(ws:List Wr)(ps:List Pr):List Pq:=ps.map fun p=>(findS (nms ws) p.1.1,findS (nms ws) p.2.1)
def leqF(ws:List Wr)(ps:List Pr)(a b:Nat):Bool:=ld ws.length (toN (idxQ ws ps)) a b
def firF{α:Type}(f:Nat→Option α):Nat→Nat→Option α
| 0,_=>none
| k+1,i=>match f i with
 | some x=>some x
 | none=>firF f k (i+1)
theorem fir_none{α:Type}{f:Nat→Option α}:∀(k i:Nat),firF f k i=none→∀j,i≤j→j<i+k→f j=none
| 0,i,_,j,h1,h2=>by omega
| k+1,i,h,j,h1,h2=>by
 rw [firF]at h;cases e:f i with
 | some x=>rw [e]at h;cases h
 | none =>
  rw [e]at h;rcases Nat.eq_or_lt_of_le h1 with q|q
  ·rw [←q];exact e
  ·exact fir_none k (i+1) h j q (by omega)
theorem fir_some{α:Type}{f:Nat→Option α}{x:α}:∀(k i:Nat),firF f k i=some x→∃j,i≤j∧j<i+k∧f j=some x
| 0,i,h=>by cases h
| k+1,i,h=>by
 rw [firF]at h;cases e:f i with
 | some y=>rw [e]at h;exact⟨i,Nat.le_refl _,by omega,e.trans h⟩
 | none =>
  rw [e]at h;obtain⟨j,h1,h2,h3⟩:=fir_some k (i+1) h;exact⟨j,by omega,by omega,h3⟩
theorem fir_is{α:Type}{f:Nat→Option α}{x:α}:∀(k i m:Nat),i≤m→m<i+k→f m=some x→(∀j,i≤j→j<m→f j=none)→firF f k i=some x
| 0,i,m,h1,h2,_,_=>by omega
| k+1,i,m,h1,h2,h3,h4=>by
 rw [firF];rcases Nat.eq_or_lt_of_le h1 with q|q
 ·subst q;rw [h3]
 ·rw [h4 i (Nat.le_refl _) q]
  exact fir_is k (i+1) m q (by omega) h3 fun j q1 q2=>h4 j (by omega) q2
theorem fir_no{α:Type}{f:Nat→Option α}:∀(k i:Nat),(∀j,i≤j→j<i+k→f j=none)→firF f k i=none
| 0,i,h=>rfl
| k+1,i,h=>by
 rw [firF,h i (Nat.le_refl _) (by omega)];exact fir_no k (i+1) fun j q1 q2=>h j (by omega) (by omega)
def lvAt(ws:List Wr)(i:Nat):Option (Int×Int) :=
if rightS (wN ws i).1=false then some (9,(wN ws i).2)else if findS (nms ws) (wN ws i).1<(i:Int)then some (10,(wN ws i).2)else none
def prAt(ws:List Wr)(ps:List Pr)(i:Nat):Option (Int×Int) :=
if findS (nms ws) (pN ps i).1.1<0 then some (17,(pN ps i).1.2)else if findS (nms ws) (pN ps i).2.1<0 then some (17,(pN ps i).2.2)else none
def noB(n:Nat)(F:Nat→Nat→Bool)(b a:Nat):Bool:=decide (joinS n F a b<0)||decide (joinS n (flp F) a b<0)
def bnB(n:Nat)(F:Nat→Nat→Bool)(b:Nat):Bool:=(List.range b).any (noB n F b)
def bnAt(ws:List Wr)(F:Nat→Nat→Bool)(b:Nat):Option (Int×Int):=if bnB ws.length F b=true then some (12,(wN ws b).2)else none
def wrongS(ws:List Wr)(ps:List Pr):Int×Int :=
if ws.length=0 then(15,0)else if 32<ws.length then(8,(wN ws 32).2)else if 256<ps.length then(8,(pN ps 256).1.2)else
match firF (lvAt ws) ws.length 0 with
| some f=>f
| none=>match firF (prAt ws ps) ps.length 0 with
 | some f=>f
 | none=>if 0≤loopS ws.length (leqF ws ps)then(11,(wN ws (loopS ws.length (leqF ws ps)).toNat).2)else
  match firF (bnAt ws (leqF ws ps)) ws.length 0 with
  | some f=>f
  | none=>(0,0)
theorem find_lt(l:List ByteArray)(s:ByteArray):findS l s<l.length:=by
 rcases find_cases l s with⟨h,-⟩|⟨k,h1,-,-,h2⟩ <;> omega
theorem idx_right{ws:List Wr}{ps:List Pr}(h32:ws.length≤32)(h:firF (prAt ws ps) ps.length 0=none):RightQ ws.length (idxQ ws ps):=by
 refine⟨by omega,fun x hx=>?_⟩;obtain⟨p,hp,rfl⟩:=List.mem_map.1 hx;obtain⟨i,hi,rfl⟩:=List.getElem_of_mem hp;have:=fir_none _ _ h i (Nat.zero_le _) (by omega);unfold prAt at this;rw [pN_get hi]at this;have l1:=find_lt (nms ws) ps[i].1.1;have l2:=find_lt (nms ws) ps[i].2.1;rw [nms_len]at l1 l2
 split at this
 ·cases this
 ·split at this
  ·cases this
  ·simp only
   omega
structure Fine(ws:List Wr)(ps:List Pr):Prop where
le:ws.length≤32
pairs:ps.length≤256
right:RightQ ws.length (idxQ ws ps)
latt:Latt ws.length (leqF ws ps)
one:∀i,i<ws.length→findS (nms ws) (wN ws i).1=i
theorem wrong_ok{ws:List Wr}{ps:List Pr}(h:(wrongS ws ps).1=0):wrongS ws ps=(0,0)∧Fine ws ps:=by
 unfold wrongS at h ⊢
 by_cases h0:ws.length=0
 ·rw [if_pos h0]at h;cases h
 rw [if_neg h0]at h ⊢
 by_cases h1:32<ws.length
 ·rw [if_pos h1]at h;cases h
 rw [if_neg h1]at h ⊢
 by_cases h2:256<ps.length
 ·rw [if_pos h2]at h;cases h
 rw [if_neg h2]at h ⊢;cases e1:firF (lvAt ws) ws.length 0 with
 | some f =>
  rw [e1]at h;obtain⟨j,-,-,hj⟩:=fir_some _ _ e1;unfold lvAt at hj
  split at hj
  ·cases hj;cases h
  ·split at hj
   ·cases hj;cases h
   ·cases hj
 | none =>
  rw [e1]at h;cases e2:firF (prAt ws ps) ps.length 0 with
  | some f =>
   rw [e2]at h;obtain⟨j,-,-,hj⟩:=fir_some _ _ e2;unfold prAt at hj
   split at hj
   ·cases hj;cases h
   ·split at hj
    ·cases hj;cases h
    ·cases hj
  | none =>
   rw [e2]at h;have hr:=idx_right (by omega) e2;simp only at h ⊢
   by_cases h3:0≤loopS ws.length (leqF ws ps)
   ·rw [if_pos h3]at h;cases h
   rw [if_neg h3]at h ⊢;cases e3:firF (bnAt ws (leqF ws ps)) ws.length 0 with
   | some f =>
    rw [e3]at h;obtain⟨j,-,-,hj⟩:=fir_some _ _ e3;unfold bnAt at hj
    split at hj
    ·cases hj;cases h
    ·cases hj
   | none =>
    refine⟨rfl,by omega,by omega,hr,latt_of (by omega) (ordr_ld (toN_in hr) ?_) fun b hb a hab=>?_,fun i hi=>?_⟩
    ·rcases least_cases ws.length (inLoop ws.length (leqF ws ps))with⟨q,-⟩|⟨m,-,-,-,q⟩
     ·exact q
     ·exact absurd (show 0≤loopS ws.length (leqF ws ps)by unfold loopS;omega) h3
    ·have:=fir_none _ _ e3 b (Nat.zero_le _) (by omega)
     unfold bnAt at this
     split at this
     ·cases this
     ·next q =>
      have hno:¬noB ws.length (leqF ws ps) b a=true:=fun hn=>q (List.any_eq_true.2 ⟨a,List.mem_range.2 hab,hn⟩)
      unfold noB at hno;rw [Bool.or_eq_true,decide_eq_true_iff,decide_eq_true_iff]at hno
      constructor
      ·exact Int.not_lt.1 fun q=>hno (.inl q)
      ·exact Int.not_lt.1 fun q=>hno (.inr q)
    ·have:=fir_none _ _ e1 i (Nat.zero_le _) (by omega)
     unfold lvAt at this
     split at this
     ·cases this
     ·split at this
      ·cases this
      ·next q1 q2 =>
       rcases find_cases (nms ws) (wN ws i).1 with⟨-,hn⟩|⟨k,hk,-,hl,e⟩
       ·exact absurd (List.mem_of_getElem? (nms_get hi)) hn
       ·rcases Nat.lt_trichotomy k i with q|q|q
        ·omega
        ·rw [e,q]
        ·exact absurd (nms_get hi) (hl i q)
end Lat
end Go.Proofs.YtncckdaflellnaaGreat
