import Derived.Test.YtncckdaflellnaaGreatQ29
import Derived.Test.YtncckdaflellnaaGreatQ30
import Derived.Test.YtncckdaflellnaaGreatQ31
import Derived.Laws.AppendOwnNone
set_option linter.all false
set_option maxRecDepth 100000
set_option maxHeartbeats 4000000
namespace Go.Proofs.YtncckdaflellnaaGreat
namespace Res
open Go.RowKit Go.Lib Utf Nam Lat Kin Unp Rel Lab Inh
theorem edges_bare{nm:List ByteArray}{F:Nat→Nat→Bool}{tg:ByteArray→Int}:∀(f:Ft)(l:List NdR),okF 7 f→∀e∈(addF nm F tg f l).1,e.bare=false
| .nil,l,_,e,he=>by cases he
| .cons p h k r,l,ok,e,he=>by
 rw [addF_cons]at he
 have hp:p.bare=false:=by
  cases q:p.bare with
  | false=>rfl
  | true =>
   have:=((ok.1 (.inl rfl)).2.1 q).1;exact absurd this (by decide)
 rcases List.mem_cons.1 he with rfl|he
 ·exact hp
 ·exact edges_bare r _ ok.2.2 e he
theorem only_edge{nm:List ByteArray}{F:Nat→Nat→Bool}{tg:ByteArray→Int}{f:Ft}(h:onlyB f=true)(l:List NdR):∃e,(addF nm F tg f l).1=[e]∧e.bare=false:=by
 match f,h with
 | .cons p x k .nil,h =>
  have h':(decide (p.name=ByteArray.empty)&&plainB p zPH)=true:=h;simp only[plainB,zPH,Bool.and_eq_true,beq_iff_eq]at h';exact⟨_,rfl,h'.2.1.1.1.1.1⟩
theorem node_good{nm:List ByteArray}{F:Nat→Nat→Bool}{tg:ByteArray→Int}{h:TH}{k:Ft}(ok:okT h k)(h9:h.kind≠9)(l:List NdR):GoodY { ndP h with edges:=(addF nm F tg k l).1 } where
kb:=by
 have a:=ok.1.1;have b:=ok.1.2.1;show 1≤h.kind∧h.kind≤8;omega
e56:=fun q=>only_edge (ok.1.2.2.2.2.2.2.2.2.1 q) l
e7:=fun q e he=>by
 have:=ok.2;rw [show h.kind=7 from q]at this;exact edges_bare k l this e he
n4:=fun q=>by
 have:=(ok.1.2.2.2.2.2.2.2.1 q).1;show nms h.names≠[];unfold nms;intro c;exact this (List.map_eq_nil_iff.1 c)
m3:=fun q=>by
 show 0≤h.most∧h.most≤4096;rcases q with q|q
 ·exact ok.1.2.2.2.2.1 q
 ·have:=ok.1.2.2.2.2.2.1 q
  omega
le:=by rw [addF_len];exact(ok_len ok).1
ln:=by
 show(nms h.names).length≤64;unfold nms;rw [List.length_map];exact(ok_len ok).2
def NewOk(n:Nat)(m:List NdR):Prop:=∀(i:Nat)(y:NdR),n≤i→m[i]?=some y→GoodY y
theorem addF_good{nm:List ByteArray}{F:Nat→Nat→Bool}{tg:ByteArray→Int}:∀(f:Ft)(K:Int)(l:List NdR),okF K f→NewOk l.length (addF nm F tg f l).2
| .nil,K,l,_,i,y,hi,hy=>by
 have:=(List.getElem?_eq_some_iff.1 hy).1;exact absurd this (by show ¬i<l.length;omega)
| .cons p h k r,K,l,ok,i,y,hi,hy=>by
 rw [addF_cons]at hy;have b2:=addF_behind (nm:=nm) (F:=F) (tg:=tg) r (addK nm F tg p h k l).2
 by_cases q:(addK nm F tg p h k l).2.length≤i
 ·exact addF_good r K _ ok.2.2 i y q hy
 ·have e:(addF nm F tg r (addK nm F tg p h k l).2).2[i]?=(addK nm F tg p h k l).2[i]?:=b2.2.2 i (by omega)
  have hy2:(addK nm F tg p h k l).2[i]?=some y:=e.symm.trans hy;unfold addK at hy2 q
  by_cases c:p.bare=true
  ·rw [if_pos c]at q
   exact absurd hi q
  ·rw [if_neg c]at hy2 q
   have okk:=ok.2.1 (by simpa using c);unfold addW at hy2 q
   by_cases c9:h.kind=9
   ·rw [if_pos c9]at q
    exact absurd hi q
   ·rw [if_neg c9]at hy2 q
    by_cases ei:i=l.length
    ·subst ei
     have ln:l.length<(addF nm F tg k (l++[ndP h])).2.length:=by
      have:=(addF_behind (nm:=nm) (F:=F) (tg:=tg) k (l++[ndP h])).1;simp at this;omega
     rw [List.getElem?_set_self ln,Option.some.injEq]at hy2;subst hy2;exact node_good okk c9 _
    ·rw [List.getElem?_set_ne (by omega)]at hy2
     exact addF_good k h.kind (l++[ndP h]) okk.2 i y (by simp;omega) hy2
theorem addT_good{nm:List ByteArray}{F:Nat→Nat→Bool}{tg:ByteArray→Int}{h:TH}{f:Ft}(ok:okT h f)(l:List NdR):NewOk l.length (addT nm F tg h f l).2:=fun i y hi hy=>by
 unfold addT addW at hy
 by_cases c9:h.kind=9
 ·rw [if_pos c9]at hy
  have:=(List.getElem?_eq_some_iff.1 hy).1;exact absurd this (by show ¬i<l.length;omega)
 ·rw [if_neg c9]at hy
  by_cases ei:i=l.length
  ·subst ei
   have ln:l.length<(addF nm F tg f (l++[ndP h])).2.length:=by
    have:=(addF_behind (nm:=nm) (F:=F) (tg:=tg) f (l++[ndP h])).1;simp at this;omega
   rw [List.getElem?_set_self ln,Option.some.injEq]at hy;subst hy;exact node_good ok c9 _
  ·rw [List.getElem?_set_ne (by omega)]at hy
   exact addF_good f h.kind (l++[ndP h]) ok.2 i y (by simp;omega) hy
theorem addA_good{nm:List ByteArray}{F:Nat→Nat→Bool}{tg:ByteArray→Int}:∀(tys:List Nd)(l:List NdR),(∀x∈tys,okT x.2.1 x.2.2)→NewOk l.length (addA nm F tg tys l).2
| [],l,_,i,y,hi,hy=>by
 have:=(List.getElem?_eq_some_iff.1 hy).1;exact absurd this (by show ¬i<l.length;omega)
| x::r,l,ok,i,y,hi,hy=>by
 have b:=addA_behind (nm:=nm) (F:=F) (tg:=tg) r (addT nm F tg x.2.1 x.2.2 l).2
 by_cases q:(addT nm F tg x.2.1 x.2.2 l).2.length≤i
 ·exact addA_good r _ (fun z hz=>ok z (List.mem_cons_of_mem _ hz)) i y q hy
 ·exact addT_good (ok x List.mem_cons_self) l i y hi ((b.2 i (by omega)).symm.trans hy)
def ndF:Ft→Nat
| .nil=>0
| .cons p h k r=>(if p.bare then 0 else if h.kind=9 then 0 else ndF k+1)+ndF r
def ndT(h:TH)(f:Ft):Nat:=if h.kind=9 then 0 else ndF f+1
theorem ndF_le:∀f:Ft,ndF f≤Kin.cntF f
| .nil=>Nat.le_refl _
| .cons p h k r=>by
 have h1:=ndF_le k;have h2:=ndF_le r;show(if p.bare then 0 else if h.kind=9 then 0 else ndF k+1)+ndF r≤(if p.bare then 0 else Kin.cntF k+1)+Kin.cntF r
 split
 ·omega
 ·split<;>omega
theorem nine_nil{h:TH}{k:Ft}(ok:okH h k)(h9:h.kind=9):k=.nil:=by
 have ow:=ok.2.2.1;simp only[ownB,decide_eq_true_eq]at ow;have:k.len=0:=by omega
 cases k with
 | nil=>rfl
 | cons p x k r=>exact absurd this (by show r.len+1≠0;omega)
theorem kntF_eq:∀(f:Ft)(K c:Int),okF K f→0≤c→c+ndF f≤1000000→kntF c f=c+ndF f
| .nil,K,c,_,_,_=>by show c=c+((0:Nat):Int);omega
| .cons p h k r,K,c,ok,h0,h1=>by
 have hn:ndF (.cons p h k r)=(if p.bare then 0 else if h.kind=9 then 0 else ndF k+1)+ndF r:=rfl;show(if p.bare=true then kntF c r else kntF (kntF (tl1 c h) k) r)=_;rw [hn]at h1 ⊢
 by_cases b:p.bare=true
 ·rw [if_pos b]at h1 ⊢
  rw [if_pos b,kntF_eq r K c ok.2.2 h0 (by omega)];omega
 ·rw [if_neg b]at h1 ⊢
  rw [if_neg b];have okk:=ok.2.1 (by simpa using b);unfold tl1
  by_cases c9:h.kind=9
  ·rw [if_pos c9]at h1 ⊢
   rw [if_pos c9,nine_nil okk.1 c9];show kntF c r=_;rw [kntF_eq r K c ok.2.2 h0 (by omega)];omega
  ·rw [if_neg c9]at h1 ⊢
   rw [if_neg c9];have w:wrap64 (c+1)=c+1:=IntWalk.wrap64_in _ (by omega);rw [w,kntF_eq k h.kind (c+1) okk.2 (by omega) (by omega),kntF_eq r K _ ok.2.2 (by omega) (by omega)];omega
theorem kntT_eq{h:TH}{f:Ft}{c:Int}(ok:okT h f)(h0:0≤c)(h1:c+ndT h f≤1000000):kntT c h f=c+ndT h f:=by
 unfold kntT ndT tl1 at *
 by_cases c9:h.kind=9
 ·rw [if_pos c9]at h1 ⊢
  rw [if_pos c9,nine_nil ok.1 c9];show c=c+((0:Nat):Int);omega
 ·rw [if_neg c9]at h1 ⊢
  rw [if_neg c9];have w:wrap64 (c+1)=c+1:=IntWalk.wrap64_in _ (by omega);rw [w,kntF_eq f h.kind (c+1) ok.2 (by omega) (by omega)];omega
theorem addF_num{nm:List ByteArray}{F:Nat→Nat→Bool}{tg:ByteArray→Int}:∀(f:Ft)(l:List NdR),(addF nm F tg f l).2.length=l.length+ndF f
| .nil,l=>rfl
| .cons p h k r,l=>by
 have hn:ndF (.cons p h k r)=(if p.bare then 0 else if h.kind=9 then 0 else ndF k+1)+ndF r:=rfl;rw [addF_cons,hn];show(addF nm F tg r (addK nm F tg p h k l).2).2.length=_;rw [addF_num r]
 have:(addK nm F tg p h k l).2.length=l.length+(if p.bare then 0 else if h.kind=9 then 0 else ndF k+1):=by
  unfold addK
  by_cases b:p.bare=true
  ·rw [if_pos b,if_pos b];rfl
  ·rw [if_neg b,if_neg b]
   unfold addW
   by_cases c9:h.kind=9
   ·rw [if_pos c9,if_pos c9];rfl
   ·rw [if_neg c9,if_neg c9]
    show(List.set _ _ _).length=_;rw [List.length_set,addF_num k,List.length_append];show l.length+1+_=_;omega
 rw [this];omega
theorem addT_num{nm:List ByteArray}{F:Nat→Nat→Bool}{tg:ByteArray→Int}(h:TH)(f:Ft)(l:List NdR):(addT nm F tg h f l).2.length=l.length+ndT h f:=by
 unfold addT addW ndT
 by_cases c9:h.kind=9
 ·rw [if_pos c9,if_pos c9];rfl
 ·rw [if_neg c9,if_neg c9]
  show(List.set _ _ _).length=_;rw [List.length_set,addF_num f,List.length_append];show l.length+1+_=_;omega
def sumT(l:List Nd):Nat:=(l.map fun x=>ndT x.2.1 x.2.2).sum
theorem sumT_cons(x:Nd)(l:List Nd):sumT (x::l)=ndT x.2.1 x.2.2+sumT l:=by simp [sumT]
theorem addA_num{nm:List ByteArray}{F:Nat→Nat→Bool}{tg:ByteArray→Int}:∀(tys:List Nd)(l:List NdR),(addA nm F tg tys l).2.length=l.length+sumT tys
| [],l=>rfl
| x::r,l=>by
 show(addA nm F tg r (addT nm F tg x.2.1 x.2.2 l).2).2.length=_;rw [addA_num r,addT_num,sumT_cons];omega
theorem cumL_get:∀(tys:List Nd)(c:Int),(∀x∈tys,okT x.2.1 x.2.2)→0≤c→c+sumT tys≤1000000→∀i,i≤tys.length→(cumL c tys)[i]?=some (c+sumT (tys.take i))
| [],c,_,_,_,i,hi=>by
 obtain rfl:i=0:=by simpa using hi
 show some c=some (c+((0:Nat):Int));rw [Option.some.injEq];omega
| x::r,c,ok,h0,h1,0,hi=>by
 show some c=some (c+((0:Nat):Int));rw [Option.some.injEq];omega
| x::r,c,ok,h0,h1,i+1,hi=>by
 rw [sumT_cons]at h1;show(cumL (kntT c x.2.1 x.2.2) r)[i]?=_;rw [kntT_eq (ok x List.mem_cons_self) h0 (by omega),cumL_get r _ (fun z hz=>ok z (List.mem_cons_of_mem _ hz)) (by omega) (by omega) i (by simpa using hi),List.take_succ_cons,sumT_cons,Option.some.injEq];omega
theorem sumT_take:∀(l:List Nd)(i:Nat)(hi:i<l.length),sumT (l.take i)+ndT l[i].2.1 l[i].2.2≤sumT l
| x::r,0,hi=>by
 rw [sumT_cons];show 0+_≤_;simp
| x::r,i+1,hi=>by
 have:=sumT_take r i (by simpa using hi);rw [List.take_succ_cons,sumT_cons,sumT_cons];show _+ndT (r[i]'(by simpa using hi)).2.1 (r[i]'(by simpa using hi)).2.2≤_;omega
theorem sumT_le(l:List Nd)(h:∀x∈l,Kin.cntF x.2.2≤512):sumT l≤513*l.length:=by
 induction l with
 | nil=>exact Nat.le_refl _
 | cons x l ih =>
  have h1:=ih fun y hy=>h y (List.mem_cons_of_mem _ hy)
  have h2:=h x List.mem_cons_self;have h3:=ndF_le x.2.2;rw [sumT_cons,List.length_cons];unfold ndT
  split<;>omega
theorem tgt_cases(tys:List Nd):∀(n:Nat)(x:ByteArray),tgtS tys n x=(0,false)∨(tys=[]∧(tgtS tys n x).1=0)∨∃I:Nat,I<tys.length∧(nN tys I).2.1.kind≠9∧tgtS tys n x=((I:Int),true)
| 0,x=>.inl rfl
| n+1,x=>by
 have hlen:(nms (tw tys)).length=tys.length:=by simp [nms,tw_len]
 by_cases e:tys=[]
 ·subst e
  refine .inr (.inl ⟨rfl,?_⟩)
  have:∀(n:Nat) (x:ByteArray),(tgtS [] n x).1=0:=by
   intro n
   induction n with
   | zero=>intro x;rfl
   | succ n ih =>
    intro x;show(if(nN [] (finS (nms (tw [])) x).1.toNat).2.1.kind≠9 then((finS (nms (tw [])) x).1,true)else tgtS [] n _).1=0
    split
    ·show(finS (nms (tw [])) x).1=0
     rcases find_cases (nms (tw [])) x with⟨h1,-⟩|⟨k,h1,-⟩
     ·rw [fin_no (by rw [h1];decide)]
     ·exact absurd h1 (by simp [nms,tw])
    ·exact ih _
  exact this _ _
 ·obtain⟨I,h1,h2⟩:=fin_in (xs:=nms (tw tys)) x (by rw [hlen];exact List.length_pos_iff.2 e)
  show(if(nN tys (finS (nms (tw tys)) x).1.toNat).2.1.kind≠9 then((finS (nms (tw tys)) x).1,true)else tgtS tys n (nN tys (finS (nms (tw tys)) x).1.toNat).2.1.name)=_∨(_∧(if(nN tys (finS (nms (tw tys)) x).1.toNat).2.1.kind≠9 then((finS (nms (tw tys)) x).1,true)else tgtS tys n (nN tys (finS (nms (tw tys)) x).1.toNat).2.1.name).1=0)∨∃J:Nat,J<tys.length∧(nN tys J).2.1.kind≠9∧(if(nN tys (finS (nms (tw tys)) x).1.toNat).2.1.kind≠9 then((finS (nms (tw tys)) x).1,true)else tgtS tys n (nN tys (finS (nms (tw tys)) x).1.toNat).2.1.name)=_;rw [h1,Int.toNat_natCast]
  by_cases c:(nN tys I).2.1.kind≠9
  ·simp only[if_pos c]
   exact .inr (.inr ⟨I,by rw [←hlen];exact h2,c,rfl⟩)
  ·simp only[if_neg c]
   exact tgt_cases tys n _
structure OkS(s:Sc):Prop where
ok:∀x∈s.2.2.1,okT x.2.1 x.2.2
okr:okT s.2.2.2.1 s.2.2.2.2
tl:s.2.2.1.length≤64
cnt:∀x∈s.2.2.1,Kin.cntF x.2.2≤512
cntr:Kin.cntF s.2.2.2.2≤512
lat:(wrongS s.1 s.2.1).1=0
wr:((eachS (inT (wordsS (nms s.1) (leqF s.1 s.2.1) (nms (tw s.2.2.1)))) (eachS kindsS bs0 s.2.2.1 s.2.2.2.1 s.2.2.2.2).2 s.2.2.1 s.2.2.2.1 s.2.2.2.2).1).1=0
lp:(loopsS s.2.2.1 s.2.2.1).1=0
theorem OkS.of{s:Sc}(h:(bldS s).1=0):OkS s:=by
 unfold bldS at h
 by_cases c1:(wrongS s.1 s.2.1).1≠0
 ·rw [if_pos c1]at h;exact absurd h c1
 rw [if_neg c1]at h
 by_cases c2:(nmC s.2.2.1).1≠0
 ·rw [if_pos c2]at h;exact absurd h c2
 rw [if_neg c2]at h;have hk:=chk_kinds h;obtain⟨o1,o2⟩:=each_ok _ _ hk;obtain⟨n1,n2⟩:=each_cnt _ _ hk;have hl:s.2.2.1.length≤64:=Classical.byContradiction fun c=>c2 (by unfold nmC;rw [if_pos (by omega)];show(8:Int)≠0;decide)
 have h2:=h;unfold chkB at h;rw [if_neg (by rw [hk];decide)]at h
 by_cases c3:(eachS (inT (wordsS (nms s.1) (leqF s.1 s.2.1) (nms (tw s.2.2.1)))) (eachS kindsS bs0 s.2.2.1 s.2.2.2.1 s.2.2.2.2).2 s.2.2.1 s.2.2.2.1 s.2.2.2.2).1.1≠0
 ·rw [if_pos c3]at h;exact absurd h c3
 rw [if_neg c3]at h;exact⟨o1,o2,hl,n1,n2,Classical.not_not.1 c1,Classical.not_not.1 c3,h⟩
theorem loops_all{tys:List Nd}:∀(l:List Nd),(loopsS tys l).1=0→∀x∈l,(tgtS tys tys.length x.1.1).2=true
| [],_,x,hx=>by cases hx
| y::l,h,x,hx=>by
 have h':(if(tgtS tys tys.length y.1.1).2=false then((11:Int),y.1.2)else loopsS tys l).1=0:=h
 by_cases c:(tgtS tys tys.length y.1.1).2=false
 ·rw [if_pos c]at h';cases h'
 ·rw [if_neg c]at h'
  rcases List.mem_cons.1 hx with rfl|hx
  ·simpa using c
  ·exact loops_all l h' x hx
theorem each_words{op:BS→TH→Ft→(Int×Int)×BS}(hop:∀s s' a b,(op s a b).1=(op s' a b).1):∀(l:List Nd)(s:BS)(a:TH)(b:Ft),(eachS op s l a b).1.1=0→(∀x∈l,(op bs0 x.2.1 x.2.2).1.1=0)∧(op bs0 a b).1.1=0
| [],s,a,b,h=>⟨by simp,by rw [hop bs0 s];exact h⟩
| x::l,s,a,b,h=>by
 have h':(if(op s x.2.1 x.2.2).1.1≠0 then op s x.2.1 x.2.2 else eachS op (op s x.2.1 x.2.2).2 l a b).1.1=0:=h
 by_cases c:(op s x.2.1 x.2.2).1.1≠0
 ·rw [if_pos c]at h';exact absurd h' c
 ·rw [if_neg c]at h'
  obtain⟨h1,h2⟩:=each_words hop l _ a b h';refine⟨fun y hy=>?_,h2⟩;rcases List.mem_cons.1 hy with rfl|hy
  ·rw [hop bs0 s];exact Classical.not_not.1 c
  ·exact h1 y hy
theorem inF_words{nm:List ByteArray}{F:Nat→Nat→Bool}{ns:List ByteArray}:∀(f:Ft)(s s':BS),(inF (wordsS nm F ns) s f).1=(inF (wordsS nm F ns) s' f).1∧(inF (wordsS nm F ns) s f).2=s
| .nil,s,s'=>⟨rfl,rfl⟩
| .cons p h k r,s,s'=>by
 have e:∀s:BS,inF (wordsS nm F ns) s (.cons p h k r)=if p.bare=true then inF (wordsS nm F ns) s r else if(wordsS nm F ns s h k).1.1≠0 then wordsS nm F ns s h k else if(inF (wordsS nm F ns) (wordsS nm F ns s h k).2 k).1.1≠0 then inF (wordsS nm F ns) (wordsS nm F ns s h k).2 k else inF (wordsS nm F ns) (inF (wordsS nm F ns) (wordsS nm F ns s h k).2 k).2 r:=fun _=>rfl
 rw [e,e];have w2:∀s:BS,(wordsS nm F ns s h k).2=s:=fun _=>rfl
 have w1:(wordsS nm F ns s h k).1=(wordsS nm F ns s' h k).1:=rfl;simp only[w2,(inF_words k s s').2,(inF_words k s' s).2]
 by_cases b:p.bare=true
 ·simp only[if_pos b]
  exact inF_words r s s'
 ·simp only[if_neg b]
  rw [←w1]
  by_cases c:(wordsS nm F ns s h k).1.1≠0
  ·simp only[if_pos c]
   exact⟨rfl,rfl⟩
  ·simp only[if_neg c]
   rw [←(inF_words k s s').1]
   by_cases c2:(inF (wordsS nm F ns) s k).1.1≠0
   ·simp only[if_pos c2]
    exact inF_words k s s'
   ·simp only[if_neg c2]
    exact inF_words r s s'
theorem inT_words{nm:List ByteArray}{F:Nat→Nat→Bool}{ns:List ByteArray}(s s':BS)(h:TH)(f:Ft):(inT (wordsS nm F ns) s h f).1=(inT (wordsS nm F ns) s' h f).1:=by
 unfold inT;have w2:∀s:BS,(wordsS nm F ns s h f).2=s:=fun _=>rfl
 have w1:(wordsS nm F ns s h f).1=(wordsS nm F ns s' h f).1:=rfl;simp only[w2];rw [←w1]
 by_cases c:(wordsS nm F ns s h f).1.1≠0
 ·simp only[if_pos c]
  exact w1
 ·simp only[if_neg c]
  exact(inF_words f s s').1
theorem OkS.words{s:Sc}(o:OkS s):(∀x∈s.2.2.1,(inT (wordsS (nms s.1) (leqF s.1 s.2.1) (nms (tw s.2.2.1))) bs0 x.2.1 x.2.2).1.1=0)∧(inT (wordsS (nms s.1) (leqF s.1 s.2.1) (nms (tw s.2.2.1))) bs0 s.2.2.2.1 s.2.2.2.2).1.1=0 :=
each_words (fun a b c d=>inT_words a b c d) _ _ _ _ o.wr
theorem OkS.one{s:Sc}(o:OkS s):1≤sumT s.2.2.1+ndT s.2.2.2.1 s.2.2.2.2:=by
 by_cases c:s.2.2.2.1.kind=9
 ·have hw:=o.words.2
  unfold inT at hw
  by_cases q:(wordsS (nms s.1) (leqF s.1 s.2.1) (nms (tw s.2.2.1)) bs0 s.2.2.2.1 s.2.2.2.2).1.1≠0
  ·rw [if_pos q]at hw;exact absurd hw q
  ·have q2:¬(s.2.2.2.1.kind=9∧(finS (nms (tw s.2.2.1)) s.2.2.2.1.name).2=false):=fun e=>q (by
    show(if s.2.2.2.1.kind=9∧(finS (nms (tw s.2.2.1)) s.2.2.2.1.name).2=false then((15:Int),s.2.2.2.1.nat)else _).1≠0;rw [if_pos e];show(15:Int)≠0
    decide)
   have ne:s.2.2.1≠[]:=fun e=>q2 ⟨c,by
    rw [e];rcases find_cases (nms (tw [])) s.2.2.2.1.name with⟨h1,-⟩|⟨k,h1,-⟩
    ·rw [fin_no (by rw [h1];decide)]
    ·exact absurd h1 (by simp [nms,tw])⟩
   obtain⟨x,r,e⟩:=List.exists_cons_of_ne_nil ne;have ht:=loops_all _ o.lp x (by rw [e];exact List.mem_cons_self)
   rcases tgt_cases s.2.2.1 s.2.2.1.length x.1.1 with h1|⟨h1,-⟩|⟨I,hI,h9,-⟩
   ·rw [h1]at ht;cases ht
   ·exact absurd h1 ne
   ·have:=sumT_take s.2.2.1 I hI
    rw [nN_get hI]at h9;unfold ndT at this;rw [if_neg h9]at this;omega
 ·unfold ndT
  rw [if_neg c];omega
theorem OkS.tg{s:Sc}(o:OkS s)(x:ByteArray):0≤tgI s.2.2.1 (cumL 0 s.2.2.1) x∧tgI s.2.2.1 (cumL 0 s.2.2.1) x<((sumT s.2.2.1+ndT s.2.2.2.1 s.2.2.2.2:Nat):Int):=by
 have hs:=sumT_le _ o.cnt;have htl:=o.tl;have one:=o.one;have get:=cumL_get s.2.2.1 0 o.ok (Int.le_refl _) (by omega);have z:tgI s.2.2.1 (cumL 0 s.2.2.1) x=0→0≤tgI s.2.2.1 (cumL 0 s.2.2.1) x∧tgI s.2.2.1 (cumL 0 s.2.2.1) x<((sumT s.2.2.1+ndT s.2.2.2.1 s.2.2.2.2:Nat):Int):=fun e=>by omega
 have g0:(cumL 0 s.2.2.1).getD 0 0=0:=by
  rw [List.getD_eq_getElem?_getD,get 0 (by omega)];rfl
 rcases tgt_cases s.2.2.1 s.2.2.1.length x with h1|⟨-,h1⟩|⟨I,hI,h9,h1⟩
 ·exact z (by unfold tgI;rw [h1];exact g0)
 ·exact z (by unfold tgI;rw [h1];exact g0)
 ·have:=sumT_take s.2.2.1 I hI
  rw [nN_get hI]at h9;unfold ndT at this;rw [if_neg h9]at this
  have e:tgI s.2.2.1 (cumL 0 s.2.2.1) x=((sumT (s.2.2.1.take I):Nat):Int):=by
   unfold tgI;rw [h1];show(cumL 0 s.2.2.1).getD ((I:Int).toNat) 0=_;rw [Int.toNat_natCast,List.getD_eq_getElem?_getD,get I (by omega)];show(0:Int)+_=_;omega
  rw [e];omega
abbrev plS(s:Sc):List NdR×Int×List Int:=planN (nms s.1) (leqF s.1 s.2.1) s.2.2.1 0 s.2.2.2.1 s.2.2.2.2
theorem plan_num(s:Sc):(plS s).1.length=sumT s.2.2.1+ndT s.2.2.2.1 s.2.2.2.2:=by
 show(addT _ _ _ _ _ _).2.length=_;rw [addT_num,addA_num];simp
theorem OkS.num{s:Sc}(o:OkS s):1≤(plS s).1.length∧(plS s).1.length≤40000:=by
 rw [plan_num];have hs:=sumT_le _ o.cnt;have htl:=o.tl;have h1:=ndF_le s.2.2.2.2;have h2:=o.cntr;refine⟨o.one,?_⟩;unfold ndT
 split<;>omega
theorem OkS.good{s:Sc}(o:OkS s):GoodL (plS s).1:=fun y hy=>by
 obtain⟨i,hi,e⟩:=List.mem_iff_getElem.1 hy;have hy2:(plS s).1[i]?=some y:=by rw [List.getElem?_eq_getElem hi,e]
 by_cases q:(addA (nms s.1) (leqF s.1 s.2.1) (tgI s.2.2.1 (cumL 0 s.2.2.1)) s.2.2.1 []).2.length≤i
 ·exact addT_good o.okr _ i y q hy2
 ·have b:=addT_behind (nms s.1) (leqF s.1 s.2.1) (tgI s.2.2.1 (cumL 0 s.2.2.1)) s.2.2.2.1 s.2.2.2.2 (addA (nms s.1) (leqF s.1 s.2.1) (tgI s.2.2.1 (cumL 0 s.2.2.1)) s.2.2.1 []).2
  exact addA_good s.2.2.1 [] o.ok i y (Nat.zero_le _) ((b.2.2 i (by omega)).symm.trans hy2)
theorem addA_in{nm:List ByteArray}{F:Nat→Nat→Bool}{tg:ByteArray→Int}{M:Nat}(ht:∀x,0≤tg x∧tg x<(M:Int)):∀(tys:List Nd)(l:List NdR),NdIn M l→(addA nm F tg tys l).2.length≤M→NdIn M (addA nm F tg tys l).2
| [],l,h,_=>h
| x::r,l,h,hM=>by
 have b:=addA_behind (nm:=nm) (F:=F) (tg:=tg) r (addT nm F tg x.2.1 x.2.2 l).2;refine addA_in ht r _ ?_ hM;have hM1:(addT nm F tg x.2.1 x.2.2 l).2.length≤M:=Nat.le_trans b.1 hM;unfold addT addW at hM1 ⊢
 by_cases c9:x.2.1.kind=9
 ·rw [if_pos c9];exact h
 ·rw [if_neg c9]at hM1 ⊢
  simp only[List.length_set]at hM1;obtain⟨i1,i2⟩:=addF_in ht x.2.2 (l++[ndP x.2.1]) (h.snoc (by intro e he;cases he)) hM1
  exact i2.set i1
theorem OkS.inn{s:Sc}(o:OkS s):NdIn (plS s).1.length (plS s).1∧0≤(plS s).2.1∧(plS s).2.1<((plS s).1.length:Int):=by
 have tg:=o.tg;rw [←plan_num]at tg;have b:=addT_behind (nms s.1) (leqF s.1 s.2.1) (tgI s.2.2.1 (cumL 0 s.2.2.1)) s.2.2.2.1 s.2.2.2.2 (addA (nms s.1) (leqF s.1 s.2.1) (tgI s.2.2.1 (cumL 0 s.2.2.1)) s.2.2.1 []).2;have a:=addA_in tg s.2.2.1 [] (nm:=nms s.1) (F:=leqF s.1 s.2.1) (fun y hy=>by cases hy) b.1;obtain⟨M,hMe⟩:∃M,(plS s).1.length=M:=⟨_,rfl⟩;have hM:(plS s).1.length≤M:=Nat.le_of_eq hMe;rw [hMe]at a tg ⊢;unfold plS planN addT addW at hM ⊢
 by_cases c9:s.2.2.2.1.kind=9
 ·simp only[if_pos c9]
  exact⟨a,tg _⟩
 ·simp only[if_neg c9]at hM ⊢
  simp only[List.length_set]at hM;obtain⟨i1,i2⟩:=addF_in tg s.2.2.2.2 _ (a.snoc (y:=ndP s.2.2.2.1) (by intro e he;cases he)) hM
  have:=(addF_behind (nm:=nms s.1) (F:=leqF s.1 s.2.1) (tg:=tgI s.2.2.1 (cumL 0 s.2.2.1)) s.2.2.2.2 ((addA (nms s.1) (leqF s.1 s.2.1) (tgI s.2.2.1 (cumL 0 s.2.2.1)) s.2.2.1 []).2++[ndP s.2.2.2.1])).1;simp at this;exact⟨i2.set i1,by omega,by omega⟩
end Res
namespace Res
open Go.RowKit Go.Lib Utf Nam Lat Kin Unp Rel Lab
def flatF:Ft→List (TH×Ft)
| .nil=>[]
| .cons p h k r=>(if p.bare then[]else if h.kind=9 then[]else(h,k)::flatF k)++flatF r
def flatT(h:TH)(f:Ft):List (TH×Ft):=if h.kind=9 then[]else(h,f)::flatF f
theorem flatF_len:∀f:Ft,(flatF f).length=ndF f
| .nil=>rfl
| .cons p h k r=>by
 show(_++flatF r).length=(if p.bare then 0 else if h.kind=9 then 0 else ndF k+1)+ndF r;rw [List.length_append,flatF_len r]
 split
 ·rfl
 ·split
  ·rfl
  ·rw [List.length_cons,flatF_len k]
theorem flatT_len(h:TH)(f:Ft):(flatT h f).length=ndT h f:=by
 unfold flatT ndT
 split
 ·rfl
 ·rw [List.length_cons,flatF_len]
theorem flatF_cons(p:PH)(h:TH)(k r:Ft):flatF (.cons p h k r)=(if p.bare=true then[]else flatT h k)++flatF r:=rfl
theorem own_lit{w:World}{M:Array Value}{t:TypeId}{k:Nat}(hl:M.size=k):(w.alloc (.cells M t)).ownsRow w.heap.size t k (.slice (some ⟨w.heap.size,0,none⟩) 1 1) 1 M.toList :=
⟨by simp;omega,.inr ⟨w.heap.size,1,M,rfl,Nat.le_refl _,heap_alloc_new w _,Nat.le_refl _,by unfold maxLen;omega,by omega,by rw [Nat.one_mul];exact List.take_of_length_le (by simp;omega)⟩⟩
theorem appRow{ops:Array Oper}{rest:List Oper}{o:Oper}{a:Act}{Q:Exit→Act→World→Prop}(W:World)(k:Nat)(e:TypeId)(hgd:o.guard=none)(s x:Operand)(t:TypeId)
  (ho:o.op=.call { callee:=.builtin .append,args:=#[s,x],argTypes:=#[t,t] })
  (base:Nat) (i:TypeInfo) (z:Value) (bytes:Nat) (ht:Tryz.prog.underlying t=some (.slice e)) (hi:Tryz.prog.info? e=some i) (hz:i.zero=some z) (hsize:i.size=k) (hby:i.bytes=bytes) (hzs:z.cells.size=k) (hk:0<k)
  (v:Value) (n:Nat) (xs:List Value) (hs:a.eval s=v) (hown:W.ownsRow base e k v n xs) (vx:Value) (m:Nat) (ys:List Value) (hx:a.eval x=vx) (B:Nat) (hox:W.ownsRow B e k vx m ys) (h1:∀u∈ys,u.oneCell'=true)
  (h63:n+m≤maxLen) (hbytes:(n+m)*bytes≤140737488355328) (hbase:base≤W.heap.size)
  (h:∀v' w',w'.ownsRow base e k v' (n+m) (xs++ys)→Below base W w'→wpList Tryz.prog ops Q rest (a.put o.dst v') w') :
  wpList Tryz.prog ops Q (o::rest) a W:=by
 obtain⟨hl,⟨rfl,rfl⟩|⟨g,cap,cur,rfl,hb,hg,hnc,hm,hc,ht'⟩⟩:=hox
 ·obtain rfl:ys=[]:=List.eq_nil_of_length_eq_zero (by simpa using hl)
  exact wpList_append_own_none hgd s x t ho base e i k ht hi v n xs hs hown hx (h v W (by simpa using hown) (Below.refl _ _))
 ·have hox:W.ownsRow B e k (.slice (some ⟨g,0,none⟩) m cap) m ys:=⟨hl,.inr ⟨g,cap,cur,rfl,hb,hg,hnc,hm,hc,ht'⟩⟩
  refine wpList_append_own _ hgd s x t ho base e i z k bytes ht hi hz hsize hby hzs hk v n xs hs hown ⟨g,0,none⟩ m cap ys hx hl (fun j u hj=>?_) h1 h63 hbytes hbase fun v' w' h2 h3 _=>h v' w' h2 (grown_below h3 hbase fun k' hk'=>(hown.lt k' hk').1)
  have hj':j<m*k:=by
   rcases Nat.lt_or_ge j ys.length with h|h
   ·omega
   ·rw [List.getElem?_eq_none h]at hj;cases hj
  have e1:(⟨g,0,none⟩:Addr).add j=⟨g,j,none⟩:=by unfold Addr.add;split<;>simp_all
  rw [e1];exact(World.ownsRow.cellAt hox j hj').trans hj
def LnA:Ft→Prop
| .nil=>True
| .cons p _ _ r=>(p.label.length≤32∧p.cl.length≤32)∧LnA r
theorem sameW_nil{l:List Wr}(h:sameW l []=true):l=[]:=by
 have h':nms l=nms []:=by simpa [sameW]using h
 have:=congrArg List.length h';simp [nms]at this;exact this
theorem ln_plain{p q:PH}(h:plainB p q=true)(h1:q.label=[])(h2:q.cl=[]):p.label.length≤32∧p.cl.length≤32:=by
 simp only[plainB,Bool.and_eq_true]at h;have a:=h.1.1.1.2;have b:=h.2;rw [h1]at a;rw [h2]at b;rw [sameW_nil a,sameW_nil b];exact⟨by decide,by decide⟩
theorem ln_parts{K:Int}(hK:K=7∨K=8):∀f:Ft,okF K f→LnA f
| .nil,_=>trivial
| .cons p h k r,ok=>by
 have op:=ok.1 hK;refine⟨?_,ln_parts hK r ok.2.2⟩;cases q:p.bare with
 | true=>exact ln_plain (op.2.1 q).2.2 rfl rfl
 | false =>
  obtain⟨-,-,hw,hc⟩:=op.2.2 q;refine⟨hw.1,?_⟩;rcases hc with hc|hc
  ·rw [hc.2.2];decide
  ·exact hc.2.1
theorem ln_of{h:TH}{k:Ft}(ok:okT h k):LnA k:=by
 by_cases h78:h.kind=7∨h.kind=8
 ·exact ln_parts h78 k ok.2
 ·by_cases h56:h.kind=5∨h.kind=6
  ·have on:=ok.1.2.2.2.2.2.2.2.2.1 h56
   cases k with
   | nil=>exact(Bool.false_ne_true on).elim
   | cons p x k r =>
    cases r with
    | nil =>
     have h':(decide (p.name=ByteArray.empty)&&plainB p zPH)=true:=on;rw [Bool.and_eq_true]at h';exact⟨ln_plain h'.2 rfl rfl,trivial⟩
    | cons q y l t=>exact(Bool.false_ne_true on).elim
  ·have ow:=ok.1.2.2.1
   have k1:=ok.1.1;have k9:=ok.1.2.1;simp only[ownB,decide_eq_true_eq]at ow;have:k.len=0:=by omega
   cases k with
   | nil=>trivial
   | cons p x k r=>exact absurd this (by show r.len+1≠0;omega)
def unT(s:Sc)(h:TH)(g:Int×Int):Int×Int:=if h.kind=9∧findS (tnm s) h.name<0 then(15,h.nat)else g
def unF(s:Sc):Ft→Int×Int
| .nil=>(0,0)
| .cons p h k r=>if(wdS (nms s.1) p.label).1≠0 then wdS (nms s.1) p.label else if(wdS (nms s.1) p.cl).1≠0 then wdS (nms s.1) p.cl else if p.bare=true then unF s r else if(unT s h (unF s k)).1≠0 then unT s h (unF s k)else unF s r
def UnC(s:Sc)(f:Ft):Prop:=∀(h:TH)(lv ov tv nv pv nv' pv':Value)(w:World),okT h f→f.len≤64→RdSc w s lv ov tv nv pv→RdY w h f nv' pv'→∀R:Ending→World→Prop,
Hid (∀W,Below w.heap.size w W→R (.returned (.agg #[.int .i64 (unT s h (unF s f)).1,.int .i64 (unT s h (unF s f)).2])) W)→Calls Tryz.prog 83 #[scV s lv ov tv nv pv,tyV h nv' pv'] w R
theorem ln_drop:∀(K:Nat){f:Ft}{p:PH}{x:TH}{k r:Ft},LnA f→f.drop K=.cons p x k r→p.label.length≤32∧p.cl.length≤32
| 0,f,p,x,k,r,a,e=>by
 have e':f=.cons p x k r:=e;subst e';exact a.1
| n+1,.nil,p,x,k,r,a,e=>by simp [Fo.drop]at e
| n+1,.cons q y l s,p,x,k,r,a,e=>ln_drop n (f:=s) a.2 e
theorem ok_drop:∀(K:Nat){f:Ft}{Kd:Int}{p:PH}{x:TH}{k r:Ft},okF Kd f→f.drop K=.cons p x k r→p.bare=false→okT x k
| 0,f,Kd,p,x,k,r,a,e,b=>by
 have e':f=.cons p x k r:=e;subst e';exact a.2.1 b
| n+1,.nil,Kd,p,x,k,r,a,e,b=>by simp [Fo.drop]at e
| n+1,.cons q y l s,Kd,p,x,k,r,a,e,b=>ok_drop n (f:=s) a.2.2 e b
end Res
end Go.Proofs.YtncckdaflellnaaGreat
