import Derived.Test.YtabhkakomececaaGreatQ30
set_option linter.all false
set_option maxRecDepth 100000
set_option maxHeartbeats 4000000
namespace Go.Proofs.YtabhkakomececaaGreat.Res
open Go.RowKit Go.Lib Utf Nam Lat Kin Unp Rel Lab Inh
theorem edges_bare{nm:List ByteArray}{F:Nat→Nat→Bool}{tg:ByteArray→Int}:∀(f:Ft)(l:List NdR),okF 7 f→∀e∈(addF nm F tg f l).1,e.bare=false
| .nil,l,_,e,he=>by cases he
| .cons p h k r,l,ok,e,he=>by
 rw [addF_cons]at he
 have hp:p.bare=false:=by
  cases q:p.bare with
  | false=>rfl
  | true =>
   have:=((ok.1 (.inl rfl)).2.1 q).1;exact absurd this (by decide)
 rcases List.mem_cons.1 he with rfl|he
 ·exact hp
 ·exact edges_bare r _ ok.2.2 e he
theorem only_edge{nm:List ByteArray}{F:Nat→Nat→Bool}{tg:ByteArray→Int}{f:Ft}(h:onlyB f=true)(l:List NdR):∃e,(addF nm F tg f l).1=[e]∧e.bare=false:=by
 match f,h with
 | .cons p x k .nil,h =>
  have h':(decide (p.name=ByteArray.empty)&&plainB p zPH)=true:=h;simp only[plainB,zPH,Bool.and_eq_true,beq_iff_eq]at h';exact⟨_,rfl,h'.2.1.1.1.1.1⟩
theorem node_good{nm:List ByteArray}{F:Nat→Nat→Bool}{tg:ByteArray→Int}{h:TH}{k:Ft}(ok:okT h k)(h9:h.kind≠9)(l:List NdR):GoodY { ndP h with edges:=(addF nm F tg k l).1 } where
kb:=by
 have a:=ok.1.1;have b:=ok.1.2.1;show 1≤h.kind∧h.kind≤8;omega
e56:=fun q=>only_edge (ok.1.2.2.2.2.2.2.2.2.1 q) l
e7:=fun q e he=>by
 have:=ok.2;rw [show h.kind=7 from q]at this;exact edges_bare k l this e he
n4:=fun q=>by
 have:=(ok.1.2.2.2.2.2.2.2.1 q).1;show nms h.names≠[];unfold nms;intro c;exact this (List.map_eq_nil_iff.1 c)
m3:=fun q=>by
 show 0≤h.most∧h.most≤4096;rcases q with q|q
 ·exact ok.1.2.2.2.2.1 q
 ·have:=ok.1.2.2.2.2.2.1 q
  omega
le:=by rw [addF_len];exact(ok_len ok).1
ln:=by
 show(nms h.names).length≤64;unfold nms;rw [List.length_map];exact(ok_len ok).2
def NewOk(n:Nat)(m:List NdR):Prop:=∀(i:Nat)(y:NdR),n≤i→m[i]?=some y→GoodY y
theorem addF_good{nm:List ByteArray}{F:Nat→Nat→Bool}{tg:ByteArray→Int}:∀(f:Ft)(K:Int)(l:List NdR),okF K f→NewOk l.length (addF nm F tg f l).2
| .nil,K,l,_,i,y,hi,hy=>by
 have:=(List.getElem?_eq_some_iff.1 hy).1;exact absurd this (by show ¬i<l.length;omega)
| .cons p h k r,K,l,ok,i,y,hi,hy=>by
 rw [addF_cons]at hy;have b2:=addF_behind (nm:=nm) (F:=F) (tg:=tg) r (addK nm F tg p h k l).2
 by_cases q:(addK nm F tg p h k l).2.length≤i
 ·exact addF_good r K _ ok.2.2 i y q hy
 ·have e:(addF nm F tg r (addK nm F tg p h k l).2).2[i]?=(addK nm F tg p h k l).2[i]?:=b2.2.2 i (by omega)
  have hy2:(addK nm F tg p h k l).2[i]?=some y:=e.symm.trans hy;unfold addK at hy2 q
  by_cases c:p.bare=true
  ·rw [if_pos c]at q
   exact absurd hi q
  ·rw [if_neg c]at hy2 q
   have okk:=ok.2.1 (by simpa using c);unfold addW at hy2 q
   by_cases c9:h.kind=9
   ·rw [if_pos c9]at q
    exact absurd hi q
   ·rw [if_neg c9]at hy2 q
    by_cases ei:i=l.length
    ·subst ei
     have ln:l.length<(addF nm F tg k (l++[ndP h])).2.length:=by
      have:=(addF_behind (nm:=nm) (F:=F) (tg:=tg) k (l++[ndP h])).1;simp at this;omega
     rw [List.getElem?_set_self ln,Option.some.injEq]at hy2;subst hy2;exact node_good okk c9 _
    ·rw [List.getElem?_set_ne (by omega)]at hy2
     exact addF_good k h.kind (l++[ndP h]) okk.2 i y (by simp;omega) hy2
theorem addT_good{nm:List ByteArray}{F:Nat→Nat→Bool}{tg:ByteArray→Int}{h:TH}{f:Ft}(ok:okT h f)(l:List NdR):NewOk l.length (addT nm F tg h f l).2:=fun i y hi hy=>by
 unfold addT addW at hy
 by_cases c9:h.kind=9
 ·rw [if_pos c9]at hy
  have:=(List.getElem?_eq_some_iff.1 hy).1;exact absurd this (by show ¬i<l.length;omega)
 ·rw [if_neg c9]at hy
  by_cases ei:i=l.length
  ·subst ei
   have ln:l.length<(addF nm F tg f (l++[ndP h])).2.length:=by
    have:=(addF_behind (nm:=nm) (F:=F) (tg:=tg) f (l++[ndP h])).1;simp at this;omega
   rw [List.getElem?_set_self ln,Option.some.injEq]at hy;subst hy;exact node_good ok c9 _
  ·rw [List.getElem?_set_ne (by omega)]at hy
   exact addF_good f h.kind (l++[ndP h]) ok.2 i y (by simp;omega) hy
theorem addA_good{nm:List ByteArray}{F:Nat→Nat→Bool}{tg:ByteArray→Int}:∀(tys:List Nd)(l:List NdR),(∀x∈tys,okT x.2.1 x.2.2)→NewOk l.length (addA nm F tg tys l).2
| [],l,_,i,y,hi,hy=>by
 have:=(List.getElem?_eq_some_iff.1 hy).1;exact absurd this (by show ¬i<l.length;omega)
| x::r,l,ok,i,y,hi,hy=>by
 have b:=addA_behind (nm:=nm) (F:=F) (tg:=tg) r (addT nm F tg x.2.1 x.2.2 l).2
 by_cases q:(addT nm F tg x.2.1 x.2.2 l).2.length≤i
 ·exact addA_good r _ (fun z hz=>ok z (List.mem_cons_of_mem _ hz)) i y q hy
 ·exact addT_good (ok x List.mem_cons_self) l i y hi ((b.2 i (by omega)).symm.trans hy)
def ndF:Ft→Nat
| .nil=>0
| .cons p h k r=>(if p.bare then 0 else if h.kind=9 then 0 else ndF k+1)+ndF r
def ndT(h:TH)(f:Ft):Nat:=if h.kind=9 then 0 else ndF f+1
theorem ndF_le:∀f:Ft,ndF f≤Kin.cntF f
| .nil=>Nat.le_refl _
| .cons p h k r=>by
 have h1:=ndF_le k;have h2:=ndF_le r;show(if p.bare then 0 else if h.kind=9 then 0 else ndF k+1)+ndF r≤(if p.bare then 0 else Kin.cntF k+1)+Kin.cntF r
 split
 ·omega
 ·split<;>omega
theorem nine_nil{h:TH}{k:Ft}(ok:okH h k)(h9:h.kind=9):k=.nil:=by
 have ow:=ok.2.2.1;simp only[ownB,decide_eq_true_eq]at ow;have:k.len=0:=by omega
 cases k with
 | nil=>rfl
 | cons p x k r=>exact absurd this (by show r.len+1≠0;omega)
theorem kntF_eq:∀(f:Ft)(K c:Int),okF K f→0≤c→c+ndF f≤1000000→kntF c f=c+ndF f
| .nil,K,c,_,_,_=>by show c=c+((0:Nat):Int);omega
| .cons p h k r,K,c,ok,h0,h1=>by
 have hn:ndF (.cons p h k r)=(if p.bare then 0 else if h.kind=9 then 0 else ndF k+1)+ndF r:=rfl;show(if p.bare=true then kntF c r else kntF (kntF (tl1 c h) k) r)=_;rw [hn]at h1 ⊢
 by_cases b:p.bare=true
 ·rw [if_pos b]at h1 ⊢
  rw [if_pos b,kntF_eq r K c ok.2.2 h0 (by omega)];omega
 ·rw [if_neg b]at h1 ⊢
  rw [if_neg b];have okk:=ok.2.1 (by simpa using b);unfold tl1
  by_cases c9:h.kind=9
  ·rw [if_pos c9]at h1 ⊢
   rw [if_pos c9,nine_nil okk.1 c9];show kntF c r=_;rw [kntF_eq r K c ok.2.2 h0 (by omega)];omega
  ·rw [if_neg c9]at h1 ⊢
   rw [if_neg c9];have w:wrap64 (c+1)=c+1:=IntWalk.wrap64_in _ (by omega);rw [w,kntF_eq k h.kind (c+1) okk.2 (by omega) (by omega),kntF_eq r K _ ok.2.2 (by omega) (by omega)];omega
theorem kntT_eq{h:TH}{f:Ft}{c:Int}(ok:okT h f)(h0:0≤c)(h1:c+ndT h f≤1000000):kntT c h f=c+ndT h f:=by
 unfold kntT ndT tl1 at *
 by_cases c9:h.kind=9
 ·rw [if_pos c9]at h1 ⊢
  rw [if_pos c9,nine_nil ok.1 c9];show c=c+((0:Nat):Int);omega
 ·rw [if_neg c9]at h1 ⊢
  rw [if_neg c9];have w:wrap64 (c+1)=c+1:=IntWalk.wrap64_in _ (by omega);rw [w,kntF_eq f h.kind (c+1) ok.2 (by omega) (by omega)];omega
theorem addF_num{nm:List ByteArray}{F:Nat→Nat→Bool}{tg:ByteArray→Int}:∀(f:Ft)(l:List NdR),(addF nm F tg f l).2.length=l.length+ndF f
| .nil,l=>rfl
| .cons p h k r,l=>by
 have hn:ndF (.cons p h k r)=(if p.bare then 0 else if h.kind=9 then 0 else ndF k+1)+ndF r:=rfl;rw [addF_cons,hn];show(addF nm F tg r (addK nm F tg p h k l).2).2.length=_;rw [addF_num r]
 have:(addK nm F tg p h k l).2.length=l.length+(if p.bare then 0 else if h.kind=9 then 0 else ndF k+1):=by
  unfold addK
  by_cases b:p.bare=true
  ·rw [if_pos b,if_pos b];rfl
  ·rw [if_neg b,if_neg b]
   unfold addW
   by_cases c9:h.kind=9
   ·rw [if_pos c9,if_pos c9];rfl
   ·rw [if_neg c9,if_neg c9]
    show(List.set _ _ _).length=_;rw [List.length_set,addF_num k,List.length_append];show l.length+1+_=_;omega
 rw [this];omega
theorem addT_num{nm:List ByteArray}{F:Nat→Nat→Bool}{tg:ByteArray→Int}(h:TH)(f:Ft)(l:List NdR):(addT nm F tg h f l).2.length=l.length+ndT h f:=by
 unfold addT addW ndT
 by_cases c9:h.kind=9
 ·rw [if_pos c9,if_pos c9];rfl
 ·rw [if_neg c9,if_neg c9]
  show(List.set _ _ _).length=_;rw [List.length_set,addF_num f,List.length_append];show l.length+1+_=_;omega
def sumT(l:List Nd):Nat:=(l.map fun x=>ndT x.2.1 x.2.2).sum
theorem sumT_cons(x:Nd)(l:List Nd):sumT (x::l)=ndT x.2.1 x.2.2+sumT l:=by simp [sumT]
theorem addA_num{nm:List ByteArray}{F:Nat→Nat→Bool}{tg:ByteArray→Int}:∀(tys:List Nd)(l:List NdR),(addA nm F tg tys l).2.length=l.length+sumT tys
| [],l=>rfl
| x::r,l=>by
 show(addA nm F tg r (addT nm F tg x.2.1 x.2.2 l).2).2.length=_;rw [addA_num r,addT_num,sumT_cons];omega
theorem cumL_get:∀(tys:List Nd)(c:Int),(∀x∈tys,okT x.2.1 x.2.2)→0≤c→c+sumT tys≤1000000→∀i,i≤tys.length→(cumL c tys)[i]?=some (c+sumT (tys.take i))
| [],c,_,_,_,i,hi=>by
 obtain rfl:i=0:=by simpa using hi
 show some c=some (c+((0:Nat):Int));rw [Option.some.injEq];omega
| x::r,c,ok,h0,h1,0,hi=>by
 show some c=some (c+((0:Nat):Int));rw [Option.some.injEq];omega
| x::r,c,ok,h0,h1,i+1,hi=>by
 rw [sumT_cons]at h1;show(cumL (kntT c x.2.1 x.2.2) r)[i]?=_;rw [kntT_eq (ok x List.mem_cons_self) h0 (by omega),cumL_get r _ (fun z hz=>ok z (List.mem_cons_of_mem _ hz)) (by omega) (by omega) i (by simpa using hi),List.take_succ_cons,sumT_cons,Option.some.injEq];omega
theorem sumT_take:∀(l:List Nd)(i:Nat)(hi:i<l.length),sumT (l.take i)+ndT l[i].2.1 l[i].2.2≤sumT l
| x::r,0,hi=>by
 rw [sumT_cons];show 0+_≤_;simp
| x::r,i+1,hi=>by
 have:=sumT_take r i (by simpa using hi);rw [List.take_succ_cons,sumT_cons,sumT_cons];show _+ndT (r[i]'(by simpa using hi)).2.1 (r[i]'(by simpa using hi)).2.2≤_;omega
theorem sumT_le(l:List Nd)(h:∀x∈l,Kin.cntF x.2.2≤512):sumT l≤513*l.length:=by
 induction l with
 | nil=>exact Nat.le_refl _
 | cons x l ih =>
  have h1:=ih fun y hy=>h y (List.mem_cons_of_mem _ hy)
  have h2:=h x List.mem_cons_self;have h3:=ndF_le x.2.2;rw [sumT_cons,List.length_cons];unfold ndT
  split<;>omega
theorem tgt_cases(tys:List Nd):∀(n:Nat)(x:ByteArray),tgtS tys n x=(0,false)∨(tys=[]∧(tgtS tys n x).1=0)∨∃I:Nat,I<tys.length∧(nN tys I).2.1.kind≠9∧tgtS tys n x=((I:Int),true)
| 0,x=>.inl rfl
| n+1,x=>by
 have hlen:(nms (tw tys)).length=tys.length:=by simp [nms,tw_len]
 by_cases e:tys=[]
 ·subst e
  refine .inr (.inl ⟨rfl,?_⟩)
  have:∀(n:Nat) (x:ByteArray),(tgtS [] n x).1=0:=by
   intro n
   induction n with
   | zero=>intro x;rfl
   | succ n ih =>
    intro x;show(if(nN [] (finS (nms (tw [])) x).1.toNat).2.1.kind≠9 then((finS (nms (tw [])) x).1,true)else tgtS [] n _).1=0
    split
    ·show(finS (nms (tw [])) x).1=0
     rcases find_cases (nms (tw [])) x with⟨h1,-⟩|⟨k,h1,-⟩
     ·rw [fin_no (by rw [h1];decide)]
     ·exact absurd h1 (by simp [nms,tw])
    ·exact ih _
  exact this _ _
 ·obtain⟨I,h1,h2⟩:=fin_in (xs:=nms (tw tys)) x (by rw [hlen];exact List.length_pos_iff.2 e)
  show(if(nN tys (finS (nms (tw tys)) x).1.toNat).2.1.kind≠9 then((finS (nms (tw tys)) x).1,true)else tgtS tys n (nN tys (finS (nms (tw tys)) x).1.toNat).2.1.name)=_∨(_∧(if(nN tys (finS (nms (tw tys)) x).1.toNat).2.1.kind≠9 then((finS (nms (tw tys)) x).1,true)else tgtS tys n (nN tys (finS (nms (tw tys)) x).1.toNat).2.1.name).1=0)∨∃J:Nat,J<tys.length∧(nN tys J).2.1.kind≠9∧(if(nN tys (finS (nms (tw tys)) x).1.toNat).2.1.kind≠9 then((finS (nms (tw tys)) x).1,true)else tgtS tys n (nN tys (finS (nms (tw tys)) x).1.toNat).2.1.name)=_;rw [h1,Int.toNat_natCast]
  by_cases c:(nN tys I).2.1.kind≠9
  ·simp only[if_pos c]
   exact .inr (.inr ⟨I,by rw [←hlen];exact h2,c,rfl⟩)
  ·simp only[if_neg c]
   exact tgt_cases tys n _
structure OkS(s:Sc):Prop where
ok:∀x∈s.2.2.1,okT x.2.1 x.2.2
okr:okT s.2.2.2.1 s.2.2.2.2
tl:s.2.2.1.length≤64
cnt:∀x∈s.2.2.1,Kin.cntF x.2.2≤512
cntr:Kin.cntF s.2.2.2.2≤512
lat:(wrongS s.1 s.2.1).1=0
wr:((eachS (inT (wordsS (nms s.1) (leqF s.1 s.2.1) (nms (tw s.2.2.1)))) (eachS kindsS bs0 s.2.2.1 s.2.2.2.1 s.2.2.2.2).2 s.2.2.1 s.2.2.2.1 s.2.2.2.2).1).1=0
lp:(loopsS s.2.2.1 s.2.2.1).1=0
theorem OkS.of{s:Sc}(h:(bldS s).1=0):OkS s:=by
 unfold bldS at h
 by_cases c1:(wrongS s.1 s.2.1).1≠0
 ·rw [if_pos c1]at h;exact absurd h c1
 rw [if_neg c1]at h
 by_cases c2:(nmC s.2.2.1).1≠0
 ·rw [if_pos c2]at h;exact absurd h c2
 rw [if_neg c2]at h;have hk:=chk_kinds h;obtain⟨o1,o2⟩:=each_ok _ _ hk;obtain⟨n1,n2⟩:=each_cnt _ _ hk;have hl:s.2.2.1.length≤64:=Classical.byContradiction fun c=>c2 (by unfold nmC;rw [if_pos (by omega)];show(8:Int)≠0;decide)
 have h2:=h;unfold chkB at h;rw [if_neg (by rw [hk];decide)]at h
 by_cases c3:(eachS (inT (wordsS (nms s.1) (leqF s.1 s.2.1) (nms (tw s.2.2.1)))) (eachS kindsS bs0 s.2.2.1 s.2.2.2.1 s.2.2.2.2).2 s.2.2.1 s.2.2.2.1 s.2.2.2.2).1.1≠0
 ·rw [if_pos c3]at h;exact absurd h c3
 rw [if_neg c3]at h;exact⟨o1,o2,hl,n1,n2,Classical.not_not.1 c1,Classical.not_not.1 c3,h⟩
theorem loops_all{tys:List Nd}:∀(l:List Nd),(loopsS tys l).1=0→∀x∈l,(tgtS tys tys.length x.1.1).2=true
| [],_,x,hx=>by cases hx
| y::l,h,x,hx=>by
 have h':(if(tgtS tys tys.length y.1.1).2=false then((11:Int),y.1.2)else loopsS tys l).1=0:=h
 by_cases c:(tgtS tys tys.length y.1.1).2=false
 ·rw [if_pos c]at h';cases h'
 ·rw [if_neg c]at h'
  rcases List.mem_cons.1 hx with rfl|hx
  ·simpa using c
  ·exact loops_all l h' x hx
theorem each_words{op:BS→TH→Ft→(Int×Int)×BS}(hop:∀s s' a b,(op s a b).1=(op s' a b).1):∀(l:List Nd)(s:BS)(a:TH)(b:Ft),(eachS op s l a b).1.1=0→(∀x∈l,(op bs0 x.2.1 x.2.2).1.1=0)∧(op bs0 a b).1.1=0
| [],s,a,b,h=>⟨by simp,by rw [hop bs0 s];exact h⟩
| x::l,s,a,b,h=>by
 have h':(if(op s x.2.1 x.2.2).1.1≠0 then op s x.2.1 x.2.2 else eachS op (op s x.2.1 x.2.2).2 l a b).1.1=0:=h
 by_cases c:(op s x.2.1 x.2.2).1.1≠0
 ·rw [if_pos c]at h';exact absurd h' c
 ·rw [if_neg c]at h'
  obtain⟨h1,h2⟩:=each_words hop l _ a b h';refine⟨fun y hy=>?_,h2⟩;rcases List.mem_cons.1 hy with rfl|hy
  ·rw [hop bs0 s];exact Classical.not_not.1 c
  ·exact h1 y hy
theorem inF_words{nm:List ByteArray}{F:Nat→Nat→Bool}{ns:List ByteArray}:∀(f:Ft)(s s':BS),(inF (wordsS nm F ns) s f).1=(inF (wordsS nm F ns) s' f).1∧(inF (wordsS nm F ns) s f).2=s
| .nil,s,s'=>⟨rfl,rfl⟩
| .cons p h k r,s,s'=>by
 have e:∀s:BS,inF (wordsS nm F ns) s (.cons p h k r)=if p.bare=true then inF (wordsS nm F ns) s r else if(wordsS nm F ns s h k).1.1≠0 then wordsS nm F ns s h k else if(inF (wordsS nm F ns) (wordsS nm F ns s h k).2 k).1.1≠0 then inF (wordsS nm F ns) (wordsS nm F ns s h k).2 k else inF (wordsS nm F ns) (inF (wordsS nm F ns) (wordsS nm F ns s h k).2 k).2 r:=fun _=>rfl
 rw [e,e];have w2:∀s:BS,(wordsS nm F ns s h k).2=s:=fun _=>rfl
 have w1:(wordsS nm F ns s h k).1=(wordsS nm F ns s' h k).1:=rfl;simp only[w2,(inF_words k s s').2,(inF_words k s' s).2]
 by_cases b:p.bare=true
 ·simp only[if_pos b]
  exact inF_words r s s'
 ·simp only[if_neg b]
  rw [←w1]
  by_cases c:(wordsS nm F ns s h k).1.1≠0
  ·simp only[if_pos c]
   exact⟨rfl,rfl⟩
  ·simp only[if_neg c]
   rw [←(inF_words k s s').1]
   by_cases c2:(inF (wordsS nm F ns) s k).1.1≠0
   ·simp only[if_pos c2]
    exact inF_words k s s'
   ·simp only[if_neg c2]
    exact inF_words r s s'
theorem inT_words{nm:List ByteArray}{F:Nat→Nat→Bool}{ns:List ByteArray}(s s':BS)(h:TH)(f:Ft):(inT (wordsS nm F ns) s h f).1=(inT (wordsS nm F ns) s' h f).1:=by
 unfold inT;have w2:∀s:BS,(wordsS nm F ns s h f).2=s:=fun _=>rfl
 have w1:(wordsS nm F ns s h f).1=(wordsS nm F ns s' h f).1:=rfl;simp only[w2];rw [←w1]
 by_cases c:(wordsS nm F ns s h f).1.1≠0
 ·simp only[if_pos c]
  exact w1
 ·simp only[if_neg c]
  exact(inF_words f s s').1
theorem OkS.words{s:Sc}(o:OkS s):(∀x∈s.2.2.1,(inT (wordsS (nms s.1) (leqF s.1 s.2.1) (nms (tw s.2.2.1))) bs0 x.2.1 x.2.2).1.1=0)∧(inT (wordsS (nms s.1) (leqF s.1 s.2.1) (nms (tw s.2.2.1))) bs0 s.2.2.2.1 s.2.2.2.2).1.1=0 :=
each_words (fun a b c d=>inT_words a b c d) _ _ _ _ o.wr
theorem OkS.one{s:Sc}(o:OkS s):1≤sumT s.2.2.1+ndT s.2.2.2.1 s.2.2.2.2:=by
 by_cases c:s.2.2.2.1.kind=9
 ·have hw:=o.words.2
  unfold inT at hw
  by_cases q:(wordsS (nms s.1) (leqF s.1 s.2.1) (nms (tw s.2.2.1)) bs0 s.2.2.2.1 s.2.2.2.2).1.1≠0
  ·rw [if_pos q]at hw;exact absurd hw q
  ·have q2:¬(s.2.2.2.1.kind=9∧(finS (nms (tw s.2.2.1)) s.2.2.2.1.name).2=false):=fun e=>q (by
    show(if s.2.2.2.1.kind=9∧(finS (nms (tw s.2.2.1)) s.2.2.2.1.name).2=false then((15:Int),s.2.2.2.1.nat)else _).1≠0;rw [if_pos e];show(15:Int)≠0
    decide)
   have ne:s.2.2.1≠[]:=fun e=>q2 ⟨c,by
    rw [e];rcases find_cases (nms (tw [])) s.2.2.2.1.name with⟨h1,-⟩|⟨k,h1,-⟩
    ·rw [fin_no (by rw [h1];decide)]
    ·exact absurd h1 (by simp [nms,tw])⟩
   obtain⟨x,r,e⟩:=List.exists_cons_of_ne_nil ne;have ht:=loops_all _ o.lp x (by rw [e];exact List.mem_cons_self)
   rcases tgt_cases s.2.2.1 s.2.2.1.length x.1.1 with h1|⟨h1,-⟩|⟨I,hI,h9,-⟩
   ·rw [h1]at ht;cases ht
   ·exact absurd h1 ne
   ·have:=sumT_take s.2.2.1 I hI
    rw [nN_get hI]at h9;unfold ndT at this;rw [if_neg h9]at this;omega
 ·unfold ndT
  rw [if_neg c];omega
theorem OkS.tg{s:Sc}(o:OkS s)(x:ByteArray):0≤tgI s.2.2.1 (cumL 0 s.2.2.1) x∧tgI s.2.2.1 (cumL 0 s.2.2.1) x<((sumT s.2.2.1+ndT s.2.2.2.1 s.2.2.2.2:Nat):Int):=by
 have hs:=sumT_le _ o.cnt;have htl:=o.tl;have one:=o.one;have get:=cumL_get s.2.2.1 0 o.ok (Int.le_refl _) (by omega);have z:tgI s.2.2.1 (cumL 0 s.2.2.1) x=0→0≤tgI s.2.2.1 (cumL 0 s.2.2.1) x∧tgI s.2.2.1 (cumL 0 s.2.2.1) x<((sumT s.2.2.1+ndT s.2.2.2.1 s.2.2.2.2:Nat):Int):=fun e=>by omega
 have g0:(cumL 0 s.2.2.1).getD 0 0=0:=by
  rw [List.getD_eq_getElem?_getD,get 0 (by omega)];rfl
 rcases tgt_cases s.2.2.1 s.2.2.1.length x with h1|⟨-,h1⟩|⟨I,hI,h9,h1⟩
 ·exact z (by unfold tgI;rw [h1];exact g0)
 ·exact z (by unfold tgI;rw [h1];exact g0)
 ·have:=sumT_take s.2.2.1 I hI
  rw [nN_get hI]at h9;unfold ndT at this;rw [if_neg h9]at this
  have e:tgI s.2.2.1 (cumL 0 s.2.2.1) x=((sumT (s.2.2.1.take I):Nat):Int):=by
   unfold tgI;rw [h1];show(cumL 0 s.2.2.1).getD ((I:Int).toNat) 0=_;rw [Int.toNat_natCast,List.getD_eq_getElem?_getD,get I (by omega)];show(0:Int)+_=_;omega
  rw [e];omega
abbrev plS(s:Sc):List NdR×Int×List Int:=planN (nms s.1) (leqF s.1 s.2.1) s.2.2.1 0 s.2.2.2.1 s.2.2.2.2
theorem plan_num(s:Sc):(plS s).1.length=sumT s.2.2.1+ndT s.2.2.2.1 s.2.2.2.2:=by
 show(addT _ _ _ _ _ _).2.length=_;rw [addT_num,addA_num];simp
theorem OkS.num{s:Sc}(o:OkS s):1≤(plS s).1.length∧(plS s).1.length≤40000:=by
 rw [plan_num];have hs:=sumT_le _ o.cnt;have htl:=o.tl;have h1:=ndF_le s.2.2.2.2;have h2:=o.cntr;refine⟨o.one,?_⟩;unfold ndT
 split<;>omega
theorem OkS.good{s:Sc}(o:OkS s):GoodL (plS s).1:=fun y hy=>by
 obtain⟨i,hi,e⟩:=List.mem_iff_getElem.1 hy;have hy2:(plS s).1[i]?=some y:=by rw [List.getElem?_eq_getElem hi,e]
 by_cases q:(addA (nms s.1) (leqF s.1 s.2.1) (tgI s.2.2.1 (cumL 0 s.2.2.1)) s.2.2.1 []).2.length≤i
 ·exact addT_good o.okr _ i y q hy2
 ·have b:=addT_behind (nms s.1) (leqF s.1 s.2.1) (tgI s.2.2.1 (cumL 0 s.2.2.1)) s.2.2.2.1 s.2.2.2.2 (addA (nms s.1) (leqF s.1 s.2.1) (tgI s.2.2.1 (cumL 0 s.2.2.1)) s.2.2.1 []).2
  exact addA_good s.2.2.1 [] o.ok i y (Nat.zero_le _) ((b.2.2 i (by omega)).symm.trans hy2)
theorem addA_in{nm:List ByteArray}{F:Nat→Nat→Bool}{tg:ByteArray→Int}{M:Nat}(ht:∀x,0≤tg x∧tg x<(M:Int)):∀(tys:List Nd)(l:List NdR),NdIn M l→(addA nm F tg tys l).2.length≤M→NdIn M (addA nm F tg tys l).2
| [],l,h,_=>h
| x::r,l,h,hM=>by
 have b:=addA_behind (nm:=nm) (F:=F) (tg:=tg) r (addT nm F tg x.2.1 x.2.2 l).2;refine addA_in ht r _ ?_ hM;have hM1:(addT nm F tg x.2.1 x.2.2 l).2.length≤M:=Nat.le_trans b.1 hM;unfold addT addW at hM1 ⊢
 by_cases c9:x.2.1.kind=9
 ·rw [if_pos c9];exact h
 ·rw [if_neg c9]at hM1 ⊢
  simp only[List.length_set]at hM1;obtain⟨i1,i2⟩:=addF_in ht x.2.2 (l++[ndP x.2.1]) (h.snoc (by intro e he;cases he)) hM1
  exact i2.set i1
theorem OkS.inn{s:Sc}(o:OkS s):NdIn (plS s).1.length (plS s).1∧0≤(plS s).2.1∧(plS s).2.1<((plS s).1.length:Int):=by
 have tg:=o.tg;rw [←plan_num]at tg;have b:=addT_behind (nms s.1) (leqF s.1 s.2.1) (tgI s.2.2.1 (cumL 0 s.2.2.1)) s.2.2.2.1 s.2.2.2.2 (addA (nms s.1) (leqF s.1 s.2.1) (tgI s.2.2.1 (cumL 0 s.2.2.1)) s.2.2.1 []).2;have a:=addA_in tg s.2.2.1 [] (nm:=nms s.1) (F:=leqF s.1 s.2.1) (fun y hy=>by cases hy) b.1;obtain⟨M,hMe⟩:∃M,(plS s).1.length=M:=⟨_,rfl⟩;have hM:(plS s).1.length≤M:=Nat.le_of_eq hMe;rw [hMe]at a tg ⊢;unfold plS planN addT addW at hM ⊢
 by_cases c9:s.2.2.2.1.kind=9
 ·simp only[if_pos c9]
  exact⟨a,tg _⟩
 ·simp only[if_neg c9]at hM ⊢
  simp only[List.length_set]at hM;obtain⟨i1,i2⟩:=addF_in tg s.2.2.2.2 _ (a.snoc (y:=ndP s.2.2.2.1) (by intro e he;cases he)) hM
  have:=(addF_behind (nm:=nms s.1) (F:=leqF s.1 s.2.1) (tg:=tgI s.2.2.1 (cumL 0 s.2.2.1)) s.2.2.2.2 ((addA (nms s.1) (leqF s.1 s.2.1) (tgI s.2.2.1 (cumL 0 s.2.2.1)) s.2.2.1 []).2++[ndP s.2.2.2.1])).1;simp at this;exact⟨i2.set i1,by omega,by omega⟩
structure EdOk(n:Nat)(e:EdR):Prop where
lb:0≤e.label∧e.label<(n:Int)
sn:0≤e.seen∧e.seen<(n:Int)
wd:1≤e.wide∧e.wide≤64
section
variable {nm:List ByteArray} {F:Nat→Nat→Bool}
theorem lof_ok(hL:Latt nm.length F){qs:List Wr}(h:(lof nm F qs).2.1=0):0≤(lof nm F qs).1∧(lof nm F qs).1<(nm.length:Int):=by
 unfold lof at *;cases hf:firF (ofAt nm qs) qs.length 0 with
 | some x =>
  rw [hf]at h;obtain⟨j,-,-,hj⟩:=fir_some _ _ hf
  have hx:x.1=17:=by
   unfold ofAt at hj
   split at hj
   ·rw [Option.some.injEq]at hj
    rw [←hj]
   ·cases hj
  have h':x.1=0:=h;omega
 | none =>
  have q:=lub_nat hL (l:=fndL nm qs) (fnd_lt fun j hj=>fir_none _ _ hf j (Nat.zero_le _) (by omega));show 0≤lubZ nm.length F (fndL nm qs)∧lubZ nm.length F (fndL nm qs)<_;rw [q.1];have:=q.2.1;omega
variable (nm F)
def LbA:Ft→Prop
| .nil=>True
| .cons p _ _ r=>((lof nm F p.label).2.1=0∧(lof nm F p.cl).2.1=0)∧LbA r
def WdA:Ft→Prop
| .nil=>True
| .cons p _ _ r=>(0≤p.wide∧p.wide≤64)∧WdA r
def DW:Ft→Prop
| .nil=>True
| .cons p _ k r=>(((lof nm F p.label).2.1=0∧(lof nm F p.cl).2.1=0)∧0≤p.wide∧p.wide≤64)∧(p.bare=false→DW k)∧DW r
variable {nm F}
theorem words_lb:∀f:Ft,(wordsF nm F f).1=0→LbA nm F f
| .nil,_=>trivial
| .cons p h k r,e=>by
 have e':(if(lof nm F p.label).2.1≠0 then(lof nm F p.label).2 else if(lof nm F p.cl).2.1≠0 then(lof nm F p.cl).2 else wordsF nm F r).1=0:=e
 by_cases c:(lof nm F p.label).2.1≠0
 ·rw [if_pos c]at e';exact absurd e' c
 ·rw [if_neg c]at e'
  by_cases c2:(lof nm F p.cl).2.1≠0
  ·rw [if_pos c2]at e';exact absurd e' c2
  ·rw [if_neg c2]at e'
   exact⟨⟨Classical.not_not.1 c,Classical.not_not.1 c2⟩,words_lb r e'⟩
theorem wd_parts{K:Int}(hK:K=7∨K=8):∀f:Ft,okF K f→WdA f
| .nil,_=>trivial
| .cons p h k r,ok=>by
 have op:=ok.1 hK;refine⟨?_,wd_parts hK r ok.2.2⟩;cases q:p.bare with
 | true =>
  have h':=(op.2.1 q).2.2;simp only[plainB,bPH,Bool.and_eq_true,beq_iff_eq,decide_eq_true_eq]at h';have h2:p.wide=0:=of_decide_eq_true h'.1.1.1.1.2;rw [h2]
  decide
 | false=>exact⟨(op.2.2 q).1,(op.2.2 q).2.1⟩
theorem wd_of{h:TH}{k:Ft}(ok:okT h k):WdA k:=by
 by_cases h78:h.kind=7∨h.kind=8
 ·exact wd_parts h78 k ok.2
 ·by_cases h56:h.kind=5∨h.kind=6
  ·have on:=ok.1.2.2.2.2.2.2.2.2.1 h56
   cases k with
   | nil=>exact(Bool.false_ne_true on).elim
   | cons p x k r =>
    cases r with
    | nil =>
     have h':(decide (p.name=ByteArray.empty)&&plainB p zPH)=true:=on;simp only[plainB,zPH,Bool.and_eq_true,beq_iff_eq,decide_eq_true_eq]at h';have h2:p.wide=0:=of_decide_eq_true h'.2.1.1.1.1.2;exact⟨by rw [h2];decide,trivial⟩
    | cons q y l t=>exact(Bool.false_ne_true on).elim
  ·have ow:=ok.1.2.2.1
   have k1:=ok.1.1;have k9:=ok.1.2.1;simp only[ownB,decide_eq_true_eq]at ow;have:k.len=0:=by omega
   cases k with
   | nil=>trivial
   | cons p x k r=>exact absurd this (by show r.len+1≠0;omega)
theorem wordsS_lb{ns:List ByteArray}{s:BS}{h:TH}{k:Ft}(e:(wordsS nm F ns s h k).1.1=0):LbA nm F k:=by
 have e':(if h.kind=9∧(finS ns h.name).2=false then((15:Int),h.nat)else wordsF nm F k).1=0:=e
 by_cases c:h.kind=9∧(finS ns h.name).2=false
 ·rw [if_pos c]at e';exact absurd e' (by show(15:Int)≠0;decide)
 ·rw [if_neg c]at e'
  exact words_lb k e'
theorem dw_of{ns:List ByteArray}:∀(f:Ft)(K:Int)(s:BS),okF K f→LbA nm F f→WdA f→(inF (wordsS nm F ns) s f).1.1=0→DW nm F f
| .nil,_,_,_,_,_,_=>trivial
| .cons p h k r,K,s,ok,lb,wd,e=>by
 have w2:∀(s:BS) (h:TH) (k:Ft),(wordsS nm F ns s h k).2=s:=fun _ _ _=>rfl
 have f2:∀(f:Ft) (s:BS),(inF (wordsS nm F ns) s f).2=s:=fun f s=>(inF_words f s s).2
 have e':(if p.bare=true then inF (wordsS nm F ns) s r else if(wordsS nm F ns s h k).1.1≠0 then wordsS nm F ns s h k else if(inF (wordsS nm F ns) (wordsS nm F ns s h k).2 k).1.1≠0 then inF (wordsS nm F ns) (wordsS nm F ns s h k).2 k else inF (wordsS nm F ns) (inF (wordsS nm F ns) (wordsS nm F ns s h k).2 k).2 r).1.1=0:=e;simp only[w2,f2]at e'
 by_cases b:p.bare=true
 ·rw [if_pos b]at e'
  exact⟨⟨lb.1,wd.1⟩,fun q=>(by rw [b]at q;cases q),dw_of r K s ok.2.2 lb.2 wd.2 e'⟩
 ·rw [if_neg b]at e'
  have okk:=ok.2.1 (by simpa using b)
  by_cases c:(wordsS nm F ns s h k).1.1≠0
  ·rw [if_pos c]at e';exact absurd e' c
  ·rw [if_neg c]at e'
   by_cases c2:(inF (wordsS nm F ns) s k).1.1≠0
   ·rw [if_pos c2]at e';exact absurd e' c2
   ·rw [if_neg c2]at e'
    exact⟨⟨lb.1,wd.1⟩,fun _=>dw_of k h.kind s okk.2 (wordsS_lb (Classical.not_not.1 c)) (wd_of okk) (Classical.not_not.1 c2),dw_of r K s ok.2.2 lb.2 wd.2 e'⟩
theorem dw_top{ns:List ByteArray}{s:BS}{h:TH}{f:Ft}(ok:okT h f)(e:(inT (wordsS nm F ns) s h f).1.1=0):DW nm F f:=by
 unfold inT at e
 by_cases c:(wordsS nm F ns s h f).1.1≠0
 ·rw [if_pos c]at e;exact absurd e c
 ·rw [if_neg c]at e
  exact dw_of f h.kind _ ok.2 (wordsS_lb (Classical.not_not.1 c)) (wd_of ok) e
def NdEd(n:Nat)(l:List NdR):Prop:=∀y∈l,∀e∈y.edges,EdOk n e
theorem NdEd.set{n:Nat}{l:List NdR}{i:Nat}{y:NdR}(h:NdEd n l)(hy:∀e∈y.edges,EdOk n e):NdEd n (l.set i y):=fun z hz=>by
 rcases List.mem_or_eq_of_mem_set hz with hz|rfl
 ·exact h z hz
 ·exact hy
theorem NdEd.snoc{n:Nat}{l:List NdR}{h:TH}(hl:NdEd n l):NdEd n (l++[ndP h]):=fun z hz=>by
 rcases List.mem_append.1 hz with hz|hz
 ·exact hl z hz
 ·obtain rfl:=List.mem_singleton.1 hz
  intro e he;cases he
theorem addF_ed(hL:Latt nm.length F){tg:ByteArray→Int}:∀(f:Ft)(l:List NdR),DW nm F f→NdEd nm.length l→(∀e∈(addF nm F tg f l).1,EdOk nm.length e)∧NdEd nm.length (addF nm F tg f l).2
| .nil,l,_,h=>⟨(fun e he=>by cases he),h⟩
| .cons p h k r,l,dw,hl=>by
 rw [addF_cons]
 have hed:∀d,EdOk nm.length (edP nm F p d):=fun d=>⟨lof_ok hL dw.1.1.1,lof_ok hL dw.1.1.2,by
  show 1≤(if p.wide=0 then 3 else p.wide)∧(if p.wide=0 then 3 else p.wide)≤64;have:=dw.1.2
  split<;>omega⟩
 have hk:EdOk nm.length (addK nm F tg p h k l).1∧NdEd nm.length (addK nm F tg p h k l).2:=by
  unfold addK;refine⟨hed _,?_⟩
  by_cases c:p.bare=true
  ·rw [if_pos c];exact hl
  ·rw [if_neg c]
   unfold addW
   by_cases c9:h.kind=9
   ·rw [if_pos c9];exact hl
   ·rw [if_neg c9]
    obtain⟨i1,i2⟩:=addF_ed hL (tg:=tg) k (l++[ndP h]) (dw.2.1 (by simpa using c)) hl.snoc;exact i2.set i1
 obtain⟨j1,j2⟩:=addF_ed hL (tg:=tg) r _ dw.2.2 hk.2;refine⟨fun e he=>?_,j2⟩;rcases List.mem_cons.1 he with rfl|he
 ·exact hk.1
 ·exact j1 e he
theorem addT_ed(hL:Latt nm.length F){tg:ByteArray→Int}{h:TH}{f:Ft}{l:List NdR}(dw:DW nm F f)(hl:NdEd nm.length l):NdEd nm.length (addT nm F tg h f l).2:=by
 unfold addT addW
 by_cases c9:h.kind=9
 ·rw [if_pos c9];exact hl
 ·rw [if_neg c9]
  obtain⟨i1,i2⟩:=addF_ed hL (tg:=tg) f (l++[ndP h]) dw hl.snoc;exact i2.set i1
theorem addA_ed(hL:Latt nm.length F){tg:ByteArray→Int}:∀(tys:List Nd)(l:List NdR),(∀x∈tys,DW nm F x.2.2)→NdEd nm.length l→NdEd nm.length (addA nm F tg tys l).2
| [],l,_,h=>h
| x::r,l,dw,h=>addA_ed hL r _ (fun y hy=>dw y (List.mem_cons_of_mem _ hy)) (addT_ed hL (dw x List.mem_cons_self) h)
end
theorem OkS.ed{s:Sc}(o:OkS s)(hL:Latt (nms s.1).length (leqF s.1 s.2.1)):NdEd (nms s.1).length (plS s).1:=by
 obtain⟨w1,w2⟩:=o.words;exact addT_ed hL (dw_top o.okr w2) (addA_ed hL s.2.2.1 [] (fun x hx=>dw_top (o.ok x hx) (w1 x hx)) (fun y hy=>by cases hy))
end Go.Proofs.YtabhkakomececaaGreat.Res
