import Derived.Test.YtabhkakomececaaGreatQ14
import Derived.Test.YtabhkakomececaaGreatQ21
set_option linter.all false
set_option maxRecDepth 100000
set_option maxHeartbeats 4000000
namespace Go.Proofs.YtabhkakomececaaGreat.Unp
open Nam Lat Kin
def okW(l:List Wr):Prop:=l.length≤32∧∀x∈l,rightS x.1=true
def okC(p:PH):Prop:=(p.ck=0∧p.cn=0∧p.cl=[])∨((p.ck=1∧1≤p.cn)∨(p.ck=2∧0≤p.cn∧p.cn≤4096)∨(p.ck=3∧p.cn=0))∧okW p.cl
def okH(h:TH)(k:Ft):Prop :=
1≤h.kind∧h.kind≤9∧ownB h k=true∧(h.kind=2→h.lo≤h.hi)∧(h.kind=3→0≤h.most∧h.most≤4096)∧(h.kind=5→0≤h.most∧h.most≤1024)∧(h.kind=9→rightS h.name=true) ∧
(h.kind=4→h.names≠[]∧h.names.length≤64∧∀x∈h.names,rightS x.1=true)∧(h.kind=5∨h.kind=6→onlyB k=true)∧(h.kind=7∨h.kind=8→k.len≤64)∧(h.kind=8→k.len≠0)
def okP(K:Int)(p:PH)(h:TH)(k:Ft):Prop :=
rightS p.name=true∧(p.bare=true→K=8∧zeroB h k=true∧plainB p bPH=true)∧(p.bare=false→0≤p.wide∧p.wide≤64∧okW p.label∧okC p)
def okF:Int→Ft→Prop
| _,.nil=>True
| K,.cons p h k r=>(K=7∨K=8→okP K p h k)∧(p.bare=false→okH h k∧okF h.kind k)∧okF K r
def okT(h:TH)(k:Ft):Prop:=okH h k∧okF h.kind k
theorem labG_ok:∀(l:List Wr)(i:Nat),(labG i l).1=0→i≤32→(i+l.length≤32)∧∀x∈l,rightS x.1=true
| [],i,_,hi=>⟨by simpa using hi,by simp⟩
| x::r,i,h,hi=>by
 unfold labG at h
 split at h
 ·cases h
 ·split at h
  ·cases h
  ·rename_i a b
   obtain⟨h1,h2⟩:=labG_ok r (i+1) h (by omega);refine⟨by simp only[List.length_cons];omega,fun y hy=>?_⟩
   rcases List.mem_cons.1 hy with rfl|q
   ·simpa using b
   ·exact h2 y q
theorem labG_of:∀(l:List Wr)(i:Nat),i+l.length≤32→(∀x∈l,rightS x.1=true)→labG i l=(0,0)
| [],i,_,_=>rfl
| x::r,i,h,hr=>by
 simp only[List.length_cons]at h;unfold labG;rw [if_neg (by omega),if_neg (by simp [hr x (by simp)])];exact labG_of r (i+1) (by omega) fun y hy=>hr y (by simp [hy])
theorem labF_ok:∀l:List Wr,(labF l).1=0↔∀x∈l,rightS x.1=true
| []=>by simp [labF]
| x::r=>by
 unfold labF
 split
 ·rename_i a
  rw [labF_ok r];simp [a]
 ·rename_i a
  simp [a]
theorem labelC_ok(l:List Wr):(labelC l).1=0↔okW l:=⟨fun h=>by have:=labG_ok l 0 h (by omega);exact⟨by omega,this.2⟩,fun h=>by unfold labelC;rw [labG_of l 0 (by have:=h.1;omega) h.2]⟩
theorem labelS_ok(l:List Wr):(labelS l).1=0↔okW l:=by
 unfold labelS okW
 split
 ·rename_i h
  exact⟨fun q=>(by cases q),fun q=>by omega⟩
 ·rename_i h
  rw [labF_ok];exact⟨fun q=>⟨by omega,q⟩,fun q=>q.2⟩
theorem coarC_ok(p:PH):(coarC p).1=0↔okC p:=by
 unfold coarC okC
 by_cases h0:p.ck=0
 ·rw [if_pos h0]
  by_cases h1:p.cn≠0∨p.cl≠[]
  ·rw [if_pos h1]
   constructor
   ·intro q;cases q
   ·rintro(⟨-,a,b⟩|⟨a,-⟩)
    ·rcases h1 with q|q
     ·exact absurd a q
     ·exact absurd b q
    ·omega
  ·rw [if_neg h1]
   have:p.cn=0∧p.cl=[]:=by
    constructor
    ·exact Classical.byContradiction fun q=>h1 (.inl q)
    ·exact Classical.byContradiction fun q=>h1 (.inr q)
   exact⟨fun _=>.inl ⟨h0,this⟩,fun _=>rfl⟩
 ·rw [if_neg h0]
  split
  ·rename_i a
   exact⟨fun q=>(by cases q),fun q=>by omega⟩
  ·split
   ·rename_i a b
    exact⟨fun q=>(by cases q),fun q=>by omega⟩
   ·rename_i a b
    rw [labelC_ok]
    exact⟨fun q=>.inr ⟨by omega,q⟩,fun q=>by
     rcases q with q|q
     ·omega
     ·exact q.2⟩
theorem coarS_ok(p:PH):(coarseS p).1=0↔okC p:=by
 rw [←coarC_ok];unfold coarC coarseS
 split
 ·exact Iff.rfl
 ·split
  ·exact Iff.rfl
  ·split
   ·exact Iff.rfl
   ·rw [labelC_ok,labelS_ok]
def Both(a b:Res):Prop:=(a.1=0∨b.1=0)→a=b
theorem Both.refl(a:Res):Both a a:=fun _=>rfl
theorem both_ite{c:Prop} [Decidable c]{a b a' b':Res}(h1:c→Both a a')(h2:¬c→Both b b'):Both (if c then a else b) (if c then a' else b'):=by
 by_cases q:c
 ·rw [if_pos q,if_pos q];exact h1 q
 ·rw [if_neg q,if_neg q];exact h2 q
theorem both_wrB(h:TH)(k:Ft)(s s':Mo→Nat→Nat→Res)(hs:∀mo d m,Both (s mo d m) (s' mo d m))(d m:Nat):Both (wrB h k s d m) (wrB h k s' d m):=by
 unfold wrB
 repeat' (apply ite_rel<;>intro)
 all_goals first|exact Both.refl _|exact hs _ _ _
theorem both_wF:∀(f:Ft)(mo:Mo)(d m:Nat),Both (wcF f mo d m) (wrF f mo d m)
| .nil,_,_,m=>Both.refl _
| .cons _ h k r,.one,d,m=>by
 exact both_wrB h k _ _ (fun _ _ _=>both_wF k _ _ _) d m
| .cons p h k r,.parts K ns i,d,m=>by
 have hb:=both_wrB h k (wcF k) (wrF k) (fun _ _ _=>both_wF k _ _ _) d m;unfold wcF wrF;refine both_ite (fun _=>Both.refl _) (fun _=>?_);refine both_ite (fun _=>both_ite (fun _=>Both.refl _) (fun _=>both_wF r _ _ _)) (fun _=>?_);refine both_ite (fun _=>Both.refl _) (fun _=>?_)
 by_cases c1:(labelC p.label).1=0
 ·have c2:=(labelS_ok _).2 ((labelC_ok _).1 c1)
  rw [if_neg (show ¬((labelC p.label).1≠0)from fun q=>q c1),if_neg (show ¬((labelS p.label).1≠0)from fun q=>q c2)]
  by_cases c3:(coarC p).1=0
  ·have c4:=(coarS_ok _).2 ((coarC_ok _).1 c3)
   rw [if_neg (show ¬((coarC p).1≠0)from fun q=>q c3),if_neg (show ¬((coarseS p).1≠0)from fun q=>q c4)]
   by_cases c5:(wrB h k (wcF k) d m).1=0
   ·rw [←hb (.inl c5),if_neg (show ¬((wrB h k (wcF k) d m).1≠0)from fun q=>q c5),if_neg (show ¬((wrB h k (wcF k) d m).1≠0)from fun q=>q c5)]
    exact both_wF r _ _ _
   ·rw [if_pos c5]
    have c6:(wrB h k (wrF k) d m).1≠0:=fun q=>c5 (by rw [hb (.inr q)];exact q)
    rw [if_pos c6];exact hb
  ·have c4:(coarseS p).1≠0:=fun q=>c3 ((coarC_ok _).2 ((coarS_ok _).1 q))
   rw [if_pos c3,if_pos c4];intro q;rcases q with q|q
   ·exact absurd q c3
   ·exact absurd q c4
 ·have c2:(labelS p.label).1≠0:=fun q=>c1 ((labelC_ok _).2 ((labelS_ok _).1 q))
  rw [if_pos c1,if_pos c2];intro q;rcases q with q|q
  ·exact absurd q c1
  ·exact absurd q c2
theorem wc_iff(h:TH)(f:Ft)(d m:Nat):(wrB h f (wcF f) d m).1=0↔(wrB h f (wrF f) d m).1=0:=by
 have:=both_wrB h f _ _ (both_wF f) d m;exact⟨fun q=>by rw [←this (.inl q)];exact q,fun q=>by rw [this (.inr q)];exact q⟩
theorem enumF_ok(ns:List ByteArray):∀(l:List Wr)(i:Nat),(enumF ns i l).1=0→∀j,j<l.length→listedS ns (i+j)=0
| [],_,_=>fun j hj=>by simp at hj
| x::r,i,h=>fun j hj=>by
 unfold enumF at h
 split at h
 ·rename_i a;exact absurd h a
 ·rename_i a
  cases j with
  | zero=>simpa using a
  | succ j=>have:=enumF_ok ns r (i+1) h j (by simpa using hj);rw [show i+(j+1)=i+1+j by omega];exact this
theorem listed_right{ns:List ByteArray}{i:Nat}(h:listedS ns i=0):rightS (ns.getD i ByteArray.empty)=true:=by
 unfold listedS at h
 split at h
 ·cases h
 ·rename_i a;simpa using a
theorem enum_right{l:List Wr}(h:(enumF (nms l) 0 l).1=0):∀x∈l,rightS x.1=true:=fun x hx=>by
 obtain⟨j,hj,rfl⟩:=List.mem_iff_getElem.1 hx;have:=listed_right (enumF_ok _ _ _ h j hj);rw [Nat.zero_add]at this;rw [List.getD_eq_getElem?_getD,nms_get hj,wN_get hj]at this;exact this
theorem wrB_okH{h:TH}{k:Ft}{sub:Mo→Nat→Nat→Res}{d m:Nat}(e:(wrB h k sub d m).1=0):okH h k∧d≤24∧m+1≤512 ∧
  ((h.kind=5∨h.kind=6)→wrB h k sub d m=sub .one (d+1) (m+1))∧((h.kind=7∨h.kind=8)→wrB h k sub d m=sub (.parts h.kind (nms (pnm k)) 0) (d+1) (m+1))∧(h.kind<5∨h.kind=9→(wrB h k sub d m).2.2=m+1):=by
 have h1:¬24<d:=fun q=>by unfold wrB at e;rw [if_pos q]at e;cases e
 have h2:¬512<m+1:=fun q=>by unfold wrB at e;rw [if_neg h1,if_pos q]at e;cases e
 have h3:¬(h.kind<1∨9<h.kind):=fun q=>by unfold wrB at e;rw [if_neg h1,if_neg h2,if_pos q]at e;cases e
 have h4:¬(ownB h k=false):=fun q=>by unfold wrB at e;rw [if_neg h1,if_neg h2,if_neg h3,if_pos q]at e;cases e
 have ho:ownB h k=true:=by simpa using h4
 have ek:=wrB_ok (h:=h) (k:=k) (sub:=sub) (d:=d) (m:=m) (M:=m+1) rfl (by omega) (by omega) (by omega) (by omega) ho;unfold okH
 by_cases k1:h.kind=1
 ·exact⟨⟨by omega,by omega,ho,by omega,by omega,by omega,by omega,by omega,by omega,by omega,by omega⟩,by omega,by omega,by omega,by omega,fun _=>by rw [wrB_1 rfl (by omega) (by omega) ho k1]⟩
 by_cases k2:h.kind=2
 ·have e2:=wrB_2 (sub:=sub) (d:=d) (m:=m) (M:=m+1) rfl (by omega) (by omega) ho k2
  rw [e2]at e
  by_cases c:h.hi<h.lo
  ·rw [if_pos c]at e;cases e
  ·rw [if_neg c]at e2
   exact⟨⟨by omega,by omega,ho,by omega,by omega,by omega,by omega,by omega,by omega,by omega,by omega⟩,by omega,by omega,by omega,by omega,fun _=>by rw [e2]⟩
 by_cases k3:h.kind=3
 ·have e2:=wrB_3 (sub:=sub) (d:=d) (m:=m) (M:=m+1) rfl (by omega) (by omega) ho k3
  rw [e2]at e
  by_cases c:h.most<0∨4096<h.most
  ·rw [if_pos c]at e;cases e
  ·rw [if_neg c]at e2
   exact⟨⟨by omega,by omega,ho,by omega,by omega,by omega,by omega,by omega,by omega,by omega,by omega⟩,by omega,by omega,by omega,by omega,fun _=>by rw [e2]⟩
 by_cases k4:h.kind=4
 ·have e2:=wrB_4 (sub:=sub) (d:=d) (m:=m) (M:=m+1) rfl (by omega) (by omega) ho k4
  rw [e2]at e
  by_cases c:h.names=[]
  ·rw [if_pos c]at e;cases e
  ·rw [if_neg c]at e e2
   by_cases c2:64<h.names.length
   ·rw [if_pos c2]at e;cases e
   ·rw [if_neg c2]at e e2
    exact⟨⟨by omega,by omega,ho,by omega,by omega,by omega,by omega,fun _=>⟨c,by omega,enum_right e⟩,by omega,by omega,by omega⟩,by omega,by omega,by omega,by omega,fun _=>by rw [e2]⟩
 by_cases k9:h.kind=9
 ·have e2:=wrB_9 (sub:=sub) (d:=d) (m:=m) (M:=m+1) rfl (by omega) (by omega) ho k9
  rw [e2]at e
  by_cases c:rightS h.name=false
  ·rw [if_pos c]at e;cases e
  ·rw [if_neg c]at e2
   exact⟨⟨by omega,by omega,ho,by omega,by omega,by omega,fun _=>by simpa using c,by omega,by omega,by omega,by omega⟩,by omega,by omega,by omega,by omega,fun _=>by rw [e2]⟩
 by_cases k5:h.kind=5∨h.kind=6
 ·have e2:=wrB_5 (sub:=sub) (d:=d) (m:=m) (M:=m+1) rfl (by omega) (by omega) ho k5
  rw [e2]at e
  by_cases c:onlyB k=false
  ·rw [if_pos c]at e;cases e
  ·rw [if_neg c]at e e2
   by_cases c2:h.most<0∨1024<h.most
   ·rw [if_pos c2]at e;cases e
   ·rw [if_neg c2]at e2
    exact⟨⟨by omega,by omega,ho,by omega,by omega,by omega,by omega,by omega,fun _=>by simpa using c,by omega,by omega⟩,by omega,by omega,fun _=>e2,by omega,by omega⟩
 ·have k7:h.kind=7∨h.kind=8:=by omega
  have e2:wrB h k sub d m=if h.kind=8∧k.len=0 then(15,h.at_,m+1)else if 64<k.len then(8,(wN (pnm k) 64).2,m+1)else sub (.parts h.kind (nms (pnm k)) 0) (d+1) (m+1):=by
   unfold wrB;rw [if_neg h1,if_neg h2,if_neg h3,if_neg h4,if_neg (by omega),if_neg (by omega),if_neg k4,if_neg k5,if_pos k7]
  rw [e2]at e
  by_cases c:h.kind=8∧k.len=0
  ·rw [if_pos c]at e;cases e
  ·rw [if_neg c]at e e2
   by_cases c2:64<k.len
   ·rw [if_pos c2]at e;cases e
   ·rw [if_neg c2]at e2
    exact⟨⟨by omega,by omega,ho,by omega,by omega,by omega,by omega,by omega,by omega,by omega,by omega⟩,by omega,by omega,by omega,fun _=>e2,by omega⟩
theorem plain_bare{p q:PH}(h:plainB p q=true):p.bare=q.bare:=by
 unfold plainB at h;simp only[Bool.and_eq_true]at h;simpa using h.1.1.1.1.1
theorem only_cons{f:Ft}(h:onlyB f=true):∃p x k,f=.cons p x k .nil∧p.name=ByteArray.empty∧plainB p zPH=true∧p.bare=false:=by
 cases f with
 | nil=>cases h
 | cons p x k r =>
  cases r with
  | cons=>cases h
  | nil =>
   unfold onlyB at h;simp only[Bool.and_eq_true,decide_eq_true_eq]at h;exact⟨p,x,k,rfl,h.1,h.2,plain_bare h.2⟩
def Fine(sub:Ft→Mo→Nat→Nat→Res)(f:Ft):Prop :=
(∀(K:Int) (ns:List ByteArray) (i d m:Nat),K=7∨K=8→nms (pnm f)=ns.drop i→(sub f (.parts K ns i) d m).1=0→okF K f∧(sub f (.parts K ns i) d m).2.2=m+cntF f∧(depF f=0∨d+depF f≤25)) ∧
(∀(K:Int) (d m:Nat),K≠7→K≠8→onlyB f=true→(sub f .one d m).1=0→okF K f∧(sub f .one d m).2.2=m+cntF f∧d+depF f≤25)
theorem wcB_ok{h:TH}{k:Ft}(ih:Fine wcF k){d m:Nat}(e:(wrB h k (wcF k) d m).1=0):okT h k∧(wrB h k (wcF k) d m).2.2=m+1+cntF k∧d+depF k≤24:=by
 obtain⟨h1,h2,h3,h4,h5,h6⟩:=wrB_okH e;have hk:=h1.1;have hk9:=h1.2.1
 by_cases c:h.kind=5∨h.kind=6
 ·rw [h4 c]at e ⊢
  have ho:=h1.2.2.2.2.2.2.2.2.1 c;obtain⟨a,b,z⟩:=ih.2 h.kind _ _ (by omega) (by omega) ho e;exact⟨⟨h1,a⟩,b,by omega⟩
 ·by_cases c2:h.kind=7∨h.kind=8
  ·rw [h5 c2]at e ⊢
   obtain⟨a,b,z⟩:=ih.1 h.kind _ 0 _ _ c2 (by simp) e;refine⟨⟨h1,a⟩,b,?_⟩;rcases z with z|z
   ·omega
   ·omega
  ·have hl:k.len=0:=by
    have:=h1.2.2.1;unfold ownB at this;simp only[decide_eq_true_eq]at this;rcases this.2.2.2.1 with q|q
    ·omega
    ·exact q
   obtain rfl:=Fo.len_zero hl;refine⟨⟨h1,trivial⟩,?_,?_⟩
   ·rw [h6 (by omega)];rfl
   ·show d+0≤24;omega
theorem fineC:∀f:Ft,Fine wcF f
| .nil=>⟨fun K ns i d m _ _ _=>⟨trivial,rfl,.inl rfl⟩,fun K d m _ _ h _=>by cases h⟩
| .cons p h k r=>by
 have ik:=fineC k;have ir:=fineC r;refine⟨fun K ns i d m hK hn e=>?_,fun K d m h7 h8 ho e=>?_⟩
 ·have hn1:p.name=ns.getD i ByteArray.empty:=by
   have:=congrArg (fun l=>l.head?) hn;rw [List.head?_drop]at this;rw [List.getD_eq_getElem?_getD,←this];rfl
  have hn2:nms (pnm r)=ns.drop (i+1):=by
   rw [←List.drop_drop,←hn]<;>rfl
  unfold wcF at e ⊢
  by_cases c1:listedS ns i≠0
  ·rw [if_pos c1]at e;exact absurd e c1
  rw [if_neg c1]at e ⊢;have hr:rightS p.name=true:=by rw [hn1];exact listed_right (by simpa using c1)
  rcases(Bool.eq_false_or_eq_true p.bare).symm with hb|hb
  ·rw [if_neg (by rw [hb];decide)]at e ⊢
   by_cases c2:p.wide<0∨64<p.wide
   ·rw [if_pos c2]at e;cases e
   rw [if_neg c2]at e ⊢
   by_cases c3:(labelC p.label).1≠0
   ·rw [if_pos c3]at e;exact absurd e c3
   rw [if_neg c3]at e ⊢
   by_cases c4:(coarC p).1≠0
   ·rw [if_pos c4]at e;exact absurd e c4
   rw [if_neg c4]at e ⊢
   by_cases c5:(wrB h k (wcF k) d m).1≠0
   ·rw [if_pos c5]at e;exact absurd e c5
   rw [if_neg c5]at e ⊢;obtain⟨a1,a2,a3⟩:=wcB_ok ik (by simpa using c5);obtain⟨b1,b2,b3⟩:=ir.1 K ns (i+1) d _ hK hn2 e;refine⟨⟨fun _=>⟨hr,fun q=>by rw [hb]at q;(try cases q),fun _=>⟨by omega,by omega,(labelC_ok _).1 (by simpa using c3),(coarC_ok _).1 (by simpa using c4)⟩⟩,fun _=>a1,b1⟩,?_,?_⟩
   ·rw [b2,a2]
    show _=m+((if p.bare then 0 else cntF k+1)+cntF r);rw [hb,if_neg (by decide)];omega
   ·have e1:depF (.cons p h k r)=max (if p.bare then 0 else depF k+1) (depF r):=rfl
    rw [e1,hb,if_neg (by decide)];omega
  ·rw [if_pos hb]at e ⊢
   by_cases c2:K=7∨zeroB h k=false∨plainB p bPH=false
   ·rw [if_pos c2]at e;cases e
   rw [if_neg c2]at e ⊢;obtain⟨b1,b2,b3⟩:=ir.1 K ns (i+1) d _ hK hn2 e;refine⟨⟨fun _=>⟨hr,fun _=>⟨by omega,?_,?_⟩,fun q=>by rw [hb]at q;cases q⟩,fun q=>by rw [hb]at q;(try cases q),b1⟩,?_,?_⟩
   ·cases hz:zeroB h k
    ·exact absurd (.inr (.inl hz)) c2
    ·rfl
   ·cases hz:plainB p bPH
    ·exact absurd (.inr (.inr hz)) c2
    ·rfl
   ·rw [b2]
    show _=m+((if p.bare then 0 else cntF k+1)+cntF r);rw [hb,if_pos rfl];omega
   ·have e1:depF (.cons p h k r)=max (if p.bare then 0 else depF k+1) (depF r):=rfl
    rw [e1,hb,if_pos rfl];omega
 ·obtain⟨p',x',k',e1,-,-,hb⟩:=only_cons ho
  simp only[Fo.cons.injEq]at e1;obtain⟨rfl,rfl,rfl,rfl⟩:=e1;unfold wcF at e ⊢;obtain⟨a1,a2,a3⟩:=wcB_ok ik e;refine⟨⟨fun q=>by omega,fun _=>a1,trivial⟩,?_,?_⟩
  ·rw [a2]
   show _=m+((if p.bare then 0 else cntF k+1)+0);rw [hb,if_neg (by decide)];omega
  ·have e1:depF (.cons p h k .nil)=max (if p.bare then 0 else depF k+1) 0:=rfl
   rw [e1,hb,if_neg (by decide)];omega
theorem wc_ok{h:TH}{k:Ft}(e:(wrB h k (wcF k) 1 0).1=0):okT h k∧1+cntF k≤512∧1+depF k≤24:=by
 obtain⟨a,b,c⟩:=wcB_ok (fineC k) e;have:=wrB_cnt h k (wcF k) (fun mo d m=>wcF_cnt k mo d m) 1 0 e;exact⟨a,by omega,c⟩
end Go.Proofs.YtabhkakomececaaGreat.Unp
