import Derived.Test.YtabhkakomececaaGreatQ0
import Derived.OpenShut
import Derived.Laws.OwnMore
import Derived.Laws.MakeOwn
import Derived.Lib.OwnKind
set_option linter.all false
set_option maxRecDepth 100000
set_option maxHeartbeats 4000000
namespace Go.Proofs.YtabhkakomececaaGreat
namespace Rel
inductive Lead (P:List (Nat×Nat)):Nat→Nat→Prop
| refl (a:Nat):Lead P a a
| step {a b c:Nat}:Lead P a b→(b,c)∈P→Lead P a c
theorem Lead.trans{P:List (Nat×Nat)}{a b c:Nat}(h:Lead P a b)(g:Lead P b c):Lead P a c:=by
 induction g with
 | refl=>exact h
 | step _ hp ih=>exact .step ih hp
def InR(n:Nat)(P:List (Nat×Nat)):Prop:=∀p∈P,p.1<n∧p.2<n
theorem Lead.lt{P:List (Nat×Nat)}{n a b:Nat}(hP:InR n P)(h:Lead P a b)(ha:a<n):b<n:=by
 induction h with
 | refl=>exact ha
 | step _ hp _=>exact(hP _ hp).2
def on(r:List Bool)(i:Nat):Bool:=r.getD i false
theorem on_lt{r:List Bool}{i:Nat}(h:on r i=true):i<r.length:=by
 refine Nat.lt_of_not_le fun q=>?_
 unfold on at h;rw [List.getD,List.getElem?_eq_none q]at h;cases h
theorem on_set{r:List Bool}{i:Nat}(hi:i<r.length)(j:Nat):on (r.set i true) j=(decide (i=j)||on r j):=by
 unfold on;rw [List.getD,List.getElem?_set]
 by_cases h:i=j
 ·subst h;simp [hi]
 ·simp [h]
theorem on_set'{r:List Bool}{i j:Nat}(h:on r j=true):on (r.set i true) j=true:=by
 have hj:=on_lt h
 by_cases hi:i<r.length
 ·rw [on_set hi,h,Bool.or_true]
 ·rw [List.set_eq_of_length_le (by omega)];exact h
theorem row_ext{r s:List Bool}(hl:r.length=s.length)(h:∀i,on r i=on s i):r=s:=by
 refine List.ext_getElem hl fun i h1 h2=>?_
 have:=h i;unfold on at this;simpa [List.getD,List.getElem?_eq_getElem h1,List.getElem?_eq_getElem h2]using this
def lay(r:List Bool)(p:Nat×Nat):List Bool:=if on r p.1 then r.set p.2 true else r
theorem lay_len(r:List Bool)(p:Nat×Nat):(lay r p).length=r.length:=by unfold lay;split<;>simp
theorem lay_sub{r:List Bool}{p:Nat×Nat}{i:Nat}(h:on r i=true):on (lay r p) i=true:=by
 unfold lay;split
 ·exact on_set' h
 ·exact h
def pass(P:List (Nat×Nat))(r:List Bool):List Bool:=P.foldl lay r
theorem pass_len:∀(P:List (Nat×Nat)) (r:List Bool),(pass P r).length=r.length
| [],r=>rfl
| p::P,r=>by rw [show pass (p::P) r=pass P (lay r p)from rfl,pass_len P,lay_len]
theorem pass_sub:∀(P:List (Nat×Nat)) {r:List Bool} {i:Nat},on r i=true→on (pass P r) i=true
| [],r,i,h=>h
| p::P,r,i,h=>pass_sub P (lay_sub h)
theorem pass_step:∀(P:List (Nat×Nat)) {r:List Bool} {p:Nat×Nat},p∈P→on r p.1=true→p.2<r.length→on (pass P r) p.2=true
| q::P,r,p,hp,h,hl=>by
 rcases List.mem_cons.1 hp with rfl|hp
 ·refine pass_sub P ?_
  unfold lay;rw [if_pos h,on_set hl];simp
 ·exact pass_step P hp (lay_sub h) (by rw [lay_len];exact hl)
theorem pass_sound:∀(P Q:List (Nat×Nat)){r:List Bool}{a:Nat},(∀p∈P,p∈Q)→(∀i,on r i=true→Lead Q a i)→∀i,on (pass P r) i=true→Lead Q a i
| [],Q,r,a,_,h=>h
| p::P,Q,r,a,hs,h=>pass_sound P Q (fun q hq=>hs q (List.mem_cons_of_mem _ hq)) fun i hi=>by
 unfold lay at hi
 split at hi
 ·next h1 =>
  by_cases hl:p.2<r.length
  ·rw [on_set hl,Bool.or_eq_true,decide_eq_true_eq]at hi
   rcases hi with rfl|hi
   ·exact .step (h _ h1) (hs p List.mem_cons_self)
   ·exact h i hi
  ·rw [List.set_eq_of_length_le (by omega)]at hi;exact h i hi
 ·exact h i hi
def cnt(r:List Bool):Nat:=r.count true
theorem cnt_le:∀(r:List Bool),cnt r≤r.length:=fun r=>List.count_le_length
theorem cnt_lt:∀{r s:List Bool},r.length=s.length→(∀i,on r i=true→on s i=true)→cnt r≤cnt s∧(cnt r=cnt s→r=s)
| [],[],_,_=>⟨Nat.le_refl _,fun _=>rfl⟩
| [],_::_,h,_=>by simp at h
| _::_,[],h,_=>by simp at h
| x::r,y::s,hl,h=>by
 have ih:=cnt_lt (r:=r) (s:=s) (by simpa using hl) (fun i hi=>h (i+1) hi);have h0:=h 0;unfold cnt at ih ⊢;rw [List.count_cons,List.count_cons];cases x<;>cases y
 ·refine⟨by simpa using ih.1,fun e=>by rw [ih.2 (by simpa using e)]⟩
 ·refine⟨by simp;omega,fun e=>?_⟩
  simp at e;omega
 ·simp [on]at h0
 ·refine⟨by simpa using ih.1,fun e=>by rw [ih.2 (by simpa using e)]⟩
def itr(P:List (Nat×Nat)):Nat→List Bool→List Bool
| 0,r=>r
| k+1,r=>itr P k (pass P r)
theorem itr_succ(P:List (Nat×Nat)):∀(k:Nat)(r:List Bool),itr P (k+1) r=pass P (itr P k r)
| 0,r=>rfl
| k+1,r=>itr_succ P k (pass P r)
theorem itr_len(P:List (Nat×Nat)):∀(k:Nat)(r:List Bool),(itr P k r).length=r.length
| 0,r=>rfl
| k+1,r=>by rw [itr,itr_len P k,pass_len]
theorem itr_sub(P:List (Nat×Nat)):∀(k:Nat){r:List Bool}{i:Nat},on r i=true→on (itr P k r) i=true
| 0,r,i,h=>h
| k+1,r,i,h=>itr_sub P k (pass_sub P h)
theorem itr_sound(P:List (Nat×Nat)):∀(k:Nat){r:List Bool}{a:Nat},(∀i,on r i=true→Lead P a i)→∀i,on (itr P k r) i=true→Lead P a i
| 0,r,a,h=>h
| k+1,r,a,h=>itr_sound P k (pass_sound P P (fun _ h=>h) h)
theorem itr_grow(P:List (Nat×Nat))(r:List Bool):∀k,pass P (itr P k r)=itr P k r∨k+cnt r≤cnt (itr P k r)
| 0=>.inr (by simp [itr])
| k+1=>by
 rcases itr_grow P r k with h|h
 ·left
  rw [itr_succ,h,h]
 ·by_cases e:pass P (itr P k r)=itr P k r
  ·left;rw [itr_succ,e,e]
  ·right
   obtain⟨h1,h2⟩:=cnt_lt (r:=itr P k r) (s:=pass P (itr P k r)) (by rw [pass_len]) (fun i hi=>pass_sub P hi);have:cnt (itr P k r)≠cnt (pass P (itr P k r)):=fun q=>e (h2 q).symm
   rw [itr_succ];omega
def row0(n a:Nat):List Bool:=(List.replicate n false).set a true
theorem row0_len(n a:Nat):(row0 n a).length=n:=by simp [row0]
theorem row0_on{n a:Nat}(ha:a<n)(i:Nat):on (row0 n a) i=decide (a=i):=by
 unfold row0;rw [on_set (by simpa using ha)]
 have:on (List.replicate n false) i=false:=by
  unfold on;rw [List.getD,List.getElem?_replicate]
  split<;>rfl
 rw [this,Bool.or_false]
theorem cnt_pos{r:List Bool}{i:Nat}(h:on r i=true):1≤cnt r:=by
 have hl:=on_lt h;unfold cnt;refine List.count_pos_iff.2 ?_;unfold on at h;rw [List.getD,List.getElem?_eq_getElem hl]at h;have:r[i]=true:=h;exact this▸List.getElem_mem hl
def ldR(n:Nat)(P:List (Nat×Nat))(a:Nat):List Bool:=itr P n (row0 n a)
def ld(n:Nat)(P:List (Nat×Nat))(a b:Nat):Bool:=on (ldR n P a) b
theorem ldR_len(n:Nat)(P:List (Nat×Nat))(a:Nat):(ldR n P a).length=n:=by rw [ldR,itr_len,row0_len]
theorem ld_iff{n:Nat}{P:List (Nat×Nat)}(hP:InR n P){a:Nat}(ha:a<n)(b:Nat):ld n P a b=true↔Lead P a b:=by
 unfold ld ldR
 constructor
 ·refine itr_sound P n (fun i hi=>?_) b
  rw [row0_on ha,decide_eq_true_eq]at hi;subst hi;exact .refl _
 ·intro h
  have hfix:pass P (itr P n (row0 n a))=itr P n (row0 n a):=by
   rcases itr_grow P (row0 n a) n with h|h
   ·exact h
   ·have h1:=cnt_le (itr P n (row0 n a))
    have h2:=cnt_pos (r:=row0 n a) (i:=a) (by rw [row0_on ha];simp);rw [itr_len,row0_len]at h1;omega
  induction h with
  | refl=>exact itr_sub P n (by rw [row0_on ha];simp)
  | step h1 hp ih =>
   rw [←hfix];exact pass_step P hp ih (by rw [itr_len,row0_len];exact(hP _ hp).2)
theorem ld_refl{n:Nat}{P:List (Nat×Nat)}(hP:InR n P){a:Nat}(ha:a<n):ld n P a a=true:=(ld_iff hP ha a).2 (.refl a)
theorem ld_trans{n:Nat}{P:List (Nat×Nat)}(hP:InR n P){a b c:Nat}(ha:a<n)(h:ld n P a b=true)(g:ld n P b c=true):ld n P a c=true:=by
 have h1:=(ld_iff hP ha b).1 h;exact(ld_iff hP ha c).2 (h1.trans ((ld_iff hP (h1.lt hP ha) c).1 g))
def inLoop(n:Nat)(f:Nat→Nat→Bool)(a:Nat):Bool:=(List.range n).any fun b=>!(a==b)&&(f a b&&f b a)
theorem inLoop_iff{n:Nat}{f:Nat→Nat→Bool}{a:Nat}:inLoop n f a=true↔∃b,b<n∧a≠b∧f a b=true∧f b a=true:=by
 unfold inLoop;rw [List.any_eq_true]
 constructor
 ·rintro⟨b,hb,h⟩
  simp at h hb;exact⟨b,hb,h.1,h.2.1,h.2.2⟩
 ·rintro⟨b,hb,h1,h2,h3⟩
  exact⟨b,by simpa using hb,by simp [h1,h2,h3]⟩
def leastF(p:Nat→Bool):Nat→Nat→Int
| 0,_=>-1
| k+1,i=>if p i=true then i else leastF p k (i+1)
theorem leastF_cases(p:Nat→Bool):∀(k i:Nat),(leastF p k i=-1∧∀j,i≤j→j<i+k→p j=false)∨∃m:Nat,i≤m∧m<i+k∧p m=true∧(∀j,i≤j→j<m→p j=false)∧leastF p k i=m
| 0,i=>.inl ⟨rfl,fun j h1 h2=>by omega⟩
| k+1,i=>by
 by_cases h:p i=true
 ·exact .inr ⟨i,Nat.le_refl _,by omega,h,fun j h1 h2=>by omega,by rw [leastF,if_pos h]⟩
 ·rcases leastF_cases p k (i+1)with⟨h1,h2⟩|⟨m,h1,h2,h3,h4,h5⟩
  ·refine .inl ⟨by rw [leastF,if_neg h,h1],fun j q1 q2=>?_⟩
   rcases Nat.eq_or_lt_of_le q1 with e|q3
   ·subst e;simpa using h
   ·exact h2 j q3 (by omega)
  ·refine .inr ⟨m,by omega,by omega,h3,fun j q1 q2=>?_,by rw [leastF,if_neg h,h5]⟩
   rcases Nat.eq_or_lt_of_le q1 with e|q3
   ·subst e;simpa using h
   ·exact h4 j q3 q2
def leastS(n:Nat)(p:Nat→Bool):Int:=leastF p n 0
theorem least_cases(n:Nat)(p:Nat→Bool):(leastS n p=-1∧∀j,j<n→p j=false)∨∃m:Nat,m<n∧p m=true∧(∀j,j<m→p j=false)∧leastS n p=m:=by
 rcases leastF_cases p n 0 with⟨h1,h2⟩|⟨m,-,h2,h3,h4,h5⟩
 ·exact .inl ⟨h1,fun j hj=>h2 j (Nat.zero_le _) (by omega)⟩
 ·exact .inr ⟨m,by omega,h3,fun j hj=>h4 j (Nat.zero_le _) hj,h5⟩
theorem least_is{n m:Nat}{p:Nat→Bool}(hm:m<n)(h:p m=true)(h2:∀j,j<m→p j=false):leastS n p=m:=by
 rcases least_cases n p with⟨_,h1⟩|⟨k,h3,h4,h5,h6⟩
 ·rw [h1 m hm]at h;cases h
 ·rw [h6]
  rcases Nat.lt_trichotomy k m with q|q|q
  ·rw [h2 k q]at h4;cases h4
  ·rw [q]
  ·rw [h5 m q]at h;cases h
theorem least_none{n:Nat}{p:Nat→Bool}(h:∀j,j<n→p j=false):leastS n p=-1:=by
 rcases least_cases n p with h1|⟨k,h3,h4,-⟩
 ·exact h1.1
 ·rw [h k h3]at h4;cases h4
def loopS(n:Nat)(f:Nat→Nat→Bool):Int:=leastS n (inLoop n f)
def Anti(n:Nat)(f:Nat→Nat→Bool):Prop:=∀a b,a<n→b<n→f a b=true→f b a=true→a=b
theorem loop_none{n:Nat}{f:Nat→Nat→Bool}:loopS n f=-1↔Anti n f:=by
 constructor
 ·intro h a b ha hb h1 h2
  rcases least_cases n (inLoop n f)with⟨_,hn⟩|⟨m,_,_,_,h5⟩
  ·refine Classical.byContradiction fun q=>?_
   have:=inLoop_iff.2 ⟨b,hb,q,h1,h2⟩;rw [hn a ha]at this;cases this
  ·unfold loopS at h;omega
 ·intro h
  refine least_none fun j hj=>?_
  cases e:inLoop n f j
  ·rfl
  ·obtain⟨b,hb,h1,h2,h3⟩:=inLoop_iff.1 e
   exact absurd (h j b hj hb h2 h3) h1
def free(n:Nat)(f:Nat→Nat→Bool)(o:List Nat)(a:Nat):Bool:=!o.contains a&&(List.range n).all fun b=>b==a || !f b a||o.contains b
def nextS(n:Nat)(f:Nat→Nat→Bool)(o:List Nat):Int:=leastS n (free n f o)
def ordF(n:Nat)(f:Nat→Nat→Bool):Nat→List Nat→List Nat
| 0,o=>o
| k+1,o=>if nextS n f o<0 then o else ordF n f k (o++[(nextS n f o).toNat])
def ordS(n:Nat)(f:Nat→Nat→Bool):List Nat:=ordF n f n []
structure Ord(n:Nat)(f:Nat→Nat→Bool)(o:List Nat):Prop where
lt:∀a∈o,a<n
nodup:o.Nodup
back:∀(i j:Nat) (hi:i<o.length),o[i]! < n→∀b,b<n→b≠o[i]→f b o[i]=true→b∈o.take i
def preds(n:Nat)(f:Nat→Nat→Bool)(a:Nat):Nat:=(List.range n).countP fun b=>f b a
def cloL(n:Nat)(P:List (Nat×Nat)):List (Nat×Nat):=(List.range n).flatMap fun a=>((List.range n).filter fun b=>ld n P a b).map fun b=>(a,b)
theorem clo_mem{n:Nat}{P:List (Nat×Nat)}{a b:Nat}:(a,b)∈cloL n P↔a<n∧b<n∧ld n P a b=true:=by
 unfold cloL;simp only[List.mem_flatMap,List.mem_map,List.mem_filter,List.mem_range,Prod.mk.injEq]
 constructor
 ·rintro⟨x,hx,y,⟨hy,h⟩,rfl,rfl⟩;exact⟨hx,hy,h⟩
 ·rintro⟨hx,hy,h⟩;exact⟨a,hx,b,⟨hy,h⟩,rfl,rfl⟩
theorem clo_in(n:Nat)(P:List (Nat×Nat)):InR n (cloL n P):=fun p hp=>by
 obtain⟨a,b⟩:=p;have:=clo_mem.1 hp;exact⟨this.1,this.2.1⟩
def hasQ(P:List (Nat×Nat))(a b:Int):Bool:=decide (0≤a∧0≤b∧(a.toNat,b.toNat)∈P)
theorem hasQ_nat{P:List (Nat×Nat)}{a b:Nat}:hasQ P a b=true↔(a,b)∈P:=by
 unfold hasQ;rw [decide_eq_true_iff];exact⟨fun h=>h.2.2,fun h=>⟨by omega,by omega,h⟩⟩
theorem hasQ_iff{P:List (Nat×Nat)}{a b:Int}:hasQ P a b=true↔0≤a∧0≤b∧(a.toNat,b.toNat)∈P:=by
 unfold hasQ;rw [decide_eq_true_iff]
theorem hasQ_clo{n:Nat}{P:List (Nat×Nat)}{a b:Nat}(ha:a<n)(hb:b<n):hasQ (cloL n P) a b=ld n P a b:=by
 rw [Bool.eq_iff_iff,hasQ_nat,clo_mem];exact⟨fun h=>h.2.2,fun h=>⟨ha,hb,h⟩⟩
end Rel
namespace Rel
open Go.RowKit Go.Lib Go.ChangeShapes Go.WideShapes
abbrev Pq:=Int×Int
abbrev Bd(n:Int):Prop:=-9223372036854775808≤n∧n≤9223372036854775807
def encQ(x:Pq):List Value:=[.int .i64 x.1,.int .i64 x.2]
theorem encQ_len(x:Pq):(encQ x).length=2:=rfl
abbrev RdQ:=RdG encQ 2
def GoodQ(x:Pq):Prop:=(-9223372036854775808≤x.1∧x.1≤9223372036854775807)∧(-9223372036854775808≤x.2∧x.2≤9223372036854775807)
abbrev pqN(xs:List Pq)(i:Nat):Pq:=xs.getD i (0,0)
theorem pqN_get{xs:List Pq}{i:Nat}(h:i<xs.length):pqN xs i=xs[i]:=by simp [pqN,List.getD,List.getElem?_eq_getElem h]
theorem pqN_mem{xs:List Pq}{i:Nat}(h:i<xs.length):pqN xs i∈xs:=by rw [pqN_get h];exact List.getElem_mem h
theorem RdQ.op{w:World}{v:Value}{xs:List Pq}(h:RdQ w v xs):∃(A:Option Addr)(c:Nat),v=.slice A xs.length c∧xs.length≤c ∧
  (0<xs.length→∃g o,A=some ⟨g,o,none⟩∧g<w.heap.size∧∀i,i<xs.length→w.cell? ⟨g,o+i*2,none⟩=some (.int .i64 (pqN xs i).1)∧w.cell? ⟨g,o+i*2+1,none⟩=some (.int .i64 (pqN xs i).2)):=by
 obtain⟨A,c,rfl,hc,hr⟩:=RdG.open encQ_len (by decide) h;refine⟨A,c,rfl,hc,fun h0=>?_⟩;obtain⟨g,o,rfl,hg,hca⟩:=hr h0;refine⟨g,o,rfl,hg,fun i hi=>?_⟩;rw [pqN_get hi];exact⟨hca i hi 0 (by decide),hca i hi 1 (by decide)⟩
def RightQ(n:Int)(xs:List Pq):Prop:=(0≤n∧n≤64)∧∀x∈xs,(0≤x.1∧x.1<n)∧(0≤x.2∧x.2<n)
instance (n:Int)(xs:List Pq):Decidable (RightQ n xs):=by unfold RightQ;infer_instance
def toN(xs:List Pq):List (Nat×Nat):=xs.map fun x=>(x.1.toNat,x.2.toNat)
theorem toN_in{n:Nat}{xs:List Pq}(h:RightQ n xs):InR n (toN xs):=fun p hp=>by
 obtain⟨x,hx,rfl⟩:=List.mem_map.1 hp;have:=h.2 x hx;simp only;omega
end Rel
namespace Rel
open Go.RowKit Go.Lib
def bv(r:List Bool):List Value:=r.map Value.bool
theorem bv_len(r:List Bool):(bv r).length=r.length:=by simp [bv]
theorem bv_get{r:List Bool}{i:Nat}(h:i<r.length):(bv r)[i]?=some (.bool (on r i)):=by simp [bv,on,List.getD,List.getElem?_eq_getElem h]
theorem bv_set(r:List Bool)(i:Nat)(b:Bool):(bv r).set i (.bool b)=bv (r.set i b):=by simp [bv,List.map_set]
theorem infoBool:(Tryz.prog.info? 4).map (fun i=>(i.zero,i.size,i.bytes))=some (some (.bool false),1,1):=by kernel_rfl
theorem infoRow:(Tryz.prog.info? 81).map (fun i=>(i.zero,i.size,i.bytes))=some (some (.slice none 0 0),1,24):=by kernel_rfl
theorem mk_bool(n:Nat)(hn:n≤1000000):∃M:Array Value,M.toList=bv (List.replicate n false) ∧
  ∀w,(Instr.makeSlice 81 (.int .i64 n) (.int .i64 n)).run Tryz.prog w=.ok (.slice (some ⟨w.heap.size,0,none⟩) n n) (w.alloc (.cells M 4)):=by
 obtain⟨i0,hi,hz0,hz1,hz2⟩:=info_parts infoBool;refine⟨madeCells (#[.bool false]) (n*1),by rw [toList_madeCells_one,Nat.mul_one];simp [bv],fun w=>?_⟩;have:=run_make (P:=Tryz.prog) w 81 4 i0 _ Tryz.underlying81 hi hz0 .i64 .i64 n n (by omega) (Int.le_refl _) (by rw [hz2];omega) (by omega)
 rw [hz1]at this;exact this
theorem own_made{w:World}{M:Array Value}{t:TypeId}{n:Nat}{xs:List Value}(h:M.toList=xs)(hn:xs.length=n)(hb:n≤maxLen):(w.alloc (.cells M t)).ownsRow w.heap.size t 1 (.slice (some ⟨w.heap.size,0,none⟩) n n) n xs:=by
 have hs:M.size=n:=by rw [←hn,←h];simp
 exact⟨by omega,.inr ⟨w.heap.size,n,M,rfl,Nat.le_refl _,heap_alloc_new w _,Nat.le_refl _,hb,by omega,by rw [Nat.mul_one,h];exact List.take_of_length_le (by omega)⟩⟩
theorem own_ne2{w:World}{B B':Nat}{e e':TypeId}{size size' n n':Nat}{v v':Value}{xs xs':List Value}(h:w.ownsRow B e size v n xs)(h':w.ownsRow B' e' size' v' n' xs')(hne:e≠e'):v.ownBlock=none∨v.ownBlock≠v'.ownBlock:=by
 cases hv:v.ownBlock with
 | none=>exact .inl rfl
 | some g =>
  refine .inr fun e1=>?_
  obtain⟨c,fz,h1⟩:=ownsRow_kind h g hv;obtain⟨c',fz',h2⟩:=ownsRow_kind h' g e1.symm;rw [h1]at h2;cases h2
  exact hne rfl
abbrev rw_(vs:List Value)(j:Nat):Value:=vs.getD j (.slice none 0 0)
def RdM(w:World)(v:Value)(n:Nat)(f:Nat→List Bool):Prop:=∃vs:List Value,RdAt w v 1 vs∧vs.length=n∧∀j,j<n→RdAt w (rw_ vs j) 1 (bv (f j))∧(f j).length=n
theorem RdM.below{w w':World}{v:Value}{n:Nat}{f:Nat→List Bool}(h:RdM w v n f)(hb:Below w.heap.size w w'):RdM w' v n f:=by
 obtain⟨vs,h1,h2,h3⟩:=h;exact⟨vs,h1.below hb,h2,fun j hj=>⟨(h3 j hj).1.below hb,(h3 j hj).2⟩⟩
theorem toN_drop{xs:List Pq}{i:Nat}(h:i<xs.length):(toN xs).drop i=((pqN xs i).1.toNat,(pqN xs i).2.toNat)::(toN xs).drop (i+1):=by
 unfold toN;rw [←List.map_drop,←List.map_drop,List.drop_eq_getElem_cons h,List.map_cons,pqN_get h]
theorem toN_drop_nil{xs:List Pq}{i:Nat}(h:xs.length≤i):(toN xs).drop i=[]:=by unfold toN;rw [←List.map_drop,List.drop_eq_nil_of_le h];rfl
theorem leads_calls(n:Nat)(xs:List Pq)(v:Value)(w:World)(hx:RdQ w v xs)(hr:RightQ n xs)(hl:xs.length≤maxLen)(R:Ending→World→Prop)
  (hR:Hid (∀v' w',RdM w' v' n (ldR n (toN xs))→Below w.heap.size w w'→R (.returned v') w')):Calls Tryz.prog 102 #[.int .i64 n,v] w R:=by
 obtain⟨A,c,rfl,hlc,hca⟩:=hx.op;have hn64:n≤64:=by have:=hr.1;omega
 obtain⟨M,hM,hmk⟩:=mk_bool n (by omega);obtain⟨i0,hI,hz0,hz1,hz2⟩:=info_parts infoRow;have hrp:=fun i (h:i<xs.length)=>hr.2 _ (pqN_mem h)
 replace hrp:=Lib.hid hrp;replace hca:=Lib.hid hca;replace hl:xs.length≤9223372036854775807:=hl;clear hx;go_enter Tryz.func102,Tryz.ntmps102
 go_wp2_with fail
 go_loopg [5,6] n (fun g o a wr=>∃(K:Nat) (vo:Value) (vs:List Value),vo=o∧a=.int .i64 K∧K+g=n∧Below w.heap.size w wr∧wr.ownsRow w.heap.size 81 1 vo K vs∧Hid (∀j,j<K→∃b,wr.ownsRow b 4 1 (rw_ vs j) n (bv (ldR n (toN xs) j))))
 case atStart=>exact⟨0,_,[],rfl,rfl,by omega,Below.refl _ _,World.ownsRow_nil _ _ _ _,Lib.hid fun j h=>by omega⟩
 case round =>
  obtain⟨K,vo,vs,rfl,rfl,c1,hbel,hown,hrows⟩:=hrel;obtain⟨W0,rfl⟩:∃W0,W0=wr:=⟨wr,rfl⟩;have hsz:=hbel.size
  by_cases hK:K<n
  ·obtain⟨kO,rfl⟩:∃kO,gk=kO+1:=⟨gk-1,by omega⟩
   have hm:=own_made (n:=n) (w:=W0) (t:=4) hM (by simp [bv]) (by unfold maxLen;omega)
   have k1:=(World.ownsRow.cellAt hm K (by omega)).trans (bv_get (by simpa using hK));have k2:=World.ownsRow.frozenAt hm K;have hM2:(M.setIfInBounds K (.bool true)).toList=bv (row0 n K):=by rw [Array.toList_setIfInBounds,hM,bv_set];rfl
   have hs:=Lib.hid (own_made (n:=n) (w:=W0) (t:=4) hM2 (by rw [bv_len,row0_len]) (by unfold maxLen;omega))
   have b2:=Lib.hid ((Below.refl W0.heap.size W0).alloc (Nat.le_refl _) (.cells (M.setIfInBounds K (.bool true)) 4));clear hm hM2;go_wp2_with fail
   go_loopg [8] n (fun g k w2=>∃(J:Nat) (r:List Bool),k=.int .i64 J∧J+g=n∧Below W0.heap.size W0 w2∧w2.ownsRow W0.heap.size 4 1 (.slice (some ⟨W0.heap.size,0,none⟩) n n) n (bv r)∧Hid (itr (toN xs) g r=ldR n (toN xs) K))
   case atStart=>exact⟨0,_,rfl,by omega,b2.out,hs.out,Lib.hid (by rfl)⟩
   case round =>
    obtain⟨J,r,rfl,d1,b3,own3,d2⟩:=hrel
    by_cases hJ:J<n
    ·obtain⟨kI,rfl⟩:∃kI,gk=kI+1:=⟨gk-1,by omega⟩
     have e:=d2.out;rw [itr]at e;clear d2;go_wp2_with fail
     go_loopg [9] xs.length (fun g i w4=>∃(I:Nat) (q:List Bool),i=.int .i64 I∧I+g=xs.length∧Below W0.heap.size W0 w4∧w4.ownsRow W0.heap.size 4 1 (.slice (some ⟨W0.heap.size,0,none⟩) n n) n (bv q)∧Hid (pass ((toN xs).drop I) q=pass (toN xs) r))
     case atStart=>exact⟨0,r,rfl,by omega,b3,own3,Lib.hid (by rw [List.drop_zero])⟩
     case round =>
      obtain⟨I,q,rfl,f1,b5,own5,f2⟩:=hrel;have hql:q.length=n:=by have:=own5.1;rw [bv_len]at this;omega
      by_cases hI2:I<xs.length
      ·obtain⟨g,o,rfl,hg1,hcc⟩:=hca.out (by omega)
       obtain⟨a0,a1⟩:=hcc I hI2;have ff:=f2.out;rw [toN_drop hI2]at ff;obtain⟨⟨p1,p2⟩,p3,p4⟩:=hrp.out I hI2;have e0:=(b5.cell (p:=⟨g,o+I*2,none⟩) (Nat.lt_of_lt_of_le hg1 hsz)).trans ((hbel.cell (p:=⟨g,o+I*2,none⟩) hg1).trans a0);have e1:=(b5.cell (p:=⟨g,o+I*2+1,none⟩) (Nat.lt_of_lt_of_le hg1 hsz)).trans ((hbel.cell (p:=⟨g,o+I*2+1,none⟩) hg1).trans a1);clear hcc a0 a1 f2;generalize pqN xs I=x at *;obtain⟨x1,x2⟩:=x;simp only at e0 e1 p1 p2 p3 p4 ff;obtain⟨u1,rfl⟩:∃u:Nat,x1=u:=⟨x1.toNat,by omega⟩;obtain⟨u2,rfl⟩:∃u:Nat,x2=u:=⟨x2.toNat,by omega⟩;rw [Int.toNat_natCast,Int.toNat_natCast]at ff;replace ff:pass ((toN xs).drop (I+1)) (lay q (u1,u2))=pass (toN xs) r:=ff;have r1:=(World.ownsRow.cellAt own5 u1 (by omega)).trans (bv_get (by omega));have r2:=(World.ownsRow.cellAt own5 u2 (by omega)).trans (bv_get (by omega));have r3:=World.ownsRow.frozenAt own5 u2;unfold lay at ff;simp only at ff;cases hb:on q u1
       ·rw [hb]at ff r1
        simp only[Bool.false_eq_true,if_false]at ff;replace ff:=Lib.hid ff;clear hb r2 r3;go_wp2_with fail
        go_roundg (gk-1)
        case measure=>omega
        case rel=>exact⟨I+1,q,by go_num,by omega,b5,own5,ff⟩
       ·rw [hb]at ff r1
        simp only[if_true]at ff;replace ff:=Lib.hid ff;have o6:=(World.ownsRow.stored own5 u2 (.bool true)).1;rw [bv_set]at o6;have b6:=Lib.hid (b5.setCell (p:=⟨W0.heap.size,u2,none⟩) (Nat.le_refl _) (.bool true));replace o6:=Lib.hid o6;clear hb own5 b5;go_wp2_with fail
        go_roundg (gk-1)
        case measure=>omega
        case rel=>exact⟨I+1,_,by go_num,by omega,b6.out,o6.out,ff⟩
      ·rw [toN_drop_nil (by omega)]at f2
       obtain rfl:q=pass (toN xs) r:=f2.out;go_wp2_with fail
       go_roundg kI
       case measure=>omega
       case rel=>exact⟨J+1,_,by go_num,by omega,b5,own5,Lib.hid e⟩
    ·obtain rfl:gk=0:=by omega
     obtain rfl:r=ldR n (toN xs) K:=d2.out;clear d2;have o1:=own_below hown b3;have hsz2:=Nat.le_trans hsz b3.size;go_wp2_with (at_builtin;go_loud (refine app1 _ (.slice (some ⟨W0.heap.size,0,none⟩) n n) 81 rfl _ _ 49 rfl w.heap.size i0 (.slice none 0 0) 24 Tryz.underlying49 hI hz0 hz1 hz2 rfl vo _ _ rfl o1 rfl rfl (by unfold maxLen;omega) (by omega) hsz2 ?_);intro v' w3 hown3 hg3 hb3)
     have bW:=hbel.trans ((b3.mono hsz).trans hb3);have hvs:vs.length=K:=by have:=hown.1;omega
     have hrows2:∀j,j<K+1→∃b,w3.ownsRow b 4 1 (rw_ (vs++[.slice (some ⟨W0.heap.size,0,none⟩) n n]) j) n (bv (ldR n (toN xs) j)):=fun j hj=>by
      rcases Nat.eq_or_lt_of_le (Nat.le_of_lt_succ hj)with e|hj
      ·subst e
       rw [show rw_ (vs++[.slice (some ⟨W0.heap.size,0,none⟩) n n]) j=.slice (some ⟨W0.heap.size,0,none⟩) n n by simp [rw_,List.getD,←hvs]];exact⟨_,own3.kept hg3 (own_ne2 own3 o1 (by decide))⟩
      ·obtain⟨b,hb⟩:=hrows.out j hj
       rw [show rw_ (vs++[.slice (some ⟨W0.heap.size,0,none⟩) n n]) j=rw_ vs j by simp [rw_,List.getD,List.getElem?_append_left (show j<vs.length by omega)]];have hb':=own_below hb b3;exact⟨b,hb'.kept hg3 (own_ne2 hb' o1 (by decide))⟩
     replace hrows2:=Lib.hid hrows2;go_roundg kO
     case measure=>omega
     case rel=>exact⟨K+1,v',_,rfl,by go_num,by omega,bW,hown3,hrows2⟩
  ·obtain rfl:K=n:=by omega
   have rd:RdM W0 vo K (ldR K (toN xs)):=⟨vs,RdAt.of_own hown,by have:=hown.1;omega,fun j hj=>by
    obtain⟨b,hb⟩:=hrows.out j hj;exact⟨RdAt.of_own hb,ldR_len _ _ _⟩⟩
   replace rd:=Lib.hid rd;clear hown hrows;go_wp2_with fail
   exact hR.out _ _ rd.out hbel
theorem RdM.op{w:World}{v:Value}{n:Nat}{f:Nat→List Bool}(h:RdM w v n f):∃(A:Option Addr)(c:Nat),v=.slice A n c∧n≤c ∧
  (0<n→∃g o,A=some ⟨g,o,none⟩∧g<w.heap.size∧∀a,a<n→∃g' o' c',w.cell? ⟨g,o+a,none⟩=some (.slice (some ⟨g',o',none⟩) n c')∧g'<w.heap.size∧∀b,b<n→w.cell? ⟨g',o'+b,none⟩=some (.bool (on (f a) b))):=by
 obtain⟨vs,⟨A,m,c,rfl,hl,hm,hc⟩,hn,hrow⟩:=h;obtain rfl:m=n:=by omega
 refine⟨A,c,rfl,hm,fun h0=>?_⟩;obtain⟨g,o,rfl,hg,hcell⟩:=hc (by omega);refine⟨g,o,rfl,hg,fun a ha=>?_⟩;obtain⟨⟨A',m',c',e,hl',hm',hc'⟩,hfl⟩:=hrow a ha;rw [bv_len,hfl]at hl';obtain rfl:m'=m:=by omega
 obtain⟨g',o',rfl,hg',hcell'⟩:=hc' (by rw [bv_len,hfl];omega)
 refine⟨g',o',c',?_,hg',fun b hb=>hcell' b _ (bv_get (by omega))⟩;refine hcell a _ ?_;rw [←e];have:a<vs.length:=by omega
 simp [rw_,List.getD,List.getElem?_eq_getElem this]
theorem refloop_calls(n:Nat)(f:Nat→List Bool)(v:Value)(w:World)(hm:RdM w v n f)(hn:n≤64)(R:Ending→World→Prop)
  (hR:Hid (R (.returned (.int .i64 (loopS n fun a b=>on (f a) b))) w)):Calls Tryz.prog 162 #[v] w R:=by
 obtain⟨A,c,rfl,hc,hr⟩:=hm.op;replace hr:=Lib.hid hr;clear hm;go_enter Tryz.func162,Tryz.ntmps162
 go_wp2_with fail
 go_loopg [3] n (fun g a wr=>∃(K:Nat),wr=w∧a=.int .i64 K∧K+g=n∧Hid (∀j,j<K→inLoop n (fun a b=>on (f a) b) j=false))
 case atStart=>exact⟨0,rfl,rfl,by omega,Lib.hid fun j h=>by omega⟩
 case round =>
  obtain⟨K,rfl,rfl,c1,c2⟩:=hrel
  by_cases hK:K<n
  ·obtain⟨kO,rfl⟩:∃kO,gk=kO+1:=⟨gk-1,by omega⟩
   go_wp2_with fail
   go_loopg [4] n (fun g b w2=>∃(J:Nat),w2=wr∧b=.int .i64 J∧J+g=n∧Hid (∀b,b<J→¬(K≠b∧on (f K) b=true∧on (f b) K=true)))
   case atStart=>exact⟨0,rfl,rfl,by omega,Lib.hid fun j h=>by omega⟩
   case round =>
    obtain⟨J,rfl,rfl,d1,d2⟩:=hrel
    by_cases hJ:J<n
    ·have skip:¬(K≠J∧on (f K) J=true∧on (f J) K=true)→∀b,b<J+1→¬(K≠b∧on (f K) b=true∧on (f b) K=true):=fun h b hb=>by
      rcases Nat.eq_or_lt_of_le (Nat.le_of_lt_succ hb)with e|q
      ·subst e;exact h
      ·exact d2.out b q
     have hit:(K≠J∧on (f K) J=true∧on (f J) K=true)→loopS n (fun a b=>on (f a) b)=K:=fun h=>least_is hK (inLoop_iff.2 ⟨J,hJ,h.1,h.2.1,h.2.2⟩) c2.out
     clear d2
     by_cases hq:K=J
     ·subst hq
      have s:=Lib.hid (skip (fun h=>h.1 rfl));clear skip hit;go_wp2_with fail
      go_roundg (gk-1)
      case measure=>omega
      case rel=>exact⟨K+1,rfl,by go_num,by omega,s⟩
     ·have hq':((K:Int) != (J:Int))=true:=by simp;omega
      obtain⟨g,o,rfl,hg,hrow⟩:=hr.out (by omega);obtain⟨g1,o1,c1',x0,hg1,hc1⟩:=hrow K hK;obtain⟨g2,o2,c2',x1,hg2,hc2⟩:=hrow J hJ;have x2:=hc1 J hJ;have x3:=hc2 K hK;clear hrow hc1 hc2;cases e1:on (f K) J
      ·have s:=Lib.hid (skip (fun h=>by rw [e1]at h;cases h.2.1))
       rw [e1]at x2;clear skip hit e1;go_wp2_with fail
       go_roundg (gk-1)
       case measure=>omega
       case rel=>exact⟨J+1,rfl,by go_num,by omega,s⟩
      ·cases e2:on (f J) K
       ·have s:=Lib.hid (skip (fun h=>by rw [e2]at h;cases h.2.2))
        rw [e1]at x2;rw [e2]at x3;clear skip hit e1 e2;go_wp2_with fail
        go_roundg (gk-1)
        case measure=>omega
        case rel=>exact⟨J+1,rfl,by go_num,by omega,s⟩
       ·have s:=hit ⟨hq,e1,e2⟩
        rw [s]at hR;rw [e1]at x2;rw [e2]at x3;clear skip hit e1 e2 s;go_wp2_with fail
        exact hR.out
    ·have s:∀j,j<K+1→inLoop n (fun a b=>on (f a) b) j=false:=fun j hj=>by
      rcases Nat.eq_or_lt_of_le (Nat.le_of_lt_succ hj)with e|q
      ·subst e
       cases e:inLoop n (fun a b=>on (f a) b) j
       ·rfl
       ·obtain⟨b,hb,h1,h2,h3⟩:=inLoop_iff.1 e
        exact absurd ⟨h1,h2,h3⟩ (d2.out b (by omega))
      ·exact c2.out j q
     replace s:=Lib.hid s;clear d2 c2;go_wp2_with fail
     go_roundg kO
     case measure=>omega
     case rel=>exact⟨K+1,rfl,by go_num,by omega,s⟩
  ·have s:loopS n (fun a b=>on (f a) b)=-1:=least_none fun j hj=>c2.out j (by omega)
   rw [s]at hR;clear c2 s;go_wp2_with fail
   exact hR.out
def ivR(o:List Nat):List Value:=o.map fun i=>.int .i64 (i:Nat)
theorem ivR_len(o:List Nat):(ivR o).length=o.length:=by simp [ivR]
theorem ivR_at{w:World}{v:Value}{o:List Nat}(h:RdAt w v 1 (ivR o)):∃(A:Option Addr)(c:Nat),v=.slice A o.length c∧o.length≤c∧(0<o.length→∃g p,A=some ⟨g,p,none⟩∧g<w.heap.size∧∀i,i<o.length→w.cell? ⟨g,p+i,none⟩=some (.int .i64 (o.getD i 0:Nat))):=by
 obtain⟨A,n,c,rfl,hl,hn,hc⟩:=h;rw [ivR_len]at hl;obtain rfl:n=o.length:=by omega
 refine⟨A,c,rfl,hn,fun h0=>?_⟩;obtain⟨g,p,rfl,hg,hc⟩:=hc (by rw [ivR_len];omega)
 exact⟨g,p,rfl,hg,fun i hi=>hc i _ (by simp [ivR,List.getD,List.getElem?_eq_getElem hi])⟩
theorem infoIntR:(Tryz.prog.info? 3).map (fun i=>(i.zero,i.size,i.bytes))=some (some (.int .i64 0),1,8):=by kernel_rfl
end Rel
end Go.Proofs.YtabhkakomececaaGreat
