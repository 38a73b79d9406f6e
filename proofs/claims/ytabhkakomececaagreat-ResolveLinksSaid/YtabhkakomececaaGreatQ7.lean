import Derived.Test.YtabhkakomececaaGreatQ4
import Derived.Test.YtabhkakomececaaGreatQ1
import Derived.Test.YtabhkakomececaaGreatQ6
import Derived.ChangeArms
import Derived.Deep.DeepCutAuto
import Derived.Deep.AppendLies
import Derived.Deep.RegionLaw
set_option linter.all false
set_option maxRecDepth 100000
set_option maxHeartbeats 4000000
namespace Go.Proofs.YtabhkakomececaaGreat
namespace Lat
open Rel Nam
def bestB(n:Nat)(F:Nat→Nat→Bool)(a b c:Nat):Bool:=F a c&&F b c&&(List.range n).all fun d=>!(F a d&&F b d)||F c d
theorem best_iff{n:Nat}{F:Nat→Nat→Bool}{a b c:Nat}:bestB n F a b c=true↔F a c=true∧F b c=true∧∀d,d<n→F a d=true→F b d=true→F c d=true:=by
 unfold bestB;rw [Bool.and_eq_true,Bool.and_eq_true,List.all_eq_true];simp only[Bool.or_eq_true,Bool.not_eq_true',List.mem_range,and_assoc];refine and_congr Iff.rfl (and_congr Iff.rfl ⟨fun h d hd h1 h2=>?_,fun h d hd=>?_⟩)
 ·rcases h d hd with q|q
  ·rw [h1,h2]at q;cases q
  ·exact q
 ·cases e1:F a d
  ·exact .inl rfl
  ·cases e2:F b d
   ·exact .inl rfl
   ·exact .inr (h d hd e1 e2)
def joinS(n:Nat)(F:Nat→Nat→Bool)(a b:Nat):Int:=leastS n (bestB n F a b)
theorem join_cases(n:Nat)(F:Nat→Nat→Bool)(a b:Nat):(joinS n F a b=-1∧∀c,c<n→bestB n F a b c=false)∨∃m:Nat,m<n∧bestB n F a b m=true∧joinS n F a b=m:=by
 rcases least_cases n (bestB n F a b)with h|⟨m,h1,h2,-,h4⟩
 ·exact .inl h
 ·exact .inr ⟨m,h1,h2,h4⟩
def flp(F:Nat→Nat→Bool)(a b:Nat):Bool:=F b a
structure Ordr(n:Nat)(F:Nat→Nat→Bool):Prop where
refl:∀a,a<n→F a a=true
trans:∀a b c,a<n→b<n→c<n→F a b=true→F b c=true→F a c=true
anti:Anti n F
theorem Ordr.flip{n:Nat}{F:Nat→Nat→Bool}(h:Ordr n F):Ordr n (flp F):=⟨h.refl,fun a b c ha hb hc h1 h2=>h.trans c b a hc hb ha h2 h1,fun a b ha hb h1 h2=>h.anti a b ha hb h2 h1⟩
theorem ordr_ld{n:Nat}{P:List (Nat×Nat)}(hP:InR n P)(h:loopS n (ld n P)=-1):Ordr n (ld n P):=⟨fun a ha=>ld_refl hP ha,fun a b c ha _ _ h1 h2=>ld_trans hP ha h1 h2,loop_none.1 h⟩
theorem join_is{n:Nat}{F:Nat→Nat→Bool}(h:Ordr n F){a b c:Nat}(hc:c<n)(hb:bestB n F a b c=true):joinS n F a b=c:=by
 rcases join_cases n F a b with⟨-,q⟩|⟨m,h1,h2,h3⟩
 ·rw [q c hc]at hb;cases hb
 ·obtain⟨p1,p2,p3⟩:=best_iff.1 hb
  obtain⟨q1,q2,q3⟩:=best_iff.1 h2;rw [h3,h.anti m c h1 hc (q3 c hc p1 p2) (p3 m h1 q1 q2)]
theorem best_comm(n:Nat)(F:Nat→Nat→Bool)(a b c:Nat):bestB n F a b c=bestB n F b a c:=by
 rw [Bool.eq_iff_iff,best_iff,best_iff];exact⟨fun⟨h1,h2,h3⟩=>⟨h2,h1,fun d hd q1 q2=>h3 d hd q2 q1⟩,fun⟨h1,h2,h3⟩=>⟨h2,h1,fun d hd q1 q2=>h3 d hd q2 q1⟩⟩
theorem join_comm(n:Nat)(F:Nat→Nat→Bool)(a b:Nat):joinS n F a b=joinS n F b a:=by
 unfold joinS;rw [show bestB n F a b=bestB n F b a from funext fun c=>best_comm n F a b c]
theorem join_self{n:Nat}{F:Nat→Nat→Bool}(h:Ordr n F){a:Nat}(ha:a<n):joinS n F a a=a :=
join_is h ha (best_iff.2 ⟨h.refl a ha,h.refl a ha,fun d _ h1 _=>h1⟩)
structure Latt(n:Nat)(F:Nat→Nat→Bool):Prop where
pos:0<n
ord:Ordr n F
join:∀a b,a<n→b<n→0≤joinS n F a b
meet:∀a b,a<n→b<n→0≤joinS n (flp F) a b
theorem Latt.flip{n:Nat}{F:Nat→Nat→Bool}(h:Latt n F):Latt n (flp F):=⟨h.pos,h.ord.flip,h.meet,h.join⟩
theorem latt_of{n:Nat}{F:Nat→Nat→Bool}(h0:0<n)(h:Ordr n F)(hb:∀b,b<n→∀a,a<b→0≤joinS n F a b∧0≤joinS n (flp F) a b):Latt n F:=by
 refine⟨h0,h,fun a b ha hb'=>?_,fun a b ha hb'=>?_⟩
 ·rcases Nat.lt_trichotomy a b with q|q|q
  ·exact(hb b hb' a q).1
  ·subst q;rw [join_self h ha];omega
  ·rw [join_comm];exact(hb a ha b q).1
 ·rcases Nat.lt_trichotomy a b with q|q|q
  ·exact(hb b hb' a q).2
  ·subst q;rw [join_self h.flip ha];omega
  ·rw [join_comm];exact(hb a ha b q).2
def jn(n:Nat)(F:Nat→Nat→Bool)(a b:Nat):Nat:=(joinS n F a b).toNat
section
variable {n:Nat} {F:Nat→Nat→Bool}
theorem Latt.jn_eq(h:Latt n F){a b:Nat}(ha:a<n)(hb:b<n):joinS n F a b=jn n F a b:=by
 have:=h.join a b ha hb;unfold jn;omega
theorem Latt.jn_best(h:Latt n F){a b:Nat}(ha:a<n)(hb:b<n):jn n F a b<n∧F a (jn n F a b)=true∧F b (jn n F a b)=true∧∀d,d<n→F a d=true→F b d=true→F (jn n F a b) d=true:=by
 have e:=h.jn_eq ha hb;rcases join_cases n F a b with⟨q,-⟩|⟨m,h1,h2,h3⟩
 ·have:=h.join a b ha hb;omega
 ·have:jn n F a b=m:=by omega
  rw [this];exact⟨h1,best_iff.1 h2⟩
theorem Latt.jn_lt(h:Latt n F){a b:Nat}(ha:a<n)(hb:b<n):jn n F a b<n:=(h.jn_best ha hb).1
theorem Latt.jn_is(h:Latt n F){a b c:Nat}(ha:a<n)(hb:b<n)(hc:c<n)(h1:F a c=true)(h2:F b c=true)(h3:∀d,d<n→F a d=true→F b d=true→F c d=true):jn n F a b=c:=by
 have:=join_is h.ord hc (best_iff.2 ⟨h1,h2,h3⟩);unfold jn;omega
theorem Latt.leq_iff(h:Latt n F){a b:Nat}(ha:a<n)(hb:b<n):F a b=decide (jn n F a b=b):=by
 obtain⟨j0,j1,j2,j3⟩:=h.jn_best ha hb;rw [Bool.eq_iff_iff,decide_eq_true_iff];exact⟨fun q=>h.jn_is ha hb hb q (h.ord.refl b hb) fun d _ _ hd=>hd,fun q=>q▸j1⟩
theorem Latt.top(h:Latt n F):∃t,t<n∧∀a,a<n→F a t=true:=by
 have key:∀k,k≤n→∃t,t<n∧∀a,a<k→F a t=true:=by
  intro k
  induction k with
  | zero=>exact fun _=>⟨0,h.pos,fun a ha=>by omega⟩
  | succ k ih =>
   intro hk;obtain⟨t,ht,h1⟩:=ih (by omega);obtain⟨j0,j1,j2,-⟩:=h.jn_best ht (show k<n by omega);refine⟨jn n F t k,j0,fun a ha=>?_⟩;rcases Nat.eq_or_lt_of_le (Nat.le_of_lt_succ ha)with e|q
   ·rw [e];exact j2
   ·exact h.ord.trans _ _ _ (by omega) ht j0 (h1 a q) j1
 exact key n (Nat.le_refl n)
end
def seesF(F:Nat→Nat→Bool)(a:Nat):Nat→List Nat
| 0=>[]
| k+1=>if F k a=true then seesF F a k++[k]else seesF F a k
abbrev Pr:=Wr×Wr
abbrev pN(ps:List Pr)(i:Nat):Pr:=ps.getD i ((ByteArray.empty,0),(ByteArray.empty,0))
theorem pN_get{ps:List Pr}{i:Nat}(h:i<ps.length):pN ps i=ps[i]:=by simp [pN,List.getD,List.getElem?_eq_getElem h]
def idxQ(ws:List Wr)(ps:List Pr):List Pq:=ps.map fun p=>(findS (nms ws) p.1.1,findS (nms ws) p.2.1)
def leqF(ws:List Wr)(ps:List Pr)(a b:Nat):Bool:=ld ws.length (toN (idxQ ws ps)) a b
def firF{α:Type}(f:Nat→Option α):Nat→Nat→Option α
| 0,_=>none
| k+1,i=>match f i with
 | some x=>some x
 | none=>firF f k (i+1)
theorem fir_none{α:Type}{f:Nat→Option α}:∀(k i:Nat),firF f k i=none→∀j,i≤j→j<i+k→f j=none
| 0,i,_,j,h1,h2=>by omega
| k+1,i,h,j,h1,h2=>by
 rw [firF]at h;cases e:f i with
 | some x=>rw [e]at h;cases h
 | none =>
  rw [e]at h;rcases Nat.eq_or_lt_of_le h1 with q|q
  ·rw [←q];exact e
  ·exact fir_none k (i+1) h j q (by omega)
theorem fir_some{α:Type}{f:Nat→Option α}{x:α}:∀(k i:Nat),firF f k i=some x→∃j,i≤j∧j<i+k∧f j=some x
| 0,i,h=>by cases h
| k+1,i,h=>by
 rw [firF]at h;cases e:f i with
 | some y=>rw [e]at h;exact⟨i,Nat.le_refl _,by omega,e.trans h⟩
 | none =>
  rw [e]at h;obtain⟨j,h1,h2,h3⟩:=fir_some k (i+1) h;exact⟨j,by omega,by omega,h3⟩
theorem fir_is{α:Type}{f:Nat→Option α}{x:α}:∀(k i m:Nat),i≤m→m<i+k→f m=some x→(∀j,i≤j→j<m→f j=none)→firF f k i=some x
| 0,i,m,h1,h2,_,_=>by omega
| k+1,i,m,h1,h2,h3,h4=>by
 rw [firF];rcases Nat.eq_or_lt_of_le h1 with q|q
 ·subst q;rw [h3]
 ·rw [h4 i (Nat.le_refl _) q]
  exact fir_is k (i+1) m q (by omega) h3 fun j q1 q2=>h4 j (by omega) q2
theorem fir_no{α:Type}{f:Nat→Option α}:∀(k i:Nat),(∀j,i≤j→j<i+k→f j=none)→firF f k i=none
| 0,i,h=>rfl
| k+1,i,h=>by
 rw [firF,h i (Nat.le_refl _) (by omega)];exact fir_no k (i+1) fun j q1 q2=>h j (by omega) (by omega)
def lvAt(ws:List Wr)(i:Nat):Option (Int×Int) :=
if rightS (wN ws i).1=false then some (9,(wN ws i).2)else if findS (nms ws) (wN ws i).1<(i:Int)then some (10,(wN ws i).2)else none
def prAt(ws:List Wr)(ps:List Pr)(i:Nat):Option (Int×Int) :=
if findS (nms ws) (pN ps i).1.1<0 then some (17,(pN ps i).1.2)else if findS (nms ws) (pN ps i).2.1<0 then some (17,(pN ps i).2.2)else none
def noB(n:Nat)(F:Nat→Nat→Bool)(b a:Nat):Bool:=decide (joinS n F a b<0)||decide (joinS n (flp F) a b<0)
def bnB(n:Nat)(F:Nat→Nat→Bool)(b:Nat):Bool:=(List.range b).any (noB n F b)
def bnAt(ws:List Wr)(F:Nat→Nat→Bool)(b:Nat):Option (Int×Int):=if bnB ws.length F b=true then some (12,(wN ws b).2)else none
def wrongS(ws:List Wr)(ps:List Pr):Int×Int :=
if ws.length=0 then(15,0)else if 32<ws.length then(8,(wN ws 32).2)else if 256<ps.length then(8,(pN ps 256).1.2)else
match firF (lvAt ws) ws.length 0 with
| some f=>f
| none=>match firF (prAt ws ps) ps.length 0 with
 | some f=>f
 | none=>if 0≤loopS ws.length (leqF ws ps)then(11,(wN ws (loopS ws.length (leqF ws ps)).toNat).2)else
  match firF (bnAt ws (leqF ws ps)) ws.length 0 with
  | some f=>f
  | none=>(0,0)
theorem find_lt(l:List ByteArray)(s:ByteArray):findS l s<l.length:=by
 rcases find_cases l s with⟨h,-⟩|⟨k,h1,-,-,h2⟩ <;> omega
theorem idx_right{ws:List Wr}{ps:List Pr}(h32:ws.length≤32)(h:firF (prAt ws ps) ps.length 0=none):RightQ ws.length (idxQ ws ps):=by
 refine⟨by omega,fun x hx=>?_⟩;obtain⟨p,hp,rfl⟩:=List.mem_map.1 hx;obtain⟨i,hi,rfl⟩:=List.getElem_of_mem hp;have:=fir_none _ _ h i (Nat.zero_le _) (by omega);unfold prAt at this;rw [pN_get hi]at this;have l1:=find_lt (nms ws) ps[i].1.1;have l2:=find_lt (nms ws) ps[i].2.1;rw [nms_len]at l1 l2
 split at this
 ·cases this
 ·split at this
  ·cases this
  ·simp only
   omega
structure Fine(ws:List Wr)(ps:List Pr):Prop where
le:ws.length≤32
pairs:ps.length≤256
right:RightQ ws.length (idxQ ws ps)
latt:Latt ws.length (leqF ws ps)
one:∀i,i<ws.length→findS (nms ws) (wN ws i).1=i
theorem wrong_ok{ws:List Wr}{ps:List Pr}(h:(wrongS ws ps).1=0):wrongS ws ps=(0,0)∧Fine ws ps:=by
 unfold wrongS at h ⊢
 by_cases h0:ws.length=0
 ·rw [if_pos h0]at h;cases h
 rw [if_neg h0]at h ⊢
 by_cases h1:32<ws.length
 ·rw [if_pos h1]at h;cases h
 rw [if_neg h1]at h ⊢
 by_cases h2:256<ps.length
 ·rw [if_pos h2]at h;cases h
 rw [if_neg h2]at h ⊢;cases e1:firF (lvAt ws) ws.length 0 with
 | some f =>
  rw [e1]at h;obtain⟨j,-,-,hj⟩:=fir_some _ _ e1;unfold lvAt at hj
  split at hj
  ·cases hj;cases h
  ·split at hj
   ·cases hj;cases h
   ·cases hj
 | none =>
  rw [e1]at h;cases e2:firF (prAt ws ps) ps.length 0 with
  | some f =>
   rw [e2]at h;obtain⟨j,-,-,hj⟩:=fir_some _ _ e2;unfold prAt at hj
   split at hj
   ·cases hj;cases h
   ·split at hj
    ·cases hj;cases h
    ·cases hj
  | none =>
   rw [e2]at h;have hr:=idx_right (by omega) e2;simp only at h ⊢
   by_cases h3:0≤loopS ws.length (leqF ws ps)
   ·rw [if_pos h3]at h;cases h
   rw [if_neg h3]at h ⊢;cases e3:firF (bnAt ws (leqF ws ps)) ws.length 0 with
   | some f =>
    rw [e3]at h;obtain⟨j,-,-,hj⟩:=fir_some _ _ e3;unfold bnAt at hj
    split at hj
    ·cases hj;cases h
    ·cases hj
   | none =>
    refine⟨rfl,by omega,by omega,hr,latt_of (by omega) (ordr_ld (toN_in hr) ?_) fun b hb a hab=>?_,fun i hi=>?_⟩
    ·rcases least_cases ws.length (inLoop ws.length (leqF ws ps))with⟨q,-⟩|⟨m,-,-,-,q⟩
     ·exact q
     ·exact absurd (show 0≤loopS ws.length (leqF ws ps)by unfold loopS;omega) h3
    ·have:=fir_none _ _ e3 b (Nat.zero_le _) (by omega)
     unfold bnAt at this
     split at this
     ·cases this
     ·next q =>
      have hno:¬noB ws.length (leqF ws ps) b a=true:=fun hn=>q (List.any_eq_true.2 ⟨a,List.mem_range.2 hab,hn⟩)
      unfold noB at hno;rw [Bool.or_eq_true,decide_eq_true_iff,decide_eq_true_iff]at hno
      constructor
      ·exact Int.not_lt.1 fun q=>hno (.inl q)
      ·exact Int.not_lt.1 fun q=>hno (.inr q)
    ·have:=fir_none _ _ e1 i (Nat.zero_le _) (by omega)
     unfold lvAt at this
     split at this
     ·cases this
     ·split at this
      ·cases this
      ·next q1 q2 =>
       rcases find_cases (nms ws) (wN ws i).1 with⟨-,hn⟩|⟨k,hk,-,hl,e⟩
       ·exact absurd (List.mem_of_getElem? (nms_get hi)) hn
       ·rcases Nat.lt_trichotomy k i with q|q|q
        ·omega
        ·rw [e,q]
        ·exact absurd (nms_get hi) (hl i q)
end Lat
namespace Lat
open Go.RowKit Go.Lib Rel Nam Go.ChangeShapes Go.WideShapes
def encR(x:Pr):List Value:=[.string x.1.1,.int .i64 x.1.2,.string x.2.1,.int .i64 x.2.2]
theorem encR_len(x:Pr):(encR x).length=4:=rfl
abbrev RdPr:=RdG encR 4
def GoodR(x:Pr):Prop:=GoodW x.1∧GoodW x.2
instance (x:Pr):Decidable (GoodR x):=by unfold GoodR;infer_instance
theorem RdPr.op{w:World}{v:Value}{xs:List Pr}(h:RdPr w v xs):∃(A:Option Addr)(c:Nat),v=.slice A xs.length c∧xs.length≤c ∧
  (0<xs.length→∃g o,A=some ⟨g,o,none⟩∧g<w.heap.size∧∀i,i<xs.length→w.cell? ⟨g,o+i*4,none⟩=some (.string (pN xs i).1.1)∧w.cell? ⟨g,o+i*4+1,none⟩=some (.int .i64 (pN xs i).1.2) ∧
   w.cell? ⟨g,o+i*4+2,none⟩=some (.string (pN xs i).2.1)∧w.cell? ⟨g,o+i*4+3,none⟩=some (.int .i64 (pN xs i).2.2)):=by
 obtain⟨A,c,rfl,hc,hr⟩:=RdG.open encR_len (by decide) h;refine⟨A,c,rfl,hc,fun h0=>?_⟩;obtain⟨g,o,rfl,hg,hca⟩:=hr h0;refine⟨g,o,rfl,hg,fun i hi=>?_⟩;rw [pN_get hi];exact⟨hca i hi 0 (by decide),hca i hi 1 (by decide),hca i hi 2 (by decide),hca i hi 3 (by decide)⟩
theorem reffind11_calls(ws:List Wr)(s:ByteArray)(v:Value)(w:World)(hx:RdW w v ws)(hl:ws.length≤1000000)(R:Ending→World→Prop)
  (hR:Hid (R (.returned (.int .i64 (findS (nms ws) s))) w)):Calls Tryz.prog 161 #[v,.string s] w R:=by
 obtain⟨A,c,rfl,hlc,hr⟩:=hx.op;replace hr:=Lib.hid hr;clear hx;go_enter Tryz.func161,Tryz.ntmps161
 go_wp2_with fail
 go_loopg [5] ws.length (fun k i wr=>∃(K:Nat),wr=w∧i=.int .i64 K∧K+k=ws.length∧Hid (∀j,j<K→(nms ws)[j]?≠some s))
 case atStart=>exact⟨0,rfl,rfl,by omega,Lib.hid fun j h=>by omega⟩
 case round =>
  obtain⟨K,rfl,rfl,c1,c2⟩:=hrel
  by_cases hK:K<ws.length
  ·obtain⟨g,o,rfl,hg,hca⟩:=hr.out (by omega)
   have e0:=(hca K hK).1;have e1:=nms_get hK;clear hca;generalize(wN ws K).1=x at *;have hi0:(0:Int)≤(K:Int):=by omega
   have hi1:(K:Int)<(ws.length:Int):=by omega
   by_cases hq:x=s
   ·have e2:findS (nms ws) s=K:=find_is (by rw [e1,hq]) c2.out
    rw [e2]at hR;have h3:=seq_t hq;clear hq e1 c2;go_wp2_with fail
    exact hR.out
   ·have h3:=seq_f hq
    have e2:∀j,j<K+1→(nms ws)[j]?≠some s:=fun j hj=>by
     rcases Nat.eq_or_lt_of_le (Nat.le_of_lt_succ hj)with e|h
     ·subst e;rw [e1];exact fun h=>hq (Option.some.inj h)
     ·exact c2.out j h
    replace e2:=Lib.hid e2;clear hq e1 c2;go_wp2_with fail
    go_roundg (gk-1)
    case measure=>omega
    case rel=>exact⟨K+1,rfl,by go_num,by omega,e2⟩
  ·have e:findS (nms ws) s=-1:=find_none fun hm=>by
    obtain⟨j,hj,e⟩:=List.getElem_of_mem hm;rw [nms_len]at hj;exact c2.out j (by omega) (by rw [List.getElem?_eq_getElem (by rw [nms_len];exact hj),e])
   rw [e]at hR;clear c2;go_wp2_with fail
   exact hR.out
def preB(F:Nat→Nat→Bool)(a b c L:Nat):Bool:=F a c&&F b c&&(List.range L).all fun d=>!(F a d&&F b d)||F c d
theorem pre_zero(F:Nat→Nat→Bool)(a b c:Nat):preB F a b c 0=(F a c&&F b c):=by unfold preB;simp
theorem pre_succ(F:Nat→Nat→Bool)(a b c L:Nat):preB F a b c (L+1)=(preB F a b c L&&(!(F a L&&F b L)||F c L)):=by
 unfold preB;rw [List.range_succ,List.all_append];simp [Bool.and_assoc]
theorem refjoin_calls(n:Nat)(f:Nat→List Bool)(v:Value)(w:World)(hm:RdM w v n f)(hn:n≤64)(a b:Nat)(ha:a<n)(hb:b<n)(R:Ending→World→Prop)
  (hR:Hid (R (.returned (.int .i64 (joinS n (fun a b=>on (f a) b) a b))) w)):Calls Tryz.prog 79 #[v,.int .i64 a,.int .i64 b] w R:=by
 obtain⟨A,c,rfl,hc,hr⟩:=hm.op;obtain⟨g,o,rfl,hg,hrow⟩:=hr (by omega);obtain⟨ga,oa,ca,x0,hga,hca⟩:=hrow a ha;obtain⟨gb,ob,cb,x1,hgb,hcb⟩:=hrow b hb;obtain⟨F,hF⟩:∃F:Nat→Nat→Bool,F=fun a b=>on (f a) b:=⟨_,rfl⟩
 have hF2:∀a b,on (f a) b=F a b:=fun a b=>by rw [hF]
 simp only[hF2]at hca hcb
 have hrow2:∀i,i<n→∃g1 o1 c1,w.cell? ⟨g,o+i,none⟩=some (.slice (some ⟨g1,o1,none⟩) n c1)∧g1<w.heap.size∧∀j,j<n→w.cell? ⟨g1,o1+j,none⟩=some (.bool (F i j)):=fun i hi=>by
  obtain⟨g1,o1,c1,h1,h2,h3⟩:=hrow i hi;exact⟨g1,o1,c1,h1,h2,fun j hj=>by rw [←hF2];exact h3 j hj⟩
 rw [←hF]at hR;replace hrow2:=Lib.hid hrow2;replace hca:=Lib.hid hca;replace hcb:=Lib.hid hcb;clear hF hF2 hm hrow hr;have ia0:(0:Int)≤(a:Int):=by omega
 have ia1:(a:Int)<(n:Int):=by omega
 have ib0:(0:Int)≤(b:Int):=by omega
 have ib1:(b:Int)<(n:Int):=by omega
 go_enter Tryz.func79,Tryz.ntmps79
 go_wp2_with fail
 go_loopg [7] n (fun g c wr=>∃K:Nat,c=.int .i64 K∧K+g=n∧wr=w∧Hid (leastF (bestB n F a b) g K=joinS n F a b))
 case atStart=>exact⟨0,rfl,by omega,rfl,Lib.hid rfl⟩
 case round =>
  obtain⟨K,rfl,c1,rfl,hk⟩:=hrel
  by_cases hK:K<n
  ·obtain⟨kO,rfl⟩:∃kO,gk=kO+1:=⟨gk-1,by omega⟩
   obtain⟨gc,oc,cc,x2,hgc,hcc⟩:=hrow2.out K hK;have y0:=hca.out K hK;have y1:=hcb.out K hK;have hk2:=hk.out;rw [leastF]at hk2;replace hcc:=Lib.hid hcc;have hp0:=pre_zero F a b K;obtain⟨B0,hB0⟩:∃B,preB F a b K 0=B:=⟨_,rfl⟩;have hk3:bestB n F a b K=preB F a b K n:=rfl;rw [hk3]at hk2;replace hk2:=Lib.hid hk2;have ik0:(0:Int)≤(K:Int):=by omega
   have ik1:(K:Int)<(n:Int):=by omega
   have hB:B0=(F a K&&F b K):=by rw [←hB0,hp0]
   replace hB0:=Lib.hid hB0;clear hk hk3 hp0;generalize F a K=p1 at *;generalize F b K=p2 at *;go_upto_region 4 with fail
   go_cut [8] (fun e wx=>e=.bool B0∧wx=wr)
   case first =>
    cases p1
    ·obtain rfl:B0=false:=hB
     go_wp2_with fail
     go_meet;exact⟨rfl,rfl⟩
    ·obtain rfl:B0=p2:=by rw [hB];rfl
     clear hB;go_wp2_with fail
     go_meet;exact⟨rfl,rfl⟩
   case rest =>
    obtain⟨rfl,rfl⟩:=hcut;clear hB y0 y1;go_wp2_with fail
    go_loopg [8,9] n (fun g best d wr=>∃(L:Nat) (B:Bool),best=.bool B∧d=.int .i64 L∧L+g=n∧wr=wc∧Hid (preB F a b K L=B))
    case atStart=>exact⟨0,B0,rfl,rfl,by omega,rfl,hB0⟩
    case round =>
     obtain⟨L,B,rfl,rfl,d1,rfl,hp⟩:=hrel
     by_cases hL:L<n
     ·have y0:=hca.out L hL
      have y1:=hcb.out L hL;have y2:=hcc.out L hL;have hs:=pre_succ F a b K L;rw [hp.out]at hs;replace hs:=Lib.hid hs;have il0:(0:Int)≤(L:Int):=by omega
      have il1:(L:Int)<(n:Int):=by omega
      clear hB0 hp;generalize F a L=p1 at *;generalize F b L=p2 at *;generalize F K L=p3 at *;cases p1
      ·go_wp2_with fail
       go_roundg (gk-1)
       case measure=>omega
       case rel=>exact⟨L+1,B,rfl,by go_num,by omega,rfl,Lib.hid (by rw [hs.out];simp)⟩
      cases p2
      ·go_wp2_with fail
       go_roundg (gk-1)
       case measure=>omega
       case rel=>exact⟨L+1,B,rfl,by go_num,by omega,rfl,Lib.hid (by rw [hs.out];simp)⟩
      cases p3
      ·go_wp2_with fail
       go_roundg (gk-1)
       case measure=>omega
       case rel=>exact⟨L+1,false,rfl,by go_num,by omega,rfl,Lib.hid (by rw [hs.out];simp)⟩
      ·go_wp2_with fail
       go_roundg (gk-1)
       case measure=>omega
       case rel=>exact⟨L+1,B,rfl,by go_num,by omega,rfl,Lib.hid (by rw [hs.out];simp)⟩
     ·obtain rfl:L=n:=by omega
      have e:=hk2.out;rw [hp.out]at e;cases B
      ·rw [if_neg (by simp)]at e
       replace e:=Lib.hid e;go_wp2_with fail
       go_roundg kO
       case measure=>omega
       case rel=>exact⟨K+1,by go_num,by omega,rfl,e⟩
      ·rw [if_pos rfl]at e
       rw [←e]at hR;go_wp2_with fail
       exact hR.out
  ·obtain rfl:gk=0:=by omega
   have e:=hk.out;rw [leastF]at e;rw [←e]at hR;clear hk e;go_wp2_with fail
   exact hR.out
end Lat
namespace Lat
open Go.RowKit Go.Lib Rel Nam
def turnR(n:Nat)(f:Nat→List Bool)(a:Nat):List Bool:=(List.range n).map fun b=>on (f b) a
theorem turn_len(n:Nat)(f:Nat→List Bool)(a:Nat):(turnR n f a).length=n:=by simp [turnR]
theorem turn_on{n:Nat}(f:Nat→List Bool)(a:Nat){b:Nat}(h:b<n):on (turnR n f a) b=on (f b) a:=by
 unfold turnR
 have:on ((List.range n).map fun b=>on (f b) a) b=((List.range n).map fun b=>on (f b) a)[b]'(by simpa using h):=by
  unfold on;rw [List.getD,List.getElem?_eq_getElem (by simpa using h)];rfl
 rw [this];simp
theorem on_setV{r:List Bool}{i:Nat}(hi:i<r.length)(x:Bool)(j:Nat):on (r.set i x) j=if i=j then x else on r j:=by
 unfold on;rw [List.getD,List.getElem?_set]
 by_cases h:i=j
 ·subst h;simp [hi]
 ·simp [h]
def TurnW(n:Nat)(f:Nat→List Bool)(K J:Nat)(r:List Bool):Prop:=∀b,b<n→on r b=(decide (b<J)&&on (f b) K)
theorem TurnW.put{n:Nat}{f:Nat→List Bool}{K J:Nat}{r:List Bool}(h:TurnW n f K J r)(hr:r.length=n)(hJ:J<n):TurnW n f K (J+1) (r.set J (on (f J) K)):=fun b hb=>by
 rw [on_setV (by omega)]
 by_cases e:J=b
 ·subst e;rw [if_pos rfl,decide_eq_true (by omega:J<J+1)];rfl
 ·rw [if_neg e,h b hb]
  by_cases q:b<J
  ·rw [decide_eq_true q,decide_eq_true (by omega:b<J+1)]
  ·rw [decide_eq_false q,decide_eq_false (by omega:¬b<J+1)]
theorem TurnW.fin{n:Nat}{f:Nat→List Bool}{K:Nat}{r:List Bool}(h:TurnW n f K n r)(hr:r.length=n):r=turnR n f K:=by
 refine row_ext (by rw [hr,turn_len]) fun i=>?_
 by_cases hi:i<n
 ·rw [h i hi,turn_on f K hi,decide_eq_true hi];rfl
 ·cases e:on r i
  ·cases e2:on (turnR n f K) i
   ·rfl
   ·have:=on_lt e2;rw [turn_len]at this;omega
  ·have:=on_lt e;omega
theorem refturn_calls(n:Nat)(f:Nat→List Bool)(v:Value)(w:World)(hm:RdM w v n f)(hn64:n≤64)(R:Ending→World→Prop)
  (hR:Hid (∀v' w',RdM w' v' n (turnR n f)→Below w.heap.size w w'→R (.returned v') w')):Calls Tryz.prog 163 #[v] w R:=by
 obtain⟨A,c,rfl,hc,hr⟩:=hm.op;replace hr:=Lib.hid hr;obtain⟨M,hM,hmk⟩:=mk_bool n (by omega);obtain⟨i0,hI,hz0,hz1,hz2⟩:=info_parts infoRow;clear hm;go_enter Tryz.func163,Tryz.ntmps163
 go_wp2_with fail
 go_loopg [3,4] n (fun g o a wr=>∃(K:Nat) (vo:Value) (vs:List Value),vo=o∧a=.int .i64 K∧K+g=n∧Below w.heap.size w wr∧wr.ownsRow w.heap.size 81 1 vo K vs∧Hid (∀j,j<K→∃b,wr.ownsRow b 4 1 (rw_ vs j) n (bv (turnR n f j))))
 case atStart=>exact⟨0,_,[],rfl,rfl,by omega,Below.refl _ _,World.ownsRow_nil _ _ _ _,Lib.hid fun j h=>by omega⟩
 case round =>
  obtain⟨K,vo,vs,rfl,rfl,c1,hbel,hown,hrows⟩:=hrel;obtain⟨W0,rfl⟩:∃W0,W0=wr:=⟨wr,rfl⟩;have hsz:=hbel.size
  by_cases hK:K<n
  ·obtain⟨kO,rfl⟩:∃kO,gk=kO+1:=⟨gk-1,by omega⟩
   obtain⟨g,o,rfl,hg,hrow⟩:=hr.out (by omega);replace hrow:=Lib.hid hrow;have hm:=Lib.hid (own_made (n:=n) (w:=W0) (t:=4) hM (by simp [bv]) (by unfold maxLen;omega))
   have b2:=Lib.hid ((Below.refl W0.heap.size W0).alloc (Nat.le_refl _) (.cells M 4))
   have t0:TurnW n f K 0 (List.replicate n false):=fun b hb=>by
    unfold on;rw [List.getD,List.getElem?_replicate];simp [hb]
   replace t0:=Lib.hid t0;have ik0:(0:Int)≤(K:Int):=by omega
   have ik1:(K:Int)<(n:Int):=by omega
   go_wp2_with fail
   go_loopg [6] n (fun g k w2=>∃(J:Nat) (r:List Bool),k=.int .i64 J∧J+g=n∧Below W0.heap.size W0 w2∧w2.ownsRow W0.heap.size 4 1 (.slice (some ⟨W0.heap.size,0,none⟩) n n) n (bv r)∧Hid (TurnW n f K J r))
   case atStart=>exact⟨0,_,rfl,by omega,b2.out,hm.out,t0⟩
   case round =>
    obtain⟨J,r,rfl,d1,b3,own3,d2⟩:=hrel;have hrl:r.length=n:=by have:=own3.1;rw [bv_len]at this;omega
    by_cases hJ:J<n
    ·obtain⟨g1,o1,c3,x0,hg1,hc1⟩:=hrow.out J hJ
     have x1:=hc1 K hK;have e0:=(b3.cell (p:=⟨g,o+J,none⟩) (Nat.lt_of_lt_of_le hg hsz)).trans ((hbel.cell (p:=⟨g,o+J,none⟩) hg).trans x0);have e1:=(b3.cell (p:=⟨g1,o1+K,none⟩) (Nat.lt_of_lt_of_le hg1 hsz)).trans ((hbel.cell (p:=⟨g1,o1+K,none⟩) hg1).trans x1);have hp:=Lib.hid (d2.out.put hrl hJ);have r2:=(World.ownsRow.cellAt own3 J (by omega)).trans (bv_get (by omega));have r3:=World.ownsRow.frozenAt own3 J;have o6:=(World.ownsRow.stored own3 J (.bool (on (f J) K))).1;rw [bv_set]at o6;have b6:=Lib.hid (b3.setCell (p:=⟨W0.heap.size,J,none⟩) (Nat.le_refl _) (.bool (on (f J) K)));replace o6:=Lib.hid o6;have ij0:(0:Int)≤(J:Int):=by omega
     have ij1:(J:Int)<(n:Int):=by omega
     clear hc1 x0 x1 d2 own3 b3;generalize on (f J) K=B at *;go_wp2_with fail
     go_roundg (gk-1)
     case measure=>omega
     case rel=>exact⟨J+1,_,by go_num,by omega,b6.out,o6.out,hp⟩
    ·obtain rfl:J=n:=by omega
     obtain rfl:r=turnR J f K:=d2.out.fin hrl;clear d2;have o1:=own_below hown b3;have hsz2:=Nat.le_trans hsz b3.size;go_wp2_with (at_builtin;go_loud (refine app1 _ (.slice (some ⟨W0.heap.size,0,none⟩) J J) 81 rfl _ _ 49 rfl w.heap.size i0 (.slice none 0 0) 24 Tryz.underlying49 hI hz0 hz1 hz2 rfl vo _ _ rfl o1 rfl rfl (by unfold maxLen;omega) (by omega) hsz2 ?_);intro v' w3 hown3 hg3 hb3)
     have bW:=hbel.trans ((b3.mono hsz).trans hb3);have hvs:vs.length=K:=by have:=hown.1;omega
     have hrows2:∀j,j<K+1→∃b,w3.ownsRow b 4 1 (rw_ (vs++[.slice (some ⟨W0.heap.size,0,none⟩) J J]) j) J (bv (turnR J f j)):=fun j hj=>by
      rcases Nat.eq_or_lt_of_le (Nat.le_of_lt_succ hj)with e|hj
      ·subst e
       rw [show rw_ (vs++[.slice (some ⟨W0.heap.size,0,none⟩) J J]) j=.slice (some ⟨W0.heap.size,0,none⟩) J J by simp [rw_,List.getD,←hvs]];exact⟨_,own3.kept hg3 (own_ne2 own3 o1 (by decide))⟩
      ·obtain⟨b,hb⟩:=hrows.out j hj
       rw [show rw_ (vs++[.slice (some ⟨W0.heap.size,0,none⟩) J J]) j=rw_ vs j by simp [rw_,List.getD,List.getElem?_append_left (show j<vs.length by omega)]];have hb':=own_below hb b3;exact⟨b,hb'.kept hg3 (own_ne2 hb' o1 (by decide))⟩
     replace hrows2:=Lib.hid hrows2;go_roundg kO
     case measure=>omega
     case rel=>exact⟨K+1,v',_,rfl,by go_num,by omega,bW,hown3,hrows2⟩
  ·obtain rfl:K=n:=by omega
   have rd:RdM W0 vo K (turnR K f):=⟨vs,RdAt.of_own hown,by have:=hown.1;omega,fun j hj=>by
    obtain⟨b,hb⟩:=hrows.out j hj;exact⟨RdAt.of_own hb,turn_len _ _ _⟩⟩
   replace rd:=Lib.hid rd;clear hown hrows;go_wp2_with fail
   exact hR.out _ _ rd.out hbel
theorem infoTwo:(Tryz.prog.info? 258).map (fun i=>(i.zero,i.size,i.bytes))=some (some (.agg #[.int .i64 0,.int .i64 0]),2,16):=by kernel_rfl
theorem idx_take{ws:List Wr}{ps:List Pr}{K:Nat}(hK:K<ps.length):idxQ ws (ps.take (K+1))=idxQ ws (ps.take K)++[(findS (nms ws) (pN ps K).1.1,findS (nms ws) (pN ps K).2.1)]:=by
 unfold idxQ;rw [List.take_succ_eq_append_getElem hK,List.map_append,pN_get hK];rfl
theorem idx_len(ws:List Wr)(ps:List Pr):(idxQ ws ps).length=ps.length:=by simp [idxQ]
theorem refpairs_calls(ws:List Wr)(ps:List Pr)(vw vp:Value)(w:World)(hw:RdW w vw ws)(hp:RdPr w vp ps)(hl:ws.length≤1000000)(hl2:ps.length≤1000000)(R:Ending→World→Prop)
  (hR:Hid (∀v' w',RdQ w' v' (idxQ ws ps)→Below w.heap.size w w'→R (.returned v') w')):Calls Tryz.prog 103 #[vw,vp] w R:=by
 obtain⟨A,c,rfl,hc,hr⟩:=hp.op;replace hr:=Lib.hid hr;obtain⟨i0,hI,hz0,hz1,hz2⟩:=info_parts infoTwo;have cF:=Lib.hid fun(W:World) (hb:Below w.heap.size w W) s R hR=>reffind11_calls ws s vw W (hw.below hb) hl R hR
 obtain⟨A1,c1,rfl,-,-⟩:=hw.op;clear hw hp;go_enter Tryz.func103,Tryz.ntmps103
 go_wp2_with fail
 go_loopg [5,6] ps.length (fun g s i wr=>∃(K:Nat) (vo:Value),vo=s∧i=.int .i64 K∧K+g=ps.length∧Hid (Below w.heap.size w wr)∧Hid (wr.ownsRow w.heap.size 258 2 vo K (flatG encQ (idxQ ws (ps.take K)))))
 case atStart=>exact⟨0,_,rfl,rfl,by omega,Lib.hid (Below.refl _ _),Lib.hid (World.ownsRow_nil _ _ _ _)⟩
 case round =>
  obtain⟨K,vo,rfl,rfl,d1,nb,own⟩:=hrel;have hsz:=nb.out.size
  by_cases hK:K<ps.length
  ·obtain⟨g,o,rfl,hg,hca⟩:=hr.out (by omega)
   obtain⟨y0,-,y1,-⟩:=hca K hK;have e0:=(nb.out.cell (p:=⟨g,o+K*4,none⟩) hg).trans y0;have e1:=(nb.out.cell (p:=⟨g,o+K*4+2,none⟩) hg).trans y1;have hs:=Lib.hid (idx_take (ws:=ws) hK);generalize(pN ps K).1.1=s0 at *;generalize(pN ps K).2.1=s1 at *;have cG:=Lib.hid fun m s R hR=>cF.out (wr.drewN m) (below_drewN nb.out m) s R hR
   have hi0:(0:Int)≤(K:Int):=by omega
   have hi1:(K:Int)<(ps.length:Int):=by omega
   have hown:=own.out;generalize idxQ ws (ps.take K)=l0 at *;clear hca y0 y1 cF own;replace hown:=Lib.hid hown;go_wp2_with fail
   go_region_law
    (first
     | (refine step_append_lies _ (by rfl) _ _ _ (by rfl) w.heap.size 258 i0 _ 2 16 Tryz.underlying190 hI hz0 hz1 hz2 rfl (by omega) vo K (flatG encQ l0) (by rfl) ((hown.out.drew).alloc _) ⟨wr.heap.size,0,none⟩ 1 1 [.int .i64 (findS (nms ws) s0),.int .i64 (findS (nms ws) s1)] (by rfl) (by rfl) (World.news_of_block (cs:=#[.int .i64 (findS (nms ws) s0),.int .i64 (findS (nms ws) s1)]) (t:=258) (fr:=(0,0)) (heap_alloc_new _ _)) (by simp [Value.oneCell']) (by omega) (by unfold maxLen;omega) (by omega) (by simp;omega) (wr.heap.size+1) (by simp) ?_;intro gg cap w2 hown2 hgrow hat hlt2)
     | (go_simp;go_at_call 161;refine cG.out 1 _ _ (Lib.hid ?_)))
   all_goals
    have b1:=grown_below (grown_step hgrow) (show w.heap.size≤wr.drew.heap.size from hsz) (fun k hk=>(hown.out.lt k hk).1);have n2:=Lib.hid (nb.out.drew.trans b1);replace hown2:w2.ownsRow w.heap.size 258 2 (.slice (some ⟨gg,0,none⟩) (K+1) cap) (K+1) (flatG encQ (idxQ ws (ps.take (K+1)))):=by rw [hs.out,flatG_snoc];exact hown2
    replace hown2:=Lib.hid hown2;clear hgrow hat b1 hs hown nb;go_wp2_with fail
    go_roundg (gk-1)
    case measure=>omega
    case rel=>exact⟨K+1,_,rfl,by go_num,by omega,n2,hown2⟩
  ·obtain rfl:K=ps.length:=by omega
   have rd:=RdG.of_own own.out;rw [List.take_length]at rd;have fin:=Lib.hid (hR.out _ _ rd nb.out);clear own rd nb;go_wp2_with fail
   exact fin.out
theorem refleq_calls(ws:List Wr)(ps:List Pr)(vw vp:Value)(w:World)(hw:RdW w vw ws)(hp:RdPr w vp ps)(hr:RightQ ws.length (idxQ ws ps))(hl2:ps.length≤1000000)(R:Ending→World→Prop)
  (hR:Hid (∀v' w',RdM w' v' ws.length (ldR ws.length (toN (idxQ ws ps)))→Below w.heap.size w w'→R (.returned v') w')):Calls Tryz.prog 51 #[vw,vp] w R:=by
 have hl:ws.length≤64:=by have:=hr.1;omega
 have cP:=Lib.hid fun R hR=>refpairs_calls ws ps vw vp w hw hp (by omega) hl2 R hR
 have cD:=Lib.hid fun(W:World) v h R hR=>leads_calls ws.length (idxQ ws ps) v W h hr (by rw [idx_len];unfold maxLen;omega) R hR
 obtain⟨A1,c1,rfl,-,-⟩:=hw.op;obtain⟨A2,c2,rfl,-,-⟩:=hp.op;clear hw hp;go_enter Tryz.func51,Tryz.ntmps51
 go_wp2_with fail
 refine cP.out _ (Lib.hid fun v1 w1 r1 n1=>?_);replace r1:=Lib.hid r1;replace n1:=Lib.hid n1;go_wp2_with fail
 refine cD.out w1 v1 r1.out _ (Lib.hid fun v2 w2 r2 n2=>?_);have n3:=Lib.hid (n1.out.trans (n2.mono n1.out.size));replace r2:=Lib.hid r2;clear n1 n2;go_wp2_with fail
 exact hR.out _ _ r2.out n3.out
end Lat
end Go.Proofs.YtabhkakomececaaGreat
