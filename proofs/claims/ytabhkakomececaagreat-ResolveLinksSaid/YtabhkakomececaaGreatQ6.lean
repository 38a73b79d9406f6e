import Derived.Test.YtabhkakomececaaGreatQ0
import Derived.SliceStrings
import Derived.Deep.AppendLies
import Derived.Lib.Bytealg
import Derived.Lib.Small
import Derived.Test.YtabhkakomececaaGreatProg
import Derived.Shelf.SlSortCmp.Whole1
import Derived.Shelf.SlSortCmp.NoneTotal
import Derived.Shelf.SlicesE.Clone
import Derived.Shelf.Spec.SearchS
import Derived.Shelf.Small.Strs
import Derived.Shelf.Small.Wraps
import Derived.Lib.OwnBridge
import Derived.Lib.AppendIntMem
import Derived.Laws.MakeOwn
import Derived.Deep.WholeRow
set_option linter.all false
set_option maxRecDepth 100000
set_option maxHeartbeats 4000000
namespace Go.Proofs.YtabhkakomececaaGreat.Nam
open Go.RowKit Go.Lib Utf Go.ChangeShapes Go.WideShapes
def sv(l:List ByteArray):List Value:=l.map Value.string
theorem sv_len(l:List ByteArray):(sv l).length=l.length:=by simp [sv]
theorem sv_append(l m:List ByteArray):sv (l++m)=sv l++sv m:=by simp [sv]
theorem sv_get(l:List ByteArray)(k:Nat)(h:k<l.length):(sv l)[k]?=some (.string (l.getD k ByteArray.empty)):=by simp [sv,List.getD,List.getElem?_eq_getElem h]
def RdS(w:World)(v:Value)(l:List ByteArray):Prop:=RdAt w v 1 (sv l)
theorem RdS.below{w w':World}{v:Value}{l:List ByteArray}(h:RdS w v l)(hb:Below w.heap.size w w'):RdS w' v l:=RdAt.below h hb
theorem RdS.open{w:World}{v:Value}{l:List ByteArray}(h:RdS w v l):∃(A:Option Addr)(c:Nat),v=.slice A l.length c∧l.length≤c ∧
  (0<l.length→∃g o,A=some ⟨g,o,none⟩∧g<w.heap.size∧∀k,k<l.length→w.cell? ⟨g,o+k,none⟩=some (.string (l.getD k ByteArray.empty))):=by
 obtain⟨A,n,c,rfl,hl,hn,hc⟩:=h;rw [sv_len]at hl;obtain rfl:n=l.length:=by omega
 refine⟨A,c,rfl,hn,fun h0=>?_⟩;obtain⟨g,o,rfl,hg,hc⟩:=hc (by rw [sv_len];omega)
 exact⟨g,o,rfl,hg,fun k hk=>hc _ _ (sv_get l k hk)⟩
theorem RdS.of_own{w:World}{base:Nat}{e:TypeId}{n:Nat}{v:Value}{l:List ByteArray}(h:w.ownsRow base e 1 v n (sv l)):RdS w v l:=RdAt.of_own h
theorem grown_keep{W w2:World}{o:Obj}{row:Option Nat}(h:(W.alloc o).drew.grownBy w2 row){g x:Nat}{u:Value}(hg:g<W.heap.size)(hr:some g≠row)(hc:W.cell? ⟨g,x,none⟩=some u):w2.cell? ⟨g,x,none⟩=some u :=
((h.cell_far ⟨g,x,none⟩ (by show g<(W.alloc o).heap.size;simp;omega) hr).trans (((Below.refl W.heap.size W).alloc (Nat.le_refl _) o).cell (p:=⟨g,x,none⟩) hg)).trans hc
theorem grown_keepF{W w2:World}{o:Obj}{row:Option Nat}(h:(W.alloc o).drew.grownBy w2 row){g x:Nat}{u:Bool}(hg:g<W.heap.size)(hr:some g≠row)(hc:W.frozen? ⟨g,x,none⟩=u):w2.frozen? ⟨g,x,none⟩=u :=
((h.frozen_far ⟨g,x,none⟩ (by show g<(W.alloc o).heap.size;simp;omega) hr).trans (((Below.refl W.heap.size W).alloc (Nat.le_refl _) o).frozen (p:=⟨g,x,none⟩) hg)).trans hc
theorem alloc_keep{W:World}{o:Obj}{g x:Nat}{u:Value}(hg:g<W.heap.size)(hc:W.cell? ⟨g,x,none⟩=some u):((W.alloc o).drew).cell? ⟨g,x,none⟩=some u:=(((Below.refl W.heap.size W).alloc (Nat.le_refl _) o).cell (p:=⟨g,x,none⟩) hg).trans hc
theorem set_keepF{W:World}{g x:Nat}{a:Addr}{u:Bool}{v:Value}(hc:W.frozen? ⟨g,x,none⟩=u):(W.setCell a v).frozen? ⟨g,x,none⟩=u:=by rw [World.frozen?_setCell];exact hc
theorem seq_t{a b:ByteArray}(h:a=b):(a.toList==b.toList)=true:=by rw [seq_iff];exact decide_eq_true h
theorem seq_f{a b:ByteArray}(h:¬a=b):(a.toList==b.toList)=false:=by rw [seq_iff];exact decide_eq_false h
theorem getD_at{xs:List ByteArray}{j:Nat}(h:j<xs.length):xs[j]?=some (xs.getD j ByteArray.empty):=by simp [List.getD,List.getElem?_eq_getElem h]
theorem find_lt{xs:List ByteArray}{K:Nat}(hK:K<xs.length):findS xs (xs.getD K ByteArray.empty)<K↔xs.getD K ByteArray.empty∈xs.take K:=by
 rcases find_cases xs (xs.getD K ByteArray.empty)with⟨-,h⟩|⟨m,h1,h2,h3,h4⟩
 ·exact absurd (List.mem_of_getElem? (getD_at hK)) h
 ·rw [h4]
  constructor
  ·intro h
   refine List.mem_take_iff_getElem.2 ⟨m,by omega,?_⟩;rw [List.getElem?_eq_getElem h1]at h2;exact Option.some.inj h2
  ·intro h
   obtain⟨i,hi,e⟩:=List.mem_take_iff_getElem.1 h;have:¬i<m:=fun q=>h3 i q (by rw [List.getElem?_eq_getElem (by omega),e])
   omega
end Go.Proofs.YtabhkakomececaaGreat.Nam
namespace Go.Proofs.YtabhkakomececaaGreat.Nam
open Go.Lib Utf
theorem cmpB:∀(a b:List UInt8),(compareBytes a b<0↔Go.Op.bytesLess a b=true)∧(compareBytes a b=0↔a=b)∧-1≤compareBytes a b∧compareBytes a b≤1
| [],[]=>by simp [compareBytes,Go.Op.bytesLess]
| [],b::y=>by simp [compareBytes,Go.Op.bytesLess]
| a::x,[]=>by simp [compareBytes,Go.Op.bytesLess]
| a::x,b::y=>by
 have ih:=cmpB x y;rw [less_cons,compareBytes];simp only[UInt8.lt_iff_toNat_lt]
 by_cases h1:a.toNat<b.toNat
 ·rw [if_pos h1]
  refine⟨⟨fun _=>.inl h1,fun _=>by omega⟩,⟨fun h=>by omega,fun h=>?_⟩,by omega,by omega⟩;simp at h;rw [h.1]at h1;omega
 ·rw [if_neg h1]
  by_cases h2:b.toNat<a.toNat
  ·rw [if_pos h2]
   refine⟨⟨fun h=>by omega,fun h=>?_⟩,⟨fun h=>by omega,fun h=>?_⟩,by omega,by omega⟩
   ·rcases h with h|⟨h,-⟩
    ·omega
    ·rw [h]at h2;omega
   ·simp at h;rw [h.1]at h2;omega
  ·rw [if_neg h2]
   have e:a=b:=UInt8.toNat_inj.1 (by omega);subst e;refine⟨?_,?_,ih.2.2⟩
   ·rw [ih.1]
    exact⟨fun h=>.inr ⟨rfl,h⟩,fun h=>h.elim (fun h=>by omega) (fun h=>h.2)⟩
   ·rw [ih.2.1];simp
def cmpS(a b:ByteArray):Int:=compareBytes a.data.toList b.data.toList
theorem cmpS_lt(a b:ByteArray):cmpS a b<0↔lt a b=true:=by
 unfold cmpS lt;rw [(cmpB _ _).1,ba_toList,ba_toList]
theorem cmpS_eq(a b:ByteArray):cmpS a b=0↔a=b:=by
 unfold cmpS;rw [(cmpB _ _).2.1];exact⟨fun h=>ByteArray.ext (Array.ext' h),fun h=>by rw [h]⟩
def at_(xs:List ByteArray)(i:Nat):ByteArray:=xs.getD i ByteArray.empty
theorem at_some{xs:List ByteArray}{i:Nat}(h:i<xs.length):xs[i]?=some (at_ xs i):=by unfold at_;simp [List.getD,List.getElem?_eq_getElem h]
theorem at_get{xs:List ByteArray}{i:Nat}(h:i<xs.length):at_ xs i=xs[i]:=by unfold at_;simp [List.getD,List.getElem?_eq_getElem h]
theorem at_mem{ds:List ByteArray}{k:Nat}(h:k<ds.length):at_ ds k∈ds:=List.mem_of_getElem? (at_some h)
def bef(xs:List ByteArray)(i j:Nat):Prop:=lt (at_ xs i) (at_ xs j)=true∨(at_ xs i=at_ xs j∧i<j)
def cmpI(xs:List ByteArray)(i j:Nat):Int:=if cmpS (at_ xs i) (at_ xs j)=0 then compareInt i j else cmpS (at_ xs i) (at_ xs j)
theorem cmpI_lt(xs:List ByteArray)(i j:Nat):cmpI xs i j<0↔bef xs i j:=by
 unfold cmpI bef
 by_cases h:cmpS (at_ xs i) (at_ xs j)=0
 ·rw [if_pos h]
  have h2:=(cmpS_eq _ _).1 h;rw [h2,lt_irr];unfold compareInt
  constructor
  ·intro q
   by_cases h3:(i:Int)<j
   ·exact .inr ⟨rfl,by omega⟩
   ·rw [if_neg h3]at q;split at q<;>omega
  ·rintro(q|⟨-,q⟩)
   ·cases q
   ·rw [if_pos (by omega)];omega
 ·rw [if_neg h,cmpS_lt]
  exact⟨.inl,fun q=>q.elim id fun q=>absurd ((cmpS_eq _ _).2 q.1) h⟩
theorem bef_irr(xs:List ByteArray)(i:Nat):¬bef xs i i:=by
 rintro(h|h)
 ·rw [lt_irr]at h;cases h
 ·omega
theorem bef_trans{xs:List ByteArray}{i j k:Nat}(h:bef xs i j)(g:bef xs j k):bef xs i k:=by
 rcases h with h|⟨h1,h2⟩ <;> rcases g with g|⟨g1,g2⟩
 ·exact .inl (lt_trans h g)
 ·exact .inl (g1▸h)
 ·exact .inl (h1▸g)
 ·exact .inr ⟨h1.trans g1,by omega⟩
theorem bef_tri{xs:List ByteArray}{i j:Nat}(h:¬bef xs i j)(g:¬bef xs j i):i=j:=by
 have h1:lt (at_ xs i) (at_ xs j)=false:=by
  cases e:lt (at_ xs i) (at_ xs j)
  ·rfl
  ·exact absurd (.inl e) h
 have h2:lt (at_ xs j) (at_ xs i)=false:=by
  cases e:lt (at_ xs j) (at_ xs i)
  ·rfl
  ·exact absurd (.inl e) g
 have e:=lt_tri h1 h2;rcases Nat.lt_trichotomy i j with q|q|q
 ·exact absurd (.inr ⟨e,q⟩) h
 ·exact q
 ·exact absurd (.inr ⟨e.symm,q⟩) g
def Ixs(xs:List ByteArray)(ix:List Nat):Prop:=ix.Perm (List.range xs.length)∧ix.Pairwise (bef xs)
theorem Ixs.len{xs:List ByteArray}{ix:List Nat}(h:Ixs xs ix):ix.length=xs.length:=by rw [h.1.length_eq,List.length_range]
theorem Ixs.lt{xs:List ByteArray}{ix:List Nat}(h:Ixs xs ix){k:Nat}(hk:k<ix.length):ix.getD k 0<xs.length:=by
 have:ix.getD k 0∈List.range xs.length:=h.1.mem_iff.1 (by simp [List.getD,List.getElem?_eq_getElem hk]);simpa using this
theorem Ixs.bef{xs:List ByteArray}{ix:List Nat}(h:Ixs xs ix){a b:Nat}(hab:a<b)(hb:b<ix.length):bef xs (ix.getD a 0) (ix.getD b 0):=by
 have:=List.pairwise_iff_getElem.1 h.2 a b (by omega) hb hab;simpa [List.getD,List.getElem?_eq_getElem hb,List.getElem?_eq_getElem (show a<ix.length by omega)]using this
theorem Ixs.pos{xs:List ByteArray}{ix:List Nat}(h:Ixs xs ix){i:Nat}(hi:i<xs.length):∃k,k<ix.length∧ix.getD k 0=i:=by
 obtain⟨k,hk,e⟩:=List.getElem_of_mem (h.1.mem_iff.2 (List.mem_range.2 hi));exact⟨k,hk,by simp [List.getD,List.getElem?_eq_getElem hk,e]⟩
def dup(xs:List ByteArray)(i:Nat):Prop:=at_ xs i∈xs.take i
theorem dup_iff{xs:List ByteArray}{i:Nat}(hi:i≤xs.length):dup xs i↔∃j,j<i∧at_ xs j=at_ xs i:=by
 unfold dup;rw [List.mem_take_iff_getElem]
 constructor
 ·rintro⟨j,hj,e⟩
  exact⟨j,by omega,by rw [←e];unfold at_;simp [List.getD,List.getElem?_eq_getElem (show j<xs.length by omega)]⟩
 ·rintro⟨j,hj,e⟩
  exact⟨j,by omega,by rw [←e];unfold at_;simp [List.getD,List.getElem?_eq_getElem (show j<xs.length by omega)]⟩
theorem Ixs.dup{xs:List ByteArray}{ix:List Nat}(h:Ixs xs ix){k:Nat}(hk:k<ix.length):dup xs (ix.getD k 0)↔0<k∧at_ xs (ix.getD (k-1) 0)=at_ xs (ix.getD k 0):=by
 rw [dup_iff (Nat.le_of_lt (h.lt hk))]
 constructor
 ·rintro⟨j,hj,e⟩
  obtain⟨m,hm,rfl⟩:=h.pos (Nat.lt_trans hj (h.lt hk));have hb:Nam.bef xs (ix.getD m 0) (ix.getD k 0):=.inr ⟨e,hj⟩
  have hmk:m<k:=by
   rcases Nat.lt_trichotomy m k with q|q|q
   ·exact q
   ·subst q;exact absurd hb (bef_irr _ _)
   ·exact absurd (bef_trans hb (h.bef q hm)) (bef_irr _ _)
  refine⟨by omega,?_⟩;rcases Nat.eq_or_lt_of_le (show m≤k-1 by omega)with q|q
  ·rw [←q,e]
  ·have b1:=h.bef q (show k-1<ix.length by omega)
   have b2:=h.bef (show k-1<k by omega) hk;rcases b2 with b2|b2
   ·rcases b1 with b1|b1
    ·have:=lt_trans b1 b2
     rw [e,lt_irr]at this;cases this
    ·rw [←b1.1,e,lt_irr]at b2;cases b2
   ·exact b2.1
 ·rintro⟨h0,e⟩
  refine⟨_,?_,e⟩;rcases h.bef (show k-1<k by omega) hk with q|q
  ·rw [e,lt_irr]at q;cases q
  ·exact q.2
def Least(xs:List ByteArray)(ix:List Nat)(k m:Nat):Prop:=(∀j,j<k→Nam.dup xs (ix.getD j 0)→m≤ix.getD j 0)∧(m=xs.length∨(m<xs.length∧Nam.dup xs m))
theorem Least.start(xs:List ByteArray)(ix:List Nat):Least xs ix 0 xs.length:=⟨fun j h=>by omega,.inl rfl⟩
theorem Least.skip{xs:List ByteArray}{ix:List Nat}{k m:Nat}(h:Least xs ix k m)(hd:¬Nam.dup xs (ix.getD k 0)):Least xs ix (k+1) m:=by
 refine⟨fun j hj q=>?_,h.2⟩;rcases Nat.eq_or_lt_of_le (Nat.le_of_lt_succ hj)with e|hj
 ·subst e;exact absurd q hd
 ·exact h.1 j hj q
theorem Least.take{xs:List ByteArray}{ix:List Nat}{k m:Nat}(h:Least xs ix k m)(hi:ix.getD k 0<xs.length)(hd:Nam.dup xs (ix.getD k 0)):Least xs ix (k+1) (min m (ix.getD k 0)):=by
 refine⟨fun j hj q=>?_,?_⟩
 ·rcases Nat.eq_or_lt_of_le (Nat.le_of_lt_succ hj)with e|hj
  ·subst e;exact Nat.min_le_right _ _
  ·exact Nat.le_trans (Nat.min_le_left _ _) (h.1 j hj q)
 ·rcases Nat.le_total m (ix.getD k 0)with q|q
  ·rw [Nat.min_eq_left q];exact h.2
  ·rw [Nat.min_eq_right q];exact .inr ⟨hi,hd⟩
theorem Least.fin{xs:List ByteArray}{ix:List Nat}{m:Nat}(hx:Ixs xs ix)(h:Least xs ix ix.length m):m≤xs.length∧twiS xs=if m=xs.length then -1 else(m:Int):=by
 have hall:∀i,i<xs.length→Nam.dup xs i→m≤i:=fun i hi hd=>by
  obtain⟨k,hk,rfl⟩:=hx.pos hi;exact h.1 k hk hd
 rcases h.2 with e|⟨hl,hd⟩
 ·subst e
  refine⟨Nat.le_refl _,?_⟩;rw [if_pos rfl];exact twi_none fun j hj hm=>by have:=hall j hj hm;omega
 ·refine⟨Nat.le_of_lt hl,?_⟩
  rw [if_neg (by omega)];exact twi_is hl hd fun j hj hm=>by have:=hall j (by omega) hm;omega
structure Dist(xs:List ByteArray)(ix:List Nat)(k:Nat)(ds:List ByteArray):Prop where
inc:Inc ds
mem:∀x,x∈ds↔∃j,j<k∧at_ xs (ix.getD j 0)=x
last:(k=0∧ds=[])∨(0<k∧∃c,ds=c++[at_ xs (ix.getD (k-1) 0)])
len:ds.length≤k
theorem Dist.start(xs:List ByteArray)(ix:List Nat):Dist xs ix 0 []:=⟨List.Pairwise.nil,fun x=>by simp,.inl ⟨rfl,rfl⟩,Nat.le_refl _⟩
theorem Dist.skip{xs:List ByteArray}{ix:List Nat}{k:Nat}{ds:List ByteArray}(h:Dist xs ix k ds)(h0:0<k)(e:at_ xs (ix.getD (k-1) 0)=at_ xs (ix.getD k 0)):Dist xs ix (k+1) ds:=by
 refine⟨h.inc,fun x=>?_,.inr ⟨by omega,?_⟩,by have:=h.len;omega⟩
 ·rw [h.mem]
  constructor
  ·rintro⟨j,hj,q⟩;exact⟨j,by omega,q⟩
  ·rintro⟨j,hj,q⟩
   rcases Nat.eq_or_lt_of_le (Nat.le_of_lt_succ hj)with e2|hj
   ·subst e2;exact⟨j-1,by omega,e.trans q⟩
   ·exact⟨j,hj,q⟩
 ·rcases h.last with q|⟨-,c,q⟩
  ·omega
  ·exact⟨c,by rw [q,e,Nat.add_sub_cancel]⟩
theorem Dist.put{xs:List ByteArray}{ix:List Nat}{k:Nat}{ds:List ByteArray}(hx:Ixs xs ix)(hk:k<ix.length)(h:Dist xs ix k ds)(e:¬(0<k∧at_ xs (ix.getD (k-1) 0)=at_ xs (ix.getD k 0))) :
  Dist xs ix (k+1) (ds++[at_ xs (ix.getD k 0)])∧findS xs (at_ xs (ix.getD k 0))=(ix.getD k 0:Nat):=by
 have hlt:∀x∈ds,lt x (at_ xs (ix.getD k 0))=true:=by
  intro x hm;obtain⟨j,hj,rfl⟩:=(h.mem x).1 hm;rcases hx.bef (show k-1<k by omega) hk with q|q
  ·rcases Nat.eq_or_lt_of_le (show j≤k-1 by omega)with e2|hj2
   ·rw [e2];exact q
   ·rcases hx.bef hj2 (show k-1<ix.length by omega)with r|r
    ·exact lt_trans r q
    ·rw [r.1];exact q
  ·exact absurd ⟨by omega,q.1⟩ e
 refine⟨⟨?_,fun x=>?_,.inr ⟨by omega,ds,by rw [Nat.add_sub_cancel]⟩,by have:=h.len;simp;omega⟩,?_⟩
 ·refine List.pairwise_append.2 ⟨h.inc,List.pairwise_singleton _ _,fun a ha b hb=>?_⟩
  rw [List.mem_singleton.1 hb];exact hlt a ha
 ·rw [List.mem_append,h.mem,List.mem_singleton]
  constructor
  ·rintro(⟨j,hj,q⟩|q)
   ·exact⟨j,by omega,q⟩
   ·exact⟨k,by omega,q.symm⟩
  ·rintro⟨j,hj,q⟩
   rcases Nat.eq_or_lt_of_le (Nat.le_of_lt_succ hj)with e2|hj
   ·subst e2;exact .inr q.symm
   ·exact .inl ⟨j,hj,q⟩
 ·have hn:¬Nam.dup xs (ix.getD k 0):=fun q=>e ((hx.dup hk).1 q)
  have hl:=hx.lt hk;refine find_is (at_some hl) fun j hj q=>hn ((dup_iff (Nat.le_of_lt hl)).2 ⟨j,hj,?_⟩)
  unfold at_ at q ⊢;rw [List.getD,q];rfl
theorem Dist.fin{xs:List ByteArray}{ix:List Nat}{ds:List ByteArray}(hx:Ixs xs ix)(h:Dist xs ix ix.length ds):ds=sortS xs:=by
 refine sort_is h.inc fun x=>?_
 rw [h.mem]
 constructor
 ·rintro⟨j,hj,rfl⟩
  exact at_mem (hx.lt hj)
 ·intro hm
  obtain⟨i,hi,e⟩:=List.getElem_of_mem hm;obtain⟨k,hk,rfl⟩:=hx.pos hi;exact⟨k,hk,(at_get hi).trans e⟩
theorem inc_split{ds:List ByteArray}(h:Inc ds)(x:ByteArray):∃k,k≤ds.length∧(∀t,t<k→lt (at_ ds t) x=true)∧(∀t,k≤t→t<ds.length→lt (at_ ds t) x=false):=by
 induction ds with
 | nil=>exact⟨0,Nat.le_refl _,fun t h=>by omega,fun t h g=>by simp at g⟩
 | cons d ds ih =>
  have h':=List.pairwise_cons.1 h;cases e:lt d x
  ·refine⟨0,Nat.zero_le _,fun t h=>by omega,fun t _ ht=>?_⟩
   cases t with
   | zero=>exact e
   | succ t =>
    have hm:at_ (d::ds) (t+1)∈ds:=by unfold at_;simp at ht ⊢;simp [List.getElem?_eq_getElem ht]
    cases e2:lt (at_ (d::ds) (t+1)) x
    ·rfl
    ·rw [lt_trans (h'.1 _ hm) e2]at e;cases e
  ·obtain⟨k,h1,h2,h3⟩:=ih h'.2
   refine⟨k+1,by simp;omega,fun t ht=>?_,fun t h4 h5=>?_⟩
   ·cases t with
    | zero=>exact e
    | succ t=>exact h2 t (by omega)
   ·cases t with
    | zero=>omega
    | succ t=>exact h3 t (by omega) (by simpa using h5)
theorem split_mem{ds:List ByteArray}{x:ByteArray}{k:Nat}(h2:∀t,t<k→lt (at_ ds t) x=true)(h3:∀t,k≤t→t<ds.length→lt (at_ ds t) x=false)(hi:Inc ds):x∈ds↔k<ds.length∧at_ ds k=x:=by
 constructor
 ·intro hm
  obtain⟨t,ht,e⟩:=List.getElem_of_mem hm;have e':at_ ds t=x:=by unfold at_;simp [List.getD,List.getElem?_eq_getElem ht,e]
  have hk:k≤t:=by
   refine Nat.le_of_not_lt fun q=>?_
   have:=h2 t q;rw [e',lt_irr]at this;cases this
  rcases Nat.eq_or_lt_of_le hk with q|q
  ·subst q;exact⟨ht,e'⟩
  ·have h4:=h3 k (Nat.le_refl _) (by omega)
   have h5:=List.pairwise_iff_getElem.1 hi k t (by omega) ht q;have e6:at_ ds k=ds[k]:=by unfold at_;simp [List.getD,List.getElem?_eq_getElem (show k<ds.length by omega)]
   rw [e,←e6,h4]at h5;cases h5
 ·rintro⟨h,rfl⟩;exact at_mem h
theorem Ixs.of_sorted{xs:List ByteArray}{ix:List Nat}(hp:ix.Perm (List.range xs.length))(hs:∀i j,i<j→j<ix.length→¬Nam.bef xs (ix.getD j 0) (ix.getD i 0)):Ixs xs ix:=by
 refine⟨hp,List.pairwise_iff_getElem.2 fun i j hi hj hij=>?_⟩;have h:=hs i j hij hj;simp only[List.getD,List.getElem?_eq_getElem hi,List.getElem?_eq_getElem hj,Option.getD_some]at h;refine Classical.byContradiction fun g=>?_
 have e:=bef_tri g h;have hn:ix.Nodup:=hp.nodup_iff.2 List.nodup_range;exact absurd e (List.pairwise_iff_getElem.1 hn i j hi hj hij)
end Go.Proofs.YtabhkakomececaaGreat.Nam
namespace Go.Proofs.YtabhkakomececaaGreat
open Go.Shelf
def sortInt_ren:Go.Shelf.Ren:=⟨fun|6=>196|15=>252|14=>251|28=>302|29=>303|20=>294|21=>295|22=>296|23=>297|24=>298|25=>299|26=>300|27=>301|46=>333|47=>334|48=>335|49=>336|50=>337|57=>373|n=>n,fun|22=>82|24=>3|25=>171|3=>3|39=>342|0=>0|53=>277|55=>268|4=>4|46=>375|45=>374|50=>103|5=>5|9=>9|66=>396|70=>400|76=>413|77=>86|n=>n,fun|n=>n⟩
theorem sortInt:Go.Proofs.SlLaysF.n6 Tryz.prog sortInt_ren:={
mixed:=by kernel_rfl
f6:=⟨Tryz.f196.name,by decide,Tryz.func196.trans (congrArg some (by kernel_rfl))⟩
f14:=⟨Tryz.f251.name,by decide,Tryz.func251.trans (congrArg some (by kernel_rfl))⟩
f15:=Tryz.func252.trans (congrArg some (by kernel_rfl))
f20:=⟨Tryz.f294.name,by decide,Tryz.func294.trans (congrArg some (by kernel_rfl))⟩
f21:=⟨Tryz.f295.name,by decide,Tryz.func295.trans (congrArg some (by kernel_rfl))⟩
f22:=⟨Tryz.f296.name,by decide,Tryz.func296.trans (congrArg some (by kernel_rfl))⟩
f23:=⟨Tryz.f297.name,by decide,Tryz.func297.trans (congrArg some (by kernel_rfl))⟩
f24:=⟨Tryz.f298.name,by decide,Tryz.func298.trans (congrArg some (by kernel_rfl))⟩
f25:=⟨Tryz.f299.name,by decide,Tryz.func299.trans (congrArg some (by kernel_rfl))⟩
f26:=⟨Tryz.f300.name,by decide,Tryz.func300.trans (congrArg some (by kernel_rfl))⟩
f27:=⟨Tryz.f301.name,by decide,Tryz.func301.trans (congrArg some (by kernel_rfl))⟩
f28:=Tryz.func302.trans (congrArg some (by kernel_rfl))
f29:=Tryz.func303.trans (congrArg some (by kernel_rfl))
f46:=⟨Tryz.f333.name,by decide,Tryz.func333.trans (congrArg some (by kernel_rfl))⟩
f47:=Tryz.func334.trans (congrArg some (by kernel_rfl))
f48:=Tryz.func335.trans (congrArg some (by kernel_rfl))
f49:=⟨Tryz.f336.name,by decide,Tryz.func336.trans (congrArg some (by kernel_rfl))⟩
f50:=⟨Tryz.f337.name,by decide,Tryz.func337.trans (congrArg some (by kernel_rfl))⟩
f57:=⟨Tryz.f373.name,by decide,Tryz.func373.trans (congrArg some (by kernel_rfl))⟩
t0:=Tryz.underlying0
a0:=Tryz.isAgg0
z0:=Tryz.sizeOf0
v0:=Tryz.zeroValue0
t3:=Tryz.underlying3
a3:=Tryz.isAgg3
z3:=Tryz.sizeOf3
v3:=Tryz.zeroValue3
t4:=Tryz.underlying4
a4:=Tryz.isAgg4
z4:=Tryz.sizeOf4
v4:=Tryz.zeroValue4
t5:=Tryz.underlying5
a5:=Tryz.isAgg5
z5:=Tryz.sizeOf5
v5:=Tryz.zeroValue5
t9:=Tryz.underlying9
a9:=Tryz.isAgg9
z9:=Tryz.sizeOf9
v9:=Tryz.zeroValue9
t22:=Tryz.underlying82
a22:=Tryz.isAgg82
z22:=Tryz.sizeOf82
v22:=Tryz.zeroValue82
a24:=Tryz.isAgg3
z24:=Tryz.sizeOf3
t25:=Tryz.underlying171
a25:=Tryz.isAgg171
z25:=Tryz.sizeOf171
v25:=Tryz.zeroValue171
t39:=Tryz.underlying342
a39:=Tryz.isAgg342
z39:=Tryz.sizeOf342
v39:=Tryz.zeroValue342
t45:=Tryz.underlying374
a45:=Tryz.isAgg374
z45:=Tryz.sizeOf374
v45:=Tryz.zeroValue374
t46:=Tryz.underlying375
a46:=Tryz.isAgg375
z46:=Tryz.sizeOf375
v46:=Tryz.zeroValue375
t50:=Tryz.underlying103
a50:=Tryz.isAgg103
z50:=Tryz.sizeOf103
v50:=Tryz.zeroValue103
t53:=Tryz.underlying277
a53:=Tryz.isAgg277
z53:=Tryz.sizeOf277
v53:=Tryz.zeroValue277
t55:=Tryz.underlying268
a55:=Tryz.isAgg268
z55:=Tryz.sizeOf268
v55:=Tryz.zeroValue268
t66:=Tryz.underlying396
a66:=Tryz.isAgg396
z66:=Tryz.sizeOf396
v66:=Tryz.zeroValue396
t70:=Tryz.underlying400
a70:=Tryz.isAgg400
z70:=Tryz.sizeOf400
v70:=Tryz.zeroValue400
t76:=Tryz.underlying413
a76:=Tryz.isAgg413
z76:=Tryz.sizeOf413
v76:=Tryz.zeroValue413
t77:=Tryz.underlying86
a77:=Tryz.isAgg86
z77:=Tryz.sizeOf86
v77:=Tryz.zeroValue86 }
def cloneStr_ren:Go.Shelf.Ren:=⟨fun|41=>72|n=>n,fun|22=>60|23=>9|4=>4|n=>n,fun|n=>n⟩
theorem cloneStr:Go.Proofs.SlLaysE0.n41 Tryz.prog cloneStr_ren:={
mixed:=by kernel_rfl
f41:=⟨Tryz.f72.name,by decide,Tryz.func72.trans (congrArg some (by kernel_rfl))⟩
t4:=Tryz.underlying4
a4:=Tryz.isAgg4
z4:=Tryz.sizeOf4
v4:=Tryz.zeroValue4
t22:=Tryz.underlying60
a22:=Tryz.isAgg60
z22:=Tryz.sizeOf60
v22:=Tryz.zeroValue60 }
def searchStr_ren:Go.Shelf.Ren:=⟨fun|26=>238|33=>284|34=>285|38=>326|n=>n,fun|24=>60|9=>9|3=>3|4=>4|40=>342|0=>0|n=>n,fun|n=>n⟩
theorem searchStr:Go.Proofs.Lays2.n26 Tryz.prog searchStr_ren:={
mixed:=by kernel_rfl
f26:=Tryz.func238.trans (congrArg some (by kernel_rfl))
f33:=Tryz.func284.trans (congrArg some (by kernel_rfl))
f34:=Tryz.func285.trans (congrArg some (by kernel_rfl))
f38:=Tryz.func326.trans (congrArg some (by kernel_rfl))
t0:=Tryz.underlying0
a0:=Tryz.isAgg0
z0:=Tryz.sizeOf0
v0:=Tryz.zeroValue0
t3:=Tryz.underlying3
a3:=Tryz.isAgg3
z3:=Tryz.sizeOf3
v3:=Tryz.zeroValue3
t4:=Tryz.underlying4
a4:=Tryz.isAgg4
z4:=Tryz.sizeOf4
v4:=Tryz.zeroValue4
t9:=Tryz.underlying9
a9:=Tryz.isAgg9
z9:=Tryz.sizeOf9
v9:=Tryz.zeroValue9
t24:=Tryz.underlying60
a24:=Tryz.isAgg60
z24:=Tryz.sizeOf60
v24:=Tryz.zeroValue60
t40:=Tryz.underlying342
a40:=Tryz.isAgg342
z40:=Tryz.sizeOf342
v40:=Tryz.zeroValue342 }
def compStr_ren:Go.Shelf.Ren:=⟨fun|106=>199|213=>253|265=>304|n=>n,fun|9=>9|3=>3|n=>n,fun|n=>n⟩
theorem compStr:Go.Proofs.Lays.n106 Tryz.prog compStr_ren:={
mixed:=by kernel_rfl
f106:=Tryz.func199.trans (congrArg some (by kernel_rfl))
f213:=Tryz.func253.trans (congrArg some (by kernel_rfl))
f265:=Tryz.func304.trans (congrArg some (by kernel_rfl))
t3:=Tryz.underlying3
a3:=Tryz.isAgg3
z3:=Tryz.sizeOf3
v3:=Tryz.zeroValue3
t9:=Tryz.underlying9
a9:=Tryz.isAgg9
z9:=Tryz.sizeOf9
v9:=Tryz.zeroValue9 }
def compInt_ren:Go.Shelf.Ren:=⟨fun|122=>200|215=>254|n=>n,fun|3=>3|4=>4|n=>n,fun|n=>n⟩
theorem compInt:Go.Proofs.Lays.n122 Tryz.prog compInt_ren:={
mixed:=by kernel_rfl
f122:=Tryz.func200.trans (congrArg some (by kernel_rfl))
f215:=Tryz.func254.trans (congrArg some (by kernel_rfl))
t3:=Tryz.underlying3
a3:=Tryz.isAgg3
z3:=Tryz.sizeOf3
v3:=Tryz.zeroValue3
t4:=Tryz.underlying4
a4:=Tryz.isAgg4
z4:=Tryz.sizeOf4
v4:=Tryz.zeroValue4 }
end Go.Proofs.YtabhkakomececaaGreat
namespace Go.Proofs.YtabhkakomececaaGreat.Nam
open Go.RowKit Go.Lib Utf Go.Sort Go.Shelf
theorem strcmp_calls(a b:ByteArray)(w:World)(R:Ending→World→Prop)(hR:Hid (R (.returned (.int .i64 (cmpS a b))) w)):Calls Tryz.prog 199 #[.string a,.string b] w R:=by
 have:=Any.strings_Compare YtabhkakomececaaGreat.compStr a b w
 change Calls Tryz.prog 199 _ _ _ at this
 refine this.mono ?_
 rintro e w' ⟨rfl,rfl⟩
 exact hR.out
theorem intcmp_calls(a b:Int)(w:World)(R:Ending→World→Prop)(hR:Hid (R (.returned (.int .i64 (compareInt a b))) w)):Calls Tryz.prog 200 #[.int .i64 a,.int .i64 b] w R:=by
 have:=Any.cmp_Compare_int YtabhkakomececaaGreat.compInt a b w
 change Calls Tryz.prog 200 _ _ _ at this
 refine this.mono ?_
 rintro e w' ⟨rfl,rfl⟩
 exact hR.out
theorem or_calls(a c:Int)(b:Nat)(w:World)(h0:w.cell? ⟨b,0,none⟩=some (.int .i64 a))(h1:w.cell? ⟨b,1,none⟩=some (.int .i64 c))(R:Ending→World→Prop)
  (V:Int) (hV:(if a=0 then c else a)=V) (hR:Hid (R (.returned (.int .i64 V)) w)):Calls Tryz.prog 198 #[.slice (some ⟨b,0,none⟩) 2 2] w R:=by
 rw [←hV]at hR;clear hV;go_enter Tryz.func198,Tryz.ntmps198
 go_wp2_with fail
 go_loopg [8] 2 (fun k i wr=>∃(K:Nat),wr=w∧i=.int .i64 K∧K+k=2∧(0<K→a=0)∧(1<K→c=0))
 case atStart=>exact⟨0,rfl,rfl,rfl,fun h=>by omega,fun h=>by omega⟩
 case round =>
  obtain⟨K,rfl,rfl,c1,c2,c3⟩:=hrel;obtain rfl|rfl|rfl:K=0∨K=1∨K=2:=by omega
  ·clear c2 c3
   by_cases h:a=0
   ·subst h
    rw [if_pos rfl]at hR;go_wp2_with fail
    go_roundg 1
    case measure=>omega
    case rel=>exact⟨1,rfl,rfl,rfl,fun _=>by first|rfl|trivial,fun h=>by omega⟩
   ·rw [if_neg h]at hR
    have hb:(a==0)=false:=by simpa using h
    have hn:(a != 0)=true:=by simpa using h
    go_wp2_with fail
    exact hR.out
  ·have h:=c2 (by omega)
   subst h;rw [if_pos rfl]at hR;clear c2 c3
   by_cases h:c=0
   ·subst h
    go_wp2_with fail
    go_roundg 0
    case measure=>omega
    case rel=>exact⟨2,rfl,rfl,rfl,fun _=>by first|rfl|trivial,fun _=>by first|rfl|trivial⟩
   ·have hb:(c==0)=false:=by simpa using h
    have hn:(c != 0)=true:=by simpa using h
    go_wp2_with fail
    exact hR.out
  ·have h:=c2 (by omega)
   have g:=c3 (by omega);subst h g;rw [if_pos rfl]at hR;clear c2 c3;go_wp2_with fail
   exact hR.out
theorem less_calls(xs:List ByteArray)(lv:Value)(p i j:Nat)(w:World)(hi:i<xs.length)(hj:j<xs.length)(hx:RdS w lv xs)(hp:w.cell? ⟨p,0,none⟩=some lv) :
  Calls Tryz.prog 197 #[.int .i64 i,.int .i64 j,.pointer (some ⟨p,0,none⟩)] w fun e w'=>e=.returned (.int .i64 (cmpI xs i j))∧∃q os',w'=grow (w.drewN q) os':=by
 obtain⟨A,c,rfl,hlc,hr⟩:=hx.open;obtain⟨g,o,rfl,hg,hca⟩:=hr (by omega);have hpl:p<w.heap.size:=World.block_lt_of_cell? w (a:=⟨p,0,none⟩) hp;have e0:=hca i hi;have e1:=hca j hj;clear hca hr hx;obtain⟨V,hV⟩:∃V,cmpI xs i j=V:=⟨_,rfl⟩;rw [hV];unfold cmpI at_ at hV;generalize xs.getD i ByteArray.empty=a at *;generalize xs.getD j ByteArray.empty=b at *;generalize hP:(fun(e:Ending) w'=>e=.returned (.int .i64 V)∧∃q os',w'=grow (w.drewN q) os')=P;have hP':∀os',P (.returned (.int .i64 V)) (grow w.drew os'):=fun os'=>by subst hP;exact⟨rfl,1,os',rfl⟩
 replace hP':=Lib.hid hP';clear hP;have hI:(i:Int)<xs.length:=by omega
 have hJ:(j:Int)<xs.length:=by omega
 generalize hm:cmpS a b=m at *;generalize hn:compareInt i j=n at *;replace hV:=Lib.hid hV;have cS:=fun W R hR=>strcmp_calls a b W R hR
 rw [hm]at cS;have cC:=fun W R hR=>intcmp_calls i j W R hR
 rw [hn]at cC;replace cS:=Lib.hid cS;replace cC:=Lib.hid cC;clear hm hn;go_enter Tryz.func197,Tryz.ntmps197
 go_wp2_with fail
 go_region_held3 (fun w'=>w'.cell? ⟨p,0,none⟩=some (.slice (some ⟨g,o,none⟩) xs.length c)∧w'.cell? ⟨g,o+i,none⟩=some (.string a)∧w'.cell? ⟨g,o+j,none⟩=some (.string b))
  (first|exact⟨hp,e0,e1⟩|exact⟨alloc_keep hpl hp,alloc_keep hg e0,alloc_keep hg e1⟩|trace_state)
  (first
   | (go_at_call 199;refine cS.out _ _ (Lib.hid ?_))
   | (go_at_call 200;refine cC.out _ _ (Lib.hid ?_))
   | (go_at_call 198;refine or_calls m n _ _ (by exact(cell_of_row _ _ 0 _ _ (0,0) (heap_alloc_last _ _)).trans rfl) (by exact(cell_of_row _ _ 1 _ _ (0,0) (heap_alloc_last _ _)).trans rfl) _ V hV.out (Lib.hid ?_)))
 all_goals
  go_wp2_with fail
  rw [alloc_eq_grow];exact hP'.out _
end Go.Proofs.YtabhkakomececaaGreat.Nam
namespace Go.Proofs.YtabhkakomececaaGreat.Nam
open Go.RowKit Go.Lib Utf
def iv(ix:List Nat):List Value:=ix.map fun i=>.int .i64 (i:Nat)
theorem iv_len(l:List Nat):(iv l).length=l.length:=by simp [iv]
theorem iv_get(l:List Nat)(k:Nat)(h:k<l.length):(iv l)[k]?=some (.int .i64 (l.getD k 0:Nat)):=by simp [iv,List.getD,List.getElem?_eq_getElem h]
def RdI(w:World)(v:Value)(l:List Nat):Prop:=RdAt w v 1 (iv l)
theorem RdI.open{w:World}{v:Value}{l:List Nat}(h:RdI w v l):∃(A:Option Addr)(c:Nat),v=.slice A l.length c∧l.length≤c ∧
  (0<l.length→∃g o,A=some ⟨g,o,none⟩∧g<w.heap.size∧∀k,k<l.length→w.cell? ⟨g,o+k,none⟩=some (.int .i64 (l.getD k 0:Nat))):=by
 obtain⟨A,n,c,rfl,hl,hn,hc⟩:=h;rw [iv_len]at hl;obtain rfl:n=l.length:=by omega
 refine⟨A,c,rfl,hn,fun h0=>?_⟩;obtain⟨g,o,rfl,hg,hc⟩:=hc (by rw [iv_len];omega)
 exact⟨g,o,rfl,hg,fun k hk=>hc _ _ (iv_get l k hk)⟩
theorem RdI.none0(w:World)(A:Option Addr)(c:Nat):RdI w (.slice A 0 c) []:=⟨A,0,c,rfl,rfl,Nat.zero_le _,fun h=>absurd h (by simp [iv])⟩
theorem cell_new1(W:World)(v:Value)(T:TypeId):(W.alloc (.cells #[v] T)).cell? ⟨W.heap.size,0,none⟩=some v:=by rw [World.cell?_alloc_new];rfl
theorem infoInt:(Tryz.prog.info? 3).map (fun i=>(i.zero,i.size,i.bytes))=some (some (.int .i64 0),1,8):=by kernel_rfl
end Go.Proofs.YtabhkakomececaaGreat.Nam
namespace Go.Proofs.YtabhkakomececaaGreat.Nam
open Go.RowKit Go.Lib Utf Go.Sort Go.Shelf
def encF{n:Nat}(x:Fin n):Value:=.int .i64 (x.1:Nat)
theorem ltF(xs:List ByteArray)(x y:Fin xs.length):ltOf (fun x y:Fin xs.length=>cmpI xs x.1 y.1) x y=true↔bef xs x.1 y.1:=by
 unfold ltOf;rw [decide_eq_true_iff,cmpI_lt]
theorem ltF_f(xs:List ByteArray)(x y:Fin xs.length):ltOf (fun x y:Fin xs.length=>cmpI xs x.1 y.1) x y=false↔¬bef xs x.1 y.1:=by
 rw [←ltF,Bool.not_eq_true]
theorem swoF(xs:List ByteArray) [Inhabited (Fin xs.length)]:SWO (ltOf fun x y:Fin xs.length=>cmpI xs x.1 y.1) where
irrefl x:=by rw [ltF_f];exact bef_irr _ _
trans x y z h1 h2:=by rw [ltF]at *;exact bef_trans h1 h2
ntrans x y z h1 h2:=by
 rw [ltF_f]at *;intro h
 by_cases g:bef xs y.1 x.1
 ·exact h2 (bef_trans g h)
 ·have e:=bef_tri h1 g
  rw [e]at h;exact h2 h
theorem getF{n:Nat} [Inhabited (Fin n)]{d:Array (Fin n)}{k:Nat}(h:k<d.size):(d.toList.map (·.1)).getD k 0=(d[k]!).1:=by
 simp [List.getD,h,getElem!_pos]
theorem sort_calls(xs:List ByteArray)(lv v:Value)(p B:Nat)(W1 w:World)(hB:W1.heap.size=B)(h0:xs.length≤1000000)(hx:RdS W1 lv xs)(hp:W1.cell? ⟨p,0,none⟩=some lv)(hpl:p<W1.heap.size)(hb:RowKit.Below B W1 w)
  (hown:w.ownsRow B 3 1 v xs.length (iv (List.range xs.length))) (R:Ending→World→Prop)
  (hR:Hid (∀ix w',Ixs xs ix→RdI w' v ix→RowKit.Below B W1 w'→R (.returned (.tuple #[])) w')) :
  Calls Tryz.prog 196 #[v,.func (.func 197) #[] #[.pointer (some ⟨p,0,none⟩)]] w R:=by
 subst hB;rcases Nat.eq_zero_or_pos xs.length with hz|hz
 ·obtain rfl:=List.eq_nil_of_length_eq_zero hz
  obtain⟨hv,-⟩:=own_nil hown;have hv2:∃A c,v=.slice A 0 c:=by rcases hv with rfl|⟨g,c,rfl⟩ <;> exact⟨_,_,rfl⟩
  obtain⟨A,c,rfl⟩:=hv2;have:=AnyF.slices_SortFunc_none (P:=Tryz.prog) { YtabhkakomececaaGreat.sortInt with } A c (.func (.func 197) #[] #[.pointer (some ⟨p,0,none⟩)]) w
  change Calls Tryz.prog 196 _ _ _ at this
  refine this.mono ?_
  rintro e w' ⟨rfl,rfl⟩
  exact hR.out [] _ ⟨List.Perm.refl _,List.Pairwise.nil⟩ (RdI.none0 _ _ _) hb
 ·obtain⟨g,cap,rfl,hg1,hg2,hcap,hcells⟩:=own_at hown hz
  haveI:Inhabited (Fin xs.length):=⟨⟨0,hz⟩⟩;have hd:(List.finRange xs.length).toArray.size=xs.length:=by simp
  have hH:Holds encF w g 0 (List.finRange xs.length).toArray:=by
   intro j hj;rw [hd]at hj;refine⟨?_,by rw [Nat.zero_add];exact World.ownsRow.frozenAt hown j⟩
   rw [Nat.zero_add,hcells j (by omega),iv_get _ _ (by simpa using hj)];simp [encF,List.getD,hj,getElem!_pos]
  have eg:∀args w,(callFunc 197 args).run Tryz.prog w=.ok (.enter 197 args) w:=enters_of Tryz.func197 (by kernel_rfl) rfl
  have hbs:∀m (dk:Array (Fin xs.length)) os,RowKit.Below W1.heap.size W1 (sortWorld encF w g 0 m dk os):=fun m dk os=>by
   unfold sortWorld;have h1:=Lib.below_putRow (enc:=encF) (B:=W1.heap.size) (w0:=W1) (w:=w) (g:=g) (q:=m) (d:=dk) hb hg1;exact h1.trans (Lib.below_grow W1.heap.size _ h1.size 0 os)
  have:=Any.slices_SortFunc YtabhkakomececaaGreat.sortInt encF (fun _=>rfl) (fun x y:Fin xs.length=>cmpI xs x.1 y.1) (swoF xs) 197 #[.pointer (some ⟨p,0,none⟩)] g 0 cap (List.finRange xs.length).toArray w eg
   (fun m os dk _ x y=>less_calls xs lv p x.1 y.1 _ x.2 y.2 (hx.below (hbs m dk os)) (((hbs m dk os).cell (p:=⟨p,0,none⟩) hpl).trans hp)) hH hg2 (by rw [hd];omega)
  change Calls Tryz.prog 196 _ _ _ at this
  rw [hd]at this;refine this.mono ?_
  rintro e w' ⟨rfl,d',n,os,hpm,hs,rfl⟩
  have hsz:d'.size=xs.length:=by rw [hpm.1,hd]
  have hperm:d'.toList.Perm (List.finRange xs.length):=by
   have:=hpm.2.2
   have e1:(d'.extract 0 xs.length).toList=d'.toList:=by
    have h:=Array.extract_size (xs:=d');rw [hsz]at h;rw [h]
   have e2:((List.finRange xs.length).toArray.extract 0 xs.length).toList=List.finRange xs.length:=by
    have:(List.finRange xs.length).toArray.extract 0 (List.finRange xs.length).toArray.size=(List.finRange xs.length).toArray:=Array.extract_size;rw [hd]at this;rw [this]
   rw [e1,e2]at this;exact this
  refine hR.out (d'.toList.map (·.1)) _ ?_ ?_ (hbs _ _ _)
  ·refine Ixs.of_sorted ?_ fun i j hij hj=>?_
   ·have:=hperm.map (fun x:Fin xs.length=>x.1)
    rwa [show(List.finRange xs.length).map (fun x:Fin xs.length=>x.1)=List.range xs.length from List.ext_getElem (by simp) fun i h1 h2=>by simp]at this
   ·have hj':j<d'.size:=by simpa using hj
    rw [getF hj',getF (show i<d'.size by omega)];exact(ltF_f xs _ _).1 (hs i j (Nat.zero_le _) hij (by omega))
  ·have h1:=holds_sortWorld encF w g 0 n (List.finRange xs.length).toArray d' os hg2 hH (by rw [hsz,hd])
   have h2:=lt_sortWorld encF w g 0 n d' os hg2;refine⟨_,xs.length,cap,rfl,by rw [iv_len];simp [hsz],hcap,fun _=>⟨g,0,rfl,h2,fun j u hj=>?_⟩⟩;have hj2:j<d'.size:=by have:=(List.getElem?_eq_some_iff.1 hj).1;rw [iv_len]at this;simpa using this
   rw [(h1 j hj2).1,←hj,iv_get _ _ (by simpa using hj2),getF hj2];rfl
theorem mk_int(n:Nat)(hn:n≤1000000):∃M:Array Value,M.size=n ∧
  ∀w,(Instr.makeSlice 82 (.int .i64 n) (.int .i64 n)).run Tryz.prog w=.ok (.slice (some ⟨w.heap.size,0,none⟩) n n) (w.alloc (.cells M 3)):=by
 obtain⟨i0,hi,hz0,hz1,hz2⟩:=info_parts infoInt;refine⟨madeCells (#[.int .i64 0]) (n*1),by rw [size_madeCells,Nat.mul_one],fun w=>?_⟩;have:=run_make (P:=Tryz.prog) w 82 3 i0 _ Tryz.underlying82 hi hz0 .i64 .i64 n n (by omega) (Int.le_refl _) (by rw [hz2];omega) (by omega)
 rw [hz1]at this;exact this
def Fill(k:Nat)(zs:List Value):Prop:=∀j,j<k→zs[j]?=some (.int .i64 (j:Nat))
theorem Fill.put{k:Nat}{zs:List Value}(h:Fill k zs)(hk:k<zs.length):Fill (k+1) (zs.set k (.int .i64 (k:Nat))):=fun j hj=>by
 rcases Nat.eq_or_lt_of_le (Nat.le_of_lt_succ hj)with e|hj
 ·subst e;simp [hk]
 ·rw [List.getElem?_set_ne (by omega)];exact h j hj
theorem Fill.fin{zs:List Value}(h:Fill zs.length zs):zs=iv (List.range zs.length):=by
 refine List.ext_getElem? fun j=>?_
 by_cases hj:j<zs.length
 ·rw [h j hj,iv_get _ _ (by simpa using hj)];simp [List.getD,hj]
 ·rw [List.getElem?_eq_none (by omega),List.getElem?_eq_none (by rw [iv_len];simp;omega)]
theorem sorted_calls(xs:List ByteArray)(lv:Value)(w:World)(h0:xs.length≤1000000)(hx:RdS w lv xs)(R:Ending→World→Prop)
  (hR:Hid (∀ix v w',Ixs xs ix→RdI w' v ix→(∀g o n c,v=.slice (some ⟨g,o,none⟩) n c→w.heap.size≤g)→RowKit.Below w.heap.size w w'→R (.returned v) w')):Calls Tryz.prog 131 #[lv] w R:=by
 obtain⟨A,c,rfl,hlc,-⟩:=hx.open;obtain⟨M,hM,hmk⟩:=mk_int xs.length (by omega);have hmf:∀(fn:Fn) (first cap:Array Value) (w:World),(Instr.makeFunc fn first cap).run Tryz.prog w=.ok (.func fn first cap) w:=fun _ _ _ _=>rfl
 have b1:=(RowKit.Below.refl w.heap.size w).alloc (Nat.le_refl _) (.cells #[.slice A xs.length c] 60);have hx1:=hx.below b1;have k1:=cell_new1 w (.slice A xs.length c) 60;have z1:(w.alloc (.cells #[.slice A xs.length c] 60)).heap.size=w.heap.size+1:=by simp
 clear hx;replace hx1:=Lib.hid hx1;go_enter Tryz.func131,Tryz.ntmps131
 go_wp2_with fail
 generalize w.alloc (.cells #[.slice A xs.length c] 60)=W1 at *
 have hown:(W1.alloc (.cells M 3)).ownsRow (w.heap.size+1) 3 1 (.slice (some ⟨(w.heap.size+1),0,none⟩) xs.length xs.length) xs.length M.toList :=
  ⟨by simp [hM],.inr ⟨w.heap.size+1,xs.length,M,rfl,Nat.le_refl _,by rw [←z1];exact heap_alloc_new W1 _,Nat.le_refl _,by unfold maxLen;omega,by simp [hM],by rw [Nat.mul_one];exact List.take_of_length_le (by simp [hM])⟩⟩
 have b2:=(RowKit.Below.refl (w.heap.size+1) W1).alloc (Nat.le_of_eq z1.symm) (.cells M 3);replace b1:=Lib.hid b1;go_loopg [10] xs.length (fun k i wr=>∃(K:Nat) (zs:List Value),RowKit.Below (w.heap.size+1) W1 wr∧i=.int .i64 K∧K+k=xs.length∧Hid (Fill K zs)∧wr.ownsRow (w.heap.size+1) 3 1 (.slice (some ⟨(w.heap.size+1),0,none⟩) xs.length xs.length) xs.length zs)
 case atStart=>exact⟨0,_,b2,rfl,by omega,Lib.hid fun j h=>by omega,hown⟩
 case round =>
  obtain⟨K,zs,hbel,rfl,c1,c2,hown⟩:=hrel;have hl:zs.length=xs.length:=by have:=hown.1;omega
  by_cases hK:K<xs.length
  ·have e1:=(World.ownsRow.cellAt hown K (by omega)).trans (List.getElem?_eq_getElem (by omega))
   have e2:=World.ownsRow.frozenAt hown K;have e3:=(World.ownsRow.stored hown K (.int .i64 (K:Nat))).1;have e4:=Lib.hid (c2.out.put (by omega));have e5:=hbel.setCell (p:=⟨(w.heap.size+1),K,none⟩) (Nat.le_refl _) (.int .i64 (K:Nat));replace e3:=Lib.hid e3;replace e5:=Lib.hid e5;clear c2 hown;go_wp2_with fail
   go_roundg (gk-1)
   case measure=>omega
   case rel=>exact⟨K+1,_,e5.out,by go_num,by omega,e4,e3.out⟩
  ·obtain rfl:K=xs.length:=by omega
   have e:=c2.out;rw [←hl]at e;rw [e.fin,hl]at hown;clear c2 e;replace hown:=Lib.hid hown;go_wp2_with fail
   go_loud (refine sort_calls xs _ _ w.heap.size (w.heap.size+1) W1 _ z1 h0 hx1.out k1 (by omega) hbel hown.out _ (Lib.hid fun ix w2 i1 i2 i3=>?_));have n3:=Lib.hid (b1.out.trans (i3.mono (Nat.le_succ _)))
   replace i1:=Lib.hid i1;replace i2:=Lib.hid i2;clear i3;go_wp2_with fail
   exact hR.out ix (.slice (some ⟨w.heap.size+1,0,none⟩) xs.length xs.length) _ i1.out i2.out (fun g o n c e=>by simp only[Value.slice.injEq,Option.some.injEq,Addr.mk.injEq]at e;have:=e.1.1;omega) n3.out
end Go.Proofs.YtabhkakomececaaGreat.Nam
namespace Go.Proofs.YtabhkakomececaaGreat.Nam
open Go.RowKit Go.Lib Utf
theorem twice_calls(xs:List ByteArray)(lv:Value)(w:World)(h0:xs.length≤1000000)(hx:RdS w lv xs)(R:Ending→World→Prop)
  (hR:Hid (∀w',Below w.heap.size w w'→R (.returned (.int .i64 (twiS xs))) w')):Calls Tryz.prog 129 #[lv] w R:=by
 obtain⟨A,c,rfl,hlc,-⟩:=hx.open;have hx0:=Lib.hid hx;clear hx;go_enter Tryz.func129,Tryz.ntmps129
 go_wp2_with fail
 refine sorted_calls xs _ _ h0 hx0.out _ (Lib.hid fun ix v1 w1 i1 i2 _ n1=>?_);obtain⟨A1,c1,rfl,hl1,hr1⟩:=i2.open;obtain⟨A2,c2,e2,-,hr2⟩:=(hx0.out.below n1).open;simp only[Value.slice.injEq]at e2;obtain⟨rfl,-,rfl⟩:=e2;have hlen:=i1.len;replace hr1:=Lib.hid hr1;replace hr2:=Lib.hid hr2;replace i1:=Lib.hid i1;replace n1:=Lib.hid n1;clear i2;go_wp2_with fail
 go_loopg [3,13] ix.length (fun k l i wr=>∃(K m nq:Nat),wr=w1.drewN nq∧l=.int .i64 m∧i=.int .i64 K∧K+k=ix.length∧m≤xs.length∧Hid (Least xs ix K m))
 case atStart=>exact⟨0,xs.length,0,rfl,rfl,rfl,by omega,Nat.le_refl _,Lib.hid (Least.start xs ix)⟩
 case round =>
  obtain⟨K,m,nq,rfl,rfl,rfl,d1,d2,d3⟩:=hrel
  by_cases hK:K<ix.length
  ·have hi:=i1.out.lt hK
   have hd:=i1.out.dup hK;obtain⟨g,o,rfl,hg,hca⟩:=hr1.out (by omega);obtain⟨g2,o2,rfl,hg2,hca2⟩:=hr2.out (by omega);have f1:=hca K hK;have f2:=hca2 _ hi;have q1:¬dup xs (ix.getD K 0)→Least xs ix (K+1) m:=fun h=>d3.out.skip h
   have q2:dup xs (ix.getD K 0)→Least xs ix (K+1) (min m (ix.getD K 0)):=fun h=>d3.out.take hi h
   rw [show xs.getD (ix.getD K 0) ByteArray.empty=at_ xs (ix.getD K 0)from rfl]at f2;rcases Nat.eq_zero_or_pos K with hz|hz
   ·subst hz
    have q:=Lib.hid (q1 (fun h=>by have:=(hd.1 h).1;omega))
    rw [Nat.add_zero]at f1;clear hd q1 q2 hca hca2 d3;generalize at_ xs (ix.getD 0 0)=s at *;generalize ix.getD 0 0=i at *;go_wp2_with fail
    go_quiet (fail);go_wp2_with fail
    go_roundg (gk-1)
    case measure=>omega
    case rel=>exact⟨1,m,_,rfl,rfl,rfl,by omega,d2,q⟩
   ·obtain⟨J,rfl⟩:∃J,K=J+1:=⟨K-1,by omega⟩
    rw [Nat.add_sub_cancel]at hd;have hj:=i1.out.lt (show J<ix.length by omega);have f3:=hca J (by omega);have f4:=hca2 _ hj;rw [show xs.getD (ix.getD J 0) ByteArray.empty=at_ xs (ix.getD J 0)from rfl]at f4;have hm1:((J+1:Nat):Int)-1=(J:Int):=by omega
    clear hca hca2 d3;generalize at_ xs (ix.getD (J+1) 0)=s at *;generalize at_ xs (ix.getD J 0)=s' at *;generalize ix.getD (J+1) 0=i at *;generalize ix.getD J 0=i' at *
    by_cases hs:s'=s
    ·have q:=Lib.hid (q2 (hd.2 ⟨hz,hs⟩))
     have hq:=seq_t hs;clear hd q1 q2 hs
     by_cases hm:i<m
     ·rw [Nat.min_eq_right (Nat.le_of_lt hm)]at q
      have hmn:min (m:Int) (i:Int)=(i:Int):=by omega
      go_wp2_with fail
      go_quiet (fail);go_wp2_with fail
      go_roundg (gk-1)
      case measure=>omega
      case rel=>exact⟨J+1+1,i,_,rfl,rfl,by go_num,by omega,Nat.le_of_lt hi,q⟩
     ·rw [Nat.min_eq_left (by omega)]at q
      have hmn:min (m:Int) (i:Int)=(m:Int):=by omega
      go_wp2_with fail
      go_quiet (fail);go_wp2_with fail
      go_roundg (gk-1)
      case measure=>omega
      case rel=>exact⟨J+1+1,m,_,rfl,rfl,by go_num,by omega,d2,q⟩
    ·have q:=Lib.hid (q1 (fun h=>hs (hd.1 h).2))
     have hq:=seq_f hs;clear hd q1 q2 hs;go_wp2_with fail
     go_quiet (fail);go_wp2_with fail
     go_roundg (gk-1)
     case measure=>omega
     case rel=>exact⟨J+1+1,m,_,rfl,rfl,by go_num,by omega,d2,q⟩
  ·obtain rfl:K=ix.length:=by omega
   have e:=(d3.out.fin i1.out).2;rw [e]at hR;clear d3 e
   by_cases hm:m=xs.length
   ·rw [if_pos hm]at hR
    subst hm;go_wp2_with fail
    exact hR.out _ (below_drewN n1.out _)
   ·rw [if_neg hm]at hR
    have hb:((m:Int)==(xs.length:Int))=false:=by simp;omega
    go_wp2_with fail
    exact hR.out _ (below_drewN n1.out _)
theorem infoStr:(Tryz.prog.info? 9).map (fun i=>(i.zero,i.size,i.bytes))=some (some (.string ByteArray.empty),1,16):=by kernel_rfl
theorem sv_at(A B:List ByteArray)(x:ByteArray):(sv (A++x::B))[A.length]?=some (.string x):=by simp [sv]
end Go.Proofs.YtabhkakomececaaGreat.Nam
