import Derived.Test.YtabhkakomececaaGreatQ4
import Derived.Laws.BitsAllLaws
import Derived.Laws.Shifts
import Derived.Great.BuildSlice
import Derived.StillTailTactics
import Derived.WalkMore
import Derived.ScopeJumps
set_option linter.all false
set_option maxRecDepth 100000
set_option maxHeartbeats 4000000
namespace Go.Proofs.YtabhkakomececaaGreat
namespace Rel
def Wd(x:Nat):Prop:=x<18446744073709551616
theorem wd_pow{x:Nat}:Wd x↔x<2 ^ 64:=by unfold Wd;rw [show(2:Nat) ^ 64=18446744073709551616 from by decide]
def bitN(a:Nat):Nat:=2 ^ a
theorem bit_wd{a:Nat}(h:a<64):Wd (bitN a):=wd_pow.2 (Nat.pow_lt_pow_right (by decide) h)
theorem bit_pos(a:Nat):0<bitN a:=Nat.two_pow_pos a
theorem zero_wd:Wd 0:=by unfold Wd;omega
theorem or_wd{x y:Nat}(hx:Wd x)(hy:Wd y):Wd (x|||y):=wd_pow.2 (Nat.or_lt_two_pow (wd_pow.1 hx) (wd_pow.1 hy))
theorem bits_or {x y:Nat} (hx:Wd x) (hy:Wd y):bits .or .u64 (x:Int) (y:Int)=((x|||y:Nat):Int):=u64_or_nat x y hx hy
theorem bits_and {x y:Nat} (hx:Wd x) (hy:Wd y):bits .and .u64 (x:Int) (y:Int)=((x&&&y:Nat):Int):=u64_and_nat x y hx hy
def less(x y:Nat):Nat:=x&&&(18446744073709551615-y)
theorem bits_less {x y:Nat} (hx:Wd x) (hy:Wd y):bits .andNot .u64 (x:Int) (y:Int)=((less x y:Nat):Int):=u64_andNot_nat x y hx hy
theorem wd_bit{x i:Nat}(hx:Wd x)(h:x.testBit i=true):i<64:=by
 refine Nat.lt_of_not_le fun q=>?_
 have:x<2 ^ i:=Nat.lt_of_lt_of_le (wd_pow.1 hx) (Nat.pow_le_pow_right (by decide) q);rw [Nat.testBit_lt_two_pow this]at h;cases h
theorem less_bit{x y i:Nat}(hx:Wd x)(hy:Wd y):(less x y).testBit i=(x.testBit i && !y.testBit i):=by
 unfold less;rw [Nat.testBit_and];cases h:x.testBit i
 ·rfl
 ·have hi:=wd_bit hx h
  have e:18446744073709551615-y=2 ^ 64-(y+1):=by unfold Wd at hy;omega
  rw [e,Nat.testBit_two_pow_sub_succ (wd_pow.1 hy),decide_eq_true hi,Bool.true_and]
theorem zero_iff{x:Nat}:x=0↔∀i,x.testBit i=false:=by
 constructor
 ·rintro rfl i;exact Nat.zero_testBit i
 ·intro h;exact Nat.eq_of_testBit_eq fun i=>by rw [h i,Nat.zero_testBit]
theorem less_zero{x y:Nat}(hx:Wd x)(hy:Wd y):less x y=0↔∀i,x.testBit i=true→y.testBit i=true:=by
 rw [zero_iff]
 constructor
 ·intro h i hi
  have:=h i;rw [less_bit hx hy,hi]at this;simpa using this
 ·intro h i
  rw [less_bit hx hy];cases e:x.testBit i
  ·rfl
  ·rw [h i e];rfl
theorem bitN_bit(a i:Nat):(bitN a).testBit i=decide (a=i):=by unfold bitN;rw [Nat.testBit_two_pow]
theorem or_bit(x a i:Nat):(x|||bitN a).testBit i=(x.testBit i||decide (a=i)):=by rw [Nat.testBit_or,bitN_bit]
theorem and_bit(x a:Nat):x&&&bitN a=if x.testBit a then bitN a else 0:=by
 apply Nat.eq_of_testBit_eq
 intro i;rw [Nat.testBit_and,bitN_bit]
 by_cases h:a=i
 ·subst h
  cases hx:x.testBit a
  ·simp
  ·simp [bitN_bit]
 ·cases hx:x.testBit a<;>simp [h,bitN_bit]
theorem or_lt{x y:Nat}(hx:Wd x)(hy:Wd y)(h:less y x≠0):x<x|||y:=by
 refine Nat.lt_of_le_of_ne Nat.left_le_or fun e=>h ((less_zero hy hx).2 fun i hi=>?_)
 rw [e,Nat.testBit_or,hi,Bool.or_true]
def Rows(P:List (Nat×Nat))(f:Nat→Nat):Prop:=∀a,a<64→Wd (f a)∧∀b,(f a).testBit b=decide ((a,b)∈P)
def Way(P:List (Nat×Nat))(a x:Nat):Prop:=Wd x∧x.testBit a=true∧∀i,x.testBit i=true→Lead P a i
theorem Way.one{P:List (Nat×Nat)}{a:Nat}(h:a<64):Way P a (bitN a):=⟨bit_wd h,by rw [bitN_bit];simp,fun i hi=>by
rw [bitN_bit,decide_eq_true_iff]at hi;subst hi;exact .refl _⟩
theorem Way.put{P:List (Nat×Nat)}{f:Nat→Nat}{a b x:Nat}(hf:Rows P f)(h:Way P a x)(hb:b<64)(hx:x.testBit b=true):Way P a (x|||f b):=by
 obtain⟨h1,h2,h3⟩:=h;obtain⟨g1,g2⟩:=hf b hb;refine⟨or_wd h1 g1,by rw [Nat.testBit_or,h2];rfl,fun i hi=>?_⟩
 rw [Nat.testBit_or,Bool.or_eq_true,g2,decide_eq_true_iff]at hi;rcases hi with hi|hi
 ·exact h3 i hi
 ·exact .step (h3 b hx) hi
theorem Way.fin{n:Nat}{P:List (Nat×Nat)}{f:Nat→Nat}{a x:Nat}(hP:InR n P)(hn:n≤64)(hf:Rows P f)(ha:a<n)(h:Way P a x)(hc:∀b,b<n→x.testBit b=true→less (f b) x=0)(i:Nat):x.testBit i=ld n P a i:=by
 obtain⟨h1,h2,h3⟩:=h
 have key:x.testBit i=true↔Lead P a i:=by
  refine⟨h3 i,fun hl=>?_⟩
  induction hl with
  | refl=>exact h2
  | @step b c hl hp ih =>
   have hb:b<n:=(hP _ hp).1;obtain⟨g1,g2⟩:=hf b (by omega);exact(less_zero g1 h1).1 (hc b hb ih) c (by rw [g2];exact decide_eq_true hp)
 rw [Bool.eq_iff_iff,key,ld_iff hP ha]
def dir(P:List (Nat×Nat))(a b:Nat):Bool:=decide ((a,b)∈P)
def Placed(o:List Nat)(x:Nat):Prop:=Wd x∧∀i,x.testBit i=o.contains i
def Col(P:List (Nat×Nat))(a K x:Nat):Prop:=Wd x∧∀i,x.testBit i=(decide (i<K)&&(!(i==a)&&dir P i a))
end Rel
namespace Rel
open Go.RowKit Go.Lib
def RelP(w:World)(v:Value)(n:Nat)(P:List (Nat×Nat)):Prop :=
∃(p:Nat) (f:Nat→Nat),v=.pointer (some ⟨p,0,none⟩)∧p<w.heap.size∧w.cell? ⟨p,0,none⟩=some (.int .i64 n)∧(∀a,a<64→w.cell? ⟨p,1+a,none⟩=some (.int .u64 (f a:Nat)))∧Rows P f
theorem RelP.below{w w':World}{v:Value}{n:Nat}{P:List (Nat×Nat)}(h:RelP w v n P)(hb:Below w.heap.size w w'):RelP w' v n P:=by
 obtain⟨p,f,rfl,hp,h0,h1,h2⟩:=h;exact⟨p,f,rfl,Nat.lt_of_lt_of_le hp hb.size,(hb.cell (p:=⟨p,0,none⟩) hp).trans h0,fun a ha=>(hb.cell (p:=⟨p,1+a,none⟩) hp).trans (h1 a ha),h2⟩
theorem RelP.ptr{w:World}{v:Value}{n:Nat}{P:List (Nat×Nat)}(h:RelP w v n P):∃p,v=.pointer (some ⟨p,0,none⟩):=by
 obtain⟨p,f,rfl,-⟩:=h;exact⟨p,rfl⟩
theorem wrap_bit{a:Nat}(h:a<64):IntKind.u64.wrap (2 ^ a)=((bitN a:Nat):Int):=by
 have h1:=bit_wd h;unfold Wd at h1;rw [IntKind.wrap_u64,show((2:Int) ^ a)=((bitN a:Nat):Int)by unfold bitN;simp];omega
theorem bit_calls(a:Nat)(ha:a<64)(w:World)(R:Ending→World→Prop)(hR:Hid (R (.returned (.int .u64 (bitN a:Nat))) w)):Calls Tryz.prog 188 #[.int .i64 a] w R:=by
 have e:=wrap_bit ha;have hm:min a 64=a:=by omega
 have h0:(0:Int)≤(a:Int):=by omega
 go_enter Tryz.func188,Tryz.ntmps188
 go_wp2_with fail
 exact hR.out
theorem rellenx_calls(n:Nat)(P:List (Nat×Nat))(v:Value)(w:World)(h:RelP w v n P)(R:Ending→World→Prop)(hR:Hid (R (.returned (.int .i64 n)) w)):Calls Tryz.prog 189 #[v] w R:=by
 obtain⟨p,f,rfl,hp,h0,-⟩:=h;go_enter Tryz.func189,Tryz.ntmps189
 go_wp2_with fail
 exact hR.out
theorem relelem_calls(n:Nat)(P:List (Nat×Nat))(v:Value)(w:World)(h:RelP w v n P)(a:Int)(b:Bool)(hb:b=decide (0≤a∧a<n))(R:Ending→World→Prop)(hR:Hid (R (.returned (.bool b)) w)):Calls Tryz.prog 187 #[v,.int .i64 a] w R:=by
 have cL:=Lib.hid fun R hR=>rellenx_calls n P v w h R hR
 obtain⟨p,rfl⟩:=h.ptr;clear h
 by_cases h0:0≤a
 ·by_cases h1:a<n
  ·obtain rfl:b=true:=by rw [hb];exact decide_eq_true ⟨h0,h1⟩
   clear hb;go_enter Tryz.func187,Tryz.ntmps187
   go_wp2_with fail
   refine cL.out _ (Lib.hid ?_);go_wp2_with fail
   exact hR.out
  ·obtain rfl:b=false:=by rw [hb];exact decide_eq_false (fun h=>h1 h.2)
   clear hb;go_enter Tryz.func187,Tryz.ntmps187
   go_wp2_with fail
   refine cL.out _ (Lib.hid ?_);go_wp2_with fail
   exact retB hR.out (decide_eq_false (by omega)).symm
 ·obtain rfl:b=false:=by rw [hb];exact decide_eq_false (fun h=>h0 h.1)
  clear hb;go_enter Tryz.func187,Tryz.ntmps187
  go_wp2_with fail
  exact hR.out
theorem relelem_quiet(n:Nat)(P:List (Nat×Nat))(v:Value)(w:World)(h:RelP w v n P)(a:Int)(b:Bool)(hb:b=decide (0≤a∧a<n))(m:Nat) :
 Calls Tryz.prog 187 #[v,.int .i64 a] (w.drewN m) fun e w'=>e=.returned (.bool b)∧w'=w.drewN m :=
relelem_calls n P v _ (h.below (below_drewN (Below.refl _ _) m)) a b hb _ (Lib.hid ⟨rfl,rfl⟩)
theorem bit_quiet(a:Nat)(ha:a<64)(w:World):Calls Tryz.prog 188 #[.int .i64 a] w fun e w'=>e=.returned (.int .u64 (bitN a:Nat))∧w'=w:=bit_calls a ha w _ (Lib.hid ⟨rfl,rfl⟩)
theorem hasQ_out{n:Nat}{P:List (Nat×Nat)}(hP:InR n P){a b:Int}(h:¬((0≤a∧a<n)∧0≤b∧b<n)):hasQ P a b=false:=by
 cases e:hasQ P a b
 ·rfl
 ·obtain⟨h0,h1,h2⟩:=hasQ_iff.1 e
  have:=hP _ h2;exact absurd ⟨⟨h0,by omega⟩,h1,by omega⟩ h
theorem and_has{P:List (Nat×Nat)}{f:Nat→Nat}(hf:Rows P f){a b:Nat}(ha:a<64)(hb:b<64) :
  ∃X:Nat,bits .and .u64 (f a:Nat) (bitN b:Nat)=(X:Int)∧(hasQ P a b=true→0<X)∧(hasQ P a b=false→X=0):=by
 obtain⟨g1,g2⟩:=hf a ha;refine⟨_,bits_and g1 (bit_wd hb),fun h=>?_,fun h=>?_⟩
 ·rw [and_bit,g2,if_pos (decide_eq_true (hasQ_nat.1 h))];exact bit_pos b
 ·rw [and_bit,g2,if_neg]
  intro q;rw [hasQ_nat.2 (of_decide_eq_true q)]at h;cases h
theorem relhasx_calls(n:Nat)(P:List (Nat×Nat))(a b:Int)(hP:InR n P)(hn:n≤64)(v:Value)(w:World)(h:RelP w v n P)(R:Ending→World→Prop)
  (hR:Hid (∀m,R (.returned (.bool (hasQ P a b))) (w.drewN m))):Calls Tryz.prog 190 #[v,.int .i64 a,.int .i64 b] w R:=by
 have cE:=Lib.hid fun x B hB m=>relelem_quiet n P v w h x B hB m
 by_cases ha:0≤a∧a<n
 ·by_cases hb:0≤b∧b<n
  ·obtain⟨A,rfl⟩:∃A:Nat,a=A:=⟨a.toNat,by omega⟩
   obtain⟨B,rfl⟩:∃B:Nat,b=B:=⟨b.toNat,by omega⟩;obtain⟨p,f,rfl,hp,h0,h1,hf⟩:=h;have hA:A<64:=by omega
   have hB:B<64:=by omega
   have k:=h1 A hA;have eA:true=decide (0≤(A:Int)∧(A:Int)<n):=(decide_eq_true ha).symm;have eB:true=decide (0≤(B:Int)∧(B:Int)<n):=(decide_eq_true hb).symm;obtain⟨X,hX,X1,X2⟩:=and_has hf hA hB;have cA:=Lib.hid (cE.out _ _ eA);have cB:=Lib.hid (cE.out _ _ eB);clear h0 h1 hf ha hb hP hn cE eA eB;generalize hasQ P A B=Q at *;cases Q
   ·obtain rfl:=X2 rfl
    clear X1 X2;have q0:((0:Int) != 0)=false:=by decide
    go_enter Tryz.func190,Tryz.ntmps190
    go_wp2_with fail
    go_quiet (first|(go_at_call 188;exact Calls.quiet_of_same (bit_quiet _ hB _))|(with_reducible exact Calls.quiet_of_same (cA.out _))|(with_reducible exact Calls.quiet_of_same (cB.out _)))
    go_wp2_with fail
    exact hR.out _
   ·have hX0:=X1 rfl
    clear X1 X2;have q0:((X:Int) != 0)=true:=by simp;omega
    go_enter Tryz.func190,Tryz.ntmps190
    go_wp2_with fail
    go_quiet (first|(go_at_call 188;exact Calls.quiet_of_same (bit_quiet _ hB _))|(with_reducible exact Calls.quiet_of_same (cA.out _))|(with_reducible exact Calls.quiet_of_same (cB.out _)))
    go_wp2_with fail
    exact hR.out _
  ·rw [hasQ_out hP (fun q=>hb q.2)]at hR
   have cA:=Lib.hid (cE.out a _ (decide_eq_true ha).symm);have cB:=Lib.hid (cE.out b _ (decide_eq_false hb).symm);obtain⟨p,rfl⟩:=h.ptr;clear h ha hb hP hn cE;go_enter Tryz.func190,Tryz.ntmps190
   go_wp2_with fail
   go_quiet (first|(with_reducible exact Calls.quiet_of_same (cA.out _))|(with_reducible exact Calls.quiet_of_same (cB.out _)));go_wp2_with fail
   exact hR.out _
 ·rw [hasQ_out hP (fun q=>ha q.1)]at hR
  have cA:=Lib.hid (cE.out a _ (decide_eq_false ha).symm);obtain⟨p,rfl⟩:=h.ptr;clear h ha hP hn cE;go_enter Tryz.func190,Tryz.ntmps190
  go_wp2_with fail
  go_quiet ((with_reducible exact Calls.quiet_of_same (cA.out _)));go_wp2_with fail
  exact hR.out _
def relC(n:Int):Array Value:=(Value.int .i64 n::List.replicate 64 (Value.int .u64 0)).toArray
theorem built_rel(n:Int):Tryz.prog.built 271 [(0,.int .i64 n)]=some (relC n):=by kernel_rfl
def relV(n:Nat)(f:Nat→Nat):List Value:=.int .i64 n::(List.range 64).map fun a=>.int .u64 (f a:Nat)
theorem relV_len(n:Nat)(f:Nat→Nat):(relV n f).length=65:=by simp [relV]
theorem relV_zero(n:Nat):(relC n).toList=relV n (fun _=>0):=by
 unfold relC relV;simp only[List.map_const'];rw [List.length_range];rfl
theorem relV_get(n:Nat)(f:Nat→Nat){a:Nat}(h:a<64):(relV n f)[1+a]?=some (.int .u64 (f a:Nat)):=by
 unfold relV;rw [Nat.add_comm,List.getElem?_cons_succ,List.getElem?_map,List.getElem?_range h];rfl
def upd(f:Nat→Nat)(a y:Nat)(b:Nat):Nat:=if b=a then y else f b
theorem relV_set(n:Nat)(f:Nat→Nat){a:Nat}(h:a<64)(y:Nat):(relV n f).set (1+a) (.int .u64 y)=relV n (upd f a y):=by
 unfold relV;rw [Nat.add_comm,List.set_cons_succ]
 congr 1
 refine List.ext_getElem (by simp) fun i h1 h2=>?_
 rw [List.getElem_set];simp only[List.getElem_map,List.getElem_range,upd]
 by_cases e:a=i
 ·subst e;simp
 ·rw [if_neg e,if_neg (fun q=>e q.symm)]
theorem Rows.nil:Rows [] (fun _=>0):=fun a _=>⟨zero_wd,fun b=>by rw [Nat.zero_testBit];simp⟩
theorem Rows.put{P:List (Nat×Nat)}{f:Nat→Nat}(h:Rows P f){a b:Nat}(ha:a<64)(hb:b<64):Rows (P++[(a,b)]) (upd f a (f a|||bitN b)):=by
 intro c hc;obtain⟨g1,g2⟩:=h c hc;unfold upd
 by_cases e:c=a
 ·subst e
  rw [if_pos rfl];refine⟨or_wd g1 (bit_wd hb),fun i=>?_⟩;rw [or_bit,g2,Bool.eq_iff_iff,Bool.or_eq_true,decide_eq_true_iff,decide_eq_true_iff,decide_eq_true_iff,List.mem_append,List.mem_singleton,Prod.mk.injEq]
  constructor
  ·rintro(h|h)
   ·exact .inl h
   ·exact .inr ⟨rfl,h.symm⟩
  ·rintro(h|h)
   ·exact .inl h
   ·exact .inr h.2.symm
 ·rw [if_neg e]
  refine⟨g1,fun i=>?_⟩;rw [g2,Bool.eq_iff_iff];simp [e]
abbrev OwnR(w:World)(base B n:Nat)(f:Nat→Nat):Prop:=w.ownsRow base 271 1 (.slice (some ⟨B,0,none⟩) 65 65) 65 (relV n f)
theorem OwnR.lt{w:World}{base B n:Nat}{f:Nat→Nat}(h:OwnR w base B n f):B<w.heap.size:=by
 obtain⟨g,c,e,-,hg,-⟩:=own_at h (by omega);simp only[Value.slice.injEq,Option.some.injEq,Addr.mk.injEq]at e;rw [e.1.1];exact hg
theorem RelP.of_own{w:World}{base B n:Nat}{f:Nat→Nat}{P:List (Nat×Nat)}(h:OwnR w base B n f)(hf:Rows P f):RelP w (.pointer (some ⟨B,0,none⟩)) n P :=
⟨B,f,rfl,h.lt,World.ownsRow.cellAt h 0 (by omega),fun a ha=>(World.ownsRow.cellAt h (1+a) (by omega)).trans (relV_get n f ha),hf⟩
theorem toN_take{xs:List Pq}{i:Nat}(h:i<xs.length):toN (xs.take (i+1))=toN (xs.take i)++[((pqN xs i).1.toNat,(pqN xs i).2.toNat)]:=by
 unfold toN;rw [List.take_succ_eq_append_getElem h,List.map_append,pqN_get h];rfl
theorem relnew_calls(n:Int)(hn:-9223372036854775808≤n∧n≤9223372036854775807)(xs:List Pq)(v:Value)(w:World)(hx:RdQ w v xs)(hg:∀x∈xs,GoodQ x)(hl:xs.length≤maxLen)(R:Ending→World→Prop)
  (hR:Hid (∀v' w',RightQ n xs→RelP w' v' n.toNat (toN xs)→Below w.heap.size w w'→R (.returned (.tuple #[v',.bool true])) w'))
  (hR2:Hid (∀w',¬RightQ n xs→Below w.heap.size w w'→R (.returned (.tuple #[.pointer none,.bool false])) w')):Calls Tryz.prog 123 #[.int .i64 n,v] w R:=by
 obtain⟨A,c,rfl,hlc,hr⟩:=hx.op;replace hr:=Lib.hid hr;replace hl:xs.length≤9223372036854775807:=hl;clear hx
 by_cases h0:n<0
 ·go_enter Tryz.func123,Tryz.ntmps123
  go_wp2_with fail
  exact hR2.out _ (fun h=>by have:=h.1;omega) (Below.refl _ _)
 by_cases h1:64<n
 ·go_enter Tryz.func123,Tryz.ntmps123
  go_wp2_with fail
  exact hR2.out _ (fun h=>by have:=h.1;omega) (Below.refl _ _)
 obtain⟨N,rfl⟩:∃N:Nat,n=N:=⟨n.toNat,by omega⟩;have hN:N≤64:=by omega
 obtain⟨C,hC⟩:∃C,C=relC N:=⟨_,rfl⟩;have hB:∀l,l=[(0,Value.int .i64 N)]→Tryz.prog.built 271 l=some C:=fun l h=>by rw [h,hC];exact built_rel N
 replace hB:=Lib.hid hB;have hCs:C.size=65:=by rw [hC];kernel_rfl
 have hCv:C.toList=relV N (fun _=>0):=by rw [hC];exact relV_zero N
 have hO:=own_made (n:=65) (w:=w) (t:=271) hCv (relV_len _ _) (by unfold maxLen;omega)
 replace hO:=Lib.hid hO;have b1:=Lib.hid ((Below.refl w.heap.size w).alloc (Nat.le_refl _) (.cells C 271));clear hC hCv;go_enter Tryz.func123,Tryz.ntmps123
 go_wp2_with (refine wpList_buildTo rfl 271 _ rfl (some 16) rfl C (hB.out _ (by simp [go_sem])) ?_)
 go_loopg [20] xs.length (fun g i wr=>∃(K:Nat) (f:Nat→Nat),i=.int .i64 K∧K+g=xs.length∧Hid (Below w.heap.size w wr)∧Hid (OwnR wr w.heap.size w.heap.size N f)∧Hid (∀j,j<K→(0≤(pqN xs j).1∧(pqN xs j).1<N)∧(0≤(pqN xs j).2∧(pqN xs j).2<N))∧Hid (Rows (toN (xs.take K)) f))
 case atStart=>exact⟨0,_,rfl,by omega,b1,hO,Lib.hid fun j h=>by omega,Lib.hid Rows.nil⟩
 case round =>
  obtain⟨K,f,rfl,c1,nb,ow,c2,hf⟩:=hrel;clear hO b1 hB;have hsz:=nb.out.size;have hHl:=ow.out.lt
  by_cases hK:K<xs.length
  ·obtain⟨g,o,rfl,hg1,hca⟩:=hr.out (by omega)
   obtain⟨a0,a1⟩:=hca K hK;have e0:=(nb.out.cell (p:=⟨g,o+K*2,none⟩) hg1).trans a0;have e1:=(nb.out.cell (p:=⟨g,o+K*2+1,none⟩) hg1).trans a1;have hbad:¬((0≤(pqN xs K).1∧(pqN xs K).1<N)∧(0≤(pqN xs K).2∧(pqN xs K).2<N))→¬RightQ N xs:=fun h q=>h (q.2 _ (pqN_mem hK))
   have hgood:((0≤(pqN xs K).1∧(pqN xs K).1<N)∧(0≤(pqN xs K).2∧(pqN xs K).2<N))→∀j,j<K+1→(0≤(pqN xs j).1∧(pqN xs j).1<N)∧(0≤(pqN xs j).2∧(pqN xs j).2<N):=fun h j hj=>by
    rcases Nat.eq_or_lt_of_le (Nat.le_of_lt_succ hj)with e|q
    ·subst e;exact h
    ·exact c2.out j q
   have htk:=toN_take hK;clear hca a0 a1 c2;generalize pqN xs K=x at *;obtain⟨a,b⟩:=x;simp only at e0 e1 hbad hgood htk;have nW:=nb.out.alloc hsz (.cells #[.int .i64 a,.int .i64 b] 258);have k0:(wr.alloc (.cells #[.int .i64 a,.int .i64 b] 258)).cell? ⟨wr.heap.size,0,none⟩=some (.int .i64 a):=by rw [World.cell?_alloc_new];rfl
   have k1:(wr.alloc (.cells #[.int .i64 a,.int .i64 b] 258)).cell? ⟨wr.heap.size,1,none⟩=some (.int .i64 b):=by rw [World.cell?_alloc_new];rfl
   have ow2:=own_below ow.out ((Below.refl wr.heap.size wr).alloc (Nat.le_refl _) (.cells #[.int .i64 a,.int .i64 b] 258));have hP:=RelP.of_own ow2 hf.out;have cE:=fun x B hB R hR=>relelem_calls N _ _ _ hP x B hB R hR
   replace hbad:=Lib.hid hbad;replace hgood:=Lib.hid hgood;replace htk:=Lib.hid htk;replace cE:=Lib.hid cE;replace nW:=Lib.hid nW;replace ow2:=Lib.hid ow2;clear hP ow nb
   by_cases qa:0≤a∧a<N
   ·have cA:=Lib.hid (cE.out a true (decide_eq_true qa).symm)
    by_cases qb:0≤b∧b<N
    ·have cB:=Lib.hid (cE.out b true (decide_eq_true qb).symm)
     have hg:=Lib.hid (hgood.out ⟨qa,qb⟩);obtain⟨u,rfl⟩:∃u:Nat,a=u:=⟨a.toNat,by omega⟩;obtain⟨t,rfl⟩:∃t:Nat,b=t:=⟨b.toNat,by omega⟩;have hu:u<64:=by omega
     have ht:t<64:=by omega
     clear cE hbad hgood qa qb;go_wp2_with fail
     clear e0 e1;refine cA.out _ (Lib.hid ?_);go_wp2_with fail
     refine cB.out _ (Lib.hid ?_);go_wp2_with fail
     go_outline;obtain⟨gf,-⟩:=hf.out u hu;have r1:=(World.ownsRow.cellAt ow2.out (1+u) (by omega)).trans (relV_get N f hu);have r2:=World.ownsRow.frozenAt ow2.out (1+u);have eO:=bits_or gf (bit_wd ht);generalize hW:wr.alloc (.cells #[.int .i64 (u:Int),.int .i64 (t:Int)] 258)=W1 at *;have hi0:(0:Int)≤(u:Int):=by omega
     have hi1:(u:Int)<64:=by omega
     go_still_tail 14,(by kernel_rfl)
     still_call (bit_quiet _ ht _)
     repeat still_step
     refine wpStill_nil ?_
     change wpList _ _ _ _ _ W1.drew
     have ow3:=ow2.out.drew;have nW3:=nW.out.drew;have r3:=World.ownsRow.frozenAt ow3 (1+u);have r4:=(World.ownsRow.cellAt ow3 (1+u) (by omega)).trans (relV_get N f hu);obtain⟨o4,-⟩:=World.ownsRow.stored ow3 (1+u) (.int .u64 ((f u|||bitN t:Nat):Int));rw [relV_set N f hu]at o4;have n4:=Lib.hid (nW3.setCell (p:=⟨w.heap.size,1+u,none⟩) (Nat.le_refl _) (.int .u64 ((f u|||bitN t:Nat):Int)));have hf4:=hf.out.put hu ht;rw [Int.toNat_natCast,Int.toNat_natCast]at htk;rw [←htk.out]at hf4;replace hf4:=Lib.hid hf4;replace o4:=Lib.hid o4;clear r1 r2 ow2 ow3 nW nW3 hf htk eO;generalize W1.drew=W2 at *;go_wp2_with fail
     go_roundg (gk-1)
     case measure=>omega
     case rel=>exact⟨K+1,_,by go_num,by omega,n4,o4,hg,hf4⟩
    ·have cB:=Lib.hid (cE.out b false (decide_eq_false qb).symm)
     have hno:=hbad.out (fun q=>qb q.2);replace hno:=Lib.hid hno;clear cE hbad hgood qa qb;go_wp2_with fail
     clear e0 e1;refine cA.out _ (Lib.hid ?_);go_wp2_with fail
     refine cB.out _ (Lib.hid ?_);go_wp2_with fail
     exact hR2.out _ hno.out nW.out
   ·have cA:=Lib.hid (cE.out a false (decide_eq_false qa).symm)
    have hno:=hbad.out (fun q=>qa q.1);replace hno:=Lib.hid hno;clear cE hbad hgood qa;go_wp2_with fail
    clear e0 e1;refine cA.out _ (Lib.hid ?_);go_wp2_with fail
    exact hR2.out _ hno.out nW.out
  ·obtain rfl:K=xs.length:=by omega
   have hright:RightQ N xs:=⟨⟨by omega,by omega⟩,fun x hx=>by
    obtain⟨i,hi,e⟩:=List.getElem_of_mem hx;rw [←e,←pqN_get hi];exact c2.out i hi⟩
   have hrel:=RelP.of_own ow.out hf.out;rw [List.take_length]at hrel;have fin:=hR.out _ _ hright (by rw [Int.toNat_natCast];exact hrel) nb.out
   replace fin:=Lib.hid fin;clear hright hrel c2 hf ow nb;go_wp2_with fail
   exact fin.out
theorem wp_scope_first{P:Program}{a:Act}{w:World}{Q:Exit→Act→World→Prop}{c rest:Code}(l:Nat)(J:Act→World→Prop)(μ:Act→World→Nat)(hf:findLabel c l=some (Code.skip.seq rest))
 (pass:∀a w,J a w→rest.wp P (Exit.jump l (fun a' w'=>J a' w'∧μ a' w'<μ a w) Q) a w)
 (first:(∀a w,J a w→rest.wp P (Exit.jump l J Q) a w)→c.wp P (Exit.jump l J Q) a w):(Code.scope c).wp P Q a w :=
wp_scope_jumps l J μ hf (first fun a w h=>Code.wp_mono (fun e a' w'=>by
 cases e<;>try exact id
 exact fun⟨h1,h2⟩=>⟨h1,h2.1⟩) (pass a w h)) fun a w h=>wp_seq (wp_skip (pass a w h))
theorem and_row {x K:Nat} (hx:Wd x) (hK:K<64):∃X:Nat,bits .and .u64 (x:Nat) (bitN K:Nat)=(X:Int)∧(x.testBit K=true→0<X)∧(x.testBit K=false→X=0):=by
 refine⟨_,bits_and hx (bit_wd hK),fun h=>?_,fun h=>?_⟩
 ·rw [and_bit,if_pos h];exact bit_pos K
 ·rw [and_bit,h];rfl
theorem relrow_calls(n:Nat)(P:List (Nat×Nat))(a:Nat)(hP:InR n P)(hn:n≤64)(ha:a<n)(v:Value)(w:World)(h:RelP w v n P)(R:Ending→World→Prop)
  (hR:Hid (∀x:Nat,Wd x→(∀i,x.testBit i=ld n P a i)→R (.returned (.int .u64 x)) w)):Calls Tryz.prog 194 #[v,.int .i64 a] w R:=by
 obtain⟨p,f,rfl,hp,h0,h1,hf⟩:=h;replace h1:=Lib.hid h1;have w0:=Lib.hid (Way.one (P:=P) (show a<64 by omega));obtain⟨M,hM⟩:∃M:Nat,M=18446744073709551616:=⟨_,rfl⟩;replace hM:=Lib.hid hM;replace hf:=Lib.hid hf;replace hP:=Lib.hid hP;go_enter Tryz.func194,Tryz.ntmps194
 go_wp2_with fail
 refine wp_scope_first 0 (fun a' w'=>w'=w∧∃(x:Nat) (u6 u7 u8 u9 u10 u11 u12 u13 u14 u15 u16 u17 u18 u19 u20 u21 u22 u23 u24 u25 u26 u27 u28 u29 u30 u31 u32 u33 u34 u35 u36 u37 u38 u39 u40 u41:Value),
   a'={ tmps:=#[.pointer (some ⟨p,0,none⟩),.int .i64 a,undef,undef,.int .u64 0,.int .u64 x,u6,u7,u8,u9,u10,u11,u12,u13,u14,u15,u16,u17,u18,u19,u20,u21,u22,u23,u24,u25,u26,u27,u28,u29,u30,u31,u32,u33,u34,u35,u36,u37,u38,u39,u40,u41],defers:=[] }∧Hid (Way P a x))
  (fun a' _=>M-(intOf (a'.tmps.getD 5 undef)).toNat) rfl ?_ ?_
 ·rintro a' w' ⟨rfl,x,u6,u7,u8,u9,u10,u11,u12,u13,u14,u15,u16,u17,u18,u19,u20,u21,u22,u23,u24,u25,u26,u27,u28,u29,u30,u31,u32,u33,u34,u35,u36,u37,u38,u39,u40,u41,rfl,hw⟩
  clear w0;go_wp2_with fail
  go_loopg [5,13] n (fun g s i wr=>∃K:Nat,s=.int .u64 (x:Nat)∧i=.int .i64 K∧K+g=n∧wr=w'∧Hid (∀b,b<K→x.testBit b=true→less (f b) x=0))
  case atStart=>exact⟨0,rfl,rfl,by omega,rfl,Lib.hid fun b h=>by omega⟩
  case round =>
   obtain⟨K,rfl,rfl,c1,rfl,hc⟩:=hrel
   by_cases hK:K<n
   ·have hK64:K<64:=by omega
    have hwd:=hw.out.1;obtain⟨gf,-⟩:=hf.out K hK64;obtain⟨X,hX,X1,X2⟩:=and_row hwd hK64;have e1:=h1.out K hK64;have e2:=bits_less gf hwd;have e3:=bits_or hwd gf
    have hc1:x.testBit K=false∨(x.testBit K=true∧less (f K) x=0)→∀b,b<K+1→x.testBit b=true→less (f b) x=0:=fun h b hb hx=>by
     rcases Nat.eq_or_lt_of_le (Nat.le_of_lt_succ hb)with e|q
     ·subst e
      rcases h with h|h
      ·rw [h]at hx;cases hx
      ·exact h.2
     ·exact hc.out b q hx
    cases hb:x.testBit K
    ·obtain rfl:=X2 hb
     have q0:((0:Int) != 0)=false:=by decide
     have hc2:=Lib.hid (hc1 (.inl hb));clear hb X1 X2 e1 e2 e3 hc1 hc;go_wp2_with fail
     refine bit_calls _ hK64 _ _ (Lib.hid ?_);go_wp2_with fail
     go_roundg (gk-1)
     case measure=>omega
     case rel=>exact⟨K+1,rfl,by go_num,by omega,rfl,hc2⟩
    ·have hX0:=X1 hb
     have q0:((X:Int) != 0)=true:=by simp;omega
     by_cases hl:less (f K) x=0
     ·have hc2:=Lib.hid (hc1 (.inr ⟨hb,hl⟩))
      rw [hl]at e2;have q1:((0:Int) != 0)=false:=by decide
      clear hb X1 X2 e3 hc1 hc hl;go_wp2_with fail
      refine bit_calls _ hK64 _ _ (Lib.hid ?_);go_wp2_with fail
      go_roundg (gk-1)
      case measure=>omega
      case rel=>exact⟨K+1,rfl,by go_num,by omega,rfl,hc2⟩
     ·have q1:(((less (f K) x:Nat):Int) != 0)=true:=by simp;omega
      have hw2:=hw.out.put hf.out hK64 hb;have hlt:=or_lt hwd gf hl;have hlt2:x|||f K<M:=by rw [hM.out];exact hw2.1
      replace hw2:=Lib.hid hw2;generalize less (f K) x=L at *;generalize x|||f K=y at *;clear hb X1 X2 hc1 hc hl;go_wp2_with fail
      refine bit_calls _ hK64 _ _ (Lib.hid ?_);go_wp2_with fail
      go_step3;exact⟨rfl,⟨rfl,y,_,_,_,_,_,_,_,_,_,_,_,_,_,_,_,_,_,_,_,_,_,_,_,_,_,_,_,_,_,_,_,_,_,_,_,_,rfl,hw2⟩,Nat.sub_lt_sub_left (Nat.lt_trans hlt hlt2) hlt⟩
   ·obtain rfl:K=n:=by omega
    have hfin:=hw.out.fin hP.out hn hf.out ha (fun b hb=>hc.out b hb);have hwd:=hw.out.1;have fin:=Lib.hid (hR.out x hwd hfin);clear hfin hwd hc hw;go_wp2_with fail
    exact fin.out
 ·intro key
  replace key:=Lib.hid key;go_wp2_with fail
  refine bit_calls _ (by omega) _ _ (Lib.hid ?_);go_wp2_with fail
  go_step3
  rename_i Q' K hK
  exact hK _ _ (key.out _ _ ⟨rfl,bitN a,_,_,_,_,_,_,_,_,_,_,_,_,_,_,_,_,_,_,_,_,_,_,_,_,_,_,_,_,_,_,_,_,_,_,_,_,rfl,w0⟩)
def maskN(p:Nat→Bool):Nat→Nat
| 0=>0
| k+1=>if p k=true then maskN p k|||bitN k else maskN p k
theorem maskN_bit(p:Nat→Bool):∀(k i:Nat),(maskN p k).testBit i=(decide (i<k)&&p i)
| 0,i=>by rw [maskN,Nat.zero_testBit];simp
| k+1,i=>by
 rw [maskN];rcases Nat.lt_trichotomy i k with q|q|q
 ·rw [decide_eq_true (by omega:i<k+1),Bool.true_and]
  split
  ·rw [or_bit,maskN_bit p k,decide_eq_true q,decide_eq_false (by omega:¬k=i)];simp
  ·rw [maskN_bit p k,decide_eq_true q];rfl
 ·subst q
  rw [decide_eq_true (by omega:i<i+1),Bool.true_and]
  split
  ·next h=>rw [or_bit,maskN_bit p i,h];simp
  ·next h=>rw [maskN_bit p i];simp at h;simp [h]
 ·rw [decide_eq_false (by omega:¬i<k+1),Bool.false_and]
  split
  ·rw [or_bit,maskN_bit p k,decide_eq_false (by omega:¬i<k),decide_eq_false (by omega:¬k=i)];rfl
  ·rw [maskN_bit p k,decide_eq_false (by omega:¬i<k)];rfl
theorem maskN_wd(p:Nat→Bool):∀(k:Nat),k≤64→Wd (maskN p k)
| 0,_=>zero_wd
| k+1,h=>by
 rw [maskN]
 split
 ·exact or_wd (maskN_wd p k (by omega)) (bit_wd (by omega))
 ·exact maskN_wd p k (by omega)
theorem ld_lt{n:Nat}{P:List (Nat×Nat)}{a b:Nat}(h:ld n P a b=true):b<n:=by
 have:=on_lt h;rwa [ldR_len]at this
def rowN(n:Nat)(P:List (Nat×Nat))(a:Nat):Nat:=maskN (ld n P a) n
theorem rowN_bit(n:Nat)(P:List (Nat×Nat))(a i:Nat):(rowN n P a).testBit i=ld n P a i:=by
 unfold rowN;rw [maskN_bit];cases h:ld n P a i
 ·simp
 ·rw [decide_eq_true (ld_lt h)];rfl
theorem relrowx_calls(n:Nat)(P:List (Nat×Nat))(a:Nat)(hP:InR n P)(hn:n≤64)(ha:a<n)(v:Value)(w:World)(h:RelP w v n P) :
 Calls Tryz.prog 194 #[v,.int .i64 a] w fun e w'=>e=.returned (.int .u64 (rowN n P a:Nat))∧w'=w :=
relrow_calls n P a hP hn ha v w h _ (Lib.hid fun x _ hx=>⟨by rw [show x=rowN n P a from Nat.eq_of_testBit_eq fun i=>by rw [hx,rowN_bit]],rfl⟩)
def CloR(n:Nat)(P:List (Nat×Nat))(K:Nat)(f:Nat→Nat):Prop:=∀a,a<64→Wd (f a)∧∀b,(f a).testBit b=(decide (a<K)&&ld n P a b)
theorem CloR.nil(n:Nat)(P:List (Nat×Nat)):CloR n P 0 (fun _=>0):=fun a _=>⟨zero_wd,fun b=>by rw [Nat.zero_testBit];simp⟩
theorem CloR.put{n:Nat}{P:List (Nat×Nat)}{K:Nat}{f:Nat→Nat}(h:CloR n P K f)(hn:n≤64):CloR n P (K+1) (upd f K (rowN n P K)):=by
 intro a ha;obtain⟨g1,g2⟩:=h a ha;unfold upd
 by_cases e:a=K
 ·subst e
  rw [if_pos rfl];exact⟨maskN_wd _ _ hn,fun b=>by rw [rowN_bit,decide_eq_true (by omega:a<a+1)];rfl⟩
 ·rw [if_neg e]
  refine⟨g1,fun b=>?_⟩;rw [g2]
  by_cases q:a<K
  ·rw [decide_eq_true q,decide_eq_true (by omega:a<K+1)]
  ·rw [decide_eq_false q,decide_eq_false (by omega:¬a<K+1)]
theorem CloR.fin{n:Nat}{P:List (Nat×Nat)}{f:Nat→Nat}(h:CloR n P n f):Rows (cloL n P) f:=by
 intro a ha;obtain⟨g1,g2⟩:=h a ha;refine⟨g1,fun b=>?_⟩;rw [g2,Bool.eq_iff_iff,Bool.and_eq_true,decide_eq_true_iff,decide_eq_true_iff,clo_mem];exact⟨fun⟨h1,h2⟩=>⟨h1,ld_lt h2,h2⟩,fun⟨h1,_,h2⟩=>⟨h1,h2⟩⟩
theorem relclose_calls(n:Nat)(P:List (Nat×Nat))(hP:InR n P)(hn:n≤64)(v:Value)(w:World)(h:RelP w v n P)(R:Ending→World→Prop)
  (hR:Hid (∀v' w',RelP w' v' n (cloL n P)→Below w.heap.size w w'→R (.returned v') w')):Calls Tryz.prog 127 #[v] w R:=by
 have cr:=Lib.hid fun(W:World) (hb:Below w.heap.size w W) (a:Nat) (ha:a<n)=>relrowx_calls n P a hP hn ha v W (h.below hb)
 obtain⟨p,f0,rfl,hp,h0,-,-⟩:=h;obtain⟨C,hC⟩:∃C,C=relC n:=⟨_,rfl⟩;have hB:∀l,l=[(0,Value.int .i64 n)]→Tryz.prog.built 271 l=some C:=fun l h=>by rw [h,hC];exact built_rel n
 replace hB:=Lib.hid hB;have hCs:C.size=65:=by rw [hC];kernel_rfl
 have hCv:C.toList=relV n (fun _=>0):=by rw [hC];exact relV_zero n
 have hO:=own_made (n:=65) (w:=w) (t:=271) hCv (relV_len _ _) (by unfold maxLen;omega)
 replace hO:=Lib.hid hO;have b1:=Lib.hid ((Below.refl w.heap.size w).alloc (Nat.le_refl _) (.cells C 271));have h9:=(b1.out.cell (p:=⟨p,0,none⟩) hp).trans h0;clear hC hCv;go_enter Tryz.func127,Tryz.ntmps127
 go_wp2_with (refine wpList_buildTo rfl 271 _ rfl (some 11) rfl C (hB.out _ (by simp [go_sem])) ?_)
 go_loopg [17] n (fun g i wr=>∃(K:Nat) (f:Nat→Nat),i=.int .i64 K∧K+g=n∧Hid (Below w.heap.size w wr)∧Hid (OwnR wr w.heap.size w.heap.size n f)∧Hid (CloR n P K f))
 case atStart=>exact⟨0,_,rfl,by omega,b1,hO,Lib.hid (CloR.nil n P)⟩
 case round =>
  obtain⟨K,f,rfl,c1,nb,ow,hf⟩:=hrel;clear hO b1 hB h9
  by_cases hK:K<n
  ·have hK64:K<64:=by omega
   have hi0:(0:Int)≤(K:Int):=by omega
   have hi1:(K:Int)<64:=by omega
   have ow3:=ow.out.drew;have nW3:=nb.out.drew;have r3:=World.ownsRow.frozenAt ow3 (1+K);have r4:=(World.ownsRow.cellAt ow3 (1+K) (by omega)).trans (relV_get n f hK64);obtain⟨o4,-⟩:=World.ownsRow.stored ow3 (1+K) (.int .u64 (rowN n P K:Nat));rw [relV_set n f hK64]at o4;have n4:=Lib.hid (nW3.setCell (p:=⟨w.heap.size,1+K,none⟩) (Nat.le_refl _) (.int .u64 (rowN n P K:Nat)));have hf4:=Lib.hid (hf.out.put hn);have c3:=Lib.hid (cr.out wr.drew nW3 K hK);replace o4:=Lib.hid o4;clear ow ow3 nb nW3 hf cr;go_wp2_with fail
   go_still_tail 8,(by kernel_rfl)
   still_call c3.out
   repeat still_step
   refine wpStill_nil ?_
   change wpList _ _ _ _ _ wr.drew
   clear c3;generalize wr.drew=W2 at *;generalize rowN n P K=y at *;go_wp2_with fail
   go_roundg (gk-1)
   case measure=>omega
   case rel=>exact⟨K+1,_,by go_num,by omega,n4,o4,hf4⟩
  ·obtain rfl:K=n:=by omega
   have fin:=Lib.hid (hR.out _ _ (RelP.of_own ow.out hf.out.fin) nb.out);clear cr ow nb hf;go_wp2_with fail
   exact fin.out
theorem inLoop_none{n:Nat}{F:Nat→Nat→Bool}{K:Nat}(h:∀b,b<n→¬(K≠b∧F K b=true∧F b K=true)):¬inLoop n F K=true:=fun q=>by
 obtain⟨b,h1,h2,h3,h4⟩:=inLoop_iff.1 q;exact h b h1 ⟨h2,h3,h4⟩
theorem relloopx_calls(n:Nat)(P:List (Nat×Nat))(hP:InR n P)(hn:n≤64)(v:Value)(w:World)(h:RelP w v n P)(R:Ending→World→Prop)
  (hR:Hid (∀(m:Nat) w',loopS n (ld n P)=m→Below w.heap.size w w'→R (.returned (.tuple #[.int .i64 m,.bool true])) w'))
  (hR2:Hid (∀w',loopS n (ld n P)=-1→Below w.heap.size w w'→R (.returned (.tuple #[.int .i64 0,.bool false])) w')):Calls Tryz.prog 124 #[v] w R:=by
 have cC:=Lib.hid fun R hR=>relclose_calls n P hP hn v w h R hR
 have cL:=Lib.hid fun(W:World) (hb:Below w.heap.size w W) R hR=>rellenx_calls n P v W (h.below hb) R hR
 obtain⟨p,rfl⟩:=h.ptr;clear h;go_enter Tryz.func124,Tryz.ntmps124
 go_wp2_with fail
 refine cC.out _ (Lib.hid fun cv W rc nb=>?_);have cH:=fun(q:Nat) (a b:Nat) (ha:a<n) (hb:b<n) R hR=>relhasx_calls n (cloL n P) a b (clo_in n P) hn cv (W.drewN q) (rc.below (below_drewN (Below.refl _ _) q)) R hR
 obtain⟨pc,rfl⟩:=rc.ptr
 have cH2:Hid (∀(q:Nat) (a b:Nat),a<n→b<n→∀B,ld n P a b=B→∀R,Hid (∀m,R (.returned (.bool B)) ((W.drewN q).drewN m))→Calls Tryz.prog 190 #[.pointer (some ⟨pc,0,none⟩),.int .i64 (a:Nat),.int .i64 (b:Nat)] (W.drewN q) R):=Lib.hid fun q a b ha hb B hB R hR=>by
  have:=cH q a b ha hb R;rw [hasQ_clo ha hb,hB]at this;exact this hR
 have cL2:=Lib.hid fun(q:Nat) R hR=>cL.out (W.drewN q) (below_drewN nb q) R hR
 have cL3:=Lib.hid fun R hR=>cL.out W nb R hR
 replace nb:=Lib.hid nb;clear cH cC rc cL;generalize ld n P=F at *;go_wp2_with fail
 refine cL3.out _ (Lib.hid ?_);go_wp2_with fail
 go_loopg [11] n (fun g i wr=>∃(K q:Nat),i=.int .i64 K∧K+g=n∧wr=W.drewN q∧Hid (leastF (inLoop n F) g K=loopS n F))
 case atStart=>exact⟨0,0,rfl,by omega,rfl,Lib.hid rfl⟩
 case round =>
  obtain⟨K,q,rfl,c1,rfl,hc⟩:=hrel;clear cL3
  by_cases hK:K<n
  ·obtain⟨kO,rfl⟩:∃k,gk=k+1:=⟨gk-1,by omega⟩
   have hc2:=hc.out;rw [leastF]at hc2;replace hc2:=Lib.hid hc2;clear hc;go_wp2_with fail
   refine cL2.out q _ (Lib.hid ?_);go_wp2_with fail
   go_loopg [16] n (fun g i wr=>∃(L q:Nat),i=.int .i64 L∧L+g=n∧wr=W.drewN q∧Hid (∀b,b<L→¬(K≠b∧F K b=true∧F b K=true)))
   case atStart=>exact⟨0,q,rfl,by omega,rfl,Lib.hid fun b h=>by omega⟩
   case round =>
    obtain⟨L,q2,rfl,d1,rfl,hd⟩:=hrel
    by_cases hL:L<n
    ·have hnext:¬(K≠L∧F K L=true∧F L K=true)→∀b,b<L+1→¬(K≠b∧F K b=true∧F b K=true):=fun h b hb=>by
      rcases Nat.eq_or_lt_of_le (Nat.le_of_lt_succ hb)with e|q
      ·subst e;exact h
      ·exact hd.out b q
     have cA:=Lib.hid (fun q=>cH2.out q K L hK hL);have cB:=Lib.hid (fun q=>cH2.out q L K hL hK)
     by_cases e:K=L
     ·subst e
      have hd2:=Lib.hid (hnext (fun h=>h.1 rfl));clear hd hnext;go_wp2_with fail
      go_roundg (gk-1)
      case measure=>omega
      case rel=>exact⟨K+1,q2,by go_num,by omega,rfl,hd2⟩
     ·have q0:((K:Int) != (L:Int))=true:=by simp;omega
      cases e1:F K L
      ·have hd2:=Lib.hid (hnext (fun h=>by rw [e1]at h;simp at h))
       replace e1:=Lib.hid e1;clear hd hnext;go_wp2_with fail
       refine cA.out q2 false e1.out _ (Lib.hid fun m=>?_);go_wp2_with fail
       go_roundg (gk-1)
       case measure=>omega
       case rel=>exact⟨L+1,q2+m,by go_num,by omega,rfl,hd2⟩
      ·cases e2:F L K
       ·have hd2:=Lib.hid (hnext (fun h=>by rw [e2]at h;simp at h))
        replace e1:=Lib.hid e1;replace e2:=Lib.hid e2;clear hd hnext;go_wp2_with fail
        refine cA.out q2 true e1.out _ (Lib.hid fun m=>?_);go_wp2_with fail
        refine cB.out (q2+m) false e2.out _ (Lib.hid fun m2=>?_);go_wp2_with fail
        go_roundg (gk-1)
        case measure=>omega
        case rel=>exact⟨L+1,q2+m+m2,by go_num,by omega,rfl,hd2⟩
       ·have hin:inLoop n F K=true:=inLoop_iff.2 ⟨L,hL,e,e1,e2⟩
        have e3:=hc2.out;rw [if_pos hin]at e3;have fin:=Lib.hid fun q=>hR.out K (W.drewN q) e3.symm (below_drewN nb.out q)
        replace e1:=Lib.hid e1;replace e2:=Lib.hid e2;clear hd hnext hin e3;go_wp2_with fail
        refine cA.out q2 true e1.out _ (Lib.hid fun m=>?_);go_wp2_with fail
        refine cB.out (q2+m) true e2.out _ (Lib.hid fun m2=>?_);go_wp2_with fail
        exact fin.out _
    ·obtain rfl:L=n:=by omega
     have e3:=hc2.out;rw [if_neg (inLoop_none hd.out)]at e3;replace e3:=Lib.hid e3;clear hd hc2;go_wp2_with fail
     go_roundg kO
     case measure=>omega
     case rel=>exact⟨K+1,q2,by go_num,by omega,rfl,e3⟩
  ·obtain rfl:gk=0:=by omega
   have fin:=Lib.hid (hR2.out _ hc.out.symm (below_drewN nb.out q));clear hc cH2 cL2;go_wp2_with fail
   exact fin.out
end Rel
end Go.Proofs.YtabhkakomececaaGreat
