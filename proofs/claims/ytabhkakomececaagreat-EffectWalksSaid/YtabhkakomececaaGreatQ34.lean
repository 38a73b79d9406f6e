import Derived.Test.YtabhkakomececaaGreatQ21
import Derived.ChangeArms
import Derived.Laws.StructEq
set_option linter.all false
set_option maxRecDepth 100000
set_option maxHeartbeats 4000000
namespace Go.Proofs.YtabhkakomececaaGreat
namespace Pat
open Go.RowKit Go.Lib Utf Nam Dig Go.ChangeShapes Go.WideShapes
def encP(x:St):List Value:=[.int .i64 x.1,.int .i64 x.2.1,.string x.2.2]
theorem encP_len(x:St):(encP x).length=3:=rfl
abbrev RdP:=RdG encP 3
def stV(x:St):Value:=.agg #[.int .i64 x.1,.int .i64 x.2.1,.string x.2.2]
def GoodS(x:St):Prop:=(-9223372036854775808≤x.1∧x.1≤9223372036854775807)∧(-9223372036854775808≤x.2.1∧x.2.1≤9223372036854775807)∧x.2.2.size≤maxLen
abbrev stN(xs:List St)(i:Nat):St:=xs.getD i (0,0,⟨#[]⟩)
theorem stN_get{xs:List St}{i:Nat}(h:i<xs.length):stN xs i=xs[i]:=by simp [stN,List.getD,List.getElem?_eq_getElem h]
theorem stN_mem{xs:List St}{i:Nat}(h:i<xs.length):stN xs i∈xs:=by rw [stN_get h];exact List.getElem_mem h
theorem RdP.op{w:World}{v:Value}{xs:List St}(h:RdP w v xs):∃(A:Option Addr)(c:Nat),v=.slice A xs.length c∧xs.length≤c ∧
  (0<xs.length→∃g o,A=some ⟨g,o,none⟩∧g<w.heap.size∧∀i,i<xs.length→w.cell? ⟨g,o+i*3,none⟩=some (.int .i64 (stN xs i).1)∧w.cell? ⟨g,o+i*3+1,none⟩=some (.int .i64 (stN xs i).2.1)∧w.cell? ⟨g,o+i*3+2,none⟩=some (.string (stN xs i).2.2)):=by
 obtain⟨A,c,rfl,hc,hr⟩:=RdG.open encP_len (by decide) h;refine⟨A,c,rfl,hc,fun h0=>?_⟩;obtain⟨g,o,rfl,hg,hca⟩:=hr h0;refine⟨g,o,rfl,hg,fun i hi=>?_⟩;rw [stN_get hi];exact⟨hca i hi 0 (by decide),hca i hi 1 (by decide),hca i hi 2 (by decide)⟩
theorem right_iff{k n:Int}{nm:ByteArray}:RightSt (k,n,nm)↔1≤k∧k≤5∧((k=1∨k=5)↔nm.size≠0)∧((k=1∨k=5)→rightS nm=true)∧(k≠2→n=0)∧0≤n:=Iff.rfl
end Pat
namespace Pat
open Go.RowKit Go.Lib Utf Nam Dig
theorem wrong_calls(x:St)(hx:GoodS x)(w:World)(R:Ending→World→Prop)
  (hR:Hid (∀w',Below w.heap.size w w'→R (.returned (.bool (decide (¬RightSt x)))) w')):Calls Tryz.prog 209 #[stV x] w R:=by
 obtain⟨k,n,nm⟩:=x;obtain⟨b1,b2,b3⟩:=hx;simp only at b1 b2 b3;have hbad:¬RightSt (k,n,nm)→decide (¬RightSt (k,n,nm))=true:=fun h=>decide_eq_true h
 have hgood:RightSt (k,n,nm)→decide (¬RightSt (k,n,nm))=false:=fun h=>decide_eq_false (fun q=>q h)
 generalize decide (¬RightSt (k,n,nm))=V at *;rw [right_iff]at hbad hgood;unfold stV;simp only;have nW:=Lib.hid ((Below.refl w.heap.size w).alloc (Nat.le_refl _) (.cells #[.int .i64 k,.int .i64 n,.string nm] 159));have cR:=fun(W:World) R hR=>right_calls nm b3 W R hR
 by_cases hk1:k<1∨5<k
 ·rw [hbad (fun h=>by omega)]at hR
  clear hbad hgood cR;have k1:(k==1)=false:=by simp;omega
  have k2:(k==2)=false:=by simp;omega
  have k3:(k==3)=false:=by simp;omega
  have k4:(k==4)=false:=by simp;omega
  have k5:(k==5)=false:=by simp;omega
  clear hk1;go_enter Tryz.func209,Tryz.ntmps209
  go_wp2_with fail
  exact hR.out _ nW.out
 have hk:k=1∨k=5∨k=2∨k=3∨k=4:=by omega
 clear hk1;rcases hk with rfl|rfl|rfl|rfl|rfl
 iterate 2
  ·by_cases hn:n=0
   ·subst hn
    cases hb:rightS nm
    ·rw [hbad (fun h=>by have:=h.2.2.2.1 (by decide);rw [hb]at this;cases this)]at hR
     rw [hb]at cR;replace cR:=Lib.hid cR;clear hbad hgood hb;go_enter Tryz.func209,Tryz.ntmps209
     go_wp2_with fail
     refine cR.out _ _ (Lib.hid ?_);go_wp2_with fail
     exact hR.out _ nW.out
    ·have:=rightS_pos hb
     rw [hgood ⟨by decide,by decide,⟨fun _=>by omega,fun _=>by decide⟩,fun _=>hb,fun _=>rfl,by decide⟩]at hR;rw [hb]at cR;replace cR:=Lib.hid cR;clear hbad hgood hb this;go_enter Tryz.func209,Tryz.ntmps209
     go_wp2_with fail
     refine cR.out _ _ (Lib.hid ?_);go_wp2_with fail
     exact hR.out _ nW.out
   ·rw [hbad (fun h=>hn (h.2.2.2.2.1 (by decide)))]at hR
    have hn':(n != 0)=true:=by simpa using hn
    clear hbad hgood cR;go_enter Tryz.func209,Tryz.ntmps209
    go_wp2_with fail
    exact hR.out _ nW.out
 ·clear cR
  by_cases hn:n<0
  ·rw [hbad (fun h=>by omega)]at hR
   clear hbad hgood;go_enter Tryz.func209,Tryz.ntmps209
   go_wp2_with fail
   exact hR.out _ nW.out
  ·by_cases hz:nm.size=0
   ·have hE:=isE_nil hz
    rw [hgood ⟨by decide,by decide,⟨fun h=>by omega,fun h=>absurd hz h⟩,fun h=>by omega,fun h=>absurd rfl h,by omega⟩]at hR;clear hbad hgood;go_enter Tryz.func209,Tryz.ntmps209
    go_wp2_with fail
    exact hR.out _ nW.out
   ·have hE:=isE_pos (s:=nm) (by omega)
    rw [hbad (fun h=>by have:=h.2.2.1.2 hz;omega)]at hR
    clear hbad hgood;go_enter Tryz.func209,Tryz.ntmps209
    go_wp2_with fail
    exact hR.out _ nW.out
 all_goals
  clear cR
  by_cases hn:n=0
  ·subst hn
   by_cases hz:nm.size=0
   ·rw [hgood ⟨by decide,by decide,⟨fun h=>by omega,fun h=>absurd hz h⟩,fun h=>by omega,fun h=>rfl,by omega⟩]at hR
    obtain rfl:=size0 hz;clear hbad hgood;go_enter Tryz.func209,Tryz.ntmps209
    go_wp2_with fail
    exact hR.out _ nW.out
   ·have hE:=isE_pos (s:=nm) (by omega)
    rw [hbad (fun h=>by have:=h.2.2.1.2 hz;omega)]at hR
    clear hbad hgood;go_enter Tryz.func209,Tryz.ntmps209
    go_wp2_with fail
    exact hR.out _ nW.out
  ·rw [hbad (fun h=>hn (h.2.2.2.2.1 (by decide)))]at hR
   have hn':(n != 0)=true:=by simpa using hn
   have hn2:(n==0)=false:=by simpa using hn
   clear hbad hgood;go_enter Tryz.func209,Tryz.ntmps209
   go_wp2_with fail
   exact hR.out _ nW.out
theorem index_calls(xs:List St)(v:Value)(w:World)(hx:RdP w v xs)(hg:∀x∈xs,GoodS x)(hl:xs.length≤1000000)(R:Ending→World→Prop)
  (hR:Hid (∀w' V,Below w.heap.size w w'→((0:Int)≤V↔¬∀x∈xs,RightSt x)→R (.returned (.int .i64 V)) w')):Calls Tryz.prog 256 #[v,.func (.func 209) #[] #[]] w R:=by
 obtain⟨A,c,rfl,hlc,hr⟩:=hx.op;replace hr:=Lib.hid hr;clear hx;go_enter Tryz.func256,Tryz.ntmps256
 go_wp2_with fail
 go_loopg [5,8] xs.length (fun k s5 i wr=>∃(K:Nat),Below w.heap.size w wr∧i=.int .i64 K∧K+k=xs.length∧Hid (∀j,j<K→RightSt (stN xs j)))
 case atStart=>exact⟨0,Below.refl _ _,rfl,by omega,Lib.hid fun j h=>by omega⟩
 case round =>
  obtain⟨K,hbel,rfl,c1,c2⟩:=hrel;have hsz:=hbel.size
  by_cases hK:K<xs.length
  ·obtain⟨g,o,rfl,hg1,hca⟩:=hr.out (by omega)
   obtain⟨a0,a1,a2⟩:=hca K hK;have e0:=(hbel.cell (p:=⟨g,o+K*3,none⟩) hg1).trans a0;have e1:=(hbel.cell (p:=⟨g,o+K*3+1,none⟩) hg1).trans a1;have e2:=(hbel.cell (p:=⟨g,o+K*3+2,none⟩) hg1).trans a2;have cW:=fun(W:World) R hR=>wrong_calls (stN xs K) (hg _ (stN_mem hK)) W R hR
   have hbad:¬RightSt (stN xs K)→¬∀x∈xs,RightSt x:=fun h q=>h (q _ (stN_mem hK))
   have hgood:RightSt (stN xs K)→∀j,j<K+1→RightSt (stN xs j):=fun h j hj=>by
    rcases Nat.eq_or_lt_of_le (Nat.le_of_lt_succ hj)with e|q
    ·subst e;exact h
    ·exact c2.out j q
   clear hca a0 a1 a2 c2;generalize stN xs K=x at *;obtain⟨k,n,nm⟩:=x;unfold stV at cW;simp only at e0 e1 e2 cW
   by_cases h:RightSt (k,n,nm)
   ·have q:=Lib.hid (hgood h)
    rw [decide_eq_false (fun q=>q h)]at cW;replace cW:=Lib.hid cW;clear hbad hgood h;go_wp2_with fail
    refine cW.out _ _ (Lib.hid fun w1 n1=>?_);have n2:=Lib.hid (hbel.trans (n1.mono hsz));clear n1;go_wp2_with fail
    go_roundg (gk-1)
    case measure=>omega
    case rel=>exact⟨K+1,n2.out,by go_num,by omega,q⟩
   ·have q:=Lib.hid (hbad h)
    rw [decide_eq_true h]at cW;replace cW:=Lib.hid cW;clear hbad hgood h;go_wp2_with fail
    refine cW.out _ _ (Lib.hid fun w1 n1=>?_);have n2:=Lib.hid (hbel.trans (n1.mono hsz));clear n1;go_wp2_with fail
    exact hR.out _ _ n2.out ⟨fun _=>q.out,fun _=>by omega⟩
  ·have e:∀x∈xs,RightSt x:=fun x hx=>by
    obtain⟨i,hi,e⟩:=List.getElem_of_mem hx;rw [←e,←stN_get hi];exact c2.out i (by omega)
   replace e:=Lib.hid e;clear c2;go_wp2_with fail
   exact hR.out _ _ hbel ⟨fun h=>by omega,fun h=>absurd e.out h⟩
theorem contains_calls(xs:List St)(v:Value)(w:World)(hx:RdP w v xs)(hg:∀x∈xs,GoodS x)(hl:xs.length≤1000000)(R:Ending→World→Prop)
  (hR:Hid (∀w',Below w.heap.size w w'→R (.returned (.bool (decide (¬∀x∈xs,RightSt x)))) w')):Calls Tryz.prog 208 #[v,.func (.func 209) #[] #[]] w R:=by
 have cI:=fun(W:World) hx R hR=>index_calls xs v W hx hg hl R hR
 have hx':=Lib.hid hx;obtain⟨D,hD⟩:∃D,decide (¬∀x∈xs,RightSt x)=D:=⟨_,rfl⟩;rw [hD]at hR;replace hD:=Lib.hid hD;obtain⟨A,c,rfl,hlc,hr⟩:=hx.op;clear hx hr hg;replace cI:=Lib.hid cI;go_enter Tryz.func208,Tryz.ntmps208
 go_wp2_with fail
 refine cI.out _ hx'.out _ (Lib.hid fun w1 V n1 hV=>?_);have e:D=decide (0≤V):=by rw [←hD.out];exact decide_eq_decide.2 hV.symm
 rw [e]at hR;clear e hV hD;go_wp2_with fail
 exact hR.out _ n1
theorem right_steps(xs:List St)(v:Value)(w:World)(hx:RdP w v xs)(hg:∀x∈xs,GoodS x)(R:Ending→World→Prop)
  (hR:Hid (∀w',Below w.heap.size w w'→R (.returned (.bool (decide (RightP xs)))) w')):Calls Tryz.prog 142 #[v] w R:=by
 by_cases h64:xs.length≤64
 ·have cC:=fun(W:World) hx R hR=>contains_calls xs v W hx hg (by omega) R hR
  have e:decide (RightP xs)=!decide (¬∀x∈xs,RightSt x):=by
   by_cases q:∀x∈xs,RightSt x
   ·rw [decide_eq_true ⟨h64,q⟩,decide_eq_false (fun h=>h q)];rfl
   ·rw [decide_eq_false (fun h=>q h.2),decide_eq_true q];rfl
  rw [e]at hR;have hx':=Lib.hid hx;generalize decide (¬∀x∈xs,RightSt x)=V at *;obtain⟨A,c,rfl,hlc,hr⟩:=hx.op;clear hx hr hg e;replace cC:=Lib.hid cC;cases V
  all_goals
   go_enter Tryz.func142,Tryz.ntmps142
   go_wp2_with fail
   refine cC.out _ hx'.out _ (Lib.hid fun w1 n1=>?_);go_wp2_with fail
   exact hR.out _ n1
 ·rw [decide_eq_false (fun h=>h64 h.1)]at hR
  obtain⟨A,c,rfl,hlc,hr⟩:=hx.op;clear hx hr hg;go_enter Tryz.func142,Tryz.ntmps142
  go_wp2_with fail
  exact hR.out _ (Below.refl _ _)
end Pat
end Go.Proofs.YtabhkakomececaaGreat
