import Derived.Test.YtncckdaflellnaaGreatQ5
import Derived.Laws.OwnMore
import Derived.Laws.MakeOwn
import Derived.Lib.OwnKind
import Derived.Test.YtncckdaflellnaaGreatQ0
import Derived.SliceStrings
import Derived.Deep.AppendLies
import Derived.Test.YtncckdaflellnaaGreatQ1
import Derived.ChangeArms
import Derived.Deep.DeepCutAuto
set_option linter.all false
set_option maxRecDepth 100000
set_option maxHeartbeats 4000000
namespace Go.Proofs.YtncckdaflellnaaGreat
namespace Rel
open Go.RowKit Go.Lib
def bv(r:List Bool):List Value:=r.map Value.bool
theorem bv_len(r:List Bool):(bv r).length=r.length:=by simp [bv]
theorem bv_get{r:List Bool}{i:Nat}(h:i<r.length):(bv r)[i]?=some (.bool (on r i)):=by simp [bv,on,List.getD,List.getElem?_eq_getElem h]
theorem bv_set(r:List Bool)(i:Nat)(b:Bool):(bv r).set i (.bool b)=bv (r.set i b):=by simp [bv,List.map_set]
theorem infoBool:(Tryz.prog.info? 4).map (fun i=>(i.zero,i.size,i.bytes))=some (some (.bool false),1,1):=by kernel_rfl
theorem infoRow:(Tryz.prog.info? 50).map (fun i=>(i.zero,i.size,i.bytes))=some (some (.slice none 0 0),1,24):=by kernel_rfl
theorem mk_bool(n:Nat)(hn:n≤1000000):∃M:Array Value,M.toList=bv (List.replicate n false) ∧
  ∀w,(Instr.makeSlice 50 (.int .i64 n) (.int .i64 n)).run Tryz.prog w=.ok (.slice (some ⟨w.heap.size,0,none⟩) n n) (w.alloc (.cells M 4)):=by
 obtain⟨i0,hi,hz0,hz1,hz2⟩:=info_parts infoBool;refine⟨madeCells (#[.bool false]) (n*1),by rw [toList_madeCells_one,Nat.mul_one];simp [bv],fun w=>?_⟩;have:=run_make (P:=Tryz.prog) w 50 4 i0 _ Tryz.underlying50 hi hz0 .i64 .i64 n n (by omega) (Int.le_refl _) (by rw [hz2];omega) (by omega)
 rw [hz1]at this;exact this
theorem own_made{w:World}{M:Array Value}{t:TypeId}{n:Nat}{xs:List Value}(h:M.toList=xs)(hn:xs.length=n)(hb:n≤maxLen):(w.alloc (.cells M t)).ownsRow w.heap.size t 1 (.slice (some ⟨w.heap.size,0,none⟩) n n) n xs:=by
 have hs:M.size=n:=by rw [←hn,←h];simp
 exact⟨by omega,.inr ⟨w.heap.size,n,M,rfl,Nat.le_refl _,heap_alloc_new w _,Nat.le_refl _,hb,by omega,by rw [Nat.mul_one,h];exact List.take_of_length_le (by omega)⟩⟩
theorem own_ne2{w:World}{B B':Nat}{e e':TypeId}{size size' n n':Nat}{v v':Value}{xs xs':List Value}(h:w.ownsRow B e size v n xs)(h':w.ownsRow B' e' size' v' n' xs')(hne:e≠e'):v.ownBlock=none∨v.ownBlock≠v'.ownBlock:=by
 cases hv:v.ownBlock with
 | none=>exact .inl rfl
 | some g =>
  refine .inr fun e1=>?_
  obtain⟨c,fz,h1⟩:=ownsRow_kind h g hv;obtain⟨c',fz',h2⟩:=ownsRow_kind h' g e1.symm;rw [h1]at h2;cases h2
  exact hne rfl
abbrev rw_(vs:List Value)(j:Nat):Value:=vs.getD j (.slice none 0 0)
def RdM(w:World)(v:Value)(n:Nat)(f:Nat→List Bool):Prop:=∃vs:List Value,RdAt w v 1 vs∧vs.length=n∧∀j,j<n→RdAt w (rw_ vs j) 1 (bv (f j))∧(f j).length=n
theorem RdM.below{w w':World}{v:Value}{n:Nat}{f:Nat→List Bool}(h:RdM w v n f)(hb:Below w.heap.size w w'):RdM w' v n f:=by
 obtain⟨vs,h1,h2,h3⟩:=h;exact⟨vs,h1.below hb,h2,fun j hj=>⟨(h3 j hj).1.below hb,(h3 j hj).2⟩⟩
theorem toN_drop{xs:List Pq}{i:Nat}(h:i<xs.length):(toN xs).drop i=((pqN xs i).1.toNat,(pqN xs i).2.toNat)::(toN xs).drop (i+1):=by
 unfold toN;rw [←List.map_drop,←List.map_drop,List.drop_eq_getElem_cons h,List.map_cons,pqN_get h]
theorem toN_drop_nil{xs:List Pq}{i:Nat}(h:xs.length≤i):(toN xs).drop i=[]:=by unfold toN;rw [←List.map_drop,List.drop_eq_nil_of_le h];rfl
theorem leads_calls(n:Nat)(xs:List Pq)(v:Value)(w:World)(hx:RdQ w v xs)(hr:RightQ n xs)(hl:xs.length≤maxLen)(R:Ending→World→Prop)
  (hR:Hid (∀v' w',RdM w' v' n (ldR n (toN xs))→Below w.heap.size w w'→R (.returned v') w')):Calls Tryz.prog 115 #[.int .i64 n,v] w R:=by
 obtain⟨A,c,rfl,hlc,hca⟩:=hx.op;have hn64:n≤64:=by have:=hr.1;omega
 obtain⟨M,hM,hmk⟩:=mk_bool n (by omega);obtain⟨i0,hI,hz0,hz1,hz2⟩:=info_parts infoRow;have hrp:=fun i (h:i<xs.length)=>hr.2 _ (pqN_mem h)
 replace hrp:=Lib.hid hrp;replace hca:=Lib.hid hca;replace hl:xs.length≤9223372036854775807:=hl;clear hx;go_enter Tryz.func115,Tryz.ntmps115
 go_wp2_with fail
 go_loopg [5,6] n (fun g o a wr=>∃(K:Nat) (vo:Value) (vs:List Value),vo=o∧a=.int .i64 K∧K+g=n∧Below w.heap.size w wr∧wr.ownsRow w.heap.size 50 1 vo K vs∧Hid (∀j,j<K→∃b,wr.ownsRow b 4 1 (rw_ vs j) n (bv (ldR n (toN xs) j))))
 case atStart=>exact⟨0,_,[],rfl,rfl,by omega,Below.refl _ _,World.ownsRow_nil _ _ _ _,Lib.hid fun j h=>by omega⟩
 case round =>
  obtain⟨K,vo,vs,rfl,rfl,c1,hbel,hown,hrows⟩:=hrel;obtain⟨W0,rfl⟩:∃W0,W0=wr:=⟨wr,rfl⟩;have hsz:=hbel.size
  by_cases hK:K<n
  ·obtain⟨kO,rfl⟩:∃kO,gk=kO+1:=⟨gk-1,by omega⟩
   have hm:=own_made (n:=n) (w:=W0) (t:=4) hM (by simp [bv]) (by unfold maxLen;omega)
   have k1:=(World.ownsRow.cellAt hm K (by omega)).trans (bv_get (by simpa using hK));have k2:=World.ownsRow.frozenAt hm K;have hM2:(M.setIfInBounds K (.bool true)).toList=bv (row0 n K):=by rw [Array.toList_setIfInBounds,hM,bv_set];rfl
   have hs:=Lib.hid (own_made (n:=n) (w:=W0) (t:=4) hM2 (by rw [bv_len,row0_len]) (by unfold maxLen;omega))
   have b2:=Lib.hid ((Below.refl W0.heap.size W0).alloc (Nat.le_refl _) (.cells (M.setIfInBounds K (.bool true)) 4));clear hm hM2;go_wp2_with fail
   go_loopg [8] n (fun g k w2=>∃(J:Nat) (r:List Bool),k=.int .i64 J∧J+g=n∧Below W0.heap.size W0 w2∧w2.ownsRow W0.heap.size 4 1 (.slice (some ⟨W0.heap.size,0,none⟩) n n) n (bv r)∧Hid (itr (toN xs) g r=ldR n (toN xs) K))
   case atStart=>exact⟨0,_,rfl,by omega,b2.out,hs.out,Lib.hid (by rfl)⟩
   case round =>
    obtain⟨J,r,rfl,d1,b3,own3,d2⟩:=hrel
    by_cases hJ:J<n
    ·obtain⟨kI,rfl⟩:∃kI,gk=kI+1:=⟨gk-1,by omega⟩
     have e:=d2.out;rw [itr]at e;clear d2;go_wp2_with fail
     go_loopg [9] xs.length (fun g i w4=>∃(I:Nat) (q:List Bool),i=.int .i64 I∧I+g=xs.length∧Below W0.heap.size W0 w4∧w4.ownsRow W0.heap.size 4 1 (.slice (some ⟨W0.heap.size,0,none⟩) n n) n (bv q)∧Hid (pass ((toN xs).drop I) q=pass (toN xs) r))
     case atStart=>exact⟨0,r,rfl,by omega,b3,own3,Lib.hid (by rw [List.drop_zero])⟩
     case round =>
      obtain⟨I,q,rfl,f1,b5,own5,f2⟩:=hrel;have hql:q.length=n:=by have:=own5.1;rw [bv_len]at this;omega
      by_cases hI2:I<xs.length
      ·obtain⟨g,o,rfl,hg1,hcc⟩:=hca.out (by omega)
       obtain⟨a0,a1⟩:=hcc I hI2;have ff:=f2.out;rw [toN_drop hI2]at ff;obtain⟨⟨p1,p2⟩,p3,p4⟩:=hrp.out I hI2;have e0:=(b5.cell (p:=⟨g,o+I*2,none⟩) (Nat.lt_of_lt_of_le hg1 hsz)).trans ((hbel.cell (p:=⟨g,o+I*2,none⟩) hg1).trans a0);have e1:=(b5.cell (p:=⟨g,o+I*2+1,none⟩) (Nat.lt_of_lt_of_le hg1 hsz)).trans ((hbel.cell (p:=⟨g,o+I*2+1,none⟩) hg1).trans a1);clear hcc a0 a1 f2;generalize pqN xs I=x at *;obtain⟨x1,x2⟩:=x;simp only at e0 e1 p1 p2 p3 p4 ff;obtain⟨u1,rfl⟩:∃u:Nat,x1=u:=⟨x1.toNat,by omega⟩;obtain⟨u2,rfl⟩:∃u:Nat,x2=u:=⟨x2.toNat,by omega⟩;rw [Int.toNat_natCast,Int.toNat_natCast]at ff;replace ff:pass ((toN xs).drop (I+1)) (lay q (u1,u2))=pass (toN xs) r:=ff;have r1:=(World.ownsRow.cellAt own5 u1 (by omega)).trans (bv_get (by omega));have r2:=(World.ownsRow.cellAt own5 u2 (by omega)).trans (bv_get (by omega));have r3:=World.ownsRow.frozenAt own5 u2;unfold lay at ff;simp only at ff;cases hb:on q u1
       ·rw [hb]at ff r1
        simp only[Bool.false_eq_true,if_false]at ff;replace ff:=Lib.hid ff;clear hb r2 r3;go_wp2_with fail
        go_roundg (gk-1)
        case measure=>omega
        case rel=>exact⟨I+1,q,by go_num,by omega,b5,own5,ff⟩
       ·rw [hb]at ff r1
        simp only[if_true]at ff;replace ff:=Lib.hid ff;have o6:=(World.ownsRow.stored own5 u2 (.bool true)).1;rw [bv_set]at o6;have b6:=Lib.hid (b5.setCell (p:=⟨W0.heap.size,u2,none⟩) (Nat.le_refl _) (.bool true));replace o6:=Lib.hid o6;clear hb own5 b5;go_wp2_with fail
        go_roundg (gk-1)
        case measure=>omega
        case rel=>exact⟨I+1,_,by go_num,by omega,b6.out,o6.out,ff⟩
      ·rw [toN_drop_nil (by omega)]at f2
       obtain rfl:q=pass (toN xs) r:=f2.out;go_wp2_with fail
       go_roundg kI
       case measure=>omega
       case rel=>exact⟨J+1,_,by go_num,by omega,b5,own5,Lib.hid e⟩
    ·obtain rfl:gk=0:=by omega
     obtain rfl:r=ldR n (toN xs) K:=d2.out;clear d2;have o1:=own_below hown b3;have hsz2:=Nat.le_trans hsz b3.size;go_wp2_with (at_builtin;go_loud (refine app1 _ (.slice (some ⟨W0.heap.size,0,none⟩) n n) 50 rfl _ _ 42 rfl w.heap.size i0 (.slice none 0 0) 24 Tryz.underlying42 hI hz0 hz1 hz2 rfl vo _ _ rfl o1 rfl rfl (by unfold maxLen;omega) (by omega) hsz2 ?_);intro v' w3 hown3 hg3 hb3)
     have bW:=hbel.trans ((b3.mono hsz).trans hb3);have hvs:vs.length=K:=by have:=hown.1;omega
     have hrows2:∀j,j<K+1→∃b,w3.ownsRow b 4 1 (rw_ (vs++[.slice (some ⟨W0.heap.size,0,none⟩) n n]) j) n (bv (ldR n (toN xs) j)):=fun j hj=>by
      rcases Nat.eq_or_lt_of_le (Nat.le_of_lt_succ hj)with e|hj
      ·subst e
       rw [show rw_ (vs++[.slice (some ⟨W0.heap.size,0,none⟩) n n]) j=.slice (some ⟨W0.heap.size,0,none⟩) n n by simp [rw_,List.getD,←hvs]];exact⟨_,own3.kept hg3 (own_ne2 own3 o1 (by decide))⟩
      ·obtain⟨b,hb⟩:=hrows.out j hj
       rw [show rw_ (vs++[.slice (some ⟨W0.heap.size,0,none⟩) n n]) j=rw_ vs j by simp [rw_,List.getD,List.getElem?_append_left (show j<vs.length by omega)]];have hb':=own_below hb b3;exact⟨b,hb'.kept hg3 (own_ne2 hb' o1 (by decide))⟩
     replace hrows2:=Lib.hid hrows2;go_roundg kO
     case measure=>omega
     case rel=>exact⟨K+1,v',_,rfl,by go_num,by omega,bW,hown3,hrows2⟩
  ·obtain rfl:K=n:=by omega
   have rd:RdM W0 vo K (ldR K (toN xs)):=⟨vs,RdAt.of_own hown,by have:=hown.1;omega,fun j hj=>by
    obtain⟨b,hb⟩:=hrows.out j hj;exact⟨RdAt.of_own hb,ldR_len _ _ _⟩⟩
   replace rd:=Lib.hid rd;clear hown hrows;go_wp2_with fail
   exact hR.out _ _ rd.out hbel
theorem RdM.op{w:World}{v:Value}{n:Nat}{f:Nat→List Bool}(h:RdM w v n f):∃(A:Option Addr)(c:Nat),v=.slice A n c∧n≤c ∧
  (0<n→∃g o,A=some ⟨g,o,none⟩∧g<w.heap.size∧∀a,a<n→∃g' o' c',w.cell? ⟨g,o+a,none⟩=some (.slice (some ⟨g',o',none⟩) n c')∧g'<w.heap.size∧∀b,b<n→w.cell? ⟨g',o'+b,none⟩=some (.bool (on (f a) b))):=by
 obtain⟨vs,⟨A,m,c,rfl,hl,hm,hc⟩,hn,hrow⟩:=h;obtain rfl:m=n:=by omega
 refine⟨A,c,rfl,hm,fun h0=>?_⟩;obtain⟨g,o,rfl,hg,hcell⟩:=hc (by omega);refine⟨g,o,rfl,hg,fun a ha=>?_⟩;obtain⟨⟨A',m',c',e,hl',hm',hc'⟩,hfl⟩:=hrow a ha;rw [bv_len,hfl]at hl';obtain rfl:m'=m:=by omega
 obtain⟨g',o',rfl,hg',hcell'⟩:=hc' (by rw [bv_len,hfl];omega)
 refine⟨g',o',c',?_,hg',fun b hb=>hcell' b _ (bv_get (by omega))⟩;refine hcell a _ ?_;rw [←e];have:a<vs.length:=by omega
 simp [rw_,List.getD,List.getElem?_eq_getElem this]
theorem refloop_calls(n:Nat)(f:Nat→List Bool)(v:Value)(w:World)(hm:RdM w v n f)(hn:n≤64)(R:Ending→World→Prop)
  (hR:Hid (R (.returned (.int .i64 (loopS n fun a b=>on (f a) b))) w)):Calls Tryz.prog 132 #[v] w R:=by
 obtain⟨A,c,rfl,hc,hr⟩:=hm.op;replace hr:=Lib.hid hr;clear hm;go_enter Tryz.func132,Tryz.ntmps132
 go_wp2_with fail
 go_loopg [3] n (fun g a wr=>∃(K:Nat),wr=w∧a=.int .i64 K∧K+g=n∧Hid (∀j,j<K→inLoop n (fun a b=>on (f a) b) j=false))
 case atStart=>exact⟨0,rfl,rfl,by omega,Lib.hid fun j h=>by omega⟩
 case round =>
  obtain⟨K,rfl,rfl,c1,c2⟩:=hrel
  by_cases hK:K<n
  ·obtain⟨kO,rfl⟩:∃kO,gk=kO+1:=⟨gk-1,by omega⟩
   go_wp2_with fail
   go_loopg [4] n (fun g b w2=>∃(J:Nat),w2=wr∧b=.int .i64 J∧J+g=n∧Hid (∀b,b<J→¬(K≠b∧on (f K) b=true∧on (f b) K=true)))
   case atStart=>exact⟨0,rfl,rfl,by omega,Lib.hid fun j h=>by omega⟩
   case round =>
    obtain⟨J,rfl,rfl,d1,d2⟩:=hrel
    by_cases hJ:J<n
    ·have skip:¬(K≠J∧on (f K) J=true∧on (f J) K=true)→∀b,b<J+1→¬(K≠b∧on (f K) b=true∧on (f b) K=true):=fun h b hb=>by
      rcases Nat.eq_or_lt_of_le (Nat.le_of_lt_succ hb)with e|q
      ·subst e;exact h
      ·exact d2.out b q
     have hit:(K≠J∧on (f K) J=true∧on (f J) K=true)→loopS n (fun a b=>on (f a) b)=K:=fun h=>least_is hK (inLoop_iff.2 ⟨J,hJ,h.1,h.2.1,h.2.2⟩) c2.out
     clear d2
     by_cases hq:K=J
     ·subst hq
      have s:=Lib.hid (skip (fun h=>h.1 rfl));clear skip hit;go_wp2_with fail
      go_roundg (gk-1)
      case measure=>omega
      case rel=>exact⟨K+1,rfl,by go_num,by omega,s⟩
     ·have hq':((K:Int) != (J:Int))=true:=by simp;omega
      obtain⟨g,o,rfl,hg,hrow⟩:=hr.out (by omega);obtain⟨g1,o1,c1',x0,hg1,hc1⟩:=hrow K hK;obtain⟨g2,o2,c2',x1,hg2,hc2⟩:=hrow J hJ;have x2:=hc1 J hJ;have x3:=hc2 K hK;clear hrow hc1 hc2;cases e1:on (f K) J
      ·have s:=Lib.hid (skip (fun h=>by rw [e1]at h;cases h.2.1))
       rw [e1]at x2;clear skip hit e1;go_wp2_with fail
       go_roundg (gk-1)
       case measure=>omega
       case rel=>exact⟨J+1,rfl,by go_num,by omega,s⟩
      ·cases e2:on (f J) K
       ·have s:=Lib.hid (skip (fun h=>by rw [e2]at h;cases h.2.2))
        rw [e1]at x2;rw [e2]at x3;clear skip hit e1 e2;go_wp2_with fail
        go_roundg (gk-1)
        case measure=>omega
        case rel=>exact⟨J+1,rfl,by go_num,by omega,s⟩
       ·have s:=hit ⟨hq,e1,e2⟩
        rw [s]at hR;rw [e1]at x2;rw [e2]at x3;clear skip hit e1 e2 s;go_wp2_with fail
        exact hR.out
    ·have s:∀j,j<K+1→inLoop n (fun a b=>on (f a) b) j=false:=fun j hj=>by
      rcases Nat.eq_or_lt_of_le (Nat.le_of_lt_succ hj)with e|q
      ·subst e
       cases e:inLoop n (fun a b=>on (f a) b) j
       ·rfl
       ·obtain⟨b,hb,h1,h2,h3⟩:=inLoop_iff.1 e
        exact absurd ⟨h1,h2,h3⟩ (d2.out b (by omega))
      ·exact c2.out j q
     replace s:=Lib.hid s;clear d2 c2;go_wp2_with fail
     go_roundg kO
     case measure=>omega
     case rel=>exact⟨K+1,rfl,by go_num,by omega,s⟩
  ·have s:loopS n (fun a b=>on (f a) b)=-1:=least_none fun j hj=>c2.out j (by omega)
   rw [s]at hR;clear c2 s;go_wp2_with fail
   exact hR.out
def ivR(o:List Nat):List Value:=o.map fun i=>.int .i64 (i:Nat)
theorem ivR_len(o:List Nat):(ivR o).length=o.length:=by simp [ivR]
theorem ivR_at{w:World}{v:Value}{o:List Nat}(h:RdAt w v 1 (ivR o)):∃(A:Option Addr)(c:Nat),v=.slice A o.length c∧o.length≤c∧(0<o.length→∃g p,A=some ⟨g,p,none⟩∧g<w.heap.size∧∀i,i<o.length→w.cell? ⟨g,p+i,none⟩=some (.int .i64 (o.getD i 0:Nat))):=by
 obtain⟨A,n,c,rfl,hl,hn,hc⟩:=h;rw [ivR_len]at hl;obtain rfl:n=o.length:=by omega
 refine⟨A,c,rfl,hn,fun h0=>?_⟩;obtain⟨g,p,rfl,hg,hc⟩:=hc (by rw [ivR_len];omega)
 exact⟨g,p,rfl,hg,fun i hi=>hc i _ (by simp [ivR,List.getD,List.getElem?_eq_getElem hi])⟩
theorem infoIntR:(Tryz.prog.info? 3).map (fun i=>(i.zero,i.size,i.bytes))=some (some (.int .i64 0),1,8):=by kernel_rfl
end Rel
namespace Nam
open Go.RowKit Go.Lib Utf Go.ChangeShapes Go.WideShapes
def sv(l:List ByteArray):List Value:=l.map Value.string
theorem sv_len(l:List ByteArray):(sv l).length=l.length:=by simp [sv]
theorem sv_append(l m:List ByteArray):sv (l++m)=sv l++sv m:=by simp [sv]
theorem sv_get(l:List ByteArray)(k:Nat)(h:k<l.length):(sv l)[k]?=some (.string (l.getD k ByteArray.empty)):=by simp [sv,List.getD,List.getElem?_eq_getElem h]
def RdS(w:World)(v:Value)(l:List ByteArray):Prop:=RdAt w v 1 (sv l)
theorem RdS.below{w w':World}{v:Value}{l:List ByteArray}(h:RdS w v l)(hb:Below w.heap.size w w'):RdS w' v l:=RdAt.below h hb
theorem RdS.open{w:World}{v:Value}{l:List ByteArray}(h:RdS w v l):∃(A:Option Addr)(c:Nat),v=.slice A l.length c∧l.length≤c ∧
  (0<l.length→∃g o,A=some ⟨g,o,none⟩∧g<w.heap.size∧∀k,k<l.length→w.cell? ⟨g,o+k,none⟩=some (.string (l.getD k ByteArray.empty))):=by
 obtain⟨A,n,c,rfl,hl,hn,hc⟩:=h;rw [sv_len]at hl;obtain rfl:n=l.length:=by omega
 refine⟨A,c,rfl,hn,fun h0=>?_⟩;obtain⟨g,o,rfl,hg,hc⟩:=hc (by rw [sv_len];omega)
 exact⟨g,o,rfl,hg,fun k hk=>hc _ _ (sv_get l k hk)⟩
theorem RdS.of_own{w:World}{base:Nat}{e:TypeId}{n:Nat}{v:Value}{l:List ByteArray}(h:w.ownsRow base e 1 v n (sv l)):RdS w v l:=RdAt.of_own h
theorem grown_keep{W w2:World}{o:Obj}{row:Option Nat}(h:(W.alloc o).drew.grownBy w2 row){g x:Nat}{u:Value}(hg:g<W.heap.size)(hr:some g≠row)(hc:W.cell? ⟨g,x,none⟩=some u):w2.cell? ⟨g,x,none⟩=some u :=
((h.cell_far ⟨g,x,none⟩ (by show g<(W.alloc o).heap.size;simp;omega) hr).trans (((Below.refl W.heap.size W).alloc (Nat.le_refl _) o).cell (p:=⟨g,x,none⟩) hg)).trans hc
theorem grown_keepF{W w2:World}{o:Obj}{row:Option Nat}(h:(W.alloc o).drew.grownBy w2 row){g x:Nat}{u:Bool}(hg:g<W.heap.size)(hr:some g≠row)(hc:W.frozen? ⟨g,x,none⟩=u):w2.frozen? ⟨g,x,none⟩=u :=
((h.frozen_far ⟨g,x,none⟩ (by show g<(W.alloc o).heap.size;simp;omega) hr).trans (((Below.refl W.heap.size W).alloc (Nat.le_refl _) o).frozen (p:=⟨g,x,none⟩) hg)).trans hc
theorem alloc_keep{W:World}{o:Obj}{g x:Nat}{u:Value}(hg:g<W.heap.size)(hc:W.cell? ⟨g,x,none⟩=some u):((W.alloc o).drew).cell? ⟨g,x,none⟩=some u:=(((Below.refl W.heap.size W).alloc (Nat.le_refl _) o).cell (p:=⟨g,x,none⟩) hg).trans hc
theorem set_keepF{W:World}{g x:Nat}{a:Addr}{u:Bool}{v:Value}(hc:W.frozen? ⟨g,x,none⟩=u):(W.setCell a v).frozen? ⟨g,x,none⟩=u:=by rw [World.frozen?_setCell];exact hc
theorem seq_t{a b:ByteArray}(h:a=b):(a.toList==b.toList)=true:=by rw [seq_iff];exact decide_eq_true h
theorem seq_f{a b:ByteArray}(h:¬a=b):(a.toList==b.toList)=false:=by rw [seq_iff];exact decide_eq_false h
theorem getD_at{xs:List ByteArray}{j:Nat}(h:j<xs.length):xs[j]?=some (xs.getD j ByteArray.empty):=by simp [List.getD,List.getElem?_eq_getElem h]
theorem find_lt{xs:List ByteArray}{K:Nat}(hK:K<xs.length):findS xs (xs.getD K ByteArray.empty)<K↔xs.getD K ByteArray.empty∈xs.take K:=by
 rcases find_cases xs (xs.getD K ByteArray.empty)with⟨-,h⟩|⟨m,h1,h2,h3,h4⟩
 ·exact absurd (List.mem_of_getElem? (getD_at hK)) h
 ·rw [h4]
  constructor
  ·intro h
   refine List.mem_take_iff_getElem.2 ⟨m,by omega,?_⟩;rw [List.getElem?_eq_getElem h1]at h2;exact Option.some.inj h2
  ·intro h
   obtain⟨i,hi,e⟩:=List.mem_take_iff_getElem.1 h;have:¬i<m:=fun q=>h3 i q (by rw [List.getElem?_eq_getElem (by omega),e])
   omega
end Nam
namespace Lat
open Go.RowKit Go.Lib Rel Nam Go.ChangeShapes Go.WideShapes
def encR(x:Pr):List Value:=[.string x.1.1,.int .i64 x.1.2,.string x.2.1,.int .i64 x.2.2]
theorem encR_len(x:Pr):(encR x).length=4:=rfl
abbrev RdPr:=RdG encR 4
def GoodR(x:Pr):Prop:=GoodW x.1∧GoodW x.2
instance (x:Pr):Decidable (GoodR x):=by unfold GoodR;infer_instance
theorem RdPr.op{w:World}{v:Value}{xs:List Pr}(h:RdPr w v xs):∃(A:Option Addr)(c:Nat),v=.slice A xs.length c∧xs.length≤c ∧
  (0<xs.length→∃g o,A=some ⟨g,o,none⟩∧g<w.heap.size∧∀i,i<xs.length→w.cell? ⟨g,o+i*4,none⟩=some (.string (pN xs i).1.1)∧w.cell? ⟨g,o+i*4+1,none⟩=some (.int .i64 (pN xs i).1.2) ∧
   w.cell? ⟨g,o+i*4+2,none⟩=some (.string (pN xs i).2.1)∧w.cell? ⟨g,o+i*4+3,none⟩=some (.int .i64 (pN xs i).2.2)):=by
 obtain⟨A,c,rfl,hc,hr⟩:=RdG.open encR_len (by decide) h;refine⟨A,c,rfl,hc,fun h0=>?_⟩;obtain⟨g,o,rfl,hg,hca⟩:=hr h0;refine⟨g,o,rfl,hg,fun i hi=>?_⟩;rw [pN_get hi];exact⟨hca i hi 0 (by decide),hca i hi 1 (by decide),hca i hi 2 (by decide),hca i hi 3 (by decide)⟩
theorem reffind11_calls(ws:List Wr)(s:ByteArray)(v:Value)(w:World)(hx:RdW w v ws)(hl:ws.length≤1000000)(R:Ending→World→Prop)
  (hR:Hid (R (.returned (.int .i64 (findS (nms ws) s))) w)):Calls Tryz.prog 131 #[v,.string s] w R:=by
 obtain⟨A,c,rfl,hlc,hr⟩:=hx.op;replace hr:=Lib.hid hr;clear hx;go_enter Tryz.func131,Tryz.ntmps131
 go_wp2_with fail
 go_loopg [5] ws.length (fun k i wr=>∃(K:Nat),wr=w∧i=.int .i64 K∧K+k=ws.length∧Hid (∀j,j<K→(nms ws)[j]?≠some s))
 case atStart=>exact⟨0,rfl,rfl,by omega,Lib.hid fun j h=>by omega⟩
 case round =>
  obtain⟨K,rfl,rfl,c1,c2⟩:=hrel
  by_cases hK:K<ws.length
  ·obtain⟨g,o,rfl,hg,hca⟩:=hr.out (by omega)
   have e0:=(hca K hK).1;have e1:=nms_get hK;clear hca;generalize(wN ws K).1=x at *;have hi0:(0:Int)≤(K:Int):=by omega
   have hi1:(K:Int)<(ws.length:Int):=by omega
   by_cases hq:x=s
   ·have e2:findS (nms ws) s=K:=find_is (by rw [e1,hq]) c2.out
    rw [e2]at hR;have h3:=seq_t hq;clear hq e1 c2;go_wp2_with fail
    exact hR.out
   ·have h3:=seq_f hq
    have e2:∀j,j<K+1→(nms ws)[j]?≠some s:=fun j hj=>by
     rcases Nat.eq_or_lt_of_le (Nat.le_of_lt_succ hj)with e|h
     ·subst e;rw [e1];exact fun h=>hq (Option.some.inj h)
     ·exact c2.out j h
    replace e2:=Lib.hid e2;clear hq e1 c2;go_wp2_with fail
    go_roundg (gk-1)
    case measure=>omega
    case rel=>exact⟨K+1,rfl,by go_num,by omega,e2⟩
  ·have e:findS (nms ws) s=-1:=find_none fun hm=>by
    obtain⟨j,hj,e⟩:=List.getElem_of_mem hm;rw [nms_len]at hj;exact c2.out j (by omega) (by rw [List.getElem?_eq_getElem (by rw [nms_len];exact hj),e])
   rw [e]at hR;clear c2;go_wp2_with fail
   exact hR.out
def preB(F:Nat→Nat→Bool)(a b c L:Nat):Bool:=F a c&&F b c&&(List.range L).all fun d=>!(F a d&&F b d)||F c d
theorem pre_zero(F:Nat→Nat→Bool)(a b c:Nat):preB F a b c 0=(F a c&&F b c):=by unfold preB;simp
theorem pre_succ(F:Nat→Nat→Bool)(a b c L:Nat):preB F a b c (L+1)=(preB F a b c L&&(!(F a L&&F b L)||F c L)):=by
 unfold preB;rw [List.range_succ,List.all_append];simp [Bool.and_assoc]
theorem refjoin_calls(n:Nat)(f:Nat→List Bool)(v:Value)(w:World)(hm:RdM w v n f)(hn:n≤64)(a b:Nat)(ha:a<n)(hb:b<n)(R:Ending→World→Prop)
  (hR:Hid (R (.returned (.int .i64 (joinS n (fun a b=>on (f a) b) a b))) w)):Calls Tryz.prog 61 #[v,.int .i64 a,.int .i64 b] w R:=by
 obtain⟨A,c,rfl,hc,hr⟩:=hm.op;obtain⟨g,o,rfl,hg,hrow⟩:=hr (by omega);obtain⟨ga,oa,ca,x0,hga,hca⟩:=hrow a ha;obtain⟨gb,ob,cb,x1,hgb,hcb⟩:=hrow b hb;obtain⟨F,hF⟩:∃F:Nat→Nat→Bool,F=fun a b=>on (f a) b:=⟨_,rfl⟩
 have hF2:∀a b,on (f a) b=F a b:=fun a b=>by rw [hF]
 simp only[hF2]at hca hcb
 have hrow2:∀i,i<n→∃g1 o1 c1,w.cell? ⟨g,o+i,none⟩=some (.slice (some ⟨g1,o1,none⟩) n c1)∧g1<w.heap.size∧∀j,j<n→w.cell? ⟨g1,o1+j,none⟩=some (.bool (F i j)):=fun i hi=>by
  obtain⟨g1,o1,c1,h1,h2,h3⟩:=hrow i hi;exact⟨g1,o1,c1,h1,h2,fun j hj=>by rw [←hF2];exact h3 j hj⟩
 rw [←hF]at hR;replace hrow2:=Lib.hid hrow2;replace hca:=Lib.hid hca;replace hcb:=Lib.hid hcb;clear hF hF2 hm hrow hr;have ia0:(0:Int)≤(a:Int):=by omega
 have ia1:(a:Int)<(n:Int):=by omega
 have ib0:(0:Int)≤(b:Int):=by omega
 have ib1:(b:Int)<(n:Int):=by omega
 go_enter Tryz.func61,Tryz.ntmps61
 go_wp2_with fail
 go_loopg [7] n (fun g c wr=>∃K:Nat,c=.int .i64 K∧K+g=n∧wr=w∧Hid (leastF (bestB n F a b) g K=joinS n F a b))
 case atStart=>exact⟨0,rfl,by omega,rfl,Lib.hid rfl⟩
 case round =>
  obtain⟨K,rfl,c1,rfl,hk⟩:=hrel
  by_cases hK:K<n
  ·obtain⟨kO,rfl⟩:∃kO,gk=kO+1:=⟨gk-1,by omega⟩
   obtain⟨gc,oc,cc,x2,hgc,hcc⟩:=hrow2.out K hK;have y0:=hca.out K hK;have y1:=hcb.out K hK;have hk2:=hk.out;rw [leastF]at hk2;replace hcc:=Lib.hid hcc;have hp0:=pre_zero F a b K;obtain⟨B0,hB0⟩:∃B,preB F a b K 0=B:=⟨_,rfl⟩;have hk3:bestB n F a b K=preB F a b K n:=rfl;rw [hk3]at hk2;replace hk2:=Lib.hid hk2;have ik0:(0:Int)≤(K:Int):=by omega
   have ik1:(K:Int)<(n:Int):=by omega
   have hB:B0=(F a K&&F b K):=by rw [←hB0,hp0]
   replace hB0:=Lib.hid hB0;clear hk hk3 hp0;generalize F a K=p1 at *;generalize F b K=p2 at *;go_upto_region 4 with fail
   go_cut [8] (fun e wx=>e=.bool B0∧wx=wr)
   case first =>
    cases p1
    ·obtain rfl:B0=false:=hB
     go_wp2_with fail
     go_meet;exact⟨rfl,rfl⟩
    ·obtain rfl:B0=p2:=by rw [hB];rfl
     clear hB;go_wp2_with fail
     go_meet;exact⟨rfl,rfl⟩
   case rest =>
    obtain⟨rfl,rfl⟩:=hcut;clear hB y0 y1;go_wp2_with fail
    go_loopg [8,9] n (fun g best d wr=>∃(L:Nat) (B:Bool),best=.bool B∧d=.int .i64 L∧L+g=n∧wr=wc∧Hid (preB F a b K L=B))
    case atStart=>exact⟨0,B0,rfl,rfl,by omega,rfl,hB0⟩
    case round =>
     obtain⟨L,B,rfl,rfl,d1,rfl,hp⟩:=hrel
     by_cases hL:L<n
     ·have y0:=hca.out L hL
      have y1:=hcb.out L hL;have y2:=hcc.out L hL;have hs:=pre_succ F a b K L;rw [hp.out]at hs;replace hs:=Lib.hid hs;have il0:(0:Int)≤(L:Int):=by omega
      have il1:(L:Int)<(n:Int):=by omega
      clear hB0 hp;generalize F a L=p1 at *;generalize F b L=p2 at *;generalize F K L=p3 at *;cases p1
      ·go_wp2_with fail
       go_roundg (gk-1)
       case measure=>omega
       case rel=>exact⟨L+1,B,rfl,by go_num,by omega,rfl,Lib.hid (by rw [hs.out];simp)⟩
      cases p2
      ·go_wp2_with fail
       go_roundg (gk-1)
       case measure=>omega
       case rel=>exact⟨L+1,B,rfl,by go_num,by omega,rfl,Lib.hid (by rw [hs.out];simp)⟩
      cases p3
      ·go_wp2_with fail
       go_roundg (gk-1)
       case measure=>omega
       case rel=>exact⟨L+1,false,rfl,by go_num,by omega,rfl,Lib.hid (by rw [hs.out];simp)⟩
      ·go_wp2_with fail
       go_roundg (gk-1)
       case measure=>omega
       case rel=>exact⟨L+1,B,rfl,by go_num,by omega,rfl,Lib.hid (by rw [hs.out];simp)⟩
     ·obtain rfl:L=n:=by omega
      have e:=hk2.out;rw [hp.out]at e;cases B
      ·rw [if_neg (by simp)]at e
       replace e:=Lib.hid e;go_wp2_with fail
       go_roundg kO
       case measure=>omega
       case rel=>exact⟨K+1,by go_num,by omega,rfl,e⟩
      ·rw [if_pos rfl]at e
       rw [←e]at hR;go_wp2_with fail
       exact hR.out
  ·obtain rfl:gk=0:=by omega
   have e:=hk.out;rw [leastF]at e;rw [←e]at hR;clear hk e;go_wp2_with fail
   exact hR.out
end Lat
namespace Lat
open Go.RowKit Go.Lib Rel Nam
def turnR(n:Nat)(f:Nat→List Bool)(a:Nat):List Bool:=(List.range n).map fun b=>on (f b) a
theorem turn_len(n:Nat)(f:Nat→List Bool)(a:Nat):(turnR n f a).length=n:=by simp [turnR]
theorem turn_on{n:Nat}(f:Nat→List Bool)(a:Nat){b:Nat}(h:b<n):on (turnR n f a) b=on (f b) a:=by
 unfold turnR
 have:on ((List.range n).map fun b=>on (f b) a) b=((List.range n).map fun b=>on (f b) a)[b]'(by simpa using h):=by
  unfold on;rw [List.getD,List.getElem?_eq_getElem (by simpa using h)];rfl
 rw [this];simp
theorem on_setV{r:List Bool}{i:Nat}(hi:i<r.length)(x:Bool)(j:Nat):on (r.set i x) j=if i=j then x else on r j:=by
 unfold on;rw [List.getD,List.getElem?_set]
 by_cases h:i=j
 ·subst h;simp [hi]
 ·simp [h]
def TurnW(n:Nat)(f:Nat→List Bool)(K J:Nat)(r:List Bool):Prop:=∀b,b<n→on r b=(decide (b<J)&&on (f b) K)
theorem TurnW.put{n:Nat}{f:Nat→List Bool}{K J:Nat}{r:List Bool}(h:TurnW n f K J r)(hr:r.length=n)(hJ:J<n):TurnW n f K (J+1) (r.set J (on (f J) K)):=fun b hb=>by
 rw [on_setV (by omega)]
 by_cases e:J=b
 ·subst e;rw [if_pos rfl,decide_eq_true (by omega:J<J+1)];rfl
 ·rw [if_neg e,h b hb]
  by_cases q:b<J
  ·rw [decide_eq_true q,decide_eq_true (by omega:b<J+1)]
  ·rw [decide_eq_false q,decide_eq_false (by omega:¬b<J+1)]
theorem TurnW.fin{n:Nat}{f:Nat→List Bool}{K:Nat}{r:List Bool}(h:TurnW n f K n r)(hr:r.length=n):r=turnR n f K:=by
 refine row_ext (by rw [hr,turn_len]) fun i=>?_
 by_cases hi:i<n
 ·rw [h i hi,turn_on f K hi,decide_eq_true hi];rfl
 ·cases e:on r i
  ·cases e2:on (turnR n f K) i
   ·rfl
   ·have:=on_lt e2;rw [turn_len]at this;omega
  ·have:=on_lt e;omega
theorem refturn_calls(n:Nat)(f:Nat→List Bool)(v:Value)(w:World)(hm:RdM w v n f)(hn64:n≤64)(R:Ending→World→Prop)
  (hR:Hid (∀v' w',RdM w' v' n (turnR n f)→Below w.heap.size w w'→R (.returned v') w')):Calls Tryz.prog 133 #[v] w R:=by
 obtain⟨A,c,rfl,hc,hr⟩:=hm.op;replace hr:=Lib.hid hr;obtain⟨M,hM,hmk⟩:=mk_bool n (by omega);obtain⟨i0,hI,hz0,hz1,hz2⟩:=info_parts infoRow;clear hm;go_enter Tryz.func133,Tryz.ntmps133
 go_wp2_with fail
 go_loopg [3,4] n (fun g o a wr=>∃(K:Nat) (vo:Value) (vs:List Value),vo=o∧a=.int .i64 K∧K+g=n∧Below w.heap.size w wr∧wr.ownsRow w.heap.size 50 1 vo K vs∧Hid (∀j,j<K→∃b,wr.ownsRow b 4 1 (rw_ vs j) n (bv (turnR n f j))))
 case atStart=>exact⟨0,_,[],rfl,rfl,by omega,Below.refl _ _,World.ownsRow_nil _ _ _ _,Lib.hid fun j h=>by omega⟩
 case round =>
  obtain⟨K,vo,vs,rfl,rfl,c1,hbel,hown,hrows⟩:=hrel;obtain⟨W0,rfl⟩:∃W0,W0=wr:=⟨wr,rfl⟩;have hsz:=hbel.size
  by_cases hK:K<n
  ·obtain⟨kO,rfl⟩:∃kO,gk=kO+1:=⟨gk-1,by omega⟩
   obtain⟨g,o,rfl,hg,hrow⟩:=hr.out (by omega);replace hrow:=Lib.hid hrow;have hm:=Lib.hid (own_made (n:=n) (w:=W0) (t:=4) hM (by simp [bv]) (by unfold maxLen;omega))
   have b2:=Lib.hid ((Below.refl W0.heap.size W0).alloc (Nat.le_refl _) (.cells M 4))
   have t0:TurnW n f K 0 (List.replicate n false):=fun b hb=>by
    unfold on;rw [List.getD,List.getElem?_replicate];simp [hb]
   replace t0:=Lib.hid t0;have ik0:(0:Int)≤(K:Int):=by omega
   have ik1:(K:Int)<(n:Int):=by omega
   go_wp2_with fail
   go_loopg [6] n (fun g k w2=>∃(J:Nat) (r:List Bool),k=.int .i64 J∧J+g=n∧Below W0.heap.size W0 w2∧w2.ownsRow W0.heap.size 4 1 (.slice (some ⟨W0.heap.size,0,none⟩) n n) n (bv r)∧Hid (TurnW n f K J r))
   case atStart=>exact⟨0,_,rfl,by omega,b2.out,hm.out,t0⟩
   case round =>
    obtain⟨J,r,rfl,d1,b3,own3,d2⟩:=hrel;have hrl:r.length=n:=by have:=own3.1;rw [bv_len]at this;omega
    by_cases hJ:J<n
    ·obtain⟨g1,o1,c3,x0,hg1,hc1⟩:=hrow.out J hJ
     have x1:=hc1 K hK;have e0:=(b3.cell (p:=⟨g,o+J,none⟩) (Nat.lt_of_lt_of_le hg hsz)).trans ((hbel.cell (p:=⟨g,o+J,none⟩) hg).trans x0);have e1:=(b3.cell (p:=⟨g1,o1+K,none⟩) (Nat.lt_of_lt_of_le hg1 hsz)).trans ((hbel.cell (p:=⟨g1,o1+K,none⟩) hg1).trans x1);have hp:=Lib.hid (d2.out.put hrl hJ);have r2:=(World.ownsRow.cellAt own3 J (by omega)).trans (bv_get (by omega));have r3:=World.ownsRow.frozenAt own3 J;have o6:=(World.ownsRow.stored own3 J (.bool (on (f J) K))).1;rw [bv_set]at o6;have b6:=Lib.hid (b3.setCell (p:=⟨W0.heap.size,J,none⟩) (Nat.le_refl _) (.bool (on (f J) K)));replace o6:=Lib.hid o6;have ij0:(0:Int)≤(J:Int):=by omega
     have ij1:(J:Int)<(n:Int):=by omega
     clear hc1 x0 x1 d2 own3 b3;generalize on (f J) K=B at *;go_wp2_with fail
     go_roundg (gk-1)
     case measure=>omega
     case rel=>exact⟨J+1,_,by go_num,by omega,b6.out,o6.out,hp⟩
    ·obtain rfl:J=n:=by omega
     obtain rfl:r=turnR J f K:=d2.out.fin hrl;clear d2;have o1:=own_below hown b3;have hsz2:=Nat.le_trans hsz b3.size;go_wp2_with (at_builtin;go_loud (refine app1 _ (.slice (some ⟨W0.heap.size,0,none⟩) J J) 50 rfl _ _ 42 rfl w.heap.size i0 (.slice none 0 0) 24 Tryz.underlying42 hI hz0 hz1 hz2 rfl vo _ _ rfl o1 rfl rfl (by unfold maxLen;omega) (by omega) hsz2 ?_);intro v' w3 hown3 hg3 hb3)
     have bW:=hbel.trans ((b3.mono hsz).trans hb3);have hvs:vs.length=K:=by have:=hown.1;omega
     have hrows2:∀j,j<K+1→∃b,w3.ownsRow b 4 1 (rw_ (vs++[.slice (some ⟨W0.heap.size,0,none⟩) J J]) j) J (bv (turnR J f j)):=fun j hj=>by
      rcases Nat.eq_or_lt_of_le (Nat.le_of_lt_succ hj)with e|hj
      ·subst e
       rw [show rw_ (vs++[.slice (some ⟨W0.heap.size,0,none⟩) J J]) j=.slice (some ⟨W0.heap.size,0,none⟩) J J by simp [rw_,List.getD,←hvs]];exact⟨_,own3.kept hg3 (own_ne2 own3 o1 (by decide))⟩
      ·obtain⟨b,hb⟩:=hrows.out j hj
       rw [show rw_ (vs++[.slice (some ⟨W0.heap.size,0,none⟩) J J]) j=rw_ vs j by simp [rw_,List.getD,List.getElem?_append_left (show j<vs.length by omega)]];have hb':=own_below hb b3;exact⟨b,hb'.kept hg3 (own_ne2 hb' o1 (by decide))⟩
     replace hrows2:=Lib.hid hrows2;go_roundg kO
     case measure=>omega
     case rel=>exact⟨K+1,v',_,rfl,by go_num,by omega,bW,hown3,hrows2⟩
  ·obtain rfl:K=n:=by omega
   have rd:RdM W0 vo K (turnR K f):=⟨vs,RdAt.of_own hown,by have:=hown.1;omega,fun j hj=>by
    obtain⟨b,hb⟩:=hrows.out j hj;exact⟨RdAt.of_own hb,turn_len _ _ _⟩⟩
   replace rd:=Lib.hid rd;clear hown hrows;go_wp2_with fail
   exact hR.out _ _ rd.out hbel
end Lat
end Go.Proofs.YtncckdaflellnaaGreat
