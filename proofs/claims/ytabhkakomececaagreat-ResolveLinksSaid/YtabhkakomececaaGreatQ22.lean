import Derived.Test.YtabhkakomececaaGreatQ8
import Derived.Test.YtabhkakomececaaGreatQ20
import Derived.Test.YtabhkakomececaaGreatQ5
set_option linter.all false
set_option maxRecDepth 100000
set_option maxHeartbeats 4000000
namespace Go.Proofs.YtabhkakomececaaGreat.Lat
open Go.RowKit Go.Lib Rel Nam
def LevP(w:World)(p:Nat)(nm:List ByteArray):Prop :=
∃v1 v2,p<w.heap.size∧w.cell? ⟨p,0,none⟩=some v1∧w.cell? ⟨p,1,none⟩=some v2∧RdS w v1 nm∧(v1=.slice none 0 0∨∃g o n c,v1=.slice (some ⟨g,o,none⟩) n c)∧RdT w v2 nm∧nm.length≤32
theorem LevP.below{w w':World}{p:Nat}{nm:List ByteArray}(h:LevP w p nm)(hb:Below w.heap.size w w'):LevP w' p nm:=by
 obtain⟨v1,v2,hp,h1,h2,h3,h4,h5,h6⟩:=h;exact⟨v1,v2,Nat.lt_of_lt_of_le hp hb.size,(hb.cell (p:=⟨p,0,none⟩) hp).trans h1,(hb.cell (p:=⟨p,1,none⟩) hp).trans h2,h3.below hb,h4,h5.below hb,h6⟩
theorem LevP.lt{w:World}{p:Nat}{nm:List ByteArray}(h:LevP w p nm):p<w.heap.size:=by
 obtain⟨v1,v2,hp,-⟩:=h;exact hp
def MtP(w:World)(p o n:Nat)(J:Nat→Nat→Int):Prop:=∀a b,a<n→b<n→w.cell? ⟨p,o+a*32+b,none⟩=some (.int .i8 (J a b))
theorem MtP.below{w w':World}{p o n:Nat}{J:Nat→Nat→Int}(h:MtP w p o n J)(hp:p<w.heap.size)(hb:Below w.heap.size w w'):MtP w' p o n J :=
fun a b ha hb'=>(hb.cell (p:=⟨p,o+a*32+b,none⟩) hp).trans (h a b ha hb')
def LatP(w:World)(v:Value)(nm:List ByteArray)(F:Nat→Nat→Bool):Prop :=
∃p,v=.pointer (some ⟨p,0,none⟩)∧LevP w p nm∧MtP w p 2 nm.length (joinS nm.length F)∧MtP w p 1026 nm.length (joinS nm.length (flp F))∧Latt nm.length F
theorem LatP.below{w w':World}{v:Value}{nm:List ByteArray}{F:Nat→Nat→Bool}(h:LatP w v nm F)(hb:Below w.heap.size w w'):LatP w' v nm F:=by
 obtain⟨p,rfl,h1,h2,h3,h4⟩:=h;exact⟨p,rfl,h1.below hb,h2.below h1.lt hb,h3.below h1.lt hb,h4⟩
theorem LatP.ptr{w:World}{v:Value}{nm:List ByteArray}{F:Nat→Nat→Bool}(h:LatP w v nm F):∃p,v=.pointer (some ⟨p,0,none⟩):=by
 obtain⟨p,rfl,-⟩:=h;exact⟨p,rfl⟩
theorem LatP.latt{w:World}{v:Value}{nm:List ByteArray}{F:Nat→Nat→Bool}(h:LatP w v nm F):Latt nm.length F∧nm.length≤32:=by
 obtain⟨p,rfl,⟨v1,v2,-,-,-,-,-,-,h6⟩,-,-,h4⟩:=h;exact⟨h4,h6⟩
theorem latlenx_calls(nm:List ByteArray)(p:Nat)(w:World)(h:LevP w p nm)(R:Ending→World→Prop)(hR:Hid (R (.returned (.int .i64 nm.length)) w)):Calls Tryz.prog 78 #[.pointer (some ⟨p,0,none⟩)] w R:=by
 obtain⟨v1,v2,hp,h1,-,h3,-,-,-⟩:=h;obtain⟨A,c,rfl,hc,-⟩:=h3.open;clear h3;go_enter Tryz.func78,Tryz.ntmps78
 go_wp2_with fail
 exact hR.out
theorem latlevel_calls(nm:List ByteArray)(p:Nat)(w:World)(h:LevP w p nm)(a:Int)(b:Bool)(hb:b=decide (0≤a∧a<nm.length))(R:Ending→World→Prop)(hR:Hid (R (.returned (.bool b)) w)):Calls Tryz.prog 74 #[.pointer (some ⟨p,0,none⟩),.int .i64 a] w R:=by
 have cL:=Lib.hid fun R hR=>latlenx_calls nm p w h R hR
 clear h
 by_cases h0:0≤a
 ·by_cases h1:a<nm.length
  ·obtain rfl:b=true:=by rw [hb];exact decide_eq_true ⟨h0,h1⟩
   clear hb;go_enter Tryz.func74,Tryz.ntmps74
   go_wp2_with fail
   refine cL.out _ (Lib.hid ?_);go_wp2_with fail
   exact hR.out
  ·obtain rfl:b=false:=by rw [hb];exact decide_eq_false (fun h=>h1 h.2)
   clear hb;go_enter Tryz.func74,Tryz.ntmps74
   go_wp2_with fail
   refine cL.out _ (Lib.hid ?_);go_wp2_with fail
   exact retB hR.out (decide_eq_false (by omega)).symm
 ·obtain rfl:b=false:=by rw [hb];exact decide_eq_false (fun h=>h0 h.1)
  clear hb;go_enter Tryz.func74,Tryz.ntmps74
  go_wp2_with fail
  exact hR.out
theorem latfindx_calls(nm:List ByteArray)(p:Nat)(w:World)(h:LevP w p nm)(s:ByteArray)(R:Ending→World→Prop)(hR:Hid (∀nq,R (.returned (.tuple #[.int .i64 (finS nm s).1,.bool (finS nm s).2])) (w.drewN nq))):Calls Tryz.prog 101 #[.pointer (some ⟨p,0,none⟩),.string s] w R:=by
 obtain⟨v1,v2,hp,-,h2,-,-,h5,h6⟩:=h;have cF:=Lib.hid fun R hR=>find_calls nm s v2 w (by omega) h5 R hR
 clear h5;generalize finS nm s=V at *;go_enter Tryz.func101,Tryz.ntmps101
 go_wp2_with fail
 refine cF.out _ (Lib.hid fun nq=>?_);go_wp2_with fail
 exact hR.out _
theorem latjoinx_calls(nm:List ByteArray)(F:Nat→Nat→Bool)(v:Value)(w:World)(h:LatP w v nm F)(a b:Int)(R:Ending→World→Prop)(hR:Hid (R (.returned (.int .i64 (if 0≤a∧a<nm.length∧0≤b∧b<nm.length then joinS nm.length F a.toNat b.toNat else -1))) w)):Calls Tryz.prog 86 #[v,.int .i64 a,.int .i64 b] w R:=by
 obtain⟨p,rfl,hv,hj,hm,hL⟩:=h;have cE:=Lib.hid fun a b hb R hR=>latlevel_calls nm p w hv a b hb R hR
 obtain⟨v1,v2,hp,-,-,-,-,-,h6⟩:=hv
 by_cases ha:0≤a∧a<nm.length
 ·have cA:=Lib.hid (cE.out a true (decide_eq_true ha).symm)
  by_cases hb:0≤b∧b<nm.length
  ·have cB:=Lib.hid (cE.out b true (decide_eq_true hb).symm)
   rw [if_pos ⟨ha.1,ha.2,hb.1,hb.2⟩]at hR;obtain⟨A,rfl⟩:∃A:Nat,a=A:=⟨a.toNat,by omega⟩;obtain⟨B,rfl⟩:∃B:Nat,b=B:=⟨b.toNat,by omega⟩;rw [Int.toNat_natCast,Int.toNat_natCast]at hR;have e0:=hj A B (by omega) (by omega);have e1:=hL.jn_eq (show A<nm.length by omega) (show B<nm.length by omega);have e2:=hL.jn_lt (show A<nm.length by omega) (show B<nm.length by omega);rw [e1]at e0 hR;generalize jn nm.length F A B=k at *;have a0:(0:Int)≤(A:Int):=by omega
   have a1:(A:Int)<32:=by omega
   have b0:(0:Int)≤(B:Int):=by omega
   have b1:(B:Int)<32:=by omega
   have k0:(0:Int)≤(k:Int):=by omega
   have k1:(k:Int)<32:=by omega
   clear hj hm hL e1 e2 ha hb cE;go_enter Tryz.func86,Tryz.ntmps86
   go_wp2_with fail
   refine cA.out _ (Lib.hid ?_);go_wp2_with fail
   refine cB.out _ (Lib.hid ?_);go_wp2_with fail
   exact hR.out
  ·have cB:=Lib.hid (cE.out b false (decide_eq_false hb).symm)
   rw [if_neg (fun h=>hb ⟨h.2.2.1,h.2.2.2⟩)]at hR;clear hj hm hL ha hb cE;go_enter Tryz.func86,Tryz.ntmps86
   go_wp2_with fail
   refine cA.out _ (Lib.hid ?_);go_wp2_with fail
   refine cB.out _ (Lib.hid ?_);go_wp2_with fail
   exact hR.out
 ·have cA:=Lib.hid (cE.out a false (decide_eq_false ha).symm)
  rw [if_neg (fun h=>ha ⟨h.1,h.2.1⟩)]at hR;clear hj hm hL ha cE;go_enter Tryz.func86,Tryz.ntmps86
  go_wp2_with fail
  refine cA.out _ (Lib.hid ?_);go_wp2_with fail
  exact hR.out
theorem latmeetx_calls(nm:List ByteArray)(F:Nat→Nat→Bool)(v:Value)(w:World)(h:LatP w v nm F)(a b:Int)(R:Ending→World→Prop)(hR:Hid (R (.returned (.int .i64 (if 0≤a∧a<nm.length∧0≤b∧b<nm.length then joinS nm.length (flp F) a.toNat b.toNat else -1))) w)):Calls Tryz.prog 85 #[v,.int .i64 a,.int .i64 b] w R:=by
 obtain⟨p,rfl,hv,hj,hm,hL⟩:=h;have cE:=Lib.hid fun a b hb R hR=>latlevel_calls nm p w hv a b hb R hR
 obtain⟨v1,v2,hp,-,-,-,-,-,h6⟩:=hv
 by_cases ha:0≤a∧a<nm.length
 ·have cA:=Lib.hid (cE.out a true (decide_eq_true ha).symm)
  by_cases hb:0≤b∧b<nm.length
  ·have cB:=Lib.hid (cE.out b true (decide_eq_true hb).symm)
   rw [if_pos ⟨ha.1,ha.2,hb.1,hb.2⟩]at hR;obtain⟨A,rfl⟩:∃A:Nat,a=A:=⟨a.toNat,by omega⟩;obtain⟨B,rfl⟩:∃B:Nat,b=B:=⟨b.toNat,by omega⟩;rw [Int.toNat_natCast,Int.toNat_natCast]at hR;have e0:=hm A B (by omega) (by omega);have e1:=hL.flip.jn_eq (show A<nm.length by omega) (show B<nm.length by omega);have e2:=hL.flip.jn_lt (show A<nm.length by omega) (show B<nm.length by omega);rw [e1]at e0 hR;generalize jn nm.length (flp F) A B=k at *;have a0:(0:Int)≤(A:Int):=by omega
   have a1:(A:Int)<32:=by omega
   have b0:(0:Int)≤(B:Int):=by omega
   have b1:(B:Int)<32:=by omega
   have k0:(0:Int)≤(k:Int):=by omega
   have k1:(k:Int)<32:=by omega
   clear hj hm hL e1 e2 ha hb cE;go_enter Tryz.func85,Tryz.ntmps85
   go_wp2_with fail
   refine cA.out _ (Lib.hid ?_);go_wp2_with fail
   refine cB.out _ (Lib.hid ?_);go_wp2_with fail
   exact hR.out
  ·have cB:=Lib.hid (cE.out b false (decide_eq_false hb).symm)
   rw [if_neg (fun h=>hb ⟨h.2.2.1,h.2.2.2⟩)]at hR;clear hj hm hL ha hb cE;go_enter Tryz.func85,Tryz.ntmps85
   go_wp2_with fail
   refine cA.out _ (Lib.hid ?_);go_wp2_with fail
   refine cB.out _ (Lib.hid ?_);go_wp2_with fail
   exact hR.out
 ·have cA:=Lib.hid (cE.out a false (decide_eq_false ha).symm)
  rw [if_neg (fun h=>ha ⟨h.1,h.2.1⟩)]at hR;clear hj hm hL ha cE;go_enter Tryz.func85,Tryz.ntmps85
  go_wp2_with fail
  refine cA.out _ (Lib.hid ?_);go_wp2_with fail
  exact hR.out
theorem latleqx_calls(nm:List ByteArray)(F:Nat→Nat→Bool)(v:Value)(w:World)(h:LatP w v nm F)(a b:Int)(R:Ending→World→Prop)(hR:Hid (R (.returned (.bool (decide (0≤a∧a<nm.length∧0≤b∧b<nm.length)&&F a.toNat b.toNat))) w)):Calls Tryz.prog 44 #[v,.int .i64 a,.int .i64 b] w R:=by
 have cJ:=Lib.hid fun R hR=>latjoinx_calls nm F v w h a b R hR
 obtain⟨p,rfl,hv,-,-,hL⟩:=h;have cE:=Lib.hid fun a b hb R hR=>latlevel_calls nm p w hv a b hb R hR
 clear hv
 by_cases hb:0≤b∧b<nm.length
 ·have cB:=Lib.hid (cE.out b true (decide_eq_true hb).symm)
  by_cases ha:0≤a∧a<nm.length
  ·replace cJ:=cJ.out
   rw [if_pos ⟨ha.1,ha.2,hb.1,hb.2⟩]at cJ;rw [decide_eq_true ⟨ha.1,ha.2,hb.1,hb.2⟩,Bool.true_and]at hR;obtain⟨A,rfl⟩:∃A:Nat,a=A:=⟨a.toNat,by omega⟩;obtain⟨B,rfl⟩:∃B:Nat,b=B:=⟨b.toNat,by omega⟩;rw [Int.toNat_natCast,Int.toNat_natCast]at hR cJ;rw [hL.jn_eq (show A<nm.length by omega) (show B<nm.length by omega)]at cJ;rw [hL.leq_iff (show A<nm.length by omega) (show B<nm.length by omega)]at hR;generalize jn nm.length F A B=k at *
   have e:((k:Int)==(B:Int))=decide (k=B):=by
    rw [Bool.eq_iff_iff];simp;omega
   generalize decide (k=B)=q at *;replace cJ:=Lib.hid cJ;replace e:=Lib.hid e;clear hL ha hb cE;go_enter Tryz.func44,Tryz.ntmps44
   go_wp2_with fail
   refine cB.out _ (Lib.hid ?_);go_wp2_with fail
   refine cJ.out _ (Lib.hid ?_);replace e:=e.out;go_wp2_with fail
   exact hR.out
  ·replace cJ:=cJ.out
   rw [if_neg (fun h=>ha ⟨h.1,h.2.1⟩)]at cJ;rw [decide_eq_false (fun h=>ha ⟨h.1,h.2.1⟩),Bool.false_and]at hR;have e:((-1:Int)==b)=false:=by simp;omega
   replace cJ:=Lib.hid cJ;replace e:=Lib.hid e;clear hL ha hb cE;go_enter Tryz.func44,Tryz.ntmps44
   go_wp2_with fail
   refine cB.out _ (Lib.hid ?_);go_wp2_with fail
   refine cJ.out _ (Lib.hid ?_);replace e:=e.out;go_wp2_with fail
   exact hR.out
 ·have cB:=Lib.hid (cE.out b false (decide_eq_false hb).symm)
  rw [decide_eq_false (fun h=>hb ⟨h.2.2.1,h.2.2.2⟩),Bool.false_and]at hR;clear hL hb cE cJ;go_enter Tryz.func44,Tryz.ntmps44
  go_wp2_with fail
  refine cB.out _ (Lib.hid ?_);go_wp2_with fail
  exact hR.out
def seenS(F:Nat→Nat→Bool)(n:Nat)(a:Int)(K:Nat):List Nat:=if 0≤a∧a<n then seesF F a.toNat K else[]
def fldS(J:Nat→Nat→Nat):Nat→Nat
| 0=>0
| k+1=>J (fldS J k) k
theorem fld_lt{n:Nat}{J:Nat→Nat→Nat}(h0:0<n)(hJ:∀a b,a<n→b<n→J a b<n):∀k,k≤n→fldS J k<n
| 0,_=>h0
| k+1,h=>hJ _ _ (fld_lt h0 hJ k (by omega)) h
theorem fld_top{n:Nat}{F:Nat→Nat→Bool}(h:Latt n F):∀k,k≤n→∀a,a<k→F a (fldS (jn n F) k)=true
| 0,_,a,ha=>by omega
| k+1,hk,a,ha=>by
 have l1:=fld_lt h.pos (fun a b=>h.jn_lt) k (by omega);obtain⟨j0,j1,j2,-⟩:=h.jn_best l1 (show k<n by omega);rcases Nat.eq_or_lt_of_le (Nat.le_of_lt_succ ha)with e|q
 ·subst e;exact j2
 ·exact h.ord.trans _ _ _ (by omega) l1 j0 (fld_top h k (by omega) a q) j1
theorem latfoldM_calls(nm:List ByteArray)(p:Nat)(w:World)(h:LevP w p nm)(J:Nat→Nat→Nat)(h0:0<nm.length)(hJ:∀a b,a<nm.length→b<nm.length→J a b<nm.length)
  (hN:Hid (∀(a b:Nat),a<nm.length→b<nm.length→∀R:Ending→World→Prop,Hid (R (.returned (.int .i64 (J a b:Nat))) w)→Calls Tryz.prog 85 #[.pointer (some ⟨p,0,none⟩),.int .i64 (a:Nat),.int .i64 (b:Nat)] w R)) (R:Ending→World→Prop)
  (hR:Hid (R (.returned (.int .i64 (fldS J nm.length:Nat))) w)):Calls Tryz.prog 84 #[.pointer (some ⟨p,0,none⟩),.func (.func 85) #[.pointer (some ⟨p,0,none⟩)] #[]] w R:=by
 have cL:=Lib.hid fun R hR=>latlenx_calls nm p w h R hR
 have hlt:nm.length≤32:=by obtain⟨v1,v2,-,-,-,-,-,-,h6⟩:=h;exact h6
 have hF:=Lib.hid fun k hk=>fld_lt h0 hJ k hk
 have hS:=Lib.hid fun k=>show fldS J (k+1)=J (fldS J k) k from rfl
 clear h hJ;generalize nm.length=n at *;have q0:((n:Int)==0)=false:=by simp;omega
 replace q0:=Lib.hid q0;go_enter Tryz.func84,Tryz.ntmps84
 go_wp2_with fail
 refine cL.out _ (Lib.hid ?_);replace q0:=q0.out;go_wp2_with fail
 refine cL.out _ (Lib.hid ?_);replace q0:=Lib.hid q0;go_wp2_with fail
 go_loopg [5,12] n (fun g s i wr=>∃K:Nat,s=.int .i64 (fldS J K:Nat)∧i=.int .i64 K∧K+g=n∧wr=w)
 case atStart=>exact⟨0,rfl,rfl,by omega,rfl⟩
 case round =>
  obtain⟨K,rfl,rfl,c1,rfl⟩:=hrel
  by_cases hK:K<n
  ·have cN:=Lib.hid (hN.out (fldS J K) K (hF.out K (by omega)) hK)
   have e:=Lib.hid (hS.out K);generalize J (fldS J K) K=z at *;generalize fldS J K=y at *;clear cL hF hS;go_wp2_with fail
   refine cN.out _ (Lib.hid ?_);go_wp2_with fail
   go_roundg (gk-1)
   case measure=>omega
   case rel=>exact⟨K+1,by rw [e.out],by go_num,by omega,rfl⟩
  ·obtain rfl:K=n:=by omega
   clear cL hF hS;go_wp2_with fail
   exact hR.out
theorem latbottomx_calls(nm:List ByteArray)(F:Nat→Nat→Bool)(v:Value)(w:World)(h:LatP w v nm F)(R:Ending→World→Prop)(hR:Hid (∀(t:Nat),t<nm.length→(∀a,a<nm.length→F t a=true)→R (.returned (.int .i64 t)) w)):Calls Tryz.prog 43 #[v] w R:=by
 have hL:=h.latt.1.flip;have cJ:=Lib.hid fun(a b:Nat) (ha:a<nm.length) (hb:b<nm.length) (R:Ending→World→Prop) (hR:Hid (R (.returned (.int .i64 (jn nm.length (flp F) a b:Nat))) w))=>latmeetx_calls nm F v w h a b R (by rw [if_pos ⟨by omega,by omega,by omega,by omega⟩,Int.toNat_natCast,Int.toNat_natCast,hL.jn_eq ha hb];exact hR)
 obtain⟨p,rfl,hv,-⟩:=h;have cF:=Lib.hid fun R hR=>latfoldM_calls nm p w hv (jn nm.length (flp F)) hL.pos (fun a b=>hL.jn_lt) cJ R hR
 have fin:=Lib.hid (hR.out _ (fld_lt hL.pos (fun a b=>hL.jn_lt) nm.length (Nat.le_refl _)) (fld_top hL nm.length (Nat.le_refl _)));clear hv hL cJ;generalize fldS (jn nm.length (flp F)) nm.length=t at *;go_enter Tryz.func43,Tryz.ntmps43
 go_wp2_with fail
 refine cF.out _ (Lib.hid ?_);go_wp2_with fail
 exact fin.out
end Go.Proofs.YtabhkakomececaaGreat.Lat
