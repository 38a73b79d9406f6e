import Derived.Test.YtncckdaflellnaaGreatQ0
import Derived.Test.YtncckdaflellnaaGreatQ1
import Derived.Deep.Cut
set_option linter.all false
set_option maxRecDepth 100000
set_option maxHeartbeats 4000000
namespace Go.Proofs.YtncckdaflellnaaGreat
namespace Nam
open Go.RowKit Go.Lib Utf
theorem isE_pos{s:ByteArray}(h:0<s.size):s.toList.isEmpty=false:=by
 have:s.toList.length=s.size:=by rw [ba_toList];simp
 cases e:s.toList with
 | nil=>rw [e]at this;simp at this;omega
 | cons a l=>rfl
theorem isE_nil{s:ByteArray}(h:s.size=0):s.toList.isEmpty=true:=by
 have:s.toList.length=s.size:=by rw [ba_toList];simp
 cases e:s.toList with
 | nil=>rfl
 | cons a l=>rw [e]at this;simp at this;omega
theorem letter_calls(c:Nat)(w:World)(R:Ending→World→Prop)(hR:Hid (R (.returned (.bool (decide (isSmall c)))) w)):Calls Tryz.prog 180 #[.int .u8 c] w R:=by
 by_cases h1:97≤c
 ·by_cases h2:c≤122
  ·rw [decide_eq_true (show isSmall c from⟨h1,h2⟩)]at hR
   go_enter Tryz.func180,Tryz.ntmps180
   go_wp2_with fail
   exact retB hR.out (decide_eq_true (by omega)).symm
  ·rw [decide_eq_false (show ¬isSmall c from fun h=>h2 h.2)]at hR
   go_enter Tryz.func180,Tryz.ntmps180
   go_wp2_with fail
   exact retB hR.out (decide_eq_false (by omega)).symm
 ·rw [decide_eq_false (show ¬isSmall c from fun h=>h1 h.1)]at hR
  go_enter Tryz.func180,Tryz.ntmps180
  go_wp2_with fail
  exact hR.out
theorem sign_calls(c:Nat)(w:World)(R:Ending→World→Prop)(hR:Hid (R (.returned (.bool (decide (isSign c)))) w)):Calls Tryz.prog 191 #[.int .u8 c] w R:=by
 have cL:=fun R hR=>letter_calls c w R hR
 by_cases h0:isSmall c
 ·rw [decide_eq_true (show isSign c from .inl h0)]at hR
  rw [decide_eq_true h0]at cL;replace cL:=Lib.hid cL;clear h0;go_enter Tryz.func191,Tryz.ntmps191
  go_wp2_with fail
  refine cL.out _ (Lib.hid ?_);go_wp2_with fail
  exact hR.out
 ·rw [decide_eq_false h0]at cL
  replace cL:=Lib.hid cL
  by_cases h1:48≤c
  ·by_cases h2:c≤57
   ·rw [decide_eq_true (show isSign c from .inr (.inr ⟨h1,h2⟩))]at hR
    clear h0;go_enter Tryz.func191,Tryz.ntmps191
    go_wp2_with fail
    refine cL.out _ (Lib.hid ?_);go_wp2_with fail
    exact hR.out
   ·by_cases h3:c=95
    ·rw [decide_eq_true (show isSign c from .inr (.inl h3))]at hR
     subst h3;clear h0;go_enter Tryz.func191,Tryz.ntmps191
     go_wp2_with fail
     refine cL.out _ (Lib.hid ?_);go_wp2_with fail
     exact hR.out
    ·rw [decide_eq_false (show ¬isSign c from fun h=>h.elim h0 (fun h=>h.elim h3 (fun h=>h2 h.2)))]at hR
     have h4:((c:Int)==95)=false:=by simp;omega
     have h5:decide ((c:Int)≤57)=false:=decide_eq_false (by omega);clear h0;go_enter Tryz.func191,Tryz.ntmps191
     go_wp2_with fail
     refine cL.out _ (Lib.hid ?_);go_wp2_with fail
     exact hR.out
  ·have h3:¬c=95:=by omega
   rw [decide_eq_false (show ¬isSign c from fun h=>h.elim h0 (fun h=>h.elim h3 (fun h=>h1 h.1)))]at hR;have h4:((c:Int)==95)=false:=by simp;omega
   clear h0;go_enter Tryz.func191,Tryz.ntmps191
   go_wp2_with fail
   refine cL.out _ (Lib.hid ?_);go_wp2_with fail
   exact hR.out
theorem behind_calls(s:ByteArray)(k:Nat)(hk:k≤s.size)(hs:s.size≤maxLen)(w:World)(R:Ending→World→Prop)
  (hR:Hid (R (.returned (.int .i64 (k+runF s k:Nat))) w)):Calls Tryz.prog 181 #[.string s,.int .i64 k] w R:=by
 obtain⟨V,hV⟩:∃V,k+runF s k=V:=⟨_,rfl⟩;rw [hV]at hR;replace hs:s.size≤9223372036854775807:=hs;go_enter Tryz.func181,Tryz.ntmps181
 go_wp2_with fail
 go_loopg [1] (s.size-k) (fun g a wr=>∃j:Nat,wr=w∧a=.int .i64 j∧j≤s.size∧g=s.size-j∧Hid (j+runF s j=V))
 case atStart=>exact⟨k,rfl,rfl,hk,rfl,Lib.hid hV⟩
 case round =>
  obtain⟨j,rfl,rfl,c1,c2,c3⟩:=hrel;have e:=c3.out;clear c3 hV
  by_cases hj:j<s.size
  ·have hg:=byN_get s j hj
   have hbl:=byN_lt s j;have cS:=fun R hR=>sign_calls (byN s j) wr R hR
   by_cases h1:isSign (byN s j)
   ·rw [runF_step hj h1]at e
    rw [decide_eq_true h1]at cS;replace cS:=Lib.hid cS;clear h1;generalize byN s j=c at *;go_wp2_with fail
    refine cS.out _ (Lib.hid ?_);go_wp2_with fail
    go_roundg (gk-1)
    case measure=>omega
    case rel=>exact⟨j+1,rfl,by go_num,by omega,by omega,Lib.hid (by omega)⟩
   ·rw [runF_stop hj h1,Nat.add_zero]at e
    subst e;rw [decide_eq_false h1]at cS;replace cS:=Lib.hid cS;clear h1;generalize byN s j=c at *;go_wp2_with fail
    refine cS.out _ (Lib.hid ?_);go_wp2_with fail
    exact hR.out
  ·rw [runF_end (by omega),Nat.add_zero]at e
   subst e;go_wp2_with fail
   exact hR.out
def takS(s:ByteArray)(a:Int):ByteArray×Int:=if 0≤a∧a<s.size then(s.extract a.toNat (a.toNat+sigS s a.toNat),(a.toNat+sigS s a.toNat:Nat))else(⟨#[]⟩,0)
theorem takS_nat{s:ByteArray}{k:Nat}(h:k<s.size):takS s k=(s.extract k (k+sigS s k),((k+sigS s k:Nat):Int)):=by unfold takS;rw [if_pos (by omega)];rfl
theorem take_calls(s:ByteArray)(a:Int)(hs:s.size≤maxLen)(w:World)(R:Ending→World→Prop)
  (hR:Hid (R (.returned (.tuple #[.string (takS s a).1,.int .i64 (takS s a).2])) w)):Calls Tryz.prog 153 #[.string s,.int .i64 a] w R:=by
 replace hs:s.size≤9223372036854775807:=hs
 by_cases h0:a<0
 ·unfold takS at hR
  rw [if_neg (by omega)]at hR;simp only at hR;go_enter Tryz.func153,Tryz.ntmps153
  go_wp2_with fail
  exact hR.out
 ·by_cases h1:(s.size:Int)≤a
  ·unfold takS at hR
   rw [if_neg (by omega)]at hR;simp only at hR;go_enter Tryz.func153,Tryz.ntmps153
   go_wp2_with fail
   exact hR.out
  ·obtain⟨k,rfl⟩:∃k:Nat,a=k:=⟨a.toNat,by omega⟩
   have hk:k<s.size:=by omega
   rw [takS_nat hk]at hR;simp only at hR;have hg:=byN_get s k hk;have hb:=byN_lt s k;have cL:=fun R hR=>letter_calls (byN s k) w R hR
   have cB:=Lib.hid fun R hR=>behind_calls s k (by omega) hs w R hR
   have hl:=sig_len hk
   by_cases h2:isSmall (byN s k)
   ·have e:sigS s k=runF s k:=by unfold sigS;rw [if_pos ⟨hk,h2⟩]
    rw [e]at hR hl;rw [decide_eq_true h2]at cL;replace cL:=Lib.hid cL;clear h2 e;generalize byN s k=c at *;generalize runF s k=m at *;go_enter Tryz.func153,Tryz.ntmps153
    go_wp2_with fail
    refine cL.out _ (Lib.hid ?_);go_wp2_with fail
    refine cB.out _ (Lib.hid ?_);go_wp2_with fail
    exact hR.out
   ·have e:sigS s k=0:=by unfold sigS;rw [if_neg (fun h=>h2 h.2)]
    rw [e]at hR;simp only[Nat.add_zero]at hR;rw [show s.extract k k=ByteArray.empty from ByteArray.extract_same]at hR;rw [decide_eq_false h2]at cL;replace cL:=Lib.hid cL;clear h2 e hl cB;generalize byN s k=c at *;go_enter Tryz.func153,Tryz.ntmps153
    go_wp2_with fail
    refine cL.out _ (Lib.hid ?_);go_wp2_with fail
    exact hR.out
theorem right_calls(s:ByteArray)(hs:s.size≤maxLen)(w:World)(R:Ending→World→Prop)(hR:Hid (R (.returned (.bool (rightS s))) w)):Calls Tryz.prog 107 #[.string s] w R:=by
 have cT:=fun R hR=>take_calls s 0 hs w R hR
 replace hs:s.size≤9223372036854775807:=hs;unfold rightS at hR
 by_cases h0:0<s.size
 ·have hl:=sig_len h0
  rw [show takS s 0=takS s (0:Nat)from rfl,takS_nat h0]at cT;simp only at cT;have hz:(s.extract 0 (0+sigS s 0)).size=sigS s 0:=by rw [ByteArray.size_extract];omega
  generalize sigS s 0=m at *;generalize s.extract 0 (0+m)=n at *;replace cT:=Lib.hid cT
  by_cases h1:0<m
  ·have hE:=isE_pos (s:=n) (by omega)
   by_cases h2:m=s.size
   ·by_cases h3:s.size≤32
    ·rw [decide_eq_true ⟨h0,h3,h2⟩]at hR
     subst h2;have e:((n.size:Int)==(s.size:Int))=true:=by simp;omega
     go_enter Tryz.func107,Tryz.ntmps107
     go_wp2_with fail
     refine cT.out _ (Lib.hid ?_);go_wp2_with fail
     exact retB hR.out (decide_eq_true (by omega)).symm
    ·rw [decide_eq_false (fun h=>h3 h.2.1)]at hR
     subst h2;have e:((n.size:Int)==(s.size:Int))=true:=by simp;omega
     go_enter Tryz.func107,Tryz.ntmps107
     go_wp2_with fail
     refine cT.out _ (Lib.hid ?_);go_wp2_with fail
     exact retB hR.out (decide_eq_false (by omega)).symm
   ·rw [decide_eq_false (fun h=>h2 h.2.2)]at hR
    have e:((n.size:Int)==(s.size:Int))=false:=by simp;omega
    go_enter Tryz.func107,Tryz.ntmps107
    go_wp2_with fail
    refine cT.out _ (Lib.hid ?_);go_wp2_with fail
    exact hR.out
  ·have hE:=isE_nil (s:=n) (by omega)
   rw [decide_eq_false (fun h=>by omega)]at hR;go_enter Tryz.func107,Tryz.ntmps107
   go_wp2_with fail
   refine cT.out _ (Lib.hid ?_);go_wp2_with fail
   exact hR.out
 ·rw [decide_eq_false (fun h=>h0 h.1)]at hR
  unfold takS at cT;rw [if_neg (by omega)]at cT;simp only at cT;replace cT:=Lib.hid cT;go_enter Tryz.func107,Tryz.ntmps107
  go_wp2_with fail
  refine cT.out _ (Lib.hid ?_);go_wp2_with fail
  exact hR.out
theorem small_sign{c:Nat}(h:isSmall c):isSign c:=.inl h
theorem signs_calls(s:ByteArray)(k:Nat)(hk:k<s.size)(hs:s.size≤maxLen)(w:World)(R:Ending→World→Prop)
  (hR:Hid (R (.returned (.int .i64 (sigS s k:Nat))) w)):Calls Tryz.prog 172 #[.string s,.int .i64 k] w R:=by
 obtain⟨V,hV⟩:∃V,sigS s k=V:=⟨_,rfl⟩;rw [hV]at hR;replace hs:s.size≤9223372036854775807:=hs;go_enter Tryz.func172,Tryz.ntmps172
 go_wp2_with fail
 go_loopg [5,6] (s.size-k) (fun g n a wr=>∃j m:Nat,wr=w∧n=.int .i64 m∧a=.int .i64 j∧j≤s.size∧g=s.size-j∧m≤j∧Hid ((m=0→j=k)∧(0<m→m+runF s j=V)))
 case atStart=>exact⟨k,0,rfl,rfl,rfl,by omega,rfl,by omega,Lib.hid ⟨fun _=>rfl,fun h=>by omega⟩⟩
 case round =>
  obtain⟨j,m,rfl,rfl,rfl,c1,c2,c4,c3⟩:=hrel;obtain⟨e1,e2⟩:=c3.out;clear c3
  by_cases hj:j<s.size
  ·have hg:=byN_get s j hj
   have hbl:=byN_lt s j
   by_cases hm:m=0
   ·subst hm
    obtain rfl:=e1 rfl;clear e1 e2;unfold sigS at hV
    by_cases hsm:isSmall (byN s j)
    ·rw [if_pos ⟨hj,hsm⟩,runF_step hj (small_sign hsm)]at hV
     obtain⟨h1,h2⟩:=hsm;replace hV:=Lib.hid hV;generalize byN s j=c at *;go_wp2_with fail
     go_roundg (gk-1)
     case measure=>omega
     case rel=>exact⟨j+1,1,rfl,by go_num,by go_num,by omega,by omega,by omega,Lib.hid ⟨fun h=>by omega,fun _=>by have:=hV.out;omega⟩⟩
    ·rw [if_neg (fun h=>hsm h.2)]at hV
     subst hV
     by_cases h1:97≤byN s j
     ·have h2:decide (((byN s j:Nat):Int)≤122)=false:=decide_eq_false (fun h=>hsm ⟨h1,by omega⟩)
      clear hsm;generalize byN s j=c at *;go_wp2_with fail
      exact hR.out
     ·clear hsm
      generalize byN s j=c at *;go_wp2_with fail
      exact hR.out
   ·have e:=e2 (by omega)
    have hm0:((m:Int)==0)=false:=by simp;omega
    clear e1 e2 hV
    by_cases hsm:isSmall (byN s j)
    ·rw [runF_step hj (small_sign hsm)]at e
     obtain⟨h1,h2⟩:=hsm;generalize byN s j=c at *;go_wp2_with fail
     go_roundg (gk-1)
     case measure=>omega
     case rel=>exact⟨j+1,m+1,rfl,by go_num,by go_num,by omega,by omega,by omega,Lib.hid ⟨fun h=>by omega,fun _=>by omega⟩⟩
    ·have hn:(97≤byN s j∧122<byN s j)∨byN s j<97:=by
      unfold isSmall at hsm;omega
     by_cases h3:byN s j=95
     ·rw [runF_step hj (.inr (.inl h3))]at e
      have h4:(((byN s j:Nat):Int) != 95)=false:=by simp;omega
      have h5:byN s j<97:=by omega
      clear hn hsm;generalize byN s j=c at *;go_wp2_with fail
      go_roundg (gk-1)
      case measure=>omega
      case rel=>exact⟨j+1,m+1,rfl,by go_num,by go_num,by omega,by omega,by omega,Lib.hid ⟨fun h=>by omega,fun _=>by omega⟩⟩
     ·have h4:(((byN s j:Nat):Int) != 95)=true:=by simp;omega
      by_cases h5:48≤byN s j∧byN s j≤57
      ·rw [runF_step hj (.inr (.inr h5))]at e
       obtain⟨h6,h7⟩:=h5;clear hn hsm;generalize byN s j=c at *;go_wp2_with fail
       go_roundg (gk-1)
       case measure=>omega
       case rel=>exact⟨j+1,m+1,rfl,by go_num,by go_num,by omega,by omega,by omega,Lib.hid ⟨fun h=>by omega,fun _=>by omega⟩⟩
      ·rw [runF_stop hj (fun h=>h.elim hsm (fun h=>h.elim h3 h5)),Nat.add_zero]at e
       subst e;have h6:byN s j<48∨(48≤byN s j∧57<byN s j):=by omega
       have d1:∀c:Nat,122<c→decide ((c:Int)≤122)=false:=fun c h=>decide_eq_false (by omega)
       have d2:∀c:Nat,57<c→decide (57<(c:Int))=true:=fun c h=>decide_eq_true (by omega)
       replace d1:=Lib.hid d1;replace d2:=Lib.hid d2;clear h5 hsm;generalize byN s j=c at *;rcases hn with⟨n1,n2⟩|n1<;>rcases h6 with h6|⟨h6,h7⟩ <;> try omega
       ·have q1:=d1.out c n2
        have q2:=d2.out c h7;go_wp2_with fail
        exact hR.out
       ·go_wp2_with fail
        exact hR.out
       ·have q2:=d2.out c h7
        go_wp2_with fail
        exact hR.out
  ·have e:m=V:=by
    by_cases hm:m=0
    ·have:=e1 hm;omega
    ·have:=e2 (by omega)
     rw [runF_end (by omega)]at this;omega
   subst e;clear e1 e2;go_wp2_with fail
   exact hR.out
theorem refright_calls(s:ByteArray)(hs:s.size≤maxLen)(w:World)(R:Ending→World→Prop)(hR:Hid (R (.returned (.bool (rightS s))) w)):Calls Tryz.prog 130 #[.string s] w R:=by
 unfold rightS at hR
 by_cases h0:0<s.size
 ·have hl:=sig_len h0
  have cS:=Lib.hid fun R hR=>signs_calls s 0 h0 hs w R hR
  replace hs:s.size≤9223372036854775807:=hs;generalize sigS s 0=m at *
  by_cases h3:s.size≤32
  ·by_cases h2:m=s.size
   ·rw [decide_eq_true ⟨h0,h3,h2⟩]at hR
    have e:((m:Int)==(s.size:Int))=true:=by simp;omega
    go_enter Tryz.func130,Tryz.ntmps130
    go_wp2_with fail
    refine cS.out _ (Lib.hid ?_);go_wp2_with fail
    exact hR.out
   ·rw [decide_eq_false (fun h=>h2 h.2.2)]at hR
    have e:((m:Int)==(s.size:Int))=false:=by simp;omega
    go_enter Tryz.func130,Tryz.ntmps130
    go_wp2_with fail
    refine cS.out _ (Lib.hid ?_);go_wp2_with fail
    exact hR.out
  ·rw [decide_eq_false (fun h=>h3 h.2.1)]at hR
   go_enter Tryz.func130,Tryz.ntmps130
   go_wp2_with fail
   exact hR.out
 ·rw [decide_eq_false (fun h=>h0 h.1)]at hR
  go_enter Tryz.func130,Tryz.ntmps130
  go_wp2_with fail
  exact hR.out
end Nam
namespace Kin
open Go.RowKit Go.Lib Utf Nam Lat
theorem sq_t{a b:ByteArray}(h:a=b):(a.toList==b.toList)=true:=by rw [h];simp
theorem sq_f{a b:ByteArray}(h:a≠b):(a.toList==b.toList)=false:=by rw [bl_inj,decide_eq_false (fun e=>h (bl_ext e))]
theorem nms_tail{a b:List Wr}(h:a.length=b.length)(i:Nat)(hi:i<a.length):(nms (a.drop i)=nms (b.drop i))↔((wN a i).1=(wN b i).1∧nms (a.drop (i+1))=nms (b.drop (i+1))):=by
 have ea:a.drop i=wN a i::a.drop (i+1):=by rw [wN_get hi];exact List.drop_eq_getElem_cons hi
 have eb:b.drop i=wN b i::b.drop (i+1):=by rw [wN_get (by omega)];exact List.drop_eq_getElem_cons (by omega)
 rw [ea,eb];simp [nms]
theorem words15_calls(a b:List Wr)(hm:a.length≤maxLen)(va vb:Value)(w:World)(ha:RdW w va a)(hb:RdW w vb b)(R:Ending→World→Prop)(hR:Hid (∀w',Below w.heap.size w w'→R (.returned (.bool (sameW a b))) w')):Calls Tryz.prog 174 #[va,vb] w R:=by
 replace hm:a.length≤9223372036854775807:=hm;obtain⟨A,ca,rfl,hca,hra⟩:=ha.op;obtain⟨B,cb,rfl,hcb,hrb⟩:=hb.op
 by_cases hl:a.length=b.length
 ·have q1:((a.length:Int) != (b.length:Int))=false:=by simp [hl]
  have hs:sameW a b=decide (nms (a.drop 0)=nms (b.drop 0)):=rfl;replace hra:=Lib.hid hra;replace hrb:=Lib.hid hrb;replace hl:=Lib.hid hl;clear ha hb;go_enter Tryz.func174,Tryz.ntmps174
  go_wp2_with fail
  go_loopg [5] a.length (fun g i wr=>∃K:Nat,i=.int .i64 K∧K+g=a.length∧Hid (Below w.heap.size w wr)∧sameW a b=decide (nms (a.drop K)=nms (b.drop K)))
  case atStart=>exact⟨0,rfl,by omega,Lib.hid (Below.refl _ _),hs⟩
  case round =>
   obtain⟨K,rfl,e1,nb,e2⟩:=hrel
   by_cases hK:K<a.length
   ·have hK2:K<b.length:=by have:=hl.out;omega
    obtain⟨ga,oa,rfl,hga,ca⟩:=hra.out (by omega);obtain⟨gb,ob,rfl,hgb,cb⟩:=hrb.out (by omega);have x0:=(nb.out.cell (p:=⟨ga,oa+K*2,none⟩) hga).trans (ca K hK).1;have y0:=(nb.out.cell (p:=⟨gb,ob+K*2,none⟩) hgb).trans (cb K hK2).1;have i0:(0:Int)≤(K:Int):=by omega
    have i1:(K:Int)<(a.length:Int):=by omega
    have i2:(K:Int)<(b.length:Int):=by omega
    have ht:=nms_tail hl.out K hK;clear ca cb
    by_cases hq:(wN a K).1=(wN b K).1
    ·have q2:=sq_t hq
     have e3:sameW a b=decide (nms (a.drop (K+1))=nms (b.drop (K+1))):=by rw [e2];exact decide_eq_decide.2 (ht.trans ⟨fun q=>q.2,fun q=>⟨hq,q⟩⟩)
     clear hq ht e2;generalize(wN a K).1=s at *;generalize(wN b K).1=t at *;go_wp2_with fail
     go_region;go_wp2_with fail
     go_roundg (gk-1)
     case measure=>omega
     case rel=>exact⟨K+1,by go_num,by omega,Lib.hid nb.out.drew,e3⟩
    ·have q2:=sq_f hq
     have e3:sameW a b=false:=by rw [e2,decide_eq_false_iff_not];rw [ht];exact fun q=>hq q.1
     have fin:=Lib.hid (hR.out _ nb.out.drew);rw [e3]at fin;clear hq ht e2 hR;generalize(wN a K).1=s at *;generalize(wN b K).1=t at *;go_wp2_with fail
     go_region;go_wp2_with fail
     exact fin.out
   ·have hK2:b.length≤K:=by have:=hl.out;omega
    have e3:sameW a b=true:=by rw [e2,List.drop_eq_nil_of_le (by omega),List.drop_eq_nil_of_le hK2];simp
    have fin:=Lib.hid (hR.out _ nb.out);rw [e3]at fin;obtain rfl:K=a.length:=by omega
    clear e2 hR;go_wp2_with fail
    exact fin.out
 ·have q1:((a.length:Int) != (b.length:Int))=true:=by simp;omega
  have e3:sameW a b=false:=by
   unfold sameW;rw [decide_eq_false_iff_not];intro q;have:=congrArg List.length q;rw [nms_len,nms_len]at this;exact hl this
  have fin:=Lib.hid (hR.out _ (Below.refl _ _));rw [e3]at fin;clear hl hR ha hb hra hrb;go_enter Tryz.func174,Tryz.ntmps174
  go_wp2_with fail
  exact fin.out
theorem lab_drop{l:List Wr}{i:Nat}(hi:i<l.length):labF (l.drop i)=if rightS (wN l i).1 then labF (l.drop (i+1))else(9,(wN l i).2):=by
 have ea:l.drop i=wN l i::l.drop (i+1):=by rw [wN_get hi];exact List.drop_eq_getElem_cons hi
 rw [ea];rfl
theorem label15_calls(a:List Wr)(hg:∀x∈a,GoodW x)(va:Value)(w:World)(ha:RdW w va a)(R:Ending→World→Prop)(hR:Hid (∀w',Below w.heap.size w w'→R (.returned (.agg #[.int .i64 (labelS a).1,.int .i64 (labelS a).2])) w')):Calls Tryz.prog 134 #[va] w R:=by
 obtain⟨A,ca,rfl,hca,hra⟩:=ha.op;have bA:=(Below.refl w.heap.size w).alloc (Nat.le_refl _) (.cells #[.int .i64 0,.int .i64 0] 34);have hA:(w.alloc (.cells #[.int .i64 0,.int .i64 0] 34)).heap[w.heap.size]?=some (.cells #[.int .i64 0,.int .i64 0] 34):=heap_alloc_new w _;have m0:=(Lib.cell_of_heap hA 0).trans rfl;have m1:=(Lib.cell_of_heap hA 1).trans rfl;have f0:=Lib.frozen_of_heap hA 0;have f1:=Lib.frozen_of_heap hA 1;replace hra:=Lib.hid hra;clear ha hA
 by_cases h32:32<a.length
 ·have e:labelS a=(8,(wN a 32).2):=if_pos h32
  obtain⟨ga,oa,rfl,hga,ca'⟩:=hra.out (by omega);have x0:=(bA.cell (p:=⟨ga,oa+32*2+1,none⟩) hga).trans (ca' 32 h32).2;rw [e]at hR;clear ca' hra hg;generalize(wN a 32).2=z at *;have i1:(32:Int)<(a.length:Int):=by omega
  have fin:=Lib.hid (hR.out _ (((Below.refl w.heap.size w).alloc (Nat.le_refl _) (.cells #[.int .i64 8,.int .i64 z] 34))));have hN:(w.alloc (.cells #[.int .i64 8,.int .i64 z] 34)).heap[w.heap.size]?=some (.cells #[.int .i64 8,.int .i64 z] 34):=heap_alloc_new w _;have n0:=(Lib.cell_of_heap hN 0).trans rfl;have n1:=(Lib.cell_of_heap hN 1).trans rfl;clear hR bA hN e h32;go_enter Tryz.func134,Tryz.ntmps134
  go_wp2_with fail
  refine bodyPost_ret ?_ rfl fin.out;simp [results,Tryz.results134,go_sem,m0,m1,n0,n1]
 ·have e:labelS a=labF (a.drop 0):=if_neg h32
  have i1:¬(32:Int)<(a.length:Int):=by omega
  have hs:=Nat.le_refl w.heap.size;have hlt:w.heap.size<(w.alloc (.cells #[.int .i64 0,.int .i64 0] 34)).heap.size:=by simp
  replace bA:=Lib.hid bA;go_enter Tryz.func134,Tryz.ntmps134
  go_wp2_with fail
  clear m0 m1 f0 f1;generalize hW:w.alloc (.cells #[.int .i64 0,.int .i64 0] 34)=W2 at *;have hA:W2.heap[w.heap.size]?=some (.cells #[.int .i64 0,.int .i64 0] 34):=by rw [←hW];exact heap_alloc_new w _
  clear hW;go_loopg [3] a.length (fun g i wr=>∃K:Nat,i=.int .i64 K∧K+g=a.length∧Hid (Below W2.heap.size W2 wr)∧labelS a=labF (a.drop K))
  case atStart=>exact⟨0,rfl,by omega,Lib.hid (Below.refl _ _),e⟩
  case round =>
   obtain⟨K,rfl,e1,nb,e2⟩:=hrel;have hB:=(nb.out.block _ hlt).trans hA;have m0:=(Lib.cell_of_heap hB 0).trans rfl;have m1:=(Lib.cell_of_heap hB 1).trans rfl;have f0:=Lib.frozen_of_heap hB 0;have f1:=Lib.frozen_of_heap hB 1;have nb2:=Lib.hid (bA.out.trans (nb.out.mono bA.out.size));clear e hB
   by_cases hK:K<a.length
   ·obtain⟨ga,oa,rfl,hga,ca'⟩:=hra.out (by omega)
    have x0:=(nb2.out.cell (p:=⟨ga,oa+K*2,none⟩) hga).trans (ca' K hK).1;have x1:=(nb2.out.cell (p:=⟨ga,oa+K*2+1,none⟩) hga).trans (ca' K hK).2;have i0:(0:Int)≤(K:Int):=by omega
    have i2:(K:Int)<(a.length:Int):=by omega
    have hz:=(hg _ (wN_mem hK)).1;rw [lab_drop hK]at e2;clear ca';generalize(wN a K).1=s at *;generalize(wN a K).2=z at *;have cR:=Lib.hid fun R hR=>refright_calls s hz wr R hR
    go_wp2_with fail
    refine cR.out _ (Lib.hid ?_);cases hr:rightS s
    ·rw [hr]at e2
     have fin:=Lib.hid (hR.out _ ((nb2.out.setCell (p:=⟨w.heap.size,0,none⟩) (Nat.le_refl _) (.int .i64 9)).setCell (p:=⟨w.heap.size,1,none⟩) (Nat.le_refl _) (.int .i64 z)));rw [e2,if_neg (by simp)]at fin;clear hR cR hr e2;go_wp2_with fail
     refine bodyPost_ret ?_ rfl fin.out;simp [results,Tryz.results134,go_sem,m0,m1]
    ·rw [hr,if_pos rfl]at e2
     clear cR hr;go_wp2_with fail
     go_roundg (gk-1)
     case measure=>omega
     case rel=>exact⟨K+1,by go_num,by omega,nb,e2⟩
   ·have e3:labelS a=(0,0):=by rw [e2,List.drop_eq_nil_of_le (by omega)];rfl
    have fin:=Lib.hid (hR.out _ ((nb2.out.setCell (p:=⟨w.heap.size,0,none⟩) (Nat.le_refl _) (.int .i64 0)).setCell (p:=⟨w.heap.size,1,none⟩) (Nat.le_refl _) (.int .i64 0)));rw [e3]at fin;obtain rfl:K=a.length:=by omega
    clear e2 hR;go_wp2_with fail
    refine bodyPost_ret ?_ rfl fin.out;simp [results,Tryz.results134,go_sem,m0,m1]
abbrev ptL(p:PH)(lv cv:Value)(h:TH)(nv pv:Value):List Value:=[.string p.name,.int .i64 p.at_,.bool p.bare,lv,.int .i64 p.wide,.int .i64 p.ck,.int .i64 p.cn,.int .i64 p.cat,cv,.int .i64 h.kind,.int .i64 h.at_,.int .i64 h.lo,.int .i64 h.hi,.int .i64 h.most,nv,pv,.string h.name,.int .i64 h.nat]
abbrev ptV(p:PH)(lv cv:Value)(h:TH)(nv pv:Value):Value:=.agg (ptL p lv cv h nv pv).toArray
structure PB(w:World)(B:Nat)(p:PH)(lv cv:Value):Prop where
lt:B<w.heap.size
k2:w.cell? ⟨B,2,none⟩=some (.bool p.bare)
k3:w.cell? ⟨B,3,none⟩=some lv
k4:w.cell? ⟨B,4,none⟩=some (.int .i64 p.wide)
k5:w.cell? ⟨B,5,none⟩=some (.int .i64 p.ck)
k6:w.cell? ⟨B,6,none⟩=some (.int .i64 p.cn)
k8:w.cell? ⟨B,8,none⟩=some cv
theorem PB.new(w:World)(p:PH)(lv cv:Value)(h:TH)(nv pv:Value)(t:TypeId):PB (w.alloc (.cells #[.string p.name,.int .i64 p.at_,.bool p.bare,lv,.int .i64 p.wide,.int .i64 p.ck,.int .i64 p.cn,.int .i64 p.cat,cv,.int .i64 h.kind,.int .i64 h.at_,.int .i64 h.lo,.int .i64 h.hi,.int .i64 h.most,nv,pv,.string h.name,.int .i64 h.nat] t)) w.heap.size p lv cv:=by
 have q:=heap_alloc_new w (.cells #[.string p.name,.int .i64 p.at_,.bool p.bare,lv,.int .i64 p.wide,.int .i64 p.ck,.int .i64 p.cn,.int .i64 p.cat,cv,.int .i64 h.kind,.int .i64 h.at_,.int .i64 h.lo,.int .i64 h.hi,.int .i64 h.most,nv,pv,.string h.name,.int .i64 h.nat] t);refine⟨by simp,?_,?_,?_,?_,?_,?_⟩ <;> (rw [Lib.cell_of_heap q];rfl)
theorem PB.below{w w':World}{B:Nat}{p:PH}{lv cv:Value}(h:PB w B p lv cv)(hb:Below w.heap.size w w'):PB w' B p lv cv :=
⟨Nat.lt_of_lt_of_le h.lt hb.size,(hb.cell (p:=⟨B,2,none⟩) h.lt).trans h.k2,(hb.cell (p:=⟨B,3,none⟩) h.lt).trans h.k3,(hb.cell (p:=⟨B,4,none⟩) h.lt).trans h.k4,(hb.cell (p:=⟨B,5,none⟩) h.lt).trans h.k5,(hb.cell (p:=⟨B,6,none⟩) h.lt).trans h.k6,(hb.cell (p:=⟨B,8,none⟩) h.lt).trans h.k8⟩
theorem plain15_calls(p q:PH)(lv cv lv' cv' nv pv nv' pv':Value)(h h':TH)(w:World)(l1:p.label.length≤maxLen)(l2:p.cl.length≤maxLen)(hl:RdW w lv p.label)(hc:RdW w cv p.cl)(hl':RdW w lv' q.label)(hc':RdW w cv' q.cl)(R:Ending→World→Prop)
  (hR:Hid (∀w',Below w.heap.size w w'→R (.returned (.bool (plainB p q))) w')):Calls Tryz.prog 138 #[ptV p lv cv h nv pv,ptV q lv' cv' h' nv' pv'] w R:=by
 have bA:=(Below.refl w.heap.size w).alloc (Nat.le_refl _) (.cells (ptL p lv cv h nv pv).toArray 130);have bB:=Lib.hid (bA.alloc bA.size (.cells (ptL q lv' cv' h' nv' pv').toArray 130));have kA:=Lib.hid ((PB.new w p lv cv h nv pv 130).below ((Below.refl _ _).alloc (Nat.le_refl _) (.cells (ptL q lv' cv' h' nv' pv').toArray 130)));have kB:=Lib.hid (PB.new (w.alloc (.cells (ptL p lv cv h nv pv).toArray 130)) q lv' cv' h' nv' pv' 130);have hs1:(w.alloc (.cells (ptL p lv cv h nv pv).toArray 130)).heap.size=w.heap.size+1:=by simp
 have cW1:=Lib.hid fun(W:World) (b:Below w.heap.size w W) R hR=>words15_calls p.label q.label l1 lv lv' W (hl.below b) (hl'.below b) R hR
 have cW2:=Lib.hid fun(W:World) (b:Below w.heap.size w W) R hR=>words15_calls p.cl q.cl l2 cv cv' W (hc.below b) (hc'.below b) R hR
 have hp:plainB p q=((p.bare==q.bare)&&decide (p.wide=q.wide)&&sameW p.label q.label&&decide (p.ck=q.ck)&&decide (p.cn=q.cn)&&sameW p.cl q.cl):=rfl;rw [hp]at hR;obtain⟨Al,nl,rfl,-,-⟩:=hl.op;obtain⟨Ac,nc,rfl,-,-⟩:=hc.op;obtain⟨Al',nl',rfl,-,-⟩:=hl'.op;obtain⟨Ac',nc',rfl,-,-⟩:=hc'.op;clear bA hl hc hl' hc' hp l1 l2;rw [hs1]at kB;go_enter Tryz.func138,Tryz.ntmps138
 go_upto_region 1 with fail
 generalize(w.alloc (.cells (ptL p (.slice Al p.label.length nl) (.slice Ac p.cl.length nc) h nv pv).toArray 130)).alloc (.cells (ptL q (.slice Al' q.label.length nl') (.slice Ac' q.cl.length nc') h' nv' pv').toArray 130)=W2 at *;clear hs1;obtain⟨-,a2,a3,a4,a5,a6,a8⟩:=kA.out;obtain⟨-,b2,b3,b4,b5,b6,b8⟩:=kB.out;have nW:=bB;clear bB
 by_cases c0:p.bare=q.bare
 ·have q0:(p.bare==q.bare)=true:=by simpa using c0
  rw [q0]at hR;simp only[Bool.true_and,Bool.and_true]at hR;clear c0
  by_cases c1:p.wide=q.wide
  ·have q1:(p.wide==q.wide)=true:=by simpa using c1
   rw [decide_eq_true c1]at hR;simp only[Bool.true_and,Bool.and_true]at hR;clear c1;have cX1:=Lib.hid fun R hR=>cW1.out W2 nW.out R hR
   generalize sameW p.label q.label=S1 at *;go_wp2_with fail
   refine cX1.out _ (Lib.hid fun w3 n3=>?_);replace nW:=Lib.hid (nW.out.trans (n3.mono nW.out.size));replace a5:=(n3.cell (p:=⟨w.heap.size,5,none⟩) kA.out.lt).trans a5;replace b5:=(n3.cell (p:=⟨w.heap.size+1,5,none⟩) kB.out.lt).trans b5;replace a6:=(n3.cell (p:=⟨w.heap.size,6,none⟩) kA.out.lt).trans a6;replace b6:=(n3.cell (p:=⟨w.heap.size+1,6,none⟩) kB.out.lt).trans b6;replace a8:=(n3.cell (p:=⟨w.heap.size,8,none⟩) kA.out.lt).trans a8;replace b8:=(n3.cell (p:=⟨w.heap.size+1,8,none⟩) kB.out.lt).trans b8;clear n3 cX1;cases S1
   ·try simp only[Bool.false_and,Bool.and_false]at hR
    have fin:=Lib.hid (hR.out _ nW.out);clear hR nW;go_wp2_with fail
    exact fin.out
   ·try simp only[Bool.true_and,Bool.and_true]at hR
    by_cases c3:p.ck=q.ck
    ·have q3:(p.ck==q.ck)=true:=by simpa using c3
     rw [decide_eq_true c3]at hR;simp only[Bool.true_and,Bool.and_true]at hR;clear c3
     by_cases c4:p.cn=q.cn
     ·have q4:(p.cn==q.cn)=true:=by simpa using c4
      rw [decide_eq_true c4]at hR;simp only[Bool.true_and,Bool.and_true]at hR;clear c4;have cX2:=Lib.hid fun R hR=>cW2.out w3 nW.out R hR
      generalize sameW p.cl q.cl=S2 at *;go_wp2_with fail
      refine cX2.out _ (Lib.hid fun w4 n3=>?_);replace nW:=Lib.hid (nW.out.trans (n3.mono nW.out.size));clear n3 cX2;cases S2
      ·try simp only[Bool.false_and,Bool.and_false]at hR
       have fin:=Lib.hid (hR.out _ nW.out);clear hR nW;go_wp2_with fail
       exact fin.out
      ·try simp only[Bool.true_and,Bool.and_true]at hR
       have fin:=Lib.hid (hR.out _ nW.out);clear hR nW;go_wp2_with fail
       first|exact fin.out|simpa using fin.out
     ·have q4:(p.cn==q.cn)=false:=by simpa using c4
      rw [decide_eq_false c4]at hR;simp only[Bool.false_and,Bool.and_false]at hR;clear c4;have fin:=Lib.hid (hR.out _ nW.out);clear hR nW;go_wp2_with fail
      exact fin.out
    ·have q3:(p.ck==q.ck)=false:=by simpa using c3
     rw [decide_eq_false c3]at hR;simp only[Bool.false_and,Bool.and_false]at hR;clear c3;have fin:=Lib.hid (hR.out _ nW.out);clear hR nW;go_wp2_with fail
     exact fin.out
  ·have q1:(p.wide==q.wide)=false:=by simpa using c1
   rw [decide_eq_false c1]at hR;simp only[Bool.false_and,Bool.and_false]at hR;clear c1;have fin:=Lib.hid (hR.out _ nW.out);clear hR nW;go_wp2_with fail
   exact fin.out
 ·have q0:(p.bare==q.bare)=false:=by simpa using c0
  rw [q0]at hR;simp only[Bool.false_and,Bool.and_false]at hR;clear c0;have fin:=Lib.hid (hR.out _ nW.out);clear hR nW;go_wp2_with fail
  exact fin.out
end Kin
end Go.Proofs.YtncckdaflellnaaGreat
