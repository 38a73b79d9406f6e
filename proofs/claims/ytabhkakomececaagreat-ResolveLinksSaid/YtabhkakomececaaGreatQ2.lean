import Derived.Test.YtabhkakomececaaGreatQ0
import Derived.Laws.Tables
import Derived.Deep.MidRow
import Derived.BigFrame
set_option linter.all false
set_option maxRecDepth 100000
set_option maxHeartbeats 4000000
namespace Go.Proofs.YtabhkakomececaaGreat
open Go.RowKit Go.Lib
structure BW(W:World) where
w:World
b:Below W.heap.size W w
instance (W:World):Nonempty (BW W):=⟨⟨W,Below.refl _ _⟩⟩
theorem BW.cell{W:World}(x:BW W){g o:Nat}(h:g<W.heap.size){u:Value}(hc:W.cell? ⟨g,o,none⟩=some u):x.w.cell? ⟨g,o,none⟩=some u:=(x.b.cell (p:=⟨g,o,none⟩) h).trans hc
theorem wp_region_below_lit{P:Program}{id:Nat}{Q:Exit→Act→World→Prop}{a:Act}{w:World}{l:List Oper}(hm:P.follows .mixedOrders=true)(hB:Region.lexB .any l.toArray=true)
 (h:wpQuiet P l.toArray (fun w'=>∃x:BW w,w'=x.w) (fun a'=>∀w',(∃x:BW w,w'=x.w)→Q .normal a' w') l a):(Code.region id l.toArray true).wp P Q a w :=
wp_region_quiet (C:=fun w'=>∃x:BW w,w'=x.w) hm hB ⟨⟨w.drewN 1,below_drewN (Below.refl _ _) 1⟩,rfl⟩ (by simpa using h)
theorem calls_below{P:Program}{f:FuncId}{args:Array Value}{W:World}{x:BW W}{v:Value}
 (h:Calls P f args x.w fun e w'=>e=.returned v∧Below x.w.heap.size x.w w'):Calls P f args x.w fun e w''=>e=.returned v∧∃y:BW W,w''=y.w :=
h.mono fun _ w' ⟨he,hb⟩=>⟨he,⟨w',x.b.trans (hb.mono x.b.size)⟩,rfl⟩
end Go.Proofs.YtabhkakomececaaGreat
namespace Go.Proofs.YtabhkakomececaaGreat.Nam
open Go.RowKit Go.Lib Utf
theorem isE_pos{s:ByteArray}(h:0<s.size):s.toList.isEmpty=false:=by
 have:s.toList.length=s.size:=by rw [ba_toList];simp
 cases e:s.toList with
 | nil=>rw [e]at this;simp at this;omega
 | cons a l=>rfl
theorem isE_nil{s:ByteArray}(h:s.size=0):s.toList.isEmpty=true:=by
 have:s.toList.length=s.size:=by rw [ba_toList];simp
 cases e:s.toList with
 | nil=>rfl
 | cons a l=>rw [e]at this;simp at this;omega
theorem letter_calls(c:Nat)(w:World)(R:Ending→World→Prop)(hR:Hid (R (.returned (.bool (decide (isSmall c)))) w)):Calls Tryz.prog 249 #[.int .u8 c] w R:=by
 by_cases h1:97≤c
 ·by_cases h2:c≤122
  ·rw [decide_eq_true (show isSmall c from⟨h1,h2⟩)]at hR
   go_enter Tryz.func249,Tryz.ntmps249
   go_wp2_with fail
   exact retB hR.out (decide_eq_true (by omega)).symm
  ·rw [decide_eq_false (show ¬isSmall c from fun h=>h2 h.2)]at hR
   go_enter Tryz.func249,Tryz.ntmps249
   go_wp2_with fail
   exact retB hR.out (decide_eq_false (by omega)).symm
 ·rw [decide_eq_false (show ¬isSmall c from fun h=>h1 h.1)]at hR
  go_enter Tryz.func249,Tryz.ntmps249
  go_wp2_with fail
  exact hR.out
theorem sign_calls(c:Nat)(w:World)(R:Ending→World→Prop)(hR:Hid (R (.returned (.bool (decide (isSign c)))) w)):Calls Tryz.prog 293 #[.int .u8 c] w R:=by
 have cL:=fun R hR=>letter_calls c w R hR
 by_cases h0:isSmall c
 ·rw [decide_eq_true (show isSign c from .inl h0)]at hR
  rw [decide_eq_true h0]at cL;replace cL:=Lib.hid cL;clear h0;go_enter Tryz.func293,Tryz.ntmps293
  go_wp2_with fail
  refine cL.out _ (Lib.hid ?_);go_wp2_with fail
  exact hR.out
 ·rw [decide_eq_false h0]at cL
  replace cL:=Lib.hid cL
  by_cases h1:48≤c
  ·by_cases h2:c≤57
   ·rw [decide_eq_true (show isSign c from .inr (.inr ⟨h1,h2⟩))]at hR
    clear h0;go_enter Tryz.func293,Tryz.ntmps293
    go_wp2_with fail
    refine cL.out _ (Lib.hid ?_);go_wp2_with fail
    exact hR.out
   ·by_cases h3:c=95
    ·rw [decide_eq_true (show isSign c from .inr (.inl h3))]at hR
     subst h3;clear h0;go_enter Tryz.func293,Tryz.ntmps293
     go_wp2_with fail
     refine cL.out _ (Lib.hid ?_);go_wp2_with fail
     exact hR.out
    ·rw [decide_eq_false (show ¬isSign c from fun h=>h.elim h0 (fun h=>h.elim h3 (fun h=>h2 h.2)))]at hR
     have h4:((c:Int)==95)=false:=by simp;omega
     have h5:decide ((c:Int)≤57)=false:=decide_eq_false (by omega);clear h0;go_enter Tryz.func293,Tryz.ntmps293
     go_wp2_with fail
     refine cL.out _ (Lib.hid ?_);go_wp2_with fail
     exact hR.out
  ·have h3:¬c=95:=by omega
   rw [decide_eq_false (show ¬isSign c from fun h=>h.elim h0 (fun h=>h.elim h3 (fun h=>h1 h.1)))]at hR;have h4:((c:Int)==95)=false:=by simp;omega
   clear h0;go_enter Tryz.func293,Tryz.ntmps293
   go_wp2_with fail
   refine cL.out _ (Lib.hid ?_);go_wp2_with fail
   exact hR.out
theorem behind_calls(s:ByteArray)(k:Nat)(hk:k≤s.size)(hs:s.size≤maxLen)(w:World)(R:Ending→World→Prop)
  (hR:Hid (R (.returned (.int .i64 (k+runF s k:Nat))) w)):Calls Tryz.prog 250 #[.string s,.int .i64 k] w R:=by
 obtain⟨V,hV⟩:∃V,k+runF s k=V:=⟨_,rfl⟩;rw [hV]at hR;replace hs:s.size≤9223372036854775807:=hs;go_enter Tryz.func250,Tryz.ntmps250
 go_wp2_with fail
 go_loopg [1] (s.size-k) (fun g a wr=>∃j:Nat,wr=w∧a=.int .i64 j∧j≤s.size∧g=s.size-j∧Hid (j+runF s j=V))
 case atStart=>exact⟨k,rfl,rfl,hk,rfl,Lib.hid hV⟩
 case round =>
  obtain⟨j,rfl,rfl,c1,c2,c3⟩:=hrel;have e:=c3.out;clear c3 hV
  by_cases hj:j<s.size
  ·have hg:=byN_get s j hj
   have hbl:=byN_lt s j;have cS:=fun R hR=>sign_calls (byN s j) wr R hR
   by_cases h1:isSign (byN s j)
   ·rw [runF_step hj h1]at e
    rw [decide_eq_true h1]at cS;replace cS:=Lib.hid cS;clear h1;generalize byN s j=c at *;go_wp2_with fail
    refine cS.out _ (Lib.hid ?_);go_wp2_with fail
    go_roundg (gk-1)
    case measure=>omega
    case rel=>exact⟨j+1,rfl,by go_num,by omega,by omega,Lib.hid (by omega)⟩
   ·rw [runF_stop hj h1,Nat.add_zero]at e
    subst e;rw [decide_eq_false h1]at cS;replace cS:=Lib.hid cS;clear h1;generalize byN s j=c at *;go_wp2_with fail
    refine cS.out _ (Lib.hid ?_);go_wp2_with fail
    exact hR.out
  ·rw [runF_end (by omega),Nat.add_zero]at e
   subst e;go_wp2_with fail
   exact hR.out
def takS(s:ByteArray)(a:Int):ByteArray×Int:=if 0≤a∧a<s.size then(s.extract a.toNat (a.toNat+sigS s a.toNat),(a.toNat+sigS s a.toNat:Nat))else(⟨#[]⟩,0)
theorem takS_nat{s:ByteArray}{k:Nat}(h:k<s.size):takS s k=(s.extract k (k+sigS s k),((k+sigS s k:Nat):Int)):=by unfold takS;rw [if_pos (by omega)];rfl
theorem take_calls(s:ByteArray)(a:Int)(hs:s.size≤maxLen)(w:World)(R:Ending→World→Prop)
  (hR:Hid (R (.returned (.tuple #[.string (takS s a).1,.int .i64 (takS s a).2])) w)):Calls Tryz.prog 195 #[.string s,.int .i64 a] w R:=by
 replace hs:s.size≤9223372036854775807:=hs
 by_cases h0:a<0
 ·unfold takS at hR
  rw [if_neg (by omega)]at hR;simp only at hR;go_enter Tryz.func195,Tryz.ntmps195
  go_wp2_with fail
  exact hR.out
 ·by_cases h1:(s.size:Int)≤a
  ·unfold takS at hR
   rw [if_neg (by omega)]at hR;simp only at hR;go_enter Tryz.func195,Tryz.ntmps195
   go_wp2_with fail
   exact hR.out
  ·obtain⟨k,rfl⟩:∃k:Nat,a=k:=⟨a.toNat,by omega⟩
   have hk:k<s.size:=by omega
   rw [takS_nat hk]at hR;simp only at hR;have hg:=byN_get s k hk;have hb:=byN_lt s k;have cL:=fun R hR=>letter_calls (byN s k) w R hR
   have cB:=Lib.hid fun R hR=>behind_calls s k (by omega) hs w R hR
   have hl:=sig_len hk
   by_cases h2:isSmall (byN s k)
   ·have e:sigS s k=runF s k:=by unfold sigS;rw [if_pos ⟨hk,h2⟩]
    rw [e]at hR hl;rw [decide_eq_true h2]at cL;replace cL:=Lib.hid cL;clear h2 e;generalize byN s k=c at *;generalize runF s k=m at *;go_enter Tryz.func195,Tryz.ntmps195
    go_wp2_with fail
    refine cL.out _ (Lib.hid ?_);go_wp2_with fail
    refine cB.out _ (Lib.hid ?_);go_wp2_with fail
    exact hR.out
   ·have e:sigS s k=0:=by unfold sigS;rw [if_neg (fun h=>h2 h.2)]
    rw [e]at hR;simp only[Nat.add_zero]at hR;rw [show s.extract k k=ByteArray.empty from ByteArray.extract_same]at hR;rw [decide_eq_false h2]at cL;replace cL:=Lib.hid cL;clear h2 e hl cB;generalize byN s k=c at *;go_enter Tryz.func195,Tryz.ntmps195
    go_wp2_with fail
    refine cL.out _ (Lib.hid ?_);go_wp2_with fail
    exact hR.out
theorem right_calls(s:ByteArray)(hs:s.size≤maxLen)(w:World)(R:Ending→World→Prop)(hR:Hid (R (.returned (.bool (rightS s))) w)):Calls Tryz.prog 130 #[.string s] w R:=by
 have cT:=fun R hR=>take_calls s 0 hs w R hR
 replace hs:s.size≤9223372036854775807:=hs;unfold rightS at hR
 by_cases h0:0<s.size
 ·have hl:=sig_len h0
  rw [show takS s 0=takS s (0:Nat)from rfl,takS_nat h0]at cT;simp only at cT;have hz:(s.extract 0 (0+sigS s 0)).size=sigS s 0:=by rw [ByteArray.size_extract];omega
  generalize sigS s 0=m at *;generalize s.extract 0 (0+m)=n at *;replace cT:=Lib.hid cT
  by_cases h1:0<m
  ·have hE:=isE_pos (s:=n) (by omega)
   by_cases h2:m=s.size
   ·by_cases h3:s.size≤32
    ·rw [decide_eq_true ⟨h0,h3,h2⟩]at hR
     subst h2;have e:((n.size:Int)==(s.size:Int))=true:=by simp;omega
     go_enter Tryz.func130,Tryz.ntmps130
     go_wp2_with fail
     refine cT.out _ (Lib.hid ?_);go_wp2_with fail
     exact retB hR.out (decide_eq_true (by omega)).symm
    ·rw [decide_eq_false (fun h=>h3 h.2.1)]at hR
     subst h2;have e:((n.size:Int)==(s.size:Int))=true:=by simp;omega
     go_enter Tryz.func130,Tryz.ntmps130
     go_wp2_with fail
     refine cT.out _ (Lib.hid ?_);go_wp2_with fail
     exact retB hR.out (decide_eq_false (by omega)).symm
   ·rw [decide_eq_false (fun h=>h2 h.2.2)]at hR
    have e:((n.size:Int)==(s.size:Int))=false:=by simp;omega
    go_enter Tryz.func130,Tryz.ntmps130
    go_wp2_with fail
    refine cT.out _ (Lib.hid ?_);go_wp2_with fail
    exact hR.out
  ·have hE:=isE_nil (s:=n) (by omega)
   rw [decide_eq_false (fun h=>by omega)]at hR;go_enter Tryz.func130,Tryz.ntmps130
   go_wp2_with fail
   refine cT.out _ (Lib.hid ?_);go_wp2_with fail
   exact hR.out
 ·rw [decide_eq_false (fun h=>h0 h.1)]at hR
  unfold takS at cT;rw [if_neg (by omega)]at cT;simp only at cT;replace cT:=Lib.hid cT;go_enter Tryz.func130,Tryz.ntmps130
  go_wp2_with fail
  refine cT.out _ (Lib.hid ?_);go_wp2_with fail
  exact hR.out
theorem small_sign{c:Nat}(h:isSmall c):isSign c:=.inl h
theorem signs_calls(s:ByteArray)(k:Nat)(hk:k<s.size)(hs:s.size≤maxLen)(w:World)(R:Ending→World→Prop)
  (hR:Hid (R (.returned (.int .i64 (sigS s k:Nat))) w)):Calls Tryz.prog 225 #[.string s,.int .i64 k] w R:=by
 obtain⟨V,hV⟩:∃V,sigS s k=V:=⟨_,rfl⟩;rw [hV]at hR;replace hs:s.size≤9223372036854775807:=hs;go_enter Tryz.func225,Tryz.ntmps225
 go_wp2_with fail
 go_loopg [5,6] (s.size-k) (fun g n a wr=>∃j m:Nat,wr=w∧n=.int .i64 m∧a=.int .i64 j∧j≤s.size∧g=s.size-j∧m≤j∧Hid ((m=0→j=k)∧(0<m→m+runF s j=V)))
 case atStart=>exact⟨k,0,rfl,rfl,rfl,by omega,rfl,by omega,Lib.hid ⟨fun _=>rfl,fun h=>by omega⟩⟩
 case round =>
  obtain⟨j,m,rfl,rfl,rfl,c1,c2,c4,c3⟩:=hrel;obtain⟨e1,e2⟩:=c3.out;clear c3
  by_cases hj:j<s.size
  ·have hg:=byN_get s j hj
   have hbl:=byN_lt s j
   by_cases hm:m=0
   ·subst hm
    obtain rfl:=e1 rfl;clear e1 e2;unfold sigS at hV
    by_cases hsm:isSmall (byN s j)
    ·rw [if_pos ⟨hj,hsm⟩,runF_step hj (small_sign hsm)]at hV
     obtain⟨h1,h2⟩:=hsm;replace hV:=Lib.hid hV;generalize byN s j=c at *;go_wp2_with fail
     go_roundg (gk-1)
     case measure=>omega
     case rel=>exact⟨j+1,1,rfl,by go_num,by go_num,by omega,by omega,by omega,Lib.hid ⟨fun h=>by omega,fun _=>by have:=hV.out;omega⟩⟩
    ·rw [if_neg (fun h=>hsm h.2)]at hV
     subst hV
     by_cases h1:97≤byN s j
     ·have h2:decide (((byN s j:Nat):Int)≤122)=false:=decide_eq_false (fun h=>hsm ⟨h1,by omega⟩)
      clear hsm;generalize byN s j=c at *;go_wp2_with fail
      exact hR.out
     ·clear hsm
      generalize byN s j=c at *;go_wp2_with fail
      exact hR.out
   ·have e:=e2 (by omega)
    have hm0:((m:Int)==0)=false:=by simp;omega
    clear e1 e2 hV
    by_cases hsm:isSmall (byN s j)
    ·rw [runF_step hj (small_sign hsm)]at e
     obtain⟨h1,h2⟩:=hsm;generalize byN s j=c at *;go_wp2_with fail
     go_roundg (gk-1)
     case measure=>omega
     case rel=>exact⟨j+1,m+1,rfl,by go_num,by go_num,by omega,by omega,by omega,Lib.hid ⟨fun h=>by omega,fun _=>by omega⟩⟩
    ·have hn:(97≤byN s j∧122<byN s j)∨byN s j<97:=by
      unfold isSmall at hsm;omega
     by_cases h3:byN s j=95
     ·rw [runF_step hj (.inr (.inl h3))]at e
      have h4:(((byN s j:Nat):Int) != 95)=false:=by simp;omega
      have h5:byN s j<97:=by omega
      clear hn hsm;generalize byN s j=c at *;go_wp2_with fail
      go_roundg (gk-1)
      case measure=>omega
      case rel=>exact⟨j+1,m+1,rfl,by go_num,by go_num,by omega,by omega,by omega,Lib.hid ⟨fun h=>by omega,fun _=>by omega⟩⟩
     ·have h4:(((byN s j:Nat):Int) != 95)=true:=by simp;omega
      by_cases h5:48≤byN s j∧byN s j≤57
      ·rw [runF_step hj (.inr (.inr h5))]at e
       obtain⟨h6,h7⟩:=h5;clear hn hsm;generalize byN s j=c at *;go_wp2_with fail
       go_roundg (gk-1)
       case measure=>omega
       case rel=>exact⟨j+1,m+1,rfl,by go_num,by go_num,by omega,by omega,by omega,Lib.hid ⟨fun h=>by omega,fun _=>by omega⟩⟩
      ·rw [runF_stop hj (fun h=>h.elim hsm (fun h=>h.elim h3 h5)),Nat.add_zero]at e
       subst e;have h6:byN s j<48∨(48≤byN s j∧57<byN s j):=by omega
       have d1:∀c:Nat,122<c→decide ((c:Int)≤122)=false:=fun c h=>decide_eq_false (by omega)
       have d2:∀c:Nat,57<c→decide (57<(c:Int))=true:=fun c h=>decide_eq_true (by omega)
       replace d1:=Lib.hid d1;replace d2:=Lib.hid d2;clear h5 hsm;generalize byN s j=c at *;rcases hn with⟨n1,n2⟩|n1<;>rcases h6 with h6|⟨h6,h7⟩ <;> try omega
       ·have q1:=d1.out c n2
        have q2:=d2.out c h7;go_wp2_with fail
        exact hR.out
       ·go_wp2_with fail
        exact hR.out
       ·have q2:=d2.out c h7
        go_wp2_with fail
        exact hR.out
  ·have e:m=V:=by
    by_cases hm:m=0
    ·have:=e1 hm;omega
    ·have:=e2 (by omega)
     rw [runF_end (by omega)]at this;omega
   subst e;clear e1 e2;go_wp2_with fail
   exact hR.out
theorem refright_calls(s:ByteArray)(hs:s.size≤maxLen)(w:World)(R:Ending→World→Prop)(hR:Hid (R (.returned (.bool (rightS s))) w)):Calls Tryz.prog 160 #[.string s] w R:=by
 unfold rightS at hR
 by_cases h0:0<s.size
 ·have hl:=sig_len h0
  have cS:=Lib.hid fun R hR=>signs_calls s 0 h0 hs w R hR
  replace hs:s.size≤9223372036854775807:=hs;generalize sigS s 0=m at *
  by_cases h3:s.size≤32
  ·by_cases h2:m=s.size
   ·rw [decide_eq_true ⟨h0,h3,h2⟩]at hR
    have e:((m:Int)==(s.size:Int))=true:=by simp;omega
    go_enter Tryz.func160,Tryz.ntmps160
    go_wp2_with fail
    refine cS.out _ (Lib.hid ?_);go_wp2_with fail
    exact hR.out
   ·rw [decide_eq_false (fun h=>h2 h.2.2)]at hR
    have e:((m:Int)==(s.size:Int))=false:=by simp;omega
    go_enter Tryz.func160,Tryz.ntmps160
    go_wp2_with fail
    refine cS.out _ (Lib.hid ?_);go_wp2_with fail
    exact hR.out
  ·rw [decide_eq_false (fun h=>h3 h.2.1)]at hR
   go_enter Tryz.func160,Tryz.ntmps160
   go_wp2_with fail
   exact hR.out
 ·rw [decide_eq_false (fun h=>h0 h.1)]at hR
  go_enter Tryz.func160,Tryz.ntmps160
  go_wp2_with fail
  exact hR.out
end Go.Proofs.YtabhkakomececaaGreat.Nam
namespace Go.Proofs.YtabhkakomececaaGreat
open Go.RowKit Go.Lib
section
variable {P:Program} {md:Region.Mode} {ops:Array Oper} {Q:Exit→Act→World→Prop} {C:World→Prop}
def YC(P:Program)(ops:Array Oper)(C:World→Prop)(o:Oper)(v:Value)(a:Act):Prop :=
(Region.wanted o (yielded ops a.tmps)=true∧∀w,C w→(execOp a.eval o).run P w=.ok (.value v) w)∨(Region.wanted o (yielded ops a.tmps)=false∧v=undef)
theorem YC.same{o:Oper}{v:Value}{a b:Act}(h:YC P ops C o v a)(he:execOp b.eval o=execOp a.eval o)(hw:Region.wanted o (yielded ops b.tmps)=Region.wanted o (yielded ops a.tmps)):YC P ops C o v b:=by
 unfold YC;rw [he,hw];exact h
theorem wpOp_keep{j:Nat}{oj:Oper}(hj:ops[j]?=some oj){Z:Act→Prop}{K:Act→World→Prop}{a:Act}{w:World}(hz:∀b:Act,b=a∨(∃d,b={ a with defers:=d::a.defers })→∀u,Z (b.put oj.dst u))(h:wpOp P ops Q j K a w) :
  wpOp P ops Q j (fun b w'=>Z b∧K b w') a w:=by
 have z0:=hz a (.inl rfl);unfold wpOp at h ⊢;simp only[hj]at h ⊢
 split
 ·next hw =>
  rw [if_pos hw]at h;refine h.imp (fun h=>?_) id;unfold Oper.wp at h ⊢;generalize(execOp a.eval oj).run P w=r at *;cases r with
  | halt x w'=>cases x<;>exact h
  | ok n w' =>
   cases n<;>simp only[Oper.upon]at h ⊢
   case value u=>exact⟨z0 u,h⟩
   case skip=>exact⟨z0 _,h⟩
   case defer d=>exact⟨hz _ (.inr ⟨d,rfl⟩) _,h⟩
   case enter f args=>exact Calls.mono h fun e w'' he=>by cases e<;>first|exact⟨z0 _,he⟩|exact he
   case row r args=>exact Rows.mono h fun u w'' he=>⟨z0 _,he⟩
 ·next hw =>
  rw [if_neg hw]at h;exact⟨z0 _,h⟩
theorem wpOp_behind{j:Nat}{oi oj:Oper}{v:Value}(hj:ops[j]?=some oj)(hap:oi.apart ops oj=true)(hsi:∀cs b,oi.op≠.select cs b)(hsj:∀cs b,oj.op≠.select cs b)
  (hQ:∀c a w,Q (.panic c) (a.put oi.dst v) w→Q (.panic c) a w) {K:Act→World→Prop} {a:Act} {w:World} (hy:YC P ops C oi v a) (h:wpOp P ops Q j K (a.put oi.dst v) w) :
  wpOp P ops Q j (fun b w'=>YC P ops C oi v b∧K (b.put oi.dst v) w') a w:=by
 obtain⟨h1,h2,h3⟩:=Oper.apart_spec hap
 let ok:Oper:={ oi with op:=.assign (.const v),guard:=none }
 have hap':ok.apart ops oj=true:=by
  unfold Oper.apart at hap ⊢;rw [Bool.and_eq_true]at hap ⊢;refine⟨hap.1,?_⟩;cases hd:oj.dst with
  | none=>rfl
  | some d=>simp [ok,Oper.looksAt,Op.operands]
 have hyk:Yields P ops ok v a:=.inl ⟨by simp [ok,Region.wanted],fun w=>by simp [ok,execOp,Act.eval,Sem.run_pure]⟩;have:=wpOp_put (oi:=ok) hj hap' (fun cs b=>by simp [ok]) hsj hQ hyk h;refine wpOp_keep hj (fun b hb u=>?_) (wpOp_mono (fun b w' hb=>hb.2) this);rcases hb with rfl|⟨d,rfl⟩
 ·exact hy.same (execOp_put oi hsi _ _ u h3) (wanted_put oi _ _ u h3)
 ·exact(hy.same rfl rfl:YC P ops C oi v _).same (execOp_put oi hsi _ _ u h3) (wanted_put oi _ _ u h3)
theorem YC.wpOp{i:Nat}{o:Oper}{v:Value}{a:Act}{w:World}(hi:ops[i]?=some o)(hy:YC P ops C o v a)(hw:C w){K:Act→World→Prop}(h:K (a.put o.dst v) w):wpOp P ops Q i K a w:=by
 unfold Go.wpOp;simp only[hi];rcases hy with⟨hg,hv⟩|⟨hg,rfl⟩
 ·rw [if_pos hg]
  exact .inl (by unfold Oper.wp;rw [hv w hw];exact h)
 ·rw [if_neg (by rw [hg];exact Bool.false_ne_true)]
  exact h
def anyC(P:Program)(md:Region.Mode)(ops:Array Oper)(C:World→Prop)(Q:Exit→Act→World→Prop):Nat→Array Bool→Act→World→Prop
| 0,l,a,w=>Region.ready md ops l=[]∧Q .normal a w
| f+1,l,a,w=>(Region.ready md ops l=[]→Q .normal a w)∧∀i∈Region.ready md ops l,wpOp P ops Q i (fun b w'=>C w'∧anyC P md ops C Q f (l.setIfInBounds i true) b w') a w
theorem any_of_C:∀(f:Nat)(l:Array Bool)(a:Act)(w:World),anyC P md ops C Q f l a w→wpAny P md ops Q f l a w
| 0,_,_,_,h=>h
| f+1,l,a,w,h=>⟨h.1,fun i hi=>wpOp_mono (fun b w' hb=>any_of_C f _ b w' hb.2) (h.2 i hi)⟩
theorem anyC_first{i:Nat}{oi:Oper}{v:Value}(hi:ops[i]?=some oi)(hs:Region.noSelect ops=true)(hQ:∀c a w,Q (.panic c) (a.put oi.dst v) w→Q (.panic c) a w):∀(f:Nat)(l:Array Bool)(a:Act)(w:World),C w →
  (∀j oj,ops[j]?=some oj→j≠i→l.getD j true=false→(∀e∈oj.after,Region.binds md e=true→e.on≠i)→oi.apart ops oj=true)→i∈Region.ready md ops l→YC P ops C oi v a →
  anyC P md ops C Q f (l.setIfInBounds i true) (a.put oi.dst v) w→anyC P md ops C Q (f+1) l a w:=by
 have hsel:=Region.noSelect_spec hs;intro f
 induction f with
 | zero =>
  intro l a w hw hfree hr hy H;refine⟨fun h=>(by rw [h]at hr;cases hr),fun j hj=>?_⟩
  by_cases e:j=i
  ·subst e;exact hy.wpOp hi hw ⟨hw,H⟩
  ·have:=ready_mono hj e
   rw [H.1]at this;cases this
 | succ f ih =>
  intro l a w hw hfree hr hy H;refine⟨fun h=>(by rw [h]at hr;cases hr),fun j hj=>?_⟩
  by_cases e:j=i
  ·subst e;exact hy.wpOp hi hw ⟨hw,H⟩
  ·obtain⟨hun,oj,hoj,hall⟩:=mem_ready.1 hj
   have hi0:=(mem_ready.1 hr).1
   have hno:∀x∈oj.after,Region.binds md x=true→x.on≠i:=fun x hx hb q=>by
    have h1:=hall x hx hb;rw [q]at h1;cases hl:l[i]? <;> simp [Array.getD_eq_getD_getElem?,hl]at hi0 h1
    rw [hi0]at h1;cases h1
   have hmix:=wpOp_behind (C:=C) hoj (hfree j oj hoj e hun hno) (fun cs b=>hsel i oi cs b hi) (fun cs b=>hsel j oj cs b hoj) hQ hy (H.2 j (ready_mono hj e));refine wpOp_mono (fun b w' hb=>⟨hb.2.1,ih _ b w' hb.2.1 (fun k ok hk hki hku hkn=>hfree k ok hk hki ?_ hkn) (ready_mono hr (Ne.symm e)) hb.1 ?_⟩) hmix
   ·by_cases q:j=k
    ·rw [←q];exact hun
    ·rwa [getD_set_ne true q]at hku
   ·rw [Array.setIfInBounds_comm _ _ e];exact hb.2.2
def stillB(o:Oper):Bool:=match o.op with
| .move _ | .assign _ | .pick _ _ _ | .load _ _ | .binOp _ _ _ _ _ | .unOp _ _ _ | .indexAddr _ _ _ | .fieldAddr _ _ _ | .build _ _ | .extract _ _ | .field _ _ _=>true
| _=>false
theorem still_value{o:Oper}(h:stillB o=true){ρ:Operand→Value}{w w':World}{n:Next}(hr:(execOp ρ o).run P w=.ok n w'):∃u,n=.value u:=by
 have key:∀{α:Type} (m:Sem α) (g:α→Value) {w w':World} {n:Next},(do pure (Next.value (g (←m))):Sem Next).run P w=.ok n w'→∃u,n=.value u:=fun m g w w' n h=>by
  rw [Sem.run_bind]at h;cases hm:m.run P w with
  | ok u w1=>rw [hm]at h;simp [Result.andThen,Sem.run_pure]at h;exact⟨_,h.1.symm⟩
  | halt x w1=>rw [hm]at h;simp [Result.andThen]at h
 unfold stillB at h;unfold execOp at hr
 cases hop:o.op<;>simp only[hop]at h hr<;>first
  | exact key _ _ hr
  | (simp only[Sem.run_pure]at hr;cases hr;exact⟨_,rfl⟩)
  | cases h
def pickO(ops:Array Oper)(l:List Nat):List Oper:=l.filterMap (ops[·]?)
def quietB(md:Region.Mode)(ops:Array Oper):List Nat→Array Bool→Option (Array Bool)
| [],l=>some l
| i::qs,l=>match ops[i]? with
 | none=>none
 | some o=>if(Region.ready md ops l).contains i&&Region.free md ops l i&&stillB o then quietB md ops qs (l.setIfInBounds i true)else none
theorem quiet_any(hs:Region.noSelect ops=true)(hQ:∀c a d v w,Q (.panic c) (a.put d v) w→Q (.panic c) a w){w:World}(hw:C w){f:Nat}{Kp:Act→Prop}:∀(qs:List Nat)(l l':Array Bool)(a:Act),quietB md ops qs l=some l' →
 wpQuiet P ops C Kp (pickO ops qs) a→(∀b,Kp b→anyC P md ops C Q f l' b w)→anyC P md ops C Q (qs.length+f) l a w
| [],l,l',a,hb,h,hk=>by
 simp only[quietB,Option.some.injEq]at hb;subst hb;rw [List.length_nil,Nat.zero_add];exact hk a h
| i::qs,l,l',a,hb,h,hk=>by
 cases ho:ops[i]? with
 | none=>simp [quietB,ho]at hb
 | some o =>
  simp only[quietB,ho]at hb
  split at hb
  ·next hc =>
   rw [Bool.and_eq_true,Bool.and_eq_true]at hc;rw [show pickO ops (i::qs)=o::pickO ops qs by simp [pickO,ho]]at h
   have hv:∃v,YC P ops C o v a∧wpQuiet P ops C Kp (pickO ops qs) (a.put o.dst v):=by
    unfold wpQuiet at h
    by_cases hg:Region.wanted o (yielded ops a.tmps)=true
    ·rw [if_pos hg]at h
     obtain⟨v,h1,h2⟩:=h;refine⟨v,.inl ⟨hg,fun x hx=>?_⟩,h2⟩;have h3:=h1 x hx;unfold Oper.quietAt at h3;cases hr:(execOp a.eval o).run P x with
     | halt y x'=>rw [hr]at h3;simp only[Oper.quietUpon]at h3
     | ok n x' =>
      obtain⟨u,rfl⟩:=still_value hc.2 hr;rw [hr]at h3;simp only[Oper.quietUpon]at h3;obtain⟨rfl,rfl⟩:=h3;rfl
    ·rw [if_neg hg]at h
     exact⟨undef,.inr ⟨by simpa using hg,rfl⟩,h⟩
   obtain⟨v,hy,h2⟩:=hv;have:=anyC_first ho hs (fun c a w=>hQ c a _ _ w) (qs.length+f) l a w hw (Region.free_spec ho hc.1.2) (by simpa using hc.1.1) hy (quiet_any hs hQ hw qs _ l' _ hb h2 hk);rwa [show(i::qs).length+f=qs.length+f+1 by simp;omega]
  ·cases hb
def mixP(P:Program)(ops:Array Oper)(C:World→Prop)(Q:Exit→Act→World→Prop):List (List Nat×Nat)→List Nat→Act→World→Prop
| [],last,a,w=>wpQuiet P ops C (fun b=>Q .normal b w) (pickO ops last) a
| (qs,k)::rest,last,a,w=>wpQuiet P ops C (fun b=>wpOp P ops Q k (fun b' w'=>C w'∧mixP P ops C Q rest last b' w') b w) (pickO ops qs) a
def mixB(md:Region.Mode)(ops:Array Oper):List (List Nat×Nat)→List Nat→Array Bool→Bool
| [],last,l=>match quietB md ops last l with
 | some l'=>(Region.ready md ops l').isEmpty
 | none=>false
| (qs,k)::rest,last,l=>match quietB md ops qs l with
 | some l'=>decide (Region.ready md ops l'=[k])&&mixB md ops rest last (l'.setIfInBounds k true)
 | none=>false
def mixN:List (List Nat×Nat)→List Nat→Nat
| [],last=>last.length
| (qs,_)::rest,last=>qs.length+(mixN rest last+1)
theorem mix_any(hs:Region.noSelect ops=true)(hQ:∀c a d v w,Q (.panic c) (a.put d v) w→Q (.panic c) a w):∀(segs:List (List Nat×Nat))(last:List Nat)(l:Array Bool)(a:Act)(w:World),C w→mixB md ops segs last l=true →
 mixP P ops C Q segs last a w→anyC P md ops C Q (mixN segs last) l a w
| [],last,l,a,w,hw,hb,h=>by
 unfold mixB at hb
 split at hb
 ·next l' hl =>
  refine quiet_any hs hQ hw (f:=0) last l l' a hl h fun b hk=>?_
  exact⟨by simpa using hb,hk⟩
 ·cases hb
| (qs,k)::rest,last,l,a,w,hw,hb,h=>by
 unfold mixB at hb
 split at hb
 ·next l' hl =>
  rw [Bool.and_eq_true,decide_eq_true_iff]at hb;refine quiet_any hs hQ hw qs l l' a hl h fun b hk=>?_
  refine⟨fun h0=>(by rw [hb.1]at h0;cases h0),fun i hi=>?_⟩
  rw [hb.1]at hi;obtain rfl:=List.mem_singleton.1 hi;exact wpOp_mono (fun b' w' hbw=>⟨hbw.1,mix_any hs hQ rest last _ b' w' hbw.1 hb.2 hbw.2⟩) hk
 ·cases hb
theorem mix_cons{qs:List Nat}{k:Nat}{rest:List (List Nat×Nat)}{last:List Nat}{a:Act}{w:World}{os:List Oper}(ho:pickO ops qs=os)
  (h:∀Kp:Act→Prop,(∀b,wpOp P ops Q k (fun b' w'=>C w'∧mixP P ops C Q rest last b' w') b w→Kp b)→wpQuiet P ops C Kp os a):mixP P ops C Q ((qs,k)::rest) last a w:=by
 subst ho;exact h _ fun _ h=>h
theorem mix_nil{last:List Nat}{a:Act}{w:World}{os:List Oper}(ho:pickO ops last=os)(h:∀Kp:Act→Prop,(∀b,Q .normal b w→Kp b)→wpQuiet P ops C Kp os a):mixP P ops C Q [] last a w:=by
 subst ho;exact h _ fun _ h=>h
theorem loud{k:Nat}{o:Oper}{a:Act}{w:World}{rest:List (List Nat×Nat)}{last:List Nat}(ho:ops[k]?=some o)(hg:Region.wanted o (yielded ops a.tmps)=true)
  (h:∀K:Act→World→Prop,(∀b w',C w'→mixP P ops C Q rest last b w'→K b w')→Oper.wp P o a w K Q):wpOp P ops Q k (fun b' w'=>C w'∧mixP P ops C Q rest last b' w') a w:=by
 unfold Go.wpOp;simp only[ho];rw [if_pos hg];exact .inl (h _ fun b w' h1 h2=>⟨h1,h2⟩)
end
theorem wp_region_mix{P:Program}{id:Nat}{Q:Exit→Act→World→Prop}{a:Act}{w:World}{l:List Oper}(segs:List (List Nat×Nat))(last:List Nat)(hm:P.follows .mixedOrders=true)(hs:Region.noSelect l.toArray=true)
 (hB:mixB .any l.toArray segs last (Array.replicate l.toArray.size false)=true) (hN:mixN segs last=l.toArray.size) (hQ:∀c a d v w,Q (.panic c) (a.put d v) w→Q (.panic c) a w)
 (h:mixP P l.toArray (fun w'=>∃x:BW w,w'=x.w) Q segs last a (w.drewN 1)):(Code.region id l.toArray true).wp P Q a w :=
wp_region_any hm (any_of_C (C:=fun w'=>∃x:BW w,w'=x.w) _ _ _ _ (by
 have:=mix_any hs hQ segs last _ a _ (C:=fun w'=>∃x:BW w,w'=x.w) ⟨⟨w.drewN 1,below_drewN (Below.refl _ _) 1⟩,rfl⟩ hB h;rw [hN]at this;exact this))
abbrev ptA(B:Nat):Value:=.pointer (some ⟨B,0,none⟩)
theorem wpQuiet_load{P:Program}{ops:Array Oper}{C:World→Prop}{Q:Act→Prop}{a:Act}{o:Oper}{rest:List Oper}(hg:o.guard=none)(ty:TypeId)(x:Operand)(ho:o.op=.load ty x)(b off:Nat)(hx:a.eval x=.pointer (some ⟨b,off,none⟩))
  (cs:List Value) (d:TypeDesc) (hc:∀w,C w→w.rangeAt b off cs) (hu:P.underlying ty=some d) (hd:d.isRow=true) (hi:(P.info? ty).map (·.size)=some cs.length) (h:wpQuiet P ops C Q rest (a.put o.dst (.agg cs.toArray))):wpQuiet P ops C Q (o::rest) a:=by
 unfold wpQuiet;rw [if_pos (by simp [Region.wanted,hg])];refine⟨_,fun w hw=>?_,h⟩;unfold Oper.quietAt execOp;simp only[ho,hx,Instr.loadAt,Instr.sureAddr,Sem.run_bind,Sem.run_pure,Result.andThen_ok,run_loadVar_mid w b off ty cs d (hc w hw) hu hd hi];simp [Oper.quietUpon]
theorem wpList_load_g{P:Program}{ops:Array Oper}{rest:List Oper}{op:Oper}{a:Act}{w:World}{Q:Exit→Act→World→Prop}(hw:Region.wanted op (yielded ops a.tmps)=true)(ty:TypeId)(x:Operand)(ho:op.op=.load ty x)(b o:Nat)(hx:a.eval x=.pointer (some ⟨b,o,none⟩))
 (cs:List Value) (d:TypeDesc) (hc:w.rangeAt b o cs) (hu:P.underlying ty=some d) (hd:d.isRow=true) (hi:(P.info? ty).map (·.size)=some cs.length) (h:wpList P ops Q rest (a.put op.dst (.agg cs.toArray)) w):wpList P ops Q (op::rest) a w :=
BigFrame.wpList_want hw fun _ hK=>wp_load_mid ty x ho b o hx cs d hc hu hd hi (hK _ _ h)
section
variable {P:Program} {md:Region.Mode} {ops:Array Oper} {Q:Exit→Act→World→Prop} {C:World→Prop}
theorem anyC_fork{f:Nat}{l:Array Bool}{a:Act}{W:World}{ks:List Nat}(hr:(!(Region.ready md ops l).isEmpty&&(Region.ready md ops l).all fun i=>ks.contains i)=true)(h:∀i∈ks,wpOp P ops Q i (fun b w'=>C w'∧anyC P md ops C Q f (l.setIfInBounds i true) b w') a W):anyC P md ops C Q (f+1) l a W:=by
 rw [Bool.and_eq_true,List.all_eq_true]at hr;exact⟨fun e=>(by rw [e]at hr;simp at hr),fun i hi=>h i (by simpa using hr.2 i hi)⟩
theorem wpOp_run{i:Nat}{o:Oper}{a:Act}{W:World}{K:Act→World→Prop}(e:ops[i]?=some o)(hg:o.guard=none)(h:o.wp P a W K Q):wpOp P ops Q i K a W:=by
 unfold wpOp;rw [e];simp only;rw [if_pos (by simp [Region.wanted,hg])];exact .inl h
theorem wpOp_al{i:Nat}{o:Oper}{d:Tmp}{T:TypeId}{z:Array Value}{a:Act}{W:World}{K:Act→World→Prop}(e:ops[i]?=some o)(hg:o.guard=none)(hd:o.dst=some d)
 (hz:∀(ρ:Operand→Value) (W:World),(execOp ρ o).run P W=.ok (.value (ptA W.heap.size)) (W.alloc (.cells z T))) (h:K (a.put (some d) (ptA W.heap.size)) (W.alloc (.cells z T))):wpOp P ops Q i K a W :=
wpOp_run e hg (by unfold Oper.wp;rw [hz,Oper.upon_value,hd];exact h)
theorem wpOp_st{j:Nat}{s:Oper}{x y:Operand}{T:TypeId}{z c:Array Value}{a:Act}{W:World}{K:Act→World→Prop}{B:Nat}(e:ops[j]?=some s)(hg:s.guard=none)(hd:s.dst=none)(ho:s.op=.store T x y)
 (hi:(P.info? T).map (·.size)=some c.size) (hx:a.eval x=ptA B) (hy:a.eval y=.agg c) (hh:W.heap[B]?=some (.cells z T)) (hold:z.size=c.size) (h1:c.all (·.oneCell')=true) (h:K a (W.setRow B c)):wpOp P ops Q j K a W :=
wpOp_run e hg (wp_store_row T x y ho B c hx hy T z hh hi hold h1 (by rw [hd];exact h))
theorem below_setRow{base B:Nat}{w W:World}{c:Array Value}(hb:base≤B)(h:Below base w W):Below base w (W.setRow B c) :=
⟨h.os,h.tape,h.output,by rw [setRow_size];exact h.size,fun k hk=>(setRow_other W B k c (by omega)).trans (h.block k hk)⟩
def TwoK(Q:Exit→Act→World→Prop)(w:World)(T:TypeId)(z:Array Value)(d1 d2 n1 n2:Tmp)(b:Act):Prop:=∃c1 c2:Array Value,
(z.size=c1.size∧c1.all (·.oneCell')=true)∧(z.size=c2.size∧c2.all (·.oneCell')=true) ∧
(∀p,(b.put (some d1) p).eval (.tmp d1)=p∧(b.put (some d1) p).eval (.tmp n1)=.agg c1)∧(∀q,(b.put (some d2) q).eval (.tmp d2)=q∧(b.put (some d2) q).eval (.tmp n2)=.agg c2) ∧
(∀p q,((b.put (some d1) p).put (some d2) q).eval (.tmp d1)=p∧((b.put (some d1) p).put (some d2) q).eval (.tmp d2)=q∧((b.put (some d1) p).put (some d2) q).eval (.tmp n1)=.agg c1∧((b.put (some d1) p).put (some d2) q).eval (.tmp n2)=.agg c2 ∧
 (b.put (some d2) q).put (some d1) p=(b.put (some d1) p).put (some d2) q) ∧
∀B1 B2 V,w.heap.size≤B1→w.heap.size≤B2→B1≠B2→Below w.heap.size w V→V.heap[B1]?=some (.cells c1 T)→V.heap[B2]?=some (.cells c2 T)→Q .normal ((b.put (some d1) (ptA B1)).put (some d2) (ptA B2)) V
def twoB(md:Region.Mode)(ops:Array Oper)(l:Array Bool)(i1 i2 j1 j2:Nat):Bool :=
let s:=fun(l:Array Bool) (i:Nat)=>l.setIfInBounds i true
let r:=fun(l:Array Bool) (ks:List Nat)=>!(Region.ready md ops l).isEmpty&&(Region.ready md ops l).all fun i=>ks.contains i
let n:=fun(l:Array Bool)=>decide (Region.ready md ops l=[])
r l [i1,i2]&&r (s l i1) [i2,j1]&&r (s l i2) [i1,j2]&&r (s (s l i1) i2) [j1,j2]&&r (s (s l i2) i1) [j1,j2]&&r (s (s l i1) j1) [i2]&&r (s (s l i2) j2) [i1] &&
r (s (s (s l i1) i2) j1) [j2]&&r (s (s (s l i1) i2) j2) [j1]&&r (s (s (s l i2) i1) j1) [j2]&&r (s (s (s l i2) i1) j2) [j1]&&r (s (s (s l i1) j1) i2) [j2]&&r (s (s (s l i2) j2) i1) [j1] &&
n (s (s (s (s l i1) i2) j1) j2)&&n (s (s (s (s l i1) i2) j2) j1)&&n (s (s (s (s l i2) i1) j1) j2)&&n (s (s (s (s l i2) i1) j2) j1)&&n (s (s (s (s l i1) j1) i2) j2)&&n (s (s (s (s l i2) j2) i1) j1)
theorem two_tail{i1 i2 j1 j2:Nat}{o1 o2 s1 s2:Oper}{d1 d2 n1 n2:Tmp}{T:TypeId}{z:Array Value}{l:Array Bool}{b:Act}{w W:World}(hB:twoB md ops l i1 i2 j1 j2=true)
  (e1:ops[i1]?=some o1) (e2:ops[i2]?=some o2) (f1:ops[j1]?=some s1) (f2:ops[j2]?=some s2) (p1:o1.guard=none∧o1.dst=some d1) (p2:o2.guard=none∧o2.dst=some d2)
  (q1:s1.guard=none∧s1.dst=none∧s1.op=.store T (.tmp d1) (.tmp n1)) (q2:s2.guard=none∧s2.dst=none∧s2.op=.store T (.tmp d2) (.tmp n2))
  (z1:∀(ρ:Operand→Value) (W:World),(execOp ρ o1).run P W=.ok (.value (ptA W.heap.size)) (W.alloc (.cells z T))) (z2:∀(ρ:Operand→Value) (W:World),(execOp ρ o2).run P W=.ok (.value (ptA W.heap.size)) (W.alloc (.cells z T)))
  (hi:(P.info? T).map (·.size)=some z.size) (hW:Below w.heap.size w W) (hK:TwoK Q w T z d1 d2 n1 n2 b):anyC P md ops (fun w'=>∃x:BW w,w'=x.w) Q 4 l b W:=by
 obtain⟨c1,c2,⟨k1,k1'⟩,⟨k2,k2'⟩,h1,h2,h12,fin⟩:=hK;unfold twoB at hB;rw [Bool.and_eq_true,Bool.and_eq_true,Bool.and_eq_true,Bool.and_eq_true,Bool.and_eq_true,Bool.and_eq_true,Bool.and_eq_true,Bool.and_eq_true,Bool.and_eq_true,Bool.and_eq_true,Bool.and_eq_true,Bool.and_eq_true,Bool.and_eq_true,Bool.and_eq_true,Bool.and_eq_true,Bool.and_eq_true,Bool.and_eq_true,Bool.and_eq_true]at hB;obtain⟨⟨⟨⟨⟨⟨⟨⟨⟨⟨⟨⟨⟨⟨⟨⟨⟨⟨r0,r1⟩,r2⟩,r12⟩,r21⟩,r1j⟩,r2j⟩,ra1⟩,ra2⟩,rb1⟩,rb2⟩,rc⟩,rd⟩,t1⟩,t2⟩,t3⟩,t4⟩,t5⟩,t6⟩:=hB;have hi1:(P.info? T).map (·.size)=some c1.size:=by rw [hi,k1]
 have hi2:(P.info? T).map (·.size)=some c2.size:=by rw [hi,k2]
 have cin:∀V,Below w.heap.size w V→∃x:BW w,V=x.w:=fun V h=>⟨⟨V,h⟩,rfl⟩
 have sz:∀(V:World) (o:Obj),(V.alloc o).heap.size=V.heap.size+1:=fun V o=>by simp
 have lo:∀(V:World) (o:Obj) (k:Nat),k<V.heap.size→(V.alloc o).heap[k]?=V.heap[k]?:=fun V o k h=>((Below.refl V.heap.size V).alloc (Nat.le_refl _) o).block k h
 have s0:=hW.size;have bz:∀V,Below w.heap.size w V→Below w.heap.size w (V.alloc (.cells z T)):=fun V h=>h.alloc h.size _
 have e0:=heap_alloc_new W (.cells z T);refine anyC_fork r0 fun i hi'=>?_
 rcases List.mem_cons.1 hi' with rfl|hi'
 ·
  refine wpOp_al e1 p1.1 p1.2 z1 ⟨cin _ (bz W hW),?_⟩;refine anyC_fork r1 fun i hi'=>?_
  rcases List.mem_cons.1 hi' with rfl|hi'
  ·refine wpOp_al e2 p2.1 p2.2 z2 ⟨cin _ (bz _ (bz W hW)),?_⟩
   have g1:=(lo (W.alloc (.cells z T)) (.cells z T) W.heap.size (by rw [sz];omega)).trans e0
   have g2:=heap_alloc_new (W.alloc (.cells z T)) (.cells z T);rw [sz]at g2 ⊢;have bb:=bz _ (bz W hW);generalize(W.alloc (.cells z T)).alloc (.cells z T)=V at *;refine anyC_fork r12 fun i hi'=>?_
   rcases List.mem_cons.1 hi' with rfl|hi'
   ·refine wpOp_st f1 q1.1 q1.2.1 q1.2.2 hi1 (h12 _ _).1 (h12 _ _).2.2.1 g1 k1 k1' ⟨cin _ (below_setRow s0 bb),?_⟩
    refine anyC_fork ra1 fun i hi'=>?_
    obtain rfl:=List.mem_singleton.1 hi';refine wpOp_st f2 q2.1 q2.2.1 q2.2.2 hi2 (h12 _ _).2.1 (h12 _ _).2.2.2.1 ((setRow_other V _ _ c1 (by omega)).trans g2) k2 k2' ⟨cin _ (below_setRow (by omega) (below_setRow s0 bb)),of_decide_eq_true t1,?_⟩;exact fin _ _ _ s0 (by omega) (by omega) (below_setRow (by omega) (below_setRow s0 bb)) ((setRow_other _ _ _ c2 (by omega)).trans (setRow_heap V _ z c1 T _ g1)) (setRow_heap _ _ z c2 T _ ((setRow_other V _ _ c1 (by omega)).trans g2))
   ·obtain rfl:=List.mem_singleton.1 hi'
    refine wpOp_st f2 q2.1 q2.2.1 q2.2.2 hi2 (h12 _ _).2.1 (h12 _ _).2.2.2.1 g2 k2 k2' ⟨cin _ (below_setRow (by omega) bb),?_⟩;refine anyC_fork ra2 fun i hi'=>?_
    obtain rfl:=List.mem_singleton.1 hi';refine wpOp_st f1 q1.1 q1.2.1 q1.2.2 hi1 (h12 _ _).1 (h12 _ _).2.2.1 ((setRow_other V _ _ c2 (by omega)).trans g1) k1 k1' ⟨cin _ (below_setRow s0 (below_setRow (by omega) bb)),of_decide_eq_true t2,?_⟩;exact fin _ _ _ s0 (by omega) (by omega) (below_setRow s0 (below_setRow (by omega) bb)) (setRow_heap _ _ z c1 T _ ((setRow_other V _ _ c2 (by omega)).trans g1)) ((setRow_other _ _ _ c1 (by omega)).trans (setRow_heap V _ z c2 T _ g2))
  ·obtain rfl:=List.mem_singleton.1 hi'
   have bb:=bz W hW;have zz:=sz W (.cells z T);generalize W.alloc (.cells z T)=V at *;have g1:=setRow_heap V _ z c1 T _ e0;refine wpOp_st f1 q1.1 q1.2.1 q1.2.2 hi1 (h1 _).1 (h1 _).2 e0 k1 k1' ⟨cin _ (below_setRow s0 bb),?_⟩;have bc:=below_setRow (c:=c1) s0 bb;have zc:(V.setRow W.heap.size c1).heap.size=W.heap.size+1:=by rw [setRow_size,zz]
   generalize V.setRow W.heap.size c1=U at *;refine anyC_fork r1j fun i hi'=>?_
   obtain rfl:=List.mem_singleton.1 hi';refine wpOp_al e2 p2.1 p2.2 z2 ⟨cin _ (bz _ bc),?_⟩;have g3:=(lo U (.cells z T) W.heap.size (by omega)).trans g1;have g2:=heap_alloc_new U (.cells z T);have bd:=bz _ bc;rw [zc]at g2 ⊢;generalize U.alloc (.cells z T)=X at *;refine anyC_fork rc fun i hi'=>?_
   obtain rfl:=List.mem_singleton.1 hi';refine wpOp_st f2 q2.1 q2.2.1 q2.2.2 hi2 (h12 _ _).2.1 (h12 _ _).2.2.2.1 g2 k2 k2' ⟨cin _ (below_setRow (by omega) bd),of_decide_eq_true t5,?_⟩;exact fin _ _ _ s0 (by omega) (by omega) (below_setRow (by omega) bd) ((setRow_other X _ _ c2 (by omega)).trans g3) (setRow_heap X _ z c2 T _ g2)
 ·obtain rfl:=List.mem_singleton.1 hi'
  refine wpOp_al e2 p2.1 p2.2 z2 ⟨cin _ (bz W hW),?_⟩;refine anyC_fork r2 fun i hi'=>?_
  rcases List.mem_cons.1 hi' with rfl|hi'
  ·refine wpOp_al e1 p1.1 p1.2 z1 ⟨cin _ (bz _ (bz W hW)),?_⟩
   rw [(h12 _ _).2.2.2.2];have g2:=(lo (W.alloc (.cells z T)) (.cells z T) W.heap.size (by rw [sz];omega)).trans e0
   have g1:=heap_alloc_new (W.alloc (.cells z T)) (.cells z T);rw [sz]at g1 ⊢;have bb:=bz _ (bz W hW);generalize(W.alloc (.cells z T)).alloc (.cells z T)=V at *;refine anyC_fork r21 fun i hi'=>?_
   rcases List.mem_cons.1 hi' with rfl|hi'
   ·refine wpOp_st f1 q1.1 q1.2.1 q1.2.2 hi1 (h12 _ _).1 (h12 _ _).2.2.1 g1 k1 k1' ⟨cin _ (below_setRow (by omega) bb),?_⟩
    refine anyC_fork rb1 fun i hi'=>?_
    obtain rfl:=List.mem_singleton.1 hi';refine wpOp_st f2 q2.1 q2.2.1 q2.2.2 hi2 (h12 _ _).2.1 (h12 _ _).2.2.2.1 ((setRow_other V _ _ c1 (by omega)).trans g2) k2 k2' ⟨cin _ (below_setRow s0 (below_setRow (by omega) bb)),of_decide_eq_true t3,?_⟩;exact fin _ _ _ (by omega) s0 (by omega) (below_setRow s0 (below_setRow (by omega) bb)) ((setRow_other _ _ _ c2 (by omega)).trans (setRow_heap V _ z c1 T _ g1)) (setRow_heap _ _ z c2 T _ ((setRow_other V _ _ c1 (by omega)).trans g2))
   ·obtain rfl:=List.mem_singleton.1 hi'
    refine wpOp_st f2 q2.1 q2.2.1 q2.2.2 hi2 (h12 _ _).2.1 (h12 _ _).2.2.2.1 g2 k2 k2' ⟨cin _ (below_setRow s0 bb),?_⟩;refine anyC_fork rb2 fun i hi'=>?_
    obtain rfl:=List.mem_singleton.1 hi';refine wpOp_st f1 q1.1 q1.2.1 q1.2.2 hi1 (h12 _ _).1 (h12 _ _).2.2.1 ((setRow_other V _ _ c2 (by omega)).trans g1) k1 k1' ⟨cin _ (below_setRow (by omega) (below_setRow s0 bb)),of_decide_eq_true t4,?_⟩;exact fin _ _ _ (by omega) s0 (by omega) (below_setRow (by omega) (below_setRow s0 bb)) (setRow_heap _ _ z c1 T _ ((setRow_other V _ _ c2 (by omega)).trans g1)) ((setRow_other _ _ _ c1 (by omega)).trans (setRow_heap V _ z c2 T _ g2))
  ·obtain rfl:=List.mem_singleton.1 hi'
   have bb:=bz W hW;have zz:=sz W (.cells z T);generalize W.alloc (.cells z T)=V at *;have g2:=setRow_heap V _ z c2 T _ e0;refine wpOp_st f2 q2.1 q2.2.1 q2.2.2 hi2 (h2 _).1 (h2 _).2 e0 k2 k2' ⟨cin _ (below_setRow s0 bb),?_⟩;have bc:=below_setRow (c:=c2) s0 bb;have zc:(V.setRow W.heap.size c2).heap.size=W.heap.size+1:=by rw [setRow_size,zz]
   generalize V.setRow W.heap.size c2=U at *;refine anyC_fork r2j fun i hi'=>?_
   obtain rfl:=List.mem_singleton.1 hi';refine wpOp_al e1 p1.1 p1.2 z1 ⟨cin _ (bz _ bc),?_⟩;rw [(h12 _ _).2.2.2.2];have g3:=(lo U (.cells z T) W.heap.size (by omega)).trans g2;have g1:=heap_alloc_new U (.cells z T);have bd:=bz _ bc;rw [zc]at g1 ⊢;generalize U.alloc (.cells z T)=X at *;refine anyC_fork rd fun i hi'=>?_
   obtain rfl:=List.mem_singleton.1 hi';refine wpOp_st f1 q1.1 q1.2.1 q1.2.2 hi1 (h12 _ _).1 (h12 _ _).2.2.1 g1 k1 k1' ⟨cin _ (below_setRow (by omega) bd),of_decide_eq_true t6,?_⟩;exact fin _ _ _ (by omega) s0 (by omega) (below_setRow (by omega) bd) (setRow_heap X _ z c1 T _ g1) ((setRow_other X _ _ c1 (by omega)).trans g3)
end
theorem setRow_alloc(w:World)(z c:Array Value)(T:TypeId):(w.alloc (.cells z T)).setRow w.heap.size c=w.alloc (.cells c T):=by
 have e:((w.alloc (.cells z T)).setRow w.heap.size c).heap=(w.alloc (.cells c T)).heap:=by
  refine Array.ext_getElem? fun k=>?_
  by_cases hk:k=w.heap.size
  ·subst hk
   rw [setRow_heap _ _ z c T _ (heap_alloc_new w (.cells z T)),heap_alloc_new]
  ·rw [setRow_other _ _ _ _ hk]
   show(w.heap.push _)[k]?=(w.heap.push _)[k]?;rw [Array.getElem?_push,Array.getElem?_push,if_neg hk,if_neg hk]
 unfold World.setRow at e ⊢;simp only[World.alloc]at e ⊢;rw [e]
theorem wpList_copy{P:Program}{ops:Array Oper}{rest:List Oper}{o s:Oper}{a:Act}{w:World}{Q:Exit→Act→World→Prop}{T:TypeId}{z:Array Value}{d n:Tmp}(c:Array Value)(p1:o.guard=none∧o.dst=some d∧o.op=.alloc T)(q1:s.guard=none∧s.dst=none∧s.op=.store T (.tmp d) (.tmp n))
  (hz:∀(ρ:Operand→Value) (W:World) (o:Oper),o.op=.alloc T→(execOp ρ o).run P W=.ok (.value (ptA W.heap.size)) (W.alloc (.cells z T))) (hi:(P.info? T).map (·.size)=some z.size) (hs:z.size=c.size∧c.all (·.oneCell')=true)
  (he:∀p,(a.put (some d) p).eval (.tmp d)=p∧(a.put (some d) p).eval (.tmp n)=.agg c) (h:wpList P ops Q rest (a.put (some d) (ptA w.heap.size)) (w.alloc (.cells c T))):wpList P ops Q (o::s::rest) a w:=by
 refine wpList_plain p1.1 fun K hK=>?_
 unfold Oper.wp;rw [hz _ _ _ p1.2.2,Oper.upon_value,p1.2.1];refine hK _ _ ?_;refine wpList_store_row q1.1 T _ _ q1.2.2 w.heap.size c (he _).1 (he _).2 T z (heap_alloc_new w _) (by rw [hi,hs.1]) hs.1 hs.2 ?_;rw [q1.2.1,setRow_alloc];exact h
def twoAll(md:Region.Mode)(ops:Array Oper)(qs:List Nat)(i1 i2 j1 j2:Nat):Bool:=match quietB md ops qs (Array.replicate ops.size false)with
| some l=>decide (qs.length+4=ops.size)&&twoB md ops l i1 i2 j1 j2
| none=>false
theorem wp_region_two{P:Program}{id:Nat}{Q:Exit→Act→World→Prop}{a:Act}{w:World}{l os:List Oper}(qs:List Nat)(i1 i2 j1 j2:Nat){o1 o2 s1 s2:Oper}{d1 d2 n1 n2:Tmp}{T:TypeId}{z:Array Value}(hm:P.follows .mixedOrders=true)(hs:Region.noSelect l.toArray=true)
  (hB:twoAll .any l.toArray qs i1 i2 j1 j2=true) (hQ:∀c a d v w,Q (.panic c) (a.put d v) w→Q (.panic c) a w)
  (e1:l.toArray[i1]?=some o1) (e2:l.toArray[i2]?=some o2) (f1:l.toArray[j1]?=some s1) (f2:l.toArray[j2]?=some s2) (p1:o1.guard=none∧o1.dst=some d1∧o1.op=.alloc T) (p2:o2.guard=none∧o2.dst=some d2∧o2.op=.alloc T)
  (q1:s1.guard=none∧s1.dst=none∧s1.op=.store T (.tmp d1) (.tmp n1)) (q2:s2.guard=none∧s2.dst=none∧s2.op=.store T (.tmp d2) (.tmp n2))
  (hz:∀(ρ:Operand→Value) (W:World) (o:Oper),o.op=.alloc T→(execOp ρ o).run P W=.ok (.value (ptA W.heap.size)) (W.alloc (.cells z T)))
  (hi:(P.info? T).map (·.size)=some z.size) (ho:pickO l.toArray qs=os) (h:∀Kp:Act→Prop,(∀b,TwoK Q w T z d1 d2 n1 n2 b→Kp b)→wpQuiet P l.toArray (fun w'=>∃x:BW w,w'=x.w) Kp os a):(Code.region id l.toArray true).wp P Q a w:=by
 unfold twoAll at hB
 split at hB
 ·next l' hl =>
  rw [Bool.and_eq_true,decide_eq_true_iff]at hB;have bD:Below w.heap.size w (w.drewN 1):=below_drewN (Below.refl _ _) 1;subst ho;have:=quiet_any (C:=fun w'=>∃x:BW w,w'=x.w) (f:=4) hs hQ ⟨⟨w.drewN 1,bD⟩,rfl⟩ qs _ l' a hl (h _ fun _ h=>h) fun b hb=>two_tail hB.2 e1 e2 f1 f2 ⟨p1.1,p1.2.1⟩ ⟨p2.1,p2.2.1⟩ q1 q2 (fun ρ W=>hz ρ W o1 p1.2.2) (fun ρ W=>hz ρ W o2 p2.2.2) hi bD hb
  rw [hB.1]at this;exact wp_region_any hm (any_of_C (C:=fun w'=>∃x:BW w,w'=x.w) _ _ _ _ this)
 ·cases hB
end Go.Proofs.YtabhkakomececaaGreat
