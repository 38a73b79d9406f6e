import Derived.Test.YtabhkakomececaaGreatQX
import Derived.Test.YtabhkakomececaaGreatQ35
import Derived.Test.YtabhkakomececaaGreatQ40
set_option linter.all false
set_option maxRecDepth 100000
set_option maxHeartbeats 4000000
namespace Go.Proofs.YtabhkakomececaaGreat.Eff
open Go.RowKit Go.Lib Utf Nam Res Kin Unp Rel Lab Inh Lat Pat
theorem refbottom20_calls(n:Nat)(f:Nat→List Bool)(v:Value)(w:World)(hm:RdM w v n f)(hex:∃t,t<n∧∀a,a<n→on (f t) a=true)(hn:n≤1000000)(R:Ending→World→Prop)
  (hR:Hid (∀t:Nat,t<n→(∀a,a<n→on (f t) a=true)→R (.returned (.int .i64 t)) w)):Calls Tryz.prog 42 #[v] w R:=by
 obtain⟨A,c,rfl,hc,hr⟩:=hm.op;obtain⟨t0,ht0,hb0⟩:=hex;obtain⟨g,o,rfl,hg,hrow⟩:=hr (by omega);replace hrow:=Lib.hid hrow;replace hb0:=Lib.hid hb0;clear hm hr;go_enter Tryz.func42,Tryz.ntmps42
 go_wp2_with fail
 go_loopg [3] n (fun g k wr=>∃K:Nat,k=.int .i64 K∧K+g=n∧wr=w∧Hid (∀j,j<K→∃b,b<n∧on (f j) b=false))
 case atStart=>exact⟨0,rfl,by omega,rfl,Lib.hid fun j h=>by omega⟩
 case round =>
  obtain⟨K,rfl,e1,rfl,e2⟩:=hrel
  by_cases hK:K<n
  case neg =>
   exfalso
   obtain⟨b,hb,e⟩:=e2.out t0 (by omega);rw [hb0.out b hb]at e;cases e
  obtain⟨g1,o1,c1,h1,hg1,h2⟩:=hrow.out K hK;replace h2:=Lib.hid h2;have i0:(0:Int)≤(K:Int):=by omega
  have i1:(K:Int)<(n:Int):=by omega
  obtain⟨gq,rfl⟩:∃g,g=gk:=⟨_,rfl⟩;obtain⟨WO,hWO⟩:∃V,V=wr:=⟨_,rfl⟩;go_wp2_with fail
  go_loopg [4,5] n (fun g al b w2=>∃(L:Nat) (B:Bool),al=.bool B∧b=.int .i64 L∧L+g=n∧w2=WO∧Hid (B=true↔∀j,j<L→on (f K) j=true))
  case atStart=>exact⟨0,true,rfl,rfl,by omega,hWO.symm,Lib.hid ⟨fun _ j h=>by omega,fun _=>rfl⟩⟩
  case round =>
   obtain⟨L,B,rfl,rfl,f1,hw2,f2⟩:=hrel;subst hWO;subst hw2
   by_cases hL:L<n
   ·have u:=h2.out L hL
    have j0:(0:Int)≤(L:Int):=by omega
    have j1:(L:Int)<(n:Int):=by omega
    obtain⟨b1,hb1⟩:∃b,on (f K) L=b:=⟨_,rfl⟩
    have nx:Hid ((B&&b1)=true↔∀j,j<L+1→on (f K) j=true):=Lib.hid (by
     rw [Bool.and_eq_true,f2.out]
     constructor
     ·rintro⟨q1,q2⟩ j hj
      rcases Nat.eq_or_lt_of_le (Nat.le_of_lt_succ hj)with e|q
      ·rw [e,hb1];exact q2
      ·exact q1 j q
     ·intro q
      exact⟨fun j hj=>q j (by omega),by rw [←hb1];exact q L (by omega)⟩)
    rw [hb1]at u;replace hb1:=Lib.hid hb1;cases B with
    | false =>
     go_wp2_with fail
     go_roundg (gk-1)
     case measure=>omega
     case rel=>exact⟨L+1,false,rfl,by go_num,by omega,rfl,nx⟩
    | true =>
     go_wp2_with fail
     go_roundg (gk-1)
     case measure=>omega
     case rel=>exact⟨L+1,b1,rfl,by go_num,by omega,rfl,nx⟩
   ·obtain rfl:L=n:=by omega
    cases B with
    | true =>
     have fin:=Lib.hid (hR.out K hK (f2.out.1 rfl));clear f2 hR;go_wp2_with fail
     exact fin.out
    | false =>
     have nx:Hid (∀j,j<K+1→∃b,b<L∧on (f j) b=false):=Lib.hid fun j hj=>by
      rcases Nat.eq_or_lt_of_le (Nat.le_of_lt_succ hj)with e|q
      ·rw [e]
       refine Classical.byContradiction fun q=>?_
       have:false=true:=f2.out.2 fun b hb=>by
        cases e:on (f K) b with
        | true=>rfl
        | false=>exact absurd ⟨b,hb,e⟩ q
       cases this
      ·exact e2.out j q
     clear f2 e2;go_wp2_with fail
     go_roundg (gq-1)
     case measure=>omega
     case rel=>exact⟨K+1,by go_num,by omega,rfl,nx⟩
theorem refedge20_calls(y:NdR)(A5:Option Addr)(n5 c5:Nat)(ev:Value)(x:St)(gx:Pat.GoodS x)(w:World)(hE:RdEd w ev y.edges)(hl:y.edges.length≤1000000)(R:Ending→World→Prop)
  (hR:Hid (∀w',Below w.heap.size w w'→R (.returned (.int .i64 (selR y x))) w')):Calls Tryz.prog 83 #[.agg #[.int .i64 y.kind,.int .i64 y.at_,.int .i64 y.lo,.int .i64 y.hi,.int .i64 y.most,.slice A5 n5 c5,ev],.agg #[.int .i64 x.1,.int .i64 x.2.1,.string x.2.2]] w R:=by
 obtain⟨A6,c6,rfl,-,hel⟩:=ed_el hE;have n:=F0.z w;obtain⟨V0,e1,n,z1⟩:=n.new (.cells #[.int .i64 y.kind,.int .i64 y.at_,.int .i64 y.lo,.int .i64 y.hi,.int .i64 y.most,.slice A5 n5 c5,.slice A6 y.edges.length c6] 74);obtain⟨V,e2,n,z2⟩:=n.new (.cells #[.int .i64 x.1,.int .i64 x.2.1,.string x.2.2] 159);have hsel:selR y x=if RightSt x then ixF (selB y x) y.edges 0 else -1:=rfl;have cR:=Lib.hid fun W v hx R hR=>refright_steps [x] v W hx (fun z hz=>by rw [List.mem_singleton.1 hz];exact gx) R hR
 rw [right_one]at cR;have r1:=n.rg 0 rfl;obtain⟨V4,e4,n4,z4⟩:=n.new (.cells #[.int .i64 x.1,.int .i64 x.2.1,.string x.2.2] 159);have hx4:Pat.RdP V4 (.slice (some ⟨V.heap.size,0,none⟩) 1 1) [x]:=⟨_,1,1,rfl,rfl,Nat.le_refl _,fun _=>⟨_,0,rfl,n4.lt 0 rfl,fun j u e=>n4.rg 0 rfl j u e⟩⟩;obtain⟨BR,hBR⟩:∃b,decide (RightSt x)=b:=⟨_,rfl⟩;rw [hBR]at cR;replace hel:=Lib.hid hel;clear n z1 z2 z4 hE gx;obtain⟨y0,y1,y2,y3,y4,yn,ye⟩:=y;obtain⟨x0_,x1_,x2_⟩:=x;simp only at hel hl n4 r1 e1 e2 e4;replace hsel:=Lib.hid hsel;go_enter Tryz.func83,Tryz.ntmps83
 go_upto_region 1 with fail
 clear e1 e2;go_wp2_with (refine wpList_load_g (by rfl) 159 _ rfl V0.heap.size 0 rfl _ _ r1 Tryz.underlying159 rfl (by kernel_rfl) ?_;go_simp)
 refine cR.out _ _ hx4 _ (Lib.hid fun W5 m5=>?_);have n:=n4.bl m5;clear cR n4 m5 hx4 r1 e4;cases BR with
 | false =>
  have hs:=hsel.out;rw [if_neg (of_decide_eq_false hBR)]at hs;rw [hs]at hR;have fin:=Lib.hid (hR.out W5 (F0.bel n));clear hs hsel hBR n hR;go_wp2_with fail
  exact fin.out
 | true =>
  have hrs:=of_decide_eq_true hBR;have hs:=hsel.out;rw [if_pos hrs]at hs;rw [hs]at hR;clear hs hsel hBR
  have gg:Hid ((x0_=1∨x0_=5)∨(x0_=2∨x0_=3)∨x0_=4):=Lib.hid (by
   rcases right_cases hrs with⟨nm,e,-⟩|⟨n,e,-⟩|e|e|⟨nm,e,-⟩ <;> (obtain⟨rfl,-,-⟩:=(by simpa using e:x0_=_∧_);simp))
  clear hrs;have n0:=Lib.hid n.tail;clear n;obtain⟨P,hP⟩:∃P,P=selB ⟨y0,y1,y2,y3,y4,yn,ye⟩ (x0_,x1_,x2_):=⟨_,rfl⟩;rw [←hP]at hR;have hPe:Hid (∀e:EdR,P e=decide (x0_=1∧y0=7∧(e.name=x2_∧e.bare=false)∨x0_=5∧y0=8∧(e.name=x2_∧e.bare=false)∨(x0_=2∨x0_=3)∧y0=5∧x1_<y4∨x0_=4∧y0=6)):=Lib.hid fun e=>by rw [hP];rfl
  clear hP;go_upto_region 4 with fail
  go_loopg [5] ye.length (fun g k wr=>∃K:Nat,k=.int .i64 K∧K+g=ye.length∧Hid (ixF P ye 0=ixF P (ye.drop K) K)∧Hid (Hq F0 () () w wr [(V0.heap.size,.cells #[.int .i64 x0_,.int .i64 x1_,.string x2_] 159),(w.heap.size,.cells #[.int .i64 y0,.int .i64 y1,.int .i64 y2,.int .i64 y3,.int .i64 y4,.slice A5 n5 c5,.slice A6 ye.length c6] 74)]))
  case atStart=>exact⟨0,rfl,by omega,Lib.hid rfl,n0⟩
  case round =>
   clear n0;obtain⟨K,rfl,f1,f2,n⟩:=hrel;replace n:=n.out;have a6:=n.c 1 6 rfl rfl
   by_cases hK:K<ye.length
   case neg =>
    obtain rfl:K=ye.length:=by omega
    have f3:=f2.out;rw [List.drop_length]at f3;replace f3:ixF P ye 0=-1:=f3;rw [f3]at hR;have fin:=Lib.hid (hR.out wr (F0.bel n));clear f2 f3 hR n;go_wp2_with fail
    exact fin.out
   obtain⟨g,o,rfl,hg,hrg⟩:=hel.out K hK;have rg:=hrg wr (F0.bel n);have f3:=f2.out;rw [List.drop_eq_getElem_cons hK]at f3;replace f3:ixF P ye 0=if P (ye[K]'hK)=true then(K:Int)else ixF P (ye.drop (K+1)) (K+1):=f3;rw [hPe.out]at f3;have i0:(0:Int)≤(K:Int):=by omega
   have i1:(K:Int)<(ye.length:Int):=by omega
   clear f2 hrg;generalize(ye[K]'hK)=e at *;obtain⟨q0,q1,q2,q3,q4,q5,q6,q7,q8,q9⟩:=e;unfold encE at rg;dsimp only at rg f3;obtain⟨NB,hNB⟩:∃b,b=decide (q0=x2_∧q1=false):=⟨_,rfl⟩
   have f4:ixF P ye 0=if(x0_=1∧y0=7∧NB=true∨x0_=5∧y0=8∧NB=true∨(x0_=2∨x0_=3)∧y0=5∧x1_<y4∨x0_=4∧y0=6)then(K:Int)else ixF P (ye.drop (K+1)) (K+1):=by
    rw [f3,hNB];simp only[decide_eq_true_eq]
   replace f4:=Lib.hid f4;have bE:g<wr.heap.size:=Nat.lt_of_lt_of_le hg (F0.bel n).size;have l0:=n.lt 0 rfl;have l1:=n.lt 1 rfl;have rg0:=rg 0 _ rfl;rw [Nat.add_zero]at rg0;have kn0:=fun q:BW wr=>q.cell bE rg0
   have kn1:=fun q:BW wr=>q.cell bE (rg 1 _ rfl)
   have kx2:=fun q:BW wr=>q.cell l0 (n.c 0 2 rfl rfl)
   have k6:=fun q:BW wr=>q.cell l1 (n.c 1 6 rfl rfl)
   replace n:=Lib.hid n;clear f3 rg rg0;go_upto_region 6 with fail
   clear a6;go_cut [6] (fun e wx=>e=.bool NB∧Hid (Hq F0 () () w wx [(V0.heap.size,.cells #[.int .i64 x0_,.int .i64 x1_,.string x2_] 159),(w.heap.size,.cells #[.int .i64 y0,.int .i64 y1,.int .i64 y2,.int .i64 y3,.int .i64 y4,.slice A5 n5 c5,.slice (some ⟨g,o,none⟩) ye.length c6] 74)]))
   case first =>
    by_cases c:q0=x2_
    ·subst c
     cases q1 with
     | true =>
      obtain rfl:NB=false:=by rw [hNB];simp
      clear hNB;refine wp_region_below_lit (by kernel_rfl) (by kernel_rfl) ?_
      repeat (go_big_quiet_step (fail))
      refine wpQuiet_nil ?_
      rintro _ ⟨q,rfl⟩
      have n2:=Lib.hid (n.out.bl q.b);generalize q.w=V9 at *;clear kn0 kn1 kx2 k6;go_wp2_with fail
      go_meet;exact⟨rfl,n2⟩
     | false =>
      obtain rfl:NB=true:=by rw [hNB];simp
      clear hNB;refine wp_region_below_lit (by kernel_rfl) (by kernel_rfl) ?_
      repeat (go_big_quiet_step (fail))
      refine wpQuiet_nil ?_
      rintro _ ⟨q,rfl⟩
      have n2:=Lib.hid (n.out.bl q.b);generalize q.w=V9 at *;clear kn0 kn1 kx2 k6;go_wp2_with fail
      go_meet;exact⟨rfl,n2⟩
    ·obtain rfl:NB=false:=by rw [hNB];simp [c]
     clear hNB;have tc:(q0.toList==x2_.toList)=false:=by rw [bl_inj];exact decide_eq_false fun q=>c (bl_ext q)
     refine wp_region_below_lit (by kernel_rfl) (by kernel_rfl) ?_
     repeat (go_big_quiet_step (fail))
     refine wpQuiet_nil ?_
     rintro _ ⟨q,rfl⟩
     have n2:=Lib.hid (n.out.bl q.b);generalize q.w=V9 at *;clear kn0 kn1 kx2 k6;go_wp2_with fail
     go_meet;exact⟨rfl,n2⟩
   case rest =>
    obtain⟨rfl,n⟩:=hcut;clear hNB kn0 kn1 kx2 k6 l0 l1;replace n:=n.out;have a0:=n.c 1 0 rfl rfl;have a4:=n.c 1 4 rfl rfl;have b0:=n.c 0 0 rfl rfl;have b1:=n.c 0 1 rfl rfl;have fin1:=Lib.hid fun(h:ixF P ye 0=(K:Int))=>(show R (.returned (.int .i64 K)) _ from h▸hR.out _ (F0.bel n))
    replace n:=Lib.hid n;clear hR;rcases gg.out with(rfl|rfl)|(rfl|rfl)|rfl
    ·by_cases c:y0=7
     ·subst c
      cases NB with
      | true =>
       have e:=f4.out;rw [if_pos (by simp)]at e;have fin:=Lib.hid (fin1.out e);clear e f4 fin1 n;go_wp2_with fail
       exact fin.out
      | false =>
       have e:=f4.out;rw [if_neg (by simp)]at e;replace e:=Lib.hid e;clear f4 fin1;go_wp2_with fail
       go_roundg (gk-1)
       case measure=>omega
       case rel=>exact⟨K+1,by go_num,by omega,e,n⟩
     ·have tc:(y0==7)=false:=by simpa using c
      have e:=f4.out;rw [if_neg (by simp [c])]at e;replace e:=Lib.hid e;clear f4 fin1;go_wp2_with fail
      go_roundg (gk-1)
      case measure=>omega
      case rel=>exact⟨K+1,by go_num,by omega,e,n⟩
    ·by_cases c:y0=8
     ·subst c
      cases NB with
      | true =>
       have e:=f4.out;rw [if_pos (by simp)]at e;have fin:=Lib.hid (fin1.out e);clear e f4 fin1 n;go_wp2_with fail
       exact fin.out
      | false =>
       have e:=f4.out;rw [if_neg (by simp)]at e;replace e:=Lib.hid e;clear f4 fin1;go_wp2_with fail
       go_roundg (gk-1)
       case measure=>omega
       case rel=>exact⟨K+1,by go_num,by omega,e,n⟩
     ·have tc:(y0==8)=false:=by simpa using c
      have e:=f4.out;rw [if_neg (by simp [c])]at e;replace e:=Lib.hid e;clear f4 fin1;go_wp2_with fail
      go_roundg (gk-1)
      case measure=>omega
      case rel=>exact⟨K+1,by go_num,by omega,e,n⟩
    ·by_cases c:y0=5
     ·subst c
      by_cases m:x1_<y4
      ·have e:=f4.out
       rw [if_pos (by simp [m])]at e;have fin:=Lib.hid (fin1.out e);clear e f4 fin1 n;go_wp2_with fail
       exact fin.out
      ·have m2:y4≤x1_:=by omega
       have e:=f4.out;rw [if_neg (by simp [m])]at e;replace e:=Lib.hid e;clear f4 fin1;go_wp2_with fail
       go_roundg (gk-1)
       case measure=>omega
       case rel=>exact⟨K+1,by go_num,by omega,e,n⟩
     ·have tc:(y0==5)=false:=by simpa using c
      have e:=f4.out;rw [if_neg (by simp [c])]at e;replace e:=Lib.hid e;clear f4 fin1;go_wp2_with fail
      go_roundg (gk-1)
      case measure=>omega
      case rel=>exact⟨K+1,by go_num,by omega,e,n⟩
    ·by_cases c:y0=5
     ·subst c
      by_cases m:x1_<y4
      ·have e:=f4.out
       rw [if_pos (by simp [m])]at e;have fin:=Lib.hid (fin1.out e);clear e f4 fin1 n;go_wp2_with fail
       exact fin.out
      ·have m2:y4≤x1_:=by omega
       have e:=f4.out;rw [if_neg (by simp [m])]at e;replace e:=Lib.hid e;clear f4 fin1;go_wp2_with fail
       go_roundg (gk-1)
       case measure=>omega
       case rel=>exact⟨K+1,by go_num,by omega,e,n⟩
     ·have tc:(y0==5)=false:=by simpa using c
      have e:=f4.out;rw [if_neg (by simp [c])]at e;replace e:=Lib.hid e;clear f4 fin1;go_wp2_with fail
      go_roundg (gk-1)
      case measure=>omega
      case rel=>exact⟨K+1,by go_num,by omega,e,n⟩
    ·by_cases c:y0=6
     ·subst c
      have e:=f4.out;rw [if_pos (by simp)]at e;have fin:=Lib.hid (fin1.out e);clear e f4 fin1 n;go_wp2_with fail
      exact fin.out
     ·have tc:(y0==6)=false:=by simpa using c
      have e:=f4.out;rw [if_neg (by simp [c])]at e;replace e:=Lib.hid e;clear f4 fin1;go_wp2_with fail
      go_roundg (gk-1)
      case measure=>omega
      case rel=>exact⟨K+1,by go_num,by omega,e,n⟩
theorem RdP_tail {w:World} {g o n c:Nat} {x:St} {r:List St} (h:Pat.RdP w (.slice (some ⟨g,o,none⟩) n c) (x::r)):Pat.RdP w (.slice (some ⟨g,o+3,none⟩) (n-1) (c-1)) r:=by
 obtain⟨A,n',c',e,hl,hn,hc⟩:=h;simp only[Value.slice.injEq]at e;obtain⟨rfl,rfl,rfl⟩:=e;have e1:flatG Pat.encP (x::r)=Pat.encP x++flatG Pat.encP r:=rfl;rw [e1,List.length_append,Pat.encP_len]at hl;refine⟨_,_,_,rfl,by omega,by omega,fun hp=>?_⟩;obtain⟨g',o',e2,hg,hcc⟩:=hc (by rw [e1,List.length_append,Pat.encP_len];omega)
 simp only[Option.some.injEq,Addr.mk.injEq]at e2;obtain⟨rfl,rfl,-⟩:=e2;refine⟨g,o+3,rfl,hg,fun j u hj=>?_⟩;rw [Nat.add_assoc];refine hcc (3+j) u ?_;rw [e1,List.getElem?_append_right (by rw [Pat.encP_len];omega),Pat.encP_len,Nat.add_sub_cancel_left]
 exact hj
theorem refwalk20_calls{l:List NdR}{n':Nat}{f:Nat→List Bool}(A1:Option Addr)(n1 c1:Nat)(lq nsv:Value)(rt:Int)(gl:GoodL l)(dl:DsL l)(ix:NdIn l.length l)(hx:NdEd n' l)(hll:l.length≤40000)(hLt:Latt n' fun a b=>on (f a) b)(hn:n'≤64) :
  ∀(xs:List St) (pv:Value) (w:World) (I a:Nat),I<l.length→a<n'→RdNo w nsv l→RdM w lq n' f→Pat.RdP w pv xs→(∀s∈xs,Pat.GoodS s)→xs.length≤1000000→∀R:Ending→World→Prop,
   Hid (∀w',Below w.heap.size w w'→R (.returned (.tuple #[.int .i64 (walkS (joinS n' fun a b=>on (f a) b) selI l xs ((I:Int),(a:Int))).1,.int .i64 (walkS (joinS n' fun a b=>on (f a) b) selI l xs ((I:Int),(a:Int))).2])) w') →
   Calls Tryz.prog 41 #[.agg #[.slice A1 n1 c1,lq,nsv,.int .i64 rt],.int .i64 I,.int .i64 a,pv] w R:=by
 intro xs
 induction xs with
 | nil =>
  intro pv w I a hI ha rn rm hp gxs hxl R hR;obtain⟨Aq,cq,rfl,-,-⟩:=rm.op;obtain⟨An,cn,rfl,-,-⟩:=rn.el;obtain⟨A,c,rfl,-,-⟩:=hp.op;have n:=F0.z w;obtain⟨V,e1,n,z1⟩:=n.new (.cells #[.slice A1 n1 c1,.slice Aq n' cq,.slice An l.length cn,.int .i64 rt] 52);have fin:=Lib.hid (hR.out V (F0.bel n));clear n z1 hR rn rm hp;simp only[List.length_nil];go_enter Tryz.func41,Tryz.ntmps41
  go_upto_region 1 with fail
  clear e1;go_wp2_with fail
  first|exact fin.out|(refine bodyPost_ret ?_ rfl fin.out;simp [results,Tryz.results41,go_sem,walkS])|(refine bodyPost_end ?_ rfl fin.out;simp [results,Tryz.results41,go_sem,walkS])
 | cons x r ih =>
  intro pv w I a hI ha rn rm hp gxs hxl R hR;have rm0:=rm;have rn0:=rn;have hp0:=hp;obtain⟨Aq,cq,rfl,-,-⟩:=rm.op;obtain⟨An,cn,rfl,-,hel⟩:=rn.el;obtain⟨A,c,rfl,hlc,hr⟩:=hp.op;obtain⟨g,o,rfl,hg,hca⟩:=hr (by simp);obtain⟨u0,u1,u2⟩:=hca 0 (by simp);have gx:=gxs x List.mem_cons_self;have gr:∀s∈r,Pat.GoodS s:=fun s hs=>gxs s (List.mem_cons_of_mem _ hs)
  have hrl:r.length≤1000000:=by simp only[List.length_cons]at hxl;omega
  obtain⟨g_,o_,nv,ev,rfl,hg_,hra,rS,rE⟩:=hel I hI;rw [walk_step hI]at hR;have yg:=gl _ (List.getElem_mem hI);have yd:=dl _ (List.getElem_mem hI);have yi:=ix _ (List.getElem_mem hI);have yx:=hx _ (List.getElem_mem hI);obtain⟨A5,c5,rfl,-⟩:=rS.open;obtain⟨A6,c6,rfl,-,hA⟩:=ed_el rE;have se:=sel_eq yg yd x;have sn:=fun q=>sel_in (x:=x) yg q
  have a6_:=hra 6 _ rfl
  have rs:w.rangeAt g o [.int .i64 x.1,.int .i64 x.2.1,.string x.2.2]:=fun j v h=>by
   match j,h with
   | 0,h=>simp only[List.getElem?_cons_zero,List.getElem?_cons_succ,Option.some.injEq]at h;rw [←h];simpa [stN,List.getD]using u0
   | 1,h=>simp only[List.getElem?_cons_zero,List.getElem?_cons_succ,Option.some.injEq]at h;rw [←h];simpa [stN,List.getD]using u1
   | 2,h=>simp only[List.getElem?_cons_zero,List.getElem?_cons_succ,Option.some.injEq]at h;rw [←h];simpa [stN,List.getD]using u2
   | j+3,h=>simp at h
  have hrtail:=RdP_tail hp0;rw [List.length_cons]at hrtail hlc;have n:=F0.z w;obtain⟨V,e1,n,z1⟩:=n.new (.cells #[.slice A1 n1 c1,.slice Aq n' cq,.slice (some ⟨g_,o_,none⟩) l.length cn,.int .i64 rt] 52);have bV:=F0.bel n;have hEl:(l[I]'hI).edges.length≤1000000:=by have:=yg.le;omega
  have cE:=Lib.hid fun(q:BW V) R hR=>refedge20_calls (l[I]'hI) A5 (l[I]'hI).names.length c5 _ x gx q.w (RdAt.below rE (bV.trans (q.b.mono bV.size))) hEl R hR
  rw [←se]at cE
  have rN:∀W,(∃q:BW V,W=q.w)→W.rangeAt g_ (o_+I*7) [.int .i64 (l[I]'hI).kind,.int .i64 (l[I]'hI).at_,.int .i64 (l[I]'hI).lo,.int .i64 (l[I]'hI).hi,.int .i64 (l[I]'hI).most,.slice A5 (l[I]'hI).names.length c5,.slice A6 (l[I]'hI).edges.length c6]:=fun W hW j v e=>by
   obtain⟨q,rfl⟩:=hW;exact((bV.trans (q.b.mono bV.size)).cell (p:=⟨g_,o_+I*7+j,none⟩) hg_).trans (hra j v e)
  have rX:∀W,(∃q:BW V,W=q.w)→W.rangeAt g o [.int .i64 x.1,.int .i64 x.2.1,.string x.2.2]:=fun W hW j v e=>by
   obtain⟨q,rfl⟩:=hW;exact((bV.trans (q.b.mono bV.size)).cell (p:=⟨g,o+j,none⟩) hg).trans (rs j v e)
  replace hA:=Lib.hid hA;replace yi:=Lib.hid yi;replace yx:=Lib.hid yx;replace sn:=Lib.hid sn;replace ih:=Lib.hid ih;replace gr:=Lib.hid gr;replace rm0:=Lib.hid rm0;replace rn0:=Lib.hid rn0;replace hLt:=Lib.hid hLt;generalize hS:selI (l[I]'hI) x=S at *;replace hS:=Lib.hid hS;generalize hy:l[I]'hI=y at *;replace hy:=Lib.hid hy;obtain⟨x0_,x1_,x2_⟩:=x;simp only at rX cE;have lenx:List.length ((x0_,x1_,x2_)::r)=r.length+1:=rfl;rw [lenx];obtain⟨m,hm⟩:∃m,r.length+1=m:=⟨_,rfl⟩;rw [hm]at hlc ⊢;rw [hm]at hrtail
  have t0:((m:Int)==0)=false:=by
   have:¬(m:Int)=0:=by omega
   simpa using this
  have q2:(1:Int)≤(m:Int):=by omega
  replace hm:=Lib.hid hm;replace hrtail:=Lib.hid hrtail;have i0:(0:Int)≤(I:Int):=by omega
  have i1:(I:Int)<(l.length:Int):=by omega
  have p1:(0:Int)<(m:Int):=by omega
  have kW2:=fun q:BW V=>q.cell (n.lt 0 rfl) (n.c 0 2 rfl rfl)
  replace n:=Lib.hid n;have gW:Below V.heap.size V (V.drewN 1):=below_drewN (Below.refl _ _) 1;clear hra rS rE hca hr hp hp0 rn rm rs u0 u1 u2 hel gxs gx yg yd se z1 hxl lenx;go_enter Tryz.func41,Tryz.ntmps41
  go_upto_region 1 with fail
  clear e1;go_upto_region 3 with fail
  refine wp_region_mix [([0,1,2,3,4,5,6,7],8)] [9] (by kernel_rfl) (by kernel_rfl) (by kernel_rfl) (by kernel_rfl) (fun _ _ d _ _ h=>by cases d<;>exact h) ?_
  refine mix_cons (os:=[_,_,_,_,_,_,_,_]) (by simp only[pickO,List.filterMap_cons,List.filterMap_nil,List.getElem?_toArray,List.getElem?_cons_succ,List.getElem?_cons_zero];rfl) (fun Kp hKp=>?_)
  iterate 4 (go_big_quiet_step (exact rfl))
  refine wpQuiet_load rfl 74 _ rfl g_ (o_+I*7) rfl _ _ rN Tryz.underlying74 rfl (by kernel_rfl) ?_
  try go_simp
  iterate 2 (go_big_quiet_step (exact rfl))
  refine wpQuiet_load rfl 159 _ rfl g o rfl _ _ rX Tryz.underlying159 rfl (by kernel_rfl) ?_
  try go_simp
  refine wpQuiet_nil ?_;refine hKp _ ?_;clear hKp;refine loud (by rfl) (by kernel_rfl) (fun Kl hKl=>?_);go_simp;refine cE.out ⟨V.drewN 1,gW⟩ _ (Lib.hid fun W5 m5=>?_);have g5:=gW.trans (m5.mono gW.size);refine hKl _ _ (BW.of g5) ?_;clear hKl;refine mix_nil (os:=[_]) (by simp only[pickO,List.filterMap_cons,List.filterMap_nil,List.getElem?_toArray,List.getElem?_cons_succ,List.getElem?_cons_zero];rfl) (fun Kp hKp=>?_)
  repeat (go_big_quiet_step (exact rfl))
  refine wpQuiet_nil ?_;refine hKp _ ?_;replace n:=n.out.bl g5;clear hKp g5 m5 cE kW2 rN rX bV t0
  by_cases s0:0≤S
  case neg =>
   rw [if_pos (by omega)]at hR;have fin:=Lib.hid (hR.out W5 (F0.bel n));have tS:S<0:=by omega
   clear n hR s0;go_wp2_with fail
   first|exact fin.out|(refine bodyPost_ret ?_ rfl fin.out;simp [results,Tryz.results41,go_sem])|(refine bodyPost_end ?_ rfl fin.out;simp [results,Tryz.results41,go_sem])
  case pos =>
   obtain⟨j,hj,rfl,hbare⟩:=sn.out s0;rw [if_neg (by omega),Int.toNat_natCast,List.getElem?_eq_getElem hj]at hR;simp only at hR;have hto:=(yi.out _ (List.getElem_mem hj)).2 hbare;have hlb:=(yx.out _ (List.getElem_mem hj)).lb;obtain⟨ge,oe,rfl,hge,hre⟩:=hA.out j hj;have re:=hre W5 (F0.bel n);clear hre sn yi yx hA;generalize y.edges[j]'hj=e at *;obtain⟨x0,x1,x2,x3,x4,x5,x6,x7,x8,x9⟩:=e;unfold encE at re;dsimp only at re hR hto hlb hbare;subst hbare;obtain⟨D,rfl⟩:∃D:Nat,x3=(D:Int):=⟨x3.toNat,by omega⟩;obtain⟨B,rfl⟩:∃B:Nat,x4=(B:Int):=⟨x4.toNat,by omega⟩;have hD:D<l.length:=by omega
   have hB:B<n':=by omega
   have jl:=hLt.out.jn_lt ha hB;have je:=hLt.out.jn_eq ha hB;rw [Int.toNat_natCast,Int.toNat_natCast,je]at hR;have x2_:=n.c 0 2 rfl rfl;have ea6:W5.cell? ⟨g_,o_+I*7+6,none⟩=some (.slice (some ⟨ge,oe,none⟩) y.edges.length c6):=((F0.bel n).cell (p:=⟨g_,o_+I*7+6,none⟩) hg_).trans a6_;have j0:(0:Int)≤(j:Int):=by omega
   have j1:(j:Int)<(y.edges.length:Int):=by omega
   have tS:¬(j:Int)<0:=by omega
   obtain⟨V6,e6,n,z6⟩:=n.new (.cells #[.string x0,.bool false,.int .i64 x2,.int .i64 D,.int .i64 B,.int .i64 x5,.int .i64 x6,.int .i64 x7,.int .i64 x8,.int .i64 x9] 97);clear a6_ hto hlb s0 z6;go_upto_region 7 with(first|(refine wpList_load_g (by rfl) 97 _ rfl ge (oe+j*10) rfl _ _ re Tryz.underlying97 rfl (by kernel_rfl) ?_;go_simp)|(refine wpList_copy #[.string x0,.bool false,.int .i64 x2,.int .i64 D,.int .i64 B,.int .i64 x5,.int .i64 x6,.int .i64 x7,.int .i64 x8,.int .i64 x9] ⟨rfl,rfl,rfl⟩ ⟨rfl,rfl,rfl⟩ e18_alloc (by kernel_rfl) ⟨rfl,by simp [Value.oneCell']⟩ (fun _=>⟨rfl,rfl⟩) ?_;go_simp))
   clear e6 re ea6 x2_ tS;have bV:=F0.bel n;have g6:Below V6.heap.size V6 (V6.drewN 1):=below_drewN (Below.refl _ _) 1;have b6:=bV.trans (g6.mono bV.size);have l0:=n.lt 0 rfl;have l1:=n.lt 1 rfl;have kE3:=fun q:BW V6=>q.cell l0 (n.c 0 3 rfl rfl)
   have kE4:=fun q:BW V6=>q.cell l0 (n.c 0 4 rfl rfl)
   have kW1:=fun q:BW V6=>q.cell l1 (n.c 1 1 rfl rfl)
   have rW:∀W,(∃q:BW V6,W=q.w)→W.rangeAt w.heap.size 0 [.slice A1 n1 c1,.slice Aq n' cq,.slice (some ⟨g_,o_,none⟩) l.length cn,.int .i64 rt]:=fun W hW=>by
    obtain⟨q,rfl⟩:=hW;exact(n.bl q.b).rg 1 rfl
   have cJ:=refjoin_calls n' f (.slice Aq n' cq) (V6.drewN 1) (rm0.out.below b6) hn a B ha hB;rw [je]at cJ;replace cJ:=Lib.hid cJ;have cR:=Lib.hid fun pv hp R hR=>ih.out pv (V6.drewN 1) D (jn n' (fun a b=>on (f a) b) a B) hD jl (rn0.out.below b6) (rm0.out.below b6) hp gr.out hrl R hR
   have hRn:=Lib.hid fun(q:BW V6)=>hR.out q.w (bV.trans (q.b.mono bV.size))
   generalize walkS (joinS n' fun a b=>on (f a) b) selI l r ((D:Int),((jn n' (fun a b=>on (f a) b) a B:Nat):Int))=res at *;obtain⟨r0,r1⟩:=res;generalize jn n' (fun a b=>on (f a) b) a B=jj at *;have rt6:=Lib.hid (RdAt.below hrtail.out b6);clear hR n je bV ih hrtail rm0 rn0 hLt hS hy gr
   by_cases h2:c=1
   ·subst h2
    have hm1:m=1:=by omega
    have hr0:r=[]:=List.eq_nil_of_length_eq_zero (by have:=hm.out;omega)
    subst hr0;subst hm1;have cR1:=Lib.hid fun R hR=>cR.out (.slice (some ⟨g,o,none⟩) 0 0) (RdG.none0 _ _ _) R hR
    clear cR rt6;refine wp_region_tr (.two [0,1,2,3,4,5,6,7,9] 8 (.one [] 10 (.one [] 11 (.last [12,13,14]))) 10 (.one [] 8 (.one [] 11 (.last [12,13,14])))) 15 (by kernel_rfl) (by kernel_rfl) (by kernel_rfl) (by kernel_rfl) (by decide) (fun _ _ d _ _ h=>by cases d<;>exact h) ?_
    refine tr_two (os:=[_,_,_,_,_,_,_,_,_]) (by simp only[pickO,List.filterMap_cons,List.filterMap_nil,List.getElem?_toArray,List.getElem?_cons_succ,List.getElem?_cons_zero];rfl) (fun Kp hKp=>?_)
    refine wpQuiet_load rfl 52 _ rfl w.heap.size 0 rfl _ _ rW Tryz.underlying52 rfl (by kernel_rfl) ?_
    try go_simp
    repeat (go_big_quiet_step (exact rfl))
    refine wpQuiet_nil ?_;refine hKp _ ?_ ?_
    ·clear hKp
     refine loudr (by rfl) (by kernel_rfl) (fun K1 hK1=>?_);go_simp;refine cJ.out _ (Lib.hid ?_);refine hK1 _ _ (BW.of g6) ?_;clear hK1;refine tr_one (os:=[]) (by rfl) (fun Kp hKp=>?_);refine wpQuiet_nil ?_;refine hKp _ ?_;clear hKp;refine loudr (by rfl) (by kernel_rfl) (fun K1 hK1=>?_);go_simp;refine hK1 _ _ (BW.of g6) ?_;clear hK1;refine tr_one (os:=[]) (by rfl) (fun Kp hKp=>?_);refine wpQuiet_nil ?_;refine hKp _ ?_;clear hKp;refine loudr (by rfl) (by kernel_rfl) (fun K1 hK1=>?_);go_simp;refine cR1.out _ (Lib.hid fun W9 m9=>?_);have g9:=g6.trans (m9.mono g6.size);refine hK1 _ _ (BW.of g9) ?_;clear hK1;refine tr_last (os:=[_,_,_]) (by simp only[pickO,List.filterMap_cons,List.filterMap_nil,List.getElem?_toArray,List.getElem?_cons_succ,List.getElem?_cons_zero];rfl) (fun Kp hKp=>?_)
     repeat (go_big_quiet_step (exact rfl))
     refine wpQuiet_nil ?_;refine hKp _ ?_;clear hKp;have fin:=Lib.hid (hRn.out ⟨W9,g9⟩);clear hRn cR1 cJ;refine loudl (by rfl) (by kernel_rfl) ?_;go_simp;go_wp2_with fail
     first|exact fin.out|(refine bodyPost_ret ?_ rfl fin.out;simp [results,Tryz.results41,go_sem])|(refine bodyPost_end ?_ rfl fin.out;simp [results,Tryz.results41,go_sem])
    ·clear hKp
     refine loudr (by rfl) (by kernel_rfl) (fun K1 hK1=>?_);go_simp;refine hK1 _ _ (BW.of g6) ?_;clear hK1;refine tr_one (os:=[]) (by rfl) (fun Kp hKp=>?_);refine wpQuiet_nil ?_;refine hKp _ ?_;clear hKp;refine loudr (by rfl) (by kernel_rfl) (fun K1 hK1=>?_);go_simp;refine cJ.out _ (Lib.hid ?_);refine hK1 _ _ (BW.of g6) ?_;clear hK1;refine tr_one (os:=[]) (by rfl) (fun Kp hKp=>?_);refine wpQuiet_nil ?_;refine hKp _ ?_;clear hKp;refine loudr (by rfl) (by kernel_rfl) (fun K1 hK1=>?_);go_simp;refine cR1.out _ (Lib.hid fun W9 m9=>?_);have g9:=g6.trans (m9.mono g6.size);refine hK1 _ _ (BW.of g9) ?_;clear hK1;refine tr_last (os:=[_,_,_]) (by simp only[pickO,List.filterMap_cons,List.filterMap_nil,List.getElem?_toArray,List.getElem?_cons_succ,List.getElem?_cons_zero];rfl) (fun Kp hKp=>?_)
     repeat (go_big_quiet_step (exact rfl))
     refine wpQuiet_nil ?_;refine hKp _ ?_;clear hKp;have fin:=Lib.hid (hRn.out ⟨W9,g9⟩);clear hRn cR1 cJ;refine loudl (by rfl) (by kernel_rfl) ?_;go_simp;go_wp2_with fail
     first|exact fin.out|(refine bodyPost_ret ?_ rfl fin.out;simp [results,Tryz.results41,go_sem])|(refine bodyPost_end ?_ rfl fin.out;simp [results,Tryz.results41,go_sem])
   ·have h3:1<c:=by omega
    have h4:¬c-1=0:=by omega
    have cR1:=Lib.hid fun R hR=>cR.out (.slice (some ⟨g,o+3,none⟩) (m-1) (c-1)) rt6.out R hR
    clear cR rt6;refine wp_region_tr (.two [0,1,2,3,4,5,6,7,9] 8 (.one [] 10 (.one [] 11 (.last [12,13,14]))) 10 (.one [] 8 (.one [] 11 (.last [12,13,14])))) 15 (by kernel_rfl) (by kernel_rfl) (by kernel_rfl) (by kernel_rfl) (by decide) (fun _ _ d _ _ h=>by cases d<;>exact h) ?_
    refine tr_two (os:=[_,_,_,_,_,_,_,_,_]) (by simp only[pickO,List.filterMap_cons,List.filterMap_nil,List.getElem?_toArray,List.getElem?_cons_succ,List.getElem?_cons_zero];rfl) (fun Kp hKp=>?_)
    refine wpQuiet_load rfl 52 _ rfl w.heap.size 0 rfl _ _ rW Tryz.underlying52 rfl (by kernel_rfl) ?_
    try go_simp
    repeat (go_big_quiet_step (exact rfl))
    refine wpQuiet_nil ?_;refine hKp _ ?_ ?_
    ·clear hKp
     refine loudr (by rfl) (by kernel_rfl) (fun K1 hK1=>?_);go_simp;refine cJ.out _ (Lib.hid ?_);refine hK1 _ _ (BW.of g6) ?_;clear hK1;refine tr_one (os:=[]) (by rfl) (fun Kp hKp=>?_);refine wpQuiet_nil ?_;refine hKp _ ?_;clear hKp;refine loudr (by rfl) (by kernel_rfl) (fun K1 hK1=>?_);go_simp;refine hK1 _ _ (BW.of g6) ?_;clear hK1;refine tr_one (os:=[]) (by rfl) (fun Kp hKp=>?_);refine wpQuiet_nil ?_;refine hKp _ ?_;clear hKp;refine loudr (by rfl) (by kernel_rfl) (fun K1 hK1=>?_);go_simp;refine cR1.out _ (Lib.hid fun W9 m9=>?_);have g9:=g6.trans (m9.mono g6.size);refine hK1 _ _ (BW.of g9) ?_;clear hK1;refine tr_last (os:=[_,_,_]) (by simp only[pickO,List.filterMap_cons,List.filterMap_nil,List.getElem?_toArray,List.getElem?_cons_succ,List.getElem?_cons_zero];rfl) (fun Kp hKp=>?_)
     repeat (go_big_quiet_step (exact rfl))
     refine wpQuiet_nil ?_;refine hKp _ ?_;clear hKp;have fin:=Lib.hid (hRn.out ⟨W9,g9⟩);clear hRn cR1 cJ;refine loudl (by rfl) (by kernel_rfl) ?_;go_simp;go_wp2_with fail
     first|exact fin.out|(refine bodyPost_ret ?_ rfl fin.out;simp [results,Tryz.results41,go_sem])|(refine bodyPost_end ?_ rfl fin.out;simp [results,Tryz.results41,go_sem])
    ·clear hKp
     refine loudr (by rfl) (by kernel_rfl) (fun K1 hK1=>?_);go_simp;refine hK1 _ _ (BW.of g6) ?_;clear hK1;refine tr_one (os:=[]) (by rfl) (fun Kp hKp=>?_);refine wpQuiet_nil ?_;refine hKp _ ?_;clear hKp;refine loudr (by rfl) (by kernel_rfl) (fun K1 hK1=>?_);go_simp;refine cJ.out _ (Lib.hid ?_);refine hK1 _ _ (BW.of g6) ?_;clear hK1;refine tr_one (os:=[]) (by rfl) (fun Kp hKp=>?_);refine wpQuiet_nil ?_;refine hKp _ ?_;clear hKp;refine loudr (by rfl) (by kernel_rfl) (fun K1 hK1=>?_);go_simp;refine cR1.out _ (Lib.hid fun W9 m9=>?_);have g9:=g6.trans (m9.mono g6.size);refine hK1 _ _ (BW.of g9) ?_;clear hK1;refine tr_last (os:=[_,_,_]) (by simp only[pickO,List.filterMap_cons,List.filterMap_nil,List.getElem?_toArray,List.getElem?_cons_succ,List.getElem?_cons_zero];rfl) (fun Kp hKp=>?_)
     repeat (go_big_quiet_step (exact rfl))
     refine wpQuiet_nil ?_;refine hKp _ ?_;clear hKp;have fin:=Lib.hid (hRn.out ⟨W9,g9⟩);clear hRn cR1 cJ;refine loudl (by rfl) (by kernel_rfl) ?_;go_simp;go_wp2_with fail
     first|exact fin.out|(refine bodyPost_ret ?_ rfl fin.out;simp [results,Tryz.results41,go_sem])|(refine bodyPost_end ?_ rfl fin.out;simp [results,Tryz.results41,go_sem])
end Go.Proofs.YtabhkakomececaaGreat.Eff
