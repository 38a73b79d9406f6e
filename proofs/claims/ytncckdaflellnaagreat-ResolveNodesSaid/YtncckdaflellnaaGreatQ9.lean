import Derived.Test.YtncckdaflellnaaGreatQ5
import Derived.Test.YtncckdaflellnaaGreatQ8
import Derived.Laws.OwnMore
import Derived.Laws.MakeOwn
import Derived.Test.YtncckdaflellnaaGreatQ7
import Derived.Test.YtncckdaflellnaaGreatQ0
import Derived.Lib.Bytealg
import Derived.Lib.Small
set_option linter.all false
set_option maxRecDepth 100000
set_option maxHeartbeats 4000000
namespace Go.Proofs.YtncckdaflellnaaGreat
namespace Lat
open Go.RowKit Go.Lib Rel Nam
def W32(x:Nat):Prop:=x<4294967296
theorem w32_pow{x:Nat}:W32 x↔x<2 ^ 32:=by unfold W32;rw [show(2:Nat) ^ 32=4294967296 from by decide]
theorem bit_w32{a:Nat}(h:a<32):W32 (bitN a):=w32_pow.2 (Nat.pow_lt_pow_right (by decide) h)
theorem zero_w32:W32 0:=by unfold W32;omega
theorem or_w32{x y:Nat}(hx:W32 x)(hy:W32 y):W32 (x|||y):=w32_pow.2 (Nat.or_lt_two_pow (w32_pow.1 hx) (w32_pow.1 hy))
theorem bits_or32 {x y:Nat} (hx:W32 x) (hy:W32 y):bits .or .u32 (x:Int) (y:Int)=((x|||y:Nat):Int):=u32_or_nat x y hx hy
theorem bits_and32 {x y:Nat} (hx:W32 x) (hy:W32 y):bits .and .u32 (x:Int) (y:Int)=((x&&&y:Nat):Int):=u32_and_nat x y hx hy
theorem wrap_bit32{a:Nat}(h:a<32):IntKind.u32.wrap (2 ^ a)=((bitN a:Nat):Int):=by
 have h1:=bit_w32 h;unfold W32 at h1;rw [IntKind.wrap_u32',show((2:Int) ^ a)=((bitN a:Nat):Int)by unfold bitN;simp];omega
def Wds(n:Nat)(F:Nat→Nat→Bool)(f:Nat→Nat):Prop:=∀a,a<n→W32 (f a)∧∀b,(f a).testBit b=(decide (b<n)&&F a b)
def WdsP(n:Nat)(P:Nat→Nat→Prop) [∀a b,Decidable (P a b)](F:Nat→Nat→Bool)(f:Nat→Nat):Prop:=∀a,a<n→W32 (f a)∧∀b,(f a).testBit b=(decide (P a b)&&F a b)
theorem and_word{n:Nat}{F:Nat→Nat→Bool}{f:Nat→Nat}(h:Wds n F f)(o:Ordr n F){a b c:Nat}(ha:a<n)(hb:b<n)(hc:c<n):(f c=f a&&&f b)↔bestB n F a b c=true:=by
 have ta:=(h a ha).2;have tb:=(h b hb).2;have tc:=(h c hc).2;rw [best_iff]
 constructor
 ·intro e
  have key:∀d,d<n→F c d=(F a d&&F b d):=fun d hd=>by
   have:=congrArg (fun x=>Nat.testBit x d) e;simp only[Nat.testBit_and,ta,tb,tc,decide_eq_true hd,Bool.true_and]at this;exact this
  have e1:=key c hc;rw [o.refl c hc]at e1;have e2:=(Bool.and_eq_true _ _).mp e1.symm;exact⟨e2.1,e2.2,fun d hd h1 h2=>by rw [key d hd,h1,h2];rfl⟩
 ·rintro⟨h1,h2,h3⟩
  refine Nat.eq_of_testBit_eq fun d=>?_
  rw [Nat.testBit_and,ta,tb,tc]
  by_cases hd:d<n
  ·rw [decide_eq_true hd,Bool.true_and,Bool.true_and,Bool.true_and,Bool.eq_iff_iff,Bool.and_eq_true]
   exact⟨fun q=>⟨o.trans _ _ _ ha hc hd h1 q,o.trans _ _ _ hb hc hd h2 q⟩,fun q=>h3 d hd q.1 q.2⟩
  ·rw [decide_eq_false hd];rfl
theorem leastF_same{p q:Nat→Bool}:∀(k i:Nat),(∀j,i≤j→j<i+k→p j=q j)→leastF p k i=leastF q k i
| 0,i,h=>rfl
| k+1,i,h=>by rw [leastF,leastF,h i (Nat.le_refl _) (by omega),leastF_same k (i+1) (fun j h1 hj=>h j (by omega) (by omega))]
def idxN(f:Nat→Nat)(n y:Nat):Int:=leastS n fun c=>decide (y=f c)
theorem idx_join{n:Nat}{F:Nat→Nat→Bool}{f:Nat→Nat}(h:Wds n F f)(o:Ordr n F){a b:Nat}(ha:a<n)(hb:b<n):idxN f n (f a&&&f b)=joinS n F a b:=by
 refine leastF_same n 0 fun c _ hc=>?_
 rw [Bool.eq_iff_iff,decide_eq_true_iff,←and_word h o ha hb (by omega)];exact eq_comm
def uv(n:Nat)(f:Nat→Nat):List Value:=(List.range n).map fun i=>.int .u32 (f i:Nat)
theorem uv_len(n:Nat)(f:Nat→Nat):(uv n f).length=n:=by simp [uv]
theorem uv_get(n:Nat)(f:Nat→Nat){i:Nat}(h:i<n):(uv n f)[i]?=some (.int .u32 (f i:Nat)):=by
 unfold uv;rw [List.getElem?_map,List.getElem?_range h];rfl
theorem uv_set(n:Nat)(f:Nat→Nat)(a y:Nat):(uv n f).set a (.int .u32 y)=uv n (upd f a y):=by
 unfold uv;refine List.ext_getElem (by simp) fun i h1 h2=>?_
 rw [List.getElem_set];simp only[List.getElem_map,List.getElem_range,upd]
 by_cases e:a=i
 ·subst e;simp
 ·rw [if_neg e,if_neg (fun q=>e q.symm)]
def latV(v1 v2:Value)(h:Nat→Int):List Value:=v1::v2::(List.range 2048).map fun i=>.int .i8 (h i)
theorem latV_len(v1 v2:Value)(h:Nat→Int):(latV v1 v2 h).length=2050:=by simp [latV]
theorem latV_get(v1 v2:Value)(h:Nat→Int){i:Nat}(hi:i<2048):(latV v1 v2 h)[2+i]?=some (.int .i8 (h i)):=by
 unfold latV;rw [Nat.add_comm,List.getElem?_cons_succ,List.getElem?_cons_succ,List.getElem?_map,List.getElem?_range hi];rfl
def updZ(h:Nat→Int)(i:Nat)(y:Int)(j:Nat):Int:=if j=i then y else h j
theorem latV_set(v1 v2:Value)(h:Nat→Int){i:Nat}(hi:i<2048)(y:Int):(latV v1 v2 h).set (2+i) (.int .i8 y)=latV v1 v2 (updZ h i y):=by
 unfold latV;rw [Nat.add_comm,List.set_cons_succ,List.set_cons_succ]
 congr 2
 refine List.ext_getElem (by simp) fun j h1 h2=>?_
 rw [List.getElem_set];simp only[List.getElem_map,List.getElem_range,updZ]
 by_cases e:i=j
 ·subst e;simp
 ·rw [if_neg e,if_neg (fun q=>e q.symm)]
def latC(v1 v2:Value):Array Value:=(v1::v2::List.replicate 2048 (Value.int .i8 0)).toArray
theorem latC_zero(v1 v2:Value):(latC v1 v2).toList=latV v1 v2 (fun _=>0):=by
 unfold latC latV;simp only[List.map_const'];rw [List.length_range]
theorem place_inj{a b c d:Nat}(hb:b<32)(hd:d<32)(h:a*32+b=c*32+d):a=c∧b=d:=by omega
def setZ(h:Nat→Int)(q a b:Nat)(y:Int):Nat→Int:=updZ (updZ h (q+(a*32+b)) y) (q+(b*32+a)) y
theorem setZ_at{h:Nat→Int}{q a b c d:Nat}{y:Int}(ha:a<32)(hb:b<32)(hc:c<32)(hd:d<32):setZ h q a b y (q+(c*32+d))=if(c=a∧d=b)∨(c=b∧d=a)then y else h (q+(c*32+d)):=by
 unfold setZ updZ
 by_cases h1:c=b∧d=a
 ·obtain⟨rfl,rfl⟩:=h1
  rw [if_pos rfl,if_pos (.inr ⟨rfl,rfl⟩)]
 ·rw [if_neg (fun e=>h1 (place_inj hd ha (by omega)))]
  by_cases h2:c=a∧d=b
  ·obtain⟨rfl,rfl⟩:=h2
   rw [if_pos rfl,if_pos (.inl ⟨rfl,rfl⟩)]
  ·rw [if_neg (fun e=>h2 (place_inj hd hb (by omega))),if_neg (by rintro(h|h);exact h2 h;exact h1 h)]
theorem setZ_far{h:Nat→Int}{q q' a b:Nat}{y:Int}(ha:a<32)(hb:b<32){i:Nat}(hi:i<1024)(hq:q+1024≤q'∨q'+1024≤q):setZ h q a b y (q'+i)=h (q'+i):=by
 unfold setZ updZ;rw [if_neg (by omega),if_neg (by omega)]
def FilM(q:Nat)(J:Nat→Nat→Int)(K L:Nat)(h:Nat→Int):Prop:=∀a b,a<32→b<32→((a<K∧b<K)∨(a=K∧b<L)∨(b=K∧a<L))→h (q+(a*32+b))=J a b
theorem FilM.put{q:Nat}{J:Nat→Nat→Int}{K L:Nat}{h:Nat→Int}(hF:FilM q J K L h)(hJ:∀a b,J a b=J b a)(hK:K<32)(hL:L≤K):FilM q J K (L+1) (setZ h q K L (J K L)):=fun a b ha hb hp=>by
 rw [setZ_at hK (by omega) ha hb]
 split
 ·next hs =>
  rcases hs with⟨rfl,rfl⟩|⟨rfl,rfl⟩
  ·rfl
  ·exact hJ _ _
 ·next hs=>exact hF a b ha hb (by omega)
theorem FilM.far{q q':Nat}{J:Nat→Nat→Int}{K L:Nat}{h:Nat→Int}(hF:FilM q' J K L h){a b:Nat}{y:Int}(ha:a<32)(hb:b<32)(hq:q+1024≤q'∨q'+1024≤q):FilM q' J K L (setZ h q a b y):=fun c d hc hd hp=>by
 rw [setZ_far ha hb (by omega) hq];exact hF c d hc hd hp
theorem FilM.next{q:Nat}{J:Nat→Nat→Int}{K:Nat}{h:Nat→Int}(hF:FilM q J K (K+1) h):FilM q J (K+1) 0 h:=fun a b ha hb hp=>hF a b ha hb (by omega)
theorem FilM.nil{q:Nat}{J:Nat→Nat→Int}{h:Nat→Int}:FilM q J 0 0 h:=fun a b ha hb hp=>by omega
end Lat
namespace Rel
open Go.RowKit Go.Lib
theorem inLoop_none{n:Nat}{F:Nat→Nat→Bool}{K:Nat}(h:∀b,b<n→¬(K≠b∧F K b=true∧F b K=true)):¬inLoop n F K=true:=fun q=>by
 obtain⟨b,h1,h2,h3,h4⟩:=inLoop_iff.1 q;exact h b h1 ⟨h2,h3,h4⟩
theorem relloopx_calls(n:Nat)(P:List (Nat×Nat))(hP:InR n P)(hn:n≤64)(v:Value)(w:World)(h:RelP w v n P)(R:Ending→World→Prop)
  (hR:Hid (∀(m:Nat) w',loopS n (ld n P)=m→Below w.heap.size w w'→R (.returned (.tuple #[.int .i64 m,.bool true])) w'))
  (hR2:Hid (∀w',loopS n (ld n P)=-1→Below w.heap.size w w'→R (.returned (.tuple #[.int .i64 0,.bool false])) w')):Calls Tryz.prog 101 #[v] w R:=by
 have cC:=Lib.hid fun R hR=>relclose_calls n P hP hn v w h R hR
 have cL:=Lib.hid fun(W:World) (hb:Below w.heap.size w W) R hR=>rellenx_calls n P v W (h.below hb) R hR
 obtain⟨p,rfl⟩:=h.ptr;clear h;go_enter Tryz.func101,Tryz.ntmps101
 go_wp2_with fail
 refine cC.out _ (Lib.hid fun cv W rc nb=>?_);have cH:=fun(q:Nat) (a b:Nat) (ha:a<n) (hb:b<n) R hR=>relhasx_calls n (cloL n P) a b (clo_in n P) hn cv (W.drewN q) (rc.below (below_drewN (Below.refl _ _) q)) R hR
 obtain⟨pc,rfl⟩:=rc.ptr
 have cH2:Hid (∀(q:Nat) (a b:Nat),a<n→b<n→∀B,ld n P a b=B→∀R,Hid (∀m,R (.returned (.bool B)) ((W.drewN q).drewN m))→Calls Tryz.prog 148 #[.pointer (some ⟨pc,0,none⟩),.int .i64 (a:Nat),.int .i64 (b:Nat)] (W.drewN q) R):=Lib.hid fun q a b ha hb B hB R hR=>by
  have:=cH q a b ha hb R;rw [hasQ_clo ha hb,hB]at this;exact this hR
 have cL2:=Lib.hid fun(q:Nat) R hR=>cL.out (W.drewN q) (below_drewN nb q) R hR
 have cL3:=Lib.hid fun R hR=>cL.out W nb R hR
 replace nb:=Lib.hid nb;clear cH cC rc cL;generalize ld n P=F at *;go_wp2_with fail
 refine cL3.out _ (Lib.hid ?_);go_wp2_with fail
 go_loopg [11] n (fun g i wr=>∃(K q:Nat),i=.int .i64 K∧K+g=n∧wr=W.drewN q∧Hid (leastF (inLoop n F) g K=loopS n F))
 case atStart=>exact⟨0,0,rfl,by omega,rfl,Lib.hid rfl⟩
 case round =>
  obtain⟨K,q,rfl,c1,rfl,hc⟩:=hrel;clear cL3
  by_cases hK:K<n
  ·obtain⟨kO,rfl⟩:∃k,gk=k+1:=⟨gk-1,by omega⟩
   have hc2:=hc.out;rw [leastF]at hc2;replace hc2:=Lib.hid hc2;clear hc;go_wp2_with fail
   refine cL2.out q _ (Lib.hid ?_);go_wp2_with fail
   go_loopg [16] n (fun g i wr=>∃(L q:Nat),i=.int .i64 L∧L+g=n∧wr=W.drewN q∧Hid (∀b,b<L→¬(K≠b∧F K b=true∧F b K=true)))
   case atStart=>exact⟨0,q,rfl,by omega,rfl,Lib.hid fun b h=>by omega⟩
   case round =>
    obtain⟨L,q2,rfl,d1,rfl,hd⟩:=hrel
    by_cases hL:L<n
    ·have hnext:¬(K≠L∧F K L=true∧F L K=true)→∀b,b<L+1→¬(K≠b∧F K b=true∧F b K=true):=fun h b hb=>by
      rcases Nat.eq_or_lt_of_le (Nat.le_of_lt_succ hb)with e|q
      ·subst e;exact h
      ·exact hd.out b q
     have cA:=Lib.hid (fun q=>cH2.out q K L hK hL);have cB:=Lib.hid (fun q=>cH2.out q L K hL hK)
     by_cases e:K=L
     ·subst e
      have hd2:=Lib.hid (hnext (fun h=>h.1 rfl));clear hd hnext;go_wp2_with fail
      go_roundg (gk-1)
      case measure=>omega
      case rel=>exact⟨K+1,q2,by go_num,by omega,rfl,hd2⟩
     ·have q0:((K:Int) != (L:Int))=true:=by simp;omega
      cases e1:F K L
      ·have hd2:=Lib.hid (hnext (fun h=>by rw [e1]at h;simp at h))
       replace e1:=Lib.hid e1;clear hd hnext;go_wp2_with fail
       refine cA.out q2 false e1.out _ (Lib.hid fun m=>?_);go_wp2_with fail
       go_roundg (gk-1)
       case measure=>omega
       case rel=>exact⟨L+1,q2+m,by go_num,by omega,rfl,hd2⟩
      ·cases e2:F L K
       ·have hd2:=Lib.hid (hnext (fun h=>by rw [e2]at h;simp at h))
        replace e1:=Lib.hid e1;replace e2:=Lib.hid e2;clear hd hnext;go_wp2_with fail
        refine cA.out q2 true e1.out _ (Lib.hid fun m=>?_);go_wp2_with fail
        refine cB.out (q2+m) false e2.out _ (Lib.hid fun m2=>?_);go_wp2_with fail
        go_roundg (gk-1)
        case measure=>omega
        case rel=>exact⟨L+1,q2+m+m2,by go_num,by omega,rfl,hd2⟩
       ·have hin:inLoop n F K=true:=inLoop_iff.2 ⟨L,hL,e,e1,e2⟩
        have e3:=hc2.out;rw [if_pos hin]at e3;have fin:=Lib.hid fun q=>hR.out K (W.drewN q) e3.symm (below_drewN nb.out q)
        replace e1:=Lib.hid e1;replace e2:=Lib.hid e2;clear hd hnext hin e3;go_wp2_with fail
        refine cA.out q2 true e1.out _ (Lib.hid fun m=>?_);go_wp2_with fail
        refine cB.out (q2+m) true e2.out _ (Lib.hid fun m2=>?_);go_wp2_with fail
        exact fin.out _
    ·obtain rfl:L=n:=by omega
     have e3:=hc2.out;rw [if_neg (inLoop_none hd.out)]at e3;replace e3:=Lib.hid e3;clear hd hc2;go_wp2_with fail
     go_roundg kO
     case measure=>omega
     case rel=>exact⟨K+1,q2,by go_num,by omega,rfl,e3⟩
  ·obtain rfl:gk=0:=by omega
   have fin:=Lib.hid (hR2.out _ hc.out.symm (below_drewN nb.out q));clear hc cH2 cL2;go_wp2_with fail
   exact fin.out
end Rel
namespace Lat
open Go.RowKit Go.Lib Rel Nam
theorem infoU32:(Tryz.prog.info? 212).map (fun i=>(i.zero,i.size,i.bytes))=some (some (.int .u32 0),1,4):=by kernel_rfl
theorem mk_u32(n:Nat)(hn:n≤1000000):∃M:Array Value,M.toList=uv n (fun _=>0) ∧
  ∀w,(Instr.makeSlice 208 (.int .i64 n) (.int .i64 n)).run Tryz.prog w=.ok (.slice (some ⟨w.heap.size,0,none⟩) n n) (w.alloc (.cells M 212)):=by
 obtain⟨i0,hi,hz0,hz1,hz2⟩:=info_parts infoU32;refine⟨madeCells (#[.int .u32 0]) (n*1),by rw [toList_madeCells_one,Nat.mul_one];unfold uv;simp only[List.map_const'];rw [List.length_range];rfl,fun w=>?_⟩
 have:=run_make (P:=Tryz.prog) w 208 212 i0 _ Tryz.underlying208 hi hz0 .i64 .i64 n n (by omega) (Int.le_refl _) (by rw [hz2];omega) (by omega)
 rw [hz1]at this;exact this
theorem grown_trans{w w' w'':World}{row:Option Nat}(h:w.grownBy w' row)(h':w'.grownBy w'' row):w.grownBy w'' row :=
⟨h'.os.trans h.os,h'.tape.trans h.tape,h'.output.trans h.output,Nat.le_trans h.size h'.size,fun k hk hr=>(h'.block k (Nat.lt_of_lt_of_le hk h.size) hr).trans (h.block k hk hr)⟩
theorem below_of_grown{B0 B:Nat}{w w':World}(h:w.grownBy w' (some B))(h0:B0≤B)(h1:B0≤w.heap.size):Below B0 w w':=grown_below h h1 (fun k e=>by cases e;exact h0)
theorem grown_cell{w w':World}{B g x:Nat}{u:Value}(h:w.grownBy w' (some B))(hg:g<w.heap.size)(hn:g≠B)(hc:w.cell? ⟨g,x,none⟩=some u):w'.cell? ⟨g,x,none⟩=some u :=
(World.cell?_of_block (a:=⟨g,x,none⟩) (h.block g hg (by simpa using hn))).trans hc
theorem idx32_calls(n:Nat)(f:Nat→Nat)(g c:Nat)(y:Nat)(w:World)(hn:n≤32)(hca:∀i,i<n→w.cell? ⟨g,i,none⟩=some (.int .u32 (f i:Nat)))(R:Ending→World→Prop)
  (hR:Hid (R (.returned (.int .i64 (idxN f n y))) w)):Calls Tryz.prog 150 #[.slice (some ⟨g,0,none⟩) n c,.int .u32 (y:Nat)] w R:=by
 replace hca:=Lib.hid hca;go_enter Tryz.func150,Tryz.ntmps150
 go_wp2_with fail
 go_loopg [5,8] n (fun k s5 i wr=>∃(K:Nat),i=.int .i64 K∧K+k=n∧wr=w∧Hid (leastF (fun c=>decide (y=f c)) k K=idxN f n y))
 case atStart=>exact⟨0,rfl,by omega,rfl,Lib.hid rfl⟩
 case round =>
  obtain⟨K,rfl,c1,rfl,hc⟩:=hrel
  by_cases hK:K<n
  ·obtain⟨kI,rfl⟩:∃k,gk=k+1:=⟨gk-1,by omega⟩
   have e0:=hca.out K hK;have h2:=hc.out;rw [leastF]at h2;have hi0:(0:Int)≤(K:Int):=by omega
   have hi1:(K:Int)<(n:Int):=by omega
   by_cases e:y=f K
   ·rw [if_pos (decide_eq_true e)]at h2
    have q0:(((y:Nat):Int)==((f K:Nat):Int))=true:=by rw [e];simp
    rw [←h2]at hR;clear hc h2 e;generalize f K=z at *;go_wp2_with fail
    exact hR.out
   ·rw [if_neg (by simp [e])]at h2
    have q0:(((y:Nat):Int)==((f K:Nat):Int))=false:=by simp;omega
    replace h2:=Lib.hid h2;clear hc e;generalize f K=z at *;go_wp2_with fail
    go_roundg kI
    case measure=>omega
    case rel=>exact⟨K+1,by go_num,by omega,rfl,h2⟩
  ·obtain rfl:gk=0:=by omega
   have h2:=hc.out;rw [leastF]at h2;rw [←h2]at hR;clear hc h2;go_wp2_with fail
   exact hR.out
abbrev OwnL(w:World)(base B:Nat)(v1 v2:Value)(h:Nat→Int):Prop:=w.ownsRow base 149 1 (.slice (some ⟨B,0,none⟩) 2050 2050) 2050 (latV v1 v2 h)
theorem OwnL.cell{w:World}{base B:Nat}{v1 v2:Value}{h:Nat→Int}(ow:OwnL w base B v1 v2 h){i:Nat}(hi:i<2048):w.cell? ⟨B,2+i,none⟩=some (.int .i8 (h i)):=(World.ownsRow.cellAt ow (2+i) (by omega)).trans (latV_get v1 v2 h hi)
theorem OwnL.frozen{w:World}{base B:Nat}{v1 v2:Value}{h:Nat→Int}(ow:OwnL w base B v1 v2 h)(i:Nat):w.frozen? ⟨B,i,none⟩=false:=World.ownsRow.frozenAt ow i
theorem OwnL.put{w:World}{base B:Nat}{v1 v2:Value}{h:Nat→Int}(ow:OwnL w base B v1 v2 h){i:Nat}(hi:i<2048)(y:Int):OwnL (w.setCell ⟨B,2+i,none⟩ (.int .i8 y)) base B v1 v2 (updZ h i y)∧w.grownBy (w.setCell ⟨B,2+i,none⟩ (.int .i8 y)) (some B):=by
 obtain⟨h1,h2⟩:=World.ownsRow.stored ow (2+i) (.int .i8 y);rw [latV_set v1 v2 h hi]at h1;exact⟨h1,h2⟩
theorem latset_calls(base B:Nat)(v1 v2:Value)(h:Nat→Int)(w:World)(ow:OwnL w base B v1 v2 h)(q o:Nat)(ho:o=2+q)(hq:q=0∨q=1024)(a b k:Nat)(ha:a<32)(hb:b<32)(hk:k<32)(R:Ending→World→Prop)
  (hR:Hid (∀w',OwnL w' base B v1 v2 (setZ h q a b k)→w.grownBy w' (some B)→R (.returned (.tuple #[])) w')):Calls Tryz.prog 151 #[.pointer (some ⟨B,o,none⟩),.int .i64 (a:Nat),.int .i64 (b:Nat),.int .i64 (k:Nat)] w R:=by
 have p1:o+a*32+b=2+(q+(a*32+b)):=by omega
 have p2:o+b*32+a=2+(q+(b*32+a)):=by omega
 have c1:=ow.cell (show q+(a*32+b)<2048 by omega);have f1:=ow.frozen (2+(q+(a*32+b)));obtain⟨o2,g2⟩:=ow.put (show q+(a*32+b)<2048 by omega) k;have c2:=o2.cell (show q+(b*32+a)<2048 by omega);have f2:=o2.frozen (2+(q+(b*32+a)));obtain⟨o3,g3⟩:=o2.put (show q+(b*32+a)<2048 by omega) k;have fin:=Lib.hid (hR.out _ o3 (grown_trans g2 g3));rw [←p1]at c1 f1 fin c2 f2;rw [←p2]at c2 f2 fin;have a0:(0:Int)≤(a:Int):=by omega
 have a1:(a:Int)<32:=by omega
 have b0:(0:Int)≤(b:Int):=by omega
 have b1:(b:Int)<32:=by omega
 have k0:(0:Int)≤(k:Int):=by omega
 have k1:(k:Int)<32:=by omega
 clear p1 p2 o2 g2 o3 g3 ow ho hq hR;generalize h (q+(a*32+b))=y1 at *;generalize updZ h (q+(a*32+b)) k (q+(b*32+a))=y2 at *;go_enter Tryz.func151,Tryz.ntmps151
 go_wp2_with fail
 refine bodyPost_ret ?_ rfl fin.out;simp [results,Tryz.results151,go_sem]
theorem faultat_calls(s:ByteArray)(z e:Int)(w:World)(R:Ending→World→Prop)(hR:Hid (∀w',Below w.heap.size w w'→R (.returned (.agg #[.int .i64 e,.int .i64 z])) w')):Calls Tryz.prog 102 #[.agg #[.string s,.int .i64 z],.int .i64 e] w R:=by
 go_enter Tryz.func102,Tryz.ntmps102
 go_wp2_with fail
 refine bodyPost_ret (v:=.agg #[.int .i64 e,.int .i64 z]) ?_ rfl (hR.out _ ?_)
 ·simp [results,Tryz.results102,go_sem]
 ·exact((Below.refl _ _).alloc (Nat.le_refl _) _).alloc (by simp) _
structure Flt(w:World)(H:Nat)(W:World):Prop where
nb:Below H w W
lt:H<W.heap.size
c0:W.cell? ⟨H,0,none⟩=some (.int .i64 0)
c1:W.cell? ⟨H,1,none⟩=some (.int .i64 0)
f0:W.frozen? ⟨H,0,none⟩=false
f1:W.frozen? ⟨H,1,none⟩=false
theorem Flt.new(w:World):Flt w w.heap.size (w.alloc (.cells #[.int .i64 0,.int .i64 0] 34)):=by
 obtain⟨c0,c1,f0,f1⟩:=fault_new w;exact⟨(Below.refl _ _).alloc (Nat.le_refl _) _,by simp,c0,c1,f0,f1⟩
theorem Flt.below{w W W':World}{H:Nat}(h:Flt w H W)(hb:Below W.heap.size W W'):Flt w H W' :=
⟨h.nb.trans (hb.mono (Nat.le_of_lt h.lt)),Nat.lt_of_lt_of_le h.lt hb.size,(hb.cell (p:=⟨H,0,none⟩) h.lt).trans h.c0,(hb.cell (p:=⟨H,1,none⟩) h.lt).trans h.c1,(hb.frozen (p:=⟨H,0,none⟩) h.lt).trans h.f0,(hb.frozen (p:=⟨H,1,none⟩) h.lt).trans h.f1⟩
theorem Flt.told{w W:World}{H:Nat}(h:Flt w H W)(e z:Value):Below H w ((W.setCell ⟨H,0,none⟩ e).setCell ⟨H,1,none⟩ z)∧((W.setCell ⟨H,0,none⟩ e).setCell ⟨H,1,none⟩ z).cell? ⟨H,0,none⟩=some e∧((W.setCell ⟨H,0,none⟩ e).setCell ⟨H,1,none⟩ z).cell? ⟨H,1,none⟩=some z :=
⟨(h.nb.setCell (p:=⟨H,0,none⟩) (Nat.le_refl _) e).setCell (p:=⟨H,1,none⟩) (Nat.le_refl _) z,st_fault H W e z h.c0 h.c1⟩
def cntS(ws:List Wr)(ps:List Pr):Int×Int:=if ws.length=0 then(15,0)else if 32<ws.length then(8,(wN ws 32).2)else if 256<ps.length then(8,(pN ps 256).1.2)else(0,0)
theorem latcounts_calls(ws:List Wr)(ps:List Pr)(vw vp:Value)(w:World)(hw:RdW w vw ws)(hp:RdPr w vp ps)(R:Ending→World→Prop)
  (hR:Hid (∀w',Below w.heap.size w w'→R (.returned (.agg #[.int .i64 (cntS ws ps).1,.int .i64 (cntS ws ps).2])) w')):Calls Tryz.prog 96 #[vw,vp] w R:=by
 obtain⟨Aw,cw,rfl,hcw,hrw⟩:=hw.op;obtain⟨Ap,cp,rfl,hcp,hrp⟩:=hp.op;have T:=Flt.new w;replace hrw:=Lib.hid hrw;replace hrp:=Lib.hid hrp;clear hw hp;go_enter Tryz.func96,Tryz.ntmps96
 go_upto_region 1 with fail
 generalize w.alloc (.cells #[.int .i64 0,.int .i64 0] 34)=W0 at *;generalize hHH:w.heap.size=H at *;replace hHH:=Lib.hid hHH
 by_cases h0:ws.length=0
 ·have e:cntS ws ps=(15,0):=if_pos h0
  rw [e]at hR;obtain⟨nf,s0,s1⟩:=T.told (.int .i64 15) (.int .i64 0);have c0:=T.c0;have c1:=T.c1;have f0:=T.f0;have f1:=T.f1;replace nf:=Lib.hid nf;replace s0:=Lib.hid s0;replace s1:=Lib.hid s1;clear T e;go_wp2_with fail
  replace s0:=s0.out;replace s1:=s1.out;clear c0 c1 f0 f1;generalize(W0.setCell ⟨H,0,none⟩ _).setCell ⟨H,1,none⟩ _=Wz at *;refine bodyPost_ret ?_ rfl (hR.out _ nf.out);simp [results,Tryz.results96,go_sem,s0,s1]
 by_cases h1:32<ws.length
 ·have e:cntS ws ps=(8,(wN ws 32).2):=by unfold cntS;rw [if_neg h0,if_pos h1]
  rw [e]at hR;obtain⟨g,o,rfl,hg,hca⟩:=hrw.out (by omega);obtain⟨x0,x1⟩:=hca 32 h1;have e0:=(T.nb.cell (p:=⟨g,o+32*2,none⟩) (by have:=hHH.out;simp only;omega)).trans x0
  have e1:=(T.nb.cell (p:=⟨g,o+32*2+1,none⟩) (by have:=hHH.out;simp only;omega)).trans x1
  clear hca x0 x1 e;generalize(wN ws 32).1=s at *;generalize(wN ws 32).2=z at *;have i1:(32:Int)<(ws.length:Int):=by omega
  have i2:32<ws.length:=by omega
  replace T:=Lib.hid T;go_wp2_with fail
  refine faultat_calls s z 8 _ _ (Lib.hid fun w3 n3=>?_);have T3:=T.out.below n3;obtain⟨nf,s0,s1⟩:=T3.told (.int .i64 8) (.int .i64 z);have c0:=T3.c0;have c1:=T3.c1;have f0:=T3.f0;have f1:=T3.f1;replace nf:=Lib.hid nf;replace s0:=Lib.hid s0;replace s1:=Lib.hid s1;clear T3 n3 T e0 e1;go_wp2_with fail
  replace s0:=s0.out;replace s1:=s1.out;clear c0 c1 f0 f1;generalize(w3.setCell ⟨H,0,none⟩ _).setCell ⟨H,1,none⟩ _=Wz at *;refine bodyPost_ret ?_ rfl (hR.out _ nf.out);simp [results,Tryz.results96,go_sem,s0,s1]
 by_cases h2:256<ps.length
 ·have e:cntS ws ps=(8,(pN ps 256).1.2):=by unfold cntS;rw [if_neg h0,if_neg h1,if_pos h2]
  rw [e]at hR;obtain⟨g,o,rfl,hg,hca⟩:=hrp.out (by omega);obtain⟨x0,x1,-,-⟩:=hca 256 h2;have e0:=(T.nb.cell (p:=⟨g,o+256*4,none⟩) (by have:=hHH.out;simp only;omega)).trans x0
  have e1:=(T.nb.cell (p:=⟨g,o+256*4+1,none⟩) (by have:=hHH.out;simp only;omega)).trans x1
  clear hca x0 x1 e;generalize(pN ps 256).1.1=s at *;generalize(pN ps 256).1.2=z at *;have i1:(256:Int)<(ps.length:Int):=by omega
  have i2:256<ps.length:=by omega
  replace T:=Lib.hid T;go_wp2_with fail
  refine faultat_calls s z 8 _ _ (Lib.hid fun w3 n3=>?_);have T3:=T.out.below n3;obtain⟨nf,s0,s1⟩:=T3.told (.int .i64 8) (.int .i64 z);have c0:=T3.c0;have c1:=T3.c1;have f0:=T3.f0;have f1:=T3.f1;replace nf:=Lib.hid nf;replace s0:=Lib.hid s0;replace s1:=Lib.hid s1;clear T3 n3 T e0 e1;go_wp2_with fail
  replace s0:=s0.out;replace s1:=s1.out;clear c0 c1 f0 f1;generalize(w3.setCell ⟨H,0,none⟩ _).setCell ⟨H,1,none⟩ _=Wz at *;refine bodyPost_ret ?_ rfl (hR.out _ nf.out);simp [results,Tryz.results96,go_sem,s0,s1]
 ·have e:cntS ws ps=(0,0):=by unfold cntS;rw [if_neg h0,if_neg h1,if_neg h2]
  rw [e]at hR;obtain⟨nf,s0,s1⟩:=T.told (.int .i64 0) (.int .i64 0);have c0:=T.c0;have c1:=T.c1;have f0:=T.f0;have f1:=T.f1;replace nf:=Lib.hid nf;replace s0:=Lib.hid s0;replace s1:=Lib.hid s1;clear T e;go_wp2_with fail
  replace s0:=s0.out;replace s1:=s1.out;clear c0 c1 f0 f1;generalize(W0.setCell ⟨H,0,none⟩ _).setCell ⟨H,1,none⟩ _=Wz at *;refine bodyPost_ret ?_ rfl (hR.out _ nf.out);simp [results,Tryz.results96,go_sem,s0,s1]
end Lat
namespace Nam
open Go.Lib Utf
theorem cmpB:∀(a b:List UInt8),(compareBytes a b<0↔Go.Op.bytesLess a b=true)∧(compareBytes a b=0↔a=b)∧-1≤compareBytes a b∧compareBytes a b≤1
| [],[]=>by simp [compareBytes,Go.Op.bytesLess]
| [],b::y=>by simp [compareBytes,Go.Op.bytesLess]
| a::x,[]=>by simp [compareBytes,Go.Op.bytesLess]
| a::x,b::y=>by
 have ih:=cmpB x y;rw [less_cons,compareBytes];simp only[UInt8.lt_iff_toNat_lt]
 by_cases h1:a.toNat<b.toNat
 ·rw [if_pos h1]
  refine⟨⟨fun _=>.inl h1,fun _=>by omega⟩,⟨fun h=>by omega,fun h=>?_⟩,by omega,by omega⟩;simp at h;rw [h.1]at h1;omega
 ·rw [if_neg h1]
  by_cases h2:b.toNat<a.toNat
  ·rw [if_pos h2]
   refine⟨⟨fun h=>by omega,fun h=>?_⟩,⟨fun h=>by omega,fun h=>?_⟩,by omega,by omega⟩
   ·rcases h with h|⟨h,-⟩
    ·omega
    ·rw [h]at h2;omega
   ·simp at h;rw [h.1]at h2;omega
  ·rw [if_neg h2]
   have e:a=b:=UInt8.toNat_inj.1 (by omega);subst e;refine⟨?_,?_,ih.2.2⟩
   ·rw [ih.1]
    exact⟨fun h=>.inr ⟨rfl,h⟩,fun h=>h.elim (fun h=>by omega) (fun h=>h.2)⟩
   ·rw [ih.2.1];simp
def cmpS(a b:ByteArray):Int:=compareBytes a.data.toList b.data.toList
theorem cmpS_lt(a b:ByteArray):cmpS a b<0↔lt a b=true:=by
 unfold cmpS lt;rw [(cmpB _ _).1,ba_toList,ba_toList]
theorem cmpS_eq(a b:ByteArray):cmpS a b=0↔a=b:=by
 unfold cmpS;rw [(cmpB _ _).2.1];exact⟨fun h=>ByteArray.ext (Array.ext' h),fun h=>by rw [h]⟩
def at_(xs:List ByteArray)(i:Nat):ByteArray:=xs.getD i ByteArray.empty
theorem at_some{xs:List ByteArray}{i:Nat}(h:i<xs.length):xs[i]?=some (at_ xs i):=by unfold at_;simp [List.getD,List.getElem?_eq_getElem h]
theorem at_get{xs:List ByteArray}{i:Nat}(h:i<xs.length):at_ xs i=xs[i]:=by unfold at_;simp [List.getD,List.getElem?_eq_getElem h]
theorem at_mem{ds:List ByteArray}{k:Nat}(h:k<ds.length):at_ ds k∈ds:=List.mem_of_getElem? (at_some h)
def bef(xs:List ByteArray)(i j:Nat):Prop:=lt (at_ xs i) (at_ xs j)=true∨(at_ xs i=at_ xs j∧i<j)
def cmpI(xs:List ByteArray)(i j:Nat):Int:=if cmpS (at_ xs i) (at_ xs j)=0 then compareInt i j else cmpS (at_ xs i) (at_ xs j)
theorem cmpI_lt(xs:List ByteArray)(i j:Nat):cmpI xs i j<0↔bef xs i j:=by
 unfold cmpI bef
 by_cases h:cmpS (at_ xs i) (at_ xs j)=0
 ·rw [if_pos h]
  have h2:=(cmpS_eq _ _).1 h;rw [h2,lt_irr];unfold compareInt
  constructor
  ·intro q
   by_cases h3:(i:Int)<j
   ·exact .inr ⟨rfl,by omega⟩
   ·rw [if_neg h3]at q;split at q<;>omega
  ·rintro(q|⟨-,q⟩)
   ·cases q
   ·rw [if_pos (by omega)];omega
 ·rw [if_neg h,cmpS_lt]
  exact⟨.inl,fun q=>q.elim id fun q=>absurd ((cmpS_eq _ _).2 q.1) h⟩
theorem bef_irr(xs:List ByteArray)(i:Nat):¬bef xs i i:=by
 rintro(h|h)
 ·rw [lt_irr]at h;cases h
 ·omega
theorem bef_trans{xs:List ByteArray}{i j k:Nat}(h:bef xs i j)(g:bef xs j k):bef xs i k:=by
 rcases h with h|⟨h1,h2⟩ <;> rcases g with g|⟨g1,g2⟩
 ·exact .inl (lt_trans h g)
 ·exact .inl (g1▸h)
 ·exact .inl (h1▸g)
 ·exact .inr ⟨h1.trans g1,by omega⟩
theorem bef_tri{xs:List ByteArray}{i j:Nat}(h:¬bef xs i j)(g:¬bef xs j i):i=j:=by
 have h1:lt (at_ xs i) (at_ xs j)=false:=by
  cases e:lt (at_ xs i) (at_ xs j)
  ·rfl
  ·exact absurd (.inl e) h
 have h2:lt (at_ xs j) (at_ xs i)=false:=by
  cases e:lt (at_ xs j) (at_ xs i)
  ·rfl
  ·exact absurd (.inl e) g
 have e:=lt_tri h1 h2;rcases Nat.lt_trichotomy i j with q|q|q
 ·exact absurd (.inr ⟨e,q⟩) h
 ·exact q
 ·exact absurd (.inr ⟨e.symm,q⟩) g
def Ixs(xs:List ByteArray)(ix:List Nat):Prop:=ix.Perm (List.range xs.length)∧ix.Pairwise (bef xs)
theorem Ixs.len{xs:List ByteArray}{ix:List Nat}(h:Ixs xs ix):ix.length=xs.length:=by rw [h.1.length_eq,List.length_range]
theorem Ixs.lt{xs:List ByteArray}{ix:List Nat}(h:Ixs xs ix){k:Nat}(hk:k<ix.length):ix.getD k 0<xs.length:=by
 have:ix.getD k 0∈List.range xs.length:=h.1.mem_iff.1 (by simp [List.getD,List.getElem?_eq_getElem hk]);simpa using this
theorem Ixs.bef{xs:List ByteArray}{ix:List Nat}(h:Ixs xs ix){a b:Nat}(hab:a<b)(hb:b<ix.length):bef xs (ix.getD a 0) (ix.getD b 0):=by
 have:=List.pairwise_iff_getElem.1 h.2 a b (by omega) hb hab;simpa [List.getD,List.getElem?_eq_getElem hb,List.getElem?_eq_getElem (show a<ix.length by omega)]using this
theorem Ixs.pos{xs:List ByteArray}{ix:List Nat}(h:Ixs xs ix){i:Nat}(hi:i<xs.length):∃k,k<ix.length∧ix.getD k 0=i:=by
 obtain⟨k,hk,e⟩:=List.getElem_of_mem (h.1.mem_iff.2 (List.mem_range.2 hi));exact⟨k,hk,by simp [List.getD,List.getElem?_eq_getElem hk,e]⟩
def dup(xs:List ByteArray)(i:Nat):Prop:=at_ xs i∈xs.take i
theorem dup_iff{xs:List ByteArray}{i:Nat}(hi:i≤xs.length):dup xs i↔∃j,j<i∧at_ xs j=at_ xs i:=by
 unfold dup;rw [List.mem_take_iff_getElem]
 constructor
 ·rintro⟨j,hj,e⟩
  exact⟨j,by omega,by rw [←e];unfold at_;simp [List.getD,List.getElem?_eq_getElem (show j<xs.length by omega)]⟩
 ·rintro⟨j,hj,e⟩
  exact⟨j,by omega,by rw [←e];unfold at_;simp [List.getD,List.getElem?_eq_getElem (show j<xs.length by omega)]⟩
theorem Ixs.dup{xs:List ByteArray}{ix:List Nat}(h:Ixs xs ix){k:Nat}(hk:k<ix.length):dup xs (ix.getD k 0)↔0<k∧at_ xs (ix.getD (k-1) 0)=at_ xs (ix.getD k 0):=by
 rw [dup_iff (Nat.le_of_lt (h.lt hk))]
 constructor
 ·rintro⟨j,hj,e⟩
  obtain⟨m,hm,rfl⟩:=h.pos (Nat.lt_trans hj (h.lt hk));have hb:Nam.bef xs (ix.getD m 0) (ix.getD k 0):=.inr ⟨e,hj⟩
  have hmk:m<k:=by
   rcases Nat.lt_trichotomy m k with q|q|q
   ·exact q
   ·subst q;exact absurd hb (bef_irr _ _)
   ·exact absurd (bef_trans hb (h.bef q hm)) (bef_irr _ _)
  refine⟨by omega,?_⟩;rcases Nat.eq_or_lt_of_le (show m≤k-1 by omega)with q|q
  ·rw [←q,e]
  ·have b1:=h.bef q (show k-1<ix.length by omega)
   have b2:=h.bef (show k-1<k by omega) hk;rcases b2 with b2|b2
   ·rcases b1 with b1|b1
    ·have:=lt_trans b1 b2
     rw [e,lt_irr]at this;cases this
    ·rw [←b1.1,e,lt_irr]at b2;cases b2
   ·exact b2.1
 ·rintro⟨h0,e⟩
  refine⟨_,?_,e⟩;rcases h.bef (show k-1<k by omega) hk with q|q
  ·rw [e,lt_irr]at q;cases q
  ·exact q.2
def Least(xs:List ByteArray)(ix:List Nat)(k m:Nat):Prop:=(∀j,j<k→Nam.dup xs (ix.getD j 0)→m≤ix.getD j 0)∧(m=xs.length∨(m<xs.length∧Nam.dup xs m))
theorem Least.start(xs:List ByteArray)(ix:List Nat):Least xs ix 0 xs.length:=⟨fun j h=>by omega,.inl rfl⟩
theorem Least.skip{xs:List ByteArray}{ix:List Nat}{k m:Nat}(h:Least xs ix k m)(hd:¬Nam.dup xs (ix.getD k 0)):Least xs ix (k+1) m:=by
 refine⟨fun j hj q=>?_,h.2⟩;rcases Nat.eq_or_lt_of_le (Nat.le_of_lt_succ hj)with e|hj
 ·subst e;exact absurd q hd
 ·exact h.1 j hj q
theorem Least.take{xs:List ByteArray}{ix:List Nat}{k m:Nat}(h:Least xs ix k m)(hi:ix.getD k 0<xs.length)(hd:Nam.dup xs (ix.getD k 0)):Least xs ix (k+1) (min m (ix.getD k 0)):=by
 refine⟨fun j hj q=>?_,?_⟩
 ·rcases Nat.eq_or_lt_of_le (Nat.le_of_lt_succ hj)with e|hj
  ·subst e;exact Nat.min_le_right _ _
  ·exact Nat.le_trans (Nat.min_le_left _ _) (h.1 j hj q)
 ·rcases Nat.le_total m (ix.getD k 0)with q|q
  ·rw [Nat.min_eq_left q];exact h.2
  ·rw [Nat.min_eq_right q];exact .inr ⟨hi,hd⟩
theorem Least.fin{xs:List ByteArray}{ix:List Nat}{m:Nat}(hx:Ixs xs ix)(h:Least xs ix ix.length m):m≤xs.length∧twiS xs=if m=xs.length then -1 else(m:Int):=by
 have hall:∀i,i<xs.length→Nam.dup xs i→m≤i:=fun i hi hd=>by
  obtain⟨k,hk,rfl⟩:=hx.pos hi;exact h.1 k hk hd
 rcases h.2 with e|⟨hl,hd⟩
 ·subst e
  refine⟨Nat.le_refl _,?_⟩;rw [if_pos rfl];exact twi_none fun j hj hm=>by have:=hall j hj hm;omega
 ·refine⟨Nat.le_of_lt hl,?_⟩
  rw [if_neg (by omega)];exact twi_is hl hd fun j hj hm=>by have:=hall j (by omega) hm;omega
structure Dist(xs:List ByteArray)(ix:List Nat)(k:Nat)(ds:List ByteArray):Prop where
inc:Inc ds
mem:∀x,x∈ds↔∃j,j<k∧at_ xs (ix.getD j 0)=x
last:(k=0∧ds=[])∨(0<k∧∃c,ds=c++[at_ xs (ix.getD (k-1) 0)])
len:ds.length≤k
theorem Dist.start(xs:List ByteArray)(ix:List Nat):Dist xs ix 0 []:=⟨List.Pairwise.nil,fun x=>by simp,.inl ⟨rfl,rfl⟩,Nat.le_refl _⟩
theorem Dist.skip{xs:List ByteArray}{ix:List Nat}{k:Nat}{ds:List ByteArray}(h:Dist xs ix k ds)(h0:0<k)(e:at_ xs (ix.getD (k-1) 0)=at_ xs (ix.getD k 0)):Dist xs ix (k+1) ds:=by
 refine⟨h.inc,fun x=>?_,.inr ⟨by omega,?_⟩,by have:=h.len;omega⟩
 ·rw [h.mem]
  constructor
  ·rintro⟨j,hj,q⟩;exact⟨j,by omega,q⟩
  ·rintro⟨j,hj,q⟩
   rcases Nat.eq_or_lt_of_le (Nat.le_of_lt_succ hj)with e2|hj
   ·subst e2;exact⟨j-1,by omega,e.trans q⟩
   ·exact⟨j,hj,q⟩
 ·rcases h.last with q|⟨-,c,q⟩
  ·omega
  ·exact⟨c,by rw [q,e,Nat.add_sub_cancel]⟩
theorem Dist.put{xs:List ByteArray}{ix:List Nat}{k:Nat}{ds:List ByteArray}(hx:Ixs xs ix)(hk:k<ix.length)(h:Dist xs ix k ds)(e:¬(0<k∧at_ xs (ix.getD (k-1) 0)=at_ xs (ix.getD k 0))) :
  Dist xs ix (k+1) (ds++[at_ xs (ix.getD k 0)])∧findS xs (at_ xs (ix.getD k 0))=(ix.getD k 0:Nat):=by
 have hlt:∀x∈ds,lt x (at_ xs (ix.getD k 0))=true:=by
  intro x hm;obtain⟨j,hj,rfl⟩:=(h.mem x).1 hm;rcases hx.bef (show k-1<k by omega) hk with q|q
  ·rcases Nat.eq_or_lt_of_le (show j≤k-1 by omega)with e2|hj2
   ·rw [e2];exact q
   ·rcases hx.bef hj2 (show k-1<ix.length by omega)with r|r
    ·exact lt_trans r q
    ·rw [r.1];exact q
  ·exact absurd ⟨by omega,q.1⟩ e
 refine⟨⟨?_,fun x=>?_,.inr ⟨by omega,ds,by rw [Nat.add_sub_cancel]⟩,by have:=h.len;simp;omega⟩,?_⟩
 ·refine List.pairwise_append.2 ⟨h.inc,List.pairwise_singleton _ _,fun a ha b hb=>?_⟩
  rw [List.mem_singleton.1 hb];exact hlt a ha
 ·rw [List.mem_append,h.mem,List.mem_singleton]
  constructor
  ·rintro(⟨j,hj,q⟩|q)
   ·exact⟨j,by omega,q⟩
   ·exact⟨k,by omega,q.symm⟩
  ·rintro⟨j,hj,q⟩
   rcases Nat.eq_or_lt_of_le (Nat.le_of_lt_succ hj)with e2|hj
   ·subst e2;exact .inr q.symm
   ·exact .inl ⟨j,hj,q⟩
 ·have hn:¬Nam.dup xs (ix.getD k 0):=fun q=>e ((hx.dup hk).1 q)
  have hl:=hx.lt hk;refine find_is (at_some hl) fun j hj q=>hn ((dup_iff (Nat.le_of_lt hl)).2 ⟨j,hj,?_⟩)
  unfold at_ at q ⊢;rw [List.getD,q];rfl
theorem Dist.fin{xs:List ByteArray}{ix:List Nat}{ds:List ByteArray}(hx:Ixs xs ix)(h:Dist xs ix ix.length ds):ds=sortS xs:=by
 refine sort_is h.inc fun x=>?_
 rw [h.mem]
 constructor
 ·rintro⟨j,hj,rfl⟩
  exact at_mem (hx.lt hj)
 ·intro hm
  obtain⟨i,hi,e⟩:=List.getElem_of_mem hm;obtain⟨k,hk,rfl⟩:=hx.pos hi;exact⟨k,hk,(at_get hi).trans e⟩
theorem inc_split{ds:List ByteArray}(h:Inc ds)(x:ByteArray):∃k,k≤ds.length∧(∀t,t<k→lt (at_ ds t) x=true)∧(∀t,k≤t→t<ds.length→lt (at_ ds t) x=false):=by
 induction ds with
 | nil=>exact⟨0,Nat.le_refl _,fun t h=>by omega,fun t h g=>by simp at g⟩
 | cons d ds ih =>
  have h':=List.pairwise_cons.1 h;cases e:lt d x
  ·refine⟨0,Nat.zero_le _,fun t h=>by omega,fun t _ ht=>?_⟩
   cases t with
   | zero=>exact e
   | succ t =>
    have hm:at_ (d::ds) (t+1)∈ds:=by unfold at_;simp at ht ⊢;simp [List.getElem?_eq_getElem ht]
    cases e2:lt (at_ (d::ds) (t+1)) x
    ·rfl
    ·rw [lt_trans (h'.1 _ hm) e2]at e;cases e
  ·obtain⟨k,h1,h2,h3⟩:=ih h'.2
   refine⟨k+1,by simp;omega,fun t ht=>?_,fun t h4 h5=>?_⟩
   ·cases t with
    | zero=>exact e
    | succ t=>exact h2 t (by omega)
   ·cases t with
    | zero=>omega
    | succ t=>exact h3 t (by omega) (by simpa using h5)
theorem split_mem{ds:List ByteArray}{x:ByteArray}{k:Nat}(h2:∀t,t<k→lt (at_ ds t) x=true)(h3:∀t,k≤t→t<ds.length→lt (at_ ds t) x=false)(hi:Inc ds):x∈ds↔k<ds.length∧at_ ds k=x:=by
 constructor
 ·intro hm
  obtain⟨t,ht,e⟩:=List.getElem_of_mem hm;have e':at_ ds t=x:=by unfold at_;simp [List.getD,List.getElem?_eq_getElem ht,e]
  have hk:k≤t:=by
   refine Nat.le_of_not_lt fun q=>?_
   have:=h2 t q;rw [e',lt_irr]at this;cases this
  rcases Nat.eq_or_lt_of_le hk with q|q
  ·subst q;exact⟨ht,e'⟩
  ·have h4:=h3 k (Nat.le_refl _) (by omega)
   have h5:=List.pairwise_iff_getElem.1 hi k t (by omega) ht q;have e6:at_ ds k=ds[k]:=by unfold at_;simp [List.getD,List.getElem?_eq_getElem (show k<ds.length by omega)]
   rw [e,←e6,h4]at h5;cases h5
 ·rintro⟨h,rfl⟩;exact at_mem h
theorem Ixs.of_sorted{xs:List ByteArray}{ix:List Nat}(hp:ix.Perm (List.range xs.length))(hs:∀i j,i<j→j<ix.length→¬Nam.bef xs (ix.getD j 0) (ix.getD i 0)):Ixs xs ix:=by
 refine⟨hp,List.pairwise_iff_getElem.2 fun i j hi hj hij=>?_⟩;have h:=hs i j hij hj;simp only[List.getD,List.getElem?_eq_getElem hi,List.getElem?_eq_getElem hj,Option.getD_some]at h;refine Classical.byContradiction fun g=>?_
 have e:=bef_tri g h;have hn:ix.Nodup:=hp.nodup_iff.2 List.nodup_range;exact absurd e (List.pairwise_iff_getElem.1 hn i j hi hj hij)
end Nam
end Go.Proofs.YtncckdaflellnaaGreat
