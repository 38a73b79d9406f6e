import Derived.Test.YtabhkakomececaaGreatQ0
import Derived.ChangeArms
import Derived.Test.YtabhkakomececaaGreatQ1
import Derived.Test.YtabhkakomececaaGreatQ3
import Derived.Deep.Cut
import Derived.Test.YtabhkakomececaaGreatQ11
import Derived.Test.YtabhkakomececaaGreatQ10
import Derived.Test.YtabhkakomececaaGreatQ12
import Derived.Test.YtabhkakomececaaGreatQ13
import Derived.Test.YtabhkakomececaaGreatQ14
import Derived.Test.YtabhkakomececaaGreatQ17
import Derived.Test.YtabhkakomececaaGreatQ16
import Derived.Test.YtabhkakomececaaGreatQ18
import Derived.Test.YtabhkakomececaaGreatQ8
import Derived.Test.YtabhkakomececaaGreatQ20
import Derived.Test.YtabhkakomececaaGreatQ5
import Derived.Test.YtabhkakomececaaGreatQ22
import Derived.Test.YtabhkakomececaaGreatProg
import Derived.Shelf.SlSortCmp.NoneTotal
import Derived.Shelf.SlicesE.Clone
import Derived.Test.YtabhkakomececaaGreatQ29
import Derived.Test.YtabhkakomececaaGreatQ30
import Derived.Test.YtabhkakomececaaGreatQ31
import Derived.Laws.CopyOwn
import Derived.Test.YtabhkakomececaaGreatQ32
import Derived.Test.YtabhkakomececaaGreatQ37
set_option linter.all false
set_option maxRecDepth 100000
set_option maxHeartbeats 4000000
namespace Go.Proofs.YtabhkakomececaaGreat
open Go.RowKit Go.Lib Go.ChangeShapes Go.WideShapes Go.Deep
namespace Fo
variable {H L:Type}
end Fo
section
variable {H L:Type}
variable {k pre:Nat} {hd:World→List Value→H→Value→Prop} {pl:World→List Value→L→Prop}
theorem RdNd.kp(hk:∀w w' cs h v,Kp w w'→hd w cs h v→hd w' cs h v)(pk:∀w w' cs l,Kp w w'→pl w cs l→pl w' cs l){w w':World}(q:Kp w w'){cs:List Value}{h:H}{f:Fo H L}(x:RdNd k pre hd pl w cs h f):RdNd k pre hd pl w' cs h f:=by
 obtain⟨l,v,hh,hs⟩:=x;exact⟨l,v,hk _ _ _ _ _ q hh,hs.kp hk pk q⟩
end
end Go.Proofs.YtabhkakomececaaGreat
namespace Go.Proofs.YtabhkakomececaaGreat.Kin
open Nam Lat
theorem nms_strip(l:List Wr):nms (stripW l)=nms l:=by simp [nms,stripW]
theorem len_strip:∀f:Ft,(stripF f).len=f.len
| .nil=>rfl
| .cons p h k r=>by unfold stripF Fo.len;rw [len_strip r]
theorem stripW_nil(l:List Wr):stripW l=[]↔l=[]:=by simp [stripW]
theorem stripW_len(l:List Wr):(stripW l).length=l.length:=by simp [stripW]
theorem pnm_strip:∀f:Ft,pnm (stripF f)=stripW (pnm f)
| .nil=>rfl
| .cons p h k r=>by unfold stripF pnm;rw [pnm_strip r];rfl
theorem sameW_stripl(a b:List Wr):sameW (stripW a) b=sameW a b:=by unfold sameW;rw [nms_strip]
theorem plainB_stripl(p q:PH):plainB (stripP p) q=plainB p q:=by unfold plainB stripP;simp only[sameW_stripl]
theorem headB_stripl(h g:TH):headB (stripH h) g=headB h g:=by unfold headB stripH;simp only[sameW_stripl]
theorem sameF_stripl:∀f g:Ft,sameF (stripF f) g=sameF f g
| .nil,.nil=>rfl
| .nil,.cons ..=>rfl
| .cons ..,.nil=>rfl
| .cons p h k r,.cons q g l s=>by
 unfold stripF sameF;rw [plainB_stripl,headB_stripl,sameF_stripl k,sameF_stripl r];rfl
theorem zeroB_strip(h:TH)(k:Ft):zeroB (stripH h) (stripF k)=zeroB h k:=by unfold zeroB sameS;rw [headB_stripl,sameF_stripl]
theorem ownB_strip(h:TH)(k:Ft):ownB (stripH h) (stripF k)=ownB h k:=by unfold ownB;rw [len_strip];simp only[stripH,stripW_nil]
theorem enum_strip(ns:List ByteArray):∀(l:List Wr)(i:Nat),(enumF ns i (stripW l)).1=(enumF ns i l).1
| [],_=>rfl
| x::r,i=>by
 have:=enum_strip ns r (i+1);unfold stripW at this;unfold stripW;simp only[List.map_cons,enumF]
 split
 ·rfl
 ·exact this
theorem only_strip:∀f:Ft,onlyB (stripF f)=onlyB f
| .nil=>rfl
| .cons p h k .nil=>by
 show(decide ((stripP p).name=ByteArray.empty)&&plainB (stripP p) zPH)=(decide (p.name=ByteArray.empty)&&plainB p zPH);rw [plainB_stripl];rfl
| .cons p h k (.cons ..)=>rfl
theorem wrB_strip(h:TH)(k:Ft)(s s':Mo→Nat→Nat→Res)(hs:∀mo d m,Alike (s' mo d m) (s mo d m))(d m:Nat):Alike (wrB (stripH h) (stripF k) s' d m) (wrB h k s d m):=by
 unfold wrB;rw [ownB_strip,only_strip,len_strip,pnm_strip,nms_strip];simp only[stripH,nms_strip,stripW_nil,stripW_len];have he:=enum_strip (nms h.names) h.names 0
 repeat' (apply ite_rel<;>intro)
 all_goals first|exact⟨rfl,rfl⟩|exact hs _ _ _|exact⟨he,rfl⟩
end Go.Proofs.YtabhkakomececaaGreat.Kin
namespace Go.Proofs.YtabhkakomececaaGreat.Lat
open Go.RowKit Go.Lib Nam Go.ChangeShapes Go.WideShapes
end Go.Proofs.YtabhkakomececaaGreat.Lat
namespace Go.Proofs.YtabhkakomececaaGreat
open Go.RowKit Go.Lib
namespace Fo
variable {H L:Type}
end Fo
section
variable {H L:Type} {k pre:Nat} {hd:World→List Value→H→Value→Prop} {pl:World→List Value→L→Prop}
end
end Go.Proofs.YtabhkakomececaaGreat
namespace Go.Proofs.YtabhkakomececaaGreat.Kin
open Go.RowKit Go.Lib Go.Deep Go.ChangeShapes Go.WideShapes Nam Lat
section
variable {G:Type} {enc':TypeId×Value→G} {W:World} {bs:Nat}
end
end Go.Proofs.YtabhkakomececaaGreat.Kin
set_option linter.all false
set_option maxRecDepth 100000
set_option maxHeartbeats 4000000
namespace Go.Proofs.YtabhkakomececaaGreat
namespace Res
open Go.RowKit Go.Lib Utf Nam Lat Kin
section
variable {S:Type}
end
section
variable {S:Type} (G:TH→Ft→Prop) (F:Fm S) (w0:World) (fn:FuncId) (bv:Value) (op:S→TH→Ft→(Int×Int)×S)
end
end Res
namespace Unp
open Go.RowKit Go.Lib Go.Deep Go.ChangeShapes Go.WideShapes Nam Lat Kin
section
variable {G:Type} {enc':TypeId×Value→G} {W:World} {bs:Nat}
end
end Unp
namespace Kin
open Go.RowKit Go.Lib Utf Nam Lat
theorem cW_strip:∀(f:Ft)(a:Int),cW (stripF f) a=cW f a
| .nil,_=>rfl
| .cons p h k r,a=>by unfold stripF cW;rw [cW_strip k,cW_strip r];rfl
section
variable {h:TH} {k:Ft} {sub:Mo→Nat→Nat→Res} {d m M:Nat}
variable (hM:M=m+1) (hd:d≤24) (hm:M≤512) (ho:ownB h k=true)
end
end Kin
end Go.Proofs.YtabhkakomececaaGreat
set_option linter.all false
set_option maxRecDepth 100000
set_option maxHeartbeats 4000000
namespace Go.Proofs.YtabhkakomececaaGreat.Res
open Go.RowKit Go.Lib Utf Nam Lat Kin Unp Rel
end Go.Proofs.YtabhkakomececaaGreat.Res
namespace Go.Proofs.YtabhkakomececaaGreat
open Go.RowKit Go.Lib
section
variable {P:Program}
end
namespace Fo
variable {H L:Type}
theorem take_succ:∀(n:Nat){f:Fo H L}{l:L}{h:H}{k r:Fo H L},drop n f=.cons l h k r→take (n+1) f=snoc (take n f) l h k
| 0,f,l,h,k,r,e=>by
 have e':f=.cons l h k r:=e;rw [e'];rfl
| n+1,.nil,l,h,k,r,e=>by simp [drop]at e
| n+1,.cons l' h' k' r',l,h,k,r,e=>by
 show Fo.cons l' h' k' (take (n+1) r')=Fo.cons l' h' k' (snoc (take n r') l h k);rw [take_succ n (f:=r') e]
theorem take_all:∀{f:Fo H L},take f.len f=f
| .nil=>rfl
| .cons l h k r=>by
 have:=take_all (f:=r);rw [len_cons];show Fo.cons l h k (take r.len r)=_;rw [this]
end Fo
section
variable {H L:Type} {k pre:Nat} {hd:World→List Value→H→Value→Prop} {pl:World→List Value→L→Prop}
theorem RdsF.kp(hk:∀w w' cs h v,Kp w w'→hd w cs h v→hd w' cs h v)(pk:∀w w' cs l,Kp w w'→pl w cs l→pl w' cs l){w w':World}(q:Kp w w'):∀{xs:List Value}{f:Fo H L},RdsF k pre hd pl w xs f→RdsF k pre hd pl w' xs f
| xs,.nil,h=>h
| xs,.cons l x kids r,h=>by
 obtain⟨ps,ts,rest,e,l1,hp,hn,hr⟩:=h;exact⟨ps,ts,rest,e,l1,pk _ _ _ _ q hp,RdNd.kp hk pk q hn,RdsF.kp hk pk q hr⟩
theorem RdsF.snoc{w:World}{ps ts:List Value}{l:L}{x:H}{kids:Fo H L}(l1:ps.length=pre)(hp:pl w ps l)(hn:RdNd k pre hd pl w ts x kids):∀{xs:List Value}{f:Fo H L},RdsF k pre hd pl w xs f→RdsF k pre hd pl w (xs++(ps++ts)) (f.snoc l x kids)
| xs,.nil,h=>by
 have h':xs=[]:=h;subst h';exact⟨ps,ts,[],by simp,l1,hp,hn,rfl⟩
| xs,.cons l' x' kids' r,h=>by
 obtain⟨ps',ts',rest,e,l1',hp',hn',hr⟩:=h;exact⟨ps',ts',rest++(ps++ts),by rw [e];simp,l1',hp',hn',RdsF.snoc l1 hp hn hr⟩
theorem RdsF.fo{w:World}{g:Nat}:∀{f:Fo H L}{xs:List Value}{o:Nat},RdsF k pre hd pl w xs f→(∀j v,xs[j]?=some v→w.cell? ⟨g,o+j,none⟩=some v)→RdFo k pre hd pl w f g o
| .nil,xs,o,h,hc=>trivial
| .cons l x kids r,xs,o,h,hc=>by
 obtain⟨ps,ts,rest,e,l1,hp,hn,hr⟩:=h;subst e;refine RdFo.mk ps ts l1 (fun j v q=>?_) hp hn (RdsF.fo hr fun j v q=>?_)
 ·exact hc j v (by rw [List.getElem?_append_left (List.getElem?_eq_some_iff.1 q).1];exact q)
 ·have:=hc (pre+k+j) v (by
   rw [List.getElem?_append_right (by rw [List.length_append,l1,hn.1];omega),List.length_append,l1,hn.1,Nat.add_sub_cancel_left]
   exact q)
  rw [←Nat.add_assoc,←Nat.add_assoc]at this;rw [←Nat.add_assoc];exact this
end
end Go.Proofs.YtabhkakomececaaGreat
namespace Go.Proofs.YtabhkakomececaaGreat.Res
open Go.RowKit Go.Lib Utf Nam Lat Kin Unp Rel
section
variable (base B:Nat) (lv tv tab:Value) (h:TH) (nv pv:Value)
variable {base B lv tv tab h nv pv}
end
end Go.Proofs.YtabhkakomececaaGreat.Res
namespace Go.Proofs.YtabhkakomececaaGreat
open Go.RowKit Go.Lib Nam Lat Kin Unp Res
section
variable {base B:Nat} {lv tv tab:Value} {h:TH} {nv pv:Value}
end
end Go.Proofs.YtabhkakomececaaGreat
set_option linter.all false
set_option maxRecDepth 100000
set_option maxHeartbeats 4000000
namespace Go.Proofs.YtabhkakomececaaGreat.Kin
open Go.RowKit Go.Lib Utf Nam Lat
theorem labG_strip:∀(l:List Wr)(i:Nat),(labG i (stripW l)).1=(labG i l).1
| [],_=>rfl
| x::r,i=>by
 have:=labG_strip r (i+1);unfold stripW at this;unfold stripW;simp only[List.map_cons,labG]
 repeat' split
 all_goals first|rfl|exact this
theorem labelC_strip(l:List Wr):(labelC (stripW l)).1=(labelC l).1:=labG_strip l 0
theorem coarC_strip(p:PH):(coarC (stripP p)).1=(coarC p).1:=by
 show Alike2 _ _;unfold coarC;simp only[stripP,ne_eq,stripW_nil]
 repeat' (apply ite_rel<;>intro)
 all_goals first|exact rfl|exact labelC_strip _
theorem wcF_strip:∀(f:Ft)(mo:Mo)(d m:Nat),Alike (wcF (stripF f) mo d m) (wcF f mo d m)
| .nil,_,_,_=>⟨rfl,rfl⟩
| .cons p h k r,.one,d,m=>wrB_strip h k _ _ (wcF_strip k) d m
| .cons p h k r,.parts K ns i,d,m=>by
 have hB:=wrB_strip h k _ _ (wcF_strip k) d m;have hr:=fun m=>wcF_strip r (.parts K ns (i+1)) d m
 unfold stripF;unfold wcF;rw [zeroB_strip,plainB_stripl,coarC_strip,hB.1,hB.2];simp only[stripP,labelC_strip];generalize wrB (stripH h) (stripF k) (wcF (stripF k)) d m=A at *;generalize wrB h k (wcF k) d m=B at *
 repeat' (apply ite_rel<;>intro)
 all_goals first|exact⟨rfl,rfl⟩|exact hr _|exact hB
end Go.Proofs.YtabhkakomececaaGreat.Kin
set_option linter.all false
set_option maxRecDepth 100000
set_option maxHeartbeats 4000000
namespace Go.Proofs.YtabhkakomececaaGreat.Kin
open Go.RowKit Go.Lib Utf Nam Lat
theorem wcS_strip(h:TH)(f:Ft):(wcS (stripH h) (stripF f)).1=(wcS h f).1:=(wrB_strip h f _ _ (wcF_strip f) 1 0).1
end Go.Proofs.YtabhkakomececaaGreat.Kin
set_option linter.all false
set_option maxRecDepth 100000
set_option maxHeartbeats 4000000
namespace Go.Proofs.YtabhkakomececaaGreat.Lat
open Go.RowKit Go.Lib Rel Nam
theorem latnamex_calls(nm:List ByteArray)(p:Nat)(w:World)(h:LevP w p nm)(i:Int)(R:Ending→World→Prop)(hR:Hid (R (.returned (.string (if 0≤i∧i<nm.length then nm.getD i.toNat ByteArray.empty else ByteArray.empty))) w)):Calls Tryz.prog 31 #[.pointer (some ⟨p,0,none⟩),.int .i64 i] w R:=by
 have cE:=Lib.hid fun b hb R hR=>latlevel_calls nm p w h i b hb R hR
 obtain⟨v1,v2,hp,h1,-,h3,-,-,-⟩:=h;obtain⟨A,c,rfl,hc,hr⟩:=h3.open;replace hr:=Lib.hid hr;clear h3
 by_cases hi:0≤i∧i<nm.length
 ·rw [if_pos hi]at hR
  replace cE:=Lib.hid (cE.out true (decide_eq_true hi).symm);obtain⟨k,rfl⟩:∃k:Nat,i=k:=⟨i.toNat,by omega⟩;rw [Int.toNat_natCast]at hR;obtain⟨g,o,rfl,hg,hca⟩:=hr.out (by omega);have e0:=hca k (by omega);generalize nm.getD k ByteArray.empty=s at *;have hi0:(0:Int)≤(k:Int):=by omega
  have hi1:(k:Int)<(nm.length:Int):=by omega
  clear hca hi;go_enter Tryz.func31,Tryz.ntmps31
  go_wp2_with fail
  refine cE.out _ (Lib.hid ?_);go_wp2_with fail
  exact hR.out
 ·rw [if_neg hi]at hR
  replace cE:=Lib.hid (cE.out false (decide_eq_false hi).symm);clear hi;go_enter Tryz.func31,Tryz.ntmps31
  go_wp2_with fail
  refine cE.out _ (Lib.hid ?_);go_wp2_with fail
  exact hR.out
end Go.Proofs.YtabhkakomececaaGreat.Lat
set_option linter.all false
set_option maxRecDepth 100000
set_option maxHeartbeats 4000000
namespace Go.Proofs.YtabhkakomececaaGreat
open Go.Shelf
end Go.Proofs.YtabhkakomececaaGreat
namespace Go.Proofs.YtabhkakomececaaGreat.Res
open Go.RowKit Go.Lib Utf Nam Lat Kin Unp Rel Lab
theorem b18:bldS sc18=(0,0):=by kernel_rfl
theorem p18_root:(planN (nms sc18.1) (leqF sc18.1 sc18.2.1) sc18.2.2.1 0 sc18.2.2.2.1 sc18.2.2.2.2).2.1=1:=by kernel_rfl
theorem p18_len:(planN (nms sc18.1) (leqF sc18.1 sc18.2.1) sc18.2.2.1 0 sc18.2.2.2.1 sc18.2.2.2.2).1.length=2:=by kernel_rfl
theorem p18_dst:((planN (nms sc18.1) (leqF sc18.1 sc18.2.1) sc18.2.2.1 0 sc18.2.2.2.1 sc18.2.2.2.2).1[0]?.map fun y=>y.edges.map (·.dst))=some [0]:=by kernel_rfl
theorem p18_all:(planN (nms sc18.1) (leqF sc18.1 sc18.2.1) sc18.2.2.1 0 sc18.2.2.2.1 sc18.2.2.2.2).1.all (fun y=>decide (y.names.length≤1000000)&&decide (y.edges.length≤1000000))=true:=by kernel_rfl
theorem gh18(k:Int)(hk:I64 k)(x:ByteArray)(hx:x.size≤maxLen):GoodH ⟨k,0,0,0,0,[],x,0⟩:=⟨hk,i64_z,i64_z,i64_z,i64_z,by simp,hx,i64_z,by simp⟩
theorem gs18:GoodS sc18 where
l:=fun x hx=>by
 obtain rfl:=List.mem_singleton.1 hx;exact⟨by decide,i64_z⟩
ll:=by decide
o:=fun x hx=>by cases hx
ol:=by decide
t:=fun x hx=>by
 obtain rfl:=List.mem_singleton.1 hx;exact⟨⟨by decide,i64_z⟩,gh18 6 ⟨by decide,by decide⟩ _ (by decide),⟨⟨by decide,i64_z,by simp [noP],i64_z,i64_z,i64_z,i64_z,by simp [noP],by decide,by decide⟩,gh18 9 ⟨by decide,by decide⟩ _ (by decide),by decide,trivial,trivial⟩,by decide⟩
tl:=by decide
h:=gh18 1 ⟨by decide,by decide⟩ _ (by decide)
g:=trivial
gl:=by decide
theorem lives18_calls(w:World)(R:Ending→World→Prop)(hR:Hid (∀w',Below w.heap.size w w'→R (.returned (.bool true)) w')):Calls Tryz.prog 26 #[] w R:=by
 have m0:=F0.z w;obtain⟨V1,e1,m1,z1⟩:=m0.new (.cells #[.string ⟨#[]⟩,.int .i64 0,.bool false,.slice none 0 0,.int .i64 0,.int .i64 0,.int .i64 0,.int .i64 0,.slice none 0 0,.int .i64 9,.int .i64 0,.int .i64 0,.int .i64 0,.int .i64 0,.slice none 0 0,.slice none 0 0,.string ⟨#[116]⟩,.int .i64 0] 127);obtain⟨V2,e2,m2,z2⟩:=m1.new (.cells #[.int .i64 6,.int .i64 0,.int .i64 0,.int .i64 0,.int .i64 0,.slice none 0 0,.slice (some ⟨w.heap.size,0,none⟩) 1 1,.string ⟨#[]⟩,.int .i64 0] 36);obtain⟨V3,e3,m3,z3⟩:=m2.new (.cells #[.string ⟨#[97]⟩,.int .i64 0] 34);obtain⟨V4,e4,n,z4⟩:=m3.new (.cells #[.string ⟨#[116]⟩,.int .i64 0,.int .i64 6,.int .i64 0,.int .i64 0,.int .i64 0,.int .i64 0,.slice none 0 0,.slice (some ⟨w.heap.size,0,none⟩) 1 1,.string ⟨#[]⟩,.int .i64 0] 100);clear m0 m1 m2 z1 z2 z3 z4
 have hy:RdY V4 optT tF (.slice none 0 0) (.slice (some ⟨w.heap.size,0,none⟩) 1 1):=by
  refine⟨RdG.none0 _ _ _,_,1,rfl,Nat.le_refl _,fun _=>⟨_,_,rfl,n.lt 3 rfl,?_⟩⟩;refine RdFo.mk [.string ⟨#[]⟩,.int .i64 0,.bool false,.slice none 0 0,.int .i64 0,.int .i64 0,.int .i64 0,.int .i64 0,.slice none 0 0] [.int .i64 9,.int .i64 0,.int .i64 0,.int .i64 0,.int .i64 0,.slice none 0 0,.slice none 0 0,.string ⟨#[116]⟩,.int .i64 0] rfl (fun j v e=>n.rg 3 rfl j v e) ⟨_,_,rfl,RdG.none0 _ _ _,RdG.none0 _ _ _⟩ ⟨rfl,_,⟨_,rfl,RdG.none0 _ _ _⟩,RdSl.nil _ _ _⟩ trivial
 have rd:RdSc V4 sc18 (.slice (some ⟨V2.heap.size,0,none⟩) 1 1) (.slice none 0 0) (.slice (some ⟨V3.heap.size,0,none⟩) 1 1) (.slice none 0 0) (.slice none 0 0) :=
  ⟨⟨_,1,1,rfl,rfl,Nat.le_refl _,fun _=>⟨_,0,rfl,n.lt 1 rfl,fun j u e=>n.rg 1 rfl j u e⟩⟩,rd_nil _ _,⟨_,1,rfl,Nat.le_refl _,fun _=>⟨_,0,rfl,n.lt 0 rfl,fun i hi=>by
   obtain rfl:i=0:=by
    have:i<1:=hi;omega
   exact⟨_,_,hy,fun j u e=>n.rg 0 rfl j u e⟩⟩⟩,⟨RdG.none0 _ _ _,RdSl.nil _ _ _⟩⟩
 have r2:=m3.rg 1 rfl;clear m3 hy;replace rd:=Lib.hid rd;go_enter Tryz.func26,Tryz.ntmps26
 go_upto_region 2 with(refine wpList_copy #[.int .i64 6,.int .i64 0,.int .i64 0,.int .i64 0,.int .i64 0,.slice none 0 0,.slice (some ⟨w.heap.size,0,none⟩) 1 1,.string ⟨#[]⟩,.int .i64 0] ⟨rfl,rfl,rfl⟩ ⟨rfl,rfl,rfl⟩ typ_alloc (by kernel_rfl) ⟨rfl,by simp [Value.oneCell']⟩ (fun _=>⟨rfl,rfl⟩) ?_;go_simp)
 go_wp2_with (refine wpList_load_g (by rfl) 36 _ rfl V1.heap.size (0) rfl _ _ r2 Tryz.underlying36 rfl (by kernel_rfl) ?_;go_simp)
 refine build18_calls sc18 gs18 (by decide) _ _ _ _ _ V4 rd.out _ (Lib.hid fun W v hz pl m=>?_) (Lib.hid fun W hz m=>?_)
 ·have n2:=n.bl m
  obtain⟨P,rfl⟩:∃P,v=.pointer (some ⟨P,0,none⟩):=by
   obtain⟨P,_,_,_,_,_,e,-⟩:=pl;exact⟨P,e⟩
  clear n rd hz r2;obtain⟨q,hq⟩:∃q:Int×Int,q=(0,0):=⟨_,rfl⟩;rw [←hq];obtain⟨q0,q1⟩:=q;replace hq:=Lib.hid hq;obtain⟨W2,e5,n,z5⟩:=n2.new (.cells #[.int .i64 q0,.int .i64 q1] 26);have m2:Below W.heap.size W W2:=e5▸(Below.refl _ _).alloc (Nat.le_refl _) _;clear n2 m z5;go_upto_region 3 with fail
  clear e5;replace pl:=pl.below m2;have hal:=p18_all;rw [List.all_eq_true]at hal;go_wp2_with fail
  refine(show Calls Tryz.prog 29 #[.pointer (some ⟨P,0,none⟩),.int .i64 0] W2 _ from pnode_calls pl (fun y hy=>by simpa using hal y hy) 0 (by rw [p18_len];decide) _ (Lib.hid fun W3 nv ev y hy rS rE m3=>?_))
  have hd:=p18_dst;rw [hy]at hd;simp only[Option.map_some,Option.some.injEq]at hd;obtain⟨k0,k1,k2,k3,k4,ns_,es_⟩:=y;simp only at hd rS rE
  obtain⟨e,rfl,hed⟩:∃e:EdR,es_=[e]∧e.dst=0:=by
   match es_,hd with
   | [e],hd=>exact⟨e,rfl,by simpa using hd⟩
  obtain⟨A5,c5,rfl,-⟩:=rS.open;obtain⟨A6,c6,rfl,-,hA⟩:=RdG.open encE_len (by decide) (show RdG encE 10 W3 ev [e]from rE);obtain⟨g,o,rfl,hg,hca⟩:=hA (by simp)
  have x3:W3.cell? ⟨g,o+3,none⟩=some (.int .i64 0):=by
   have:=hca 0 (by simp) 3 (by decide);simp only[Nat.zero_mul,Nat.add_zero]at this;rw [this];show some (Value.int .i64 e.dst)=_;rw [hed]
  replace n:=n.bl m3;obtain⟨W4,e6,n,z6⟩:=n.new (.cells #[.int .i64 k0,.int .i64 k1,.int .i64 k2,.int .i64 k3,.int .i64 k4,.slice A5 ns_.length c5,.slice (some ⟨g,o,none⟩) 1 c6] 63);have m4:Below W3.heap.size W3 W4:=e6▸(Below.refl _ _).alloc (Nat.le_refl _) _;replace x3:=(m4.cell (p:=⟨g,o+3,none⟩) hg).trans x3;replace pl:=Lib.hid (pl.below (m3.trans (m4.mono m3.size)));clear hy hd rS rE hA hca hal z6;go_upto_region 4 with(refine wpList_copy #[.int .i64 k0,.int .i64 k1,.int .i64 k2,.int .i64 k3,.int .i64 k4,.slice A5 ns_.length c5,.slice (some ⟨g,o,none⟩) 1 c6] ⟨rfl,rfl,rfl⟩ ⟨rfl,rfl,rfl⟩ node_alloc (by kernel_rfl) ⟨rfl,by simp [Value.oneCell']⟩ (fun _=>⟨rfl,rfl⟩) ?_;go_simp)
  clear e6;obtain⟨rfl,rfl⟩:q0=0∧q1=0:=by simpa using hq.out
  have a0:=n.c 1 0 rfl rfl;have a1:=n.c 1 1 rfl rfl;have t6:=n.c 0 6 rfl rfl;have fin:=Lib.hid (hR.out W4 (F0.bel n));have cR:=Lib.hid fun R hR=>proot_calls pl.out R hR
  rw [p18_root]at cR;clear n hR hq pl m4 m3 m2;go_wp2_with fail
  refine cR.out _ (Lib.hid ?_);go_wp2_with fail
  exact fin.out
 ·exact absurd (by rw [b18]) hz
end Go.Proofs.YtabhkakomececaaGreat.Res
namespace Go.Proofs.YtabhkakomececaaGreat.Inh
open Res
end Go.Proofs.YtabhkakomececaaGreat.Inh
set_option linter.all false
set_option maxRecDepth 100000
set_option maxHeartbeats 4000000
namespace Go.Proofs.YtabhkakomececaaGreat.Res
open Go.RowKit Go.Lib Utf Nam Lat Kin Unp Rel Lab Inh
section
variable {nm:List ByteArray} {F:Nat→Nat→Bool}
variable (nm F)
variable {nm F}
end
theorem OkS.nm{s:Sc}(o:OkS s):∀a,a<(nms s.1).length→(nms s.1).getD a ByteArray.empty≠ByteArray.empty:=fun a ha=>by
 have h:=o.lat;rw [nms_len]at ha
 have key:firF (lvAt s.1) s.1.length 0=none:=by
  unfold wrongS at h
  by_cases c1:s.1.length=0
  ·omega
  ·rw [if_neg c1]at h
   by_cases c2:32<s.1.length
   ·rw [if_pos c2]at h;exact absurd h (by show(8:Int)≠0;decide)
   ·rw [if_neg c2]at h
    by_cases c3:256<s.2.1.length
    ·rw [if_pos c3]at h;exact absurd h (by show(8:Int)≠0;decide)
    ·rw [if_neg c3]at h
     cases hf:firF (lvAt s.1) s.1.length 0 with
     | none=>rfl
     | some x =>
      rw [hf]at h;obtain⟨j,-,-,hj⟩:=fir_some _ _ hf
      have hx:x.1=9∨x.1=10:=by
       unfold lvAt at hj
       split at hj
       ·rw [Option.some.injEq]at hj;rw [←hj];exact .inl rfl
       ·split at hj
        ·rw [Option.some.injEq]at hj;rw [←hj];exact .inr rfl
        ·cases hj
      have h':x.1=0:=h;omega
 have hr:=fir_none _ _ key a (Nat.zero_le _) (by omega);have hw:(nms s.1).getD a ByteArray.empty=(wN s.1 a).1:=by rw [List.getD_eq_getElem?_getD,nms_get ha];rfl
 rw [hw];intro e;unfold lvAt at hr;rw [e]at hr;rw [if_pos (by kernel_rfl)]at hr;cases hr
end Go.Proofs.YtabhkakomececaaGreat.Res
set_option linter.all false
set_option maxRecDepth 100000
set_option maxHeartbeats 4000000
namespace Go.Proofs.YtabhkakomececaaGreat.Eff
open Res Kin Unp Rel Lab Inh Lat
section
variable (ns:List NdR) (F:Nat→Nat→Bool)
end
end Go.Proofs.YtabhkakomececaaGreat.Eff
namespace Go.Proofs.YtabhkakomececaaGreat.Res
open Go.RowKit Go.Lib Utf Nam Lat Kin Unp Rel Lab Inh
section
variable {nm:List ByteArray} {F:Nat→Nat→Bool} {tg:ByteArray→Int}
end
end Go.Proofs.YtabhkakomececaaGreat.Res
namespace Go.Proofs.YtabhkakomececaaGreat.Eff
open Go.RowKit Go.Lib Utf Nam Res Kin Unp Rel Lab Inh Lat Pat
end Go.Proofs.YtabhkakomececaaGreat.Eff
namespace Go.Proofs.YtabhkakomececaaGreat.Inh
open Res
section
variable {ns:List NdR} {D C:List Int}
end
end Go.Proofs.YtabhkakomececaaGreat.Inh
namespace Go.Proofs.YtabhkakomececaaGreat.Inh
open Go.RowKit Go.Lib Res
end Go.Proofs.YtabhkakomececaaGreat.Inh
namespace Go.Proofs.YtabhkakomececaaGreat.Res
open Go.RowKit Go.Lib Utf Nam Lat Kin Unp Rel Lab
theorem flat_take{l:List EdR}{K:Nat}(h:K<l.length):flatG encE (l.take (K+1))=flatG encE (l.take K)++encE l[K]:=by
 rw [List.take_succ_eq_append_getElem h,flatG_snoc]
theorem node18_calls(y:NdR)(nv ev:Value)(w:World)(rS:RdS w nv y.names)(rE:RdEd w ev y.edges)(hl:y.edges.length≤1000000)(R:Ending→World→Prop)
  (hR:Hid (∀W ev',W.ownsRow w.heap.size 97 10 ev' y.edges.length (flatG encE y.edges)→Below w.heap.size w W→R (.returned (.agg #[.int .i64 y.kind,.int .i64 y.at_,.int .i64 y.lo,.int .i64 y.hi,.int .i64 y.most,nv,ev'])) W)) :
  Calls Tryz.prog 33 #[.agg #[.int .i64 y.kind,.int .i64 y.at_,.int .i64 y.lo,.int .i64 y.hi,.int .i64 y.most,nv,ev]] w R:=by
 obtain⟨A5,c5,rfl,-⟩:=rS.open;obtain⟨A6,c6,rfl,-,hel⟩:=ed_el18 rE;obtain⟨ti,hTI,hZ⟩:=e18_info;simp only[Prod.mk.injEq]at hZ;obtain⟨hz0,hz1,hz2⟩:=hZ;clear rS rE;obtain⟨k0,k1,k2,k3,k4,yn,es⟩:=y;simp only at *;have n:=F0.z w;obtain⟨V1,e1,n,z1⟩:=n.new (.cells #[.int .i64 k0,.int .i64 k1,.int .i64 k2,.int .i64 k3,.int .i64 k4,.slice A5 yn.length c5,.slice A6 es.length c6] 63);obtain⟨V2,e2,n,z2⟩:=n.new (.cells #[.int .i64 0,.int .i64 0,.int .i64 0,.int .i64 0,.int .i64 0,.slice none 0 0,.slice none 0 0] 74);have t0:=n.c 1 0 rfl rfl;have t1:=n.c 1 1 rfl rfl;have t2:=n.c 1 2 rfl rfl;have t3:=n.c 1 3 rfl rfl;have t4:=n.c 1 4 rfl rfl;have t5:=n.c 1 5 rfl rfl;obtain⟨V3,e3,n3,z3⟩:=n.new (.cells #[.int .i64 k0,.int .i64 k1,.int .i64 k2,.int .i64 k3,.int .i64 k4,.slice A5 yn.length c5,.slice none 0 0] 74);clear z1 z2 z3 n;replace hel:=Lib.hid hel;go_enter Tryz.func33,Tryz.ntmps33
 go_upto_region 1 with fail
 clear e1 e2;go_upto_region 2 with(refine wpList_copy #[.int .i64 k0,.int .i64 k1,.int .i64 k2,.int .i64 k3,.int .i64 k4,.slice A5 yn.length c5,.slice none 0 0] ⟨rfl,rfl,rfl⟩ ⟨rfl,rfl,rfl⟩ n18_alloc (by kernel_rfl) ⟨rfl,by simp [Value.oneCell']⟩ (fun _=>⟨rfl,rfl⟩) ?_;go_simp)
 clear e3 t0 t1 t2 t3 t4 t5;go_wp2_with fail
 go_loopg [4] es.length (fun g i wr=>∃(K:Nat) (ev':Value),i=.int .i64 K∧K+g=es.length∧Hid (Hq F0 () () w wr [(V2.heap.size,.cells #[.int .i64 k0,.int .i64 k1,.int .i64 k2,.int .i64 k3,.int .i64 k4,.slice A5 yn.length c5,ev'] 74),(V1.heap.size,.cells #[.int .i64 0,.int .i64 0,.int .i64 0,.int .i64 0,.int .i64 0,.slice none 0 0,.slice none 0 0] 74),(w.heap.size,.cells #[.int .i64 k0,.int .i64 k1,.int .i64 k2,.int .i64 k3,.int .i64 k4,.slice A5 yn.length c5,.slice A6 es.length c6] 63)])∧Hid (wr.ownsRow V3.heap.size 97 10 ev' K (flatG encE (es.take K)))∧V3.heap.size≤wr.heap.size∧V2.heap.size<V3.heap.size∧w.heap.size≤V1.heap.size∧V1.heap.size<V3.heap.size)
 case atStart=>exact⟨0,.slice none 0 0,rfl,by omega,Lib.hid n3,Lib.hid (by simpa [flatG]using World.ownsRow_nil _ _ _ _),Nat.le_refl _,n3.lt 0 rfl,by have:=(n3.lo _ (List.mem_cons_of_mem _ List.mem_cons_self)).1;exact this,n3.lt 1 rfl⟩
 case round =>
  clear n3;obtain⟨K,ev',rfl,e1,n,own,s1,s2,s3,s4⟩:=hrel;replace n:=n.out;obtain⟨A',m',c',rfl⟩:=own_sl own.out
  by_cases hK:K<es.length
  ·obtain⟨g,o,rfl,hg,hrg⟩:=hel.out K hK
   have i0:(0:Int)≤(K:Int):=by omega
   have i1:(K:Int)<(es.length:Int):=by omega
   have hft:=flat_take hK;generalize es[K]=e at *;have bl2:=n.lt 0 rfl;have bl0:=n.lt 2 rfl
   have notS:∀k,k<V3.heap.size→¬(Value.slice A' m' c').ownBlock=some k:=fun k hk q=>by
    have:=(own.out.lt k q).1;omega
   have b6:=fun y:RW (fun k=>(Value.slice A' m' c').ownBlock=some k) wr=>y.cell bl2 (notS _ s2) (n.c 0 6 rfl rfl)
   have b0:=fun y:RW (fun k=>(Value.slice A' m' c').ownBlock=some k) wr=>y.cell bl0 (notS _ (by omega)) (n.c 2 6 rfl rfl)
   have bw:=F0.bel n
   have rE0:∀W,(∃y:RW (fun k=>(Value.slice A' m' c').ownBlock=some k) wr,W=y.w)→W.rangeAt g (o+K*10) (encE e):=fun W hW j u hj=>by
    obtain⟨y,rfl⟩:=hW;exact y.cell (Nat.lt_of_lt_of_le hg bw.size) (notS _ (by omega)) ((bw.cell (p:=⟨g,o+K*10+j,none⟩) hg).trans (hrg j u hj))
   clear hrg;have own1:(wr.drewN 1).ownsRow V3.heap.size 97 10 (.slice A' m' c') K (flatG encE (es.take K)):=ownKp own.out fun _ _ _=>rfl
   have gW:Below wr.heap.size wr (wr.drewN 1):=below_drewN (Below.refl _ _) 1;obtain⟨f0,f1,f2,f3,f4,f5,f6,f7,f8,f9⟩:=e;have rE:∀W,(∃y:RW (fun k=>(Value.slice A' m' c').ownBlock=some k) wr,W=y.w)→W.rangeAt g (o+K*10) [.string f0,.bool f1,.int .i64 f2,.int .i64 f3,.int .i64 f4,.int .i64 f5,.int .i64 f6,.int .i64 f7,.int .i64 f8,.int .i64 f9]:=rE0;clear rE0;have x6:=n.c 2 6 rfl rfl;go_upto_region 5 with fail
   clear x6;refine wp_region_trS (fun k=>(Value.slice A' m' c').ownBlock=some k) (.one [0,1,2,3,4,5,6] 7 (.one [] 8 (.last [9]))) 10 (by kernel_rfl) (by kernel_rfl) (by kernel_rfl) (by kernel_rfl) (by decide) (fun _ _ d _ _ h=>by cases d<;>exact h) ?_
   refine tr_one (os:=[_,_,_,_,_,_,_]) (by simp only[pickO,List.filterMap_cons,List.filterMap_nil,List.getElem?_toArray,List.getElem?_cons_succ,List.getElem?_cons_zero];rfl) (fun Kp hKp=>?_)
   iterate 6 (go_big_quiet_step (exact rfl))
   refine wpQuiet_load rfl 67 _ rfl g (o+K*10) rfl _ _ rE Tryz.underlying67 rfl (by kernel_rfl) ?_
   try go_simp
   refine wpQuiet_nil ?_;refine hKp _ ?_;clear hKp;refine loudr (by rfl) (by kernel_rfl) (fun K1 hK1=>?_);go_simp;refine hK1 _ _ (RW.of ((Gr.rfl' _ wr).bl (gW.alloc gW.size _))) ?_;clear hK1;refine tr_one (os:=[]) (by rfl) (fun Kp hKp=>?_);refine wpQuiet_nil ?_;refine hKp _ ?_;clear hKp;refine loudr (by rfl) (by kernel_rfl) (fun K2 hK2=>?_);refine appOp (wr.drewN 1) #[.string f0,.bool f1,.int .i64 f2,.int .i64 f3,.int .i64 f4,.int .i64 f5,.int .i64 f6,.int .i64 f7,.int .i64 f8,.int .i64 f9] 10 97 _ _ 72 rfl V3.heap.size ti _ 88 Tryz.underlying72 hTI hz0 hz1 hz2 rfl (by decide) rfl (.slice A' m' c') K (flatG encE (es.take K)) rfl own1 _ rfl rfl (by simp [Value.oneCell']) (by unfold maxLen;omega) (by omega) s1 ?_
   intro v' w2 hown hgr hfr;obtain⟨A'',m'',c'',rfl⟩:=own_sl hown;have gA:Gr (fun k=>(Value.slice A' m' c').ownBlock=some k) wr w2:=((Gr.rfl' _ wr).bl gW).trans (Gr.ofRow hgr) fun k e=>.inl e
   go_simp;refine hK2 _ _ (RW.of gA) ?_;clear hK2;refine tr_last (os:=[_]) (by simp only[pickO,List.filterMap_cons,List.filterMap_nil,List.getElem?_toArray,List.getElem?_cons_succ,List.getElem?_cons_zero];rfl) (fun Kp hKp=>?_)
   repeat (go_big_quiet_step (exact rfl))
   refine wpQuiet_nil ?_;refine hKp _ ?_;clear hKp
   have n2:=(n.bl gW).grow hgr fun k q=>⟨Nat.le_trans (by omega) (own.out.lt k q).1,fun h=>h,fun x hx e=>by
    have:=(own.out.lt k q).1;simp only[List.mem_cons,List.not_mem_nil,or_false]at hx;rcases hx with rfl|rfl|rfl<;>simp at e<;>omega⟩
   have bf:=n2.f 0 6 rfl;have bc:=n2.c 0 6 rfl rfl;obtain⟨V4,e4,n4,z4⟩:=n2.put (j:=0) rfl [(6,.slice A'' m'' c'')];simp only[stL]at e4;simp only[stA,List.setIfInBounds_toArray,List.set_cons_succ,List.set_cons_zero]at n4
   have own4:=Lib.hid (show V4.ownsRow V3.heap.size 97 10 (.slice A'' m'' c'') (K+1) (flatG encE (es.take (K+1)))from by
    rw [hft]
    exact ownKp hown fun k q hk=>by
     rw [←e4];exact hp_sne (by omega))
   have s5:V3.heap.size≤V4.heap.size:=by
    have a:=hgr.size;rw [z4];exact Nat.le_trans s1 a
   have n5:=Lib.hid n4;clear n n2 n4 own hown hgr hfr gA own1 gW b6 b0 hft;refine loudl (by rfl) (by kernel_rfl) ?_;go_simp;go_wp2_with fail
   go_roundg (gk-1)
   case measure=>omega
   case rel=>exact⟨K+1,_,by go_num,by omega,n5,own4,s5,s2,s3,s4⟩
  ·obtain rfl:K=es.length:=by omega
   have x6:=n.c 2 6 rfl rfl;have own2:=own.out;rw [List.take_length]at own2;have rF:=n.rg 0 rfl;have hG:=n.b 1 rfl;obtain⟨VE,eE,nE⟩:=n.row (j:=1) rfl [.int .i64 k0,.int .i64 k1,.int .i64 k2,.int .i64 k3,.int .i64 k4,.slice A5 yn.length c5,.slice A' m' c'].toArray;simp only[List.set_cons_succ,List.set_cons_zero]at nE;have w0_:=nE.c 1 0 rfl rfl;have w1_:=nE.c 1 1 rfl rfl;have w2_:=nE.c 1 2 rfl rfl;have w3_:=nE.c 1 3 rfl rfl;have w4_:=nE.c 1 4 rfl rfl;have w5_:=nE.c 1 5 rfl rfl;have w6_:=nE.c 1 6 rfl rfl
   have ownE:VE.ownsRow w.heap.size 97 10 (.slice A' m' c') es.length (flatG encE es):=own_mono (ownKp own2 fun k q hk=>by
    rw [←eE];exact setRow_other _ _ _ _ (by omega)) (by omega)
   have fin:=Lib.hid (hR.out VE _ ownE (F0.bel nE));clear nE n hR own2 own ownE;go_wp2_with (first|(refine wpList_load_g (by rfl) 74 _ rfl V2.heap.size (0) rfl _ _ rF Tryz.underlying74 rfl (by kernel_rfl) ?_;go_simp)|(refine wpList_store_row (by rfl) 74 _ _ (by rfl) V1.heap.size [.int .i64 k0,.int .i64 k1,.int .i64 k2,.int .i64 k3,.int .i64 k4,.slice A5 yn.length c5,.slice A' m' c'].toArray (by rfl) (by rfl) 74 _ hG (by kernel_rfl) rfl (by simp [Value.oneCell']) ?_;go_simp))
   first|refine bodyPost_ret ?_ rfl fin.out|refine bodyPost_end ?_ rfl fin.out
   simp [results,Tryz.results33,go_sem,w0_,w1_,w2_,w3_,w4_,w5_,w6_]
theorem wpQuiet_k18{P:Program}{ops:Array Oper}{C:World→Prop}{Q:Act→Prop}{a:Act}{l:List Oper}(h:∀Kp:Act→Prop,(∀b,Q b→Kp b)→wpQuiet P ops C Kp l a):wpQuiet P ops C Q l a:=h _ fun _ h=>h
theorem refsame18_calls(y:NdR)(nv nv' ev ev':Value)(w:World)(rS:RdS w nv y.names)(rS':RdS w nv' y.names)(rE:RdEd w ev y.edges)(rE':RdEd w ev' y.edges)(hl:y.edges.length≤1000000)(hn:y.names.length≤1000000)(R:Ending→World→Prop)
  (hR:Hid (∀W,Below w.heap.size w W→R (.returned (.bool true)) W)) :
  Calls Tryz.prog 32 #[.agg #[.int .i64 y.kind,.int .i64 y.at_,.int .i64 y.lo,.int .i64 y.hi,.int .i64 y.most,nv,ev],.agg #[.int .i64 y.kind,.int .i64 y.at_,.int .i64 y.lo,.int .i64 y.hi,.int .i64 y.most,nv',ev']] w R:=by
 obtain⟨A5,c5,rfl,-,h5⟩:=rS.open;obtain⟨B5,d5,rfl,-,g5⟩:=rS'.open;obtain⟨A6,c6,rfl,-,h6⟩:=ed_el18 rE;obtain⟨B6,d6,rfl,-,g6⟩:=ed_el18 rE';clear rS rS' rE rE';obtain⟨k0,k1,k2,k3,k4,yn,es⟩:=y;simp only at *;have n:=F0.z w;obtain⟨V1,e1,n,z1⟩:=n.new (.cells #[.int .i64 k0,.int .i64 k1,.int .i64 k2,.int .i64 k3,.int .i64 k4,.slice A5 yn.length c5,.slice A6 es.length c6] 74);obtain⟨V,e2,n,z2⟩:=n.new (.cells #[.int .i64 k0,.int .i64 k1,.int .i64 k2,.int .i64 k3,.int .i64 k4,.slice B5 yn.length d5,.slice B6 es.length d6] 74);have bw:=F0.bel n;have a0:=n.c 1 0 rfl rfl;have a1:=n.c 1 1 rfl rfl;have a2:=n.c 1 2 rfl rfl;have a3:=n.c 1 3 rfl rfl;have a4:=n.c 1 4 rfl rfl;have a5:=n.c 1 5 rfl rfl;have a6:=n.c 1 6 rfl rfl;have b0:=n.c 0 0 rfl rfl;have b1:=n.c 0 1 rfl rfl;have b2:=n.c 0 2 rfl rfl;have b3:=n.c 0 3 rfl rfl;have b4:=n.c 0 4 rfl rfl;have b5:=n.c 0 5 rfl rfl;have b6:=n.c 0 6 rfl rfl;have la:=n.lt 1 rfl;have lb:=n.lt 0 rfl;have fin:=Lib.hid fun W (m:Below V.heap.size V W)=>hR.out W (bw.trans (m.mono bw.size))
 replace h5:=Lib.hid h5;replace g5:=Lib.hid g5;replace h6:=Lib.hid h6;replace g6:=Lib.hid g6;clear z1 z2 n hR;go_enter Tryz.func32,Tryz.ntmps32
 go_upto_region 1 with fail
 clear e1 e2;go_upto_region 3 with fail
 have ka5:=a5;have ka6:=a6;have kb5:=b5;have kb6:=b6;clear a0 a1 a2 a3 a4 b0 b1 b2 b3 b4 a5 a6 b5 b6;replace ka5:=Lib.hid ka5;replace ka6:=Lib.hid ka6;replace kb5:=Lib.hid kb5;replace kb6:=Lib.hid kb6;go_wp2_with fail
 go_loopg [5] yn.length (fun g i wr=>∃(K:Nat),i=.int .i64 K∧K+g=yn.length∧Hid (Below V.heap.size V wr))
 case atStart=>exact⟨0,rfl,by omega,Lib.hid (Below.refl _ _)⟩
 case round =>
  obtain⟨K,rfl,e1,m⟩:=hrel;replace m:=m.out;have c5_:=(m.cell (p:=⟨w.heap.size,5,none⟩) la).trans ka5.out;have d5_:=(m.cell (p:=⟨V1.heap.size,5,none⟩) lb).trans kb5.out
  by_cases hK:K<yn.length
  ·obtain⟨g,o,rfl,hg,hc⟩:=h5.out (by omega)
   obtain⟨g',o',rfl,hg',hc'⟩:=g5.out (by omega);have m2:=bw.trans (m.mono bw.size);have x1:=(m2.cell (p:=⟨g,o+K,none⟩) hg).trans (hc K hK);have x2:=(m2.cell (p:=⟨g',o'+K,none⟩) hg').trans (hc' K hK);have i0:(0:Int)≤(K:Int):=by omega
   have i1:(K:Int)<(yn.length:Int):=by omega
   clear hc hc' m2;generalize yn.getD K ByteArray.empty=s at *;go_wp2_with fail
   go_quiet (fail);have mX:=Lib.hid (below_drewN m nq)
   clear x1 x2 c5_ d5_ m;go_wp2_with fail
   go_roundg (gk-1)
   case measure=>omega
   case rel=>exact⟨K+1,by go_num,by omega,mX⟩
  ·obtain rfl:K=yn.length:=by omega
   clear e1 hK;replace m:=Lib.hid m;go_wp2_with fail
   clear c5_ d5_;go_loopg [6] es.length (fun g i wr=>∃(K:Nat),i=.int .i64 K∧K+g=es.length∧Hid (Below V.heap.size V wr))
   case atStart=>exact⟨0,rfl,by omega,m⟩
   case round =>
    clear m;obtain⟨K,rfl,e1,m⟩:=hrel;replace m:=m.out;have c6_:=(m.cell (p:=⟨w.heap.size,6,none⟩) la).trans ka6.out;have d6_:=(m.cell (p:=⟨V1.heap.size,6,none⟩) lb).trans kb6.out
    by_cases hK:K<es.length
    ·obtain⟨g,o,rfl,hg,hc⟩:=h6.out K hK
     obtain⟨g',o',rfl,hg',hc'⟩:=g6.out K hK;have m2:=bw.trans (m.mono bw.size);have i0:(0:Int)≤(K:Int):=by omega
     have i1:(K:Int)<(es.length:Int):=by omega
     have r1:∀W,(∃q:BW wr,W=q.w)→W.rangeAt g (o+K*10) (encE es[K]):=fun W hW j u hj=>by
      obtain⟨q,rfl⟩:=hW;exact q.cell (Nat.lt_of_lt_of_le hg m2.size) ((m2.cell (p:=⟨g,o+K*10+j,none⟩) hg).trans (hc j u hj))
     have r2:∀W,(∃q:BW wr,W=q.w)→W.rangeAt g' (o'+K*10) (encE es[K]):=fun W hW j u hj=>by
      obtain⟨q,rfl⟩:=hW;exact q.cell (Nat.lt_of_lt_of_le hg' m2.size) ((m2.cell (p:=⟨g',o'+K*10+j,none⟩) hg').trans (hc' j u hj))
     clear hc hc' m2;generalize es[K]=e at *;obtain⟨f0,f1,f2,f3,f4,f5,f6,f7,f8,f9⟩:=e;go_upto_region 11 with fail
     have q1:∀W,(∃q:BW wr,W=q.w)→W.rangeAt g (o+K*10) [.string f0,.bool f1,.int .i64 f2,.int .i64 f3,.int .i64 f4,.int .i64 f5,.int .i64 f6,.int .i64 f7,.int .i64 f8,.int .i64 f9]:=r1;have q2:∀W,(∃q:BW wr,W=q.w)→W.rangeAt g' (o'+K*10) [.string f0,.bool f1,.int .i64 f2,.int .i64 f3,.int .i64 f4,.int .i64 f5,.int .i64 f6,.int .i64 f7,.int .i64 f8,.int .i64 f9]:=r2;have cc:=fun x:BW wr=>x.cell (Nat.lt_of_lt_of_le la m.size) c6_
     have dd:=fun x:BW wr=>x.cell (Nat.lt_of_lt_of_le lb m.size) d6_
     clear r1 r2;refine wp_region_below_lit (by kernel_rfl) (by kernel_rfl) ?_;refine wpQuiet_k18 fun Kp hKp=>?_
     iterate 4 (go_big_quiet_step (exact rfl))
     refine wpQuiet_load rfl 97 _ rfl g (o+K*10) rfl _ _ q1 Tryz.underlying97 rfl (by kernel_rfl) ?_
     try go_simp
     iterate 4 (go_big_quiet_step (exact rfl))
     refine wpQuiet_load rfl 97 _ rfl g' (o'+K*10) rfl _ _ q2 Tryz.underlying97 rfl (by kernel_rfl) ?_
     try go_simp
     go_big_quiet_step (exact rfl);refine wpQuiet_nil ?_
     refine hKp _ ?_;clear hKp q1 q2 cc dd
     rintro _ ⟨x,rfl⟩
     have mX:=Lib.hid (m.trans (x.b.mono m.size));clear c6_ d6_ m;go_wp2_with fail
     go_roundg (gk-1)
     case measure=>omega
     case rel=>exact⟨K+1,by go_num,by omega,mX⟩
    ·obtain rfl:K=es.length:=by omega
     replace fin:=Lib.hid (fin.out wr m);clear m;go_wp2_with fail
     exact fin.out
section
variable {w:World} {v:Value} {nm:List ByteArray} {F:Nat→Nat→Bool} {ns:List ByteArray} {x:List NdR×Int×List Int}
theorem pnodeany_calls(h:PlanP w v nm F ns x)(hb1:∀y∈x.1,y.names.length≤1000000∧y.edges.length≤1000000)(i:Int)(R:Ending→World→Prop)
  (hR:Hid (∀W (k0 k1 k2 k3 k4:Int) (A5:Option Addr) (n5 c5:Nat) (A6:Option Addr) (n6 c6:Nat),Below w.heap.size w W→R (.returned (.tuple #[.agg #[.int .i64 k0,.int .i64 k1,.int .i64 k2,.int .i64 k3,.int .i64 k4,.slice A5 n5 c5,.slice A6 n6 c6],.bool (decide (0≤i∧i<(x.1.length:Int)))])) W)):Calls Tryz.prog 29 #[v,.int .i64 i] w R:=by
 by_cases hi:0≤i∧i<(x.1.length:Int)
 ·rw [decide_eq_true hi]at hR
  obtain⟨I,rfl⟩:∃I:Nat,i=(I:Int):=⟨i.toNat,by omega⟩;refine pnode_calls h hb1 I (by omega) R (Lib.hid fun W nv ev y hy rS rE m=>?_);obtain⟨A5,c5,rfl,-⟩:=rS.open;obtain⟨A6,c6,rfl,-⟩:=ed_el18 rE;exact hR.out W _ _ _ _ _ _ _ _ _ _ _ m
 ·rw [decide_eq_false hi]at hR
  exact pnodeno_calls h i (by omega) R (Lib.hid fun W m=>hR.out W _ _ _ _ _ _ _ _ _ _ _ m)
theorem plname_calls{L:Nat}(h:LatP w (.pointer (some ⟨L,0,none⟩)) nm F)(i:Int)(hi:0≤i∧i<(nm.length:Int))(R:Ending→World→Prop)(hR:Hid (R (.returned (.string (nm.getD i.toNat ByteArray.empty))) w)):Calls Tryz.prog 31 #[.pointer (some ⟨L,0,none⟩),.int .i64 i] w R:=by
 obtain⟨p,e,hv,-⟩:=h;simp only[Value.pointer.injEq,Option.some.injEq,Addr.mk.injEq,and_true]at e;subst e;exact latnamex_calls nm _ w hv i R (by rw [if_pos hi];exact hR)
end
end Go.Proofs.YtabhkakomececaaGreat.Res
namespace Go.Proofs.YtabhkakomececaaGreat.Inh
open Go.RowKit Go.Lib Res Nam
end Go.Proofs.YtabhkakomececaaGreat.Inh
namespace Go.Proofs.YtabhkakomececaaGreat.Unp
open Go.RowKit Go.Lib
theorem sc_block:∀(vs:List Value)(o:Nat)(w:World)(B k:Nat),k≠B→(w.setCells B o vs).heap[k]?=w.heap[k]?
| [],_,_,_,_,_=>rfl
| v::vs,o,w,B,k,h=>(sc_block vs (o+1) (w.setCell ⟨B,o,none⟩ v) B k h).trans (Below.heap_setCell _ ⟨B,o,none⟩ v k h)
theorem sc_size:∀(vs:List Value)(o:Nat)(w:World)(B:Nat),(w.setCells B o vs).heap.size=w.heap.size
| [],_,_,_=>rfl
| v::vs,o,w,B=>(sc_size vs (o+1) (w.setCell ⟨B,o,none⟩ v) B).trans (by simp [World.setCell])
theorem sc_below{base B:Nat}(hB:base≤B):∀(vs:List Value)(o:Nat)(w W:World),Below base w W→Below base w (W.setCells B o vs)
| [],_,_,_,h=>h
| v::vs,o,w,W,h=>sc_below hB vs (o+1) w (W.setCell ⟨B,o,none⟩ v) (h.setCell (p:=⟨B,o,none⟩) hB v)
theorem sc_gw{W V:World}{p q:Nat}(h:∃x:GW W p q,V=x.w)(vs:List Value)(o:Nat):∃x:GW W p q,V.setCells p o vs=x.w:=by
 obtain⟨⟨V,s,b⟩,rfl⟩:=h;exact⟨⟨_,by rw [sc_size];exact s,fun k hk h1 h2=>(sc_block vs o V p k h1).trans (b k hk h1 h2)⟩,rfl⟩
theorem there_of{w:World}{B n:Nat}{cs:Array Value}{t:TypeId}(h:w.heap[B]?=some (.cells cs t))(hs:cs.size=n):w.there B 0 n:=fun j hj=>by
 rw [Nat.zero_add,Lib.cell_of_heap h,Lib.frozen_of_heap h];exact⟨by rw [Array.getElem?_eq_getElem (by omega)];rfl,rfl⟩
theorem sc_cell{w:World}{B:Nat}{vs:List Value}(ht:w.there B 0 vs.length)(i:Nat){v:Value}(h:vs[i]?=some v):(w.setCells B 0 vs).cell? ⟨B,i,none⟩=some v:=by
 have:=World.rangeAt_setCells_same w B 0 vs ht i v h;rwa [Nat.zero_add]at this
theorem emp_sc{W:World}{b b0 B:Nat}(h:b0≤b)(hB:B<b)(vs:List Value)(o:Nat):Kp (empW (lowS b) W) (empW (lowS b0) (W.setCells B o vs)) :=
emp_kp (Nat.le_of_eq (sc_size vs o W B).symm) fun g h1 h2=>⟨by unfold lowS at *;omega,sc_block vs o W B g (by unfold lowS at h2;omega)⟩
end Go.Proofs.YtabhkakomececaaGreat.Unp
namespace Go.Proofs.YtabhkakomececaaGreat
open Go.RowKit Go.Lib Unp
end Go.Proofs.YtabhkakomececaaGreat
namespace Go.Proofs.YtabhkakomececaaGreat.Inh
open Go.RowKit Go.Lib Res Nam Kin Unp
end Go.Proofs.YtabhkakomececaaGreat.Inh
namespace Go.Proofs.YtabhkakomececaaGreat.Inh
open Go.RowKit Go.Lib Res Nam Kin
section
variable {fn:FuncId} {f:List Int→NdR→Int} {xs:List Nv} {gN q:Nat}
end
end Go.Proofs.YtabhkakomececaaGreat.Inh
set_option linter.all false
set_option maxRecDepth 100000
set_option maxHeartbeats 4000000
namespace Go.Proofs.YtabhkakomececaaGreat
namespace Unp
open Go.RowKit Go.Lib
theorem alz(w:World)(o:Obj):(w.alloc o).heap.size=w.heap.size+1:=by simp
theorem alB(V:World)(o:Obj):Below V.heap.size V (V.alloc o):=(Below.refl _ _).alloc (Nat.le_refl _) o
end Unp
namespace Unp
open Go.RowKit Go.Lib Nam Lat Kin Dig
end Unp
namespace Res
open Go.RowKit Go.Lib Utf Nam Lat Kin Unp Rel Lab
end Res
end Go.Proofs.YtabhkakomececaaGreat
