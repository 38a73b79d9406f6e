import Derived.Test.YtncckdaflellnaaGreatProg
import Derived.Shelf.SlSortCmp.Whole1
import Derived.Shelf.SlSortCmp.NoneTotal
import Derived.Shelf.SlicesE.Clone
import Derived.Shelf.Spec.SearchS
import Derived.Shelf.Small.Strs
import Derived.Shelf.Small.Wraps
import Derived.Test.YtncckdaflellnaaGreatQ9
import Derived.Test.YtncckdaflellnaaGreatQ6
import Derived.Lib.OwnBridge
import Derived.Lib.AppendIntMem
import Derived.Laws.MakeOwn
import Derived.Deep.WholeRow
set_option linter.all false
set_option maxRecDepth 100000
set_option maxHeartbeats 4000000
namespace Go.Proofs.YtncckdaflellnaaGreat
open Go.Shelf
def sortInt_ren:Go.Shelf.Ren:=⟨fun|6=>154|15=>183|14=>182|28=>200|29=>201|20=>192|21=>193|22=>194|23=>195|24=>196|25=>197|26=>198|27=>199|46=>208|47=>209|48=>210|49=>211|50=>212|57=>220|n=>n,fun|22=>51|24=>3|25=>125|3=>3|39=>232|0=>0|53=>212|55=>203|4=>4|46=>247|45=>246|50=>79|5=>5|9=>9|66=>257|70=>261|76=>266|77=>55|n=>n,fun|n=>n⟩
theorem sortInt:Go.Proofs.SlLaysF.n6 Tryz.prog sortInt_ren:={
mixed:=by kernel_rfl
f6:=⟨Tryz.f154.name,by decide,Tryz.func154.trans (congrArg some (by kernel_rfl))⟩
f14:=⟨Tryz.f182.name,by decide,Tryz.func182.trans (congrArg some (by kernel_rfl))⟩
f15:=Tryz.func183.trans (congrArg some (by kernel_rfl))
f20:=⟨Tryz.f192.name,by decide,Tryz.func192.trans (congrArg some (by kernel_rfl))⟩
f21:=⟨Tryz.f193.name,by decide,Tryz.func193.trans (congrArg some (by kernel_rfl))⟩
f22:=⟨Tryz.f194.name,by decide,Tryz.func194.trans (congrArg some (by kernel_rfl))⟩
f23:=⟨Tryz.f195.name,by decide,Tryz.func195.trans (congrArg some (by kernel_rfl))⟩
f24:=⟨Tryz.f196.name,by decide,Tryz.func196.trans (congrArg some (by kernel_rfl))⟩
f25:=⟨Tryz.f197.name,by decide,Tryz.func197.trans (congrArg some (by kernel_rfl))⟩
f26:=⟨Tryz.f198.name,by decide,Tryz.func198.trans (congrArg some (by kernel_rfl))⟩
f27:=⟨Tryz.f199.name,by decide,Tryz.func199.trans (congrArg some (by kernel_rfl))⟩
f28:=Tryz.func200.trans (congrArg some (by kernel_rfl))
f29:=Tryz.func201.trans (congrArg some (by kernel_rfl))
f46:=⟨Tryz.f208.name,by decide,Tryz.func208.trans (congrArg some (by kernel_rfl))⟩
f47:=Tryz.func209.trans (congrArg some (by kernel_rfl))
f48:=Tryz.func210.trans (congrArg some (by kernel_rfl))
f49:=⟨Tryz.f211.name,by decide,Tryz.func211.trans (congrArg some (by kernel_rfl))⟩
f50:=⟨Tryz.f212.name,by decide,Tryz.func212.trans (congrArg some (by kernel_rfl))⟩
f57:=⟨Tryz.f220.name,by decide,Tryz.func220.trans (congrArg some (by kernel_rfl))⟩
t0:=Tryz.underlying0
a0:=Tryz.isAgg0
z0:=Tryz.sizeOf0
v0:=Tryz.zeroValue0
t3:=Tryz.underlying3
a3:=Tryz.isAgg3
z3:=Tryz.sizeOf3
v3:=Tryz.zeroValue3
t4:=Tryz.underlying4
a4:=Tryz.isAgg4
z4:=Tryz.sizeOf4
v4:=Tryz.zeroValue4
t5:=Tryz.underlying5
a5:=Tryz.isAgg5
z5:=Tryz.sizeOf5
v5:=Tryz.zeroValue5
t9:=Tryz.underlying9
a9:=Tryz.isAgg9
z9:=Tryz.sizeOf9
v9:=Tryz.zeroValue9
t22:=Tryz.underlying51
a22:=Tryz.isAgg51
z22:=Tryz.sizeOf51
v22:=Tryz.zeroValue51
a24:=Tryz.isAgg3
z24:=Tryz.sizeOf3
t25:=Tryz.underlying125
a25:=Tryz.isAgg125
z25:=Tryz.sizeOf125
v25:=Tryz.zeroValue125
t39:=Tryz.underlying232
a39:=Tryz.isAgg232
z39:=Tryz.sizeOf232
v39:=Tryz.zeroValue232
t45:=Tryz.underlying246
a45:=Tryz.isAgg246
z45:=Tryz.sizeOf246
v45:=Tryz.zeroValue246
t46:=Tryz.underlying247
a46:=Tryz.isAgg247
z46:=Tryz.sizeOf247
v46:=Tryz.zeroValue247
t50:=Tryz.underlying79
a50:=Tryz.isAgg79
z50:=Tryz.sizeOf79
v50:=Tryz.zeroValue79
t53:=Tryz.underlying212
a53:=Tryz.isAgg212
z53:=Tryz.sizeOf212
v53:=Tryz.zeroValue212
t55:=Tryz.underlying203
a55:=Tryz.isAgg203
z55:=Tryz.sizeOf203
v55:=Tryz.zeroValue203
t66:=Tryz.underlying257
a66:=Tryz.isAgg257
z66:=Tryz.sizeOf257
v66:=Tryz.zeroValue257
t70:=Tryz.underlying261
a70:=Tryz.isAgg261
z70:=Tryz.sizeOf261
v70:=Tryz.zeroValue261
t76:=Tryz.underlying266
a76:=Tryz.isAgg266
z76:=Tryz.sizeOf266
v76:=Tryz.zeroValue266
t77:=Tryz.underlying55
a77:=Tryz.isAgg55
z77:=Tryz.sizeOf55
v77:=Tryz.zeroValue55 }
def cloneStr_ren:Go.Shelf.Ren:=⟨fun|41=>85|n=>n,fun|22=>67|23=>9|4=>4|n=>n,fun|n=>n⟩
theorem cloneStr:Go.Proofs.SlLaysE0.n41 Tryz.prog cloneStr_ren:={
mixed:=by kernel_rfl
f41:=⟨Tryz.f85.name,by decide,Tryz.func85.trans (congrArg some (by kernel_rfl))⟩
t4:=Tryz.underlying4
a4:=Tryz.isAgg4
z4:=Tryz.sizeOf4
v4:=Tryz.zeroValue4
t22:=Tryz.underlying67
a22:=Tryz.isAgg67
z22:=Tryz.sizeOf67
v22:=Tryz.zeroValue67 }
def searchStr_ren:Go.Shelf.Ren:=⟨fun|26=>141|33=>178|34=>179|38=>190|n=>n,fun|24=>67|9=>9|3=>3|4=>4|40=>232|0=>0|n=>n,fun|n=>n⟩
theorem searchStr:Go.Proofs.Lays2.n26 Tryz.prog searchStr_ren:={
mixed:=by kernel_rfl
f26:=Tryz.func141.trans (congrArg some (by kernel_rfl))
f33:=Tryz.func178.trans (congrArg some (by kernel_rfl))
f34:=Tryz.func179.trans (congrArg some (by kernel_rfl))
f38:=Tryz.func190.trans (congrArg some (by kernel_rfl))
t0:=Tryz.underlying0
a0:=Tryz.isAgg0
z0:=Tryz.sizeOf0
v0:=Tryz.zeroValue0
t3:=Tryz.underlying3
a3:=Tryz.isAgg3
z3:=Tryz.sizeOf3
v3:=Tryz.zeroValue3
t4:=Tryz.underlying4
a4:=Tryz.isAgg4
z4:=Tryz.sizeOf4
v4:=Tryz.zeroValue4
t9:=Tryz.underlying9
a9:=Tryz.isAgg9
z9:=Tryz.sizeOf9
v9:=Tryz.zeroValue9
t24:=Tryz.underlying67
a24:=Tryz.isAgg67
z24:=Tryz.sizeOf67
v24:=Tryz.zeroValue67
t40:=Tryz.underlying232
a40:=Tryz.isAgg232
z40:=Tryz.sizeOf232
v40:=Tryz.zeroValue232 }
def compStr_ren:Go.Shelf.Ren:=⟨fun|106=>157|213=>184|265=>202|n=>n,fun|9=>9|3=>3|n=>n,fun|n=>n⟩
theorem compStr:Go.Proofs.Lays.n106 Tryz.prog compStr_ren:={
mixed:=by kernel_rfl
f106:=Tryz.func157.trans (congrArg some (by kernel_rfl))
f213:=Tryz.func184.trans (congrArg some (by kernel_rfl))
f265:=Tryz.func202.trans (congrArg some (by kernel_rfl))
t3:=Tryz.underlying3
a3:=Tryz.isAgg3
z3:=Tryz.sizeOf3
v3:=Tryz.zeroValue3
t9:=Tryz.underlying9
a9:=Tryz.isAgg9
z9:=Tryz.sizeOf9
v9:=Tryz.zeroValue9 }
def compInt_ren:Go.Shelf.Ren:=⟨fun|122=>158|215=>185|n=>n,fun|3=>3|4=>4|n=>n,fun|n=>n⟩
theorem compInt:Go.Proofs.Lays.n122 Tryz.prog compInt_ren:={
mixed:=by kernel_rfl
f122:=Tryz.func158.trans (congrArg some (by kernel_rfl))
f215:=Tryz.func185.trans (congrArg some (by kernel_rfl))
t3:=Tryz.underlying3
a3:=Tryz.isAgg3
z3:=Tryz.sizeOf3
v3:=Tryz.zeroValue3
t4:=Tryz.underlying4
a4:=Tryz.isAgg4
z4:=Tryz.sizeOf4
v4:=Tryz.zeroValue4 }
end Go.Proofs.YtncckdaflellnaaGreat
namespace Go.Proofs.YtncckdaflellnaaGreat.Nam
open Go.RowKit Go.Lib Utf Go.Sort Go.Shelf
theorem strcmp_calls(a b:ByteArray)(w:World)(R:Ending→World→Prop)(hR:Hid (R (.returned (.int .i64 (cmpS a b))) w)):Calls Tryz.prog 157 #[.string a,.string b] w R:=by
 have:=Any.strings_Compare YtncckdaflellnaaGreat.compStr a b w
 change Calls Tryz.prog 157 _ _ _ at this
 refine this.mono ?_
 rintro e w' ⟨rfl,rfl⟩
 exact hR.out
theorem intcmp_calls(a b:Int)(w:World)(R:Ending→World→Prop)(hR:Hid (R (.returned (.int .i64 (compareInt a b))) w)):Calls Tryz.prog 158 #[.int .i64 a,.int .i64 b] w R:=by
 have:=Any.cmp_Compare_int YtncckdaflellnaaGreat.compInt a b w
 change Calls Tryz.prog 158 _ _ _ at this
 refine this.mono ?_
 rintro e w' ⟨rfl,rfl⟩
 exact hR.out
theorem or_calls(a c:Int)(b:Nat)(w:World)(h0:w.cell? ⟨b,0,none⟩=some (.int .i64 a))(h1:w.cell? ⟨b,1,none⟩=some (.int .i64 c))(R:Ending→World→Prop)
  (V:Int) (hV:(if a=0 then c else a)=V) (hR:Hid (R (.returned (.int .i64 V)) w)):Calls Tryz.prog 156 #[.slice (some ⟨b,0,none⟩) 2 2] w R:=by
 rw [←hV]at hR;clear hV;go_enter Tryz.func156,Tryz.ntmps156
 go_wp2_with fail
 go_loopg [8] 2 (fun k i wr=>∃(K:Nat),wr=w∧i=.int .i64 K∧K+k=2∧(0<K→a=0)∧(1<K→c=0))
 case atStart=>exact⟨0,rfl,rfl,rfl,fun h=>by omega,fun h=>by omega⟩
 case round =>
  obtain⟨K,rfl,rfl,c1,c2,c3⟩:=hrel;obtain rfl|rfl|rfl:K=0∨K=1∨K=2:=by omega
  ·clear c2 c3
   by_cases h:a=0
   ·subst h
    rw [if_pos rfl]at hR;go_wp2_with fail
    go_roundg 1
    case measure=>omega
    case rel=>exact⟨1,rfl,rfl,rfl,fun _=>by first|rfl|trivial,fun h=>by omega⟩
   ·rw [if_neg h]at hR
    have hb:(a==0)=false:=by simpa using h
    have hn:(a != 0)=true:=by simpa using h
    go_wp2_with fail
    exact hR.out
  ·have h:=c2 (by omega)
   subst h;rw [if_pos rfl]at hR;clear c2 c3
   by_cases h:c=0
   ·subst h
    go_wp2_with fail
    go_roundg 0
    case measure=>omega
    case rel=>exact⟨2,rfl,rfl,rfl,fun _=>by first|rfl|trivial,fun _=>by first|rfl|trivial⟩
   ·have hb:(c==0)=false:=by simpa using h
    have hn:(c != 0)=true:=by simpa using h
    go_wp2_with fail
    exact hR.out
  ·have h:=c2 (by omega)
   have g:=c3 (by omega);subst h g;rw [if_pos rfl]at hR;clear c2 c3;go_wp2_with fail
   exact hR.out
theorem less_calls(xs:List ByteArray)(lv:Value)(p i j:Nat)(w:World)(hi:i<xs.length)(hj:j<xs.length)(hx:RdS w lv xs)(hp:w.cell? ⟨p,0,none⟩=some lv) :
  Calls Tryz.prog 155 #[.int .i64 i,.int .i64 j,.pointer (some ⟨p,0,none⟩)] w fun e w'=>e=.returned (.int .i64 (cmpI xs i j))∧∃q os',w'=grow (w.drewN q) os':=by
 obtain⟨A,c,rfl,hlc,hr⟩:=hx.open;obtain⟨g,o,rfl,hg,hca⟩:=hr (by omega);have hpl:p<w.heap.size:=World.block_lt_of_cell? w (a:=⟨p,0,none⟩) hp;have e0:=hca i hi;have e1:=hca j hj;clear hca hr hx;obtain⟨V,hV⟩:∃V,cmpI xs i j=V:=⟨_,rfl⟩;rw [hV];unfold cmpI at_ at hV;generalize xs.getD i ByteArray.empty=a at *;generalize xs.getD j ByteArray.empty=b at *;generalize hP:(fun(e:Ending) w'=>e=.returned (.int .i64 V)∧∃q os',w'=grow (w.drewN q) os')=P;have hP':∀os',P (.returned (.int .i64 V)) (grow w.drew os'):=fun os'=>by subst hP;exact⟨rfl,1,os',rfl⟩
 replace hP':=Lib.hid hP';clear hP;have hI:(i:Int)<xs.length:=by omega
 have hJ:(j:Int)<xs.length:=by omega
 generalize hm:cmpS a b=m at *;generalize hn:compareInt i j=n at *;replace hV:=Lib.hid hV;have cS:=fun W R hR=>strcmp_calls a b W R hR
 rw [hm]at cS;have cC:=fun W R hR=>intcmp_calls i j W R hR
 rw [hn]at cC;replace cS:=Lib.hid cS;replace cC:=Lib.hid cC;clear hm hn;go_enter Tryz.func155,Tryz.ntmps155
 go_wp2_with fail
 go_region_held3 (fun w'=>w'.cell? ⟨p,0,none⟩=some (.slice (some ⟨g,o,none⟩) xs.length c)∧w'.cell? ⟨g,o+i,none⟩=some (.string a)∧w'.cell? ⟨g,o+j,none⟩=some (.string b))
  (first|exact⟨hp,e0,e1⟩|exact⟨alloc_keep hpl hp,alloc_keep hg e0,alloc_keep hg e1⟩|trace_state)
  (first
   | (go_at_call 157;refine cS.out _ _ (Lib.hid ?_))
   | (go_at_call 158;refine cC.out _ _ (Lib.hid ?_))
   | (go_at_call 156;refine or_calls m n _ _ (by exact(cell_of_row _ _ 0 _ _ (0,0) (heap_alloc_last _ _)).trans rfl) (by exact(cell_of_row _ _ 1 _ _ (0,0) (heap_alloc_last _ _)).trans rfl) _ V hV.out (Lib.hid ?_)))
 all_goals
  go_wp2_with fail
  rw [alloc_eq_grow];exact hP'.out _
end Go.Proofs.YtncckdaflellnaaGreat.Nam
namespace Go.Proofs.YtncckdaflellnaaGreat.Nam
open Go.RowKit Go.Lib Utf
def iv(ix:List Nat):List Value:=ix.map fun i=>.int .i64 (i:Nat)
theorem iv_len(l:List Nat):(iv l).length=l.length:=by simp [iv]
theorem iv_get(l:List Nat)(k:Nat)(h:k<l.length):(iv l)[k]?=some (.int .i64 (l.getD k 0:Nat)):=by simp [iv,List.getD,List.getElem?_eq_getElem h]
def RdI(w:World)(v:Value)(l:List Nat):Prop:=RdAt w v 1 (iv l)
theorem RdI.open{w:World}{v:Value}{l:List Nat}(h:RdI w v l):∃(A:Option Addr)(c:Nat),v=.slice A l.length c∧l.length≤c ∧
  (0<l.length→∃g o,A=some ⟨g,o,none⟩∧g<w.heap.size∧∀k,k<l.length→w.cell? ⟨g,o+k,none⟩=some (.int .i64 (l.getD k 0:Nat))):=by
 obtain⟨A,n,c,rfl,hl,hn,hc⟩:=h;rw [iv_len]at hl;obtain rfl:n=l.length:=by omega
 refine⟨A,c,rfl,hn,fun h0=>?_⟩;obtain⟨g,o,rfl,hg,hc⟩:=hc (by rw [iv_len];omega)
 exact⟨g,o,rfl,hg,fun k hk=>hc _ _ (iv_get l k hk)⟩
theorem RdI.none0(w:World)(A:Option Addr)(c:Nat):RdI w (.slice A 0 c) []:=⟨A,0,c,rfl,rfl,Nat.zero_le _,fun h=>absurd h (by simp [iv])⟩
theorem cell_new1(W:World)(v:Value)(T:TypeId):(W.alloc (.cells #[v] T)).cell? ⟨W.heap.size,0,none⟩=some v:=by rw [World.cell?_alloc_new];rfl
theorem infoInt:(Tryz.prog.info? 3).map (fun i=>(i.zero,i.size,i.bytes))=some (some (.int .i64 0),1,8):=by kernel_rfl
end Go.Proofs.YtncckdaflellnaaGreat.Nam
namespace Go.Proofs.YtncckdaflellnaaGreat.Nam
open Go.RowKit Go.Lib Utf Go.Sort Go.Shelf
def encF{n:Nat}(x:Fin n):Value:=.int .i64 (x.1:Nat)
theorem ltF(xs:List ByteArray)(x y:Fin xs.length):ltOf (fun x y:Fin xs.length=>cmpI xs x.1 y.1) x y=true↔bef xs x.1 y.1:=by
 unfold ltOf;rw [decide_eq_true_iff,cmpI_lt]
theorem ltF_f(xs:List ByteArray)(x y:Fin xs.length):ltOf (fun x y:Fin xs.length=>cmpI xs x.1 y.1) x y=false↔¬bef xs x.1 y.1:=by
 rw [←ltF,Bool.not_eq_true]
theorem swoF(xs:List ByteArray) [Inhabited (Fin xs.length)]:SWO (ltOf fun x y:Fin xs.length=>cmpI xs x.1 y.1) where
irrefl x:=by rw [ltF_f];exact bef_irr _ _
trans x y z h1 h2:=by rw [ltF]at *;exact bef_trans h1 h2
ntrans x y z h1 h2:=by
 rw [ltF_f]at *;intro h
 by_cases g:bef xs y.1 x.1
 ·exact h2 (bef_trans g h)
 ·have e:=bef_tri h1 g
  rw [e]at h;exact h2 h
theorem getF{n:Nat} [Inhabited (Fin n)]{d:Array (Fin n)}{k:Nat}(h:k<d.size):(d.toList.map (·.1)).getD k 0=(d[k]!).1:=by
 simp [List.getD,h,getElem!_pos]
theorem sort_calls(xs:List ByteArray)(lv v:Value)(p B:Nat)(W1 w:World)(hB:W1.heap.size=B)(h0:xs.length≤1000000)(hx:RdS W1 lv xs)(hp:W1.cell? ⟨p,0,none⟩=some lv)(hpl:p<W1.heap.size)(hb:RowKit.Below B W1 w)
  (hown:w.ownsRow B 3 1 v xs.length (iv (List.range xs.length))) (R:Ending→World→Prop)
  (hR:Hid (∀ix w',Ixs xs ix→RdI w' v ix→RowKit.Below B W1 w'→R (.returned (.tuple #[])) w')) :
  Calls Tryz.prog 154 #[v,.func (.func 155) #[] #[.pointer (some ⟨p,0,none⟩)]] w R:=by
 subst hB;rcases Nat.eq_zero_or_pos xs.length with hz|hz
 ·obtain rfl:=List.eq_nil_of_length_eq_zero hz
  obtain⟨hv,-⟩:=own_nil hown;have hv2:∃A c,v=.slice A 0 c:=by rcases hv with rfl|⟨g,c,rfl⟩ <;> exact⟨_,_,rfl⟩
  obtain⟨A,c,rfl⟩:=hv2;have:=AnyF.slices_SortFunc_none (P:=Tryz.prog) { YtncckdaflellnaaGreat.sortInt with } A c (.func (.func 155) #[] #[.pointer (some ⟨p,0,none⟩)]) w
  change Calls Tryz.prog 154 _ _ _ at this
  refine this.mono ?_
  rintro e w' ⟨rfl,rfl⟩
  exact hR.out [] _ ⟨List.Perm.refl _,List.Pairwise.nil⟩ (RdI.none0 _ _ _) hb
 ·obtain⟨g,cap,rfl,hg1,hg2,hcap,hcells⟩:=own_at hown hz
  haveI:Inhabited (Fin xs.length):=⟨⟨0,hz⟩⟩;have hd:(List.finRange xs.length).toArray.size=xs.length:=by simp
  have hH:Holds encF w g 0 (List.finRange xs.length).toArray:=by
   intro j hj;rw [hd]at hj;refine⟨?_,by rw [Nat.zero_add];exact World.ownsRow.frozenAt hown j⟩
   rw [Nat.zero_add,hcells j (by omega),iv_get _ _ (by simpa using hj)];simp [encF,List.getD,hj,getElem!_pos]
  have eg:∀args w,(callFunc 155 args).run Tryz.prog w=.ok (.enter 155 args) w:=enters_of Tryz.func155 (by kernel_rfl) rfl
  have hbs:∀m (dk:Array (Fin xs.length)) os,RowKit.Below W1.heap.size W1 (sortWorld encF w g 0 m dk os):=fun m dk os=>by
   unfold sortWorld;have h1:=Lib.below_putRow (enc:=encF) (B:=W1.heap.size) (w0:=W1) (w:=w) (g:=g) (q:=m) (d:=dk) hb hg1;exact h1.trans (Lib.below_grow W1.heap.size _ h1.size 0 os)
  have:=Any.slices_SortFunc YtncckdaflellnaaGreat.sortInt encF (fun _=>rfl) (fun x y:Fin xs.length=>cmpI xs x.1 y.1) (swoF xs) 155 #[.pointer (some ⟨p,0,none⟩)] g 0 cap (List.finRange xs.length).toArray w eg
   (fun m os dk _ x y=>less_calls xs lv p x.1 y.1 _ x.2 y.2 (hx.below (hbs m dk os)) (((hbs m dk os).cell (p:=⟨p,0,none⟩) hpl).trans hp)) hH hg2 (by rw [hd];omega)
  change Calls Tryz.prog 154 _ _ _ at this
  rw [hd]at this;refine this.mono ?_
  rintro e w' ⟨rfl,d',n,os,hpm,hs,rfl⟩
  have hsz:d'.size=xs.length:=by rw [hpm.1,hd]
  have hperm:d'.toList.Perm (List.finRange xs.length):=by
   have:=hpm.2.2
   have e1:(d'.extract 0 xs.length).toList=d'.toList:=by
    have h:=Array.extract_size (xs:=d');rw [hsz]at h;rw [h]
   have e2:((List.finRange xs.length).toArray.extract 0 xs.length).toList=List.finRange xs.length:=by
    have:(List.finRange xs.length).toArray.extract 0 (List.finRange xs.length).toArray.size=(List.finRange xs.length).toArray:=Array.extract_size;rw [hd]at this;rw [this]
   rw [e1,e2]at this;exact this
  refine hR.out (d'.toList.map (·.1)) _ ?_ ?_ (hbs _ _ _)
  ·refine Ixs.of_sorted ?_ fun i j hij hj=>?_
   ·have:=hperm.map (fun x:Fin xs.length=>x.1)
    rwa [show(List.finRange xs.length).map (fun x:Fin xs.length=>x.1)=List.range xs.length from List.ext_getElem (by simp) fun i h1 h2=>by simp]at this
   ·have hj':j<d'.size:=by simpa using hj
    rw [getF hj',getF (show i<d'.size by omega)];exact(ltF_f xs _ _).1 (hs i j (Nat.zero_le _) hij (by omega))
  ·have h1:=holds_sortWorld encF w g 0 n (List.finRange xs.length).toArray d' os hg2 hH (by rw [hsz,hd])
   have h2:=lt_sortWorld encF w g 0 n d' os hg2;refine⟨_,xs.length,cap,rfl,by rw [iv_len];simp [hsz],hcap,fun _=>⟨g,0,rfl,h2,fun j u hj=>?_⟩⟩;have hj2:j<d'.size:=by have:=(List.getElem?_eq_some_iff.1 hj).1;rw [iv_len]at this;simpa using this
   rw [(h1 j hj2).1,←hj,iv_get _ _ (by simpa using hj2),getF hj2];rfl
theorem mk_int(n:Nat)(hn:n≤1000000):∃M:Array Value,M.size=n ∧
  ∀w,(Instr.makeSlice 51 (.int .i64 n) (.int .i64 n)).run Tryz.prog w=.ok (.slice (some ⟨w.heap.size,0,none⟩) n n) (w.alloc (.cells M 3)):=by
 obtain⟨i0,hi,hz0,hz1,hz2⟩:=info_parts infoInt;refine⟨madeCells (#[.int .i64 0]) (n*1),by rw [size_madeCells,Nat.mul_one],fun w=>?_⟩;have:=run_make (P:=Tryz.prog) w 51 3 i0 _ Tryz.underlying51 hi hz0 .i64 .i64 n n (by omega) (Int.le_refl _) (by rw [hz2];omega) (by omega)
 rw [hz1]at this;exact this
def Fill(k:Nat)(zs:List Value):Prop:=∀j,j<k→zs[j]?=some (.int .i64 (j:Nat))
theorem Fill.put{k:Nat}{zs:List Value}(h:Fill k zs)(hk:k<zs.length):Fill (k+1) (zs.set k (.int .i64 (k:Nat))):=fun j hj=>by
 rcases Nat.eq_or_lt_of_le (Nat.le_of_lt_succ hj)with e|hj
 ·subst e;simp [hk]
 ·rw [List.getElem?_set_ne (by omega)];exact h j hj
theorem Fill.fin{zs:List Value}(h:Fill zs.length zs):zs=iv (List.range zs.length):=by
 refine List.ext_getElem? fun j=>?_
 by_cases hj:j<zs.length
 ·rw [h j hj,iv_get _ _ (by simpa using hj)];simp [List.getD,hj]
 ·rw [List.getElem?_eq_none (by omega),List.getElem?_eq_none (by rw [iv_len];simp;omega)]
theorem sorted_calls(xs:List ByteArray)(lv:Value)(w:World)(h0:xs.length≤1000000)(hx:RdS w lv xs)(R:Ending→World→Prop)
  (hR:Hid (∀ix v w',Ixs xs ix→RdI w' v ix→(∀g o n c,v=.slice (some ⟨g,o,none⟩) n c→w.heap.size≤g)→RowKit.Below w.heap.size w w'→R (.returned v) w')):Calls Tryz.prog 108 #[lv] w R:=by
 obtain⟨A,c,rfl,hlc,-⟩:=hx.open;obtain⟨M,hM,hmk⟩:=mk_int xs.length (by omega);have hmf:∀(fn:Fn) (first cap:Array Value) (w:World),(Instr.makeFunc fn first cap).run Tryz.prog w=.ok (.func fn first cap) w:=fun _ _ _ _=>rfl
 have b1:=(RowKit.Below.refl w.heap.size w).alloc (Nat.le_refl _) (.cells #[.slice A xs.length c] 67);have hx1:=hx.below b1;have k1:=cell_new1 w (.slice A xs.length c) 67;have z1:(w.alloc (.cells #[.slice A xs.length c] 67)).heap.size=w.heap.size+1:=by simp
 clear hx;replace hx1:=Lib.hid hx1;go_enter Tryz.func108,Tryz.ntmps108
 go_wp2_with fail
 generalize w.alloc (.cells #[.slice A xs.length c] 67)=W1 at *
 have hown:(W1.alloc (.cells M 3)).ownsRow (w.heap.size+1) 3 1 (.slice (some ⟨(w.heap.size+1),0,none⟩) xs.length xs.length) xs.length M.toList :=
  ⟨by simp [hM],.inr ⟨w.heap.size+1,xs.length,M,rfl,Nat.le_refl _,by rw [←z1];exact heap_alloc_new W1 _,Nat.le_refl _,by unfold maxLen;omega,by simp [hM],by rw [Nat.mul_one];exact List.take_of_length_le (by simp [hM])⟩⟩
 have b2:=(RowKit.Below.refl (w.heap.size+1) W1).alloc (Nat.le_of_eq z1.symm) (.cells M 3);replace b1:=Lib.hid b1;go_loopg [10] xs.length (fun k i wr=>∃(K:Nat) (zs:List Value),RowKit.Below (w.heap.size+1) W1 wr∧i=.int .i64 K∧K+k=xs.length∧Hid (Fill K zs)∧wr.ownsRow (w.heap.size+1) 3 1 (.slice (some ⟨(w.heap.size+1),0,none⟩) xs.length xs.length) xs.length zs)
 case atStart=>exact⟨0,_,b2,rfl,by omega,Lib.hid fun j h=>by omega,hown⟩
 case round =>
  obtain⟨K,zs,hbel,rfl,c1,c2,hown⟩:=hrel;have hl:zs.length=xs.length:=by have:=hown.1;omega
  by_cases hK:K<xs.length
  ·have e1:=(World.ownsRow.cellAt hown K (by omega)).trans (List.getElem?_eq_getElem (by omega))
   have e2:=World.ownsRow.frozenAt hown K;have e3:=(World.ownsRow.stored hown K (.int .i64 (K:Nat))).1;have e4:=Lib.hid (c2.out.put (by omega));have e5:=hbel.setCell (p:=⟨(w.heap.size+1),K,none⟩) (Nat.le_refl _) (.int .i64 (K:Nat));replace e3:=Lib.hid e3;replace e5:=Lib.hid e5;clear c2 hown;go_wp2_with fail
   go_roundg (gk-1)
   case measure=>omega
   case rel=>exact⟨K+1,_,e5.out,by go_num,by omega,e4,e3.out⟩
  ·obtain rfl:K=xs.length:=by omega
   have e:=c2.out;rw [←hl]at e;rw [e.fin,hl]at hown;clear c2 e;replace hown:=Lib.hid hown;go_wp2_with fail
   go_loud (refine sort_calls xs _ _ w.heap.size (w.heap.size+1) W1 _ z1 h0 hx1.out k1 (by omega) hbel hown.out _ (Lib.hid fun ix w2 i1 i2 i3=>?_));have n3:=Lib.hid (b1.out.trans (i3.mono (Nat.le_succ _)))
   replace i1:=Lib.hid i1;replace i2:=Lib.hid i2;clear i3;go_wp2_with fail
   exact hR.out ix (.slice (some ⟨w.heap.size+1,0,none⟩) xs.length xs.length) _ i1.out i2.out (fun g o n c e=>by simp only[Value.slice.injEq,Option.some.injEq,Addr.mk.injEq]at e;have:=e.1.1;omega) n3.out
end Go.Proofs.YtncckdaflellnaaGreat.Nam
namespace Go.Proofs.YtncckdaflellnaaGreat.Nam
open Go.RowKit Go.Lib Utf
theorem twice_calls(xs:List ByteArray)(lv:Value)(w:World)(h0:xs.length≤1000000)(hx:RdS w lv xs)(R:Ending→World→Prop)
  (hR:Hid (∀w',Below w.heap.size w w'→R (.returned (.int .i64 (twiS xs))) w')):Calls Tryz.prog 106 #[lv] w R:=by
 obtain⟨A,c,rfl,hlc,-⟩:=hx.open;have hx0:=Lib.hid hx;clear hx;go_enter Tryz.func106,Tryz.ntmps106
 go_wp2_with fail
 refine sorted_calls xs _ _ h0 hx0.out _ (Lib.hid fun ix v1 w1 i1 i2 _ n1=>?_);obtain⟨A1,c1,rfl,hl1,hr1⟩:=i2.open;obtain⟨A2,c2,e2,-,hr2⟩:=(hx0.out.below n1).open;simp only[Value.slice.injEq]at e2;obtain⟨rfl,-,rfl⟩:=e2;have hlen:=i1.len;replace hr1:=Lib.hid hr1;replace hr2:=Lib.hid hr2;replace i1:=Lib.hid i1;replace n1:=Lib.hid n1;clear i2;go_wp2_with fail
 go_loopg [3,13] ix.length (fun k l i wr=>∃(K m nq:Nat),wr=w1.drewN nq∧l=.int .i64 m∧i=.int .i64 K∧K+k=ix.length∧m≤xs.length∧Hid (Least xs ix K m))
 case atStart=>exact⟨0,xs.length,0,rfl,rfl,rfl,by omega,Nat.le_refl _,Lib.hid (Least.start xs ix)⟩
 case round =>
  obtain⟨K,m,nq,rfl,rfl,rfl,d1,d2,d3⟩:=hrel
  by_cases hK:K<ix.length
  ·have hi:=i1.out.lt hK
   have hd:=i1.out.dup hK;obtain⟨g,o,rfl,hg,hca⟩:=hr1.out (by omega);obtain⟨g2,o2,rfl,hg2,hca2⟩:=hr2.out (by omega);have f1:=hca K hK;have f2:=hca2 _ hi;have q1:¬dup xs (ix.getD K 0)→Least xs ix (K+1) m:=fun h=>d3.out.skip h
   have q2:dup xs (ix.getD K 0)→Least xs ix (K+1) (min m (ix.getD K 0)):=fun h=>d3.out.take hi h
   rw [show xs.getD (ix.getD K 0) ByteArray.empty=at_ xs (ix.getD K 0)from rfl]at f2;rcases Nat.eq_zero_or_pos K with hz|hz
   ·subst hz
    have q:=Lib.hid (q1 (fun h=>by have:=(hd.1 h).1;omega))
    rw [Nat.add_zero]at f1;clear hd q1 q2 hca hca2 d3;generalize at_ xs (ix.getD 0 0)=s at *;generalize ix.getD 0 0=i at *;go_wp2_with fail
    go_quiet (fail);go_wp2_with fail
    go_roundg (gk-1)
    case measure=>omega
    case rel=>exact⟨1,m,_,rfl,rfl,rfl,by omega,d2,q⟩
   ·obtain⟨J,rfl⟩:∃J,K=J+1:=⟨K-1,by omega⟩
    rw [Nat.add_sub_cancel]at hd;have hj:=i1.out.lt (show J<ix.length by omega);have f3:=hca J (by omega);have f4:=hca2 _ hj;rw [show xs.getD (ix.getD J 0) ByteArray.empty=at_ xs (ix.getD J 0)from rfl]at f4;have hm1:((J+1:Nat):Int)-1=(J:Int):=by omega
    clear hca hca2 d3;generalize at_ xs (ix.getD (J+1) 0)=s at *;generalize at_ xs (ix.getD J 0)=s' at *;generalize ix.getD (J+1) 0=i at *;generalize ix.getD J 0=i' at *
    by_cases hs:s'=s
    ·have q:=Lib.hid (q2 (hd.2 ⟨hz,hs⟩))
     have hq:=seq_t hs;clear hd q1 q2 hs
     by_cases hm:i<m
     ·rw [Nat.min_eq_right (Nat.le_of_lt hm)]at q
      have hmn:min (m:Int) (i:Int)=(i:Int):=by omega
      go_wp2_with fail
      go_quiet (fail);go_wp2_with fail
      go_roundg (gk-1)
      case measure=>omega
      case rel=>exact⟨J+1+1,i,_,rfl,rfl,by go_num,by omega,Nat.le_of_lt hi,q⟩
     ·rw [Nat.min_eq_left (by omega)]at q
      have hmn:min (m:Int) (i:Int)=(m:Int):=by omega
      go_wp2_with fail
      go_quiet (fail);go_wp2_with fail
      go_roundg (gk-1)
      case measure=>omega
      case rel=>exact⟨J+1+1,m,_,rfl,rfl,by go_num,by omega,d2,q⟩
    ·have q:=Lib.hid (q1 (fun h=>hs (hd.1 h).2))
     have hq:=seq_f hs;clear hd q1 q2 hs;go_wp2_with fail
     go_quiet (fail);go_wp2_with fail
     go_roundg (gk-1)
     case measure=>omega
     case rel=>exact⟨J+1+1,m,_,rfl,rfl,by go_num,by omega,d2,q⟩
  ·obtain rfl:K=ix.length:=by omega
   have e:=(d3.out.fin i1.out).2;rw [e]at hR;clear d3 e
   by_cases hm:m=xs.length
   ·rw [if_pos hm]at hR
    subst hm;go_wp2_with fail
    exact hR.out _ (below_drewN n1.out _)
   ·rw [if_neg hm]at hR
    have hb:((m:Int)==(xs.length:Int))=false:=by simp;omega
    go_wp2_with fail
    exact hR.out _ (below_drewN n1.out _)
theorem infoStr:(Tryz.prog.info? 9).map (fun i=>(i.zero,i.size,i.bytes))=some (some (.string ByteArray.empty),1,16):=by kernel_rfl
theorem sv_at(A B:List ByteArray)(x:ByteArray):(sv (A++x::B))[A.length]?=some (.string x):=by simp [sv]
end Go.Proofs.YtncckdaflellnaaGreat.Nam
namespace Go.Proofs.YtncckdaflellnaaGreat.Lat
open Go.RowKit Go.Lib Rel Nam
theorem mk_str(n:Nat)(hn:n≤1000000):∃M:Array Value,M.toList=sv (List.replicate n ByteArray.empty) ∧
  ∀w,(Instr.makeSlice 67 (.int .i64 n) (.int .i64 n)).run Tryz.prog w=.ok (.slice (some ⟨w.heap.size,0,none⟩) n n) (w.alloc (.cells M 9)):=by
 obtain⟨i0,hi,hz0,hz1,hz2⟩:=info_parts infoStr;refine⟨madeCells (#[.string ByteArray.empty]) (n*1),by rw [toList_madeCells_one,Nat.mul_one];simp [sv],fun w=>?_⟩;have:=run_make (P:=Tryz.prog) w 67 9 i0 _ Tryz.underlying67 hi hz0 .i64 .i64 n n (by omega) (Int.le_refl _) (by rw [hz2];omega) (by omega)
 rw [hz1]at this;exact this
theorem sv_put(l:List ByteArray)(i:Nat)(s:ByteArray):(sv l).set i (.string s)=sv (l.set i s):=by simp [sv,List.map_set]
abbrev OwnS(w:World)(base B n:Nat)(l:List ByteArray):Prop:=w.ownsRow base 9 1 (.slice (some ⟨B,0,none⟩) n n) n (sv l)
theorem OwnS.put{w:World}{base B n:Nat}{l:List ByteArray}(ow:OwnS w base B n l)(i:Nat)(s:ByteArray):OwnS (w.setCell ⟨B,i,none⟩ (.string s)) base B n (l.set i s)∧w.grownBy (w.setCell ⟨B,i,none⟩ (.string s)) (some B):=by
 obtain⟨h1,h2⟩:=World.ownsRow.stored ow i (.string s);rw [sv_put]at h1;exact⟨h1,h2⟩
def NmsW(ws:List Wr)(K:Nat)(l:List ByteArray):Prop:=l.length=ws.length∧∀j,j<K→l[j]?=(nms ws)[j]?
theorem NmsW.put{ws:List Wr}{K:Nat}{l:List ByteArray}(h:NmsW ws K l)(hK:K<ws.length):NmsW ws (K+1) (l.set K (wN ws K).1):=by
 refine⟨by rw [List.length_set];exact h.1,fun j hj=>?_⟩
 rcases Nat.eq_or_lt_of_le (Nat.le_of_lt_succ hj)with e|q
 ·subst e;rw [nms_get hK,List.getElem?_set_self (by rw [h.1];exact hK)]
 ·rw [List.getElem?_set_ne (by omega)];exact h.2 j q
theorem NmsW.fin{ws:List Wr}{l:List ByteArray}(h:NmsW ws ws.length l):l=nms ws:=by
 refine List.ext_getElem? fun j=>?_
 by_cases hj:j<ws.length
 ·exact h.2 j hj
 ·rw [List.getElem?_eq_none (by rw [h.1];omega),List.getElem?_eq_none (by rw [nms_len];omega)]
theorem latnamesof_calls(ws:List Wr)(vw:Value)(w:World)(hw:RdW w vw ws)(hl:ws.length≤1000000)(R:Ending→World→Prop)
  (hR:Hid (∀w',OwnS w' w.heap.size w.heap.size ws.length (nms ws)→Below w.heap.size w w'→R (.returned (.slice (some ⟨w.heap.size,0,none⟩) ws.length ws.length)) w')):Calls Tryz.prog 97 #[vw] w R:=by
 obtain⟨Aw,cw,rfl,hcw,hrw⟩:=hw.op;obtain⟨M,hM,hmk⟩:=mk_str ws.length (by omega);have oA:=own_made (n:=ws.length) (w:=w) (t:=9) hM (by simp [sv]) (by unfold maxLen;omega)
 have nb1:=(Below.refl w.heap.size w).alloc (Nat.le_refl _) (.cells M 9);replace hrw:=Lib.hid hrw;replace oA:=Lib.hid oA;replace nb1:=Lib.hid nb1;clear hw hM;go_enter Tryz.func97,Tryz.ntmps97
 go_wp2_with fail
 go_loopg [11] ws.length (fun g i wr=>∃(K:Nat) (l:List ByteArray),i=.int .i64 K∧K+g=ws.length∧Hid (Below w.heap.size w wr)∧Hid (OwnS wr w.heap.size w.heap.size ws.length l)∧Hid (NmsW ws K l))
 case atStart=>exact⟨0,_,rfl,by omega,nb1,oA,Lib.hid ⟨by simp,fun j h=>by omega⟩⟩
 case round =>
  obtain⟨K,l,rfl,c1,nb,ow,hs⟩:=hrel;clear oA nb1;have hsz:=nb.out.size
  by_cases hK:K<ws.length
  ·obtain⟨g,o,rfl,hg,hca⟩:=hrw.out (by omega)
   obtain⟨x0,x1⟩:=hca K hK;have e0:=(nb.out.cell (p:=⟨g,o+K*2,none⟩) hg).trans x0;have e1:=(nb.out.cell (p:=⟨g,o+K*2+1,none⟩) hg).trans x1;have hs2:=Lib.hid (hs.out.put hK);clear hca x0 x1 hs;generalize(wN ws K).1=s at *;generalize(wN ws K).2=z at *;have hi0:(0:Int)≤(K:Int):=by omega
   have hi1:(K:Int)<(ws.length:Int):=by omega
   have r2:=World.ownsRow.frozenAt ow.out K
   have r3:∃u,wr.cell? ⟨w.heap.size,K,none⟩=some u:=by
    have:=World.ownsRow.cellAt ow.out K (by omega);have hl2:=ow.out.1;exact⟨(sv l)[K]'(by omega),by rw [this,List.getElem?_eq_getElem]⟩
   obtain⟨u,r3⟩:=r3;have bA:=(Below.refl wr.heap.size wr).alloc (Nat.le_refl _) (.cells #[.string s,.int .i64 z] 27)
   have hH:w.heap.size<wr.heap.size:=by
    obtain⟨g',c',e',-,hg',-⟩:=own_at ow.out (show 0<ws.length by omega);simp only[Value.slice.injEq,Option.some.injEq,Addr.mk.injEq]at e';rw [e'.1.1];exact hg'
   have r4:=(bA.frozen (p:=⟨w.heap.size,K,none⟩) hH).trans r2;have r5:=(bA.cell (p:=⟨w.heap.size,K,none⟩) hH).trans r3;replace bA:=Lib.hid bA;obtain⟨o3,g3⟩:=OwnS.put ow.out K s;have n3:=nb.out.trans (below_of_grown g3 (Nat.le_refl _) hsz);have o4:=Lib.hid (own_below o3 ((Below.refl _ _).alloc (Nat.le_refl _) (.cells #[.string s,.int .i64 z] 27)));have n4:=Lib.hid (n3.alloc n3.size (.cells #[.string s,.int .i64 z] 27));clear o3 g3 n3;go_wp2_with fail
   go_roundg (gk-1)
   case measure=>omega
   case rel=>exact⟨K+1,_,by go_num,by omega,n4,o4,hs2⟩
  ·obtain rfl:K=ws.length:=by omega
   obtain rfl:=hs.out.fin;have fin:=Lib.hid (hR.out _ ow.out nb.out);clear ow nb hs;go_wp2_with fail
   exact fin.out
theorem nms_at{ws:List Wr}{i:Nat}(h:i<ws.length):(nms ws).getD i ByteArray.empty=(wN ws i).1:=by rw [List.getD,nms_get h];rfl
theorem find_take{l:List ByteArray}{i:Nat}(hi:i<l.length):findS l (l.getD i ByteArray.empty)<(i:Int)↔l.getD i ByteArray.empty∈l.take i:=by
 have hg:l[i]?=some (l.getD i ByteArray.empty):=by rw [List.getD,List.getElem?_eq_getElem hi];rfl
 generalize l.getD i ByteArray.empty=s at *;rcases find_cases l s with⟨-,h⟩|⟨k,h1,h2,h3,h4⟩
 ·exact absurd (List.mem_of_getElem? hg) h
 ·rw [h4]
  constructor
  ·intro h
   refine List.mem_of_getElem? (i:=k) ?_;rw [List.getElem?_take_of_lt (by omega)];exact h2
  ·intro h
   obtain⟨j,hj,e⟩:=List.getElem_of_mem h;rw [List.length_take]at hj
   have:l[j]?=some s:=by
    rw [←e,List.getElem_take,List.getElem?_eq_getElem (by omega)]
   have:¬j<k:=fun q=>h3 j q this
   omega
theorem twi_at{ws:List Wr}{i:Nat}(hi:i<ws.length)(hp:∀j,j<i→lvAt ws j=none):(twiS (nms ws)=i)↔findS (nms ws) (wN ws i).1<(i:Int):=by
 have hno:∀j,j<i→(nms ws).getD j ByteArray.empty ∉ (nms ws).take j:=fun j hj hm=>by
  have h1:=(find_take (by rw [nms_len];omega)).2 hm
  rw [nms_at (by omega)]at h1;have h2:=hp j hj;unfold lvAt at h2
  split at h2
  ·cases h2
  ·cases h2
 rw [←nms_at hi,find_take (by rw [nms_len];exact hi)]
 constructor
 ·intro h
  rcases twi_cases (nms ws)with⟨q,-⟩|⟨m,-,q1,-,q2⟩
  ·omega
  ·obtain rfl:m=i:=by omega
   exact q1
 ·intro h
  exact twi_is (by rw [nms_len];exact hi) h hno
def chkS(ws:List Wr):Int×Int:=(firF (lvAt ws) ws.length 0).getD (0,0)
theorem latchecknames_calls(ws:List Wr)(vw vl:Value)(w:World)(hw:RdW w vw ws)(hx:RdS w vl (nms ws))(hgw:∀x∈ws,GoodW x)(hl:ws.length≤1000000)(R:Ending→World→Prop)
  (hR:Hid (∀w',Below w.heap.size w w'→R (.returned (.agg #[.int .i64 (chkS ws).1,.int .i64 (chkS ws).2])) w')):Calls Tryz.prog 98 #[vw,vl] w R:=by
 obtain⟨Aw,cw,rfl,hcw,hrw⟩:=hw.op;have T:=Flt.new w;have cT:=Lib.hid fun(W:World) (hb:Below w.heap.size w W) R hR=>twice_calls (nms ws) vl W (by rw [nms_len];exact hl) (hx.below hb) R hR
 have cR:=Lib.hid fun(W:World) s hs R hR=>right_calls s hs W R hR
 have hgood:=Lib.hid fun i (h:i<ws.length)=>(hgw _ (wN_mem h)).1
 obtain⟨Al,cl,rfl,hcl,hrl⟩:=hx.open;rw [nms_len]at *;replace hrw:=Lib.hid hrw;replace hrl:=Lib.hid hrl;have z0:w.heap.size<(w.alloc (.cells #[.int .i64 0,.int .i64 0] 34)).heap.size:=by simp
 clear hw hx hgw;go_enter Tryz.func98,Tryz.ntmps98
 go_upto_region 1 with fail
 generalize w.alloc (.cells #[.int .i64 0,.int .i64 0] 34)=W0 at *;replace T:=Lib.hid T;go_wp2_with fail
 refine cT.out W0 T.out.nb _ (Lib.hid fun w1 n1=>?_);have T1:=Lib.hid (T.out.below n1);clear T n1 z0;go_wp2_with fail
 go_loopg [12] ws.length (fun g i wr=>∃(K:Nat),i=.int .i64 K∧K+g=ws.length∧wr=w1∧Hid (∀j,j<K→lvAt ws j=none))
 case atStart=>exact⟨0,rfl,by omega,rfl,Lib.hid fun j h=>by omega⟩
 case round =>
  obtain⟨K,rfl,c1,rfl,hs⟩:=hrel;generalize hHH:w.heap.size=H at *
  by_cases hK:K<ws.length
  ·obtain⟨g,o,rfl,hg,hca⟩:=hrw.out (by omega)
   obtain⟨g2,o2,rfl,hg2,hca2⟩:=hrl.out (by omega);obtain⟨x0,x1⟩:=hca K hK;have x2:=hca2 K hK;rw [nms_at hK]at x2;have hHl:Hid (w.heap.size=H):=Lib.hid hHH;have e0:=(T1.out.nb.cell (p:=⟨g,o+K*2,none⟩) (by simp only;omega)).trans x0
   have e1:=(T1.out.nb.cell (p:=⟨g,o+K*2+1,none⟩) (by simp only;omega)).trans x1
   have e2:=(T1.out.nb.cell (p:=⟨g2,o2+K,none⟩) (by simp only;omega)).trans x2
   have hgs:=hgood.out K hK;have htw:=twi_at hK hs.out;have hlv:lvAt ws K=if rightS (wN ws K).1=false then some (9,(wN ws K).2)else if findS (nms ws) (wN ws K).1<(K:Int)then some (10,(wN ws K).2)else none:=rfl
   have hfir:∀f,lvAt ws K=some f→chkS ws=f:=fun f hf=>by
    unfold chkS;rw [fir_is ws.length 0 K (Nat.zero_le _) (by omega) hf (fun j _ hj=>hs.out j hj)];rfl
   have hnx:lvAt ws K=none→∀j,j<K+1→lvAt ws j=none:=fun h j hj=>by
    rcases Nat.eq_or_lt_of_le (Nat.le_of_lt_succ hj)with e|q
    ·subst e;exact h
    ·exact hs.out j q
   have hi0:(0:Int)≤(K:Int):=by omega
   have hi1:(K:Int)<(ws.length:Int):=by omega
   clear hca hca2 x0 x1 x2 hHH hs;generalize(wN ws K).1=s at *;generalize(wN ws K).2=z at *;generalize twiS (nms ws)=t at *;generalize lvAt ws K=V at *;cases hr:rightS s
   ·rw [if_pos hr]at hlv
    have e:=hfir _ hlv;rw [e]at hR;have cR2:=cR.out wr s hgs;rw [hr]at cR2;replace cR2:=Lib.hid cR2;clear hlv hfir hnx htw hr e;go_wp2_with fail
    refine cR2.out _ (Lib.hid ?_);go_wp2_with fail
    refine faultat_calls s z 9 _ _ (Lib.hid fun w3 n3=>?_);have T3:=T1.out.below n3;obtain⟨nf,s0,s1⟩:=T3.told (.int .i64 9) (.int .i64 z);have c0:=T3.c0;have c1:=T3.c1;have f0:=T3.f0;have f1:=T3.f1;replace nf:=Lib.hid nf;replace s0:=Lib.hid s0;replace s1:=Lib.hid s1;clear T3 n3 e0 e1 e2;go_wp2_with fail
    replace s0:=s0.out;replace s1:=s1.out;clear c0 c1 f0 f1;generalize(w3.setCell ⟨H,0,none⟩ _).setCell ⟨H,1,none⟩ _=Wz at *;refine bodyPost_ret ?_ rfl (hR.out _ nf.out);simp [results,Tryz.results98,go_sem,s0,s1]
   ·rw [if_neg (by rw [hr];simp)]at hlv
    have cR2:=cR.out wr s hgs;rw [hr]at cR2;replace cR2:=Lib.hid cR2
    by_cases ht:t=K
    ·rw [if_pos (htw.1 ht)]at hlv
     have e:=hfir _ hlv;rw [e]at hR;have q0:(((K:Nat):Int)==t)=true:=by rw [ht];simp
     clear hlv hfir hnx htw hr e ht;replace q0:=Lib.hid q0;go_wp2_with fail
     refine cR2.out _ (Lib.hid ?_);replace q0:=q0.out;go_wp2_with fail
     refine faultat_calls s z 10 _ _ (Lib.hid fun w3 n3=>?_);have T3:=T1.out.below n3;obtain⟨nf,s0,s1⟩:=T3.told (.int .i64 10) (.int .i64 z);have c0:=T3.c0;have c1:=T3.c1;have f0:=T3.f0;have f1:=T3.f1;replace nf:=Lib.hid nf;replace s0:=Lib.hid s0;replace s1:=Lib.hid s1;clear T3 n3 e0 e1 e2;go_wp2_with fail
     replace s0:=s0.out;replace s1:=s1.out;clear c0 c1 f0 f1;generalize(w3.setCell ⟨H,0,none⟩ _).setCell ⟨H,1,none⟩ _=Wz at *;refine bodyPost_ret ?_ rfl (hR.out _ nf.out);simp [results,Tryz.results98,go_sem,s0,s1]
    ·rw [if_neg (fun q=>ht (htw.2 q))]at hlv
     have e:=Lib.hid (hnx hlv);have q0:(((K:Nat):Int)==t)=false:=by simp;omega
     clear hlv hfir hnx htw hr ht;replace q0:=Lib.hid q0;go_wp2_with fail
     refine cR2.out _ (Lib.hid ?_);replace q0:=q0.out;go_wp2_with fail
     go_roundg (gk-1)
     case measure=>omega
     case rel=>exact⟨K+1,by go_num,by omega,rfl,e⟩
  ·have e:chkS ws=(0,0):=by
    unfold chkS;rw [fir_no ws.length 0 (fun j _ hj=>hs.out j (by omega))];rfl
   rw [e]at hR;obtain⟨nf,s0,s1⟩:=T1.out.told (.int .i64 0) (.int .i64 0);have c0:=T1.out.c0;have c1:=T1.out.c1;have f0:=T1.out.f0;have f1:=T1.out.f1;replace nf:=Lib.hid nf;replace s0:=Lib.hid s0;replace s1:=Lib.hid s1;replace hHH:=Lib.hid hHH;clear e hs;go_wp2_with fail
   replace s0:=s0.out;replace s1:=s1.out;clear c0 c1 f0 f1;generalize(wr.setCell ⟨H,0,none⟩ _).setCell ⟨H,1,none⟩ _=Wz at *;refine bodyPost_ret ?_ rfl (hR.out _ nf.out);simp [results,Tryz.results98,go_sem,s0,s1]
end Go.Proofs.YtncckdaflellnaaGreat.Lat
