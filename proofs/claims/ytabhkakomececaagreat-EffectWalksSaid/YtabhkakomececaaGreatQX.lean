import Derived.Test.YtabhkakomececaaGreatProg
import Derived.WalkKit
import Derived.WalkSpells
import Derived.WalkLawsBesides
import Derived.Lib.Hide
import Derived.Deep.QuietTactic
import Derived.BigQuiet
import Derived.Deep.LoopGhost
import Derived.Deep.RegionHeld3
import Derived.Deep.RegionWith
import Derived.Deep.DeepMust
import Derived.Lib.Bytes
import Derived.Maps.AppendAt
import Derived.OpenShut
import Derived.Deep.MidRow
import Derived.Laws.BytesArg
import GoSem.Op.String
import Derived.Deep.Slices
import Derived.ProofKit
import Derived.Test.YtabhkakomececaaGreatQ0
import Derived.Test.YtabhkakomececaaGreatQ8
import Derived.Test.YtabhkakomececaaGreatQ21
import Derived.Shelf.SlSortCmp.NoneTotal
import Derived.Shelf.SlicesE.Clone
import Derived.Test.YtabhkakomececaaGreatQ29
import Derived.Test.YtabhkakomececaaGreatQ30
import Derived.Test.YtabhkakomececaaGreatQ31
import Derived.Laws.CopyOwn
import Derived.Test.YtabhkakomececaaGreatQ32
import Derived.ChangeArms
import Derived.Laws.StructEq
import Derived.Test.YtabhkakomececaaGreatQ34
import Derived.Test.YtabhkakomececaaGreatQ39
import Derived.Test.YtabhkakomececaaGreatQ40
set_option linter.all false
set_option maxRecDepth 100000
set_option maxHeartbeats 4000000
namespace Go.Proofs.YtabhkakomececaaGreat
open Go.RowKit Go.Lib
section
variable {R:Ending→World→Prop} {w:World}
end
variable {o:Option Nat} {w V W:World} {l:List (Nat×Obj)}
section
variable {S:Type} {F:Fm S} {s0 s s':S} {w V W:World} {l:List (Nat×Obj)}
end
end Go.Proofs.YtabhkakomececaaGreat
namespace Go.Proofs.YtabhkakomececaaGreat.Utf
open Go.Lib
end Go.Proofs.YtabhkakomececaaGreat.Utf
namespace Go.Proofs.YtabhkakomececaaGreat.Nam
open Go.Lib Utf
end Go.Proofs.YtabhkakomececaaGreat.Nam
namespace Go.Proofs.YtabhkakomececaaGreat.Lat
open Nam
end Go.Proofs.YtabhkakomececaaGreat.Lat
namespace Go.Proofs.YtabhkakomececaaGreat
open Go.RowKit Go.Lib Go.ChangeShapes Go.WideShapes Go.Deep
section
variable {α:Type} {enc:α→List Value} {k:Nat}
theorem arg_flat[Inhabited α]{H:Type}{enc':TypeId×Value→H}{P:Program}{W:World}{base bs:Nat}{t e:TypeId}{v:Value}{d:DataW H}{p:List MemPlace}(hk:∀x,(enc x).length=k)(h0:0<k)(Good:α→Prop)
  (ht:P.underlying t=some (.slice e)) (ce:P.cellsOf e=k) (hv:Value.okWide P W .any base t v) (h:DataW.Trod enc' P W bs (fun _=>true) true t v d p)
  (elem:∀(n:Nat) (cs:List Value) (x:DataW H×List MemPlace),DataW.trod enc' P W bs (fun _=>true) true n e cs=some x→cs.length=k→∃a:α,cs=enc a∧Good a) :
  ∃xs:List α,RdG enc k W v xs∧(∀x∈xs,Good x)∧(xs=[]∨∃es sp,d=.slice es sp∧es.length=xs.length):=by
 obtain⟨a,len,cap,rfl⟩:=okWide_slice ht hv;obtain⟨fuel,hf⟩:=h;rcases open_slice ht hf with⟨hcs,hx⟩|⟨a',len',cap',m,n,D,Pl,hcs,hb,hl,hm,hmm,hx,hi⟩
 ·simp [Value.cells]at hcs
  obtain⟨rfl,rfl,rfl⟩:=hcs;exact⟨[],RdG.none0 _ _ _,by simp,.inl rfl⟩
 ·simp [Value.cells]at hcs
  obtain⟨rfl,rfl,rfl⟩:=hcs;simp only[if_true]at hmm;subst hmm
  have key:∀i,∃x:α,i<m→Good x∧∀j,j<k→W.cell? (a'.add (i*k+j))=(enc x)[j]?:=by
   intro i
   by_cases hlt:i<m
   ·obtain⟨cs',h1,h2⟩:=hi i hlt
    rw [ce]at h1;obtain⟨-,hlen,hcell⟩:=World.cells?_some h1;obtain⟨x,rfl,hg⟩:=elem _ _ _ h2 hlen;refine⟨x,fun _=>⟨hg,fun j hj=>?_⟩⟩;have:=hcell j hj;rw [add_add]at this;exact this
   ·exact⟨default,fun h=>absurd h hlt⟩
  let G:Nat→α:=fun i=>(key i).choose
  have hG:∀i,i<m→Good (G i)∧∀j,j<k→W.cell? (a'.add (i*k+j))=(enc (G i))[j]?:=fun i h=>(key i).choose_spec h
  have hxs:((List.range len).map G).length=len:=by simp
  refine⟨(List.range len).map G,?_,?_,?_⟩
  ·refine⟨some a',len,m,rfl,by rw [flatG_len hk,hxs],hl,fun hp=>?_⟩
   rw [flatG_len hk,hxs]at hp;have hlen0:0<len:=Nat.pos_of_mul_pos_right hp;have hc:=(hG 0 (by omega)).2 0 h0;have hs:0<(enc (G 0)).length:=by rw [hk];exact h0
   rw [List.getElem?_eq_getElem hs]at hc;obtain⟨b,off,spot⟩:=a';have hspot:spot=none:=by simpa [Addr.add]using World.cell?_spot hc
   subst hspot;have ad:∀j,(⟨b,off,none⟩:Addr).add j=⟨b,off+j,none⟩:=fun j=>by unfold Addr.add;split<;>simp_all
   refine⟨b,off,rfl,by have:=World.block_lt_of_cell? W _ hc;rw [ad]at this;exact this,fun j u hj=>?_⟩
   have hj2:j<len*k:=by have:=(List.getElem?_eq_some_iff.1 hj).1;rwa [flatG_len hk,hxs]at this
   have hd:j/k<len:=Nat.div_lt_of_lt_mul (by rw [Nat.mul_comm];exact hj2)
   have hmod:j%k<k:=Nat.mod_lt _ h0;have ej:j/k*k+j%k=j:=by rw [Nat.mul_comm];exact Nat.div_add_mod j k
   have f:=flatG_get hk ((List.range len).map G) (j/k) (j%k) (by rw [hxs];exact hd) hmod
   rw [ej,hj]at f;have c:=(hG (j/k) (by omega)).2 (j%k) hmod;rw [ad,ej]at c;rw [c,f];simp
  ·intro x hx
   obtain⟨i,hi,rfl⟩:=List.mem_map.1 hx;exact(hG i (by have:=List.mem_range.1 hi;omega)).1
  ·simp only[Prod.mk.injEq]at hx
   exact .inr ⟨_,_,hx.1,by simp⟩
end
end Go.Proofs.YtabhkakomececaaGreat
set_option linter.all false
set_option maxRecDepth 100000
set_option maxHeartbeats 4000000
namespace Go.Proofs.YtabhkakomececaaGreat
namespace Dig
open Go.Lib Utf
end Dig
namespace Pat
open Go.Lib Utf Nam Dig
theorem right_cases{x:St}(h:RightSt x):(∃nm,x=(1,0,nm)∧rightS nm=true)∨(∃n,x=(2,n,⟨#[]⟩)∧0≤n)∨x=(3,0,⟨#[]⟩)∨x=(4,0,⟨#[]⟩)∨(∃nm,x=(5,0,nm)∧rightS nm=true):=by
 obtain⟨k,n,nm⟩:=x;obtain⟨h1,h2,h3,h4,h5,h6⟩:=h;unfold Named at h3 h4;simp only at h1 h2 h3 h4 h5 h6;have hk:k=1∨k=2∨k=3∨k=4∨k=5:=by omega
 rcases hk with rfl|rfl|rfl|rfl|rfl
 ·exact .inl ⟨nm,by rw [h5 (by decide)],h4 (.inl rfl)⟩
 ·exact .inr (.inl ⟨n,by rw [size0 (a:=nm) (by omega)],h6⟩)
 ·exact .inr (.inr (.inl (by rw [h5 (by decide),size0 (a:=nm) (by omega)])))
 ·exact .inr (.inr (.inr (.inl (by rw [h5 (by decide),size0 (a:=nm) (by omega)]))))
 ·exact .inr (.inr (.inr (.inr ⟨nm,by rw [h5 (by decide)],h4 (.inr rfl)⟩)))
end Pat
namespace Lab
open Utf Rel Nam Lat Pat
section
variable {n:Nat} {F:Nat→Nat→Bool}
end
end Lab
namespace Lab
open Go.RowKit Go.Lib Rel Nam Lat Go.ChangeShapes Go.WideShapes
end Lab
end Go.Proofs.YtabhkakomececaaGreat
set_option linter.all false
set_option maxRecDepth 100000
set_option maxHeartbeats 4000000
namespace Go.Proofs.YtabhkakomececaaGreat
open Go.Shelf
end Go.Proofs.YtabhkakomececaaGreat
namespace Go.Proofs.YtabhkakomececaaGreat.Res
open Go.RowKit Go.Lib Utf Nam Lat Kin Unp Rel Lab
theorem plennil_calls(w:World)(R:Ending→World→Prop)(hR:Hid (R (.returned (.int .i64 0)) w)):Calls Tryz.prog 24 #[.pointer none] w R:=by
 go_enter Tryz.func24,Tryz.ntmps24
 go_wp2_with fail
 exact hR.out
end Go.Proofs.YtabhkakomececaaGreat.Res
namespace Go.Proofs.YtabhkakomececaaGreat.Inh
open Res
end Go.Proofs.YtabhkakomececaaGreat.Inh
set_option linter.all false
set_option maxRecDepth 100000
set_option maxHeartbeats 4000000
namespace Go.Proofs.YtabhkakomececaaGreat.Eff
open Res Kin Unp Rel Lab Inh Lat
section
variable (ns:List NdR) (F:Nat→Nat→Bool)
end
end Go.Proofs.YtabhkakomececaaGreat.Eff
namespace Go.Proofs.YtabhkakomececaaGreat.Res
open Go.RowKit Go.Lib Utf Nam Lat Kin Unp Rel Lab Inh
theorem nodup_of{ns:List ByteArray}(h:∀j,j<ns.length→listedS ns j=0):ns.Nodup:=by
 rw [List.Nodup,List.pairwise_iff_getElem];intro i j hi hj hij e;have q:=h j hj;unfold listedS at q;have ej:ns.getD j ByteArray.empty=ns[j]:=by rw [List.getD_eq_getElem?_getD,List.getElem?_eq_getElem hj];rfl
 split at q
 ·cases q
 ·rw [ej,←e]at q
  rw [if_pos (List.mem_iff_getElem.2 ⟨i,by rw [List.length_take];omega,List.getElem_take⟩)]at q
  cases q
theorem dsB_ok{h:TH}{k:Ft}(ih:FineD k){d m:Nat}(e:(wrB h k (wcF k) d m).1=0):dsT h k:=by
 obtain⟨h1,h2,h3,h4,h5,h6⟩:=wrB_okH e;have hk:=h1.1;have hk9:=h1.2.1
 by_cases c:h.kind=5∨h.kind=6
 ·rw [h4 c]at e
  have ho:=h1.2.2.2.2.2.2.2.2.1 c;exact⟨fun q=>by omega,ih.2 _ _ ho e⟩
 ·by_cases c2:h.kind=7∨h.kind=8
  ·rw [h5 c2]at e
   obtain⟨a,b⟩:=ih.1 h.kind _ 0 _ _ c2 (by simp) e;exact⟨fun _=>nodup_of fun j hj=>b j (Nat.zero_le _) hj,a⟩
  ·have hl:k.len=0:=by
    have:=h1.2.2.1;unfold ownB at this;simp only[decide_eq_true_eq]at this;rcases this.2.2.2.1 with q|q
    ·omega
    ·exact q
   obtain rfl:=Fo.len_zero hl;exact⟨fun q=>absurd q c2,trivial⟩
theorem fineD:∀f:Ft,FineD f
| .nil=>⟨fun K ns i d m _ hn _=>⟨trivial,fun j hij hj=>by
  have:=congrArg List.length hn;rw [List.length_drop]at this;have z:(nms (pnm (.nil:Ft))).length=0:=rfl;omega⟩,fun d m h _=>by cases h⟩
| .cons p h k r=>by
 have ik:=fineD k;have ir:=fineD r;refine⟨fun K ns i d m hK hn e=>?_,fun d m ho e=>?_⟩
 ·have hn2:nms (pnm r)=ns.drop (i+1):=by
   rw [←List.drop_drop,←hn]<;>rfl
  unfold wcF at e
  by_cases c1:listedS ns i≠0
  ·rw [if_pos c1]at e;exact absurd e c1
  rw [if_neg c1]at e;have l1:listedS ns i=0:=by simpa using c1
  have rest:(∀j,i+1≤j→j<ns.length→listedS ns j=0)→∀j,i≤j→j<ns.length→listedS ns j=0:=fun g j hij hj=>by
   rcases Nat.eq_or_lt_of_le hij with q|q
   ·exact q▸l1
   ·exact g j q hj
  rcases(Bool.eq_false_or_eq_true p.bare).symm with hb|hb
  ·rw [if_neg (by rw [hb];decide)]at e
   by_cases c2:p.wide<0∨64<p.wide
   ·rw [if_pos c2]at e;cases e
   rw [if_neg c2]at e
   by_cases c3:(labelC p.label).1≠0
   ·rw [if_pos c3]at e;exact absurd e c3
   rw [if_neg c3]at e
   by_cases c4:(coarC p).1≠0
   ·rw [if_pos c4]at e;exact absurd e c4
   rw [if_neg c4]at e
   by_cases c5:(wrB h k (wcF k) d m).1≠0
   ·rw [if_pos c5]at e;exact absurd e c5
   rw [if_neg c5]at e;have a1:=dsB_ok ik (by simpa using c5);obtain⟨b1,b2⟩:=ir.1 K ns (i+1) d _ hK hn2 e;exact⟨⟨fun _=>a1,b1⟩,rest b2⟩
  ·rw [if_pos hb]at e
   by_cases c2:K=7∨zeroB h k=false∨plainB p bPH=false
   ·rw [if_pos c2]at e;cases e
   rw [if_neg c2]at e;obtain⟨b1,b2⟩:=ir.1 K ns (i+1) d _ hK hn2 e;exact⟨⟨fun q=>absurd hb (by rw [q];decide),b1⟩,rest b2⟩
 ·obtain⟨p',x',k',e1,-,-,hb⟩:=only_cons ho
  simp only[Fo.cons.injEq]at e1;obtain⟨rfl,rfl,rfl,rfl⟩:=e1;unfold wcF at e;exact⟨fun _=>dsB_ok ik e,trivial⟩
theorem kinds_ds{s:BS}{h:TH}{f:Ft}(e:(kindsS s h f).1.1=0):dsT h f:=by
 unfold kindsS at e
 by_cases c:(wcS h f).1≠0
 ·rw [if_pos c]at e;exact absurd e c
 ·exact dsB_ok (fineD f) (Classical.not_not.1 c)
theorem each_ds:∀(l:List Nd)(s:BS){h:TH}{f:Ft},(eachS kindsS s l h f).1.1=0→(∀x∈l,dsT x.2.1 x.2.2)∧dsT h f
| [],s,h,f,e=>⟨by simp,kinds_ds e⟩
| x::l,s,h,f,e=>by
 have e':(if(kindsS s x.2.1 x.2.2).1.1≠0 then kindsS s x.2.1 x.2.2 else eachS kindsS (kindsS s x.2.1 x.2.2).2 l h f).1.1=0:=e
 by_cases c:(kindsS s x.2.1 x.2.2).1.1≠0
 ·rw [if_pos c]at e';exact absurd e' c
 ·rw [if_neg c]at e'
  obtain⟨h1,h2⟩:=each_ds l _ e';refine⟨fun y hy=>?_,h2⟩;rcases List.mem_cons.1 hy with rfl|hy
  ·exact kinds_ds (s:=s) (by simpa using c)
  ·exact h1 y hy
theorem bld_ds{s:Sc}(h:(bldS s).1=0):(∀x∈s.2.2.1,dsT x.2.1 x.2.2)∧dsT s.2.2.2.1 s.2.2.2.2:=by
 unfold bldS at h
 by_cases c1:(wrongS s.1 s.2.1).1≠0
 ·rw [if_pos c1]at h;exact absurd h c1
 rw [if_neg c1]at h
 by_cases c2:(nmC s.2.2.1).1≠0
 ·rw [if_pos c2]at h;exact absurd h c2
 rw [if_neg c2]at h;exact each_ds _ _ (chk_kinds h)
theorem DsL.set{l:List NdR}{i:Nat}{y:NdR}(h:DsL l)(hy:DsY y):DsL (l.set i y):=fun z hz=>by
 rcases List.mem_or_eq_of_mem_set hz with hz|rfl
 ·exact h z hz
 ·exact hy
theorem DsL.snoc{l:List NdR}{h:TH}(hl:DsL l):DsL (l++[ndP h]):=fun z hz=>by
 rcases List.mem_append.1 hz with hz|hz
 ·exact hl z hz
 ·obtain rfl:=List.mem_singleton.1 hz
  exact fun _=>List.nodup_nil
section
variable {nm:List ByteArray} {F:Nat→Nat→Bool} {tg:ByteArray→Int}
theorem addF_names:∀(f:Ft)(l:List NdR),(addF nm F tg f l).1.map (·.name)=nms (pnm f)
| .nil,l=>rfl
| .cons p h k r,l=>by
 rw [addF_cons];show _::_=p.name::nms (pnm r);rw [←addF_names r (addK nm F tg p h k l).2];rfl
theorem addF_ds:∀(f:Ft)(l:List NdR),dsF f→DsL l→DsL (addF nm F tg f l).2
| .nil,l,_,h=>h
| .cons p h k r,l,dw,hl=>by
 rw [addF_cons];refine addF_ds r _ dw.2 ?_;unfold addK
 by_cases c:p.bare=true
 ·rw [if_pos c];exact hl
 ·rw [if_neg c]
  unfold addW
  by_cases c9:h.kind=9
  ·rw [if_pos c9];exact hl
  ·rw [if_neg c9]
   obtain⟨d1,d2⟩:=dw.1 (by simpa using c)
   exact(addF_ds k (l++[ndP h]) d2 hl.snoc).set fun q=>by
    show((addF nm F tg k (l++[ndP h])).1.map (·.name)).Nodup;rw [addF_names];exact d1 q
theorem addT_ds{h:TH}{f:Ft}{l:List NdR}(dw:dsT h f)(hl:DsL l):DsL (addT nm F tg h f l).2:=by
 unfold addT addW
 by_cases c9:h.kind=9
 ·rw [if_pos c9];exact hl
 ·rw [if_neg c9]
  exact(addF_ds (tg:=tg) f (l++[ndP h]) dw.2 hl.snoc).set fun q=>by
   show((addF nm F tg f (l++[ndP h])).1.map (·.name)).Nodup;rw [addF_names];exact dw.1 q
theorem addA_ds:∀(tys:List Nd)(l:List NdR),(∀x∈tys,dsT x.2.1 x.2.2)→DsL l→DsL (addA nm F tg tys l).2
| [],l,_,h=>h
| x::r,l,dw,h=>addA_ds r _ (fun y hy=>dw y (List.mem_cons_of_mem _ hy)) (addT_ds (dw x List.mem_cons_self) h)
end
theorem plS_ds{s:Sc}(h:(bldS s).1=0):DsL (plS s).1 :=
addT_ds (bld_ds h).2 (addA_ds s.2.2.1 [] (bld_ds h).1 (fun y hy=>by cases hy))
end Go.Proofs.YtabhkakomececaaGreat.Res
namespace Go.Proofs.YtabhkakomececaaGreat.Eff
open Go.RowKit Go.Lib Utf Nam Res Kin Unp Rel Lab Inh Lat Pat
theorem ixF_none{p:EdR→Bool}:∀{l:List EdR}{i:Nat},(∀e∈l,p e=false)→ixF p l i=-1
| [],_,_=>rfl
| e::r,i,h=>by
 unfold ixF;rw [if_neg (by rw [h e List.mem_cons_self];decide)]
 exact ixF_none fun z hz=>h z (List.mem_cons_of_mem _ hz)
theorem ixF_congr{p q:EdR→Bool}:∀{l:List EdR}{i:Nat},(∀e∈l,p e=q e)→ixF p l i=ixF q l i
| [],_,_=>rfl
| e::r,i,h=>by
 unfold ixF;rw [h e List.mem_cons_self,ixF_congr fun z hz=>h z (List.mem_cons_of_mem _ hz)]
theorem nam_first(nm:ByteArray):∀(l:List EdR)(i:Nat),(l.map (·.name)).Nodup →
 (if ixF (nmB nm) l i<0 then -1 else if(l[(ixF (nmB nm) l i).toNat-i]?.map (·.bare)).getD true=true then -1 else ixF (nmB nm) l i)=ixF (fun e=>decide (e.name=nm∧e.bare=false)) l i
| [],_,_=>rfl
| e::r,i,hd=>by
 rw [List.map_cons,List.nodup_cons]at hd
 by_cases c:e.name=nm
 ·have e1:ixF (nmB nm) (e::r) i=(i:Int):=by
   unfold ixF;rw [if_pos (by unfold nmB;simpa using c)]
  rw [e1,if_neg (by omega),show((i:Int).toNat-i)=0 from by omega];show(if e.bare=true then(-1:Int)else(i:Int))=_;unfold ixF;cases hb:e.bare with
  | false=>rw [if_neg (by decide),if_pos (by simp [c])]
  | true =>
   rw [if_pos rfl,if_neg (by simp)];refine(ixF_none fun z hz=>?_).symm;have:z.name≠nm:=fun q=>hd.1 (by rw [c,←q];exact List.mem_map_of_mem hz)
   simp [this]
 ·have e1:ixF (nmB nm) (e::r) i=ixF (nmB nm) r (i+1):=by
   conv=>lhs;unfold ixF
   rw [if_neg (by unfold nmB;simpa using c)]
  have e2:ixF (fun e=>decide (e.name=nm∧e.bare=false)) (e::r) i=ixF (fun e=>decide (e.name=nm∧e.bare=false)) r (i+1):=by
   conv=>lhs;unfold ixF
   rw [if_neg (by simp [c])]
  rw [e1,e2,←nam_first nm r (i+1) hd.2];rcases ixF_cases (nmB nm) r (i+1)with h|⟨j,h1,h2⟩
  ·rw [h,if_pos (by decide),if_pos (by decide)]
  ·have nn:¬(((i+1+j:Nat):Int)<0):=by omega
   rw [h2];simp only[if_neg nn];rw [show(((i+1+j:Nat):Int).toNat-i)=j+1 from by omega,show(((i+1+j:Nat):Int).toNat-(i+1))=j from by omega];rfl
theorem nam_eq(nm:ByteArray)(l:List EdR)(h:(l.map (·.name)).Nodup):namI nm l=ixF (fun e=>decide (e.name=nm∧e.bare=false)) l 0:=by
 have:=nam_first nm l 0 h;rw [Nat.sub_zero]at this;exact this
theorem sel_eq{y:NdR}(g:GoodY y)(d:DsY y)(x:St):selI y x=selR y x:=by
 unfold selI selR
 by_cases hr:RightSt x
 case neg=>rw [if_neg (fun q=>hr q.1),if_neg hr]
 rw [if_pos hr]
 have one:∀{p:EdR→Bool},(y.kind=5∨y.kind=6)→(∀e,p e=true)→ixF p y.edges 0=0:=fun h p1=>by
  obtain⟨e,he,-⟩:=g.e56 h;rw [he];unfold ixF;rw [if_pos (p1 e)];rfl
 rcases right_cases hr with⟨nm,rfl,-⟩|⟨n,rfl,-⟩|rfl|rfl|⟨nm,rfl,-⟩
 ·by_cases k:y.kind=7
  ·rw [if_pos ⟨hr,k⟩,if_pos (.inl k),nam_eq nm _ (d (.inl k))]
   refine ixF_congr fun e _=>?_
   unfold selB;simp [k]
  ·rw [if_neg (fun q=>k q.2)]
   refine(ixF_none fun e _=>?_).symm;unfold selB;simp [k]
 ·by_cases k:y.kind=5
  ·rw [if_pos ⟨hr,k⟩,if_neg (by omega)]
   by_cases m:y.most≤n
   ·rw [if_pos ⟨k,m⟩]
    refine(ixF_none fun e _=>?_).symm;unfold selB;simp [k];omega
   ·rw [if_neg (fun q=>m q.2)]
    refine(one (.inl k) fun e=>?_).symm;unfold selB;simp [k];omega
  ·rw [if_neg (fun q=>k q.2)]
   refine(ixF_none fun e _=>?_).symm;unfold selB;simp [k]
 ·by_cases k:y.kind=5
  ·rw [if_pos ⟨hr,k⟩,if_neg (by omega)]
   by_cases m:y.most≤0
   ·rw [if_pos ⟨k,m⟩]
    refine(ixF_none fun e _=>?_).symm;unfold selB;simp [k];omega
   ·rw [if_neg (fun q=>m q.2)]
    refine(one (.inl k) fun e=>?_).symm;unfold selB;simp [k];omega
  ·rw [if_neg (fun q=>k q.2)]
   refine(ixF_none fun e _=>?_).symm;unfold selB;simp [k]
 ·by_cases k:y.kind=6
  ·rw [if_pos ⟨hr,k⟩,if_neg (by omega),if_neg (by omega)]
   refine(one (.inr k) fun e=>?_).symm;unfold selB;simp [k]
  ·rw [if_neg (fun q=>k q.2)]
   refine(ixF_none fun e _=>?_).symm;unfold selB;simp [k]
 ·by_cases k:y.kind=8
  ·rw [if_pos ⟨hr,k⟩,if_pos (.inr k),nam_eq nm _ (d (.inr k))]
   refine ixF_congr fun e _=>?_
   unfold selB;simp [k]
  ·rw [if_neg (fun q=>k q.2)]
   refine(ixF_none fun e _=>?_).symm;unfold selB;simp [k]
end Go.Proofs.YtabhkakomececaaGreat.Eff
namespace Go.Proofs.YtabhkakomececaaGreat.Inh
open Res
section
variable {ns:List NdR} {D C:List Int}
end
end Go.Proofs.YtabhkakomececaaGreat.Inh
namespace Go.Proofs.YtabhkakomececaaGreat.Inh
open Go.RowKit Go.Lib Res
end Go.Proofs.YtabhkakomececaaGreat.Inh
namespace Go.Proofs.YtabhkakomececaaGreat.Res
open Go.RowKit Go.Lib Utf Nam Lat Kin Unp Rel Lab
section
variable {w:World} {v:Value} {nm:List ByteArray} {F:Nat→Nat→Bool} {ns:List ByteArray} {x:List NdR×Int×List Int}
end
end Go.Proofs.YtabhkakomececaaGreat.Res
namespace Go.Proofs.YtabhkakomececaaGreat.Inh
open Go.RowKit Go.Lib Res Nam
end Go.Proofs.YtabhkakomececaaGreat.Inh
namespace Go.Proofs.YtabhkakomececaaGreat.Unp
open Go.RowKit Go.Lib
end Go.Proofs.YtabhkakomececaaGreat.Unp
namespace Go.Proofs.YtabhkakomececaaGreat
open Go.RowKit Go.Lib Unp
end Go.Proofs.YtabhkakomececaaGreat
namespace Go.Proofs.YtabhkakomececaaGreat.Inh
open Go.RowKit Go.Lib Res Nam Kin Unp
end Go.Proofs.YtabhkakomececaaGreat.Inh
namespace Go.Proofs.YtabhkakomececaaGreat.Inh
open Go.RowKit Go.Lib Res Nam Kin
section
variable {fn:FuncId} {f:List Int→NdR→Int} {xs:List Nv} {gN q:Nat}
end
end Go.Proofs.YtabhkakomececaaGreat.Inh
set_option linter.all false
set_option maxRecDepth 100000
set_option maxHeartbeats 4000000
namespace Go.Proofs.YtabhkakomececaaGreat
namespace Pat
open Go.RowKit Go.Lib Utf Nam Dig Go.ChangeShapes Go.WideShapes
theorem arg_steps{H:Type}{enc':TypeId×Value→H}{W:World}{base:Nat}{v:Value}{d:DataW H}{p:List MemPlace}(hv:Value.okWide Tryz.prog W .any base 83 v)
  (h:DataW.Trod enc' Tryz.prog W 0 (fun _=>true) true 83 v d p):∃xs:List St,RdP W v xs∧(∀x∈xs,GoodS x)∧(xs=[]∨∃es sp,d=.slice es sp∧es.length=xs.length):=by
 haveI:Inhabited St:=⟨(0,0,⟨#[]⟩)⟩;refine arg_flat encP_len (by decide) GoodS Tryz.underlying83 (by kernel_rfl) hv h fun n cs x hx hl=>?_
 obtain⟨ys,m,-,-,-,hys,hf⟩:=DataW.trod_struct Tryz.underlying159 hx
 match ys,hys,cs,hl with
 | [y0,y1,y2],_,[v0,v1,v2],_ =>
  have g0:=hf 0 _ rfl;have g1:=hf 1 _ rfl;have g2:=hf 2 _ rfl;have c3:Tryz.prog.cellsOf 3=1:=by kernel_rfl
  have c9:Tryz.prog.cellsOf 9=1:=by kernel_rfl
  simp [c3,c9]at g0 g1 g2;obtain⟨n0,h0,-,w0⟩:=DataW.trod_int Tryz.underlying3 g0;obtain⟨n1,h1,-,w1⟩:=DataW.trod_int Tryz.underlying3 g1;obtain⟨s2,h2,-,w2⟩:=DataW.trod_string Tryz.underlying9 g2;simp at h0 h1 h2;subst h0 h1 h2;exact⟨(n0,n1,s2),rfl,wf64 w0,wf64 w1,w2⟩
theorem refright_steps(xs:List St)(v:Value)(w:World)(hx:RdP w v xs)(hg:∀x∈xs,GoodS x)(R:Ending→World→Prop)
  (hR:Hid (∀w',Below w.heap.size w w'→R (.returned (.bool (decide (RightP xs)))) w')):Calls Tryz.prog 145 #[v] w R:=by
 obtain⟨A,c,rfl,hlc,hr⟩:=hx.op;replace hr:=Lib.hid hr;clear hx
 by_cases h64:64<xs.length
 ·rw [decide_eq_false (fun h=>by have:=h.1;omega)]at hR
  go_enter Tryz.func145,Tryz.ntmps145
  go_wp2_with fail
  exact hR.out _ (Below.refl _ _)
 go_enter Tryz.func145,Tryz.ntmps145
 go_wp2_with fail
 go_loopg [3] xs.length (fun k i wr=>∃(K:Nat),Below w.heap.size w wr∧i=.int .i64 K∧K+k=xs.length∧Hid (∀j,j<K→RightSt (stN xs j)))
 case atStart=>exact⟨0,Below.refl _ _,rfl,by omega,Lib.hid fun j h=>by omega⟩
 case round =>
  obtain⟨K,hbel,rfl,c1,c2⟩:=hrel;have hsz:=hbel.size
  by_cases hK:K<xs.length
  ·obtain⟨g,o,rfl,hg1,hca⟩:=hr.out (by omega)
   obtain⟨a0,a1,a2⟩:=hca K hK;have e0:=(hbel.cell (p:=⟨g,o+K*3,none⟩) hg1).trans a0;have e1:=(hbel.cell (p:=⟨g,o+K*3+1,none⟩) hg1).trans a1;have e2:=(hbel.cell (p:=⟨g,o+K*3+2,none⟩) hg1).trans a2;have hbad:¬RightSt (stN xs K)→decide (RightP xs)=false:=fun h=>decide_eq_false fun q=>h (q.2 _ (stN_mem hK))
   have hgood:RightSt (stN xs K)→∀j,j<K+1→RightSt (stN xs j):=fun h j hj=>by
    rcases Nat.eq_or_lt_of_le (Nat.le_of_lt_succ hj)with e|q
    ·subst e;exact h
    ·exact c2.out j q
   obtain⟨b1,b2,b3⟩:=hg _ (stN_mem hK);clear hca a0 a1 a2 c2;generalize stN xs K=x at *;obtain⟨k,n,nm⟩:=x;simp only at e0 e1 e2 b1 b2 b3;rw [right_iff]at hbad hgood;have nW:=Lib.hid (hbel.alloc hsz (.cells #[.int .i64 k,.int .i64 n,.string nm] 159));have cR:=fun(W:World) R hR=>refright_calls nm b3 W R hR
   by_cases k1:k<1
   ·rw [hbad (fun h=>by omega)]at hR
    clear hbad hgood cR;go_wp2_with fail
    exact hR.out _ nW.out
   by_cases k5:5<k
   ·rw [hbad (fun h=>by omega)]at hR
    clear hbad hgood cR;go_wp2_with fail
    exact hR.out _ nW.out
   by_cases hz:nm.size=0
   ·have hE:=isE_nil hz
    have hk:k=1∨k=5∨k=2∨k=3∨k=4:=by omega
    rcases hk with rfl|rfl|rfl|rfl|rfl
    ·rw [hbad (fun h=>h.2.2.1.1 (.inl rfl) hz)]at hR
     clear hbad hgood cR;go_wp2_with fail
     exact hR.out _ nW.out
    ·rw [hbad (fun h=>h.2.2.1.1 (.inr rfl) hz)]at hR
     clear hbad hgood cR;go_wp2_with fail
     exact hR.out _ nW.out
    ·by_cases hn:n<0
     ·rw [hbad (fun h=>by have:=h.2.2.2.2.2;omega)]at hR
      clear hbad hgood cR;go_wp2_with fail
      exact hR.out _ nW.out
     ·have q:=Lib.hid (hgood ⟨by decide,by decide,⟨fun h=>by omega,fun h=>absurd hz h⟩,fun h=>by omega,fun h=>absurd rfl h,by omega⟩)
      clear hbad hgood cR;go_wp2_with fail
      go_roundg (gk-1)
      case measure=>omega
      case rel=>exact⟨K+1,nW.out,by go_num,by omega,q⟩
    all_goals
     by_cases hn:n=0
     ·subst hn
      have q:=Lib.hid (hgood ⟨by decide,by decide,⟨fun h=>by omega,fun h=>absurd hz h⟩,fun h=>by omega,fun _=>rfl,by omega⟩);clear hbad hgood cR;go_wp2_with fail
      go_roundg (gk-1)
      case measure=>omega
      case rel=>exact⟨K+1,nW.out,by go_num,by omega,q⟩
     ·rw [hbad (fun h=>hn (h.2.2.2.2.1 (by decide)))]at hR
      have hn':(n != 0)=true:=by simpa using hn
      clear hbad hgood cR;go_wp2_with fail
      exact hR.out _ nW.out
   ·have hE:=isE_pos (s:=nm) (by omega)
    have hk:k=1∨k=5∨k=2∨k=3∨k=4:=by omega
    rcases hk with rfl|rfl|rfl|rfl|rfl
    rotate_left 2
    ·rw [hbad (fun h=>by have:=h.2.2.1.2 hz;omega)]at hR
     clear hbad hgood cR;go_wp2_with fail
     exact hR.out _ nW.out
    ·rw [hbad (fun h=>by have:=h.2.2.1.2 hz;omega)]at hR
     clear hbad hgood cR;go_wp2_with fail
     exact hR.out _ nW.out
    ·rw [hbad (fun h=>by have:=h.2.2.1.2 hz;omega)]at hR
     clear hbad hgood cR;go_wp2_with fail
     exact hR.out _ nW.out
    all_goals
     cases hb:rightS nm
     ·rw [hbad (fun h=>by have:=h.2.2.2.1 (by decide);rw [hb]at this;cases this)]at hR
      rw [hb]at cR;replace cR:=Lib.hid cR;clear hbad hgood hb;go_wp2_with fail
      refine cR.out _ _ (Lib.hid ?_);go_wp2_with fail
      exact hR.out _ nW.out
     ·rw [hb]at cR
      replace cR:=Lib.hid cR
      by_cases hn:n=0
      ·subst hn
       have q:=Lib.hid (hgood ⟨by decide,by decide,⟨fun _=>hz,fun _=>by decide⟩,fun _=>hb,fun _=>rfl,by omega⟩);clear hbad hgood hb;go_wp2_with fail
       refine cR.out _ _ (Lib.hid ?_);go_wp2_with fail
       go_roundg (gk-1)
       case measure=>omega
       case rel=>exact⟨K+1,nW.out,by go_num,by omega,q⟩
      ·rw [hbad (fun h=>hn (h.2.2.2.2.1 (by decide)))]at hR
       have hn':(n != 0)=true:=by simpa using hn
       clear hbad hgood hb;go_wp2_with fail
       refine cR.out _ _ (Lib.hid ?_);go_wp2_with fail
       exact hR.out _ nW.out
  ·have e:decide (RightP xs)=true:=decide_eq_true ⟨by omega,fun x hx=>by
    obtain⟨i,hi,e⟩:=List.getElem_of_mem hx;rw [←e,←stN_get hi];exact c2.out i (by omega)⟩
   rw [e]at hR;clear c2;go_wp2_with fail
   exact hR.out _ hbel
end Pat
namespace Pat
open Go.RowKit Go.Lib Utf Nam Dig
end Pat
end Go.Proofs.YtabhkakomececaaGreat
set_option linter.all false
set_option maxRecDepth 100000
set_option maxHeartbeats 4000000
namespace Go.Proofs.YtabhkakomececaaGreat.Res
open Go.RowKit Go.Lib Utf Nam Lat Kin Unp Rel Lab
theorem RdNo.kp{w w':World}(k:Kp w w'){v:Value}{l:List NdR}(h:RdNo w v l):RdNo w' v l:=by
 obtain⟨xs,h1,h2,h3⟩:=h;exact⟨xs,h1,RdAt.kp k h2,fun y hy=>⟨RdAt.kp k (h3 y hy).1,RdAt.kp k (h3 y hy).2⟩⟩
theorem RdNo.below{w w':World}{v:Value}{l:List NdR}(h:RdNo w v l)(m:Below w.heap.size w w'):RdNo w' v l:=h.kp (Kp.of_below m)
end Go.Proofs.YtabhkakomececaaGreat.Res
