import Derived.Test.YtabhkakomececaaGreatQ31
import Derived.Laws.CopyOwn
set_option linter.all false
set_option maxRecDepth 100000
set_option maxHeartbeats 4000000
namespace Go.Proofs.YtabhkakomececaaGreat.Eff
open Res Kin Unp Rel Lab Inh Lat
def kdC(c:Int):Int:=if c=1 then 2 else if c=2 then 3 else 5
def kdR(c:Int):Int:=if c=3 then 5 else if c=2 then 3 else 2
def kdAt(ns:List NdR)(j:Int):Int:=if 0≤j then(ns[j.toNat]?.map (·.kind)).getD 0 else 0
section
variable (ns:List NdR) (F:Nat→Nat→Bool)
def chkE(e:EdR):Int×Int:=if e.coarse=0 then(0,0)else if kdAt ns e.dst≠kdC e.coarse then(14,e.cat)else if e.seen=e.label∨F e.seen.toNat e.label.toNat=false then(18,e.cat)else(0,0)
def chkR(e:EdR):Int×Int:=if e.coarse=0 then(0,0)else if kdAt ns e.dst≠kdR e.coarse then(14,e.cat)else if F e.seen.toNat e.label.toNat=false∨F e.label.toNat e.seen.toNat=true then(18,e.cat)else(0,0)
def chkEs(c:EdR→Int×Int):List EdR→Int×Int
| []=>(0,0)
| e::l=>if(c e).1≠0 then c e else chkEs c l
def chkNs(c:EdR→Int×Int):List NdR→Int×Int
| []=>(0,0)
| y::l=>if(chkEs c y.edges).1≠0 then chkEs c y.edges else chkNs c l
end
theorem chkEs_eq{c d:EdR→Int×Int}:∀l:List EdR,(∀e∈l,c e=d e)→chkEs c l=chkEs d l
| [],_=>rfl
| e::l,h=>by
 unfold chkEs;rw [h e List.mem_cons_self,chkEs_eq l fun x hx=>h x (List.mem_cons_of_mem _ hx)]
theorem chkNs_eq{c d:EdR→Int×Int}:∀l:List NdR,(∀y∈l,∀e∈y.edges,c e=d e)→chkNs c l=chkNs d l
| [],_=>rfl
| y::l,h=>by
 unfold chkNs;rw [chkEs_eq y.edges (h y List.mem_cons_self),chkNs_eq l fun x hx=>h x (List.mem_cons_of_mem _ hx)]
structure CoOk(e:EdR):Prop where
k:0≤e.coarse∧e.coarse≤3
b:e.bare=true→e.coarse=0
def NdCo(l:List NdR):Prop:=∀y∈l,∀e∈y.edges,CoOk e
theorem chk_same{n:Nat}{F:Nat→Nat→Bool}(hL:Latt n F){ns:List NdR}{e:EdR}(ed:EdOk n e)(co:CoOk e):chkE ns F e=chkR ns F e:=by
 unfold chkE chkR
 by_cases c0:e.coarse=0
 ·rw [if_pos c0,if_pos c0]
 ·rw [if_neg c0,if_neg c0]
  have ek:kdC e.coarse=kdR e.coarse:=by
   have:=co.k;unfold kdC kdR;rcases(by omega:e.coarse=1∨e.coarse=2∨e.coarse=3)with h|h|h<;>rw [h]<;>decide
  rw [ek]
  by_cases k:kdAt ns e.dst≠kdR e.coarse
  ·rw [if_pos k,if_pos k]
  ·rw [if_neg k,if_neg k]
   have hs:=ed.sn;have hl:=ed.lb;obtain⟨a,ha⟩:∃a:Nat,e.seen=(a:Int):=⟨e.seen.toNat,by omega⟩;obtain⟨b,hb⟩:∃b:Nat,e.label=(b:Int):=⟨e.label.toNat,by omega⟩;rw [ha,hb,Int.toNat_natCast,Int.toNat_natCast]
   have e2:((a:Int)=(b:Int)∨F a b=false)↔(F a b=false∨F b a=true):=by
    constructor
    ·rintro(h|h)
     ·have:a=b:=by omega
      subst this;exact .inr (hL.ord.refl a (by omega))
     ·exact .inl h
    ·rintro(h|h)
     ·exact .inr h
     ·by_cases q:F a b=true
      ·exact .inl (by rw [hL.ord.anti a b (by omega) (by omega) q h])
      ·exact .inr (by simpa using q)
   by_cases c:(a:Int)=(b:Int)∨F a b=false
   ·rw [if_pos c,if_pos (e2.1 c)]
   ·rw [if_neg c,if_neg fun q=>c (e2.2 q)]
end Go.Proofs.YtabhkakomececaaGreat.Eff
namespace Go.Proofs.YtabhkakomececaaGreat.Res
open Go.RowKit Go.Lib Utf Nam Lat Kin Unp Rel Lab Inh
def dsF:Ft→Prop
| .nil=>True
| .cons p h k r=>(p.bare=false→(h.kind=7∨h.kind=8→(nms (pnm k)).Nodup)∧dsF k)∧dsF r
def dsT(h:TH)(k:Ft):Prop:=(h.kind=7∨h.kind=8→(nms (pnm k)).Nodup)∧dsF k
def FineD(f:Ft):Prop :=
(∀(K:Int) (ns:List ByteArray) (i d m:Nat),(K=7∨K=8)→nms (pnm f)=ns.drop i→(wcF f (.parts K ns i) d m).1=0→dsF f∧∀j,i≤j→j<ns.length→listedS ns j=0) ∧
(∀(d m:Nat),onlyB f=true→(wcF f .one d m).1=0→dsF f)
def DsY(y:NdR):Prop:=y.kind=7∨y.kind=8→(y.edges.map (·.name)).Nodup
def DsL(l:List NdR):Prop:=∀y∈l,DsY y
section
variable {nm:List ByteArray} {F:Nat→Nat→Bool} {tg:ByteArray→Int}
end
end Go.Proofs.YtabhkakomececaaGreat.Res
namespace Go.Proofs.YtabhkakomececaaGreat.Eff
open Go.RowKit Go.Lib Utf Nam Res Kin Unp Rel Lab Inh Lat Pat
def conS(k:Int):Int:=if k=1 then 7 else if k=5 then 8 else if k=4 then 6 else 5
def ixF(p:EdR→Bool):List EdR→Nat→Int
| [],_=>-1
| e::r,i=>if p e=true then(i:Int)else ixF p r (i+1)
theorem ixF_cases(p:EdR→Bool):∀(l:List EdR)(i:Nat),ixF p l i=-1∨∃j:Nat,j<l.length∧ixF p l i=((i+j:Nat):Int)
| [],_=>.inl rfl
| e::r,i=>by
 unfold ixF
 by_cases c:p e=true
 ·rw [if_pos c]
  exact .inr ⟨0,by simp,rfl⟩
 ·rw [if_neg c]
  rcases ixF_cases p r (i+1)with h|⟨j,h1,h2⟩
  ·exact .inl h
  ·exact .inr ⟨j+1,by simp;omega,by rw [h2];congr 1;omega⟩
def nmB(nm:ByteArray)(e:EdR):Bool:=decide (e.name=nm)
def namI(nm:ByteArray)(l:List EdR):Int:=if ixF (nmB nm) l 0<0 then -1 else if(l[(ixF (nmB nm) l 0).toNat]?.map (·.bare)).getD true=true then -1 else ixF (nmB nm) l 0
def selI(y:NdR)(x:St):Int :=
if RightSt x∧y.kind=conS x.1 then(if y.kind=7∨y.kind=8 then namI x.2.2 y.edges else if y.kind=5∧y.most≤x.2.1 then -1 else 0)else -1
def selB(y:NdR)(x:St)(e:EdR):Bool :=
decide (x.1=1∧y.kind=7∧(e.name=x.2.2∧e.bare=false)∨x.1=5∧y.kind=8∧(e.name=x.2.2∧e.bare=false)∨(x.1=2∨x.1=3)∧y.kind=5∧x.2.1<y.most∨x.1=4∧y.kind=6)
def selR(y:NdR)(x:St):Int:=if RightSt x then ixF (selB y x) y.edges 0 else -1
theorem sel_in{y:NdR}(g:GoodY y){x:St}(h:0≤selI y x):∃(j:Nat)(hj:j<y.edges.length),selI y x=(j:Int)∧y.edges[j].bare=false:=by
 unfold selI at h ⊢
 by_cases c:RightSt x∧y.kind=conS x.1
 case neg=>rw [if_neg c]at h;omega
 rw [if_pos c]at h ⊢
 by_cases k:y.kind=7∨y.kind=8
 ·rw [if_pos k]at h ⊢
  unfold namI at h ⊢;rcases ixF_cases (nmB x.2.2) y.edges 0 with q|⟨j,h1,h2⟩
  ·rw [q,if_pos (by decide)]at h;omega
  ·rw [h2,Nat.zero_add,if_neg (by omega),Int.toNat_natCast,List.getElem?_eq_getElem h1]at h ⊢
   cases hb:y.edges[j].bare with
   | true =>
    exfalso
    rw [show((some y.edges[j]).map (·.bare)).getD true=y.edges[j].bare from rfl,hb,if_pos rfl]at h;omega
   | false =>
    refine⟨j,h1,?_,hb⟩;rw [show((some y.edges[j]).map (·.bare)).getD true=y.edges[j].bare from rfl,hb,if_neg (by decide)]
 ·rw [if_neg k]at h ⊢
  by_cases m:y.kind=5∧y.most≤x.2.1
  ·rw [if_pos m]at h;omega
  rw [if_neg m]
  have k56:y.kind=5∨y.kind=6:=by
   have:=c.2;unfold conS at this
   split at this
   ·omega
   ·split at this
    ·omega
    ·split at this<;>omega
  obtain⟨e,he,hb⟩:=g.e56 k56;refine⟨0,by rw [he];simp,rfl,?_⟩;simp only[he,List.getElem_cons_zero];exact hb
def walkS(J:Nat→Nat→Int)(sel:NdR→St→Int)(ns:List NdR):List St→Int×Int→Int×Int
| [],p=>p
| x::r,p =>
 match ns[p.1.toNat]? with
 | none=>(-1,-1)
 | some y=>if sel y x<0 then(-1,-1)else
  match y.edges[(sel y x).toNat]? with
  | none=>(-1,-1)
  | some e=>walkS J sel ns r (e.dst,J p.2.toNat e.label.toNat)
end Go.Proofs.YtabhkakomececaaGreat.Eff
namespace Go.Proofs.YtabhkakomececaaGreat.Inh
open Res
def itK(ns:List NdR)(D:List Int):Nat→List Int
| 0=>D.map fun a=>if a=0 then 0 else 1
| m+1=>List.zipWith (fun y a=>if a=0 then 0 else cntN (itK ns D m) y) ns D
section
variable {ns:List NdR} {D C:List Int}
structure Ends(ns:List NdR)(D C:List Int):Prop where
g:GoodL ns
ld:D.length=ns.length
lc:C.length=ns.length
dn:∀j,0≤atD D j
cn:∀j,0≤atD C j∧atD C j≤2
df:stp depN ns D=D
cf:stp cntN ns C=C
ps:∀j,posD D j=posD C j
def uns:List Int→Nat
| []=>0
| a::l=>(if a=1 then 1 else 0)+uns l
end
end Go.Proofs.YtabhkakomececaaGreat.Inh
namespace Go.Proofs.YtabhkakomececaaGreat.Inh
open Go.RowKit Go.Lib Res
def InD(D:List Int)(es:List EdR):Prop:=∀e∈es,0≤e.dst∧e.dst<(D.length:Int)
def InU(D:List Int)(es:List EdR):Prop:=∀e∈es,e.bare=false→0≤e.dst∧e.dst<(D.length:Int)
def BdD(D:List Int):Prop:=∀j,0≤atD D j∧atD D j≤1000000
theorem ed_el{w:World}{v:Value}{l:List EdR}(h:RdEd w v l):∃(A:Option Addr)(c:Nat),v=.slice A l.length c∧l.length≤c∧∀K (hK:K<l.length),∃g o,A=some ⟨g,o,none⟩∧g<w.heap.size∧∀W,Below w.heap.size w W→W.rangeAt g (o+K*10) (encE l[K]):=by
 obtain⟨A,c,rfl,hc,hr⟩:=RdG.open encE_len (by decide) (show RdG encE 10 w v l from h);refine⟨A,c,rfl,hc,fun K hK=>?_⟩;obtain⟨g,o,rfl,hg,hi⟩:=hr (by omega);exact⟨g,o,rfl,hg,fun W m j v e=>(m.cell (p:=⟨g,o+K*10+j,none⟩) hg).trans ((hi K hK j (by have:=(List.getElem?_eq_some_iff.1 e).1;exact this)).trans e)⟩
def BdC(D:List Int):Prop:=∀j,0≤atD D j∧atD D j≤2
end Go.Proofs.YtabhkakomececaaGreat.Inh
namespace Go.Proofs.YtabhkakomececaaGreat.Res
open Go.RowKit Go.Lib Utf Nam Lat Kin Unp Rel Lab
theorem n18_alloc(ρ:Operand→Value)(W:World)(o:Oper)(h:o.op=.alloc 74):(execOp ρ o).run Tryz.prog W=.ok (.value (ptA W.heap.size)) (W.alloc (.cells #[.int .i64 0,.int .i64 0,.int .i64 0,.int .i64 0,.int .i64 0,.slice none 0 0,.slice none 0 0] 74)):=by
 simp [execOp,h,go_sem,ptA]
theorem e18_in:(Tryz.prog.info? 97).map (fun i=>(i.zero,i.size,i.bytes))=some (some (.agg #[.string ⟨#[]⟩,.bool false,.int .i64 0,.int .i64 0,.int .i64 0,.int .i64 0,.int .i64 0,.int .i64 0,.int .i64 0,.int .i64 0]),10,88):=by kernel_rfl
theorem e18_info:∃i0,Tryz.prog.info? 97=some i0∧(i0.zero,i0.size,i0.bytes)=(some (.agg #[.string ⟨#[]⟩,.bool false,.int .i64 0,.int .i64 0,.int .i64 0,.int .i64 0,.int .i64 0,.int .i64 0,.int .i64 0,.int .i64 0]),10,88):=by
 have:=e18_in;cases h:Tryz.prog.info? 97 with
 | none=>rw [h]at this;cases this
 | some i0=>rw [h]at this;exact⟨i0,rfl,by simpa using this⟩
theorem ed_el18{w:World}{v:Value}{l:List EdR}(h:RdEd w v l):∃(A:Option Addr)(c:Nat),v=.slice A l.length c∧l.length≤c∧∀K (hK:K<l.length),∃g o,A=some ⟨g,o,none⟩∧g<w.heap.size∧w.rangeAt g (o+K*10) (encE l[K]):=by
 obtain⟨A,c,rfl,hc,hr⟩:=RdG.open encE_len (by decide) (show RdG encE 10 w v l from h);refine⟨A,c,rfl,hc,fun K hK=>?_⟩;obtain⟨g,o,rfl,hg,hi⟩:=hr (by omega);exact⟨g,o,rfl,hg,fun j v e=>(hi K hK j (by have:=(List.getElem?_eq_some_iff.1 e).1;exact this)).trans e⟩
section
variable {w:World} {v:Value} {nm:List ByteArray} {F:Nat→Nat→Bool} {ns:List ByteArray} {x:List NdR×Int×List Int}
theorem PlanP.lv(h:PlanP w v nm F ns x):∃(P L:Nat)(cs:List Value),v=.pointer (some ⟨P,0,none⟩)∧w.heap[P]?=some (.cells (Value.pointer (some ⟨L,0,none⟩)::cs).toArray 123)∧LatP w (.pointer (some ⟨L,0,none⟩)) nm F:=by
 obtain⟨P,lv,tab,A,Z,c,z,xs,e,hb,hl,-⟩:=h.op;obtain⟨L,rfl⟩:=hl.ptr;exact⟨P,L,_,e,hb,hl⟩
theorem platv_calls{P L:Nat}{cs:List Value}(hb:w.heap[P]?=some (.cells (Value.pointer (some ⟨L,0,none⟩)::cs).toArray 123))(R:Ending→World→Prop)(hR:Hid (R (.returned (.pointer (some ⟨L,0,none⟩))) w)):Calls Tryz.prog 30 #[.pointer (some ⟨P,0,none⟩)] w R:=by
 have c1:w.cell? ⟨P,0,none⟩=some (.pointer (some ⟨L,0,none⟩)):=by
  rw [Lib.cell_of_heap hb];rfl
 clear hb;go_enter Tryz.func30,Tryz.ntmps30
 go_wp2_with fail
 exact hR.out
end
end Go.Proofs.YtabhkakomececaaGreat.Res
namespace Go.Proofs.YtabhkakomececaaGreat.Inh
open Go.RowKit Go.Lib Res Nam
abbrev ndV(y:NdR)(nv ev:Value):Value:=.agg #[.int .i64 y.kind,.int .i64 y.at_,.int .i64 y.lo,.int .i64 y.hi,.int .i64 y.most,nv,ev]
end Go.Proofs.YtabhkakomececaaGreat.Inh
namespace Go.Proofs.YtabhkakomececaaGreat.Unp
open Go.RowKit Go.Lib
end Go.Proofs.YtabhkakomececaaGreat.Unp
namespace Go.Proofs.YtabhkakomececaaGreat
open Go.RowKit Go.Lib Unp
def segA(c:Array Value)(o:Nat):List Value→Array Value
| []=>c
| v::l=>segA (c.setIfInBounds o v) (o+1) l
end Go.Proofs.YtabhkakomececaaGreat
namespace Go.Proofs.YtabhkakomececaaGreat.Inh
open Go.RowKit Go.Lib Res Nam Kin Unp
theorem cast_w{P:Program}{ops:Array Oper}{Q:Exit→Act→World→Prop}{l:List Oper}{a:Act}{w w':World}(e:w=w')(h:wpList P ops Q l a w'):wpList P ops Q l a w:=e▸h
def NodesP(w:World)(nv:Value)(xs:List Nv):Prop:=∃G,nv=.slice (some ⟨G,0,none⟩) xs.length xs.length∧G<w.heap.size∧(∀j u,(flatG encN xs)[j]?=some u→w.cell? ⟨G,j,none⟩=some u)∧∀y∈xs,RdS w y.2.1 y.1.names∧RdEd w y.2.2 y.1.edges
end Go.Proofs.YtabhkakomececaaGreat.Inh
namespace Go.Proofs.YtabhkakomececaaGreat.Inh
open Go.RowKit Go.Lib Res Nam Kin
theorem mk_int(n:Nat)(hn:n≤1000000):∃M:Array Value,M=(ints (List.replicate n 0)).toArray ∧
  ∀w,(Instr.makeSlice 82 (.int .i64 n) (.int .i64 n)).run Tryz.prog w=.ok (.slice (some ⟨w.heap.size,0,none⟩) n n) (w.alloc (.cells M 3)):=by
 obtain⟨i0,hi,hZ⟩:=int_info;simp only[Prod.mk.injEq]at hZ;obtain⟨hz0,hz1,hz2⟩:=hZ;refine⟨madeCells (#[.int .i64 0]) (n*1),?_,fun w=>?_⟩
 ·apply Array.ext'
  rw [toList_madeCells_one,Nat.mul_one];simp [ints]
 ·have:=run_make (P:=Tryz.prog) w 82 3 i0 _ Tryz.underlying82 hi hz0 .i64 .i64 n n (by omega) (Int.le_refl _) (by rw [hz2];omega) (by omega)
  rw [hz1]at this;exact this
theorem node_alloc19(ρ:Operand→Value)(W:World)(o:Oper)(h:o.op=.alloc 63):(execOp ρ o).run Tryz.prog W=.ok (.value (ptA W.heap.size)) (W.alloc (.cells #[.int .i64 0,.int .i64 0,.int .i64 0,.int .i64 0,.int .i64 0,.slice none 0 0,.slice none 0 0] 63)):=by
 simp [execOp,h,go_sem,ptA]
def FN(g:Nat):Fm (List Int):=⟨fun V D=>V.heap[g]?=some (.cells (ints D).toArray 3),fun _ k=>k=g,fun h _ e=>(e g rfl).trans h,fun h e=>by subst e;exact hp_lt h⟩
section
variable {fn:FuncId} {f:List Int→NdR→Int} {xs:List Nv} {gN q:Nat}
def StepC(fn:FuncId)(f:List Int→NdR→Int)(xs:List Nv)(gN q:Nat)(I:List Int→Prop):Prop:=∀(D:List Int)(y:Nv)(V:World),y∈xs→I D→V.heap[gN]?=some (.cells (ints D).toArray 3)→V.heap[q]?=some (.cells #[.slice (some ⟨gN,0,none⟩) xs.length xs.length] 82)→RdS V y.2.1 y.1.names→RdEd V y.2.2 y.1.edges→∀R:Ending→World→Prop,
Hid (∀W,Below V.heap.size V W→R (.returned (.int .i64 (f D y.1))) W)→Calls Tryz.prog fn #[ndV y.1 y.2.1 y.2.2,.pointer (some ⟨q,0,none⟩)] V R
end
def NdQ(xs:List Nv)(D:List Int):Prop:=∀y∈xs,GoodY y.1∧InU D y.1.edges
abbrev depL(ns:List NdR):List Int:=itr depN ns ns.length
def fz:List Int→Int→Int
| [],_=>-1
| a::l,i=>if a=0 then i else fz l (i+1)
def ckS(ns:List NdR):Int×Int:=if fz (depL ns) 0<0 then(0,0)else(11,((ns[(fz (depL ns) 0).toNat]?).map (·.at_)).getD 0)
end Go.Proofs.YtabhkakomececaaGreat.Inh
