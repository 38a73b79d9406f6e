import Derived.Test.YtncckdaflellnaaGreatQ40
set_option linter.all false
set_option maxRecDepth 100000
set_option maxHeartbeats 4000000
namespace Go.Proofs.YtncckdaflellnaaGreat
namespace Res
open Go.RowKit Go.Lib Utf Nam Lat Kin Unp Rel Lab
theorem wpQuiet_lg{P:Program}{ops:Array Oper}{C:World→Prop}{Q:Act→Prop}{a:Act}{o:Oper}{rest:List Oper}(hg:Region.wanted o (yielded ops a.tmps)=true)(ty:TypeId)(x:Operand)(ho:o.op=.load ty x)(b off:Nat)(hx:a.eval x=.pointer (some ⟨b,off,none⟩))
  (cs:List Value) (d:TypeDesc) (hc:∀w,C w→w.rangeAt b off cs) (hu:P.underlying ty=some d) (hd:d.isRow=true) (hi:(P.info? ty).map (·.size)=some cs.length) (h:wpQuiet P ops C Q rest (a.put o.dst (.agg cs.toArray))):wpQuiet P ops C Q (o::rest) a:=by
 unfold wpQuiet;rw [if_pos hg];refine⟨_,fun w hw=>?_,h⟩;unfold Oper.quietAt execOp;simp only[ho,hx,Instr.loadAt,Instr.sureAddr,Sem.run_bind,Sem.run_pure,Result.andThen_ok,run_loadVar_mid w b off ty cs d (hc w hw) hu hd hi];exact⟨rfl,rfl⟩
theorem addA_named{nm:List ByteArray}{F:Nat→Nat→Bool}{tg:ByteArray→Int}:∀(tys:List Nd)(l:List NdR)(J:Nat)(hJ:J<tys.length),(addA nm F tg tys l).1[J]?=some (if(nN tys J).2.1.kind=9 then tg (nN tys J).2.1.name else((l.length+sumT (tys.take J):Nat):Int))
| [],_,J,hJ=>absurd hJ (by simp)
| x::r,l,0,_=>by
 show some (addT nm F tg x.2.1 x.2.2 l).1=_;rw [addT_R];rfl
| x::r,l,J+1,hJ=>by
 show(addA nm F tg r (addT nm F tg x.2.1 x.2.2 l).2).1[J]?=_;rw [addA_named r _ J (by simpa using hJ)];have e:nN (x::r) (J+1)=nN r J:=rfl;rw [e,addT_num,List.take_succ_cons,sumT_cons,Nat.add_assoc]
theorem named_R{s:Sc}(o:OkR s){x:ByteArray}(hx:0≤findS (tnm s) x):(plS s).2.2.getD (findS (tnm s) x).toNat 0=staS s x:=by
 have hf:=found_of o.unk;have flt:=find_lt (tnm s) x;rw [tnm_len]at flt;obtain⟨J,hJ⟩:∃J:Nat,findS (tnm s) x=(J:Int):=⟨(findS (tnm s) x).toNat,by omega⟩;have hJl:J<s.2.2.1.length:=by omega
 rw [hJ,Int.toNat_natCast,List.getD_eq_getElem?_getD];have h1:(plS s).2.2[J]?=_:=addA_named (nm:=nms s.1) (F:=leqF s.1 s.2.1) (tg:=tgI s.2.2.1 (cumL 0 s.2.2.1)) s.2.2.1 [] J hJl;rw [h1];show(if(nN s.2.2.1 J).2.1.kind=9 then _ else _)=_;unfold staS;rw [hJ,Int.toNat_natCast];have e99:endS s 99 J=if(nN s.2.2.1 J).2.1.kind≠9 then(J:Int)else endS s 98 (findS (tnm s) (nN s.2.2.1 J).2.1.name).toNat:=rfl;have l99:=o.lps J hJl;rw [e99]at l99 ⊢
 by_cases c:(nN s.2.2.1 J).2.1.kind=9
 ·have c':¬(nN s.2.2.1 J).2.1.kind≠9:=by simpa using c
  rw [if_neg c']at l99;rw [if_pos c,if_neg c'];have hn:=hf J hJl c;show tgI s.2.2.1 (cumL 0 s.2.2.1) (nN s.2.2.1 J).2.1.name=_;rw [←sta_tg o hn];unfold staS;have fl2:=find_lt (tnm s) (nN s.2.2.1 J).2.1.name;rw [tnm_len]at fl2;rw [←endS_mono s hf 98 _ (by omega) l99]
 ·rw [if_pos c]at l99
  rw [if_neg c,if_pos c,Int.toNat_natCast];simp
theorem wpQuiet_k18{P:Program}{ops:Array Oper}{C:World→Prop}{Q:Act→Prop}{a:Act}{l:List Oper}(h:∀Kp:Act→Prop,(∀b,Q b→Kp b)→wpQuiet P ops C Kp l a):wpQuiet P ops C Q l a:=h _ fun _ h=>h
theorem refsame18_calls(y:NdR)(nv nv' ev ev':Value)(w:World)(rS:RdS w nv y.names)(rS':RdS w nv' y.names)(rE:RdEd w ev y.edges)(rE':RdEd w ev' y.edges)(hl:y.edges.length≤1000000)(hn:y.names.length≤1000000)(R:Ending→World→Prop)
  (hR:Hid (∀W,Below w.heap.size w W→R (.returned (.bool true)) W)) :
  Calls Tryz.prog 41 #[.agg #[.int .i64 y.kind,.int .i64 y.at_,.int .i64 y.lo,.int .i64 y.hi,.int .i64 y.most,nv,ev],.agg #[.int .i64 y.kind,.int .i64 y.at_,.int .i64 y.lo,.int .i64 y.hi,.int .i64 y.most,nv',ev']] w R:=by
 obtain⟨A5,c5,rfl,-,h5⟩:=rS.open;obtain⟨B5,d5,rfl,-,g5⟩:=rS'.open;obtain⟨A6,c6,rfl,-,h6⟩:=ed_el18 rE;obtain⟨B6,d6,rfl,-,g6⟩:=ed_el18 rE';clear rS rS' rE rE';obtain⟨k0,k1,k2,k3,k4,yn,es⟩:=y;simp only at *;have n:=F0.z w;obtain⟨V1,e1,n,z1⟩:=n.new (.cells #[.int .i64 k0,.int .i64 k1,.int .i64 k2,.int .i64 k3,.int .i64 k4,.slice A5 yn.length c5,.slice A6 es.length c6] 70);obtain⟨V,e2,n,z2⟩:=n.new (.cells #[.int .i64 k0,.int .i64 k1,.int .i64 k2,.int .i64 k3,.int .i64 k4,.slice B5 yn.length d5,.slice B6 es.length d6] 70);have bw:=F0.bel n;have a0:=n.c 1 0 rfl rfl;have a1:=n.c 1 1 rfl rfl;have a2:=n.c 1 2 rfl rfl;have a3:=n.c 1 3 rfl rfl;have a4:=n.c 1 4 rfl rfl;have a5:=n.c 1 5 rfl rfl;have a6:=n.c 1 6 rfl rfl;have b0:=n.c 0 0 rfl rfl;have b1:=n.c 0 1 rfl rfl;have b2:=n.c 0 2 rfl rfl;have b3:=n.c 0 3 rfl rfl;have b4:=n.c 0 4 rfl rfl;have b5:=n.c 0 5 rfl rfl;have b6:=n.c 0 6 rfl rfl;have la:=n.lt 1 rfl;have lb:=n.lt 0 rfl;have fin:=Lib.hid fun W (m:Below V.heap.size V W)=>hR.out W (bw.trans (m.mono bw.size))
 replace h5:=Lib.hid h5;replace g5:=Lib.hid g5;replace h6:=Lib.hid h6;replace g6:=Lib.hid g6;clear z1 z2 n hR;go_enter Tryz.func41,Tryz.ntmps41
 go_upto_region 1 with fail
 clear e1 e2;go_upto_region 3 with fail
 have ka5:=a5;have ka6:=a6;have kb5:=b5;have kb6:=b6;clear a0 a1 a2 a3 a4 b0 b1 b2 b3 b4 a5 a6 b5 b6;replace ka5:=Lib.hid ka5;replace ka6:=Lib.hid ka6;replace kb5:=Lib.hid kb5;replace kb6:=Lib.hid kb6;go_wp2_with fail
 go_loopg [5] yn.length (fun g i wr=>∃(K:Nat),i=.int .i64 K∧K+g=yn.length∧Hid (Below V.heap.size V wr))
 case atStart=>exact⟨0,rfl,by omega,Lib.hid (Below.refl _ _)⟩
 case round =>
  obtain⟨K,rfl,e1,m⟩:=hrel;replace m:=m.out;have c5_:=(m.cell (p:=⟨w.heap.size,5,none⟩) la).trans ka5.out;have d5_:=(m.cell (p:=⟨V1.heap.size,5,none⟩) lb).trans kb5.out
  by_cases hK:K<yn.length
  ·obtain⟨g,o,rfl,hg,hc⟩:=h5.out (by omega)
   obtain⟨g',o',rfl,hg',hc'⟩:=g5.out (by omega);have m2:=bw.trans (m.mono bw.size);have x1:=(m2.cell (p:=⟨g,o+K,none⟩) hg).trans (hc K hK);have x2:=(m2.cell (p:=⟨g',o'+K,none⟩) hg').trans (hc' K hK);have i0:(0:Int)≤(K:Int):=by omega
   have i1:(K:Int)<(yn.length:Int):=by omega
   clear hc hc' m2;generalize yn.getD K ByteArray.empty=s at *;go_wp2_with fail
   go_quiet (fail);have mX:=Lib.hid (below_drewN m nq)
   clear x1 x2 c5_ d5_ m;go_wp2_with fail
   go_roundg (gk-1)
   case measure=>omega
   case rel=>exact⟨K+1,by go_num,by omega,mX⟩
  ·obtain rfl:K=yn.length:=by omega
   clear e1 hK;replace m:=Lib.hid m;go_wp2_with fail
   clear c5_ d5_;go_loopg [6] es.length (fun g i wr=>∃(K:Nat),i=.int .i64 K∧K+g=es.length∧Hid (Below V.heap.size V wr))
   case atStart=>exact⟨0,rfl,by omega,m⟩
   case round =>
    clear m;obtain⟨K,rfl,e1,m⟩:=hrel;replace m:=m.out;have c6_:=(m.cell (p:=⟨w.heap.size,6,none⟩) la).trans ka6.out;have d6_:=(m.cell (p:=⟨V1.heap.size,6,none⟩) lb).trans kb6.out
    by_cases hK:K<es.length
    ·obtain⟨g,o,rfl,hg,hc⟩:=h6.out K hK
     obtain⟨g',o',rfl,hg',hc'⟩:=g6.out K hK;have m2:=bw.trans (m.mono bw.size);have i0:(0:Int)≤(K:Int):=by omega
     have i1:(K:Int)<(es.length:Int):=by omega
     have r1:∀W,(∃q:BW wr,W=q.w)→W.rangeAt g (o+K*10) (encE es[K]):=fun W hW j u hj=>by
      obtain⟨q,rfl⟩:=hW;exact q.cell (Nat.lt_of_lt_of_le hg m2.size) ((m2.cell (p:=⟨g,o+K*10+j,none⟩) hg).trans (hc j u hj))
     have r2:∀W,(∃q:BW wr,W=q.w)→W.rangeAt g' (o'+K*10) (encE es[K]):=fun W hW j u hj=>by
      obtain⟨q,rfl⟩:=hW;exact q.cell (Nat.lt_of_lt_of_le hg' m2.size) ((m2.cell (p:=⟨g',o'+K*10+j,none⟩) hg').trans (hc' j u hj))
     clear hc hc' m2;generalize es[K]=e at *;obtain⟨f0,f1,f2,f3,f4,f5,f6,f7,f8,f9⟩:=e;go_upto_region 11 with fail
     have q1:∀W,(∃q:BW wr,W=q.w)→W.rangeAt g (o+K*10) [.string f0,.bool f1,.int .i64 f2,.int .i64 f3,.int .i64 f4,.int .i64 f5,.int .i64 f6,.int .i64 f7,.int .i64 f8,.int .i64 f9]:=r1;have q2:∀W,(∃q:BW wr,W=q.w)→W.rangeAt g' (o'+K*10) [.string f0,.bool f1,.int .i64 f2,.int .i64 f3,.int .i64 f4,.int .i64 f5,.int .i64 f6,.int .i64 f7,.int .i64 f8,.int .i64 f9]:=r2;have cc:=fun x:BW wr=>x.cell (Nat.lt_of_lt_of_le la m.size) c6_
     have dd:=fun x:BW wr=>x.cell (Nat.lt_of_lt_of_le lb m.size) d6_
     clear r1 r2;refine wp_region_below_lit (by kernel_rfl) (by kernel_rfl) ?_;refine wpQuiet_k18 fun Kp hKp=>?_
     iterate 4 (go_big_quiet_step (exact rfl))
     refine wpQuiet_load rfl 103 _ rfl g (o+K*10) rfl _ _ q1 Tryz.underlying103 rfl (by kernel_rfl) ?_
     try go_simp
     iterate 4 (go_big_quiet_step (exact rfl))
     refine wpQuiet_load rfl 103 _ rfl g' (o'+K*10) rfl _ _ q2 Tryz.underlying103 rfl (by kernel_rfl) ?_
     try go_simp
     go_big_quiet_step (exact rfl);refine wpQuiet_nil ?_
     refine hKp _ ?_;clear hKp q1 q2 cc dd
     rintro _ ⟨x,rfl⟩
     have mX:=Lib.hid (m.trans (x.b.mono m.size));clear c6_ d6_ m;go_wp2_with fail
     go_roundg (gk-1)
     case measure=>omega
     case rel=>exact⟨K+1,by go_num,by omega,mX⟩
    ·obtain rfl:K=es.length:=by omega
     replace fin:=Lib.hid (fin.out wr m);clear m;go_wp2_with fail
     exact fin.out
end Res
namespace Res
open Go.RowKit Go.Lib Utf Nam Lat Kin Unp Rel Lab Inh
structure EdOk(n:Nat)(e:EdR):Prop where
lb:0≤e.label∧e.label<(n:Int)
sn:0≤e.seen∧e.seen<(n:Int)
wd:1≤e.wide∧e.wide≤64
section
variable {nm:List ByteArray} {F:Nat→Nat→Bool}
variable (nm F)
def LbA:Ft→Prop
| .nil=>True
| .cons p _ _ r=>((lof nm F p.label).2.1=0∧(lof nm F p.cl).2.1=0)∧LbA r
def WdA:Ft→Prop
| .nil=>True
| .cons p _ _ r=>(0≤p.wide∧p.wide≤64)∧WdA r
def DW:Ft→Prop
| .nil=>True
| .cons p _ k r=>(((lof nm F p.label).2.1=0∧(lof nm F p.cl).2.1=0)∧0≤p.wide∧p.wide≤64)∧(p.bare=false→DW k)∧DW r
variable {nm F}
def NdEd(n:Nat)(l:List NdR):Prop:=∀y∈l,∀e∈y.edges,EdOk n e
end
end Res
namespace Res
open Go.RowKit Go.Lib Utf Nam Lat Kin Unp Rel Lab
section
variable {w:World} {v:Value} {nm:List ByteArray} {F:Nat→Nat→Bool} {ns:List ByteArray} {x:List NdR×Int×List Int}
theorem PlanP.lv(h:PlanP w v nm F ns x):∃(P L:Nat)(cs:List Value),v=.pointer (some ⟨P,0,none⟩)∧w.heap[P]?=some (.cells (Value.pointer (some ⟨L,0,none⟩)::cs).toArray 123)∧LatP w (.pointer (some ⟨L,0,none⟩)) nm F:=by
 obtain⟨P,lv,tab,A,Z,c,z,xs,e,hb,hl,-⟩:=h.op;obtain⟨L,rfl⟩:=hl.ptr;exact⟨P,L,_,e,hb,hl⟩
theorem platv_calls{P L:Nat}{cs:List Value}(hb:w.heap[P]?=some (.cells (Value.pointer (some ⟨L,0,none⟩)::cs).toArray 123))(R:Ending→World→Prop)(hR:Hid (R (.returned (.pointer (some ⟨L,0,none⟩))) w)):Calls Tryz.prog 24 #[.pointer (some ⟨P,0,none⟩)] w R:=by
 have c1:w.cell? ⟨P,0,none⟩=some (.pointer (some ⟨L,0,none⟩)):=by
  rw [Lib.cell_of_heap hb];rfl
 clear hb;go_enter Tryz.func24,Tryz.ntmps24
 go_wp2_with fail
 exact hR.out
end
end Res
end Go.Proofs.YtncckdaflellnaaGreat
