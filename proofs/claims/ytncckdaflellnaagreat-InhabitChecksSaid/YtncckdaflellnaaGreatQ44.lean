import Derived.Test.YtncckdaflellnaaGreatQ43
import Derived.Test.YtncckdaflellnaaGreatQ30
import Derived.Test.YtncckdaflellnaaGreatQ42
set_option linter.all false
set_option maxRecDepth 100000
set_option maxHeartbeats 4000000
namespace Go.Proofs.YtncckdaflellnaaGreat.Inh
open Go.RowKit Go.Lib Res Nam Kin
abbrev bls(l:List Bool):List Value:=l.map Value.bool
theorem bl_in:(Tryz.prog.info? 4).map (fun i=>(i.zero,i.size,i.bytes))=some (some (.bool false),1,1):=by kernel_rfl
theorem mk_bl(n:Nat)(hn:n≤1000000):∃M:Array Value,M=(bls (List.replicate n false)).toArray ∧
  ∀w,(Instr.makeSlice 50 (.int .i64 n) (.int .i64 n)).run Tryz.prog w=.ok (.slice (some ⟨w.heap.size,0,none⟩) n n) (w.alloc (.cells M 4)):=by
 obtain⟨i0,hi,hz0,hz1,hz2⟩:∃i0,Tryz.prog.info? 4=some i0∧i0.zero=some (.bool false)∧i0.size=1∧i0.bytes=1:=by
  have:=bl_in;cases h:Tryz.prog.info? 4 with
  | none=>rw [h]at this;cases this
  | some i0 =>
   rw [h]at this;simp only[Option.map_some,Option.some.injEq,Prod.mk.injEq]at this;exact⟨i0,rfl,this⟩
 refine⟨madeCells (#[.bool false]) (n*1),?_,fun w=>?_⟩
 ·apply Array.ext'
  rw [toList_madeCells_one,Nat.mul_one];simp [bls]
 ·have:=run_make (P:=Tryz.prog) w 50 4 i0 _ Tryz.underlying50 hi hz0 .i64 .i64 n n (by omega) (Int.le_refl _) (by rw [hz2];omega) (by omega)
  rw [hz1]at this;exact this
theorem severalx_calls{w:World}{P:Option Addr}{ns:List NdR}(hnodes:∀R:Ending→World→Prop,Hid (∀w' nv xs,xs.map (·.1)=ns→NodesP w' nv xs→Below w.heap.size w w'→R (.returned nv) w')→Calls Tryz.prog 71 #[.pointer P] w R)(hg:GoodL ns)(hin:NdIn ns.length ns)(hlen:ns.length≤40000)(R:Ending→World→Prop)
  (hR:Hid (∀W v' (k:Nat),stp cntN ns (itr cntN ns k)=itr cntN ns k→RdAt W v' 1 (bls ((itr cntN ns k).map fun c=>decide (2≤c)))→Below w.heap.size w W→R (.returned v') W)):Calls Tryz.prog 33 #[.pointer P] w R:=by
 replace hnodes:=Lib.hid hnodes;go_enter Tryz.func33,Tryz.ntmps33
 go_wp2_with fail
 refine hnodes.out _ (Lib.hid fun w1 nv xs hx hN m1=>?_);have hxl:xs.length=ns.length:=by rw [←hx,List.length_map]
 have hN0:=hN;obtain⟨G,rfl,-⟩:=hN0;obtain⟨len,hlen1⟩:∃len,ns.length=len:=⟨_,rfl⟩;rw [hlen1]at hlen hxl;obtain⟨M,hM,hmk⟩:=mk_int len (by omega);have n:=(F0.z w).bl m1;have n1:Hq F0 () () w1 w1 []:=F0.z w1;obtain⟨V2,e2,n,z2⟩:=n.new (.cells M 3);obtain⟨V2',e2',n1,-⟩:=n1.new (.cells M 3);obtain rfl:V2=V2':=e2.symm.trans e2';obtain⟨V3,e3,n,z3⟩:=n.new (.cells #[.slice (some ⟨w1.heap.size,0,none⟩) len len] 51);obtain⟨V3',e3',n1,-⟩:=n1.new (.cells #[.slice (some ⟨w1.heap.size,0,none⟩) len len] 51);obtain rfl:V3=V3':=e3.symm.trans e3';rw [z2]at n n1;replace hmk:=hmk w1;rw [e2]at hmk;have hn1:(len:Int)≤40000:=by omega
 rw [hxl]at hN ⊢;replace hx:=Lib.hid hx;replace hxl:=Lib.hid hxl;replace hlen1:=Lib.hid hlen1;replace hN:=Lib.hid hN;replace hg:=Lib.hid hg;replace hin:=Lib.hid hin;have bq:=n.c 0 0 rfl rfl;have ib:=Lib.hid (And.intro (n1.b 1 rfl) (n1.b 0 rfl));have bN:=Lib.hid (F0.bel n1);replace hM:=Lib.hid hM;have z23:w1.heap.size+1≠w1.heap.size:=by omega
 have lG1:=m1.size;have bW:=Lib.hid (F0.bel n);have hmf:∀(fn:Fn) (first cap:Array Value) (w:World),(Instr.makeFunc fn first cap).run Tryz.prog w=.ok (.func fn first cap) w:=fun _ _ _ _=>rfl
 clear e2' e3' n1;go_upto_region 3 with fail
 clear hmk e2 e3 z2 z3;go_wp2_with fail
 rw [hM.out]at ib
 have hz:(List.replicate len (0:Int))=itr cntN ns 0:=by
  show _=ns.map fun _=>0
  rw [List.map_const',hlen1.out]
 rw [hz]at ib;refine grow2_calls (fn:=76) (f:=cntN) (xs:=xs) (gN:=w1.heap.size) (q:=w1.heap.size+1) (I:=fun D=>∃k,D=itr cntN ns k) (μ:=room) (w0:=w1) (nv:=.slice (some ⟨G,0,none⟩) len len) (D0:=itr cntN ns 0) hxl.out isF_sev (step_sev fun D hD=>?_) hN.out bN.out (Nat.le_refl _) z23 ib.out.1 ib.out.2 (by omega) ⟨0,rfl⟩ (fun D hD=>?_) _ (Lib.hid fun W D hD hfix n2=>?_)
 ·obtain⟨k,rfl⟩:=hD
  refine⟨by rw [itr_len,hlen1.out,hxl.out],cnt_bd ns k,fun y hy=>?_⟩;have hy2:y.1∈ns:=by rw [←hx.out];exact List.mem_map_of_mem hy
  exact⟨hg.out _ hy2,inU_of hin.out hy2 (itr_len _ _ _)⟩
 ·obtain⟨k,rfl⟩:=hD
  rw [hx.out];exact⟨by rw [itr_len,hlen1.out],⟨k+1,rfl⟩,(cnt_room ns k).2⟩
 ·obtain⟨k,rfl⟩:=hD
  rw [hx.out]at hfix;have hl:(itr cntN ns k).length=len:=by rw [itr_len,hlen1.out]
  have rD:=rd_ints (show W.heap[w1.heap.size]?=some (.cells (ints (itr cntN ns k)).toArray 3)from n2.inv);rw [hl]at rD;have bn:=Lib.hid (bW.out.trans (n2.below bW.out.size fun k e=>by subst e;exact lG1))
  have bk:=(n2.gr.block (w1.heap.size+1) (hp_lt ib.out.2) z23).trans ib.out.2;have cq:=(Lib.cell_of_heap bk 0).trans rfl;have hR2:=Lib.hid fun W v'=>hR.out W v' k hfix
  obtain⟨A,c,e,-,hcell⟩:=ints_open rD;rw [hl]at e hcell;obtain⟨C,hC⟩:∃C,C=itr cntN ns k:=⟨_,rfl⟩;rw [←hC]at hR2 hcell hl;simp only[Value.slice.injEq,Option.some.injEq]at e;obtain⟨e,-,-⟩:=e;subst e;clear hR n2 rD hfix bq hC;obtain⟨MB,hMB,hmk2⟩:=mk_bl len (by omega);have nn:=F0.z W;obtain⟨V5,e5,nn,z5⟩:=nn.new (.cells MB 4);replace hmk2:=hmk2 W;rw [e5]at hmk2;have cq5:=Lib.hid (((F0.bel nn).cell (p:=⟨w1.heap.size+1,0,none⟩) (hp_lt bk)).trans cq);replace hMB:=Lib.hid hMB;replace hcell:=Lib.hid hcell;replace hl:=Lib.hid hl;have bk2:=hp_lt bk;clear bk;go_upto_region 5 with fail
  clear e5 z5 cq;replace cq5:=cq5.out;go_wp2_with fail
  obtain rfl:=hMB.out;have bw5:=Lib.hid (F0.bel nn);have hlt5:=nn.lt 0 rfl;have ow:=Lib.hid nn;clear hmk2 nn hMB;go_wp2_with fail
  go_loopg [22] len (fun g i wr=>∃(K:Nat) (L:List Bool),i=.int .i64 K∧K+g=len∧Hid (L.length=len∧L.take K=(C.map fun c=>decide (2≤c)).take K)∧Hid (Hq F0 () () W wr [(W.heap.size,.cells (bls L).toArray 4)]))
  case atStart=>exact⟨0,_,rfl,by omega,Lib.hid ⟨List.length_replicate,rfl⟩,ow⟩
  case round =>
   clear ow;obtain⟨K,L,rfl,e1,hL,nq⟩:=hrel;replace nq:=nq.out;obtain⟨hL1,hL2⟩:=hL.out
   by_cases hK:K<len
   ·obtain⟨g,o,e,hg,hc⟩:=hcell.out (by omega)
    simp only[Option.some.injEq,Addr.mk.injEq,and_true]at e;obtain⟨rfl,rfl⟩:=e;have m:=F0.bel nq;have x1:=(m.cell (p:=⟨w1.heap.size,0+K,none⟩) hg).trans (hc K hK);rw [Nat.zero_add]at x1;have i0:(0:Int)≤(K:Int):=by omega
    have i1:(K:Int)<(len:Int):=by omega
    have hCK:(C.map fun c=>decide (2≤c))[K]?=some (decide (2≤atD C (K:Int))):=by
     have hl2:=hl.out;rw [List.getElem?_map,List.getElem?_eq_getElem (by omega)];unfold atD;rw [Int.toNat_natCast,List.getD_eq_getElem?_getD,List.getElem?_eq_getElem (by omega)];rfl
    generalize atD C (K:Int)=c at *;obtain⟨ov,x2⟩:∃ov,wr.cell? ⟨W.heap.size,K,none⟩=some (.bool ov):=⟨L[K]'(by omega),(Lib.cell_of_heap (nq.b 0 rfl) K).trans (show(bls L).toArray[K]?=some (.bool (L[K]'(by omega)))by simp [bls])⟩;have x3:=nq.f 0 K rfl;obtain⟨b,hb⟩:∃b,decide (2≤c)=b:=⟨_,rfl⟩;rw [hb]at hCK;obtain⟨W6,e6,n6,z6⟩:=nq.put (j:=0) rfl [(K,.bool b)];simp only[stL]at e6;have es:(bls L).toArray.setIfInBounds K (.bool b)=(bls (L.set K b)).toArray:=by simp [bls,List.map_set]
    simp only[stA,List.set_cons_zero,es]at n6
    have hL6:Hid ((L.set K b).length=len∧(L.set K b).take (K+1)=(C.map fun c=>decide (2≤c)).take (K+1)):=Lib.hid ⟨by rw [List.length_set];exact hL1,by
     rw [List.take_succ_eq_append_getElem (by rw [List.length_set];omega),List.getElem_set_self,List.take_set_of_le (Nat.le_refl _),hL2,List.take_add_one,hCK]
     rfl⟩
    have n7:=Lib.hid n6;clear nq n6 hL hL1 hL2 hCK es hc m;go_wp2_with fail
    go_roundg (gk-1)
    case measure=>omega
    case rel=>exact⟨K+1,_,by go_num,by omega,hL6,n7⟩
   ·obtain rfl:K=len:=by omega
    have eL:L=C.map fun c=>decide (2≤c):=by
     have h1:L.take L.length=L:=List.take_length;have h2:(C.map fun c=>decide (2≤c)).take (C.map fun c=>decide (2≤c)).length=C.map fun c=>decide (2≤c):=List.take_length
     rw [List.length_map,hl.out]at h2;rw [hL1]at h1;rw [←h1,←h2,hL2]
    have hb:=nq.b 0 rfl
    have rB:RdAt wr (.slice (some ⟨W.heap.size,0,none⟩) K K) 1 (bls L):=⟨_,_,_,rfl,by simp [bls,hL1],Nat.le_refl _,fun _=>⟨W.heap.size,0,rfl,hp_lt hb,fun j u hj=>by
     rw [Nat.zero_add,Lib.cell_of_heap hb,List.getElem?_toArray];exact hj⟩⟩
    rw [eL]at rB;have fin:=Lib.hid (hR2.out wr _ rB (bn.out.trans ((F0.bel nq).mono bn.out.size)));clear hR2 rB hb eL nq hL1 hL2 hL;go_wp2_with fail
    exact fin.out
theorem several_calls{w:World}{v:Value}{nm:List ByteArray}{F:Nat→Nat→Bool}{ns:List ByteArray}{x:List NdR×Int×List Int}(h:PlanP w v nm F ns x)(hg:GoodL x.1)(hin:NdIn x.1.length x.1)(hlen:x.1.length≤40000)(R:Ending→World→Prop)
  (hR:Hid (∀W v' (k:Nat),stp cntN x.1 (itr cntN x.1 k)=itr cntN x.1 k→RdAt W v' 1 (bls ((itr cntN x.1 k).map fun c=>decide (2≤c)))→Below w.heap.size w W→R (.returned v') W)):Calls Tryz.prog 33 #[v] w R:=by
 have hb1:∀y∈x.1,y.names.length≤1000000∧y.edges.length≤1000000:=fun y hy=>⟨Nat.le_trans (hg y hy).ln (by decide),Nat.le_trans (hg y hy).le (by decide)⟩
 obtain⟨P,rfl⟩:∃P,v=.pointer (some ⟨P,0,none⟩):=by
  obtain⟨P,_,_,_,_,_,e,-⟩:=h;exact⟨P,e⟩
 exact severalx_calls (fun R hR=>nodes_calls h hb1 (by omega) R hR) hg hin hlen R hR
theorem mk_node0:∃M:Array Value,∀w,(Instr.makeSlice 98 (.int .i64 0) (.int .i64 0)).run Tryz.prog w=.ok (.slice (some ⟨w.heap.size,0,none⟩) 0 0) (w.alloc (.cells M 74)):=by
 obtain⟨M,-,h⟩:=mk_node 0 (by decide);exact⟨M,h⟩
theorem nodesnil_calls(w:World)(R:Ending→World→Prop)(hR:Hid (∀W nv,NodesP W nv []→Below w.heap.size w W→R (.returned nv) W)):Calls Tryz.prog 71 #[.pointer none] w R:=by
 obtain⟨M,hmk⟩:=mk_node0;have n:=F0.z w;obtain⟨V,e1,n,z1⟩:=n.new (.cells M 74);replace hmk:=hmk w;rw [e1]at hmk;have fin:=Lib.hid (hR.out V (.slice (some ⟨w.heap.size,0,none⟩) 0 0) ⟨w.heap.size,rfl,n.lt 0 rfl,by simp [flatG],by simp⟩ (F0.bel n));clear hR n z1;go_enter Tryz.func71,Tryz.ntmps71
 go_wp2_with fail
 refine plennil_calls _ _ (Lib.hid ?_);go_wp2_with fail
 go_loopg [10] 0 (fun g i wr=>i=.int .i64 0∧V=wr)
 case atStart=>exact⟨rfl,rfl⟩
 case round =>
  obtain⟨rfl,rfl⟩:=hrel;go_wp2_with fail
  exact fin.out
theorem depthsnil_calls(w:World)(R:Ending→World→Prop)(hR:Hid (∀W v',RdAt W v' 1 (ints [])→Below w.heap.size w W→R (.returned v') W)):Calls Tryz.prog 31 #[.pointer none] w R :=
depthsx_calls (P:=none) (ns:=[]) (fun R hR=>nodesnil_calls w R (Lib.hid fun W nv hN m=>hR.out W nv [] rfl hN m)) (fun y hy=>by cases hy) (fun y hy=>by cases hy) (by decide) R (Lib.hid fun W v' h m=>hR.out W v' h m)
theorem severalnil_calls(w:World)(R:Ending→World→Prop)(hR:Hid (∀W v',RdAt W v' 1 (bls [])→Below w.heap.size w W→R (.returned v') W)):Calls Tryz.prog 33 #[.pointer none] w R :=
severalx_calls (P:=none) (ns:=[]) (fun R hR=>nodesnil_calls w R (Lib.hid fun W nv hN m=>hR.out W nv [] rfl hN m)) (fun y hy=>by cases hy) (fun y hy=>by cases hy) (by decide) R (Lib.hid fun W v' k _ h m=>hR.out W v' (by
 have e:((itr cntN [] k).map fun c=>decide (2≤c))=[]:=List.eq_nil_of_length_eq_zero (by rw [List.length_map,itr_len];rfl)
 rw [e]at h;exact h) m)
theorem bls_open{w:World}{v:Value}{K:List Bool}(h:RdAt w v 1 (bls K)):∃(A:Option Addr)(c:Nat),v=.slice A K.length c∧K.length≤c∧∀J,J<K.length→∃g o,A=some ⟨g,o,none⟩∧g<w.heap.size∧w.cell? ⟨g,o+J,none⟩=some (.bool (K.getD J false)):=by
 obtain⟨A,n,c,rfl,hl,hn,hc⟩:=h
 have e:n=K.length:=by
  rw [List.length_map]at hl;omega
 subst e;refine⟨A,c,rfl,hn,fun J hJ=>?_⟩;obtain⟨g,o,rfl,hg,hi⟩:=hc (by rw [List.length_map];omega)
 refine⟨g,o,rfl,hg,hi J _ ?_⟩;rw [List.getElem?_map,List.getD_eq_getElem?_getD,List.getElem?_eq_getElem hJ];rfl
def inB(K:List Bool)(e:EdR):Bool:=e.bare||K.getD e.dst.toNat false
theorem onB_in(K:List Bool)(y:NdR):onB (fun j=>K.getD j.toNat false) y=if y.kind=7 then y.edges.all (inB K)else if y.kind=8 then y.edges.any (inB K)else true:=rfl
theorem one19_calls(y:NdR)(gy:GoodY y)(K:List Bool)(hin:∀e∈y.edges,e.bare=false→0≤e.dst∧e.dst<(K.length:Int))(nv ev kv:Value)(w:World)(rS:RdS w nv y.names)(rE:RdEd w ev y.edges)(rK:RdAt w kv 1 (bls K))(R:Ending→World→Prop)
  (hR:Hid (∀W,Below w.heap.size w W→R (.returned (.bool (onB (fun j=>K.getD j.toNat false) y))) W)):Calls Tryz.prog 75 #[.agg #[.int .i64 y.kind,.int .i64 y.at_,.int .i64 y.lo,.int .i64 y.hi,.int .i64 y.most,nv,ev],kv] w R:=by
 obtain⟨A5,c5,rfl,-⟩:=rS.open;obtain⟨A6,c6,rfl,-,hel⟩:=ed_el18 rE;obtain⟨Ak,ck,rfl,-,hkc⟩:=bls_open rK;rw [onB_in]at hR;have hle:=gy.le;have hkb:=gy.kb;clear rS rE rK gy;obtain⟨k0,k1,k2,k3,k4,yn,es⟩:=y;simp only at *;have n:=F0.z w;obtain⟨V,e1,n,z1⟩:=n.new (.cells #[.int .i64 k0,.int .i64 k1,.int .i64 k2,.int .i64 k3,.int .i64 k4,.slice A5 yn.length c5,.slice A6 es.length c6] 70);have bw:=F0.bel n;have x0:=n.c 0 0 rfl rfl;have x6_:=n.c 0 6 rfl rfl;have lb:=n.lt 0 rfl;replace hel:=Lib.hid hel;replace hkc:=Lib.hid hkc;replace hin:=Lib.hid hin;clear z1 n;go_enter Tryz.func75,Tryz.ntmps75
 go_upto_region 1 with fail
 clear e1
 by_cases k7:k0<7
 ·have t7:decide (k0<7)=true:=by simpa using k7
  rw [if_neg (by omega),if_neg (by omega)]at hR;have fin:=Lib.hid (hR.out V bw);clear hR x6_;go_wp2_with fail
  exact fin.out
 ·have t7:decide (k0<7)=false:=by simpa using k7
  have k78:k0=7∨k0=8:=by omega
  replace k78:=Lib.hid k78;have x0_:=Lib.hid x0;have x6h:=Lib.hid x6_;clear k7 hkb;go_upto_region 3 with fail
  clear x0 x6_ t7;go_wp2_with fail
  go_loopg [5,6,7] es.length (fun g a b i wr=>∃(k:Nat) (xa xb:Bool),a=.bool xa∧b=.bool xb∧i=.int .i64 k∧k+g=es.length∧Hid (es.any (inB K)=(xa||(es.drop k).any (inB K)))∧Hid (es.all (inB K)=(xb&&(es.drop k).all (inB K)))∧Hid (Below V.heap.size V wr))
  case atStart=>exact⟨0,false,true,rfl,rfl,rfl,by omega,Lib.hid (by simp),Lib.hid (by simp),Lib.hid (Below.refl _ _)⟩
  case round =>
   obtain⟨k,xa,xb,rfl,rfl,rfl,e1,ea,eb,m⟩:=hrel;replace m:=m.out;have x6:=(m.cell (p:=⟨w.heap.size,6,none⟩) lb).trans x6h.out
   by_cases hk:k<es.length
   ·obtain⟨g,o,rfl,hg,hrg⟩:=hel.out k hk
    have hin1:=hin.out _ (List.getElem_mem hk);have m2:=bw.trans (m.mono bw.size);have y1:=(m2.cell (p:=⟨g,o+k*10+1,none⟩) hg).trans (hrg 1 _ rfl);have y3:=(m2.cell (p:=⟨g,o+k*10+3,none⟩) hg).trans (hrg 3 _ rfl);have i0:(0:Int)≤(k:Int):=by omega
    have i1:(k:Int)<(es.length:Int):=by omega
    have ea':=ea.out;have eb':=eb.out;rw [List.drop_eq_getElem_cons hk,List.any_cons]at ea';rw [List.drop_eq_getElem_cons hk,List.all_cons]at eb';obtain⟨IN,hIN⟩:∃b,b=inB K es[k]:=⟨_,rfl⟩;rw [←hIN]at ea' eb';have hI2:IN=(es[k].bare||K.getD es[k].dst.toNat false):=hIN;clear hrg hIN ea eb;generalize es[k]=e at *;obtain⟨f0,f1,f2,f3,f4,f5,f6,f7,f8,f9⟩:=e;simp only at hin1 y1 y3 hI2;replace ea':=Lib.hid ea';replace eb':=Lib.hid eb';replace hI2:=Lib.hid hI2;replace m:=Lib.hid m;go_upto_region 7 with fail
    go_cut [8]from 19 to 36 (fun s8 wx=>s8=.bool IN∧wr=wx)
    case first =>
     cases f1 with
     | true =>
      have h:=hI2.out;simp only[Bool.true_or]at h;subst h;go_wp2_with fail
      go_meet;exact⟨rfl,rfl⟩
     | false =>
      have h:=hI2.out;simp only[Bool.false_or]at h;obtain⟨j0,j1⟩:=hin1 rfl;obtain⟨J,rfl⟩:∃J:Nat,f3=(J:Int):=⟨f3.toNat,by omega⟩;rw [Int.toNat_natCast]at h;obtain⟨gk_,ok_,rfl,hgk,hc⟩:=hkc.out J (by omega);rw [←h]at hc;have cJ:=(m2.cell (p:=⟨gk_,ok_+J,none⟩) hgk).trans hc;have hmx:max (J:Int) 0=(J:Int):=by omega
      have hmx':max (0:Int) (J:Int)=(J:Int):=by omega
      clear h hc hin1;go_wp2_with fail
      go_meet;exact⟨rfl,rfl⟩
    case rest =>
     obtain⟨rfl,rfl⟩:=hcut;clear x6 y1 y3 hin1 m2;cases xa with
     | true =>
      have ea2:Hid (es.any (inB K)=(true||(es.drop (k+1)).any (inB K))):=Lib.hid (by rw [ea'.out];rfl)
      cases xb with
      | true =>
       have eb2:Hid (es.all (inB K)=(IN&&(es.drop (k+1)).all (inB K))):=Lib.hid (by rw [eb'.out];rfl)
       clear ea' eb';go_wp2_with fail
       go_roundg (gk-1)
       case measure=>omega
       case rel=>exact⟨k+1,true,IN,rfl,rfl,by go_num,by omega,ea2,eb2,m⟩
      | false =>
       have eb2:Hid (es.all (inB K)=(false&&(es.drop (k+1)).all (inB K))):=Lib.hid (by rw [eb'.out];rfl)
       clear ea' eb';go_wp2_with fail
       go_roundg (gk-1)
       case measure=>omega
       case rel=>exact⟨k+1,true,false,rfl,rfl,by go_num,by omega,ea2,eb2,m⟩
     | false =>
      have ea2:Hid (es.any (inB K)=(IN||(es.drop (k+1)).any (inB K))):=Lib.hid (by rw [ea'.out];rfl)
      cases xb with
      | true =>
       have eb2:Hid (es.all (inB K)=(IN&&(es.drop (k+1)).all (inB K))):=Lib.hid (by rw [eb'.out];rfl)
       clear ea' eb';go_wp2_with fail
       go_roundg (gk-1)
       case measure=>omega
       case rel=>exact⟨k+1,IN,IN,rfl,rfl,by go_num,by omega,ea2,eb2,m⟩
      | false =>
       have eb2:Hid (es.all (inB K)=(false&&(es.drop (k+1)).all (inB K))):=Lib.hid (by rw [eb'.out];rfl)
       clear ea' eb';go_wp2_with fail
       go_roundg (gk-1)
       case measure=>omega
       case rel=>exact⟨k+1,IN,false,rfl,rfl,by go_num,by omega,ea2,eb2,m⟩
   ·obtain rfl:k=es.length:=by omega
    have ea':=ea.out;have eb':=eb.out;rw [List.drop_length,List.any_nil,Bool.or_false]at ea';rw [List.drop_length,List.all_nil,Bool.and_true]at eb';have x0:=(m.cell (p:=⟨w.heap.size,0,none⟩) lb).trans x0_.out;have fin:=hR.out wr (bw.trans (m.mono bw.size));rw [ea',eb']at fin;replace m:=Lib.hid m;clear ea eb ea' eb' hR;rcases k78.out with rfl|rfl
    ·rw [if_pos rfl]at fin
     replace fin:=Lib.hid fin;go_wp2_with fail
     exact fin.out
    ·rw [if_neg (by decide),if_pos rfl]at fin
     replace fin:=Lib.hid fin;go_wp2_with fail
     exact fin.out
theorem Hq.sl{S:Type}{F:Fm S}{s0 s:S}{w V:World}{l l':List (Nat×Obj)}(h:Hq F s0 s w V l)(q:l'.Sublist l):Hq F s0 s w V l':=⟨h.inv,h.gr,h.sub,fun x hx=>h.at_ x (q.subset hx),fun x hx=>h.lo x (q.subset hx),h.dj.sublist q⟩
def mixL{α:Type}(A B:List α)(J:Nat):List α:=A.take J++B.drop J
theorem mixL_len{α:Type}{A B:List α}(h:A.length=B.length){J:Nat}(hJ:J≤A.length):(mixL A B J).length=A.length:=by
 unfold mixL;rw [List.length_append,List.length_take,List.length_drop];omega
theorem mixL_all{α:Type}{A B:List α}(h:A.length=B.length):mixL A B A.length=A:=by
 unfold mixL;rw [List.take_length,List.drop_of_length_le (by omega),List.append_nil]
theorem mixL_get{α:Type}{A B:List α}(h:A.length=B.length){J:Nat}(hJ:J<A.length):(mixL A B J)[J]?=B[J]?:=by
 unfold mixL;rw [List.getElem?_append_right (by rw [List.length_take];omega),List.getElem?_drop,List.length_take,Nat.min_eq_left (by omega),Nat.sub_self,Nat.add_zero]
theorem mixL_set{α:Type}{A B:List α}(h:A.length=B.length){J:Nat}(hJ:J<A.length){x:α}(hx:A[J]?=some x):(mixL A B J).set J x=mixL A B (J+1):=by
 unfold mixL;rw [List.set_append_right _ _ (by rw [List.length_take];omega),List.length_take,Nat.min_eq_left (by omega),Nat.sub_self,List.drop_eq_getElem_cons (by omega:J<B.length),List.set_cons_zero,List.take_succ_eq_append_getElem hJ,List.append_assoc]
 rw [List.getElem?_eq_getElem hJ,Option.some.injEq]at hx;rw [hx];rfl
theorem mixL_keep{α:Type}{A B:List α}(h:A.length=B.length){J:Nat}(hJ:J<A.length)(hx:A[J]?=B[J]?):mixL A B J=mixL A B (J+1):=by
 have hb:B[J]?=some (A[J]):=by rw [←hx,List.getElem?_eq_getElem hJ]
 have:=mixL_set h hJ (x:=A[J]) (List.getElem?_eq_getElem hJ);rw [←this];refine(List.set_getElem?_self' ?_).symm;rw [mixL_get h hJ,hb]
where
  List.set_getElem?_self' {α : Type} {l : List α} {i : Nat} {x : α} (h : l[i]? = some x) : l.set i x = l := by
    obtain ⟨hi, rfl⟩ := List.getElem?_eq_some_iff.1 h
    exact List.set_getElem_self hi
def knB(ns:List NdR)(d:Nat):List Bool:=(itr depN ns d).map fun a=>decide (a≠0)
theorem knB_len(ns:List NdR)(d:Nat):(knB ns d).length=ns.length:=by unfold knB;rw [List.length_map,itr_len]
theorem knB_zero(ns:List NdR):knB ns 0=List.replicate ns.length false:=by
 unfold knB;show List.map _ (ns.map fun _=>(0:Int))=_;rw [List.map_map];exact List.map_const' ..
theorem itr_zero(f:List Int→NdR→Int)(ns:List NdR):itr f ns 0=List.replicate ns.length 0:=List.map_const' ..
theorem knB_get (ns:List NdR) (d J:Nat):(knB ns d).getD J false=posD (itr depN ns d) (J:Int):=by
 unfold knB posD atD;rw [Int.toNat_natCast,List.getD_eq_getElem?_getD,List.getElem?_map,List.getD_eq_getElem?_getD];cases (itr depN ns d)[J]? <;> simp
theorem kn_step{ns:List NdR}(g:GoodL ns)(d J:Nat)(hJ:J<ns.length):∃a e:Int,(itr depN ns d)[J]?=some a∧(itr depN ns (d+1))[J]?=some e∧(knB ns (d+1))[J]?=some (onB (fun j=>(knB ns d).getD j.toNat false) ns[J])∧onB (fun j=>(knB ns d).getD j.toNat false) ns[J]=decide (e≠0)∧(a≠0→e=a)∧(a=0→e=0∨e=(d:Int)+1):=by
 have h1:J<(itr depN ns d).length:=by rw [itr_len];exact hJ
 have h2:J<(itr depN ns (d+1)).length:=by rw [itr_len];exact hJ
 have r:=dep_rel ns d (J:Int)
 have a1:atD (itr depN ns d) (J:Int)=(itr depN ns d)[J]:=by
  unfold atD;rw [Int.toNat_natCast,List.getD_eq_getElem?_getD,List.getElem?_eq_getElem h1];rfl
 have a2:atD (itr depN ns (d+1)) (J:Int)=(itr depN ns (d+1))[J]:=by
  unfold atD;rw [Int.toNat_natCast,List.getD_eq_getElem?_getD,List.getElem?_eq_getElem h2];rfl
 have ec:onB (fun j=>(knB ns d).getD j.toNat false) ns[J]=onB (posD (itr depN ns d)) ns[J]:=onB_congr (fun j=>by
  rw [knB_get];unfold posD atD;rw [Int.toNat_natCast]) _
 have e3:(itr depN ns (d+1))[J]=depN (itr depN ns d) ns[J]:=by
  have h5:(itr depN ns (d+1))[J]?=some (depN (itr depN ns d) ns[J]):=by
   show(ns.map (depN (itr depN ns d)))[J]?=_;rw [List.getElem?_map,List.getElem?_eq_getElem hJ];rfl
  rw [List.getElem?_eq_getElem h2]at h5;exact Option.some.inj h5
 have on:=dep_on (dep_nn ns d) (g ns[J] (List.getElem_mem hJ))
 have e4:onB (fun j=>(knB ns d).getD j.toNat false) ns[J]=decide ((itr depN ns (d+1))[J]≠0):=by
  rw [ec,e3];cases hb:onB (posD (itr depN ns d)) ns[J]with
  | true=>exact(decide_eq_true (on.2 hb)).symm
  | false=>exact(decide_eq_false fun q=>by rw [on.1 q]at hb;cases hb).symm
 refine⟨_,_,List.getElem?_eq_getElem h1,List.getElem?_eq_getElem h2,?_,e4,fun q=>?_,fun q=>?_⟩
 ·rw [e4]
  unfold knB;rw [List.getElem?_map,List.getElem?_eq_getElem h2];rfl
 ·rw [←a1,←a2];exact r.2.2.1 (by rw [a1];exact q)
 ·rw [←a2];exact r.2.2.2 (by rw [a1];exact q)
theorem bls_set(L:List Bool)(J:Nat)(b:Bool):(bls L).toArray.setIfInBounds J (.bool b)=(bls (L.set J b)).toArray:=by simp [bls,List.map_set]
theorem ints_setB(L:List Int)(J:Nat)(b:Int):(ints L).toArray.setIfInBounds J (.int .i64 b)=(ints (L.set J b)).toArray:=by simp [ints,List.map_set]
theorem rd_bls{w:World}{g:Nat}{D:List Bool}(h:w.heap[g]?=some (.cells (bls D).toArray 4)):RdAt w (.slice (some ⟨g,0,none⟩) D.length D.length) 1 (bls D) :=
⟨_,_,_,rfl,by simp [bls],Nat.le_refl _,fun _=>⟨g,0,rfl,hp_lt h,fun j u hj=>by
 rw [Nat.zero_add,Lib.cell_of_heap h,List.getElem?_toArray];exact hj⟩⟩
theorem bls_at{w:World}{g J:Nat}{D:List Bool}{b:Bool}(h:w.heap[g]?=some (.cells (bls D).toArray 4))(hb:D[J]?=some b):w.cell? ⟨g,J,none⟩=some (.bool b):=by
 rw [Lib.cell_of_heap h,List.getElem?_toArray,List.getElem?_map,hb];rfl
theorem ints_at{w:World}{g J:Nat}{D:List Int}{b:Int}(h:w.heap[g]?=some (.cells (ints D).toArray 3))(hb:D[J]?=some b):w.cell? ⟨g,J,none⟩=some (.int .i64 b):=by
 rw [Lib.cell_of_heap h,List.getElem?_toArray,List.getElem?_map,hb];rfl
theorem in_edges{ns:List NdR}(h:NdIn ns.length ns){y:NdR}(hy:y∈ns):∀e∈y.edges,e.bare=false→0≤e.dst∧e.dst<(ns.length:Int):=fun e he hb=>by
 have:=inU_of h hy (D:=ns.map fun _=>(0:Int)) (List.length_map _);have h2:=this e he hb;rw [List.length_map]at h2;exact h2
theorem refdepths19_calls(ns:List NdR)(g:GoodL ns)(hin:NdIn ns.length ns)(hlen:ns.length≤40000)(lv lq nsv:Value)(rt:Int)(hlv:lv.oneCell'=true)(hlq:lq.oneCell'=true)(w:World)(rn:RdNo w nsv ns)(R:Ending→World→Prop)
  (hR:Hid (∀W v',RdAt W v' 1 (ints (itr depN ns ns.length))→Below w.heap.size w W→R (.returned v') W)):Calls Tryz.prog 32 #[.agg #[lv,lq,nsv,.int .i64 rt]] w R:=by
 obtain⟨An,cn,rfl,-,hel⟩:=rn.el;obtain⟨len,hl⟩:∃len,ns.length=len:=⟨_,rfl⟩;have hgl:=Lib.hid g;rw [hl]at hlen;obtain⟨MI,hMI,hmi⟩:=mk_int len (by omega);obtain⟨MB,hMB,hmb⟩:=mk_bl len (by omega);have n:=F0.z w;obtain⟨V,e1,n,z1⟩:=n.new (.cells #[lv,lq,.slice An ns.length cn,.int .i64 rt] 45);have x2:=n.c 0 2 rfl rfl;rw [hl]at x2;obtain⟨V2,e2,n,z2⟩:=n.new (.cells MI 3);obtain⟨V3,e3,n,z3⟩:=n.new (.cells MB 4);have hmi1:=hmi V;have hmb1:=hmb V2;rw [e2]at hmi1;rw [e3]at hmb1;replace hmb:=Lib.hid hmb
 have x2':V2.cell? ⟨w.heap.size,2,none⟩=some (.slice An len cn):=by
  rw [←e2];exact((Below.refl V.heap.size V).alloc (Nat.le_refl _) _).cell (p:=⟨w.heap.size,2,none⟩) (by show w.heap.size<V.heap.size;omega) |>.trans x2
 replace hel:=Lib.hid hel;replace hin:=Lib.hid hin;replace hl:=Lib.hid hl;have zz:=Lib.hid (And.intro z1 (And.intro z2 z3));have n3:=Lib.hid n;clear z1 z2 z3 n hmi rn g;rw [hl.out]at n3;go_enter Tryz.func32,Tryz.ntmps32
 go_upto_region 1 with fail
 clear e1;go_upto_region 2 with fail
 clear e2 x2 hmi1;go_upto_region 3 with fail
 clear e3 x2' hmb1;obtain rfl:=hMI;obtain rfl:=hMB;have zI:(List.replicate len (0:Int))=itr depN ns 0:=by rw [itr_zero,hl.out]
 have zB:(List.replicate len false)=knB ns 0:=by rw [knB_zero,hl.out]
 rw [zI,zB]at n3;replace zB:=Lib.hid zB;clear zI;have hb1:V.heap.size<V2.heap.size:=by have:=zz.out;omega
 go_wp2_with fail
 go_loopg [4,5] (len+1) (fun gz kv dv wr=>∃(d bk:Nat),kv=.slice (some ⟨bk,0,none⟩) len len∧dv=.int .i64 ((d:Int)+1)∧d+gz=len+1∧d≤len∧Hid (Hq F0 () () w wr [(bk,.cells (bls (knB ns d)).toArray 4),(V.heap.size,.cells (ints (itr depN ns d)).toArray 3),(w.heap.size,.cells #[lv,lq,.slice An len cn,.int .i64 rt] 45)]))
 case atStart=>exact⟨0,V2.heap.size,rfl,rfl,by omega,by omega,n3⟩
 case round =>
  clear n3;obtain⟨gq,hgq⟩:∃z,z=gk:=⟨gk,rfl⟩;subst hgq;obtain⟨d,bk,rfl,rfl,e1,e2,n⟩:=hrel;replace n:=n.out;obtain⟨WO,rfl⟩:∃V,V=wr:=⟨_,rfl⟩;have x2:=n.c 2 2 rfl rfl
  by_cases hd:d<len
  ·have hd1:(d:Int)+1≤(len:Int):=by omega
   have nn:=n;obtain⟨V4,e4,n,z4⟩:=n.new (.cells (bls (List.replicate len false)).toArray 4);have hmb2:=hmb.out WO;rw [e4]at hmb2;go_upto_region 7 with fail
   clear e4 z4 hmb2 nn x2;rw [zB.out]at n;replace n:=Lib.hid n;have hlk:(knB ns (d+1)).length=(knB ns 0).length:=by rw [knB_len,knB_len]
   have hli:(itr depN ns (d+1)).length=(itr depN ns d).length:=by rw [itr_len,itr_len]
   replace hlk:=Lib.hid hlk;replace hli:=Lib.hid hli;go_wp2_with fail
   go_loopg [7] len (fun gy i wr=>∃(J:Nat),i=.int .i64 J∧J+gy=len∧Hid (Hq F0 () () w wr [(WO.heap.size,.cells (bls (mixL (knB ns (d+1)) (knB ns 0) J)).toArray 4),(bk,.cells (bls (knB ns d)).toArray 4),(V.heap.size,.cells (ints (mixL (itr depN ns (d+1)) (itr depN ns d) J)).toArray 3),(w.heap.size,.cells #[lv,lq,.slice An len cn,.int .i64 rt] 45)]))
   case atStart=>exact⟨0,rfl,by omega,n⟩
   case round =>
    clear n;obtain⟨J,rfl,e3,n⟩:=hrel;replace n:=n.out;have x2:=n.c 3 2 rfl rfl
    by_cases hJ:J<len
    ·have hJ':J<ns.length:=by rw [hl.out];exact hJ
     obtain⟨gn,on,nv,ev,rfl,hgn,hrg,rS,rE⟩:=hel.out J hJ';obtain⟨a,e,q1,q2,q3,q4,q5,q6⟩:=kn_step hgl.out d J hJ';have gy:=hgl.out _ (List.getElem_mem hJ');have hye:=in_edges hin.out (List.getElem_mem hJ');have bw:=F0.bel n;obtain⟨A5,c5,rfl,-⟩:=rS.open;obtain⟨A6,c6,rfl,-,-⟩:=ed_el18 rE;have rg:wr.rangeAt gn (on+J*7) (nyL ns[J] (.slice A5 ns[J].names.length c5) (.slice A6 ns[J].edges.length c6)):=fun j u hj=>(bw.cell (p:=⟨gn,on+J*7+j,none⟩) hgn).trans (hrg j u hj)
     have rk:=rd_bls (n.b 1 rfl);have hkl:=knB_len ns d;rw [hkl,hl.out]at rk;have cO:=Lib.hid fun R hR=>one19_calls (ns[J]'hJ') gy (knB ns d) (by rw [hkl];exact hye) _ _ _ wr (rS.below bw) (rE.below bw) rk R hR
     rw [q4]at cO q3;have i0:(0:Int)≤(J:Int):=by omega
     have i1:(J:Int)<(len:Int):=by omega
     replace q1:=Lib.hid q1;replace q2:=Lib.hid q2;replace q3:=Lib.hid q3;replace q5:=Lib.hid q5;replace q6:=Lib.hid q6;clear hrg rS rE gy hye q4 rk hkl;generalize ns[J]=y at *;go_wp2_with (refine wpList_load_g (by rfl) 70 _ rfl gn (on+J*7) rfl _ _ rg Tryz.underlying70 rfl (by kernel_rfl) ?_;go_simp)
     refine cO.out _ (Lib.hid fun W6 m6=>?_);clear cO rg bw x2;replace n:=n.bl m6;have hJk:J<(knB ns (d+1)).length:=by rw [knB_len];exact hJ'
     have hJi:J<(itr depN ns (d+1)).length:=by rw [itr_len];exact hJ'
     obtain⟨ob,hob⟩:∃b,(mixL (knB ns (d+1)) (knB ns 0) J)[J]?=some b:=⟨_,List.getElem?_eq_getElem (by rw [mixL_len hlk.out (by omega)];exact hJk)⟩
     have c0:=bls_at (n.b 0 rfl) hob;have f0:=n.f 0 J rfl;obtain⟨b,hb⟩:∃b,decide (e≠0)=b:=⟨_,rfl⟩;rw [hb]at q3 ⊢;obtain⟨V7,e7,n,-⟩:=n.put (j:=0) rfl [(J,.bool b)];simp only[stL]at e7;simp only[stA,List.set_cons_zero,bls_set,mixL_set hlk.out hJk q3.out]at n;clear m6 hob;go_upto_region 11 with fail
     clear e7 c0 f0
     have q3':(mixL (knB ns (d+1)) (knB ns 0) (J+1))[J]?=some b:=by
      unfold mixL;rw [List.getElem?_append_left (by rw [List.length_take];omega),List.getElem?_take_of_lt (Nat.lt_succ_self J)]
      exact q3.out
     have c1:=bls_at (n.b 0 rfl) q3';have q1':(mixL (itr depN ns (d+1)) (itr depN ns d) J)[J]?=some a:=(mixL_get hli.out hJi).trans q1.out;have c2:=ints_at (n.b 2 rfl) q1';clear q3' q1';cases b with
     | true =>
      have hne:e≠0:=of_decide_eq_true hb
      by_cases a0:a=0
      ·have ta:(a==0)=true:=by simpa using a0
       obtain rfl:e=(d:Int)+1:=(q6.out a0).resolve_left hne;have f2:=n.f 2 J rfl;obtain⟨V8,e8,n,-⟩:=n.put (j:=2) rfl [(J,.int .i64 ((d:Int)+1))];simp only[stL]at e8;simp only[stA,List.set_cons_zero,List.set_cons_succ,ints_setB,mixL_set hli.out hJi q2.out]at n;replace n:=Lib.hid n;subst a0;clear hne hb q1 q2 q3 q5 q6 hJk hJi;go_wp2_with fail
       go_roundg (gk-1)
       case measure=>omega
       case rel=>exact⟨J+1,by go_num,by omega,n⟩
      ·have ta:(a==0)=false:=by simpa using a0
       have ek:=mixL_keep hli.out hJi (by rw [q1.out,q2.out,q5.out a0]);rw [ek]at n;replace n:=Lib.hid n;clear hne hb q1 q2 q3 q5 q6 hJk hJi ek a0;go_wp2_with fail
       go_roundg (gk-1)
       case measure=>omega
       case rel=>exact⟨J+1,by go_num,by omega,n⟩
     | false =>
      have he:e=0:=by simpa using hb
      have ha:a=0:=Classical.byContradiction fun q=>q (by rw [←q5.out q,he])
      have ek:=mixL_keep hli.out hJi (by rw [q1.out,q2.out,ha,he]);rw [ek]at n;replace n:=Lib.hid n;clear he ha hb q1 q2 q3 q5 q6 hJk hJi ek;go_wp2_with fail
      go_roundg (gk-1)
      case measure=>omega
      case rel=>exact⟨J+1,by go_num,by omega,n⟩
    ·obtain rfl:J=len:=by omega
     have k1:=mixL_all hlk.out;have k2:=mixL_all hli.out;rw [knB_len,hl.out]at k1;rw [itr_len,hl.out]at k2;rw [k1,k2]at n;have n9:=Lib.hid (Hq.sl n (l':=[(WO.heap.size,.cells (bls (knB ns (d+1))).toArray 4),(V.heap.size,.cells (ints (itr depN ns (d+1))).toArray 3),(w.heap.size,.cells #[lv,lq,.slice An J cn,.int .i64 rt] 45)]) (.cons_cons _ (.cons _ (.cons_cons _ (.cons_cons _ .slnil)))));clear n k1 k2;go_wp2_with fail
     go_roundg (gq-1)
     case measure=>omega
     case rel=>exact⟨d+1,WO.heap.size,rfl,by go_num,by omega,by omega,n9⟩
  ·obtain rfl:d=len:=by omega
   have hd1:¬(d:Int)+1≤(d:Int):=by omega
   have rD:=rd_ints (n.b 1 rfl);rw [itr_len,hl.out]at rD;have hR2:=hR.out;rw [hl.out]at hR2;have fin:=Lib.hid (hR2 WO _ rD (F0.bel n));clear n hR hR2 rD;go_wp2_with fail
   exact fin.out
end Go.Proofs.YtncckdaflellnaaGreat.Inh
