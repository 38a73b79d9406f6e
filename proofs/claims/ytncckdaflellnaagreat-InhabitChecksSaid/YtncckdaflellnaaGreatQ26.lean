import Derived.Test.YtncckdaflellnaaGreatQ25
set_option linter.all false
set_option maxRecDepth 100000
set_option maxHeartbeats 4000000
namespace Go.Proofs.YtncckdaflellnaaGreat.Res
open Go.RowKit Go.Lib Utf Nam Lat Kin Unp Rel Lab
section
variable {base B:Nat} {lv tv tab:Value} {h:TH} {nv pv:Value}
theorem bs_stApp{s0 s:BS}{w V W:World}{l:List (Nat×Obj)}(n:Hq (BF base B lv tv tab h nv pv) s0 s w V l){v':Value}{x:Int}(ow:W.ownsRow base 3 1 v' (s.st.length+1) (ints (s.st++[x])))(g:V.grownBy W s.sv.ownBlock)(fr:∀b,v'.ownBlock=some b→s.sv.ownBlock=some b∨V.heap.size≤b) :
  Hq (BF base B lv tv tab h nv pv) s0 { s with st:=s.st++[x],sv:=v' } w (W.setCell ⟨B,14,none⟩ v') l:=by
 have i:BInv base B lv tv tab h nv pv V s:=n.inv;have lB:=hp_lt i.box;have sz:(W.setCell ⟨B,14,none⟩ v').heap.size=W.heap.size:=by simp [World.setCell]
 have hne:∀k,k≠B→(W.setCell ⟨B,14,none⟩ v').heap[k]?=W.heap[k]?:=fun k hk=>hp_sne hk
 have hst:∀k,k<V.heap.size→s.sv.ownBlock≠some k→k≠B→(W.setCell ⟨B,14,none⟩ v').heap[k]?=V.heap[k]?:=fun k h1 h2 h3=>(hne k h3).trans (g.block k h1 fun e=>h2 e.symm)
 have v1:v'.ownBlock≠some B:=fun q=>by rcases fr B q with e|e;exact i.d1 e;omega
 have hb:=hp_sat ((g.block B lB fun e=>i.d1 e.symm).trans i.box) 14 v';rw [List.setIfInBounds_toArray]at hb
 have sub:∀k,bFr base B { s with st:=s.st++[x],sv:=v' } k→bFr base B s k∨V.heap.size≤k:=fun k q=>by
  rcases q.2 with e|e|e|e
  ·exact .inl ⟨q.1,.inl e⟩
  ·rcases fr k e with e|e
   ·exact .inl ⟨q.1,.inr (.inl e)⟩
   ·exact .inr e
  ·exact .inl ⟨q.1,.inr (.inr (.inl e))⟩
  ·exact .inl ⟨q.1,.inr (.inr (.inr e))⟩
 refine n.call ⟨⟨i.hB,hb,?_,?_,fun k q=>?_,fun y hy=>?_,v1,i.d2,fun k q q2=>?_,i.sh⟩,⟨?_,?_,?_,?_,fun k hk hn=>?_⟩,sub,by simp,by simp,.nil⟩
 ·rw [List.length_append]
  exact ownKp ow fun k q _=>hne k fun e=>v1 (e▸q)
 ·exact ownKp i.on fun k q _=>hst k (i.on.lt k q).2 (fun e=>i.d3 k e q) fun e=>i.d2 (e▸q)
 ·obtain⟨t1,t2,t3,t4,t5⟩:=i.t k q
  exact⟨t1,by rw [sz];exact Nat.lt_of_lt_of_le t2 g.size,t3,fun e=>by rcases fr k e with e|e;exact t4 e;omega,t5⟩
 ·have kp:Kp (empW (fun k=>¬s.T k) V) (empW (fun k=>¬s.T k) (W.setCell ⟨B,14,none⟩ v')):=emp_kp (by rw [sz];exact g.size) fun k hk hn=>⟨hn,hst k hk (i.t k (Classical.not_not.1 hn)).2.2.2.1 (i.t k (Classical.not_not.1 hn)).2.2.1⟩
  exact⟨RdAt.kp kp (i.rd y hy).1,RdAt.kp kp (i.rd y hy).2⟩
 ·rcases fr k q with e|e
  ·exact i.d3 k e q2
  ·have:=(i.on.lt k q2).2;omega
 ·have m:=(Below.refl B W).setCell (p:=⟨B,14,none⟩) (Nat.le_refl _) v';exact m.os.trans g.os
 ·have m:=(Below.refl B W).setCell (p:=⟨B,14,none⟩) (Nat.le_refl _) v';exact m.tape.trans g.tape
 ·have m:=(Below.refl B W).setCell (p:=⟨B,14,none⟩) (Nat.le_refl _) v';exact m.output.trans g.output
 ·rw [sz];exact g.size
 ·refine hst k hk (fun e=>hn ⟨(i.os.lt k e).1,.inr (.inl e)⟩) fun e=>hn ⟨e▸i.hB,.inl e⟩
theorem bs_ndApp{s0 s:BS}{w V V1 W:World}{l:List (Nat×Obj)}(n:Hq (BF base B lv tv tab h nv pv) s0 s w V l)(m1:Below V.heap.size V V1){v':Value}{x:Nv}(hx1:RdS (empW (lowS V.heap.size) V1) x.2.1 x.1.names)(hx2:RdEd (empW (lowS V.heap.size) V1) x.2.2 x.1.edges)(hx3:Shp x.2.1∧Shp x.2.2)(ow:W.ownsRow base 74 7 v' (s.nd.length+1) (flatG encN (s.nd++[x])))(g:V1.grownBy W s.nv.ownBlock)(fr:∀b,v'.ownBlock=some b→s.nv.ownBlock=some b∨V1.heap.size≤b) :
  Hq (BF base B lv tv tab h nv pv) s0 { s with nd:=s.nd++[x],nv:=v',T:=fun k=>s.T k∨(V.heap.size≤k∧k<V1.heap.size) } w (W.setCell ⟨B,15,none⟩ v') l:=by
 have i:BInv base B lv tv tab h nv pv V s:=n.inv;have lB:=hp_lt i.box;have bB:base≤V.heap.size:=Nat.le_trans i.hB (Nat.le_of_lt lB);have sz:(W.setCell ⟨B,15,none⟩ v').heap.size=W.heap.size:=by simp [World.setCell]
 have s1:=m1.size;have s2:=g.size;have hne:∀k,k≠B→(W.setCell ⟨B,15,none⟩ v').heap[k]?=W.heap[k]?:=fun k hk=>hp_sne hk
 have hst1:∀k,k<V1.heap.size→s.nv.ownBlock≠some k→k≠B→(W.setCell ⟨B,15,none⟩ v').heap[k]?=V1.heap[k]?:=fun k h1 h2 h3=>(hne k h3).trans (g.block k h1 fun e=>h2 e.symm)
 have hst:∀k,k<V.heap.size→s.nv.ownBlock≠some k→k≠B→(W.setCell ⟨B,15,none⟩ v').heap[k]?=V.heap[k]?:=fun k h1 h2 h3=>(hst1 k (by omega) h2 h3).trans (m1.block k h1)
 have v1:v'.ownBlock≠some B:=fun q=>by rcases fr B q with e|e;exact i.d2 e;omega
 have hb:=hp_sat (((g.block B (by omega) fun e=>i.d2 e.symm).trans (m1.block B lB)).trans i.box) 15 v';rw [List.setIfInBounds_toArray]at hb;have oldn:∀k,s.nv.ownBlock=some k→k<V.heap.size:=fun k q=>(i.on.lt k q).2
 have sub:∀k,bFr base B { s with nd:=s.nd++[x],nv:=v',T:=fun k=>s.T k∨(V.heap.size≤k∧k<V1.heap.size) } k→bFr base B s k∨V.heap.size≤k:=fun k q=>by
  rcases q.2 with e|e|e|e|e
  ·exact .inl ⟨q.1,.inl e⟩
  ·exact .inl ⟨q.1,.inr (.inl e)⟩
  ·rcases fr k e with e|e
   ·exact .inl ⟨q.1,.inr (.inr (.inl e))⟩
   ·exact .inr (by omega)
  ·exact .inl ⟨q.1,.inr (.inr (.inr e))⟩
  ·exact .inr e.1
 refine n.call ⟨⟨i.hB,hb,?_,?_,fun k q=>?_,fun y hy=>?_,i.d1,v1,fun k q q2=>?_,fun y hy=>by
  rcases List.mem_append.1 hy with hy|hy
  ·exact i.sh y hy
  ·obtain rfl:=List.mem_singleton.1 hy
   exact hx3⟩,⟨?_,?_,?_,by omega,fun k hk hn=>?_⟩,sub,by simp,by simp,.nil⟩
 ·exact ownKp i.os fun k q _=>hst k (i.os.lt k q).2 (fun e=>i.d3 k q e) fun e=>i.d1 (e▸q)
 ·rw [List.length_append]
  exact ownKp ow fun k q _=>hne k fun e=>v1 (e▸q)
 ·rcases q with q|q
  ·obtain⟨t1,t2,t3,t4,t5⟩:=i.t k q
   exact⟨t1,by omega,t3,t4,fun e=>by rcases fr k e with e|e;exact t5 e;omega⟩
  ·exact⟨by omega,by omega,by omega,fun e=>by have:=(i.os.lt k e).2;omega,fun e=>by rcases fr k e with e|e;(have:=oldn k e;omega);omega⟩
 ·rcases List.mem_append.1 hy with hy|hy
  ·have kp:Kp (empW (fun k=>¬s.T k) V) (empW (fun k=>¬(s.T k∨(V.heap.size≤k∧k<V1.heap.size))) (W.setCell ⟨B,15,none⟩ v')):=emp_kp (by omega) fun k hk hn=>⟨fun q=>q (.inl (Classical.not_not.1 hn)),hst k hk (i.t k (Classical.not_not.1 hn)).2.2.2.2 (i.t k (Classical.not_not.1 hn)).2.2.1⟩
   exact⟨RdAt.kp kp (i.rd y hy).1,RdAt.kp kp (i.rd y hy).2⟩
  ·obtain rfl:=List.mem_singleton.1 hy
   have kp:Kp (empW (lowS V.heap.size) V1) (empW (fun k=>¬(s.T k∨(V.heap.size≤k∧k<V1.heap.size))) (W.setCell ⟨B,15,none⟩ v')):=emp_kp (by omega) fun k hk hn=>by
    have hk2:V.heap.size≤k:=Nat.le_of_not_lt hn;exact⟨fun q=>q (.inr ⟨hk2,hk⟩),hst1 k hk (fun e=>by have:=oldn k e;omega) (by omega)⟩
   exact⟨RdAt.kp kp hx1,RdAt.kp kp hx2⟩
 ·rcases fr k q2 with e|e
  ·exact i.d3 k q e
  ·have:=(i.os.lt k q).2;omega
 ·have m:=(Below.refl B W).setCell (p:=⟨B,15,none⟩) (Nat.le_refl _) v';exact m.os.trans (g.os.trans m1.os)
 ·have m:=(Below.refl B W).setCell (p:=⟨B,15,none⟩) (Nat.le_refl _) v';exact m.tape.trans (g.tape.trans m1.tape)
 ·have m:=(Below.refl B W).setCell (p:=⟨B,15,none⟩) (Nat.le_refl _) v';exact m.output.trans (g.output.trans m1.output)
 ·refine hst k hk (fun e=>hn ⟨(i.on.lt k e).1,.inr (.inr (.inl e))⟩) fun e=>hn ⟨e▸i.hB,.inl e⟩
end
section
variable {base B:Nat} {lv tv tab:Value} {rh:TH} {rnv rpv:Value} {w0:World}
def tl1(c:Int)(h:TH):Int:=if h.kind=9 then c else wrap64 (c+1)
def kntF:Int→Ft→Int
| c,.nil=>c
| c,.cons p h k r=>if p.bare then kntF c r else kntF (kntF (tl1 c h) k) r
def kntT(c:Int)(h:TH)(f:Ft):Int:=kntF (tl1 c h) f
theorem tally_eq(s:BS)(h:TH)(f:Ft):tallyS s h f=((0,0),{ s with count:=tl1 s.count h }):=by
 unfold tallyS tl1
 by_cases c:h.kind=9
 ·rw [if_pos c,if_pos c]
 ·rw [if_neg c,if_neg c]
theorem inF_tally:∀(f:Ft)(s:BS),inF tallyS s f=((0,0),{ s with count:=kntF s.count f })
| .nil,s=>rfl
| .cons p h k r,s=>by
 show(if p.bare=true then inF tallyS s r else if(tallyS s h k).1.1≠0 then tallyS s h k else if(inF tallyS (tallyS s h k).2 k).1.1≠0 then inF tallyS (tallyS s h k).2 k else inF tallyS (inF tallyS (tallyS s h k).2 k).2 r)=((0,0),{ s with count:=if p.bare=true then kntF s.count r else kntF (kntF (tl1 s.count h) k) r })
 by_cases c:p.bare=true
 ·rw [if_pos c,if_pos c,inF_tally r]
 ·rw [if_neg c,if_neg c,tally_eq,if_neg (by simp),inF_tally k,if_neg (by simp),inF_tally r]
theorem inT_tally(s:BS)(h:TH)(f:Ft):inT tallyS s h f=((0,0),{ s with count:=kntT s.count h f }):=by
 unfold inT;rw [tally_eq,if_neg (by simp),inF_tally];rfl
theorem int_in:(Tryz.prog.info? 3).map (fun i=>(i.zero,i.size,i.bytes))=some (some (.int .i64 0),1,8):=by kernel_rfl
theorem own_sl{w:World}{base:Nat}{e:TypeId}{k n:Nat}{v:Value}{xs:List Value}(h:w.ownsRow base e k v n xs):∃A m c,v=.slice A m c:=by
 obtain⟨-,⟨rfl,-⟩|⟨g,cap,cur,rfl,-⟩⟩:=h
 ·exact⟨_,_,_,rfl⟩
 ·exact⟨_,_,_,rfl⟩
theorem int_info:∃i0,Tryz.prog.info? 3=some i0∧(i0.zero,i0.size,i0.bytes)=(some (.int .i64 0),1,8):=by
 have:=int_in;cases h:Tryz.prog.info? 3 with
 | none=>rw [h]at this;cases this
 | some i0=>rw [h]at this;exact⟨i0,rfl,by simpa using this⟩
theorem isF_number:IsF 113:=by
 intro args w;unfold callFunc;simp [go_sem,Tryz.func113];rfl
theorem number_calls(hlow:w0.heap.size≤base)(s:BS)(h:TH)(f:Ft)(nv' pv':Value)(w:World)(hst:s.st.length≤1000000)(hI:(BF base B lv tv tab rh rnv rpv).Inv w s)(hb:Below w0.heap.size w0 w)(hy:RdY w0 h f nv' pv')(hg:GoodT h f)(R:Ending→World→Prop)
  (hR:Hid (∀W v',Hq (BF base B lv tv tab rh rnv rpv) s { s with st:=s.st++[s.count],sv:=v',count:=kntT s.count h f } w W []→R (.returned (FtV (0,0))) W)):Calls Tryz.prog 113 #[.pointer (some ⟨B,0,none⟩),tyV h nv' pv'] w R:=by
 obtain⟨ti,hTI,hZ⟩:=int_info;simp only[Prod.mk.injEq]at hZ;obtain⟨hz0,hz1,hz2⟩:=hZ;obtain⟨An,cn,rfl,-,-⟩:=hy.n.op;obtain⟨Ap,cp,rfl,-⟩:=hy.p.sl;have m0:=Hq.nil hI;obtain⟨V1,e1,m1,z1⟩:=m0.new (.cells (tyL h (.slice An h.names.length cn) (.slice Ap f.len cp)).toArray 29);obtain⟨V,e2,n,z2⟩:=m1.new (.cells #[.int .i64 0,.int .i64 0] 34);clear m0 m1 z1 z2;go_enter Tryz.func113,Tryz.ntmps113
 go_upto_region 1 with fail
 clear e1 e2;have hmf:∀(fn:Fn) (first cap:Array Value) (w:World),(Instr.makeFunc fn first cap).run Tryz.prog w=.ok (.func fn first cap) w:=fun _ _ _ _=>rfl
 have hlo:=bF_low base B lv tv tab rh rnv rpv hlow;have inv:BInv base B lv tv tab rh rnv rpv V s:=n.inv;have b13:=fun y:RW (fun k=>s.sv.ownBlock=some k) V=>y.cell n.bl_ inv.d1 (n.bc 13 rfl)
 have b14:=fun y:RW (fun k=>s.sv.ownBlock=some k) V=>y.cell n.bl_ inv.d1 (n.bc 14 rfl)
 have gW:Below V.heap.size V (V.drewN 1):=below_drewN (Below.refl _ _) 1;have own:(V.drewN 1).ownsRow base 3 1 s.sv s.st.length (ints s.st):=ownKp inv.os fun _ _ _=>rfl
 have hsz:base≤(V.drewN 1).heap.size:=Nat.le_trans inv.hB (Nat.le_of_lt n.bl_);refine wp_region_trS (fun k=>s.sv.ownBlock=some k) (.one [0,1,2,3,4,5,6,7,8] 9 (.one [] 10 (.one [] 11 (.last [12])))) 13 (by kernel_rfl) (by kernel_rfl) (by kernel_rfl) (by kernel_rfl) (by decide) (fun _ _ d _ _ h=>by cases d<;>exact h) ?_
 refine tr_one (os:=[_,_,_,_,_,_,_,_,_]) (by simp only[pickO,List.filterMap_cons,List.filterMap_nil,List.getElem?_toArray,List.getElem?_cons_succ,List.getElem?_cons_zero];rfl) (fun Kp hKp=>?_)
 repeat (go_big_quiet_step (exact rfl))
 refine wpQuiet_nil ?_;refine hKp _ ?_;clear hKp;refine loudr (by rfl) (by kernel_rfl) (fun K1 hK1=>?_);go_simp;refine hK1 _ _ (RW.of ((Gr.rfl' _ V).bl (gW.alloc gW.size _))) ?_;clear hK1;refine tr_one (os:=[]) (by rfl) (fun Kp hKp=>?_);refine wpQuiet_nil ?_;refine hKp _ ?_;clear hKp;refine loudr (by rfl) (by kernel_rfl) (fun K2 hK2=>?_);refine appOp (V.drewN 1) #[.int .i64 s.count] 1 3 _ _ 51 rfl base ti (.int .i64 0) 8 Tryz.underlying51 hTI hz0 hz1 hz2 rfl (by decide) rfl s.sv s.st.length (ints s.st) rfl own _ rfl rfl (by simp [Value.oneCell']) (by unfold maxLen;omega) (by omega) hsz ?_
 intro v' w2 hown hgr hfr;obtain⟨A',m',c',rfl⟩:=own_sl hown;have gA:Gr (fun k=>s.sv.ownBlock=some k) V w2:=((Gr.rfl' _ V).bl gW).trans (Gr.ofRow hgr) fun k e=>.inl e
 go_simp;refine hK2 _ _ (RW.of gA) ?_;clear hK2;refine tr_one (os:=[]) (by rfl) (fun Kp hKp=>?_);refine wpQuiet_nil ?_;refine hKp _ ?_;clear hKp;refine loudr (by rfl) (by kernel_rfl) (fun K3 hK3=>?_);go_simp;refine hK3 _ _ (RW.of gA) ?_;clear hK3;refine tr_last (os:=[_]) (by simp only[pickO,List.filterMap_cons,List.filterMap_nil,List.getElem?_toArray,List.getElem?_cons_succ,List.getElem?_cons_zero];rfl) (fun Kp hKp=>?_)
 repeat (go_big_quiet_step (exact rfl))
 refine wpQuiet_nil ?_;refine hKp _ ?_;clear hKp;have hbx:w2.heap[B]?=_:=(hgr.block B (by have:=n.bl_;exact this) fun e=>inv.d1 e.symm).trans inv.box
 have bf:=Lib.frozen_of_heap hbx 14;have bc:w2.cell? ⟨B,14,none⟩=some s.sv:=by rw [Lib.cell_of_heap hbx];rfl
 obtain⟨V4,e4,n⟩:∃V4,w2.setCell ⟨B,14,none⟩ (.slice A' m' c')=V4∧Hq (BF base B lv tv tab rh rnv rpv) s { s with st:=s.st++[s.count],sv:=.slice A' m' c' } w V4 [(V1.heap.size,.cells #[.int .i64 0,.int .i64 0] 34),(w.heap.size,.cells (tyL h (.slice An h.names.length cn) (.slice Ap f.len cp)).toArray 29)]:=⟨_,rfl,bs_stApp (n.bl gW) (x:=s.count) (by
  have e:ints (s.st++[s.count])=ints s.st++[.int .i64 s.count]:=by simp [ints]
  rw [e];exact hown) hgr (fun b q=>by
  rcases hfr with e|e
  ·exact .inl (e.symm.trans q)
  ·refine .inr ?_
   rw [e]at q;simp only[Option.some.injEq]at q;omega)⟩
 refine loudl (by rfl) (by kernel_rfl) ?_;go_simp;clear e4 bf bc hbx gA hfr hgr hown b13 b14 gW own inv;have rT:=n.rg 1 rfl;have hbV:=hb.trans (n.below hb.size (hlo s));go_wp2_with (refine wpList_load_g (by rfl) 29 _ rfl w.heap.size (0) rfl _ _ rT Tryz.underlying29 rfl (by kernel_rfl) ?_;go_simp)
 refine within_calls GoodT (BF base B lv tv tab rh rnv rpv) w0 164 (.pointer (some ⟨B,0,none⟩)) tallyS (fun _ _ g=>g) (fun h f K p x kd r g e hb=>by
  obtain⟨gp,gx,gk,ga⟩:=all_at K g.2.2 e;exact⟨gx,gk,ga⟩) hlo isF_tally (tally_calls GoodT) f { s with st:=s.st++[s.count],sv:=.slice A' m' c' } h _ _ V4 n.inv hbV hy hg _ (Lib.hid fun W1 c1=>?_)
 rw [inT_tally]at c1 ⊢;replace n:=n.call c1;clear c1 rT hbV;have y0:=n.c 0 0 rfl rfl;have yf0:=n.f 0 0 rfl;have y1:=n.c 0 1 rfl rfl;have yf1:=n.f 0 1 rfl;obtain⟨VE,eE,nE,-⟩:=n.put (j:=0) rfl [(0,.int .i64 0),(1,.int .i64 0)];simp only[stL]at eE;simp only[stA,List.setIfInBounds_toArray,List.set_cons_succ,List.set_cons_zero]at nE;have w0_:=nE.c 0 0 rfl rfl;have w1_:=nE.c 0 1 rfl rfl;have fin:=Lib.hid (hR.out _ _ nE.fin);clear nE n hR;go_wp2_with fail
 first|refine bodyPost_ret ?_ rfl fin.out|refine bodyPost_end ?_ rfl fin.out
 simp [results,Tryz.results113,go_sem,w0_,w1_]
end
section
variable {base B:Nat} {lv tv tab:Value} {rh:TH} {rnv rpv:Value} {w0:World}
theorem each0_calls{G:TH→Ft→Prop}{tys:List Nd}{rf:Ft}{fn:FuncId}(J:Nat→BS→Prop)(ht:RdNs w0 tv tys)(hroot:RdY w0 rh rf rnv rpv)(hlow:w0.heap.size≤base)(hl:tys.length≤maxLen)(hG:∀x∈tys,G x.2.1 x.2.2)(hGr:G rh rf)(hfn:IsF fn)
  (hop:∀K s h f nv' pv' V,(K<tys.length∧h=(nN tys K).2.1∧f=(nN tys K).2.2∨K=tys.length∧h=rh∧f=rf)→J K s→(BF base B lv tv tab rh rnv rpv).Inv V s→Below w0.heap.size w0 V→RdY w0 h f nv' pv'→G h f→∀R:Ending→World→Prop,Hid (∀W s',J (K+1) s'→Hq (BF base B lv tv tab rh rnv rpv) s s' V W []→R (.returned (FtV (0,0))) W)→Calls Tryz.prog fn #[.pointer (some ⟨B,0,none⟩),tyV h nv' pv'] V R)
  (s:BS) (w:World) (h0:J 0 s) (hI:(BF base B lv tv tab rh rnv rpv).Inv w s) (hb:Below w0.heap.size w0 w) (R:Ending→World→Prop)
  (hR:Hid (∀W s',J (tys.length+1) s'→Hq (BF base B lv tv tab rh rnv rpv) s s' w W []→R (.returned (FtV (0,0))) W)):Calls Tryz.prog 109 #[.pointer (some ⟨B,0,none⟩),.func (.func fn) #[.pointer (some ⟨B,0,none⟩)] #[]] w R:=by
 replace hl:tys.length≤9223372036854775807:=hl;obtain⟨A,c,rfl,hc,hel⟩:=nds_el ht;obtain⟨Rn,rn,rfl,-,-⟩:=hroot.n.op;obtain⟨Rp,rp,rfl,-⟩:=hroot.p.sl;have m0:=Hq.nil hI;obtain⟨V,e2,n,z2⟩:=m0.new (.cells #[.int .i64 0,.int .i64 0] 34);clear m0 z2;unfold IsF at hfn;replace hel:=Lib.hid hel;replace hG:=Lib.hid hG;replace hop:=Lib.hid hop;have b1:=n.bc 1 rfl;have hlo:=bF_low base B lv (.slice A tys.length c) tab rh (.slice Rn rh.names.length rn) (.slice Rp rf.len rp) hlow;go_enter Tryz.func109,Tryz.ntmps109
 go_upto_region 1 with fail
 clear e2;go_wp2_with fail
 clear b1;go_loopg [13] tys.length (fun g i wr=>∃(K:Nat) (sK:BS),i=.int .i64 K∧K+g=tys.length∧Hid (J K sK)∧Hid (Hq (BF base B lv (.slice A tys.length c) tab rh (.slice Rn rh.names.length rn) (.slice Rp rf.len rp)) s sK w wr [(w.heap.size,.cells #[.int .i64 0,.int .i64 0] 34)]))
 case atStart=>exact⟨0,s,rfl,by omega,Lib.hid h0,Lib.hid n⟩
 case round =>
  clear n;obtain⟨K,sK,rfl,e1,jK,n⟩:=hrel;replace n:=n.out;have hbW:=hb.trans (n.below hb.size (hlo s))
  by_cases hK:K<tys.length
  ·obtain⟨g,o,N1,N3,M1,M3,rfl,hxy,hrg⟩:=hel.out K hK
   have hGx:=hG.out _ (nd_mem hK);have rg:=hrg wr hbW;have hop1:=Lib.hid fun nv' pv' V=>hop.out K sK (nN tys K).2.1 (nN tys K).2.2 nv' pv' V (.inl ⟨hK,rfl,rfl⟩) jK.out
   clear hrg hbW;generalize nN tys K=x at *;have i0:(0:Int)≤(K:Int):=by omega
   have i1:(K:Int)<(tys.length:Int):=by omega
   obtain⟨V3,e3,n,z3⟩:=n.new (.cells (ndL x (.slice N1 x.2.1.names.length N3) (.slice M1 x.2.2.len M3)).toArray 121);go_upto_region 4 with(first|(refine wpList_load_g (by rfl) 121 _ rfl g (o+K*11) rfl _ _ rg Tryz.underlying121 rfl (by kernel_rfl) ?_;go_simp)|(refine wpList_copy (ndL x (.slice N1 x.2.1.names.length N3) (.slice M1 x.2.2.len M3)).toArray ⟨rfl,rfl,rfl⟩ ⟨rfl,rfl,rfl⟩ named_alloc (by kernel_rfl) ⟨rfl,by simp [Value.oneCell']⟩ (fun _=>⟨rfl,rfl⟩) ?_;go_simp))
   clear rg e3 z3;have r2:V3.rangeAt wr.heap.size 2 (tyL x.2.1 (.slice N1 x.2.1.names.length N3) (.slice M1 x.2.2.len M3)):=n.rgd 0 2 rfl;have hbV:=hb.trans (n.below hb.size (hlo s));go_wp2_with (refine wpList_load_g (by rfl) 29 _ rfl wr.heap.size (2) rfl _ _ r2 Tryz.underlying29 rfl (by kernel_rfl) ?_;go_simp)
   refine hop1.out _ _ V3 n.inv hbV hxy hGx _ (Lib.hid fun W4 s4 j4 c4=>?_);replace n:=(n.call c4).tail;clear c4 r2 hbV hGx hxy hop1;obtain⟨b,hb0⟩:∃b:Int×Int,b=(0,0):=⟨_,rfl⟩;rw [←hb0];obtain⟨b0,b1⟩:=b;simp only[Prod.mk.injEq]at hb0;replace hb0:=Lib.hid hb0;obtain⟨V5,e5,n,z5⟩:=n.new (.cells #[.int .i64 b0,.int .i64 b1] 34);go_upto_region 5 with fail
   clear e5 z5;obtain⟨rfl,rfl⟩:=hb0.out;have a_0:=n.c 0 0 rfl rfl;have a_1:=n.c 0 1 rfl rfl;replace n:=Lib.hid n.tail;replace j4:=Lib.hid j4;clear hR;go_wp2_with fail
   go_roundg (gk-1)
   case measure=>omega
   case rel=>exact⟨K+1,s4,by go_num,by omega,j4,n⟩
  ·obtain rfl:K=tys.length:=by omega
   have rB:=bs_root n;have hop1:=Lib.hid fun nv' pv' V=>hop.out tys.length sK rh rf nv' pv' V (.inr ⟨rfl,rfl,rfl⟩) jK.out
   go_wp2_with (refine wpList_load_g (by rfl) 29 _ rfl B (2) rfl _ _ rB Tryz.underlying29 rfl (by kernel_rfl) ?_;go_simp)
   refine hop1.out _ _ wr n.inv hbW hroot hGr _ (Lib.hid fun W4 s4 j4 c4=>?_);replace n:=n.call c4;clear c4 rB hbW hop1;have y0:=n.c 0 0 rfl rfl;have yf0:=n.f 0 0 rfl;have y1:=n.c 0 1 rfl rfl;have yf1:=n.f 0 1 rfl;obtain⟨VE,eE,nE,-⟩:=n.put (j:=0) rfl [(0,.int .i64 0),(1,.int .i64 0)];simp only[stL]at eE;simp only[stA,List.setIfInBounds_toArray,List.set_cons_succ,List.set_cons_zero]at nE;have w0_:=nE.c 0 0 rfl rfl;have w1_:=nE.c 0 1 rfl rfl;have fin:=Lib.hid (hR.out _ _ j4 nE.fin);clear nE n hR;go_wp2_with fail
   first|refine bodyPost_ret ?_ rfl fin.out|refine bodyPost_end ?_ rfl fin.out
   simp [results,Tryz.results109,go_sem,w0_,w1_]
end
theorem own_emp18{w:World}{base:Nat}{e:TypeId}{k n:Nat}{v:Value}{xs:List Value}(h:w.ownsRow base e k v n xs):RdAt (empW (lowS base) w) v k xs:=by
 have h0:=h;obtain⟨hl,⟨rfl,rfl⟩|⟨g,cap,cur,rfl,hb,hg,hn,hm,hc,ht⟩⟩:=h
 ·exact⟨none,0,0,rfl,hl,Nat.le_refl _,fun h=>absurd h (by omega)⟩
 ·refine⟨_,n,cap,rfl,hl,hn,fun _=>⟨g,0,rfl,?_,fun j u hj=>?_⟩⟩
  ·rw [emp_size]
   exact(h0.lt g rfl).2
  ·have:=h0.cells (g:=g) rfl j u hj
   rw [Addr.add_lit]at this;exact emp_cell.2 ⟨by unfold lowS;omega,this⟩
theorem str_in:(Tryz.prog.info? 9).map (fun i=>(i.zero,i.size,i.bytes))=some (some (.string ⟨#[]⟩),1,16):=by kernel_rfl
theorem str_info:∃i0,Tryz.prog.info? 9=some i0∧(i0.zero,i0.size,i0.bytes)=(some (.string ⟨#[]⟩),1,16):=by
 have:=str_in;cases h:Tryz.prog.info? 9 with
 | none=>rw [h]at this;cases this
 | some i0=>rw [h]at this;exact⟨i0,rfl,by simpa using this⟩
theorem nms_take{l:List Wr}{K:Nat}(h:K<l.length):sv ((nms l).take (K+1))=sv ((nms l).take K)++[.string (wN l K).1]:=by
 have hk:K<(nms l).length:=by rw [nms_len];exact h
 rw [List.take_succ_eq_append_getElem hk,wN_get h];simp [sv,nms]
theorem texts_calls(l:List Wr)(hl:l.length≤1000000)(va:Value)(w:World)(ha:RdW w va l)(R:Ending→World→Prop)(hR:Hid (∀v' w',RdS (empW (lowS w.heap.size) w') v' (nms l)→Shp v'→Below w.heap.size w w'→R (.returned v') w')):Calls Tryz.prog 165 #[va] w R:=by
 obtain⟨ti,hI,hZ⟩:=str_info;simp only[Prod.mk.injEq]at hZ;obtain⟨hz0,hz1,hz2⟩:=hZ;obtain⟨A,ca,rfl,hca,hra⟩:=ha.op;replace hra:=Lib.hid hra;clear ha;go_enter Tryz.func165,Tryz.ntmps165
 go_wp2_with fail
 go_loopg [3,8] l.length (fun g s k wr=>∃(K:Nat) (v:Value),s=v∧k=.int .i64 K∧K+g=l.length∧Hid (Below w.heap.size w wr)∧Hid (wr.ownsRow w.heap.size 9 1 v K (sv ((nms l).take K))))
 case atStart=>exact⟨0,_,rfl,rfl,by omega,Lib.hid (Below.refl _ _),Lib.hid (by simpa [sv]using World.ownsRow_nil _ _ _ _)⟩
 case round =>
  obtain⟨K,v,rfl,rfl,e1,nb,own⟩:=hrel
  by_cases hK:K<l.length
  ·obtain⟨g,o,rfl,hg,hc⟩:=hra.out (by omega)
   have x0:=(nb.out.cell (p:=⟨g,o+K*2,none⟩) hg).trans (hc K hK).1;have x1:=(nb.out.cell (p:=⟨g,o+K*2+1,none⟩) hg).trans (hc K hK).2;have i0:(0:Int)≤(K:Int):=by omega
   have i1:(K:Int)<(l.length:Int):=by omega
   have ht:=nms_take hK;clear hc;generalize(wN l K).1=s at *;generalize(wN l K).2=z at *;have bP:=(Below.refl wr.heap.size wr).alloc (Nat.le_refl _) (.cells #[.string s,.int .i64 z] 27);have hb:=heap_alloc_new wr (.cells #[.string s,.int .i64 z] 27);have own1:=Lib.hid (own_below own.out bP);have nbP:=Lib.hid (nb.out.trans (bP.mono nb.out.size));have hsz:=nbP.out.size;go_upto_region 5 with fail
   generalize wr.alloc (.cells #[.string s,.int .i64 z] 27)=V at *;generalize wr.heap.size=B at *;clear x0 x1 own nb bP;have x0:=(Lib.cell_of_heap hb 0).trans rfl;clear hb;go_wp2_with (at_builtin;go_loud (refine appKF V #[.string s] 1 9 rfl _ _ 67 rfl w.heap.size ti (.string ⟨#[]⟩) 16 Tryz.underlying67 hI hz0 hz1 hz2 rfl (by decide) rfl _ K (sv ((nms l).take K)) rfl own1.out _ rfl rfl (by simp [Value.oneCell']) (by unfold maxLen;omega) (by omega) hsz ?_);rintro v' w3 hown3 hg3 hb3 -)
   have own2:=Lib.hid (show w3.ownsRow w.heap.size 9 1 v' (K+1) (sv ((nms l).take (K+1)))by rw [ht];exact hown3)
   have nb2:=Lib.hid (nbP.out.trans hb3);clear hown3 hg3 hb3 own1 nbP ht x0;go_wp2_with fail
   go_roundg (gk-1)
   case measure=>omega
   case rel=>exact⟨K+1,_,rfl,by go_num,by omega,nb2,own2⟩
  ·obtain rfl:K=l.length:=by omega
   have et:(nms l).take l.length=nms l:=by rw [←nms_len l,List.take_length]
   have rd:=own_emp18 own.out;rw [et]at rd;have fin:=Lib.hid (hR.out _ _ rd (own_shp own.out) nb.out);clear hR rd own;go_wp2_with fail
   exact fin.out
end Go.Proofs.YtncckdaflellnaaGreat.Res
namespace Go.Proofs.YtncckdaflellnaaGreat
open Go.RowKit Go.Lib
theorem Hq.grow{S:Type}{F:Fm S}{s0 s:S}{w V W:World}{l:List (Nat×Obj)}(n:Hq F s0 s w V l){o:Option Nat}(g:V.grownBy W o)(ho:∀k,o=some k→w.heap.size≤k∧¬F.Fr s k∧∀x∈l,x.1≠k):Hq F s0 s w W l :=
⟨F.keep n.inv g.size fun k hk=>g.block k (F.lt n.inv hk) fun e=>(ho k e.symm).2.1 hk,
 n.gr.trans (T:=fun k=>o=some k) ⟨g.os,g.tape,g.output,g.size,fun k hk hn=>g.block k hk fun e=>hn e.symm⟩ fun k e=>.inr (ho k e).1,
 n.sub,fun x hx=>(g.block _ (hp_lt (n.at_ x hx)) fun e=>(ho _ e.symm).2.2 x hx rfl).trans (n.at_ x hx),n.lo,n.dj⟩
end Go.Proofs.YtncckdaflellnaaGreat
namespace Go.Proofs.YtncckdaflellnaaGreat.Res
open Go.RowKit Go.Lib Utf Nam Lat Kin Unp Rel Lab
def edP(nm:List ByteArray)(F:Nat→Nat→Bool)(p:PH)(d:Int):EdR:=⟨p.name,p.bare,p.at_,d,(lof nm F p.label).1,if p.wide=0 then 3 else p.wide,p.ck,p.cn,(lof nm F p.cl).1,p.cat⟩
def ndP(h:TH):NdR:=⟨h.kind,h.at_,h.lo,h.hi,h.most,nms h.names,[]⟩
def addW(tg:ByteArray→Int)(h:TH)(g:List NdR→List EdR×List NdR)(l:List NdR):Int×List NdR :=
if h.kind=9 then(tg h.name,l)else((l.length:Int),(g (l++[ndP h])).2.set l.length { ndP h with edges:=(g (l++[ndP h])).1 })
def addF(nm:List ByteArray)(F:Nat→Nat→Bool)(tg:ByteArray→Int):Ft→List NdR→List EdR×List NdR
| .nil,l=>([],l)
| .cons p h k r,l =>
 let a:=if p.bare then(-1,l)else addW tg h (addF nm F tg k) l
 (edP nm F p a.1::(addF nm F tg r a.2).1,(addF nm F tg r a.2).2)
def addT(nm:List ByteArray)(F:Nat→Nat→Bool)(tg:ByteArray→Int)(h:TH)(f:Ft)(l:List NdR):Int×List NdR:=addW tg h (addF nm F tg f) l
def Behind(l m:List NdR)(n:Nat):Prop:=l.length≤m.length∧m.length≤l.length+n∧∀i,i<l.length→m[i]?=l[i]?
theorem Behind.refl(l:List NdR):Behind l l 0:=⟨Nat.le_refl _,Nat.le_refl _,fun _ _=>rfl⟩
theorem Behind.trans{a b c:List NdR}{n m:Nat}(h:Behind a b n)(g:Behind b c m):Behind a c (n+m) :=
⟨Nat.le_trans h.1 g.1,by have:=h.2.1;have:=g.2.1;omega,fun i hi=>(g.2.2 i (Nat.lt_of_lt_of_le hi h.1)).trans (h.2.2 i hi)⟩
theorem Behind.snoc(l:List NdR)(x:NdR):Behind l (l++[x]) 1:=⟨by simp,by simp,fun i hi=>List.getElem?_append_left hi⟩
theorem addW_behind{tg:ByteArray→Int}{h:TH}{g:List NdR→List EdR×List NdR}{n:Nat}(hg:∀l,Behind l (g l).2 n)(l:List NdR):Behind l (addW tg h g l).2 (n+1):=by
 unfold addW
 by_cases c:h.kind=9
 ·rw [if_pos c]
  exact⟨Nat.le_refl _,(by show l.length≤l.length+(n+1);omega),fun _ _=>rfl⟩
 ·rw [if_neg c]
  have b:=(Behind.snoc l (ndP h)).trans (hg (l++[ndP h]));refine⟨by rw [List.length_set];exact b.1,by rw [List.length_set];have:=b.2.1;omega,fun i hi=>?_⟩
  rw [List.getElem?_set_ne (by omega)];exact b.2.2 i hi
theorem addF_behind{nm:List ByteArray}{F:Nat→Nat→Bool}{tg:ByteArray→Int}:∀(f:Ft)(l:List NdR),Behind l (addF nm F tg f l).2 (Kin.cntF f)
| .nil,l=>.refl l
| .cons p h k r,l=>by
 have e:Kin.cntF (.cons p h k r)=(if p.bare then 0 else Kin.cntF k+1)+Kin.cntF r:=rfl;rw [e];show Behind l (addF nm F tg r (if p.bare then(-1,l)else addW tg h (addF nm F tg k) l).2).2 _;refine Behind.trans ?_ (addF_behind r _)
 by_cases c:p.bare=true
 ·rw [if_pos c,if_pos c];exact .refl l
 ·rw [if_neg c,if_neg c];exact addW_behind (addF_behind k) l
theorem addF_len{nm:List ByteArray}{F:Nat→Nat→Bool}{tg:ByteArray→Int}:∀(f:Ft)(l:List NdR),(addF nm F tg f l).1.length=f.len
| .nil,l=>rfl
| .cons p h k r,l=>by
 show(addF nm F tg r (if p.bare then(-1,l)else addW tg h (addF nm F tg k) l).2).1.length+1=_;rw [addF_len r];rfl
def addK(nm:List ByteArray)(F:Nat→Nat→Bool)(tg:ByteArray→Int)(p:PH)(h:TH)(k:Ft)(l:List NdR):EdR×List NdR :=
(edP nm F p (if p.bare then(-1,l)else addW tg h (addF nm F tg k) l).1,(if p.bare then(-1,l)else addW tg h (addF nm F tg k) l).2)
theorem addF_cons(nm:List ByteArray)(F:Nat→Nat→Bool)(tg:ByteArray→Int)(p:PH)(h:TH)(k r:Ft)(l:List NdR):addF nm F tg (.cons p h k r) l=((addK nm F tg p h k l).1::(addF nm F tg r (addK nm F tg p h k l).2).1,(addF nm F tg r (addK nm F tg p h k l).2).2):=rfl
theorem addK_behind(nm:List ByteArray)(F:Nat→Nat→Bool)(tg:ByteArray→Int)(p:PH)(h:TH)(k:Ft)(l:List NdR):Behind l (addK nm F tg p h k l).2 (if p.bare then 0 else Kin.cntF k+1):=by
 unfold addK
 by_cases c:p.bare=true
 ·rw [if_pos c,if_pos c];exact .refl l
 ·rw [if_neg c,if_neg c];exact addW_behind (addF_behind k) l
theorem ok_len{h:TH}{f:Ft}(ok:okT h f):f.len≤64∧h.names.length≤64:=by
 obtain⟨k1,k9,ow,-,-,-,-,hn,k56,k78,-⟩:=ok.1;simp only[ownB,decide_eq_true_eq]at ow
 constructor
 ·have hk:(h.kind=5∨h.kind=6)∨(h.kind=7∨h.kind=8)∨f.len=0:=by omega
  rcases hk with hk|hk|hk
  ·have ho:=k56 hk
   cases Nat.decEq f.len 1 with
   | isTrue q=>omega
   | isFalse q=>rw [only_len q]at ho;cases ho
  ·exact k78 hk
  ·omega
 ·rcases ow.2.2.1 with q|q
  ·exact(hn q).2.1
  ·rw [q];exact Nat.zero_le _
theorem own_empS{S:Nat→Prop}{w:World}{base:Nat}{e:TypeId}{k n:Nat}{v:Value}{xs:List Value}(h:w.ownsRow base e k v n xs)(hS:∀g,v.ownBlock=some g→¬S g):RdAt (empW S w) v k xs:=by
 have h0:=h;obtain⟨hl,⟨rfl,rfl⟩|⟨g,cap,cur,rfl,hb,hg,hn,hm,hc,ht⟩⟩:=h
 ·exact⟨none,0,0,rfl,hl,Nat.le_refl _,fun h=>absurd h (by omega)⟩
 ·refine⟨_,n,cap,rfl,hl,hn,fun _=>⟨g,0,rfl,?_,fun j u hj=>?_⟩⟩
  ·rw [emp_size]
   exact(h0.lt g rfl).2
  ·have:=h0.cells (g:=g) rfl j u hj
   rw [Addr.add_lit]at this;exact emp_cell.2 ⟨hS g rfl,this⟩
theorem flatG_set{α:Type}{enc:α→List Value}{k j:Nat}(hk:∀x,(enc x).length=k)(hj:j<k){u:Value}{x y:α}(hu:(enc x).set j u=enc y):∀(l:List α)(i:Nat),l[i]?=some x→(flatG enc l).set (i*k+j) u=flatG enc (l.set i y)
| [],i,h=>by simp at h
| a::l,0,h=>by
 obtain rfl:a=x:=by simpa using h
 show(enc a++flatG enc l).set (0*k+j) u=enc y++flatG enc l;rw [Nat.zero_mul,Nat.zero_add,List.set_append,if_pos (by rw [hk];exact hj),hu]
| a::l,i+1,h=>by
 rw [List.getElem?_cons_succ]at h;have ih:=flatG_set hk hj hu l i h;show(enc a++flatG enc l).set ((i+1)*k+j) u=enc a++flatG enc (l.set i y);have e:(i+1)*k+j=i*k+j+k:=by rw [Nat.add_mul];omega
 rw [List.set_append,hk,if_neg (by omega),show(i+1)*k+j-k=i*k+j by omega,ih]
section
variable {base B:Nat} {lv tv tab:Value} {h:TH} {nv pv:Value}
theorem bs_edges{s0 s:BS}{w V:World}{l:List (Nat×Obj)}(n:Hq (BF base B lv tv tab h nv pv) s0 s w V l){i G c b0:Nat}{x:Nv}(hx:s.nd[i]?=some x)(hnv:s.nv=.slice (some ⟨G,0,none⟩) s.nd.length c){ev:Value}{es:List EdR}(hrow:V.ownsRow b0 85 10 ev es.length (flatG encE es))
  (hbw:base≤w.heap.size) (ho:∀k,ev.ownBlock=some k→w.heap.size≤k∧¬bFr base B s k∧∀y∈l,y.1≠k) :
  Hq (BF base B lv tv tab h nv pv) s0 { s with nd:=s.nd.set i ({ x.1 with edges:=es },x.2.1,ev),T:=fun k=>s.T k∨ev.ownBlock=some k } w (V.setCell ⟨G,i*7+6,none⟩ ev) l:=by
 have j:BInv base B lv tv tab h nv pv V s:=n.inv;have on:=j.on;have og:s.nv.ownBlock=some G:=by rw [hnv];rfl
 rw [hnv]at on;obtain⟨own2,g2⟩:=on.stored (i*7+6) ev;rw [flatG_set (y:=({ x.1 with edges:=es },x.2.1,ev)) encN_len (by decide) rfl s.nd i hx]at own2;have fG:bFr base B s G:=⟨(on.lt G rfl).1,.inr (.inr (.inl og))⟩;have lG:=(on.lt G rfl).2;have hne:∀k,k<V.heap.size→k≠G→(V.setCell ⟨G,i*7+6,none⟩ ev).heap[k]?=V.heap[k]?:=fun k hk q=>g2.block k hk fun e=>q (Option.some.inj e)
 have sz:=g2.size;have neB:B≠G:=fun e=>j.d2 (e▸og)
 have neE:∀k,ev.ownBlock=some k→k≠G:=fun k q e=>(ho k q).2.1 (e▸fG)
 have kp:Kp (empW (fun k=>¬s.T k) V) (empW (fun k=>¬(s.T k∨ev.ownBlock=some k)) (V.setCell ⟨G,i*7+6,none⟩ ev)):=emp_kp sz fun k hk hn=>⟨fun q=>q (.inl (Classical.not_not.1 hn)),hne k hk fun e=>(j.t k (Classical.not_not.1 hn)).2.2.2.2 (e▸og)⟩
 have rde:RdEd (empW (fun k=>¬(s.T k∨ev.ownBlock=some k)) (V.setCell ⟨G,i*7+6,none⟩ ev)) ev es:=own_empS (ownKp hrow fun k q _=>hne k (hrow.lt k q).2 (neE k q)) fun k q hn=>hn (.inr q)
 refine⟨⟨j.hB,(hne B (hp_lt j.box) neB).trans j.box,ownKp j.os fun k q _=>hne k (j.os.lt k q).2 fun e=>j.d3 k q (e▸og),by rw [hnv,List.length_set];exact own2,fun k q=>?_,fun y hy=>?_,j.d1,j.d2,j.d3,fun y hy=>by
  rcases List.mem_or_eq_of_mem_set hy with hy|rfl
  ·exact j.sh y hy
  ·exact⟨(j.sh x (List.mem_of_getElem? hx)).1,own_shp hrow⟩⟩,?_,fun k q=>?_,fun y hy=>?_,fun y hy=>⟨(n.lo y hy).1,fun q=>?_⟩,n.dj⟩
 ·rcases q with q|q
  ·obtain⟨t1,t2,t3,t4,t5⟩:=j.t k q
   exact⟨t1,Nat.lt_of_lt_of_le t2 sz,t3,t4,t5⟩
  ·have o:=ho k q
   exact⟨Nat.le_trans hbw o.1,Nat.lt_of_lt_of_le (hrow.lt k q).2 sz,fun e=>o.2.1 ⟨Nat.le_trans hbw o.1,.inl e⟩,fun e=>o.2.1 ⟨(j.os.lt k e).1,.inr (.inl e)⟩,fun e=>o.2.1 ⟨(j.on.lt k e).1,.inr (.inr (.inl e))⟩⟩
 ·rcases List.mem_or_eq_of_mem_set hy with hy|rfl
  ·exact⟨RdAt.kp kp (j.rd y hy).1,RdAt.kp kp (j.rd y hy).2⟩
  ·exact⟨RdAt.kp kp (j.rd x (List.mem_of_getElem? hx)).1,rde⟩
 ·exact n.gr.trans (Gr.of g2) fun k e=>by subst e;exact n.sub k fG
 ·rcases q.2 with e|e|e|e|e
  ·exact n.sub k ⟨q.1,.inl e⟩
  ·exact n.sub k ⟨q.1,.inr (.inl e)⟩
  ·exact n.sub k ⟨q.1,.inr (.inr (.inl e))⟩
  ·exact n.sub k ⟨q.1,.inr (.inr (.inr e))⟩
  ·exact .inr (ho k e).1
 ·exact(hne _ (hp_lt (n.at_ y hy)) fun e=>(n.lo y hy).2 (e▸fG)).trans (n.at_ y hy)
 ·rcases q.2 with e|e|e|e|e
  ·exact(n.lo y hy).2 ⟨q.1,.inl e⟩
  ·exact(n.lo y hy).2 ⟨q.1,.inr (.inl e)⟩
  ·exact(n.lo y hy).2 ⟨q.1,.inr (.inr (.inl e))⟩
  ·exact(n.lo y hy).2 ⟨q.1,.inr (.inr (.inr e))⟩
  ·exact(ho _ e).2.2 y hy rfl
end
end Go.Proofs.YtncckdaflellnaaGreat.Res
