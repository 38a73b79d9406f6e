import Derived.Test.YtabhkakomececaaGreatQ28
set_option linter.all false
set_option maxRecDepth 100000
set_option maxHeartbeats 4000000
namespace Go.Proofs.YtabhkakomececaaGreat.Res
open Go.RowKit Go.Lib Utf Nam Lat Kin Unp Rel Lab
theorem own_sl2{w:World}{base:Nat}{e:TypeId}{k n:Nat}{v:Value}{xs:List Value}(h:w.ownsRow base e k v n xs):∃A c,v=.slice A n c:=by
 obtain⟨-,⟨rfl,rfl⟩|⟨g,cap,cur,rfl,-⟩⟩:=h
 ·exact⟨_,_,rfl⟩
 ·exact⟨_,_,rfl⟩
theorem tgt_in{tys:List Nd}:∀(n:Nat)(x:ByteArray),(0<tys.length∨n=0)→∃I:Nat,(tgtS tys n x).1=(I:Int)∧I<tys.length+1
| 0,x,_=>⟨0,rfl,by omega⟩
| n+1,x,h=>by
 have h0:0<tys.length:=by omega
 obtain⟨I,hI,hI2⟩:=fin_in (xs:=nms (tw tys)) x (by simpa [nms,tw_len]using h0);have hI3:I<tys.length:=by simpa [nms,tw_len]using hI2
 show ∃I:Nat,(if(nN tys (finS (nms (tw tys)) x).1.toNat).2.1.kind≠9 then((finS (nms (tw tys)) x).1,true)else tgtS tys n (nN tys (finS (nms (tw tys)) x).1.toNat).2.1.name).1=(I:Int)∧I<tys.length+1
 by_cases c:(nN tys (finS (nms (tw tys)) x).1.toNat).2.1.kind≠9
 ·rw [if_pos c]
  exact⟨I,hI,by omega⟩
 ·rw [if_neg c]
  exact tgt_in n _ (.inl h0)
theorem node_in:(Tryz.prog.info? 63).map (fun i=>(i.zero,i.size,i.bytes))=some (some (.agg #[.int .i64 0,.int .i64 0,.int .i64 0,.int .i64 0,.int .i64 0,.slice none 0 0,.slice none 0 0]),7,88):=by kernel_rfl
theorem node_info:∃i0,Tryz.prog.info? 63=some i0∧(i0.zero,i0.size,i0.bytes)=(some (.agg #[.int .i64 0,.int .i64 0,.int .i64 0,.int .i64 0,.int .i64 0,.slice none 0 0,.slice none 0 0]),7,88):=by
 have:=node_in;cases h:Tryz.prog.info? 63 with
 | none=>rw [h]at this;cases this
 | some i0=>rw [h]at this;exact⟨i0,rfl,by simpa using this⟩
theorem edge_in:(Tryz.prog.info? 67).map (fun i=>(i.zero,i.size,i.bytes))=some (some (.agg #[.string ⟨#[]⟩,.bool false,.int .i64 0,.int .i64 0,.int .i64 0,.int .i64 0,.int .i64 0,.int .i64 0,.int .i64 0,.int .i64 0]),10,88):=by kernel_rfl
theorem edge_info:∃i0,Tryz.prog.info? 67=some i0∧(i0.zero,i0.size,i0.bytes)=(some (.agg #[.string ⟨#[]⟩,.bool false,.int .i64 0,.int .i64 0,.int .i64 0,.int .i64 0,.int .i64 0,.int .i64 0,.int .i64 0,.int .i64 0]),10,88):=by
 have:=edge_in;cases h:Tryz.prog.info? 67 with
 | none=>rw [h]at this;cases this
 | some i0=>rw [h]at this;exact⟨i0,rfl,by simpa using this⟩
theorem rd_nil(W:World)(k:Nat):RdAt W (.slice none 0 0) k []:=⟨none,0,0,rfl,by simp,Nat.le_refl _,fun h=>absurd h (by simp)⟩
theorem addT_ref{nm:List ByteArray}{F:Nat→Nat→Bool}{tg:ByteArray→Int}{h:TH}{f:Ft}{l:List NdR}(k:h.kind=9):addT nm F tg h f l=(tg h.name,l):=if_pos k
theorem addT_node{nm:List ByteArray}{F:Nat→Nat→Bool}{tg:ByteArray→Int}{h:TH}{f:Ft}{l:List NdR}(k:¬h.kind=9):addT nm F tg h f l=((l.length:Int),(addF nm F tg f (l++[ndP h])).2.set l.length { ndP h with edges:=(addF nm F tg f (l++[ndP h])).1 }):=if_neg k
section
variable {base B:Nat} {lv tv tab:Value} {rh:TH} {rnv rpv:Value} {w0:World}
theorem add_step{nm:List ByteArray}{F:Nat→Nat→Bool}{tys:List Nd}{st:List Int}(hL:LatP w0 lv nm F)(ht:RdNs w0 tv tys)(hT:RdT w0 tab (nms (tw tys)))(hlow:w0.heap.size≤base)(hl:tys.length≤1000000)(hsl:st.length=tys.length+1)(f:Ft)(ih:Fo.AllK (AddC base B lv tv tab rh rnv rpv w0 nm F tys st) f):AddC base B lv tv tab rh rnv rpv w0 nm F tys st f:=by
 intro s h nv' pv' w hI hb hy hg hst hnb R hR;obtain⟨ti,hTI,hZ⟩:=node_info;simp only[Prod.mk.injEq]at hZ;obtain⟨hz0,hz1,hz2⟩:=hZ;obtain⟨tj,hTJ,hY⟩:=edge_info;simp only[Prod.mk.injEq]at hY;obtain⟨hy0,hy1,hy2⟩:=hY;obtain⟨An,cn,rfl,-,-⟩:=hy.n.op;obtain⟨Ap,cp,rfl,-⟩:=hy.p.sl;have hlo:=bF_low base B lv tv tab rh rnv rpv hlow;have hfl:=(ok_len hg.1).1;replace ih:=Lib.hid ih;have m0:=Hq.nil hI;obtain⟨V,e1,n,z1⟩:=m0.new (.cells (tyL h (.slice An h.names.length cn) (.slice Ap f.len cp)).toArray 36);clear m0 z1;go_enter Tryz.func137,Tryz.ntmps137
 go_upto_region 1 with fail
 clear e1;have t0:=n.c 0 0 rfl rfl;have hbV:=hb.trans (n.below hb.size (hlo s))
 by_cases hk:h.kind=9
 ·rw [addT_ref hk]at hR
  have q0:(h.kind==9)=true:=by simpa using hk
  clear hk;obtain⟨I,hI1,hI2⟩:=tgt_in (tys:=tys) tys.length h.name (by omega);have t7:=n.c 0 7 rfl rfl;go_wp2_with fail
  refine target_calls ht hT hlow hl s h.name V n.inv hbV _ (Lib.hid fun W1 c1=>?_);replace n:=n.call c1;have inv:BInv base B lv tv tab rh rnv rpv W1 s:=n.inv;have own:=inv.os;rw [hst]at own;obtain⟨G,c,hsv,-,-,-,hcl⟩:=own_at own (by omega);have x0:=hcl I (by omega)
  have hx:(ints st)[I]?=some (.int .i64 (tgI tys st h.name)):=by
   unfold tgI;rw [hI1,Int.toNat_natCast];simp [ints,List.getD,List.getElem?_eq_getElem (show I<st.length by omega)]
  rw [hx]at x0;have b14:=n.bc 14 rfl;rw [hsv]at b14;have fin:=Lib.hid (hR.out _ s hst rfl n.fin);rw [hI1];generalize tgI tys st h.name=z at *;have i0:(0:Int)≤(I:Int):=by omega
  have i1:(I:Int)<(st.length:Int):=by omega
  clear n inv own hcl hx hI1 c1 hR t0 t7;go_wp2_with fail
  exact fin.out
 ·rw [addT_node hk]at hR
  have q0:(h.kind==9)=false:=by simpa using hk
  clear hk;obtain⟨A,c,hnv⟩:=own_sl2 (show V.ownsRow base 63 7 s.nv s.nd.length _ from(show BInv base B lv tv tab rh rnv rpv V s from n.inv).on);have b15:=n.bc 15 rfl;rw [hnv]at b15;go_upto_region 5 with fail
  clear b15 t0;have inv:BInv base B lv tv tab rh rnv rpv V s:=n.inv;have b15:=fun y:RW (fun k=>s.nv.ownBlock=some k) V=>y.cell n.bl_ inv.d2 (n.bc 15 rfl)
  have nT:¬s.nv.ownBlock=some w.heap.size:=fun e=>(n.lo _ List.mem_cons_self).2 ⟨(inv.on.lt _ e).1,.inr (.inr (.inl e))⟩
  have t0:=fun y:RW (fun k=>s.nv.ownBlock=some k) V=>y.cell (n.lt 0 rfl) nT (n.c 0 0 rfl rfl)
  have t1:=fun y:RW (fun k=>s.nv.ownBlock=some k) V=>y.cell (n.lt 0 rfl) nT (n.c 0 1 rfl rfl)
  have t2:=fun y:RW (fun k=>s.nv.ownBlock=some k) V=>y.cell (n.lt 0 rfl) nT (n.c 0 2 rfl rfl)
  have t3:=fun y:RW (fun k=>s.nv.ownBlock=some k) V=>y.cell (n.lt 0 rfl) nT (n.c 0 3 rfl rfl)
  have t4:=fun y:RW (fun k=>s.nv.ownBlock=some k) V=>y.cell (n.lt 0 rfl) nT (n.c 0 4 rfl rfl)
  have t5:=fun y:RW (fun k=>s.nv.ownBlock=some k) V=>y.cell (n.lt 0 rfl) nT (n.c 0 5 rfl rfl)
  have gW:Below V.heap.size V (V.drewN 1):=below_drewN (Below.refl _ _) 1;refine wp_region_trS (fun k=>s.nv.ownBlock=some k) (.one [0,1,2,3,4,5,6,7,8,9,10,11,12,13,14,15,16] 17 (.one [18] 19 (.one [] 20 (.one [] 21 (.last [22]))))) 23 (by kernel_rfl) (by kernel_rfl) (by kernel_rfl) (by kernel_rfl) (by decide) (fun _ _ d _ _ h=>by cases d<;>exact h) ?_
  refine tr_one (os:=[_,_,_,_,_,_,_,_,_,_,_,_,_,_,_,_,_]) (by simp only[pickO,List.filterMap_cons,List.filterMap_nil,List.getElem?_toArray,List.getElem?_cons_succ,List.getElem?_cons_zero];rfl) (fun Kp hKp=>?_)
  repeat (go_big_quiet_step (exact rfl))
  refine wpQuiet_nil ?_;refine hKp _ ?_;clear hKp;refine loudr (by rfl) (by kernel_rfl) (fun K1 hK1=>?_);go_simp;refine texts_calls h.names (by have:=(ok_len hg.1).2;omega) _ _ (hy.below (hbV.trans (gW.mono hbV.size))).n _ (Lib.hid fun v3 W3 r3 sh3 m3=>?_)
  obtain⟨A3,c3,rfl,-⟩:=r3.open;have m13:Below V.heap.size V W3:=gW.trans (m3.mono gW.size);have own:W3.ownsRow base 63 7 s.nv s.nd.length (flatG encN s.nd):=ownKp inv.on fun k q _=>m13.block k (inv.on.lt k q).2
  have hsz:base≤W3.heap.size:=Nat.le_trans inv.hB (Nat.le_trans (Nat.le_of_lt n.bl_) m13.size);refine hK1 _ _ (RW.of ((Gr.rfl' _ V).bl m13)) ?_;clear hK1;refine tr_one (os:=[_]) (by simp only[pickO,List.filterMap_cons,List.filterMap_nil,List.getElem?_toArray,List.getElem?_cons_succ,List.getElem?_cons_zero];rfl) (fun Kp hKp=>?_)
  repeat (go_big_quiet_step (exact rfl))
  refine wpQuiet_nil ?_;refine hKp _ ?_;clear hKp;refine loudr (by rfl) (by kernel_rfl) (fun K2 hK2=>?_);go_simp;refine hK2 _ _ (RW.of ((Gr.rfl' _ V).bl (m13.alloc m13.size _))) ?_;clear hK2;refine tr_one (os:=[]) (by rfl) (fun Kp hKp=>?_);refine wpQuiet_nil ?_;refine hKp _ ?_;clear hKp;refine loudr (by rfl) (by kernel_rfl) (fun K3 hK3=>?_);refine appOp W3 #[.int .i64 h.kind,.int .i64 h.at_,.int .i64 h.lo,.int .i64 h.hi,.int .i64 h.most,.slice A3 (nms h.names).length c3,.slice none 0 0] 7 63 _ _ 120 rfl base ti (.agg #[.int .i64 0,.int .i64 0,.int .i64 0,.int .i64 0,.int .i64 0,.slice none 0 0,.slice none 0 0]) 88 Tryz.underlying120 hTI hz0 hz1 hz2 rfl (by decide) rfl s.nv s.nd.length (flatG encN s.nd) hnv.symm own _ rfl rfl (by simp [Value.oneCell']) (by unfold maxLen;omega) (by omega) hsz ?_
  intro v4 w4 hown hgr hfr;obtain⟨A4,m4,c4,rfl⟩:=own_sl hown;have gA:Gr (fun k=>s.nv.ownBlock=some k) V w4:=((Gr.rfl' _ V).bl m13).trans (Gr.ofRow hgr) fun k e=>.inl e
  go_simp;refine hK3 _ _ (RW.of gA) ?_;clear hK3;refine tr_one (os:=[]) (by rfl) (fun Kp hKp=>?_);refine wpQuiet_nil ?_;refine hKp _ ?_;clear hKp;refine loudr (by rfl) (by kernel_rfl) (fun K4 hK4=>?_);go_simp;refine hK4 _ _ (RW.of gA) ?_;clear hK4;refine tr_last (os:=[_]) (by simp only[pickO,List.filterMap_cons,List.filterMap_nil,List.getElem?_toArray,List.getElem?_cons_succ,List.getElem?_cons_zero];rfl) (fun Kp hKp=>?_)
  repeat (go_big_quiet_step (exact rfl))
  refine wpQuiet_nil ?_;refine hKp _ ?_;clear hKp;have hbx:w4.heap[B]?=_:=(hgr.block B (Nat.lt_of_lt_of_le n.bl_ m13.size) fun e=>inv.d2 e.symm).trans ((m13.block B n.bl_).trans inv.box);have bf:=Lib.frozen_of_heap hbx 15;have bc:w4.cell? ⟨B,15,none⟩=some s.nv:=by rw [Lib.cell_of_heap hbx];rfl
  obtain⟨V4,e4,n⟩:∃V4,w4.setCell ⟨B,15,none⟩ (.slice A4 m4 c4)=V4∧Hq (BF base B lv tv tab rh rnv rpv) s { s with nd:=s.nd++[(ndP h,.slice A3 (nms h.names).length c3,.slice none 0 0)],nv:=.slice A4 m4 c4,T:=fun k=>s.T k∨(V.heap.size≤k∧k<W3.heap.size) } w V4 [(w.heap.size,.cells (tyL h (.slice An h.names.length cn) (.slice Ap f.len cp)).toArray 36)]:=⟨_,rfl,bs_ndApp n m13 (x:=(ndP h,.slice A3 (nms h.names).length c3,.slice none 0 0)) r3 (rd_nil _ _) ⟨sh3,.inl rfl⟩ (by rw [flatG_snoc];exact hown) hgr (fun b q=>by
   rcases hfr with e|e
   ·exact .inl (e.symm.trans q)
   ·refine .inr ?_
    rw [e]at q;simp only[Option.some.injEq]at q;omega)⟩
  refine loudl (by rfl) (by kernel_rfl) ?_;go_simp;clear e4 bf bc hbx gA hfr hgr hown b15 gW own inv t0 t1 t2 t3 t4 t5 nT r3 sh3 m3 hsz;obtain⟨s1,hs1⟩:∃s1:BS,s1={ s with nd:=s.nd++[(ndP h,.slice A3 (nms h.names).length c3,.slice none 0 0)],nv:=.slice A4 m4 c4,T:=fun k=>s.T k∨(V.heap.size≤k∧k<W3.heap.size) }:=⟨_,rfl⟩;rw [←hs1]at n;have a1:s1.st=st:=by rw [hs1];exact hst
  have a2:s1.nd.map (·.1)=s.nd.map (·.1)++[ndP h]:=by rw [hs1];simp
  have a3:s1.nd.length=s.nd.length+1:=by rw [hs1];simp
  have hl0:(s.nd.map (·.1)).length=s.nd.length:=by simp
  have hbw:base≤w.heap.size:=by
   have i:BInv base B lv tv tab rh rnv rpv w s:=hI;exact Nat.le_trans i.hB (Nat.le_of_lt (hp_lt i.box))
  clear hs1 hnv;generalize s.nd.map (·.1)=l0 at hR a2 hl0;have t6:=n.c 0 6 rfl rfl;go_wp2_with fail
  clear t6;go_loopg [8,60] f.len (fun g0 ev i wr=>∃(K:Nat) (v:Value) (sK:BS) (es:List EdR),v=ev∧i=.int .i64 K∧K+g0=f.len∧Hid (es.length=K∧sK.st=st∧addF nm F (tgI tys st) f (l0++[ndP h])=(es++(addF nm F (tgI tys st) (f.drop K) (sK.nd.map (·.1))).1,(addF nm F (tgI tys st) (f.drop K) (sK.nd.map (·.1))).2)∧sK.nd.length+Kin.cntF (f.drop K)≤1000000)∧Hid (Hq (BF base B lv tv tab rh rnv rpv) s sK w wr [(w.heap.size,.cells (tyL h (.slice An h.names.length cn) (.slice Ap f.len cp)).toArray 36)])∧Hid (wr.ownsRow w.heap.size 67 10 v K (flatG encE es))∧Hid (∀k,v.ownBlock=some k→¬bFr base B sK k∧k≠w.heap.size))
  case atStart=>exact⟨0,_,s1,[],rfl,rfl,by omega,Lib.hid ⟨rfl,a1,by rw [a2];rfl,by show s1.nd.length+Kin.cntF f≤_;omega⟩,Lib.hid n,Lib.hid (by simpa [flatG]using World.ownsRow_nil _ _ _ _),Lib.hid fun k q=>by cases q⟩
  case round =>
   clear n;obtain⟨K,v,sK,es,rfl,rfl,e1,hh,n,own,sep⟩:=hrel;replace n:=n.out;have hbW:=hb.trans (n.below hb.size (hlo s));have lT:=n.lt 0 rfl
   by_cases hK:K<f.len
   ·obtain⟨p,x,kd,r,e⟩:=Fo.drop_lt hK
    obtain⟨g,o,A1,n1,A2,n2,A5,n5,A7,n7,rfl,hlv,hcv,hxy,hrg⟩:=part_el hy e;obtain⟨gp,gx,gkk,ga⟩:=all_at K hg.2.2.2 e;obtain⟨l1,l2,okk⟩:=ok_lab hg.1 e;have d1:=Fo.drop_succ K e;obtain⟨h1,h2,h3,h4⟩:=hh.out;rw [e]at h3 h4;rw [addF_cons]at h3;have e9:Kin.cntF (.cons p x kd r)=(if p.bare then 0 else Kin.cntF kd+1)+Kin.cntF r:=rfl;rw [e9]at h4;have b5:=addK_behind nm F (tgI tys st) p x kd (sK.nd.map (·.1));have i0:(0:Int)≤(K:Int):=by omega
    have i1:(K:Int)<(f.len:Int):=by omega
    have rg:=hrg wr hbW;have ihK:=Lib.hid ((ih.out).at_ e);replace h3:=Lib.hid h3;replace h4:=Lib.hid h4;replace b5:=Lib.hid b5;replace okk:=Lib.hid okk;clear hrg e hh hbW e9;obtain⟨V3,e3,n,z3⟩:=n.new (.cells (ptL p x (.slice A1 p.label.length n1) (.slice A2 p.cl.length n2) (.slice A5 x.names.length n5) (.slice A7 kd.len n7)).toArray 127);have bP:=Lib.hid (show Below wr.heap.size wr V3 from e3▸(Below.refl _ _).alloc (Nat.le_refl _) _);go_upto_region 10 with(first|(refine wpList_load_g (by rfl) 127 _ rfl g (o+K*18) rfl _ _ rg Tryz.underlying127 rfl (by kernel_rfl) ?_;go_simp)|(refine wpList_copy (ptL p x (.slice A1 p.label.length n1) (.slice A2 p.cl.length n2) (.slice A5 x.names.length n5) (.slice A7 kd.len n7)).toArray ⟨rfl,rfl,rfl⟩ ⟨rfl,rfl,rfl⟩ part_alloc (by kernel_rfl) ⟨rfl,by simp [Value.oneCell']⟩ (fun _=>⟨rfl,rfl⟩) ?_;go_simp))
    clear e3 z3 rg;have hbV:=hb.trans (n.below hb.size (hlo s));have r10:=n.rg 0 rfl;go_wp2_with (refine wpList_load_g (by rfl) 127 _ rfl wr.heap.size (0) rfl _ _ r10 Tryz.underlying127 rfl (by kernel_rfl) ?_;go_simp)
    refine edge_calls hL hlow p x kd _ _ _ _ hlv hcv hxy gp.2.2.1 gp.2.2.2.2.2.2.2.1 l1 l2 (fun hb=>⟨okk.out hb,gx,gkk,ga⟩) (fun _=>ihK.out) sK V3 n.inv hbV h2 (by have:=h4.out;omega) _ (Lib.hid fun W5 s5 hs5 hn5 c5=>?_)
    have own5:W5.ownsRow w.heap.size 67 10 v K (flatG encE es):=ownKp (own_below own.out bP.out) fun k q _=>c5.gr.block k (Nat.lt_of_lt_of_le (own.out.lt k q).2 bP.out.size) (sep.out k q).1
    have sep5:∀k,v.ownBlock=some k→¬bFr base B s5 k∧k≠w.heap.size:=fun k q=>⟨fun fr=>by
     rcases c5.sub k fr with e|e
     ·exact(sep.out k q).1 e
     ·have a:=(own.out.lt k q).2
      have b:=bP.out.size;omega,(sep.out k q).2⟩
    replace b5:=b5.out;replace h3:=h3.out;rw [←hn5]at h3 b5
    have h5:s5.nd.length+Kin.cntF r≤1000000:=by
     have q1:=b5.2.1;have q2:=h4.out;simp only[List.length_map]at q1;omega
    replace n:=(n.call c5).tail;have lT5:=n.lt 0 rfl;have hsz:w.heap.size≤W5.heap.size:=Nat.le_of_lt lT5;clear c5 r10 hbV b5 h4 bP own sep gp gx gkk ga okk hlv hcv hxy ihK;generalize(addK nm F (tgI tys st) p x kd (sK.nd.map (·.1))).1=eN at h3 ⊢;clear hn5;obtain⟨x0,x1,x2,x3,x4,x5,x6,x7,x8,x9⟩:=eN;rw [show encE ⟨x0,x1,x2,x3,x4,x5,x6,x7,x8,x9⟩=[.string x0,.bool x1,.int .i64 x2,.int .i64 x3,.int .i64 x4,.int .i64 x5,.int .i64 x6,.int .i64 x7,.int .i64 x8,.int .i64 x9]from rfl];replace own5:=Lib.hid own5;replace sep5:=Lib.hid sep5;replace h3:=Lib.hid h3;go_wp2_with (at_builtin;go_loud (refine appKF W5 #[.string x0,.bool x1,.int .i64 x2,.int .i64 x3,.int .i64 x4,.int .i64 x5,.int .i64 x6,.int .i64 x7,.int .i64 x8,.int .i64 x9] 10 67 rfl _ _ 61 rfl w.heap.size tj (.agg #[.string ⟨#[]⟩,.bool false,.int .i64 0,.int .i64 0,.int .i64 0,.int .i64 0,.int .i64 0,.int .i64 0,.int .i64 0,.int .i64 0]) 88 Tryz.underlying61 hTJ hy0 hy1 hy2 rfl (by decide) rfl _ K (flatG encE es) rfl own5.out _ rfl rfl (by simp [Value.oneCell']) (by unfold maxLen;omega) (by omega) hsz ?_);rintro v' w6 hown6 hg6-hfr)
    have own6:=Lib.hid (show w6.ownsRow w.heap.size 67 10 v' (K+1) (flatG encE (es++[⟨x0,x1,x2,x3,x4,x5,x6,x7,x8,x9⟩]))by rw [flatG_snoc];exact hown6)
    have n6:=Lib.hid (n.grow hg6 fun k q=>⟨(own5.out.lt k q).1,(sep5.out k q).1,fun y hy=>by
     obtain rfl:=List.mem_singleton.1 hy;exact fun e=>(sep5.out k q).2 e.symm⟩)
    have sep6:Hid (∀k,v'.ownBlock=some k→¬bFr base B s5 k∧k≠w.heap.size):=Lib.hid fun k q=>by
     rcases hfr with e|e
     ·exact sep5.out k (e.symm.trans q)
     ·rw [e]at q
      simp only[Option.some.injEq]at q;refine⟨fun fr=>?_,by omega⟩;have:=(BF base B lv tv tab rh rnv rpv).lt n.inv (show(BF base B lv tv tab rh rnv rpv).Fr s5 k from fr);omega
    have hh6:=Lib.hid (show(es++[(⟨x0,x1,x2,x3,x4,x5,x6,x7,x8,x9⟩:EdR)]).length=K+1∧s5.st=st∧addF nm F (tgI tys st) f (l0++[ndP h])=((es++[⟨x0,x1,x2,x3,x4,x5,x6,x7,x8,x9⟩])++(addF nm F (tgI tys st) (f.drop (K+1)) (s5.nd.map (·.1))).1,(addF nm F (tgI tys st) (f.drop (K+1)) (s5.nd.map (·.1))).2)∧s5.nd.length+Kin.cntF (f.drop (K+1))≤1000000 from⟨by simp [h1],hs5,by rw [d1,List.append_assoc];exact h3.out,by rw [d1];exact h5⟩)
    clear n own5 sep5 h3 h5 hown6 hg6 hfr hs5 hR d1;go_wp2_with fail
    go_roundg (gk-1)
    case measure=>omega
    case rel=>exact⟨K+1,v',s5,_,rfl,by go_num,by omega,hh6,n6,own6,sep6⟩
   ·obtain rfl:K=f.len:=by omega
    obtain⟨h1,h2,h3,-⟩:=hh.out;rw [Fo.drop_all (Nat.le_refl _)]at h3;replace h3:addF nm F (tgI tys st) f (l0++[ndP h])=(es,sK.nd.map (·.1)):=by rw [h3];simp [addF]
    have bh:=addF_behind (nm:=nm) (F:=F) (tg:=tgI tys st) f (l0++[ndP h]);rw [h3]at bh hR;have hix:=bh.2.2 l0.length (by simp);rw [List.getElem?_append_right (Nat.le_refl _),Nat.sub_self,List.getElem?_map]at hix
    obtain⟨y,hy1,hy2⟩:∃y,sK.nd[l0.length]?=some y∧y.1=ndP h:=by
     cases q:sK.nd[l0.length]? with
     | none=>rw [q]at hix;cases hix
     | some y=>rw [q]at hix;exact⟨y,rfl,by simpa using hix⟩
    have li:=(List.getElem?_eq_some_iff.1 hy1).1;rw [hl0]at hy1 hR li;have inv:BInv base B lv tv tab rh rnv rpv wr sK:=n.inv;obtain⟨G,c,hsv,-,-,-,hcl⟩:=own_at inv.on (by omega);have on:=inv.on;rw [hsv]at on;have fz:=on.frozenAt (s.nd.length*7+6)
    have cx:wr.cell? ⟨G,s.nd.length*7+6,none⟩=some y.2.2:=by
     rw [hcl _ (by omega),flatG_get encN_len sK.nd s.nd.length 6 li (by decide),(List.getElem?_eq_some_iff.1 hy1).2];rfl
    have b15:=n.bc 15 rfl;rw [hsv]at b15;obtain⟨A',c',rfl⟩:=own_sl2 own.out
    obtain⟨V9,e9,n9⟩:∃V9,wr.setCell ⟨G,s.nd.length*7+6,none⟩ (.slice A' f.len c')=V9∧Hq (BF base B lv tv tab rh rnv rpv) s { sK with nd:=sK.nd.set s.nd.length ({ y.1 with edges:=es },y.2.1,.slice A' f.len c'),T:=fun k=>sK.T k∨(Value.slice A' f.len c').ownBlock=some k } w V9 [(w.heap.size,.cells (tyL h (.slice An h.names.length cn) (.slice Ap f.len cp)).toArray 36)]:=⟨_,rfl,bs_edges n hy1 hsv (by rw [h1];exact own.out) hbw fun k q=>⟨(own.out.lt k q).1,(sep.out k q).1,fun y hy=>by
     obtain rfl:=List.mem_singleton.1 hy;exact fun e=>(sep.out k q).2 e.symm⟩⟩
    have fin:=Lib.hid (hR.out V9 { sK with nd:=sK.nd.set s.nd.length ({ y.1 with edges:=es },y.2.1,.slice A' f.len c'),T:=fun k=>sK.T k∨(Value.slice A' f.len c').ownBlock=some k } h2 (by
     show List.map (·.1) (sK.nd.set s.nd.length ({ y.1 with edges:=es },y.2.1,.slice A' f.len c'))=_;rw [List.map_set,hy2]) n9.fin)
    have i0:(0:Int)≤(s.nd.length:Int):=by omega
    have i1:(s.nd.length:Int)<(sK.nd.length:Int):=by omega
    clear n n9 own sep hh hcl on inv hR hix bh h3 hsv hy1 hy2 hbW ih;go_wp2_with fail
    exact fin.out
end
def cumL:Int→List Nd→List Int
| c,[]=>[c]
| c,x::l=>c::cumL (kntT c x.2.1 x.2.2) l
theorem cumL_len:∀(l:List Nd)(c:Int),(cumL c l).length=l.length+1
| [],c=>rfl
| x::l,c=>by
 show(cumL _ l).length+1=_;rw [cumL_len l];rfl
def addA(nm:List ByteArray)(F:Nat→Nat→Bool)(tg:ByteArray→Int):List Nd→List NdR→List Int×List NdR
| [],l=>([],l)
| x::r,l=>((addT nm F tg x.2.1 x.2.2 l).1::(addA nm F tg r (addT nm F tg x.2.1 x.2.2 l).2).1,(addA nm F tg r (addT nm F tg x.2.1 x.2.2 l).2).2)
theorem addT_behind(nm:List ByteArray)(F:Nat→Nat→Bool)(tg:ByteArray→Int)(h:TH)(f:Ft)(l:List NdR):Behind l (addT nm F tg h f l).2 (Kin.cntF f+1):=addW_behind (addF_behind f) l
def planN(nm:List ByteArray)(F:Nat→Nat→Bool)(tys:List Nd)(c:Int)(rh:TH)(rf:Ft):List NdR×Int×List Int :=
((addT nm F (tgI tys (cumL c tys)) rh rf (addA nm F (tgI tys (cumL c tys)) tys []).2).2,(addT nm F (tgI tys (cumL c tys)) rh rf (addA nm F (tgI tys (cumL c tys)) tys []).2).1,(addA nm F (tgI tys (cumL c tys)) tys []).1)
def PlanP(w:World)(v:Value)(nm:List ByteArray)(F:Nat→Nat→Bool)(ns:List ByteArray)(x:List NdR×Int×List Int):Prop :=
∃(P:Nat) (lv nv tab zv:Value) (xs:List Nv),v=.pointer (some ⟨P,0,none⟩)∧w.heap[P]?=some (.cells #[lv,nv,.int .i64 x.2.1,tab,zv] 123)∧LatP w lv nm F∧RdT w tab ns∧RdAt w nv 7 (flatG encN xs)∧xs.map (·.1)=x.1∧(∀y∈xs,(RdS w y.2.1 y.1.names∧RdEd w y.2.2 y.1.edges)∧Shp y.2.1∧Shp y.2.2)∧RdAt w zv 1 (ints x.2.2)
theorem PlanP.below{w w':World}{v:Value}{nm:List ByteArray}{F:Nat→Nat→Bool}{ns:List ByteArray}{x:List NdR×Int×List Int}(h:PlanP w v nm F ns x)(m:Below w.heap.size w w'):PlanP w' v nm F ns x:=by
 obtain⟨P,lv,nv,tab,zv,xs,e,hb,hl,ht,hn,hx,hr,hz⟩:=h;exact⟨P,lv,nv,tab,zv,xs,e,(m.block _ (hp_lt hb)).trans hb,hl.below m,ht.below m,hn.below m,hx,fun y hy=>⟨⟨(hr y hy).1.1.below m,RdAt.below (hr y hy).1.2 m⟩,(hr y hy).2⟩,hz.below m⟩
theorem rd_unemp{S:Nat→Prop}{w:World}{v:Value}{k:Nat}{xs:List Value}(h:RdAt (empW S w) v k xs):RdAt w v k xs:=by
 obtain⟨A,n,c,rfl,hl,hn,hc⟩:=h;refine⟨A,n,c,rfl,hl,hn,fun h0=>?_⟩;obtain⟨g,o,rfl,hg,hx⟩:=hc h0;rw [emp_size]at hg;exact⟨g,o,rfl,hg,fun j u hj=>(emp_cell.1 (hx j u hj)).2⟩
section
variable {base B:Nat} {lv tv tab:Value} {rh:TH} {rnv rpv:Value} {w0:World}
theorem add_calls{nm:List ByteArray}{F:Nat→Nat→Bool}{tys:List Nd}{st:List Int}(hL:LatP w0 lv nm F)(ht:RdNs w0 tv tys)(hT:RdT w0 tab (nms (tw tys)))(hlow:w0.heap.size≤base)(hl:tys.length≤1000000)(hsl:st.length=tys.length+1)(f:Ft):AddC base B lv tv tab rh rnv rpv w0 nm F tys st f:=Fo.deep (add_step hL ht hT hlow hl hsl) f
theorem compile_calls{nm:List ByteArray}{F:Nat→Nat→Bool}{tys:List Nd}{rf:Ft}(hL:LatP w0 lv nm F)(ht:RdNs w0 tv tys)(hT:RdT w0 tab (nms (tw tys)))(hroot:RdY w0 rh rf rnv rpv)(hlow:w0.heap.size≤base)(hl:tys.length≤1000)(hG:∀x∈tys,GoodK x.2.1 x.2.2)(hGr:GoodK rh rf)(hc:∀x∈tys,Kin.cntF x.2.2≤512)(hcr:Kin.cntF rf≤512)
  (s:BS) (w:World) (hs0:s.st=[]) (hn0:s.nd=[]) (hI:(BF base B lv tv tab rh rnv rpv).Inv w s) (hb:Below w0.heap.size w0 w) (R:Ending→World→Prop)
  (hR:Hid (∀W v,PlanP W v nm F (nms (tw tys)) (planN nm F tys s.count rh rf)→Below w0.heap.size w0 W→R (.returned v) W)):Calls Tryz.prog 64 #[.pointer (some ⟨B,0,none⟩)] w R:=by
 obtain⟨ti,hTI,hZ⟩:=int_info;simp only[Prod.mk.injEq]at hZ;obtain⟨hz0,hz1,hz2⟩:=hZ;have hmf:∀(fn:Fn) (first cap:Array Value) (w:World),(Instr.makeFunc fn first cap).run Tryz.prog w=.ok (.func fn first cap) w:=fun _ _ _ _=>rfl
 have ht0:=ht;have hroot0:=hroot;obtain⟨A,c,rfl,hca,hel⟩:=nds_el ht;obtain⟨Rn,rn,rfl,-,-⟩:=hroot.n.op;obtain⟨Rp,rp,rfl,-⟩:=hroot.p.sl;have hlo:=bF_low base B lv (.slice A tys.length c) tab rh (.slice Rn rh.names.length rn) (.slice Rp rf.len rp) hlow;have hsl:=cumL_len tys s.count;have hadd:=Lib.hid fun f=>add_calls (base:=base) (B:=B) (rh:=rh) (rnv:=.slice Rn rh.names.length rn) (rpv:=.slice Rp rf.len rp) hL ht0 hT hlow (by omega) hsl f
 have n:=Hq.nil hI;replace hel:=Lib.hid hel;replace hG:=Lib.hid hG;replace hc:=Lib.hid hc;go_enter Tryz.func64,Tryz.ntmps64
 go_upto_region 1 with fail
 go_wp2_with fail
 refine each0_calls (G:=GoodT) (fun K s'=>s'.nd=s.nd∧s'.st.length=K∧(K≤tys.length→s'.st++cumL s'.count (tys.drop K)=cumL s.count tys)∧(tys.length<K→s'.st=cumL s.count tys)) ht0 hroot0 hlow (by unfold maxLen;omega) (fun x hx=>(hG.out x hx).2) hGr.2 isF_number (fun K s1 h f nv' pv' V hh hJ hI1 hb1 hy1 hg1 R1 hR1=>?_) s w ⟨rfl,by rw [hs0];rfl,fun _=>by rw [hs0];rfl,fun h=>by omega⟩ hI hb _ (Lib.hid fun W1 s1 j1 c1=>?_)
 ·obtain⟨q1,q2,q3,-⟩:=hJ
  have hK:K≤tys.length:=by omega
  have q4:=q3 hK;refine number_calls hlow s1 h f nv' pv' V (by omega) hI1 hb1 hy1 hg1 R1 (Lib.hid fun W v' c=>hR1.out W { s1 with st:=s1.st++[s1.count],sv:=v',count:=kntT s1.count h f } ⟨q1,by simp [q2],fun hK1=>?_,fun hK1=>?_⟩ c)
  ·rcases hh with⟨hK2,rfl,rfl⟩|⟨rfl,-,-⟩
   ·rw [nd_drop hK2]at q4
    show(s1.st++[s1.count])++cumL (kntT s1.count (nN tys K).2.1 (nN tys K).2.2) (tys.drop (K+1))=_;rw [List.append_assoc];exact q4
   ·omega
  ·rcases hh with⟨hK2,rfl,rfl⟩|⟨rfl,-,-⟩
   ·omega
   ·rw [List.drop_length]at q4
    exact q4
 obtain⟨q1,-,-,q4⟩:=j1;have a1:s1.st=cumL s.count tys:=q4 (by omega);have a2:s1.nd.map (·.1)=[]:=by rw [q1,hn0];rfl
 have a3:s1.nd.length=0:=by rw [q1,hn0];rfl
 replace n:=n.call c1;clear c1 q1 q4 hs0 hn0;have b1:=n.bc 1 rfl;unfold planN at hR;generalize cumL s.count tys=st at *;go_wp2_with fail
 clear b1;go_loopg [3,16] tys.length (fun g0 ev i wr=>∃(K:Nat) (v:Value) (sK:BS) (zs:List Int),v=ev∧i=.int .i64 K∧K+g0=tys.length∧Hid (zs.length=K∧sK.st=st∧addA nm F (tgI tys st) tys []=(zs++(addA nm F (tgI tys st) (tys.drop K) (sK.nd.map (·.1))).1,(addA nm F (tgI tys st) (tys.drop K) (sK.nd.map (·.1))).2)∧sK.nd.length≤K*513)∧Hid (Hq (BF base B lv (.slice A tys.length c) tab rh (.slice Rn rh.names.length rn) (.slice Rp rf.len rp)) s sK w wr [])∧Hid (wr.ownsRow w.heap.size 3 1 v K (ints zs))∧Hid (∀k,v.ownBlock=some k→¬bFr base B sK k))
 case atStart=>exact⟨0,_,s1,[],rfl,rfl,by omega,Lib.hid ⟨rfl,a1,by rw [a2];rfl,by omega⟩,Lib.hid n,Lib.hid (by simpa [ints]using World.ownsRow_nil _ _ _ _),Lib.hid fun k q=>by cases q⟩
 case round =>
  clear n;obtain⟨K,v,sK,zs,rfl,rfl,e1,hh,n,own,sep⟩:=hrel;replace n:=n.out;have hbW:=hb.trans (n.below hb.size (hlo s));have szW:=n.sz
  by_cases hK:K<tys.length
  ·obtain⟨g,o,N1,N3,M1,M3,rfl,hxy,hrg⟩:=hel.out K hK
   obtain⟨h1,h2,h3,h4⟩:=hh.out;have hGx:=hG.out _ (nd_mem hK);have hcx:=hc.out _ (nd_mem hK);rw [nd_drop hK]at h3;have rg:=hrg wr hbW;clear hrg hh hbW;generalize nN tys K=x at *;have i0:(0:Int)≤(K:Int):=by omega
   have i1:(K:Int)<(tys.length:Int):=by omega
   obtain⟨V3,e3,n,z3⟩:=n.new (.cells (ndL x (.slice N1 x.2.1.names.length N3) (.slice M1 x.2.2.len M3)).toArray 100);have bP:=Lib.hid (show Below wr.heap.size wr V3 from e3▸(Below.refl _ _).alloc (Nat.le_refl _) _);replace h3:=Lib.hid h3;go_upto_region 6 with(first|(refine wpList_load_g (by rfl) 100 _ rfl g (o+K*11) rfl _ _ rg Tryz.underlying100 rfl (by kernel_rfl) ?_;go_simp)|(refine wpList_copy (ndL x (.slice N1 x.2.1.names.length N3) (.slice M1 x.2.2.len M3)).toArray ⟨rfl,rfl,rfl⟩ ⟨rfl,rfl,rfl⟩ named_alloc (by kernel_rfl) ⟨rfl,by simp [Value.oneCell']⟩ (fun _=>⟨rfl,rfl⟩) ?_;go_simp))
   clear e3 z3 rg;have hbV:=hb.trans (n.below hb.size (hlo s));have r2:V3.rangeAt wr.heap.size 2 (tyL x.2.1 (.slice N1 x.2.1.names.length N3) (.slice M1 x.2.2.len M3)):=n.rgd 0 2 rfl;go_wp2_with (refine wpList_load_g (by rfl) 36 _ rfl wr.heap.size (2) rfl _ _ r2 Tryz.underlying36 rfl (by kernel_rfl) ?_;go_simp)
   refine hadd.out x.2.2 sK x.2.1 _ _ V3 n.inv hbV hxy hGx h2 (by omega) _ (Lib.hid fun W5 s5 hs5 hn5 c5=>?_);have own5:W5.ownsRow w.heap.size 3 1 v K (ints zs):=ownKp (own_below own.out bP.out) fun k q _=>c5.gr.block k (Nat.lt_of_lt_of_le (own.out.lt k q).2 bP.out.size) (sep.out k q)
   have sep5:∀k,v.ownBlock=some k→¬bFr base B s5 k:=fun k q fr=>by
    rcases c5.sub k fr with e|e
    ·exact sep.out k q e
    ·have a:=(own.out.lt k q).2
     have b:=bP.out.size;omega
   have b5:=addT_behind nm F (tgI tys st) x.2.1 x.2.2 (sK.nd.map (·.1));replace h3:addA nm F (tgI tys st) tys []=(zs++((addT nm F (tgI tys st) x.2.1 x.2.2 (sK.nd.map (·.1))).1::(addA nm F (tgI tys st) (tys.drop (K+1)) (addT nm F (tgI tys st) x.2.1 x.2.2 (sK.nd.map (·.1))).2).1),(addA nm F (tgI tys st) (tys.drop (K+1)) (addT nm F (tgI tys st) x.2.1 x.2.2 (sK.nd.map (·.1))).2).2):=h3.out;rw [←hn5]at h3 b5
   have h5:s5.nd.length≤(K+1)*513:=by
    have q1:=b5.2.1;simp only[List.length_map]at q1;omega
   replace n:=(n.call c5).tail;have hsz:w.heap.size≤W5.heap.size:=n.sz;clear c5 r2 hbV b5 h4 bP own sep hGx hcx hxy;generalize(addT nm F (tgI tys st) x.2.1 x.2.2 (sK.nd.map (·.1))).1=z at h3 ⊢;clear hn5;replace own5:=Lib.hid own5;replace sep5:=Lib.hid sep5;replace h3:=Lib.hid h3;go_wp2_with (at_builtin;go_loud (refine appKF W5 #[.int .i64 z] 1 3 rfl _ _ 82 rfl w.heap.size ti (.int .i64 0) 8 Tryz.underlying82 hTI hz0 hz1 hz2 rfl (by decide) rfl _ K (ints zs) rfl own5.out _ rfl rfl (by simp [Value.oneCell']) (by unfold maxLen;omega) (by omega) hsz ?_);rintro v' w6 hown6 hg6-hfr)
   have own6:=Lib.hid (show w6.ownsRow w.heap.size 3 1 v' (K+1) (ints (zs++[z]))by
    have e:ints (zs++[z])=ints zs++[.int .i64 z]:=by simp [ints]
    rw [e];exact hown6)
   have n6:=Lib.hid (n.grow hg6 fun k q=>⟨(own5.out.lt k q).1,sep5.out k q,by simp⟩)
   have sep6:Hid (∀k,v'.ownBlock=some k→¬bFr base B s5 k):=Lib.hid fun k q=>by
    rcases hfr with e|e
    ·exact sep5.out k (e.symm.trans q)
    ·rw [e]at q
     simp only[Option.some.injEq]at q;intro fr;have:=Fm.lt _ n.inv fr;omega
   have hh6:=Lib.hid (show(zs++[z]).length=K+1∧s5.st=st∧addA nm F (tgI tys st) tys []=((zs++[z])++(addA nm F (tgI tys st) (tys.drop (K+1)) (s5.nd.map (·.1))).1,(addA nm F (tgI tys st) (tys.drop (K+1)) (s5.nd.map (·.1))).2)∧s5.nd.length≤(K+1)*513 from⟨by simp [h1],hs5,by rw [List.append_assoc];exact h3.out,h5⟩)
   clear n own5 sep5 h3 h5 hown6 hg6 hfr hs5 hR;go_wp2_with fail
   go_roundg (gk-1)
   case measure=>omega
   case rel=>exact⟨K+1,v',s5,_,rfl,by go_num,by omega,hh6,n6,own6,sep6⟩
  ·obtain rfl:K=tys.length:=by omega
   obtain⟨h1,h2,h3,h4⟩:=hh.out;rw [List.drop_length]at h3;replace h3:addA nm F (tgI tys st) tys []=(zs,sK.nd.map (·.1)):=by rw [h3];simp [addA]
   rw [h3]at hR;clear h3 hh;have rB:=bs_root n;go_upto_region 8 with fail
   go_wp2_with (refine wpList_load_g (by rfl) 36 _ rfl B (2) rfl _ _ rB Tryz.underlying36 rfl (by kernel_rfl) ?_;go_simp)
   refine hadd.out rf sK rh _ _ wr n.inv hbW hroot0 hGr h2 (by omega) _ (Lib.hid fun W5 s5 hs5 hn5 c5=>?_);have own5:=ownKp own.out fun k q _=>c5.gr.block k (own.out.lt k q).2 (sep.out k q)
   replace n:=n.call c5;rw [←hn5]at hR;generalize(addT nm F (tgI tys st) rh rf (sK.nd.map (·.1))).1=z at hR ⊢;clear c5 hn5 rB hbW own sep hs5;go_upto_region 9 with fail
   obtain⟨lp,rfl⟩:=hL.ptr
   obtain⟨tp,rfl⟩:∃tp,tab=.pointer (some ⟨tp,0,none⟩):=by
    obtain⟨p,_,_,h,-⟩:=hT;exact⟨p,h⟩
   have inv:BInv base B (.pointer (some ⟨lp,0,none⟩)) (.slice A tys.length c) (.pointer (some ⟨tp,0,none⟩)) rh (.slice Rn rh.names.length rn) (.slice Rp rf.len rp) W5 s5:=n.inv;obtain⟨NA,NC,hnv⟩:=own_sl2 inv.on;obtain⟨ZA,zc,rfl⟩:=own_sl2 own5;have hbV:=hb.trans (n.below hb.size (hlo s));have b15:=n.bc 15 rfl;rw [hnv]at b15;replace b15:=fun y:BW W5=>y.cell n.bl_ b15
   have b0:=fun y:BW W5=>y.cell n.bl_ (n.bc 0 rfl)
   have b11:=fun y:BW W5=>y.cell n.bl_ (n.bc 11 rfl)
   have gW:Below W5.heap.size W5 (W5.drewN 1):=below_drewN (Below.refl _ _) 1;obtain⟨V9,e9⟩:∃V9,(W5.drewN 1).alloc (.cells #[.pointer (some ⟨lp,0,none⟩),.slice NA s5.nd.length NC,.int .i64 z,.pointer (some ⟨tp,0,none⟩),.slice ZA tys.length zc] 123)=V9:=⟨_,rfl⟩;have m9:Below W5.heap.size W5 V9:=e9▸gW.alloc gW.size _
   have hP:V9.heap[W5.heap.size]?=some (.cells #[.pointer (some ⟨lp,0,none⟩),.slice NA s5.nd.length NC,.int .i64 z,.pointer (some ⟨tp,0,none⟩),.slice ZA tys.length zc] 123):=by
    rw [←e9];exact heap_alloc_new (W5.drewN 1) _
   have rn_:RdAt W5 s5.nv 7 (flatG encN s5.nd):=RdAt.of_own inv.on;rw [hnv]at rn_;have pl:PlanP V9 (.pointer (some ⟨W5.heap.size,0,none⟩)) nm F (nms (tw tys)) (s5.nd.map (·.1),z,zs):=⟨W5.heap.size,_,_,_,_,s5.nd,rfl,hP,hL.below (hbV.trans (m9.mono hbV.size)),hT.below (hbV.trans (m9.mono hbV.size)),rn_.below m9,rfl,fun y hy=>⟨⟨RdAt.below (rd_unemp (inv.rd y hy).1) m9,RdAt.below (rd_unemp (inv.rd y hy).2) m9⟩,inv.sh y hy⟩,(RdAt.of_own own5).below m9⟩;have fin:=Lib.hid (hR.out _ _ pl (hbV.trans (m9.mono hbV.size)));refine wp_region_tr (.one [0,1,2,3,4,5,6,7,8,9,10,11,12,13,14] 15 (.last [])) 16 (by kernel_rfl) (by kernel_rfl) (by kernel_rfl) (by kernel_rfl) (by decide) (fun _ _ d _ _ h=>by cases d<;>exact h) ?_
   refine tr_one (os:=[_,_,_,_,_,_,_,_,_,_,_,_,_,_,_]) (by simp only[pickO,List.filterMap_cons,List.filterMap_nil,List.getElem?_toArray,List.getElem?_cons_succ,List.getElem?_cons_zero];rfl) (fun Kp hKp=>?_)
   repeat (go_big_quiet_step (exact rfl))
   refine wpQuiet_nil ?_;refine hKp _ ?_;clear hKp;refine loudr (by rfl) (by kernel_rfl) (fun K1 hK1=>?_);clear pl hP rn_ inv n own5 hR;go_simp;refine hK1 _ _ (BW.of m9) ?_;clear hK1;refine tr_last (os:=[]) (by rfl) (fun Kp hKp=>?_);refine wpQuiet_nil ?_;refine hKp _ ?_;clear hKp;refine loudl (by rfl) (by kernel_rfl) ?_;go_simp;go_wp2_with fail
   exact fin.out
end
def bs0:BS:=⟨0,0,.slice none 0 0,[],.slice none 0 0,[],fun _=>False⟩
noncomputable def bldS(s:Sc):Int×Int :=
if(wrongS s.1 s.2.1).1≠0 then wrongS s.1 s.2.1 else
if(nmC s.2.2.1).1≠0 then nmC s.2.2.1 else(chkB (nms s.1) (leqF s.1 s.2.1) s.2.2.1 bs0 s.2.2.2.1 s.2.2.2.2).1
theorem each_inv{op:BS→TH→Ft→(Int×Int)×BS}{P:BS→Prop}(h:∀s a b,P s→P (op s a b).2):∀(l:List Nd)(s:BS)(a:TH)(b:Ft),P s→P (eachS op s l a b).2
| [],s,a,b,q=>h s a b q
| x::l,s,a,b,q=>by
 show P (if(op s x.2.1 x.2.2).1.1≠0 then op s x.2.1 x.2.2 else eachS op (op s x.2.1 x.2.2).2 l a b).2
 split
 ·exact h _ _ _ q
 ·exact each_inv h l _ a b (h _ _ _ q)
theorem inF_inv{op:BS→TH→Ft→(Int×Int)×BS}{P:BS→Prop}(h:∀s a b,P s→P (op s a b).2):∀(f:Ft)(s:BS),P s→P (inF op s f).2
| .nil,s,q=>q
| .cons p x k r,s,q=>by
 show P (if p.bare=true then inF op s r else if(op s x k).1.1≠0 then op s x k else if(inF op (op s x k).2 k).1.1≠0 then inF op (op s x k).2 k else inF op (inF op (op s x k).2 k).2 r).2
 split
 ·exact inF_inv h r s q
 ·split
  ·exact h _ _ _ q
  ·split
   ·exact inF_inv h k _ (h _ _ _ q)
   ·exact inF_inv h r _ (inF_inv h k _ (h _ _ _ q))
theorem chk_inv{nm:List ByteArray}{F:Nat→Nat→Bool}{tys:List Nd}{s:BS}{h:TH}{f:Ft}:∃t,(chkB nm F tys s h f).2={ s with total:=t }:=by
 have hk:∀s' a b,(∃t,s'={ s with total:=t })→∃t,(kindsS s' a b).2={ s with total:=t }:=fun s' a b ⟨t,e⟩=>by
  subst e;unfold kindsS
  split
  ·exact⟨t,rfl⟩
  ·split
   ·exact⟨_,rfl⟩
   ·exact⟨_,rfl⟩
 have hw:∀s' a b,(∃t,s'={ s with total:=t })→∃t,(inT (wordsS nm F (nms (tw tys))) s' a b).2={ s with total:=t }:=fun s' a b q=>by
  unfold inT
  split
  ·exact q
  ·exact inF_inv (P:=fun s'=>∃t,s'={ s with total:=t }) (fun _ _ _ q=>q) b _ q
 have h1:=each_inv (P:=fun s'=>∃t,s'={ s with total:=t }) hk tys s h f ⟨s.total,rfl⟩;have h2:=each_inv (P:=fun s'=>∃t,s'={ s with total:=t }) hw tys _ h f h1;unfold chkB
 split
 ·exact h1
 ·split
  ·exact h2
  ·exact h2
theorem kindsS_cnt{s:BS}{h:TH}{f:Ft}(e:(kindsS s h f).1.1=0):Kin.cntF f≤512:=by
 unfold kindsS at e
 by_cases c:(wcS h f).1≠0
 ·rw [if_pos c]at e;exact absurd e c
 ·have:=(wc_ok (Classical.not_not.1 c)).2.1
  omega
theorem each_cnt:∀(l:List Nd)(s:BS){h:TH}{f:Ft},(eachS kindsS s l h f).1.1=0→(∀x∈l,Kin.cntF x.2.2≤512)∧Kin.cntF f≤512
| [],s,h,f,e=>⟨by simp,kindsS_cnt e⟩
| x::l,s,h,f,e=>by
 have e':(if(kindsS s x.2.1 x.2.2).1.1≠0 then kindsS s x.2.1 x.2.2 else eachS kindsS (kindsS s x.2.1 x.2.2).2 l h f).1.1=0:=e
 by_cases c:(kindsS s x.2.1 x.2.2).1.1≠0
 ·rw [if_pos c]at e';exact absurd e' c
 ·rw [if_neg c]at e'
  obtain⟨h1,h2⟩:=each_cnt l _ e';refine⟨fun y hy=>?_,h2⟩;rcases List.mem_cons.1 hy with rfl|hy
  ·exact kindsS_cnt (s:=s) (by simpa using c)
  ·exact h1 y hy
theorem chk_kinds{nm:List ByteArray}{F:Nat→Nat→Bool}{tys:List Nd}{s:BS}{h:TH}{f:Ft}(e:(chkB nm F tys s h f).1.1=0):(eachS kindsS s tys h f).1.1=0:=by
 unfold chkB at e
 by_cases c:(eachS kindsS s tys h f).1.1≠0
 ·rw [if_pos c]at e;exact absurd e c
 ·exact Classical.not_not.1 c
theorem nmC_len{l:List Nd}(e:(nmC l).1=0):l.length≤64:=by
 unfold nmC at e
 by_cases c:64<l.length
 ·rw [if_pos c]at e;exact absurd e (by show ¬(8:Int)=0;decide)
 ·omega
theorem bld_eq(s:Sc):bldS s=if(wrongS s.1 s.2.1).1≠0 then wrongS s.1 s.2.1 else if(nmC s.2.2.1).1≠0 then nmC s.2.2.1 else(chkB (nms s.1) (leqF s.1 s.2.1) s.2.2.1 bs0 s.2.2.2.1 s.2.2.2.2).1:=rfl
theorem build18_calls(s:Sc)(gs:GoodS s)(b3:s.2.2.1.length≤1000000)(lv ov tv nv pv:Value)(w:World)(rd:RdSc w s lv ov tv nv pv)(R:Ending→World→Prop)
  (hR:Hid (∀W v,(bldS s).1=0→PlanP W v (nms s.1) (leqF s.1 s.2.1) (nms (tw s.2.2.1)) (planN (nms s.1) (leqF s.1 s.2.1) s.2.2.1 0 s.2.2.2.1 s.2.2.2.2)→Below w.heap.size w W→R (.returned (.tuple #[v,FtV (0,0)])) W))
  (hR2:Hid (∀W,(bldS s).1≠0→Below w.heap.size w W→R (.returned (.tuple #[.pointer none,FtV (bldS s)])) W)):Calls Tryz.prog 27 #[scV s lv ov tv nv pv] w R:=by
 obtain⟨A1,c1,rfl,-,-⟩:=rd.l.op;obtain⟨A2,c2,rfl,-,-⟩:=Unp.RdPr.op rd.o;obtain⟨A3,c3,rfl,-,-⟩:=nds_el rd.t;obtain⟨N1,N3,rfl,-,-⟩:=rd.r.n.op;obtain⟨M1,M3,rfl,-⟩:=rd.r.p.sl;have hE:=Lib.hid (bld_eq s);have m0:=F0.z w;obtain⟨V1,e1,m1,z1⟩:=m0.new (.cells [.slice A1 s.1.length c1,.slice A2 s.2.1.length c2,.slice A3 s.2.2.1.length c3,.int .i64 s.2.2.2.1.kind,.int .i64 s.2.2.2.1.at_,.int .i64 s.2.2.2.1.lo,.int .i64 s.2.2.2.1.hi,.int .i64 s.2.2.2.1.most,.slice N1 s.2.2.2.1.names.length N3,.slice M1 s.2.2.2.2.len M3,.string s.2.2.2.1.name,.int .i64 s.2.2.2.1.nat].toArray 38);obtain⟨V,e2,n,z2⟩:=m1.new (.cells #[.int .i64 0,.int .i64 0] 26);clear m0 m1 z1 z2;go_enter Tryz.func27,Tryz.ntmps27
 go_upto_region 1 with fail
 clear e1 e2;have s0:=n.c 1 0 rfl rfl;have s1:=n.c 1 1 rfl rfl;go_wp2_with fail
 have hb:=F0.bel n;refine build_calls s.1 s.2.1 _ _ V (rd.l.below hb) (RdAt.below rd.o hb) gs.l gs.o gs.ll gs.ol _ (Lib.hid fun v' W1 ew hL m1=>?_) (Lib.hid fun W1 ew m1=>?_)
 ·clear s0 s1 hb
  replace n:=n.bl m1;clear m1;obtain⟨lp,rfl⟩:=hL.ptr;have ew0:¬(wrongS s.1 s.2.1).1≠0:=by rw [ew];decide
  replace hE:=hE.out;rw [if_neg ew0]at hE;replace hE:=Lib.hid hE;clear ew ew0;obtain⟨q0,q1,hq,hq1⟩:∃q0 q1:Int,(Value.agg #[.int .i64 0,.int .i64 0])=.agg #[.int .i64 q0,.int .i64 q1]∧q0=0:=⟨0,0,rfl,rfl⟩;rw [hq];replace hq:=Lib.hid hq;replace hq1:=Lib.hid hq1;obtain⟨V2,e3,n,z9⟩:=n.new (.cells #[.int .i64 q0,.int .i64 q1] 26);clear z9;go_upto_region 2 with fail
  have hlm:Below W1.heap.size W1 V2:=e3▸(Below.refl _ _).alloc (Nat.le_refl _) _;clear e3;have a_0:=n.c 0 0 rfl rfl;have a_1:=n.c 0 1 rfl rfl;obtain rfl:=hq1.out;clear hq;replace n:=n.tail;have s2:=n.c 1 2 rfl rfl;go_upto_region 4 with fail
  clear a_0 a_1;go_wp2_with fail
  have hb:=F0.bel n;refine names18_calls s.2.2.1 _ V2 (rd.t.below hb) b3 _ (Lib.hid fun v6 W3 r6 m3=>?_);obtain⟨A6,c6,rfl,-⟩:=r6.open;replace n:=n.bl m3;replace hL:=hL.below (hlm.trans (m3.mono hlm.size));have s2:=n.c 1 2 rfl rfl;have hb:=F0.bel n;have hlen:=nmC_len (l:=s.2.2.1);go_wp2_with fail
  refine checkNames18_calls s.2.2.1 _ _ W3 (rd.t.below hb) r6 (fun x hx=>(gs.t x hx).1) b3 _ (Lib.hid fun W4 m4=>?_);replace n:=n.bl m4;replace hL:=hL.below m4;replace r6:=r6.below m4;generalize nmC s.2.2.1=q at *;obtain⟨q0,q1⟩:=q;clear m4 m3 s2 hb hlm;obtain⟨V5,e5,n,z9⟩:=n.new (.cells #[.int .i64 q0,.int .i64 q1] 26);clear z9;go_upto_region 6 with fail
  have hlm:Below W4.heap.size W4 V5:=e5▸(Below.refl _ _).alloc (Nat.le_refl _) _;clear e5;have a_0:=n.c 0 0 rfl rfl;have a_1:=n.c 0 1 rfl rfl;replace hL:=hL.below hlm;replace r6:=r6.below hlm;clear hlm
  by_cases hq0:q0=0
  ·subst hq0
   replace hE:=hE.out;rw [if_neg (by decide)]at hE;have hl64:=hlen rfl;go_upto_region 8 with fail
   clear a_0 a_1 hlen;replace n:=n.tail;have s2:=fun y:BW V5=>y.cell (n.lt 1 rfl) (n.c 1 2 rfl rfl)
   have rT:=fun(W:World) (e:∃y:BW V5,W=y.w)=>(show W.rangeAt w.heap.size 3 (tyL s.2.2.2.1 (.slice N1 s.2.2.2.1.names.length N3) (.slice M1 s.2.2.2.2.len M3))from by
    obtain⟨y,rfl⟩:=e;exact(n.bl y.b).rgd 1 3 rfl)
   have gW:Below V5.heap.size V5 (V5.drewN 1):=below_drewN (Below.refl _ _) 1;refine wp_region_tr (.one [0,1,2,3,4,5] 6 (.one [7] 8 (.last []))) 9 (by kernel_rfl) (by kernel_rfl) (by kernel_rfl) (by kernel_rfl) (by decide) (fun _ _ d _ _ h=>by cases d<;>exact h) ?_
   refine tr_one (os:=[_,_,_,_,_,_]) (by simp only[pickO,List.filterMap_cons,List.filterMap_nil,List.getElem?_toArray,List.getElem?_cons_succ,List.getElem?_cons_zero];rfl) (fun Kp hKp=>?_)
   iterate 4 (go_big_quiet_step (exact rfl))
   refine wpQuiet_load rfl 36 _ rfl (w.heap.size) 3 rfl _ _ rT Tryz.underlying36 rfl (by kernel_rfl) ?_
   try go_simp
   repeat (go_big_quiet_step (exact rfl))
   refine wpQuiet_nil ?_;refine hKp _ ?_;clear hKp;refine loudr (by rfl) (by kernel_rfl) (fun K1 hK1=>?_);go_simp;refine new_calls (nms (tw s.2.2.1)) _ _ (by simp [nms,tw_len];omega) (r6.below gW) _ (Lib.hid fun v7 W7 hT m7=>?_)
   obtain⟨tp,rfl⟩:∃tp,v7=.pointer (some ⟨tp,0,none⟩):=by
    obtain⟨p,_,_,h,-⟩:=hT;exact⟨p,h⟩
   have gL:Below V5.heap.size V5 W7:=gW.trans (m7.mono gW.size);refine hK1 _ _ (BW.of gL) ?_;clear hK1;refine tr_one (os:=[_]) (by simp only[pickO,List.filterMap_cons,List.filterMap_nil,List.getElem?_toArray,List.getElem?_cons_succ,List.getElem?_cons_zero];rfl) (fun Kp hKp=>?_)
   repeat (go_big_quiet_step (exact rfl))
   refine wpQuiet_nil ?_;refine hKp _ ?_;clear hKp;obtain⟨V8,e8⟩:∃V8,W7.alloc (.cells #[.pointer (some ⟨lp,0,none⟩),.slice A3 s.2.2.1.length c3,.int .i64 s.2.2.2.1.kind,.int .i64 s.2.2.2.1.at_,.int .i64 s.2.2.2.1.lo,.int .i64 s.2.2.2.1.hi,.int .i64 s.2.2.2.1.most,.slice N1 s.2.2.2.1.names.length N3,.slice M1 s.2.2.2.2.len M3,.string s.2.2.2.1.name,.int .i64 s.2.2.2.1.nat,.pointer (some ⟨tp,0,none⟩),.int .i64 0,.int .i64 0,.slice none 0 0,.slice none 0 0] 135)=V8:=⟨_,rfl⟩;have g8:Below W7.heap.size W7 V8:=e8▸(Below.refl _ _).alloc (Nat.le_refl _) _
   have h8:V8.heap[W7.heap.size]?=some (.cells #[.pointer (some ⟨lp,0,none⟩),.slice A3 s.2.2.1.length c3,.int .i64 s.2.2.2.1.kind,.int .i64 s.2.2.2.1.at_,.int .i64 s.2.2.2.1.lo,.int .i64 s.2.2.2.1.hi,.int .i64 s.2.2.2.1.most,.slice N1 s.2.2.2.1.names.length N3,.slice M1 s.2.2.2.2.len M3,.string s.2.2.2.1.name,.int .i64 s.2.2.2.1.nat,.pointer (some ⟨tp,0,none⟩),.int .i64 0,.int .i64 0,.slice none 0 0,.slice none 0 0] 135):=by
    rw [←e8];exact heap_alloc_new W7 _
   refine loudr (by rfl) (by kernel_rfl) (fun K2 hK2=>?_);go_simp;refine hK2 _ _ (BW.of (show Below V5.heap.size V5 V8 from gL.trans (g8.mono gL.size))) ?_;clear hK2;refine tr_last (os:=[]) (by rfl) (fun Kp hKp=>?_);refine wpQuiet_nil ?_;refine hKp _ ?_;clear hKp;refine loudl (by rfl) (by kernel_rfl) ?_;go_simp;replace hL:=hL.below gL;replace n:=n.bl gL;have hbw:=F0.bel n;have inv:BInv W7.heap.size W7.heap.size (.pointer (some ⟨lp,0,none⟩)) (.slice A3 s.2.2.1.length c3) (.pointer (some ⟨tp,0,none⟩)) s.2.2.2.1 (.slice N1 s.2.2.2.1.names.length N3) (.slice M1 s.2.2.2.2.len M3) V8 bs0:=⟨Nat.le_refl _,h8,World.ownsRow_nil _ _ _ _,World.ownsRow_nil _ _ _ _,fun k q=>q.elim,(by simp [bs0]),(fun q=>by cases q),(fun q=>by cases q),(fun k q=>by cases q),(by simp [bs0])⟩;clear s2 rT gW gL r6 m7;have hGt:∀x∈s.2.2.1,GoodT x.2.1 x.2.2:=fun x hx=>⟨(gs.t x hx).2.1,(gs.t x hx).2.2.2,(gs.t x hx).2.2.1⟩
   have hGr:GoodT s.2.2.2.1 s.2.2.2.2:=⟨gs.h,gs.gl,gs.g⟩;have tr:=rd.t.below hbw;have rr:=rd.r.below hbw;go_wp2_with fail
   refine check_calls (base:=W7.heap.size) (B:=W7.heap.size) hL hT tr rr (Nat.le_refl _) b3 hGt hGr bs0 V8 inv g8 _ (Lib.hid fun W9 c9=>?_);have m9:Below W7.heap.size W7 W9:=g8.trans (c9.below g8.size fun k q=>q.1);have n7:=Lib.hid n;replace n:=n.bl m9;replace hE:=Lib.hid hE;have hkd:=chk_kinds (nm:=nms s.1) (F:=leqF s.1 s.2.1) (tys:=s.2.2.1) (s:=bs0) (h:=s.2.2.2.1) (f:=s.2.2.2.2);obtain⟨t,hst⟩:=chk_inv (nm:=nms s.1) (F:=leqF s.1 s.2.1) (tys:=s.2.2.1) (s:=bs0) (h:=s.2.2.2.1) (f:=s.2.2.2.2);generalize chkB (nms s.1) (leqF s.1 s.2.1) s.2.2.1 bs0 s.2.2.2.1 s.2.2.2.2=ch at *;obtain⟨⟨q0,q1⟩,s9⟩:=ch;simp only at hst hkd c9 ⊢;subst hst;clear e8 h8 inv;obtain⟨V10,e10,n,z9⟩:=n.new (.cells #[.int .i64 q0,.int .i64 q1] 26);clear z9;go_upto_region 10 with fail
   have hlm:Below W9.heap.size W9 V10:=e10▸(Below.refl _ _).alloc (Nat.le_refl _) _;clear e10;have a_0:=n.c 0 0 rfl rfl;have a_1:=n.c 0 1 rfl rfl;replace c9:=c9.bl hlm
   by_cases hq0:q0=0
   ·subst hq0
    have hkd:=hkd rfl;obtain⟨k1,k2⟩:=each_ok s.2.2.1 bs0 hkd;obtain⟨k3,k4⟩:=each_cnt s.2.2.1 bs0 hkd;have m10:Below W7.heap.size W7 V10:=m9.trans (hlm.mono m9.size);replace n:=n.tail;go_upto_region 12 with fail
    clear a_0 a_1 hlm;go_wp2_with fail
    refine compile_calls (base:=W7.heap.size) (B:=W7.heap.size) hL tr hT rr (Nat.le_refl _) (by omega) (fun x hx=>⟨k1 x hx,hGt x hx⟩) ⟨k2,hGr⟩ k3 k4 _ V10 rfl rfl c9.inv m10 _ (Lib.hid fun W v pl mB=>?_);clear n c9 m10 m9 g8 k1 k2 k3 k4 hkd hGt hGr tr rr hL hT
    obtain⟨P,rfl⟩:∃P,v=.pointer (some ⟨P,0,none⟩):=by
     obtain⟨P,_,_,_,_,_,e,-⟩:=pl;exact⟨P,e⟩
    have n:=n7.out.bl mB;have hG:=n.b 0 rfl;have eS:=setRow_self W V1.heap.size #[.int .i64 0,.int .i64 0] 26 (0,0) hG;have w0_:=n.c 0 0 rfl rfl;have w1_:=n.c 0 1 rfl rfl;have fin:=Lib.hid (hR.out W _ (by rw [hE.out]) pl (F0.bel n));clear n n7 pl mB hR hR2 hE;go_wp2_with (refine wpList_store_row (by rfl) 26 _ _ (by rfl) V1.heap.size #[.int .i64 0,.int .i64 0] (by rfl) (by rfl) 26 _ hG (by kernel_rfl) rfl (by simp [Value.oneCell']) ?_;rw [eS])
    first|refine bodyPost_ret ?_ rfl fin.out|refine bodyPost_end ?_ rfl fin.out
    simp [results,Tryz.results27,go_sem,w0_,w1_]
   ·have t0:(q0 != 0)=true:=by simpa using hq0
    have hE2:=Lib.hid (show bldS s=(q0,q1)from hE.out);replace hq0:=Lib.hid hq0;clear hE hL hT tr rr hGt hGr hkd c9 hlm m9 g8;go_upto_region 11 with fail
    clear a_0 a_1
    have rT:=fun(W:World) (e:∃y:BW V10,W=y.w)=>(show W.rangeAt W9.heap.size 0 [.int .i64 q0,.int .i64 q1]from by
     obtain⟨y,rfl⟩:=e;exact(n.bl y.b).rg 0 rfl)
    refine wp_region_tr (.last [0,1]) 2 (by kernel_rfl) (by kernel_rfl) (by kernel_rfl) (by kernel_rfl) (by decide) (fun _ _ d _ _ h=>by cases d<;>exact h) ?_
    replace n:=n.bl (show Below V10.heap.size V10 (V10.drewN 1)from below_drewN (Below.refl _ _) 1);refine tr_last (os:=[_,_]) (by simp only[pickO,List.filterMap_cons,List.filterMap_nil,List.getElem?_toArray,List.getElem?_cons_succ,List.getElem?_cons_zero];rfl) (fun Kp hKp=>?_)
    refine wpQuiet_load rfl 26 _ rfl (W9.heap.size) 0 rfl _ _ rT Tryz.underlying26 rfl (by kernel_rfl) ?_
    try go_simp
    repeat (go_big_quiet_step (exact rfl))
    refine wpQuiet_nil ?_;refine hKp _ ?_;clear hKp;clear rT;have y0:=n.c 1 0 rfl rfl;have yf0:=n.f 1 0 rfl;have y1:=n.c 1 1 rfl rfl;have yf1:=n.f 1 1 rfl;obtain⟨VE,eE,nE,-⟩:=n.put (j:=1) rfl [(0,.int .i64 q0),(1,.int .i64 q1)];simp only[stL]at eE;simp only[stA,List.setIfInBounds_toArray,List.set_cons_succ,List.set_cons_zero]at nE;have w0_:=nE.c 1 0 rfl rfl;have w1_:=nE.c 1 1 rfl rfl;have fin:=Lib.hid (by have:=hR2.out VE (by rw [hE2.out];exact hq0.out) (F0.bel nE);rw [hE2.out]at this;exact this)
    clear nE n hR hR2;refine loudl (by rfl) (by kernel_rfl) ?_;go_simp;go_wp2_with fail
    first|refine bodyPost_ret ?_ rfl fin.out|refine bodyPost_end ?_ rfl fin.out
    simp [results,Tryz.results27,go_sem,w0_,w1_]
  ·replace hlen:=hq0
   have t0:(q0 != 0)=true:=by simpa using hq0
   have hE2:=Lib.hid (show bldS s=(q0,q1)by rw [hE.out,if_pos hq0]);replace hq0:=Lib.hid hq0;clear hE hlen hL r6;go_upto_region 7 with fail
   clear a_0 a_1
   have rT:=fun(W:World) (e:∃y:BW V5,W=y.w)=>(show W.rangeAt W4.heap.size 0 [.int .i64 q0,.int .i64 q1]from by
    obtain⟨y,rfl⟩:=e;exact(n.bl y.b).rg 0 rfl)
   refine wp_region_tr (.last [0,1]) 2 (by kernel_rfl) (by kernel_rfl) (by kernel_rfl) (by kernel_rfl) (by decide) (fun _ _ d _ _ h=>by cases d<;>exact h) ?_
   replace n:=n.bl (show Below V5.heap.size V5 (V5.drewN 1)from below_drewN (Below.refl _ _) 1);refine tr_last (os:=[_,_]) (by simp only[pickO,List.filterMap_cons,List.filterMap_nil,List.getElem?_toArray,List.getElem?_cons_succ,List.getElem?_cons_zero];rfl) (fun Kp hKp=>?_)
   refine wpQuiet_load rfl 26 _ rfl (W4.heap.size) 0 rfl _ _ rT Tryz.underlying26 rfl (by kernel_rfl) ?_
   try go_simp
   repeat (go_big_quiet_step (exact rfl))
   refine wpQuiet_nil ?_;refine hKp _ ?_;clear hKp;clear rT;have y0:=n.c 1 0 rfl rfl;have yf0:=n.f 1 0 rfl;have y1:=n.c 1 1 rfl rfl;have yf1:=n.f 1 1 rfl;obtain⟨VE,eE,nE,-⟩:=n.put (j:=1) rfl [(0,.int .i64 q0),(1,.int .i64 q1)];simp only[stL]at eE;simp only[stA,List.setIfInBounds_toArray,List.set_cons_succ,List.set_cons_zero]at nE;have w0_:=nE.c 1 0 rfl rfl;have w1_:=nE.c 1 1 rfl rfl;have fin:=Lib.hid (by have:=hR2.out VE (by rw [hE2.out];exact hq0.out) (F0.bel nE);rw [hE2.out]at this;exact this)
   clear nE n hR hR2;refine loudl (by rfl) (by kernel_rfl) ?_;go_simp;go_wp2_with fail
   first|refine bodyPost_ret ?_ rfl fin.out|refine bodyPost_end ?_ rfl fin.out
   simp [results,Tryz.results27,go_sem,w0_,w1_]
 ·replace n:=n.bl m1
  clear m1 s0 s1 hb;have hE2:bldS s=wrongS s.1 s.2.1:=by rw [hE.out,if_pos ew]
  generalize wrongS s.1 s.2.1=q at *;obtain⟨q0,q1⟩:=q;simp only at ew ⊢;replace hE2:=Lib.hid hE2;clear hE;obtain⟨V2,e3,n,z9⟩:=n.new (.cells #[.int .i64 q0,.int .i64 q1] 26);clear z9;go_upto_region 2 with fail
  have hlm:Below W1.heap.size W1 V2:=e3▸(Below.refl _ _).alloc (Nat.le_refl _) _;clear e3;have a_0:=n.c 0 0 rfl rfl;have a_1:=n.c 0 1 rfl rfl;have t0:(q0 != 0)=true:=by simpa using ew
  replace ew:=Lib.hid ew;go_upto_region 3 with fail
  clear a_0 a_1
  have rT:=fun(W:World) (e:∃y:BW V2,W=y.w)=>(show W.rangeAt W1.heap.size 0 [.int .i64 q0,.int .i64 q1]from by
   obtain⟨y,rfl⟩:=e;exact(n.bl y.b).rg 0 rfl)
  refine wp_region_tr (.last [0,1]) 2 (by kernel_rfl) (by kernel_rfl) (by kernel_rfl) (by kernel_rfl) (by decide) (fun _ _ d _ _ h=>by cases d<;>exact h) ?_
  replace n:=n.bl (show Below V2.heap.size V2 (V2.drewN 1)from below_drewN (Below.refl _ _) 1);refine tr_last (os:=[_,_]) (by simp only[pickO,List.filterMap_cons,List.filterMap_nil,List.getElem?_toArray,List.getElem?_cons_succ,List.getElem?_cons_zero];rfl) (fun Kp hKp=>?_)
  refine wpQuiet_load rfl 26 _ rfl (W1.heap.size) 0 rfl _ _ rT Tryz.underlying26 rfl (by kernel_rfl) ?_
  try go_simp
  repeat (go_big_quiet_step (exact rfl))
  refine wpQuiet_nil ?_;refine hKp _ ?_;clear hKp;clear rT;have y0:=n.c 1 0 rfl rfl;have yf0:=n.f 1 0 rfl;have y1:=n.c 1 1 rfl rfl;have yf1:=n.f 1 1 rfl;obtain⟨VE,eE,nE,-⟩:=n.put (j:=1) rfl [(0,.int .i64 q0),(1,.int .i64 q1)];simp only[stL]at eE;simp only[stA,List.setIfInBounds_toArray,List.set_cons_succ,List.set_cons_zero]at nE;have w0_:=nE.c 1 0 rfl rfl;have w1_:=nE.c 1 1 rfl rfl;have fin:=Lib.hid (by have:=hR2.out VE (by rw [hE2.out];exact ew.out) (F0.bel nE);rw [hE2.out]at this;exact this)
  clear nE n hR hR2;refine loudl (by rfl) (by kernel_rfl) ?_;go_simp;go_wp2_with fail
  first|refine bodyPost_ret ?_ rfl fin.out|refine bodyPost_end ?_ rfl fin.out
  simp [results,Tryz.results27,go_sem,w0_,w1_]
end Go.Proofs.YtabhkakomececaaGreat.Res
