import Derived.Test.YtabhkakomececaaGreatQ40
set_option linter.all false
set_option maxRecDepth 100000
set_option maxHeartbeats 4000000
namespace Go.Proofs.YtabhkakomececaaGreat.Res
open Go.RowKit Go.Lib Utf Nam Lat Kin Unp Rel Lab
theorem te_el'{w:World}{v:Value}{L:List Te}{B:Nat}(h:w.ownsRow B 36 9 v L.length (flatG encY L)):∃(A:Option Addr)(c:Nat),v=.slice A L.length c∧∀K (hK:K<L.length),∃g,A=some ⟨g,0,none⟩∧B≤g∧g<w.heap.size∧w.rangeAt g (K*9) (encY L[K]):=by
 obtain⟨A,c,rfl,hc,hr⟩:=RdG.open encY_len (by decide) (RdG.of_own h);refine⟨A,c,rfl,fun K hK=>?_⟩;obtain⟨g,o,rfl,hg,hi⟩:=hr (by omega);obtain⟨hl,⟨q,-⟩|⟨g',cap,cur,q,hb,-⟩⟩:=h
 ·cases q
 ·simp only[Value.slice.injEq,Option.some.injEq,Addr.mk.injEq,and_true]at q
  obtain⟨⟨rfl,rfl⟩,-⟩:=q
  exact⟨g,rfl,hb,hg,fun j v e=>(by
   have:=(hi K hK j (by have:=(List.getElem?_eq_some_iff.1 e).1;exact this)).trans e
   rwa [Nat.zero_add]at this)⟩
theorem n18_in:(Tryz.prog.info? 74).map (fun i=>(i.zero,i.size,i.bytes))=some (some (.agg #[.int .i64 0,.int .i64 0,.int .i64 0,.int .i64 0,.int .i64 0,.slice none 0 0,.slice none 0 0]),7,88):=by kernel_rfl
theorem n18_info:∃i0,Tryz.prog.info? 74=some i0∧(i0.zero,i0.size,i0.bytes)=(some (.agg #[.int .i64 0,.int .i64 0,.int .i64 0,.int .i64 0,.int .i64 0,.slice none 0 0,.slice none 0 0]),7,88):=by
 have:=n18_in;cases h:Tryz.prog.info? 74 with
 | none=>rw [h]at this;cases this
 | some i0=>rw [h]at this;exact⟨i0,rfl,by simpa using this⟩
theorem rdm_kp{w w':World}{v:Value}{n:Nat}{f:Nat→List Bool}(h:RdM w v n f)(k:Kp w w'):RdM w' v n f:=by
 obtain⟨vs,h1,h2,h3⟩:=h;exact⟨vs,RdAt.kp k h1,h2,fun j hj=>⟨RdAt.kp k (h3 j hj).1,(h3 j hj).2⟩⟩
structure NdsO(w:World)(B:Nat)(v:Value)(L:List Nv):Prop where
own:w.ownsRow B 74 7 v L.length (flatG encN L)
el:∀x∈L,w.ownsRow B 9 1 x.2.1 x.1.names.length (sv x.1.names)∧w.ownsRow B 97 10 x.2.2 x.1.edges.length (flatG encE x.1.edges)
theorem NdsO.below{w w':World}{B:Nat}{v:Value}{L:List Nv}(h:NdsO w B v L)(m:Below w.heap.size w w'):NdsO w' B v L:=⟨own_below h.own m,fun x hx=>⟨own_below (h.el x hx).1 m,own_below (h.el x hx).2 m⟩⟩
theorem NdsO.ne{w w':World}{B:Nat}{v:Value}{L:List Nv}(h:NdsO w B v L)(m:∀g,B≤g→w'.heap[g]?=w.heap[g]?):NdsO w' B v L:=⟨ownKp h.own fun g _ hg=>m g hg,fun x hx=>⟨ownKp (h.el x hx).1 fun g _ hg=>m g hg,ownKp (h.el x hx).2 fun g _ hg=>m g hg⟩⟩
theorem NdsO.snoc{w w':World}{B:Nat}{v v':Value}{L:List Nv}{x:Nv}(h:NdsO w B v L)(hx:w.ownsRow B 9 1 x.2.1 x.1.names.length (sv x.1.names)∧w.ownsRow B 97 10 x.2.2 x.1.edges.length (flatG encE x.1.edges))(hg:w.grownBy w' v.ownBlock)(ho:w'.ownsRow B 74 7 v' (L.length+1) (flatG encN L++encN x)):NdsO w' B v' (L++[x]) where
own:=by rw [flatG_snoc,List.length_append];exact ho
el:=fun y hy=>by
 have key:w.ownsRow B 9 1 y.2.1 y.1.names.length (sv y.1.names)∧w.ownsRow B 97 10 y.2.2 y.1.edges.length (flatG encE y.1.edges):=by
  rcases List.mem_append.1 hy with hy|hy
  ·exact h.el y hy
  ·obtain rfl:=List.mem_singleton.1 hy
   exact hx
 exact⟨own_other key.1 h.own (by decide) hg,own_other key.2 h.own (by decide) hg⟩
theorem gr_set{T:Nat}{W V:World}(g:Gr (fun k=>k=T) W V)(o:Nat)(v:Value):Gr (fun k=>k=T) W (V.setCell ⟨T,o,none⟩ v) :=
⟨g.os,g.tape,g.output,by simpa [World.setCell]using g.size,fun k hk hn=>(hp_sne hn).trans (g.block k hk hn)⟩
theorem emp_none(w:World):Kp w (empW (fun _=>False) w):=⟨by rw [emp_size];exact Nat.le_refl _,fun b o v q=>emp_cell.2 ⟨fun h=>h,q⟩⟩
theorem rdm_off{W:World}{S:Nat→Prop}{v:Value}{n T:Nat}{f:Nat→List Bool}(h:RdM (empW S W) v n f)(hn:0<n){t:TypeId}(hT:W.heap[T]?=some (.cells #[.slice none 0 0,.slice none 0 0,.slice none 0 0,.int .i64 0] t)):RdM (empW (fun k=>S k∨k=T) W) v n f:=by
 obtain⟨vs,h1,h2,h3⟩:=h
 have cT:∀(o:Nat) (u:Value),W.cell? ⟨T,o,none⟩=some u→u=.slice none 0 0∨u=.int .i64 0:=fun o u hu=>by
  rw [Lib.cell_of_heap hT o]at hu
  match o,hu with
  | 0,hu=>exact .inl (Option.some.inj hu).symm
  | 1,hu=>exact .inl (Option.some.inj hu).symm
  | 2,hu=>exact .inl (Option.some.inj hu).symm
  | 3,hu=>exact .inr (Option.some.inj hu).symm
  | o+4,hu=>simp at hu
 have row:∀j,j<n→∃A c,rw_ vs j=.slice (some A) n c:=fun j hj=>by
  obtain⟨⟨A,m,c,e,hl,hc,hg⟩,hfl⟩:=h3 j hj;have hb:(bv (f j)).length=n:=by simp [bv,hfl]
  have hm:m=n:=by omega
  subst hm;cases A with
  | none =>
   exfalso
   obtain⟨g,o,hA,-⟩:=hg (by omega);cases hA
  | some a=>exact⟨a,c,e⟩
 have off:∀(xs:List Value) (u:Value),RdAt (empW S W) u 1 xs→(∀x∈xs,x≠.slice none 0 0∧x≠.int .i64 0)→RdAt (empW (fun k=>S k∨k=T) W) u 1 xs:=fun xs u hu hx=>by
  obtain⟨A,m,c,e,hl,hc,hg⟩:=hu;refine⟨A,m,c,e,hl,hc,fun hp=>?_⟩;obtain⟨g,o,hA,hgs,hcell⟩:=hg hp;rw [emp_size]at hgs
  have hne:g≠T:=by
   rintro rfl
   have h0:=hcell 0 _ (List.getElem?_eq_getElem hp);rcases cT _ _ (emp_cell.1 h0).2 with q|q
   ·exact(hx _ (List.getElem_mem hp)).1 q
   ·exact(hx _ (List.getElem_mem hp)).2 q
  refine⟨g,o,hA,by rw [emp_size];exact hgs,fun i u hi=>?_⟩
  obtain⟨p1,p2⟩:=emp_cell.1 (hcell i u hi);exact emp_cell.2 ⟨fun e=>e.elim p1 hne,p2⟩
 refine⟨vs,off vs v h1 fun x hx=>?_,h2,fun j hj=>⟨off _ _ (h3 j hj).1 fun x hx=>?_,(h3 j hj).2⟩⟩
 ·obtain⟨i,hi,rfl⟩:=List.mem_iff_getElem.1 hx
  obtain⟨A,c,e⟩:=row i (by omega)
  have e2:vs[i]=.slice (some A) n c:=by
   rw [←e];simp [rw_,List.getD,List.getElem?_eq_getElem hi]
  rw [e2];exact⟨by simp,by simp⟩
 ·have:∃b,x=Value.bool b:=by
   unfold bv at hx;obtain⟨b,-,rfl⟩:=List.mem_map.1 hx;exact⟨b,rfl⟩
  obtain⟨b,rfl⟩:=this;exact⟨by simp,by simp⟩
theorem build_fin{W6 V VE:World}{T B1 n:Nat}{v lq:Value}{Ls:List Nv}{ns:List NdR}{f:Nat→List Bool}(gr:Gr (fun k=>k=T) W6 V)(no:NdsO V W6.heap.size v Ls)(hB:B1<W6.heap.size)(rq:RdM (empW (fun k=>k=T∨k=B1) W6) lq n f)(e:Ls.map (·.1)=ns)(hE:∀g,g≠B1→VE.heap[g]?=V.heap[g]?)(sE:V.heap.size≤VE.heap.size):RdNo VE v ns∧RdM VE lq n f:=by
 have no2:=no.ne (w':=VE) fun g hg=>hE g (by omega)
 exact⟨⟨Ls,e,RdAt.of_own no2.own,fun y hy=>⟨RdAt.of_own (no2.el y hy).1,RdAt.of_own (no2.el y hy).2⟩⟩,rdm_kp rq (emp_un (Nat.le_trans gr.size sE) fun g hg hn=>(hE g fun q=>hn (.inr q)).trans (gr.block g hg fun q=>hn (.inl q)))⟩
theorem flatA_pre(l:List (TH×Ft))(K:Nat):(flatA (l.take K)).length≤(flatA l).length:=by
 conv=>rhs;rw [←List.take_append_drop K l]
 unfold flatA;rw [List.flatMap_append,List.length_append];omega
theorem refbuild18_calls(s:Sc)(gs:GoodS s)(o:OkR s)(b2:s.2.1.length≤1000000)(lv ov tv nv pv:Value)(w:World)(rd:RdSc w s lv ov tv nv pv)(R:Ending→World→Prop)
  (hR:Hid (∀W lq nsv,RdNo W nsv (plS s).1→RdM W lq s.1.length (ldR s.1.length (toN (idxQ s.1 s.2.1)))→Below w.heap.size w W→R (.returned (.agg #[lv,lq,nsv,.int .i64 (plS s).2.1])) W)):Calls Tryz.prog 22 #[scV s lv ov tv nv pv] w R:=by
 have os:=OkS.of o.bld;have hf:=found_of o.unk;have b3:s.2.2.1.length≤1000000:=Nat.le_trans os.tl (by decide)
 have hsm:sumT s.2.2.1≤1000000:=by
  have hs:=sumT_le _ os.cnt;have:=os.tl;omega
 have hrq:=(wrong_ok o.lat).2.right
 have hpos:0<s.1.length:=by
  rcases Nat.eq_zero_or_pos s.1.length with q|q
  ·have:=o.lat
   rw [w_none q]at this;exact absurd this (by show ¬(15:Int)=0;decide)
  ·exact q
 have hnum:(flatA (allL s)).length≤40000:=by
  have h1:=os.num.2;rw [(plan_R s).1,ndsR_len]at h1;exact h1
 obtain⟨ti,hTI,hZ⟩:=n18_info;simp only[Prod.mk.injEq]at hZ;obtain⟨hz0,hz1,hz2⟩:=hZ;have rd0:=rd;obtain⟨A1,c1,rfl,-,-⟩:=rd.l.op;obtain⟨A2,c2,rfl,-,-⟩:=Unp.RdPr.op rd.o;obtain⟨A3,c3,rfl,-,-⟩:=nds_el rd.t;obtain⟨N1,N3,rfl,-,-⟩:=rd.r.n.op;obtain⟨M1,M3,rfl,-⟩:=rd.r.p.sl;have n:=F0.z w;obtain⟨V1,e1,n,z1⟩:=n.new (.cells [.slice A1 s.1.length c1,.slice A2 s.2.1.length c2,.slice A3 s.2.2.1.length c3,.int .i64 s.2.2.2.1.kind,.int .i64 s.2.2.2.1.at_,.int .i64 s.2.2.2.1.lo,.int .i64 s.2.2.2.1.hi,.int .i64 s.2.2.2.1.most,.slice N1 s.2.2.2.1.names.length N3,.slice M1 s.2.2.2.2.len M3,.string s.2.2.2.1.name,.int .i64 s.2.2.2.1.nat].toArray 38);obtain⟨V,e2,n,z2⟩:=n.new (.cells #[.slice none 0 0,.slice none 0 0,.slice none 0 0,.int .i64 0] 52);have bV:=F0.bel n;have lV1:V1.heap.size<V.heap.size:=n.lt 0 rfl;have l0:=n.lt 1 rfl;have x0q:=fun q:BW V=>q.cell l0 (n.c 1 0 rfl rfl)
 have x1q:=fun q:BW V=>q.cell l0 (n.c 1 1 rfl rfl)
 have cL:=Lib.hid fun(q:BW V) R hR=>refleq_calls s.1 s.2.1 _ _ q.w (rd0.below (bV.trans (q.b.mono bV.size))).l (rd0.below (bV.trans (q.b.mono bV.size))).o hrq b2 R hR
 have lwV:w.heap.size<V1.heap.size:=by
  have:=z1;omega
 replace rd0:=Lib.hid rd0;replace os:=Lib.hid os;clear z1 z2 rd;go_enter Tryz.func22,Tryz.ntmps22
 go_upto_region 1 with fail
 clear e1 e2;go_cut [3]from 8 to 15 (fun s3 wx=>∃(T:Nat) (Aq:Option Addr) (cq:Nat),s3=.pointer (some ⟨T,0,none⟩)∧V.heap.size≤T∧Hid (RdM (empW (fun k=>k=T∨k=V1.heap.size) wx) (.slice Aq s.1.length cq) s.1.length (ldR s.1.length (toN (idxQ s.1 s.2.1))))∧Hid (Hq F0 () () w wx ((T,.cells #[.slice A1 s.1.length c1,.slice Aq s.1.length cq,.slice none 0 0,.int .i64 0] 52)::[(V1.heap.size,.cells #[.slice none 0 0,.slice none 0 0,.slice none 0 0,.int .i64 0] 52),(w.heap.size,.cells [.slice A1 s.1.length c1,.slice A2 s.2.1.length c2,.slice A3 s.2.2.1.length c3,.int .i64 s.2.2.2.1.kind,.int .i64 s.2.2.2.1.at_,.int .i64 s.2.2.2.1.lo,.int .i64 s.2.2.2.1.hi,.int .i64 s.2.2.2.1.most,.slice N1 s.2.2.2.1.names.length N3,.slice M1 s.2.2.2.2.len M3,.string s.2.2.2.1.name,.int .i64 s.2.2.2.1.nat].toArray 38)])))
 case first =>
  refine wp_region_tr (.two [0,1,2,3,4,5] 6 (.one [7] 8 (.last [])) 8 (.one [] 6 (.last [7]))) 9 (by kernel_rfl) (by kernel_rfl) (by kernel_rfl) (by kernel_rfl) (by decide) (fun _ _ d _ _ h=>by cases d<;>exact h) ?_
  have gW:Below V.heap.size V (V.drewN 1):=below_drewN (Below.refl _ _) 1;refine tr_two (os:=[_,_,_,_,_,_]) (by simp only[pickO,List.filterMap_cons,List.filterMap_nil,List.getElem?_toArray,List.getElem?_cons_succ,List.getElem?_cons_zero];rfl) (fun Kp hKp=>?_)
  repeat (go_big_quiet_step (exact rfl))
  refine wpQuiet_nil ?_;refine hKp _ ?_ ?_
  ·clear hKp
   refine loudr (by rfl) (by kernel_rfl) (fun K1 hK1=>?_);go_simp;refine cL.out ⟨V.drewN 1,gW⟩ _ (Lib.hid fun lq W4 rq m4=>?_);have gL:=gW.trans (m4.mono gW.size);obtain⟨Aq,cq,rfl,-,-⟩:=rq.op;refine hK1 _ _ (BW.of gL) ?_;clear hK1;refine tr_one (os:=[_]) (by simp only[pickO,List.filterMap_cons,List.filterMap_nil,List.getElem?_toArray,List.getElem?_cons_succ,List.getElem?_cons_zero];rfl) (fun Kp hKp=>?_)
   repeat (go_big_quiet_step (exact rfl))
   refine wpQuiet_nil ?_;refine hKp _ ?_;clear hKp;have n4:=n.bl gL;have rqo:=rdm_off (rdm_kp rq (emp_none _)) hpos (n4.b 0 rfl);obtain⟨V5,e5,n5,z5⟩:=n4.new (.cells #[.slice none 0 0,.slice none 0 0,.slice none 0 0,.int .i64 0] 52);have gM:Below V.heap.size V V5:=e5▸gL.alloc gL.size _;have m45:Below W4.heap.size W4 V5:=e5▸(Below.refl _ _).alloc (Nat.le_refl _) _;have hlt:∀g,g<W4.heap.size→g≠W4.heap.size:=fun g hg=>by omega
   refine loudr (by rfl) (by kernel_rfl) (fun K2 hK2=>?_);go_simp;refine hK2 _ _ (BW.of gM) ?_;clear hK2;refine tr_last (os:=[]) (by rfl) (fun Kp hKp=>?_);refine wpQuiet_nil ?_;refine hKp _ ?_;clear hKp e5;have y0:=n5.c 0 0 rfl rfl;have yf0:=n5.f 0 0 rfl;have y1:=n5.c 0 1 rfl rfl;have yf1:=n5.f 0 1 rfl;have y2:=n5.c 0 2 rfl rfl;have yf2:=n5.f 0 2 rfl;have y3:=n5.c 0 3 rfl rfl;have yf3:=n5.f 0 3 rfl;obtain⟨V6,e6,n6,z6⟩:=n5.put (j:=0) rfl [(0,.slice A1 s.1.length c1),(1,.slice Aq s.1.length cq),(2,.slice none 0 0),(3,.int .i64 0)]
   have rq5:=Lib.hid (show RdM (empW (fun k=>k=W4.heap.size∨k=V1.heap.size) V6) (.slice Aq s.1.length cq) s.1.length (ldR s.1.length (toN (idxQ s.1 s.2.1)))from rdm_kp rqo (emp_kp (by rw [z6,z5];omega) fun g hg hn=>⟨fun e=>(by
    rcases e with e|e
    ·exact hlt g hg e
    ·exact hn (.inr e)),(by rw [←e6];exact(stL_ne (hlt g hg) _).trans (m45.block g hg))⟩))
   have sT:=gL.size;simp only[stL]at e6;simp only[stA,List.setIfInBounds_toArray,List.set_cons_succ,List.set_cons_zero]at n6;clear z5 z6 m45 hlt;refine loudl (by rfl) (by kernel_rfl) ?_;go_simp;go_step;go_meet
   case rel=>exact⟨_,_,_,rfl,sT,rq5,Lib.hid n6⟩
  ·clear hKp
   have n4:=n.bl gW;obtain⟨V4,e4,n4,z4⟩:=n4.new (.cells #[.slice none 0 0,.slice none 0 0,.slice none 0 0,.int .i64 0] 52);rw [show(V.drewN 1).heap.size=V.heap.size from rfl]at n4;have gL:Below V.heap.size V V4:=e4▸gW.alloc gW.size _;refine loudr (by rfl) (by kernel_rfl) (fun K2 hK2=>?_);go_simp;refine hK2 _ _ (BW.of gL) ?_;clear hK2;refine tr_one (os:=[]) (by rfl) (fun Kp hKp=>?_);refine wpQuiet_nil ?_;refine hKp _ ?_;clear hKp;refine loudr (by rfl) (by kernel_rfl) (fun K1 hK1=>?_);go_simp;refine cL.out ⟨V4,gL⟩ _ (Lib.hid fun lq W5 rq m5=>?_);have gM:=gL.trans (m5.mono gL.size);obtain⟨Aq,cq,rfl,-,-⟩:=rq.op;refine hK1 _ _ (BW.of gM) ?_;clear hK1;refine tr_last (os:=[_]) (by simp only[pickO,List.filterMap_cons,List.filterMap_nil,List.getElem?_toArray,List.getElem?_cons_succ,List.getElem?_cons_zero];rfl) (fun Kp hKp=>?_)
   repeat (go_big_quiet_step (exact rfl))
   refine wpQuiet_nil ?_;refine hKp _ ?_;clear hKp e4;have n5:=n4.bl m5;have rq5:=rdm_off (rdm_off (rdm_kp rq (emp_none _)) hpos (n5.b 0 rfl)) hpos (n5.b 1 rfl);have y0:=n5.c 0 0 rfl rfl;have yf0:=n5.f 0 0 rfl;have y1:=n5.c 0 1 rfl rfl;have yf1:=n5.f 0 1 rfl;have y2:=n5.c 0 2 rfl rfl;have yf2:=n5.f 0 2 rfl;have y3:=n5.c 0 3 rfl rfl;have yf3:=n5.f 0 3 rfl;obtain⟨V6,e6,n6,z6⟩:=n5.put (j:=0) rfl [(0,.slice A1 s.1.length c1),(1,.slice Aq s.1.length cq),(2,.slice none 0 0),(3,.int .i64 0)]
   have rq6:RdM (empW (fun k=>k=V.heap.size∨k=V1.heap.size) V6) (.slice Aq s.1.length cq) s.1.length (ldR s.1.length (toN (idxQ s.1 s.2.1))):=rdm_kp rq5 (emp_kp (Nat.le_of_eq z6.symm) fun g hg hn=>⟨fun e=>(by
    rcases e with e|e
    ·exact hn (.inl (.inr e))
    ·exact hn (.inr e)),(by rw [←e6];exact stL_ne (fun e=>hn (.inl (.inr e))) _)⟩)
   simp only[stL]at e6;simp only[stA,List.setIfInBounds_toArray,List.set_cons_succ,List.set_cons_zero]at n6;refine loudl (by rfl) (by kernel_rfl) ?_;go_simp;go_step;go_meet
   case rel=>exact⟨_,_,_,rfl,Nat.le_refl _,Lib.hid rq6,Lib.hid n6⟩
 case rest =>
  clear x0q x1q cL n;obtain⟨T,Aq,cq,rfl,hVT,rq,n⟩:=hcut;replace n:=n.out;obtain⟨V2,rfl⟩:∃V,V=wc:=⟨_,rfl⟩;have lT:=n.lt 0 rfl;have rS:=n.rg 2 rfl;have cA:=Lib.hid fun R hR=>refall18x_calls s _ _ _ _ _ w V2 (F0.bel n) rd0.out b3 R hR
  go_wp2_with (refine wpList_load_g (by rfl) 38 _ rfl w.heap.size 0 rfl _ _ rS Tryz.underlying38 rfl (by kernel_rfl) ?_;go_simp)
  refine cA.out _ (Lib.hid fun W6 vl L tp hL m6=>?_);clear cA rS;obtain⟨Al,cl,rfl,hte⟩:=te_el' tp.own;have hry:=tp.rd;replace n:=n.bl m6;replace rq:=Lib.hid (rdm_kp rq.out (emp_kp m6.size fun g hg hn=>⟨hn,m6.block g hg⟩));have lT6:T<W6.heap.size:=Nat.lt_of_lt_of_le lT m6.size;have hlen:L.length=(allL s).length:=by rw [←hL,List.length_map]
  have hln2:(allL s).length=s.2.2.1.length+1:=by unfold allL;simp
  have hl6:L.length≤1000001:=by omega
  have hget:∀K (hK:K<L.length),∃h f nv' pv' g,Al=some ⟨g,0,none⟩∧g≠T∧g<W6.heap.size∧(allL s).take (K+1)=(allL s).take K++[(h,f)]∧(h,f)∈allL s∧RdY w h f nv' pv'∧W6.rangeAt g (K*9) (tyL h nv' pv'):=fun K hK=>by
   have e:(allL s)[K]?=some L[K].1:=by rw [←hL,List.getElem?_map,List.getElem?_eq_getElem hK];rfl
   obtain⟨hk2,e3⟩:=List.getElem?_eq_some_iff.1 e;obtain⟨g,hA,hg1,hg2,hrg⟩:=hte K hK;refine⟨L[K].1.1,L[K].1.2,L[K].2.1,L[K].2.2,g,hA,by omega,hg2,?_,?_,hry _ (List.getElem_mem hK),hrg⟩
   ·rw [List.take_succ_eq_append_getElem hk2,e3]
   ·rw [←e3];exact List.getElem_mem hk2
  replace hget:=Lib.hid hget;replace hlen:=Lib.hid hlen;replace hln2:=Lib.hid hln2;have hkok:=Lib.hid (kR_ok _ _ o.knd);clear hry hte tp hL m6;go_wp2_with fail
  go_loopg [5] L.length (fun g0 i wr=>∃(K:Nat) (v':Value) (Ls:List Nv),i=.int .i64 K∧K+g0=L.length∧Hid (Gr (fun k=>k=T) W6 wr)∧Hid (Hq F0 () () w wr ((T,.cells #[.slice A1 s.1.length c1,.slice Aq s.1.length cq,v',.int .i64 ((flatA ((allL s).take (K-1))).length:Nat)] 52)::[(V1.heap.size,.cells #[.slice none 0 0,.slice none 0 0,.slice none 0 0,.int .i64 0] 52),(w.heap.size,.cells [.slice A1 s.1.length c1,.slice A2 s.2.1.length c2,.slice A3 s.2.2.1.length c3,.int .i64 s.2.2.2.1.kind,.int .i64 s.2.2.2.1.at_,.int .i64 s.2.2.2.1.lo,.int .i64 s.2.2.2.1.hi,.int .i64 s.2.2.2.1.most,.slice N1 s.2.2.2.1.names.length N3,.slice M1 s.2.2.2.2.len M3,.string s.2.2.2.1.name,.int .i64 s.2.2.2.1.nat].toArray 38)]))∧Hid (NdsO wr W6.heap.size v' Ls)∧Hid (Ls.map (·.1)=(ndsR (nms s.1) (leqF s.1 s.2.1) (tgI s.2.2.1 (cumL 0 s.2.2.1)) (flatA ((allL s).take K)) 0)))
  case atStart=>exact⟨0,.slice none 0 0,[],rfl,by omega,Lib.hid (Gr.rfl' _ _),Lib.hid n,Lib.hid ⟨World.ownsRow_nil _ _ _ _,by simp⟩,Lib.hid rfl⟩
  case round =>
   clear n;obtain⟨gq,hgq⟩:∃z,z=gk:=⟨gk,rfl⟩;subst hgq;obtain⟨K,v',Ls,rfl,e1,gr,n,no,eL⟩:=hrel;replace n:=n.out;replace gr:=gr.out;obtain⟨A',m',c',rfl⟩:=own_sl no.out.own
   have hm:m'=Ls.length:=by
    obtain⟨hl,⟨q,hn0⟩|⟨g',cap,cur,q,-⟩⟩:=no.out.own
    ·simp only[Value.slice.injEq]at q
     omega
    ·simp only[Value.slice.injEq]at q
     omega
   subst hm
   have hLl:Ls.length=(flatA ((allL s).take K)).length:=by
    have:=congrArg List.length eL.out;rwa [List.length_map,ndsR_len]at this
   by_cases hK:K<L.length
   ·obtain⟨h,f,nv',pv',gl,rfl,hgT,hgl,hkt,hmem,hy,hrg⟩:=hget.out K hK
    obtain⟨okt,hcnt⟩:=hkok.out _ hmem;have hun:=o.unk _ hmem;have hnod:=Lib.hid (flatT_nod okt hun hcnt);have hfT:Hid (flatA ((allL s).take (K+1))=flatA ((allL s).take K)++flatT h f):=Lib.hid (by rw [hkt,flatA_snoc])
    have hT40:(flatA ((allL s).take K)).length+(flatT h f).length≤40000:=by
     have:=flatA_pre (allL s) (K+1);rw [hfT.out,List.length_append]at this;omega
    have hndT:=flatT_len h f;have i0:(0:Int)≤(K:Int):=by omega
    have i1:(K:Int)<(L.length:Int):=by omega
    have x2:=n.c 0 2 rfl rfl;have x3:=n.c 0 3 rfl rfl;have f3:=n.f 0 3 rfl;obtain⟨V3,e3,n,z3⟩:=n.put (j:=0) rfl [(3,.int .i64 ((flatA ((allL s).take K)).length:Nat))];have gr3:Gr (fun k=>k=T) W6 V3:=by rw [←e3];exact gr_set gr _ _
    have no3:NdsO V3 W6.heap.size (.slice A' Ls.length c') Ls:=no.out.ne fun g hg=>by rw [←e3];exact stL_ne (by omega) _
    simp only[stL]at e3;simp only[stA,List.setIfInBounds_toArray,List.set_cons_succ,List.set_cons_zero]at n;rw [hLl]at *;obtain⟨An,cn,rfl,-,-⟩:=hy.n.op;obtain⟨Ap,cp,rfl,-⟩:=hy.p.sl;have cF:=Lib.hid fun R hR=>flat_calls f h _ _ w V3 okt (ok_len okt).1 (by omega) (F0.bel n) hy R hR
    have rT:V3.rangeAt gl (K*9) (tyL h (.slice An h.names.length cn) (.slice Ap f.len cp)):=fun j u hj=>(World.cell?_of_block (a:=⟨gl,K*9+j,none⟩) (gr3.block gl hgl hgT)).trans (hrg j u hj)
    have sz3:=gr3.size;replace gr3:=Lib.hid gr3;replace no3:=Lib.hid no3;clear no gr hrg hkt hmem hy hun okt hgT;go_upto_region 7 with fail
    clear x2 x3 f3 e3;go_wp2_with (refine wpList_load_g (by rfl) 36 _ rfl gl (K*9) rfl _ _ rT Tryz.underlying36 rfl (by kernel_rfl) ?_;go_simp)
    refine cF.out _ (Lib.hid fun W9 vF L2 ownF hL2 eL2 m9=>?_);clear cF rT;obtain⟨AF,mF,cF_,hvF⟩:=own_sl ownF
    have hmF:mF=L2.length:=by
     subst hvF;obtain⟨hl,⟨q,hn0⟩|⟨g',cap,cur,q,-⟩⟩:=ownF
     ·simp only[Value.slice.injEq]at q
      omega
     ·simp only[Value.slice.injEq]at q
      omega
    subst hmF hvF;have len2:L2.length=(flatT h f).length:=by rw [←eL2,List.length_map]
    replace n:=n.bl m9;replace gr3:=gr3.out.bl m9;have no9:=no3.out.below m9;have ownF9:=own_mono ownF sz3;have hL2':=Lib.hid hL2
    have hg2:∀J (hJ:J<L2.length),∃h' f' nv2 pv2 g,AF=some ⟨g,0,none⟩∧L2[J]=((h',f'),nv2,pv2)∧(flatT h f).take (J+1)=(flatT h f).take J++[(h',f')]∧(h',f')∈flatT h f∧RdY w h' f' nv2 pv2:=fun J hJ=>by
     have e:(flatT h f)[J]?=some L2[J].1:=by rw [←eL2,List.getElem?_map,List.getElem?_eq_getElem hJ];rfl
     obtain⟨hk2,e3⟩:=List.getElem?_eq_some_iff.1 e;obtain⟨A,c,q,hcc⟩:=te_el' ownF;obtain⟨g,hA,-⟩:=hcc J hJ;simp only[Value.slice.injEq,true_and]at q;refine⟨L2[J].1.1,L2[J].1.2,L2[J].2.1,L2[J].2.2,g,by rw [q.1];exact hA,rfl,?_,?_,hL2 _ (List.getElem_mem hJ)⟩
     ·rw [List.take_succ_eq_append_getElem hk2,e3]
     ·rw [←e3];exact List.getElem_mem hk2
    replace hg2:=Lib.hid hg2;replace n:=Lib.hid n;replace gr3:=Lib.hid gr3;replace no9:=Lib.hid no9;replace ownF9:=Lib.hid ownF9;clear no3 ownF hL2 eL2 m9 hL2';go_wp2_with fail
    go_loopg [7] L2.length (fun g0 i wr=>∃(J:Nat) (v':Value) (Ls:List Nv),i=.int .i64 J∧J+g0=L2.length∧Hid (Gr (fun k=>k=T) W6 wr)∧Hid (Hq F0 () () w wr ((T,.cells #[.slice A1 s.1.length c1,.slice Aq s.1.length cq,v',.int .i64 ((flatA ((allL s).take K)).length:Nat)] 52)::[(V1.heap.size,.cells #[.slice none 0 0,.slice none 0 0,.slice none 0 0,.int .i64 0] 52),(w.heap.size,.cells [.slice A1 s.1.length c1,.slice A2 s.2.1.length c2,.slice A3 s.2.2.1.length c3,.int .i64 s.2.2.2.1.kind,.int .i64 s.2.2.2.1.at_,.int .i64 s.2.2.2.1.lo,.int .i64 s.2.2.2.1.hi,.int .i64 s.2.2.2.1.most,.slice N1 s.2.2.2.1.names.length N3,.slice M1 s.2.2.2.2.len M3,.string s.2.2.2.1.name,.int .i64 s.2.2.2.1.nat].toArray 38)]))∧Hid (NdsO wr W6.heap.size v' Ls)∧Hid (wr.ownsRow W6.heap.size 36 9 (.slice AF L2.length cF_) L2.length (flatG encY L2))∧Hid (Ls.map (·.1)=(ndsR (nms s.1) (leqF s.1 s.2.1) (tgI s.2.2.1 (cumL 0 s.2.2.1)) (flatA ((allL s).take K)) 0)++(ndsR (nms s.1) (leqF s.1 s.2.1) (tgI s.2.2.1 (cumL 0 s.2.2.1)) ((flatT h f).take J) (flatA ((allL s).take K)).length)))
    case atStart=>exact⟨0,.slice A' (flatA ((allL s).take K)).length c',Ls,rfl,by omega,gr3,n,no9,ownF9,Lib.hid (by rw [eL.out];simp [ndsR])⟩
    case round =>
     clear n gr3 no9 ownF9 eL hLl;obtain⟨J,v',Ls,rfl,e2,gr,n,no,ownF,eL⟩:=hrel;replace n:=n.out;replace gr:=gr.out;obtain⟨A',m',c',rfl⟩:=own_sl no.out.own
     have hm:m'=Ls.length:=by
      obtain⟨hl,⟨q,hn0⟩|⟨g',cap,cur,q,-⟩⟩:=no.out.own
      ·simp only[Value.slice.injEq]at q
       omega
      ·simp only[Value.slice.injEq]at q
       omega
     subst hm
     by_cases hJ:J<L2.length
     ·obtain⟨h',f',nv2,pv2,gF,rfl,eJ,hkt,hmem,hy⟩:=hg2.out J hJ
      have hLl:Ls.length=(flatA ((allL s).take K)).length+J:=by
       have:=congrArg List.length eL.out;rw [List.length_map,List.length_append,ndsR_len,ndsR_len,List.length_take]at this;omega
      have hnd:=hnod.out _ hmem;obtain⟨A_,c_,q,hcc⟩:=te_el' ownF.out;obtain⟨g_,hA,hg1,hg2_,hrg⟩:=hcc J hJ;simp only[Value.slice.injEq,true_and]at q;obtain⟨q1,q2⟩:=q;rw [hA]at q1;obtain rfl:gF=g_:=by simpa using q1
      rw [eJ]at hrg;have i2:(0:Int)≤(J:Int):=by omega
      have i3:(J:Int)<(L2.length:Int):=by omega
      have bwr:=F0.bel n;have hyw:=hy.below bwr;obtain⟨An,cn,rfl,-,-⟩:=hyw.n.op;obtain⟨Ap,cp,rfl,-⟩:=hyw.p.sl;have szW:=gr.size
      have notS:∀k,k<W6.heap.size→¬(Value.slice A' Ls.length c').ownBlock=some k:=fun k hk q=>by
       have:=(no.out.own.lt k q).1;omega
      have notF:¬(Value.slice A' Ls.length c').ownBlock=some gF:=fun q=>by
       rcases own_ne' no.out.own ownF.out (by decide)with e|e
       ·rw [e]at q;cases q
       ·exact e q
      have l3:=n.lt 2 rfl;have b2_:=fun y:RW (fun k=>(Value.slice A' Ls.length c').ownBlock=some k) wr=>y.cell (Nat.lt_of_lt_of_le lT6 szW) (notS _ lT6) (n.c 0 2 rfl rfl)
      have b1_:=fun y:RW (fun k=>(Value.slice A' Ls.length c').ownBlock=some k) wr=>y.cell (Nat.lt_of_lt_of_le lT6 szW) (notS _ lT6) (n.c 0 1 rfl rfl)
      have rS:∀W,(∃y:RW (fun k=>(Value.slice A' Ls.length c').ownBlock=some k) wr,W=y.w)→W.rangeAt w.heap.size 0 [.slice A1 s.1.length c1,.slice A2 s.2.1.length c2,.slice A3 s.2.2.1.length c3,.int .i64 s.2.2.2.1.kind,.int .i64 s.2.2.2.1.at_,.int .i64 s.2.2.2.1.lo,.int .i64 s.2.2.2.1.hi,.int .i64 s.2.2.2.1.most,.slice N1 s.2.2.2.1.names.length N3,.slice M1 s.2.2.2.2.len M3,.string s.2.2.2.1.name,.int .i64 s.2.2.2.1.nat]:=fun W hW j u hj=>by
       obtain⟨y,rfl⟩:=hW;exact y.cell l3 (notS _ (by omega)) (n.rg 2 rfl j u hj)
      have rT:∀W,(∃y:RW (fun k=>(Value.slice A' Ls.length c').ownBlock=some k) wr,W=y.w)→W.rangeAt gF (J*9) (tyL h' (.slice An h'.names.length cn) (.slice Ap f'.len cp)):=fun W hW j u hj=>by
       obtain⟨y,rfl⟩:=hW;exact y.cell hg2_ notF (hrg j u hj)
      have rqW:=rdm_kp rq.out (emp_un gr.size fun g hg hn=>gr.block g hg fun e=>hn (.inl e));have cN:=Lib.hid fun(W:World) (m:Below wr.heap.size wr W) R hR=>refnode18_calls s gs o h' f' hnd Ls.length (by omega) _ _ _ _ _ _ _ _ W (rd0.out.below (bwr.trans (m.mono bwr.size))) (rqW.below m) (hyw.below m) R hR
      have gW:Below wr.heap.size wr (wr.drewN 1):=below_drewN (Below.refl _ _) 1;have hL40:Ls.length≤40000:=by omega
      replace hLl:=Lib.hid hLl;replace hkt:=Lib.hid hkt;clear hrg hg1 q1 q2 hcc hA hnd hmem hy hyw eJ;go_upto_region 11 with fail
      refine wp_region_trS (fun k=>(Value.slice A' Ls.length c').ownBlock=some k) (.one [0,1,2,3,4,5,6,7,8,9,10] 11 (.one [] 12 (.one [] 13 (.one [] 14 (.last [15]))))) 16 (by kernel_rfl) (by kernel_rfl) (by kernel_rfl) (by kernel_rfl) (by decide) (fun _ _ d _ _ h=>by cases d<;>exact h) ?_
      refine tr_one (os:=[_,_,_,_,_,_,_,_,_,_,_]) (by simp only[pickO,List.filterMap_cons,List.filterMap_nil,List.getElem?_toArray,List.getElem?_cons_succ,List.getElem?_cons_zero];rfl) (fun Kp hKp=>?_)
      iterate 2 (go_big_quiet_step (exact rfl))
      refine wpQuiet_load rfl 38 _ rfl w.heap.size 0 rfl _ _ rS Tryz.underlying38 rfl (by kernel_rfl) ?_
      try go_simp
      iterate 5 (go_big_quiet_step (exact rfl))
      refine wpQuiet_load rfl 36 _ rfl gF (J*9) rfl _ _ rT Tryz.underlying36 rfl (by kernel_rfl) ?_
      try go_simp
      repeat (go_big_quiet_step (exact rfl))
      refine wpQuiet_nil ?_;refine hKp _ ?_;clear hKp;refine loudr (by rfl) (by kernel_rfl) (fun K0 hK0=>?_);go_simp;refine hK0 _ _ (RW.of ((Gr.rfl' _ wr).bl gW)) ?_;clear hK0;refine tr_one (os:=[]) (by rfl) (fun Kp hKp=>?_);refine wpQuiet_nil ?_;refine hKp _ ?_;clear hKp;refine loudr (by rfl) (by kernel_rfl) (fun K1 hK1=>?_);go_simp;refine cN.out _ gW _ (Lib.hid fun WN nv3 ev3 ow1 ow2 mN=>?_);have gN:=gW.trans (mN.mono gW.size);obtain⟨B5,k5,d5,rfl⟩:=own_sl ow1;obtain⟨B6,k6,d6,rfl⟩:=own_sl ow2;have noN:=no.out.below gN;have szN:W6.heap.size≤WN.heap.size:=Nat.le_trans szW gN.size;refine hK1 _ _ (RW.of ((Gr.rfl' _ wr).bl gN)) ?_;clear hK1;refine tr_one (os:=[]) (by rfl) (fun Kp hKp=>?_);refine wpQuiet_nil ?_;refine hKp _ ?_;clear hKp;refine loudr (by rfl) (by kernel_rfl) (fun K2 hK2=>?_);go_simp;refine hK2 _ _ (RW.of ((Gr.rfl' _ wr).bl (gN.alloc gN.size _))) ?_;clear hK2;refine tr_one (os:=[]) (by rfl) (fun Kp hKp=>?_);refine wpQuiet_nil ?_;refine hKp _ ?_;clear hKp;refine loudr (by rfl) (by kernel_rfl) (fun K3 hK3=>?_);refine appOp WN #[.int .i64 h'.kind,.int .i64 h'.at_,.int .i64 h'.lo,.int .i64 h'.hi,.int .i64 h'.most,.slice B5 k5 d5,.slice B6 k6 d6] 7 74 _ _ 50 rfl W6.heap.size ti _ 88 Tryz.underlying50 hTI hz0 hz1 hz2 rfl (by decide) rfl (.slice A' Ls.length c') Ls.length (flatG encN Ls) rfl noN.own _ rfl rfl (by simp [Value.oneCell']) (by unfold maxLen;omega) (by omega) szN ?_
      intro v' w2 hown hgr hfr;obtain⟨A'',m'',c'',rfl⟩:=own_sl hown;have gA:Gr (fun k=>(Value.slice A' Ls.length c').ownBlock=some k) wr w2:=((Gr.rfl' _ wr).bl gN).trans (Gr.ofRow hgr) fun k e=>.inl e
      go_simp;refine hK3 _ _ (RW.of gA) ?_;clear hK3;refine tr_last (os:=[_]) (by simp only[pickO,List.filterMap_cons,List.filterMap_nil,List.getElem?_toArray,List.getElem?_cons_succ,List.getElem?_cons_zero];rfl) (fun Kp hKp=>?_)
      repeat (go_big_quiet_step (exact rfl))
      refine wpQuiet_nil ?_;refine hKp _ ?_;clear hKp
      have n2:=(n.bl gN).grow hgr fun k q=>⟨Nat.le_trans (by omega) (noN.own.lt k q).1,fun h=>h,fun x hx e=>by
       have:=(noN.own.lt k q).1;have hlv:=n.lt 1 rfl;simp only[List.mem_cons,List.not_mem_nil,or_false]at hx;rcases hx with rfl|rfl|rfl<;>simp at e<;>omega⟩
      have bf:=n2.f 0 2 rfl;have bc:=n2.c 0 2 rfl rfl;obtain⟨V5,e5,n5,z5⟩:=n2.put (j:=0) rfl [(2,.slice A'' m'' c'')]
      have no5:NdsO V5 W6.heap.size (.slice A'' m'' c'') (Ls++[(nodR (nms s.1) (leqF s.1 s.2.1) (tgI s.2.2.1 (cumL 0 s.2.2.1)) (h',f') Ls.length,.slice B5 k5 d5,.slice B6 k6 d6)]):=(noN.snoc (x:=(nodR (nms s.1) (leqF s.1 s.2.1) (tgI s.2.2.1 (cumL 0 s.2.2.1)) (h',f') Ls.length,.slice B5 k5 d5,.slice B6 k6 d6)) ⟨own_mono ow1 szW,by
       show WN.ownsRow _ _ _ _ (edR _ _ _ _ _).length _;rw [edR_len];exact own_mono ow2 szW⟩ hgr hown).ne fun g hg=>by rw [←e5];exact stL_ne (by omega) _
      have ownF5:V5.ownsRow W6.heap.size 36 9 (.slice (some ⟨gF,0,none⟩) L2.length cF_) L2.length (flatG encY L2):=ownKp (own_other (own_below ownF.out gN) noN.own (by decide) hgr) fun g _ hg=>by rw [←e5];exact stL_ne (by omega) _
      have gr5:Gr (fun k=>k=T) W6 V5:=by
       rw [←e5];refine gr_set ((gr.bl gN).trans (Gr.ofRow hgr) fun k e=>.inr ?_) _ _;exact(noN.own.lt k e).1
      simp only[stL]at e5;simp only[stA,List.setIfInBounds_toArray,List.set_cons_succ,List.set_cons_zero]at n5
      have hltJ:((flatT h f).take J).length=J:=by
       rw [List.length_take];omega
      have eL5:Hid ((Ls++[(nodR (nms s.1) (leqF s.1 s.2.1) (tgI s.2.2.1 (cumL 0 s.2.2.1)) (h',f') Ls.length,Value.slice B5 k5 d5,Value.slice B6 k6 d6)]).map (·.1)=(ndsR (nms s.1) (leqF s.1 s.2.1) (tgI s.2.2.1 (cumL 0 s.2.2.1)) (flatA ((allL s).take K)) 0)++(ndsR (nms s.1) (leqF s.1 s.2.1) (tgI s.2.2.1 (cumL 0 s.2.2.1)) ((flatT h f).take (J+1)) (flatA ((allL s).take K)).length)):=Lib.hid (by
       rw [List.map_append,eL.out,hkt.out,ndsR_app,List.append_assoc,hltJ,hLl.out];rfl)
      replace no5:=Lib.hid no5;replace ownF5:=Lib.hid ownF5;replace gr5:=Lib.hid gr5;have n6:=Lib.hid n5;clear n n2 n5 no hown hgr hfr gA noN gN gW gr ow1 ow2 mN b2_ b1_ hltJ rS rT rqW cN ownF eL hkt bwr notS notF;refine loudl (by rfl) (by kernel_rfl) ?_;go_simp;go_wp2_with fail
      go_roundg (gk-1)
      case measure=>omega
      case rel=>exact⟨J+1,_,_,by go_num,by omega,gr5,n6,no5,ownF5,eL5⟩
     ·obtain rfl:J=L2.length:=by omega
      have eL6:Hid (Ls.map (·.1)=(ndsR (nms s.1) (leqF s.1 s.2.1) (tgI s.2.2.1 (cumL 0 s.2.2.1)) (flatA ((allL s).take (K+1))) 0)):=Lib.hid (by
       rw [eL.out,hfT.out,ndsR_app,Nat.zero_add,List.take_of_length_le (show(flatT h f).length≤L2.length by omega)])
      have n7:Hid (Hq F0 () () w wr ((T,.cells #[.slice A1 s.1.length c1,.slice Aq s.1.length cq,.slice A' Ls.length c',.int .i64 ((flatA ((allL s).take (K+1-1))).length:Nat)] 52)::[(V1.heap.size,.cells #[.slice none 0 0,.slice none 0 0,.slice none 0 0,.int .i64 0] 52),(w.heap.size,.cells [.slice A1 s.1.length c1,.slice A2 s.2.1.length c2,.slice A3 s.2.2.1.length c3,.int .i64 s.2.2.2.1.kind,.int .i64 s.2.2.2.1.at_,.int .i64 s.2.2.2.1.lo,.int .i64 s.2.2.2.1.hi,.int .i64 s.2.2.2.1.most,.slice N1 s.2.2.2.1.names.length N3,.slice M1 s.2.2.2.2.len M3,.string s.2.2.2.1.name,.int .i64 s.2.2.2.1.nat].toArray 38)])):=Lib.hid n;replace gr:=Lib.hid gr;clear n eL ownF;go_wp2_with fail
      go_roundg (gq-1)
      case measure=>omega
      case rel=>exact⟨K+1,_,_,by go_num,by omega,gr,n7,no,eL6⟩
   ·obtain rfl:K=L.length:=by omega
    clear hLl
    have hsum:(flatA ((allL s).take (L.length-1))).length=sumT s.2.2.1:=by
     rw [hlen.out,hln2.out,Nat.add_sub_cancel];unfold allL;rw [List.take_left' (by simp),flatA_len]
    rw [hsum]at n;have eL7:=eL.out;rw [hlen.out,List.take_length,←(plan_R s).1]at eL7;have hroot:=(plan_R s).2;have hroot':(plS s).2.1=(plS s).2.1:=rfl;have hlv6:V1.heap.size<W6.heap.size:=by omega
    generalize hRT:(plS s).2.1=RT at hroot hR;replace hRT:=Lib.hid hRT;have x3:=n.c 2 3 rfl rfl;replace no:=no.out;have hum:=o.unk (s.2.2.2.1,s.2.2.2.2) (by unfold allL;simp);clear e1 hK eL hsum hroot' hget
    by_cases k9:s.2.2.2.1.kind=9
    ·rw [if_pos k9]at hroot
     have hx:=(unT_ok hum).1 k9;have e4:=sta_tg o hx;have tk:(s.2.2.2.1.kind==9)=true:=by simpa using k9
     have rS:=n.rg 2 rfl;have x10:=n.c 2 10 rfl rfl;have bw8:=F0.bel n;have cT:=Lib.hid fun R hR=>refstart18_calls s gs hf b3 os.out.ok hsm s.2.2.2.1.name hx _ _ _ _ _ wr (rd0.out.below bw8) R hR
     rw [e4,←hroot]at cT;clear hx e4 hum k9 bw8 hroot;go_wp2_with (refine wpList_load_g (by rfl) 38 _ rfl w.heap.size 0 rfl _ _ rS Tryz.underlying38 rfl (by kernel_rfl) ?_;go_simp)
     refine cT.out _ (Lib.hid fun W11 m11=>?_);clear cT rS x3 x10;have gr8:=gr.bl m11;have no8:=no.below m11;replace n:=n.bl m11;have f3:=n.f 0 3 rfl;have c3_:=n.c 0 3 rfl rfl;obtain⟨V12,e12,n,z12⟩:=n.put (j:=0) rfl [(3,.int .i64 RT)];have gr9:Gr (fun k=>k=T) W6 V12:=by rw [←e12];exact gr_set gr8 _ _
     have no9:NdsO V12 W6.heap.size (.slice A' Ls.length c') Ls:=no8.ne fun g hg=>by rw [←e12];exact stL_ne (by omega) _
     simp only[stL]at e12;simp only[stA,List.setIfInBounds_toArray,List.set_cons_succ,List.set_cons_zero]at n;clear m11 gr no gr8 no8;go_upto_region 14 with fail
     clear e12 f3 c3_;have rF:=n.rg 0 rfl;have hG:=n.b 1 rfl;obtain⟨VE,eE_,nE⟩:=n.row (j:=1) rfl [.slice A1 s.1.length c1,.slice Aq s.1.length cq,.slice A' Ls.length c',.int .i64 RT].toArray;simp only[List.set_cons_succ,List.set_cons_zero]at nE;have w0_:=nE.c 1 0 rfl rfl;have w1_:=nE.c 1 1 rfl rfl;have w2_:=nE.c 1 2 rfl rfl;have w3_:=nE.c 1 3 rfl rfl;obtain⟨fn1,fn2⟩:=build_fin (VE:=VE) gr9 no9 hlv6 rq.out eL7 (fun g hg=>by rw [←eE_];exact setRow_other _ _ _ _ hg) (by rw [←eE_];exact Nat.le_of_eq (setRow_size _ _ _).symm)
     have fin:=Lib.hid (hR.out VE _ _ fn1 fn2 (F0.bel nE));clear nE n hR fn1 fn2;go_wp2_with (first|(refine wpList_load_g (by rfl) 52 _ rfl T (0) rfl _ _ rF Tryz.underlying52 rfl (by kernel_rfl) ?_)|(refine wpList_store_row (by rfl) 52 _ _ (by rfl) V1.heap.size [.slice A1 s.1.length c1,.slice Aq s.1.length cq,.slice A' Ls.length c',.int .i64 RT].toArray (by rfl) (by rfl) 52 _ hG (by kernel_rfl) rfl (by simp [Value.oneCell']) ?_;go_simp))
     first|refine bodyPost_ret ?_ rfl fin.out|refine bodyPost_end ?_ rfl fin.out
     simp [results,Tryz.results22,go_sem,w0_,w1_,w2_,w3_]
    ·rw [if_neg k9]at hroot
     have tk:(s.2.2.2.1.kind==9)=false:=by simpa using k9
     rw [←hroot]at n;clear hum k9 hroot;go_upto_region 14 with fail
     clear x3;have rF:=n.rg 0 rfl;have hG:=n.b 1 rfl;obtain⟨VE,eE_,nE⟩:=n.row (j:=1) rfl [.slice A1 s.1.length c1,.slice Aq s.1.length cq,.slice A' Ls.length c',.int .i64 RT].toArray;simp only[List.set_cons_succ,List.set_cons_zero]at nE;have w0_:=nE.c 1 0 rfl rfl;have w1_:=nE.c 1 1 rfl rfl;have w2_:=nE.c 1 2 rfl rfl;have w3_:=nE.c 1 3 rfl rfl;obtain⟨fn1,fn2⟩:=build_fin (VE:=VE) gr no hlv6 rq.out eL7 (fun g hg=>by rw [←eE_];exact setRow_other _ _ _ _ hg) (by rw [←eE_];exact Nat.le_of_eq (setRow_size _ _ _).symm)
     have fin:=Lib.hid (hR.out VE _ _ fn1 fn2 (F0.bel nE));clear nE n hR fn1 fn2;go_wp2_with (first|(refine wpList_load_g (by rfl) 52 _ rfl T (0) rfl _ _ rF Tryz.underlying52 rfl (by kernel_rfl) ?_)|(refine wpList_store_row (by rfl) 52 _ _ (by rfl) V1.heap.size [.slice A1 s.1.length c1,.slice Aq s.1.length cq,.slice A' Ls.length c',.int .i64 RT].toArray (by rfl) (by rfl) 52 _ hG (by kernel_rfl) rfl (by simp [Value.oneCell']) ?_;go_simp))
     first|refine bodyPost_ret ?_ rfl fin.out|refine bodyPost_end ?_ rfl fin.out
     simp [results,Tryz.results22,go_sem,w0_,w1_,w2_,w3_]
end Go.Proofs.YtabhkakomececaaGreat.Res
