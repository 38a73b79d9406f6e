import Derived.Test.YtabhkakomececaaGreatQ32
import Derived.Test.YtabhkakomececaaGreatQ39
set_option linter.all false
set_option maxRecDepth 100000
set_option maxHeartbeats 4000000
namespace Go.Proofs.YtabhkakomececaaGreat.Res
open Go.RowKit Go.Lib Utf Nam Lat Kin Unp Rel Lab
def RdNo(w:World)(v:Value)(l:List NdR):Prop:=∃xs:List Nv,xs.map (·.1)=l∧RdAt w v 7 (flatG encN xs)∧∀y∈xs,RdS w y.2.1 y.1.names∧RdEd w y.2.2 y.1.edges
abbrev nyL(y:NdR)(nv ev:Value):List Value:=[.int .i64 y.kind,.int .i64 y.at_,.int .i64 y.lo,.int .i64 y.hi,.int .i64 y.most,nv,ev]
theorem RdNo.el{w:World}{v:Value}{l:List NdR}(h:RdNo w v l):∃(A:Option Addr)(c:Nat),v=.slice A l.length c∧l.length≤c∧∀K (hK:K<l.length),∃(g o:Nat)(nv ev:Value),A=some ⟨g,o,none⟩∧g<w.heap.size∧w.rangeAt g (o+K*7) (nyL l[K] nv ev)∧RdS w nv l[K].names∧RdEd w ev l[K].edges:=by
 obtain⟨xs,rfl,h2,h3⟩:=h;obtain⟨A,c,rfl,hc,hr⟩:=RdG.open encN_len (by decide) (show RdG encN 7 w v xs from h2);have hl:(xs.map (·.1)).length=xs.length:=List.length_map _;refine⟨A,c,by rw [hl],by rw [hl];exact hc,fun K hK=>?_⟩
 rw [hl]at hK;obtain⟨g,o,rfl,hg,hi⟩:=hr (by omega);have e:(xs.map (·.1))[K]'(by rw [hl];exact hK)=xs[K].1:=by simp
 rw [e];have h4:=h3 _ (List.getElem_mem hK);exact⟨g,o,xs[K].2.1,xs[K].2.2,rfl,hg,fun j v e=>(hi K hK j (by have:=(List.getElem?_eq_some_iff.1 e).1;exact this)).trans e,h4.1,h4.2⟩
theorem e18_alloc(ρ:Operand→Value)(W:World)(o:Oper)(h:o.op=.alloc 97):(execOp ρ o).run Tryz.prog W=.ok (.value (ptA W.heap.size)) (W.alloc (.cells #[.string ⟨#[]⟩,.bool false,.int .i64 0,.int .i64 0,.int .i64 0,.int .i64 0,.int .i64 0,.int .i64 0,.int .i64 0,.int .i64 0] 97)):=by
 simp [execOp,h,go_sem,ptA]
theorem st18_in:(Tryz.prog.info? 9).map (fun i=>(i.zero,i.size,i.bytes))=some (some (.string ⟨#[]⟩),1,16):=by kernel_rfl
theorem st18_info:∃i0,Tryz.prog.info? 9=some i0∧(i0.zero,i0.size,i0.bytes)=(some (.string ⟨#[]⟩),1,16):=by
 have:=st18_in;cases h:Tryz.prog.info? 9 with
 | none=>rw [h]at this;cases this
 | some i0=>rw [h]at this;exact⟨i0,rfl,by simpa using this⟩
theorem sv_snoc(l:List ByteArray)(x:ByteArray):sv (l++[x])=sv l++[Value.string x]:=by simp [sv]
theorem lofR_calls(s:Sc)(lq:Value)(w:World)(hm:RdM w lq s.1.length (ldR s.1.length (toN (idxQ s.1 s.2.1))))(hn:s.1.length≤64)(vw:Value)(hw:RdW w vw s.1)(qs:List Wr)(vq:Value)(hq:RdW w vq qs)(hql:qs.length≤1000000)(R:Ending→World→Prop)
  (hR:Hid (∀w' (y z:Int),Below w.heap.size w w'→R (.returned (.tuple #[.int .i64 (lof (nms s.1) (leqF s.1 s.2.1) qs).1,.agg #[.int .i64 y,.int .i64 z]])) w')):Calls Tryz.prog 104 #[vw,lq,vq] w R:=by
 refine refof_calls s.1 _ lq w hm hn vw hw qs vq hq hql R (Lib.hid fun w' e m=>?_) (Lib.hid fun x w' e m=>?_)
 ·have:=hR.out w' 0 0 m
  unfold lof at this;rw [e,nms_len]at this;exact this
 ·have:=hR.out w' x.1 x.2 m
  unfold lof at this;rw [e]at this;exact this
theorem own_other{w w':World}{B B':Nat}{e e':TypeId}{k k' n n':Nat}{v v':Value}{xs xs':List Value}(h:w.ownsRow B e k v n xs)(h':w.ownsRow B' e' k' v' n' xs')(hne:e≠e')(hg:w.grownBy w' v'.ownBlock):w'.ownsRow B e k v n xs :=
h.kept hg (own_ne' h h' hne)
theorem refnode18_calls(s:Sc)(gs:GoodS s)(o:OkR s)(h:TH)(f:Ft)(hk:NodT s (h,f))(me:Nat)(hme:me≤900000)(lq lv ov tv nv pv nv' pv':Value)(w:World)(rd:RdSc w s lv ov tv nv pv)(rm:RdM w lq s.1.length (ldR s.1.length (toN (idxQ s.1 s.2.1))))(hy:RdY w h f nv' pv')(R:Ending→World→Prop)
   (hR:Hid (∀W nv2 ev2,W.ownsRow w.heap.size 9 1 nv2 (nms h.names).length (sv (nms h.names))→W.ownsRow w.heap.size 97 10 ev2 f.len (flatG encE (edR (nms s.1) (leqF s.1 s.2.1) (tgI s.2.2.1 (cumL 0 s.2.2.1)) f (me+1)))→Below w.heap.size w W→R (.returned (.agg #[.int .i64 h.kind,.int .i64 h.at_,.int .i64 h.lo,.int .i64 h.hi,.int .i64 h.most,nv2,ev2])) W)) :
   Calls Tryz.prog 54 #[scV s lv ov tv nv pv,lq,tyV h nv' pv',.int .i64 me] w R:=by
 have os:=OkS.of o.bld;have hf:=found_of o.unk;have b3:s.2.2.1.length≤1000000:=Nat.le_trans os.tl (by decide)
 have b1:s.1.length≤32:=by
   have:=o.lat;rcases Nat.lt_or_ge 32 s.1.length with q|q
   · rw [w_many q]at this;exact absurd this (by show ¬(8:Int)=0;decide)
   · exact q
 have hsm:sumT s.2.2.1≤1000000:=by
   have hs:=sumT_le _ os.cnt;have:=os.tl;omega
 obtain⟨okt,fnd,hnd⟩:=hk;simp only at okt fnd hnd;have hfl:=(ok_len okt).1;have hnl:=(ok_len okt).2;have rd0:=rd;have hy0:=hy;have rm0:=rm;obtain⟨A1,c1,rfl,-,-⟩:=rd.l.op;obtain⟨A2,c2,rfl,-,-⟩:=Unp.RdPr.op rd.o;obtain⟨A3,c3,rfl,-,-⟩:=nds_el rd.t;obtain⟨N1,N3,rfl,-,-⟩:=rd.r.n.op;obtain⟨M1,M3,rfl,-⟩:=rd.r.p.sl;obtain⟨An,cn,rfl,-,hnw⟩:=hy.n.op;obtain⟨Ap,cp,rfl,-⟩:=hy.p.sl;obtain⟨Aq,cq,rfl,-,-⟩:=rm.op;obtain⟨ti,hTI,hZ⟩:=e18_info;simp only[Prod.mk.injEq]at hZ;obtain⟨hz0,hz1,hz2⟩:=hZ;obtain⟨si,hSI,hY⟩:=st18_info;simp only[Prod.mk.injEq]at hY;obtain⟨hy0_,hy1_,hy2_⟩:=hY;have n:=F0.z w;obtain⟨V1,e1,n,z1⟩:=n.new (.cells [.slice A1 s.1.length c1,.slice A2 s.2.1.length c2,.slice A3 s.2.2.1.length c3,.int .i64 s.2.2.2.1.kind,.int .i64 s.2.2.2.1.at_,.int .i64 s.2.2.2.1.lo,.int .i64 s.2.2.2.1.hi,.int .i64 s.2.2.2.1.most,.slice N1 s.2.2.2.1.names.length N3,.slice M1 s.2.2.2.2.len M3,.string s.2.2.2.1.name,.int .i64 s.2.2.2.1.nat].toArray 38);obtain⟨V2,e2,n,z2⟩:=n.new (.cells (tyL h (.slice An h.names.length cn) (.slice Ap f.len cp)).toArray 36);obtain⟨V3,e3,n,z3⟩:=n.new (.cells #[.int .i64 0,.int .i64 0,.int .i64 0,.int .i64 0,.int .i64 0,.slice none 0 0,.slice none 0 0] 74);have t0:=n.c 1 0 rfl rfl;have t1:=n.c 1 1 rfl rfl;have t2:=n.c 1 2 rfl rfl;have t3:=n.c 1 3 rfl rfl;have t4:=n.c 1 4 rfl rfl;obtain⟨V4,e4,n4,z4⟩:=n.new (.cells #[.int .i64 h.kind,.int .i64 h.at_,.int .i64 h.lo,.int .i64 h.hi,.int .i64 h.most,.slice none 0 0,.slice none 0 0] 74);have lV1:V1.heap.size<V4.heap.size:=n4.lt 2 rfl;have lV2:V2.heap.size<V4.heap.size:=n4.lt 1 rfl;have lV3:V3.heap.size<V4.heap.size:=n4.lt 0 rfl;have lw:w.heap.size<V4.heap.size:=n4.lt 3 rfl;have lwV:w.heap.size≤V3.heap.size:=by have:=(n4.lo _ List.mem_cons_self).1;exact this
 replace hnw:=Lib.hid hnw;replace rd0:=Lib.hid rd0;replace hy0:=Lib.hid hy0;replace rm0:=Lib.hid rm0;replace okt:=Lib.hid okt;replace fnd:=Lib.hid fnd;replace os:=Lib.hid os;clear z1 z2 z3 z4 n rd rm hy;go_enter Tryz.func54,Tryz.ntmps54
 go_upto_region 1 with fail
 clear e1 e2 e3;go_upto_region 2 with(refine wpList_copy #[.int .i64 h.kind,.int .i64 h.at_,.int .i64 h.lo,.int .i64 h.hi,.int .i64 h.most,.slice none 0 0,.slice none 0 0] ⟨rfl,rfl,rfl⟩ ⟨rfl,rfl,rfl⟩ n18_alloc (by kernel_rfl) ⟨rfl,by simp [Value.oneCell']⟩ (fun _=>⟨rfl,rfl⟩) ?_;go_simp)
 clear e4 t0 t1 t2 t3 t4;go_wp2_with fail
 go_loopg [10] h.names.length (fun g i wr=>∃(K:Nat) (nv':Value),i=.int .i64 K∧K+g=h.names.length∧Hid (Hq F0 () () w wr [(V3.heap.size,.cells #[.int .i64 h.kind,.int .i64 h.at_,.int .i64 h.lo,.int .i64 h.hi,.int .i64 h.most,nv',.slice none 0 0] 74),(V2.heap.size,.cells #[.int .i64 0,.int .i64 0,.int .i64 0,.int .i64 0,.int .i64 0,.slice none 0 0,.slice none 0 0] 74),(V1.heap.size,.cells (tyL h (.slice An h.names.length cn) (.slice Ap f.len cp)).toArray 36),(w.heap.size,.cells [.slice A1 s.1.length c1,.slice A2 s.2.1.length c2,.slice A3 s.2.2.1.length c3,.int .i64 s.2.2.2.1.kind,.int .i64 s.2.2.2.1.at_,.int .i64 s.2.2.2.1.lo,.int .i64 s.2.2.2.1.hi,.int .i64 s.2.2.2.1.most,.slice N1 s.2.2.2.1.names.length N3,.slice M1 s.2.2.2.2.len M3,.string s.2.2.2.1.name,.int .i64 s.2.2.2.1.nat].toArray 38)])∧Hid (wr.ownsRow V4.heap.size 9 1 nv' K (sv (nms (h.names.take K))))∧V4.heap.size≤wr.heap.size)
 case atStart=>exact⟨0,.slice none 0 0,rfl,by omega,Lib.hid n4,Lib.hid (World.ownsRow_nil _ _ _ _),Nat.le_refl _⟩
 case round =>
   clear n4;obtain⟨K,nv',rfl,e1,n,own,s1⟩:=hrel;replace n:=n.out;obtain⟨A',m',c',rfl⟩:=own_sl own.out
   by_cases hK:K<h.names.length
   · obtain⟨g,q,rfl,hg,hca⟩:=hnw.out (by omega)
     have y0:=(hca K hK).1;clear hca;have i0:(0:Int)≤(K:Int):=by omega
     have i1:(K:Int)<(h.names.length:Int):=by omega
     have hft:sv (nms (h.names.take (K+1)))=sv (nms (h.names.take K))++[Value.string (wN h.names K).1]:=by
       rw [List.take_succ_eq_append_getElem hK,wN_get hK];unfold nms;rw [List.map_append];exact sv_snoc _ _
     generalize(wN h.names K).1=x at *;have bl3:=n.lt 0 rfl;have bl1:=n.lt 2 rfl;have bw:=F0.bel n
     have notS:∀k,k<V4.heap.size→¬(Value.slice A' m' c').ownBlock=some k:=fun k hk q=>by
       have:=(own.out.lt k q).1;omega
     have b5:=fun y:RW (fun k=>(Value.slice A' m' c').ownBlock=some k) wr=>y.cell bl3 (notS _ lV3) (n.c 0 5 rfl rfl)
     have b1_:=fun y:RW (fun k=>(Value.slice A' m' c').ownBlock=some k) wr=>y.cell bl1 (notS _ lV1) (n.c 2 5 rfl rfl)
     have bx:=fun y:RW (fun k=>(Value.slice A' m' c').ownBlock=some k) wr=>y.cell (Nat.lt_of_lt_of_le hg bw.size) (notS _ (by omega)) ((bw.cell (p:=⟨g,q+K*2,none⟩) hg).trans y0)
     have own1:(wr.drewN 1).ownsRow V4.heap.size 9 1 (.slice A' m' c') K (sv (nms (h.names.take K))):=ownKp own.out fun _ _ _=>rfl
     have gW:Below wr.heap.size wr (wr.drewN 1):=below_drewN (Below.refl _ _) 1;have x5:=n.c 2 5 rfl rfl;clear y0;go_upto_region 5 with fail
     clear x5;refine wp_region_trS (fun k=>(Value.slice A' m' c').ownBlock=some k) (.one [0,1,2,3,4,5,6,7] 8 (.one [] 9 (.last [10]))) 11 (by kernel_rfl) (by kernel_rfl) (by kernel_rfl) (by kernel_rfl) (by decide) (fun _ _ d _ _ h=>by cases d<;>exact h) ?_
     refine tr_one (os:=[_,_,_,_,_,_,_,_]) (by simp only[pickO,List.filterMap_cons,List.filterMap_nil,List.getElem?_toArray,List.getElem?_cons_succ,List.getElem?_cons_zero];rfl) (fun Kp hKp=>?_)
     repeat (go_big_quiet_step (exact rfl))
     refine wpQuiet_nil ?_;refine hKp _ ?_;clear hKp;refine loudr (by rfl) (by kernel_rfl) (fun K1 hK1=>?_);go_simp;refine hK1 _ _ (RW.of ((Gr.rfl' _ wr).bl (gW.alloc gW.size _))) ?_;clear hK1;refine tr_one (os:=[]) (by rfl) (fun Kp hKp=>?_);refine wpQuiet_nil ?_;refine hKp _ ?_;clear hKp;refine loudr (by rfl) (by kernel_rfl) (fun K2 hK2=>?_);refine appOp (wr.drewN 1) #[.string x] 1 9 _ _ 60 rfl V4.heap.size si _ 16 Tryz.underlying60 hSI hy0_ hy1_ hy2_ rfl (by decide) rfl (.slice A' m' c') K (sv (nms (h.names.take K))) rfl own1 _ rfl rfl (by simp [Value.oneCell']) (by unfold maxLen;omega) (by omega) s1 ?_
     intro v' w2 hown hgr hfr;obtain⟨A'',m'',c'',rfl⟩:=own_sl hown;have gA:Gr (fun k=>(Value.slice A' m' c').ownBlock=some k) wr w2:=((Gr.rfl' _ wr).bl gW).trans (Gr.ofRow hgr) fun k e=>.inl e
     go_simp;refine hK2 _ _ (RW.of gA) ?_;clear hK2;refine tr_last (os:=[_]) (by simp only[pickO,List.filterMap_cons,List.filterMap_nil,List.getElem?_toArray,List.getElem?_cons_succ,List.getElem?_cons_zero];rfl) (fun Kp hKp=>?_)
     repeat (go_big_quiet_step (exact rfl))
     refine wpQuiet_nil ?_;refine hKp _ ?_;clear hKp
     have n2:=(n.bl gW).grow hgr fun k q=>⟨Nat.le_trans (by omega) (own.out.lt k q).1,fun h=>h,fun x hx e=>by
       have:=(own.out.lt k q).1;simp only[List.mem_cons,List.not_mem_nil,or_false]at hx;rcases hx with rfl|rfl|rfl|rfl<;>simp at e<;>omega⟩
     have bf:=n2.f 0 5 rfl;have bc:=n2.c 0 5 rfl rfl;obtain⟨V5,e5,n5,z5⟩:=n2.put (j:=0) rfl [(5,.slice A'' m'' c'')];simp only[stL]at e5;simp only[stA,List.setIfInBounds_toArray,List.set_cons_succ,List.set_cons_zero]at n5
     have own4:=Lib.hid (show V5.ownsRow V4.heap.size 9 1 (.slice A'' m'' c'') (K+1) (sv (nms (h.names.take (K+1))))from by
       rw [hft]
       exact ownKp hown fun k q hk=>by
         rw [←e5];exact hp_sne (by omega))
     have s5:V4.heap.size≤V5.heap.size:=by
       have a:=hgr.size;rw [z5];exact Nat.le_trans s1 a
     have n6:=Lib.hid n5;clear n n2 n5 own hown hgr hfr gA own1 gW b5 b1_ bx hft;refine loudl (by rfl) (by kernel_rfl) ?_;go_simp;go_wp2_with fail
     go_roundg (gk-1)
     case measure=>omega
     case rel=>exact⟨K+1,_,by go_num,by omega,n6,own4,s5⟩
   · obtain rfl:K=h.names.length:=by omega
     have ownN:=own.out;rw [List.take_length]at ownN;have hnm:(nms h.names).length=h.names.length:=nms_len _;obtain⟨nvF,hnvF⟩:∃v,v=Value.slice A' m' c':=⟨_,rfl⟩;rw [←hnvF]at ownN n;have x5:=n.c 2 5 rfl rfl;replace hnvF:=Lib.hid hnvF;replace n:=Lib.hid n;replace ownN:=Lib.hid ownN;clear own e1 hK hnw;go_wp2_with fail
     clear x5;have x6:=n.out.c 2 6 rfl rfl;have im:((me:Int)+1)≤1000001:=by omega
     go_loopg [11,12] f.len (fun g0 nxv i wr=>∃(K:Nat) (nx:Int) (ev':Value),nxv=.int .i64 nx∧i=.int .i64 K∧K+g0=f.len∧0≤nx∧Hid (nx+ndF (f.drop K)=(me:Int)+1+ndF f)∧Hid (edR (nms s.1) (leqF s.1 s.2.1) (tgI s.2.2.1 (cumL 0 s.2.2.1)) f (me+1)=(edR (nms s.1) (leqF s.1 s.2.1) (tgI s.2.2.1 (cumL 0 s.2.2.1)) f (me+1)).take K++edR (nms s.1) (leqF s.1 s.2.1) (tgI s.2.2.1 (cumL 0 s.2.2.1)) (f.drop K) nx)∧Hid (Hq F0 () () w wr [(V3.heap.size,.cells #[.int .i64 h.kind,.int .i64 h.at_,.int .i64 h.lo,.int .i64 h.hi,.int .i64 h.most,nvF,ev'] 74),(V2.heap.size,.cells #[.int .i64 0,.int .i64 0,.int .i64 0,.int .i64 0,.int .i64 0,.slice none 0 0,.slice none 0 0] 74),(V1.heap.size,.cells (tyL h (.slice An h.names.length cn) (.slice Ap f.len cp)).toArray 36),(w.heap.size,.cells [.slice A1 s.1.length c1,.slice A2 s.2.1.length c2,.slice A3 s.2.2.1.length c3,.int .i64 s.2.2.2.1.kind,.int .i64 s.2.2.2.1.at_,.int .i64 s.2.2.2.1.lo,.int .i64 s.2.2.2.1.hi,.int .i64 s.2.2.2.1.most,.slice N1 s.2.2.2.1.names.length N3,.slice M1 s.2.2.2.2.len M3,.string s.2.2.2.1.name,.int .i64 s.2.2.2.1.nat].toArray 38)])∧Hid (wr.ownsRow V4.heap.size 9 1 nvF h.names.length (sv (nms h.names)))∧Hid (wr.ownsRow V4.heap.size 97 10 ev' K (flatG encE ((edR (nms s.1) (leqF s.1 s.2.1) (tgI s.2.2.1 (cumL 0 s.2.2.1)) f (me+1)).take K)))∧V4.heap.size≤wr.heap.size)
     case atStart=>exact⟨0,(me:Int)+1,.slice none 0 0,by go_num,rfl,by omega,by omega,Lib.hid rfl,Lib.hid rfl,n,ownN,Lib.hid (by simpa [flatG]using World.ownsRow_nil _ _ _ _),s1⟩
     case round =>
       clear n ownN x6;obtain⟨K,nx,ev',rfl,rfl,e1,nx0,e2,eE,n,ownN,own,s2⟩:=hrel;replace n:=n.out;obtain⟨A6,m6,c6,rfl⟩:=own_sl own.out;have x6:=n.c 2 6 rfl rfl
       by_cases hK:K<f.len
       · obtain⟨p,x,kd,r,e⟩:=Fo.drop_lt hK
         obtain⟨g,o',B1,n1,B2,n2,A5,n5,A7,n7,rfl,hlv,hcv,hyx,hrg⟩:=part_el hy0.out e;have lnp:=ok_lab okt.out e;have fx:=Lib.hid (fnd_drop K fnd.out e);have d1:=Fo.drop_succ K e;have e2':=e2.out;have eE':=eE.out;rw [e]at e2' eE';have hn:ndF (.cons p x kd r)=(if p.bare then 0 else if x.kind=9 then 0 else ndF kd+1)+ndF r:=rfl;rw [hn]at e2';replace eE':edR (nms s.1) (leqF s.1 s.2.1) (tgI s.2.2.1 (cumL 0 s.2.2.1)) f (me+1)=(edR (nms s.1) (leqF s.1 s.2.1) (tgI s.2.2.1 (cumL 0 s.2.2.1)) f (me+1)).take K++(edP (nms s.1) (leqF s.1 s.2.1) p (toR (tgI s.2.2.1 (cumL 0 s.2.2.1)) p x nx)::edR (nms s.1) (leqF s.1 s.2.1) (tgI s.2.2.1 (cumL 0 s.2.2.1)) r (nxR p x kd nx)):=eE';have d1':=Lib.hid d1.symm;replace d1':Hid (r=f.drop (K+1)):=Lib.hid d1.symm;have i0:(0:Int)≤(K:Int):=by omega
         have i1:(K:Int)<(f.len:Int):=by omega
         have hlenT:((edR (nms s.1) (leqF s.1 s.2.1) (tgI s.2.2.1 (cumL 0 s.2.2.1)) f (me+1)).take K).length=K:=by
           rw [List.length_take,edR_len];omega
         generalize hEE:edR (nms s.1) (leqF s.1 s.2.1) (tgI s.2.2.1 (cumL 0 s.2.2.1)) f (me+1)=EE at *
         have hTk:∀y rr,EE=EE.take K++(y::rr)→EE.take (K+1)=EE.take K++[y]∧EE=EE.take (K+1)++rr:=fun y rr q=>by
           have q2:EE.take (K+1)=EE.take K++[y]:=by
             conv=>lhs;rw [q]
             rw [List.take_append,hlenT,List.take_of_length_le (by omega),show K+1-K=1 by omega];rfl
           exact⟨q2,by rw [q2,List.append_assoc];exact q⟩
         obtain⟨q1,q2⟩:=hTk _ _ eE';have rg:=hrg wr (F0.bel n);have bwr:=F0.bel n;replace q1:=Lib.hid q1;replace q2:=Lib.hid q2;clear hrg e d1 eE eE' hn hTk hlenT;have nb:=F0.z wr;obtain⟨W3,e3,nb,z3⟩:=nb.new (.cells (ptL p x (.slice B1 p.label.length n1) (.slice B2 p.cl.length n2) (.slice A5 x.names.length n5) (.slice A7 kd.len n7)).toArray 127);replace e2':=Lib.hid e2';go_upto_region 11 with(first|(refine wpList_load_g (by rfl) 127 _ rfl g (o'+K*18) rfl _ _ rg Tryz.underlying127 rfl (by kernel_rfl) ?_;go_simp)|(refine wpList_copy (ptL p x (.slice B1 p.label.length n1) (.slice B2 p.cl.length n2) (.slice A5 x.names.length n5) (.slice A7 kd.len n7)).toArray ⟨rfl,rfl,rfl⟩ ⟨rfl,rfl,rfl⟩ part_alloc (by kernel_rfl) ⟨rfl,by simp [Value.oneCell']⟩ (fun _=>⟨rfl,rfl⟩) ?_;go_simp))
         clear e3 z3 rg x6;have y0:=nb.c 0 0 rfl rfl;have y1:=nb.c 0 1 rfl rfl;have y2:=nb.c 0 2 rfl rfl;have y4:=nb.c 0 4 rfl rfl;have y5:=nb.c 0 5 rfl rfl;have y6:=nb.c 0 6 rfl rfl;have y7:=nb.c 0 7 rfl rfl;obtain⟨W4,e4,nb,z4⟩:=nb.new (.cells #[.string p.name,.bool p.bare,.int .i64 p.at_,.int .i64 nx,.int .i64 0,.int .i64 p.wide,.int .i64 p.ck,.int .i64 p.cn,.int .i64 0,.int .i64 p.cat] 97);go_upto_region 12 with(refine wpList_copy #[.string p.name,.bool p.bare,.int .i64 p.at_,.int .i64 nx,.int .i64 0,.int .i64 p.wide,.int .i64 p.ck,.int .i64 p.cn,.int .i64 0,.int .i64 p.cat] ⟨rfl,rfl,rfl⟩ ⟨rfl,rfl,rfl⟩ e18_alloc (by kernel_rfl) ⟨rfl,by simp [Value.oneCell']⟩ (fun _=>⟨rfl,rfl⟩) ?_;go_simp)
         clear e4 z4 y0 y1 y2 y4 y5 y6 y7;have f5:=nb.c 0 5 rfl rfl;have ff5:=nb.f 0 5 rfl;obtain⟨wd,hwd⟩:∃z:Int,z=if p.wide=0 then 3 else p.wide:=⟨_,rfl⟩;replace hwd:=Lib.hid hwd;go_upto_if 81 with fail
         generalize hq0:(p.wide==0)=Q0;replace hq0:=Lib.hid hq0;go_cut []from 82 to 82 (fun wx=>Hid (Hq F0 () () wr wx [(W3.heap.size,.cells #[.string p.name,.bool p.bare,.int .i64 p.at_,.int .i64 nx,.int .i64 0,.int .i64 wd,.int .i64 p.ck,.int .i64 p.cn,.int .i64 0,.int .i64 p.cat] 97),(wr.heap.size,.cells (ptL p x (.slice B1 p.label.length n1) (.slice B2 p.cl.length n2) (.slice A5 x.names.length n5) (.slice A7 kd.len n7)).toArray 127)]))
         case first =>
           cases Q0
           · have hw:¬p.wide=0:=by simpa using hq0.out
             have e:wd=p.wide:=by rw [hwd.out,if_neg hw]
             clear hw hq0;go_wp2_with fail
             go_meet
             case rel=>rw [e];exact Lib.hid nb
           · have hw:p.wide=0:=by simpa using hq0.out
             have e:=Lib.hid (show wd=3 by rw [hwd.out,if_pos hw]);clear hw hq0;obtain⟨V5,e5,n5_,-⟩:=nb.put (j:=0) rfl [(5,.int .i64 3)];simp only[stL]at e5;simp only[stA,List.setIfInBounds_toArray,List.set_cons_succ,List.set_cons_zero]at n5_;go_wp2_with fail
             go_meet
             case rel=>rw [e.out];exact Lib.hid n5_
         case rest =>
           replace nb:=hcut.out;clear hcut f5 ff5 hq0;obtain⟨V6,rfl⟩:∃V,V=wc:=⟨_,rfl⟩;have x0:=(n.bl (F0.bel nb)).c 3 0 rfl rfl;have y3:=nb.c 1 3 rfl rfl;have bw6:=bwr.trans ((F0.bel nb).mono bwr.size);have cO:=Lib.hid fun R hR=>lofR_calls s _ V6 (rm0.out.below bw6) (Nat.le_trans b1 (by decide)) _ (rd0.out.below bw6).l p.label _ (hlv.kp (Kp.of_below bw6)) (Nat.le_trans lnp.1 (by decide)) R hR
           generalize hL1:(lof (nms s.1) (leqF s.1 s.2.1) p.label).1=L1 at cO;replace hL1:=Lib.hid hL1;go_wp2_with fail
           refine cO.out _ (Lib.hid fun W7 ya yb m7=>?_);clear cO x0 y3 bw6;replace nb:=nb.bl m7;have f4:=nb.c 0 4 rfl rfl;have ff4:=nb.f 0 4 rfl;obtain⟨V8,e8,nb,-⟩:=nb.put (j:=0) rfl [(4,.int .i64 L1)];simp only[stL]at e8;simp only[stA,List.setIfInBounds_toArray,List.set_cons_succ,List.set_cons_zero]at nb;clear m7;go_upto_region 15 with fail
           clear e8 f4 ff4;have x0:=(n.bl (F0.bel nb)).c 3 0 rfl rfl;have y8:=nb.c 1 8 rfl rfl;have bw8:=bwr.trans ((F0.bel nb).mono bwr.size);have cO:=Lib.hid fun R hR=>lofR_calls s _ V8 (rm0.out.below bw8) (Nat.le_trans b1 (by decide)) _ (rd0.out.below bw8).l p.cl _ (hcv.kp (Kp.of_below bw8)) (Nat.le_trans lnp.2.1 (by decide)) R hR
           generalize hL2:(lof (nms s.1) (leqF s.1 s.2.1) p.cl).1=L2 at cO;replace hL2:=Lib.hid hL2;go_wp2_with fail
           refine cO.out _ (Lib.hid fun W9 yc yd m9=>?_);clear cO x0 y8 bw8;replace nb:=nb.bl m9;have f8:=nb.c 0 8 rfl rfl;have ff8:=nb.f 0 8 rfl;obtain⟨V10,e10,nb,-⟩:=nb.put (j:=0) rfl [(8,.int .i64 L2)];simp only[stL]at e10;simp only[stA,List.setIfInBounds_toArray,List.set_cons_succ,List.set_cons_zero]at nb;clear m9;go_upto_region 16 with fail
           clear e10 f8 ff8;have p2:=nb.c 1 2 rfl rfl;go_upto_if 105 with fail
           clear p2;generalize hbare:p.bare=PB;replace hbare:=Lib.hid hbare
           have hq2:=Lib.hid (show edP (nms s.1) (leqF s.1 s.2.1) p (toR (tgI s.2.2.1 (cumL 0 s.2.2.1)) p x nx)=⟨p.name,p.bare,p.at_,toR (tgI s.2.2.1 (cumL 0 s.2.2.1)) p x nx,L1,wd,p.ck,p.cn,L2,p.cat⟩from by
             unfold edP;rw [hL1.out,hL2.out,←hwd.out])
           obtain⟨NX,hNX⟩:∃z,z=nxR p x kd nx:=⟨_,rfl⟩;obtain⟨TO,hTO⟩:∃z,z=toR (tgI s.2.2.1 (cumL 0 s.2.2.1)) p x nx:=⟨_,rfl⟩
           have hNX2:Hid (0≤NX∧NX+ndF r=(me:Int)+1+ndF f):=Lib.hid (by
             have:=e2'.out;rw [hNX];unfold nxR ndT
             by_cases b:p.bare=true
             · rw [if_pos b]at this ⊢
               push_cast at this
               omega
             · rw [if_neg b]at this ⊢
               by_cases c9:x.kind=9
               · rw [if_pos c9]at this ⊢
                 push_cast at this
                 omega
               · rw [if_neg c9]at this ⊢
                 rw [if_neg c9]
                 push_cast at this
                 omega)
           rw [←hNX]at q2;rw [←hTO]at q1 hq2;replace hNX:=Lib.hid hNX;replace hTO:=Lib.hid hTO;go_cut [11]from 104 to 123 (fun s11 wx=>s11=.int .i64 NX∧Hid (Hq F0 () () wr wx [(W3.heap.size,.cells #[.string p.name,.bool p.bare,.int .i64 p.at_,.int .i64 TO,.int .i64 L1,.int .i64 wd,.int .i64 p.ck,.int .i64 p.cn,.int .i64 L2,.int .i64 p.cat] 97),(wr.heap.size,.cells (ptL p x (.slice B1 p.label.length n1) (.slice B2 p.cl.length n2) (.slice A5 x.names.length n5) (.slice A7 kd.len n7)).toArray 127)]))
           case first =>
             cases PB
             · by_cases c9:x.kind=9
               · have tk:(x.kind==9)=true:=by simpa using c9
                 have hfx:=fx.out hbare.out c9;have y9:=nb.c 1 9 rfl rfl;have y16:=nb.c 1 16 rfl rfl;have rS:=(n.bl (F0.bel nb)).rg 3 rfl;have bw8:=bwr.trans ((F0.bel nb).mono bwr.size);have cT:=Lib.hid fun R hR=>refstart18_calls s gs hf b3 os.out.ok hsm x.name hfx _ _ _ _ _ V10 (rd0.out.below bw8) R hR
                 have e4:=sta_tg o hfx
                 have eTO:staS s x.name=TO:=by
                   rw [hTO.out];unfold toR;rw [hbare.out,if_neg (by decide),if_pos c9];exact e4
                 have eNX:NX=nx:=by
                   rw [hNX.out];unfold nxR;rw [hbare.out,if_neg (by decide),if_pos c9]
                 rw [eTO]at cT;replace eNX:=Lib.hid eNX;clear c9 hfx e4 eTO bw8;go_wp2_with (refine wpList_load_g (by rfl) 38 _ rfl w.heap.size 0 rfl _ _ rS Tryz.underlying38 rfl (by kernel_rfl) ?_;go_simp)
                 refine cT.out _ (Lib.hid fun W11 m11=>?_);clear cT rS y9 y16;replace nb:=nb.bl m11;have f3:=nb.c 0 3 rfl rfl;have ff3:=nb.f 0 3 rfl;obtain⟨V12,e12,nb,-⟩:=nb.put (j:=0) rfl [(3,.int .i64 TO)];simp only[stL]at e12;simp only[stA,List.setIfInBounds_toArray,List.set_cons_succ,List.set_cons_zero]at nb;clear m11;go_wp2_with fail
                 go_meet
                 case rel=>exact⟨by rw [eNX.out],Lib.hid nb⟩
               · have tk:(x.kind==9)=false:=by simpa using c9
                 have okk:=lnp.2.2 hbare.out;have y9:=nb.c 1 9 rfl rfl;have r9:=nb.rgd 1 9 rfl;have bw8:=(F0.bel n).trans ((F0.bel nb).mono (F0.bel n).size);have hnx:=hNX2.out
                 have hx9:NX=nx+ndT x kd:=by
                   rw [hNX.out];unfold nxR;rw [hbare.out,if_neg (by decide),if_neg c9]
                 have hT9:TO=nx:=by
                   rw [hTO.out];unfold toR;rw [hbare.out,if_neg (by decide),if_neg c9]
                 have cF:=Lib.hid fun R hR=>flat_calls kd x _ _ V10 V10 okk (ok_len okk).1 (by omega) (Below.refl _ _) (hyx.below bw8) R hR
                 replace hT9:=Lib.hid hT9;have hs1:nx+(ndT x kd:Int)≤2000000:=by omega
                 replace hx9:=Lib.hid hx9;clear c9 okk bw8 hnx;go_wp2_with (refine wpList_load_g (by rfl) 36 _ rfl wr.heap.size (9) rfl _ _ r9 Tryz.underlying36 rfl (by kernel_rfl) ?_;go_simp)
                 refine cF.out _ (Lib.hid fun W11 vx L2_ ox hL2_ eL2_ m11=>?_);clear cF r9 y9 hL2_
                 have len2:L2_.length=ndT x kd:=by
                   have:=congrArg List.length eL2_;rwa [List.length_map,flatT_len]at this
                 obtain⟨Ax,cx,rfl⟩:=own_slc ox;rw [len2];replace nb:=Lib.hid (nb.bl m11);clear ox eL2_ m11 len2;go_wp2_with fail
                 go_meet
                 case rel=>exact⟨by rw [hx9.out],by rw [hT9.out];exact nb⟩
             · have f3:=nb.c 0 3 rfl rfl
               have ff3:=nb.f 0 3 rfl;obtain⟨V12,e12,nb,-⟩:=nb.put (j:=0) rfl [(3,.int .i64 (-1))];simp only[stL]at e12;simp only[stA,List.setIfInBounds_toArray,List.set_cons_succ,List.set_cons_zero]at nb
               have eNX:NX=nx:=by
                 rw [hNX.out];unfold nxR;rw [hbare.out,if_pos rfl]
               have eTO:TO=-1:=by
                 rw [hTO.out];unfold toR;rw [hbare.out,if_pos rfl]
               replace eNX:=Lib.hid eNX;replace eTO:=Lib.hid eTO;go_wp2_with fail
               go_meet
               case rel=>exact⟨by rw [eNX.out],by rw [eTO.out];exact Lib.hid nb⟩
           case rest =>
             clear nb;obtain⟨rfl,nb⟩:=hcut;replace nb:=nb.out;obtain⟨V13,rfl⟩:∃V,V=wc:=⟨_,rfl⟩;have mX:=F0.bel nb;have nX:=n.bl mX;have x6:=nX.c 0 6 rfl rfl;have rE:=nb.rg 0 rfl;have ownX:=own_below own.out mX;have ownY:=own_below ownN.out mX;have sX:=Nat.le_trans s2 mX.size;have b6:=nX.f 0 6 rfl;clear own ownN n bwr mX nb
             go_wp2_with (first
               | (refine wpList_load_g (by rfl) 97 _ rfl W3.heap.size (0) rfl _ _ rE Tryz.underlying97 rfl (by kernel_rfl) ?_)
               | (at_builtin
                  go_loud (refine appKF V13 #[.string p.name,.bool p.bare,.int .i64 p.at_,.int .i64 TO,.int .i64 L1,.int .i64 wd,.int .i64 p.ck,.int .i64 p.cn,.int .i64 L2,.int .i64 p.cat] 10 97 rfl _ _ 72 rfl V4.heap.size ti _ 88 Tryz.underlying72 hTI hz0 hz1 hz2 rfl (by decide) rfl _ K _ rfl ownX _ rfl rfl (by simp [Value.oneCell']) (by unfold maxLen;omega) (by omega) sX ?_)
                  rintro v2 w6 hown6 hg6 hbw6 -
                  obtain⟨A7_,m7_,c7_,rfl⟩:=own_sl hown6;have ownY6:=own_other ownY ownX (by decide) hg6
                  have n6:=nX.grow hg6 fun k q=>⟨Nat.le_trans (by omega) (ownX.lt k q).1,fun h=>h,fun x hx e=>by
                    have:=(ownX.lt k q).1;simp only[List.mem_cons,List.not_mem_nil,or_false]at hx;rcases hx with rfl|rfl|rfl|rfl<;>simp at e<;>omega⟩
                  have bf:=n6.f 0 6 rfl;have bc:=n6.c 0 6 rfl rfl;obtain⟨V14,e14,n7,z14⟩:=n6.put (j:=0) rfl [(6,.slice A7_ m7_ c7_)];simp only[stL]at e14;simp only[stA,List.setIfInBounds_toArray,List.set_cons_succ,List.set_cons_zero]at n7
                  have own7:=Lib.hid (show V14.ownsRow V4.heap.size 97 10 (.slice A7_ m7_ c7_) (K+1) (flatG encE (EE.take (K+1)))from by
                    rw [q1.out,hq2.out,flatG_snoc]
                    exact ownKp hown6 fun k q hk=>by
                      rw [←e14];exact hp_sne (by omega))
                  have ownN7:=Lib.hid (show V14.ownsRow V4.heap.size 9 1 nvF h.names.length (sv (nms h.names))from ownKp ownY6 fun k q hk=>by
                    rw [←e14];exact hp_sne (by omega))
                  have s7:V4.heap.size≤V14.heap.size:=by
                    have a:=hg6.size;rw [z14];exact Nat.le_trans sX a
                  have n8:=Lib.hid n7;have hN1:=hNX2.out;clear hNX2;have e9:Hid (NX+ndF r=(me:Int)+1+ndF f):=Lib.hid hN1.2;have nx1:=hN1.1;rw [d1'.out]at e9;rw [d1'.out]at q2;clear hN1 n6 n7 nX hown6 hg6 hbw6 ownX ownY ownY6 x6 rE b6))
             go_roundg (gk-1)
             case measure=>omega
             case rel=>exact⟨K+1,NX,_,rfl,by go_num,by omega,nx1,e9,q2,n8,ownN7,own7,s7⟩
       · obtain rfl:K=f.len:=by omega
         have own2:=own.out;rw [List.take_of_length_le (by rw [edR_len];exact Nat.le_refl _)]at own2
         have rF:=n.rg 0 rfl;have hG:=n.b 1 rfl;obtain⟨AN,mN,cN,rfl⟩:=own_sl ownN.out;have ownN2:=ownN.out;obtain⟨VE,eE_,nE⟩:=n.row (j:=1) rfl [.int .i64 h.kind,.int .i64 h.at_,.int .i64 h.lo,.int .i64 h.hi,.int .i64 h.most,.slice AN mN cN,.slice A6 m6 c6].toArray;simp only[List.set_cons_succ,List.set_cons_zero]at nE;have w0_:=nE.c 1 0 rfl rfl;have w1_:=nE.c 1 1 rfl rfl;have w2_:=nE.c 1 2 rfl rfl;have w3_:=nE.c 1 3 rfl rfl;have w4_:=nE.c 1 4 rfl rfl;have w5_:=nE.c 1 5 rfl rfl;have w6_:=nE.c 1 6 rfl rfl
         have ownE:VE.ownsRow w.heap.size 97 10 (.slice A6 m6 c6) f.len (flatG encE (edR (nms s.1) (leqF s.1 s.2.1) (tgI s.2.2.1 (cumL 0 s.2.2.1)) f (me+1))):=own_mono (ownKp own2 fun k q hk=>by
           rw [←eE_];exact setRow_other _ _ _ _ (by omega)) (by omega)
         have ownS:VE.ownsRow w.heap.size 9 1 (.slice AN mN cN) (nms h.names).length (sv (nms h.names)):=by
           rw [hnm]
           exact own_mono (ownKp ownN2 fun k q hk=>by
             rw [←eE_];exact setRow_other _ _ _ _ (by omega)) (by omega)
         have fin:=Lib.hid (hR.out VE _ _ ownS ownE (F0.bel nE));clear nE n hR own2 own ownE ownS ownN ownN2 eE e2 hnvF;go_wp2_with (first|(refine wpList_load_g (by rfl) 74 _ rfl V3.heap.size (0) rfl _ _ rF Tryz.underlying74 rfl (by kernel_rfl) ?_;go_simp)|(refine wpList_store_row (by rfl) 74 _ _ (by rfl) V2.heap.size [.int .i64 h.kind,.int .i64 h.at_,.int .i64 h.lo,.int .i64 h.hi,.int .i64 h.most,.slice AN mN cN,.slice A6 m6 c6].toArray (by rfl) (by rfl) 74 _ hG (by kernel_rfl) rfl (by simp [Value.oneCell']) ?_;go_simp))
         first|refine bodyPost_ret ?_ rfl fin.out|refine bodyPost_end ?_ rfl fin.out
         simp [results,Tryz.results54,go_sem,w0_,w1_,w2_,w3_,w4_,w5_,w6_]
end Go.Proofs.YtabhkakomececaaGreat.Res
