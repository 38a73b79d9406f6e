import Derived.Test.YtncckdaflellnaaGreatQ27
set_option linter.all false
set_option maxRecDepth 100000
set_option maxHeartbeats 4000000
namespace Go.Proofs.YtncckdaflellnaaGreat.Res
open Go.RowKit Go.Lib Utf Nam Lat Kin Unp Rel Lab
def cumL:Int→List Nd→List Int
| c,[]=>[c]
| c,x::l=>c::cumL (kntT c x.2.1 x.2.2) l
theorem cumL_len:∀(l:List Nd)(c:Int),(cumL c l).length=l.length+1
| [],c=>rfl
| x::l,c=>by
 show(cumL _ l).length+1=_;rw [cumL_len l];rfl
def addA(nm:List ByteArray)(F:Nat→Nat→Bool)(tg:ByteArray→Int):List Nd→List NdR→List Int×List NdR
| [],l=>([],l)
| x::r,l=>((addT nm F tg x.2.1 x.2.2 l).1::(addA nm F tg r (addT nm F tg x.2.1 x.2.2 l).2).1,(addA nm F tg r (addT nm F tg x.2.1 x.2.2 l).2).2)
theorem addT_behind(nm:List ByteArray)(F:Nat→Nat→Bool)(tg:ByteArray→Int)(h:TH)(f:Ft)(l:List NdR):Behind l (addT nm F tg h f l).2 (Kin.cntF f+1):=addW_behind (addF_behind f) l
def planN(nm:List ByteArray)(F:Nat→Nat→Bool)(tys:List Nd)(c:Int)(rh:TH)(rf:Ft):List NdR×Int×List Int :=
((addT nm F (tgI tys (cumL c tys)) rh rf (addA nm F (tgI tys (cumL c tys)) tys []).2).2,(addT nm F (tgI tys (cumL c tys)) rh rf (addA nm F (tgI tys (cumL c tys)) tys []).2).1,(addA nm F (tgI tys (cumL c tys)) tys []).1)
def PlanP(w:World)(v:Value)(nm:List ByteArray)(F:Nat→Nat→Bool)(ns:List ByteArray)(x:List NdR×Int×List Int):Prop :=
∃(P:Nat) (lv nv tab zv:Value) (xs:List Nv),v=.pointer (some ⟨P,0,none⟩)∧w.heap[P]?=some (.cells #[lv,nv,.int .i64 x.2.1,tab,zv] 123)∧LatP w lv nm F∧RdT w tab ns∧RdAt w nv 7 (flatG encN xs)∧xs.map (·.1)=x.1∧(∀y∈xs,(RdS w y.2.1 y.1.names∧RdEd w y.2.2 y.1.edges)∧Shp y.2.1∧Shp y.2.2)∧RdAt w zv 1 (ints x.2.2)
theorem PlanP.below{w w':World}{v:Value}{nm:List ByteArray}{F:Nat→Nat→Bool}{ns:List ByteArray}{x:List NdR×Int×List Int}(h:PlanP w v nm F ns x)(m:Below w.heap.size w w'):PlanP w' v nm F ns x:=by
 obtain⟨P,lv,nv,tab,zv,xs,e,hb,hl,ht,hn,hx,hr,hz⟩:=h;exact⟨P,lv,nv,tab,zv,xs,e,(m.block _ (hp_lt hb)).trans hb,hl.below m,ht.below m,hn.below m,hx,fun y hy=>⟨⟨(hr y hy).1.1.below m,RdAt.below (hr y hy).1.2 m⟩,(hr y hy).2⟩,hz.below m⟩
theorem rd_unemp{S:Nat→Prop}{w:World}{v:Value}{k:Nat}{xs:List Value}(h:RdAt (empW S w) v k xs):RdAt w v k xs:=by
 obtain⟨A,n,c,rfl,hl,hn,hc⟩:=h;refine⟨A,n,c,rfl,hl,hn,fun h0=>?_⟩;obtain⟨g,o,rfl,hg,hx⟩:=hc h0;rw [emp_size]at hg;exact⟨g,o,rfl,hg,fun j u hj=>(emp_cell.1 (hx j u hj)).2⟩
section
variable {base B:Nat} {lv tv tab:Value} {rh:TH} {rnv rpv:Value} {w0:World}
theorem add_calls{nm:List ByteArray}{F:Nat→Nat→Bool}{tys:List Nd}{st:List Int}(hL:LatP w0 lv nm F)(ht:RdNs w0 tv tys)(hT:RdT w0 tab (nms (tw tys)))(hlow:w0.heap.size≤base)(hl:tys.length≤1000000)(hsl:st.length=tys.length+1)(f:Ft):AddC base B lv tv tab rh rnv rpv w0 nm F tys st f:=Fo.deep (add_step hL ht hT hlow hl hsl) f
theorem compile_calls{nm:List ByteArray}{F:Nat→Nat→Bool}{tys:List Nd}{rf:Ft}(hL:LatP w0 lv nm F)(ht:RdNs w0 tv tys)(hT:RdT w0 tab (nms (tw tys)))(hroot:RdY w0 rh rf rnv rpv)(hlow:w0.heap.size≤base)(hl:tys.length≤1000)(hG:∀x∈tys,GoodK x.2.1 x.2.2)(hGr:GoodK rh rf)(hc:∀x∈tys,Kin.cntF x.2.2≤512)(hcr:Kin.cntF rf≤512)
  (s:BS) (w:World) (hs0:s.st=[]) (hn0:s.nd=[]) (hI:(BF base B lv tv tab rh rnv rpv).Inv w s) (hb:Below w0.heap.size w0 w) (R:Ending→World→Prop)
  (hR:Hid (∀W v,PlanP W v nm F (nms (tw tys)) (planN nm F tys s.count rh rf)→Below w0.heap.size w0 W→R (.returned v) W)):Calls Tryz.prog 55 #[.pointer (some ⟨B,0,none⟩)] w R:=by
 obtain⟨ti,hTI,hZ⟩:=int_info;simp only[Prod.mk.injEq]at hZ;obtain⟨hz0,hz1,hz2⟩:=hZ;have hmf:∀(fn:Fn) (first cap:Array Value) (w:World),(Instr.makeFunc fn first cap).run Tryz.prog w=.ok (.func fn first cap) w:=fun _ _ _ _=>rfl
 have ht0:=ht;have hroot0:=hroot;obtain⟨A,c,rfl,hca,hel⟩:=nds_el ht;obtain⟨Rn,rn,rfl,-,-⟩:=hroot.n.op;obtain⟨Rp,rp,rfl,-⟩:=hroot.p.sl;have hlo:=bF_low base B lv (.slice A tys.length c) tab rh (.slice Rn rh.names.length rn) (.slice Rp rf.len rp) hlow;have hsl:=cumL_len tys s.count;have hadd:=Lib.hid fun f=>add_calls (base:=base) (B:=B) (rh:=rh) (rnv:=.slice Rn rh.names.length rn) (rpv:=.slice Rp rf.len rp) hL ht0 hT hlow (by omega) hsl f
 have n:=Hq.nil hI;replace hel:=Lib.hid hel;replace hG:=Lib.hid hG;replace hc:=Lib.hid hc;go_enter Tryz.func55,Tryz.ntmps55
 go_upto_region 1 with fail
 go_wp2_with fail
 refine each0_calls (G:=GoodT) (fun K s'=>s'.nd=s.nd∧s'.st.length=K∧(K≤tys.length→s'.st++cumL s'.count (tys.drop K)=cumL s.count tys)∧(tys.length<K→s'.st=cumL s.count tys)) ht0 hroot0 hlow (by unfold maxLen;omega) (fun x hx=>(hG.out x hx).2) hGr.2 isF_number (fun K s1 h f nv' pv' V hh hJ hI1 hb1 hy1 hg1 R1 hR1=>?_) s w ⟨rfl,by rw [hs0];rfl,fun _=>by rw [hs0];rfl,fun h=>by omega⟩ hI hb _ (Lib.hid fun W1 s1 j1 c1=>?_)
 ·obtain⟨q1,q2,q3,-⟩:=hJ
  have hK:K≤tys.length:=by omega
  have q4:=q3 hK;refine number_calls hlow s1 h f nv' pv' V (by omega) hI1 hb1 hy1 hg1 R1 (Lib.hid fun W v' c=>hR1.out W { s1 with st:=s1.st++[s1.count],sv:=v',count:=kntT s1.count h f } ⟨q1,by simp [q2],fun hK1=>?_,fun hK1=>?_⟩ c)
  ·rcases hh with⟨hK2,rfl,rfl⟩|⟨rfl,-,-⟩
   ·rw [nd_drop hK2]at q4
    show(s1.st++[s1.count])++cumL (kntT s1.count (nN tys K).2.1 (nN tys K).2.2) (tys.drop (K+1))=_;rw [List.append_assoc];exact q4
   ·omega
  ·rcases hh with⟨hK2,rfl,rfl⟩|⟨rfl,-,-⟩
   ·omega
   ·rw [List.drop_length]at q4
    exact q4
 obtain⟨q1,-,-,q4⟩:=j1;have a1:s1.st=cumL s.count tys:=q4 (by omega);have a2:s1.nd.map (·.1)=[]:=by rw [q1,hn0];rfl
 have a3:s1.nd.length=0:=by rw [q1,hn0];rfl
 replace n:=n.call c1;clear c1 q1 q4 hs0 hn0;have b1:=n.bc 1 rfl;unfold planN at hR;generalize cumL s.count tys=st at *;go_wp2_with fail
 clear b1;go_loopg [3,16] tys.length (fun g0 ev i wr=>∃(K:Nat) (v:Value) (sK:BS) (zs:List Int),v=ev∧i=.int .i64 K∧K+g0=tys.length∧Hid (zs.length=K∧sK.st=st∧addA nm F (tgI tys st) tys []=(zs++(addA nm F (tgI tys st) (tys.drop K) (sK.nd.map (·.1))).1,(addA nm F (tgI tys st) (tys.drop K) (sK.nd.map (·.1))).2)∧sK.nd.length≤K*513)∧Hid (Hq (BF base B lv (.slice A tys.length c) tab rh (.slice Rn rh.names.length rn) (.slice Rp rf.len rp)) s sK w wr [])∧Hid (wr.ownsRow w.heap.size 3 1 v K (ints zs))∧Hid (∀k,v.ownBlock=some k→¬bFr base B sK k))
 case atStart=>exact⟨0,_,s1,[],rfl,rfl,by omega,Lib.hid ⟨rfl,a1,by rw [a2];rfl,by omega⟩,Lib.hid n,Lib.hid (by simpa [ints]using World.ownsRow_nil _ _ _ _),Lib.hid fun k q=>by cases q⟩
 case round =>
  clear n;obtain⟨K,v,sK,zs,rfl,rfl,e1,hh,n,own,sep⟩:=hrel;replace n:=n.out;have hbW:=hb.trans (n.below hb.size (hlo s));have szW:=n.sz
  by_cases hK:K<tys.length
  ·obtain⟨g,o,N1,N3,M1,M3,rfl,hxy,hrg⟩:=hel.out K hK
   obtain⟨h1,h2,h3,h4⟩:=hh.out;have hGx:=hG.out _ (nd_mem hK);have hcx:=hc.out _ (nd_mem hK);rw [nd_drop hK]at h3;have rg:=hrg wr hbW;clear hrg hh hbW;generalize nN tys K=x at *;have i0:(0:Int)≤(K:Int):=by omega
   have i1:(K:Int)<(tys.length:Int):=by omega
   obtain⟨V3,e3,n,z3⟩:=n.new (.cells (ndL x (.slice N1 x.2.1.names.length N3) (.slice M1 x.2.2.len M3)).toArray 121);have bP:=Lib.hid (show Below wr.heap.size wr V3 from e3▸(Below.refl _ _).alloc (Nat.le_refl _) _);replace h3:=Lib.hid h3;go_upto_region 6 with(first|(refine wpList_load_g (by rfl) 121 _ rfl g (o+K*11) rfl _ _ rg Tryz.underlying121 rfl (by kernel_rfl) ?_;go_simp)|(refine wpList_copy (ndL x (.slice N1 x.2.1.names.length N3) (.slice M1 x.2.2.len M3)).toArray ⟨rfl,rfl,rfl⟩ ⟨rfl,rfl,rfl⟩ named_alloc (by kernel_rfl) ⟨rfl,by simp [Value.oneCell']⟩ (fun _=>⟨rfl,rfl⟩) ?_;go_simp))
   clear e3 z3 rg;have hbV:=hb.trans (n.below hb.size (hlo s));have r2:V3.rangeAt wr.heap.size 2 (tyL x.2.1 (.slice N1 x.2.1.names.length N3) (.slice M1 x.2.2.len M3)):=n.rgd 0 2 rfl;go_wp2_with (refine wpList_load_g (by rfl) 29 _ rfl wr.heap.size (2) rfl _ _ r2 Tryz.underlying29 rfl (by kernel_rfl) ?_;go_simp)
   refine hadd.out x.2.2 sK x.2.1 _ _ V3 n.inv hbV hxy hGx h2 (by omega) _ (Lib.hid fun W5 s5 hs5 hn5 c5=>?_);have own5:W5.ownsRow w.heap.size 3 1 v K (ints zs):=ownKp (own_below own.out bP.out) fun k q _=>c5.gr.block k (Nat.lt_of_lt_of_le (own.out.lt k q).2 bP.out.size) (sep.out k q)
   have sep5:∀k,v.ownBlock=some k→¬bFr base B s5 k:=fun k q fr=>by
    rcases c5.sub k fr with e|e
    ·exact sep.out k q e
    ·have a:=(own.out.lt k q).2
     have b:=bP.out.size;omega
   have b5:=addT_behind nm F (tgI tys st) x.2.1 x.2.2 (sK.nd.map (·.1));replace h3:addA nm F (tgI tys st) tys []=(zs++((addT nm F (tgI tys st) x.2.1 x.2.2 (sK.nd.map (·.1))).1::(addA nm F (tgI tys st) (tys.drop (K+1)) (addT nm F (tgI tys st) x.2.1 x.2.2 (sK.nd.map (·.1))).2).1),(addA nm F (tgI tys st) (tys.drop (K+1)) (addT nm F (tgI tys st) x.2.1 x.2.2 (sK.nd.map (·.1))).2).2):=h3.out;rw [←hn5]at h3 b5
   have h5:s5.nd.length≤(K+1)*513:=by
    have q1:=b5.2.1;simp only[List.length_map]at q1;omega
   replace n:=(n.call c5).tail;have hsz:w.heap.size≤W5.heap.size:=n.sz;clear c5 r2 hbV b5 h4 bP own sep hGx hcx hxy;generalize(addT nm F (tgI tys st) x.2.1 x.2.2 (sK.nd.map (·.1))).1=z at h3 ⊢;clear hn5;replace own5:=Lib.hid own5;replace sep5:=Lib.hid sep5;replace h3:=Lib.hid h3;go_wp2_with (at_builtin;go_loud (refine appKF W5 #[.int .i64 z] 1 3 rfl _ _ 51 rfl w.heap.size ti (.int .i64 0) 8 Tryz.underlying51 hTI hz0 hz1 hz2 rfl (by decide) rfl _ K (ints zs) rfl own5.out _ rfl rfl (by simp [Value.oneCell']) (by unfold maxLen;omega) (by omega) hsz ?_);rintro v' w6 hown6 hg6-hfr)
   have own6:=Lib.hid (show w6.ownsRow w.heap.size 3 1 v' (K+1) (ints (zs++[z]))by
    have e:ints (zs++[z])=ints zs++[.int .i64 z]:=by simp [ints]
    rw [e];exact hown6)
   have n6:=Lib.hid (n.grow hg6 fun k q=>⟨(own5.out.lt k q).1,sep5.out k q,by simp⟩)
   have sep6:Hid (∀k,v'.ownBlock=some k→¬bFr base B s5 k):=Lib.hid fun k q=>by
    rcases hfr with e|e
    ·exact sep5.out k (e.symm.trans q)
    ·rw [e]at q
     simp only[Option.some.injEq]at q;intro fr;have:=Fm.lt _ n.inv fr;omega
   have hh6:=Lib.hid (show(zs++[z]).length=K+1∧s5.st=st∧addA nm F (tgI tys st) tys []=((zs++[z])++(addA nm F (tgI tys st) (tys.drop (K+1)) (s5.nd.map (·.1))).1,(addA nm F (tgI tys st) (tys.drop (K+1)) (s5.nd.map (·.1))).2)∧s5.nd.length≤(K+1)*513 from⟨by simp [h1],hs5,by rw [List.append_assoc];exact h3.out,h5⟩)
   clear n own5 sep5 h3 h5 hown6 hg6 hfr hs5 hR;go_wp2_with fail
   go_roundg (gk-1)
   case measure=>omega
   case rel=>exact⟨K+1,v',s5,_,rfl,by go_num,by omega,hh6,n6,own6,sep6⟩
  ·obtain rfl:K=tys.length:=by omega
   obtain⟨h1,h2,h3,h4⟩:=hh.out;rw [List.drop_length]at h3;replace h3:addA nm F (tgI tys st) tys []=(zs,sK.nd.map (·.1)):=by rw [h3];simp [addA]
   rw [h3]at hR;clear h3 hh;have rB:=bs_root n;go_upto_region 8 with fail
   go_wp2_with (refine wpList_load_g (by rfl) 29 _ rfl B (2) rfl _ _ rB Tryz.underlying29 rfl (by kernel_rfl) ?_;go_simp)
   refine hadd.out rf sK rh _ _ wr n.inv hbW hroot0 hGr h2 (by omega) _ (Lib.hid fun W5 s5 hs5 hn5 c5=>?_);have own5:=ownKp own.out fun k q _=>c5.gr.block k (own.out.lt k q).2 (sep.out k q)
   replace n:=n.call c5;rw [←hn5]at hR;generalize(addT nm F (tgI tys st) rh rf (sK.nd.map (·.1))).1=z at hR ⊢;clear c5 hn5 rB hbW own sep hs5;go_upto_region 9 with fail
   obtain⟨lp,rfl⟩:=hL.ptr
   obtain⟨tp,rfl⟩:∃tp,tab=.pointer (some ⟨tp,0,none⟩):=by
    obtain⟨p,_,_,h,-⟩:=hT;exact⟨p,h⟩
   have inv:BInv base B (.pointer (some ⟨lp,0,none⟩)) (.slice A tys.length c) (.pointer (some ⟨tp,0,none⟩)) rh (.slice Rn rh.names.length rn) (.slice Rp rf.len rp) W5 s5:=n.inv;obtain⟨NA,NC,hnv⟩:=own_sl2 inv.on;obtain⟨ZA,zc,rfl⟩:=own_sl2 own5;have hbV:=hb.trans (n.below hb.size (hlo s));have b15:=n.bc 15 rfl;rw [hnv]at b15;replace b15:=fun y:BW W5=>y.cell n.bl_ b15
   have b0:=fun y:BW W5=>y.cell n.bl_ (n.bc 0 rfl)
   have b11:=fun y:BW W5=>y.cell n.bl_ (n.bc 11 rfl)
   have gW:Below W5.heap.size W5 (W5.drewN 1):=below_drewN (Below.refl _ _) 1;obtain⟨V9,e9⟩:∃V9,(W5.drewN 1).alloc (.cells #[.pointer (some ⟨lp,0,none⟩),.slice NA s5.nd.length NC,.int .i64 z,.pointer (some ⟨tp,0,none⟩),.slice ZA tys.length zc] 123)=V9:=⟨_,rfl⟩;have m9:Below W5.heap.size W5 V9:=e9▸gW.alloc gW.size _
   have hP:V9.heap[W5.heap.size]?=some (.cells #[.pointer (some ⟨lp,0,none⟩),.slice NA s5.nd.length NC,.int .i64 z,.pointer (some ⟨tp,0,none⟩),.slice ZA tys.length zc] 123):=by
    rw [←e9];exact heap_alloc_new (W5.drewN 1) _
   have rn_:RdAt W5 s5.nv 7 (flatG encN s5.nd):=RdAt.of_own inv.on;rw [hnv]at rn_;have pl:PlanP V9 (.pointer (some ⟨W5.heap.size,0,none⟩)) nm F (nms (tw tys)) (s5.nd.map (·.1),z,zs):=⟨W5.heap.size,_,_,_,_,s5.nd,rfl,hP,hL.below (hbV.trans (m9.mono hbV.size)),hT.below (hbV.trans (m9.mono hbV.size)),rn_.below m9,rfl,fun y hy=>⟨⟨RdAt.below (rd_unemp (inv.rd y hy).1) m9,RdAt.below (rd_unemp (inv.rd y hy).2) m9⟩,inv.sh y hy⟩,(RdAt.of_own own5).below m9⟩;have fin:=Lib.hid (hR.out _ _ pl (hbV.trans (m9.mono hbV.size)));refine wp_region_tr (.one [0,1,2,3,4,5,6,7,8,9,10,11,12,13,14] 15 (.last [])) 16 (by kernel_rfl) (by kernel_rfl) (by kernel_rfl) (by kernel_rfl) (by decide) (fun _ _ d _ _ h=>by cases d<;>exact h) ?_
   refine tr_one (os:=[_,_,_,_,_,_,_,_,_,_,_,_,_,_,_]) (by simp only[pickO,List.filterMap_cons,List.filterMap_nil,List.getElem?_toArray,List.getElem?_cons_succ,List.getElem?_cons_zero];rfl) (fun Kp hKp=>?_)
   repeat (go_big_quiet_step (exact rfl))
   refine wpQuiet_nil ?_;refine hKp _ ?_;clear hKp;refine loudr (by rfl) (by kernel_rfl) (fun K1 hK1=>?_);clear pl hP rn_ inv n own5 hR;go_simp;refine hK1 _ _ (BW.of m9) ?_;clear hK1;refine tr_last (os:=[]) (by rfl) (fun Kp hKp=>?_);refine wpQuiet_nil ?_;refine hKp _ ?_;clear hKp;refine loudl (by rfl) (by kernel_rfl) ?_;go_simp;go_wp2_with fail
   exact fin.out
end
def bs0:BS:=⟨0,0,.slice none 0 0,[],.slice none 0 0,[],fun _=>False⟩
noncomputable def bldS(s:Sc):Int×Int :=
if(wrongS s.1 s.2.1).1≠0 then wrongS s.1 s.2.1 else
if(nmC s.2.2.1).1≠0 then nmC s.2.2.1 else(chkB (nms s.1) (leqF s.1 s.2.1) s.2.2.1 bs0 s.2.2.2.1 s.2.2.2.2).1
theorem each_inv{op:BS→TH→Ft→(Int×Int)×BS}{P:BS→Prop}(h:∀s a b,P s→P (op s a b).2):∀(l:List Nd)(s:BS)(a:TH)(b:Ft),P s→P (eachS op s l a b).2
| [],s,a,b,q=>h s a b q
| x::l,s,a,b,q=>by
 show P (if(op s x.2.1 x.2.2).1.1≠0 then op s x.2.1 x.2.2 else eachS op (op s x.2.1 x.2.2).2 l a b).2
 split
 ·exact h _ _ _ q
 ·exact each_inv h l _ a b (h _ _ _ q)
theorem inF_inv{op:BS→TH→Ft→(Int×Int)×BS}{P:BS→Prop}(h:∀s a b,P s→P (op s a b).2):∀(f:Ft)(s:BS),P s→P (inF op s f).2
| .nil,s,q=>q
| .cons p x k r,s,q=>by
 show P (if p.bare=true then inF op s r else if(op s x k).1.1≠0 then op s x k else if(inF op (op s x k).2 k).1.1≠0 then inF op (op s x k).2 k else inF op (inF op (op s x k).2 k).2 r).2
 split
 ·exact inF_inv h r s q
 ·split
  ·exact h _ _ _ q
  ·split
   ·exact inF_inv h k _ (h _ _ _ q)
   ·exact inF_inv h r _ (inF_inv h k _ (h _ _ _ q))
theorem chk_inv{nm:List ByteArray}{F:Nat→Nat→Bool}{tys:List Nd}{s:BS}{h:TH}{f:Ft}:∃t,(chkB nm F tys s h f).2={ s with total:=t }:=by
 have hk:∀s' a b,(∃t,s'={ s with total:=t })→∃t,(kindsS s' a b).2={ s with total:=t }:=fun s' a b ⟨t,e⟩=>by
  subst e;unfold kindsS
  split
  ·exact⟨t,rfl⟩
  ·split
   ·exact⟨_,rfl⟩
   ·exact⟨_,rfl⟩
 have hw:∀s' a b,(∃t,s'={ s with total:=t })→∃t,(inT (wordsS nm F (nms (tw tys))) s' a b).2={ s with total:=t }:=fun s' a b q=>by
  unfold inT
  split
  ·exact q
  ·exact inF_inv (P:=fun s'=>∃t,s'={ s with total:=t }) (fun _ _ _ q=>q) b _ q
 have h1:=each_inv (P:=fun s'=>∃t,s'={ s with total:=t }) hk tys s h f ⟨s.total,rfl⟩;have h2:=each_inv (P:=fun s'=>∃t,s'={ s with total:=t }) hw tys _ h f h1;unfold chkB
 split
 ·exact h1
 ·split
  ·exact h2
  ·exact h2
theorem kindsS_cnt{s:BS}{h:TH}{f:Ft}(e:(kindsS s h f).1.1=0):Kin.cntF f≤512:=by
 unfold kindsS at e
 by_cases c:(wcS h f).1≠0
 ·rw [if_pos c]at e;exact absurd e c
 ·have:=(wc_ok (Classical.not_not.1 c)).2.1
  omega
theorem each_cnt:∀(l:List Nd)(s:BS){h:TH}{f:Ft},(eachS kindsS s l h f).1.1=0→(∀x∈l,Kin.cntF x.2.2≤512)∧Kin.cntF f≤512
| [],s,h,f,e=>⟨by simp,kindsS_cnt e⟩
| x::l,s,h,f,e=>by
 have e':(if(kindsS s x.2.1 x.2.2).1.1≠0 then kindsS s x.2.1 x.2.2 else eachS kindsS (kindsS s x.2.1 x.2.2).2 l h f).1.1=0:=e
 by_cases c:(kindsS s x.2.1 x.2.2).1.1≠0
 ·rw [if_pos c]at e';exact absurd e' c
 ·rw [if_neg c]at e'
  obtain⟨h1,h2⟩:=each_cnt l _ e';refine⟨fun y hy=>?_,h2⟩;rcases List.mem_cons.1 hy with rfl|hy
  ·exact kindsS_cnt (s:=s) (by simpa using c)
  ·exact h1 y hy
theorem chk_kinds{nm:List ByteArray}{F:Nat→Nat→Bool}{tys:List Nd}{s:BS}{h:TH}{f:Ft}(e:(chkB nm F tys s h f).1.1=0):(eachS kindsS s tys h f).1.1=0:=by
 unfold chkB at e
 by_cases c:(eachS kindsS s tys h f).1.1≠0
 ·rw [if_pos c]at e;exact absurd e c
 ·exact Classical.not_not.1 c
theorem nmC_len{l:List Nd}(e:(nmC l).1=0):l.length≤64:=by
 unfold nmC at e
 by_cases c:64<l.length
 ·rw [if_pos c]at e;exact absurd e (by show ¬(8:Int)=0;decide)
 ·omega
theorem bld_eq(s:Sc):bldS s=if(wrongS s.1 s.2.1).1≠0 then wrongS s.1 s.2.1 else if(nmC s.2.2.1).1≠0 then nmC s.2.2.1 else(chkB (nms s.1) (leqF s.1 s.2.1) s.2.2.1 bs0 s.2.2.2.1 s.2.2.2.2).1:=rfl
theorem build18_calls(s:Sc)(gs:GoodS s)(b3:s.2.2.1.length≤1000000)(lv ov tv nv pv:Value)(w:World)(rd:RdSc w s lv ov tv nv pv)(R:Ending→World→Prop)
  (hR:Hid (∀W v,(bldS s).1=0→PlanP W v (nms s.1) (leqF s.1 s.2.1) (nms (tw s.2.2.1)) (planN (nms s.1) (leqF s.1 s.2.1) s.2.2.1 0 s.2.2.2.1 s.2.2.2.2)→Below w.heap.size w W→R (.returned (.tuple #[v,FtV (0,0)])) W))
  (hR2:Hid (∀W,(bldS s).1≠0→Below w.heap.size w W→R (.returned (.tuple #[.pointer none,FtV (bldS s)])) W)):Calls Tryz.prog 15 #[scV s lv ov tv nv pv] w R:=by
 obtain⟨A1,c1,rfl,-,-⟩:=rd.l.op;obtain⟨A2,c2,rfl,-,-⟩:=Unp.RdPr.op rd.o;obtain⟨A3,c3,rfl,-,-⟩:=nds_el rd.t;obtain⟨N1,N3,rfl,-,-⟩:=rd.r.n.op;obtain⟨M1,M3,rfl,-⟩:=rd.r.p.sl;have hE:=Lib.hid (bld_eq s);have m0:=F0.z w;obtain⟨V1,e1,m1,z1⟩:=m0.new (.cells [.slice A1 s.1.length c1,.slice A2 s.2.1.length c2,.slice A3 s.2.2.1.length c3,.int .i64 s.2.2.2.1.kind,.int .i64 s.2.2.2.1.at_,.int .i64 s.2.2.2.1.lo,.int .i64 s.2.2.2.1.hi,.int .i64 s.2.2.2.1.most,.slice N1 s.2.2.2.1.names.length N3,.slice M1 s.2.2.2.2.len M3,.string s.2.2.2.1.name,.int .i64 s.2.2.2.1.nat].toArray 31);obtain⟨V,e2,n,z2⟩:=m1.new (.cells #[.int .i64 0,.int .i64 0] 34);clear m0 m1 z1 z2;go_enter Tryz.func15,Tryz.ntmps15
 go_upto_region 1 with fail
 clear e1 e2;have s0:=n.c 1 0 rfl rfl;have s1:=n.c 1 1 rfl rfl;go_wp2_with fail
 have hb:=F0.bel n;refine build_calls s.1 s.2.1 _ _ V (rd.l.below hb) (RdAt.below rd.o hb) gs.l gs.o gs.ll gs.ol _ (Lib.hid fun v' W1 ew hL m1=>?_) (Lib.hid fun W1 ew m1=>?_)
 ·clear s0 s1 hb
  replace n:=n.bl m1;clear m1;obtain⟨lp,rfl⟩:=hL.ptr;have ew0:¬(wrongS s.1 s.2.1).1≠0:=by rw [ew];decide
  replace hE:=hE.out;rw [if_neg ew0]at hE;replace hE:=Lib.hid hE;clear ew ew0;obtain⟨q0,q1,hq,hq1⟩:∃q0 q1:Int,(Value.agg #[.int .i64 0,.int .i64 0])=.agg #[.int .i64 q0,.int .i64 q1]∧q0=0:=⟨0,0,rfl,rfl⟩;rw [hq];replace hq:=Lib.hid hq;replace hq1:=Lib.hid hq1;obtain⟨V2,e3,n,z9⟩:=n.new (.cells #[.int .i64 q0,.int .i64 q1] 34);clear z9;go_upto_region 2 with fail
  have hlm:Below W1.heap.size W1 V2:=e3▸(Below.refl _ _).alloc (Nat.le_refl _) _;clear e3;have a_0:=n.c 0 0 rfl rfl;have a_1:=n.c 0 1 rfl rfl;obtain rfl:=hq1.out;clear hq;replace n:=n.tail;have s2:=n.c 1 2 rfl rfl;go_upto_region 4 with fail
  clear a_0 a_1;go_wp2_with fail
  have hb:=F0.bel n;refine names18_calls s.2.2.1 _ V2 (rd.t.below hb) b3 _ (Lib.hid fun v6 W3 r6 m3=>?_);obtain⟨A6,c6,rfl,-⟩:=r6.open;replace n:=n.bl m3;replace hL:=hL.below (hlm.trans (m3.mono hlm.size));have s2:=n.c 1 2 rfl rfl;have hb:=F0.bel n;have hlen:=nmC_len (l:=s.2.2.1);go_wp2_with fail
  refine checkNames18_calls s.2.2.1 _ _ W3 (rd.t.below hb) r6 (fun x hx=>(gs.t x hx).1) b3 _ (Lib.hid fun W4 m4=>?_);replace n:=n.bl m4;replace hL:=hL.below m4;replace r6:=r6.below m4;generalize nmC s.2.2.1=q at *;obtain⟨q0,q1⟩:=q;clear m4 m3 s2 hb hlm;obtain⟨V5,e5,n,z9⟩:=n.new (.cells #[.int .i64 q0,.int .i64 q1] 34);clear z9;go_upto_region 6 with fail
  have hlm:Below W4.heap.size W4 V5:=e5▸(Below.refl _ _).alloc (Nat.le_refl _) _;clear e5;have a_0:=n.c 0 0 rfl rfl;have a_1:=n.c 0 1 rfl rfl;replace hL:=hL.below hlm;replace r6:=r6.below hlm;clear hlm
  by_cases hq0:q0=0
  ·subst hq0
   replace hE:=hE.out;rw [if_neg (by decide)]at hE;have hl64:=hlen rfl;go_upto_region 8 with fail
   clear a_0 a_1 hlen;replace n:=n.tail;have s2:=fun y:BW V5=>y.cell (n.lt 1 rfl) (n.c 1 2 rfl rfl)
   have rT:=fun(W:World) (e:∃y:BW V5,W=y.w)=>(show W.rangeAt w.heap.size 3 (tyL s.2.2.2.1 (.slice N1 s.2.2.2.1.names.length N3) (.slice M1 s.2.2.2.2.len M3))from by
    obtain⟨y,rfl⟩:=e;exact(n.bl y.b).rgd 1 3 rfl)
   have gW:Below V5.heap.size V5 (V5.drewN 1):=below_drewN (Below.refl _ _) 1;refine wp_region_tr (.one [0,1,2,3,4,5] 6 (.one [7] 8 (.last []))) 9 (by kernel_rfl) (by kernel_rfl) (by kernel_rfl) (by kernel_rfl) (by decide) (fun _ _ d _ _ h=>by cases d<;>exact h) ?_
   refine tr_one (os:=[_,_,_,_,_,_]) (by simp only[pickO,List.filterMap_cons,List.filterMap_nil,List.getElem?_toArray,List.getElem?_cons_succ,List.getElem?_cons_zero];rfl) (fun Kp hKp=>?_)
   iterate 4 (go_big_quiet_step (exact rfl))
   refine wpQuiet_load rfl 29 _ rfl (w.heap.size) 3 rfl _ _ rT Tryz.underlying29 rfl (by kernel_rfl) ?_
   try go_simp
   repeat (go_big_quiet_step (exact rfl))
   refine wpQuiet_nil ?_;refine hKp _ ?_;clear hKp;refine loudr (by rfl) (by kernel_rfl) (fun K1 hK1=>?_);go_simp;refine new_calls (nms (tw s.2.2.1)) _ _ (by simp [nms,tw_len];omega) (r6.below gW) _ (Lib.hid fun v7 W7 hT m7=>?_)
   obtain⟨tp,rfl⟩:∃tp,v7=.pointer (some ⟨tp,0,none⟩):=by
    obtain⟨p,_,_,h,-⟩:=hT;exact⟨p,h⟩
   have gL:Below V5.heap.size V5 W7:=gW.trans (m7.mono gW.size);refine hK1 _ _ (BW.of gL) ?_;clear hK1;refine tr_one (os:=[_]) (by simp only[pickO,List.filterMap_cons,List.filterMap_nil,List.getElem?_toArray,List.getElem?_cons_succ,List.getElem?_cons_zero];rfl) (fun Kp hKp=>?_)
   repeat (go_big_quiet_step (exact rfl))
   refine wpQuiet_nil ?_;refine hKp _ ?_;clear hKp;obtain⟨V8,e8⟩:∃V8,W7.alloc (.cells #[.pointer (some ⟨lp,0,none⟩),.slice A3 s.2.2.1.length c3,.int .i64 s.2.2.2.1.kind,.int .i64 s.2.2.2.1.at_,.int .i64 s.2.2.2.1.lo,.int .i64 s.2.2.2.1.hi,.int .i64 s.2.2.2.1.most,.slice N1 s.2.2.2.1.names.length N3,.slice M1 s.2.2.2.2.len M3,.string s.2.2.2.1.name,.int .i64 s.2.2.2.1.nat,.pointer (some ⟨tp,0,none⟩),.int .i64 0,.int .i64 0,.slice none 0 0,.slice none 0 0] 100)=V8:=⟨_,rfl⟩;have g8:Below W7.heap.size W7 V8:=e8▸(Below.refl _ _).alloc (Nat.le_refl _) _
   have h8:V8.heap[W7.heap.size]?=some (.cells #[.pointer (some ⟨lp,0,none⟩),.slice A3 s.2.2.1.length c3,.int .i64 s.2.2.2.1.kind,.int .i64 s.2.2.2.1.at_,.int .i64 s.2.2.2.1.lo,.int .i64 s.2.2.2.1.hi,.int .i64 s.2.2.2.1.most,.slice N1 s.2.2.2.1.names.length N3,.slice M1 s.2.2.2.2.len M3,.string s.2.2.2.1.name,.int .i64 s.2.2.2.1.nat,.pointer (some ⟨tp,0,none⟩),.int .i64 0,.int .i64 0,.slice none 0 0,.slice none 0 0] 100):=by
    rw [←e8];exact heap_alloc_new W7 _
   refine loudr (by rfl) (by kernel_rfl) (fun K2 hK2=>?_);go_simp;refine hK2 _ _ (BW.of (show Below V5.heap.size V5 V8 from gL.trans (g8.mono gL.size))) ?_;clear hK2;refine tr_last (os:=[]) (by rfl) (fun Kp hKp=>?_);refine wpQuiet_nil ?_;refine hKp _ ?_;clear hKp;refine loudl (by rfl) (by kernel_rfl) ?_;go_simp;replace hL:=hL.below gL;replace n:=n.bl gL;have hbw:=F0.bel n;have inv:BInv W7.heap.size W7.heap.size (.pointer (some ⟨lp,0,none⟩)) (.slice A3 s.2.2.1.length c3) (.pointer (some ⟨tp,0,none⟩)) s.2.2.2.1 (.slice N1 s.2.2.2.1.names.length N3) (.slice M1 s.2.2.2.2.len M3) V8 bs0:=⟨Nat.le_refl _,h8,World.ownsRow_nil _ _ _ _,World.ownsRow_nil _ _ _ _,fun k q=>q.elim,(by simp [bs0]),(fun q=>by cases q),(fun q=>by cases q),(fun k q=>by cases q),(by simp [bs0])⟩;clear s2 rT gW gL r6 m7;have hGt:∀x∈s.2.2.1,GoodT x.2.1 x.2.2:=fun x hx=>⟨(gs.t x hx).2.1,(gs.t x hx).2.2.2,(gs.t x hx).2.2.1⟩
   have hGr:GoodT s.2.2.2.1 s.2.2.2.2:=⟨gs.h,gs.gl,gs.g⟩;have tr:=rd.t.below hbw;have rr:=rd.r.below hbw;go_wp2_with fail
   refine check_calls (base:=W7.heap.size) (B:=W7.heap.size) hL hT tr rr (Nat.le_refl _) b3 hGt hGr bs0 V8 inv g8 _ (Lib.hid fun W9 c9=>?_);have m9:Below W7.heap.size W7 W9:=g8.trans (c9.below g8.size fun k q=>q.1);have n7:=Lib.hid n;replace n:=n.bl m9;replace hE:=Lib.hid hE;have hkd:=chk_kinds (nm:=nms s.1) (F:=leqF s.1 s.2.1) (tys:=s.2.2.1) (s:=bs0) (h:=s.2.2.2.1) (f:=s.2.2.2.2);obtain⟨t,hst⟩:=chk_inv (nm:=nms s.1) (F:=leqF s.1 s.2.1) (tys:=s.2.2.1) (s:=bs0) (h:=s.2.2.2.1) (f:=s.2.2.2.2);generalize chkB (nms s.1) (leqF s.1 s.2.1) s.2.2.1 bs0 s.2.2.2.1 s.2.2.2.2=ch at *;obtain⟨⟨q0,q1⟩,s9⟩:=ch;simp only at hst hkd c9 ⊢;subst hst;clear e8 h8 inv;obtain⟨V10,e10,n,z9⟩:=n.new (.cells #[.int .i64 q0,.int .i64 q1] 34);clear z9;go_upto_region 10 with fail
   have hlm:Below W9.heap.size W9 V10:=e10▸(Below.refl _ _).alloc (Nat.le_refl _) _;clear e10;have a_0:=n.c 0 0 rfl rfl;have a_1:=n.c 0 1 rfl rfl;replace c9:=c9.bl hlm
   by_cases hq0:q0=0
   ·subst hq0
    have hkd:=hkd rfl;obtain⟨k1,k2⟩:=each_ok s.2.2.1 bs0 hkd;obtain⟨k3,k4⟩:=each_cnt s.2.2.1 bs0 hkd;have m10:Below W7.heap.size W7 V10:=m9.trans (hlm.mono m9.size);replace n:=n.tail;go_upto_region 12 with fail
    clear a_0 a_1 hlm;go_wp2_with fail
    refine compile_calls (base:=W7.heap.size) (B:=W7.heap.size) hL tr hT rr (Nat.le_refl _) (by omega) (fun x hx=>⟨k1 x hx,hGt x hx⟩) ⟨k2,hGr⟩ k3 k4 _ V10 rfl rfl c9.inv m10 _ (Lib.hid fun W v pl mB=>?_);clear n c9 m10 m9 g8 k1 k2 k3 k4 hkd hGt hGr tr rr hL hT
    obtain⟨P,rfl⟩:∃P,v=.pointer (some ⟨P,0,none⟩):=by
     obtain⟨P,_,_,_,_,_,e,-⟩:=pl;exact⟨P,e⟩
    have n:=n7.out.bl mB;have hG:=n.b 0 rfl;have eS:=setRow_self W V1.heap.size #[.int .i64 0,.int .i64 0] 34 (0,0) hG;have w0_:=n.c 0 0 rfl rfl;have w1_:=n.c 0 1 rfl rfl;have fin:=Lib.hid (hR.out W _ (by rw [hE.out]) pl (F0.bel n));clear n n7 pl mB hR hR2 hE;go_wp2_with (refine wpList_store_row (by rfl) 34 _ _ (by rfl) V1.heap.size #[.int .i64 0,.int .i64 0] (by rfl) (by rfl) 34 _ hG (by kernel_rfl) rfl (by simp [Value.oneCell']) ?_;rw [eS])
    first|refine bodyPost_ret ?_ rfl fin.out|refine bodyPost_end ?_ rfl fin.out
    simp [results,Tryz.results15,go_sem,w0_,w1_]
   ·have t0:(q0 != 0)=true:=by simpa using hq0
    have hE2:=Lib.hid (show bldS s=(q0,q1)from hE.out);replace hq0:=Lib.hid hq0;clear hE hL hT tr rr hGt hGr hkd c9 hlm m9 g8;go_upto_region 11 with fail
    clear a_0 a_1
    have rT:=fun(W:World) (e:∃y:BW V10,W=y.w)=>(show W.rangeAt W9.heap.size 0 [.int .i64 q0,.int .i64 q1]from by
     obtain⟨y,rfl⟩:=e;exact(n.bl y.b).rg 0 rfl)
    refine wp_region_tr (.last [0,1]) 2 (by kernel_rfl) (by kernel_rfl) (by kernel_rfl) (by kernel_rfl) (by decide) (fun _ _ d _ _ h=>by cases d<;>exact h) ?_
    replace n:=n.bl (show Below V10.heap.size V10 (V10.drewN 1)from below_drewN (Below.refl _ _) 1);refine tr_last (os:=[_,_]) (by simp only[pickO,List.filterMap_cons,List.filterMap_nil,List.getElem?_toArray,List.getElem?_cons_succ,List.getElem?_cons_zero];rfl) (fun Kp hKp=>?_)
    refine wpQuiet_load rfl 34 _ rfl (W9.heap.size) 0 rfl _ _ rT Tryz.underlying34 rfl (by kernel_rfl) ?_
    try go_simp
    repeat (go_big_quiet_step (exact rfl))
    refine wpQuiet_nil ?_;refine hKp _ ?_;clear hKp;clear rT;have y0:=n.c 1 0 rfl rfl;have yf0:=n.f 1 0 rfl;have y1:=n.c 1 1 rfl rfl;have yf1:=n.f 1 1 rfl;obtain⟨VE,eE,nE,-⟩:=n.put (j:=1) rfl [(0,.int .i64 q0),(1,.int .i64 q1)];simp only[stL]at eE;simp only[stA,List.setIfInBounds_toArray,List.set_cons_succ,List.set_cons_zero]at nE;have w0_:=nE.c 1 0 rfl rfl;have w1_:=nE.c 1 1 rfl rfl;have fin:=Lib.hid (by have:=hR2.out VE (by rw [hE2.out];exact hq0.out) (F0.bel nE);rw [hE2.out]at this;exact this)
    clear nE n hR hR2;refine loudl (by rfl) (by kernel_rfl) ?_;go_simp;go_wp2_with fail
    first|refine bodyPost_ret ?_ rfl fin.out|refine bodyPost_end ?_ rfl fin.out
    simp [results,Tryz.results15,go_sem,w0_,w1_]
  ·replace hlen:=hq0
   have t0:(q0 != 0)=true:=by simpa using hq0
   have hE2:=Lib.hid (show bldS s=(q0,q1)by rw [hE.out,if_pos hq0]);replace hq0:=Lib.hid hq0;clear hE hlen hL r6;go_upto_region 7 with fail
   clear a_0 a_1
   have rT:=fun(W:World) (e:∃y:BW V5,W=y.w)=>(show W.rangeAt W4.heap.size 0 [.int .i64 q0,.int .i64 q1]from by
    obtain⟨y,rfl⟩:=e;exact(n.bl y.b).rg 0 rfl)
   refine wp_region_tr (.last [0,1]) 2 (by kernel_rfl) (by kernel_rfl) (by kernel_rfl) (by kernel_rfl) (by decide) (fun _ _ d _ _ h=>by cases d<;>exact h) ?_
   replace n:=n.bl (show Below V5.heap.size V5 (V5.drewN 1)from below_drewN (Below.refl _ _) 1);refine tr_last (os:=[_,_]) (by simp only[pickO,List.filterMap_cons,List.filterMap_nil,List.getElem?_toArray,List.getElem?_cons_succ,List.getElem?_cons_zero];rfl) (fun Kp hKp=>?_)
   refine wpQuiet_load rfl 34 _ rfl (W4.heap.size) 0 rfl _ _ rT Tryz.underlying34 rfl (by kernel_rfl) ?_
   try go_simp
   repeat (go_big_quiet_step (exact rfl))
   refine wpQuiet_nil ?_;refine hKp _ ?_;clear hKp;clear rT;have y0:=n.c 1 0 rfl rfl;have yf0:=n.f 1 0 rfl;have y1:=n.c 1 1 rfl rfl;have yf1:=n.f 1 1 rfl;obtain⟨VE,eE,nE,-⟩:=n.put (j:=1) rfl [(0,.int .i64 q0),(1,.int .i64 q1)];simp only[stL]at eE;simp only[stA,List.setIfInBounds_toArray,List.set_cons_succ,List.set_cons_zero]at nE;have w0_:=nE.c 1 0 rfl rfl;have w1_:=nE.c 1 1 rfl rfl;have fin:=Lib.hid (by have:=hR2.out VE (by rw [hE2.out];exact hq0.out) (F0.bel nE);rw [hE2.out]at this;exact this)
   clear nE n hR hR2;refine loudl (by rfl) (by kernel_rfl) ?_;go_simp;go_wp2_with fail
   first|refine bodyPost_ret ?_ rfl fin.out|refine bodyPost_end ?_ rfl fin.out
   simp [results,Tryz.results15,go_sem,w0_,w1_]
 ·replace n:=n.bl m1
  clear m1 s0 s1 hb;have hE2:bldS s=wrongS s.1 s.2.1:=by rw [hE.out,if_pos ew]
  generalize wrongS s.1 s.2.1=q at *;obtain⟨q0,q1⟩:=q;simp only at ew ⊢;replace hE2:=Lib.hid hE2;clear hE;obtain⟨V2,e3,n,z9⟩:=n.new (.cells #[.int .i64 q0,.int .i64 q1] 34);clear z9;go_upto_region 2 with fail
  have hlm:Below W1.heap.size W1 V2:=e3▸(Below.refl _ _).alloc (Nat.le_refl _) _;clear e3;have a_0:=n.c 0 0 rfl rfl;have a_1:=n.c 0 1 rfl rfl;have t0:(q0 != 0)=true:=by simpa using ew
  replace ew:=Lib.hid ew;go_upto_region 3 with fail
  clear a_0 a_1
  have rT:=fun(W:World) (e:∃y:BW V2,W=y.w)=>(show W.rangeAt W1.heap.size 0 [.int .i64 q0,.int .i64 q1]from by
   obtain⟨y,rfl⟩:=e;exact(n.bl y.b).rg 0 rfl)
  refine wp_region_tr (.last [0,1]) 2 (by kernel_rfl) (by kernel_rfl) (by kernel_rfl) (by kernel_rfl) (by decide) (fun _ _ d _ _ h=>by cases d<;>exact h) ?_
  replace n:=n.bl (show Below V2.heap.size V2 (V2.drewN 1)from below_drewN (Below.refl _ _) 1);refine tr_last (os:=[_,_]) (by simp only[pickO,List.filterMap_cons,List.filterMap_nil,List.getElem?_toArray,List.getElem?_cons_succ,List.getElem?_cons_zero];rfl) (fun Kp hKp=>?_)
  refine wpQuiet_load rfl 34 _ rfl (W1.heap.size) 0 rfl _ _ rT Tryz.underlying34 rfl (by kernel_rfl) ?_
  try go_simp
  repeat (go_big_quiet_step (exact rfl))
  refine wpQuiet_nil ?_;refine hKp _ ?_;clear hKp;clear rT;have y0:=n.c 1 0 rfl rfl;have yf0:=n.f 1 0 rfl;have y1:=n.c 1 1 rfl rfl;have yf1:=n.f 1 1 rfl;obtain⟨VE,eE,nE,-⟩:=n.put (j:=1) rfl [(0,.int .i64 q0),(1,.int .i64 q1)];simp only[stL]at eE;simp only[stA,List.setIfInBounds_toArray,List.set_cons_succ,List.set_cons_zero]at nE;have w0_:=nE.c 1 0 rfl rfl;have w1_:=nE.c 1 1 rfl rfl;have fin:=Lib.hid (by have:=hR2.out VE (by rw [hE2.out];exact ew.out) (F0.bel nE);rw [hE2.out]at this;exact this)
  clear nE n hR hR2;refine loudl (by rfl) (by kernel_rfl) ?_;go_simp;go_wp2_with fail
  first|refine bodyPost_ret ?_ rfl fin.out|refine bodyPost_end ?_ rfl fin.out
  simp [results,Tryz.results15,go_sem,w0_,w1_]
end Go.Proofs.YtncckdaflellnaaGreat.Res
