import Derived.Test.YtabhkakomececaaGreatQ22
import Derived.Test.YtabhkakomececaaGreatQ10
import Derived.Great.BuildSlice
set_option linter.all false
set_option maxRecDepth 100000
set_option maxHeartbeats 4000000
namespace Go.Proofs.YtabhkakomececaaGreat.Lat
open Go.RowKit Go.Lib Rel Nam
theorem built_lat(g n:Nat)(x:Option Addr):Tryz.prog.built 155 [(0,.slice (some ⟨g,0,none⟩) n n),(1,.pointer x)]=some (latC (.slice (some ⟨g,0,none⟩) n n) (.pointer x)):=by kernel_rfl
theorem latC_size(v1 v2:Value):(latC v1 v2).size=2050:=by unfold latC;simp
theorem pr_has{ws:List Wr}{ps:List Pr}{K:Nat}:prAt ws ps K=if findS (nms ws) (pN ps K).1.1<0 then some (17,(pN ps K).1.2)else if findS (nms ws) (pN ps K).2.1<0 then some (17,(pN ps K).2.2)else none:=rfl
theorem fin_no{xs:List ByteArray}{s:ByteArray}(h:findS xs s<0):finS xs s=(0,false):=by unfold finS;rw [if_pos h]
theorem fin_yes{xs:List ByteArray}{s:ByteArray}(h:¬findS xs s<0):finS xs s=(findS xs s,true):=by unfold finS;rw [if_neg h]
theorem Flt.below1{w W W':World}{H:Nat}(h:Flt w H W)(hb:Below (H+1) W W'):Flt w H W' :=
⟨h.nb.trans (hb.mono (Nat.le_succ H)),Nat.lt_of_lt_of_le h.lt hb.size,(hb.cell (p:=⟨H,0,none⟩) (Nat.lt_succ_self H)).trans h.c0,(hb.cell (p:=⟨H,1,none⟩) (Nat.lt_succ_self H)).trans h.c1,(hb.frozen (p:=⟨H,0,none⟩) (Nat.lt_succ_self H)).trans h.f0,(hb.frozen (p:=⟨H,1,none⟩) (Nat.lt_succ_self H)).trans h.f1⟩
theorem pair_box(W:World)(s0 s1:ByteArray)(z0 z1:Int)(m:Nat):((W.alloc (.cells #[.string s0,.int .i64 z0,.string s1,.int .i64 z1] 142)).drewN m).cell? ⟨W.heap.size,0,none⟩=some (.string s0)∧((W.alloc (.cells #[.string s0,.int .i64 z0,.string s1,.int .i64 z1] 142)).drewN m).cell? ⟨W.heap.size,1,none⟩=some (.int .i64 z0) ∧
  ((W.alloc (.cells #[.string s0,.int .i64 z0,.string s1,.int .i64 z1] 142)).drewN m).cell? ⟨W.heap.size,2,none⟩=some (.string s1)∧((W.alloc (.cells #[.string s0,.int .i64 z0,.string s1,.int .i64 z1] 142)).drewN m).cell? ⟨W.heap.size,3,none⟩=some (.int .i64 z1):=by
 have b:=below_drewN (Below.refl (W.heap.size+1) (W.alloc (.cells #[.string s0,.int .i64 z0,.string s1,.int .i64 z1] 142))) m;have q1:=heap_alloc_new W (.cells #[.string s0,.int .i64 z0,.string s1,.int .i64 z1] 142);refine⟨(b.cell (p:=⟨W.heap.size,0,none⟩) (by simp)).trans ?_,(b.cell (p:=⟨W.heap.size,1,none⟩) (by simp)).trans ?_,(b.cell (p:=⟨W.heap.size,2,none⟩) (by simp)).trans ?_,(b.cell (p:=⟨W.heap.size,3,none⟩) (by simp)).trans ?_⟩
 all_goals rw [Lib.cell_of_heap q1];rfl
theorem latnumbered_calls(ws:List Wr)(ps:List Pr)(p:Nat)(vp:Value)(w:World)(hv:LevP w p (nms ws))(hp:RdPr w vp ps)(hl2:ps.length≤1000000)(R:Ending→World→Prop)
  (hR:Hid (∀v' w',firF (prAt ws ps) ps.length 0=none→RdQ w' v' (idxQ ws ps)→Below w.heap.size w w'→R (.returned (.tuple #[v',.agg #[.int .i64 0,.int .i64 0]])) w'))
  (hR2:Hid (∀f w',firF (prAt ws ps) ps.length 0=some f→Below w.heap.size w w'→R (.returned (.tuple #[.slice none 0 0,.agg #[.int .i64 f.1,.int .i64 f.2]])) w')):Calls Tryz.prog 122 #[.pointer (some ⟨p,0,none⟩),vp] w R:=by
 obtain⟨Ap,cp,rfl,hcp,hrp⟩:=hp.op;obtain⟨i0,hI,hz0,hz1,hz2⟩:=info_parts infoTwo;have T:=Flt.new w;have cF:=Lib.hid fun(W:World) (hb:Below w.heap.size w W) s R hR=>latfindx_calls (nms ws) p W (hv.below hb) s R hR
 replace hrp:=Lib.hid hrp;have z0:(w.alloc (.cells #[.int .i64 0,.int .i64 0] 26)).heap.size=w.heap.size+1:=by simp
 clear hp hv;go_enter Tryz.func122,Tryz.ntmps122
 go_upto_region 1 with fail
 generalize w.alloc (.cells #[.int .i64 0,.int .i64 0] 26)=W0 at *;have T0:=Lib.hid T;clear T;replace z0:=Lib.hid z0;go_wp2_with fail
 go_loopg [6,14] ps.length (fun g s i wr=>∃(K:Nat) (vo:Value),vo=s∧i=.int .i64 K∧K+g=ps.length∧Hid (Flt w w.heap.size wr)∧Hid (wr.ownsRow (w.heap.size+1) 258 2 vo K (flatG encQ (idxQ ws (ps.take K))))∧Hid (∀j,j<K→prAt ws ps j=none))
 case atStart=>exact⟨0,_,rfl,rfl,by omega,T0,Lib.hid (World.ownsRow_nil _ _ _ _),Lib.hid fun j h=>by omega⟩
 case round =>
  clear T0 z0;obtain⟨K,vo,rfl,rfl,c1,T,own,hs⟩:=hrel;have hlt:=T.out.lt
  by_cases hK:K<ps.length
  ·obtain⟨g,o,rfl,hg,hca⟩:=hrp.out (by omega)
   obtain⟨x0,x1,x2,x3⟩:=hca K hK;have e0:=(T.out.nb.cell (p:=⟨g,o+K*4,none⟩) hg).trans x0;have e1:=(T.out.nb.cell (p:=⟨g,o+K*4+1,none⟩) hg).trans x1;have e2:=(T.out.nb.cell (p:=⟨g,o+K*4+2,none⟩) hg).trans x2;have e3:=(T.out.nb.cell (p:=⟨g,o+K*4+3,none⟩) hg).trans x3;have hlv:=pr_has (ws:=ws) (ps:=ps) (K:=K);have hfir:∀f,prAt ws ps K=some f→firF (prAt ws ps) ps.length 0=some f:=fun f hf=>fir_is ps.length 0 K (Nat.zero_le _) (by omega) hf (fun j _ hj=>hs.out j hj)
   have hnx:prAt ws ps K=none→∀j,j<K+1→prAt ws ps j=none:=fun h j hj=>by
    rcases Nat.eq_or_lt_of_le (Nat.le_of_lt_succ hj)with e|q
    ·subst e;exact h
    ·exact hs.out j q
   have htk:=idx_take (ws:=ws) hK;have hi0:(0:Int)≤(K:Int):=by omega
   have hi1:(K:Int)<(ps.length:Int):=by omega
   have h0:=fin_no (xs:=nms ws) (s:=(pN ps K).1.1);have h1:=fin_yes (xs:=nms ws) (s:=(pN ps K).1.1);have h2:=fin_no (xs:=nms ws) (s:=(pN ps K).2.1);have h3:=fin_yes (xs:=nms ws) (s:=(pN ps K).2.1);have bA:=(Below.refl wr.heap.size wr).alloc (Nat.le_refl _) (.cells #[.string (pN ps K).1.1,.int .i64 (pN ps K).1.2,.string (pN ps K).2.1,.int .i64 (pN ps K).2.2] 142);have TA:=T.out.below bA;have zA:(wr.alloc (.cells #[.string (pN ps K).1.1,.int .i64 (pN ps K).1.2,.string (pN ps K).2.1,.int .i64 (pN ps K).2.2] 142)).heap.size=wr.heap.size+1:=by simp
   have cA:=cF.out _ TA.nb (pN ps K).1.1;have cB:=fun m=>cF.out _ (below_drewN TA.nb m) (pN ps K).2.1
   have kk:=pair_box wr (pN ps K).1.1 (pN ps K).2.1 (pN ps K).1.2 (pN ps K).2.2;have oA:=own_below own.out bA;generalize(pN ps K).1.1=s0 at *;generalize(pN ps K).1.2=z0 at *;generalize(pN ps K).2.1=s1 at *;generalize(pN ps K).2.2=z1 at *;generalize prAt ws ps K=V at *;generalize idxQ ws (ps.take K)=l0 at *;generalize hW:wr.alloc (.cells #[.string s0,.int .i64 z0,.string s1,.int .i64 z1] 142)=WA at *;generalize hHr:wr.heap.size=Hr at *;have hfar:w.heap.size<Hr:=hlt;have k00:WA.cell? ⟨Hr,0,none⟩=some (.string s0):=(kk 0).1;have HrW:∀m,(WA.drewN m).heap.size=Hr+1:=fun m=>by rw [←zA];rfl
   replace HrW:=Lib.hid HrW;replace kk:=Lib.hid kk;replace cA:=Lib.hid cA;replace cB:=Lib.hid cB;replace oA:=Lib.hid oA;replace TA:=Lib.hid TA;replace htk:=Lib.hid htk;clear hca x0 x1 x2 x3 hs own T
   by_cases f0:findS (nms ws) s0<0
   ·rw [if_pos f0]at hlv
    have fin:=Lib.hid fun w' hb=>hR2.out _ w' (hfir _ hlv) hb
    replace cA:=cA.out;rw [h0 f0]at cA;replace cA:=Lib.hid cA;clear hlv hfir hnx h0 h1 h2 h3 f0 cB htk;go_wp2_with fail
    refine cA.out _ (Lib.hid fun nq=>?_);obtain⟨k0,k1,-,-⟩:=kk.out nq;have T1:=Lib.hid (TA.out.below (below_drewN (Below.refl _ _) nq));clear kk TA oA k00 HrW hW cA;generalize WA.drewN nq=W1 at *;go_wp2_with fail
    refine faultat_calls s0 z0 17 _ _ (Lib.hid fun w3 n3=>?_);have T3:=T1.out.below n3;clear n3 T1 k0 k1 e0 e1 e2 e3;obtain⟨nf,s0',s1'⟩:=T3.told (.int .i64 17) (.int .i64 z0);have c0:=T3.c0;have c1:=T3.c1;have f0':=T3.f0;have f1':=T3.f1;replace nf:=Lib.hid nf;replace s0':=Lib.hid s0';replace s1':=Lib.hid s1';clear T3;go_wp2_with fail
    replace s0':=s0'.out;replace s1':=s1'.out;clear c0 c1 f0' f1';generalize(w3.setCell ⟨w.heap.size,0,none⟩ _).setCell ⟨w.heap.size,1,none⟩ _=Wz at *;refine bodyPost_ret ?_ rfl (fin.out _ nf.out);simp [results,Tryz.results122,go_sem,s0',s1']
   ·rw [if_neg f0]at hlv
    replace cA:=cA.out;rw [h1 f0]at cA;replace cA:=Lib.hid cA
    by_cases f1:findS (nms ws) s1<0
    ·rw [if_pos f1]at hlv
     have fin:=Lib.hid fun w' hb=>hR2.out _ w' (hfir _ hlv) hb
     replace cB:=cB.out;rw [h2 f1]at cB;replace cB:=Lib.hid cB;clear hlv hfir hnx h0 h1 h2 h3 f0 f1 htk;go_wp2_with fail
     refine cA.out _ (Lib.hid fun nq=>?_);obtain⟨-,-,k2,-⟩:=kk.out nq;have cB2:=Lib.hid (cB.out nq);have kk2:=kk.out;clear k00;go_wp2_with fail
     refine cB2.out _ (Lib.hid fun nq2=>?_);have bm:=below_drewN (Below.refl (WA.drewN nq).heap.size (WA.drewN nq)) nq2;have T1:=Lib.hid ((TA.out.below (below_drewN (Below.refl _ _) nq)).below bm);obtain⟨-,-,k2',k3'⟩:=kk2 nq;have k2:=(bm.cell (p:=⟨Hr,2,none⟩) (by rw [HrW.out];simp)).trans k2';have k3:=(bm.cell (p:=⟨Hr,3,none⟩) (by rw [HrW.out];simp)).trans k3';clear kk kk2 TA oA HrW hW cA cB cB2 bm k2' k3';generalize(WA.drewN nq).drewN nq2=W1 at *;go_wp2_with fail
     refine faultat_calls s1 z1 17 _ _ (Lib.hid fun w3 n3=>?_);have T3:=T1.out.below n3;clear n3 T1 k2 k3 e0 e1 e2 e3;obtain⟨nf,s0',s1'⟩:=T3.told (.int .i64 17) (.int .i64 z1);have c0:=T3.c0;have c1:=T3.c1;have f0':=T3.f0;have f1':=T3.f1;replace nf:=Lib.hid nf;replace s0':=Lib.hid s0';replace s1':=Lib.hid s1';clear T3;go_wp2_with fail
     replace s0':=s0'.out;replace s1':=s1'.out;clear c0 c1 f0' f1';generalize(w3.setCell ⟨w.heap.size,0,none⟩ _).setCell ⟨w.heap.size,1,none⟩ _=Wz at *;refine bodyPost_ret ?_ rfl (fin.out _ nf.out);simp [results,Tryz.results122,go_sem,s0',s1']
    ·rw [if_neg f1]at hlv
     replace cB:=cB.out;rw [h3 f1]at cB;replace cB:=Lib.hid cB;have hn2:=Lib.hid (hnx hlv);clear hlv hfir hnx h0 h1 h2 h3 f0 f1;generalize findS (nms ws) s0=a at *;generalize findS (nms ws) s1=b at *;go_wp2_with fail
     refine cA.out _ (Lib.hid fun nq=>?_);obtain⟨-,-,k2,-⟩:=kk.out nq;have cB2:=Lib.hid (cB.out nq);clear k00;go_wp2_with fail
     refine cB2.out _ (Lib.hid fun nq2=>?_);have bm0:=below_drewN (Below.refl WA.heap.size WA) nq;have bm:=below_drewN (Below.refl (WA.drewN nq).heap.size (WA.drewN nq)) nq2;have T1:=(TA.out.below bm0).below bm;have O1:=own_below (own_below oA.out bm0) bm;clear kk TA oA HrW hW cA cB cB2 bm bm0 k2;generalize(WA.drewN nq).drewN nq2=W1 at *;have hlt1:w.heap.size+1≤W1.heap.size:=T1.lt;replace T1:=Lib.hid T1;replace O1:=Lib.hid O1;go_wp2_with (at_builtin;refine appK W1 #[.int .i64 a,.int .i64 b] 2 258 rfl _ _ 190 rfl (w.heap.size+1) i0 (.agg #[.int .i64 0,.int .i64 0]) 16 Tryz.underlying190 hI hz0 hz1 hz2 rfl (by decide) rfl vo K (flatG encQ l0) rfl O1.out _ rfl (by simp) (by simp [Value.oneCell']) (by unfold maxLen;omega) (by omega) hlt1 ?_;intro v' w3 hown3 hg3 hb3)
     go_roundg (gk-1)
     case measure=>omega
     case rel =>
      refine⟨K+1,v',rfl,by go_num,by omega,Lib.hid ?_,Lib.hid ?_,hn2⟩
      ·exact T1.out.below1 hb3
      ·rw [htk.out,flatG_snoc];exact hown3
  ·obtain rfl:K=ps.length:=by omega
   have hno:firF (prAt ws ps) ps.length 0=none:=fir_no ps.length 0 (fun j _ hj=>hs.out j (by omega));rw [List.take_length]at own;have T3:=T.out;obtain⟨nf,s0',s1'⟩:=T3.told (.int .i64 0) (.int .i64 0);have c0:=T3.c0;have c1:=T3.c1;have f0':=T3.f0;have f1':=T3.f1;replace nf:=Lib.hid nf;replace s0':=Lib.hid s0';replace s1':=Lib.hid s1';clear T3;have rd:=RdG.of_own (ownsRow_setCell_below (ownsRow_setCell_below own.out (a:=⟨w.heap.size,0,none⟩) (by simp) (.int .i64 0)) (a:=⟨w.heap.size,1,none⟩) (by simp) (.int .i64 0));have fin:=Lib.hid (hR.out _ _ hno rd nf.out);replace rd:=Lib.hid rd;clear hno own hs;go_wp2_with fail
   replace s0':=s0'.out;replace s1':=s1'.out;clear c0 c1 f0' f1' rd nf;replace fin:=fin.out;generalize(wr.setCell ⟨w.heap.size,0,none⟩ _).setCell ⟨w.heap.size,1,none⟩ _=Wz at *;refine bodyPost_ret ?_ rfl fin;simp [results,Tryz.results122,go_sem,s0',s1']
theorem cnt_cases(ws:List Wr)(ps:List Pr):((cntS ws ps).1≠0∧wrongS ws ps=cntS ws ps)∨(cntS ws ps=(0,0)∧0<ws.length∧ws.length≤32∧ps.length≤256):=by
 unfold cntS
 by_cases h0:ws.length=0
 ·rw [if_pos h0];exact .inl ⟨by decide,w_none h0⟩
 rw [if_neg h0]
 by_cases h1:32<ws.length
 ·rw [if_pos h1];exact .inl ⟨by simp,w_many h1⟩
 rw [if_neg h1]
 by_cases h2:256<ps.length
 ·rw [if_pos h2];exact .inl ⟨by simp,w_pairs (by omega) (by omega) h2⟩
 ·rw [if_neg h2];exact .inr ⟨rfl,by omega,by omega,by omega⟩
theorem chk_cases(ws:List Wr):((chkS ws).1≠0∧firF (lvAt ws) ws.length 0=some (chkS ws))∨(chkS ws=(0,0)∧firF (lvAt ws) ws.length 0=none):=by
 unfold chkS;cases e:firF (lvAt ws) ws.length 0 with
 | none=>exact .inr ⟨rfl,rfl⟩
 | some f =>
  refine .inl ⟨?_,rfl⟩;obtain⟨j,-,-,hj⟩:=fir_some _ _ e;unfold lvAt at hj
  split at hj
  ·cases hj;simp
  ·split at hj
   ·cases hj;simp
   ·cases hj
theorem pr_cases{ws:List Wr}{ps:List Pr}{f:Int×Int}(e:firF (prAt ws ps) ps.length 0=some f):f.1≠0:=by
 obtain⟨j,-,-,hj⟩:=fir_some _ _ e;unfold prAt at hj
 split at hj
 ·cases hj;simp
 ·split at hj
  ·cases hj;simp
  ·cases hj
theorem idx_good(ws:List Wr)(ps:List Pr)(h:ws.length≤32):∀x∈idxQ ws ps,GoodQ x:=fun x hx=>by
 obtain⟨p,-,rfl⟩:=List.mem_map.1 hx;have l1:=find_lt (nms ws) p.1.1;have l2:=find_lt (nms ws) p.2.1;have g1:-1≤findS (nms ws) p.1.1:=by rcases find_cases (nms ws) p.1.1 with⟨q,-⟩|⟨k,-,-,-,q⟩ <;> omega
 have g2:-1≤findS (nms ws) p.2.1:=by rcases find_cases (nms ws) p.2.1 with⟨q,-⟩|⟨k,-,-,-,q⟩ <;> omega
 rw [nms_len]at l1 l2;exact⟨⟨by simp only;omega,by simp only;omega⟩,by simp only;omega,by simp only;omega⟩
theorem flt_box{w W:World}{H:Nat}(T:Flt w H W)(e z:Int):Flt w H (W.alloc (.cells #[.int .i64 e,.int .i64 z] 26))∧(W.alloc (.cells #[.int .i64 e,.int .i64 z] 26)).cell? ⟨W.heap.size,0,none⟩=some (.int .i64 e)∧(W.alloc (.cells #[.int .i64 e,.int .i64 z] 26)).cell? ⟨W.heap.size,1,none⟩=some (.int .i64 z):=by
 have q1:=heap_alloc_new W (.cells #[.int .i64 e,.int .i64 z] 26);exact⟨T.below ((Below.refl _ _).alloc (Nat.le_refl _) _),by rw [Lib.cell_of_heap q1];rfl,by rw [Lib.cell_of_heap q1];rfl⟩
theorem OwnL.two{w:World}{base B:Nat}{v1 v2:Value}{h:Nat→Int}(ow:OwnL w base B v1 v2 h):w.cell? ⟨B,0,none⟩=some v1∧w.cell? ⟨B,1,none⟩=some v2 :=
⟨(World.ownsRow.cellAt ow 0 (by omega)).trans rfl,(World.ownsRow.cellAt ow 1 (by omega)).trans rfl⟩
theorem lev_made{W:World}{base B gl b1 b2 n:Nat}{v2:Value}{nm:List ByteArray}{h:Nat→Int}(oS:OwnS W b1 gl n nm)(rt:RdTN W v2 nm b2)(oL:OwnL W base B (.slice (some ⟨gl,0,none⟩) n n) v2 h)(hn:nm.length≤32):LevP W B nm :=
⟨_,v2,oL.lt,oL.two.1,oL.two.2,RdS.of_own oS,.inr ⟨gl,0,n,n,rfl⟩,rt.rd,hn⟩
theorem mt_made{W:World}{base B q o n:Nat}{v1 v2:Value}{h:Nat→Int}{J:Nat→Nat→Int}(oL:OwnL W base B v1 v2 h)(hm:FilM q J n 0 h)(ho:o=2+q)(hq:q=0∨q=1024)(hn:n≤32):MtP W B o n J:=fun a b ha hb=>by
 have:=oL.cell (show q+(a*32+b)<2048 by omega);rw [hm a b (by omega) (by omega) (.inl ⟨ha,hb⟩)]at this;rw [show o+a*32+b=2+(q+(a*32+b))by omega];exact this
theorem lat_made{W:World}{base B gl b1 b2 n:Nat}{v2:Value}{nm:List ByteArray}{h:Nat→Int}{F:Nat→Nat→Bool}(hnm:nm.length=n)(oS:OwnS W b1 gl n nm)(rt:RdTN W v2 nm b2)(oL:OwnL W base B (.slice (some ⟨gl,0,none⟩) n n) v2 h)(hn:n≤32)
  (h1:FilM 0 (joinS n F) n 0 h) (h2:FilM 1024 (joinS n (flp F)) n 0 h) (hL:Latt n F):LatP W (.pointer (some ⟨B,0,none⟩)) nm F:=by
 subst hnm;exact⟨B,rfl,lev_made oS rt oL hn,mt_made oL h1 rfl (.inl rfl) hn,mt_made oL h2 rfl (.inr rfl) hn,hL⟩
theorem Flt.under{w W W':World}{H B:Nat}(h:Flt w H W)(hb:Below B W W')(hB:H<B):Flt w H W' :=
⟨h.nb.trans (hb.mono (Nat.le_of_lt hB)),Nat.lt_of_lt_of_le h.lt hb.size,(hb.cell (p:=⟨H,0,none⟩) hB).trans h.c0,(hb.cell (p:=⟨H,1,none⟩) hB).trans h.c1,(hb.frozen (p:=⟨H,0,none⟩) hB).trans h.f0,(hb.frozen (p:=⟨H,1,none⟩) hB).trans h.f1⟩
theorem no_bn{n:Nat}{F:Nat→Nat→Bool}(h0:0<n)(hO:Ordr n F)(h:∀b,b<n→bnB n F b=false):Latt n F:=latt_of h0 hO fun b hb a hab=>by
 have hno:¬noB n F b a=true:=fun q=>by
  have:bnB n F b=true:=List.any_eq_true.2 ⟨a,List.mem_range.2 hab,q⟩;rw [h b hb]at this;cases this
 unfold noB at hno;rw [Bool.or_eq_true,decide_eq_true_iff,decide_eq_true_iff]at hno;exact⟨Int.not_lt.1 fun q=>hno (.inl q),Int.not_lt.1 fun q=>hno (.inr q)⟩
theorem bn_none{ws:List Wr}{F:Nat→Nat→Bool}(h:∀b,b<ws.length→bnB ws.length F b=false):firF (bnAt ws F) ws.length 0=none:=fir_no ws.length 0 fun j _ hj=>by
 unfold bnAt;rw [if_neg (by rw [h j (by omega)];simp)]
theorem bn_some{ws:List Wr}{F:Nat→Nat→Bool}{a:Nat}(ha:a<ws.length)(h1:bnB ws.length F a=true)(h:∀b,b<a→bnB ws.length F b=false):firF (bnAt ws F) ws.length 0=some (12,(wN ws a).2) :=
fir_is ws.length 0 a (Nat.zero_le _) (by omega) (by unfold bnAt;rw [if_pos h1]) fun j _ hj=>by unfold bnAt;rw [if_neg (by rw [h j hj];simp)]
theorem build0_calls(ws:List Wr)(ps:List Pr)(vw vp:Value)(w:World)(hw:RdW w vw ws)(hp:RdPr w vp ps)(hgw:∀x∈ws,GoodW x)(hgp:∀x∈ps,GoodR x)(R:Ending→World→Prop)
  (hR:Hid (∀v' w',wrongS ws ps=(0,0)→LatP w' v' (nms ws) (leqF ws ps)→Below w.heap.size w w'→R (.returned (.tuple #[v',.agg #[.int .i64 0,.int .i64 0]])) w'))
  (hR2:Hid (∀w',(wrongS ws ps).1≠0→Below w.heap.size w w'→R (.returned (.tuple #[.pointer none,.agg #[.int .i64 (wrongS ws ps).1,.int .i64 (wrongS ws ps).2]])) w')):Calls Tryz.prog 59 #[vw,vp] w R:=by
 have T:=Flt.new w;have cC:=Lib.hid fun(W:World) (hb:Below w.heap.size w W) R hR=>latcounts_calls ws ps vw vp W (hw.below hb) (hp.below hb) R hR
 have cN:=Lib.hid fun(W:World) (hb:Below w.heap.size w W) (h:ws.length≤32) R hR=>latnamesof_calls ws vw W (hw.below hb) (by omega) R hR
 have cK:=Lib.hid fun(W:World) (hb:Below w.heap.size w W) (h:ws.length≤32) vl hx R hR=>latchecknames_calls ws vw vl W (hw.below hb) hx hgw (by omega) R hR
 have cM:=Lib.hid fun(W:World) (hb:Below w.heap.size w W) (h:ps.length≤256) p hv R hR hR2=>latnumbered_calls ws ps p vp W hv (hp.below hb) (by omega) R hR hR2
 obtain⟨Aw,cw,rfl,hcw,hrw⟩:=hw.op;obtain⟨Ap,cp,rfl,-,-⟩:=hp.op;replace hrw:=Lib.hid hrw;clear hw hp hgw hgp;go_enter Tryz.func59,Tryz.ntmps59
 go_upto_region 1 with fail
 generalize w.alloc (.cells #[.int .i64 0,.int .i64 0] 26)=W0 at *;replace T:=Lib.hid T;go_wp2_with fail
 refine cC.out W0 T.out.nb _ (Lib.hid fun w1 n1=>?_);replace T:=Lib.hid (T.out.below n1);clear n1 cC;rcases cnt_cases ws ps with⟨he,eW⟩|⟨eC,g0,g32,g256⟩
 ·have fin:=fun w'=>hR2.out w' (by rw [eW];exact he)
  rw [eW]at fin;clear eW cN cK cM;generalize cntS ws ps=V at *;obtain⟨e,z⟩:=V;simp only at fin he ⊢;have q0:(e != 0)=true:=by simpa using he
  obtain⟨T2,c0,c1⟩:=flt_box T.out e z;replace T2:=Lib.hid T2;replace fin:=Lib.hid fin;replace c0:=Lib.hid c0;replace c1:=Lib.hid c1;clear he T hR hR2;go_wp2_with fail
  replace c0:=c0.out;replace c1:=c1.out;generalize w1.alloc (.cells #[.int .i64 e,.int .i64 z] 26)=W2 at *;generalize w1.heap.size=H2 at *;go_still_tail 2,(by kernel_rfl)
  repeat still_step
  change wpList _ _ _ _ _ W2.drew
  have T3:=T2.out.below (Below.refl _ _).drew;clear c0 c1 T2 q0;generalize W2.drew=W3 at *;obtain⟨nf,s0',s1'⟩:=T3.told (.int .i64 e) (.int .i64 z);have c0:=T3.c0;have c1:=T3.c1;have f0':=T3.f0;have f1':=T3.f1;replace nf:=Lib.hid nf;replace s0':=Lib.hid s0';replace s1':=Lib.hid s1';clear T3;go_wp2_with fail
  replace s0':=s0'.out;replace s1':=s1'.out;clear c0 c1 f0' f1';generalize(W3.setCell ⟨w.heap.size,0,none⟩ _).setCell ⟨w.heap.size,1,none⟩ _=Wz at *;refine bodyPost_ret ?_ rfl (fin.out _ nf.out);simp [results,Tryz.results59,go_sem,s0',s1']
 ·rw [eC]
  obtain⟨T2,-,-⟩:=flt_box T.out 0 0;have hfl:w.heap.size<w1.heap.size:=T.out.lt;replace T2:=Lib.hid T2;clear T eC;simp only;go_wp2_with fail
  generalize hW2:w1.alloc (.cells #[.int .i64 0,.int .i64 0] 26)=W2 at *;have hHl:w.heap.size<W2.heap.size:=T2.out.lt;replace hW2:=Lib.hid hW2;replace hfl:=Lib.hid hfl;refine cN.out W2 T2.out.nb g32 _ (Lib.hid fun w3 oS n3=>?_);replace T:=Lib.hid (T2.out.below n3);generalize hgl:W2.heap.size=gl at *;replace hgl:=Lib.hid hgl;replace oS:=Lib.hid oS;clear n3 T2 cN;go_wp2_with fail
  refine cK.out w3 T.out.nb g32 _ (RdS.of_own oS.out) _ (Lib.hid fun w4 n4=>?_);replace T:=Lib.hid (T.out.below n4);replace oS:=Lib.hid (own_below oS.out n4);clear n4 cK;rcases chk_cases ws with⟨he,eF⟩|⟨eK,eF⟩
  ·have eW:=w_lv g0 g32 g256 eF
   have fin:=fun w'=>hR2.out w' (by rw [eW];exact he)
   rw [eW]at fin;clear eW cM eF oS;generalize chkS ws=V at *;obtain⟨e,z⟩:=V;simp only at fin he ⊢;have q0:(e != 0)=true:=by simpa using he
   obtain⟨T2,c0,c1⟩:=flt_box T.out e z;replace T2:=Lib.hid T2;replace fin:=Lib.hid fin;replace c0:=Lib.hid c0;replace c1:=Lib.hid c1;clear he T hR hR2;go_wp2_with fail
   replace c0:=c0.out;replace c1:=c1.out;generalize w4.alloc (.cells #[.int .i64 e,.int .i64 z] 26)=W2 at *;generalize w4.heap.size=H2 at *;go_still_tail 2,(by kernel_rfl)
   repeat still_step
   change wpList _ _ _ _ _ W2.drew
   have T3:=T2.out.below (Below.refl _ _).drew;clear c0 c1 T2 q0;generalize W2.drew=W3 at *;obtain⟨nf,s0',s1'⟩:=T3.told (.int .i64 e) (.int .i64 z);have c0:=T3.c0;have c1:=T3.c1;have f0':=T3.f0;have f1':=T3.f1;replace nf:=Lib.hid nf;replace s0':=Lib.hid s0';replace s1':=Lib.hid s1';clear T3;go_wp2_with fail
   replace s0':=s0'.out;replace s1':=s1'.out;clear c0 c1 f0' f1';generalize(W3.setCell ⟨w.heap.size,0,none⟩ _).setCell ⟨w.heap.size,1,none⟩ _=Wz at *;refine bodyPost_ret ?_ rfl (fin.out _ nf.out);simp [results,Tryz.results59,go_sem,s0',s1']
  ·rw [eK]
   obtain⟨T2,-,-⟩:=flt_box T.out 0 0;have b4:=(Below.refl w4.heap.size w4).alloc (Nat.le_refl _) (.cells #[.int .i64 0,.int .i64 0] 26);have oS5:=own_below oS.out b4;have hgl4:w.heap.size<(w4.alloc (.cells #[.int .i64 0,.int .i64 0] 26)).heap.size:=T2.lt;replace T2:=Lib.hid T2;replace oS5:=Lib.hid oS5;clear T eK b4 oS;simp only;go_wp2_with fail
   generalize hW5:w4.alloc (.cells #[.int .i64 0,.int .i64 0] 26)=W5 at *;replace hW5:=Lib.hid hW5;refine newx_calls (nms ws) _ W5 (by rw [nms_len];omega) (RdS.of_own oS5.out) _ (Lib.hid fun vt w6 rt n6=>?_)
   replace T:=Lib.hid (T2.out.below n6);replace oS:=Lib.hid (own_below oS5.out n6)
   obtain⟨pt,hpt⟩:∃pt,vt=.pointer (some ⟨pt,0,none⟩):=by
    obtain⟨pt,-,-,e,-⟩:=rt;exact⟨pt,e⟩
   subst hpt;obtain⟨C,hC⟩:∃C,C=latC (.slice (some ⟨gl,0,none⟩) ws.length ws.length) (.pointer (some ⟨pt,0,none⟩)):=⟨_,rfl⟩;have hB:∀l,l=[(0,Value.slice (some ⟨gl,0,none⟩) ws.length ws.length),(1,.pointer (some ⟨pt,0,none⟩))]→Tryz.prog.built 155 l=some C:=fun l h=>by rw [h,hC];exact built_lat _ _ _
   have hCs:C.size=2050:=by rw [hC];exact latC_size _ _
   have hCv:C.toList=latV (.slice (some ⟨gl,0,none⟩) ws.length ws.length) (.pointer (some ⟨pt,0,none⟩)) (fun _=>0):=by rw [hC];exact latC_zero _ _
   have oL:=own_made (n:=2050) (w:=w6) (t:=155) hCv (latV_len _ _ _) (by unfold maxLen;omega)
   have hHB:w.heap.size<w6.heap.size:=T.out.lt;have b6:=(Below.refl w6.heap.size w6).alloc (Nat.le_refl _) (.cells C 155);have T7:=Lib.hid (T.out.below b6);have lv7:=Lib.hid (lev_made (own_below oS.out b6) (rt.below b6) oL (by rw [nms_len];exact g32))
   replace hB:=Lib.hid hB;replace oL:=Lib.hid oL;replace b6:=Lib.hid b6;replace rt:=Lib.hid rt;clear n6 T2 oS5 hC hCv T;go_wp2_with (refine wpList_buildTo rfl 155 _ rfl (some 37) rfl C (hB.out _ (by simp [go_sem])) ?_)
   generalize w6.alloc (.cells C 155)=W7 at *;generalize hBB:w6.heap.size=B at *;have hBH:Hid (w6.heap.size=B):=Lib.hid hBB;clear hBB hB hCs;refine cM.out W7 T7.out.nb g256 B lv7.out _ (Lib.hid fun vq w8 hno rq n8=>?_) (Lib.hid fun f w8 hf n8=>?_)
   ·have hq:=idx_right g32 hno
    have hin:=toN_in hq;obtain⟨T9,-,-⟩:=flt_box (T7.out.below n8) 0 0;have b9:=(Below.refl w8.heap.size w8).alloc (Nat.le_refl _) (.cells #[.int .i64 0,.int .i64 0] 26);have rq9:=rq.below b9;have oL9:=own_below (own_below oL.out n8) b9;have nB8:=b6.out.trans (n8.mono (Nat.le_trans (Nat.le_of_eq hBH.out.symm) b6.out.size));have nB9:=nB8.trans (b9.mono (Nat.le_trans (Nat.le_of_eq hBH.out.symm) nB8.size));obtain⟨Aq,cq,rfl,-,-⟩:=rq.op;replace T9:=Lib.hid T9;replace oL9:=Lib.hid oL9;replace nB9:=Lib.hid nB9;replace rq9:=Lib.hid rq9;have eI:=idx_len ws ps;replace eI:=Lib.hid eI;clear n8 b9 rq nB8 T7 lv7 b6 oL cM;go_wp2_with fail
    generalize w8.alloc (.cells #[.int .i64 0,.int .i64 0] 26)=W9 at *;refine relnew_calls ws.length ⟨by omega,by omega⟩ (idxQ ws ps) _ W9 rq9.out (idx_good ws ps g32) (by rw [eI.out];unfold maxLen;omega) _ (Lib.hid fun vr w10 hr2 rr n10=>?_) (Lib.hid fun w10 hr2 n10=>absurd hq hr2)
    rw [Int.toNat_natCast]at rr;obtain⟨pr,rfl⟩:=rr.ptr;have T10:=Lib.hid (T9.out.below n10);have oL10:=Lib.hid (own_below oL9.out n10);have nB10:=Lib.hid (nB9.out.trans (n10.mono (Nat.le_trans (Nat.le_of_eq hBH.out.symm) nB9.out.size)));replace rr:=Lib.hid rr;clear T9 oL9 nB9 rq9 n10 hr2;go_wp2_with fail
    refine relloopx_calls ws.length (toN (idxQ ws ps)) hin (by omega) _ w10 rr.out _ (Lib.hid fun m w11 hm n11=>?_) (Lib.hid fun w11 hm n11=>?_)
    ·have hml:m<ws.length:=by
      rcases loop_or (n:=ws.length) (f:=ld ws.length (toN (idxQ ws ps)))with q|⟨k,hk,q⟩
      ·omega
      ·omega
     have eW:wrongS ws ps=(11,(wN ws m).2):=w_loop g0 g32 g256 eF hno hm;have fin:=fun w'=>hR2.out w' (by rw [eW];simp)
     rw [eW]at fin;have T11:=Lib.hid (T10.out.below n11);replace fin:=Lib.hid fin;clear eW eF hno hm n11 T10 oL10 nB10 rr hR hR2 oS rt hq hin;simp only;obtain⟨g,o,rfl,hg,hca⟩:=hrw.out g0;obtain⟨x0,x1⟩:=hca m hml;have e0:=(T11.out.nb.cell (p:=⟨g,o+m*2,none⟩) hg).trans x0;have e1:=(T11.out.nb.cell (p:=⟨g,o+m*2+1,none⟩) hg).trans x1;have hi0:(0:Int)≤(m:Int):=by omega
     have hi1:(m:Int)<(ws.length:Int):=by omega
     clear hca x0 x1 hrw;generalize(wN ws m).1=s at *;generalize(wN ws m).2=z at *;go_wp2_with fail
     refine faultat_calls s z 11 _ _ (Lib.hid fun w14 n14=>?_);have T3:=T11.out.below n14;clear n14 T11 e0 e1;obtain⟨nf,s0',s1'⟩:=T3.told (.int .i64 11) (.int .i64 z);have c0:=T3.c0;have c1:=T3.c1;have f0':=T3.f0;have f1':=T3.f1;replace nf:=Lib.hid nf;replace s0':=Lib.hid s0';replace s1':=Lib.hid s1';clear T3;go_wp2_with fail
     replace s0':=s0'.out;replace s1':=s1'.out;clear c0 c1 f0' f1';generalize(w14.setCell ⟨w.heap.size,0,none⟩ _).setCell ⟨w.heap.size,1,none⟩ _=Wz at *;refine bodyPost_ret ?_ rfl (fin.out _ nf.out);simp [results,Tryz.results59,go_sem,s0',s1']
    ·have rr11:=rr.out.below n11
     have T11:=Lib.hid (T10.out.below n11);have oL11:=Lib.hid (own_below oL10.out n11);have nB11:=Lib.hid (nB10.out.trans (n11.mono (Nat.le_trans (Nat.le_of_eq hBH.out.symm) nB10.out.size)));replace rr11:=Lib.hid rr11;have hO:Ordr ws.length (leqF ws ps):=ordr_ld hin hm;have hml:loopS ws.length (leqF ws ps)=-1:=hm;replace hml:=Lib.hid hml;replace hO:=Lib.hid hO;clear n11 T10 oL10 nB10 rr hm;go_wp2_with fail
     refine relclose_calls ws.length (toN (idxQ ws ps)) hin (by omega) _ w11 rr11.out _ (Lib.hid fun vc w12 rc n12=>?_);obtain⟨pc,rfl⟩:=rc.ptr;have T12:=Lib.hid (T11.out.below n12);have oL12:=Lib.hid (own_below oL11.out n12);have nB12:=Lib.hid (nB11.out.trans (n12.mono (Nat.le_trans (Nat.le_of_eq hBH.out.symm) nB11.out.size)));replace rc:=Lib.hid rc;clear n12 T11 oL11 nB11 rr11;go_wp2_with fail
     refine latfill_calls ws.length (cloL ws.length (toN (idxQ ws ps))) (clo_in _ _) g0 g32 (leqF ws ps) (fun a b ha hb=>hasQ_clo ha hb) hO.out B B _ _ _ w12 rc.out oL12.out _ (Lib.hid fun w13 h o13 m1 m2 hb n13=>?_) (Lib.hid fun a w13 ha h1 h2 n13=>?_)
     ·have T3:=T12.out.under n13 hHB
      have nB13:Below w6.heap.size w6 w13:=by rw [hBH.out];exact nB12.out.trans n13
      have oS13:=own_below oS.out nB13;have rt13:=rt.out.below nB13;have eW:wrongS ws ps=(0,0):=w_ok g0 g32 g256 eF hno hml.out (bn_none hb);have hL:=no_bn g0 hO.out hb
      have lat:=lat_made (nms_len ws) (ownsRow_setCell_below (ownsRow_setCell_below oS13 (a:=⟨w.heap.size,0,none⟩) hHl (.int .i64 0)) (a:=⟨w.heap.size,1,none⟩) hHl (.int .i64 0)) ((rt13.set hgl4 0 (.int .i64 0)).set hgl4 1 (.int .i64 0))
       (ownsRow_setCell_below (ownsRow_setCell_below o13 (a:=⟨w.heap.size,0,none⟩) hHB (.int .i64 0)) (a:=⟨w.heap.size,1,none⟩) hHB (.int .i64 0)) g32 m1 m2 hL
      have fin:=Lib.hid (hR.out _ _ eW lat);replace T3:=Lib.hid T3;clear eW hL lat oS13 rt13 nB13 o13 m1 m2 hb n13 T12 oL12 nB12 rc oS rt hR hR2 eF hno;replace T3:=T3.out;obtain⟨nf,s0',s1'⟩:=T3.told (.int .i64 0) (.int .i64 0);have c0:=T3.c0;have c1:=T3.c1;have f0':=T3.f0;have f1':=T3.f1;replace nf:=Lib.hid nf;replace s0':=Lib.hid s0';replace s1':=Lib.hid s1';clear T3;go_wp2_with fail
      replace s0':=s0'.out;replace s1':=s1'.out;clear c0 c1 f0' f1';generalize(w13.setCell ⟨w.heap.size,0,none⟩ _).setCell ⟨w.heap.size,1,none⟩ _=Wz at *;refine bodyPost_ret ?_ rfl (fin.out nf.out);simp [results,Tryz.results59,go_sem,s0',s1']
     ·have eW:wrongS ws ps=(12,(wN ws a).2):=w_bn g0 g32 g256 eF hno hml.out (bn_some ha h1 h2)
      have fin:=fun w'=>hR2.out w' (by rw [eW];simp)
      rw [eW]at fin;have T13:=Lib.hid (T12.out.under n13 hHB);replace fin:=Lib.hid fin;clear eW eF hno h1 h2 n13 T12 oL12 nB12 rc oS rt hR hR2 hq hin;simp only;obtain⟨g,o,rfl,hg,hca⟩:=hrw.out g0;obtain⟨x0,x1⟩:=hca a ha;have e0:=(T13.out.nb.cell (p:=⟨g,o+a*2,none⟩) hg).trans x0;have e1:=(T13.out.nb.cell (p:=⟨g,o+a*2+1,none⟩) hg).trans x1;have hi0:(0:Int)≤(a:Int):=by omega
      have hi1:(a:Int)<(ws.length:Int):=by omega
      clear hca x0 x1 hrw;generalize(wN ws a).1=s at *;generalize(wN ws a).2=z at *;go_wp2_with fail
      refine faultat_calls s z 12 _ _ (Lib.hid fun w14 n14=>?_);have T3:=T13.out.below n14;clear n14 T13 e0 e1;obtain⟨nf,s0',s1'⟩:=T3.told (.int .i64 12) (.int .i64 z);have c0:=T3.c0;have c1:=T3.c1;have f0':=T3.f0;have f1':=T3.f1;replace nf:=Lib.hid nf;replace s0':=Lib.hid s0';replace s1':=Lib.hid s1';clear T3;go_wp2_with fail
      replace s0':=s0'.out;replace s1':=s1'.out;clear c0 c1 f0' f1';generalize(w14.setCell ⟨w.heap.size,0,none⟩ _).setCell ⟨w.heap.size,1,none⟩ _=Wz at *;refine bodyPost_ret ?_ rfl (fin.out _ nf.out);simp [results,Tryz.results59,go_sem,s0',s1']
   ·have eW:=w_pr g0 g32 g256 eF hf
    have he:=pr_cases hf;have fin:=fun w'=>hR2.out w' (by rw [eW];exact he)
    rw [eW]at fin;have T:=Lib.hid (T7.out.below n8);clear eW cM eF hf n8 T7 lv7 b6 oL oS rt;obtain⟨e,z⟩:=f;simp only at fin he ⊢;have q0:(e != 0)=true:=by simpa using he
    obtain⟨T2,c0,c1⟩:=flt_box T.out e z;replace T2:=Lib.hid T2;replace fin:=Lib.hid fin;replace c0:=Lib.hid c0;replace c1:=Lib.hid c1;clear he T hR hR2;go_wp2_with fail
    replace c0:=c0.out;replace c1:=c1.out;generalize w8.alloc (.cells #[.int .i64 e,.int .i64 z] 26)=W2 at *;generalize w8.heap.size=H2 at *;go_still_tail 2,(by kernel_rfl)
    repeat still_step
    change wpList _ _ _ _ _ W2.drew
    have T3:=T2.out.below (Below.refl _ _).drew;clear c0 c1 T2 q0;generalize W2.drew=W3 at *;obtain⟨nf,s0',s1'⟩:=T3.told (.int .i64 e) (.int .i64 z);have c0:=T3.c0;have c1:=T3.c1;have f0':=T3.f0;have f1':=T3.f1;replace nf:=Lib.hid nf;replace s0':=Lib.hid s0';replace s1':=Lib.hid s1';clear T3;go_wp2_with fail
    replace s0':=s0'.out;replace s1':=s1'.out;clear c0 c1 f0' f1';generalize(W3.setCell ⟨w.heap.size,0,none⟩ _).setCell ⟨w.heap.size,1,none⟩ _=Wz at *;refine bodyPost_ret ?_ rfl (fin.out _ nf.out);simp [results,Tryz.results59,go_sem,s0',s1']
theorem build_calls(ws:List Wr)(ps:List Pr)(vw vp:Value)(w:World)(hw:RdW w vw ws)(hp:RdPr w vp ps)(hgw:∀x∈ws,GoodW x)(hgp:∀x∈ps,GoodR x)(hl:ws.length≤maxLen)(hl2:ps.length≤maxLen)(R:Ending→World→Prop)
 (hR:Hid (∀v' w',wrongS ws ps=(0,0)→LatP w' v' (nms ws) (leqF ws ps)→Below w.heap.size w w'→R (.returned (.tuple #[v',.agg #[.int .i64 0,.int .i64 0]])) w'))
 (hR2:Hid (∀w',(wrongS ws ps).1≠0→Below w.heap.size w w'→R (.returned (.tuple #[.pointer none,.agg #[.int .i64 (wrongS ws ps).1,.int .i64 (wrongS ws ps).2]])) w')):Calls Tryz.prog 59 #[vw,vp] w R :=
build0_calls ws ps vw vp w hw hp hgw hgp R hR hR2
section
variable (nm:List ByteArray) (F:Nat→Nat→Bool) (v:Value) (w:World) (h:LatP w v nm F) (R:Ending→World→Prop)
include h
theorem latfind_calls(s:ByteArray)(hs:s.size≤maxLen)(hR:Hid (∀w',Below w.heap.size w w'→R (.returned (.tuple #[.int .i64 (if findS nm s<0 then 0 else findS nm s),.bool (decide (0≤findS nm s))])) w')):Calls Tryz.prog 101 #[v,.string s] w R:=by
 obtain⟨p,rfl,hv,-⟩:=h;refine latfindx_calls nm p w hv s R (Lib.hid fun nq=>?_);have:=hR.out _ (below_drewN (Below.refl _ _) nq)
 by_cases q:findS nm s<0
 ·rw [if_pos q,decide_eq_false (by omega)]at this
  rw [fin_no q];exact this
 ·rw [if_neg q,decide_eq_true (by omega)]at this
  rw [fin_yes q];exact this
end
end Go.Proofs.YtabhkakomececaaGreat.Lat
