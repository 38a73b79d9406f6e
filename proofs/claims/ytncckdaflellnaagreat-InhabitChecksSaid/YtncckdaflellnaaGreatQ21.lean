import Derived.Test.YtncckdaflellnaaGreatQ20
import Derived.Test.YtncckdaflellnaaGreatQ9
import Derived.StillTailTactics
set_option linter.all false
set_option maxRecDepth 100000
set_option maxHeartbeats 4000000
namespace Go.Proofs.YtncckdaflellnaaGreat.Lat
open Go.RowKit Go.Lib Rel Nam
theorem built_lat(g n:Nat)(x:Option Addr):Tryz.prog.built 149 [(0,.slice (some ⟨g,0,none⟩) n n),(1,.pointer x)]=some (latC (.slice (some ⟨g,0,none⟩) n n) (.pointer x)):=by kernel_rfl
theorem latC_size(v1 v2:Value):(latC v1 v2).size=2050:=by unfold latC;simp
theorem pr_has{ws:List Wr}{ps:List Pr}{K:Nat}:prAt ws ps K=if findS (nms ws) (pN ps K).1.1<0 then some (17,(pN ps K).1.2)else if findS (nms ws) (pN ps K).2.1<0 then some (17,(pN ps K).2.2)else none:=rfl
theorem fin_no{xs:List ByteArray}{s:ByteArray}(h:findS xs s<0):finS xs s=(0,false):=by unfold finS;rw [if_pos h]
theorem fin_yes{xs:List ByteArray}{s:ByteArray}(h:¬findS xs s<0):finS xs s=(findS xs s,true):=by unfold finS;rw [if_neg h]
theorem Flt.below1{w W W':World}{H:Nat}(h:Flt w H W)(hb:Below (H+1) W W'):Flt w H W' :=
⟨h.nb.trans (hb.mono (Nat.le_succ H)),Nat.lt_of_lt_of_le h.lt hb.size,(hb.cell (p:=⟨H,0,none⟩) (Nat.lt_succ_self H)).trans h.c0,(hb.cell (p:=⟨H,1,none⟩) (Nat.lt_succ_self H)).trans h.c1,(hb.frozen (p:=⟨H,0,none⟩) (Nat.lt_succ_self H)).trans h.f0,(hb.frozen (p:=⟨H,1,none⟩) (Nat.lt_succ_self H)).trans h.f1⟩
theorem pair_box(W:World)(s0 s1:ByteArray)(z0 z1:Int)(m:Nat):((W.alloc (.cells #[.string s0,.int .i64 z0,.string s1,.int .i64 z1] 156)).drewN m).cell? ⟨W.heap.size,0,none⟩=some (.string s0)∧((W.alloc (.cells #[.string s0,.int .i64 z0,.string s1,.int .i64 z1] 156)).drewN m).cell? ⟨W.heap.size,1,none⟩=some (.int .i64 z0) ∧
  ((W.alloc (.cells #[.string s0,.int .i64 z0,.string s1,.int .i64 z1] 156)).drewN m).cell? ⟨W.heap.size,2,none⟩=some (.string s1)∧((W.alloc (.cells #[.string s0,.int .i64 z0,.string s1,.int .i64 z1] 156)).drewN m).cell? ⟨W.heap.size,3,none⟩=some (.int .i64 z1):=by
 have b:=below_drewN (Below.refl (W.heap.size+1) (W.alloc (.cells #[.string s0,.int .i64 z0,.string s1,.int .i64 z1] 156))) m;have q1:=heap_alloc_new W (.cells #[.string s0,.int .i64 z0,.string s1,.int .i64 z1] 156);refine⟨(b.cell (p:=⟨W.heap.size,0,none⟩) (by simp)).trans ?_,(b.cell (p:=⟨W.heap.size,1,none⟩) (by simp)).trans ?_,(b.cell (p:=⟨W.heap.size,2,none⟩) (by simp)).trans ?_,(b.cell (p:=⟨W.heap.size,3,none⟩) (by simp)).trans ?_⟩
 all_goals rw [Lib.cell_of_heap q1];rfl
theorem latnumbered_calls(ws:List Wr)(ps:List Pr)(p:Nat)(vp:Value)(w:World)(hv:LevP w p (nms ws))(hp:RdPr w vp ps)(hl2:ps.length≤1000000)(R:Ending→World→Prop)
  (hR:Hid (∀v' w',firF (prAt ws ps) ps.length 0=none→RdQ w' v' (idxQ ws ps)→Below w.heap.size w w'→R (.returned (.tuple #[v',.agg #[.int .i64 0,.int .i64 0]])) w'))
  (hR2:Hid (∀f w',firF (prAt ws ps) ps.length 0=some f→Below w.heap.size w w'→R (.returned (.tuple #[.slice none 0 0,.agg #[.int .i64 f.1,.int .i64 f.2]])) w')):Calls Tryz.prog 99 #[.pointer (some ⟨p,0,none⟩),vp] w R:=by
 obtain⟨Ap,cp,rfl,hcp,hrp⟩:=hp.op;obtain⟨i0,hI,hz0,hz1,hz2⟩:=info_parts infoTwo;have T:=Flt.new w;have cF:=Lib.hid fun(W:World) (hb:Below w.heap.size w W) s R hR=>latfindx_calls (nms ws) p W (hv.below hb) s R hR
 replace hrp:=Lib.hid hrp;have z0:(w.alloc (.cells #[.int .i64 0,.int .i64 0] 34)).heap.size=w.heap.size+1:=by simp
 clear hp hv;go_enter Tryz.func99,Tryz.ntmps99
 go_upto_region 1 with fail
 generalize w.alloc (.cells #[.int .i64 0,.int .i64 0] 34)=W0 at *;have T0:=Lib.hid T;clear T;replace z0:=Lib.hid z0;go_wp2_with fail
 go_loopg [6,14] ps.length (fun g s i wr=>∃(K:Nat) (vo:Value),vo=s∧i=.int .i64 K∧K+g=ps.length∧Hid (Flt w w.heap.size wr)∧Hid (wr.ownsRow (w.heap.size+1) 202 2 vo K (flatG encQ (idxQ ws (ps.take K))))∧Hid (∀j,j<K→prAt ws ps j=none))
 case atStart=>exact⟨0,_,rfl,rfl,by omega,T0,Lib.hid (World.ownsRow_nil _ _ _ _),Lib.hid fun j h=>by omega⟩
 case round =>
  clear T0 z0;obtain⟨K,vo,rfl,rfl,c1,T,own,hs⟩:=hrel;have hlt:=T.out.lt
  by_cases hK:K<ps.length
  ·obtain⟨g,o,rfl,hg,hca⟩:=hrp.out (by omega)
   obtain⟨x0,x1,x2,x3⟩:=hca K hK;have e0:=(T.out.nb.cell (p:=⟨g,o+K*4,none⟩) hg).trans x0;have e1:=(T.out.nb.cell (p:=⟨g,o+K*4+1,none⟩) hg).trans x1;have e2:=(T.out.nb.cell (p:=⟨g,o+K*4+2,none⟩) hg).trans x2;have e3:=(T.out.nb.cell (p:=⟨g,o+K*4+3,none⟩) hg).trans x3;have hlv:=pr_has (ws:=ws) (ps:=ps) (K:=K);have hfir:∀f,prAt ws ps K=some f→firF (prAt ws ps) ps.length 0=some f:=fun f hf=>fir_is ps.length 0 K (Nat.zero_le _) (by omega) hf (fun j _ hj=>hs.out j hj)
   have hnx:prAt ws ps K=none→∀j,j<K+1→prAt ws ps j=none:=fun h j hj=>by
    rcases Nat.eq_or_lt_of_le (Nat.le_of_lt_succ hj)with e|q
    ·subst e;exact h
    ·exact hs.out j q
   have htk:=idx_take (ws:=ws) hK;have hi0:(0:Int)≤(K:Int):=by omega
   have hi1:(K:Int)<(ps.length:Int):=by omega
   have h0:=fin_no (xs:=nms ws) (s:=(pN ps K).1.1);have h1:=fin_yes (xs:=nms ws) (s:=(pN ps K).1.1);have h2:=fin_no (xs:=nms ws) (s:=(pN ps K).2.1);have h3:=fin_yes (xs:=nms ws) (s:=(pN ps K).2.1);have bA:=(Below.refl wr.heap.size wr).alloc (Nat.le_refl _) (.cells #[.string (pN ps K).1.1,.int .i64 (pN ps K).1.2,.string (pN ps K).2.1,.int .i64 (pN ps K).2.2] 156);have TA:=T.out.below bA;have zA:(wr.alloc (.cells #[.string (pN ps K).1.1,.int .i64 (pN ps K).1.2,.string (pN ps K).2.1,.int .i64 (pN ps K).2.2] 156)).heap.size=wr.heap.size+1:=by simp
   have cA:=cF.out _ TA.nb (pN ps K).1.1;have cB:=fun m=>cF.out _ (below_drewN TA.nb m) (pN ps K).2.1
   have kk:=pair_box wr (pN ps K).1.1 (pN ps K).2.1 (pN ps K).1.2 (pN ps K).2.2;have oA:=own_below own.out bA;generalize(pN ps K).1.1=s0 at *;generalize(pN ps K).1.2=z0 at *;generalize(pN ps K).2.1=s1 at *;generalize(pN ps K).2.2=z1 at *;generalize prAt ws ps K=V at *;generalize idxQ ws (ps.take K)=l0 at *;generalize hW:wr.alloc (.cells #[.string s0,.int .i64 z0,.string s1,.int .i64 z1] 156)=WA at *;generalize hHr:wr.heap.size=Hr at *;have hfar:w.heap.size<Hr:=hlt;have k00:WA.cell? ⟨Hr,0,none⟩=some (.string s0):=(kk 0).1;have HrW:∀m,(WA.drewN m).heap.size=Hr+1:=fun m=>by rw [←zA];rfl
   replace HrW:=Lib.hid HrW;replace kk:=Lib.hid kk;replace cA:=Lib.hid cA;replace cB:=Lib.hid cB;replace oA:=Lib.hid oA;replace TA:=Lib.hid TA;replace htk:=Lib.hid htk;clear hca x0 x1 x2 x3 hs own T
   by_cases f0:findS (nms ws) s0<0
   ·rw [if_pos f0]at hlv
    have fin:=Lib.hid fun w' hb=>hR2.out _ w' (hfir _ hlv) hb
    replace cA:=cA.out;rw [h0 f0]at cA;replace cA:=Lib.hid cA;clear hlv hfir hnx h0 h1 h2 h3 f0 cB htk;go_wp2_with fail
    refine cA.out _ (Lib.hid fun nq=>?_);obtain⟨k0,k1,-,-⟩:=kk.out nq;have T1:=Lib.hid (TA.out.below (below_drewN (Below.refl _ _) nq));clear kk TA oA k00 HrW hW cA;generalize WA.drewN nq=W1 at *;go_wp2_with fail
    refine faultat_calls s0 z0 17 _ _ (Lib.hid fun w3 n3=>?_);have T3:=T1.out.below n3;clear n3 T1 k0 k1 e0 e1 e2 e3;obtain⟨nf,s0',s1'⟩:=T3.told (.int .i64 17) (.int .i64 z0);have c0:=T3.c0;have c1:=T3.c1;have f0':=T3.f0;have f1':=T3.f1;replace nf:=Lib.hid nf;replace s0':=Lib.hid s0';replace s1':=Lib.hid s1';clear T3;go_wp2_with fail
    replace s0':=s0'.out;replace s1':=s1'.out;clear c0 c1 f0' f1';generalize(w3.setCell ⟨w.heap.size,0,none⟩ _).setCell ⟨w.heap.size,1,none⟩ _=Wz at *;refine bodyPost_ret ?_ rfl (fin.out _ nf.out);simp [results,Tryz.results99,go_sem,s0',s1']
   ·rw [if_neg f0]at hlv
    replace cA:=cA.out;rw [h1 f0]at cA;replace cA:=Lib.hid cA
    by_cases f1:findS (nms ws) s1<0
    ·rw [if_pos f1]at hlv
     have fin:=Lib.hid fun w' hb=>hR2.out _ w' (hfir _ hlv) hb
     replace cB:=cB.out;rw [h2 f1]at cB;replace cB:=Lib.hid cB;clear hlv hfir hnx h0 h1 h2 h3 f0 f1 htk;go_wp2_with fail
     refine cA.out _ (Lib.hid fun nq=>?_);obtain⟨-,-,k2,-⟩:=kk.out nq;have cB2:=Lib.hid (cB.out nq);have kk2:=kk.out;clear k00;go_wp2_with fail
     refine cB2.out _ (Lib.hid fun nq2=>?_);have bm:=below_drewN (Below.refl (WA.drewN nq).heap.size (WA.drewN nq)) nq2;have T1:=Lib.hid ((TA.out.below (below_drewN (Below.refl _ _) nq)).below bm);obtain⟨-,-,k2',k3'⟩:=kk2 nq;have k2:=(bm.cell (p:=⟨Hr,2,none⟩) (by rw [HrW.out];simp)).trans k2';have k3:=(bm.cell (p:=⟨Hr,3,none⟩) (by rw [HrW.out];simp)).trans k3';clear kk kk2 TA oA HrW hW cA cB cB2 bm k2' k3';generalize(WA.drewN nq).drewN nq2=W1 at *;go_wp2_with fail
     refine faultat_calls s1 z1 17 _ _ (Lib.hid fun w3 n3=>?_);have T3:=T1.out.below n3;clear n3 T1 k2 k3 e0 e1 e2 e3;obtain⟨nf,s0',s1'⟩:=T3.told (.int .i64 17) (.int .i64 z1);have c0:=T3.c0;have c1:=T3.c1;have f0':=T3.f0;have f1':=T3.f1;replace nf:=Lib.hid nf;replace s0':=Lib.hid s0';replace s1':=Lib.hid s1';clear T3;go_wp2_with fail
     replace s0':=s0'.out;replace s1':=s1'.out;clear c0 c1 f0' f1';generalize(w3.setCell ⟨w.heap.size,0,none⟩ _).setCell ⟨w.heap.size,1,none⟩ _=Wz at *;refine bodyPost_ret ?_ rfl (fin.out _ nf.out);simp [results,Tryz.results99,go_sem,s0',s1']
    ·rw [if_neg f1]at hlv
     replace cB:=cB.out;rw [h3 f1]at cB;replace cB:=Lib.hid cB;have hn2:=Lib.hid (hnx hlv);clear hlv hfir hnx h0 h1 h2 h3 f0 f1;generalize findS (nms ws) s0=a at *;generalize findS (nms ws) s1=b at *;go_wp2_with fail
     refine cA.out _ (Lib.hid fun nq=>?_);obtain⟨-,-,k2,-⟩:=kk.out nq;have cB2:=Lib.hid (cB.out nq);clear k00;go_wp2_with fail
     refine cB2.out _ (Lib.hid fun nq2=>?_);have bm0:=below_drewN (Below.refl WA.heap.size WA) nq;have bm:=below_drewN (Below.refl (WA.drewN nq).heap.size (WA.drewN nq)) nq2;have T1:=(TA.out.below bm0).below bm;have O1:=own_below (own_below oA.out bm0) bm;clear kk TA oA HrW hW cA cB cB2 bm bm0 k2;generalize(WA.drewN nq).drewN nq2=W1 at *;have hlt1:w.heap.size+1≤W1.heap.size:=T1.lt;replace T1:=Lib.hid T1;replace O1:=Lib.hid O1;go_wp2_with (at_builtin;refine appK W1 #[.int .i64 a,.int .i64 b] 2 202 rfl _ _ 164 rfl (w.heap.size+1) i0 (.agg #[.int .i64 0,.int .i64 0]) 16 Tryz.underlying164 hI hz0 hz1 hz2 rfl (by decide) rfl vo K (flatG encQ l0) rfl O1.out _ rfl (by simp) (by simp [Value.oneCell']) (by unfold maxLen;omega) (by omega) hlt1 ?_;intro v' w3 hown3 hg3 hb3)
     go_roundg (gk-1)
     case measure=>omega
     case rel =>
      refine⟨K+1,v',rfl,by go_num,by omega,Lib.hid ?_,Lib.hid ?_,hn2⟩
      ·exact T1.out.below1 hb3
      ·rw [htk.out,flatG_snoc];exact hown3
  ·obtain rfl:K=ps.length:=by omega
   have hno:firF (prAt ws ps) ps.length 0=none:=fir_no ps.length 0 (fun j _ hj=>hs.out j (by omega));rw [List.take_length]at own;have T3:=T.out;obtain⟨nf,s0',s1'⟩:=T3.told (.int .i64 0) (.int .i64 0);have c0:=T3.c0;have c1:=T3.c1;have f0':=T3.f0;have f1':=T3.f1;replace nf:=Lib.hid nf;replace s0':=Lib.hid s0';replace s1':=Lib.hid s1';clear T3;have rd:=RdG.of_own (ownsRow_setCell_below (ownsRow_setCell_below own.out (a:=⟨w.heap.size,0,none⟩) (by simp) (.int .i64 0)) (a:=⟨w.heap.size,1,none⟩) (by simp) (.int .i64 0));have fin:=Lib.hid (hR.out _ _ hno rd nf.out);replace rd:=Lib.hid rd;clear hno own hs;go_wp2_with fail
   replace s0':=s0'.out;replace s1':=s1'.out;clear c0 c1 f0' f1' rd nf;replace fin:=fin.out;generalize(wr.setCell ⟨w.heap.size,0,none⟩ _).setCell ⟨w.heap.size,1,none⟩ _=Wz at *;refine bodyPost_ret ?_ rfl fin;simp [results,Tryz.results99,go_sem,s0',s1']
def WA(n:Nat)(F:Nat→Nat→Bool)(K L:Nat)(f:Nat→Nat):Prop:=∀a,a<n→W32 (f a)∧∀b,(f a).testBit b=(decide ((a<K∧b<n)∨(a=K∧b<L))&&F a b)
def WB(n:Nat)(F:Nat→Nat→Bool)(K L:Nat)(f:Nat→Nat):Prop:=∀b,b<n→W32 (f b)∧∀a,(f b).testBit a=(decide (a<K∨(a=K∧b<L))&&F a b)
section
variable {n:Nat} {F:Nat→Nat→Bool} {K L:Nat} {f:Nat→Nat}
theorem WA.nil:WA n F 0 0 (fun _=>0):=fun a _=>⟨zero_w32,fun b=>by rw [Nat.zero_testBit,decide_eq_false (by omega)];rfl⟩
theorem WB.nil:WB n F 0 0 (fun _=>0):=fun a _=>⟨zero_w32,fun b=>by rw [Nat.zero_testBit,decide_eq_false (by omega)];rfl⟩
theorem WA.skip(h:WA n F K L f)(hF:F K L=false):WA n F K (L+1) f:=fun a ha=>⟨(h a ha).1,fun b=>by
rw [(h a ha).2]
by_cases e:a=K∧b=L
·obtain⟨rfl,rfl⟩:=e
 rw [hF];simp
·congr 1
 exact decide_eq_decide.2 (by omega)⟩
theorem WB.skip(h:WB n F K L f)(hF:F K L=false):WB n F K (L+1) f:=fun b hb=>⟨(h b hb).1,fun a=>by
rw [(h b hb).2]
by_cases e:a=K∧b=L
·obtain⟨rfl,rfl⟩:=e
 rw [hF];simp
·congr 1
 exact decide_eq_decide.2 (by omega)⟩
theorem WA.put(h:WA n F K L f)(hF:F K L=true)(hn:n≤32)(hK:K<n)(hL:L<n):WA n F K (L+1) (upd f K (f K|||bitN L)):=fun a ha=>by
 unfold upd
 by_cases e:a=K
 ·subst e
  rw [if_pos rfl];refine⟨or_w32 (h a ha).1 (bit_w32 (by omega)),fun b=>?_⟩;rw [or_bit,(h a ha).2]
  by_cases q:L=b
  ·subst q
   rw [hF,decide_eq_true (show(a<a∧L<n)∨(a=a∧L<L+1)from .inr ⟨rfl,by omega⟩)];simp
  ·rw [decide_eq_false q,Bool.or_false]
   congr 1
   exact decide_eq_decide.2 (by omega)
 ·rw [if_neg e]
  refine⟨(h a ha).1,fun b=>?_⟩;rw [(h a ha).2]
  congr 1
  exact decide_eq_decide.2 (by omega)
theorem WB.put(h:WB n F K L f)(hF:F K L=true)(hn:n≤32)(hK:K<n)(hL:L<n):WB n F K (L+1) (upd f L (f L|||bitN K)):=fun b hb=>by
 unfold upd
 by_cases e:b=L
 ·subst e
  rw [if_pos rfl];refine⟨or_w32 (h b hb).1 (bit_w32 (by omega)),fun a=>?_⟩;rw [or_bit,(h b hb).2]
  by_cases q:K=a
  ·subst q
   rw [hF,decide_eq_true (show K<K∨(K=K∧b<b+1)from .inr ⟨rfl,by omega⟩)];simp
  ·rw [decide_eq_false q,Bool.or_false]
   congr 1
   exact decide_eq_decide.2 (by omega)
 ·rw [if_neg e]
  refine⟨(h b hb).1,fun a=>?_⟩;rw [(h b hb).2]
  congr 1
  exact decide_eq_decide.2 (by omega)
theorem WA.next(h:WA n F K n f):WA n F (K+1) 0 f:=fun a ha=>⟨(h a ha).1,fun b=>by
rw [(h a ha).2]
congr 1
exact decide_eq_decide.2 (by omega)⟩
theorem WB.next(h:WB n F K n f):WB n F (K+1) 0 f:=fun b hb=>⟨(h b hb).1,fun a=>by
rw [(h b hb).2]
congr 1
exact decide_eq_decide.2 (by omega)⟩
theorem WA.fin(h:WA n F n 0 f):Wds n F f:=fun a ha=>⟨(h a ha).1,fun b=>by
rw [(h a ha).2]
congr 1
exact decide_eq_decide.2 (by omega)⟩
theorem WB.fin(h:WB n F n 0 f):Wds n (flp F) f:=fun b hb=>⟨(h b hb).1,fun a=>by
rw [(h b hb).2];unfold flp
congr 1
exact decide_eq_decide.2 (by omega)⟩
end
abbrev OwnU(w:World)(base B n:Nat)(f:Nat→Nat):Prop:=w.ownsRow base 212 1 (.slice (some ⟨B,0,none⟩) n n) n (uv n f)
theorem OwnU.cell{w:World}{base B n:Nat}{f:Nat→Nat}(ow:OwnU w base B n f){i:Nat}(hi:i<n):w.cell? ⟨B,i,none⟩=some (.int .u32 (f i:Nat)):=(World.ownsRow.cellAt ow i (by omega)).trans (uv_get n f hi)
theorem OwnU.put{w:World}{base B n:Nat}{f:Nat→Nat}(ow:OwnU w base B n f)(i y:Nat):OwnU (w.setCell ⟨B,i,none⟩ (.int .u32 (y:Nat))) base B n (upd f i y)∧w.grownBy (w.setCell ⟨B,i,none⟩ (.int .u32 (y:Nat))) (some B):=by
 obtain⟨h1,h2⟩:=World.ownsRow.stored ow i (.int .u32 (y:Nat));rw [uv_set]at h1;exact⟨h1,h2⟩
theorem OwnU.lt{w:World}{base B n:Nat}{f:Nat→Nat}(ow:OwnU w base B n f)(hn:0<n):B<w.heap.size:=by
 obtain⟨g,c,e,-,hg,-⟩:=own_at ow hn;simp only[Value.slice.injEq,Option.some.injEq,Addr.mk.injEq]at e;rw [e.1.1];exact hg
theorem OwnU.kept{w w':World}{base B B' n:Nat}{f:Nat→Nat}(ow:OwnU w base B n f)(h:w.grownBy w' (some B'))(hne:B≠B'):OwnU w' base B n f:=World.ownsRow.kept ow h (.inr (by simpa [Value.ownBlock]using hne))
theorem latbounds_calls (n:Nat) (Q:List (Nat×Nat)) (hQ:InR n Q) (h0:0<n) (hn:n≤32) (F:Nat→Nat→Bool) (hF:∀a b:Nat,a<n→b<n→hasQ Q (a:Nat) (b:Nat)=F a b) (v:Value) (w:World) (h:RelP w v n Q) (R:Ending→World→Prop)
  (hR:Hid (∀g1 g2 f1 f2 w',Wds n F f1→Wds n (flp F) f2→w.heap.size≤g1→w.heap.size≤g2→(OwnU w' g1 g1 n f1)→(OwnU w' g2 g2 n f2)→Below w.heap.size w w'→R (.returned (.tuple #[.slice (some ⟨g1,0,none⟩) n n,.slice (some ⟨g2,0,none⟩) n n])) w')):Calls Tryz.prog 149 #[v] w R:=by
 have cL:=Lib.hid fun(W:World) (hb:Below w.heap.size w W) R hR=>rellenx_calls n Q v W (h.below hb) R hR
 have cH:=Lib.hid fun(W:World) (hb:Below w.heap.size w W) (a b:Nat) R hR=>relhasx_calls n Q a b hQ (by omega) v W (h.below hb) R hR
 obtain⟨p,rfl⟩:=h.ptr;obtain⟨M,hM,hmk⟩:=mk_u32 n (by omega);have oA:=own_made (n:=n) (w:=w) (t:=212) hM (uv_len _ _) (by unfold maxLen;omega)
 have oB:=own_made (n:=n) (w:=w.alloc (.cells M 212)) (t:=212) hM (uv_len _ _) (by unfold maxLen;omega)
 have nb1:=(Below.refl w.heap.size w).alloc (Nat.le_refl _) (.cells M 212);have nb2:=nb1.alloc (by simp) (.cells M 212);have oA2:=Lib.hid (own_below oA ((Below.refl _ _).alloc (Nat.le_refl _) (.cells M 212)));have z1:(w.alloc (.cells M 212)).heap.size=w.heap.size+1:=by simp
 rw [z1]at oB;have cL1:=Lib.hid fun R hR=>cL.out w (Below.refl _ _) R hR
 have cL2:=Lib.hid fun R hR=>cL.out _ nb1 R hR
 replace oB:=Lib.hid oB;replace nb1:=Lib.hid nb1;replace nb2:=Lib.hid nb2;replace z1:=Lib.hid z1;replace hF:=Lib.hid hF;clear oA h hQ;go_enter Tryz.func149,Tryz.ntmps149
 go_wp2_with fail
 refine cL1.out _ (Lib.hid ?_);go_wp2_with fail
 refine cL2.out _ (Lib.hid ?_);go_wp2_with fail
 go_loopg [14] n (fun g i wr=>∃(K:Nat) (f1 f2:Nat→Nat),i=.int .i64 K∧K+g=n∧Hid (Below w.heap.size w wr)∧Hid (OwnU wr w.heap.size w.heap.size n f1)∧Hid (OwnU wr (w.heap.size+1) (w.heap.size+1) n f2)∧Hid (WA n F K 0 f1)∧Hid (WB n F K 0 f2))
 case atStart=>exact⟨0,_,_,rfl,by omega,nb2,oA2,oB,Lib.hid WA.nil,Lib.hid WB.nil⟩
 case round =>
  obtain⟨K,f1,f2,rfl,c1,nb,o1,o2,a1,a2⟩:=hrel;clear nb1 nb2 oA2 oB cL1 cL2
  by_cases hK:K<n
  ·obtain⟨kO,rfl⟩:∃k,gk=k+1:=⟨gk-1,by omega⟩
   go_wp2_with fail
   go_loopg [19] n (fun g i wr=>∃(L:Nat) (f1 f2:Nat→Nat),i=.int .i64 L∧L+g=n∧Hid (Below w.heap.size w wr)∧Hid (OwnU wr w.heap.size w.heap.size n f1)∧Hid (OwnU wr (w.heap.size+1) (w.heap.size+1) n f2)∧Hid (WA n F K L f1)∧Hid (WB n F K L f2))
   case atStart=>exact⟨0,f1,f2,rfl,by omega,nb,o1,o2,a1,a2⟩
   case round =>
    clear nb o1 o2 a1 a2 f1 f2;obtain⟨L,f1,f2,rfl,d1,nb,o1,o2,a1,a2⟩:=hrel
    by_cases hL:L<n
    ·have cq:=cH.out wr nb.out K L
     rw [hF.out K L hK hL]at cq;cases e:F K L
     ·rw [e]at cq
      replace cq:=Lib.hid cq;have p1:=Lib.hid (a1.out.skip e);have p2:=Lib.hid (a2.out.skip e);clear e a1 a2;go_wp2_with fail
      refine cq.out _ (Lib.hid fun m=>?_);have bm:=below_drewN (Below.refl wr.heap.size wr) m;have q1:=Lib.hid (own_below o1.out bm);have q2:=Lib.hid (own_below o2.out bm);have nb3:=Lib.hid (below_drewN nb.out m);clear bm o1 o2 nb;go_wp2_with fail
      go_roundg (gk-1)
      case measure=>omega
      case rel=>exact⟨L+1,f1,f2,by go_num,by omega,nb3,q1,q2,p1,p2⟩
     ·rw [e]at cq
      replace cq:=Lib.hid cq;have p1:=Lib.hid (a1.out.put e hn hK hL);have p2:=Lib.hid (a2.out.put e hn hK hL);have w1:=(a1.out K hK).1;have w2:=(a2.out L hL).1;have e1:=bits_or32 w1 (bit_w32 (show L<32 by omega));have e2:=bits_or32 w2 (bit_w32 (show K<32 by omega));have e3:=wrap_bit32 (show L<32 by omega);have e4:=wrap_bit32 (show K<32 by omega);replace e1:=Lib.hid e1;replace e2:=Lib.hid e2;replace e3:=Lib.hid e3;replace e4:=Lib.hid e4;clear e a1 a2 w1 w2;go_wp2_with fail
      refine cq.out _ (Lib.hid fun m=>?_);have bm:=below_drewN (Below.refl wr.heap.size wr) m;have q1:=own_below o1.out bm;have q2:=own_below o2.out bm;have nb3:=below_drewN nb.out m;clear bm o1 o2 nb;generalize wr.drewN m=W1 at *;have r1:=OwnU.cell q1 hK;have r2:=World.ownsRow.frozenAt q1 K;replace q1:=Lib.hid q1;replace q2:=Lib.hid q2;replace nb3:=Lib.hid nb3;have ik0:(0:Int)≤(K:Int):=by omega
      have ik1:(K:Int)<(n:Int):=by omega
      have il0:(0:Int)≤(L:Int):=by omega
      have il1:(L:Int)<(n:Int):=by omega
      have mL:min L 32=L:=by omega
      have mK:min K 32=K:=by omega
      go_wp2_with fail
      replace e1:=e1.out;replace e3:=e3.out;go_still_tail 8,(by kernel_rfl)
      repeat still_step
      change wpList _ _ _ _ _ W1.drew
      have q1d:=q1.out.drew;have q2d:=q2.out.drew;have nbd:=nb3.out.drew;clear r1 r2 q1 q2 nb3 e1 e3 mL;have r3:=World.ownsRow.frozenAt q1d K;have r4:=OwnU.cell q1d hK;obtain⟨o4,g4⟩:=OwnU.put q1d K (f1 K|||bitN L);have o5:=OwnU.kept q2d g4 (by omega);have n4:=nbd.trans (below_of_grown g4 (Nat.le_refl _) nbd.size);replace o4:=Lib.hid o4;replace n4:=Lib.hid n4;replace o5:=Lib.hid o5;clear g4 q1d q2d nbd;generalize W1.drew=W2 at *;generalize f1 K|||bitN L=y1 at *;go_wp2_with fail
      clear r3 r4;generalize W2.setCell ⟨w.heap.size,K,none⟩ (.int .u32 (y1:Nat))=W3 at *;have r1:=OwnU.cell o5.out hL;have r2:=World.ownsRow.frozenAt o5.out L;replace e2:=e2.out;replace e4:=e4.out;go_still_tail 8,(by kernel_rfl)
      repeat still_step
      change wpList _ _ _ _ _ W3.drew
      have q1d:=o4.out.drew;have q2d:=o5.out.drew;have nbd:=n4.out.drew;clear r1 r2 o4 o5 n4 e2 e4 mK;have r3:=World.ownsRow.frozenAt q2d L;have r4:=OwnU.cell q2d hL;obtain⟨o6,g6⟩:=OwnU.put q2d L (f2 L|||bitN K);have o7:=OwnU.kept q1d g6 (by omega);have n6:=nbd.trans (below_of_grown g6 (by omega) nbd.size);replace o6:=Lib.hid o6;replace n6:=Lib.hid n6;replace o7:=Lib.hid o7;clear g6 q1d q2d nbd;generalize W3.drew=W4 at *;generalize f2 L|||bitN K=y2 at *;go_wp2_with fail
      go_roundg (gk-1)
      case measure=>omega
      case rel=>exact⟨L+1,_,_,by go_num,by omega,n6,o7,o6,p1,p2⟩
    ·obtain rfl:L=n:=by omega
     go_wp2_with fail
     go_roundg kO
     case measure=>omega
     case rel=>exact⟨K+1,f1,f2,by go_num,by omega,nb,o1,o2,Lib.hid a1.out.next,Lib.hid a2.out.next⟩
  ·obtain rfl:K=n:=by omega
   have fin:=Lib.hid (hR.out _ _ f1 f2 _ a1.out.fin a2.out.fin (Nat.le_refl _) (by omega) o1.out o2.out nb.out);clear nb o1 o2 a1 a2 cH;go_wp2_with fail
   exact fin.out
theorem OwnL.lt{w:World}{base B:Nat}{v1 v2:Value}{h:Nat→Int}(ow:OwnL w base B v1 v2 h):B<w.heap.size:=by
 obtain⟨g,c,e,-,hg,-⟩:=own_at ow (by omega);simp only[Value.slice.injEq,Option.some.injEq,Addr.mk.injEq]at e;rw [e.1.1];exact hg
theorem join_lt{n:Nat}{F:Nat→Nat→Bool}{a b:Nat}(h:0≤joinS n F a b):∃k:Nat,k<n∧joinS n F a b=k:=by
 rcases join_cases n F a b with⟨q,-⟩|⟨m,h1,-,h3⟩
 ·omega
 ·exact⟨m,h1,h3⟩
theorem noB_is{n:Nat}{F:Nat→Nat→Bool}{a b:Nat}:noB n F a b=(decide (joinS n F a b<0)||decide (joinS n (flp F) a b<0)):=by
 unfold noB;rw [join_comm n F a b,join_comm n (flp F) a b]
theorem idx32_quiet(n:Nat)(f:Nat→Nat)(g c:Nat)(y:Nat)(V:Int)(hV:idxN f n y=V)(w:World)(hn:n≤32)(hca:∀i,i<n→w.cell? ⟨g,i,none⟩=some (.int .u32 (f i:Nat)))(m:Nat) :
 Calls Tryz.prog 150 #[.slice (some ⟨g,0,none⟩) n c,.int .u32 (y:Nat)] (w.drewN m) fun e w'=>e=.returned (.int .i64 V)∧w'=w.drewN m :=
idx32_calls n f g c y (w.drewN m) hn hca _ (Lib.hid ⟨by rw [hV],rfl⟩)
theorem latfill_calls (n:Nat) (Q:List (Nat×Nat)) (hQ:InR n Q) (h0:0<n) (hn:n≤32) (F:Nat→Nat→Bool) (hF:∀a b:Nat,a<n→b<n→hasQ Q (a:Nat) (b:Nat)=F a b) (hO:Ordr n F) (base B:Nat) (v1 v2:Value) (v:Value) (w:World) (h:RelP w v n Q) (ow:OwnL w base B v1 v2 (fun _=>0)) (R:Ending→World→Prop)
  (hR:Hid (∀w' h,OwnL w' base B v1 v2 h→FilM 0 (joinS n F) n 0 h→FilM 1024 (joinS n (flp F)) n 0 h→(∀b,b<n→bnB n F b=false)→Below B w w'→R (.returned (.tuple #[.int .i64 0,.bool true])) w'))
  (hR2:Hid (∀(a:Nat) w',a<n→bnB n F a=true→(∀b,b<a→bnB n F b=false)→Below B w w'→R (.returned (.tuple #[.int .i64 (a:Nat),.bool false])) w')):Calls Tryz.prog 103 #[.pointer (some ⟨B,0,none⟩),v] w R:=by
 have cB:=Lib.hid fun R hR=>latbounds_calls n Q hQ h0 hn F hF v w h R hR
 have cL:=Lib.hid fun(W:World) (hb:Below w.heap.size w W) R hR=>rellenx_calls n Q v W (h.below hb) R hR
 obtain⟨pr,rfl⟩:=h.ptr;have hB:=ow.lt;replace ow:=Lib.hid ow;replace hO:=Lib.hid hO;clear h hF hQ;go_enter Tryz.func103,Tryz.ntmps103
 go_wp2_with fail
 refine cB.out _ (Lib.hid fun g1 g2 f1 f2 w1 d1 d2 l1 l2 o1 o2 n1=>?_);have cL1:=Lib.hid fun R hR=>cL.out w1 n1 R hR
 have k1:=Lib.hid fun i (hi:i<n)=>o1.cell hi
 have k2:=Lib.hid fun i (hi:i<n)=>o2.cell hi
 have t1:=o1.lt h0;have t2:=o2.lt h0;have ow1:=Lib.hid (own_below ow.out n1);have nb1:=Lib.hid (n1.mono (Nat.le_of_lt hB));have hd1:=Lib.hid fun a b (ha:a<n) (hb:b<n)=>idx_join d1 hO.out ha hb
 have hd2:=Lib.hid fun a b (ha:a<n) (hb:b<n)=>idx_join d2 hO.out.flip ha hb
 have hw1:=Lib.hid fun a (ha:a<n)=>(d1 a ha).1
 have hw2:=Lib.hid fun a (ha:a<n)=>(d2 a ha).1
 have hself:=Lib.hid fun a (ha:a<n)=>join_self hO.out ha
 have hself2:=Lib.hid fun a (ha:a<n)=>join_self hO.out.flip ha
 have x1:g1≠B:=by omega
 have x2:g2≠B:=by omega
 clear o1 o2 d1 d2 n1 ow cB cL hO;go_wp2_with fail
 refine cL1.out _ (Lib.hid ?_);clear cL1;go_wp2_with fail
 go_loopg [19] n (fun g i wr=>∃(K:Nat) (h:Nat→Int),i=.int .i64 K∧K+g=n∧Hid (Below B w wr)∧Hid (OwnL wr base B v1 v2 h)∧Hid (∀i,i<n→wr.cell? ⟨g1,i,none⟩=some (.int .u32 (f1 i:Nat)))∧Hid (∀i,i<n→wr.cell? ⟨g2,i,none⟩=some (.int .u32 (f2 i:Nat)))∧g1<wr.heap.size∧g2<wr.heap.size ∧
  Hid (FilM 0 (joinS n F) K 0 h)∧Hid (FilM 1024 (joinS n (flp F)) K 0 h)∧Hid (∀b,b<K→bnB n F b=false))
 case atStart=>exact⟨0,_,rfl,by omega,nb1,ow1,k1,k2,t1,t2,Lib.hid FilM.nil,Lib.hid FilM.nil,Lib.hid fun b h=>by omega⟩
 case round =>
  clear nb1 ow1 k1 k2 t1 t2;obtain⟨K,h,rfl,c1,nb,ow,k1,k2,t1,t2,m1,m2,hb⟩:=hrel
  by_cases hK:K<n
  ·obtain⟨kO,rfl⟩:∃k,gk=k+1:=⟨gk-1,by omega⟩
   go_wp2_with fail
   go_loopg [24] (K+1) (fun g i wr=>∃(L:Nat) (h:Nat→Int),i=.int .i64 L∧L+g=K+1∧Hid (Below B w wr)∧Hid (OwnL wr base B v1 v2 h)∧Hid (∀i,i<n→wr.cell? ⟨g1,i,none⟩=some (.int .u32 (f1 i:Nat)))∧Hid (∀i,i<n→wr.cell? ⟨g2,i,none⟩=some (.int .u32 (f2 i:Nat)))∧g1<wr.heap.size∧g2<wr.heap.size ∧
    Hid (FilM 0 (joinS n F) K L h)∧Hid (FilM 1024 (joinS n (flp F)) K L h)∧Hid (∀b,b<L→noB n F K b=false))
   case atStart=>exact⟨0,h,rfl,by omega,nb,ow,k1,k2,t1,t2,m1,m2,Lib.hid fun b h=>by omega⟩
   case round =>
    clear nb ow k1 k2 t1 t2 m1 m2 h;obtain⟨L,h,rfl,d1,nb,ow,k1,k2,t1,t2,m1,m2,hl⟩:=hrel
    by_cases hL:L<K+1
    ·have hLn:L<n:=by omega
     have e0:=k1.out K hK;have e1:=k1.out L hLn;have eA:=bits_and32 (hw1.out K hK) (hw1.out L hLn);have eV:=hd1.out K L hK hLn;obtain⟨y,hy⟩:∃y,f1 K&&&f1 L=y:=⟨_,rfl⟩;rw [hy]at eA eV;have cX:=Lib.hid fun m=>idx32_quiet n f1 g1 n y _ eV wr hn k1.out m
     have ik0:(0:Int)≤(K:Int):=by omega
     have ik1:(K:Int)<(n:Int):=by omega
     have il0:(0:Int)≤(L:Int):=by omega
     have il1:(L:Int)<(n:Int):=by omega
     replace hy:=Lib.hid hy;replace eV:=Lib.hid eV;generalize f1 K=y1 at *;generalize f1 L=y2 at *;go_wp2_with fail
     go_quiet (with_reducible exact Calls.quiet_of_same (cX.out _));have bm:=below_drewN (Below.refl wr.heap.size wr) nq
     have nb3:=Lib.hid (below_drewN nb.out nq);have ow3:=Lib.hid (own_below ow.out bm);have k3:=Lib.hid fun i (hi:i<n)=>(bm.cell (p:=⟨g1,i,none⟩) t1).trans (k1.out i hi)
     have k4:=Lib.hid fun i (hi:i<n)=>(bm.cell (p:=⟨g2,i,none⟩) t2).trans (k2.out i hi)
     have t3:=Nat.lt_of_lt_of_le t1 bm.size;have t4:=Nat.lt_of_lt_of_le t2 bm.size;clear bm nb ow k1 k2 t1 t2 cX eA eV hy e0 e1;generalize wr.drewN nq=W1 at *;have e0:=k4.out K hK;have e1:=k4.out L hLn;have eA:=bits_and32 (hw2.out K hK) (hw2.out L hLn);have eV:=hd2.out K L hK hLn;obtain⟨z,hz⟩:∃z,f2 K&&&f2 L=z:=⟨_,rfl⟩;rw [hz]at eA eV;have cX:=Lib.hid fun m=>idx32_quiet n f2 g2 n z _ eV W1 hn k4.out m
     replace hz:=Lib.hid hz;replace eV:=Lib.hid eV;generalize f2 K=z1 at *;generalize f2 L=z2 at *;go_wp2_with fail
     go_quiet (with_reducible exact Calls.quiet_of_same (cX.out _));have bm:=below_drewN (Below.refl W1.heap.size W1) nq
     have nb:=Lib.hid (below_drewN nb3.out nq);have ow:=own_below ow3.out bm;have k1:=fun i (hi:i<n)=>(bm.cell (p:=⟨g1,i,none⟩) t3).trans (k3.out i hi)
     have k2:=fun i (hi:i<n)=>(bm.cell (p:=⟨g2,i,none⟩) t4).trans (k4.out i hi)
     have t1:=Nat.lt_of_lt_of_le t3 bm.size;have t2:=Nat.lt_of_lt_of_le t4 bm.size;clear bm nb3 ow3 k3 k4 t3 t4 cX eA eV hz e0 e1;generalize W1.drewN nq=W2 at *;have hno:noB n F K L=(decide (joinS n F K L<0)||decide (joinS n (flp F) K L<0)):=noB_is
     have hs1:L=K→0≤joinS n F K L∧0≤joinS n (flp F) K L:=fun e=>by
      subst e;rw [hself.out L hK,hself2.out L hK];omega
     have hbad:noB n F K L=true→L≠K→R (.returned (.tuple #[.int .i64 (K:Nat),.bool false])) W2:=fun q1 q2 =>
      hR2.out K W2 hK (List.any_eq_true.2 ⟨L,List.mem_range.2 (by omega),q1⟩) hb.out nb.out
     by_cases j0:joinS n F K L<0
     ·have fin:=Lib.hid (hbad (by rw [hno,decide_eq_true j0];rfl) (fun e=>by have:=(hs1 e).1;omega))
      clear hno hs1 hbad ow k1 k2;generalize joinS n F K L=j at *;generalize joinS n (flp F) K L=m at *;go_wp2_with fail
      exact fin.out
     ·by_cases j1:joinS n (flp F) K L<0
      ·have fin:=Lib.hid (hbad (by rw [hno,decide_eq_true j1,Bool.or_true]) (fun e=>by have:=(hs1 e).2;omega))
       clear hno hs1 hbad ow k1 k2;generalize joinS n F K L=j at *;generalize joinS n (flp F) K L=m at *;go_wp2_with fail
       exact fin.out
      ·have hlN:∀b,b<L+1→noB n F K b=false:=fun b hb=>by
        rcases Nat.eq_or_lt_of_le (Nat.le_of_lt_succ hb)with e|q
        ·subst e;rw [hno,decide_eq_false j0,decide_eq_false j1];rfl
        ·exact hl.out b q
       obtain⟨j,jl,ej⟩:=join_lt (Int.not_lt.1 j0);obtain⟨m,ml,em⟩:=join_lt (Int.not_lt.1 j1);have p1:=m1.out.put (join_comm n F) (show K<32 by omega) (show L≤K by omega);have p2:=m2.out.far (q:=0) (y:=joinS n F K L) (show K<32 by omega) (show L<32 by omega) (by omega);have p3:=p2.put (join_comm n (flp F)) (show K<32 by omega) (show L≤K by omega);have p4:=p1.far (q:=1024) (y:=joinS n (flp F) K L) (show K<32 by omega) (show L<32 by omega) (by omega);rw [ej,em]at p3 p4;rw [ej,em];have cS:=fun R hR=>latset_calls base B v1 v2 h W2 ow 0 2 rfl (.inl rfl) K L j (by omega) (by omega) (by omega) R hR
       have cS2:=Lib.hid fun(W:World) ow R hR=>latset_calls base B v1 v2 (setZ h 0 K L j) W ow 1024 1026 rfl (.inr rfl) K L m (by omega) (by omega) (by omega) R hR
       replace p3:=Lib.hid p3;replace p4:=Lib.hid p4;replace cS:=Lib.hid cS;replace hlN:=Lib.hid hlN;replace k1:=Lib.hid k1;replace k2:=Lib.hid k2;clear p1 p2 ej em hno hs1 hbad ow hl m1 m2 j0 j1;go_wp2_with fail
       refine cS.out _ (Lib.hid fun W3 o3 g3=>?_);have y1':=Lib.hid fun i (hi:i<n)=>grown_cell g3 t1 x1 (k1.out i hi)
       have y2':=Lib.hid fun i (hi:i<n)=>grown_cell g3 t2 x2 (k2.out i hi)
       have nb4:=Lib.hid (nb.out.trans (below_of_grown g3 (Nat.le_refl _) (Nat.le_trans (Nat.le_of_lt hB) nb.out.size)));have t3:=Nat.lt_of_lt_of_le t1 g3.size;have t4:=Nat.lt_of_lt_of_le t2 g3.size;replace o3:=Lib.hid o3;clear cS k1 k2 nb t1 t2 g3;go_wp2_with fail
       refine cS2.out _ o3.out _ (Lib.hid fun W4 o4 g4=>?_);have k1:=Lib.hid fun i (hi:i<n)=>grown_cell g4 t3 x1 (y1'.out i hi)
       have k2:=Lib.hid fun i (hi:i<n)=>grown_cell g4 t4 x2 (y2'.out i hi)
       have nb:=Lib.hid (nb4.out.trans (below_of_grown g4 (Nat.le_refl _) (Nat.le_trans (Nat.le_of_lt hB) nb4.out.size)));have t1:=Nat.lt_of_lt_of_le t3 g4.size;have t2:=Nat.lt_of_lt_of_le t4 g4.size;replace o4:=Lib.hid o4;clear cS2 y1' y2' nb4 t3 t4 g4 o3;go_wp2_with fail
       go_roundg (gk-1)
       case measure=>omega
       case rel=>exact⟨L+1,_,by go_num,by omega,nb,o4,k1,k2,t1,t2,p4,p3,hlN⟩
    ·obtain rfl:L=K+1:=by omega
     go_wp2_with fail
     go_roundg kO
     case measure=>omega
     case rel=>exact⟨K+1,h,by go_num,by omega,nb,ow,k1,k2,t1,t2,Lib.hid m1.out.next,Lib.hid m2.out.next,Lib.hid fun b q=>by
      rcases Nat.eq_or_lt_of_le (Nat.le_of_lt_succ q)with e|q
      ·subst e
       cases e:bnB n F b
       ·rfl
       ·obtain⟨x,hx,hx2⟩:=List.any_eq_true.1 e
        rw [hl.out x (by have:=List.mem_range.1 hx;omega)]at hx2
        cases hx2
      ·exact hb.out b q⟩
  ·obtain rfl:K=n:=by omega
   have fin:=Lib.hid (hR.out _ h ow.out m1.out m2.out hb.out nb.out);clear nb ow k1 k2 m1 m2;go_wp2_with fail
   exact fin.out
end Go.Proofs.YtncckdaflellnaaGreat.Lat
