import Derived.Test.YtabhkakomececaaGreatQ8
import Derived.Test.YtabhkakomececaaGreatQ9
set_option linter.all false
set_option maxRecDepth 100000
set_option maxHeartbeats 4000000
namespace Go.Proofs.YtabhkakomececaaGreat.Lat
open Go.RowKit Go.Lib Rel Nam
theorem faultat_calls(s:ByteArray)(z e:Int)(w:World)(R:Ending→World→Prop)(hR:Hid (∀w',Below w.heap.size w w'→R (.returned (.agg #[.int .i64 e,.int .i64 z])) w')):Calls Tryz.prog 125 #[.agg #[.string s,.int .i64 z],.int .i64 e] w R:=by
 go_enter Tryz.func125,Tryz.ntmps125
 go_wp2_with fail
 refine bodyPost_ret (v:=.agg #[.int .i64 e,.int .i64 z]) ?_ rfl (hR.out _ ?_)
 ·simp [results,Tryz.results125,go_sem]
 ·exact((Below.refl _ _).alloc (Nat.le_refl _) _).alloc (by simp) _
structure Flt(w:World)(H:Nat)(W:World):Prop where
nb:Below H w W
lt:H<W.heap.size
c0:W.cell? ⟨H,0,none⟩=some (.int .i64 0)
c1:W.cell? ⟨H,1,none⟩=some (.int .i64 0)
f0:W.frozen? ⟨H,0,none⟩=false
f1:W.frozen? ⟨H,1,none⟩=false
theorem Flt.new(w:World):Flt w w.heap.size (w.alloc (.cells #[.int .i64 0,.int .i64 0] 26)):=by
 obtain⟨c0,c1,f0,f1⟩:=fault_new w;exact⟨(Below.refl _ _).alloc (Nat.le_refl _) _,by simp,c0,c1,f0,f1⟩
theorem Flt.below{w W W':World}{H:Nat}(h:Flt w H W)(hb:Below W.heap.size W W'):Flt w H W' :=
⟨h.nb.trans (hb.mono (Nat.le_of_lt h.lt)),Nat.lt_of_lt_of_le h.lt hb.size,(hb.cell (p:=⟨H,0,none⟩) h.lt).trans h.c0,(hb.cell (p:=⟨H,1,none⟩) h.lt).trans h.c1,(hb.frozen (p:=⟨H,0,none⟩) h.lt).trans h.f0,(hb.frozen (p:=⟨H,1,none⟩) h.lt).trans h.f1⟩
theorem Flt.told{w W:World}{H:Nat}(h:Flt w H W)(e z:Value):Below H w ((W.setCell ⟨H,0,none⟩ e).setCell ⟨H,1,none⟩ z)∧((W.setCell ⟨H,0,none⟩ e).setCell ⟨H,1,none⟩ z).cell? ⟨H,0,none⟩=some e∧((W.setCell ⟨H,0,none⟩ e).setCell ⟨H,1,none⟩ z).cell? ⟨H,1,none⟩=some z :=
⟨(h.nb.setCell (p:=⟨H,0,none⟩) (Nat.le_refl _) e).setCell (p:=⟨H,1,none⟩) (Nat.le_refl _) z,st_fault H W e z h.c0 h.c1⟩
def cntS(ws:List Wr)(ps:List Pr):Int×Int:=if ws.length=0 then(15,0)else if 32<ws.length then(8,(wN ws 32).2)else if 256<ps.length then(8,(pN ps 256).1.2)else(0,0)
theorem latcounts_calls(ws:List Wr)(ps:List Pr)(vw vp:Value)(w:World)(hw:RdW w vw ws)(hp:RdPr w vp ps)(R:Ending→World→Prop)
  (hR:Hid (∀w',Below w.heap.size w w'→R (.returned (.agg #[.int .i64 (cntS ws ps).1,.int .i64 (cntS ws ps).2])) w')):Calls Tryz.prog 119 #[vw,vp] w R:=by
 obtain⟨Aw,cw,rfl,hcw,hrw⟩:=hw.op;obtain⟨Ap,cp,rfl,hcp,hrp⟩:=hp.op;have T:=Flt.new w;replace hrw:=Lib.hid hrw;replace hrp:=Lib.hid hrp;clear hw hp;go_enter Tryz.func119,Tryz.ntmps119
 go_upto_region 1 with fail
 generalize w.alloc (.cells #[.int .i64 0,.int .i64 0] 26)=W0 at *;generalize hHH:w.heap.size=H at *;replace hHH:=Lib.hid hHH
 by_cases h0:ws.length=0
 ·have e:cntS ws ps=(15,0):=if_pos h0
  rw [e]at hR;obtain⟨nf,s0,s1⟩:=T.told (.int .i64 15) (.int .i64 0);have c0:=T.c0;have c1:=T.c1;have f0:=T.f0;have f1:=T.f1;replace nf:=Lib.hid nf;replace s0:=Lib.hid s0;replace s1:=Lib.hid s1;clear T e;go_wp2_with fail
  replace s0:=s0.out;replace s1:=s1.out;clear c0 c1 f0 f1;generalize(W0.setCell ⟨H,0,none⟩ _).setCell ⟨H,1,none⟩ _=Wz at *;refine bodyPost_ret ?_ rfl (hR.out _ nf.out);simp [results,Tryz.results119,go_sem,s0,s1]
 by_cases h1:32<ws.length
 ·have e:cntS ws ps=(8,(wN ws 32).2):=by unfold cntS;rw [if_neg h0,if_pos h1]
  rw [e]at hR;obtain⟨g,o,rfl,hg,hca⟩:=hrw.out (by omega);obtain⟨x0,x1⟩:=hca 32 h1;have e0:=(T.nb.cell (p:=⟨g,o+32*2,none⟩) (by have:=hHH.out;simp only;omega)).trans x0
  have e1:=(T.nb.cell (p:=⟨g,o+32*2+1,none⟩) (by have:=hHH.out;simp only;omega)).trans x1
  clear hca x0 x1 e;generalize(wN ws 32).1=s at *;generalize(wN ws 32).2=z at *;have i1:(32:Int)<(ws.length:Int):=by omega
  have i2:32<ws.length:=by omega
  replace T:=Lib.hid T;go_wp2_with fail
  refine faultat_calls s z 8 _ _ (Lib.hid fun w3 n3=>?_);have T3:=T.out.below n3;obtain⟨nf,s0,s1⟩:=T3.told (.int .i64 8) (.int .i64 z);have c0:=T3.c0;have c1:=T3.c1;have f0:=T3.f0;have f1:=T3.f1;replace nf:=Lib.hid nf;replace s0:=Lib.hid s0;replace s1:=Lib.hid s1;clear T3 n3 T e0 e1;go_wp2_with fail
  replace s0:=s0.out;replace s1:=s1.out;clear c0 c1 f0 f1;generalize(w3.setCell ⟨H,0,none⟩ _).setCell ⟨H,1,none⟩ _=Wz at *;refine bodyPost_ret ?_ rfl (hR.out _ nf.out);simp [results,Tryz.results119,go_sem,s0,s1]
 by_cases h2:256<ps.length
 ·have e:cntS ws ps=(8,(pN ps 256).1.2):=by unfold cntS;rw [if_neg h0,if_neg h1,if_pos h2]
  rw [e]at hR;obtain⟨g,o,rfl,hg,hca⟩:=hrp.out (by omega);obtain⟨x0,x1,-,-⟩:=hca 256 h2;have e0:=(T.nb.cell (p:=⟨g,o+256*4,none⟩) (by have:=hHH.out;simp only;omega)).trans x0
  have e1:=(T.nb.cell (p:=⟨g,o+256*4+1,none⟩) (by have:=hHH.out;simp only;omega)).trans x1
  clear hca x0 x1 e;generalize(pN ps 256).1.1=s at *;generalize(pN ps 256).1.2=z at *;have i1:(256:Int)<(ps.length:Int):=by omega
  have i2:256<ps.length:=by omega
  replace T:=Lib.hid T;go_wp2_with fail
  refine faultat_calls s z 8 _ _ (Lib.hid fun w3 n3=>?_);have T3:=T.out.below n3;obtain⟨nf,s0,s1⟩:=T3.told (.int .i64 8) (.int .i64 z);have c0:=T3.c0;have c1:=T3.c1;have f0:=T3.f0;have f1:=T3.f1;replace nf:=Lib.hid nf;replace s0:=Lib.hid s0;replace s1:=Lib.hid s1;clear T3 n3 T e0 e1;go_wp2_with fail
  replace s0:=s0.out;replace s1:=s1.out;clear c0 c1 f0 f1;generalize(w3.setCell ⟨H,0,none⟩ _).setCell ⟨H,1,none⟩ _=Wz at *;refine bodyPost_ret ?_ rfl (hR.out _ nf.out);simp [results,Tryz.results119,go_sem,s0,s1]
 ·have e:cntS ws ps=(0,0):=by unfold cntS;rw [if_neg h0,if_neg h1,if_neg h2]
  rw [e]at hR;obtain⟨nf,s0,s1⟩:=T.told (.int .i64 0) (.int .i64 0);have c0:=T.c0;have c1:=T.c1;have f0:=T.f0;have f1:=T.f1;replace nf:=Lib.hid nf;replace s0:=Lib.hid s0;replace s1:=Lib.hid s1;clear T e;go_wp2_with fail
  replace s0:=s0.out;replace s1:=s1.out;clear c0 c1 f0 f1;generalize(W0.setCell ⟨H,0,none⟩ _).setCell ⟨H,1,none⟩ _=Wz at *;refine bodyPost_ret ?_ rfl (hR.out _ nf.out);simp [results,Tryz.results119,go_sem,s0,s1]
theorem mk_str(n:Nat)(hn:n≤1000000):∃M:Array Value,M.toList=sv (List.replicate n ByteArray.empty) ∧
  ∀w,(Instr.makeSlice 60 (.int .i64 n) (.int .i64 n)).run Tryz.prog w=.ok (.slice (some ⟨w.heap.size,0,none⟩) n n) (w.alloc (.cells M 9)):=by
 obtain⟨i0,hi,hz0,hz1,hz2⟩:=info_parts infoStr;refine⟨madeCells (#[.string ByteArray.empty]) (n*1),by rw [toList_madeCells_one,Nat.mul_one];simp [sv],fun w=>?_⟩;have:=run_make (P:=Tryz.prog) w 60 9 i0 _ Tryz.underlying60 hi hz0 .i64 .i64 n n (by omega) (Int.le_refl _) (by rw [hz2];omega) (by omega)
 rw [hz1]at this;exact this
theorem sv_put(l:List ByteArray)(i:Nat)(s:ByteArray):(sv l).set i (.string s)=sv (l.set i s):=by simp [sv,List.map_set]
abbrev OwnS(w:World)(base B n:Nat)(l:List ByteArray):Prop:=w.ownsRow base 9 1 (.slice (some ⟨B,0,none⟩) n n) n (sv l)
theorem OwnS.put{w:World}{base B n:Nat}{l:List ByteArray}(ow:OwnS w base B n l)(i:Nat)(s:ByteArray):OwnS (w.setCell ⟨B,i,none⟩ (.string s)) base B n (l.set i s)∧w.grownBy (w.setCell ⟨B,i,none⟩ (.string s)) (some B):=by
 obtain⟨h1,h2⟩:=World.ownsRow.stored ow i (.string s);rw [sv_put]at h1;exact⟨h1,h2⟩
def NmsW(ws:List Wr)(K:Nat)(l:List ByteArray):Prop:=l.length=ws.length∧∀j,j<K→l[j]?=(nms ws)[j]?
theorem NmsW.put{ws:List Wr}{K:Nat}{l:List ByteArray}(h:NmsW ws K l)(hK:K<ws.length):NmsW ws (K+1) (l.set K (wN ws K).1):=by
 refine⟨by rw [List.length_set];exact h.1,fun j hj=>?_⟩
 rcases Nat.eq_or_lt_of_le (Nat.le_of_lt_succ hj)with e|q
 ·subst e;rw [nms_get hK,List.getElem?_set_self (by rw [h.1];exact hK)]
 ·rw [List.getElem?_set_ne (by omega)];exact h.2 j q
theorem NmsW.fin{ws:List Wr}{l:List ByteArray}(h:NmsW ws ws.length l):l=nms ws:=by
 refine List.ext_getElem? fun j=>?_
 by_cases hj:j<ws.length
 ·exact h.2 j hj
 ·rw [List.getElem?_eq_none (by rw [h.1];omega),List.getElem?_eq_none (by rw [nms_len];omega)]
theorem latnamesof_calls(ws:List Wr)(vw:Value)(w:World)(hw:RdW w vw ws)(hl:ws.length≤1000000)(R:Ending→World→Prop)
  (hR:Hid (∀w',OwnS w' w.heap.size w.heap.size ws.length (nms ws)→Below w.heap.size w w'→R (.returned (.slice (some ⟨w.heap.size,0,none⟩) ws.length ws.length)) w')):Calls Tryz.prog 120 #[vw] w R:=by
 obtain⟨Aw,cw,rfl,hcw,hrw⟩:=hw.op;obtain⟨M,hM,hmk⟩:=mk_str ws.length (by omega);have oA:=own_made (n:=ws.length) (w:=w) (t:=9) hM (by simp [sv]) (by unfold maxLen;omega)
 have nb1:=(Below.refl w.heap.size w).alloc (Nat.le_refl _) (.cells M 9);replace hrw:=Lib.hid hrw;replace oA:=Lib.hid oA;replace nb1:=Lib.hid nb1;clear hw hM;go_enter Tryz.func120,Tryz.ntmps120
 go_wp2_with fail
 go_loopg [11] ws.length (fun g i wr=>∃(K:Nat) (l:List ByteArray),i=.int .i64 K∧K+g=ws.length∧Hid (Below w.heap.size w wr)∧Hid (OwnS wr w.heap.size w.heap.size ws.length l)∧Hid (NmsW ws K l))
 case atStart=>exact⟨0,_,rfl,by omega,nb1,oA,Lib.hid ⟨by simp,fun j h=>by omega⟩⟩
 case round =>
  obtain⟨K,l,rfl,c1,nb,ow,hs⟩:=hrel;clear oA nb1;have hsz:=nb.out.size
  by_cases hK:K<ws.length
  ·obtain⟨g,o,rfl,hg,hca⟩:=hrw.out (by omega)
   obtain⟨x0,x1⟩:=hca K hK;have e0:=(nb.out.cell (p:=⟨g,o+K*2,none⟩) hg).trans x0;have e1:=(nb.out.cell (p:=⟨g,o+K*2+1,none⟩) hg).trans x1;have hs2:=Lib.hid (hs.out.put hK);clear hca x0 x1 hs;generalize(wN ws K).1=s at *;generalize(wN ws K).2=z at *;have hi0:(0:Int)≤(K:Int):=by omega
   have hi1:(K:Int)<(ws.length:Int):=by omega
   have r2:=World.ownsRow.frozenAt ow.out K
   have r3:∃u,wr.cell? ⟨w.heap.size,K,none⟩=some u:=by
    have:=World.ownsRow.cellAt ow.out K (by omega);have hl2:=ow.out.1;exact⟨(sv l)[K]'(by omega),by rw [this,List.getElem?_eq_getElem]⟩
   obtain⟨u,r3⟩:=r3;have bA:=(Below.refl wr.heap.size wr).alloc (Nat.le_refl _) (.cells #[.string s,.int .i64 z] 34)
   have hH:w.heap.size<wr.heap.size:=by
    obtain⟨g',c',e',-,hg',-⟩:=own_at ow.out (show 0<ws.length by omega);simp only[Value.slice.injEq,Option.some.injEq,Addr.mk.injEq]at e';rw [e'.1.1];exact hg'
   have r4:=(bA.frozen (p:=⟨w.heap.size,K,none⟩) hH).trans r2;have r5:=(bA.cell (p:=⟨w.heap.size,K,none⟩) hH).trans r3;replace bA:=Lib.hid bA;obtain⟨o3,g3⟩:=OwnS.put ow.out K s;have n3:=nb.out.trans (below_of_grown g3 (Nat.le_refl _) hsz);have o4:=Lib.hid (own_below o3 ((Below.refl _ _).alloc (Nat.le_refl _) (.cells #[.string s,.int .i64 z] 34)));have n4:=Lib.hid (n3.alloc n3.size (.cells #[.string s,.int .i64 z] 34));clear o3 g3 n3;go_wp2_with fail
   go_roundg (gk-1)
   case measure=>omega
   case rel=>exact⟨K+1,_,by go_num,by omega,n4,o4,hs2⟩
  ·obtain rfl:K=ws.length:=by omega
   obtain rfl:=hs.out.fin;have fin:=Lib.hid (hR.out _ ow.out nb.out);clear ow nb hs;go_wp2_with fail
   exact fin.out
theorem nms_at{ws:List Wr}{i:Nat}(h:i<ws.length):(nms ws).getD i ByteArray.empty=(wN ws i).1:=by rw [List.getD,nms_get h];rfl
theorem find_take{l:List ByteArray}{i:Nat}(hi:i<l.length):findS l (l.getD i ByteArray.empty)<(i:Int)↔l.getD i ByteArray.empty∈l.take i:=by
 have hg:l[i]?=some (l.getD i ByteArray.empty):=by rw [List.getD,List.getElem?_eq_getElem hi];rfl
 generalize l.getD i ByteArray.empty=s at *;rcases find_cases l s with⟨-,h⟩|⟨k,h1,h2,h3,h4⟩
 ·exact absurd (List.mem_of_getElem? hg) h
 ·rw [h4]
  constructor
  ·intro h
   refine List.mem_of_getElem? (i:=k) ?_;rw [List.getElem?_take_of_lt (by omega)];exact h2
  ·intro h
   obtain⟨j,hj,e⟩:=List.getElem_of_mem h;rw [List.length_take]at hj
   have:l[j]?=some s:=by
    rw [←e,List.getElem_take,List.getElem?_eq_getElem (by omega)]
   have:¬j<k:=fun q=>h3 j q this
   omega
theorem twi_at{ws:List Wr}{i:Nat}(hi:i<ws.length)(hp:∀j,j<i→lvAt ws j=none):(twiS (nms ws)=i)↔findS (nms ws) (wN ws i).1<(i:Int):=by
 have hno:∀j,j<i→(nms ws).getD j ByteArray.empty ∉ (nms ws).take j:=fun j hj hm=>by
  have h1:=(find_take (by rw [nms_len];omega)).2 hm
  rw [nms_at (by omega)]at h1;have h2:=hp j hj;unfold lvAt at h2
  split at h2
  ·cases h2
  ·cases h2
 rw [←nms_at hi,find_take (by rw [nms_len];exact hi)]
 constructor
 ·intro h
  rcases twi_cases (nms ws)with⟨q,-⟩|⟨m,-,q1,-,q2⟩
  ·omega
  ·obtain rfl:m=i:=by omega
   exact q1
 ·intro h
  exact twi_is (by rw [nms_len];exact hi) h hno
def chkS(ws:List Wr):Int×Int:=(firF (lvAt ws) ws.length 0).getD (0,0)
theorem latchecknames_calls(ws:List Wr)(vw vl:Value)(w:World)(hw:RdW w vw ws)(hx:RdS w vl (nms ws))(hgw:∀x∈ws,GoodW x)(hl:ws.length≤1000000)(R:Ending→World→Prop)
  (hR:Hid (∀w',Below w.heap.size w w'→R (.returned (.agg #[.int .i64 (chkS ws).1,.int .i64 (chkS ws).2])) w')):Calls Tryz.prog 121 #[vw,vl] w R:=by
 obtain⟨Aw,cw,rfl,hcw,hrw⟩:=hw.op;have T:=Flt.new w;have cT:=Lib.hid fun(W:World) (hb:Below w.heap.size w W) R hR=>twice_calls (nms ws) vl W (by rw [nms_len];exact hl) (hx.below hb) R hR
 have cR:=Lib.hid fun(W:World) s hs R hR=>right_calls s hs W R hR
 have hgood:=Lib.hid fun i (h:i<ws.length)=>(hgw _ (wN_mem h)).1
 obtain⟨Al,cl,rfl,hcl,hrl⟩:=hx.open;rw [nms_len]at *;replace hrw:=Lib.hid hrw;replace hrl:=Lib.hid hrl;have z0:w.heap.size<(w.alloc (.cells #[.int .i64 0,.int .i64 0] 26)).heap.size:=by simp
 clear hw hx hgw;go_enter Tryz.func121,Tryz.ntmps121
 go_upto_region 1 with fail
 generalize w.alloc (.cells #[.int .i64 0,.int .i64 0] 26)=W0 at *;replace T:=Lib.hid T;go_wp2_with fail
 refine cT.out W0 T.out.nb _ (Lib.hid fun w1 n1=>?_);have T1:=Lib.hid (T.out.below n1);clear T n1 z0;go_wp2_with fail
 go_loopg [12] ws.length (fun g i wr=>∃(K:Nat),i=.int .i64 K∧K+g=ws.length∧wr=w1∧Hid (∀j,j<K→lvAt ws j=none))
 case atStart=>exact⟨0,rfl,by omega,rfl,Lib.hid fun j h=>by omega⟩
 case round =>
  obtain⟨K,rfl,c1,rfl,hs⟩:=hrel;generalize hHH:w.heap.size=H at *
  by_cases hK:K<ws.length
  ·obtain⟨g,o,rfl,hg,hca⟩:=hrw.out (by omega)
   obtain⟨g2,o2,rfl,hg2,hca2⟩:=hrl.out (by omega);obtain⟨x0,x1⟩:=hca K hK;have x2:=hca2 K hK;rw [nms_at hK]at x2;have hHl:Hid (w.heap.size=H):=Lib.hid hHH;have e0:=(T1.out.nb.cell (p:=⟨g,o+K*2,none⟩) (by simp only;omega)).trans x0
   have e1:=(T1.out.nb.cell (p:=⟨g,o+K*2+1,none⟩) (by simp only;omega)).trans x1
   have e2:=(T1.out.nb.cell (p:=⟨g2,o2+K,none⟩) (by simp only;omega)).trans x2
   have hgs:=hgood.out K hK;have htw:=twi_at hK hs.out;have hlv:lvAt ws K=if rightS (wN ws K).1=false then some (9,(wN ws K).2)else if findS (nms ws) (wN ws K).1<(K:Int)then some (10,(wN ws K).2)else none:=rfl
   have hfir:∀f,lvAt ws K=some f→chkS ws=f:=fun f hf=>by
    unfold chkS;rw [fir_is ws.length 0 K (Nat.zero_le _) (by omega) hf (fun j _ hj=>hs.out j hj)];rfl
   have hnx:lvAt ws K=none→∀j,j<K+1→lvAt ws j=none:=fun h j hj=>by
    rcases Nat.eq_or_lt_of_le (Nat.le_of_lt_succ hj)with e|q
    ·subst e;exact h
    ·exact hs.out j q
   have hi0:(0:Int)≤(K:Int):=by omega
   have hi1:(K:Int)<(ws.length:Int):=by omega
   clear hca hca2 x0 x1 x2 hHH hs;generalize(wN ws K).1=s at *;generalize(wN ws K).2=z at *;generalize twiS (nms ws)=t at *;generalize lvAt ws K=V at *;cases hr:rightS s
   ·rw [if_pos hr]at hlv
    have e:=hfir _ hlv;rw [e]at hR;have cR2:=cR.out wr s hgs;rw [hr]at cR2;replace cR2:=Lib.hid cR2;clear hlv hfir hnx htw hr e;go_wp2_with fail
    refine cR2.out _ (Lib.hid ?_);go_wp2_with fail
    refine faultat_calls s z 9 _ _ (Lib.hid fun w3 n3=>?_);have T3:=T1.out.below n3;obtain⟨nf,s0,s1⟩:=T3.told (.int .i64 9) (.int .i64 z);have c0:=T3.c0;have c1:=T3.c1;have f0:=T3.f0;have f1:=T3.f1;replace nf:=Lib.hid nf;replace s0:=Lib.hid s0;replace s1:=Lib.hid s1;clear T3 n3 e0 e1 e2;go_wp2_with fail
    replace s0:=s0.out;replace s1:=s1.out;clear c0 c1 f0 f1;generalize(w3.setCell ⟨H,0,none⟩ _).setCell ⟨H,1,none⟩ _=Wz at *;refine bodyPost_ret ?_ rfl (hR.out _ nf.out);simp [results,Tryz.results121,go_sem,s0,s1]
   ·rw [if_neg (by rw [hr];simp)]at hlv
    have cR2:=cR.out wr s hgs;rw [hr]at cR2;replace cR2:=Lib.hid cR2
    by_cases ht:t=K
    ·rw [if_pos (htw.1 ht)]at hlv
     have e:=hfir _ hlv;rw [e]at hR;have q0:(((K:Nat):Int)==t)=true:=by rw [ht];simp
     clear hlv hfir hnx htw hr e ht;replace q0:=Lib.hid q0;go_wp2_with fail
     refine cR2.out _ (Lib.hid ?_);replace q0:=q0.out;go_wp2_with fail
     refine faultat_calls s z 10 _ _ (Lib.hid fun w3 n3=>?_);have T3:=T1.out.below n3;obtain⟨nf,s0,s1⟩:=T3.told (.int .i64 10) (.int .i64 z);have c0:=T3.c0;have c1:=T3.c1;have f0:=T3.f0;have f1:=T3.f1;replace nf:=Lib.hid nf;replace s0:=Lib.hid s0;replace s1:=Lib.hid s1;clear T3 n3 e0 e1 e2;go_wp2_with fail
     replace s0:=s0.out;replace s1:=s1.out;clear c0 c1 f0 f1;generalize(w3.setCell ⟨H,0,none⟩ _).setCell ⟨H,1,none⟩ _=Wz at *;refine bodyPost_ret ?_ rfl (hR.out _ nf.out);simp [results,Tryz.results121,go_sem,s0,s1]
    ·rw [if_neg (fun q=>ht (htw.2 q))]at hlv
     have e:=Lib.hid (hnx hlv);have q0:(((K:Nat):Int)==t)=false:=by simp;omega
     clear hlv hfir hnx htw hr ht;replace q0:=Lib.hid q0;go_wp2_with fail
     refine cR2.out _ (Lib.hid ?_);replace q0:=q0.out;go_wp2_with fail
     go_roundg (gk-1)
     case measure=>omega
     case rel=>exact⟨K+1,by go_num,by omega,rfl,e⟩
  ·have e:chkS ws=(0,0):=by
    unfold chkS;rw [fir_no ws.length 0 (fun j _ hj=>hs.out j (by omega))];rfl
   rw [e]at hR;obtain⟨nf,s0,s1⟩:=T1.out.told (.int .i64 0) (.int .i64 0);have c0:=T1.out.c0;have c1:=T1.out.c1;have f0:=T1.out.f0;have f1:=T1.out.f1;replace nf:=Lib.hid nf;replace s0:=Lib.hid s0;replace s1:=Lib.hid s1;replace hHH:=Lib.hid hHH;clear e hs;go_wp2_with fail
   replace s0:=s0.out;replace s1:=s1.out;clear c0 c1 f0 f1;generalize(wr.setCell ⟨H,0,none⟩ _).setCell ⟨H,1,none⟩ _=Wz at *;refine bodyPost_ret ?_ rfl (hR.out _ nf.out);simp [results,Tryz.results121,go_sem,s0,s1]
end Go.Proofs.YtabhkakomececaaGreat.Lat
