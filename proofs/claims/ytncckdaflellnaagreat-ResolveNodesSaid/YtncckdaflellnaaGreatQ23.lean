import Derived.Test.YtncckdaflellnaaGreatQ20
import Derived.Test.YtncckdaflellnaaGreatQ21
import Derived.StillTailTactics
import Derived.Test.YtncckdaflellnaaGreatQ22
import Derived.Test.YtncckdaflellnaaGreatQ13
import Derived.Test.YtncckdaflellnaaGreatQ12
set_option linter.all false
set_option maxRecDepth 100000
set_option maxHeartbeats 4000000
namespace Go.Proofs.YtncckdaflellnaaGreat
namespace Lab
open Go.RowKit Go.Lib Rel Nam Lat Go.ChangeShapes Go.WideShapes
def inK(l:List Nat)(K J:Nat):Bool:=(l.take J).contains K
def abK(F:Nat→Nat→Bool)(l:List Nat)(K J:Nat):Bool:=(l.take J).any fun a=>a != K&&F K a
theorem getD_at{l:List Nat}{J:Nat}(h:J<l.length):l.take (J+1)=l.take J++[l.getD J 0]:=by
 rw [List.take_succ_eq_append_getElem h]
 congr 2
 rw [List.getD,List.getElem?_eq_getElem h];rfl
end Lab
namespace Lab
open Go.RowKit Go.Lib Utf Rel Nam Lat Pat Go.ChangeShapes Go.WideShapes
def ofAt(nm:List ByteArray)(qs:List Wr)(i:Nat):Option (Int×Int):=if findS nm (wN qs i).1<0 then some (17,(wN qs i).2)else none
def fndL(nm:List ByteArray)(qs:List Wr):List Nat:=qs.map fun x=>(findS nm x.1).toNat
theorem fnd_len(nm:List ByteArray)(qs:List Wr):(fndL nm qs).length=qs.length:=by simp [fndL]
theorem fnd_take{nm:List ByteArray}{qs:List Wr}{K:Nat}(h:K<qs.length):fndL nm (qs.take (K+1))=fndL nm (qs.take K)++[(findS nm (wN qs K).1).toNat]:=by
 unfold fndL;rw [List.take_succ_eq_append_getElem h,List.map_append,wN_get h];rfl
theorem fnd_lt{nm:List ByteArray}{qs:List Wr}(h:∀j,j<qs.length→ofAt nm qs j=none):∀a∈fndL nm qs,a<nm.length:=fun a ha=>by
 obtain⟨x,hx,rfl⟩:=List.mem_map.1 ha;obtain⟨i,hi,rfl⟩:=List.getElem_of_mem hx;have h1:=h i hi;unfold ofAt at h1;rw [wN_get hi]at h1;have h2:=find_lt nm qs[i].1
 split at h1
 ·cases h1
 ·omega
theorem refof_calls(ws:List Wr)(f:Nat→List Bool)(v:Value)(w:World)(hm:RdM w v ws.length f)(hn:ws.length≤64)(vw:Value)(hw:RdW w vw ws)(qs:List Wr)(vq:Value)(hq:RdW w vq qs)(hql:qs.length≤1000000)(R:Ending→World→Prop)
  (hR:Hid (∀w',firF (ofAt (nms ws) qs) qs.length 0=none→Below w.heap.size w w'→R (.returned (.tuple #[.int .i64 (lubZ ws.length (fun a b=>on (f a) b) (fndL (nms ws) qs)),.agg #[.int .i64 0,.int .i64 0]])) w'))
  (hR2:Hid (∀x w',firF (ofAt (nms ws) qs) qs.length 0=some x→Below w.heap.size w w'→R (.returned (.tuple #[.int .i64 0,.agg #[.int .i64 x.1,.int .i64 x.2]])) w')):Calls Tryz.prog 117 #[vw,v,vq] w R:=by
 have cF:=Lib.hid fun(W:World) (hb:Below w.heap.size w W) s R hR=>reffind11_calls ws s vw W (hw.below hb) (by omega) R hR
 have cL:=Lib.hid fun(W:World) (hb:Below w.heap.size w W) l vl hx hl hll R hR=>refleast_calls ws.length f v W (hm.below hb) hn l vl hx hl hll R hR
 obtain⟨Am,cm,rfl,-,-⟩:=hm.op;obtain⟨Aw,cw,rfl,-,-⟩:=hw.op;obtain⟨Aq,cq,rfl,-,hrq⟩:=hq.op;obtain⟨j0,hJi,yz0,yz1,yz2⟩:=info_parts infoIntR;have T:=Flt.new w;replace hrq:=Lib.hid hrq;clear hm hw hq;go_enter Tryz.func117,Tryz.ntmps117
 go_upto_region 1 with fail
 generalize w.alloc (.cells #[.int .i64 0,.int .i64 0] 34)=W0 at *;have T0:=Lib.hid T;clear T;go_wp2_with fail
 go_loopg [8,9] qs.length (fun g s i wr=>∃(K:Nat) (vo:Value),vo=s∧i=.int .i64 K∧K+g=qs.length∧Hid (Flt w w.heap.size wr)∧Hid (wr.ownsRow (w.heap.size+1) 3 1 vo K (ivR (fndL (nms ws) (qs.take K))))∧Hid (∀j,j<K→ofAt (nms ws) qs j=none))
 case atStart=>exact⟨0,_,rfl,rfl,by omega,T0,Lib.hid (World.ownsRow_nil _ _ _ _),Lib.hid fun j h=>by omega⟩
 case round =>
  clear T0;obtain⟨K,vo,rfl,rfl,c1,T,own,hs⟩:=hrel;have hlt:w.heap.size+1≤wr.heap.size:=T.out.lt
  by_cases hK:K<qs.length
  ·obtain⟨g,o,rfl,hg,hca⟩:=hrq.out (by omega)
   obtain⟨x0,x1⟩:=hca K hK;have e0:=(T.out.nb.cell (p:=⟨g,o+K*2,none⟩) hg).trans x0;have e1:=(T.out.nb.cell (p:=⟨g,o+K*2+1,none⟩) hg).trans x1;have hlv:ofAt (nms ws) qs K=if findS (nms ws) (wN qs K).1<0 then some (17,(wN qs K).2)else none:=rfl;have hfir:∀f,ofAt (nms ws) qs K=some f→firF (ofAt (nms ws) qs) qs.length 0=some f:=fun f hf=>fir_is qs.length 0 K (Nat.zero_le _) (by omega) hf (fun j _ hj=>hs.out j hj)
   have hnx:ofAt (nms ws) qs K=none→∀j,j<K+1→ofAt (nms ws) qs j=none:=fun h j hj=>by
    rcases Nat.eq_or_lt_of_le (Nat.le_of_lt_succ hj)with e|q
    ·subst e;exact h
    ·exact hs.out j q
   have htk:=fnd_take (nm:=nms ws) hK;have hi0:(0:Int)≤(K:Int):=by omega
   have hi1:(K:Int)<(qs.length:Int):=by omega
   have cA:=Lib.hid (cF.out wr T.out.nb (wN qs K).1);clear hca x0 x1 hs;generalize(wN qs K).1=s at *;generalize(wN qs K).2=z at *;generalize fndL (nms ws) (qs.take K)=l0 at *;generalize ofAt (nms ws) qs K=V at *;generalize findS (nms ws) s=k at *
   by_cases q:k<0
   ·rw [if_pos q]at hlv
    have fin:=Lib.hid fun w' hb=>hR2.out _ w' (hfir _ hlv) hb
    clear hlv hfir hnx htk own;go_wp2_with fail
    refine cA.out _ (Lib.hid ?_);go_wp2_with fail
    go_still_tail 7,(by kernel_rfl)
    repeat still_step
    change wpList _ _ _ _ _ wr.drew
    have T3:=T.out.below (Below.refl _ _).drew;clear T e0 e1 cA;generalize wr.drew=W3 at *;obtain⟨nf,s0',s1'⟩:=T3.told (.int .i64 17) (.int .i64 z);have c0:=T3.c0;have c1:=T3.c1;have f0':=T3.f0;have f1':=T3.f1;replace nf:=Lib.hid nf;replace s0':=Lib.hid s0';replace s1':=Lib.hid s1';clear T3;go_wp2_with fail
    replace s0':=s0'.out;replace s1':=s1'.out;clear c0 c1 f0' f1';generalize(W3.setCell ⟨w.heap.size,0,none⟩ _).setCell ⟨w.heap.size,1,none⟩ _=Wz at *;refine bodyPost_ret ?_ rfl (fin.out _ nf.out);simp [results,Tryz.results117,go_sem,s0',s1']
   ·rw [if_neg q]at hlv
    have hn2:=Lib.hid (hnx hlv);obtain⟨a,rfl⟩:∃a:Nat,k=a:=⟨k.toNat,by omega⟩;rw [Int.toNat_natCast]at htk;replace htk:=Lib.hid htk;have ow2:=own.out;clear hlv hfir hnx q;go_wp2_with fail
    refine cA.out _ (Lib.hid ?_);go_wp2_with (at_builtin;refine app1 wr (.int .i64 (a:Nat)) 3 rfl _ _ 51 rfl (w.heap.size+1) j0 (.int .i64 0) 8 Tryz.underlying51 hJi yz0 yz1 yz2 rfl vo _ _ rfl ow2 rfl rfl (by unfold maxLen;omega) (by omega) hlt ?_;intro v' w3 hown3 hg3 hb3)
    go_roundg (gk-1)
    case measure=>omega
    case rel=>exact⟨K+1,v',rfl,by go_num,by omega,Lib.hid (T.out.below1 hb3),Lib.hid (by rw [htk.out,show ivR (l0++[a])=ivR l0++[.int .i64 (a:Nat)]by simp [ivR]];exact hown3),hn2⟩
  ·obtain rfl:K=qs.length:=by omega
   have hno:firF (ofAt (nms ws) qs) qs.length 0=none:=fir_no qs.length 0 (fun j _ hj=>hs.out j (by omega));rw [List.take_length]at own;have fin:=Lib.hid fun w' hb=>hR.out w' hno hb
   have cA:=Lib.hid (cL.out wr T.out.nb (fndL (nms ws) qs) vo (RdAt.of_own own.out) (fun a ha=>by have:=fnd_lt (fun j hj=>hs.out j hj) a ha;rwa [nms_len]at this) (by rw [fnd_len];exact hql))
   clear hno own hs;go_wp2_with fail
   refine cA.out _ (Lib.hid ?_);have T3:=T.out;obtain⟨nf,s0',s1'⟩:=T3.told (.int .i64 0) (.int .i64 0);have c0:=T3.c0;have c1:=T3.c1;have f0':=T3.f0;have f1':=T3.f1;replace nf:=Lib.hid nf;replace s0':=Lib.hid s0';replace s1':=Lib.hid s1';clear T3;go_wp2_with fail
   replace s0':=s0'.out;replace s1':=s1'.out;clear c0 c1 f0' f1';generalize(wr.setCell ⟨w.heap.size,0,none⟩ _).setCell ⟨w.heap.size,1,none⟩ _=Wz at *;refine bodyPost_ret ?_ rfl (fin.out _ nf.out);simp [results,Tryz.results117,go_sem,s0',s1']
end Lab
namespace Lab
open Go.RowKit Go.Lib Utf Rel Nam Lat
abbrev OwnZ(w:World)(base B n:Nat)(l:List Value):Prop:=w.ownsRow base 3 1 (.slice (some ⟨B,0,none⟩) n n) n l
theorem OwnZ.put{w:World}{base B n:Nat}{l:List Value}(ow:OwnZ w base B n l)(i:Nat)(x:Value):OwnZ (w.setCell ⟨B,i,none⟩ x) base B n (l.set i x)∧w.grownBy (w.setCell ⟨B,i,none⟩ x) (some B):=World.ownsRow.stored ow i x
def FilO(nm:List ByteArray)(qs:List Wr)(K:Nat)(l:List Value):Prop:=l.length=qs.length∧∀j,j<K→l[j]?=some (.int .i64 (findS nm (wN qs j).1))
theorem FilO.put{nm:List ByteArray}{qs:List Wr}{K:Nat}{l:List Value}(h:FilO nm qs K l)(hK:K<qs.length):FilO nm qs (K+1) (l.set K (.int .i64 (findS nm (wN qs K).1))):=by
 refine⟨by rw [List.length_set];exact h.1,fun j hj=>?_⟩
 rcases Nat.eq_or_lt_of_le (Nat.le_of_lt_succ hj)with e|q
 ·subst e;rw [List.getElem?_set_self (by rw [h.1];exact hK)]
 ·rw [List.getElem?_set_ne (by omega)];exact h.2 j q
theorem FilO.fin{nm:List ByteArray}{qs:List Wr}{l:List Value}(h:FilO nm qs qs.length l)(hs:∀j,j<qs.length→ofAt nm qs j=none):l=izv ((fndL nm qs).map fun(a:Nat)=>(a:Int)):=by
 refine List.ext_getElem? fun j=>?_
 by_cases hj:j<qs.length
 ·rw [h.2 j hj]
  have h1:=hs j hj;unfold ofAt at h1;have h2:¬findS nm (wN qs j).1<0:=fun q=>by rw [if_pos q]at h1;cases h1
  unfold izv fndL;rw [List.map_map,List.map_map,List.getElem?_map,List.getElem?_eq_getElem hj,wN_get hj];rw [wN_get hj]at h2;simp only[Option.map_some,Function.comp];rw [Int.toNat_of_nonneg (by omega)]
 ·rw [List.getElem?_eq_none (by rw [h.1];omega),List.getElem?_eq_none (by rw [izv_len,List.length_map,fnd_len];omega)]
theorem box_flt(w:World)(a b:Value)(t:TypeId):(w.alloc (.cells #[a,b] t)).cell? ⟨w.heap.size,0,none⟩=some a∧(w.alloc (.cells #[a,b] t)).cell? ⟨w.heap.size,1,none⟩=some b:=by
 have q1:=heap_alloc_new w (.cells #[a,b] t);exact⟨by rw [Lib.cell_of_heap q1];rfl,by rw [Lib.cell_of_heap q1];rfl⟩
theorem labof_calls(nm:List ByteArray)(F:Nat→Nat→Bool)(v:Value)(w:World)(h:LatP w v nm F)(qs:List Wr)(vq:Value)(hq:RdW w vq qs)(hgq:∀x∈qs,GoodW x)(hql:qs.length≤1000)(R:Ending→World→Prop)
  (hR:Hid (∀w',firF (ofAt nm qs) qs.length 0=none→Below w.heap.size w w'→R (.returned (.tuple #[.int .i64 (lubZ nm.length F (fndL nm qs)),.agg #[.int .i64 0,.int .i64 0]])) w'))
  (hR2:Hid (∀x w',firF (ofAt nm qs) qs.length 0=some x→Below w.heap.size w w'→R (.returned (.tuple #[.int .i64 0,.agg #[.int .i64 x.1,.int .i64 x.2]])) w')):Calls Tryz.prog 187 #[v,vq] w R:=by
 obtain⟨hL,h32⟩:=h.latt;have cF:=Lib.hid fun(W:World) (hb:Below w.heap.size w W) s hs R hR=>latfind_calls nm F v W (h.below hb) R s hs hR
 have cJ:=Lib.hid fun(W:World) (hb:Below w.heap.size w W) xs vx hx hxl R hR=>labjoin_calls nm F v W (h.below hb) xs vx hx hxl R hR
 have hgood:=Lib.hid fun i (h:i<qs.length)=>(hgq _ (wN_mem h)).1
 have hlb:=Lib.hid fun hl=>(lub_nat hL (l:=fndL nm qs) hl).1
 obtain⟨p,rfl⟩:=h.ptr;obtain⟨Aq,cq,rfl,-,hrq⟩:=hq.op;obtain⟨M,hM,hmk⟩:=mk_int qs.length (by omega);have T:=Flt.new w;have z0:(w.alloc (.cells #[.int .i64 0,.int .i64 0] 34)).heap.size=w.heap.size+1:=by simp
 replace hrq:=Lib.hid hrq;clear h hq hL hgq;go_enter Tryz.func187,Tryz.ntmps187
 go_upto_region 1 with fail
 generalize w.alloc (.cells #[.int .i64 0,.int .i64 0] 34)=W0 at *;have oA:=own_made (n:=qs.length) (w:=W0) (t:=3) (M:=M) rfl (by simp [hM]) (by unfold maxLen;omega)
 have T1:=T.below1 ((Below.refl (w.heap.size+1) W0).alloc (by omega) (.cells M 3));generalize hls:M.toList=ls0 at *;rw [z0]at oA;have hll:ls0.length=qs.length:=by rw [←hls];simp [hM]
 replace T:=Lib.hid T1;replace oA:=Lib.hid oA;replace hll:=Lib.hid hll;clear T1 hM hls;go_wp2_with fail
 go_loopg [19] qs.length (fun g i wr=>∃(K:Nat) (l:List Value),i=.int .i64 K∧K+g=qs.length∧Hid (Flt w w.heap.size wr)∧Hid (OwnZ wr (w.heap.size+1) (w.heap.size+1) qs.length l)∧Hid (FilO nm qs K l)∧Hid (∀j,j<K→ofAt nm qs j=none))
 case atStart=>exact⟨0,_,rfl,by omega,T,oA,Lib.hid ⟨hll.out,fun j h=>by omega⟩,Lib.hid fun j h=>by omega⟩
 case round =>
  clear T oA hll;obtain⟨K,l,rfl,c1,T,ow,hs,hk⟩:=hrel;have hlt:w.heap.size+1≤wr.heap.size:=T.out.lt;generalize hHH:w.heap.size=H at *
  by_cases hK:K<qs.length
  ·obtain⟨g,o,rfl,hg,hca⟩:=hrq.out (by omega)
   obtain⟨x0,x1⟩:=hca K hK;have hHl:Hid (w.heap.size=H):=Lib.hid hHH;have e0:=(T.out.nb.cell (p:=⟨g,o+K*2,none⟩) (by simp only;omega)).trans x0
   have e1:=(T.out.nb.cell (p:=⟨g,o+K*2+1,none⟩) (by simp only;omega)).trans x1
   have hgs:=hgood.out K hK;have hlv:ofAt nm qs K=if findS nm (wN qs K).1<0 then some (17,(wN qs K).2)else none:=rfl;have hfir:∀f,ofAt nm qs K=some f→firF (ofAt nm qs) qs.length 0=some f:=fun f hf=>fir_is qs.length 0 K (Nat.zero_le _) (by omega) hf (fun j _ hj=>hk.out j hj)
   have hnx:ofAt nm qs K=none→∀j,j<K+1→ofAt nm qs j=none:=fun h j hj=>by
    rcases Nat.eq_or_lt_of_le (Nat.le_of_lt_succ hj)with e|q
    ·subst e;exact h
    ·exact hk.out j q
   have hs2:=hs.out.put hK;have hi0:(0:Int)≤(K:Int):=by omega
   have hi1:(K:Int)<(qs.length:Int):=by omega
   clear hca x0 x1 hk hs;generalize(wN qs K).1=s at *;generalize(wN qs K).2=z at *;generalize ofAt nm qs K=V at *;have bA:=(Below.refl wr.heap.size wr).alloc (Nat.le_refl _) (.cells #[.string s,.int .i64 z] 27);have T2:=T.out.below bA;have ow2:=own_below ow.out bA;obtain⟨k0,k1⟩:=box_flt wr (.string s) (.int .i64 z) 27;have n2:=T2.nb;have hB:wr.heap.size<(wr.alloc (.cells #[.string s,.int .i64 z] 27)).heap.size:=by simp
   have cF2:=cF.out _ n2 s hgs;generalize hBX:wr.heap.size=BX at *;have hBXe:=Lib.hid hBX;generalize findS nm s=k at *;clear bA ow T n2
   by_cases q:k<0
   ·rw [if_pos q]at hlv
    rw [if_pos q,decide_eq_false (by omega)]at cF2;have fin:=Lib.hid fun w' hb=>hR2.out _ w' (hfir _ hlv) hb
    replace cF2:=Lib.hid cF2;replace T2:=Lib.hid T2;clear hlv hfir hnx ow2 hs2;go_wp2_with fail
    clear e0 e1;generalize wr.alloc (.cells #[.string s,.int .i64 z] 27)=Wb at *;refine cF2.out _ (Lib.hid fun w3 n3=>?_);have T3:=Lib.hid (T2.out.below n3);have k1':=(n3.cell (p:=⟨BX,1,none⟩) hB).trans k1;clear T2 n3 k0 k1;go_wp2_with fail
    go_still_tail 4,(by kernel_rfl)
    repeat still_step
    change wpList _ _ _ _ _ w3.drew
    have T4:=T3.out.below (Below.refl _ _).drew;clear T3 k1';generalize w3.drew=W3 at *;obtain⟨nf,s0',s1'⟩:=T4.told (.int .i64 17) (.int .i64 z);have c0:=T4.c0;have c1:=T4.c1;have f0':=T4.f0;have f1':=T4.f1;replace nf:=Lib.hid nf;replace s0':=Lib.hid s0';replace s1':=Lib.hid s1';clear T4;go_wp2_with fail
    replace s0':=s0'.out;replace s1':=s1'.out;clear c0 c1 f0' f1';generalize(W3.setCell ⟨H,0,none⟩ _).setCell ⟨H,1,none⟩ _=Wz at *;refine bodyPost_ret ?_ rfl (fin.out _ nf.out);simp [results,Tryz.results187,go_sem,s0',s1']
   ·rw [if_neg q]at hlv
    rw [if_neg q,decide_eq_true (by omega)]at cF2;have hn2:=Lib.hid (hnx hlv);replace cF2:=Lib.hid cF2;replace T2:=Lib.hid T2;replace ow2:=Lib.hid ow2;replace hs2:=Lib.hid hs2;clear hlv hfir hnx q k0 k1;go_wp2_with fail
    clear e0 e1;generalize wr.alloc (.cells #[.string s,.int .i64 z] 27)=Wb at *;refine cF2.out _ (Lib.hid fun w3 n3=>?_);have T3:=Lib.hid (T2.out.below n3);have ow3:=own_below ow2.out n3;obtain⟨o4,g4⟩:=OwnZ.put ow3 K (.int .i64 k);have r2:=World.ownsRow.frozenAt ow3 K
    obtain⟨u,r3⟩:∃u,w3.cell? ⟨H+1,K,none⟩=some u:=by
     have:=World.ownsRow.cellAt ow3 K (by omega);have hl2:=ow3.1;exact⟨l[K]'(by omega),by rw [this,List.getElem?_eq_getElem]⟩
    have hsz3:H+1≤w3.heap.size:=T3.out.lt;have T4:=Lib.hid (T3.out.below1 (below_of_grown g4 (Nat.le_refl _) hsz3));replace o4:=Lib.hid o4;clear T2 n3 T3 ow2 ow3 g4;go_wp2_with fail
    go_roundg (gk-1)
    case measure=>omega
    case rel=>exact⟨K+1,_,by go_num,by omega,T4,o4,hs2,hn2⟩
  ·obtain rfl:K=qs.length:=by omega
   have hno:firF (ofAt nm qs) qs.length 0=none:=fir_no qs.length 0 (fun j _ hj=>hk.out j (by omega));have e:=hs.out.fin (fun j hj=>hk.out j hj);have hlt2:=fnd_lt (fun j hj=>hk.out j hj);have hHl:Hid (w.heap.size=H):=Lib.hid hHH
   have rd:RdZ wr (.slice (some ⟨H+1,0,none⟩) qs.length qs.length) ((fndL nm qs).map fun(a:Nat)=>(a:Int)):=by
    have:=RdAt.of_own ow.out;rw [e]at this;exact this
   have n2:=T.out.nb;have cJ2:=cJ.out wr (by exact n2) _ _ rd (by rw [List.length_map,fnd_len];omega)
   rw [lvS_nat hlt2,←hlb.out hlt2]at cJ2;have fin:=Lib.hid fun w' hb=>hR.out w' hno hb
   replace cJ2:=Lib.hid cJ2;generalize lubZ nm.length F (fndL nm qs)=V at *;obtain⟨nf,s0',s1'⟩:=T.out.told (.int .i64 0) (.int .i64 0);have c0:=T.out.c0;have c1:=T.out.c1;have f0':=T.out.f0;have f1':=T.out.f1;replace nf:=Lib.hid nf;replace s0':=Lib.hid s0';replace s1':=Lib.hid s1';clear T e hs hk rd n2 ow hno hlt2 hHH cJ cF hlb;go_wp2_with fail
   refine cJ2.out _ (Lib.hid ?_);go_wp2_with fail
   replace s0':=s0'.out;replace s1':=s1'.out;clear c0 c1 f0' f1';generalize(wr.setCell ⟨H,0,none⟩ _).setCell ⟨H,1,none⟩ _=Wz at *;refine bodyPost_ret ?_ rfl (fin.out _ nf.out);simp [results,Tryz.results187,go_sem,s0',s1']
noncomputable def seesS(nm:List ByteArray)(F:Nat→Nat→Bool)(qs:List Wr)(obs:Int):Bool:=(firF (ofAt nm qs) qs.length 0).isNone&&(decide (0≤obs∧obs<nm.length)&&F (lubN nm.length F (fndL nm qs)) obs.toNat)
end Lab
namespace Unp
open Nam Lat Kin
def okW(l:List Wr):Prop:=l.length≤32∧∀x∈l,rightS x.1=true
def okC(p:PH):Prop:=(p.ck=0∧p.cn=0∧p.cl=[])∨((p.ck=1∧1≤p.cn)∨(p.ck=2∧0≤p.cn∧p.cn≤4096)∨(p.ck=3∧p.cn=0))∧okW p.cl
def okH(h:TH)(k:Ft):Prop :=
1≤h.kind∧h.kind≤9∧ownB h k=true∧(h.kind=2→h.lo≤h.hi)∧(h.kind=3→0≤h.most∧h.most≤4096)∧(h.kind=5→0≤h.most∧h.most≤1024)∧(h.kind=9→rightS h.name=true) ∧
(h.kind=4→h.names≠[]∧h.names.length≤64∧∀x∈h.names,rightS x.1=true)∧(h.kind=5∨h.kind=6→onlyB k=true)∧(h.kind=7∨h.kind=8→k.len≤64)∧(h.kind=8→k.len≠0)
def okP(K:Int)(p:PH)(h:TH)(k:Ft):Prop :=
rightS p.name=true∧(p.bare=true→K=8∧zeroB h k=true∧plainB p bPH=true)∧(p.bare=false→0≤p.wide∧p.wide≤64∧okW p.label∧okC p)
def okF:Int→Ft→Prop
| _,.nil=>True
| K,.cons p h k r=>(K=7∨K=8→okP K p h k)∧(p.bare=false→okH h k∧okF h.kind k)∧okF K r
def okT(h:TH)(k:Ft):Prop:=okH h k∧okF h.kind k
theorem labG_ok:∀(l:List Wr)(i:Nat),(labG i l).1=0→i≤32→(i+l.length≤32)∧∀x∈l,rightS x.1=true
| [],i,_,hi=>⟨by simpa using hi,by simp⟩
| x::r,i,h,hi=>by
 unfold labG at h
 split at h
 ·cases h
 ·split at h
  ·cases h
  ·rename_i a b
   obtain⟨h1,h2⟩:=labG_ok r (i+1) h (by omega);refine⟨by simp only[List.length_cons];omega,fun y hy=>?_⟩
   rcases List.mem_cons.1 hy with rfl|q
   ·simpa using b
   ·exact h2 y q
theorem labG_of:∀(l:List Wr)(i:Nat),i+l.length≤32→(∀x∈l,rightS x.1=true)→labG i l=(0,0)
| [],i,_,_=>rfl
| x::r,i,h,hr=>by
 simp only[List.length_cons]at h;unfold labG;rw [if_neg (by omega),if_neg (by simp [hr x (by simp)])];exact labG_of r (i+1) (by omega) fun y hy=>hr y (by simp [hy])
theorem labF_ok:∀l:List Wr,(labF l).1=0↔∀x∈l,rightS x.1=true
| []=>by simp [labF]
| x::r=>by
 unfold labF
 split
 ·rename_i a
  rw [labF_ok r];simp [a]
 ·rename_i a
  simp [a]
theorem labelC_ok(l:List Wr):(labelC l).1=0↔okW l:=⟨fun h=>by have:=labG_ok l 0 h (by omega);exact⟨by omega,this.2⟩,fun h=>by unfold labelC;rw [labG_of l 0 (by have:=h.1;omega) h.2]⟩
theorem labelS_ok(l:List Wr):(labelS l).1=0↔okW l:=by
 unfold labelS okW
 split
 ·rename_i h
  exact⟨fun q=>(by cases q),fun q=>by omega⟩
 ·rename_i h
  rw [labF_ok];exact⟨fun q=>⟨by omega,q⟩,fun q=>q.2⟩
theorem coarC_ok(p:PH):(coarC p).1=0↔okC p:=by
 unfold coarC okC
 by_cases h0:p.ck=0
 ·rw [if_pos h0]
  by_cases h1:p.cn≠0∨p.cl≠[]
  ·rw [if_pos h1]
   constructor
   ·intro q;cases q
   ·rintro(⟨-,a,b⟩|⟨a,-⟩)
    ·rcases h1 with q|q
     ·exact absurd a q
     ·exact absurd b q
    ·omega
  ·rw [if_neg h1]
   have:p.cn=0∧p.cl=[]:=by
    constructor
    ·exact Classical.byContradiction fun q=>h1 (.inl q)
    ·exact Classical.byContradiction fun q=>h1 (.inr q)
   exact⟨fun _=>.inl ⟨h0,this⟩,fun _=>rfl⟩
 ·rw [if_neg h0]
  split
  ·rename_i a
   exact⟨fun q=>(by cases q),fun q=>by omega⟩
  ·split
   ·rename_i a b
    exact⟨fun q=>(by cases q),fun q=>by omega⟩
   ·rename_i a b
    rw [labelC_ok]
    exact⟨fun q=>.inr ⟨by omega,q⟩,fun q=>by
     rcases q with q|q
     ·omega
     ·exact q.2⟩
theorem coarS_ok(p:PH):(coarseS p).1=0↔okC p:=by
 rw [←coarC_ok];unfold coarC coarseS
 split
 ·exact Iff.rfl
 ·split
  ·exact Iff.rfl
  ·split
   ·exact Iff.rfl
   ·rw [labelC_ok,labelS_ok]
def Both(a b:Res):Prop:=(a.1=0∨b.1=0)→a=b
theorem Both.refl(a:Res):Both a a:=fun _=>rfl
theorem both_ite{c:Prop} [Decidable c]{a b a' b':Res}(h1:c→Both a a')(h2:¬c→Both b b'):Both (if c then a else b) (if c then a' else b'):=by
 by_cases q:c
 ·rw [if_pos q,if_pos q];exact h1 q
 ·rw [if_neg q,if_neg q];exact h2 q
theorem both_wrB(h:TH)(k:Ft)(s s':Mo→Nat→Nat→Res)(hs:∀mo d m,Both (s mo d m) (s' mo d m))(d m:Nat):Both (wrB h k s d m) (wrB h k s' d m):=by
 unfold wrB
 repeat' (apply ite_rel<;>intro)
 all_goals first|exact Both.refl _|exact hs _ _ _
theorem both_wF:∀(f:Ft)(mo:Mo)(d m:Nat),Both (wcF f mo d m) (wrF f mo d m)
| .nil,_,_,m=>Both.refl _
| .cons _ h k r,.one,d,m=>by
 exact both_wrB h k _ _ (fun _ _ _=>both_wF k _ _ _) d m
| .cons p h k r,.parts K ns i,d,m=>by
 have hb:=both_wrB h k (wcF k) (wrF k) (fun _ _ _=>both_wF k _ _ _) d m;unfold wcF wrF;refine both_ite (fun _=>Both.refl _) (fun _=>?_);refine both_ite (fun _=>both_ite (fun _=>Both.refl _) (fun _=>both_wF r _ _ _)) (fun _=>?_);refine both_ite (fun _=>Both.refl _) (fun _=>?_)
 by_cases c1:(labelC p.label).1=0
 ·have c2:=(labelS_ok _).2 ((labelC_ok _).1 c1)
  rw [if_neg (show ¬((labelC p.label).1≠0)from fun q=>q c1),if_neg (show ¬((labelS p.label).1≠0)from fun q=>q c2)]
  by_cases c3:(coarC p).1=0
  ·have c4:=(coarS_ok _).2 ((coarC_ok _).1 c3)
   rw [if_neg (show ¬((coarC p).1≠0)from fun q=>q c3),if_neg (show ¬((coarseS p).1≠0)from fun q=>q c4)]
   by_cases c5:(wrB h k (wcF k) d m).1=0
   ·rw [←hb (.inl c5),if_neg (show ¬((wrB h k (wcF k) d m).1≠0)from fun q=>q c5),if_neg (show ¬((wrB h k (wcF k) d m).1≠0)from fun q=>q c5)]
    exact both_wF r _ _ _
   ·rw [if_pos c5]
    have c6:(wrB h k (wrF k) d m).1≠0:=fun q=>c5 (by rw [hb (.inr q)];exact q)
    rw [if_pos c6];exact hb
  ·have c4:(coarseS p).1≠0:=fun q=>c3 ((coarC_ok _).2 ((coarS_ok _).1 q))
   rw [if_pos c3,if_pos c4];intro q;rcases q with q|q
   ·exact absurd q c3
   ·exact absurd q c4
 ·have c2:(labelS p.label).1≠0:=fun q=>c1 ((labelC_ok _).2 ((labelS_ok _).1 q))
  rw [if_pos c1,if_pos c2];intro q;rcases q with q|q
  ·exact absurd q c1
  ·exact absurd q c2
theorem wc_iff(h:TH)(f:Ft)(d m:Nat):(wrB h f (wcF f) d m).1=0↔(wrB h f (wrF f) d m).1=0:=by
 have:=both_wrB h f _ _ (both_wF f) d m;exact⟨fun q=>by rw [←this (.inl q)];exact q,fun q=>by rw [this (.inr q)];exact q⟩
theorem enumF_ok(ns:List ByteArray):∀(l:List Wr)(i:Nat),(enumF ns i l).1=0→∀j,j<l.length→listedS ns (i+j)=0
| [],_,_=>fun j hj=>by simp at hj
| x::r,i,h=>fun j hj=>by
 unfold enumF at h
 split at h
 ·rename_i a;exact absurd h a
 ·rename_i a
  cases j with
  | zero=>simpa using a
  | succ j=>have:=enumF_ok ns r (i+1) h j (by simpa using hj);rw [show i+(j+1)=i+1+j by omega];exact this
theorem listed_right{ns:List ByteArray}{i:Nat}(h:listedS ns i=0):rightS (ns.getD i ByteArray.empty)=true:=by
 unfold listedS at h
 split at h
 ·cases h
 ·rename_i a;simpa using a
theorem enum_right{l:List Wr}(h:(enumF (nms l) 0 l).1=0):∀x∈l,rightS x.1=true:=fun x hx=>by
 obtain⟨j,hj,rfl⟩:=List.mem_iff_getElem.1 hx;have:=listed_right (enumF_ok _ _ _ h j hj);rw [Nat.zero_add]at this;rw [List.getD_eq_getElem?_getD,nms_get hj,wN_get hj]at this;exact this
theorem wrB_okH{h:TH}{k:Ft}{sub:Mo→Nat→Nat→Res}{d m:Nat}(e:(wrB h k sub d m).1=0):okH h k∧d≤24∧m+1≤512 ∧
  ((h.kind=5∨h.kind=6)→wrB h k sub d m=sub .one (d+1) (m+1))∧((h.kind=7∨h.kind=8)→wrB h k sub d m=sub (.parts h.kind (nms (pnm k)) 0) (d+1) (m+1))∧(h.kind<5∨h.kind=9→(wrB h k sub d m).2.2=m+1):=by
 have h1:¬24<d:=fun q=>by unfold wrB at e;rw [if_pos q]at e;cases e
 have h2:¬512<m+1:=fun q=>by unfold wrB at e;rw [if_neg h1,if_pos q]at e;cases e
 have h3:¬(h.kind<1∨9<h.kind):=fun q=>by unfold wrB at e;rw [if_neg h1,if_neg h2,if_pos q]at e;cases e
 have h4:¬(ownB h k=false):=fun q=>by unfold wrB at e;rw [if_neg h1,if_neg h2,if_neg h3,if_pos q]at e;cases e
 have ho:ownB h k=true:=by simpa using h4
 have ek:=wrB_ok (h:=h) (k:=k) (sub:=sub) (d:=d) (m:=m) (M:=m+1) rfl (by omega) (by omega) (by omega) (by omega) ho;unfold okH
 by_cases k1:h.kind=1
 ·exact⟨⟨by omega,by omega,ho,by omega,by omega,by omega,by omega,by omega,by omega,by omega,by omega⟩,by omega,by omega,by omega,by omega,fun _=>by rw [wrB_1 rfl (by omega) (by omega) ho k1]⟩
 by_cases k2:h.kind=2
 ·have e2:=wrB_2 (sub:=sub) (d:=d) (m:=m) (M:=m+1) rfl (by omega) (by omega) ho k2
  rw [e2]at e
  by_cases c:h.hi<h.lo
  ·rw [if_pos c]at e;cases e
  ·rw [if_neg c]at e2
   exact⟨⟨by omega,by omega,ho,by omega,by omega,by omega,by omega,by omega,by omega,by omega,by omega⟩,by omega,by omega,by omega,by omega,fun _=>by rw [e2]⟩
 by_cases k3:h.kind=3
 ·have e2:=wrB_3 (sub:=sub) (d:=d) (m:=m) (M:=m+1) rfl (by omega) (by omega) ho k3
  rw [e2]at e
  by_cases c:h.most<0∨4096<h.most
  ·rw [if_pos c]at e;cases e
  ·rw [if_neg c]at e2
   exact⟨⟨by omega,by omega,ho,by omega,by omega,by omega,by omega,by omega,by omega,by omega,by omega⟩,by omega,by omega,by omega,by omega,fun _=>by rw [e2]⟩
 by_cases k4:h.kind=4
 ·have e2:=wrB_4 (sub:=sub) (d:=d) (m:=m) (M:=m+1) rfl (by omega) (by omega) ho k4
  rw [e2]at e
  by_cases c:h.names=[]
  ·rw [if_pos c]at e;cases e
  ·rw [if_neg c]at e e2
   by_cases c2:64<h.names.length
   ·rw [if_pos c2]at e;cases e
   ·rw [if_neg c2]at e e2
    exact⟨⟨by omega,by omega,ho,by omega,by omega,by omega,by omega,fun _=>⟨c,by omega,enum_right e⟩,by omega,by omega,by omega⟩,by omega,by omega,by omega,by omega,fun _=>by rw [e2]⟩
 by_cases k9:h.kind=9
 ·have e2:=wrB_9 (sub:=sub) (d:=d) (m:=m) (M:=m+1) rfl (by omega) (by omega) ho k9
  rw [e2]at e
  by_cases c:rightS h.name=false
  ·rw [if_pos c]at e;cases e
  ·rw [if_neg c]at e2
   exact⟨⟨by omega,by omega,ho,by omega,by omega,by omega,fun _=>by simpa using c,by omega,by omega,by omega,by omega⟩,by omega,by omega,by omega,by omega,fun _=>by rw [e2]⟩
 by_cases k5:h.kind=5∨h.kind=6
 ·have e2:=wrB_5 (sub:=sub) (d:=d) (m:=m) (M:=m+1) rfl (by omega) (by omega) ho k5
  rw [e2]at e
  by_cases c:onlyB k=false
  ·rw [if_pos c]at e;cases e
  ·rw [if_neg c]at e e2
   by_cases c2:h.most<0∨1024<h.most
   ·rw [if_pos c2]at e;cases e
   ·rw [if_neg c2]at e2
    exact⟨⟨by omega,by omega,ho,by omega,by omega,by omega,by omega,by omega,fun _=>by simpa using c,by omega,by omega⟩,by omega,by omega,fun _=>e2,by omega,by omega⟩
 ·have k7:h.kind=7∨h.kind=8:=by omega
  have e2:wrB h k sub d m=if h.kind=8∧k.len=0 then(15,h.at_,m+1)else if 64<k.len then(8,(wN (pnm k) 64).2,m+1)else sub (.parts h.kind (nms (pnm k)) 0) (d+1) (m+1):=by
   unfold wrB;rw [if_neg h1,if_neg h2,if_neg h3,if_neg h4,if_neg (by omega),if_neg (by omega),if_neg k4,if_neg k5,if_pos k7]
  rw [e2]at e
  by_cases c:h.kind=8∧k.len=0
  ·rw [if_pos c]at e;cases e
  ·rw [if_neg c]at e e2
   by_cases c2:64<k.len
   ·rw [if_pos c2]at e;cases e
   ·rw [if_neg c2]at e2
    exact⟨⟨by omega,by omega,ho,by omega,by omega,by omega,by omega,by omega,by omega,by omega,by omega⟩,by omega,by omega,by omega,fun _=>e2,by omega⟩
theorem plain_bare{p q:PH}(h:plainB p q=true):p.bare=q.bare:=by
 unfold plainB at h;simp only[Bool.and_eq_true]at h;simpa using h.1.1.1.1.1
theorem only_cons{f:Ft}(h:onlyB f=true):∃p x k,f=.cons p x k .nil∧p.name=ByteArray.empty∧plainB p zPH=true∧p.bare=false:=by
 cases f with
 | nil=>cases h
 | cons p x k r =>
  cases r with
  | cons=>cases h
  | nil =>
   unfold onlyB at h;simp only[Bool.and_eq_true,decide_eq_true_eq]at h;exact⟨p,x,k,rfl,h.1,h.2,plain_bare h.2⟩
def Fine(sub:Ft→Mo→Nat→Nat→Res)(f:Ft):Prop :=
(∀(K:Int) (ns:List ByteArray) (i d m:Nat),K=7∨K=8→nms (pnm f)=ns.drop i→(sub f (.parts K ns i) d m).1=0→okF K f∧(sub f (.parts K ns i) d m).2.2=m+cntF f∧(depF f=0∨d+depF f≤25)) ∧
(∀(K:Int) (d m:Nat),K≠7→K≠8→onlyB f=true→(sub f .one d m).1=0→okF K f∧(sub f .one d m).2.2=m+cntF f∧d+depF f≤25)
theorem wcB_ok{h:TH}{k:Ft}(ih:Fine wcF k){d m:Nat}(e:(wrB h k (wcF k) d m).1=0):okT h k∧(wrB h k (wcF k) d m).2.2=m+1+cntF k∧d+depF k≤24:=by
 obtain⟨h1,h2,h3,h4,h5,h6⟩:=wrB_okH e;have hk:=h1.1;have hk9:=h1.2.1
 by_cases c:h.kind=5∨h.kind=6
 ·rw [h4 c]at e ⊢
  have ho:=h1.2.2.2.2.2.2.2.2.1 c;obtain⟨a,b,z⟩:=ih.2 h.kind _ _ (by omega) (by omega) ho e;exact⟨⟨h1,a⟩,b,by omega⟩
 ·by_cases c2:h.kind=7∨h.kind=8
  ·rw [h5 c2]at e ⊢
   obtain⟨a,b,z⟩:=ih.1 h.kind _ 0 _ _ c2 (by simp) e;refine⟨⟨h1,a⟩,b,?_⟩;rcases z with z|z
   ·omega
   ·omega
  ·have hl:k.len=0:=by
    have:=h1.2.2.1;unfold ownB at this;simp only[decide_eq_true_eq]at this;rcases this.2.2.2.1 with q|q
    ·omega
    ·exact q
   obtain rfl:=Fo.len_zero hl;refine⟨⟨h1,trivial⟩,?_,?_⟩
   ·rw [h6 (by omega)];rfl
   ·show d+0≤24;omega
theorem fineC:∀f:Ft,Fine wcF f
| .nil=>⟨fun K ns i d m _ _ _=>⟨trivial,rfl,.inl rfl⟩,fun K d m _ _ h _=>by cases h⟩
| .cons p h k r=>by
 have ik:=fineC k;have ir:=fineC r;refine⟨fun K ns i d m hK hn e=>?_,fun K d m h7 h8 ho e=>?_⟩
 ·have hn1:p.name=ns.getD i ByteArray.empty:=by
   have:=congrArg (fun l=>l.head?) hn;rw [List.head?_drop]at this;rw [List.getD_eq_getElem?_getD,←this];rfl
  have hn2:nms (pnm r)=ns.drop (i+1):=by
   rw [←List.drop_drop,←hn]<;>rfl
  unfold wcF at e ⊢
  by_cases c1:listedS ns i≠0
  ·rw [if_pos c1]at e;exact absurd e c1
  rw [if_neg c1]at e ⊢;have hr:rightS p.name=true:=by rw [hn1];exact listed_right (by simpa using c1)
  rcases(Bool.eq_false_or_eq_true p.bare).symm with hb|hb
  ·rw [if_neg (by rw [hb];decide)]at e ⊢
   by_cases c2:p.wide<0∨64<p.wide
   ·rw [if_pos c2]at e;cases e
   rw [if_neg c2]at e ⊢
   by_cases c3:(labelC p.label).1≠0
   ·rw [if_pos c3]at e;exact absurd e c3
   rw [if_neg c3]at e ⊢
   by_cases c4:(coarC p).1≠0
   ·rw [if_pos c4]at e;exact absurd e c4
   rw [if_neg c4]at e ⊢
   by_cases c5:(wrB h k (wcF k) d m).1≠0
   ·rw [if_pos c5]at e;exact absurd e c5
   rw [if_neg c5]at e ⊢;obtain⟨a1,a2,a3⟩:=wcB_ok ik (by simpa using c5);obtain⟨b1,b2,b3⟩:=ir.1 K ns (i+1) d _ hK hn2 e;refine⟨⟨fun _=>⟨hr,fun q=>by rw [hb]at q;(try cases q),fun _=>⟨by omega,by omega,(labelC_ok _).1 (by simpa using c3),(coarC_ok _).1 (by simpa using c4)⟩⟩,fun _=>a1,b1⟩,?_,?_⟩
   ·rw [b2,a2]
    show _=m+((if p.bare then 0 else cntF k+1)+cntF r);rw [hb,if_neg (by decide)];omega
   ·have e1:depF (.cons p h k r)=max (if p.bare then 0 else depF k+1) (depF r):=rfl
    rw [e1,hb,if_neg (by decide)];omega
  ·rw [if_pos hb]at e ⊢
   by_cases c2:K=7∨zeroB h k=false∨plainB p bPH=false
   ·rw [if_pos c2]at e;cases e
   rw [if_neg c2]at e ⊢;obtain⟨b1,b2,b3⟩:=ir.1 K ns (i+1) d _ hK hn2 e;refine⟨⟨fun _=>⟨hr,fun _=>⟨by omega,?_,?_⟩,fun q=>by rw [hb]at q;cases q⟩,fun q=>by rw [hb]at q;(try cases q),b1⟩,?_,?_⟩
   ·cases hz:zeroB h k
    ·exact absurd (.inr (.inl hz)) c2
    ·rfl
   ·cases hz:plainB p bPH
    ·exact absurd (.inr (.inr hz)) c2
    ·rfl
   ·rw [b2]
    show _=m+((if p.bare then 0 else cntF k+1)+cntF r);rw [hb,if_pos rfl];omega
   ·have e1:depF (.cons p h k r)=max (if p.bare then 0 else depF k+1) (depF r):=rfl
    rw [e1,hb,if_pos rfl];omega
 ·obtain⟨p',x',k',e1,-,-,hb⟩:=only_cons ho
  simp only[Fo.cons.injEq]at e1;obtain⟨rfl,rfl,rfl,rfl⟩:=e1;unfold wcF at e ⊢;obtain⟨a1,a2,a3⟩:=wcB_ok ik e;refine⟨⟨fun q=>by omega,fun _=>a1,trivial⟩,?_,?_⟩
  ·rw [a2]
   show _=m+((if p.bare then 0 else cntF k+1)+0);rw [hb,if_neg (by decide)];omega
  ·have e1:depF (.cons p h k .nil)=max (if p.bare then 0 else depF k+1) 0:=rfl
   rw [e1,hb,if_neg (by decide)];omega
theorem wc_ok{h:TH}{k:Ft}(e:(wrB h k (wcF k) 1 0).1=0):okT h k∧1+cntF k≤512∧1+depF k≤24:=by
 obtain⟨a,b,c⟩:=wcB_ok (fineC k) e;have:=wrB_cnt h k (wcF k) (fun mo d m=>wcF_cnt k mo d m) 1 0 e;exact⟨a,by omega,c⟩
end Unp
end Go.Proofs.YtncckdaflellnaaGreat
