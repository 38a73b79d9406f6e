import Derived.Test.YtabhkakomececaaGreatQ21
import Derived.Test.YtabhkakomececaaGreatQ23
import Derived.StillTailTactics
set_option linter.all false
set_option maxRecDepth 100000
set_option maxHeartbeats 4000000
namespace Go.Proofs.YtabhkakomececaaGreat
namespace Lab
open Go.RowKit Go.Lib Rel Nam Lat
section
variable {n:Nat} {F:Nat→Nat→Bool}
theorem lub_nil(h:Latt n F){t:Nat}(ht:t<n)(hb:∀a,a<n→F t a=true):lubN n F []=t:=by
 have:=lub_is h (l:=[]) ht (lub_iff.2 ⟨rfl,fun d hd _=>hb d hd⟩);unfold lubN;rw [this];rfl
theorem lub_snoc(h:Latt n F){l:List Nat}(hl:∀a∈l,a<n){a:Nat}(ha:a<n):lubN n F (l++[a])=jn n F (lubN n F l) a:=by
 obtain⟨-,h1,h2,h3⟩:=lub_nat h hl;obtain⟨j0,j1,j2,j3⟩:=h.jn_best h1 ha
 have e:=lub_is h (l:=l++[a]) j0 (lub_iff.2 ⟨by
  rw [over_snoc,Bool.and_eq_true];exact⟨over_iff.2 fun x hx=>h.ord.trans _ _ _ (hl x hx) h1 j0 (over_iff.1 h2 x hx) j1,j2⟩,fun d hd ho=>by
  rw [over_snoc,Bool.and_eq_true]at ho;exact j3 d hd (h3 d hd ho.1) ho.2⟩)
 have e2:lubN n F (l++[a])=(lubZ n F (l++[a])).toNat:=rfl;rw [e2,e];rfl
theorem lub_step(h:Latt n F){xs:List Int}{K:Nat}(hK:K<xs.length):lubN n F (lvS n (xs.take (K+1)))=if 0≤zN xs K∧zN xs K<n then jn n F (lubN n F (lvS n (xs.take K))) (zN xs K).toNat else lubN n F (lvS n (xs.take K)):=by
 rw [lv_take hK]
 split
 ·exact lub_snoc h lvS_lt (by omega)
 ·rw [List.append_nil]
end
theorem labislev_calls(nm:List ByteArray)(F:Nat→Nat→Bool)(v:Value)(w:World)(h:LatP w v nm F)(a:Int)(b:Bool)(hb:b=decide (0≤a∧a<nm.length))(R:Ending→World→Prop)(hR:Hid (R (.returned (.bool b)) w)):Calls Tryz.prog 338 #[v,.int .i64 a] w R:=by
 obtain⟨p,rfl,hv,-⟩:=h;have cL:=Lib.hid fun R hR=>latlenx_calls nm p w hv R hR
 clear hv
 by_cases h0:0≤a
 ·by_cases h1:a<nm.length
  ·obtain rfl:b=true:=by rw [hb];exact decide_eq_true ⟨h0,h1⟩
   clear hb;go_enter Tryz.func338,Tryz.ntmps338
   go_wp2_with fail
   refine cL.out _ (Lib.hid ?_);go_wp2_with fail
   exact hR.out
  ·obtain rfl:b=false:=by rw [hb];exact decide_eq_false (fun h=>h1 h.2)
   clear hb;go_enter Tryz.func338,Tryz.ntmps338
   go_wp2_with fail
   refine cL.out _ (Lib.hid ?_);go_wp2_with fail
   exact retB hR.out (decide_eq_false (by omega)).symm
 ·obtain rfl:b=false:=by rw [hb];exact decide_eq_false (fun h=>h0 h.1)
  clear hb;go_enter Tryz.func338,Tryz.ntmps338
  go_wp2_with fail
  exact hR.out
theorem labjoin_calls(nm:List ByteArray)(F:Nat→Nat→Bool)(v:Value)(w:World)(h:LatP w v nm F)(xs:List Int)(vx:Value)(hx:RdZ w vx xs)(hxl:xs.length≤1000000)(R:Ending→World→Prop)
  (hR:Hid (R (.returned (.int .i64 (lubN nm.length F (lvS nm.length xs):Nat))) w)):Calls Tryz.prog 305 #[v,vx] w R:=by
 obtain⟨hL,h32⟩:=h.latt;have cB:=Lib.hid fun R hR=>latbottomx_calls nm F v w h R hR
 have cI:=Lib.hid fun a b hb R hR=>labislev_calls nm F v w h a b hb R hR
 have cJ:=Lib.hid fun(a b:Nat) (ha:a<nm.length) (hb:b<nm.length) (R:Ending→World→Prop) (hR:Hid (R (.returned (.int .i64 (jn nm.length F a b:Nat))) w))=>latjoinx_calls nm F v w h a b R (by rw [if_pos ⟨by omega,by omega,by omega,by omega⟩,Int.toNat_natCast,Int.toNat_natCast,hL.jn_eq ha hb];exact hR)
 have h0:=Lib.hid fun t (ht:t<nm.length) hb=>lub_nil hL ht hb
 have hs:=Lib.hid fun K (hK:K<xs.length)=>lub_step (n:=nm.length) (F:=F) hL hK
 have hlt:=Lib.hid fun K=>(lub_nat hL (lvS_lt (n:=nm.length) (xs:=xs.take K))).2.1
 have hz:lvS nm.length (xs.take 0)=[]:=rfl;obtain⟨p,rfl⟩:=h.ptr;obtain⟨A,c,rfl,-,hr⟩:=hx.op;replace hr:=Lib.hid hr;obtain⟨Z,hZ⟩:∃Z:Nat→Nat,Z=fun K=>lubN nm.length F (lvS nm.length (xs.take K)):=⟨_,rfl⟩
 have hs2:=Lib.hid fun K (hK:K<xs.length)=>show Z (K+1)=if 0≤zN xs K∧zN xs K<nm.length then jn nm.length F (Z K) (zN xs K).toNat else Z K by rw [hZ];exact hs.out K hK
 have hlt2:=Lib.hid fun K=>show Z K<nm.length by rw [hZ];exact hlt.out K
 have h02:=Lib.hid fun t (ht:t<nm.length) hb=>show Z 0=t by rw [hZ];exact h0.out t ht hb
 have hfin:lubN nm.length F (lvS nm.length xs)=Z xs.length:=by rw [hZ];simp only[List.take_length]
 rw [hfin]at hR;clear h hx hL h0 hs hlt hz hZ hfin;generalize nm.length=n at *;go_enter Tryz.func305,Tryz.ntmps305
 go_wp2_with fail
 refine cB.out _ (Lib.hid fun t ht hb=>?_);have e0:=Lib.hid (h02.out t ht hb);clear hb h02 cB;go_wp2_with fail
 go_loopg [5,12] xs.length (fun g s i wr=>∃K:Nat,s=.int .i64 (Z K:Nat)∧i=.int .i64 K∧K+g=xs.length∧wr=w)
 case atStart=>exact⟨0,by rw [e0.out],rfl,by omega,rfl⟩
 case round =>
  clear e0;obtain⟨K,rfl,rfl,c1,rfl⟩:=hrel
  by_cases hK:K<xs.length
  ·obtain⟨g,o,rfl,hg,hca⟩:=hr.out (by omega)
   have x0:=hca K hK;have h1:=hs2.out K hK;have h2:=hlt2.out K;have i0:(0:Int)≤(K:Int):=by omega
   have i1:(K:Int)<(xs.length:Int):=by omega
   clear hca;generalize zN xs K=x at *
   by_cases q:0≤x∧x<n
   ·rw [if_pos q]at h1
    have cI2:=Lib.hid (cI.out x true (decide_eq_true q).symm);obtain⟨a,rfl⟩:∃a:Nat,x=a:=⟨x.toNat,by omega⟩;rw [Int.toNat_natCast]at h1;have cJ2:=Lib.hid (cJ.out (Z K) a h2 (by omega));replace h1:=Lib.hid h1;generalize jn n F (Z K) a=y at *;generalize Z K=z at *;clear q cJ cI hs2 hlt2;go_wp2_with fail
    refine cI2.out _ (Lib.hid ?_);go_wp2_with fail
    refine cJ2.out _ (Lib.hid ?_);go_wp2_with fail
    go_roundg (gk-1)
    case measure=>omega
    case rel=>exact⟨K+1,by rw [h1.out],by go_num,by omega,rfl⟩
   ·rw [if_neg q]at h1
    have cI2:=Lib.hid (cI.out x false (decide_eq_false q).symm);replace h1:=Lib.hid h1;clear q cJ cI hs2 hlt2;go_wp2_with fail
    refine cI2.out _ (Lib.hid ?_);go_wp2_with fail
    go_roundg (gk-1)
    case measure=>omega
    case rel=>exact⟨K+1,by rw [h1.out],by go_num,by omega,rfl⟩
  ·obtain rfl:K=xs.length:=by omega
   clear cI cJ hs2 hlt2;go_wp2_with fail
   exact hR.out
end Lab
namespace Lab
open Go.RowKit Go.Lib Rel Nam Lat Go.ChangeShapes Go.WideShapes
def inK(l:List Nat)(K J:Nat):Bool:=(l.take J).contains K
def abK(F:Nat→Nat→Bool)(l:List Nat)(K J:Nat):Bool:=(l.take J).any fun a=>a != K&&F K a
theorem getD_at{l:List Nat}{J:Nat}(h:J<l.length):l.take (J+1)=l.take J++[l.getD J 0]:=by
 rw [List.take_succ_eq_append_getElem h]
 congr 2
 rw [List.getD,List.getElem?_eq_getElem h];rfl
end Lab
namespace Lab
open Go.RowKit Go.Lib Utf Rel Nam Lat Pat Go.ChangeShapes Go.WideShapes
def ofAt(nm:List ByteArray)(qs:List Wr)(i:Nat):Option (Int×Int):=if findS nm (wN qs i).1<0 then some (17,(wN qs i).2)else none
def fndL(nm:List ByteArray)(qs:List Wr):List Nat:=qs.map fun x=>(findS nm x.1).toNat
theorem fnd_len(nm:List ByteArray)(qs:List Wr):(fndL nm qs).length=qs.length:=by simp [fndL]
theorem fnd_take{nm:List ByteArray}{qs:List Wr}{K:Nat}(h:K<qs.length):fndL nm (qs.take (K+1))=fndL nm (qs.take K)++[(findS nm (wN qs K).1).toNat]:=by
 unfold fndL;rw [List.take_succ_eq_append_getElem h,List.map_append,wN_get h];rfl
theorem fnd_lt{nm:List ByteArray}{qs:List Wr}(h:∀j,j<qs.length→ofAt nm qs j=none):∀a∈fndL nm qs,a<nm.length:=fun a ha=>by
 obtain⟨x,hx,rfl⟩:=List.mem_map.1 ha;obtain⟨i,hi,rfl⟩:=List.getElem_of_mem hx;have h1:=h i hi;unfold ofAt at h1;rw [wN_get hi]at h1;have h2:=find_lt nm qs[i].1
 split at h1
 ·cases h1
 ·omega
theorem refof_calls(ws:List Wr)(f:Nat→List Bool)(v:Value)(w:World)(hm:RdM w v ws.length f)(hn:ws.length≤64)(vw:Value)(hw:RdW w vw ws)(qs:List Wr)(vq:Value)(hq:RdW w vq qs)(hql:qs.length≤1000000)(R:Ending→World→Prop)
  (hR:Hid (∀w',firF (ofAt (nms ws) qs) qs.length 0=none→Below w.heap.size w w'→R (.returned (.tuple #[.int .i64 (lubZ ws.length (fun a b=>on (f a) b) (fndL (nms ws) qs)),.agg #[.int .i64 0,.int .i64 0]])) w'))
  (hR2:Hid (∀x w',firF (ofAt (nms ws) qs) qs.length 0=some x→Below w.heap.size w w'→R (.returned (.tuple #[.int .i64 0,.agg #[.int .i64 x.1,.int .i64 x.2]])) w')):Calls Tryz.prog 104 #[vw,v,vq] w R:=by
 have cF:=Lib.hid fun(W:World) (hb:Below w.heap.size w W) s R hR=>reffind11_calls ws s vw W (hw.below hb) (by omega) R hR
 have cL:=Lib.hid fun(W:World) (hb:Below w.heap.size w W) l vl hx hl hll R hR=>refleast_calls ws.length f v W (hm.below hb) hn l vl hx hl hll R hR
 obtain⟨Am,cm,rfl,-,-⟩:=hm.op;obtain⟨Aw,cw,rfl,-,-⟩:=hw.op;obtain⟨Aq,cq,rfl,-,hrq⟩:=hq.op;obtain⟨j0,hJi,yz0,yz1,yz2⟩:=info_parts infoIntR;have T:=Flt.new w;replace hrq:=Lib.hid hrq;clear hm hw hq;go_enter Tryz.func104,Tryz.ntmps104
 go_upto_region 1 with fail
 generalize w.alloc (.cells #[.int .i64 0,.int .i64 0] 26)=W0 at *;have T0:=Lib.hid T;clear T;go_wp2_with fail
 go_loopg [8,9] qs.length (fun g s i wr=>∃(K:Nat) (vo:Value),vo=s∧i=.int .i64 K∧K+g=qs.length∧Hid (Flt w w.heap.size wr)∧Hid (wr.ownsRow (w.heap.size+1) 3 1 vo K (ivR (fndL (nms ws) (qs.take K))))∧Hid (∀j,j<K→ofAt (nms ws) qs j=none))
 case atStart=>exact⟨0,_,rfl,rfl,by omega,T0,Lib.hid (World.ownsRow_nil _ _ _ _),Lib.hid fun j h=>by omega⟩
 case round =>
  clear T0;obtain⟨K,vo,rfl,rfl,c1,T,own,hs⟩:=hrel;have hlt:w.heap.size+1≤wr.heap.size:=T.out.lt
  by_cases hK:K<qs.length
  ·obtain⟨g,o,rfl,hg,hca⟩:=hrq.out (by omega)
   obtain⟨x0,x1⟩:=hca K hK;have e0:=(T.out.nb.cell (p:=⟨g,o+K*2,none⟩) hg).trans x0;have e1:=(T.out.nb.cell (p:=⟨g,o+K*2+1,none⟩) hg).trans x1;have hlv:ofAt (nms ws) qs K=if findS (nms ws) (wN qs K).1<0 then some (17,(wN qs K).2)else none:=rfl;have hfir:∀f,ofAt (nms ws) qs K=some f→firF (ofAt (nms ws) qs) qs.length 0=some f:=fun f hf=>fir_is qs.length 0 K (Nat.zero_le _) (by omega) hf (fun j _ hj=>hs.out j hj)
   have hnx:ofAt (nms ws) qs K=none→∀j,j<K+1→ofAt (nms ws) qs j=none:=fun h j hj=>by
    rcases Nat.eq_or_lt_of_le (Nat.le_of_lt_succ hj)with e|q
    ·subst e;exact h
    ·exact hs.out j q
   have htk:=fnd_take (nm:=nms ws) hK;have hi0:(0:Int)≤(K:Int):=by omega
   have hi1:(K:Int)<(qs.length:Int):=by omega
   have cA:=Lib.hid (cF.out wr T.out.nb (wN qs K).1);clear hca x0 x1 hs;generalize(wN qs K).1=s at *;generalize(wN qs K).2=z at *;generalize fndL (nms ws) (qs.take K)=l0 at *;generalize ofAt (nms ws) qs K=V at *;generalize findS (nms ws) s=k at *
   by_cases q:k<0
   ·rw [if_pos q]at hlv
    have fin:=Lib.hid fun w' hb=>hR2.out _ w' (hfir _ hlv) hb
    clear hlv hfir hnx htk own;go_wp2_with fail
    refine cA.out _ (Lib.hid ?_);go_wp2_with fail
    go_still_tail 7,(by kernel_rfl)
    repeat still_step
    change wpList _ _ _ _ _ wr.drew
    have T3:=T.out.below (Below.refl _ _).drew;clear T e0 e1 cA;generalize wr.drew=W3 at *;obtain⟨nf,s0',s1'⟩:=T3.told (.int .i64 17) (.int .i64 z);have c0:=T3.c0;have c1:=T3.c1;have f0':=T3.f0;have f1':=T3.f1;replace nf:=Lib.hid nf;replace s0':=Lib.hid s0';replace s1':=Lib.hid s1';clear T3;go_wp2_with fail
    replace s0':=s0'.out;replace s1':=s1'.out;clear c0 c1 f0' f1';generalize(W3.setCell ⟨w.heap.size,0,none⟩ _).setCell ⟨w.heap.size,1,none⟩ _=Wz at *;refine bodyPost_ret ?_ rfl (fin.out _ nf.out);simp [results,Tryz.results104,go_sem,s0',s1']
   ·rw [if_neg q]at hlv
    have hn2:=Lib.hid (hnx hlv);obtain⟨a,rfl⟩:∃a:Nat,k=a:=⟨k.toNat,by omega⟩;rw [Int.toNat_natCast]at htk;replace htk:=Lib.hid htk;have ow2:=own.out;clear hlv hfir hnx q;go_wp2_with fail
    refine cA.out _ (Lib.hid ?_);go_wp2_with (at_builtin;refine app1 wr (.int .i64 (a:Nat)) 3 rfl _ _ 82 rfl (w.heap.size+1) j0 (.int .i64 0) 8 Tryz.underlying82 hJi yz0 yz1 yz2 rfl vo _ _ rfl ow2 rfl rfl (by unfold maxLen;omega) (by omega) hlt ?_;intro v' w3 hown3 hg3 hb3)
    go_roundg (gk-1)
    case measure=>omega
    case rel=>exact⟨K+1,v',rfl,by go_num,by omega,Lib.hid (T.out.below1 hb3),Lib.hid (by rw [htk.out,show ivR (l0++[a])=ivR l0++[.int .i64 (a:Nat)]by simp [ivR]];exact hown3),hn2⟩
  ·obtain rfl:K=qs.length:=by omega
   have hno:firF (ofAt (nms ws) qs) qs.length 0=none:=fir_no qs.length 0 (fun j _ hj=>hs.out j (by omega));rw [List.take_length]at own;have fin:=Lib.hid fun w' hb=>hR.out w' hno hb
   have cA:=Lib.hid (cL.out wr T.out.nb (fndL (nms ws) qs) vo (RdAt.of_own own.out) (fun a ha=>by have:=fnd_lt (fun j hj=>hs.out j hj) a ha;rwa [nms_len]at this) (by rw [fnd_len];exact hql))
   clear hno own hs;go_wp2_with fail
   refine cA.out _ (Lib.hid ?_);have T3:=T.out;obtain⟨nf,s0',s1'⟩:=T3.told (.int .i64 0) (.int .i64 0);have c0:=T3.c0;have c1:=T3.c1;have f0':=T3.f0;have f1':=T3.f1;replace nf:=Lib.hid nf;replace s0':=Lib.hid s0';replace s1':=Lib.hid s1';clear T3;go_wp2_with fail
   replace s0':=s0'.out;replace s1':=s1'.out;clear c0 c1 f0' f1';generalize(wr.setCell ⟨w.heap.size,0,none⟩ _).setCell ⟨w.heap.size,1,none⟩ _=Wz at *;refine bodyPost_ret ?_ rfl (fin.out _ nf.out);simp [results,Tryz.results104,go_sem,s0',s1']
end Lab
namespace Lab
open Go.RowKit Go.Lib Utf Rel Nam Lat
abbrev OwnZ(w:World)(base B n:Nat)(l:List Value):Prop:=w.ownsRow base 3 1 (.slice (some ⟨B,0,none⟩) n n) n l
theorem OwnZ.put{w:World}{base B n:Nat}{l:List Value}(ow:OwnZ w base B n l)(i:Nat)(x:Value):OwnZ (w.setCell ⟨B,i,none⟩ x) base B n (l.set i x)∧w.grownBy (w.setCell ⟨B,i,none⟩ x) (some B):=World.ownsRow.stored ow i x
def FilO(nm:List ByteArray)(qs:List Wr)(K:Nat)(l:List Value):Prop:=l.length=qs.length∧∀j,j<K→l[j]?=some (.int .i64 (findS nm (wN qs j).1))
theorem FilO.put{nm:List ByteArray}{qs:List Wr}{K:Nat}{l:List Value}(h:FilO nm qs K l)(hK:K<qs.length):FilO nm qs (K+1) (l.set K (.int .i64 (findS nm (wN qs K).1))):=by
 refine⟨by rw [List.length_set];exact h.1,fun j hj=>?_⟩
 rcases Nat.eq_or_lt_of_le (Nat.le_of_lt_succ hj)with e|q
 ·subst e;rw [List.getElem?_set_self (by rw [h.1];exact hK)]
 ·rw [List.getElem?_set_ne (by omega)];exact h.2 j q
theorem FilO.fin{nm:List ByteArray}{qs:List Wr}{l:List Value}(h:FilO nm qs qs.length l)(hs:∀j,j<qs.length→ofAt nm qs j=none):l=izv ((fndL nm qs).map fun(a:Nat)=>(a:Int)):=by
 refine List.ext_getElem? fun j=>?_
 by_cases hj:j<qs.length
 ·rw [h.2 j hj]
  have h1:=hs j hj;unfold ofAt at h1;have h2:¬findS nm (wN qs j).1<0:=fun q=>by rw [if_pos q]at h1;cases h1
  unfold izv fndL;rw [List.map_map,List.map_map,List.getElem?_map,List.getElem?_eq_getElem hj,wN_get hj];rw [wN_get hj]at h2;simp only[Option.map_some,Function.comp];rw [Int.toNat_of_nonneg (by omega)]
 ·rw [List.getElem?_eq_none (by rw [h.1];omega),List.getElem?_eq_none (by rw [izv_len,List.length_map,fnd_len];omega)]
theorem box_flt(w:World)(a b:Value)(t:TypeId):(w.alloc (.cells #[a,b] t)).cell? ⟨w.heap.size,0,none⟩=some a∧(w.alloc (.cells #[a,b] t)).cell? ⟨w.heap.size,1,none⟩=some b:=by
 have q1:=heap_alloc_new w (.cells #[a,b] t);exact⟨by rw [Lib.cell_of_heap q1];rfl,by rw [Lib.cell_of_heap q1];rfl⟩
theorem labof_calls(nm:List ByteArray)(F:Nat→Nat→Bool)(v:Value)(w:World)(h:LatP w v nm F)(qs:List Wr)(vq:Value)(hq:RdW w vq qs)(hgq:∀x∈qs,GoodW x)(hql:qs.length≤1000)(R:Ending→World→Prop)
  (hR:Hid (∀w',firF (ofAt nm qs) qs.length 0=none→Below w.heap.size w w'→R (.returned (.tuple #[.int .i64 (lubZ nm.length F (fndL nm qs)),.agg #[.int .i64 0,.int .i64 0]])) w'))
  (hR2:Hid (∀x w',firF (ofAt nm qs) qs.length 0=some x→Below w.heap.size w w'→R (.returned (.tuple #[.int .i64 0,.agg #[.int .i64 x.1,.int .i64 x.2]])) w')):Calls Tryz.prog 255 #[v,vq] w R:=by
 obtain⟨hL,h32⟩:=h.latt;have cF:=Lib.hid fun(W:World) (hb:Below w.heap.size w W) s hs R hR=>latfind_calls nm F v W (h.below hb) R s hs hR
 have cJ:=Lib.hid fun(W:World) (hb:Below w.heap.size w W) xs vx hx hxl R hR=>labjoin_calls nm F v W (h.below hb) xs vx hx hxl R hR
 have hgood:=Lib.hid fun i (h:i<qs.length)=>(hgq _ (wN_mem h)).1
 have hlb:=Lib.hid fun hl=>(lub_nat hL (l:=fndL nm qs) hl).1
 obtain⟨p,rfl⟩:=h.ptr;obtain⟨Aq,cq,rfl,-,hrq⟩:=hq.op;obtain⟨M,hM,hmk⟩:=mk_int qs.length (by omega);have T:=Flt.new w;have z0:(w.alloc (.cells #[.int .i64 0,.int .i64 0] 26)).heap.size=w.heap.size+1:=by simp
 replace hrq:=Lib.hid hrq;clear h hq hL hgq;go_enter Tryz.func255,Tryz.ntmps255
 go_upto_region 1 with fail
 generalize w.alloc (.cells #[.int .i64 0,.int .i64 0] 26)=W0 at *;have oA:=own_made (n:=qs.length) (w:=W0) (t:=3) (M:=M) rfl (by simp [hM]) (by unfold maxLen;omega)
 have T1:=T.below1 ((Below.refl (w.heap.size+1) W0).alloc (by omega) (.cells M 3));generalize hls:M.toList=ls0 at *;rw [z0]at oA;have hll:ls0.length=qs.length:=by rw [←hls];simp [hM]
 replace T:=Lib.hid T1;replace oA:=Lib.hid oA;replace hll:=Lib.hid hll;clear T1 hM hls;go_wp2_with fail
 go_loopg [19] qs.length (fun g i wr=>∃(K:Nat) (l:List Value),i=.int .i64 K∧K+g=qs.length∧Hid (Flt w w.heap.size wr)∧Hid (OwnZ wr (w.heap.size+1) (w.heap.size+1) qs.length l)∧Hid (FilO nm qs K l)∧Hid (∀j,j<K→ofAt nm qs j=none))
 case atStart=>exact⟨0,_,rfl,by omega,T,oA,Lib.hid ⟨hll.out,fun j h=>by omega⟩,Lib.hid fun j h=>by omega⟩
 case round =>
  clear T oA hll;obtain⟨K,l,rfl,c1,T,ow,hs,hk⟩:=hrel;have hlt:w.heap.size+1≤wr.heap.size:=T.out.lt;generalize hHH:w.heap.size=H at *
  by_cases hK:K<qs.length
  ·obtain⟨g,o,rfl,hg,hca⟩:=hrq.out (by omega)
   obtain⟨x0,x1⟩:=hca K hK;have hHl:Hid (w.heap.size=H):=Lib.hid hHH;have e0:=(T.out.nb.cell (p:=⟨g,o+K*2,none⟩) (by simp only;omega)).trans x0
   have e1:=(T.out.nb.cell (p:=⟨g,o+K*2+1,none⟩) (by simp only;omega)).trans x1
   have hgs:=hgood.out K hK;have hlv:ofAt nm qs K=if findS nm (wN qs K).1<0 then some (17,(wN qs K).2)else none:=rfl;have hfir:∀f,ofAt nm qs K=some f→firF (ofAt nm qs) qs.length 0=some f:=fun f hf=>fir_is qs.length 0 K (Nat.zero_le _) (by omega) hf (fun j _ hj=>hk.out j hj)
   have hnx:ofAt nm qs K=none→∀j,j<K+1→ofAt nm qs j=none:=fun h j hj=>by
    rcases Nat.eq_or_lt_of_le (Nat.le_of_lt_succ hj)with e|q
    ·subst e;exact h
    ·exact hk.out j q
   have hs2:=hs.out.put hK;have hi0:(0:Int)≤(K:Int):=by omega
   have hi1:(K:Int)<(qs.length:Int):=by omega
   clear hca x0 x1 hk hs;generalize(wN qs K).1=s at *;generalize(wN qs K).2=z at *;generalize ofAt nm qs K=V at *;have bA:=(Below.refl wr.heap.size wr).alloc (Nat.le_refl _) (.cells #[.string s,.int .i64 z] 34);have T2:=T.out.below bA;have ow2:=own_below ow.out bA;obtain⟨k0,k1⟩:=box_flt wr (.string s) (.int .i64 z) 34;have n2:=T2.nb;have hB:wr.heap.size<(wr.alloc (.cells #[.string s,.int .i64 z] 34)).heap.size:=by simp
   have cF2:=cF.out _ n2 s hgs;generalize hBX:wr.heap.size=BX at *;have hBXe:=Lib.hid hBX;generalize findS nm s=k at *;clear bA ow T n2
   by_cases q:k<0
   ·rw [if_pos q]at hlv
    rw [if_pos q,decide_eq_false (by omega)]at cF2;have fin:=Lib.hid fun w' hb=>hR2.out _ w' (hfir _ hlv) hb
    replace cF2:=Lib.hid cF2;replace T2:=Lib.hid T2;clear hlv hfir hnx ow2 hs2;go_wp2_with fail
    clear e0 e1;generalize wr.alloc (.cells #[.string s,.int .i64 z] 34)=Wb at *;refine cF2.out _ (Lib.hid fun w3 n3=>?_);have T3:=Lib.hid (T2.out.below n3);have k1':=(n3.cell (p:=⟨BX,1,none⟩) hB).trans k1;clear T2 n3 k0 k1;go_wp2_with fail
    go_still_tail 4,(by kernel_rfl)
    repeat still_step
    change wpList _ _ _ _ _ w3.drew
    have T4:=T3.out.below (Below.refl _ _).drew;clear T3 k1';generalize w3.drew=W3 at *;obtain⟨nf,s0',s1'⟩:=T4.told (.int .i64 17) (.int .i64 z);have c0:=T4.c0;have c1:=T4.c1;have f0':=T4.f0;have f1':=T4.f1;replace nf:=Lib.hid nf;replace s0':=Lib.hid s0';replace s1':=Lib.hid s1';clear T4;go_wp2_with fail
    replace s0':=s0'.out;replace s1':=s1'.out;clear c0 c1 f0' f1';generalize(W3.setCell ⟨H,0,none⟩ _).setCell ⟨H,1,none⟩ _=Wz at *;refine bodyPost_ret ?_ rfl (fin.out _ nf.out);simp [results,Tryz.results255,go_sem,s0',s1']
   ·rw [if_neg q]at hlv
    rw [if_neg q,decide_eq_true (by omega)]at cF2;have hn2:=Lib.hid (hnx hlv);replace cF2:=Lib.hid cF2;replace T2:=Lib.hid T2;replace ow2:=Lib.hid ow2;replace hs2:=Lib.hid hs2;clear hlv hfir hnx q k0 k1;go_wp2_with fail
    clear e0 e1;generalize wr.alloc (.cells #[.string s,.int .i64 z] 34)=Wb at *;refine cF2.out _ (Lib.hid fun w3 n3=>?_);have T3:=Lib.hid (T2.out.below n3);have ow3:=own_below ow2.out n3;obtain⟨o4,g4⟩:=OwnZ.put ow3 K (.int .i64 k);have r2:=World.ownsRow.frozenAt ow3 K
    obtain⟨u,r3⟩:∃u,w3.cell? ⟨H+1,K,none⟩=some u:=by
     have:=World.ownsRow.cellAt ow3 K (by omega);have hl2:=ow3.1;exact⟨l[K]'(by omega),by rw [this,List.getElem?_eq_getElem]⟩
    have hsz3:H+1≤w3.heap.size:=T3.out.lt;have T4:=Lib.hid (T3.out.below1 (below_of_grown g4 (Nat.le_refl _) hsz3));replace o4:=Lib.hid o4;clear T2 n3 T3 ow2 ow3 g4;go_wp2_with fail
    go_roundg (gk-1)
    case measure=>omega
    case rel=>exact⟨K+1,_,by go_num,by omega,T4,o4,hs2,hn2⟩
  ·obtain rfl:K=qs.length:=by omega
   have hno:firF (ofAt nm qs) qs.length 0=none:=fir_no qs.length 0 (fun j _ hj=>hk.out j (by omega));have e:=hs.out.fin (fun j hj=>hk.out j hj);have hlt2:=fnd_lt (fun j hj=>hk.out j hj);have hHl:Hid (w.heap.size=H):=Lib.hid hHH
   have rd:RdZ wr (.slice (some ⟨H+1,0,none⟩) qs.length qs.length) ((fndL nm qs).map fun(a:Nat)=>(a:Int)):=by
    have:=RdAt.of_own ow.out;rw [e]at this;exact this
   have n2:=T.out.nb;have cJ2:=cJ.out wr (by exact n2) _ _ rd (by rw [List.length_map,fnd_len];omega)
   rw [lvS_nat hlt2,←hlb.out hlt2]at cJ2;have fin:=Lib.hid fun w' hb=>hR.out w' hno hb
   replace cJ2:=Lib.hid cJ2;generalize lubZ nm.length F (fndL nm qs)=V at *;obtain⟨nf,s0',s1'⟩:=T.out.told (.int .i64 0) (.int .i64 0);have c0:=T.out.c0;have c1:=T.out.c1;have f0':=T.out.f0;have f1':=T.out.f1;replace nf:=Lib.hid nf;replace s0':=Lib.hid s0';replace s1':=Lib.hid s1';clear T e hs hk rd n2 ow hno hlt2 hHH cJ cF hlb;go_wp2_with fail
   refine cJ2.out _ (Lib.hid ?_);go_wp2_with fail
   replace s0':=s0'.out;replace s1':=s1'.out;clear c0 c1 f0' f1';generalize(wr.setCell ⟨H,0,none⟩ _).setCell ⟨H,1,none⟩ _=Wz at *;refine bodyPost_ret ?_ rfl (fin.out _ nf.out);simp [results,Tryz.results255,go_sem,s0',s1']
noncomputable def seesS(nm:List ByteArray)(F:Nat→Nat→Bool)(qs:List Wr)(obs:Int):Bool:=(firF (ofAt nm qs) qs.length 0).isNone&&(decide (0≤obs∧obs<nm.length)&&F (lubN nm.length F (fndL nm qs)) obs.toNat)
end Lab
namespace Lab
open Go.RowKit Go.Lib Rel Nam Lat Go.ChangeShapes Go.WideShapes
end Lab
end Go.Proofs.YtabhkakomececaaGreat
