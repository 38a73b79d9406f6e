import Derived.Test.YtabhkakomececaaGreatQ14
import Derived.Test.YtabhkakomececaaGreatQ6
set_option linter.all false
set_option maxRecDepth 100000
set_option maxHeartbeats 4000000
namespace Go.Proofs.YtabhkakomececaaGreat.Kin
open Go.RowKit Go.Lib Utf Nam Lat
theorem partNames_calls(f:Ft)(hfl:f.len≤64)(pv:Value)(w:World)(hp:RdP w pv f)(R:Ending→World→Prop)(hR:Hid (∀v' w',RdW w' v' (pnm f)→Below w.heap.size w w'→R (.returned v') w')):Calls Tryz.prog 331 #[pv] w R:=by
 obtain⟨ti,hI,hZ⟩:∃i0,Tryz.prog.info? 34=some i0∧(i0.zero,i0.size,i0.bytes)=(some (.agg #[.string ⟨#[]⟩,.int .i64 0]),2,24):=by
  have:=infoWrd;cases h:Tryz.prog.info? 34 with
  | none=>rw [h]at this;cases this
  | some i0=>rw [h]at this;exact⟨i0,rfl,by simpa using this⟩
 simp only[Prod.mk.injEq]at hZ;obtain⟨hz0,hz1,hz2⟩:=hZ;obtain⟨Ap,cp,rfl,hpl⟩:=hp.sl;replace hp:=Lib.hid hp;go_enter Tryz.func331,Tryz.ntmps331
 go_wp2_with fail
 go_loopg [3,8] f.len (fun g s k wr=>∃(K:Nat) (v:Value),s=v∧k=.int .i64 K∧K+g=f.len∧Hid (Below w.heap.size w wr)∧Hid (wr.ownsRow w.heap.size 34 2 v K (flatG encW ((pnm f).take K))))
 case atStart=>exact⟨0,_,rfl,rfl,by omega,Lib.hid (Below.refl _ _),Lib.hid (by simpa [flatG]using World.ownsRow_nil _ _ _ _)⟩
 case round =>
  obtain⟨K,v,rfl,rfl,e1,nb,own⟩:=hrel
  by_cases hK:K<f.len
  ·obtain⟨p,x,kd,r,e⟩:=Fo.drop_lt hK
   obtain⟨g,o,lv,cv,nx,px,rfl,hg,hlv,hcv,hyx,hc⟩:=hp.out.part e;obtain⟨A1,n1,rfl,-,-⟩:=hlv.op;obtain⟨A2,n2,rfl,-,-⟩:=hcv.op;obtain⟨A5,n5,rfl,-,-⟩:=hyx.n.op;obtain⟨A7,n7,rfl,-⟩:=hyx.p.sl;have rg:wr.rangeAt g (o+K*18) [.string p.name,.int .i64 p.at_,.bool p.bare,.slice A1 p.label.length n1,.int .i64 p.wide,.int .i64 p.ck,.int .i64 p.cn,.int .i64 p.cat,.slice A2 p.cl.length n2,.int .i64 x.kind,.int .i64 x.at_,.int .i64 x.lo,.int .i64 x.hi,.int .i64 x.most,.slice A5 x.names.length n5,.slice A7 kd.len n7,.string x.name,.int .i64 x.nat]:=fun j v h=>(nb.out.cell (p:=⟨g,o+K*18+j,none⟩) hg).trans (hc j v h)
   have bP:=(Below.refl wr.heap.size wr).alloc (Nat.le_refl _) (.cells #[.string p.name,.int .i64 p.at_,.bool p.bare,.slice A1 p.label.length n1,.int .i64 p.wide,.int .i64 p.ck,.int .i64 p.cn,.int .i64 p.cat,.slice A2 p.cl.length n2,.int .i64 x.kind,.int .i64 x.at_,.int .i64 x.lo,.int .i64 x.hi,.int .i64 x.most,.slice A5 x.names.length n5,.slice A7 kd.len n7,.string x.name,.int .i64 x.nat] 127);have hb:=heap_alloc_new wr (.cells #[.string p.name,.int .i64 p.at_,.bool p.bare,.slice A1 p.label.length n1,.int .i64 p.wide,.int .i64 p.ck,.int .i64 p.cn,.int .i64 p.cat,.slice A2 p.cl.length n2,.int .i64 x.kind,.int .i64 x.at_,.int .i64 x.lo,.int .i64 x.hi,.int .i64 x.most,.slice A5 x.names.length n5,.slice A7 kd.len n7,.string x.name,.int .i64 x.nat] 127);have own1:=Lib.hid (own_below own.out bP);have nbP:=Lib.hid (nb.out.trans (bP.mono nb.out.size));have hsz:=nbP.out.size;have i0:(0:Int)≤(K:Int):=by omega
   have i1:(K:Int)<(f.len:Int):=by omega
   have ht:=pnm_drop K e;clear hc e hlv hcv hyx hg own;go_upto_region 5 with(first|(refine wpList_load_g (by rfl) 127 _ rfl g (o+K*18) rfl [.string p.name,.int .i64 p.at_,.bool p.bare,.slice A1 p.label.length n1,.int .i64 p.wide,.int .i64 p.ck,.int .i64 p.cn,.int .i64 p.cat,.slice A2 p.cl.length n2,.int .i64 x.kind,.int .i64 x.at_,.int .i64 x.lo,.int .i64 x.hi,.int .i64 x.most,.slice A5 x.names.length n5,.slice A7 kd.len n7,.string x.name,.int .i64 x.nat] _ rg Tryz.underlying127 rfl (by kernel_rfl) ?_;go_simp)|(refine wpList_copy #[.string p.name,.int .i64 p.at_,.bool p.bare,.slice A1 p.label.length n1,.int .i64 p.wide,.int .i64 p.ck,.int .i64 p.cn,.int .i64 p.cat,.slice A2 p.cl.length n2,.int .i64 x.kind,.int .i64 x.at_,.int .i64 x.lo,.int .i64 x.hi,.int .i64 x.most,.slice A5 x.names.length n5,.slice A7 kd.len n7,.string x.name,.int .i64 x.nat] ⟨rfl,rfl,rfl⟩ ⟨rfl,rfl,rfl⟩ part_alloc (by kernel_rfl) ⟨rfl,by simp [Value.oneCell']⟩ (fun _=>⟨rfl,rfl⟩) ?_;go_simp))
   generalize wr.alloc (.cells #[.string p.name,.int .i64 p.at_,.bool p.bare,.slice A1 p.label.length n1,.int .i64 p.wide,.int .i64 p.ck,.int .i64 p.cn,.int .i64 p.cat,.slice A2 p.cl.length n2,.int .i64 x.kind,.int .i64 x.at_,.int .i64 x.lo,.int .i64 x.hi,.int .i64 x.most,.slice A5 x.names.length n5,.slice A7 kd.len n7,.string x.name,.int .i64 x.nat] 127)=V at *;generalize wr.heap.size=B at *;have x0:=(Lib.cell_of_heap hb 0).trans rfl;have x1:=(Lib.cell_of_heap hb 1).trans rfl;clear hb rg bP nb;go_wp2_with (at_builtin;go_loud (refine appK _ #[.string p.name,.int .i64 p.at_] 2 34 rfl _ _ 29 rfl w.heap.size ti (.agg #[.string ⟨#[]⟩,.int .i64 0]) 24 Tryz.underlying29 hI hz0 hz1 hz2 rfl (by decide) rfl _ K (flatG encW ((pnm f).take K)) rfl own1.out _ rfl rfl (by simp [Value.oneCell']) (by unfold maxLen;omega) (by omega) hsz ?_);rintro v' w3 hown3 hg3 hb3)
   have own2:=Lib.hid (show w3.ownsRow w.heap.size 34 2 v' (K+1) (flatG encW ((pnm f).take (K+1)))by rw [ht,flatG_snoc];exact hown3)
   have nb2:=Lib.hid (nbP.out.trans hb3);clear hown3 hg3 hb3 own1 nbP ht x0 x1;go_wp2_with fail
   go_roundg (gk-1)
   case measure=>omega
   case rel=>exact⟨K+1,_,rfl,by go_num,by omega,nb2,own2⟩
  ·obtain rfl:K=f.len:=by omega
   have et:(pnm f).take f.len=pnm f:=by rw [←pnm_len,List.take_length]
   have rd:=RdG.of_own own.out;rw [et]at rd;have fin:=Lib.hid (hR.out _ _ rd nb.out);clear hR rd own;go_wp2_with fail
   exact fin.out
theorem infoStr:(Tryz.prog.info? 9).map (fun i=>(i.zero,i.size,i.bytes))=some (some (.string ⟨#[]⟩),1,16):=by kernel_rfl
theorem nms_take{l:List Wr}{K:Nat}(hK:K<l.length):(nms l).take (K+1)=(nms l).take K++[(wN l K).1]:=by
 have h':K<(nms l).length:=by rw [nms_len];exact hK
 rw [List.take_succ_eq_append_getElem h']
 congr 2
 have:=nms_get hK;rw [List.getElem?_eq_getElem h']at this;exact Option.some.inj this
theorem twice15_calls(l:List Wr)(hl:l.length≤64)(va:Value)(w:World)(ha:RdW w va l)(R:Ending→World→Prop)(hR:Hid (∀w',Below w.heap.size w w'→R (.returned (.int .i64 (twiS (nms l)))) w')):Calls Tryz.prog 330 #[va] w R:=by
 obtain⟨ti,hI,hZ⟩:∃i0,Tryz.prog.info? 9=some i0∧(i0.zero,i0.size,i0.bytes)=(some (.string ⟨#[]⟩),1,16):=by
  have:=infoStr;cases h:Tryz.prog.info? 9 with
  | none=>rw [h]at this;cases this
  | some i0=>rw [h]at this;exact⟨i0,rfl,by simpa using this⟩
 simp only[Prod.mk.injEq]at hZ;obtain⟨hz0,hz1,hz2⟩:=hZ;obtain⟨A,ca,rfl,hca,hra⟩:=ha.op;replace hra:=Lib.hid hra;clear ha;go_enter Tryz.func330,Tryz.ntmps330
 go_wp2_with fail
 go_loopg [3,8] l.length (fun g s k wr=>∃(K:Nat) (v:Value),s=v∧k=.int .i64 K∧K+g=l.length∧Hid (Below w.heap.size w wr)∧Hid (wr.ownsRow w.heap.size 9 1 v K (sv ((nms l).take K))))
 case atStart=>exact⟨0,_,rfl,rfl,by omega,Lib.hid (Below.refl _ _),Lib.hid (by simpa [sv]using World.ownsRow_nil _ _ _ _)⟩
 case round =>
  obtain⟨K,v,rfl,rfl,e1,nb,own⟩:=hrel
  by_cases hK:K<l.length
  ·obtain⟨g,o,rfl,hg,hc⟩:=hra.out (by omega)
   have x0:=(nb.out.cell (p:=⟨g,o+K*2,none⟩) hg).trans (hc K hK).1;have x1:=(nb.out.cell (p:=⟨g,o+K*2+1,none⟩) hg).trans (hc K hK).2;have i0:(0:Int)≤(K:Int):=by omega
   have i1:(K:Int)<(l.length:Int):=by omega
   have ht:=nms_take hK;clear hc;generalize(wN l K).1=s at *;generalize(wN l K).2=z at *;have bP:=(Below.refl wr.heap.size wr).alloc (Nat.le_refl _) (.cells #[.string s,.int .i64 z] 34);have hb:=heap_alloc_new wr (.cells #[.string s,.int .i64 z] 34);have own1:=Lib.hid (own_below own.out bP);have nbP:=Lib.hid (nb.out.trans (bP.mono nb.out.size));have hsz:=nbP.out.size;go_upto_region 5 with fail
   generalize wr.alloc (.cells #[.string s,.int .i64 z] 34)=V at *;generalize wr.heap.size=B at *;clear x0 x1 own nb bP;have x0:=(Lib.cell_of_heap hb 0).trans rfl;clear hb;go_wp2_with (at_builtin;go_loud (refine app1 V (.string s) 9 rfl _ _ 60 rfl w.heap.size ti (.string ⟨#[]⟩) 16 Tryz.underlying60 hI hz0 hz1 hz2 rfl _ K (sv ((nms l).take K)) rfl own1.out rfl rfl (by unfold maxLen;omega) (by omega) hsz ?_);intro v' w3 hown3 hg3 hb3)
   have own2:=Lib.hid (show w3.ownsRow w.heap.size 9 1 v' (K+1) (sv ((nms l).take (K+1)))by rw [ht,sv_append];exact hown3)
   have nb2:=Lib.hid (nbP.out.trans hb3);clear hown3 hg3 hb3 own1 nbP ht x0;go_wp2_with fail
   go_roundg (gk-1)
   case measure=>omega
   case rel=>exact⟨K+1,_,rfl,by go_num,by omega,nb2,own2⟩
  ·obtain rfl:K=l.length:=by omega
   have et:(nms l).take l.length=nms l:=by rw [←nms_len l,List.take_length]
   have rd:=RdS.of_own own.out;rw [et]at rd;have hlen:(nms l).length≤1000000:=by rw [nms_len];omega
   clear own;go_wp2_with fail
   refine twice_calls (nms l) _ wr hlen rd _ (Lib.hid fun w5 n5=>?_);have fin:=Lib.hid (hR.out _ (nb.out.trans (n5.mono nb.out.size)));clear hR rd nb n5;generalize twiS (nms l)=T at *;go_wp2_with fail
   exact fin.out
theorem namesFault_calls(a:List Wr)(hm:a.length≤maxLen)(hg:∀x∈a,GoodW x)(va:Value)(w:World)(ha:RdW w va a)(R:Ending→World→Prop)
  (hR:Hid (∀w',Below w.heap.size w w'→R (.returned (.agg #[.int .i64 (if 64<a.length then((8:Int),(wN a 64).2)else enumF (nms a) 0 a).1,.int .i64 (if 64<a.length then((8:Int),(wN a 64).2)else enumF (nms a) 0 a).2])) w')):Calls Tryz.prog 287 #[va] w R:=by
 replace hm:a.length≤9223372036854775807:=hm;obtain⟨A,ca,rfl,hca,hra⟩:=ha.op;have b1:=(Below.refl w.heap.size w).alloc (Nat.le_refl _) (.cells #[.int .i64 0,.int .i64 0] 26);have e1:=heap_alloc_new w (.cells #[.int .i64 0,.int .i64 0] 26);replace hra:=Lib.hid hra;replace ha:=Lib.hid ha;go_enter Tryz.func287,Tryz.ntmps287
 go_upto_region 1 with fail
 generalize w.alloc (.cells #[.int .i64 0,.int .i64 0] 26)=V at *
 by_cases h64:64<a.length
 ·rw [if_pos h64]at hR
  obtain⟨ga,oa,rfl,hga,cs⟩:=hra.out (by omega);have x1:=(b1.cell (p:=⟨ga,oa+64*2+1,none⟩) hga).trans (cs 64 h64).2;have i1:(64:Int)<(a.length:Int):=by omega
  generalize(wN a 64).2=z at *;clear cs h64;have y0:=(Lib.cell_of_heap e1 0).trans rfl;have yf0:=Lib.frozen_of_heap e1 0;have y1:=(Lib.cell_of_heap e1 1).trans rfl;have yf1:=Lib.frozen_of_heap e1 1;have fin:=Lib.hid (hR.out _ (set2k' (q:=w.heap.size) (Nat.le_refl _) b1 (.int .i64 8) (.int .i64 z)));clear hR;go_wp2_with fail
  refine bodyPost_ret ?_ rfl fin.out;simp [results,Tryz.results287,go_sem,y0,y1]
 ·rw [if_neg h64]at hR
  have i1:¬(64:Int)<(a.length:Int):=by omega
  have hl64:a.length≤64:=by omega
  clear h64;go_wp2_with fail
  refine twice15_calls a hl64 (.slice A a.length ca) _ (ha.out.below b1) _ (Lib.hid fun wT nT=>?_);have hYT:=(nT.block _ (blt_of e1)).trans e1;have nbT:=Lib.hid (b1.trans (nT.mono b1.size));have htw:twiS (nms a)=twiS (nms a):=rfl;generalize hT:twiS (nms a)=T at htw ⊢;clear htw b1 e1 nT ha;have hT':=Lib.hid hT;clear hT;go_wp2_with fail
  go_loopg [19] a.length (fun g i wr=>∃K:Nat,i=.int .i64 K∧K+g=a.length∧Hid (Below w.heap.size w wr)∧wr.heap[w.heap.size]?=some (.cells #[.int .i64 0,.int .i64 0] 26)∧enumF (nms a) 0 a=enumF (nms a) K (a.drop K)∧Hid (∀j,j<K→listedS (nms a) j=0))
  case atStart=>exact⟨0,rfl,by omega,nbT,hYT,rfl,Lib.hid fun j hj=>absurd hj (Nat.not_lt_zero _)⟩
  case round =>
   clear nbT hYT;obtain⟨K,rfl,e1,nb,hY,e2,hz⟩:=hrel;have y0:=(Lib.cell_of_heap hY 0).trans rfl;have yf0:=Lib.frozen_of_heap hY 0;have y1:=(Lib.cell_of_heap hY 1).trans rfl;have yf1:=Lib.frozen_of_heap hY 1
   by_cases hK:K<a.length
   ·obtain⟨ga,oa,rfl,hga,cs⟩:=hra.out (by omega)
    have x0:=(nb.out.cell (p:=⟨ga,oa+K*2,none⟩) hga).trans (cs K hK).1;have x1:=(nb.out.cell (p:=⟨ga,oa+K*2+1,none⟩) hga).trans (cs K hK).2;have i0:(0:Int)≤(K:Int):=by omega
    have i1:(K:Int)<(a.length:Int):=by omega
    have hgK:=(hg _ (wN_mem hK)).1;have hnf:=listed_nf (ns:=nms a) (I:=K) (by rw [nms_len];exact hK) hz.out (wN a K).2
    rw [nms_at hK,hT'.out]at hnf;rw [enum_drop hK]at e2;generalize hE:listedS (nms a) K=E at *;clear cs;generalize(wN a K).1=s at *;generalize(wN a K).2=z at *;have bB:=(Below.refl wr.heap.size wr).alloc (Nat.le_refl _) (.cells #[.string s,.int .i64 z] 34);have hN:=heap_alloc_new wr (.cells #[.string s,.int .i64 z] 34);have hY2:=(bB.block _ (blt_of hY)).trans hY;have nb2:=Lib.hid (nb.out.trans (bB.mono nb.out.size));clear y0 y1 yf0 yf1 bB nb hY;go_upto_region 7 with fail
    generalize wr.alloc (.cells #[.string s,.int .i64 z] 34)=V2 at *;generalize wr.heap.size=B at *;clear x0 x1;have k0:=(Lib.cell_of_heap hN 0).trans rfl;have k1:=(Lib.cell_of_heap hN 1).trans rfl;have cN:=Lib.hid fun(bb:Bool) (hbb:((K:Int)==T)=bb) R hR=>nameFault_calls s z bb V2 hgK R hR
    go_wp2_with fail
    refine cN.out _ rfl _ (Lib.hid fun wL nL=>?_);rw [hnf];have hYL:=(nL.block _ (blt_of hY2)).trans hY2;have nbL:=Lib.hid (nb2.out.trans (nL.mono nb2.out.size));clear cN nL k0 k1 hN hnf nb2 hY2;have bF:=fun e z'=>(Below.refl wL.heap.size wL).alloc (Nat.le_refl _) (.cells #[.int .i64 e,.int .i64 z'] 26)
    by_cases hE0:E=0
    ·rw [if_neg (by simpa using hE0)]at e2
     rw [if_neg (by simpa using hE0)];have hY3:=((bF 0 0).block _ (blt_of hYL)).trans hYL;have nb3:=Lib.hid (nbL.out.trans ((bF 0 0).mono nbL.out.size))
     have hz2:Hid (∀j,j<K+1→listedS (nms a) j=0):=Lib.hid fun j hj=>by
      by_cases c:j<K
      ·exact hz.out j c
      ·obtain rfl:j=K:=by omega
       exact hE.trans hE0
     clear bF hz hE hE0;go_wp2_with fail
     go_roundg (gk-1)
     case measure=>omega
     case rel=>exact⟨K+1,by go_num,by omega,nb3,hY3,e2,hz2⟩
    ·rw [if_pos hE0]at e2
     rw [if_pos hE0];have qE:(E != 0)=true:=by simpa using hE0
     have hY3:=((bF E z).block _ (blt_of hYL)).trans hYL;have hF:=heap_alloc_new wL (.cells #[.int .i64 E,.int .i64 z] 26);have nb3:=Lib.hid (nbL.out.trans ((bF E z).mono nbL.out.size));clear bF hz hE hE0;have y0:=(Lib.cell_of_heap hY3 0).trans rfl;have yf0:=Lib.frozen_of_heap hY3 0;have y1:=(Lib.cell_of_heap hY3 1).trans rfl;have yf1:=Lib.frozen_of_heap hY3 1;have f0:=(Lib.cell_of_heap hF 0).trans rfl;have f1:=(Lib.cell_of_heap hF 1).trans rfl;have fin:=Lib.hid (hR.out _ (set2k' (q:=w.heap.size) (by omega) nb3.out (.int .i64 (E)) (.int .i64 (z))));rw [e2]at fin;clear hR;go_wp2_with fail
     refine bodyPost_ret ?_ rfl fin.out;simp [results,Tryz.results287,go_sem,y0,y1]
   ·obtain rfl:K=a.length:=by omega
    rw [List.drop_length]at e2;have e3:enumF (nms a) 0 a=(0,0):=e2;clear e2;have fin:=Lib.hid (hR.out _ (set2k' (q:=w.heap.size) (by omega) nb.out (.int .i64 (0)) (.int .i64 (0))));rw [e3]at fin;clear hR;go_wp2_with fail
    refine bodyPost_ret ?_ rfl fin.out;simp [results,Tryz.results287,go_sem,y0,y1]
end Go.Proofs.YtabhkakomececaaGreat.Kin
