import Derived.Test.YtabhkakomececaaGreatQX
import Derived.Test.YtabhkakomececaaGreatQ49
import Derived.Test.YtabhkakomececaaGreatQ13
set_option linter.all false
set_option maxRecDepth 100000
set_option maxHeartbeats 4000000
namespace Go.Proofs.YtabhkakomececaaGreat.Kin
open Go.RowKit Go.Lib Utf Nam Lat
theorem own_emp{w:World}{base:Nat}{e:TypeId}{k n:Nat}{v:Value}{xs:List Value}(h:w.ownsRow base e k v n xs):RdAt (empW (lowS base) w) v k xs:=by
 have h0:=h;obtain⟨hl,⟨rfl,rfl⟩|⟨g,cap,cur,rfl,hb,hg,hn,hm,hc,ht⟩⟩:=h
 ·exact⟨none,0,0,rfl,hl,Nat.le_refl _,fun h=>absurd h (by omega)⟩
 ·refine⟨_,n,cap,rfl,hl,hn,fun _=>⟨g,0,rfl,?_,fun j u hj=>?_⟩⟩
  ·rw [emp_size]
   exact(h0.lt g rfl).2
  ·have:=h0.cells (g:=g) rfl j u hj
   rw [Addr.add_lit]at this;exact emp_cell.2 ⟨by unfold lowS;omega,this⟩
theorem stripW_take{l:List Wr}{K:Nat}(hK:K<l.length):(stripW l).take (K+1)=(stripW l).take K++[((wN l K).1,0)]:=by
 unfold stripW;rw [←List.map_take,←List.map_take,List.take_succ_eq_append_getElem hK,List.map_append,wN_get hK];rfl
theorem strip_snoc(l:PH)(x:TH)(k:Ft):∀f:Ft,stripF (f.snoc l x k)=(stripF f).snoc (stripP l) (stripH x) (stripF k)
| .nil=>rfl
| .cons l' x' k' r=>by
 show Fo.cons (stripP l') (stripH x') (stripF k') (stripF (r.snoc l x k))=_;rw [strip_snoc l x k r];rfl
structure Fr(b:Nat)(w w':World):Prop where
s:w.heap.size≤w'.heap.size
h:∀g,b<g→g<w.heap.size→w'.heap[g]?=w.heap[g]?
theorem Fr.trans{b:Nat}{w w' w'':World}(a:Fr b w w')(c:Fr b w' w''):Fr b w w'':=⟨Nat.le_trans a.s c.s,fun g h1 h2=>(c.h g h1 (Nat.lt_of_lt_of_le h2 a.s)).trans (a.h g h1 h2)⟩
theorem Fr.bl{b:Nat}{w w':World}(a:Below w.heap.size w w'):Fr b w w':=⟨a.size,fun g _ h2=>a.block g h2⟩
theorem Fr.refl(b:Nat)(w:World):Fr b w w:=⟨Nat.le_refl _,fun _ _ _=>rfl⟩
theorem Fr.set{b:Nat}{w w':World}(a:Fr b w w')(o:Nat)(v:Value):Fr b w (w'.setCell ⟨b,o,none⟩ v):=⟨by simpa [World.setCell]using a.s,fun g h1 h2=>(set_neK (by omega)).trans (a.h g h1 h2)⟩
theorem infoWr2:(Tryz.prog.info? 34).map (fun i=>(i.zero,i.size,i.bytes))=some (some (.agg #[.string ⟨#[]⟩,.int .i64 0]),2,24):=by kernel_rfl
theorem infoPrt:(Tryz.prog.info? 127).map (fun i=>(i.zero,i.size,i.bytes))=some (some (.agg #[.string ⟨#[]⟩,.int .i64 0,.bool false,.slice none 0 0,.int .i64 0,.int .i64 0,.int .i64 0,.int .i64 0,.slice none 0 0,.int .i64 0,.int .i64 0,.int .i64 0,.int .i64 0,.int .i64 0,.slice none 0 0,.slice none 0 0,.string ⟨#[]⟩,.int .i64 0]),18,224):=by kernel_rfl
theorem stripWords_calls(l:List Wr)(hm:l.length≤maxLen)(hl:l.length*24≤140737488355328)(va:Value)(w:World)(ha:RdW w va l)(R:Ending→World→Prop)(hR:Hid (∀v' w',RdW (empW (lowS w.heap.size) w') v' (stripW l)→Below w.heap.size w w'→R (.returned v') w')):Calls Tryz.prog 138 #[va] w R:=by
 replace hm:l.length≤9223372036854775807:=hm
 obtain⟨ti,hI,hZ⟩:∃i0,Tryz.prog.info? 34=some i0∧(i0.zero,i0.size,i0.bytes)=(some (.agg #[.string ⟨#[]⟩,.int .i64 0]),2,24):=by
  have:=infoWr2;cases h:Tryz.prog.info? 34 with
  | none=>rw [h]at this;cases this
  | some i0=>rw [h]at this;exact⟨i0,rfl,by simpa using this⟩
 simp only[Prod.mk.injEq]at hZ;obtain⟨hz0,hz1,hz2⟩:=hZ;obtain⟨A,ca,rfl,hca,hra⟩:=ha.op;replace hra:=Lib.hid hra;clear ha;go_enter Tryz.func138,Tryz.ntmps138
 go_wp2_with fail
 go_loopg [3,8] l.length (fun g s k wr=>∃(K:Nat) (v:Value),s=v∧k=.int .i64 K∧K+g=l.length∧Hid (Below w.heap.size w wr)∧Hid (wr.ownsRow w.heap.size 34 2 v K (flatG encW ((stripW l).take K))))
 case atStart=>exact⟨0,_,rfl,rfl,by omega,Lib.hid (Below.refl _ _),Lib.hid (by simpa [flatG]using World.ownsRow_nil _ _ _ _)⟩
 case round =>
  obtain⟨K,v,rfl,rfl,e1,nb,own⟩:=hrel
  by_cases hK:K<l.length
  ·obtain⟨g,o,rfl,hg,hc⟩:=hra.out (by omega)
   have x0:=(nb.out.cell (p:=⟨g,o+K*2,none⟩) hg).trans (hc K hK).1;have x1:=(nb.out.cell (p:=⟨g,o+K*2+1,none⟩) hg).trans (hc K hK).2;have i0:(0:Int)≤(K:Int):=by omega
   have i1:(K:Int)<(l.length:Int):=by omega
   have ht:=stripW_take hK;clear hc;generalize(wN l K).1=s at *;generalize(wN l K).2=z at *;have bP:=(Below.refl wr.heap.size wr).alloc (Nat.le_refl _) (.cells #[.string s,.int .i64 z] 34);have hb:=heap_alloc_new wr (.cells #[.string s,.int .i64 z] 34);have own1:=Lib.hid (own_below own.out bP);have nbP:=Lib.hid (nb.out.trans (bP.mono nb.out.size));have hsz:=nbP.out.size;go_upto_region 5 with fail
   generalize wr.alloc (.cells #[.string s,.int .i64 z] 34)=V at *;generalize wr.heap.size=B at *;clear x0 x1 own nb bP;have x0:=(Lib.cell_of_heap hb 0).trans rfl;clear hb;go_wp2_with (at_builtin;go_loud (refine appK V #[.string s,.int .i64 0] 2 34 rfl _ _ 29 rfl w.heap.size ti (.agg #[.string ⟨#[]⟩,.int .i64 0]) 24 Tryz.underlying29 hI hz0 hz1 hz2 rfl (by decide) rfl _ K (flatG encW ((stripW l).take K)) rfl own1.out _ rfl rfl (by simp [Value.oneCell']) (by unfold maxLen;omega) (by omega) hsz ?_);rintro v' w3 hown3 hg3 hb3)
   have own2:=Lib.hid (show w3.ownsRow w.heap.size 34 2 v' (K+1) (flatG encW ((stripW l).take (K+1)))by rw [ht,flatG_snoc];exact hown3)
   have nb2:=Lib.hid (nbP.out.trans hb3);clear hown3 hg3 hb3 own1 nbP ht x0;go_wp2_with fail
   go_roundg (gk-1)
   case measure=>omega
   case rel=>exact⟨K+1,_,rfl,by go_num,by omega,nb2,own2⟩
  ·obtain rfl:K=l.length:=by omega
   have et:(stripW l).take l.length=stripW l:=by rw [←stripW_len l,List.take_length]
   have rd:=own_emp own.out;rw [et]at rd;have fin:=Lib.hid (hR.out _ _ rd nb.out);clear hR rd own;go_wp2_with fail
   exact fin.out
def StripC(f:Ft):Prop:=∀(h:TH)(nv pv:Value)(w:World),LimH h→f.len≤maxLen→LimN f.len→f.All LimH LimL→f.AllB LimN→RdY w h f nv pv→∀R:Ending→World→Prop,
Hid (∀nv' pv' w',RdY (empW (lowS w.heap.size) w') (stripH h) (stripF f) nv' pv'→Below w.heap.size w w'→R (.returned (tyV (stripH h) nv' pv')) w')→Calls Tryz.prog 71 #[tyV h nv pv] w R
theorem allB_at{B:Nat→Prop}:∀(n:Nat){f:Ft}{p:PH}{x:TH}{k r:Ft},f.AllB B→f.drop n=.cons p x k r→B k.len∧k.AllB B
| 0,f,p,x,k,r,a,e=>by
 have e':f=.cons p x k r:=e;subst e';exact⟨a.1,a.2.1⟩
| n+1,.nil,p,x,k,r,a,e=>by simp [Fo.drop]at e
| n+1,.cons q y l s,p,x,k,r,a,e=>allB_at n (f:=s) a.2.2 e
theorem rows_rd{w:World}{base:Nat}{v:Value}{xs:List Value}{f:Ft}(own:w.ownsRow base 127 18 v f.len xs)(rd:RdsF 9 9 hdT plT (empW (rowS base v) w) xs f):RdP (empW (lowS base) w) v f:=by
 have k:Kp (empW (rowS base v) w) (empW (lowS base) w):=emp_kp (Nat.le_refl _) fun g _ h=>⟨fun q=>h (.inl q),rfl⟩
 have rd2:=RdsF.kp (hd:=hdT) (pl:=plT) (fun _ _ _ _ _ q h=>hdT.kp q h) (fun _ _ _ _ q h=>plT.kp q h) k rd;have h0:=own;obtain⟨hl,⟨rfl,hn⟩|⟨g,cap,cur,rfl,hb,hg,hn,hm,hc,ht⟩⟩:=own
 ·exact⟨none,0,by rw [hn],by omega,fun h=>absurd h (by omega)⟩
 ·refine⟨_,cap,rfl,hn,fun _=>⟨g,0,rfl,?_,RdsF.fo rd2 fun j u hj=>?_⟩⟩
  ·rw [emp_size]
   exact(h0.lt g rfl).2
  ·have:=h0.cells (g:=g) rfl j u hj
   rw [Addr.add_lit]at this;exact emp_cell.2 ⟨by unfold lowS;omega,this⟩
theorem stripParts_calls(f:Ft)(ih:Fo.AllK StripC f)(pv:Value)(w:World)(hfl:f.len≤maxLen)(hln:LimN f.len)(hga:f.All LimH LimL)(hgb:f.AllB LimN)(hp:RdP w pv f)(R:Ending→World→Prop)(hR:Hid (∀v' w',RdP (empW (lowS w.heap.size) w') v' (stripF f)→Below w.heap.size w w'→R (.returned v') w')):Calls Tryz.prog 139 #[pv] w R:=by
 replace hfl:f.len≤9223372036854775807:=hfl;have hln':f.len*224≤140737488355328:=hln
 obtain⟨ti,hI,hZ⟩:∃i0,Tryz.prog.info? 127=some i0∧(i0.zero,i0.size,i0.bytes)=(some (.agg #[.string ⟨#[]⟩,.int .i64 0,.bool false,.slice none 0 0,.int .i64 0,.int .i64 0,.int .i64 0,.int .i64 0,.slice none 0 0,.int .i64 0,.int .i64 0,.int .i64 0,.int .i64 0,.int .i64 0,.slice none 0 0,.slice none 0 0,.string ⟨#[]⟩,.int .i64 0]),18,224):=by
  have:=infoPrt;cases h:Tryz.prog.info? 127 with
  | none=>rw [h]at this;cases this
  | some i0=>rw [h]at this;exact⟨i0,rfl,by simpa using this⟩
 simp only[Prod.mk.injEq]at hZ;obtain⟨hz0,hz1,hz2⟩:=hZ;obtain⟨Ap,cp,rfl,hpl⟩:=hp.sl;replace hp:=Lib.hid hp;replace hga:=Lib.hid hga;replace hgb:=Lib.hid hgb;replace ih:=Lib.hid ih;go_enter Tryz.func139,Tryz.ntmps139
 go_wp2_with fail
 go_loopg [3,8] f.len (fun g s k wr=>∃(K:Nat) (v:Value) (xs:List Value),v=s∧k=.int .i64 K∧K+g=f.len∧Hid (Below w.heap.size w wr)∧Hid (wr.ownsRow w.heap.size 127 18 v K xs)∧Hid (RdsF 9 9 hdT plT (empW (rowS w.heap.size v) wr) xs (stripF (f.take K))))
 case atStart=>exact⟨0,_,[],rfl,rfl,by omega,Lib.hid (Below.refl _ _),Lib.hid (World.ownsRow_nil _ _ _ _),Lib.hid rfl⟩
 case round =>
  obtain⟨K,v,xs,rfl,rfl,e1,nb,own,rds⟩:=hrel
  by_cases hK:K<f.len
  ·obtain⟨p,x,kd,r,e⟩:=Fo.drop_lt hK
   obtain⟨g,o,lv,cv,nx,px,rfl,hg,hlv,hcv,hyx,hc⟩:=hp.out.part e;obtain⟨A1,n1,rfl,-,-⟩:=hlv.op;obtain⟨A2,n2,rfl,-,-⟩:=hcv.op;obtain⟨A5,n5,rfl,-,-⟩:=hyx.n.op;obtain⟨A7,n7,rfl,-⟩:=hyx.p.sl;obtain⟨gp,gx,gk',ga2⟩:=all_at K hga.out e;obtain⟨gbn,gb2⟩:=allB_at K hgb.out e;have ihK:=Lib.hid ((ih.out).at_ e);have hts:stripF (f.take (K+1))=(stripF (f.take K)).snoc (stripP p) (stripH x) (stripF kd):=by rw [Fo.take_succ K e,strip_snoc]
   have rg:wr.rangeAt g (o+K*18) [.string p.name,.int .i64 p.at_,.bool p.bare,.slice A1 p.label.length n1,.int .i64 p.wide,.int .i64 p.ck,.int .i64 p.cn,.int .i64 p.cat,.slice A2 p.cl.length n2,.int .i64 x.kind,.int .i64 x.at_,.int .i64 x.lo,.int .i64 x.hi,.int .i64 x.most,.slice A5 x.names.length n5,.slice A7 kd.len n7,.string x.name,.int .i64 x.nat]:=fun j v h=>(nb.out.cell (p:=⟨g,o+K*18+j,none⟩) hg).trans (hc j v h)
   have bP:=(Below.refl wr.heap.size wr).alloc (Nat.le_refl _) (.cells #[.string p.name,.int .i64 p.at_,.bool p.bare,.slice A1 p.label.length n1,.int .i64 p.wide,.int .i64 p.ck,.int .i64 p.cn,.int .i64 p.cat,.slice A2 p.cl.length n2,.int .i64 x.kind,.int .i64 x.at_,.int .i64 x.lo,.int .i64 x.hi,.int .i64 x.most,.slice A5 x.names.length n5,.slice A7 kd.len n7,.string x.name,.int .i64 x.nat] 127);have hb:=heap_alloc_new wr (.cells #[.string p.name,.int .i64 p.at_,.bool p.bare,.slice A1 p.label.length n1,.int .i64 p.wide,.int .i64 p.ck,.int .i64 p.cn,.int .i64 p.cat,.slice A2 p.cl.length n2,.int .i64 x.kind,.int .i64 x.at_,.int .i64 x.lo,.int .i64 x.hi,.int .i64 x.most,.slice A5 x.names.length n5,.slice A7 kd.len n7,.string x.name,.int .i64 x.nat] 127);have i0:(0:Int)≤(K:Int):=by omega
   have i1:(K:Int)<(f.len:Int):=by omega
   have hww:=nb.out.size;have rl:=Lib.hid fun(W:World) (n:Below wr.heap.size wr W)=>hlv.below (nb.out.trans (n.mono nb.out.size))
   have rc:=Lib.hid fun(W:World) (n:Below wr.heap.size wr W)=>hcv.below (nb.out.trans (n.mono nb.out.size))
   have ry:=Lib.hid fun(W:World) (n:Below wr.heap.size wr W)=>hyx.below (nb.out.trans (n.mono nb.out.size))
   clear hc e hlv hcv hyx hg;go_upto_region 5 with(first|(refine wpList_load_g (by rfl) 127 _ rfl g (o+K*18) rfl [.string p.name,.int .i64 p.at_,.bool p.bare,.slice A1 p.label.length n1,.int .i64 p.wide,.int .i64 p.ck,.int .i64 p.cn,.int .i64 p.cat,.slice A2 p.cl.length n2,.int .i64 x.kind,.int .i64 x.at_,.int .i64 x.lo,.int .i64 x.hi,.int .i64 x.most,.slice A5 x.names.length n5,.slice A7 kd.len n7,.string x.name,.int .i64 x.nat] _ rg Tryz.underlying127 rfl (by kernel_rfl) ?_;go_simp)|(refine wpList_copy #[.string p.name,.int .i64 p.at_,.bool p.bare,.slice A1 p.label.length n1,.int .i64 p.wide,.int .i64 p.ck,.int .i64 p.cn,.int .i64 p.cat,.slice A2 p.cl.length n2,.int .i64 x.kind,.int .i64 x.at_,.int .i64 x.lo,.int .i64 x.hi,.int .i64 x.most,.slice A5 x.names.length n5,.slice A7 kd.len n7,.string x.name,.int .i64 x.nat] ⟨rfl,rfl,rfl⟩ ⟨rfl,rfl,rfl⟩ part_alloc (by kernel_rfl) ⟨rfl,by simp [Value.oneCell']⟩ (fun _=>⟨rfl,rfl⟩) ?_;go_simp))
   clear rg;generalize wr.alloc (.cells #[.string p.name,.int .i64 p.at_,.bool p.bare,.slice A1 p.label.length n1,.int .i64 p.wide,.int .i64 p.ck,.int .i64 p.cn,.int .i64 p.cat,.slice A2 p.cl.length n2,.int .i64 x.kind,.int .i64 x.at_,.int .i64 x.lo,.int .i64 x.hi,.int .i64 x.most,.slice A5 x.names.length n5,.slice A7 kd.len n7,.string x.name,.int .i64 x.nat] 127)=V1 at *;generalize hBe:wr.heap.size=B at *;have u1:=(Lib.cell_of_heap hb 1).trans rfl;have uf1:=Lib.frozen_of_heap hb 1;have hb1:=set_atK hb 1 (.int .i64 0);simp only[List.setIfInBounds_toArray,List.set_cons_succ,List.set_cons_zero]at hb1;have nb1:=bP.setCell (p:=⟨B,1,none⟩) (Nat.le_refl _) (.int .i64 0);have hB1:B<(V1.setCell ⟨B,1,none⟩ (.int .i64 0)).heap.size:=blt_of hb1;clear hb;go_upto_region 6 with fail
   generalize V1.setCell ⟨B,1,none⟩ (.int .i64 0)=V2 at *;clear u1 uf1 bP;have u3:=(Lib.cell_of_heap hb1 3).trans rfl;go_wp2_with fail
   refine stripWords_calls p.label gp.1.2.2.2.2.2.2.2.2.1 gp.2.1 (.slice A1 p.label.length n1) V2 (rl.out V2 nb1) _ (Lib.hid fun v1 w1 r1 m1=>?_);obtain⟨B1,c1,rfl,-,-⟩:=r1.op;have hb2:=(m1.block _ (blt_of hb1)).trans hb1;have nb2:=nb1.trans (m1.mono (by have:=nb1.size;omega))
   clear u3 hb1;have u3:=(Lib.cell_of_heap hb2 3).trans rfl;have uf3:=Lib.frozen_of_heap hb2 3;have u7:=(Lib.cell_of_heap hb2 7).trans rfl;have uf7:=Lib.frozen_of_heap hb2 7;have hb4:=set_atK (set_atK hb2 3 (.slice B1 (stripW p.label).length c1)) 7 (.int .i64 0);simp only[List.setIfInBounds_toArray,List.set_cons_succ,List.set_cons_zero]at hb4;have nb4:=(nb2.setCell (p:=⟨B,3,none⟩) (Nat.le_refl _) (.slice B1 (stripW p.label).length c1)).setCell (p:=⟨B,7,none⟩) (Nat.le_refl _) (.int .i64 0);have f1:Fr B w1 ((w1.setCell ⟨B,3,none⟩ (.slice B1 (stripW p.label).length c1)).setCell ⟨B,7,none⟩ (.int .i64 0)):=((Fr.refl B w1).set 3 _).set 7 _;clear hb2;go_upto_region 8 with fail
   generalize(w1.setCell ⟨B,3,none⟩ (.slice B1 (stripW p.label).length c1)).setCell ⟨B,7,none⟩ (.int .i64 0)=V4 at *;clear u3 uf3 u7 uf7;have u8:=(Lib.cell_of_heap hb4 8).trans rfl;go_wp2_with fail
   refine stripWords_calls p.cl gp.1.2.2.2.2.2.2.2.2.2 gp.2.2 (.slice A2 p.cl.length n2) V4 (rc.out V4 nb4) _ (Lib.hid fun v2 w2 r2 m2=>?_);obtain⟨B2,c2,rfl,-,-⟩:=r2.op;have hb5:=(m2.block _ (blt_of hb4)).trans hb4;have nb5':=nb4.trans (m2.mono (by have:=nb4.size;omega))
   clear u8;have u8:=(Lib.cell_of_heap hb5 8).trans rfl;have uf8:=Lib.frozen_of_heap hb5 8;have hb6:=set_atK hb5 8 (.slice B2 (stripW p.cl).length c2);simp only[List.setIfInBounds_toArray,List.set_cons_succ,List.set_cons_zero]at hb6;have nb5:=nb5'.setCell (p:=⟨B,8,none⟩) (Nat.le_refl _) (.slice B2 (stripW p.cl).length c2);have f2:Fr B w2 (w2.setCell ⟨B,8,none⟩ (.slice B2 (stripW p.cl).length c2)):=(Fr.refl B w2).set 8 _;have f12:=f1.trans ((Fr.bl m2).trans f2);have hV4:B<V4.heap.size:=blt_of hb4;clear hb5 hb4 f1;go_upto_region 9 with fail
   generalize w2.setCell ⟨B,8,none⟩ (.slice B2 (stripW p.cl).length c2)=V5 at *;clear u8 uf8;have r9:V5.rangeAt B 9 [.int .i64 x.kind,.int .i64 x.at_,.int .i64 x.lo,.int .i64 x.hi,.int .i64 x.most,.slice A5 x.names.length n5,.slice A7 kd.len n7,.string x.name,.int .i64 x.nat]:=fun j v h=>by rw [Lib.cell_of_heap hb6,List.getElem?_toArray,←List.getElem?_drop];exact h
   have cS:=Lib.hid fun R hR=>ihK.out x (.slice A5 x.names.length n5) (.slice A7 kd.len n7) V5 gx gk' gbn ga2 gb2 (ry.out V5 nb5) R hR
   go_wp2_with (refine wpList_load_g (by rfl) 36 _ rfl B 9 rfl [.int .i64 x.kind,.int .i64 x.at_,.int .i64 x.lo,.int .i64 x.hi,.int .i64 x.most,.slice A5 x.names.length n5,.slice A7 kd.len n7,.string x.name,.int .i64 x.nat] _ r9 Tryz.underlying36 rfl (by kernel_rfl) ?_;go_simp)
   refine cS.out _ (Lib.hid fun nv3 pv3 w3 r3 n3=>?_);obtain⟨B3,c3,rfl,-,-⟩:=r3.n.op;obtain⟨B4,c4,rfl,-⟩:=r3.p.sl;have hb7:=(n3.block _ (blt_of hb6)).trans hb6;have hV5:B<V5.heap.size:=blt_of hb6;clear r9 cS hb6;have u9:=(Lib.cell_of_heap hb7 9).trans rfl;have uf9:=Lib.frozen_of_heap hb7 9;have u10:=(Lib.cell_of_heap hb7 10).trans rfl;have uf10:=Lib.frozen_of_heap hb7 10;have u11:=(Lib.cell_of_heap hb7 11).trans rfl;have uf11:=Lib.frozen_of_heap hb7 11;have u12:=(Lib.cell_of_heap hb7 12).trans rfl;have uf12:=Lib.frozen_of_heap hb7 12;have u13:=(Lib.cell_of_heap hb7 13).trans rfl;have uf13:=Lib.frozen_of_heap hb7 13;have u14:=(Lib.cell_of_heap hb7 14).trans rfl;have uf14:=Lib.frozen_of_heap hb7 14;have u15:=(Lib.cell_of_heap hb7 15).trans rfl;have uf15:=Lib.frozen_of_heap hb7 15;have u16:=(Lib.cell_of_heap hb7 16).trans rfl;have uf16:=Lib.frozen_of_heap hb7 16;have u17:=(Lib.cell_of_heap hb7 17).trans rfl;have uf17:=Lib.frozen_of_heap hb7 17;have hb8:=(set_atK (set_atK (set_atK (set_atK (set_atK (set_atK (set_atK (set_atK (set_atK hb7 9 (.int .i64 (stripH x).kind)) 10 (.int .i64 (stripH x).at_)) 11 (.int .i64 (stripH x).lo)) 12 (.int .i64 (stripH x).hi)) 13 (.int .i64 (stripH x).most)) 14 (.slice B3 (stripH x).names.length c3)) 15 (.slice B4 (stripF kd).len c4)) 16 (.string (stripH x).name)) 17 (.int .i64 (stripH x).nat));simp only[List.setIfInBounds_toArray,List.set_cons_succ,List.set_cons_zero]at hb8;have f3:Fr B V5 (((((((((w3.setCell ⟨B,9,none⟩ (.int .i64 (stripH x).kind)).setCell ⟨B,10,none⟩ (.int .i64 (stripH x).at_)).setCell ⟨B,11,none⟩ (.int .i64 (stripH x).lo)).setCell ⟨B,12,none⟩ (.int .i64 (stripH x).hi)).setCell ⟨B,13,none⟩ (.int .i64 (stripH x).most)).setCell ⟨B,14,none⟩ (.slice B3 (stripH x).names.length c3)).setCell ⟨B,15,none⟩ (.slice B4 (stripF kd).len c4)).setCell ⟨B,16,none⟩ (.string (stripH x).name)).setCell ⟨B,17,none⟩ (.int .i64 (stripH x).nat)):=(Fr.set ((Fr.set ((Fr.set ((Fr.set ((Fr.set ((Fr.set ((Fr.set ((Fr.set ((Fr.set (Fr.bl n3) 9 (.int .i64 (stripH x).kind))) 10 (.int .i64 (stripH x).at_))) 11 (.int .i64 (stripH x).lo))) 12 (.int .i64 (stripH x).hi))) 13 (.int .i64 (stripH x).most))) 14 (.slice B3 (stripH x).names.length c3))) 15 (.slice B4 (stripF kd).len c4))) 16 (.string (stripH x).name))) 17 (.int .i64 (stripH x).nat));have f30:Fr B w3 (((((((((w3.setCell ⟨B,9,none⟩ (.int .i64 (stripH x).kind)).setCell ⟨B,10,none⟩ (.int .i64 (stripH x).at_)).setCell ⟨B,11,none⟩ (.int .i64 (stripH x).lo)).setCell ⟨B,12,none⟩ (.int .i64 (stripH x).hi)).setCell ⟨B,13,none⟩ (.int .i64 (stripH x).most)).setCell ⟨B,14,none⟩ (.slice B3 (stripH x).names.length c3)).setCell ⟨B,15,none⟩ (.slice B4 (stripF kd).len c4)).setCell ⟨B,16,none⟩ (.string (stripH x).name)).setCell ⟨B,17,none⟩ (.int .i64 (stripH x).nat)):=(Fr.set ((Fr.set ((Fr.set ((Fr.set ((Fr.set ((Fr.set ((Fr.set ((Fr.set ((Fr.set (Fr.refl B w3) 9 (.int .i64 (stripH x).kind))) 10 (.int .i64 (stripH x).at_))) 11 (.int .i64 (stripH x).lo))) 12 (.int .i64 (stripH x).hi))) 13 (.int .i64 (stripH x).most))) 14 (.slice B3 (stripH x).names.length c3))) 15 (.slice B4 (stripF kd).len c4))) 16 (.string (stripH x).name))) 17 (.int .i64 (stripH x).nat));have nb6:=((((((((((nb5.trans (n3.mono (by have:=nb5.size;omega))).setCell (p:=⟨B,9,none⟩) (Nat.le_refl _) (.int .i64 (stripH x).kind)).setCell (p:=⟨B,10,none⟩) (Nat.le_refl _) (.int .i64 (stripH x).at_)).setCell (p:=⟨B,11,none⟩) (Nat.le_refl _) (.int .i64 (stripH x).lo)).setCell (p:=⟨B,12,none⟩) (Nat.le_refl _) (.int .i64 (stripH x).hi)).setCell (p:=⟨B,13,none⟩) (Nat.le_refl _) (.int .i64 (stripH x).most)).setCell (p:=⟨B,14,none⟩) (Nat.le_refl _) (.slice B3 (stripH x).names.length c3)).setCell (p:=⟨B,15,none⟩) (Nat.le_refl _) (.slice B4 (stripF kd).len c4)).setCell (p:=⟨B,16,none⟩) (Nat.le_refl _) (.string (stripH x).name)).setCell (p:=⟨B,17,none⟩) (Nat.le_refl _) (.int .i64 (stripH x).nat))
   clear hb7;go_upto_region 10 with fail
   generalize(((((((((w3.setCell ⟨B,9,none⟩ (.int .i64 (stripH x).kind)).setCell ⟨B,10,none⟩ (.int .i64 (stripH x).at_)).setCell ⟨B,11,none⟩ (.int .i64 (stripH x).lo)).setCell ⟨B,12,none⟩ (.int .i64 (stripH x).hi)).setCell ⟨B,13,none⟩ (.int .i64 (stripH x).most)).setCell ⟨B,14,none⟩ (.slice B3 (stripH x).names.length c3)).setCell ⟨B,15,none⟩ (.slice B4 (stripF kd).len c4)).setCell ⟨B,16,none⟩ (.string (stripH x).name)).setCell ⟨B,17,none⟩ (.int .i64 (stripH x).nat))=V6 at *;clear u9 uf9 u10 uf10 u11 uf11 u12 uf12 u13 uf13 u14 uf14 u15 uf15 u16 uf16 u17 uf17;have rF:V6.rangeAt B 0 [.string p.name,.int .i64 0,.bool p.bare,.slice B1 (stripW p.label).length c1,.int .i64 p.wide,.int .i64 p.ck,.int .i64 p.cn,.int .i64 0,.slice B2 (stripW p.cl).length c2,.int .i64 (stripH x).kind,.int .i64 (stripH x).at_,.int .i64 (stripH x).lo,.int .i64 (stripH x).hi,.int .i64 (stripH x).most,.slice B3 (stripH x).names.length c3,.slice B4 (stripF kd).len c4,.string (stripH x).name,.int .i64 (stripH x).nat]:=fun j v h=>by rw [Nat.zero_add,Lib.cell_of_heap hb8];simpa using h
   have own6:=Lib.hid (own_below own.out (by rw [hBe];exact nb6))
   have hsz:w.heap.size≤V6.heap.size:=by have:=nb6.size;omega
   have hlt:=own.out.lt;rw [hBe]at hlt;clear hb8 own;go_wp2_with (first|(refine wpList_load_g (by rfl) 127 _ rfl B 0 rfl [.string p.name,.int .i64 0,.bool p.bare,.slice B1 (stripW p.label).length c1,.int .i64 p.wide,.int .i64 p.ck,.int .i64 p.cn,.int .i64 0,.slice B2 (stripW p.cl).length c2,.int .i64 (stripH x).kind,.int .i64 (stripH x).at_,.int .i64 (stripH x).lo,.int .i64 (stripH x).hi,.int .i64 (stripH x).most,.slice B3 (stripH x).names.length c3,.slice B4 (stripF kd).len c4,.string (stripH x).name,.int .i64 (stripH x).nat] _ rF Tryz.underlying127 rfl (by kernel_rfl) ?_;go_simp)|(at_builtin;go_loud (refine appKF V6 #[.string p.name,.int .i64 0,.bool p.bare,.slice B1 (stripW p.label).length c1,.int .i64 p.wide,.int .i64 p.ck,.int .i64 p.cn,.int .i64 0,.slice B2 (stripW p.cl).length c2,.int .i64 (stripH x).kind,.int .i64 (stripH x).at_,.int .i64 (stripH x).lo,.int .i64 (stripH x).hi,.int .i64 (stripH x).most,.slice B3 (stripH x).names.length c3,.slice B4 (stripF kd).len c4,.string (stripH x).name,.int .i64 (stripH x).nat] 18 127 rfl _ _ 32 rfl w.heap.size ti (.agg #[.string ⟨#[]⟩,.int .i64 0,.bool false,.slice none 0 0,.int .i64 0,.int .i64 0,.int .i64 0,.int .i64 0,.slice none 0 0,.int .i64 0,.int .i64 0,.int .i64 0,.int .i64 0,.int .i64 0,.slice none 0 0,.slice none 0 0,.string ⟨#[]⟩,.int .i64 0]) 224 Tryz.underlying32 hI hz0 hz1 hz2 rfl (by decide) rfl _ K xs rfl own6.out _ rfl rfl (by simp [Value.oneCell']) (by unfold maxLen;omega) (by omega) hsz ?_);rintro v' w4 hown4 hg4 hb4 hfr))
   have nb7:=Lib.hid ((nb.out.trans (nb6.mono (by rw [hBe]at *;exact hww))).trans hb4)
   have hB6:B≤V6.heap.size:=by have:=nb6.size;omega
   have new:∀g,g<V6.heap.size→w.heap.size≤g→v.ownBlock≠some g→¬rowS w.heap.size v' g∧w4.heap[g]?=V6.heap[g]?:=fun g h1 h2 h3=>⟨by
    rintro(q|q)
    ·omega
    ·rcases hfr with h|h
     ·exact h3 (h▸q)
     ·rw [h]at q
      simp only[Option.some.injEq]at q;omega,hg4.block g h1 (fun q=>h3 q.symm)⟩
   have far:∀g,B≤g→v.ownBlock≠some g:=fun g h1 q=>by have:=(hlt g q).2;omega
   have k0:Kp (empW (rowS w.heap.size v) wr) (empW (rowS w.heap.size v') w4):=emp_kp (by rw [hBe];exact Nat.le_trans hB6 hg4.size) fun g h1 h2=>by
    have h3:w.heap.size≤g:=Nat.le_of_not_lt fun q=>h2 (.inl q)
    have h4:=new g (by rw [hBe]at h1;omega) h3 (fun q=>h2 (.inr q))
    exact⟨h4.1,h4.2.trans (nb6.block g (by rw [hBe]at h1;exact h1))⟩
   have k1:∀{b W},B<b→Fr B W V6→Kp (empW (lowS b) W) (empW (rowS w.heap.size v') w4):=fun {b W} hb fr=>emp_kp (Nat.le_trans fr.s hg4.size) fun g h1 h2=>by
    have h3:b≤g:=Nat.le_of_not_lt h2;have h4:=new g (Nat.lt_of_lt_of_le h1 fr.s) (by omega) (far g (by omega));exact⟨h4.1,h4.2.trans (fr.h g (by omega) h1)⟩
   have q1:=r1.kp (k1 hB1 (f12.trans f3));have q2:=r2.kp (k1 hV4 (f2.trans f3));have q3:=RdY.kp (k1 hV5 f30) r3;have rds2:=Lib.hid (RdsF.snoc (k:=9) (pre:=9) (hd:=hdT) (pl:=plT) (ps:=[.string p.name,.int .i64 0,.bool p.bare,.slice B1 (stripW p.label).length c1,.int .i64 p.wide,.int .i64 p.ck,.int .i64 p.cn,.int .i64 0,.slice B2 (stripW p.cl).length c2]) (ts:=[.int .i64 (stripH x).kind,.int .i64 (stripH x).at_,.int .i64 (stripH x).lo,.int .i64 (stripH x).hi,.int .i64 (stripH x).most,.slice B3 (stripH x).names.length c3,.slice B4 (stripF kd).len c4,.string (stripH x).name,.int .i64 (stripH x).nat]) (l:=stripP p) (x:=stripH x) (kids:=stripF kd) rfl ⟨_,_,rfl,q1,q2⟩ ⟨rfl,_,⟨_,rfl,q3.n⟩,q3.p⟩ (RdsF.kp (hd:=hdT) (pl:=plT) (fun _ _ _ _ _ q h=>hdT.kp q h) (fun _ _ _ _ q h=>plT.kp q h) k0 rds.out));rw [←hts]at rds2;have own7:=Lib.hid hown4;clear k0 k1 q1 q2 q3 far new hfr hb4 hg4 hown4 rds f12 f2 f3 f30 r1 r2 r3 m1 m2 n3 nb6 nb5 nb5' nb4 nb2 nb1 rl rc ry own6;go_wp2_with fail
   go_roundg (gk-1)
   case measure=>omega
   case rel=>exact⟨K+1,_,_,rfl,by go_num,by omega,nb7,own7,rds2⟩
  ·obtain rfl:K=f.len:=by omega
   have rd0:=rds.out;have ow0:=own.out;rw [Fo.take_all]at rd0;rw [←len_strip f]at ow0;have rd:=rows_rd ow0 rd0;have fin:=Lib.hid (hR.out _ _ rd nb.out);clear hR rd own rds rd0 ow0;go_wp2_with fail
   exact fin.out
end Go.Proofs.YtabhkakomececaaGreat.Kin
