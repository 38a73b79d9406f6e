import Derived.Test.YtabhkakomececaaGreatQ32
set_option linter.all false
set_option maxRecDepth 100000
set_option maxHeartbeats 4000000
namespace Go.Proofs.YtabhkakomececaaGreat
namespace Eff
open Go.RowKit Go.Lib Utf Nam Res Kin Unp Rel Lab Inh Lat
theorem coarsened_calls(c:Int)(w:World)(R:Ending→World→Prop)(hR:Hid (R (.returned (.int .i64 (kdC c))) w)):Calls Tryz.prog 140 #[.int .i64 c] w R:=by
 unfold kdC at hR
 by_cases c1:c=1
 ·subst c1
  go_enter Tryz.func140,Tryz.ntmps140
  go_wp2_with fail
  exact hR.out
 ·rw [if_neg c1]at hR
  have t1:(c==1)=false:=by simpa using c1
  by_cases c2:c=2
  ·subst c2
   go_enter Tryz.func140,Tryz.ntmps140
   go_wp2_with fail
   exact hR.out
  ·rw [if_neg c2]at hR
   have t2:(c==2)=false:=by simpa using c2
   go_enter Tryz.func140,Tryz.ntmps140
   go_wp2_with fail
   exact hR.out
section
variable {w:World} {v:Value} {nm:List ByteArray} {F:Nat→Nat→Bool} {ns:List ByteArray} {x:List NdR×Int×List Int}
theorem nodekd_calls(h:PlanP w v nm F ns x)(hb1:∀y∈x.1,y.names.length≤1000000∧y.edges.length≤1000000)(i:Int)(R:Ending→World→Prop)
  (hR:Hid (∀W (k1 k2 k3 k4:Int) (A5:Option Addr) (n5 c5:Nat) (A6:Option Addr) (n6 c6:Nat) (b:Bool),Below w.heap.size w W→R (.returned (.tuple #[.agg #[.int .i64 (kdAt x.1 i),.int .i64 k1,.int .i64 k2,.int .i64 k3,.int .i64 k4,.slice A5 n5 c5,.slice A6 n6 c6],.bool b])) W)):Calls Tryz.prog 29 #[v,.int .i64 i] w R:=by
 by_cases hi:0≤i∧i<(x.1.length:Int)
 ·obtain⟨I,rfl⟩:∃I:Nat,i=(I:Int):=⟨i.toNat,by omega⟩
  refine pnode_calls h hb1 I (by omega) R (Lib.hid fun W nv ev y hy rS rE m=>?_);obtain⟨A5,c5,rfl,-⟩:=rS.open;obtain⟨A6,c6,rfl,-⟩:=ed_el18 rE
  have e:kdAt x.1 (I:Int)=y.kind:=by
   unfold kdAt;rw [if_pos (by omega),Int.toNat_natCast,hy];rfl
  rw [e]at hR;exact hR.out W _ _ _ _ _ _ _ _ _ _ _ m
 ·have e:kdAt x.1 i=0:=by
   unfold kdAt
   by_cases c:0≤i
   ·rw [if_pos c,List.getElem?_eq_none (by omega)]
    rfl
   ·rw [if_neg c]
  rw [e]at hR;exact pnodeno_calls h i (by omega) R (Lib.hid fun W m=>hR.out W _ _ _ _ _ _ _ _ _ _ _ m)
theorem coarse_calls(h:PlanP w v nm F ns x)(hb1:∀y∈x.1,y.names.length≤1000000∧y.edges.length≤1000000)(e:EdR)(ed:EdOk nm.length e)(R:Ending→World→Prop)
  (hR:Hid (∀w',Below w.heap.size w w'→R (.returned (.agg #[.int .i64 (chkE x.1 F e).1,.int .i64 (chkE x.1 F e).2])) w')):Calls Tryz.prog 75 #[v,.agg (encE e).toArray] w R:=by
 obtain⟨P,L,cs,rfl,hbP,hL⟩:=h.lv;obtain⟨pL,eL,hlev,-⟩:=id hL;simp only[Value.pointer.injEq,Option.some.injEq,Addr.mk.injEq,and_true]at eL;subst eL;obtain⟨hs,hl⟩:(0≤e.seen∧e.seen<(nm.length:Int))∧(0≤e.label∧e.label<(nm.length:Int)):=⟨ed.sn,ed.lb⟩
 have ef:(decide (0≤e.seen∧e.seen<nm.length∧0≤e.label∧e.label<nm.length)&&F e.seen.toNat e.label.toNat)=F e.seen.toNat e.label.toNat:=by
  rw [decide_eq_true (by omega),Bool.true_and]
 unfold chkE at hR;have n:=F0.z w;obtain⟨V,e1,n,z1⟩:=n.new (.cells #[.string e.name,.bool e.bare,.int .i64 e.at_,.int .i64 e.dst,.int .i64 e.label,.int .i64 e.wide,.int .i64 e.coarse,.int .i64 e.n,.int .i64 e.seen,.int .i64 e.cat] 67);obtain⟨V2,e2,n,z2⟩:=n.new (.cells #[.int .i64 0,.int .i64 0] 26);have hV:=Lib.hid (h.below (F0.bel n));have hLV:=Lib.hid (hL.below (F0.bel n));have hbV:=Lib.hid (((F0.bel n).block P (hp_lt hbP)).trans hbP);clear h hL hlev hbP z1 z2 ed;obtain⟨e0,eb,eat,edst,elb,ewd,eco,en,esn,ect⟩:=e;simp only at hR hs hl ef;show Calls Tryz.prog _ #[_,.agg #[.string e0,.bool eb,.int .i64 eat,.int .i64 edst,.int .i64 elb,.int .i64 ewd,.int .i64 eco,.int .i64 en,.int .i64 esn,.int .i64 ect]] w R;have r6:=n.c 1 6 rfl rfl;have hG:=n.b 0 rfl
 by_cases c0:eco=0
 ·subst c0
  rw [if_pos rfl]at hR;obtain⟨V3,e3,n3⟩:=n.row (j:=0) rfl #[.int .i64 0,.int .i64 0];have w0_:=n3.c 0 0 rfl rfl;have w1_:=n3.c 0 1 rfl rfl;have fin:=Lib.hid (hR.out V3 (F0.bel n3));clear n n3 hR hb1 hV hLV hbV;go_enter Tryz.func75,Tryz.ntmps75
  go_upto_region 1 with fail
  clear e1 e2;go_wp2_with (refine wpList_store_row (by rfl) 26 _ _ (by rfl) V.heap.size #[.int .i64 0,.int .i64 0] (by rfl) (by rfl) 26 _ hG (by kernel_rfl) rfl (by simp [Value.oneCell']) ?_;refine cast_w e3 ?_;go_simp)
  first|refine bodyPost_ret ?_ rfl fin.out|refine bodyPost_end ?_ rfl fin.out
  simp [results,Tryz.results75,go_sem,w0_,w1_]
 ·rw [if_neg c0]at hR
  have t0:(eco==0)=false:=by simpa using c0
  have r3:=n.c 1 3 rfl rfl;have nodc:=Lib.hid fun R hR=>nodekd_calls hV.out hb1 edst R hR
  go_enter Tryz.func75,Tryz.ntmps75
  go_upto_region 1 with fail
  clear e1 e2;go_upto_region 3 with fail
  go_wp2_with fail
  refine nodc.out _ (Lib.hid fun W3 k1 k2 k3 k4 A5 n5 c5 A6 n6 c6 bb m3=>?_);clear nodc hb1;generalize hkd:kdAt x.1 edst=kd at *;replace n:=n.bl m3;have hV3:=Lib.hid (hV.out.below m3);have hLV3:=Lib.hid (hLV.out.below m3);have hbV3:=Lib.hid ((m3.block P (hp_lt hbV.out)).trans hbV.out);clear hV hLV hbV m3;obtain⟨V4,e4,n,z4⟩:=n.new (.cells #[.int .i64 kd,.int .i64 k1,.int .i64 k2,.int .i64 k3,.int .i64 k4,.slice A5 n5 c5,.slice A6 n6 c6] 63);have m4:Below W3.heap.size W3 V4:=e4▸(Below.refl _ _).alloc (Nat.le_refl _) _;clear z4;go_upto_region 4 with(refine wpList_copy #[.int .i64 kd,.int .i64 k1,.int .i64 k2,.int .i64 k3,.int .i64 k4,.slice A5 n5 c5,.slice A6 n6 c6] ⟨rfl,rfl,rfl⟩ ⟨rfl,rfl,rfl⟩ node_alloc19 (by kernel_rfl) ⟨rfl,by simp [Value.oneCell']⟩ (fun _=>⟨rfl,rfl⟩) ?_;go_simp)
  clear e4;have l0:=n.lt 0 rfl;have l2:=n.lt 2 rfl;have k0:=fun q:BW V4=>q.cell l0 (n.c 0 0 rfl rfl)
  have k6:=fun q:BW V4=>q.cell l2 (n.c 2 6 rfl rfl)
  have cA:=Lib.hid fun q:BW V4=>(show Calls Tryz.prog 140 #[.int .i64 eco] q.w fun e w'=>e=.returned (.int .i64 (kdC eco))∧Below q.w.heap.size q.w w' from coarsened_calls _ _ _ (Lib.hid ⟨rfl,Below.refl _ _⟩))
  generalize hkc:kdC eco=kc at *
  by_cases kk:kd=kc
  case neg =>
   rw [if_pos kk]at hR;have tk:(kd==kc)=false:=by simpa using kk
   refine wp_region_below_lit (by kernel_rfl) (by kernel_rfl) ?_
   repeat (go_big_quiet_step ((first|(with_reducible exact calls_below (cA.out _)))))
   refine wpQuiet_nil ?_
   rintro _ ⟨q,rfl⟩
   replace n:=n.bl q.b;generalize q.w=V5 at *;clear cA k0 k6 l0 l2 hV3 hLV3 hbV3;obtain⟨V6,e6,n6⟩:=n.row (j:=1) rfl #[.int .i64 14,.int .i64 ect];have hG:=n.b 1 rfl;have w0_:=n6.c 1 0 rfl rfl;have w1_:=n6.c 1 1 rfl rfl;have r9:=n.c 2 9 rfl rfl;have fin:=Lib.hid (hR.out V6 (F0.bel n6));clear n n6 hR;go_wp2_with (refine wpList_store_row (by rfl) 26 _ _ (by rfl) V.heap.size #[.int .i64 14,.int .i64 ect] (by rfl) (by rfl) 26 _ hG (by kernel_rfl) rfl (by simp [Value.oneCell']) ?_;refine cast_w e6 ?_;go_simp)
   first|refine bodyPost_ret ?_ rfl fin.out|refine bodyPost_end ?_ rfl fin.out
   simp [results,Tryz.results75,go_sem,w0_,w1_]
  case pos =>
   rw [if_neg (by omega)]at hR;subst kk;refine wp_region_below_lit (by kernel_rfl) (by kernel_rfl) ?_
   repeat (go_big_quiet_step ((first|(with_reducible exact calls_below (cA.out _)))))
   refine wpQuiet_nil ?_
   rintro _ ⟨q,rfl⟩
   replace n:=n.bl q.b;replace hLV3:=Lib.hid (hLV3.out.below (m4.trans (q.b.mono m4.size)));replace hbV3:=Lib.hid (((m4.trans (q.b.mono m4.size)).block P (hp_lt hbV3.out)).trans hbV3.out);generalize q.w=V5 at *;clear cA k0 k6 l0 l2 hV3;go_upto_region 6 with fail
   have l2:=n.lt 2 rfl;have k8:=fun q:BW V5=>q.cell l2 (n.c 2 8 rfl rfl)
   have k4:=fun q:BW V5=>q.cell l2 (n.c 2 4 rfl rfl)
   have cC:=Lib.hid fun q:BW V5=>(show Calls Tryz.prog 30 #[.pointer (some ⟨P,0,none⟩)] q.w fun e w'=>e=.returned (.pointer (some ⟨L,0,none⟩))∧Below q.w.heap.size q.w w' from platv_calls ((q.b.block P (hp_lt hbV3.out)).trans hbV3.out) _ (Lib.hid ⟨rfl,Below.refl _ _⟩))
   have cD:=Lib.hid fun q:BW V5=>(show Calls Tryz.prog 44 #[.pointer (some ⟨L,0,none⟩),.int .i64 esn,.int .i64 elb] q.w fun e w'=>e=.returned (.bool (F esn.toNat elb.toNat))∧Below q.w.heap.size q.w w' from latleqx_calls nm F _ q.w (hLV3.out.below q.b) esn elb _ (Lib.hid ⟨by rw [ef],Below.refl _ _⟩))
   generalize hfb:F esn.toNat elb.toNat=fb at *;clear hs hl ef
   by_cases ks:esn=elb
   case pos =>
    subst ks;rw [if_pos (.inl rfl)]at hR;refine wp_region_below_lit (by kernel_rfl) (by kernel_rfl) ?_
    repeat (go_big_quiet_step ((first|(with_reducible exact calls_below (cC.out _))|(with_reducible exact calls_below (cD.out _)))))
    refine wpQuiet_nil ?_
    rintro _ ⟨q,rfl⟩
    replace n:=n.bl q.b;generalize q.w=V7 at *;clear cC cD k8 k4 l2 hLV3 hbV3;obtain⟨V6,e6,n6⟩:=n.row (j:=1) rfl #[.int .i64 18,.int .i64 ect];have hG:=n.b 1 rfl;have w0_:=n6.c 1 0 rfl rfl;have w1_:=n6.c 1 1 rfl rfl;have r9:=n.c 2 9 rfl rfl;have fin:=Lib.hid (hR.out V6 (F0.bel n6));clear n n6 hR;go_wp2_with (refine wpList_store_row (by rfl) 26 _ _ (by rfl) V.heap.size #[.int .i64 18,.int .i64 ect] (by rfl) (by rfl) 26 _ hG (by kernel_rfl) rfl (by simp [Value.oneCell']) ?_;refine cast_w e6 ?_;go_simp)
    first|refine bodyPost_ret ?_ rfl fin.out|refine bodyPost_end ?_ rfl fin.out
    simp [results,Tryz.results75,go_sem,w0_,w1_]
   case neg =>
    have ts:(esn==elb)=false:=by simpa using ks
    cases fb with
    | false =>
     rw [if_pos (.inr rfl)]at hR;refine wp_region_below_lit (by kernel_rfl) (by kernel_rfl) ?_
     repeat (go_big_quiet_step ((first|(with_reducible exact calls_below (cC.out _))|(with_reducible exact calls_below (cD.out _)))))
     refine wpQuiet_nil ?_
     rintro _ ⟨q,rfl⟩
     replace n:=n.bl q.b;generalize q.w=V7 at *;clear cC cD k8 k4 l2 hLV3 hbV3;obtain⟨V6,e6,n6⟩:=n.row (j:=1) rfl #[.int .i64 18,.int .i64 ect];have hG:=n.b 1 rfl;have w0_:=n6.c 1 0 rfl rfl;have w1_:=n6.c 1 1 rfl rfl;have r9:=n.c 2 9 rfl rfl;have fin:=Lib.hid (hR.out V6 (F0.bel n6));clear n n6 hR;go_wp2_with (refine wpList_store_row (by rfl) 26 _ _ (by rfl) V.heap.size #[.int .i64 18,.int .i64 ect] (by rfl) (by rfl) 26 _ hG (by kernel_rfl) rfl (by simp [Value.oneCell']) ?_;refine cast_w e6 ?_;go_simp)
     first|refine bodyPost_ret ?_ rfl fin.out|refine bodyPost_end ?_ rfl fin.out
     simp [results,Tryz.results75,go_sem,w0_,w1_]
    | true =>
     rw [if_neg (by simpa using ks)]at hR;refine wp_region_below_lit (by kernel_rfl) (by kernel_rfl) ?_
     repeat (go_big_quiet_step ((first|(with_reducible exact calls_below (cC.out _))|(with_reducible exact calls_below (cD.out _)))))
     refine wpQuiet_nil ?_
     rintro _ ⟨q,rfl⟩
     replace n:=n.bl q.b;generalize q.w=V7 at *;clear cC cD k8 k4 l2 hLV3 hbV3;obtain⟨V6,e6,n6⟩:=n.row (j:=1) rfl #[.int .i64 0,.int .i64 0];have hG:=n.b 1 rfl;have w0_:=n6.c 1 0 rfl rfl;have w1_:=n6.c 1 1 rfl rfl;have fin:=Lib.hid (hR.out V6 (F0.bel n6));clear n n6 hR;go_wp2_with (refine wpList_store_row (by rfl) 26 _ _ (by rfl) V.heap.size #[.int .i64 0,.int .i64 0] (by rfl) (by rfl) 26 _ hG (by kernel_rfl) rfl (by simp [Value.oneCell']) ?_;refine cast_w e6 ?_;go_simp)
     first|refine bodyPost_ret ?_ rfl fin.out|refine bodyPost_end ?_ rfl fin.out
     simp [results,Tryz.results75,go_sem,w0_,w1_]
end
end Eff
namespace Eff
open Go.RowKit Go.Lib Utf Nam Res Kin Unp Rel Lab Inh Lat Pat
theorem isF_named1:∀(args:Array Value)(w:World),(callFunc 211 args).run Tryz.prog w=.ok (.enter 211 args) w:=by
 intro args w;unfold callFunc;simp [go_sem,Tryz.func211];rfl
theorem named1_calls(e:EdR)(nm:ByteArray)(B:Nat)(w:World)(hB:w.heap[B]?=some (.cells #[.string nm] 9))(R:Ending→World→Prop)
  (hR:Hid (∀w',Below w.heap.size w w'→R (.returned (.bool (nmB nm e))) w')):Calls Tryz.prog 211 #[.agg #[.string e.name,.bool e.bare,.int .i64 e.at_,.int .i64 e.dst,.int .i64 e.label,.int .i64 e.wide,.int .i64 e.coarse,.int .i64 e.n,.int .i64 e.seen,.int .i64 e.cat],.pointer (some ⟨B,0,none⟩)] w R:=by
 have n:=F0.z w;obtain⟨V,e1,n,z1⟩:=n.new (.cells #[.string e.name,.bool e.bare,.int .i64 e.at_,.int .i64 e.dst,.int .i64 e.label,.int .i64 e.wide,.int .i64 e.coarse,.int .i64 e.n,.int .i64 e.seen,.int .i64 e.cat] 67);have hB2:=((F0.bel n).block B (hp_lt hB)).trans hB;have b0:=(Lib.cell_of_heap hB2 0).trans rfl;have r0:=n.c 0 0 rfl rfl;have fin:=Lib.hid (hR.out V (F0.bel n));clear n z1 hB hB2 hR;unfold nmB at fin;obtain⟨x0,x1,x2,x3,x4,x5,x6,x7,x8,x9⟩:=e;simp only at r0 e1 fin;show Calls Tryz.prog _ #[.agg #[.string x0,.bool x1,.int .i64 x2,.int .i64 x3,.int .i64 x4,.int .i64 x5,.int .i64 x6,.int .i64 x7,.int .i64 x8,.int .i64 x9],_] w R
 by_cases c:x0=nm
 ·subst c
  rw [decide_eq_true rfl]at fin;go_enter Tryz.func211,Tryz.ntmps211
  go_upto_region 1 with fail
  clear e1;go_wp2_with fail
  exact fin.out
 ·rw [decide_eq_false c]at fin
  have t:(x0.toList==nm.toList)=false:=by rw [bl_inj];exact decide_eq_false fun q=>c (bl_ext q)
  go_enter Tryz.func211,Tryz.ntmps211
  go_upto_region 1 with fail
  clear e1;go_wp2_with fail
  exact fin.out
theorem idxE_calls(nm:ByteArray)(B:Nat)(l:List EdR)(v:Value)(w:World)(hr:RdEd w v l)(hl:l.length≤1000000)(hB:w.heap[B]?=some (.cells #[.string nm] 9))(R:Ending→World→Prop)
  (hR:Hid (∀w',Below w.heap.size w w'→R (.returned (.int .i64 (ixF (nmB nm) l 0))) w')):Calls Tryz.prog 210 #[v,.func (.func 211) #[] #[.pointer (some ⟨B,0,none⟩)]] w R:=by
 have isN:=isF_named1;obtain⟨A,c,rfl,hlc,hca0⟩:=ed_el hr;replace hca0:=Lib.hid hca0;replace hB:=Lib.hid hB;clear hr;go_enter Tryz.func210,Tryz.ntmps210
 go_wp2_with fail
 go_loopg [5,8] l.length (fun k s5 i wr=>∃(K:Nat),Hid (Below w.heap.size w wr)∧i=.int .i64 K∧K+k=l.length∧Hid (ixF (nmB nm) l 0=ixF (nmB nm) (l.drop K) K))
 case atStart=>exact⟨0,Lib.hid (Below.refl _ _),rfl,by omega,Lib.hid rfl⟩
 case round =>
  obtain⟨K,hbel,rfl,c1,c2⟩:=hrel;have hsz:=hbel.out.size
  by_cases hK:K<l.length
  ·obtain⟨g,o,rfl,hg1,hca⟩:=hca0.out K hK
   have rx:=hca wr hbel.out;have cW:=Lib.hid fun R hR=>named1_calls (l[K]'hK) nm B wr ((hbel.out.block B (hp_lt hB.out)).trans hB.out) R hR
   have i0:(0:Int)≤(K:Int):=by omega
   have i1:(K:Int)<(l.length:Int):=by omega
   have c3:=c2.out;rw [List.drop_eq_getElem_cons hK]at c3;replace c3:ixF (nmB nm) l 0=if nmB nm (l[K]'hK)=true then(K:Int)else ixF (nmB nm) (l.drop (K+1)) (K+1):=c3;generalize(l[K]'hK)=x at *;obtain⟨x0,x1,x2,x3,x4,x5,x6,x7,x8,x9⟩:=x;unfold encE at rx;dsimp only at rx cW;generalize nmB nm ⟨x0,x1,x2,x3,x4,x5,x6,x7,x8,x9⟩=y at *;clear hca c2;cases y
   ·rw [if_neg (by decide)]at c3
    replace c3:=Lib.hid c3;go_wp2_with (refine wpList_load_g (by rfl) 67 _ rfl g (o+K*10) rfl [.string x0,.bool x1,.int .i64 x2,.int .i64 x3,.int .i64 x4,.int .i64 x5,.int .i64 x6,.int .i64 x7,.int .i64 x8,.int .i64 x9] _ rx Tryz.underlying67 rfl (by kernel_rfl) ?_;go_simp)
    refine cW.out _ (Lib.hid fun w1 n1=>?_);have n2:=Lib.hid (hbel.out.trans (n1.mono hsz));clear n1 rx cW;go_wp2_with fail
    go_roundg (gk-1)
    case measure=>omega
    case rel=>exact⟨K+1,n2,by go_num,by omega,c3⟩
   ·rw [if_pos rfl]at c3
    rw [c3]at hR;clear c3;go_wp2_with (refine wpList_load_g (by rfl) 67 _ rfl g (o+K*10) rfl [.string x0,.bool x1,.int .i64 x2,.int .i64 x3,.int .i64 x4,.int .i64 x5,.int .i64 x6,.int .i64 x7,.int .i64 x8,.int .i64 x9] _ rx Tryz.underlying67 rfl (by kernel_rfl) ?_;go_simp)
    refine cW.out _ (Lib.hid fun w1 n1=>?_);have fin:=Lib.hid (hR.out w1 (hbel.out.trans (n1.mono hsz)));clear n1 rx cW hR;go_wp2_with fail
    exact fin.out
  ·obtain rfl:K=l.length:=by omega
   have c3:=c2.out;rw [List.drop_length]at c3;replace c3:ixF (nmB nm) l 0=-1:=c3;rw [c3]at hR;have fin:=Lib.hid (hR.out wr hbel.out);clear c3 c2 hR;go_wp2_with fail
   exact fin.out
end Eff
namespace Eff
open Go.RowKit Go.Lib Utf Nam Res Kin Unp Rel Lab Inh Lat
def PCo(p:PH):Prop:=(0≤p.ck∧p.ck≤3)∧(p.bare=true→p.ck=0)
def CoA:Ft→Prop
| .nil=>True
| .cons p _ _ r=>PCo p∧CoA r
def CoD:Ft→Prop
| .nil=>True
| .cons p _ k r=>PCo p∧(p.bare=false→CoD k)∧CoD r
theorem co_parts{K:Int}(hK:K=7∨K=8):∀f:Ft,okF K f→CoA f
| .nil,_=>trivial
| .cons p h k r,ok=>by
 have op:=ok.1 hK;refine⟨?_,co_parts hK r ok.2.2⟩;cases q:p.bare with
 | true =>
  have h':=(op.2.1 q).2.2;simp only[plainB,bPH,Bool.and_eq_true,beq_iff_eq,decide_eq_true_eq]at h';have h2:p.ck=0:=of_decide_eq_true h'.1.1.2;exact⟨by rw [h2];decide,fun _=>h2⟩
 | false =>
  refine⟨?_,fun x=>by rw [q]at x;cases x⟩
  rcases(op.2.2 q).2.2.2 with c|⟨c,-⟩ <;> omega
theorem co_of{h:TH}{k:Ft}(ok:okT h k):CoA k:=by
 by_cases h78:h.kind=7∨h.kind=8
 ·exact co_parts h78 k ok.2
 ·by_cases h56:h.kind=5∨h.kind=6
  ·have on:=ok.1.2.2.2.2.2.2.2.2.1 h56
   cases k with
   | nil=>exact(Bool.false_ne_true on).elim
   | cons p x k r =>
    cases r with
    | nil =>
     have h':(decide (p.name=ByteArray.empty)&&plainB p zPH)=true:=on;simp only[plainB,zPH,Bool.and_eq_true,beq_iff_eq,decide_eq_true_eq]at h';have h2:p.ck=0:=of_decide_eq_true h'.2.1.1.2;exact⟨⟨by rw [h2];decide,fun _=>h2⟩,trivial⟩
    | cons q y l t=>exact(Bool.false_ne_true on).elim
  ·have ow:=ok.1.2.2.1
   have k1:=ok.1.1;have k9:=ok.1.2.1;simp only[ownB,decide_eq_true_eq]at ow;have:k.len=0:=by omega
   cases k with
   | nil=>trivial
   | cons p x k r=>exact absurd this (by show r.len+1≠0;omega)
theorem cod_of:∀(f:Ft)(K:Int),okF K f→CoA f→CoD f
| .nil,_,_,_=>trivial
| .cons p h k r,K,ok,co=>⟨co.1,fun b=>cod_of k h.kind (ok.2.1 b).2 (co_of (ok.2.1 b)),cod_of r K ok.2.2 co.2⟩
theorem cod_top{h:TH}{f:Ft}(ok:okT h f):CoD f:=cod_of f h.kind ok.2 (co_of ok)
theorem NdCo.set{l:List NdR}{i:Nat}{y:NdR}(h:NdCo l)(hy:∀e∈y.edges,CoOk e):NdCo (l.set i y):=fun z hz=>by
 rcases List.mem_or_eq_of_mem_set hz with hz|rfl
 ·exact h z hz
 ·exact hy
theorem NdCo.snoc{l:List NdR}{h:TH}(hl:NdCo l):NdCo (l++[ndP h]):=fun z hz=>by
 rcases List.mem_append.1 hz with hz|hz
 ·exact hl z hz
 ·obtain rfl:=List.mem_singleton.1 hz
  intro e he;cases he
section
variable {nm:List ByteArray} {F:Nat→Nat→Bool} {tg:ByteArray→Int}
theorem addF_co:∀(f:Ft)(l:List NdR),CoD f→NdCo l→(∀e∈(addF nm F tg f l).1,CoOk e)∧NdCo (addF nm F tg f l).2
| .nil,l,_,h=>⟨(fun e he=>by cases he),h⟩
| .cons p h k r,l,dw,hl=>by
 rw [addF_cons];have hed:∀d,CoOk (edP nm F p d):=fun d=>⟨dw.1.1,dw.1.2⟩
 have hk:CoOk (addK nm F tg p h k l).1∧NdCo (addK nm F tg p h k l).2:=by
  unfold addK;refine⟨hed _,?_⟩
  by_cases c:p.bare=true
  ·rw [if_pos c];exact hl
  ·rw [if_neg c]
   unfold addW
   by_cases c9:h.kind=9
   ·rw [if_pos c9];exact hl
   ·rw [if_neg c9]
    obtain⟨i1,i2⟩:=addF_co k (l++[ndP h]) (dw.2.1 (by simpa using c)) hl.snoc;exact i2.set i1
 obtain⟨j1,j2⟩:=addF_co r _ dw.2.2 hk.2;refine⟨fun e he=>?_,j2⟩;rcases List.mem_cons.1 he with rfl|he
 ·exact hk.1
 ·exact j1 e he
theorem addT_co{h:TH}{f:Ft}{l:List NdR}(dw:CoD f)(hl:NdCo l):NdCo (addT nm F tg h f l).2:=by
 unfold addT addW
 by_cases c9:h.kind=9
 ·rw [if_pos c9];exact hl
 ·rw [if_neg c9]
  obtain⟨i1,i2⟩:=addF_co (tg:=tg) f (l++[ndP h]) dw hl.snoc;exact i2.set i1
theorem addA_co:∀(tys:List Nd)(l:List NdR),(∀x∈tys,CoD x.2.2)→NdCo l→NdCo (addA nm F tg tys l).2
| [],l,_,h=>h
| x::r,l,dw,h=>addA_co r _ (fun y hy=>dw y (List.mem_cons_of_mem _ hy)) (addT_co (dw x List.mem_cons_self) h)
end
theorem okS_co{s:Sc}(o:OkS s):NdCo (plS s).1 :=
addT_co (cod_top o.okr) (addA_co s.2.2.1 [] (fun x hx=>cod_top (o.ok x hx)) (fun y hy=>by cases hy))
section
variable {w:World} {v:Value} {nm:List ByteArray} {F:Nat→Nat→Bool} {ns:List ByteArray} {x:List NdR×Int×List Int}
theorem check20_calls(h:PlanP w v nm F ns x)(hb1:∀y∈x.1,y.names.length≤1000000∧y.edges.length≤1000000)(hx:NdEd nm.length x.1)(hlen:x.1.length≤40000)(R:Ending→World→Prop)
  (hR:Hid (∀w',Below w.heap.size w w'→R (.returned (.agg #[.int .i64 (chkNs (chkE x.1 F) x.1).1,.int .i64 (chkNs (chkE x.1 F) x.1).2])) w')):Calls Tryz.prog 34 #[v] w R:=by
 obtain⟨P,hv⟩:∃P,v=.pointer (some ⟨P,0,none⟩):=by
  obtain⟨P,_,_,_,_,_,e,-⟩:=h;exact⟨P,e⟩
 subst hv;obtain⟨len,hl⟩:∃len,x.1.length=len:=⟨_,rfl⟩;rw [hl]at hlen;have n:=F0.z w;obtain⟨V,e1,n,z1⟩:=n.new (.cells #[.int .i64 0,.int .i64 0] 26);replace hl:=Lib.hid hl;have cL:=Lib.hid fun R hR=>plen_calls (h.below (F0.bel n)) R hR
 rw [hl.out]at cL;have hP:=Lib.hid h;replace hx:=Lib.hid hx;replace hb1:=Lib.hid hb1;clear h z1;have n0:=Lib.hid n;clear n;go_enter Tryz.func34,Tryz.ntmps34
 go_upto_region 1 with fail
 clear e1;go_wp2_with fail
 refine cL.out _ (Lib.hid ?_);clear cL;go_wp2_with fail
 go_loopg [14] len (fun g k wr=>∃(K:Nat),k=.int .i64 K∧K+g=len∧Hid (chkNs (chkE x.1 F) x.1=chkNs (chkE x.1 F) (x.1.drop K))∧Hid (Hq F0 () () w wr [(w.heap.size,.cells #[.int .i64 0,.int .i64 0] 26)]))
 case atStart=>exact⟨0,rfl,by omega,Lib.hid rfl,n0⟩
 case round =>
  clear n0;obtain⟨K,rfl,e1,e2,n⟩:=hrel;replace n:=n.out
  by_cases hK:K<len
  ·have hKx:K<x.1.length:=by rw [hl.out];exact hK
   have e3:=e2.out;rw [List.drop_eq_getElem_cons hKx]at e3;have hy0:=hx.out x.1[K] (List.getElem_mem hKx);have hyl:=(hb1.out x.1[K] (List.getElem_mem hKx)).2;have hyK:x.1[K]?=some x.1[K]:=List.getElem?_eq_getElem hKx;have nodc:=Lib.hid fun R hR=>pnode_calls (hP.out.below (F0.bel n)) hb1.out K hKx R hR
   generalize x.1[K]=y at *;clear hKx;replace e3:=Lib.hid e3;replace hy0:=Lib.hid hy0;replace hyK:=Lib.hid hyK;clear e2;have i0:(0:Int)≤(K:Int):=by omega
   have i1:(K:Int)<(len:Int):=by omega
   go_wp2_with fail
   refine nodc.out _ (Lib.hid fun W3 nv ev y' hy rS rE m3=>?_)
   obtain rfl:y=y':=by
    have:=hyK.out;rw [hy,Option.some.injEq]at this;exact this.symm
   clear nodc hy hyK;replace n:=n.bl m3;obtain⟨A5,c5,rfl,-⟩:=rS.open;obtain⟨A6,c6,rfl,-,hA⟩:=ed_el rE;replace hA:=Lib.hid hA;clear rS rE m3;obtain⟨V4,e4,n,z4⟩:=n.new (.cells #[.int .i64 y.kind,.int .i64 y.at_,.int .i64 y.lo,.int .i64 y.hi,.int .i64 y.most,.slice A5 y.names.length c5,.slice A6 y.edges.length c6] 63);have mW:Below W3.heap.size W3 V4:=e4▸(Below.refl _ _).alloc (Nat.le_refl _) _;clear z4;obtain⟨y0,y1,y2,y3,y4,yn,ye⟩:=y;simp only at hyl n mW hA;go_upto_region 7 with(refine wpList_copy #[.int .i64 y0,.int .i64 y1,.int .i64 y2,.int .i64 y3,.int .i64 y4,.slice A5 yn.length c5,.slice A6 ye.length c6] ⟨rfl,rfl,rfl⟩ ⟨rfl,rfl,rfl⟩ node_alloc19 (by kernel_rfl) ⟨rfl,by simp [Value.oneCell']⟩ (fun _=>⟨rfl,rfl⟩) ?_;go_simp)
   clear e4;have t6:=n.c 0 6 rfl rfl;have n2:=Lib.hid n.tail;clear n;replace mW:=Lib.hid mW;obtain⟨gq,rfl⟩:∃g,g=gk:=⟨_,rfl⟩;go_wp2_with fail
   clear t6;go_loopg [26] ye.length (fun g k wr=>∃(J:Nat),k=.int .i64 J∧J+g=ye.length∧Hid (chkEs (chkE x.1 F) ye=chkEs (chkE x.1 F) (ye.drop J))∧Hid (Below W3.heap.size W3 wr)∧Hid (Hq F0 () () w wr [(w.heap.size,.cells #[.int .i64 0,.int .i64 0] 26)]))
   case atStart=>exact⟨0,rfl,by omega,Lib.hid rfl,mW,n2⟩
   case round =>
    clear n2 mW;obtain⟨J,rfl,f1,f2,mW,n⟩:=hrel;replace n:=n.out
    by_cases hJ:J<ye.length
    ·obtain⟨g,o,rfl,hg,hrg⟩:=hA.out J hJ
     have rg:=hrg wr mW.out;have hed:=hy0.out ye[J] (List.getElem_mem hJ);have f3:=f2.out;rw [List.drop_eq_getElem_cons hJ]at f3;clear f2 hrg;have j0:(0:Int)≤(J:Int):=by omega
     have j1:(J:Int)<(ye.length:Int):=by omega
     have cE:=Lib.hid fun(W:World) (hW:Below w.heap.size w W) R hR=>coarse_calls (hP.out.below hW) hb1.out (ye[J]'hJ) hed R hR
     replace f3:chkEs (chkE x.1 F) ye=if(chkE x.1 F ye[J]).1≠0 then chkE x.1 F ye[J]else chkEs (chkE x.1 F) (ye.drop (J+1)):=f3;generalize chkE x.1 F ye[J]=r at *;generalize ye[J]=e at *;obtain⟨x0,x1,x2,x3,x4,x5,x6,x7,x8,x9⟩:=e;obtain⟨q0,q1⟩:=r;simp only at f3;replace f3:=Lib.hid f3;obtain⟨V5,e5,n,z5⟩:=n.new (.cells (encE ⟨x0,x1,x2,x3,x4,x5,x6,x7,x8,x9⟩).toArray 67);have mV:Below wr.heap.size wr V5:=e5▸(Below.refl _ _).alloc (Nat.le_refl _) _;replace mW:=Lib.hid (mW.out.trans (mV.mono mW.out.size));clear z5 mV hed;go_upto_region 10 with(first|(refine wpList_load_g (by rfl) 67 _ rfl g (o+J*10) rfl _ _ rg Tryz.underlying67 rfl (by kernel_rfl) ?_;go_simp)|(refine wpList_copy (encE ⟨x0,x1,x2,x3,x4,x5,x6,x7,x8,x9⟩).toArray ⟨rfl,rfl,rfl⟩ ⟨rfl,rfl,rfl⟩ edge_alloc (by kernel_rfl) ⟨rfl,by simp [Value.oneCell',encE]⟩ (fun _=>⟨rfl,rfl⟩) ?_;go_simp))
     clear e5 rg;have rE:=n.rg 0 rfl;replace cE:=Lib.hid fun R hR=>cE.out V5 (F0.bel n) R hR
     go_wp2_with (refine wpList_load_g (by rfl) 67 _ rfl _ 0 rfl _ _ rE Tryz.underlying67 rfl (by kernel_rfl) ?_;go_simp)
     refine cE.out _ (Lib.hid fun W6 m6=>?_);clear cE rE;replace mW:=Lib.hid (mW.out.trans (m6.mono mW.out.size));replace n:=n.bl m6;obtain⟨V7,e7,n,z7⟩:=n.new (.cells #[.int .i64 q0,.int .i64 q1] 26);have mV:Below W6.heap.size W6 V7:=e7▸(Below.refl _ _).alloc (Nat.le_refl _) _;replace mW:=Lib.hid (mW.out.trans (mV.mono mW.out.size));clear z7 mV m6;go_upto_region 11 with fail
     clear e7;have t00:=n.c 0 0 rfl rfl
     by_cases c0:q0=0
     ·subst c0
      have f4:=f3.out;rw [if_neg (by simp)]at f4;replace f4:=Lib.hid f4;have n2:=Lib.hid n.tail.tail;clear n f3;go_wp2_with fail
      go_roundg (gk-1)
      case measure=>omega
      case rel=>exact⟨J+1,by go_num,by omega,f4,mW,n2⟩
     ·have tc:(q0==0)=false:=by simpa using c0
      have f4:=f3.out;rw [if_pos c0]at f4;have e4:chkNs (chkE x.1 F) x.1=if(chkEs (chkE x.1 F) ye).1≠0 then chkEs (chkE x.1 F) ye else chkNs (chkE x.1 F) (x.1.drop (K+1)):=e3.out;rw [f4,if_pos c0]at e4;rw [e4]at hR;have rF:=n.rg 0 rfl;obtain⟨V8,e8,n8⟩:=n.row (j:=2) rfl #[.int .i64 q0,.int .i64 q1];have hG:=n.b 2 rfl;have w0_:=n8.c 2 0 rfl rfl;have w1_:=n8.c 2 1 rfl rfl;have fin:=Lib.hid (hR.out V8 (F0.bel n8));clear n n8 hR e4 f4 e3 f3 mW;go_wp2_with (first|(refine wpList_load_g (by rfl) 26 _ rfl _ 0 rfl [.int .i64 q0,.int .i64 q1] _ rF Tryz.underlying26 rfl (by kernel_rfl) ?_;go_simp)|(refine wpList_store_row (by rfl) 26 _ _ (by rfl) w.heap.size #[.int .i64 q0,.int .i64 q1] (by rfl) (by rfl) 26 _ hG (by kernel_rfl) rfl (by simp [Value.oneCell']) ?_;refine cast_w e8 ?_;go_simp))
      first|refine bodyPost_ret ?_ rfl fin.out|refine bodyPost_end ?_ rfl fin.out
      simp [results,Tryz.results34,go_sem,w0_,w1_]
    ·obtain rfl:J=ye.length:=by omega
     have f4:=f2.out;rw [List.drop_length]at f4;replace f4:chkEs (chkE x.1 F) ye=(0,0):=f4;have e4:chkNs (chkE x.1 F) x.1=if(chkEs (chkE x.1 F) ye).1≠0 then chkEs (chkE x.1 F) ye else chkNs (chkE x.1 F) (x.1.drop (K+1)):=e3.out;rw [f4,if_neg (by simp)]at e4;replace e4:=Lib.hid e4;replace n:=Lib.hid n;clear f4 f2 e3 mW;go_wp2_with fail
     go_roundg (gq-1)
     case measure=>omega
     case rel=>exact⟨K+1,by go_num,by omega,e4,n⟩
  ·obtain rfl:K=len:=by omega
   have e3:=e2.out;rw [show x.1.drop K=[]from by rw [←hl.out];exact List.drop_length]at e3
   replace e3:chkNs (chkE x.1 F) x.1=(0,0):=e3;rw [e3]at hR;obtain⟨V8,e8,n8⟩:=n.row (j:=0) rfl #[.int .i64 0,.int .i64 0];have hG:=n.b 0 rfl;have w0_:=n8.c 0 0 rfl rfl;have w1_:=n8.c 0 1 rfl rfl;have fin:=Lib.hid (hR.out V8 (F0.bel n8));clear n n8 hR e3 e2;go_wp2_with (refine wpList_store_row (by rfl) 26 _ _ (by rfl) w.heap.size #[.int .i64 0,.int .i64 0] (by rfl) (by rfl) 26 _ hG (by kernel_rfl) rfl (by simp [Value.oneCell']) ?_;refine cast_w e8 ?_;go_simp)
   first|refine bodyPost_ret ?_ rfl fin.out|refine bodyPost_end ?_ rfl fin.out
   simp [results,Tryz.results34,go_sem,w0_,w1_]
end
end Eff
end Go.Proofs.YtabhkakomececaaGreat
