import Derived.Test.YtabhkakomececaaGreatQ33
import Derived.Test.YtabhkakomececaaGreatQ34
set_option linter.all false
set_option maxRecDepth 100000
set_option maxHeartbeats 4000000
namespace Go.Proofs.YtabhkakomececaaGreat.Eff
open Go.RowKit Go.Lib Utf Nam Res Kin Unp Rel Lab Inh Lat Pat
theorem container_calls(c:Int)(w:World)(R:Ending→World→Prop)(hR:Hid (R (.returned (.int .i64 (conS c))) w)):Calls Tryz.prog 143 #[.int .i64 c] w R:=by
 unfold conS at hR
 by_cases c1:c=1
 ·subst c1
  go_enter Tryz.func143,Tryz.ntmps143
  go_wp2_with fail
  exact hR.out
 ·rw [if_neg c1]at hR
  have t1:(c==1)=false:=by simpa using c1
  by_cases c2:c=5
  ·subst c2
   go_enter Tryz.func143,Tryz.ntmps143
   go_wp2_with fail
   exact hR.out
  ·rw [if_neg c2]at hR
   have t2:(c==5)=false:=by simpa using c2
   by_cases c3:c=4
   ·subst c3
    go_enter Tryz.func143,Tryz.ntmps143
    go_wp2_with fail
    exact hR.out
   ·rw [if_neg c3]at hR
    have t3:(c==4)=false:=by simpa using c3
    go_enter Tryz.func143,Tryz.ntmps143
    go_wp2_with fail
    exact hR.out
section
variable {w:World} {v:Value} {nm:List ByteArray} {F:Nat→Nat→Bool} {ns:List ByteArray} {x:List NdR×Int×List Int}
theorem start_calls(h:PlanP w v nm F ns x)(R:Ending→World→Prop)
  (hR:Hid (∀(t:Nat) w',t<nm.length→(∀a,a<nm.length→F t a=true)→Below w.heap.size w w'→R (.returned (.agg #[.int .i64 x.2.1,.int .i64 t])) w')):Calls Tryz.prog 80 #[v] w R:=by
 obtain⟨P,L,cs,rfl,hbP,hL⟩:=h.lv;have n:=F0.z w;obtain⟨V,e1,n,z1⟩:=n.new (.cells #[.int .i64 0,.int .i64 0] 163);have cR:=Lib.hid fun R hR=>proot_calls (h.below (F0.bel n)) R hR
 have cL:=Lib.hid fun R hR=>platv_calls (((F0.bel n).block P (hp_lt hbP)).trans hbP) R hR
 have cB:=Lib.hid fun R hR=>latbottomx_calls nm F _ V (hL.below (F0.bel n)) R hR
 clear h hL hbP z1;go_enter Tryz.func80,Tryz.ntmps80
 go_upto_region 1 with fail
 clear e1;go_wp2_with fail
 refine cR.out _ (Lib.hid ?_);go_wp2_with fail
 refine cL.out _ (Lib.hid ?_);go_wp2_with fail
 refine cB.out _ (Lib.hid fun t h1 h2=>?_);clear cR cL cB;obtain⟨V8,e8,n8⟩:=n.row (j:=0) rfl #[.int .i64 x.2.1,.int .i64 t];have hG:=n.b 0 rfl;have w0_:=n8.c 0 0 rfl rfl;have w1_:=n8.c 0 1 rfl rfl;have fin:=Lib.hid (hR.out t V8 h1 h2 (F0.bel n8));clear n n8 hR h1 h2;go_wp2_with (refine wpList_store_row (by rfl) 163 _ _ (by rfl) w.heap.size #[.int .i64 x.2.1,.int .i64 t] (by rfl) (by rfl) 163 _ hG (by kernel_rfl) rfl (by simp [Value.oneCell']) ?_;refine cast_w e8 ?_;go_simp)
 first|refine bodyPost_ret ?_ rfl fin.out|refine bodyPost_end ?_ rfl fin.out
 simp [results,Tryz.results80,go_sem,w0_,w1_]
end
theorem follow_calls(nm:List ByteArray)(F:Nat→Nat→Bool)(L:Nat)(w:World)(hL:LatP w (.pointer (some ⟨L,0,none⟩)) nm F)(node level:Int)(e0:ByteArray)(e1:Bool)(e2 e3 e4 e5 e6 e7 e8 e9:Int)(hl:0≤level∧level<(nm.length:Int))(he:0≤e4∧e4<(nm.length:Int))(R:Ending→World→Prop)
  (hR:Hid (∀w',Below w.heap.size w w'→R (.returned (.agg #[.int .i64 e3,.int .i64 (joinS nm.length F level.toNat e4.toNat)])) w')):Calls Tryz.prog 82 #[.pointer (some ⟨L,0,none⟩),.agg #[.int .i64 node,.int .i64 level],.agg #[.string e0,.bool e1,.int .i64 e2,.int .i64 e3,.int .i64 e4,.int .i64 e5,.int .i64 e6,.int .i64 e7,.int .i64 e8,.int .i64 e9]] w R:=by
 have n:=F0.z w;obtain⟨V1,q1,n,z1⟩:=n.new (.cells #[.int .i64 node,.int .i64 level] 163);obtain⟨V2,q2,n,z2⟩:=n.new (.cells #[.string e0,.bool e1,.int .i64 e2,.int .i64 e3,.int .i64 e4,.int .i64 e5,.int .i64 e6,.int .i64 e7,.int .i64 e8,.int .i64 e9] 67);obtain⟨V,q3,n,z3⟩:=n.new (.cells #[.int .i64 0,.int .i64 0] 163);have gW:Below V.heap.size V (V.drewN 1):=below_drewN (Below.refl _ _) 1;have cJ:=latjoinx_calls nm F _ (V.drewN 1) ((hL.below (F0.bel n)).below gW) level e4;rw [if_pos (by omega)]at cJ;generalize joinS nm.length F level.toNat e4.toNat=jn_ at *;replace cJ:=Lib.hid cJ;have l1:=n.lt 1 rfl;have l2:=n.lt 2 rfl;have k3:=fun q:BW V=>q.cell l1 (n.c 1 3 rfl rfl)
 have k4:=fun q:BW V=>q.cell l1 (n.c 1 4 rfl rfl)
 have k1:=fun q:BW V=>q.cell l2 (n.c 2 1 rfl rfl)
 clear hL hl he z1 z2 z3;go_enter Tryz.func82,Tryz.ntmps82
 go_upto_region 1 with fail
 clear q1 q2 q3;refine wp_region_mixT [([0,1,2,3,4,5,6],7)] [8] 9 (by kernel_rfl) (by kernel_rfl) (by kernel_rfl) (by kernel_rfl) (by decide) (fun _ _ d _ _ h=>by cases d<;>exact h) ?_
 refine mixt_cons (os:=[_,_,_,_,_,_,_]) (by simp only[pickO,List.filterMap_cons,List.filterMap_nil,List.getElem?_toArray,List.getElem?_cons_succ,List.getElem?_cons_zero];rfl) (fun Kp hKp=>?_)
 repeat (go_big_quiet_step (exact rfl))
 refine wpQuiet_nil ?_;refine hKp _ ?_;clear hKp;refine loudt (by rfl) (by kernel_rfl) (fun K1 hK1=>?_);go_simp;refine cJ.out _ (Lib.hid ?_);refine hK1 _ _ (BW.of gW) ?_;clear hK1 cJ;refine mixt_last (os:=[_]) (by simp only[pickO,List.filterMap_cons,List.filterMap_nil,List.getElem?_toArray,List.getElem?_cons_succ,List.getElem?_cons_zero];rfl) (fun Kp hKp=>?_)
 repeat (go_big_quiet_step (exact rfl))
 refine wpQuiet_nil ?_;refine hKp _ ?_;clear hKp k3 k4 k1 l1 l2;replace n:=n.bl gW;generalize V.drewN 1=V4 at *;have y0:=n.c 0 0 rfl rfl;have yf0:=n.f 0 0 rfl;have y1:=n.c 0 1 rfl rfl;have yf1:=n.f 0 1 rfl;obtain⟨V6,e6_,n6,z6⟩:=n.put (j:=0) rfl [(0,.int .i64 e3),(1,.int .i64 jn_)];simp only[stL]at e6_;simp only[stA,List.setIfInBounds_toArray,List.set_cons_succ,List.set_cons_zero]at n6;have w0_:=n6.c 0 0 rfl rfl;have w1_:=n6.c 0 1 rfl rfl;have fin:=Lib.hid (hR.out V6 (F0.bel n6));clear n n6 z6 hR gW;refine loudl (by rfl) (by kernel_rfl) ?_;go_simp;go_wp2_with fail
 first|refine bodyPost_ret ?_ rfl fin.out|refine bodyPost_end ?_ rfl fin.out
 simp [results,Tryz.results82,go_sem,w0_,w1_]
def zE:EdR:=⟨⟨#[]⟩,false,0,0,0,0,0,0,0,0⟩
abbrev edC(e:EdR):Array Value:=#[.string e.name,.bool e.bare,.int .i64 e.at_,.int .i64 e.dst,.int .i64 e.label,.int .i64 e.wide,.int .i64 e.coarse,.int .i64 e.n,.int .i64 e.seen,.int .i64 e.cat]
def atE(l:List EdR)(i:Int):EdR:=if 0≤i then(l[i.toNat]?).getD zE else zE
theorem named_calls(nm:ByteArray)(l:List EdR)(v:Value)(w:World)(hr:RdEd w v l)(hl:l.length≤1000000)(R:Ending→World→Prop)
  (hR:Hid (∀w',Below w.heap.size w w'→R (.returned (.tuple #[.agg (edC (atE l (namI nm l))),.bool (decide (0≤namI nm l))])) w')):Calls Tryz.prog 144 #[v,.string nm] w R:=by
 obtain⟨A,c,rfl,hlc,hel⟩:=ed_el hr;have hmf:∀(fn:Fn) (first cap:Array Value) (w:World),(Instr.makeFunc fn first cap).run Tryz.prog w=.ok (.func fn first cap) w:=fun _ _ _ _=>rfl
 have n:=F0.z w;obtain⟨V,e1,n,z1⟩:=n.new (.cells #[.string nm] 9);obtain⟨V2,e2,n,z2⟩:=n.new (.cells #[.string ⟨#[]⟩,.bool false,.int .i64 0,.int .i64 0,.int .i64 0,.int .i64 0,.int .i64 0,.int .i64 0,.int .i64 0,.int .i64 0] 67);have cI:=Lib.hid fun R hR=>idxE_calls nm w.heap.size l _ V2 (RdAt.below hr (F0.bel n)) hl (n.b 1 rfl) R hR
 replace hel:=Lib.hid hel;clear hr z1 z2;go_enter Tryz.func144,Tryz.ntmps144
 go_upto_region 1 with fail
 clear e1 e2;go_wp2_with fail
 refine cI.out _ (Lib.hid fun w1 m1=>?_);clear cI;replace n:=n.bl m1;clear m1 hmf
 have zer:namI nm l=-1→Hid (∀w',Below w.heap.size w w'→R (.returned (.tuple #[.agg #[.string ⟨#[]⟩,.bool false,.int .i64 0,.int .i64 0,.int .i64 0,.int .i64 0,.int .i64 0,.int .i64 0,.int .i64 0,.int .i64 0],.bool false])) w'):=fun e=>by
  rw [e]at hR;exact hR
 rcases ixF_cases (nmB nm) l 0 with q|⟨j,hj,q⟩
 ·have hZ:=zer (by unfold namI;rw [q,if_pos (by decide)])
  rw [q];clear hR zer q;obtain⟨V8,e8,n8⟩:=n.row (j:=0) rfl #[.string ⟨#[]⟩,.bool false,.int .i64 0,.int .i64 0,.int .i64 0,.int .i64 0,.int .i64 0,.int .i64 0,.int .i64 0,.int .i64 0];have hG:=n.b 0 rfl;have w0_:=n8.c 0 0 rfl rfl;have w1_:=n8.c 0 1 rfl rfl;have w2_:=n8.c 0 2 rfl rfl;have w3_:=n8.c 0 3 rfl rfl;have w4_:=n8.c 0 4 rfl rfl;have w5_:=n8.c 0 5 rfl rfl;have w6_:=n8.c 0 6 rfl rfl;have w7_:=n8.c 0 7 rfl rfl;have w8_:=n8.c 0 8 rfl rfl;have w9_:=n8.c 0 9 rfl rfl;have fin:=Lib.hid (hZ.out V8 (F0.bel n8));clear n n8 hZ;go_wp2_with (refine wpList_store_row (by rfl) 67 _ _ (by rfl) V.heap.size #[.string ⟨#[]⟩,.bool false,.int .i64 0,.int .i64 0,.int .i64 0,.int .i64 0,.int .i64 0,.int .i64 0,.int .i64 0,.int .i64 0] (by rfl) (by rfl) 67 _ hG (by kernel_rfl) rfl (by simp [Value.oneCell']) ?_;refine cast_w e8 ?_;go_simp)
  first|refine bodyPost_ret ?_ rfl fin.out|refine bodyPost_end ?_ rfl fin.out
  simp [results,Tryz.results144,go_sem,w0_,w1_,w2_,w3_,w4_,w5_,w6_,w7_,w8_,w9_]
 ·rw [Nat.zero_add]at q
  obtain⟨g,o,rfl,hg,hrg⟩:=hel.out j hj;have rg:=hrg w1 (F0.bel n)
  have eN:namI nm l=if(l[j]'hj).bare=true then -1 else(j:Int):=by
   unfold namI;rw [q,if_neg (by omega),Int.toNat_natCast,List.getElem?_eq_getElem hj];rfl
  have eA:atE l (j:Int)=l[j]'hj:=by
   unfold atE;rw [if_pos (by omega),Int.toNat_natCast,List.getElem?_eq_getElem hj];rfl
  have i0:(0:Int)≤(j:Int):=by omega
  have i1:(j:Int)<(l.length:Int):=by omega
  rw [q];clear hrg hel q;generalize(l[j]'hj)=e at *;obtain⟨x0,x1,x2,x3,x4,x5,x6,x7,x8,x9⟩:=e;unfold encE at rg;dsimp only at rg eN;have c1:=rg 1 _ rfl;cases x1 with
  | true =>
   have hZ:=zer (by rw [eN,if_pos rfl]);clear hR zer eN eA;obtain⟨V8,e8,n8⟩:=n.row (j:=0) rfl #[.string ⟨#[]⟩,.bool false,.int .i64 0,.int .i64 0,.int .i64 0,.int .i64 0,.int .i64 0,.int .i64 0,.int .i64 0,.int .i64 0];have hG:=n.b 0 rfl;have w0_:=n8.c 0 0 rfl rfl;have w1_:=n8.c 0 1 rfl rfl;have w2_:=n8.c 0 2 rfl rfl;have w3_:=n8.c 0 3 rfl rfl;have w4_:=n8.c 0 4 rfl rfl;have w5_:=n8.c 0 5 rfl rfl;have w6_:=n8.c 0 6 rfl rfl;have w7_:=n8.c 0 7 rfl rfl;have w8_:=n8.c 0 8 rfl rfl;have w9_:=n8.c 0 9 rfl rfl;have fin:=Lib.hid (hZ.out V8 (F0.bel n8));clear n n8 hZ;go_wp2_with (refine wpList_store_row (by rfl) 67 _ _ (by rfl) V.heap.size #[.string ⟨#[]⟩,.bool false,.int .i64 0,.int .i64 0,.int .i64 0,.int .i64 0,.int .i64 0,.int .i64 0,.int .i64 0,.int .i64 0] (by rfl) (by rfl) 67 _ hG (by kernel_rfl) rfl (by simp [Value.oneCell']) ?_;refine cast_w e8 ?_;go_simp)
   first|refine bodyPost_ret ?_ rfl fin.out|refine bodyPost_end ?_ rfl fin.out
   simp [results,Tryz.results144,go_sem,w0_,w1_,w2_,w3_,w4_,w5_,w6_,w7_,w8_,w9_]
  | false =>
   rw [if_neg (by decide)]at eN;rw [eN,eA,decide_eq_true i0]at hR;dsimp only[edC]at hR;clear zer eN eA;obtain⟨V8,e8,n8⟩:=n.row (j:=0) rfl #[.string x0,.bool false,.int .i64 x2,.int .i64 x3,.int .i64 x4,.int .i64 x5,.int .i64 x6,.int .i64 x7,.int .i64 x8,.int .i64 x9];have hG:=n.b 0 rfl;have w0_:=n8.c 0 0 rfl rfl;have w1_:=n8.c 0 1 rfl rfl;have w2_:=n8.c 0 2 rfl rfl;have w3_:=n8.c 0 3 rfl rfl;have w4_:=n8.c 0 4 rfl rfl;have w5_:=n8.c 0 5 rfl rfl;have w6_:=n8.c 0 6 rfl rfl;have w7_:=n8.c 0 7 rfl rfl;have w8_:=n8.c 0 8 rfl rfl;have w9_:=n8.c 0 9 rfl rfl;have fin:=Lib.hid (hR.out V8 (F0.bel n8));clear n n8 hR;go_wp2_with (first|(refine wpList_load_g (by rfl) 67 _ rfl g (o+j*10) rfl _ _ rg Tryz.underlying67 rfl (by kernel_rfl) ?_;go_simp)|(refine wpList_store_row (by rfl) 67 _ _ (by rfl) V.heap.size #[.string x0,.bool false,.int .i64 x2,.int .i64 x3,.int .i64 x4,.int .i64 x5,.int .i64 x6,.int .i64 x7,.int .i64 x8,.int .i64 x9] (by rfl) (by rfl) 67 _ hG (by kernel_rfl) rfl (by simp [Value.oneCell']) ?_;refine cast_w e8 ?_;go_simp))
   first|refine bodyPost_ret ?_ rfl fin.out|refine bodyPost_end ?_ rfl fin.out
   simp [results,Tryz.results144,go_sem,w0_,w1_,w2_,w3_,w4_,w5_,w6_,w7_,w8_,w9_]
theorem louds{P:Program}{ops:Array Oper}{Q:Exit→Act→World→Prop}{C:World→Prop}{k:Nat}{o:Oper}{a:Act}{w:World}{rest:List (List Nat×Nat)}{last:List Nat}(ho:ops[k]?=some o)(hg:Region.wanted o (yielded ops a.tmps)=false)
  (h:∀K:Act→World→Prop,(∀b w',C w'→mixP P ops C Q rest last b w'→K b w')→K (a.put o.dst undef) w):wpOp P ops Q k (fun b' w'=>C w'∧mixP P ops C Q rest last b' w') a w:=by
 unfold Go.wpOp;simp only[ho];rw [if_neg (by rw [hg];decide)]
 exact h (fun b w'=>C w'∧mixP P ops C Q rest last b w') fun b w' h1 h2=>⟨h1,h2⟩
theorem right_one(x:St):decide (RightP [x])=decide (RightSt x):=by
 by_cases h:RightSt x
 ·rw [decide_eq_true h,decide_eq_true ⟨by simp,fun y hy=>by rw [List.mem_singleton.1 hy];exact h⟩]
 ·rw [decide_eq_false h,decide_eq_false fun q=>h (q.2 x List.mem_cons_self)]
theorem con_kind{k:Int}:conS k=7∨conS k=8∨conS k=6∨conS k=5:=by
 unfold conS
 split
 ·exact .inl rfl
 ·split
  ·exact .inr (.inl rfl)
  ·split
   ·exact .inr (.inr (.inl rfl))
   ·exact .inr (.inr (.inr rfl))
theorem selected_calls(y:NdR)(g56:y.kind=5∨y.kind=6→∃e,y.edges=[e]∧e.bare=false)(A5:Option Addr)(n5 c5:Nat)(ev:Value)(x:St)(gx:Pat.GoodS x)(w:World)(hE:RdEd w ev y.edges)(hl:y.edges.length≤1000000)(R:Ending→World→Prop)
  (hR:Hid (∀w',Below w.heap.size w w'→R (.returned (.tuple #[.agg (edC (atE y.edges (selI y x))),.bool (decide (0≤selI y x))])) w')):Calls Tryz.prog 81 #[.agg #[.int .i64 y.kind,.int .i64 y.at_,.int .i64 y.lo,.int .i64 y.hi,.int .i64 y.most,.slice A5 n5 c5,ev],.agg #[.int .i64 x.1,.int .i64 x.2.1,.string x.2.2]] w R:=by
 obtain⟨A6,c6,rfl,-,hel⟩:=ed_el hE;have n:=F0.z w;obtain⟨V0,e1,n,z1⟩:=n.new (.cells #[.int .i64 y.kind,.int .i64 y.at_,.int .i64 y.lo,.int .i64 y.hi,.int .i64 y.most,.slice A5 n5 c5,.slice A6 y.edges.length c6] 63);obtain⟨V1,e2,n,z2⟩:=n.new (.cells #[.int .i64 x.1,.int .i64 x.2.1,.string x.2.2] 159);obtain⟨V,e3,n,z3⟩:=n.new (.cells #[.string ⟨#[]⟩,.bool false,.int .i64 0,.int .i64 0,.int .i64 0,.int .i64 0,.int .i64 0,.int .i64 0,.int .i64 0,.int .i64 0] 67)
 have zer:selI y x=-1→Hid (∀w',Below w.heap.size w w'→R (.returned (.tuple #[.agg #[.string ⟨#[]⟩,.bool false,.int .i64 0,.int .i64 0,.int .i64 0,.int .i64 0,.int .i64 0,.int .i64 0,.int .i64 0,.int .i64 0],.bool false])) w'):=fun e=>by
  rw [e]at hR;exact hR
 have hsel:selI y x=if RightSt x∧y.kind=conS x.1 then(if y.kind=7∨y.kind=8 then namI x.2.2 y.edges else if y.kind=5∧y.most≤x.2.1 then -1 else 0)else -1:=rfl;have cR:=Lib.hid fun W v hx R hR=>right_steps [x] v W hx (fun z hz=>by rw [List.mem_singleton.1 hz];exact gx) R hR
 rw [right_one]at cR;replace hel:=Lib.hid hel;replace hE:=Lib.hid hE;replace g56:=Lib.hid g56;have ck:=con_kind (k:=x.1);obtain⟨y0,y1,y2,y3,y4,yn,ye⟩:=y;obtain⟨x0_,x1_,x2_⟩:=x;simp only at hsel hE hel ck hl g56 n hR;generalize hSI:selI ⟨y0,y1,y2,y3,y4,yn,ye⟩ (x0_,x1_,x2_)=S at *;replace hSI:=Lib.hid hSI;have cC:=Lib.hid fun W R hR=>container_calls x0_ W R hR
 generalize conS x0_=kc at *;have gW:Below V.heap.size V (V.drewN 1):=below_drewN (Below.refl _ _) 1
 have rS:∀W,(∃q:BW V,W=q.w)→W.rangeAt V0.heap.size 0 [.int .i64 x0_,.int .i64 x1_,.string x2_]:=fun W hW=>by
  obtain⟨q,rfl⟩:=hW;exact(n.bl q.b).rg 1 rfl
 have l2:=n.lt 2 rfl;have l1:=n.lt 1 rfl;have kk0:=fun q:BW V=>q.cell l2 (n.c 2 0 rfl rfl)
 have kx0:=fun q:BW V=>q.cell l1 (n.c 1 0 rfl rfl)
 obtain⟨V4,e4,n4,z4⟩:=(n.bl gW).new (.cells #[.int .i64 x0_,.int .i64 x1_,.string x2_] 159);have gM:Below V.heap.size V V4:=e4▸gW.alloc gW.size _;have hx4:Pat.RdP V4 (.slice (some ⟨V.heap.size,0,none⟩) 1 1) [(x0_,x1_,x2_)]:=⟨_,1,1,rfl,rfl,Nat.le_refl _,fun _=>⟨_,0,rfl,n4.lt 0 rfl,fun j u e=>n4.rg 0 rfl j u e⟩⟩;replace n:=Lib.hid n;replace n4:=Lib.hid n4;clear z1 z2 z3 z4;go_enter Tryz.func81,Tryz.ntmps81
 go_upto_region 1 with fail
 clear e1 e2 e3
 by_cases hr:RightSt (x0_,x1_,x2_)
 case neg =>
  rw [decide_eq_false hr]at cR;rw [if_neg (fun q=>hr q.1)]at hsel;have hZ:=zer hsel;clear hsel zer hR hr;refine wp_region_mix [([0],1),([],2),([3,4,5,6,7,8],9)] [10,11] (by kernel_rfl) (by kernel_rfl) (by kernel_rfl) (by kernel_rfl) (fun _ _ d _ _ h=>by cases d<;>exact h) ?_
  refine mix_cons (os:=[_]) (by simp only[pickO,List.filterMap_cons,List.filterMap_nil,List.getElem?_toArray,List.getElem?_cons_succ,List.getElem?_cons_zero];rfl) (fun Kp hKp=>?_)
  refine wpQuiet_load rfl 159 _ rfl V0.heap.size 0 rfl _ _ rS Tryz.underlying159 rfl (by kernel_rfl) ?_
  try go_simp
  refine wpQuiet_nil ?_;refine hKp _ ?_;clear hKp;refine loud (by rfl) (by kernel_rfl) (fun Kl hKl=>?_);go_simp;refine hKl _ _ (BW.of gM) ?_;clear hKl;refine mix_cons (os:=[]) (by rfl) (fun Kp hKp=>?_);refine wpQuiet_nil ?_;refine hKp _ ?_;clear hKp;refine loud (by rfl) (by kernel_rfl) (fun Kl hKl=>?_);go_simp;refine cR.out _ _ hx4 _ (Lib.hid fun W5 m5=>?_);have n5:=Lib.hid (n4.out.bl m5);have g5:=gM.trans (m5.mono gM.size);refine hKl _ _ (BW.of g5) ?_;clear hKl n4 m5;refine mix_cons (os:=[_,_,_,_,_,_]) (by simp only[pickO,List.filterMap_cons,List.filterMap_nil,List.getElem?_toArray,List.getElem?_cons_succ,List.getElem?_cons_zero];rfl) (fun Kp hKp=>?_)
  repeat (go_big_quiet_step (exact rfl))
  refine wpQuiet_nil ?_;refine hKp _ ?_;clear hKp;refine louds (by rfl) (by kernel_rfl) (fun Kl hKl=>?_);go_simp;refine hKl _ _ (BW.of g5) ?_;clear hKl;refine mix_nil (os:=[_,_]) (by simp only[pickO,List.filterMap_cons,List.filterMap_nil,List.getElem?_toArray,List.getElem?_cons_succ,List.getElem?_cons_zero];rfl) (fun Kp hKp=>?_)
  repeat (go_big_quiet_step (exact rfl))
  refine wpQuiet_nil ?_;refine hKp _ ?_;clear hKp g5;clear cR cC rS kk0 kx0 l1 l2 hx4 n gW gM e4;have n:=n5.out;clear n5;obtain⟨V8,e8,n8⟩:=n.row (j:=1) rfl #[.string ⟨#[]⟩,.bool false,.int .i64 0,.int .i64 0,.int .i64 0,.int .i64 0,.int .i64 0,.int .i64 0,.int .i64 0,.int .i64 0];have hG:=n.b 1 rfl;have w0_:=n8.c 1 0 rfl rfl;have w1_:=n8.c 1 1 rfl rfl;have w2_:=n8.c 1 2 rfl rfl;have w3_:=n8.c 1 3 rfl rfl;have w4_:=n8.c 1 4 rfl rfl;have w5_:=n8.c 1 5 rfl rfl;have w6_:=n8.c 1 6 rfl rfl;have w7_:=n8.c 1 7 rfl rfl;have w8_:=n8.c 1 8 rfl rfl;have w9_:=n8.c 1 9 rfl rfl;have fin:=Lib.hid (hZ.out V8 (F0.bel n8));clear n n8 hZ;go_wp2_with (refine wpList_store_row (by rfl) 67 _ _ (by rfl) V1.heap.size #[.string ⟨#[]⟩,.bool false,.int .i64 0,.int .i64 0,.int .i64 0,.int .i64 0,.int .i64 0,.int .i64 0,.int .i64 0,.int .i64 0] (by rfl) (by rfl) 67 _ hG (by kernel_rfl) rfl (by simp [Value.oneCell']) ?_;refine cast_w e8 ?_;go_simp)
  first|refine bodyPost_ret ?_ rfl fin.out|refine bodyPost_end ?_ rfl fin.out
  simp [results,Tryz.results81,go_sem,w0_,w1_,w2_,w3_,w4_,w5_,w6_,w7_,w8_,w9_]
 case pos =>
  rw [decide_eq_true hr]at cR
  by_cases kk:y0=kc
  case neg =>
   have tk:(y0==kc)=false:=by simpa using kk
   rw [if_neg (fun q=>kk q.2)]at hsel;have hZ:=zer hsel;clear hsel zer hR hr kk;refine wp_region_mix [([0],1),([],2),([3,4,5,6,7,8],9)] [10,11] (by kernel_rfl) (by kernel_rfl) (by kernel_rfl) (by kernel_rfl) (fun _ _ d _ _ h=>by cases d<;>exact h) ?_
   refine mix_cons (os:=[_]) (by simp only[pickO,List.filterMap_cons,List.filterMap_nil,List.getElem?_toArray,List.getElem?_cons_succ,List.getElem?_cons_zero];rfl) (fun Kp hKp=>?_)
   refine wpQuiet_load rfl 159 _ rfl V0.heap.size 0 rfl _ _ rS Tryz.underlying159 rfl (by kernel_rfl) ?_
   try go_simp
   refine wpQuiet_nil ?_;refine hKp _ ?_;clear hKp;refine loud (by rfl) (by kernel_rfl) (fun Kl hKl=>?_);go_simp;refine hKl _ _ (BW.of gM) ?_;clear hKl;refine mix_cons (os:=[]) (by rfl) (fun Kp hKp=>?_);refine wpQuiet_nil ?_;refine hKp _ ?_;clear hKp;refine loud (by rfl) (by kernel_rfl) (fun Kl hKl=>?_);go_simp;refine cR.out _ _ hx4 _ (Lib.hid fun W5 m5=>?_);have n5:=Lib.hid (n4.out.bl m5);have g5:=gM.trans (m5.mono gM.size);refine hKl _ _ (BW.of g5) ?_;clear hKl n4 m5;refine mix_cons (os:=[_,_,_,_,_,_]) (by simp only[pickO,List.filterMap_cons,List.filterMap_nil,List.getElem?_toArray,List.getElem?_cons_succ,List.getElem?_cons_zero];rfl) (fun Kp hKp=>?_)
   repeat (go_big_quiet_step (exact rfl))
   refine wpQuiet_nil ?_;refine hKp _ ?_;clear hKp;refine loud (by rfl) (by kernel_rfl) (fun Kl hKl=>?_);go_simp;refine cC.out _ _ (Lib.hid ?_);refine hKl _ _ (BW.of g5) ?_;clear hKl;refine mix_nil (os:=[_,_]) (by simp only[pickO,List.filterMap_cons,List.filterMap_nil,List.getElem?_toArray,List.getElem?_cons_succ,List.getElem?_cons_zero];rfl) (fun Kp hKp=>?_)
   repeat (go_big_quiet_step (exact rfl))
   refine wpQuiet_nil ?_;refine hKp _ ?_;clear hKp g5;clear cR cC rS kk0 kx0 l1 l2 hx4 n gW gM e4;have n:=n5.out;clear n5;obtain⟨V8,e8,n8⟩:=n.row (j:=1) rfl #[.string ⟨#[]⟩,.bool false,.int .i64 0,.int .i64 0,.int .i64 0,.int .i64 0,.int .i64 0,.int .i64 0,.int .i64 0,.int .i64 0];have hG:=n.b 1 rfl;have w0_:=n8.c 1 0 rfl rfl;have w1_:=n8.c 1 1 rfl rfl;have w2_:=n8.c 1 2 rfl rfl;have w3_:=n8.c 1 3 rfl rfl;have w4_:=n8.c 1 4 rfl rfl;have w5_:=n8.c 1 5 rfl rfl;have w6_:=n8.c 1 6 rfl rfl;have w7_:=n8.c 1 7 rfl rfl;have w8_:=n8.c 1 8 rfl rfl;have w9_:=n8.c 1 9 rfl rfl;have fin:=Lib.hid (hZ.out V8 (F0.bel n8));clear n n8 hZ;go_wp2_with (refine wpList_store_row (by rfl) 67 _ _ (by rfl) V1.heap.size #[.string ⟨#[]⟩,.bool false,.int .i64 0,.int .i64 0,.int .i64 0,.int .i64 0,.int .i64 0,.int .i64 0,.int .i64 0,.int .i64 0] (by rfl) (by rfl) 67 _ hG (by kernel_rfl) rfl (by simp [Value.oneCell']) ?_;refine cast_w e8 ?_;go_simp)
   first|refine bodyPost_ret ?_ rfl fin.out|refine bodyPost_end ?_ rfl fin.out
   simp [results,Tryz.results81,go_sem,w0_,w1_,w2_,w3_,w4_,w5_,w6_,w7_,w8_,w9_]
  case pos =>
   rw [if_pos ⟨hr,kk⟩]at hsel;subst kk;refine wp_region_mix [([0],1),([],2),([3,4,5,6,7,8],9)] [10,11] (by kernel_rfl) (by kernel_rfl) (by kernel_rfl) (by kernel_rfl) (fun _ _ d _ _ h=>by cases d<;>exact h) ?_
   refine mix_cons (os:=[_]) (by simp only[pickO,List.filterMap_cons,List.filterMap_nil,List.getElem?_toArray,List.getElem?_cons_succ,List.getElem?_cons_zero];rfl) (fun Kp hKp=>?_)
   refine wpQuiet_load rfl 159 _ rfl V0.heap.size 0 rfl _ _ rS Tryz.underlying159 rfl (by kernel_rfl) ?_
   try go_simp
   refine wpQuiet_nil ?_;refine hKp _ ?_;clear hKp;refine loud (by rfl) (by kernel_rfl) (fun Kl hKl=>?_);go_simp;refine hKl _ _ (BW.of gM) ?_;clear hKl;refine mix_cons (os:=[]) (by rfl) (fun Kp hKp=>?_);refine wpQuiet_nil ?_;refine hKp _ ?_;clear hKp;refine loud (by rfl) (by kernel_rfl) (fun Kl hKl=>?_);go_simp;refine cR.out _ _ hx4 _ (Lib.hid fun W5 m5=>?_);have n5:=Lib.hid (n4.out.bl m5);have g5:=gM.trans (m5.mono gM.size);refine hKl _ _ (BW.of g5) ?_;clear hKl n4 m5;refine mix_cons (os:=[_,_,_,_,_,_]) (by simp only[pickO,List.filterMap_cons,List.filterMap_nil,List.getElem?_toArray,List.getElem?_cons_succ,List.getElem?_cons_zero];rfl) (fun Kp hKp=>?_)
   repeat (go_big_quiet_step (exact rfl))
   refine wpQuiet_nil ?_;refine hKp _ ?_;clear hKp;refine loud (by rfl) (by kernel_rfl) (fun Kl hKl=>?_);go_simp;refine cC.out _ _ (Lib.hid ?_);refine hKl _ _ (BW.of g5) ?_;clear hKl;refine mix_nil (os:=[_,_]) (by simp only[pickO,List.filterMap_cons,List.filterMap_nil,List.getElem?_toArray,List.getElem?_cons_succ,List.getElem?_cons_zero];rfl) (fun Kp hKp=>?_)
   repeat (go_big_quiet_step (exact rfl))
   refine wpQuiet_nil ?_;refine hKp _ ?_;clear hKp g5;clear cR cC rS kk0 kx0 l1 l2 hx4 n gW gM e4 hr;have n:=n5.out;clear n5;have a0:=n.c 3 0 rfl rfl
   by_cases k78:y0=7∨y0=8
   ·rw [if_pos k78]at hsel
    subst hsel;have a6:=n.c 3 6 rfl rfl;have a2:=n.c 2 2 rfl rfl;have cN:=Lib.hid fun R hR=>named_calls x2_ ye _ W5 (RdAt.below hE.out (F0.bel n)) hl R hR
    generalize namI x2_ ye=N at *;generalize hAE:atE ye N=E at *;generalize decide (0≤N)=D at *;obtain⟨x0,x1,x2,x3,x4,x5,x6,x7,x8,x9⟩:=E;dsimp only[edC]at cN hR;clear zer hel hE g56 ck;rcases k78 with rfl|rfl
    ·go_wp2_with fail
     refine cN.out _ (Lib.hid fun W6 m6=>?_);replace n:=n.bl m6;clear m6 cN a0 a6 a2;obtain⟨V8,e8,n8⟩:=n.row (j:=1) rfl #[.string x0,.bool x1,.int .i64 x2,.int .i64 x3,.int .i64 x4,.int .i64 x5,.int .i64 x6,.int .i64 x7,.int .i64 x8,.int .i64 x9];have hG:=n.b 1 rfl;have w0_:=n8.c 1 0 rfl rfl;have w1_:=n8.c 1 1 rfl rfl;have w2_:=n8.c 1 2 rfl rfl;have w3_:=n8.c 1 3 rfl rfl;have w4_:=n8.c 1 4 rfl rfl;have w5_:=n8.c 1 5 rfl rfl;have w6_:=n8.c 1 6 rfl rfl;have w7_:=n8.c 1 7 rfl rfl;have w8_:=n8.c 1 8 rfl rfl;have w9_:=n8.c 1 9 rfl rfl;have fin:=Lib.hid (hR.out V8 (F0.bel n8));clear n n8 hR;go_wp2_with (refine wpList_store_row (by rfl) 67 _ _ (by rfl) V1.heap.size #[.string x0,.bool x1,.int .i64 x2,.int .i64 x3,.int .i64 x4,.int .i64 x5,.int .i64 x6,.int .i64 x7,.int .i64 x8,.int .i64 x9] (by rfl) (by rfl) 67 _ hG (by kernel_rfl) rfl (by simp [Value.oneCell']) ?_;refine cast_w e8 ?_;go_simp)
     first|refine bodyPost_ret ?_ rfl fin.out|refine bodyPost_end ?_ rfl fin.out
     simp [results,Tryz.results81,go_sem,w0_,w1_,w2_,w3_,w4_,w5_,w6_,w7_,w8_,w9_]
    ·go_wp2_with fail
     refine cN.out _ (Lib.hid fun W6 m6=>?_);replace n:=n.bl m6;clear m6 cN a0 a6 a2;obtain⟨V8,e8,n8⟩:=n.row (j:=1) rfl #[.string x0,.bool x1,.int .i64 x2,.int .i64 x3,.int .i64 x4,.int .i64 x5,.int .i64 x6,.int .i64 x7,.int .i64 x8,.int .i64 x9];have hG:=n.b 1 rfl;have w0_:=n8.c 1 0 rfl rfl;have w1_:=n8.c 1 1 rfl rfl;have w2_:=n8.c 1 2 rfl rfl;have w3_:=n8.c 1 3 rfl rfl;have w4_:=n8.c 1 4 rfl rfl;have w5_:=n8.c 1 5 rfl rfl;have w6_:=n8.c 1 6 rfl rfl;have w7_:=n8.c 1 7 rfl rfl;have w8_:=n8.c 1 8 rfl rfl;have w9_:=n8.c 1 9 rfl rfl;have fin:=Lib.hid (hR.out V8 (F0.bel n8));clear n n8 hR;go_wp2_with (refine wpList_store_row (by rfl) 67 _ _ (by rfl) V1.heap.size #[.string x0,.bool x1,.int .i64 x2,.int .i64 x3,.int .i64 x4,.int .i64 x5,.int .i64 x6,.int .i64 x7,.int .i64 x8,.int .i64 x9] (by rfl) (by rfl) 67 _ hG (by kernel_rfl) rfl (by simp [Value.oneCell']) ?_;refine cast_w e8 ?_;go_simp)
     first|refine bodyPost_ret ?_ rfl fin.out|refine bodyPost_end ?_ rfl fin.out
     simp [results,Tryz.results81,go_sem,w0_,w1_,w2_,w3_,w4_,w5_,w6_,w7_,w8_,w9_]
   ·rw [if_neg k78]at hsel
    have t7:(y0==7)=false:=by simpa using fun q=>k78 (.inl q)
    have t8:(y0==8)=false:=by simpa using fun q=>k78 (.inr q)
    by_cases k5:y0=5
    ·subst k5
     have a1:=n.c 2 1 rfl rfl;have a4:=n.c 3 4 rfl rfl
     by_cases hm:y4≤x1_
     ·rw [if_pos ⟨rfl,hm⟩]at hsel
      have hZ:=zer hsel;have hm2:¬x1_<y4:=by omega
      clear hsel zer hR g56 hel hE ck;obtain⟨V8,e8,n8⟩:=n.row (j:=1) rfl #[.string ⟨#[]⟩,.bool false,.int .i64 0,.int .i64 0,.int .i64 0,.int .i64 0,.int .i64 0,.int .i64 0,.int .i64 0,.int .i64 0];have hG:=n.b 1 rfl;have w0_:=n8.c 1 0 rfl rfl;have w1_:=n8.c 1 1 rfl rfl;have w2_:=n8.c 1 2 rfl rfl;have w3_:=n8.c 1 3 rfl rfl;have w4_:=n8.c 1 4 rfl rfl;have w5_:=n8.c 1 5 rfl rfl;have w6_:=n8.c 1 6 rfl rfl;have w7_:=n8.c 1 7 rfl rfl;have w8_:=n8.c 1 8 rfl rfl;have w9_:=n8.c 1 9 rfl rfl;have fin:=Lib.hid (hZ.out V8 (F0.bel n8));clear n n8 hZ;go_wp2_with (refine wpList_store_row (by rfl) 67 _ _ (by rfl) V1.heap.size #[.string ⟨#[]⟩,.bool false,.int .i64 0,.int .i64 0,.int .i64 0,.int .i64 0,.int .i64 0,.int .i64 0,.int .i64 0,.int .i64 0] (by rfl) (by rfl) 67 _ hG (by kernel_rfl) rfl (by simp [Value.oneCell']) ?_;refine cast_w e8 ?_;go_simp)
      first|refine bodyPost_ret ?_ rfl fin.out|refine bodyPost_end ?_ rfl fin.out
      simp [results,Tryz.results81,go_sem,w0_,w1_,w2_,w3_,w4_,w5_,w6_,w7_,w8_,w9_]
     ·rw [if_neg (fun q=>hm q.2)]at hsel
      have hm2:x1_<y4:=by omega
      obtain⟨e,he,-⟩:=g56.out (.inl rfl);subst hsel;replace he:ye=[e]:=he;subst he;obtain⟨g,o,rfl,hg,hrg⟩:=hel.out 0 (by simp);have rg:=hrg W5 (F0.bel n);have a6:=n.c 3 6 rfl rfl;have eA:atE [e] 0=e:=rfl;rw [eA,decide_eq_true (Int.le_refl 0)]at hR;clear zer hel hE g56 ck hrg eA;obtain⟨x0,x1,x2,x3,x4,x5,x6,x7,x8,x9⟩:=e;rw [List.getElem_cons_zero]at rg;unfold encE at rg;dsimp only[edC]at rg hR;simp only[Nat.zero_mul,Nat.add_zero]at rg;obtain⟨V8,e8,n8⟩:=n.row (j:=1) rfl #[.string x0,.bool x1,.int .i64 x2,.int .i64 x3,.int .i64 x4,.int .i64 x5,.int .i64 x6,.int .i64 x7,.int .i64 x8,.int .i64 x9];have hG:=n.b 1 rfl;have w0_:=n8.c 1 0 rfl rfl;have w1_:=n8.c 1 1 rfl rfl;have w2_:=n8.c 1 2 rfl rfl;have w3_:=n8.c 1 3 rfl rfl;have w4_:=n8.c 1 4 rfl rfl;have w5_:=n8.c 1 5 rfl rfl;have w6_:=n8.c 1 6 rfl rfl;have w7_:=n8.c 1 7 rfl rfl;have w8_:=n8.c 1 8 rfl rfl;have w9_:=n8.c 1 9 rfl rfl;have fin:=Lib.hid (hR.out V8 (F0.bel n8));clear n n8 hR;go_wp2_with (first|(refine wpList_load_g (by rfl) 67 _ rfl g o rfl _ _ rg Tryz.underlying67 rfl (by kernel_rfl) ?_;go_simp)|(refine wpList_store_row (by rfl) 67 _ _ (by rfl) V1.heap.size #[.string x0,.bool x1,.int .i64 x2,.int .i64 x3,.int .i64 x4,.int .i64 x5,.int .i64 x6,.int .i64 x7,.int .i64 x8,.int .i64 x9] (by rfl) (by rfl) 67 _ hG (by kernel_rfl) rfl (by simp [Value.oneCell']) ?_;refine cast_w e8 ?_;go_simp))
      first|refine bodyPost_ret ?_ rfl fin.out|refine bodyPost_end ?_ rfl fin.out
      simp [results,Tryz.results81,go_sem,w0_,w1_,w2_,w3_,w4_,w5_,w6_,w7_,w8_,w9_]
    ·have t5:(y0==5)=false:=by simpa using k5
     rw [if_neg (fun q=>k5 q.1)]at hsel;have k6:y0=6:=by omega
     subst k6;obtain⟨e,he,-⟩:=g56.out (.inr rfl);subst hsel;replace he:ye=[e]:=he;subst he;obtain⟨g,o,rfl,hg,hrg⟩:=hel.out 0 (by simp);have rg:=hrg W5 (F0.bel n);have a6:=n.c 3 6 rfl rfl;have eA:atE [e] 0=e:=rfl;rw [eA,decide_eq_true (Int.le_refl 0)]at hR;clear zer hel hE g56 ck hrg eA;obtain⟨x0,x1,x2,x3,x4,x5,x6,x7,x8,x9⟩:=e;rw [List.getElem_cons_zero]at rg;unfold encE at rg;dsimp only[edC]at rg hR;simp only[Nat.zero_mul,Nat.add_zero]at rg;obtain⟨V8,e8,n8⟩:=n.row (j:=1) rfl #[.string x0,.bool x1,.int .i64 x2,.int .i64 x3,.int .i64 x4,.int .i64 x5,.int .i64 x6,.int .i64 x7,.int .i64 x8,.int .i64 x9];have hG:=n.b 1 rfl;have w0_:=n8.c 1 0 rfl rfl;have w1_:=n8.c 1 1 rfl rfl;have w2_:=n8.c 1 2 rfl rfl;have w3_:=n8.c 1 3 rfl rfl;have w4_:=n8.c 1 4 rfl rfl;have w5_:=n8.c 1 5 rfl rfl;have w6_:=n8.c 1 6 rfl rfl;have w7_:=n8.c 1 7 rfl rfl;have w8_:=n8.c 1 8 rfl rfl;have w9_:=n8.c 1 9 rfl rfl;have fin:=Lib.hid (hR.out V8 (F0.bel n8));clear n n8 hR;go_wp2_with (first|(refine wpList_load_g (by rfl) 67 _ rfl g o rfl _ _ rg Tryz.underlying67 rfl (by kernel_rfl) ?_;go_simp)|(refine wpList_store_row (by rfl) 67 _ _ (by rfl) V1.heap.size #[.string x0,.bool x1,.int .i64 x2,.int .i64 x3,.int .i64 x4,.int .i64 x5,.int .i64 x6,.int .i64 x7,.int .i64 x8,.int .i64 x9] (by rfl) (by rfl) 67 _ hG (by kernel_rfl) rfl (by simp [Value.oneCell']) ?_;refine cast_w e8 ?_;go_simp))
     first|refine bodyPost_ret ?_ rfl fin.out|refine bodyPost_end ?_ rfl fin.out
     simp [results,Tryz.results81,go_sem,w0_,w1_,w2_,w3_,w4_,w5_,w6_,w7_,w8_,w9_]
theorem good_bd{l:List NdR}(g:GoodL l):∀y∈l,y.names.length≤1000000∧y.edges.length≤1000000:=fun y hy=>by
 have a:=(g y hy).ln;have b:=(g y hy).le;omega
theorem plan_latt{w:World}{v:Value}{nm:List ByteArray}{F:Nat→Nat→Bool}{ns:List ByteArray}{x:List NdR×Int×List Int}(h:PlanP w v nm F ns x):Latt nm.length F:=by
 obtain⟨P,L,cs,-,-,hL⟩:=h.lv;exact hL.latt.1
theorem pos_alloc20(ρ:Operand→Value)(W:World)(o:Oper)(h:o.op=.alloc 163):(execOp ρ o).run Tryz.prog W=.ok (.value (ptA W.heap.size)) (W.alloc (.cells #[.int .i64 0,.int .i64 0] 163)):=by
 simp [execOp,h,go_sem,ptA]
theorem stp_alloc20(ρ:Operand→Value)(W:World)(o:Oper)(h:o.op=.alloc 159):(execOp ρ o).run Tryz.prog W=.ok (.value (ptA W.heap.size)) (W.alloc (.cells #[.int .i64 0,.int .i64 0,.string ⟨#[]⟩] 159)):=by
 simp [execOp,h,go_sem,ptA]
theorem edg_alloc20(ρ:Operand→Value)(W:World)(o:Oper)(h:o.op=.alloc 67):(execOp ρ o).run Tryz.prog W=.ok (.value (ptA W.heap.size)) (W.alloc (.cells #[.string ⟨#[]⟩,.bool false,.int .i64 0,.int .i64 0,.int .i64 0,.int .i64 0,.int .i64 0,.int .i64 0,.int .i64 0,.int .i64 0] 67)):=by
 simp [execOp,h,go_sem,ptA]
theorem walk_step{J:Nat→Nat→Int}{sel:NdR→St→Int}{ns:List NdR}{x:St}{r:List St}{i:Nat}(hi:i<ns.length){a:Int}:walkS J sel ns (x::r) ((i:Int),a)=if sel (ns[i]'hi) x<0 then(-1,-1)else match(ns[i]'hi).edges[(sel (ns[i]'hi) x).toNat]? with|none=>(-1,-1)|some e=>walkS J sel ns r (e.dst,J a.toNat e.label.toNat):=by
 conv=>lhs;unfold walkS
 simp only[Int.toNat_natCast];rw [List.getElem?_eq_getElem hi];rfl
section
variable {w:World} {v:Value} {nm:List ByteArray} {F:Nat→Nat→Bool} {ns:List ByteArray} {x:List NdR×Int×List Int}
theorem walk20_calls(h:PlanP w v nm F ns x)(hb1:∀y∈x.1,y.names.length≤1000000∧y.edges.length≤1000000)(gx:GoodL x.1)(ix:NdIn x.1.length x.1)(hx:NdEd nm.length x.1)(hroot:0≤x.2.1∧x.2.1<(x.1.length:Int))(hlen:1≤x.1.length∧x.1.length≤40000)(xs:List St)(gxs:∀s∈xs,Pat.GoodS s)(pv:Value)(hp:Pat.RdP w pv xs)(hxl:xs.length≤1000000)(R:Ending→World→Prop)
  (hR:Hid (∀(t:Nat) w',t<nm.length→(∀a,a<nm.length→F t a=true)→Below w.heap.size w w'→R (.returned (.tuple #[.int .i64 (walkS (joinS nm.length F) selI x.1 xs (x.2.1,t)).1,.int .i64 (walkS (joinS nm.length F) selI x.1 xs (x.2.1,t)).2,.bool (decide (0≤(walkS (joinS nm.length F) selI x.1 xs (x.2.1,t)).1))])) w')):Calls Tryz.prog 40 #[v,pv] w R:=by
 have hLt:=plan_latt h;obtain⟨P,L,cs,rfl,hbP,hL⟩:=h.lv;obtain⟨A,c,rfl,hlc,hel⟩:=hp.op;have n0:=F0.z w;have cL:=Lib.hid fun R hR=>plen_calls h R hR
 have cS:=Lib.hid fun R hR=>start_calls h R hR
 obtain⟨len,hl⟩:∃len,x.1.length=len:=⟨_,rfl⟩;rw [hl]at cL hroot hlen;replace hl:=Lib.hid hl;have hP:=Lib.hid h;have hLP:=Lib.hid hL;have hBP:=Lib.hid hbP;replace hel:=Lib.hid hel;replace hx:=Lib.hid hx;replace hb1:=Lib.hid hb1;replace gx:=Lib.hid gx;replace ix:=Lib.hid ix;replace gxs:=Lib.hid gxs;replace hLt:=Lib.hid hLt
 have t0:((len:Int)==0)=false:=by
  have:¬(len:Int)=0:=by omega
  simpa using this
 clear h hp hL hbP;go_enter Tryz.func40,Tryz.ntmps40
 go_wp2_with fail
 refine cL.out _ (Lib.hid ?_);clear cL;go_upto_region 3 with fail
 clear t0;go_wp2_with fail
 refine cS.out _ (Lib.hid fun t W1 ht hb m1=>?_);clear cS;replace hR:=Lib.hid fun w'=>hR.out t w' ht hb
 have n1:=n0.bl m1;obtain⟨V,e1,n,z1⟩:=n1.new (.cells #[.int .i64 x.2.1,.int .i64 t] 163);clear n0 n1 m1 z1 hb;go_upto_region 4 with(refine wpList_copy #[.int .i64 x.2.1,.int .i64 t] ⟨rfl,rfl,rfl⟩ ⟨rfl,rfl,rfl⟩ pos_alloc20 (by kernel_rfl) ⟨rfl,by simp [Value.oneCell']⟩ (fun _=>⟨rfl,rfl⟩) ?_;go_simp)
 clear e1;obtain⟨I0,hI0⟩:∃I:Nat,x.2.1=(I:Int):=⟨x.2.1.toNat,by omega⟩;rw [hI0]at n hR hroot;have hI0l:I0<len:=by omega
 have hst:Hid (walkS (joinS nm.length F) selI x.1 xs ((I0:Int),(t:Int))=walkS (joinS nm.length F) selI x.1 (xs.drop 0) ((I0:Int),(t:Int))):=Lib.hid rfl;generalize hW:walkS (joinS nm.length F) selI x.1 xs ((I0:Int),(t:Int))=res at *;obtain⟨r0,r1⟩:=res;simp only at hR;replace hW:=Lib.hid hW;have nS:=Lib.hid n;clear n hI0;go_upto_region 5 with fail
 go_loopg [21] xs.length (fun g k wr=>∃(K I a:Nat),k=.int .i64 K∧K+g=xs.length∧I<len∧a<nm.length∧Hid ((r0,r1)=walkS (joinS nm.length F) selI x.1 (xs.drop K) ((I:Int),(a:Int)))∧Hid (Hq F0 () () w wr [(W1.heap.size,.cells #[.int .i64 I,.int .i64 a] 163)]))
 case atStart=>exact⟨0,I0,t,rfl,by omega,hI0l,ht,hst,nS⟩
 case round =>
  clear nS hst;obtain⟨K,I,a,rfl,e2,hI,ha,e3,n⟩:=hrel;replace n:=n.out
  by_cases hK:K<xs.length
  ·have hIx:I<x.1.length:=by rw [hl.out];exact hI
   obtain⟨g,o,rfl,hg,hca⟩:=hel.out (by omega);obtain⟨u0,u1,u2⟩:=hca K hK;have gK:=gxs.out _ (stN_mem hK);have e4:=e3.out;rw [List.drop_eq_getElem_cons hK,←stN_get hK,walk_step hIx]at e4;clear hca e3;generalize stN xs K=s at *;obtain⟨s0,s1,s2⟩:=s;simp only at u0 u1 u2
   have rs:wr.rangeAt g (o+K*3) [.int .i64 s0,.int .i64 s1,.string s2]:=fun j v h=>(F0.bel n).cell (p:=⟨g,o+K*3+j,none⟩) hg |>.trans (by
    match j,h with
    | 0,h=>simp only[List.getElem?_cons_zero,List.getElem?_cons_succ,Option.some.injEq]at h;rw [←h];exact u0
    | 1,h=>simp only[List.getElem?_cons_zero,List.getElem?_cons_succ,Option.some.injEq]at h;rw [←h];exact u1
    | 2,h=>simp only[List.getElem?_cons_zero,List.getElem?_cons_succ,Option.some.injEq]at h;rw [←h];exact u2
    | j+3,h=>simp at h)
   have i0:(0:Int)≤(K:Int):=by omega
   have i1:(K:Int)<(xs.length:Int):=by omega
   obtain⟨V5,e5,n,z5⟩:=n.new (.cells #[.int .i64 s0,.int .i64 s1,.string s2] 159);clear u0 u1 u2 z5;go_upto_region 7 with(first|(refine wpList_load_g (by rfl) 159 _ rfl g (o+K*3) rfl _ _ rs Tryz.underlying159 rfl (by kernel_rfl) ?_;go_simp)|(refine wpList_copy #[.int .i64 s0,.int .i64 s1,.string s2] ⟨rfl,rfl,rfl⟩ ⟨rfl,rfl,rfl⟩ stp_alloc20 (by kernel_rfl) ⟨rfl,by simp [Value.oneCell']⟩ (fun _=>⟨rfl,rfl⟩) ?_;go_simp))
   clear e5 rs;have p0:=n.c 1 0 rfl rfl;have cN:=Lib.hid fun R hR=>pnode_calls (hP.out.below (F0.bel n)) hb1.out I hIx R hR
   go_wp2_with fail
   refine cN.out _ (Lib.hid fun W6 nv ev y hy rS rE m6=>?_);clear cN p0;replace n:=n.bl m6;have hy2:x.1[I]'hIx=y:=by rw [List.getElem?_eq_getElem hIx]at hy;exact Option.some.inj hy
   have hym:y∈x.1:=List.mem_of_getElem? hy;rw [hy2]at e4;have gy:=gx.out y hym;have iy:=ix.out y hym;have xy:=hx.out y hym;have by_:=hb1.out y hym;obtain⟨A5,c5,rfl,-⟩:=rS.open;obtain⟨V7,e7,n,z7⟩:=n.new (.cells #[.int .i64 y.kind,.int .i64 y.at_,.int .i64 y.lo,.int .i64 y.hi,.int .i64 y.most,.slice A5 y.names.length c5,ev] 63);have m7:Below W6.heap.size W6 V7:=e7▸(Below.refl _ _).alloc (Nat.le_refl _) _;obtain⟨A6,c6,rfl,-,-⟩:=ed_el rE;go_upto_region 8 with(refine wpList_copy #[.int .i64 y.kind,.int .i64 y.at_,.int .i64 y.lo,.int .i64 y.hi,.int .i64 y.most,.slice A5 y.names.length c5,.slice A6 y.edges.length c6] ⟨rfl,rfl,rfl⟩ ⟨rfl,rfl,rfl⟩ node_alloc19 (by kernel_rfl) ⟨rfl,by simp [Value.oneCell']⟩ (fun _=>⟨rfl,rfl⟩) ?_;go_simp)
   clear e7 z7 hy hy2;have r1_:=n.rg 0 rfl;have r2_:=n.rg 1 rfl;have cC:=Lib.hid fun R hR=>selected_calls y gy.e56 A5 y.names.length c5 _ (s0,s1,s2) gK V7 (RdAt.below rE m7) by_.2 R hR
   obtain⟨S,hS⟩:∃S,selI y (s0,s1,s2)=S:=⟨_,rfl⟩
   have sin:0≤S→∃(j:Nat) (hj:j<y.edges.length),S=(j:Int)∧(y.edges[j]'hj).bare=false:=fun q=>by
    subst hS;exact sel_in gy q
   rw [hS]at cC e4;replace hS:=Lib.hid hS;replace rE:=Lib.hid rE
   by_cases s0_:0≤S
   case neg =>
    rw [decide_eq_false s0_,show atE y.edges S=zE from if_neg s0_]at cC;rw [if_pos (by omega)]at e4;obtain⟨rfl,rfl⟩:=Prod.mk.inj e4;have fin0:=Lib.hid fun w'=>hR.out w'
    rw [decide_eq_false (by decide)]at fin0;dsimp only[edC,zE]at cC;clear hR e4 sin rE;go_wp2_with (first|(refine wpList_load_g (by rfl) 63 _ rfl W6.heap.size 0 rfl _ _ r1_ Tryz.underlying63 rfl (by kernel_rfl) ?_;go_simp)|(refine wpList_load_g (by rfl) 159 _ rfl wr.heap.size 0 rfl _ _ r2_ Tryz.underlying159 rfl (by kernel_rfl) ?_;go_simp))
    refine cC.out _ (Lib.hid fun W8 m8=>?_);clear cC r1_ r2_;replace n:=n.bl m8;obtain⟨V9,e9,n,z9⟩:=n.new (.cells #[.string ⟨#[]⟩,.bool false,.int .i64 0,.int .i64 0,.int .i64 0,.int .i64 0,.int .i64 0,.int .i64 0,.int .i64 0,.int .i64 0] 67);have fin:=Lib.hid (fin0.out V9 (F0.bel n));clear n z9 fin0;go_wp2_with (refine wpList_copy #[.string ⟨#[]⟩,.bool false,.int .i64 0,.int .i64 0,.int .i64 0,.int .i64 0,.int .i64 0,.int .i64 0,.int .i64 0,.int .i64 0] ⟨rfl,rfl,rfl⟩ ⟨rfl,rfl,rfl⟩ edg_alloc20 (by kernel_rfl) ⟨rfl,by simp [Value.oneCell']⟩ (fun _=>⟨rfl,rfl⟩) ?_;go_simp)
    first|refine bodyPost_ret ?_ rfl fin.out|refine bodyPost_end ?_ rfl fin.out
    simp [results,Tryz.results40,go_sem]
   case pos =>
    obtain⟨j,hj,rfl,hbare⟩:=sin s0_
    rw [decide_eq_true s0_,show atE y.edges (j:Int)=y.edges[j]'hj from by
     unfold atE;rw [if_pos s0_,Int.toNat_natCast,List.getElem?_eq_getElem hj];rfl]at cC
    rw [if_neg (by omega),Int.toNat_natCast,List.getElem?_eq_getElem hj]at e4;simp only at e4;have hto:=(iy _ (List.getElem_mem hj)).2 hbare;have hlb:=(xy _ (List.getElem_mem hj)).lb;rw [hl.out]at hto;generalize y.edges[j]'hj=e at *;obtain⟨x0,x1,x2,x3,x4,x5,x6,x7,x8,x9⟩:=e;dsimp only[edC]at cC e4 hto hlb hbare;subst hbare;obtain⟨D,rfl⟩:∃D:Nat,x3=(D:Int):=⟨x3.toNat,by omega⟩;obtain⟨B,rfl⟩:∃B:Nat,x4=(B:Int):=⟨x4.toNat,by omega⟩;have hD:D<len:=by omega
    have hB:B<nm.length:=by omega
    have jl:=hLt.out.jn_lt ha hB;rw [Int.toNat_natCast,Int.toNat_natCast,hLt.out.jn_eq ha hB]at e4;replace e4:=Lib.hid e4;clear sin rE hlb hto s0_;go_wp2_with (first|(refine wpList_load_g (by rfl) 63 _ rfl W6.heap.size 0 rfl _ _ r1_ Tryz.underlying63 rfl (by kernel_rfl) ?_;go_simp)|(refine wpList_load_g (by rfl) 159 _ rfl wr.heap.size 0 rfl _ _ r2_ Tryz.underlying159 rfl (by kernel_rfl) ?_;go_simp))
    refine cC.out _ (Lib.hid fun W8 m8=>?_);clear cC r1_ r2_;replace n:=n.bl m8;obtain⟨V9,e9,n,z9⟩:=n.new (.cells #[.string x0,.bool false,.int .i64 x2,.int .i64 D,.int .i64 B,.int .i64 x5,.int .i64 x6,.int .i64 x7,.int .i64 x8,.int .i64 x9] 67);clear z9;go_upto_region 9 with(refine wpList_copy #[.string x0,.bool false,.int .i64 x2,.int .i64 D,.int .i64 B,.int .i64 x5,.int .i64 x6,.int .i64 x7,.int .i64 x8,.int .i64 x9] ⟨rfl,rfl,rfl⟩ ⟨rfl,rfl,rfl⟩ edg_alloc20 (by kernel_rfl) ⟨rfl,by simp [Value.oneCell']⟩ (fun _=>⟨rfl,rfl⟩) ?_;go_simp)
    clear e9;go_upto_region 11 with fail
    have bV:=F0.bel n;have gW:Below V9.heap.size V9 (V9.drewN 1):=below_drewN (Below.refl _ _) 1;have cA:=Lib.hid fun R hR=>platv_calls (((bV.trans (gW.mono bV.size)).block P (hp_lt hBP.out)).trans hBP.out) R hR
    have cF:=Lib.hid fun R hR=>follow_calls nm F L (V9.drewN 1) (hLP.out.below (bV.trans (gW.mono bV.size))) (I:Int) (a:Int) x0 false x2 (D:Int) (B:Int) x5 x6 x7 x8 x9 (by omega) (by omega) R hR
    rw [Int.toNat_natCast,Int.toNat_natCast,hLt.out.jn_eq ha hB]at cF
    have rP:∀W,(∃q:BW V9,W=q.w)→W.rangeAt W1.heap.size 0 [.int .i64 I,.int .i64 a]:=fun W hW=>by
     obtain⟨q,rfl⟩:=hW;exact(n.bl q.b).rg 3 rfl
    have rX:∀W,(∃q:BW V9,W=q.w)→W.rangeAt W8.heap.size 0 [.string x0,.bool false,.int .i64 x2,.int .i64 D,.int .i64 B,.int .i64 x5,.int .i64 x6,.int .i64 x7,.int .i64 x8,.int .i64 x9]:=fun W hW=>by
     obtain⟨q,rfl⟩:=hW;exact(n.bl q.b).rg 0 rfl
    generalize jn nm.length F a B=jn_ at *;refine wp_region_mixT [([0,2,3],1),([],4)] [] 5 (by kernel_rfl) (by kernel_rfl) (by kernel_rfl) (by kernel_rfl) (by decide) (fun _ _ d _ _ h=>by cases d<;>exact h) ?_
    refine mixt_cons (os:=[_,_,_]) (by simp only[pickO,List.filterMap_cons,List.filterMap_nil,List.getElem?_toArray,List.getElem?_cons_succ,List.getElem?_cons_zero];rfl) (fun Kp hKp=>?_)
    go_big_quiet_step (exact rfl);refine wpQuiet_load rfl 163 _ rfl W1.heap.size 0 rfl _ _ rP Tryz.underlying163 rfl (by kernel_rfl) ?_
    try go_simp
    refine wpQuiet_load rfl 67 _ rfl W8.heap.size 0 rfl _ _ rX Tryz.underlying67 rfl (by kernel_rfl) ?_
    try go_simp
    refine wpQuiet_nil ?_;refine hKp _ ?_;clear hKp;refine loudt (by rfl) (by kernel_rfl) (fun K1 hK1=>?_);go_simp;refine cA.out _ (Lib.hid ?_);refine hK1 _ _ (BW.of gW) ?_;clear hK1;refine mixt_cons (os:=[]) (by rfl) (fun Kp hKp=>?_);refine wpQuiet_nil ?_;refine hKp _ ?_;clear hKp;refine loudt (by rfl) (by kernel_rfl) (fun K1 hK1=>?_);go_simp;refine cF.out _ (Lib.hid fun W10 m10=>?_);have gL:=gW.trans (m10.mono gW.size);refine hK1 _ _ (BW.of gL) ?_;clear hK1 cF cA;refine mixt_last (os:=[]) (by rfl) (fun Kp hKp=>?_);refine wpQuiet_nil ?_;refine hKp _ ?_;clear hKp rP rX m10 bV gW;replace n:=n.bl gL;clear gL;have y0:=n.c 3 0 rfl rfl;have yf0:=n.f 3 0 rfl;have y1:=n.c 3 1 rfl rfl;have yf1:=n.f 3 1 rfl;obtain⟨V11,e11,n11,z11⟩:=n.put (j:=3) rfl [(0,.int .i64 D),(1,.int .i64 jn_)];simp only[stL]at e11;simp only[stA,List.setIfInBounds_toArray,List.set_cons_succ,List.set_cons_zero]at n11;replace n11:=Lib.hid n11.tail.tail.tail;clear n z11;refine loudl (by rfl) (by kernel_rfl) ?_;go_simp;clear y0 yf0 y1 yf1 e11;go_wp2_with fail
    go_roundg (gk-1)
    case measure=>omega
    case rel=>exact⟨K+1,D,jn_,by go_num,by omega,hD,jl,e4,n11⟩
  ·obtain rfl:K=xs.length:=by omega
   have e4:=e3.out;rw [List.drop_length]at e4;obtain⟨rfl,rfl⟩:=Prod.mk.inj e4;have fin0:=Lib.hid fun w'=>hR.out w'
   rw [decide_eq_true (by omega)]at fin0;have lT:=n.lt 0 rfl;have k0:=fun q:BW wr=>q.cell lT (n.c 0 0 rfl rfl)
   have k1:=fun q:BW wr=>q.cell lT (n.c 0 1 rfl rfl)
   have bw:=F0.bel n;have fin:=Lib.hid fun q:BW wr=>fin0.out q.w (bw.trans (q.b.mono bw.size))
   clear n e3 e4 hR fin0 bw;go_upto_region 13 with fail
   refine wp_region_below_lit (by kernel_rfl) (by kernel_rfl) ?_
   repeat (go_big_quiet_step (fail))
   refine wpQuiet_nil ?_
   rintro _ ⟨q,rfl⟩
   replace fin:=Lib.hid (fin.out q);generalize q.w=V9 at *;clear k0 k1 lT;go_wp2_with fail
   first|refine bodyPost_ret ?_ rfl fin.out|refine bodyPost_end ?_ rfl fin.out
   simp [results,Tryz.results40,go_sem]
end
end Go.Proofs.YtabhkakomececaaGreat.Eff
