import Derived.Test.YtncckdaflellnaaGreatQ11
import Derived.Test.YtncckdaflellnaaGreatQ4
import Derived.Test.YtncckdaflellnaaGreatQ5
import Derived.Test.YtncckdaflellnaaGreatQ10
import Derived.Test.YtncckdaflellnaaGreatQ1
import Derived.Test.YtncckdaflellnaaGreatQ0
set_option linter.all false
set_option maxRecDepth 100000
set_option maxHeartbeats 4000000
namespace Go.Proofs.YtncckdaflellnaaGreat.Kin
open Go.RowKit Go.Lib Utf Nam Lat
theorem wrB_cnt(h:TH)(k:Ft)(sub:Mo→Nat→Nat→Res)(hs:∀mo d m,m≤512→(sub mo d m).1=0→(sub mo d m).2.2≤512)(d m:Nat):(wrB h k sub d m).1=0→(wrB h k sub d m).2.2≤512:=by
 unfold wrB
 by_cases h1:24<d
 ·rw [if_pos h1];simp
 rw [if_neg h1]
 by_cases h2:512<m+1
 ·rw [if_pos h2];simp
 rw [if_neg h2]
 have hm:m+1≤512:=by omega
 repeat' split
 all_goals first|exact hs _ _ _ hm|(intro _;exact hm)
theorem wrF_cnt:∀(f:Ft)(mo:Mo)(d m:Nat),m≤512→(wrF f mo d m).1=0→(wrF f mo d m).2.2≤512
| .nil,_,_,m,hm=>fun _=>hm
| .cons p h k r,.one,d,m,hm=>wrB_cnt h k _ (wrF_cnt k) d m
| .cons p h k r,.parts K ns i,d,m,hm=>by
 have hB:=wrB_cnt h k _ (wrF_cnt k) d m;have hr:=fun m hm=>wrF_cnt r (.parts K ns (i+1)) d m hm
 unfold wrF;generalize wrB h k (wrF k) d m=A at *
 repeat' split
 all_goals first|exact hr _ hm|exact hB|(intro _;exact hm)|skip
 rename_i q
 exact hr _ (hB (by simpa using q))
theorem blt_of{V:World}{b:Nat}{o:Obj}(h:V.heap[b]?=some o):b<V.heap.size:=(Array.getElem?_eq_some_iff.1 h).1
theorem good_pnm:∀{f:Ft},f.All GoodH GoodL→∀y∈pnm f,GoodW y
| .nil,_,y,h=>by simp [pnm]at h
| .cons p x k r,a,y,h=>by
 rcases List.mem_cons.1 h with rfl|h
 ·exact⟨a.1.1,a.1.2.1⟩
 ·exact good_pnm a.2.2.2.2 y h
theorem pnm_at:∀(n:Nat){f:Ft}{p:PH}{x:TH}{k r:Ft},f.drop n=.cons p x k r→wN (pnm f) n=(p.name,p.at_)
| 0,f,p,x,k,r,e=>by
 have e':f=.cons p x k r:=e;rw [e'];rfl
| n+1,.nil,p,x,k,r,e=>by simp [Fo.drop]at e
| n+1,.cons q y l s,p,x,k,r,e=>by
 have:=pnm_at n (f:=s) e;simpa [pnm,wN]using this
theorem set_atK{w:World}{p:Nat}{cs:Array Value}{t:TypeId}(h:w.heap[p]?=some (.cells cs t))(o:Nat)(v:Value):(w.setCell ⟨p,o,none⟩ v).heap[p]?=some (.cells (cs.setIfInBounds o v) t):=by
 simp [World.setCell,Array.getElem?_modify,h]
theorem set_neK{w:World}{q o k:Nat}{v:Value}(h:k≠q):(w.setCell ⟨q,o,none⟩ v).heap[k]?=w.heap[k]?:=Below.heap_setCell _ ⟨q,o,none⟩ v k h
theorem enumF_zero(ns:List ByteArray):∀(l:List Wr)(i:Nat),(enumF ns i l).1=0→(enumF ns i l).2=0
| [],_=>fun _=>rfl
| x::r,i=>by
 unfold enumF
 split
 ·rename_i q;exact fun h=>absurd h q
 ·exact enumF_zero ns r (i+1)
theorem wrB_zero(h:TH)(k:Ft)(sub:Mo→Nat→Nat→Res)(hs:∀mo d m,(sub mo d m).1=0→(sub mo d m).2.1=0)(d m:Nat):(wrB h k sub d m).1=0→(wrB h k sub d m).2.1=0:=by
 unfold wrB
 by_cases h1:24<d
 ·rw [if_pos h1];simp
 rw [if_neg h1]
 by_cases h2:512<m+1
 ·rw [if_pos h2];simp
 rw [if_neg h2]
 repeat' split
 all_goals first|exact hs _ _ _|exact enumF_zero _ _ _|(intro _;rfl)|(intro q;simp at q)
theorem wrF_zero:∀(f:Ft)(mo:Mo)(d m:Nat),(wrF f mo d m).1=0→(wrF f mo d m).2.1=0
| .nil,_,_,m=>fun _=>rfl
| .cons p h k r,.one,d,m=>wrB_zero h k _ (wrF_zero k) d m
| .cons p h k r,.parts K ns i,d,m=>by
 have hB:=wrB_zero h k _ (wrF_zero k) d m;have hr:=fun m=>wrF_zero r (.parts K ns (i+1)) d m
 unfold wrF;generalize wrB h k (wrF k) d m=A at *
 repeat' split
 all_goals first|exact hr _|exact hB|(rename_i q;exact fun h=>absurd h q)|(intro q;simp at q)
noncomputable def partS(h:TH)(f:Ft)(d m:Nat):Res:=if h.kind=8∧f.len=0 then(15,h.at_,m)else if 64<f.len then(8,(wN (pnm f) 64).2,m)else wrF f (.parts h.kind (nms (pnm f)) 0) (d+1) m
theorem TB.range{w:World}{B:Nat}{h:TH}{nv pv:Value}(q:TB w B h nv pv):w.rangeAt B 0 [.int .i64 h.kind,.int .i64 h.at_,.int .i64 h.lo,.int .i64 h.hi,.int .i64 h.most,nv,pv,.string h.name,.int .i64 h.nat]:=fun j v hj=>by
 rw [Nat.zero_add]
 match j,hj with
 | 0,e=>obtain rfl:=Option.some.inj e;exact q.k0
 | 1,e=>obtain rfl:=Option.some.inj e;exact q.k1
 | 2,e=>obtain rfl:=Option.some.inj e;exact q.k2
 | 3,e=>obtain rfl:=Option.some.inj e;exact q.k3
 | 4,e=>obtain rfl:=Option.some.inj e;exact q.k4
 | 5,e=>obtain rfl:=Option.some.inj e;exact q.k5
 | 6,e=>obtain rfl:=Option.some.inj e;exact q.k6
 | 7,e=>obtain rfl:=Option.some.inj e;exact q.k7
 | 8,e=>obtain rfl:=Option.some.inj e;exact q.k8
 | _+9,e=>simp at e
theorem TB.set1{w:World}{B q:Nat}{h:TH}{nv pv:Value}(t:TB w B h nv pv)(hq:B≠q)(o:Nat)(a:Value):TB (w.setCell ⟨q,o,none⟩ a) B h nv pv:=by
 have e:(w.setCell ⟨q,o,none⟩ a).heap[B]?=w.heap[B]?:=set_neK hq;have k:=fun j=>World.cell?_of_block (a:=⟨B,j,none⟩) e
 exact⟨by simp [World.setCell];exact t.lt,(k 0).trans t.k0,(k 1).trans t.k1,(k 2).trans t.k2,(k 3).trans t.k3,(k 4).trans t.k4,(k 5).trans t.k5,(k 6).trans t.k6,(k 7).trans t.k7,(k 8).trans t.k8⟩
section
variable {h:TH} {k:Ft} {sub:Mo→Nat→Nat→Res} {d m M:Nat}
theorem wrB_ok(hM:M=m+1)(hd:d≤24)(hm:M≤512)(h1:1≤h.kind)(h9:h.kind≤9)(ho:ownB h k=true):wrB h k sub d m =
  if(h.kind=2∧h.hi<h.lo)∨(h.kind=3∧(h.most<0∨4096<h.most))then(20,h.at_,M)
  else if h.kind=9∧rightS h.name=false then(9,h.nat,M)
  else if h.kind=4 then(if h.names=[]then(15,h.at_,M)else if 64<h.names.length then(8,(wN h.names 64).2,M)else((enumF (nms h.names) 0 h.names).1,(enumF (nms h.names) 0 h.names).2,M))
  else if h.kind=5∨h.kind=6 then(if onlyB k=false then(19,h.at_,M)else if h.most<0∨1024<h.most then(20,h.at_,M)else sub .one (d+1) M)
  else if h.kind=7∨h.kind=8 then(if h.kind=8∧k.len=0 then(15,h.at_,M)else if 64<k.len then(8,(wN (pnm k) 64).2,M)else sub (.parts h.kind (nms (pnm k)) 0) (d+1) M)
  else(0,0,M):=by
 subst hM;unfold wrB;rw [if_neg (by omega),if_neg (by omega),if_neg (by omega),if_neg (by rw [ho];simp)]
variable (hM:M=m+1) (hd:d≤24) (hm:M≤512) (ho:ownB h k=true)
include hM hd hm ho
theorem wrB_1(hk:h.kind=1):wrB h k sub d m=(0,0,M):=by rw [wrB_ok hM hd hm (by omega) (by omega) ho];simp [hk]
theorem wrB_2(hk:h.kind=2):wrB h k sub d m=if h.hi<h.lo then(20,h.at_,M)else(0,0,M):=by rw [wrB_ok hM hd hm (by omega) (by omega) ho];simp [hk]
theorem wrB_3(hk:h.kind=3):wrB h k sub d m=if h.most<0∨4096<h.most then(20,h.at_,M)else(0,0,M):=by rw [wrB_ok hM hd hm (by omega) (by omega) ho];simp [hk]
theorem wrB_9(hk:h.kind=9):wrB h k sub d m=if rightS h.name=false then(9,h.nat,M)else(0,0,M):=by rw [wrB_ok hM hd hm (by omega) (by omega) ho];simp [hk]
theorem wrB_4(hk:h.kind=4):wrB h k sub d m=if h.names=[]then(15,h.at_,M)else if 64<h.names.length then(8,(wN h.names 64).2,M)else((enumF (nms h.names) 0 h.names).1,(enumF (nms h.names) 0 h.names).2,M):=by rw [wrB_ok hM hd hm (by omega) (by omega) ho];simp [hk]
theorem wrB_5(hk:h.kind=5∨h.kind=6):wrB h k sub d m=if onlyB k=false then(19,h.at_,M)else if h.most<0∨1024<h.most then(20,h.at_,M)else sub .one (d+1) M:=by
 rw [wrB_ok hM hd hm (by omega) (by omega) ho];rcases hk with hk|hk<;>simp [hk]
theorem wrB_7(hk:h.kind=7):wrB h k (wrF k) d m=partS h k d M:=by rw [wrB_ok hM hd hm (by omega) (by omega) ho];unfold partS;simp [hk]
theorem wrB_8(hk:h.kind=8):wrB h k (wrF k) d m=partS h k d M:=by rw [wrB_ok hM hd hm (by omega) (by omega) ho];unfold partS;simp [hk]
end
theorem wrB_err(h:TH)(k:Ft)(sub:Mo→Nat→Nat→Res)(d m:Nat):wrB h k sub d m =
  if 24<d then(6,h.at_,m+1)else if 512<m+1 then(8,h.at_,m+1)else if h.kind<1∨9<h.kind then(14,h.at_,m+1)else if ownB h k=false then(19,h.at_,m+1)else wrB h k sub d m:=by
 by_cases a:24<d
 ·unfold wrB;simp only[a,if_true]
 by_cases b:512<m+1
 ·unfold wrB;simp only[a,b,if_true,if_false]
 by_cases c:h.kind<1∨9<h.kind
 ·unfold wrB;simp only[a,b,c,if_true,if_false]
 by_cases e:ownB h k=false
 ·unfold wrB;simp only[a,b,c,e,if_true,if_false]
 rw [if_neg a,if_neg b,if_neg c,if_neg e]
theorem enum_drop{ns:List ByteArray}{l:List Wr}{i:Nat}(hi:i<l.length):enumF ns i (l.drop i)=if listedS ns i≠0 then(listedS ns i,(wN l i).2)else enumF ns (i+1) (l.drop (i+1)):=by
 rw [List.drop_eq_getElem_cons hi,wN_get hi];rfl
theorem only_len:∀{f:Ft},f.len≠1→onlyB f=false
| .nil,_=>rfl
| .cons p x k .nil,h=>absurd rfl h
| .cons p x k (.cons ..),_=>rfl
theorem only_one{f:Ft}{p:PH}{x:TH}{k r:Ft}(e:f.drop 0=.cons p x k r)(hl:f.len=1):onlyB f=(decide (p.name=ByteArray.empty)&&plainB p zPH)∧∀d m,wrF f .one d m=wrB x k (wrF k) d m:=by
 have e':f=.cons p x k r:=e;subst e';have:r=.nil:=Fo.len_zero (by simp only[Fo.len]at hl;omega)
 subst this;exact⟨rfl,fun _ _=>rfl⟩
theorem wpList_copy3{P:Program}{ops:Array Oper}{rest:List Oper}{o x s:Oper}{a:Act}{w:World}{Q:Exit→Act→World→Prop}{T:TypeId}{z:Array Value}{d n:Tmp}(c:Array Value)(v:Value)(p1:o.guard=none∧o.dst=some d∧o.op=.alloc T)(x1:x.guard=none)
  (hx:∀p (W:World),(execOp ((a.put (some d) p).eval) x).run P W=.ok (.value v) W) (q1:s.guard=none∧s.dst=none∧s.op=.store T (.tmp d) (.tmp n))
  (hz:∀(ρ:Operand→Value) (W:World) (o:Oper),o.op=.alloc T→(execOp ρ o).run P W=.ok (.value (ptA W.heap.size)) (W.alloc (.cells z T))) (hi:(P.info? T).map (·.size)=some z.size) (hs:z.size=c.size∧c.all (·.oneCell')=true)
  (he:∀p,((a.put (some d) p).put x.dst v).eval (.tmp d)=p∧((a.put (some d) p).put x.dst v).eval (.tmp n)=.agg c) (h:wpList P ops Q rest ((a.put (some d) (ptA w.heap.size)).put x.dst v) (w.alloc (.cells c T))):wpList P ops Q (o::x::s::rest) a w:=by
 refine wpList_plain p1.1 fun K hK=>?_
 unfold Oper.wp;rw [hz _ _ _ p1.2.2,Oper.upon_value,p1.2.1];refine hK _ _ ?_;refine wpList_plain x1 fun K hK=>?_
 unfold Oper.wp;rw [hx,Oper.upon_value];refine hK _ _ ?_;refine wpList_store_row q1.1 T _ _ q1.2.2 w.heap.size c (he _).1 (he _).2 T z (heap_alloc_new w _) (by rw [hi,hs.1]) hs.1 hs.2 ?_;rw [q1.2.1,setRow_alloc];exact h
theorem part_eq(p q:PH)(x:TH)(k:Ft)(y:TH)(l:Ft):(decide (p.name=q.name)&&plainB p q&&sameS x k y l)=(decide (p.name=q.name)&&((p.bare==q.bare)&&(decide (p.wide=q.wide)&&(sameW p.label q.label&&(coarI p.ck p.cn q.ck q.cn p.cl q.cl&&sameS x k y l))))):=by
 unfold plainB coarI;simp only[Bool.and_assoc]
theorem head_eq(a b:TH)(k l:Ft):sameS a k b l=(decide (a.kind=b.kind)&&(decide (a.lo=b.lo)&&(decide (a.hi=b.hi)&&(decide (a.most=b.most)&&(decide (a.name=b.name)&&(sameW a.names b.names&&sameF k l)))))):=by
 unfold sameS headB;simp only[Bool.and_assoc]
def SameC(f:Ft):Prop:=∀(h h':TH)(g:Ft)(nv pv nv' pv':Value)(w:World),h.names.length≤maxLen→f.len≤maxLen→f.All GoodH GoodL→RdY w h f nv pv→RdY w h' g nv' pv'→∀R:Ending→World→Prop,
Hid (∀w',Below w.heap.size w w'→R (.returned (.bool (sameS h f h' g))) w')→Calls Tryz.prog 221 #[tyV h nv pv,tyV h' nv' pv'] w R
theorem samePart_calls(kd:Ft)(hS:SameC kd)(p q:PH)(x y:TH)(ls:Ft)(lv cv nv pv lv' cv' nv' pv':Value)(w:World)(l1:p.label.length≤maxLen)(l2:p.cl.length≤maxLen)(l3:x.names.length≤maxLen)(l4:kd.len≤maxLen)(hga:kd.All GoodH GoodL)(hl:RdW w lv p.label)(hc:RdW w cv p.cl)(hy:RdY w x kd nv pv)(hl':RdW w lv' q.label)(hc':RdW w cv' q.cl)(hy':RdY w y ls nv' pv')(R:Ending→World→Prop)
  (hR:Hid (∀w',Below w.heap.size w w'→R (.returned (.bool (decide (p.name=q.name)&&plainB p q&&sameS x kd y ls))) w')):Calls Tryz.prog 222 #[ptV p lv cv x nv pv,ptV q lv' cv' y nv' pv'] w R:=by
 obtain⟨A1,n1,rfl,-,-⟩:=hl.op;obtain⟨A2,n2,rfl,-,-⟩:=hc.op;obtain⟨A5,n5,rfl,-,-⟩:=hy.n.op;obtain⟨A7,n7,rfl,-⟩:=hy.p.sl;obtain⟨A3,n3,rfl,-,-⟩:=hl'.op;obtain⟨A4,n4,rfl,-,-⟩:=hc'.op;obtain⟨A6,n6,rfl,-,-⟩:=hy'.n.op;obtain⟨A8,n8,rfl,-⟩:=hy'.p.sl;have bA:=(Below.refl w.heap.size w).alloc (Nat.le_refl _) (.cells #[.string p.name,.int .i64 p.at_,.bool p.bare,.slice A1 p.label.length n1,.int .i64 p.wide,.int .i64 p.ck,.int .i64 p.cn,.int .i64 p.cat,.slice A2 p.cl.length n2,.int .i64 x.kind,.int .i64 x.at_,.int .i64 x.lo,.int .i64 x.hi,.int .i64 x.most,.slice A5 x.names.length n5,.slice A7 kd.len n7,.string x.name,.int .i64 x.nat] 130);have bB:=bA.alloc bA.size (.cells #[.string q.name,.int .i64 q.at_,.bool q.bare,.slice A3 q.label.length n3,.int .i64 q.wide,.int .i64 q.ck,.int .i64 q.cn,.int .i64 q.cat,.slice A4 q.cl.length n4,.int .i64 y.kind,.int .i64 y.at_,.int .i64 y.lo,.int .i64 y.hi,.int .i64 y.most,.slice A6 y.names.length n6,.slice A8 ls.len n8,.string y.name,.int .i64 y.nat] 130);have hz:(w.alloc (.cells #[.string p.name,.int .i64 p.at_,.bool p.bare,.slice A1 p.label.length n1,.int .i64 p.wide,.int .i64 p.ck,.int .i64 p.cn,.int .i64 p.cat,.slice A2 p.cl.length n2,.int .i64 x.kind,.int .i64 x.at_,.int .i64 x.lo,.int .i64 x.hi,.int .i64 x.most,.slice A5 x.names.length n5,.slice A7 kd.len n7,.string x.name,.int .i64 x.nat] 130)).heap.size=w.heap.size+1:=by simp
 have hA:=(((Below.refl _ _).alloc (Nat.le_refl _) (.cells #[.string q.name,.int .i64 q.at_,.bool q.bare,.slice A3 q.label.length n3,.int .i64 q.wide,.int .i64 q.ck,.int .i64 q.cn,.int .i64 q.cat,.slice A4 q.cl.length n4,.int .i64 y.kind,.int .i64 y.at_,.int .i64 y.lo,.int .i64 y.hi,.int .i64 y.most,.slice A6 y.names.length n6,.slice A8 ls.len n8,.string y.name,.int .i64 y.nat] 130)).block w.heap.size (by omega)).trans (heap_alloc_new w (.cells #[.string p.name,.int .i64 p.at_,.bool p.bare,.slice A1 p.label.length n1,.int .i64 p.wide,.int .i64 p.ck,.int .i64 p.cn,.int .i64 p.cat,.slice A2 p.cl.length n2,.int .i64 x.kind,.int .i64 x.at_,.int .i64 x.lo,.int .i64 x.hi,.int .i64 x.most,.slice A5 x.names.length n5,.slice A7 kd.len n7,.string x.name,.int .i64 x.nat] 130));have hB:=heap_alloc_new (w.alloc (.cells #[.string p.name,.int .i64 p.at_,.bool p.bare,.slice A1 p.label.length n1,.int .i64 p.wide,.int .i64 p.ck,.int .i64 p.cn,.int .i64 p.cat,.slice A2 p.cl.length n2,.int .i64 x.kind,.int .i64 x.at_,.int .i64 x.lo,.int .i64 x.hi,.int .i64 x.most,.slice A5 x.names.length n5,.slice A7 kd.len n7,.string x.name,.int .i64 x.nat] 130)) (.cells #[.string q.name,.int .i64 q.at_,.bool q.bare,.slice A3 q.label.length n3,.int .i64 q.wide,.int .i64 q.ck,.int .i64 q.cn,.int .i64 q.cat,.slice A4 q.cl.length n4,.int .i64 y.kind,.int .i64 y.at_,.int .i64 y.lo,.int .i64 y.hi,.int .i64 y.most,.slice A6 y.names.length n6,.slice A8 ls.len n8,.string y.name,.int .i64 y.nat] 130);rw [hz]at hB;rw [part_eq]at hR;replace hl:=Lib.hid hl;replace hc:=Lib.hid hc;replace hy:=Lib.hid hy;replace hl':=Lib.hid hl';replace hc':=Lib.hid hc';replace hy':=Lib.hid hy';replace hS:=Lib.hid hS;replace hga:=Lib.hid hga;go_enter Tryz.func222,Tryz.ntmps222
 go_upto_region 1 with fail
 generalize(w.alloc (.cells #[.string p.name,.int .i64 p.at_,.bool p.bare,.slice A1 p.label.length n1,.int .i64 p.wide,.int .i64 p.ck,.int .i64 p.cn,.int .i64 p.cat,.slice A2 p.cl.length n2,.int .i64 x.kind,.int .i64 x.at_,.int .i64 x.lo,.int .i64 x.hi,.int .i64 x.most,.slice A5 x.names.length n5,.slice A7 kd.len n7,.string x.name,.int .i64 x.nat] 130)).alloc (.cells #[.string q.name,.int .i64 q.at_,.bool q.bare,.slice A3 q.label.length n3,.int .i64 q.wide,.int .i64 q.ck,.int .i64 q.cn,.int .i64 q.cat,.slice A4 q.cl.length n4,.int .i64 y.kind,.int .i64 y.at_,.int .i64 y.lo,.int .i64 y.hi,.int .i64 y.most,.slice A6 y.names.length n6,.slice A8 ls.len n8,.string y.name,.int .i64 y.nat] 130)=V at *;replace hA:=Lib.hid hA;replace hB:=Lib.hid hB;have nW:=Lib.hid bB;clear bA bB hz;have u0:=(Lib.cell_of_heap hA.out 0).trans rfl;have v0:=(Lib.cell_of_heap hB.out 0).trans rfl;have u1:=(Lib.cell_of_heap hA.out 1).trans rfl;have v1:=(Lib.cell_of_heap hB.out 1).trans rfl;have cX:=Lib.hid fun R hR=>sameWord_calls p.name q.name p.at_ q.at_ V R hR
 generalize decide (p.name=q.name)=S at *;go_wp2_with fail
 refine cX.out _ (Lib.hid fun w1_ n9=>?_);have hA9:=Lib.hid ((n9.block _ (blt_of hA.out)).trans hA.out);have hB9:=Lib.hid ((n9.block _ (blt_of hB.out)).trans hB.out);have nW9:=Lib.hid (nW.out.trans (n9.mono nW.out.size));clear u0 v0 u1 v1;clear n9 cX hA hB nW;have hA:=hA9;have hB:=hB9;have nW:=nW9;clear hA9 hB9 nW9;cases S
 ·rw [Bool.false_and]at hR
  have fin:=Lib.hid (hR.out _ nW.out);clear hR;go_wp2_with fail
  exact fin.out
 ·rw [Bool.true_and]at hR
  have u2:=(Lib.cell_of_heap hA.out 2).trans rfl;have v2:=(Lib.cell_of_heap hB.out 2).trans rfl
  by_cases c:p.bare=q.bare
  ·have q2:(p.bare==q.bare)=true:=by simpa using c
   rw [q2,Bool.true_and]at hR;clear c;have u4:=(Lib.cell_of_heap hA.out 4).trans rfl;have v4:=(Lib.cell_of_heap hB.out 4).trans rfl
   by_cases c:p.wide=q.wide
   ·have q4:(p.wide==q.wide)=true:=by simpa using c
    rw [decide_eq_true c,Bool.true_and]at hR;clear c;have u3:=(Lib.cell_of_heap hA.out 3).trans rfl;have v3:=(Lib.cell_of_heap hB.out 3).trans rfl;have cX:=Lib.hid fun R hR=>eqw_calls p.label q.label l1 (.slice A1 p.label.length n1) (.slice A3 q.label.length n3) w1_ (hl.out.below nW.out) (hl'.out.below nW.out) R hR
    generalize sameW p.label q.label=S at *;go_wp2_with fail
    refine cX.out _ (Lib.hid fun w2_ n9=>?_);have hA9:=Lib.hid ((n9.block _ (blt_of hA.out)).trans hA.out);have hB9:=Lib.hid ((n9.block _ (blt_of hB.out)).trans hB.out);have nW9:=Lib.hid (nW.out.trans (n9.mono nW.out.size));clear u2 v2 u4 v4 u3 v3;clear n9 cX hA hB nW;have hA:=hA9;have hB:=hB9;have nW:=nW9;clear hA9 hB9 nW9;cases S
    ·rw [Bool.false_and]at hR
     have fin:=Lib.hid (hR.out _ nW.out);clear hR;go_wp2_with fail
     exact fin.out
    ·rw [Bool.true_and]at hR
     have u5:=(Lib.cell_of_heap hA.out 5).trans rfl;have v5:=(Lib.cell_of_heap hB.out 5).trans rfl;have u6:=(Lib.cell_of_heap hA.out 6).trans rfl;have v6:=(Lib.cell_of_heap hB.out 6).trans rfl;have u7:=(Lib.cell_of_heap hA.out 7).trans rfl;have v7:=(Lib.cell_of_heap hB.out 7).trans rfl;have u8:=(Lib.cell_of_heap hA.out 8).trans rfl;have v8:=(Lib.cell_of_heap hB.out 8).trans rfl;have cX:=Lib.hid fun R hR=>sameCoarse_calls p.ck p.cn p.cat q.ck q.cn q.cat p.cl q.cl (.slice A2 p.cl.length n2) (.slice A4 q.cl.length n4) w2_ l2 (hc.out.below nW.out) (hc'.out.below nW.out) R hR
     generalize coarI p.ck p.cn q.ck q.cn p.cl q.cl=S at *;go_wp2_with fail
     refine cX.out _ (Lib.hid fun w3_ n9=>?_);have hA9:=Lib.hid ((n9.block _ (blt_of hA.out)).trans hA.out);have hB9:=Lib.hid ((n9.block _ (blt_of hB.out)).trans hB.out);have nW9:=Lib.hid (nW.out.trans (n9.mono nW.out.size));clear u5 v5 u6 v6 u7 v7 u8 v8;clear n9 cX hA hB nW;have hA:=hA9;have hB:=hB9;have nW:=nW9;clear hA9 hB9 nW9;cases S
     ·rw [Bool.false_and]at hR
      have fin:=Lib.hid (hR.out _ nW.out);clear hR;go_wp2_with fail
      exact fin.out
     ·rw [Bool.true_and]at hR
      have r9:w3_.rangeAt w.heap.size 9 [.int .i64 x.kind,.int .i64 x.at_,.int .i64 x.lo,.int .i64 x.hi,.int .i64 x.most,.slice A5 x.names.length n5,.slice A7 kd.len n7,.string x.name,.int .i64 x.nat]:=fun j v h=>by rw [Lib.cell_of_heap hA.out,List.getElem?_toArray,←List.getElem?_drop];exact h
      have s9:w3_.rangeAt (w.heap.size+1) 9 [.int .i64 y.kind,.int .i64 y.at_,.int .i64 y.lo,.int .i64 y.hi,.int .i64 y.most,.slice A6 y.names.length n6,.slice A8 ls.len n8,.string y.name,.int .i64 y.nat]:=fun j v h=>by rw [Lib.cell_of_heap hB.out,List.getElem?_toArray,←List.getElem?_drop];exact h
      have cX:=Lib.hid fun R hR=>hS.out x y ls (.slice A5 x.names.length n5) (.slice A7 kd.len n7) (.slice A6 y.names.length n6) (.slice A8 ls.len n8) w3_ l3 l4 hga.out (hy.out.below nW.out) (hy'.out.below nW.out) R hR
      generalize sameS x kd y ls=S at *;go_wp2_with (first|(refine wpList_load_g (by rfl) 29 _ rfl w.heap.size 9 rfl [.int .i64 x.kind,.int .i64 x.at_,.int .i64 x.lo,.int .i64 x.hi,.int .i64 x.most,.slice A5 x.names.length n5,.slice A7 kd.len n7,.string x.name,.int .i64 x.nat] _ r9 Tryz.underlying29 rfl (by kernel_rfl) ?_;go_simp)|(refine wpList_load_g (by rfl) 29 _ rfl (w.heap.size+1) 9 rfl [.int .i64 y.kind,.int .i64 y.at_,.int .i64 y.lo,.int .i64 y.hi,.int .i64 y.most,.slice A6 y.names.length n6,.slice A8 ls.len n8,.string y.name,.int .i64 y.nat] _ s9 Tryz.underlying29 rfl (by kernel_rfl) ?_;go_simp))
      clear r9 s9;refine cX.out _ (Lib.hid fun w4_ n9=>?_);have hA9:=Lib.hid ((n9.block _ (blt_of hA.out)).trans hA.out);have hB9:=Lib.hid ((n9.block _ (blt_of hB.out)).trans hB.out);have nW9:=Lib.hid (nW.out.trans (n9.mono nW.out.size));clear n9 cX hA hB nW;have hA:=hA9;have hB:=hB9;have nW:=nW9;clear hA9 hB9 nW9;have fin:=Lib.hid (hR.out _ nW.out);clear hR;go_wp2_with fail
      exact fin.out
   ·have q:(p.wide==q.wide)=false:=by simpa using c
    have fin:=Lib.hid (hR.out _ nW.out);rw [decide_eq_false c,Bool.false_and]at fin;clear hR c;go_wp2_with fail
    exact fin.out
  ·have q:(p.bare==q.bare)=false:=by simpa using c
   have fin:=Lib.hid (hR.out _ nW.out);rw [q,Bool.false_and]at fin;clear hR c;go_wp2_with fail
   exact fin.out
end Go.Proofs.YtncckdaflellnaaGreat.Kin
namespace Go.Proofs.YtncckdaflellnaaGreat.Res
open Go.RowKit Go.Lib Utf Nam Lat Kin Unp Rel
def F0:Fm Unit:=⟨fun _ _=>True,fun _ _=>False,fun _ _ _=>trivial,fun _ h=>h.elim⟩
theorem F0.z(w:World):Hq F0 () () w w []:=Hq.nil trivial
theorem F0.bel{w V:World}{l:List (Nat×Obj)}(h:Hq F0 () () w V l):Below w.heap.size w V:=h.below (Nat.le_refl _) fun _ q=>q.elim
abbrev ndL(x:Nd)(nv pv:Value):List Value:=[.string x.1.1,.int .i64 x.1.2,.int .i64 x.2.1.kind,.int .i64 x.2.1.at_,.int .i64 x.2.1.lo,.int .i64 x.2.1.hi,.int .i64 x.2.1.most,nv,pv,.string x.2.1.name,.int .i64 x.2.1.nat]
theorem nds_el{w:World}{v:Value}{l:List Nd}(h:RdNs w v l):∃(A:Option Addr)(c:Nat),v=.slice A l.length c∧l.length≤c∧∀K,K<l.length→∃g o N1 N3 M1 M3,A=some ⟨g,o,none⟩∧RdY w (nN l K).2.1 (nN l K).2.2 (.slice N1 (nN l K).2.1.names.length N3) (.slice M1 (nN l K).2.2.len M3) ∧
  ∀W,Below w.heap.size w W→W.rangeAt g (o+K*11) (ndL (nN l K) (.slice N1 (nN l K).2.1.names.length N3) (.slice M1 (nN l K).2.2.len M3)):=by
 obtain⟨A,c,rfl,hc,hr⟩:=h;refine⟨A,c,rfl,hc,fun K hK=>?_⟩;obtain⟨g,o,rfl,hg,hi⟩:=hr (by omega);obtain⟨nv,pv,hx,hl⟩:=hi K hK;obtain⟨N1,N3,rfl,-,-⟩:=hx.n.op;obtain⟨M1,M3,rfl,-⟩:=hx.p.sl;exact⟨g,o,N1,N3,M1,M3,rfl,hx,fun W m j v e=>(m.cell (p:=⟨g,o+K*11+j,none⟩) hg).trans (hl j v e)⟩
theorem part_el{w:World}{h:TH}{f:Ft}{nv:Value}{A:Option Addr}{n c K:Nat}{p:PH}{x:TH}{kd r:Ft}(hy:RdY w h f nv (.slice A n c))(e:f.drop K=.cons p x kd r):∃g o A1 n1 A2 n2 A5 n5 A7 n7,A=some ⟨g,o,none⟩∧RdW w (.slice A1 p.label.length n1) p.label∧RdW w (.slice A2 p.cl.length n2) p.cl∧RdY w x kd (.slice A5 x.names.length n5) (.slice A7 kd.len n7) ∧
  ∀W,Below w.heap.size w W→W.rangeAt g (o+K*18) (ptL p x (.slice A1 p.label.length n1) (.slice A2 p.cl.length n2) (.slice A5 x.names.length n5) (.slice A7 kd.len n7)):=by
 obtain⟨g,o,lv,cv,nx,px,rfl,hg,hlv,hcv,hyx,hc⟩:=hy.p.part e;obtain⟨A1,n1,rfl,-,-⟩:=hlv.op;obtain⟨A2,n2,rfl,-,-⟩:=hcv.op;obtain⟨A5,n5,rfl,-,-⟩:=hyx.n.op;obtain⟨A7,n7,rfl,-⟩:=hyx.p.sl;exact⟨g,o,A1,n1,A2,n2,A5,n5,A7,n7,rfl,hlv,hcv,hyx,fun W m j v h=>(m.cell (p:=⟨g,o+K*18+j,none⟩) hg).trans (hc j v h)⟩
theorem named_alloc(ρ:Operand→Value)(W:World)(o:Oper)(h:o.op=.alloc 121):(execOp ρ o).run Tryz.prog W=.ok (.value (ptA W.heap.size)) (W.alloc (.cells #[.string ⟨#[]⟩,.int .i64 0,.int .i64 0,.int .i64 0,.int .i64 0,.int .i64 0,.int .i64 0,.slice none 0 0,.slice none 0 0,.string ⟨#[]⟩,.int .i64 0] 121)):=by
 simp [execOp,h,go_sem,ptA]
def tw(l:List Nd):List Wr:=l.map (·.1)
theorem tw_len(l:List Nd):(tw l).length=l.length:=by simp [tw]
theorem tw_get{l:List Nd}{i:Nat}(h:i<l.length):wN (tw l) i=(nN l i).1:=by
 rw [wN_get (by rw [tw_len];exact h),nN_get h]
 simp [tw]
theorem fault18_calls(s:ByteArray)(z e:Int)(w:World)(R:Ending→World→Prop)(hR:Hid (∀w',Below w.heap.size w w'→R (.returned (.agg #[.int .i64 e,.int .i64 z])) w')):Calls Tryz.prog 105 #[.agg #[.string s,.int .i64 z],.int .i64 e] w R:=by
 go_enter Tryz.func105,Tryz.ntmps105
 go_wp2_with fail
 refine bodyPost_ret (v:=.agg #[.int .i64 e,.int .i64 z]) ?_ rfl (hR.out _ ?_)
 ·simp [results,Tryz.results105,go_sem]
 ·exact((Below.refl _ _).alloc (Nat.le_refl _) _).alloc (by simp) _
theorem names18_calls(l:List Nd)(tv:Value)(w:World)(ht:RdNs w tv l)(hl:l.length≤1000000)(R:Ending→World→Prop)
  (hR:Hid (∀v' w',RdS w' v' (nms (tw l))→Below w.heap.size w w'→R (.returned v') w')):Calls Tryz.prog 51 #[tv] w R:=by
 obtain⟨A,c,rfl,hc,hel⟩:=nds_el ht;obtain⟨M,hM,hmk⟩:=mk_str l.length (by omega);have oA:=own_made (n:=l.length) (w:=w) (t:=9) hM (by simp [sv]) (by unfold maxLen;omega)
 have nb1:=(Below.refl w.heap.size w).alloc (Nat.le_refl _) (.cells M 9);replace hel:=Lib.hid hel;replace oA:=Lib.hid oA;replace nb1:=Lib.hid nb1;clear ht hM;go_enter Tryz.func51,Tryz.ntmps51
 go_wp2_with fail
 go_loopg [11] l.length (fun g i wr=>∃(K:Nat) (q:List ByteArray),i=.int .i64 K∧K+g=l.length∧Hid (Below w.heap.size w wr)∧Hid (OwnS wr w.heap.size w.heap.size l.length q)∧Hid (NmsW (tw l) K q))
 case atStart=>exact⟨0,_,rfl,by omega,nb1,oA,Lib.hid ⟨by simp [tw_len],fun j h=>by omega⟩⟩
 case round =>
  obtain⟨K,q,rfl,c1,nb,ow,hs⟩:=hrel;clear oA nb1;have hsz:=nb.out.size
  by_cases hK:K<l.length
  ·obtain⟨g,o,N1,N3,M1,M3,rfl,-,hrg⟩:=hel.out K hK
   have hs2:=Lib.hid (hs.out.put (show K<(tw l).length by rw [tw_len];exact hK))
   rw [tw_get hK]at hs2;have rg:=hrg wr nb.out;clear hrg hs;generalize nN l K=x at *;have hi0:(0:Int)≤(K:Int):=by omega
   have hi1:(K:Int)<(l.length:Int):=by omega
   have r2:=World.ownsRow.frozenAt ow.out K
   have r3:∃u,wr.cell? ⟨w.heap.size,K,none⟩=some u:=by
    have:=World.ownsRow.cellAt ow.out K (by omega);have hl2:=ow.out.1;exact⟨(sv q)[K]'(by omega),by rw [this,List.getElem?_eq_getElem]⟩
   obtain⟨u,r3⟩:=r3
   have hH:w.heap.size<wr.heap.size:=by
    obtain⟨g',c',e',-,hg',-⟩:=own_at ow.out (show 0<l.length by omega);simp only[Value.slice.injEq,Option.some.injEq,Addr.mk.injEq]at e';rw [e'.1.1];exact hg'
   have m:=F0.z wr;obtain⟨V,eV,m,zV⟩:=m.new (.cells (ndL x (.slice N1 x.2.1.names.length N3) (.slice M1 x.2.2.len M3)).toArray 121);have bV:=F0.bel m;have r4:=(bV.frozen (p:=⟨w.heap.size,K,none⟩) hH).trans r2;have r5:=(bV.cell (p:=⟨w.heap.size,K,none⟩) hH).trans r3;have o2:=own_below ow.out bV;obtain⟨o3,g3⟩:=OwnS.put o2 K x.1.1;have n3:=Lib.hid ((nb.out.trans (bV.mono hsz)).trans (below_of_grown g3 (Nat.le_refl _) (Nat.le_trans hsz bV.size)));replace o3:=Lib.hid o3;have e0:=m.c 0 0 rfl rfl;clear o2 g3 r2 r3 ow nb bV m hH zV;go_upto_region 5 with(first|(refine wpList_load_g (by rfl) 121 _ rfl g (o+K*11) rfl _ _ rg Tryz.underlying121 rfl (by kernel_rfl) ?_;go_simp)|(refine wpList_copy3 (ndL x (.slice N1 x.2.1.names.length N3) (.slice M1 x.2.2.len M3)).toArray _ ⟨rfl,rfl,rfl⟩ rfl (fun _ _=>rfl) ⟨rfl,rfl,rfl⟩ named_alloc (by kernel_rfl) ⟨rfl,by simp [Value.oneCell']⟩ (fun _=>⟨rfl,rfl⟩) ?_;go_simp))
   clear eV rg;go_wp2_with fail
   go_roundg (gk-1)
   case measure=>omega
   case rel=>exact⟨K+1,_,by go_num,by omega,n3,o3,hs2⟩
  ·obtain rfl:K=l.length:=by omega
   have hs2:=hs.out;rw [←tw_len l]at hs2;obtain rfl:=hs2.fin;have fin:=Lib.hid (hR.out _ _ (RdS.of_own ow.out) nb.out);clear ow nb hs;go_wp2_with fail
   exact fin.out
end Go.Proofs.YtncckdaflellnaaGreat.Res
namespace Go.Proofs.YtncckdaflellnaaGreat
open Go.RowKit Go.Lib
noncomputable def empW(S:Nat→Prop)(w:World):World:={ w with heap:=w.heap.mapIdx fun i o=>@ite _ (S i) (Classical.propDecidable _) (.cells #[] 0) o }
theorem emp_size(S:Nat→Prop)(w:World):(empW S w).heap.size=w.heap.size:=by simp [empW]
theorem emp_in{S:Nat→Prop}{w:World}{g:Nat}(h:S g)(hg:g<w.heap.size):(empW S w).heap[g]?=some (.cells #[] 0):=by
 unfold empW;simp only[Array.getElem?_mapIdx];rw [Array.getElem?_eq_getElem hg];simp [h]
theorem emp_out{S:Nat→Prop}{w:World}{g:Nat}(h:¬S g):(empW S w).heap[g]?=w.heap[g]?:=by
 unfold empW;simp only[Array.getElem?_mapIdx];cases hg:w.heap[g]? <;> simp [h]
theorem emp_cell{S:Nat→Prop}{w:World}{g o:Nat}{v:Value}:(empW S w).cell? ⟨g,o,none⟩=some v↔¬S g∧w.cell? ⟨g,o,none⟩=some v:=by
 by_cases h:S g
 ·refine⟨fun q=>?_,fun q=>absurd h q.1⟩
  have hg:=World.block_lt_of_cell? _ _ q;rw [emp_size]at hg;have:=emp_in h hg;rw [Lib.cell_of_heap this]at q;simp at q
 ·rw [World.cell?_of_block (a:=⟨g,o,none⟩) (emp_out h)]
  exact⟨fun q=>⟨h,q⟩,fun q=>q.2⟩
theorem emp_kp{S S':Nat→Prop}{w w':World}(hs:w.heap.size≤w'.heap.size)(h:∀g,g<w.heap.size→¬S g→¬S' g∧w'.heap[g]?=w.heap[g]?):Kp (empW S w) (empW S' w'):=by
 refine⟨by rw [emp_size,emp_size];exact hs,fun b o v q=>?_⟩
 obtain⟨n,q⟩:=emp_cell.1 q;obtain⟨n',e⟩:=h b (World.block_lt_of_cell? _ _ q) n;exact emp_cell.2 ⟨n',(World.cell?_of_block (a:=⟨b,o,none⟩) e).trans q⟩
theorem emp_un{S:Nat→Prop}{w w':World}(hs:w.heap.size≤w'.heap.size)(h:∀g,g<w.heap.size→¬S g→w'.heap[g]?=w.heap[g]?):Kp (empW S w) w':=by
 refine⟨by rw [emp_size];exact hs,fun b o v q=>?_⟩
 obtain⟨n,q⟩:=emp_cell.1 q;exact(World.cell?_of_block (a:=⟨b,o,none⟩) (h b (World.block_lt_of_cell? _ _ q) n)).trans q
def lowS(b:Nat):Nat→Prop:=fun g=>g<b
def rowS(b:Nat)(v:Value):Nat→Prop:=fun g=>g<b∨v.ownBlock=some g
section
variable {P:Program}
theorem run_append_fresh(w:World)(base:Nat)(t ty e:TypeId)(i:TypeInfo)(z:Value)(size bytes:Nat)(ht:P.underlying t=some (.slice e))(hi:P.info? e=some i)(hz:i.zero=some z)
  (hsize:i.size=size) (hby:i.bytes=bytes) (hzs:z.cells.size=size) (hsz:0<size)
  (v:Value) (n:Nat) (xs:List Value) (hown:w.ownsRow base e size v n xs)
  (a:Addr) (c:Nat) (news:List Value) (hl:news.length=1*size) (hnews:∀j u,news[j]?=some u→w.cell? (a.add j)=some u) (h1:∀u∈news,u.oneCell'=true)
  (h63:n+1≤maxLen) (hbytes:(n+1)*bytes≤140737488355328) (v':Value) (w':World) (hrun:(Builtin.append_ #[t,t] ty #[v,.slice (some a) 1 c]).run P w=.ok v' w'):v'.ownBlock=v.ownBlock∨v'.ownBlock=some w.heap.size:=by
 subst hsize;subst hby;have hsmall:n+1≤9223372036854775807:=by simp only[maxLen]at h63;omega
 rcases hown.2 with⟨rfl,rfl⟩|⟨g,cap,cur,rfl,hbg,hg,hnc,hcm,hcs,htake⟩
 ·have hx:xs=[]:=List.eq_nil_of_length_eq_zero (by simpa using hown.1)
  subst hx;have hr:=run_append_nil (P:=P) w t ty e i z ht hi hz a 1 c news hl hnews (by omega) (by omega) (by have hb:=hbytes;simp only[Nat.zero_add]at hb;omega)
  rw [hr]at hrun;simp only[Result.ok.injEq]at hrun;rw [←hrun.1];exact .inr rfl
 ·by_cases hroom:n+1≤cap
  ·have hfit:n*i.size+news.length≤cur.size:=by rw [hl,hcs,←Nat.add_mul];exact Nat.mul_le_mul_right _ hroom
   have hr:=run_append_room (P:=P) w t ty e i ht hi g n cap cur hg a 1 c news hl hnews h1 hroom hfit;rw [hr]at hrun;simp only[Result.ok.injEq]at hrun;rw [←hrun.1];exact .inl rfl
  ·have holds:∀j u,xs[j]?=some u→w.cell? ((⟨g,0,none⟩:Addr).add j)=some u:=hown.cells (g:=g) rfl
   have hr:=run_append_grow (P:=P) w t ty e i z ht hi hz ⟨g,0,none⟩ n cap xs hown.1 holds a 1 c news hl hnews (by omega) (by omega) (growslice_fits (by omega) hbytes);rw [hr]at hrun;simp only[Result.ok.injEq]at hrun;rw [←hrun.1];exact .inr rfl
theorem appKF{ops:Array Oper}{rest:List Oper}{o:Oper}{a:Act}{Q:Exit→Act→World→Prop}(W:World)(us:Array Value)(k:Nat)(e:TypeId)(hgd:o.guard=none)(s x:Operand)(t:TypeId)
  (ho:o.op=.call { callee:=.builtin .append,args:=#[s,x],argTypes:=#[t,t] })
  (base:Nat) (i:TypeInfo) (z:Value) (bytes:Nat) (ht:P.underlying t=some (.slice e)) (hi:P.info? e=some i) (hz:i.zero=some z) (hsize:i.size=k) (hby:i.bytes=bytes) (hzs:z.cells.size=k) (hk:0<k) (hus:us.size=k)
  (v:Value) (n:Nat) (xs:List Value) (hs:a.eval s=v) (hown:W.ownsRow base e k v n xs) (b:Nat) (hx:a.eval x=.slice (some ⟨b,0,none⟩) 1 1) (hbb:b=W.heap.size) (h1:∀u∈us.toList,u.oneCell'=true)
  (h63:n+1≤maxLen) (hbytes:(n+1)*bytes≤140737488355328) (hbase:base≤W.heap.size)
  (h:∀v' w',w'.ownsRow base e k v' (n+1) (xs++us.toList)→W.grownBy w' v.ownBlock→Below base W w'→(v'.ownBlock=v.ownBlock∨v'.ownBlock=some (W.heap.size+1))→wpList P ops Q rest (a.put o.dst v') w') :
  wpList P ops Q (o::rest) a (W.alloc (.cells us e)):=by
 subst hbb;have hown':=hown.alloc (.cells us e);have hnews:=cells_new W us e;have hbase':base≤(W.alloc (.cells us e)).heap.size:=by simp;omega
 have hz1:(W.alloc (.cells us e)).heap.size=W.heap.size+1:=by simp
 refine wpList_plain hgd fun K hK=>?_
 obtain⟨v',w',hr,h2,h3,h4⟩:=run_append_own (P:=P) (W.alloc (.cells us e)) base t o.type e i z k bytes ht hi hz hsize hby hzs hk v n xs hown' ⟨W.heap.size,0,none⟩ 1 1 us.toList (by simp [hus]) hnews h1 h63 hbytes hbase';have h5:=run_append_fresh (P:=P) (W.alloc (.cells us e)) base t o.type e i z k bytes ht hi hz hsize hby hzs hk v n xs hown' ⟨W.heap.size,0,none⟩ 1 us.toList (by simp [hus]) hnews h1 h63 hbytes v' w' hr;rw [hz1]at h5;have hg':=grown_step h3;unfold Oper.wp execOp;simp only[ho,resolve,invoke,builtin,Sem.run_bind,Sem.run_pure,Result.andThen_ok,List.map_toArray,List.map_cons,List.map_nil,hs,hx,hr];exact hK _ _ (h v' w' h2 hg' (grown_below hg' hbase (fun k hk=>(hown.lt k hk).1)) h5)
end
namespace Fo
variable {H L:Type}
def snoc:Fo H L→L→H→Fo H L→Fo H L
| .nil,l,h,k=>.cons l h k .nil
| .cons l' h' k' r,l,h,k=>.cons l' h' k' (snoc r l h k)
def take:Nat→Fo H L→Fo H L
| 0,_=>.nil
| _+1,.nil=>.nil
| n+1,.cons l h k r=>.cons l h k (take n r)
end Fo
section
variable {H L:Type} {k pre:Nat} {hd:World→List Value→H→Value→Prop} {pl:World→List Value→L→Prop}
def RdsF(k pre:Nat)(hd:World→List Value→H→Value→Prop)(pl:World→List Value→L→Prop)(w:World):List Value→Fo H L→Prop
| xs,.nil=>xs=[]
| xs,.cons l h kids r=>∃ps ts rest,xs=ps++ts++rest∧ps.length=pre∧pl w ps l∧RdNd k pre hd pl w ts h kids∧RdsF k pre hd pl w rest r
end
end Go.Proofs.YtncckdaflellnaaGreat
