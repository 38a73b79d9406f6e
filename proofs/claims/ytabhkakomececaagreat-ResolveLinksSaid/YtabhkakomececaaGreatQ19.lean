import Derived.Test.YtabhkakomececaaGreatQ12
import Derived.StillTail
set_option linter.all false
set_option maxRecDepth 100000
set_option maxHeartbeats 4000000
namespace Go.Proofs.YtabhkakomececaaGreat.Kin
open Go.RowKit Go.Lib Utf Nam Lat
def CountC(f:Ft):Prop:=∀(h:TH)(nv pv:Value)(w:World),f.len≤maxLen→f.All GoodH GoodL→RdY w h f nv pv→∀R:Ending→World→Prop,
Hid (∀w',Below w.heap.size w w'→R (.returned (.int .i64 (cW f 1))) w')→Calls Tryz.prog 201 #[tyV h nv pv] w R
theorem count_step(f:Ft)(ih:Fo.AllK CountC f):CountC f:=by
 intro h nv pv w hfl hga hy R hR;replace hfl:f.len≤9223372036854775807:=hfl;have bA:=(Below.refl w.heap.size w).alloc (Nat.le_refl _) (.cells (tyL h nv pv).toArray 36);have kA:=TB.new w h nv pv 36;obtain⟨Ap,cp,rfl,hpl⟩:=hy.p.sl;obtain⟨An,cn,rfl,-,-⟩:=hy.n.op;replace hy:=Lib.hid (hy.below bA);replace hga:=Lib.hid hga;replace ih:=Lib.hid ih;replace bA:=Lib.hid bA;replace kA:=Lib.hid kA;go_enter Tryz.func201,Tryz.ntmps201
 go_upto_region 1 with fail
 generalize w.alloc (.cells (tyL h (.slice An h.names.length cn) (.slice Ap f.len cp)).toArray 36)=W2 at *;have t6:=kA.out.k6;go_wp2_with fail
 clear t6 kA;go_loopg [3,9] f.len (fun g0 n i wr=>∃(K:Nat) (a:Int),n=.int .i64 a∧i=.int .i64 K∧K+g0=f.len∧Hid (Below W2.heap.size W2 wr)∧cW f 1=cW (f.drop K) a)
 case atStart=>exact⟨0,1,rfl,rfl,by omega,Lib.hid (Below.refl _ _),rfl⟩
 case round =>
  obtain⟨K,a,rfl,rfl,e1,nW,e2⟩:=hrel
  by_cases hK:K<f.len
  ·obtain⟨p,x,kd,r,e⟩:=Fo.drop_lt hK
   obtain⟨g,o,lv,cv,nx,px,rfl,hg,hlv,hcv,hyx,hc⟩:=(hy.out.below nW.out).p.part e;obtain⟨A1,n1,rfl,-,-⟩:=hlv.op;obtain⟨A2,n2,rfl,-,-⟩:=hcv.op;obtain⟨A5,n5,rfl,-,-⟩:=hyx.n.op;obtain⟨A7,n7,rfl,-⟩:=hyx.p.sl;obtain⟨gp,gx,gk',ga2⟩:=all_at K hga.out e;have ihK:=Lib.hid ((ih.out).at_ e);rw [e]at e2;have d1:=Fo.drop_succ K e;have i0:(0:Int)≤(K:Int):=by omega
   have i1:(K:Int)<(f.len:Int):=by omega
   have e4:cW f 1=cW r (if p.bare then a else wrap64 (a+cW kd 1)):=e2;clear e2 e;have rg:wr.rangeAt g (o+K*18) [.string p.name,.int .i64 p.at_,.bool p.bare,.slice A1 p.label.length n1,.int .i64 p.wide,.int .i64 p.ck,.int .i64 p.cn,.int .i64 p.cat,.slice A2 p.cl.length n2,.int .i64 x.kind,.int .i64 x.at_,.int .i64 x.lo,.int .i64 x.hi,.int .i64 x.most,.slice A5 x.names.length n5,.slice A7 kd.len n7,.string x.name,.int .i64 x.nat]:=fun j v h=>hc j v h
   have bP:=(Below.refl wr.heap.size wr).alloc (Nat.le_refl _) (.cells #[.string p.name,.int .i64 p.at_,.bool p.bare,.slice A1 p.label.length n1,.int .i64 p.wide,.int .i64 p.ck,.int .i64 p.cn,.int .i64 p.cat,.slice A2 p.cl.length n2,.int .i64 x.kind,.int .i64 x.at_,.int .i64 x.lo,.int .i64 x.hi,.int .i64 x.most,.slice A5 x.names.length n5,.slice A7 kd.len n7,.string x.name,.int .i64 x.nat] 127);have hb:=heap_alloc_new wr (.cells #[.string p.name,.int .i64 p.at_,.bool p.bare,.slice A1 p.label.length n1,.int .i64 p.wide,.int .i64 p.ck,.int .i64 p.cn,.int .i64 p.cat,.slice A2 p.cl.length n2,.int .i64 x.kind,.int .i64 x.at_,.int .i64 x.lo,.int .i64 x.hi,.int .i64 x.most,.slice A5 x.names.length n5,.slice A7 kd.len n7,.string x.name,.int .i64 x.nat] 127);clear hc hlv hcv hg;go_upto_region 5 with(first|(refine wpList_load_g (by rfl) 127 _ rfl g (o+K*18) rfl [.string p.name,.int .i64 p.at_,.bool p.bare,.slice A1 p.label.length n1,.int .i64 p.wide,.int .i64 p.ck,.int .i64 p.cn,.int .i64 p.cat,.slice A2 p.cl.length n2,.int .i64 x.kind,.int .i64 x.at_,.int .i64 x.lo,.int .i64 x.hi,.int .i64 x.most,.slice A5 x.names.length n5,.slice A7 kd.len n7,.string x.name,.int .i64 x.nat] _ rg Tryz.underlying127 rfl (by kernel_rfl) ?_;go_simp)|(refine wpList_copy #[.string p.name,.int .i64 p.at_,.bool p.bare,.slice A1 p.label.length n1,.int .i64 p.wide,.int .i64 p.ck,.int .i64 p.cn,.int .i64 p.cat,.slice A2 p.cl.length n2,.int .i64 x.kind,.int .i64 x.at_,.int .i64 x.lo,.int .i64 x.hi,.int .i64 x.most,.slice A5 x.names.length n5,.slice A7 kd.len n7,.string x.name,.int .i64 x.nat] ⟨rfl,rfl,rfl⟩ ⟨rfl,rfl,rfl⟩ part_alloc (by kernel_rfl) ⟨rfl,by simp [Value.oneCell']⟩ (fun _=>⟨rfl,rfl⟩) ?_;go_simp))
   clear rg;have hyV:=Lib.hid (hyx.below bP);have nV:=Lib.hid (nW.out.trans (bP.mono nW.out.size));generalize wr.alloc (.cells #[.string p.name,.int .i64 p.at_,.bool p.bare,.slice A1 p.label.length n1,.int .i64 p.wide,.int .i64 p.ck,.int .i64 p.cn,.int .i64 p.cat,.slice A2 p.cl.length n2,.int .i64 x.kind,.int .i64 x.at_,.int .i64 x.lo,.int .i64 x.hi,.int .i64 x.most,.slice A5 x.names.length n5,.slice A7 kd.len n7,.string x.name,.int .i64 x.nat] 127)=V at *;generalize wr.heap.size=B at *;clear bP hyx nW;have u1:=(Lib.cell_of_heap hb 2).trans rfl;have r9:V.rangeAt B 9 [.int .i64 x.kind,.int .i64 x.at_,.int .i64 x.lo,.int .i64 x.hi,.int .i64 x.most,.slice A5 x.names.length n5,.slice A7 kd.len n7,.string x.name,.int .i64 x.nat]:=fun j v h=>by rw [Lib.cell_of_heap hb,List.getElem?_toArray,←List.getElem?_drop];exact h
   clear hb;cases hbr:p.bare
   ·rw [hbr]at u1 e4
    simp only[Bool.false_eq_true,if_false]at e4;clear hbr;have cS:=Lib.hid fun R hR=>ihK.out x (.slice A5 x.names.length n5) (.slice A7 kd.len n7) V gk' ga2 hyV.out R hR
    go_wp2_with (refine wpList_load_g (by rfl) 36 _ rfl B 9 rfl [.int .i64 x.kind,.int .i64 x.at_,.int .i64 x.lo,.int .i64 x.hi,.int .i64 x.most,.slice A5 x.names.length n5,.slice A7 kd.len n7,.string x.name,.int .i64 x.nat] _ r9 Tryz.underlying36 rfl (by kernel_rfl) ?_;go_simp)
    refine cS.out _ (Lib.hid fun w5 n5=>?_);have nY:=Lib.hid (nV.out.trans (n5.mono nV.out.size));generalize cW kd 1=ck at *;clear r9 u1 cS n5 hyV nV;rw [←d1]at e4;go_wp2_with fail
    go_roundg (gk-1)
    case measure=>omega
    case rel=>exact⟨K+1,_,rfl,by go_num,by omega,nY,e4⟩
   ·rw [hbr]at u1 e4
    simp only[if_true]at e4;clear hbr;rw [←d1]at e4;clear r9 hyV;go_wp2_with fail
    go_roundg (gk-1)
    case measure=>omega
    case rel=>exact⟨K+1,a,rfl,by go_num,by omega,nV,e4⟩
  ·obtain rfl:K=f.len:=by omega
   rw [Fo.drop_all (Nat.le_refl _)]at e2;have e4:cW f 1=a:=e2;have fin:=Lib.hid (hR.out _ (bA.out.trans (nW.out.mono bA.out.size)));rw [e4]at fin;clear hR e2 e4;go_wp2_with fail
   exact fin.out
theorem count_calls(f:Ft):CountC f:=Fo.deep count_step f
end Go.Proofs.YtabhkakomececaaGreat.Kin
namespace Go.Proofs.YtabhkakomececaaGreat
open Go.RowKit Go.Lib
theorem nil_value{P:Program}{o:Oper}{x:Operand}{ρ:Operand→Value}{w w':World}{n:Next}(ho:o.op=.nilCheck x)(hr:(execOp ρ o).run P w=.ok n w'):∃u,n=.value u:=by
 unfold execOp at hr;simp only[ho]at hr
 split at hr
 ·simp [go_sem]at hr
 ·simp [go_sem]at hr
 ·simp [go_sem]at hr
 ·split at hr
  ·simp [go_sem]at hr
  ·rw [Sem.run_bind]at hr
   generalize(program:Sem Program).run P w=A at hr;cases A with
   | halt a b=>simp [Result.andThen]at hr
   | ok pr w1 =>
    simp only[Result.andThen]at hr;rw [Sem.run_bind]at hr;generalize Sem.run P (nilAhead _ _ _ _) w1=B at hr;cases B with
    | halt a b=>simp [Result.andThen]at hr
    | ok c w2 =>
     simp only[Result.andThen]at hr
     split at hr
     ·simp [go_sem,Sem.run_bind,unsupported,Result.andThen]at hr
     ·simp [go_sem]at hr
      exact⟨_,hr.1.symm⟩
  ·simp [go_sem]at hr
   exact⟨_,hr.1.symm⟩
 ·simp only[Sem.run_pure]at hr
  cases hr
  exact⟨_,rfl⟩
def stillT(o:Oper):Bool:=stillB o||(match o.op with | .nilCheck _=>true|_=>false)
theorem stillT_value{P:Program}{o:Oper}(h:stillT o=true){ρ:Operand→Value}{w w':World}{n:Next}(hr:(execOp ρ o).run P w=.ok n w'):∃u,n=.value u:=by
 unfold stillT at h;rw [Bool.or_eq_true]at h;rcases h with h|h
 ·exact still_value h hr
 ·split at h
  ·rename_i x hx
   exact nil_value hx hr
  ·cases h
section
variable {P:Program} {md:Region.Mode} {ops:Array Oper} {Q:Exit→Act→World→Prop} {C:World→Prop}
def anyD(P:Program)(md:Region.Mode)(ops:Array Oper)(C:World→Prop)(k:Nat)(Q:Exit→Act→World→Prop):Nat→Array Bool→Act→World→Prop
| 0,l,a,w=>Region.ready md ops l=[]∧Q .normal a w
| f+1,l,a,w=>(Region.ready md ops l=[]→Q .normal a w)∧∀i∈Region.ready md ops l,wpOp P ops Q i (fun b w'=>((l.setIfInBounds i true).getD k true=false→C w')∧anyD P md ops C k Q f (l.setIfInBounds i true) b w') a w
theorem any_of_D{k:Nat}:∀(f:Nat)(l:Array Bool)(a:Act)(w:World),anyD P md ops C k Q f l a w→wpAny P md ops Q f l a w
| 0,_,_,_,h=>h
| f+1,l,a,w,h=>⟨h.1,fun i hi=>wpOp_mono (fun b w' hb=>any_of_D f _ b w' hb.2) (h.2 i hi)⟩
theorem anyD_first{i k:Nat}{oi:Oper}{v:Value}(hi:ops[i]?=some oi)(hs:Region.noSelect ops=true)(hQ:∀c a w,Q (.panic c) (a.put oi.dst v) w→Q (.panic c) a w)(hik:i≠k)(hki:Region.waitsFor md ops k i=true):∀(f:Nat)(l:Array Bool)(a:Act)(w:World),C w→l.getD k true=false →
  (∀j oj,ops[j]?=some oj→j≠i→l.getD j true=false→(∀e∈oj.after,Region.binds md e=true→e.on≠i)→oi.apart ops oj=true)→i∈Region.ready md ops l→YC P ops C oi v a →
  anyD P md ops C k Q f (l.setIfInBounds i true) (a.put oi.dst v) w→anyD P md ops C k Q (f+1) l a w:=by
 have hsel:=Region.noSelect_spec hs;intro f
 induction f with
 | zero =>
  intro l a w hw hk0 hfree hr hy H;refine⟨fun h=>(by rw [h]at hr;cases hr),fun j hj=>?_⟩
  by_cases e:j=i
  ·subst e;exact hy.wpOp hi hw ⟨fun _=>hw,H⟩
  ·have:=ready_mono hj e
   rw [H.1]at this;cases this
 | succ f ih =>
  intro l a w hw hk0 hfree hr hy H;refine⟨fun h=>(by rw [h]at hr;cases hr),fun j hj=>?_⟩
  by_cases e:j=i
  ·subst e;exact hy.wpOp hi hw ⟨fun _=>hw,H⟩
  ·obtain⟨hun,oj,hoj,hall⟩:=mem_ready.1 hj
   have hi0:=(mem_ready.1 hr).1
   have hno:∀x∈oj.after,Region.binds md x=true→x.on≠i:=fun x hx hb q=>by
    have h1:=hall x hx hb;rw [q]at h1;cases hl:l[i]? <;> simp [Array.getD_eq_getD_getElem?,hl]at hi0 h1
    rw [hi0]at h1;cases h1
   have hjk:j≠k:=by
    rintro rfl
    obtain⟨ok,ho,x,hx,hb,hxe⟩:=Region.waitsFor_spec hki;have:ok=oj:=Option.some.inj (ho.symm.trans hoj);subst this;exact hno x hx hb hxe
   have hk1:(l.setIfInBounds j true).getD k true=false:=by rw [getD_set_ne true hjk];exact hk0
   have hk2:((l.setIfInBounds i true).setIfInBounds j true).getD k true=false:=by rw [getD_set_ne true hjk,getD_set_ne true hik];exact hk0
   have hmix:=wpOp_behind (C:=C) hoj (hfree j oj hoj e hun hno) (fun cs b=>hsel i oi cs b hi) (fun cs b=>hsel j oj cs b hoj) hQ hy (H.2 j (ready_mono hj e));refine wpOp_mono (fun b w' hb=>⟨fun _=>hb.2.1 hk2,ih _ b w' (hb.2.1 hk2) hk1 (fun k ok hk hki hku hkn=>hfree k ok hk hki ?_ hkn) (ready_mono hr (Ne.symm e)) hb.1 ?_⟩) hmix
   ·by_cases q:j=k
    ·rw [←q];exact hun
    ·rwa [getD_set_ne true q]at hku
   ·rw [Array.setIfInBounds_comm _ _ e];exact hb.2.2
def quietT(md:Region.Mode)(ops:Array Oper)(k:Nat):List Nat→Array Bool→Option (Array Bool)
| [],l=>some l
| i::qs,l=>match ops[i]? with
 | none=>none
 | some o=>if(Region.ready md ops l).contains i&&Region.free md ops l i&&stillT o&&Region.waitsFor md ops k i&&decide (i≠k)then quietT md ops k qs (l.setIfInBounds i true)else none
theorem quietT_keep{k:Nat}:∀(qs:List Nat)(l l':Array Bool),quietT md ops k qs l=some l'→l.getD k true=false→l'.getD k true=false
| [],l,l',hb,h=>by
 simp only[quietT,Option.some.injEq]at hb;subst hb;exact h
| i::qs,l,l',hb,h=>by
 cases ho:ops[i]? with
 | none=>simp [quietT,ho]at hb
 | some o =>
  simp only[quietT,ho]at hb
  split at hb
  ·next hc =>
   simp only[Bool.and_eq_true,decide_eq_true_eq]at hc;exact quietT_keep qs _ l' hb (by rw [getD_set_ne true hc.2];exact h)
  ·cases hb
theorem quietT_any(hs:Region.noSelect ops=true)(hQ:∀c a d v w,Q (.panic c) (a.put d v) w→Q (.panic c) a w){w:World}(hw:C w){f k:Nat}{Kp:Act→Prop}:∀(qs:List Nat)(l l':Array Bool)(a:Act),quietT md ops k qs l=some l'→l.getD k true=false →
 wpQuiet P ops C Kp (pickO ops qs) a→(∀b,Kp b→anyD P md ops C k Q f l' b w)→anyD P md ops C k Q (qs.length+f) l a w
| [],l,l',a,hb,hk0,h,hk=>by
 simp only[quietT,Option.some.injEq]at hb;subst hb;rw [List.length_nil,Nat.zero_add];exact hk a h
| i::qs,l,l',a,hb,hk0,h,hk=>by
 cases ho:ops[i]? with
 | none=>simp [quietT,ho]at hb
 | some o =>
  simp only[quietT,ho]at hb
  split at hb
  ·next hc =>
   simp only[Bool.and_eq_true,decide_eq_true_eq]at hc;obtain⟨⟨⟨⟨hc1,hc2⟩,hc3⟩,hc4⟩,hc5⟩:=hc;rw [show pickO ops (i::qs)=o::pickO ops qs by simp [pickO,ho]]at h
   have hv:∃v,YC P ops C o v a∧wpQuiet P ops C Kp (pickO ops qs) (a.put o.dst v):=by
    unfold wpQuiet at h
    by_cases hg:Region.wanted o (yielded ops a.tmps)=true
    ·rw [if_pos hg]at h
     obtain⟨v,h1,h2⟩:=h;refine⟨v,.inl ⟨hg,fun x hx=>?_⟩,h2⟩;have h3:=h1 x hx;unfold Oper.quietAt at h3;cases hr:(execOp a.eval o).run P x with
     | halt y x'=>rw [hr]at h3;simp only[Oper.quietUpon]at h3
     | ok n x' =>
      obtain⟨u,rfl⟩:=stillT_value hc3 hr;rw [hr]at h3;simp only[Oper.quietUpon]at h3;obtain⟨rfl,rfl⟩:=h3;rfl
    ·rw [if_neg hg]at h
     exact⟨undef,.inr ⟨by simpa using hg,rfl⟩,h⟩
   obtain⟨v,hy,h2⟩:=hv;have:=anyD_first ho hs (fun c a w=>hQ c a _ _ w) hc5 hc4 (qs.length+f) l a w hw hk0 (Region.free_spec ho hc2) (by simpa using hc1) hy (quietT_any hs hQ hw qs _ l' _ hb (by rw [getD_set_ne true hc5];exact hk0) h2 hk)
   rwa [show(i::qs).length+f=qs.length+f+1 by simp;omega]
  ·cases hb
def mixTP(P:Program)(ops:Array Oper)(C:World→Prop)(Q:Exit→Act→World→Prop):List (List Nat×Nat)→List Nat→Nat→Act→World→Prop
| [],qs,k,a,w=>wpQuiet P ops C (fun b=>wpOp P ops Q k (fun b' w'=>Q .normal b' w') b w) (pickO ops qs) a
| (q,j)::rest,qs,k,a,w=>wpQuiet P ops C (fun b=>wpOp P ops Q j (fun b' w'=>C w'∧mixTP P ops C Q rest qs k b' w') b w) (pickO ops q) a
def mixTB(md:Region.Mode)(ops:Array Oper)(qs:List Nat)(k:Nat):List (List Nat×Nat)→Array Bool→Bool
| [],l=>match quietT md ops k qs l with
 | some l'=>decide (Region.ready md ops l'=[k])&&(Region.ready md ops (l'.setIfInBounds k true)).isEmpty&&decide (k<l'.size)
 | none=>false
| (q,j)::rest,l=>match quietT md ops k q l with
 | some l'=>decide (Region.ready md ops l'=[j])&&decide (j≠k)&&mixTB md ops qs k rest (l'.setIfInBounds j true)
 | none=>false
def mixTN(qs:List Nat):List (List Nat×Nat)→Nat
| []=>qs.length+1
| (q,_)::rest=>q.length+(mixTN qs rest+1)
theorem mixT_any(hs:Region.noSelect ops=true)(hQ:∀c a d v w,Q (.panic c) (a.put d v) w→Q (.panic c) a w)(qs:List Nat)(k:Nat):∀(segs:List (List Nat×Nat))(l:Array Bool)(a:Act)(w:World),C w→l.getD k true=false→mixTB md ops qs k segs l=true →
 mixTP P ops C Q segs qs k a w→anyD P md ops C k Q (mixTN qs segs) l a w
| [],l,a,w,hw,hk0,hb,h=>by
 unfold mixTB at hb
 split at hb
 ·next l' hl =>
  simp only[Bool.and_eq_true,decide_eq_true_eq]at hb;obtain⟨⟨h1,h2⟩,h3⟩:=hb;refine quietT_any hs hQ hw (f:=1) qs l l' a hl hk0 h fun b hk=>⟨fun h0=>(by rw [h1]at h0;cases h0),fun i hi=>?_⟩
  rw [h1]at hi;obtain rfl:=List.mem_singleton.1 hi;exact wpOp_mono (fun b' w' hbw=>⟨fun e=>(by simp [h3]at e),(by simpa using h2),hbw⟩) hk
 ·cases hb
| (q,j)::rest,l,a,w,hw,hk0,hb,h=>by
 unfold mixTB at hb
 split at hb
 ·next l' hl =>
  simp only[Bool.and_eq_true,decide_eq_true_eq]at hb;obtain⟨⟨h1,h2⟩,h3⟩:=hb;refine quietT_any hs hQ hw q l l' a hl hk0 h fun b hk=>?_
  refine⟨fun h0=>(by rw [h1]at h0;cases h0),fun i hi=>?_⟩
  rw [h1]at hi;obtain rfl:=List.mem_singleton.1 hi;exact wpOp_mono (fun b' w' hbw=>⟨fun _=>hbw.1,mixT_any hs hQ qs k rest _ b' w' hbw.1 (by rw [getD_set_ne true h2];exact quietT_keep q l l' hl hk0) h3 hbw.2⟩) hk
 ·cases hb
theorem mixt_cons{q:List Nat}{j k:Nat}{rest:List (List Nat×Nat)}{qs:List Nat}{a:Act}{w:World}{os:List Oper}(ho:pickO ops q=os)
  (h:∀Kp:Act→Prop,(∀b,wpOp P ops Q j (fun b' w'=>C w'∧mixTP P ops C Q rest qs k b' w') b w→Kp b)→wpQuiet P ops C Kp os a):mixTP P ops C Q ((q,j)::rest) qs k a w:=by
 subst ho;exact h _ fun _ h=>h
theorem mixt_last{k:Nat}{qs:List Nat}{a:Act}{w:World}{os:List Oper}(ho:pickO ops qs=os)(h:∀Kp:Act→Prop,(∀b,wpOp P ops Q k (fun b' w'=>Q .normal b' w') b w→Kp b)→wpQuiet P ops C Kp os a):mixTP P ops C Q [] qs k a w:=by
 subst ho;exact h _ fun _ h=>h
theorem loudt{k j:Nat}{o:Oper}{a:Act}{w:World}{rest:List (List Nat×Nat)}{qs:List Nat}(ho:ops[j]?=some o)(hg:Region.wanted o (yielded ops a.tmps)=true)
  (h:∀K:Act→World→Prop,(∀b w',C w'→mixTP P ops C Q rest qs k b w'→K b w')→Oper.wp P o a w K Q):wpOp P ops Q j (fun b' w'=>C w'∧mixTP P ops C Q rest qs k b' w') a w:=by
 unfold Go.wpOp;simp only[ho];rw [if_pos hg];exact .inl (h _ fun b w' h1 h2=>⟨h1,h2⟩)
theorem loudl{k:Nat}{o:Oper}{a:Act}{w:World}(ho:ops[k]?=some o)(hg:Region.wanted o (yielded ops a.tmps)=true)(h:Oper.wp P o a w (fun b' w'=>Q .normal b' w') Q):wpOp P ops Q k (fun b' w'=>Q .normal b' w') a w:=by
 unfold Go.wpOp;simp only[ho];rw [if_pos hg];exact .inl h
end
theorem wp_region_mixT{P:Program}{id:Nat}{Q:Exit→Act→World→Prop}{a:Act}{w:World}{l:List Oper}(segs:List (List Nat×Nat))(qs:List Nat)(k:Nat)(hm:P.follows .mixedOrders=true)(hs:Region.noSelect l.toArray=true)
 (hB:mixTB .any l.toArray qs k segs (Array.replicate l.toArray.size false)=true) (hN:mixTN qs segs=l.toArray.size) (hk:k<l.toArray.size) (hQ:∀c a d v w,Q (.panic c) (a.put d v) w→Q (.panic c) a w)
 (h:mixTP P l.toArray (fun w'=>∃x:BW w,w'=x.w) Q segs qs k a (w.drewN 1)):(Code.region id l.toArray true).wp P Q a w :=
wp_region_any hm (any_of_D (C:=fun w'=>∃x:BW w,w'=x.w) (k:=k) _ _ _ _ (by
 have:=mixT_any hs hQ qs k segs _ a _ (C:=fun w'=>∃x:BW w,w'=x.w) ⟨⟨w.drewN 1,below_drewN (Below.refl _ _) 1⟩,rfl⟩ (by simp only[List.size_toArray]at hk;simp [Array.getD,hk]) hB h;rw [hN]at this;exact this))
theorem BW.of{W V:World}(h:Below W.heap.size W V):∃x:BW W,V=x.w:=⟨⟨V,h⟩,rfl⟩
inductive Tr where
| done (qs:List Nat)
| last (qs:List Nat)
| one (qs:List Nat) (j:Nat) (t:Tr)
| two (qs:List Nat) (j1:Nat) (t1:Tr) (j2:Nat) (t2:Tr)
section
variable {P:Program} {md:Region.Mode} {ops:Array Oper} {Q:Exit→Act→World→Prop} {C:World→Prop}
def trP(P:Program)(ops:Array Oper)(C:World→Prop)(k:Nat)(Q:Exit→Act→World→Prop):Tr→Act→World→Prop
| .done qs,a,w=>wpQuiet P ops C (fun b=>Q .normal b w) (pickO ops qs) a
| .last qs,a,w=>wpQuiet P ops C (fun b=>wpOp P ops Q k (fun b' w'=>Q .normal b' w') b w) (pickO ops qs) a
| .one qs j t,a,w=>wpQuiet P ops C (fun b=>wpOp P ops Q j (fun b' w'=>C w'∧trP P ops C k Q t b' w') b w) (pickO ops qs) a
| .two qs j1 t1 j2 t2,a,w=>wpQuiet P ops C (fun b=>wpOp P ops Q j1 (fun b' w'=>C w'∧trP P ops C k Q t1 b' w') b w∧wpOp P ops Q j2 (fun b' w'=>C w'∧trP P ops C k Q t2 b' w') b w) (pickO ops qs) a
def trN:Tr→Nat
| .done qs=>qs.length
| .last qs=>qs.length+1
| .one qs _ t=>qs.length+(trN t+1)
| .two qs _ t1 _ _=>qs.length+(trN t1+1)
def trB(md:Region.Mode)(ops:Array Oper)(k:Nat):Tr→Array Bool→Bool
| .done qs,l=>match quietT md ops k qs l with
 | some l'=>(Region.ready md ops l').isEmpty
 | none=>false
| .last qs,l=>match quietT md ops k qs l with
 | some l'=>decide (Region.ready md ops l'=[k])&&(Region.ready md ops (l'.setIfInBounds k true)).isEmpty&&decide (k<l'.size)
 | none=>false
| .one qs j t,l=>match quietT md ops k qs l with
 | some l'=>decide (Region.ready md ops l'=[j])&&decide (j≠k)&&trB md ops k t (l'.setIfInBounds j true)
 | none=>false
| .two qs j1 t1 j2 t2,l=>match quietT md ops k qs l with
 | some l'=>decide (Region.ready md ops l'=[j1,j2])&&decide (j1≠k)&&decide (j2≠k)&&decide (trN t1=trN t2)&&trB md ops k t1 (l'.setIfInBounds j1 true)&&trB md ops k t2 (l'.setIfInBounds j2 true)
 | none=>false
theorem tr_any(hs:Region.noSelect ops=true)(hQ:∀c a d v w,Q (.panic c) (a.put d v) w→Q (.panic c) a w)(k:Nat):∀(t:Tr)(l:Array Bool)(a:Act)(w:World),C w→l.getD k true=false→trB md ops k t l=true →
 trP P ops C k Q t a w→anyD P md ops C k Q (trN t) l a w
| .done qs,l,a,w,hw,hk0,hb,h=>by
 unfold trB at hb
 split at hb
 ·next l' hl =>
  refine quietT_any hs hQ hw (f:=0) qs l l' a hl hk0 h fun b hk=>⟨by simpa using hb,hk⟩
 ·cases hb
| .last qs,l,a,w,hw,hk0,hb,h=>by
 unfold trB at hb
 split at hb
 ·next l' hl =>
  simp only[Bool.and_eq_true,decide_eq_true_eq]at hb;obtain⟨⟨h1,h2⟩,h3⟩:=hb;refine quietT_any hs hQ hw (f:=1) qs l l' a hl hk0 h fun b hk=>⟨fun h0=>(by rw [h1]at h0;cases h0),fun i hi=>?_⟩
  rw [h1]at hi;obtain rfl:=List.mem_singleton.1 hi;exact wpOp_mono (fun b' w' hbw=>⟨fun e=>(by simp [h3]at e),(by simpa using h2),hbw⟩) hk
 ·cases hb
| .one qs j t,l,a,w,hw,hk0,hb,h=>by
 unfold trB at hb
 split at hb
 ·next l' hl =>
  simp only[Bool.and_eq_true,decide_eq_true_eq]at hb;obtain⟨⟨h1,h2⟩,h3⟩:=hb;refine quietT_any hs hQ hw qs l l' a hl hk0 h fun b hk=>?_
  refine⟨fun h0=>(by rw [h1]at h0;cases h0),fun i hi=>?_⟩
  rw [h1]at hi;obtain rfl:=List.mem_singleton.1 hi;exact wpOp_mono (fun b' w' hbw=>⟨fun _=>hbw.1,tr_any hs hQ k t _ b' w' hbw.1 (by rw [getD_set_ne true h2];exact quietT_keep qs l l' hl hk0) h3 hbw.2⟩) hk
 ·cases hb
| .two qs j1 t1 j2 t2,l,a,w,hw,hk0,hb,h=>by
 unfold trB at hb
 split at hb
 ·next l' hl =>
  simp only[Bool.and_eq_true,decide_eq_true_eq]at hb;obtain⟨⟨⟨⟨⟨h1,h2⟩,h2'⟩,hn⟩,h3⟩,h4⟩:=hb;refine quietT_any hs hQ hw qs l l' a hl hk0 h fun b hk=>?_
  refine⟨fun h0=>(by rw [h1]at h0;cases h0),fun i hi=>?_⟩
  rw [h1]at hi;rcases List.mem_cons.1 hi with rfl|hi
  ·exact wpOp_mono (fun b' w' hbw=>⟨fun _=>hbw.1,tr_any hs hQ k t1 _ b' w' hbw.1 (by rw [getD_set_ne true h2];exact quietT_keep qs l l' hl hk0) h3 hbw.2⟩) hk.1
  ·obtain rfl:=List.mem_singleton.1 hi
   rw [hn];exact wpOp_mono (fun b' w' hbw=>⟨fun _=>hbw.1,tr_any hs hQ k t2 _ b' w' hbw.1 (by rw [getD_set_ne true h2'];exact quietT_keep qs l l' hl hk0) h4 hbw.2⟩) hk.2
 ·cases hb
theorem tr_one{q:List Nat}{j k:Nat}{t:Tr}{a:Act}{w:World}{os:List Oper}(ho:pickO ops q=os)
  (h:∀Kp:Act→Prop,(∀b,wpOp P ops Q j (fun b' w'=>C w'∧trP P ops C k Q t b' w') b w→Kp b)→wpQuiet P ops C Kp os a):trP P ops C k Q (.one q j t) a w:=by
 subst ho;exact h _ fun _ h=>h
theorem tr_two{q:List Nat}{j1 j2 k:Nat}{t1 t2:Tr}{a:Act}{w:World}{os:List Oper}(ho:pickO ops q=os)
  (h:∀Kp:Act→Prop,(∀b,wpOp P ops Q j1 (fun b' w'=>C w'∧trP P ops C k Q t1 b' w') b w→wpOp P ops Q j2 (fun b' w'=>C w'∧trP P ops C k Q t2 b' w') b w→Kp b)→wpQuiet P ops C Kp os a):trP P ops C k Q (.two q j1 t1 j2 t2) a w:=by
 subst ho;exact h _ fun _ h1 h2=>⟨h1,h2⟩
theorem tr_last{k:Nat}{qs:List Nat}{a:Act}{w:World}{os:List Oper}(ho:pickO ops qs=os)(h:∀Kp:Act→Prop,(∀b,wpOp P ops Q k (fun b' w'=>Q .normal b' w') b w→Kp b)→wpQuiet P ops C Kp os a):trP P ops C k Q (.last qs) a w:=by
 subst ho;exact h _ fun _ h=>h
theorem loudr{k j:Nat}{o:Oper}{a:Act}{w:World}{t:Tr}(ho:ops[j]?=some o)(hg:Region.wanted o (yielded ops a.tmps)=true)
  (h:∀K:Act→World→Prop,(∀b w',C w'→trP P ops C k Q t b w'→K b w')→Oper.wp P o a w K Q):wpOp P ops Q j (fun b' w'=>C w'∧trP P ops C k Q t b' w') a w:=by
 unfold Go.wpOp;simp only[ho];rw [if_pos hg];exact .inl (h _ fun b w' h1 h2=>⟨h1,h2⟩)
end
theorem wp_region_tr{P:Program}{id:Nat}{Q:Exit→Act→World→Prop}{a:Act}{w:World}{l:List Oper}(t:Tr)(k:Nat)(hm:P.follows .mixedOrders=true)(hs:Region.noSelect l.toArray=true)
 (hB:trB .any l.toArray k t (Array.replicate l.toArray.size false)=true) (hN:trN t=l.toArray.size) (hk:k<l.toArray.size) (hQ:∀c a d v w,Q (.panic c) (a.put d v) w→Q (.panic c) a w)
 (h:trP P l.toArray (fun w'=>∃x:BW w,w'=x.w) k Q t a (w.drewN 1)):(Code.region id l.toArray true).wp P Q a w :=
wp_region_any hm (any_of_D (C:=fun w'=>∃x:BW w,w'=x.w) (k:=k) _ _ _ _ (by
 have:=tr_any hs hQ k t _ a _ (C:=fun w'=>∃x:BW w,w'=x.w) ⟨⟨w.drewN 1,below_drewN (Below.refl _ _) 1⟩,rfl⟩ (by simp only[List.size_toArray]at hk;simp [Array.getD,hk]) hB h;rw [hN]at this;exact this))
structure GW(W:World)(p q:Nat) where
w:World
s:W.heap.size≤w.heap.size
b:∀k,k<W.heap.size→k≠p→k≠q→w.heap[k]?=W.heap[k]?
theorem GW.cell{W:World}{p q:Nat}(x:GW W p q){g o:Nat}(h:g<W.heap.size)(h1:g≠p)(h2:g≠q){u:Value}(hc:W.cell? ⟨g,o,none⟩=some u):x.w.cell? ⟨g,o,none⟩=some u:=(World.cell?_of_block (a:=⟨g,o,none⟩) (x.b g h h1 h2)).trans hc
theorem wp_region_mixG{P:Program}{id:Nat}{Q:Exit→Act→World→Prop}{a:Act}{w:World}{l:List Oper}(p q:Nat)(segs:List (List Nat×Nat))(last:List Nat)(hm:P.follows .mixedOrders=true)(hs:Region.noSelect l.toArray=true)
 (hB:mixB .any l.toArray segs last (Array.replicate l.toArray.size false)=true) (hN:mixN segs last=l.toArray.size) (hQ:∀c a d v w,Q (.panic c) (a.put d v) w→Q (.panic c) a w)
 (h:mixP P l.toArray (fun w'=>∃x:GW w p q,w'=x.w) Q segs last a (w.drewN 1)):(Code.region id l.toArray true).wp P Q a w :=
wp_region_any hm (any_of_C (C:=fun w'=>∃x:GW w p q,w'=x.w) _ _ _ _ (by
 have:=mix_any hs hQ segs last _ a _ (C:=fun w'=>∃x:GW w p q,w'=x.w) ⟨⟨w.drewN 1,Nat.le_refl _,fun k hk _ _=>rfl⟩,rfl⟩ hB h;rw [hN]at this;exact this))
theorem GW.set{W W':World}{p q o:Nat}(h:∃x:GW W p q,W'=x.w)(a:Value):∃x:GW W p q,W'.setCell ⟨q,o,none⟩ a=x.w:=by
 obtain⟨⟨W',s,bl⟩,rfl⟩:=h;exact⟨⟨_,Nat.le_trans s ((Below.refl q W').setCell (p:=⟨q,o,none⟩) (Nat.le_refl _) a).size,fun k hk h1 h2=>(Below.heap_setCell _ ⟨q,o,none⟩ a k h2).trans (bl k hk h1 h2)⟩,rfl⟩
theorem GW.bl{W W':World}{p q:Nat}(h:Below W.heap.size W W'):∃x:GW W p q,W'=x.w:=⟨⟨W',h.size,fun k hk _ _=>h.block k hk⟩,rfl⟩
end Go.Proofs.YtabhkakomececaaGreat
