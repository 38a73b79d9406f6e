import Derived.Test.YtncckdaflellnaaGreatQ3
import Derived.StillTail
import Derived.Test.YtncckdaflellnaaGreatQ13
import Derived.Test.YtncckdaflellnaaGreatQ18
import Derived.Test.YtncckdaflellnaaGreatQ10
import Derived.Deep.AppendLies
import Derived.Deep.DeepCutAuto
import Derived.Deep.RegionLaw
import Derived.Lib.OwnKind
set_option linter.all false
set_option maxRecDepth 100000
set_option maxHeartbeats 4000000
namespace Go.Proofs.YtncckdaflellnaaGreat
open Go.RowKit Go.Lib
theorem nil_value{P:Program}{o:Oper}{x:Operand}{ρ:Operand→Value}{w w':World}{n:Next}(ho:o.op=.nilCheck x)(hr:(execOp ρ o).run P w=.ok n w'):∃u,n=.value u:=by
 unfold execOp at hr;simp only[ho]at hr
 split at hr
 ·simp [go_sem]at hr
 ·simp [go_sem]at hr
 ·simp [go_sem]at hr
 ·split at hr
  ·simp [go_sem]at hr
  ·rw [Sem.run_bind]at hr
   generalize(program:Sem Program).run P w=A at hr;cases A with
   | halt a b=>simp [Result.andThen]at hr
   | ok pr w1 =>
    simp only[Result.andThen]at hr;rw [Sem.run_bind]at hr;generalize Sem.run P (nilAhead _ _ _ _) w1=B at hr;cases B with
    | halt a b=>simp [Result.andThen]at hr
    | ok c w2 =>
     simp only[Result.andThen]at hr
     split at hr
     ·simp [go_sem,Sem.run_bind,unsupported,Result.andThen]at hr
     ·simp [go_sem]at hr
      exact⟨_,hr.1.symm⟩
  ·simp [go_sem]at hr
   exact⟨_,hr.1.symm⟩
 ·simp only[Sem.run_pure]at hr
  cases hr
  exact⟨_,rfl⟩
def stillT(o:Oper):Bool:=stillB o||(match o.op with | .nilCheck _=>true|_=>false)
theorem stillT_value{P:Program}{o:Oper}(h:stillT o=true){ρ:Operand→Value}{w w':World}{n:Next}(hr:(execOp ρ o).run P w=.ok n w'):∃u,n=.value u:=by
 unfold stillT at h;rw [Bool.or_eq_true]at h;rcases h with h|h
 ·exact still_value h hr
 ·split at h
  ·rename_i x hx
   exact nil_value hx hr
  ·cases h
section
variable {P:Program} {md:Region.Mode} {ops:Array Oper} {Q:Exit→Act→World→Prop} {C:World→Prop}
def anyD(P:Program)(md:Region.Mode)(ops:Array Oper)(C:World→Prop)(k:Nat)(Q:Exit→Act→World→Prop):Nat→Array Bool→Act→World→Prop
| 0,l,a,w=>Region.ready md ops l=[]∧Q .normal a w
| f+1,l,a,w=>(Region.ready md ops l=[]→Q .normal a w)∧∀i∈Region.ready md ops l,wpOp P ops Q i (fun b w'=>((l.setIfInBounds i true).getD k true=false→C w')∧anyD P md ops C k Q f (l.setIfInBounds i true) b w') a w
theorem any_of_D{k:Nat}:∀(f:Nat)(l:Array Bool)(a:Act)(w:World),anyD P md ops C k Q f l a w→wpAny P md ops Q f l a w
| 0,_,_,_,h=>h
| f+1,l,a,w,h=>⟨h.1,fun i hi=>wpOp_mono (fun b w' hb=>any_of_D f _ b w' hb.2) (h.2 i hi)⟩
theorem anyD_first{i k:Nat}{oi:Oper}{v:Value}(hi:ops[i]?=some oi)(hs:Region.noSelect ops=true)(hQ:∀c a w,Q (.panic c) (a.put oi.dst v) w→Q (.panic c) a w)(hik:i≠k)(hki:Region.waitsFor md ops k i=true):∀(f:Nat)(l:Array Bool)(a:Act)(w:World),C w→l.getD k true=false →
  (∀j oj,ops[j]?=some oj→j≠i→l.getD j true=false→(∀e∈oj.after,Region.binds md e=true→e.on≠i)→oi.apart ops oj=true)→i∈Region.ready md ops l→YC P ops C oi v a →
  anyD P md ops C k Q f (l.setIfInBounds i true) (a.put oi.dst v) w→anyD P md ops C k Q (f+1) l a w:=by
 have hsel:=Region.noSelect_spec hs;intro f
 induction f with
 | zero =>
  intro l a w hw hk0 hfree hr hy H;refine⟨fun h=>(by rw [h]at hr;cases hr),fun j hj=>?_⟩
  by_cases e:j=i
  ·subst e;exact hy.wpOp hi hw ⟨fun _=>hw,H⟩
  ·have:=ready_mono hj e
   rw [H.1]at this;cases this
 | succ f ih =>
  intro l a w hw hk0 hfree hr hy H;refine⟨fun h=>(by rw [h]at hr;cases hr),fun j hj=>?_⟩
  by_cases e:j=i
  ·subst e;exact hy.wpOp hi hw ⟨fun _=>hw,H⟩
  ·obtain⟨hun,oj,hoj,hall⟩:=mem_ready.1 hj
   have hi0:=(mem_ready.1 hr).1
   have hno:∀x∈oj.after,Region.binds md x=true→x.on≠i:=fun x hx hb q=>by
    have h1:=hall x hx hb;rw [q]at h1;cases hl:l[i]? <;> simp [Array.getD_eq_getD_getElem?,hl]at hi0 h1
    rw [hi0]at h1;cases h1
   have hjk:j≠k:=by
    rintro rfl
    obtain⟨ok,ho,x,hx,hb,hxe⟩:=Region.waitsFor_spec hki;have:ok=oj:=Option.some.inj (ho.symm.trans hoj);subst this;exact hno x hx hb hxe
   have hk1:(l.setIfInBounds j true).getD k true=false:=by rw [getD_set_ne true hjk];exact hk0
   have hk2:((l.setIfInBounds i true).setIfInBounds j true).getD k true=false:=by rw [getD_set_ne true hjk,getD_set_ne true hik];exact hk0
   have hmix:=wpOp_behind (C:=C) hoj (hfree j oj hoj e hun hno) (fun cs b=>hsel i oi cs b hi) (fun cs b=>hsel j oj cs b hoj) hQ hy (H.2 j (ready_mono hj e));refine wpOp_mono (fun b w' hb=>⟨fun _=>hb.2.1 hk2,ih _ b w' (hb.2.1 hk2) hk1 (fun k ok hk hki hku hkn=>hfree k ok hk hki ?_ hkn) (ready_mono hr (Ne.symm e)) hb.1 ?_⟩) hmix
   ·by_cases q:j=k
    ·rw [←q];exact hun
    ·rwa [getD_set_ne true q]at hku
   ·rw [Array.setIfInBounds_comm _ _ e];exact hb.2.2
def quietT(md:Region.Mode)(ops:Array Oper)(k:Nat):List Nat→Array Bool→Option (Array Bool)
| [],l=>some l
| i::qs,l=>match ops[i]? with
 | none=>none
 | some o=>if(Region.ready md ops l).contains i&&Region.free md ops l i&&stillT o&&Region.waitsFor md ops k i&&decide (i≠k)then quietT md ops k qs (l.setIfInBounds i true)else none
theorem quietT_keep{k:Nat}:∀(qs:List Nat)(l l':Array Bool),quietT md ops k qs l=some l'→l.getD k true=false→l'.getD k true=false
| [],l,l',hb,h=>by
 simp only[quietT,Option.some.injEq]at hb;subst hb;exact h
| i::qs,l,l',hb,h=>by
 cases ho:ops[i]? with
 | none=>simp [quietT,ho]at hb
 | some o =>
  simp only[quietT,ho]at hb
  split at hb
  ·next hc =>
   simp only[Bool.and_eq_true,decide_eq_true_eq]at hc;exact quietT_keep qs _ l' hb (by rw [getD_set_ne true hc.2];exact h)
  ·cases hb
theorem quietT_any(hs:Region.noSelect ops=true)(hQ:∀c a d v w,Q (.panic c) (a.put d v) w→Q (.panic c) a w){w:World}(hw:C w){f k:Nat}{Kp:Act→Prop}:∀(qs:List Nat)(l l':Array Bool)(a:Act),quietT md ops k qs l=some l'→l.getD k true=false →
 wpQuiet P ops C Kp (pickO ops qs) a→(∀b,Kp b→anyD P md ops C k Q f l' b w)→anyD P md ops C k Q (qs.length+f) l a w
| [],l,l',a,hb,hk0,h,hk=>by
 simp only[quietT,Option.some.injEq]at hb;subst hb;rw [List.length_nil,Nat.zero_add];exact hk a h
| i::qs,l,l',a,hb,hk0,h,hk=>by
 cases ho:ops[i]? with
 | none=>simp [quietT,ho]at hb
 | some o =>
  simp only[quietT,ho]at hb
  split at hb
  ·next hc =>
   simp only[Bool.and_eq_true,decide_eq_true_eq]at hc;obtain⟨⟨⟨⟨hc1,hc2⟩,hc3⟩,hc4⟩,hc5⟩:=hc;rw [show pickO ops (i::qs)=o::pickO ops qs by simp [pickO,ho]]at h
   have hv:∃v,YC P ops C o v a∧wpQuiet P ops C Kp (pickO ops qs) (a.put o.dst v):=by
    unfold wpQuiet at h
    by_cases hg:Region.wanted o (yielded ops a.tmps)=true
    ·rw [if_pos hg]at h
     obtain⟨v,h1,h2⟩:=h;refine⟨v,.inl ⟨hg,fun x hx=>?_⟩,h2⟩;have h3:=h1 x hx;unfold Oper.quietAt at h3;cases hr:(execOp a.eval o).run P x with
     | halt y x'=>rw [hr]at h3;simp only[Oper.quietUpon]at h3
     | ok n x' =>
      obtain⟨u,rfl⟩:=stillT_value hc3 hr;rw [hr]at h3;simp only[Oper.quietUpon]at h3;obtain⟨rfl,rfl⟩:=h3;rfl
    ·rw [if_neg hg]at h
     exact⟨undef,.inr ⟨by simpa using hg,rfl⟩,h⟩
   obtain⟨v,hy,h2⟩:=hv;have:=anyD_first ho hs (fun c a w=>hQ c a _ _ w) hc5 hc4 (qs.length+f) l a w hw hk0 (Region.free_spec ho hc2) (by simpa using hc1) hy (quietT_any hs hQ hw qs _ l' _ hb (by rw [getD_set_ne true hc5];exact hk0) h2 hk)
   rwa [show(i::qs).length+f=qs.length+f+1 by simp;omega]
  ·cases hb
def mixTP(P:Program)(ops:Array Oper)(C:World→Prop)(Q:Exit→Act→World→Prop):List (List Nat×Nat)→List Nat→Nat→Act→World→Prop
| [],qs,k,a,w=>wpQuiet P ops C (fun b=>wpOp P ops Q k (fun b' w'=>Q .normal b' w') b w) (pickO ops qs) a
| (q,j)::rest,qs,k,a,w=>wpQuiet P ops C (fun b=>wpOp P ops Q j (fun b' w'=>C w'∧mixTP P ops C Q rest qs k b' w') b w) (pickO ops q) a
def mixTB(md:Region.Mode)(ops:Array Oper)(qs:List Nat)(k:Nat):List (List Nat×Nat)→Array Bool→Bool
| [],l=>match quietT md ops k qs l with
 | some l'=>decide (Region.ready md ops l'=[k])&&(Region.ready md ops (l'.setIfInBounds k true)).isEmpty&&decide (k<l'.size)
 | none=>false
| (q,j)::rest,l=>match quietT md ops k q l with
 | some l'=>decide (Region.ready md ops l'=[j])&&decide (j≠k)&&mixTB md ops qs k rest (l'.setIfInBounds j true)
 | none=>false
def mixTN(qs:List Nat):List (List Nat×Nat)→Nat
| []=>qs.length+1
| (q,_)::rest=>q.length+(mixTN qs rest+1)
theorem mixT_any(hs:Region.noSelect ops=true)(hQ:∀c a d v w,Q (.panic c) (a.put d v) w→Q (.panic c) a w)(qs:List Nat)(k:Nat):∀(segs:List (List Nat×Nat))(l:Array Bool)(a:Act)(w:World),C w→l.getD k true=false→mixTB md ops qs k segs l=true →
 mixTP P ops C Q segs qs k a w→anyD P md ops C k Q (mixTN qs segs) l a w
| [],l,a,w,hw,hk0,hb,h=>by
 unfold mixTB at hb
 split at hb
 ·next l' hl =>
  simp only[Bool.and_eq_true,decide_eq_true_eq]at hb;obtain⟨⟨h1,h2⟩,h3⟩:=hb;refine quietT_any hs hQ hw (f:=1) qs l l' a hl hk0 h fun b hk=>⟨fun h0=>(by rw [h1]at h0;cases h0),fun i hi=>?_⟩
  rw [h1]at hi;obtain rfl:=List.mem_singleton.1 hi;exact wpOp_mono (fun b' w' hbw=>⟨fun e=>(by simp [h3]at e),(by simpa using h2),hbw⟩) hk
 ·cases hb
| (q,j)::rest,l,a,w,hw,hk0,hb,h=>by
 unfold mixTB at hb
 split at hb
 ·next l' hl =>
  simp only[Bool.and_eq_true,decide_eq_true_eq]at hb;obtain⟨⟨h1,h2⟩,h3⟩:=hb;refine quietT_any hs hQ hw q l l' a hl hk0 h fun b hk=>?_
  refine⟨fun h0=>(by rw [h1]at h0;cases h0),fun i hi=>?_⟩
  rw [h1]at hi;obtain rfl:=List.mem_singleton.1 hi;exact wpOp_mono (fun b' w' hbw=>⟨fun _=>hbw.1,mixT_any hs hQ qs k rest _ b' w' hbw.1 (by rw [getD_set_ne true h2];exact quietT_keep q l l' hl hk0) h3 hbw.2⟩) hk
 ·cases hb
theorem mixt_cons{q:List Nat}{j k:Nat}{rest:List (List Nat×Nat)}{qs:List Nat}{a:Act}{w:World}{os:List Oper}(ho:pickO ops q=os)
  (h:∀Kp:Act→Prop,(∀b,wpOp P ops Q j (fun b' w'=>C w'∧mixTP P ops C Q rest qs k b' w') b w→Kp b)→wpQuiet P ops C Kp os a):mixTP P ops C Q ((q,j)::rest) qs k a w:=by
 subst ho;exact h _ fun _ h=>h
theorem mixt_last{k:Nat}{qs:List Nat}{a:Act}{w:World}{os:List Oper}(ho:pickO ops qs=os)(h:∀Kp:Act→Prop,(∀b,wpOp P ops Q k (fun b' w'=>Q .normal b' w') b w→Kp b)→wpQuiet P ops C Kp os a):mixTP P ops C Q [] qs k a w:=by
 subst ho;exact h _ fun _ h=>h
theorem loudt{k j:Nat}{o:Oper}{a:Act}{w:World}{rest:List (List Nat×Nat)}{qs:List Nat}(ho:ops[j]?=some o)(hg:Region.wanted o (yielded ops a.tmps)=true)
  (h:∀K:Act→World→Prop,(∀b w',C w'→mixTP P ops C Q rest qs k b w'→K b w')→Oper.wp P o a w K Q):wpOp P ops Q j (fun b' w'=>C w'∧mixTP P ops C Q rest qs k b' w') a w:=by
 unfold Go.wpOp;simp only[ho];rw [if_pos hg];exact .inl (h _ fun b w' h1 h2=>⟨h1,h2⟩)
theorem loudl{k:Nat}{o:Oper}{a:Act}{w:World}(ho:ops[k]?=some o)(hg:Region.wanted o (yielded ops a.tmps)=true)(h:Oper.wp P o a w (fun b' w'=>Q .normal b' w') Q):wpOp P ops Q k (fun b' w'=>Q .normal b' w') a w:=by
 unfold Go.wpOp;simp only[ho];rw [if_pos hg];exact .inl h
end
theorem wp_region_mixT{P:Program}{id:Nat}{Q:Exit→Act→World→Prop}{a:Act}{w:World}{l:List Oper}(segs:List (List Nat×Nat))(qs:List Nat)(k:Nat)(hm:P.follows .mixedOrders=true)(hs:Region.noSelect l.toArray=true)
 (hB:mixTB .any l.toArray qs k segs (Array.replicate l.toArray.size false)=true) (hN:mixTN qs segs=l.toArray.size) (hk:k<l.toArray.size) (hQ:∀c a d v w,Q (.panic c) (a.put d v) w→Q (.panic c) a w)
 (h:mixTP P l.toArray (fun w'=>∃x:BW w,w'=x.w) Q segs qs k a (w.drewN 1)):(Code.region id l.toArray true).wp P Q a w :=
wp_region_any hm (any_of_D (C:=fun w'=>∃x:BW w,w'=x.w) (k:=k) _ _ _ _ (by
 have:=mixT_any hs hQ qs k segs _ a _ (C:=fun w'=>∃x:BW w,w'=x.w) ⟨⟨w.drewN 1,below_drewN (Below.refl _ _) 1⟩,rfl⟩ (by simp only[List.size_toArray]at hk;simp [Array.getD,hk]) hB h;rw [hN]at this;exact this))
theorem BW.of{W V:World}(h:Below W.heap.size W V):∃x:BW W,V=x.w:=⟨⟨V,h⟩,rfl⟩
end Go.Proofs.YtncckdaflellnaaGreat
namespace Go.Proofs.YtncckdaflellnaaGreat.Res
open Go.RowKit Go.Lib Utf Nam Lat Kin Unp Rel
section
variable {base B:Nat} {lv tv tab:Value} {rh:TH} {rnv rpv:Value} {w0:World}
def tallyS(s:BS)(h:TH)(f:Ft):(Int×Int)×BS:=((0,0),if h.kind=9 then s else { s with count:=wrap64 (s.count+1) })
theorem isF_tally:IsF 164:=by
 intro args w;unfold callFunc;simp [go_sem,Tryz.func164];rfl
theorem tally_calls(G:TH→Ft→Prop):OpQ G (BF base B lv tv tab rh rnv rpv) w0 164 (.pointer (some ⟨B,0,none⟩)) tallyS:=by
 intro s h f nv' pv' w hI hb hy hg R hR;obtain⟨An,cn,rfl,-,-⟩:=hy.n.op;obtain⟨Ap,cp,rfl,-⟩:=hy.p.sl;have m0:=Hq.nil hI;obtain⟨V1,e1,m1,z1⟩:=m0.new (.cells (tyL h (.slice An h.names.length cn) (.slice Ap f.len cp)).toArray 29);obtain⟨V,e2,n,z2⟩:=m1.new (.cells #[.int .i64 0,.int .i64 0] 34);clear m0 m1 z1 z2;go_enter Tryz.func164,Tryz.ntmps164
 go_upto_region 1 with fail
 clear e1 e2;have t0:=n.c 1 0 rfl rfl;have b13:=n.bc 13 rfl;have bf:=n.bf 13
 by_cases hk:h.kind=9
 ·have e:tallyS s h f=((0,0),s):=by unfold tallyS;rw [if_pos hk]
  rw [e]at hR;have q0:(h.kind != 9)=false:=by simpa using hk
  clear e hk;go_upto_region 3 with fail
  clear t0 b13 bf;have y0:=n.c 0 0 rfl rfl;have yf0:=n.f 0 0 rfl;have y1:=n.c 0 1 rfl rfl;have yf1:=n.f 0 1 rfl;obtain⟨VE,eE,nE,-⟩:=n.put (j:=0) rfl [(0,.int .i64 0),(1,.int .i64 0)];simp only[stL]at eE;simp only[stA,List.setIfInBounds_toArray,List.set_cons_succ,List.set_cons_zero]at nE;have w0_:=nE.c 0 0 rfl rfl;have w1_:=nE.c 0 1 rfl rfl;have fin:=Lib.hid (hR.out _ nE.fin);clear nE n hR;go_wp2_with fail
  first|refine bodyPost_ret ?_ rfl fin.out|refine bodyPost_end ?_ rfl fin.out
  simp [results,Tryz.results164,go_sem,w0_,w1_]
 ·have e:tallyS s h f=((0,0),{ s with count:=wrap64 (s.count+1) }):=by unfold tallyS;rw [if_neg hk]
  rw [e]at hR;have q0:(h.kind != 9)=true:=by simpa using hk
  clear e hk;obtain⟨V2,e2,n2⟩:∃V2,V.setCell ⟨B,13,none⟩ (.int .i64 (wrap64 (s.count+1)))=V2∧Hq (BF base B lv tv tab rh rnv rpv) s { s with count:=wrap64 (s.count+1) } w V2 [(V1.heap.size,.cells #[.int .i64 0,.int .i64 0] 34),(w.heap.size,.cells (tyL h (.slice An h.names.length cn) (.slice Ap f.len cp)).toArray 29)]:=⟨_,rfl,n.cellB 13 _ rfl rfl rfl rfl rfl rfl⟩;clear n;have n:=n2;clear n2;go_upto_region 3 with fail
  clear t0 b13 bf e2;have y0:=n.c 0 0 rfl rfl;have yf0:=n.f 0 0 rfl;have y1:=n.c 0 1 rfl rfl;have yf1:=n.f 0 1 rfl;obtain⟨VE,eE,nE,-⟩:=n.put (j:=0) rfl [(0,.int .i64 0),(1,.int .i64 0)];simp only[stL]at eE;simp only[stA,List.setIfInBounds_toArray,List.set_cons_succ,List.set_cons_zero]at nE;have w0_:=nE.c 0 0 rfl rfl;have w1_:=nE.c 0 1 rfl rfl;have fin:=Lib.hid (hR.out _ nE.fin);clear nE n hR;go_wp2_with fail
  first|refine bodyPost_ret ?_ rfl fin.out|refine bodyPost_end ?_ rfl fin.out
  simp [results,Tryz.results164,go_sem,w0_,w1_]
noncomputable def kindsS(s:BS)(h:TH)(f:Ft):(Int×Int)×BS :=
if(wcS h f).1≠0 then(((wcS h f).1,(wcS h f).2.1),s)else
if 512<wrap64 (s.total+cW f 1)then((8,h.at_),{ s with total:=wrap64 (s.total+cW f 1) })else((0,0),{ s with total:=wrap64 (s.total+cW f 1) })
theorem isF_kinds:IsF 110:=by
 intro args w;unfold callFunc;simp [go_sem,Tryz.func110];rfl
theorem kinds_calls(hlow:w0.heap.size≤base):OpQ GoodT (BF base B lv tv tab rh rnv rpv) w0 110 (.pointer (some ⟨B,0,none⟩)) kindsS:=by
 intro s h f nv' pv' w hI hb hy hg R hR;obtain⟨An,cn,rfl,-,-⟩:=hy.n.op;obtain⟨Ap,cp,rfl,-⟩:=hy.p.sl;have m0:=Hq.nil hI;obtain⟨V1,e1,m1,z1⟩:=m0.new (.cells (tyL h (.slice An h.names.length cn) (.slice Ap f.len cp)).toArray 29);obtain⟨V,e2,n,z2⟩:=m1.new (.cells #[.int .i64 0,.int .i64 0] 34);clear m0 m1 z1 z2;go_enter Tryz.func110,Tryz.ntmps110
 go_upto_region 1 with fail
 clear e1 e2;obtain⟨gh,hfl,hga⟩:=hg;have hbV:=hb.trans (n.below hb.size (bF_low base B lv tv tab rh rnv rpv hlow s));have rT:=n.rg 1 rfl;have t1:=n.c 1 1 rfl rfl;go_wp2_with (refine wpList_load_g (by rfl) 29 _ rfl w.heap.size (0) rfl _ _ rT Tryz.underlying29 rfl (by kernel_rfl) ?_;go_simp)
 refine right15_calls f h _ _ V gh hfl hga (hy.below hbV) _ (Lib.hid fun W1 m1=>?_);replace n:=n.bl m1;clear m1 rT hbV t1;unfold kindsS at hR;generalize hwc:wcS h f=a at *;obtain⟨a0,a1,a2⟩:=a;simp only at hR ⊢;obtain⟨V2,e2,n,z2⟩:=n.new (.cells #[.int .i64 a0,.int .i64 a1] 34);go_upto_region 2 with fail
 clear e2 z2;have a_0:=n.c 0 0 rfl rfl;have a_1:=n.c 0 1 rfl rfl
 by_cases h0:a0=0
 ·subst h0
  rw [if_neg (by decide)]at hR;go_upto_region 4 with fail
  clear a_0 a_1;replace n:=n.tail;have hbV:=hb.trans (n.below hb.size (bF_low base B lv tv tab rh rnv rpv hlow s));have b12:=fun y:BW V2=>y.cell n.bl_ (n.bc 12 rfl)
  have rT:=fun(W:World) (e:∃y:BW V2,W=y.w)=>(show W.rangeAt w.heap.size 0 (tyL h (.slice An h.names.length cn) (.slice Ap f.len cp))from by
   obtain⟨y,rfl⟩:=e;exact(n.bl y.b).rg 1 rfl)
  refine wp_region_mixT [([0,1,2,3,4],5),([6],7)] [8] 9 (by kernel_rfl) (by kernel_rfl) (by kernel_rfl) (by kernel_rfl) (by decide) (fun _ _ d _ _ h=>by cases d<;>exact h) ?_
  have gW:Below V2.heap.size V2 (V2.drewN 1):=below_drewN (Below.refl _ _) 1;refine mixt_cons (os:=[_,_,_,_,_]) (by simp only[pickO,List.filterMap_cons,List.filterMap_nil,List.getElem?_toArray,List.getElem?_cons_succ,List.getElem?_cons_zero];rfl) (fun Kp hKp=>?_)
  iterate 4 (go_big_quiet_step (exact rfl))
  refine wpQuiet_load rfl 29 _ rfl (w.heap.size) 0 rfl _ _ rT Tryz.underlying29 rfl (by kernel_rfl) ?_;go_simp;refine wpQuiet_nil ?_;refine hKp _ ?_;clear hKp;refine loudt (by rfl) (by kernel_rfl) (fun K2 hK2=>?_);go_simp;refine count_calls f h _ _ _ hfl hga (hy.below (hbV.trans (gW.mono hbV.size))) _ (Lib.hid fun W3 m3=>?_);have gL:=gW.trans (m3.mono gW.size);refine hK2 _ _ (BW.of gL) ?_;clear hK2;refine mixt_cons (os:=[_]) (by simp only[pickO,List.filterMap_cons,List.filterMap_nil,List.getElem?_toArray,List.getElem?_cons_succ,List.getElem?_cons_zero];rfl) (fun Kp hKp=>?_)
  repeat (go_big_quiet_step (exact rfl))
  refine wpQuiet_nil ?_;refine hKp _ ?_;clear hKp;refine loudt (by rfl) (by kernel_rfl) (fun K3 hK3=>?_);go_simp;refine hK3 _ _ (BW.of gL) ?_;clear hK3;refine mixt_last (os:=[_]) (by simp only[pickO,List.filterMap_cons,List.filterMap_nil,List.getElem?_toArray,List.getElem?_cons_succ,List.getElem?_cons_zero];rfl) (fun Kp hKp=>?_)
  repeat (go_big_quiet_step (exact rfl))
  refine wpQuiet_nil ?_;refine hKp _ ?_;clear hKp;replace n:=n.bl gL;have bf:=n.bf 12;have b12':=n.bc 12 rfl;obtain⟨V4,e4,n⟩:∃V4,W3.setCell ⟨B,12,none⟩ (.int .i64 (wrap64 (s.total+cW f 1)))=V4∧Hq (BF base B lv tv tab rh rnv rpv) s { s with total:=wrap64 (s.total+cW f 1) } w V4 [(V1.heap.size,.cells #[.int .i64 0,.int .i64 0] 34),(w.heap.size,.cells (tyL h (.slice An h.names.length cn) (.slice Ap f.len cp)).toArray 29)]:=⟨_,rfl,n.cellB 12 _ rfl rfl rfl rfl rfl rfl⟩;refine loudl (by rfl) (by kernel_rfl) ?_;go_simp;clear e4 bf b12' gL m3 gW rT b12 hbV hwc;have t1:=n.c 1 1 rfl rfl;have b12:=n.bc 12 rfl;generalize wrap64 (s.total+cW f 1)=t at *
  by_cases h5:512<t
  ·rw [if_pos h5]at hR
   go_upto_region 6 with fail
   clear b12;have y0:=n.c 0 0 rfl rfl;have yf0:=n.f 0 0 rfl;have y1:=n.c 0 1 rfl rfl;have yf1:=n.f 0 1 rfl;obtain⟨VE,eE,nE,-⟩:=n.put (j:=0) rfl [(0,.int .i64 8),(1,.int .i64 h.at_)];simp only[stL]at eE;simp only[stA,List.setIfInBounds_toArray,List.set_cons_succ,List.set_cons_zero]at nE;have w0_:=nE.c 0 0 rfl rfl;have w1_:=nE.c 0 1 rfl rfl;have fin:=Lib.hid (hR.out _ nE.fin);clear nE n hR;go_wp2_with fail
   first|refine bodyPost_ret ?_ rfl fin.out|refine bodyPost_end ?_ rfl fin.out
   simp [results,Tryz.results110,go_sem,w0_,w1_]
  ·rw [if_neg h5]at hR
   go_upto_region 7 with fail
   clear b12;have y0:=n.c 0 0 rfl rfl;have yf0:=n.f 0 0 rfl;have y1:=n.c 0 1 rfl rfl;have yf1:=n.f 0 1 rfl;obtain⟨VE,eE,nE,-⟩:=n.put (j:=0) rfl [(0,.int .i64 0),(1,.int .i64 0)];simp only[stL]at eE;simp only[stA,List.setIfInBounds_toArray,List.set_cons_succ,List.set_cons_zero]at nE;have w0_:=nE.c 0 0 rfl rfl;have w1_:=nE.c 0 1 rfl rfl;have fin:=Lib.hid (hR.out _ nE.fin);clear nE n hR;go_wp2_with fail
   first|refine bodyPost_ret ?_ rfl fin.out|refine bodyPost_end ?_ rfl fin.out
   simp [results,Tryz.results110,go_sem,w0_,w1_]
 ·rw [if_pos h0]at hR
  have q0:(a0 != 0)=true:=by simpa using h0
  clear h0 hwc;go_upto_region 3 with fail
  have y0:=n.c 1 0 rfl rfl;have yf0:=n.f 1 0 rfl;have y1:=n.c 1 1 rfl rfl;have yf1:=n.f 1 1 rfl;obtain⟨VE,eE,nE,-⟩:=n.put (j:=1) rfl [(0,.int .i64 a0),(1,.int .i64 a1)];simp only[stL]at eE;simp only[stA,List.setIfInBounds_toArray,List.set_cons_succ,List.set_cons_zero]at nE;have w0_:=nE.c 1 0 rfl rfl;have w1_:=nE.c 1 1 rfl rfl;have fin:=Lib.hid (hR.out _ nE.fin);clear nE n hR;go_wp2_with fail
  first|refine bodyPost_ret ?_ rfl fin.out|refine bodyPost_end ?_ rfl fin.out
  simp [results,Tryz.results110,go_sem,w0_,w1_]
end
end Go.Proofs.YtncckdaflellnaaGreat.Res
namespace Go.Proofs.YtncckdaflellnaaGreat.Nam
open Go.RowKit Go.Lib Utf
def fv(xs ds:List ByteArray):List Value:=ds.map fun d=>.int .i64 (findS xs d)
theorem fv_len(xs ds:List ByteArray):(fv xs ds).length=ds.length:=by simp [fv]
def RdT(w:World)(v:Value)(xs:List ByteArray):Prop:=∃p v1 v2,v=.pointer (some ⟨p,0,none⟩)∧p<w.heap.size∧w.cell? ⟨p,0,none⟩=some v1∧w.cell? ⟨p,1,none⟩=some v2∧RdS w v1 (sortS xs)∧RdAt w v2 1 (fv xs (sortS xs))∧(v1=.slice none 0 0∨∃g o n c,v1=.slice (some ⟨g,o,none⟩) n c)
theorem RdT.below{w w':World}{v:Value}{xs:List ByteArray}(h:RdT w v xs)(hb:Below w.heap.size w w'):RdT w' v xs:=by
 obtain⟨p,v1,v2,rfl,hp,h1,h2,h3,h4,h5⟩:=h;exact⟨p,v1,v2,rfl,Nat.lt_of_lt_of_le hp hb.size,(hb.cell (p:=⟨p,0,none⟩) hp).trans h1,(hb.cell (p:=⟨p,1,none⟩) hp).trans h2,h3.below hb,h4.below hb,h5⟩
def RdTN(w:World)(v:Value)(xs:List ByteArray)(base:Nat):Prop:=∃p v1 v2,v=.pointer (some ⟨p,0,none⟩)∧base≤p∧p<w.heap.size∧w.cell? ⟨p,0,none⟩=some v1∧w.cell? ⟨p,1,none⟩=some v2∧w.ownsRow base 9 1 v1 (sortS xs).length (sv (sortS xs))∧w.ownsRow base 3 1 v2 (sortS xs).length (fv xs (sortS xs))
def But(t B:Nat)(w w':World):Prop:=∀k,k<B→k≠t→w'.heap[k]?=w.heap[k]?
theorem But.refl(t B:Nat)(w:World):But t B w w:=fun _ _ _=>rfl
theorem But.below{t B:Nat}{w w' w'':World}(h:But t B w w')(hb:Below B w' w''):But t B w w'':=fun k hk ht=>(hb.block k hk).trans (h k hk ht)
theorem But.set{t B:Nat}{w w':World}(h:But t B w w')(o:Nat)(v:Value):But t B w (w'.setCell ⟨t,o,none⟩ v):=fun k hk ht=>by
 rw [Below.heap_setCell _ _ _ _ (by simp only;omega)];exact h k hk ht
theorem But.cell{t B:Nat}{w w':World}(h:But t B w w'){g o:Nat}(hg:g<B)(ht:g≠t):w'.cell? ⟨g,o,none⟩=w.cell? ⟨g,o,none⟩:=World.cell?_of_block (a:=⟨g,o,none⟩) (h g hg ht)
theorem own_ne'{w:World}{B B':Nat}{e e':TypeId}{size size' n n':Nat}{v v':Value}{xs xs':List Value}(h:w.ownsRow B e size v n xs)(h':w.ownsRow B' e' size' v' n' xs')(hne:e≠e'):v.ownBlock=none∨v.ownBlock≠v'.ownBlock:=by
 cases hv:v.ownBlock with
 | none=>exact .inl rfl
 | some g =>
  refine .inr fun e1=>?_
  obtain⟨c,fz,h1⟩:=ownsRow_kind h g hv;obtain⟨c',fz',h2⟩:=ownsRow_kind h' g e1.symm;rw [h1]at h2;cases h2
  exact hne rfl
theorem own_len{w:World}{base:Nat}{e:TypeId}{n:Nat}{v:Value}{xs:List Value}(h:w.ownsRow base e 1 v n xs):∃A c,v=.slice A n c:=by
 obtain⟨-,⟨rfl,rfl⟩|⟨g,cap,cur,rfl,-⟩⟩:=h<;>exact⟨_,_,rfl⟩
theorem own_nils{w:World}{base:Nat}{e:TypeId}{n:Nat}{v:Value}{xs:List Value}(h:w.ownsRow base e 1 v n xs):v=.slice none 0 0∨∃g o n c,v=.slice (some ⟨g,o,none⟩) n c:=by
 obtain⟨-,⟨rfl,rfl⟩|⟨g,cap,cur,rfl,-⟩⟩:=h
 ·exact .inl rfl
 ·exact .inr ⟨g,0,n,cap,rfl⟩
theorem own_lt{w:World}{base t:Nat}{e:TypeId}{n:Nat}{v:Value}{xs:List Value}(h:w.ownsRow base e 1 v n xs)(ht:t<base):some t≠v.ownBlock:=fun e1=>by
 have:=(h.lt t e1.symm).1;omega
theorem grown_drew{w w':World}{row:Option Nat}(h:w.drew.grownBy w' row):w.grownBy w' row:=⟨h.os,h.tape,h.output,h.size,h.block⟩
structure Tb(t B:Nat)(w1:World)(n1:Nat)(l1:List Value)(v1:Value)(n2:Nat)(l2:List Value)(v2:Value)(wr:World):Prop where
but:But t B w1 wr
size:B≤wr.heap.size
tlt:t<B
c0:wr.cell? ⟨t,0,none⟩=some v1
c1:wr.cell? ⟨t,1,none⟩=some v2
f0:wr.frozen? ⟨t,0,none⟩=false
f1:wr.frozen? ⟨t,1,none⟩=false
o1:wr.ownsRow B 9 1 v1 n1 l1
o2:wr.ownsRow B 3 1 v2 n2 l2
theorem Tb.drewN{t B:Nat}{w1 wr:World}{n1 n2:Nat}{l1 l2:List Value}{v1 v2:Value}(h:Tb t B w1 n1 l1 v1 n2 l2 v2 wr)(n:Nat):Tb t B w1 n1 l1 v1 n2 l2 v2 (wr.drewN n) :=
have b:=below_drewN (Below.refl wr.heap.size wr) n
⟨h.but.below (b.mono h.size),h.size,h.tlt,h.c0,h.c1,h.f0,h.f1,own_below h.o1 b,own_below h.o2 b⟩
theorem grown_c{W w2:World}{row:Option Nat}(h:W.grownBy w2 row){g x:Nat}{u:Value}(hg:g<W.heap.size)(hr:some g≠row)(hc:W.cell? ⟨g,x,none⟩=some u):w2.cell? ⟨g,x,none⟩=some u:=(h.cell_far ⟨g,x,none⟩ hg hr).trans hc
theorem grown_f{W w2:World}{row:Option Nat}(h:W.grownBy w2 row){g x:Nat}{u:Bool}(hg:g<W.heap.size)(hr:some g≠row)(hc:W.frozen? ⟨g,x,none⟩=u):w2.frozen? ⟨g,x,none⟩=u:=(h.frozen_far ⟨g,x,none⟩ hg hr).trans hc
theorem Tb.put1{t B:Nat}{w1 W w2:World}{n1 n2 n':Nat}{l1 l2 l':List Value}{v1 v2 v':Value}(T:Tb t B w1 n1 l1 v1 n2 l2 v2 W)(hg:W.grownBy w2 v1.ownBlock)(own:w2.ownsRow B 9 1 v' n' l') :
  Tb t B w1 n' l' v' n2 l2 v2 (w2.setCell ⟨t,0,none⟩ v')∧∀w,Below t w W→Below t w (w2.setCell ⟨t,0,none⟩ v'):=by
 have ht:t<W.heap.size:=Nat.lt_of_lt_of_le T.tlt T.size;have r:=own_lt T.o1 T.tlt;have b:Below B W w2:=(Below.refl _ _).grown hg T.size fun k hk=>(T.o1.lt k hk).1
 have c0:=grown_c hg ht r T.c0;refine⟨⟨(T.but.below b).set 0 _,by simpa [World.setCell]using Nat.le_trans T.size b.size,T.tlt,World.cell?_setCell_same _ _ _ c0,?_,set_keepF (grown_f hg ht r T.f0),set_keepF (grown_f hg ht r T.f1),ownsRow_setCell_below own T.tlt _,ownsRow_setCell_below (T.o2.kept hg (own_ne' T.o2 T.o1 (by decide))) T.tlt _⟩,fun w h=>(h.trans (b.mono (Nat.le_of_lt T.tlt))).setCell (p:=⟨t,0,none⟩) (Nat.le_refl _) _⟩;rw [World.cell?_setCell_other _ _ _ _ (by intro e;simp at e)];exact grown_c hg ht r T.c1
theorem Tb.put2{t B:Nat}{w1 W w2:World}{n1 n2 n':Nat}{l1 l2 l':List Value}{v1 v2 v':Value}(T:Tb t B w1 n1 l1 v1 n2 l2 v2 W)(hg:W.grownBy w2 v2.ownBlock)(own:w2.ownsRow B 3 1 v' n' l') :
  Tb t B w1 n1 l1 v1 n' l' v' (w2.setCell ⟨t,1,none⟩ v')∧∀w,Below t w W→Below t w (w2.setCell ⟨t,1,none⟩ v'):=by
 have ht:t<W.heap.size:=Nat.lt_of_lt_of_le T.tlt T.size;have r:=own_lt T.o2 T.tlt;have b:Below B W w2:=(Below.refl _ _).grown hg T.size fun k hk=>(T.o2.lt k hk).1
 have c1:=grown_c hg ht r T.c1;refine⟨⟨(T.but.below b).set 1 _,by simpa [World.setCell]using Nat.le_trans T.size b.size,T.tlt,?_,World.cell?_setCell_same _ _ _ c1,set_keepF (grown_f hg ht r T.f0),set_keepF (grown_f hg ht r T.f1),ownsRow_setCell_below (T.o1.kept hg (own_ne' T.o1 T.o2 (by decide))) T.tlt _,ownsRow_setCell_below own T.tlt _⟩,fun w h=>(h.trans (b.mono (Nat.le_of_lt T.tlt))).setCell (p:=⟨t,1,none⟩) (Nat.le_refl _) _⟩;rw [World.cell?_setCell_other _ _ _ _ (by intro e;simp at e)];exact grown_c hg ht r T.c0
theorem RdTN.rd{w:World}{v:Value}{xs:List ByteArray}{base:Nat}(h:RdTN w v xs base):RdT w v xs:=by
 obtain⟨p,v1,v2,rfl,-,hp,h1,h2,h3,h4⟩:=h;exact⟨p,v1,v2,rfl,hp,h1,h2,RdS.of_own h3,RdAt.of_own h4,own_nils h3⟩
theorem RdTN.below{w w':World}{v:Value}{xs:List ByteArray}{base:Nat}(h:RdTN w v xs base)(hb:Below w.heap.size w w'):RdTN w' v xs base:=by
 obtain⟨p,v1,v2,rfl,hq,hp,h1,h2,h3,h4⟩:=h;exact⟨p,v1,v2,rfl,hq,Nat.lt_of_lt_of_le hp hb.size,(hb.cell (p:=⟨p,0,none⟩) hp).trans h1,(hb.cell (p:=⟨p,1,none⟩) hp).trans h2,own_below h3 hb,own_below h4 hb⟩
theorem RdTN.set{w:World}{v:Value}{xs:List ByteArray}{base:Nat}(h:RdTN w v xs base){H:Nat}(hH:H<base)(o:Nat)(u:Value):RdTN (w.setCell ⟨H,o,none⟩ u) v xs base:=by
 obtain⟨p,v1,v2,rfl,hq,hp,h1,h2,h3,h4⟩:=h;have e:∀j,(w.setCell ⟨H,o,none⟩ u).cell? ⟨p,j,none⟩=w.cell? ⟨p,j,none⟩:=fun j=>World.cell?_of_block (a:=⟨p,j,none⟩) (Below.heap_setCell _ _ _ _ (by simp only;omega))
 exact⟨p,v1,v2,rfl,hq,by simpa [World.setCell]using hp,(e 0).trans h1,(e 1).trans h2,ownsRow_setCell_below h3 (a:=⟨H,o,none⟩) hH u,ownsRow_setCell_below h4 (a:=⟨H,o,none⟩) hH u⟩
theorem newx_calls(xs:List ByteArray)(lv:Value)(w:World)(h0:xs.length≤1000000)(hx:RdS w lv xs)(R:Ending→World→Prop)
  (hR:Hid (∀v w',RdTN w' v xs w.heap.size→Below w.heap.size w w'→R (.returned v) w')):Calls Tryz.prog 53 #[lv] w R:=by
 obtain⟨A,c,rfl,hlc,hr0⟩:=hx.open;obtain⟨i0,hI,hz0,hz1,hz2⟩:=info_parts infoStr;obtain⟨j0,hJ,yz0,yz1,yz2⟩:=info_parts infoInt;have b1:=(Below.refl w.heap.size w).alloc (Nat.le_refl _) (.cells #[.slice none 0 0,.slice none 0 0] 177);have hx1:=hx.below b1;have z1:(w.alloc (.cells #[.slice none 0 0,.slice none 0 0] 177)).heap.size=w.heap.size+1:=by simp
 have k0:(w.alloc (.cells #[.slice none 0 0,.slice none 0 0] 177)).cell? ⟨w.heap.size,0,none⟩=some (.slice none 0 0):=by rw [World.cell?_alloc_new];rfl
 have k1:(w.alloc (.cells #[.slice none 0 0,.slice none 0 0] 177)).cell? ⟨w.heap.size,1,none⟩=some (.slice none 0 0):=by rw [World.cell?_alloc_new];rfl
 have y0:(w.alloc (.cells #[.slice none 0 0,.slice none 0 0] 177)).frozen? ⟨w.heap.size,0,none⟩=false:=by simp
 have y1:(w.alloc (.cells #[.slice none 0 0,.slice none 0 0] 177)).frozen? ⟨w.heap.size,1,none⟩=false:=by simp
 replace hr0:=Lib.hid hr0;replace hx1:=Lib.hid hx1;clear hx;go_enter Tryz.func53,Tryz.ntmps53
 go_wp2_with fail
 generalize w.alloc (.cells #[.slice none 0 0,.slice none 0 0] 177)=W0 at *;refine sorted_calls xs _ _ h0 hx1.out _ (Lib.hid fun ix v1 w1 i1 i2 i3 n1=>?_);obtain⟨A1,c1,rfl,hl1,hr1⟩:=i2.open;have hlen:=i1.len;have hlt:w.heap.size<w1.heap.size:=by have:=n1.size;omega
 have hT:Tb w.heap.size w1.heap.size w1 0 [] (.slice none 0 0) 0 [] (.slice none 0 0) w1 :=
  ⟨But.refl _ _ _,Nat.le_refl _,hlt,(n1.cell (p:=⟨w.heap.size,0,none⟩) (by simp only;omega)).trans k0,(n1.cell (p:=⟨w.heap.size,1,none⟩) (by simp only;omega)).trans k1,
   (n1.frozen (p:=⟨w.heap.size,0,none⟩) (by simp only;omega)).trans y0,(n1.frozen (p:=⟨w.heap.size,1,none⟩) (by simp only;omega)).trans y1,World.ownsRow_nil _ _ _ _,World.ownsRow_nil _ _ _ _⟩
 have nT:=b1.trans (n1.mono b1.size);have hfar:∀g o,A1=some ⟨g,o,none⟩→g≠w.heap.size:=fun g o e=>by have:=i3 g o _ _ (by rw [e]);omega
 replace hfar:=Lib.hid hfar;replace hr1:=Lib.hid hr1;replace i1:=Lib.hid i1;clear i2 i3 n1 k0 k1 y0 y1 hx1 b1;generalize hB:w1.heap.size=B at *;generalize ht:w.heap.size=t at *;go_wp2_with fail
 go_loopg [12] ix.length (fun k i wr=>∃(K:Nat) (ds:List ByteArray) (v1 v2:Value),i=.int .i64 K∧K+k=ix.length∧Tb t B w1 ds.length (sv ds) v1 ds.length (fv xs ds) v2 wr∧Below t w wr∧Hid (Dist xs ix K ds))
 case atStart=>exact⟨0,[],_,_,rfl,by omega,hT,nT,Lib.hid (Dist.start xs ix)⟩
 case round =>
  obtain⟨K,ds,v1,v2,rfl,d1,T,nR,D⟩:=hrel
  by_cases hK:K<ix.length
  ·have hi:=i1.out.lt hK
   obtain⟨g,o,rfl,hg,hca⟩:=hr1.out (by omega);obtain⟨g2,o2,rfl,hg2,hca2⟩:=hr0.out (by omega);have f1:=(T.but.cell (by omega) (hfar.out g o rfl)).trans (hca K hK);have f2:=(nR.cell (p:=⟨g2,o2+ix.getD K 0,none⟩) hg2).trans (hca2 _ hi);rw [show xs.getD (ix.getD K 0) ByteArray.empty=at_ xs (ix.getD K 0)from rfl]at f2;have q1:(0<K∧at_ xs (ix.getD (K-1) 0)=at_ xs (ix.getD K 0))→Dist xs ix (K+1) ds:=fun h=>D.out.skip h.1 h.2
   have q2:¬(0<K∧at_ xs (ix.getD (K-1) 0)=at_ xs (ix.getD K 0))→Dist xs ix (K+1) (ds++[at_ xs (ix.getD K 0)])∧findS xs (at_ xs (ix.getD K 0))=(ix.getD K 0:Nat):=fun h=>D.out.put i1.out hK h
   have q3:=D.out.last;have q4:=D.out.len;obtain⟨A3,c3,e3⟩:=own_len T.o1;subst e3;obtain⟨A4,c4,e4⟩:=own_len T.o2;subst e4;have T0:=T.c0;have hlt1:=T.size;have hown:=T.o1;replace T:=Lib.hid T;replace nR:=Lib.hid nR;clear hca hca2 D;generalize at_ xs (ix.getD K 0)=s at *;generalize ix.getD K 0=i at *;obtain⟨G,hG⟩:∃G:Bool,(G=true↔(0<K∧at_ xs (ix.getD (K-1) 0)=s)):=⟨decide (0<K∧at_ xs (ix.getD (K-1) 0)=s),decide_eq_true_iff⟩;rw [←hG]at q1 q2;replace q1:=Lib.hid q1;replace q2:=Lib.hid q2;replace q3:=Lib.hid q3;replace hG:=Lib.hid hG;replace hown:=Lib.hid hown;obtain⟨L,hL⟩:∃L:Int,(ds.length:Int)-1=L:=⟨_,rfl⟩;go_wp2_with fail
   replace hL:=Lib.hid hL;go_cut [37] (fun v wx=>∃q,v=.bool G∧wx=wr.drewN q)
   case first =>
    rcases q3.out with⟨rfl,rfl⟩|⟨hz,cs,e⟩
    ·obtain rfl:G=false:=by
      cases G
      ·rfl
      ·have:=(hG.out.1 rfl).1;omega
     obtain rfl:L=-1:=hL.out.symm;go_quiet (fail);go_wp2_with fail
     go_meet;exact⟨_,rfl,rfl⟩
    ·obtain⟨n,hn⟩:∃n,n=cs.length:=⟨_,rfl⟩
     have hn1:ds.length=n+1:=by rw [e,hn];simp
     obtain rfl:L=(n:Int):=by rw [←hL.out,hn1];omega
     obtain⟨g3,cap3,e3,-,-,-,hcells⟩:=own_at hown.out (by omega);simp only[Value.slice.injEq]at e3;obtain⟨rfl,-,rfl⟩:=e3;have k1:=hcells n (by omega);rw [e,hn,sv_at,←hn]at k1;have hi0:(0:Int)≤(n:Int):=by omega
     have hi1:(n:Int)<(ds.length:Int):=by omega
     have hG':=hG.out;replace hn1:=Lib.hid hn1;replace e:=Lib.hid e;replace hcells:=Lib.hid hcells;replace hn:=Lib.hid hn;generalize at_ xs (ix.getD (K-1) 0)=y at *
     by_cases hs:y=s
     ·obtain rfl:G=true:=hG'.2 ⟨hz,hs⟩
      have hq:=seq_t hs;clear hs hG';go_quiet (fail);go_wp2_with fail
      go_meet;exact⟨_,rfl,rfl⟩
     ·obtain rfl:G=false:=by
       cases G
       ·rfl
       ·exact absurd (hG'.1 rfl).2 hs
      have hq:=seq_f hs;clear hs hG';go_quiet (fail);go_wp2_with fail
      go_meet;exact⟨_,rfl,rfl⟩
   case rest =>
    obtain⟨q,rfl,rfl⟩:=hcut;have T':=Lib.hid (T.out.drewN q);have nR':=Lib.hid (below_drewN nR.out q);have g1:(wr.drewN q).cell? ⟨g2,o2+i,none⟩=some (.string s):=f2;clear T nR f1 f2 T0 hown hL q3 hG hlt1;generalize wr.drewN q=W at *;cases G
    ·obtain⟨p1,p2⟩:=q2.out (by decide)
     replace p1:=Lib.hid p1;have U0:=T'.out.c0;have U2:=T'.out.f0;have hBW:=T'.out.size;have htB:=T'.out.tlt;have hown:=T'.out.o1;have hg2B:g2<W.heap.size:=by omega
     have ht2:t<W.heap.size:=by omega
     have r1:=own_lt T'.out.o1 htB;have r2:some g2≠(Value.slice A3 ds.length c3).ownBlock:=own_lt T'.out.o1 (by omega);have hne:g2≠t:=by omega
     have hn2:ds.length+1≤1000000:=by omega
     go_wp2_with fail
     go_region_law
      ((refine step_append_lies _ (by rfl) _ _ _ (by rfl) B 9 i0 _ 1 16 Tryz.underlying67 hI hz0 hz1 hz2 rfl (by omega) _ ds.length (sv ds) (by rfl) ((hown.alloc _).drew) ⟨W.heap.size,0,none⟩ 1 1 [.string s] (by rfl) (by rfl) (World.news_of_block (cs:=#[.string s]) (t:=9) (fr:=(0,0)) (heap_alloc_new W _)) (by simp [Value.oneCell']) (by omega) (by unfold maxLen;omega) (by omega) (by simp;omega) (W.heap.size+1) (by simp) ?_;intro gg cap w2 hown2 hgrow hat hlt2;have V0:=grown_keep hgrow ht2 r1 U0;have V9:=grown_keepF hgrow ht2 r1 U2))
     all_goals
      obtain⟨T7,n7⟩:=T'.out.put1 (grown_step (grown_drew hgrow)) hown2;have n8:=Lib.hid (n7 w nR'.out);clear n7 hown2 hgrow hat hlt2 V0 V9;have V0:=T7.c1;have V1:=T7.f1;have V2:=T7.size;have V3:=T7.o2;replace T7:=Lib.hid T7;generalize w2.setCell ⟨t,0,none⟩ _=W7 at *;have ht7:t<W7.heap.size:=Nat.lt_of_lt_of_le htB V2;go_wp2_with (at_builtin;refine app1 W7 (.int .i64 i) 3 rfl _ _ 51 rfl B j0 (.int .i64 0) 8 Tryz.underlying51 hJ yz0 yz1 yz2 rfl (.slice A4 ds.length c4) _ _ rfl V3 rfl rfl (by unfold maxLen;omega) (by omega) V2 ?_;intro v' w3 hown3 hg3 hb3;have X0:=grown_c hg3 ht7 (own_lt V3 htB) V0;have X1:=grown_f hg3 ht7 (own_lt V3 htB) V1;obtain⟨A9,c9,rfl⟩:=own_len hown3)
      obtain⟨T9,n9⟩:=T7.out.put2 hg3 hown3;have n10:=n9 w n8.out;rw [show sv ds++[Value.string s]=sv (ds++[s])by simp [sv],show fv xs ds++[Value.int .i64 i]=fv xs (ds++[s])by simp [fv,p2]]at T9;go_roundg (gk-1)
      case measure=>omega
      case rel =>
       refine⟨K+1,ds++[s],.slice (some ⟨gg,0,none⟩) (ds.length+1) cap,.slice A9 (ds.length+1) c9,by go_num,by omega,?_,n10,p1⟩;rw [show(ds++[s]).length=ds.length+1 by simp];exact T9
    ·have p:=Lib.hid (q1.out rfl)
     go_wp2_with fail
     go_roundg (gk-1)
     case measure=>omega
     case rel=>exact⟨K+1,ds,_,_,by go_num,by omega,T'.out,nR'.out,p⟩
  ·obtain rfl:K=ix.length:=by omega
   obtain rfl:=D.out.fin i1.out;have htr:t<wr.heap.size:=Nat.lt_of_lt_of_le T.tlt T.size;have rT:RdTN wr (.pointer (some ⟨t,0,none⟩)) xs t:=⟨t,v1,v2,rfl,Nat.le_refl _,htr,T.c0,T.c1,own_mono T.o1 (Nat.le_of_lt T.tlt),own_mono T.o2 (Nat.le_of_lt T.tlt)⟩;replace rT:=Lib.hid rT;clear T D;go_wp2_with fail
   exact hR.out _ _ rT.out nR
theorem new_calls(xs:List ByteArray)(lv:Value)(w:World)(h0:xs.length≤1000000)(hx:RdS w lv xs)(R:Ending→World→Prop)
 (hR:Hid (∀v w',RdT w' v xs→Below w.heap.size w w'→R (.returned v) w')):Calls Tryz.prog 53 #[lv] w R :=
newx_calls xs lv w h0 hx R (Lib.hid fun v w' h hb=>hR.out v w' h.rd hb)
end Go.Proofs.YtncckdaflellnaaGreat.Nam
