import Derived.Test.YtabhkakomececaaGreatQ3
import Derived.Deep.Cut
set_option linter.all false
set_option maxRecDepth 100000
set_option maxHeartbeats 4000000
namespace Go.Proofs.YtabhkakomececaaGreat
namespace Res
open Go.RowKit Go.Lib Utf Nam Lat Kin
abbrev FtV(x:Int×Int):Value:=.agg #[.int .i64 x.1,.int .i64 x.2]
abbrev ptL(p:PH)(x:TH)(lv cv nv pv:Value):List Value:=[.string p.name,.int .i64 p.at_,.bool p.bare,lv,.int .i64 p.wide,.int .i64 p.ck,.int .i64 p.cn,.int .i64 p.cat,cv,.int .i64 x.kind,.int .i64 x.at_,.int .i64 x.lo,.int .i64 x.hi,.int .i64 x.most,nv,pv,.string x.name,.int .i64 x.nat]
def GoodT(h:TH)(f:Ft):Prop:=GoodH h∧f.len≤maxLen∧f.All GoodH GoodL
section
variable {S:Type}
def inF(op:S→TH→Ft→(Int×Int)×S):S→Ft→(Int×Int)×S
| s,.nil=>((0,0),s)
| s,.cons p h k r=>if p.bare then inF op s r else
 if(op s h k).1.1≠0 then op s h k else
 if(inF op (op s h k).2 k).1.1≠0 then inF op (op s h k).2 k else inF op (inF op (op s h k).2 k).2 r
def inT(op:S→TH→Ft→(Int×Int)×S)(s:S)(h:TH)(f:Ft):(Int×Int)×S:=if(op s h f).1.1≠0 then op s h f else inF op (op s h f).2 f
theorem inF_cons(op:S→TH→Ft→(Int×Int)×S)(s:S)(p:PH)(h:TH)(k r:Ft)(hb:p.bare=false):inF op s (.cons p h k r)=if(inT op s h k).1.1≠0 then inT op s h k else inF op (inT op s h k).2 r:=by
 show(if p.bare=true then _ else _)=_;rw [hb,if_neg (by decide)];unfold inT
 by_cases c:(op s h k).1.1≠0
 ·rw [if_pos c,if_pos c,if_pos c]
 ·rw [if_neg c,if_neg c]
theorem inF_bare(op:S→TH→Ft→(Int×Int)×S)(s:S)(p:PH)(h:TH)(k r:Ft)(hb:p.bare=true):inF op s (.cons p h k r)=inF op s r:=if_pos hb
def OpQ(G:TH→Ft→Prop)(F:Fm S)(w0:World)(fn:FuncId)(bv:Value)(op:S→TH→Ft→(Int×Int)×S):Prop:=∀(s:S)(h:TH)(f:Ft)(nv pv:Value)(V:World),F.Inv V s→Below w0.heap.size w0 V→RdY w0 h f nv pv→G h f→∀R:Ending→World→Prop,
Hid (∀W,Hq F s (op s h f).2 V W []→R (.returned (FtV (op s h f).1)) W)→Calls Tryz.prog fn #[bv,tyV h nv pv] V R
def IsF(k:FuncId):Prop:=∀(args:Array Value)(w:World),(callFunc k args).run Tryz.prog w=.ok (.enter k args) w
end
section
variable {S:Type} (G:TH→Ft→Prop) (F:Fm S) (w0:World) (fn:FuncId) (bv:Value) (op:S→TH→Ft→(Int×Int)×S)
def WithQ(f:Ft):Prop:=∀(s:S)(h:TH)(nv pv:Value)(w:World),F.Inv w s→Below w0.heap.size w0 w→RdY w0 h f nv pv→G h f→∀R:Ending→World→Prop,
Hid (∀W,Hq F s (inT op s h f).2 w W []→R (.returned (FtV (inT op s h f).1)) W)→Calls Tryz.prog 202 #[tyV h nv pv,.func (.func fn) #[bv] #[]] w R
theorem within_step(hG1:∀h f,G h f→GoodT h f)(hG2:∀h f K p x kd r,G h f→f.drop K=.cons p x kd r→p.bare=false→G x kd)(hF:∀s k,F.Fr s k→w0.heap.size≤k)(hfn:IsF fn)(hop:OpQ G F w0 fn bv op)(f:Ft)(ih:Fo.AllK (WithQ G F w0 fn bv op) f):WithQ G F w0 fn bv op f:=by
 intro s h nv pv w hI hb hy hg R hR;have hw:=hb.size;have hGG:=hg;obtain⟨gh,hfl,hga⟩:=hG1 _ _ hg;replace hfl:f.len≤9223372036854775807:=hfl;obtain⟨An,cn,rfl,-,-⟩:=hy.n.op;obtain⟨Ap,cp,rfl,hpl⟩:=hy.p.sl;have m0:=Hq.nil hI;obtain⟨V1,e1,m1,z1⟩:=m0.new (.cells (tyL h (.slice An h.names.length cn) (.slice Ap f.len cp)).toArray 36);obtain⟨V,e2,n,z2⟩:=m1.new (.cells #[.int .i64 0,.int .i64 0] 26);clear m0 m1 z1 z2;unfold IsF at hfn;replace ih:=Lib.hid ih;clear hga;have rT:=n.rg 1 rfl;have hbV:=hb.trans (n.below hw (hF s));go_enter Tryz.func202,Tryz.ntmps202
 go_upto_region 1 with fail
 clear e1 e2;go_wp2_with (refine wpList_load_g (by rfl) 36 _ rfl w.heap.size 0 rfl _ _ rT Tryz.underlying36 rfl (by kernel_rfl) ?_;go_simp)
 refine hop s h f _ _ V n.inv hbV hy hGG _ (Lib.hid fun W1 c1=>?_);have hR':Hid (∀W,Hq F s (inT op s h f).2 w W []→R (.returned (FtV (inT op s h f).1)) W):=hR;clear hR;unfold inT at hR';replace n:=n.call c1;clear c1 rT hbV hop;generalize op s h f=a at *;obtain⟨⟨a0,a1⟩,s1⟩:=a;simp only at hR' n ⊢;obtain⟨V2,e2,n,z2⟩:=n.new (.cells #[.int .i64 a0,.int .i64 a1] 26);go_upto_region 2 with fail
 clear e2 z2;have a_0:=n.c 0 0 rfl rfl;have a_1:=n.c 0 1 rfl rfl
 by_cases h0:a0=0
 ·subst h0
  rw [if_neg (by decide)]at hR';have t6:=n.c 2 6 rfl rfl;replace n:=n.tail;go_wp2_with fail
  clear t6 a_0 a_1;go_loopg [19] f.len (fun g0 i wr=>∃(K:Nat) (sK:S),i=.int .i64 K∧K+g0=f.len∧Hid (inF op s1 f=inF op sK (f.drop K))∧Hid (Hq F s sK w wr [(V1.heap.size,.cells #[.int .i64 0,.int .i64 0] 26),(w.heap.size,.cells (tyL h (.slice An h.names.length cn) (.slice Ap f.len cp)).toArray 36)]))
  case atStart=>exact⟨0,s1,rfl,by omega,Lib.hid rfl,Lib.hid n⟩
  case round =>
   clear n;obtain⟨K,sK,rfl,e1,e2,n⟩:=hrel;replace n:=n.out;have hbW:=hb.trans (n.below hw (hF s))
   by_cases hK:K<f.len
   ·obtain⟨p,x,kd,r,e⟩:=Fo.drop_lt hK
    obtain⟨g,o,lv,cv,nx,px,rfl,hg,hlv,hcv,hyx,hc⟩:=hy.p.part e;obtain⟨A1,n1,rfl,-,-⟩:=hlv.op;obtain⟨A2,n2,rfl,-,-⟩:=hcv.op;obtain⟨A5,n5,rfl,-,-⟩:=hyx.n.op;obtain⟨A7,n7,rfl,-⟩:=hyx.p.sl;have gx:=hG2 h f K p x kd r hGG e;have ihK:=Lib.hid ((ih.out).at_ e);have d1:=Fo.drop_succ K e;replace e2:=e2.out;rw [e]at e2;have i0:(0:Int)≤(K:Int):=by omega
    have i1:(K:Int)<(f.len:Int):=by omega
    have rg:wr.rangeAt g (o+K*18) (ptL p x (.slice A1 p.label.length n1) (.slice A2 p.cl.length n2) (.slice A5 x.names.length n5) (.slice A7 kd.len n7)):=fun j v h=>(hbW.cell (p:=⟨g,o+K*18+j,none⟩) hg).trans (hc j v h)
    clear hc hlv hcv hg e;obtain⟨V3,e3,n,z3⟩:=n.new (.cells (ptL p x (.slice A1 p.label.length n1) (.slice A2 p.cl.length n2) (.slice A5 x.names.length n5) (.slice A7 kd.len n7)).toArray 127);go_upto_region 7 with(first|(refine wpList_load_g (by rfl) 127 _ rfl g (o+K*18) rfl _ _ rg Tryz.underlying127 rfl (by kernel_rfl) ?_;go_simp)|(refine wpList_copy (ptL p x (.slice A1 p.label.length n1) (.slice A2 p.cl.length n2) (.slice A5 x.names.length n5) (.slice A7 kd.len n7)).toArray ⟨rfl,rfl,rfl⟩ ⟨rfl,rfl,rfl⟩ part_alloc (by kernel_rfl) ⟨rfl,by simp [Value.oneCell']⟩ (fun _=>⟨rfl,rfl⟩) ?_;go_simp))
    clear rg e3 z3;have u2:=n.c 0 2 rfl rfl;have r9:V3.rangeAt wr.heap.size 9 (tyL x (.slice A5 x.names.length n5) (.slice A7 kd.len n7)):=n.rgd 0 9 rfl;have hbV:=hb.trans (n.below hw (hF s));cases hbr:p.bare
    ·rw [hbr]at u2
     rw [inF_cons op sK p x kd r hbr]at e2;replace gx:=gx hbr;clear hbr;go_wp2_with (refine wpList_load_g (by rfl) 36 _ rfl wr.heap.size 9 rfl _ _ r9 Tryz.underlying36 rfl (by kernel_rfl) ?_;go_simp)
     refine ihK.out sK x _ _ V3 n.inv hbV hyx gx _ (Lib.hid fun W4 c4=>?_);replace n:=(n.call c4).tail;clear c4 r9 u2 hbV;generalize inT op sK x kd=b at *;obtain⟨⟨b0,b1⟩,s4⟩:=b;simp only at e2 n ⊢;obtain⟨V5,e5,n,z5⟩:=n.new (.cells #[.int .i64 b0,.int .i64 b1] 26);go_upto_region 9 with fail
     clear e5 z5;have a_0:=n.c 0 0 rfl rfl;have a_1:=n.c 0 1 rfl rfl
     by_cases h0:b0=0
     ·subst h0
      rw [if_neg (by decide)]at e2;replace n:=Lib.hid n.tail;rw [←d1]at e2;replace e2:=Lib.hid e2;clear hR';go_wp2_with fail
      go_roundg (gk-1)
      case measure=>omega
      case rel=>exact⟨K+1,s4,by go_num,by omega,e2,n⟩
     ·rw [if_pos h0]at e2
      have q0:(b0 != 0)=true:=by simpa using h0
      clear h0;rw [e2]at hR';go_upto_region 10 with fail
      have y0:=n.c 1 0 rfl rfl;have yf0:=n.f 1 0 rfl;have y1:=n.c 1 1 rfl rfl;have yf1:=n.f 1 1 rfl;obtain⟨VE,eE,nE,-⟩:=n.put (j:=1) rfl [(0,.int .i64 b0),(1,.int .i64 b1)];simp only[stL]at eE;simp only[stA,List.setIfInBounds_toArray,List.set_cons_succ,List.set_cons_zero]at nE;have w0_:=nE.c 1 0 rfl rfl;have w1_:=nE.c 1 1 rfl rfl;have fin:=Lib.hid (hR'.out _ nE.fin);clear nE n hR';go_wp2_with fail
      first|refine bodyPost_ret ?_ rfl fin.out|refine bodyPost_end ?_ rfl fin.out
      simp [results,Tryz.results202,go_sem,w0_,w1_]
    ·rw [hbr]at u2
     rw [inF_bare op sK p x kd r hbr,←d1]at e2;replace n:=Lib.hid n.tail;replace e2:=Lib.hid e2;clear hR' r9 hbV hbr;go_wp2_with fail
     go_roundg (gk-1)
     case measure=>omega
     case rel=>exact⟨K+1,sK,by go_num,by omega,e2,n⟩
   ·obtain rfl:K=f.len:=by omega
    replace e2:=e2.out;rw [Fo.drop_all (Nat.le_refl _)]at e2;replace e2:inF op s1 f=((0,0),sK):=e2;rw [e2]at hR';clear e2;have y0:=n.c 0 0 rfl rfl;have yf0:=n.f 0 0 rfl;have y1:=n.c 0 1 rfl rfl;have yf1:=n.f 0 1 rfl;obtain⟨VE,eE,nE,-⟩:=n.put (j:=0) rfl [(0,.int .i64 0),(1,.int .i64 0)];simp only[stL]at eE;simp only[stA,List.setIfInBounds_toArray,List.set_cons_succ,List.set_cons_zero]at nE;have w0_:=nE.c 0 0 rfl rfl;have w1_:=nE.c 0 1 rfl rfl;have fin:=Lib.hid (hR'.out _ nE.fin);clear nE n hR';go_wp2_with fail
    first|refine bodyPost_ret ?_ rfl fin.out|refine bodyPost_end ?_ rfl fin.out
    simp [results,Tryz.results202,go_sem,w0_,w1_]
 ·rw [if_pos h0]at hR'
  have q0:(a0 != 0)=true:=by simpa using h0
  clear h0;go_upto_region 3 with fail
  have y0:=n.c 1 0 rfl rfl;have yf0:=n.f 1 0 rfl;have y1:=n.c 1 1 rfl rfl;have yf1:=n.f 1 1 rfl;obtain⟨VE,eE,nE,-⟩:=n.put (j:=1) rfl [(0,.int .i64 a0),(1,.int .i64 a1)];simp only[stL]at eE;simp only[stA,List.setIfInBounds_toArray,List.set_cons_succ,List.set_cons_zero]at nE;have w0_:=nE.c 1 0 rfl rfl;have w1_:=nE.c 1 1 rfl rfl;have fin:=Lib.hid (hR'.out _ nE.fin);clear nE n hR';go_wp2_with fail
  first|refine bodyPost_ret ?_ rfl fin.out|refine bodyPost_end ?_ rfl fin.out
  simp [results,Tryz.results202,go_sem,w0_,w1_]
theorem within_calls(hG1:∀h f,G h f→GoodT h f)(hG2:∀h f K p x kd r,G h f→f.drop K=.cons p x kd r→p.bare=false→G x kd)(hF:∀s k,F.Fr s k→w0.heap.size≤k)(hfn:IsF fn)(hop:OpQ G F w0 fn bv op)(f:Ft):WithQ G F w0 fn bv op f :=
Fo.deep (within_step G F w0 fn bv op hG1 hG2 hF hfn hop) f
end
end Res
namespace Unp
open Go.RowKit Go.Lib Go.Deep Go.ChangeShapes Go.WideShapes Nam Lat Kin
abbrev Pr:=Wr×Wr
abbrev Nd:=Wr×TH×Ft
abbrev Sc:=List Wr×List Pr×List Nd×TH×Ft
def encP(x:Pr):List Value:=[.string x.1.1,.int .i64 x.1.2,.string x.2.1,.int .i64 x.2.2]
theorem encP_len(x:Pr):(encP x).length=4:=rfl
abbrev RdPr:=RdG encP 4
def GoodP(x:Pr):Prop:=GoodW x.1∧GoodW x.2
abbrev pN(l:List Pr)(i:Nat):Pr:=l.getD i ((ByteArray.empty,0),(ByteArray.empty,0))
abbrev nN(l:List Nd)(i:Nat):Nd:=l.getD i ((ByteArray.empty,0),zTH,.nil)
theorem pN_get{l:List Pr}{i:Nat}(h:i<l.length):pN l i=l[i]:=by simp [pN,List.getD,List.getElem?_eq_getElem h]
theorem nN_get{l:List Nd}{i:Nat}(h:i<l.length):nN l i=l[i]:=by simp [nN,List.getD,List.getElem?_eq_getElem h]
theorem RdPr.op{w:World}{v:Value}{xs:List Pr}(h:RdPr w v xs):∃(A:Option Addr)(c:Nat),v=.slice A xs.length c∧xs.length≤c ∧
  (0<xs.length→∃g o,A=some ⟨g,o,none⟩∧g<w.heap.size∧∀i,i<xs.length→w.cell? ⟨g,o+i*4,none⟩=some (.string (pN xs i).1.1)∧w.cell? ⟨g,o+i*4+1,none⟩=some (.int .i64 (pN xs i).1.2)∧w.cell? ⟨g,o+i*4+2,none⟩=some (.string (pN xs i).2.1)∧w.cell? ⟨g,o+i*4+3,none⟩=some (.int .i64 (pN xs i).2.2)):=by
 obtain⟨A,c,rfl,hc,hr⟩:=RdG.open encP_len (by decide) h;refine⟨A,c,rfl,hc,fun h0=>?_⟩;obtain⟨g,o,rfl,hg,hca⟩:=hr h0;refine⟨g,o,rfl,hg,fun i hi=>?_⟩;rw [pN_get hi];exact⟨hca i hi 0 (by decide),hca i hi 1 (by decide),hca i hi 2 (by decide),hca i hi 3 (by decide)⟩
def RdNs(w:World)(v:Value)(l:List Nd):Prop:=∃(A:Option Addr)(c:Nat),v=.slice A l.length c∧l.length≤c∧(0<l.length→∃g o,A=some ⟨g,o,none⟩∧g<w.heap.size ∧
∀i,i<l.length→∃nv pv,RdY w (nN l i).2.1 (nN l i).2.2 nv pv∧∀j u,[Value.string (nN l i).1.1,.int .i64 (nN l i).1.2,.int .i64 (nN l i).2.1.kind,.int .i64 (nN l i).2.1.at_,.int .i64 (nN l i).2.1.lo,.int .i64 (nN l i).2.1.hi,.int .i64 (nN l i).2.1.most,nv,pv,.string (nN l i).2.1.name,.int .i64 (nN l i).2.1.nat][j]?=some u→w.cell? ⟨g,o+i*11+j,none⟩=some u)
theorem RdNs.kp{w w':World}(k:Kp w w'){v:Value}{l:List Nd}(h:RdNs w v l):RdNs w' v l:=by
 obtain⟨A,c,rfl,hc,hr⟩:=h;refine⟨A,c,rfl,hc,fun h0=>?_⟩;obtain⟨g,o,rfl,hg,hi⟩:=hr h0;refine⟨g,o,rfl,Nat.lt_of_lt_of_le hg k.1,fun i hl=>?_⟩;obtain⟨nv,pv,hy,hcl⟩:=hi i hl;exact⟨nv,pv,hy.kp k,fun j u e=>k.2 _ _ _ (hcl j u e)⟩
theorem RdNs.below{w w':World}{v:Value}{l:List Nd}(h:RdNs w v l)(b:Below w.heap.size w w'):RdNs w' v l:=h.kp (Kp.of_below b)
def GoodN(x:Nd):Prop:=GoodW x.1∧GoodH x.2.1∧x.2.2.All GoodH GoodL∧x.2.2.len≤maxLen
abbrev scV(s:Sc)(lv ov tv nv pv:Value):Value:=.agg #[lv,ov,tv,.int .i64 s.2.2.2.1.kind,.int .i64 s.2.2.2.1.at_,.int .i64 s.2.2.2.1.lo,.int .i64 s.2.2.2.1.hi,.int .i64 s.2.2.2.1.most,nv,pv,.string s.2.2.2.1.name,.int .i64 s.2.2.2.1.nat]
structure RdSc(w:World)(s:Sc)(lv ov tv nv pv:Value):Prop where
l:RdW w lv s.1
o:RdPr w ov s.2.1
t:RdNs w tv s.2.2.1
r:RdY w s.2.2.2.1 s.2.2.2.2 nv pv
theorem RdSc.kp{w w':World}{s:Sc}{lv ov tv nv pv:Value}(k:Kp w w')(h:RdSc w s lv ov tv nv pv):RdSc w' s lv ov tv nv pv:=⟨h.l.kp k,RdAt.kp k h.o,h.t.kp k,h.r.kp k⟩
theorem RdSc.below{w w':World}{s:Sc}{lv ov tv nv pv:Value}(h:RdSc w s lv ov tv nv pv)(b:Below w.heap.size w w'):RdSc w' s lv ov tv nv pv:=h.kp (Kp.of_below b)
structure GoodS(s:Sc):Prop where
l:∀x∈s.1,GoodW x
ll:s.1.length≤maxLen
o:∀x∈s.2.1,GoodP x
ol:s.2.1.length≤maxLen
t:∀x∈s.2.2.1,GoodN x
tl:s.2.2.1.length≤maxLen
h:GoodH s.2.2.2.1
g:s.2.2.2.2.All GoodH GoodL
gl:s.2.2.2.2.len≤maxLen
section
variable {G:Type} {enc':TypeId×Value→G} {W:World} {bs:Nat}
theorem word_one{n:Nat}{cs:List Value}{x:DataW G×List MemPlace}(hx:DataW.trod enc' Tryz.prog W bs (fun _=>true) true n 34 cs=some x)(hl:cs.length=2):∃a:Wr,cs=encW a∧GoodW a:=by
 obtain⟨ys,m,-,-,-,hys,hf⟩:=DataW.trod_struct Tryz.underlying34 hx
 match ys,hys,cs,hl with
 | [y0,y1],_,[v0,v1],_ =>
  have g0:=hf 0 _ rfl;have g1:=hf 1 _ rfl;have c3:Tryz.prog.cellsOf 3=1:=by kernel_rfl
  have c9:Tryz.prog.cellsOf 9=1:=by kernel_rfl
  simp [c3,c9]at g0 g1;obtain⟨s0,h0,-,w0⟩:=DataW.trod_string Tryz.underlying9 g0;obtain⟨n1,h1,-,w1⟩:=DataW.trod_int Tryz.underlying3 g1;simp at h0 h1;subst h0 h1;exact⟨(s0,n1),rfl,w0,wf64 w1⟩
theorem pairs_in{f:Nat}{v:Value}{x:DataW G×List MemPlace}(h:DataW.trod enc' Tryz.prog W bs (fun _=>true) true f 30 [v]=some x) :
  ∃xs:List Pr,RdPr W v xs∧(∀x∈xs,GoodP x)∧xs.length≤maxLen:=by
 refine flat_in encP_len (by decide) GoodP Tryz.underlying30 (by kernel_rfl) h fun n cs x hx hl=>?_
 obtain⟨ys,m,-,-,-,hys,hf⟩:=DataW.trod_struct Tryz.underlying142 hx
 match ys,hys,cs,hl with
 | [y0,y1],_,[v0,v1,v2,v3],_ =>
  have g0:=hf 0 _ rfl;have g1:=hf 1 _ rfl;have c2:Tryz.prog.cellsOf 34=2:=by kernel_rfl
  simp [c2]at g0 g1;obtain⟨a,e1,q1⟩:=word_one g0 rfl;obtain⟨b,e2,q2⟩:=word_one g1 rfl;refine⟨(a,b),?_,q1,q2⟩;show[v0,v1,v2,v3]=encW a++encW b;rw [←e1,←e2];rfl
theorem named_in{f:Nat}{v:Value}{x:DataW G×List MemPlace}(h:DataW.trod enc' Tryz.prog W bs (fun _=>true) true f 31 [v]=some x) :
  ∃l:List Nd,RdNs W v l∧(∀x∈l,GoodN x)∧l.length≤maxLen:=by
 obtain⟨A,len,cap,rfl,hlc,hcm,hel⟩:=open_slice_f Tryz.underlying31 h
 by_cases hl:0<len
 ·obtain⟨a,f2,rfl,-,hi⟩:=hel hl
  have ce:Tryz.prog.cellsOf 100=11:=by kernel_rfl
  have key:∀i,i<len→∃(y:Nd) (nv pv:Value),GoodN y∧RdY W y.2.1 y.2.2 nv pv∧∀j,j<11→W.cell? (a.add (i*11+j))=[Value.string y.1.1,.int .i64 y.1.2,.int .i64 y.2.1.kind,.int .i64 y.2.1.at_,.int .i64 y.2.1.lo,.int .i64 y.2.1.hi,.int .i64 y.2.1.most,nv,pv,.string y.2.1.name,.int .i64 y.2.1.nat][j]?:=by
   intro i hlt;obtain⟨cs,z,h1,h2⟩:=hi i hlt;rw [ce]at h1;obtain⟨-,hlen,hcell⟩:=World.cells?_some h1;obtain⟨ys,m,-,-,-,hys,hf⟩:=DataW.trod_struct Tryz.underlying100 h2
   match ys,hys,cs,hlen,hcell with
   | [y0,y1],_,[v0,v1,u0,u1,u2,u3,u4,u5,u6,u7,u8],_,hcell =>
    have g0:=hf 0 _ rfl;have g1:=hf 1 _ rfl;have c2:Tryz.prog.cellsOf 34=2:=by kernel_rfl
    have c9:Tryz.prog.cellsOf 36=9:=by kernel_rfl
    simp [c2,c9]at g0 g1;obtain⟨wd,e1,q1⟩:=word_one g0 rfl;obtain⟨th,gh,fo,lf,hn,ga⟩:=typ_in g1 rfl;obtain⟨nv,pv,e2,hy⟩:=RdY.node hn
    have e3:[v0,v1,u0,u1,u2,u3,u4,u5,u6,u7,u8]=encW wd++[.int .i64 th.kind,.int .i64 th.at_,.int .i64 th.lo,.int .i64 th.hi,.int .i64 th.most,nv,pv,.string th.name,.int .i64 th.nat]:=by
     rw [←e1,←e2];rfl
    refine⟨(wd,th,fo),nv,pv,⟨q1,gh,ga,lf⟩,hy,fun j hj=>?_⟩;have:=hcell j hj;rw [add_add,e3]at this;exact this
  obtain⟨b,off,spot⟩:=a
  have hspot:spot=none∧b<W.heap.size:=by
   obtain⟨y,nv,pv,-,-,hc⟩:=key 0 hl;have:=hc 0 (by decide);have hs:spot=none:=by simpa [Addr.add]using World.cell?_spot this
   subst hs;exact⟨rfl,by have:=World.block_lt_of_cell? W _ this;simpa [Addr.add]using this⟩
  obtain⟨rfl,hb⟩:=hspot;have ad:∀j,(⟨b,off,none⟩:Addr).add j=⟨b,off+j,none⟩:=fun j=>by unfold Addr.add;split<;>simp_all
  have build:∀m i,i+m=len→∃xs:List Nd,xs.length=m∧(∀x∈xs,GoodN x)∧∀q,q<m→∃nv pv,RdY W (nN xs q).2.1 (nN xs q).2.2 nv pv∧∀j u,[Value.string (nN xs q).1.1,.int .i64 (nN xs q).1.2,.int .i64 (nN xs q).2.1.kind,.int .i64 (nN xs q).2.1.at_,.int .i64 (nN xs q).2.1.lo,.int .i64 (nN xs q).2.1.hi,.int .i64 (nN xs q).2.1.most,nv,pv,.string (nN xs q).2.1.name,.int .i64 (nN xs q).2.1.nat][j]?=some u→W.cell? ⟨b,off+(i+q)*11+j,none⟩=some u:=by
   intro m
   induction m with
   | zero=>intro i _;exact⟨[],rfl,by simp,fun q hq=>by omega⟩
   | succ m im =>
    intro i e;obtain⟨xs,e1,e2,e3⟩:=im (i+1) (by omega);obtain⟨y,nv,pv,gy,hy,hc⟩:=key i (by omega);refine⟨y::xs,by simp [e1],fun z hz=>?_,fun q hq=>?_⟩
    ·rcases List.mem_cons.1 hz with rfl|q
     ·exact gy
     ·exact e2 z q
    ·cases q with
     | zero =>
      refine⟨nv,pv,hy,fun j u hj=>?_⟩;have hj':j<11:=(List.getElem?_eq_some_iff.1 hj).1;have:=hc j hj';rw [ad]at this;rw [Nat.add_zero,Nat.add_assoc,this];exact hj
     | succ q =>
      obtain⟨nv',pv',hy',hc'⟩:=e3 q (by omega);refine⟨nv',pv',hy',fun j u hj=>?_⟩;rw [show i+(q+1)=i+1+q by omega];exact hc' j u hj
  obtain⟨xs,e1,e2,e3⟩:=build len 0 (Nat.zero_add _);subst e1;exact⟨xs,⟨_,cap,rfl,hlc,fun _=>⟨b,off,rfl,hb,fun i hi=>by have:=e3 i hi;rwa [Nat.zero_add]at this⟩⟩,e2,Nat.le_trans hlc hcm⟩
 ·obtain rfl:len=0:=by omega
  exact⟨[],⟨A,cap,rfl,Nat.zero_le _,fun h=>absurd h (by simp)⟩,by simp,Nat.zero_le _⟩
end
abbrev Scx:=Sc×Value×Value×Value×Value×Value
theorem arg_sch{H:Type}{enc':TypeId×Value→H}{W:World}{base:Nat}{v:Value}{d:DataW H}{p:List MemPlace}(hv:Value.okWide Tryz.prog W .any base 38 v)
  (h:DataW.Trod enc' Tryz.prog W 0 (fun _=>true) true 38 v d p):∃q:Scx,v=scV q.1 q.2.1 q.2.2.1 q.2.2.2.1 q.2.2.2.2.1 q.2.2.2.2.2∧RdSc W q.1 q.2.1 q.2.2.1 q.2.2.2.1 q.2.2.2.2.1 q.2.2.2.2.2∧GoodS q.1:=by
 unfold Value.okWide at hv;rw [Tryz.underlying38]at hv;obtain⟨cs,rfl,hs,ts,ht,-,hc⟩:=hv;have c2:Tryz.prog.cellsOf 38=12:=by kernel_rfl
 rw [c2]at hs;obtain⟨fuel,hf⟩:=h;obtain⟨l⟩:=cs;have hs':l.length=12:=by simpa using hs
 obtain⟨ys,m,-,-,-,hys,hfs⟩:=DataW.trod_struct Tryz.underlying38 hf
 match ys,hys,l,hs' with
 | [y0,y1,y2,y3],_,[v0,v1,v2,u0,u1,u2,u3,u4,u5,u6,u7,u8],_ =>
  have g0:=hfs 0 _ rfl;have g1:=hfs 1 _ rfl;have g2:=hfs 2 _ rfl;have g3:=hfs 3 _ rfl;have cw:Tryz.prog.cellsOf 29=1:=by kernel_rfl
  have cp:Tryz.prog.cellsOf 30=1:=by kernel_rfl
  have cn:Tryz.prog.cellsOf 31=1:=by kernel_rfl
  have ct:Tryz.prog.cellsOf 36=9:=by kernel_rfl
  simp [cw,cp,cn,ct]at g0 g1 g2 g3;obtain⟨ls,rl,gl,ll⟩:=words_in g0;obtain⟨os,ro,go,lo⟩:=pairs_in g1;obtain⟨ns,rn,gn,ln⟩:=named_in g2;obtain⟨th,gh,fo,lf,hn,ga⟩:=typ_in g3 rfl;obtain⟨nv,pv,e2,hy⟩:=RdY.node hn;have e3:[u0,u1,u2,u3,u4,u5,u6,u7,u8]=[.int .i64 th.kind,.int .i64 th.at_,.int .i64 th.lo,.int .i64 th.hi,.int .i64 th.most,nv,pv,.string th.name,.int .i64 th.nat]:=e2;simp only[List.cons.injEq,and_true]at e3;obtain⟨rfl,rfl,rfl,rfl,rfl,rfl,rfl,rfl,rfl⟩:=e3;exact⟨((ls,os,ns,th,fo),v0,v1,v2,_,_),rfl,⟨rl,ro,rn,hy⟩,⟨gl,ll,go,lo,gn,ln,gh,ga,lf⟩⟩
end Unp
namespace Kin
open Go.RowKit Go.Lib Utf Nam Lat
theorem same15_calls(f:Ft):SameQ f:=Fo.deep same15_step f
def cW:Ft→Int→Int
| .nil,a=>a
| .cons p _ k r,a=>cW r (if p.bare then a else wrap64 (a+cW k 1))
def dW:Ft→Int→Int
| .nil,a=>a
| .cons p _ k r,a=>dW r (if p.bare then a else if a<wrap64 (dW k 0+1)then wrap64 (dW k 0+1)else a)
def SizeQ(f:Ft):Prop:=∀(h:TH)(nv pv:Value)(w:World),f.len≤maxLen→f.All GoodH GoodL→RdY w h f nv pv→∀R:Ending→World→Prop,
Hid (∀w',Below w.heap.size w w'→R (.returned (.tuple #[.int .i64 (cW f 1),.int .i64 (wrap64 (dW f 0+1))])) w')→Calls Tryz.prog 47 #[tyV h nv pv] w R
theorem size15_step(f:Ft)(ih:Fo.AllK SizeQ f):SizeQ f:=by
 intro h nv pv w hfl hga hy R hR;replace hfl:f.len≤9223372036854775807:=hfl;have bA:=(Below.refl w.heap.size w).alloc (Nat.le_refl _) (.cells (tyL h nv pv).toArray 36);have kA:=TB.new w h nv pv 36;obtain⟨Ap,cp,rfl,hpl⟩:=hy.p.sl;obtain⟨An,cn,rfl,-,-⟩:=hy.n.op;replace hy:=Lib.hid (hy.below bA);replace hga:=Lib.hid hga;replace ih:=Lib.hid ih;replace bA:=Lib.hid bA;replace kA:=Lib.hid kA;go_enter Tryz.func47,Tryz.ntmps47
 go_upto_region 1 with fail
 generalize w.alloc (.cells (tyL h (.slice An h.names.length cn) (.slice Ap f.len cp)).toArray 36)=W2 at *;go_wp2_with fail
 go_loopg [4,5,6] f.len (fun g0 n d i wr=>∃(K:Nat) (a b:Int),n=.int .i64 a∧d=.int .i64 b∧i=.int .i64 K∧K+g0=f.len∧Hid (Below W2.heap.size W2 wr)∧cW f 1=cW (f.drop K) a∧dW f 0=dW (f.drop K) b)
 case atStart=>exact⟨0,1,0,rfl,rfl,rfl,by omega,Lib.hid (Below.refl _ _),rfl,rfl⟩
 case round =>
  obtain⟨K,a,b,rfl,rfl,rfl,e1,nW,e2,e3⟩:=hrel;have a6:=(kA.out.below nW.out).k6
  by_cases hK:K<f.len
  ·obtain⟨p,x,kd,r,e⟩:=Fo.drop_lt hK
   obtain⟨g,o,lv,cv,nx,px,rfl,hg,-,-,hyx,hc⟩:=(hy.out.below nW.out).p.part e;have x2:=hc 2 _ rfl;obtain⟨gp,gx,gk',ga2⟩:=all_at K hga.out e;have ihK:=Lib.hid ((ih.out).at_ e);rw [e]at e2 e3;have d1:=Fo.drop_succ K e;have i0:(0:Int)≤(K:Int):=by omega
   have i1:(K:Int)<(f.len:Int):=by omega
   have e4:cW f 1=cW r (if p.bare then a else wrap64 (a+cW kd 1)):=e2;have e5:dW f 0=dW r (if p.bare then b else if b<wrap64 (dW kd 0+1)then wrap64 (dW kd 0+1)else b):=e3;clear e2 e3;cases hb:p.bare
   ·rw [hb]at x2 e4 e5
    simp only[Bool.false_eq_true,if_false]at e4 e5;have s6:wr.rangeAt g (o+K*18+9) [.int .i64 x.kind,.int .i64 x.at_,.int .i64 x.lo,.int .i64 x.hi,.int .i64 x.most,nx,px,.string x.name,.int .i64 x.nat]:=fun j v h=>by rw [Nat.add_assoc];exact hc (9+j) v (by rw [←List.getElem?_drop];exact h)
    have cS:=Lib.hid fun R hR=>ihK.out x nx px wr gk' ga2 hyx R hR
    clear hc e hyx ihK;go_wp2_with (refine wpList_load_g (by rfl) _ _ rfl g (o+K*18+9) rfl [.int .i64 x.kind,.int .i64 x.at_,.int .i64 x.lo,.int .i64 x.hi,.int .i64 x.most,nx,px,.string x.name,.int .i64 x.nat] _ s6 Tryz.underlying36 rfl (by kernel_rfl) ?_;go_simp)
    refine cS.out _ (Lib.hid fun w5 n5=>?_);have nY:=Lib.hid (nW.out.trans (n5.mono nW.out.size));generalize cW kd 1=ck at *;generalize wrap64 (dW kd 0+1)=dk at *;clear s6 cS n5;rw [←d1]at e4 e5
    by_cases hbd:b<dk
    ·rw [if_pos hbd]at e5
     go_wp2_with fail
     go_roundg (gk-1)
     case measure=>omega
     case rel=>exact⟨K+1,_,_,rfl,rfl,by go_num,by omega,nY,e4,e5⟩
    ·rw [if_neg hbd]at e5
     go_wp2_with fail
     go_roundg (gk-1)
     case measure=>omega
     case rel=>exact⟨K+1,_,_,rfl,rfl,by go_num,by omega,nY,e4,e5⟩
   ·rw [hb]at x2 e4 e5
    simp only[if_true]at e4 e5;rw [←d1]at e4 e5;clear hc e hyx ihK;go_wp2_with fail
    go_roundg (gk-1)
    case measure=>omega
    case rel=>exact⟨K+1,a,b,rfl,rfl,by go_num,by omega,nW,e4,e5⟩
  ·obtain rfl:K=f.len:=by omega
   rw [Fo.drop_all (Nat.le_refl _)]at e2 e3;have e4:cW f 1=a:=e2;have e5:dW f 0=b:=e3;have fin:=Lib.hid (hR.out _ (bA.out.trans (nW.out.mono bA.out.size)));rw [e4,e5]at fin;clear hR e2 e3 e4 e5;go_wp2_with fail
   exact fin.out
theorem size15_calls(f:Ft):SizeQ f:=Fo.deep size15_step f
theorem zero15_calls(f:Ft)(h:TH)(nv pv:Value)(w:World)(hm:h.names.length≤maxLen)(hfl:f.len≤maxLen)(hga:f.All GoodH GoodL)(hy:RdY w h f nv pv)(R:Ending→World→Prop)
  (hR:Hid (∀w',Below w.heap.size w w'→R (.returned (.bool (zeroB h f))) w')):Calls Tryz.prog 236 #[tyV h nv pv] w R:=by
 have bA:=(Below.refl w.heap.size w).alloc (Nat.le_refl _) (.cells (tyL h nv pv).toArray 36);have hz:RdY (w.alloc (.cells (tyL h nv pv).toArray 36)) zTH .nil (.slice none 0 0) (.slice none 0 0):=⟨RdG.none0 _ _ _,RdSl.nil _ _ _⟩;have cS:=Lib.hid fun R hR=>(show Calls Tryz.prog 233 #[tyV h nv pv,.agg #[.int .i64 0,.int .i64 0,.int .i64 0,.int .i64 0,.int .i64 0,.slice none 0 0,.slice none 0 0,.string ⟨#[]⟩,.int .i64 0]] (w.alloc (.cells (tyL h nv pv).toArray 36)) R from same15_calls f h zTH .nil nv pv _ _ _ hm hfl hga (hy.below bA) hz R hR)
 obtain⟨Ap,cp,rfl,-⟩:=hy.p.sl;obtain⟨An,cn,rfl,-,-⟩:=hy.n.op;replace bA:=Lib.hid bA;clear hy hz hga;go_enter Tryz.func236,Tryz.ntmps236
 go_wp2_with fail
 refine cS.out _ (Lib.hid fun w3 n3=>?_);have fin:=Lib.hid (hR.out _ (bA.out.trans (n3.mono bA.out.size)));unfold zeroB at fin;clear n3 hR cS;go_wp2_with fail
 exact fin.out
theorem sameF_nil(f:Ft):sameF f .nil=decide (f.len=0):=by
 cases f with
 | nil=>rfl
 | cons p h k r=>simp [sameF,Fo.len]
theorem sameW_nil(l:List Wr):sameW l []=decide (l=[]):=by
 unfold sameW;cases l<;>simp [nms]
theorem own15_calls(f:Ft)(h:TH)(nv pv:Value)(w:World)(hm:h.names.length≤maxLen)(hfl:f.len≤maxLen)(hga:f.All GoodH GoodL)(hy:RdY w h f nv pv)(R:Ending→World→Prop)
  (hR:Hid (∀w',Below w.heap.size w w'→R (.returned (.bool (ownB h f))) w')):Calls Tryz.prog 166 #[tyV h nv pv] w R:=by
 have bA:=(Below.refl w.heap.size w).alloc (Nat.le_refl _) (.cells (tyL h nv pv).toArray 36);have b2:∀o,Below w.heap.size w ((w.alloc (.cells (tyL h nv pv).toArray 36)).alloc o):=fun o=>bA.alloc bA.size o
 have cO:=Lib.hid fun(h':TH) (f':Ft) (nv' pv':Value) (hy':RdY w h' f' nv' pv') R hR=>same15_calls f h h' f' nv pv nv' pv' ((w.alloc (.cells (tyL h nv pv).toArray 36)).alloc (.cells (tyL h' nv' pv').toArray 36)) hm hfl hga (hy.below (b2 _)) (hy'.below (b2 _)) R hR
 have nn:RdW w (.slice none 0 0) []:=RdG.none0 _ _ _;have pn:RdP w (.slice none 0 0) .nil:=RdSl.nil _ _ _;have yn:=hy.n;have yp:=hy.p;obtain⟨Ap,cp,rfl,-⟩:=hy.p.sl;obtain⟨An,cn,rfl,-,-⟩:=hy.n.op;obtain⟨k,at_,lo,hi,most,names,name,nat⟩:=h;simp only at hm yn yp cO b2 hR;replace b2:=Lib.hid b2;replace nn:=Lib.hid nn;replace pn:=Lib.hid pn;replace yn:=Lib.hid yn;replace yp:=Lib.hid yp;clear hy hga hm hfl bA
 by_cases c2:k=2
 ·subst c2
  go_enter Tryz.func166,Tryz.ntmps166
  go_wp2_with fail
  refine cO.out ⟨2,0,lo,hi,0,[],⟨#[]⟩,0⟩ .nil (.slice none 0 0) (.slice none 0 0) ⟨nn.out,pn.out⟩ _ (Lib.hid fun w3 n3=>?_)
  have hq:sameS ⟨2,at_,lo,hi,most,names,name,nat⟩ f ⟨2,0,lo,hi,0,[],⟨#[]⟩,0⟩ .nil=ownB ⟨2,at_,lo,hi,most,names,name,nat⟩ f:=by
   unfold sameS headB ownB;simp only[sameF_nil,sameW_nil,sameW_refl,sameF_refl];rw [Bool.eq_iff_iff];simp [show ByteArray.empty=(⟨#[]⟩:ByteArray)from rfl]<;>(constructor<;>(intro q;simp_all))
  have fin:=Lib.hid (hR.out _ ((b2.out _).trans (n3.mono (b2.out _).size)));rw [←hq]at fin;clear hR n3 cO b2 hq;go_wp2_with fail
  exact fin.out
 by_cases c3:k=3
 ·subst c3
  go_enter Tryz.func166,Tryz.ntmps166
  go_wp2_with fail
  refine cO.out ⟨3,0,0,0,most,[],⟨#[]⟩,0⟩ .nil (.slice none 0 0) (.slice none 0 0) ⟨nn.out,pn.out⟩ _ (Lib.hid fun w3 n3=>?_)
  have hq:sameS ⟨3,at_,lo,hi,most,names,name,nat⟩ f ⟨3,0,0,0,most,[],⟨#[]⟩,0⟩ .nil=ownB ⟨3,at_,lo,hi,most,names,name,nat⟩ f:=by
   unfold sameS headB ownB;simp only[sameF_nil,sameW_nil,sameW_refl,sameF_refl];rw [Bool.eq_iff_iff];simp [show ByteArray.empty=(⟨#[]⟩:ByteArray)from rfl]<;>(constructor<;>(intro q;simp_all))
  have fin:=Lib.hid (hR.out _ ((b2.out _).trans (n3.mono (b2.out _).size)));rw [←hq]at fin;clear hR n3 cO b2 hq;go_wp2_with fail
  exact fin.out
 by_cases c4:k=4
 ·subst c4
  go_enter Tryz.func166,Tryz.ntmps166
  go_wp2_with fail
  refine cO.out ⟨4,0,0,0,0,names,⟨#[]⟩,0⟩ .nil (.slice An names.length cn) (.slice none 0 0) ⟨yn.out,pn.out⟩ _ (Lib.hid fun w3 n3=>?_)
  have hq:sameS ⟨4,at_,lo,hi,most,names,name,nat⟩ f ⟨4,0,0,0,0,names,⟨#[]⟩,0⟩ .nil=ownB ⟨4,at_,lo,hi,most,names,name,nat⟩ f:=by
   unfold sameS headB ownB;simp only[sameF_nil,sameW_nil,sameW_refl,sameF_refl];rw [Bool.eq_iff_iff];simp [show ByteArray.empty=(⟨#[]⟩:ByteArray)from rfl]<;>(constructor<;>(intro q;simp_all))
  have fin:=Lib.hid (hR.out _ ((b2.out _).trans (n3.mono (b2.out _).size)));rw [←hq]at fin;clear hR n3 cO b2 hq;go_wp2_with fail
  exact fin.out
 by_cases c5:k=5
 ·subst c5
  go_enter Tryz.func166,Tryz.ntmps166
  go_wp2_with fail
  refine cO.out ⟨5,0,0,0,most,[],⟨#[]⟩,0⟩ f (.slice none 0 0) (.slice Ap f.len cp) ⟨nn.out,yp.out⟩ _ (Lib.hid fun w3 n3=>?_)
  have hq:sameS ⟨5,at_,lo,hi,most,names,name,nat⟩ f ⟨5,0,0,0,most,[],⟨#[]⟩,0⟩ f=ownB ⟨5,at_,lo,hi,most,names,name,nat⟩ f:=by
   unfold sameS headB ownB;simp only[sameW_nil,sameW_refl,sameF_refl];rw [Bool.eq_iff_iff];simp [show ByteArray.empty=(⟨#[]⟩:ByteArray)from rfl]<;>(constructor<;>(intro q;simp_all))
  have fin:=Lib.hid (hR.out _ ((b2.out _).trans (n3.mono (b2.out _).size)));rw [←hq]at fin;clear hR n3 cO b2 hq;go_wp2_with fail
  exact fin.out
 by_cases c6:k=6
 ·subst c6
  go_enter Tryz.func166,Tryz.ntmps166
  go_wp2_with fail
  refine cO.out ⟨6,0,0,0,0,[],⟨#[]⟩,0⟩ f (.slice none 0 0) (.slice Ap f.len cp) ⟨nn.out,yp.out⟩ _ (Lib.hid fun w3 n3=>?_)
  have hq:sameS ⟨6,at_,lo,hi,most,names,name,nat⟩ f ⟨6,0,0,0,0,[],⟨#[]⟩,0⟩ f=ownB ⟨6,at_,lo,hi,most,names,name,nat⟩ f:=by
   unfold sameS headB ownB;simp only[sameW_nil,sameW_refl,sameF_refl];rw [Bool.eq_iff_iff];simp [show ByteArray.empty=(⟨#[]⟩:ByteArray)from rfl]<;>(constructor<;>(intro q;simp_all))
  have fin:=Lib.hid (hR.out _ ((b2.out _).trans (n3.mono (b2.out _).size)));rw [←hq]at fin;clear hR n3 cO b2 hq;go_wp2_with fail
  exact fin.out
 by_cases c7:k=7
 ·subst c7
  go_enter Tryz.func166,Tryz.ntmps166
  go_wp2_with fail
  refine cO.out ⟨7,0,0,0,0,[],⟨#[]⟩,0⟩ f (.slice none 0 0) (.slice Ap f.len cp) ⟨nn.out,yp.out⟩ _ (Lib.hid fun w3 n3=>?_)
  have hq:sameS ⟨7,at_,lo,hi,most,names,name,nat⟩ f ⟨7,0,0,0,0,[],⟨#[]⟩,0⟩ f=ownB ⟨7,at_,lo,hi,most,names,name,nat⟩ f:=by
   unfold sameS headB ownB;simp only[sameW_nil,sameW_refl,sameF_refl];rw [Bool.eq_iff_iff];simp [show ByteArray.empty=(⟨#[]⟩:ByteArray)from rfl]<;>(constructor<;>(intro q;simp_all))
  have fin:=Lib.hid (hR.out _ ((b2.out _).trans (n3.mono (b2.out _).size)));rw [←hq]at fin;clear hR n3 cO b2 hq;go_wp2_with fail
  exact fin.out
 by_cases c8:k=8
 ·subst c8
  go_enter Tryz.func166,Tryz.ntmps166
  go_wp2_with fail
  refine cO.out ⟨8,0,0,0,0,[],⟨#[]⟩,0⟩ f (.slice none 0 0) (.slice Ap f.len cp) ⟨nn.out,yp.out⟩ _ (Lib.hid fun w3 n3=>?_)
  have hq:sameS ⟨8,at_,lo,hi,most,names,name,nat⟩ f ⟨8,0,0,0,0,[],⟨#[]⟩,0⟩ f=ownB ⟨8,at_,lo,hi,most,names,name,nat⟩ f:=by
   unfold sameS headB ownB;simp only[sameW_nil,sameW_refl,sameF_refl];rw [Bool.eq_iff_iff];simp [show ByteArray.empty=(⟨#[]⟩:ByteArray)from rfl]<;>(constructor<;>(intro q;simp_all))
  have fin:=Lib.hid (hR.out _ ((b2.out _).trans (n3.mono (b2.out _).size)));rw [←hq]at fin;clear hR n3 cO b2 hq;go_wp2_with fail
  exact fin.out
 by_cases c9:k=9
 ·subst c9
  go_enter Tryz.func166,Tryz.ntmps166
  go_wp2_with fail
  refine cO.out ⟨9,0,0,0,0,[],name,nat⟩ .nil (.slice none 0 0) (.slice none 0 0) ⟨nn.out,pn.out⟩ _ (Lib.hid fun w3 n3=>?_)
  have hq:sameS ⟨9,at_,lo,hi,most,names,name,nat⟩ f ⟨9,0,0,0,0,[],name,nat⟩ .nil=ownB ⟨9,at_,lo,hi,most,names,name,nat⟩ f:=by
   unfold sameS headB ownB;simp only[sameF_nil,sameW_nil,sameW_refl,sameF_refl];rw [Bool.eq_iff_iff];simp [show ByteArray.empty=(⟨#[]⟩:ByteArray)from rfl]<;>(constructor<;>(intro q;simp_all))
  have fin:=Lib.hid (hR.out _ ((b2.out _).trans (n3.mono (b2.out _).size)));rw [←hq]at fin;clear hR n3 cO b2 hq;go_wp2_with fail
  exact fin.out
 by_cases c10:4<k
 ·have c11:9<k:=by omega
  have q2:(k==2)=false:=by simpa using c2
  have q3:(k==3)=false:=by simpa using c3
  have q4:(k==4)=false:=by simpa using c4
  have q5:(k==5)=false:=by simpa using c5
  have q9:(k==9)=false:=by simpa using c9
  have c5x:¬(4<k∧k<9):=by omega
  go_enter Tryz.func166,Tryz.ntmps166
  go_wp2_with fail
  refine cO.out ⟨k,0,0,0,0,[],⟨#[]⟩,0⟩ .nil (.slice none 0 0) (.slice none 0 0) ⟨nn.out,pn.out⟩ _ (Lib.hid fun w3 n3=>?_)
  have hq:sameS ⟨k,at_,lo,hi,most,names,name,nat⟩ f ⟨k,0,0,0,0,[],⟨#[]⟩,0⟩ .nil=ownB ⟨k,at_,lo,hi,most,names,name,nat⟩ f:=by
   unfold sameS headB ownB;simp only[sameF_nil,sameW_nil,sameW_refl,sameF_refl];rw [Bool.eq_iff_iff];simp [show ByteArray.empty=(⟨#[]⟩:ByteArray)from rfl,c2,c3,c4,c9,c5x]<;>(constructor<;>(intro q;simp_all))
  have fin:=Lib.hid (hR.out _ ((b2.out _).trans (n3.mono (b2.out _).size)));rw [←hq]at fin;clear hR n3 cO b2 hq;go_wp2_with fail
  exact fin.out
 ·skip
  have q2:(k==2)=false:=by simpa using c2
  have q3:(k==3)=false:=by simpa using c3
  have q4:(k==4)=false:=by simpa using c4
  have q5:(k==5)=false:=by simpa using c5
  have q9:(k==9)=false:=by simpa using c9
  have c5x:¬(4<k∧k<9):=by omega
  go_enter Tryz.func166,Tryz.ntmps166
  go_wp2_with fail
  refine cO.out ⟨k,0,0,0,0,[],⟨#[]⟩,0⟩ .nil (.slice none 0 0) (.slice none 0 0) ⟨nn.out,pn.out⟩ _ (Lib.hid fun w3 n3=>?_)
  have hq:sameS ⟨k,at_,lo,hi,most,names,name,nat⟩ f ⟨k,0,0,0,0,[],⟨#[]⟩,0⟩ .nil=ownB ⟨k,at_,lo,hi,most,names,name,nat⟩ f:=by
   unfold sameS headB ownB;simp only[sameF_nil,sameW_nil,sameW_refl,sameF_refl];rw [Bool.eq_iff_iff];simp [show ByteArray.empty=(⟨#[]⟩:ByteArray)from rfl,c2,c3,c4,c9,c5x]<;>(constructor<;>(intro q;simp_all))
  have fin:=Lib.hid (hR.out _ ((b2.out _).trans (n3.mono (b2.out _).size)));rw [←hq]at fin;clear hR n3 cO b2 hq;go_wp2_with fail
  exact fin.out
theorem nms_at{l:List Wr}{i:Nat}(h:i<l.length):(nms l).getD i ByteArray.empty=(wN l i).1:=by
 rw [List.getD_eq_getElem?_getD,nms_get h];rfl
theorem mem_take{l:List Wr}{i:Nat}(h:i<l.length)(x:ByteArray):x∈(nms l).take (i+1)↔(x∈(nms l).take i∨(wN l i).1=x):=by
 have hn:i<(nms l).length:=by rw [nms_len];exact h
 rw [List.take_add_one,List.mem_append,nms_get h];simp [eq_comm]
theorem listed15_calls(a:List Wr)(i:Nat)(hi:i<a.length)(hm:a.length≤maxLen)(hg:∀x∈a,GoodW x)(va:Value)(w:World)(ha:RdW w va a)(R:Ending→World→Prop)(hR:Hid (∀w',Below w.heap.size w w'→R (.returned (.int .i64 (listedS (nms a) i))) w')):Calls Tryz.prog 167 #[va,.int .i64 i] w R:=by
 replace hm:a.length≤9223372036854775807:=hm;obtain⟨A,ca,rfl,hca,hra⟩:=ha.op;obtain⟨ga,oa,rfl,hga,cl⟩:=hra (by omega);have hn:=nms_at hi;have j0:(0:Int)≤(i:Int):=by omega
 have j1:(i:Int)<(a.length:Int):=by omega
 have x0:=(cl i hi).1;have hz:=(hg _ (wN_mem hi)).1;have hls:listedS (nms a) i=if rightS (wN a i).1=false then 9 else if(wN a i).1∈(nms a).take i then 10 else 0:=by unfold listedS;rw [hn]
 have cR:=Lib.hid fun R hR=>refright_calls (wN a i).1 hz w R hR
 rw [hls]at hR;replace cl:=Lib.hid cl;clear hls hra ha hn hz;generalize hxe:(wN a i).1=x at *;go_enter Tryz.func167,Tryz.ntmps167
 go_wp2_with fail
 refine cR.out _ (Lib.hid ?_);cases hr:rightS x
 ·rw [hr,if_pos rfl]at hR
  have fin:=Lib.hid (hR.out _ (Below.refl _ _));clear hR cR hr;go_wp2_with fail
  exact fin.out
 ·rw [hr,if_neg (by simp)]at hR
  clear cR hr;go_wp2_with fail
  go_loopg [5] i (fun g k wr=>∃K:Nat,k=.int .i64 K∧K+g=i∧Hid (Below w.heap.size w wr)∧¬x∈(nms a).take K)
  case atStart=>exact⟨0,rfl,by omega,Lib.hid (Below.refl _ _),by simp⟩
  case round =>
   obtain⟨K,rfl,e1,nb,e2⟩:=hrel
   by_cases hK:K<i
   ·have hKa:K<a.length:=by omega
    have y0:=(nb.out.cell (p:=⟨ga,oa+K*2,none⟩) hga).trans (cl.out K hKa).1;replace x0:=(nb.out.cell (p:=⟨ga,oa+i*2,none⟩) hga).trans x0;have i0:(0:Int)≤(K:Int):=by omega
    have i1:(K:Int)<(a.length:Int):=by omega
    have i2:(K:Int)<(i:Int):=by omega
    have hmt:=mem_take hKa x
    by_cases hq:(wN a K).1=x
    ·have q2:=sq_t hq
     have hin:x∈(nms a).take i:=List.take_subset_take_left _ (by omega) (hmt.2 (.inr hq));rw [if_pos hin]at hR;have fin:=Lib.hid (hR.out _ nb.out.drew);clear hR hin hmt hq hxe e2;generalize(wN a K).1=y at *;go_wp2_with fail
     go_region;go_wp2_with fail
     exact fin.out
    ·have q2:=sq_f hq
     have e3:¬x∈(nms a).take (K+1):=fun q=>by rcases hmt.1 q with q|q;exact e2 q;exact hq q
     clear hmt hq hxe e2;generalize(wN a K).1=y at *;go_wp2_with fail
     go_region;go_wp2_with fail
     go_roundg (gk-1)
     case measure=>omega
     case rel=>exact⟨K+1,by go_num,by omega,Lib.hid nb.out.drew,e3⟩
   ·obtain rfl:K=i:=by omega
    rw [if_neg e2]at hR;have fin:=Lib.hid (hR.out _ nb.out);clear hR e2;go_wp2_with fail
    exact fin.out
theorem pnm_drop:∀(n:Nat){f:Ft}{p:PH}{x:TH}{k r:Ft},f.drop n=.cons p x k r→(pnm f).take (n+1)=(pnm f).take n++[(p.name,p.at_)]
| 0,f,p,x,k,r,e=>by
 have e':f=.cons p x k r:=e;rw [e'];rfl
| n+1,.nil,p,x,k,r,e=>by simp [Fo.drop]at e
| n+1,.cons q y l s,p,x,k,r,e=>by
 have:=pnm_drop n (f:=s) e;simp only[pnm,List.take_succ_cons,this,List.cons_append]
theorem infoWrd:(Tryz.prog.info? 34).map (fun i=>(i.zero,i.size,i.bytes))=some (some (.agg #[.string ⟨#[]⟩,.int .i64 0]),2,24):=by kernel_rfl
theorem names15_calls(f:Ft)(hfl:f.len≤64)(pv:Value)(w:World)(hp:RdP w pv f)(R:Ending→World→Prop)(hR:Hid (∀v' w',RdW w' v' (pnm f)→Below w.heap.size w w'→R (.returned v') w')):Calls Tryz.prog 235 #[pv] w R:=by
 obtain⟨ti,hI,hZ⟩:∃i0,Tryz.prog.info? 34=some i0∧(i0.zero,i0.size,i0.bytes)=(some (.agg #[.string ⟨#[]⟩,.int .i64 0]),2,24):=by
  have:=infoWrd;cases h:Tryz.prog.info? 34 with
  | none=>rw [h]at this;cases this
  | some i0=>rw [h]at this;exact⟨i0,rfl,by simpa using this⟩
 simp only[Prod.mk.injEq]at hZ;obtain⟨hz0,hz1,hz2⟩:=hZ;obtain⟨Ap,cp,rfl,hpl⟩:=hp.sl;replace hp:=Lib.hid hp;go_enter Tryz.func235,Tryz.ntmps235
 go_wp2_with fail
 go_loopg [3,4] f.len (fun g s k wr=>∃(K:Nat) (v:Value),s=v∧k=.int .i64 K∧K+g=f.len∧Hid (Below w.heap.size w wr)∧Hid (wr.ownsRow w.heap.size 34 2 v K (flatG encW ((pnm f).take K))))
 case atStart=>exact⟨0,_,rfl,rfl,by omega,Lib.hid (Below.refl _ _),Lib.hid (by simpa [flatG]using World.ownsRow_nil _ _ _ _)⟩
 case round =>
  obtain⟨K,v,rfl,rfl,e1,nb,own⟩:=hrel
  by_cases hK:K<f.len
  ·obtain⟨p,x,kd,r,e⟩:=Fo.drop_lt hK
   obtain⟨g,o,lv,cv,nx,px,rfl,hg,-,-,-,hc⟩:=RdP.part (RdSl.kp (hd:=hdT) (pl:=plT) (fun _ _ _ _ _ q h=>hdT.kp q h) (fun _ _ _ _ q h=>plT.kp q h) (Kp.of_below nb.out) hp.out) e;have x0:=hc 0 _ rfl;have x1:=hc 1 _ rfl;rw [Nat.add_zero]at x0;have i0:(0:Int)≤(K:Int):=by omega
   have i1:(K:Int)<(f.len:Int):=by omega
   have ht:=pnm_drop K e;have hsz:=nb.out.size;clear hc e;go_wp2_with (at_builtin;go_loud (refine appK _ #[.string p.name,.int .i64 p.at_] 2 34 rfl _ _ 29 rfl w.heap.size ti (.agg #[.string ⟨#[]⟩,.int .i64 0]) 24 Tryz.underlying29 hI hz0 hz1 hz2 rfl (by decide) rfl _ K (flatG encW ((pnm f).take K)) rfl own.out _ rfl rfl (by simp [Value.oneCell']) (by unfold maxLen;omega) (by omega) hsz ?_);rintro v' w3 hown3 hg3 hb3)
   have own2:=Lib.hid (show w3.ownsRow w.heap.size 34 2 v' (K+1) (flatG encW ((pnm f).take (K+1)))by rw [ht,flatG_snoc];exact hown3)
   have nb2:=Lib.hid (nb.out.trans hb3);clear hown3 hg3 hb3 own nb ht;go_wp2_with fail
   go_roundg (gk-1)
   case measure=>omega
   case rel=>exact⟨K+1,_,rfl,by go_num,by omega,nb2,own2⟩
  ·obtain rfl:K=f.len:=by omega
   have et:(pnm f).take f.len=pnm f:=by rw [←pnm_len,List.take_length]
   have rd:=RdG.of_own own.out;rw [et]at rd;have fin:=Lib.hid (hR.out _ _ rd nb.out);clear hR rd own;go_wp2_with fail
   exact fin.out
theorem wrB_cnt(h:TH)(k:Ft)(sub:Mo→Nat→Nat→Res)(hs:∀mo d m,m≤512→(sub mo d m).1=0→(sub mo d m).2.2≤512)(d m:Nat):(wrB h k sub d m).1=0→(wrB h k sub d m).2.2≤512:=by
 unfold wrB
 by_cases h1:24<d
 ·rw [if_pos h1];simp
 rw [if_neg h1]
 by_cases h2:512<m+1
 ·rw [if_pos h2];simp
 rw [if_neg h2]
 have hm:m+1≤512:=by omega
 repeat' split
 all_goals first|exact hs _ _ _ hm|(intro _;exact hm)
theorem wrF_cnt:∀(f:Ft)(mo:Mo)(d m:Nat),m≤512→(wrF f mo d m).1=0→(wrF f mo d m).2.2≤512
| .nil,_,_,m,hm=>fun _=>hm
| .cons p h k r,.one,d,m,hm=>wrB_cnt h k _ (wrF_cnt k) d m
| .cons p h k r,.parts K ns i,d,m,hm=>by
 have hB:=wrB_cnt h k _ (wrF_cnt k) d m;have hr:=fun m hm=>wrF_cnt r (.parts K ns (i+1)) d m hm
 unfold wrF;generalize wrB h k (wrF k) d m=A at *
 repeat' split
 all_goals first|exact hr _ hm|exact hB|(intro _;exact hm)|skip
 rename_i q
 exact hr _ (hB (by simpa using q))
theorem blt_of{V:World}{b:Nat}{o:Obj}(h:V.heap[b]?=some o):b<V.heap.size:=(Array.getElem?_eq_some_iff.1 h).1
theorem good_pnm:∀{f:Ft},f.All GoodH GoodL→∀y∈pnm f,GoodW y
| .nil,_,y,h=>by simp [pnm]at h
| .cons p x k r,a,y,h=>by
 rcases List.mem_cons.1 h with rfl|h
 ·exact⟨a.1.1,a.1.2.1⟩
 ·exact good_pnm a.2.2.2.2 y h
theorem pnm_at:∀(n:Nat){f:Ft}{p:PH}{x:TH}{k r:Ft},f.drop n=.cons p x k r→wN (pnm f) n=(p.name,p.at_)
| 0,f,p,x,k,r,e=>by
 have e':f=.cons p x k r:=e;rw [e'];rfl
| n+1,.nil,p,x,k,r,e=>by simp [Fo.drop]at e
| n+1,.cons q y l s,p,x,k,r,e=>by
 have:=pnm_at n (f:=s) e;simpa [pnm,wN]using this
theorem set_atK{w:World}{p:Nat}{cs:Array Value}{t:TypeId}(h:w.heap[p]?=some (.cells cs t))(o:Nat)(v:Value):(w.setCell ⟨p,o,none⟩ v).heap[p]?=some (.cells (cs.setIfInBounds o v) t):=by
 simp [World.setCell,Array.getElem?_modify,h]
theorem set_neK{w:World}{q o k:Nat}{v:Value}(h:k≠q):(w.setCell ⟨q,o,none⟩ v).heap[k]?=w.heap[k]?:=Below.heap_setCell _ ⟨q,o,none⟩ v k h
theorem enumF_zero(ns:List ByteArray):∀(l:List Wr)(i:Nat),(enumF ns i l).1=0→(enumF ns i l).2=0
| [],_=>fun _=>rfl
| x::r,i=>by
 unfold enumF
 split
 ·rename_i q;exact fun h=>absurd h q
 ·exact enumF_zero ns r (i+1)
theorem wrB_zero(h:TH)(k:Ft)(sub:Mo→Nat→Nat→Res)(hs:∀mo d m,(sub mo d m).1=0→(sub mo d m).2.1=0)(d m:Nat):(wrB h k sub d m).1=0→(wrB h k sub d m).2.1=0:=by
 unfold wrB
 by_cases h1:24<d
 ·rw [if_pos h1];simp
 rw [if_neg h1]
 by_cases h2:512<m+1
 ·rw [if_pos h2];simp
 rw [if_neg h2]
 repeat' split
 all_goals first|exact hs _ _ _|exact enumF_zero _ _ _|(intro _;rfl)|(intro q;simp at q)
theorem wrF_zero:∀(f:Ft)(mo:Mo)(d m:Nat),(wrF f mo d m).1=0→(wrF f mo d m).2.1=0
| .nil,_,_,m=>fun _=>rfl
| .cons p h k r,.one,d,m=>wrB_zero h k _ (wrF_zero k) d m
| .cons p h k r,.parts K ns i,d,m=>by
 have hB:=wrB_zero h k _ (wrF_zero k) d m;have hr:=fun m=>wrF_zero r (.parts K ns (i+1)) d m
 unfold wrF;generalize wrB h k (wrF k) d m=A at *
 repeat' split
 all_goals first|exact hr _|exact hB|(rename_i q;exact fun h=>absurd h q)|(intro q;simp at q)
noncomputable def partS(h:TH)(f:Ft)(d m:Nat):Res:=if h.kind=8∧f.len=0 then(15,h.at_,m)else if 64<f.len then(8,(wN (pnm f) 64).2,m)else wrF f (.parts h.kind (nms (pnm f)) 0) (d+1) m
theorem TB.range{w:World}{B:Nat}{h:TH}{nv pv:Value}(q:TB w B h nv pv):w.rangeAt B 0 [.int .i64 h.kind,.int .i64 h.at_,.int .i64 h.lo,.int .i64 h.hi,.int .i64 h.most,nv,pv,.string h.name,.int .i64 h.nat]:=fun j v hj=>by
 rw [Nat.zero_add]
 match j,hj with
 | 0,e=>obtain rfl:=Option.some.inj e;exact q.k0
 | 1,e=>obtain rfl:=Option.some.inj e;exact q.k1
 | 2,e=>obtain rfl:=Option.some.inj e;exact q.k2
 | 3,e=>obtain rfl:=Option.some.inj e;exact q.k3
 | 4,e=>obtain rfl:=Option.some.inj e;exact q.k4
 | 5,e=>obtain rfl:=Option.some.inj e;exact q.k5
 | 6,e=>obtain rfl:=Option.some.inj e;exact q.k6
 | 7,e=>obtain rfl:=Option.some.inj e;exact q.k7
 | 8,e=>obtain rfl:=Option.some.inj e;exact q.k8
 | _+9,e=>simp at e
theorem TB.set1{w:World}{B q:Nat}{h:TH}{nv pv:Value}(t:TB w B h nv pv)(hq:B≠q)(o:Nat)(a:Value):TB (w.setCell ⟨q,o,none⟩ a) B h nv pv:=by
 have e:(w.setCell ⟨q,o,none⟩ a).heap[B]?=w.heap[B]?:=set_neK hq;have k:=fun j=>World.cell?_of_block (a:=⟨B,j,none⟩) e
 exact⟨by simp [World.setCell];exact t.lt,(k 0).trans t.k0,(k 1).trans t.k1,(k 2).trans t.k2,(k 3).trans t.k3,(k 4).trans t.k4,(k 5).trans t.k5,(k 6).trans t.k6,(k 7).trans t.k7,(k 8).trans t.k8⟩
section
variable {h:TH} {k:Ft} {sub:Mo→Nat→Nat→Res} {d m M:Nat}
theorem wrB_ok(hM:M=m+1)(hd:d≤24)(hm:M≤512)(h1:1≤h.kind)(h9:h.kind≤9)(ho:ownB h k=true):wrB h k sub d m =
  if(h.kind=2∧h.hi<h.lo)∨(h.kind=3∧(h.most<0∨4096<h.most))then(20,h.at_,M)
  else if h.kind=9∧rightS h.name=false then(9,h.nat,M)
  else if h.kind=4 then(if h.names=[]then(15,h.at_,M)else if 64<h.names.length then(8,(wN h.names 64).2,M)else((enumF (nms h.names) 0 h.names).1,(enumF (nms h.names) 0 h.names).2,M))
  else if h.kind=5∨h.kind=6 then(if onlyB k=false then(19,h.at_,M)else if h.most<0∨1024<h.most then(20,h.at_,M)else sub .one (d+1) M)
  else if h.kind=7∨h.kind=8 then(if h.kind=8∧k.len=0 then(15,h.at_,M)else if 64<k.len then(8,(wN (pnm k) 64).2,M)else sub (.parts h.kind (nms (pnm k)) 0) (d+1) M)
  else(0,0,M):=by
 subst hM;unfold wrB;rw [if_neg (by omega),if_neg (by omega),if_neg (by omega),if_neg (by rw [ho];simp)]
variable (hM:M=m+1) (hd:d≤24) (hm:M≤512) (ho:ownB h k=true)
include hM hd hm ho
theorem wrB_1(hk:h.kind=1):wrB h k sub d m=(0,0,M):=by rw [wrB_ok hM hd hm (by omega) (by omega) ho];simp [hk]
theorem wrB_2(hk:h.kind=2):wrB h k sub d m=if h.hi<h.lo then(20,h.at_,M)else(0,0,M):=by rw [wrB_ok hM hd hm (by omega) (by omega) ho];simp [hk]
theorem wrB_3(hk:h.kind=3):wrB h k sub d m=if h.most<0∨4096<h.most then(20,h.at_,M)else(0,0,M):=by rw [wrB_ok hM hd hm (by omega) (by omega) ho];simp [hk]
theorem wrB_9(hk:h.kind=9):wrB h k sub d m=if rightS h.name=false then(9,h.nat,M)else(0,0,M):=by rw [wrB_ok hM hd hm (by omega) (by omega) ho];simp [hk]
theorem wrB_4(hk:h.kind=4):wrB h k sub d m=if h.names=[]then(15,h.at_,M)else if 64<h.names.length then(8,(wN h.names 64).2,M)else((enumF (nms h.names) 0 h.names).1,(enumF (nms h.names) 0 h.names).2,M):=by rw [wrB_ok hM hd hm (by omega) (by omega) ho];simp [hk]
theorem wrB_5(hk:h.kind=5∨h.kind=6):wrB h k sub d m=if onlyB k=false then(19,h.at_,M)else if h.most<0∨1024<h.most then(20,h.at_,M)else sub .one (d+1) M:=by
 rw [wrB_ok hM hd hm (by omega) (by omega) ho];rcases hk with hk|hk<;>simp [hk]
theorem wrB_7(hk:h.kind=7):wrB h k (wrF k) d m=partS h k d M:=by rw [wrB_ok hM hd hm (by omega) (by omega) ho];unfold partS;simp [hk]
theorem wrB_8(hk:h.kind=8):wrB h k (wrF k) d m=partS h k d M:=by rw [wrB_ok hM hd hm (by omega) (by omega) ho];unfold partS;simp [hk]
end
theorem wrB_err(h:TH)(k:Ft)(sub:Mo→Nat→Nat→Res)(d m:Nat):wrB h k sub d m =
  if 24<d then(6,h.at_,m+1)else if 512<m+1 then(8,h.at_,m+1)else if h.kind<1∨9<h.kind then(14,h.at_,m+1)else if ownB h k=false then(19,h.at_,m+1)else wrB h k sub d m:=by
 by_cases a:24<d
 ·unfold wrB;simp only[a,if_true]
 by_cases b:512<m+1
 ·unfold wrB;simp only[a,b,if_true,if_false]
 by_cases c:h.kind<1∨9<h.kind
 ·unfold wrB;simp only[a,b,c,if_true,if_false]
 by_cases e:ownB h k=false
 ·unfold wrB;simp only[a,b,c,e,if_true,if_false]
 rw [if_neg a,if_neg b,if_neg c,if_neg e]
theorem enum_drop{ns:List ByteArray}{l:List Wr}{i:Nat}(hi:i<l.length):enumF ns i (l.drop i)=if listedS ns i≠0 then(listedS ns i,(wN l i).2)else enumF ns (i+1) (l.drop (i+1)):=by
 rw [List.drop_eq_getElem_cons hi,wN_get hi];rfl
theorem only_len:∀{f:Ft},f.len≠1→onlyB f=false
| .nil,_=>rfl
| .cons p x k .nil,h=>absurd rfl h
| .cons p x k (.cons ..),_=>rfl
theorem only_one{f:Ft}{p:PH}{x:TH}{k r:Ft}(e:f.drop 0=.cons p x k r)(hl:f.len=1):onlyB f=(decide (p.name=ByteArray.empty)&&plainB p zPH)∧∀d m,wrF f .one d m=wrB x k (wrF k) d m:=by
 have e':f=.cons p x k r:=e;subst e';have:r=.nil:=Fo.len_zero (by simp only[Fo.len]at hl;omega)
 subst this;exact⟨rfl,fun _ _=>rfl⟩
end Kin
end Go.Proofs.YtabhkakomececaaGreat
