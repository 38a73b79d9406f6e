import Derived.Test.YtabhkakomececaaGreatQ27
set_option linter.all false
set_option maxRecDepth 100000
set_option maxHeartbeats 4000000
namespace Go.Proofs.YtabhkakomececaaGreat
open Go.RowKit Go.Lib
theorem Hq.grow{S:Type}{F:Fm S}{s0 s:S}{w V W:World}{l:List (Nat×Obj)}(n:Hq F s0 s w V l){o:Option Nat}(g:V.grownBy W o)(ho:∀k,o=some k→w.heap.size≤k∧¬F.Fr s k∧∀x∈l,x.1≠k):Hq F s0 s w W l :=
⟨F.keep n.inv g.size fun k hk=>g.block k (F.lt n.inv hk) fun e=>(ho k e.symm).2.1 hk,
 n.gr.trans (T:=fun k=>o=some k) ⟨g.os,g.tape,g.output,g.size,fun k hk hn=>g.block k hk fun e=>hn e.symm⟩ fun k e=>.inr (ho k e).1,
 n.sub,fun x hx=>(g.block _ (hp_lt (n.at_ x hx)) fun e=>(ho _ e.symm).2.2 x hx rfl).trans (n.at_ x hx),n.lo,n.dj⟩
end Go.Proofs.YtabhkakomececaaGreat
namespace Go.Proofs.YtabhkakomececaaGreat.Res
open Go.RowKit Go.Lib Utf Nam Lat Kin Unp Rel Lab
def edP(nm:List ByteArray)(F:Nat→Nat→Bool)(p:PH)(d:Int):EdR:=⟨p.name,p.bare,p.at_,d,(lof nm F p.label).1,if p.wide=0 then 3 else p.wide,p.ck,p.cn,(lof nm F p.cl).1,p.cat⟩
def ndP(h:TH):NdR:=⟨h.kind,h.at_,h.lo,h.hi,h.most,nms h.names,[]⟩
def addW(tg:ByteArray→Int)(h:TH)(g:List NdR→List EdR×List NdR)(l:List NdR):Int×List NdR :=
if h.kind=9 then(tg h.name,l)else((l.length:Int),(g (l++[ndP h])).2.set l.length { ndP h with edges:=(g (l++[ndP h])).1 })
def addF(nm:List ByteArray)(F:Nat→Nat→Bool)(tg:ByteArray→Int):Ft→List NdR→List EdR×List NdR
| .nil,l=>([],l)
| .cons p h k r,l =>
 let a:=if p.bare then(-1,l)else addW tg h (addF nm F tg k) l
 (edP nm F p a.1::(addF nm F tg r a.2).1,(addF nm F tg r a.2).2)
def addT(nm:List ByteArray)(F:Nat→Nat→Bool)(tg:ByteArray→Int)(h:TH)(f:Ft)(l:List NdR):Int×List NdR:=addW tg h (addF nm F tg f) l
def Behind(l m:List NdR)(n:Nat):Prop:=l.length≤m.length∧m.length≤l.length+n∧∀i,i<l.length→m[i]?=l[i]?
theorem Behind.refl(l:List NdR):Behind l l 0:=⟨Nat.le_refl _,Nat.le_refl _,fun _ _=>rfl⟩
theorem Behind.trans{a b c:List NdR}{n m:Nat}(h:Behind a b n)(g:Behind b c m):Behind a c (n+m) :=
⟨Nat.le_trans h.1 g.1,by have:=h.2.1;have:=g.2.1;omega,fun i hi=>(g.2.2 i (Nat.lt_of_lt_of_le hi h.1)).trans (h.2.2 i hi)⟩
theorem Behind.snoc(l:List NdR)(x:NdR):Behind l (l++[x]) 1:=⟨by simp,by simp,fun i hi=>List.getElem?_append_left hi⟩
theorem addW_behind{tg:ByteArray→Int}{h:TH}{g:List NdR→List EdR×List NdR}{n:Nat}(hg:∀l,Behind l (g l).2 n)(l:List NdR):Behind l (addW tg h g l).2 (n+1):=by
 unfold addW
 by_cases c:h.kind=9
 ·rw [if_pos c]
  exact⟨Nat.le_refl _,(by show l.length≤l.length+(n+1);omega),fun _ _=>rfl⟩
 ·rw [if_neg c]
  have b:=(Behind.snoc l (ndP h)).trans (hg (l++[ndP h]));refine⟨by rw [List.length_set];exact b.1,by rw [List.length_set];have:=b.2.1;omega,fun i hi=>?_⟩
  rw [List.getElem?_set_ne (by omega)];exact b.2.2 i hi
theorem addF_behind{nm:List ByteArray}{F:Nat→Nat→Bool}{tg:ByteArray→Int}:∀(f:Ft)(l:List NdR),Behind l (addF nm F tg f l).2 (Kin.cntF f)
| .nil,l=>.refl l
| .cons p h k r,l=>by
 have e:Kin.cntF (.cons p h k r)=(if p.bare then 0 else Kin.cntF k+1)+Kin.cntF r:=rfl;rw [e];show Behind l (addF nm F tg r (if p.bare then(-1,l)else addW tg h (addF nm F tg k) l).2).2 _;refine Behind.trans ?_ (addF_behind r _)
 by_cases c:p.bare=true
 ·rw [if_pos c,if_pos c];exact .refl l
 ·rw [if_neg c,if_neg c];exact addW_behind (addF_behind k) l
theorem addF_len{nm:List ByteArray}{F:Nat→Nat→Bool}{tg:ByteArray→Int}:∀(f:Ft)(l:List NdR),(addF nm F tg f l).1.length=f.len
| .nil,l=>rfl
| .cons p h k r,l=>by
 show(addF nm F tg r (if p.bare then(-1,l)else addW tg h (addF nm F tg k) l).2).1.length+1=_;rw [addF_len r];rfl
def addK(nm:List ByteArray)(F:Nat→Nat→Bool)(tg:ByteArray→Int)(p:PH)(h:TH)(k:Ft)(l:List NdR):EdR×List NdR :=
(edP nm F p (if p.bare then(-1,l)else addW tg h (addF nm F tg k) l).1,(if p.bare then(-1,l)else addW tg h (addF nm F tg k) l).2)
theorem addF_cons(nm:List ByteArray)(F:Nat→Nat→Bool)(tg:ByteArray→Int)(p:PH)(h:TH)(k r:Ft)(l:List NdR):addF nm F tg (.cons p h k r) l=((addK nm F tg p h k l).1::(addF nm F tg r (addK nm F tg p h k l).2).1,(addF nm F tg r (addK nm F tg p h k l).2).2):=rfl
theorem addK_behind(nm:List ByteArray)(F:Nat→Nat→Bool)(tg:ByteArray→Int)(p:PH)(h:TH)(k:Ft)(l:List NdR):Behind l (addK nm F tg p h k l).2 (if p.bare then 0 else Kin.cntF k+1):=by
 unfold addK
 by_cases c:p.bare=true
 ·rw [if_pos c,if_pos c];exact .refl l
 ·rw [if_neg c,if_neg c];exact addW_behind (addF_behind k) l
theorem ok_len{h:TH}{f:Ft}(ok:okT h f):f.len≤64∧h.names.length≤64:=by
 obtain⟨k1,k9,ow,-,-,-,-,hn,k56,k78,-⟩:=ok.1;simp only[ownB,decide_eq_true_eq]at ow
 constructor
 ·have hk:(h.kind=5∨h.kind=6)∨(h.kind=7∨h.kind=8)∨f.len=0:=by omega
  rcases hk with hk|hk|hk
  ·have ho:=k56 hk
   cases Nat.decEq f.len 1 with
   | isTrue q=>omega
   | isFalse q=>rw [only_len q]at ho;cases ho
  ·exact k78 hk
  ·omega
 ·rcases ow.2.2.1 with q|q
  ·exact(hn q).2.1
  ·rw [q];exact Nat.zero_le _
theorem own_empS{S:Nat→Prop}{w:World}{base:Nat}{e:TypeId}{k n:Nat}{v:Value}{xs:List Value}(h:w.ownsRow base e k v n xs)(hS:∀g,v.ownBlock=some g→¬S g):RdAt (empW S w) v k xs:=by
 have h0:=h;obtain⟨hl,⟨rfl,rfl⟩|⟨g,cap,cur,rfl,hb,hg,hn,hm,hc,ht⟩⟩:=h
 ·exact⟨none,0,0,rfl,hl,Nat.le_refl _,fun h=>absurd h (by omega)⟩
 ·refine⟨_,n,cap,rfl,hl,hn,fun _=>⟨g,0,rfl,?_,fun j u hj=>?_⟩⟩
  ·rw [emp_size]
   exact(h0.lt g rfl).2
  ·have:=h0.cells (g:=g) rfl j u hj
   rw [Addr.add_lit]at this;exact emp_cell.2 ⟨hS g rfl,this⟩
theorem flatG_set{α:Type}{enc:α→List Value}{k j:Nat}(hk:∀x,(enc x).length=k)(hj:j<k){u:Value}{x y:α}(hu:(enc x).set j u=enc y):∀(l:List α)(i:Nat),l[i]?=some x→(flatG enc l).set (i*k+j) u=flatG enc (l.set i y)
| [],i,h=>by simp at h
| a::l,0,h=>by
 obtain rfl:a=x:=by simpa using h
 show(enc a++flatG enc l).set (0*k+j) u=enc y++flatG enc l;rw [Nat.zero_mul,Nat.zero_add,List.set_append,if_pos (by rw [hk];exact hj),hu]
| a::l,i+1,h=>by
 rw [List.getElem?_cons_succ]at h;have ih:=flatG_set hk hj hu l i h;show(enc a++flatG enc l).set ((i+1)*k+j) u=enc a++flatG enc (l.set i y);have e:(i+1)*k+j=i*k+j+k:=by rw [Nat.add_mul];omega
 rw [List.set_append,hk,if_neg (by omega),show(i+1)*k+j-k=i*k+j by omega,ih]
section
variable {base B:Nat} {lv tv tab:Value} {h:TH} {nv pv:Value}
theorem bs_edges{s0 s:BS}{w V:World}{l:List (Nat×Obj)}(n:Hq (BF base B lv tv tab h nv pv) s0 s w V l){i G c b0:Nat}{x:Nv}(hx:s.nd[i]?=some x)(hnv:s.nv=.slice (some ⟨G,0,none⟩) s.nd.length c){ev:Value}{es:List EdR}(hrow:V.ownsRow b0 67 10 ev es.length (flatG encE es))
  (hbw:base≤w.heap.size) (ho:∀k,ev.ownBlock=some k→w.heap.size≤k∧¬bFr base B s k∧∀y∈l,y.1≠k) :
  Hq (BF base B lv tv tab h nv pv) s0 { s with nd:=s.nd.set i ({ x.1 with edges:=es },x.2.1,ev),T:=fun k=>s.T k∨ev.ownBlock=some k } w (V.setCell ⟨G,i*7+6,none⟩ ev) l:=by
 have j:BInv base B lv tv tab h nv pv V s:=n.inv;have on:=j.on;have og:s.nv.ownBlock=some G:=by rw [hnv];rfl
 rw [hnv]at on;obtain⟨own2,g2⟩:=on.stored (i*7+6) ev;rw [flatG_set (y:=({ x.1 with edges:=es },x.2.1,ev)) encN_len (by decide) rfl s.nd i hx]at own2;have fG:bFr base B s G:=⟨(on.lt G rfl).1,.inr (.inr (.inl og))⟩;have lG:=(on.lt G rfl).2;have hne:∀k,k<V.heap.size→k≠G→(V.setCell ⟨G,i*7+6,none⟩ ev).heap[k]?=V.heap[k]?:=fun k hk q=>g2.block k hk fun e=>q (Option.some.inj e)
 have sz:=g2.size;have neB:B≠G:=fun e=>j.d2 (e▸og)
 have neE:∀k,ev.ownBlock=some k→k≠G:=fun k q e=>(ho k q).2.1 (e▸fG)
 have kp:Kp (empW (fun k=>¬s.T k) V) (empW (fun k=>¬(s.T k∨ev.ownBlock=some k)) (V.setCell ⟨G,i*7+6,none⟩ ev)):=emp_kp sz fun k hk hn=>⟨fun q=>q (.inl (Classical.not_not.1 hn)),hne k hk fun e=>(j.t k (Classical.not_not.1 hn)).2.2.2.2 (e▸og)⟩
 have rde:RdEd (empW (fun k=>¬(s.T k∨ev.ownBlock=some k)) (V.setCell ⟨G,i*7+6,none⟩ ev)) ev es:=own_empS (ownKp hrow fun k q _=>hne k (hrow.lt k q).2 (neE k q)) fun k q hn=>hn (.inr q)
 refine⟨⟨j.hB,(hne B (hp_lt j.box) neB).trans j.box,ownKp j.os fun k q _=>hne k (j.os.lt k q).2 fun e=>j.d3 k q (e▸og),by rw [hnv,List.length_set];exact own2,fun k q=>?_,fun y hy=>?_,j.d1,j.d2,j.d3,fun y hy=>by
  rcases List.mem_or_eq_of_mem_set hy with hy|rfl
  ·exact j.sh y hy
  ·exact⟨(j.sh x (List.mem_of_getElem? hx)).1,own_shp hrow⟩⟩,?_,fun k q=>?_,fun y hy=>?_,fun y hy=>⟨(n.lo y hy).1,fun q=>?_⟩,n.dj⟩
 ·rcases q with q|q
  ·obtain⟨t1,t2,t3,t4,t5⟩:=j.t k q
   exact⟨t1,Nat.lt_of_lt_of_le t2 sz,t3,t4,t5⟩
  ·have o:=ho k q
   exact⟨Nat.le_trans hbw o.1,Nat.lt_of_lt_of_le (hrow.lt k q).2 sz,fun e=>o.2.1 ⟨Nat.le_trans hbw o.1,.inl e⟩,fun e=>o.2.1 ⟨(j.os.lt k e).1,.inr (.inl e)⟩,fun e=>o.2.1 ⟨(j.on.lt k e).1,.inr (.inr (.inl e))⟩⟩
 ·rcases List.mem_or_eq_of_mem_set hy with hy|rfl
  ·exact⟨RdAt.kp kp (j.rd y hy).1,RdAt.kp kp (j.rd y hy).2⟩
  ·exact⟨RdAt.kp kp (j.rd x (List.mem_of_getElem? hx)).1,rde⟩
 ·exact n.gr.trans (Gr.of g2) fun k e=>by subst e;exact n.sub k fG
 ·rcases q.2 with e|e|e|e|e
  ·exact n.sub k ⟨q.1,.inl e⟩
  ·exact n.sub k ⟨q.1,.inr (.inl e)⟩
  ·exact n.sub k ⟨q.1,.inr (.inr (.inl e))⟩
  ·exact n.sub k ⟨q.1,.inr (.inr (.inr e))⟩
  ·exact .inr (ho k e).1
 ·exact(hne _ (hp_lt (n.at_ y hy)) fun e=>(n.lo y hy).2 (e▸fG)).trans (n.at_ y hy)
 ·rcases q.2 with e|e|e|e|e
  ·exact(n.lo y hy).2 ⟨q.1,.inl e⟩
  ·exact(n.lo y hy).2 ⟨q.1,.inr (.inl e)⟩
  ·exact(n.lo y hy).2 ⟨q.1,.inr (.inr (.inl e))⟩
  ·exact(n.lo y hy).2 ⟨q.1,.inr (.inr (.inr e))⟩
  ·exact(ho _ e).2.2 y hy rfl
end
end Go.Proofs.YtabhkakomececaaGreat.Res
namespace Go.Proofs.YtabhkakomececaaGreat
open Go.RowKit Go.Lib
theorem Hq.row{S:Type}{F:Fm S}{s0 s:S}{w V:World}{l:List (Nat×Obj)}{j a:Nat}{c:Array Value}{t:TypeId}(h:Hq F s0 s w V l)(hj:l[j]?=some (a,.cells c t))(C:Array Value):∃V',V.setRow a C=V'∧Hq F s0 s w V' (l.set j (a,.cells C t)):=by
 have hm:=List.mem_of_getElem? hj;have lo:=h.lo _ hm;have ha:(V.setRow a C).heap[a]?=some (.cells C t):=setRow_heap V a c C t (0,0) (h.at_ _ hm);have hn:∀k,k≠a→(V.setRow a C).heap[k]?=V.heap[k]?:=fun k hk=>setRow_other _ _ _ _ (by omega)
 have hz:(V.setRow a C).heap.size=V.heap.size:=by simp
 refine⟨_,rfl,⟨F.keep h.inv (Nat.le_of_eq hz.symm) fun k hk=>hn k (by rintro rfl;exact lo.2 hk),?_,h.sub,hq_turn hj h.dj h.at_ ha hn,fun x hx=>?_,hp_setl (R:=fun x y=>x.1≠y.1) (x:=(a,.cells c t)) (y:=(a,.cells C t)) (fun z=>⟨Iff.rfl,Iff.rfl⟩) hj h.dj⟩⟩
 ·exact h.gr.trans (T:=fun k=>k=a) ⟨rfl,rfl,rfl,Nat.le_of_eq hz.symm,fun k _ q=>hn k q⟩ fun k e=>.inr (by subst e;exact lo.1)
 ·rcases List.mem_or_eq_of_mem_set hx with hx|rfl
  ·exact h.lo x hx
  ·exact lo
end Go.Proofs.YtabhkakomececaaGreat
namespace Go.Proofs.YtabhkakomececaaGreat.Res
open Go.RowKit Go.Lib Utf Nam Lat Kin Unp Rel Lab
theorem edge_alloc(ρ:Operand→Value)(W:World)(o:Oper)(h:o.op=.alloc 67):(execOp ρ o).run Tryz.prog W=.ok (.value (ptA W.heap.size)) (W.alloc (.cells #[.string ⟨#[]⟩,.bool false,.int .i64 0,.int .i64 0,.int .i64 0,.int .i64 0,.int .i64 0,.int .i64 0,.int .i64 0,.int .i64 0] 67)):=by
 simp [execOp,h,go_sem,ptA]
def tgI(tys:List Nd)(st:List Int)(x:ByteArray):Int:=st.getD (tgtS tys tys.length x).1.toNat 0
section
variable (base B:Nat) (lv tv tab:Value) (rh:TH) (rnv rpv:Value) (w0:World) (nm:List ByteArray) (F:Nat→Nat→Bool) (tys:List Nd) (st:List Int)
def AddC(f:Ft):Prop:=∀(s:BS)(h:TH)(nv pv:Value)(w:World),(BF base B lv tv tab rh rnv rpv).Inv w s→Below w0.heap.size w0 w→RdY w0 h f nv pv→GoodK h f→s.st=st→s.nd.length+1+Kin.cntF f≤1000000→∀R:Ending→World→Prop,
Hid (∀W s',s'.st=st→s'.nd.map (·.1)=(addT nm F (tgI tys st) h f (s.nd.map (·.1))).2→Hq (BF base B lv tv tab rh rnv rpv) s s' w W []→R (.returned (.int .i64 (addT nm F (tgI tys st) h f (s.nd.map (·.1))).1)) W)→Calls Tryz.prog 137 #[.pointer (some ⟨B,0,none⟩),tyV h nv pv] w R
end
section
variable {base B:Nat} {lv tv tab:Value} {rh:TH} {rnv rpv:Value} {w0:World}
theorem edge_calls{nm:List ByteArray}{F:Nat→Nat→Bool}{tys:List Nd}{st:List Int}(hL:LatP w0 lv nm F)(hlow:w0.heap.size≤base)(p:PH)(x:TH)(kd:Ft)(lv' cv' nv' pv':Value)(hlv:RdW w0 lv' p.label)(hcv:RdW w0 cv' p.cl)(hxy:RdY w0 x kd nv' pv')(g1:∀y∈p.label,GoodW y)(g2:∀y∈p.cl,GoodW y)(l1:p.label.length≤32)(l2:p.cl.length≤32)
  (gk:p.bare=false→GoodK x kd) (ih:p.bare=false→AddC base B lv tv tab rh rnv rpv w0 nm F tys st kd) (s:BS) (w:World) (hI:(BF base B lv tv tab rh rnv rpv).Inv w s) (hb:Below w0.heap.size w0 w) (hst:s.st=st) (hn:s.nd.length+(if p.bare then 0 else Kin.cntF kd+1)≤1000000) (R:Ending→World→Prop)
  (hR:Hid (∀W s',s'.st=st→s'.nd.map (·.1)=(addK nm F (tgI tys st) p x kd (s.nd.map (·.1))).2→Hq (BF base B lv tv tab rh rnv rpv) s s' w W []→R (.returned (.agg (encE (addK nm F (tgI tys st) p x kd (s.nd.map (·.1))).1).toArray)) W)):Calls Tryz.prog 207 #[.pointer (some ⟨B,0,none⟩),.agg (ptL p x lv' cv' nv' pv').toArray] w R:=by
 obtain⟨A1,n1,rfl,-,-⟩:=hlv.op;obtain⟨A2,n2,rfl,-,-⟩:=hcv.op;obtain⟨A5,n5,rfl,-,-⟩:=hxy.n.op;obtain⟨A7,n7,rfl,-⟩:=hxy.p.sl;have hlo:=bF_low base B lv tv tab rh rnv rpv hlow;have hR2:Hid (∀W s' (d:Int),s'.st=st→d=(if p.bare then(-1,s.nd.map (·.1))else addT nm F (tgI tys st) x kd (s.nd.map (·.1))).1→s'.nd.map (·.1)=(if p.bare then(-1,s.nd.map (·.1))else addT nm F (tgI tys st) x kd (s.nd.map (·.1))).2→Hq (BF base B lv tv tab rh rnv rpv) s s' w W []→R (.returned (.agg #[.string p.name,.bool p.bare,.int .i64 p.at_,.int .i64 d,.int .i64 (lof nm F p.label).1,.int .i64 (if p.wide=0 then 3 else p.wide),.int .i64 p.ck,.int .i64 p.cn,.int .i64 (lof nm F p.cl).1,.int .i64 p.cat])) W):=Lib.hid fun W s' d e1 e2 e3 q=>by subst e2;exact hR.out W s' e1 e3 q
 clear hR;have m0:=Hq.nil hI;obtain⟨V1,e1,m1,z1⟩:=m0.new (.cells (ptL p x (.slice A1 p.label.length n1) (.slice A2 p.cl.length n2) (.slice A5 x.names.length n5) (.slice A7 kd.len n7)).toArray 127);obtain⟨V,e2,n,z2⟩:=m1.new (.cells #[.string ⟨#[]⟩,.bool false,.int .i64 0,.int .i64 0,.int .i64 0,.int .i64 0,.int .i64 0,.int .i64 0,.int .i64 0,.int .i64 0] 67);clear m0 m1 z1 z2;go_enter Tryz.func207,Tryz.ntmps207
 go_upto_region 1 with fail
 clear e1 e2;have hbV:=hb.trans (n.below hb.size (hlo s));have p3:=fun y:BW V=>y.cell (n.lt 1 rfl) (n.c 1 3 rfl rfl)
 have b0:=fun y:BW V=>y.cell n.bl_ (n.bc 0 rfl)
 have cL:=Lib.hid fun(W:World) (m:Below V.heap.size V W) R hR=>lof_calls nm F lv W (hL.below (hbV.trans (m.mono hbV.size))) p.label _ (hlv.below (hbV.trans (m.mono hbV.size))) g1 (by omega) R hR
 generalize lof nm F p.label=a at *;obtain⟨a0,a1,a2⟩:=a;go_cut [5,6]from 10 to 19 (fun s9 s10 wx=>∃(T:Nat),s9=.int .i64 a0∧s10=.pointer (some ⟨T,0,none⟩)∧Hid (Hq (BF base B lv tv tab rh rnv rpv) s s w wx ((T,.cells #[.int .i64 a1,.int .i64 a2] 26)::[(V1.heap.size,.cells #[.string ⟨#[]⟩,.bool false,.int .i64 0,.int .i64 0,.int .i64 0,.int .i64 0,.int .i64 0,.int .i64 0,.int .i64 0,.int .i64 0] 67),(w.heap.size,.cells (ptL p x (.slice A1 p.label.length n1) (.slice A2 p.cl.length n2) (.slice A5 x.names.length n5) (.slice A7 kd.len n7)).toArray 127)])))
 case first =>
  refine wp_region_tr (.two [0,1,2,3,4,5] 6 (.one [7,8,9] 10 (.last [11])) 10 (.one [] 6 (.last [7,8,9,11]))) 12 (by kernel_rfl) (by kernel_rfl) (by kernel_rfl) (by kernel_rfl) (by decide) (fun _ _ d _ _ h=>by cases d<;>exact h) ?_
  have gW:Below V.heap.size V (V.drewN 1):=below_drewN (Below.refl _ _) 1;refine tr_two (os:=[_,_,_,_,_,_]) (by simp only[pickO,List.filterMap_cons,List.filterMap_nil,List.getElem?_toArray,List.getElem?_cons_succ,List.getElem?_cons_zero];rfl) (fun Kp hKp=>?_)
  repeat (go_big_quiet_step (exact rfl))
  refine wpQuiet_nil ?_;refine hKp _ ?_ ?_
  ·clear hKp
   refine loudr (by rfl) (by kernel_rfl) (fun K1 hK1=>?_);go_simp;refine cL.out _ gW _ (Lib.hid fun W4 m4=>?_);have gL:=gW.trans (m4.mono gW.size);refine hK1 _ _ (BW.of gL) ?_;clear hK1;refine tr_one (os:=[_,_,_]) (by simp only[pickO,List.filterMap_cons,List.filterMap_nil,List.getElem?_toArray,List.getElem?_cons_succ,List.getElem?_cons_zero];rfl) (fun Kp hKp=>?_)
   repeat (go_big_quiet_step (exact rfl))
   refine wpQuiet_nil ?_;refine hKp _ ?_;clear hKp;have n4:=n.bl gL;obtain⟨V5,e5,n5_,z5⟩:=n4.new (.cells #[.int .i64 a1,.int .i64 a2] 26);refine loudr (by rfl) (by kernel_rfl) (fun K2 hK2=>?_);go_simp;refine hK2 _ _ (BW.of (gL.alloc gL.size _)) ?_;clear hK2;refine tr_last (os:=[_]) (by simp only[pickO,List.filterMap_cons,List.filterMap_nil,List.getElem?_toArray,List.getElem?_cons_succ,List.getElem?_cons_zero];rfl) (fun Kp hKp=>?_)
   repeat (go_big_quiet_step (exact rfl))
   refine wpQuiet_nil ?_;refine hKp _ ?_;clear hKp;refine loudl (by rfl) (by kernel_rfl) ?_;go_simp;go_step;go_meet
   case rel=>exact⟨_,rfl,rfl,Lib.hid n5_⟩
  ·clear hKp
   have n4:=n.bl gW;obtain⟨V4,e4,n4,z4⟩:=n4.new (.cells #[.int .i64 0,.int .i64 0] 26);rw [show(V.drewN 1).heap.size=V.heap.size from rfl]at n4;have gL:Below V.heap.size V V4:=e4▸gW.alloc gW.size _;refine loudr (by rfl) (by kernel_rfl) (fun K2 hK2=>?_);go_simp;refine hK2 _ _ (BW.of gL) ?_;clear hK2;refine tr_one (os:=[]) (by rfl) (fun Kp hKp=>?_);refine wpQuiet_nil ?_;refine hKp _ ?_;clear hKp;refine loudr (by rfl) (by kernel_rfl) (fun K1 hK1=>?_);go_simp;refine cL.out _ gL _ (Lib.hid fun W5 m5=>?_);have gM:=gL.trans (m5.mono gL.size);refine hK1 _ _ (BW.of gM) ?_;clear hK1;refine tr_last (os:=[_,_,_,_]) (by simp only[pickO,List.filterMap_cons,List.filterMap_nil,List.getElem?_toArray,List.getElem?_cons_succ,List.getElem?_cons_zero];rfl) (fun Kp hKp=>?_)
   repeat (go_big_quiet_step (exact rfl))
   refine wpQuiet_nil ?_;refine hKp _ ?_;clear hKp e4;have n5:=n4.bl m5;have y0:=n5.c 0 0 rfl rfl;have yf0:=n5.f 0 0 rfl;have y1:=n5.c 0 1 rfl rfl;have yf1:=n5.f 0 1 rfl;obtain⟨V6,e6,n6,-⟩:=n5.put (j:=0) rfl [(0,.int .i64 a1),(1,.int .i64 a2)];simp only[stL]at e6;simp only[stA,List.setIfInBounds_toArray,List.set_cons_succ,List.set_cons_zero]at n6;refine loudl (by rfl) (by kernel_rfl) ?_;go_simp;go_step;go_meet
   case rel=>exact⟨_,rfl,rfl,Lib.hid n6⟩
 case rest =>
  clear n p3 b0 cL;obtain⟨T,rfl,rfl,n⟩:=hcut;replace n:=n.out.tail;go_upto_region 2 with fail
  obtain⟨V9,rfl⟩:∃V,V=wc:=⟨_,rfl⟩;have hbV:=hb.trans (n.below hb.size (hlo s));have p8:=fun y:BW V9=>y.cell (n.lt 1 rfl) (n.c 1 8 rfl rfl)
  have b0:=fun y:BW V9=>y.cell n.bl_ (n.bc 0 rfl)
  have cL:=Lib.hid fun(W:World) (m:Below V9.heap.size V9 W) R hR=>lof_calls nm F lv W (hL.below (hbV.trans (m.mono hbV.size))) p.cl _ (hcv.below (hbV.trans (m.mono hbV.size))) g2 (by omega) R hR
  generalize lof nm F p.cl=b at *;obtain⟨b0_,b1_,b2_⟩:=b;go_cut [7,8]from 20 to 30 (fun s9 s10 wx=>∃(T:Nat),s9=.int .i64 b0_∧s10=.pointer (some ⟨T,0,none⟩)∧Hid (Hq (BF base B lv tv tab rh rnv rpv) s s w wx ((T,.cells #[.int .i64 b1_,.int .i64 b2_] 26)::[(V1.heap.size,.cells #[.string ⟨#[]⟩,.bool false,.int .i64 0,.int .i64 0,.int .i64 0,.int .i64 0,.int .i64 0,.int .i64 0,.int .i64 0,.int .i64 0] 67),(w.heap.size,.cells (ptL p x (.slice A1 p.label.length n1) (.slice A2 p.cl.length n2) (.slice A5 x.names.length n5) (.slice A7 kd.len n7)).toArray 127)])))
  case first =>
   refine wp_region_tr (.two [0,1,2,3,4,5,6] 7 (.one [8,9,10] 11 (.last [12])) 11 (.one [] 7 (.last [8,9,10,12]))) 13 (by kernel_rfl) (by kernel_rfl) (by kernel_rfl) (by kernel_rfl) (by decide) (fun _ _ d _ _ h=>by cases d<;>exact h) ?_
   have gW:Below V9.heap.size V9 (V9.drewN 1):=below_drewN (Below.refl _ _) 1;refine tr_two (os:=[_,_,_,_,_,_,_]) (by simp only[pickO,List.filterMap_cons,List.filterMap_nil,List.getElem?_toArray,List.getElem?_cons_succ,List.getElem?_cons_zero];rfl) (fun Kp hKp=>?_)
   repeat (go_big_quiet_step (exact rfl))
   refine wpQuiet_nil ?_;refine hKp _ ?_ ?_
   ·clear hKp
    refine loudr (by rfl) (by kernel_rfl) (fun K1 hK1=>?_);go_simp;refine cL.out _ gW _ (Lib.hid fun W4 m4=>?_);have gL:=gW.trans (m4.mono gW.size);refine hK1 _ _ (BW.of gL) ?_;clear hK1;refine tr_one (os:=[_,_,_]) (by simp only[pickO,List.filterMap_cons,List.filterMap_nil,List.getElem?_toArray,List.getElem?_cons_succ,List.getElem?_cons_zero];rfl) (fun Kp hKp=>?_)
    repeat (go_big_quiet_step (exact rfl))
    refine wpQuiet_nil ?_;refine hKp _ ?_;clear hKp;have n4:=n.bl gL;obtain⟨V5,e5,n5_,z5⟩:=n4.new (.cells #[.int .i64 b1_,.int .i64 b2_] 26);refine loudr (by rfl) (by kernel_rfl) (fun K2 hK2=>?_);go_simp;refine hK2 _ _ (BW.of (gL.alloc gL.size _)) ?_;clear hK2;refine tr_last (os:=[_]) (by simp only[pickO,List.filterMap_cons,List.filterMap_nil,List.getElem?_toArray,List.getElem?_cons_succ,List.getElem?_cons_zero];rfl) (fun Kp hKp=>?_)
    repeat (go_big_quiet_step (exact rfl))
    refine wpQuiet_nil ?_;refine hKp _ ?_;clear hKp;refine loudl (by rfl) (by kernel_rfl) ?_;go_simp;go_step;go_meet
    case rel=>exact⟨_,rfl,rfl,Lib.hid n5_⟩
   ·clear hKp
    have n4:=n.bl gW;obtain⟨V4,e4,n4,z4⟩:=n4.new (.cells #[.int .i64 0,.int .i64 0] 26);rw [show(V9.drewN 1).heap.size=V9.heap.size from rfl]at n4;have gL:Below V9.heap.size V9 V4:=e4▸gW.alloc gW.size _;refine loudr (by rfl) (by kernel_rfl) (fun K2 hK2=>?_);go_simp;refine hK2 _ _ (BW.of gL) ?_;clear hK2;refine tr_one (os:=[]) (by rfl) (fun Kp hKp=>?_);refine wpQuiet_nil ?_;refine hKp _ ?_;clear hKp;refine loudr (by rfl) (by kernel_rfl) (fun K1 hK1=>?_);go_simp;refine cL.out _ gL _ (Lib.hid fun W5 m5=>?_);have gM:=gL.trans (m5.mono gL.size);refine hK1 _ _ (BW.of gM) ?_;clear hK1;refine tr_last (os:=[_,_,_,_]) (by simp only[pickO,List.filterMap_cons,List.filterMap_nil,List.getElem?_toArray,List.getElem?_cons_succ,List.getElem?_cons_zero];rfl) (fun Kp hKp=>?_)
    repeat (go_big_quiet_step (exact rfl))
    refine wpQuiet_nil ?_;refine hKp _ ?_;clear hKp e4;have n5:=n4.bl m5;have y0:=n5.c 0 0 rfl rfl;have yf0:=n5.f 0 0 rfl;have y1:=n5.c 0 1 rfl rfl;have yf1:=n5.f 0 1 rfl;obtain⟨V6,e6,n6,-⟩:=n5.put (j:=0) rfl [(0,.int .i64 b1_),(1,.int .i64 b2_)];simp only[stL]at e6;simp only[stA,List.setIfInBounds_toArray,List.set_cons_succ,List.set_cons_zero]at n6;refine loudl (by rfl) (by kernel_rfl) ?_;go_simp;go_step;go_meet
    case rel=>exact⟨_,rfl,rfl,Lib.hid n6⟩
  case rest =>
   clear n p8 b0 cL hbV;obtain⟨T,rfl,rfl,n⟩:=hcut;replace n:=n.out.tail;simp only at hR2;obtain⟨V3,rfl⟩:∃V,V=wc:=⟨_,rfl⟩;have p0:=n.c 1 0 rfl rfl;have p1:=n.c 1 1 rfl rfl;have p2:=n.c 1 2 rfl rfl;have p4:=n.c 1 4 rfl rfl;have p5:=n.c 1 5 rfl rfl;have p6:=n.c 1 6 rfl rfl;have p7:=n.c 1 7 rfl rfl;obtain⟨V4,e4,n4,z4⟩:=n.new (.cells #[.string p.name,.bool p.bare,.int .i64 p.at_,.int .i64 (-1),.int .i64 a0,.int .i64 p.wide,.int .i64 p.ck,.int .i64 p.cn,.int .i64 b0_,.int .i64 p.cat] 67);clear n;have n:=n4;clear n4;go_upto_region 4 with(refine wpList_copy #[.string p.name,.bool p.bare,.int .i64 p.at_,.int .i64 (-1),.int .i64 a0,.int .i64 p.wide,.int .i64 p.ck,.int .i64 p.cn,.int .i64 b0_,.int .i64 p.cat] ⟨rfl,rfl,rfl⟩ ⟨rfl,rfl,rfl⟩ edge_alloc (by kernel_rfl) ⟨rfl,by simp [Value.oneCell']⟩ (fun _=>⟨rfl,rfl⟩) ?_;go_simp)
   clear e4 z4 p0 p1 p2 p4 p5 p6 p7;have f5:=n.c 0 5 rfl rfl;have ff5:=n.f 0 5 rfl;obtain⟨wd,hwd⟩:∃z:Int,z=if p.wide=0 then 3 else p.wide:=⟨_,rfl⟩;rw [←hwd]at hR2;replace hwd:=Lib.hid hwd;go_upto_if 55 with fail
   generalize hq0:(p.wide==0)=Q0;replace hq0:=Lib.hid hq0;go_cut []from 53 to 56 (fun wx=>Hid (Hq (BF base B lv tv tab rh rnv rpv) s s w wx ((V3.heap.size,.cells #[.string p.name,.bool p.bare,.int .i64 p.at_,.int .i64 (-1),.int .i64 a0,.int .i64 wd,.int .i64 p.ck,.int .i64 p.cn,.int .i64 b0_,.int .i64 p.cat] 67)::[(V1.heap.size,.cells #[.string ⟨#[]⟩,.bool false,.int .i64 0,.int .i64 0,.int .i64 0,.int .i64 0,.int .i64 0,.int .i64 0,.int .i64 0,.int .i64 0] 67),(w.heap.size,.cells (ptL p x (.slice A1 p.label.length n1) (.slice A2 p.cl.length n2) (.slice A5 x.names.length n5) (.slice A7 kd.len n7)).toArray 127)])))
   case first =>
    clear hR2;cases Q0
    ·have hw:¬p.wide=0:=by simpa using hq0.out
     have e:wd=p.wide:=by rw [hwd.out,if_neg hw]
     clear hw hq0;go_wp2_with fail
     go_meet
     case rel=>rw [e];exact Lib.hid n
    ·have hw:p.wide=0:=by simpa using hq0.out
     have e:=Lib.hid (show wd=3 by rw [hwd.out,if_pos hw]);clear hw hq0;obtain⟨V5,e5,n5_,-⟩:=n.put (j:=0) rfl [(5,.int .i64 3)];simp only[stL]at e5;simp only[stA,List.setIfInBounds_toArray,List.set_cons_succ,List.set_cons_zero]at n5_;go_wp2_with fail
     go_meet
     case rel=>rw [e.out];exact Lib.hid n5_
   case rest =>
    replace n:=hcut.out;clear hcut f5 ff5 hq0;obtain⟨V6,rfl⟩:∃V,V=wc:=⟨_,rfl⟩;have p2:=n.c 2 2 rfl rfl;go_upto_if 59 with fail
    clear p2;go_cut []from 31 to 64 (fun wx=>∃(s':BS) (d:Int),Hid (Hq (BF base B lv tv tab rh rnv rpv) s s' w wx ((V3.heap.size,.cells #[.string p.name,.bool p.bare,.int .i64 p.at_,.int .i64 d,.int .i64 a0,.int .i64 wd,.int .i64 p.ck,.int .i64 p.cn,.int .i64 b0_,.int .i64 p.cat] 67)::[(V1.heap.size,.cells #[.string ⟨#[]⟩,.bool false,.int .i64 0,.int .i64 0,.int .i64 0,.int .i64 0,.int .i64 0,.int .i64 0,.int .i64 0,.int .i64 0] 67),(w.heap.size,.cells (ptL p x (.slice A1 p.label.length n1) (.slice A2 p.cl.length n2) (.slice A5 x.names.length n5) (.slice A7 kd.len n7)).toArray 127)]))∧Hid (s'.st=st∧d=(if p.bare then(-1,s.nd.map (·.1))else addT nm F (tgI tys st) x kd (s.nd.map (·.1))).1∧s'.nd.map (·.1)=(if p.bare then(-1,s.nd.map (·.1))else addT nm F (tgI tys st) x kd (s.nd.map (·.1))).2))
    case first =>
     clear hR2;cases hbare:p.bare
     ·go_upto_region 7 with fail
      have r9:=n.rgd 2 9 rfl;have hbV:=hb.trans (n.below hb.size (hlo s));go_wp2_with (refine wpList_load_g (by rfl) 36 _ rfl w.heap.size (9) rfl _ _ r9 Tryz.underlying36 rfl (by kernel_rfl) ?_;go_simp)
      refine ih hbare s x _ _ _ n.inv hbV hxy (gk hbare) hst (by rw [hbare,if_neg (by decide)]at hn;omega) _ (Lib.hid fun W5 s5 hs5 hn5 c5=>?_)
      replace n:=n.call c5;clear c5 r9 hbV;have f3:=n.c 0 3 rfl rfl;have ff3:=n.f 0 3 rfl;generalize hd:(addT nm F (tgI tys st) x kd (s.nd.map (·.1))).1=d;obtain⟨V7,e7,n7_,-⟩:=n.put (j:=0) rfl [(3,.int .i64 d)];simp only[stL]at e7;simp only[stA,List.setIfInBounds_toArray,List.set_cons_succ,List.set_cons_zero]at n7_;have hx5:s5.st=st∧d=(if p.bare then(-1,s.nd.map (·.1))else addT nm F (tgI tys st) x kd (s.nd.map (·.1))).1∧s5.nd.map (·.1)=(if p.bare then(-1,s.nd.map (·.1))else addT nm F (tgI tys st) x kd (s.nd.map (·.1))).2:=⟨hs5,by rw [hbare,if_neg (by decide)];exact hd.symm,by rw [hbare,if_neg (by decide)];exact hn5⟩
      replace hx5:=Lib.hid hx5;clear hbare hd hn5 hs5;go_wp2_with fail
      go_meet
      case rel=>exact⟨s5,d,Lib.hid n7_,hx5⟩
     ·have hx5:s.st=st∧(-1:Int)=(if p.bare then(-1,s.nd.map (·.1))else addT nm F (tgI tys st) x kd (s.nd.map (·.1))).1∧s.nd.map (·.1)=(if p.bare then(-1,s.nd.map (·.1))else addT nm F (tgI tys st) x kd (s.nd.map (·.1))).2:=⟨hst,by rw [hbare,if_pos rfl],by rw [hbare,if_pos rfl]⟩
      replace hx5:=Lib.hid hx5;go_wp2_with fail
      go_meet
      case rel=>exact⟨s,-1,Lib.hid n,hx5⟩
    case rest =>
     clear n;obtain⟨s',d,n,hx5⟩:=hcut;replace n:=n.out;obtain⟨x1,x2,x3⟩:=hx5.out;clear hx5;go_upto_region 8 with fail
     obtain⟨V8,rfl⟩:∃V,V=wc:=⟨_,rfl⟩;have rE:=n.rg 0 rfl;have hG:=n.b 1 rfl;obtain⟨VE,eE,nE⟩:=n.row (j:=1) rfl #[.string p.name,.bool p.bare,.int .i64 p.at_,.int .i64 d,.int .i64 a0,.int .i64 wd,.int .i64 p.ck,.int .i64 p.cn,.int .i64 b0_,.int .i64 p.cat];simp only[List.set_cons_succ,List.set_cons_zero]at nE;have w_0:=nE.c 1 0 rfl rfl;have w_1:=nE.c 1 1 rfl rfl;have w_2:=nE.c 1 2 rfl rfl;have w_3:=nE.c 1 3 rfl rfl;have w_4:=nE.c 1 4 rfl rfl;have w_5:=nE.c 1 5 rfl rfl;have w_6:=nE.c 1 6 rfl rfl;have w_7:=nE.c 1 7 rfl rfl;have w_8:=nE.c 1 8 rfl rfl;have w_9:=nE.c 1 9 rfl rfl;have fin:=Lib.hid (hR2.out _ s' d x1 x2 x3 nE.fin);clear nE n hR2 x1 x2 x3;go_wp2_with (first|(refine wpList_load_g (by rfl) 67 _ rfl V3.heap.size (0) rfl _ _ rE Tryz.underlying67 rfl (by kernel_rfl) ?_)|(refine wpList_store_row (by rfl) 67 _ _ (by rfl) V1.heap.size #[.string p.name,.bool p.bare,.int .i64 p.at_,.int .i64 d,.int .i64 a0,.int .i64 wd,.int .i64 p.ck,.int .i64 p.cn,.int .i64 b0_,.int .i64 p.cat] (by rfl) (by rfl) 67 _ hG (by kernel_rfl) rfl (by simp [Value.oneCell']) ?_;go_simp))
     first|refine bodyPost_ret ?_ rfl fin.out|refine bodyPost_end ?_ rfl fin.out
     simp [results,Tryz.results207,go_sem,w_0,w_1,w_2,w_3,w_4,w_5,w_6,w_7,w_8,w_9]
end
end Go.Proofs.YtabhkakomececaaGreat.Res
