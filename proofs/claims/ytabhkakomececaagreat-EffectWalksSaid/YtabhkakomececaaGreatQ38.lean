import Derived.Test.YtabhkakomececaaGreatQ37
import Derived.Test.YtabhkakomececaaGreatQ31
import Derived.Laws.AppendOwnNone
set_option linter.all false
set_option maxRecDepth 100000
set_option maxHeartbeats 4000000
namespace Go.Proofs.YtabhkakomececaaGreat.Res
open Go.RowKit Go.Lib Utf Nam Lat Kin Unp Rel Lab
abbrev Te:=(TH×Ft)×Value×Value
def encY(t:Te):List Value:=tyL t.1.1 t.2.1 t.2.2
theorem encY_len(t:Te):(encY t).length=9:=rfl
structure TesP(w0 w:World)(base:Nat)(v:Value)(L:List Te):Prop where
own:w.ownsRow base 36 9 v L.length (flatG encY L)
rd:∀t∈L,RdY w0 t.1.1 t.1.2 t.2.1 t.2.2
theorem ty18_in:(Tryz.prog.info? 36).map (fun i=>(i.zero,i.size,i.bytes))=some (some (.agg #[.int .i64 0,.int .i64 0,.int .i64 0,.int .i64 0,.int .i64 0,.slice none 0 0,.slice none 0 0,.string ⟨#[]⟩,.int .i64 0]),9,112):=by kernel_rfl
theorem ty18_info:∃i0,Tryz.prog.info? 36=some i0∧(i0.zero,i0.size,i0.bytes)=(some (.agg #[.int .i64 0,.int .i64 0,.int .i64 0,.int .i64 0,.int .i64 0,.slice none 0 0,.slice none 0 0,.string ⟨#[]⟩,.int .i64 0]),9,112):=by
 have:=ty18_in;cases h:Tryz.prog.info? 36 with
 | none=>rw [h]at this;cases this
 | some i0=>rw [h]at this;exact⟨i0,rfl,by simpa using this⟩
def allL(s:Sc):List (TH×Ft):=s.2.2.1.map (·.2)++[(s.2.2.2.1,s.2.2.2.2)]
theorem refall18x_calls(s:Sc)(lv ov tv nv pv:Value)(w0 w:World)(hbw:Below w0.heap.size w0 w)(rd:RdSc w0 s lv ov tv nv pv)(b3:s.2.2.1.length≤1000000)(R:Ending→World→Prop)
  (hR:Hid (∀W v' L,TesP w0 W w.heap.size v' L→L.map (·.1)=allL s→Below w.heap.size w W→R (.returned v') W)):Calls Tryz.prog 52 #[scV s lv ov tv nv pv] w R:=by
 obtain⟨ti,hTI,hZ⟩:=ty18_info;simp only[Prod.mk.injEq]at hZ;obtain⟨hz0,hz1,hz2⟩:=hZ;have rr:=rd.r;obtain⟨A1,c1,rfl,-,-⟩:=rd.l.op;obtain⟨A2,c2,rfl,-,-⟩:=Unp.RdPr.op rd.o;obtain⟨A3,c3,rfl,-,hel⟩:=nds_el rd.t;obtain⟨N1,N3,rfl,-,-⟩:=rd.r.n.op;obtain⟨M1,M3,rfl,-⟩:=rd.r.p.sl;have n:=F0.z w;obtain⟨V,e1,n,z1⟩:=n.new (.cells [.slice A1 s.1.length c1,.slice A2 s.2.1.length c2,.slice A3 s.2.2.1.length c3,.int .i64 s.2.2.2.1.kind,.int .i64 s.2.2.2.1.at_,.int .i64 s.2.2.2.1.lo,.int .i64 s.2.2.2.1.hi,.int .i64 s.2.2.2.1.most,.slice N1 s.2.2.2.1.names.length N3,.slice M1 s.2.2.2.2.len M3,.string s.2.2.2.1.name,.int .i64 s.2.2.2.1.nat].toArray 38);have bV:=F0.bel n;have lB:=n.lt 0 rfl;have hB:=n.b 0 rfl;replace hel:=Lib.hid hel;replace rr:=Lib.hid rr;clear n rd;go_enter Tryz.func52,Tryz.ntmps52
 go_upto_region 1 with fail
 clear e1;replace hB:=Lib.hid hB;go_wp2_with fail
 go_loopg [3,4] s.2.2.1.length (fun g0 ev i wr=>∃(K:Nat) (v':Value) (L:List Te),v'=ev∧i=.int .i64 K∧K+g0=s.2.2.1.length∧Hid (Below V.heap.size V wr)∧Hid (wr.ownsRow V.heap.size 36 9 v' K (flatG encY L))∧Hid (L.map (·.1)=(s.2.2.1.take K).map (·.2)∧∀t∈L,RdY w0 t.1.1 t.1.2 t.2.1 t.2.2))
 case atStart=>exact⟨0,_,[],rfl,rfl,by omega,Lib.hid (Below.refl _ _),Lib.hid (by simpa [flatG]using World.ownsRow_nil _ _ _ _),Lib.hid ⟨rfl,by simp⟩⟩
 case round =>
  obtain⟨K,v',L,rfl,rfl,e1,m,own,hL⟩:=hrel;replace m:=m.out;have x2:wr.cell? ⟨w.heap.size,2,none⟩=some (.slice A3 s.2.2.1.length c3):=(m.cell (p:=⟨w.heap.size,2,none⟩) lB).trans ((Lib.cell_of_heap hB.out 2).trans rfl)
  have r3:wr.rangeAt w.heap.size 3 (tyL s.2.2.2.1 (.slice N1 s.2.2.2.1.names.length N3) (.slice M1 s.2.2.2.2.len M3)):=fun j u hj=>(m.cell (p:=⟨w.heap.size,3+j,none⟩) lB).trans ((Lib.cell_of_heap hB.out (3+j)).trans (by
   rw [List.getElem?_toArray];have e:∀(l:List Value),(Value.slice A1 s.1.length c1::Value.slice A2 s.2.1.length c2::Value.slice A3 s.2.2.1.length c3::l)[3+j]?=l[j]?:=fun l=>by rw [Nat.add_comm];rfl
   rw [e];exact hj))
  have sz:=m.size
  by_cases hK:K<s.2.2.1.length
  ·obtain⟨g,o,N1',N3',M1',M3',rfl,hxy,hrg⟩:=hel.out K hK
   have rg0:=hrg wr (hbw.trans ((bV.trans (m.mono bV.size)).mono hbw.size))
   have rg:wr.rangeAt g (o+K*11+2) (tyL (nN s.2.2.1 K).2.1 (.slice N1' (nN s.2.2.1 K).2.1.names.length N3') (.slice M1' (nN s.2.2.1 K).2.2.len M3')):=fun j u hj=>by
    rw [Nat.add_assoc]
    exact rg0 (2+j) u (by
     have e:∀(a b:Value) (l:List Value),(a::b::l)[2+j]?=l[j]?:=fun a b l=>by rw [Nat.add_comm];rfl
     rw [e];exact hj)
   have ht:(s.2.2.1.take (K+1)).map (·.2)=(s.2.2.1.take K).map (·.2)++[(nN s.2.2.1 K).2]:=by
    rw [List.take_succ_eq_append_getElem hK,List.map_append,nN_get hK];rfl
   clear rg0 hrg;generalize nN s.2.2.1 K=y at *;obtain⟨⟨yn,ya⟩,yh,yf⟩:=y;simp only at hxy rg ht;have i0:(0:Int)≤(K:Int):=by omega
   have i1:(K:Int)<(s.2.2.1.length:Int):=by omega
   have hLy:Hid ((L++[((yh,yf),Value.slice N1' yh.names.length N3',Value.slice M1' yf.len M3')]).map (·.1)=(s.2.2.1.take (K+1)).map (·.2)∧∀t∈L++[((yh,yf),Value.slice N1' yh.names.length N3',Value.slice M1' yf.len M3')],RdY w0 t.1.1 t.1.2 t.2.1 t.2.2):=Lib.hid ⟨by rw [List.map_append,hL.out.1,ht];rfl,fun t ht=>by
    rcases List.mem_append.1 ht with ht|ht
    ·exact hL.out.2 t ht
    ·obtain rfl:=List.mem_singleton.1 ht
     exact hxy⟩
   clear hL hxy ht r3;replace m:=Lib.hid m;go_wp2_with (first|(refine wpList_load_g (by rfl) 36 _ rfl g (o+K*11+2) rfl _ _ rg Tryz.underlying36 rfl (by kernel_rfl) ?_;go_simp)|(at_builtin;go_loud (refine appKF wr (tyL yh (.slice N1' yh.names.length N3') (.slice M1' yf.len M3')).toArray 9 36 rfl _ _ 106 rfl V.heap.size ti _ 112 Tryz.underlying106 hTI hz0 hz1 hz2 rfl (by decide) rfl _ K (flatG encY L) rfl own.out _ rfl rfl (by simp [Value.oneCell']) (by unfold maxLen;omega) (by omega) sz ?_);rintro v2 w6 hown6 hg6 hbw6 -))
   have own6:=Lib.hid (show w6.ownsRow V.heap.size 36 9 v2 (K+1) (flatG encY (L++[((yh,yf),Value.slice N1' yh.names.length N3',Value.slice M1' yf.len M3')]))from by
    rw [flatG_snoc];exact hown6)
   have m6:=Lib.hid (show Below V.heap.size V w6 from m.out.trans hbw6);clear own m hown6 hg6 hbw6 rg x2 sz;go_wp2_with fail
   go_roundg (gk-1)
   case measure=>omega
   case rel=>exact⟨K+1,v2,_,rfl,by go_num,by omega,m6,own6,hLy⟩
  ·obtain rfl:K=s.2.2.1.length:=by omega
   have hx:=rr.out;obtain⟨h1,h2⟩:=hL.out;rw [List.take_length]at h1
   have hLn:L.length=s.2.2.1.length:=by
    have:=congrArg List.length h1;simpa using this
   have hLy:(L++[((s.2.2.2.1,s.2.2.2.2),Value.slice N1 s.2.2.2.1.names.length N3,Value.slice M1 s.2.2.2.2.len M3)]).map (·.1)=allL s:=by rw [List.map_append,h1];rfl
   have hLr:∀t∈L++[((s.2.2.2.1,s.2.2.2.2),Value.slice N1 s.2.2.2.1.names.length N3,Value.slice M1 s.2.2.2.2.len M3)],RdY w0 t.1.1 t.1.2 t.2.1 t.2.2:=fun t ht=>by
    rcases List.mem_append.1 ht with ht|ht
    ·exact h2 t ht
    ·obtain rfl:=List.mem_singleton.1 ht
     exact hx
   replace hLn:=Lib.hid hLn;replace hLr:=Lib.hid hLr;replace hLy:=Lib.hid hLy;clear h1 h2 hL hx;replace m:=Lib.hid m;go_wp2_with (first|(refine wpList_load_g (by rfl) 36 _ rfl w.heap.size 3 rfl _ _ r3 Tryz.underlying36 rfl (by kernel_rfl) ?_;go_simp)|(at_builtin;go_loud (refine appKF wr (tyL s.2.2.2.1 (.slice N1 s.2.2.2.1.names.length N3) (.slice M1 s.2.2.2.2.len M3)).toArray 9 36 rfl _ _ 106 rfl V.heap.size ti _ 112 Tryz.underlying106 hTI hz0 hz1 hz2 rfl (by decide) rfl _ s.2.2.1.length (flatG encY L) rfl own.out _ rfl rfl (by simp [Value.oneCell']) (by unfold maxLen;omega) (by omega) sz ?_);rintro v2 w6 hown6 hg6 hbw6 -))
   have m6:Below w.heap.size w w6:=bV.trans ((m.out.trans hbw6).mono bV.size)
   have own6:w6.ownsRow w.heap.size 36 9 v2 (L++[((s.2.2.2.1,s.2.2.2.2),Value.slice N1 s.2.2.2.1.names.length N3,Value.slice M1 s.2.2.2.2.len M3)]).length (flatG encY (L++[((s.2.2.2.1,s.2.2.2.2),Value.slice N1 s.2.2.2.1.names.length N3,Value.slice M1 s.2.2.2.2.len M3)])):=by
    rw [flatG_snoc,List.length_append,hLn.out];exact own_mono hown6 bV.size
   have fin:=Lib.hid (hR.out w6 v2 _ ⟨own6,hLr.out⟩ hLy.out m6);clear own m hown6 hg6 hbw6 r3 x2 sz hR own6;go_wp2_with fail
   exact fin.out
theorem refall18_calls(s:Sc)(lv ov tv nv pv:Value)(w:World)(rd:RdSc w s lv ov tv nv pv)(b3:s.2.2.1.length≤1000000)(R:Ending→World→Prop)
(hR:Hid (∀W v' L,TesP w W w.heap.size v' L→L.map (·.1)=allL s→Below w.heap.size w W→R (.returned v') W)):Calls Tryz.prog 52 #[scV s lv ov tv nv pv] w R:=refall18x_calls s lv ov tv nv pv w w (Below.refl _ _) rd b3 R hR
def flatF:Ft→List (TH×Ft)
| .nil=>[]
| .cons p h k r=>(if p.bare then[]else if h.kind=9 then[]else(h,k)::flatF k)++flatF r
def flatT(h:TH)(f:Ft):List (TH×Ft):=if h.kind=9 then[]else(h,f)::flatF f
theorem flatF_len:∀f:Ft,(flatF f).length=ndF f
| .nil=>rfl
| .cons p h k r=>by
 show(_++flatF r).length=(if p.bare then 0 else if h.kind=9 then 0 else ndF k+1)+ndF r;rw [List.length_append,flatF_len r]
 split
 ·rfl
 ·split
  ·rfl
  ·rw [List.length_cons,flatF_len k]
theorem flatT_len(h:TH)(f:Ft):(flatT h f).length=ndT h f:=by
 unfold flatT ndT
 split
 ·rfl
 ·rw [List.length_cons,flatF_len]
theorem flatF_cons(p:PH)(h:TH)(k r:Ft):flatF (.cons p h k r)=(if p.bare=true then[]else flatT h k)++flatF r:=rfl
theorem own_lit{w:World}{M:Array Value}{t:TypeId}{k:Nat}(hl:M.size=k):(w.alloc (.cells M t)).ownsRow w.heap.size t k (.slice (some ⟨w.heap.size,0,none⟩) 1 1) 1 M.toList :=
⟨by simp;omega,.inr ⟨w.heap.size,1,M,rfl,Nat.le_refl _,heap_alloc_new w _,Nat.le_refl _,by unfold maxLen;omega,by omega,by rw [Nat.one_mul];exact List.take_of_length_le (by simp;omega)⟩⟩
theorem appRow{ops:Array Oper}{rest:List Oper}{o:Oper}{a:Act}{Q:Exit→Act→World→Prop}(W:World)(k:Nat)(e:TypeId)(hgd:o.guard=none)(s x:Operand)(t:TypeId)
  (ho:o.op=.call { callee:=.builtin .append,args:=#[s,x],argTypes:=#[t,t] })
  (base:Nat) (i:TypeInfo) (z:Value) (bytes:Nat) (ht:Tryz.prog.underlying t=some (.slice e)) (hi:Tryz.prog.info? e=some i) (hz:i.zero=some z) (hsize:i.size=k) (hby:i.bytes=bytes) (hzs:z.cells.size=k) (hk:0<k)
  (v:Value) (n:Nat) (xs:List Value) (hs:a.eval s=v) (hown:W.ownsRow base e k v n xs) (vx:Value) (m:Nat) (ys:List Value) (hx:a.eval x=vx) (B:Nat) (hox:W.ownsRow B e k vx m ys) (h1:∀u∈ys,u.oneCell'=true)
  (h63:n+m≤maxLen) (hbytes:(n+m)*bytes≤140737488355328) (hbase:base≤W.heap.size)
  (h:∀v' w',w'.ownsRow base e k v' (n+m) (xs++ys)→Below base W w'→wpList Tryz.prog ops Q rest (a.put o.dst v') w') :
  wpList Tryz.prog ops Q (o::rest) a W:=by
 obtain⟨hl,⟨rfl,rfl⟩|⟨g,cap,cur,rfl,hb,hg,hnc,hm,hc,ht'⟩⟩:=hox
 ·obtain rfl:ys=[]:=List.eq_nil_of_length_eq_zero (by simpa using hl)
  exact wpList_append_own_none hgd s x t ho base e i k ht hi v n xs hs hown hx (h v W (by simpa using hown) (Below.refl _ _))
 ·have hox:W.ownsRow B e k (.slice (some ⟨g,0,none⟩) m cap) m ys:=⟨hl,.inr ⟨g,cap,cur,rfl,hb,hg,hnc,hm,hc,ht'⟩⟩
  refine wpList_append_own _ hgd s x t ho base e i z k bytes ht hi hz hsize hby hzs hk v n xs hs hown ⟨g,0,none⟩ m cap ys hx hl (fun j u hj=>?_) h1 h63 hbytes hbase fun v' w' h2 h3 _=>h v' w' h2 (grown_below h3 hbase fun k' hk'=>(hown.lt k' hk').1)
  have hj':j<m*k:=by
   rcases Nat.lt_or_ge j ys.length with h|h
   ·omega
   ·rw [List.getElem?_eq_none h]at hj;cases hj
  have e1:(⟨g,0,none⟩:Addr).add j=⟨g,j,none⟩:=by unfold Addr.add;split<;>simp_all
  rw [e1];exact(World.ownsRow.cellAt hox j hj').trans hj
def LnA:Ft→Prop
| .nil=>True
| .cons p _ _ r=>(p.label.length≤32∧p.cl.length≤32)∧LnA r
theorem sameW_nil{l:List Wr}(h:sameW l []=true):l=[]:=by
 have h':nms l=nms []:=by simpa [sameW]using h
 have:=congrArg List.length h';simp [nms]at this;exact this
theorem ln_plain{p q:PH}(h:plainB p q=true)(h1:q.label=[])(h2:q.cl=[]):p.label.length≤32∧p.cl.length≤32:=by
 simp only[plainB,Bool.and_eq_true]at h;have a:=h.1.1.1.2;have b:=h.2;rw [h1]at a;rw [h2]at b;rw [sameW_nil a,sameW_nil b];exact⟨by decide,by decide⟩
theorem ln_parts{K:Int}(hK:K=7∨K=8):∀f:Ft,okF K f→LnA f
| .nil,_=>trivial
| .cons p h k r,ok=>by
 have op:=ok.1 hK;refine⟨?_,ln_parts hK r ok.2.2⟩;cases q:p.bare with
 | true=>exact ln_plain (op.2.1 q).2.2 rfl rfl
 | false =>
  obtain⟨-,-,hw,hc⟩:=op.2.2 q;refine⟨hw.1,?_⟩;rcases hc with hc|hc
  ·rw [hc.2.2];decide
  ·exact hc.2.1
theorem ln_of{h:TH}{k:Ft}(ok:okT h k):LnA k:=by
 by_cases h78:h.kind=7∨h.kind=8
 ·exact ln_parts h78 k ok.2
 ·by_cases h56:h.kind=5∨h.kind=6
  ·have on:=ok.1.2.2.2.2.2.2.2.2.1 h56
   cases k with
   | nil=>exact(Bool.false_ne_true on).elim
   | cons p x k r =>
    cases r with
    | nil =>
     have h':(decide (p.name=ByteArray.empty)&&plainB p zPH)=true:=on;rw [Bool.and_eq_true]at h';exact⟨ln_plain h'.2 rfl rfl,trivial⟩
    | cons q y l t=>exact(Bool.false_ne_true on).elim
  ·have ow:=ok.1.2.2.1
   have k1:=ok.1.1;have k9:=ok.1.2.1;simp only[ownB,decide_eq_true_eq]at ow;have:k.len=0:=by omega
   cases k with
   | nil=>trivial
   | cons p x k r=>exact absurd this (by show r.len+1≠0;omega)
def unT(s:Sc)(h:TH)(g:Int×Int):Int×Int:=if h.kind=9∧findS (tnm s) h.name<0 then(15,h.nat)else g
def unF(s:Sc):Ft→Int×Int
| .nil=>(0,0)
| .cons p h k r=>if(wdS (nms s.1) p.label).1≠0 then wdS (nms s.1) p.label else if(wdS (nms s.1) p.cl).1≠0 then wdS (nms s.1) p.cl else if p.bare=true then unF s r else if(unT s h (unF s k)).1≠0 then unT s h (unF s k)else unF s r
def UnC(s:Sc)(f:Ft):Prop:=∀(h:TH)(lv ov tv nv pv nv' pv':Value)(w:World),okT h f→f.len≤64→RdSc w s lv ov tv nv pv→RdY w h f nv' pv'→∀R:Ending→World→Prop,
Hid (∀W,Below w.heap.size w W→R (.returned (.agg #[.int .i64 (unT s h (unF s f)).1,.int .i64 (unT s h (unF s f)).2])) W)→Calls Tryz.prog 98 #[scV s lv ov tv nv pv,tyV h nv' pv'] w R
theorem ln_drop:∀(K:Nat){f:Ft}{p:PH}{x:TH}{k r:Ft},LnA f→f.drop K=.cons p x k r→p.label.length≤32∧p.cl.length≤32
| 0,f,p,x,k,r,a,e=>by
 have e':f=.cons p x k r:=e;subst e';exact a.1
| n+1,.nil,p,x,k,r,a,e=>by simp [Fo.drop]at e
| n+1,.cons q y l s,p,x,k,r,a,e=>ln_drop n (f:=s) a.2 e
theorem ok_drop:∀(K:Nat){f:Ft}{Kd:Int}{p:PH}{x:TH}{k r:Ft},okF Kd f→f.drop K=.cons p x k r→p.bare=false→okT x k
| 0,f,Kd,p,x,k,r,a,e,b=>by
 have e':f=.cons p x k r:=e;subst e';exact a.2.1 b
| n+1,.nil,Kd,p,x,k,r,a,e,b=>by simp [Fo.drop]at e
| n+1,.cons q y l s,Kd,p,x,k,r,a,e,b=>ok_drop n (f:=s) a.2.2 e b
theorem unknown_step(s:Sc)(gs:GoodS s)(b1:s.1.length≤1000000)(b3:s.2.2.1.length≤1000000)(f:Ft)(ih:Fo.AllK (UnC s) f):UnC s f:=by
 intro h lv ov tv nv pv nv' pv' w ok hfl rd hy R hR;have rd0:=rd;have hy0:=hy;obtain⟨A1,c1,rfl,-,-⟩:=rd.l.op;obtain⟨A2,c2,rfl,-,-⟩:=Unp.RdPr.op rd.o;obtain⟨A3,c3,rfl,-,-⟩:=nds_el rd.t;obtain⟨N1,N3,rfl,-,-⟩:=rd.r.n.op;obtain⟨M1,M3,rfl,-⟩:=rd.r.p.sl;obtain⟨An,cn,rfl,-,-⟩:=hy.n.op;obtain⟨Ap,cp,rfl,-⟩:=hy.p.sl;have n:=F0.z w;obtain⟨V1,e1,n,z1⟩:=n.new (.cells [.slice A1 s.1.length c1,.slice A2 s.2.1.length c2,.slice A3 s.2.2.1.length c3,.int .i64 s.2.2.2.1.kind,.int .i64 s.2.2.2.1.at_,.int .i64 s.2.2.2.1.lo,.int .i64 s.2.2.2.1.hi,.int .i64 s.2.2.2.1.most,.slice N1 s.2.2.2.1.names.length N3,.slice M1 s.2.2.2.2.len M3,.string s.2.2.2.1.name,.int .i64 s.2.2.2.1.nat].toArray 38);obtain⟨V2,e2,n,z2⟩:=n.new (.cells (tyL h (.slice An h.names.length cn) (.slice Ap f.len cp)).toArray 36);obtain⟨V,e3,n,z3⟩:=n.new (.cells #[.int .i64 0,.int .i64 0] 26);have hln:=Lib.hid (ln_of ok);replace ok:=Lib.hid ok;replace ih:=Lib.hid ih;replace rd0:=Lib.hid rd0;clear z1 z2 z3 rd;have t0:=n.c 1 0 rfl rfl;have t7:=n.c 1 7 rfl rfl;have t8:=n.c 1 8 rfl rfl;go_enter Tryz.func98,Tryz.ntmps98
 go_upto_region 1 with fail
 clear e1 e2 e3;have key:Hid (h.kind=9→∀(W:World),Below V.heap.size V W→∀R:Ending→World→Prop,Hid (∀W',Below W.heap.size W W'→R (.returned (.int .i64 (findS (tnm s) h.name))) W')→Calls Tryz.prog 105 #[scV s (.slice A1 s.1.length c1) (.slice A2 s.2.1.length c2) (.slice A3 s.2.2.1.length c3) (.slice N1 s.2.2.2.1.names.length N3) (.slice M1 s.2.2.2.2.len M3),.string h.name] W R):=Lib.hid fun _ W m R hR=>reffind18_calls s gs h.name _ _ _ _ _ W (rd0.out.below ((F0.bel n).trans (m.mono (F0.bel n).size))) b3 R hR
 by_cases hb:h.kind=9∧findS (tnm s) h.name<0
 ·have eU:unT s h (unF s f)=(15,h.nat):=if_pos hb
  rw [eU]at hR;have k9:=Lib.hid hb.1;have tq:decide (findS (tnm s) h.name<0)=true:=by simpa using hb.2
  have cF:=Lib.hid (key.out hb.1 V (Below.refl _ _));have r2:V.rangeAt w.heap.size 0 [.slice A1 s.1.length c1,.slice A2 s.2.1.length c2,.slice A3 s.2.2.1.length c3,.int .i64 s.2.2.2.1.kind,.int .i64 s.2.2.2.1.at_,.int .i64 s.2.2.2.1.lo,.int .i64 s.2.2.2.1.hi,.int .i64 s.2.2.2.1.most,.slice N1 s.2.2.2.1.names.length N3,.slice M1 s.2.2.2.2.len M3,.string s.2.2.2.1.name,.int .i64 s.2.2.2.1.nat]:=n.rg 2 rfl;have tk:(h.kind==9)=true:=by simpa using hb.1
  clear hb key eU;go_wp2_with (refine wpList_load_g (by rfl) 38 _ rfl w.heap.size 0 rfl _ _ r2 Tryz.underlying38 rfl (by kernel_rfl) ?_;go_simp)
  refine cF.out _ (Lib.hid fun W m=>?_);clear cF r2;replace n:=n.bl m;have t8:=n.c 1 8 rfl rfl;have hG:=n.b 0 rfl;obtain⟨V9,e9,n9⟩:=n.row (j:=0) rfl #[.int .i64 15,.int .i64 h.nat];have w0_:=n9.c 0 0 rfl rfl;have w1_:=n9.c 0 1 rfl rfl;have fin:=Lib.hid (hR.out V9 (F0.bel n9));clear n9 hR;go_wp2_with (refine wpList_store_row (by rfl) 26 _ _ (by rfl) V2.heap.size #[.int .i64 15,.int .i64 h.nat] (by rfl) (by rfl) 26 _ hG (by kernel_rfl) rfl (by simp [Value.oneCell']) ?_;refine cast_w18 e9 ?_;go_simp)
  first|refine bodyPost_ret ?_ rfl fin.out|refine bodyPost_end ?_ rfl fin.out
  simp [results,Tryz.results98,go_sem,w0_,w1_]
 ·have eU:unT s h (unF s f)=unF s f:=if_neg hb
  rw [eU]at hR;clear eU;go_cut [18]from 8 to 17 (fun e wx=>e=.bool false∧Hid (Hq F0 () () w wx [(V2.heap.size,.cells #[.int .i64 0,.int .i64 0] 26),(V1.heap.size,.cells (tyL h (.slice An h.names.length cn) (.slice Ap f.len cp)).toArray 36),(w.heap.size,.cells [.slice A1 s.1.length c1,.slice A2 s.2.1.length c2,.slice A3 s.2.2.1.length c3,.int .i64 s.2.2.2.1.kind,.int .i64 s.2.2.2.1.at_,.int .i64 s.2.2.2.1.lo,.int .i64 s.2.2.2.1.hi,.int .i64 s.2.2.2.1.most,.slice N1 s.2.2.2.1.names.length N3,.slice M1 s.2.2.2.2.len M3,.string s.2.2.2.1.name,.int .i64 s.2.2.2.1.nat].toArray 38)]))
  case first =>
   by_cases k9:h.kind=9
   ·have tq:decide (findS (tnm s) h.name<0)=false:=by
     have:¬findS (tnm s) h.name<0:=fun q=>hb ⟨k9,q⟩
     simpa using this
    have cF:=Lib.hid (key.out k9 V (Below.refl _ _));have r2:V.rangeAt w.heap.size 0 [.slice A1 s.1.length c1,.slice A2 s.2.1.length c2,.slice A3 s.2.2.1.length c3,.int .i64 s.2.2.2.1.kind,.int .i64 s.2.2.2.1.at_,.int .i64 s.2.2.2.1.lo,.int .i64 s.2.2.2.1.hi,.int .i64 s.2.2.2.1.most,.slice N1 s.2.2.2.1.names.length N3,.slice M1 s.2.2.2.2.len M3,.string s.2.2.2.1.name,.int .i64 s.2.2.2.1.nat]:=n.rg 2 rfl;have tk:(h.kind==9)=true:=by simpa using k9
    clear hb key k9 hR;go_wp2_with (refine wpList_load_g (by rfl) 38 _ rfl w.heap.size 0 rfl _ _ r2 Tryz.underlying38 rfl (by kernel_rfl) ?_;go_simp)
    refine cF.out _ (Lib.hid fun W m=>?_);have n5:=Lib.hid (n.bl m);clear cF r2 n t0 t7 t8;go_wp2_with fail
    go_meet;exact⟨rfl,n5⟩
   ·have tk:(h.kind==9)=false:=by simpa using k9
    have n5:=Lib.hid n;clear hb key k9 hR n;go_wp2_with fail
    go_meet;exact⟨rfl,n5⟩
  case rest =>
   clear t0 t7 t8 key hb n;obtain⟨rfl,n⟩:=hcut;replace n:=n.out;obtain⟨V3,rfl⟩:∃V,V=wc:=⟨_,rfl⟩;go_wp2_with fail
   go_loopg [5] f.len (fun g0 i wr=>∃(K:Nat),i=.int .i64 K∧K+g0=f.len∧Hid (unF s f=unF s (f.drop K))∧Hid (Hq F0 () () w wr [(V2.heap.size,.cells #[.int .i64 0,.int .i64 0] 26),(V1.heap.size,.cells (tyL h (.slice An h.names.length cn) (.slice Ap f.len cp)).toArray 36),(w.heap.size,.cells [.slice A1 s.1.length c1,.slice A2 s.2.1.length c2,.slice A3 s.2.2.1.length c3,.int .i64 s.2.2.2.1.kind,.int .i64 s.2.2.2.1.at_,.int .i64 s.2.2.2.1.lo,.int .i64 s.2.2.2.1.hi,.int .i64 s.2.2.2.1.most,.slice N1 s.2.2.2.1.names.length N3,.slice M1 s.2.2.2.2.len M3,.string s.2.2.2.1.name,.int .i64 s.2.2.2.1.nat].toArray 38)]))
   case atStart=>exact⟨0,rfl,by omega,Lib.hid rfl,Lib.hid n⟩
   case round =>
    clear n;obtain⟨K,rfl,e1,e2,n⟩:=hrel;replace n:=n.out;have t6:=n.c 1 6 rfl rfl
    by_cases hK:K<f.len
    ·obtain⟨p,x,kd,r,e⟩:=Fo.drop_lt hK
     obtain⟨g,o,B1,n1,B2,n2,A5,n5,A7,n7,rfl,hlv,hcv,hyx,hrg⟩:=part_el hy e;have lnp:=ln_drop K hln.out e;have okk:=Lib.hid fun hb=>ok_drop K ok.out.2 e hb
     have ihk:=Lib.hid ((ih.out).at_ e);have d1:=Fo.drop_succ K e;replace e2:=e2.out;rw [e]at e2;replace e2:unF s f=if(wdS (nms s.1) p.label).1≠0 then wdS (nms s.1) p.label else if(wdS (nms s.1) p.cl).1≠0 then wdS (nms s.1) p.cl else if p.bare=true then unF s r else if(unT s x (unF s kd)).1≠0 then unT s x (unF s kd)else unF s r:=e2;rw [←d1]at e2;have i0:(0:Int)≤(K:Int):=by omega
     have i1:(K:Int)<(f.len:Int):=by omega
     have rg:=hrg wr (F0.bel n);clear hrg e d1;obtain⟨W3,e3,n,z3⟩:=n.new (.cells (ptL p x (.slice B1 p.label.length n1) (.slice B2 p.cl.length n2) (.slice A5 x.names.length n5) (.slice A7 kd.len n7)).toArray 127);replace e2:=Lib.hid e2;go_upto_region 7 with(first|(refine wpList_load_g (by rfl) 127 _ rfl g (o+K*18) rfl _ _ rg Tryz.underlying127 rfl (by kernel_rfl) ?_;go_simp)|(refine wpList_copy (ptL p x (.slice B1 p.label.length n1) (.slice B2 p.cl.length n2) (.slice A5 x.names.length n5) (.slice A7 kd.len n7)).toArray ⟨rfl,rfl,rfl⟩ ⟨rfl,rfl,rfl⟩ part_alloc (by kernel_rfl) ⟨rfl,by simp [Value.oneCell']⟩ (fun _=>⟨rfl,rfl⟩) ?_;go_simp))
     clear e3 z3 rg t6;have rS:=n.rg 3 rfl;have t3:=n.c 0 3 rfl rfl;have bw3:=F0.bel n;have cW:=Lib.hid fun R hR=>refword18_calls s gs p.label _ _ _ _ _ _ W3 (rd0.out.below bw3) (hlv.kp (Kp.of_below bw3)) b1 (by omega) R hR
     generalize wdS (nms s.1) p.label=a at *;obtain⟨a0,a1⟩:=a;go_wp2_with (refine wpList_load_g (by rfl) 38 _ rfl w.heap.size 0 rfl _ _ rS Tryz.underlying38 rfl (by kernel_rfl) ?_;go_simp)
     refine cW.out _ (Lib.hid fun W4 m4=>?_);clear cW rS t3 bw3;replace n:=n.bl m4;obtain⟨V5,e5,n,z5⟩:=n.new (.cells #[.int .i64 a0,.int .i64 a1] 26);clear m4 z5;go_upto_region 8 with fail
     clear e5;have f0:=n.c 0 0 rfl rfl
     by_cases ca:a0=0
     ·have ta:(a0==0)=true:=by simpa using ca
      replace e2:=e2.out;rw [if_neg (by simpa using ca)]at e2;replace e2:=Lib.hid e2;have rS:=n.rg 4 rfl;have t8:=n.c 1 8 rfl rfl;have bw5:=F0.bel n;have cW:=Lib.hid fun R hR=>refword18_calls s gs p.cl _ _ _ _ _ _ V5 (rd0.out.below bw5) (hcv.kp (Kp.of_below bw5)) b1 (by omega) R hR
      generalize wdS (nms s.1) p.cl=b at *;obtain⟨b0,b1_⟩:=b;clear ca;go_wp2_with (refine wpList_load_g (by rfl) 38 _ rfl w.heap.size 0 rfl _ _ rS Tryz.underlying38 rfl (by kernel_rfl) ?_;go_simp)
      refine cW.out _ (Lib.hid fun W6 m6=>?_);clear cW rS t8 bw5 f0;replace n:=n.bl m6;have hG:=n.b 0 rfl;obtain⟨V7,e7,n⟩:=n.row (j:=0) rfl #[.int .i64 b0,.int .i64 b1_];simp only[List.set_cons_zero]at n;clear m6;go_upto_region 10 with(refine wpList_store_row (by rfl) 26 _ _ (by rfl) W4.heap.size #[.int .i64 b0,.int .i64 b1_] (by rfl) (by rfl) 26 _ hG (by kernel_rfl) rfl (by simp [Value.oneCell']) ?_;refine cast_w18 e7 ?_;go_simp)
      clear e7 hG;have f0:=n.c 0 0 rfl rfl;have t2:=n.c 1 2 rfl rfl
      by_cases cb:b0=0
      ·have tb:(b0==0)=true:=by simpa using cb
       have tn:(b0 != 0)=false:=by simpa using cb
       replace e2:=e2.out;rw [if_neg (by simpa using cb)]at e2;clear cb;cases hpb:p.bare with
       | true =>
        rw [if_pos hpb]at e2;rw [hpb]at t2;have e4:=Lib.hid e2;have n8:=Lib.hid n.tail.tail;clear e2 n;go_wp2_with fail
        go_roundg (gk-1)
        case measure=>omega
        case rel=>exact⟨K+1,by go_num,by omega,e4,n8⟩
       | false =>
        rw [if_neg (by rw [hpb];decide)]at e2
        rw [hpb]at t2;have rS:=n.rg 4 rfl;have r9:V7.rangeAt wr.heap.size 9 (tyL x (.slice A5 x.names.length n5) (.slice A7 kd.len n7)):=n.rgd 1 9 rfl;have bw7:=F0.bel n;have hx64:=Lib.hid ((ok_len (okk.out hpb)).1);have cU:=Lib.hid fun R hR=>ihk.out x _ _ _ _ _ _ _ V7 (okk.out hpb) hx64.out (rd0.out.below bw7) (hyx.below bw7) R hR
        generalize unT s x (unF s kd)=c at *;obtain⟨c0,c1_⟩:=c;replace e2:=Lib.hid e2;go_wp2_with (first|(refine wpList_load_g (by rfl) 38 _ rfl w.heap.size 0 rfl _ _ rS Tryz.underlying38 rfl (by kernel_rfl) ?_;go_simp)|(refine wpList_load_g (by rfl) 36 _ rfl wr.heap.size 9 rfl _ _ r9 Tryz.underlying36 rfl (by kernel_rfl) ?_;go_simp))
        refine cU.out _ (Lib.hid fun W8 m8=>?_);clear cU rS r9 bw7 f0 t2;replace n:=n.bl m8;have hG:=n.b 0 rfl;obtain⟨V9_,e9_,n⟩:=n.row (j:=0) rfl #[.int .i64 c0,.int .i64 c1_];simp only[List.set_cons_zero]at n;clear m8;go_upto_region 12 with(refine wpList_store_row (by rfl) 26 _ _ (by rfl) W4.heap.size #[.int .i64 c0,.int .i64 c1_] (by rfl) (by rfl) 26 _ hG (by kernel_rfl) rfl (by simp [Value.oneCell']) ?_;refine cast_w18 e9_ ?_;go_simp)
        clear e9_ hG;have f0:=n.c 0 0 rfl rfl
        by_cases cc:c0=0
        ·have tc:(c0 != 0)=false:=by simpa using cc
         replace e2:=e2.out;rw [if_neg (by simpa using cc)]at e2;have e4:=Lib.hid e2;have n8:=Lib.hid n.tail.tail;clear e2 n cc;go_wp2_with fail
         go_roundg (gk-1)
         case measure=>omega
         case rel=>exact⟨K+1,by go_num,by omega,e4,n8⟩
        ·have tc:(c0 != 0)=true:=by simpa using cc
         replace e2:=e2.out;rw [if_pos cc]at e2;rw [e2]at hR;have rF:=n.rg 0 rfl;clear cc e2;have hG:=n.b 2 rfl;obtain⟨V9,e9,n9⟩:=n.row (j:=2) rfl #[.int .i64 c0,.int .i64 c1_];have w0_:=n9.c 2 0 rfl rfl;have w1_:=n9.c 2 1 rfl rfl;have fin:=Lib.hid (hR.out V9 (F0.bel n9));clear n9 hR;go_wp2_with (first|(refine wpList_load_g (by rfl) 26 _ rfl W4.heap.size 0 rfl _ _ rF Tryz.underlying26 rfl (by kernel_rfl) ?_;go_simp)|(refine wpList_store_row (by rfl) 26 _ _ (by rfl) V2.heap.size #[.int .i64 c0,.int .i64 c1_] (by rfl) (by rfl) 26 _ hG (by kernel_rfl) rfl (by simp [Value.oneCell']) ?_;refine cast_w18 e9 ?_;go_simp))
         first|refine bodyPost_ret ?_ rfl fin.out|refine bodyPost_end ?_ rfl fin.out
         simp [results,Tryz.results98,go_sem,w0_,w1_]
      ·have tb:(b0==0)=false:=by simpa using cb
       have tn:(b0 != 0)=true:=by simpa using cb
       replace e2:=e2.out;rw [if_pos cb]at e2;rw [e2]at hR;have rF:=n.rg 0 rfl;clear cb e2;have hG:=n.b 2 rfl;obtain⟨V9,e9,n9⟩:=n.row (j:=2) rfl #[.int .i64 b0,.int .i64 b1_];have w0_:=n9.c 2 0 rfl rfl;have w1_:=n9.c 2 1 rfl rfl;have fin:=Lib.hid (hR.out V9 (F0.bel n9));clear n9 hR;go_wp2_with (first|(refine wpList_load_g (by rfl) 26 _ rfl W4.heap.size 0 rfl _ _ rF Tryz.underlying26 rfl (by kernel_rfl) ?_;go_simp)|(refine wpList_store_row (by rfl) 26 _ _ (by rfl) V2.heap.size #[.int .i64 b0,.int .i64 b1_] (by rfl) (by rfl) 26 _ hG (by kernel_rfl) rfl (by simp [Value.oneCell']) ?_;refine cast_w18 e9 ?_;go_simp))
       first|refine bodyPost_ret ?_ rfl fin.out|refine bodyPost_end ?_ rfl fin.out
       simp [results,Tryz.results98,go_sem,w0_,w1_]
     ·have ta:(a0==0)=false:=by simpa using ca
      have tn:(a0 != 0)=true:=by simpa using ca
      replace e2:=e2.out;rw [if_pos ca]at e2;rw [e2]at hR;have rF:=n.rg 0 rfl;clear ca e2;have hG:=n.b 2 rfl;obtain⟨V9,e9,n9⟩:=n.row (j:=2) rfl #[.int .i64 a0,.int .i64 a1];have w0_:=n9.c 2 0 rfl rfl;have w1_:=n9.c 2 1 rfl rfl;have fin:=Lib.hid (hR.out V9 (F0.bel n9));clear n9 hR;go_wp2_with (first|(refine wpList_load_g (by rfl) 26 _ rfl W4.heap.size 0 rfl _ _ rF Tryz.underlying26 rfl (by kernel_rfl) ?_;go_simp)|(refine wpList_store_row (by rfl) 26 _ _ (by rfl) V2.heap.size #[.int .i64 a0,.int .i64 a1] (by rfl) (by rfl) 26 _ hG (by kernel_rfl) rfl (by simp [Value.oneCell']) ?_;refine cast_w18 e9 ?_;go_simp))
      first|refine bodyPost_ret ?_ rfl fin.out|refine bodyPost_end ?_ rfl fin.out
      simp [results,Tryz.results98,go_sem,w0_,w1_]
    ·obtain rfl:K=f.len:=by omega
     replace e2:=e2.out;rw [Fo.drop_all (Nat.le_refl _)]at e2;replace e2:unF s f=(0,0):=e2;rw [e2]at hR;have hG:=n.b 0 rfl;obtain⟨V9,e9,n9⟩:=n.row (j:=0) rfl #[.int .i64 0,.int .i64 0];have w0_:=n9.c 0 0 rfl rfl;have w1_:=n9.c 0 1 rfl rfl;have fin:=Lib.hid (hR.out V9 (F0.bel n9));clear n9 hR;go_wp2_with (refine wpList_store_row (by rfl) 26 _ _ (by rfl) V2.heap.size #[.int .i64 0,.int .i64 0] (by rfl) (by rfl) 26 _ hG (by kernel_rfl) rfl (by simp [Value.oneCell']) ?_;refine cast_w18 e9 ?_;go_simp)
     first|refine bodyPost_ret ?_ rfl fin.out|refine bodyPost_end ?_ rfl fin.out
     simp [results,Tryz.results98,go_sem,w0_,w1_]
theorem unknown_calls(s:Sc)(gs:GoodS s)(b1:s.1.length≤1000000)(b3:s.2.2.1.length≤1000000)(f:Ft):UnC s f:=Fo.deep (unknown_step s gs b1 b3) f
def FlC(f:Ft):Prop:=∀(h:TH)(nv pv:Value)(w0 w:World),okT h f→f.len≤64→ndT h f≤1000000→Below w0.heap.size w0 w→RdY w0 h f nv pv→∀R:Ending→World→Prop,
Hid (∀W v (L:List Te),W.ownsRow w.heap.size 36 9 v L.length (flatG encY L)→(∀t∈L,RdY w0 t.1.1 t.1.2 t.2.1 t.2.2)→L.map (·.1)=flatT h f→Below w.heap.size w W→R (.returned v) W)→Calls Tryz.prog 53 #[tyV h nv pv] w R
theorem encY_cells{w:World}:∀(L:List Te),(∀t∈L,RdY w t.1.1 t.1.2 t.2.1 t.2.2)→∀u∈flatG encY L,u.oneCell'=true
| [],_,u,h=>by cases h
| t::L,hL,u,h=>by
 have h':u∈encY t++flatG encY L:=h;rcases List.mem_append.1 h' with h|h
 ·have ht:=hL t List.mem_cons_self
  obtain⟨N1,N3,e1,-,-⟩:=ht.n.op;obtain⟨M1,M3,e2,-⟩:=ht.p.sl;unfold encY tyL at h;rw [e1,e2]at h;simp only[List.mem_cons,List.not_mem_nil,or_false]at h;rcases h with rfl|rfl|rfl|rfl|rfl|rfl|rfl|rfl|rfl<;>rfl
 ·exact encY_cells L (fun t ht=>hL t (List.mem_cons_of_mem _ ht)) u h
theorem flatG_app(L M:List Te):flatG encY (L++M)=flatG encY L++flatG encY M:=by
 induction L with
 | nil=>rfl
 | cons t L ih =>
  show encY t++flatG encY (L++M)=(encY t++flatG encY L)++flatG encY M;rw [ih,List.append_assoc]
theorem flat_step(f:Ft)(ih:Fo.AllK FlC f):FlC f:=by
 intro h nv pv w0 w ok hfl hnd hbw hy R hR;obtain⟨ti,hTI,hZ⟩:=ty18_info;simp only[Prod.mk.injEq]at hZ;obtain⟨hz0,hz1,hz2⟩:=hZ;have hy0:=hy;obtain⟨An,cn,rfl,-,-⟩:=hy.n.op;obtain⟨Ap,cp,rfl,-⟩:=hy.p.sl;have n:=F0.z w;obtain⟨V,e1,n,z1⟩:=n.new (.cells (tyL h (.slice An h.names.length cn) (.slice Ap f.len cp)).toArray 36);have bV:=F0.bel n;have lB:=n.lt 0 rfl;have c6:=n.c 0 6 rfl rfl;replace ok:=Lib.hid ok;replace ih:=Lib.hid ih;replace hy0:=Lib.hid hy0;clear z1;have t0:=n.c 0 0 rfl rfl;go_enter Tryz.func53,Tryz.ntmps53
 go_upto_region 1 with fail
 clear e1
 by_cases k9:h.kind=9
 ·have tk:(h.kind==9)=true:=by simpa using k9
  have fin:=Lib.hid (hR.out V (.slice none 0 0) [] (World.ownsRow_nil _ _ _ _) (by simp) (by simp [flatT,k9]) bV);clear hR;go_wp2_with fail
  exact fin.out
 ·have tk:(h.kind==9)=false:=by simpa using k9
  have eT:flatT h f=(h,f)::flatF f:=if_neg k9;have rF:=n.rg 0 rfl;have hlen:=flatT_len h f;rw [eT]at hR hlen;clear eT;go_wp2_with (refine wpList_load_g (by rfl) 36 _ rfl w.heap.size 0 rfl _ _ rF Tryz.underlying36 rfl (by kernel_rfl) ?_;go_simp)
  clear rF;go_loopg [3,4] f.len (fun g0 ev i wr=>∃(K:Nat) (v':Value) (L:List Te),v'=ev∧i=.int .i64 K∧K+g0=f.len∧Hid (Below V.heap.size V wr)∧Hid (wr.ownsRow V.heap.size 36 9 v' L.length (flatG encY L))∧Hid (∀t∈L,RdY w0 t.1.1 t.1.2 t.2.1 t.2.2)∧Hid (L.map (·.1)++flatF (f.drop K)=(h,f)::flatF f))
  case atStart =>
   exact⟨0,_,[((h,f),.slice An h.names.length cn,.slice Ap f.len cp)],rfl,rfl,by omega,Lib.hid ((Below.refl _ _).alloc (Nat.le_refl _) _),Lib.hid (own_lit rfl),Lib.hid (fun t ht=>by obtain rfl:=List.mem_singleton.1 ht;exact hy0.out),Lib.hid rfl⟩
  case round =>
   obtain⟨K,v',L,rfl,rfl,e1,m,own,hL,eL⟩:=hrel;replace m:=m.out;have t6:=(m.cell (p:=⟨w.heap.size,6,none⟩) lB).trans c6;have bwr:Below w0.heap.size w0 wr:=hbw.trans ((bV.trans (m.mono bV.size)).mono hbw.size);clear n t0
   by_cases hK:K<f.len
   ·obtain⟨p,x,kd,r,e⟩:=Fo.drop_lt hK
    obtain⟨g,o,B1,n1,B2,n2,A5,n5,A7,n7,rfl,hlv,hcv,hyx,hrg⟩:=part_el hy e;have okk:=Lib.hid fun hb=>ok_drop K ok.out.2 e hb
    have ihk:=Lib.hid ((ih.out).at_ e);have d1:=Fo.drop_succ K e;replace eL:=eL.out;rw [e,flatF_cons,←d1]at eL;have i0:(0:Int)≤(K:Int):=by omega
    have i1:(K:Int)<(f.len:Int):=by omega
    have rg:=hrg wr bwr
    have r9:wr.rangeAt g (o+K*18+9) (tyL x (.slice A5 x.names.length n5) (.slice A7 kd.len n7)):=fun j u hj=>by
     have:=rg (9+j) u (by
      have e:∀(a b c d e f g h i:Value) (l:List Value),(a::b::c::d::e::f::g::h::i::l)[9+j]?=l[j]?:=fun a b c d e f g h i l=>by rw [Nat.add_comm];rfl
      exact(e _ _ _ _ _ _ _ _ _ _).trans hj)
     rwa [←Nat.add_assoc]at this
    have rb:=rg 2 (.bool p.bare) rfl;clear hrg e d1 hlv hcv rg;have hll:=congrArg List.length eL;rw [List.length_append,List.length_append,List.length_map]at hll;cases hpb:p.bare with
    | true =>
     rw [if_pos hpb,List.nil_append]at eL;rw [hpb]at rb;replace eL:=Lib.hid eL;replace m:=Lib.hid m;clear hll r9;go_wp2_with fail
     go_roundg (gk-1)
     case measure=>omega
     case rel=>exact⟨K+1,_,L,rfl,by go_num,by omega,m,own,hL,eL⟩
    | false =>
     rw [if_neg (by rw [hpb];decide)]at eL hll
     rw [hpb]at rb;have hx64:=Lib.hid ((ok_len (okk.out hpb)).1);rw [flatT_len]at hll;rw [hlen]at hll;have bnd:L.length+ndT x kd≤1000000:=by omega
     have cU:=Lib.hid fun R hR=>ihk.out x _ _ w0 wr (okk.out hpb) hx64.out (by omega) bwr hyx R hR
     replace eL:=Lib.hid eL;clear hll;go_wp2_with (refine wpList_load_g (by rfl) 36 _ rfl g (o+K*18+9) rfl _ _ r9 Tryz.underlying36 rfl (by kernel_rfl) ?_;go_simp)
     refine cU.out _ (Lib.hid fun W8 vx L2 ox hL2 eL2 m8=>?_);clear cU r9 rb t6
     have len2:L2.length=ndT x kd:=by
      have:=congrArg List.length eL2;rwa [List.length_map,flatT_len]at this
     have own8:=Lib.hid (own_below own.out m8);have sz8:V.heap.size≤W8.heap.size:=Nat.le_trans m.size m8.size;have enc2:=Lib.hid (encY_cells L2 hL2);have ox':=Lib.hid ox;have h6:=Lib.hid (show L.length+L2.length≤maxLen by unfold maxLen;omega)
     have h7:=Lib.hid (show(L.length+L2.length)*112≤140737488355328 by omega);go_wp2_with (at_builtin;go_loud (refine appRow W8 9 36 rfl _ _ 106 rfl V.heap.size ti _ 112 Tryz.underlying106 hTI hz0 hz1 hz2 rfl (by decide) _ L.length (flatG encY L) rfl own8.out vx L2.length (flatG encY L2) rfl wr.heap.size ox'.out enc2.out h6.out h7.out sz8 ?_);rintro v2 w6 hown6 hbw6)
     have own6:=Lib.hid (show w6.ownsRow V.heap.size 36 9 v2 (L++L2).length (flatG encY (L++L2))from by
      rw [flatG_app,List.length_append];exact hown6)
     have m6:=Lib.hid (show Below V.heap.size V w6 from(m.trans (m8.mono m.size)).trans hbw6);have hL6:=Lib.hid (show ∀t∈L++L2,RdY w0 t.1.1 t.1.2 t.2.1 t.2.2 from fun t ht=>(List.mem_append.1 ht).elim (hL.out t) (hL2 t))
     have eL6:=Lib.hid (show(L++L2).map (·.1)++flatF (f.drop (K+1))=(h,f)::flatF f from by
      rw [List.map_append,eL2,List.append_assoc];exact eL.out)
     clear own8 hown6 hbw6 ox ox' enc2 m8 hL2 eL2 own hL eL;go_wp2_with fail
     go_roundg (gk-1)
     case measure=>omega
     case rel=>exact⟨K+1,_,L++L2,rfl,by go_num,by omega,m6,own6,hL6,eL6⟩
   ·obtain rfl:K=f.len:=by omega
    replace eL:=eL.out;rw [Fo.drop_all (Nat.le_refl _)]at eL;replace eL:L.map (·.1)++[]=(h,f)::flatF f:=eL;rw [List.append_nil]at eL;have fin:=Lib.hid (hR.out wr _ L (own_mono own.out bV.size) hL.out eL (bV.trans (m.mono bV.size)));clear hR;go_wp2_with fail
    exact fin.out
theorem flat_calls(f:Ft):FlC f:=Fo.deep flat_step f
theorem endS_lt(s:Sc)(hf:AllFound s):∀(m i:Nat),i<s.2.2.1.length→endS s m i<(s.2.2.1.length:Int)
| 0,i,hi=>by unfold endS;split<;>omega
| m+1,i,hi=>by
 unfold endS
 split
 ·omega
 ·rename_i h
  have hfi:=hf i hi (by simpa using h);have flt:=find_lt (tnm s) (nN s.2.2.1 i).2.1.name;rw [tnm_len]at flt;exact endS_lt s hf m _ (by omega)
theorem own_slc{w:World}{B:Nat}{e:TypeId}{k n:Nat}{v:Value}{xs:List Value}(h:w.ownsRow B e k v n xs):∃A c,v=.slice A n c:=by
 obtain⟨hl,⟨rfl,rfl⟩|⟨g,cap,cur,rfl,hb,hg,hnc,hm,hc,ht⟩⟩:=h
 ·exact⟨none,0,rfl⟩
 ·exact⟨_,_,rfl⟩
def staS(s:Sc)(x:ByteArray):Int:=(sumT (s.2.2.1.take (endS s 99 (findS (tnm s) x).toNat).toNat):Nat)
theorem refstart18_calls(s:Sc)(gs:GoodS s)(hf:AllFound s)(b3:s.2.2.1.length≤1000000)(hok:∀y∈s.2.2.1,okT y.2.1 y.2.2)(hsm:sumT s.2.2.1≤1000000)(x:ByteArray)(hx:0≤findS (tnm s) x)(lv ov tv nv pv:Value)(w:World)(rd:RdSc w s lv ov tv nv pv)(R:Ending→World→Prop)
  (hR:Hid (∀W,Below w.heap.size w W→R (.returned (.int .i64 (staS s x))) W)):Calls Tryz.prog 55 #[scV s lv ov tv nv pv,.string x] w R:=by
 have rd0:=rd;obtain⟨A1,c1,rfl,-,-⟩:=rd.l.op;obtain⟨A2,c2,rfl,-,-⟩:=Unp.RdPr.op rd.o;obtain⟨A3,c3,rfl,-,hel⟩:=nds_el rd.t;obtain⟨N1,N3,rfl,-,-⟩:=rd.r.n.op;obtain⟨M1,M3,rfl,-⟩:=rd.r.p.sl;have n:=F0.z w;obtain⟨V,e1,n,z1⟩:=n.new (.cells [.slice A1 s.1.length c1,.slice A2 s.2.1.length c2,.slice A3 s.2.2.1.length c3,.int .i64 s.2.2.2.1.kind,.int .i64 s.2.2.2.1.at_,.int .i64 s.2.2.2.1.lo,.int .i64 s.2.2.2.1.hi,.int .i64 s.2.2.2.1.most,.slice N1 s.2.2.2.1.names.length N3,.slice M1 s.2.2.2.2.len M3,.string s.2.2.2.1.name,.int .i64 s.2.2.2.1.nat].toArray 38);have bV:=F0.bel n;replace hel:=Lib.hid hel;replace rd0:=Lib.hid rd0;clear z1 rd;have lb:=n.lt 0 rfl;have c2_:=n.c 0 2 rfl rfl;obtain⟨J,hJ⟩:∃J:Nat,findS (tnm s) x=(J:Int):=⟨(findS (tnm s) x).toNat,by omega⟩;have flt:=find_lt (tnm s) x;rw [tnm_len,hJ]at flt
 have rS:∀W,(∃q:BW V,W=q.w)→W.rangeAt w.heap.size 0 [.slice A1 s.1.length c1,.slice A2 s.2.1.length c2,.slice A3 s.2.2.1.length c3,.int .i64 s.2.2.2.1.kind,.int .i64 s.2.2.2.1.at_,.int .i64 s.2.2.2.1.lo,.int .i64 s.2.2.2.1.hi,.int .i64 s.2.2.2.1.most,.slice N1 s.2.2.2.1.names.length N3,.slice M1 s.2.2.2.2.len M3,.string s.2.2.2.1.name,.int .i64 s.2.2.2.1.nat]:=fun W hW=>by
  obtain⟨q,rfl⟩:=hW;exact(n.bl q.b).rg 0 rfl
 have cF:=Lib.hid fun(q:BW V) R hR=>reffind18_calls s gs x _ _ _ _ _ q.w (rd0.out.below (bV.trans (q.b.mono bV.size))) b3 R hR
 rw [hJ]at cF;have cE:=Lib.hid fun(q:BW V) R hR=>refend18_calls s gs hf b3 99 J _ _ _ _ _ q.w (by omega) (by omega) (rd0.out.below (bV.trans (q.b.mono bV.size))) R hR
 have eS:staS s x=(sumT (s.2.2.1.take (endS s 99 J).toNat):Nat):=by unfold staS;rw [hJ,Int.toNat_natCast]
 have kle:=endS_lt s hf 99 J (by omega);rw [eS]at hR;generalize endS s 99 J=kZ at *;clear hf gs hx flt eS n;go_enter Tryz.func55,Tryz.ntmps55
 go_upto_region 1 with fail
 clear e1;have nW:Below V.heap.size V (V.drewN 1):=below_drewN (Below.refl _ _) 1;refine wp_region_mix [([0,1,2],3),([],4)] [5] (by kernel_rfl) (by kernel_rfl) (by kernel_rfl) (by kernel_rfl) (fun _ _ d _ _ h=>by cases d<;>exact h) ?_
 refine mix_cons (os:=[_,_,_]) (by simp only[pickO,List.filterMap_cons,List.filterMap_nil,List.getElem?_toArray,List.getElem?_cons_succ,List.getElem?_cons_zero];rfl) (fun Kp hKp=>?_)
 refine wpQuiet_load rfl 38 _ rfl w.heap.size 0 rfl _ _ rS Tryz.underlying38 rfl (by kernel_rfl) ?_
 try go_simp
 refine wpQuiet_load rfl 38 _ rfl w.heap.size 0 rfl _ _ rS Tryz.underlying38 rfl (by kernel_rfl) ?_
 try go_simp
 repeat (go_big_quiet_step (exact rfl))
 refine wpQuiet_nil ?_;refine hKp _ ?_;clear hKp;refine loud (by rfl) (by kernel_rfl) (fun K1 hK1=>?_);go_simp;refine cF.out ⟨V.drewN 1,nW⟩ _ (Lib.hid fun W2 m2=>?_);have nW2:=nW.trans (m2.mono nW.size);refine hK1 _ _ ⟨⟨W2,nW2⟩,rfl⟩ ?_;clear hK1;refine mix_cons (os:=[]) (by rfl) (fun Kp hKp=>?_);refine wpQuiet_nil ?_;refine hKp _ ?_;clear hKp;refine loud (by rfl) (by kernel_rfl) (fun K2 hK2=>?_);go_simp;refine cE.out ⟨W2,nW2⟩ _ (Lib.hid fun W3 m3=>?_);have nW3:=nW2.trans (m3.mono nW2.size);refine hK2 _ _ ⟨⟨W3,nW3⟩,rfl⟩ ?_;clear hK2;refine mix_nil (os:=[_]) (by simp only[pickO,List.filterMap_cons,List.filterMap_nil,List.getElem?_toArray,List.getElem?_cons_succ,List.getElem?_cons_zero];rfl) (fun Kp hKp=>?_)
 repeat (go_big_quiet_step (exact rfl))
 refine wpQuiet_nil ?_;refine hKp _ ?_;clear hKp cF cE rS m2 m3;go_wp2_with fail
 go_loopg [6,7] kZ.toNat (fun g0 a i wr=>∃K:Nat,a=.int .i64 ((sumT (s.2.2.1.take K):Nat):Int)∧i=.int .i64 K∧K+g0=kZ.toNat∧Hid (Below V.heap.size V wr))
 case atStart=>exact⟨0,rfl,rfl,by omega,Lib.hid nW3⟩
 case round =>
  obtain⟨K,rfl,rfl,e1,m⟩:=hrel;replace m:=m.out;have bwr:=bV.trans (m.mono bV.size)
  by_cases hK:(K:Int)<kZ
  ·have hKl:K<s.2.2.1.length:=by omega
   obtain⟨g,o,N1',N3',M1',M3',rfl,hxy,hrg⟩:=hel.out K hKl;have rg0:=hrg wr bwr
   have rg:wr.rangeAt g (o+K*11+2) (tyL (nN s.2.2.1 K).2.1 (.slice N1' (nN s.2.2.1 K).2.1.names.length N3') (.slice M1' (nN s.2.2.1 K).2.2.len M3')):=fun j u hj=>by
    rw [Nat.add_assoc]
    exact rg0 (2+j) u (by
     have e:∀(a b:Value) (l:List Value),(a::b::l)[2+j]?=l[j]?:=fun a b l=>by rw [Nat.add_comm];rfl
     rw [e];exact hj)
   have hg:=nN_get hKl;have oky:=hok s.2.2.1[K] (List.getElem_mem hKl);have tk:=sumT_take s.2.2.1 K hKl
   have tk1:sumT (s.2.2.1.take (K+1))=sumT (s.2.2.1.take K)+ndT s.2.2.1[K].2.1 s.2.2.1[K].2.2:=by
    rw [List.take_succ_eq_append_getElem hKl];unfold sumT;rw [List.map_append,List.sum_append];simp
   rw [←hg]at oky tk tk1;have x2:=(m.cell (p:=⟨w.heap.size,2,none⟩) lb).trans c2_;have i0:(0:Int)≤(K:Int):=by omega
   have i1:(K:Int)<(s.2.2.1.length:Int):=by omega
   clear rg0 hrg hg;generalize nN s.2.2.1 K=y at *;obtain⟨⟨yn,ya⟩,yh,yf⟩:=y;simp only at hxy rg oky tk tk1;have cU:=Lib.hid fun R hR=>flat_calls yf yh _ _ w wr oky (ok_len oky).1 (by omega) bwr hxy R hR
   have hs1:(sumT (s.2.2.1.take (K+1)):Int)=(sumT (s.2.2.1.take K):Int)+(ndT yh yf:Int):=by omega
   have hs2:(sumT (s.2.2.1.take K):Int)+(ndT yh yf:Int)≤1000000:=by omega
   clear hxy oky tk tk1;go_wp2_with (refine wpList_load_g (by rfl) 36 _ rfl g (o+K*11+2) rfl _ _ rg Tryz.underlying36 rfl (by kernel_rfl) ?_;go_simp)
   refine cU.out _ (Lib.hid fun W8 vx L2 ox hL2 eL2 m8=>?_);clear cU rg x2 hL2
   have len2:L2.length=ndT yh yf:=by
    have:=congrArg List.length eL2;rwa [List.length_map,flatT_len]at this
   obtain⟨Ax,cx,rfl⟩:=own_slc ox;rw [len2];have m9:=Lib.hid (m.trans (m8.mono m.size));clear ox eL2 m8;go_wp2_with fail
   go_roundg (gk-1)
   case measure=>omega
   case rel=>exact⟨K+1,by rw [hs1],by go_num,by omega,m9⟩
  ·have eK:K=kZ.toNat:=by omega
   subst eK;have fin:=Lib.hid (hR.out wr bwr);clear hR;go_wp2_with fail
   exact fin.out
end Go.Proofs.YtabhkakomececaaGreat.Res
