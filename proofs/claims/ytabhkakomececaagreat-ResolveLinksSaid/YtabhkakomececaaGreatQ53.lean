import Derived.Test.YtabhkakomececaaGreatQX
import Derived.Test.YtabhkakomececaaGreatQ52
set_option linter.all false
set_option maxRecDepth 100000
set_option maxHeartbeats 4000000
namespace Go.Proofs.YtabhkakomececaaGreat.Res
open Go.RowKit Go.Lib Utf Nam Lat Kin Unp Rel Lab
def e0(e:EdR):EdR:={ e with at_:=0,cat:=0 }
def n0(y:NdR):NdR:={ y with at_:=0,edges:=y.edges.map e0 }
theorem wN_strip(ws:List Wr)(i:Nat):wN (stripW ws) i=((wN ws i).1,0):=by
 unfold wN stripW;rw [List.getD_eq_getElem?_getD,List.getElem?_map,List.getD_eq_getElem?_getD];cases ws[i]? <;> rfl
theorem pN_strip(ps:List Lat.Pr)(i:Nat):Lat.pN (ps.map stP) i=stP (Lat.pN ps i):=by
 unfold Lat.pN;rw [List.getD_eq_getElem?_getD,List.getElem?_map,List.getD_eq_getElem?_getD];cases ps[i]? <;> rfl
theorem nN_strip(l:List Nd)(i:Nat):nN (l.map stN) i=stN (nN l i):=by
 unfold nN;rw [List.getD_eq_getElem?_getD,List.getElem?_map,List.getD_eq_getElem?_getD];cases l[i]? <;> rfl
theorem leqF_strip(ws:List Wr)(ps:List Lat.Pr):leqF (stripW ws) (ps.map stP)=leqF ws ps:=by
 unfold leqF idxQ;rw [nms_strip,stripW_len,List.map_map];rfl
theorem fir_fst{f g:Nat→Option (Int×Int)}(h:∀i,(f i).map (·.1)=(g i).map (·.1)):∀k i,(firF f k i).map (·.1)=(firF g k i).map (·.1)
| 0,_=>rfl
| k+1,i=>by
 have hi:=h i;unfold firF;cases e:f i with
 | some x =>
  cases e2:g i with
  | some y=>rw [e,e2]at hi;exact hi
  | none=>rw [e,e2]at hi;cases hi
 | none =>
  cases e2:g i with
  | some y=>rw [e,e2]at hi;cases hi
  | none=>exact fir_fst h k (i+1)
theorem lv_strip(ws:List Wr)(i:Nat):(lvAt (stripW ws) i).map (·.1)=(lvAt ws i).map (·.1):=by
 unfold lvAt;rw [wN_strip,nms_strip];simp only
 split
 ·rfl
 ·split<;>rfl
theorem wrong_strip(ws:List Wr)(ps:List Lat.Pr):(wrongS (stripW ws) (ps.map stP)).1=(wrongS ws ps).1:=by
 have h1:=fir_fst (lv_strip ws) ws.length 0
 have h2:=fir_fst (f:=prAt (stripW ws) (ps.map stP)) (g:=prAt ws ps) (fun i=>by
  unfold prAt;rw [pN_strip,nms_strip];show Option.map (·.1) (if findS (nms ws) (Lat.pN ps i).1.1<0 then some ((17:Int),(0:Int))else if findS (nms ws) (Lat.pN ps i).2.1<0 then some (17,0)else none)=_
  by_cases c1:findS (nms ws) (Lat.pN ps i).1.1<0
  ·rw [if_pos c1,if_pos c1]
   rfl
  ·rw [if_neg c1,if_neg c1]
   by_cases c2:findS (nms ws) (Lat.pN ps i).2.1<0
   ·rw [if_pos c2,if_pos c2]
    rfl
   ·rw [if_neg c2,if_neg c2]) ps.length 0
 have h3:=fir_fst (f:=bnAt (stripW ws) (leqF ws ps)) (g:=bnAt ws (leqF ws ps)) (fun i=>by
  unfold bnAt;rw [stripW_len]
  split<;>rfl) ws.length 0
 unfold wrongS;rw [stripW_len,List.length_map,leqF_strip];generalize firF (lvAt (stripW ws)) ws.length 0=a1 at *;generalize firF (lvAt ws) ws.length 0=b1 at *;generalize firF (prAt (stripW ws) (ps.map stP)) ps.length 0=a2 at *;generalize firF (prAt ws ps) ps.length 0=b2 at *;generalize firF (bnAt (stripW ws) (leqF ws ps)) ws.length 0=a3 at *;generalize firF (bnAt ws (leqF ws ps)) ws.length 0=b3 at *
 split
 ·rfl
 ·split
  ·rfl
  ·split
   ·rfl
   ·cases a1 with
    | some x=>cases b1 with
     | some y=>simpa using h1
     | none=>cases h1
    | none=>cases b1 with
     | some y=>cases h1
     | none=>cases a2 with
      | some x=>cases b2 with
       | some y=>simpa using h2
       | none=>cases h2
      | none=>cases b2 with
       | some y=>cases h2
       | none =>
        simp only
        split
        ·rfl
        ·cases a3 with
         | some x=>cases b3 with
          | some y=>simpa using h3
          | none=>cases h3
         | none=>cases b3 with
          | some y=>cases h3
          | none=>rfl
theorem tw_strip(l:List Nd):tw (l.map stN)=stripW (tw l):=by
 unfold tw stripW;rw [List.map_map,List.map_map];rfl
theorem nmC_strip(l:List Nd):(nmC (l.map stN)).1=(nmC l).1:=by
 unfold nmC chkS;rw [List.length_map,tw_strip,stripW_len]
 split
 ·rfl
 ·have h:=fir_fst (lv_strip (tw l)) (tw l).length 0
  generalize firF (lvAt (stripW (tw l))) (tw l).length 0=a at *;generalize firF (lvAt (tw l)) (tw l).length 0=b at *;cases a with
  | some x=>cases b with
   | some y=>simpa using h
   | none=>cases h
  | none=>cases b with
   | some y=>cases h
   | none=>rfl
theorem lof_strip(nm:List ByteArray)(F:Nat→Nat→Bool)(qs:List Wr):(lof nm F (stripW qs)).1=(lof nm F qs).1∧(lof nm F (stripW qs)).2.1=(lof nm F qs).2.1:=by
 have h:=fir_fst (f:=ofAt nm (stripW qs)) (g:=ofAt nm qs) (fun i=>by
  unfold ofAt;rw [wN_strip];simp only
  split<;>rfl) qs.length 0
 have hf:fndL nm (stripW qs)=fndL nm qs:=by
  unfold fndL stripW;rw [List.map_map];rfl
 unfold lof;rw [stripW_len,hf];generalize firF (ofAt nm (stripW qs)) qs.length 0=a at *;generalize firF (ofAt nm qs) qs.length 0=b at *;cases a with
 | some x=>cases b with
  | some y=>exact⟨rfl,by simpa using h⟩
  | none=>cases h
 | none=>cases b with
  | some y=>cases h
  | none=>exact⟨rfl,rfl⟩
theorem kinds_strip(s:BS)(h:TH)(f:Ft):(kindsS s (stripH h) (stripF f)).1.1=(kindsS s h f).1.1∧(kindsS s (stripH h) (stripF f)).2=(kindsS s h f).2:=by
 unfold kindsS;rw [wcS_strip,cW_strip]
 split
 ·exact⟨rfl,rfl⟩
 ·split
  ·exact⟨rfl,rfl⟩
  ·exact⟨rfl,rfl⟩
theorem each_strip{op:BS→TH→Ft→(Int×Int)×BS}{op':BS→TH→Ft→(Int×Int)×BS}(h:∀s a b,(op' s (stripH a) (stripF b)).1.1=(op s a b).1.1∧(op' s (stripH a) (stripF b)).2=(op s a b).2):∀(l:List Nd)(s:BS)(a:TH)(b:Ft),
 (eachS op' s (l.map stN) (stripH a) (stripF b)).1.1=(eachS op s l a b).1.1∧(eachS op' s (l.map stN) (stripH a) (stripF b)).2=(eachS op s l a b).2
| [],s,a,b=>h s a b
| x::l,s,a,b=>by
 have hx:=h s x.2.1 x.2.2;show(if(op' s (stripH x.2.1) (stripF x.2.2)).1.1≠0 then op' s (stripH x.2.1) (stripF x.2.2)else eachS op' (op' s (stripH x.2.1) (stripF x.2.2)).2 (l.map stN) (stripH a) (stripF b)).1.1=(if(op s x.2.1 x.2.2).1.1≠0 then op s x.2.1 x.2.2 else eachS op (op s x.2.1 x.2.2).2 l a b).1.1∧(if(op' s (stripH x.2.1) (stripF x.2.2)).1.1≠0 then op' s (stripH x.2.1) (stripF x.2.2)else eachS op' (op' s (stripH x.2.1) (stripF x.2.2)).2 (l.map stN) (stripH a) (stripF b)).2=(if(op s x.2.1 x.2.2).1.1≠0 then op s x.2.1 x.2.2 else eachS op (op s x.2.1 x.2.2).2 l a b).2;rw [hx.1,hx.2]
 split
 ·exact hx
 ·exact each_strip h l _ a b
theorem wordsF_strip(nm:List ByteArray)(F:Nat→Nat→Bool):∀f:Ft,(wordsF nm F (stripF f)).1=(wordsF nm F f).1
| .nil=>rfl
| .cons p h k r=>by
 show(if(lof nm F (stripW p.label)).2.1≠0 then(lof nm F (stripW p.label)).2 else if(lof nm F (stripW p.cl)).2.1≠0 then(lof nm F (stripW p.cl)).2 else wordsF nm F (stripF r)).1=(if(lof nm F p.label).2.1≠0 then(lof nm F p.label).2 else if(lof nm F p.cl).2.1≠0 then(lof nm F p.cl).2 else wordsF nm F r).1;rw [(lof_strip nm F p.label).2,(lof_strip nm F p.cl).2]
 split
 ·exact(lof_strip nm F p.label).2
 ·split
  ·exact(lof_strip nm F p.cl).2
  ·exact wordsF_strip nm F r
theorem words_strip(nm:List ByteArray)(F:Nat→Nat→Bool)(ns:List ByteArray)(s:BS)(h:TH)(f:Ft):(wordsS nm F ns s (stripH h) (stripF f)).1.1=(wordsS nm F ns s h f).1.1:=by
 show(if h.kind=9∧(finS ns h.name).2=false then((15:Int),(0:Int))else wordsF nm F (stripF f)).1=(if h.kind=9∧(finS ns h.name).2=false then(15,h.nat)else wordsF nm F f).1
 split
 ·rfl
 ·exact wordsF_strip nm F f
theorem inF_strip(nm:List ByteArray)(F:Nat→Nat→Bool)(ns:List ByteArray):∀(f:Ft)(s:BS),(inF (wordsS nm F ns) s (stripF f)).1.1=(inF (wordsS nm F ns) s f).1.1
| .nil,s=>rfl
| .cons p h k r,s=>by
 have w2:∀(s:BS) (h:TH) (k:Ft),(wordsS nm F ns s h k).2=s:=fun _ _ _=>rfl
 have f2:∀(f:Ft) (s:BS),(inF (wordsS nm F ns) s f).2=s:=fun f s=>(inF_words f s s).2
 show(if p.bare=true then inF (wordsS nm F ns) s (stripF r)else if(wordsS nm F ns s (stripH h) (stripF k)).1.1≠0 then wordsS nm F ns s (stripH h) (stripF k)else if(inF (wordsS nm F ns) (wordsS nm F ns s (stripH h) (stripF k)).2 (stripF k)).1.1≠0 then inF (wordsS nm F ns) (wordsS nm F ns s (stripH h) (stripF k)).2 (stripF k)else inF (wordsS nm F ns) (inF (wordsS nm F ns) (wordsS nm F ns s (stripH h) (stripF k)).2 (stripF k)).2 (stripF r)).1.1 =
  (if p.bare=true then inF (wordsS nm F ns) s r else if(wordsS nm F ns s h k).1.1≠0 then wordsS nm F ns s h k else if(inF (wordsS nm F ns) (wordsS nm F ns s h k).2 k).1.1≠0 then inF (wordsS nm F ns) (wordsS nm F ns s h k).2 k else inF (wordsS nm F ns) (inF (wordsS nm F ns) (wordsS nm F ns s h k).2 k).2 r).1.1
 simp only[w2,f2];rw [words_strip,inF_strip nm F ns k s]
 split
 ·exact inF_strip nm F ns r s
 ·split
  ·exact words_strip nm F ns s h k
  ·split
   ·exact inF_strip nm F ns k s
   ·exact inF_strip nm F ns r s
theorem inT_strip(nm:List ByteArray)(F:Nat→Nat→Bool)(ns:List ByteArray)(s:BS)(h:TH)(f:Ft):(inT (wordsS nm F ns) s (stripH h) (stripF f)).1.1=(inT (wordsS nm F ns) s h f).1.1∧(inT (wordsS nm F ns) s (stripH h) (stripF f)).2=(inT (wordsS nm F ns) s h f).2:=by
 have w2:∀(s:BS) (h:TH) (k:Ft),(wordsS nm F ns s h k).2=s:=fun _ _ _=>rfl
 have f2:∀(f:Ft) (s:BS),(inF (wordsS nm F ns) s f).2=s:=fun f s=>(inF_words f s s).2
 unfold inT;rw [words_strip];simp only[w2]
 split
 ·exact⟨words_strip nm F ns s h f,by rw [w2,w2]⟩
 ·exact⟨inF_strip nm F ns f s,by rw [f2,f2]⟩
theorem tgt_strip(tys:List Nd):∀(n:Nat)(x:ByteArray),tgtS (tys.map stN) n x=tgtS tys n x
| 0,_=>rfl
| n+1,x=>by
 unfold tgtS;rw [tw_strip,nms_strip];simp only[nN_strip];rw [show ∀z:Nd,(stN z).2.1.kind=z.2.1.kind from fun _=>rfl,show ∀z:Nd,(stN z).2.1.name=z.2.1.name from fun _=>rfl,tgt_strip tys n]
theorem loops_strip(tys:List Nd):∀l:List Nd,(loopsS (tys.map stN) (l.map stN)).1=(loopsS tys l).1
| []=>rfl
| x::l=>by
 show(if(tgtS (tys.map stN) (tys.map stN).length x.1.1).2=false then((11:Int),(0:Int))else loopsS (tys.map stN) (l.map stN)).1=(if(tgtS tys tys.length x.1.1).2=false then(11,x.1.2)else loopsS tys l).1;rw [tgt_strip,List.length_map]
 split
 ·rfl
 ·exact loops_strip tys l
theorem bld_strip(s:Sc):(bldS (stS s)).1=(bldS s).1:=by
 have h1:=wrong_strip s.1 s.2.1;have h2:=nmC_strip s.2.2.1
 have h3:(chkB (nms (stripW s.1)) (leqF (stripW s.1) (s.2.1.map stP)) (s.2.2.1.map stN) bs0 (stripH s.2.2.2.1) (stripF s.2.2.2.2)).1.1=(chkB (nms s.1) (leqF s.1 s.2.1) s.2.2.1 bs0 s.2.2.2.1 s.2.2.2.2).1.1:=by
  have k:=each_strip kinds_strip s.2.2.1 bs0 s.2.2.2.1 s.2.2.2.2;unfold chkB;rw [nms_strip,leqF_strip,tw_strip,nms_strip,k.1,k.2];have q:=each_strip (inT_strip (nms s.1) (leqF s.1 s.2.1) (nms (tw s.2.2.1))) s.2.2.1 (eachS kindsS bs0 s.2.2.1 s.2.2.2.1 s.2.2.2.2).2 s.2.2.2.1 s.2.2.2.2;rw [q.1,q.2]
  split
  ·exact k.1
  ·split
   ·exact q.1
   ·exact loops_strip _ _
 unfold bldS;show(if(wrongS (stripW s.1) (s.2.1.map stP)).1≠0 then wrongS (stripW s.1) (s.2.1.map stP)else if(nmC (s.2.2.1.map stN)).1≠0 then nmC (s.2.2.1.map stN)else(chkB (nms (stripW s.1)) (leqF (stripW s.1) (s.2.1.map stP)) (s.2.2.1.map stN) bs0 (stripH s.2.2.2.1) (stripF s.2.2.2.2)).1).1=_;rw [h1,h2]
 split
 ·exact h1
 ·split
  ·exact h2
  ·exact h3
section
variable {nm:List ByteArray} {F:Nat→Nat→Bool} {tg:ByteArray→Int}
theorem edP_strip(p:PH)(d:Int):edP nm F (stripP p) d=e0 (edP nm F p d):=by
 show(⟨p.name,p.bare,0,d,(lof nm F (stripW p.label)).1,_,p.ck,p.cn,(lof nm F (stripW p.cl)).1,0⟩:EdR)=_;rw [(lof_strip nm F p.label).1,(lof_strip nm F p.cl).1];rfl
theorem ndP_strip(h:TH):ndP (stripH h)=n0 (ndP h):=by
 show(⟨h.kind,0,h.lo,h.hi,h.most,nms (stripW h.names),[]⟩:NdR)=_;rw [nms_strip];rfl
theorem addW_strip{h:TH}{k:Ft}(ih:∀l:List NdR,addF nm F tg (stripF k) (l.map n0)=((addF nm F tg k l).1.map e0,(addF nm F tg k l).2.map n0))(l:List NdR):addW tg (stripH h) (addF nm F tg (stripF k)) (l.map n0)=((addW tg h (addF nm F tg k) l).1,(addW tg h (addF nm F tg k) l).2.map n0):=by
 unfold addW;rw [show(stripH h).kind=h.kind from rfl,show(stripH h).name=h.name from rfl]
 split
 ·rfl
 ·have e:l.map n0++[ndP (stripH h)]=(l++[ndP h]).map n0:=by rw [ndP_strip,List.map_append];rfl
  rw [e,ih,List.length_map,List.map_set,ndP_strip];rfl
theorem addF_strip:∀(f:Ft)(l:List NdR),addF nm F tg (stripF f) (l.map n0)=((addF nm F tg f l).1.map e0,(addF nm F tg f l).2.map n0)
| .nil,l=>rfl
| .cons p h k r,l=>by
 show addF nm F tg (Fo.cons (stripP p) (stripH h) (stripF k) (stripF r)) (l.map n0)=_;rw [addF_cons,addF_cons]
 have hk:addK nm F tg (stripP p) (stripH h) (stripF k) (l.map n0)=(e0 (addK nm F tg p h k l).1,(addK nm F tg p h k l).2.map n0):=by
  unfold addK;rw [show(stripP p).bare=p.bare from rfl]
  split
  ·rw [edP_strip]
  ·rw [addW_strip (addF_strip k),edP_strip]
 rw [hk,addF_strip r];rfl
theorem addT_strip(h:TH)(f:Ft)(l:List NdR):addT nm F tg (stripH h) (stripF f) (l.map n0)=((addT nm F tg h f l).1,(addT nm F tg h f l).2.map n0):=addW_strip (addF_strip f) l
theorem addA_strip:∀(tys:List Nd)(l:List NdR),addA nm F tg (tys.map stN) (l.map n0)=((addA nm F tg tys l).1,(addA nm F tg tys l).2.map n0)
| [],l=>rfl
| x::r,l=>by
 show((addT nm F tg (stripH x.2.1) (stripF x.2.2) (l.map n0)).1::(addA nm F tg (r.map stN) (addT nm F tg (stripH x.2.1) (stripF x.2.2) (l.map n0)).2).1,(addA nm F tg (r.map stN) (addT nm F tg (stripH x.2.1) (stripF x.2.2) (l.map n0)).2).2)=_;rw [addT_strip,addA_strip r];rfl
theorem kntF_strip:∀(f:Ft)(c:Int),kntF c (stripF f)=kntF c f
| .nil,c=>rfl
| .cons p h k r,c=>by
 show(if p.bare=true then kntF c (stripF r)else kntF (kntF (tl1 c h) (stripF k)) (stripF r))=(if p.bare=true then kntF c r else kntF (kntF (tl1 c h) k) r);rw [kntF_strip r,kntF_strip k,kntF_strip r]
theorem cumL_strip:∀(tys:List Nd)(c:Int),cumL c (tys.map stN)=cumL c tys
| [],c=>rfl
| x::r,c=>by
 show c::cumL (kntF (tl1 c x.2.1) (stripF x.2.2)) (r.map stN)=c::cumL (kntF (tl1 c x.2.1) x.2.2) r;rw [kntF_strip,cumL_strip r]
end
theorem plan_strip(s:Sc):plS (stS s)=((plS s).1.map n0,(plS s).2.1,(plS s).2.2):=by
 have tg:tgI (s.2.2.1.map stN) (cumL 0 (s.2.2.1.map stN))=tgI s.2.2.1 (cumL 0 s.2.2.1):=by
  funext x
  unfold tgI;rw [cumL_strip,tgt_strip,List.length_map]
 show planN (nms (stripW s.1)) (leqF (stripW s.1) (s.2.1.map stP)) (s.2.2.1.map stN) 0 (stripH s.2.2.2.1) (stripF s.2.2.2.2)=_;unfold planN;rw [nms_strip,leqF_strip,tg];have ha:=addA_strip (nm:=nms s.1) (F:=leqF s.1 s.2.1) (tg:=tgI s.2.2.1 (cumL 0 s.2.2.1)) s.2.2.1 [];rw [List.map_nil]at ha;rw [ha];simp only;rw [addT_strip];rfl
end Go.Proofs.YtabhkakomececaaGreat.Res
